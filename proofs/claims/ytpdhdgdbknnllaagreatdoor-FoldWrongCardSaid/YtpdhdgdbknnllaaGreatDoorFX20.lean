/- The parts Fr of the proof, joined. It holds without conditions of its own. -/
import Derived.Test.YtpdhdgdbknnllaaGreatDoorFX19
import Derived.Test.YtpdhdgdbknnllaaGreatDoorFX16
import Derived.Laws.Bits64
import Derived.Laws.Bits64b
set_option maxRecDepth 100000
set_option maxHeartbeats 20000000
namespace Go.Proofs.YtpdhdgdbknnllaaGreatDoor
section
set_option linter.unusedSimpArgs false
set_option linter.unusedVariables false
open Go Go.RowKit Go.Sort Go.BigFrame
noncomputable def onesOk (s : Nat) : Bool := match evCall Tryz.prog 100000 0 103 [.lit (.int .u64 (s : Int))] h01 with
 | .ok (.lit (.int .i64 n), _) => n == (cntV 11 s.testBit : Int)
 | _ => false
theorem ones_0 : (List.range' 0 256).all onesOk = true := by kernel_rfl
theorem ones_1 : (List.range' 256 256).all onesOk = true := by kernel_rfl
theorem ones_2 : (List.range' 512 256).all onesOk = true := by kernel_rfl
theorem ones_3 : (List.range' 768 256).all onesOk = true := by kernel_rfl
theorem ones_4 : (List.range' 1024 256).all onesOk = true := by kernel_rfl
theorem ones_5 : (List.range' 1280 256).all onesOk = true := by kernel_rfl
theorem ones_6 : (List.range' 1536 256).all onesOk = true := by kernel_rfl
theorem ones_7 : (List.range' 1792 256).all onesOk = true := by kernel_rfl
theorem ones_all {s : Nat} (h : s < 2048) : onesOk s = true := by
 have a0 := List.all_eq_true.1 ones_0 s
 have a1 := List.all_eq_true.1 ones_1 s
 have a2 := List.all_eq_true.1 ones_2 s
 have a3 := List.all_eq_true.1 ones_3 s
 have a4 := List.all_eq_true.1 ones_4 s
 have a5 := List.all_eq_true.1 ones_5 s
 have a6 := List.all_eq_true.1 ones_6 s
 have a7 := List.all_eq_true.1 ones_7 s
 simp only [List.mem_range'_1] at a0 a1 a2 a3 a4 a5 a6 a7
 rcases (by omega : (0 <= s /\ s < 0 + 256) ∨ (256 <= s /\ s < 256 + 256) ∨ (512 <= s /\ s < 512 + 256) ∨ (768 <= s /\ s < 768 + 256) ∨ (1024 <= s /\ s < 1024 + 256) ∨ (1280 <= s /\ s < 1280 + 256) ∨ (1536 <= s /\ s < 1536 + 256) ∨ (1792 <= s /\ s < 1792 + 256)) with h | h | h | h | h | h | h | h
 · exact a0 h
 · exact a1 h
 · exact a2 h
 · exact a3 h
 · exact a4 h
 · exact a5 h
 · exact a6 h
 · exact a7 h
theorem ones_any (s : Nat) (hs : s < 2048) (W : World) : Calls Tryz.prog 103 #[.int .u64 (s : Int)] W fun e w' => e = .returned (.int .i64 (cntV 11 s.testBit : Int)) /\ Below W.heap.size W w' := by
 have h := ones_all hs
 unfold onesOk at h
 split at h
 · rename_i n h' he
   have := eval_lits (P := Tryz.prog) followsT (fid := 103) (ys := [.int .u64 (s : Int)]) (W := W) he
   refine this.mono ?_
   rintro en W' ⟨x, e', rfl, hx, -, hb, -⟩
   rw [VR_lit.1 hx, beq_iff_eq.1 h]
   exact ⟨rfl, hb⟩
 · cases h
theorem ahead_bits {s o : Nat} (hs : s < 2048) (ho : o < 2048) : (bits BinOp.and IntKind.u64 (bits BinOp.and IntKind.u64 (s : Int) (bits BinOp.xor IntKind.u64 (s : Int) (o : Int))) (IntKind.u64.wrap (-bits BinOp.xor IntKind.u64 (s : Int) (o : Int))) != 0) = !decide (s &&& lowN (s ^^^ o) = 0) := by
 have hd : s ^^^ o < 2 ^ 11 := Nat.xor_lt_two_pow (by omega) (by omega)
 rw [bits_xor_u64_nat s o (by omega) (by omega)]
 obtain ⟨d, hdd⟩ : ∃ d, d = s ^^^ o := ⟨_, rfl⟩
 rw [<- hdd] at hd ⊢
 have hsd : s &&& d < 2 ^ 11 := Nat.and_lt_two_pow _ (by omega)
 rw [bits_and_u64_nat s d (by omega) (by omega), IntKind.wrap_u64]
 by_cases h0 : d = 0
 · subst h0
   rw [show (-((0 : Nat) : Int) % 18446744073709551616) = ((0 : Nat) : Int) by omega, bits_and_u64_nat _ _ (by omega) (by omega)]
   simp [lowN]
 · rw [show (-(d : Int) % 18446744073709551616) = ((18446744073709551616 - d : Nat) : Int) by omega, bits_and_u64_nat _ _ (by omega) (by omega), Nat.and_assoc]
   have e : lowN d = d &&& (18446744073709551616 - d) := rfl
   rw [e]
   obtain ⟨x, hx⟩ : ∃ x, x = s &&& (d &&& (18446744073709551616 - d)) := ⟨_, rfl⟩
   rw [<- hx]
   by_cases hx0 : x = 0 <;> simp [hx0]
theorem SetAhead_any (s o : Nat) (hs : s < 2048) (ho : o < 2048) (w : World) :
  Calls Tryz.prog 71 #[.int .u64 s, .int .u64 o] w fun e w' => e = .returned (.bool (aheadN s o)) /\ Below w.heap.size w w' := by
 have H1 := Lib.hid (fun W => ones_any s hs W)
 have H2 := Lib.hid (fun W => ones_any o ho W)
 unfold aheadN
 obtain ⟨c1, hc1⟩ : ∃ c, c = cntV 11 s.testBit := ⟨_, rfl⟩
 obtain ⟨c2, hc2⟩ : ∃ c, c = cntV 11 o.testBit := ⟨_, rfl⟩
 rw [<- hc1, <- hc2]
 rw [<- hc1] at H1
 rw [<- hc2] at H2
 have HSO := Lib.hid (And.intro hs ho)
 clear hc1 hc2 hs ho
 go_enter Tryz.func71, Tryz.ntmps71
 go_wp2_with fail
 refine (H1.out _).mono ?_
 rintro e w1 ⟨rfl, hb1⟩
 go_wp2_with fail
 refine (H2.out _).mono ?_
 rintro e w2 ⟨rfl, hb2⟩
 have hb := hb1.trans (hb2.mono hb1.size)
 clear hb1 hb2
 by_cases hc : c1 = c2
 · subst hc
   go_wp2_with fail
   have e := ahead_bits HSO.out.1 HSO.out.2
   go_ret
   refine ⟨?_, hb⟩
   rw [<- e]
   rfl
 · have hne : ((c1 : Int) != (c2 : Int)) = true := by simp; omega
   go_wp2_with fail
   go_ret
   exact ⟨rfl, hb⟩
end
end Go.Proofs.YtpdhdgdbknnllaaGreatDoor
