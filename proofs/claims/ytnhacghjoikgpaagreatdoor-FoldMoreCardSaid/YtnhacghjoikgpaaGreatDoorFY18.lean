/- The parts Fr, Ft, Fc, Fx of the proof, joined. It holds without conditions of its own. -/
import Derived.Test.YtnhacghjoikgpaaGreatDoorFY17
import Derived.Test.YtnhacghjoikgpaaGreatDoorFY14
import Derived.Laws.Bits64
import Derived.Laws.Bits64b
import Derived.Test.YtnhacghjoikgpaaGreatDoorFY4
/- Sets of pieces: how many; which comes first. -/
namespace Go.Proofs.YtnhacghjoikgpaaGreatDoor
set_option linter.unusedSimpArgs false
set_option linter.unusedVariables false
open Go Go.RowKit Go.Sort Go.BigFrame

noncomputable def onesOk (s : Nat) : Bool := match evCall Tryz.prog 100000 0 103 [.lit (.int .u64 (s : Int))] h01 with
  | .ok (.lit (.int .i64 n), _) => n == (cntV 11 s.testBit : Int)
  | _ => false
theorem ones_0 : (List.range' 0 256).all onesOk = true := by kernel_rfl
theorem ones_1 : (List.range' 256 256).all onesOk = true := by kernel_rfl
theorem ones_2 : (List.range' 512 256).all onesOk = true := by kernel_rfl
theorem ones_3 : (List.range' 768 256).all onesOk = true := by kernel_rfl
theorem ones_4 : (List.range' 1024 256).all onesOk = true := by kernel_rfl
theorem ones_5 : (List.range' 1280 256).all onesOk = true := by kernel_rfl
theorem ones_6 : (List.range' 1536 256).all onesOk = true := by kernel_rfl
theorem ones_7 : (List.range' 1792 256).all onesOk = true := by kernel_rfl
theorem ones_all {s : Nat} (h : s < 2048) : onesOk s = true := by
  have a0 := List.all_eq_true.1 ones_0 s
  have a1 := List.all_eq_true.1 ones_1 s
  have a2 := List.all_eq_true.1 ones_2 s
  have a3 := List.all_eq_true.1 ones_3 s
  have a4 := List.all_eq_true.1 ones_4 s
  have a5 := List.all_eq_true.1 ones_5 s
  have a6 := List.all_eq_true.1 ones_6 s
  have a7 := List.all_eq_true.1 ones_7 s
  simp only [List.mem_range'_1] at a0 a1 a2 a3 a4 a5 a6 a7
  rcases (by omega : (0 ≤ s ∧ s < 0 + 256) ∨ (256 ≤ s ∧ s < 256 + 256) ∨ (512 ≤ s ∧ s < 512 + 256) ∨ (768 ≤ s ∧ s < 768 + 256) ∨ (1024 ≤ s ∧ s < 1024 + 256) ∨ (1280 ≤ s ∧ s < 1280 + 256) ∨ (1536 ≤ s ∧ s < 1536 + 256) ∨ (1792 ≤ s ∧ s < 1792 + 256)) with h | h | h | h | h | h | h | h
  · exact a0 h
  · exact a1 h
  · exact a2 h
  · exact a3 h
  · exact a4 h
  · exact a5 h
  · exact a6 h
  · exact a7 h
theorem ones_any (s : Nat) (hs : s < 2048) (W : World) : Calls Tryz.prog 103 #[.int .u64 (s : Int)] W fun e w' => e = .returned (.int .i64 (cntV 11 s.testBit : Int)) ∧ Below W.heap.size W w' := by
  have h := ones_all hs
  unfold onesOk at h
  split at h
  · rename_i n h' he
    have := eval_lits (P := Tryz.prog) followsT (fid := 103) (ys := [.int .u64 (s : Int)]) (W := W) he
    refine this.mono ?_
    rintro en W' ⟨x, e', rfl, hx, -, hb, -⟩
    rw [VR_lit.1 hx, beq_iff_eq.1 h]
    exact ⟨rfl, hb⟩
  · cases h
theorem ahead_bits {s o : Nat} (hs : s < 2048) (ho : o < 2048) : (bits BinOp.and IntKind.u64 (bits BinOp.and IntKind.u64 (s : Int) (bits BinOp.xor IntKind.u64 (s : Int) (o : Int))) (IntKind.u64.wrap (-bits BinOp.xor IntKind.u64 (s : Int) (o : Int))) != 0) = !decide (s &&& lowN (s ^^^ o) = 0) := by
  have hd : s ^^^ o < 2 ^ 11 := Nat.xor_lt_two_pow (by omega) (by omega)
  rw [bits_xor_u64_nat s o (by omega) (by omega)]
  obtain ⟨d, hdd⟩ : ∃ d, d = s ^^^ o := ⟨_, rfl⟩
  rw [← hdd] at hd ⊢
  have hsd : s &&& d < 2 ^ 11 := Nat.and_lt_two_pow _ (by omega)
  rw [bits_and_u64_nat s d (by omega) (by omega), IntKind.wrap_u64]
  by_cases h0 : d = 0
  · subst h0
    rw [show (-((0 : Nat) : Int) % 18446744073709551616) = ((0 : Nat) : Int) by omega, bits_and_u64_nat _ _ (by omega) (by omega)]
    simp [lowN]
  · rw [show (-(d : Int) % 18446744073709551616) = ((18446744073709551616 - d : Nat) : Int) by omega, bits_and_u64_nat _ _ (by omega) (by omega), Nat.and_assoc]
    have e : lowN d = d &&& (18446744073709551616 - d) := rfl
    rw [e]
    obtain ⟨x, hx⟩ : ∃ x, x = s &&& (d &&& (18446744073709551616 - d)) := ⟨_, rfl⟩
    rw [← hx]
    by_cases hx0 : x = 0 <;> simp [hx0]
set_option maxRecDepth 100000 in
set_option maxHeartbeats 1000000 in
theorem SetAhead_any (s o : Nat) (hs : s < 2048) (ho : o < 2048) (w : World) :
    Calls Tryz.prog 71 #[.int .u64 s, .int .u64 o] w fun e w' => e = .returned (.bool (aheadN s o)) ∧ Below w.heap.size w w' := by
  have H1 := Lib.hid (fun W => ones_any s hs W)
  have H2 := Lib.hid (fun W => ones_any o ho W)
  unfold aheadN
  obtain ⟨c1, hc1⟩ : ∃ c, c = cntV 11 s.testBit := ⟨_, rfl⟩
  obtain ⟨c2, hc2⟩ : ∃ c, c = cntV 11 o.testBit := ⟨_, rfl⟩
  rw [← hc1, ← hc2]
  rw [← hc1] at H1
  rw [← hc2] at H2
  have HSO := Lib.hid (And.intro hs ho)
  clear hc1 hc2 hs ho
  go_enter Tryz.func71, Tryz.ntmps71
  go_wp2_with fail
  refine (H1.out _).mono ?_
  rintro e w1 ⟨rfl, hb1⟩
  go_wp2_with fail
  refine (H2.out _).mono ?_
  rintro e w2 ⟨rfl, hb2⟩
  have hb := hb1.trans (hb2.mono hb1.size)
  clear hb1 hb2
  by_cases hc : c1 = c2
  · subst hc
    go_wp2_with fail
    have e := ahead_bits HSO.out.1 HSO.out.2
    go_ret
    refine ⟨?_, hb⟩
    rw [← e]
    rfl
  · have hne : ((c1 : Int) != (c2 : Int)) = true := by simp; omega
    go_wp2_with fail
    go_ret
    exact ⟨rfl, hb⟩
end Go.Proofs.YtnhacghjoikgpaaGreatDoor

/- The fewest pieces without which some way of making agrees. -/
namespace Go.Proofs.YtnhacghjoikgpaaGreatDoor
set_option linter.unusedSimpArgs false
set_option linter.unusedVariables false
open Go Go.RowKit Go.Sort Go.BigFrame
attribute [local go_sem] Oper.semAt_some putAll

theorem but_bits : (List.range 12).all (fun k => (List.range (2 ^ k)).all fun s => bits BinOp.andNot IntKind.u64 ((2 ^ k - 1 : Nat) : Int) (s : Int) == ((2 ^ k - 1 - s : Nat) : Int)) = true := by decide +kernel
theorem but_bit {k s : Nat} (hk : k < 12) (hs : s < 2 ^ k) : bits BinOp.andNot IntKind.u64 ((2 ^ k - 1 : Nat) : Int) (s : Int) = ((2 ^ k - 1 - s : Nat) : Int) :=
  beq_iff_eq.1 (List.all_eq_true.1 (List.all_eq_true.1 but_bits k (List.mem_range.2 hk)) s (List.mem_range.2 hs))
/-- The first set of pieces, up to one, without which something holds. -/
def bestTo (A : Nat → Bool) (all : Nat) (k : Nat) : Nat := (List.range k).foldl (fun best s => if aheadN s best && A (all - s) then s else best) all
theorem bestTo_succ (A : Nat → Bool) (all k : Nat) : bestTo A all (k + 1) = if aheadN k (bestTo A all k) && A (all - k) then k else bestTo A all k := by
  unfold bestTo
  rw [List.range_succ, List.foldl_append]
  rfl
theorem bestTo_le (A : Nat → Bool) (all : Nat) : ∀ k, k ≤ all → bestTo A all k ≤ all
  | 0, _ => Nat.le_refl _
  | k + 1, h => by
    rw [bestTo_succ]
    split
    · omega
    · exact bestTo_le A all k (by omega)
set_option maxRecDepth 100000 in
set_option maxHeartbeats 8000000 in
theorem wrong_any (p : Prs) (b : Bok) (ma : Option Addr) (mn mcap : Nat) (va : Option Addr) (vn vc : Nat) (ys : List Wz) (w : World) (h : SnAt w p b (.slice ma mn mcap) (.slice va vn vc) ys) (he : (checkK p b).2.2 = 0) (hmn : mn ≤ 8) (R : Nat → World → Value → World → Prop)
    (hlist : ∀ (s : Nat) (W : World), s < 2048 → Below w.heap.size w W → Calls Tryz.prog 73 #[.int .u64 s] W fun e w' => (∃ v, e = .returned v ∧ R s W v w') ∧ Below W.heap.size W w') :
    Calls Tryz.prog 35 #[.agg (seenC b (.slice ma mn mcap) (.slice va vn vc))] w fun e w' => (∃ W v, Below w.heap.size w W ∧ e = .returned v ∧ R (bestTo (fun s => (ys.filter fun y => agreesP p b s y.1) != []) (2 ^ (3 + mn) - 1) (2 ^ (3 + mn) - 1)) W v w') ∧ Below w.heap.size w w' := by
  obtain ⟨A, hA⟩ : ∃ A : Nat → Bool, A = fun s => (ys.filter fun y => agreesP p b s y.1) != [] := ⟨_, rfl⟩
  have HAG := Lib.hid (fun (s : Nat) (W : World) (hs : s < 2048) (hb : Below w.heap.size w W) => agrees_any p b ma mn mcap va vn vc ys s W (h.later hb) he hs)
  have hAs : ∀ s, ((ys.filter fun y => agreesP p b s y.1) != []) = A s := fun s => by rw [hA]
  simp only [hAs] at HAG ⊢
  obtain ⟨M, hM⟩ : ∃ M, M = 2 ^ (3 + mn) - 1 := ⟨_, rfl⟩
  have hM2 : M < 2048 := by have := Nat.pow_le_pow_right (n := 2) (by decide) (show 3 + mn ≤ 11 by omega); omega
  have HBU := Lib.hid (fun (k : Nat) (hk : k < M) => by
    have h := but_bit (k := 3 + mn) (s := k) (by omega) (by omega)
    rw [← hM] at h
    exact h : ∀ k, k < M → bits BinOp.andNot IntKind.u64 (M : Int) (k : Int) = ((M - k : Nat) : Int))
  have HALL := Lib.hid (fun W => seenAll_any b ma mn mcap (.slice va vn vc) hmn W)
  rw [← hM] at HALL
  have e0 : (fun s => A s) = A := rfl
  rw [← hM]
  have HLI := Lib.hid hlist
  clear hAs hA hM h he hlist e0 hmn
  go_enter Tryz.func35, Tryz.ntmps35
  go_wp2_with fail
  have hb0 : Below w.heap.size w (w.alloc (.cells #[.int .i64 b.leaves, .int .i64 b.chain, .int .i64 b.wlo, .int .i64 b.whi, .int .i64 b.hlo, .int .i64 b.hhi, .slice ma mn mcap, .slice va vn vc] 72)) := (Below.refl _ _).alloc (Nat.le_refl _) _
  have h6 : (w.alloc (.cells #[.int .i64 b.leaves, .int .i64 b.chain, .int .i64 b.wlo, .int .i64 b.whi, .int .i64 b.hlo, .int .i64 b.hhi, .slice ma mn mcap, .slice va vn vc] 72)).heap[w.heap.size]? = some (.cells #[.int .i64 b.leaves, .int .i64 b.chain, .int .i64 b.wlo, .int .i64 b.whi, .int .i64 b.hlo, .int .i64 b.hhi, .slice ma mn mcap, .slice va vn vc] 72 (0, 0)) := World.alloc_heap_new _ _
  revert hb0 h6
  generalize (w.alloc (.cells #[.int .i64 b.leaves, .int .i64 b.chain, .int .i64 b.wlo, .int .i64 b.whi, .int .i64 b.hlo, .int .i64 b.hhi, .slice ma mn mcap, .slice va vn vc] 72)) = w0
  intro hb0 h6
  refine (HALL.out w0).mono ?_
  rintro e w1 ⟨rfl, hb1⟩
  have HB1 := Lib.hid (hb0.trans (hb1.mono hb0.size))
  have H6 := Lib.hid (blk_later hb1 h6)
  clear hb0 hb1 h6
  go_wp2_with fail
  go_loopw [4, 10] (fun bst i wr => ∃ (k : Nat), k ≤ M ∧ i = .int .u64 k ∧ bst = .int .u64 (bestTo A M k) ∧ Hid (Below w1.heap.size w1 wr)) (fun _ i _ => M - (intOf i).toNat)
  case atStart => exact ⟨0, by omega, rfl, rfl, Lib.hid (Below.refl _ _)⟩
  case round =>
    obtain ⟨k, hk, rfl, rfl, HB⟩ := hrel
    by_cases hlt : k < M
    · have hbl := bestTo_le A M k hk
      obtain ⟨bk, hbk⟩ : ∃ x, x = bestTo A M k := ⟨_, rfl⟩
      rw [← hbk] at hbl ⊢
      have HBK := Lib.hid hbk
      clear hbk
      go_wp2_with fail
      refine (SetAhead_any k bk (by omega) (by omega) _).mono ?_
      rintro e w4 ⟨rfl, hb4⟩
      obtain ⟨q1, hq1⟩ : ∃ q, q = aheadN k bk := ⟨_, rfl⟩
      rw [← hq1]
      have HQ1 := Lib.hid hq1
      have HB4 := Lib.hid (HB.out.trans (hb4.mono HB.out.size))
      have HST : Hid (bestTo A M (k + 1) = if q1 && A (M - k) then k else bk) := Lib.hid (by rw [bestTo_succ, ← HBK.out, ← HQ1.out])
      clear hq1 hb4 HQ1 HB
      cases q1 with
      | false =>
        go_wp2_with fail
        go_roundw
        case rel => exact ⟨k + 1, by omega, by go_num, by rw [HST.out]; rfl, HB4⟩
        case measure => simp [intOf]; omega
      | true =>
        obtain ⟨D, hD⟩ : ∃ D, D = M - k := ⟨_, rfl⟩
        rw [← hD] at HST
        have eb : bits BinOp.andNot IntKind.u64 (M : Int) (k : Int) = (D : Int) := by rw [HBU.out k hlt, hD]
        have hD2 : D < 2048 := by omega
        have h6 := blk_later HB4.out H6.out
        have c0 := blk_cell (h6) 0
        have c1 := blk_cell (h6) 1
        have c2 := blk_cell (h6) 2
        have c3 := blk_cell (h6) 3
        have c4 := blk_cell (h6) 4
        have c5 := blk_cell (h6) 5
        have c6 := blk_cell (h6) 6
        have c7 := blk_cell (h6) 7
        have l6 := blk_lt h6
        clear h6 hD
        go_wp2_with fail
        refine (HAG.out D _ hD2 (HB1.out.trans (HB4.out.mono HB1.out.size))).mono ?_
        rintro e w5 ⟨rfl, hb5⟩
        obtain ⟨q2, hq2⟩ : ∃ q, q = A D := ⟨_, rfl⟩
        rw [← hq2] at HST ⊢
        have HB5 := Lib.hid (HB4.out.trans (hb5.mono HB4.out.size))
        clear hq2 hb5 c0 c1 c2 c3 c4 c5 c6 c7 l6 eb HB4
        cases q2 with
        | false =>
          go_wp2_with fail
          go_roundw
          case rel => exact ⟨k + 1, by omega, by go_num, by rw [HST.out]; rfl, HB5⟩
          case measure => simp [intOf]; omega
        | true =>
          go_wp2_with fail
          go_roundw
          case rel => exact ⟨k + 1, by omega, by go_num, by rw [HST.out]; rfl, HB5⟩
          case measure => simp [intOf]; omega
    · obtain rfl : k = M := by omega
      go_wp2_with fail
      refine (HLI.out _ _ (by have := bestTo_le A k k (Nat.le_refl _); omega) (HB1.out.trans (HB.out.mono HB1.out.size))).mono ?_
      rintro e w5 ⟨⟨v, rfl, hr⟩, hb5⟩
      go_wp2_with fail
      go_ret
      exact ⟨⟨_, v, HB1.out.trans (HB.out.mono HB1.out.size), rfl, hr⟩, (HB1.out.trans (HB.out.mono HB1.out.size)).trans (hb5.mono (Nat.le_trans HB1.out.size HB.out.size))⟩
end Go.Proofs.YtnhacghjoikgpaaGreatDoor

/- Layer 2, plain: a press, ways of making, what is seen of a gathering; what agrees, and the fewest pieces that can be wrong: by sets, and way by way. -/
namespace Go.Proofs.YtnhacghjoikgpaaGreatDoor
set_option linter.unusedSimpArgs false
set_option linter.unusedVariables false

/-- Folds by their bytes. -/
def fdsOf (f : Bs) : Fds := f.map fun c => c == 120
/-- The error of a way of making of a press without one. -/
def mkErr (p : Prs) (m : Mkw) : Int :=
  if (inI 0 (p.fmts.length - 1) m.fmt && inI 0 (p.pprs.length - 1) m.ppr) = false then 4
  else if inI 1 p.sheets m.sheets = false then 7
  else if m.half = true ∧ (m.sheets ≠ 1 ∨ ∀ f, p.fmts[m.fmt.toNat]? = some f → f.folds.length = 1) then 2 else 0
/-- All ways of making, in order. -/
def makesF (p : Prs) : List Mkw := ((List.range p.fmts.length).flatMap fun f => (List.range p.pprs.length).flatMap fun q => (List.range p.sheets.toNat).flatMap fun s =>
  [⟨f, q, (s : Int) + 1, false⟩, ⟨f, q, (s : Int) + 1, true⟩]).filter fun m => decide (mkErr p m = 0)

/-- Whether a piece of the watermark is in a leaf of a sheet with so many columns and rows, in this half. -/
def hasF (cols rows : Nat) (l : Fl) (half : Nat) : Bool := decide (4 * l.col ≤ (1 + 2 * half) * cols) && decide ((1 + 2 * half) * cols ≤ 4 * (l.col + 1)) && decide (4 * l.row ≤ 2 * rows) && decide (2 * rows ≤ 4 * (l.row + 1))
/-- A way of making as it is looked at: its leaves, whether Chain, Wide and High are true of it, and its sheets. -/
structure Way where
  cols : Nat
  rows : Nat
  leaves : List Fl
  sheets : Nat
  ok : Nat → Bool
/-- The marks, as pieces, that are not true of a sheet's leaves with the watermark in this half. -/
def untrueF (w : Way) (ms : List (Int × Bool)) (sheet half : Nat) : Nat → Bool := fun i => match ms[i - 3]? with
  | none => false
  | some m => decide (3 ≤ i) && match w.leaves[m.1.toNat]? with
    | none => false
    | some l => decide (l.sheet = sheet) && (hasF w.cols w.rows l half != m.2)
/-- The plain pieces that are not true. -/
def plainV (w : Way) : Nat → Bool := fun i => decide (i < 3) && !w.ok i
/-- A way of making agrees with a set of pieces. -/
def agreesV (w : Way) (ms : List (Int × Bool)) (some : Nat → Bool) : Prop :=
  offV some (plainV w) ∧ ∀ s, s < w.sheets → offV some (untrueF w ms s 0) ∨ offV some (untrueF w ms s 1)
/-- What is left of all pieces. -/
def butV (u : Nat → Bool) : Nat → Bool := fun i => !u i
theorem agrees_but (w : Way) (ms : List (Int × Bool)) (u : Nat → Bool) : agreesV w ms (butV u) ↔ subV (plainV w) u ∧ ∀ s, s < w.sheets → subV (untrueF w ms s 0) u ∨ subV (untrueF w ms s 1) u := by
  have key : ∀ x : Nat → Bool, offV (butV u) x ↔ subV x u := fun x => by
    unfold offV subV butV
    constructor
    · intro h i hi
      cases hu : u i with
      | true => rfl
      | false => exact absurd hi (fun hi => h i (by simp [hu]) hi)
    · intro h i h1 h2
      rw [h i h2] at h1
      cases h1
  unfold agreesV
  rw [key]
  simp only [key]
/-- The pairs of a way's sheets. -/
def pairsF (w : Way) (ms : List (Int × Bool)) : List ((Nat → Bool) × (Nat → Bool)) := (List.range w.sheets).map fun s => (untrueF w ms s 0, untrueF w ms s 1)
theorem untrue_sheet {w : Way} {ms : List (Int × Bool)} {s h i : Nat} (e : untrueF w ms s h i = true) : 3 ≤ i ∧ ∃ m l, ms[i - 3]? = some m ∧ w.leaves[m.1.toNat]? = some l ∧ l.sheet = s := by
  unfold untrueF at e
  split at e
  · cases e
  · rename_i m hm
    rw [Bool.and_eq_true] at e
    obtain ⟨e1, e2⟩ := e
    split at e2
    · cases e2
    · rename_i l hl
      rw [Bool.and_eq_true] at e2
      exact ⟨of_decide_eq_true e1, m, l, hm, hl, of_decide_eq_true e2.1⟩
theorem untrue_off {w : Way} {ms : List (Int × Bool)} {s t h k : Nat} (hne : s ≠ t) : offV (untrueF w ms s h) (untrueF w ms t k) := fun i h1 h2 => by
  obtain ⟨-, m, l, a1, a2, a3⟩ := untrue_sheet h1
  obtain ⟨-, m', l', b1, b2, b3⟩ := untrue_sheet h2
  rw [a1] at b1
  cases b1
  rw [a2] at b2
  cases b2
  exact hne (a3.symm.trans b3)
theorem plain_off {w : Way} {ms : List (Int × Bool)} {s h : Nat} : offV (plainV w) (untrueF w ms s h) := fun i h1 h2 => by
  have h3 := (untrue_sheet h2).1
  unfold plainV at h1
  rw [Bool.and_eq_true] at h1
  have := of_decide_eq_true h1.1
  omega
theorem pairs_apart (w : Way) (ms : List (Int × Bool)) : apartV (plainV w) (pairsF w ms) := by
  unfold pairsF
  have key : ∀ (n s : Nat), apartV (plainV w) ((List.range' s n).map fun s => (untrueF w ms s 0, untrueF w ms s 1)) := by
    intro n
    induction n with
    | zero => intro s; exact trivial
    | succ n ih =>
      intro s
      rw [List.range'_succ, List.map_cons]
      refine ⟨⟨plain_off, plain_off⟩, fun r hr => ?_, ih (s + 1)⟩
      obtain ⟨t, ht, rfl⟩ := List.mem_map.1 hr
      have hts : s ≠ t := by
        rw [List.mem_range'] at ht
        obtain ⟨i, -, rfl⟩ := ht
        omega
      exact ⟨⟨untrue_off hts, untrue_off hts⟩, untrue_off hts, untrue_off hts⟩
  rw [List.range_eq_range']
  exact key _ _
theorem allV_sub : ∀ (cs : List (Nat → Bool)) (p u : Nat → Bool), subV p u → (∀ c ∈ cs, subV c u) → subV (allV p cs) u
  | [], _, _, h, _ => h
  | c :: cs, p, u, h, hc => allV_sub cs (orV p c) u (fun i hi => by
      unfold orV at hi
      rcases Bool.or_eq_true_iff.1 hi with hi | hi
      · exact h i hi
      · exact hc c (by simp) i hi) fun d hd => hc d (List.mem_cons_of_mem _ hd)
theorem sub_allV : ∀ (cs : List (Nat → Bool)) (p : Nat → Bool), subV p (allV p cs) ∧ ∀ c ∈ cs, subV c (allV p cs)
  | [], p => ⟨fun _ h => h, fun c hc => by cases hc⟩
  | c :: cs, p => by
    obtain ⟨h1, h2⟩ := sub_allV cs (orV p c)
    refine ⟨fun i hi => h1 i (by unfold orV; rw [hi]; rfl), fun d hd => ?_⟩
    rcases List.mem_cons.1 hd with rfl | hd
    · exact fun i hi => h1 i (by unfold orV; rw [hi]; simp)
    · exact h2 d hd
theorem picked_len {K : Nat} : ∀ {qs : List ((Nat → Bool) × (Nat → Bool))} {ms : List (Nat → Bool)}, Picked K qs ms → ms.length = qs.length
  | _, _, .nil => rfl
  | _, _, .cons _ _ _ h => by simp [picked_len h]
theorem picked_at {K : Nat} : ∀ {qs : List ((Nat → Bool) × (Nat → Bool))} {ms : List (Nat → Bool)}, Picked K qs ms → ∀ (j : Nat) (q : (Nat → Bool) × (Nat → Bool)) (m : Nat → Bool), qs[j]? = some q → ms[j]? = some m → m = q.1 ∨ m = q.2
  | _, _, .nil, j, q, m, h, _ => by simp at h
  | _, _, .cons h1 _ _ h4, 0, q, m, hq, hm => by
    simp only [List.getElem?_cons_zero, Option.some.injEq] at hq hm
    subst hq hm
    exact h1
  | _, _, .cons _ _ _ h4, j + 1, q, m, hq, hm => picked_at h4 j q m (by simpa using hq) (by simpa using hm)
/-- **What is picked sheet by sheet is the first set of pieces without which a way agrees.** -/
theorem off_first {K : Nat} {w : Way} {ms : List (Int × Bool)} {cs : List (Nat → Bool)} (hp : Picked K (pairsF w ms) cs) :
    agreesV w ms (butV (allV (plainV w) cs)) ∧ ∀ u, agreesV w ms (butV u) → leV K (allV (plainV w) cs) u := by
  have hlen := picked_len hp
  have hpl : (pairsF w ms).length = w.sheets := by unfold pairsF; rw [List.length_map, List.length_range]
  have hat : ∀ s, s < w.sheets → (pairsF w ms)[s]? = some (untrueF w ms s 0, untrueF w ms s 1) := fun s hs => by
    unfold pairsF
    rw [List.getElem?_map, List.getElem?_range hs]
    rfl
  refine ⟨(agrees_but w ms _).2 ⟨(sub_allV cs _).1, fun s hs => ?_⟩, fun u hu => ?_⟩
  · obtain ⟨m, hm⟩ : ∃ m, cs[s]? = some m := ⟨_, List.getElem?_eq_getElem (by omega)⟩
    have hsub := (sub_allV cs (plainV w)).2 m (List.mem_of_getElem? hm)
    rcases picked_at hp s _ m (hat s hs) hm with rfl | rfl
    · exact Or.inl hsub
    · exact Or.inr hsub
  · obtain ⟨h1, h2⟩ := (agrees_but w ms u).1 hu
    -- the choice that u makes
    have hch : ∀ s : Nat, ∃ c : Nat → Bool, s < w.sheets → (c = untrueF w ms s 0 ∨ c = untrueF w ms s 1) ∧ subV c u := fun s => by
      by_cases hs : s < w.sheets
      · rcases h2 s hs with h | h
        · exact ⟨_, fun _ => ⟨Or.inl rfl, h⟩⟩
        · exact ⟨_, fun _ => ⟨Or.inr rfl, h⟩⟩
      · exact ⟨fun _ => false, fun h => absurd h hs⟩
    obtain ⟨F, hF⟩ : ∃ F : Nat → Nat → Bool, ∀ s, s < w.sheets → (F s = untrueF w ms s 0 ∨ F s = untrueF w ms s 1) ∧ subV (F s) u := ⟨fun s => Classical.choose (hch s), fun s => Classical.choose_spec (hch s)⟩
    have h3 := picked_le (plainV w) (pairs_apart w ms) hp (cs := (List.range w.sheets).map F) (by rw [hpl]; simp) (fun j q c hq hc => by
      have hj := (List.getElem?_eq_some_iff.1 hq).1
      rw [hpl] at hj
      rw [hat j hj] at hq
      cases hq
      rw [List.getElem?_map, List.getElem?_range hj] at hc
      cases hc
      exact (hF j hj).1)
    refine leV_trans h3 (leV_sub (allV_sub _ _ _ h1 fun c hc => ?_))
    obtain ⟨s, hs, rfl⟩ := List.mem_map.1 hc
    exact (hF s (List.mem_range.1 hs)).2
theorem leV_anti {K : Nat} {u v : Nat → Bool} (h1 : leV K u v) (h2 : leV K v u) : ∀ i, i < K → u i = v i := by
  rcases ltV_total K u v with h | h | h
  · exact absurd h h2
  · exact h
  · exact absurd h h1
/-- **The first set of pieces without which some way agrees is that of the best way.** -/
theorem wrong_same {K : Nat} {ws : List Way} {ms : List (Int × Bool)} {u o : Nat → Bool} (hu : ∃ w ∈ ws, agreesV w ms (butV u)) (hmin : ∀ x, (∃ w ∈ ws, agreesV w ms (butV x)) → leV K u x)
    (ho : ∃ w ∈ ws, ∃ cs, Picked K (pairsF w ms) cs ∧ o = allV (plainV w) cs) (hbest : ∀ w ∈ ws, ∀ cs, Picked K (pairsF w ms) cs → leV K o (allV (plainV w) cs)) (hex : ∀ w ∈ ws, ∃ cs, Picked K (pairsF w ms) cs) : ∀ i, i < K → u i = o i := by
  obtain ⟨w, hw, h1⟩ := hu
  obtain ⟨w2, hw2, cs2, hp2, rfl⟩ := ho
  refine leV_anti (hmin _ ⟨w2, hw2, (off_first hp2).1⟩) ?_
  obtain ⟨cs, hp⟩ := hex w hw
  exact leV_trans (hbest w hw cs hp) ((off_first hp).2 u h1)
/-- Of each part one can be picked. -/
theorem picked_ex (K : Nat) : ∀ qs : List ((Nat → Bool) × (Nat → Bool)), ∃ ms, Picked K qs ms
  | [] => ⟨[], .nil⟩
  | q :: qs => by
    obtain ⟨ms, h⟩ := picked_ex K qs
    by_cases hl : ltV K q.2 q.1
    · exact ⟨q.2 :: ms, .cons (Or.inr rfl) (fun h2 => ltV_irr (fun _ _ => rfl) (ltV_trans hl h2)) (leV_refl K _) h⟩
    · exact ⟨q.1 :: ms, .cons (Or.inl rfl) (leV_refl K _) hl h⟩
/-- A way agrees with all pieces just if none is left out. -/
theorem agrees_all {K : Nat} {w : Way} {ms : List (Int × Bool)} {cs : List (Nat → Bool)} (hp : Picked K (pairsF w ms) cs) (hK : 3 + ms.length ≤ K) : agreesV w ms (fun _ => true) ↔ ∀ i, i < K → allV (plainV w) cs i = false := by
  have e : (fun _ : Nat => true) = butV (fun _ => false) := rfl
  rw [e]
  obtain ⟨h1, h2⟩ := off_first hp
  constructor
  · intro h
    have h3 := h2 _ h
    exact leV_anti h3 (leV_sub fun i hi => by cases hi)
  · intro h
    have hz : ∀ c, subV c (allV (plainV w) cs) → (∀ i, c i = true → i < K) → subV c (fun _ => false) := fun c hc hk i hi => by
      have := hc i hi
      rw [h i (hk i hi)] at this
      cases this
    obtain ⟨h4, h5⟩ := (agrees_but w ms _).1 h1
    have hu : ∀ s k i, untrueF w ms s k i = true → i < K := fun s k i hi => by
      obtain ⟨h6, m, l, h7, -⟩ := untrue_sheet hi
      have := (List.getElem?_eq_some_iff.1 h7).1
      omega
    refine (agrees_but w ms _).2 ⟨hz _ h4 fun i hi => ?_, fun s hs => ?_⟩
    · unfold plainV at hi
      rw [Bool.and_eq_true] at hi
      have := of_decide_eq_true hi.1
      omega
    · rcases h5 s hs with h6 | h6
      · exact Or.inl (hz _ h6 (hu s 0))
      · exact Or.inr (hz _ h6 (hu s 1))
end Go.Proofs.YtnhacghjoikgpaaGreatDoor

/- Plain: the set that the program finds is the first one of all; its agreement is that of the plain definitions. -/
namespace Go.Proofs.YtnhacghjoikgpaaGreatDoor
set_option linter.unusedSimpArgs false
set_option linter.unusedVariables false

/-- **The set that the program finds** is all, or one without which something holds; and none such is before it. -/
theorem best_inv (A : Nat → Bool) (all : Nat) (ha : all < 2048) : ∀ k, k ≤ all → (bestTo A all k = all ∨ (bestTo A all k < k ∧ A (all - bestTo A all k) = true)) ∧ (∀ s, s < k → A (all - s) = true → leV 11 (bestTo A all k).testBit s.testBit) ∧ leV 11 (bestTo A all k).testBit all.testBit
  | 0, _ => ⟨Or.inl rfl, fun s h => by omega, leV_refl _ _⟩
  | k + 1, h => by
    obtain ⟨h1, h2, h3⟩ := best_inv A all ha k (by omega)
    have hle := bestTo_le A all k (by omega)
    have hai := ahead_is (s := k) (o := bestTo A all k) (by omega) (by omega)
    rw [bestTo_succ]
    by_cases hc : (aheadN k (bestTo A all k) && A (all - k)) = true
    · rw [if_pos hc]
      rw [Bool.and_eq_true] at hc
      have hlt := hai.1 hc.1
      refine ⟨Or.inr ⟨by omega, hc.2⟩, fun s hs hA => ?_, fun hx => h3 (ltV_trans hx hlt)⟩
      by_cases hsk : s = k
      · subst hsk; exact leV_refl _ _
      · exact fun hx => h2 s (by omega) hA (ltV_trans hx hlt)
    · rw [if_neg hc]
      refine ⟨h1.imp id fun ⟨a, b⟩ => ⟨by omega, b⟩, fun s hs hA hx => ?_, h3⟩
      by_cases hsk : s = k
      · subst hsk
        exact hc (by rw [Bool.and_eq_true]; exact ⟨hai.2 hx, hA⟩)
      · exact h2 s (by omega) hA hx
/-- A way of making, as the plain definitions look at it. -/
def wayV (p : Prs) (b : Bok) (m : Mkw) : Way := ⟨colsF (fdsB (fldsOf p m)), rowsF (fdsB (fldsOf p m)), lvOf p m, m.sheets.toNat, fun i => if i = 0 then (plainB p b m).1 else if i = 1 then (plainB p b m).2.1 else (plainB p b m).2.2⟩
theorem mark_has (co ro h : Nat) (l : Fl) : markB co ro h l = hasF co ro l h := by
  unfold markB touchB hasF
  have e1 : decide (4 * (l.col : Int) ≤ (1 + 2 * (h : Int)) * (co : Int)) = decide (4 * l.col ≤ (1 + 2 * h) * co) := decide_eq_decide.2 (by rw [show (1 + 2 * (h : Int)) * (co : Int) = (((1 + 2 * h) * co : Nat) : Int) by push_cast; rfl]; omega)
  have e2 : decide ((1 + 2 * (h : Int)) * (co : Int) ≤ 4 * ((l.col : Int) + 1)) = decide ((1 + 2 * h) * co ≤ 4 * (l.col + 1)) := decide_eq_decide.2 (by rw [show (1 + 2 * (h : Int)) * (co : Int) = (((1 + 2 * h) * co : Nat) : Int) by push_cast; rfl]; omega)
  have e3 : decide (4 * (l.row : Int) ≤ 2 * (ro : Int)) = decide (4 * l.row ≤ 2 * ro) := decide_eq_decide.2 (by omega)
  have e4 : decide (2 * (ro : Int) ≤ 4 * ((l.row : Int) + 1)) = decide (2 * ro ≤ 4 * (l.row + 1)) := decide_eq_decide.2 (by omega)
  rw [e1, e2, e3, e4, Bool.and_assoc, Bool.and_assoc, Bool.and_assoc]
theorem true_from (ls : List Fl) (co ro s sh h : Nat) : ∀ (ms : List (Int × Bool)) (k : Nat), trueFrom ls co ro s sh h k ms = true ↔ ∀ j m, ms[j]? = some m → s.testBit (3 + (k + j)) = true → untrB ls co ro sh h m = false
  | [], k => ⟨fun _ j m hm => (by simp at hm), fun _ => rfl⟩
  | x :: ms, k => by
    unfold trueFrom
    by_cases hc : s.testBit (3 + k) = true ∧ untrB ls co ro sh h x = true
    · rw [if_pos hc]
      refine ⟨fun hh => (by cases hh), fun hh => ?_⟩
      have := hh 0 x rfl hc.1
      rw [hc.2] at this
      cases this
    · rw [if_neg hc, true_from ls co ro s sh h ms (k + 1)]
      constructor
      · intro hh j m hm hs
        cases j with
        | zero =>
          simp only [List.getElem?_cons_zero, Option.some.injEq] at hm
          subst hm
          cases hu : untrB ls co ro sh h x with
          | false => rfl
          | true => exact absurd ⟨hs, hu⟩ hc
        | succ j => exact hh j m (by simpa using hm) (by rw [show k + 1 + j = k + (j + 1) by omega]; exact hs)
      · intro hh j m hm hs
        exact hh (j + 1) m (by simpa using hm) (by rw [show k + (j + 1) = k + 1 + j by omega]; exact hs)
theorem untr_is (p : Prs) (b : Bok) (m : Mkw) (sh h j : Nat) (x : Int × Bool) (hx : b.marks[j]? = some x) : untrueF (wayV p b m) b.marks sh h (3 + j) = untrB (lvOf p m) (colsF (fdsB (fldsOf p m))) (rowsF (fdsB (fldsOf p m))) sh h x := by
  unfold untrueF untrB
  rw [show 3 + j - 3 = j by omega, hx]
  have e3 : decide (3 ≤ 3 + j) = true := decide_eq_true (by omega)
  simp only [e3, Bool.true_and, wayV]
  cases hl : (lvOf p m)[x.1.toNat]? with
  | none => rfl
  | some l => simp only [mark_has]
theorem true_off (p : Prs) (b : Bok) (m : Mkw) (s sh h : Nat) : trueFrom (lvOf p m) (colsF (fdsB (fldsOf p m))) (rowsF (fdsB (fldsOf p m))) s sh h 0 b.marks = true ↔ offV s.testBit (untrueF (wayV p b m) b.marks sh h) := by
  rw [true_from]
  constructor
  · intro hh i h1 h2
    obtain ⟨h3, x, l, a1, a2, a3⟩ := untrue_sheet h2
    have h4 := hh (i - 3) x a1 (by rw [show 3 + (0 + (i - 3)) = i by omega]; exact h1)
    rw [← untr_is p b m sh h (i - 3) x a1, show 3 + (i - 3) = i by omega, h2] at h4
    cases h4
  · intro hh j x hx hs
    cases hu : untrB (lvOf p m) (colsF (fdsB (fldsOf p m))) (rowsF (fdsB (fldsOf p m))) sh h x with
    | false => rfl
    | true =>
      refine (hh (3 + j) (by rw [show 3 + j = 3 + (0 + j) by omega]; exact hs) ?_).elim
      rw [untr_is p b m sh h j x hx, hu]
/-- **The program's agreement** is that of the plain definitions. -/
theorem agrees_is (p : Prs) (b : Bok) (s : Nat) (m : Mkw) : agreesP p b s m = true ↔ agreesV (wayV p b m) b.marks s.testBit := by
  unfold agreesP agreesV
  simp only [Bool.and_eq_true, List.all_eq_true, List.mem_range, sheetB, Bool.or_eq_true, true_off]
  have hp : ((((!s.testBit 0) = true ∨ (plainB p b m).1 = true) ∧ ((!s.testBit 1) = true ∨ (plainB p b m).2.1 = true)) ∧ ((!s.testBit 2) = true ∨ (plainB p b m).2.2 = true)) ↔ offV s.testBit (plainV (wayV p b m)) := by
    constructor
    · rintro ⟨⟨h0, h1⟩, h2⟩ i hs hi
      unfold plainV wayV at hi
      simp only [Bool.and_eq_true, decide_eq_true_eq, Bool.not_eq_true'] at hi
      obtain ⟨h3, h4⟩ := hi
      obtain rfl | rfl | rfl : i = 0 ∨ i = 1 ∨ i = 2 := by omega
      · rw [hs] at h0; simp at h0 h4; rw [h0] at h4; cases h4
      · rw [hs] at h1; simp at h1 h4; rw [h1] at h4; cases h4
      · rw [hs] at h2; simp at h2 h4; rw [h2] at h4; cases h4
    · intro hh
      have key : ∀ i (x : Bool), i < 3 → (wayV p b m).ok i = x → ((!s.testBit i) = true ∨ x = true) := fun i x hi hx => by
        cases hs : s.testBit i with
        | false => exact Or.inl rfl
        | true =>
          cases x with
          | true => exact Or.inr rfl
          | false => exact (hh i hs (by unfold plainV; rw [hx, decide_eq_true hi]; rfl)).elim
      exact ⟨⟨key 0 _ (by omega) rfl, key 1 _ (by omega) rfl⟩, key 2 _ (by omega) rfl⟩
  rw [hp]
  rfl
end Go.Proofs.YtnhacghjoikgpaaGreatDoor
