/- The parts Ft of the proof, joined. It holds without conditions of its own. -/
import Derived.Test.YtpdhdgdbknnllaaGreatDoorFX20
set_option maxRecDepth 100000
set_option maxHeartbeats 20000000
namespace Go.Proofs.YtpdhdgdbknnllaaGreatDoor
section
set_option linter.unusedSimpArgs false
set_option linter.unusedVariables false
open Go Go.RowKit Go.Sort Go.BigFrame
attribute [local go_sem] Oper.semAt_some putAll
theorem but_bits : (List.range 12).all (fun k => (List.range (2 ^ k)).all fun s => bits BinOp.andNot IntKind.u64 ((2 ^ k - 1 : Nat) : Int) (s : Int) == ((2 ^ k - 1 - s : Nat) : Int)) = true := by decide +kernel
theorem but_bit {k s : Nat} (hk : k < 12) (hs : s < 2 ^ k) : bits BinOp.andNot IntKind.u64 ((2 ^ k - 1 : Nat) : Int) (s : Int) = ((2 ^ k - 1 - s : Nat) : Int) :=
 beq_iff_eq.1 (List.all_eq_true.1 (List.all_eq_true.1 but_bits k (List.mem_range.2 hk)) s (List.mem_range.2 hs))
def bestTo (A : Nat -> Bool) (all : Nat) (k : Nat) : Nat := (List.range k).foldl (fun best s => if aheadN s best && A (all - s) then s else best) all
theorem bestTo_succ (A : Nat -> Bool) (all k : Nat) : bestTo A all (k + 1) = if aheadN k (bestTo A all k) && A (all - k) then k else bestTo A all k := by
 unfold bestTo
 rw [List.range_succ, List.foldl_append]
 rfl
theorem bestTo_le (A : Nat -> Bool) (all : Nat) : ∀ k, k <= all -> bestTo A all k <= all
 | 0, _ => Nat.le_refl _
 | k + 1, h => by
   rw [bestTo_succ]
   split
   · omega
   · exact bestTo_le A all k (by omega)
theorem wrong_any (p : Prs) (b : Bok) (ma : Option Addr) (mn mcap : Nat) (va : Option Addr) (vn vc : Nat) (ys : List Wz) (w : World) (h : SnAt w p b (.slice ma mn mcap) (.slice va vn vc) ys) (he : (checkK p b).2.2 = 0) (hmn : mn <= 8) (R : Nat -> World -> Value -> World -> Prop)
  (hlist : ∀ (s : Nat) (W : World), s < 2048 -> Below w.heap.size w W -> Calls Tryz.prog 73 #[.int .u64 s] W fun e w' => (∃ v, e = .returned v /\ R s W v w') /\ Below W.heap.size W w') :
  Calls Tryz.prog 35 #[.agg (seenC b (.slice ma mn mcap) (.slice va vn vc))] w fun e w' => (∃ W v, Below w.heap.size w W /\ e = .returned v /\ R (bestTo (fun s => (ys.filter fun y => agreesP p b s y.1) != []) (2 ^ (3 + mn) - 1) (2 ^ (3 + mn) - 1)) W v w') /\ Below w.heap.size w w' := by
 obtain ⟨A, hA⟩ : ∃ A : Nat -> Bool, A = fun s => (ys.filter fun y => agreesP p b s y.1) != [] := ⟨_, rfl⟩
 have HAG := Lib.hid (fun (s : Nat) (W : World) (hs : s < 2048) (hb : Below w.heap.size w W) => agrees_any p b ma mn mcap va vn vc ys s W (h.later hb) he hs)
 have hAs : ∀ s, ((ys.filter fun y => agreesP p b s y.1) != []) = A s := fun s => by rw [hA]
 simp only [hAs] at HAG ⊢
 obtain ⟨M, hM⟩ : ∃ M, M = 2 ^ (3 + mn) - 1 := ⟨_, rfl⟩
 have hM2 : M < 2048 := by have := Nat.pow_le_pow_right (n := 2) (by decide) (show 3 + mn <= 11 by omega); omega
 have HBU := Lib.hid (fun (k : Nat) (hk : k < M) => by
  have h := but_bit (k := 3 + mn) (s := k) (by omega) (by omega)
  rw [<- hM] at h
  exact h : ∀ k, k < M -> bits BinOp.andNot IntKind.u64 (M : Int) (k : Int) = ((M - k : Nat) : Int))
 have HALL := Lib.hid (fun W => seenAll_any b ma mn mcap (.slice va vn vc) hmn W)
 rw [<- hM] at HALL
 have e0 : (fun s => A s) = A := rfl
 rw [<- hM]
 have HLI := Lib.hid hlist
 clear hAs hA hM h he hlist e0 hmn
 go_enter Tryz.func35, Tryz.ntmps35
 go_wp2_with fail
 have hb0 : Below w.heap.size w (w.alloc (.cells #[.int .i64 b.leaves, .int .i64 b.chain, .int .i64 b.wlo, .int .i64 b.whi, .int .i64 b.hlo, .int .i64 b.hhi, .slice ma mn mcap, .slice va vn vc] 72)) := (Below.refl _ _).alloc (Nat.le_refl _) _
 have h6 : (w.alloc (.cells #[.int .i64 b.leaves, .int .i64 b.chain, .int .i64 b.wlo, .int .i64 b.whi, .int .i64 b.hlo, .int .i64 b.hhi, .slice ma mn mcap, .slice va vn vc] 72)).heap[w.heap.size]? = some (.cells #[.int .i64 b.leaves, .int .i64 b.chain, .int .i64 b.wlo, .int .i64 b.whi, .int .i64 b.hlo, .int .i64 b.hhi, .slice ma mn mcap, .slice va vn vc] 72 (0, 0)) := World.alloc_heap_new _ _
 revert hb0 h6
 generalize (w.alloc (.cells #[.int .i64 b.leaves, .int .i64 b.chain, .int .i64 b.wlo, .int .i64 b.whi, .int .i64 b.hlo, .int .i64 b.hhi, .slice ma mn mcap, .slice va vn vc] 72)) = w0
 intro hb0 h6
 refine (HALL.out w0).mono ?_
 rintro e w1 ⟨rfl, hb1⟩
 have HB1 := Lib.hid (hb0.trans (hb1.mono hb0.size))
 have H6 := Lib.hid (blk_later hb1 h6)
 clear hb0 hb1 h6
 go_wp2_with fail
 go_loopw [4, 10] (fun bst i wr => ∃ (k : Nat), k <= M /\ i = .int .u64 k /\ bst = .int .u64 (bestTo A M k) /\ Hid (Below w1.heap.size w1 wr)) (fun _ i _ => M - (intOf i).toNat)
 case atStart => exact ⟨0, by omega, rfl, rfl, Lib.hid (Below.refl _ _)⟩
 case round =>
  obtain ⟨k, hk, rfl, rfl, HB⟩ := hrel
  by_cases hlt : k < M
  · have hbl := bestTo_le A M k hk
    obtain ⟨bk, hbk⟩ : ∃ x, x = bestTo A M k := ⟨_, rfl⟩
    rw [<- hbk] at hbl ⊢
    have HBK := Lib.hid hbk
    clear hbk
    go_wp2_with fail
    refine (SetAhead_any k bk (by omega) (by omega) _).mono ?_
    rintro e w4 ⟨rfl, hb4⟩
    obtain ⟨q1, hq1⟩ : ∃ q, q = aheadN k bk := ⟨_, rfl⟩
    rw [<- hq1]
    have HQ1 := Lib.hid hq1
    have HB4 := Lib.hid (HB.out.trans (hb4.mono HB.out.size))
    have HST : Hid (bestTo A M (k + 1) = if q1 && A (M - k) then k else bk) := Lib.hid (by rw [bestTo_succ, <- HBK.out, <- HQ1.out])
    clear hq1 hb4 HQ1 HB
    cases q1 with
    | false =>
      go_wp2_with fail
      go_roundw
      case rel => exact ⟨k + 1, by omega, by go_num, by rw [HST.out]; rfl, HB4⟩
      case measure => simp [intOf]; omega
    | true =>
      obtain ⟨D, hD⟩ : ∃ D, D = M - k := ⟨_, rfl⟩
      rw [<- hD] at HST
      have eb : bits BinOp.andNot IntKind.u64 (M : Int) (k : Int) = (D : Int) := by rw [HBU.out k hlt, hD]
      have hD2 : D < 2048 := by omega
      have h6 := blk_later HB4.out H6.out
      have c0 := blk_cell (h6) 0
      have c1 := blk_cell (h6) 1
      have c2 := blk_cell (h6) 2
      have c3 := blk_cell (h6) 3
      have c4 := blk_cell (h6) 4
      have c5 := blk_cell (h6) 5
      have c6 := blk_cell (h6) 6
      have c7 := blk_cell (h6) 7
      have l6 := blk_lt h6
      clear h6 hD
      go_wp2_with fail
      refine (HAG.out D _ hD2 (HB1.out.trans (HB4.out.mono HB1.out.size))).mono ?_
      rintro e w5 ⟨rfl, hb5⟩
      obtain ⟨q2, hq2⟩ : ∃ q, q = A D := ⟨_, rfl⟩
      rw [<- hq2] at HST ⊢
      have HB5 := Lib.hid (HB4.out.trans (hb5.mono HB4.out.size))
      clear hq2 hb5 c0 c1 c2 c3 c4 c5 c6 c7 l6 eb HB4
      cases q2 with
      | false =>
        go_wp2_with fail
        go_roundw
        case rel => exact ⟨k + 1, by omega, by go_num, by rw [HST.out]; rfl, HB5⟩
        case measure => simp [intOf]; omega
      | true =>
        go_wp2_with fail
        go_roundw
        case rel => exact ⟨k + 1, by omega, by go_num, by rw [HST.out]; rfl, HB5⟩
        case measure => simp [intOf]; omega
  · obtain rfl : k = M := by omega
    go_wp2_with fail
    refine (HLI.out _ _ (by have := bestTo_le A k k (Nat.le_refl _); omega) (HB1.out.trans (HB.out.mono HB1.out.size))).mono ?_
    rintro e w5 ⟨⟨v, rfl, hr⟩, hb5⟩
    go_wp2_with fail
    go_ret
    exact ⟨⟨_, v, HB1.out.trans (HB.out.mono HB1.out.size), rfl, hr⟩, (HB1.out.trans (HB.out.mono HB1.out.size)).trans (hb5.mono (Nat.le_trans HB1.out.size HB.out.size))⟩
end
end Go.Proofs.YtpdhdgdbknnllaaGreatDoor
