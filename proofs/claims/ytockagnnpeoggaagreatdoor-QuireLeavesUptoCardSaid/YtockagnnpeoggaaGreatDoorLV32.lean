/- The parts Cp, Cg, Cq, Ax of the proof, joined. It holds without conditions of its own. -/
import Derived.Test.YtockagnnpeoggaaGreatDoorLV31
import Derived.Test.YtockagnnpeoggaaGreatDoorLV24
import Derived.Test.YtockagnnpeoggaaGreatDoorLV19
/- The reference's Mate. -/
namespace Go.Proofs.YtockagnnpeoggaaGreatDoor
set_option linter.unusedSimpArgs false
set_option linter.unusedVariables false
open Go Go.RowKit Go.Sort Go.BigFrame Go.Shelf
attribute [local go_sem] Oper.semAt_some putAll

theorem mate_out {b : Bk} {n : Int} (h : inB 0 ((lvs b).length - 1) n = false) : mateF b n = none := by
  have e : getL (lvs b) n = none := by
    cases hx : getL (lvs b) n with
    | none => rfl
    | some x =>
      unfold getL at hx
      split at hx
      · cases hx
      · have := (List.getElem?_eq_some_iff.1 hx).1
        simp [inB] at h
        omega
  unfold mateF
  rw [e]
theorem mate_in {b : Bk} {n : Int} (h : inB 0 ((lvs b).length - 1) n = true) : ∃ (i : Nat) (x : Lf), n = i ∧ (lvs b)[i]? = some x := by
  simp [inB] at h
  exact ⟨n.toNat, _, by omega, List.getElem?_eq_getElem (by omega)⟩

set_option maxRecDepth 100000 in
set_option maxHeartbeats 400000 in
theorem refMate_bad (b : Bk) (v : Value) (n : Int) (w : World) (hb : BookAt w.heap.size w v b) (he : errF b ≠ 0) :
    Calls Tryz.prog 10 #[v, .int .i64 n] w fun e w' => e = .returned (.tuple #[.int .i64 0, .int .i64 (errF b)]) ∧ Below w.heap.size w w' := by
  obtain ⟨sv, rfl, hgs⟩ := hb
  have hb : BookAt w.heap.size w (.agg #[.int .i64 b.signed, sv]) b := ⟨sv, rfl, hgs⟩
  obtain ⟨a, cap, rfl, -⟩ := hgs
  have HK := Lib.hid (BkBox.start hb)
  clear hb
  have hne : (errF b != 0) = true := by simp [he]
  have HE := Lib.hid he
  clear he
  have c0 := blk_cell HK.out.box 0; have c1 := blk_cell HK.out.box 1
  go_enter Tryz.func10, Tryz.ntmps10
  go_wp2_with fail
  refine (refLeaves_bad b _ _ HK.out.book HE.out).mono ?_
  rintro e w1 ⟨rfl, hb1⟩
  have HK := Lib.hid (HK.out.later hb1)
  clear hb1 c0 c1
  go_wp2_with fail
  go_ret2
  exact ⟨rfl, HK.out.below⟩

set_option maxRecDepth 100000 in
set_option maxHeartbeats 800000 in
theorem refMate_good (b : Bk) (v : Value) (n : Int) (w : World) (hb : BookAt w.heap.size w v b) (he : errF b = 0) :
    Calls Tryz.prog 10 #[v, .int .i64 n] w fun e w' => e = .returned (mateR (mateF b n)) ∧ Below w.heap.size w w' := by
  obtain ⟨sv, rfl, hgs⟩ := hb
  have hb : BookAt w.heap.size w (.agg #[.int .i64 b.signed, sv]) b := ⟨sv, rfl, hgs⟩
  obtain ⟨a, cap, rfl, -⟩ := hgs
  have HK := Lib.hid (BkBox.start hb)
  clear hb
  have hfew := lvs_few (errF_zero he)
  have HE := Lib.hid he
  obtain ⟨N, hN⟩ : ∃ N, N = (lvs b).length := ⟨_, rfl⟩
  have HN := Lib.hid hN
  rw [← hN] at hfew
  clear he hN
  have c0 := blk_cell HK.out.box 0; have c1 := blk_cell HK.out.box 1
  go_enter Tryz.func10, Tryz.ntmps10
  go_wp2_with fail
  refine (refLeaves_good b _ _ HK.out.book HE.out).mono ?_
  rintro e w1 ⟨⟨v', rfl, hL⟩, hb1⟩
  have HK := Lib.hid (HK.out.later hb1)
  clear hb1 c0 c1
  obtain ⟨la, lcap, rfl, -⟩ := hL
  rw [← HN.out]
  have c0 := blk_cell HK.out.box 0; have c1 := blk_cell HK.out.box 1
  have hw1 : wrap64 ((N : Int) - 1) = (N : Int) - 1 := by unfold wrap64; omega
  go_wp2_with fail
  refine (refIn_any n 0 ((N : Int) - 1) _).mono ?_
  rintro e w2 ⟨rfl, hb2⟩
  have HK := Lib.hid (HK.out.later (hb2.mono (Nat.le_refl _)))
  clear hb2 c0 c1
  have c0 := blk_cell HK.out.box 0; have c1 := blk_cell HK.out.box 1
  cases hi : inB 0 ((N : Int) - 1) n with
  | false =>
    have HM : Hid (mateF b n = none) := Lib.hid (mate_out (by rw [← HN.out]; exact hi))
    clear hi
    go_wp2_with fail
    go_ret2
    exact ⟨by rw [HM.out]; rfl, HK.out.below⟩
  | true =>
    obtain ⟨i, x, rfl, hx⟩ := mate_in (b := b) (n := n) (by rw [← HN.out]; exact hi)
    have HX := Lib.hid hx
    clear hi hx
    go_wp2_with fail
    refine (refPair_any b _ i x _ HK.out.book HE.out HX.out).mono ?_
    rintro e w3 ⟨rfl, hb3⟩
    have HK := Lib.hid (HK.out.later hb3)
    clear hb3 c0 c1
    have c0 := blk_cell HK.out.box 0; have c1 := blk_cell HK.out.box 1
    cases hm : mateF b i with
    | none =>
      have hp : pairF b i = -1 := by unfold pairF; rw [hm]
      rw [hp]
      have HM := Lib.hid hm
      clear hp hm
      go_wp2_with fail
      go_ret2
      exact ⟨by rw [HM.out]; rfl, HK.out.below⟩
    | some k =>
      have hp : pairF b i = k := by unfold pairF; rw [hm]
      rw [hp]
      have e0 : decide ((k : Int) < 0) = false := decide_eq_false (by omega)
      have HP := Lib.hid hp
      have HM := Lib.hid hm
      clear hp hm
      go_wp2_with fail
      refine (refPair_any b _ i x _ HK.out.book HE.out HX.out).mono ?_
      rintro e w4 ⟨rfl, hb4⟩
      have HK := Lib.hid (HK.out.later hb4)
      rw [HP.out]
      clear hb4 c0 c1
      go_wp2_with fail
      go_ret2
      exact ⟨by rw [HM.out]; rfl, HK.out.below⟩
end Go.Proofs.YtockagnnpeoggaaGreatDoor

/- The reference: how a signature is written; Sig; the signature behind another one; Next. -/
namespace Go.Proofs.YtockagnnpeoggaaGreatDoor
set_option linter.unusedSimpArgs false
set_option linter.unusedVariables false
open Go Go.RowKit Go.Sort Go.BigFrame

theorem digN_dec3 {r : Int} (h0 : 0 ≤ r) (h1 : r < 100) : digN r.toNat = dec r := digN_dec (by omega)
set_option maxRecDepth 100000 in
set_option maxHeartbeats 800000 in
theorem refWritten_any (r l : Int) (hs : sigB r l = true) (w : World) :
    Calls Tryz.prog 31 #[.agg #[.int .i64 r, .int .i64 l]] w fun e w' => e = .returned (S (sigT r l)) ∧ Below w.heap.size w w' := by
  have hb : 1 ≤ r ∧ r ≤ 3 ∧ 0 ≤ l ∧ l ≤ 24 := by simp [sigB, inB] at hs; omega
  obtain ⟨r1, r2, l1, l2⟩ := hb
  clear hs
  have z2 := dec_len r
  have zr : (⟨(dec r).toArray⟩ : ByteArray).size ≤ 2 := by rw [size_bytes]; exact z2
  have hL : Hid (l = 23 ∧ letterT l = [112, 105] ∨ l = 24 ∧ letterT l = [99, 104, 105] ∨ l < 23 ∧ letterT l = [letterL.getD l.toNat 0]) := Lib.hid (by
    unfold letterT
    by_cases h23 : l = 23
    · exact Or.inl ⟨h23, if_pos h23⟩
    by_cases h24 : l = 24
    · exact Or.inr (Or.inl ⟨h24, by rw [if_neg h23, if_pos h24]⟩)
    · exact Or.inr (Or.inr ⟨by omega, by rw [if_neg h23, if_neg h24]⟩))
  obtain ⟨k, hk⟩ : ∃ k : Nat, r = k := ⟨r.toNat, by omega⟩
  by_cases h : 1 < r
  · have hd : decide (1 < r) = true := decide_eq_true h
    have HE : Hid (sigT r l = dec r ++ letterT l) := Lib.hid (by unfold sigT; rw [if_pos h])
    have hdg := fun W => refDigits_any k (by omega) W
    rw [← hk, show digN k = dec r from by rw [← digN_dec3 (by omega) (by omega), hk]; rfl] at hdg
    have HD := Lib.hid hdg
    clear h hdg hk
    rcases hL.out with ⟨rfl, e⟩ | ⟨rfl, e⟩ | ⟨hl, e⟩
    · have HT := Lib.hid e
      clear e hL
      go_enter Tryz.func31, Tryz.ntmps31
      go_wp2_with fail
      refine (HD.out _).mono ?_
      rintro e w1 ⟨rfl, hb1⟩
      have k1 : w1.cell? ⟨w.heap.size, 1, none⟩ = some (.int .i64 23) := cell_later' hb1 (by simp [World.cell?_alloc_at])
      have hb0 : Below w.heap.size w w1 := Below.trans (by exact (by repeat (first | (refine Below.setCell ?_ ?_ _; rotate_left; · (first | omega | (simp; done) | (simp; omega) | fail)) | (refine Below.alloc ?_ ?_ _; rotate_left; · (first | omega | (simp; done) | (simp; omega) | fail)) | refine Below.drew ?_ | exact Below.refl _ _ | fail))) (hb1.mono (by simp; try omega))
      clear hb1
      go_wp2_with fail
      go_ret
      exact ⟨ret_S (by rw [HE.out, HT.out]; exact cat_bytes _ _), hb0⟩
    · have HT := Lib.hid e
      clear e hL
      go_enter Tryz.func31, Tryz.ntmps31
      go_wp2_with fail
      refine (HD.out _).mono ?_
      rintro e w1 ⟨rfl, hb1⟩
      have k1 : w1.cell? ⟨w.heap.size, 1, none⟩ = some (.int .i64 24) := cell_later' hb1 (by simp [World.cell?_alloc_at])
      have hb0 : Below w.heap.size w w1 := Below.trans (by exact (by repeat (first | (refine Below.setCell ?_ ?_ _; rotate_left; · (first | omega | (simp; done) | (simp; omega) | fail)) | (refine Below.alloc ?_ ?_ _; rotate_left; · (first | omega | (simp; done) | (simp; omega) | fail)) | refine Below.drew ?_ | exact Below.refl _ _ | fail))) (hb1.mono (by simp; try omega))
      clear hb1
      go_wp2_with fail
      go_ret
      exact ⟨ret_S (by rw [HE.out, HT.out]; exact cat_bytes _ _), hb0⟩
    · have HT := Lib.hid e
      clear e hL
      obtain ⟨j, rfl⟩ := Int.eq_ofNat_of_zero_le l1
      rw [Int.toNat_natCast] at HT
      have hj : j < 23 := by omega
      have hc := Lib.hid (letter_cut j hj)
      have b23 : ((j : Int) == 23) = false := by simp; omega
      have b24 : ((j : Int) == 24) = false := by simp; omega
      have d1 : IntKind.i64.wrap ((j : Int) + 1) = ((j + 1 : Nat) : Int) := by rw [IntWalk.i64_in _ (by omega)]; omega
      go_enter Tryz.func31, Tryz.ntmps31
      go_wp2_with fail
      refine (HD.out _).mono ?_
      rintro e w1 ⟨rfl, hb1⟩
      have k1 : w1.cell? ⟨w.heap.size, 1, none⟩ = some (.int .i64 j) := cell_later' hb1 (by simp [World.cell?_alloc_at])
      have hb0 : Below w.heap.size w w1 := Below.trans (by exact (by repeat (first | (refine Below.setCell ?_ ?_ _; rotate_left; · (first | omega | (simp; done) | (simp; omega) | fail)) | (refine Below.alloc ?_ ?_ _; rotate_left; · (first | omega | (simp; done) | (simp; omega) | fail)) | refine Below.drew ?_ | exact Below.refl _ _ | fail))) (hb1.mono (by simp; try omega))
      clear hb1
      go_wp2_with fail
      go_ret
      exact ⟨ret_S (by rw [HE.out, HT.out, hc.out]; exact cat_bytes _ _), hb0⟩
  · have hd : decide (1 < r) = false := decide_eq_false h
    have HE : Hid (sigT r l = letterT l) := Lib.hid (by unfold sigT; rw [if_neg h]; rfl)
    clear h hk
    rcases hL.out with ⟨rfl, e⟩ | ⟨rfl, e⟩ | ⟨hl, e⟩
    · have HT := Lib.hid e
      clear e hL
      go_enter Tryz.func31, Tryz.ntmps31
      go_wp2_with fail
      go_ret
      exact ⟨by rw [HE.out, HT.out]; rfl, (by repeat (first | exact Below.refl _ _ | assumption | (refine Below.alloc ?_ ?_ _; rotate_left; · (first | omega | (simp; done) | (simp; omega) | (simp at *; omega) | fail)) | (refine Below.setCell ?_ ?_ _; rotate_left; · (first | omega | (simp; done) | (simp; omega) | (simp at *; omega) | fail)) | refine Below.drew ?_ | fail))⟩
    · have HT := Lib.hid e
      clear e hL
      go_enter Tryz.func31, Tryz.ntmps31
      go_wp2_with fail
      go_ret
      exact ⟨by rw [HE.out, HT.out]; rfl, (by repeat (first | exact Below.refl _ _ | assumption | (refine Below.alloc ?_ ?_ _; rotate_left; · (first | omega | (simp; done) | (simp; omega) | (simp at *; omega) | fail)) | (refine Below.setCell ?_ ?_ _; rotate_left; · (first | omega | (simp; done) | (simp; omega) | (simp at *; omega) | fail)) | refine Below.drew ?_ | fail))⟩
    · have HT := Lib.hid e
      clear e hL
      obtain ⟨j, rfl⟩ := Int.eq_ofNat_of_zero_le l1
      rw [Int.toNat_natCast] at HT
      have hj : j < 23 := by omega
      have hc := Lib.hid (letter_cut j hj)
      have b23 : ((j : Int) == 23) = false := by simp; omega
      have b24 : ((j : Int) == 24) = false := by simp; omega
      have d1 : IntKind.i64.wrap ((j : Int) + 1) = ((j + 1 : Nat) : Int) := by rw [IntWalk.i64_in _ (by omega)]; omega
      go_enter Tryz.func31, Tryz.ntmps31
      go_wp2_with fail
      go_ret
      exact ⟨ret_S (by rw [HE.out, HT.out, hc.out]; exact cat_bytes [] _), (by repeat (first | exact Below.refl _ _ | assumption | (refine Below.alloc ?_ ?_ _; rotate_left; · (first | omega | (simp; done) | (simp; omega) | (simp at *; omega) | fail)) | (refine Below.setCell ?_ ?_ _; rotate_left; · (first | omega | (simp; done) | (simp; omega) | (simp at *; omega) | fail)) | refine Below.drew ?_ | fail))⟩
end Go.Proofs.YtockagnnpeoggaaGreatDoor

/- The reference's Called. -/
namespace Go.Proofs.YtockagnnpeoggaaGreatDoor
set_option linter.unusedSimpArgs false
set_option linter.unusedVariables false
open Go Go.RowKit Go.Sort Go.BigFrame Go.Shelf
attribute [local go_sem] Oper.semAt_some putAll

theorem refDig_any (n : Int) (h0 : 0 ≤ n) (h1 : n < 100) (w : World) :
    Calls Tryz.prog 32 #[.int .i64 n] w fun e w' => e = .returned (S (dec n)) ∧ Below w.heap.size w w' := by
  obtain ⟨k, rfl⟩ := Int.eq_ofNat_of_zero_le h0
  have h := refDigits_any k (by omega) w
  have e : digN k = dec (k : Int) := digN_dec3 (r := (k : Int)) h0 h1
  rw [e] at h
  exact h

set_option maxRecDepth 100000 in
set_option maxHeartbeats 1600000 in
theorem refCalled_any (b : Bk) (v : Value) (x : Lf) (g : Gth) (w : World) (hb : BookAt w.heap.size w v b) (hg : b.gs[x.gat]? = some g) (hs : sigB g.round g.letter = true) (h0 : 0 ≤ x.num) (h1 : x.num ≤ 12) (h2 : 0 ≤ x.plus) (h3 : x.plus ≤ 4) :
    Calls Tryz.prog 70 #[v, .agg #[.int .i64 x.gat, .int .i64 x.num, .int .i64 x.plus, .int .i64 x.kind]] w fun e w' => e = .returned (S (lfText b x)) ∧ Below w.heap.size w w' := by
  obtain ⟨sv, rfl, hgs⟩ := hb
  have hb : BookAt w.heap.size w (.agg #[.int .i64 b.signed, sv]) b := ⟨sv, rfl, hgs⟩
  obtain ⟨a, cap, rfl, -⟩ := hgs
  have HK := Lib.hid ((BkBox.start hb).later (W' := (w.alloc (.cells #[.int .i64 b.signed, .slice a b.gs.length cap] 24)).alloc (.cells #[.int .i64 x.gat, .int .i64 x.num, .int .i64 x.plus, .int .i64 x.kind] 68)) ((Below.refl _ _).alloc (Nat.le_refl _) _))
  have HC : Hid (((w.alloc (.cells #[.int .i64 b.signed, .slice a b.gs.length cap] 24)).alloc (.cells #[.int .i64 x.gat, .int .i64 x.num, .int .i64 x.plus, .int .i64 x.kind] 68)).heap[w.heap.size + 1]? = some (.cells #[.int .i64 x.gat, .int .i64 x.num, .int .i64 x.plus, .int .i64 x.kind] 68)) := Lib.hid (by exact (by repeat (first | exact heap_alloc_at _ _ _ (by (first | omega | (simp; done) | (simp; omega) | fail)) | (refine (heap_alloc_past _ _ _ ?_).trans ?_; · (first | omega | (simp; done) | (simp; omega) | fail)) | fail)))
  clear hb
  have hgb : x.gat < b.gs.length := (List.getElem?_eq_some_iff.1 hg).1
  have HT : Hid (lfText b x = nameT g.round g.letter x.num x.plus) := Lib.hid (by simp [lfText, hg])
  have HGG := Lib.hid hg
  have HS := Lib.hid hs
  clear hg hs
  have z1 : (⟨(sigT g.round g.letter).toArray⟩ : ByteArray).size ≤ 5 := by rw [size_bytes]; exact sigT_len _ _
  have z2 : (⟨(dec x.num).toArray⟩ : ByteArray).size ≤ 2 := by rw [size_bytes]; exact dec_len _
  have z3 : (⟨(dec x.plus).toArray⟩ : ByteArray).size ≤ 2 := by rw [size_bytes]; exact dec_len _
  have z4 : ((⟨(sigT g.round g.letter).toArray⟩ : ByteArray) ++ ⟨(dec x.num).toArray⟩).size ≤ 7 := by rw [ByteArray.size_append]; omega
  have z5 : (((⟨(sigT g.round g.letter).toArray⟩ : ByteArray) ++ ⟨(dec x.num).toArray⟩) ++ ⟨#[43]⟩).size ≤ 8 := by rw [ByteArray.size_append]; have : (⟨#[43]⟩ : ByteArray).size = 1 := rfl; omega
  have z6 : (⟨#[43]⟩ : ByteArray).size = 1 := rfl
  go_enter Tryz.func70, Tryz.ntmps70
  go_wp2_with fail
  revert HK HC
  generalize (w.alloc (.cells #[.int .i64 b.signed, .slice a b.gs.length cap] 24)).alloc (.cells #[.int .i64 x.gat, .int .i64 x.num, .int .i64 x.plus, .int .i64 x.kind] 68) = w5
  intro HK HC
  obtain ⟨bb, off, rfl, -, ca, ccap, -, g0, g1, g2, g3⟩ := HK.out.gth HGG.out
  have c0 := blk_cell HK.out.box 0; have c1 := blk_cell HK.out.box 1
  have d0 := blk_cell HC.out 0; have d1 := blk_cell HC.out 1; have d2 := blk_cell HC.out 2; have d3 := blk_cell HC.out 3
  have r0 := cell_regrown c0
  have r1 := cell_regrown c1
  have s0 := cell_regrown d0
  have s1 := cell_regrown d1
  have t0 := cell_regrown g0
  have t1 := cell_regrown g1
  clear c0 c1 d0 d1 d2 d3 g0 g1 g2 g3
  have cW : ∀ d os, Calls Tryz.prog 31 #[.agg #[.int .i64 g.round, .int .i64 g.letter]] (grow (redrawn w5 d) os) (fun e w'' => e = .returned (S (sigT g.round g.letter)) ∧ ∃ p : Regrown, w'' = grow (redrawn w5 p.d) p.os) := fun d os => Calls.regrown_of (refWritten_any _ _ HS.out _)
  have cD : ∀ d os, Calls Tryz.prog 32 #[.int .i64 x.num] (grow (redrawn w5 d) os) (fun e w'' => e = .returned (S (dec x.num)) ∧ ∃ p : Regrown, w'' = grow (redrawn w5 p.d) p.os) := fun d os => Calls.regrown_of (refDig_any _ h0 (by omega) _)
  refine wp_region_quiet_below (by kernel_rfl) (by kernel_rfl) ?_; (repeat (go_big_quiet_step (first | exact cW _ _ | exact cD _ _))); refine wpQuiet_nil ?_; rintro w6 ⟨⟨d6, os6⟩, rfl⟩
  clear r0 r1 s0 s1 t0 t1 cW cD
  have HK := Lib.hid (HK.out.later (below_regrown w5 d6 os6))
  have HC := Lib.hid (blk_later (below_regrown w5 d6 os6) HC.out)
  revert HK HC
  generalize grow (redrawn w5 d6) os6 = w6
  intro HK HC
  have d0 := blk_cell HC.out 0; have d1 := blk_cell HC.out 1; have d2 := blk_cell HC.out 2; have d3 := blk_cell HC.out 3
  by_cases hp : 0 < x.plus
  · have e0 : decide (0 < x.plus) = true := decide_eq_true hp
    have HP := Lib.hid hp
    clear hp
    go_wp2_with fail
    refine (refDig_any x.plus h2 (by omega) _).mono ?_
    rintro e w7 ⟨rfl, hb7⟩
    have HK := Lib.hid (HK.out.later (hb7.mono (Nat.le_refl _)))
    clear hb7 d0 d1 d2 d3
    go_wp2_with fail
    go_ret
    refine ⟨?_, HK.out.below⟩
    rw [HT.out]
    refine ret_S ?_
    unfold nameT
    rw [if_pos HP.out]
    simp only [cat_bytes, List.append_assoc]
    exact cat_bytes _ _
  · have e0 : decide (0 < x.plus) = false := decide_eq_false hp
    have HP := Lib.hid hp
    clear hp
    go_wp2_with fail
    go_ret
    refine ⟨?_, HK.out.below⟩
    rw [HT.out]
    refine ret_S ?_
    unfold nameT
    rw [if_neg (by have := HP.out; omega)]
    simp only [cat_bytes, List.append_nil]
end Go.Proofs.YtockagnnpeoggaaGreatDoor

/- The book of the examples, as plain Lean and in memory. -/
namespace Go.Proofs.YtockagnnpeoggaaGreatDoor
set_option linter.unusedSimpArgs false
set_option linter.unusedVariables false
open Go Go.RowKit Go.Sort Go.BigFrame

/-- The changes of the examples' gathering D. -/
def exChs (k : Nat) : List Chg := [⟨1, 3, 0⟩, ⟨2, 5, 0⟩, ⟨3, 8, 1⟩].take (3 - k)
/-- The book of the examples, and the same without the last k changes. -/
def exBook (k : Nat) : Bk := ⟨4, [⟨1, 23, 2, []⟩, ⟨1, 0, 8, []⟩, ⟨1, 1, 8, []⟩, ⟨1, 2, 8, []⟩, ⟨1, 3, 8, exChs k⟩, ⟨1, 24, 1, []⟩]⟩

/-- The cells of the gatherings. -/
def exCells (sv : Value) : Array Value :=
  #[.int .i64 1, .int .i64 23, .int .i64 2, .slice none 0 0, .int .i64 1, .int .i64 0, .int .i64 8, .slice none 0 0, .int .i64 1, .int .i64 1, .int .i64 8, .slice none 0 0,
    .int .i64 1, .int .i64 2, .int .i64 8, .slice none 0 0, .int .i64 1, .int .i64 3, .int .i64 8, sv, .int .i64 1, .int .i64 24, .int .i64 1, .slice none 0 0]
def exChCells : Array Value := #[.int .i64 1, .int .i64 3, .int .i64 0, .int .i64 2, .int .i64 5, .int .i64 0, .int .i64 3, .int .i64 8, .int .i64 1]

theorem exChs_nil {B : Nat} {w : World} : ChsAt B w (.slice none 0 0) [] := ⟨none, 0, rfl, fun h => absurd rfl h⟩
theorem exChs_at {w : World} {C k : Nat} (hk : k ≤ 1) {e : TypeId} (h : w.heap[C]? = some (.cells exChCells e)) (hC : C < w.heap.size) :
    ChsAt w.heap.size w (.slice (some ⟨C, 0, none⟩) (3 - k) 3) (exChs k) := by
  refine ⟨some ⟨C, 0, none⟩, 3, by obtain rfl | rfl : k = 0 ∨ k = 1 := by omega
                                   all_goals rfl, fun _ => ⟨C, 0, rfl, hC, fun i c hc => ?_⟩⟩
  have hh : ∀ j v, exChCells[j]? = some v → w.cell? ⟨C, j, none⟩ = some v := fun j v hv => by simp [World.cell?, h, hv]
  obtain rfl | rfl : k = 0 ∨ k = 1 := by omega
  · rcases i with _ | _ | _ | i
    · cases hc; exact ⟨hh _ _ rfl, hh _ _ rfl, hh _ _ rfl⟩
    · cases hc; exact ⟨hh _ _ rfl, hh _ _ rfl, hh _ _ rfl⟩
    · cases hc; exact ⟨hh _ _ rfl, hh _ _ rfl, hh _ _ rfl⟩
    · simp [exChs] at hc
  · rcases i with _ | _ | i
    · cases hc; exact ⟨hh _ _ rfl, hh _ _ rfl, hh _ _ rfl⟩
    · cases hc; exact ⟨hh _ _ rfl, hh _ _ rfl, hh _ _ rfl⟩
    · simp [exChs] at hc

theorem exBook_at {w : World} {C G k : Nat} (hk : k ≤ 1) {e f : TypeId} (h : w.heap[C]? = some (.cells exChCells e)) (hC : C < w.heap.size)
    (hg : w.heap[G]? = some (.cells (exCells (.slice (some ⟨C, 0, none⟩) (3 - k) 3)) f)) (hG : G < w.heap.size) :
    BookAt w.heap.size w (.agg #[.int .i64 4, .slice (some ⟨G, 0, none⟩) 6 6]) (exBook k) := by
  refine ⟨_, rfl, some ⟨G, 0, none⟩, 6, rfl, fun _ => ⟨G, 0, rfl, hG, fun i g hi => ?_⟩⟩
  have hh : ∀ j v, (exCells (.slice (some ⟨C, 0, none⟩) (3 - k) 3))[j]? = some v → w.cell? ⟨G, j, none⟩ = some v := fun j v hv => by simp [World.cell?, hg, hv]
  rcases i with _ | _ | _ | _ | _ | _ | i
  · cases hi; exact ⟨_, exChs_nil, hh _ _ rfl, hh _ _ rfl, hh _ _ rfl, hh _ _ rfl⟩
  · cases hi; exact ⟨_, exChs_nil, hh _ _ rfl, hh _ _ rfl, hh _ _ rfl, hh _ _ rfl⟩
  · cases hi; exact ⟨_, exChs_nil, hh _ _ rfl, hh _ _ rfl, hh _ _ rfl, hh _ _ rfl⟩
  · cases hi; exact ⟨_, exChs_nil, hh _ _ rfl, hh _ _ rfl, hh _ _ rfl, hh _ _ rfl⟩
  · cases hi; exact ⟨_, exChs_at hk h hC, hh _ _ rfl, hh _ _ rfl, hh _ _ rfl, hh _ _ rfl⟩
  · cases hi; exact ⟨_, exChs_nil, hh _ _ rfl, hh _ _ rfl, hh _ _ rfl, hh _ _ rfl⟩
  · simp [exBook] at hi

end Go.Proofs.YtockagnnpeoggaaGreatDoor
