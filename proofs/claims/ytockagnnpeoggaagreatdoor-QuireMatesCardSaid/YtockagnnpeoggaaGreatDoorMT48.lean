/- The parts Ct of the proof, joined. It holds without conditions of its own. -/
import Derived.Test.YtockagnnpeoggaaGreatDoorMT47
import Derived.Test.YtockagnnpeoggaaGreatDoorMT29
/- The reference's Differ. -/
namespace Go.Proofs.YtockagnnpeoggaaGreatDoor
set_option linter.unusedSimpArgs false
set_option linter.unusedVariables false
open Go Go.RowKit Go.Sort Go.BigFrame Go.Shelf
attribute [local go_sem] Oper.semAt_some putAll

theorem bytes_other {s t : List UInt8} (h : s ≠ t) : ¬ (⟨s.toArray⟩ : ByteArray) = ⟨t.toArray⟩ := fun e => h (by
  have := congrArg ByteArray.data e
  simpa using this)
theorem text_at {b : Bk} {k : Nat} {x : Lf} (h : (lvs b)[k]? = some x) : (textsF b)[k]? = some (lfText b x) := by unfold textsF; rw [List.getElem?_map, h]; rfl
theorem name_at {b : Bk} {k : Nat} {x : Lf} (h : (lvs b)[k]? = some x) : (namesF b)[k]? = some (nameQ b x) := by unfold namesF; rw [List.getElem?_map, h]; rfl
theorem texts_len (b : Bk) : (textsF b).length = (lvs b).length := by simp [textsF]
theorem names_len (b : Bk) : (namesF b).length = (lvs b).length := by simp [namesF]
/-- Leaves of two books are written alike just if they have one name. -/
theorem text_name {b c : Bk} {x y : Lf} (he : errF b = 0) (hf : errF c = 0) (hx : x ∈ lvs b) (hy : y ∈ lvs c) : lfText b x = lfText c y ↔ nameQ b x = nameQ c y := by
  constructor
  · intro h
    have h1 := text_back he hx
    have h2 := text_back hf hy
    rw [h, h2] at h1
    exact (Option.some.inj h1).symm
  · intro h
    obtain ⟨g, hg, _⟩ := lvs_mem hx
    obtain ⟨k, hk, _⟩ := lvs_mem hy
    simp only [nameQ, hg, hk, Prod.mk.injEq] at h
    obtain ⟨h1, h2, h3, h4⟩ := h
    simp only [lfText, hg, hk, h1, h2, h3, h4]

/-- Two books in their boxes. -/
abbrev twoB (n : Nat) (b c : Bk) (a a2 : Option Addr) (cap cap2 : Nat) : List (Nat × Obj) :=
  [(n, .cells #[.int .i64 b.signed, .slice a b.gs.length cap] 24), (n + 1, .cells #[.int .i64 c.signed, .slice a2 c.gs.length cap2] 24)]
theorem twoB_start (b c : Bk) (a a2 : Option Addr) (cap cap2 : Nat) (w : World) :
    Held w (twoB w.heap.size b c a a2 cap cap2) ((w.alloc (.cells #[.int .i64 b.signed, .slice a b.gs.length cap] 24)).alloc (.cells #[.int .i64 c.signed, .slice a2 c.gs.length cap2] 24)) := by
  refine ⟨by exact (by repeat (first | (refine Below.setCell ?_ ?_ _; rotate_left; · (first | omega | (simp; done) | (simp; omega) | fail)) | (refine Below.alloc ?_ ?_ _; rotate_left; · (first | omega | (simp; done) | (simp; omega) | fail)) | refine Below.drew ?_ | exact Below.refl _ _ | fail)), fun p hp => ?_⟩
  (simp only [List.mem_cons, List.not_mem_nil, or_false] at hp)
  rcases hp with rfl | rfl
  · exact (by repeat (first | exact heap_alloc_at _ _ _ (by (first | omega | (simp; done) | (simp; omega) | fail)) | (refine (heap_alloc_past _ _ _ ?_).trans ?_; · (first | omega | (simp; done) | (simp; omega) | fail)) | fail))
  · exact (by repeat (first | exact heap_alloc_at _ _ _ (by (first | omega | (simp; done) | (simp; omega) | fail)) | (refine (heap_alloc_past _ _ _ ?_).trans ?_; · (first | omega | (simp; done) | (simp; omega) | fail)) | fail))


set_option maxRecDepth 100000 in
set_option maxHeartbeats 400000 in
theorem refDiffer_bad1 (b c : Bk) (v u : Value) (w : World) (hb : BookAt w.heap.size w v b) (hc : BookAt w.heap.size w u c) (he : errF b ≠ 0) :
    Calls Tryz.prog 15 #[v, u] w fun e w' => e = .returned (.tuple #[.int .i64 0, .int .i64 (errF b)]) ∧ Below w.heap.size w w' := by
  have e1 : (errF b == 0) = false := by simp [he]
  have e2 : (errF b != 0) = true := by simp [he]
  clear he
  have hb' := hb
  have hc' := hc
  obtain ⟨sv, rfl, hgs⟩ := hb
  obtain ⟨a, cap, rfl, -⟩ := hgs
  obtain ⟨sv2, rfl, hgs2⟩ := hc
  obtain ⟨a2, cap2, rfl, -⟩ := hgs2
  have HC := Lib.hid hc'
  have HB := Lib.hid hb'
  have HV : ∀ b, Hid (checkR b = .tuple #[.int .i64 (checkF b).1, .int .i64 (checkF b).2.1, .int .i64 (errF b)]) := fun b => Lib.hid rfl
  clear hc' hb'
  go_enter Tryz.func15, Tryz.ntmps15
  go_wp2_with fail
  have HH := Lib.hid (twoB_start b c a a2 cap cap2 w)
  revert HH
  generalize (w.alloc (.cells #[.int .i64 b.signed, .slice a b.gs.length cap] 24)).alloc (.cells #[.int .i64 c.signed, .slice a2 c.gs.length cap2] 24) = w1
  intro HH
  have h0 := HH.out.get 0 rfl
  have q0 := blk_cell h0 0; have q1 := blk_cell h0 1
  clear h0
  go_wp2_with fail
  refine (refCheck_any b _ _ (HB.out.below (B := w.heap.size) HH.out.below (Nat.le_refl _) |>.mono HH.out.below.size)).mono ?_
  rintro e w2 ⟨rfl, hb2⟩
  rw [(HV b).out]
  have HH := Lib.hid (HH.out.below' hb2)
  clear hb2 q0 q1
  go_wp2_with fail
  go_ret2
  exact ⟨rfl, HH.out.below⟩


set_option maxRecDepth 100000 in
set_option maxHeartbeats 400000 in
theorem refDiffer_bad2 (b c : Bk) (v u : Value) (w : World) (hb : BookAt w.heap.size w v b) (hc : BookAt w.heap.size w u c) (he : errF b = 0) (hf : errF c ≠ 0) :
    Calls Tryz.prog 15 #[v, u] w fun e w' => e = .returned (.tuple #[.int .i64 0, .int .i64 (errF c)]) ∧ Below w.heap.size w w' := by
  have e1 : (errF b == 0) = true := by simp [he]
  have e2 : (errF c != 0) = true := by simp [hf]
  clear he hf
  have hb' := hb
  have hc' := hc
  obtain ⟨sv, rfl, hgs⟩ := hb
  obtain ⟨a, cap, rfl, -⟩ := hgs
  obtain ⟨sv2, rfl, hgs2⟩ := hc
  obtain ⟨a2, cap2, rfl, -⟩ := hgs2
  have HC := Lib.hid hc'
  have HB := Lib.hid hb'
  have HV : ∀ b, Hid (checkR b = .tuple #[.int .i64 (checkF b).1, .int .i64 (checkF b).2.1, .int .i64 (errF b)]) := fun b => Lib.hid rfl
  clear hc' hb'
  go_enter Tryz.func15, Tryz.ntmps15
  go_wp2_with fail
  have HH := Lib.hid (twoB_start b c a a2 cap cap2 w)
  revert HH
  generalize (w.alloc (.cells #[.int .i64 b.signed, .slice a b.gs.length cap] 24)).alloc (.cells #[.int .i64 c.signed, .slice a2 c.gs.length cap2] 24) = w1
  intro HH
  have h0 := HH.out.get 0 rfl
  have q0 := blk_cell h0 0; have q1 := blk_cell h0 1
  clear h0
  go_wp2_with fail
  refine (refCheck_any b _ _ (HB.out.below (B := w.heap.size) HH.out.below (Nat.le_refl _) |>.mono HH.out.below.size)).mono ?_
  rintro e w2 ⟨rfl, hb2⟩
  rw [(HV b).out]
  have HH := Lib.hid (HH.out.below' hb2)
  clear hb2 q0 q1
  have h0 := HH.out.get 1 rfl
  have q0 := blk_cell h0 0; have q1 := blk_cell h0 1
  clear h0
  go_wp2_with fail
  refine (refCheck_any c _ _ (HC.out.below (B := w.heap.size) HH.out.below (Nat.le_refl _) |>.mono HH.out.below.size)).mono ?_
  rintro e w3 ⟨rfl, hb3⟩
  rw [(HV c).out]
  have HH := Lib.hid (HH.out.below' hb3)
  clear hb3 q0 q1
  go_wp2_with fail
  go_ret2
  exact ⟨rfl, HH.out.below⟩

/-- What the two lists leave. -/
def DifCut2 (w : World) (b c : Bk) (va vc : Value) (a0 a' : Act) (w' : World) : Prop :=
  ∃ v1 v2, Below w.heap.size w w' ∧ StrsAt w' v1 (textsF b) ∧ StrsAt w' v2 (textsF c) ∧ a' = { tmps := putAll a0.tmps [(29, va), (30, v1), (31, vc), (32, v2), (9, v1), (10, v2)], defers := [] }

set_option maxRecDepth 100000 in
set_option maxHeartbeats 1600000 in
theorem refDiffer_good (b c : Bk) (v u : Value) (w : World) (hb : BookAt w.heap.size w v b) (hc : BookAt w.heap.size w u c) (he : errF b = 0) (hf : errF c = 0) :
    Calls Tryz.prog 15 #[v, u] w fun e w' => e = .returned (differR (diffAt 0 (namesF b) (namesF c))) ∧ Below w.heap.size w w' := by
  have e1 : (errF b == 0) = true := by simp [he]
  have e2 : (errF c != 0) = false := by simp [hf]
  have hfb := lvs_few (errF_zero he)
  have hfc := lvs_few (errF_zero hf)
  have HE := Lib.hid he
  have HF := Lib.hid hf
  clear he hf
  have hb' := hb
  have hc' := hc
  obtain ⟨sv, rfl, hgs⟩ := hb
  obtain ⟨a, cap, rfl, -⟩ := hgs
  obtain ⟨sv2, rfl, hgs2⟩ := hc
  obtain ⟨a2, cap2, rfl, -⟩ := hgs2
  have HC := Lib.hid hc'
  have HB := Lib.hid hb'
  have HV : ∀ b, Hid (checkR b = .tuple #[.int .i64 (checkF b).1, .int .i64 (checkF b).2.1, .int .i64 (errF b)]) := fun b => Lib.hid rfl
  clear hc' hb'
  go_enter Tryz.func15, Tryz.ntmps15
  go_wp2_with fail
  have HH := Lib.hid (twoB_start b c a a2 cap cap2 w)
  revert HH
  generalize (w.alloc (.cells #[.int .i64 b.signed, .slice a b.gs.length cap] 24)).alloc (.cells #[.int .i64 c.signed, .slice a2 c.gs.length cap2] 24) = w1
  intro HH
  have h0 := HH.out.get 0 rfl
  have q0 := blk_cell h0 0; have q1 := blk_cell h0 1
  clear h0
  go_wp2_with fail
  refine (refCheck_any b _ _ (HB.out.below (B := w.heap.size) HH.out.below (Nat.le_refl _) |>.mono HH.out.below.size)).mono ?_
  rintro e w2 ⟨rfl, hb2⟩
  rw [(HV b).out]
  have HH := Lib.hid (HH.out.below' hb2)
  clear hb2 q0 q1
  have h0 := HH.out.get 1 rfl
  have q0 := blk_cell h0 0; have q1 := blk_cell h0 1
  clear h0
  go_wp2_with fail
  refine (refCheck_any c _ _ (HC.out.below (B := w.heap.size) HH.out.below (Nat.le_refl _) |>.mono HH.out.below.size)).mono ?_
  rintro e w3 ⟨rfl, hb3⟩
  rw [(HV c).out]
  have HH := Lib.hid (HH.out.below' hb3)
  clear hb3 q0 q1
  go_wp2_with fail
  obtain ⟨w4, hw4⟩ : ∃ w4, w4 = w3.drew := ⟨_, rfl⟩
  have HH4 : Hid (Held w (twoB w.heap.size b c a a2 cap cap2) w4) := Lib.hid (by rw [hw4]; exact HH.out.below' (Below.drew (Below.refl _ _)))
  refine wp_cut (DifCut2 w b c (.agg #[.int .i64 b.signed, .slice a b.gs.length cap]) (.agg #[.int .i64 c.signed, .slice a2 c.gs.length cap2])) ?_ ?_
  · refine wpIn_region_orders (by kernel_rfl) [[0, 1, 2, 3, 4, 5], [0, 2, 1, 3, 4, 5], [2, 0, 1, 3, 4, 5]] (by kernel_rfl) ?_
    rw [← hw4]
    clear hw4 HH
    have h6 := HH4.out.get 0 rfl
    have h8 := HH4.out.get 1 rfl
    have q0 := blk_cell h6 0; have q1 := blk_cell h6 1
    have u0 := blk_cell h8 0; have u1 := blk_cell h8 1
    simp only [List.forall_mem_cons]
    refine ⟨?_, ?_, ?_, fun _ h => by cases h⟩
    all_goals
      simp only [List.filterMap_cons, List.filterMap_nil, List.getElem?_toArray, List.getElem?_cons_zero, List.getElem?_cons_succ]
      change wpListIn _ _ _ _ _ [_, _, _, _, _, _] _ _
      gi_wp2_with fail
      refine ⟨trivial, ?_⟩
      refine (callsIn_wide.2 (refNames_any b _ _ (HB.out.below (B := w.heap.size) HH4.out.below (Nat.le_refl _) |>.mono HH4.out.below.size) HE.out)).mono ?_
      rintro e w5 ⟨⟨v1, rfl, n1⟩, hb5⟩
      have hh5 := HH4.out.below' hb5
      have N1 := Lib.hid n1
      have HH5 := Lib.hid hh5
      have h8 := hh5.get 1 rfl
      clear u0 u1
      have u0 := blk_cell h8 0; have u1 := blk_cell h8 1
      clear h8 h6 n1 hh5 hb5 q0 q1
      gi_wp2_with fail
      refine ⟨trivial, ?_⟩
      refine (callsIn_wide.2 (refNames_any c _ _ (HC.out.below (B := w.heap.size) HH5.out.below (Nat.le_refl _) |>.mono HH5.out.below.size) HF.out)).mono ?_
      rintro e w6 ⟨⟨v2, rfl, n2⟩, hb6⟩
      have hF : Hid (Below w.heap.size w w6 ∧ StrsAt w6 v1 (textsF b) ∧ StrsAt w6 v2 (textsF c)) := ⟨(HH5.out.below' hb6).below, N1.out.later hb6, n2⟩
      clear n2 hb6 N1
      gi_wp2_with fail
      exact Cut.mk ⟨v1, v2, hF.out.1, hF.out.2.1, hF.out.2.2, by simp only [putAll, List.foldl_cons, List.foldl_nil, List.setIfInBounds_toArray, List.set_cons_succ, List.set_cons_zero]⟩
  · rintro a' w4 ⟨v1, v2, hb4, n1, n2, rfl⟩
    obtain ⟨ax, capx, rfl, hx⟩ := n1
    obtain ⟨ay, capy, rfl, hy⟩ := n2
    have HB4 := Lib.hid hb4
    have HX := Lib.hid hx
    have HY := Lib.hid hy
    rw [texts_len, texts_len]
    obtain ⟨N, hN⟩ : ∃ N, N = (lvs b).length := ⟨_, rfl⟩
    obtain ⟨M, hM⟩ : ∃ M, M = (lvs c).length := ⟨_, rfl⟩
    rw [← hN] at hfb ⊢
    rw [← hM] at hfc ⊢
    have HN := Lib.hid hN
    have HM := Lib.hid hM
    clear hb4 hx hy HH HH4 HV hN hM
    simp only [putAll, List.foldl_cons, List.foldl_nil, List.setIfInBounds_toArray, List.set_cons_succ, List.set_cons_zero]
    go_wp2_with fail
    go_loopw [11] (fun i wr => ∃ (k m : Nat), k ≤ N ∧ k ≤ M ∧ i = .int .i64 k ∧ wr = w4.drewN m ∧ Hid (diffAt 0 (namesF b) (namesF c) = diffAt k ((namesF b).drop k) ((namesF c).drop k))) (fun i _ => N - (intOf i).toNat)
    case atStart => exact ⟨0, 0, by omega, by omega, rfl, rfl, rfl⟩
    case round =>
      obtain ⟨k, m, hkN, hkM, rfl, rfl, hh⟩ := hrel
      by_cases hlN : k < N
      · have d1 : decide ((k : Int) < N) = true := decide_eq_true (by omega)
        have d2 : decide ((N : Int) ≤ k) = false := decide_eq_false (by omega)
        have n2 : ¬ N ≤ k := by omega
        by_cases hlM : k < M
        · obtain ⟨x, hx⟩ : ∃ x, (lvs b)[k]? = some x := ⟨_, List.getElem?_eq_getElem (by have := HN.out; omega)⟩
          obtain ⟨y, hy⟩ : ∃ y, (lvs c)[k]? = some y := ⟨_, List.getElem?_eq_getElem (by have := HM.out; omega)⟩
          have hx' := text_at hx
          have hy' := text_at hy
          obtain ⟨gx, rfl, -, hcx⟩ := HX.out (fun e => by rw [e] at hx'; cases hx')
          obtain ⟨gy, rfl, -, hcy⟩ := HY.out (fun e => by rw [e] at hy'; cases hy')
          have x0 := hcx k _ hx'
          have y0 := hcy k _ hy'
          have htn := text_name HE.out HF.out (List.mem_of_getElem? hx) (List.mem_of_getElem? hy)
          have HXX := Lib.hid (name_at hx)
          have HYY := Lib.hid (name_at hy)
          have d3 : decide ((M : Int) ≤ k) = false := decide_eq_false (by omega)
          have n3 : ¬ M ≤ k := by omega
          obtain ⟨tx, htx⟩ : ∃ tx, tx = lfText b x := ⟨_, rfl⟩
          obtain ⟨ty, hty⟩ : ∃ ty, ty = lfText c y := ⟨_, rfl⟩
          rw [← htx] at x0 htn
          rw [← hty] at y0 htn
          clear hcx hcy hx hy hx' hy' htx hty
          go_wp2_with fail
          by_cases e : tx = ty
          · have HS := Lib.hid (hh.out.trans (diff_step HXX.out HYY.out (htn.1 e)))
            subst e
            clear htn hh
            go_quiet (fail)
            go_wp2_with fail
            go_roundw
            case rel => exact ⟨k + 1, m + nq, by omega, by omega, by go_num, rfl, HS.out⟩
            case measure => simp [intOf]; omega
          · have HS := Lib.hid (hh.out.trans (diff_stop HXX.out HYY.out (fun h => e (htn.2 h))))
            have eb := bytes_other e
            have eb2 : (tx == ty) = false := by simp [e]
            clear htn hh e
            go_quiet (fail)
            go_wp2_with fail
            go_ret2
            exact ⟨by rw [HS.out]; rfl, (by first | exact bdrewN HB4.out _ | exact bdrewN (bdrewN HB4.out _) _)⟩
        · have hS := hh.out.trans (diff_end (k := k) (by rw [names_len, names_len, ← HN.out, ← HM.out]; omega))
          rw [names_len, names_len, ← HN.out, ← HM.out, if_neg (by omega)] at hS
          have HS := Lib.hid hS
          have d3 : decide ((M : Int) ≤ k) = true := decide_eq_true (by omega)
          have n3 : M ≤ k := by omega
          clear hh hS
          go_wp2_with fail
          go_quiet (fail)
          go_wp2_with fail
          go_ret2
          exact ⟨by rw [HS.out]; rfl, (by first | exact bdrewN HB4.out _ | exact bdrewN (bdrewN HB4.out _) _)⟩
      · have hS := hh.out.trans (diff_end (k := k) (by rw [names_len, names_len, ← HN.out, ← HM.out]; omega))
        rw [names_len, names_len, ← HN.out, ← HM.out] at hS
        have d1 : decide ((k : Int) < N) = false := decide_eq_false (by omega)
        have d2 : decide ((N : Int) ≤ k) = true := decide_eq_true (by omega)
        have n2 : N ≤ k := by omega
        by_cases hlM : k < M
        · have d3 : decide ((k : Int) < M) = true := decide_eq_true (by omega)
          rw [if_neg (by omega)] at hS
          have HS := Lib.hid hS
          clear hh hS
          go_wp2_with fail
          go_quiet (fail)
          go_wp2_with fail
          go_ret2
          exact ⟨by rw [HS.out]; rfl, (by first | exact bdrewN HB4.out _ | exact bdrewN (bdrewN HB4.out _) _)⟩
        · have d3 : decide ((k : Int) < M) = false := decide_eq_false (by omega)
          rw [if_pos (by omega)] at hS
          have HS := Lib.hid hS
          clear hh hS
          go_wp2_with fail
          go_ret2
          exact ⟨by rw [HS.out]; rfl, (by first | exact bdrewN HB4.out _ | exact bdrewN (bdrewN HB4.out _) _)⟩
end Go.Proofs.YtockagnnpeoggaaGreatDoor
