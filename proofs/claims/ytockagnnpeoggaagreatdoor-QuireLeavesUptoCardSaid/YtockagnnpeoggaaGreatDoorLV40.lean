/- The parts Cy of the proof, joined. It holds without conditions of its own. -/
import Derived.Test.YtockagnnpeoggaaGreatDoorLV39
import Derived.Test.YtockagnnpeoggaaGreatDoorLV23
/- The reference's Leaf and Find. -/
namespace Go.Proofs.YtockagnnpeoggaaGreatDoor
set_option linter.unusedSimpArgs false
set_option linter.unusedVariables false
open Go Go.RowKit Go.Sort Go.BigFrame Go.Shelf
attribute [local go_sem] Oper.semAt_some putAll

theorem getL_out {α : Type} {xs : List α} {n : Int} (h : inB 0 ((xs.length : Int) - 1) n = false) : getL xs n = none := by
  simp [inB] at h
  unfold getL
  split
  · rfl
  · exact List.getElem?_eq_none (by omega)


set_option maxRecDepth 100000 in
set_option maxHeartbeats 400000 in
theorem refLeaf_bad (b : Bk) (v : Value) (n : Int) (w : World) (hb : BookAt w.heap.size w v b) (he : errF b ≠ 0) :
    Calls Tryz.prog 21 #[v, .int .i64 n] w fun e w' => e = .returned (.tuple #[S [], .int .i64 (errF b)]) ∧ Below w.heap.size w w' := by
  have hne : (errF b != 0) = true := by simp [he]
  clear he
  obtain ⟨sv, rfl, hgs⟩ := hb
  have hb : BookAt w.heap.size w (.agg #[.int .i64 b.signed, sv]) b := ⟨sv, rfl, hgs⟩
  obtain ⟨a, cap, rfl, -⟩ := hgs
  have HK := Lib.hid (BkBox.start hb)
  clear hb
  have HVR : Hid (checkR b = .tuple #[.int .i64 (checkF b).1, .int .i64 (checkF b).2.1, .int .i64 (errF b)]) := Lib.hid rfl
  have c0 := blk_cell HK.out.box 0; have c1 := blk_cell HK.out.box 1
  go_enter Tryz.func21, Tryz.ntmps21
  go_wp2_with fail
  refine (refCheck_any b _ _ HK.out.book).mono ?_
  rintro e w1 ⟨rfl, hb1⟩
  rw [HVR.out]
  have HK := Lib.hid (HK.out.later hb1)
  clear hb1 c0 c1 HVR
  have c0 := blk_cell HK.out.box 0; have c1 := blk_cell HK.out.box 1
  go_wp2_with fail
  go_ret2
  exact ⟨rfl, HK.out.below⟩

set_option maxRecDepth 100000 in
set_option maxHeartbeats 800000 in
theorem refLeaf_good (b : Bk) (v : Value) (n : Int) (w : World) (hb : BookAt w.heap.size w v b) (he : errF b = 0) :
    Calls Tryz.prog 21 #[v, .int .i64 n] w fun e w' => e = .returned (leafTR b (getL (lvs b) n)) ∧ Below w.heap.size w w' := by
  have hne : (errF b != 0) = false := by simp [he]
  have hfew := lvs_few (errF_zero he)
  have HE := Lib.hid he
  clear he
  obtain ⟨sv, rfl, hgs⟩ := hb
  have hb : BookAt w.heap.size w (.agg #[.int .i64 b.signed, sv]) b := ⟨sv, rfl, hgs⟩
  obtain ⟨a, cap, rfl, -⟩ := hgs
  have HK := Lib.hid (BkBox.start hb)
  clear hb
  have HVR : Hid (checkR b = .tuple #[.int .i64 (checkF b).1, .int .i64 (checkF b).2.1, .int .i64 (errF b)]) := Lib.hid rfl
  have c0 := blk_cell HK.out.box 0; have c1 := blk_cell HK.out.box 1
  go_enter Tryz.func21, Tryz.ntmps21
  go_wp2_with fail
  refine (refCheck_any b _ _ HK.out.book).mono ?_
  rintro e w1 ⟨rfl, hb1⟩
  rw [HVR.out]
  have HK := Lib.hid (HK.out.later hb1)
  clear hb1 c0 c1 HVR
  have c0 := blk_cell HK.out.box 0; have c1 := blk_cell HK.out.box 1
  go_wp2_with fail
  refine (refNames_any b _ _ HK.out.book HE.out).mono ?_
  rintro e w2 ⟨⟨v', rfl, hn⟩, hb2⟩
  have HK := Lib.hid (HK.out.later hb2)
  clear hb2 c0 c1
  obtain ⟨la, lcap, rfl, hc⟩ := hn
  have HC := Lib.hid hc
  rw [texts_len]
  obtain ⟨N, hN⟩ : ∃ N, N = (lvs b).length := ⟨_, rfl⟩
  rw [← hN] at hfew ⊢
  have HN := Lib.hid hN
  have hw : wrap64 ((N : Int) - 1) = (N : Int) - 1 := by unfold wrap64; omega
  clear hc hN
  go_wp2_with fail
  refine (refIn_any _ _ _ _).mono ?_
  rintro e w3 ⟨rfl, hb3⟩
  cases hi : inB 0 ((N : Int) - 1) n with
  | false =>
    have HV : Hid (getL (lvs b) n = none) := Lib.hid (getL_out (by rw [← HN.out]; exact hi))
    have HK := Lib.hid (HK.out.later hb3)
    clear hb3 hw
    go_wp2_with fail
    go_ret2
    exact ⟨by rw [HV.out]; rfl, HK.out.below⟩
  | true =>
    simp [inB] at hi
    obtain ⟨i, rfl⟩ := Int.eq_ofNat_of_zero_le hi.1
    obtain ⟨x, hx⟩ : ∃ x, (lvs b)[i]? = some x := ⟨_, List.getElem?_eq_getElem (by have := HN.out; omega)⟩
    have hx' := text_at hx
    have HV : Hid (getL (lvs b) (i : Int) = some x) := Lib.hid (by rw [getL_nat, hx])
    obtain ⟨g, rfl, hg, hc⟩ := HC.out (fun e => by rw [e] at hx'; cases hx')
    have x0 := (hb3.cell (p := ⟨g, i, none⟩) hg).trans (hc i _ hx')
    have HK := Lib.hid (HK.out.later hb3)
    have hiN : i < N := by omega
    have d1 : ((i : Int) < N) := by omega
    clear hb3 hw hc hx hx' hi HC hg
    go_wp2_with fail
    go_ret2
    exact ⟨by rw [HV.out]; rfl, HK.out.below⟩

set_option maxRecDepth 100000 in
set_option maxHeartbeats 400000 in
theorem refFind_bad (b : Bk) (v : Value) (s : Bs) (w : World) (hb : BookAt w.heap.size w v b) (he : errF b ≠ 0) :
    Calls Tryz.prog 23 #[v, S s] w fun e w' => e = .returned (.tuple #[.int .i64 0, .int .i64 (errF b)]) ∧ Below w.heap.size w w' := by
  have hne : (errF b != 0) = true := by simp [he]
  clear he
  obtain ⟨sv, rfl, hgs⟩ := hb
  have hb : BookAt w.heap.size w (.agg #[.int .i64 b.signed, sv]) b := ⟨sv, rfl, hgs⟩
  obtain ⟨a, cap, rfl, -⟩ := hgs
  have HK := Lib.hid (BkBox.start hb)
  clear hb
  have HVR : Hid (checkR b = .tuple #[.int .i64 (checkF b).1, .int .i64 (checkF b).2.1, .int .i64 (errF b)]) := Lib.hid rfl
  have c0 := blk_cell HK.out.box 0; have c1 := blk_cell HK.out.box 1
  go_enter Tryz.func23, Tryz.ntmps23
  go_wp2_with fail
  refine (refCheck_any b _ _ HK.out.book).mono ?_
  rintro e w1 ⟨rfl, hb1⟩
  rw [HVR.out]
  have HK := Lib.hid (HK.out.later hb1)
  clear hb1 c0 c1 HVR
  have c0 := blk_cell HK.out.box 0; have c1 := blk_cell HK.out.box 1
  go_wp2_with fail
  go_ret2
  exact ⟨rfl, HK.out.below⟩

theorem placeF_find {b : Bk} (he : errF b = 0) {s : Bs} {q : Int × Int × Int × Int} (h : allF (leafNameF s) = some q) : placeF (textsF b) s = match (lvs b).findIdx? fun x => decide (nameQ b x = q) with
    | some i => (i : Int)
    | none => -1 := by
  cases hf : (lvs b).findIdx? fun x => decide (nameQ b x = q) with
  | some i =>
    rw [List.findIdx?_eq_some_iff_getElem] at hf
    obtain ⟨h1, h2, h3⟩ := hf
    have hx : (lvs b)[i]? = some (lvs b)[i] := List.getElem?_eq_getElem h1
    refine place_found ?_ ?_
    · rw [text_at hx, (place_find he h _ (List.mem_of_getElem? hx)).2 (by simpa using h2)]
    · intro j hj e
      have hjl : j < (lvs b).length := by omega
      have hy : (lvs b)[j]? = some (lvs b)[j] := List.getElem?_eq_getElem hjl
      rw [text_at hy] at e
      have := (place_find he h _ (List.mem_of_getElem? hy)).1 (Option.some.inj e)
      have h4 := h3 j hj
      simp [this] at h4
  | none =>
    refine place_none ?_
    intro j e
    obtain ⟨hjl, _⟩ := List.getElem?_eq_some_iff.1 e
    rw [texts_len] at hjl
    have hy : (lvs b)[j]? = some (lvs b)[j] := List.getElem?_eq_getElem hjl
    rw [text_at hy] at e
    have := (place_find he h _ (List.mem_of_getElem? hy)).1 (Option.some.inj e)
    rw [List.findIdx?_eq_none_iff] at hf
    have h4 := hf _ (List.mem_of_getElem? hy)
    simp [this] at h4

set_option maxRecDepth 100000 in
set_option maxHeartbeats 800000 in
theorem refFind_good (b : Bk) (v : Value) (s : Bs) (w : World) (hb : BookAt w.heap.size w v b) (he : errF b = 0) (hs : s.length ≤ 1048576) :
    Calls Tryz.prog 23 #[v, S s] w fun e w' => e = .returned (findR b s) ∧ Below w.heap.size w w' := by
  have hne : (errF b != 0) = false := by simp [he]
  have hfew := lvs_few (errF_zero he)
  have HE := Lib.hid he
  have HS := Lib.hid hs
  clear he hs
  obtain ⟨sv, rfl, hgs⟩ := hb
  have hb : BookAt w.heap.size w (.agg #[.int .i64 b.signed, sv]) b := ⟨sv, rfl, hgs⟩
  obtain ⟨a, cap, rfl, -⟩ := hgs
  have HK := Lib.hid (BkBox.start hb)
  clear hb
  have HVR : Hid (checkR b = .tuple #[.int .i64 (checkF b).1, .int .i64 (checkF b).2.1, .int .i64 (errF b)]) := Lib.hid rfl
  have c0 := blk_cell HK.out.box 0; have c1 := blk_cell HK.out.box 1
  go_enter Tryz.func23, Tryz.ntmps23
  go_wp2_with fail
  refine (refCheck_any b _ _ HK.out.book).mono ?_
  rintro e w1 ⟨rfl, hb1⟩
  rw [HVR.out]
  have HK := Lib.hid (HK.out.later hb1)
  clear hb1 c0 c1 HVR
  have c0 := blk_cell HK.out.box 0; have c1 := blk_cell HK.out.box 1
  go_wp2_with fail
  refine (refSome_any s _ HS.out).mono ?_
  rintro e w2 ⟨rfl, hb2⟩
  have HK := Lib.hid (HK.out.later hb2)
  clear hb2 c0 c1
  have hsm := some_is s
  cases hq : allF (leafNameF s) with
  | none =>
    rw [hq] at hsm
    have hsm : someF s = false := hsm
    have HV : Hid (findR b s = .tuple #[.int .i64 0, .int .i64 6]) := Lib.hid (by unfold findR; rw [hq])
    rw [hsm]
    clear hsm hq
    go_wp2_with fail
    go_ret2
    exact ⟨by rw [HV.out]; rfl, HK.out.below⟩
  | some q =>
    rw [hq] at hsm
    have hsm : someF s = true := hsm
    have HV : Hid (findR b s = mateR ((lvs b).findIdx? fun x => decide (nameQ b x = q))) := Lib.hid (by unfold findR; rw [hq])
    have HP := Lib.hid (placeF_find HE.out hq)
    rw [hsm]
    clear hsm hq
    have c0 := blk_cell HK.out.box 0; have c1 := blk_cell HK.out.box 1
    go_wp2_with fail
    refine (refNames_any b _ _ HK.out.book HE.out).mono ?_
    rintro e w3 ⟨⟨v', rfl, hn⟩, hb3⟩
    have HK := Lib.hid (HK.out.later hb3)
    have HNM := Lib.hid hn
    clear hb3 c0 c1 hn
    go_wp2_with fail
    refine (Place_any _ _ _ _ HNM.out (by rw [texts_len]; omega)).mono ?_
    rintro e w4 ⟨rfl, hb4⟩
    have HK := Lib.hid (HK.out.later hb4)
    rw [HP.out]
    clear hb4
    cases hf : (lvs b).findIdx? fun x => decide (nameQ b x = q) with
    | some i =>
      rw [hf] at HV
      have d0 : decide ((i : Int) < 0) = false := decide_eq_false (by omega)
      clear hf HP
      go_wp2_with fail
      go_ret2
      exact ⟨by rw [HV.out]; rfl, HK.out.below⟩
    | none =>
      rw [hf] at HV
      clear hf HP
      go_wp2_with fail
      go_ret2
      exact ⟨by rw [HV.out]; rfl, HK.out.below⟩
end Go.Proofs.YtockagnnpeoggaaGreatDoor
