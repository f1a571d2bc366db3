/- The parts Wh, Ab, Na of the proof, joined. It holds without conditions of its own. -/
import Derived.Test.YtlfglbnbenaghaaGreatDoorTX20
import Derived.Test.YtlfglbnbenaghaaGreatDoorTX7
import Derived.Test.YtlfglbnbenaghaaGreatDoorTX12
import Derived.Test.YtlfglbnbenaghaaGreatDoorTX6
import Derived.Test.YtlfglbnbenaghaaGreatDoorTX8
import Derived.Test.YtlfglbnbenaghaaGreatDoorTX16
/- Contract of Write. -/
namespace Go.Proofs.YtlfglbnbenaghaaGreatDoor
set_option linter.unusedSimpArgs false
set_option linter.unusedVariables false
open Go Go.RowKit Go.Sort Go.BigFrame

set_option maxRecDepth 100000 in
set_option maxHeartbeats 1000000 in
theorem Write_bad (b : Bk) (v : Value) (w : World) (hb : BookAt w.heap.size w v b) (he : errF b ≠ 0) :
    Calls Tryz.prog 7 #[v] w fun e w' => e = .returned (.tuple #[S [], .int .i64 (errF b)]) ∧ Below w.heap.size w w' := by
  have hb' := hb
  obtain ⟨sv, rfl, hgs⟩ := hb
  have hgs' := hgs
  obtain ⟨a, cap, rfl, -⟩ := hgs'
  have hop : openV b (.agg #[.int .i64 b.signed, .slice a b.gs.length cap]) = .tuple #[.agg #[.int .i64 0, .slice none 0 0], .int .i64 (errF b)] := by simp [openV, he]
  have hne : (errF b != 0) = true := by simp [he]
  go_enter Tryz.func7, Tryz.ntmps7
  go_wp2_with fail
  refine (open_any b _ _ (hb'.below (B := w.heap.size) (by exact (by repeat (first | (refine Below.setCell ?_ ?_ _; rotate_left; · (first | omega | (simp; done) | (simp; omega) | fail)) | (refine Below.alloc ?_ ?_ _; rotate_left; · (first | omega | (simp; done) | (simp; omega) | fail)) | refine Below.drew ?_ | exact Below.refl _ _ | fail))) (Nat.le_refl _) |>.mono (by simp; try omega))).mono ?_
  rintro e w1 ⟨rfl, hb1⟩
  rw [hop]
  have hb0 : Below w.heap.size w w1 := Below.trans (by exact (by repeat (first | (refine Below.setCell ?_ ?_ _; rotate_left; · (first | omega | (simp; done) | (simp; omega) | fail)) | (refine Below.alloc ?_ ?_ _; rotate_left; · (first | omega | (simp; done) | (simp; omega) | fail)) | refine Below.drew ?_ | exact Below.refl _ _ | fail))) (hb1.mono (by simp; try omega))
  have hz := hb0.size
  go_wp2_with fail
  go_ret2
  exact ⟨rfl, (by repeat (first | (refine Below.setCell ?_ ?_ _; rotate_left; · (first | omega | (simp; done) | (simp; omega) | fail)) | (refine Below.alloc ?_ ?_ _; rotate_left; · (first | omega | (simp; done) | (simp; omega) | fail)) | refine Below.drew ?_ | exact hb0 | fail))⟩

/-- What the region of Write leaves. -/
def WriteCut (w : World) (V : Nat) (sg : Int) (sv : Value) (t : Bs) (a0 a' : Act) (w' : World) : Prop :=
  Below w.heap.size w w' ∧ ∃ v', a' = { tmps := putAll a0.tmps [(14, .pointer (some ⟨V, 0, none⟩)), (15, .pointer (some ⟨V, 0, none⟩)), (16, .int .i64 sg), (17, .pointer (some ⟨V, 0, none⟩)), (18, .pointer (some ⟨V, 1, none⟩)), (19, sv), (20, v'), (21, S t), (2, S t), (3, .int .i64 0)], defers := [] }

set_option maxRecDepth 100000 in
set_option maxHeartbeats 16000000 in
theorem Write_good (b : Bk) (v : Value) (w : World) (hb : BookAt w.heap.size w v b) (he : errF b = 0) :
    Calls Tryz.prog 7 #[v] w fun e w' => e = .returned (.tuple #[S (writeF b), .int .i64 0]) ∧ Below w.heap.size w w' := by
  have hb' := hb
  obtain ⟨sv, rfl, hgs⟩ := hb
  have hgs' := hgs
  obtain ⟨a, cap, rfl, -⟩ := hgs'
  have hok := errF_zero he
  have hop : openV b (.agg #[.int .i64 b.signed, .slice a b.gs.length cap]) = .tuple #[.agg #[.int .i64 b.signed, .slice a b.gs.length cap], .int .i64 0] := by simp [openV, he]
  have HG := Lib.hid hgs
  have HB := Lib.hid hb'
  clear hgs hb'
  go_enter Tryz.func7, Tryz.ntmps7
  go_wp2_with fail
  refine (open_any b _ _ (HB.out.below (B := w.heap.size) (by exact (by repeat (first | (refine Below.setCell ?_ ?_ _; rotate_left; · (first | omega | (simp; done) | (simp; omega) | fail)) | (refine Below.alloc ?_ ?_ _; rotate_left; · (first | omega | (simp; done) | (simp; omega) | fail)) | refine Below.drew ?_ | exact Below.refl _ _ | fail))) (Nat.le_refl _) |>.mono (by simp; try omega))).mono ?_
  rintro e w1 ⟨rfl, hb1⟩
  rw [hop]
  have hb0 : Below w.heap.size w w1 := Below.trans (by exact (by repeat (first | (refine Below.setCell ?_ ?_ _; rotate_left; · (first | omega | (simp; done) | (simp; omega) | fail)) | (refine Below.alloc ?_ ?_ _; rotate_left; · (first | omega | (simp; done) | (simp; omega) | fail)) | refine Below.drew ?_ | exact Below.refl _ _ | fail))) (hb1.mono (by simp; try omega))
  have HB0 := Lib.hid hb0
  have hz := hb0.size
  clear hb1 hb0 hop
  go_wp2_with fail
  obtain ⟨V, hV⟩ : ∃ V, V = w1.heap.size := ⟨_, rfl⟩
  obtain ⟨w2, hw2⟩ : ∃ w2, w2 = (w1.alloc (.cells #[.int .i64 b.signed, .slice a b.gs.length cap] 57)).drew := ⟨_, rfl⟩
  have hb2 : Below w.heap.size w w2 := by rw [hw2]; exact (by repeat (first | (refine Below.setCell ?_ ?_ _; rotate_left; · (first | omega | (simp; done) | (simp; omega) | fail)) | (refine Below.alloc ?_ ?_ _; rotate_left; · (first | omega | (simp; done) | (simp; omega) | fail)) | refine Below.drew ?_ | exact HB0.out | fail))
  have hv2 : w2.heap[V]? = some (.cells #[.int .i64 b.signed, .slice a b.gs.length cap] 57) := by rw [hw2, hV]; exact blk_drew (by repeat (first | exact heap_alloc_at _ _ _ (by (first | omega | (simp; done) | (simp; omega) | fail)) | (refine (heap_alloc_past _ _ _ ?_).trans ?_; · (first | omega | (simp; done) | (simp; omega) | fail)) | fail))
  have HB2 := Lib.hid hb2
  have HV2 := Lib.hid hv2
  have HGS := Lib.hid ((HG.out.same (fun j hj => hb2.block j hj)).mono hb2.size)
  have hz2 := hb2.size
  clear hb2 hv2
  refine wp_cut (WriteCut w V b.signed (.slice a b.gs.length cap) (writeF b)) ?_ ?_
  · refine wpIn_region_orders (by kernel_rfl) [[0, 1, 2, 3, 4, 5, 6, 7, 8, 9], [0, 1, 3, 2, 4, 5, 6, 7, 8, 9], [0, 1, 3, 4, 2, 5, 6, 7, 8, 9], [0, 1, 3, 4, 5, 2, 6, 7, 8, 9], [0, 1, 3, 4, 5, 6, 2, 7, 8, 9], [0, 3, 1, 2, 4, 5, 6, 7, 8, 9], [0, 3, 1, 4, 2, 5, 6, 7, 8, 9], [0, 3, 1, 4, 5, 2, 6, 7, 8, 9], [0, 3, 1, 4, 5, 6, 2, 7, 8, 9], [0, 3, 4, 1, 2, 5, 6, 7, 8, 9], [0, 3, 4, 1, 5, 2, 6, 7, 8, 9], [0, 3, 4, 1, 5, 6, 2, 7, 8, 9], [0, 3, 4, 5, 1, 2, 6, 7, 8, 9], [0, 3, 4, 5, 1, 6, 2, 7, 8, 9], [0, 3, 4, 5, 6, 1, 2, 7, 8, 9], [3, 0, 1, 2, 4, 5, 6, 7, 8, 9], [3, 0, 1, 4, 2, 5, 6, 7, 8, 9], [3, 0, 1, 4, 5, 2, 6, 7, 8, 9], [3, 0, 1, 4, 5, 6, 2, 7, 8, 9], [3, 0, 4, 1, 2, 5, 6, 7, 8, 9], [3, 0, 4, 1, 5, 2, 6, 7, 8, 9], [3, 0, 4, 1, 5, 6, 2, 7, 8, 9], [3, 0, 4, 5, 1, 2, 6, 7, 8, 9], [3, 0, 4, 5, 1, 6, 2, 7, 8, 9], [3, 0, 4, 5, 6, 1, 2, 7, 8, 9], [3, 4, 0, 1, 2, 5, 6, 7, 8, 9], [3, 4, 0, 1, 5, 2, 6, 7, 8, 9], [3, 4, 0, 1, 5, 6, 2, 7, 8, 9], [3, 4, 0, 5, 1, 2, 6, 7, 8, 9], [3, 4, 0, 5, 1, 6, 2, 7, 8, 9], [3, 4, 0, 5, 6, 1, 2, 7, 8, 9], [3, 4, 5, 0, 1, 2, 6, 7, 8, 9], [3, 4, 5, 0, 1, 6, 2, 7, 8, 9], [3, 4, 5, 0, 6, 1, 2, 7, 8, 9], [3, 4, 5, 6, 0, 1, 2, 7, 8, 9]] (by kernel_rfl) ?_
    rw [← hw2, ← hV]
    clear hw2 hV HB0 HG HB
    have c0 := blk_cell HV2.out 0; have c1 := blk_cell HV2.out 1
    simp only [List.forall_mem_cons]
    refine ⟨?_, ?_, ?_, ?_, ?_, ?_, ?_, ?_, ?_, ?_, ?_, ?_, ?_, ?_, ?_, ?_, ?_, ?_, ?_, ?_, ?_, ?_, ?_, ?_, ?_, ?_, ?_, ?_, ?_, ?_, ?_, ?_, ?_, ?_, ?_, fun _ h => by cases h⟩
    all_goals
      simp only [List.filterMap_cons, List.filterMap_nil, List.getElem?_toArray, List.getElem?_cons_zero, List.getElem?_cons_succ]
      change wpListIn _ _ _ _ _ [_, _, _, _, _, _, _, _, _, _] _ _
      gi_wp2_with fail
      refine ⟨trivial, ?_⟩
      refine (callsIn_wide.2 (itemsOf_any b.gs _ _ HGS.out hok.gs (by have := hok.len; omega))).mono ?_
      rintro e w3 ⟨⟨v', ys, rfl, hym, hyo, hyl, hI⟩, hb3⟩
      have HI := Lib.hid (ItsAt.of_row hI.row)
      have HC := Lib.hid (fun y hy => ((hI.chs y hy).same (fun j hj => hb3.block j hj)).mono hb3.size)
      have HV3 := Lib.hid (blk_later hb3 HV2.out)
      have HB3 := Lib.hid (HB2.out.trans (hb3.mono hz2))
      have HYM := Lib.hid hym
      have HYO := Lib.hid hyo
      have hz3 := HB3.out.size
      clear hym hyo hI hb3 c0 c1
      have c0 := blk_cell HV3.out 0; have c1 := blk_cell HV3.out 1
      gi_wp2_with fail
      refine ⟨trivial, ?_⟩
      refine (callsIn_wide.2 (formula_any b.signed ys v' _ (by have := hok.signed; omega) HI.out HC.out HYO.out hyl)).mono ?_
      rintro e w4 ⟨rfl, hb4⟩
      rw [HYM.out]
      have HB4 := Lib.hid (HB3.out.trans (hb4.mono hz3))
      clear hb4 c0 c1
      gi_wp2_with fail
      exact Cut.mk ⟨HB4.out, v', by simp only [putAll, List.foldl_cons, List.foldl_nil, List.setIfInBounds_toArray, List.set_cons_succ, List.set_cons_zero]; rfl⟩
  · rintro a' w4 ⟨hb4, v', rfl⟩
    have HB4 := Lib.hid hb4
    clear hb4
    simp only [putAll, List.foldl_cons, List.foldl_nil, List.setIfInBounds_toArray, List.set_cons_succ, List.set_cons_zero]
    go_wp2_with fail
    go_ret2
    exact ⟨rfl, HB4.out⟩

end Go.Proofs.YtlfglbnbenaghaaGreatDoor

/- What the functions answer for the book of the examples. -/
namespace Go.Proofs.YtlfglbnbenaghaaGreatDoor
set_option linter.unusedSimpArgs false
set_option linter.unusedVariables false
open Go Go.RowKit

/-- The formula of the examples' book. -/
def exText : Bs := [112, 105, 50, 32, 65, 45, 67, 56, 32, 68, 56, 40, 45, 51, 44, 61, 53, 44, 56, 43, 49, 41, 32, 99, 104, 105, 49, 32, 36, 52]

theorem ex_err0 : errF (exBook 0) = 0 := by kernel_rfl
theorem ex_err1 : errF (exBook 1) = 0 := by kernel_rfl
theorem ex_write : writeF (exBook 0) = exText := by kernel_rfl
theorem ex_read : readF exText = (exBook 0, 0) := by kernel_rfl
theorem ex_leaf : leafTR (exBook 0) (getL (lvs (exBook 0)) 28) = .tuple #[S [68, 52], .int .i64 0] := by kernel_rfl
theorem ex_find : findR (exBook 0) [68, 56, 43, 49] = .tuple #[.int .i64 33, .int .i64 0] := by kernel_rfl
theorem ex_lost : findR (exBook 0) [68, 51] = .tuple #[.int .i64 0, .int .i64 4] := by kernel_rfl
theorem ex_mate : mateR (mateF (exBook 0) 32) = .tuple #[.int .i64 26, .int .i64 0] := by kernel_rfl
theorem ex_single : mateR (mateF (exBook 0) 34) = .tuple #[.int .i64 0, .int .i64 4] := by kernel_rfl
theorem ex_signs : signsF (exBook 0) = [2, 3, 4, 5, 10, 11, 12, 13, 18, 19, 20, 21, 26, 27, 28] := by kernel_rfl
theorem ex_differ : differR (diffAt 0 (namesF (exBook 0)) (namesF (exBook 1))) = .tuple #[.int .i64 33, .int .i64 0] := by kernel_rfl
theorem ex_name : nameB [97, 46, 57] = true := by kernel_rfl
theorem ex_noname : nameB [57, 97] = false := by kernel_rfl

end Go.Proofs.YtlfglbnbenaghaaGreatDoor

/- Where a word is first in a list of words, as the law's helper finds it. -/
namespace Go.Proofs.YtlfglbnbenaghaaGreatDoor
set_option linter.unusedSimpArgs false
set_option linter.unusedVariables false
open Go Go.RowKit Go.Sort Go.BigFrame Go.Shelf
attribute [local go_sem] Oper.semAt_some putAll

/-- The first place of a word. -/
def placeN (y : Bs) : List Bs → Nat → Option Nat
  | [], _ => none
  | x :: xs, i => if x = y then some i else placeN y xs (i + 1)
def placeF (xs : List Bs) (y : Bs) : Int := match placeN y xs 0 with
  | some i => i
  | none => -1
theorem placeN_found (y : Bs) : ∀ (xs : List Bs) (k i : Nat), xs[i]? = some y → (∀ j, j < i → xs[j]? ≠ some y) → placeN y xs k = some (k + i)
  | [], k, i, h, _ => by simp at h
  | x :: xs, k, 0, h, _ => by
    have : x = y := by simpa using h
    simp [placeN, this]
  | x :: xs, k, i + 1, h, hj => by
    have h0 : x ≠ y := by simpa using hj 0 (by omega)
    rw [placeN, if_neg h0, placeN_found y xs (k + 1) i (by simpa using h) fun j hl => by simpa using hj (j + 1) (by omega)]
    congr 1; omega
theorem placeN_none (y : Bs) : ∀ (xs : List Bs) (k : Nat), (∀ j : Nat, xs[j]? ≠ some y) → placeN y xs k = none
  | [], _, _ => rfl
  | x :: xs, k, h => by
    have h0 : x ≠ y := by simpa using h 0
    rw [placeN, if_neg h0]
    exact placeN_none y xs (k + 1) fun j => by simpa using h (j + 1)
theorem place_found {xs : List Bs} {y : Bs} {i : Nat} (h : xs[i]? = some y) (hj : ∀ j, j < i → xs[j]? ≠ some y) : placeF xs y = i := by
  unfold placeF; rw [placeN_found y xs 0 i h hj]; simp
theorem place_none {xs : List Bs} {y : Bs} (h : ∀ j : Nat, xs[j]? ≠ some y) : placeF xs y = -1 := by
  unfold placeF; rw [placeN_none y xs 0 h]

/-- A slice of strings. -/
def StrsAt (W : World) (v : Value) (xs : List Bs) : Prop :=
  ∃ (a : Option Addr) (cap : Nat), v = .slice a xs.length cap ∧ (xs ≠ [] → ∃ g, a = some ⟨g, 0, none⟩ ∧ g < W.heap.size ∧ ∀ i x, xs[i]? = some x → W.cell? ⟨g, i, none⟩ = some (S x))
theorem StrsAt.later {W W' : World} {v : Value} {xs : List Bs} (h : StrsAt W v xs) (hb : Below W.heap.size W W') : StrsAt W' v xs := by
  obtain ⟨a, cap, rfl, h⟩ := h
  refine ⟨a, cap, rfl, fun hne => ?_⟩
  obtain ⟨g, rfl, hg, hc⟩ := h hne
  exact ⟨g, rfl, Nat.lt_of_lt_of_le hg hb.size, fun i x hx => (hb.cell (p := ⟨g, i, none⟩) hg).trans (hc i x hx)⟩

end Go.Proofs.YtlfglbnbenaghaaGreatDoor
