/- The parts La of the proof, joined. It holds without conditions of its own. -/
import Derived.Test.YtlekbddlemfokaaGreatDoorCM11
import Derived.Test.YtlekbddlemfokaaGreatDoorCM13
import Derived.Test.YtlekbddlemfokaaGreatDoorCM16
import Derived.Test.YtlekbddlemfokaaGreatDoorCM47
/- The law QuireChecks: it returns true. -/
namespace Go.Proofs.YtlekbddlemfokaaGreatDoor
set_option linter.unusedSimpArgs false
set_option linter.unusedVariables false
open Go Go.RowKit Go.Sort Go.BigFrame

theorem Sig_both (r l : Int) : ∃ (t : Bs) (y : Int), (∀ w, Calls Tryz.prog 8 #[.agg #[.int .i64 r, .int .i64 l]] w fun e w' => e = .returned (.tuple #[S t, .int .i64 y]) ∧ Below w.heap.size w w') ∧
    (∀ w, Calls Tryz.prog 9 #[.agg #[.int .i64 r, .int .i64 l]] w fun e w' => e = .returned (.tuple #[S t, .int .i64 y]) ∧ Below w.heap.size w w') := by
  cases h : sigB r l with
  | false => exact ⟨_, _, fun w => Sig_bad r l w h, fun w => refSig_bad r l w h⟩
  | true => exact ⟨_, _, fun w => Sig_good r l w h, fun w => refSig_good r l w h⟩
theorem Next_both (r l : Int) : ∃ (r' l' y : Int), (∀ w, Calls Tryz.prog 10 #[.agg #[.int .i64 r, .int .i64 l]] w fun e w' => e = .returned (.tuple #[.agg #[.int .i64 r', .int .i64 l'], .int .i64 y]) ∧ Below w.heap.size w w') ∧
    (∀ w, Calls Tryz.prog 11 #[.agg #[.int .i64 r, .int .i64 l]] w fun e w' => e = .returned (.tuple #[.agg #[.int .i64 r', .int .i64 l'], .int .i64 y]) ∧ Below w.heap.size w w') := by
  cases h : sigB r l with
  | false => exact ⟨_, _, _, fun w => Next_bad r l w h, fun w => refNext_bad r l w h⟩
  | true =>
    by_cases hl : l < 23
    · cases hx : sigB (behindF r l).1 (behindF r l).2 with
      | false => exact ⟨_, _, _, fun w => Next_letter r l w h hl _ _ rfl false hx _ rfl, fun w => refNext_letter r l w h hl _ _ rfl false hx _ rfl⟩
      | true => exact ⟨_, _, _, fun w => Next_letter r l w h hl _ _ rfl true hx _ rfl, fun w => refNext_letter r l w h hl _ _ rfl true hx _ rfl⟩
    · exact ⟨_, _, _, fun w => Next_plain r l w h hl, fun w => refNext_plain r l w h hl⟩

set_option maxRecDepth 100000 in
set_option maxHeartbeats 1600000 in
theorem QuireChecks_any (b : Bk) (v : Value) (r l : Int) (s : Bs) (w : World) (hb : BookAt w.heap.size w v b) (hs : s.length ≤ 9223372036854775807) :
    Calls Tryz.prog 3 #[v, .agg #[.int .i64 r, .int .i64 l], S s] w fun e w' => e = .returned (.bool true) ∧ Below w.heap.size w w' := by
  have HB := Lib.hid hb
  obtain ⟨sv, rfl, hgs⟩ := hb
  obtain ⟨a, cap, rfl, -⟩ := hgs
  have HS := Lib.hid hs
  obtain ⟨p, i, er, hR⟩ : ∃ p i er, checkR b = .tuple #[.int .i64 p, .int .i64 i, .int .i64 er] := ⟨_, _, _, rfl⟩
  have HR := Lib.hid hR
  obtain ⟨t, y, hs1, hs2⟩ := Sig_both r l
  have HS1 := Lib.hid hs1
  have HS2 := Lib.hid hs2
  obtain ⟨r', l', z, hn1, hn2⟩ := Next_both r l
  have HN1 := Lib.hid hn1
  have HN2 := Lib.hid hn2
  clear hs hR hs1 hs2 hn1 hn2
  go_enter Tryz.func3, Tryz.ntmps3
  go_wp2_with fail
  refine (Check_any b _ _ ((HB.out.below (by exact (by repeat (first | (refine Below.setCell ?_ ?_ _; rotate_left; · (first | omega | (simp; done) | (simp; omega) | fail)) | (refine Below.alloc ?_ ?_ _; rotate_left; · (first | omega | (simp; done) | (simp; omega) | fail)) | refine Below.drew ?_ | exact Below.refl _ _ | fail))) (Nat.le_refl _)).mono (by simp; try omega))).mono ?_
  rintro e w1 ⟨rfl, hb1⟩
  rw [HR.out]
  have HA := Lib.hid (show w1.heap[w.heap.size]? = some (.cells #[.int .i64 b.signed, .slice a b.gs.length cap] 24) from blk_later hb1 (by repeat (first | exact heap_alloc_at _ _ _ (by (first | omega | (simp; done) | (simp; omega) | (simp at *; omega) | fail)) | assumption | rw [heap_alloc_past _ _ _ (by (first | omega | (simp; done) | (simp; omega) | (simp at *; omega) | fail))] | rw [heap_setCell_past _ _ _ _ (by (first | omega | (simp; done) | (simp; omega) | (simp at *; omega) | fail))] | fail)))
  have HC := Lib.hid (show w1.heap[w.heap.size + 1]? = some (.cells #[.int .i64 r, .int .i64 l] 26) from blk_later hb1 (by repeat (first | exact heap_alloc_at _ _ _ (by (first | omega | (simp; done) | (simp; omega) | (simp at *; omega) | fail)) | assumption | rw [heap_alloc_past _ _ _ (by (first | omega | (simp; done) | (simp; omega) | (simp at *; omega) | fail))] | rw [heap_setCell_past _ _ _ _ (by (first | omega | (simp; done) | (simp; omega) | (simp at *; omega) | fail))] | fail)))
  have HW1 : Hid (Below w.heap.size w w1) := Lib.hid (Below.trans (by exact (by repeat (first | (refine Below.setCell ?_ ?_ _; rotate_left; · (first | omega | (simp; done) | (simp; omega) | fail)) | (refine Below.alloc ?_ ?_ _; rotate_left; · (first | omega | (simp; done) | (simp; omega) | fail)) | refine Below.drew ?_ | exact Below.refl _ _ | fail))) (hb1.mono (by simp; try omega)))
  clear hb1
  have c0 := blk_cell HA.out 0; have c1 := blk_cell HA.out 1
  go_wp2_with fail
  refine (refCheck_any b _ _ ((HB.out.below HW1.out (Nat.le_refl _)).mono HW1.out.size)).mono ?_
  rintro e w2 ⟨rfl, hb2⟩
  rw [HR.out]
  have HC := Lib.hid (blk_later hb2 HC.out)
  have HW2 := Lib.hid (HW1.out.trans (hb2.mono HW1.out.size))
  clear hb2 HW1 HA c0 c1
  go_wp2_with fail
  refine (Name_any s _ HS.out).mono ?_
  rintro e w3 ⟨rfl, hb3⟩
  have HC := Lib.hid (blk_later hb3 HC.out)
  have HW3 := Lib.hid (HW2.out.trans (hb3.mono HW2.out.size))
  clear hb3 HW2
  go_wp2_with fail
  refine (refName_any s _ HS.out).mono ?_
  rintro e w4 ⟨rfl, hb4⟩
  have HC := Lib.hid (blk_later hb4 HC.out)
  have HW4 := Lib.hid (HW3.out.trans (hb4.mono HW3.out.size))
  clear hb4 HW3
  have c0 := blk_cell HC.out 0; have c1 := blk_cell HC.out 1
  go_wp2_with fail
  refine (HS1.out _).mono ?_
  rintro e w5 ⟨rfl, hb5⟩
  have HC := Lib.hid (blk_later hb5 HC.out)
  have HW5 := Lib.hid (HW4.out.trans (hb5.mono HW4.out.size))
  clear hb5 HW4 c0 c1
  have c0 := blk_cell HC.out 0; have c1 := blk_cell HC.out 1
  go_wp2_with fail
  refine (HS2.out _).mono ?_
  rintro e w6 ⟨rfl, hb6⟩
  have HC := Lib.hid (blk_later hb6 HC.out)
  have HW6 := Lib.hid (HW5.out.trans (hb6.mono HW5.out.size))
  clear hb6 HW5 c0 c1
  have c0 := blk_cell HC.out 0; have c1 := blk_cell HC.out 1
  go_wp2_with fail
  refine (HN1.out _).mono ?_
  rintro e w7 ⟨rfl, hb7⟩
  have HC := Lib.hid (blk_later hb7 HC.out)
  have HW7 := Lib.hid (HW6.out.trans (hb7.mono HW6.out.size))
  clear hb7 HW6 c0 c1
  have c0 := blk_cell HC.out 0; have c1 := blk_cell HC.out 1
  have hlt := blk_lt HC.out
  go_wp2_with fail
  refine (HN2.out _).mono ?_
  rintro e w8 ⟨rfl, hb8⟩
  have HX := Lib.hid (show w8.heap[w7.heap.size]? = some (.cells #[.int .i64 r', .int .i64 l'] 26) from blk_later hb8 (by repeat (first | exact heap_alloc_at _ _ _ (by (first | omega | (simp; done) | (simp; omega) | fail)) | (refine (heap_alloc_past _ _ _ ?_).trans ?_; · (first | omega | (simp; done) | (simp; omega) | fail)) | fail)))
  have HW8 : Hid (Below w.heap.size w w8) := Lib.hid ((HW7.out.alloc HW7.out.size _).trans (hb8.mono (by have := HW7.out.size; simp; omega)))
  clear hb8 HC HW7 c0 c1
  have c0 := blk_cell HX.out 0; have c1 := blk_cell HX.out 1
  have hl8 := blk_lt HX.out
  go_wp2_with fail
  refine (Awake_any _).mono ?_
  rintro e w9 ⟨rfl, hb9⟩
  have hW9 : Below w.heap.size w w9 := (HW8.out.alloc HW8.out.size _).trans (hb9.mono (by have := HW8.out.size; simp; omega))
  clear hb9
  go_wp2_with fail
  go_ret
  exact ⟨rfl, hW9⟩
end Go.Proofs.YtlekbddlemfokaaGreatDoor
