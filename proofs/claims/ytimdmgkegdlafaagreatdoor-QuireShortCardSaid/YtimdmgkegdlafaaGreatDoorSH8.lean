/- The parts Qh, Qi of the proof, joined. It holds without conditions of its own. -/
import Derived.Test.YtimdmgkegdlafaaGreatDoorSH7
import Derived.Test.YtimdmgkegdlafaaGreatDoorSH2
import Derived.Test.YtimdmgkegdlafaaGreatDoorSH3
/- Contracts of package quire: how signatures and leaves are written. -/
namespace Go.Proofs.YtimdmgkegdlafaaGreatDoor
set_option linter.unusedSimpArgs false
set_option linter.unusedVariables false
open Go Go.RowKit Go.Sort Go.BigFrame

set_option maxHeartbeats 400000 in
theorem Sig_bad (r l : Int) (w : World) (h : sigB r l = false) :
    Calls Tryz.prog 37 #[.agg #[.int .i64 r, .int .i64 l]] w fun e w' => e = .returned (.tuple #[S [], .int .i64 7]) ∧ Below w.heap.size w w' := by
  go_enter Tryz.func37, Tryz.ntmps37
  go_wp2_with fail
  refine (isSig_any r l _).mono ?_
  rintro e w1 ⟨rfl, hb⟩
  rw [h]
  have hb1 := ((Below.refl w.heap.size w).alloc (Nat.le_refl _) _).trans (hb.mono (by simp))
  clear hb h
  go_wp2_with fail
  go_ret2
  exact ⟨rfl, hb1⟩
set_option maxHeartbeats 400000 in
theorem Sig_good (r l : Int) (w : World) (h : sigB r l = true) :
    Calls Tryz.prog 37 #[.agg #[.int .i64 r, .int .i64 l]] w fun e w' => e = .returned (.tuple #[S (sigT r l), .int .i64 0]) ∧ Below w.heap.size w w' := by
  have HS := Lib.hid h
  go_enter Tryz.func37, Tryz.ntmps37
  go_wp2_with fail
  refine (isSig_any r l _).mono ?_
  rintro e w1 ⟨rfl, hb⟩
  rw [h]
  have k0 : w1.cell? ⟨w.heap.size, 0, none⟩ = some (.int .i64 r) := cell_later' hb (by simp [World.cell?_alloc_at])
  have k1 : w1.cell? ⟨w.heap.size, 1, none⟩ = some (.int .i64 l) := cell_later' hb (by simp [World.cell?_alloc_at])
  have hb1 := ((Below.refl w.heap.size w).alloc (Nat.le_refl _) _).trans (hb.mono (by simp))
  clear hb h
  go_wp2_with fail
  refine (sigText_any r l HS.out _).mono ?_
  rintro e w2 ⟨rfl, hb⟩
  have hb2 := hb1.trans (hb.mono hb1.size)
  clear hb
  go_wp2_with fail
  go_ret2
  exact ⟨rfl, hb2⟩

/-- What Next hands back of a signature: the next one and an error. -/
def nextF (r l : Int) : Int × Int × Int :=
  if sigB r l = false then (0, 0, 7) else if ¬ l < 23 then (0, 0, 2) else if l < 22 then (r, l + 1, 0) else if r < 3 then (r + 1, 0, 0) else (0, 0, 4)

set_option maxHeartbeats 400000 in
theorem Next_bad (r l : Int) (w : World) (h : sigB r l = false) :
    Calls Tryz.prog 35 #[.agg #[.int .i64 r, .int .i64 l]] w fun e w' => e = .returned (.tuple #[.agg #[.int .i64 0, .int .i64 0], .int .i64 7]) ∧ Below w.heap.size w w' := by
  go_enter Tryz.func35, Tryz.ntmps35
  go_wp2_with fail
  refine (isSig_any r l _).mono ?_
  rintro e w1 ⟨rfl, hb⟩
  rw [h]
  have hb1 := (((Below.refl w.heap.size w).alloc (Nat.le_refl _) _).alloc (by simp) _).trans (hb.mono (by simp; omega))
  have b2 : w1.heap[w.heap.size + 1]? = some (.cells #[.int .i64 0, .int .i64 0] 39) := blk_later hb (by repeat (first | exact heap_alloc_at _ _ _ (by (first | omega | (simp; done) | (simp; omega) | (simp at *; omega) | fail)) | assumption | rw [heap_alloc_past _ _ _ (by (first | omega | (simp; done) | (simp; omega) | (simp at *; omega) | fail))] | rw [heap_setCell_past _ _ _ _ (by (first | omega | (simp; done) | (simp; omega) | (simp at *; omega) | fail))] | fail))
  have c0 := blk_cell b2 0
  have c1 := blk_cell b2 1
  have f0 := blk_free b2 0
  have f1 := blk_free b2 1
  clear hb h b2
  go_wp2_with fail
  exact bodyPost_ret (v := .tuple #[.agg #[.int .i64 0, .int .i64 0], .int .i64 7]) (by simp [results, Tryz.results35, go_sem, c0, c1]) rfl ⟨rfl, (by repeat (first | exact Below.refl _ _ | assumption | (refine Below.alloc ?_ ?_ _; rotate_left; · (first | omega | (simp; done) | (simp; omega) | (simp at *; omega) | fail)) | (refine Below.setCell ?_ ?_ _; rotate_left; · (first | omega | (simp; done) | (simp; omega) | (simp at *; omega) | fail)) | refine Below.drew ?_ | fail))⟩

set_option maxHeartbeats 400000 in
theorem Next_plain (r l : Int) (w : World) (h : sigB r l = true) (hl : ¬ l < 23) :
    Calls Tryz.prog 35 #[.agg #[.int .i64 r, .int .i64 l]] w fun e w' => e = .returned (.tuple #[.agg #[.int .i64 0, .int .i64 0], .int .i64 2]) ∧ Below w.heap.size w w' := by
  have hd : decide (l < 23) = false := decide_eq_false hl
  clear hl
  go_enter Tryz.func35, Tryz.ntmps35
  go_wp2_with fail
  refine (isSig_any r l _).mono ?_
  rintro e w1 ⟨rfl, hb⟩
  rw [h]
  have hb1 := (((Below.refl w.heap.size w).alloc (Nat.le_refl _) _).alloc (by simp) _).trans (hb.mono (by simp; omega))
  have b1 : w1.heap[w.heap.size]? = some (.cells #[.int .i64 r, .int .i64 l] 39) := blk_later hb (by repeat (first | exact heap_alloc_at _ _ _ (by (first | omega | (simp; done) | (simp; omega) | (simp at *; omega) | fail)) | assumption | rw [heap_alloc_past _ _ _ (by (first | omega | (simp; done) | (simp; omega) | (simp at *; omega) | fail))] | rw [heap_setCell_past _ _ _ _ (by (first | omega | (simp; done) | (simp; omega) | (simp at *; omega) | fail))] | fail))
  have b2 : w1.heap[w.heap.size + 1]? = some (.cells #[.int .i64 0, .int .i64 0] 39) := blk_later hb (by repeat (first | exact heap_alloc_at _ _ _ (by (first | omega | (simp; done) | (simp; omega) | (simp at *; omega) | fail)) | assumption | rw [heap_alloc_past _ _ _ (by (first | omega | (simp; done) | (simp; omega) | (simp at *; omega) | fail))] | rw [heap_setCell_past _ _ _ _ (by (first | omega | (simp; done) | (simp; omega) | (simp at *; omega) | fail))] | fail))
  have d0 := blk_cell b1 0
  have d1 := blk_cell b1 1
  have HB := Lib.hid b2
  clear hb h b2 b1
  go_wp2_with fail
  refine (lettered_is r l false hd _).mono ?_
  rintro e w2 ⟨rfl, hb⟩
  have b2 := blk_later hb HB.out
  have c0 := blk_cell b2 0
  have c1 := blk_cell b2 1
  have f0 := blk_free b2 0
  have f1 := blk_free b2 1
  have hb2 := hb1.trans (hb.mono hb1.size)
  clear hb hb1 b2 HB d0 d1
  go_wp2_with fail
  exact bodyPost_ret (v := .tuple #[.agg #[.int .i64 0, .int .i64 0], .int .i64 2]) (by simp [results, Tryz.results35, go_sem, c0, c1]) rfl ⟨rfl, (by repeat (first | exact Below.refl _ _ | assumption | (refine Below.alloc ?_ ?_ _; rotate_left; · (first | omega | (simp; done) | (simp; omega) | (simp at *; omega) | fail)) | (refine Below.setCell ?_ ?_ _; rotate_left; · (first | omega | (simp; done) | (simp; omega) | (simp at *; omega) | fail)) | refine Below.drew ?_ | fail))⟩

/-- The signature behind a lettered one; behind the last one it is none. -/
def behindF (r l : Int) : Int × Int := if l < 22 then (r, l + 1) else (r + 1, 0)

theorem following_is (r l : Int) (w : World) (hl : 0 ≤ l ∧ l ≤ 100) (hr : 0 ≤ r ∧ r ≤ 100) :
    Calls Tryz.prog 75 #[.agg #[.int .i64 r, .int .i64 l]] w fun e w' => e = .returned (.agg #[.int .i64 (behindF r l).1, .int .i64 (behindF r l).2]) ∧ Below w.heap.size w w' := by
  refine (following_any r l w hl hr).mono fun e w' ⟨h1, h2⟩ => ⟨?_, h2⟩
  rw [h1]; unfold behindF; split <;> rfl

set_option maxHeartbeats 400000 in
theorem Next_letter (r l : Int) (w : World) (h : sigB r l = true) (hl : l < 23) (r' l' : Int) (hF : behindF r l = (r', l')) (x : Bool) (hx : sigB r' l' = x) (v : Value) (hv : v = if x then .tuple #[.agg #[.int .i64 r', .int .i64 l'], .int .i64 0] else .tuple #[.agg #[.int .i64 0, .int .i64 0], .int .i64 4]) :
    Calls Tryz.prog 35 #[.agg #[.int .i64 r, .int .i64 l]] w fun e w' => e = .returned v ∧ Below w.heap.size w w' := by
  have hd : decide (l < 23) = true := decide_eq_true hl
  have hb' : 1 ≤ r ∧ r ≤ 3 ∧ 0 ≤ l ∧ l ≤ 24 := by simp [sigB, inB] at h; omega
  have HV := Lib.hid hv
  have HF := Lib.hid hF
  have HX := Lib.hid hx
  clear hl hv hF hx
  go_enter Tryz.func35, Tryz.ntmps35
  go_wp2_with fail
  refine (isSig_any r l _).mono ?_
  rintro e w1 ⟨rfl, hb⟩
  rw [h]
  have hb1 := (((Below.refl w.heap.size w).alloc (Nat.le_refl _) _).alloc (by simp) _).trans (hb.mono (by simp; omega))
  have b1 : w1.heap[w.heap.size]? = some (.cells #[.int .i64 r, .int .i64 l] 39) := blk_later hb (by repeat (first | exact heap_alloc_at _ _ _ (by (first | omega | (simp; done) | (simp; omega) | (simp at *; omega) | fail)) | assumption | rw [heap_alloc_past _ _ _ (by (first | omega | (simp; done) | (simp; omega) | (simp at *; omega) | fail))] | rw [heap_setCell_past _ _ _ _ (by (first | omega | (simp; done) | (simp; omega) | (simp at *; omega) | fail))] | fail))
  have b2 : w1.heap[w.heap.size + 1]? = some (.cells #[.int .i64 0, .int .i64 0] 39) := blk_later hb (by repeat (first | exact heap_alloc_at _ _ _ (by (first | omega | (simp; done) | (simp; omega) | (simp at *; omega) | fail)) | assumption | rw [heap_alloc_past _ _ _ (by (first | omega | (simp; done) | (simp; omega) | (simp at *; omega) | fail))] | rw [heap_setCell_past _ _ _ _ (by (first | omega | (simp; done) | (simp; omega) | (simp at *; omega) | fail))] | fail))
  have d0 := blk_cell b1 0
  have d1 := blk_cell b1 1
  have HB := Lib.hid b2
  have HA := Lib.hid b1
  clear hb h b2 b1
  go_wp2_with fail
  refine (lettered_is r l true hd _).mono ?_
  rintro e w2 ⟨rfl, hb⟩
  have HA := Lib.hid (blk_later hb HA.out)
  have HB := Lib.hid (blk_later hb HB.out)
  have d0 := blk_cell HA.out 0
  have d1 := blk_cell HA.out 1
  have hb2 := hb1.trans (hb.mono hb1.size)
  clear hb hb1 hd
  go_wp2_with fail
  refine (following_is r l _ (by omega) (by omega)).mono ?_
  rintro e w3 ⟨rfl, hb⟩
  rw [HF.out]
  have HB := Lib.hid (blk_later hb HB.out)
  have hb3 := hb2.trans (hb.mono hb2.size)
  have hlt := blk_lt HB.out
  clear hb hb2 d0 d1 HA hb'
  go_wp2_with fail
  refine (isSig_any r' l' _).mono ?_
  rintro e w4 ⟨rfl, hb⟩
  rw [HX.out]
  have b3 : w4.heap[w3.heap.size]? = some (.cells #[.int .i64 r', .int .i64 l'] 39) := blk_later hb (by repeat (first | exact heap_alloc_at _ _ _ (by (first | omega | (simp; done) | (simp; omega) | (simp at *; omega) | fail)) | assumption | rw [heap_alloc_past _ _ _ (by (first | omega | (simp; done) | (simp; omega) | (simp at *; omega) | fail))] | rw [heap_setCell_past _ _ _ _ (by (first | omega | (simp; done) | (simp; omega) | (simp at *; omega) | fail))] | fail))
  have b2 : w4.heap[w.heap.size + 1]? = some (.cells #[.int .i64 0, .int .i64 0] 39) := blk_later hb (by rw [heap_alloc_past _ _ _ hlt]; exact HB.out)
  have c0 := blk_cell b2 0
  have c1 := blk_cell b2 1
  have f0 := blk_free b2 0
  have f1 := blk_free b2 1
  have d0 := blk_cell b3 0
  have d1 := blk_cell b3 1
  have hb4 := (hb3.alloc hb3.size _).trans (hb.mono (by have := hb3.size; simp; omega))
  clear hb hb3 b2 b3 HB
  cases x
  · go_wp2_with fail
    exact bodyPost_ret (v := .tuple #[.agg #[.int .i64 0, .int .i64 0], .int .i64 4]) (by simp [results, Tryz.results35, go_sem, c0, c1]) rfl ⟨by rw [HV.out]; rfl, (by repeat (first | exact Below.refl _ _ | assumption | (refine Below.alloc ?_ ?_ _; rotate_left; · (first | omega | (simp; done) | (simp; omega) | (simp at *; omega) | fail)) | (refine Below.setCell ?_ ?_ _; rotate_left; · (first | omega | (simp; done) | (simp; omega) | (simp at *; omega) | fail)) | refine Below.drew ?_ | fail))⟩
  · go_wp2_with fail
    exact bodyPost_ret (v := .tuple #[.agg #[.int .i64 r', .int .i64 l'], .int .i64 0]) (by simp [results, Tryz.results35, go_sem, c0, c1]) rfl ⟨by rw [HV.out]; rfl, (by repeat (first | exact Below.refl _ _ | assumption | (refine Below.alloc ?_ ?_ _; rotate_left; · (first | omega | (simp; done) | (simp; omega) | (simp at *; omega) | fail)) | (refine Below.setCell ?_ ?_ _; rotate_left; · (first | omega | (simp; done) | (simp; omega) | (simp at *; omega) | fail)) | refine Below.drew ?_ | fail))⟩

end Go.Proofs.YtimdmgkegdlafaaGreatDoor

/- Contracts of package quire: a volume is opened; the name of a leaf; which leaves are signed. -/
namespace Go.Proofs.YtimdmgkegdlafaaGreatDoor
set_option linter.unusedSimpArgs false
set_option linter.unusedVariables false
open Go Go.RowKit Go.Sort Go.BigFrame

theorem checkR_eq (b : Bk) : checkR b = .tuple #[.int .i64 (checkF b).1, .int .i64 (checkF b).2.1, .int .i64 (checkF b).2.2] := rfl


set_option maxRecDepth 100000 in
set_option maxHeartbeats 400000 in
theorem open_bad (b : Bk) (a : Option Addr) (n cap : Nat) (w : World) (hb : BookAt w.heap.size w (.agg #[.int .i64 b.signed, .slice a n cap]) b) (he : errF b ≠ 0) :
    Calls Tryz.prog 22 #[.agg #[.int .i64 b.signed, .slice a n cap]] w fun e w' => e = .returned (.tuple #[.agg #[.int .i64 0, .slice none 0 0], .int .i64 (errF b)]) ∧ Below w.heap.size w w' := by
  have heb : (errF b != 0) = true := by simp [he]
  have HB := Lib.hid hb
  clear hb he
  go_enter Tryz.func22, Tryz.ntmps22
  go_wp2_with fail
  refine (Check_any b _ _ ((HB.out.below (((Below.refl w.heap.size w).alloc (Nat.le_refl _) _).alloc (by simp) _) (Nat.le_refl _)).mono (by simp; omega))).mono ?_
  rintro e w1 ⟨rfl, hb⟩
  rw [checkR_eq]
  have e1 : (checkF b).2.2 = errF b := rfl
  rw [e1]
  have hb1 := (((Below.refl w.heap.size w).alloc (Nat.le_refl _) _).alloc (by simp) _).trans (hb.mono (by simp; omega))
  have b2 : w1.heap[w.heap.size + 1]? = some (.cells #[.int .i64 0, .slice none 0 0] 57) := blk_later hb (by repeat (first | exact heap_alloc_at _ _ _ (by (first | omega | (simp; done) | (simp; omega) | (simp at *; omega) | fail)) | assumption | rw [heap_alloc_past _ _ _ (by (first | omega | (simp; done) | (simp; omega) | (simp at *; omega) | fail))] | rw [heap_setCell_past _ _ _ _ (by (first | omega | (simp; done) | (simp; omega) | (simp at *; omega) | fail))] | fail))
  have c0 := blk_cell b2 0
  have c1 := blk_cell b2 1
  have f0 := blk_free b2 0
  have f1 := blk_free b2 1
  clear hb e1 b2
  go_wp2_with fail
  exact bodyPost_ret (v := .tuple #[.agg #[.int .i64 0, .slice none 0 0], .int .i64 (errF b)]) (by simp [results, Tryz.results22, go_sem, c0, c1]) rfl ⟨rfl, (by repeat (first | exact Below.refl _ _ | assumption | (refine Below.alloc ?_ ?_ _; rotate_left; · (first | omega | (simp; done) | (simp; omega) | (simp at *; omega) | fail)) | (refine Below.setCell ?_ ?_ _; rotate_left; · (first | omega | (simp; done) | (simp; omega) | (simp at *; omega) | fail)) | refine Below.drew ?_ | fail))⟩

set_option maxRecDepth 100000 in
set_option maxHeartbeats 400000 in
theorem open_good (b : Bk) (a : Option Addr) (n cap : Nat) (w : World) (hb : BookAt w.heap.size w (.agg #[.int .i64 b.signed, .slice a n cap]) b) (he : errF b = 0) :
    Calls Tryz.prog 22 #[.agg #[.int .i64 b.signed, .slice a n cap]] w fun e w' => e = .returned (.tuple #[.agg #[.int .i64 b.signed, .slice a n cap], .int .i64 0]) ∧ Below w.heap.size w w' := by
  have HB := Lib.hid hb
  have HE := Lib.hid he
  clear hb he
  go_enter Tryz.func22, Tryz.ntmps22
  go_wp2_with fail
  refine (Check_any b _ _ ((HB.out.below (((Below.refl w.heap.size w).alloc (Nat.le_refl _) _).alloc (by simp) _) (Nat.le_refl _)).mono (by simp; omega))).mono ?_
  rintro e w1 ⟨rfl, hb⟩
  rw [checkR_eq]
  have e1 : (checkF b).2.2 = 0 := HE.out
  rw [e1]
  have hb1 := (((Below.refl w.heap.size w).alloc (Nat.le_refl _) _).alloc (by simp) _).trans (hb.mono (by simp; omega))
  have b1 : w1.heap[w.heap.size]? = some (.cells #[.int .i64 b.signed, .slice a n cap] 24) := blk_later hb (by repeat (first | exact heap_alloc_at _ _ _ (by (first | omega | (simp; done) | (simp; omega) | (simp at *; omega) | fail)) | assumption | rw [heap_alloc_past _ _ _ (by (first | omega | (simp; done) | (simp; omega) | (simp at *; omega) | fail))] | rw [heap_setCell_past _ _ _ _ (by (first | omega | (simp; done) | (simp; omega) | (simp at *; omega) | fail))] | fail))
  have b2 : w1.heap[w.heap.size + 1]? = some (.cells #[.int .i64 0, .slice none 0 0] 57) := blk_later hb (by repeat (first | exact heap_alloc_at _ _ _ (by (first | omega | (simp; done) | (simp; omega) | (simp at *; omega) | fail)) | assumption | rw [heap_alloc_past _ _ _ (by (first | omega | (simp; done) | (simp; omega) | (simp at *; omega) | fail))] | rw [heap_setCell_past _ _ _ _ (by (first | omega | (simp; done) | (simp; omega) | (simp at *; omega) | fail))] | fail))
  have c0 := blk_cell b2 0
  have c1 := blk_cell b2 1
  have d0 := blk_cell b1 0
  have d1 := blk_cell b1 1
  have f0 := blk_free b2 0
  have f1 := blk_free b2 1
  clear hb e1 b2 b1
  go_wp2_with fail
  exact bodyPost_ret (v := .tuple #[.agg #[.int .i64 b.signed, .slice a n cap], .int .i64 0]) (by simp [results, Tryz.results22, go_sem, c0, c1]) rfl ⟨rfl, (by repeat (first | exact Below.refl _ _ | assumption | (refine Below.alloc ?_ ?_ _; rotate_left; · (first | omega | (simp; done) | (simp; omega) | (simp at *; omega) | fail)) | (refine Below.setCell ?_ ?_ _; rotate_left; · (first | omega | (simp; done) | (simp; omega) | (simp at *; omega) | fail)) | refine Below.drew ?_ | fail))⟩

/-- What open hands back of a book that lies at v: the volume (v itself, or none) and the error. -/
def openV (b : Bk) (v : Value) : Value := if errF b = 0 then .tuple #[v, .int .i64 0] else .tuple #[.agg #[.int .i64 0, .slice none 0 0], .int .i64 (errF b)]
theorem open_any (b : Bk) (v : Value) (w : World) (hb : BookAt w.heap.size w v b) :
    Calls Tryz.prog 22 #[v] w fun e w' => e = .returned (openV b v) ∧ Below w.heap.size w w' := by
  have hb' := hb
  obtain ⟨sv, rfl, a, cap, rfl, _⟩ := hb
  by_cases h : errF b = 0
  · have e : ∀ v, openV b v = .tuple #[v, .int .i64 0] := fun v => by simp [openV, h]
    rw [e]; exact open_good b a _ cap w hb' h
  · have e : ∀ v, openV b v = .tuple #[.agg #[.int .i64 0, .slice none 0 0], .int .i64 (errF b)] := fun v => by simp [openV, h]
    rw [e]; exact open_bad b a _ cap w hb' h

set_option maxRecDepth 100000 in
set_option maxHeartbeats 400000 in
theorem name_any (b : Bk) (v : Value) (x : Lf) (g : Gth) (w : World) (hb : BookAt w.heap.size w v b) (hg : b.gs[x.gat]? = some g) :
    Calls Tryz.prog 45 #[v, .agg #[.int .i64 x.gat, .int .i64 x.num, .int .i64 x.plus, .int .i64 x.kind]] w fun e w' => e = .returned (.agg #[.int .i64 g.round, .int .i64 g.letter, .int .i64 x.num, .int .i64 x.plus]) ∧ Below w.heap.size w w' := by
  obtain ⟨i, num, plus, kind⟩ := x
  obtain ⟨sv, rfl, a, cap, rfl, hc⟩ := hb
  have hil : i < b.gs.length := (List.getElem?_eq_some_iff.1 hg).1
  obtain ⟨b', off, rfl, hb', hcell⟩ := hc (fun e => by rw [e] at hil; simp at hil)
  obtain ⟨cv, _, k0, k1, _, _⟩ := hcell i g hg
  dsimp only at hg ⊢
  clear hc hcell hg
  go_enter Tryz.func45, Tryz.ntmps45
  go_wp2_with fail
  have hd : (i : Int) < (b.gs.length : Int) := by omega
  obtain ⟨w1, hw1⟩ : ∃ w1, w1 = (((w.alloc (Obj.cells #[.int .i64 b.signed, .slice (some ⟨b', off, none⟩) b.gs.length cap] 57)).alloc (Obj.cells #[.int .i64 i, .int .i64 num, .int .i64 plus, .int .i64 kind] 89)).alloc (Obj.cells #[.int .i64 0, .int .i64 0, .int .i64 0, .int .i64 0] 91)) := ⟨_, rfl⟩
  have hb1 : Below w.heap.size w w1 := by rw [hw1]; exact (by repeat (first | exact Below.refl _ _ | assumption | (refine Below.alloc ?_ ?_ _; rotate_left; · (first | omega | (simp; done) | (simp; omega) | (simp at *; omega) | fail)) | (refine Below.setCell ?_ ?_ _; rotate_left; · (first | omega | (simp; done) | (simp; omega) | (simp at *; omega) | fail)) | refine Below.drew ?_ | fail))
  have p1 : w1.heap[w.heap.size]? = some (.cells #[.int .i64 b.signed, .slice (some ⟨b', off, none⟩) b.gs.length cap] 57) := by rw [hw1]; exact (by repeat (first | exact heap_alloc_at _ _ _ (by (first | omega | (simp; done) | (simp; omega) | (simp at *; omega) | fail)) | assumption | rw [heap_alloc_past _ _ _ (by (first | omega | (simp; done) | (simp; omega) | (simp at *; omega) | fail))] | rw [heap_setCell_past _ _ _ _ (by (first | omega | (simp; done) | (simp; omega) | (simp at *; omega) | fail))] | fail))
  have p2 : w1.heap[w.heap.size + 1]? = some (.cells #[.int .i64 i, .int .i64 num, .int .i64 plus, .int .i64 kind] 89) := by rw [hw1]; exact (by repeat (first | exact heap_alloc_at _ _ _ (by (first | omega | (simp; done) | (simp; omega) | (simp at *; omega) | fail)) | assumption | rw [heap_alloc_past _ _ _ (by (first | omega | (simp; done) | (simp; omega) | (simp at *; omega) | fail))] | rw [heap_setCell_past _ _ _ _ (by (first | omega | (simp; done) | (simp; omega) | (simp at *; omega) | fail))] | fail))
  have p3 : w1.heap[w.heap.size + 1 + 1]? = some (.cells #[.int .i64 0, .int .i64 0, .int .i64 0, .int .i64 0] 91) := by rw [hw1]; exact (by repeat (first | exact heap_alloc_at _ _ _ (by (first | omega | (simp; done) | (simp; omega) | (simp at *; omega) | fail)) | assumption | rw [heap_alloc_past _ _ _ (by (first | omega | (simp; done) | (simp; omega) | (simp at *; omega) | fail))] | rw [heap_setCell_past _ _ _ _ (by (first | omega | (simp; done) | (simp; omega) | (simp at *; omega) | fail))] | fail))
  have k0 := cell_later' hb1 k0
  have k1 := cell_later' hb1 k1
  have v0 := blk_cell p1 0
  have v1 := blk_cell p1 1
  have l0 := blk_cell p2 0
  have l1 := blk_cell p2 1
  have l2 := blk_cell p2 2
  have HP := Lib.hid p3
  rw [← hw1]
  clear hw1 p1 p2 p3 hb'
  go_still_tail 13, (by kernel_rfl)
  change wpList _ _ _ _ _ w1.drew
  have HP := Lib.hid (blk_drew HP.out)
  have c0 := blk_cell HP.out 0
  have c1 := blk_cell HP.out 1
  have c2 := blk_cell HP.out 2
  have c3 := blk_cell HP.out 3
  have f0 := blk_free HP.out 0
  have f1 := blk_free HP.out 1
  have f2 := blk_free HP.out 2
  have f3 := blk_free HP.out 3
  have hb2 := hb1.drew
  clear HP k0 k1 v0 v1 l0 l1 l2 hb1
  revert c0 c1 c2 c3 f0 f1 f2 f3 hb2
  generalize w1.drew = w2
  intro c0 c1 c2 c3 f0 f1 f2 f3 hb2
  go_wp2_with fail
  exact bodyPost_ret (v := .agg #[.int .i64 g.round, .int .i64 g.letter, .int .i64 num, .int .i64 plus]) (by simp [results, Tryz.results45, go_sem, c0, c1, c2, c3]) rfl ⟨rfl, (by repeat (first | exact Below.refl _ _ | assumption | (refine Below.alloc ?_ ?_ _; rotate_left; · (first | omega | (simp; done) | (simp; omega) | (simp at *; omega) | fail)) | (refine Below.setCell ?_ ?_ _; rotate_left; · (first | omega | (simp; done) | (simp; omega) | (simp at *; omega) | fail)) | refine Below.drew ?_ | fail))⟩

end Go.Proofs.YtimdmgkegdlafaaGreatDoor
