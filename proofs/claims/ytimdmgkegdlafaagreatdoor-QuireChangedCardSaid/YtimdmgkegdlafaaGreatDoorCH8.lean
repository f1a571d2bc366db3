/- The parts Qi of the proof, joined. It holds without conditions of its own. -/
import Derived.Test.YtimdmgkegdlafaaGreatDoorCH7
import Derived.Test.YtimdmgkegdlafaaGreatDoorCH2
/- Contracts of package quire: a volume is opened; the name of a leaf; which leaves are signed. -/
namespace Go.Proofs.YtimdmgkegdlafaaGreatDoor
set_option linter.unusedSimpArgs false
set_option linter.unusedVariables false
open Go Go.RowKit Go.Sort Go.BigFrame

theorem checkR_eq (b : Bk) : checkR b = .tuple #[.int .i64 (checkF b).1, .int .i64 (checkF b).2.1, .int .i64 (checkF b).2.2] := rfl


set_option maxRecDepth 100000 in
set_option maxHeartbeats 400000 in
theorem open_bad (b : Bk) (a : Option Addr) (n cap : Nat) (w : World) (hb : BookAt w.heap.size w (.agg #[.int .i64 b.signed, .slice a n cap]) b) (he : errF b ≠ 0) :
    Calls Tryz.prog 22 #[.agg #[.int .i64 b.signed, .slice a n cap]] w fun e w' => e = .returned (.tuple #[.agg #[.int .i64 0, .slice none 0 0], .int .i64 (errF b)]) ∧ Below w.heap.size w w' := by
  have heb : (errF b != 0) = true := by simp [he]
  have HB := Lib.hid hb
  clear hb he
  go_enter Tryz.func22, Tryz.ntmps22
  go_wp2_with fail
  refine (Check_any b _ _ ((HB.out.below (((Below.refl w.heap.size w).alloc (Nat.le_refl _) _).alloc (by simp) _) (Nat.le_refl _)).mono (by simp; omega))).mono ?_
  rintro e w1 ⟨rfl, hb⟩
  rw [checkR_eq]
  have e1 : (checkF b).2.2 = errF b := rfl
  rw [e1]
  have hb1 := (((Below.refl w.heap.size w).alloc (Nat.le_refl _) _).alloc (by simp) _).trans (hb.mono (by simp; omega))
  have b2 : w1.heap[w.heap.size + 1]? = some (.cells #[.int .i64 0, .slice none 0 0] 57) := blk_later hb (by repeat (first | exact heap_alloc_at _ _ _ (by (first | omega | (simp; done) | (simp; omega) | (simp at *; omega) | fail)) | assumption | rw [heap_alloc_past _ _ _ (by (first | omega | (simp; done) | (simp; omega) | (simp at *; omega) | fail))] | rw [heap_setCell_past _ _ _ _ (by (first | omega | (simp; done) | (simp; omega) | (simp at *; omega) | fail))] | fail))
  have c0 := blk_cell b2 0
  have c1 := blk_cell b2 1
  have f0 := blk_free b2 0
  have f1 := blk_free b2 1
  clear hb e1 b2
  go_wp2_with fail
  exact bodyPost_ret (v := .tuple #[.agg #[.int .i64 0, .slice none 0 0], .int .i64 (errF b)]) (by simp [results, Tryz.results22, go_sem, c0, c1]) rfl ⟨rfl, (by repeat (first | exact Below.refl _ _ | assumption | (refine Below.alloc ?_ ?_ _; rotate_left; · (first | omega | (simp; done) | (simp; omega) | (simp at *; omega) | fail)) | (refine Below.setCell ?_ ?_ _; rotate_left; · (first | omega | (simp; done) | (simp; omega) | (simp at *; omega) | fail)) | refine Below.drew ?_ | fail))⟩

set_option maxRecDepth 100000 in
set_option maxHeartbeats 400000 in
theorem open_good (b : Bk) (a : Option Addr) (n cap : Nat) (w : World) (hb : BookAt w.heap.size w (.agg #[.int .i64 b.signed, .slice a n cap]) b) (he : errF b = 0) :
    Calls Tryz.prog 22 #[.agg #[.int .i64 b.signed, .slice a n cap]] w fun e w' => e = .returned (.tuple #[.agg #[.int .i64 b.signed, .slice a n cap], .int .i64 0]) ∧ Below w.heap.size w w' := by
  have HB := Lib.hid hb
  have HE := Lib.hid he
  clear hb he
  go_enter Tryz.func22, Tryz.ntmps22
  go_wp2_with fail
  refine (Check_any b _ _ ((HB.out.below (((Below.refl w.heap.size w).alloc (Nat.le_refl _) _).alloc (by simp) _) (Nat.le_refl _)).mono (by simp; omega))).mono ?_
  rintro e w1 ⟨rfl, hb⟩
  rw [checkR_eq]
  have e1 : (checkF b).2.2 = 0 := HE.out
  rw [e1]
  have hb1 := (((Below.refl w.heap.size w).alloc (Nat.le_refl _) _).alloc (by simp) _).trans (hb.mono (by simp; omega))
  have b1 : w1.heap[w.heap.size]? = some (.cells #[.int .i64 b.signed, .slice a n cap] 24) := blk_later hb (by repeat (first | exact heap_alloc_at _ _ _ (by (first | omega | (simp; done) | (simp; omega) | (simp at *; omega) | fail)) | assumption | rw [heap_alloc_past _ _ _ (by (first | omega | (simp; done) | (simp; omega) | (simp at *; omega) | fail))] | rw [heap_setCell_past _ _ _ _ (by (first | omega | (simp; done) | (simp; omega) | (simp at *; omega) | fail))] | fail))
  have b2 : w1.heap[w.heap.size + 1]? = some (.cells #[.int .i64 0, .slice none 0 0] 57) := blk_later hb (by repeat (first | exact heap_alloc_at _ _ _ (by (first | omega | (simp; done) | (simp; omega) | (simp at *; omega) | fail)) | assumption | rw [heap_alloc_past _ _ _ (by (first | omega | (simp; done) | (simp; omega) | (simp at *; omega) | fail))] | rw [heap_setCell_past _ _ _ _ (by (first | omega | (simp; done) | (simp; omega) | (simp at *; omega) | fail))] | fail))
  have c0 := blk_cell b2 0
  have c1 := blk_cell b2 1
  have d0 := blk_cell b1 0
  have d1 := blk_cell b1 1
  have f0 := blk_free b2 0
  have f1 := blk_free b2 1
  clear hb e1 b2 b1
  go_wp2_with fail
  exact bodyPost_ret (v := .tuple #[.agg #[.int .i64 b.signed, .slice a n cap], .int .i64 0]) (by simp [results, Tryz.results22, go_sem, c0, c1]) rfl ⟨rfl, (by repeat (first | exact Below.refl _ _ | assumption | (refine Below.alloc ?_ ?_ _; rotate_left; · (first | omega | (simp; done) | (simp; omega) | (simp at *; omega) | fail)) | (refine Below.setCell ?_ ?_ _; rotate_left; · (first | omega | (simp; done) | (simp; omega) | (simp at *; omega) | fail)) | refine Below.drew ?_ | fail))⟩

/-- What open hands back of a book that lies at v: the volume (v itself, or none) and the error. -/
def openV (b : Bk) (v : Value) : Value := if errF b = 0 then .tuple #[v, .int .i64 0] else .tuple #[.agg #[.int .i64 0, .slice none 0 0], .int .i64 (errF b)]
theorem open_any (b : Bk) (v : Value) (w : World) (hb : BookAt w.heap.size w v b) :
    Calls Tryz.prog 22 #[v] w fun e w' => e = .returned (openV b v) ∧ Below w.heap.size w w' := by
  have hb' := hb
  obtain ⟨sv, rfl, a, cap, rfl, _⟩ := hb
  by_cases h : errF b = 0
  · have e : ∀ v, openV b v = .tuple #[v, .int .i64 0] := fun v => by simp [openV, h]
    rw [e]; exact open_good b a _ cap w hb' h
  · have e : ∀ v, openV b v = .tuple #[.agg #[.int .i64 0, .slice none 0 0], .int .i64 (errF b)] := fun v => by simp [openV, h]
    rw [e]; exact open_bad b a _ cap w hb' h

set_option maxRecDepth 100000 in
set_option maxHeartbeats 400000 in
theorem name_any (b : Bk) (v : Value) (x : Lf) (g : Gth) (w : World) (hb : BookAt w.heap.size w v b) (hg : b.gs[x.gat]? = some g) :
    Calls Tryz.prog 45 #[v, .agg #[.int .i64 x.gat, .int .i64 x.num, .int .i64 x.plus, .int .i64 x.kind]] w fun e w' => e = .returned (.agg #[.int .i64 g.round, .int .i64 g.letter, .int .i64 x.num, .int .i64 x.plus]) ∧ Below w.heap.size w w' := by
  obtain ⟨i, num, plus, kind⟩ := x
  obtain ⟨sv, rfl, a, cap, rfl, hc⟩ := hb
  have hil : i < b.gs.length := (List.getElem?_eq_some_iff.1 hg).1
  obtain ⟨b', off, rfl, hb', hcell⟩ := hc (fun e => by rw [e] at hil; simp at hil)
  obtain ⟨cv, _, k0, k1, _, _⟩ := hcell i g hg
  dsimp only at hg ⊢
  clear hc hcell hg
  go_enter Tryz.func45, Tryz.ntmps45
  go_wp2_with fail
  have hd : (i : Int) < (b.gs.length : Int) := by omega
  obtain ⟨w1, hw1⟩ : ∃ w1, w1 = (((w.alloc (Obj.cells #[.int .i64 b.signed, .slice (some ⟨b', off, none⟩) b.gs.length cap] 57)).alloc (Obj.cells #[.int .i64 i, .int .i64 num, .int .i64 plus, .int .i64 kind] 89)).alloc (Obj.cells #[.int .i64 0, .int .i64 0, .int .i64 0, .int .i64 0] 91)) := ⟨_, rfl⟩
  have hb1 : Below w.heap.size w w1 := by rw [hw1]; exact (by repeat (first | exact Below.refl _ _ | assumption | (refine Below.alloc ?_ ?_ _; rotate_left; · (first | omega | (simp; done) | (simp; omega) | (simp at *; omega) | fail)) | (refine Below.setCell ?_ ?_ _; rotate_left; · (first | omega | (simp; done) | (simp; omega) | (simp at *; omega) | fail)) | refine Below.drew ?_ | fail))
  have p1 : w1.heap[w.heap.size]? = some (.cells #[.int .i64 b.signed, .slice (some ⟨b', off, none⟩) b.gs.length cap] 57) := by rw [hw1]; exact (by repeat (first | exact heap_alloc_at _ _ _ (by (first | omega | (simp; done) | (simp; omega) | (simp at *; omega) | fail)) | assumption | rw [heap_alloc_past _ _ _ (by (first | omega | (simp; done) | (simp; omega) | (simp at *; omega) | fail))] | rw [heap_setCell_past _ _ _ _ (by (first | omega | (simp; done) | (simp; omega) | (simp at *; omega) | fail))] | fail))
  have p2 : w1.heap[w.heap.size + 1]? = some (.cells #[.int .i64 i, .int .i64 num, .int .i64 plus, .int .i64 kind] 89) := by rw [hw1]; exact (by repeat (first | exact heap_alloc_at _ _ _ (by (first | omega | (simp; done) | (simp; omega) | (simp at *; omega) | fail)) | assumption | rw [heap_alloc_past _ _ _ (by (first | omega | (simp; done) | (simp; omega) | (simp at *; omega) | fail))] | rw [heap_setCell_past _ _ _ _ (by (first | omega | (simp; done) | (simp; omega) | (simp at *; omega) | fail))] | fail))
  have p3 : w1.heap[w.heap.size + 1 + 1]? = some (.cells #[.int .i64 0, .int .i64 0, .int .i64 0, .int .i64 0] 91) := by rw [hw1]; exact (by repeat (first | exact heap_alloc_at _ _ _ (by (first | omega | (simp; done) | (simp; omega) | (simp at *; omega) | fail)) | assumption | rw [heap_alloc_past _ _ _ (by (first | omega | (simp; done) | (simp; omega) | (simp at *; omega) | fail))] | rw [heap_setCell_past _ _ _ _ (by (first | omega | (simp; done) | (simp; omega) | (simp at *; omega) | fail))] | fail))
  have k0 := cell_later' hb1 k0
  have k1 := cell_later' hb1 k1
  have v0 := blk_cell p1 0
  have v1 := blk_cell p1 1
  have l0 := blk_cell p2 0
  have l1 := blk_cell p2 1
  have l2 := blk_cell p2 2
  have HP := Lib.hid p3
  rw [← hw1]
  clear hw1 p1 p2 p3 hb'
  go_still_tail 13, (by kernel_rfl)
  change wpList _ _ _ _ _ w1.drew
  have HP := Lib.hid (blk_drew HP.out)
  have c0 := blk_cell HP.out 0
  have c1 := blk_cell HP.out 1
  have c2 := blk_cell HP.out 2
  have c3 := blk_cell HP.out 3
  have f0 := blk_free HP.out 0
  have f1 := blk_free HP.out 1
  have f2 := blk_free HP.out 2
  have f3 := blk_free HP.out 3
  have hb2 := hb1.drew
  clear HP k0 k1 v0 v1 l0 l1 l2 hb1
  revert c0 c1 c2 c3 f0 f1 f2 f3 hb2
  generalize w1.drew = w2
  intro c0 c1 c2 c3 f0 f1 f2 f3 hb2
  go_wp2_with fail
  exact bodyPost_ret (v := .agg #[.int .i64 g.round, .int .i64 g.letter, .int .i64 num, .int .i64 plus]) (by simp [results, Tryz.results45, go_sem, c0, c1, c2, c3]) rfl ⟨rfl, (by repeat (first | exact Below.refl _ _ | assumption | (refine Below.alloc ?_ ?_ _; rotate_left; · (first | omega | (simp; done) | (simp; omega) | (simp at *; omega) | fail)) | (refine Below.setCell ?_ ?_ _; rotate_left; · (first | omega | (simp; done) | (simp; omega) | (simp at *; omega) | fail)) | refine Below.drew ?_ | fail))⟩

end Go.Proofs.YtimdmgkegdlafaaGreatDoor
