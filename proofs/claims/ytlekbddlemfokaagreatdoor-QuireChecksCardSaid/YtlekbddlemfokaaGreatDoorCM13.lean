/- The parts Ch, Rg, Ra of the proof, joined. It holds without conditions of its own. -/
import Derived.Test.YtlekbddlemfokaaGreatDoorCM12
import Derived.Test.YtlekbddlemfokaaGreatDoorCM8
import Derived.Test.YtlekbddlemfokaaGreatDoorCM4
import Derived.Test.YtlekbddlemfokaaGreatDoorCM3
import Derived.Test.YtlekbddlemfokaaGreatDoorCM11
/- The reference: Sig, Behind, Next. -/
namespace Go.Proofs.YtlekbddlemfokaaGreatDoor
set_option linter.unusedSimpArgs false
set_option linter.unusedVariables false
open Go Go.RowKit Go.Sort Go.BigFrame

set_option maxHeartbeats 400000 in
theorem refSig_bad (r l : Int) (w : World) (h : sigB r l = false) :
    Calls Tryz.prog 9 #[.agg #[.int .i64 r, .int .i64 l]] w fun e w' => e = .returned (.tuple #[S [], .int .i64 7]) ∧ Below w.heap.size w w' := by
  go_enter Tryz.func9, Tryz.ntmps9
  go_wp2_with fail
  refine (refSignature_any r l _).mono ?_
  rintro e w1 ⟨rfl, hb1⟩
  rw [h]
  have hb0 : Below w.heap.size w w1 := Below.trans (by exact (by repeat (first | (refine Below.setCell ?_ ?_ _; rotate_left; · (first | omega | (simp; done) | (simp; omega) | fail)) | (refine Below.alloc ?_ ?_ _; rotate_left; · (first | omega | (simp; done) | (simp; omega) | fail)) | refine Below.drew ?_ | exact Below.refl _ _ | fail))) (hb1.mono (by simp; try omega))
  clear hb1
  go_wp2_with fail
  go_ret2
  exact ⟨rfl, hb0⟩
set_option maxHeartbeats 400000 in
theorem refSig_good (r l : Int) (w : World) (h : sigB r l = true) :
    Calls Tryz.prog 9 #[.agg #[.int .i64 r, .int .i64 l]] w fun e w' => e = .returned (.tuple #[S (sigT r l), .int .i64 0]) ∧ Below w.heap.size w w' := by
  have HS := Lib.hid h
  go_enter Tryz.func9, Tryz.ntmps9
  go_wp2_with fail
  refine (refSignature_any r l _).mono ?_
  rintro e w1 ⟨rfl, hb1⟩
  rw [h]
  have k0 : w1.cell? ⟨w.heap.size, 0, none⟩ = some (.int .i64 r) := cell_later' hb1 (by simp [World.cell?_alloc_at])
  have k1 : w1.cell? ⟨w.heap.size, 1, none⟩ = some (.int .i64 l) := cell_later' hb1 (by simp [World.cell?_alloc_at])
  have hb0 : Below w.heap.size w w1 := Below.trans (by exact (by repeat (first | (refine Below.setCell ?_ ?_ _; rotate_left; · (first | omega | (simp; done) | (simp; omega) | fail)) | (refine Below.alloc ?_ ?_ _; rotate_left; · (first | omega | (simp; done) | (simp; omega) | fail)) | refine Below.drew ?_ | exact Below.refl _ _ | fail))) (hb1.mono (by simp; try omega))
  clear hb1 h
  go_wp2_with fail
  refine (refWritten_any r l HS.out _).mono ?_
  rintro e w2 ⟨rfl, hb2⟩
  have hb0 := hb0.trans (hb2.mono hb0.size)
  clear hb2
  go_wp2_with fail
  go_ret2
  exact ⟨rfl, hb0⟩

theorem rank_nat {r l : Int} (h : sigB r l = true) (hl : l < 23) : ∃ n : Nat, rankF r l = n ∧ n < 69 ∧ behindF r l = (1 + (((n + 1 : Nat) : Int)) / 23, (((n + 1 : Nat) : Int)) % 23) := by
  have hb := sigB_is h
  refine ⟨((r - 1) * 23 + l).toNat, ?_, by omega, ?_⟩
  · unfold rankF; rw [if_neg (by omega)]; omega
  · unfold behindF
    split
    · exact Prod.ext (by show r = _; omega) (by show l + 1 = _; omega)
    · exact Prod.ext (by show r + 1 = _; omega) (by show 0 = _; omega)

set_option maxRecDepth 100000 in
set_option maxHeartbeats 400000 in
theorem refBehind_any (n : Nat) (hn : n < 1000) (r' l' : Int) (hr : r' = 1 + (n : Int) / 23) (hl : l' = (n : Int) % 23) (w : World) :
    Calls Tryz.prog 27 #[.int .i64 n] w fun e w' => e = .returned (.agg #[.int .i64 r', .int .i64 l']) ∧ Below w.heap.size w w' := by
  have e1 : IntKind.i64.wrap ((n : Int) / 23) = (n : Int) / 23 := IntWalk.i64_in _ (by omega)
  have e2 : IntKind.i64.wrap (1 + (n : Int) / 23) = 1 + (n : Int) / 23 := IntWalk.i64_in _ (by omega)
  subst hr hl
  go_enter Tryz.func27, Tryz.ntmps27
  go_wp2_with fail
  exact bodyPost_ret (v := .agg #[.int .i64 (1 + (n : Int) / 23), .int .i64 ((n : Int) % 23)]) (by simp [results, Tryz.results27, go_sem]) rfl ⟨rfl, (by repeat (first | exact Below.refl _ _ | assumption | (refine Below.alloc ?_ ?_ _; rotate_left; · (first | omega | (simp; done) | (simp; omega) | (simp at *; omega) | fail)) | (refine Below.setCell ?_ ?_ _; rotate_left; · (first | omega | (simp; done) | (simp; omega) | (simp at *; omega) | fail)) | refine Below.drew ?_ | fail))⟩

set_option maxHeartbeats 400000 in
theorem refNext_bad (r l : Int) (w : World) (h : sigB r l = false) :
    Calls Tryz.prog 11 #[.agg #[.int .i64 r, .int .i64 l]] w fun e w' => e = .returned (.tuple #[.agg #[.int .i64 0, .int .i64 0], .int .i64 7]) ∧ Below w.heap.size w w' := by
  go_enter Tryz.func11, Tryz.ntmps11
  go_wp2_with fail
  refine (refSignature_any r l _).mono ?_
  rintro e w1 ⟨rfl, hb⟩
  rw [h]
  have hb1 : Below w.heap.size w w1 := Below.trans (by exact (by repeat (first | (refine Below.setCell ?_ ?_ _; rotate_left; · (first | omega | (simp; done) | (simp; omega) | fail)) | (refine Below.alloc ?_ ?_ _; rotate_left; · (first | omega | (simp; done) | (simp; omega) | fail)) | refine Below.drew ?_ | exact Below.refl _ _ | fail))) (hb.mono (by simp; try omega))
  have b2 : w1.heap[w.heap.size + 1]? = some (.cells #[.int .i64 0, .int .i64 0] 26) := blk_later hb (by repeat (first | exact heap_alloc_at _ _ _ (by (first | omega | (simp; done) | (simp; omega) | (simp at *; omega) | fail)) | assumption | rw [heap_alloc_past _ _ _ (by (first | omega | (simp; done) | (simp; omega) | (simp at *; omega) | fail))] | rw [heap_setCell_past _ _ _ _ (by (first | omega | (simp; done) | (simp; omega) | (simp at *; omega) | fail))] | fail))
  have c0 := blk_cell b2 0
  have c1 := blk_cell b2 1
  have f0 := blk_free b2 0
  have f1 := blk_free b2 1
  clear hb h b2
  go_wp2_with fail
  exact bodyPost_ret (v := .tuple #[.agg #[.int .i64 0, .int .i64 0], .int .i64 7]) (by simp [results, Tryz.results11, go_sem, c0, c1]) rfl ⟨rfl, (by repeat (first | exact Below.refl _ _ | assumption | (refine Below.alloc ?_ ?_ _; rotate_left; · (first | omega | (simp; done) | (simp; omega) | (simp at *; omega) | fail)) | (refine Below.setCell ?_ ?_ _; rotate_left; · (first | omega | (simp; done) | (simp; omega) | (simp at *; omega) | fail)) | refine Below.drew ?_ | fail))⟩

set_option maxHeartbeats 400000 in
theorem refNext_plain (r l : Int) (w : World) (h : sigB r l = true) (hl : ¬ l < 23) :
    Calls Tryz.prog 11 #[.agg #[.int .i64 r, .int .i64 l]] w fun e w' => e = .returned (.tuple #[.agg #[.int .i64 0, .int .i64 0], .int .i64 2]) ∧ Below w.heap.size w w' := by
  have HR : Hid (rankF r l = -1) := Lib.hid (by unfold rankF; rw [if_pos (by omega)])
  have HS := Lib.hid h
  clear hl
  go_enter Tryz.func11, Tryz.ntmps11
  go_wp2_with fail
  refine (refSignature_any r l _).mono ?_
  rintro e w1 ⟨rfl, hb⟩
  rw [h]
  have hb1 : Below w.heap.size w w1 := Below.trans (by exact (by repeat (first | (refine Below.setCell ?_ ?_ _; rotate_left; · (first | omega | (simp; done) | (simp; omega) | fail)) | (refine Below.alloc ?_ ?_ _; rotate_left; · (first | omega | (simp; done) | (simp; omega) | fail)) | refine Below.drew ?_ | exact Below.refl _ _ | fail))) (hb.mono (by simp; try omega))
  have b1 : w1.heap[w.heap.size]? = some (.cells #[.int .i64 r, .int .i64 l] 26) := blk_later hb (by repeat (first | exact heap_alloc_at _ _ _ (by (first | omega | (simp; done) | (simp; omega) | (simp at *; omega) | fail)) | assumption | rw [heap_alloc_past _ _ _ (by (first | omega | (simp; done) | (simp; omega) | (simp at *; omega) | fail))] | rw [heap_setCell_past _ _ _ _ (by (first | omega | (simp; done) | (simp; omega) | (simp at *; omega) | fail))] | fail))
  have b2 : w1.heap[w.heap.size + 1]? = some (.cells #[.int .i64 0, .int .i64 0] 26) := blk_later hb (by repeat (first | exact heap_alloc_at _ _ _ (by (first | omega | (simp; done) | (simp; omega) | (simp at *; omega) | fail)) | assumption | rw [heap_alloc_past _ _ _ (by (first | omega | (simp; done) | (simp; omega) | (simp at *; omega) | fail))] | rw [heap_setCell_past _ _ _ _ (by (first | omega | (simp; done) | (simp; omega) | (simp at *; omega) | fail))] | fail))
  have d0 := blk_cell b1 0
  have d1 := blk_cell b1 1
  have HB := Lib.hid b2
  clear hb h b2 b1
  go_wp2_with fail
  refine (refRank_any r l _ HS.out).mono ?_
  rintro e w2 ⟨rfl, hb⟩
  rw [HR.out]
  have b2 := blk_later hb HB.out
  have c0 := blk_cell b2 0
  have c1 := blk_cell b2 1
  have f0 := blk_free b2 0
  have f1 := blk_free b2 1
  have hb2 := hb1.trans (hb.mono hb1.size)
  clear hb hb1 b2 HB d0 d1
  go_wp2_with fail
  exact bodyPost_ret (v := .tuple #[.agg #[.int .i64 0, .int .i64 0], .int .i64 2]) (by simp [results, Tryz.results11, go_sem, c0, c1]) rfl ⟨rfl, (by repeat (first | exact Below.refl _ _ | assumption | (refine Below.alloc ?_ ?_ _; rotate_left; · (first | omega | (simp; done) | (simp; omega) | (simp at *; omega) | fail)) | (refine Below.setCell ?_ ?_ _; rotate_left; · (first | omega | (simp; done) | (simp; omega) | (simp at *; omega) | fail)) | refine Below.drew ?_ | fail))⟩

set_option maxHeartbeats 800000 in
theorem refNext_letter (r l : Int) (w : World) (h : sigB r l = true) (hl : l < 23) (r' l' : Int) (hF : behindF r l = (r', l')) (x : Bool) (hx : sigB r' l' = x) (v : Value) (hv : v = if x then .tuple #[.agg #[.int .i64 r', .int .i64 l'], .int .i64 0] else .tuple #[.agg #[.int .i64 0, .int .i64 0], .int .i64 4]) :
    Calls Tryz.prog 11 #[.agg #[.int .i64 r, .int .i64 l]] w fun e w' => e = .returned v ∧ Below w.heap.size w w' := by
  obtain ⟨n, hR, hn, hB⟩ := rank_nat h hl
  have hh := hF.symm.trans hB
  simp only [Prod.mk.injEq] at hh
  obtain ⟨hr', hl'⟩ := hh
  have HR' := Lib.hid hr'
  have HL' := Lib.hid hl'
  clear hr' hl'
  have HR := Lib.hid hR
  have HS := Lib.hid h
  have HV := Lib.hid hv
  have HX := Lib.hid hx
  have dn : decide ((n : Int) < 0) = false := decide_eq_false (by omega)
  have e1 : IntKind.i64.wrap ((n : Int) + 1) = ((n + 1 : Nat) : Int) := by rw [IntWalk.i64_in _ (by omega)]; omega
  clear hl hv hF hx hB hR
  go_enter Tryz.func11, Tryz.ntmps11
  go_wp2_with fail
  refine (refSignature_any r l _).mono ?_
  rintro e w1 ⟨rfl, hb⟩
  rw [h]
  have hb1 : Below w.heap.size w w1 := Below.trans (by exact (by repeat (first | (refine Below.setCell ?_ ?_ _; rotate_left; · (first | omega | (simp; done) | (simp; omega) | fail)) | (refine Below.alloc ?_ ?_ _; rotate_left; · (first | omega | (simp; done) | (simp; omega) | fail)) | refine Below.drew ?_ | exact Below.refl _ _ | fail))) (hb.mono (by simp; try omega))
  have HA := Lib.hid (show w1.heap[w.heap.size]? = some (.cells #[.int .i64 r, .int .i64 l] 26) from blk_later hb (by repeat (first | exact heap_alloc_at _ _ _ (by (first | omega | (simp; done) | (simp; omega) | (simp at *; omega) | fail)) | assumption | rw [heap_alloc_past _ _ _ (by (first | omega | (simp; done) | (simp; omega) | (simp at *; omega) | fail))] | rw [heap_setCell_past _ _ _ _ (by (first | omega | (simp; done) | (simp; omega) | (simp at *; omega) | fail))] | fail)))
  have HB := Lib.hid (show w1.heap[w.heap.size + 1]? = some (.cells #[.int .i64 0, .int .i64 0] 26) from blk_later hb (by repeat (first | exact heap_alloc_at _ _ _ (by (first | omega | (simp; done) | (simp; omega) | (simp at *; omega) | fail)) | assumption | rw [heap_alloc_past _ _ _ (by (first | omega | (simp; done) | (simp; omega) | (simp at *; omega) | fail))] | rw [heap_setCell_past _ _ _ _ (by (first | omega | (simp; done) | (simp; omega) | (simp at *; omega) | fail))] | fail)))
  have d0 := blk_cell HA.out 0
  have d1 := blk_cell HA.out 1
  clear hb h
  go_wp2_with fail
  refine (refRank_any r l _ HS.out).mono ?_
  rintro e w2 ⟨rfl, hb⟩
  rw [HR.out]
  have HA := Lib.hid (blk_later hb HA.out)
  have HB := Lib.hid (blk_later hb HB.out)
  have d0 := blk_cell HA.out 0
  have d1 := blk_cell HA.out 1
  have hb2 := hb1.trans (hb.mono hb1.size)
  clear hb hb1
  go_wp2_with fail
  refine (refRank_any r l _ HS.out).mono ?_
  rintro e w3 ⟨rfl, hb⟩
  rw [HR.out]
  have HB := Lib.hid (blk_later hb HB.out)
  have hb3 := hb2.trans (hb.mono hb2.size)
  clear hb hb2 d0 d1 HA
  go_wp2_with fail
  refine (refBehind_any (n + 1) (by omega) r' l' HR'.out HL'.out _).mono ?_
  rintro e w4 ⟨rfl, hb⟩
  have HB := Lib.hid (blk_later hb HB.out)
  have hb4 := hb3.trans (hb.mono hb3.size)
  have hlt := blk_lt HB.out
  clear hb hb3
  go_wp2_with fail
  refine (refSignature_any _ _ _).mono ?_
  rintro e w5 ⟨rfl, hb⟩
  rw [HX.out]
  have b3 : w5.heap[w4.heap.size]? = some (.cells #[.int .i64 r', .int .i64 l'] 26) := blk_later hb (by repeat (first | exact heap_alloc_at _ _ _ (by (first | omega | (simp; done) | (simp; omega) | (simp at *; omega) | fail)) | assumption | rw [heap_alloc_past _ _ _ (by (first | omega | (simp; done) | (simp; omega) | (simp at *; omega) | fail))] | rw [heap_setCell_past _ _ _ _ (by (first | omega | (simp; done) | (simp; omega) | (simp at *; omega) | fail))] | fail))
  have b2 : w5.heap[w.heap.size + 1]? = some (.cells #[.int .i64 0, .int .i64 0] 26) := blk_later hb (by rw [heap_alloc_past _ _ _ hlt]; exact HB.out)
  have c0 := blk_cell b2 0
  have c1 := blk_cell b2 1
  have f0 := blk_free b2 0
  have f1 := blk_free b2 1
  have d0 := blk_cell b3 0
  have d1 := blk_cell b3 1
  have hb5 := (hb4.alloc hb4.size _).trans (hb.mono (by have := hb4.size; simp; omega))
  clear hb hb4 b2 b3 HB
  cases x
  · go_wp2_with fail
    exact bodyPost_ret (v := .tuple #[.agg #[.int .i64 0, .int .i64 0], .int .i64 4]) (by simp [results, Tryz.results11, go_sem, c0, c1]) rfl ⟨by rw [HV.out]; rfl, (by repeat (first | exact Below.refl _ _ | assumption | (refine Below.alloc ?_ ?_ _; rotate_left; · (first | omega | (simp; done) | (simp; omega) | (simp at *; omega) | fail)) | (refine Below.setCell ?_ ?_ _; rotate_left; · (first | omega | (simp; done) | (simp; omega) | (simp at *; omega) | fail)) | refine Below.drew ?_ | fail))⟩
  · go_wp2_with fail
    exact bodyPost_ret (v := .tuple #[.agg #[.int .i64 r', .int .i64 l'], .int .i64 0]) (by simp [results, Tryz.results11, go_sem, c0, c1]) rfl ⟨by rw [HV.out]; rfl, (by repeat (first | exact Below.refl _ _ | assumption | (refine Below.alloc ?_ ?_ _; rotate_left; · (first | omega | (simp; done) | (simp; omega) | (simp at *; omega) | fail)) | (refine Below.setCell ?_ ?_ _; rotate_left; · (first | omega | (simp; done) | (simp; omega) | (simp at *; omega) | fail)) | refine Below.drew ?_ | fail))⟩
end Go.Proofs.YtlekbddlemfokaaGreatDoor

/- More on the statement that ranges over a function: what a caller keeps; how it leaves. For any program. -/
namespace Go.Proofs.YtlekbddlemfokaaGreatDoor
set_option linter.unusedSimpArgs false
set_option linter.unusedVariables false
open Go Go.RowKit

theorem Held.get {w0 W : World} {bs : List (Nat × Obj)} (h : Held w0 bs W) (i : Nat) {k : Nat} {o : Obj} (hi : bs[i]? = some (k, o)) : W.heap[k]? = some o := h.at_ (k, o) (List.mem_of_getElem? hi)
/-- The frame bears one mark: it is taken back. -/
theorem leave_ret {n : Nat} {P : Program} {fn : Func} {tmps : Array Value} {R : Ending → World → Prop} {D : Nat} {W : World} (hD : W.heap[D]? = some (.deferred (some [])))
    (h : ∃ v, (results fn tmps).run P (W.putObj D (.deferred none)) = .ok v (W.putObj D (.deferred none)) ∧ R (.returned v) (W.putObj D (.deferred none))) :
    bodyPostM Fence.wide n P fn R .ret ⟨tmps, [{ target := .collected D, args := #[] }]⟩ W := by
  refine ⟨by simp, .inl ⟨_, _, rfl, run_takeDeferred hD, ?_⟩⟩
  exact h
theorem leave_end {n : Nat} {P : Program} {fn : Func} {tmps : Array Value} {R : Ending → World → Prop} {D : Nat} {W : World} (hD : W.heap[D]? = some (.deferred (some [])))
    (h : ∃ v, (results fn tmps).run P (W.putObj D (.deferred none)) = .ok v (W.putObj D (.deferred none)) ∧ R (.returned v) (W.putObj D (.deferred none))) :
    bodyPostM Fence.wide n P fn R .normal ⟨tmps, [{ target := .collected D, args := #[] }]⟩ W := leave_ret hD h
theorem Held.put {w0 W : World} {bs : List (Nat × Obj)} (h : Held w0 bs W) {D : Nat} (o : Obj) (h0 : w0.heap.size ≤ D) (hb : ∀ p ∈ bs, p.1 < D) : Held w0 bs (W.putObj D o) :=
  h.only (OnlyIn.putObj (X := fun k => k = D) W D o rfl) (hs := D) (fun _ h => by omega) h0 hb
/-- All four cells, or both, or all three. -/
theorem blk_set4 {W : World} {k : Nat} {a b c d : Value} {t : TypeId} {f : Nat × Nat} (h : W.heap[k]? = some (.cells #[a, b, c, d] t f)) (a' b' c' d' : Value) :
    ((((W.setCell ⟨k, 0, none⟩ a').setCell ⟨k, 1, none⟩ b').setCell ⟨k, 2, none⟩ c').setCell ⟨k, 3, none⟩ d').heap[k]? = some (.cells #[a', b', c', d'] t f) := by
  have := blk_set (blk_set (blk_set (blk_set h 0 a') 1 b') 2 c') 3 d'
  simpa using this
theorem blk_set3 {W : World} {k : Nat} {a b c : Value} {t : TypeId} {f : Nat × Nat} (h : W.heap[k]? = some (.cells #[a, b, c] t f)) (a' b' c' : Value) :
    (((W.setCell ⟨k, 0, none⟩ a').setCell ⟨k, 1, none⟩ b').setCell ⟨k, 2, none⟩ c').heap[k]? = some (.cells #[a', b', c'] t f) := by
  have := blk_set (blk_set (blk_set h 0 a') 1 b') 2 c'
  simpa using this
theorem blk_set2 {W : World} {k : Nat} {a b : Value} {t : TypeId} {f : Nat × Nat} (h : W.heap[k]? = some (.cells #[a, b] t f)) (a' b' : Value) :
    ((W.setCell ⟨k, 0, none⟩ a').setCell ⟨k, 1, none⟩ b').heap[k]? = some (.cells #[a', b'] t f) := by
  have := blk_set (blk_set h 0 a') 1 b'
  simpa using this
theorem blk_set1 {W : World} {k : Nat} {a : Value} {t : TypeId} {f : Nat × Nat} (h : W.heap[k]? = some (.cells #[a] t f)) (a' : Value) :
    (W.setCell ⟨k, 0, none⟩ a').heap[k]? = some (.cells #[a'] t f) := by
  have := blk_set h 0 a'
  simpa using this

/-- The frame with some slots written. -/
def putAll (tmps : Array Value) (us : List (Nat × Value)) : Array Value := us.foldl (fun t p => t.setIfInBounds p.1 p.2) tmps

/-- THE STATEMENT, the round's frame by the slots that its assignment writes. -/
theorem rf_law2 {P : Program} {n : Nat} {α : Type} {g : Operand} {ps : Array Tmp} {assign body : Code} {Q : Exit → Act → World → Prop} {a : Act} {w : World}
    {gf : Nat} {lb : Array Value} (hg : a.eval g = .func (.func gf) #[] lb) (eg : ∀ args w, (callFunc gf args).run P w = .ok (.enter gf args) w)
    {encs : α → Array Value} {xs : List α} {Pr : Nat → Prop} (hit : ItC P gf lb encs xs Pr w) (hps : ∀ x, (encs x).size = ps.size) (hPr : ∀ k, Pr k → k < w.heap.size)
    (I : List α → World → Prop) (Ix : Code → List α → World → Prop) (Ow : World → Nat → Prop) (o : α → Obj) (upd : α → Nat → List (Nat × Value))
    (hOwc : ∀ pre W k, I pre W → Ow W k → ∃ c t f, W.heap[k]? = some (.cells c t f))
    (hI : ∀ pre (X : Nat → Prop) W W', I pre W → OnlyIn X W W' → (∀ k, X k → w.heap.size ≤ k ∧ ¬ Ow W k) → I pre W' ∧ ∀ k, Ow W' k → Ow W k)
    (hIx : ∀ c pre (X : Nat → Prop) W W', Ix c pre W → OnlyIn X W W' → (∀ k, X k → w.heap.size ≤ k) → Ix c pre W')
    (h0 : I [] w)
    (hassign : ∀ (l : Nat) (x : α) (W : World) (K : Act → World → Prop), K { tmps := putAll a.tmps (upd x W.heap.size), defers := [] } (W.alloc (o x)) →
      assign.wpIn (Fence.wide.inRound l) 9 P (Exit.then K (fun _ _ _ => False)) { tmps := (ps.zip (encs x)).foldl (fun t (p, v) => t.setIfInBounds p v) a.tmps, defers := [] } W)
    (hbody : ∀ (l : Nat) (pre : List α) (x : α) (rest : List α) (bx : Nat) (W : World), xs = pre ++ x :: rest → I pre W → W.heap[bx]? = some (o x) → w.heap.size ≤ bx → ¬ Ow W bx →
      body.wpIn (Fence.wide.inRound l) 9 P (rfPost w.heap.size Pr Ow I Ix (pre ++ [x]) W) { tmps := putAll a.tmps (upd x bx), defers := [] } W)
    (hdone : ∀ (D : Nat) (W : World), w.heap.size ≤ D → I xs W → W.heap[D]? = some (.deferred (some [])) → Q .normal { a with defers := { target := .collected D, args := #[] } :: a.defers } W)
    (hstop : ∀ (D : Nat) (c : Code) (pre : List α) (W : World), w.heap.size ≤ D → Ix c pre W → W.heap[D]? = some (.deferred (some [])) → c.wpIn Fence.wide n P Q { a with defers := { target := .collected D, args := #[] } :: a.defers } W) :
    (Code.rangeFunc g ps assign body).wpIn Fence.wide n P Q a w :=
  rf_law hg eg hit hps hPr I Ix Ow o (fun x bx => { tmps := putAll a.tmps (upd x bx), defers := [] }) hOwc hI hIx h0 hassign hbody hdone hstop

end Go.Proofs.YtlekbddlemfokaaGreatDoor

/- Contracts of the reader: a word, a digit, a number; and where it ends. -/
namespace Go.Proofs.YtlekbddlemfokaaGreatDoor
set_option linter.unusedSimpArgs false
set_option linter.unusedVariables false
open Go Go.RowKit Go.Sort Go.BigFrame

/-- The reader lies in block R and has s yet to read. -/
def Rd (W : World) (R : Nat) (s : Bs) : Prop := W.heap[R]? = some (.cells #[S s] 121)
/-- Only the reader has turned; it has s yet to read. -/
structure Rw (R : Nat) (s : Bs) (w w' : World) : Prop where
  rd : Rd w' R s
  only : OnlyIn (fun k => k = R) w w'
theorem Rw.trans {R : Nat} {s t : Bs} {a b c : World} (h : Rw R s a b) (k : Rw R t b c) : Rw R t a c := ⟨k.rd, h.only.trans k.only⟩
theorem Rd.later {R : Nat} {s : Bs} {w w' : World} (h : Rd w R s) (hb : Below w.heap.size w w') : Rw R s w w' :=
  ⟨blk_later hb h, OnlyIn.of_below hb⟩
theorem Rw.block {R : Nat} {s : Bs} {w w' : World} (h : Rw R s w w') {k : Nat} {o : Obj} (hk : w.heap[k]? = some o) (hne : k ≠ R) : w'.heap[k]? = some o :=
  (h.only.block k (blk_lt hk) hne).trans hk
theorem Rw.size {R : Nat} {s : Bs} {w w' : World} (h : Rw R s w w') : w.heap.size ≤ w'.heap.size := h.only.size
theorem Rw.below {R : Nat} {s : Bs} {w w0 w' : World} (h : Rw R s w w') {B : Nat} (hb : Below B w0 w) (hB : B ≤ w.heap.size) (hR : B ≤ R) : Below B w0 w' :=
  h.only.below hb hB (fun _ e => by omega)

/-- How the reading ends where a text has not the form. -/
abbrev panicE : Ending := .panicked [{ v := .iface 27 (.int .i64 6), recovered := false }]
/-- What a reader hands back: what it read, or its end. -/
def ReadPost {α : Type} (R : Nat) (enc : α → Value) (r : Option (α × Bs)) (w : World) (e : Ending) (w' : World) : Prop := match r with
  | some (x, t) => e = .returned (enc x) ∧ Rw R t w w'
  | none => e = panicE ∧ ∃ t, Rw R t w w'

theorem hasPrefix_eq (s p : Bs) : Lib.hasPrefix s p = (skipF p s).isSome := by
  unfold Lib.hasPrefix skipF
  cases h : p.isPrefixOf s <;> simp_all

set_option maxHeartbeats 400000 in
theorem skip_yes (R : Nat) (s p t : Bs) (w : World) (hr : Rd w R s) (h : skipF p s = some t) :
    Calls Tryz.prog 69 #[.pointer (some ⟨R, 0, none⟩), S p] w fun e w' => e = .returned (.bool true) ∧ Rw R t w w' := by
  have e1 : Lib.hasPrefix s p = true := by rw [hasPrefix_eq, h]; rfl
  have e2 : Lib.trimPrefix s p = t := by
    unfold skipF at h; unfold Lib.trimPrefix; simp_all
  have c0 := blk_cell hr 0
  have f0 := blk_free hr 0
  have HR := Lib.hid hr
  have HE := Lib.hid e1
  have HF := Lib.hid e2
  clear hr h e1 e2
  go_enter Tryz.func69, Tryz.ntmps69
  go_wp2_with fail
  refine (Tryz.strings_CutPrefix _ _ _).mono ?_
  rintro e w1 ⟨rfl, rfl⟩
  simp only [HE.out, HF.out]
  go_wp2_with fail
  go_ret
  exact ⟨rfl, blk_set1 HR.out _, OnlyIn.setCell _ _ _ rfl⟩

set_option maxHeartbeats 400000 in
theorem skip_no (R : Nat) (s p : Bs) (w : World) (hr : Rd w R s) (h : skipF p s = none) :
    Calls Tryz.prog 69 #[.pointer (some ⟨R, 0, none⟩), S p] w fun e w' => e = .returned (.bool false) ∧ Rw R s w w' := by
  have e1 : Lib.hasPrefix s p = false := by rw [hasPrefix_eq, h]; rfl
  have e2 : Lib.trimPrefix s p = s := by
    unfold Lib.trimPrefix; simp [e1]
  have c0 := blk_cell hr 0
  have f0 := blk_free hr 0
  have HR := Lib.hid hr
  have HE := Lib.hid e1
  have HF := Lib.hid e2
  clear hr h e1 e2
  go_enter Tryz.func69, Tryz.ntmps69
  go_wp2_with fail
  refine (Tryz.strings_CutPrefix _ _ _).mono ?_
  rintro e w1 ⟨rfl, rfl⟩
  simp only [HE.out, HF.out]
  go_wp2_with fail
  go_ret
  exact ⟨rfl, blk_set1 HR.out _, OnlyIn.setCell _ _ _ rfl⟩

set_option maxHeartbeats 400000 in
theorem fail_any (v : Value) (w : World) : Calls Tryz.prog 68 #[v] w fun e w' => e = panicE ∧ w = w' := by
  go_enter Tryz.func68, Tryz.ntmps68
  go_wp2_with fail
  exact ⟨rfl, rfl, rfl⟩

set_option maxHeartbeats 400000 in
theorem must_no (R : Nat) (s p : Bs) (w : World) (hr : Rd w R s) (h : skipF p s = none) :
    Calls Tryz.prog 71 #[.pointer (some ⟨R, 0, none⟩), S p] w fun e w' => e = panicE ∧ Rw R s w w' := by
  go_enter Tryz.func71, Tryz.ntmps71
  go_wp2_with fail
  refine (skip_no R s p _ hr h).mono ?_
  rintro e w1 ⟨rfl, hw⟩
  go_wp2_with fail
  refine (fail_any _ _).mono ?_
  rintro e w2 ⟨rfl, rfl⟩
  go_wp2_with fail
  exact ⟨rfl, rfl, hw⟩
set_option maxHeartbeats 400000 in
theorem must_yes (R : Nat) (s p t : Bs) (w : World) (hr : Rd w R s) (h : skipF p s = some t) :
    Calls Tryz.prog 71 #[.pointer (some ⟨R, 0, none⟩), S p] w fun e w' => e = .returned (.tuple #[]) ∧ Rw R t w w' := by
  go_enter Tryz.func71, Tryz.ntmps71
  go_wp2_with fail
  refine (skip_yes R s p t _ hr h).mono ?_
  rintro e w1 ⟨rfl, hw⟩
  go_wp2_with fail
  go_end0
  exact ⟨rfl, hw⟩

theorem dec_one {k : Nat} (h : k < 10) : dec (k : Int) = [UInt8.ofNat (48 + k)] := by simp [dec, decN, h]
theorem skip_one (c d : UInt8) (s : Bs) : skipF [c] (d :: s) = if c = d then some s else none := by
  unfold skipF
  simp only [List.isPrefixOf]
  by_cases h : c = d <;> simp [h]
theorem skip_nil (c : UInt8) : skipF [c] [] = none := rfl
theorem digit_hit {s t : Bs} {n : Int} (h : digitF s = some (n, t)) : ∃ k : Nat, n = k ∧ k < 10 ∧ skipF (dec k) s = some t ∧ ∀ j : Nat, j < k → skipF (dec j) s = none := by
  cases s with
  | nil => cases h
  | cons c s =>
    simp only [digitF] at h
    split at h
    · rename_i hc
      simp only [Option.some.injEq, Prod.mk.injEq] at h
      obtain ⟨rfl, rfl⟩ := h
      refine ⟨c.toNat - 48, by omega, by omega, ?_, fun j hj => ?_⟩
      · rw [dec_one (by omega), skip_one, if_pos]
        rw [show 48 + (c.toNat - 48) = c.toNat by omega]; simp
      · rw [dec_one (by omega), skip_one, if_neg]
        intro e
        have := congrArg UInt8.toNat e
        simp only [UInt8.toNat_ofNat'] at this
        omega
    · cases h
theorem digit_miss {s : Bs} (h : digitF s = none) (j : Nat) (hj : j < 10) : skipF (dec j) s = none := by
  rw [dec_one hj]
  cases s with
  | nil => rfl
  | cons c s =>
    simp only [digitF] at h
    split at h
    · cases h
    · rename_i hc
      rw [skip_one, if_neg]
      intro e
      have := congrArg UInt8.toNat e
      simp only [UInt8.toNat_ofNat'] at this
      omega

set_option maxHeartbeats 400000 in
theorem digit_no (R : Nat) (s : Bs) (w : World) (hr : Rd w R s) (h : digitF s = none) :
    Calls Tryz.prog 83 #[.pointer (some ⟨R, 0, none⟩)] w fun e w' => e = .returned (.tuple #[.int .i64 0, .bool false]) ∧ Rw R s w w' := by
  have HR := Lib.hid hr
  have HD := Lib.hid h
  clear hr h
  go_enter Tryz.func83, Tryz.ntmps83
  go_wp2_with fail
  go_loopw [5] (fun i wr => ∃ k : Nat, k ≤ 10 ∧ i = .int .i64 k ∧ Hid (Rw R s w wr)) (fun i _ => 10 - (intOf i).toNat)
  case atStart => exact ⟨0, by omega, rfl, ⟨HR.out, OnlyIn.refl _ _⟩⟩
  case round =>
    obtain ⟨k, hk, rfl, hw⟩ := hrel
    by_cases hlt : k < 10
    · go_wp2_with fail
      refine (Itoa_any k (by omega) (by omega) _).mono ?_
      rintro e w1 ⟨rfl, rfl⟩
      go_wp2_with fail
      refine (skip_no R s (dec k) _ hw.out.rd (digit_miss HD.out k hlt)).mono ?_
      rintro e w1 ⟨rfl, hw1⟩
      have HW := Lib.hid (hw.out.trans hw1)
      clear hw1 hw
      go_wp2_with fail
      go_roundw
      case rel => exact ⟨k + 1, by omega, by go_num, HW⟩
      case measure => simp [intOf]; omega
    · go_wp2_with fail
      go_ret2
      exact ⟨rfl, hw.out⟩
set_option maxHeartbeats 400000 in
theorem digit_yes (R : Nat) (s t : Bs) (n : Int) (w : World) (hr : Rd w R s) (h : digitF s = some (n, t)) :
    Calls Tryz.prog 83 #[.pointer (some ⟨R, 0, none⟩)] w fun e w' => e = .returned (.tuple #[.int .i64 n, .bool true]) ∧ Rw R t w w' := by
  have HR := Lib.hid hr
  obtain ⟨m, rfl, hm, hh, hj⟩ := digit_hit h
  have HD := Lib.hid hj
  have HH := Lib.hid hh
  clear hr h hh hj
  go_enter Tryz.func83, Tryz.ntmps83
  go_wp2_with fail
  go_loopw [5] (fun i wr => ∃ k : Nat, k ≤ m ∧ i = .int .i64 k ∧ Hid (Rw R s w wr)) (fun i _ => 10 - (intOf i).toNat)
  case atStart => exact ⟨0, by omega, rfl, ⟨HR.out, OnlyIn.refl _ _⟩⟩
  case round =>
    obtain ⟨k, hk, rfl, hw⟩ := hrel
    by_cases hlt : k < m
    · go_wp2_with fail
      refine (Itoa_any k (by omega) (by omega) _).mono ?_
      rintro e w1 ⟨rfl, rfl⟩
      go_wp2_with fail
      refine (skip_no R s (dec k) _ hw.out.rd (HD.out k hlt)).mono ?_
      rintro e w1 ⟨rfl, hw1⟩
      have HW := Lib.hid (hw.out.trans hw1)
      clear hw1 hw
      go_wp2_with fail
      go_roundw
      case rel => exact ⟨k + 1, by omega, by go_num, HW⟩
      case measure => simp [intOf]; omega
    · obtain rfl : k = m := by omega
      go_wp2_with fail
      refine (Itoa_any k (by omega) (by omega) _).mono ?_
      rintro e w1 ⟨rfl, rfl⟩
      go_wp2_with fail
      refine (skip_yes R s (dec k) t _ hw.out.rd HH.out).mono ?_
      rintro e w1 ⟨rfl, hw1⟩
      have HW := Lib.hid (hw.out.trans hw1)
      clear hw1 hw
      go_wp2_with fail
      go_ret2
      exact ⟨rfl, HW.out⟩

set_option maxHeartbeats 1000000 in
theorem number_any (R : Nat) (s : Bs) (w : World) (hr : Rd w R s) :
    Calls Tryz.prog 72 #[.pointer (some ⟨R, 0, none⟩)] w (ReadPost R (fun n => .int .i64 n) (numberF s) w) := by
  have HR := Lib.hid hr
  clear hr
  cases hd : digitF s with
  | none =>
    have hn : numberF s = none := by simp [numberF, hd]
    rw [hn]
    have HD := Lib.hid hd
    clear hd hn
    go_enter Tryz.func72, Tryz.ntmps72
    go_wp2_with fail
    refine (digit_no R s _ HR.out HD.out).mono ?_
    rintro e w1 ⟨rfl, hw⟩
    have HW := Lib.hid hw
    clear hw
    go_wp2_with fail
    refine (fail_any _ _).mono ?_
    rintro e w2 ⟨rfl, rfl⟩
    go_wp2_with fail
    exact ⟨rfl, rfl, s, HW.out⟩
  | some p =>
    obtain ⟨n, t⟩ := p
    have hn : numberF s = numF 3 n t := by simp [numberF, hd]
    obtain ⟨-, hn0, hn9⟩ := digitF_len hd
    have HN := Lib.hid hn
    have HD := Lib.hid hd
    rw [hn]
    clear hd hn
    go_enter Tryz.func72, Tryz.ntmps72
    go_wp2_with fail
    refine (digit_yes R s t n _ HR.out HD.out).mono ?_
    rintro e w1 ⟨rfl, hw⟩
    have HW := Lib.hid hw
    clear hw
    go_wp2_with fail
    go_loopw [3] (fun v wr => ∃ (f : Nat) (m : Int) (u : Bs), f ≤ 3 ∧ (f = 3 → m ≤ 9) ∧ (f = 2 → 10 ≤ m ∨ m = 0) ∧ f ≥ 2 ∧ 0 ≤ m ∧ m ≤ 12 ∧ v = .int .i64 m ∧ Hid (numF 3 n t = numF f m u) ∧ Hid (Rw R u w wr)) (fun v _ => 100 - (intOf v).toNat)
    case atStart => exact ⟨3, n, t, by omega, fun _ => hn9, by omega, by omega, hn0, by omega, rfl, rfl, HW⟩
    case round =>
      obtain ⟨f, m, u, hf, hf3, hf2, hge, hm0, hm, rfl, HF, hw⟩ := hrel
      by_cases hz : m ≤ 0
      · have hF : numF f m u = some (m, u) := by
          obtain ⟨f', rfl⟩ : ∃ f', f = f' + 1 := ⟨f - 1, by omega⟩
          simp [numF, hz]
        have HF2 := Lib.hid (HF.out.trans hF)
        clear HF hF HN
        go_wp2_with fail
        go_ret
        show ReadPost R _ (numF 3 n t) _ _ _
        rw [HF2.out]
        exact ⟨rfl, hw.out⟩
      · obtain ⟨f', rfl⟩ : ∃ f', f = f' + 1 := ⟨f - 1, by omega⟩
        cases hd : digitF u with
        | none =>
          have hF : numF (f' + 1) m u = some (m, u) := by simp [numF, hz, hd]
          have HF2 := Lib.hid (HF.out.trans hF)
          have HD := Lib.hid hd
          clear HF hF hd HN
          go_wp2_with fail
          refine (digit_no R u _ hw.out.rd HD.out).mono ?_
          rintro e w2 ⟨rfl, hw2⟩
          have HW := Lib.hid (hw.out.trans hw2)
          clear hw2 hw
          go_wp2_with fail
          go_ret
          show ReadPost R _ (numF 3 n t) _ _ _
          rw [HF2.out]
          exact ⟨rfl, HW.out⟩
        | some p =>
          obtain ⟨d, u2⟩ := p
          obtain ⟨-, hd0, hd9⟩ := digitF_len hd
          have HD := Lib.hid hd
          by_cases hbig : 12 < 10 * m + d
          · have hF : numF (f' + 1) m u = none := by simp [numF, hz, hd, hbig]
            have HF2 := Lib.hid (HF.out.trans hF)
            clear HF hF hd HN
            go_wp2_with fail
            refine (digit_yes R u u2 d _ hw.out.rd HD.out).mono ?_
            rintro e w2 ⟨rfl, hw2⟩
            have HW := Lib.hid (hw.out.trans hw2)
            clear hw2 hw
            go_wp2_with fail
            refine (fail_any _ _).mono ?_
            rintro e w2 ⟨rfl, rfl⟩
            go_wp2_with fail
            refine ⟨rfl, ?_⟩
            show ReadPost R _ (numF 3 n t) _ _ _
            rw [HF2.out]
            exact ⟨rfl, u2, HW.out⟩
          · have hF : numF (f' + 1) m u = numF f' (10 * m + d) u2 := by simp [numF, hz, hd, hbig]
            have HF2 := Lib.hid (HF.out.trans hF)
            have hf'2 : f' = 2 := by
              rcases Nat.lt_or_ge f' 2 with h | h
              · have : f' + 1 = 2 := by omega
                have := hf2 this
                omega
              · omega
            subst hf'2
            clear HF hF hd HN
            go_wp2_with fail
            refine (digit_yes R u u2 d _ hw.out.rd HD.out).mono ?_
            rintro e w2 ⟨rfl, hw2⟩
            have HW := Lib.hid (hw.out.trans hw2)
            clear hw2 hw
            go_wp2_with fail
            go_roundw
            case rel => exact ⟨2, 10 * m + d, u2, by omega, by omega, by omega, by omega, by omega, by omega, rfl, HF2, HW⟩
            case measure => simp [intOf]; omega

end Go.Proofs.YtlekbddlemfokaaGreatDoor
