/- The parts Hd, Hv, Bd, Hx, Ho, Ac, Lh, Bc of the proof, joined. It holds without conditions of its own. -/
import Derived.Test.YtpdhdgdbknnllaaGreatDoorFX10
import Derived.Test.YtpdhdgdbknnllaaGreatDoorFX23
import Derived.Test.YtpdhdgdbknnllaaGreatDoorFX26
import Derived.Test.YtpdhdgdbknnllaaGreatDoorFX13
import Derived.Deep.RegionHeld3
import Derived.IntWalk
import Derived.Test.YtpdhdgdbknnllaaGreatDoorFX9
import Derived.Laws.AppendOwn
import Derived.Test.YtpdhdgdbknnllaaGreatDoorFX7
import Derived.Shelf.RegionOpen
import Derived.Test.YtpdhdgdbknnllaaGreatDoorFX3
import Derived.OrdersHeld
set_option maxRecDepth 100000
set_option maxHeartbeats 20000000
namespace Go.Proofs.YtpdhdgdbknnllaaGreatDoor
section
set_option linter.unusedSimpArgs false
set_option linter.unusedVariables false
open Go Go.RowKit Go.Sort Go.BigFrame
theorem flat_atg {α : Type} {n : Nat} {enc : α -> List Value} (hlen : ∀ x, (enc x).length = n) : ∀ (xs : List α) (i : Nat) (x : α), xs[i]? = some x -> ∀ c, c < n -> (xs.flatMap enc)[i * n + c]? = (enc x)[c]?
 | [], _, _, h, _, _ => by simp at h
 | y :: ys, 0, x, h, c, hc => by
   obtain rfl : y = x := by simpa using h
   rw [List.flatMap_cons, Nat.zero_mul, Nat.zero_add, List.getElem?_append_left (by rw [hlen]; exact hc)]
 | y :: ys, i + 1, x, h, c, hc => by
   rw [List.flatMap_cons, List.getElem?_append_right (by rw [hlen, Nat.succ_mul]; omega), hlen]
   have := flat_atg hlen ys i x (by simpa using h) c hc
   rw [<- this]
   congr 1
   rw [Nat.succ_mul]
   omega
theorem rows_of_own {α : Type} {n : Nat} {enc : α -> List Value} (hlen : ∀ x, (enc x).length = n) {W : World} {base : Nat} {v : Value} {e : TypeId} {xs : List α} (h : W.ownsRow base e n v xs.length (xs.flatMap enc)) : RowsAt n enc W.heap.size W v xs := by
 rcases h.2 with ⟨rfl, h0⟩ | ⟨g, cap, cur, rfl, hb, hg, rest⟩
 · exact ⟨none, 0, by rw [h0], fun hne => absurd (List.length_eq_zero_iff.1 h0) hne⟩
 · refine ⟨_, cap, rfl, fun _ => ⟨g, 0, rfl, blk_lt hg, fun i x hx j u hju => ?_⟩⟩
   have hc := h.cells (g := g) (by simp [Value.ownBlock])
   have hj : j < n := by rw [<- hlen x]; exact (List.getElem?_eq_some_iff.1 hju).1
   have := hc (i * n + j) u (by rw [flat_atg hlen xs i x hx j hj]; exact hju)
   rw [add_offi] at this
   rw [Nat.zero_add]
   exact this
theorem row_formH {W : World} {base : Nat} {v : Value} {e : TypeId} {s n : Nat} {xs : List Value} (h : W.ownsRow base e s v n xs) (hn : 0 < n) : ∃ g cap, v = .slice (some ⟨g, 0, none⟩) n cap /\ base <= g /\ g < W.heap.size /\ n <= cap /\ cap <= maxLen := by
 rcases h.2 with ⟨-, h0⟩ | ⟨g, cap, cur, rfl, hb, hg, h1, h2, -⟩
 · omega
 · exact ⟨g, cap, rfl, hb, (Array.getElem?_eq_some_iff.1 hg).1, h1, h2⟩
theorem good2_any (p : Prs) (b : Bok) (vp vb : Value) (w : World) (hp : PrsAt w.heap.size w vp p) (hb : BokAt w.heap.size w vb b) :
  Calls Tryz.prog 22 #[vp, vb] w fun e w' => e = .returned (.bool ((checkK p b).2.2 == 0)) /\ Below w.heap.size w w' := by
 have HP := Lib.hid hp
 have HK := Lib.hid hb
 obtain ⟨fv, pv, rfl, ⟨a, cap, rfl, -⟩, ⟨a2, cap2, rfl, -⟩, -⟩ := hp
 obtain ⟨mv, rfl, ⟨a3, cap3, rfl, -⟩⟩ := hb
 obtain ⟨n1, hn1⟩ : ∃ n, n = p.fmts.length := ⟨_, rfl⟩
 obtain ⟨n2, hn2⟩ : ∃ n, n = p.pprs.length := ⟨_, rfl⟩
 obtain ⟨n3, hn3⟩ : ∃ n, n = b.marks.length := ⟨_, rfl⟩
 rw [<- hn1, <- hn2] at HP ⊢
 rw [<- hn3] at HK ⊢
 clear hn1 hn2 hn3
 obtain ⟨z, hz⟩ : ∃ z, z = (checkK p b).2.2 := ⟨_, rfl⟩
 rw [<- hz]
 have HZ := Lib.hid hz
 clear hz
 go_enter Tryz.func22, Tryz.ntmps22
 go_wp2_with fail
 have hp0 : Below w.heap.size w ((w.alloc (.cells #[.slice a n1 cap, .slice a2 n2 cap2, .int .i64 p.trim, .int .i64 p.sheets] 25)).alloc (.cells #[.int .i64 b.leaves, .int .i64 b.chain, .int .i64 b.wlo, .int .i64 b.whi, .int .i64 b.hlo, .int .i64 b.hhi, .slice a3 n3 cap3] 30)) := by exact (by repeat (first | exact Below.refl _ _ | assumption | (refine Below.alloc ?_ ?_ _; rotate_left; · (first | omega | (simp; done) | (simp; omega) | fail)) | (refine Below.setCell ?_ ?_ _; rotate_left; · (first | omega | (simp; done) | (simp; omega) | fail)) | refine Below.drew ?_ | fail))
 refine (refCheckBook2_any p b _ _ _ (HP.out.later hp0) (HK.out.later hp0)).mono ?_
 rintro e w2 ⟨rfl, hb⟩
 rw [show (checkK p b).2.2 = z from HZ.out.symm]
 have hb2 := hp0.trans (hb.mono hp0.size)
 clear hb hp0
 go_wp2_with fail
 go_ret
 exact ⟨rfl, hb2⟩
end
section
set_option linter.unusedSimpArgs false
set_option linter.unusedVariables false
open Go Go.RowKit Go.Sort Go.BigFrame
theorem lhas_any (p : Prs) (m : Mkw) (f : Fmt) (xs : List Nat) (xv : Value) (j : Nat) (x : Fl) (vp : Value) (w : World) (hp : PrsAt w.heap.size w vp p) (he : errP p = 0) (hm : mkwErr p m = 0) (hf : p.fmts[m.fmt.toNat]? = some f) (hx : (leavesW m f)[j]? = some x) (hxs : U16sAt w xv xs) :
  Calls Tryz.prog 53 #[vp, mkwV m, .int .i64 j, xv] w fun e w' => e = .returned (.bool (markB (colsF (fdsB f.folds)) (rowsF (fdsB f.folds)) (turnN xs x.sheet % 2) x)) /\ Below w.heap.size w w' := by
 have FN := Lib.hid (fine_of he hm hf)
 have hsh : x.sheet < m.sheets.toNat := FN.out.sheet hx
 have hsm := FN.out.small hx
 have hcnt := FN.out.count
 have hs1 := FN.out.sh1
 have hs4 := FN.out.sh4
 have hjl : j < (leavesW m f).length := (List.getElem?_eq_some_iff.1 hx).1
 have HP := Lib.hid hp
 have HE := Lib.hid he
 have HM := Lib.hid hm
 have HF := Lib.hid hf
 have HX := Lib.hid hx
 have HU := Lib.hid hxs
 obtain ⟨fv, pv, rfl, ⟨a, cap, rfl, -⟩, ⟨a2, cap2, rfl, -⟩, -⟩ := hp
 obtain ⟨xa, xcap, rfl, -⟩ := hxs
 obtain ⟨n1, hn1⟩ : ∃ n, n = p.fmts.length := ⟨_, rfl⟩
 obtain ⟨n2, hn2⟩ : ∃ n, n = p.pprs.length := ⟨_, rfl⟩
 obtain ⟨n3, hn3⟩ : ∃ n, n = xs.length := ⟨_, rfl⟩
 obtain ⟨n4, hn4⟩ : ∃ n, n = (leavesW m f).length := ⟨_, rfl⟩
 have HN4 := Lib.hid hn4
 rw [<- hn1, <- hn2] at HP ⊢
 rw [<- hn3] at HU ⊢
 rw [<- hn4] at hcnt hjl
 obtain ⟨ms, hms⟩ : ∃ n : Nat, m.sheets = n := ⟨m.sheets.toNat, by omega⟩
 have HMS := Lib.hid hms
 clear hn1 hn2 hn3 hn4 hf he hm hx hms
 go_enter Tryz.func53, Tryz.ntmps53
 go_wp2_with fail
 have hp0 : Below w.heap.size w ((w.alloc (.cells #[.slice a n1 cap, .slice a2 n2 cap2, .int .i64 p.trim, .int .i64 p.sheets] 25)).alloc (.cells #[.int .i64 m.fmt, .int .i64 m.ppr, .int .i64 m.sheets, .bool m.half] 50)) := by exact (by repeat (first | exact Below.refl _ _ | assumption | (refine Below.alloc ?_ ?_ _; rotate_left; · (first | omega | (simp; done) | (simp; omega) | fail)) | (refine Below.setCell ?_ ?_ _; rotate_left; · (first | omega | (simp; done) | (simp; omega) | fail)) | refine Below.drew ?_ | fail))
 have x1 : ((w.alloc (.cells #[.slice a n1 cap, .slice a2 n2 cap2, .int .i64 p.trim, .int .i64 p.sheets] 25)).alloc (.cells #[.int .i64 m.fmt, .int .i64 m.ppr, .int .i64 m.sheets, .bool m.half] 50)).heap[w.heap.size]? = some (.cells #[.slice a n1 cap, .slice a2 n2 cap2, .int .i64 p.trim, .int .i64 p.sheets] 25 (0, 0)) := by exact (by repeat (first | exact heap_alloc_at _ _ _ (by (first | omega | (simp; done) | (simp; omega) | (simp at *; omega) | fail)) | assumption | rw [heap_alloc_past _ _ _ (by (first | omega | (simp; done) | (simp; omega) | (simp at *; omega) | fail))] | rw [heap_setCell_past _ _ _ _ (by (first | omega | (simp; done) | (simp; omega) | (simp at *; omega) | fail))] | fail))
 have x2 : ((w.alloc (.cells #[.slice a n1 cap, .slice a2 n2 cap2, .int .i64 p.trim, .int .i64 p.sheets] 25)).alloc (.cells #[.int .i64 m.fmt, .int .i64 m.ppr, .int .i64 m.sheets, .bool m.half] 50)).heap[w.heap.size + 1]? = some (.cells #[.int .i64 m.fmt, .int .i64 m.ppr, .int .i64 m.sheets, .bool m.half] 50 (0, 0)) := by exact (by repeat (first | exact heap_alloc_at _ _ _ (by (first | omega | (simp; done) | (simp; omega) | (simp at *; omega) | fail)) | assumption | rw [heap_alloc_past _ _ _ (by (first | omega | (simp; done) | (simp; omega) | (simp at *; omega) | fail))] | rw [heap_setCell_past _ _ _ _ (by (first | omega | (simp; done) | (simp; omega) | (simp at *; omega) | fail))] | fail))
 refine (refAll2_any p m f _ _ (HP.out.later hp0) HE.out HM.out HF.out).mono ?_
 rintro e w2 ⟨⟨v', g, rfl, hl, hg⟩, hb⟩
 have hc := leaf_cells hl HX.out
 obtain ⟨k7, rest, rfl, -⟩ := hl
 rw [<- HN4.out]
 obtain ⟨y0, y1, y2, y3, y4⟩ := hc
 have HB2 := Lib.hid (hp0.trans (hb.mono hp0.size))
 have X1 := Lib.hid (blk_later hb x1)
 have X2 := Lib.hid (blk_later hb x2)
 clear hp0 hb x1 x2
 go_wp2_with fail
 have hb2 := HB2.out
 obtain ⟨w3, hw3⟩ : ∃ w3, w3 = (w2.alloc (.cells #[.int .i64 x.sheet, .int .i64 x.col, .int .i64 x.row, .bool x.inner, .bool x.turned] 106)).drew := ⟨_, rfl⟩
 have hb3 : Below w2.heap.size w2 w3 := by rw [hw3]; exact Below.drew (by exact (by repeat (first | exact Below.refl _ _ | assumption | (refine Below.alloc ?_ ?_ _; rotate_left; · (first | omega | (simp; done) | (simp; omega) | fail)) | (refine Below.setCell ?_ ?_ _; rotate_left; · (first | omega | (simp; done) | (simp; omega) | fail)) | refine Below.drew ?_ | fail)))
 have x3 : w3.heap[w2.heap.size]? = some (.cells #[.int .i64 x.sheet, .int .i64 x.col, .int .i64 x.row, .bool x.inner, .bool x.turned] 106 (0, 0)) := by rw [hw3]; exact World.alloc_heap_new _ _
 obtain ⟨LB, hLB⟩ : ∃ n, n = w2.heap.size := ⟨_, rfl⟩
 have HB3 := Lib.hid (hb2.trans (hb3.mono hb2.size))
 have Y1 := Lib.hid (blk_later hb3 X1.out)
 have Y2 := Lib.hid (blk_later hb3 X2.out)
 rw [<- hLB] at x3
 have Y3 := Lib.hid x3
 have HLB := Lib.hid hLB
 have hw4 : w3 = (w2.alloc (.cells #[.int .i64 x.sheet, .int .i64 x.col, .int .i64 x.row, .bool x.inner, .bool x.turned] 106)).drew := hw3
 refine wp_region_held_drew (S := fun u => u.cell? ⟨w.heap.size, 0, none⟩ = some (.slice a n1 cap) /\ u.cell? ⟨w.heap.size, 1, none⟩ = some (.slice a2 n2 cap2) /\ u.cell? ⟨w.heap.size, 2, none⟩ = some (.int .i64 p.trim) /\ u.cell? ⟨w.heap.size, 3, none⟩ = some (.int .i64 p.sheets) /\ u.cell? ⟨w.heap.size + 1, 0, none⟩ = some (.int .i64 m.fmt) /\ u.cell? ⟨w.heap.size + 1, 1, none⟩ = some (.int .i64 m.ppr) /\ u.cell? ⟨w.heap.size + 1, 2, none⟩ = some (.int .i64 m.sheets) /\ u.cell? ⟨w.heap.size + 1, 3, none⟩ = some (.bool m.half) /\ u.cell? ⟨w2.heap.size, 0, none⟩ = some (.int .i64 x.sheet) /\ u.cell? ⟨w2.heap.size, 1, none⟩ = some (.int .i64 x.col) /\ u.cell? ⟨w2.heap.size, 2, none⟩ = some (.int .i64 x.row) /\ u.cell? ⟨w2.heap.size, 3, none⟩ = some (.bool x.inner) /\ u.cell? ⟨w2.heap.size, 4, none⟩ = some (.bool x.turned)) (by kernel_rfl) ?_ (fun hHeld => ?_)
 · rw [<- hw4, <- hLB]
   exact ⟨blk_cell Y1.out 0, blk_cell Y1.out 1, blk_cell Y1.out 2, blk_cell Y1.out 3, blk_cell Y2.out 0, blk_cell Y2.out 1, blk_cell Y2.out 2, blk_cell Y2.out 3, blk_cell Y3.out 0, blk_cell Y3.out 1, blk_cell Y3.out 2, blk_cell Y3.out 3, blk_cell Y3.out 4⟩
 rw [<- hw4] at hHeld ⊢
 clear hw3 hw4 hb2 hb3 x3 y0 y1 y2 y3 y4 X1 X2 HB2 hLB
 refine wpAnyH_take (i := 0) (v := ?_) rfl (by kernel_rfl) (by kernel_rfl) (by kernel_rfl) (fun _ _ _ h => h) (Or.inl ⟨by rfl, ?_⟩) (by assumption) ?_
 rotate_left
 · (intro w hSw; (try dsimp only at hSw); go_simp; (try with_reducible rfl))
 (try simp only [Act.put, List.setIfInBounds_toArray, List.set_cons_zero, List.set_cons_succ])
 refine wpAnyH_take (i := 1) (v := ?_) rfl (by kernel_rfl) (by kernel_rfl) (by kernel_rfl) (fun _ _ _ h => h) (Or.inl ⟨by rfl, ?_⟩) (by assumption) ?_
 rotate_left
 · (intro w hSw; (try dsimp only at hSw); go_simp; (try with_reducible rfl))
 (try simp only [Act.put, List.setIfInBounds_toArray, List.set_cons_zero, List.set_cons_succ])
 refine wpAnyH_take (i := 2) (v := ?_) rfl (by kernel_rfl) (by kernel_rfl) (by kernel_rfl) (fun _ _ _ h => h) (Or.inl ⟨by rfl, ?_⟩) (by assumption) ?_
 rotate_left
 · (intro w hSw; (try dsimp only at hSw); go_simp; (try with_reducible rfl))
 (try simp only [Act.put, List.setIfInBounds_toArray, List.set_cons_zero, List.set_cons_succ])
 refine wpAnyH_take (i := 3) (v := ?_) rfl (by kernel_rfl) (by kernel_rfl) (by kernel_rfl) (fun _ _ _ h => h) (Or.inl ⟨by rfl, ?_⟩) (by assumption) ?_
 rotate_left
 · (intro w hSw; (try dsimp only at hSw); go_simp; (try with_reducible rfl))
 (try simp only [Act.put, List.setIfInBounds_toArray, List.set_cons_zero, List.set_cons_succ])
 refine wpAnyH_take (i := 4) (v := ?_) rfl (by kernel_rfl) (by kernel_rfl) (by kernel_rfl) (fun _ _ _ h => h) (Or.inl ⟨by rfl, ?_⟩) (by assumption) ?_
 rotate_left
 · (intro w hSw; (try dsimp only at hSw); go_simp; (try with_reducible rfl))
 (try simp only [Act.put, List.setIfInBounds_toArray, List.set_cons_zero, List.set_cons_succ])
 refine wpAnyH_take (i := 6) (v := ?_) rfl (by kernel_rfl) (by kernel_rfl) (by kernel_rfl) (fun _ _ _ h => h) (Or.inl ⟨by rfl, ?_⟩) (by assumption) ?_
 rotate_left
 · (intro w hSw; (try dsimp only at hSw); go_simp; (try with_reducible rfl))
 (try simp only [Act.put, List.setIfInBounds_toArray, List.set_cons_zero, List.set_cons_succ])
 refine wpAnyH_take (i := 7) (v := ?_) rfl (by kernel_rfl) (by kernel_rfl) (by kernel_rfl) (fun _ _ _ h => h) (Or.inl ⟨by rfl, ?_⟩) (by assumption) ?_
 rotate_left
 · (intro w hSw; (try dsimp only at hSw); go_simp; (try with_reducible rfl))
 (try simp only [Act.put, List.setIfInBounds_toArray, List.set_cons_zero, List.set_cons_succ])
 refine wpAnyH_ready (rs := [5]) (by kernel_rfl) (by simp) ?_
 refine AllReadyH.cons rfl (fun K hK => ?_) AllReadyH.nil
 go_simp
 refine (halves_any m xs (.slice xa n3 xcap) w3 (HU.out.later HB3.out) (by omega) (by omega)).mono ?_
 rintro e w4 ⟨⟨hv', rfl, hrow⟩, hb4⟩
 rw [halvesN_len] at hrow
 obtain ⟨gh, hcap, rfl, -⟩ := row_formH hrow (by omega)
 obtain ⟨h, hh⟩ : ∃ h, h = turnN xs x.sheet % 2 := ⟨_, rfl⟩
 have hh1 : h <= 1 := by omega
 have q9 : w4.cell? ⟨gh, x.sheet, none⟩ = some (.int .i64 (h : Nat)) := by
  have := hrow.cells (g := gh) (by simp [Value.ownBlock]) x.sheet (.int .i64 (h : Nat)) (by
   unfold intVs halvesN
   rw [List.getElem?_map, List.getElem?_map, List.getElem?_range hsh, hh]
   rfl)
  rwa [add_offi] at this
 have hms2 : m.sheets.toNat = ms := by have := HMS.out; omega
 rw [hms2] at hsh hs1 hs4 ⊢
 have HH := Lib.hid hh
 have HB4 := Lib.hid (HB3.out.trans (hb4.mono HB3.out.size))
 have Y1 := Lib.hid (blk_later hb4 Y1.out)
 have Y2 := Lib.hid (blk_later hb4 Y2.out)
 have Y3 := Lib.hid (blk_later hb4 Y3.out)
 clear hh hrow hms2 hb4 HB3
 dsimp only
 go_simp
 refine hK.out _ _ ?_ (fun hNew => ?_)
 · rw [<- HLB.out]
   exact ⟨blk_cell Y1.out 0, blk_cell Y1.out 1, blk_cell Y1.out 2, blk_cell Y1.out 3, blk_cell Y2.out 0, blk_cell Y2.out 1, blk_cell Y2.out 2, blk_cell Y2.out 3, blk_cell Y3.out 0, blk_cell Y3.out 1, blk_cell Y3.out 2, blk_cell Y3.out 3, blk_cell Y3.out 4⟩
 clear hK K hHeld
 have hHeld := hNew
 clear hNew
 (try simp only [Act.put, List.setIfInBounds_toArray, List.set_cons_zero, List.set_cons_succ])
 refine wpAnyH_take (i := 8) (v := ?_) rfl (by kernel_rfl) (by kernel_rfl) (by kernel_rfl) (fun _ _ _ h => h) (Or.inl ⟨by rfl, ?_⟩) (by assumption) ?_
 rotate_left
 · (intro w hSw; (try dsimp only at hSw); go_simp; (try with_reducible rfl))
 (try simp only [Act.put, List.setIfInBounds_toArray, List.set_cons_zero, List.set_cons_succ])
 refine wpAnyH_ready (rs := [9]) (by kernel_rfl) (by simp) ?_
 refine AllReadyH.cons rfl (fun K hK => ?_) AllReadyH.nil
 go_simp
 refine hK.out _ _ hHeld (fun hNew => ?_)
 clear hK K hNew
 (try simp only [Act.put, List.setIfInBounds_toArray, List.set_cons_zero, List.set_cons_succ])
 refine wpAnyH_ready (rs := [10]) (by kernel_rfl) (by simp) ?_
 refine AllReadyH.cons rfl (fun K hK => ?_) AllReadyH.nil
 go_simp
 refine (refHasM_any p m f x h _ w4 (HP.out.later HB4.out) HE.out HM.out HF.out hsm.1 hsm.2 hh1).mono ?_
 rintro e w5 ⟨rfl, hb5⟩
 have HB5 := Lib.hid (HB4.out.trans (hb5.mono HB4.out.size))
 have Y1 := Lib.hid (blk_later hb5 Y1.out)
 have Y2 := Lib.hid (blk_later hb5 Y2.out)
 have Y3 := Lib.hid (blk_later hb5 Y3.out)
 obtain ⟨z, hz⟩ : ∃ z, z = markB (colsF (fdsB f.folds)) (rowsF (fdsB f.folds)) h x := ⟨_, rfl⟩
 have HZ := Lib.hid hz
 rw [<- hz]
 clear hz hb5 q9
 dsimp only
 go_simp
 refine hK.out _ _ ?_ (fun hNew => ?_)
 · rw [<- HLB.out]
   exact ⟨blk_cell Y1.out 0, blk_cell Y1.out 1, blk_cell Y1.out 2, blk_cell Y1.out 3, blk_cell Y2.out 0, blk_cell Y2.out 1, blk_cell Y2.out 2, blk_cell Y2.out 3, blk_cell Y3.out 0, blk_cell Y3.out 1, blk_cell Y3.out 2, blk_cell Y3.out 3, blk_cell Y3.out 4⟩
 clear hK K hHeld
 have hHeld := hNew
 clear hNew
 (try simp only [Act.put, List.setIfInBounds_toArray, List.set_cons_zero, List.set_cons_succ])
 refine wpAnyH_take (i := 11) (v := ?_) rfl (by kernel_rfl) (by kernel_rfl) (by kernel_rfl) (fun _ _ _ h => h) (Or.inl ⟨by rfl, ?_⟩) (by assumption) ?_
 rotate_left
 · (intro w hSw; (try dsimp only at hSw); go_simp; (try with_reducible rfl))
 (try simp only [Act.put, List.setIfInBounds_toArray, List.set_cons_zero, List.set_cons_succ])
 refine wpAnyH_done (by kernel_rfl) ?_ _
 clear hHeld
 show Exit.then _ _ Exit.normal ({ tmps := _, defers := [] } : Act) _
 go_simp
 go_wp2_with fail
 go_ret
 refine ⟨?_, HB5.out⟩
 rw [<- HH.out, <- HZ.out]
 rfl
end
section
set_option linter.unusedSimpArgs false
set_option linter.unusedVariables false
open Go Go.RowKit Go.Sort Go.BigFrame
def minI (x y : Int) : Int := if y < x then y else x
def maxI (x y : Int) : Int := if x < y then y else x
theorem minI_is (x y : Int) : minI x y = min x y := by unfold minI; split <;> omega
theorem maxI_is (x y : Int) : maxI x y = max x y := by unfold maxI; split <;> omega
theorem run_min_is {P : Program} {w : World} (ts : Array TypeId) (t : TypeId) (k k' : IntKind) (x y : Int) : (Builtin.min_ ts t #[.int k x, .int k' y]).run P w = .ok (.int k (minI x y)) w := run_min_int2 w ts t k k' x y
theorem run_max_is {P : Program} {w : World} (ts : Array TypeId) (t : TypeId) (k k' : IntKind) (x y : Int) : (Builtin.max_ ts t #[.int k x, .int k' y]).run P w = .ok (.int k (maxI x y)) w := run_max_int2 w ts t k k' x y
theorem wp_cut {P : Program} {c : Code} {Q : Exit -> Act -> World -> Prop} {a : Act} {w : World} (R : Exit -> Act -> World -> Prop) (h : c.wp P R a w) (k : ∀ e a' w', R e a' w' -> Q e a' w') : c.wp P Q a w := wp_mono h k
theorem span2_any (x y : Int) (w : World) : Calls Tryz.prog 24 #[.int .i64 x, .int .i64 y] w fun e w' => e = .returned (.agg #[.int .i64 x, .int .i64 y]) /\ Below w.heap.size w w' := by
 go_enter Tryz.func24, Tryz.ntmps24
 go_wp2_with fail
 have h := World.alloc_heap_new w (.cells #[.int .i64 x, .int .i64 y] 27)
 have y0 := blk_cell h 0
 have y1 := blk_cell h 1
 exact bodyPost_ret (v := .agg #[.int .i64 x, .int .i64 y]) (by simp [results, Tryz.results24, go_sem, y0, y1]) rfl ⟨rfl, by exact (by repeat (first | exact Below.refl _ _ | assumption | (refine Below.alloc ?_ ?_ _; rotate_left; · (first | omega | (simp; done) | (simp; omega) | fail)) | (refine Below.setCell ?_ ?_ _; rotate_left; · (first | omega | (simp; done) | (simp; omega) | fail)) | refine Below.drew ?_ | fail))⟩
end
section
set_option linter.unusedSimpArgs false
set_option linter.unusedVariables false
open Go Go.RowKit Go.Sort Go.BigFrame
structure TdSt (Z W : World) (bw : Nat) (l ch a b c d : Int) (v : Value) (ms : List (Int × Bool)) : Prop where
 only : OnlyIn (fun k => k = bw) Z W
 box : W.heap[bw]? = some (.cells #[.int .i64 l, .int .i64 ch, .int .i64 a, .int .i64 b, .int .i64 c, .int .i64 d, v] 30 (0, 0))
 row : W.ownsRow Z.heap.size 58 2 v ms.length (ms.flatMap mrkV)
 lt : bw < Z.heap.size
theorem TdSt.later {Z W W' : World} {bw : Nat} {l ch a b c d : Int} {v : Value} {ms : List (Int × Bool)} (h : TdSt Z W bw l ch a b c d v ms) (hb : Below W.heap.size W W') : TdSt Z W' bw l ch a b c d v ms :=
 ⟨h.only.trans (OnlyIn.of_below hb), blk_later hb h.box, row_later h.row hb, h.lt⟩
theorem TdSt.blk {Z W : World} {bw : Nat} {l ch a b c d : Int} {v : Value} {ms : List (Int × Bool)} (h : TdSt Z W bw l ch a b c d v ms) {k : Nat} {o : Obj} (hk : k < Z.heap.size) (hne : k ≠ bw) (hc : Z.heap[k]? = some o) : W.heap[k]? = some o := (h.only.block k hk hne).trans hc
theorem TdSt.add {Z W W' : World} {bw : Nat} {l ch a b c d : Int} {v v' : Value} {ms : List (Int × Bool)} {x : Int × Bool} (h : TdSt Z W bw l ch a b c d v ms) (hr : W'.ownsRow Z.heap.size 58 2 v' (ms.length + 1) (ms.flatMap mrkV ++ mrkV x)) (hg : W.grownBy W' v.ownBlock) :
  TdSt Z (W'.setCell ⟨bw, 6, none⟩ v') bw l ch a b c d v' (ms ++ [x]) := by
 have hlt := h.lt
 have hne : v.ownBlock ≠ some bw := fun e => by have := (h.row.lt bw e).1; omega
 have hbx : W'.heap[bw]? = some (.cells #[.int .i64 l, .int .i64 ch, .int .i64 a, .int .i64 b, .int .i64 c, .int .i64 d, v] 30 (0, 0)) := by
  rw [<- h.box]
  exact hg.block bw (blk_lt h.box) (fun e => hne e.symm)
 have hsz := hg.size
 refine ⟨⟨hg.os.trans h.only.os, hg.tape.trans h.only.tape, hg.output.trans h.only.output, Nat.le_trans h.only.size (by simpa using hsz), fun k hk hkG => ?_⟩, blk_set hbx 6 v', ?_, hlt⟩
 · refine (heap_setCell_past _ _ _ _ (show k ≠ bw from hkG)).trans ((hg.block k (Nat.lt_of_lt_of_le hk h.only.size) fun e => ?_).trans (h.only.block k hk hkG))
   have := (h.row.lt k e.symm).1
   omega
 · have e : (ms ++ [x]).flatMap mrkV = ms.flatMap mrkV ++ mrkV x := by simp
   rw [e, List.length_append, List.length_singleton]
   exact ownsRow_setCell_below hr (by simpa using hlt) v'
theorem TdSt.below {Z W w : World} {n bw : Nat} {l ch a b c d : Int} {v : Value} {ms : List (Int × Bool)} (h : TdSt Z W bw l ch a b c d v ms) (hb : Below n w Z) (hn : n <= bw) : Below n w W :=
 ⟨h.only.os.trans hb.os, h.only.tape.trans hb.tape, h.only.output.trans hb.output, Nat.le_trans hb.size h.only.size, fun k hk => (h.only.block k (Nat.lt_of_lt_of_le hk (Nat.le_trans hn (Nat.le_of_lt h.lt))) (fun e => by subst e; omega)).trans (hb.block k hk)⟩
theorem TdSt.grown {Z W W' : World} {bw : Nat} {l ch a b c d : Int} {v : Value} {ms : List (Int × Bool)} (h : TdSt Z W bw l ch a b c d v ms) (hg : W.grownBy W' v.ownBlock) {k : Nat} (hk : k < Z.heap.size) : W'.heap[k]? = W.heap[k]? :=
 hg.block k (Nat.lt_of_lt_of_le hk h.only.size) (fun e => by have := (h.row.lt k e.symm).1; omega)
theorem told_range {β : Type} (F : Nat -> Nat -> β) (g : Nat -> Nat) (n : Nat) : (((List.range n).map g).zipIdx.map fun q => F q.2 q.1) = (List.range n).map fun i => F i (g i) := by
 refine List.ext_getElem? fun i => ?_
 simp only [List.getElem?_map, List.getElem?_zipIdx, Nat.zero_add, Option.map_map]
 by_cases h : i < n
 · rw [List.getElem?_range h]; rfl
 · rw [List.getElem?_eq_none (by simpa using h)]; rfl
def toldJ (p : Prs) (m : Mkw) (la : List Nat) : List Nat := (List.range (turnN la 5 % 9)).map fun i => turnN la (6 + i) % (lvOf p m).length
def toldT (p : Prs) (m : Mkw) (sa ha la : List Nat) (bits : Nat) : Bok := toldB p m ⟨turnN sa 0, turnN sa 1, turnN sa 2, turnN sa 3⟩ ⟨turnN la 0, turnN la 1, turnN la 2, turnN la 3⟩ (turnN la 4) (fun s => turnN ha s % 2) bits (toldJ p m la)
def tellI (p : Prs) (m : Mkw) (ha la : List Nat) (bits i : Nat) : Int × Bool := tellM p m (fun s => turnN ha s % 2) bits i (turnN la (6 + i) % (lvOf p m).length)
theorem told_marks (p : Prs) (m : Mkw) (sa ha la : List Nat) (bits : Nat) : (toldT p m sa ha la bits).marks = (List.range (turnN la 5 % 9)).map (tellI p m ha la bits) := by
 show ((toldJ p m la).zipIdx.map fun q => tellM p m (fun s => turnN ha s % 2) bits q.2 q.1) = _
 unfold toldJ
 exact told_range (fun i j => tellM p m (fun s => turnN ha s % 2) bits i j) _ _
theorem tell_next (p : Prs) (m : Mkw) (ha la : List Nat) (bits k : Nat) : (List.range (k + 1)).map (tellI p m ha la bits) = (List.range k).map (tellI p m ha la bits) ++ [tellI p m ha la bits k] := by
 rw [List.range_succ, List.map_append]
 rfl
theorem tell_is {p : Prs} {m : Mkw} {f : Fmt} (hf : p.fmts[m.fmt.toNat]? = some f) {ha la : List Nat} {bits k : Nat} {x : Fl} {j : Nat} (hj : j = turnN la (6 + k) % (leavesW m f).length) (hx : (leavesW m f)[j]? = some x) :
  tellI p m ha la bits k = ((j : Int), markB (colsF (fdsB f.folds)) (rowsF (fdsB f.folds)) (turnN ha x.sheet % 2) x != bits.testBit k) := by
 have e1 : fldsOf p m = f.folds := by unfold fldsOf; rw [hf]
 have e2 : lvOf p m = leavesW m f := by unfold lvOf leavesW; rw [e1]
 unfold tellI tellM
 rw [e2, e1, <- hj, hx]
theorem loop_less {k N : Nat} (h : k < N) : N - (intOf (.int .i64 ((k : Int) + 1))).toNat < N - (intOf (.int .i64 (k : Int))).toNat := by
 simp [intOf]
 omega
theorem lo_is {z : Int} {u : Nat} (h0 : 0 <= z) (h1 : z <= 2000) : maxI 0 (IntKind.i64.wrap (z - (u : Int).tmod 9)) = loI z u := by
 rw [Int.tmod_eq_emod_of_nonneg (by omega), IntWalk.i64_in _ (by omega), maxI_is]
 rfl
theorem hi_is {z : Int} {u : Nat} (h0 : 0 <= z) (h1 : z <= 2000) : minI 2000 (IntKind.i64.wrap (z + (u : Int).tmod 9)) = hiI z u := by
 rw [Int.tmod_eq_emod_of_nonneg (by omega), IntWalk.i64_in _ (by omega), minI_is]
 rfl
theorem told_raw {p : Prs} {m : Mkw} {q : Ppr} {f : Fmt} (hq : p.pprs[m.ppr.toNat]? = some q) (hf : p.fmts[m.fmt.toNat]? = some f) {sa : List Nat} {X Y : Nat} {c d : Nat} (hX : (X : Int) = amongI q.wlo q.whi (turnN sa 0)) (hY : (Y : Int) = amongI q.hlo q.hhi (turnN sa 1)) :
  rawN p m ⟨turnN sa 0, turnN sa 1, c, d⟩ = sizeN (lastF (fdsB f.folds)) (colsF (fdsB f.folds)) (rowsF (fdsB f.folds)) X Y := by
 have e1 : fldsOf p m = f.folds := by unfold fldsOf; rw [hf]
 have e2 : pprOf p m = q := by unfold pprOf; rw [hq]
 unfold rawN
 rw [e1, e2]
 dsimp only
 rw [<- hX, <- hY, Int.toNat_natCast, Int.toNat_natCast]
theorem told_wide {p : Prs} {m : Mkw} {q : Ppr} {f : Fmt} (hq : p.pprs[m.ppr.toNat]? = some q) (hf : p.fmts[m.fmt.toNat]? = some f) {sa : List Nat} {X Y R t : Nat} {r z : Int} (hX : (X : Int) = amongI q.wlo q.whi (turnN sa 0)) (hY : (Y : Int) = amongI q.hlo q.hhi (turnN sa 1))
  (hR : R = (sizeN (lastF (fdsB f.folds)) (colsF (fdsB f.folds)) (rowsF (fdsB f.folds)) X Y).1) (ht : t = turnN sa 2) (hr : r = (t : Int) % (p.trim + 1)) (hz : z = maxI 0 ((R : Int) - r)) : wideI p m ⟨turnN sa 0, turnN sa 1, turnN sa 2, turnN sa 3⟩ = z := by
 unfold wideI
 rw [told_raw hq hf hX hY, <- hR, hz, hr, ht, maxI_is]
 rfl
theorem told_high {p : Prs} {m : Mkw} {q : Ppr} {f : Fmt} (hq : p.pprs[m.ppr.toNat]? = some q) (hf : p.fmts[m.fmt.toNat]? = some f) {sa : List Nat} {X Y R t : Nat} {r z : Int} (hX : (X : Int) = amongI q.wlo q.whi (turnN sa 0)) (hY : (Y : Int) = amongI q.hlo q.hhi (turnN sa 1))
  (hR : R = (sizeN (lastF (fdsB f.folds)) (colsF (fdsB f.folds)) (rowsF (fdsB f.folds)) X Y).2) (ht : t = turnN sa 3) (hr : r = (t : Int) % (2 * p.trim + 1)) (hz : z = maxI 0 ((R : Int) - r)) : highI p m ⟨turnN sa 0, turnN sa 1, turnN sa 2, turnN sa 3⟩ = z := by
 unfold highI
 rw [told_raw hq hf hX hY, <- hR, hz, hr, ht, maxI_is]
 rfl
theorem told_fields {p : Prs} {m : Mkw} {q : Ppr} {f : Fmt} (hq : p.pprs[m.ppr.toNat]? = some q) (hf : p.fmts[m.fmt.toNat]? = some f) {sa ha la : List Nat} {bits X Y R1 R2 t2 t3 u0 u1 u2 u3 u4 t4 NL : Nat} {r2 r3 tw th b1 b2 b3 b4 ch : Int} {up : Bool} (hX : (X : Int) = amongI q.wlo q.whi (turnN sa 0)) (hY : (Y : Int) = amongI q.hlo q.hhi (turnN sa 1))
  (hR : R1 = (sizeN (lastF (fdsB f.folds)) (colsF (fdsB f.folds)) (rowsF (fdsB f.folds)) X Y).1 /\ R2 = (sizeN (lastF (fdsB f.folds)) (colsF (fdsB f.folds)) (rowsF (fdsB f.folds)) X Y).2) (ht2 : t2 = turnN sa 2) (hr2 : r2 = (t2 : Int) % (p.trim + 1)) (htw : tw = maxI 0 ((R1 : Int) - r2)) (ht3 : t3 = turnN sa 3) (hr3 : r3 = (t3 : Int) % (2 * p.trim + 1)) (hth : th = maxI 0 ((R2 : Int) - r3))
  (hu : (u0 = turnN la 0 /\ u1 = turnN la 1) /\ u2 = turnN la 2 /\ u3 = turnN la 3) (hb : (b1 = maxI 0 (IntKind.i64.wrap (tw - (u0 : Int).tmod 9)) /\ b2 = minI 2000 (IntKind.i64.wrap (tw + (u1 : Int).tmod 9))) /\ b3 = maxI 0 (IntKind.i64.wrap (th - (u2 : Int).tmod 9)) /\ b4 = minI 2000 (IntKind.i64.wrap (th + (u3 : Int).tmod 9))) (hs : (0 <= tw /\ tw <= 2000) /\ 0 <= th /\ th <= 2000)
  (hN : NL = (leavesW m f).length) (h4 : u4 = turnN la 4 /\ t4 = u4 % 3) (hup : up = lastF (fdsB f.folds)) (hch : ch = (if 0 < t4 then (if up then 1 else 2) else 0)) :
  (toldT p m sa ha la bits).leaves = NL /\ (toldT p m sa ha la bits).chain = ch /\ (toldT p m sa ha la bits).wlo = b1 /\ (toldT p m sa ha la bits).whi = b2 /\ (toldT p m sa ha la bits).hlo = b3 /\ (toldT p m sa ha la bits).hhi = b4 := by
 have e1 : fldsOf p m = f.folds := by unfold fldsOf; rw [hf]
 have e2 : lvOf p m = leavesW m f := by unfold lvOf leavesW; rw [e1]
 obtain ⟨⟨rfl, rfl⟩, rfl, rfl⟩ := hu
 obtain ⟨⟨rfl, rfl⟩, rfl, rfl⟩ := hb
 obtain ⟨rfl, rfl⟩ := h4
 have w1 := told_wide hq hf hX hY hR.1 ht2 hr2 htw
 have w2 := told_high hq hf hX hY hR.2 ht3 hr3 hth
 refine ⟨?_, ?_, ?_, ?_, ?_, ?_⟩
 · show ((lvOf p m).length : Int) = _
   rw [e2, hN]
 · show (if 0 < turnN la 4 % 3 then (if lastF (fdsB (fldsOf p m)) then (1 : Int) else 2) else 0) = _
   rw [e1, hch, hup]
 · show loI (wideI p m ⟨turnN sa 0, turnN sa 1, turnN sa 2, turnN sa 3⟩) (turnN la 0) = _
   rw [w1, lo_is hs.1.1 hs.1.2]
 · show hiI (wideI p m ⟨turnN sa 0, turnN sa 1, turnN sa 2, turnN sa 3⟩) (turnN la 1) = _
   rw [w1, hi_is hs.1.1 hs.1.2]
 · show loI (highI p m ⟨turnN sa 0, turnN sa 1, turnN sa 2, turnN sa 3⟩) (turnN la 2) = _
   rw [w2, lo_is hs.2.1 hs.2.2]
 · show hiI (highI p m ⟨turnN sa 0, turnN sa 1, turnN sa 2, turnN sa 3⟩) (turnN la 3) = _
   rw [w2, hi_is hs.2.1 hs.2.2]
end
section
set_option linter.unusedSimpArgs false
set_option linter.unusedVariables false
open Go Go.RowKit Go.Sort Go.BigFrame
theorem elemMrk : ∃ i, Tryz.prog.info? 58 = some i /\ i.zero = some (.agg #[.int .i64 0, .bool false]) /\ i.size = 2 /\ i.bytes = 16 := elemOf (by kernel_rfl)
theorem undMrks : Tryz.prog.underlying 28 = some (.slice 58) := by kernel_rfl
theorem wp_append_rows {P : Program} {o : Oper} {a : Act} {K : Act -> World -> Prop} {Q : Exit -> Act -> World -> Prop} {w : World} (s x : Operand) (t : TypeId)
  (ho : o.op = .call { callee := .builtin .append, args := #[s, x], argTypes := #[t, t] }) {v1 v2 : Value} (h1 : a.eval s = v1) (h2 : a.eval x = v2)
  {v' : Value} {w' : World} (hr : (Builtin.append_ #[t, t] o.type #[v1, v2]).run P w = .ok v' w') (h : K (a.put o.dst v') w') : o.wp P a w K Q := by
 unfold Oper.wp execOp
 simp only [ho, resolve, invoke, builtin, Sem.run_bind, Sem.run_pure, Result.andThen_ok, List.map_toArray, List.map_cons, List.map_nil, h1, h2, hr]
 exact h
end
section
set_option linter.unusedSimpArgs false
set_option linter.unusedVariables false
open Go Go.RowKit Go.Sort Go.BigFrame Go.Shelf
attribute [local go_sem] Oper.semAt_some putAll
theorem IntsAt.get {W : World} {a : Option Addr} {n cap : Nat} {xs : List Int} (h : IntsAt W (.slice a n cap) xs) {i : Nat} {x : Int} (hx : xs[i]? = some x) : ∃ g, a = some ⟨g, 0, none⟩ /\ g < W.heap.size /\ W.cell? ⟨g, i, none⟩ = some (.int .i64 x) := by
 obtain ⟨a', cap', e, hc⟩ := h
 cases e
 obtain ⟨g, h1, h2, h3⟩ := hc (fun e => by rw [e] at hx; cases hx)
 exact ⟨g, h1, h2, h3 i x hx⟩
theorem not_mem_take {xs : List Int} {k : Nat} {x z : Int} (hx : xs[k]? = some x) (h : z ∉ xs.take k) (hne : x ≠ z) : z ∉ xs.take (k + 1) := by
 rw [List.take_add_one, hx]
 simp only [Option.toList_some, List.mem_append, List.mem_singleton, not_or]
 exact ⟨h, fun e => hne e.symm⟩
theorem refHas_any (xs : List Int) (v : Value) (z : Int) (w : World) (hv : IntsAt w v xs) (hl : xs.length < 1000000) :
  Calls Tryz.prog 34 #[v, .int .i64 z] w fun e w' => e = .returned (.bool (decide (z ∈ xs))) /\ w' = w := by
 have HV := Lib.hid hv
 obtain ⟨a, cap, rfl, -⟩ := hv
 obtain ⟨n, hn⟩ : ∃ n, n = xs.length := ⟨_, rfl⟩
 have HN := Lib.hid hn
 rw [<- hn] at HV hl ⊢
 clear hn
 go_enter Tryz.func34, Tryz.ntmps34
 go_wp2_with fail
 go_loopw [5] (fun q wr => ∃ (k : Nat), k <= n /\ q = .int .i64 k /\ Hid (z ∉ xs.take k) /\ wr = w) (fun q _ => n - (intOf q).toNat)
 case atStart => exact ⟨0, by omega, rfl, (by show z ∉ _; simp), rfl⟩
 case round =>
  obtain ⟨k, hk, rfl, hT, rfl⟩ := hrel
  by_cases hlt : k < n
  · obtain ⟨x, hx⟩ : ∃ x, xs[k]? = some x := ⟨_, List.getElem?_eq_getElem (by have := HN.out; omega)⟩
    obtain ⟨g, rfl, -, q0⟩ := HV.out.get hx
    have HX := Lib.hid hx
    clear hx
    by_cases e : x = z
    · have HD : Hid (decide (z ∈ xs) = true) := Lib.hid (decide_eq_true (by rw [<- e]; exact List.mem_of_getElem? HX.out))
      have e0 : (x == z) = true := by simp [e]
      clear e hT
      go_wp2_with fail
      go_ret
      exact ⟨by rw [HD.out]; rfl, rfl⟩
    · have e0 : (x == z) = false := by simp [e]
      have HT := Lib.hid (not_mem_take HX.out hT.out e)
      clear e hT
      go_wp2_with fail
      go_roundw
      case rel => exact ⟨k + 1, by omega, by go_num, HT.out, trivial⟩
      case measure => simp [intOf]; omega
  · have HD : Hid (decide (z ∈ xs) = false) := Lib.hid (decide_eq_false (by
     have h := hT.out
     rwa [List.take_of_length_le (by have := HN.out; omega)] at h))
    clear hT
    go_wp2_with fail
    go_ret
    exact ⟨by rw [HD.out]; rfl, rfl⟩
end
section
set_option linter.unusedSimpArgs false
set_option linter.unusedVariables false
open Go Go.RowKit
section
variable {P : Program} {ops : Array Oper} {Q : Exit -> Act -> World -> Prop} {md : Region.Mode} {S : World -> Prop}
theorem wanted_plain {o : Oper} (h : o.guard = none) (t : Array Value) : Region.wanted o (yielded ops t) = true := by
 unfold Region.wanted
 rw [h]
theorem op_keeps {j : Nat} {oj : Oper} {J : Act -> Prop} {K : Act -> World -> Prop} {a : Act} {w : World} (hj : ops[j]? = some oj) (hJ : ∀ a u, J a -> J (a.put oj.dst u)) (hD : ∀ a d, J a -> J { a with defers := d :: a.defers })
  (ha : J a) (h : wpOp P ops Q j K a w) : wpOp P ops Q j (fun a' w' => J a' /\ K a' w') a w := by
 unfold wpOp at h ⊢
 simp only [hj] at h ⊢
 by_cases hw : Region.wanted oj (yielded ops a.tmps) = true
 · rw [if_pos hw] at h ⊢
   rcases h with h | h
   · left
     unfold Oper.wp at h ⊢
     generalize (execOp a.eval oj).run P w = r at h ⊢
     cases r with
     | halt x w' => cases x <;> exact h
     | ok n w' =>
       cases n with
       | value u => exact ⟨hJ a u ha, h⟩
       | skip => exact ⟨hJ a _ ha, h⟩
       | defer d => exact ⟨hJ _ _ (hD a d ha), h⟩
       | enter f args =>
         refine Calls.mono h fun e w'' he => ?_
         cases e with
         | returned u => exact ⟨hJ a u ha, he⟩
         | panicked c => exact he
         | outgrown => exact he
       | row row args => exact Rows.mono h fun u w'' he => ⟨hJ a u ha, he⟩
       | _ => exact h
   · exact Or.inr h
 · rw [if_neg hw] at h ⊢
   exact ⟨hJ a _ ha, h⟩
def CallQ (P : Program) (S : World -> Prop) (a : Act) (o : Oper) (v : Value) : Prop :=
 ∃ f args, (∀ w, (execOp a.eval o).run P w = .ok (.enter f args) w) /\ ∀ w, S w -> Calls P f args w fun e w' => e = .returned v /\ w' = w
theorem CallQ.same {a a' : Act} {o : Oper} {v : Value} (h : CallQ P S a o v) (he : execOp a'.eval o = execOp a.eval o) : CallQ P S a' o v := by
 unfold CallQ at *
 rw [he]
 exact h
theorem CallQ.op {i : Nat} {oi : Oper} {v : Value} {a : Act} {K : Act -> World -> Prop} {w : World} (hi : ops[i]? = some oi) (hg : oi.guard = none) (hy : CallQ P S a oi v) (hS : S w) (h : K (a.put oi.dst v) w) : wpOp P ops Q i K a w := by
 obtain ⟨f, args, hr, hc⟩ := hy
 unfold wpOp
 simp only [hi]
 rw [if_pos (wanted_plain hg _)]
 left
 unfold Oper.wp
 rw [hr w]
 refine Calls.mono (hc w hS) ?_
 rintro e w' ⟨rfl, rfl⟩
 exact h
theorem anyH_call {i : Nat} {oi : Oper} {v : Value} (hi : ops[i]? = some oi) (hg : oi.guard = none) (hsel : Region.noSelect ops = true) (hQ : ∀ c a w, Q (.panic c) (a.put oi.dst v) w -> Q (.panic c) a w) :
  ∀ (fuel : Nat) (listed : Array Bool) (a : Act) (w : World),
    (∀ j oj, ops[j]? = some oj -> j ≠ i -> listed.getD j true = false -> (∀ e ∈ oj.after, Region.binds md e = true -> e.on ≠ i) -> oi.apart ops oj = true) ->
    i ∈ Region.ready md ops listed -> CallQ P S a oi v -> S w ->
    wpAnyH P md ops Q S fuel (listed.setIfInBounds i true) (a.put oi.dst v) w -> wpAnyH P md ops Q S (fuel + 1) listed a w
 | fuel, listed, a, w, hfree, hr, hy, hS, H => by
   refine ⟨(fun h => by rw [h] at hr; cases hr), fun j hj => ?_⟩
   by_cases hji : j = i
   · rw [hji]
     exact hy.op hi hg hS ⟨hS, H⟩
   obtain ⟨hjl, oj, hoj, hall⟩ := mem_ready.1 hj
   have hil := (mem_ready.1 hr).1
   have hwait : ∀ e ∈ oj.after, Region.binds md e = true -> e.on ≠ i := fun e he hb heq => by
    have h1 := hall e he hb
    rw [heq] at h1
    simp only [Array.getD_eq_getD_getElem?] at h1 hil
    cases hx : listed[i]? with
    | none => rw [hx] at hil; simp at hil
    | some b => rw [hx] at h1 hil; simp at h1 hil; rw [h1] at hil; cases hil
   have hap := hfree j oj hoj hji hjl hwait
   obtain ⟨-, -, hrd⟩ := Oper.apart_spec hap
   match fuel, H with
   | 0, H =>
     have h0 := ready_mono hj hji
     rw [H.1] at h0
     cases h0
   | fuel + 1, H =>
     have h1 := H.2 j (ready_mono hj hji)
     have h2 := wpOp_putIf (S := fun _ => False) hoj hap (fun cs b => Region.noSelect_spec hsel i oi cs b hi) (fun cs b => Region.noSelect_spec hsel j oj cs b hoj) hQ (.inl ⟨wanted_plain hg _, fun _ h => h.elim⟩) h1
     have h3 := op_keeps (J := fun a' => execOp a'.eval oi = execOp a.eval oi) hoj (fun a' u h => (execOp_put oi (fun cs b => Region.noSelect_spec hsel i oi cs b hi) a' oj.dst u hrd).trans h) (fun a' d h => h) rfl h2
     refine wpOp_mono (fun a' w' h4 => ?_) h3
     obtain ⟨he, -, hS', h5⟩ := h4
     refine ⟨hS', anyH_call hi hg hsel hQ fuel (listed.setIfInBounds j true) a' w' (fun k ok hk hki hun hno => ?_) (ready_mono hr (Ne.symm hji)) (hy.same he) hS' ?_⟩
     · refine hfree k ok hk hki ?_ hno
       by_cases hjk : j = k
       · subst hjk; exact hjl
       · rw [getD_set_ne true hjk] at hun; exact hun
     · rw [Array.setIfInBounds_comm _ _ hji]
       exact h5
theorem anyH_takeCall {i : Nat} {oi : Oper} {v : Value} {fuel : Nat} {listed : Array Bool} {a : Act} {w : World} (hi : ops[i]? = some oi) (hg : oi.guard = none)
  (hs : Region.noSelect ops = true) (hf : Region.free md ops listed i = true) (hr : (Region.ready md ops listed).contains i = true)
  (hQ : ∀ c a w, Q (.panic c) (a.put oi.dst v) w -> Q (.panic c) a w) (hy : CallQ P S a oi v) (hS : S w)
  (h : wpAnyH P md ops Q S fuel (listed.setIfInBounds i true) (a.put oi.dst v) w) : wpAnyH P md ops Q S (fuel + 1) listed a w :=
 anyH_call hi hg hs hQ fuel listed a w (Region.free_spec hi hf) (by simpa using hr) hy hS h
end
end
end Go.Proofs.YtpdhdgdbknnllaaGreatDoor
