/- The parts Tj, Ud, Ue, Kfu, Kfz, Oc, Ba, Gt of the proof, joined. It holds without conditions of its own. -/
import Derived.Test.YtpdhdgdbknnllaaGreatDoorFT12
import Derived.Deep.RegionHeld3
import Derived.Test.YtpdhdgdbknnllaaGreatDoorFT11
import Derived.Deep.Cut
import Derived.Test.YtpdhdgdbknnllaaGreatDoorFT4
import Derived.Test.YtpdhdgdbknnllaaGreatDoorFT5
import Derived.Lib.QuietBelow
import Derived.StillTail
import Derived.StillTailTactics
import Derived.BigRegion
import Derived.Test.YtpdhdgdbknnllaaGreatDoorProg
set_option maxRecDepth 100000
set_option maxHeartbeats 20000000
namespace Go.Proofs.YtpdhdgdbknnllaaGreatDoor
section
set_option linter.unusedSimpArgs false
set_option linter.unusedVariables false
open Go Go.RowKit Go.Sort Go.BigFrame
theorem Mates_any (p : Prs) (m : Mkw) (f : Fmt) (ls : List Fl) (i : Nat) (vp : Value) (w : World) (hp : PrsAt w.heap.size w vp p) (he : errP p = 0) (hm : mkwErr p m = 0)
  (hf : p.fmts[m.fmt.toNat]? = some f) (hls : ls = leavesF (fdsB f.folds) m.sheets.toNat m.half) (hn : ls.length <= 1000) (hi : i < ls.length) :
  Calls Tryz.prog 19 #[vp, mkwV m, .int .i64 i] w fun e w' => (∃ v', e = .returned (.tuple #[v', .int .i64 ((ls.length - 1 - i : Nat) : Int), .int .i64 0]) /\ IntsAt w' v' ((matesF ls i).map fun (n : Nat) => (n : Int))) /\ Below w.heap.size w w' := by
 have HP := Lib.hid hp
 have HE := Lib.hid he
 have HM := Lib.hid hm
 have HF := Lib.hid hf
 have HLS := Lib.hid hls
 obtain ⟨fv, pv, rfl, ⟨a, cap, rfl, -⟩, ⟨a2, cap2, rfl, -⟩, -⟩ := hp
 obtain ⟨n1, hn1⟩ : ∃ n, n = p.fmts.length := ⟨_, rfl⟩
 obtain ⟨n2, hn2⟩ : ∃ n, n = p.pprs.length := ⟨_, rfl⟩
 rw [<- hn1, <- hn2] at HP ⊢
 clear hn1 hn2 he hm hf hls
 obtain ⟨y, hy⟩ : ∃ y, ls[i]? = some y := ⟨_, List.getElem?_eq_getElem hi⟩
 have HY := Lib.hid hy
 obtain ⟨n7, hn7⟩ : ∃ n, n = ls.length := ⟨_, rfl⟩
 have HN7 := Lib.hid hn7
 obtain ⟨cj, hcj⟩ : ∃ c : Int, c = ((ls.length - 1 - i : Nat) : Int) := ⟨_, rfl⟩
 rw [<- hcj]
 have HCJ := Lib.hid hcj
 rw [<- hn7] at hn hi
 clear hy hn7 hcj
 go_enter Tryz.func19, Tryz.ntmps19
 go_wp2_with fail
 refine (openWay_any p m _ _ (HP.out.later (by exact (by repeat (first | exact Below.refl _ _ | assumption | (refine Below.alloc ?_ ?_ _; rotate_left; · (first | omega | (simp; done) | (simp; omega) | fail)) | (refine Below.setCell ?_ ?_ _; rotate_left; · (first | omega | (simp; done) | (simp; omega) | fail)) | refine Below.drew ?_ | fail)))) HE.out HM.out).mono ?_
 rintro e w2 ⟨⟨f', q, lv, g, hfx, hqx, rfl, hl, hg⟩, hb⟩
 obtain rfl : f' = f := Option.some.inj (hfx.symm.trans HF.out)
 rw [<- HLS.out] at hl
 have hb0 : Below w.heap.size w w2 := Below.trans (by exact (by repeat (first | exact Below.refl _ _ | assumption | (refine Below.alloc ?_ ?_ _; rotate_left; · (first | omega | (simp; done) | (simp; omega) | fail)) | (refine Below.setCell ?_ ?_ _; rotate_left; · (first | omega | (simp; done) | (simp; omega) | fail)) | refine Below.drew ?_ | fail))) (hb.mono (by simp; try omega))
 have HL := Lib.hid hl
 obtain ⟨k7, rest, rfl, -⟩ := hl
 rw [<- HN7.out] at HL ⊢
 have hg2 : w.heap.size <= g := by simp at hg; omega
 have hz2 := hb0.size
 clear hfx hqx hb hg
 obtain ⟨co, hco⟩ : ∃ c : Int, c = (colsF (fdsB f'.folds) : Int) := ⟨_, rfl⟩
 obtain ⟨ro, hro⟩ : ∃ c : Int, c = (rowsF (fdsB f'.folds) : Int) := ⟨_, rfl⟩
 rw [<- hco, <- hro]
 clear hco hro
 obtain ⟨w3, hw3⟩ : ∃ w3, w3 = (w2.alloc (.cells (wayC m f'.folds co ro q p.trim (.slice (some ⟨g, 0, none⟩) n7 (n7 + k7))) 83)) := ⟨_, rfl⟩
 have hc3 : w3.heap[w2.heap.size]? = some (.cells (wayC m f'.folds co ro q p.trim (.slice (some ⟨g, 0, none⟩) n7 (n7 + k7))) 83 (0, 0)) := by rw [hw3]; exact (by repeat (first | exact heap_alloc_at _ _ _ (by (first | omega | (simp; done) | (simp; omega) | (simp at *; omega) | fail)) | assumption | rw [heap_alloc_past _ _ _ (by (first | omega | (simp; done) | (simp; omega) | (simp at *; omega) | fail))] | rw [heap_setCell_past _ _ _ _ (by (first | omega | (simp; done) | (simp; omega) | (simp at *; omega) | fail))] | fail))
 have hb3 : Below w.heap.size w w3 := by rw [hw3]; exact hb0.alloc hz2 _
 have HL3 := Lib.hid (show LeavesAt w3 _ ls g by rw [hw3]; exact HL.out.later ((Below.refl _ _).alloc (Nat.le_refl _) _))
 have hz3 : w2.heap.size < w3.heap.size := by rw [hw3]; simp
 have hin : inB 0 ((n7 : Int) - 1) i = true := by simp [inB]; omega
 rw [hw3] at hc3 hb3 HL3 hz3
 clear hw3 w3
 go_wp2_with fail
 refine (within_one 0 ((n7 : Int) - 1) i _ _ (by simp [World.cell?_alloc_at])).mono ?_
 rintro e w4 ⟨rfl, rfl⟩
 rw [hin]
 have hb4 : Below w.heap.size w ((w2.alloc (.cells (wayC m f'.folds co ro q p.trim (.slice (some ⟨g, 0, none⟩) n7 (n7 + k7))) 83)).alloc (.cells #[.int .i64 i] 3)) := hb3.alloc hb3.size _
 have hc4 : ((w2.alloc (.cells (wayC m f'.folds co ro q p.trim (.slice (some ⟨g, 0, none⟩) n7 (n7 + k7))) 83)).alloc (.cells #[.int .i64 i] 3)).heap[w2.heap.size]? = some (.cells (wayC m f'.folds co ro q p.trim (.slice (some ⟨g, 0, none⟩) n7 (n7 + k7))) 83 (0, 0)) := by exact (by repeat (first | exact heap_alloc_at _ _ _ (by (first | omega | (simp; done) | (simp; omega) | (simp at *; omega) | fail)) | assumption | rw [heap_alloc_past _ _ _ (by (first | omega | (simp; done) | (simp; omega) | (simp at *; omega) | fail))] | rw [heap_setCell_past _ _ _ _ (by (first | omega | (simp; done) | (simp; omega) | (simp at *; omega) | fail))] | fail))
 have HL4 := Lib.hid (HL3.out.later ((Below.refl _ _).alloc (Nat.le_refl _) (.cells #[.int .i64 i] 3)))
 have hz4 : w2.heap.size < ((w2.alloc (.cells (wayC m f'.folds co ro q p.trim (.slice (some ⟨g, 0, none⟩) n7 (n7 + k7))) 83)).alloc (.cells #[.int .i64 i] 3)).heap.size := by simp; omega
 clear hc3 hb3 HL3 hz3
 have HB4 := Lib.hid hb4
 have HC4 := Lib.hid hc4
 have HZ4 := Lib.hid hz4
 clear hb4 hc4 hz4
 go_wp2_with fail
 revert HB4 HC4 HL4 HZ4
 dsimp only [wayC]
 generalize ((w2.alloc (.cells #[.int .i64 m.fmt, .int .i64 m.ppr, .int .i64 m.sheets, .bool m.half, S f'.folds, .int .i64 co, .int .i64 ro, S q.name, .int .i64 q.wlo, .int .i64 q.whi, .int .i64 q.hlo, .int .i64 q.hhi, .int .i64 p.trim, (.slice (some ⟨g, 0, none⟩) n7 (n7 + k7))] 83)).alloc (.cells #[.int .i64 i] 3)) = w4
 intro HL4 HB4 HC4 HZ4
 have d0 : w4.drew.cell? ⟨w2.heap.size, 0, none⟩ = some (.int .i64 m.fmt) := blk_cell HC4.out 0
 have d1 : w4.drew.cell? ⟨w2.heap.size, 1, none⟩ = some (.int .i64 m.ppr) := blk_cell HC4.out 1
 have d2 : w4.drew.cell? ⟨w2.heap.size, 2, none⟩ = some (.int .i64 m.sheets) := blk_cell HC4.out 2
 have d3 : w4.drew.cell? ⟨w2.heap.size, 3, none⟩ = some (.bool m.half) := blk_cell HC4.out 3
 have d4 : w4.drew.cell? ⟨w2.heap.size, 4, none⟩ = some (S f'.folds) := blk_cell HC4.out 4
 have d5 : w4.drew.cell? ⟨w2.heap.size, 5, none⟩ = some (.int .i64 co) := blk_cell HC4.out 5
 have d6 : w4.drew.cell? ⟨w2.heap.size, 6, none⟩ = some (.int .i64 ro) := blk_cell HC4.out 6
 have d7 : w4.drew.cell? ⟨w2.heap.size, 7, none⟩ = some (S q.name) := blk_cell HC4.out 7
 have d8 : w4.drew.cell? ⟨w2.heap.size, 8, none⟩ = some (.int .i64 q.wlo) := blk_cell HC4.out 8
 have d9 : w4.drew.cell? ⟨w2.heap.size, 9, none⟩ = some (.int .i64 q.whi) := blk_cell HC4.out 9
 have d10 : w4.drew.cell? ⟨w2.heap.size, 10, none⟩ = some (.int .i64 q.hlo) := blk_cell HC4.out 10
 have d11 : w4.drew.cell? ⟨w2.heap.size, 11, none⟩ = some (.int .i64 q.hhi) := blk_cell HC4.out 11
 have d12 : w4.drew.cell? ⟨w2.heap.size, 12, none⟩ = some (.int .i64 p.trim) := blk_cell HC4.out 12
 have d13 : w4.drew.cell? ⟨w2.heap.size, 13, none⟩ = some (.slice (some ⟨g, 0, none⟩) n7 (n7 + k7)) := blk_cell HC4.out 13
 have HB4' : Hid (Below w.heap.size w w4.drew) := Lib.hid HB4.out.drew
 have HL4' : Hid (LeavesAt w4.drew (.slice (some ⟨g, 0, none⟩) n7 (n7 + k7)) ls g) := Lib.hid (HL4.out.later (Below.refl _ _).drew)
 have hz4 : w2.heap.size < w4.drew.heap.size := HZ4.out
 clear HB4 HC4 HL4 HZ4
 refine wp_region_held_drew (S := fun u => u.cell? ⟨w2.heap.size, 0, none⟩ = some (.int .i64 m.fmt) /\ u.cell? ⟨w2.heap.size, 1, none⟩ = some (.int .i64 m.ppr) /\ u.cell? ⟨w2.heap.size, 2, none⟩ = some (.int .i64 m.sheets) /\ u.cell? ⟨w2.heap.size, 3, none⟩ = some (.bool m.half) /\ u.cell? ⟨w2.heap.size, 4, none⟩ = some (S f'.folds) /\ u.cell? ⟨w2.heap.size, 5, none⟩ = some (.int .i64 co) /\ u.cell? ⟨w2.heap.size, 6, none⟩ = some (.int .i64 ro) /\ u.cell? ⟨w2.heap.size, 7, none⟩ = some (S q.name) /\ u.cell? ⟨w2.heap.size, 8, none⟩ = some (.int .i64 q.wlo) /\ u.cell? ⟨w2.heap.size, 9, none⟩ = some (.int .i64 q.whi) /\ u.cell? ⟨w2.heap.size, 10, none⟩ = some (.int .i64 q.hlo) /\ u.cell? ⟨w2.heap.size, 11, none⟩ = some (.int .i64 q.hhi) /\ u.cell? ⟨w2.heap.size, 12, none⟩ = some (.int .i64 p.trim) /\ u.cell? ⟨w2.heap.size, 13, none⟩ = some (.slice (some ⟨g, 0, none⟩) n7 (n7 + k7))) (by kernel_rfl) ?_ (fun hHeld => ?_)
 · exact ⟨d0, d1, d2, d3, d4, d5, d6, d7, d8, d9, d10, d11, d12, d13⟩
 refine wpAnyH_take (i := 0) (v := ?_) rfl (by kernel_rfl) (by kernel_rfl) (by kernel_rfl) (fun _ _ _ h => h) (Or.inl ⟨by rfl, ?_⟩) (by assumption) ?_
 rotate_left
 · (intro w hSw; (try dsimp only at hSw); go_simp; (try with_reducible rfl))
 (try simp only [Act.put, List.setIfInBounds_toArray, List.set_cons_zero, List.set_cons_succ])
 refine wpAnyH_take (i := 1) (v := ?_) rfl (by kernel_rfl) (by kernel_rfl) (by kernel_rfl) (fun _ _ _ h => h) (Or.inl ⟨by rfl, ?_⟩) (by assumption) ?_
 rotate_left
 · (intro w hSw; (try dsimp only at hSw); go_simp; (try with_reducible rfl))
 (try simp only [Act.put, List.setIfInBounds_toArray, List.set_cons_zero, List.set_cons_succ])
 refine wpAnyH_take (i := 3) (v := ?_) rfl (by kernel_rfl) (by kernel_rfl) (by kernel_rfl) (fun _ _ _ h => h) (Or.inl ⟨by rfl, ?_⟩) (by assumption) ?_
 rotate_left
 · (intro w hSw; (try dsimp only at hSw); go_simp; (try with_reducible rfl))
 (try simp only [Act.put, List.setIfInBounds_toArray, List.set_cons_zero, List.set_cons_succ])
 refine wpAnyH_take (i := 4) (v := ?_) rfl (by kernel_rfl) (by kernel_rfl) (by kernel_rfl) (fun _ _ _ h => h) (Or.inl ⟨by rfl, ?_⟩) (by assumption) ?_
 rotate_left
 · (intro w hSw; (try dsimp only at hSw); go_simp; (try with_reducible rfl))
 (try simp only [Act.put, List.setIfInBounds_toArray, List.set_cons_zero, List.set_cons_succ])
 revert HB4' HL4' hz4 d0 d1 d2 d3 d4 d5 d6 d7 d8 d9 d10 d11 d12 d13 hHeld
 generalize w4.drew = w5
 intro d0 d1 d2 d3 d4 d5 d6 d7 d8 d9 d10 d11 d12 d13 HB5 HL5 hz5 hHeld
 refine wpAnyH_ready (rs := [2]) (by kernel_rfl) (by simp) ?_
 refine AllReadyH.cons rfl (fun K hK => ?_) AllReadyH.nil
 go_simp
 refine (mates_any m f'.folds co ro q p.trim (.slice (some ⟨g, 0, none⟩) n7 (n7 + k7)) ls g i y _ HL5.out (by rw [<- HN7.out]; exact hn) HY.out).mono ?_
 rintro e w6 ⟨⟨v6, rfl, hr6⟩, hb⟩
 have HR6 := Lib.hid (ints_of_row hr6)
 have HB6 := Lib.hid (HB5.out.trans (hb.mono HB5.out.size))
 have HL6 := Lib.hid (HL5.out.later hb)
 have d0 := cell_later' hb d0
 have d1 := cell_later' hb d1
 have d2 := cell_later' hb d2
 have d3 := cell_later' hb d3
 have d4 := cell_later' hb d4
 have d5 := cell_later' hb d5
 have d6 := cell_later' hb d6
 have d7 := cell_later' hb d7
 have d8 := cell_later' hb d8
 have d9 := cell_later' hb d9
 have d10 := cell_later' hb d10
 have d11 := cell_later' hb d11
 have d12 := cell_later' hb d12
 have d13 := cell_later' hb d13
 have hz6 : w2.heap.size < w6.heap.size := Nat.lt_of_lt_of_le hz5 hb.size
 clear HB5 HL5 hz5 hb hr6
 go_simp
 refine hK.out _ _ ?_ (fun hNew => ?_)
 · (try dsimp only); go_keep
 clear hK K hHeld
 have hHeld := hNew
 clear hNew
 (try simp only [Act.put, List.setIfInBounds_toArray, List.set_cons_zero, List.set_cons_succ])
 refine wpAnyH_ready (rs := [5]) (by kernel_rfl) (by simp) ?_
 refine AllReadyH.cons rfl (fun K hK => ?_) AllReadyH.nil
 go_simp
 refine (conjugate_any m f'.folds co ro q p.trim (.slice (some ⟨g, 0, none⟩) n7 (n7 + k7)) ls g i _ HL6.out (by rw [<- HN7.out]; exact hn) (by rw [<- HN7.out]; exact hi)).mono ?_
 rintro e w7 ⟨rfl, hb⟩
 rw [<- HCJ.out]
 have HR7 := Lib.hid (show IntsAt w7 v6 _ from HR6.out.later hb)
 have HB7 := Lib.hid (HB6.out.trans (hb.mono HB6.out.size))
 have d0 := cell_later' hb d0
 have d1 := cell_later' hb d1
 have d2 := cell_later' hb d2
 have d3 := cell_later' hb d3
 have d4 := cell_later' hb d4
 have d5 := cell_later' hb d5
 have d6 := cell_later' hb d6
 have d7 := cell_later' hb d7
 have d8 := cell_later' hb d8
 have d9 := cell_later' hb d9
 have d10 := cell_later' hb d10
 have d11 := cell_later' hb d11
 have d12 := cell_later' hb d12
 have d13 := cell_later' hb d13
 clear HB6 HR6 HL6 hb
 go_simp
 refine hK.out _ _ ?_ (fun hNew => ?_)
 · (try dsimp only); go_keep
 clear hK K hHeld
 have hHeld := hNew
 clear hNew
 (try simp only [Act.put, List.setIfInBounds_toArray, List.set_cons_zero, List.set_cons_succ])
 refine wpAnyH_ready (rs := [6]) (by kernel_rfl) (by simp) ?_
 refine AllReadyH.cons rfl (fun K hK => ?_) AllReadyH.nil
 go_simp
 refine hK.out _ _ ?_ (fun hNew => ?_)
 · (try dsimp only); go_keep
 clear hK K hHeld
 have hHeld := hNew
 clear hNew
 (try simp only [Act.put, List.setIfInBounds_toArray, List.set_cons_zero, List.set_cons_succ])
 refine wpAnyH_ready (rs := [7]) (by kernel_rfl) (by simp) ?_
 refine AllReadyH.cons rfl (fun K hK => ?_) AllReadyH.nil
 go_simp
 refine hK.out _ _ ?_ (fun hNew => ?_)
 · (try dsimp only); go_keep
 clear hK K hHeld
 have hHeld := hNew
 clear hNew
 (try simp only [Act.put, List.setIfInBounds_toArray, List.set_cons_zero, List.set_cons_succ])
 refine wpAnyH_ready (rs := [8]) (by kernel_rfl) (by simp) ?_
 refine AllReadyH.cons rfl (fun K hK => ?_) AllReadyH.nil
 go_simp
 refine hK.out _ _ ?_ (fun hNew => ?_)
 · (try dsimp only); go_keep
 clear hK K hHeld
 have hHeld := hNew
 clear hNew
 (try simp only [Act.put, List.setIfInBounds_toArray, List.set_cons_zero, List.set_cons_succ])
 refine wpAnyH_done (by kernel_rfl) ?_ _
 clear hHeld d0 d1 d2 d3 d4 d5 d6 d7 d8 d9 d10 d11 d12 d13
 go_wp2_with fail
 go_ret3
 exact ⟨⟨v6, rfl, HR7.out⟩, HB7.out⟩
end
section
set_option linter.unusedSimpArgs false
set_option linter.unusedVariables false
open Go Go.RowKit Go.Sort Go.BigFrame
def U16sAt (W : World) (v : Value) (xs : List Nat) : Prop :=
 ∃ (a : Option Addr) (cap : Nat), v = .slice a xs.length cap /\ (∀ x ∈ xs, x < 65536) /\ (xs ≠ [] -> ∃ b off, a = some ⟨b, off, none⟩ /\ b < W.heap.size /\ ∀ (i x : Nat), xs[i]? = some x -> W.cell? ⟨b, off + i, none⟩ = some (.int .u16 (x : Int)))
theorem U16sAt.later {W W' : World} {v : Value} {xs : List Nat} (h : U16sAt W v xs) (hb : Below W.heap.size W W') : U16sAt W' v xs := by
 obtain ⟨a, cap, e, h0, hc⟩ := h
 refine ⟨a, cap, e, h0, fun hne => ?_⟩
 obtain ⟨b, off, h1, h2, h3⟩ := hc hne
 exact ⟨b, off, h1, Nat.lt_of_lt_of_le h2 hb.size, fun i x hx => cell_later' hb (h3 i x hx)⟩
def turnN (xs : List Nat) (n : Nat) : Nat := if xs.length = 0 then 0 else xs.getD (n % xs.length) 0
theorem turnN_lt {W : World} {v : Value} {xs : List Nat} (h : U16sAt W v xs) (n : Nat) : turnN xs n < 65536 := by
 obtain ⟨a, cap, -, h0, -⟩ := h
 unfold turnN
 split
 · omega
 · rename_i hne
   have hlt : n % xs.length < xs.length := Nat.mod_lt _ (by omega)
   rw [List.getD_eq_getElem?_getD, List.getElem?_eq_getElem hlt]
   exact h0 _ (List.getElem_mem hlt)
theorem turn_any (xs : List Nat) (v : Value) (n : Nat) (w : World) (hv : U16sAt w v xs) :
  Calls Tryz.prog 49 #[v, .int .i64 n] w fun e w' => e = .returned (.int .i64 (turnN xs n)) /\ w' = w := by
 have HV := Lib.hid hv
 obtain ⟨a, cap, rfl, hx16, hc⟩ := hv
 have HX16 := Lib.hid hx16
 have HC := Lib.hid hc
 obtain ⟨N, hN⟩ : ∃ N, N = xs.length := ⟨_, rfl⟩
 rw [<- hN]
 have HN := Lib.hid hN
 clear hc hN hx16
 by_cases h0 : N = 0
 · have HT : Hid (turnN xs n = 0) := Lib.hid (by unfold turnN; rw [if_pos (by rw [<- HN.out]; exact h0)])
   subst h0
   go_enter Tryz.func49, Tryz.ntmps49
   go_wp2_with fail
   go_ret
   exact ⟨by rw [HT.out]; rfl, rfl⟩
 · have hlt : n % N < N := Nat.mod_lt _ (by omega)
   obtain ⟨x, hx⟩ : ∃ x, xs[n % N]? = some x := ⟨_, List.getElem?_eq_getElem (by rw [<- HN.out]; exact hlt)⟩
   have HT : Hid (turnN xs n = x) := Lib.hid (by unfold turnN; rw [if_neg (by rw [<- HN.out]; exact h0), <- HN.out, List.getD_eq_getElem?_getD, hx]; rfl)
   obtain ⟨b, off, rfl, hb, hcc⟩ := HC.out (fun e => by rw [e] at hx; cases hx)
   have q0 := hcc _ _ hx
   have e0 : ((N : Int) == 0) = false := by simp; omega
   have e1 : (n : Int) % (N : Int) = ((n % N : Nat) : Int) := (Int.natCast_emod _ _).symm
   obtain ⟨j, hj⟩ : ∃ j, j = n % N := ⟨_, rfl⟩
   rw [<- hj] at hlt q0 e1
   have h16 : x < 65536 := HX16.out x (List.mem_of_getElem? hx)
   clear hx hcc hj
   go_enter Tryz.func49, Tryz.ntmps49
   go_wp2_with fail
   go_ret
   exact ⟨by rw [HT.out]; rfl, rfl⟩
def halvesN (xs : List Nat) (n : Nat) : List Nat := (List.range n).map fun i => turnN xs i % 2
theorem halvesN_succ (xs : List Nat) (n : Nat) : halvesN xs (n + 1) = halvesN xs n ++ [turnN xs n % 2] := by simp [halvesN, List.range_succ]
theorem halvesN_len (xs : List Nat) (n : Nat) : (halvesN xs n).length = n := by simp [halvesN]
theorem halves_any (m : Mkw) (xs : List Nat) (v : Value) (w : World) (hv : U16sAt w v xs) (h0 : 1 <= m.sheets) (h4 : m.sheets <= 4) :
  Calls Tryz.prog 83 #[mkwV m, v] w fun e w' => (∃ v', e = .returned v' /\ w'.ownsRow w.heap.size 3 1 v' (halvesN xs m.sheets.toNat).length (intVs (halvesN xs m.sheets.toNat))) /\ Below w.heap.size w w' := by
 have HV := Lib.hid hv
 obtain ⟨S', hS⟩ : ∃ s, s = m.sheets.toNat := ⟨_, rfl⟩
 have hms : m.sheets = (S' : Int) := by omega
 have HMS := Lib.hid hms
 rw [<- hS]
 have hS4 : S' <= 4 := by omega
 obtain ⟨ei, hi1, hi2, hi3, hi4⟩ := elemInt
 have HI := Lib.hid (And.intro hi1 (And.intro hi2 (And.intro hi3 hi4)))
 clear hi1 hi2 hi3 hi4 hms hS h0 h4
 obtain ⟨a, cap, rfl, -, -⟩ := hv
 obtain ⟨N, hN⟩ : ∃ N, N = xs.length := ⟨_, rfl⟩
 rw [<- hN] at HV ⊢
 have HN := Lib.hid hN
 clear hN
 have hb0 : Below w.heap.size w (w.alloc (.cells #[.int .i64 m.fmt, .int .i64 m.ppr, .int .i64 m.sheets, .bool m.half] 50)) := (Below.refl _ _).alloc (Nat.le_refl _) _
 have hc1 : (w.alloc (.cells #[.int .i64 m.fmt, .int .i64 m.ppr, .int .i64 m.sheets, .bool m.half] 50)).heap[w.heap.size]? = some (.cells #[.int .i64 m.fmt, .int .i64 m.ppr, .int .i64 m.sheets, .bool m.half] 50 (0, 0)) := World.alloc_heap_new _ _
 go_enter Tryz.func83, Tryz.ntmps83
 go_wp2_with fail
 revert hb0 hc1
 generalize (w.alloc (.cells #[.int .i64 m.fmt, .int .i64 m.ppr, .int .i64 m.sheets, .bool m.half] 50)) = w1
 intro hb0 hc1
 have HV1 := Lib.hid (HV.out.later hb0)
 have hs9 : w.heap.size <= w1.heap.size := hb0.size
 go_loopw [5, 6] (fun v j wr => ∃ (k : Nat), k <= S' /\ j = .int .i64 k /\ Hid (wr.ownsRow w1.heap.size 3 1 v (halvesN xs k).length (intVs (halvesN xs k))) /\ Hid (Below w1.heap.size w1 wr)) (fun _ j _ => S' - (intOf j).toNat)
 case atStart => exact ⟨0, by omega, rfl, World.ownsRow_nil _ _ _ _, Below.refl _ _⟩
 case round =>
  obtain ⟨k, hk, rfl, HR, HB⟩ := hrel
  have hz := HB.out.size
  have bw := blk_later HB.out hc1
  have t2 := blk_cell bw 2
  rw [HMS.out] at t2
  by_cases hlt : k < S'
  · go_wp2_with fail
    refine (turn_any xs _ k _ (HV1.out.later HB.out)).mono ?_
    rintro e w9 ⟨rfl, h9⟩
    obtain rfl := h9.symm
    clear h9
    have hlen := halvesN_len xs k
    obtain ⟨T, hT⟩ : ∃ T, T = turnN xs k := ⟨_, rfl⟩
    have hTl : T < 65536 := by rw [hT]; exact turnN_lt HV.out k
    rw [<- hT]
    have HT := Lib.hid hT
    have em : (T : Int) % 2 = ((T % 2 : Nat) : Int) := (Int.natCast_emod _ _).symm
    obtain ⟨h, hh⟩ : ∃ h, h = T % 2 := ⟨_, rfl⟩
    rw [<- hh] at em
    have HH := Lib.hid hh
    clear hT hh
    obtain ⟨hi1, hi2, hi3, hi4⟩ := HI.out
    go_wp2_with (at_builtin; (refine wpList_append_own _ rfl _ _ 36 rfl w1.heap.size 3 ei _ 1 8 undInts hi1 hi2 hi3 hi4 rfl (by decide) u5 (halvesN xs k).length (intVs (halvesN xs k)) rfl (HR.out.alloc _) ⟨wr.heap.size, 0, none⟩ 1 1 [.int .i64 h] rfl rfl ?a1 ?b1 ?c1 ?d1 ?e1 ?f1))
    case a1 =>
     intro j u hju
     rw [add_offi]
     unfold World.cell?
     rw [World.alloc_heap_new]
     simpa using hju
    case b1 => simp [Value.oneCell']
    case c1 => simp only [maxLen]; omega
    case d1 => omega
    case e1 => (first | omega | (simp; omega))
    case f1 =>
     rintro v' w7 hown hgrow -
     have HB7 := Lib.hid (HB.out.trans ((((Below.refl _ wr).alloc (Nat.le_refl _) (.cells #[.int .i64 h] 3)).mono hz).trans (below_row (HR.out.alloc _) (by simp; omega) hgrow)))
     have HO := Lib.hid hown
     clear hgrow hown hi1 hi2 hi3 hi4 t2
     go_wp2_with fail
     go_roundw
     case rel => exact ⟨k + 1, by omega, by go_num, (by
      show World.ownsRow _ _ _ _ _ _ _
      rw [halvesN_succ]
      have h := HO.out
      rw [<- HT.out, <- HH.out]
      simpa [intVs, halvesN_len] using h), HB7.out⟩
     case measure => simp [intOf]; omega
  · obtain rfl : k = S' := by omega
    go_wp2_with fail
    go_ret
    exact ⟨⟨_, rfl, row_mono HR.out (by omega)⟩, (by exact Below.trans hb0 (HB.out.mono (by omega)))⟩
end
section
set_option linter.unusedSimpArgs false
set_option linter.unusedVariables false
open Go Go.ChangeShapes Go.WideShapes Go.ChangeAt Go.RowKit
section
variable {H : Type} {enc : TypeId × Value -> H} {w : World} {base : Nat} {spare : Nat -> Bool} {held : Bool} {fuel : Nat} {x : DataW H × List MemPlace}
theorem kfu_u16 {cs : List Value} (h : DataW.trod enc Tryz.prog w base spare held fuel 47 cs = some x) : ∃ n : Nat, n < 65536 /\ cs = [.int .u16 n] := by
 obtain ⟨n, e, _, hw⟩ := DataW.trod_int Tryz.underlying47 h
 subst e
 simp only [Lit.wf, Bool.and_eq_true, decide_eq_true_eq] at hw
 have h1 : IntKind.u16.min = 0 := by decide
 have h2 : IntKind.u16.max = 65535 := by decide
 rw [h1, h2] at hw
 exact ⟨n.toNat, by omega, by rw [show ((n.toNat : Nat) : Int) = n by omega]⟩
end
end
section
set_option linter.unusedSimpArgs false
set_option linter.unusedVariables false
open Go Go.ChangeShapes Go.WideShapes Go.ChangeAt Go.RowKit
theorem kfz_cellsPast : Tryz.prog.cellsOf 46 = 4 := by kernel_rfl
theorem kfz_cellsU16s : Tryz.prog.cellsOf 44 = 1 := by kernel_rfl
theorem kfz_cellsU16 : Tryz.prog.cellsOf 47 = 1 := by kernel_rfl
section
variable {H : Type} {enc : TypeId × Value -> H} {w : World} {base : Nat} {spare : Nat -> Bool} {held : Bool} {fuel : Nat} {x : DataW H × List MemPlace}
theorem kfz_u16s {cs : List Value} (h : DataW.trod enc Tryz.prog w base spare held fuel 44 cs = some x) : ∃ (v : Value) (xs : List Nat), cs = [v] /\ U16sAt w v xs := by
 obtain ⟨v, zs, e, ⟨a, cap, e2, hc⟩, hz⟩ := kf_rows (α := Nat) (n := 1) (en := fun n => [.int .u16 (n : Int)]) Tryz.underlying44 kfz_cellsU16 (by decide) (fun n => n < 65536) (fun n l y hy => by
  obtain ⟨m, h1, h2⟩ := kfu_u16 hy
  exact ⟨m, h2, h1⟩) h
 refine ⟨v, zs, e, a, cap, e2, hz, fun hne => ?_⟩
 obtain ⟨b, off, ha, hb, hc⟩ := hc hne
 refine ⟨b, off, ha, hb, fun i y hi => ?_⟩
 have := hc i y hi 0 _ rfl
 simpa using this
theorem u16g_in {v : Value} {b0 : Nat} (hv : Value.okWide Tryz.prog w .any b0 47 v) (h : DataW.trod enc Tryz.prog w base spare held fuel 47 v.cells.toList = some x) : ∃ n : Nat, v = .int .u16 n /\ n < 65536 := by
 obtain ⟨n, rfl⟩ := okWide_int Tryz.underlying47 hv
 obtain ⟨n', e, _, hw⟩ := DataW.trod_int Tryz.underlying47 h
 simp [Value.cells] at e
 subst e
 simp only [Lit.wf, Bool.and_eq_true, decide_eq_true_eq] at hw
 have h1 : IntKind.u16.min = 0 := by decide
 have h2 : IntKind.u16.max = 65535 := by decide
 rw [h1, h2] at hw
 exact ⟨n.toNat, by rw [show ((n.toNat : Nat) : Int) = n by omega], by omega⟩
theorem past_in {v : Value} {b0 : Nat} (hv : Value.okWide Tryz.prog w .any b0 46 v) (h : DataW.trod enc Tryz.prog w base spare held fuel 46 v.cells.toList = some x) :
  ∃ (v0 v1 v2 v3 : Value) (x0 x1 x2 x3 : List Nat), v = .agg #[v0, v1, v2, v3] /\ U16sAt w v0 x0 /\ U16sAt w v1 x1 /\ U16sAt w v2 x2 /\ U16sAt w v3 x3 := by
 simp only [Value.okWide, Tryz.underlying46] at hv
 obtain ⟨cs, rfl, -, -⟩ := hv
 obtain ⟨xs, n, _, _, hl, hlen, hf⟩ := DataW.trod_struct Tryz.underlying46 h
 rw [kfz_cellsPast] at hl
 obtain ⟨a, b, c, d, hcs⟩ := len4 hl
 have hcs' : cs = #[a, b, c, d] := by
  have e' : cs.toList = [a, b, c, d] := hcs
  rw [<- Array.toArray_toList (xs := cs), e']
 subst hcs'
 match xs, hlen with
 | [y0, y1, y2, y3], _ =>
   obtain ⟨w0, x0, e0, h0⟩ := kfz_u16s (by simpa using hf 0 _ rfl)
   obtain ⟨w1, x1, e1, h1⟩ := kfz_u16s (by simpa using hf 1 _ rfl)
   obtain ⟨w2, x2, e2, h2⟩ := kfz_u16s (by simpa using hf 2 _ rfl)
   obtain ⟨w3, x3, e3, h3⟩ := kfz_u16s (by simpa using hf 3 _ rfl)
   simp [kfz_cellsU16s, Value.cells] at e0 e1 e2 e3
   subst e0 e1 e2 e3
   exact ⟨_, _, _, _, _, _, _, _, rfl, h0, h1, h2, h3⟩
end
end
section
set_option linter.unusedSimpArgs false
set_option linter.unusedVariables false
open Go Go.RowKit
noncomputable def timesOk (ch : Nat) (x : Fds -> Nat) (f : Fds) : Bool := match evCall Tryz.prog 100000 0 80 [.lit (S (bytesF f)), .lit (.int .u8 ch)] h01 with
 | .ok (.lit (.int .i64 n), _) => decide (n = x f)
 | _ => false
theorem timesX_all : allFolds.all (timesOk 120 colsF) = true := by kernel_rfl
theorem timesY_all : allFolds.all (timesOk 121 rowsF) = true := by kernel_rfl
theorem times_of {ch : Nat} {x : Fds -> Nat} (ha : allFolds.all (timesOk ch x) = true) {f : Fds} (h1 : 1 <= f.length) (h2 : f.length <= 4) (W : World) :
  Calls Tryz.prog 80 #[S (bytesF f), .int .u8 ch] W fun en W' => en = .returned (.int .i64 (x f)) /\ Below W.heap.size W W' := by
 have hk := List.all_eq_true.1 ha f (allFolds_mem h1 h2)
 unfold timesOk at hk
 split at hk
 · rename_i n h' he
   have hn : n = x f := by simpa using hk
   subst hn
   refine (eval_lits followsT (ys := [S (bytesF f), .int .u8 ch]) (W := W) he).mono ?_
   rintro en W' ⟨v, e', rfl, hx, -, hb, -⟩
   rw [VR_lit.1 hx]
   exact ⟨rfl, hb⟩
 · cases hk
theorem refTimesX {f : Fds} (h1 : 1 <= f.length) (h2 : f.length <= 4) (W : World) :
 Calls Tryz.prog 80 #[S (bytesF f), .int .u8 120] W fun en W' => en = .returned (.int .i64 (colsF f)) /\ Below W.heap.size W W' := times_of timesX_all h1 h2 W
theorem refTimesY {f : Fds} (h1 : 1 <= f.length) (h2 : f.length <= 4) (W : World) :
 Calls Tryz.prog 80 #[S (bytesF f), .int .u8 121] W fun en W' => en = .returned (.int .i64 (rowsF f)) /\ Below W.heap.size W W' := times_of timesY_all h1 h2 W
end
section
set_option linter.unusedSimpArgs false
set_option linter.unusedVariables false
open Go Go.RowKit Go.Sort Go.BigFrame
theorem bytesF_last {D : Fds} (h : 1 <= D.length) : ∃ k, (bytesF D).length = k + 1 /\ ∃ c : UInt8, ((c.toNat : Int) == 120) = lastF D /\ ∀ h : k < (⟨(bytesF D).toArray⟩ : ByteArray).size, (⟨(bytesF D).toArray⟩ : ByteArray)[k]'h = c := by
 have hne : D ≠ [] := fun e => by rw [e] at h; simp at h
 refine ⟨D.length - 1, by unfold bytesF; simp; omega, if lastF D then 120 else 121, by cases lastF D <;> rfl, ?_⟩
 intro h'
 have h0 : D.length - 1 < (bytesF D).length := by unfold bytesF; simp; omega
 have hg : (⟨(bytesF D).toArray⟩ : ByteArray)[D.length - 1]'h' = (bytesF D)[D.length - 1]'h0 := rfl
 rw [hg]
 have hm : (bytesF D)[D.length - 1]? = some (if lastF D then 120 else 121) := by
  unfold bytesF lastF
  rw [List.getElem?_map, List.getLastD_eq_getLast?, List.getLast?_eq_getElem?]
  rw [List.getElem?_eq_getElem (by omega)]
  simp
 rw [List.getElem?_eq_getElem h0] at hm
 exact Option.some.inj hm
end
section
set_option linter.unusedSimpArgs false
set_option linter.unusedVariables false
open Go Go.RowKit Go.Sort
section
variable {P : Program} {ops : Array Oper} {md : Region.Mode} {C : World -> Prop}
def HeadQ (P : Program) (md : Region.Mode) (ops : Array Oper) (C : World -> Prop) (n : Nat) (L : Array Bool -> Act -> Prop) : Nat -> Array Bool -> Act -> Prop
 | 0, s, a => L s a
 | f + 1, s, a => (∃ i, i ∈ Region.ready md ops s) /\ ∀ i ∈ Region.ready md ops s, i < n /\ qOp P ops C i (HeadQ P md ops C n L f (s.setIfInBounds i true)) a
theorem headQ_any {n g : Nat} {L : Array Bool -> Act -> Prop} {R : Exit -> Act -> World -> Prop} (hL : ∀ s a w, C w -> L s a -> wpAny P md ops R g s a w) :
  ∀ (f : Nat) (s : Array Bool) (a : Act) (w : World), C w -> HeadQ P md ops C n L f s a -> wpAny P md ops R (f + g) s a w := by
 intro f
 induction f with
 | zero => intro s a w hw h; simpa using hL s a w hw h
 | succ f ih =>
   intro s a w hw h
   have e : f + 1 + g = (f + g) + 1 := by omega
   rw [e]
   obtain ⟨⟨i0, h0⟩, h⟩ := h
   refine ⟨fun hn => ?_, fun i hi => wpOp_of_qOp hw (fun a' w' hw' hq => ih _ a' w' hw' hq) (h i hi).2⟩
   rw [hn] at h0
   cases h0
theorem unlisted_on {s : Array Bool} {i : Nat} (h1 : s.getD i true = false) (h2 : s.getD i false = true) : False := by
 rw [getD_both h1] at h2
 cases h2
def sinkP (md : Region.Mode) (ops : Array Oper) (p n : Nat) : Bool :=
 (List.range n).all fun i => decide (i < p) || (List.range (n + 1)).any fun j => decide (i < j) && Region.waitsFor md ops j i
theorem waits_on {s : Array Bool} {i j : Nat} (h : Region.waitsFor md ops j i = true) (hj : ∀ oj, ops[j]? = some oj -> ∀ e ∈ oj.after, Region.binds md e = true -> s.getD e.on false = true) (hi : s.getD i true = false) : False := by
 obtain ⟨oj, hoj, e, he, hb, hon⟩ := Region.waitsFor_spec h
 exact unlisted_on hi (hon ▸ hj oj hoj e he hb)
theorem tail_later {p n : Nat} {s : Array Bool} (hs : sinkP md ops p n = true) (hc : Region.chainB md ops n = true) (hn : n < ops.size) (inv : HeadInv md ops n s) :
  ∀ (d i : Nat), n - i <= d -> p <= i -> i < n -> s.getD i true = false -> ∀ t, n <= t -> t ∉ Region.ready md ops s := by
 intro d
 induction d with
 | zero => intro i hd _ hi; omega
 | succ d ih =>
   intro i hd hpi hi hun t ht hr
   obtain ⟨_, ot, hot, hall⟩ := mem_ready.1 hr
   have htz : t < ops.size := (Array.getElem?_eq_some_iff.1 hot).1
   have hat : ∀ oj, ops[t]? = some oj -> ∀ e ∈ oj.after, Region.binds md e = true -> s.getD e.on false = true := fun oj hoj => by
    rw [hot] at hoj
    cases hoj
    exact hall
   rcases Nat.lt_or_ge n t with hlt | hle
   · have h1 := List.all_eq_true.1 hc t (List.mem_range.2 htz)
     simp only [Bool.or_eq_true, decide_eq_true_eq] at h1
     rcases h1 with h1 | h1
     · omega
     · exact waits_on h1 hat (inv.tail (t - 1) (by omega) (by omega))
   · have e : t = n := by omega
     subst e
     have h1 := List.all_eq_true.1 hs i (List.mem_range.2 hi)
     simp only [Bool.or_eq_true, decide_eq_true_eq, List.any_eq_true, List.mem_range, Bool.and_eq_true] at h1
     rcases h1 with h1 | ⟨j, hj, hij, hw⟩
     · omega
     · rcases Nat.lt_or_ge j t with hjt | hjt
       · cases hl : s.getD j false with
         | true => exact waits_on hw (fun oj hoj => inv.closed j oj hoj hl) hun
         | false => exact ih j (by omega) (by omega) hjt (getD_in (by rw [inv.size]; omega) hl) t (Nat.le_refl _) hr
       · have e : j = t := by omega
         subst e
         exact waits_on hw hat hun
theorem headQ_first {p n i : Nat} {o : Oper} {v : Value} {L : Array Bool -> Act -> Prop} (ho : ops[i]? = some o) (hsel : ∀ (j : Nat) (o : Oper) cs b, ops[j]? = some o -> o.op ≠ .select cs b)
  (hs : sinkP md ops p n = true) (hc : Region.chainB md ops n = true) (hn : n < ops.size) (hpi : p <= i) (hin : i < n) (hend : ∀ s a, L s a -> ∀ j ∈ Region.ready md ops s, n <= j) :
  ∀ (f : Nat) (s : Array Bool) (a : Act), HeadInv md ops n s ->
    (∀ j oj, ops[j]? = some oj -> j ≠ i -> s.getD j true = false -> (∀ e ∈ oj.after, Region.binds md e = true -> e.on ≠ i) -> o.apart ops oj = true) ->
    i ∈ Region.ready md ops s -> YieldsIn P ops C o v a -> HeadQ P md ops C n L f (s.setIfInBounds i true) (a.put o.dst v) -> HeadQ P md ops C n L (f + 1) s a := by
 intro f
 induction f with
 | zero =>
   intro s a inv _ hi hy H
   refine ⟨⟨i, hi⟩, fun j hj => ?_⟩
   have hjn : j < n := Nat.lt_of_not_le fun hle => tail_later hs hc hn inv _ i (Nat.le_refl _) hpi hin (mem_ready.1 hi).1 j hle hj
   by_cases e : j = i
   · subst e
     exact ⟨hjn, hy.qOp ho H⟩
   · have := hend _ _ H j (ready_mono hj e)
     omega
 | succ f ih =>
   intro s a inv hfree hi hy H
   refine ⟨⟨i, hi⟩, fun j hj => ?_⟩
   have hjn : j < n := Nat.lt_of_not_le fun hle => tail_later hs hc hn inv _ i (Nat.le_refl _) hpi hin (mem_ready.1 hi).1 j hle hj
   refine ⟨hjn, ?_⟩
   by_cases e : j = i
   · subst e
     exact hy.qOp ho H
   · obtain ⟨hun, oj, hoj, hafter⟩ := mem_ready.1 hj
     have hno : ∀ e ∈ oj.after, Region.binds md e = true -> e.on ≠ i := fun e he hb q => unlisted_on (mem_ready.1 hi).1 (q ▸ hafter e he hb)
     have hq := qOp_put hoj (hfree j oj hoj e hun hno) (fun cs b => hsel i o cs b ho) (fun cs b => hsel j oj cs b hoj) hy (H.2 j (ready_mono hj e)).2
     refine qOp_mono (fun a' hk => ih _ a' (inv.set hj hjn) (fun k ok hk2 hki hun2 hno2 => hfree k ok hk2 hki ?_ hno2) (ready_mono hi (Ne.symm e)) hk.1 ?_) hq
     · by_cases q : j = k
       · subst q; exact hun
       · rwa [getD_set_ne true q] at hun2
     · rw [Array.setIfInBounds_comm _ _ e]
       exact hk.2
theorem headQ_lex {p n g : Nat} {K : Act -> Prop} (hsel : Region.noSelect ops = true) (hs : sinkP md ops p n = true) (hc : Region.chainB md ops n = true) (hn : n < ops.size) :
  ∀ (l : List Oper) (k : Nat) (s : Array Bool) (a : Act), (∀ j, j < l.length -> l[j]? = ops[k + j]?) -> p <= k -> k + l.length = n -> HeadInv md ops n s ->
    Region.lexHead md ops g l.length k s = true -> wpQuiet P ops C K l a -> HeadQ P md ops C n (fun s' a' => Region.seqB md ops g n s' = true /\ K a') l.length s a := by
 intro l
 induction l with
 | nil =>
   intro k s a _ _ hk _ hB h
   have e : k = n := by simpa using hk
   subst e
   exact ⟨by simpa [Region.lexHead] using hB, h⟩
 | cons o l ih =>
   intro k s a hl hpk hk inv hB h
   have ho : ops[k]? = some o := by simpa using (hl 0 (by simp)).symm
   simp only [List.length_cons] at hk
   simp only [List.length_cons, Region.lexHead, Bool.and_eq_true] at hB
   obtain ⟨⟨hr, hf⟩, hB⟩ := hB
   have hr : k ∈ Region.ready md ops s := by simpa using hr
   have hq : qOp P ops C k (wpQuiet P ops C K l) a := by
    unfold qOp
    simp only [ho]
    exact h
   obtain ⟨v, hy, hK⟩ := yieldsIn_of_qOp ho hq
   refine headQ_first ho (Region.noSelect_spec hsel) hs hc hn hpk (by omega) (fun _ _ hL => seqB_ready hL.1) l.length s a inv (Region.free_spec ho hf) hr hy
    (ih (k + 1) _ _ (fun j hj => ?_) (by omega) (by omega) (inv.set hr (by omega)) hB hK)
   have := hl (j + 1) (by simp only [List.length_cons]; omega)
   simpa [Nat.add_assoc, Nat.add_comm 1 j] using this
def leadV (o : Oper) (a : Act) : Value := match o.op with
 | .move x => a.eval x
 | _ => undef
def leadA : List Oper -> Act -> Act
 | [], a => a
 | o :: l, a => leadA l (a.put o.dst (leadV o a))
def leadS : Nat -> List Oper -> Array Bool -> Array Bool
 | _, [], s => s
 | k, _ :: l, s => leadS (k + 1) l (s.setIfInBounds k true)
def isMove (o : Oper) : Bool := o.guard.isNone && match o.op with
 | .move _ => true
 | _ => false
def leadB (md : Region.Mode) (ops : Array Oper) : Nat -> List Oper -> Array Bool -> Bool
 | _, [], _ => true
 | k, o :: l, s => isMove o && (Region.ready md ops s).contains k && Region.free md ops s k && leadB md ops (k + 1) l (s.setIfInBounds k true)
theorem move_yields {o : Oper} {a : Act} (h : isMove o = true) : Yields P ops o (leadV o a) a := by
 unfold isMove at h
 simp only [Bool.and_eq_true, Option.isNone_iff_eq_none] at h
 obtain ⟨hg, hm⟩ := h
 cases ho : o.op <;> simp only [ho] at hm <;> try (cases hm)
 rename_i x
 refine Or.inl ⟨by unfold Region.wanted; rw [hg], fun w => ?_⟩
 unfold leadV
 rw [ho]
 simp [execOp, ho, go_sem]
theorem lead_first {R : Exit -> Act -> World -> Prop} (hsel : Region.noSelect ops = true) (hR : ∀ c a b w, R (.panic c) a w -> R (.panic c) b w) :
  ∀ (l : List Oper) (k : Nat) (s : Array Bool) (a : Act) (f : Nat) (w : World), (∀ j, j < l.length -> l[j]? = ops[k + j]?) -> leadB md ops k l s = true ->
    wpAny P md ops R f (leadS k l s) (leadA l a) w -> wpAny P md ops R (l.length + f) s a w := by
 intro l
 induction l with
 | nil => intro k s a f w _ _ h; simpa [leadS, leadA] using h
 | cons o l ih =>
   intro k s a f w hl hB h
   have ho : ops[k]? = some o := by simpa using (hl 0 (by simp)).symm
   simp only [leadB, Bool.and_eq_true] at hB
   obtain ⟨⟨⟨hm, hr⟩, hf⟩, hB⟩ := hB
   have e : (o :: l).length + f = (l.length + f) + 1 := by simp only [List.length_cons]; omega
   rw [e]
   refine wpAny_first (v := leadV o a) ho (Region.noSelect_spec hsel) (fun c a w h => hR c _ _ w h) _ s a w (Region.free_spec ho hf) (by simpa using hr) (move_yields hm) ?_
   refine ih (k + 1) _ _ f w (fun j hj => ?_) hB h
   have := hl (j + 1) (by simp only [List.length_cons]; omega)
   simpa [Nat.add_assoc, Nat.add_comm 1 j] using this
theorem lead_inv {n : Nat} : ∀ (l : List Oper) (k : Nat) (s : Array Bool), k + l.length <= n -> leadB md ops k l s = true -> HeadInv md ops n s -> HeadInv md ops n (leadS k l s) := by
 intro l
 induction l with
 | nil => intro k s _ _ h; exact h
 | cons o l ih =>
   intro k s hk hB h
   simp only [List.length_cons] at hk
   simp only [leadB, Bool.and_eq_true] at hB
   obtain ⟨⟨⟨_, hr⟩, _⟩, hB⟩ := hB
   exact ih (k + 1) _ (by omega) hB (h.set (by simpa using hr) (by omega))
def tailB (ops : List Oper) (p n : Nat) : Bool :=
 Region.noSelect ops.toArray && decide (p <= n) && decide (n < ops.length) && sinkP .any ops.toArray p n && Region.chainB .any ops.toArray n && leadB .any ops.toArray 0 (ops.take p) (Array.replicate ops.length false) &&
  Region.lexHead .any ops.toArray (ops.length - n) (n - p) p (leadS 0 (ops.take p) (Array.replicate ops.length false))
theorem wp_region_lead_tail {id : Nat} {Q : Exit -> Act -> World -> Prop} {a : Act} {w : World} {l : List Oper} (p n : Nat) (hm : P.follows .mixedOrders = true) (hB : tailB l p n = true) (hR : ∀ c a b w, Q (.panic c) a w -> Q (.panic c) b w)
  (hC : C { w with drawn := w.drawn + 1 })
  (h : wpQuiet P l.toArray C (fun a' => ∀ w', C w' -> wpList P l.toArray Q (l.drop n) a' w') ((l.take n).drop p) (leadA (l.take p) a)) : (Code.region id l.toArray true).wp P Q a w := by
 simp only [tailB, Bool.and_eq_true, decide_eq_true_eq] at hB
 obtain ⟨⟨⟨⟨⟨⟨hsel, hpn⟩, hn⟩, hs⟩, hc⟩, hld⟩, hlex⟩ := hB
 have h0 : (l.take p).length = p := by simp; omega
 have h1 : ((l.take n).drop p).length = n - p := by simp; omega
 have h2 : (l.drop n).length = l.length - n := by simp
 have inv0 : HeadInv .any l.toArray n (Array.replicate l.length false) :=
  ⟨by simp, fun j oj _ hl => (by rw [getD_replicate_false] at hl; cases hl), fun t _ ht => getD_in (by simpa using ht) (getD_replicate_false _ _)⟩
 have inv := lead_inv (l.take p) 0 _ (by rw [h0]; omega) hld inv0
 have H := headQ_lex (md := .any) (g := l.length - n) hsel hs hc (by simpa using hn) ((l.take n).drop p) p _ (leadA (l.take p) a) (fun j hj => by
  rw [h1] at hj
  simp [List.getElem?_drop, show p + j < n by omega]) (Nat.le_refl _) (by rw [h1]; omega) inv (by rw [h1]; exact hlex) h
 refine wp_region_any hm ?_
 have := headQ_any (R := Q) (g := l.length - n) (fun s a' w' hw hL => by
  have := wpAny_of_seq (md := .any) (Q' := Q) (l.drop n) n s a' w' (fun j => by simp [List.getElem?_drop]) (by rw [h2]; exact hL.1) (hL.2 w' hw)
  rwa [h2] at this) _ _ _ _ hC H
 rw [h1] at this
 have := lead_first (R := Q) hsel hR (l.take p) 0 (Array.replicate l.length false) a _ _ (fun j hj => by rw [h0] at hj; simp [hj]) hld this
 rw [h0] at this
 have e : p + (n - p + (l.length - n)) = l.toArray.size := by simp; omega
 rw [e] at this
 simpa using this
theorem wp_region_below_tail {id : Nat} {Q : Exit -> Act -> World -> Prop} {a : Act} {w : World} {l : List Oper} (p n : Nat) (hm : P.follows .mixedOrders = true) (hB : tailB l p n = true)
  (h : ∀ R : Exit -> Act -> World -> Prop, (∀ a w, Q .normal a w -> R .normal a w) ->
   wpQuiet P l.toArray (fun w' => ∃ p : Regrown, w' = grow (redrawn w p.d) p.os) (fun a' => ∀ w', (∃ p : Regrown, w' = grow (redrawn w p.d) p.os) -> wpList P l.toArray R (l.drop n) a' w') ((l.take n).drop p) (leadA (l.take p) a)) : (Code.region id l.toArray true).wp P Q a w := by
 have := wp_region_lead_tail (Q := fun e a w => e = .normal /\ Q .normal a w) (id := id) (C := fun w' => ∃ p : Regrown, w' = grow (redrawn w p.d) p.os) p n hm hB (fun c a b w h => by cases h.1) ⟨⟨w.drawn + 1, #[]⟩, by rw [grow_empty]; rfl⟩ (h _ (fun a w h => ⟨rfl, h⟩))
 exact Code.wp_mono (fun e a w ⟨he, hq⟩ => by rw [he]; exact hq) this
end
end
end Go.Proofs.YtpdhdgdbknnllaaGreatDoor
