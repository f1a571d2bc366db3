/- The parts Im, In, Tc, Td, Te of the proof, joined. It holds without conditions of its own. -/
import Derived.Test.YtpdhdgdbknnllaaGreatDoorFX7
import Derived.Deep.RegionHeld3
import Derived.Test.YtpdhdgdbknnllaaGreatDoorFX6
set_option maxRecDepth 100000
set_option maxHeartbeats 20000000
namespace Go.Proofs.YtpdhdgdbknnllaaGreatDoor
section
set_option linter.unusedSimpArgs false
set_option linter.unusedVariables false
open Go Go.RowKit Go.Sort Go.BigFrame
theorem PrsAt.cells {w : World} {v : Value} {p : Prs} (h : PrsAt w.heap.size w v p) : ∃ fv pv, v = .agg #[fv, pv, .int .i64 p.trim, .int .i64 p.sheets] := by
 obtain ⟨fv, pv, h, -⟩ := h
 exact ⟨fv, pv, h⟩
theorem foldCheck_any (p : Prs) (v : Value) (w : World) (hp : PrsAt w.heap.size w v p) :
  Calls Tryz.prog 110 #[v] w fun e w' => e = .returned (.tuple #[.int .i64 ((checkP p).1 : Nat), .int .i64 ((checkP p).2.1 : Nat), .int .i64 (checkP p).2.2]) /\ Below w.heap.size w w' := by
 obtain ⟨fv, pv, rfl, hf, hq, hs1, hs2⟩ := hp
 have HF := Lib.hid hf
 have HQ := Lib.hid hq
 have HS1 := Lib.hid hs1
 have HS2 := Lib.hid hs2
 clear hf hq hs1 hs2
 obtain ⟨⟨r1, r2, r3⟩, hr⟩ : ∃ r, r = checkP p := ⟨_, rfl⟩
 rw [<- hr]
 obtain ⟨⟨x1, x2⟩, hx⟩ : ∃ x, x = fmtsErr p.fmts := ⟨_, rfl⟩
 obtain ⟨⟨y1, y2⟩, hy⟩ : ∃ y, y = pprsErr p.pprs := ⟨_, rfl⟩
 have HR : Hid ((r1, r2, r3) = if x2 ≠ 0 then (1, x1, x2) else if y2 ≠ 0 then (2, y1, y2) else if (inI 0 60 p.trim && inI 1 4 p.sheets) = false then (3, 0, 7) else (0, 0, 0)) := Lib.hid (by
  rw [hr]; unfold checkP; rw [<- hx, <- hy])
 have HX1 : Hid ((x1, x2) = listR 1 6 Fmt.name fmtErr p.fmts) := Lib.hid hx
 have HY1 : Hid ((y1, y2) = listR 1 4 Ppr.name pprErr p.pprs) := Lib.hid hy
 clear hr hx hy
 dsimp only
 go_enter Tryz.func110, Tryz.ntmps110
 go_wp2_with fail
 have hb0 : Below w.heap.size w (w.alloc (.cells #[fv, pv, .int .i64 p.trim, .int .i64 p.sheets] 25)) := (Below.refl _ _).alloc (Nat.le_refl _) _
 have hz0 : w.heap.size + 1 <= (w.alloc (.cells #[fv, pv, .int .i64 p.trim, .int .i64 p.sheets] 25)).heap.size := by simp
 have c0 : (w.alloc (.cells #[fv, pv, .int .i64 p.trim, .int .i64 p.sheets] 25)).cell? ⟨w.heap.size, 0, none⟩ = some fv := by simp [World.cell?_alloc_at]
 have c1 : (w.alloc (.cells #[fv, pv, .int .i64 p.trim, .int .i64 p.sheets] 25)).cell? ⟨w.heap.size, 1, none⟩ = some pv := by simp [World.cell?_alloc_at]
 have c2 : (w.alloc (.cells #[fv, pv, .int .i64 p.trim, .int .i64 p.sheets] 25)).cell? ⟨w.heap.size, 2, none⟩ = some (.int .i64 p.trim) := by simp [World.cell?_alloc_at]
 have c3 : (w.alloc (.cells #[fv, pv, .int .i64 p.trim, .int .i64 p.sheets] 25)).cell? ⟨w.heap.size, 3, none⟩ = some (.int .i64 p.sheets) := by simp [World.cell?_alloc_at]
 revert hb0 hz0 c0 c1 c2 c3
 generalize (w.alloc (.cells #[fv, pv, .int .i64 p.trim, .int .i64 p.sheets] 25)) = w1
 intro hb0 hz0 c0 c1 c2 c3
 have hb0 := hb0.drew
 have d0 : w1.drew.cell? ⟨w.heap.size, 0, none⟩ = some fv := c0
 have d1 : w1.drew.cell? ⟨w.heap.size, 1, none⟩ = some pv := c1
 have d2 : w1.drew.cell? ⟨w.heap.size, 2, none⟩ = some (.int .i64 p.trim) := c2
 have d3 : w1.drew.cell? ⟨w.heap.size, 3, none⟩ = some (.int .i64 p.sheets) := c3
 have dz : w.heap.size + 1 <= w1.drew.heap.size := hz0
 refine wp_region_held_drew (S := fun u => u.cell? ⟨w.heap.size, 0, none⟩ = some fv) (by kernel_rfl) ?_ (fun hHeld => ?_)
 · (try dsimp only); go_keep
 refine wpAnyH_take (i := 0) (v := ?_) rfl (by kernel_rfl) (by kernel_rfl) (by kernel_rfl) (fun _ _ _ h => h) (Or.inl ⟨by rfl, ?_⟩) (by assumption) ?_
 rotate_left
 · (intro w hSw; (try dsimp only at hSw); go_simp; (try with_reducible rfl))
 (try simp only [Act.put, List.setIfInBounds_toArray, List.set_cons_zero, List.set_cons_succ])
 refine wpAnyH_take (i := 1) (v := ?_) rfl (by kernel_rfl) (by kernel_rfl) (by kernel_rfl) (fun _ _ _ h => h) (Or.inl ⟨by rfl, ?_⟩) (by assumption) ?_
 rotate_left
 · (intro w hSw; (try dsimp only at hSw); go_simp; (try with_reducible rfl))
 (try simp only [Act.put, List.setIfInBounds_toArray, List.set_cons_zero, List.set_cons_succ])
 refine wpAnyH_ready (rs := [2]) (by kernel_rfl) (by simp) ?_
 refine AllReadyH.cons rfl (fun K hK => ?_) AllReadyH.nil
 go_simp
 clear c0 c1 c2 c3 hz0
 revert hb0 d0 d1 d2 d3 dz hHeld
 generalize w1.drew = w2
 intro hb0 d0 d1 d2 d3 dz hHeld
 refine (formatError_any _).mono ?_
 rintro e w3 ⟨⟨n, i, g, m, b, rfl, hk, hbb⟩, hb⟩
 have hb3 := hb0.trans (hb.mono (by omega))
 have d0 := cell_later' hb d0
 have d1 := cell_later' hb d1
 have d2 := cell_later' hb d2
 have d3 := cell_later' hb d3
 have dz3 := hb.size
 have HK := Lib.hid hk
 clear hk hb
 go_simp
 refine hK.out _ _ ?_ (fun hNew => ?_)
 · (try dsimp only); go_keep
 clear hK K hHeld
 have hHeld := hNew
 clear hNew
 (try simp only [Act.put, List.setIfInBounds_toArray, List.set_cons_zero, List.set_cons_succ])
 refine wpAnyH_ready (rs := [3]) (by kernel_rfl) (by simp) ?_
 refine AllReadyH.cons rfl (fun K hK => ?_) AllReadyH.nil
 go_simp
 refine (listF_any 1 6 p.fmts fv n i g m b w.heap.size _ ((HF).out.same fun k hk => hb3.block k hk) HK.out (by omega) (by decide) (HS1).out).mono ?_
 rintro e w4 ⟨rfl, ho⟩
 rw [<- (HX1).out]
 have hb4 := ho.below hb3 (by omega) (fun k hk => by omega)
 have d0 := (only_cell ho (lt_of_cell d0) (by omega)).trans d0
 have d1 := (only_cell ho (lt_of_cell d1) (by omega)).trans d1
 have d2 := (only_cell ho (lt_of_cell d2) (by omega)).trans d2
 have d3 := (only_cell ho (lt_of_cell d3) (by omega)).trans d3
 have dz4 := ho.size
 dsimp only
 go_simp
 refine hK.out _ _ ?_ (fun hNew => ?_)
 · (try dsimp only); go_keep
 clear hK K hHeld
 have hHeld := hNew
 clear hNew
 (try simp only [Act.put, List.setIfInBounds_toArray, List.set_cons_zero, List.set_cons_succ])
 refine wpAnyH_take (i := 4) (v := ?_) rfl (by kernel_rfl) (by kernel_rfl) (by kernel_rfl) (fun _ _ _ h => h) (Or.inl ⟨by rfl, ?_⟩) (by assumption) ?_
 rotate_left
 · (intro w hSw; (try dsimp only at hSw); go_simp; (try with_reducible rfl))
 (try simp only [Act.put, List.setIfInBounds_toArray, List.set_cons_zero, List.set_cons_succ])
 refine wpAnyH_take (i := 5) (v := ?_) rfl (by kernel_rfl) (by kernel_rfl) (by kernel_rfl) (fun _ _ _ h => h) (Or.inl ⟨by rfl, ?_⟩) (by assumption) ?_
 rotate_left
 · (intro w hSw; (try dsimp only at hSw); go_simp; (try with_reducible rfl))
 (try simp only [Act.put, List.setIfInBounds_toArray, List.set_cons_zero, List.set_cons_succ])
 refine wpAnyH_take (i := 6) (v := ?_) rfl (by kernel_rfl) (by kernel_rfl) (by kernel_rfl) (fun _ _ _ h => h) (Or.inl ⟨by rfl, ?_⟩) (by assumption) ?_
 rotate_left
 · (intro w hSw; (try dsimp only at hSw); go_simp; (try with_reducible rfl))
 (try simp only [Act.put, List.setIfInBounds_toArray, List.set_cons_zero, List.set_cons_succ])
 refine wpAnyH_take (i := 7) (v := ?_) rfl (by kernel_rfl) (by kernel_rfl) (by kernel_rfl) (fun _ _ _ h => h) (Or.inl ⟨by rfl, ?_⟩) (by assumption) ?_
 rotate_left
 · (intro w hSw; (try dsimp only at hSw); go_simp; (try with_reducible rfl))
 (try simp only [Act.put, List.setIfInBounds_toArray, List.set_cons_zero, List.set_cons_succ])
 refine wpAnyH_take (i := 8) (v := ?_) rfl (by kernel_rfl) (by kernel_rfl) (by kernel_rfl) (fun _ _ _ h => h) (Or.inl ⟨by rfl, ?_⟩) (by assumption) ?_
 rotate_left
 · (intro w hSw; (try dsimp only at hSw); go_simp; (try with_reducible rfl))
 (try simp only [Act.put, List.setIfInBounds_toArray, List.set_cons_zero, List.set_cons_succ])
 refine wpAnyH_done (by kernel_rfl) ?_ _
 clear hHeld ho HK hb3 hbb
 by_cases hx : x2 = 0
 · have HR1 : Hid ((r1, r2, r3) = if y2 ≠ 0 then (2, y1, y2) else if (inI 0 60 p.trim && inI 1 4 p.sheets) = false then (3, 0, 7) else (0, 0, 0)) := Lib.hid (by rw [HR.out, if_neg (by rw [hx]; decide)])
   clear HR HX1 HF HS1
   subst hx
   go_wp2_with fail
   have hb0 := hb4
   have c0 := d0
   have c1 := d1
   have c2 := d2
   have c3 := d3
   have hz0 : w.heap.size + 1 <= w4.heap.size := by omega
   clear d0 d1 d2 d3 hb4 dz dz3 dz4
   generalize w4 = w1 at *
   have hb0 := hb0.drew
   have d0 : w1.drew.cell? ⟨w.heap.size, 0, none⟩ = some fv := c0
   have d1 : w1.drew.cell? ⟨w.heap.size, 1, none⟩ = some pv := c1
   have d2 : w1.drew.cell? ⟨w.heap.size, 2, none⟩ = some (.int .i64 p.trim) := c2
   have d3 : w1.drew.cell? ⟨w.heap.size, 3, none⟩ = some (.int .i64 p.sheets) := c3
   have dz : w.heap.size + 1 <= w1.drew.heap.size := hz0
   refine wp_region_held_drew (S := fun u => u.cell? ⟨w.heap.size, 1, none⟩ = some pv) (by kernel_rfl) ?_ (fun hHeld => ?_)
   · (try dsimp only); go_keep
   refine wpAnyH_take (i := 0) (v := ?_) rfl (by kernel_rfl) (by kernel_rfl) (by kernel_rfl) (fun _ _ _ h => h) (Or.inl ⟨by rfl, ?_⟩) (by assumption) ?_
   rotate_left
   · (intro w hSw; (try dsimp only at hSw); go_simp; (try with_reducible rfl))
   (try simp only [Act.put, List.setIfInBounds_toArray, List.set_cons_zero, List.set_cons_succ])
   refine wpAnyH_take (i := 1) (v := ?_) rfl (by kernel_rfl) (by kernel_rfl) (by kernel_rfl) (fun _ _ _ h => h) (Or.inl ⟨by rfl, ?_⟩) (by assumption) ?_
   rotate_left
   · (intro w hSw; (try dsimp only at hSw); go_simp; (try with_reducible rfl))
   (try simp only [Act.put, List.setIfInBounds_toArray, List.set_cons_zero, List.set_cons_succ])
   refine wpAnyH_ready (rs := [2]) (by kernel_rfl) (by simp) ?_
   refine AllReadyH.cons rfl (fun K hK => ?_) AllReadyH.nil
   go_simp
   clear c0 c1 c2 c3 hz0
   revert hb0 d0 d1 d2 d3 dz hHeld
   generalize w1.drew = w2
   intro hb0 d0 d1 d2 d3 dz hHeld
   refine (paperError_any _).mono ?_
   rintro e w3 ⟨⟨n, i, g, m, b, rfl, hk, hbb⟩, hb⟩
   have hb3 := hb0.trans (hb.mono (by omega))
   have d0 := cell_later' hb d0
   have d1 := cell_later' hb d1
   have d2 := cell_later' hb d2
   have d3 := cell_later' hb d3
   have dz3 := hb.size
   have HK := Lib.hid hk
   clear hk hb
   go_simp
   refine hK.out _ _ ?_ (fun hNew => ?_)
   · (try dsimp only); go_keep
   clear hK K hHeld
   have hHeld := hNew
   clear hNew
   (try simp only [Act.put, List.setIfInBounds_toArray, List.set_cons_zero, List.set_cons_succ])
   refine wpAnyH_ready (rs := [3]) (by kernel_rfl) (by simp) ?_
   refine AllReadyH.cons rfl (fun K hK => ?_) AllReadyH.nil
   go_simp
   refine (listP_any 1 4 p.pprs pv n i g m b w.heap.size _ ((HQ).out.same fun k hk => hb3.block k hk) HK.out (by omega) (by decide) (HS2).out).mono ?_
   rintro e w4 ⟨rfl, ho⟩
   rw [<- (HY1).out]
   have hb4 := ho.below hb3 (by omega) (fun k hk => by omega)
   have d0 := (only_cell ho (lt_of_cell d0) (by omega)).trans d0
   have d1 := (only_cell ho (lt_of_cell d1) (by omega)).trans d1
   have d2 := (only_cell ho (lt_of_cell d2) (by omega)).trans d2
   have d3 := (only_cell ho (lt_of_cell d3) (by omega)).trans d3
   have dz4 := ho.size
   dsimp only
   go_simp
   refine hK.out _ _ ?_ (fun hNew => ?_)
   · (try dsimp only); go_keep
   clear hK K hHeld
   have hHeld := hNew
   clear hNew
   (try simp only [Act.put, List.setIfInBounds_toArray, List.set_cons_zero, List.set_cons_succ])
   refine wpAnyH_take (i := 4) (v := ?_) rfl (by kernel_rfl) (by kernel_rfl) (by kernel_rfl) (fun _ _ _ h => h) (Or.inl ⟨by rfl, ?_⟩) (by assumption) ?_
   rotate_left
   · (intro w hSw; (try dsimp only at hSw); go_simp; (try with_reducible rfl))
   (try simp only [Act.put, List.setIfInBounds_toArray, List.set_cons_zero, List.set_cons_succ])
   refine wpAnyH_take (i := 5) (v := ?_) rfl (by kernel_rfl) (by kernel_rfl) (by kernel_rfl) (fun _ _ _ h => h) (Or.inl ⟨by rfl, ?_⟩) (by assumption) ?_
   rotate_left
   · (intro w hSw; (try dsimp only at hSw); go_simp; (try with_reducible rfl))
   (try simp only [Act.put, List.setIfInBounds_toArray, List.set_cons_zero, List.set_cons_succ])
   refine wpAnyH_take (i := 6) (v := ?_) rfl (by kernel_rfl) (by kernel_rfl) (by kernel_rfl) (fun _ _ _ h => h) (Or.inl ⟨by rfl, ?_⟩) (by assumption) ?_
   rotate_left
   · (intro w hSw; (try dsimp only at hSw); go_simp; (try with_reducible rfl))
   (try simp only [Act.put, List.setIfInBounds_toArray, List.set_cons_zero, List.set_cons_succ])
   refine wpAnyH_take (i := 7) (v := ?_) rfl (by kernel_rfl) (by kernel_rfl) (by kernel_rfl) (fun _ _ _ h => h) (Or.inl ⟨by rfl, ?_⟩) (by assumption) ?_
   rotate_left
   · (intro w hSw; (try dsimp only at hSw); go_simp; (try with_reducible rfl))
   (try simp only [Act.put, List.setIfInBounds_toArray, List.set_cons_zero, List.set_cons_succ])
   refine wpAnyH_take (i := 8) (v := ?_) rfl (by kernel_rfl) (by kernel_rfl) (by kernel_rfl) (fun _ _ _ h => h) (Or.inl ⟨by rfl, ?_⟩) (by assumption) ?_
   rotate_left
   · (intro w hSw; (try dsimp only at hSw); go_simp; (try with_reducible rfl))
   (try simp only [Act.put, List.setIfInBounds_toArray, List.set_cons_zero, List.set_cons_succ])
   refine wpAnyH_done (by kernel_rfl) ?_ _
   clear hHeld ho HK hb3 hbb
   by_cases hy : y2 = 0
   · have HR2 : Hid ((r1, r2, r3) = if (inI 0 60 p.trim && inI 1 4 p.sheets) = false then (3, 0, 7) else (0, 0, 0)) := Lib.hid (by rw [HR1.out, if_neg (by rw [hy]; decide)])
     clear HR1 HY1 HQ HS2
     subst hy
     go_wp2_with fail
     refine (within_one 0 60 p.trim _ _ (by simp [World.cell?_alloc_at])).mono ?_
     rintro e w5 ⟨rfl, hw⟩
     have hb5 : Below w4.heap.size w4 w5 := by rw [<- hw]; exact (by repeat (first | exact Below.refl _ _ | assumption | (refine Below.alloc ?_ ?_ _; rotate_left; · (first | omega | (simp; done) | (simp; omega) | fail)) | (refine Below.setCell ?_ ?_ _; rotate_left; · (first | omega | (simp; done) | (simp; omega) | fail)) | refine Below.drew ?_ | fail))
     have e3 := cell_later' hb5 d3
     have hb6 := hb4.trans (hb5.mono hb4.size)
     clear hw hb4 hb5 d0 d1 d2 d3
     cases h1 : inB 0 60 p.trim with
     | false =>
       have HR3 : Hid (r1 = 3 /\ r2 = 0 /\ r3 = 7) := Lib.hid (by have := HR2.out; rw [inI_inB, h1] at this; simpa using this)
       go_wp2_with fail
       go_ret3
       exact ⟨by rw [HR3.out.1, HR3.out.2.1, HR3.out.2.2]; rfl, hb6⟩
     | true =>
       go_wp2_with fail
       refine (within_one 1 4 p.sheets _ _ (by simp [World.cell?_alloc_at])).mono ?_
       rintro e w7 ⟨rfl, hw⟩
       have hz5 := hb6.size
       have hb7 : Below w.heap.size w w7 := by rw [<- hw]; exact (by repeat (first | (refine Below.setCell ?_ ?_ _; rotate_left; · (first | omega | (simp; done) | (simp; omega) | fail)) | (refine Below.alloc ?_ ?_ _; rotate_left; · (first | omega | (simp; done) | (simp; omega) | fail)) | refine Below.drew ?_ | exact hb6 | fail))
       clear hw
       cases h2 : inB 1 4 p.sheets with
       | false =>
         have HR3 : Hid (r1 = 3 /\ r2 = 0 /\ r3 = 7) := Lib.hid (by have := HR2.out; rw [inI_inB, inI_inB, h1, h2] at this; simpa using this)
         go_wp2_with fail
         go_ret3
         exact ⟨by rw [HR3.out.1, HR3.out.2.1, HR3.out.2.2]; rfl, hb7⟩
       | true =>
         have HR3 : Hid (r1 = 0 /\ r2 = 0 /\ r3 = 0) := Lib.hid (by have := HR2.out; rw [inI_inB, inI_inB, h1, h2] at this; simpa using this)
         go_wp2_with fail
         go_ret3
         exact ⟨by rw [HR3.out.1, HR3.out.2.1, HR3.out.2.2]; rfl, hb7⟩
   · have HR2 : Hid (r1 = 2 /\ r2 = y1 /\ r3 = y2) := Lib.hid (by have := HR1.out; rw [if_pos hy] at this; simpa using this)
     have h0b : (y2 != 0) = true := by simp [hy]
     clear hy HR1
     go_wp2_with fail
     go_ret3
     exact ⟨by rw [HR2.out.1, HR2.out.2.1, HR2.out.2.2]; rfl, hb4⟩
 · have HR1 : Hid (r1 = 1 /\ r2 = x1 /\ r3 = x2) := Lib.hid (by have := HR.out; rw [if_pos hx] at this; simpa using this)
   have h0b : (x2 != 0) = true := by simp [hx]
   clear hx HR
   go_wp2_with fail
   go_ret3
   exact ⟨by rw [HR1.out.1, HR1.out.2.1, HR1.out.2.2]; rfl, hb4⟩
end
section
set_option linter.unusedSimpArgs false
set_option linter.unusedVariables false
open Go Go.RowKit Go.Sort Go.BigFrame
theorem mrk_zero {leaves : Int} {x : Int × Bool} : mrkErr leaves x = 0 ↔ inI 0 (leaves - 1) x.1 = true := by
 unfold mrkErr
 cases inI 0 (leaves - 1) x.1 <;> simp
theorem mrk_four {leaves : Int} {x : Int × Bool} (h : mrkErr leaves x ≠ 0) : inI 0 (leaves - 1) x.1 = false /\ mrkErr leaves x = 4 := by
 unfold mrkErr at *
 cases h2 : inI 0 (leaves - 1) x.1 <;> simp_all
theorem firstM_any (leaves : Int) (xs : List (Int × Bool)) (v : Value) (n B : Nat) (w : World) (hv : RowsAt 2 mrkV B w v xs) (hB : B <= w.heap.size) (hn : w.cell? ⟨n, 0, none⟩ = some (.int .i64 leaves)) (hl : xs.length <= 100) :
  Calls Tryz.prog 111 #[v, .func (.func 112) #[] #[.pointer (some ⟨n, 0, none⟩)]] w fun e w' => e = .returned (.tuple #[.int .i64 ((marksErr leaves 0 xs).1 : Nat), .int .i64 (marksErr leaves 0 xs).2]) /\ Below w.heap.size w w' := by
 obtain ⟨a, cap, rfl, hc⟩ := hv
 by_cases hne : xs = []
 · subst hne
   have HF : Hid (marksErr leaves 0 [] = (0, 0)) := Lib.hid rfl
   clear hc
   dsimp only [List.length_nil] at hl ⊢
   go_enter Tryz.func111, Tryz.ntmps111
   go_wp2_with fail
   refine wp_loop_rounds 1 ?_
   rw [rounds_succ]
   go_wp2_with fail
   go_ret2
   exact ⟨by rw [HF.out]; rfl, Below.refl _ _⟩
 obtain ⟨b', off, rfl, hb', hcell⟩ := hc hne
 have HC := Lib.hid hcell
 obtain ⟨N, hN⟩ : ∃ N, N = xs.length := ⟨_, rfl⟩
 rw [<- hN] at hl ⊢
 have HN := Lib.hid hN
 clear hcell hN hc hne
 obtain ⟨z1, hz1⟩ : ∃ z1, z1 = marksErr leaves 0 xs := ⟨_, rfl⟩
 rw [<- hz1]
 have HZ := Lib.hid hz1
 clear hz1
 go_enter Tryz.func111, Tryz.ntmps111
 go_wp2_with fail
 go_loopw [11] (fun q wr => ∃ (k : Nat), k <= N /\ q = .int .i64 k /\ Below w.heap.size w wr /\ Hid (z1 = marksErr leaves k (xs.drop k))) (fun q _ => N - (intOf q).toNat)
 case atStart => exact ⟨0, by omega, rfl, Below.refl _ _, HZ⟩
 case round =>
  obtain ⟨k, hk, rfl, ho, hh⟩ := hrel
  have hzr := ho.size
  by_cases hlt : k < N
  · obtain ⟨x, hx⟩ : ∃ x, xs[k]? = some x := ⟨_, List.getElem?_eq_getElem (by have := HN.out; omega)⟩
    have q0 : wr.cell? ⟨b', off + k * 2, none⟩ = some (.int .i64 x.1) := cell_later' ho (by have := HC.out k x hx 0 _ rfl; simpa using this)
    have q1 : wr.cell? ⟨b', off + k * 2 + 1, none⟩ = some (.bool x.2) := cell_later' ho (by have := HC.out k x hx 1 _ rfl; simpa using this)
    have HG := Lib.hid hx
    have hba : Below wr.heap.size wr (wr.alloc (Obj.cells #[.int .i64 x.1, .bool x.2] 58)) := (Below.refl _ _).alloc (Nat.le_refl _) _
    have hC := mrk1_any k x leaves n _ (cell_later' hba (cell_later' ho hn))
    have HCc := Lib.hid hC
    have HO := Lib.hid (ho.trans (hba.mono hzr))
    clear hC hba hx
    go_wp2_with fail
    refine HCc.out.mono ?_
    rintro e w1 ⟨rfl, hb1⟩
    have ho2 := HO.out.trans (hb1.mono HO.out.size)
    obtain ⟨er, her⟩ : ∃ er, er = mrkErr leaves x := ⟨_, rfl⟩
    rw [<- her]
    have HR := Lib.hid her
    clear her q0 q1 ho HO HCc hb1
    by_cases h0 : er = 0
    · have HH : Hid (z1 = marksErr leaves (k + 1) (xs.drop (k + 1))) := Lib.hid (hh.out.trans (marksErr_step HG.out (mrk_zero.1 (HR.out.symm.trans h0))))
      clear HR hh
      subst h0
      go_wp2_with fail
      go_roundw
      case rel => exact ⟨k + 1, by omega, by go_num, ho2, HH⟩
      case measure => simp [intOf]; omega
    · have h0b : (er != 0) = true := by simp [h0]
      have h4 := mrk_four (fun h => h0 (HR.out.trans h))
      have HF : Hid (z1 = (k, er)) := Lib.hid (by rw [HR.out, h4.2]; exact hh.out.trans (marksErr_stop HG.out h4.1))
      clear h0 HR hh h4
      go_wp2_with fail
      go_ret2
      exact ⟨by rw [HF.out]; rfl, ho2⟩
  · have HF : Hid (z1 = (0, 0)) := Lib.hid (hh.out.trans (marksErr_end (by have := HN.out; omega)))
    go_wp2_with fail
    go_ret2
    exact ⟨by rw [HF.out]; rfl, ho⟩
def marksR (lo hi leaves : Int) (xs : List (Int × Bool)) : Nat × Int := if inI lo hi xs.length = false then (0, 3) else marksErr leaves 0 xs
theorem listM_any (lo hi leaves : Int) (xs : List (Int × Bool)) (v : Value) (n B : Nat) (w : World) (hv : RowsAt 2 mrkV B w v xs) (hB : B <= w.heap.size) (hn : w.cell? ⟨n, 0, none⟩ = some (.int .i64 leaves)) (hh : hi <= 100) :
  Calls Tryz.prog 87 #[.int .i64 lo, .int .i64 hi, v, .func (.func 112) #[] #[.pointer (some ⟨n, 0, none⟩)]] w fun e w' => e = .returned (.tuple #[.int .i64 ((marksR lo hi leaves xs).1 : Nat), .int .i64 (marksR lo hi leaves xs).2]) /\ Below w.heap.size w w' := by
 have HV := Lib.hid hv
 obtain ⟨a, cap, rfl, -⟩ := hv
 obtain ⟨N, hN⟩ : ∃ N, N = xs.length := ⟨_, rfl⟩
 rw [<- hN] at HV ⊢
 obtain ⟨z1, hz1⟩ : ∃ z1, z1 = marksR lo hi leaves xs := ⟨_, rfl⟩
 rw [<- hz1]
 cases hi0 : inB lo hi N with
 | false =>
   have HF : Hid (z1 = (0, 3)) := Lib.hid (by rw [hz1]; unfold marksR; rw [<- hN, if_pos (by rw [inI_inB]; exact hi0)])
   clear hz1 hN
   go_enter Tryz.func87, Tryz.ntmps87
   go_wp2_with fail
   refine (within_one lo hi N _ _ (by simp [World.cell?_alloc_at])).mono ?_
   rintro e w1 ⟨rfl, hw⟩
   have hb1 : Below w.heap.size w w1 := by rw [<- hw]; exact (by repeat (first | exact Below.refl _ _ | assumption | (refine Below.alloc ?_ ?_ _; rotate_left; · (first | omega | (simp; done) | (simp; omega) | fail)) | (refine Below.setCell ?_ ?_ _; rotate_left; · (first | omega | (simp; done) | (simp; omega) | fail)) | refine Below.drew ?_ | fail))
   clear hw
   rw [hi0]
   go_wp2_with fail
   go_ret2
   exact ⟨by rw [HF.out]; rfl, hb1⟩
 | true =>
   have hl : xs.length <= 100 := by
    simp only [inB, Bool.and_eq_true, decide_eq_true_eq] at hi0; omega
   have HF : Hid (z1 = marksErr leaves 0 xs) := Lib.hid (by rw [hz1]; unfold marksR; rw [<- hN, if_neg (by rw [inI_inB, hi0]; decide)])
   have HN := Lib.hid hN
   have HL := Lib.hid hl
   clear hz1 hN hl
   go_enter Tryz.func87, Tryz.ntmps87
   go_wp2_with fail
   refine (within_one lo hi N _ _ (by simp [World.cell?_alloc_at])).mono ?_
   rintro e w1 ⟨rfl, hw⟩
   have hb1 : Below w.heap.size w w1 := by rw [<- hw]; exact (by repeat (first | exact Below.refl _ _ | assumption | (refine Below.alloc ?_ ?_ _; rotate_left; · (first | omega | (simp; done) | (simp; omega) | fail)) | (refine Below.setCell ?_ ?_ _; rotate_left; · (first | omega | (simp; done) | (simp; omega) | fail)) | refine Below.drew ?_ | fail))
   clear hw
   rw [hi0]
   have HB := Lib.hid hb1
   have hn1 := cell_later' hb1 hn
   have hz1 := hb1.size
   clear hb1 hi0
   go_wp2_with fail
   refine (firstM_any leaves xs _ n B _ (by have h := HV.out; rw [HN.out] at h ⊢; exact h.same fun k hk => HB.out.block k (by omega)) (by omega) hn1 HL.out).mono ?_
   rintro e w2 ⟨rfl, ho⟩
   rw [<- HF.out]
   have HO : Hid (Below w.heap.size w w2) := Lib.hid (HB.out.trans (ho.mono hz1))
   clear ho HF HB HV
   obtain ⟨x, y⟩ := z1
   go_wp2_with fail
   go_ret2
   exact ⟨rfl, HO.out⟩
def openP (p : Prs) (v : Value) : Value := if errP p = 0 then v else .agg #[.slice none 0 0, .slice none 0 0, .int .i64 0, .int .i64 0]
theorem foldOpen_any (p : Prs) (v : Value) (w : World) (hp : PrsAt w.heap.size w v p) :
  Calls Tryz.prog 84 #[v] w fun e w' => e = .returned (.tuple #[openP p v, .int .i64 (errP p)]) /\ Below w.heap.size w w' := by
 have HP := Lib.hid hp
 obtain ⟨fv, pv, rfl, ⟨a, cap, rfl, -⟩, ⟨a2, cap2, rfl, -⟩, -⟩ := hp
 obtain ⟨n1, hn1⟩ : ∃ n, n = p.fmts.length := ⟨_, rfl⟩
 obtain ⟨n2, hn2⟩ : ∃ n, n = p.pprs.length := ⟨_, rfl⟩
 rw [<- hn1, <- hn2] at HP ⊢
 clear hn1 hn2
 obtain ⟨⟨r1, r2, r3⟩, hr⟩ : ∃ r, r = checkP p := ⟨_, rfl⟩
 have HR := Lib.hid hr
 have HE : Hid (errP p = r3) := Lib.hid (by unfold errP; rw [<- hr])
 clear hr
 go_enter Tryz.func84, Tryz.ntmps84
 go_wp2_with fail
 have hb0 : Below w.heap.size w ((w.alloc (.cells #[.slice a n1 cap, .slice a2 n2 cap2, .int .i64 p.trim, .int .i64 p.sheets] 25)).alloc (.cells #[.slice none 0 0, .slice none 0 0, .int .i64 0, .int .i64 0] 122)) := by exact (by repeat (first | exact Below.refl _ _ | assumption | (refine Below.alloc ?_ ?_ _; rotate_left; · (first | omega | (simp; done) | (simp; omega) | fail)) | (refine Below.setCell ?_ ?_ _; rotate_left; · (first | omega | (simp; done) | (simp; omega) | fail)) | refine Below.drew ?_ | fail))
 have b1 : ((w.alloc (.cells #[.slice a n1 cap, .slice a2 n2 cap2, .int .i64 p.trim, .int .i64 p.sheets] 25)).alloc (.cells #[.slice none 0 0, .slice none 0 0, .int .i64 0, .int .i64 0] 122)).heap[w.heap.size]? = some (.cells #[.slice a n1 cap, .slice a2 n2 cap2, .int .i64 p.trim, .int .i64 p.sheets] 25) := (by repeat (first | exact heap_alloc_at _ _ _ (by (first | omega | (simp; done) | (simp; omega) | (simp at *; omega) | fail)) | assumption | rw [heap_alloc_past _ _ _ (by (first | omega | (simp; done) | (simp; omega) | (simp at *; omega) | fail))] | rw [heap_setCell_past _ _ _ _ (by (first | omega | (simp; done) | (simp; omega) | (simp at *; omega) | fail))] | fail))
 have b2 : ((w.alloc (.cells #[.slice a n1 cap, .slice a2 n2 cap2, .int .i64 p.trim, .int .i64 p.sheets] 25)).alloc (.cells #[.slice none 0 0, .slice none 0 0, .int .i64 0, .int .i64 0] 122)).heap[w.heap.size + 1]? = some (.cells #[.slice none 0 0, .slice none 0 0, .int .i64 0, .int .i64 0] 122) := (by repeat (first | exact heap_alloc_at _ _ _ (by (first | omega | (simp; done) | (simp; omega) | (simp at *; omega) | fail)) | assumption | rw [heap_alloc_past _ _ _ (by (first | omega | (simp; done) | (simp; omega) | (simp at *; omega) | fail))] | rw [heap_setCell_past _ _ _ _ (by (first | omega | (simp; done) | (simp; omega) | (simp at *; omega) | fail))] | fail))
 revert hb0 b1 b2
 generalize ((w.alloc (.cells #[.slice a n1 cap, .slice a2 n2 cap2, .int .i64 p.trim, .int .i64 p.sheets] 25)).alloc (.cells #[.slice none 0 0, .slice none 0 0, .int .i64 0, .int .i64 0] 122)) = w1
 intro hb0 b1 b2
 refine (foldCheck_any p _ _ (HP.out.later hb0)).mono ?_
 rintro e w2 ⟨rfl, hb2⟩
 rw [<- HR.out]
 have b1 := blk_later hb2 b1
 have b2 := blk_later hb2 b2
 have hb3 := hb0.trans (hb2.mono hb0.size)
 have hz := blk_lt b2
 clear hb0 hb2
 have c0 := blk_cell b1 0; have c1 := blk_cell b1 1; have c2 := blk_cell b1 2; have c3 := blk_cell b1 3
 have d0 := blk_cell b2 0; have d1 := blk_cell b2 1; have d2 := blk_cell b2 2; have d3 := blk_cell b2 3
 have f0 := blk_free b2 0; have f1 := blk_free b2 1; have f2 := blk_free b2 2; have f3 := blk_free b2 3
 dsimp only
 by_cases h0 : r3 = 0
 · have HF : Hid (openP p (.agg #[.slice a n1 cap, .slice a2 n2 cap2, .int .i64 p.trim, .int .i64 p.sheets]) = .agg #[.slice a n1 cap, .slice a2 n2 cap2, .int .i64 p.trim, .int .i64 p.sheets]) := Lib.hid (by unfold openP; rw [if_pos (HE.out.trans h0)])
   have HE2 : Hid (errP p = 0) := Lib.hid (HE.out.trans h0)
   clear HE HR
   subst h0
   go_wp2_with fail
   have b3 : ((((w2.setCell ⟨w.heap.size + 1, 0, none⟩ (.slice a n1 cap)).setCell ⟨w.heap.size + 1, 1, none⟩ (.slice a2 n2 cap2)).setCell ⟨w.heap.size + 1, 2, none⟩ (.int .i64 p.trim)).setCell ⟨w.heap.size + 1, 3, none⟩ (.int .i64 p.sheets)).heap[w.heap.size + 1]? = some (.cells #[.slice a n1 cap, .slice a2 n2 cap2, .int .i64 p.trim, .int .i64 p.sheets] 122) := by
    simpa using blk_set (blk_set (blk_set (blk_set b2 0 (.slice a n1 cap)) 1 (.slice a2 n2 cap2)) 2 (.int .i64 p.trim)) 3 (.int .i64 p.sheets)
   have g0 := blk_cell b3 0; have g1 := blk_cell b3 1; have g2 := blk_cell b3 2; have g3 := blk_cell b3 3
   exact bodyPost_ret (v := .tuple #[.agg #[.slice a n1 cap, .slice a2 n2 cap2, .int .i64 p.trim, .int .i64 p.sheets], .int .i64 0]) (by simp [results, Tryz.results84, go_sem, g0, g1, g2, g3]) rfl ⟨by rw [HF.out, HE2.out], (by repeat (first | (refine Below.setCell ?_ ?_ _; rotate_left; · (first | omega | (simp; done) | (simp; omega) | fail)) | (refine Below.alloc ?_ ?_ _; rotate_left; · (first | omega | (simp; done) | (simp; omega) | fail)) | refine Below.drew ?_ | exact hb3 | fail))⟩
 · have HF : Hid (openP p (.agg #[.slice a n1 cap, .slice a2 n2 cap2, .int .i64 p.trim, .int .i64 p.sheets]) = .agg #[.slice none 0 0, .slice none 0 0, .int .i64 0, .int .i64 0]) := Lib.hid (by unfold openP; rw [if_neg (fun h => h0 (HE.out.symm.trans h))])
   have h0b : (r3 != 0) = true := by simp [h0]
   clear h0 HR
   go_wp2_with fail
   have b3 : ((((w2.setCell ⟨w.heap.size + 1, 0, none⟩ (.slice none 0 0)).setCell ⟨w.heap.size + 1, 1, none⟩ (.slice none 0 0)).setCell ⟨w.heap.size + 1, 2, none⟩ (.int .i64 0)).setCell ⟨w.heap.size + 1, 3, none⟩ (.int .i64 0)).heap[w.heap.size + 1]? = some (.cells #[.slice none 0 0, .slice none 0 0, .int .i64 0, .int .i64 0] 122) := by
    simpa using blk_set (blk_set (blk_set (blk_set b2 0 (.slice none 0 0)) 1 (.slice none 0 0)) 2 (.int .i64 0)) 3 (.int .i64 0)
   have g0 := blk_cell b3 0; have g1 := blk_cell b3 1; have g2 := blk_cell b3 2; have g3 := blk_cell b3 3
   exact bodyPost_ret (v := .tuple #[.agg #[.slice none 0 0, .slice none 0 0, .int .i64 0, .int .i64 0], .int .i64 r3]) (by simp [results, Tryz.results84, go_sem, g0, g1, g2, g3]) rfl ⟨by rw [HF.out, HE.out], (by repeat (first | (refine Below.setCell ?_ ?_ _; rotate_left; · (first | omega | (simp; done) | (simp; omega) | fail)) | (refine Below.alloc ?_ ?_ _; rotate_left; · (first | omega | (simp; done) | (simp; omega) | fail)) | refine Below.drew ?_ | exact hb3 | fail))⟩
end
section
set_option linter.unusedSimpArgs false
set_option linter.unusedVariables false
open Go Go.RowKit Go.Sort Go.BigFrame
noncomputable def gridOk (f : Fds) : Bool := match evCall Tryz.prog 100000 0 90 [.lit (S (bytesF f))] h01 with
 | .ok (.tup [.lit (.int .i64 a), .lit (.int .i64 b)], _) => and (decide (a = (colsF f : Int))) (decide (b = (rowsF f : Int)))
 | _ => false
theorem grid_all : allFolds.all gridOk = true := by kernel_rfl
theorem grid_any {f : Fds} (h1 : 1 <= f.length) (h2 : f.length <= 4) (W : World) :
  Calls Tryz.prog 90 #[S (bytesF f)] W fun en W' => en = .returned (.tuple #[.int .i64 (colsF f), .int .i64 (rowsF f)]) /\ Below W.heap.size W W' := by
 have hk := List.all_eq_true.1 grid_all f (allFolds_mem h1 h2)
 unfold gridOk at hk
 split at hk
 · rename_i a b h' he
   simp only [Bool.and_eq_true, decide_eq_true_eq] at hk
   obtain ⟨rfl, rfl⟩ := hk
   refine (eval_lits followsT (ys := [S (bytesF f)]) (W := W) he).mono ?_
   rintro en W' ⟨x, e', rfl, hx, hr, hb, hfr⟩
   obtain ⟨l, rfl, hl⟩ := VR_tup.1 hx
   obtain ⟨y, ys, rfl, g1, g2⟩ := VRs_cons.1 hl
   obtain ⟨z, zs, rfl, g3, g4⟩ := VRs_cons.1 g2
   rw [VR_lit.1 g1, VR_lit.1 g3, VRs_nil.1 g4]
   exact ⟨rfl, hb⟩
 · cases hk
def fdsB (s : Bs) : Fds := s.map fun c => c == 120
theorem bytes_back {s : Bs} (h : s.all fdB = true) : bytesF (fdsB s) = s := by
 unfold bytesF fdsB
 rw [List.map_map]
 conv => rhs; rw [<- List.map_id s]
 refine List.map_congr_left fun c hc => ?_
 have := List.all_eq_true.1 h c hc
 unfold fdB at this
 simp only [Bool.or_eq_true, beq_iff_eq] at this
 rcases this with rfl | rfl <;> rfl
theorem fds_of_err {s : Bs} (h : fdsErr s = 0) : 1 <= s.length /\ s.length <= 4 /\ s.all fdB = true := by
 unfold fdsErr at h
 split at h
 · cases h
 · rename_i h1
   have h1 : inI 1 4 s.length = true := by simpa using h1
   simp only [inI, Bool.and_eq_true, decide_eq_true_eq] at h1
   split at h
   · rename_i h2
     exact ⟨by omega, by omega, h2⟩
   · cases h
abbrev mkwV (m : Mkw) : Value := .agg #[.int .i64 m.fmt, .int .i64 m.ppr, .int .i64 m.sheets, .bool m.half]
def mkwErr (p : Prs) (m : Mkw) : Int :=
 if (inI 0 (p.fmts.length - 1) m.fmt && inI 0 (p.pprs.length - 1) m.ppr) = false then 4
 else if inI 1 p.sheets m.sheets = false then 7
 else if m.half = true /\ (m.sheets ≠ 1 ∨ ∀ f, p.fmts[m.fmt.toNat]? = some f -> f.folds.length = 1) then 2 else 0
end
section
set_option linter.unusedSimpArgs false
set_option linter.unusedVariables false
open Go Go.RowKit Go.Sort Go.BigFrame
theorem firstE_ok {α : Type} {nm : α -> Bs} {err : List Bs -> α -> Int} : ∀ (xs : List α) (seen : List Bs) (k : Nat), (firstE nm err seen k xs).2 = 0 -> ∀ x ∈ xs, ∃ seen, err seen x = 0
 | [], _, _, _, x, hx => by cases hx
 | y :: ys, seen, k, h, x, hx => by
   unfold firstE at h
   split at h
   · rename_i h0
     rcases List.mem_cons.1 hx with rfl | hx
     · exact ⟨_, h0⟩
     · exact firstE_ok ys _ _ h x hx
   · rename_i h0; exact absurd h h0
theorem fine_press {p : Prs} (h : errP p = 0) : (1 <= p.fmts.length /\ p.fmts.length <= 6) /\ (1 <= p.pprs.length /\ p.pprs.length <= 4) /\ (1 <= p.sheets /\ p.sheets <= 4) /\ ∀ f ∈ p.fmts, fdsErr f.folds = 0 := by
 unfold errP checkP at h
 split at h
 · rename_i h1; exact absurd h h1
 · rename_i h1
   split at h
   · rename_i h2; exact absurd h h2
   · rename_i h2
     split at h
     · cases h
     · rename_i h3
       have h1 : (fmtsErr p.fmts).2 = 0 := by simpa using h1
       have h2 : (pprsErr p.pprs).2 = 0 := by simpa using h2
       have h3 : (inI 0 60 p.trim && inI 1 4 p.sheets) = true := by simpa using h3
       unfold fmtsErr at h1
       unfold pprsErr at h2
       split at h1
       · cases h1
       · rename_i g1
         split at h2
         · cases h2
         · rename_i g2
           have g1 : inI 1 6 p.fmts.length = true := by simpa using g1
           have g2 : inI 1 4 p.pprs.length = true := by simpa using g2
           simp only [inI, Bool.and_eq_true, decide_eq_true_eq] at g1 g2 h3
           refine ⟨by omega, by omega, by omega, fun f hf => ?_⟩
           obtain ⟨seen, h4⟩ := firstE_ok _ _ _ h1 f hf
           unfold fmtErr at h4
           split at h4
           · exact h4
           · rename_i h5; exact absurd h4 h5
theorem makeError_any (p : Prs) (m : Mkw) (vp : Value) (w : World) (hp : PrsAt w.heap.size w vp p) (he : errP p = 0) :
  Calls Tryz.prog 85 #[vp, mkwV m] w fun e w' => e = .returned (.int .i64 (mkwErr p m)) /\ Below w.heap.size w w' := by
 obtain ⟨⟨f1, f2⟩, ⟨f3, f4⟩, ⟨f5, f6⟩, hff⟩ := fine_press he
 obtain ⟨fv, pv, rfl, ⟨a, cap, rfl, hfc⟩, ⟨a2, cap2, rfl, -⟩, -⟩ := hp
 obtain ⟨n1, hn1⟩ : ∃ n, n = p.fmts.length := ⟨_, rfl⟩
 obtain ⟨n2, hn2⟩ : ∃ n, n = p.pprs.length := ⟨_, rfl⟩
 have hz0 : ∃ z, z = mkwErr p m := ⟨_, rfl⟩
 obtain ⟨z, hz⟩ := hz0
 rw [<- hz]
 unfold mkwErr at hz
 rw [<- hn1, <- hn2] at hz
 rw [<- hn1] at f1 f2
 rw [<- hn2] at f3 f4
 obtain ⟨fm, pp, sh, hf⟩ := m
 dsimp only at hz ⊢
 rw [<- hn1, <- hn2]
 have HZ := Lib.hid hz
 have HN1 := Lib.hid hn1
 have HFC := Lib.hid hfc
 have HFF := Lib.hid hff
 clear hz hn1 hn2 hfc hff he
 go_enter Tryz.func85, Tryz.ntmps85
 go_wp2_with fail
 refine (within_one 0 (n1 - 1) fm _ _ (by simp [World.cell?_alloc_at])).mono ?_
 rintro e w2 ⟨rfl, hw⟩
 have hb : Below w.heap.size w w2 := by rw [<- hw]; exact (by repeat (first | exact Below.refl _ _ | assumption | (refine Below.alloc ?_ ?_ _; rotate_left; · (first | omega | (simp; done) | (simp; omega) | fail)) | (refine Below.setCell ?_ ?_ _; rotate_left; · (first | omega | (simp; done) | (simp; omega) | fail)) | refine Below.drew ?_ | fail))
 have b1 : w2.heap[w.heap.size]? = some (.cells #[.slice a n1 cap, .slice a2 n2 cap2, .int .i64 p.trim, .int .i64 p.sheets] 122) := by rw [<- hw]; exact (by repeat (first | exact heap_alloc_at _ _ _ (by (first | omega | (simp; done) | (simp; omega) | (simp at *; omega) | fail)) | assumption | rw [heap_alloc_past _ _ _ (by (first | omega | (simp; done) | (simp; omega) | (simp at *; omega) | fail))] | rw [heap_setCell_past _ _ _ _ (by (first | omega | (simp; done) | (simp; omega) | (simp at *; omega) | fail))] | fail))
 have b2 : w2.heap[w.heap.size + 1]? = some (.cells #[.int .i64 fm, .int .i64 pp, .int .i64 sh, .bool hf] 50) := by rw [<- hw]; exact (by repeat (first | exact heap_alloc_at _ _ _ (by (first | omega | (simp; done) | (simp; omega) | (simp at *; omega) | fail)) | assumption | rw [heap_alloc_past _ _ _ (by (first | omega | (simp; done) | (simp; omega) | (simp at *; omega) | fail))] | rw [heap_setCell_past _ _ _ _ (by (first | omega | (simp; done) | (simp; omega) | (simp at *; omega) | fail))] | fail))
 have HB := Lib.hid hb
 clear hw hb
 have p0 := blk_cell b1 0
 have p1 := blk_cell b1 1
 have p2 := blk_cell b1 2
 have p3 := blk_cell b1 3
 have m0 := blk_cell b2 0
 have m1 := blk_cell b2 1
 have m2 := blk_cell b2 2
 have m3 := blk_cell b2 3
 cases h1 : inB 0 (n1 - 1) fm with
 | false =>
   have HF : Hid (z = 4) := Lib.hid (by rw [HZ.out, inI_inB, h1]; rfl)
   go_wp2_with fail
   go_ret
   exact ⟨by rw [(HF).out]; rfl, HB.out⟩
 | true =>
   obtain ⟨i, rfl⟩ : ∃ i : Nat, fm = i := ⟨fm.toNat, by simp only [inB, Bool.and_eq_true, decide_eq_true_eq] at h1; omega⟩
   have hi : i < n1 := by simp only [inB, Bool.and_eq_true, decide_eq_true_eq] at h1; omega
   have HZ2 : Hid (z = if inI 0 (n2 - 1) pp = false then 4 else if inI 1 p.sheets sh = false then 7 else if hf = true /\ (sh ≠ 1 ∨ ∀ f, p.fmts[i]? = some f -> f.folds.length = 1) then 2 else 0) := Lib.hid (by
    rw [HZ.out, inI_inB, h1]; simp)
   clear HZ h1
   go_wp2_with fail
   refine (within_one 0 (n2 - 1) pp _ _ (by simp [World.cell?_alloc_at])).mono ?_
   rintro e w3 ⟨rfl, hw⟩
   have hb : Below w2.heap.size w2 w3 := by rw [<- hw]; exact (by repeat (first | exact Below.refl _ _ | assumption | (refine Below.alloc ?_ ?_ _; rotate_left; · (first | omega | (simp; done) | (simp; omega) | fail)) | (refine Below.setCell ?_ ?_ _; rotate_left; · (first | omega | (simp; done) | (simp; omega) | fail)) | refine Below.drew ?_ | fail))
   have b1 := blk_later hb b1
   have b2 := blk_later hb b2
   have HB := Lib.hid (HB.out.trans (hb.mono HB.out.size))
   clear hw hb p0 p1 p2 p3 m0 m1 m2 m3
   have p0 := blk_cell b1 0
   have p1 := blk_cell b1 1
   have p2 := blk_cell b1 2
   have p3 := blk_cell b1 3
   have m0 := blk_cell b2 0
   have m1 := blk_cell b2 1
   have m2 := blk_cell b2 2
   have m3 := blk_cell b2 3
   cases h2 : inB 0 (n2 - 1) pp with
   | false =>
     have HF : Hid (z = 4) := Lib.hid (by rw [HZ2.out, inI_inB, h2]; rfl)
     go_wp2_with fail
     go_ret
     exact ⟨by rw [(HF).out]; rfl, HB.out⟩
   | true =>
     have HZ3 : Hid (z = if inI 1 p.sheets sh = false then 7 else if hf = true /\ (sh ≠ 1 ∨ ∀ f, p.fmts[i]? = some f -> f.folds.length = 1) then 2 else 0) := Lib.hid (by
      rw [HZ2.out, inI_inB, h2]; simp)
     clear HZ2 h2
     go_wp2_with fail
     refine (within_one 1 p.sheets sh _ _ (by simp [World.cell?_alloc_at])).mono ?_
     rintro e w4 ⟨rfl, hw⟩
     have hb : Below w3.heap.size w3 w4 := by rw [<- hw]; exact (by repeat (first | exact Below.refl _ _ | assumption | (refine Below.alloc ?_ ?_ _; rotate_left; · (first | omega | (simp; done) | (simp; omega) | fail)) | (refine Below.setCell ?_ ?_ _; rotate_left; · (first | omega | (simp; done) | (simp; omega) | fail)) | refine Below.drew ?_ | fail))
     have b1 := blk_later hb b1
     have b2 := blk_later hb b2
     have HB := Lib.hid (HB.out.trans (hb.mono HB.out.size))
     clear hw hb p0 p1 p2 p3 m0 m1 m2 m3
     have p0 := blk_cell b1 0
     have p1 := blk_cell b1 1
     have p2 := blk_cell b1 2
     have p3 := blk_cell b1 3
     have m0 := blk_cell b2 0
     have m1 := blk_cell b2 1
     have m2 := blk_cell b2 2
     have m3 := blk_cell b2 3
     cases h3 : inB 1 p.sheets sh with
     | false =>
       have HF : Hid (z = 7) := Lib.hid (by rw [HZ3.out, inI_inB, h3]; rfl)
       go_wp2_with fail
       go_ret
       exact ⟨by rw [(HF).out]; rfl, HB.out⟩
     | true =>
       have HZ4 : Hid (z = if hf = true /\ (sh ≠ 1 ∨ ∀ f, p.fmts[i]? = some f -> f.folds.length = 1) then 2 else 0) := Lib.hid (by
        rw [HZ3.out, inI_inB, h3]; simp)
       clear HZ3
       cases hf with
       | false =>
         have HF : Hid (z = 0) := Lib.hid (by rw [HZ4.out]; simp)
         go_wp2_with fail
         go_ret
         exact ⟨by rw [(HF).out]; rfl, HB.out⟩
       | true =>
         by_cases hs : sh = 1
         · subst hs
           obtain ⟨f, hfx⟩ : ∃ f, p.fmts[i]? = some f := ⟨_, List.getElem?_eq_getElem (by have := HN1.out; omega)⟩
           obtain ⟨b', off, rfl, hb', hc⟩ := HFC.out (fun h => by rw [h] at hfx; simp at hfx)
           have q1 : w4.cell? ⟨b', off + i * 2 + 1, none⟩ = some (S f.folds) := cell_later' HB.out (by have := hc i f hfx 1 _ rfl; simpa using this)
           have hl := fds_of_err (HFF.out f (List.mem_of_getElem? hfx))
           have HX := Lib.hid hfx
           have hzs : (⟨f.folds.toArray⟩ : ByteArray).size = f.folds.length := size_bytes f.folds
           obtain ⟨k, hk⟩ : ∃ k, k = f.folds.length := ⟨_, rfl⟩
           rw [<- hk] at hl hzs
           have HK := Lib.hid hk
           clear hc hfx hk
           obtain ⟨hl1, hl2, -⟩ := hl
           by_cases h5 : k = 1
           · have HF : Hid (z = 2) := Lib.hid (by
              rw [HZ4.out, if_pos]
              exact ⟨rfl, Or.inr fun f' hf' => by rw [HX.out] at hf'; cases hf'; rw [<- HK.out]; exact h5⟩)
             clear HZ4
             subst h5
             go_wp2_with fail
             go_ret
             exact ⟨by rw [(HF).out]; rfl, HB.out⟩
           · have HF : Hid (z = 0) := Lib.hid (by
              rw [HZ4.out, if_neg]
              rintro ⟨-, h | h⟩
              · exact h rfl
              · exact h5 (by rw [HK.out]; exact h f HX.out))
             have h5b : ((k : Int) == 1) = false := by simp; omega
             clear HZ4
             go_wp2_with fail
             go_ret
             exact ⟨by rw [(HF).out]; rfl, HB.out⟩
         · have HF : Hid (z = 2) := Lib.hid (by rw [HZ4.out, if_pos]; exact ⟨rfl, Or.inl hs⟩)
           have hsb : (sh != 1) = true := by simp [hs]
           clear HZ4 hs
           go_wp2_with fail
           go_ret
           exact ⟨by rw [(HF).out]; rfl, HB.out⟩
end
section
set_option linter.unusedSimpArgs false
set_option linter.unusedVariables false
open Go Go.RowKit Go.Sort Go.BigFrame
theorem cut_bytes (s : Bs) (k : Nat) : (⟨s.toArray⟩ : ByteArray).extract k s.length = ⟨(s.drop k).toArray⟩ := by
 apply ByteArray.ext
 rw [ByteArray.data_extract]
 simp
 exact List.take_of_length_le (by simp)
abbrev wayC (m : Mkw) (s : Bs) (c r : Int) (q : Ppr) (tr : Int) (lv : Value) : Array Value :=
 #[.int .i64 m.fmt, .int .i64 m.ppr, .int .i64 m.sheets, .bool m.half, S s, .int .i64 c, .int .i64 r, S q.name, .int .i64 q.wlo, .int .i64 q.whi, .int .i64 q.hlo, .int .i64 q.hhi, .int .i64 tr, lv]
theorem foldsMade_any (m : Mkw) (s : Bs) (c r : Int) (q : Ppr) (tr : Int) (lv : Value) (w : World) (h1 : 1 <= s.length) (h2 : s.length <= 4) :
  Calls Tryz.prog 93 #[.agg (wayC m s c r q tr lv)] w fun e w' => e = .returned (S (if m.half then s.drop 1 else s)) /\ Below w.heap.size w w' := by
 have hzs : (⟨s.toArray⟩ : ByteArray).size = s.length := size_bytes s
 cases hf : m.half with
 | false =>
   go_enter Tryz.func93, Tryz.ntmps93
   go_wp2_with fail
   go_ret
   exact ⟨rfl, (by repeat (first | exact Below.refl _ _ | assumption | (refine Below.alloc ?_ ?_ _; rotate_left; · (first | omega | (simp; done) | (simp; omega) | fail)) | (refine Below.setCell ?_ ?_ _; rotate_left; · (first | omega | (simp; done) | (simp; omega) | fail)) | refine Below.drew ?_ | fail))⟩
 | true =>
   go_enter Tryz.func93, Tryz.ntmps93
   go_wp2_with fail
   go_ret
   exact ⟨ret_S ((cut_bytes s 1).trans (by rw [List.drop_one])), (by repeat (first | exact Below.refl _ _ | assumption | (refine Below.alloc ?_ ?_ _; rotate_left; · (first | omega | (simp; done) | (simp; omega) | fail)) | (refine Below.setCell ?_ ?_ _; rotate_left; · (first | omega | (simp; done) | (simp; omega) | fail)) | refine Below.drew ?_ | fail))⟩
theorem foldsMade_is (m : Mkw) (s : Bs) (c r : Int) (q : Ppr) (tr : Int) (lv : Value) (x : Bs) (hx : x = if m.half then s.drop 1 else s) (w : World) (h1 : 1 <= s.length) (h2 : s.length <= 4) :
  Calls Tryz.prog 93 #[.agg (wayC m s c r q tr lv)] w fun e w' => e = .returned (S x) /\ Below w.heap.size w w' := by
 subst hx; exact foldsMade_any m s c r q tr lv w h1 h2
theorem made_bytes {s : Bs} (h : s.all fdB = true) (b : Bool) : bytesF (madeF (fdsB s) b) = if b then s.drop 1 else s := by
 cases b with
 | false => exact bytes_back h
 | true =>
   show bytesF ((fdsB s).drop 1) = s.drop 1
   have := congrArg (List.drop 1) (bytes_back h)
   unfold bytesF at this ⊢
   rw [<- List.map_drop] at this
   exact this
end
end Go.Proofs.YtpdhdgdbknnllaaGreatDoor
