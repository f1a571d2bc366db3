/- The parts Uv, Uw, Oa, Oe, Of, Oh of the proof, joined. It holds without conditions of its own. -/
import Derived.Test.YtpdhdgdbknnllaaGreatDoorFX25
import Derived.Test.YtpdhdgdbknnllaaGreatDoorFX10
import Derived.Test.YtpdhdgdbknnllaaGreatDoorFX14
import Derived.Maps.AppendAt
import Derived.Laws.AppendOwnNone
import Derived.Test.YtpdhdgdbknnllaaGreatDoorFX23
import Derived.Test.YtpdhdgdbknnllaaGreatDoorFX11
set_option maxRecDepth 100000
set_option maxHeartbeats 20000000
namespace Go.Proofs.YtpdhdgdbknnllaaGreatDoor
section
set_option linter.unusedSimpArgs false
set_option linter.unusedVariables false
open Go Go.RowKit Go.Sort Go.BigFrame
theorem refAll2_any (p : Prs) (m : Mkw) (f : Fmt) (vp : Value) (w : World) (hp : PrsAt w.heap.size w vp p) (he : errP p = 0) (hm : mkwErr p m = 0) (hf : p.fmts[m.fmt.toNat]? = some f) :
  Calls Tryz.prog 52 #[vp, mkwV m] w fun e w' => (∃ v' g, e = .returned v' /\ LeavesAt w' v' (leavesW m f) g /\ w.heap.size <= g) /\ Below w.heap.size w w' := by
 have FN := Lib.hid (fine_of he hm hf)
 obtain ⟨hfm0, hfm1, -, -⟩ := fine_at he hm
 obtain ⟨fv, pv, rfl, ⟨a, cap, rfl, hfc⟩, ⟨a2, cap2, rfl, -⟩, -⟩ := hp
 obtain ⟨n1, hn1⟩ : ∃ n, n = p.fmts.length := ⟨_, rfl⟩
 obtain ⟨n2, hn2⟩ : ∃ n, n = p.pprs.length := ⟨_, rfl⟩
 obtain ⟨b', off, rfl, hb', hc⟩ := hfc (fun h => by rw [h] at hf; simp at hf)
 have q1 : w.cell? ⟨b', off + m.fmt.toNat * 2 + 1, none⟩ = some (S f.folds) := by have := hc _ f hf 1 _ rfl; simpa using this
 rw [<- hn1] at hfm1
 rw [<- hn1, <- hn2]
 have hs1 := FN.out.sh1
 have hs4 := FN.out.sh4
 have hl1 := FN.out.len1
 have hl4 := FN.out.len4
 obtain ⟨D, hD⟩ : ∃ D, D = fdsB f.folds := ⟨_, rfl⟩
 have hDl : D.length = f.folds.length := by rw [hD]; unfold fdsB; simp
 have hback : bytesF D = f.folds := by rw [hD]; exact FN.out.back
 have hhalf := FN.out.half
 have HL : Hid (leavesW m f = allR D m.sheets.toNat m.half) := Lib.hid (by
  unfold leavesW
  rw [<- hD]
  exact leaves_is (by omega) (by omega) hs1 hs4 (fun h => by have := hhalf h; omega))
 have hpl := fun W => pile_any (f := D) (by omega) (by omega) m.half (fun h => by have := hhalf h; omega) W
 have hqq : 2 <= (pileR D m.half).length /\ (pileR D m.half).length <= 16 := by
  have hDm := allFolds_mem (f := D) (by omega) (by omega)
  cases hh : m.half with
  | false => exact pile_len D hDm
  | true => exact pile_lenh D hDm (by have := hhalf hh; omega)
 have hsm : ∀ l ∈ pileR D m.half, l.col < 100 /\ l.row < 100 /\ l.x < 100 /\ l.y < 100 := by
  have hDm := allFolds_mem (f := D) (by omega) (by omega)
  have h1 : (pileR D m.half).all (fun l => decide (l.col < 100) && decide (l.row < 100) && decide (l.x < 100) && decide (l.y < 100)) = true := by
   cases hh : m.half with
   | false => exact pile_small D hDm
   | true => exact pile_smallh D hDm (by have := hhalf hh; omega)
  intro l hl
  have h2 := List.all_eq_true.1 h1 l hl
  simp only [Bool.and_eq_true, decide_eq_true_eq] at h2
  exact ⟨h2.1.1.1, h2.1.1.2, h2.1.2, h2.2⟩
 obtain ⟨kl, hkl, cl, hcl, hlast⟩ := bytesF_last (D := D) (by omega)
 obtain ⟨fm, pp, sh, hf7⟩ := m
 obtain ⟨fi, hfi⟩ : ∃ fi : Nat, fm = fi := ⟨fm.toNat, by dsimp only at hfm0; omega⟩
 obtain ⟨sn, hsn⟩ : ∃ sn : Nat, sh = sn := ⟨sh.toNat, by dsimp only at hs1; omega⟩
 subst hfi hsn
 dsimp only [Int.toNat_natCast] at *
 have HPL := Lib.hid hpl
 have HSM := Lib.hid hsm
 have hzs : (⟨(bytesF D).toArray⟩ : ByteArray).size = kl + 1 := by rw [size_bytes, hkl]
 have hkl4 : kl < 4 := by have : (bytesF D).length = D.length := (by unfold bytesF; simp); omega
 rw [<- hback] at q1
 obtain ⟨L, hL⟩ : ∃ L, L = pileR D hf7 := ⟨_, rfl⟩
 rw [<- hL] at HPL HSM hqq
 have HLL := Lib.hid hL
 obtain ⟨lb, hlb⟩ : ∃ lb, lb = lastF D := ⟨_, rfl⟩
 rw [<- hlb] at hcl
 have HLB := Lib.hid hlb
 obtain ⟨bs, hbs⟩ : ∃ bs, bs = bytesF D := ⟨_, rfl⟩
 rw [<- hbs] at q1 hzs hlast HPL
 clear hpl hsm hDl hD hback hhalf FN hc hkl hl1 hl4 hL hlb hf he hm hfm0 hn1 hn2 hbs
 go_enter Tryz.func52, Tryz.ntmps52
 go_wp2_with fail
 refine (HPL.out _).mono ?_
 rintro e w2 ⟨lv, g, rfl, hl, hg, hb⟩
 have hb0 : Below w.heap.size w w2 := Below.trans (by exact (by repeat (first | exact Below.refl _ _ | assumption | (refine Below.alloc ?_ ?_ _; rotate_left; · (first | omega | (simp; done) | (simp; omega) | fail)) | (refine Below.setCell ?_ ?_ _; rotate_left; · (first | omega | (simp; done) | (simp; omega) | fail)) | refine Below.drew ?_ | fail))) (hb.mono (by simp; try omega))
 have bx : w2.heap[w.heap.size + 1]? = some (.cells #[.int .i64 fi, .int .i64 pp, .int .i64 sn, .bool hf7] 50 (0, 0)) := blk_later hb (by exact (by repeat (first | exact heap_alloc_at _ _ _ (by (first | omega | (simp; done) | (simp; omega) | (simp at *; omega) | fail)) | assumption | rw [heap_alloc_past _ _ _ (by (first | omega | (simp; done) | (simp; omega) | (simp at *; omega) | fail))] | rw [heap_setCell_past _ _ _ _ (by (first | omega | (simp; done) | (simp; omega) | (simp at *; omega) | fail))] | fail)))
 have hgl : g < w2.heap.size := by obtain ⟨k7, rest7, e1, e2, e3⟩ := hl; exact blk_lt e2
 have HS : Hid (AlSt w w2 lv L g w2.heap.size #[.int .i64 fi, .int .i64 pp, .int .i64 sn, .bool hf7] (.slice none 0 0) (.slice none 0 0) (firstR D L 0) (secondR D L 0)) := Lib.hid ⟨World.ownsRow_nil _ _ _ _, World.ownsRow_nil _ _ _ _, (fun k h => by cases h), hl, bx, hb0, hgl, blk_lt bx⟩
 obtain ⟨kq, restq, hlv, -⟩ := hl
 obtain ⟨q, hq⟩ : ∃ q, q = L.length := ⟨_, rfl⟩
 rw [<- hq] at hlv hqq
 have HQ := Lib.hid hq
 subst hlv
 obtain ⟨hq2, hq16⟩ := hqq
 obtain ⟨ei, hi1, hi2, hi3, hi4⟩ := elemFl
 have HI := Lib.hid (And.intro hi1 (And.intro hi2 (And.intro hi3 hi4)))
 have HG := Lib.hid hg
 clear hi1 hi2 hi3 hi4 hq hb hb0 bx HPL hb' q1 hg
 go_wp2_with fail
 go_loopw [8, 9, 10] (fun fv sv i wr => ∃ (s : Nat), s <= sn /\ i = .int .i64 s /\ Hid (s = 0 -> sv = .slice none 0 0) /\ Hid (AlSt w wr (.slice (some ⟨g, 0, none⟩) q (q + kq)) L g w2.heap.size #[.int .i64 fi, .int .i64 pp, .int .i64 sn, .bool hf7] fv sv (firstR D L s) (secondR D L s)) /\ Hid (w2.heap.size <= wr.heap.size)) (fun _ _ i _ => sn - (intOf i).toNat)
 case atStart => exact ⟨0, by omega, rfl, Lib.hid (fun _ => rfl), HS, Lib.hid (Nat.le_refl _)⟩
 case round =>
  clear HS
  obtain ⟨s, hs, rfl, HV0, HS, HZ⟩ := hrel
  have c0 := blk_cell HS.out.box 0
  have c1 := blk_cell HS.out.box 1
  have c2 := blk_cell HS.out.box 2
  have c3 := blk_cell HS.out.box 3
  by_cases hlt : s < sn
  · go_wp2_with fail
    clear c0 c1 c2 c3
    obtain ⟨w3, hw3⟩ : ∃ w3, w3 = wr := ⟨_, rfl⟩
    subst hw3
    go_loopw [11, 12] (fun ov i wi => ∃ (k : Nat), k <= q /\ i = .int .i64 k /\ Hid (wi.ownsRow w3.heap.size 106 5 ov k (flCells (ownR D (L.take k) s))) /\ Hid (Below w3.heap.size w3 wi)) (fun _ i _ => q - (intOf i).toNat)
    case atStart => exact ⟨0, by omega, rfl, World.ownsRow_nil _ _ _ _, Lib.hid (Below.refl _ _)⟩
    case round =>
     obtain ⟨k, hk, rfl, HO, HB⟩ := hrel
     by_cases hkq : k < q
     · obtain ⟨x, hx⟩ : ∃ x, L[k]? = some x := ⟨_, List.getElem?_eq_getElem (by have := HQ.out; omega)⟩
       obtain ⟨x0, x1, x2, x3⟩ := ln_cells (HS.out.pile.later HB.out) hx
       have HX := Lib.hid hx
       obtain ⟨xs1, xs2, xs3, xs4⟩ := HSM.out x (List.mem_of_getElem? hx)
       have hxs : (ownR D (L.take k) s).length = k := by rw [ownR_len, List.length_take]; have := HQ.out; omega
       have HXS := Lib.hid hxs
       have HNX := Lib.hid (ownR_next (f := D) (s := s) hx)
       obtain ⟨IB, hIB⟩ : ∃ b : Bool, (((x.x : Int) + (x.y : Int)) % 2 == 1) = b := ⟨_, rfl⟩
       clear hx hxs
       cases lb with
       | true =>
         obtain ⟨TB, hTB⟩ : ∃ b : Bool, ((x.y : Int) % 2 == 1) = b := ⟨_, rfl⟩
         have HNX : Hid (ownR D (L.take (k + 1)) s = ownR D (L.take k) s ++ [(⟨s, x.col, x.row, IB, TB⟩ : Fl)]) := Lib.hid (by
          have e1 : ((x.x + x.y) % 2 == 1) = IB := by rw [<- hIB, Bool.eq_iff_iff]; simp; omega
          have e2 : ((if lastF D then x.y else x.x) % 2 == 1) = TB := by rw [<- hTB, <- HLB.out, Bool.eq_iff_iff]; simp; omega
          rw [HNX.out, e1, e2])
         go_upto_region 15 with fail
         have p0 := cell_regrown x0
         have p1 := cell_regrown x1
         have p2 := cell_regrown x2
         have p3 := cell_regrown x3
         clear x0 x1 x2 x3
         refine wp_region_below_tail 1 29 (by kernel_rfl) (by kernel_rfl) fun R hR => ?_; simp only [List.take_succ_cons, List.take_zero, List.drop_succ_cons, List.drop_zero, leadA, leadV, Act.put, Act.eval, List.setIfInBounds_toArray, List.set_cons_zero, List.set_cons_succ, Array.getD_eq_getD_getElem?, List.getElem?_toArray, List.getElem?_cons_zero, List.getElem?_cons_succ, Option.getD_some]; (repeat (go_big_quiet_step (fail))); refine wpQuiet_nil ?_; rintro w6 ⟨⟨d6, os6⟩, rfl⟩; have hR := Lib.hid hR
         have HB6 := Lib.hid (HB.out.trans ((below_regrown wr d6 os6).mono HB.out.size))
         have HR6 := Lib.hid (row_later HO.out (below_regrown wr d6 os6))
         clear p0 p1 p2 p3 HO HB
         dsimp only
         generalize grow (redrawn wr d6) os6 = w6 at *
         obtain ⟨hi1, hi2, hi3, hi4⟩ := HI.out
         have hz6 := HB6.out.size
         have hxs := HXS.out
         go_wp2_with (at_builtin; refine wpList_append_own _ rfl _ _ 81 rfl w3.heap.size 106 ei _ 5 32 undFls hi1 hi2 hi3 hi4 rfl (by decide) u11 k (flCells (ownR D (L.take k) s)) rfl (HR6.out.alloc _) ⟨w6.heap.size, 0, none⟩ 1 1 [.int .i64 s, .int .i64 x.col, .int .i64 x.row, .bool IB, .bool TB] rfl rfl ?c1 ?c2 ?c3 ?c4 ?c5 ?c6)
         case c1 => exact cells_new _ _ _
         case c2 => simp [Value.oneCell']
         case c3 => simp only [maxLen]; omega
         case c4 => omega
         case c5 => simp; omega
         case c6 =>
          rintro v' w7 hown hgrow -
          have HB8 := Lib.hid (HB6.out.trans ((((Below.refl _ w6).alloc (Nat.le_refl _) (.cells #[.int .i64 s, .int .i64 x.col, .int .i64 x.row, .bool IB, .bool TB] 106)).mono hz6).trans (below_row (HR6.out.alloc _) (by simp; omega) hgrow)))
          have HO8 : Hid (w7.ownsRow w3.heap.size 106 5 v' (k + 1) (flCells (ownR D (L.take (k + 1)) s))) := Lib.hid (by
           rw [HNX.out, flCells_append]
           exact hown)
          clear hgrow hown hi1 hi2 hi3 hi4
          go_wp2_with fail
          go_roundw
          case rel => exact ⟨k + 1, by omega, by go_num, HO8, HB8⟩
          case measure => simp [intOf]; omega
       | false =>
         obtain ⟨TB, hTB⟩ : ∃ b : Bool, ((x.x : Int) % 2 == 1) = b := ⟨_, rfl⟩
         have HNX : Hid (ownR D (L.take (k + 1)) s = ownR D (L.take k) s ++ [(⟨s, x.col, x.row, IB, TB⟩ : Fl)]) := Lib.hid (by
          have e1 : ((x.x + x.y) % 2 == 1) = IB := by rw [<- hIB, Bool.eq_iff_iff]; simp; omega
          have e2 : ((if lastF D then x.y else x.x) % 2 == 1) = TB := by rw [<- hTB, <- HLB.out, Bool.eq_iff_iff]; simp; omega
          rw [HNX.out, e1, e2])
         go_upto_region 15 with fail
         have p0 := cell_regrown x0
         have p1 := cell_regrown x1
         have p2 := cell_regrown x2
         have p3 := cell_regrown x3
         clear x0 x1 x2 x3
         refine wp_region_below_tail 1 29 (by kernel_rfl) (by kernel_rfl) fun R hR => ?_; simp only [List.take_succ_cons, List.take_zero, List.drop_succ_cons, List.drop_zero, leadA, leadV, Act.put, Act.eval, List.setIfInBounds_toArray, List.set_cons_zero, List.set_cons_succ, Array.getD_eq_getD_getElem?, List.getElem?_toArray, List.getElem?_cons_zero, List.getElem?_cons_succ, Option.getD_some]; (repeat (go_big_quiet_step (fail))); refine wpQuiet_nil ?_; rintro w6 ⟨⟨d6, os6⟩, rfl⟩; have hR := Lib.hid hR
         have HB6 := Lib.hid (HB.out.trans ((below_regrown wr d6 os6).mono HB.out.size))
         have HR6 := Lib.hid (row_later HO.out (below_regrown wr d6 os6))
         clear p0 p1 p2 p3 HO HB
         dsimp only
         generalize grow (redrawn wr d6) os6 = w6 at *
         obtain ⟨hi1, hi2, hi3, hi4⟩ := HI.out
         have hz6 := HB6.out.size
         have hxs := HXS.out
         go_wp2_with (at_builtin; refine wpList_append_own _ rfl _ _ 81 rfl w3.heap.size 106 ei _ 5 32 undFls hi1 hi2 hi3 hi4 rfl (by decide) u11 k (flCells (ownR D (L.take k) s)) rfl (HR6.out.alloc _) ⟨w6.heap.size, 0, none⟩ 1 1 [.int .i64 s, .int .i64 x.col, .int .i64 x.row, .bool IB, .bool TB] rfl rfl ?c1 ?c2 ?c3 ?c4 ?c5 ?c6)
         case c1 => exact cells_new _ _ _
         case c2 => simp [Value.oneCell']
         case c3 => simp only [maxLen]; omega
         case c4 => omega
         case c5 => simp; omega
         case c6 =>
          rintro v' w7 hown hgrow -
          have HB8 := Lib.hid (HB6.out.trans ((((Below.refl _ w6).alloc (Nat.le_refl _) (.cells #[.int .i64 s, .int .i64 x.col, .int .i64 x.row, .bool IB, .bool TB] 106)).mono hz6).trans (below_row (HR6.out.alloc _) (by simp; omega) hgrow)))
          have HO8 : Hid (w7.ownsRow w3.heap.size 106 5 v' (k + 1) (flCells (ownR D (L.take (k + 1)) s))) := Lib.hid (by
           rw [HNX.out, flCells_append]
           exact hown)
          clear hgrow hown hi1 hi2 hi3 hi4
          go_wp2_with fail
          go_roundw
          case rel => exact ⟨k + 1, by omega, by go_num, HO8, HB8⟩
          case measure => simp [intOf]; omega
     · obtain rfl : k = q := by omega
       have hz3 := HB.out.size
       have hz2 := HZ.out
       have HS1 := Lib.hid (HS.out.later HB.out)
       have hLt : L.take k = L := by rw [HQ.out]; exact List.take_length
       have HO1 : Hid (wr.ownsRow w3.heap.size 106 5 u11 k (flCells (ownR D L s))) := Lib.hid (by have h := HO.out; rwa [hLt] at h)
       clear HO hLt
       obtain ⟨go, co, rfl, hgo1, hgo2, hgo3, hgo4⟩ := row_formK HO1.out (by omega)
       obtain ⟨h, hh⟩ : ∃ h, h = k / 2 := ⟨_, rfl⟩
       have hh1 : h <= k := by omega
       have hh2 : ((k : Int) / 2) = (h : Int) := by omega
       have hol : (ownR D L s).length = k := by rw [ownR_len, <- HQ.out]
       have HOL := Lib.hid hol
       obtain ⟨NF, hNF⟩ : ∃ n, n = (firstR D L s).length := ⟨_, rfl⟩
       have hNF64 : NF <= 64 := by
        rw [hNF, firstR_len, <- HQ.out]
        exact Nat.le_trans (Nat.mul_le_mul (show s <= 4 by omega) (show k / 2 <= 16 by omega)) (by omega)
       obtain ⟨NS, hNS⟩ : ∃ n, n = (secondR D L s).length := ⟨_, rfl⟩
       have hNS64 : NS <= 64 := by
        rw [hNS, secondR_len, <- HQ.out]
        exact Nat.le_trans (Nat.mul_le_mul (show s <= 4 by omega) (show k - k / 2 <= 16 by omega)) (by omega)
       have HNF := Lib.hid hNF
       have HNS := Lib.hid hNS
       have hfr := HS1.out.frow
       rw [<- hNF] at hfr
       have hX1l : ((ownR D L s).take h).length = h := by rw [List.length_take, hol]; omega
       have HX1L := Lib.hid hX1l
       have HH := Lib.hid hh
       have hown1 := fun j u hj => row_from HO1.out 0 j u hj
       simp only [Nat.zero_mul, List.drop_zero] at hown1
       have HOW := Lib.hid hown1
       clear hh hol hNF hNS hX1l hown1
       obtain ⟨hi1, hi2, hi3, hi4⟩ := HI.out
       go_wp2_with (at_builtin; refine wpList_append_own_at _ rfl _ _ 81 rfl w2.heap.size 106 ei _ 5 32 undFls hi1 hi2 hi3 hi4 rfl (by decide) u8 NF (flCells (firstR D L s)) rfl hfr ⟨go, 0, none⟩ h co (flCells ((ownR D L s).take h)) rfl ?a1 ?a2 ?a3 ?a4 ?a5 ?a6 ?a7)
       case a1 => rw [flCells_len, HX1L.out]
       case a2 =>
        intro j u hj
        refine HOW.out j u ?_
        rw [<- flCells_take _ _ (by rw [HOL.out]; exact hh1)] at hj
        obtain ⟨hj1, -⟩ := List.getElem?_eq_some_iff.1 hj
        rw [List.length_take] at hj1
        rwa [List.getElem?_take_of_lt (by omega)] at hj
       case a3 => exact flCells_one
       case a4 => simp only [maxLen]; omega
       case a5 => omega
       case a6 => omega
       case a7 =>
        rintro v8 w5 hown hgrow - hat
        have HS5 := Lib.hid (HS1.out.first (X := (ownR D L s).take h) hown (by rw [HNF.out, HX1L.out]) hgrow hat)
        have HO5 : Hid (w5.ownsRow w3.heap.size 106 5 (.slice (some ⟨go, 0, none⟩) k co) k (flCells (ownR D L s))) := Lib.hid (HO1.out.kept hgrow (by
         refine Or.inr fun e => ?_
         have := (HS.out.frow.lt go (by rw [<- e]; rfl)).2
         omega))
        have hz5 := hgrow.size
        clear hown hgrow hat hfr HS1 HO1 HOW hi1 hi2 hi3 hi4 HB
        have HE0 : (w5.alloc (.cells #[] 106)).ownsRow w5.heap.size 106 5 (.slice (some ⟨w5.heap.size, 0, none⟩) 0 0) 0 [] := World.ownsRow_lit w5 #[] 0 (Nat.le_refl _) (by simp [maxLen]) rfl
        have HEB : Below w5.heap.size w5 (w5.alloc (.cells #[] 106)) := (Below.refl _ w5).alloc (Nat.le_refl _) _
        have HOE := Lib.hid (row_later HO5.out HEB)
        have hX2l : ((ownR D L s).drop h).length = k - h := by rw [List.length_drop, HOL.out]
        have HX2L := Lib.hid hX2l
        have hown2 := fun j u hj => row_from HOE.out h j u hj
        rw [flCells_drop _ _ (by rw [HOL.out]; exact hh1)] at hown2
        have HOW := Lib.hid hown2
        have HEB' := Lib.hid HEB
        have HE0' := Lib.hid HE0
        have hsz6 : w5.heap.size <= (w5.alloc (.cells #[] 106)).heap.size := HEB.size
        clear hown2 hX2l HEB HE0
        obtain ⟨hi1, hi2, hi3, hi4⟩ := HI.out
        go_wp2_with (at_builtin; refine wpList_append_own _ rfl _ _ 81 rfl w5.heap.size 106 ei _ 5 32 undFls hi1 hi2 hi3 hi4 rfl (by decide) (.slice (some ⟨w5.heap.size, 0, none⟩) 0 0) 0 [] rfl HE0'.out ⟨go, h * 5, none⟩ (k - h) (co - h) (flCells ((ownR D L s).drop h)) rfl ?b1 ?b2 ?b3 ?b4 ?b5 ?b6 ?b7)
        case b1 => rw [flCells_len, HX2L.out]
        case b2 => exact HOW.out
        case b3 => exact flCells_one
        case b4 => simp only [maxLen]; omega
        case b5 => omega
        case b6 => exact hsz6
        case b7 =>
         rintro v9 w6 hown hgrow -
         have hb6 : Below w5.heap.size w5 w6 := HEB'.out.trans (below_row HE0'.out hsz6 hgrow)
         have HS6 := Lib.hid (HS5.out.later hb6)
         have HR6 : Hid (w6.ownsRow w5.heap.size 106 5 v9 (k - h) (flCells ((ownR D L s).drop h))) := Lib.hid (by
          first
           | exact hown
           | (rw [Nat.zero_add, List.nil_append] at hown; exact hown))
         have HB6 := Lib.hid hb6
         have hz6 := hb6.size
         clear hown hgrow hb6 HOW HEB' HE0' hsz6 HOE HO5
         by_cases hs0 : s = 0
         · have hu9 := HV0.out hs0
           subst hs0
           subst hu9
           go_wp2_with (at_builtin; refine wpList_append_own_none rfl _ _ 81 rfl w5.heap.size 106 ei 5 undFls hi1 v9 (k - h) (flCells ((ownR D L 0).drop h)) rfl HR6.out rfl ?_)
           have HR7 : Hid (w6.ownsRow w5.heap.size 106 5 v9 (secondR D L (0 + 1)).length (flCells (secondR D L (0 + 1)))) := Lib.hid (by
            have e : secondR D L (0 + 1) = (ownR D L 0).drop h := by
             show (ownR D L 0).drop ((ownR D L 0).length / 2) ++ secondR D L 0 = _
             rw [HOL.out, <- HH.out]
             exact List.append_nil _
            rw [e, HX2L.out]
            exact HR6.out)
           have HS7 := Lib.hid (HS5.out.second (X := secondR D L (0 + 1)) HR7.out (by omega) HB6.out)
           clear hi1 hi2 hi3 hi4
           go_wp2_with fail
           go_roundw
           case rel => exact ⟨0 + 1, by omega, by go_num, Lib.hid (fun h => by omega), (by
            have h := HS7.out
            rw [firstR_succ, HOL.out, <- HH.out]
            exact h), Lib.hid (by omega)⟩
           case measure => simp [intOf]; omega
         · have hNS1 : 1 <= NS := by
            have h1 : 1 * 1 <= s * (k - k / 2) := Nat.mul_le_mul (by omega) (by omega)
            rw [HNS.out, secondR_len, <- HQ.out]
            omega
           have hsr := HS6.out.srow
           rw [<- HNS.out] at hsr
           obtain ⟨g9, c9, hu9, hg91, hg92, hg93, hg94⟩ := row_formK hsr (by omega)
           have hown9 := fun j u hj => row_from (k := 0) (by rw [hu9] at hsr; exact hsr) j u hj
           simp only [Nat.zero_mul, List.drop_zero] at hown9
           have HOW9 := Lib.hid hown9
           subst hu9
           clear hown9 hsr
           go_wp2_with (at_builtin; refine wpList_append_own _ rfl _ _ 81 rfl w5.heap.size 106 ei _ 5 32 undFls hi1 hi2 hi3 hi4 rfl (by decide) v9 (k - h) (flCells ((ownR D L s).drop h)) rfl HR6.out ⟨g9, 0, none⟩ NS c9 (flCells (secondR D L s)) rfl ?d1 ?d2 ?d3 ?d4 ?d5 ?d6 ?d7)
           case d1 => rw [flCells_len, HNS.out]
           case d2 => exact HOW9.out
           case d3 => exact flCells_one
           case d4 => simp only [maxLen]; omega
           case d5 => omega
           case d6 => omega
           case d7 =>
            rintro v10 w7 hown hgrow -
            have hb7 : Below w5.heap.size w6 w7 := below_row HR6.out hz6 hgrow
            have HB7 := Lib.hid (HB6.out.trans hb7)
            have hz7 := hgrow.size
            have HR7 : Hid (w7.ownsRow w5.heap.size 106 5 v10 (secondR D L (s + 1)).length (flCells (secondR D L (s + 1)))) := Lib.hid (by
             have e : secondR D L (s + 1) = (ownR D L s).drop h ++ secondR D L s := by
              show (ownR D L s).drop ((ownR D L s).length / 2) ++ secondR D L s = _
              rw [HOL.out, <- HH.out]
             rw [e, List.length_append, HX2L.out, <- HNS.out, flCells_append]
             exact hown)
            have HS7 := Lib.hid (HS5.out.second (X := secondR D L (s + 1)) HR7.out (by omega) HB7.out)
            clear hi1 hi2 hi3 hi4 hown hgrow hb7
            go_wp2_with fail
            go_roundw
            case rel => exact ⟨s + 1, by omega, by go_num, Lib.hid (fun h => by omega), (by
             have h := HS7.out
             rw [firstR_succ, HOL.out, <- HH.out]
             exact h), Lib.hid (by omega)⟩
            case measure => simp [intOf]; omega
  · obtain rfl : s = sn := by omega
    obtain ⟨NF, hNF⟩ : ∃ n, n = (firstR D L s).length := ⟨_, rfl⟩
    have hNF64 : NF <= 64 := by
     rw [hNF, firstR_len, <- HQ.out]
     exact Nat.le_trans (Nat.mul_le_mul hs4 (show q / 2 <= 16 by omega)) (by omega)
    obtain ⟨NS, hNS⟩ : ∃ n, n = (secondR D L s).length := ⟨_, rfl⟩
    have hNS64 : NS <= 64 := by
     rw [hNS, secondR_len, <- HQ.out]
     exact Nat.le_trans (Nat.mul_le_mul hs4 (show q - q / 2 <= 16 by omega)) (by omega)
    have hNS1 : 1 <= NS := by
     have h1 : 1 * 1 <= s * (q - q / 2) := Nat.mul_le_mul (by omega) (by omega)
     rw [hNS, secondR_len, <- HQ.out]
     omega
    have hfr := HS.out.frow
    have hsr := HS.out.srow
    rw [<- hNF] at hfr
    rw [<- hNS] at hsr
    have hzr := HZ.out
    obtain ⟨g9, c9, hu9, hg91, hg92, hg93, hg94⟩ := row_formK hsr (by omega)
    have hown9 := fun j u hj => row_from (k := 0) (by rw [hu9] at hsr; exact hsr) j u hj
    simp only [Nat.zero_mul, List.drop_zero] at hown9
    have HOW9 := Lib.hid hown9
    have HNF := Lib.hid hNF
    have HNS := Lib.hid hNS
    subst hu9
    clear hown9 hsr hNF hNS
    obtain ⟨hi1, hi2, hi3, hi4⟩ := HI.out
    go_wp2_with (at_builtin; refine wpList_append_own _ rfl _ _ 81 rfl w2.heap.size 106 ei _ 5 32 undFls hi1 hi2 hi3 hi4 rfl (by decide) u8 NF (flCells (firstR D L s)) rfl hfr ⟨g9, 0, none⟩ NS c9 (flCells (secondR D L s)) rfl ?e1 ?e2 ?e3 ?e4 ?e5 ?e6 ?e7)
    case e1 => rw [flCells_len, HNS.out]
    case e2 => exact HOW9.out
    case e3 => exact flCells_one
    case e4 => simp only [maxLen]; omega
    case e5 => omega
    case e6 => omega
    case e7 =>
     rintro v10 w7 hown hgrow -
     have hall : allR D s hf7 = firstR D L s ++ secondR D L s := by rw [allR_is, <- HLL.out]
     have hrow : w7.ownsRow w2.heap.size 106 5 v10 (allR D s hf7).length (flCells (allR D s hf7)) := by
      rw [hall, List.length_append, <- HNF.out, <- HNS.out, flCells_append]
      exact hown
     have hbw : Below w.heap.size w w7 := HS.out.bel.trans ((below_row hfr HZ.out hgrow).mono (by have := HS.out.bB; omega))
     have hlen : 1 <= (allR D s hf7).length := by rw [hall, List.length_append, <- HNF.out, <- HNS.out]; omega
     obtain ⟨gz, hz1, hz2⟩ := leaves_of_row hrow hlen
     rw [<- HL.out] at hz1
     have HZ1 := Lib.hid hz1
     have HBW := Lib.hid hbw
     have hz4 : w.heap.size <= gz := by have := HS.out.bB; omega
     clear hown hgrow hfr hi1 hi2 hi3 hi4 hz1 hrow hbw hall hlen
     go_wp2_with fail
     go_ret
     exact ⟨⟨_, gz, rfl, HZ1.out, hz4⟩, HBW.out⟩
end
section
set_option linter.unusedSimpArgs false
set_option linter.unusedVariables false
open Go Go.RowKit Go.Sort Go.BigFrame
theorem markB_is (co ro h : Nat) (x : Fl) : markB co ro h x = (inI (4 * x.col) (4 * x.col + 4) ((co : Int) * (1 + 2 * h)) && inI (2 * x.row) (2 * x.row + 2) ro) := by
 unfold markB touchB inI
 rw [Bool.eq_iff_iff]
 simp only [Bool.and_eq_true, decide_eq_true_eq]
 rw [Int.mul_comm (co : Int)]
 constructor
 · rintro ⟨⟨h1, h2⟩, h3, h4⟩
   refine ⟨⟨h1, ?_⟩, ?_, ?_⟩ <;> omega
 · rintro ⟨⟨h1, h2⟩, h3, h4⟩
   refine ⟨⟨h1, ?_⟩, ?_, ?_⟩ <;> omega
abbrev flA (x : Fl) : Value := .agg #[.int .i64 x.sheet, .int .i64 x.col, .int .i64 x.row, .bool x.inner, .bool x.turned]
theorem refHasM_any (p : Prs) (m : Mkw) (f : Fmt) (x : Fl) (h : Nat) (vp : Value) (w : World) (hp : PrsAt w.heap.size w vp p) (he : errP p = 0) (hm : mkwErr p m = 0) (hf : p.fmts[m.fmt.toNat]? = some f) (hc : x.col < 16) (hr : x.row < 16) (hh : h <= 1) :
  Calls Tryz.prog 82 #[vp, mkwV m, flA x, .int .i64 h] w fun e w' => e = .returned (.bool (markB (colsF (fdsB f.folds)) (rowsF (fdsB f.folds)) h x)) /\ Below w.heap.size w w' := by
 have FN := Lib.hid (fine_of he hm hf)
 obtain ⟨hfm0, hfm1, -, -⟩ := fine_at he hm
 obtain ⟨fv, pv, rfl, ⟨a, cap, rfl, hfc⟩, ⟨a2, cap2, rfl, -⟩, -⟩ := hp
 obtain ⟨n1, hn1⟩ : ∃ n, n = p.fmts.length := ⟨_, rfl⟩
 obtain ⟨n2, hn2⟩ : ∃ n, n = p.pprs.length := ⟨_, rfl⟩
 obtain ⟨b', off, rfl, hb', hc'⟩ := hfc (fun h => by rw [h] at hf; simp at hf)
 have q1 : w.cell? ⟨b', off + m.fmt.toNat * 2 + 1, none⟩ = some (S f.folds) := by have := hc' _ f hf 1 _ rfl; simpa using this
 rw [<- hn1] at hfm1
 rw [<- hn1, <- hn2]
 obtain ⟨D, hD⟩ : ∃ D, D = fdsB f.folds := ⟨_, rfl⟩
 have hDl : D.length = f.folds.length := by rw [hD]; unfold fdsB; simp
 have hback : bytesF D = f.folds := by rw [hD]; exact FN.out.back
 have hD1 : 1 <= D.length := by rw [hDl]; exact FN.out.len1
 have hD4 : D.length <= 4 := by rw [hDl]; exact FN.out.len4
 have hcr : colsF D <= 16 /\ rowsF D <= 16 := by
  have h1 := pows_all D (allFolds_mem hD1 hD4)
  simp only [pows, List.mem_cons, List.not_mem_nil, or_false] at h1
  omega
 have HTX := Lib.hid (fun W => refTimesX hD1 hD4 W)
 have HTY := Lib.hid (fun W => refTimesY hD1 hD4 W)
 rw [hback] at HTX HTY
 rw [<- hD]
 obtain ⟨fm, pp, sh, hf7⟩ := m
 obtain ⟨fi, hfi⟩ : ∃ fi : Nat, fm = fi := ⟨fm.toNat, by dsimp only at hfm0; omega⟩
 subst hfi
 dsimp only [Int.toNat_natCast] at *
 obtain ⟨CO, hCO⟩ : ∃ c, c = colsF D := ⟨_, rfl⟩
 obtain ⟨RO, hRO⟩ : ∃ c, c = rowsF D := ⟨_, rfl⟩
 rw [<- hCO, <- hRO] at hcr ⊢
 rw [<- hCO] at HTX
 rw [<- hRO] at HTY
 have HMB := Lib.hid (markB_is CO RO h x)
 rw [HMB.out]
 obtain ⟨z1, hz1⟩ : ∃ z, z = inI (4 * (x.col : Int)) (4 * x.col + 4) ((CO : Int) * (1 + 2 * h)) := ⟨_, rfl⟩
 obtain ⟨z2, hz2⟩ : ∃ z, z = inI (2 * (x.row : Int)) (2 * x.row + 2) RO := ⟨_, rfl⟩
 rw [<- hz1, <- hz2]
 have HZ1 := Lib.hid hz1
 have HZ2 := Lib.hid hz2
 clear hz1 hz2 hCO hRO hD hDl hback FN hc' hf he hm hfc hn1 hn2 HMB
 obtain ⟨hcr1, hcr2⟩ := hcr
 obtain ⟨P, hP⟩ : ∃ P : Int, P = (CO : Int) * (1 + 2 * h) := ⟨_, rfl⟩
 have hPb : 0 <= P /\ P <= 48 := by
  obtain rfl | rfl : h = 0 ∨ h = 1 := by omega
  all_goals (rw [hP]; simp; omega)
 have HZ1 : Hid (z1 = inI (4 * (x.col : Int)) (4 * x.col + 4) P) := Lib.hid (by rw [hP]; exact HZ1.out)
 have e1 : ((CO : Int) * (1 + 2 * (h : Int))) = P := hP.symm
 have e2 : wrap64 P = P := by
  unfold wrap64
  omega
 clear hP
 have hb3 : Below w.heap.size w (((w.alloc (.cells #[.slice (some ⟨b', off, none⟩) n1 cap, .slice a2 n2 cap2, .int .i64 p.trim, .int .i64 p.sheets] 25)).alloc (.cells #[.int .i64 fi, .int .i64 pp, .int .i64 sh, .bool hf7] 50)).alloc (.cells #[.int .i64 x.sheet, .int .i64 x.col, .int .i64 x.row, .bool x.inner, .bool x.turned] 106)) := by exact (by repeat (first | exact Below.refl _ _ | assumption | (refine Below.alloc ?_ ?_ _; rotate_left; · (first | omega | (simp; done) | (simp; omega) | fail)) | (refine Below.setCell ?_ ?_ _; rotate_left; · (first | omega | (simp; done) | (simp; omega) | fail)) | refine Below.drew ?_ | fail))
 have q2 := cell_later' hb3 q1
 have hx3 : (((w.alloc (.cells #[.slice (some ⟨b', off, none⟩) n1 cap, .slice a2 n2 cap2, .int .i64 p.trim, .int .i64 p.sheets] 25)).alloc (.cells #[.int .i64 fi, .int .i64 pp, .int .i64 sh, .bool hf7] 50)).alloc (.cells #[.int .i64 x.sheet, .int .i64 x.col, .int .i64 x.row, .bool x.inner, .bool x.turned] 106)).heap[w.heap.size + 1 + 1]? = some (.cells #[.int .i64 x.sheet, .int .i64 x.col, .int .i64 x.row, .bool x.inner, .bool x.turned] 106 (0, 0)) := by exact (by repeat (first | exact heap_alloc_at _ _ _ (by (first | omega | (simp; done) | (simp; omega) | (simp at *; omega) | fail)) | assumption | rw [heap_alloc_past _ _ _ (by (first | omega | (simp; done) | (simp; omega) | (simp at *; omega) | fail))] | rw [heap_setCell_past _ _ _ _ (by (first | omega | (simp; done) | (simp; omega) | (simp at *; omega) | fail))] | fail))
 have HB3 := Lib.hid hb3
 have HX3 := Lib.hid hx3
 clear hx3 hb3
 go_enter Tryz.func82, Tryz.ntmps82
 go_wp2_with fail
 refine (HTX.out _).mono ?_
 rintro e w4 ⟨rfl, hb⟩
 have HB4 := Lib.hid (HB3.out.trans (hb.mono HB3.out.size))
 have HX4 := Lib.hid (blk_later hb HX3.out)
 clear hb HX3 HB3 q1 q2
 go_wp2_with fail
 refine (HTY.out _).mono ?_
 rintro e w5 ⟨rfl, hb⟩
 have HB5 := Lib.hid (HB4.out.trans (hb.mono HB4.out.size))
 have hx5 := blk_later hb HX4.out
 have HX5 := Lib.hid hx5
 clear hb HX4 HB4
 have c0 := blk_cell hx5 0
 have c1 := blk_cell hx5 1
 have c2 := blk_cell hx5 2
 have c3 := blk_cell hx5 3
 have c4 := blk_cell hx5 4
 clear hx5
 go_wp2_with fail
 refine (in2_is P (4 * (x.col : Int)) (4 * x.col + 4) z1 HZ1.out _).mono ?_
 rintro e w6 ⟨rfl, hb⟩
 have HB6 := Lib.hid (HB5.out.trans (hb.mono HB5.out.size))
 have hx6 := blk_later hb HX5.out
 clear hb HX5 HB5 c0 c1 c2 c3 c4
 have c0 := blk_cell hx6 0
 have c1 := blk_cell hx6 1
 have c2 := blk_cell hx6 2
 have c3 := blk_cell hx6 3
 have c4 := blk_cell hx6 4
 clear hx6
 cases z1 with
 | false =>
   go_wp2_with fail
   go_ret
   exact ⟨rfl, HB6.out⟩
 | true =>
   go_wp2_with fail
   refine (in2_is RO (2 * (x.row : Int)) (2 * x.row + 2) z2 HZ2.out _).mono ?_
   rintro e w7 ⟨rfl, hb⟩
   have HB7 := Lib.hid (HB6.out.trans (hb.mono HB6.out.size))
   clear hb HB6 c0 c1 c2 c3 c4
   go_wp2_with fail
   go_ret
   exact ⟨by simp, HB7.out⟩
end
end Go.Proofs.YtpdhdgdbknnllaaGreatDoor
