/- The parts Xb, Hi, Hh, Hj, Ha, Hk, Hb, He of the proof, joined. It holds without conditions of its own. -/
import Derived.Test.YtpdhdgdbknnllaaGreatDoorFX23
import Derived.Test.YtpdhdgdbknnllaaGreatDoorFX27
import Derived.Test.YtpdhdgdbknnllaaGreatDoorFX28
import Derived.Test.YtpdhdgdbknnllaaGreatDoorFX9
import Derived.Test.YtpdhdgdbknnllaaGreatDoorFX10
import Derived.Test.YtpdhdgdbknnllaaGreatDoorFX19
import Derived.Test.YtpdhdgdbknnllaaGreatDoorFX14
import Derived.Deep.OwnRows
set_option maxRecDepth 100000
set_option maxHeartbeats 20000000
namespace Go.Proofs.YtpdhdgdbknnllaaGreatDoor
section
set_option linter.unusedSimpArgs false
set_option linter.unusedVariables false
open Go Go.RowKit Go.Sort Go.BigFrame
theorem free2_any (w : World) : Calls Tryz.prog 45 #[] w fun e w' => e = .returned (.agg #[.int .i64 0, .int .i64 2000]) /\ Below w.heap.size w w' := by
 go_enter Tryz.func45, Tryz.ntmps45
 go_wp2_with fail
 refine (span2_any 0 2000 _).mono ?_
 rintro e w1 ⟨rfl, hb1⟩
 have x0 := blk_later hb1 (World.alloc_heap_new w (.cells #[.int .i64 0, .int .i64 0] 27))
 have c0 := blk_cell x0 0
 have c1 := blk_cell x0 1
 have f0 := blk_free x0 0
 have f1 := blk_free x0 1
 have hb2 : Below w.heap.size w w1 := ((Below.refl _ _).alloc (Nat.le_refl _) _).trans (hb1.mono (by simp))
 go_wp2_with fail
 have y0 := blk_cell (blk_set (blk_set x0 0 (.int .i64 0)) 1 (.int .i64 2000)) 0
 have y1 := blk_cell (blk_set (blk_set x0 0 (.int .i64 0)) 1 (.int .i64 2000)) 1
 exact bodyPost_ret (v := .agg #[.int .i64 0, .int .i64 2000]) (by simp [results, Tryz.results45, go_sem, y0, y1]) rfl ⟨rfl, (hb2.setCell (Nat.le_refl _) _).setCell (Nat.le_refl _) _⟩
theorem without_any (b : Bok) (mo : Option Addr) (mc : Nat) (xs : List Int) (vx : Value) (w : World) (hb : RowsAt 2 mrkV w.heap.size w (.slice mo b.marks.length mc) b.marks) (h8 : b.marks.length <= 8) (hx : IntsAt w vx xs) (hl : xs.length < 1000000) :
  Calls Tryz.prog 23 #[.agg #[.int .i64 b.leaves, .int .i64 b.chain, .int .i64 b.wlo, .int .i64 b.whi, .int .i64 b.hlo, .int .i64 b.hhi, .slice mo b.marks.length mc], vx] w fun e w' =>
   (∃ mk, e = .returned (.agg #[.int .i64 (woB b fun i => decide ((i : Int) ∈ xs)).leaves, .int .i64 (woB b fun i => decide ((i : Int) ∈ xs)).chain, .int .i64 (woB b fun i => decide ((i : Int) ∈ xs)).wlo, .int .i64 (woB b fun i => decide ((i : Int) ∈ xs)).whi, .int .i64 (woB b fun i => decide ((i : Int) ∈ xs)).hlo, .int .i64 (woB b fun i => decide ((i : Int) ∈ xs)).hhi, mk]) /\
    RowsAt 2 mrkV w'.heap.size w' mk (woB b fun i => decide ((i : Int) ∈ xs)).marks) /\ Below w.heap.size w w' := by
 have HM := Lib.hid hb
 have HX := Lib.hid hx
 obtain ⟨xa, xc, rfl, -⟩ := hx
 obtain ⟨N, hN⟩ : ∃ n, n = b.marks.length := ⟨_, rfl⟩
 obtain ⟨XN, hXN⟩ : ∃ n, n = xs.length := ⟨_, rfl⟩
 have HN := Lib.hid hN
 have HXN := Lib.hid hXN
 rw [<- hN] at HM h8 ⊢
 rw [<- hXN] at HX hl ⊢
 clear hN hXN
 go_enter Tryz.func23, Tryz.ntmps23
 go_wp2_with fail
 obtain ⟨w1, hw1⟩ : ∃ w1, w1 = (((w.alloc (.cells #[.int .i64 b.leaves, .int .i64 b.chain, .int .i64 b.wlo, .int .i64 b.whi, .int .i64 b.hlo, .int .i64 b.hhi, .slice mo N mc] 30)).alloc (.cells #[.int .i64 0, .int .i64 0, .int .i64 0, .int .i64 0, .int .i64 0, .int .i64 0, .slice none 0 0] 30)).alloc (.cells #[.int .i64 b.leaves, .int .i64 b.chain, .int .i64 b.wlo, .int .i64 b.whi, .int .i64 b.hlo, .int .i64 b.hhi, .slice none 0 0] 30)) := ⟨_, rfl⟩
 have hb1 : Below w.heap.size w w1 := by rw [hw1]; exact (by repeat (first | exact Below.refl _ _ | assumption | (refine Below.alloc ?_ ?_ _; rotate_left; · (first | omega | (simp; done) | (simp; omega) | fail)) | (refine Below.setCell ?_ ?_ _; rotate_left; · (first | omega | (simp; done) | (simp; omega) | fail)) | refine Below.drew ?_ | fail))
 have x1 : w1.heap[w.heap.size]? = some (.cells #[.int .i64 b.leaves, .int .i64 b.chain, .int .i64 b.wlo, .int .i64 b.whi, .int .i64 b.hlo, .int .i64 b.hhi, .slice mo N mc] 30 (0, 0)) := by rw [hw1]; exact (by repeat (first | exact heap_alloc_at _ _ _ (by (first | omega | (simp; done) | (simp; omega) | (simp at *; omega) | fail)) | assumption | rw [heap_alloc_past _ _ _ (by (first | omega | (simp; done) | (simp; omega) | (simp at *; omega) | fail))] | rw [heap_setCell_past _ _ _ _ (by (first | omega | (simp; done) | (simp; omega) | (simp at *; omega) | fail))] | fail))
 have x2 : w1.heap[w.heap.size + 1]? = some (.cells #[.int .i64 0, .int .i64 0, .int .i64 0, .int .i64 0, .int .i64 0, .int .i64 0, .slice none 0 0] 30 (0, 0)) := by rw [hw1]; exact (by repeat (first | exact heap_alloc_at _ _ _ (by (first | omega | (simp; done) | (simp; omega) | (simp at *; omega) | fail)) | assumption | rw [heap_alloc_past _ _ _ (by (first | omega | (simp; done) | (simp; omega) | (simp at *; omega) | fail))] | rw [heap_setCell_past _ _ _ _ (by (first | omega | (simp; done) | (simp; omega) | (simp at *; omega) | fail))] | fail))
 have x3 : w1.heap[w.heap.size + 1 + 1]? = some (.cells #[.int .i64 b.leaves, .int .i64 b.chain, .int .i64 b.wlo, .int .i64 b.whi, .int .i64 b.hlo, .int .i64 b.hhi, .slice none 0 0] 30 (0, 0)) := by rw [hw1]; exact (by repeat (first | exact heap_alloc_at _ _ _ (by (first | omega | (simp; done) | (simp; omega) | (simp at *; omega) | fail)) | assumption | rw [heap_alloc_past _ _ _ (by (first | omega | (simp; done) | (simp; omega) | (simp at *; omega) | fail))] | rw [heap_setCell_past _ _ _ _ (by (first | omega | (simp; done) | (simp; omega) | (simp at *; omega) | fail))] | fail))
 rw [<- hw1]
 clear hw1
 have HB1 := Lib.hid hb1
 have X1 := Lib.hid x1
 have X2 := Lib.hid x2
 have X3 := Lib.hid x3
 clear hb1 x1 x2 x3
 obtain ⟨t0, ht0⟩ : ∃ z, z = decide ((0 : Int) ∈ xs) := ⟨_, rfl⟩
 obtain ⟨t1, ht1⟩ : ∃ z, z = decide ((1 : Int) ∈ xs) := ⟨_, rfl⟩
 obtain ⟨t2, ht2⟩ : ∃ z, z = decide ((2 : Int) ∈ xs) := ⟨_, rfl⟩
 have HT0 := Lib.hid ht0
 have HT1 := Lib.hid ht1
 have HT2 := Lib.hid ht2
 have HTT := Lib.hid (And.intro ht0 (And.intro ht1 ht2))
 clear ht0 ht1 ht2
 rename_i K2 hK2 K1 hK1 K0 hK0
 have J : ∀ (a' : Act) (ch : Int) (W : World), a' = ⟨#[.agg #[.int .i64 b.leaves, .int .i64 b.chain, .int .i64 b.wlo, .int .i64 b.whi, .int .i64 b.hlo, .int .i64 b.hhi, .slice mo N mc], .slice xa XN xc, .pointer (some ⟨w.heap.size, 0, none⟩), undef, .pointer (some ⟨w.heap.size + 1, 0, none⟩), .pointer (some ⟨w.heap.size + 1 + 1, 0, none⟩), undef, .agg #[.int .i64 b.leaves, .int .i64 b.chain, .int .i64 b.wlo, .int .i64 b.whi, .int .i64 b.hlo, .int .i64 b.hhi, .slice mo N mc], .pointer (some ⟨w.heap.size + 1 + 1, 6, none⟩), slotA a' 9, slotA a' 10, slotA a' 11, undef, undef, undef, undef, undef, undef, undef, undef, undef, undef, undef, undef, undef, undef, undef, undef, undef, undef, undef, undef, undef, undef, undef, undef, undef, undef, undef, undef, undef, undef, undef], []⟩ -> ch = (if t0 then 0 else b.chain) -> Below (w.heap.size + 1 + 1) w1 W -> W.heap[w.heap.size + 1 + 1]? = some (.cells #[.int .i64 b.leaves, .int .i64 ch, .int .i64 b.wlo, .int .i64 b.whi, .int .i64 b.hlo, .int .i64 b.hhi, .slice none 0 0] 30 (0, 0)) -> K2 a' W := by
  intro a' ch W ha' hch hbW hcW
  generalize slotA a' = r1 at ha'
  subst ha'
  refine hK2 _ _ ?_
  have HCH := Lib.hid hch
  have HBW := Lib.hid hbW
  have HCW := Lib.hid hcW
  clear hK2 hK1 hK0 hch hbW hcW
  go_wp2_with fail
  rename_i K2 hK2 K1 hK1 K0 hK0
  have J2 : ∀ (a' : Act) (c1 c2 : Int) (W : World), a' = ⟨#[.agg #[.int .i64 b.leaves, .int .i64 b.chain, .int .i64 b.wlo, .int .i64 b.whi, .int .i64 b.hlo, .int .i64 b.hhi, .slice mo N mc], .slice xa XN xc, .pointer (some ⟨w.heap.size, 0, none⟩), undef, .pointer (some ⟨w.heap.size + 1, 0, none⟩), .pointer (some ⟨w.heap.size + 1 + 1, 0, none⟩), undef, .agg #[.int .i64 b.leaves, .int .i64 b.chain, .int .i64 b.wlo, .int .i64 b.whi, .int .i64 b.hlo, .int .i64 b.hhi, .slice mo N mc], .pointer (some ⟨w.heap.size + 1 + 1, 6, none⟩), r1 9, r1 10, r1 11, slotA a' 12, slotA a' 13, slotA a' 14, slotA a' 15, undef, undef, undef, undef, undef, undef, undef, undef, undef, undef, undef, undef, undef, undef, undef, undef, undef, undef, undef, undef, undef, undef, undef, undef, undef, undef, undef], []⟩ -> c1 = (if t1 then 0 else b.wlo) -> c2 = (if t1 then 2000 else b.whi) -> Below (w.heap.size + 1 + 1) w1 W -> W.heap[w.heap.size + 1 + 1]? = some (.cells #[.int .i64 b.leaves, .int .i64 ch, .int .i64 c1, .int .i64 c2, .int .i64 b.hlo, .int .i64 b.hhi, .slice none 0 0] 30 (0, 0)) -> K2 a' W := by
   intro a' c1 c2 W ha' hc1 hc2 hbW hcW
   generalize slotA a' = r2 at ha'
   subst ha'
   refine hK2 _ _ ?_
   have HC1 := Lib.hid hc1
   have HC2 := Lib.hid hc2
   have HBW := Lib.hid hbW
   have HCW := Lib.hid hcW
   clear hK2 hK1 hK0 hc1 hc2 hbW hcW
   go_wp2_with fail
   rename_i K2 hK2 K1 hK1 K0 hK0
   have J3 : ∀ (a' : Act) (d1 d2 : Int) (W : World), a' = ⟨#[.agg #[.int .i64 b.leaves, .int .i64 b.chain, .int .i64 b.wlo, .int .i64 b.whi, .int .i64 b.hlo, .int .i64 b.hhi, .slice mo N mc], .slice xa XN xc, .pointer (some ⟨w.heap.size, 0, none⟩), undef, .pointer (some ⟨w.heap.size + 1, 0, none⟩), .pointer (some ⟨w.heap.size + 1 + 1, 0, none⟩), undef, .agg #[.int .i64 b.leaves, .int .i64 b.chain, .int .i64 b.wlo, .int .i64 b.whi, .int .i64 b.hlo, .int .i64 b.hhi, .slice mo N mc], .pointer (some ⟨w.heap.size + 1 + 1, 6, none⟩), r1 9, r1 10, r1 11, r2 12, r2 13, r2 14, r2 15, slotA a' 16, slotA a' 17, slotA a' 18, slotA a' 19, undef, undef, undef, undef, undef, undef, undef, undef, undef, undef, undef, undef, undef, undef, undef, undef, undef, undef, undef, undef, undef, undef, undef], []⟩ -> d1 = (if t2 then 0 else b.hlo) -> d2 = (if t2 then 2000 else b.hhi) -> Below (w.heap.size + 1 + 1) w1 W -> W.heap[w.heap.size + 1 + 1]? = some (.cells #[.int .i64 b.leaves, .int .i64 ch, .int .i64 c1, .int .i64 c2, .int .i64 d1, .int .i64 d2, .slice none 0 0] 30 (0, 0)) -> K2 a' W := by
    intro a' d1 d2 W ha' hd1 hd2 hbW hcW
    generalize slotA a' = r3 at ha'
    subst ha'
    refine hK2 _ _ ?_
    have HD1 := Lib.hid hd1
    have HD2 := Lib.hid hd2
    have HBW := Lib.hid hbW
    have HCW := Lib.hid hcW
    clear hK2 hK1 hK0 hd1 hd2 hbW hcW
    go_wp2_with fail
    have HWW : Hid (Below w.heap.size w W) := Lib.hid (HB1.out.trans (HBW.out.mono (by omega)))
    have hcl := blk_lt HCW.out
    have HS0 : Hid (TdSt W W (w.heap.size + 1 + 1) b.leaves ch c1 c2 d1 d2 (.slice none 0 0) []) := Lib.hid ⟨OnlyIn.refl _ _, HCW.out, World.ownsRow_nil _ _ _ _, hcl⟩
    have Y1 := Lib.hid ((HBW.out.block _ (show w.heap.size < w.heap.size + 1 + 1 by omega)).trans X1.out)
    have Y2 := Lib.hid ((HBW.out.block _ (show w.heap.size + 1 < w.heap.size + 1 + 1 by omega)).trans X2.out)
    obtain ⟨tt, htt⟩ : ∃ f : Nat -> Bool, f = fun (i : Nat) => decide ((i : Int) ∈ xs) := ⟨_, rfl⟩
    have HTF := Lib.hid htt
    clear htt
    go_loopw [6] (fun j wr => ∃ (k : Nat) (v : Value), k <= N /\ j = .int .i64 k /\ Hid (TdSt W wr (w.heap.size + 1 + 1) b.leaves ch c1 c2 d1 d2 v (woM tt (b.marks.take k)))) (fun j _ => N - (intOf j).toNat)
    case atStart => exact ⟨0, .slice none 0 0, by omega, rfl, HS0⟩
    case round =>
     clear HS0
     obtain ⟨k, v, hk, rfl, HS⟩ := hrel
     have g1 := HS.out.blk (show w.heap.size < W.heap.size by omega) (by omega) Y1.out
     have p6 := blk_cell g1 6
     have HBR := Lib.hid (HS.out.below HWW.out (show w.heap.size <= w.heap.size + 1 + 1 by omega))
     by_cases hlt : k < N
     · go_wp2_with fail
       have hx3 := refHas_any xs (.slice xa XN xc) (3 + (k : Int)) wr (HX.out.later HBR.out) (by have := HXN.out; omega)
       refine hx3.mono ?_
       rintro e Wn ⟨rfl, rfl⟩
       obtain ⟨tk, htk⟩ : ∃ z, z = decide ((3 + (k : Int)) ∈ xs) := ⟨_, rfl⟩
       rw [<- htk]
       have HTK : Hid (tt (3 + k) = tk) := Lib.hid (by rw [HTF.out, htk]; show decide (((3 + k : Nat) : Int) ∈ xs) = _; rw [show ((3 + k : Nat) : Int) = 3 + (k : Int) by omega])
       obtain ⟨x, hx⟩ : ∃ x, b.marks[k]? = some x := ⟨_, List.getElem?_eq_getElem (by rw [<- HN.out]; exact hlt)⟩
       have HXK := Lib.hid hx
       clear hx3 htk hx
       cases tk with
       | true =>
         go_wp2_with fail
         go_roundw
         case rel =>
          refine ⟨k + 1, v, by omega, by go_num, ?_⟩
          rw [wo_step tt _ k x HXK.out, HTK.out]
          simpa using HS
         case measure => exact loop_less hlt
       | false =>
         obtain ⟨am, capm, e, hc⟩ := id HM.out
         simp only [Value.slice.injEq] at e
         obtain ⟨e1, -, -⟩ := e
         obtain ⟨mb, moff, e2, hmb, hcc⟩ := hc (by intro h0; have := HXK.out; rw [h0] at this; cases this)
         rw [e2] at e1
         subst e1
         go_wp2_with fail
         have HT : Hid (TdSt W Wn.drew (w.heap.size + 1 + 1) b.leaves ch c1 c2 d1 d2 v (woM tt (b.marks.take k))) := Lib.hid (HS.out.later (Below.drew (Below.refl _ _)))
         have hs1 : w.heap.size < W.heap.size := by omega
         have hs2 : w.heap.size ≠ w.heap.size + 1 + 1 := by omega
         have hs3 : mb < W.heap.size := by omega
         have hs4 : mb ≠ w.heap.size + 1 + 1 := by omega
         have HSS : Hid (∀ u : World, (∀ k, k < W.heap.size -> k ≠ w.heap.size + 1 + 1 -> u.heap[k]? = W.heap[k]?) -> u.cell? ⟨w.heap.size, 6, none⟩ = some (.slice (some ⟨mb, moff, none⟩) N mc) /\ u.cell? ⟨mb, moff + k * 2, none⟩ = some (.int .i64 x.1) /\ u.cell? ⟨mb, moff + k * 2 + 1, none⟩ = some (.bool x.2)) := Lib.hid (fun u h => ⟨(World.cell?_of_block (h _ hs1 hs2)).trans (blk_cell Y1.out 6), (World.cell?_of_block ((h _ hs3 hs4).trans (HWW.out.block _ hmb))).trans (hcc k x HXK.out 0 _ rfl), (World.cell?_of_block ((h _ hs3 hs4).trans (HWW.out.block _ hmb))).trans (hcc k x HXK.out 1 _ rfl)⟩)
         obtain ⟨ei, hi1, hi2, hi3, hi4⟩ := elemMrk
         have HI := Lib.hid (And.intro hi1 (And.intro hi2 (And.intro hi3 hi4)))
         obtain ⟨ML, hML⟩ : ∃ n, n = (woM tt (b.marks.take k)).length := ⟨_, rfl⟩
         have hml8 : ML <= 8 := by have := wo_len tt (b.marks.take k); rw [<- hML, List.length_take] at this; omega
         have HML := Lib.hid (And.intro hML hml8)
         clear hi1 hi2 hi3 hi4 hML hs1 hs2 hs3 hs4 hc hcc e2 p6 g1
         refine wp_region_held_drew (S := fun u => u.cell? ⟨w.heap.size, 6, none⟩ = some (.slice (some ⟨mb, moff, none⟩) N mc) /\ u.cell? ⟨mb, moff + k * 2, none⟩ = some (.int .i64 x.1) /\ u.cell? ⟨mb, moff + k * 2 + 1, none⟩ = some (.bool x.2)) (by kernel_rfl) (HSS.out _ fun k h1 h2 => HT.out.only.block k h1 h2) (fun hHeld => ?_)
         generalize Wn.drew = wd at hHeld HT ⊢
         refine wpAnyH_take (i := 0) (v := ?_) rfl (by kernel_rfl) (by kernel_rfl) (by kernel_rfl) (fun _ _ _ h => h) (Or.inl ⟨by rfl, ?_⟩) (by assumption) ?_
         rotate_left
         · (intro w hSw; (try dsimp only at hSw); (try simp only [List.getElem_toArray, List.getElem_cons_zero, List.getElem_cons_succ]); go_simp; (try with_reducible rfl))
         (try simp only [List.getElem_toArray, List.getElem_cons_zero, List.getElem_cons_succ, Act.put, List.setIfInBounds_toArray, List.set_cons_zero, List.set_cons_succ])
         refine wpAnyH_take (i := 2) (v := ?_) rfl (by kernel_rfl) (by kernel_rfl) (by kernel_rfl) (fun _ _ _ h => h) (Or.inl ⟨by rfl, ?_⟩) (by assumption) ?_
         rotate_left
         · (intro w hSw; (try dsimp only at hSw); (try simp only [List.getElem_toArray, List.getElem_cons_zero, List.getElem_cons_succ]); go_simp; (try with_reducible rfl))
         (try simp only [List.getElem_toArray, List.getElem_cons_zero, List.getElem_cons_succ, Act.put, List.setIfInBounds_toArray, List.set_cons_zero, List.set_cons_succ])
         refine wpAnyH_take (i := 3) (v := ?_) rfl (by kernel_rfl) (by kernel_rfl) (by kernel_rfl) (fun _ _ _ h => h) (Or.inl ⟨by rfl, ?_⟩) (by assumption) ?_
         rotate_left
         · (intro w hSw; (try dsimp only at hSw); (try simp only [List.getElem_toArray, List.getElem_cons_zero, List.getElem_cons_succ]); go_simp; (try with_reducible rfl))
         (try simp only [List.getElem_toArray, List.getElem_cons_zero, List.getElem_cons_succ, Act.put, List.setIfInBounds_toArray, List.set_cons_zero, List.set_cons_succ])
         refine wpAnyH_take (i := 4) (v := ?_) rfl (by kernel_rfl) (by kernel_rfl) (by kernel_rfl) (fun _ _ _ h => h) (Or.inl ⟨by rfl, ?_⟩) (by assumption) ?_
         rotate_left
         · (intro w hSw; (try dsimp only at hSw); (try simp only [List.getElem_toArray, List.getElem_cons_zero, List.getElem_cons_succ]); go_simp; (try with_reducible rfl))
         (try simp only [List.getElem_toArray, List.getElem_cons_zero, List.getElem_cons_succ, Act.put, List.setIfInBounds_toArray, List.set_cons_zero, List.set_cons_succ])
         refine wpAnyH_take (i := 5) (v := ?_) rfl (by kernel_rfl) (by kernel_rfl) (by kernel_rfl) (fun _ _ _ h => h) (Or.inl ⟨by rfl, ?_⟩) (by assumption) ?_
         rotate_left
         · (intro w hSw; (try dsimp only at hSw); (try simp only [List.getElem_toArray, List.getElem_cons_zero, List.getElem_cons_succ]); go_simp; (try with_reducible rfl))
         (try simp only [List.getElem_toArray, List.getElem_cons_zero, List.getElem_cons_succ, Act.put, List.setIfInBounds_toArray, List.set_cons_zero, List.set_cons_succ])
         refine wpAnyH_take (i := 6) (v := ?_) rfl (by kernel_rfl) (by kernel_rfl) (by kernel_rfl) (fun _ _ _ h => h) (Or.inl ⟨by rfl, ?_⟩) (by assumption) ?_
         rotate_left
         · (intro w hSw; (try dsimp only at hSw); (try simp only [List.getElem_toArray, List.getElem_cons_zero, List.getElem_cons_succ]); go_simp; (try with_reducible rfl))
         (try simp only [List.getElem_toArray, List.getElem_cons_zero, List.getElem_cons_succ, Act.put, List.setIfInBounds_toArray, List.set_cons_zero, List.set_cons_succ])
         refine wpAnyH_ready (rs := [1, 7]) (by kernel_rfl) (by simp) ?_
         refine AllReadyH.cons rfl (fun K hK => ?_) ?_
         · skip
           have cl := blk_cell HT.out.box 6
           go_simp
           clear cl
           refine hK.out _ _ ?_ (fun hNew => ?_)
           · exact HSS.out _ (fun k h1 h2 => HT.out.only.block k h1 h2)
           clear hK K hHeld
           have hHeld := hNew
           clear hNew
           (try simp only [List.getElem_toArray, List.getElem_cons_zero, List.getElem_cons_succ, Act.put, List.setIfInBounds_toArray, List.set_cons_zero, List.set_cons_succ])
           refine wpAnyH_ready (rs := [7]) (by kernel_rfl) (by simp) ?_
           refine AllReadyH.cons rfl (fun K hK => ?_) AllReadyH.nil
           go_simp
           obtain ⟨u2, hu2⟩ : ∃ v, v = (wd).alloc (.cells #[.int .i64 x.1, .bool x.2] 58) := ⟨_, rfl⟩
           have hbu : Below (wd).heap.size wd u2 := by rw [hu2]; exact (Below.refl _ _).alloc (Nat.le_refl _) _
           have hc5 : (u2).heap[(wd).heap.size]? = some (.cells #[.int .i64 x.1, .bool x.2] 58 (0, 0)) := by rw [hu2]; exact World.alloc_heap_new _ _
           rw [<- hu2]
           have HT := Lib.hid (HT.out.later hbu)
           generalize (wd).heap.size = gb at hc5 ⊢
           have C5 := Lib.hid hc5
           clear hu2 hbu hc5
           refine hK.out _ _ ?_ (fun hNew => ?_)
           · exact HSS.out _ (fun k h1 h2 => HT.out.only.block k h1 h2)
           clear hK K hHeld
           have hHeld := hNew
           clear hNew
           (try simp only [List.getElem_toArray, List.getElem_cons_zero, List.getElem_cons_succ, Act.put, List.setIfInBounds_toArray, List.set_cons_zero, List.set_cons_succ])
           refine wpAnyH_ready (rs := [8]) (by kernel_rfl) (by simp) ?_
           refine AllReadyH.cons rfl (fun K hK => ?_) AllReadyH.nil
           obtain ⟨hi1, hi2, hi3, hi4⟩ := HI.out
           obtain ⟨v6, u3, hr6, hown6, hg6, -⟩ := run_append_own (P := Tryz.prog) u2 W.heap.size 28 28 58 ei _ 2 16 undMrks hi1 hi2 hi3 hi4 rfl (by decide) v _ _ HT.out.row ⟨gb, 0, none⟩ 1 1 [.int .i64 x.1, .bool x.2] rfl
            (fun j y hju => by
             rw [add_offi]
             exact (blk_cell C5.out j).trans (by simpa using hju)) (fun y hy => by simp at hy; rcases hy with rfl | rfl <;> rfl) (by rw [<- HML.out.1]; have := HML.out.2; simp only [maxLen]; omega) (by rw [<- HML.out.1]; have := HML.out.2; omega) (HT.out.only.size)
           rw [<- HML.out.1] at hown6
           obtain ⟨g9, cap9, rfl, -⟩ := row_formH hown6 (Nat.succ_pos _)
           have HADD := Lib.hid (HT.out.add (x := x) (by rw [<- HML.out.1]; exact hown6) hg6)
           have HBX := Lib.hid ((HT.out.grown hg6 HT.out.lt).trans HT.out.box)
           have HKP : Hid (∀ k, k < W.heap.size -> k ≠ w.heap.size + 1 + 1 -> (u3).heap[k]? = W.heap[k]?) := Lib.hid (fun k h1 h2 => (HT.out.grown hg6 h1).trans (HT.out.only.block k h1 h2))
           rw [if_pos (by kernel_rfl)]
           refine wp_append_rows (.tmp 33) (.tmp 39) 28 rfl rfl rfl hr6 ?_
           clear hi1 hi2 hi3 hi4 hr6 hown6 hg6 C5
           (try simp only [Act.put, List.setIfInBounds_toArray, List.set_cons_zero, List.set_cons_succ])
           refine hK.out _ _ ?_ (fun hNew => ?_)
           · exact HSS.out _ HKP.out
           clear hK K hHeld
           have hHeld := hNew
           clear hNew
           (try simp only [List.getElem_toArray, List.getElem_cons_zero, List.getElem_cons_succ, Act.put, List.setIfInBounds_toArray, List.set_cons_zero, List.set_cons_succ])
           refine wpAnyH_take (i := 9) (v := ?_) rfl (by kernel_rfl) (by kernel_rfl) (by kernel_rfl) (fun _ _ _ h => h) (Or.inl ⟨by rfl, ?_⟩) (by assumption) ?_
           rotate_left
           · (intro w hSw; (try dsimp only at hSw); (try simp only [List.getElem_toArray, List.getElem_cons_zero, List.getElem_cons_succ]); go_simp; (try with_reducible rfl))
           (try simp only [List.getElem_toArray, List.getElem_cons_zero, List.getElem_cons_succ, Act.put, List.setIfInBounds_toArray, List.set_cons_zero, List.set_cons_succ])
           refine wpAnyH_ready (rs := [10]) (by kernel_rfl) (by simp) ?_
           refine AllReadyH.cons rfl (fun K hK => ?_) AllReadyH.nil
           have c6 := blk_cell HBX.out 6
           have f6 := blk_free HBX.out 6
           go_simp
           clear c6 f6
           refine hK.out _ _ ?_ (fun hNew => ?_)
           · exact HSS.out _ (fun k h1 h2 => HADD.out.only.block k h1 h2)
           clear hK K hHeld
           have hHeld := hNew
           clear hNew
           (try simp only [List.getElem_toArray, List.getElem_cons_zero, List.getElem_cons_succ, Act.put, List.setIfInBounds_toArray, List.set_cons_zero, List.set_cons_succ])
           refine wpAnyH_done (by kernel_rfl) ?_ _
           have e : woM tt (b.marks.take (k + 1)) = woM tt (b.marks.take k) ++ [x] := by rw [wo_step tt _ k x HXK.out, HTK.out]; rfl
           have HNX := HADD
           rw [<- e] at HNX
           clear hHeld e HADD HT HBX HKP
           go_wp2_with fail
           go_roundw
           case rel => exact ⟨k + 1, _, by omega, by go_num, HNX⟩
           case measure => exact loop_less hlt
         · refine AllReadyH.cons rfl (fun K hK => ?_) AllReadyH.nil
           go_simp
           obtain ⟨u2, hu2⟩ : ∃ v, v = (wd).alloc (.cells #[.int .i64 x.1, .bool x.2] 58) := ⟨_, rfl⟩
           have hbu : Below (wd).heap.size wd u2 := by rw [hu2]; exact (Below.refl _ _).alloc (Nat.le_refl _) _
           have hc5 : (u2).heap[(wd).heap.size]? = some (.cells #[.int .i64 x.1, .bool x.2] 58 (0, 0)) := by rw [hu2]; exact World.alloc_heap_new _ _
           rw [<- hu2]
           have HT := Lib.hid (HT.out.later hbu)
           generalize (wd).heap.size = gb at hc5 ⊢
           have C5 := Lib.hid hc5
           clear hu2 hbu hc5
           refine hK.out _ _ ?_ (fun hNew => ?_)
           · exact HSS.out _ (fun k h1 h2 => HT.out.only.block k h1 h2)
           clear hK K hHeld
           have hHeld := hNew
           clear hNew
           (try simp only [List.getElem_toArray, List.getElem_cons_zero, List.getElem_cons_succ, Act.put, List.setIfInBounds_toArray, List.set_cons_zero, List.set_cons_succ])
           refine wpAnyH_ready (rs := [1]) (by kernel_rfl) (by simp) ?_
           refine AllReadyH.cons rfl (fun K hK => ?_) AllReadyH.nil
           have cl := blk_cell HT.out.box 6
           go_simp
           clear cl
           refine hK.out _ _ ?_ (fun hNew => ?_)
           · exact HSS.out _ (fun k h1 h2 => HT.out.only.block k h1 h2)
           clear hK K hHeld
           have hHeld := hNew
           clear hNew
           (try simp only [List.getElem_toArray, List.getElem_cons_zero, List.getElem_cons_succ, Act.put, List.setIfInBounds_toArray, List.set_cons_zero, List.set_cons_succ])
           refine wpAnyH_ready (rs := [8]) (by kernel_rfl) (by simp) ?_
           refine AllReadyH.cons rfl (fun K hK => ?_) AllReadyH.nil
           obtain ⟨hi1, hi2, hi3, hi4⟩ := HI.out
           obtain ⟨v6, u3, hr6, hown6, hg6, -⟩ := run_append_own (P := Tryz.prog) u2 W.heap.size 28 28 58 ei _ 2 16 undMrks hi1 hi2 hi3 hi4 rfl (by decide) v _ _ HT.out.row ⟨gb, 0, none⟩ 1 1 [.int .i64 x.1, .bool x.2] rfl
            (fun j y hju => by
             rw [add_offi]
             exact (blk_cell C5.out j).trans (by simpa using hju)) (fun y hy => by simp at hy; rcases hy with rfl | rfl <;> rfl) (by rw [<- HML.out.1]; have := HML.out.2; simp only [maxLen]; omega) (by rw [<- HML.out.1]; have := HML.out.2; omega) (HT.out.only.size)
           rw [<- HML.out.1] at hown6
           obtain ⟨g9, cap9, rfl, -⟩ := row_formH hown6 (Nat.succ_pos _)
           have HADD := Lib.hid (HT.out.add (x := x) (by rw [<- HML.out.1]; exact hown6) hg6)
           have HBX := Lib.hid ((HT.out.grown hg6 HT.out.lt).trans HT.out.box)
           have HKP : Hid (∀ k, k < W.heap.size -> k ≠ w.heap.size + 1 + 1 -> (u3).heap[k]? = W.heap[k]?) := Lib.hid (fun k h1 h2 => (HT.out.grown hg6 h1).trans (HT.out.only.block k h1 h2))
           rw [if_pos (by kernel_rfl)]
           refine wp_append_rows (.tmp 33) (.tmp 39) 28 rfl rfl rfl hr6 ?_
           clear hi1 hi2 hi3 hi4 hr6 hown6 hg6 C5
           (try simp only [Act.put, List.setIfInBounds_toArray, List.set_cons_zero, List.set_cons_succ])
           refine hK.out _ _ ?_ (fun hNew => ?_)
           · exact HSS.out _ HKP.out
           clear hK K hHeld
           have hHeld := hNew
           clear hNew
           (try simp only [List.getElem_toArray, List.getElem_cons_zero, List.getElem_cons_succ, Act.put, List.setIfInBounds_toArray, List.set_cons_zero, List.set_cons_succ])
           refine wpAnyH_take (i := 9) (v := ?_) rfl (by kernel_rfl) (by kernel_rfl) (by kernel_rfl) (fun _ _ _ h => h) (Or.inl ⟨by rfl, ?_⟩) (by assumption) ?_
           rotate_left
           · (intro w hSw; (try dsimp only at hSw); (try simp only [List.getElem_toArray, List.getElem_cons_zero, List.getElem_cons_succ]); go_simp; (try with_reducible rfl))
           (try simp only [List.getElem_toArray, List.getElem_cons_zero, List.getElem_cons_succ, Act.put, List.setIfInBounds_toArray, List.set_cons_zero, List.set_cons_succ])
           refine wpAnyH_ready (rs := [10]) (by kernel_rfl) (by simp) ?_
           refine AllReadyH.cons rfl (fun K hK => ?_) AllReadyH.nil
           have c6 := blk_cell HBX.out 6
           have f6 := blk_free HBX.out 6
           go_simp
           clear c6 f6
           refine hK.out _ _ ?_ (fun hNew => ?_)
           · exact HSS.out _ (fun k h1 h2 => HADD.out.only.block k h1 h2)
           clear hK K hHeld
           have hHeld := hNew
           clear hNew
           (try simp only [List.getElem_toArray, List.getElem_cons_zero, List.getElem_cons_succ, Act.put, List.setIfInBounds_toArray, List.set_cons_zero, List.set_cons_succ])
           refine wpAnyH_done (by kernel_rfl) ?_ _
           have e : woM tt (b.marks.take (k + 1)) = woM tt (b.marks.take k) ++ [x] := by rw [wo_step tt _ k x HXK.out, HTK.out]; rfl
           have HNX := HADD
           rw [<- e] at HNX
           clear hHeld e HADD HT HBX HKP
           go_wp2_with fail
           go_roundw
           case rel => exact ⟨k + 1, _, by omega, by go_num, HNX⟩
           case measure => exact loop_less hlt
     · obtain rfl : k = N := by omega
       have hN2 : b.marks.take k = b.marks := by rw [HN.out]; exact List.take_length
       have hrow := rows_of_own (enc := mrkV) (fun _ => rfl) HS.out.row
       obtain ⟨vo, vc, hv, -⟩ := id hrow
       obtain ⟨ML, hML⟩ : ∃ n, n = (woM tt (b.marks.take k)).length := ⟨_, rfl⟩
       rw [<- hML] at hv
       subst hv
       have g2 := HS.out.blk (show w.heap.size + 1 < W.heap.size by omega) (by omega) Y2.out
       have q0 := blk_cell HS.out.box 0
       have q1 := blk_cell HS.out.box 1
       have q2 := blk_cell HS.out.box 2
       have q3 := blk_cell HS.out.box 3
       have q4 := blk_cell HS.out.box 4
       have q5 := blk_cell HS.out.box 5
       have q6 := blk_cell HS.out.box 6
       have s0 := blk_cell g2 0
       have s1 := blk_cell g2 1
       have s2 := blk_cell g2 2
       have s3 := blk_cell g2 3
       have s4 := blk_cell g2 4
       have s5 := blk_cell g2 5
       have s6 := blk_cell g2 6
       have f0 := blk_free g2 0
       have f1 := blk_free g2 1
       have f2 := blk_free g2 2
       have f3 := blk_free g2 3
       have f4 := blk_free g2 4
       have f5 := blk_free g2 5
       have f6 := blk_free g2 6
       clear g1 hML
       go_wp2_with fail
       clear f0 f1 f2 f3 f4 f5 f6 s0 s1 s2 s3 s4 s5 s6 q0 q1 q2 q3 q4 q5 q6
       have hq2 : w.heap.size <= w.heap.size + 1 := by omega
       have hq4 : w.heap.size + 1 < W.heap.size := by omega
       obtain ⟨V, hV⟩ : ∃ v, v = (((((((wr.setCell ⟨w.heap.size + 1, 0, none⟩ (.int .i64 b.leaves)).setCell ⟨w.heap.size + 1, 1, none⟩ (.int .i64 ch)).setCell ⟨w.heap.size + 1, 2, none⟩ (.int .i64 c1)).setCell ⟨w.heap.size + 1, 3, none⟩ (.int .i64 c2)).setCell ⟨w.heap.size + 1, 4, none⟩ (.int .i64 d1)).setCell ⟨w.heap.size + 1, 5, none⟩ (.int .i64 d2)).setCell ⟨w.heap.size + 1, 6, none⟩ (.slice vo ML vc)) := ⟨_, rfl⟩
       have hb9 : Below w.heap.size w V := by rw [hV]; exact (((((((HBR.out.setCell hq2 _).setCell hq2 _).setCell hq2 _).setCell hq2 _).setCell hq2 _).setCell hq2 _).setCell hq2 _)
       have x9 : V.heap[w.heap.size + 1]? = some (.cells #[.int .i64 b.leaves, .int .i64 ch, .int .i64 c1, .int .i64 c2, .int .i64 d1, .int .i64 d2, .slice vo ML vc] 30 (0, 0)) := by rw [hV]; exact blk_set (blk_set (blk_set (blk_set (blk_set (blk_set (blk_set (g2) 0 _) 1 _) 2 _) 3 _) 4 _) 5 _) 6 _
       have r9 := (show V.ownsRow _ _ _ _ _ _ from by rw [hV]; exact (ownsRow_setCell_below (ownsRow_setCell_below (ownsRow_setCell_below (ownsRow_setCell_below (ownsRow_setCell_below (ownsRow_setCell_below (ownsRow_setCell_below HS.out.row hq4 _) hq4 _) hq4 _) hq4 _) hq4 _) hq4 _) hq4 _))
       rw [<- hV]
       clear hV
       have hrw := rows_of_own (enc := mrkV) (fun _ => rfl) r9
       rw [hN2, HTF.out] at hrw
       have v1 : (woB b fun (i : Nat) => decide ((i : Int) ∈ xs)).chain = ch := by rw [HCH.out, HTT.out.1]; rfl
       have v2 : (woB b fun (i : Nat) => decide ((i : Int) ∈ xs)).wlo = c1 := by rw [HC1.out, HTT.out.2.1]; rfl
       have v3 : (woB b fun (i : Nat) => decide ((i : Int) ∈ xs)).whi = c2 := by rw [HC2.out, HTT.out.2.1]; rfl
       have v4 : (woB b fun (i : Nat) => decide ((i : Int) ∈ xs)).hlo = d1 := by rw [HD1.out, HTT.out.2.2]; rfl
       have v5 : (woB b fun (i : Nat) => decide ((i : Int) ∈ xs)).hhi = d2 := by rw [HD2.out, HTT.out.2.2]; rfl
       have z0 := blk_cell x9 0
       have z1 := blk_cell x9 1
       have z2 := blk_cell x9 2
       have z3 := blk_cell x9 3
       have z4 := blk_cell x9 4
       have z5 := blk_cell x9 5
       have z6 := blk_cell x9 6
       exact bodyPost_ret (v := .agg #[.int .i64 b.leaves, .int .i64 ch, .int .i64 c1, .int .i64 c2, .int .i64 d1, .int .i64 d2, .slice vo ML vc]) (by simp [results, Tryz.results23, go_sem, z0, z1, z2, z3, z4, z5, z6]) rfl ⟨⟨.slice vo ML vc, by rw [v1, v2, v3, v4, v5]; rfl, hrw⟩, hb9⟩
   have hx2 := refHas_any xs (.slice xa XN xc) 2 W (HX.out.later (HB1.out.trans (HBW.out.mono (by omega)))) (by have := HXN.out; omega)
   refine hx2.mono ?_
   rintro e Wn ⟨rfl, rfl⟩
   rw [<- HT2.out]
   clear hx2
   cases t2 with
   | true =>
     go_wp2_with fail
     refine (free2_any _).mono ?_
     rintro e Wf ⟨rfl, hbf⟩
     have x9 := blk_later hbf HCW.out
     have c1 := blk_cell x9 4
     have c2 := blk_cell x9 5
     have f1 := blk_free x9 4
     have f2 := blk_free x9 5
     have hbf2 : Below (w.heap.size + 1 + 1) w1 Wf := HBW.out.trans (hbf.mono (by have := blk_lt HCW.out; omega))
     go_wp2_with fail
     exact J3 _ _ _ _ rfl rfl rfl ((hbf2.setCell (show w.heap.size + 1 + 1 <= w.heap.size + 1 + 1 from Nat.le_refl _) _).setCell (show w.heap.size + 1 + 1 <= w.heap.size + 1 + 1 from Nat.le_refl _) _) (blk_set (blk_set x9 4 _) 5 _)
   | false =>
     go_wp2_with fail
     exact J3 _ _ _ _ rfl rfl rfl HBW.out HCW.out
  have hx1 := refHas_any xs (.slice xa XN xc) 1 W (HX.out.later (HB1.out.trans (HBW.out.mono (by omega)))) (by have := HXN.out; omega)
  refine hx1.mono ?_
  rintro e Wn ⟨rfl, rfl⟩
  rw [<- HT1.out]
  clear hx1
  cases t1 with
  | true =>
    go_wp2_with fail
    refine (free2_any _).mono ?_
    rintro e Wf ⟨rfl, hbf⟩
    have x9 := blk_later hbf HCW.out
    have c1 := blk_cell x9 2
    have c2 := blk_cell x9 3
    have f1 := blk_free x9 2
    have f2 := blk_free x9 3
    have hbf2 : Below (w.heap.size + 1 + 1) w1 Wf := HBW.out.trans (hbf.mono (by have := blk_lt HCW.out; omega))
    go_wp2_with fail
    exact J2 _ _ _ _ rfl rfl rfl ((hbf2.setCell (show w.heap.size + 1 + 1 <= w.heap.size + 1 + 1 from Nat.le_refl _) _).setCell (show w.heap.size + 1 + 1 <= w.heap.size + 1 + 1 from Nat.le_refl _) _) (blk_set (blk_set x9 2 _) 3 _)
  | false =>
    go_wp2_with fail
    exact J2 _ _ _ _ rfl rfl rfl HBW.out HCW.out
 have hx1 := refHas_any xs (.slice xa XN xc) 0 w1 (HX.out.later HB1.out) (by have := HXN.out; omega)
 refine hx1.mono ?_
 rintro e w2 ⟨rfl, rfl⟩
 rw [<- HT0.out]
 clear hx1
 have c1 := blk_cell X3.out 1
 have f1 := blk_free X3.out 1
 cases t0 with
 | true =>
   go_wp2_with fail
   exact J _ _ _ rfl rfl ((Below.refl (w.heap.size + 1 + 1) _).setCell (show w.heap.size + 1 + 1 <= w.heap.size + 1 + 1 from Nat.le_refl _) _) (blk_set X3.out 1 _)
 | false =>
   go_wp2_with fail
   exact J _ _ _ rfl rfl (Below.refl _ _) X3.out
end
section
set_option linter.unusedSimpArgs false
set_option linter.unusedVariables false
open Go Go.RowKit Go.Sort Go.BigFrame
attribute [local go_sem] Oper.semAt_some putAll
def cntN {α : Type} (H : α -> Nat -> Bool) (pre : List α) (n : Nat) : Nat := (pre.filter fun v => H v n).length
def cntB {α : Type} (H : α -> Nat -> Bool) (pre : List α) (many : Nat) : List Value := (List.range many).map fun n => Value.int .i64 ((cntN H pre n : Nat) : Int)
end
section
set_option linter.unusedSimpArgs false
set_option linter.unusedVariables false
open Go Go.RowKit Go.Sort Go.BigFrame
structure VlS (w₀ W : World) (vb B : Nat) : Prop where
 pr : ∀ j, (j = vb ∨ j < B) -> W.heap[j]? = w₀.heap[j]?
 sz : w₀.heap.size <= W.heap.size
end
section
set_option linter.unusedSimpArgs false
set_option linter.unusedVariables false
open Go Go.RowKit Go.Sort Go.BigFrame
attribute [local go_sem] Oper.semAt_some putAll
structure SuSt {α : Type} (w : World) (V many lb : Nat) (H : α -> Nat -> Bool) (pre : List α) (W : World) : Prop where
 num : W.heap[V]? = some (.cells #[.int .i64 many] 3 (0, 0))
 has : W.heap[V + 1]? = some (.cells #[.func (.func 69) #[] #[.pointer (some ⟨lb, 0, none⟩)]] 141 (0, 0))
 ask : W.heap[V + 2]? = some (.cells #[.int .i64 pre.length] 3 (0, 0))
 row : W.heap[V + 3]? = some (.cells (cntB H pre many).toArray 3 (0, 0))
 hav : W.heap[V + 4]? = some (.cells #[.slice (some ⟨V + 3, 0, none⟩) many many] 36 (0, 0))
 sz : V + 5 <= W.heap.size
 bel : Below V w W
theorem SuSt.only {α : Type} {w : World} {V many lb : Nat} {H : α -> Nat -> Bool} {pre : List α} {W W' : World} {X : Nat -> Prop} (h : SuSt w V many lb H pre W) (ho : OnlyIn X W W') (hX : ∀ k, X k -> V + 5 <= k) : SuSt w V many lb H pre W' := by
 have hs := h.sz
 have key : ∀ k, V <= k -> k < V + 5 -> W'.heap[k]? = W.heap[k]? := fun k _ hk => ho.block k (by omega) (fun hx => by have := hX k hx; omega)
 exact ⟨(key _ (by omega) (by omega)).trans h.num, (key _ (by omega) (by omega)).trans h.has, (key _ (by omega) (by omega)).trans h.ask, (key _ (by omega) (by omega)).trans h.row, (key _ (by omega) (by omega)).trans h.hav, Nat.le_trans hs ho.size, ho.below h.bel (by omega) (fun k hk => by have := hX k hk; omega)⟩
theorem IntsAt.put {W : World} {v : Value} {xs : List Int} (h : IntsAt W v xs) {D : Nat} (hd : W.heap[D]? = some (.deferred (some []))) (o : Obj) : IntsAt (W.putObj D o) v xs := by
 obtain ⟨a, cap, e, hc⟩ := h
 refine ⟨a, cap, e, fun hne => ?_⟩
 obtain ⟨g, h1, h2, h3⟩ := hc hne
 have hg : g ≠ D := fun e => by
  obtain ⟨x, hx⟩ : ∃ x, xs[0]? = some x := ⟨_, List.getElem?_eq_getElem (by have := List.length_pos_iff.2 hne; omega)⟩
  have := h3 0 x hx
  subst e
  simp [World.cell?, hd] at this
 refine ⟨g, h1, by simpa using h2, fun i x hx => ?_⟩
 rw [<- h3 i x hx]
 exact World.cell?_of_block (World.putObj_heap_other hg)
end
end Go.Proofs.YtpdhdgdbknnllaaGreatDoor
