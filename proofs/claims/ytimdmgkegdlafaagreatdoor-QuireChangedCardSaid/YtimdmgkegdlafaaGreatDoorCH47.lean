/- The parts Lm of the proof, joined. It holds without conditions of its own. -/
import Derived.Test.YtimdmgkegdlafaaGreatDoorCH46
import Derived.Deep.Cut
/- The law QuireChanged: it returns true. -/
namespace Go.Proofs.YtimdmgkegdlafaaGreatDoor
set_option linter.unusedSimpArgs false
set_option linter.unusedVariables false
open Go Go.RowKit Go.Sort Go.BigFrame Go.Shelf
attribute [local go_sem] Oper.semAt_some putAll

theorem wp_cutO {P : Program} {c : Code} {Q : Exit → Act → World → Prop} {a : Act} {w : World} (R : Act → Act → World → Prop)
    (h : c.wp P (fun e a' w' => e = .normal ∧ Cut (R a a' w')) a w) (hq : ∀ a' w', R a a' w' → Q .normal a' w') : c.wp P Q a w :=
  Code.wp_mono (fun e a' w' ⟨he, hr⟩ => by subst he; exact hq a' w' hr.out) h
/-- What the three copies of the book leave: their boxes, in whatever order. -/
def CgCut (D : Nat) (bv : Value) (W : World) (a0 a' : Act) (w' : World) : Prop :=
  ∃ A B C : Nat, (A ≠ B ∧ A ≠ C ∧ B ≠ C) ∧ (D ≤ A ∧ A < D + 3 ∧ D ≤ B ∧ B < D + 3 ∧ D ≤ C ∧ C < D + 3) ∧ w' = W ∧
    a' = { tmps := putAll a0.tmps [(48, bv), (49, bv), (50, bv), (6, .pointer (some ⟨A, 0, none⟩)), (7, .pointer (some ⟨B, 0, none⟩)), (8, .pointer (some ⟨C, 0, none⟩))], defers := [] }
theorem three_at (W : World) (o : Obj) {A : Nat} (h1 : W.heap.size ≤ A) (h2 : A < W.heap.size + 3) : (((W.alloc o).alloc o).alloc o).heap[A]? = some o := by
  have h : A = W.heap.size ∨ A = W.heap.size + 1 ∨ A = W.heap.size + 2 := by omega
  rcases h with rfl | rfl | rfl
  · exact (by repeat (first | exact heap_alloc_at _ _ _ (by (first | omega | (simp; done) | (simp; omega) | fail)) | (refine (heap_alloc_past _ _ _ ?_).trans ?_; · (first | omega | (simp; done) | (simp; omega) | fail)) | fail))
  · exact (by repeat (first | exact heap_alloc_at _ _ _ (by (first | omega | (simp; done) | (simp; omega) | fail)) | (refine (heap_alloc_past _ _ _ ?_).trans ?_; · (first | omega | (simp; done) | (simp; omega) | fail)) | fail))
  · exact heap_alloc_at _ _ _ (by simp)

theorem Held.update {w W : World} {bs bs' : List (Nat × Obj)} {A : Nat} {u0 u1 u : Value} {t : TypeId} (h : Held w bs W) (hA : W.heap[A]? = some (.cells #[u0, u1] t)) (hz : w.heap.size ≤ A)
    (hb : ∀ p ∈ bs', p = (A, .cells #[u0, u] t) ∨ (p ∈ bs ∧ p.1 ≠ A)) : Held w bs' (W.setCell ⟨A, 1, none⟩ u) := by
  refine ⟨h.below.setCell hz u, fun p hp => ?_⟩
  rcases hb p hp with rfl | ⟨h1, h2⟩
  · have := blk_set hA 1 u
    simpa using this
  · exact (heap_setCell_past _ _ _ _ h2).trans (h.at_ p h1)
/-- A book's box. -/
abbrev bkO (s : Int) (v : Value) : Obj := .cells #[.int .i64 s, v] 24
/-- The boxes of the law: the three copies, the two numbers, the book. -/
abbrev cgB (s : Int) (A B C X x y : Nat) (vA vB vC v0 : Value) : List (Nat × Obj) :=
  [(A, bkO s vA), (B, bkO s vB), (C, bkO s vC), (X + 1, .cells #[.int .u8 x, .int .u8 y] 37), (X, bkO s v0)]

theorem empty_row (W : World) (n : Nat) (h : n = W.heap.size) : (W.alloc (.cells #[] 42)).ownsRow n 42 4 (.slice (some ⟨n, 0, none⟩) 0 0) 0 [] := by
  subst h
  exact World.ownsRow_lit W #[] 0 (Nat.le_refl _) (Nat.zero_le _) (by simp)

theorem Held.upd {w W : World} {bs bs' : List (Nat × Obj)} {A j : Nat} {xs : Array Value} {u : Value} {t : TypeId} (h : Held w bs W) (hA : W.heap[A]? = some (.cells xs t)) (hz : w.heap.size ≤ A) {ys : Array Value} (hy : xs.setIfInBounds j u = ys)
    (hb : ∀ p ∈ bs', p = (A, .cells ys t) ∨ (p ∈ bs ∧ p.1 ≠ A)) : Held w bs' (W.setCell ⟨A, j, none⟩ u) := by
  refine ⟨h.below.setCell hz u, fun p hp => ?_⟩
  rcases hb p hp with rfl | ⟨h1, h2⟩
  · have := blk_set hA j u
    rw [← hy]
    exact this
  · exact (heap_setCell_past _ _ _ _ h2).trans (h.at_ p h1)
/-- A change's box. -/
abbrev chO (d : Int) (n : Nat) : Obj := .cells #[.int .i64 d, .int .i64 (n : Int), .int .i64 0] 44
/-- The gathering's box. -/
abbrev gtO (r l : Int) (L : Nat) (v : Value) : Obj := .cells #[.int .i64 r, .int .i64 l, .int .i64 (L : Int), v] 42
theorem row_gs {W : World} {base g n cap B : Nat} {zs : List (Gth × Value)} (h : W.ownsRow base 42 4 (.slice (some ⟨g, 0, none⟩) n cap) n (gtCells zs)) (hn : zs.length = n) (hg : g < B) (hc : ∀ z ∈ zs, ChsAt B W z.2 z.1.chs) :
    GsAt B W (.slice (some ⟨g, 0, none⟩) n cap) (zs.map (·.1)) := by
  refine ⟨some ⟨g, 0, none⟩, cap, by rw [List.length_map, hn], fun _ => ⟨g, 0, rfl, hg, fun i x hx => ?_⟩⟩
  rw [List.getElem?_map, Option.map_eq_some_iff] at hx
  obtain ⟨z, hz, rfl⟩ := hx
  have hi : i < n := by rw [← hn]; exact (List.getElem?_eq_some_iff.1 hz).1
  obtain ⟨c0, c1, c2, c3⟩ := gtCells_at zs i z hz
  rw [Nat.zero_add]
  exact ⟨z.2, hc z (List.mem_of_getElem? hz), (h.cellAt _ (by omega)).trans c0, (h.cellAt _ (by omega)).trans c1, (h.cellAt _ (by omega)).trans c2, (h.cellAt _ (by omega)).trans c3⟩
theorem chs_nil (B : Nat) (W : World) : ChsAt B W (.slice none 0 0) [] := ⟨none, 0, rfl, fun h => absurd rfl h⟩
theorem chs_one {B h n : Nat} {d : Int} {W : World} (hb : W.heap[h]? = some (chO d n)) (hB : h < B) : ChsAt B W (.slice (some ⟨h, 0, none⟩) 1 1) [⟨d, n, 0⟩] := by
  refine ⟨some ⟨h, 0, none⟩, 1, rfl, fun _ => ⟨h, 0, rfl, hB, fun i c hc => ?_⟩⟩
  obtain ⟨rfl, rfl⟩ : i = 0 ∧ (⟨d, n, 0⟩ : Chg) = c := by
    cases i with
    | zero => exact ⟨rfl, Option.some.inj hc⟩
    | succ i => simp at hc
  exact ⟨blk_cell hb 0, blk_cell hb 1, blk_cell hb 2⟩
theorem row_book {w W : World} {b : Bk} {base g n cap k B : Nat} {x : Gth} {cs : List Chg} {cv : Value} {zs : List (Gth × Value)} (hz : zs.map (·.1) = b.gs) (hzc : ∀ z ∈ zs, ∃ ca ccap, z.2 = .slice ca z.1.chs.length ccap ∧ ChsAt w.heap.size w z.2 z.1.chs)
    (hb : Below w.heap.size w W) (hB : w.heap.size ≤ B) (h : W.ownsRow base 42 4 (.slice (some ⟨g, 0, none⟩) n cap) n (gtCells (zs.set k (⟨x.round, x.letter, x.leaves, cs⟩, cv)))) (hn : zs.length = n) (hg : g < B) (hc : ChsAt B W cv cs) :
    BookAt B W (.agg #[.int .i64 b.signed, .slice (some ⟨g, 0, none⟩) n cap]) (withC b k x cs) := by
  refine ⟨_, rfl, ?_⟩
  have h1 := row_gs (B := B) h (by rw [List.length_set]; exact hn) hg (fun z hz => by
    rcases List.mem_or_eq_of_mem_set hz with hz | rfl
    · obtain ⟨-, -, -, h⟩ := hzc z hz
      exact (h.below hb (Nat.le_refl _)).mono hB
    · exact hc)
  rw [List.map_set, hz] at h1
  exact h1
theorem pred_int {j : Nat} (h : 0 < j) : (j : Int) - 1 = ((j - 1 : Nat) : Int) := by omega
theorem tmod_nat (a b : Nat) : (a : Int).tmod (b : Int) = ((a % b : Nat) : Int) := rfl
theorem row_below {W W' : World} {base h n m cap : Nat} {e : TypeId} {s : Nat} {xs : List Value} (hr : W.ownsRow base e s (.slice (some ⟨h, 0, none⟩) n cap) m xs) (hb : Below W.heap.size W W') : W'.ownsRow base e s (.slice (some ⟨h, 0, none⟩) n cap) m xs :=
  hr.kept (row := none) ⟨hb.os, hb.tape, hb.output, hb.size, fun k hk _ => hb.block k hk⟩ (.inr (by simp [Value.ownBlock]))

set_option maxRecDepth 100000 in
set_option maxHeartbeats 6400000 in
theorem QuireChanged_good (b : Bk) (v : Value) (x y : Nat) (hx : x < 256) (hy : y < 256) (w : World) (hb : BookAt w.heap.size w v b) (hcap : ∀ s a n cap, v = .agg #[.int .i64 s, .slice a n cap] → n ≤ cap ∧ cap ≤ 9223372036854775807) (he : errF b = 0) :
    Calls Tryz.prog 6 #[v, .agg #[.int .u8 x, .int .u8 y]] w fun e w' => e = .returned (.bool true) ∧ Below w.heap.size w w' := by
  obtain ⟨sv, rfl, hgs⟩ := hb
  have hb : BookAt w.heap.size w (.agg #[.int .i64 b.signed, sv]) b := ⟨sv, rfl, hgs⟩
  have hgs' := hgs
  obtain ⟨a, cap, rfl, -⟩ := hgs'
  obtain ⟨hc1, hc2⟩ := hcap _ _ _ _ rfl
  have hlen := (errF_zero he).len
  obtain ⟨g0, hg0⟩ : ∃ g0, b.gs[0]? = some g0 := ⟨_, List.getElem?_eq_getElem (by omega)⟩
  obtain ⟨bb, off, rfl, -⟩ := hgs.get hg0
  have heq : (errF b == 0) = true := by simp [he]
  obtain ⟨k, hk⟩ : ∃ k, k = x % b.gs.length := ⟨_, rfl⟩
  have hkL : k < b.gs.length := by rw [hk]; exact Nat.mod_lt _ (by omega)
  obtain ⟨g, hg⟩ : ∃ g, b.gs[k]? = some g := ⟨_, List.getElem?_eq_getElem hkL⟩
  have hgk := (errF_zero he).gs g (List.mem_of_getElem? hg)
  have hlv := hgk.leaves
  obtain ⟨L, hL⟩ : ∃ L : Nat, g.leaves = (L : Int) := ⟨g.leaves.toNat, by omega⟩
  obtain ⟨n, hn⟩ : ∃ n, n = 1 + y % L := ⟨_, rfl⟩
  have hnL : n ≤ L := by have := Nat.mod_lt y (show 0 < L by omega); omega
  have HCD : Hid (Chd b k g n L) := Lib.hid ⟨he, hg, hL, by omega, hnL⟩
  have hm2 : (x : Int).tmod (b.gs.length : Int) = (k : Int) := by rw [hk]; rfl
  have hw0 : wrap64 (x : Int) = (x : Int) := by unfold wrap64; omega
  have d0 : ¬ (b.gs.length : Int) = 0 := by omega
  have HGS := Lib.hid hgs
  have HBK := Lib.hid hb
  have HL := Lib.hid hL
  have HN := Lib.hid hn
  have HG := Lib.hid hg
  have HE := Lib.hid he
  clear hb hcap hg0 hgs he hk hg hgk hL hn
  have HH := Lib.hid ((show Held w [(w.heap.size + 1, .cells #[.int .u8 x, .int .u8 y] 37), (w.heap.size, .cells #[.int .i64 b.signed, .slice (some ⟨bb, off, none⟩) b.gs.length cap] 24)] ((w.alloc (.cells #[.int .i64 b.signed, .slice (some ⟨bb, off, none⟩) b.gs.length cap] 24)).alloc (.cells #[.int .u8 x, .int .u8 y] 37)) from
    ⟨by exact (by repeat (first | (refine Below.setCell ?_ ?_ _; rotate_left; · (first | omega | (simp; done) | (simp; omega) | fail)) | (refine Below.alloc ?_ ?_ _; rotate_left; · (first | omega | (simp; done) | (simp; omega) | fail)) | refine Below.drew ?_ | exact Below.refl _ _ | fail)), fun p hp => by
      (simp only [List.mem_cons, List.not_mem_nil, or_false] at hp)
      rcases hp with rfl | rfl
      · exact (by repeat (first | exact heap_alloc_at _ _ _ (by (first | omega | (simp; done) | (simp; omega) | fail)) | (refine (heap_alloc_past _ _ _ ?_).trans ?_; · (first | omega | (simp; done) | (simp; omega) | fail)) | fail))
      · exact (by repeat (first | exact heap_alloc_at _ _ _ (by (first | omega | (simp; done) | (simp; omega) | fail)) | (refine (heap_alloc_past _ _ _ ?_).trans ?_; · (first | omega | (simp; done) | (simp; omega) | fail)) | fail))⟩))
  go_enter Tryz.func6, Tryz.ntmps6
  go_wp2_with fail
  revert HH
  generalize (w.alloc (.cells #[.int .i64 b.signed, .slice (some ⟨bb, off, none⟩) b.gs.length cap] 24)).alloc (.cells #[.int .u8 x, .int .u8 y] 37) = w0
  intro HH
  have q := HH.out.get 1 rfl
  have c0 := blk_cell q 0; have c1 := blk_cell q 1
  clear q
  go_wp2_with fail
  refine (valid_any b _ _ ((HBK.out.below (B := w.heap.size) HH.out.below (Nat.le_refl _)).mono HH.out.below.size)).mono ?_
  rintro e w1 ⟨rfl, hb1⟩
  rw [heq]
  have HH := Lib.hid (HH.out.below' hb1)
  clear hb1 c0 c1 heq
  have q := HH.out.get 1 rfl
  have q' := HH.out.get 0 rfl
  have c0 := blk_cell q 0; have c1 := blk_cell q 1
  have d0 := blk_cell q' 0; have d1 := blk_cell q' 1
  have hXl := blk_lt q
  have HX1 := Lib.hid (blk_lt q')
  have z1 := HH.out.below.size
  have c0' := fun o => cell_al c0 hXl o
  have c1' := fun o => cell_al c1 hXl o
  have c0'' := fun o o' => cell_al2 c0 hXl o o'
  have c1'' := fun o o' => cell_al2 c1 hXl o o'
  have c03 := fun o o' o'' => cell_al3 c0 hXl o o' o''
  have c13 := fun o o' o'' => cell_al3 c1 hXl o o' o''
  go_wp2_with fail
  obtain ⟨bv, hbv⟩ : ∃ bv : Value, bv = .agg #[.int .i64 b.signed, .slice (some ⟨bb, off, none⟩) b.gs.length cap] := ⟨_, rfl⟩
  obtain ⟨W, hW⟩ : ∃ W : World, W = (((w1.alloc (.cells #[.int .i64 b.signed, .slice (some ⟨bb, off, none⟩) b.gs.length cap] 24)).alloc (.cells #[.int .i64 b.signed, .slice (some ⟨bb, off, none⟩) b.gs.length cap] 24)).alloc (.cells #[.int .i64 b.signed, .slice (some ⟨bb, off, none⟩) b.gs.length cap] 24)).drew := ⟨_, rfl⟩
  have HW := Lib.hid hW
  have HBV := Lib.hid hbv
  clear hW hbv
  refine wp_cutO (CgCut w1.heap.size bv W) ?_ ?_
  · go_region
    all_goals
      first | refine Cut.mk ?_ | refine ⟨rfl, Cut.mk ?_⟩
      rw [HBV.out]
      first
        | (refine ⟨w1.heap.size, (w1.heap.size + 1), (w1.heap.size + 1 + 1), by omega, by omega, HW.out.symm, ?_⟩; simp only [putAll, List.foldl_cons, List.foldl_nil, List.setIfInBounds_toArray, List.set_cons_succ, List.set_cons_zero]; done)
        | (refine ⟨w1.heap.size, (w1.heap.size + 1 + 1), (w1.heap.size + 1), by omega, by omega, HW.out.symm, ?_⟩; simp only [putAll, List.foldl_cons, List.foldl_nil, List.setIfInBounds_toArray, List.set_cons_succ, List.set_cons_zero]; done)
        | (refine ⟨(w1.heap.size + 1), w1.heap.size, (w1.heap.size + 1 + 1), by omega, by omega, HW.out.symm, ?_⟩; simp only [putAll, List.foldl_cons, List.foldl_nil, List.setIfInBounds_toArray, List.set_cons_succ, List.set_cons_zero]; done)
        | (refine ⟨(w1.heap.size + 1), (w1.heap.size + 1 + 1), w1.heap.size, by omega, by omega, HW.out.symm, ?_⟩; simp only [putAll, List.foldl_cons, List.foldl_nil, List.setIfInBounds_toArray, List.set_cons_succ, List.set_cons_zero]; done)
        | (refine ⟨(w1.heap.size + 1 + 1), w1.heap.size, (w1.heap.size + 1), by omega, by omega, HW.out.symm, ?_⟩; simp only [putAll, List.foldl_cons, List.foldl_nil, List.setIfInBounds_toArray, List.set_cons_succ, List.set_cons_zero]; done)
        | (refine ⟨(w1.heap.size + 1 + 1), (w1.heap.size + 1), w1.heap.size, by omega, by omega, HW.out.symm, ?_⟩; simp only [putAll, List.foldl_cons, List.foldl_nil, List.setIfInBounds_toArray, List.set_cons_succ, List.set_cons_zero]; done)
  · rintro a' V ⟨A, B, C, hABC, hr, rfl, rfl⟩
    have hne : A ≠ B ∧ A ≠ C ∧ B ≠ C := hABC
    have hWb : Below w1.heap.size w1 V := by
      rw [HW.out]
      exact ((((Below.refl _ w1).alloc (Nat.le_refl _) _).alloc (by simp) _).alloc (by simp; omega) _).drew
    have hWz : V.heap.size = w1.heap.size + 3 := by rw [HW.out]; simp
    have hat : ∀ {Z : Nat}, w1.heap.size ≤ Z → Z < w1.heap.size + 3 → V.heap[Z]? = some (bkO b.signed (.slice (some ⟨bb, off, none⟩) b.gs.length cap)) := fun h1 h2 => by
      rw [HW.out]
      exact blk_drew (three_at w1 _ h1 h2)
    have hH0 := HH.out.below' hWb
    have HHW : Hid (Held w (cgB b.signed A B C w.heap.size x y (.slice (some ⟨bb, off, none⟩) b.gs.length cap) (.slice (some ⟨bb, off, none⟩) b.gs.length cap) (.slice (some ⟨bb, off, none⟩) b.gs.length cap) (.slice (some ⟨bb, off, none⟩) b.gs.length cap)) V) := Lib.hid ⟨hH0.below, fun p hp => by
      (simp only [List.mem_cons, List.not_mem_nil, or_false] at hp)
      rcases hp with rfl | rfl | rfl | rfl | rfl
      · exact hat hr.1 hr.2.1
      · exact hat hr.2.2.1 hr.2.2.2.1
      · exact hat hr.2.2.2.2.1 hr.2.2.2.2.2
      · exact hH0.get 0 rfl
      · exact hH0.get 1 rfl⟩
    obtain ⟨zs, hz1, hz2, hz3⟩ := gs_list HGS.out
    have hzl : zs.length = b.gs.length := by rw [← hz1, List.length_map]
    have hbb : bb < w.heap.size := by
      obtain ⟨bb', off', e', hlt, -⟩ := HGS.out.get HG.out
      cases e'
      exact hlt
    have HZ1 := Lib.hid hz1
    have HZ2 := Lib.hid hz2
    have HZ3 : Hid (∀ W' : World, Below w.heap.size w W' → ∀ j u, (gtCells zs)[j]? = some u → W'.cell? ((⟨bb, off, none⟩ : Addr).add j) = some u) := Lib.hid (fun W' hb j u hj => by
      have h := hz3 j u hj
      rw [addr_add] at h ⊢
      exact (hb.cell (p := ⟨bb, off + j, none⟩) hbb).trans h)
    have HZL := Lib.hid hzl
    obtain ⟨ei, hi1, hi2, hi3, hi4⟩ := elemGth
    have HI := Lib.hid (And.intro hi1 (And.intro hi2 (And.intro hi3 hi4)))
    have hwX : w.heap.size ≤ w1.heap.size := z1
    have hVz : w1.heap.size + 3 ≤ V.heap.size := by omega
    clear hWz
    clear hABC hWb hat hH0 hz1 hz2 hz3 hzl hi1 hi2 hi3 hi4 HH HW HBV c0 c1 d0 c0' c1' c0'' c1'' c03 c13 q q' hXl z1 hm2 hw0
    simp only [putAll, List.foldl_cons, List.foldl_nil, List.setIfInBounds_toArray, List.set_cons_succ, List.set_cons_zero]
    have hAV : A < V.heap.size ∧ B < V.heap.size ∧ C < V.heap.size := by omega
    have hwA : w.heap.size + 1 < A ∧ w.heap.size + 1 < B ∧ w.heap.size + 1 < C := by
      have := HX1.out
      omega
    have q' := HHW.out.get 4 rfl
    have c0 := blk_cell q' 0; have c1 := blk_cell q' 1
    have hXl := blk_lt q'
    have c1' := fun o => cell_al c1 hXl o
    have hgb := HHW.out.below
    clear q' c0
    obtain ⟨hi1, hi2, hi3, hi4⟩ := HI.out
    go_wp2_with (at_builtin; go_must (refine wpList_append_own _ rfl _ _ 22 rfl (V.heap.size) 42 ei _ 4 48 undGths hi1 hi2 hi3 hi4 rfl (by decide) (.slice (some ⟨V.heap.size, 0, none⟩) 0 0) 0 [] rfl (empty_row (V) _ (by simp)) ⟨bb, off, none⟩ b.gs.length cap (gtCells zs) rfl (by rw [gtCells_length, HZL.out]) ?k1H6 ?k2H6 ?k3H6 ?k4H6 ?k5H6 ?k6H6))
    case k1H6 => exact HZ3.out _ (hgb.alloc hgb.size _)
    case k2H6 => exact gtCells_one (fun z hz => by obtain ⟨ca, ccap, e, -⟩ := HZ2.out z hz; exact ⟨ca, _, ccap, e⟩)
    case k3H6 => simp only [maxLen]; omega
    case k4H6 => omega
    case k5H6 => simp
    rintro v' w5 hown hgrow -
    have hb5 : Below (V).heap.size (V) w5 := ((Below.refl _ (V)).alloc (Nat.le_refl _) _).trans (below_row (empty_row (V) _ rfl) (by simp) (by simpa using hgrow))
    have hown : (w5).ownsRow (V.heap.size) 42 4 v' b.gs.length (gtCells zs) := by simpa using hown
    obtain ⟨g6, cap6, rfl, hg1, hg2⟩ := row_form hown (by omega)
    have H6 := Lib.hid (And.intro hown (And.intro hg1 hg2))
    have HHn := Lib.hid (HHW.out.below' hb5)
    have HB5 := Lib.hid hb5
    clear hown hgrow hb5 hi1 hi2 hi3 hi4 c1 c1' hXl hgb hg1 hg2
    have qa := HHn.out.get 0 rfl
    have HH2 : Hid (Held w (cgB b.signed A B C w.heap.size x y (.slice (some ⟨g6, 0, none⟩) b.gs.length cap6) (.slice (some ⟨bb, off, none⟩) b.gs.length cap) (.slice (some ⟨bb, off, none⟩) b.gs.length cap) (.slice (some ⟨bb, off, none⟩) b.gs.length cap)) (w5.setCell ⟨A, 1, none⟩ (.slice (some ⟨g6, 0, none⟩) b.gs.length cap6))) := Lib.hid (HHn.out.update qa (by omega) (fun p hp => by
      (simp only [List.mem_cons, List.not_mem_nil, or_false] at hp)
      rcases hp with rfl | rfl | rfl | rfl | rfl
      · exact Or.inl rfl
      · exact Or.inr ⟨by simp, by simp only; omega⟩
      · exact Or.inr ⟨by simp, by simp only; omega⟩
      · exact Or.inr ⟨by simp, by simp only; omega⟩
      · exact Or.inr ⟨by simp, by simp only; omega⟩))
    have a0 := blk_cell qa 0; have a1 := blk_cell qa 1
    have fa := blk_free qa 1
    clear qa HHn
    have q' := HH2.out.get 4 rfl
    have c0 := blk_cell q' 0; have c1 := blk_cell q' 1
    have hXl := blk_lt q'
    have c1' := fun o => cell_al c1 hXl o
    have hgb := HH2.out.below
    clear q' c0
    obtain ⟨hi1, hi2, hi3, hi4⟩ := HI.out
    go_wp2_with (at_builtin; go_must (refine wpList_append_own _ rfl _ _ 22 rfl (w5.heap.size) 42 ei _ 4 48 undGths hi1 hi2 hi3 hi4 rfl (by decide) (.slice (some ⟨w5.heap.size, 0, none⟩) 0 0) 0 [] rfl (empty_row (w5.setCell ⟨A, 1, none⟩ (.slice (some ⟨g6, 0, none⟩) b.gs.length cap6)) _ (by simp)) ⟨bb, off, none⟩ b.gs.length cap (gtCells zs) rfl (by rw [gtCells_length, HZL.out]) ?k1H7 ?k2H7 ?k3H7 ?k4H7 ?k5H7 ?k6H7))
    case k1H7 => exact HZ3.out _ (hgb.alloc hgb.size _)
    case k2H7 => exact gtCells_one (fun z hz => by obtain ⟨ca, ccap, e, -⟩ := HZ2.out z hz; exact ⟨ca, _, ccap, e⟩)
    case k3H7 => simp only [maxLen]; omega
    case k4H7 => omega
    case k5H7 => simp
    rintro v' w6 hown hgrow -
    have hb5 : Below (w5.setCell ⟨A, 1, none⟩ (.slice (some ⟨g6, 0, none⟩) b.gs.length cap6)).heap.size (w5.setCell ⟨A, 1, none⟩ (.slice (some ⟨g6, 0, none⟩) b.gs.length cap6)) w6 := ((Below.refl _ (w5.setCell ⟨A, 1, none⟩ (.slice (some ⟨g6, 0, none⟩) b.gs.length cap6))).alloc (Nat.le_refl _) _).trans (below_row (empty_row (w5.setCell ⟨A, 1, none⟩ (.slice (some ⟨g6, 0, none⟩) b.gs.length cap6)) _ rfl) (by simp) (by simpa using hgrow))
    have hown : (w6).ownsRow (w5.heap.size) 42 4 v' b.gs.length (gtCells zs) := by simpa using hown
    obtain ⟨g7, cap7, rfl, hg1, hg2⟩ := row_form hown (by omega)
    have H7 := Lib.hid (And.intro hown (And.intro hg1 hg2))
    have HHn := Lib.hid (HH2.out.below' hb5)
    have HB5 := Lib.hid hb5
    clear hown hgrow hb5 hi1 hi2 hi3 hi4 c1 c1' hXl hgb hg1 hg2
    have hs5 : w5.heap.size ≤ w6.heap.size := by have := HB5.out.size; simp at this; omega
    have hv5 : V.heap.size ≤ w5.heap.size := by have := H6.out.2; omega
    have hg67 : g6 < g7 := by have := H6.out.2; have := H7.out.2; omega
    have H6 := Lib.hid (And.intro (row_below (row_kept1 H6.out.1 (Only.set A 1 (.slice (some ⟨g6, 0, none⟩) b.gs.length cap6) (Only.refl A w5)) (by have := H6.out.2; omega)) HB5.out) (And.intro H6.out.2.1 (show g6 < w6.heap.size by have := H6.out.2; omega)))
    clear a0 a1 fa HB5
    clear HH2
    have qb_ := HHn.out.get 1 rfl
    have HH3 : Hid (Held w (cgB b.signed A B C w.heap.size x y (.slice (some ⟨g6, 0, none⟩) b.gs.length cap6) (.slice (some ⟨g7, 0, none⟩) b.gs.length cap7) (.slice (some ⟨bb, off, none⟩) b.gs.length cap) (.slice (some ⟨bb, off, none⟩) b.gs.length cap)) (w6.setCell ⟨B, 1, none⟩ (.slice (some ⟨g7, 0, none⟩) b.gs.length cap7))) := Lib.hid (HHn.out.update qb_ (by omega) (fun p hp => by
      (simp only [List.mem_cons, List.not_mem_nil, or_false] at hp)
      rcases hp with rfl | rfl | rfl | rfl | rfl
      · exact Or.inr ⟨by simp, by simp only; omega⟩
      · exact Or.inl rfl
      · exact Or.inr ⟨by simp, by simp only; omega⟩
      · exact Or.inr ⟨by simp, by simp only; omega⟩
      · exact Or.inr ⟨by simp, by simp only; omega⟩))
    have b_0 := blk_cell qb_ 0; have b_1 := blk_cell qb_ 1
    have fb_ := blk_free qb_ 1
    clear qb_ HHn
    have q' := HH3.out.get 4 rfl
    have c0 := blk_cell q' 0; have c1 := blk_cell q' 1
    have hXl := blk_lt q'
    have c1' := fun o => cell_al c1 hXl o
    have hgb := HH3.out.below
    clear q' c0
    obtain ⟨hi1, hi2, hi3, hi4⟩ := HI.out
    go_wp2_with (at_builtin; go_must (refine wpList_append_own _ rfl _ _ 22 rfl (w6.heap.size) 42 ei _ 4 48 undGths hi1 hi2 hi3 hi4 rfl (by decide) (.slice (some ⟨w6.heap.size, 0, none⟩) 0 0) 0 [] rfl (empty_row (w6.setCell ⟨B, 1, none⟩ (.slice (some ⟨g7, 0, none⟩) b.gs.length cap7)) _ (by simp)) ⟨bb, off, none⟩ b.gs.length cap (gtCells zs) rfl (by rw [gtCells_length, HZL.out]) ?k1H8 ?k2H8 ?k3H8 ?k4H8 ?k5H8 ?k6H8))
    case k1H8 => exact HZ3.out _ (hgb.alloc hgb.size _)
    case k2H8 => exact gtCells_one (fun z hz => by obtain ⟨ca, ccap, e, -⟩ := HZ2.out z hz; exact ⟨ca, _, ccap, e⟩)
    case k3H8 => simp only [maxLen]; omega
    case k4H8 => omega
    case k5H8 => simp
    rintro v' w7 hown hgrow -
    have hb5 : Below (w6.setCell ⟨B, 1, none⟩ (.slice (some ⟨g7, 0, none⟩) b.gs.length cap7)).heap.size (w6.setCell ⟨B, 1, none⟩ (.slice (some ⟨g7, 0, none⟩) b.gs.length cap7)) w7 := ((Below.refl _ (w6.setCell ⟨B, 1, none⟩ (.slice (some ⟨g7, 0, none⟩) b.gs.length cap7))).alloc (Nat.le_refl _) _).trans (below_row (empty_row (w6.setCell ⟨B, 1, none⟩ (.slice (some ⟨g7, 0, none⟩) b.gs.length cap7)) _ rfl) (by simp) (by simpa using hgrow))
    have hown : (w7).ownsRow (w6.heap.size) 42 4 v' b.gs.length (gtCells zs) := by simpa using hown
    obtain ⟨g8, cap8, rfl, hg1, hg2⟩ := row_form hown (by omega)
    have H8 := Lib.hid (And.intro hown (And.intro hg1 hg2))
    have HHn := Lib.hid (HH3.out.below' hb5)
    have HB5 := Lib.hid hb5
    clear hown hgrow hb5 hi1 hi2 hi3 hi4 c1 c1' hXl hgb hg1 hg2
    have hs6 : w6.heap.size ≤ w7.heap.size := by have := HB5.out.size; simp at this; omega
    have H6 := Lib.hid (And.intro (row_below (row_kept1 H6.out.1 (Only.set B 1 (.slice (some ⟨g7, 0, none⟩) b.gs.length cap7) (Only.refl B w6)) (by have := H6.out.2; omega)) HB5.out) (And.intro H6.out.2.1 (show g6 < w7.heap.size by have := H6.out.2; omega)))
    have hg78 : g7 < g8 := by have := H7.out.2; have := H8.out.2; omega
    have H7 := Lib.hid (And.intro (row_below (row_kept1 H7.out.1 (Only.set B 1 (.slice (some ⟨g7, 0, none⟩) b.gs.length cap7) (Only.refl B w6)) (by have := H7.out.2; omega)) HB5.out) (And.intro H7.out.2.1 (show g7 < w7.heap.size by have := H7.out.2; omega)))
    clear b_0 b_1 fb_ HB5 HH3
    have qc_ := HHn.out.get 2 rfl
    have HH4 : Hid (Held w (cgB b.signed A B C w.heap.size x y (.slice (some ⟨g6, 0, none⟩) b.gs.length cap6) (.slice (some ⟨g7, 0, none⟩) b.gs.length cap7) (.slice (some ⟨g8, 0, none⟩) b.gs.length cap8) (.slice (some ⟨bb, off, none⟩) b.gs.length cap)) (w7.setCell ⟨C, 1, none⟩ (.slice (some ⟨g8, 0, none⟩) b.gs.length cap8))) := Lib.hid (HHn.out.update qc_ (by omega) (fun p hp => by
      (simp only [List.mem_cons, List.not_mem_nil, or_false] at hp)
      rcases hp with rfl | rfl | rfl | rfl | rfl
      · exact Or.inr ⟨by simp, by simp only; omega⟩
      · exact Or.inr ⟨by simp, by simp only; omega⟩
      · exact Or.inl rfl
      · exact Or.inr ⟨by simp, by simp only; omega⟩
      · exact Or.inr ⟨by simp, by simp only; omega⟩))
    have c_0 := blk_cell qc_ 0; have c_1 := blk_cell qc_ 1
    have fc_ := blk_free qc_ 1
    clear qc_ HHn
    have hs7 : w6.heap.size ≤ w7.heap.size := hs6
    have q := HH4.out.get 4 rfl
    have c0 := blk_cell q 0; have c1 := blk_cell q 1
    obtain ⟨bb', off', e', -, ca, ccap, hch, g0, g1, g2, g3⟩ := HGS.out.get HG.out
    cases e'
    have t0 := (HH4.out.below.cell (p := ⟨bb, off + k * 4, none⟩) hbb).trans g0
    have t1 := (HH4.out.below.cell (p := ⟨bb, off + k * 4 + 1, none⟩) hbb).trans g1
    have t2 := (HH4.out.below.cell (p := ⟨bb, off + k * 4 + 2, none⟩) hbb).trans g2
    have t3 := (HH4.out.below.cell (p := ⟨bb, off + k * 4 + 3, none⟩) hbb).trans g3
    rw [HL.out] at t2
    have HCH := Lib.hid hch
    clear hch g0 g1 g2 g3 q hs7
    have HHG : Hid (Held w ((w7.heap.size, gtO g.round g.letter L (.slice ca g.chs.length ccap)) :: cgB b.signed A B C w.heap.size x y (.slice (some ⟨g6, 0, none⟩) b.gs.length cap6) (.slice (some ⟨g7, 0, none⟩) b.gs.length cap7) (.slice (some ⟨g8, 0, none⟩) b.gs.length cap8) (.slice (some ⟨bb, off, none⟩) b.gs.length cap)) ((w7.setCell ⟨C, 1, none⟩ (.slice (some ⟨g8, 0, none⟩) b.gs.length cap8)).alloc (gtO g.round g.letter L (.slice ca g.chs.length ccap)))) := Lib.hid (by
      have h := HH4.out.add (gtO g.round g.letter L (.slice ca g.chs.length ccap))
      simpa using h)
    have q := HHG.out.get 4 rfl
    have e0 := blk_cell q 0; have e1 := blk_cell q 1
    have q' := HHG.out.get 0 rfl
    have f0 := blk_cell q' 0; have f1 := blk_cell q' 1; have f2 := blk_cell q' 2; have f3 := blk_cell q' 3
    have fG := blk_free q' 3
    have HHg : Hid (Held w ((w7.heap.size, gtO g.round g.letter L (.slice none 0 0)) :: cgB b.signed A B C w.heap.size x y (.slice (some ⟨g6, 0, none⟩) b.gs.length cap6) (.slice (some ⟨g7, 0, none⟩) b.gs.length cap7) (.slice (some ⟨g8, 0, none⟩) b.gs.length cap8) (.slice (some ⟨bb, off, none⟩) b.gs.length cap)) ((w7.setCell ⟨C, 1, none⟩ (.slice (some ⟨g8, 0, none⟩) b.gs.length cap8)).alloc (gtO g.round g.letter L (.slice none 0 0)))) := Lib.hid (by
      have h := HH4.out.add (gtO g.round g.letter L (.slice none 0 0))
      simpa using h)
    obtain ⟨m, hm⟩ : ∃ m, m = y % L := ⟨_, rfl⟩
    have hL0 : 0 < L := by have := HL.out; omega
    have hL12 : L ≤ 12 := by have := HL.out; omega
    have hmL : m < L := by rw [hm]; exact Nat.mod_lt y hL0
    have hnm : n = 1 + m := by have := HN.out; omega
    have hm3 : (y : Int).tmod (L : Int) = (m : Int) := by rw [hm]; exact tmod_nat y L
    have hn3 : wrap64 ((1 : Int) + (m : Int)) = (n : Int) := by unfold wrap64; omega
    have d3 : ¬ (L : Int) = 0 := by omega
    clear hnm hmL
    have HM := Lib.hid hm
    clear hm q q'
    go_upto_region 11 with fail
    rw [hn3]
    clear hn3 hm3
    have H6 := Lib.hid (And.intro (row_below (row_kept1 H6.out.1 (Only.set C 1 (.slice (some ⟨g8, 0, none⟩) b.gs.length cap8) (Only.refl C w7)) (by have := H6.out.2; omega)) ((Below.refl _ (w7.setCell ⟨C, 1, none⟩ (.slice (some ⟨g8, 0, none⟩) b.gs.length cap8))).alloc (Nat.le_refl _) (gtO g.round g.letter L (.slice none 0 0)))) H6.out.2)
    have H7 := Lib.hid (And.intro (row_below (row_kept1 H7.out.1 (Only.set C 1 (.slice (some ⟨g8, 0, none⟩) b.gs.length cap8) (Only.refl C w7)) (by have := H7.out.2; omega)) ((Below.refl _ (w7.setCell ⟨C, 1, none⟩ (.slice (some ⟨g8, 0, none⟩) b.gs.length cap8))).alloc (Nat.le_refl _) (gtO g.round g.letter L (.slice none 0 0)))) H7.out.2)
    have H8 := Lib.hid (And.intro (row_below (row_kept1 H8.out.1 (Only.set C 1 (.slice (some ⟨g8, 0, none⟩) b.gs.length cap8) (Only.refl C w7)) (by have := H8.out.2; omega)) ((Below.refl _ (w7.setCell ⟨C, 1, none⟩ (.slice (some ⟨g8, 0, none⟩) b.gs.length cap8))).alloc (Nat.le_refl _) (gtO g.round g.letter L (.slice none 0 0)))) H8.out.2)
    obtain ⟨W9, hW9⟩ : ∃ W9 : World, W9 = ((w7.setCell ⟨C, 1, none⟩ (.slice (some ⟨g8, 0, none⟩) b.gs.length cap8)).alloc (gtO g.round g.letter L (.slice none 0 0))) := ⟨_, rfl⟩
    rw [← hW9] at HHg H6 H7 H8 ⊢
    have hz9 : W9.heap.size = w7.heap.size + 1 := by rw [hW9]; simp
    have HS9 := Lib.hid hz9
    clear hz9 hW9 HHG HH4
    obtain ⟨zk, hzk⟩ : ∃ z, zs[k]? = some z := ⟨_, List.getElem?_eq_getElem (by have := HZL.out; omega)⟩
    have p1 := HHg.out.get 1 rfl
    have h0 := blk_cell p1 0; have h1 := blk_cell p1 1
    have p0 := HHg.out.get 0 rfl
    have i0 := blk_cell p0 0; have i1 := blk_cell p0 1; have i2 := blk_cell p0 2; have i3 := blk_cell p0 3
    have zl := HZL.out
    have r0 := (H6.out.1.cellAt (k * 4) (by omega)).trans (gtCells_at zs k zk hzk).1
    have r1 := (H6.out.1.cellAt (k * 4 + 1) (by omega)).trans (gtCells_at zs k zk hzk).2.1
    have r2 := (H6.out.1.cellAt (k * 4 + 2) (by omega)).trans (gtCells_at zs k zk hzk).2.2.1
    have r3 := (H6.out.1.cellAt (k * 4 + 3) (by omega)).trans (gtCells_at zs k zk hzk).2.2.2
    have e0 := H6.out.1.frozenAt (k * 4)
    have e1 := H6.out.1.frozenAt (k * 4 + 1)
    have e2 := H6.out.1.frozenAt (k * 4 + 2)
    have e3 := H6.out.1.frozenAt (k * 4 + 3)
    clear p0 p1 zl
    go_upto_region 12 with fail
    obtain ⟨W10, hWn⟩ : ∃ Wn : World, Wn = ((((W9).setCell ⟨g6, k * 4, none⟩ (.int .i64 g.round)).setCell ⟨g6, k * 4 + 1, none⟩ (.int .i64 g.letter)).setCell ⟨g6, k * 4 + 2, none⟩ (.int .i64 (L : Int))).setCell ⟨g6, k * 4 + 3, none⟩ (.slice none 0 0) := ⟨_, rfl⟩
    rw [← hWn]
    have ho : Only g6 (W9) W10 := by rw [hWn]; exact (((Only.set g6 _ _ (Only.refl g6 _)).set g6 _ _).set g6 _ _).set g6 _ _
    have K6 := Lib.hid (And.intro (show (W10).ownsRow _ 42 4 (.slice (some ⟨g6, 0, none⟩) b.gs.length cap6) b.gs.length (gtCells (zs.set k (⟨g.round, g.letter, g.leaves, []⟩, (.slice none 0 0)))) from by
      have h := row_set H6.out.1 HZL.out hkL ((⟨g.round, g.letter, g.leaves, []⟩, (.slice none 0 0)) : Gth × Value)
      simp only at h
      rw [HL.out, ← hWn, ← HL.out] at h
      exact h) H6.out.2)
    have HH10 := Lib.hid (HHg.out.only1 ho (by have := H6.out.2; omega) (fun p hp => by
      (simp only [List.mem_cons, List.not_mem_nil, or_false] at hp)
      have := H6.out.2
      rcases hp with rfl | rfl | rfl | rfl | rfl | rfl <;> (simp only; omega)))
    have HO := Lib.hid ho
    clear ho hWn h0 h1 i0 i1 i2 i3 r0 r1 r2 r3 e0 e1 e2 e3
    have K7 := Lib.hid (And.intro (row_kept1 H7.out.1 HO.out (by omega)) H7.out.2)
    have K8 := Lib.hid (And.intro (row_kept1 H8.out.1 HO.out (by omega)) H8.out.2)
    have hzz := Lib.hid (HO.out.size.trans HS9.out)
    clear HO HHg H6 H7 H8
    obtain ⟨h11, hHc⟩ : ∃ h : Nat, h = (W10).heap.size := ⟨_, rfl⟩
    have hcz : h11 = w7.heap.size + 1 := hHc.trans hzz.out
    have HXa := Lib.hid (HH10.out.below' (((Below.refl _ (W10)).alloc (Nat.le_refl _) (chO 1 n)).mono (by have := hzz.out; have := HH10.out.below.size; omega)))
    have p0 := HXa.out.get 0 rfl
    have i0 := blk_cell p0 0; have i1 := blk_cell p0 1; have i2 := blk_cell p0 2; have i3 := blk_cell p0 3
    have fi := blk_free p0 3
    have P0 := Lib.hid p0
    have HHC := Lib.hid hHc
    have HCZ := Lib.hid hcz
    clear p0 hHc hcz
    go_upto_region 13 with fail
    rw [← HHC.out]
    obtain ⟨W11, hWn⟩ : ∃ Wn : World, Wn = ((W10).alloc (chO 1 n)).setCell ⟨w7.heap.size, 3, none⟩ (.slice (some ⟨h11, 0, none⟩) 1 1) := ⟨_, rfl⟩
    rw [← hWn]
    have HA := Lib.hid ((Below.refl _ (W10)).alloc (Nat.le_refl _) (chO 1 n))
    have HO : Hid (Only (w7.heap.size) ((W10).alloc (chO 1 n)) W11) := Lib.hid (by rw [hWn]; exact Only.set _ _ _ (Only.refl _ _))
    have HH11 : Hid (Held w ((w7.heap.size, gtO g.round g.letter L (.slice (some ⟨h11, 0, none⟩) 1 1)) :: cgB b.signed A B C w.heap.size x y (.slice (some ⟨g6, 0, none⟩) b.gs.length cap6) (.slice (some ⟨g7, 0, none⟩) b.gs.length cap7) (.slice (some ⟨g8, 0, none⟩) b.gs.length cap8) (.slice (some ⟨bb, off, none⟩) b.gs.length cap)) W11) := Lib.hid (by
      rw [hWn]
      exact HXa.out.upd P0.out (by omega) rfl (fun p hp => by
        (simp only [List.mem_cons, List.not_mem_nil, or_false] at hp)
        rcases hp with rfl | rfl | rfl | rfl | rfl | rfl
        · exact Or.inl rfl
        · exact Or.inr ⟨by simp, by simp only; omega⟩
        · exact Or.inr ⟨by simp, by simp only; omega⟩
        · exact Or.inr ⟨by simp, by simp only; omega⟩
        · exact Or.inr ⟨by simp, by simp only; omega⟩
        · exact Or.inr ⟨by simp, by simp only; omega⟩))
    have C11 : Hid ((W11).heap[h11]? = some (chO 1 n)) := Lib.hid ((HO.out.block _ (by have := HCZ.out; omega)).trans (by rw [HHC.out]; exact World.alloc_heap_new _ _))
    have hzn : (W11).heap.size = w7.heap.size + 1 + 1 := HO.out.size.trans (by have := hzz.out; simp; omega)
    have hzz := Lib.hid hzn
    clear hzn hWn HXa P0 HHC i0 i1 i2 i3 fi
    have L6 := Lib.hid (And.intro (row_kept1 (row_below K6.out.1 HA.out) HO.out (by have := K6.out.2; omega)) K6.out.2)
    have L7 := Lib.hid (And.intro (row_kept1 (row_below K7.out.1 HA.out) HO.out (by have := K7.out.2; omega)) K7.out.2)
    have L8 := Lib.hid (And.intro (row_kept1 (row_below K8.out.1 HA.out) HO.out (by have := K8.out.2; omega)) K8.out.2)
    have HC1 := HCZ
    clear HA HO HH10 K6 K7 K8 HCZ
    have p1 := HH11.out.get 2 rfl
    have h0 := blk_cell p1 0; have h1 := blk_cell p1 1
    have p0 := HH11.out.get 0 rfl
    have i0 := blk_cell p0 0; have i1 := blk_cell p0 1; have i2 := blk_cell p0 2; have i3 := blk_cell p0 3
    have zl := HZL.out
    have r0 := (L7.out.1.cellAt (k * 4) (by omega)).trans (gtCells_at zs k zk hzk).1
    have r1 := (L7.out.1.cellAt (k * 4 + 1) (by omega)).trans (gtCells_at zs k zk hzk).2.1
    have r2 := (L7.out.1.cellAt (k * 4 + 2) (by omega)).trans (gtCells_at zs k zk hzk).2.2.1
    have r3 := (L7.out.1.cellAt (k * 4 + 3) (by omega)).trans (gtCells_at zs k zk hzk).2.2.2
    have e0 := L7.out.1.frozenAt (k * 4)
    have e1 := L7.out.1.frozenAt (k * 4 + 1)
    have e2 := L7.out.1.frozenAt (k * 4 + 2)
    have e3 := L7.out.1.frozenAt (k * 4 + 3)
    clear p0 p1 zl
    go_upto_region 14 with fail
    obtain ⟨W12, hWn⟩ : ∃ Wn : World, Wn = ((((W11).setCell ⟨g7, k * 4, none⟩ (.int .i64 g.round)).setCell ⟨g7, k * 4 + 1, none⟩ (.int .i64 g.letter)).setCell ⟨g7, k * 4 + 2, none⟩ (.int .i64 (L : Int))).setCell ⟨g7, k * 4 + 3, none⟩ (.slice (some ⟨h11, 0, none⟩) 1 1) := ⟨_, rfl⟩
    rw [← hWn]
    have ho : Only g7 (W11) W12 := by rw [hWn]; exact (((Only.set g7 _ _ (Only.refl g7 _)).set g7 _ _).set g7 _ _).set g7 _ _
    have M7 := Lib.hid (And.intro (show (W12).ownsRow _ 42 4 (.slice (some ⟨g7, 0, none⟩) b.gs.length cap7) b.gs.length (gtCells (zs.set k (⟨g.round, g.letter, g.leaves, [⟨1, n, 0⟩]⟩, (.slice (some ⟨h11, 0, none⟩) 1 1)))) from by
      have h := row_set L7.out.1 HZL.out hkL ((⟨g.round, g.letter, g.leaves, [⟨1, n, 0⟩]⟩, (.slice (some ⟨h11, 0, none⟩) 1 1)) : Gth × Value)
      simp only at h
      rw [HL.out, ← hWn, ← HL.out] at h
      exact h) L7.out.2)
    have HH12 := Lib.hid (HH11.out.only1 ho (by have := L7.out.2; omega) (fun p hp => by
      (simp only [List.mem_cons, List.not_mem_nil, or_false] at hp)
      have := L7.out.2
      rcases hp with rfl | rfl | rfl | rfl | rfl | rfl <;> (simp only; omega)))
    have HO := Lib.hid ho
    clear ho hWn h0 h1 i0 i1 i2 i3 r0 r1 r2 r3 e0 e1 e2 e3
    have M6 := Lib.hid (And.intro (row_kept1 L6.out.1 HO.out (by omega)) L6.out.2)
    have M8 := Lib.hid (And.intro (row_kept1 L8.out.1 HO.out (by omega)) L8.out.2)
    have C12 := Lib.hid ((HO.out.block _ (by have := HC1.out; have := L7.out.2; omega)).trans C11.out)
    have hzz := Lib.hid (HO.out.size.trans hzz.out)
    clear HO HH11 L6 L7 L8 C11
    obtain ⟨h13, hHc⟩ : ∃ h : Nat, h = (W12).heap.size := ⟨_, rfl⟩
    have hcz : h13 = w7.heap.size + 2 := hHc.trans hzz.out
    have HXa := Lib.hid (HH12.out.below' (((Below.refl _ (W12)).alloc (Nat.le_refl _) (chO 2 n)).mono (by have := hzz.out; have := HH12.out.below.size; omega)))
    have p0 := HXa.out.get 0 rfl
    have i0 := blk_cell p0 0; have i1 := blk_cell p0 1; have i2 := blk_cell p0 2; have i3 := blk_cell p0 3
    have fi := blk_free p0 3
    have P0 := Lib.hid p0
    have HHC := Lib.hid hHc
    have HCZ := Lib.hid hcz
    clear p0 hHc hcz
    go_upto_region 15 with fail
    rw [← HHC.out]
    obtain ⟨W13, hWn⟩ : ∃ Wn : World, Wn = ((W12).alloc (chO 2 n)).setCell ⟨w7.heap.size, 3, none⟩ (.slice (some ⟨h13, 0, none⟩) 1 1) := ⟨_, rfl⟩
    rw [← hWn]
    have HA := Lib.hid ((Below.refl _ (W12)).alloc (Nat.le_refl _) (chO 2 n))
    have HO : Hid (Only (w7.heap.size) ((W12).alloc (chO 2 n)) W13) := Lib.hid (by rw [hWn]; exact Only.set _ _ _ (Only.refl _ _))
    have HH13 : Hid (Held w ((w7.heap.size, gtO g.round g.letter L (.slice (some ⟨h13, 0, none⟩) 1 1)) :: cgB b.signed A B C w.heap.size x y (.slice (some ⟨g6, 0, none⟩) b.gs.length cap6) (.slice (some ⟨g7, 0, none⟩) b.gs.length cap7) (.slice (some ⟨g8, 0, none⟩) b.gs.length cap8) (.slice (some ⟨bb, off, none⟩) b.gs.length cap)) W13) := Lib.hid (by
      rw [hWn]
      exact HXa.out.upd P0.out (by omega) rfl (fun p hp => by
        (simp only [List.mem_cons, List.not_mem_nil, or_false] at hp)
        rcases hp with rfl | rfl | rfl | rfl | rfl | rfl
        · exact Or.inl rfl
        · exact Or.inr ⟨by simp, by simp only; omega⟩
        · exact Or.inr ⟨by simp, by simp only; omega⟩
        · exact Or.inr ⟨by simp, by simp only; omega⟩
        · exact Or.inr ⟨by simp, by simp only; omega⟩
        · exact Or.inr ⟨by simp, by simp only; omega⟩))
    have C13 : Hid ((W13).heap[h13]? = some (chO 2 n)) := Lib.hid ((HO.out.block _ (by have := HCZ.out; omega)).trans (by rw [HHC.out]; exact World.alloc_heap_new _ _))
    have hzn : (W13).heap.size = w7.heap.size + 2 + 1 := HO.out.size.trans (by have := hzz.out; simp; omega)
    have hzz := Lib.hid hzn
    clear hzn hWn HXa P0 HHC i0 i1 i2 i3 fi
    have N6 := Lib.hid (And.intro (row_kept1 (row_below M6.out.1 HA.out) HO.out (by have := M6.out.2; omega)) M6.out.2)
    have N7 := Lib.hid (And.intro (row_kept1 (row_below M7.out.1 HA.out) HO.out (by have := M7.out.2; omega)) M7.out.2)
    have N8 := Lib.hid (And.intro (row_kept1 (row_below M8.out.1 HA.out) HO.out (by have := M8.out.2; omega)) M8.out.2)
    have D13 := Lib.hid ((HO.out.block _ (by have := HC1.out; omega)).trans ((HA.out.block _ (by have := HC1.out; have := hzz.out; have := HO.out.size; simp at this; omega)).trans C12.out))
    have HC2 := HCZ
    clear HA HO HH12 M6 M7 M8 HCZ C12
    have p1 := HH13.out.get 3 rfl
    have h0 := blk_cell p1 0; have h1 := blk_cell p1 1
    have p0 := HH13.out.get 0 rfl
    have i0 := blk_cell p0 0; have i1 := blk_cell p0 1; have i2 := blk_cell p0 2; have i3 := blk_cell p0 3
    have zl := HZL.out
    have r0 := (N8.out.1.cellAt (k * 4) (by omega)).trans (gtCells_at zs k zk hzk).1
    have r1 := (N8.out.1.cellAt (k * 4 + 1) (by omega)).trans (gtCells_at zs k zk hzk).2.1
    have r2 := (N8.out.1.cellAt (k * 4 + 2) (by omega)).trans (gtCells_at zs k zk hzk).2.2.1
    have r3 := (N8.out.1.cellAt (k * 4 + 3) (by omega)).trans (gtCells_at zs k zk hzk).2.2.2
    have e0 := N8.out.1.frozenAt (k * 4)
    have e1 := N8.out.1.frozenAt (k * 4 + 1)
    have e2 := N8.out.1.frozenAt (k * 4 + 2)
    have e3 := N8.out.1.frozenAt (k * 4 + 3)
    clear p0 p1 zl
    go_upto_region 16 with fail
    obtain ⟨W14, hWn⟩ : ∃ Wn : World, Wn = ((((W13).setCell ⟨g8, k * 4, none⟩ (.int .i64 g.round)).setCell ⟨g8, k * 4 + 1, none⟩ (.int .i64 g.letter)).setCell ⟨g8, k * 4 + 2, none⟩ (.int .i64 (L : Int))).setCell ⟨g8, k * 4 + 3, none⟩ (.slice (some ⟨h13, 0, none⟩) 1 1) := ⟨_, rfl⟩
    rw [← hWn]
    have ho : Only g8 (W13) W14 := by rw [hWn]; exact (((Only.set g8 _ _ (Only.refl g8 _)).set g8 _ _).set g8 _ _).set g8 _ _
    have O8 := Lib.hid (And.intro (show (W14).ownsRow _ 42 4 (.slice (some ⟨g8, 0, none⟩) b.gs.length cap8) b.gs.length (gtCells (zs.set k (⟨g.round, g.letter, g.leaves, [⟨2, n, 0⟩]⟩, (.slice (some ⟨h13, 0, none⟩) 1 1)))) from by
      have h := row_set N8.out.1 HZL.out hkL ((⟨g.round, g.letter, g.leaves, [⟨2, n, 0⟩]⟩, (.slice (some ⟨h13, 0, none⟩) 1 1)) : Gth × Value)
      simp only at h
      rw [HL.out, ← hWn, ← HL.out] at h
      exact h) N8.out.2)
    have HH14 := Lib.hid (HH13.out.only1 ho (by have := N8.out.2; omega) (fun p hp => by
      (simp only [List.mem_cons, List.not_mem_nil, or_false] at hp)
      have := N8.out.2
      rcases hp with rfl | rfl | rfl | rfl | rfl | rfl <;> (simp only; omega)))
    have HO := Lib.hid ho
    clear ho hWn h0 h1 i0 i1 i2 i3 r0 r1 r2 r3 e0 e1 e2 e3
    have O6 := Lib.hid (And.intro (row_kept1 N6.out.1 HO.out (by omega)) N6.out.2)
    have O7 := Lib.hid (And.intro (row_kept1 N7.out.1 HO.out (by omega)) N7.out.2)
    have C14 := Lib.hid ((HO.out.block _ (by have := HC2.out; have := N8.out.2; omega)).trans C13.out)
    have D14 := Lib.hid ((HO.out.block _ (by have := HC1.out; have := N8.out.2; omega)).trans D13.out)
    have hzz := Lib.hid (HO.out.size.trans hzz.out)
    clear HO HH13 N6 N7 N8 C13 D13
    have BA := Lib.hid (show BookAt W14.heap.size W14 (.agg #[.int .i64 b.signed, .slice (some ⟨g6, 0, none⟩) b.gs.length cap6]) (withC b k g []) from row_book HZ1.out HZ2.out HH14.out.below HH14.out.below.size O6.out.1 HZL.out (by have := O6.out.2; have := hzz.out; omega) (chs_nil _ _))
    have BB := Lib.hid (show BookAt W14.heap.size W14 (.agg #[.int .i64 b.signed, .slice (some ⟨g7, 0, none⟩) b.gs.length cap7]) (withC b k g [⟨1, n, 0⟩]) from row_book HZ1.out HZ2.out HH14.out.below HH14.out.below.size O7.out.1 HZL.out (by have := O7.out.2; have := hzz.out; omega) (chs_one D14.out (by have := HC1.out; have := hzz.out; omega)))
    have BC := Lib.hid (show BookAt W14.heap.size W14 (.agg #[.int .i64 b.signed, .slice (some ⟨g8, 0, none⟩) b.gs.length cap8]) (withC b k g [⟨2, n, 0⟩]) from row_book HZ1.out HZ2.out HH14.out.below HH14.out.below.size O8.out.1 HZL.out (by have := O8.out.2; have := hzz.out; omega) (chs_one C14.out (by have := HC2.out; have := hzz.out; omega)))
    clear O6 O7 O8 C14 D14 HC1 HC2
    have q := HH14.out.get 0 rfl
    have i0 := blk_cell q 0; have i1 := blk_cell q 1; have i2 := blk_cell q 2; have i3 := blk_cell q 3
    clear q
    go_wp2_with fail
    refine (refWritten_any g.round g.letter HCD.out.gok.sig _).mono ?_
    rintro e w15 ⟨rfl, hb⟩
    have HH14 := Lib.hid (HH14.out.below' hb)
    have BA := Lib.hid ((BA.out.below hb (Nat.le_refl _)).mono hb.size)
    have BB := Lib.hid ((BB.out.below hb (Nat.le_refl _)).mono hb.size)
    have BC := Lib.hid ((BC.out.below hb (Nat.le_refl _)).mono hb.size)
    clear hb
    clear i0 i1 i2 i3
    go_wp2_with fail
    refine (refDig_any (n : Int) (by omega) (by omega) _).mono ?_
    rintro e w16 ⟨rfl, hb⟩
    have HH14 := Lib.hid (HH14.out.below' hb)
    have BA := Lib.hid ((BA.out.below hb (Nat.le_refl _)).mono hb.size)
    have BB := Lib.hid ((BB.out.below hb (Nat.le_refl _)).mono hb.size)
    have BC := Lib.hid ((BC.out.below hb (Nat.le_refl _)).mono hb.size)
    clear hb
    obtain ⟨T, hT⟩ : ∃ T, T = nameT g.round g.letter n 0 := ⟨_, rfl⟩
    have hTe : T = sigT g.round g.letter ++ dec (n : Int) := by rw [hT]; simp [nameT]
    have hcat : ((⟨(sigT g.round g.letter).toArray⟩ : ByteArray) ++ ⟨(dec (n : Int)).toArray⟩) = ⟨T.toArray⟩ := by rw [hTe]; exact cat_bytes _ _
    have zs1 : (⟨(sigT g.round g.letter).toArray⟩ : ByteArray).size ≤ 5 := by rw [size_bytes]; exact sigT_len _ _
    have zl1 : (⟨(dec (n : Int)).toArray⟩ : ByteArray).size ≤ 2 := by rw [size_bytes]; exact dec_len _
    clear hTe
    have HT := Lib.hid hT
    clear hT
    have q := HH14.out.get 1 rfl
    have h0 := blk_cell q 0; have h1 := blk_cell q 1
    clear q
    go_wp2_with fail
    refine (Leaves_good _ _ _ BA.out HCD.out.plainOk).mono ?_
    rintro e w17 ⟨⟨v', rfl, hrow⟩, hb⟩
    obtain ⟨ra, rcap, rfl, -⟩ := LfsAt.of_row hrow
    have HH14 := Lib.hid (HH14.out.below' hb)
    have BA := Lib.hid ((BA.out.below hb (Nat.le_refl _)).mono hb.size)
    have BB := Lib.hid ((BB.out.below hb (Nat.le_refl _)).mono hb.size)
    have BC := Lib.hid ((BC.out.below hb (Nat.le_refl _)).mono hb.size)
    clear hb
    clear hrow h0 h1 hcat zs1 zl1
    obtain ⟨M, hM⟩ : ∃ M, M = (lvs (withC b k g [])).length := ⟨_, rfl⟩
    obtain ⟨F, hF⟩ : ∃ F, F = (befL b k n).length := ⟨_, rfl⟩
    have hFM : F < M := by rw [hF, hM]; exact (List.getElem?_eq_some_iff.1 HCD.out.here).1
    rw [← hM]
    have hM1 : M < 1000000 := by rw [hM]; have := lvs_few (errF_zero HCD.out.plainOk); omega
    have HM1 := Lib.hid hM
    have HF1 := Lib.hid hF
    clear hM
    have q := HH14.out.get 1 rfl
    have h0 := blk_cell q 0; have h1 := blk_cell q 1
    clear q
    have hf := Find_good (withC b k g []) (.agg #[.int .i64 b.signed, .slice (some ⟨g6, 0, none⟩) b.gs.length cap6]) (nameT g.round g.letter n 0) w17 BA.out HCD.out.plainOk
    rw [HCD.out.find, ← HT.out, ← hF] at hf
    clear hF
    have HFI := Lib.hid hf
    clear hf
    go_wp2_with fail
    refine HFI.out.mono ?_
    rintro e w18 ⟨rfl, hb⟩
    have HH14 := Lib.hid (HH14.out.below' hb)
    have BA := Lib.hid ((BA.out.below hb (Nat.le_refl _)).mono hb.size)
    have BB := Lib.hid ((BB.out.below hb (Nat.le_refl _)).mono hb.size)
    have BC := Lib.hid ((BC.out.below hb (Nat.le_refl _)).mono hb.size)
    clear hb
    clear h0 h1 HFI
    have f1 : ¬ (F : Int) < 0 := by omega
    have f2 : ¬ (M : Int) ≤ (F : Int) := by omega
    have q := HH14.out.get 2 rfl
    have h0 := blk_cell q 0; have h1 := blk_cell q 1
    clear q
    have hf := Find_good (withC b k g [⟨1, n, 0⟩]) (.agg #[.int .i64 b.signed, .slice (some ⟨g7, 0, none⟩) b.gs.length cap7]) (nameT g.round g.letter n 0) w18 BB.out HCD.out.lessOk
    rw [HCD.out.gone, ← HT.out] at hf
    have HFI := Lib.hid hf
    clear hf
    go_wp2_with fail
    refine HFI.out.mono ?_
    rintro e w19 ⟨rfl, hb⟩
    have HH14 := Lib.hid (HH14.out.below' hb)
    have BA := Lib.hid ((BA.out.below hb (Nat.le_refl _)).mono hb.size)
    have BB := Lib.hid ((BB.out.below hb (Nat.le_refl _)).mono hb.size)
    have BC := Lib.hid ((BC.out.below hb (Nat.le_refl _)).mono hb.size)
    clear hb
    clear h0 h1 HFI f1 f2
    go_wp2_with fail
    have HB : Hid (Below w19.heap.size w19 w19) := Lib.hid (Below.refl _ _)
    go_loopw [18] (fun i wr => ∃ j : Nat, j ≤ M ∧ i = .int .i64 j ∧ Hid (Below w19.heap.size w19 wr)) (fun i _ => M - (intOf i).toNat)
    case atStart => exact ⟨0, by omega, rfl, HB⟩
    case round =>
      clear HB
      obtain ⟨j, hj, rfl, HB⟩ := hrel
      have KH := Lib.hid (HH14.out.below' HB.out)
      have KA := Lib.hid ((BA.out.below HB.out (Nat.le_refl _)).mono HB.out.size)
      have KB := Lib.hid ((BB.out.below HB.out (Nat.le_refl _)).mono HB.out.size)
      have KC := Lib.hid ((BC.out.below HB.out (Nat.le_refl _)).mono HB.out.size)
      by_cases hlt : j < M
      · have d1 : decide ((j : Int) < M) = true := decide_eq_true (by omega)
        obtain ⟨z, hz⟩ : ∃ z, (lvs (withC b k g []))[j]? = some z := ⟨_, List.getElem?_eq_getElem (by have := HM1.out; omega)⟩
        have HZ := Lib.hid hz
        have lA := Leaf_good (withC b k g []) (.agg #[.int .i64 b.signed, .slice (some ⟨g6, 0, none⟩) b.gs.length cap6]) (j : Int) wr KA.out HCD.out.plainOk
        rw [HCD.out.leafP hz] at lA
        have LA := Lib.hid lA
        clear lA hz
        have q := KH.out.get 1 rfl
        have h0 := blk_cell q 0; have h1 := blk_cell q 1
        clear q
        go_wp2_with fail
        refine LA.out.mono ?_
        rintro e wA ⟨rfl, hb⟩
        have KH := Lib.hid (KH.out.below' hb)
        have KA := Lib.hid ((KA.out.below hb (Nat.le_refl _)).mono hb.size)
        have KB := Lib.hid ((KB.out.below hb (Nat.le_refl _)).mono hb.size)
        have KC := Lib.hid ((KC.out.below hb (Nat.le_refl _)).mono hb.size)
        have HB := Lib.hid (HB.out.trans (hb.mono HB.out.size))
        clear hb
        clear h0 h1
        by_cases hgt : F < j
        · have g1 : decide ((F : Int) < (j : Int)) = true := decide_eq_true (by omega)
          have g2 : ((j : Int) != (F : Int)) = true := by simp; omega
          have lB := Leaf_good (withC b k g [⟨1, n, 0⟩]) (.agg #[.int .i64 b.signed, .slice (some ⟨g7, 0, none⟩) b.gs.length cap7]) ((j : Int) - 1) wA KB.out HCD.out.lessOk
          have h := HCD.out.leafL (i := j) (by have := HF1.out; omega) HZ.out
          rw [if_pos (by have := HF1.out; omega)] at h
          rw [show ((j : Int) - 1) = ((j - 1 : Nat) : Int) from pred_int (by omega), h, ← pred_int (show 0 < j by omega)] at lB
          have HLB := Lib.hid lB
          clear lB h
          have q := KH.out.get 2 rfl
          have h0 := blk_cell q 0; have h1 := blk_cell q 1
          clear q
          go_wp2_with fail
          try clear e1
          refine HLB.out.mono ?_
          rintro e wB ⟨rfl, hb⟩
          have KH := Lib.hid (KH.out.below' hb)
          have KA := Lib.hid ((KA.out.below hb (Nat.le_refl _)).mono hb.size)
          have KB := Lib.hid ((KB.out.below hb (Nat.le_refl _)).mono hb.size)
          have KC := Lib.hid ((KC.out.below hb (Nat.le_refl _)).mono hb.size)
          have HB := Lib.hid (HB.out.trans (hb.mono HB.out.size))
          clear hb
          clear h0 h1
          have lC := Leaf_good (withC b k g [⟨2, n, 0⟩]) (.agg #[.int .i64 b.signed, .slice (some ⟨g8, 0, none⟩) b.gs.length cap8]) (j : Int) wB KC.out HCD.out.swapOk
          rw [HCD.out.leafS HZ.out] at lC
          have LC := Lib.hid lC
          clear lC
          have q := KH.out.get 3 rfl
          have h0 := blk_cell q 0; have h1 := blk_cell q 1
          clear q
          go_wp2_with fail
          refine LC.out.mono ?_
          rintro e wC ⟨rfl, hb⟩
          have KH := Lib.hid (KH.out.below' hb)
          have KA := Lib.hid ((KA.out.below hb (Nat.le_refl _)).mono hb.size)
          have KB := Lib.hid ((KB.out.below hb (Nat.le_refl _)).mono hb.size)
          have KC := Lib.hid ((KC.out.below hb (Nat.le_refl _)).mono hb.size)
          have HB := Lib.hid (HB.out.trans (hb.mono HB.out.size))
          clear hb
          clear h0 h1
          go_wp2_with fail
          go_roundw
          case rel => exact ⟨j + 1, by omega, by go_num, HB⟩
          case measure => simp [intOf]; omega
        · have g1 : decide ((F : Int) < (j : Int)) = false := decide_eq_false (by omega)
          by_cases hjF : j = F
          · have g2 : ((j : Int) != (F : Int)) = false := by simp [hjF]
            obtain ⟨tB, yB, eB⟩ : ∃ (t : Bs) (y : Int), leafTR (withC b k g [⟨1, n, 0⟩]) (getL (lvs (withC b k g [⟨1, n, 0⟩])) (j : Int)) = .tuple #[S t, .int .i64 y] := by
              cases getL (lvs (withC b k g [⟨1, n, 0⟩])) (j : Int) with
              | none => exact ⟨[], 4, rfl⟩
              | some x => exact ⟨_, 0, rfl⟩
            have lB := Leaf_good (withC b k g [⟨1, n, 0⟩]) (.agg #[.int .i64 b.signed, .slice (some ⟨g7, 0, none⟩) b.gs.length cap7]) (j : Int) wA KB.out HCD.out.lessOk
            rw [eB] at lB
            have HLB := Lib.hid lB
            have HJF := Lib.hid hjF
            clear lB eB hjF
            have q := KH.out.get 2 rfl
            have h0 := blk_cell q 0; have h1 := blk_cell q 1
            clear q
            go_wp2_with fail
            try clear e1
            refine HLB.out.mono ?_
            rintro e wB ⟨rfl, hb⟩
            have KH := Lib.hid (KH.out.below' hb)
            have KA := Lib.hid ((KA.out.below hb (Nat.le_refl _)).mono hb.size)
            have KB := Lib.hid ((KB.out.below hb (Nat.le_refl _)).mono hb.size)
            have KC := Lib.hid ((KC.out.below hb (Nat.le_refl _)).mono hb.size)
            have HB := Lib.hid (HB.out.trans (hb.mono HB.out.size))
            clear hb
            clear h0 h1
            have lC := Leaf_good (withC b k g [⟨2, n, 0⟩]) (.agg #[.int .i64 b.signed, .slice (some ⟨g8, 0, none⟩) b.gs.length cap8]) (j : Int) wB KC.out HCD.out.swapOk
            rw [HCD.out.leafS HZ.out] at lC
            have LC := Lib.hid lC
            clear lC
            have q := KH.out.get 3 rfl
            have h0 := blk_cell q 0; have h1 := blk_cell q 1
            clear q
            go_wp2_with fail
            refine LC.out.mono ?_
            rintro e wC ⟨rfl, hb⟩
            have KH := Lib.hid (KH.out.below' hb)
            have KA := Lib.hid ((KA.out.below hb (Nat.le_refl _)).mono hb.size)
            have KB := Lib.hid ((KB.out.below hb (Nat.le_refl _)).mono hb.size)
            have KC := Lib.hid ((KC.out.below hb (Nat.le_refl _)).mono hb.size)
            have HB := Lib.hid (HB.out.trans (hb.mono HB.out.size))
            clear hb
            clear h0 h1
            go_wp2_with fail
            go_roundw
            case rel => exact ⟨j + 1, by omega, by go_num, HB⟩
            case measure => simp [intOf]; omega
          · have g2 : ((j : Int) != (F : Int)) = true := by simp; omega
            have lB := Leaf_good (withC b k g [⟨1, n, 0⟩]) (.agg #[.int .i64 b.signed, .slice (some ⟨g7, 0, none⟩) b.gs.length cap7]) (j : Int) wA KB.out HCD.out.lessOk
            have h := HCD.out.leafL (i := j) (by have := HF1.out; omega) HZ.out
            rw [if_neg (by have := HF1.out; omega)] at h
            rw [h] at lB
            have HLB := Lib.hid lB
            clear lB h
            have q := KH.out.get 2 rfl
            have h0 := blk_cell q 0; have h1 := blk_cell q 1
            clear q
            go_wp2_with fail
            try clear e1
            refine HLB.out.mono ?_
            rintro e wB ⟨rfl, hb⟩
            have KH := Lib.hid (KH.out.below' hb)
            have KA := Lib.hid ((KA.out.below hb (Nat.le_refl _)).mono hb.size)
            have KB := Lib.hid ((KB.out.below hb (Nat.le_refl _)).mono hb.size)
            have KC := Lib.hid ((KC.out.below hb (Nat.le_refl _)).mono hb.size)
            have HB := Lib.hid (HB.out.trans (hb.mono HB.out.size))
            clear hb
            clear h0 h1
            have lC := Leaf_good (withC b k g [⟨2, n, 0⟩]) (.agg #[.int .i64 b.signed, .slice (some ⟨g8, 0, none⟩) b.gs.length cap8]) (j : Int) wB KC.out HCD.out.swapOk
            rw [HCD.out.leafS HZ.out] at lC
            have LC := Lib.hid lC
            clear lC
            have q := KH.out.get 3 rfl
            have h0 := blk_cell q 0; have h1 := blk_cell q 1
            clear q
            go_wp2_with fail
            refine LC.out.mono ?_
            rintro e wC ⟨rfl, hb⟩
            have KH := Lib.hid (KH.out.below' hb)
            have KA := Lib.hid ((KA.out.below hb (Nat.le_refl _)).mono hb.size)
            have KB := Lib.hid ((KB.out.below hb (Nat.le_refl _)).mono hb.size)
            have KC := Lib.hid ((KC.out.below hb (Nat.le_refl _)).mono hb.size)
            have HB := Lib.hid (HB.out.trans (hb.mono HB.out.size))
            clear hb
            clear h0 h1
            go_wp2_with fail
            go_roundw
            case rel => exact ⟨j + 1, by omega, by go_num, HB⟩
            case measure => simp [intOf]; omega
      · have d1 : decide ((j : Int) < M) = false := decide_eq_false (by omega)
        have q := KH.out.get 1 rfl
        have q' := KH.out.get 0 rfl
        have h0 := blk_cell q 0; have h1 := blk_cell q 1
        have i0 := blk_cell q' 0; have i1 := blk_cell q' 1; have i2 := blk_cell q' 2; have i3 := blk_cell q' 3
        clear q q'
        have lM := Mate_good (withC b k g []) (.agg #[.int .i64 b.signed, .slice (some ⟨g6, 0, none⟩) b.gs.length cap6]) (F : Int) wr KA.out HCD.out.plainOk
        by_cases hL1 : L = 1
        · have h := HCD.out.mateNone hL1
          rw [← HF1.out] at h
          rw [h, show mateR none = .tuple #[.int .i64 0, .int .i64 4] from rfl] at lM
          have LMh := Lib.hid lM
          have g3 : ((L : Int) == 1) = true := by simp [hL1]
          have HL1 := Lib.hid hL1
          clear lM h hL1
          go_wp2_with fail
          refine LMh.out.mono ?_
          rintro e wA ⟨rfl, hb⟩
          have KH := Lib.hid (KH.out.below' hb)
          have KA := Lib.hid ((KA.out.below hb (Nat.le_refl _)).mono hb.size)
          have KB := Lib.hid ((KB.out.below hb (Nat.le_refl _)).mono hb.size)
          have KC := Lib.hid ((KC.out.below hb (Nat.le_refl _)).mono hb.size)
          have HB := Lib.hid (HB.out.trans (hb.mono HB.out.size))
          clear hb
          clear h0 h1 i0 i1 i2 i3 LMh
          have q' := KH.out.get 0 rfl
          have i0 := blk_cell q' 0; have i1 := blk_cell q' 1; have i2 := blk_cell q' 2; have i3 := blk_cell q' 3
          clear q'
          go_wp2_with fail
          refine (Awake_any _).mono ?_
          rintro e wZ ⟨rfl, hb⟩
          have KH := Lib.hid (KH.out.below' hb)
          have KA := Lib.hid ((KA.out.below hb (Nat.le_refl _)).mono hb.size)
          have KB := Lib.hid ((KB.out.below hb (Nat.le_refl _)).mono hb.size)
          have KC := Lib.hid ((KC.out.below hb (Nat.le_refl _)).mono hb.size)
          have HB := Lib.hid (HB.out.trans (hb.mono HB.out.size))
          clear hb
          go_wp2_with fail
          go_ret
          exact ⟨rfl, KH.out.below⟩
        · obtain ⟨i, hi1, hi2, hi3⟩ := HCD.out.mateSome hL1
          rw [← HF1.out] at hi1 hi2
          rw [hi1, show mateR (some i) = .tuple #[.int .i64 (i : Int), .int .i64 0] from rfl] at lM
          have hiM : i < M := by rw [HM1.out]; exact (List.getElem?_eq_some_iff.1 hi3).1
          have LMh := Lib.hid lM
          have HI3 := Lib.hid hi3
          have HI2 := Lib.hid hi2
          clear lM hi1 hi2 hi3 hL1
          go_wp2_with fail
          refine LMh.out.mono ?_
          rintro e wA ⟨rfl, hb⟩
          have KH := Lib.hid (KH.out.below' hb)
          have KA := Lib.hid ((KA.out.below hb (Nat.le_refl _)).mono hb.size)
          have KB := Lib.hid ((KB.out.below hb (Nat.le_refl _)).mono hb.size)
          have KC := Lib.hid ((KC.out.below hb (Nat.le_refl _)).mono hb.size)
          have HB := Lib.hid (HB.out.trans (hb.mono HB.out.size))
          clear hb
          clear h0 h1 i0 i1 i2 i3 LMh
          have q := KH.out.get 2 rfl
          have h0 := blk_cell q 0; have h1 := blk_cell q 1
          clear q
          by_cases hgt : F < i
          · have g1 : decide ((F : Int) < (i : Int)) = true := decide_eq_true (by omega)
            have lB := Mate_good (withC b k g [⟨1, n, 0⟩]) (.agg #[.int .i64 b.signed, .slice (some ⟨g7, 0, none⟩) b.gs.length cap7]) ((i : Int) - 1) wA KB.out HCD.out.lessOk
            rw [show mateF (withC b k g [⟨1, n, 0⟩]) ((i : Int) - 1) = none from by
              rw [show ((i : Int) - 1) = ((i - 1 : Nat) : Int) from pred_int (by omega)]
              refine HCD.out.mateLess ?_
              have h := HI3.out
              rw [HCD.out.plain] at h
              have h2 := less_at (by have := HF1.out; have := HI2.out; omega) h
              rw [← HCD.out.less, ← HF1.out, if_pos hgt] at h2
              exact h2, show mateR none = .tuple #[.int .i64 0, .int .i64 4] from rfl] at lB
            have HLB := Lib.hid lB
            clear lB
            go_wp2_with fail
            refine HLB.out.mono ?_
            rintro e wB ⟨rfl, hb⟩
            have KH := Lib.hid (KH.out.below' hb)
            have KA := Lib.hid ((KA.out.below hb (Nat.le_refl _)).mono hb.size)
            have KB := Lib.hid ((KB.out.below hb (Nat.le_refl _)).mono hb.size)
            have KC := Lib.hid ((KC.out.below hb (Nat.le_refl _)).mono hb.size)
            have HB := Lib.hid (HB.out.trans (hb.mono HB.out.size))
            clear hb
            clear h0 h1 HLB
            have lC := Mate_good (withC b k g [⟨2, n, 0⟩]) (.agg #[.int .i64 b.signed, .slice (some ⟨g8, 0, none⟩) b.gs.length cap8]) (i : Int) wB KC.out HCD.out.swapOk
            rw [show mateF (withC b k g [⟨2, n, 0⟩]) (i : Int) = none from by
              refine HCD.out.mateSwap ?_
              have h := HI3.out
              rw [HCD.out.plain] at h
              obtain ⟨z', h2, h3⟩ := swap_at (x' := ⟨k, n, 0, 1⟩) h
              rcases h3 with rfl | ⟨h4, -, -⟩
              · rw [HCD.out.swap]
                exact h2
              · have := HF1.out
                have := HI2.out
                omega, show mateR none = .tuple #[.int .i64 0, .int .i64 4] from rfl] at lC
            have LC := Lib.hid lC
            clear lC
            have q := KH.out.get 3 rfl
            have h0 := blk_cell q 0; have h1 := blk_cell q 1
            clear q
            go_wp2_with fail
            refine LC.out.mono ?_
            rintro e wC ⟨rfl, hb⟩
            have KH := Lib.hid (KH.out.below' hb)
            have KA := Lib.hid ((KA.out.below hb (Nat.le_refl _)).mono hb.size)
            have KB := Lib.hid ((KB.out.below hb (Nat.le_refl _)).mono hb.size)
            have KC := Lib.hid ((KC.out.below hb (Nat.le_refl _)).mono hb.size)
            have HB := Lib.hid (HB.out.trans (hb.mono HB.out.size))
            clear hb
            clear h0 h1 LC
            have lD := Differ_good (withC b k g []) (withC b k g [⟨2, n, 0⟩]) (.agg #[.int .i64 b.signed, .slice (some ⟨g6, 0, none⟩) b.gs.length cap6]) (.agg #[.int .i64 b.signed, .slice (some ⟨g8, 0, none⟩) b.gs.length cap8]) wC KA.out KC.out HCD.out.plainOk HCD.out.swapOk
            rw [HCD.out.differS, show differR none = .tuple #[.int .i64 0, .int .i64 4] from rfl] at lD
            have LD := Lib.hid lD
            clear lD
            have q := KH.out.get 1 rfl
            have q' := KH.out.get 3 rfl
            have h0 := blk_cell q 0; have h1 := blk_cell q 1
            have i0 := blk_cell q' 0; have i1 := blk_cell q' 1
            clear q q'
            go_wp2_with fail
            refine LD.out.mono ?_
            rintro e wD ⟨rfl, hb⟩
            have KH := Lib.hid (KH.out.below' hb)
            have KA := Lib.hid ((KA.out.below hb (Nat.le_refl _)).mono hb.size)
            have KB := Lib.hid ((KB.out.below hb (Nat.le_refl _)).mono hb.size)
            have KC := Lib.hid ((KC.out.below hb (Nat.le_refl _)).mono hb.size)
            have HB := Lib.hid (HB.out.trans (hb.mono HB.out.size))
            clear hb
            clear h0 h1 i0 i1 LD
            have lE := Differ_good (withC b k g []) (withC b k g [⟨1, n, 0⟩]) (.agg #[.int .i64 b.signed, .slice (some ⟨g6, 0, none⟩) b.gs.length cap6]) (.agg #[.int .i64 b.signed, .slice (some ⟨g7, 0, none⟩) b.gs.length cap7]) wD KA.out KB.out HCD.out.plainOk HCD.out.lessOk
            rw [HCD.out.differL, ← HF1.out, show differR (some F) = .tuple #[.int .i64 (F : Int), .int .i64 0] from rfl] at lE
            have LE := Lib.hid lE
            clear lE
            have q := KH.out.get 1 rfl
            have q' := KH.out.get 2 rfl
            have h0 := blk_cell q 0; have h1 := blk_cell q 1
            have i0 := blk_cell q' 0; have i1 := blk_cell q' 1
            clear q q'
            go_wp2_with fail
            refine LE.out.mono ?_
            rintro e wE ⟨rfl, hb⟩
            have KH := Lib.hid (KH.out.below' hb)
            have KA := Lib.hid ((KA.out.below hb (Nat.le_refl _)).mono hb.size)
            have KB := Lib.hid ((KB.out.below hb (Nat.le_refl _)).mono hb.size)
            have KC := Lib.hid ((KC.out.below hb (Nat.le_refl _)).mono hb.size)
            have HB := Lib.hid (HB.out.trans (hb.mono HB.out.size))
            clear hb
            clear h0 h1 i0 i1 LE
            go_wp2_with fail
            refine (Awake_any _).mono ?_
            rintro e wZ ⟨rfl, hb⟩
            have KH := Lib.hid (KH.out.below' hb)
            have KA := Lib.hid ((KA.out.below hb (Nat.le_refl _)).mono hb.size)
            have KB := Lib.hid ((KB.out.below hb (Nat.le_refl _)).mono hb.size)
            have KC := Lib.hid ((KC.out.below hb (Nat.le_refl _)).mono hb.size)
            have HB := Lib.hid (HB.out.trans (hb.mono HB.out.size))
            clear hb
            go_wp2_with fail
            go_ret
            exact ⟨rfl, KH.out.below⟩
          · have g1 : decide ((F : Int) < (i : Int)) = false := decide_eq_false (by omega)
            have lB := Mate_good (withC b k g [⟨1, n, 0⟩]) (.agg #[.int .i64 b.signed, .slice (some ⟨g7, 0, none⟩) b.gs.length cap7]) (i : Int) wA KB.out HCD.out.lessOk
            rw [show mateF (withC b k g [⟨1, n, 0⟩]) (i : Int) = none from by
              refine HCD.out.mateLess ?_
              have h := HI3.out
              rw [HCD.out.plain] at h
              have h2 := less_at (by have := HF1.out; have := HI2.out; omega) h
              rw [← HCD.out.less, ← HF1.out, if_neg hgt] at h2
              exact h2, show mateR none = .tuple #[.int .i64 0, .int .i64 4] from rfl] at lB
            have HLB := Lib.hid lB
            clear lB
            go_wp2_with fail
            refine HLB.out.mono ?_
            rintro e wB ⟨rfl, hb⟩
            have KH := Lib.hid (KH.out.below' hb)
            have KA := Lib.hid ((KA.out.below hb (Nat.le_refl _)).mono hb.size)
            have KB := Lib.hid ((KB.out.below hb (Nat.le_refl _)).mono hb.size)
            have KC := Lib.hid ((KC.out.below hb (Nat.le_refl _)).mono hb.size)
            have HB := Lib.hid (HB.out.trans (hb.mono HB.out.size))
            clear hb
            clear h0 h1 HLB
            have lC := Mate_good (withC b k g [⟨2, n, 0⟩]) (.agg #[.int .i64 b.signed, .slice (some ⟨g8, 0, none⟩) b.gs.length cap8]) (i : Int) wB KC.out HCD.out.swapOk
            rw [show mateF (withC b k g [⟨2, n, 0⟩]) (i : Int) = none from by
              refine HCD.out.mateSwap ?_
              have h := HI3.out
              rw [HCD.out.plain] at h
              obtain ⟨z', h2, h3⟩ := swap_at (x' := ⟨k, n, 0, 1⟩) h
              rcases h3 with rfl | ⟨h4, -, -⟩
              · rw [HCD.out.swap]
                exact h2
              · have := HF1.out
                have := HI2.out
                omega, show mateR none = .tuple #[.int .i64 0, .int .i64 4] from rfl] at lC
            have LC := Lib.hid lC
            clear lC
            have q := KH.out.get 3 rfl
            have h0 := blk_cell q 0; have h1 := blk_cell q 1
            clear q
            go_wp2_with fail
            refine LC.out.mono ?_
            rintro e wC ⟨rfl, hb⟩
            have KH := Lib.hid (KH.out.below' hb)
            have KA := Lib.hid ((KA.out.below hb (Nat.le_refl _)).mono hb.size)
            have KB := Lib.hid ((KB.out.below hb (Nat.le_refl _)).mono hb.size)
            have KC := Lib.hid ((KC.out.below hb (Nat.le_refl _)).mono hb.size)
            have HB := Lib.hid (HB.out.trans (hb.mono HB.out.size))
            clear hb
            clear h0 h1 LC
            have lD := Differ_good (withC b k g []) (withC b k g [⟨2, n, 0⟩]) (.agg #[.int .i64 b.signed, .slice (some ⟨g6, 0, none⟩) b.gs.length cap6]) (.agg #[.int .i64 b.signed, .slice (some ⟨g8, 0, none⟩) b.gs.length cap8]) wC KA.out KC.out HCD.out.plainOk HCD.out.swapOk
            rw [HCD.out.differS, show differR none = .tuple #[.int .i64 0, .int .i64 4] from rfl] at lD
            have LD := Lib.hid lD
            clear lD
            have q := KH.out.get 1 rfl
            have q' := KH.out.get 3 rfl
            have h0 := blk_cell q 0; have h1 := blk_cell q 1
            have i0 := blk_cell q' 0; have i1 := blk_cell q' 1
            clear q q'
            go_wp2_with fail
            refine LD.out.mono ?_
            rintro e wD ⟨rfl, hb⟩
            have KH := Lib.hid (KH.out.below' hb)
            have KA := Lib.hid ((KA.out.below hb (Nat.le_refl _)).mono hb.size)
            have KB := Lib.hid ((KB.out.below hb (Nat.le_refl _)).mono hb.size)
            have KC := Lib.hid ((KC.out.below hb (Nat.le_refl _)).mono hb.size)
            have HB := Lib.hid (HB.out.trans (hb.mono HB.out.size))
            clear hb
            clear h0 h1 i0 i1 LD
            have lE := Differ_good (withC b k g []) (withC b k g [⟨1, n, 0⟩]) (.agg #[.int .i64 b.signed, .slice (some ⟨g6, 0, none⟩) b.gs.length cap6]) (.agg #[.int .i64 b.signed, .slice (some ⟨g7, 0, none⟩) b.gs.length cap7]) wD KA.out KB.out HCD.out.plainOk HCD.out.lessOk
            rw [HCD.out.differL, ← HF1.out, show differR (some F) = .tuple #[.int .i64 (F : Int), .int .i64 0] from rfl] at lE
            have LE := Lib.hid lE
            clear lE
            have q := KH.out.get 1 rfl
            have q' := KH.out.get 2 rfl
            have h0 := blk_cell q 0; have h1 := blk_cell q 1
            have i0 := blk_cell q' 0; have i1 := blk_cell q' 1
            clear q q'
            go_wp2_with fail
            refine LE.out.mono ?_
            rintro e wE ⟨rfl, hb⟩
            have KH := Lib.hid (KH.out.below' hb)
            have KA := Lib.hid ((KA.out.below hb (Nat.le_refl _)).mono hb.size)
            have KB := Lib.hid ((KB.out.below hb (Nat.le_refl _)).mono hb.size)
            have KC := Lib.hid ((KC.out.below hb (Nat.le_refl _)).mono hb.size)
            have HB := Lib.hid (HB.out.trans (hb.mono HB.out.size))
            clear hb
            clear h0 h1 i0 i1 LE
            go_wp2_with fail
            refine (Awake_any _).mono ?_
            rintro e wZ ⟨rfl, hb⟩
            have KH := Lib.hid (KH.out.below' hb)
            have KA := Lib.hid ((KA.out.below hb (Nat.le_refl _)).mono hb.size)
            have KB := Lib.hid ((KB.out.below hb (Nat.le_refl _)).mono hb.size)
            have KC := Lib.hid ((KC.out.below hb (Nat.le_refl _)).mono hb.size)
            have HB := Lib.hid (HB.out.trans (hb.mono HB.out.size))
            clear hb
            go_wp2_with fail
            go_ret
            exact ⟨rfl, KH.out.below⟩

theorem QuireChanged_any (b : Bk) (v : Value) (x y : Nat) (hx : x < 256) (hy : y < 256) (w : World) (hb : BookAt w.heap.size w v b) (hcap : ∀ s a n cap, v = .agg #[.int .i64 s, .slice a n cap] → n ≤ cap ∧ cap ≤ 9223372036854775807) :
    Calls Tryz.prog 6 #[v, .agg #[.int .u8 x, .int .u8 y]] w fun e w' => e = .returned (.bool true) ∧ Below w.heap.size w w' := by
  by_cases he : errF b = 0
  · exact QuireChanged_good b v x y hx hy w hb hcap he
  · exact QuireChanged_bad b v x y w hb he
end Go.Proofs.YtimdmgkegdlafaaGreatDoor
