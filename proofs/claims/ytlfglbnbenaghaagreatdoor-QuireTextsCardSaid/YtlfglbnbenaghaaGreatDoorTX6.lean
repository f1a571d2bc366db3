/- The parts Qm, Rg, Qn, Ap, Qo, Qp of the proof, joined. It holds without conditions of its own. -/
import Derived.Test.YtlfglbnbenaghaaGreatDoorTX5
import Derived.Sort.LoopGhostIn
import Derived.Test.YtlfglbnbenaghaaGreatDoorTX2
import Derived.OwnWalkIn
import Derived.RangeFuncBox
/- The iterator over the leaves of a book with their numbers. -/
namespace Go.Proofs.YtlfglbnbenaghaaGreatDoor
set_option linter.unusedSimpArgs false
set_option linter.unusedVariables false
open Go Go.RowKit Go.Sort Go.BigFrame Go.Shelf
attribute [local go_sem] Oper.semAt_some

set_option maxHeartbeats 400000 in
theorem volLeaves_any (s : Int) (a : Option Addr) (n cap : Nat) (w : World) :
    Calls Tryz.prog 42 #[.agg #[.int .i64 s, .slice a n cap]] w fun e w' =>
      e = .returned (.func (.func 77) #[] #[.pointer (some ⟨w.heap.size, 0, none⟩)]) ∧
      w.alloc (.cells #[.int .i64 s, .slice a n cap] 57) = w' := by
  have hmf : ∀ (fn : Fn) (first cap : Array Value) (w : World), (Instr.makeFunc fn first cap).run Tryz.prog w = .ok (.func fn first cap) w := fun _ _ _ _ => rfl
  go_enter Tryz.func42, Tryz.ntmps42
  go_wp2
  go_ret
  exact ⟨rfl, rfl⟩

/-- What is as it was while the iterator runs: its two variables, its marks, what it reads. -/
structure AtVol (w₀ W : World) (l BY BN vb B : Nat) (Ds : List Nat) (n : Nat) (Xo : Nat → Prop) : Prop where
  by_ : W.heap[BY]? = some (.cells #[.func (.yield l) #[] #[]] 130)
  bn : W.heap[BN]? = some (.cells #[.int .i64 n] 3)
  nd : Ds.Nodup
  ds : ∀ D ∈ Ds, W.heap[D]? = some (.deferred (some [])) ∧ Xo D
  oy : Xo BY
  on : Xo BN
  pr : ∀ j, (j = vb ∨ j < B) → W.heap[j]? = w₀.heap[j]?
  sz : w₀.heap.size ≤ W.heap.size
theorem AtVol.keep {w₀ W W' : World} {l BY BN vb B : Nat} {Ds : List Nat} {n : Nat} {Xo Xo' : Nat → Prop} (h : AtVol w₀ W l BY BN vb B Ds n Xo)
    (hk : ∀ j, (j = BY ∨ j = BN ∨ j ∈ Ds ∨ j = vb ∨ j < B) → W'.heap[j]? = W.heap[j]?) (hs : W.heap.size ≤ W'.heap.size) (hx : ∀ j, Xo j → Xo' j) : AtVol w₀ W' l BY BN vb B Ds n Xo' :=
  ⟨(hk _ (by simp)).trans h.by_, (hk _ (by simp)).trans h.bn, h.nd, fun D hD => ⟨(hk _ (by simp [hD])).trans (h.ds D hD).1, hx _ (h.ds D hD).2⟩, hx _ h.oy, hx _ h.on,
   fun j hj => (hk _ (by rcases hj with h | h <;> simp [h])).trans (h.pr j hj), Nat.le_trans h.sz hs⟩
/-- What lies ahead of a floor. -/
theorem AtVol.lt {w₀ W : World} {l BY BN vb B : Nat} {Ds : List Nat} {n : Nat} {Xo : Nat → Prop} (h : AtVol w₀ W l BY BN vb B Ds n Xo) (hvb : vb < w₀.heap.size) (hB : B ≤ w₀.heap.size) :
    ∀ j, (j = BY ∨ j = BN ∨ j ∈ Ds ∨ j = vb ∨ j < B) → j < W.heap.size := fun j hj => by
  have := h.sz
  rcases hj with rfl | rfl | hD | rfl | h'
  · exact blk_lt h.by_
  · exact blk_lt h.bn
  · exact blk_lt (h.ds j hD).1
  · omega
  · omega
theorem AtVol.succ {w₀ W : World} {l BY BN vb B : Nat} {Ds : List Nat} {n : Nat} {Xo : Nat → Prop} (h : AtVol w₀ W l BY BN vb B Ds n Xo) (hyn : BY ≠ BN) (hvn : vb ≠ BN) (hBn : B ≤ BN) (m m' : Nat) (hm : m = m') :
    AtVol w₀ (W.setCell ⟨BN, 0, none⟩ (.int .i64 m)) l BY BN vb B Ds m' Xo := by
  subst hm
  exact ⟨(heap_setCell_past _ _ _ _ hyn).trans h.by_, blk_set h.bn 0 _, h.nd, fun D hD => ⟨(heap_setCell_past _ _ _ _ (fun e => by have e : D = BN := e; have := (h.ds D hD).1; rw [e, h.bn] at this; cases this)).trans (h.ds D hD).1, (h.ds D hD).2⟩, h.oy, h.on,
   fun j hj => (heap_setCell_past _ _ _ _ (by rcases hj with rfl | hj; exact hvn; (show j ≠ BN); omega)).trans (h.pr j hj), by simp [World.setCell]; exact h.sz⟩
theorem AtVol.mark {w₀ W : World} {l BY BN vb B : Nat} {Ds : List Nat} {n : Nat} {Xo : Nat → Prop} (h : AtVol w₀ W l BY BN vb B Ds n Xo) {D : Nat} (hD : W.heap[D]? = some (.deferred (some []))) (hx : Xo D) (hn : D ∉ Ds) : AtVol w₀ W l BY BN vb B (D :: Ds) n Xo :=
  ⟨h.by_, h.bn, List.nodup_cons.2 ⟨hn, h.nd⟩, fun D' hD' => by rcases List.mem_cons.1 hD' with rfl | hD'; exact ⟨hD, hx⟩; exact h.ds D' hD', h.oy, h.on, h.pr, h.sz⟩

theorem lvsG_len {i : Nat} {g : Gth} (h : GOk g) : (lvsG i g).length ≤ 65 := by
  have h1 : ∀ k ∈ List.range (g.leaves + 1).toNat, (lvsNum i k (fateF g.chs k)).length ≤ 5 := fun k _ => by
    have := lvsNum_len (i := i) (k := k) (f := fateF g.chs k)
    have := fate_added (cs := g.chs) (num := (k : Int)) fun c hc => ⟨(h.ch hc).2.2.2.1, (h.ch hc).2.2.2.2⟩
    omega
  have h2 := flatMap_len h1
  have := h.leaves
  rw [List.length_range] at h2
  unfold lvsG
  omega
theorem lvsFrom_len : ∀ {gs : List Gth} {i : Nat}, (∀ g ∈ gs, GOk g) → (lvsFrom i gs).length ≤ gs.length * 65
  | [], _, _ => by simp [lvsFrom]
  | g :: gs, i, h => by
    have h1 := lvsG_len (i := i) (h g (by simp))
    have h2 := lvsFrom_len (gs := gs) (i := i + 1) fun x hx => h x (by simp [hx])
    simp only [lvsFrom, List.length_append, List.length_cons]
    omega
theorem zip_snoc (xs : List Lf) (x : Lf) : (xs ++ [x]).zipIdx = xs.zipIdx ++ [(x, xs.length)] := by simp [List.zipIdx_append]
theorem zip_split {ys xs rest : List Lf} {x : Lf} (h : ys = xs ++ x :: rest) : ∃ r, ys.zipIdx = xs.zipIdx ++ (x, xs.length) :: r := by
  subst h
  exact ⟨rest.zipIdx (xs.length + 1), by simp [List.zipIdx_append]⟩

set_option maxRecDepth 100000 in
set_option maxHeartbeats 1000000 in
theorem leaves_it (gs : List Gth) (s : Int) (a : Option Addr) (cap : Nat) (w₀ : World) (vb B : Nat) (hB : B ≤ w₀.heap.size) (hgs : GsAt B w₀ (.slice a gs.length cap) gs) (hok : ∀ g ∈ gs, GOk g) (hlen : gs.length ≤ 100)
    (hv : w₀.heap[vb]? = some (.cells #[.int .i64 s, .slice a gs.length cap] 57)) :
    ItC Tryz.prog 77 #[.pointer (some ⟨vb, 0, none⟩)] (fun y : Lf × Nat => #[.int .i64 y.2, lfV y.1]) (lvsFrom 0 gs).zipIdx (fun k => k = vb ∨ k < B) w₀ := by
  intro l J Jx W hsz hpr hJ hJx hY h0
  refine (callsIn_wide (n := 10)).1 ?_
  refine callsIn_of_wp_marks Tryz.func77 rfl trivial ?_ rfl
  simp only [Tryz.ntmps77, List.size_toArray, List.length_cons, List.length_nil, Nat.reduceAdd, Nat.reduceSub, Array.replicate_succ, Array.replicate_zero, List.push_toArray, List.append_toArray, List.nil_append, List.cons_append]
  have hvW := (hpr vb (Or.inl rfl)).trans hv
  have c0 := blk_cell hvW 0; have c1 := blk_cell hvW 1
  have hvlt := blk_lt hvW
  have HY := Lib.hid hY
  have HJ := Lib.hid hJ
  have HJx := Lib.hid hJx
  have HP := Lib.hid hpr
  have HV := Lib.hid hv
  have HG := Lib.hid hgs
  have HO := Lib.hid hok
  have H0 := Lib.hid h0
  clear hY hJ hJx hpr hv hgs hok h0 hvW
  gi_wp2_with fail
  refine wpIn_loop_ghost_k (fun m a' W' => ∃ (Ds : List Nat) (X : Nat → Prop) (k : Nat) (u4 u5 u6 u12 u13 u14 u15 u16 u17 u18 u19 u20 u21 u22 u23 u24 u25 u26 u27 : Value), a' = { tmps := #[.func (.yield l) #[] #[], .pointer (some ⟨vb, 0, none⟩), .pointer (some ⟨W.heap.size, 0, none⟩), .pointer (some ⟨W.heap.size + 1, 0, none⟩), u4, u5, u6, .pointer (some ⟨vb, 0, none⟩), .pointer (some ⟨vb, 1, none⟩), .slice a gs.length cap, .int .i64 gs.length, .int .i64 k, u12, u13, u14, u15, u16, u17, u18, u19, u20, u21, u22, u23, u24, u25, u26, u27], defers := Ds.map markOf } ∧ k ≤ gs.length ∧ m = gs.length - k ∧
    Hid (AtVol w₀ W' l W.heap.size (W.heap.size + 1) vb B Ds (lvsFrom 0 (gs.take k)).length X) ∧ Hid (J (lvsFrom 0 (gs.take k)).zipIdx X W')) gs.length ?start ?round
  case start =>
    refine ⟨[], fun j => j = W.heap.size ∨ j = W.heap.size + 1, 0, _, _, _, _, _, _, _, _, _, _, _, _, _, _, _, _, _, _, _, rfl, by omega, by omega, ?_, ?_⟩
    · refine ⟨?_, ?_, by simp, by simp, Or.inl rfl, Or.inr rfl, fun j hj => ?_, by simp; omega⟩
      · rw [heap_alloc_past _ _ _ (by simp)]; exact heap_alloc_at _ _ _ rfl
      · exact heap_alloc_at _ _ _ (by simp)
      · have : j < W.heap.size := by rcases hj with rfl | h <;> omega
        rw [heap_alloc_past _ _ _ (by simp; omega), heap_alloc_past _ _ _ (by omega)]; exact HP.out j hj
    · refine HJ.out _ _ _ _ _ H0.out (OnlyIn.of_below (((Below.refl _ _).alloc (Nat.le_refl _) _).alloc (by simp) _)) (fun j h => ?_)
      rcases h with h | h
      · exact Or.inr ⟨by omega, by simp; omega⟩
      · exact Or.inr ⟨by omega, by simp; omega⟩
  case round =>
    rintro m a' wr ⟨Ds, X, k, u4, u5, u6, u12, u13, u14, u15, u16, u17, u18, u19, u20, u21, u22, u23, u24, u25, u26, u27, rfl, hk, rfl, hA, hJk⟩
    intro Jr Kr hJr hKr
    by_cases hlt : k < gs.length
    · obtain ⟨g, hg⟩ : ∃ g, gs[k]? = some g := ⟨gs[k], List.getElem?_eq_getElem _⟩
      obtain ⟨a0, cap0, e0, hgc⟩ := HG.out
      obtain ⟨bb, off, rfl, hbb, hcell⟩ := hgc (fun h => by rw [h] at hlt; exact absurd hlt (by simp))
      cases e0
      have hprB : ∀ j, j < B → wr.heap[j]? = w₀.heap[j]? := fun j hj => hA.out.pr j (Or.inr hj)
      obtain ⟨cv, hch, q1, q2, q3, q4⟩ := hcell k g hg
      have hch' := hch
      obtain ⟨ca, ccap, rfl, -⟩ := hch'
      rw [← cell_same hprB hbb] at q1 q2 q3 q4
      have HCH := Lib.hid (hch.same hprB)
      have HGK := Lib.hid hg
      clear hcell hch hgc hg
      gi_wp2_with fail
      refine ⟨trivial, ?_⟩
      refine (callsIn_wide.2 (leavesOf_any k g ca g.chs.length ccap _)).mono ?_
      rintro e w1 ⟨rfl, hw1⟩
      have hgb : w1.heap[wr.heap.size + 2]? = some (.cells #[.int .i64 g.round, .int .i64 g.letter, .int .i64 g.leaves, .slice ca g.chs.length ccap] 42) := by rw [← hw1]; exact (by repeat (first | exact heap_alloc_at _ _ _ (by (first | omega | (simp; done) | (simp; omega) | (simp at *; omega) | fail)) | assumption | rw [heap_alloc_past _ _ _ (by (first | omega | (simp; done) | (simp; omega) | (simp at *; omega) | fail))] | rw [heap_setCell_past _ _ _ _ (by (first | omega | (simp; done) | (simp; omega) | (simp at *; omega) | fail))] | fail))
      have hib : w1.heap[wr.heap.size + 1]? = some (.cells #[.int .i64 k] 3) := by rw [← hw1]; exact (by repeat (first | exact heap_alloc_at _ _ _ (by (first | omega | (simp; done) | (simp; omega) | (simp at *; omega) | fail)) | assumption | rw [heap_alloc_past _ _ _ (by (first | omega | (simp; done) | (simp; omega) | (simp at *; omega) | fail))] | rw [heap_setCell_past _ _ _ _ (by (first | omega | (simp; done) | (simp; omega) | (simp at *; omega) | fail))] | fail))
      have hb1 : Below wr.heap.size wr w1 := by rw [← hw1]; exact (by repeat (first | exact Below.refl _ _ | assumption | (refine Below.alloc ?_ ?_ _; rotate_left; · (first | omega | (simp; done) | (simp; omega) | (simp at *; omega) | fail)) | (refine Below.setCell ?_ ?_ _; rotate_left; · (first | omega | (simp; done) | (simp; omega) | (simp at *; omega) | fail)) | refine Below.drew ?_ | fail))
      have hz1 : w1.heap.size = wr.heap.size + 3 := by rw [← hw1]; simp
      simp only [World.size_alloc]
      have HB1 := Lib.hid hb1
      have HGB := Lib.hid hgb
      have HIB := Lib.hid hib
      clear hw1 hgb hib hb1 q1 q2 q3 q4 c0 c1
      gi_wp2_with fail
      have hgk : GOk g := HO.out g (List.mem_of_getElem? HGK.out)
      have hwr := hA.out.lt (blk_lt HV.out) hB
      have HWR := Lib.hid hwr
      have hszr := hA.out.sz
      clear hwr
      obtain ⟨X0, hX0⟩ : ∃ X0 : Nat → Prop, X0 = fun j => X j ∨ (wr.heap.size ≤ j ∧ j < w1.heap.size) := ⟨_, rfl⟩
      have A0 := Lib.hid (hA.out.keep (W' := w1) (Xo' := X0) (fun j hj => HB1.out.block j (HWR.out j hj)) HB1.out.size (fun j h => by rw [hX0]; exact Or.inl h))
      have J0 : Hid (J (lvsFrom 0 (gs.take k)).zipIdx X0 w1) := HJ.out _ X X0 wr w1 hJk.out (OnlyIn.of_below HB1.out) (fun j h => by rw [hX0] at h; exact h)
      have hX1 : X0 (wr.heap.size + 1) := by rw [hX0]; exact Or.inr ⟨by omega, by omega⟩
      have hX2 : X0 (wr.heap.size + 2) := by rw [hX0]; exact Or.inr ⟨by omega, by omega⟩
      clear hX0 hA hJk hprB
      refine rf_gen (gf := 98) (lb := #[.pointer (some ⟨wr.heap.size + 2, 0, none⟩), .pointer (some ⟨wr.heap.size + 1, 0, none⟩)]) rfl (enters_of Tryz.func98 (by kernel_rfl) rfl)
        (leavesOf_it k g ca g.chs.length ccap w1 (wr.heap.size + 2) (wr.heap.size + 1) B (by omega) (HCH.out.below HB1.out (by omega)) (by have := hgk.few; omega) (fun c hc => ⟨(hgk.ch hc).2.2.2.1, (hgk.ch hc).2.2.2.2⟩) ⟨by have := hgk.leaves; omega, hgk.leaves.2⟩ HGB.out HIB.out) (fun _ => rfl) (fun j hj => by rcases hj with h | h | h <;> omega)
        (fun pre Xi W' => Hid (AtVol w₀ W' l W.heap.size (W.heap.size + 1) vb B Ds (lvsFrom 0 (gs.take k) ++ pre).length X0) ∧ Hid (J (lvsFrom 0 (gs.take k) ++ pre).zipIdx (fun j => Xi j ∨ X0 j) W') ∧ (∀ j, Xi j → w1.heap.size ≤ j) ∧ w1.heap.size ≤ W'.heap.size)
        (fun c pre Xi W' => c = .ret ∧ (∃ n, Hid (AtVol w₀ W' l W.heap.size (W.heap.size + 1) vb B Ds n X0)) ∧ Hid (Jx (lvsFrom 0 (gs.take k) ++ pre).zipIdx (fun j => Xi j ∨ X0 j) W') ∧ (∀ j, Xi j → w1.heap.size ≤ j) ∧ w1.heap.size ≤ W'.heap.size)
        (fun x => .cells #[.int .i64 x.gat, .int .i64 x.num, .int .i64 x.plus, .int .i64 x.kind] 89)
        (fun x bx => { tmps := #[.func (.yield l) #[] #[], .pointer (some ⟨vb, 0, none⟩), .pointer (some ⟨W.heap.size, 0, none⟩), .pointer (some ⟨W.heap.size + 1, 0, none⟩), .int .i64 k, .pointer (some ⟨wr.heap.size, 0, none⟩), .pointer (some ⟨bx, 0, none⟩), .pointer (some ⟨vb, 0, none⟩), .pointer (some ⟨vb, 1, none⟩), .slice (some ⟨bb, off, none⟩) gs.length cap, .int .i64 gs.length, .int .i64 k, .bool true, .int .i64 k, .pointer (some ⟨bb, off + k * 4, none⟩), .agg #[.int .i64 g.round, .int .i64 g.letter, .int .i64 g.leaves, .slice ca g.chs.length ccap], .int .i64 k, .agg #[.int .i64 g.round, .int .i64 g.letter, .int .i64 g.leaves, .slice ca g.chs.length ccap], .func (.func 98) #[] #[.pointer (some ⟨wr.heap.size + 2, 0, none⟩), .pointer (some ⟨wr.heap.size + 1, 0, none⟩)], lfV x, u20, u21, u22, u23, u24, u25, u26, u27], defers := [] }) ?abI ?abX ?h0 ?assign ?body ?done ?stop
      case abI =>
        rintro pre Xi Xi' W1 W2 ⟨h1, h2, h3, h4⟩ ho hx
        have hs := ho.size
        refine ⟨h1.out.keep (fun j hj => ho.block j (by have := HWR.out j hj; omega) (fun h => by have := h3 j h; have := HWR.out j hj; omega)) hs (fun j h => h), HJ.out _ _ _ _ _ h2.out (ho.mono fun j h => Or.inl h) (fun j h => ?_), fun j h => ?_, by omega⟩
        · rcases h with h | h
          · exact (hx j h).imp Or.inl id
          · exact Or.inl (Or.inr h)
        · rcases hx j h with h | h
          · exact h3 j h
          · omega
      case abX =>
        rintro c pre Xi Xi' W1 W2 ⟨h0, ⟨n, h1⟩, h2, h3, h4⟩ ho hx
        have hs := ho.size
        refine ⟨h0, ⟨n, h1.out.keep (fun j hj => ho.block j (by have := HWR.out j hj; omega) (fun h => by have := h3 j h; have := HWR.out j hj; omega)) hs (fun j h => h)⟩, HJx.out _ _ _ _ _ h2.out (ho.mono fun j h => Or.inl h) (fun j h => ?_), fun j h => ?_, by omega⟩
        · rcases h with h | h
          · exact (hx j h).imp Or.inl id
          · exact Or.inl (Or.inr h)
        · rcases hx j h with h | h
          · exact h3 j h
          · omega
      case h0 =>
        refine ⟨by rw [List.append_nil]; exact A0, by rw [List.append_nil]; exact HJ.out _ _ _ _ _ J0.out (OnlyIn.refl _ _) (fun j h => Or.inl (h.resolve_left (fun h => h))), fun j h => h.elim, Nat.le_refl _⟩
      case assign =>
        intro l1 x W1 K hK
        gi_wp2_with fail
        exact hK
      case body =>
        rintro l1 pre x rest bx Xi W1 hsp ⟨h1, h2, h3, h4⟩ hbx hnx hbl
        obtain ⟨rest0, hs0⟩ := lvs_split HGK.out
        rw [hsp] at hs0
        obtain ⟨r, hr⟩ := zip_split (ys := lvsFrom 0 gs) (xs := lvsFrom 0 (gs.take k) ++ pre) (x := x) (rest := rest ++ rest0) (by rw [hs0]; simp)
        have hcnt : (lvsFrom 0 (gs.take k) ++ pre).length < 6501 := by
          have h5 := lvsFrom_len (i := 0) HO.out
          have h6 := congrArg List.length hs0
          simp only [List.length_append, List.length_cons] at h6 ⊢
          omega
        obtain ⟨fn, tmps, assign, body, hy, hR⟩ := HY.out _ _ _ _ _ hr h2.out
        have HR := Lib.hid hR
        have HB := Lib.hid hbx
        obtain ⟨N, hN⟩ : ∃ N, N = (lvsFrom 0 (gs.take k) ++ pre).length := ⟨_, rfl⟩
        rw [← hN] at h1 hcnt hy HR
        have d0 := blk_cell hbx 0; have d1 := blk_cell hbx 1; have d2 := blk_cell hbx 2; have d3 := blk_cell hbx 3
        have y0 := blk_cell h1.out.by_ 0
        have n0 := blk_cell h1.out.bn 0
        have HZ : Hid ((lvsFrom 0 (gs.take k) ++ pre).zipIdx ++ [(x, N)] = (lvsFrom 0 (gs.take k) ++ (pre ++ [x])).zipIdx) := by
          show _ = _
          rw [hN, ← List.append_assoc, zip_snoc]
        have HN : Hid (N + 1 = (lvsFrom 0 (gs.take k) ++ (pre ++ [x])).length) := by
          show _ = _
          rw [hN]; simp only [List.length_append, List.length_cons, List.length_nil]; omega
        rw [HZ.out] at HR
        have hnb := blk_free h1.out.bn 0
        clear hR hr hs0 hsp hbx h2 hN HZ
        gi_wp2_with fail
        refine (roundIn_any HR.out).mono ?_
        rintro e W2 (⟨rfl, hJ2, hk2⟩ | ⟨rfl, hJ2, hk2⟩)
        · have A2 := Lib.hid (h1.out.keep (W' := W2) (Xo' := X0) (fun j hj => hk2.2 j (by have := HWR.out j hj; omega) (by rcases hj with rfl | rfl | h | rfl | h; exact Or.inr (Or.inr h1.out.oy); exact Or.inr (Or.inr h1.out.on); exact Or.inr (Or.inr (h1.out.ds j h).2); exact Or.inl (Or.inl rfl); exact Or.inl (Or.inr h))) hk2.1 (fun j h => h))
          have hvb := HWR.out vb (by simp)
          have A3 := Lib.hid (A2.out.succ (by omega) (by omega) (by omega) (N + 1) _ HN.out)
          have J3 := HJ.out _ _ (fun j => Xi j ∨ X0 j) _ _ hJ2 (OnlyIn.setCell W2 ⟨W.heap.size + 1, 0, none⟩ (.int .i64 ((N + 1 : Nat) : Int)) (Or.inr A2.out.on)) (fun j h => Or.inl h)
          have J4 := Lib.hid J3
          have K4 : Hid (Kept (fun j => j = wr.heap.size + 2 ∨ j = wr.heap.size + 1 ∨ j < B) Xi W1 (W2.setCell ⟨W.heap.size + 1, 0, none⟩ (.int .i64 ((N + 1 : Nat) : Int)))) := by
            refine ⟨by simp [World.setCell]; exact hk2.1, fun j hj hjp => ?_⟩
            refine (heap_setCell_past _ _ _ _ ?_).trans (hk2.2 j hj ?_)
            · have := HWR.out (W.heap.size + 1) (by simp)
              show j ≠ W.heap.size + 1
              rcases hjp with (rfl | rfl | h) | h
              · omega
              · omega
              · omega
              · have := h3 j h; omega
            · rcases hjp with (rfl | rfl | h) | h
              · exact Or.inr (Or.inr hX2)
              · exact Or.inr (Or.inr hX1)
              · exact Or.inl (Or.inr h)
              · exact Or.inr (Or.inl h)
          have hz2 : w1.heap.size ≤ W2.heap.size := by have := hk2.1; omega
          have n0 := blk_cell A2.out.bn 0
          have hnb := blk_free A2.out.bn 0
          clear hJ2 hk2 hy d0 d1 d2 d3 y0 J3
          gi_wp2_with fail
          exact ⟨K4.out, A3, J4, h3, by simp [World.setCell]; exact hz2⟩
        · have A2 := Lib.hid (h1.out.keep (W' := W2) (Xo' := X0) (fun j hj => hk2.2 j (by have := HWR.out j hj; omega) (by rcases hj with rfl | rfl | h | rfl | h; exact Or.inr (Or.inr h1.out.oy); exact Or.inr (Or.inr h1.out.on); exact Or.inr (Or.inr (h1.out.ds j h).2); exact Or.inl (Or.inl rfl); exact Or.inl (Or.inr h))) hk2.1 (fun j h => h))
          have hz2 : w1.heap.size ≤ W2.heap.size := by have := hk2.1; omega
          have K4 : Hid (Kept (fun j => j = wr.heap.size + 2 ∨ j = wr.heap.size + 1 ∨ j < B) Xi W1 W2) := by
            refine ⟨hk2.1, fun j hj hjp => hk2.2 j hj ?_⟩
            rcases hjp with (rfl | rfl | h) | h
            · exact Or.inr (Or.inr hX2)
            · exact Or.inr (Or.inr hX1)
            · exact Or.inl (Or.inr h)
            · exact Or.inr (Or.inl h)
          have J4 := Lib.hid hJ2
          clear hJ2 hk2 hy d0 d1 d2 d3 y0 n0 hnb
          gi_wp2_with fail
          exact ⟨K4.out, rfl, ⟨N, A2⟩, J4, h3, hz2⟩
      case done =>
        rintro D Xi W1 hD hXD ⟨h1, h2, h3, h4⟩ hdef
        have hHK : Hid (gs[k]? = some g) := HGK
        have A2 := Lib.hid ((h1.out.keep (W' := W1) (Xo' := fun j => Xi j ∨ X0 j) (fun j _ => rfl) (Nat.le_refl _) (fun j h => Or.inr h)).mark hdef (Or.inl hXD) (fun h => by have := HWR.out D (by simp [h]); omega))
        rw [← lvsFrom_take HGK.out] at A2 h2
        clear h1 hHK
        gi_wp2_with fail
        exact Handed.intro (gs.length - (k + 1)) (by omega) (hJr _ _ _ ⟨D :: Ds, _, k + 1, _, _, _, _, _, _, _, _, _, _, _, _, _, _, _, _, _, _, _, rfl, by omega, rfl, A2, h2⟩)
      case stop =>
        rintro D c pre Xi W1 hD hXD ⟨rfl, ⟨n, h1⟩, h2, h3, h4⟩ hdef
        have A2 := Lib.hid ((h1.out.keep (W' := W1) (Xo' := fun j => Xi j ∨ X0 j) (fun j _ => rfl) (Nat.le_refl _) (fun j h => Or.inr h)).mark hdef (Or.inl hXD) (fun h => by have := HWR.out D (by simp [h]); omega))
        clear h1
        gi_wp2_with fail
        refine leaves_marks (D :: Ds) W1 A2.out.nd (fun D' hD' => (A2.out.ds D' hD').1) (fun W' ho hz => ?_)
        refine ⟨_, results_none rfl _ _ _, ⟨_, rfl⟩, .inr ⟨_, _, HJx.out _ _ _ _ _ h2.out (ho.mono fun j hj => (A2.out.ds j hj).2) (fun j h => Or.inl h)⟩⟩
    · obtain rfl : k = gs.length := by omega
      rw [List.take_length] at hA hJk
      gi_wp2_with fail
      refine leaves_marks Ds wr hA.out.nd (fun D' hD' => (hA.out.ds D' hD').1) (fun W' ho hz => ?_)
      refine ⟨_, results_none rfl _ _ _, ⟨_, rfl⟩, .inl ⟨_, HJ.out _ _ _ _ _ hJk.out (ho.mono fun j hj => (hA.out.ds j hj).2) (fun j h => Or.inl h)⟩⟩
end Go.Proofs.YtlfglbnbenaghaaGreatDoor

/- More on the statement that ranges over a function: what a caller keeps; how it leaves. For any program. -/
namespace Go.Proofs.YtlfglbnbenaghaaGreatDoor
set_option linter.unusedSimpArgs false
set_option linter.unusedVariables false
open Go Go.RowKit

theorem Held.get {w0 W : World} {bs : List (Nat × Obj)} (h : Held w0 bs W) (i : Nat) {k : Nat} {o : Obj} (hi : bs[i]? = some (k, o)) : W.heap[k]? = some o := h.at_ (k, o) (List.mem_of_getElem? hi)
/-- The frame bears one mark: it is taken back. -/
theorem leave_ret {n : Nat} {P : Program} {fn : Func} {tmps : Array Value} {R : Ending → World → Prop} {D : Nat} {W : World} (hD : W.heap[D]? = some (.deferred (some [])))
    (h : ∃ v, (results fn tmps).run P (W.putObj D (.deferred none)) = .ok v (W.putObj D (.deferred none)) ∧ R (.returned v) (W.putObj D (.deferred none))) :
    bodyPostM Fence.wide n P fn R .ret ⟨tmps, [{ target := .collected D, args := #[] }]⟩ W := by
  refine ⟨by simp, .inl ⟨_, _, rfl, run_takeDeferred hD, ?_⟩⟩
  exact h
theorem leave_end {n : Nat} {P : Program} {fn : Func} {tmps : Array Value} {R : Ending → World → Prop} {D : Nat} {W : World} (hD : W.heap[D]? = some (.deferred (some [])))
    (h : ∃ v, (results fn tmps).run P (W.putObj D (.deferred none)) = .ok v (W.putObj D (.deferred none)) ∧ R (.returned v) (W.putObj D (.deferred none))) :
    bodyPostM Fence.wide n P fn R .normal ⟨tmps, [{ target := .collected D, args := #[] }]⟩ W := leave_ret hD h
theorem Held.put {w0 W : World} {bs : List (Nat × Obj)} (h : Held w0 bs W) {D : Nat} (o : Obj) (h0 : w0.heap.size ≤ D) (hb : ∀ p ∈ bs, p.1 < D) : Held w0 bs (W.putObj D o) :=
  h.only (OnlyIn.putObj (X := fun k => k = D) W D o rfl) (hs := D) (fun _ h => by omega) h0 hb
/-- All four cells, or both, or all three. -/
theorem blk_set4 {W : World} {k : Nat} {a b c d : Value} {t : TypeId} {f : Nat × Nat} (h : W.heap[k]? = some (.cells #[a, b, c, d] t f)) (a' b' c' d' : Value) :
    ((((W.setCell ⟨k, 0, none⟩ a').setCell ⟨k, 1, none⟩ b').setCell ⟨k, 2, none⟩ c').setCell ⟨k, 3, none⟩ d').heap[k]? = some (.cells #[a', b', c', d'] t f) := by
  have := blk_set (blk_set (blk_set (blk_set h 0 a') 1 b') 2 c') 3 d'
  simpa using this
theorem blk_set3 {W : World} {k : Nat} {a b c : Value} {t : TypeId} {f : Nat × Nat} (h : W.heap[k]? = some (.cells #[a, b, c] t f)) (a' b' c' : Value) :
    (((W.setCell ⟨k, 0, none⟩ a').setCell ⟨k, 1, none⟩ b').setCell ⟨k, 2, none⟩ c').heap[k]? = some (.cells #[a', b', c'] t f) := by
  have := blk_set (blk_set (blk_set h 0 a') 1 b') 2 c'
  simpa using this
theorem blk_set2 {W : World} {k : Nat} {a b : Value} {t : TypeId} {f : Nat × Nat} (h : W.heap[k]? = some (.cells #[a, b] t f)) (a' b' : Value) :
    ((W.setCell ⟨k, 0, none⟩ a').setCell ⟨k, 1, none⟩ b').heap[k]? = some (.cells #[a', b'] t f) := by
  have := blk_set (blk_set h 0 a') 1 b'
  simpa using this
theorem blk_set1 {W : World} {k : Nat} {a : Value} {t : TypeId} {f : Nat × Nat} (h : W.heap[k]? = some (.cells #[a] t f)) (a' : Value) :
    (W.setCell ⟨k, 0, none⟩ a').heap[k]? = some (.cells #[a'] t f) := by
  have := blk_set h 0 a'
  simpa using this

/-- The frame with some slots written. -/
def putAll (tmps : Array Value) (us : List (Nat × Value)) : Array Value := us.foldl (fun t p => t.setIfInBounds p.1 p.2) tmps

/-- THE STATEMENT, the round's frame by the slots that its assignment writes. -/
theorem rf_law2 {P : Program} {n : Nat} {α : Type} {g : Operand} {ps : Array Tmp} {assign body : Code} {Q : Exit → Act → World → Prop} {a : Act} {w : World}
    {gf : Nat} {lb : Array Value} (hg : a.eval g = .func (.func gf) #[] lb) (eg : ∀ args w, (callFunc gf args).run P w = .ok (.enter gf args) w)
    {encs : α → Array Value} {xs : List α} {Pr : Nat → Prop} (hit : ItC P gf lb encs xs Pr w) (hps : ∀ x, (encs x).size = ps.size) (hPr : ∀ k, Pr k → k < w.heap.size)
    (I : List α → World → Prop) (Ix : Code → List α → World → Prop) (Ow : World → Nat → Prop) (o : α → Obj) (upd : α → Nat → List (Nat × Value))
    (hOwc : ∀ pre W k, I pre W → Ow W k → ∃ c t f, W.heap[k]? = some (.cells c t f))
    (hI : ∀ pre (X : Nat → Prop) W W', I pre W → OnlyIn X W W' → (∀ k, X k → w.heap.size ≤ k ∧ ¬ Ow W k) → I pre W' ∧ ∀ k, Ow W' k → Ow W k)
    (hIx : ∀ c pre (X : Nat → Prop) W W', Ix c pre W → OnlyIn X W W' → (∀ k, X k → w.heap.size ≤ k) → Ix c pre W')
    (h0 : I [] w)
    (hassign : ∀ (l : Nat) (x : α) (W : World) (K : Act → World → Prop), K { tmps := putAll a.tmps (upd x W.heap.size), defers := [] } (W.alloc (o x)) →
      assign.wpIn (Fence.wide.inRound l) 9 P (Exit.then K (fun _ _ _ => False)) { tmps := (ps.zip (encs x)).foldl (fun t (p, v) => t.setIfInBounds p v) a.tmps, defers := [] } W)
    (hbody : ∀ (l : Nat) (pre : List α) (x : α) (rest : List α) (bx : Nat) (W : World), xs = pre ++ x :: rest → I pre W → W.heap[bx]? = some (o x) → w.heap.size ≤ bx → ¬ Ow W bx →
      body.wpIn (Fence.wide.inRound l) 9 P (rfPost w.heap.size Pr Ow I Ix (pre ++ [x]) W) { tmps := putAll a.tmps (upd x bx), defers := [] } W)
    (hdone : ∀ (D : Nat) (W : World), w.heap.size ≤ D → I xs W → W.heap[D]? = some (.deferred (some [])) → Q .normal { a with defers := { target := .collected D, args := #[] } :: a.defers } W)
    (hstop : ∀ (D : Nat) (c : Code) (pre : List α) (W : World), w.heap.size ≤ D → Ix c pre W → W.heap[D]? = some (.deferred (some [])) → c.wpIn Fence.wide n P Q { a with defers := { target := .collected D, args := #[] } :: a.defers } W) :
    (Code.rangeFunc g ps assign body).wpIn Fence.wide n P Q a w :=
  rf_law hg eg hit hps hPr I Ix Ow o (fun x bx => { tmps := putAll a.tmps (upd x bx), defers := [] }) hOwc hI hIx h0 hassign hbody hdone hstop

end Go.Proofs.YtlfglbnbenaghaaGreatDoor

/- The leaf with a number. -/
namespace Go.Proofs.YtlfglbnbenaghaaGreatDoor
set_option linter.unusedSimpArgs false
set_option linter.unusedVariables false
open Go Go.RowKit Go.Sort Go.BigFrame Go.Shelf
attribute [local go_sem] Oper.semAt_some

def getL {α : Type} (xs : List α) (n : Int) : Option α := if n < 0 then none else xs[n.toNat]?
def leafR : Option Lf → Value
  | some x => .tuple #[lfV x, .bool true]
  | none => .tuple #[.agg #[.int .i64 0, .int .i64 0, .int .i64 0, .int .i64 0], .bool false]
theorem zip_at {xs : List Lf} {pre rest : List (Lf × Nat)} {y : Lf × Nat} (h : xs.zipIdx = pre ++ y :: rest) : y.2 = pre.length ∧ xs[pre.length]? = some y.1 := by
  have h1 : xs.zipIdx[pre.length]? = some y := by rw [h]; simp
  rw [List.getElem?_zipIdx] at h1
  cases hx : xs[pre.length]? with
  | none => rw [hx] at h1; cases h1
  | some z => rw [hx] at h1; simp only [Option.map_some, Option.some.injEq] at h1; subst h1; exact ⟨by simp, rfl⟩

set_option maxRecDepth 100000 in
set_option maxHeartbeats 1000000 in
theorem leaf_any (b : Bk) (v : Value) (n : Int) (w : World) (hb : BookAt w.heap.size w v b) (he : errF b = 0) :
    Calls Tryz.prog 46 #[v, .int .i64 n] w fun e w' => e = .returned (leafR (getL (lvs b) n)) ∧ Below w.heap.size w w' := by
  obtain ⟨sv, rfl, hgs⟩ := hb
  have hgs' := hgs
  obtain ⟨a, cap, rfl, -⟩ := hgs'
  have hok := errF_zero he
  refine (callsIn_wide (n := 10)).1 ?_
  refine callsIn_of_wp_marks Tryz.func46 rfl trivial ?_ rfl
  simp only [Tryz.ntmps46, List.size_toArray, List.length_cons, List.length_nil, Nat.reduceAdd, Nat.reduceSub, Array.replicate_succ, Array.replicate_zero, List.push_toArray, List.append_toArray, List.nil_append, List.cons_append]
  have HG := Lib.hid hgs
  clear hgs
  gi_wp2_with fail
  refine ⟨trivial, ?_⟩
  refine (callsIn_wide.2 (volLeaves_any b.signed a b.gs.length cap _)).mono ?_
  rintro e w1 ⟨rfl, hw1⟩
  gi_wp2_with fail
  obtain ⟨K, hK⟩ : ∃ K, K = w.heap.size := ⟨_, rfl⟩
  have hz1 : w1.heap.size = K + 5 := by rw [← hw1, hK]; simp
  have hh : Held w [(K + 1, .cells #[.int .i64 n] 3), (K + 2, .cells #[.int .i64 0, .int .i64 0, .int .i64 0, .int .i64 0] 89), (K + 3, .cells #[.bool false] 4)] w1 := by
    subst hK
    refine ⟨by rw [← hw1]; exact (by repeat (first | (refine Below.setCell ?_ ?_ _; rotate_left; · (first | omega | (simp; done) | (simp; omega) | fail)) | (refine Below.alloc ?_ ?_ _; rotate_left; · (first | omega | (simp; done) | (simp; omega) | fail)) | refine Below.drew ?_ | exact Below.refl _ _ | fail)), fun p hp => ?_⟩
    simp only [List.mem_cons, List.not_mem_nil, or_false] at hp
    rw [← hw1]
    rcases hp with rfl | rfl | rfl <;> exact (by repeat (first | exact heap_alloc_at _ _ _ (by (first | omega | (simp; done) | (simp; omega) | fail)) | (refine (heap_alloc_past _ _ _ ?_).trans ?_; · (first | omega | (simp; done) | (simp; omega) | fail)) | fail))
  have hvb : w1.heap[K + 4]? = some (.cells #[.int .i64 b.signed, .slice a b.gs.length cap] 57) := by rw [← hw1, hK]; exact (by repeat (first | exact heap_alloc_at _ _ _ (by (first | omega | (simp; done) | (simp; omega) | fail)) | (refine (heap_alloc_past _ _ _ ?_).trans ?_; · (first | omega | (simp; done) | (simp; omega) | fail)) | fail))
  simp only [World.size_alloc, ← hK]
  have hKl : w.heap.size ≤ K := by omega
  clear hw1 hK
  have HV := Lib.hid hvb
  clear hvb
  refine rf_law (gf := 77) (lb := #[.pointer (some ⟨K + 4, 0, none⟩)]) rfl (enters_of Tryz.func77 (by kernel_rfl) rfl)
    (leaves_it b.gs b.signed a cap w1 (K + 4) w.heap.size (by omega) (HG.out.below hh.below (Nat.le_refl _)) hok.gs (by have := hok.len; omega) HV.out) (fun _ => rfl) (fun j hj => by rcases hj with h | h <;> omega)
    (fun pre W => Held w [(K + 1, .cells #[.int .i64 n] 3), (K + 2, .cells #[.int .i64 0, .int .i64 0, .int .i64 0, .int .i64 0] 89), (K + 3, .cells #[.bool false] 4)] W ∧ ¬ (0 ≤ n ∧ n < pre.length))
    (fun c _ W => c = .ret ∧ ∃ x, getL (lvs b) n = some x ∧ Held w [(K + 2, .cells #[.int .i64 x.gat, .int .i64 x.num, .int .i64 x.plus, .int .i64 x.kind] 89), (K + 3, .cells #[.bool true] 4)] W)
    (fun _ _ => False) (fun y => .cells #[.int .i64 y.1.gat, .int .i64 y.1.num, .int .i64 y.1.plus, .int .i64 y.1.kind] 89)
    (fun y bx => { tmps := #[.agg #[.int .i64 b.signed, .slice a b.gs.length cap], .int .i64 n, .pointer (some ⟨K, 0, none⟩), .pointer (some ⟨K + 1, 0, none⟩), .pointer (some ⟨K + 2, 0, none⟩), .pointer (some ⟨K + 3, 0, none⟩), .int .i64 y.2, .pointer (some ⟨bx, 0, none⟩), .agg #[.int .i64 b.signed, .slice a b.gs.length cap], .func (.func 77) #[] #[.pointer (some ⟨K + 4, 0, none⟩)], .int .i64 y.2, lfV y.1, undef, undef, undef, undef, undef], defers := [] })
    (fun _ _ _ _ h => h.elim) ?hI ?hIx ⟨hh, by simp⟩ ?assign ?body ?done ?stop
  case hI =>
    rintro pre X W W' ⟨h1, h2⟩ ho hX
    refine ⟨⟨h1.only ho (hs := w1.heap.size) (fun k h => (hX k h).1) (by omega) (fun p hp => ?_), h2⟩, fun k h => h.elim⟩
    simp only [List.mem_cons, List.not_mem_nil, or_false] at hp
    rcases hp with rfl | rfl | rfl <;> (simp only; omega)
  case hIx =>
    rintro c pre X W W' ⟨h0, x, h1, h2⟩ ho hX
    refine ⟨h0, x, h1, h2.only ho (hs := w1.heap.size) hX (by omega) (fun p hp => ?_)⟩
    simp only [List.mem_cons, List.not_mem_nil, or_false] at hp
    rcases hp with rfl | rfl <;> (simp only; omega)
  case assign =>
    intro l y W K' hK'
    gi_wp2_with fail
    exact hK'
  case body =>
    rintro l pre y rest bx W hsp ⟨h1, h2⟩ hbx hlb -
    obtain ⟨hy, hx⟩ := zip_at hsp
    have n0 := blk_cell (h1.get 0 rfl) 0
    by_cases hn : (y.2 : Int) = n
    · have r := h1.get 1 rfl
      have s := h1.get 2 rfl
      have d0 := blk_cell hbx 0; have d1 := blk_cell hbx 1; have d2 := blk_cell hbx 2; have d3 := blk_cell hbx 3
      have r0 := blk_cell r 0; have r1 := blk_cell r 1; have r2 := blk_cell r 2; have r3 := blk_cell r 3
      have f0 := blk_free r 0; have f1 := blk_free r 1; have f2 := blk_free r 2; have f3 := blk_free r 3
      have s0 := blk_cell s 0
      have g0 := blk_free s 0
      gi_wp2_with fail
      refine ⟨Turn.of (X := fun k => k = K + 2 ∨ k = K + 3) (by repeat (first | exact OnlyIn.refl _ _ | refine OnlyIn.trans ?_ (OnlyIn.setCell _ _ _ (by simp)) | refine OnlyIn.trans ?_ (OnlyIn.alloc _ _ _) | refine OnlyIn.trans ?_ (OnlyIn.drew _ _) | fail)) (fun k hk => ?_) (fun k hk => ?_), rfl, y.1, ?_, h1.below.trans ?_, fun p hp => ?_⟩
      · have := h1.below.size
        rcases hk with rfl | rfl <;> exact ⟨by omega, fun h => by rcases h with h | h <;> omega⟩
      · have := h1.below.size
        have := blk_lt hbx
        rcases hk with rfl | hk <;> omega
      · unfold getL; rw [if_neg (by omega), show n.toNat = pre.length by omega]; exact hx
      · have hb0 := Below.refl w.heap.size W
        have := h1.below.size
        exact (by repeat (first | (refine Below.setCell ?_ ?_ _; rotate_left; · (first | omega | (simp; done) | (simp; omega) | fail)) | (refine Below.alloc ?_ ?_ _; rotate_left; · (first | omega | (simp; done) | (simp; omega) | fail)) | refine Below.drew ?_ | exact hb0 | fail))
      · (simp only [List.mem_cons, List.not_mem_nil, or_false] at hp)
        rcases hp with rfl | rfl <;> dsimp only
        · exact (heap_setCell_past _ ⟨K + 3, 0, none⟩ _ (K + 2) (by simp)).trans (blk_set4 r _ _ _ _)
        · refine blk_set1 (a := .bool false) ?_ _
          exact (by repeat (first | (refine (heap_setCell_past _ _ _ _ ?_).trans ?_; · (first | omega | (simp; done) | (simp; omega) | fail)) | (refine (heap_alloc_past _ _ _ ?_).trans ?_; · (first | omega | (simp; done) | (simp; omega) | fail)) | exact s | fail))
    · gi_wp2_with fail
      refine ⟨Turn.refl _ _ _ _, h1, ?_⟩
      simp only [List.length_append, List.length_cons, List.length_nil]
      omega
  case done =>
    rintro D W hD ⟨h1, h2⟩ hdef
    have r := h1.get 1 rfl
    have s := h1.get 2 rfl
    have r0 := blk_cell r 0; have r1 := blk_cell r 1; have r2 := blk_cell r 2; have r3 := blk_cell r 3
    have f0 := blk_free r 0; have f1 := blk_free r 1; have f2 := blk_free r 2; have f3 := blk_free r 3
    have s0 := blk_cell s 0
    have g0 := blk_free s 0
    have hKW := h1.below.size
    gi_wp2_with fail
    have h4 : Held w [(K + 1 + 1, .cells #[.int .i64 0, .int .i64 0, .int .i64 0, .int .i64 0] 89), (K + 1 + 1 + 1, .cells #[.bool false] 4)] (((((W.setCell ⟨K + 1 + 1, 0, none⟩ (.int .i64 0)).setCell ⟨K + 1 + 1, 1, none⟩ (.int .i64 0)).setCell ⟨K + 1 + 1, 2, none⟩ (.int .i64 0)).setCell ⟨K + 1 + 1, 3, none⟩ (.int .i64 0)).setCell ⟨K + 1 + 1 + 1, 0, none⟩ (.bool false)) := by
      refine ⟨h1.below.trans ?_, fun p hp => ?_⟩
      · have hb0 := Below.refl w.heap.size W
        exact (by repeat (first | (refine Below.setCell ?_ ?_ _; rotate_left; · (first | omega | (simp; done) | (simp; omega) | fail)) | (refine Below.alloc ?_ ?_ _; rotate_left; · (first | omega | (simp; done) | (simp; omega) | fail)) | refine Below.drew ?_ | exact hb0 | fail))
      · (simp only [List.mem_cons, List.not_mem_nil, or_false] at hp)
        rcases hp with rfl | rfl <;> dsimp only
        · exact (heap_setCell_past _ ⟨K + 1 + 1 + 1, 0, none⟩ _ (K + 1 + 1) (by simp)).trans (blk_set4 r _ _ _ _)
        · refine blk_set1 (a := .bool false) ?_ _
          exact (by repeat (first | (refine (heap_setCell_past _ _ _ _ ?_).trans ?_; · (first | omega | (simp; done) | (simp; omega) | fail)) | (refine (heap_alloc_past _ _ _ ?_).trans ?_; · (first | omega | (simp; done) | (simp; omega) | fail)) | exact s | fail))
    have h3 := h4.put (.deferred none) (D := D) (by omega) (fun p hp => by (simp only [List.mem_cons, List.not_mem_nil, or_false] at hp); rcases hp with rfl | rfl <;> (simp only; omega))
    have hdef' : (((((W.setCell ⟨K + 1 + 1, 0, none⟩ (.int .i64 0)).setCell ⟨K + 1 + 1, 1, none⟩ (.int .i64 0)).setCell ⟨K + 1 + 1, 2, none⟩ (.int .i64 0)).setCell ⟨K + 1 + 1, 3, none⟩ (.int .i64 0)).setCell ⟨K + 1 + 1 + 1, 0, none⟩ (.bool false)).heap[D]? = some (.deferred (some [])) := by exact (by repeat (first | (refine (heap_setCell_past _ _ _ _ ?_).trans ?_; · (first | omega | (simp; done) | (simp; omega) | fail)) | (refine (heap_alloc_past _ _ _ ?_).trans ?_; · (first | omega | (simp; done) | (simp; omega) | fail)) | exact hdef | fail))
    have r := h3.get 0 rfl
    have s := h3.get 1 rfl
    have r0 := blk_cell r 0; have r1 := blk_cell r 1; have r2 := blk_cell r 2; have r3 := blk_cell r 3
    have s0 := blk_cell s 0
    refine leave_ret hdef' ⟨leafR none, by simp [leafR, results, Tryz.results46, go_sem, r0, r1, r2, r3, s0], ?_⟩
    have hN : getL (lvs b) n = none := by
      rw [List.length_zipIdx] at h2
      unfold getL
      split
      · rfl
      · exact List.getElem?_eq_none (by unfold lvs; omega)
    rw [hN]
    exact ⟨rfl, h3.below⟩
  case stop =>
    rintro D c pre W hD ⟨rfl, x, h1, h2⟩ hdef
    gi_wp2_with fail
    have h3 := h2.put (.deferred none) (D := D) (by omega) (fun p hp => by (simp only [List.mem_cons, List.not_mem_nil, or_false] at hp); rcases hp with rfl | rfl <;> (simp only; omega))
    have r := h3.get 0 rfl
    have s := h3.get 1 rfl
    have r0 := blk_cell r 0; have r1 := blk_cell r 1; have r2 := blk_cell r 2; have r3 := blk_cell r 3
    have s0 := blk_cell s 0
    refine leave_ret hdef ⟨leafR (some x), by simp [leafR, lfV, results, Tryz.results46, go_sem, r0, r1, r2, r3, s0], ?_⟩
    rw [h1]
    exact ⟨rfl, h3.below⟩

end Go.Proofs.YtlfglbnbenaghaaGreatDoor

/- 'list = append(list, x)' in a round: the row is as before or new. For any program. -/
namespace Go.Proofs.YtlfglbnbenaghaaGreatDoor
set_option linter.unusedSimpArgs false
set_option linter.unusedVariables false
open Go Go.RowKit

theorem run_append_one {P : Program} (w : World) (base : Nat) (t ty e : TypeId) (i : TypeInfo) (z : Value) (size bytes : Nat) (ht : P.underlying t = some (.slice e)) (hi : P.info? e = some i) (hz : i.zero = some z)
    (hsize : i.size = size) (hby : i.bytes = bytes) (hzs : z.cells.size = size) (hsz : 0 < size)
    (v : Value) (n : Nat) (xs : List Value) (hown : w.ownsRow base e size v n xs)
    (a : Addr) (c : Nat) (news : List Value) (hl : news.length = size) (hnews : ∀ j u, news[j]? = some u → w.cell? (a.add j) = some u) (h1 : ∀ u ∈ news, u.oneCell' = true)
    (h63 : n + 1 ≤ maxLen) (hbytes : (n + 1) * bytes ≤ 140737488355328) (hbase : base ≤ w.heap.size) :
    ∃ g cap w', (Builtin.append_ #[t, t] ty #[v, .slice (some a) 1 c]).run P w = .ok (.slice (some ⟨g, 0, none⟩) (n + 1) cap) w' ∧ w'.ownsRow base e size (.slice (some ⟨g, 0, none⟩) (n + 1) cap) (n + 1) (xs ++ news) ∧ w.grownBy w' v.ownBlock ∧
      (v.ownBlock = some g ∨ w.heap.size ≤ g) := by
  have hl1 : news.length = 1 * size := by omega
  obtain ⟨v', w', hr, ho, hg, -⟩ := run_append_own (P := P) w base t ty e i z size bytes ht hi hz hsize hby hzs hsz v n xs hown a 1 c news hl1 hnews h1 h63 hbytes hbase
  obtain ⟨g, cap, rfl⟩ := ownsRow_succ ho
  refine ⟨g, cap, w', hr, ho, hg, ?_⟩
  rcases hown.2 with ⟨rfl, rfl⟩ | ⟨g0, cap0, cur, rfl, hbg, hg0, hnc, hcm, hcs, htake⟩
  · have hx : xs = [] := List.eq_nil_of_length_eq_zero (by simpa using hown.1)
    subst hx
    obtain ⟨v2, w2, hr2, ho2, -, -⟩ := run_append_own (P := P) w w.heap.size t ty e i z size bytes ht hi hz hsize hby hzs hsz (.slice none 0 0) 0 [] (World.ownsRow_nil w _ _ _) a 1 c news hl1 hnews h1 h63 hbytes (Nat.le_refl _)
    rw [hr] at hr2
    cases hr2
    rcases ho2.2 with ⟨h, -⟩ | ⟨g', cap', cur', h, hb', -⟩
    · cases h
    · cases h; exact Or.inr hb'
  · subst hsize
    by_cases hroom : n + 1 ≤ cap0
    · have hfit : n * i.size + news.length ≤ cur.size := by rw [hl1, hcs, ← Nat.add_mul]; exact Nat.mul_le_mul_right _ hroom
      have hr2 := run_append_room (P := P) w t ty e i ht hi g0 n cap0 cur hg0 a 1 c news hl1 hnews h1 hroom hfit
      rw [hr] at hr2
      cases hr2
      exact Or.inl rfl
    · have hcell : ∀ j u, xs[j]? = some u → w.cell? ((⟨g0, 0, none⟩ : Addr).add j) = some u := World.ownsRow.cells hown (by simp [Value.ownBlock])
      have hr2 := run_append_grow (P := P) w t ty e i z ht hi hz ⟨g0, 0, none⟩ n cap0 xs hown.1 hcell a 1 c news hl1 hnews (by omega) (by simp only [maxLen] at h63; omega) (growslice_fits (by omega) (by rw [hby]; exact hbytes))
      rw [hr] at hr2
      cases hr2
      exact Or.inr (Nat.le_refl _)

theorem wpListIn_append_one {F : Fence} {n : Nat} {P : Program} (w : World) {ops : Array Oper} {rest : List Oper} {o : Oper} {a : Act} {Q : Exit → Act → World → Prop}
    (hg : o.guard = none) (s x : Operand) (t : TypeId) (hop : o.op = Op.call { callee := Callee.builtin Builtin.append, args := #[s, x], argTypes := #[t, t] })
    (base : Nat) (e : TypeId) (i : TypeInfo) (z : Value) (size bytes : Nat) (h1 : P.underlying t = some (.slice e)) (h2 : P.info? e = some i) (h3 : i.zero = some z) (h4 : i.size = size) (h5 : i.bytes = bytes) (h6 : z.cells.size = size) (h7 : 0 < size)
    (v : Value) (k : Nat) (xs : List Value) (hs : a.eval s = v) (hown : w.ownsRow base e size v k xs) (ad : Addr) (c : Nat) (news : List Value) (hx : a.eval x = .slice (some ad) 1 c) (hn : news.length = size)
    (hc : ∀ j u, news[j]? = some u → w.cell? (ad.add j) = some u) (h1c : ∀ u ∈ news, u.oneCell' = true) (b1 : k + 1 ≤ maxLen) (b2 : (k + 1) * bytes ≤ 140737488355328) (b3 : base ≤ w.heap.size)
    (hK : ∀ g cap w', w'.ownsRow base e size (.slice (some ⟨g, 0, none⟩) (k + 1) cap) (k + 1) (xs ++ news) → w.grownBy w' v.ownBlock → (v.ownBlock = some g ∨ w.heap.size ≤ g) → wpListIn F n P ops Q rest (a.put o.dst (.slice (some ⟨g, 0, none⟩) (k + 1) cap)) w') :
    wpListIn F n P ops Q (o :: rest) a w := by
  refine wpListIn_plain hg fun K hK' => ?_
  obtain ⟨g, cap, w', hrun, r1, r2, r3⟩ := run_append_one (P := P) w base t o.type e i z size bytes h1 h2 h3 h4 h5 h6 h7 v k xs hown ad c news hn hc h1c b1 b2 b3
  unfold Oper.wpIn
  refine ⟨?_, ?_⟩
  · simp [Oper.about, hop, resolve, Target.leads, Sem.run_pure]
  · rw [Oper.semAt_plain F _ _ (by rw [hop]; intro c hc'; cases hc')]
    simp [execOp, hop, resolve, invoke, builtin, hs, hx, hrun, Result.andThen]
    exact hK' _ _ (hK g cap w' r1 r2 r3)

/-- A variable's box holds a slice of the call's own. -/
def ListAt (W : World) (base BL : Nat) (ty e : TypeId) (size k : Nat) (xs : List Value) : Prop := ∃ v, W.heap[BL]? = some (.cells #[v] ty) ∧ W.ownsRow base e size v k xs
/-- The row of that slice. -/
def OwL (BL : Nat) (ty : TypeId) (W : World) (j : Nat) : Prop := ∃ v, W.heap[BL]? = some (.cells #[v] ty) ∧ v.ownBlock = some j
theorem ListAt.own {W : World} {base BL : Nat} {ty e : TypeId} {size k : Nat} {xs : List Value} (h : ListAt W base BL ty e size k xs) {j : Nat} (hj : OwL BL ty W j) : base ≤ j ∧ ∃ c t f, W.heap[j]? = some (.cells c t f) := by
  obtain ⟨v, h1, h2⟩ := h
  obtain ⟨u, h3, h4⟩ := hj
  rw [h1] at h3
  simp only [Option.some.injEq, Obj.cells.injEq, Array.mk.injEq, List.cons.injEq, and_true] at h3
  subst h3
  refine ⟨(h2.lt j h4).1, ?_⟩
  rcases h2.2 with ⟨rfl, -⟩ | ⟨g, cap, cur, rfl, -, hg, -⟩
  · simp [Value.ownBlock] at h4
  · simp only [Value.ownBlock, Option.some.injEq] at h4
    subst h4
    exact ⟨_, _, _, hg⟩
theorem ListAt.only {W W' : World} {X : Nat → Prop} {hs base BL : Nat} {ty e : TypeId} {size k : Nat} {xs : List Value} (h : ListAt W base BL ty e size k xs) (ho : OnlyIn X W W') (hX : ∀ j, X j → hs ≤ j ∧ ¬ OwL BL ty W j) (hBL : BL < hs) :
    ListAt W' base BL ty e size k xs ∧ ∀ j, OwL BL ty W' j → OwL BL ty W j := by
  obtain ⟨v, h1, h2⟩ := h
  have h1' : W'.heap[BL]? = some (.cells #[v] ty) := (ho.block BL (Array.getElem?_eq_some_iff.1 h1).1 (fun hx => by have := (hX _ hx).1; omega)).trans h1
  refine ⟨⟨v, h1', h2.1, ?_⟩, fun j ⟨u, h3, h4⟩ => ?_⟩
  · rcases h2.2 with hn | ⟨g, cap, cur, rfl, hb, hg, rest⟩
    · exact .inl hn
    · refine .inr ⟨g, cap, cur, rfl, hb, ?_, rest⟩
      exact (ho.block g (Array.getElem?_eq_some_iff.1 hg).1 (fun hx => (hX _ hx).2 ⟨_, h1, by simp [Value.ownBlock]⟩)).trans hg
  · rw [h1'] at h3
    simp only [Option.some.injEq, Obj.cells.injEq, Array.mk.injEq, List.cons.injEq, and_true] at h3
    subst h3
    exact ⟨v, h1, h4⟩
/-- Behind 'list = append(list, x)'. -/
theorem list_step {W Wt w' : World} {hs base BL : Nat} {ty e : TypeId} {size k g cap : Nat} {v : Value} {xs ys : List Value} {Pr : Nat → Prop} (hL : W.heap[BL]? = some (.cells #[v] ty)) (hrow : W.ownsRow base e size v k xs) (_hty : ty ≠ e)
    (ho : OnlyIn (fun _ => False) W Wt) (hown : w'.ownsRow base e size (.slice (some ⟨g, 0, none⟩) (k + 1) cap) (k + 1) ys) (hgrow : Wt.grownBy w' v.ownBlock) (hg : v.ownBlock = some g ∨ Wt.heap.size ≤ g)
    (hBL : BL < hs) (hb : hs ≤ base) (hPr : ∀ j, Pr j → j ≠ BL ∧ j < base ∧ j < W.heap.size) :
    w'.heap[BL]? = some (.cells #[v] ty) ∧ ListAt (w'.setCell ⟨BL, 0, none⟩ (.slice (some ⟨g, 0, none⟩) (k + 1) cap)) base BL ty e size (k + 1) ys ∧
      Turn hs Pr (OwL BL ty) W (w'.setCell ⟨BL, 0, none⟩ (.slice (some ⟨g, 0, none⟩) (k + 1) cap)) ∧ OnlyIn (fun j => j = BL ∨ base ≤ j) W (w'.setCell ⟨BL, 0, none⟩ (.slice (some ⟨g, 0, none⟩) (k + 1) cap)) := by
  have hBlt : BL < W.heap.size := (Array.getElem?_eq_some_iff.1 hL).1
  have hLt : Wt.heap[BL]? = some (.cells #[v] ty) := (ho.block BL hBlt (fun h => h)).trans hL
  have hnr : some BL ≠ v.ownBlock := fun e' => by
    have h := (hrow.lt BL e'.symm).1; omega
  have hLw : w'.heap[BL]? = some (.cells #[v] ty) := (hgrow.block BL (Array.getElem?_eq_some_iff.1 hLt).1 hnr).trans hLt
  have hne : g ≠ BL := fun e' => by
    rcases hg with h | h
    · exact hnr (by rw [h, e'])
    · have := (Array.getElem?_eq_some_iff.1 hLt).1; omega
  have hL3 : (w'.setCell ⟨BL, 0, none⟩ (.slice (some ⟨g, 0, none⟩) (k + 1) cap)).heap[BL]? = some (.cells #[.slice (some ⟨g, 0, none⟩) (k + 1) cap] ty) := blk_set1 hLw _
  have hkeep : ∀ j, j < W.heap.size → j ≠ BL → some j ≠ v.ownBlock → (w'.setCell ⟨BL, 0, none⟩ (.slice (some ⟨g, 0, none⟩) (k + 1) cap)).heap[j]? = W.heap[j]? := fun j hj hjB hjv =>
    (heap_setCell_past w' ⟨BL, 0, none⟩ _ j hjB).trans ((hgrow.block j (Nat.lt_of_lt_of_le hj ho.size) hjv).trans (ho.block j hj (fun h => h)))
  have hsz : W.heap.size ≤ (w'.setCell ⟨BL, 0, none⟩ (.slice (some ⟨g, 0, none⟩) (k + 1) cap)).heap.size := by
    simp only [World.size_setCell]; exact Nat.le_trans ho.size hgrow.size
  refine ⟨hLw, ⟨_, hL3, hown.kept (grownBy_setCell' w' BL _) (.inr (by simp only [Value.ownBlock, ne_eq, Option.some.injEq]; exact hne))⟩, ⟨hsz, fun j hj => ?_, fun j h1 h2 h3 => ?_, fun j hj ⟨u, h3, h4⟩ => ?_⟩, ⟨?_, ?_, ?_, hsz, fun j hj hx => ?_⟩⟩
  · obtain ⟨a1, a2, a3⟩ := hPr j hj
    exact hkeep j a3 a1 (fun e' => by have := (hrow.lt j e'.symm).1; omega)
  · exact hkeep j h2 (by omega) (fun e' => h3 ⟨v, hL, e'.symm⟩)
  · rw [hL3] at h3
    simp only [Option.some.injEq, Obj.cells.injEq, Array.mk.injEq, List.cons.injEq, and_true] at h3
    subst h3
    simp only [Value.ownBlock, Option.some.injEq] at h4
    subst h4
    rcases hg with h | h
    · exact ⟨v, hL, h⟩
    · have := ho.size; omega
  · show w'.os = _; rw [hgrow.os, ho.os]
  · show w'.tape = _; rw [hgrow.tape, ho.tape]
  · show w'.output = _; rw [hgrow.output, ho.output]
  · exact hkeep j hj (fun e' => hx (Or.inl e')) (fun e' => hx (Or.inr (hrow.lt j e'.symm).1))

theorem cells_new (W : World) (l : List Value) (t : TypeId) : ∀ j u, l[j]? = some u → (W.alloc (.cells ⟨l⟩ t)).cell? ((⟨W.heap.size, 0, none⟩ : Addr).add j) = some u := by
  intro j u hu
  have hadd : (⟨W.heap.size, 0, none⟩ : Addr).add j = ⟨W.heap.size, j, none⟩ := by unfold Addr.add; split <;> simp_all
  rw [hadd, blk_cell (heap_alloc_at W _ _ rfl) j]
  simpa using hu
theorem row_mono {W : World} {base b' : Nat} {e : TypeId} {size k : Nat} {v : Value} {xs : List Value} (h : W.ownsRow base e size v k xs) (hb : b' ≤ base) : W.ownsRow b' e size v k xs :=
  ⟨h.1, h.2.imp id fun ⟨g, cap, cur, he, hb', rest⟩ => ⟨g, cap, cur, he, Nat.le_trans hb hb', rest⟩⟩
theorem elemOf {P : Program} {e : TypeId} {z : Value} {size bytes : Nat} (h : (P.info? e).map (fun i => (i.zero, i.size, i.bytes)) = some (some z, size, bytes)) : ∃ i, P.info? e = some i ∧ i.zero = some z ∧ i.size = size ∧ i.bytes = bytes := by
  cases hi : P.info? e with
  | none => rw [hi] at h; cases h
  | some i =>
    rw [hi] at h
    simp only [Option.map_some, Option.some.injEq, Prod.mk.injEq] at h
    exact ⟨i, rfl, h.1, h.2.1, h.2.2⟩
theorem grown_of_below {W W1 : World} (h : Below W.heap.size W W1) : W.grownBy W1 none := ⟨h.os, h.tape, h.output, h.size, fun k hk _ => h.block k hk⟩
theorem row_later {W W1 : World} {base : Nat} {e : TypeId} {size k : Nat} {v : Value} {xs : List Value} (h : W.ownsRow base e size v k xs) (hb : Below W.heap.size W W1) : W1.ownsRow base e size v k xs :=
  h.kept (grown_of_below hb) (by cases v.ownBlock <;> simp)
/-- A round that only calls and lays blocks. -/
theorem list_stay {W W1 : World} {hs base BL : Nat} {ty e : TypeId} {size k : Nat} {v : Value} {xs : List Value} {Pr : Nat → Prop} (hL : W.heap[BL]? = some (.cells #[v] ty)) (hrow : W.ownsRow base e size v k xs) (hb : Below W.heap.size W W1) (hPr : ∀ j, Pr j → j < W.heap.size) :
    Turn hs Pr (OwL BL ty) W W1 ∧ ListAt W1 base BL ty e size k xs := by
  have hL1 := blk_later hb hL
  refine ⟨⟨hb.size, fun j hj => hb.block j (hPr j hj), fun j _ hj _ => hb.block j hj, fun j _ ⟨u, h3, h4⟩ => ?_⟩, v, hL1, row_later hrow hb⟩
  rw [hL1] at h3
  simp only [Option.some.injEq, Obj.cells.injEq, Array.mk.injEq, List.cons.injEq, and_true] at h3
  subst h3
  exact ⟨v, hL, h4⟩
/-- THE STATEMENT, its body collecting in a slice that lies in a box. -/
theorem rf_list {P : Program} {n : Nat} {α : Type} {g : Operand} {ps : Array Tmp} {assign body : Code} {Q : Exit → Act → World → Prop} {a : Act} {w : World}
    {gf : Nat} {lb : Array Value} (hg : a.eval g = .func (.func gf) #[] lb) (eg : ∀ args w, (callFunc gf args).run P w = .ok (.enter gf args) w)
    {encs : α → Array Value} {xs : List α} {Pr : Nat → Prop} (hit : ItC P gf lb encs xs Pr w) (hps : ∀ x, (encs x).size = ps.size) (hPr : ∀ k, Pr k → k < w.heap.size)
    (w0 : World) (bs : List (Nat × Obj)) (BL : Nat) (ty e : TypeId) (size : Nat) (kf : List α → Nat) (xf : List α → List Value) (o : α → Obj) (upd : α → Nat → List (Nat × Value))
    (hbs : ∀ p ∈ bs, p.1 < w.heap.size) (h0 : Held w0 bs w) (hL0 : w.heap[BL]? = some (.cells #[.slice none 0 0] ty)) (hk0 : kf [] = 0) (hx0 : xf [] = [])
    (hassign : ∀ (l : Nat) (x : α) (W : World) (K : Act → World → Prop), K { tmps := putAll a.tmps (upd x W.heap.size), defers := [] } (W.alloc (o x)) →
      assign.wpIn (Fence.wide.inRound l) 9 P (Exit.then K (fun _ _ _ => False)) { tmps := (ps.zip (encs x)).foldl (fun t (p, v) => t.setIfInBounds p v) a.tmps, defers := [] } W)
    (hbody : ∀ (l : Nat) (pre : List α) (x : α) (rest : List α) (bx : Nat) (W : World) (v : Value), xs = pre ++ x :: rest → Held w0 bs W → W.heap[BL]? = some (.cells #[v] ty) → W.ownsRow w.heap.size e size v (kf pre) (xf pre) → W.heap[bx]? = some (o x) → w.heap.size ≤ bx → v.ownBlock ≠ some bx →
      body.wpIn (Fence.wide.inRound l) 9 P (fun e' _ W' => e' = .normal ∧ Turn w.heap.size Pr (OwL BL ty) W W' ∧ Held w0 bs W' ∧ ListAt W' w.heap.size BL ty e size (kf (pre ++ [x])) (xf (pre ++ [x]))) { tmps := putAll a.tmps (upd x bx), defers := [] } W)
    (hdone : ∀ (D : Nat) (W : World) (v : Value), w.heap.size ≤ D → Held w0 bs W → W.heap[BL]? = some (.cells #[v] ty) → W.ownsRow w.heap.size e size v (kf xs) (xf xs) → W.heap[D]? = some (.deferred (some [])) → Q .normal { a with defers := { target := .collected D, args := #[] } :: a.defers } W) :
    (Code.rangeFunc g ps assign body).wpIn Fence.wide n P Q a w := by
  have hBL : BL < w.heap.size := (Array.getElem?_eq_some_iff.1 hL0).1
  refine rf_law2 hg eg hit hps hPr (fun pre W => Held w0 bs W ∧ ListAt W w.heap.size BL ty e size (kf pre) (xf pre)) (fun _ _ _ => False) (OwL BL ty) o upd
    (fun pre W k h hk => (h.2.own hk).2) ?_ (fun _ _ _ _ _ h => h.elim) ⟨h0, _, hL0, by rw [hk0, hx0]; exact World.ownsRow_nil _ _ _ _⟩ hassign ?_ ?_ (fun _ _ _ _ _ h => h.elim)
  · rintro pre X W W' ⟨h1, h2⟩ ho hX
    obtain ⟨h3, h4⟩ := h2.only ho hX hBL
    exact ⟨⟨h1.only ho (hs := w.heap.size) (fun k h => (hX k h).1) h0.below.size hbs, h3⟩, h4⟩
  · rintro l pre x rest bx W hsp ⟨h1, v, h2, h3⟩ hbx hlb hnb
    refine wpIn_mono (hbody l pre x rest bx W v hsp h1 h2 h3 hbx hlb (fun e' => hnb ⟨v, h2, e'⟩)) ?_
    rintro e' a' W' ⟨rfl, q1, q2, q3⟩
    exact ⟨q1, q2, q3⟩
  · rintro D W hD ⟨h1, v, h2, h3⟩ hd
    exact hdone D W v hD h1 h2 h3 hd

end Go.Proofs.YtlfglbnbenaghaaGreatDoor

/- Leaves. -/
namespace Go.Proofs.YtlfglbnbenaghaaGreatDoor
set_option linter.unusedSimpArgs false
set_option linter.unusedVariables false
open Go Go.RowKit Go.Sort Go.BigFrame Go.Shelf
attribute [local go_sem] Oper.semAt_some putAll

theorem elemLf : ∃ i, Tryz.prog.info? 89 = some i ∧ i.zero = some (.agg #[.int .i64 0, .int .i64 0, .int .i64 0, .int .i64 0]) ∧ i.size = 4 ∧ i.bytes = 32 := elemOf (by kernel_rfl)
theorem undLf : Tryz.prog.underlying 47 = some (.slice 89) := by kernel_rfl
/-- The cells of leaves in a row. -/
def lfCells (xs : List Lf) : List Value := xs.flatMap fun x => [.int .i64 x.gat, .int .i64 x.num, .int .i64 x.plus, .int .i64 x.kind]

set_option maxRecDepth 100000 in
set_option maxHeartbeats 1000000 in
theorem Leaves_bad (b : Bk) (v : Value) (w : World) (hb : BookAt w.heap.size w v b) (he : errF b ≠ 0) :
    Calls Tryz.prog 17 #[v] w fun e w' => e = .returned (.tuple #[.slice none 0 0, .int .i64 (errF b)]) ∧ Below w.heap.size w w' := by
  have hb' := hb
  obtain ⟨sv, rfl, hgs⟩ := hb
  have hgs' := hgs
  obtain ⟨a, cap, rfl, -⟩ := hgs'
  have hop : openV b (.agg #[.int .i64 b.signed, .slice a b.gs.length cap]) = .tuple #[.agg #[.int .i64 0, .slice none 0 0], .int .i64 (errF b)] := by simp [openV, he]
  have hne : (errF b != 0) = true := by simp [he]
  go_enter Tryz.func17, Tryz.ntmps17
  go_wp2_with fail
  refine (open_any b _ _ (hb'.below (B := w.heap.size) (Below.refl _ _ |>.alloc (Nat.le_refl _) _) (Nat.le_refl _) |>.mono (by simp))).mono ?_
  rintro e w1 ⟨rfl, hb1⟩
  rw [hop]
  have hb0 : Below w.heap.size w w1 := ((Below.refl _ w).alloc (Nat.le_refl _) _).trans (hb1.mono (by simp))
  have hz := hb0.size
  go_wp2_with fail
  go_ret2
  exact ⟨rfl, (by repeat (first | (refine Below.setCell ?_ ?_ _; rotate_left; · (first | omega | (simp; done) | (simp; omega) | fail)) | (refine Below.alloc ?_ ?_ _; rotate_left; · (first | omega | (simp; done) | (simp; omega) | fail)) | refine Below.drew ?_ | exact hb0 | fail))⟩

set_option maxRecDepth 100000 in
set_option maxHeartbeats 1000000 in
theorem Leaves_good (b : Bk) (v : Value) (w : World) (hb : BookAt w.heap.size w v b) (he : errF b = 0) :
    Calls Tryz.prog 17 #[v] w fun e w' => (∃ v', e = .returned (.tuple #[v', .int .i64 0]) ∧ w'.ownsRow w.heap.size 89 4 v' (lvs b).length (lfCells (lvs b))) ∧ Below w.heap.size w w' := by
  have hb' := hb
  obtain ⟨sv, rfl, hgs⟩ := hb
  have hgs' := hgs
  obtain ⟨a, cap, rfl, -⟩ := hgs'
  have hok := errF_zero he
  have hop : openV b (.agg #[.int .i64 b.signed, .slice a b.gs.length cap]) = .tuple #[.agg #[.int .i64 b.signed, .slice a b.gs.length cap], .int .i64 0] := by simp [openV, he]
  have HG := Lib.hid hgs
  have HB := Lib.hid hb'
  clear hgs hb'
  refine (callsIn_wide (n := 10)).1 ?_
  refine callsIn_of_wp_marks Tryz.func17 rfl trivial ?_ rfl
  simp only [Tryz.ntmps17, List.size_toArray, List.length_cons, List.length_nil, Nat.reduceAdd, Nat.reduceSub, Array.replicate_succ, Array.replicate_zero, List.push_toArray, List.append_toArray, List.nil_append, List.cons_append]
  gi_wp2_with fail
  refine ⟨trivial, ?_⟩
  refine (callsIn_wide.2 (open_any b _ _ (HB.out.below (B := w.heap.size) (Below.refl _ _ |>.alloc (Nat.le_refl _) _) (Nat.le_refl _) |>.mono (by simp)))).mono ?_
  rintro e w1 ⟨rfl, hb1⟩
  rw [hop]
  have hb0 : Below w.heap.size w w1 := ((Below.refl _ w).alloc (Nat.le_refl _) _).trans (hb1.mono (by simp))
  have HB0 := Lib.hid hb0
  have hz := hb0.size
  clear hb1 hb0 hop
  gi_wp2_with fail
  refine ⟨trivial, ?_⟩
  refine (callsIn_wide.2 (volLeaves_any b.signed a b.gs.length cap _)).mono ?_
  rintro e w2 ⟨rfl, hw2⟩
  gi_wp2_with fail
  obtain ⟨V, hV⟩ : ∃ V, V = w1.heap.size := ⟨_, rfl⟩
  have hz2 : w2.heap.size = V + 3 := by rw [← hw2, hV]; simp
  have hh : Held w [] w2 := ⟨HB0.out.trans (by rw [← hw2]; exact (by repeat (first | (refine Below.setCell ?_ ?_ _; rotate_left; · (first | omega | (simp; done) | (simp; omega) | fail)) | (refine Below.alloc ?_ ?_ _; rotate_left; · (first | omega | (simp; done) | (simp; omega) | fail)) | refine Below.drew ?_ | exact Below.refl _ _ | fail))), fun p hp => by cases hp⟩
  have hL : w2.heap[V + 1]? = some (.cells #[.slice none 0 0] 47) := by rw [← hw2, hV]; exact (by repeat (first | exact heap_alloc_at _ _ _ (by (first | omega | (simp; done) | (simp; omega) | fail)) | (refine (heap_alloc_past _ _ _ ?_).trans ?_; · (first | omega | (simp; done) | (simp; omega) | fail)) | fail))
  have hvb : w2.heap[V + 2]? = some (.cells #[.int .i64 b.signed, .slice a b.gs.length cap] 57) := by rw [← hw2, hV]; exact (by repeat (first | exact heap_alloc_at _ _ _ (by (first | omega | (simp; done) | (simp; omega) | fail)) | (refine (heap_alloc_past _ _ _ ?_).trans ?_; · (first | omega | (simp; done) | (simp; omega) | fail)) | fail))
  have hVl : w.heap.size ≤ V := by omega
  have hz2a : V + 3 ≤ w2.heap.size := by omega
  have hz2b : w2.heap.size ≤ V + 3 := by omega
  simp only [World.size_alloc, ← hV]
  clear hw2 hV hz2
  have HV := Lib.hid hvb
  have HL := Lib.hid hL
  clear hvb hL
  refine rf_list (gf := 77) (lb := #[.pointer (some ⟨V + 2, 0, none⟩)]) rfl (enters_of Tryz.func77 (by kernel_rfl) rfl)
    (leaves_it b.gs b.signed a cap w2 (V + 2) w.heap.size (by omega) (HG.out.below hh.below (Nat.le_refl _)) hok.gs (by have := hok.len; omega) HV.out) (fun _ => rfl) (fun j hj => by rcases hj with h | h <;> omega)
    w [] (V + 1) 47 89 4 (fun pre => pre.length) (fun pre => lfCells (pre.map (·.1))) (fun y => .cells #[.int .i64 y.1.gat, .int .i64 y.1.num, .int .i64 y.1.plus, .int .i64 y.1.kind] 89)
    (fun y bx => [(19, .int .i64 y.2), (20, lfV y.1), (8, .pointer (some ⟨bx, 0, none⟩))]) (fun p hp => by cases hp) hh HL.out rfl rfl ?assign ?body ?done
  case assign =>
    intro l y W K' hK'
    gi_wp2_with fail
    exact hK'
  case body =>
    rintro l pre y rest bx W u hsp h1 h2 h3 hbx hlb hnb
    obtain ⟨hy, hx⟩ := zip_at hsp
    have n0 := blk_cell h2 0
    have d0 := blk_cell hbx 0; have d1 := blk_cell hbx 1; have d2 := blk_cell hbx 2; have d3 := blk_cell hbx 3
    obtain ⟨ei, hi1, hi2, hi3, hi4⟩ := elemLf
    have hlen : pre.length < 2000 := by
      have h5 := lvsFrom_len (i := 0) hok.gs
      have h6 := congrArg List.length hsp
      have := hok.len
      simp only [List.length_append, List.length_cons, List.length_zipIdx] at h6
      omega
    have ho : OnlyIn (fun _ => False) W (W.alloc (.cells #[.int .i64 y.1.gat, .int .i64 y.1.num, .int .i64 y.1.plus, .int .i64 y.1.kind] 89)) := OnlyIn.alloc _ _ _
    have H2 := Lib.hid h2
    have H3 := Lib.hid h3
    gi_wp2_with (gi_at_builtin; refine wpListIn_append_one _ rfl _ _ 47 rfl w2.heap.size 89 ei _ 4 32 undLf hi1 hi2 hi3 hi4 rfl (by decide) u pre.length (lfCells (pre.map (·.1))) rfl (H3.out.alloc _) ⟨W.heap.size, 0, none⟩ 1 [.int .i64 y.1.gat, .int .i64 y.1.num, .int .i64 y.1.plus, .int .i64 y.1.kind] rfl rfl ?c1 ?c2 ?c3 ?c4 ?c5 ?c6)
    case c1 => exact cells_new _ _ _
    case c2 => simp [Value.oneCell']
    case c3 => simp only [maxLen]; omega
    case c4 => omega
    case c5 => have := blk_lt hbx; simp; omega
    case c6 =>
      rintro g capg w' hown hgrow hg
      obtain ⟨s1, s2, s3, s4⟩ := list_step (hs := w2.heap.size) (Pr := fun k => k = V + 2 ∨ k < w.heap.size) H2.out H3.out (by decide) ho hown hgrow (by simpa using hg) (by omega) (Nat.le_refl _) (fun j hj => by have := blk_lt hbx; rcases hj with hj | hj <;> refine ⟨by omega, by omega, by omega⟩)
      have cL := blk_cell s1 0
      have fL := blk_free s1 0
      gi_wp2_with fail
      exact ⟨h1.only s4 (hs := V + 1) (fun j hj => by rcases hj with hj | hj <;> omega) (by omega) (fun p hp => by cases hp), by simpa [lfCells] using s2⟩
  case done =>
    rintro D W u hD h1 h2 h3 hdef
    have n0 := blk_cell h2 0
    gi_wp2_with fail
    have h4 := h1.put (.deferred none) (D := D) (by omega) (fun p hp => by cases hp)
    have h5 := ownsRow_putObj h3 (.deferred none) hdef rfl
    simp only [List.length_zipIdx, List.zipIdx_map_fst] at h5
    refine leave_ret hdef ⟨.tuple #[u, .int .i64 0], by simp [results, Tryz.results17, go_sem], ⟨u, rfl, ?_⟩, h4.below⟩
    exact row_mono h5 (by omega)

end Go.Proofs.YtlfglbnbenaghaaGreatDoor

/- Signs. -/
namespace Go.Proofs.YtlfglbnbenaghaaGreatDoor
set_option linter.unusedSimpArgs false
set_option linter.unusedVariables false
open Go Go.RowKit Go.Sort Go.BigFrame Go.Shelf
attribute [local go_sem] Oper.semAt_some putAll

theorem elemInt : ∃ i, Tryz.prog.info? 3 = some i ∧ i.zero = some (.int .i64 0) ∧ i.size = 1 ∧ i.bytes = 8 := elemOf (by kernel_rfl)
theorem undInts : Tryz.prog.underlying 74 = some (.slice 3) := by kernel_rfl
/-- Whether a leaf of a book is signed; the numbers of those that are. -/
def signedL (b : Bk) (x : Lf) : Bool := match b.gs[x.gat]? with
  | some g => signedB b x g
  | none => false
def signsOf (b : Bk) (ys : List (Lf × Nat)) : List Nat := (ys.filter fun y => signedL b y.1).map (·.2)
def intVs (xs : List Nat) : List Value := xs.map fun (n : Nat) => Value.int .i64 (n : Int)
def signsF (b : Bk) : List Nat := signsOf b (lvs b).zipIdx

theorem signs_no {b : Bk} {pre : List (Lf × Nat)} {y : Lf × Nat} (h : signedL b y.1 = false) : signsOf b (pre ++ [y]) = signsOf b pre := by simp [signsOf, List.filter_append, h]
theorem signs_yes {b : Bk} {pre : List (Lf × Nat)} {y : Lf × Nat} (h : signedL b y.1 = true) : signsOf b (pre ++ [y]) = signsOf b pre ++ [y.2] := by simp [signsOf, List.filter_append, h]

set_option maxRecDepth 100000 in
set_option maxHeartbeats 1000000 in
theorem Signs_bad (b : Bk) (v : Value) (w : World) (hb : BookAt w.heap.size w v b) (he : errF b ≠ 0) :
    Calls Tryz.prog 34 #[v] w fun e w' => e = .returned (.tuple #[.slice none 0 0, .int .i64 (errF b)]) ∧ Below w.heap.size w w' := by
  have hb' := hb
  obtain ⟨sv, rfl, hgs⟩ := hb
  have hgs' := hgs
  obtain ⟨a, cap, rfl, -⟩ := hgs'
  have hop : openV b (.agg #[.int .i64 b.signed, .slice a b.gs.length cap]) = .tuple #[.agg #[.int .i64 0, .slice none 0 0], .int .i64 (errF b)] := by simp [openV, he]
  have hne : (errF b != 0) = true := by simp [he]
  go_enter Tryz.func34, Tryz.ntmps34
  go_wp2_with fail
  refine (open_any b _ _ (hb'.below (B := w.heap.size) (by exact (by repeat (first | (refine Below.setCell ?_ ?_ _; rotate_left; · (first | omega | (simp; done) | (simp; omega) | fail)) | (refine Below.alloc ?_ ?_ _; rotate_left; · (first | omega | (simp; done) | (simp; omega) | fail)) | refine Below.drew ?_ | exact Below.refl _ _ | fail))) (Nat.le_refl _) |>.mono (by simp; try omega))).mono ?_
  rintro e w1 ⟨rfl, hb1⟩
  rw [hop]
  have hb0 : Below w.heap.size w w1 := Below.trans (by exact (by repeat (first | (refine Below.setCell ?_ ?_ _; rotate_left; · (first | omega | (simp; done) | (simp; omega) | fail)) | (refine Below.alloc ?_ ?_ _; rotate_left; · (first | omega | (simp; done) | (simp; omega) | fail)) | refine Below.drew ?_ | exact Below.refl _ _ | fail))) (hb1.mono (by simp; try omega))
  have hz := hb0.size
  go_wp2_with fail
  go_ret2
  exact ⟨rfl, (by repeat (first | (refine Below.setCell ?_ ?_ _; rotate_left; · (first | omega | (simp; done) | (simp; omega) | fail)) | (refine Below.alloc ?_ ?_ _; rotate_left; · (first | omega | (simp; done) | (simp; omega) | fail)) | refine Below.drew ?_ | exact hb0 | fail))⟩

set_option maxRecDepth 100000 in
set_option maxHeartbeats 1000000 in
theorem Signs_good (b : Bk) (v : Value) (w : World) (hb : BookAt w.heap.size w v b) (he : errF b = 0) :
    Calls Tryz.prog 34 #[v] w fun e w' => (∃ v', e = .returned (.tuple #[v', .int .i64 0]) ∧ w'.ownsRow w.heap.size 3 1 v' (signsF b).length (intVs (signsF b))) ∧ Below w.heap.size w w' := by
  have hb' := hb
  obtain ⟨sv, rfl, hgs⟩ := hb
  have hgs' := hgs
  obtain ⟨a, cap, rfl, -⟩ := hgs'
  have hok := errF_zero he
  have hop : openV b (.agg #[.int .i64 b.signed, .slice a b.gs.length cap]) = .tuple #[.agg #[.int .i64 b.signed, .slice a b.gs.length cap], .int .i64 0] := by simp [openV, he]
  have HG := Lib.hid hgs
  have HB := Lib.hid hb'
  clear hgs hb'
  refine (callsIn_wide (n := 10)).1 ?_
  refine callsIn_of_wp_marks Tryz.func34 rfl trivial ?_ rfl
  simp only [Tryz.ntmps34, List.size_toArray, List.length_cons, List.length_nil, Nat.reduceAdd, Nat.reduceSub, Array.replicate_succ, Array.replicate_zero, List.push_toArray, List.append_toArray, List.nil_append, List.cons_append]
  gi_wp2_with fail
  refine ⟨trivial, ?_⟩
  refine (callsIn_wide.2 (open_any b _ _ (HB.out.below (B := w.heap.size) (by exact (by repeat (first | (refine Below.setCell ?_ ?_ _; rotate_left; · (first | omega | (simp; done) | (simp; omega) | fail)) | (refine Below.alloc ?_ ?_ _; rotate_left; · (first | omega | (simp; done) | (simp; omega) | fail)) | refine Below.drew ?_ | exact Below.refl _ _ | fail))) (Nat.le_refl _) |>.mono (by simp; try omega)))).mono ?_
  rintro e w1 ⟨rfl, hb1⟩
  rw [hop]
  have hb0 : Below w.heap.size w w1 := Below.trans (by exact (by repeat (first | (refine Below.setCell ?_ ?_ _; rotate_left; · (first | omega | (simp; done) | (simp; omega) | fail)) | (refine Below.alloc ?_ ?_ _; rotate_left; · (first | omega | (simp; done) | (simp; omega) | fail)) | refine Below.drew ?_ | exact Below.refl _ _ | fail))) (hb1.mono (by simp; try omega))
  have HB0 := Lib.hid hb0
  have hz := hb0.size
  clear hb1 hb0 hop
  gi_wp2_with fail
  refine ⟨trivial, ?_⟩
  refine (callsIn_wide.2 (volLeaves_any b.signed _ b.gs.length cap _)).mono ?_
  rintro e w2 ⟨rfl, hw2⟩
  gi_wp2_with fail
  obtain ⟨V, hV⟩ : ∃ V, V = w1.heap.size := ⟨_, rfl⟩
  have hz2 : w2.heap.size = V + 3 := by rw [← hw2, hV]; simp
  have hh : Held w [(V, .cells #[.int .i64 b.signed, .slice a b.gs.length cap] 57)] w2 := ⟨HB0.out.trans (by rw [← hw2]; exact (by repeat (first | (refine Below.setCell ?_ ?_ _; rotate_left; · (first | omega | (simp; done) | (simp; omega) | fail)) | (refine Below.alloc ?_ ?_ _; rotate_left; · (first | omega | (simp; done) | (simp; omega) | fail)) | refine Below.drew ?_ | exact Below.refl _ _ | fail))), fun p hp => by
    (simp only [List.mem_cons, List.not_mem_nil, or_false] at hp)
    subst hp
    rw [← hw2, hV]; exact (by repeat (first | exact heap_alloc_at _ _ _ (by (first | omega | (simp; done) | (simp; omega) | fail)) | (refine (heap_alloc_past _ _ _ ?_).trans ?_; · (first | omega | (simp; done) | (simp; omega) | fail)) | fail))⟩
  have hL : w2.heap[V + 1]? = some (.cells #[.slice none 0 0] 74) := by rw [← hw2, hV]; exact (by repeat (first | exact heap_alloc_at _ _ _ (by (first | omega | (simp; done) | (simp; omega) | fail)) | (refine (heap_alloc_past _ _ _ ?_).trans ?_; · (first | omega | (simp; done) | (simp; omega) | fail)) | fail))
  have hvb : w2.heap[V + 2]? = some (.cells #[.int .i64 b.signed, .slice a b.gs.length cap] 57) := by rw [← hw2, hV]; exact (by repeat (first | exact heap_alloc_at _ _ _ (by (first | omega | (simp; done) | (simp; omega) | fail)) | (refine (heap_alloc_past _ _ _ ?_).trans ?_; · (first | omega | (simp; done) | (simp; omega) | fail)) | fail))
  have hVl : w.heap.size ≤ V := by omega
  have hz2a : V + 3 ≤ w2.heap.size := by omega
  have hz2b : w2.heap.size ≤ V + 3 := by omega
  simp only [World.size_alloc, ← hV]
  clear hw2 hV hz2
  have HV := Lib.hid hvb
  have HL := Lib.hid hL
  clear hvb hL
  refine rf_list (gf := 77) (lb := #[.pointer (some ⟨V + 2, 0, none⟩)]) rfl (enters_of Tryz.func77 (by kernel_rfl) rfl)
    (leaves_it b.gs b.signed a cap w2 (V + 2) w.heap.size (by omega) (HG.out.below hh.below (Nat.le_refl _)) hok.gs (by have := hok.len; omega) HV.out) (fun _ => rfl) (fun j hj => by rcases hj with h | h <;> omega)
    w [(V, .cells #[.int .i64 b.signed, .slice a b.gs.length cap] 57)] (V + 1) 74 3 1 (fun pre => (signsOf b pre).length) (fun pre => intVs (signsOf b pre)) (fun y => .cells #[.int .i64 y.1.gat, .int .i64 y.1.num, .int .i64 y.1.plus, .int .i64 y.1.kind] 89)
    (fun y bx => [(19, .int .i64 y.2), (20, lfV y.1), (7, .int .i64 y.2), (8, .pointer (some ⟨bx, 0, none⟩))]) (fun p hp => by (simp only [List.mem_cons, List.not_mem_nil, or_false] at hp); subst hp; (simp only; omega)) hh HL.out rfl rfl ?assign ?body ?done
  case assign =>
    intro l y W K' hK'
    gi_wp2_with fail
    exact hK'
  case body =>
    rintro l pre y rest bx W u hsp h1 h2 h3 hbx hlb hnb
    obtain ⟨-, hx⟩ := zip_at hsp
    have hlb' := blk_lt hbx
    have hv := h1.get 0 rfl
    have v0 := blk_cell hv 0; have v1 := blk_cell hv 1
    have d0 := blk_cell hbx 0; have d1 := blk_cell hbx 1; have d2 := blk_cell hbx 2; have d3 := blk_cell hbx 3
    obtain ⟨g, hg, -⟩ := lvs_mem (b := b) (List.mem_of_getElem? hx)
    have hC := signed_any b (.agg #[.int .i64 b.signed, .slice a b.gs.length cap]) y.1 g W (HB.out.below h1.below (Nat.le_refl _) |>.mono h1.below.size) hg
    have HC := Lib.hid hC
    have hsg : signedL b y.1 = signedB b y.1 g := by simp [signedL, hg]
    clear hC hv
    gi_wp2_with fail
    refine ⟨trivial, ?_⟩
    refine (CallsIn.inRound l (callsIn_wide.2 HC.out)).mono ?_
    rintro e W1 ⟨rfl, hb1⟩
    rw [← hsg]
    obtain ⟨q, hq⟩ : ∃ q, q = signedL b y.1 := ⟨_, rfl⟩
    rw [← hq]
    have HQ := Lib.hid hq
    have h2' := blk_later hb1 h2
    have hz1 := hb1.size
    have n0 := blk_cell h2' 0
    have H2 := Lib.hid h2
    have H3 := Lib.hid h3
    have HB1 := Lib.hid hb1
    clear hq hsg HC hb1 h2 h3 h2' v0 v1 d0 d1 d2 d3 hbx
    cases q
    · gi_wp2_with fail
      obtain ⟨t1, t2⟩ := list_stay (hs := w2.heap.size) (Pr := fun k => k = V + 2 ∨ k < w.heap.size) H2.out H3.out HB1.out (fun j hj => by rcases hj with hj | hj <;> omega)
      exact ⟨t1, h1.below' HB1.out, by rw [signs_no (pre := pre) HQ.out.symm]; exact t2⟩
    · obtain ⟨ei, hi1, hi2, hi3, hi4⟩ := elemInt
      have hlen : (signsOf b pre).length < 2000 := by
        have h5 := lvsFrom_len (i := 0) hok.gs
        have h6 := congrArg List.length hsp
        have h7 : (signsOf b pre).length ≤ pre.length := by unfold signsOf; rw [List.length_map]; exact List.length_filter_le _ _
        have := hok.len
        simp only [List.length_append, List.length_cons, List.length_zipIdx] at h6
        omega
      have HO : Hid (OnlyIn (fun _ => False) W (W1.alloc (.cells #[.int .i64 y.2] 3))) := (OnlyIn.of_below HB1.out).trans (OnlyIn.alloc _ _ _)
      have HR : Hid (W1.ownsRow w2.heap.size 3 1 u (signsOf b pre).length (intVs (signsOf b pre))) := row_later H3.out HB1.out
      gi_wp2_with (gi_at_builtin; refine wpListIn_append_one _ rfl _ _ 74 rfl w2.heap.size 3 ei _ 1 8 undInts hi1 hi2 hi3 hi4 rfl (by decide) u (signsOf b pre).length (intVs (signsOf b pre)) rfl (HR.out.alloc _) ⟨W1.heap.size, 0, none⟩ 1 [.int .i64 y.2] rfl rfl ?c1 ?c2 ?c3 ?c4 ?c5 ?c6)
      case c1 => exact cells_new _ _ _
      case c2 => simp [Value.oneCell']
      case c3 => simp only [maxLen]; omega
      case c4 => omega
      case c5 => simp; omega
      case c6 =>
        rintro g capg w' hown hgrow hg
        obtain ⟨s1, s2, s3, s4⟩ := list_step (hs := w2.heap.size) (Pr := fun k => k = V + 2 ∨ k < w.heap.size) H2.out H3.out (by decide) HO.out hown hgrow (by simpa using hg) (by omega) (Nat.le_refl _) (fun j hj => by rcases hj with hj | hj <;> refine ⟨by omega, by omega, by omega⟩)
        have cL := blk_cell s1 0
        have fL := blk_free s1 0
        gi_wp2_with fail
        refine ⟨h1.only s4 (hs := V + 1) (fun j hj => by rcases hj with hj | hj <;> omega) (by omega) (fun p hp => by (simp only [List.mem_cons, List.not_mem_nil, or_false] at hp); subst hp; (simp only; omega)), ?_⟩
        have hN : (signsOf b (pre ++ [y])).length = (signsOf b pre).length + 1 := by rw [signs_yes HQ.out.symm]; simp
        have hV : intVs (signsOf b (pre ++ [y])) = intVs (signsOf b pre) ++ [.int .i64 y.2] := by rw [signs_yes HQ.out.symm]; simp [intVs]
        rw [hN, hV]
        exact s2
  case done =>
    rintro D W u hD h1 h2 h3 hdef
    have n0 := blk_cell h2 0
    gi_wp2_with fail
    have h4 := h1.put (.deferred none) (D := D) (by omega) (fun p hp => by (simp only [List.mem_cons, List.not_mem_nil, or_false] at hp); subst hp; (simp only; omega))
    have h5 := ownsRow_putObj h3 (.deferred none) hdef rfl
    refine leave_ret hdef ⟨.tuple #[u, .int .i64 0], by simp [results, Tryz.results34, go_sem], ⟨u, rfl, ?_⟩, h4.below⟩
    exact row_mono h5 (by omega)

end Go.Proofs.YtlfglbnbenaghaaGreatDoor
