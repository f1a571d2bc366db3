/- The parts Qm, Rg of the proof, joined. It holds without conditions of its own. -/
import Derived.Test.YtimdmgkegdlafaaGreatDoorCH10
import Derived.Sort.LoopGhostIn
import Derived.Test.YtimdmgkegdlafaaGreatDoorCH4
import Derived.Test.YtimdmgkegdlafaaGreatDoorCH3
/- The iterator over the leaves of a book with their numbers. -/
namespace Go.Proofs.YtimdmgkegdlafaaGreatDoor
set_option linter.unusedSimpArgs false
set_option linter.unusedVariables false
open Go Go.RowKit Go.Sort Go.BigFrame Go.Shelf
attribute [local go_sem] Oper.semAt_some

set_option maxHeartbeats 400000 in
theorem volLeaves_any (s : Int) (a : Option Addr) (n cap : Nat) (w : World) :
    Calls Tryz.prog 42 #[.agg #[.int .i64 s, .slice a n cap]] w fun e w' =>
      e = .returned (.func (.func 77) #[] #[.pointer (some ⟨w.heap.size, 0, none⟩)]) ∧
      w.alloc (.cells #[.int .i64 s, .slice a n cap] 57) = w' := by
  have hmf : ∀ (fn : Fn) (first cap : Array Value) (w : World), (Instr.makeFunc fn first cap).run Tryz.prog w = .ok (.func fn first cap) w := fun _ _ _ _ => rfl
  go_enter Tryz.func42, Tryz.ntmps42
  go_wp2
  go_ret
  exact ⟨rfl, rfl⟩

/-- What is as it was while the iterator runs: its two variables, its marks, what it reads. -/
structure AtVol (w₀ W : World) (l BY BN vb B : Nat) (Ds : List Nat) (n : Nat) (Xo : Nat → Prop) : Prop where
  by_ : W.heap[BY]? = some (.cells #[.func (.yield l) #[] #[]] 130)
  bn : W.heap[BN]? = some (.cells #[.int .i64 n] 3)
  nd : Ds.Nodup
  ds : ∀ D ∈ Ds, W.heap[D]? = some (.deferred (some [])) ∧ Xo D
  oy : Xo BY
  on : Xo BN
  pr : ∀ j, (j = vb ∨ j < B) → W.heap[j]? = w₀.heap[j]?
  sz : w₀.heap.size ≤ W.heap.size
theorem AtVol.keep {w₀ W W' : World} {l BY BN vb B : Nat} {Ds : List Nat} {n : Nat} {Xo Xo' : Nat → Prop} (h : AtVol w₀ W l BY BN vb B Ds n Xo)
    (hk : ∀ j, (j = BY ∨ j = BN ∨ j ∈ Ds ∨ j = vb ∨ j < B) → W'.heap[j]? = W.heap[j]?) (hs : W.heap.size ≤ W'.heap.size) (hx : ∀ j, Xo j → Xo' j) : AtVol w₀ W' l BY BN vb B Ds n Xo' :=
  ⟨(hk _ (by simp)).trans h.by_, (hk _ (by simp)).trans h.bn, h.nd, fun D hD => ⟨(hk _ (by simp [hD])).trans (h.ds D hD).1, hx _ (h.ds D hD).2⟩, hx _ h.oy, hx _ h.on,
   fun j hj => (hk _ (by rcases hj with h | h <;> simp [h])).trans (h.pr j hj), Nat.le_trans h.sz hs⟩
/-- What lies ahead of a floor. -/
theorem AtVol.lt {w₀ W : World} {l BY BN vb B : Nat} {Ds : List Nat} {n : Nat} {Xo : Nat → Prop} (h : AtVol w₀ W l BY BN vb B Ds n Xo) (hvb : vb < w₀.heap.size) (hB : B ≤ w₀.heap.size) :
    ∀ j, (j = BY ∨ j = BN ∨ j ∈ Ds ∨ j = vb ∨ j < B) → j < W.heap.size := fun j hj => by
  have := h.sz
  rcases hj with rfl | rfl | hD | rfl | h'
  · exact blk_lt h.by_
  · exact blk_lt h.bn
  · exact blk_lt (h.ds j hD).1
  · omega
  · omega
theorem AtVol.succ {w₀ W : World} {l BY BN vb B : Nat} {Ds : List Nat} {n : Nat} {Xo : Nat → Prop} (h : AtVol w₀ W l BY BN vb B Ds n Xo) (hyn : BY ≠ BN) (hvn : vb ≠ BN) (hBn : B ≤ BN) (m m' : Nat) (hm : m = m') :
    AtVol w₀ (W.setCell ⟨BN, 0, none⟩ (.int .i64 m)) l BY BN vb B Ds m' Xo := by
  subst hm
  exact ⟨(heap_setCell_past _ _ _ _ hyn).trans h.by_, blk_set h.bn 0 _, h.nd, fun D hD => ⟨(heap_setCell_past _ _ _ _ (fun e => by have e : D = BN := e; have := (h.ds D hD).1; rw [e, h.bn] at this; cases this)).trans (h.ds D hD).1, (h.ds D hD).2⟩, h.oy, h.on,
   fun j hj => (heap_setCell_past _ _ _ _ (by rcases hj with rfl | hj; exact hvn; (show j ≠ BN); omega)).trans (h.pr j hj), by simp [World.setCell]; exact h.sz⟩
theorem AtVol.mark {w₀ W : World} {l BY BN vb B : Nat} {Ds : List Nat} {n : Nat} {Xo : Nat → Prop} (h : AtVol w₀ W l BY BN vb B Ds n Xo) {D : Nat} (hD : W.heap[D]? = some (.deferred (some []))) (hx : Xo D) (hn : D ∉ Ds) : AtVol w₀ W l BY BN vb B (D :: Ds) n Xo :=
  ⟨h.by_, h.bn, List.nodup_cons.2 ⟨hn, h.nd⟩, fun D' hD' => by rcases List.mem_cons.1 hD' with rfl | hD'; exact ⟨hD, hx⟩; exact h.ds D' hD', h.oy, h.on, h.pr, h.sz⟩

theorem lvsG_len {i : Nat} {g : Gth} (h : GOk g) : (lvsG i g).length ≤ 65 := by
  have h1 : ∀ k ∈ List.range (g.leaves + 1).toNat, (lvsNum i k (fateF g.chs k)).length ≤ 5 := fun k _ => by
    have := lvsNum_len (i := i) (k := k) (f := fateF g.chs k)
    have := fate_added (cs := g.chs) (num := (k : Int)) fun c hc => ⟨(h.ch hc).2.2.2.1, (h.ch hc).2.2.2.2⟩
    omega
  have h2 := flatMap_len h1
  have := h.leaves
  rw [List.length_range] at h2
  unfold lvsG
  omega
theorem lvsFrom_len : ∀ {gs : List Gth} {i : Nat}, (∀ g ∈ gs, GOk g) → (lvsFrom i gs).length ≤ gs.length * 65
  | [], _, _ => by simp [lvsFrom]
  | g :: gs, i, h => by
    have h1 := lvsG_len (i := i) (h g (by simp))
    have h2 := lvsFrom_len (gs := gs) (i := i + 1) fun x hx => h x (by simp [hx])
    simp only [lvsFrom, List.length_append, List.length_cons]
    omega
theorem zip_snoc (xs : List Lf) (x : Lf) : (xs ++ [x]).zipIdx = xs.zipIdx ++ [(x, xs.length)] := by simp [List.zipIdx_append]
theorem zip_split {ys xs rest : List Lf} {x : Lf} (h : ys = xs ++ x :: rest) : ∃ r, ys.zipIdx = xs.zipIdx ++ (x, xs.length) :: r := by
  subst h
  exact ⟨rest.zipIdx (xs.length + 1), by simp [List.zipIdx_append]⟩

set_option maxRecDepth 100000 in
set_option maxHeartbeats 1000000 in
theorem leaves_it (gs : List Gth) (s : Int) (a : Option Addr) (cap : Nat) (w₀ : World) (vb B : Nat) (hB : B ≤ w₀.heap.size) (hgs : GsAt B w₀ (.slice a gs.length cap) gs) (hok : ∀ g ∈ gs, GOk g) (hlen : gs.length ≤ 100)
    (hv : w₀.heap[vb]? = some (.cells #[.int .i64 s, .slice a gs.length cap] 57)) :
    ItC Tryz.prog 77 #[.pointer (some ⟨vb, 0, none⟩)] (fun y : Lf × Nat => #[.int .i64 y.2, lfV y.1]) (lvsFrom 0 gs).zipIdx (fun k => k = vb ∨ k < B) w₀ := by
  intro l J Jx W hsz hpr hJ hJx hY h0
  refine (callsIn_wide (n := 10)).1 ?_
  refine callsIn_of_wp_marks Tryz.func77 rfl trivial ?_ rfl
  simp only [Tryz.ntmps77, List.size_toArray, List.length_cons, List.length_nil, Nat.reduceAdd, Nat.reduceSub, Array.replicate_succ, Array.replicate_zero, List.push_toArray, List.append_toArray, List.nil_append, List.cons_append]
  have hvW := (hpr vb (Or.inl rfl)).trans hv
  have c0 := blk_cell hvW 0; have c1 := blk_cell hvW 1
  have hvlt := blk_lt hvW
  have HY := Lib.hid hY
  have HJ := Lib.hid hJ
  have HJx := Lib.hid hJx
  have HP := Lib.hid hpr
  have HV := Lib.hid hv
  have HG := Lib.hid hgs
  have HO := Lib.hid hok
  have H0 := Lib.hid h0
  clear hY hJ hJx hpr hv hgs hok h0 hvW
  gi_wp2_with fail
  refine wpIn_loop_ghost_k (fun m a' W' => ∃ (Ds : List Nat) (X : Nat → Prop) (k : Nat) (u4 u5 u6 u12 u13 u14 u15 u16 u17 u18 u19 u20 u21 u22 u23 u24 u25 u26 u27 : Value), a' = { tmps := #[.func (.yield l) #[] #[], .pointer (some ⟨vb, 0, none⟩), .pointer (some ⟨W.heap.size, 0, none⟩), .pointer (some ⟨W.heap.size + 1, 0, none⟩), u4, u5, u6, .pointer (some ⟨vb, 0, none⟩), .pointer (some ⟨vb, 1, none⟩), .slice a gs.length cap, .int .i64 gs.length, .int .i64 k, u12, u13, u14, u15, u16, u17, u18, u19, u20, u21, u22, u23, u24, u25, u26, u27], defers := Ds.map markOf } ∧ k ≤ gs.length ∧ m = gs.length - k ∧
    Hid (AtVol w₀ W' l W.heap.size (W.heap.size + 1) vb B Ds (lvsFrom 0 (gs.take k)).length X) ∧ Hid (J (lvsFrom 0 (gs.take k)).zipIdx X W')) gs.length ?start ?round
  case start =>
    refine ⟨[], fun j => j = W.heap.size ∨ j = W.heap.size + 1, 0, _, _, _, _, _, _, _, _, _, _, _, _, _, _, _, _, _, _, _, rfl, by omega, by omega, ?_, ?_⟩
    · refine ⟨?_, ?_, by simp, by simp, Or.inl rfl, Or.inr rfl, fun j hj => ?_, by simp; omega⟩
      · rw [heap_alloc_past _ _ _ (by simp)]; exact heap_alloc_at _ _ _ rfl
      · exact heap_alloc_at _ _ _ (by simp)
      · have : j < W.heap.size := by rcases hj with rfl | h <;> omega
        rw [heap_alloc_past _ _ _ (by simp; omega), heap_alloc_past _ _ _ (by omega)]; exact HP.out j hj
    · refine HJ.out _ _ _ _ _ H0.out (OnlyIn.of_below (((Below.refl _ _).alloc (Nat.le_refl _) _).alloc (by simp) _)) (fun j h => ?_)
      rcases h with h | h
      · exact Or.inr ⟨by omega, by simp; omega⟩
      · exact Or.inr ⟨by omega, by simp; omega⟩
  case round =>
    rintro m a' wr ⟨Ds, X, k, u4, u5, u6, u12, u13, u14, u15, u16, u17, u18, u19, u20, u21, u22, u23, u24, u25, u26, u27, rfl, hk, rfl, hA, hJk⟩
    intro Jr Kr hJr hKr
    by_cases hlt : k < gs.length
    · obtain ⟨g, hg⟩ : ∃ g, gs[k]? = some g := ⟨gs[k], List.getElem?_eq_getElem _⟩
      obtain ⟨a0, cap0, e0, hgc⟩ := HG.out
      obtain ⟨bb, off, rfl, hbb, hcell⟩ := hgc (fun h => by rw [h] at hlt; exact absurd hlt (by simp))
      cases e0
      have hprB : ∀ j, j < B → wr.heap[j]? = w₀.heap[j]? := fun j hj => hA.out.pr j (Or.inr hj)
      obtain ⟨cv, hch, q1, q2, q3, q4⟩ := hcell k g hg
      have hch' := hch
      obtain ⟨ca, ccap, rfl, -⟩ := hch'
      rw [← cell_same hprB hbb] at q1 q2 q3 q4
      have HCH := Lib.hid (hch.same hprB)
      have HGK := Lib.hid hg
      clear hcell hch hgc hg
      gi_wp2_with fail
      refine ⟨trivial, ?_⟩
      refine (callsIn_wide.2 (leavesOf_any k g ca g.chs.length ccap _)).mono ?_
      rintro e w1 ⟨rfl, hw1⟩
      have hgb : w1.heap[wr.heap.size + 2]? = some (.cells #[.int .i64 g.round, .int .i64 g.letter, .int .i64 g.leaves, .slice ca g.chs.length ccap] 42) := by rw [← hw1]; exact (by repeat (first | exact heap_alloc_at _ _ _ (by (first | omega | (simp; done) | (simp; omega) | (simp at *; omega) | fail)) | assumption | rw [heap_alloc_past _ _ _ (by (first | omega | (simp; done) | (simp; omega) | (simp at *; omega) | fail))] | rw [heap_setCell_past _ _ _ _ (by (first | omega | (simp; done) | (simp; omega) | (simp at *; omega) | fail))] | fail))
      have hib : w1.heap[wr.heap.size + 1]? = some (.cells #[.int .i64 k] 3) := by rw [← hw1]; exact (by repeat (first | exact heap_alloc_at _ _ _ (by (first | omega | (simp; done) | (simp; omega) | (simp at *; omega) | fail)) | assumption | rw [heap_alloc_past _ _ _ (by (first | omega | (simp; done) | (simp; omega) | (simp at *; omega) | fail))] | rw [heap_setCell_past _ _ _ _ (by (first | omega | (simp; done) | (simp; omega) | (simp at *; omega) | fail))] | fail))
      have hb1 : Below wr.heap.size wr w1 := by rw [← hw1]; exact (by repeat (first | exact Below.refl _ _ | assumption | (refine Below.alloc ?_ ?_ _; rotate_left; · (first | omega | (simp; done) | (simp; omega) | (simp at *; omega) | fail)) | (refine Below.setCell ?_ ?_ _; rotate_left; · (first | omega | (simp; done) | (simp; omega) | (simp at *; omega) | fail)) | refine Below.drew ?_ | fail))
      have hz1 : w1.heap.size = wr.heap.size + 3 := by rw [← hw1]; simp
      simp only [World.size_alloc]
      have HB1 := Lib.hid hb1
      have HGB := Lib.hid hgb
      have HIB := Lib.hid hib
      clear hw1 hgb hib hb1 q1 q2 q3 q4 c0 c1
      gi_wp2_with fail
      have hgk : GOk g := HO.out g (List.mem_of_getElem? HGK.out)
      have hwr := hA.out.lt (blk_lt HV.out) hB
      have HWR := Lib.hid hwr
      have hszr := hA.out.sz
      clear hwr
      obtain ⟨X0, hX0⟩ : ∃ X0 : Nat → Prop, X0 = fun j => X j ∨ (wr.heap.size ≤ j ∧ j < w1.heap.size) := ⟨_, rfl⟩
      have A0 := Lib.hid (hA.out.keep (W' := w1) (Xo' := X0) (fun j hj => HB1.out.block j (HWR.out j hj)) HB1.out.size (fun j h => by rw [hX0]; exact Or.inl h))
      have J0 : Hid (J (lvsFrom 0 (gs.take k)).zipIdx X0 w1) := HJ.out _ X X0 wr w1 hJk.out (OnlyIn.of_below HB1.out) (fun j h => by rw [hX0] at h; exact h)
      have hX1 : X0 (wr.heap.size + 1) := by rw [hX0]; exact Or.inr ⟨by omega, by omega⟩
      have hX2 : X0 (wr.heap.size + 2) := by rw [hX0]; exact Or.inr ⟨by omega, by omega⟩
      clear hX0 hA hJk hprB
      refine rf_gen (gf := 98) (lb := #[.pointer (some ⟨wr.heap.size + 2, 0, none⟩), .pointer (some ⟨wr.heap.size + 1, 0, none⟩)]) rfl (enters_of Tryz.func98 (by kernel_rfl) rfl)
        (leavesOf_it k g ca g.chs.length ccap w1 (wr.heap.size + 2) (wr.heap.size + 1) B (by omega) (HCH.out.below HB1.out (by omega)) (by have := hgk.few; omega) (fun c hc => ⟨(hgk.ch hc).2.2.2.1, (hgk.ch hc).2.2.2.2⟩) ⟨by have := hgk.leaves; omega, hgk.leaves.2⟩ HGB.out HIB.out) (fun _ => rfl) (fun j hj => by rcases hj with h | h | h <;> omega)
        (fun pre Xi W' => Hid (AtVol w₀ W' l W.heap.size (W.heap.size + 1) vb B Ds (lvsFrom 0 (gs.take k) ++ pre).length X0) ∧ Hid (J (lvsFrom 0 (gs.take k) ++ pre).zipIdx (fun j => Xi j ∨ X0 j) W') ∧ (∀ j, Xi j → w1.heap.size ≤ j) ∧ w1.heap.size ≤ W'.heap.size)
        (fun c pre Xi W' => c = .ret ∧ (∃ n, Hid (AtVol w₀ W' l W.heap.size (W.heap.size + 1) vb B Ds n X0)) ∧ Hid (Jx (lvsFrom 0 (gs.take k) ++ pre).zipIdx (fun j => Xi j ∨ X0 j) W') ∧ (∀ j, Xi j → w1.heap.size ≤ j) ∧ w1.heap.size ≤ W'.heap.size)
        (fun x => .cells #[.int .i64 x.gat, .int .i64 x.num, .int .i64 x.plus, .int .i64 x.kind] 89)
        (fun x bx => { tmps := #[.func (.yield l) #[] #[], .pointer (some ⟨vb, 0, none⟩), .pointer (some ⟨W.heap.size, 0, none⟩), .pointer (some ⟨W.heap.size + 1, 0, none⟩), .int .i64 k, .pointer (some ⟨wr.heap.size, 0, none⟩), .pointer (some ⟨bx, 0, none⟩), .pointer (some ⟨vb, 0, none⟩), .pointer (some ⟨vb, 1, none⟩), .slice (some ⟨bb, off, none⟩) gs.length cap, .int .i64 gs.length, .int .i64 k, .bool true, .int .i64 k, .pointer (some ⟨bb, off + k * 4, none⟩), .agg #[.int .i64 g.round, .int .i64 g.letter, .int .i64 g.leaves, .slice ca g.chs.length ccap], .int .i64 k, .agg #[.int .i64 g.round, .int .i64 g.letter, .int .i64 g.leaves, .slice ca g.chs.length ccap], .func (.func 98) #[] #[.pointer (some ⟨wr.heap.size + 2, 0, none⟩), .pointer (some ⟨wr.heap.size + 1, 0, none⟩)], lfV x, u20, u21, u22, u23, u24, u25, u26, u27], defers := [] }) ?abI ?abX ?h0 ?assign ?body ?done ?stop
      case abI =>
        rintro pre Xi Xi' W1 W2 ⟨h1, h2, h3, h4⟩ ho hx
        have hs := ho.size
        refine ⟨h1.out.keep (fun j hj => ho.block j (by have := HWR.out j hj; omega) (fun h => by have := h3 j h; have := HWR.out j hj; omega)) hs (fun j h => h), HJ.out _ _ _ _ _ h2.out (ho.mono fun j h => Or.inl h) (fun j h => ?_), fun j h => ?_, by omega⟩
        · rcases h with h | h
          · exact (hx j h).imp Or.inl id
          · exact Or.inl (Or.inr h)
        · rcases hx j h with h | h
          · exact h3 j h
          · omega
      case abX =>
        rintro c pre Xi Xi' W1 W2 ⟨h0, ⟨n, h1⟩, h2, h3, h4⟩ ho hx
        have hs := ho.size
        refine ⟨h0, ⟨n, h1.out.keep (fun j hj => ho.block j (by have := HWR.out j hj; omega) (fun h => by have := h3 j h; have := HWR.out j hj; omega)) hs (fun j h => h)⟩, HJx.out _ _ _ _ _ h2.out (ho.mono fun j h => Or.inl h) (fun j h => ?_), fun j h => ?_, by omega⟩
        · rcases h with h | h
          · exact (hx j h).imp Or.inl id
          · exact Or.inl (Or.inr h)
        · rcases hx j h with h | h
          · exact h3 j h
          · omega
      case h0 =>
        refine ⟨by rw [List.append_nil]; exact A0, by rw [List.append_nil]; exact HJ.out _ _ _ _ _ J0.out (OnlyIn.refl _ _) (fun j h => Or.inl (h.resolve_left (fun h => h))), fun j h => h.elim, Nat.le_refl _⟩
      case assign =>
        intro l1 x W1 K hK
        gi_wp2_with fail
        exact hK
      case body =>
        rintro l1 pre x rest bx Xi W1 hsp ⟨h1, h2, h3, h4⟩ hbx hnx hbl
        obtain ⟨rest0, hs0⟩ := lvs_split HGK.out
        rw [hsp] at hs0
        obtain ⟨r, hr⟩ := zip_split (ys := lvsFrom 0 gs) (xs := lvsFrom 0 (gs.take k) ++ pre) (x := x) (rest := rest ++ rest0) (by rw [hs0]; simp)
        have hcnt : (lvsFrom 0 (gs.take k) ++ pre).length < 6501 := by
          have h5 := lvsFrom_len (i := 0) HO.out
          have h6 := congrArg List.length hs0
          simp only [List.length_append, List.length_cons] at h6 ⊢
          omega
        obtain ⟨fn, tmps, assign, body, hy, hR⟩ := HY.out _ _ _ _ _ hr h2.out
        have HR := Lib.hid hR
        have HB := Lib.hid hbx
        obtain ⟨N, hN⟩ : ∃ N, N = (lvsFrom 0 (gs.take k) ++ pre).length := ⟨_, rfl⟩
        rw [← hN] at h1 hcnt hy HR
        have d0 := blk_cell hbx 0; have d1 := blk_cell hbx 1; have d2 := blk_cell hbx 2; have d3 := blk_cell hbx 3
        have y0 := blk_cell h1.out.by_ 0
        have n0 := blk_cell h1.out.bn 0
        have HZ : Hid ((lvsFrom 0 (gs.take k) ++ pre).zipIdx ++ [(x, N)] = (lvsFrom 0 (gs.take k) ++ (pre ++ [x])).zipIdx) := by
          show _ = _
          rw [hN, ← List.append_assoc, zip_snoc]
        have HN : Hid (N + 1 = (lvsFrom 0 (gs.take k) ++ (pre ++ [x])).length) := by
          show _ = _
          rw [hN]; simp only [List.length_append, List.length_cons, List.length_nil]; omega
        rw [HZ.out] at HR
        have hnb := blk_free h1.out.bn 0
        clear hR hr hs0 hsp hbx h2 hN HZ
        gi_wp2_with fail
        refine (roundIn_any HR.out).mono ?_
        rintro e W2 (⟨rfl, hJ2, hk2⟩ | ⟨rfl, hJ2, hk2⟩)
        · have A2 := Lib.hid (h1.out.keep (W' := W2) (Xo' := X0) (fun j hj => hk2.2 j (by have := HWR.out j hj; omega) (by rcases hj with rfl | rfl | h | rfl | h; exact Or.inr (Or.inr h1.out.oy); exact Or.inr (Or.inr h1.out.on); exact Or.inr (Or.inr (h1.out.ds j h).2); exact Or.inl (Or.inl rfl); exact Or.inl (Or.inr h))) hk2.1 (fun j h => h))
          have hvb := HWR.out vb (by simp)
          have A3 := Lib.hid (A2.out.succ (by omega) (by omega) (by omega) (N + 1) _ HN.out)
          have J3 := HJ.out _ _ (fun j => Xi j ∨ X0 j) _ _ hJ2 (OnlyIn.setCell W2 ⟨W.heap.size + 1, 0, none⟩ (.int .i64 ((N + 1 : Nat) : Int)) (Or.inr A2.out.on)) (fun j h => Or.inl h)
          have J4 := Lib.hid J3
          have K4 : Hid (Kept (fun j => j = wr.heap.size + 2 ∨ j = wr.heap.size + 1 ∨ j < B) Xi W1 (W2.setCell ⟨W.heap.size + 1, 0, none⟩ (.int .i64 ((N + 1 : Nat) : Int)))) := by
            refine ⟨by simp [World.setCell]; exact hk2.1, fun j hj hjp => ?_⟩
            refine (heap_setCell_past _ _ _ _ ?_).trans (hk2.2 j hj ?_)
            · have := HWR.out (W.heap.size + 1) (by simp)
              show j ≠ W.heap.size + 1
              rcases hjp with (rfl | rfl | h) | h
              · omega
              · omega
              · omega
              · have := h3 j h; omega
            · rcases hjp with (rfl | rfl | h) | h
              · exact Or.inr (Or.inr hX2)
              · exact Or.inr (Or.inr hX1)
              · exact Or.inl (Or.inr h)
              · exact Or.inr (Or.inl h)
          have hz2 : w1.heap.size ≤ W2.heap.size := by have := hk2.1; omega
          have n0 := blk_cell A2.out.bn 0
          have hnb := blk_free A2.out.bn 0
          clear hJ2 hk2 hy d0 d1 d2 d3 y0 J3
          gi_wp2_with fail
          exact ⟨K4.out, A3, J4, h3, by simp [World.setCell]; exact hz2⟩
        · have A2 := Lib.hid (h1.out.keep (W' := W2) (Xo' := X0) (fun j hj => hk2.2 j (by have := HWR.out j hj; omega) (by rcases hj with rfl | rfl | h | rfl | h; exact Or.inr (Or.inr h1.out.oy); exact Or.inr (Or.inr h1.out.on); exact Or.inr (Or.inr (h1.out.ds j h).2); exact Or.inl (Or.inl rfl); exact Or.inl (Or.inr h))) hk2.1 (fun j h => h))
          have hz2 : w1.heap.size ≤ W2.heap.size := by have := hk2.1; omega
          have K4 : Hid (Kept (fun j => j = wr.heap.size + 2 ∨ j = wr.heap.size + 1 ∨ j < B) Xi W1 W2) := by
            refine ⟨hk2.1, fun j hj hjp => hk2.2 j hj ?_⟩
            rcases hjp with (rfl | rfl | h) | h
            · exact Or.inr (Or.inr hX2)
            · exact Or.inr (Or.inr hX1)
            · exact Or.inl (Or.inr h)
            · exact Or.inr (Or.inl h)
          have J4 := Lib.hid hJ2
          clear hJ2 hk2 hy d0 d1 d2 d3 y0 n0 hnb
          gi_wp2_with fail
          exact ⟨K4.out, rfl, ⟨N, A2⟩, J4, h3, hz2⟩
      case done =>
        rintro D Xi W1 hD hXD ⟨h1, h2, h3, h4⟩ hdef
        have hHK : Hid (gs[k]? = some g) := HGK
        have A2 := Lib.hid ((h1.out.keep (W' := W1) (Xo' := fun j => Xi j ∨ X0 j) (fun j _ => rfl) (Nat.le_refl _) (fun j h => Or.inr h)).mark hdef (Or.inl hXD) (fun h => by have := HWR.out D (by simp [h]); omega))
        rw [← lvsFrom_take HGK.out] at A2 h2
        clear h1 hHK
        gi_wp2_with fail
        exact Handed.intro (gs.length - (k + 1)) (by omega) (hJr _ _ _ ⟨D :: Ds, _, k + 1, _, _, _, _, _, _, _, _, _, _, _, _, _, _, _, _, _, _, _, rfl, by omega, rfl, A2, h2⟩)
      case stop =>
        rintro D c pre Xi W1 hD hXD ⟨rfl, ⟨n, h1⟩, h2, h3, h4⟩ hdef
        have A2 := Lib.hid ((h1.out.keep (W' := W1) (Xo' := fun j => Xi j ∨ X0 j) (fun j _ => rfl) (Nat.le_refl _) (fun j h => Or.inr h)).mark hdef (Or.inl hXD) (fun h => by have := HWR.out D (by simp [h]); omega))
        clear h1
        gi_wp2_with fail
        refine leaves_marks (D :: Ds) W1 A2.out.nd (fun D' hD' => (A2.out.ds D' hD').1) (fun W' ho hz => ?_)
        refine ⟨_, results_none rfl _ _ _, ⟨_, rfl⟩, .inr ⟨_, _, HJx.out _ _ _ _ _ h2.out (ho.mono fun j hj => (A2.out.ds j hj).2) (fun j h => Or.inl h)⟩⟩
    · obtain rfl : k = gs.length := by omega
      rw [List.take_length] at hA hJk
      gi_wp2_with fail
      refine leaves_marks Ds wr hA.out.nd (fun D' hD' => (hA.out.ds D' hD').1) (fun W' ho hz => ?_)
      refine ⟨_, results_none rfl _ _ _, ⟨_, rfl⟩, .inl ⟨_, HJ.out _ _ _ _ _ hJk.out (ho.mono fun j hj => (hA.out.ds j hj).2) (fun j h => Or.inl h)⟩⟩
end Go.Proofs.YtimdmgkegdlafaaGreatDoor

/- More on the statement that ranges over a function: what a caller keeps; how it leaves. For any program. -/
namespace Go.Proofs.YtimdmgkegdlafaaGreatDoor
set_option linter.unusedSimpArgs false
set_option linter.unusedVariables false
open Go Go.RowKit

theorem Held.get {w0 W : World} {bs : List (Nat × Obj)} (h : Held w0 bs W) (i : Nat) {k : Nat} {o : Obj} (hi : bs[i]? = some (k, o)) : W.heap[k]? = some o := h.at_ (k, o) (List.mem_of_getElem? hi)
/-- The frame bears one mark: it is taken back. -/
theorem leave_ret {n : Nat} {P : Program} {fn : Func} {tmps : Array Value} {R : Ending → World → Prop} {D : Nat} {W : World} (hD : W.heap[D]? = some (.deferred (some [])))
    (h : ∃ v, (results fn tmps).run P (W.putObj D (.deferred none)) = .ok v (W.putObj D (.deferred none)) ∧ R (.returned v) (W.putObj D (.deferred none))) :
    bodyPostM Fence.wide n P fn R .ret ⟨tmps, [{ target := .collected D, args := #[] }]⟩ W := by
  refine ⟨by simp, .inl ⟨_, _, rfl, run_takeDeferred hD, ?_⟩⟩
  exact h
theorem leave_end {n : Nat} {P : Program} {fn : Func} {tmps : Array Value} {R : Ending → World → Prop} {D : Nat} {W : World} (hD : W.heap[D]? = some (.deferred (some [])))
    (h : ∃ v, (results fn tmps).run P (W.putObj D (.deferred none)) = .ok v (W.putObj D (.deferred none)) ∧ R (.returned v) (W.putObj D (.deferred none))) :
    bodyPostM Fence.wide n P fn R .normal ⟨tmps, [{ target := .collected D, args := #[] }]⟩ W := leave_ret hD h
theorem Held.put {w0 W : World} {bs : List (Nat × Obj)} (h : Held w0 bs W) {D : Nat} (o : Obj) (h0 : w0.heap.size ≤ D) (hb : ∀ p ∈ bs, p.1 < D) : Held w0 bs (W.putObj D o) :=
  h.only (OnlyIn.putObj (X := fun k => k = D) W D o rfl) (hs := D) (fun _ h => by omega) h0 hb
/-- All four cells, or both, or all three. -/
theorem blk_set4 {W : World} {k : Nat} {a b c d : Value} {t : TypeId} {f : Nat × Nat} (h : W.heap[k]? = some (.cells #[a, b, c, d] t f)) (a' b' c' d' : Value) :
    ((((W.setCell ⟨k, 0, none⟩ a').setCell ⟨k, 1, none⟩ b').setCell ⟨k, 2, none⟩ c').setCell ⟨k, 3, none⟩ d').heap[k]? = some (.cells #[a', b', c', d'] t f) := by
  have := blk_set (blk_set (blk_set (blk_set h 0 a') 1 b') 2 c') 3 d'
  simpa using this
theorem blk_set3 {W : World} {k : Nat} {a b c : Value} {t : TypeId} {f : Nat × Nat} (h : W.heap[k]? = some (.cells #[a, b, c] t f)) (a' b' c' : Value) :
    (((W.setCell ⟨k, 0, none⟩ a').setCell ⟨k, 1, none⟩ b').setCell ⟨k, 2, none⟩ c').heap[k]? = some (.cells #[a', b', c'] t f) := by
  have := blk_set (blk_set (blk_set h 0 a') 1 b') 2 c'
  simpa using this
theorem blk_set2 {W : World} {k : Nat} {a b : Value} {t : TypeId} {f : Nat × Nat} (h : W.heap[k]? = some (.cells #[a, b] t f)) (a' b' : Value) :
    ((W.setCell ⟨k, 0, none⟩ a').setCell ⟨k, 1, none⟩ b').heap[k]? = some (.cells #[a', b'] t f) := by
  have := blk_set (blk_set h 0 a') 1 b'
  simpa using this
theorem blk_set1 {W : World} {k : Nat} {a : Value} {t : TypeId} {f : Nat × Nat} (h : W.heap[k]? = some (.cells #[a] t f)) (a' : Value) :
    (W.setCell ⟨k, 0, none⟩ a').heap[k]? = some (.cells #[a'] t f) := by
  have := blk_set h 0 a'
  simpa using this

/-- The frame with some slots written. -/
def putAll (tmps : Array Value) (us : List (Nat × Value)) : Array Value := us.foldl (fun t p => t.setIfInBounds p.1 p.2) tmps

/-- THE STATEMENT, the round's frame by the slots that its assignment writes. -/
theorem rf_law2 {P : Program} {n : Nat} {α : Type} {g : Operand} {ps : Array Tmp} {assign body : Code} {Q : Exit → Act → World → Prop} {a : Act} {w : World}
    {gf : Nat} {lb : Array Value} (hg : a.eval g = .func (.func gf) #[] lb) (eg : ∀ args w, (callFunc gf args).run P w = .ok (.enter gf args) w)
    {encs : α → Array Value} {xs : List α} {Pr : Nat → Prop} (hit : ItC P gf lb encs xs Pr w) (hps : ∀ x, (encs x).size = ps.size) (hPr : ∀ k, Pr k → k < w.heap.size)
    (I : List α → World → Prop) (Ix : Code → List α → World → Prop) (Ow : World → Nat → Prop) (o : α → Obj) (upd : α → Nat → List (Nat × Value))
    (hOwc : ∀ pre W k, I pre W → Ow W k → ∃ c t f, W.heap[k]? = some (.cells c t f))
    (hI : ∀ pre (X : Nat → Prop) W W', I pre W → OnlyIn X W W' → (∀ k, X k → w.heap.size ≤ k ∧ ¬ Ow W k) → I pre W' ∧ ∀ k, Ow W' k → Ow W k)
    (hIx : ∀ c pre (X : Nat → Prop) W W', Ix c pre W → OnlyIn X W W' → (∀ k, X k → w.heap.size ≤ k) → Ix c pre W')
    (h0 : I [] w)
    (hassign : ∀ (l : Nat) (x : α) (W : World) (K : Act → World → Prop), K { tmps := putAll a.tmps (upd x W.heap.size), defers := [] } (W.alloc (o x)) →
      assign.wpIn (Fence.wide.inRound l) 9 P (Exit.then K (fun _ _ _ => False)) { tmps := (ps.zip (encs x)).foldl (fun t (p, v) => t.setIfInBounds p v) a.tmps, defers := [] } W)
    (hbody : ∀ (l : Nat) (pre : List α) (x : α) (rest : List α) (bx : Nat) (W : World), xs = pre ++ x :: rest → I pre W → W.heap[bx]? = some (o x) → w.heap.size ≤ bx → ¬ Ow W bx →
      body.wpIn (Fence.wide.inRound l) 9 P (rfPost w.heap.size Pr Ow I Ix (pre ++ [x]) W) { tmps := putAll a.tmps (upd x bx), defers := [] } W)
    (hdone : ∀ (D : Nat) (W : World), w.heap.size ≤ D → I xs W → W.heap[D]? = some (.deferred (some [])) → Q .normal { a with defers := { target := .collected D, args := #[] } :: a.defers } W)
    (hstop : ∀ (D : Nat) (c : Code) (pre : List α) (W : World), w.heap.size ≤ D → Ix c pre W → W.heap[D]? = some (.deferred (some [])) → c.wpIn Fence.wide n P Q { a with defers := { target := .collected D, args := #[] } :: a.defers } W) :
    (Code.rangeFunc g ps assign body).wpIn Fence.wide n P Q a w :=
  rf_law hg eg hit hps hPr I Ix Ow o (fun x bx => { tmps := putAll a.tmps (upd x bx), defers := [] }) hOwc hI hIx h0 hassign hbody hdone hstop

end Go.Proofs.YtimdmgkegdlafaaGreatDoor
