/- The parts Qr, Rh of the proof, joined. It holds without conditions of its own. -/
import Derived.Test.YtimdmgkegdlafaaGreatDoorCH14
import Derived.Test.YtimdmgkegdlafaaGreatDoorCH11
/- Leaf. -/
namespace Go.Proofs.YtimdmgkegdlafaaGreatDoor
set_option linter.unusedSimpArgs false
set_option linter.unusedVariables false
open Go Go.RowKit Go.Sort Go.BigFrame Go.Shelf

set_option maxRecDepth 100000 in
set_option maxHeartbeats 1000000 in
theorem Leaf_bad (b : Bk) (v : Value) (n : Int) (w : World) (hb : BookAt w.heap.size w v b) (he : errF b ≠ 0) :
    Calls Tryz.prog 19 #[v, .int .i64 n] w fun e w' => e = .returned (.tuple #[S [], .int .i64 (errF b)]) ∧ Below w.heap.size w w' := by
  have hb' := hb
  obtain ⟨sv, rfl, hgs⟩ := hb
  have hgs' := hgs
  obtain ⟨a, cap, rfl, -⟩ := hgs'
  have hop : openV b (.agg #[.int .i64 b.signed, .slice a b.gs.length cap]) = .tuple #[.agg #[.int .i64 0, .slice none 0 0], .int .i64 (errF b)] := by simp [openV, he]
  have hne : (errF b != 0) = true := by simp [he]
  go_enter Tryz.func19, Tryz.ntmps19
  go_wp2_with fail
  refine (open_any b _ _ (hb'.below (B := w.heap.size) (by exact (by repeat (first | (refine Below.setCell ?_ ?_ _; rotate_left; · (first | omega | (simp; done) | (simp; omega) | fail)) | (refine Below.alloc ?_ ?_ _; rotate_left; · (first | omega | (simp; done) | (simp; omega) | fail)) | refine Below.drew ?_ | exact Below.refl _ _ | fail))) (Nat.le_refl _) |>.mono (by simp; try omega))).mono ?_
  rintro e w1 ⟨rfl, hb1⟩
  rw [hop]
  have hb0 : Below w.heap.size w w1 := Below.trans (by exact (by repeat (first | (refine Below.setCell ?_ ?_ _; rotate_left; · (first | omega | (simp; done) | (simp; omega) | fail)) | (refine Below.alloc ?_ ?_ _; rotate_left; · (first | omega | (simp; done) | (simp; omega) | fail)) | refine Below.drew ?_ | exact Below.refl _ _ | fail))) (hb1.mono (by simp; try omega))
  have hz := hb0.size
  go_wp2_with fail
  go_ret2
  exact ⟨rfl, (by repeat (first | (refine Below.setCell ?_ ?_ _; rotate_left; · (first | omega | (simp; done) | (simp; omega) | fail)) | (refine Below.alloc ?_ ?_ _; rotate_left; · (first | omega | (simp; done) | (simp; omega) | fail)) | refine Below.drew ?_ | exact hb0 | fail))⟩

theorem GsAt.get {B : Nat} {w : World} {a : Option Addr} {n cap : Nat} {gs : List Gth} (h : GsAt B w (.slice a n cap) gs) {i : Nat} {g : Gth} (hg : gs[i]? = some g) :
    ∃ bb off, a = some ⟨bb, off, none⟩ ∧ bb < B ∧ ∃ ca ccap, ChsAt B w (.slice ca g.chs.length ccap) g.chs ∧ w.cell? ⟨bb, off + i * 4, none⟩ = some (.int .i64 g.round) ∧ w.cell? ⟨bb, off + i * 4 + 1, none⟩ = some (.int .i64 g.letter) ∧
      w.cell? ⟨bb, off + i * 4 + 2, none⟩ = some (.int .i64 g.leaves) ∧ w.cell? ⟨bb, off + i * 4 + 3, none⟩ = some (.slice ca g.chs.length ccap) := by
  obtain ⟨a', cap', e, hc⟩ := h
  cases e
  obtain ⟨bb, off, rfl, hb, hcell⟩ := hc (fun e => by rw [e] at hg; cases hg)
  obtain ⟨cv, h1, h2⟩ := hcell i g hg
  have h1' := h1
  obtain ⟨ca, ccap, rfl, -⟩ := h1'
  exact ⟨bb, off, rfl, hb, ca, ccap, h1, h2⟩
/-- How a leaf of a book is written. -/
def lfText (b : Bk) (x : Lf) : List UInt8 := match b.gs[x.gat]? with
  | some g => nameT g.round g.letter x.num x.plus
  | none => []
def leafTR (b : Bk) : Option Lf → Value
  | some x => .tuple #[S (lfText b x), .int .i64 0]
  | none => .tuple #[S [], .int .i64 4]

theorem lf_bounds {b : Bk} (hok : BOk b) {x : Lf} (hx : x ∈ lvs b) : ∃ g, b.gs[x.gat]? = some g ∧ GOk g ∧ 0 ≤ x.num ∧ x.num ≤ g.leaves ∧ 0 ≤ x.plus ∧ x.plus ≤ 4 := by
  obtain ⟨g, hg, hm⟩ := lvs_mem hx
  have hgk := hok.gs g (List.mem_of_getElem? hg)
  obtain ⟨h1, h2, h3, h4, h5⟩ := lvsG_mem hm
  refine ⟨g, hg, hgk, h2, h3, h4, ?_⟩
  rcases h5 with h5 | ⟨n, h5⟩
  · omega
  · have := fate_added (cs := g.chs) (num := n) fun c hc => ⟨(hgk.ch hc).2.2.2.1, (hgk.ch hc).2.2.2.2⟩
    omega
theorem getL_mem {α : Type} {xs : List α} {n : Int} {x : α} (h : getL xs n = some x) : x ∈ xs := by
  unfold getL at h
  split at h
  · cases h
  · exact List.mem_of_getElem? h

set_option maxRecDepth 100000 in
set_option maxHeartbeats 1000000 in
theorem Leaf_good (b : Bk) (v : Value) (n : Int) (w : World) (hb : BookAt w.heap.size w v b) (he : errF b = 0) :
    Calls Tryz.prog 19 #[v, .int .i64 n] w fun e w' => e = .returned (leafTR b (getL (lvs b) n)) ∧ Below w.heap.size w w' := by
  have hb' := hb
  obtain ⟨sv, rfl, hgs⟩ := hb
  have hgs' := hgs
  obtain ⟨a, cap, rfl, -⟩ := hgs'
  have hok := errF_zero he
  have hop : openV b (.agg #[.int .i64 b.signed, .slice a b.gs.length cap]) = .tuple #[.agg #[.int .i64 b.signed, .slice a b.gs.length cap], .int .i64 0] := by simp [openV, he]
  have HG := Lib.hid hgs
  have HB := Lib.hid hb'
  clear hgs hb'
  go_enter Tryz.func19, Tryz.ntmps19
  go_wp2_with fail
  refine (open_any b _ _ (HB.out.below (B := w.heap.size) (by exact (by repeat (first | (refine Below.setCell ?_ ?_ _; rotate_left; · (first | omega | (simp; done) | (simp; omega) | fail)) | (refine Below.alloc ?_ ?_ _; rotate_left; · (first | omega | (simp; done) | (simp; omega) | fail)) | refine Below.drew ?_ | exact Below.refl _ _ | fail))) (Nat.le_refl _) |>.mono (by simp; try omega))).mono ?_
  rintro e w1 ⟨rfl, hb1⟩
  rw [hop]
  have hb0 : Below w.heap.size w w1 := Below.trans (by exact (by repeat (first | (refine Below.setCell ?_ ?_ _; rotate_left; · (first | omega | (simp; done) | (simp; omega) | fail)) | (refine Below.alloc ?_ ?_ _; rotate_left; · (first | omega | (simp; done) | (simp; omega) | fail)) | refine Below.drew ?_ | exact Below.refl _ _ | fail))) (hb1.mono (by simp; try omega))
  have HB0 := Lib.hid hb0
  have hz := hb0.size
  clear hb1 hb0 hop
  go_wp2_with fail
  refine (leaf_any b _ n _ (HB.out.below (B := w.heap.size) (by exact (by repeat (first | (refine Below.setCell ?_ ?_ _; rotate_left; · (first | omega | (simp; done) | (simp; omega) | fail)) | (refine Below.alloc ?_ ?_ _; rotate_left; · (first | omega | (simp; done) | (simp; omega) | fail)) | refine Below.drew ?_ | exact HB0.out | fail))) (Nat.le_refl _) |>.mono (by simp; try omega)) he).mono ?_
  rintro e w2 ⟨rfl, hb2⟩
  have hb0 : Below w.heap.size w w2 := Below.trans (by exact (by repeat (first | (refine Below.setCell ?_ ?_ _; rotate_left; · (first | omega | (simp; done) | (simp; omega) | fail)) | (refine Below.alloc ?_ ?_ _; rotate_left; · (first | omega | (simp; done) | (simp; omega) | fail)) | refine Below.drew ?_ | exact HB0.out | fail))) (hb2.mono (by simp; try omega))
  have h6 : w2.heap[w1.heap.size]? = some (.cells #[.int .i64 b.signed, .slice a b.gs.length cap] 57) := blk_later hb2 (by exact (by repeat (first | exact heap_alloc_at _ _ _ (by (first | omega | (simp; done) | (simp; omega) | fail)) | (refine (heap_alloc_past _ _ _ ?_).trans ?_; · (first | omega | (simp; done) | (simp; omega) | fail)) | fail)))
  have hz2 := hb0.size
  have HB2 := Lib.hid hb0
  have hzz := blk_lt h6
  clear hb2 hb0
  cases hx : getL (lvs b) n with
  | none =>
    have HX := Lib.hid hx
    clear hx
    simp only [leafR]
    go_wp2_with fail
    go_ret2
    exact ⟨by rw [HX.out]; rfl, (by repeat (first | (refine Below.setCell ?_ ?_ _; rotate_left; · (first | omega | (simp; done) | (simp; omega) | fail)) | (refine Below.alloc ?_ ?_ _; rotate_left; · (first | omega | (simp; done) | (simp; omega) | fail)) | refine Below.drew ?_ | exact HB2.out | fail))⟩
  | some x =>
    obtain ⟨g, hg, hgk, n0, n1, p0, p1⟩ := lf_bounds hok (getL_mem hx)
    have hlv := hgk.leaves
    have HX := Lib.hid hx
    clear hx
    simp only [leafR, lfV]
    have v0 := blk_cell h6 0; have v1 := blk_cell h6 1
    clear h6
    go_wp2_with fail
    refine (name_any b _ x g _ (HB.out.below (B := w.heap.size) (by exact (by repeat (first | (refine Below.setCell ?_ ?_ _; rotate_left; · (first | omega | (simp; done) | (simp; omega) | fail)) | (refine Below.alloc ?_ ?_ _; rotate_left; · (first | omega | (simp; done) | (simp; omega) | fail)) | refine Below.drew ?_ | exact HB2.out | fail))) (Nat.le_refl _) |>.mono (by simp; try omega)) hg).mono ?_
    rintro e w3 ⟨rfl, hb3⟩
    have hb0 : Below w.heap.size w w3 := Below.trans (by exact (by repeat (first | (refine Below.setCell ?_ ?_ _; rotate_left; · (first | omega | (simp; done) | (simp; omega) | fail)) | (refine Below.alloc ?_ ?_ _; rotate_left; · (first | omega | (simp; done) | (simp; omega) | fail)) | refine Below.drew ?_ | exact HB2.out | fail))) (hb3.mono (by simp; try omega))
    have HB3 := Lib.hid hb0
    clear hb3 hb0
    go_wp2_with fail
    refine (nameText_any g.round g.letter x.num x.plus hgk.sig ⟨n0, by omega⟩ ⟨p0, by omega⟩ _).mono ?_
    rintro e w4 ⟨rfl, hb4⟩
    have hb0 : Below w.heap.size w w4 := HB3.out.trans (hb4.mono HB3.out.size)
    have HT : Hid (lfText b x = nameT g.round g.letter x.num x.plus) := by show _ = _; simp [lfText, hg]
    go_wp2_with fail
    go_ret2
    exact ⟨by rw [HX.out]; simp only [leafTR, HT.out]; rfl, hb0⟩

end Go.Proofs.YtimdmgkegdlafaaGreatDoor

/- The statement that ranges over a function and looks for the first element of a kind. For any program. -/
namespace Go.Proofs.YtimdmgkegdlafaaGreatDoor
set_option linter.unusedSimpArgs false
set_option linter.unusedVariables false
open Go Go.RowKit

theorem rf_find {P : Program} {n : Nat} {α : Type} {g : Operand} {ps : Array Tmp} {assign body : Code} {Q : Exit → Act → World → Prop} {a : Act} {w : World}
    {gf : Nat} {lb : Array Value} (hg : a.eval g = .func (.func gf) #[] lb) (eg : ∀ args w, (callFunc gf args).run P w = .ok (.enter gf args) w)
    {encs : α → Array Value} {xs : List α} {Pr : Nat → Prop} (hit : ItC P gf lb encs xs Pr w) (hps : ∀ x, (encs x).size = ps.size) (hPr : ∀ k, Pr k → k < w.heap.size)
    (w0 : World) (bs : List (Nat × Obj)) (p : α → Bool) (bsR : α → List (Nat × Obj)) (Xr : Nat → Prop) (o : α → Obj) (upd : α → Nat → List (Nat × Value))
    (hbs : ∀ q ∈ bs, q.1 < w.heap.size) (hbsR : ∀ x, ∀ q ∈ bsR x, q.1 < w.heap.size) (hXr : ∀ k, Xr k → k < w.heap.size ∧ ¬ Pr k) (h0 : Held w0 bs w)
    (hassign : ∀ (l : Nat) (x : α) (W : World) (K : Act → World → Prop), K { tmps := putAll a.tmps (upd x W.heap.size), defers := [] } (W.alloc (o x)) →
      assign.wpIn (Fence.wide.inRound l) 9 P (Exit.then K (fun _ _ _ => False)) { tmps := (ps.zip (encs x)).foldl (fun t (p, v) => t.setIfInBounds p v) a.tmps, defers := [] } W)
    (hbody : ∀ (l : Nat) (pre : List α) (x : α) (rest : List α) (bx : Nat) (W : World), xs = pre ++ x :: rest → Held w0 bs W → W.heap[bx]? = some (o x) → w.heap.size ≤ bx →
      body.wpIn (Fence.wide.inRound l) 9 P (fun e _ W' => (p x = true ∧ e = .ret ∧ OnlyIn Xr W W' ∧ Held w0 (bsR x) W') ∨ (p x = false ∧ e = .normal ∧ Below W.heap.size W W')) { tmps := putAll a.tmps (upd x bx), defers := [] } W)
    (hdone : ∀ (D : Nat) (W : World), w.heap.size ≤ D → Held w0 bs W → (∀ y ∈ xs, p y = false) → W.heap[D]? = some (.deferred (some [])) → Q .normal { a with defers := { target := .collected D, args := #[] } :: a.defers } W)
    (hstop : ∀ (D : Nat) (pre : List α) (x : α) (rest : List α) (W : World), w.heap.size ≤ D → xs = pre ++ x :: rest → (∀ y ∈ pre, p y = false) → p x = true → Held w0 (bsR x) W → W.heap[D]? = some (.deferred (some [])) → Code.ret.wpIn Fence.wide n P Q { a with defers := { target := .collected D, args := #[] } :: a.defers } W) :
    (Code.rangeFunc g ps assign body).wpIn Fence.wide n P Q a w := by
  refine rf_law2 hg eg hit hps hPr (fun pre W => Held w0 bs W ∧ (∀ y ∈ pre, p y = false) ∧ w.heap.size ≤ W.heap.size)
    (fun c _ W => c = .ret ∧ ∃ pre x rest, xs = pre ++ x :: rest ∧ (∀ y ∈ pre, p y = false) ∧ p x = true ∧ Held w0 (bsR x) W) (fun _ _ => False) o upd (fun _ _ _ _ h => h.elim) ?_ ?_
    ⟨h0, fun _ h => (by cases h), Nat.le_refl _⟩ hassign ?_ ?_ ?_
  · rintro pre X W W' ⟨h1, h2, h3⟩ ho hX
    exact ⟨⟨h1.only ho (hs := w.heap.size) (fun k h => (hX k h).1) h0.below.size hbs, h2, Nat.le_trans h3 ho.size⟩, fun k h => h.elim⟩
  · rintro c pre X W W' ⟨hc, pre', x, rest, h1, h2, h3, h4⟩ ho hX
    exact ⟨hc, pre', x, rest, h1, h2, h3, h4.only ho (hs := w.heap.size) hX h0.below.size (hbsR x)⟩
  · rintro l pre x rest bx W hsp ⟨h1, h2, h3⟩ hbx hlb -
    refine wpIn_mono (hbody l pre x rest bx W hsp h1 hbx hlb) ?_
    rintro e a' W' (⟨hp, rfl, ho, hh⟩ | ⟨hp, rfl, hb⟩)
    · exact ⟨Turn.of ho hXr (fun k hk => Nat.lt_of_lt_of_le (hPr k hk) h3), rfl, pre, x, rest, hsp, h2, hp, hh⟩
    · refine ⟨Turn.of (X := fun _ => False) (OnlyIn.of_below hb) (fun k hk => hk.elim) (fun k hk => Nat.lt_of_lt_of_le (hPr k hk) h3), h1.below' hb, fun y hy => ?_, Nat.le_trans h3 hb.size⟩
      rcases List.mem_append.1 hy with hy | hy
      · exact h2 y hy
      · simp only [List.mem_singleton] at hy; rw [hy]; exact hp
  · rintro D W hD ⟨h1, h2, -⟩ hd
    exact hdone D W hD h1 h2 hd
  · rintro D c pre W hD ⟨rfl, pre', x, rest, h1, h2, h3, h4⟩ hd
    exact hstop D pre' x rest W hD h1 h2 h3 h4 hd

end Go.Proofs.YtimdmgkegdlafaaGreatDoor
