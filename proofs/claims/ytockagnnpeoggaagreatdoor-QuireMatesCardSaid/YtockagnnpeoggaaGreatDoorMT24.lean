/- The parts Qr, Lx, Ck of the proof, joined. It holds without conditions of its own. -/
import Derived.Test.YtockagnnpeoggaaGreatDoorMT23
import Derived.Test.YtockagnnpeoggaaGreatDoorMT12
import Derived.Test.YtockagnnpeoggaaGreatDoorMT22
import Derived.BigRegion
import Derived.Test.YtockagnnpeoggaaGreatDoorMT9
/- Leaf. -/
namespace Go.Proofs.YtockagnnpeoggaaGreatDoor
set_option linter.unusedSimpArgs false
set_option linter.unusedVariables false
open Go Go.RowKit Go.Sort Go.BigFrame Go.Shelf

set_option maxRecDepth 100000 in
set_option maxHeartbeats 1000000 in
theorem Leaf_bad (b : Bk) (v : Value) (n : Int) (w : World) (hb : BookAt w.heap.size w v b) (he : errF b ≠ 0) :
    Calls Tryz.prog 20 #[v, .int .i64 n] w fun e w' => e = .returned (.tuple #[S [], .int .i64 (errF b)]) ∧ Below w.heap.size w w' := by
  have hb' := hb
  obtain ⟨sv, rfl, hgs⟩ := hb
  have hgs' := hgs
  obtain ⟨a, cap, rfl, -⟩ := hgs'
  have hop : openV b (.agg #[.int .i64 b.signed, .slice a b.gs.length cap]) = .tuple #[.agg #[.int .i64 0, .slice none 0 0], .int .i64 (errF b)] := by simp [openV, he]
  have hne : (errF b != 0) = true := by simp [he]
  go_enter Tryz.func20, Tryz.ntmps20
  go_wp2_with fail
  refine (open_any b _ _ (hb'.below (B := w.heap.size) (by exact (by repeat (first | (refine Below.setCell ?_ ?_ _; rotate_left; · (first | omega | (simp; done) | (simp; omega) | fail)) | (refine Below.alloc ?_ ?_ _; rotate_left; · (first | omega | (simp; done) | (simp; omega) | fail)) | refine Below.drew ?_ | exact Below.refl _ _ | fail))) (Nat.le_refl _) |>.mono (by simp; try omega))).mono ?_
  rintro e w1 ⟨rfl, hb1⟩
  rw [hop]
  have hb0 : Below w.heap.size w w1 := Below.trans (by exact (by repeat (first | (refine Below.setCell ?_ ?_ _; rotate_left; · (first | omega | (simp; done) | (simp; omega) | fail)) | (refine Below.alloc ?_ ?_ _; rotate_left; · (first | omega | (simp; done) | (simp; omega) | fail)) | refine Below.drew ?_ | exact Below.refl _ _ | fail))) (hb1.mono (by simp; try omega))
  have hz := hb0.size
  go_wp2_with fail
  go_ret2
  exact ⟨rfl, (by repeat (first | (refine Below.setCell ?_ ?_ _; rotate_left; · (first | omega | (simp; done) | (simp; omega) | fail)) | (refine Below.alloc ?_ ?_ _; rotate_left; · (first | omega | (simp; done) | (simp; omega) | fail)) | refine Below.drew ?_ | exact hb0 | fail))⟩

theorem GsAt.get {B : Nat} {w : World} {a : Option Addr} {n cap : Nat} {gs : List Gth} (h : GsAt B w (.slice a n cap) gs) {i : Nat} {g : Gth} (hg : gs[i]? = some g) :
    ∃ bb off, a = some ⟨bb, off, none⟩ ∧ bb < B ∧ ∃ ca ccap, ChsAt B w (.slice ca g.chs.length ccap) g.chs ∧ w.cell? ⟨bb, off + i * 4, none⟩ = some (.int .i64 g.round) ∧ w.cell? ⟨bb, off + i * 4 + 1, none⟩ = some (.int .i64 g.letter) ∧
      w.cell? ⟨bb, off + i * 4 + 2, none⟩ = some (.int .i64 g.leaves) ∧ w.cell? ⟨bb, off + i * 4 + 3, none⟩ = some (.slice ca g.chs.length ccap) := by
  obtain ⟨a', cap', e, hc⟩ := h
  cases e
  obtain ⟨bb, off, rfl, hb, hcell⟩ := hc (fun e => by rw [e] at hg; cases hg)
  obtain ⟨cv, h1, h2⟩ := hcell i g hg
  have h1' := h1
  obtain ⟨ca, ccap, rfl, -⟩ := h1'
  exact ⟨bb, off, rfl, hb, ca, ccap, h1, h2⟩
/-- How a leaf of a book is written. -/
def lfText (b : Bk) (x : Lf) : List UInt8 := match b.gs[x.gat]? with
  | some g => nameT g.round g.letter x.num x.plus
  | none => []
def leafTR (b : Bk) : Option Lf → Value
  | some x => .tuple #[S (lfText b x), .int .i64 0]
  | none => .tuple #[S [], .int .i64 4]

theorem lf_bounds {b : Bk} (hok : BOk b) {x : Lf} (hx : x ∈ lvs b) : ∃ g, b.gs[x.gat]? = some g ∧ GOk g ∧ 0 ≤ x.num ∧ x.num ≤ g.leaves ∧ 0 ≤ x.plus ∧ x.plus ≤ 4 := by
  obtain ⟨g, hg, hm⟩ := lvs_mem hx
  have hgk := hok.gs g (List.mem_of_getElem? hg)
  obtain ⟨h1, h2, h3, h4, h5⟩ := lvsG_mem hm
  refine ⟨g, hg, hgk, h2, h3, h4, ?_⟩
  rcases h5 with h5 | ⟨n, h5⟩
  · omega
  · have := fate_added (cs := g.chs) (num := n) fun c hc => ⟨(hgk.ch hc).2.2.2.1, (hgk.ch hc).2.2.2.2⟩
    omega
theorem getL_mem {α : Type} {xs : List α} {n : Int} {x : α} (h : getL xs n = some x) : x ∈ xs := by
  unfold getL at h
  split at h
  · cases h
  · exact List.mem_of_getElem? h

set_option maxRecDepth 100000 in
set_option maxHeartbeats 1000000 in
theorem Leaf_good (b : Bk) (v : Value) (n : Int) (w : World) (hb : BookAt w.heap.size w v b) (he : errF b = 0) :
    Calls Tryz.prog 20 #[v, .int .i64 n] w fun e w' => e = .returned (leafTR b (getL (lvs b) n)) ∧ Below w.heap.size w w' := by
  have hb' := hb
  obtain ⟨sv, rfl, hgs⟩ := hb
  have hgs' := hgs
  obtain ⟨a, cap, rfl, -⟩ := hgs'
  have hok := errF_zero he
  have hop : openV b (.agg #[.int .i64 b.signed, .slice a b.gs.length cap]) = .tuple #[.agg #[.int .i64 b.signed, .slice a b.gs.length cap], .int .i64 0] := by simp [openV, he]
  have HG := Lib.hid hgs
  have HB := Lib.hid hb'
  clear hgs hb'
  go_enter Tryz.func20, Tryz.ntmps20
  go_wp2_with fail
  refine (open_any b _ _ (HB.out.below (B := w.heap.size) (by exact (by repeat (first | (refine Below.setCell ?_ ?_ _; rotate_left; · (first | omega | (simp; done) | (simp; omega) | fail)) | (refine Below.alloc ?_ ?_ _; rotate_left; · (first | omega | (simp; done) | (simp; omega) | fail)) | refine Below.drew ?_ | exact Below.refl _ _ | fail))) (Nat.le_refl _) |>.mono (by simp; try omega))).mono ?_
  rintro e w1 ⟨rfl, hb1⟩
  rw [hop]
  have hb0 : Below w.heap.size w w1 := Below.trans (by exact (by repeat (first | (refine Below.setCell ?_ ?_ _; rotate_left; · (first | omega | (simp; done) | (simp; omega) | fail)) | (refine Below.alloc ?_ ?_ _; rotate_left; · (first | omega | (simp; done) | (simp; omega) | fail)) | refine Below.drew ?_ | exact Below.refl _ _ | fail))) (hb1.mono (by simp; try omega))
  have HB0 := Lib.hid hb0
  have hz := hb0.size
  clear hb1 hb0 hop
  go_wp2_with fail
  refine (leaf_any b _ n _ (HB.out.below (B := w.heap.size) (by exact (by repeat (first | (refine Below.setCell ?_ ?_ _; rotate_left; · (first | omega | (simp; done) | (simp; omega) | fail)) | (refine Below.alloc ?_ ?_ _; rotate_left; · (first | omega | (simp; done) | (simp; omega) | fail)) | refine Below.drew ?_ | exact HB0.out | fail))) (Nat.le_refl _) |>.mono (by simp; try omega)) he).mono ?_
  rintro e w2 ⟨rfl, hb2⟩
  have hb0 : Below w.heap.size w w2 := Below.trans (by exact (by repeat (first | (refine Below.setCell ?_ ?_ _; rotate_left; · (first | omega | (simp; done) | (simp; omega) | fail)) | (refine Below.alloc ?_ ?_ _; rotate_left; · (first | omega | (simp; done) | (simp; omega) | fail)) | refine Below.drew ?_ | exact HB0.out | fail))) (hb2.mono (by simp; try omega))
  have h6 : w2.heap[w1.heap.size]? = some (.cells #[.int .i64 b.signed, .slice a b.gs.length cap] 64) := blk_later hb2 (by exact (by repeat (first | exact heap_alloc_at _ _ _ (by (first | omega | (simp; done) | (simp; omega) | fail)) | (refine (heap_alloc_past _ _ _ ?_).trans ?_; · (first | omega | (simp; done) | (simp; omega) | fail)) | fail)))
  have hz2 := hb0.size
  have HB2 := Lib.hid hb0
  have hzz := blk_lt h6
  clear hb2 hb0
  cases hx : getL (lvs b) n with
  | none =>
    have HX := Lib.hid hx
    clear hx
    simp only [leafR]
    go_wp2_with fail
    go_ret2
    exact ⟨by rw [HX.out]; rfl, (by repeat (first | (refine Below.setCell ?_ ?_ _; rotate_left; · (first | omega | (simp; done) | (simp; omega) | fail)) | (refine Below.alloc ?_ ?_ _; rotate_left; · (first | omega | (simp; done) | (simp; omega) | fail)) | refine Below.drew ?_ | exact HB2.out | fail))⟩
  | some x =>
    obtain ⟨g, hg, hgk, n0, n1, p0, p1⟩ := lf_bounds hok (getL_mem hx)
    have hlv := hgk.leaves
    have HX := Lib.hid hx
    clear hx
    simp only [leafR, lfV]
    have v0 := blk_cell h6 0; have v1 := blk_cell h6 1
    clear h6
    go_wp2_with fail
    refine (name_any b _ x g _ (HB.out.below (B := w.heap.size) (by exact (by repeat (first | (refine Below.setCell ?_ ?_ _; rotate_left; · (first | omega | (simp; done) | (simp; omega) | fail)) | (refine Below.alloc ?_ ?_ _; rotate_left; · (first | omega | (simp; done) | (simp; omega) | fail)) | refine Below.drew ?_ | exact HB2.out | fail))) (Nat.le_refl _) |>.mono (by simp; try omega)) hg).mono ?_
    rintro e w3 ⟨rfl, hb3⟩
    have hb0 : Below w.heap.size w w3 := Below.trans (by exact (by repeat (first | (refine Below.setCell ?_ ?_ _; rotate_left; · (first | omega | (simp; done) | (simp; omega) | fail)) | (refine Below.alloc ?_ ?_ _; rotate_left; · (first | omega | (simp; done) | (simp; omega) | fail)) | refine Below.drew ?_ | exact HB2.out | fail))) (hb3.mono (by simp; try omega))
    have HB3 := Lib.hid hb0
    clear hb3 hb0
    go_wp2_with fail
    refine (nameText_any g.round g.letter x.num x.plus hgk.sig ⟨n0, by omega⟩ ⟨p0, by omega⟩ _).mono ?_
    rintro e w4 ⟨rfl, hb4⟩
    have hb0 : Below w.heap.size w w4 := HB3.out.trans (hb4.mono HB3.out.size)
    have HT : Hid (lfText b x = nameT g.round g.letter x.num x.plus) := by show _ = _; simp [lfText, hg]
    go_wp2_with fail
    go_ret2
    exact ⟨by rw [HX.out]; simp only [leafTR, HT.out]; rfl, hb0⟩

end Go.Proofs.YtockagnnpeoggaaGreatDoor

/- What the laws of books share: a valid book, and its box. -/
namespace Go.Proofs.YtockagnnpeoggaaGreatDoor
set_option linter.unusedSimpArgs false
set_option linter.unusedVariables false
open Go Go.RowKit Go.Sort Go.BigFrame Go.Shelf
attribute [local go_sem] Oper.semAt_some putAll

set_option maxRecDepth 100000 in
set_option maxHeartbeats 400000 in
theorem valid_any (b : Bk) (v : Value) (w : World) (hb : BookAt w.heap.size w v b) :
    Calls Tryz.prog 29 #[v] w fun e w' => e = .returned (.bool (errF b == 0)) ∧ Below w.heap.size w w' := by
  have HB := Lib.hid hb
  obtain ⟨sv, rfl, hgs⟩ := hb
  obtain ⟨a, cap, rfl, -⟩ := hgs
  have HR : Hid (checkR b = .tuple #[.int .i64 (checkF b).1, .int .i64 (checkF b).2.1, .int .i64 (errF b)]) := Lib.hid rfl
  go_enter Tryz.func29, Tryz.ntmps29
  go_wp2_with fail
  refine (refCheck_any b _ _ ((HB.out.below (by exact (by repeat (first | (refine Below.setCell ?_ ?_ _; rotate_left; · (first | omega | (simp; done) | (simp; omega) | fail)) | (refine Below.alloc ?_ ?_ _; rotate_left; · (first | omega | (simp; done) | (simp; omega) | fail)) | refine Below.drew ?_ | exact Below.refl _ _ | fail))) (Nat.le_refl _)).mono (by simp; try omega))).mono ?_
  rintro e w1 ⟨rfl, hb1⟩
  rw [HR.out]
  have hb0 : Below w.heap.size w w1 := Below.trans (by exact (by repeat (first | (refine Below.setCell ?_ ?_ _; rotate_left; · (first | omega | (simp; done) | (simp; omega) | fail)) | (refine Below.alloc ?_ ?_ _; rotate_left; · (first | omega | (simp; done) | (simp; omega) | fail)) | refine Below.drew ?_ | exact Below.refl _ _ | fail))) (hb1.mono (by simp; try omega))
  clear hb1
  go_wp2_with fail
  go_ret
  exact ⟨rfl, hb0⟩

/-- A book in its box. -/
structure BkBox (w W : World) (X : Nat) (b : Bk) (a : Option Addr) (cap : Nat) : Prop where
  box : W.heap[X]? = some (.cells #[.int .i64 b.signed, .slice a b.gs.length cap] 24)
  book : BookAt W.heap.size W (.agg #[.int .i64 b.signed, .slice a b.gs.length cap]) b
  below : Below w.heap.size w W
theorem BkBox.later {w W W' : World} {X : Nat} {b : Bk} {a : Option Addr} {cap : Nat} (h : BkBox w W X b a cap) (hb : Below W.heap.size W W') : BkBox w W' X b a cap :=
  ⟨blk_later hb h.box, (h.book.below hb (Nat.le_refl _)).mono hb.size, h.below.trans (hb.mono h.below.size)⟩
theorem BkBox.start {w : World} {b : Bk} {a : Option Addr} {cap : Nat} (h : BookAt w.heap.size w (.agg #[.int .i64 b.signed, .slice a b.gs.length cap]) b) : BkBox w (w.alloc (.cells #[.int .i64 b.signed, .slice a b.gs.length cap] 24)) w.heap.size b a cap :=
  ⟨World.alloc_heap_new _ _, (h.below ((Below.refl _ w).alloc (Nat.le_refl _) _) (Nat.le_refl _)).mono (by simp), (Below.refl _ w).alloc (Nat.le_refl _) _⟩
theorem BkBox.gth {w W : World} {X : Nat} {b : Bk} {a : Option Addr} {cap : Nat} (h : BkBox w W X b a cap) {i : Nat} {g : Gth} (hg : b.gs[i]? = some g) :
    ∃ bb off, a = some ⟨bb, off, none⟩ ∧ bb < W.heap.size ∧ ∃ ca ccap, ChsAt W.heap.size W (.slice ca g.chs.length ccap) g.chs ∧ W.cell? ⟨bb, off + i * 4, none⟩ = some (.int .i64 g.round) ∧ W.cell? ⟨bb, off + i * 4 + 1, none⟩ = some (.int .i64 g.letter) ∧
      W.cell? ⟨bb, off + i * 4 + 2, none⟩ = some (.int .i64 g.leaves) ∧ W.cell? ⟨bb, off + i * 4 + 3, none⟩ = some (.slice ca g.chs.length ccap) := by
  obtain ⟨sv, e, hgs⟩ := h.book
  have : sv = .slice a b.gs.length cap := by
    simp only [Value.agg.injEq, Array.mk.injEq, List.cons.injEq, true_and, and_true] at e
    exact e.symm
  subst this
  exact hgs.get hg
theorem cell_al {W : World} {b i : Nat} {v : Value} (h : W.cell? ⟨b, i, none⟩ = some v) (hb : b < W.heap.size) (o : Obj) : (W.alloc o).cell? ⟨b, i, none⟩ = some v := by
  rw [← h]; exact World.cell?_of_block (heap_alloc_past _ _ _ (by omega))
theorem cell_al2 {W : World} {b i : Nat} {v : Value} (h : W.cell? ⟨b, i, none⟩ = some v) (hb : b < W.heap.size) (o o' : Obj) : ((W.alloc o).alloc o').cell? ⟨b, i, none⟩ = some v :=
  cell_al (cell_al h hb o) (by simp; omega) o'
end Go.Proofs.YtockagnnpeoggaaGreatDoor

/- The reference's list of all leaves: what its loops keep. (The walk itself is yet to be written.) -/
namespace Go.Proofs.YtockagnnpeoggaaGreatDoor
set_option linter.unusedSimpArgs false
set_option linter.unusedVariables false
open Go Go.RowKit Go.Sort Go.BigFrame Go.Shelf

theorem ty_ne1 : (24 : TypeId) ≠ 68 := by decide
theorem ty_ne2 : (57 : TypeId) ≠ 68 := by decide
/-- A block of another type stays when a row of leaves grows. -/
theorem grown_block {W W' : World} {base : Nat} {v : Value} {n k : Nat} {xs : List Value} {c : Array Value} {t : TypeId} {f : Nat × Nat} (hr : W.ownsRow base 68 4 v n xs) (hg : W.grownBy W' v.ownBlock) (hk : W.heap[k]? = some (.cells c t f)) (ht : t ≠ 68) : W'.heap[k]? = some (.cells c t f) := by
  rw [← hk]
  refine hg.block k (Array.getElem?_eq_some_iff.1 hk).1 fun e => ?_
  rcases hr.2 with ⟨rfl, _⟩ | ⟨g, cap, cur, rfl, _, h, _⟩
  · simp [Value.ownBlock] at e
  · simp only [Value.ownBlock, Option.some.injEq] at e
    subst e
    rw [hk] at h
    simp only [Option.some.injEq, Obj.cells.injEq] at h
    exact ht h.2.1
/-- What is kept while the leaves are gathered: the book's box, and the row. -/
structure Al (w W : World) (b : Bk) (a : Option Addr) (cap : Nat) (v : Value) (xs : List Lf) : Prop where
  box : W.heap[w.heap.size]? = some (.cells #[.int .i64 b.signed, .slice a b.gs.length cap] 24)
  gs : GsAt w.heap.size W (.slice a b.gs.length cap) b.gs
  row : W.ownsRow (w.heap.size + 1) 68 4 v xs.length (lfCells xs)
  below : Below w.heap.size w W
theorem Al.later {w W W' : World} {b : Bk} {a : Option Addr} {cap : Nat} {v : Value} {xs : List Lf} (h : Al w W b a cap v xs) (hb : Below W.heap.size W W') : Al w W' b a cap v xs :=
  ⟨blk_later hb h.box, h.gs.below hb h.below.size, row_later h.row hb, h.below.trans (hb.mono h.below.size)⟩
/-- One more leaf. -/
theorem Al.add {w W W' : World} {b : Bk} {a : Option Addr} {cap : Nat} {v v' : Value} {xs : List Lf} {x : Lf} (h : Al w W b a cap v xs)
    (hr : W'.ownsRow (w.heap.size + 1) 68 4 v' (xs.length + 1) (lfCells xs ++ [.int .i64 x.gat, .int .i64 x.num, .int .i64 x.plus, .int .i64 x.kind])) (hg : W.grownBy W' v.ownBlock) : Al w W' b a cap v' (xs ++ [x]) := by
  have hbl : Below w.heap.size W W' := ((Below.refl _ W).mono h.below.size).grown hg h.below.size (fun k hk => by
    have := (h.row.lt k hk).1
    omega)
  refine ⟨grown_block h.row hg h.box ty_ne1, h.gs.below hbl (Nat.le_refl _), ?_, h.below.trans hbl⟩
  rw [List.length_append]
  simpa [lfCells] using hr
end Go.Proofs.YtockagnnpeoggaaGreatDoor
