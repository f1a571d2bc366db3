/- The parts Ro of the proof, joined. It holds without conditions of its own. -/
import Derived.Test.YtlekbddlemfokaaDoorM27
/- Contract of the reader: a formula. -/
namespace Go.Proofs.YtlekbddlemfokaaDoor
set_option linter.unusedSimpArgs false
set_option linter.unusedVariables false
open Go Go.RowKit Go.Sort Go.BigFrame

/-- Gatherings in new blocks. -/
def GsIn (lo : Nat) (W : World) (v : Value) (gs : List Gth) : Prop :=
  ∃ zs : List (Gth × Value), zs.map (·.1) = gs ∧ W.ownsRow lo 41 4 v zs.length (gtCells zs) ∧ ∀ z ∈ zs, ChsIn lo W z.2 z.1.chs
theorem GsIn.at_ {lo : Nat} {W : World} {v : Value} {gs : List Gth} (h : GsIn lo W v gs) : GsAt W.heap.size W v gs := by
  obtain ⟨zs, rfl, hr, hc⟩ := h
  exact GsAt.of_row hr fun z hz => (hc z hz).at_
theorem row_only {W W' : World} {X : Nat → Prop} {base : Nat} {e : TypeId} {size k : Nat} {v : Value} {xs : List Value} (h : W.ownsRow base e size v k xs) (ho : OnlyIn X W W') (hX : ∀ j, X j → j < base) : W'.ownsRow base e size v k xs := by
  refine ⟨h.1, h.2.imp id fun ⟨g, cap, cur, he, hb, hg, rest⟩ => ⟨g, cap, cur, he, hb, ?_, rest⟩⟩
  exact (ho.block g (blk_lt hg) (fun hx => by have := hX _ hx; omega)).trans hg
theorem GsIn.only {lo : Nat} {W W' : World} {v : Value} {gs : List Gth} {X : Nat → Prop} (h : GsIn lo W v gs) (ho : OnlyIn X W W') (hX : ∀ k, X k → k < lo) : GsIn lo W' v gs := by
  obtain ⟨zs, h1, hr, hc⟩ := h
  exact ⟨zs, h1, row_only hr ho hX, fun z hz => (hc z hz).only ho hX⟩
theorem GsIn.mono {lo lo' : Nat} {W : World} {v : Value} {gs : List Gth} (h : GsIn lo W v gs) (hl : lo' ≤ lo) : GsIn lo' W v gs := by
  obtain ⟨zs, h1, hr, hc⟩ := h
  exact ⟨zs, h1, row_mono hr hl, fun z hz => (hc z hz).mono hl⟩
/-- A book in new blocks. -/
def BookIn (lo : Nat) (W : World) (v : Value) (b : Bk) : Prop := ∃ sv, v = .agg #[.int .i64 b.signed, sv] ∧ GsIn lo W sv b.gs
theorem BookIn.at_ {lo : Nat} {W : World} {v : Value} {b : Bk} (h : BookIn lo W v b) : BookAt W.heap.size W v b := by
  obtain ⟨sv, rfl, h⟩ := h
  exact ⟨sv, rfl, h.at_⟩
def BkPost (R : Nat) (r : Option (Bk × Bs)) (w : World) (e : Ending) (w' : World) : Prop := match r with
  | some (b, t) => (∃ v, e = .returned v ∧ BookIn w.heap.size w' v b) ∧ Rw R t w w'
  | none => e = panicE ∧ ∃ t, Rw R t w w'
theorem BkPost.fail {R : Nat} {r : Option (Bk × Bs)} {w w' : World} {t : Bs} (hr : r = none) (h : Rw R t w w') : BkPost R r w panicE w' := by subst hr; exact ⟨rfl, t, h⟩
theorem BkPost.done {R : Nat} {r : Option (Bk × Bs)} {w w' : World} {t : Bs} {b : Bk} {v : Value} (hr : r = some (b, t)) (hv : BookIn w.heap.size w' v b) (h : Rw R t w w') : BkPost R r w (.returned v) w' := by subst hr; exact ⟨⟨v, rfl, hv⟩, h⟩

theorem elemIt : ∃ i, Tryd.prog.info? 91 = some i ∧ i.zero = some (.agg #[.int .i64 0, .int .i64 0, .int .i64 0, .int .i64 0, .int .i64 0, .int .i64 0, .slice none 0 0]) ∧ i.size = 7 ∧ i.bytes = 72 := elemOf (by kernel_rfl)
theorem undIts : Tryd.prog.underlying 62 = some (.slice 91) := by kernel_rfl

/-- The state of the reading of a formula. -/
structure RdB (w W : World) (R : Nat) (u : Bs) (v : Value) (ys : List (Itm × Value)) : Prop where
  b0 : W.heap[w.heap.size]? = some (.cells #[.int .i64 0, .slice none 0 0] 24)
  rd : Rd W R u
  only : OnlyIn (fun k => k = R) w W
  lt : R < w.heap.size
  row : W.ownsRow w.heap.size 91 7 v ys.length (itCells ys)
  chs : ∀ y ∈ ys, ChsIn (w.heap.size + 1) W y.2 y.1.chs
  ok : ∀ y ∈ ys, ItRead y.1
theorem RdB.call {w W W' : World} {R : Nat} {u t : Bs} {v : Value} {ys : List (Itm × Value)} (h : RdB w W R u v ys) (k : Rw R t W W') : RdB w W' R t v ys :=
  ⟨k.block h.b0 (by have := h.lt; omega), k.rd, h.only.trans k.only, h.lt, row_only h.row k.only (fun j e => by have := h.lt; omega), fun y hy => (h.chs y hy).only k.only (fun j e => by have := h.lt; omega), h.ok⟩
theorem RdB.same {w W W' : World} {R : Nat} {u : Bs} {v : Value} {ys : List (Itm × Value)} (h : RdB w W R u v ys) (k : Below W.heap.size W W') : RdB w W' R u v ys :=
  ⟨blk_later k h.b0, blk_later k h.rd, h.only.trans (OnlyIn.of_below k), h.lt, row_later h.row k, fun y hy => (h.chs y hy).only (OnlyIn.of_below (X := fun _ => False) k) (fun _ h => h.elim), h.ok⟩
theorem RdB.ne {w W : World} {R : Nat} {u : Bs} {v : Value} {ys : List (Itm × Value)} (h : RdB w W R u v ys) {c : Array Value} {t : TypeId} {f : Nat × Nat} (ht : t ≠ 91) : ∀ g, v.ownBlock = some g → W.heap[g]? ≠ some (.cells c t f) := by
  intro g hg e
  rcases h.row.2 with ⟨rfl, -⟩ | ⟨g', cap, cur, rfl, hb, hgg, rest⟩
  · simp [Value.ownBlock] at hg
  · simp only [Value.ownBlock, Option.some.injEq] at hg
    subst hg
    rw [hgg] at e
    simp only [Option.some.injEq, Obj.cells.injEq] at e
    exact ht e.2.1.symm
theorem RdB.add {w W W' : World} {R : Nat} {u : Bs} {v v' : Value} {ys : List (Itm × Value)} {y : Itm × Value} (h : RdB w W R u v ys) (hy : ChsIn (w.heap.size + 1) W y.2 y.1.chs) (hok : ItRead y.1) (hr : W'.ownsRow w.heap.size 91 7 v' (ys.length + 1) (itCells ys ++ itC y)) (hg : W.grownBy W' v.ownBlock) : RdB w W' R u v' (ys ++ [y]) := by
  have hrow : ∀ g, v.ownBlock = some g → ∃ c t f, W.heap[g]? = some (.cells c t f) ∧ t ≠ 43 := fun g hg => by
    rcases h.row.2 with ⟨rfl, -⟩ | ⟨g', cap, cur, rfl, hb, hgg, rest⟩
    · simp [Value.ownBlock] at hg
    · simp only [Value.ownBlock, Option.some.injEq] at hg
      subst hg
      exact ⟨_, _, _, hgg, by decide⟩
  refine ⟨(hg.block _ (blk_lt h.b0) (fun e => h.ne (by decide) _ e.symm h.b0)).trans h.b0, (hg.block _ (blk_lt h.rd) (fun e => h.ne (by decide) _ e.symm h.rd)).trans h.rd, ?_, h.lt, by rw [List.length_append]; simpa [itCells] using hr, fun z hz => ?_, fun z hz => ?_⟩
  · refine h.only.fresh ⟨hg.os, hg.tape, hg.output, hg.size, fun j hj hx => hg.block j hj (fun e => ?_)⟩
    have := (h.row.lt j e.symm).1
    exact hx this
  · rcases List.mem_append.1 hz with hz | hz
    · exact (h.chs z hz).grown hg hrow
    · simp only [List.mem_singleton] at hz; subst hz; exact hy.grown hg hrow
  · rcases List.mem_append.1 hz with hz | hz
    · exact h.ok z hz
    · simp only [List.mem_singleton] at hz; subst hz; exact hok
theorem RdB.rw {w W : World} {R : Nat} {u : Bs} {v : Value} {ys : List (Itm × Value)} (h : RdB w W R u v ys) : Rw R u w W := ⟨h.rd, h.only⟩
theorem itC_one (y : Itm × Value) (h : ∃ a n c, y.2 = .slice a n c) : ∀ u ∈ itC y, u.oneCell' = true := by
  obtain ⟨a, n, c, h⟩ := h
  intro u hu
  simp only [itC, List.mem_cons, List.not_mem_nil, or_false] at hu
  rcases hu with rfl | rfl | rfl | rfl | rfl | rfl | rfl <;> first | rfl | (rw [h]; rfl)

set_option maxRecDepth 100000 in
set_option maxHeartbeats 8000000 in
theorem readBook_any (R : Nat) (s : Bs) (w : World) (hr : Rd w R s) (hs : s.length ≤ 1000) :
    Calls Tryd.prog 19 #[.pointer (some ⟨R, 0, none⟩)] w (BkPost R (bookF s) w) := by
  have hR := blk_lt hr
  have H0 : Hid (RdB w (w.alloc (.cells #[.int .i64 0, .slice none 0 0] 24)) R s (.slice none 0 0) []) :=
    ⟨heap_alloc_at _ _ _ rfl, (heap_alloc_past _ _ _ hR).trans hr, OnlyIn.alloc _ _ _, hR, World.ownsRow_nil _ _ _ _, fun y hy => (by cases hy), fun y hy => (by cases hy)⟩
  clear hr hR
  go_enter Tryd.func19, Tryd.ntmps19
  go_wp2_with fail
  go_loopg [3] s.length (fun g v wr => ∃ (ys : List (Itm × Value)) (u : Bs), u.length = g ∧ ys.length + u.length ≤ s.length ∧ Hid (itemsF (s.length + 1) s = (itemsF (u.length + 1) u).map fun r => (ys.map (·.1) ++ r.1, r.2)) ∧ Hid (RdB w wr R u v ys))
  case atStart => exact ⟨[], s, rfl, by simp, (by show _ = _; cases itemsF (s.length + 1) s <;> rfl), H0⟩
  case round =>
    obtain ⟨ys, u, hu, hyl, HF, HB⟩ := hrel
    clear H0
    cases hs1 : skipF [36] u with
    | some t =>
      have hl := skipF_len hs1
      have hI : Hid (itemsF (s.length + 1) s = some (ys.map (·.1), t)) := by
        show _ = _
        rw [HF.out]
        simp [itemsF, hs1]
      go_wp2_with fail
      refine (skip_yes R u [36] t _ HB.out.rd hs1).mono ?_
      rintro e w1 ⟨rfl, hw⟩
      have HB := Lib.hid (HB.out.call hw)
      clear hw hs1 HF
      go_wp2_with fail
      refine (number_any R t _ HB.out.rd).mono ?_
      intro e w2 hp
      cases hl : numberF t with
      | none =>
        rw [hl] at hp
        obtain ⟨rfl, t', hw⟩ := hp
        have hF : Hid (bookF s = none) := by show _ = _; simp [bookF, hI.out, hl]
        have HB := Lib.hid (HB.out.call hw)
        clear hw hl
        go_wp2_with fail
        exact ⟨rfl, BkPost.fail hF.out HB.out.rw⟩
      | some p =>
        obtain ⟨n, t2⟩ := p
        rw [hl] at hp
        obtain ⟨rfl, hw⟩ := hp
        have hF : Hid (bookF s = some (⟨n, gsOf (ys.map (·.1))⟩, t2)) := by show _ = _; simp [bookF, hI.out, hl]
        have HB := Lib.hid (HB.out.call hw)
        clear hw hl
        go_wp2_with fail
        refine (gatheringsOf_any (ChsIn (w.heap.size + 1) w2) ⟨none, 0, rfl, fun h => absurd rfl h⟩ (fun v cs h => by obtain ⟨a, cap, rfl, -⟩ := h; exact ⟨a, cap, rfl⟩) ys _ _ (ItsAt.of_row HB.out.row) HB.out.chs HB.out.ok (by omega)).mono ?_
        rintro e w3 ⟨⟨v', zs, rfl, hzs, hrow, hch⟩, hb⟩
        obtain ⟨av, nv, cv, rfl⟩ : ∃ a n c, v' = .slice a n c := by
          rcases hrow.2 with ⟨rfl, -⟩ | ⟨g', cap, cur, rfl, -⟩
          · exact ⟨_, _, _, rfl⟩
          · exact ⟨_, _, _, rfl⟩
        have hsz := blk_lt HB.out.b0
        have HG : Hid (GsIn (w.heap.size + 1) w3 (.slice av nv cv) (gsOf (ys.map (·.1)))) := ⟨zs, hzs, row_mono hrow hsz, fun z hz => (hch z hz).only (OnlyIn.of_below (X := fun _ => False) hb) (fun _ h => h.elim)⟩
        have HB := Lib.hid (HB.out.same hb)
        clear hb hzs hrow hch
        have z0 := blk_cell HB.out.b0 0; have z1 := blk_cell HB.out.b0 1
        have y0 := blk_free HB.out.b0 0; have y1 := blk_free HB.out.b0 1
        go_wp2_with fail
        refine bodyPost_ret (v := .agg #[.int .i64 n, .slice av nv cv]) (by simp [results, Tryd.results19, go_sem, z0, z1]) rfl ?_
        have hO := (OnlyIn.setCell (X := fun k => k = w.heap.size) w3 ⟨w.heap.size, 0, none⟩ (.int .i64 n) rfl).trans (OnlyIn.setCell _ ⟨w.heap.size, 1, none⟩ (.slice av nv cv) rfl)
        exact BkPost.done hF.out ⟨_, rfl, (HG.out.only hO (fun k h => by omega)).mono (by omega)⟩ ⟨(by exact (heap_setCell_past _ _ _ _ (by have := HB.out.lt; simp; omega)).trans ((heap_setCell_past _ _ _ _ (by have := HB.out.lt; simp; omega)).trans HB.out.rd)), (HB.out.only.setNew _ _ (by simp)).setNew _ _ (by simp)⟩
    | none =>
      go_wp2_with fail
      refine (skip_no R u [36] _ HB.out.rd hs1).mono ?_
      rintro e w1 ⟨rfl, hw⟩
      have HB := Lib.hid (HB.out.call hw)
      have HS1 := Lib.hid hs1
      clear hw hs1
      go_wp2_with fail
      refine (item_any R u _ HB.out.rd).mono ?_
      intro e w2 hp
      cases hl : itemF u with
      | none =>
        rw [hl] at hp
        obtain ⟨rfl, t', hw⟩ := hp
        have hF : Hid (bookF s = none) := by show _ = _; unfold bookF; rw [HF.out]; simp [itemsF, HS1.out, hl]
        have HB := Lib.hid (HB.out.call hw)
        clear hw hl
        go_wp2_with fail
        exact ⟨rfl, BkPost.fail hF.out HB.out.rw⟩
      | some p =>
        obtain ⟨x, t⟩ := p
        rw [hl] at hp
        obtain ⟨⟨cv, rfl, hcv⟩, hw⟩ := hp
        obtain ⟨hlt, hok⟩ := itemF_len hl
        have HL := Lib.hid hl
        have hz1 := blk_lt HB.out.b0
        have HC := Lib.hid (hcv.mono (show w.heap.size + 1 ≤ w1.heap.size by omega))
        have HK := Lib.hid hok
        obtain ⟨ac, nc, cc, rfl⟩ : ∃ a n c, cv = .slice a n c := by obtain ⟨a, cap, rfl, -⟩ := hcv; exact ⟨_, _, _, rfl⟩
        have HB := Lib.hid (HB.out.call hw)
        have hz := HB.out.only.size
        obtain ⟨ei, hi1, hi2, hi3, hi4⟩ := elemIt
        obtain ⟨xk, xfr, xfl, xlr, xll, xlv, xch⟩ := x
        dsimp only [itmV]
        clear hw hl hcv hok
        go_wp2_with (at_builtin; refine wpList_append_own _ rfl _ _ 62 rfl w.heap.size 91 ei _ 7 72 undIts hi1 hi2 hi3 hi4 rfl (by decide) _ ys.length (itCells ys) rfl ((HB.out.row.alloc _).alloc _) ⟨_, 0, none⟩ 1 1 (itC (⟨xk, xfr, xfl, xlr, xll, xlv, xch⟩, .slice ac nc cc)) rfl rfl ?c1 ?c2 ?c3 ?c4 ?c5 ?c6)
        case c1 => intro j u h; exact h
        case c2 => exact itC_one _ ⟨_, _, _, rfl⟩
        case c3 => simp only [maxLen]; omega
        case c4 => omega
        case c5 => omega
        case c6 =>
          rintro v' w' hown hgrow -
          have HB2 := Lib.hid ((HB.out.same (by exact (by repeat (first | exact Below.refl _ _ | assumption | (refine Below.alloc ?_ ?_ _; rotate_left; · (first | omega | (simp; done) | (simp; omega) | fail)) | (refine Below.setCell ?_ ?_ _; rotate_left; · (first | omega | (simp; done) | (simp; omega) | fail)) | refine Below.drew ?_ | fail)))).add (y := (⟨xk, xfr, xfl, xlr, xll, xlv, xch⟩, .slice ac nc cc)) (HC.out.only (OnlyIn.of_below (X := fun _ => False) (by exact (by repeat (first | exact Below.refl _ _ | assumption | (refine Below.alloc ?_ ?_ _; rotate_left; · (first | omega | (simp; done) | (simp; omega) | fail)) | (refine Below.setCell ?_ ?_ _; rotate_left; · (first | omega | (simp; done) | (simp; omega) | fail)) | refine Below.drew ?_ | fail)))) (fun _ h => h.elim)) HK.out hown hgrow)
          clear hown hgrow HB
          cases hs2 : skipF [32] t with
          | none =>
            have hF : Hid (bookF s = none) := by show _ = _; unfold bookF; rw [HF.out]; simp [itemsF, HS1.out, HL.out, hs2]
            go_wp2_with fail
            refine (must_no R t [32] _ HB2.out.rd hs2).mono ?_
            rintro e w4 ⟨rfl, hw⟩
            have HB := Lib.hid (HB2.out.call hw)
            clear hw hs2
            go_wp2_with fail
            exact ⟨rfl, BkPost.fail hF.out HB.out.rw⟩
          | some t2 =>
            have hl2 := skipF_len hs2
            simp only [List.length_cons, List.length_nil] at hl2
            have hF : Hid (itemsF (s.length + 1) s = (itemsF (t2.length + 1) t2).map fun r => ((ys ++ [((⟨xk, xfr, xfl, xlr, xll, xlv, xch⟩ : Itm), Value.slice ac nc cc)]).map (·.1) ++ r.1, r.2)) := by
              show _ = _
              rw [HF.out, itemsF_step HS1.out HL.out hs2]
              have e := itemsF_more (f := t2.length + 1) (s := t2) (u.length - (t2.length + 1)) (by omega)
              rw [show t2.length + 1 + (u.length - (t2.length + 1)) = u.length by omega] at e
              rw [e, Option.map_map]
              congr 1
              funext r
              simp
            go_wp2_with fail
            refine (must_yes R t [32] t2 _ HB2.out.rd hs2).mono ?_
            rintro e w4 ⟨rfl, hw⟩
            have HB := Lib.hid (HB2.out.call hw)
            clear hw hs2
            go_wp2_with fail
            go_roundg t2.length
            case measure => omega
            case rel => exact ⟨_, t2, rfl, (by rw [List.length_append, List.length_singleton]; omega), hF, HB⟩

end Go.Proofs.YtlekbddlemfokaaDoor
