/- The parts Ro, Rp, Rl of the proof, joined. It holds without conditions of its own. -/
import Derived.Test.YtimdmgkegdlafaaGreatDoorCH21
import Derived.Defers
import Derived.Recover
import Derived.Test.YtimdmgkegdlafaaGreatDoorCH19
import Derived.Test.YtimdmgkegdlafaaGreatDoorCH9
/- Contract of the reader: a formula. -/
namespace Go.Proofs.YtimdmgkegdlafaaGreatDoor
set_option linter.unusedSimpArgs false
set_option linter.unusedVariables false
open Go Go.RowKit Go.Sort Go.BigFrame

/-- Gatherings in new blocks. -/
def GsIn (lo : Nat) (W : World) (v : Value) (gs : List Gth) : Prop :=
  ∃ zs : List (Gth × Value), zs.map (·.1) = gs ∧ W.ownsRow lo 42 4 v zs.length (gtCells zs) ∧ ∀ z ∈ zs, ChsIn lo W z.2 z.1.chs
theorem GsIn.at_ {lo : Nat} {W : World} {v : Value} {gs : List Gth} (h : GsIn lo W v gs) : GsAt W.heap.size W v gs := by
  obtain ⟨zs, rfl, hr, hc⟩ := h
  exact GsAt.of_row hr fun z hz => (hc z hz).at_
theorem row_only {W W' : World} {X : Nat → Prop} {base : Nat} {e : TypeId} {size k : Nat} {v : Value} {xs : List Value} (h : W.ownsRow base e size v k xs) (ho : OnlyIn X W W') (hX : ∀ j, X j → j < base) : W'.ownsRow base e size v k xs := by
  refine ⟨h.1, h.2.imp id fun ⟨g, cap, cur, he, hb, hg, rest⟩ => ⟨g, cap, cur, he, hb, ?_, rest⟩⟩
  exact (ho.block g (blk_lt hg) (fun hx => by have := hX _ hx; omega)).trans hg
theorem GsIn.only {lo : Nat} {W W' : World} {v : Value} {gs : List Gth} {X : Nat → Prop} (h : GsIn lo W v gs) (ho : OnlyIn X W W') (hX : ∀ k, X k → k < lo) : GsIn lo W' v gs := by
  obtain ⟨zs, h1, hr, hc⟩ := h
  exact ⟨zs, h1, row_only hr ho hX, fun z hz => (hc z hz).only ho hX⟩
theorem GsIn.mono {lo lo' : Nat} {W : World} {v : Value} {gs : List Gth} (h : GsIn lo W v gs) (hl : lo' ≤ lo) : GsIn lo' W v gs := by
  obtain ⟨zs, h1, hr, hc⟩ := h
  exact ⟨zs, h1, row_mono hr hl, fun z hz => (hc z hz).mono hl⟩
/-- A book in new blocks. -/
def BookIn (lo : Nat) (W : World) (v : Value) (b : Bk) : Prop := ∃ sv, v = .agg #[.int .i64 b.signed, sv] ∧ GsIn lo W sv b.gs
theorem BookIn.at_ {lo : Nat} {W : World} {v : Value} {b : Bk} (h : BookIn lo W v b) : BookAt W.heap.size W v b := by
  obtain ⟨sv, rfl, h⟩ := h
  exact ⟨sv, rfl, h.at_⟩
def BkPost (R : Nat) (r : Option (Bk × Bs)) (w : World) (e : Ending) (w' : World) : Prop := match r with
  | some (b, t) => (∃ v, e = .returned v ∧ BookIn w.heap.size w' v b) ∧ Rw R t w w'
  | none => e = panicE ∧ ∃ t, Rw R t w w'
theorem BkPost.fail {R : Nat} {r : Option (Bk × Bs)} {w w' : World} {t : Bs} (hr : r = none) (h : Rw R t w w') : BkPost R r w panicE w' := by subst hr; exact ⟨rfl, t, h⟩
theorem BkPost.done {R : Nat} {r : Option (Bk × Bs)} {w w' : World} {t : Bs} {b : Bk} {v : Value} (hr : r = some (b, t)) (hv : BookIn w.heap.size w' v b) (h : Rw R t w w') : BkPost R r w (.returned v) w' := by subst hr; exact ⟨⟨v, rfl, hv⟩, h⟩

theorem elemIt : ∃ i, Tryz.prog.info? 102 = some i ∧ i.zero = some (.agg #[.int .i64 0, .int .i64 0, .int .i64 0, .int .i64 0, .int .i64 0, .int .i64 0, .slice none 0 0]) ∧ i.size = 7 ∧ i.bytes = 72 := elemOf (by kernel_rfl)
theorem undIts : Tryz.prog.underlying 61 = some (.slice 102) := by kernel_rfl

/-- The state of the reading of a formula. -/
structure RdB (w W : World) (R : Nat) (u : Bs) (v : Value) (ys : List (Itm × Value)) : Prop where
  b0 : W.heap[w.heap.size]? = some (.cells #[.int .i64 0, .slice none 0 0] 24)
  rd : Rd W R u
  only : OnlyIn (fun k => k = R) w W
  lt : R < w.heap.size
  row : W.ownsRow w.heap.size 102 7 v ys.length (itCells ys)
  chs : ∀ y ∈ ys, ChsIn (w.heap.size + 1) W y.2 y.1.chs
  ok : ∀ y ∈ ys, ItRead y.1
theorem RdB.call {w W W' : World} {R : Nat} {u t : Bs} {v : Value} {ys : List (Itm × Value)} (h : RdB w W R u v ys) (k : Rw R t W W') : RdB w W' R t v ys :=
  ⟨k.block h.b0 (by have := h.lt; omega), k.rd, h.only.trans k.only, h.lt, row_only h.row k.only (fun j e => by have := h.lt; omega), fun y hy => (h.chs y hy).only k.only (fun j e => by have := h.lt; omega), h.ok⟩
theorem RdB.same {w W W' : World} {R : Nat} {u : Bs} {v : Value} {ys : List (Itm × Value)} (h : RdB w W R u v ys) (k : Below W.heap.size W W') : RdB w W' R u v ys :=
  ⟨blk_later k h.b0, blk_later k h.rd, h.only.trans (OnlyIn.of_below k), h.lt, row_later h.row k, fun y hy => (h.chs y hy).only (OnlyIn.of_below (X := fun _ => False) k) (fun _ h => h.elim), h.ok⟩
theorem RdB.ne {w W : World} {R : Nat} {u : Bs} {v : Value} {ys : List (Itm × Value)} (h : RdB w W R u v ys) {c : Array Value} {t : TypeId} {f : Nat × Nat} (ht : t ≠ 102) : ∀ g, v.ownBlock = some g → W.heap[g]? ≠ some (.cells c t f) := by
  intro g hg e
  rcases h.row.2 with ⟨rfl, -⟩ | ⟨g', cap, cur, rfl, hb, hgg, rest⟩
  · simp [Value.ownBlock] at hg
  · simp only [Value.ownBlock, Option.some.injEq] at hg
    subst hg
    rw [hgg] at e
    simp only [Option.some.injEq, Obj.cells.injEq] at e
    exact ht e.2.1.symm
theorem RdB.add {w W W' : World} {R : Nat} {u : Bs} {v v' : Value} {ys : List (Itm × Value)} {y : Itm × Value} (h : RdB w W R u v ys) (hy : ChsIn (w.heap.size + 1) W y.2 y.1.chs) (hok : ItRead y.1) (hr : W'.ownsRow w.heap.size 102 7 v' (ys.length + 1) (itCells ys ++ itC y)) (hg : W.grownBy W' v.ownBlock) : RdB w W' R u v' (ys ++ [y]) := by
  have hrow : ∀ g, v.ownBlock = some g → ∃ c t f, W.heap[g]? = some (.cells c t f) ∧ t ≠ 44 := fun g hg => by
    rcases h.row.2 with ⟨rfl, -⟩ | ⟨g', cap, cur, rfl, hb, hgg, rest⟩
    · simp [Value.ownBlock] at hg
    · simp only [Value.ownBlock, Option.some.injEq] at hg
      subst hg
      exact ⟨_, _, _, hgg, by decide⟩
  refine ⟨(hg.block _ (blk_lt h.b0) (fun e => h.ne (by decide) _ e.symm h.b0)).trans h.b0, (hg.block _ (blk_lt h.rd) (fun e => h.ne (by decide) _ e.symm h.rd)).trans h.rd, ?_, h.lt, by rw [List.length_append]; simpa [itCells] using hr, fun z hz => ?_, fun z hz => ?_⟩
  · refine h.only.fresh ⟨hg.os, hg.tape, hg.output, hg.size, fun j hj hx => hg.block j hj (fun e => ?_)⟩
    have := (h.row.lt j e.symm).1
    exact hx this
  · rcases List.mem_append.1 hz with hz | hz
    · exact (h.chs z hz).grown hg hrow
    · simp only [List.mem_singleton] at hz; subst hz; exact hy.grown hg hrow
  · rcases List.mem_append.1 hz with hz | hz
    · exact h.ok z hz
    · simp only [List.mem_singleton] at hz; subst hz; exact hok
theorem RdB.rw {w W : World} {R : Nat} {u : Bs} {v : Value} {ys : List (Itm × Value)} (h : RdB w W R u v ys) : Rw R u w W := ⟨h.rd, h.only⟩
theorem itC_one (y : Itm × Value) (h : ∃ a n c, y.2 = .slice a n c) : ∀ u ∈ itC y, u.oneCell' = true := by
  obtain ⟨a, n, c, h⟩ := h
  intro u hu
  simp only [itC, List.mem_cons, List.not_mem_nil, or_false] at hu
  rcases hu with rfl | rfl | rfl | rfl | rfl | rfl | rfl <;> first | rfl | (rw [h]; rfl)

set_option maxRecDepth 100000 in
set_option maxHeartbeats 8000000 in
theorem readBook_any (R : Nat) (s : Bs) (w : World) (hr : Rd w R s) (hs : s.length ≤ 1000) :
    Calls Tryz.prog 28 #[.pointer (some ⟨R, 0, none⟩)] w (BkPost R (bookF s) w) := by
  have hR := blk_lt hr
  have H0 : Hid (RdB w (w.alloc (.cells #[.int .i64 0, .slice none 0 0] 24)) R s (.slice none 0 0) []) :=
    ⟨heap_alloc_at _ _ _ rfl, (heap_alloc_past _ _ _ hR).trans hr, OnlyIn.alloc _ _ _, hR, World.ownsRow_nil _ _ _ _, fun y hy => (by cases hy), fun y hy => (by cases hy)⟩
  clear hr hR
  go_enter Tryz.func28, Tryz.ntmps28
  go_wp2_with fail
  go_loopg [3] s.length (fun g v wr => ∃ (ys : List (Itm × Value)) (u : Bs), u.length = g ∧ ys.length + u.length ≤ s.length ∧ Hid (itemsF (s.length + 1) s = (itemsF (u.length + 1) u).map fun r => (ys.map (·.1) ++ r.1, r.2)) ∧ Hid (RdB w wr R u v ys))
  case atStart => exact ⟨[], s, rfl, by simp, (by show _ = _; cases itemsF (s.length + 1) s <;> rfl), H0⟩
  case round =>
    obtain ⟨ys, u, hu, hyl, HF, HB⟩ := hrel
    clear H0
    cases hs1 : skipF [36] u with
    | some t =>
      have hl := skipF_len hs1
      have hI : Hid (itemsF (s.length + 1) s = some (ys.map (·.1), t)) := by
        show _ = _
        rw [HF.out]
        simp [itemsF, hs1]
      go_wp2_with fail
      refine (skip_yes R u [36] t _ HB.out.rd hs1).mono ?_
      rintro e w1 ⟨rfl, hw⟩
      have HB := Lib.hid (HB.out.call hw)
      clear hw hs1 HF
      go_wp2_with fail
      refine (number_any R t _ HB.out.rd).mono ?_
      intro e w2 hp
      cases hl : numberF t with
      | none =>
        rw [hl] at hp
        obtain ⟨rfl, t', hw⟩ := hp
        have hF : Hid (bookF s = none) := by show _ = _; simp [bookF, hI.out, hl]
        have HB := Lib.hid (HB.out.call hw)
        clear hw hl
        go_wp2_with fail
        exact ⟨rfl, BkPost.fail hF.out HB.out.rw⟩
      | some p =>
        obtain ⟨n, t2⟩ := p
        rw [hl] at hp
        obtain ⟨rfl, hw⟩ := hp
        have hF : Hid (bookF s = some (⟨n, gsOf (ys.map (·.1))⟩, t2)) := by show _ = _; simp [bookF, hI.out, hl]
        have HB := Lib.hid (HB.out.call hw)
        clear hw hl
        go_wp2_with fail
        refine (gatheringsOf_any (ChsIn (w.heap.size + 1) w2) ⟨none, 0, rfl, fun h => absurd rfl h⟩ (fun v cs h => by obtain ⟨a, cap, rfl, -⟩ := h; exact ⟨a, cap, rfl⟩) ys _ _ (ItsAt.of_row HB.out.row) HB.out.chs HB.out.ok (by omega)).mono ?_
        rintro e w3 ⟨⟨v', zs, rfl, hzs, hrow, hch⟩, hb⟩
        obtain ⟨av, nv, cv, rfl⟩ : ∃ a n c, v' = .slice a n c := by
          rcases hrow.2 with ⟨rfl, -⟩ | ⟨g', cap, cur, rfl, -⟩
          · exact ⟨_, _, _, rfl⟩
          · exact ⟨_, _, _, rfl⟩
        have hsz := blk_lt HB.out.b0
        have HG : Hid (GsIn (w.heap.size + 1) w3 (.slice av nv cv) (gsOf (ys.map (·.1)))) := ⟨zs, hzs, row_mono hrow hsz, fun z hz => (hch z hz).only (OnlyIn.of_below (X := fun _ => False) hb) (fun _ h => h.elim)⟩
        have HB := Lib.hid (HB.out.same hb)
        clear hb hzs hrow hch
        have z0 := blk_cell HB.out.b0 0; have z1 := blk_cell HB.out.b0 1
        have y0 := blk_free HB.out.b0 0; have y1 := blk_free HB.out.b0 1
        go_wp2_with fail
        refine bodyPost_ret (v := .agg #[.int .i64 n, .slice av nv cv]) (by simp [results, Tryz.results28, go_sem, z0, z1]) rfl ?_
        have hO := (OnlyIn.setCell (X := fun k => k = w.heap.size) w3 ⟨w.heap.size, 0, none⟩ (.int .i64 n) rfl).trans (OnlyIn.setCell _ ⟨w.heap.size, 1, none⟩ (.slice av nv cv) rfl)
        exact BkPost.done hF.out ⟨_, rfl, (HG.out.only hO (fun k h => by omega)).mono (by omega)⟩ ⟨(by exact (heap_setCell_past _ _ _ _ (by have := HB.out.lt; simp; omega)).trans ((heap_setCell_past _ _ _ _ (by have := HB.out.lt; simp; omega)).trans HB.out.rd)), (HB.out.only.setNew _ _ (by simp)).setNew _ _ (by simp)⟩
    | none =>
      go_wp2_with fail
      refine (skip_no R u [36] _ HB.out.rd hs1).mono ?_
      rintro e w1 ⟨rfl, hw⟩
      have HB := Lib.hid (HB.out.call hw)
      have HS1 := Lib.hid hs1
      clear hw hs1
      go_wp2_with fail
      refine (item_any R u _ HB.out.rd).mono ?_
      intro e w2 hp
      cases hl : itemF u with
      | none =>
        rw [hl] at hp
        obtain ⟨rfl, t', hw⟩ := hp
        have hF : Hid (bookF s = none) := by show _ = _; unfold bookF; rw [HF.out]; simp [itemsF, HS1.out, hl]
        have HB := Lib.hid (HB.out.call hw)
        clear hw hl
        go_wp2_with fail
        exact ⟨rfl, BkPost.fail hF.out HB.out.rw⟩
      | some p =>
        obtain ⟨x, t⟩ := p
        rw [hl] at hp
        obtain ⟨⟨cv, rfl, hcv⟩, hw⟩ := hp
        obtain ⟨hlt, hok⟩ := itemF_len hl
        have HL := Lib.hid hl
        have hz1 := blk_lt HB.out.b0
        have HC := Lib.hid (hcv.mono (show w.heap.size + 1 ≤ w1.heap.size by omega))
        have HK := Lib.hid hok
        obtain ⟨ac, nc, cc, rfl⟩ : ∃ a n c, cv = .slice a n c := by obtain ⟨a, cap, rfl, -⟩ := hcv; exact ⟨_, _, _, rfl⟩
        have HB := Lib.hid (HB.out.call hw)
        have hz := HB.out.only.size
        obtain ⟨ei, hi1, hi2, hi3, hi4⟩ := elemIt
        obtain ⟨xk, xfr, xfl, xlr, xll, xlv, xch⟩ := x
        dsimp only [itmV]
        clear hw hl hcv hok
        go_wp2_with (at_builtin; refine wpList_append_own _ rfl _ _ 61 rfl w.heap.size 102 ei _ 7 72 undIts hi1 hi2 hi3 hi4 rfl (by decide) _ ys.length (itCells ys) rfl ((HB.out.row.alloc _).alloc _) ⟨_, 0, none⟩ 1 1 (itC (⟨xk, xfr, xfl, xlr, xll, xlv, xch⟩, .slice ac nc cc)) rfl rfl ?c1 ?c2 ?c3 ?c4 ?c5 ?c6)
        case c1 => intro j u h; exact h
        case c2 => exact itC_one _ ⟨_, _, _, rfl⟩
        case c3 => simp only [maxLen]; omega
        case c4 => omega
        case c5 => omega
        case c6 =>
          rintro v' w' hown hgrow -
          have HB2 := Lib.hid ((HB.out.same (by exact (by repeat (first | exact Below.refl _ _ | assumption | (refine Below.alloc ?_ ?_ _; rotate_left; · (first | omega | (simp; done) | (simp; omega) | fail)) | (refine Below.setCell ?_ ?_ _; rotate_left; · (first | omega | (simp; done) | (simp; omega) | fail)) | refine Below.drew ?_ | fail)))).add (y := (⟨xk, xfr, xfl, xlr, xll, xlv, xch⟩, .slice ac nc cc)) (HC.out.only (OnlyIn.of_below (X := fun _ => False) (by exact (by repeat (first | exact Below.refl _ _ | assumption | (refine Below.alloc ?_ ?_ _; rotate_left; · (first | omega | (simp; done) | (simp; omega) | fail)) | (refine Below.setCell ?_ ?_ _; rotate_left; · (first | omega | (simp; done) | (simp; omega) | fail)) | refine Below.drew ?_ | fail)))) (fun _ h => h.elim)) HK.out hown hgrow)
          clear hown hgrow HB
          cases hs2 : skipF [32] t with
          | none =>
            have hF : Hid (bookF s = none) := by show _ = _; unfold bookF; rw [HF.out]; simp [itemsF, HS1.out, HL.out, hs2]
            go_wp2_with fail
            refine (must_no R t [32] _ HB2.out.rd hs2).mono ?_
            rintro e w4 ⟨rfl, hw⟩
            have HB := Lib.hid (HB2.out.call hw)
            clear hw hs2
            go_wp2_with fail
            exact ⟨rfl, BkPost.fail hF.out HB.out.rw⟩
          | some t2 =>
            have hl2 := skipF_len hs2
            simp only [List.length_cons, List.length_nil] at hl2
            have hF : Hid (itemsF (s.length + 1) s = (itemsF (t2.length + 1) t2).map fun r => ((ys ++ [((⟨xk, xfr, xfl, xlr, xll, xlv, xch⟩ : Itm), Value.slice ac nc cc)]).map (·.1) ++ r.1, r.2)) := by
              show _ = _
              rw [HF.out, itemsF_step HS1.out HL.out hs2]
              have e := itemsF_more (f := t2.length + 1) (s := t2) (u.length - (t2.length + 1)) (by omega)
              rw [show t2.length + 1 + (u.length - (t2.length + 1)) = u.length by omega] at e
              rw [e, Option.map_map]
              congr 1
              funext r
              simp
            go_wp2_with fail
            refine (must_yes R t [32] t2 _ HB2.out.rd hs2).mono ?_
            rintro e w4 ⟨rfl, hw⟩
            have HB := Lib.hid (HB2.out.call hw)
            clear hw hs2
            go_wp2_with fail
            go_roundg t2.length
            case measure => omega
            case rel => exact ⟨_, t2, rfl, (by rw [List.length_append, List.length_singleton]; omega), hF, HB⟩

end Go.Proofs.YtimdmgkegdlafaaGreatDoor

/- Contracts of parse: a text is read whole, or not. -/
namespace Go.Proofs.YtimdmgkegdlafaaGreatDoor
set_option linter.unusedSimpArgs false
set_option linter.unusedVariables false
open Go Go.RowKit Go.Sort Go.BigFrame

/-- The deferred function of parse has caught a panic: both results are those of an error. -/
structure Caught (p q : Nat) (z : Array Value) (tp tq : TypeId) (w w' : World) : Prop where
  bp : w'.heap[p]? = some (.cells z tp)
  bq : w'.heap[q]? = some (.cells #[.int .i64 6] tq)
  only : OnlyIn (fun k => k = p ∨ k = q) w w'

theorem catchB_panicking (p q : Nat) (x0 x1 y0 : Value) (tp tq : TypeId) (u : TypeId) (pv : Value) (older : List PanicEntry) (w : World) (hp : w.heap[p]? = some (.cells #[x0, x1] tp)) (hq : w.heap[q]? = some (.cells #[y0] tq)) (hpq : p ≠ q) :
    CallsD Tryz.prog 56 #[.pointer (some ⟨p, 0, none⟩), .pointer (some ⟨q, 0, none⟩)] (.panicking ({ v := .iface u pv, recovered := false } :: older)) w fun e u' w' =>
      e = .returned (.tuple #[]) ∧ u' = .panicking ({ v := .iface u pv, recovered := true } :: older) ∧ Caught p q #[.int .i64 0, .slice none 0 0] tp tq w w' := by
  refine callsD_of_wpS Tryz.func56 rfl fun c₀ cs hu => ?_
  apply wpS_seq
  apply wpS_region
  simp [wpOpsS, go_sem, recoverD, hu, Tryz.ntmps56, Exit.thenS]
  refine wpS_cond (t := true) (by simp [Act.eval, Array.replicate]) ?_
  simp only [if_true]
  refine wpS_of_wp ?_
  have c0 := blk_cell hp 0; have c1 := blk_cell hp 1
  have f0 := blk_free hp 0; have f1 := blk_free hp 1
  have d0 := blk_cell hq 0
  have g0 := blk_free hq 0
  have hlp := blk_lt hp
  have hlq := blk_lt hq
  have HU := Lib.hid hu
  have HP := Lib.hid hp
  have HQ := Lib.hid hq
  clear hp hq hu
  simp only [Array.replicate_succ, Array.replicate_zero, List.push_toArray, List.append_toArray, List.nil_append, List.cons_append, List.setIfInBounds_toArray, List.set_cons_succ, List.set_cons_zero, List.push_toArray]
  go_wp2_with fail
  refine ⟨rfl, _, rfl, _, results_none rfl _ _ _, rfl, rfl, ?_, ?_, ?_⟩
  · exact (heap_alloc_past _ _ _ (by simpa using hlp)).trans ((heap_setCell_past _ _ _ _ hpq).trans (blk_set2 HP.out _ _))
  · exact (heap_alloc_past _ _ _ (by simpa using hlq)).trans (blk_set1 ((heap_setCell_past _ _ _ _ (Ne.symm hpq)).trans ((heap_setCell_past _ _ _ _ (Ne.symm hpq)).trans HQ.out)) _)
  · exact (((OnlyIn.setCell _ _ _ (Or.inl rfl)).trans (OnlyIn.setCell _ _ _ (Or.inl rfl))).trans (OnlyIn.setCell _ _ _ (Or.inr rfl))).trans (OnlyIn.alloc _ _ _)
theorem catchB_idle (p q : Nat) (w : World) :
    CallsD Tryz.prog 56 #[.pointer (some ⟨p, 0, none⟩), .pointer (some ⟨q, 0, none⟩)] .returning w fun e u' w' => e = .returned (.tuple #[]) ∧ u' = .returning ∧ w' = w := by
  refine callsD_of_wpS Tryz.func56 rfl fun c₀ cs hu => ?_
  apply wpS_seq
  apply wpS_region
  simp [wpOpsS, go_sem, recoverD, hu, Tryz.ntmps56, Exit.thenS]
  refine wpS_cond (t := false) (by simp [Act.eval, Array.replicate]) ?_
  simp only [Bool.false_eq_true, if_false]
  refine wpS_of_wp (wp_skip ?_)
  cases c₀
  simp_all [bodyPostS, results, Tryz.results56]

/-- What parse hands back of a formula. -/
def ParsedB (r : Option Bk) (w : World) (e : Ending) (w' : World) : Prop := match r with
  | some b => (∃ v, e = .returned (.tuple #[v, .int .i64 0]) ∧ BookIn w.heap.size w' v b) ∧ Below w.heap.size w w'
  | none => e = .returned (.tuple #[.agg #[.int .i64 0, .slice none 0 0], .int .i64 6]) ∧ Below w.heap.size w w'

set_option maxRecDepth 100000 in
set_option maxHeartbeats 4000000 in
theorem parseB_any (s : Bs) (w : World) (hs : s.length ≤ 1000) :
    Calls Tryz.prog 27 #[S s, .func (.func 28) #[] #[]] w (ParsedB (allF (bookF s)) w) := by
  have hmf : ∀ (fn : Fn) (first cap : Array Value) (w : World), (Instr.makeFunc fn first cap).run Tryz.prog w = .ok (.func fn first cap) w := fun _ _ _ _ => rfl
  obtain ⟨w1, hw1⟩ : ∃ w1, w1 = ((w.alloc (.cells #[.int .i64 0, .slice none 0 0] 24)).alloc (.cells #[.int .i64 0] 25)).alloc (.cells #[S s] 109) := ⟨_, rfl⟩
  go_enter_defers Tryz.func27, Tryz.ntmps27
  go_wp2_with fail
  rw [← hw1]
  have p1 : w1.heap[w.heap.size]? = some (.cells #[.int .i64 0, .slice none 0 0] 24) := by rw [hw1]; exact (by repeat (first | exact heap_alloc_at _ _ _ (by (first | omega | (simp; done) | (simp; omega) | fail)) | (refine (heap_alloc_past _ _ _ ?_).trans ?_; · (first | omega | (simp; done) | (simp; omega) | fail)) | fail))
  have q1 : w1.heap[w.heap.size + 1]? = some (.cells #[.int .i64 0] 25) := by rw [hw1]; exact (by repeat (first | exact heap_alloc_at _ _ _ (by (first | omega | (simp; done) | (simp; omega) | fail)) | (refine (heap_alloc_past _ _ _ ?_).trans ?_; · (first | omega | (simp; done) | (simp; omega) | fail)) | fail))
  have r1 : Rd w1 (w.heap.size + 1 + 1) s := by rw [hw1]; exact (by repeat (first | exact heap_alloc_at _ _ _ (by (first | omega | (simp; done) | (simp; omega) | fail)) | (refine (heap_alloc_past _ _ _ ?_).trans ?_; · (first | omega | (simp; done) | (simp; omega) | fail)) | fail))
  have hb1 : Below w.heap.size w w1 := by rw [hw1]; exact (by repeat (first | exact Below.refl _ _ | assumption | (refine Below.alloc ?_ ?_ _; rotate_left; · (first | omega | (simp; done) | (simp; omega) | fail)) | (refine Below.setCell ?_ ?_ _; rotate_left; · (first | omega | (simp; done) | (simp; omega) | fail)) | refine Below.drew ?_ | fail))
  have hz1 : w1.heap.size = w.heap.size + 3 := by rw [hw1]; simp
  have hz1a : w1.heap.size ≤ w.heap.size + 3 := by omega
  have hz1b : w.heap.size + 3 ≤ w1.heap.size := by omega
  have HP := Lib.hid p1
  have HQ := Lib.hid q1
  have HB := Lib.hid hb1
  clear hw1 p1 q1 hb1 hz1
  refine (readBook_any _ s _ r1 hs).mono ?_
  intro e w2 hp
  cases hl : bookF s with
  | none =>
    rw [hl] at hp
    obtain ⟨rfl, t', hw⟩ := hp
    have hF : Hid (allF (none : Option (Bk × Bs)) = none) := by show _ = _; rfl
    have p2 := hw.block HP.out (by omega)
    have q2 := hw.block HQ.out (by omega)
    have HB2 := Lib.hid (hw.below HB.out (by omega) (by omega))
    have HP2 := Lib.hid p2
    have HQ2 := Lib.hid q2
    clear hw hl p2 q2 r1
    go_wp2_with fail
    refine leaves_cons (f := 56) (args := #[.pointer (some ⟨w.heap.size, 0, none⟩), .pointer (some ⟨w.heap.size + 1, 0, none⟩)]) (by simp) (by simp [go_sem]) ?_
    refine (catchB_panicking _ _ _ _ _ _ _ _ _ [] _ HP2.out HQ2.out (by omega)).mono ?_
    rintro e u' w3 ⟨rfl, rfl, hc⟩
    have hbz := HB2.out.size
    have HBF := Lib.hid (hc.only.below HB2.out hbz (fun k h => by omega))
    have c0 := blk_cell hc.bp 0; have c1 := blk_cell hc.bp 1
    have d0 := blk_cell hc.bq 0
    simp [Leaves, settle, results, Tryz.results27, go_sem, c0, c1, d0]
    first
    | exact ⟨rfl, HBF.out⟩
    | (show ParsedB (allF (bookF s)) _ _ _; rw [HL.out]; exact ⟨rfl, HBF.out⟩)
  | some p =>
    obtain ⟨b, t⟩ := p
    rw [hl] at hp
    obtain ⟨⟨v, rfl, hv⟩, hw⟩ := hp
    have HL := Lib.hid hl
    have HV := Lib.hid hv
    obtain ⟨sv, rfl, hsv⟩ := hv
    obtain ⟨a, n, c, rfl⟩ : ∃ a n c, sv = .slice a n c := by
      obtain ⟨zs, -, hrow, -⟩ := hsv
      rcases hrow.2 with ⟨rfl, -⟩ | ⟨g', cap, cur, rfl, -⟩
      · exact ⟨_, _, _, rfl⟩
      · exact ⟨_, _, _, rfl⟩
    have p2 := hw.block HP.out (by omega)
    have q2 := hw.block HQ.out (by omega)
    have hR2 := hw.rd
    have HB2 := Lib.hid (hw.below HB.out (by omega) (by omega))
    have HP2 := Lib.hid p2
    have HQ2 := Lib.hid q2
    have HR2 := Lib.hid hR2
    have hz2 := hw.size
    have c0 := blk_cell p2 0; have c1 := blk_cell p2 1
    have f0 := blk_free p2 0; have f1 := blk_free p2 1
    have d0 := blk_cell q2 0
    have g0 := blk_free q2 0
    have r0 := blk_cell hR2 0
    clear hw hl p2 q2 r1 hsv hR2
    cases t with
    | nil =>
      have hF : Hid (allF (some (b, ([] : Bs))) = some b) := by show _ = _; rfl
      go_wp2_with fail
      obtain ⟨w5, hw5⟩ : ∃ w5, w5 = ((((w2.setCell ⟨w.heap.size, 0, none⟩ (.int .i64 b.signed)).setCell ⟨w.heap.size, 1, none⟩ (.slice a n c)).setCell ⟨w.heap.size, 0, none⟩ (.int .i64 b.signed)).setCell ⟨w.heap.size, 1, none⟩ (.slice a n c)).setCell ⟨w.heap.size + 1, 0, none⟩ (.int .i64 0) := ⟨_, rfl⟩
      have hO : OnlyIn (fun k => k = w.heap.size ∨ k = w.heap.size + 1) w2 w5 := by
        rw [hw5]
        exact ((((OnlyIn.setCell _ _ _ (Or.inl rfl)).trans (OnlyIn.setCell _ _ _ (Or.inl rfl))).trans (OnlyIn.setCell _ _ _ (Or.inl rfl))).trans (OnlyIn.setCell _ _ _ (Or.inl rfl))).trans (OnlyIn.setCell _ _ _ (Or.inr rfl))
      have HBF := Lib.hid (hO.below HB2.out HB2.out.size (fun k h => by omega))
      have HVF : Hid (BookIn w.heap.size w5 (.agg #[.int .i64 b.signed, .slice a n c]) b) := by
        obtain ⟨sv, he, hg⟩ := HV.out
        exact ⟨sv, he, (hg.only hO (fun k h => by omega)).mono (by omega)⟩
      have h5 : w5.heap[w.heap.size]? = some (.cells #[.int .i64 b.signed, .slice a n c] 24) := by
        rw [hw5]; exact (heap_setCell_past _ _ _ _ (by simp)).trans (blk_set2 (blk_set2 HP2.out _ _) _ _)
      have h6 : w5.heap[w.heap.size + 1]? = some (.cells #[.int .i64 0] 25) := by
        rw [hw5]; exact blk_set1 (by repeat (first | (refine (heap_setCell_past _ _ _ _ ?_).trans ?_; · (first | omega | (simp; done) | (simp; omega) | fail)) | (refine (heap_alloc_past _ _ _ ?_).trans ?_; · (first | omega | (simp; done) | (simp; omega) | fail)) | exact HQ2.out | fail)) _
      rw [← hw5]
      clear hw5 hO c0 c1 f0 f1 d0 g0 r0
      refine leaves_cons (f := 56) (args := #[.pointer (some ⟨w.heap.size, 0, none⟩), .pointer (some ⟨w.heap.size + 1, 0, none⟩)]) (by simp) (by simp [go_sem]) ?_
      refine (catchB_idle _ _ _).mono ?_
      rintro e u' w3 ⟨rfl, rfl, rfl⟩
      have c0 := blk_cell h5 0; have c1 := blk_cell h5 1
      have d0 := blk_cell h6 0
      clear h5 h6
      simp [Leaves, settle, results, Tryz.results27, go_sem, c0, c1, d0]
      show ParsedB (allF (bookF s)) _ _ _
      rw [HL.out]
      exact ⟨⟨_, rfl, HVF.out⟩, HBF.out⟩
    | cons x t =>
      have hF : Hid (allF (some (b, x :: t)) = none) := by show _ = _; rfl
      go_wp2_with fail
      refine (fail_any _ _).mono ?_
      rintro e wf ⟨rfl, rfl⟩
      have HP2 := Lib.hid (show ((w2.setCell ⟨w.heap.size, 0, none⟩ (.int .i64 b.signed)).setCell ⟨w.heap.size, 1, none⟩ (.slice a n c)).heap[w.heap.size]? = some (.cells #[.int .i64 b.signed, .slice a n c] 24) from blk_set2 HP2.out _ _)
      have HQ2 := Lib.hid (show ((w2.setCell ⟨w.heap.size, 0, none⟩ (.int .i64 b.signed)).setCell ⟨w.heap.size, 1, none⟩ (.slice a n c)).heap[w.heap.size + 1]? = some (.cells #[.int .i64 0] 25) from (by repeat (first | (refine (heap_setCell_past _ _ _ _ ?_).trans ?_; · (first | omega | (simp; done) | (simp; omega) | fail)) | (refine (heap_alloc_past _ _ _ ?_).trans ?_; · (first | omega | (simp; done) | (simp; omega) | fail)) | exact HQ2.out | fail)))
      have HB2 := Lib.hid (show Below w.heap.size w ((w2.setCell ⟨w.heap.size, 0, none⟩ (.int .i64 b.signed)).setCell ⟨w.heap.size, 1, none⟩ (.slice a n c)) from (by repeat (first | (refine Below.setCell ?_ ?_ _; rotate_left; · (first | omega | (simp; done) | (simp; omega) | fail)) | (refine Below.alloc ?_ ?_ _; rotate_left; · (first | omega | (simp; done) | (simp; omega) | fail)) | refine Below.drew ?_ | exact HB2.out | fail)))
      clear c0 c1 f0 f1 d0 g0 r0
      go_wp2_with fail
      refine leaves_cons (f := 56) (args := #[.pointer (some ⟨w.heap.size, 0, none⟩), .pointer (some ⟨w.heap.size + 1, 0, none⟩)]) (by simp) (by simp [go_sem]) ?_
      refine (catchB_panicking _ _ _ _ _ _ _ _ _ [] _ HP2.out HQ2.out (by omega)).mono ?_
      rintro e u' w3 ⟨rfl, rfl, hc⟩
      have hbz := HB2.out.size
      have HBF := Lib.hid (hc.only.below HB2.out hbz (fun k h => by omega))
      have c0 := blk_cell hc.bp 0; have c1 := blk_cell hc.bp 1
      have d0 := blk_cell hc.bq 0
      simp [Leaves, settle, results, Tryz.results27, go_sem, c0, c1, d0]
      first
      | exact ⟨rfl, HBF.out⟩
      | (show ParsedB (allF (bookF s)) _ _ _; rw [HL.out]; exact ⟨rfl, HBF.out⟩)

end Go.Proofs.YtimdmgkegdlafaaGreatDoor

/- Contracts of the reader: the name of a leaf. -/
namespace Go.Proofs.YtimdmgkegdlafaaGreatDoor
set_option linter.unusedSimpArgs false
set_option linter.unusedVariables false
open Go Go.RowKit Go.Sort Go.BigFrame

def nameV (q : Int × Int × Int × Int) : Value := .agg #[.int .i64 q.1, .int .i64 q.2.1, .int .i64 q.2.2.1, .int .i64 q.2.2.2]
-- all has been read, the box holds the name: is there such a leaf?
theorem possible_is (r l n p : Int) (b : Bool) (h : possibleB n p = b) (w : World) :
    Calls Tryz.prog 81 #[.agg #[.int .i64 r, .int .i64 l, .int .i64 n, .int .i64 p]] w fun e w' => e = .returned (.bool b) ∧ Below w.heap.size w w' := by
  subst h; exact possible_any r l n p w

set_option maxRecDepth 100000 in
set_option maxHeartbeats 8000000 in
theorem readLeaf_any (R : Nat) (s : Bs) (w : World) (hr : Rd w R s) :
    Calls Tryz.prog 44 #[.pointer (some ⟨R, 0, none⟩)] w (ReadPost R nameV (leafNameF s) w) := by
  have HX := Lib.hid (Bx.start (T := 91) (z := #[.int .i64 0, .int .i64 0, .int .i64 0, .int .i64 0]) (c := #[.int .i64 0, .int .i64 0, .int .i64 0, .int .i64 0]) hr)
  clear hr
  go_enter Tryz.func44, Tryz.ntmps44
  go_wp2_with fail
  refine (sig_any R s _ HX.out.rd).mono ?_
  intro e w1 hp
  cases hl : sigF s with
  | none =>
    rw [hl] at hp
    obtain ⟨rfl, t', hw⟩ := hp
    have hF : Hid (leafNameF s = none) := by show _ = _; simp [leafNameF, hl]
    have HX := Lib.hid (HX.out.call hw)
    clear hw hl
    go_wp2_with fail
    exact ⟨rfl, ReadPost.fail hF.out HX.out.rw⟩
  | some p =>
    obtain ⟨⟨ar, al⟩, t⟩ := p
    rw [hl] at hp
    obtain ⟨rfl, hw⟩ := hp
    dsimp only [sigV]
    have HL := Lib.hid hl
    have HX := Lib.hid (HX.out.call hw)
    clear hw hl
    have c0 := blk_cell HX.out.b1 0; have c1 := blk_cell HX.out.b1 1; have c2 := blk_cell HX.out.b1 2; have c3 := blk_cell HX.out.b1 3
    have f0 := blk_free HX.out.b1 0; have f1 := blk_free HX.out.b1 1; have f2 := blk_free HX.out.b1 2; have f3 := blk_free HX.out.b1 3
    have z0 := blk_cell HX.out.b0 0; have z1 := blk_cell HX.out.b0 1; have z2 := blk_cell HX.out.b0 2; have z3 := blk_cell HX.out.b0 3
    have y0 := blk_free HX.out.b0 0; have y1 := blk_free HX.out.b0 1; have y2 := blk_free HX.out.b0 2; have y3 := blk_free HX.out.b0 3
    go_wp2_with fail
    clear c0 c1 c2 c3 f0 f1 f2 f3 z0 z1 z2 z3 y0 y1 y2 y3
    have HX := Lib.hid ((HX.out.set1 0 (.int .i64 ar)).set1 1 (.int .i64 al))
    revert HX
    generalize (w1.setCell ⟨w.heap.size + 1, 0, none⟩ (.int .i64 ar)).setCell ⟨w.heap.size + 1, 1, none⟩ (.int .i64 al) = w2
    intro HX
    refine (number_any R t _ HX.out.rd).mono ?_
    intro e w3 hp
    cases hl : numberF t with
    | none =>
      rw [hl] at hp
      obtain ⟨rfl, t', hw⟩ := hp
      have hF : Hid (leafNameF s = none) := by show _ = _; simp [leafNameF, HL.out, hl]
      have HX := Lib.hid (HX.out.call hw)
      clear hw hl
      go_wp2_with fail
      exact ⟨rfl, ReadPost.fail hF.out HX.out.rw⟩
    | some p =>
      obtain ⟨n, u⟩ := p
      rw [hl] at hp
      obtain ⟨rfl, hw⟩ := hp
      have HN := Lib.hid hl
      have HX := Lib.hid (HX.out.call hw)
      clear hw hl
      have c0 := blk_cell HX.out.b1 0; have c1 := blk_cell HX.out.b1 1; have c2 := blk_cell HX.out.b1 2; have c3 := blk_cell HX.out.b1 3
      have f0 := blk_free HX.out.b1 0; have f1 := blk_free HX.out.b1 1; have f2 := blk_free HX.out.b1 2; have f3 := blk_free HX.out.b1 3
      have z0 := blk_cell HX.out.b0 0; have z1 := blk_cell HX.out.b0 1; have z2 := blk_cell HX.out.b0 2; have z3 := blk_cell HX.out.b0 3
      have y0 := blk_free HX.out.b0 0; have y1 := blk_free HX.out.b0 1; have y2 := blk_free HX.out.b0 2; have y3 := blk_free HX.out.b0 3
      go_wp2_with fail
      clear c0 c1 c2 c3 f0 f1 f2 f3 z0 z1 z2 z3 y0 y1 y2 y3
      have HX := Lib.hid (HX.out.set1 2 (.int .i64 n))
      revert HX
      generalize w3.setCell ⟨w.heap.size + 1, 2, none⟩ (.int .i64 n) = w4
      intro HX
      cases hs : skipF [43] u with
      | none =>
        have hG : Hid (leafNameF s = if possibleB n 0 = true then some ((ar, al, n, 0), u) else none) := by show _ = _; simp [leafNameF, HL.out, HN.out, plusF, hs]
        refine (skip_no R u [43] _ HX.out.rd hs).mono ?_
        rintro e w5 ⟨rfl, hw⟩
        have HX := Lib.hid (HX.out.call hw)
        clear hw hs
        have c0 := blk_cell HX.out.b1 0; have c1 := blk_cell HX.out.b1 1; have c2 := blk_cell HX.out.b1 2; have c3 := blk_cell HX.out.b1 3
        have f0 := blk_free HX.out.b1 0; have f1 := blk_free HX.out.b1 1; have f2 := blk_free HX.out.b1 2; have f3 := blk_free HX.out.b1 3
        have z0 := blk_cell HX.out.b0 0; have z1 := blk_cell HX.out.b0 1; have z2 := blk_cell HX.out.b0 2; have z3 := blk_cell HX.out.b0 3
        have y0 := blk_free HX.out.b0 0; have y1 := blk_free HX.out.b0 1; have y2 := blk_free HX.out.b0 2; have y3 := blk_free HX.out.b0 3
        go_wp2_with fail
        cases h1 : possibleB n 0 with
        | false =>
          have hF : Hid (leafNameF s = none) := by show _ = _; rw [hG.out, h1]; rfl
          refine (possible_is ar al n 0 false h1 _).mono ?_
          rintro e wp ⟨rfl, hb⟩
          have HX := Lib.hid (HX.out.same hb)
          clear c0 c1 c2 c3 f0 f1 f2 f3 z0 z1 z2 z3 y0 y1 y2 y3
          clear hb h1
          go_wp2_with fail
          refine (fail_any _ _).mono ?_
          rintro e wf ⟨rfl, rfl⟩
          go_wp2_with fail
          exact ⟨rfl, ReadPost.fail hF.out HX.out.rw⟩
        | true =>
          have hF : Hid (leafNameF s = some ((ar, al, n, 0), u)) := by show _ = _; rw [hG.out, h1]; rfl
          refine (possible_is ar al n 0 true h1 _).mono ?_
          rintro e wp ⟨rfl, hb⟩
          have HX := Lib.hid (HX.out.same hb)
          clear c0 c1 c2 c3 f0 f1 f2 f3 z0 z1 z2 z3 y0 y1 y2 y3
          clear hb h1
          have c0 := blk_cell HX.out.b1 0; have c1 := blk_cell HX.out.b1 1; have c2 := blk_cell HX.out.b1 2; have c3 := blk_cell HX.out.b1 3
          have f0 := blk_free HX.out.b1 0; have f1 := blk_free HX.out.b1 1; have f2 := blk_free HX.out.b1 2; have f3 := blk_free HX.out.b1 3
          have z0 := blk_cell HX.out.b0 0; have z1 := blk_cell HX.out.b0 1; have z2 := blk_cell HX.out.b0 2; have z3 := blk_cell HX.out.b0 3
          have y0 := blk_free HX.out.b0 0; have y1 := blk_free HX.out.b0 1; have y2 := blk_free HX.out.b0 2; have y3 := blk_free HX.out.b0 3
          go_wp2_with fail
          refine bodyPost_ret (v := .agg #[.int .i64 ar, .int .i64 al, .int .i64 n, .int .i64 0]) (by simp [results, Tryz.results44, go_sem, z0, z1, z2, z3]) rfl ?_
          exact ReadPost.done hF.out rfl ((((HX.out.set0 0 _).set0 1 _).set0 2 _).set0 3 _).rw
      | some x =>
        have HS := Lib.hid hs
        clear hs
        refine (skip_yes R u [43] x _ HX.out.rd HS.out).mono ?_
        rintro e w5 ⟨rfl, hw⟩
        have HX := Lib.hid (HX.out.call hw)
        clear hw
        go_wp2_with fail
        refine (number_any R x _ HX.out.rd).mono ?_
        intro e w6 hp
        cases hl : numberF x with
        | none =>
          rw [hl] at hp
          obtain ⟨rfl, t', hw⟩ := hp
          have hF : Hid (leafNameF s = none) := by show _ = _; simp [leafNameF, HL.out, HN.out, plusF, HS.out, hl]
          have HX := Lib.hid (HX.out.call hw)
          clear hw hl
          go_wp2_with fail
          exact ⟨rfl, ReadPost.fail hF.out HX.out.rw⟩
        | some p =>
          obtain ⟨m, y⟩ := p
          rw [hl] at hp
          obtain ⟨rfl, hw⟩ := hp
          have HM := Lib.hid hl
          have HX := Lib.hid (HX.out.call hw)
          clear hw hl
          have c0 := blk_cell HX.out.b1 0; have c1 := blk_cell HX.out.b1 1; have c2 := blk_cell HX.out.b1 2; have c3 := blk_cell HX.out.b1 3
          have f0 := blk_free HX.out.b1 0; have f1 := blk_free HX.out.b1 1; have f2 := blk_free HX.out.b1 2; have f3 := blk_free HX.out.b1 3
          have z0 := blk_cell HX.out.b0 0; have z1 := blk_cell HX.out.b0 1; have z2 := blk_cell HX.out.b0 2; have z3 := blk_cell HX.out.b0 3
          have y0 := blk_free HX.out.b0 0; have y1 := blk_free HX.out.b0 1; have y2 := blk_free HX.out.b0 2; have y3 := blk_free HX.out.b0 3
          by_cases hm : m = 0
          · subst hm
            have hF : Hid (leafNameF s = none) := by show _ = _; simp [leafNameF, HL.out, HN.out, plusF, HS.out, HM.out]
            go_wp2_with fail
            clear c0 c1 c2 c3 f0 f1 f2 f3 z0 z1 z2 z3 y0 y1 y2 y3
            have HX := Lib.hid (HX.out.set1 3 (.int .i64 0))
            revert HX
            generalize w6.setCell ⟨w.heap.size + 1, 3, none⟩ (.int .i64 0) = w7
            intro HX
            refine (fail_any _ _).mono ?_
            rintro e wf ⟨rfl, rfl⟩
            go_wp2_with fail
            exact ⟨rfl, ReadPost.fail hF.out HX.out.rw⟩
          · have hb0 : (m == 0) = false := by simp [hm]
            have hG : Hid (leafNameF s = if possibleB n m = true then some ((ar, al, n, m), y) else none) := by show _ = _; simp [leafNameF, HL.out, HN.out, plusF, HS.out, HM.out, hm]
            clear hm
            go_wp2_with fail
            clear c0 c1 c2 c3 f0 f1 f2 f3 z0 z1 z2 z3 y0 y1 y2 y3
            have HX := Lib.hid (HX.out.set1 3 (.int .i64 m))
            revert HX
            generalize w6.setCell ⟨w.heap.size + 1, 3, none⟩ (.int .i64 m) = w7
            intro HX
            have c0 := blk_cell HX.out.b1 0; have c1 := blk_cell HX.out.b1 1; have c2 := blk_cell HX.out.b1 2; have c3 := blk_cell HX.out.b1 3
            have f0 := blk_free HX.out.b1 0; have f1 := blk_free HX.out.b1 1; have f2 := blk_free HX.out.b1 2; have f3 := blk_free HX.out.b1 3
            have z0 := blk_cell HX.out.b0 0; have z1 := blk_cell HX.out.b0 1; have z2 := blk_cell HX.out.b0 2; have z3 := blk_cell HX.out.b0 3
            have y0 := blk_free HX.out.b0 0; have y1 := blk_free HX.out.b0 1; have y2 := blk_free HX.out.b0 2; have y3 := blk_free HX.out.b0 3
            cases h1 : possibleB n m with
            | false =>
              have hF : Hid (leafNameF s = none) := by show _ = _; rw [hG.out, h1]; rfl
              refine (possible_is ar al n m false h1 _).mono ?_
              rintro e wp ⟨rfl, hb⟩
              have HX := Lib.hid (HX.out.same hb)
              clear c0 c1 c2 c3 f0 f1 f2 f3 z0 z1 z2 z3 y0 y1 y2 y3
              clear hb h1
              go_wp2_with fail
              refine (fail_any _ _).mono ?_
              rintro e wf ⟨rfl, rfl⟩
              go_wp2_with fail
              exact ⟨rfl, ReadPost.fail hF.out HX.out.rw⟩
            | true =>
              have hF : Hid (leafNameF s = some ((ar, al, n, m), y)) := by show _ = _; rw [hG.out, h1]; rfl
              refine (possible_is ar al n m true h1 _).mono ?_
              rintro e wp ⟨rfl, hb⟩
              have HX := Lib.hid (HX.out.same hb)
              clear c0 c1 c2 c3 f0 f1 f2 f3 z0 z1 z2 z3 y0 y1 y2 y3
              clear hb h1
              have c0 := blk_cell HX.out.b1 0; have c1 := blk_cell HX.out.b1 1; have c2 := blk_cell HX.out.b1 2; have c3 := blk_cell HX.out.b1 3
              have f0 := blk_free HX.out.b1 0; have f1 := blk_free HX.out.b1 1; have f2 := blk_free HX.out.b1 2; have f3 := blk_free HX.out.b1 3
              have z0 := blk_cell HX.out.b0 0; have z1 := blk_cell HX.out.b0 1; have z2 := blk_cell HX.out.b0 2; have z3 := blk_cell HX.out.b0 3
              have y0 := blk_free HX.out.b0 0; have y1 := blk_free HX.out.b0 1; have y2 := blk_free HX.out.b0 2; have y3 := blk_free HX.out.b0 3
              go_wp2_with fail
              refine bodyPost_ret (v := .agg #[.int .i64 ar, .int .i64 al, .int .i64 n, .int .i64 m]) (by simp [results, Tryz.results44, go_sem, z0, z1, z2, z3]) rfl ?_
              exact ReadPost.done hF.out rfl ((((HX.out.set0 0 _).set0 1 _).set0 2 _).set0 3 _).rw

end Go.Proofs.YtimdmgkegdlafaaGreatDoor
