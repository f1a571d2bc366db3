/- The parts Rk, Rm of the proof, joined. It holds without conditions of its own. -/
import Derived.Test.YtimdmgkegdlafaaGreatDoorCH19
/- Contracts of the reader: an item of a formula. -/
namespace Go.Proofs.YtimdmgkegdlafaaGreatDoor
set_option linter.unusedSimpArgs false
set_option linter.unusedVariables false
open Go Go.RowKit Go.Sort Go.BigFrame

def itmV (x : Itm) (cv : Value) : Value := .agg #[.int .i64 x.kind, .int .i64 x.fr, .int .i64 x.fl, .int .i64 x.lr, .int .i64 x.ll, .int .i64 x.leaves, cv]
def ItPost (R : Nat) (r : Option (Itm × Bs)) (w : World) (e : Ending) (w' : World) : Prop := match r with
  | some (x, t) => (∃ cv, e = .returned (itmV x cv) ∧ ChsIn w.heap.size w' cv x.chs) ∧ Rw R t w w'
  | none => e = panicE ∧ ∃ t, Rw R t w w'
theorem ItPost.fail {R : Nat} {r : Option (Itm × Bs)} {w w' : World} {t : Bs} (hr : r = none) (h : Rw R t w w') : ItPost R r w panicE w' := by subst hr; exact ⟨rfl, t, h⟩
theorem ItPost.done {R : Nat} {r : Option (Itm × Bs)} {w w' : World} {t : Bs} {x : Itm} {cv v : Value} (hr : r = some (x, t)) (hv : itmV x cv = v) (hc : ChsIn w.heap.size w' cv x.chs) (h : Rw R t w w') : ItPost R r w (.returned v) w' := by subst hr; exact ⟨⟨cv, by rw [hv], hc⟩, h⟩

-- the end of a call by a panic: hp of its contract is taken apart already
-- cells in the variable's box: the new world under a name
-- a signature that does not do: the reading ends
theorem let_is (r l : Int) (b : Bool) (h : decide (l < 23) = b) (w : World) : Calls Tryz.prog 74 #[.agg #[.int .i64 r, .int .i64 l]] w fun e w' => e = .returned (.bool b) ∧ Below w.heap.size w w' := by
  subst h; exact lettered_any r l w
theorem beh_is (r l r' l' : Int) (b : Bool) (h : behindB r l r' l' = b) (w : World) : Calls Tryz.prog 88 #[.agg #[.int .i64 r, .int .i64 l], .agg #[.int .i64 r', .int .i64 l']] w fun e w' => e = .returned (.bool b) ∧ Below w.heap.size w w' := by
  subst h; exact behind_any r l r' l' w
set_option maxRecDepth 100000 in
set_option maxHeartbeats 8000000 in
theorem item_any (R : Nat) (s : Bs) (w : World) (hr : Rd w R s) :
    Calls Tryz.prog 59 #[.pointer (some ⟨R, 0, none⟩)] w (ItPost R (itemF s) w) := by
  have HX := Lib.hid (Bx.start (T := 102) (z := #[.int .i64 0, .int .i64 0, .int .i64 0, .int .i64 0, .int .i64 0, .int .i64 0, .slice none 0 0]) (c := #[.int .i64 0, .int .i64 0, .int .i64 0, .int .i64 0, .int .i64 0, .int .i64 0, .slice none 0 0]) hr)
  clear hr
  go_enter Tryz.func59, Tryz.ntmps59
  go_wp2_with fail
  refine (sig_any R s _ HX.out.rd).mono ?_
  intro e w1 hp
  cases hl : sigF s with
  | none =>
    rw [hl] at hp
    obtain ⟨rfl, t', hw⟩ := hp
    have hF : Hid (itemF s = none) := by show _ = _; simp [itemF, hl]
    have HX := Lib.hid (HX.out.call hw)
    clear hw hl
    go_wp2_with fail
    exact ⟨rfl, ItPost.fail hF.out HX.out.rw⟩
  | some p =>
    obtain ⟨⟨ar, al⟩, t⟩ := p
    rw [hl] at hp
    obtain ⟨rfl, hw⟩ := hp
    dsimp only [sigV]
    have HL := Lib.hid hl
    have HX := Lib.hid (HX.out.call hw)
    have hS := Lib.hid (sigF_len hl)
    clear hw hl
    have c0 := blk_cell HX.out.b1 0; have c1 := blk_cell HX.out.b1 1; have c2 := blk_cell HX.out.b1 2; have c3 := blk_cell HX.out.b1 3; have c4 := blk_cell HX.out.b1 4; have c5 := blk_cell HX.out.b1 5; have c6 := blk_cell HX.out.b1 6
    have f0 := blk_free HX.out.b1 0; have f1 := blk_free HX.out.b1 1; have f2 := blk_free HX.out.b1 2; have f3 := blk_free HX.out.b1 3; have f4 := blk_free HX.out.b1 4; have f5 := blk_free HX.out.b1 5; have f6 := blk_free HX.out.b1 6
    have z0 := blk_cell HX.out.b0 0; have z1 := blk_cell HX.out.b0 1; have z2 := blk_cell HX.out.b0 2; have z3 := blk_cell HX.out.b0 3; have z4 := blk_cell HX.out.b0 4; have z5 := blk_cell HX.out.b0 5; have z6 := blk_cell HX.out.b0 6
    have y0 := blk_free HX.out.b0 0; have y1 := blk_free HX.out.b0 1; have y2 := blk_free HX.out.b0 2; have y3 := blk_free HX.out.b0 3; have y4 := blk_free HX.out.b0 4; have y5 := blk_free HX.out.b0 5; have y6 := blk_free HX.out.b0 6
    go_wp2_with fail
    clear c0 c1 c2 c3 c4 c5 c6; clear f0 f1 f2 f3 f4 f5 f6; clear z0 z1 z2 z3 z4 z5 z6; clear y0 y1 y2 y3 y4 y5 y6
    have HX := Lib.hid ((HX.out.set1 1 (.int .i64 ar)).set1 2 (.int .i64 al))
    revert HX
    generalize (w1.setCell ⟨w.heap.size + 1, 1, none⟩ (.int .i64 ar)).setCell ⟨w.heap.size + 1, 2, none⟩ (.int .i64 al) = w2
    intro HX
    cases hs : skipF [45] t with
    | none =>
      have HS := Lib.hid hs
      clear hs
      refine (skip_no R t [45] _ HX.out.rd HS.out).mono ?_
      rintro e w3 ⟨rfl, hw⟩
      have HX := Lib.hid (HX.out.call hw)
      clear hw
      have c0 := blk_cell HX.out.b1 0; have c1 := blk_cell HX.out.b1 1; have c2 := blk_cell HX.out.b1 2; have c3 := blk_cell HX.out.b1 3; have c4 := blk_cell HX.out.b1 4; have c5 := blk_cell HX.out.b1 5; have c6 := blk_cell HX.out.b1 6
      have f0 := blk_free HX.out.b1 0; have f1 := blk_free HX.out.b1 1; have f2 := blk_free HX.out.b1 2; have f3 := blk_free HX.out.b1 3; have f4 := blk_free HX.out.b1 4; have f5 := blk_free HX.out.b1 5; have f6 := blk_free HX.out.b1 6
      have z0 := blk_cell HX.out.b0 0; have z1 := blk_cell HX.out.b0 1; have z2 := blk_cell HX.out.b0 2; have z3 := blk_cell HX.out.b0 3; have z4 := blk_cell HX.out.b0 4; have z5 := blk_cell HX.out.b0 5; have z6 := blk_cell HX.out.b0 6
      have y0 := blk_free HX.out.b0 0; have y1 := blk_free HX.out.b0 1; have y2 := blk_free HX.out.b0 2; have y3 := blk_free HX.out.b0 3; have y4 := blk_free HX.out.b0 4; have y5 := blk_free HX.out.b0 5; have y6 := blk_free HX.out.b0 6
      go_wp2_with fail
      clear c0 c1 c2 c3 c4 c5 c6; clear f0 f1 f2 f3 f4 f5 f6; clear z0 z1 z2 z3 z4 z5 z6; clear y0 y1 y2 y3 y4 y5 y6
      have HX := Lib.hid (((HX.out.set1 0 (.int .i64 0)).set1 3 (.int .i64 ar)).set1 4 (.int .i64 al))
      revert HX
      generalize ((w3.setCell ⟨w.heap.size + 1, 0, none⟩ (.int .i64 0)).setCell ⟨w.heap.size + 1, 3, none⟩ (.int .i64 ar)).setCell ⟨w.heap.size + 1, 4, none⟩ (.int .i64 al) = w4
      intro HX
      refine (number_any R t _ HX.out.rd).mono ?_
      intro e w5 hp
      cases hl : numberF t with
      | none =>
        rw [hl] at hp
        obtain ⟨rfl, t', hw⟩ := hp
        have hF : Hid (itemF s = none) := by show _ = _; simp [itemF, HL.out, HS.out, hl]
        have HX := Lib.hid (HX.out.call hw)
        clear hw hl
        go_wp2_with fail
        exact ⟨rfl, ItPost.fail hF.out HX.out.rw⟩
      | some p =>
        obtain ⟨n, u⟩ := p
        rw [hl] at hp
        obtain ⟨rfl, hw⟩ := hp
        have HX := Lib.hid (HX.out.call hw)
        have HN := Lib.hid hl
        clear hw hl
        have c0 := blk_cell HX.out.b1 0; have c1 := blk_cell HX.out.b1 1; have c2 := blk_cell HX.out.b1 2; have c3 := blk_cell HX.out.b1 3; have c4 := blk_cell HX.out.b1 4; have c5 := blk_cell HX.out.b1 5; have c6 := blk_cell HX.out.b1 6
        have f0 := blk_free HX.out.b1 0; have f1 := blk_free HX.out.b1 1; have f2 := blk_free HX.out.b1 2; have f3 := blk_free HX.out.b1 3; have f4 := blk_free HX.out.b1 4; have f5 := blk_free HX.out.b1 5; have f6 := blk_free HX.out.b1 6
        have z0 := blk_cell HX.out.b0 0; have z1 := blk_cell HX.out.b0 1; have z2 := blk_cell HX.out.b0 2; have z3 := blk_cell HX.out.b0 3; have z4 := blk_cell HX.out.b0 4; have z5 := blk_cell HX.out.b0 5; have z6 := blk_cell HX.out.b0 6
        have y0 := blk_free HX.out.b0 0; have y1 := blk_free HX.out.b0 1; have y2 := blk_free HX.out.b0 2; have y3 := blk_free HX.out.b0 3; have y4 := blk_free HX.out.b0 4; have y5 := blk_free HX.out.b0 5; have y6 := blk_free HX.out.b0 6
        go_wp2_with fail
        clear c0 c1 c2 c3 c4 c5 c6; clear f0 f1 f2 f3 f4 f5 f6; clear z0 z1 z2 z3 z4 z5 z6; clear y0 y1 y2 y3 y4 y5 y6
        have HX := Lib.hid (HX.out.set1 5 (.int .i64 n))
        revert HX
        generalize w5.setCell ⟨w.heap.size + 1, 5, none⟩ (.int .i64 n) = w6
        intro HX
        refine (changes_any R u _ HX.out.rd).mono ?_
        intro e w7 hp
        cases hl : changesF u with
        | none =>
          rw [hl] at hp
          obtain ⟨rfl, t', hw⟩ := hp
          have hF : Hid (itemF s = none) := by show _ = _; simp [itemF, HL.out, HS.out, HN.out, hl]
          have HX := Lib.hid (HX.out.call hw)
          clear hw hl
          go_wp2_with fail
          exact ⟨rfl, ItPost.fail hF.out HX.out.rw⟩
        | some p =>
          obtain ⟨cs, v⟩ := p
          rw [hl] at hp
          obtain ⟨⟨cv, rfl, hcv⟩, hw⟩ := hp
          have hF : Hid (itemF s = some (⟨0, ar, al, ar, al, n, cs⟩, v)) := by show _ = _; simp [itemF, HL.out, HS.out, HN.out, hl]
          have hz6 := blk_lt HX.out.b1
          have HC := Lib.hid hcv
          obtain ⟨a, cap, rfl, -⟩ := hcv
          have HX := Lib.hid (HX.out.call hw)
          clear hw hl
          have c0 := blk_cell HX.out.b1 0; have c1 := blk_cell HX.out.b1 1; have c2 := blk_cell HX.out.b1 2; have c3 := blk_cell HX.out.b1 3; have c4 := blk_cell HX.out.b1 4; have c5 := blk_cell HX.out.b1 5; have c6 := blk_cell HX.out.b1 6
          have f0 := blk_free HX.out.b1 0; have f1 := blk_free HX.out.b1 1; have f2 := blk_free HX.out.b1 2; have f3 := blk_free HX.out.b1 3; have f4 := blk_free HX.out.b1 4; have f5 := blk_free HX.out.b1 5; have f6 := blk_free HX.out.b1 6
          have z0 := blk_cell HX.out.b0 0; have z1 := blk_cell HX.out.b0 1; have z2 := blk_cell HX.out.b0 2; have z3 := blk_cell HX.out.b0 3; have z4 := blk_cell HX.out.b0 4; have z5 := blk_cell HX.out.b0 5; have z6 := blk_cell HX.out.b0 6
          have y0 := blk_free HX.out.b0 0; have y1 := blk_free HX.out.b0 1; have y2 := blk_free HX.out.b0 2; have y3 := blk_free HX.out.b0 3; have y4 := blk_free HX.out.b0 4; have y5 := blk_free HX.out.b0 5; have y6 := blk_free HX.out.b0 6
          go_wp2_with fail
          refine bodyPost_ret (v := .agg #[.int .i64 0, .int .i64 ar, .int .i64 al, .int .i64 ar, .int .i64 al, .int .i64 n, .slice a cs.length cap]) (by simp [results, Tryz.results59, go_sem, z0, z1, z2, z3, z4, z5, z6]) rfl ?_
          have hX := (((((((HX.out.set1 6 (.slice a cs.length cap)).set0 0 (.int .i64 0)).set0 1 (.int .i64 ar)).set0 2 (.int .i64 al)).set0 3 (.int .i64 ar)).set0 4 (.int .i64 al)).set0 5 (.int .i64 n)).set0 6 (.slice a cs.length cap)
          have hO := (((((((OnlyIn.setCell (X := fun k => k = w.heap.size ∨ k = w.heap.size + 1) w7 ⟨w.heap.size + 1, 6, none⟩ (.slice a cs.length cap) (Or.inr rfl)).trans (OnlyIn.setCell _ ⟨w.heap.size, 0, none⟩ (.int .i64 0) (Or.inl rfl))).trans (OnlyIn.setCell _ ⟨w.heap.size, 1, none⟩ (.int .i64 ar) (Or.inl rfl))).trans
            (OnlyIn.setCell _ ⟨w.heap.size, 2, none⟩ (.int .i64 al) (Or.inl rfl))).trans (OnlyIn.setCell _ ⟨w.heap.size, 3, none⟩ (.int .i64 ar) (Or.inl rfl))).trans (OnlyIn.setCell _ ⟨w.heap.size, 4, none⟩ (.int .i64 al) (Or.inl rfl))).trans
            (OnlyIn.setCell _ ⟨w.heap.size, 5, none⟩ (.int .i64 n) (Or.inl rfl))).trans (OnlyIn.setCell _ ⟨w.heap.size, 6, none⟩ (.slice a cs.length cap) (Or.inl rfl))
          exact ItPost.done hF.out rfl ((HC.out.only hO (fun k h => by omega)).mono (by omega)) hX.rw
    | some t2 =>
      have HS := Lib.hid hs
      clear hs
      refine (skip_yes R t [45] t2 _ HX.out.rd HS.out).mono ?_
      rintro e w3 ⟨rfl, hw⟩
      have HX := Lib.hid (HX.out.call hw)
      clear hw
      have c0 := blk_cell HX.out.b1 0; have c1 := blk_cell HX.out.b1 1; have c2 := blk_cell HX.out.b1 2; have c3 := blk_cell HX.out.b1 3; have c4 := blk_cell HX.out.b1 4; have c5 := blk_cell HX.out.b1 5; have c6 := blk_cell HX.out.b1 6
      have f0 := blk_free HX.out.b1 0; have f1 := blk_free HX.out.b1 1; have f2 := blk_free HX.out.b1 2; have f3 := blk_free HX.out.b1 3; have f4 := blk_free HX.out.b1 4; have f5 := blk_free HX.out.b1 5; have f6 := blk_free HX.out.b1 6
      have z0 := blk_cell HX.out.b0 0; have z1 := blk_cell HX.out.b0 1; have z2 := blk_cell HX.out.b0 2; have z3 := blk_cell HX.out.b0 3; have z4 := blk_cell HX.out.b0 4; have z5 := blk_cell HX.out.b0 5; have z6 := blk_cell HX.out.b0 6
      have y0 := blk_free HX.out.b0 0; have y1 := blk_free HX.out.b0 1; have y2 := blk_free HX.out.b0 2; have y3 := blk_free HX.out.b0 3; have y4 := blk_free HX.out.b0 4; have y5 := blk_free HX.out.b0 5; have y6 := blk_free HX.out.b0 6
      go_wp2_with fail
      clear c0 c1 c2 c3 c4 c5 c6; clear f0 f1 f2 f3 f4 f5 f6; clear z0 z1 z2 z3 z4 z5 z6; clear y0 y1 y2 y3 y4 y5 y6
      have HX := Lib.hid (HX.out.set1 0 (.int .i64 1))
      revert HX
      generalize w3.setCell ⟨w.heap.size + 1, 0, none⟩ (.int .i64 1) = w4
      intro HX
      refine (sig_any R t2 _ HX.out.rd).mono ?_
      intro e w5 hp
      cases hl : sigF t2 with
      | none =>
        rw [hl] at hp
        obtain ⟨rfl, t', hw⟩ := hp
        have hF : Hid (itemF s = none) := by show _ = _; simp [itemF, HL.out, HS.out, hl]
        have HX := Lib.hid (HX.out.call hw)
        clear hw hl
        go_wp2_with fail
        exact ⟨rfl, ItPost.fail hF.out HX.out.rw⟩
      | some p =>
        obtain ⟨⟨zr, zl⟩, u⟩ := p
        rw [hl] at hp
        obtain ⟨rfl, hw⟩ := hp
        dsimp only [sigV]
        have HX := Lib.hid (HX.out.call hw)
        have HN := Lib.hid hl
        clear hw hl
        have c0 := blk_cell HX.out.b1 0; have c1 := blk_cell HX.out.b1 1; have c2 := blk_cell HX.out.b1 2; have c3 := blk_cell HX.out.b1 3; have c4 := blk_cell HX.out.b1 4; have c5 := blk_cell HX.out.b1 5; have c6 := blk_cell HX.out.b1 6
        have f0 := blk_free HX.out.b1 0; have f1 := blk_free HX.out.b1 1; have f2 := blk_free HX.out.b1 2; have f3 := blk_free HX.out.b1 3; have f4 := blk_free HX.out.b1 4; have f5 := blk_free HX.out.b1 5; have f6 := blk_free HX.out.b1 6
        have z0 := blk_cell HX.out.b0 0; have z1 := blk_cell HX.out.b0 1; have z2 := blk_cell HX.out.b0 2; have z3 := blk_cell HX.out.b0 3; have z4 := blk_cell HX.out.b0 4; have z5 := blk_cell HX.out.b0 5; have z6 := blk_cell HX.out.b0 6
        have y0 := blk_free HX.out.b0 0; have y1 := blk_free HX.out.b0 1; have y2 := blk_free HX.out.b0 2; have y3 := blk_free HX.out.b0 3; have y4 := blk_free HX.out.b0 4; have y5 := blk_free HX.out.b0 5; have y6 := blk_free HX.out.b0 6
        go_wp2_with fail
        clear c0 c1 c2 c3 c4 c5 c6; clear f0 f1 f2 f3 f4 f5 f6; clear z0 z1 z2 z3 z4 z5 z6; clear y0 y1 y2 y3 y4 y5 y6
        have HX := Lib.hid ((HX.out.set1 3 (.int .i64 zr)).set1 4 (.int .i64 zl))
        revert HX
        generalize (w5.setCell ⟨w.heap.size + 1, 3, none⟩ (.int .i64 zr)).setCell ⟨w.heap.size + 1, 4, none⟩ (.int .i64 zl) = w6
        intro HX
        have c0 := blk_cell HX.out.b1 0; have c1 := blk_cell HX.out.b1 1; have c2 := blk_cell HX.out.b1 2; have c3 := blk_cell HX.out.b1 3; have c4 := blk_cell HX.out.b1 4; have c5 := blk_cell HX.out.b1 5; have c6 := blk_cell HX.out.b1 6
        have f0 := blk_free HX.out.b1 0; have f1 := blk_free HX.out.b1 1; have f2 := blk_free HX.out.b1 2; have f3 := blk_free HX.out.b1 3; have f4 := blk_free HX.out.b1 4; have f5 := blk_free HX.out.b1 5; have f6 := blk_free HX.out.b1 6
        have z0 := blk_cell HX.out.b0 0; have z1 := blk_cell HX.out.b0 1; have z2 := blk_cell HX.out.b0 2; have z3 := blk_cell HX.out.b0 3; have z4 := blk_cell HX.out.b0 4; have z5 := blk_cell HX.out.b0 5; have z6 := blk_cell HX.out.b0 6
        have y0 := blk_free HX.out.b0 0; have y1 := blk_free HX.out.b0 1; have y2 := blk_free HX.out.b0 2; have y3 := blk_free HX.out.b0 3; have y4 := blk_free HX.out.b0 4; have y5 := blk_free HX.out.b0 5; have y6 := blk_free HX.out.b0 6
        cases h1 : decide (al < 23) with
        | false =>
          have hF : Hid (itemF s = none) := by
            show _ = _
            have : ¬ al < 23 := of_decide_eq_false h1
            simp only [itemF, HL.out, HS.out, HN.out]
            rw [if_neg (fun h => this h.1)]
          refine (let_is ar al false h1 _).mono ?_
          rintro e w7 ⟨rfl, hb⟩
          have HX := Lib.hid (HX.out.same hb)
          clear c0 c1 c2 c3 c4 c5 c6; clear f0 f1 f2 f3 f4 f5 f6; clear z0 z1 z2 z3 z4 z5 z6; clear y0 y1 y2 y3 y4 y5 y6
          clear hb
          go_wp2_with fail
          refine (fail_any _ _).mono ?_
          rintro e wf ⟨rfl, rfl⟩
          go_wp2_with fail
          exact ⟨rfl, ItPost.fail hF.out HX.out.rw⟩
        | true =>
          have H1 : al < 23 := of_decide_eq_true h1
          refine (let_is ar al true h1 _).mono ?_
          rintro e w7 ⟨rfl, hb⟩
          have HX := Lib.hid (HX.out.same hb)
          clear c0 c1 c2 c3 c4 c5 c6; clear f0 f1 f2 f3 f4 f5 f6; clear z0 z1 z2 z3 z4 z5 z6; clear y0 y1 y2 y3 y4 y5 y6
          clear hb h1
          have c0 := blk_cell HX.out.b1 0; have c1 := blk_cell HX.out.b1 1; have c2 := blk_cell HX.out.b1 2; have c3 := blk_cell HX.out.b1 3; have c4 := blk_cell HX.out.b1 4; have c5 := blk_cell HX.out.b1 5; have c6 := blk_cell HX.out.b1 6
          have f0 := blk_free HX.out.b1 0; have f1 := blk_free HX.out.b1 1; have f2 := blk_free HX.out.b1 2; have f3 := blk_free HX.out.b1 3; have f4 := blk_free HX.out.b1 4; have f5 := blk_free HX.out.b1 5; have f6 := blk_free HX.out.b1 6
          have z0 := blk_cell HX.out.b0 0; have z1 := blk_cell HX.out.b0 1; have z2 := blk_cell HX.out.b0 2; have z3 := blk_cell HX.out.b0 3; have z4 := blk_cell HX.out.b0 4; have z5 := blk_cell HX.out.b0 5; have z6 := blk_cell HX.out.b0 6
          have y0 := blk_free HX.out.b0 0; have y1 := blk_free HX.out.b0 1; have y2 := blk_free HX.out.b0 2; have y3 := blk_free HX.out.b0 3; have y4 := blk_free HX.out.b0 4; have y5 := blk_free HX.out.b0 5; have y6 := blk_free HX.out.b0 6
          go_wp2_with fail
          cases h2 : decide (zl < 23) with
          | false =>
            have hF : Hid (itemF s = none) := by
              show _ = _
              have : ¬ zl < 23 := of_decide_eq_false h2
              simp only [itemF, HL.out, HS.out, HN.out]
              rw [if_neg (fun h => this h.2.1)]
            refine (let_is zr zl false h2 _).mono ?_
            rintro e w8 ⟨rfl, hb⟩
            have HX := Lib.hid (HX.out.same hb)
            clear c0 c1 c2 c3 c4 c5 c6; clear f0 f1 f2 f3 f4 f5 f6; clear z0 z1 z2 z3 z4 z5 z6; clear y0 y1 y2 y3 y4 y5 y6
            clear hb
            go_wp2_with fail
            refine (fail_any _ _).mono ?_
            rintro e wf ⟨rfl, rfl⟩
            go_wp2_with fail
            exact ⟨rfl, ItPost.fail hF.out HX.out.rw⟩
          | true =>
            have H2 : zl < 23 := of_decide_eq_true h2
            refine (let_is zr zl true h2 _).mono ?_
            rintro e w8 ⟨rfl, hb⟩
            have HX := Lib.hid (HX.out.same hb)
            clear c0 c1 c2 c3 c4 c5 c6; clear f0 f1 f2 f3 f4 f5 f6; clear z0 z1 z2 z3 z4 z5 z6; clear y0 y1 y2 y3 y4 y5 y6
            clear hb h2
            have c0 := blk_cell HX.out.b1 0; have c1 := blk_cell HX.out.b1 1; have c2 := blk_cell HX.out.b1 2; have c3 := blk_cell HX.out.b1 3; have c4 := blk_cell HX.out.b1 4; have c5 := blk_cell HX.out.b1 5; have c6 := blk_cell HX.out.b1 6
            have f0 := blk_free HX.out.b1 0; have f1 := blk_free HX.out.b1 1; have f2 := blk_free HX.out.b1 2; have f3 := blk_free HX.out.b1 3; have f4 := blk_free HX.out.b1 4; have f5 := blk_free HX.out.b1 5; have f6 := blk_free HX.out.b1 6
            have z0 := blk_cell HX.out.b0 0; have z1 := blk_cell HX.out.b0 1; have z2 := blk_cell HX.out.b0 2; have z3 := blk_cell HX.out.b0 3; have z4 := blk_cell HX.out.b0 4; have z5 := blk_cell HX.out.b0 5; have z6 := blk_cell HX.out.b0 6
            have y0 := blk_free HX.out.b0 0; have y1 := blk_free HX.out.b0 1; have y2 := blk_free HX.out.b0 2; have y3 := blk_free HX.out.b0 3; have y4 := blk_free HX.out.b0 4; have y5 := blk_free HX.out.b0 5; have y6 := blk_free HX.out.b0 6
            go_wp2_with fail
            cases h3 : behindB zr zl ar al with
            | false =>
              have hF : Hid (itemF s = none) := by
                show _ = _
                simp only [itemF, HL.out, HS.out, HN.out]
                rw [if_neg (fun h => by have := h.2.2; rw [h3] at this; cases this)]
              refine (beh_is zr zl ar al false h3 _).mono ?_
              rintro e w9 ⟨rfl, hb⟩
              have HX := Lib.hid (HX.out.same hb)
              clear c0 c1 c2 c3 c4 c5 c6; clear f0 f1 f2 f3 f4 f5 f6; clear z0 z1 z2 z3 z4 z5 z6; clear y0 y1 y2 y3 y4 y5 y6
              clear hb
              go_wp2_with fail
              refine (fail_any _ _).mono ?_
              rintro e wf ⟨rfl, rfl⟩
              go_wp2_with fail
              exact ⟨rfl, ItPost.fail hF.out HX.out.rw⟩
            | true =>
              have H3 := Lib.hid h3
              refine (beh_is zr zl ar al true h3 _).mono ?_
              rintro e w9 ⟨rfl, hb⟩
              have HX := Lib.hid (HX.out.same hb)
              clear c0 c1 c2 c3 c4 c5 c6; clear f0 f1 f2 f3 f4 f5 f6; clear z0 z1 z2 z3 z4 z5 z6; clear y0 y1 y2 y3 y4 y5 y6
              clear hb h3
              go_wp2_with fail
              refine (number_any R u _ HX.out.rd).mono ?_
              intro e w10 hp
              cases hl : numberF u with
              | none =>
                rw [hl] at hp
                obtain ⟨rfl, t', hw⟩ := hp
                have hF : Hid (itemF s = none) := by
                  show _ = _
                  simp only [itemF, HL.out, HS.out, HN.out]
                  rw [if_pos ⟨H1, H2, H3.out⟩, hl]
                have HX := Lib.hid (HX.out.call hw)
                clear hw hl
                go_wp2_with fail
                exact ⟨rfl, ItPost.fail hF.out HX.out.rw⟩
              | some p =>
                obtain ⟨n, v⟩ := p
                rw [hl] at hp
                obtain ⟨rfl, hw⟩ := hp
                have hF : Hid (itemF s = some (⟨1, ar, al, zr, zl, n, []⟩, v)) := by
                  show _ = _
                  simp only [itemF, HL.out, HS.out, HN.out]
                  rw [if_pos ⟨H1, H2, H3.out⟩, hl]
                have HX := Lib.hid (HX.out.call hw)
                clear hw hl
                have c0 := blk_cell HX.out.b1 0; have c1 := blk_cell HX.out.b1 1; have c2 := blk_cell HX.out.b1 2; have c3 := blk_cell HX.out.b1 3; have c4 := blk_cell HX.out.b1 4; have c5 := blk_cell HX.out.b1 5; have c6 := blk_cell HX.out.b1 6
                have f0 := blk_free HX.out.b1 0; have f1 := blk_free HX.out.b1 1; have f2 := blk_free HX.out.b1 2; have f3 := blk_free HX.out.b1 3; have f4 := blk_free HX.out.b1 4; have f5 := blk_free HX.out.b1 5; have f6 := blk_free HX.out.b1 6
                have z0 := blk_cell HX.out.b0 0; have z1 := blk_cell HX.out.b0 1; have z2 := blk_cell HX.out.b0 2; have z3 := blk_cell HX.out.b0 3; have z4 := blk_cell HX.out.b0 4; have z5 := blk_cell HX.out.b0 5; have z6 := blk_cell HX.out.b0 6
                have y0 := blk_free HX.out.b0 0; have y1 := blk_free HX.out.b0 1; have y2 := blk_free HX.out.b0 2; have y3 := blk_free HX.out.b0 3; have y4 := blk_free HX.out.b0 4; have y5 := blk_free HX.out.b0 5; have y6 := blk_free HX.out.b0 6
                go_wp2_with fail
                refine bodyPost_ret (v := .agg #[.int .i64 1, .int .i64 ar, .int .i64 al, .int .i64 zr, .int .i64 zl, .int .i64 n, .slice none 0 0]) (by simp [results, Tryz.results59, go_sem, z0, z1, z2, z3, z4, z5, z6]) rfl ?_
                exact ItPost.done hF.out rfl ⟨none, 0, rfl, fun h => absurd rfl h⟩ ((((((((HX.out.set1 5 _).set0 0 _).set0 1 _).set0 2 _).set0 3 _).set0 4 _).set0 5 _).set0 6 _).rw

end Go.Proofs.YtimdmgkegdlafaaGreatDoor

/- The gatherings for which items stand. -/
namespace Go.Proofs.YtimdmgkegdlafaaGreatDoor
set_option linter.unusedSimpArgs false
set_option linter.unusedVariables false
open Go Go.RowKit Go.Sort Go.BigFrame

/-- A row of items with their slices of changes. -/
def itC (y : Itm × Value) : List Value := [.int .i64 y.1.kind, .int .i64 y.1.fr, .int .i64 y.1.fl, .int .i64 y.1.lr, .int .i64 y.1.ll, .int .i64 y.1.leaves, y.2]
def itCells (ys : List (Itm × Value)) : List Value := ys.flatMap itC
/-- A row of gatherings with their slices of changes. -/
def gtC (z : Gth × Value) : List Value := [.int .i64 z.1.round, .int .i64 z.1.letter, .int .i64 z.1.leaves, z.2]
def gtCells (zs : List (Gth × Value)) : List Value := zs.flatMap gtC
theorem flat_at {α : Type} {f : α → List Value} {n : Nat} (hf : ∀ x, (f x).length = n) : ∀ {xs : List α} {i : Nat} {x : α}, xs[i]? = some x → ∀ j, j < n → (xs.flatMap f)[i * n + j]? = (f x)[j]?
  | [], _, _, h, _, _ => by cases h
  | y :: xs, 0, x, h, j, hj => by
    simp only [List.getElem?_cons_zero, Option.some.injEq] at h
    subst h
    rw [List.flatMap_cons, Nat.zero_mul, Nat.zero_add, List.getElem?_append_left (by rw [hf]; exact hj)]
  | y :: xs, i + 1, x, h, j, hj => by
    rw [List.flatMap_cons, List.getElem?_append_right (by rw [hf]; rw [Nat.add_mul]; omega), hf, show (i + 1) * n + j - n = i * n + j by rw [Nat.add_mul]; omega]
    exact flat_at hf (by simpa using h) j hj

/-- A slice of items. -/
def ItsAt (W : World) (v : Value) (ys : List (Itm × Value)) : Prop :=
  ∃ (a : Option Addr) (cap : Nat), v = .slice a ys.length cap ∧ (ys ≠ [] → ∃ g, a = some ⟨g, 0, none⟩ ∧ g < W.heap.size ∧
    ∀ i y, ys[i]? = some y → W.cell? ⟨g, i * 7, none⟩ = some (.int .i64 y.1.kind) ∧ W.cell? ⟨g, i * 7 + 1, none⟩ = some (.int .i64 y.1.fr) ∧ W.cell? ⟨g, i * 7 + 2, none⟩ = some (.int .i64 y.1.fl) ∧ W.cell? ⟨g, i * 7 + 3, none⟩ = some (.int .i64 y.1.lr) ∧
      W.cell? ⟨g, i * 7 + 4, none⟩ = some (.int .i64 y.1.ll) ∧ W.cell? ⟨g, i * 7 + 5, none⟩ = some (.int .i64 y.1.leaves) ∧ W.cell? ⟨g, i * 7 + 6, none⟩ = some y.2)
theorem ItsAt.of_row {W : World} {base : Nat} {v : Value} {e : TypeId} {ys : List (Itm × Value)} (h : W.ownsRow base e 7 v ys.length (itCells ys)) : ItsAt W v ys := by
  rcases h.2 with ⟨rfl, h0⟩ | ⟨g, cap, cur, rfl, hb, hg, rest⟩
  · exact ⟨none, 0, by rw [h0], fun hne => absurd (List.length_eq_zero_iff.1 h0) hne⟩
  · refine ⟨_, cap, rfl, fun _ => ⟨g, rfl, blk_lt hg, fun i y hy => ?_⟩⟩
    have hc := h.cells (g := g) (by simp [Value.ownBlock])
    have hf := flat_at (f := itC) (n := 7) (fun _ => rfl) hy
    have q : ∀ j u, j < 7 → (itC y)[j]? = some u → W.cell? ⟨g, i * 7 + j, none⟩ = some u := fun j u hj hu => by
      have := hc _ _ ((hf j hj).trans hu)
      rwa [add_off'] at this
    exact ⟨q 0 _ (by omega) rfl, q 1 _ (by omega) rfl, q 2 _ (by omega) rfl, q 3 _ (by omega) rfl, q 4 _ (by omega) rfl, q 5 _ (by omega) rfl, q 6 _ (by omega) rfl⟩
theorem ItsAt.later {W W' : World} {v : Value} {ys : List (Itm × Value)} (h : ItsAt W v ys) (hb : Below W.heap.size W W') : ItsAt W' v ys := by
  obtain ⟨a, cap, rfl, h⟩ := h
  refine ⟨a, cap, rfl, fun hne => ?_⟩
  obtain ⟨g, rfl, hg, hc⟩ := h hne
  refine ⟨g, rfl, Nat.lt_of_lt_of_le hg hb.size, fun i y hy => ?_⟩
  obtain ⟨c0, c1, c2, c3, c4, c5, c6⟩ := hc i y hy
  have q : ∀ o v, W.cell? ⟨g, o, none⟩ = some v → W'.cell? ⟨g, o, none⟩ = some v := fun o v h => (hb.cell (p := ⟨g, o, none⟩) hg).trans h
  exact ⟨q _ _ c0, q _ _ c1, q _ _ c2, q _ _ c3, q _ _ c4, q _ _ c5, q _ _ c6⟩
/-- A row of gatherings is a slice of gatherings. -/
theorem GsAt.of_row {W : World} {base : Nat} {v : Value} {e : TypeId} {zs : List (Gth × Value)} (h : W.ownsRow base e 4 v zs.length (gtCells zs)) (hc : ∀ z ∈ zs, ChsAt W.heap.size W z.2 z.1.chs) : GsAt W.heap.size W v (zs.map (·.1)) := by
  rcases h.2 with ⟨rfl, h0⟩ | ⟨g, cap, cur, rfl, hb, hg, rest⟩
  · exact ⟨none, 0, by rw [List.length_map, h0], fun hne => absurd (List.length_eq_zero_iff.1 h0) (fun e => hne (by rw [e]; rfl))⟩
  · refine ⟨_, cap, by rw [List.length_map], fun _ => ⟨g, 0, rfl, blk_lt hg, fun i x hx => ?_⟩⟩
    obtain ⟨z, hz, rfl⟩ : ∃ z, zs[i]? = some z ∧ z.1 = x := by
      rw [List.getElem?_map] at hx
      cases hz : zs[i]? with
      | none => rw [hz] at hx; cases hx
      | some z => rw [hz] at hx; exact ⟨z, rfl, by simpa using hx⟩
    have hcl := h.cells (g := g) (by simp [Value.ownBlock])
    have hf := flat_at (f := gtC) (n := 4) (fun _ => rfl) hz
    have q : ∀ j u, j < 4 → (gtC z)[j]? = some u → W.cell? ⟨g, 0 + i * 4 + j, none⟩ = some u := fun j u hj hu => by
      have := hcl _ _ ((hf j hj).trans hu)
      rw [add_off'] at this
      rwa [Nat.zero_add]
    exact ⟨z.2, hc z (List.mem_of_getElem? hz), q 0 _ (by omega) rfl, q 1 _ (by omega) rfl, q 2 _ (by omega) rfl, q 3 _ (by omega) rfl⟩

theorem runS_stop (n : Nat) (s : Int × Int) : runS n s s = [s] := by cases n <;> simp [runS]
theorem rank_next {r l : Int} (h : l < 23) : rankS (nextS r l).1 (nextS r l).2 = rankS r l + 1 := by
  unfold nextS rankS
  split <;> dsimp only <;> omega
theorem rank_inj {r l r' l' : Int} (h : 0 ≤ l ∧ l < 23) (h' : 0 ≤ l' ∧ l' < 23) (e : rankS r l = rankS r' l') : r = r' ∧ l = l' := by
  unfold rankS at e; omega
theorem rank_behind {r l r' l' : Int} (h : 0 ≤ l ∧ l < 23) (h' : 0 ≤ l' ∧ l' < 23) (hb : behindB r l r' l' = true) : rankS r' l' < rankS r l := by
  unfold behindB at hb
  unfold rankS
  split at hb
  · subst_vars; have := of_decide_eq_true hb; omega
  · have := of_decide_eq_true hb; omega
theorem nextS_ok {r l : Int} (h : 0 ≤ l ∧ l < 23) : 0 ≤ (nextS r l).2 ∧ (nextS r l).2 < 23 ∧ r ≤ (nextS r l).1 ∧ (nextS r l).1 ≤ r + 1 := by
  unfold nextS; split <;> dsimp only <;> omega
theorem runS_len (n : Nat) (s l : Int × Int) : (runS n s l).length ≤ n + 1 := by
  induction n generalizing s with
  | zero => simp [runS]
  | succ n ih => unfold runS; split <;> simp; exact ih _
theorem itmGs_len {x : Itm} (h : ItRead x) : (itmGs x).length ≤ 69 := by
  unfold itmGs
  split
  · simp
  · rw [List.length_map]
    have := runS_len (rankS x.lr x.ll - rankS x.fr x.fl).toNat (x.fr, x.fl) (x.lr, x.ll)
    have h1 := h.first
    have h2 := h.last
    simp only [sigB, inB, Bool.and_eq_true, decide_eq_true_eq] at h1 h2
    have : (rankS x.lr x.ll - rankS x.fr x.fl).toNat ≤ 68 := by
      unfold rankS
      rcases h.kind with ⟨-, h3, h4⟩ | ⟨-, h3, h4, -⟩ <;> omega
    omega
theorem gsOf_len : ∀ {xs : List Itm}, (∀ x ∈ xs, ItRead x) → (gsOf xs).length ≤ xs.length * 69
  | [], _ => by simp [gsOf]
  | x :: xs, h => by
    have h1 := itmGs_len (h x (by simp))
    have h2 := gsOf_len (xs := xs) fun y hy => h y (by simp [hy])
    unfold gsOf at *
    simp only [List.flatMap_cons, List.length_append, List.length_cons, Nat.add_mul]
    omega

end Go.Proofs.YtimdmgkegdlafaaGreatDoor
