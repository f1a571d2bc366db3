/- The parts Rk, Rm, Rn, Ro, Rp of the proof, joined. It holds without conditions of its own. -/
import Derived.Test.YtlfglbnbenaghaaGreatDoorTX9
import Derived.Deep.LoopGhost
import Derived.Defers
import Derived.Recover
/- Contracts of the reader: an item of a formula. -/
namespace Go.Proofs.YtlfglbnbenaghaaGreatDoor
set_option linter.unusedSimpArgs false
set_option linter.unusedVariables false
open Go Go.RowKit Go.Sort Go.BigFrame

def itmV (x : Itm) (cv : Value) : Value := .agg #[.int .i64 x.kind, .int .i64 x.fr, .int .i64 x.fl, .int .i64 x.lr, .int .i64 x.ll, .int .i64 x.leaves, cv]
def ItPost (R : Nat) (r : Option (Itm × Bs)) (w : World) (e : Ending) (w' : World) : Prop := match r with
  | some (x, t) => (∃ cv, e = .returned (itmV x cv) ∧ ChsIn w.heap.size w' cv x.chs) ∧ Rw R t w w'
  | none => e = panicE ∧ ∃ t, Rw R t w w'
theorem ItPost.fail {R : Nat} {r : Option (Itm × Bs)} {w w' : World} {t : Bs} (hr : r = none) (h : Rw R t w w') : ItPost R r w panicE w' := by subst hr; exact ⟨rfl, t, h⟩
theorem ItPost.done {R : Nat} {r : Option (Itm × Bs)} {w w' : World} {t : Bs} {x : Itm} {cv v : Value} (hr : r = some (x, t)) (hv : itmV x cv = v) (hc : ChsIn w.heap.size w' cv x.chs) (h : Rw R t w w') : ItPost R r w (.returned v) w' := by subst hr; exact ⟨⟨cv, by rw [hv], hc⟩, h⟩

-- the end of a call by a panic: hp of its contract is taken apart already
-- cells in the variable's box: the new world under a name
-- a signature that does not do: the reading ends
theorem let_is (r l : Int) (b : Bool) (h : decide (l < 23) = b) (w : World) : Calls Tryz.prog 74 #[.agg #[.int .i64 r, .int .i64 l]] w fun e w' => e = .returned (.bool b) ∧ Below w.heap.size w w' := by
  subst h; exact lettered_any r l w
theorem beh_is (r l r' l' : Int) (b : Bool) (h : behindB r l r' l' = b) (w : World) : Calls Tryz.prog 88 #[.agg #[.int .i64 r, .int .i64 l], .agg #[.int .i64 r', .int .i64 l']] w fun e w' => e = .returned (.bool b) ∧ Below w.heap.size w w' := by
  subst h; exact behind_any r l r' l' w
set_option maxRecDepth 100000 in
set_option maxHeartbeats 8000000 in
theorem item_any (R : Nat) (s : Bs) (w : World) (hr : Rd w R s) :
    Calls Tryz.prog 59 #[.pointer (some ⟨R, 0, none⟩)] w (ItPost R (itemF s) w) := by
  have HX := Lib.hid (Bx.start (T := 102) (z := #[.int .i64 0, .int .i64 0, .int .i64 0, .int .i64 0, .int .i64 0, .int .i64 0, .slice none 0 0]) (c := #[.int .i64 0, .int .i64 0, .int .i64 0, .int .i64 0, .int .i64 0, .int .i64 0, .slice none 0 0]) hr)
  clear hr
  go_enter Tryz.func59, Tryz.ntmps59
  go_wp2_with fail
  refine (sig_any R s _ HX.out.rd).mono ?_
  intro e w1 hp
  cases hl : sigF s with
  | none =>
    rw [hl] at hp
    obtain ⟨rfl, t', hw⟩ := hp
    have hF : Hid (itemF s = none) := by show _ = _; simp [itemF, hl]
    have HX := Lib.hid (HX.out.call hw)
    clear hw hl
    go_wp2_with fail
    exact ⟨rfl, ItPost.fail hF.out HX.out.rw⟩
  | some p =>
    obtain ⟨⟨ar, al⟩, t⟩ := p
    rw [hl] at hp
    obtain ⟨rfl, hw⟩ := hp
    dsimp only [sigV]
    have HL := Lib.hid hl
    have HX := Lib.hid (HX.out.call hw)
    have hS := Lib.hid (sigF_len hl)
    clear hw hl
    have c0 := blk_cell HX.out.b1 0; have c1 := blk_cell HX.out.b1 1; have c2 := blk_cell HX.out.b1 2; have c3 := blk_cell HX.out.b1 3; have c4 := blk_cell HX.out.b1 4; have c5 := blk_cell HX.out.b1 5; have c6 := blk_cell HX.out.b1 6
    have f0 := blk_free HX.out.b1 0; have f1 := blk_free HX.out.b1 1; have f2 := blk_free HX.out.b1 2; have f3 := blk_free HX.out.b1 3; have f4 := blk_free HX.out.b1 4; have f5 := blk_free HX.out.b1 5; have f6 := blk_free HX.out.b1 6
    have z0 := blk_cell HX.out.b0 0; have z1 := blk_cell HX.out.b0 1; have z2 := blk_cell HX.out.b0 2; have z3 := blk_cell HX.out.b0 3; have z4 := blk_cell HX.out.b0 4; have z5 := blk_cell HX.out.b0 5; have z6 := blk_cell HX.out.b0 6
    have y0 := blk_free HX.out.b0 0; have y1 := blk_free HX.out.b0 1; have y2 := blk_free HX.out.b0 2; have y3 := blk_free HX.out.b0 3; have y4 := blk_free HX.out.b0 4; have y5 := blk_free HX.out.b0 5; have y6 := blk_free HX.out.b0 6
    go_wp2_with fail
    clear c0 c1 c2 c3 c4 c5 c6; clear f0 f1 f2 f3 f4 f5 f6; clear z0 z1 z2 z3 z4 z5 z6; clear y0 y1 y2 y3 y4 y5 y6
    have HX := Lib.hid ((HX.out.set1 1 (.int .i64 ar)).set1 2 (.int .i64 al))
    revert HX
    generalize (w1.setCell ⟨w.heap.size + 1, 1, none⟩ (.int .i64 ar)).setCell ⟨w.heap.size + 1, 2, none⟩ (.int .i64 al) = w2
    intro HX
    cases hs : skipF [45] t with
    | none =>
      have HS := Lib.hid hs
      clear hs
      refine (skip_no R t [45] _ HX.out.rd HS.out).mono ?_
      rintro e w3 ⟨rfl, hw⟩
      have HX := Lib.hid (HX.out.call hw)
      clear hw
      have c0 := blk_cell HX.out.b1 0; have c1 := blk_cell HX.out.b1 1; have c2 := blk_cell HX.out.b1 2; have c3 := blk_cell HX.out.b1 3; have c4 := blk_cell HX.out.b1 4; have c5 := blk_cell HX.out.b1 5; have c6 := blk_cell HX.out.b1 6
      have f0 := blk_free HX.out.b1 0; have f1 := blk_free HX.out.b1 1; have f2 := blk_free HX.out.b1 2; have f3 := blk_free HX.out.b1 3; have f4 := blk_free HX.out.b1 4; have f5 := blk_free HX.out.b1 5; have f6 := blk_free HX.out.b1 6
      have z0 := blk_cell HX.out.b0 0; have z1 := blk_cell HX.out.b0 1; have z2 := blk_cell HX.out.b0 2; have z3 := blk_cell HX.out.b0 3; have z4 := blk_cell HX.out.b0 4; have z5 := blk_cell HX.out.b0 5; have z6 := blk_cell HX.out.b0 6
      have y0 := blk_free HX.out.b0 0; have y1 := blk_free HX.out.b0 1; have y2 := blk_free HX.out.b0 2; have y3 := blk_free HX.out.b0 3; have y4 := blk_free HX.out.b0 4; have y5 := blk_free HX.out.b0 5; have y6 := blk_free HX.out.b0 6
      go_wp2_with fail
      clear c0 c1 c2 c3 c4 c5 c6; clear f0 f1 f2 f3 f4 f5 f6; clear z0 z1 z2 z3 z4 z5 z6; clear y0 y1 y2 y3 y4 y5 y6
      have HX := Lib.hid (((HX.out.set1 0 (.int .i64 0)).set1 3 (.int .i64 ar)).set1 4 (.int .i64 al))
      revert HX
      generalize ((w3.setCell ⟨w.heap.size + 1, 0, none⟩ (.int .i64 0)).setCell ⟨w.heap.size + 1, 3, none⟩ (.int .i64 ar)).setCell ⟨w.heap.size + 1, 4, none⟩ (.int .i64 al) = w4
      intro HX
      refine (number_any R t _ HX.out.rd).mono ?_
      intro e w5 hp
      cases hl : numberF t with
      | none =>
        rw [hl] at hp
        obtain ⟨rfl, t', hw⟩ := hp
        have hF : Hid (itemF s = none) := by show _ = _; simp [itemF, HL.out, HS.out, hl]
        have HX := Lib.hid (HX.out.call hw)
        clear hw hl
        go_wp2_with fail
        exact ⟨rfl, ItPost.fail hF.out HX.out.rw⟩
      | some p =>
        obtain ⟨n, u⟩ := p
        rw [hl] at hp
        obtain ⟨rfl, hw⟩ := hp
        have HX := Lib.hid (HX.out.call hw)
        have HN := Lib.hid hl
        clear hw hl
        have c0 := blk_cell HX.out.b1 0; have c1 := blk_cell HX.out.b1 1; have c2 := blk_cell HX.out.b1 2; have c3 := blk_cell HX.out.b1 3; have c4 := blk_cell HX.out.b1 4; have c5 := blk_cell HX.out.b1 5; have c6 := blk_cell HX.out.b1 6
        have f0 := blk_free HX.out.b1 0; have f1 := blk_free HX.out.b1 1; have f2 := blk_free HX.out.b1 2; have f3 := blk_free HX.out.b1 3; have f4 := blk_free HX.out.b1 4; have f5 := blk_free HX.out.b1 5; have f6 := blk_free HX.out.b1 6
        have z0 := blk_cell HX.out.b0 0; have z1 := blk_cell HX.out.b0 1; have z2 := blk_cell HX.out.b0 2; have z3 := blk_cell HX.out.b0 3; have z4 := blk_cell HX.out.b0 4; have z5 := blk_cell HX.out.b0 5; have z6 := blk_cell HX.out.b0 6
        have y0 := blk_free HX.out.b0 0; have y1 := blk_free HX.out.b0 1; have y2 := blk_free HX.out.b0 2; have y3 := blk_free HX.out.b0 3; have y4 := blk_free HX.out.b0 4; have y5 := blk_free HX.out.b0 5; have y6 := blk_free HX.out.b0 6
        go_wp2_with fail
        clear c0 c1 c2 c3 c4 c5 c6; clear f0 f1 f2 f3 f4 f5 f6; clear z0 z1 z2 z3 z4 z5 z6; clear y0 y1 y2 y3 y4 y5 y6
        have HX := Lib.hid (HX.out.set1 5 (.int .i64 n))
        revert HX
        generalize w5.setCell ⟨w.heap.size + 1, 5, none⟩ (.int .i64 n) = w6
        intro HX
        refine (changes_any R u _ HX.out.rd).mono ?_
        intro e w7 hp
        cases hl : changesF u with
        | none =>
          rw [hl] at hp
          obtain ⟨rfl, t', hw⟩ := hp
          have hF : Hid (itemF s = none) := by show _ = _; simp [itemF, HL.out, HS.out, HN.out, hl]
          have HX := Lib.hid (HX.out.call hw)
          clear hw hl
          go_wp2_with fail
          exact ⟨rfl, ItPost.fail hF.out HX.out.rw⟩
        | some p =>
          obtain ⟨cs, v⟩ := p
          rw [hl] at hp
          obtain ⟨⟨cv, rfl, hcv⟩, hw⟩ := hp
          have hF : Hid (itemF s = some (⟨0, ar, al, ar, al, n, cs⟩, v)) := by show _ = _; simp [itemF, HL.out, HS.out, HN.out, hl]
          have hz6 := blk_lt HX.out.b1
          have HC := Lib.hid hcv
          obtain ⟨a, cap, rfl, -⟩ := hcv
          have HX := Lib.hid (HX.out.call hw)
          clear hw hl
          have c0 := blk_cell HX.out.b1 0; have c1 := blk_cell HX.out.b1 1; have c2 := blk_cell HX.out.b1 2; have c3 := blk_cell HX.out.b1 3; have c4 := blk_cell HX.out.b1 4; have c5 := blk_cell HX.out.b1 5; have c6 := blk_cell HX.out.b1 6
          have f0 := blk_free HX.out.b1 0; have f1 := blk_free HX.out.b1 1; have f2 := blk_free HX.out.b1 2; have f3 := blk_free HX.out.b1 3; have f4 := blk_free HX.out.b1 4; have f5 := blk_free HX.out.b1 5; have f6 := blk_free HX.out.b1 6
          have z0 := blk_cell HX.out.b0 0; have z1 := blk_cell HX.out.b0 1; have z2 := blk_cell HX.out.b0 2; have z3 := blk_cell HX.out.b0 3; have z4 := blk_cell HX.out.b0 4; have z5 := blk_cell HX.out.b0 5; have z6 := blk_cell HX.out.b0 6
          have y0 := blk_free HX.out.b0 0; have y1 := blk_free HX.out.b0 1; have y2 := blk_free HX.out.b0 2; have y3 := blk_free HX.out.b0 3; have y4 := blk_free HX.out.b0 4; have y5 := blk_free HX.out.b0 5; have y6 := blk_free HX.out.b0 6
          go_wp2_with fail
          refine bodyPost_ret (v := .agg #[.int .i64 0, .int .i64 ar, .int .i64 al, .int .i64 ar, .int .i64 al, .int .i64 n, .slice a cs.length cap]) (by simp [results, Tryz.results59, go_sem, z0, z1, z2, z3, z4, z5, z6]) rfl ?_
          have hX := (((((((HX.out.set1 6 (.slice a cs.length cap)).set0 0 (.int .i64 0)).set0 1 (.int .i64 ar)).set0 2 (.int .i64 al)).set0 3 (.int .i64 ar)).set0 4 (.int .i64 al)).set0 5 (.int .i64 n)).set0 6 (.slice a cs.length cap)
          have hO := (((((((OnlyIn.setCell (X := fun k => k = w.heap.size ∨ k = w.heap.size + 1) w7 ⟨w.heap.size + 1, 6, none⟩ (.slice a cs.length cap) (Or.inr rfl)).trans (OnlyIn.setCell _ ⟨w.heap.size, 0, none⟩ (.int .i64 0) (Or.inl rfl))).trans (OnlyIn.setCell _ ⟨w.heap.size, 1, none⟩ (.int .i64 ar) (Or.inl rfl))).trans
            (OnlyIn.setCell _ ⟨w.heap.size, 2, none⟩ (.int .i64 al) (Or.inl rfl))).trans (OnlyIn.setCell _ ⟨w.heap.size, 3, none⟩ (.int .i64 ar) (Or.inl rfl))).trans (OnlyIn.setCell _ ⟨w.heap.size, 4, none⟩ (.int .i64 al) (Or.inl rfl))).trans
            (OnlyIn.setCell _ ⟨w.heap.size, 5, none⟩ (.int .i64 n) (Or.inl rfl))).trans (OnlyIn.setCell _ ⟨w.heap.size, 6, none⟩ (.slice a cs.length cap) (Or.inl rfl))
          exact ItPost.done hF.out rfl ((HC.out.only hO (fun k h => by omega)).mono (by omega)) hX.rw
    | some t2 =>
      have HS := Lib.hid hs
      clear hs
      refine (skip_yes R t [45] t2 _ HX.out.rd HS.out).mono ?_
      rintro e w3 ⟨rfl, hw⟩
      have HX := Lib.hid (HX.out.call hw)
      clear hw
      have c0 := blk_cell HX.out.b1 0; have c1 := blk_cell HX.out.b1 1; have c2 := blk_cell HX.out.b1 2; have c3 := blk_cell HX.out.b1 3; have c4 := blk_cell HX.out.b1 4; have c5 := blk_cell HX.out.b1 5; have c6 := blk_cell HX.out.b1 6
      have f0 := blk_free HX.out.b1 0; have f1 := blk_free HX.out.b1 1; have f2 := blk_free HX.out.b1 2; have f3 := blk_free HX.out.b1 3; have f4 := blk_free HX.out.b1 4; have f5 := blk_free HX.out.b1 5; have f6 := blk_free HX.out.b1 6
      have z0 := blk_cell HX.out.b0 0; have z1 := blk_cell HX.out.b0 1; have z2 := blk_cell HX.out.b0 2; have z3 := blk_cell HX.out.b0 3; have z4 := blk_cell HX.out.b0 4; have z5 := blk_cell HX.out.b0 5; have z6 := blk_cell HX.out.b0 6
      have y0 := blk_free HX.out.b0 0; have y1 := blk_free HX.out.b0 1; have y2 := blk_free HX.out.b0 2; have y3 := blk_free HX.out.b0 3; have y4 := blk_free HX.out.b0 4; have y5 := blk_free HX.out.b0 5; have y6 := blk_free HX.out.b0 6
      go_wp2_with fail
      clear c0 c1 c2 c3 c4 c5 c6; clear f0 f1 f2 f3 f4 f5 f6; clear z0 z1 z2 z3 z4 z5 z6; clear y0 y1 y2 y3 y4 y5 y6
      have HX := Lib.hid (HX.out.set1 0 (.int .i64 1))
      revert HX
      generalize w3.setCell ⟨w.heap.size + 1, 0, none⟩ (.int .i64 1) = w4
      intro HX
      refine (sig_any R t2 _ HX.out.rd).mono ?_
      intro e w5 hp
      cases hl : sigF t2 with
      | none =>
        rw [hl] at hp
        obtain ⟨rfl, t', hw⟩ := hp
        have hF : Hid (itemF s = none) := by show _ = _; simp [itemF, HL.out, HS.out, hl]
        have HX := Lib.hid (HX.out.call hw)
        clear hw hl
        go_wp2_with fail
        exact ⟨rfl, ItPost.fail hF.out HX.out.rw⟩
      | some p =>
        obtain ⟨⟨zr, zl⟩, u⟩ := p
        rw [hl] at hp
        obtain ⟨rfl, hw⟩ := hp
        dsimp only [sigV]
        have HX := Lib.hid (HX.out.call hw)
        have HN := Lib.hid hl
        clear hw hl
        have c0 := blk_cell HX.out.b1 0; have c1 := blk_cell HX.out.b1 1; have c2 := blk_cell HX.out.b1 2; have c3 := blk_cell HX.out.b1 3; have c4 := blk_cell HX.out.b1 4; have c5 := blk_cell HX.out.b1 5; have c6 := blk_cell HX.out.b1 6
        have f0 := blk_free HX.out.b1 0; have f1 := blk_free HX.out.b1 1; have f2 := blk_free HX.out.b1 2; have f3 := blk_free HX.out.b1 3; have f4 := blk_free HX.out.b1 4; have f5 := blk_free HX.out.b1 5; have f6 := blk_free HX.out.b1 6
        have z0 := blk_cell HX.out.b0 0; have z1 := blk_cell HX.out.b0 1; have z2 := blk_cell HX.out.b0 2; have z3 := blk_cell HX.out.b0 3; have z4 := blk_cell HX.out.b0 4; have z5 := blk_cell HX.out.b0 5; have z6 := blk_cell HX.out.b0 6
        have y0 := blk_free HX.out.b0 0; have y1 := blk_free HX.out.b0 1; have y2 := blk_free HX.out.b0 2; have y3 := blk_free HX.out.b0 3; have y4 := blk_free HX.out.b0 4; have y5 := blk_free HX.out.b0 5; have y6 := blk_free HX.out.b0 6
        go_wp2_with fail
        clear c0 c1 c2 c3 c4 c5 c6; clear f0 f1 f2 f3 f4 f5 f6; clear z0 z1 z2 z3 z4 z5 z6; clear y0 y1 y2 y3 y4 y5 y6
        have HX := Lib.hid ((HX.out.set1 3 (.int .i64 zr)).set1 4 (.int .i64 zl))
        revert HX
        generalize (w5.setCell ⟨w.heap.size + 1, 3, none⟩ (.int .i64 zr)).setCell ⟨w.heap.size + 1, 4, none⟩ (.int .i64 zl) = w6
        intro HX
        have c0 := blk_cell HX.out.b1 0; have c1 := blk_cell HX.out.b1 1; have c2 := blk_cell HX.out.b1 2; have c3 := blk_cell HX.out.b1 3; have c4 := blk_cell HX.out.b1 4; have c5 := blk_cell HX.out.b1 5; have c6 := blk_cell HX.out.b1 6
        have f0 := blk_free HX.out.b1 0; have f1 := blk_free HX.out.b1 1; have f2 := blk_free HX.out.b1 2; have f3 := blk_free HX.out.b1 3; have f4 := blk_free HX.out.b1 4; have f5 := blk_free HX.out.b1 5; have f6 := blk_free HX.out.b1 6
        have z0 := blk_cell HX.out.b0 0; have z1 := blk_cell HX.out.b0 1; have z2 := blk_cell HX.out.b0 2; have z3 := blk_cell HX.out.b0 3; have z4 := blk_cell HX.out.b0 4; have z5 := blk_cell HX.out.b0 5; have z6 := blk_cell HX.out.b0 6
        have y0 := blk_free HX.out.b0 0; have y1 := blk_free HX.out.b0 1; have y2 := blk_free HX.out.b0 2; have y3 := blk_free HX.out.b0 3; have y4 := blk_free HX.out.b0 4; have y5 := blk_free HX.out.b0 5; have y6 := blk_free HX.out.b0 6
        cases h1 : decide (al < 23) with
        | false =>
          have hF : Hid (itemF s = none) := by
            show _ = _
            have : ¬ al < 23 := of_decide_eq_false h1
            simp only [itemF, HL.out, HS.out, HN.out]
            rw [if_neg (fun h => this h.1)]
          refine (let_is ar al false h1 _).mono ?_
          rintro e w7 ⟨rfl, hb⟩
          have HX := Lib.hid (HX.out.same hb)
          clear c0 c1 c2 c3 c4 c5 c6; clear f0 f1 f2 f3 f4 f5 f6; clear z0 z1 z2 z3 z4 z5 z6; clear y0 y1 y2 y3 y4 y5 y6
          clear hb
          go_wp2_with fail
          refine (fail_any _ _).mono ?_
          rintro e wf ⟨rfl, rfl⟩
          go_wp2_with fail
          exact ⟨rfl, ItPost.fail hF.out HX.out.rw⟩
        | true =>
          have H1 : al < 23 := of_decide_eq_true h1
          refine (let_is ar al true h1 _).mono ?_
          rintro e w7 ⟨rfl, hb⟩
          have HX := Lib.hid (HX.out.same hb)
          clear c0 c1 c2 c3 c4 c5 c6; clear f0 f1 f2 f3 f4 f5 f6; clear z0 z1 z2 z3 z4 z5 z6; clear y0 y1 y2 y3 y4 y5 y6
          clear hb h1
          have c0 := blk_cell HX.out.b1 0; have c1 := blk_cell HX.out.b1 1; have c2 := blk_cell HX.out.b1 2; have c3 := blk_cell HX.out.b1 3; have c4 := blk_cell HX.out.b1 4; have c5 := blk_cell HX.out.b1 5; have c6 := blk_cell HX.out.b1 6
          have f0 := blk_free HX.out.b1 0; have f1 := blk_free HX.out.b1 1; have f2 := blk_free HX.out.b1 2; have f3 := blk_free HX.out.b1 3; have f4 := blk_free HX.out.b1 4; have f5 := blk_free HX.out.b1 5; have f6 := blk_free HX.out.b1 6
          have z0 := blk_cell HX.out.b0 0; have z1 := blk_cell HX.out.b0 1; have z2 := blk_cell HX.out.b0 2; have z3 := blk_cell HX.out.b0 3; have z4 := blk_cell HX.out.b0 4; have z5 := blk_cell HX.out.b0 5; have z6 := blk_cell HX.out.b0 6
          have y0 := blk_free HX.out.b0 0; have y1 := blk_free HX.out.b0 1; have y2 := blk_free HX.out.b0 2; have y3 := blk_free HX.out.b0 3; have y4 := blk_free HX.out.b0 4; have y5 := blk_free HX.out.b0 5; have y6 := blk_free HX.out.b0 6
          go_wp2_with fail
          cases h2 : decide (zl < 23) with
          | false =>
            have hF : Hid (itemF s = none) := by
              show _ = _
              have : ¬ zl < 23 := of_decide_eq_false h2
              simp only [itemF, HL.out, HS.out, HN.out]
              rw [if_neg (fun h => this h.2.1)]
            refine (let_is zr zl false h2 _).mono ?_
            rintro e w8 ⟨rfl, hb⟩
            have HX := Lib.hid (HX.out.same hb)
            clear c0 c1 c2 c3 c4 c5 c6; clear f0 f1 f2 f3 f4 f5 f6; clear z0 z1 z2 z3 z4 z5 z6; clear y0 y1 y2 y3 y4 y5 y6
            clear hb
            go_wp2_with fail
            refine (fail_any _ _).mono ?_
            rintro e wf ⟨rfl, rfl⟩
            go_wp2_with fail
            exact ⟨rfl, ItPost.fail hF.out HX.out.rw⟩
          | true =>
            have H2 : zl < 23 := of_decide_eq_true h2
            refine (let_is zr zl true h2 _).mono ?_
            rintro e w8 ⟨rfl, hb⟩
            have HX := Lib.hid (HX.out.same hb)
            clear c0 c1 c2 c3 c4 c5 c6; clear f0 f1 f2 f3 f4 f5 f6; clear z0 z1 z2 z3 z4 z5 z6; clear y0 y1 y2 y3 y4 y5 y6
            clear hb h2
            have c0 := blk_cell HX.out.b1 0; have c1 := blk_cell HX.out.b1 1; have c2 := blk_cell HX.out.b1 2; have c3 := blk_cell HX.out.b1 3; have c4 := blk_cell HX.out.b1 4; have c5 := blk_cell HX.out.b1 5; have c6 := blk_cell HX.out.b1 6
            have f0 := blk_free HX.out.b1 0; have f1 := blk_free HX.out.b1 1; have f2 := blk_free HX.out.b1 2; have f3 := blk_free HX.out.b1 3; have f4 := blk_free HX.out.b1 4; have f5 := blk_free HX.out.b1 5; have f6 := blk_free HX.out.b1 6
            have z0 := blk_cell HX.out.b0 0; have z1 := blk_cell HX.out.b0 1; have z2 := blk_cell HX.out.b0 2; have z3 := blk_cell HX.out.b0 3; have z4 := blk_cell HX.out.b0 4; have z5 := blk_cell HX.out.b0 5; have z6 := blk_cell HX.out.b0 6
            have y0 := blk_free HX.out.b0 0; have y1 := blk_free HX.out.b0 1; have y2 := blk_free HX.out.b0 2; have y3 := blk_free HX.out.b0 3; have y4 := blk_free HX.out.b0 4; have y5 := blk_free HX.out.b0 5; have y6 := blk_free HX.out.b0 6
            go_wp2_with fail
            cases h3 : behindB zr zl ar al with
            | false =>
              have hF : Hid (itemF s = none) := by
                show _ = _
                simp only [itemF, HL.out, HS.out, HN.out]
                rw [if_neg (fun h => by have := h.2.2; rw [h3] at this; cases this)]
              refine (beh_is zr zl ar al false h3 _).mono ?_
              rintro e w9 ⟨rfl, hb⟩
              have HX := Lib.hid (HX.out.same hb)
              clear c0 c1 c2 c3 c4 c5 c6; clear f0 f1 f2 f3 f4 f5 f6; clear z0 z1 z2 z3 z4 z5 z6; clear y0 y1 y2 y3 y4 y5 y6
              clear hb
              go_wp2_with fail
              refine (fail_any _ _).mono ?_
              rintro e wf ⟨rfl, rfl⟩
              go_wp2_with fail
              exact ⟨rfl, ItPost.fail hF.out HX.out.rw⟩
            | true =>
              have H3 := Lib.hid h3
              refine (beh_is zr zl ar al true h3 _).mono ?_
              rintro e w9 ⟨rfl, hb⟩
              have HX := Lib.hid (HX.out.same hb)
              clear c0 c1 c2 c3 c4 c5 c6; clear f0 f1 f2 f3 f4 f5 f6; clear z0 z1 z2 z3 z4 z5 z6; clear y0 y1 y2 y3 y4 y5 y6
              clear hb h3
              go_wp2_with fail
              refine (number_any R u _ HX.out.rd).mono ?_
              intro e w10 hp
              cases hl : numberF u with
              | none =>
                rw [hl] at hp
                obtain ⟨rfl, t', hw⟩ := hp
                have hF : Hid (itemF s = none) := by
                  show _ = _
                  simp only [itemF, HL.out, HS.out, HN.out]
                  rw [if_pos ⟨H1, H2, H3.out⟩, hl]
                have HX := Lib.hid (HX.out.call hw)
                clear hw hl
                go_wp2_with fail
                exact ⟨rfl, ItPost.fail hF.out HX.out.rw⟩
              | some p =>
                obtain ⟨n, v⟩ := p
                rw [hl] at hp
                obtain ⟨rfl, hw⟩ := hp
                have hF : Hid (itemF s = some (⟨1, ar, al, zr, zl, n, []⟩, v)) := by
                  show _ = _
                  simp only [itemF, HL.out, HS.out, HN.out]
                  rw [if_pos ⟨H1, H2, H3.out⟩, hl]
                have HX := Lib.hid (HX.out.call hw)
                clear hw hl
                have c0 := blk_cell HX.out.b1 0; have c1 := blk_cell HX.out.b1 1; have c2 := blk_cell HX.out.b1 2; have c3 := blk_cell HX.out.b1 3; have c4 := blk_cell HX.out.b1 4; have c5 := blk_cell HX.out.b1 5; have c6 := blk_cell HX.out.b1 6
                have f0 := blk_free HX.out.b1 0; have f1 := blk_free HX.out.b1 1; have f2 := blk_free HX.out.b1 2; have f3 := blk_free HX.out.b1 3; have f4 := blk_free HX.out.b1 4; have f5 := blk_free HX.out.b1 5; have f6 := blk_free HX.out.b1 6
                have z0 := blk_cell HX.out.b0 0; have z1 := blk_cell HX.out.b0 1; have z2 := blk_cell HX.out.b0 2; have z3 := blk_cell HX.out.b0 3; have z4 := blk_cell HX.out.b0 4; have z5 := blk_cell HX.out.b0 5; have z6 := blk_cell HX.out.b0 6
                have y0 := blk_free HX.out.b0 0; have y1 := blk_free HX.out.b0 1; have y2 := blk_free HX.out.b0 2; have y3 := blk_free HX.out.b0 3; have y4 := blk_free HX.out.b0 4; have y5 := blk_free HX.out.b0 5; have y6 := blk_free HX.out.b0 6
                go_wp2_with fail
                refine bodyPost_ret (v := .agg #[.int .i64 1, .int .i64 ar, .int .i64 al, .int .i64 zr, .int .i64 zl, .int .i64 n, .slice none 0 0]) (by simp [results, Tryz.results59, go_sem, z0, z1, z2, z3, z4, z5, z6]) rfl ?_
                exact ItPost.done hF.out rfl ⟨none, 0, rfl, fun h => absurd rfl h⟩ ((((((((HX.out.set1 5 _).set0 0 _).set0 1 _).set0 2 _).set0 3 _).set0 4 _).set0 5 _).set0 6 _).rw

end Go.Proofs.YtlfglbnbenaghaaGreatDoor

/- The gatherings for which items stand. -/
namespace Go.Proofs.YtlfglbnbenaghaaGreatDoor
set_option linter.unusedSimpArgs false
set_option linter.unusedVariables false
open Go Go.RowKit Go.Sort Go.BigFrame

/-- A row of items with their slices of changes. -/
def itC (y : Itm × Value) : List Value := [.int .i64 y.1.kind, .int .i64 y.1.fr, .int .i64 y.1.fl, .int .i64 y.1.lr, .int .i64 y.1.ll, .int .i64 y.1.leaves, y.2]
def itCells (ys : List (Itm × Value)) : List Value := ys.flatMap itC
/-- A row of gatherings with their slices of changes. -/
def gtC (z : Gth × Value) : List Value := [.int .i64 z.1.round, .int .i64 z.1.letter, .int .i64 z.1.leaves, z.2]
def gtCells (zs : List (Gth × Value)) : List Value := zs.flatMap gtC
theorem flat_at {α : Type} {f : α → List Value} {n : Nat} (hf : ∀ x, (f x).length = n) : ∀ {xs : List α} {i : Nat} {x : α}, xs[i]? = some x → ∀ j, j < n → (xs.flatMap f)[i * n + j]? = (f x)[j]?
  | [], _, _, h, _, _ => by cases h
  | y :: xs, 0, x, h, j, hj => by
    simp only [List.getElem?_cons_zero, Option.some.injEq] at h
    subst h
    rw [List.flatMap_cons, Nat.zero_mul, Nat.zero_add, List.getElem?_append_left (by rw [hf]; exact hj)]
  | y :: xs, i + 1, x, h, j, hj => by
    rw [List.flatMap_cons, List.getElem?_append_right (by rw [hf]; rw [Nat.add_mul]; omega), hf, show (i + 1) * n + j - n = i * n + j by rw [Nat.add_mul]; omega]
    exact flat_at hf (by simpa using h) j hj

/-- A slice of items. -/
def ItsAt (W : World) (v : Value) (ys : List (Itm × Value)) : Prop :=
  ∃ (a : Option Addr) (cap : Nat), v = .slice a ys.length cap ∧ (ys ≠ [] → ∃ g, a = some ⟨g, 0, none⟩ ∧ g < W.heap.size ∧
    ∀ i y, ys[i]? = some y → W.cell? ⟨g, i * 7, none⟩ = some (.int .i64 y.1.kind) ∧ W.cell? ⟨g, i * 7 + 1, none⟩ = some (.int .i64 y.1.fr) ∧ W.cell? ⟨g, i * 7 + 2, none⟩ = some (.int .i64 y.1.fl) ∧ W.cell? ⟨g, i * 7 + 3, none⟩ = some (.int .i64 y.1.lr) ∧
      W.cell? ⟨g, i * 7 + 4, none⟩ = some (.int .i64 y.1.ll) ∧ W.cell? ⟨g, i * 7 + 5, none⟩ = some (.int .i64 y.1.leaves) ∧ W.cell? ⟨g, i * 7 + 6, none⟩ = some y.2)
theorem ItsAt.of_row {W : World} {base : Nat} {v : Value} {e : TypeId} {ys : List (Itm × Value)} (h : W.ownsRow base e 7 v ys.length (itCells ys)) : ItsAt W v ys := by
  rcases h.2 with ⟨rfl, h0⟩ | ⟨g, cap, cur, rfl, hb, hg, rest⟩
  · exact ⟨none, 0, by rw [h0], fun hne => absurd (List.length_eq_zero_iff.1 h0) hne⟩
  · refine ⟨_, cap, rfl, fun _ => ⟨g, rfl, blk_lt hg, fun i y hy => ?_⟩⟩
    have hc := h.cells (g := g) (by simp [Value.ownBlock])
    have hf := flat_at (f := itC) (n := 7) (fun _ => rfl) hy
    have q : ∀ j u, j < 7 → (itC y)[j]? = some u → W.cell? ⟨g, i * 7 + j, none⟩ = some u := fun j u hj hu => by
      have := hc _ _ ((hf j hj).trans hu)
      rwa [add_off'] at this
    exact ⟨q 0 _ (by omega) rfl, q 1 _ (by omega) rfl, q 2 _ (by omega) rfl, q 3 _ (by omega) rfl, q 4 _ (by omega) rfl, q 5 _ (by omega) rfl, q 6 _ (by omega) rfl⟩
theorem ItsAt.later {W W' : World} {v : Value} {ys : List (Itm × Value)} (h : ItsAt W v ys) (hb : Below W.heap.size W W') : ItsAt W' v ys := by
  obtain ⟨a, cap, rfl, h⟩ := h
  refine ⟨a, cap, rfl, fun hne => ?_⟩
  obtain ⟨g, rfl, hg, hc⟩ := h hne
  refine ⟨g, rfl, Nat.lt_of_lt_of_le hg hb.size, fun i y hy => ?_⟩
  obtain ⟨c0, c1, c2, c3, c4, c5, c6⟩ := hc i y hy
  have q : ∀ o v, W.cell? ⟨g, o, none⟩ = some v → W'.cell? ⟨g, o, none⟩ = some v := fun o v h => (hb.cell (p := ⟨g, o, none⟩) hg).trans h
  exact ⟨q _ _ c0, q _ _ c1, q _ _ c2, q _ _ c3, q _ _ c4, q _ _ c5, q _ _ c6⟩
/-- A row of gatherings is a slice of gatherings. -/
theorem GsAt.of_row {W : World} {base : Nat} {v : Value} {e : TypeId} {zs : List (Gth × Value)} (h : W.ownsRow base e 4 v zs.length (gtCells zs)) (hc : ∀ z ∈ zs, ChsAt W.heap.size W z.2 z.1.chs) : GsAt W.heap.size W v (zs.map (·.1)) := by
  rcases h.2 with ⟨rfl, h0⟩ | ⟨g, cap, cur, rfl, hb, hg, rest⟩
  · exact ⟨none, 0, by rw [List.length_map, h0], fun hne => absurd (List.length_eq_zero_iff.1 h0) (fun e => hne (by rw [e]; rfl))⟩
  · refine ⟨_, cap, by rw [List.length_map], fun _ => ⟨g, 0, rfl, blk_lt hg, fun i x hx => ?_⟩⟩
    obtain ⟨z, hz, rfl⟩ : ∃ z, zs[i]? = some z ∧ z.1 = x := by
      rw [List.getElem?_map] at hx
      cases hz : zs[i]? with
      | none => rw [hz] at hx; cases hx
      | some z => rw [hz] at hx; exact ⟨z, rfl, by simpa using hx⟩
    have hcl := h.cells (g := g) (by simp [Value.ownBlock])
    have hf := flat_at (f := gtC) (n := 4) (fun _ => rfl) hz
    have q : ∀ j u, j < 4 → (gtC z)[j]? = some u → W.cell? ⟨g, 0 + i * 4 + j, none⟩ = some u := fun j u hj hu => by
      have := hcl _ _ ((hf j hj).trans hu)
      rw [add_off'] at this
      rwa [Nat.zero_add]
    exact ⟨z.2, hc z (List.mem_of_getElem? hz), q 0 _ (by omega) rfl, q 1 _ (by omega) rfl, q 2 _ (by omega) rfl, q 3 _ (by omega) rfl⟩

theorem runS_stop (n : Nat) (s : Int × Int) : runS n s s = [s] := by cases n <;> simp [runS]
theorem rank_next {r l : Int} (h : l < 23) : rankS (nextS r l).1 (nextS r l).2 = rankS r l + 1 := by
  unfold nextS rankS
  split <;> dsimp only <;> omega
theorem rank_inj {r l r' l' : Int} (h : 0 ≤ l ∧ l < 23) (h' : 0 ≤ l' ∧ l' < 23) (e : rankS r l = rankS r' l') : r = r' ∧ l = l' := by
  unfold rankS at e; omega
theorem rank_behind {r l r' l' : Int} (h : 0 ≤ l ∧ l < 23) (h' : 0 ≤ l' ∧ l' < 23) (hb : behindB r l r' l' = true) : rankS r' l' < rankS r l := by
  unfold behindB at hb
  unfold rankS
  split at hb
  · subst_vars; have := of_decide_eq_true hb; omega
  · have := of_decide_eq_true hb; omega
theorem nextS_ok {r l : Int} (h : 0 ≤ l ∧ l < 23) : 0 ≤ (nextS r l).2 ∧ (nextS r l).2 < 23 ∧ r ≤ (nextS r l).1 ∧ (nextS r l).1 ≤ r + 1 := by
  unfold nextS; split <;> dsimp only <;> omega
theorem runS_len (n : Nat) (s l : Int × Int) : (runS n s l).length ≤ n + 1 := by
  induction n generalizing s with
  | zero => simp [runS]
  | succ n ih => unfold runS; split <;> simp; exact ih _
theorem itmGs_len {x : Itm} (h : ItRead x) : (itmGs x).length ≤ 69 := by
  unfold itmGs
  split
  · simp
  · rw [List.length_map]
    have := runS_len (rankS x.lr x.ll - rankS x.fr x.fl).toNat (x.fr, x.fl) (x.lr, x.ll)
    have h1 := h.first
    have h2 := h.last
    simp only [sigB, inB, Bool.and_eq_true, decide_eq_true_eq] at h1 h2
    have : (rankS x.lr x.ll - rankS x.fr x.fl).toNat ≤ 68 := by
      unfold rankS
      rcases h.kind with ⟨-, h3, h4⟩ | ⟨-, h3, h4, -⟩ <;> omega
    omega
theorem gsOf_len : ∀ {xs : List Itm}, (∀ x ∈ xs, ItRead x) → (gsOf xs).length ≤ xs.length * 69
  | [], _ => by simp [gsOf]
  | x :: xs, h => by
    have h1 := itmGs_len (h x (by simp))
    have h2 := gsOf_len (xs := xs) fun y hy => h y (by simp [hy])
    unfold gsOf at *
    simp only [List.flatMap_cons, List.length_append, List.length_cons, Nat.add_mul]
    omega

end Go.Proofs.YtlfglbnbenaghaaGreatDoor

/- Contract of package quire: the gatherings for which items stand. -/
namespace Go.Proofs.YtlfglbnbenaghaaGreatDoor
set_option linter.unusedSimpArgs false
set_option linter.unusedVariables false
open Go Go.RowKit Go.Sort Go.BigFrame

theorem elemGth : ∃ i, Tryz.prog.info? 42 = some i ∧ i.zero = some (.agg #[.int .i64 0, .int .i64 0, .int .i64 0, .slice none 0 0]) ∧ i.size = 4 ∧ i.bytes = 48 := elemOf (by kernel_rfl)
theorem undGths : Tryz.prog.underlying 22 = some (.slice 42) := by kernel_rfl
theorem cells_new' (W : World) (l : List Value) (t : TypeId) (b : Nat) (hb : b = W.heap.size) : ∀ j u, l[j]? = some u → (W.alloc (.cells ⟨l⟩ t)).cell? ((⟨b, 0, none⟩ : Addr).add j) = some u := by
  subst hb; exact cells_new W l t
/-- How gatherings are gathered. -/
structure Gat (Pc : Value → List Chg → Prop) (w wr : World) (v : Value) (zs : List (Gth × Value)) : Prop where
  row : wr.ownsRow w.heap.size 42 4 v zs.length (gtCells zs)
  chs : ∀ z ∈ zs, Pc z.2 z.1.chs
  below : Below w.heap.size w wr
theorem Gat.same {Pc : Value → List Chg → Prop} {w wr wr' : World} {v : Value} {zs : List (Gth × Value)} (h : Gat Pc w wr v zs) (hb : Below wr.heap.size wr wr') : Gat Pc w wr' v zs :=
  ⟨row_later h.row hb, h.chs, h.below.trans (hb.mono h.below.size)⟩
theorem Gat.add {Pc : Value → List Chg → Prop} {w wr wr' : World} {v v' : Value} {zs : List (Gth × Value)} {z : Gth × Value} (h : Gat Pc w wr v zs) (hz : Pc z.2 z.1.chs) (hr : wr'.ownsRow w.heap.size 42 4 v' (zs.length + 1) (gtCells zs ++ gtC z)) (hg : wr.grownBy wr' v.ownBlock) : Gat Pc w wr' v' (zs ++ [z]) :=
  ⟨by rw [List.length_append]; simpa [gtCells] using hr, fun y hy => by
    rcases List.mem_append.1 hy with hy | hy
    · exact h.chs y hy
    · simp only [List.mem_singleton] at hy; subst hy; exact hz, h.below.grown hg h.below.size (fun j ej => (h.row.lt j ej).1)⟩
theorem Gat.new {Pc : Value → List Chg → Prop} {w wr : World} {v : Value} {zs : List (Gth × Value)} (h : Gat Pc w wr v zs) (o : Obj) : Gat Pc w (wr.alloc o) v zs := h.same (by exact (by repeat (first | exact Below.refl _ _ | assumption | (refine Below.alloc ?_ ?_ _; rotate_left; · (first | omega | (simp; done) | (simp; omega) | fail)) | (refine Below.setCell ?_ ?_ _; rotate_left; · (first | omega | (simp; done) | (simp; omega) | fail)) | refine Below.drew ?_ | fail)))

theorem blk_grown {W W' : World} {ow : Option Nat} {b : Nat} {o : Obj} (h : W.heap[b]? = some o) (hg : W.grownBy W' ow) (ho : ∀ g, ow = some g → W.heap[g]? ≠ some o) : W'.heap[b]? = some o :=
  (hg.block b (blk_lt h) (fun e => ho b e.symm h)).trans h
theorem Gat.ne {Pc : Value → List Chg → Prop} {w wr : World} {v : Value} {zs : List (Gth × Value)} (h : Gat Pc w wr v zs) {c : Array Value} {t : TypeId} {f : Nat × Nat} (ht : t ≠ 42) : ∀ g, v.ownBlock = some g → wr.heap[g]? ≠ some (.cells c t f) := by
  intro g hg e
  rcases h.row.2 with ⟨rfl, -⟩ | ⟨g', cap, cur, rfl, hb, hgg, rest⟩
  · simp [Value.ownBlock] at hg
  · simp only [Value.ownBlock, Option.some.injEq] at hg
    subst hg
    rw [hgg] at e
    simp only [Option.some.injEq, Obj.cells.injEq] at e
    exact ht e.2.1.symm
theorem grown_set (w : World) (a : Addr) (u : Value) : w.grownBy (w.setCell a u) (some a.block) :=
  ⟨rfl, rfl, rfl, by simp [World.setCell], fun k _ hk => Below.heap_setCell w a u k (fun e => hk (by rw [e]))⟩
theorem Gat.set {Pc : Value → List Chg → Prop} {w wr : World} {v : Value} {zs : List (Gth × Value)} (h : Gat Pc w wr v zs) {b : Nat} {c : Array Value} {t : TypeId} {f : Nat × Nat} (hb : wr.heap[b]? = some (.cells c t f)) (ht : t ≠ 42) (hw : w.heap.size ≤ b) (i : Nat) (u : Value) : Gat Pc w (wr.setCell ⟨b, i, none⟩ u) v zs :=
  ⟨h.row.kept (grown_set wr ⟨b, i, none⟩ u) (.inr (fun e => h.ne ht b e hb)), h.chs, h.below.setCell hw _⟩
/-- The inner loop's state: the item's box, the signature's box, and what has been gathered. -/
structure Inn (Pc : Value → List Chg → Prop) (w wy : World) (BX bs : Nat) (xc : Array Value) (r l : Int) (v : Value) (zz : List (Gth × Value)) : Prop where
  gat : Gat Pc w wy v zz
  bx : wy.heap[BX]? = some (.cells xc 102)
  bs : wy.heap[bs]? = some (.cells #[.int .i64 r, .int .i64 l] 39)
theorem Inn.same {Pc : Value → List Chg → Prop} {w wy wy' : World} {BX bs : Nat} {xc : Array Value} {r l : Int} {v : Value} {zz : List (Gth × Value)} (h : Inn Pc w wy BX bs xc r l v zz) (hb : Below wy.heap.size wy wy') : Inn Pc w wy' BX bs xc r l v zz :=
  ⟨h.gat.same hb, blk_later hb h.bx, blk_later hb h.bs⟩
theorem Inn.add {Pc : Value → List Chg → Prop} {w wy wy' : World} {BX bs : Nat} {xc : Array Value} {r l : Int} {v v' : Value} {zz : List (Gth × Value)} {z : Gth × Value} (h : Inn Pc w wy BX bs xc r l v zz) (hz : Pc z.2 z.1.chs) (hr : wy'.ownsRow w.heap.size 42 4 v' (zz.length + 1) (gtCells zz ++ gtC z)) (hg : wy.grownBy wy' v.ownBlock) : Inn Pc w wy' BX bs xc r l v' (zz ++ [z]) :=
  ⟨h.gat.add hz hr hg, blk_grown h.bx hg (h.gat.ne (by decide)), blk_grown h.bs hg (h.gat.ne (by decide))⟩
theorem next_is (r l : Int) (w : World) (hl : 0 ≤ l ∧ l ≤ 100) (hr : 0 ≤ r ∧ r ≤ 100) :
    Calls Tryz.prog 75 #[.agg #[.int .i64 r, .int .i64 l]] w fun e w' => e = .returned (.agg #[.int .i64 (nextS r l).1, .int .i64 (nextS r l).2]) ∧ Below w.heap.size w w' := by
  refine (following_any r l w hl hr).mono fun e w' ⟨h1, h2⟩ => ⟨?_, h2⟩
  rw [h1]; unfold nextS; split <;> rfl
theorem gtC_one (z : Gth × Value) (h : ∃ a n c, z.2 = .slice a n c) : ∀ u ∈ gtC z, u.oneCell' = true := by
  obtain ⟨a, n, c, h⟩ := h
  intro u hu
  simp only [gtC, List.mem_cons, List.not_mem_nil, or_false] at hu
  rcases hu with rfl | rfl | rfl | rfl
  · rfl
  · rfl
  · rfl
  · rw [h]; rfl
theorem sig_bounds {r l : Int} (h : sigB r l = true) : 1 ≤ r ∧ r ≤ 3 ∧ 0 ≤ l ∧ l ≤ 24 := by
  simp only [sigB, inB, Bool.and_eq_true, decide_eq_true_eq] at h
  omega
set_option maxRecDepth 100000 in
set_option maxHeartbeats 8000000 in
theorem gatheringsOf_any (Pc : Value → List Chg → Prop) (hPn : Pc (.slice none 0 0) []) (hPs : ∀ v cs, Pc v cs → ∃ a cap, v = .slice a cs.length cap) (ys : List (Itm × Value)) (v : Value) (w : World) (hv : ItsAt w v ys) (hc : ∀ y ∈ ys, Pc y.2 y.1.chs) (hr : ∀ y ∈ ys, ItRead y.1) (hn : ys.length ≤ 1000) :
    Calls Tryz.prog 62 #[v] w fun e w' => (∃ v' zs, e = .returned v' ∧ zs.map (·.1) = gsOf (ys.map (·.1)) ∧ w'.ownsRow w.heap.size 42 4 v' zs.length (gtCells zs) ∧ ∀ z ∈ zs, Pc z.2 z.1.chs) ∧ Below w.heap.size w w' := by
  obtain ⟨a, cap, rfl, hcell⟩ := hv
  obtain ⟨n, hnn⟩ : ∃ n, n = ys.length := ⟨_, rfl⟩
  have HCE := Lib.hid hcell
  have HCH := Lib.hid hc
  have HRD := Lib.hid hr
  have HN := Lib.hid hnn
  have hn' : n ≤ 1000 := by omega
  rw [← hnn]
  have HPS := Lib.hid hPs
  clear hcell hc hr hnn hn hPs
  go_enter Tryz.func62, Tryz.ntmps62
  go_wp2
  go_step3
  go_wp2
  go_step3
  go_wp2
  go_loopg [3, 9] n (fun g v i wr => ∃ (k : Nat) (zs : List (Gth × Value)), k + g = n ∧ i = .int .i64 k ∧ zs.length ≤ k * 69 ∧ Hid (zs.map (·.1) = gsOf ((ys.take k).map (·.1))) ∧ Hid (Gat Pc w wr v zs))
  case atStart => exact ⟨0, [], by omega, rfl, by simp, rfl, World.ownsRow_nil _ _ _ _, fun z hz => (by cases hz), Below.refl _ _⟩
  case round =>
    obtain ⟨k, zs, hk, rfl, hzl, HZ, HG⟩ := hrel
    cases gk with
    | succ g =>
      have hlt : k < n := by omega
      obtain ⟨y, hy⟩ : ∃ y, ys[k]? = some y := ⟨_, List.getElem?_eq_getElem (by have := HN.out; omega)⟩
      have hym := List.mem_of_getElem? hy
      have hred := HRD.out y hym
      have hchs := HCH.out y hym
      obtain ⟨b, rfl, hbw, hcl⟩ := HCE.out (fun e => by rw [e] at hy; cases hy)
      obtain ⟨q0, q1, q2, q3, q4, q5, q6⟩ := hcl k y hy
      have hstep : Hid (gsOf ((ys.take (k + 1)).map (·.1)) = gsOf ((ys.take k).map (·.1)) ++ itmGs y.1) := by
        show _ = _
        rw [(take_split hy).2, List.map_append]
        simp [gsOf]
      obtain ⟨⟨kd, fr, fl, lr, ll, lv, chs⟩, cv⟩ := y
      dsimp only at hchs
      have HCC := Lib.hid hchs
      obtain ⟨ac, capc, rfl⟩ := HPS.out _ _ hchs
      dsimp only at q0 q1 q2 q3 q4 q5 q6
      have hcl' : ∀ i v, w.cell? ⟨b, i, none⟩ = some v → wr.cell? ⟨b, i, none⟩ = some v := fun i v h => (HG.out.below.cell (p := ⟨b, i, none⟩) hbw).trans h
      have q0 := hcl' _ _ q0
      have q1 := hcl' _ _ q1
      have q2 := hcl' _ _ q2
      have q3 := hcl' _ _ q3
      have q4 := hcl' _ _ q4
      have q5 := hcl' _ _ q5
      have q6 := hcl' _ _ q6
      obtain ⟨ei, hi1, hi2, hi3, hi4⟩ := elemGth
      have hz := HG.out.below.size
      have HRE := Lib.hid hred
      clear hcl hcl' hy hym hred
      rcases HRE.out.kind with ⟨hk0, -⟩ | ⟨hk1, -⟩
      · dsimp only at hk0
        subst hk0
        go_wp2_with (at_builtin; refine wpList_append_own _ rfl _ _ 22 rfl w.heap.size 42 ei _ 4 48 undGths hi1 hi2 hi3 hi4 rfl (by decide) u3 zs.length (gtCells zs) rfl ((HG.out.row.alloc _).alloc _) ⟨wr.heap.size + 1, 0, none⟩ 1 1 (gtC (⟨fr, fl, lv, chs⟩, .slice ac chs.length capc)) rfl rfl ?c1 ?c2 ?c3 ?c4 ?c5 ?c6)
        case c1 => intro j u h; exact h
        case c2 => exact gtC_one _ ⟨_, _, _, rfl⟩
        case c3 => simp only [maxLen]; omega
        case c4 => omega
        case c5 => omega
        case c6 =>
          rintro v' w' hown hgrow -
          have HG2 := Lib.hid (((HG.out.new _).new _).add (z := (⟨fr, fl, lv, chs⟩, .slice ac chs.length capc)) HCC.out hown hgrow)
          clear hown hgrow
          go_wp2_with fail
          go_roundg g
          case measure => omega
          case rel => exact ⟨k + 1, zs ++ [(⟨fr, fl, lv, chs⟩, .slice ac chs.length capc)], by omega, by go_num, (by rw [List.length_append, List.length_singleton]; omega), (by show _ = _; rw [hstep.out, List.map_append, HZ.out]; rfl), HG2⟩
      · dsimp only at hk1
        subst hk1
        have hb1 := sig_bounds HRE.out.first
        have hb2 := sig_bounds HRE.out.last
        obtain ⟨hfl, hll, hbeh, -⟩ : fl < 23 ∧ ll < 23 ∧ behindB lr ll fr fl = true ∧ chs = [] := by
          rcases HRE.out.kind with ⟨h, -⟩ | ⟨-, h⟩
          · exact absurd (show (1 : Int) = 0 from h) (by decide)
          · exact h
        dsimp only at hb1 hb2
        have hrk := rank_behind ⟨hb2.2.2.1, hll⟩ ⟨hb1.2.2.1, hfl⟩ hbeh
        obtain ⟨M, hM⟩ : ∃ M : Nat, M = (rankS lr ll - rankS fr fl).toNat := ⟨_, rfl⟩
        have hMb : (M : Int) = rankS lr ll - rankS fr fl := by omega
        have hM68 : M ≤ 68 := by unfold rankS at hMb; omega
        have hstep2 : Hid (gsOf ((ys.take (k + 1)).map (·.1)) = zs.map (·.1) ++ (runS M (fr, fl) (lr, ll)).map fun s => ⟨s.1, s.2, lv, []⟩) := by
          show _ = _
          rw [hstep.out, HZ.out, hM]
          simp [itmGs]
        clear hbeh hM hstep
        go_wp2_with fail
        obtain ⟨BX, hBX⟩ : ∃ BX, BX = wr.heap.size := ⟨_, rfl⟩
        obtain ⟨w1, hw1⟩ : ∃ w1, w1 = (wr.alloc (.cells #[.int .i64 1, .int .i64 fr, .int .i64 fl, .int .i64 lr, .int .i64 ll, .int .i64 lv, .slice ac chs.length capc] 102)).alloc (.cells #[.int .i64 fr, .int .i64 fl] 39) := ⟨_, rfl⟩
        have HS0 : Hid (Inn Pc w w1 BX (BX + 1) #[.int .i64 1, .int .i64 fr, .int .i64 fl, .int .i64 lr, .int .i64 ll, .int .i64 lv, .slice ac chs.length capc] fr fl u3 zs) := by
          show Inn _ _ _ _ _ _ _ _ _ _
          rw [hw1, hBX]
          exact ⟨(HG.out.new _).new _, (heap_alloc_past _ _ _ (by simp)).trans (heap_alloc_at _ _ _ rfl), heap_alloc_at _ _ _ (by simp)⟩
        have hBXs : w.heap.size ≤ BX := by omega
        rw [← hw1, ← hBX]
        clear hw1 hBX q0 q1 q2 q3 q4 q5 q6 hz
        go_loopg [3, 6] M (fun g2 v p wy => ∃ (zz : List (Gth × Value)) (r l : Int) (bs : Nat), p = .pointer (some ⟨bs, 0, none⟩) ∧ Hid (Inn Pc w wy BX bs #[.int .i64 1, .int .i64 fr, .int .i64 fl, .int .i64 lr, .int .i64 ll, .int .i64 lv, .slice ac chs.length capc] r l v zz) ∧
          1 ≤ r ∧ r ≤ 3 ∧ 0 ≤ l ∧ l < 23 ∧ (g2 : Int) = rankS lr ll - rankS r l ∧ zz.length + g2 ≤ zs.length + M ∧ Hid (zz.map (·.1) ++ (runS g2 (r, l) (lr, ll)).map (fun s => (⟨s.1, s.2, lv, []⟩ : Gth)) = gsOf ((ys.take (k + 1)).map (·.1))))
        case atStart => exact ⟨zs, fr, fl, BX + 1, rfl, HS0, by omega, by omega, by omega, by omega, hMb, by omega, hstep2.out.symm⟩
        case round =>
          obtain ⟨zz, r, l, bs, rfl, HS, r1, r2, l1, l2, hg2, hzz, HT⟩ := hrel
          clear HS0
          have x0 := blk_cell HS.out.bx 0; have x1 := blk_cell HS.out.bx 1; have x2 := blk_cell HS.out.bx 2; have x3 := blk_cell HS.out.bx 3; have x4 := blk_cell HS.out.bx 4; have x5 := blk_cell HS.out.bx 5; have x6 := blk_cell HS.out.bx 6
          have s0 := blk_cell HS.out.bs 0; have s1 := blk_cell HS.out.bs 1
          have hbs := blk_lt HS.out.bs
          have hbx := blk_lt HS.out.bx
          go_wp2_with (at_builtin; refine wpList_append_own _ rfl _ _ 22 rfl w.heap.size 42 ei _ 4 48 undGths hi1 hi2 hi3 hi4 rfl (by decide) _ zz.length (gtCells zz) rfl (HS.out.gat.row.alloc _) ⟨_, 0, none⟩ 1 1 (gtC (⟨r, l, lv, []⟩, .slice none 0 0)) rfl rfl ?c1 ?c2 ?c3 ?c4 ?c5 ?c6)
          case c1 => exact cells_new _ _ _
          case c2 => exact gtC_one _ ⟨_, _, _, rfl⟩
          case c3 => simp only [maxLen]; omega
          case c4 => omega
          case c5 => have := HS.out.gat.below.size; simp; omega
          case c6 =>
            rintro v' w' hown hgrow -
            have HS2 := Lib.hid ((HS.out.same (by exact (by repeat (first | exact Below.refl _ _ | assumption | (refine Below.alloc ?_ ?_ _; rotate_left; · (first | omega | (simp; done) | (simp; omega) | fail)) | (refine Below.setCell ?_ ?_ _; rotate_left; · (first | omega | (simp; done) | (simp; omega) | fail)) | refine Below.drew ?_ | fail)))).add (z := (⟨r, l, lv, []⟩, .slice none 0 0)) hPn hown hgrow)
            clear x0 x1 x2 x3 x4 x5 x6
            clear hown hgrow s0 s1 hbs hbx
            have x0 := blk_cell HS2.out.bx 0; have x1 := blk_cell HS2.out.bx 1; have x2 := blk_cell HS2.out.bx 2; have x3 := blk_cell HS2.out.bx 3; have x4 := blk_cell HS2.out.bx 4; have x5 := blk_cell HS2.out.bx 5; have x6 := blk_cell HS2.out.bx 6
            have s0 := blk_cell HS2.out.bs 0; have s1 := blk_cell HS2.out.bs 1
            cases gk with
            | zero =>
              obtain ⟨rfl, rfl⟩ := rank_inj (r := r) (l := l) (r' := lr) (l' := ll) ⟨l1, l2⟩ ⟨hb2.2.2.1, hll⟩ (by omega)
              go_wp2_with fail
              go_roundg g
              case measure => omega
              case rel =>
                refine ⟨k + 1, zz ++ [(⟨r, l, lv, []⟩, .slice none 0 0)], by omega, by go_num, (by rw [List.length_append, List.length_singleton]; omega), ?_, Lib.hid HS2.out.gat⟩
                show _ = _
                rw [← HT.out, List.map_append, runS_stop]
                rfl
            | succ g2 =>
              have hne : ¬ r = lr ∨ (r = lr ∧ ¬ l = ll) := by
                by_cases h : r = lr
                · refine Or.inr ⟨h, fun h' => ?_⟩
                  subst h h'
                  omega
                · exact Or.inl h
              have hrun : Hid (runS (g2 + 1) (r, l) (lr, ll) = (r, l) :: runS g2 (nextS r l) (lr, ll)) := by
                show _ = _
                simp only [runS]
                rw [if_neg]
                intro e
                simp only [Prod.mk.injEq] at e
                rcases hne with h | ⟨-, h⟩
                · exact h e.1
                · exact h e.2
              have hrn := rank_next (r := r) (l := l) l2
              have hnx := nextS_ok (r := r) (l := l) ⟨l1, l2⟩
              have hr3 : (nextS r l).1 ≤ 3 := by
                have : rankS (nextS r l).1 (nextS r l).2 ≤ rankS lr ll := by omega
                unfold rankS at this
                omega
              have hbs := blk_lt HS2.out.bs
              rcases hne with h | ⟨h, h'⟩
              · go_wp2_with fail
                refine (next_is r l _ (by omega) (by omega)).mono ?_
                rintro e w3 ⟨rfl, hb⟩
                have HS3 := Lib.hid (HS2.out.same (Below.trans (by exact (by repeat (first | exact Below.refl _ _ | assumption | (refine Below.alloc ?_ ?_ _; rotate_left; · (first | omega | (simp; done) | (simp; omega) | fail)) | (refine Below.setCell ?_ ?_ _; rotate_left; · (first | omega | (simp; done) | (simp; omega) | fail)) | refine Below.drew ?_ | fail))) (hb.mono (by simp))))
                have hq : w3.heap[w'.heap.size]? = some (.cells #[.int .i64 r, .int .i64 l] 39) := blk_later hb (heap_alloc_at _ _ _ rfl)
                have hxl := blk_lt HS2.out.bx
                have hwb := HS2.out.gat.below.size
                clear x0 x1 x2 x3 x4 x5 x6
                clear s0 s1 hb HS2
                have s0 := blk_cell hq 0; have s1 := blk_cell hq 1
                have y0 := blk_free hq 0; have y1 := blk_free hq 1
                have HQ := Lib.hid hq
                have hw' : w.heap.size ≤ w'.heap.size := by omega
                have hN1 : Hid (nextS r l = ((nextS r l).1, (nextS r l).2)) := by show _ = _; rfl
                obtain ⟨r', hr'⟩ : ∃ r', r' = (nextS r l).1 := ⟨_, rfl⟩
                obtain ⟨l', hl'⟩ : ∃ l', l' = (nextS r l).2 := ⟨_, rfl⟩
                rw [← hr', ← hl'] at hN1 hrn hnx ⊢
                rw [← hr'] at hr3
                clear hq hr' hl'
                go_wp2_with fail
                go_roundg g2
                case measure => omega
                case rel =>
                  refine ⟨zz ++ [(⟨r, l, lv, []⟩, .slice none 0 0)], r', l', w'.heap.size, rfl, ⟨((HS3.out.gat.set HQ.out (by decide) hw' _ _).set (by exact blk_set HQ.out 0 _) (by decide) hw' _ _), (by exact (by repeat (first | (refine (heap_setCell_past _ _ _ _ ?_).trans ?_; · (first | omega | (simp; done) | (simp; omega) | fail)) | (refine (heap_alloc_past _ _ _ ?_).trans ?_; · (first | omega | (simp; done) | (simp; omega) | fail)) | exact HS3.out.bx | fail))), blk_set2 HQ.out _ _⟩, by omega, by omega, by omega, by omega, by omega, (by rw [List.length_append, List.length_singleton]; omega), ?_⟩
                  show _ = _
                  rw [← HT.out, hrun.out, hN1.out, List.map_append, List.map_cons, List.append_assoc]
                  rfl
              · subst h
                go_wp2_with fail
                refine (next_is r l _ (by omega) (by omega)).mono ?_
                rintro e w3 ⟨rfl, hb⟩
                have HS3 := Lib.hid (HS2.out.same (Below.trans (by exact (by repeat (first | exact Below.refl _ _ | assumption | (refine Below.alloc ?_ ?_ _; rotate_left; · (first | omega | (simp; done) | (simp; omega) | fail)) | (refine Below.setCell ?_ ?_ _; rotate_left; · (first | omega | (simp; done) | (simp; omega) | fail)) | refine Below.drew ?_ | fail))) (hb.mono (by simp))))
                have hq : w3.heap[w'.heap.size]? = some (.cells #[.int .i64 r, .int .i64 l] 39) := blk_later hb (heap_alloc_at _ _ _ rfl)
                have hxl := blk_lt HS2.out.bx
                have hwb := HS2.out.gat.below.size
                clear x0 x1 x2 x3 x4 x5 x6
                clear s0 s1 hb HS2
                have s0 := blk_cell hq 0; have s1 := blk_cell hq 1
                have y0 := blk_free hq 0; have y1 := blk_free hq 1
                have HQ := Lib.hid hq
                have hw' : w.heap.size ≤ w'.heap.size := by omega
                have hN1 : Hid (nextS r l = ((nextS r l).1, (nextS r l).2)) := by show _ = _; rfl
                obtain ⟨r', hr'⟩ : ∃ r', r' = (nextS r l).1 := ⟨_, rfl⟩
                obtain ⟨l', hl'⟩ : ∃ l', l' = (nextS r l).2 := ⟨_, rfl⟩
                rw [← hr', ← hl'] at hN1 hrn hnx ⊢
                rw [← hr'] at hr3
                clear hq hr' hl'
                go_wp2_with fail
                go_roundg g2
                case measure => omega
                case rel =>
                  refine ⟨zz ++ [(⟨r, l, lv, []⟩, .slice none 0 0)], r', l', w'.heap.size, rfl, ⟨((HS3.out.gat.set HQ.out (by decide) hw' _ _).set (by exact blk_set HQ.out 0 _) (by decide) hw' _ _), (by exact (by repeat (first | (refine (heap_setCell_past _ _ _ _ ?_).trans ?_; · (first | omega | (simp; done) | (simp; omega) | fail)) | (refine (heap_alloc_past _ _ _ ?_).trans ?_; · (first | omega | (simp; done) | (simp; omega) | fail)) | exact HS3.out.bx | fail))), blk_set2 HQ.out _ _⟩, by omega, by omega, by omega, by omega, by omega, (by rw [List.length_append, List.length_singleton]; omega), ?_⟩
                  show _ = _
                  rw [← HT.out, hrun.out, hN1.out, List.map_append, List.map_cons, List.append_assoc]
                  rfl
    | zero =>
      obtain rfl : k = n := by omega
      have hF : Hid (gsOf (ys.map (·.1)) = zs.map (·.1)) := by show _ = _; rw [HZ.out, HN.out, List.take_length]
      have hlt : ¬ ((k : Int) < (k : Int)) := by omega
      go_wp2_with fail
      try rw [Exit.noGoto_ret]
      go_ret
      exact ⟨⟨_, zs, rfl, hF.out.symm, HG.out.row, HG.out.chs⟩, HG.out.below⟩

end Go.Proofs.YtlfglbnbenaghaaGreatDoor

/- Contract of the reader: a formula. -/
namespace Go.Proofs.YtlfglbnbenaghaaGreatDoor
set_option linter.unusedSimpArgs false
set_option linter.unusedVariables false
open Go Go.RowKit Go.Sort Go.BigFrame

/-- Gatherings in new blocks. -/
def GsIn (lo : Nat) (W : World) (v : Value) (gs : List Gth) : Prop :=
  ∃ zs : List (Gth × Value), zs.map (·.1) = gs ∧ W.ownsRow lo 42 4 v zs.length (gtCells zs) ∧ ∀ z ∈ zs, ChsIn lo W z.2 z.1.chs
theorem GsIn.at_ {lo : Nat} {W : World} {v : Value} {gs : List Gth} (h : GsIn lo W v gs) : GsAt W.heap.size W v gs := by
  obtain ⟨zs, rfl, hr, hc⟩ := h
  exact GsAt.of_row hr fun z hz => (hc z hz).at_
theorem row_only {W W' : World} {X : Nat → Prop} {base : Nat} {e : TypeId} {size k : Nat} {v : Value} {xs : List Value} (h : W.ownsRow base e size v k xs) (ho : OnlyIn X W W') (hX : ∀ j, X j → j < base) : W'.ownsRow base e size v k xs := by
  refine ⟨h.1, h.2.imp id fun ⟨g, cap, cur, he, hb, hg, rest⟩ => ⟨g, cap, cur, he, hb, ?_, rest⟩⟩
  exact (ho.block g (blk_lt hg) (fun hx => by have := hX _ hx; omega)).trans hg
theorem GsIn.only {lo : Nat} {W W' : World} {v : Value} {gs : List Gth} {X : Nat → Prop} (h : GsIn lo W v gs) (ho : OnlyIn X W W') (hX : ∀ k, X k → k < lo) : GsIn lo W' v gs := by
  obtain ⟨zs, h1, hr, hc⟩ := h
  exact ⟨zs, h1, row_only hr ho hX, fun z hz => (hc z hz).only ho hX⟩
theorem GsIn.mono {lo lo' : Nat} {W : World} {v : Value} {gs : List Gth} (h : GsIn lo W v gs) (hl : lo' ≤ lo) : GsIn lo' W v gs := by
  obtain ⟨zs, h1, hr, hc⟩ := h
  exact ⟨zs, h1, row_mono hr hl, fun z hz => (hc z hz).mono hl⟩
/-- A book in new blocks. -/
def BookIn (lo : Nat) (W : World) (v : Value) (b : Bk) : Prop := ∃ sv, v = .agg #[.int .i64 b.signed, sv] ∧ GsIn lo W sv b.gs
theorem BookIn.at_ {lo : Nat} {W : World} {v : Value} {b : Bk} (h : BookIn lo W v b) : BookAt W.heap.size W v b := by
  obtain ⟨sv, rfl, h⟩ := h
  exact ⟨sv, rfl, h.at_⟩
def BkPost (R : Nat) (r : Option (Bk × Bs)) (w : World) (e : Ending) (w' : World) : Prop := match r with
  | some (b, t) => (∃ v, e = .returned v ∧ BookIn w.heap.size w' v b) ∧ Rw R t w w'
  | none => e = panicE ∧ ∃ t, Rw R t w w'
theorem BkPost.fail {R : Nat} {r : Option (Bk × Bs)} {w w' : World} {t : Bs} (hr : r = none) (h : Rw R t w w') : BkPost R r w panicE w' := by subst hr; exact ⟨rfl, t, h⟩
theorem BkPost.done {R : Nat} {r : Option (Bk × Bs)} {w w' : World} {t : Bs} {b : Bk} {v : Value} (hr : r = some (b, t)) (hv : BookIn w.heap.size w' v b) (h : Rw R t w w') : BkPost R r w (.returned v) w' := by subst hr; exact ⟨⟨v, rfl, hv⟩, h⟩

theorem elemIt : ∃ i, Tryz.prog.info? 102 = some i ∧ i.zero = some (.agg #[.int .i64 0, .int .i64 0, .int .i64 0, .int .i64 0, .int .i64 0, .int .i64 0, .slice none 0 0]) ∧ i.size = 7 ∧ i.bytes = 72 := elemOf (by kernel_rfl)
theorem undIts : Tryz.prog.underlying 61 = some (.slice 102) := by kernel_rfl

/-- The state of the reading of a formula. -/
structure RdB (w W : World) (R : Nat) (u : Bs) (v : Value) (ys : List (Itm × Value)) : Prop where
  b0 : W.heap[w.heap.size]? = some (.cells #[.int .i64 0, .slice none 0 0] 24)
  rd : Rd W R u
  only : OnlyIn (fun k => k = R) w W
  lt : R < w.heap.size
  row : W.ownsRow w.heap.size 102 7 v ys.length (itCells ys)
  chs : ∀ y ∈ ys, ChsIn (w.heap.size + 1) W y.2 y.1.chs
  ok : ∀ y ∈ ys, ItRead y.1
theorem RdB.call {w W W' : World} {R : Nat} {u t : Bs} {v : Value} {ys : List (Itm × Value)} (h : RdB w W R u v ys) (k : Rw R t W W') : RdB w W' R t v ys :=
  ⟨k.block h.b0 (by have := h.lt; omega), k.rd, h.only.trans k.only, h.lt, row_only h.row k.only (fun j e => by have := h.lt; omega), fun y hy => (h.chs y hy).only k.only (fun j e => by have := h.lt; omega), h.ok⟩
theorem RdB.same {w W W' : World} {R : Nat} {u : Bs} {v : Value} {ys : List (Itm × Value)} (h : RdB w W R u v ys) (k : Below W.heap.size W W') : RdB w W' R u v ys :=
  ⟨blk_later k h.b0, blk_later k h.rd, h.only.trans (OnlyIn.of_below k), h.lt, row_later h.row k, fun y hy => (h.chs y hy).only (OnlyIn.of_below (X := fun _ => False) k) (fun _ h => h.elim), h.ok⟩
theorem RdB.ne {w W : World} {R : Nat} {u : Bs} {v : Value} {ys : List (Itm × Value)} (h : RdB w W R u v ys) {c : Array Value} {t : TypeId} {f : Nat × Nat} (ht : t ≠ 102) : ∀ g, v.ownBlock = some g → W.heap[g]? ≠ some (.cells c t f) := by
  intro g hg e
  rcases h.row.2 with ⟨rfl, -⟩ | ⟨g', cap, cur, rfl, hb, hgg, rest⟩
  · simp [Value.ownBlock] at hg
  · simp only [Value.ownBlock, Option.some.injEq] at hg
    subst hg
    rw [hgg] at e
    simp only [Option.some.injEq, Obj.cells.injEq] at e
    exact ht e.2.1.symm
theorem RdB.add {w W W' : World} {R : Nat} {u : Bs} {v v' : Value} {ys : List (Itm × Value)} {y : Itm × Value} (h : RdB w W R u v ys) (hy : ChsIn (w.heap.size + 1) W y.2 y.1.chs) (hok : ItRead y.1) (hr : W'.ownsRow w.heap.size 102 7 v' (ys.length + 1) (itCells ys ++ itC y)) (hg : W.grownBy W' v.ownBlock) : RdB w W' R u v' (ys ++ [y]) := by
  have hrow : ∀ g, v.ownBlock = some g → ∃ c t f, W.heap[g]? = some (.cells c t f) ∧ t ≠ 44 := fun g hg => by
    rcases h.row.2 with ⟨rfl, -⟩ | ⟨g', cap, cur, rfl, hb, hgg, rest⟩
    · simp [Value.ownBlock] at hg
    · simp only [Value.ownBlock, Option.some.injEq] at hg
      subst hg
      exact ⟨_, _, _, hgg, by decide⟩
  refine ⟨(hg.block _ (blk_lt h.b0) (fun e => h.ne (by decide) _ e.symm h.b0)).trans h.b0, (hg.block _ (blk_lt h.rd) (fun e => h.ne (by decide) _ e.symm h.rd)).trans h.rd, ?_, h.lt, by rw [List.length_append]; simpa [itCells] using hr, fun z hz => ?_, fun z hz => ?_⟩
  · refine h.only.fresh ⟨hg.os, hg.tape, hg.output, hg.size, fun j hj hx => hg.block j hj (fun e => ?_)⟩
    have := (h.row.lt j e.symm).1
    exact hx this
  · rcases List.mem_append.1 hz with hz | hz
    · exact (h.chs z hz).grown hg hrow
    · simp only [List.mem_singleton] at hz; subst hz; exact hy.grown hg hrow
  · rcases List.mem_append.1 hz with hz | hz
    · exact h.ok z hz
    · simp only [List.mem_singleton] at hz; subst hz; exact hok
theorem RdB.rw {w W : World} {R : Nat} {u : Bs} {v : Value} {ys : List (Itm × Value)} (h : RdB w W R u v ys) : Rw R u w W := ⟨h.rd, h.only⟩
theorem itC_one (y : Itm × Value) (h : ∃ a n c, y.2 = .slice a n c) : ∀ u ∈ itC y, u.oneCell' = true := by
  obtain ⟨a, n, c, h⟩ := h
  intro u hu
  simp only [itC, List.mem_cons, List.not_mem_nil, or_false] at hu
  rcases hu with rfl | rfl | rfl | rfl | rfl | rfl | rfl <;> first | rfl | (rw [h]; rfl)

set_option maxRecDepth 100000 in
set_option maxHeartbeats 8000000 in
theorem readBook_any (R : Nat) (s : Bs) (w : World) (hr : Rd w R s) (hs : s.length ≤ 1000) :
    Calls Tryz.prog 28 #[.pointer (some ⟨R, 0, none⟩)] w (BkPost R (bookF s) w) := by
  have hR := blk_lt hr
  have H0 : Hid (RdB w (w.alloc (.cells #[.int .i64 0, .slice none 0 0] 24)) R s (.slice none 0 0) []) :=
    ⟨heap_alloc_at _ _ _ rfl, (heap_alloc_past _ _ _ hR).trans hr, OnlyIn.alloc _ _ _, hR, World.ownsRow_nil _ _ _ _, fun y hy => (by cases hy), fun y hy => (by cases hy)⟩
  clear hr hR
  go_enter Tryz.func28, Tryz.ntmps28
  go_wp2_with fail
  go_loopg [3] s.length (fun g v wr => ∃ (ys : List (Itm × Value)) (u : Bs), u.length = g ∧ ys.length + u.length ≤ s.length ∧ Hid (itemsF (s.length + 1) s = (itemsF (u.length + 1) u).map fun r => (ys.map (·.1) ++ r.1, r.2)) ∧ Hid (RdB w wr R u v ys))
  case atStart => exact ⟨[], s, rfl, by simp, (by show _ = _; cases itemsF (s.length + 1) s <;> rfl), H0⟩
  case round =>
    obtain ⟨ys, u, hu, hyl, HF, HB⟩ := hrel
    clear H0
    cases hs1 : skipF [36] u with
    | some t =>
      have hl := skipF_len hs1
      have hI : Hid (itemsF (s.length + 1) s = some (ys.map (·.1), t)) := by
        show _ = _
        rw [HF.out]
        simp [itemsF, hs1]
      go_wp2_with fail
      refine (skip_yes R u [36] t _ HB.out.rd hs1).mono ?_
      rintro e w1 ⟨rfl, hw⟩
      have HB := Lib.hid (HB.out.call hw)
      clear hw hs1 HF
      go_wp2_with fail
      refine (number_any R t _ HB.out.rd).mono ?_
      intro e w2 hp
      cases hl : numberF t with
      | none =>
        rw [hl] at hp
        obtain ⟨rfl, t', hw⟩ := hp
        have hF : Hid (bookF s = none) := by show _ = _; simp [bookF, hI.out, hl]
        have HB := Lib.hid (HB.out.call hw)
        clear hw hl
        go_wp2_with fail
        exact ⟨rfl, BkPost.fail hF.out HB.out.rw⟩
      | some p =>
        obtain ⟨n, t2⟩ := p
        rw [hl] at hp
        obtain ⟨rfl, hw⟩ := hp
        have hF : Hid (bookF s = some (⟨n, gsOf (ys.map (·.1))⟩, t2)) := by show _ = _; simp [bookF, hI.out, hl]
        have HB := Lib.hid (HB.out.call hw)
        clear hw hl
        go_wp2_with fail
        refine (gatheringsOf_any (ChsIn (w.heap.size + 1) w2) ⟨none, 0, rfl, fun h => absurd rfl h⟩ (fun v cs h => by obtain ⟨a, cap, rfl, -⟩ := h; exact ⟨a, cap, rfl⟩) ys _ _ (ItsAt.of_row HB.out.row) HB.out.chs HB.out.ok (by omega)).mono ?_
        rintro e w3 ⟨⟨v', zs, rfl, hzs, hrow, hch⟩, hb⟩
        obtain ⟨av, nv, cv, rfl⟩ : ∃ a n c, v' = .slice a n c := by
          rcases hrow.2 with ⟨rfl, -⟩ | ⟨g', cap, cur, rfl, -⟩
          · exact ⟨_, _, _, rfl⟩
          · exact ⟨_, _, _, rfl⟩
        have hsz := blk_lt HB.out.b0
        have HG : Hid (GsIn (w.heap.size + 1) w3 (.slice av nv cv) (gsOf (ys.map (·.1)))) := ⟨zs, hzs, row_mono hrow hsz, fun z hz => (hch z hz).only (OnlyIn.of_below (X := fun _ => False) hb) (fun _ h => h.elim)⟩
        have HB := Lib.hid (HB.out.same hb)
        clear hb hzs hrow hch
        have z0 := blk_cell HB.out.b0 0; have z1 := blk_cell HB.out.b0 1
        have y0 := blk_free HB.out.b0 0; have y1 := blk_free HB.out.b0 1
        go_wp2_with fail
        refine bodyPost_ret (v := .agg #[.int .i64 n, .slice av nv cv]) (by simp [results, Tryz.results28, go_sem, z0, z1]) rfl ?_
        have hO := (OnlyIn.setCell (X := fun k => k = w.heap.size) w3 ⟨w.heap.size, 0, none⟩ (.int .i64 n) rfl).trans (OnlyIn.setCell _ ⟨w.heap.size, 1, none⟩ (.slice av nv cv) rfl)
        exact BkPost.done hF.out ⟨_, rfl, (HG.out.only hO (fun k h => by omega)).mono (by omega)⟩ ⟨(by exact (heap_setCell_past _ _ _ _ (by have := HB.out.lt; simp; omega)).trans ((heap_setCell_past _ _ _ _ (by have := HB.out.lt; simp; omega)).trans HB.out.rd)), (HB.out.only.setNew _ _ (by simp)).setNew _ _ (by simp)⟩
    | none =>
      go_wp2_with fail
      refine (skip_no R u [36] _ HB.out.rd hs1).mono ?_
      rintro e w1 ⟨rfl, hw⟩
      have HB := Lib.hid (HB.out.call hw)
      have HS1 := Lib.hid hs1
      clear hw hs1
      go_wp2_with fail
      refine (item_any R u _ HB.out.rd).mono ?_
      intro e w2 hp
      cases hl : itemF u with
      | none =>
        rw [hl] at hp
        obtain ⟨rfl, t', hw⟩ := hp
        have hF : Hid (bookF s = none) := by show _ = _; unfold bookF; rw [HF.out]; simp [itemsF, HS1.out, hl]
        have HB := Lib.hid (HB.out.call hw)
        clear hw hl
        go_wp2_with fail
        exact ⟨rfl, BkPost.fail hF.out HB.out.rw⟩
      | some p =>
        obtain ⟨x, t⟩ := p
        rw [hl] at hp
        obtain ⟨⟨cv, rfl, hcv⟩, hw⟩ := hp
        obtain ⟨hlt, hok⟩ := itemF_len hl
        have HL := Lib.hid hl
        have hz1 := blk_lt HB.out.b0
        have HC := Lib.hid (hcv.mono (show w.heap.size + 1 ≤ w1.heap.size by omega))
        have HK := Lib.hid hok
        obtain ⟨ac, nc, cc, rfl⟩ : ∃ a n c, cv = .slice a n c := by obtain ⟨a, cap, rfl, -⟩ := hcv; exact ⟨_, _, _, rfl⟩
        have HB := Lib.hid (HB.out.call hw)
        have hz := HB.out.only.size
        obtain ⟨ei, hi1, hi2, hi3, hi4⟩ := elemIt
        obtain ⟨xk, xfr, xfl, xlr, xll, xlv, xch⟩ := x
        dsimp only [itmV]
        clear hw hl hcv hok
        go_wp2_with (at_builtin; refine wpList_append_own _ rfl _ _ 61 rfl w.heap.size 102 ei _ 7 72 undIts hi1 hi2 hi3 hi4 rfl (by decide) _ ys.length (itCells ys) rfl ((HB.out.row.alloc _).alloc _) ⟨_, 0, none⟩ 1 1 (itC (⟨xk, xfr, xfl, xlr, xll, xlv, xch⟩, .slice ac nc cc)) rfl rfl ?c1 ?c2 ?c3 ?c4 ?c5 ?c6)
        case c1 => intro j u h; exact h
        case c2 => exact itC_one _ ⟨_, _, _, rfl⟩
        case c3 => simp only [maxLen]; omega
        case c4 => omega
        case c5 => omega
        case c6 =>
          rintro v' w' hown hgrow -
          have HB2 := Lib.hid ((HB.out.same (by exact (by repeat (first | exact Below.refl _ _ | assumption | (refine Below.alloc ?_ ?_ _; rotate_left; · (first | omega | (simp; done) | (simp; omega) | fail)) | (refine Below.setCell ?_ ?_ _; rotate_left; · (first | omega | (simp; done) | (simp; omega) | fail)) | refine Below.drew ?_ | fail)))).add (y := (⟨xk, xfr, xfl, xlr, xll, xlv, xch⟩, .slice ac nc cc)) (HC.out.only (OnlyIn.of_below (X := fun _ => False) (by exact (by repeat (first | exact Below.refl _ _ | assumption | (refine Below.alloc ?_ ?_ _; rotate_left; · (first | omega | (simp; done) | (simp; omega) | fail)) | (refine Below.setCell ?_ ?_ _; rotate_left; · (first | omega | (simp; done) | (simp; omega) | fail)) | refine Below.drew ?_ | fail)))) (fun _ h => h.elim)) HK.out hown hgrow)
          clear hown hgrow HB
          cases hs2 : skipF [32] t with
          | none =>
            have hF : Hid (bookF s = none) := by show _ = _; unfold bookF; rw [HF.out]; simp [itemsF, HS1.out, HL.out, hs2]
            go_wp2_with fail
            refine (must_no R t [32] _ HB2.out.rd hs2).mono ?_
            rintro e w4 ⟨rfl, hw⟩
            have HB := Lib.hid (HB2.out.call hw)
            clear hw hs2
            go_wp2_with fail
            exact ⟨rfl, BkPost.fail hF.out HB.out.rw⟩
          | some t2 =>
            have hl2 := skipF_len hs2
            simp only [List.length_cons, List.length_nil] at hl2
            have hF : Hid (itemsF (s.length + 1) s = (itemsF (t2.length + 1) t2).map fun r => ((ys ++ [((⟨xk, xfr, xfl, xlr, xll, xlv, xch⟩ : Itm), Value.slice ac nc cc)]).map (·.1) ++ r.1, r.2)) := by
              show _ = _
              rw [HF.out, itemsF_step HS1.out HL.out hs2]
              have e := itemsF_more (f := t2.length + 1) (s := t2) (u.length - (t2.length + 1)) (by omega)
              rw [show t2.length + 1 + (u.length - (t2.length + 1)) = u.length by omega] at e
              rw [e, Option.map_map]
              congr 1
              funext r
              simp
            go_wp2_with fail
            refine (must_yes R t [32] t2 _ HB2.out.rd hs2).mono ?_
            rintro e w4 ⟨rfl, hw⟩
            have HB := Lib.hid (HB2.out.call hw)
            clear hw hs2
            go_wp2_with fail
            go_roundg t2.length
            case measure => omega
            case rel => exact ⟨_, t2, rfl, (by rw [List.length_append, List.length_singleton]; omega), hF, HB⟩

end Go.Proofs.YtlfglbnbenaghaaGreatDoor

/- Contracts of parse: a text is read whole, or not. -/
namespace Go.Proofs.YtlfglbnbenaghaaGreatDoor
set_option linter.unusedSimpArgs false
set_option linter.unusedVariables false
open Go Go.RowKit Go.Sort Go.BigFrame

/-- The deferred function of parse has caught a panic: both results are those of an error. -/
structure Caught (p q : Nat) (z : Array Value) (tp tq : TypeId) (w w' : World) : Prop where
  bp : w'.heap[p]? = some (.cells z tp)
  bq : w'.heap[q]? = some (.cells #[.int .i64 6] tq)
  only : OnlyIn (fun k => k = p ∨ k = q) w w'

theorem catchB_panicking (p q : Nat) (x0 x1 y0 : Value) (tp tq : TypeId) (u : TypeId) (pv : Value) (older : List PanicEntry) (w : World) (hp : w.heap[p]? = some (.cells #[x0, x1] tp)) (hq : w.heap[q]? = some (.cells #[y0] tq)) (hpq : p ≠ q) :
    CallsD Tryz.prog 56 #[.pointer (some ⟨p, 0, none⟩), .pointer (some ⟨q, 0, none⟩)] (.panicking ({ v := .iface u pv, recovered := false } :: older)) w fun e u' w' =>
      e = .returned (.tuple #[]) ∧ u' = .panicking ({ v := .iface u pv, recovered := true } :: older) ∧ Caught p q #[.int .i64 0, .slice none 0 0] tp tq w w' := by
  refine callsD_of_wpS Tryz.func56 rfl fun c₀ cs hu => ?_
  apply wpS_seq
  apply wpS_region
  simp [wpOpsS, go_sem, recoverD, hu, Tryz.ntmps56, Exit.thenS]
  refine wpS_cond (t := true) (by simp [Act.eval, Array.replicate]) ?_
  simp only [if_true]
  refine wpS_of_wp ?_
  have c0 := blk_cell hp 0; have c1 := blk_cell hp 1
  have f0 := blk_free hp 0; have f1 := blk_free hp 1
  have d0 := blk_cell hq 0
  have g0 := blk_free hq 0
  have hlp := blk_lt hp
  have hlq := blk_lt hq
  have HU := Lib.hid hu
  have HP := Lib.hid hp
  have HQ := Lib.hid hq
  clear hp hq hu
  simp only [Array.replicate_succ, Array.replicate_zero, List.push_toArray, List.append_toArray, List.nil_append, List.cons_append, List.setIfInBounds_toArray, List.set_cons_succ, List.set_cons_zero, List.push_toArray]
  go_wp2_with fail
  refine ⟨rfl, _, rfl, _, results_none rfl _ _ _, rfl, rfl, ?_, ?_, ?_⟩
  · exact (heap_alloc_past _ _ _ (by simpa using hlp)).trans ((heap_setCell_past _ _ _ _ hpq).trans (blk_set2 HP.out _ _))
  · exact (heap_alloc_past _ _ _ (by simpa using hlq)).trans (blk_set1 ((heap_setCell_past _ _ _ _ (Ne.symm hpq)).trans ((heap_setCell_past _ _ _ _ (Ne.symm hpq)).trans HQ.out)) _)
  · exact (((OnlyIn.setCell _ _ _ (Or.inl rfl)).trans (OnlyIn.setCell _ _ _ (Or.inl rfl))).trans (OnlyIn.setCell _ _ _ (Or.inr rfl))).trans (OnlyIn.alloc _ _ _)
theorem catchB_idle (p q : Nat) (w : World) :
    CallsD Tryz.prog 56 #[.pointer (some ⟨p, 0, none⟩), .pointer (some ⟨q, 0, none⟩)] .returning w fun e u' w' => e = .returned (.tuple #[]) ∧ u' = .returning ∧ w' = w := by
  refine callsD_of_wpS Tryz.func56 rfl fun c₀ cs hu => ?_
  apply wpS_seq
  apply wpS_region
  simp [wpOpsS, go_sem, recoverD, hu, Tryz.ntmps56, Exit.thenS]
  refine wpS_cond (t := false) (by simp [Act.eval, Array.replicate]) ?_
  simp only [Bool.false_eq_true, if_false]
  refine wpS_of_wp (wp_skip ?_)
  cases c₀
  simp_all [bodyPostS, results, Tryz.results56]

/-- What parse hands back of a formula. -/
def ParsedB (r : Option Bk) (w : World) (e : Ending) (w' : World) : Prop := match r with
  | some b => (∃ v, e = .returned (.tuple #[v, .int .i64 0]) ∧ BookIn w.heap.size w' v b) ∧ Below w.heap.size w w'
  | none => e = .returned (.tuple #[.agg #[.int .i64 0, .slice none 0 0], .int .i64 6]) ∧ Below w.heap.size w w'

set_option maxRecDepth 100000 in
set_option maxHeartbeats 4000000 in
theorem parseB_any (s : Bs) (w : World) (hs : s.length ≤ 1000) :
    Calls Tryz.prog 27 #[S s, .func (.func 28) #[] #[]] w (ParsedB (allF (bookF s)) w) := by
  have hmf : ∀ (fn : Fn) (first cap : Array Value) (w : World), (Instr.makeFunc fn first cap).run Tryz.prog w = .ok (.func fn first cap) w := fun _ _ _ _ => rfl
  obtain ⟨w1, hw1⟩ : ∃ w1, w1 = ((w.alloc (.cells #[.int .i64 0, .slice none 0 0] 24)).alloc (.cells #[.int .i64 0] 25)).alloc (.cells #[S s] 109) := ⟨_, rfl⟩
  go_enter_defers Tryz.func27, Tryz.ntmps27
  go_wp2_with fail
  rw [← hw1]
  have p1 : w1.heap[w.heap.size]? = some (.cells #[.int .i64 0, .slice none 0 0] 24) := by rw [hw1]; exact (by repeat (first | exact heap_alloc_at _ _ _ (by (first | omega | (simp; done) | (simp; omega) | fail)) | (refine (heap_alloc_past _ _ _ ?_).trans ?_; · (first | omega | (simp; done) | (simp; omega) | fail)) | fail))
  have q1 : w1.heap[w.heap.size + 1]? = some (.cells #[.int .i64 0] 25) := by rw [hw1]; exact (by repeat (first | exact heap_alloc_at _ _ _ (by (first | omega | (simp; done) | (simp; omega) | fail)) | (refine (heap_alloc_past _ _ _ ?_).trans ?_; · (first | omega | (simp; done) | (simp; omega) | fail)) | fail))
  have r1 : Rd w1 (w.heap.size + 1 + 1) s := by rw [hw1]; exact (by repeat (first | exact heap_alloc_at _ _ _ (by (first | omega | (simp; done) | (simp; omega) | fail)) | (refine (heap_alloc_past _ _ _ ?_).trans ?_; · (first | omega | (simp; done) | (simp; omega) | fail)) | fail))
  have hb1 : Below w.heap.size w w1 := by rw [hw1]; exact (by repeat (first | exact Below.refl _ _ | assumption | (refine Below.alloc ?_ ?_ _; rotate_left; · (first | omega | (simp; done) | (simp; omega) | fail)) | (refine Below.setCell ?_ ?_ _; rotate_left; · (first | omega | (simp; done) | (simp; omega) | fail)) | refine Below.drew ?_ | fail))
  have hz1 : w1.heap.size = w.heap.size + 3 := by rw [hw1]; simp
  have hz1a : w1.heap.size ≤ w.heap.size + 3 := by omega
  have hz1b : w.heap.size + 3 ≤ w1.heap.size := by omega
  have HP := Lib.hid p1
  have HQ := Lib.hid q1
  have HB := Lib.hid hb1
  clear hw1 p1 q1 hb1 hz1
  refine (readBook_any _ s _ r1 hs).mono ?_
  intro e w2 hp
  cases hl : bookF s with
  | none =>
    rw [hl] at hp
    obtain ⟨rfl, t', hw⟩ := hp
    have hF : Hid (allF (none : Option (Bk × Bs)) = none) := by show _ = _; rfl
    have p2 := hw.block HP.out (by omega)
    have q2 := hw.block HQ.out (by omega)
    have HB2 := Lib.hid (hw.below HB.out (by omega) (by omega))
    have HP2 := Lib.hid p2
    have HQ2 := Lib.hid q2
    clear hw hl p2 q2 r1
    go_wp2_with fail
    refine leaves_cons (f := 56) (args := #[.pointer (some ⟨w.heap.size, 0, none⟩), .pointer (some ⟨w.heap.size + 1, 0, none⟩)]) (by simp) (by simp [go_sem]) ?_
    refine (catchB_panicking _ _ _ _ _ _ _ _ _ [] _ HP2.out HQ2.out (by omega)).mono ?_
    rintro e u' w3 ⟨rfl, rfl, hc⟩
    have hbz := HB2.out.size
    have HBF := Lib.hid (hc.only.below HB2.out hbz (fun k h => by omega))
    have c0 := blk_cell hc.bp 0; have c1 := blk_cell hc.bp 1
    have d0 := blk_cell hc.bq 0
    simp [Leaves, settle, results, Tryz.results27, go_sem, c0, c1, d0]
    first
    | exact ⟨rfl, HBF.out⟩
    | (show ParsedB (allF (bookF s)) _ _ _; rw [HL.out]; exact ⟨rfl, HBF.out⟩)
  | some p =>
    obtain ⟨b, t⟩ := p
    rw [hl] at hp
    obtain ⟨⟨v, rfl, hv⟩, hw⟩ := hp
    have HL := Lib.hid hl
    have HV := Lib.hid hv
    obtain ⟨sv, rfl, hsv⟩ := hv
    obtain ⟨a, n, c, rfl⟩ : ∃ a n c, sv = .slice a n c := by
      obtain ⟨zs, -, hrow, -⟩ := hsv
      rcases hrow.2 with ⟨rfl, -⟩ | ⟨g', cap, cur, rfl, -⟩
      · exact ⟨_, _, _, rfl⟩
      · exact ⟨_, _, _, rfl⟩
    have p2 := hw.block HP.out (by omega)
    have q2 := hw.block HQ.out (by omega)
    have hR2 := hw.rd
    have HB2 := Lib.hid (hw.below HB.out (by omega) (by omega))
    have HP2 := Lib.hid p2
    have HQ2 := Lib.hid q2
    have HR2 := Lib.hid hR2
    have hz2 := hw.size
    have c0 := blk_cell p2 0; have c1 := blk_cell p2 1
    have f0 := blk_free p2 0; have f1 := blk_free p2 1
    have d0 := blk_cell q2 0
    have g0 := blk_free q2 0
    have r0 := blk_cell hR2 0
    clear hw hl p2 q2 r1 hsv hR2
    cases t with
    | nil =>
      have hF : Hid (allF (some (b, ([] : Bs))) = some b) := by show _ = _; rfl
      go_wp2_with fail
      obtain ⟨w5, hw5⟩ : ∃ w5, w5 = ((((w2.setCell ⟨w.heap.size, 0, none⟩ (.int .i64 b.signed)).setCell ⟨w.heap.size, 1, none⟩ (.slice a n c)).setCell ⟨w.heap.size, 0, none⟩ (.int .i64 b.signed)).setCell ⟨w.heap.size, 1, none⟩ (.slice a n c)).setCell ⟨w.heap.size + 1, 0, none⟩ (.int .i64 0) := ⟨_, rfl⟩
      have hO : OnlyIn (fun k => k = w.heap.size ∨ k = w.heap.size + 1) w2 w5 := by
        rw [hw5]
        exact ((((OnlyIn.setCell _ _ _ (Or.inl rfl)).trans (OnlyIn.setCell _ _ _ (Or.inl rfl))).trans (OnlyIn.setCell _ _ _ (Or.inl rfl))).trans (OnlyIn.setCell _ _ _ (Or.inl rfl))).trans (OnlyIn.setCell _ _ _ (Or.inr rfl))
      have HBF := Lib.hid (hO.below HB2.out HB2.out.size (fun k h => by omega))
      have HVF : Hid (BookIn w.heap.size w5 (.agg #[.int .i64 b.signed, .slice a n c]) b) := by
        obtain ⟨sv, he, hg⟩ := HV.out
        exact ⟨sv, he, (hg.only hO (fun k h => by omega)).mono (by omega)⟩
      have h5 : w5.heap[w.heap.size]? = some (.cells #[.int .i64 b.signed, .slice a n c] 24) := by
        rw [hw5]; exact (heap_setCell_past _ _ _ _ (by simp)).trans (blk_set2 (blk_set2 HP2.out _ _) _ _)
      have h6 : w5.heap[w.heap.size + 1]? = some (.cells #[.int .i64 0] 25) := by
        rw [hw5]; exact blk_set1 (by repeat (first | (refine (heap_setCell_past _ _ _ _ ?_).trans ?_; · (first | omega | (simp; done) | (simp; omega) | fail)) | (refine (heap_alloc_past _ _ _ ?_).trans ?_; · (first | omega | (simp; done) | (simp; omega) | fail)) | exact HQ2.out | fail)) _
      rw [← hw5]
      clear hw5 hO c0 c1 f0 f1 d0 g0 r0
      refine leaves_cons (f := 56) (args := #[.pointer (some ⟨w.heap.size, 0, none⟩), .pointer (some ⟨w.heap.size + 1, 0, none⟩)]) (by simp) (by simp [go_sem]) ?_
      refine (catchB_idle _ _ _).mono ?_
      rintro e u' w3 ⟨rfl, rfl, rfl⟩
      have c0 := blk_cell h5 0; have c1 := blk_cell h5 1
      have d0 := blk_cell h6 0
      clear h5 h6
      simp [Leaves, settle, results, Tryz.results27, go_sem, c0, c1, d0]
      show ParsedB (allF (bookF s)) _ _ _
      rw [HL.out]
      exact ⟨⟨_, rfl, HVF.out⟩, HBF.out⟩
    | cons x t =>
      have hF : Hid (allF (some (b, x :: t)) = none) := by show _ = _; rfl
      go_wp2_with fail
      refine (fail_any _ _).mono ?_
      rintro e wf ⟨rfl, rfl⟩
      have HP2 := Lib.hid (show ((w2.setCell ⟨w.heap.size, 0, none⟩ (.int .i64 b.signed)).setCell ⟨w.heap.size, 1, none⟩ (.slice a n c)).heap[w.heap.size]? = some (.cells #[.int .i64 b.signed, .slice a n c] 24) from blk_set2 HP2.out _ _)
      have HQ2 := Lib.hid (show ((w2.setCell ⟨w.heap.size, 0, none⟩ (.int .i64 b.signed)).setCell ⟨w.heap.size, 1, none⟩ (.slice a n c)).heap[w.heap.size + 1]? = some (.cells #[.int .i64 0] 25) from (by repeat (first | (refine (heap_setCell_past _ _ _ _ ?_).trans ?_; · (first | omega | (simp; done) | (simp; omega) | fail)) | (refine (heap_alloc_past _ _ _ ?_).trans ?_; · (first | omega | (simp; done) | (simp; omega) | fail)) | exact HQ2.out | fail)))
      have HB2 := Lib.hid (show Below w.heap.size w ((w2.setCell ⟨w.heap.size, 0, none⟩ (.int .i64 b.signed)).setCell ⟨w.heap.size, 1, none⟩ (.slice a n c)) from (by repeat (first | (refine Below.setCell ?_ ?_ _; rotate_left; · (first | omega | (simp; done) | (simp; omega) | fail)) | (refine Below.alloc ?_ ?_ _; rotate_left; · (first | omega | (simp; done) | (simp; omega) | fail)) | refine Below.drew ?_ | exact HB2.out | fail)))
      clear c0 c1 f0 f1 d0 g0 r0
      go_wp2_with fail
      refine leaves_cons (f := 56) (args := #[.pointer (some ⟨w.heap.size, 0, none⟩), .pointer (some ⟨w.heap.size + 1, 0, none⟩)]) (by simp) (by simp [go_sem]) ?_
      refine (catchB_panicking _ _ _ _ _ _ _ _ _ [] _ HP2.out HQ2.out (by omega)).mono ?_
      rintro e u' w3 ⟨rfl, rfl, hc⟩
      have hbz := HB2.out.size
      have HBF := Lib.hid (hc.only.below HB2.out hbz (fun k h => by omega))
      have c0 := blk_cell hc.bp 0; have c1 := blk_cell hc.bp 1
      have d0 := blk_cell hc.bq 0
      simp [Leaves, settle, results, Tryz.results27, go_sem, c0, c1, d0]
      first
      | exact ⟨rfl, HBF.out⟩
      | (show ParsedB (allF (bookF s)) _ _ _; rw [HL.out]; exact ⟨rfl, HBF.out⟩)

end Go.Proofs.YtlfglbnbenaghaaGreatDoor
