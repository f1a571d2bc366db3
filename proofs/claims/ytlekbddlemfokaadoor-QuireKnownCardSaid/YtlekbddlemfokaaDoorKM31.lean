/- The parts Rl of the proof, joined. It holds without conditions of its own. -/
import Derived.Test.YtlekbddlemfokaaDoorKM6
import Derived.Test.YtlekbddlemfokaaDoorKM18
/- Contracts of the reader: the name of a leaf. -/
namespace Go.Proofs.YtlekbddlemfokaaDoor
set_option linter.unusedSimpArgs false
set_option linter.unusedVariables false
open Go Go.RowKit Go.Sort Go.BigFrame

def nameV (q : Int × Int × Int × Int) : Value := .agg #[.int .i64 q.1, .int .i64 q.2.1, .int .i64 q.2.2.1, .int .i64 q.2.2.2]
-- all has been read, the box holds the name: is there such a leaf?
theorem possible_is (r l n p : Int) (b : Bool) (h : possibleB n p = b) (w : World) :
    Calls Tryd.prog 54 #[.agg #[.int .i64 r, .int .i64 l, .int .i64 n, .int .i64 p]] w fun e w' => e = .returned (.bool b) ∧ Below w.heap.size w w' := by
  subst h; exact possible_any r l n p w

set_option maxRecDepth 100000 in
set_option maxHeartbeats 8000000 in
theorem readLeaf_any (R : Nat) (s : Bs) (w : World) (hr : Rd w R s) :
    Calls Tryd.prog 28 #[.pointer (some ⟨R, 0, none⟩)] w (ReadPost R nameV (leafNameF s) w) := by
  have HX := Lib.hid (Bx.start (T := 69) (z := #[.int .i64 0, .int .i64 0, .int .i64 0, .int .i64 0]) (c := #[.int .i64 0, .int .i64 0, .int .i64 0, .int .i64 0]) hr)
  clear hr
  go_enter Tryd.func28, Tryd.ntmps28
  go_wp2_with fail
  refine (sig_any R s _ HX.out.rd).mono ?_
  intro e w1 hp
  cases hl : sigF s with
  | none =>
    rw [hl] at hp
    obtain ⟨rfl, t', hw⟩ := hp
    have hF : Hid (leafNameF s = none) := by show _ = _; simp [leafNameF, hl]
    have HX := Lib.hid (HX.out.call hw)
    clear hw hl
    go_wp2_with fail
    exact ⟨rfl, ReadPost.fail hF.out HX.out.rw⟩
  | some p =>
    obtain ⟨⟨ar, al⟩, t⟩ := p
    rw [hl] at hp
    obtain ⟨rfl, hw⟩ := hp
    dsimp only [sigV]
    have HL := Lib.hid hl
    have HX := Lib.hid (HX.out.call hw)
    clear hw hl
    have c0 := blk_cell HX.out.b1 0; have c1 := blk_cell HX.out.b1 1; have c2 := blk_cell HX.out.b1 2; have c3 := blk_cell HX.out.b1 3
    have f0 := blk_free HX.out.b1 0; have f1 := blk_free HX.out.b1 1; have f2 := blk_free HX.out.b1 2; have f3 := blk_free HX.out.b1 3
    have z0 := blk_cell HX.out.b0 0; have z1 := blk_cell HX.out.b0 1; have z2 := blk_cell HX.out.b0 2; have z3 := blk_cell HX.out.b0 3
    have y0 := blk_free HX.out.b0 0; have y1 := blk_free HX.out.b0 1; have y2 := blk_free HX.out.b0 2; have y3 := blk_free HX.out.b0 3
    go_wp2_with fail
    clear c0 c1 c2 c3 f0 f1 f2 f3 z0 z1 z2 z3 y0 y1 y2 y3
    have HX := Lib.hid ((HX.out.set1 0 (.int .i64 ar)).set1 1 (.int .i64 al))
    revert HX
    generalize (w1.setCell ⟨w.heap.size + 1, 0, none⟩ (.int .i64 ar)).setCell ⟨w.heap.size + 1, 1, none⟩ (.int .i64 al) = w2
    intro HX
    refine (number_any R t _ HX.out.rd).mono ?_
    intro e w3 hp
    cases hl : numberF t with
    | none =>
      rw [hl] at hp
      obtain ⟨rfl, t', hw⟩ := hp
      have hF : Hid (leafNameF s = none) := by show _ = _; simp [leafNameF, HL.out, hl]
      have HX := Lib.hid (HX.out.call hw)
      clear hw hl
      go_wp2_with fail
      exact ⟨rfl, ReadPost.fail hF.out HX.out.rw⟩
    | some p =>
      obtain ⟨n, u⟩ := p
      rw [hl] at hp
      obtain ⟨rfl, hw⟩ := hp
      have HN := Lib.hid hl
      have HX := Lib.hid (HX.out.call hw)
      clear hw hl
      have c0 := blk_cell HX.out.b1 0; have c1 := blk_cell HX.out.b1 1; have c2 := blk_cell HX.out.b1 2; have c3 := blk_cell HX.out.b1 3
      have f0 := blk_free HX.out.b1 0; have f1 := blk_free HX.out.b1 1; have f2 := blk_free HX.out.b1 2; have f3 := blk_free HX.out.b1 3
      have z0 := blk_cell HX.out.b0 0; have z1 := blk_cell HX.out.b0 1; have z2 := blk_cell HX.out.b0 2; have z3 := blk_cell HX.out.b0 3
      have y0 := blk_free HX.out.b0 0; have y1 := blk_free HX.out.b0 1; have y2 := blk_free HX.out.b0 2; have y3 := blk_free HX.out.b0 3
      go_wp2_with fail
      clear c0 c1 c2 c3 f0 f1 f2 f3 z0 z1 z2 z3 y0 y1 y2 y3
      have HX := Lib.hid (HX.out.set1 2 (.int .i64 n))
      revert HX
      generalize w3.setCell ⟨w.heap.size + 1, 2, none⟩ (.int .i64 n) = w4
      intro HX
      cases hs : skipF [43] u with
      | none =>
        have hG : Hid (leafNameF s = if possibleB n 0 = true then some ((ar, al, n, 0), u) else none) := by show _ = _; simp [leafNameF, HL.out, HN.out, plusF, hs]
        refine (skip_no R u [43] _ HX.out.rd hs).mono ?_
        rintro e w5 ⟨rfl, hw⟩
        have HX := Lib.hid (HX.out.call hw)
        clear hw hs
        have c0 := blk_cell HX.out.b1 0; have c1 := blk_cell HX.out.b1 1; have c2 := blk_cell HX.out.b1 2; have c3 := blk_cell HX.out.b1 3
        have f0 := blk_free HX.out.b1 0; have f1 := blk_free HX.out.b1 1; have f2 := blk_free HX.out.b1 2; have f3 := blk_free HX.out.b1 3
        have z0 := blk_cell HX.out.b0 0; have z1 := blk_cell HX.out.b0 1; have z2 := blk_cell HX.out.b0 2; have z3 := blk_cell HX.out.b0 3
        have y0 := blk_free HX.out.b0 0; have y1 := blk_free HX.out.b0 1; have y2 := blk_free HX.out.b0 2; have y3 := blk_free HX.out.b0 3
        go_wp2_with fail
        cases h1 : possibleB n 0 with
        | false =>
          have hF : Hid (leafNameF s = none) := by show _ = _; rw [hG.out, h1]; rfl
          refine (possible_is ar al n 0 false h1 _).mono ?_
          rintro e wp ⟨rfl, hb⟩
          have HX := Lib.hid (HX.out.same hb)
          clear c0 c1 c2 c3 f0 f1 f2 f3 z0 z1 z2 z3 y0 y1 y2 y3
          clear hb h1
          go_wp2_with fail
          refine (fail_any _ _).mono ?_
          rintro e wf ⟨rfl, rfl⟩
          go_wp2_with fail
          exact ⟨rfl, ReadPost.fail hF.out HX.out.rw⟩
        | true =>
          have hF : Hid (leafNameF s = some ((ar, al, n, 0), u)) := by show _ = _; rw [hG.out, h1]; rfl
          refine (possible_is ar al n 0 true h1 _).mono ?_
          rintro e wp ⟨rfl, hb⟩
          have HX := Lib.hid (HX.out.same hb)
          clear c0 c1 c2 c3 f0 f1 f2 f3 z0 z1 z2 z3 y0 y1 y2 y3
          clear hb h1
          have c0 := blk_cell HX.out.b1 0; have c1 := blk_cell HX.out.b1 1; have c2 := blk_cell HX.out.b1 2; have c3 := blk_cell HX.out.b1 3
          have f0 := blk_free HX.out.b1 0; have f1 := blk_free HX.out.b1 1; have f2 := blk_free HX.out.b1 2; have f3 := blk_free HX.out.b1 3
          have z0 := blk_cell HX.out.b0 0; have z1 := blk_cell HX.out.b0 1; have z2 := blk_cell HX.out.b0 2; have z3 := blk_cell HX.out.b0 3
          have y0 := blk_free HX.out.b0 0; have y1 := blk_free HX.out.b0 1; have y2 := blk_free HX.out.b0 2; have y3 := blk_free HX.out.b0 3
          go_wp2_with fail
          refine bodyPost_ret (v := .agg #[.int .i64 ar, .int .i64 al, .int .i64 n, .int .i64 0]) (by simp [results, Tryd.results28, go_sem, z0, z1, z2, z3]) rfl ?_
          exact ReadPost.done hF.out rfl ((((HX.out.set0 0 _).set0 1 _).set0 2 _).set0 3 _).rw
      | some x =>
        have HS := Lib.hid hs
        clear hs
        refine (skip_yes R u [43] x _ HX.out.rd HS.out).mono ?_
        rintro e w5 ⟨rfl, hw⟩
        have HX := Lib.hid (HX.out.call hw)
        clear hw
        go_wp2_with fail
        refine (number_any R x _ HX.out.rd).mono ?_
        intro e w6 hp
        cases hl : numberF x with
        | none =>
          rw [hl] at hp
          obtain ⟨rfl, t', hw⟩ := hp
          have hF : Hid (leafNameF s = none) := by show _ = _; simp [leafNameF, HL.out, HN.out, plusF, HS.out, hl]
          have HX := Lib.hid (HX.out.call hw)
          clear hw hl
          go_wp2_with fail
          exact ⟨rfl, ReadPost.fail hF.out HX.out.rw⟩
        | some p =>
          obtain ⟨m, y⟩ := p
          rw [hl] at hp
          obtain ⟨rfl, hw⟩ := hp
          have HM := Lib.hid hl
          have HX := Lib.hid (HX.out.call hw)
          clear hw hl
          have c0 := blk_cell HX.out.b1 0; have c1 := blk_cell HX.out.b1 1; have c2 := blk_cell HX.out.b1 2; have c3 := blk_cell HX.out.b1 3
          have f0 := blk_free HX.out.b1 0; have f1 := blk_free HX.out.b1 1; have f2 := blk_free HX.out.b1 2; have f3 := blk_free HX.out.b1 3
          have z0 := blk_cell HX.out.b0 0; have z1 := blk_cell HX.out.b0 1; have z2 := blk_cell HX.out.b0 2; have z3 := blk_cell HX.out.b0 3
          have y0 := blk_free HX.out.b0 0; have y1 := blk_free HX.out.b0 1; have y2 := blk_free HX.out.b0 2; have y3 := blk_free HX.out.b0 3
          by_cases hm : m = 0
          · subst hm
            have hF : Hid (leafNameF s = none) := by show _ = _; simp [leafNameF, HL.out, HN.out, plusF, HS.out, HM.out]
            go_wp2_with fail
            clear c0 c1 c2 c3 f0 f1 f2 f3 z0 z1 z2 z3 y0 y1 y2 y3
            have HX := Lib.hid (HX.out.set1 3 (.int .i64 0))
            revert HX
            generalize w6.setCell ⟨w.heap.size + 1, 3, none⟩ (.int .i64 0) = w7
            intro HX
            refine (fail_any _ _).mono ?_
            rintro e wf ⟨rfl, rfl⟩
            go_wp2_with fail
            exact ⟨rfl, ReadPost.fail hF.out HX.out.rw⟩
          · have hb0 : (m == 0) = false := by simp [hm]
            have hG : Hid (leafNameF s = if possibleB n m = true then some ((ar, al, n, m), y) else none) := by show _ = _; simp [leafNameF, HL.out, HN.out, plusF, HS.out, HM.out, hm]
            clear hm
            go_wp2_with fail
            clear c0 c1 c2 c3 f0 f1 f2 f3 z0 z1 z2 z3 y0 y1 y2 y3
            have HX := Lib.hid (HX.out.set1 3 (.int .i64 m))
            revert HX
            generalize w6.setCell ⟨w.heap.size + 1, 3, none⟩ (.int .i64 m) = w7
            intro HX
            have c0 := blk_cell HX.out.b1 0; have c1 := blk_cell HX.out.b1 1; have c2 := blk_cell HX.out.b1 2; have c3 := blk_cell HX.out.b1 3
            have f0 := blk_free HX.out.b1 0; have f1 := blk_free HX.out.b1 1; have f2 := blk_free HX.out.b1 2; have f3 := blk_free HX.out.b1 3
            have z0 := blk_cell HX.out.b0 0; have z1 := blk_cell HX.out.b0 1; have z2 := blk_cell HX.out.b0 2; have z3 := blk_cell HX.out.b0 3
            have y0 := blk_free HX.out.b0 0; have y1 := blk_free HX.out.b0 1; have y2 := blk_free HX.out.b0 2; have y3 := blk_free HX.out.b0 3
            cases h1 : possibleB n m with
            | false =>
              have hF : Hid (leafNameF s = none) := by show _ = _; rw [hG.out, h1]; rfl
              refine (possible_is ar al n m false h1 _).mono ?_
              rintro e wp ⟨rfl, hb⟩
              have HX := Lib.hid (HX.out.same hb)
              clear c0 c1 c2 c3 f0 f1 f2 f3 z0 z1 z2 z3 y0 y1 y2 y3
              clear hb h1
              go_wp2_with fail
              refine (fail_any _ _).mono ?_
              rintro e wf ⟨rfl, rfl⟩
              go_wp2_with fail
              exact ⟨rfl, ReadPost.fail hF.out HX.out.rw⟩
            | true =>
              have hF : Hid (leafNameF s = some ((ar, al, n, m), y)) := by show _ = _; rw [hG.out, h1]; rfl
              refine (possible_is ar al n m true h1 _).mono ?_
              rintro e wp ⟨rfl, hb⟩
              have HX := Lib.hid (HX.out.same hb)
              clear c0 c1 c2 c3 f0 f1 f2 f3 z0 z1 z2 z3 y0 y1 y2 y3
              clear hb h1
              have c0 := blk_cell HX.out.b1 0; have c1 := blk_cell HX.out.b1 1; have c2 := blk_cell HX.out.b1 2; have c3 := blk_cell HX.out.b1 3
              have f0 := blk_free HX.out.b1 0; have f1 := blk_free HX.out.b1 1; have f2 := blk_free HX.out.b1 2; have f3 := blk_free HX.out.b1 3
              have z0 := blk_cell HX.out.b0 0; have z1 := blk_cell HX.out.b0 1; have z2 := blk_cell HX.out.b0 2; have z3 := blk_cell HX.out.b0 3
              have y0 := blk_free HX.out.b0 0; have y1 := blk_free HX.out.b0 1; have y2 := blk_free HX.out.b0 2; have y3 := blk_free HX.out.b0 3
              go_wp2_with fail
              refine bodyPost_ret (v := .agg #[.int .i64 ar, .int .i64 al, .int .i64 n, .int .i64 m]) (by simp [results, Tryd.results28, go_sem, z0, z1, z2, z3]) rfl ?_
              exact ReadPost.done hF.out rfl ((((HX.out.set0 0 _).set0 1 _).set0 2 _).set0 3 _).rw

end Go.Proofs.YtlekbddlemfokaaDoor
