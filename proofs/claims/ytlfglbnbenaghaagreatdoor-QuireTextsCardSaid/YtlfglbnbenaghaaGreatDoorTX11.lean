/- The parts Rl, Rq of the proof, joined. It holds without conditions of its own. -/
import Derived.Test.YtlfglbnbenaghaaGreatDoorTX9
import Derived.Test.YtlfglbnbenaghaaGreatDoorTX4
import Derived.Test.YtlfglbnbenaghaaGreatDoorTX10
/- Contracts of the reader: the name of a leaf. -/
namespace Go.Proofs.YtlfglbnbenaghaaGreatDoor
set_option linter.unusedSimpArgs false
set_option linter.unusedVariables false
open Go Go.RowKit Go.Sort Go.BigFrame

def nameV (q : Int × Int × Int × Int) : Value := .agg #[.int .i64 q.1, .int .i64 q.2.1, .int .i64 q.2.2.1, .int .i64 q.2.2.2]
-- all has been read, the box holds the name: is there such a leaf?
theorem possible_is (r l n p : Int) (b : Bool) (h : possibleB n p = b) (w : World) :
    Calls Tryz.prog 81 #[.agg #[.int .i64 r, .int .i64 l, .int .i64 n, .int .i64 p]] w fun e w' => e = .returned (.bool b) ∧ Below w.heap.size w w' := by
  subst h; exact possible_any r l n p w

set_option maxRecDepth 100000 in
set_option maxHeartbeats 8000000 in
theorem readLeaf_any (R : Nat) (s : Bs) (w : World) (hr : Rd w R s) :
    Calls Tryz.prog 44 #[.pointer (some ⟨R, 0, none⟩)] w (ReadPost R nameV (leafNameF s) w) := by
  have HX := Lib.hid (Bx.start (T := 91) (z := #[.int .i64 0, .int .i64 0, .int .i64 0, .int .i64 0]) (c := #[.int .i64 0, .int .i64 0, .int .i64 0, .int .i64 0]) hr)
  clear hr
  go_enter Tryz.func44, Tryz.ntmps44
  go_wp2_with fail
  refine (sig_any R s _ HX.out.rd).mono ?_
  intro e w1 hp
  cases hl : sigF s with
  | none =>
    rw [hl] at hp
    obtain ⟨rfl, t', hw⟩ := hp
    have hF : Hid (leafNameF s = none) := by show _ = _; simp [leafNameF, hl]
    have HX := Lib.hid (HX.out.call hw)
    clear hw hl
    go_wp2_with fail
    exact ⟨rfl, ReadPost.fail hF.out HX.out.rw⟩
  | some p =>
    obtain ⟨⟨ar, al⟩, t⟩ := p
    rw [hl] at hp
    obtain ⟨rfl, hw⟩ := hp
    dsimp only [sigV]
    have HL := Lib.hid hl
    have HX := Lib.hid (HX.out.call hw)
    clear hw hl
    have c0 := blk_cell HX.out.b1 0; have c1 := blk_cell HX.out.b1 1; have c2 := blk_cell HX.out.b1 2; have c3 := blk_cell HX.out.b1 3
    have f0 := blk_free HX.out.b1 0; have f1 := blk_free HX.out.b1 1; have f2 := blk_free HX.out.b1 2; have f3 := blk_free HX.out.b1 3
    have z0 := blk_cell HX.out.b0 0; have z1 := blk_cell HX.out.b0 1; have z2 := blk_cell HX.out.b0 2; have z3 := blk_cell HX.out.b0 3
    have y0 := blk_free HX.out.b0 0; have y1 := blk_free HX.out.b0 1; have y2 := blk_free HX.out.b0 2; have y3 := blk_free HX.out.b0 3
    go_wp2_with fail
    clear c0 c1 c2 c3 f0 f1 f2 f3 z0 z1 z2 z3 y0 y1 y2 y3
    have HX := Lib.hid ((HX.out.set1 0 (.int .i64 ar)).set1 1 (.int .i64 al))
    revert HX
    generalize (w1.setCell ⟨w.heap.size + 1, 0, none⟩ (.int .i64 ar)).setCell ⟨w.heap.size + 1, 1, none⟩ (.int .i64 al) = w2
    intro HX
    refine (number_any R t _ HX.out.rd).mono ?_
    intro e w3 hp
    cases hl : numberF t with
    | none =>
      rw [hl] at hp
      obtain ⟨rfl, t', hw⟩ := hp
      have hF : Hid (leafNameF s = none) := by show _ = _; simp [leafNameF, HL.out, hl]
      have HX := Lib.hid (HX.out.call hw)
      clear hw hl
      go_wp2_with fail
      exact ⟨rfl, ReadPost.fail hF.out HX.out.rw⟩
    | some p =>
      obtain ⟨n, u⟩ := p
      rw [hl] at hp
      obtain ⟨rfl, hw⟩ := hp
      have HN := Lib.hid hl
      have HX := Lib.hid (HX.out.call hw)
      clear hw hl
      have c0 := blk_cell HX.out.b1 0; have c1 := blk_cell HX.out.b1 1; have c2 := blk_cell HX.out.b1 2; have c3 := blk_cell HX.out.b1 3
      have f0 := blk_free HX.out.b1 0; have f1 := blk_free HX.out.b1 1; have f2 := blk_free HX.out.b1 2; have f3 := blk_free HX.out.b1 3
      have z0 := blk_cell HX.out.b0 0; have z1 := blk_cell HX.out.b0 1; have z2 := blk_cell HX.out.b0 2; have z3 := blk_cell HX.out.b0 3
      have y0 := blk_free HX.out.b0 0; have y1 := blk_free HX.out.b0 1; have y2 := blk_free HX.out.b0 2; have y3 := blk_free HX.out.b0 3
      go_wp2_with fail
      clear c0 c1 c2 c3 f0 f1 f2 f3 z0 z1 z2 z3 y0 y1 y2 y3
      have HX := Lib.hid (HX.out.set1 2 (.int .i64 n))
      revert HX
      generalize w3.setCell ⟨w.heap.size + 1, 2, none⟩ (.int .i64 n) = w4
      intro HX
      cases hs : skipF [43] u with
      | none =>
        have hG : Hid (leafNameF s = if possibleB n 0 = true then some ((ar, al, n, 0), u) else none) := by show _ = _; simp [leafNameF, HL.out, HN.out, plusF, hs]
        refine (skip_no R u [43] _ HX.out.rd hs).mono ?_
        rintro e w5 ⟨rfl, hw⟩
        have HX := Lib.hid (HX.out.call hw)
        clear hw hs
        have c0 := blk_cell HX.out.b1 0; have c1 := blk_cell HX.out.b1 1; have c2 := blk_cell HX.out.b1 2; have c3 := blk_cell HX.out.b1 3
        have f0 := blk_free HX.out.b1 0; have f1 := blk_free HX.out.b1 1; have f2 := blk_free HX.out.b1 2; have f3 := blk_free HX.out.b1 3
        have z0 := blk_cell HX.out.b0 0; have z1 := blk_cell HX.out.b0 1; have z2 := blk_cell HX.out.b0 2; have z3 := blk_cell HX.out.b0 3
        have y0 := blk_free HX.out.b0 0; have y1 := blk_free HX.out.b0 1; have y2 := blk_free HX.out.b0 2; have y3 := blk_free HX.out.b0 3
        go_wp2_with fail
        cases h1 : possibleB n 0 with
        | false =>
          have hF : Hid (leafNameF s = none) := by show _ = _; rw [hG.out, h1]; rfl
          refine (possible_is ar al n 0 false h1 _).mono ?_
          rintro e wp ⟨rfl, hb⟩
          have HX := Lib.hid (HX.out.same hb)
          clear c0 c1 c2 c3 f0 f1 f2 f3 z0 z1 z2 z3 y0 y1 y2 y3
          clear hb h1
          go_wp2_with fail
          refine (fail_any _ _).mono ?_
          rintro e wf ⟨rfl, rfl⟩
          go_wp2_with fail
          exact ⟨rfl, ReadPost.fail hF.out HX.out.rw⟩
        | true =>
          have hF : Hid (leafNameF s = some ((ar, al, n, 0), u)) := by show _ = _; rw [hG.out, h1]; rfl
          refine (possible_is ar al n 0 true h1 _).mono ?_
          rintro e wp ⟨rfl, hb⟩
          have HX := Lib.hid (HX.out.same hb)
          clear c0 c1 c2 c3 f0 f1 f2 f3 z0 z1 z2 z3 y0 y1 y2 y3
          clear hb h1
          have c0 := blk_cell HX.out.b1 0; have c1 := blk_cell HX.out.b1 1; have c2 := blk_cell HX.out.b1 2; have c3 := blk_cell HX.out.b1 3
          have f0 := blk_free HX.out.b1 0; have f1 := blk_free HX.out.b1 1; have f2 := blk_free HX.out.b1 2; have f3 := blk_free HX.out.b1 3
          have z0 := blk_cell HX.out.b0 0; have z1 := blk_cell HX.out.b0 1; have z2 := blk_cell HX.out.b0 2; have z3 := blk_cell HX.out.b0 3
          have y0 := blk_free HX.out.b0 0; have y1 := blk_free HX.out.b0 1; have y2 := blk_free HX.out.b0 2; have y3 := blk_free HX.out.b0 3
          go_wp2_with fail
          refine bodyPost_ret (v := .agg #[.int .i64 ar, .int .i64 al, .int .i64 n, .int .i64 0]) (by simp [results, Tryz.results44, go_sem, z0, z1, z2, z3]) rfl ?_
          exact ReadPost.done hF.out rfl ((((HX.out.set0 0 _).set0 1 _).set0 2 _).set0 3 _).rw
      | some x =>
        have HS := Lib.hid hs
        clear hs
        refine (skip_yes R u [43] x _ HX.out.rd HS.out).mono ?_
        rintro e w5 ⟨rfl, hw⟩
        have HX := Lib.hid (HX.out.call hw)
        clear hw
        go_wp2_with fail
        refine (number_any R x _ HX.out.rd).mono ?_
        intro e w6 hp
        cases hl : numberF x with
        | none =>
          rw [hl] at hp
          obtain ⟨rfl, t', hw⟩ := hp
          have hF : Hid (leafNameF s = none) := by show _ = _; simp [leafNameF, HL.out, HN.out, plusF, HS.out, hl]
          have HX := Lib.hid (HX.out.call hw)
          clear hw hl
          go_wp2_with fail
          exact ⟨rfl, ReadPost.fail hF.out HX.out.rw⟩
        | some p =>
          obtain ⟨m, y⟩ := p
          rw [hl] at hp
          obtain ⟨rfl, hw⟩ := hp
          have HM := Lib.hid hl
          have HX := Lib.hid (HX.out.call hw)
          clear hw hl
          have c0 := blk_cell HX.out.b1 0; have c1 := blk_cell HX.out.b1 1; have c2 := blk_cell HX.out.b1 2; have c3 := blk_cell HX.out.b1 3
          have f0 := blk_free HX.out.b1 0; have f1 := blk_free HX.out.b1 1; have f2 := blk_free HX.out.b1 2; have f3 := blk_free HX.out.b1 3
          have z0 := blk_cell HX.out.b0 0; have z1 := blk_cell HX.out.b0 1; have z2 := blk_cell HX.out.b0 2; have z3 := blk_cell HX.out.b0 3
          have y0 := blk_free HX.out.b0 0; have y1 := blk_free HX.out.b0 1; have y2 := blk_free HX.out.b0 2; have y3 := blk_free HX.out.b0 3
          by_cases hm : m = 0
          · subst hm
            have hF : Hid (leafNameF s = none) := by show _ = _; simp [leafNameF, HL.out, HN.out, plusF, HS.out, HM.out]
            go_wp2_with fail
            clear c0 c1 c2 c3 f0 f1 f2 f3 z0 z1 z2 z3 y0 y1 y2 y3
            have HX := Lib.hid (HX.out.set1 3 (.int .i64 0))
            revert HX
            generalize w6.setCell ⟨w.heap.size + 1, 3, none⟩ (.int .i64 0) = w7
            intro HX
            refine (fail_any _ _).mono ?_
            rintro e wf ⟨rfl, rfl⟩
            go_wp2_with fail
            exact ⟨rfl, ReadPost.fail hF.out HX.out.rw⟩
          · have hb0 : (m == 0) = false := by simp [hm]
            have hG : Hid (leafNameF s = if possibleB n m = true then some ((ar, al, n, m), y) else none) := by show _ = _; simp [leafNameF, HL.out, HN.out, plusF, HS.out, HM.out, hm]
            clear hm
            go_wp2_with fail
            clear c0 c1 c2 c3 f0 f1 f2 f3 z0 z1 z2 z3 y0 y1 y2 y3
            have HX := Lib.hid (HX.out.set1 3 (.int .i64 m))
            revert HX
            generalize w6.setCell ⟨w.heap.size + 1, 3, none⟩ (.int .i64 m) = w7
            intro HX
            have c0 := blk_cell HX.out.b1 0; have c1 := blk_cell HX.out.b1 1; have c2 := blk_cell HX.out.b1 2; have c3 := blk_cell HX.out.b1 3
            have f0 := blk_free HX.out.b1 0; have f1 := blk_free HX.out.b1 1; have f2 := blk_free HX.out.b1 2; have f3 := blk_free HX.out.b1 3
            have z0 := blk_cell HX.out.b0 0; have z1 := blk_cell HX.out.b0 1; have z2 := blk_cell HX.out.b0 2; have z3 := blk_cell HX.out.b0 3
            have y0 := blk_free HX.out.b0 0; have y1 := blk_free HX.out.b0 1; have y2 := blk_free HX.out.b0 2; have y3 := blk_free HX.out.b0 3
            cases h1 : possibleB n m with
            | false =>
              have hF : Hid (leafNameF s = none) := by show _ = _; rw [hG.out, h1]; rfl
              refine (possible_is ar al n m false h1 _).mono ?_
              rintro e wp ⟨rfl, hb⟩
              have HX := Lib.hid (HX.out.same hb)
              clear c0 c1 c2 c3 f0 f1 f2 f3 z0 z1 z2 z3 y0 y1 y2 y3
              clear hb h1
              go_wp2_with fail
              refine (fail_any _ _).mono ?_
              rintro e wf ⟨rfl, rfl⟩
              go_wp2_with fail
              exact ⟨rfl, ReadPost.fail hF.out HX.out.rw⟩
            | true =>
              have hF : Hid (leafNameF s = some ((ar, al, n, m), y)) := by show _ = _; rw [hG.out, h1]; rfl
              refine (possible_is ar al n m true h1 _).mono ?_
              rintro e wp ⟨rfl, hb⟩
              have HX := Lib.hid (HX.out.same hb)
              clear c0 c1 c2 c3 f0 f1 f2 f3 z0 z1 z2 z3 y0 y1 y2 y3
              clear hb h1
              have c0 := blk_cell HX.out.b1 0; have c1 := blk_cell HX.out.b1 1; have c2 := blk_cell HX.out.b1 2; have c3 := blk_cell HX.out.b1 3
              have f0 := blk_free HX.out.b1 0; have f1 := blk_free HX.out.b1 1; have f2 := blk_free HX.out.b1 2; have f3 := blk_free HX.out.b1 3
              have z0 := blk_cell HX.out.b0 0; have z1 := blk_cell HX.out.b0 1; have z2 := blk_cell HX.out.b0 2; have z3 := blk_cell HX.out.b0 3
              have y0 := blk_free HX.out.b0 0; have y1 := blk_free HX.out.b0 1; have y2 := blk_free HX.out.b0 2; have y3 := blk_free HX.out.b0 3
              go_wp2_with fail
              refine bodyPost_ret (v := .agg #[.int .i64 ar, .int .i64 al, .int .i64 n, .int .i64 m]) (by simp [results, Tryz.results44, go_sem, z0, z1, z2, z3]) rfl ?_
              exact ReadPost.done hF.out rfl ((((HX.out.set0 0 _).set0 1 _).set0 2 _).set0 3 _).rw

end Go.Proofs.YtlfglbnbenaghaaGreatDoor

/- Contracts of parse: the name of a leaf. -/
namespace Go.Proofs.YtlfglbnbenaghaaGreatDoor
set_option linter.unusedSimpArgs false
set_option linter.unusedVariables false
open Go Go.RowKit Go.Sort Go.BigFrame

theorem catchL_panicking (p q : Nat) (x0 x1 x2 x3 y0 : Value) (tp tq : TypeId) (u : TypeId) (pv : Value) (older : List PanicEntry) (w : World) (hp : w.heap[p]? = some (.cells #[x0, x1, x2, x3] tp)) (hq : w.heap[q]? = some (.cells #[y0] tq)) (hpq : p ≠ q) :
    CallsD Tryz.prog 79 #[.pointer (some ⟨p, 0, none⟩), .pointer (some ⟨q, 0, none⟩)] (.panicking ({ v := .iface u pv, recovered := false } :: older)) w fun e u' w' =>
      e = .returned (.tuple #[]) ∧ u' = .panicking ({ v := .iface u pv, recovered := true } :: older) ∧ Caught p q #[.int .i64 0, .int .i64 0, .int .i64 0, .int .i64 0] tp tq w w' := by
  refine callsD_of_wpS Tryz.func79 rfl fun c₀ cs hu => ?_
  apply wpS_seq
  apply wpS_region
  simp [wpOpsS, go_sem, recoverD, hu, Tryz.ntmps79, Exit.thenS]
  refine wpS_cond (t := true) (by simp [Act.eval, Array.replicate]) ?_
  simp only [if_true]
  refine wpS_of_wp ?_
  have c0 := blk_cell hp 0; have c1 := blk_cell hp 1; have c2 := blk_cell hp 2; have c3 := blk_cell hp 3
  have f0 := blk_free hp 0; have f1 := blk_free hp 1; have f2 := blk_free hp 2; have f3 := blk_free hp 3
  have d0 := blk_cell hq 0
  have g0 := blk_free hq 0
  have hlp := blk_lt hp
  have hlq := blk_lt hq
  have HU := Lib.hid hu
  have HP := Lib.hid hp
  have HQ := Lib.hid hq
  clear hp hq hu
  simp only [Array.replicate_succ, Array.replicate_zero, List.push_toArray, List.append_toArray, List.nil_append, List.cons_append, List.setIfInBounds_toArray, List.set_cons_succ, List.set_cons_zero, List.push_toArray]
  go_wp2_with fail
  refine ⟨rfl, _, rfl, _, results_none rfl _ _ _, rfl, rfl, ?_, ?_, ?_⟩
  · exact (heap_alloc_past _ _ _ (by simpa using hlp)).trans ((heap_setCell_past _ _ _ _ hpq).trans (blk_set4 HP.out _ _ _ _))
  · exact (heap_alloc_past _ _ _ (by simpa using hlq)).trans (blk_set1 ((heap_setCell_past _ _ _ _ (Ne.symm hpq)).trans ((heap_setCell_past _ _ _ _ (Ne.symm hpq)).trans ((heap_setCell_past _ _ _ _ (Ne.symm hpq)).trans ((heap_setCell_past _ _ _ _ (Ne.symm hpq)).trans HQ.out)))) _)
  · exact (((((OnlyIn.setCell _ _ _ (Or.inl rfl)).trans (OnlyIn.setCell _ _ _ (Or.inl rfl))).trans (OnlyIn.setCell _ _ _ (Or.inl rfl))).trans (OnlyIn.setCell _ _ _ (Or.inl rfl))).trans (OnlyIn.setCell _ _ _ (Or.inr rfl))).trans (OnlyIn.alloc _ _ _)
theorem catchL_idle (p q : Nat) (w : World) :
    CallsD Tryz.prog 79 #[.pointer (some ⟨p, 0, none⟩), .pointer (some ⟨q, 0, none⟩)] .returning w fun e u' w' => e = .returned (.tuple #[]) ∧ u' = .returning ∧ w' = w := by
  refine callsD_of_wpS Tryz.func79 rfl fun c₀ cs hu => ?_
  apply wpS_seq
  apply wpS_region
  simp [wpOpsS, go_sem, recoverD, hu, Tryz.ntmps79, Exit.thenS]
  refine wpS_cond (t := false) (by simp [Act.eval, Array.replicate]) ?_
  simp only [Bool.false_eq_true, if_false]
  refine wpS_of_wp (wp_skip ?_)
  cases c₀
  simp_all [bodyPostS, results, Tryz.results79]

/-- What parse hands back of the name of a leaf. -/
def ParsedL (r : Option (Int × Int × Int × Int)) (w : World) (e : Ending) (w' : World) : Prop := match r with
  | some q => e = .returned (.tuple #[nameV q, .int .i64 0]) ∧ Below w.heap.size w w'
  | none => e = .returned (.tuple #[.agg #[.int .i64 0, .int .i64 0, .int .i64 0, .int .i64 0], .int .i64 6]) ∧ Below w.heap.size w w'

set_option maxRecDepth 100000 in
set_option maxHeartbeats 4000000 in
theorem parseL_any (s : Bs) (w : World) :
    Calls Tryz.prog 43 #[S s, .func (.func 44) #[] #[]] w (ParsedL (allF (leafNameF s)) w) := by
  have hmf : ∀ (fn : Fn) (first cap : Array Value) (w : World), (Instr.makeFunc fn first cap).run Tryz.prog w = .ok (.func fn first cap) w := fun _ _ _ _ => rfl
  obtain ⟨w1, hw1⟩ : ∃ w1, w1 = ((w.alloc (.cells #[.int .i64 0, .int .i64 0, .int .i64 0, .int .i64 0] 91)).alloc (.cells #[.int .i64 0] 25)).alloc (.cells #[S s] 109) := ⟨_, rfl⟩
  go_enter_defers Tryz.func43, Tryz.ntmps43
  go_wp2_with fail
  rw [← hw1]
  have p1 : w1.heap[w.heap.size]? = some (.cells #[.int .i64 0, .int .i64 0, .int .i64 0, .int .i64 0] 91) := by rw [hw1]; exact (by repeat (first | exact heap_alloc_at _ _ _ (by (first | omega | (simp; done) | (simp; omega) | fail)) | (refine (heap_alloc_past _ _ _ ?_).trans ?_; · (first | omega | (simp; done) | (simp; omega) | fail)) | fail))
  have q1 : w1.heap[w.heap.size + 1]? = some (.cells #[.int .i64 0] 25) := by rw [hw1]; exact (by repeat (first | exact heap_alloc_at _ _ _ (by (first | omega | (simp; done) | (simp; omega) | fail)) | (refine (heap_alloc_past _ _ _ ?_).trans ?_; · (first | omega | (simp; done) | (simp; omega) | fail)) | fail))
  have r1 : Rd w1 (w.heap.size + 1 + 1) s := by rw [hw1]; exact (by repeat (first | exact heap_alloc_at _ _ _ (by (first | omega | (simp; done) | (simp; omega) | fail)) | (refine (heap_alloc_past _ _ _ ?_).trans ?_; · (first | omega | (simp; done) | (simp; omega) | fail)) | fail))
  have hb1 : Below w.heap.size w w1 := by rw [hw1]; exact (by repeat (first | exact Below.refl _ _ | assumption | (refine Below.alloc ?_ ?_ _; rotate_left; · (first | omega | (simp; done) | (simp; omega) | fail)) | (refine Below.setCell ?_ ?_ _; rotate_left; · (first | omega | (simp; done) | (simp; omega) | fail)) | refine Below.drew ?_ | fail))
  have hz1 : w1.heap.size = w.heap.size + 3 := by rw [hw1]; simp
  have hz1a : w1.heap.size ≤ w.heap.size + 3 := by omega
  have hz1b : w.heap.size + 3 ≤ w1.heap.size := by omega
  have HP := Lib.hid p1
  have HQ := Lib.hid q1
  have HB := Lib.hid hb1
  clear hw1 p1 q1 hb1 hz1
  refine (readLeaf_any _ s _ r1).mono ?_
  intro e w2 hp
  cases hl : leafNameF s with
  | none =>
    rw [hl] at hp
    obtain ⟨rfl, t', hw⟩ := hp
    have p2 := hw.block HP.out (by omega)
    have q2 := hw.block HQ.out (by omega)
    have HB2 := Lib.hid (hw.below HB.out (by omega) (by omega))
    have HP2 := Lib.hid p2
    have HQ2 := Lib.hid q2
    clear hw hl p2 q2 r1
    go_wp2_with fail
    refine leaves_cons (f := 79) (args := #[.pointer (some ⟨w.heap.size, 0, none⟩), .pointer (some ⟨w.heap.size + 1, 0, none⟩)]) (by simp) (by simp [go_sem]) ?_
    refine (catchL_panicking _ _ _ _ _ _ _ _ _ _ _ [] _ HP2.out HQ2.out (by omega)).mono ?_
    rintro e u' w3 ⟨rfl, rfl, hc⟩
    have hbz := HB2.out.size
    have HBF := Lib.hid (hc.only.below HB2.out hbz (fun k h => by omega))
    have c0 := blk_cell hc.bp 0; have c1 := blk_cell hc.bp 1; have c2 := blk_cell hc.bp 2; have c3 := blk_cell hc.bp 3
    have d0 := blk_cell hc.bq 0
    simp [Leaves, settle, results, Tryz.results43, go_sem, c0, c1, c2, c3, d0]
    first
    | exact ⟨rfl, HBF.out⟩
    | (show ParsedL (allF (leafNameF s)) _ _ _; rw [HL.out]; exact ⟨rfl, HBF.out⟩)
  | some p =>
    obtain ⟨⟨b0, b1, b2, b3⟩, t⟩ := p
    rw [hl] at hp
    obtain ⟨rfl, hw⟩ := hp
    dsimp only [nameV]
    have HL := Lib.hid hl
    have p2 := hw.block HP.out (by omega)
    have q2 := hw.block HQ.out (by omega)
    have hR2 := hw.rd
    have HB2 := Lib.hid (hw.below HB.out (by omega) (by omega))
    have HP2 := Lib.hid p2
    have HQ2 := Lib.hid q2
    have HR2 := Lib.hid hR2
    have hz2 := hw.size
    have c0 := blk_cell p2 0; have c1 := blk_cell p2 1; have c2 := blk_cell p2 2; have c3 := blk_cell p2 3
    have f0 := blk_free p2 0; have f1 := blk_free p2 1; have f2 := blk_free p2 2; have f3 := blk_free p2 3
    have d0 := blk_cell q2 0
    have g0 := blk_free q2 0
    have r0 := blk_cell hR2 0
    clear hw hl p2 q2 r1 hR2
    cases t with
    | nil =>
      go_wp2_with fail
      obtain ⟨w5, hw5⟩ : ∃ w5, w5 = ((((((((w2.setCell ⟨w.heap.size, 0, none⟩ (.int .i64 b0)).setCell ⟨w.heap.size, 1, none⟩ (.int .i64 b1)).setCell ⟨w.heap.size, 2, none⟩ (.int .i64 b2)).setCell ⟨w.heap.size, 3, none⟩ (.int .i64 b3)).setCell ⟨w.heap.size, 0, none⟩ (.int .i64 b0)).setCell ⟨w.heap.size, 1, none⟩ (.int .i64 b1)).setCell ⟨w.heap.size, 2, none⟩ (.int .i64 b2)).setCell ⟨w.heap.size, 3, none⟩ (.int .i64 b3)).setCell ⟨w.heap.size + 1, 0, none⟩ (.int .i64 0) := ⟨_, rfl⟩
      have hO : OnlyIn (fun k => k = w.heap.size ∨ k = w.heap.size + 1) w2 w5 := by
        rw [hw5]
        exact ((((((((OnlyIn.setCell _ _ _ (Or.inl rfl)).trans (OnlyIn.setCell _ _ _ (Or.inl rfl))).trans (OnlyIn.setCell _ _ _ (Or.inl rfl))).trans (OnlyIn.setCell _ _ _ (Or.inl rfl))).trans (OnlyIn.setCell _ _ _ (Or.inl rfl))).trans (OnlyIn.setCell _ _ _ (Or.inl rfl))).trans (OnlyIn.setCell _ _ _ (Or.inl rfl))).trans (OnlyIn.setCell _ _ _ (Or.inl rfl))).trans (OnlyIn.setCell _ _ _ (Or.inr rfl))
      have HBF := Lib.hid (hO.below HB2.out HB2.out.size (fun k h => by omega))
      have h5 : w5.heap[w.heap.size]? = some (.cells #[.int .i64 b0, .int .i64 b1, .int .i64 b2, .int .i64 b3] 91) := by
        rw [hw5]; exact (heap_setCell_past _ _ _ _ (by simp)).trans (blk_set4 (blk_set4 HP2.out _ _ _ _) _ _ _ _)
      have h6 : w5.heap[w.heap.size + 1]? = some (.cells #[.int .i64 0] 25) := by
        rw [hw5]; exact blk_set1 (by repeat (first | (refine (heap_setCell_past _ _ _ _ ?_).trans ?_; · (first | omega | (simp; done) | (simp; omega) | fail)) | (refine (heap_alloc_past _ _ _ ?_).trans ?_; · (first | omega | (simp; done) | (simp; omega) | fail)) | exact HQ2.out | fail)) _
      rw [← hw5]
      clear hw5 hO c0 c1 c2 c3 f0 f1 f2 f3 d0 g0 r0
      refine leaves_cons (f := 79) (args := #[.pointer (some ⟨w.heap.size, 0, none⟩), .pointer (some ⟨w.heap.size + 1, 0, none⟩)]) (by simp) (by simp [go_sem]) ?_
      refine (catchL_idle _ _ _).mono ?_
      rintro e u' w3 ⟨rfl, rfl, rfl⟩
      have c0 := blk_cell h5 0; have c1 := blk_cell h5 1; have c2 := blk_cell h5 2; have c3 := blk_cell h5 3
      have d0 := blk_cell h6 0
      clear h5 h6
      simp [Leaves, settle, results, Tryz.results43, go_sem, c0, c1, c2, c3, d0]
      show ParsedL (allF (leafNameF s)) _ _ _
      rw [HL.out]
      exact ⟨rfl, HBF.out⟩
    | cons x t =>
      go_wp2_with fail
      refine (fail_any _ _).mono ?_
      rintro e wf ⟨rfl, rfl⟩
      obtain ⟨w5, hw5⟩ : ∃ w5, w5 = (((w2.setCell ⟨w.heap.size, 0, none⟩ (.int .i64 b0)).setCell ⟨w.heap.size, 1, none⟩ (.int .i64 b1)).setCell ⟨w.heap.size, 2, none⟩ (.int .i64 b2)).setCell ⟨w.heap.size, 3, none⟩ (.int .i64 b3) := ⟨_, rfl⟩
      have HP2 := Lib.hid (show w5.heap[w.heap.size]? = some (.cells #[.int .i64 b0, .int .i64 b1, .int .i64 b2, .int .i64 b3] 91) by rw [hw5]; exact blk_set4 HP2.out _ _ _ _)
      have HQ2 := Lib.hid (show w5.heap[w.heap.size + 1]? = some (.cells #[.int .i64 0] 25) by rw [hw5]; exact (by repeat (first | (refine (heap_setCell_past _ _ _ _ ?_).trans ?_; · (first | omega | (simp; done) | (simp; omega) | fail)) | (refine (heap_alloc_past _ _ _ ?_).trans ?_; · (first | omega | (simp; done) | (simp; omega) | fail)) | exact HQ2.out | fail)))
      have HB2 := Lib.hid (show Below w.heap.size w w5 by rw [hw5]; exact (by repeat (first | (refine Below.setCell ?_ ?_ _; rotate_left; · (first | omega | (simp; done) | (simp; omega) | fail)) | (refine Below.alloc ?_ ?_ _; rotate_left; · (first | omega | (simp; done) | (simp; omega) | fail)) | refine Below.drew ?_ | exact HB2.out | fail)))
      rw [← hw5]
      clear hw5 c0 c1 c2 c3 f0 f1 f2 f3 d0 g0 r0
      go_wp2_with fail
      refine leaves_cons (f := 79) (args := #[.pointer (some ⟨w.heap.size, 0, none⟩), .pointer (some ⟨w.heap.size + 1, 0, none⟩)]) (by simp) (by simp [go_sem]) ?_
      refine (catchL_panicking _ _ _ _ _ _ _ _ _ _ _ [] _ HP2.out HQ2.out (by omega)).mono ?_
      rintro e u' w3 ⟨rfl, rfl, hc⟩
      have hbz := HB2.out.size
      have HBF := Lib.hid (hc.only.below HB2.out hbz (fun k h => by omega))
      have c0 := blk_cell hc.bp 0; have c1 := blk_cell hc.bp 1; have c2 := blk_cell hc.bp 2; have c3 := blk_cell hc.bp 3
      have d0 := blk_cell hc.bq 0
      simp [Leaves, settle, results, Tryz.results43, go_sem, c0, c1, c2, c3, d0]
      first
      | exact ⟨rfl, HBF.out⟩
      | (show ParsedL (allF (leafNameF s)) _ _ _; rw [HL.out]; exact ⟨rfl, HBF.out⟩)

end Go.Proofs.YtlfglbnbenaghaaGreatDoor
