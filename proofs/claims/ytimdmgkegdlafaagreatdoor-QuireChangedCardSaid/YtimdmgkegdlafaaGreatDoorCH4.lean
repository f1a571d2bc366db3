/- The parts Qc, Rf of the proof, joined. It holds without conditions of its own. -/
import Derived.Test.YtimdmgkegdlafaaGreatDoorCH3
import Derived.Test.YtimdmgkegdlafaaGreatDoorCH1
import Derived.StillTailTactics
import Derived.RangeFuncCalls
import Derived.RangeFuncBound
import Derived.RangeFuncLeaves
import Derived.RangeFuncRecord
import Derived.Below
/- Contracts of package quire: the changes of a gathering. -/
namespace Go.Proofs.YtimdmgkegdlafaaGreatDoor
set_option linter.unusedSimpArgs false
set_option linter.unusedVariables false
open Go.RowKit

theorem bcell {W w1 : World} (hb : Below W.heap.size W w1) : (∀ b o, b < W.heap.size → w1.cell? ⟨b, o, none⟩ = W.cell? ⟨b, o, none⟩) ∧ (∀ b o, b < W.heap.size → w1.frozen? ⟨b, o, none⟩ = W.frozen? ⟨b, o, none⟩) :=
  ⟨fun b o h => hb.cell (p := ⟨b, o, none⟩) h, fun b o h => hb.frozen (p := ⟨b, o, none⟩) h⟩
theorem lt_of_cell {w : World} {b o : Nat} {v : Value} (h : w.cell? ⟨b, o, none⟩ = some v) : b < w.heap.size := by
  unfold World.cell? at h
  cases ho : w.heap[b]? with
  | none => simp [ho] at h
  | some o => exact (Array.getElem?_eq_some_iff.1 ho).1
theorem cell_later' {w w1 : World} (hb : Below w.heap.size w w1) {b o : Nat} {v : Value} (h : w.cell? ⟨b, o, none⟩ = some v) : w1.cell? ⟨b, o, none⟩ = some v :=
  (hb.cell (p := ⟨b, o, none⟩) (lt_of_cell h)).trans h

set_option maxHeartbeats 400000 in
theorem chk1_form (i leaves : Int) (c : Chg) (bg : Nat) (w : World) (hk : kindB c = false) :
    Calls Tryz.prog 92 #[.int .i64 i, .agg #[.int .i64 c.kind, .int .i64 c.pos, .int .i64 c.many], .pointer (some ⟨bg, 0, none⟩)] w fun e w' => e = .returned (.int .i64 6) ∧ Below w.heap.size w w' := by
  have hd : deedV c = .nilIface := by
    unfold kindB at hk; simp at hk; simp [deedV, hk]
  go_enter Tryz.func92, Tryz.ntmps92
  go_wp2_with fail
  refine (deedOf_any c _).mono ?_
  rintro e w1 ⟨rfl, hb⟩
  rw [hd]
  have hb1 := ((Below.refl w.heap.size w).alloc (Nat.le_refl _) _).trans (hb.mono (by simp))
  clear hb hd hk
  go_wp2_with fail
  go_ret
  exact ⟨rfl, hb1⟩

set_option maxHeartbeats 400000 in
theorem chk1_range (i leaves : Int) (c : Chg) (bg : Nat) (w : World) (hk : kindB c = true) (h2 : w.cell? ⟨bg, 2, none⟩ = some (.int .i64 leaves)) (hr : rangeB c leaves = false) :
    Calls Tryz.prog 92 #[.int .i64 i, .agg #[.int .i64 c.kind, .int .i64 c.pos, .int .i64 c.many], .pointer (some ⟨bg, 0, none⟩)] w fun e w' => e = .returned (.int .i64 7) ∧ Below w.heap.size w w' := by
  have hd : ∃ T v, deedV c = .iface T v := by
    unfold kindB at hk; simp at hk; unfold deedV
    rcases hk with (h | h) | h <;> simp [h]
  obtain ⟨T, u, hd⟩ := hd
  have hlt := lt_of_cell h2
  go_enter Tryz.func92, Tryz.ntmps92
  go_wp2_with fail
  refine (deedOf_any c _).mono ?_
  rintro e w1 ⟨rfl, hb⟩
  rw [hd]
  have hc1 : w1.cell? ⟨w.heap.size, 0, none⟩ = some (.int .i64 c.kind) := cell_later' hb (by simp [World.cell?_alloc_at])
  have hc2 : w1.cell? ⟨w.heap.size, 1, none⟩ = some (.int .i64 c.pos) := cell_later' hb (by simp [World.cell?_alloc_at])
  have hc3 : w1.cell? ⟨w.heap.size, 2, none⟩ = some (.int .i64 c.many) := cell_later' hb (by simp [World.cell?_alloc_at])
  have hb1 := ((Below.refl w.heap.size w).alloc (Nat.le_refl _) _).trans (hb.mono (by simp))
  have h2' : w1.cell? ⟨bg, 2, none⟩ = some (.int .i64 leaves) := cell_later' hb1 h2
  clear hb hd hk h2 hlt
  go_wp2_with fail
  refine (inRange_any c leaves _).mono ?_
  rintro e w2 ⟨rfl, hb⟩
  rw [hr]
  have hb2 := hb1.trans (hb.mono hb1.size)
  clear hb
  go_wp2_with fail
  go_ret
  exact ⟨rfl, hb2⟩

set_option maxHeartbeats 400000 in
theorem chk1_first (leaves : Int) (c : Chg) (bg : Nat) (w : World) (hk : kindB c = true) (h2 : w.cell? ⟨bg, 2, none⟩ = some (.int .i64 leaves)) (hr : rangeB c leaves = true) :
    Calls Tryz.prog 92 #[.int .i64 0, .agg #[.int .i64 c.kind, .int .i64 c.pos, .int .i64 c.many], .pointer (some ⟨bg, 0, none⟩)] w fun e w' => e = .returned (.int .i64 0) ∧ Below w.heap.size w w' := by
  have hd : ∃ T v, deedV c = .iface T v := by
    unfold kindB at hk; simp at hk; unfold deedV
    rcases hk with (h | h) | h <;> simp [h]
  obtain ⟨T, u, hd⟩ := hd
  have hlt := lt_of_cell h2
  go_enter Tryz.func92, Tryz.ntmps92
  go_wp2_with fail
  refine (deedOf_any c _).mono ?_
  rintro e w1 ⟨rfl, hb⟩
  rw [hd]
  have hc1 : w1.cell? ⟨w.heap.size, 0, none⟩ = some (.int .i64 c.kind) := cell_later' hb (by simp [World.cell?_alloc_at])
  have hc2 : w1.cell? ⟨w.heap.size, 1, none⟩ = some (.int .i64 c.pos) := cell_later' hb (by simp [World.cell?_alloc_at])
  have hc3 : w1.cell? ⟨w.heap.size, 2, none⟩ = some (.int .i64 c.many) := cell_later' hb (by simp [World.cell?_alloc_at])
  have hb1 := ((Below.refl w.heap.size w).alloc (Nat.le_refl _) _).trans (hb.mono (by simp))
  have h2' : w1.cell? ⟨bg, 2, none⟩ = some (.int .i64 leaves) := cell_later' hb1 h2
  clear hb hd hk h2 hlt
  go_wp2_with fail
  refine (inRange_any c leaves _).mono ?_
  rintro e w2 ⟨rfl, hb⟩
  rw [hr]
  have hb2 := hb1.trans (hb.mono hb1.size)
  clear hb hr h2' hc1 hc2 hc3 hb1
  go_wp2_with fail
  go_quiet (fail)
  go_wp2
  go_ret
  exact ⟨rfl, bdrewN hb2 _⟩

set_option maxRecDepth 100000 in
set_option maxHeartbeats 400000 in
theorem chk1_next (j n cap : Nat) (leaves : Int) (p c : Chg) (bg b off : Nat) (w : World) (hj : j < n) (hn : n ≤ 100) (hk : kindB c = true) (h2 : w.cell? ⟨bg, 2, none⟩ = some (.int .i64 leaves)) (h3 : w.cell? ⟨bg, 3, none⟩ = some (.slice (some ⟨b, off, none⟩) n cap))
    (p1 : w.cell? ⟨b, off + j * 3, none⟩ = some (.int .i64 p.kind)) (p2 : w.cell? ⟨b, off + j * 3 + 1, none⟩ = some (.int .i64 p.pos)) (p3 : w.cell? ⟨b, off + j * 3 + 2, none⟩ = some (.int .i64 p.many)) (hr : rangeB c leaves = true) (v : Int) (hv : (orderB p c = false ∧ v = 2) ∨ (orderB p c = true ∧ v = 0)) :
    Calls Tryz.prog 92 #[.int .i64 ((j : Int) + 1), .agg #[.int .i64 c.kind, .int .i64 c.pos, .int .i64 c.many], .pointer (some ⟨bg, 0, none⟩)] w fun e w' => e = .returned (.int .i64 v) ∧ Below w.heap.size w w' := by
  have hd : ∃ T v, deedV c = .iface T v := by
    unfold kindB at hk; simp at hk; unfold deedV
    rcases hk with (h | h) | h <;> simp [h]
  obtain ⟨T, u, hd⟩ := hd
  have hlt := lt_of_cell h2
  go_enter Tryz.func92, Tryz.ntmps92
  go_wp2_with fail
  refine (deedOf_any c _).mono ?_
  rintro e w1 ⟨rfl, hb⟩
  rw [hd]
  have hc1 : w1.cell? ⟨w.heap.size, 0, none⟩ = some (.int .i64 c.kind) := cell_later' hb (by simp [World.cell?_alloc_at])
  have hc2 : w1.cell? ⟨w.heap.size, 1, none⟩ = some (.int .i64 c.pos) := cell_later' hb (by simp [World.cell?_alloc_at])
  have hc3 : w1.cell? ⟨w.heap.size, 2, none⟩ = some (.int .i64 c.many) := cell_later' hb (by simp [World.cell?_alloc_at])
  have hb1 := ((Below.refl w.heap.size w).alloc (Nat.le_refl _) _).trans (hb.mono (by simp))
  have h2' : w1.cell? ⟨bg, 2, none⟩ = some (.int .i64 leaves) := cell_later' hb1 h2
  clear hb hd hk h2 hlt
  go_wp2_with fail
  refine (inRange_any c leaves _).mono ?_
  rintro e w2 ⟨rfl, hb⟩
  rw [hr]
  have hc1 := cell_later' hb hc1
  have hc2 := cell_later' hb hc2
  have hc3 := cell_later' hb hc3
  have hb2 := hb1.trans (hb.mono hb1.size)
  have h3 := cell_later' hb2 h3
  have p1 := cell_later' hb2 p1
  have p2 := cell_later' hb2 p2
  have p3 := cell_later' hb2 p3
  clear hb hr h2' hb1
  have d0 : decide ((0 : Int) < (j : Int) + 1) = true := by rw [decide_eq_true_eq]; omega
  have d1 : IntKind.i64.wrap (j : Int) = j := by rw [IntKind.wrap_i64]; omega
  have d2 : ((j : Int) < n) := by omega
  have hb3 : Below w.heap.size w w2.drew := hb2.drew
  rcases hv with ⟨ho, rfl⟩ | ⟨ho, rfl⟩
  all_goals
    go_wp2_with fail
    go_still_tail 10, (by kernel_rfl)
    change wpList _ _ _ _ _ w2.drew
    clear h3 p1 p2 p3 hc1 hc2 hc3
    revert hb3
    generalize w2.drew = w3
    intro hb3
    go_wp2_with fail
    refine (inOrder_any p c _).mono ?_
    rintro e w4 ⟨rfl, hb⟩
    rw [ho]
    have hb4 := hb3.trans (hb.mono hb3.size)
    clear hb ho
    go_wp2_with fail
    go_ret
    exact ⟨rfl, hb4⟩

/-- The change before the i-th one. -/
def prevAt (cs : List Chg) (i : Nat) : Option Chg := if i = 0 then none else cs[i - 1]?

/-- THE CLOSURE: the error of the i-th change. -/
theorem chk1_any (i n cap : Nat) (leaves : Int) (cs : List Chg) (c : Chg) (bg b off : Nat) (w : World) (hi : cs[i]? = some c) (hn : cs.length = n) (hn' : n ≤ 100) (h2 : w.cell? ⟨bg, 2, none⟩ = some (.int .i64 leaves)) (h3 : w.cell? ⟨bg, 3, none⟩ = some (.slice (some ⟨b, off, none⟩) n cap))
    (hcs : ∀ i c, cs[i]? = some c → w.cell? ⟨b, off + i * 3, none⟩ = some (.int .i64 c.kind) ∧ w.cell? ⟨b, off + i * 3 + 1, none⟩ = some (.int .i64 c.pos) ∧ w.cell? ⟨b, off + i * 3 + 2, none⟩ = some (.int .i64 c.many)) :
    Calls Tryz.prog 92 #[.int .i64 i, .agg #[.int .i64 c.kind, .int .i64 c.pos, .int .i64 c.many], .pointer (some ⟨bg, 0, none⟩)] w fun e w' => e = .returned (.int .i64 (chErr leaves (prevAt cs i) c)) ∧ Below w.heap.size w w' := by
  have hil := (List.getElem?_eq_some_iff.1 hi).1
  cases hk : kindB c
  · have e1 : chErr leaves (prevAt cs i) c = 6 := by simp [chErr, hk]
    rw [e1]; exact chk1_form i leaves c bg w hk
  · cases hr : rangeB c leaves
    · have e1 : chErr leaves (prevAt cs i) c = 7 := by simp [chErr, hk, hr]
      rw [e1]; exact chk1_range i leaves c bg w hk h2 hr
    · cases i with
      | zero =>
        have e1 : chErr leaves (prevAt cs 0) c = 0 := by simp [chErr, hk, hr, prevAt]
        rw [e1]; exact chk1_first leaves c bg w hk h2 hr
      | succ j =>
        obtain ⟨p, hp⟩ : ∃ p, cs[j]? = some p := ⟨cs[j], List.getElem?_eq_getElem (by omega)⟩
        obtain ⟨p1, p2, p3⟩ := hcs j p hp
        refine (chk1_next j n cap leaves p c bg b off w (by omega) hn' hk h2 h3 p1 p2 p3 hr _ ?_)
        have e1 : prevAt cs (j + 1) = some p := by simp [prevAt, hp]
        rw [e1]
        cases ho : orderB p c
        · left; simp [chErr, hk, hr, ho]
        · right; simp [chErr, hk, hr, ho]

theorem chsErr_step {leaves : Int} {cs : List Chg} {k : Nat} {c : Chg} (hk : cs[k]? = some c) (h0 : chErr leaves (prevAt cs k) c = 0) :
    chsErr leaves (prevAt cs k) k (cs.drop k) = chsErr leaves (prevAt cs (k + 1)) (k + 1) (cs.drop (k + 1)) := by
  have hl := (List.getElem?_eq_some_iff.1 hk).1
  have e : cs.drop k = c :: cs.drop (k + 1) := by
    rw [List.drop_eq_getElem_cons hl]; congr 1; exact Option.some.inj ((List.getElem?_eq_getElem hl).symm.trans hk)
  rw [e, chsErr, if_pos h0]
  simp [prevAt, hk]
theorem chsErr_stop {leaves : Int} {cs : List Chg} {k : Nat} {c : Chg} (hk : cs[k]? = some c) (h0 : chErr leaves (prevAt cs k) c ≠ 0) :
    chsErr leaves (prevAt cs k) k (cs.drop k) = (k, chErr leaves (prevAt cs k) c) := by
  have hl := (List.getElem?_eq_some_iff.1 hk).1
  have e : cs.drop k = c :: cs.drop (k + 1) := by
    rw [List.drop_eq_getElem_cons hl]; congr 1; exact Option.some.inj ((List.getElem?_eq_getElem hl).symm.trans hk)
  rw [e, chsErr, if_neg h0]

def chsR (leaves : Int) (cs : List Chg) : Value := .tuple #[.int .i64 (chsErr leaves none 0 cs).1, .int .i64 (chsErr leaves none 0 cs).2]

set_option maxRecDepth 100000 in
set_option maxHeartbeats 400000 in
theorem firstErrorCh_some (n cap : Nat) (leaves : Int) (cs : List Chg) (bg b off : Nat) (w : World) (hn : cs.length = n) (hn' : n ≤ 100) (h2 : w.cell? ⟨bg, 2, none⟩ = some (.int .i64 leaves)) (h3 : w.cell? ⟨bg, 3, none⟩ = some (.slice (some ⟨b, off, none⟩) n cap))
    (hcs : ∀ i c, cs[i]? = some c → w.cell? ⟨b, off + i * 3, none⟩ = some (.int .i64 c.kind) ∧ w.cell? ⟨b, off + i * 3 + 1, none⟩ = some (.int .i64 c.pos) ∧ w.cell? ⟨b, off + i * 3 + 2, none⟩ = some (.int .i64 c.many)) :
    Calls Tryz.prog 91 #[.slice (some ⟨b, off, none⟩) n cap, .func (.func 92) #[] #[.pointer (some ⟨bg, 0, none⟩)]] w fun e w' => e = .returned (chsR leaves cs) ∧ Below w.heap.size w w' := by
  have HN := Lib.hid hn
  clear hn
  go_enter Tryz.func91, Tryz.ntmps91
  go_wp2
  go_loopw [11] (fun i wr => ∃ k : Nat, k ≤ n ∧ i = .int .i64 k ∧ Below w.heap.size w wr ∧ Hid (chsErr leaves none 0 cs = chsErr leaves (prevAt cs k) k (cs.drop k))) (fun i _ => n - (intOf i).toNat)
  case atStart => exact ⟨0, by omega, rfl, Below.refl _ _, rfl⟩
  case round =>
    obtain ⟨k, hk, rfl, hb, hh⟩ := hrel
    by_cases hlt : k < n
    · obtain ⟨c, hc⟩ : ∃ c, cs[k]? = some c := ⟨cs[k]'(by rw [HN.out]; exact hlt), List.getElem?_eq_getElem _⟩
      have g2 := cell_later' hb h2
      have g3 := cell_later' hb h3
      have gc : ∀ i c, cs[i]? = some c → wr.cell? ⟨b, off + i * 3, none⟩ = some (.int .i64 c.kind) ∧ wr.cell? ⟨b, off + i * 3 + 1, none⟩ = some (.int .i64 c.pos) ∧ wr.cell? ⟨b, off + i * 3 + 2, none⟩ = some (.int .i64 c.many) := fun i c h =>
        ⟨cell_later' hb (hcs i c h).1, cell_later' hb (hcs i c h).2.1, cell_later' hb (hcs i c h).2.2⟩
      obtain ⟨p1, p2, p3⟩ := gc k c hc
      have HC := Lib.hid hc
      have HG := Lib.hid gc
      clear hc gc hcs h2 h3
      have hba : Below wr.heap.size wr (wr.alloc (Obj.cells #[.int .i64 c.kind, .int .i64 c.pos, .int .i64 c.many] 44)) := (Below.refl _ _).alloc (Nat.le_refl _) _
      have hC := chk1_any k n cap leaves cs c bg b off _ HC.out HN.out hn' (cell_later' hba g2) (cell_later' hba g3) (fun i c h => ⟨cell_later' hba (HG.out i c h).1, cell_later' hba (HG.out i c h).2.1, cell_later' hba (HG.out i c h).2.2⟩)
      have HCc := Lib.hid hC
      have HBa := Lib.hid hba
      clear hC hba
      go_wp2_with fail
      refine HCc.out.mono ?_
      rintro e w1 ⟨rfl, hb1⟩
      have hb2 : Below w.heap.size w w1 := hb.trans ((HBa.out.mono hb.size).trans (hb1.mono (by simp; have := hb.size; omega)))
      clear HBa HCc hb1
      obtain ⟨er, her⟩ : ∃ er, er = chErr leaves (prevAt cs k) c := ⟨_, rfl⟩
      rw [← her]
      have HE := Lib.hid her
      clear her g2 g3 p1 p2 p3 hb
      by_cases h0 : er = 0
      · subst h0
        go_wp2_with fail
        go_roundw
        case rel => exact ⟨k + 1, by omega, by go_num, hb2, hh.out.trans (chsErr_step HC.out HE.out.symm)⟩
        case measure => simp [intOf]; omega
      · have h0b : (er != 0) = true := by simp [h0]
        have HF : Hid (chsR leaves cs = .tuple #[.int .i64 k, .int .i64 er]) := by
          show chsR leaves cs = _
          have := hh.out.trans (chsErr_stop HC.out (fun h => h0 (HE.out.trans h)))
          unfold chsR; rw [this, HE.out]
        clear h0 HE hh
        go_wp2_with fail
        go_ret2
        exact ⟨by rw [HF.out]; rfl, hb2⟩
    · have HF : Hid (chsR leaves cs = .tuple #[.int .i64 0, .int .i64 0]) := by
        show chsR leaves cs = _
        have := hh.out
        unfold chsR; rw [this, List.drop_of_length_le (by rw [HN.out]; omega)]; rfl
      go_wp2_with fail
      go_ret2
      exact ⟨by rw [HF.out]; rfl, hb⟩

theorem firstErrorCh_none (leaves : Int) (a : Option Addr) (cap : Nat) (sv : Value) (w : World) :
    Calls Tryz.prog 91 #[.slice a 0 cap, sv] w fun e w' => e = .returned (chsR leaves []) ∧ Below w.heap.size w w' := by
  have HF : Hid (chsR leaves [] = .tuple #[.int .i64 0, .int .i64 0]) := rfl
  go_enter Tryz.func91, Tryz.ntmps91
  go_wp2
  refine wp_loop_rounds 1 ?_
  rw [rounds_succ]
  go_wp2
  go_ret2
  exact ⟨by rw [HF.out]; rfl, Below.refl _ _⟩

end Go.Proofs.YtimdmgkegdlafaaGreatDoor

/- A statement that ranges over a function, for iterators that keep state of their own in memory: the iterator owns a set X of blocks that the rounds leave alone; the caller owns the blocks that Ow names. For any program, at the wide fence. -/
namespace Go.Proofs.YtimdmgkegdlafaaGreatDoor
set_option linter.unusedSimpArgs false
set_option linter.unusedVariables false
open Go Go.RowKit

/-- From W to W' no block of W turns but those in X. -/
structure OnlyIn (X : Nat → Prop) (W W' : World) : Prop where
  os : W'.os = W.os
  tape : W'.tape = W.tape
  output : W'.output = W.output
  size : W.heap.size ≤ W'.heap.size
  block : ∀ k, k < W.heap.size → ¬ X k → W'.heap[k]? = W.heap[k]?

theorem OnlyIn.refl (X : Nat → Prop) (W : World) : OnlyIn X W W := ⟨rfl, rfl, rfl, Nat.le_refl _, fun _ _ _ => rfl⟩
theorem OnlyIn.trans {X : Nat → Prop} {A B C : World} (h : OnlyIn X A B) (k : OnlyIn X B C) : OnlyIn X A C :=
  ⟨k.os.trans h.os, k.tape.trans h.tape, k.output.trans h.output, Nat.le_trans h.size k.size, fun i hi hx => (k.block i (Nat.lt_of_lt_of_le hi h.size) hx).trans (h.block i hi hx)⟩
theorem OnlyIn.mono {X Y : Nat → Prop} {A B : World} (h : OnlyIn X A B) (hxy : ∀ k, X k → Y k) : OnlyIn Y A B :=
  ⟨h.os, h.tape, h.output, h.size, fun i hi hy => h.block i hi (fun hx => hy (hxy i hx))⟩
theorem OnlyIn.alloc (X : Nat → Prop) (W : World) (o : Obj) : OnlyIn X W (W.alloc o) :=
  ⟨rfl, rfl, rfl, by simp, fun k hk _ => Below.heap_alloc W o k hk⟩
theorem OnlyIn.setCell {X : Nat → Prop} (W : World) (p : Addr) (v : Value) (hp : X p.block) : OnlyIn X W (W.setCell p v) :=
  ⟨rfl, rfl, rfl, by simp [World.setCell], fun k _ hx => Below.heap_setCell W p v k (fun e => hx (e ▸ hp))⟩
theorem OnlyIn.putObj {X : Nat → Prop} (W : World) (l : Nat) (o : Obj) (hl : X l) : OnlyIn X W (W.putObj l o) :=
  ⟨rfl, rfl, rfl, by simp, fun _ _ hx => World.putObj_heap_other (fun e => hx (e ▸ hl))⟩
theorem OnlyIn.drew (X : Nat → Prop) (W : World) : OnlyIn X W W.drew := ⟨rfl, rfl, rfl, Nat.le_refl _, fun _ _ _ => rfl⟩
/-- What a call that leaves all that was there does. -/
theorem OnlyIn.of_below {X : Nat → Prop} {W W' : World} (h : Below W.heap.size W W') : OnlyIn X W W' :=
  ⟨h.os, h.tape, h.output, h.size, fun k hk _ => h.block k hk⟩
theorem OnlyIn.below {X : Nat → Prop} {B : Nat} {A W W' : World} (h : OnlyIn X W W') (hb : Below B A W) (hB : B ≤ W.heap.size) (hx : ∀ k, X k → B ≤ k) : Below B A W' :=
  hb.trans ⟨h.os, h.tape, h.output, h.size, fun k hk => h.block k (Nat.lt_of_lt_of_le hk hB) (fun hxk => by have := hx k hxk; omega)⟩

/-- The invariant allows whatever the iterator does: it turns blocks of its own and lays new ones. -/
def Abide {α : Type} (J : List α → (Nat → Prop) → World → Prop) : Prop :=
  ∀ pre (X X' : Nat → Prop) W W', J pre X W → OnlyIn X W W' → (∀ k, X' k → X k ∨ (W.heap.size ≤ k ∧ k < W'.heap.size)) → J pre X' W'

/-- What a round leaves as it was: the data that the iterator reads, and its own blocks. -/
def Kept (Pr X : Nat → Prop) (W W' : World) : Prop := W.heap.size ≤ W'.heap.size ∧ ∀ k, k < W.heap.size → (Pr k ∨ X k) → W'.heap[k]? = W.heap[k]?

/-- THE ITERATOR's CONTRACT: it yields xs, one after the other, or stops when a round says so. -/
def ItC {α : Type} (P : Program) (gf : Nat) (lb : Array Value) (encs : α → Array Value) (xs : List α) (Pr : Nat → Prop) (w₀ : World) : Prop :=
  ∀ (l : Nat) (J Jx : List α → (Nat → Prop) → World → Prop) (W : World), w₀.heap.size ≤ W.heap.size → (∀ k, Pr k → W.heap[k]? = w₀.heap[k]?) → Abide J → Abide Jx →
    (∀ pre x rest X W1, xs = pre ++ x :: rest → J pre X W1 → YieldAt Fence.wide 9 P l (encs x) W1 fun e W' =>
      (e = .returned (.bool true) ∧ J (pre ++ [x]) X W' ∧ Kept Pr X W1 W') ∨ (e = .returned (.bool false) ∧ Jx (pre ++ [x]) X W' ∧ Kept Pr X W1 W')) →
    J [] (fun _ => False) W →
    Calls P gf (#[.func (.yield l) #[] #[]] ++ lb) W fun e W' => (∃ v, e = .returned v) ∧ ((∃ X, J xs X W') ∨ (∃ pre X, Jx pre X W'))

/-- What a round of the caller's does to the world. -/
structure Turn (hs : Nat) (Pr : Nat → Prop) (Ow : World → Nat → Prop) (W W' : World) : Prop where
  size : W.heap.size ≤ W'.heap.size
  prot : ∀ k, Pr k → W'.heap[k]? = W.heap[k]?
  keeps : ∀ k, hs ≤ k → k < W.heap.size → ¬ Ow W k → W'.heap[k]? = W.heap[k]?
  owns : ∀ k, k < W.heap.size → Ow W' k → Ow W k

theorem Turn.trans {hs : Nat} {Pr : Nat → Prop} {Ow : World → Nat → Prop} {A B C : World} (h : Turn hs Pr Ow A B) (k : Turn hs Pr Ow B C) : Turn hs Pr Ow A C :=
  ⟨Nat.le_trans h.size k.size, fun i hi => (k.prot i hi).trans (h.prot i hi),
   fun i hs' hi ho => (k.keeps i hs' (Nat.lt_of_lt_of_le hi h.size) (fun hb => ho (h.owns i hi hb))).trans (h.keeps i hs' hi ho),
   fun i hi ho => h.owns i hi (k.owns i (Nat.lt_of_lt_of_le hi h.size) ho)⟩

def rfPost {α : Type} (hs : Nat) (Pr : Nat → Prop) (Ow : World → Nat → Prop) (I : List α → World → Prop) (Ix : Code → List α → World → Prop) (xs : List α) (W : World) : Exit → Act → World → Prop
  | .normal, _, W' => Turn hs Pr Ow W W' ∧ I xs W'
  | .ret, _, W' => Turn hs Pr Ow W W' ∧ Ix .ret xs W'
  | .exit id, _, W' => Turn hs Pr Ow W W' ∧ Ix (.exit id) xs W'
  | .goto t, _, W' => Turn hs Pr Ow W W' ∧ Ix (.goto t) xs W'
  | .panic _, _, _ => False
  | .outgrown, _, _ => False

theorem loop_not_cells {W : World} {l : Nat} {r : Loop} (h : W.heap[l]? = some (.loop r)) : ¬ ∃ c t f, W.heap[l]? = some (.cells c t f) := by
  rintro ⟨c, t, f, e⟩; rw [h] at e; cases e

/-- THE STATEMENT. -/
theorem rf_law {P : Program} {n : Nat} {α : Type} {g : Operand} {ps : Array Tmp} {assign body : Code} {Q : Exit → Act → World → Prop} {a : Act} {w : World}
    {gf : Nat} {lb : Array Value} (hg : a.eval g = .func (.func gf) #[] lb) (eg : ∀ args w, (callFunc gf args).run P w = .ok (.enter gf args) w)
    {encs : α → Array Value} {xs : List α} {Pr : Nat → Prop} (hit : ItC P gf lb encs xs Pr w) (hps : ∀ x, (encs x).size = ps.size) (hPr : ∀ k, Pr k → k < w.heap.size)
    (I : List α → World → Prop) (Ix : Code → List α → World → Prop) (Ow : World → Nat → Prop) (o : α → Obj) (a₁ : α → Nat → Act)
    (hOwc : ∀ pre W k, I pre W → Ow W k → ∃ c t f, W.heap[k]? = some (.cells c t f))
    (hI : ∀ pre (X : Nat → Prop) W W', I pre W → OnlyIn X W W' → (∀ k, X k → w.heap.size ≤ k ∧ ¬ Ow W k) → I pre W' ∧ ∀ k, Ow W' k → Ow W k)
    (hIx : ∀ c pre (X : Nat → Prop) W W', Ix c pre W → OnlyIn X W W' → (∀ k, X k → w.heap.size ≤ k) → Ix c pre W')
    (h0 : I [] w)
    (hassign : ∀ (l : Nat) (x : α) (W : World) (K : Act → World → Prop), K (a₁ x W.heap.size) (W.alloc (o x)) →
      assign.wpIn (Fence.wide.inRound l) 9 P (Exit.then K (fun _ _ _ => False)) { tmps := (ps.zip (encs x)).foldl (fun t (p, v) => t.setIfInBounds p v) a.tmps, defers := [] } W)
    (hbody : ∀ (l : Nat) (pre : List α) (x : α) (rest : List α) (bx : Nat) (W : World), xs = pre ++ x :: rest → I pre W → W.heap[bx]? = some (o x) → w.heap.size ≤ bx → ¬ Ow W bx →
      body.wpIn (Fence.wide.inRound l) 9 P (rfPost w.heap.size Pr Ow I Ix (pre ++ [x]) W) (a₁ x bx) W)
    (hdone : ∀ (D : Nat) (W : World), w.heap.size ≤ D → I xs W → W.heap[D]? = some (.deferred (some [])) → Q .normal { a with defers := { target := .collected D, args := #[] } :: a.defers } W)
    (hstop : ∀ (D : Nat) (c : Code) (pre : List α) (W : World), w.heap.size ≤ D → Ix c pre W → W.heap[D]? = some (.deferred (some [])) → c.wpIn Fence.wide n P Q { a with defers := { target := .collected D, args := #[] } :: a.defers } W) :
    (Code.rangeFunc g ps assign body).wpIn Fence.wide n P Q a w := by
  refine wpIn_rangeFunc ?_
  intro fn hfn
  obtain ⟨rec, hrec⟩ : ∃ rec : LoopState → Option Code → Loop, rec = fun st pe => { state := st, pending := pe, fn, tmps := a.tmps, params := ps, assign, body, defers := w.heap.size } := ⟨_, rfl⟩
  obtain ⟨W1, hW1⟩ : ∃ W1, (w.alloc (.deferred (some []))).alloc (.loop (rec .ready none)) = W1 := ⟨_, rfl⟩
  have hz1 : W1.heap.size = w.heap.size + 2 := by rw [← hW1]; simp
  have hL1 : W1.heap[w.heap.size + 1]? = some (.loop (rec .ready none)) := by
    rw [← hW1]; have := World.alloc_heap_new (w.alloc (.deferred (some []))) (.loop (rec .ready none)); rwa [World.size_alloc] at this
  have hK1 : W1.heap[w.heap.size]? = some (.deferred (some [])) := by
    rw [← hW1]; exact (Below.heap_alloc _ _ _ (by simp)).trans (World.alloc_heap_new w _)
  have hO1 : OnlyIn (fun _ => False) w W1 := by rw [← hW1]; exact (OnlyIn.alloc _ w _).trans (OnlyIn.alloc _ _ _)
  have hI1 : I [] W1 := (hI [] _ w W1 h0 hO1 (fun _ h => h.elim)).1
  refine ⟨w.heap.size + 1, [{ target := .collected w.heap.size, args := #[] }], W1, { target := .fn (.func gf) lb, args := #[.func (.yield (w.heap.size + 1)) #[] #[]] }, W1, gf,
    #[.func (.yield (w.heap.size + 1)) #[] #[]] ++ lb, W1, ?_, ?_, ?_, ?_, fun h => by simp [Fence.wide] at h, ?_⟩
  · rw [← hW1, hrec]; exact run_enterLoop_outer _ _ _ _ _
  · simp only [resolve, hg]
    simp [go_sem]
  · intro f' _; trivial
  · simp [invoke, go_sem, eg]
  refine callsIn_wide.2 ((hit (w.heap.size + 1)
      (fun pre X W => I pre W ∧ W.heap[w.heap.size + 1]? = some (.loop (rec .ready none)) ∧ W.heap[w.heap.size]? = some (.deferred (some [])) ∧ ∀ k, X k → w.heap.size + 2 ≤ k ∧ k < W.heap.size ∧ ¬ Ow W k)
      (fun pre X W => ∃ c, Ix c pre W ∧ W.heap[w.heap.size + 1]? = some (.loop (rec .done (some c))) ∧ W.heap[w.heap.size]? = some (.deferred (some [])) ∧ ∀ k, X k → w.heap.size + 2 ≤ k ∧ k < W.heap.size)
      W1 (by omega) (fun k hk => hO1.block k (hPr k hk) (fun h => h)) ?_ ?_ ?_ ⟨hI1, hL1, hK1, fun _ h => h.elim⟩).mono ?_)
  · -- J abides
    rintro pre X X' W W' ⟨hi, hl, hk, hx⟩ ho hx'
    have hlt : w.heap.size + 1 < W.heap.size := (Array.getElem?_eq_some_iff.1 hl).1
    obtain ⟨hi', how⟩ := hI pre X W W' hi ho (fun k h => ⟨by have := (hx k h).1; omega, (hx k h).2.2⟩)
    refine ⟨hi', (ho.block _ hlt (fun h => by have := (hx _ h).1; omega)).trans hl, (ho.block _ (by omega) (fun h => by have := (hx _ h).1; omega)).trans hk, fun k h => ?_⟩
    rcases hx' k h with h1 | ⟨h1, h2⟩
    · obtain ⟨a1, a2, a3⟩ := hx k h1
      exact ⟨a1, Nat.lt_of_lt_of_le a2 ho.size, fun h => a3 (how k h)⟩
    · refine ⟨by omega, h2, fun h => ?_⟩
      obtain ⟨c, t, f, e⟩ := hOwc pre W k hi (how k h)
      have := (Array.getElem?_eq_some_iff.1 e).1
      omega
  · rintro pre X X' W W' ⟨c, hi, hl, hk, hx⟩ ho hx'
    have hlt : w.heap.size + 1 < W.heap.size := (Array.getElem?_eq_some_iff.1 hl).1
    refine ⟨c, hIx c pre X W W' hi ho (fun k h => by have := (hx k h).1; omega), (ho.block _ hlt (fun h => by have := (hx _ h).1; omega)).trans hl, (ho.block _ (by omega) (fun h => by have := (hx _ h).1; omega)).trans hk, fun k h => ?_⟩
    rcases hx' k h with h1 | ⟨h1, h2⟩
    · obtain ⟨a1, a2⟩ := hx k h1
      exact ⟨a1, Nat.lt_of_lt_of_le a2 ho.size⟩
    · exact ⟨by omega, h2⟩
  · -- one round
    rintro pre x rest X W hxs ⟨hi, hl, hk, hx⟩
    have hlt : w.heap.size + 1 < W.heap.size := (Array.getElem?_eq_some_iff.1 hl).1
    have hy := run_yield (P := P) (args := encs x) hl (by rw [hrec]; exact hps x)
    rw [hrec] at hy
    refine ⟨fn, _, assign, body, hy, roundIn_of_wpIn hfn (hassign _ x W _ ?_)⟩
    clear hy
    obtain ⟨Wa, hWa⟩ : ∃ Wa, W.alloc (o x) = Wa := ⟨_, rfl⟩
    rw [hWa]
    have hza : Wa.heap.size = W.heap.size + 1 := by rw [← hWa]; simp
    have hla : Wa.heap[w.heap.size + 1]? = some (.loop (rec .ready none)) := by rw [← hWa]; exact (Below.heap_alloc _ _ _ hlt).trans hl
    refine ⟨_, run_beginRound hla (by rw [hrec]), ?_⟩
    obtain ⟨W2, hW2⟩ : ∃ W2, Wa.putObj (w.heap.size + 1) (.loop { rec .ready none with state := .busy }) = W2 := ⟨_, rfl⟩
    rw [hW2]
    have hz2 : W2.heap.size = W.heap.size + 1 := by rw [← hW2]; simp [hza]
    have hl2 : W2.heap[w.heap.size + 1]? = some (.loop { rec .ready none with state := .busy }) := by rw [← hW2]; exact World.putObj_heap_same (by omega)
    have hk2 : W2.heap[w.heap.size]? = some (.deferred (some [])) := by rw [← hW2]; exact (World.putObj_heap_other (by omega)).trans (by rw [← hWa]; exact (Below.heap_alloc _ _ _ (by omega)).trans hk)
    have hbx2 : W2.heap[W.heap.size]? = some (o x) := by rw [← hW2]; exact (World.putObj_heap_other (by omega)).trans (by rw [← hWa]; exact World.alloc_heap_new W _)
    have ho2 : OnlyIn (fun k => k = w.heap.size + 1) W W2 := by
      rw [← hW2]; refine OnlyIn.trans ?_ (OnlyIn.putObj Wa _ _ rfl); rw [← hWa]; exact OnlyIn.alloc _ W _
    obtain ⟨hi2, how2⟩ := hI pre _ W W2 hi ho2 (fun k e => ⟨by omega, fun h => by subst e; exact loop_not_cells hl (hOwc pre W _ hi h)⟩)
    refine wpIn_mono (hbody _ pre x rest W.heap.size W2 hxs hi2 hbx2 (by omega) (fun h => ?_)) ?_
    · obtain ⟨c, t, f, e⟩ := hOwc pre W _ hi (how2 _ h)
      have := (Array.getElem?_eq_some_iff.1 e).1
      omega
    have nL : ¬ Ow W2 (w.heap.size + 1) := fun h => loop_not_cells hl (hOwc pre W _ hi (how2 _ h))
    have nD : ¬ Ow W2 w.heap.size := fun h => by
      obtain ⟨c, t, f, e⟩ := hOwc pre W _ hi (how2 _ h); rw [hk] at e; cases e
    have fin : ∀ (jump : Option Code) (W3 : World), Turn w.heap.size Pr Ow W2 W3 →
        (Instr.endRound (w.heap.size + 1) jump).run P W3 = .ok (.bool jump.isNone) (W3.putObj (w.heap.size + 1) (.loop (rec (if jump.isNone then .ready else .done) jump))) ∧
        W3.heap[w.heap.size + 1]? = some (.loop { rec .ready none with state := .busy }) ∧
        (W3.putObj (w.heap.size + 1) (.loop (rec (if jump.isNone then .ready else .done) jump))).heap[w.heap.size + 1]? = some (.loop (rec (if jump.isNone then .ready else .done) jump)) ∧
        (W3.putObj (w.heap.size + 1) (.loop (rec (if jump.isNone then .ready else .done) jump))).heap[w.heap.size]? = some (.deferred (some [])) := fun jump W3 ht => by
      have hl3 := (ht.keeps _ (by omega) (by omega) nL).trans hl2
      have := run_endRound (P := P) jump hl3
      rw [hrec] at this ⊢
      exact ⟨this, by rw [hrec] at hl3; exact hl3, World.putObj_heap_same (Array.getElem?_eq_some_iff.1 hl3).1, (World.putObj_heap_other (by omega)).trans ((ht.keeps _ (by omega) (by omega) nD).trans hk2)⟩
    have kept3 : ∀ (W3 : World) (o : Obj), Turn w.heap.size Pr Ow W2 W3 → Kept Pr X W (W3.putObj (w.heap.size + 1) o) := fun W3 o ht => by
      have hsz := ht.size
      refine ⟨by simp; omega, fun k hkW h => ?_⟩
      rcases h with h | h
      · have hkw := hPr k h
        exact (World.putObj_heap_other (by omega)).trans ((ht.prot k h).trans (ho2.block k hkW (by omega)))
      · obtain ⟨a1, a2, a3'⟩ := hx k h
        exact (World.putObj_heap_other (by omega)).trans ((ht.keeps k (by omega) (by omega) (fun h => a3' (how2 k h))).trans (ho2.block k hkW (by omega)))
    have leaves : ∀ (c : Code) (W3 : World), Turn w.heap.size Pr Ow W2 W3 → Ix c (pre ++ [x]) W3 → ∃ v w', (Instr.endRound (w.heap.size + 1) (some c)).run P W3 = .ok v w' ∧
        (((Ending.returned v : Ending) = .returned (.bool true) ∧ (I (pre ++ [x]) w' ∧ w'.heap[w.heap.size + 1]? = some (.loop (rec .ready none)) ∧ w'.heap[w.heap.size]? = some (.deferred (some [])) ∧ ∀ k, X k → w.heap.size + 2 ≤ k ∧ k < w'.heap.size ∧ ¬ Ow w' k) ∧ Kept Pr X W w') ∨
          ((Ending.returned v : Ending) = .returned (.bool false) ∧ (∃ c, Ix c (pre ++ [x]) w' ∧ w'.heap[w.heap.size + 1]? = some (.loop (rec .done (some c))) ∧ w'.heap[w.heap.size]? = some (.deferred (some [])) ∧ (∀ k, X k → w.heap.size + 2 ≤ k ∧ k < w'.heap.size)) ∧ Kept Pr X W w')) := fun c W3 ht hc => by
      obtain ⟨hr, hl3, hl4, hk4⟩ := fin (some c) W3 ht
      refine ⟨_, _, hr, .inr ⟨rfl, ⟨c, hIx c _ _ W3 _ hc (OnlyIn.putObj (X := fun k => k = w.heap.size + 1) W3 _ _ rfl) (fun k e => by omega), hl4, hk4, fun k h => ?_⟩, kept3 W3 _ ht⟩⟩
      have := hx k h
      have := ht.size
      exact ⟨by omega, by simp; omega⟩
    rintro e a3 W3 hp
    cases e with
    | normal =>
      obtain ⟨ht, hi3⟩ := hp
      obtain ⟨hr, hl3, hl4, hk4⟩ := fin none W3 ht
      obtain ⟨hi4, how4⟩ := hI _ _ W3 (W3.putObj (w.heap.size + 1) (.loop (rec (if (none : Option Code).isNone then .ready else .done) none))) hi3 (OnlyIn.putObj (X := fun k => k = w.heap.size + 1) W3 _ _ rfl) (fun k e => ⟨by omega, fun h => by subst e; exact loop_not_cells hl3 (hOwc _ W3 _ hi3 h)⟩)
      have hsz := ht.size
      refine ⟨_, _, hr, .inl ⟨rfl, ⟨hi4, hl4, hk4, fun k h => ?_⟩, kept3 W3 _ ht⟩⟩
      obtain ⟨a1, a2, a3'⟩ := hx k h
      exact ⟨a1, by simp; omega, fun h4 => a3' (how2 k (ht.owns k (by omega) (how4 k h4)))⟩
    | ret => exact leaves .ret W3 hp.1 hp.2
    | exit id => exact leaves (.exit id) W3 hp.1 hp.2
    | goto t => exact leaves (.goto t) W3 hp.1 hp.2
    | panic ch => exact hp.elim
    | outgrown => exact hp.elim
  · -- behind the iterator
    rintro e W2 ⟨⟨v, rfl⟩, (⟨X, hi, hl, hk, hx⟩ | ⟨pre, X, c, hi, hl, hk, hx⟩)⟩
    · refine ⟨none, _, by have := run_endLoop (P := P) hl (by rw [hrec]; simp); rw [hrec] at this; exact this, ?_⟩
      exact hdone _ _ (Nat.le_refl _) (hI _ _ W2 _ hi (OnlyIn.putObj (X := fun k => k = w.heap.size + 1) W2 _ _ rfl) (fun k e => ⟨by omega, fun h => by subst e; exact loop_not_cells hl (hOwc _ W2 _ hi h)⟩)).1 ((World.putObj_heap_other (by omega)).trans hk)
    · refine ⟨some c, _, by have := run_endLoop (P := P) hl (by rw [hrec]; simp); rw [hrec] at this; exact this, ?_⟩
      exact hstop _ c pre _ (Nat.le_refl _) (hIx c _ _ W2 _ hi (OnlyIn.putObj (X := fun k => k = w.heap.size + 1) W2 _ _ rfl) (fun k e => by omega)) ((World.putObj_heap_other (by omega)).trans hk)

/-- How the body of a round may be left, where the invariant names the iterator's blocks. -/
def rfPostX {α : Type} (Pr X : Nat → Prop) (I : List α → (Nat → Prop) → World → Prop) (Ix : Code → List α → (Nat → Prop) → World → Prop) (xs : List α) (W : World) : Exit → Act → World → Prop
  | .normal, _, W' => Kept Pr X W W' ∧ I xs X W'
  | .ret, _, W' => Kept Pr X W W' ∧ Ix .ret xs X W'
  | .exit id, _, W' => Kept Pr X W W' ∧ Ix (.exit id) xs X W'
  | .goto t, _, W' => Kept Pr X W W' ∧ Ix (.goto t) xs X W'
  | .panic _, _, _ => False
  | .outgrown, _, _ => False

/-- THE STATEMENT, its invariant naming the blocks that are not the caller's (a caller that is an iterator itself wants that). -/
theorem rf_gen {P : Program} {n : Nat} {α : Type} {g : Operand} {ps : Array Tmp} {assign body : Code} {Q : Exit → Act → World → Prop} {a : Act} {w : World}
    {gf : Nat} {lb : Array Value} (hg : a.eval g = .func (.func gf) #[] lb) (eg : ∀ args w, (callFunc gf args).run P w = .ok (.enter gf args) w)
    {encs : α → Array Value} {xs : List α} {Pr : Nat → Prop} (hit : ItC P gf lb encs xs Pr w) (hps : ∀ x, (encs x).size = ps.size) (hPr : ∀ k, Pr k → k < w.heap.size)
    (I : List α → (Nat → Prop) → World → Prop) (Ix : Code → List α → (Nat → Prop) → World → Prop) (o : α → Obj) (a₁ : α → Nat → Act)
    (hI : Abide I) (hIx : ∀ c, Abide (Ix c)) (h0 : I [] (fun _ => False) w)
    (hassign : ∀ (l : Nat) (x : α) (W : World) (K : Act → World → Prop), K (a₁ x W.heap.size) (W.alloc (o x)) →
      assign.wpIn (Fence.wide.inRound l) 9 P (Exit.then K (fun _ _ _ => False)) { tmps := (ps.zip (encs x)).foldl (fun t (p, v) => t.setIfInBounds p v) a.tmps, defers := [] } W)
    (hbody : ∀ (l : Nat) (pre : List α) (x : α) (rest : List α) (bx : Nat) (X : Nat → Prop) (W : World), xs = pre ++ x :: rest → I pre X W → W.heap[bx]? = some (o x) → ¬ X bx → w.heap.size ≤ bx →
      body.wpIn (Fence.wide.inRound l) 9 P (rfPostX Pr X I Ix (pre ++ [x]) W) (a₁ x bx) W)
    (hdone : ∀ (D : Nat) (X : Nat → Prop) (W : World), w.heap.size ≤ D → X D → I xs X W → W.heap[D]? = some (.deferred (some [])) → Q .normal { a with defers := { target := .collected D, args := #[] } :: a.defers } W)
    (hstop : ∀ (D : Nat) (c : Code) (pre : List α) (X : Nat → Prop) (W : World), w.heap.size ≤ D → X D → Ix c pre X W → W.heap[D]? = some (.deferred (some [])) → c.wpIn Fence.wide n P Q { a with defers := { target := .collected D, args := #[] } :: a.defers } W) :
    (Code.rangeFunc g ps assign body).wpIn Fence.wide n P Q a w := by
  refine wpIn_rangeFunc ?_
  intro fn hfn
  obtain ⟨rec, hrec⟩ : ∃ rec : LoopState → Option Code → Loop, rec = fun st pe => { state := st, pending := pe, fn, tmps := a.tmps, params := ps, assign, body, defers := w.heap.size } := ⟨_, rfl⟩
  obtain ⟨W1, hW1⟩ : ∃ W1, (w.alloc (.deferred (some []))).alloc (.loop (rec .ready none)) = W1 := ⟨_, rfl⟩
  have hz1 : W1.heap.size = w.heap.size + 2 := by rw [← hW1]; simp
  have hL1 : W1.heap[w.heap.size + 1]? = some (.loop (rec .ready none)) := by
    rw [← hW1]; have := World.alloc_heap_new (w.alloc (.deferred (some []))) (.loop (rec .ready none)); rwa [World.size_alloc] at this
  have hK1 : W1.heap[w.heap.size]? = some (.deferred (some [])) := by
    rw [← hW1]; exact (Below.heap_alloc _ _ _ (by simp)).trans (World.alloc_heap_new w _)
  have hO1 : OnlyIn (fun _ => False) w W1 := by rw [← hW1]; exact (OnlyIn.alloc _ w _).trans (OnlyIn.alloc _ _ _)
  have hI1 : I [] (fun k => k = w.heap.size ∨ k = w.heap.size + 1) W1 := hI [] _ _ w W1 h0 hO1 (fun k h => Or.inr (by omega))
  refine ⟨w.heap.size + 1, [{ target := .collected w.heap.size, args := #[] }], W1, { target := .fn (.func gf) lb, args := #[.func (.yield (w.heap.size + 1)) #[] #[]] }, W1, gf,
    #[.func (.yield (w.heap.size + 1)) #[] #[]] ++ lb, W1, ?_, ?_, ?_, ?_, fun h => by simp [Fence.wide] at h, ?_⟩
  · rw [← hW1, hrec]; exact run_enterLoop_outer _ _ _ _ _
  · simp only [resolve, hg]
    simp [go_sem]
  · intro f' _; trivial
  · simp [invoke, go_sem, eg]
  refine callsIn_wide.2 ((hit (w.heap.size + 1)
      (fun pre X W => ∃ Xc : Nat → Prop, (∀ k, X k → Xc k) ∧ I pre Xc W ∧ W.heap[w.heap.size + 1]? = some (.loop (rec .ready none)) ∧ W.heap[w.heap.size]? = some (.deferred (some [])) ∧ Xc w.heap.size ∧ Xc (w.heap.size + 1) ∧ ¬ X w.heap.size ∧ ¬ X (w.heap.size + 1) ∧ ∀ k, Xc k → k < W.heap.size)
      (fun pre X W => ∃ (Xc : Nat → Prop) (c : Code), (∀ k, X k → Xc k) ∧ Ix c pre Xc W ∧ W.heap[w.heap.size + 1]? = some (.loop (rec .done (some c))) ∧ W.heap[w.heap.size]? = some (.deferred (some [])) ∧ Xc w.heap.size ∧ Xc (w.heap.size + 1) ∧ ¬ X w.heap.size ∧ ¬ X (w.heap.size + 1))
      W1 (by omega) (fun k hk => hO1.block k (hPr k hk) (fun h => h)) ?_ ?_ ?_ ⟨_, fun _ h => h.elim, hI1, hL1, hK1, Or.inl rfl, Or.inr rfl, fun h => h, fun h => h, fun k h => by omega⟩).mono ?_)
  · -- J abides
    rintro pre X X' W W' ⟨Xc, hs, hi, hl, hk, hd1, hd2, hn1, hn2, hb⟩ ho hx'
    have hlt : w.heap.size + 1 < W.heap.size := (Array.getElem?_eq_some_iff.1 hl).1
    refine ⟨fun k => Xc k ∨ X' k, fun k h => Or.inr h, hI pre Xc _ W W' hi (ho.mono hs) (fun k h => ?_), (ho.block _ hlt hn2).trans hl, (ho.block _ (by omega) hn1).trans hk, Or.inl hd1, Or.inl hd2, fun h => ?_, fun h => ?_, fun k h => ?_⟩
    · rcases h with h | h
      · exact Or.inl h
      · rcases hx' k h with h | h
        · exact Or.inl (hs k h)
        · exact Or.inr h
    · rcases hx' _ h with h | h
      · exact hn1 h
      · omega
    · rcases hx' _ h with h | h
      · exact hn2 h
      · omega
    · rcases h with h | h
      · exact Nat.lt_of_lt_of_le (hb k h) ho.size
      · rcases hx' k h with h | h
        · exact Nat.lt_of_lt_of_le (hb k (hs k h)) ho.size
        · exact h.2
  · rintro pre X X' W W' ⟨Xc, c, hs, hi, hl, hk, hd1, hd2, hn1, hn2⟩ ho hx'
    have hlt : w.heap.size + 1 < W.heap.size := (Array.getElem?_eq_some_iff.1 hl).1
    refine ⟨fun k => Xc k ∨ X' k, c, fun k h => Or.inr h, hIx c pre Xc _ W W' hi (ho.mono hs) (fun k h => ?_), (ho.block _ hlt hn2).trans hl, (ho.block _ (by omega) hn1).trans hk, Or.inl hd1, Or.inl hd2, fun h => ?_, fun h => ?_⟩
    · rcases h with h | h
      · exact Or.inl h
      · rcases hx' k h with h | h
        · exact Or.inl (hs k h)
        · exact Or.inr h
    · rcases hx' _ h with h | h
      · exact hn1 h
      · omega
    · rcases hx' _ h with h | h
      · exact hn2 h
      · omega
  · -- one round
    rintro pre x rest X W hxs ⟨Xc, hs, hi, hl, hk, hd1, hd2, hn1, hn2, hb⟩
    have hlt : w.heap.size + 1 < W.heap.size := (Array.getElem?_eq_some_iff.1 hl).1
    have hy := run_yield (P := P) (args := encs x) hl (by rw [hrec]; exact hps x)
    rw [hrec] at hy
    refine ⟨fn, _, assign, body, hy, roundIn_of_wpIn hfn (hassign _ x W _ ?_)⟩
    clear hy
    obtain ⟨Wa, hWa⟩ : ∃ Wa, W.alloc (o x) = Wa := ⟨_, rfl⟩
    rw [hWa]
    have hza : Wa.heap.size = W.heap.size + 1 := by rw [← hWa]; simp
    have hla : Wa.heap[w.heap.size + 1]? = some (.loop (rec .ready none)) := by rw [← hWa]; exact (Below.heap_alloc _ _ _ hlt).trans hl
    refine ⟨_, run_beginRound hla (by rw [hrec]), ?_⟩
    obtain ⟨W2, hW2⟩ : ∃ W2, Wa.putObj (w.heap.size + 1) (.loop { rec .ready none with state := .busy }) = W2 := ⟨_, rfl⟩
    rw [hW2]
    have hz2 : W2.heap.size = W.heap.size + 1 := by rw [← hW2]; simp [hza]
    have hl2 : W2.heap[w.heap.size + 1]? = some (.loop { rec .ready none with state := .busy }) := by rw [← hW2]; exact World.putObj_heap_same (by omega)
    have hk2 : W2.heap[w.heap.size]? = some (.deferred (some [])) := by rw [← hW2]; exact (World.putObj_heap_other (by omega)).trans (by rw [← hWa]; exact (Below.heap_alloc _ _ _ (by omega)).trans hk)
    have hbx2 : W2.heap[W.heap.size]? = some (o x) := by rw [← hW2]; exact (World.putObj_heap_other (by omega)).trans (by rw [← hWa]; exact World.alloc_heap_new W _)
    have ho2 : OnlyIn (fun k => k = w.heap.size + 1) W W2 := by
      rw [← hW2]; refine OnlyIn.trans ?_ (OnlyIn.putObj Wa _ _ rfl); rw [← hWa]; exact OnlyIn.alloc _ W _
    have hi2 : I pre Xc W2 := hI pre Xc Xc W W2 hi (ho2.mono (fun k e => by subst e; exact hd2)) (fun k h => Or.inl h)
    refine wpIn_mono (hbody _ pre x rest W.heap.size Xc W2 hxs hi2 hbx2 (fun h => by have := hb _ h; omega) (by omega)) ?_
    have fin : ∀ (jump : Option Code) (W3 : World), Kept Pr Xc W2 W3 →
        (Instr.endRound (w.heap.size + 1) jump).run P W3 = .ok (.bool jump.isNone) (W3.putObj (w.heap.size + 1) (.loop (rec (if jump.isNone then .ready else .done) jump))) ∧
        W3.heap[w.heap.size + 1]? = some (.loop { rec .ready none with state := .busy }) ∧
        (W3.putObj (w.heap.size + 1) (.loop (rec (if jump.isNone then .ready else .done) jump))).heap[w.heap.size + 1]? = some (.loop (rec (if jump.isNone then .ready else .done) jump)) ∧
        (W3.putObj (w.heap.size + 1) (.loop (rec (if jump.isNone then .ready else .done) jump))).heap[w.heap.size]? = some (.deferred (some [])) := fun jump W3 ht => by
      have hl3 := (ht.2 _ (by omega) (Or.inr hd2)).trans hl2
      have := run_endRound (P := P) jump hl3
      rw [hrec] at this ⊢
      exact ⟨this, by rw [hrec] at hl3; exact hl3, World.putObj_heap_same (Array.getElem?_eq_some_iff.1 hl3).1, (World.putObj_heap_other (by omega)).trans ((ht.2 _ (by omega) (Or.inr hd1)).trans hk2)⟩
    have kept3 : ∀ (W3 : World) (o : Obj), Kept Pr Xc W2 W3 → Kept Pr X W (W3.putObj (w.heap.size + 1) o) := fun W3 o ht => by
      have hsz := ht.1
      refine ⟨by simp; omega, fun k hkW h => ?_⟩
      have hkL : k ≠ w.heap.size + 1 := by
        rcases h with h | h
        · have := hPr k h; omega
        · exact fun e => hn2 (e ▸ h)
      exact (World.putObj_heap_other hkL).trans ((ht.2 k (by omega) (h.imp id (hs k))).trans (ho2.block k hkW hkL))
    have leaves : ∀ (c : Code) (W3 : World), Kept Pr Xc W2 W3 → Ix c (pre ++ [x]) Xc W3 → ∃ v w', (Instr.endRound (w.heap.size + 1) (some c)).run P W3 = .ok v w' ∧
        (((Ending.returned v : Ending) = .returned (.bool true) ∧ (∃ Xc : Nat → Prop, (∀ k, X k → Xc k) ∧ I (pre ++ [x]) Xc w' ∧ w'.heap[w.heap.size + 1]? = some (.loop (rec .ready none)) ∧ w'.heap[w.heap.size]? = some (.deferred (some [])) ∧ Xc w.heap.size ∧ Xc (w.heap.size + 1) ∧ ¬ X w.heap.size ∧ ¬ X (w.heap.size + 1) ∧ ∀ k, Xc k → k < w'.heap.size) ∧ Kept Pr X W w') ∨
          ((Ending.returned v : Ending) = .returned (.bool false) ∧ (∃ (Xc : Nat → Prop) (c : Code), (∀ k, X k → Xc k) ∧ Ix c (pre ++ [x]) Xc w' ∧ w'.heap[w.heap.size + 1]? = some (.loop (rec .done (some c))) ∧ w'.heap[w.heap.size]? = some (.deferred (some [])) ∧ Xc w.heap.size ∧ Xc (w.heap.size + 1) ∧ ¬ X w.heap.size ∧ ¬ X (w.heap.size + 1)) ∧ Kept Pr X W w')) := fun c W3 ht hc => by
      obtain ⟨hr, hl3, hl4, hk4⟩ := fin (some c) W3 ht
      exact ⟨_, _, hr, .inr ⟨rfl, ⟨Xc, c, hs, hIx c _ Xc Xc W3 _ hc (OnlyIn.putObj W3 _ _ hd2) (fun k h => Or.inl h), hl4, hk4, hd1, hd2, hn1, hn2⟩, kept3 W3 _ ht⟩⟩
    rintro e a3 W3 hp
    cases e with
    | normal =>
      obtain ⟨ht, hi3⟩ := hp
      obtain ⟨hr, hl3, hl4, hk4⟩ := fin none W3 ht
      have hsz := ht.1
      exact ⟨_, _, hr, .inl ⟨rfl, ⟨Xc, hs, hI _ Xc Xc W3 _ hi3 (OnlyIn.putObj W3 _ _ hd2) (fun k h => Or.inl h), hl4, hk4, hd1, hd2, hn1, hn2, fun k h => by have := hb k h; simp; omega⟩, kept3 W3 _ ht⟩⟩
    | ret => exact leaves .ret W3 hp.1 hp.2
    | exit id => exact leaves (.exit id) W3 hp.1 hp.2
    | goto t => exact leaves (.goto t) W3 hp.1 hp.2
    | panic ch => exact hp.elim
    | outgrown => exact hp.elim
  · -- behind the iterator
    rintro e W2 ⟨⟨v, rfl⟩, (⟨X, Xc, hs, hi, hl, hk, hd1, hd2, hn1, hn2, hb⟩ | ⟨pre, X, Xc, c, hs, hi, hl, hk, hd1, hd2, hn1, hn2⟩)⟩
    · refine ⟨none, _, by have := run_endLoop (P := P) hl (by rw [hrec]; simp); rw [hrec] at this; exact this, ?_⟩
      exact hdone _ Xc _ (Nat.le_refl _) hd1 (hI _ Xc Xc W2 _ hi (OnlyIn.putObj W2 _ _ hd2) (fun k h => Or.inl h)) ((World.putObj_heap_other (by omega)).trans hk)
    · refine ⟨some c, _, by have := run_endLoop (P := P) hl (by rw [hrec]; simp); rw [hrec] at this; exact this, ?_⟩
      exact hstop _ c pre Xc _ (Nat.le_refl _) hd1 (hIx c _ Xc Xc W2 _ hi (OnlyIn.putObj W2 _ _ hd2) (fun k h => Or.inl h)) ((World.putObj_heap_other (by omega)).trans hk)

/-- Behind a loop of such statements the frame bears a mark for each of them: they are taken back, one after the other. -/
def markOf (D : Nat) : Deferred := { target := .collected D, args := #[] }
theorem leaves_marks {n : Nat} {P : Program} {fn : Func} {tmps : Array Value} {R : Ending → World → Prop} : ∀ (Ds : List Nat) (W : World), Ds.Nodup → (∀ D ∈ Ds, W.heap[D]? = some (.deferred (some []))) →
    (∀ W', OnlyIn (fun k => k ∈ Ds) W W' → W'.heap.size = W.heap.size → LeavesInM Fence.wide n P fn tmps R [] .returning W') → LeavesInM Fence.wide n P fn tmps R (Ds.map markOf) .returning W
  | [], W, _, _, h => h W (OnlyIn.refl _ _) rfl
  | D :: Ds, W, hn, hd, h => by
    obtain ⟨hD, hn⟩ := List.nodup_cons.1 hn
    refine ⟨by simp, .inl ⟨D, _, rfl, run_takeDeferred (hd D (by simp)), ?_⟩⟩
    refine leaves_marks Ds _ hn (fun D' hD' => ?_) (fun W' ho hz => ?_)
    · exact (World.putObj_heap_other (k := D') (r := D) (fun e => hD (e ▸ hD'))).trans (hd D' (by simp [hD']))
    · refine h W' ((OnlyIn.putObj (X := fun k => k ∈ D :: Ds) W D _ (by simp)).trans (ho.mono fun k hk => by simp [hk])) (by simpa using hz)

/-- A round's contract goes into whatever round. -/
theorem roundIn_any {n m l' : Nat} {P : Program} {l : Nat} {f : FuncId} {tmps : Array Value} {assign body : Code} {w : World} {R : Ending → World → Prop} (h : RoundIn Fence.wide n P l f tmps assign body w R) : RoundIn (Fence.wide.inRound l') m P l f tmps assign body w R :=
  ⟨h.1, fun c cs _ => h.2 c cs (room_wide _)⟩

/-- What a caller keeps: all that lay at its start, and some blocks of its own. -/
structure Held (w0 : World) (bs : List (Nat × Obj)) (W : World) : Prop where
  below : Below w0.heap.size w0 W
  at_ : ∀ p ∈ bs, W.heap[p.1]? = some p.2
theorem Held.only {w0 W W' : World} {bs : List (Nat × Obj)} {X : Nat → Prop} (h : Held w0 bs W) (ho : OnlyIn X W W') {hs : Nat} (hX : ∀ k, X k → hs ≤ k) (h0 : w0.heap.size ≤ hs) (hb : ∀ p ∈ bs, p.1 < hs) : Held w0 bs W' := by
  refine ⟨ho.below h.below h.below.size (fun k hk => Nat.le_trans h0 (hX k hk)), fun p hp => ?_⟩
  have hlt : p.1 < W.heap.size := (Array.getElem?_eq_some_iff.1 (h.at_ p hp)).1
  exact (ho.block p.1 hlt (fun hx => by have := hX _ hx; have := hb p hp; omega)).trans (h.at_ p hp)
theorem Held.below' {w0 W W' : World} {bs : List (Nat × Obj)} (h : Held w0 bs W) (hb : Below W.heap.size W W') : Held w0 bs W' :=
  h.only (OnlyIn.of_below (X := fun _ => False) hb) (hs := max w0.heap.size (bs.foldr (fun p m => max (p.1 + 1) m) 0)) (fun _ h => h.elim) (by omega) (fun p hp => by
    have : ∀ (bs : List (Nat × Obj)), p ∈ bs → p.1 < bs.foldr (fun p m => max (p.1 + 1) m) 0 := fun bs => by
      induction bs with
      | nil => intro h; cases h
      | cons q bs ih =>
        intro h
        rcases List.mem_cons.1 h with rfl | h
        · simp only [List.foldr_cons]; omega
        · have := ih h; simp only [List.foldr_cons]; omega
    have := this bs hp
    omega)
theorem Turn.refl (hs : Nat) (Pr : Nat → Prop) (Ow : World → Nat → Prop) (W : World) : Turn hs Pr Ow W W := ⟨Nat.le_refl _, fun _ _ => rfl, fun _ _ _ _ => rfl, fun _ _ h => h⟩
/-- A round that turns boxes of the caller's ahead of the statement, and lays blocks. -/
theorem Turn.of {hs : Nat} {Pr : Nat → Prop} {X : Nat → Prop} {W W' : World} (h : OnlyIn X W W') (hX : ∀ k, X k → k < hs ∧ ¬ Pr k) (hPr : ∀ k, Pr k → k < W.heap.size) : Turn hs Pr (fun _ _ => False) W W' :=
  ⟨h.size, fun k hk => h.block k (hPr k hk) (fun hx => (hX k hx).2 hk), fun k hk hk' _ => h.block k hk' (fun hx => by have := (hX k hx).1; omega), fun _ _ h => h.elim⟩

end Go.Proofs.YtimdmgkegdlafaaGreatDoor
