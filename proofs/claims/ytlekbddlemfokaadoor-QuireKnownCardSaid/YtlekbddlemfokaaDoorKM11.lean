/- The parts Qc of the proof, joined. It holds without conditions of its own. -/
import Derived.Test.YtlekbddlemfokaaDoorKM10
import Derived.Test.YtlekbddlemfokaaDoorKM5
import Derived.Test.YtlekbddlemfokaaDoorKM2
import Derived.StillTailTactics
/- Contracts of package quire: the changes of a gathering. -/
namespace Go.Proofs.YtlekbddlemfokaaDoor
set_option linter.unusedSimpArgs false
set_option linter.unusedVariables false
open Go.RowKit

theorem bcell {W w1 : World} (hb : Below W.heap.size W w1) : (∀ b o, b < W.heap.size → w1.cell? ⟨b, o, none⟩ = W.cell? ⟨b, o, none⟩) ∧ (∀ b o, b < W.heap.size → w1.frozen? ⟨b, o, none⟩ = W.frozen? ⟨b, o, none⟩) :=
  ⟨fun b o h => hb.cell (p := ⟨b, o, none⟩) h, fun b o h => hb.frozen (p := ⟨b, o, none⟩) h⟩
theorem lt_of_cell {w : World} {b o : Nat} {v : Value} (h : w.cell? ⟨b, o, none⟩ = some v) : b < w.heap.size := by
  unfold World.cell? at h
  cases ho : w.heap[b]? with
  | none => simp [ho] at h
  | some o => exact (Array.getElem?_eq_some_iff.1 ho).1
theorem cell_later' {w w1 : World} (hb : Below w.heap.size w w1) {b o : Nat} {v : Value} (h : w.cell? ⟨b, o, none⟩ = some v) : w1.cell? ⟨b, o, none⟩ = some v :=
  (hb.cell (p := ⟨b, o, none⟩) (lt_of_cell h)).trans h

set_option maxHeartbeats 400000 in
theorem chk1_form (i leaves : Int) (c : Chg) (bg : Nat) (w : World) (hk : kindB c = false) :
    Calls Tryd.prog 65 #[.int .i64 i, .agg #[.int .i64 c.kind, .int .i64 c.pos, .int .i64 c.many], .pointer (some ⟨bg, 0, none⟩)] w fun e w' => e = .returned (.int .i64 6) ∧ Below w.heap.size w w' := by
  have hd : deedV c = .nilIface := by
    unfold kindB at hk; simp at hk; simp [deedV, hk]
  go_enter Tryd.func65, Tryd.ntmps65
  go_wp2_with fail
  refine (deedOf_any c _).mono ?_
  rintro e w1 ⟨rfl, hb⟩
  rw [hd]
  have hb1 := ((Below.refl w.heap.size w).alloc (Nat.le_refl _) _).trans (hb.mono (by simp))
  clear hb hd hk
  go_wp2_with fail
  go_ret
  exact ⟨rfl, hb1⟩

set_option maxHeartbeats 400000 in
theorem chk1_range (i leaves : Int) (c : Chg) (bg : Nat) (w : World) (hk : kindB c = true) (h2 : w.cell? ⟨bg, 2, none⟩ = some (.int .i64 leaves)) (hr : rangeB c leaves = false) :
    Calls Tryd.prog 65 #[.int .i64 i, .agg #[.int .i64 c.kind, .int .i64 c.pos, .int .i64 c.many], .pointer (some ⟨bg, 0, none⟩)] w fun e w' => e = .returned (.int .i64 7) ∧ Below w.heap.size w w' := by
  have hd : ∃ T v, deedV c = .iface T v := by
    unfold kindB at hk; simp at hk; unfold deedV
    rcases hk with (h | h) | h <;> simp [h]
  obtain ⟨T, u, hd⟩ := hd
  have hlt := lt_of_cell h2
  go_enter Tryd.func65, Tryd.ntmps65
  go_wp2_with fail
  refine (deedOf_any c _).mono ?_
  rintro e w1 ⟨rfl, hb⟩
  rw [hd]
  have hc1 : w1.cell? ⟨w.heap.size, 0, none⟩ = some (.int .i64 c.kind) := cell_later' hb (by simp [World.cell?_alloc_at])
  have hc2 : w1.cell? ⟨w.heap.size, 1, none⟩ = some (.int .i64 c.pos) := cell_later' hb (by simp [World.cell?_alloc_at])
  have hc3 : w1.cell? ⟨w.heap.size, 2, none⟩ = some (.int .i64 c.many) := cell_later' hb (by simp [World.cell?_alloc_at])
  have hb1 := ((Below.refl w.heap.size w).alloc (Nat.le_refl _) _).trans (hb.mono (by simp))
  have h2' : w1.cell? ⟨bg, 2, none⟩ = some (.int .i64 leaves) := cell_later' hb1 h2
  clear hb hd hk h2 hlt
  go_wp2_with fail
  refine (inRange_any c leaves _).mono ?_
  rintro e w2 ⟨rfl, hb⟩
  rw [hr]
  have hb2 := hb1.trans (hb.mono hb1.size)
  clear hb
  go_wp2_with fail
  go_ret
  exact ⟨rfl, hb2⟩

set_option maxHeartbeats 400000 in
theorem chk1_first (leaves : Int) (c : Chg) (bg : Nat) (w : World) (hk : kindB c = true) (h2 : w.cell? ⟨bg, 2, none⟩ = some (.int .i64 leaves)) (hr : rangeB c leaves = true) :
    Calls Tryd.prog 65 #[.int .i64 0, .agg #[.int .i64 c.kind, .int .i64 c.pos, .int .i64 c.many], .pointer (some ⟨bg, 0, none⟩)] w fun e w' => e = .returned (.int .i64 0) ∧ Below w.heap.size w w' := by
  have hd : ∃ T v, deedV c = .iface T v := by
    unfold kindB at hk; simp at hk; unfold deedV
    rcases hk with (h | h) | h <;> simp [h]
  obtain ⟨T, u, hd⟩ := hd
  have hlt := lt_of_cell h2
  go_enter Tryd.func65, Tryd.ntmps65
  go_wp2_with fail
  refine (deedOf_any c _).mono ?_
  rintro e w1 ⟨rfl, hb⟩
  rw [hd]
  have hc1 : w1.cell? ⟨w.heap.size, 0, none⟩ = some (.int .i64 c.kind) := cell_later' hb (by simp [World.cell?_alloc_at])
  have hc2 : w1.cell? ⟨w.heap.size, 1, none⟩ = some (.int .i64 c.pos) := cell_later' hb (by simp [World.cell?_alloc_at])
  have hc3 : w1.cell? ⟨w.heap.size, 2, none⟩ = some (.int .i64 c.many) := cell_later' hb (by simp [World.cell?_alloc_at])
  have hb1 := ((Below.refl w.heap.size w).alloc (Nat.le_refl _) _).trans (hb.mono (by simp))
  have h2' : w1.cell? ⟨bg, 2, none⟩ = some (.int .i64 leaves) := cell_later' hb1 h2
  clear hb hd hk h2 hlt
  go_wp2_with fail
  refine (inRange_any c leaves _).mono ?_
  rintro e w2 ⟨rfl, hb⟩
  rw [hr]
  have hb2 := hb1.trans (hb.mono hb1.size)
  clear hb hr h2' hc1 hc2 hc3 hb1
  go_wp2_with fail
  go_quiet (fail)
  go_wp2
  go_ret
  exact ⟨rfl, bdrewN hb2 _⟩

set_option maxRecDepth 100000 in
set_option maxHeartbeats 400000 in
theorem chk1_next (j n cap : Nat) (leaves : Int) (p c : Chg) (bg b off : Nat) (w : World) (hj : j < n) (hn : n ≤ 100) (hk : kindB c = true) (h2 : w.cell? ⟨bg, 2, none⟩ = some (.int .i64 leaves)) (h3 : w.cell? ⟨bg, 3, none⟩ = some (.slice (some ⟨b, off, none⟩) n cap))
    (p1 : w.cell? ⟨b, off + j * 3, none⟩ = some (.int .i64 p.kind)) (p2 : w.cell? ⟨b, off + j * 3 + 1, none⟩ = some (.int .i64 p.pos)) (p3 : w.cell? ⟨b, off + j * 3 + 2, none⟩ = some (.int .i64 p.many)) (hr : rangeB c leaves = true) (v : Int) (hv : (orderB p c = false ∧ v = 2) ∨ (orderB p c = true ∧ v = 0)) :
    Calls Tryd.prog 65 #[.int .i64 ((j : Int) + 1), .agg #[.int .i64 c.kind, .int .i64 c.pos, .int .i64 c.many], .pointer (some ⟨bg, 0, none⟩)] w fun e w' => e = .returned (.int .i64 v) ∧ Below w.heap.size w w' := by
  have hd : ∃ T v, deedV c = .iface T v := by
    unfold kindB at hk; simp at hk; unfold deedV
    rcases hk with (h | h) | h <;> simp [h]
  obtain ⟨T, u, hd⟩ := hd
  have hlt := lt_of_cell h2
  go_enter Tryd.func65, Tryd.ntmps65
  go_wp2_with fail
  refine (deedOf_any c _).mono ?_
  rintro e w1 ⟨rfl, hb⟩
  rw [hd]
  have hc1 : w1.cell? ⟨w.heap.size, 0, none⟩ = some (.int .i64 c.kind) := cell_later' hb (by simp [World.cell?_alloc_at])
  have hc2 : w1.cell? ⟨w.heap.size, 1, none⟩ = some (.int .i64 c.pos) := cell_later' hb (by simp [World.cell?_alloc_at])
  have hc3 : w1.cell? ⟨w.heap.size, 2, none⟩ = some (.int .i64 c.many) := cell_later' hb (by simp [World.cell?_alloc_at])
  have hb1 := ((Below.refl w.heap.size w).alloc (Nat.le_refl _) _).trans (hb.mono (by simp))
  have h2' : w1.cell? ⟨bg, 2, none⟩ = some (.int .i64 leaves) := cell_later' hb1 h2
  clear hb hd hk h2 hlt
  go_wp2_with fail
  refine (inRange_any c leaves _).mono ?_
  rintro e w2 ⟨rfl, hb⟩
  rw [hr]
  have hc1 := cell_later' hb hc1
  have hc2 := cell_later' hb hc2
  have hc3 := cell_later' hb hc3
  have hb2 := hb1.trans (hb.mono hb1.size)
  have h3 := cell_later' hb2 h3
  have p1 := cell_later' hb2 p1
  have p2 := cell_later' hb2 p2
  have p3 := cell_later' hb2 p3
  clear hb hr h2' hb1
  have d0 : decide ((0 : Int) < (j : Int) + 1) = true := by rw [decide_eq_true_eq]; omega
  have d1 : IntKind.i64.wrap (j : Int) = j := by rw [IntKind.wrap_i64]; omega
  have d2 : ((j : Int) < n) := by omega
  have hb3 : Below w.heap.size w w2.drew := hb2.drew
  rcases hv with ⟨ho, rfl⟩ | ⟨ho, rfl⟩
  all_goals
    go_wp2_with fail
    go_still_tail 10, (by kernel_rfl)
    change wpList _ _ _ _ _ w2.drew
    clear h3 p1 p2 p3 hc1 hc2 hc3
    revert hb3
    generalize w2.drew = w3
    intro hb3
    go_wp2_with fail
    refine (inOrder_any p c _).mono ?_
    rintro e w4 ⟨rfl, hb⟩
    rw [ho]
    have hb4 := hb3.trans (hb.mono hb3.size)
    clear hb ho
    go_wp2_with fail
    go_ret
    exact ⟨rfl, hb4⟩

/-- The change before the i-th one. -/
def prevAt (cs : List Chg) (i : Nat) : Option Chg := if i = 0 then none else cs[i - 1]?

/-- THE CLOSURE: the error of the i-th change. -/
theorem chk1_any (i n cap : Nat) (leaves : Int) (cs : List Chg) (c : Chg) (bg b off : Nat) (w : World) (hi : cs[i]? = some c) (hn : cs.length = n) (hn' : n ≤ 100) (h2 : w.cell? ⟨bg, 2, none⟩ = some (.int .i64 leaves)) (h3 : w.cell? ⟨bg, 3, none⟩ = some (.slice (some ⟨b, off, none⟩) n cap))
    (hcs : ∀ i c, cs[i]? = some c → w.cell? ⟨b, off + i * 3, none⟩ = some (.int .i64 c.kind) ∧ w.cell? ⟨b, off + i * 3 + 1, none⟩ = some (.int .i64 c.pos) ∧ w.cell? ⟨b, off + i * 3 + 2, none⟩ = some (.int .i64 c.many)) :
    Calls Tryd.prog 65 #[.int .i64 i, .agg #[.int .i64 c.kind, .int .i64 c.pos, .int .i64 c.many], .pointer (some ⟨bg, 0, none⟩)] w fun e w' => e = .returned (.int .i64 (chErr leaves (prevAt cs i) c)) ∧ Below w.heap.size w w' := by
  have hil := (List.getElem?_eq_some_iff.1 hi).1
  cases hk : kindB c
  · have e1 : chErr leaves (prevAt cs i) c = 6 := by simp [chErr, hk]
    rw [e1]; exact chk1_form i leaves c bg w hk
  · cases hr : rangeB c leaves
    · have e1 : chErr leaves (prevAt cs i) c = 7 := by simp [chErr, hk, hr]
      rw [e1]; exact chk1_range i leaves c bg w hk h2 hr
    · cases i with
      | zero =>
        have e1 : chErr leaves (prevAt cs 0) c = 0 := by simp [chErr, hk, hr, prevAt]
        rw [e1]; exact chk1_first leaves c bg w hk h2 hr
      | succ j =>
        obtain ⟨p, hp⟩ : ∃ p, cs[j]? = some p := ⟨cs[j], List.getElem?_eq_getElem (by omega)⟩
        obtain ⟨p1, p2, p3⟩ := hcs j p hp
        refine (chk1_next j n cap leaves p c bg b off w (by omega) hn' hk h2 h3 p1 p2 p3 hr _ ?_)
        have e1 : prevAt cs (j + 1) = some p := by simp [prevAt, hp]
        rw [e1]
        cases ho : orderB p c
        · left; simp [chErr, hk, hr, ho]
        · right; simp [chErr, hk, hr, ho]

theorem chsErr_step {leaves : Int} {cs : List Chg} {k : Nat} {c : Chg} (hk : cs[k]? = some c) (h0 : chErr leaves (prevAt cs k) c = 0) :
    chsErr leaves (prevAt cs k) k (cs.drop k) = chsErr leaves (prevAt cs (k + 1)) (k + 1) (cs.drop (k + 1)) := by
  have hl := (List.getElem?_eq_some_iff.1 hk).1
  have e : cs.drop k = c :: cs.drop (k + 1) := by
    rw [List.drop_eq_getElem_cons hl]; congr 1; exact Option.some.inj ((List.getElem?_eq_getElem hl).symm.trans hk)
  rw [e, chsErr, if_pos h0]
  simp [prevAt, hk]
theorem chsErr_stop {leaves : Int} {cs : List Chg} {k : Nat} {c : Chg} (hk : cs[k]? = some c) (h0 : chErr leaves (prevAt cs k) c ≠ 0) :
    chsErr leaves (prevAt cs k) k (cs.drop k) = (k, chErr leaves (prevAt cs k) c) := by
  have hl := (List.getElem?_eq_some_iff.1 hk).1
  have e : cs.drop k = c :: cs.drop (k + 1) := by
    rw [List.drop_eq_getElem_cons hl]; congr 1; exact Option.some.inj ((List.getElem?_eq_getElem hl).symm.trans hk)
  rw [e, chsErr, if_neg h0]

def chsR (leaves : Int) (cs : List Chg) : Value := .tuple #[.int .i64 (chsErr leaves none 0 cs).1, .int .i64 (chsErr leaves none 0 cs).2]

set_option maxRecDepth 100000 in
set_option maxHeartbeats 400000 in
theorem firstErrorCh_some (n cap : Nat) (leaves : Int) (cs : List Chg) (bg b off : Nat) (w : World) (hn : cs.length = n) (hn' : n ≤ 100) (h2 : w.cell? ⟨bg, 2, none⟩ = some (.int .i64 leaves)) (h3 : w.cell? ⟨bg, 3, none⟩ = some (.slice (some ⟨b, off, none⟩) n cap))
    (hcs : ∀ i c, cs[i]? = some c → w.cell? ⟨b, off + i * 3, none⟩ = some (.int .i64 c.kind) ∧ w.cell? ⟨b, off + i * 3 + 1, none⟩ = some (.int .i64 c.pos) ∧ w.cell? ⟨b, off + i * 3 + 2, none⟩ = some (.int .i64 c.many)) :
    Calls Tryd.prog 64 #[.slice (some ⟨b, off, none⟩) n cap, .func (.func 65) #[] #[.pointer (some ⟨bg, 0, none⟩)]] w fun e w' => e = .returned (chsR leaves cs) ∧ Below w.heap.size w w' := by
  have HN := Lib.hid hn
  clear hn
  go_enter Tryd.func64, Tryd.ntmps64
  go_wp2
  go_loopw [11] (fun i wr => ∃ k : Nat, k ≤ n ∧ i = .int .i64 k ∧ Below w.heap.size w wr ∧ Hid (chsErr leaves none 0 cs = chsErr leaves (prevAt cs k) k (cs.drop k))) (fun i _ => n - (intOf i).toNat)
  case atStart => exact ⟨0, by omega, rfl, Below.refl _ _, rfl⟩
  case round =>
    obtain ⟨k, hk, rfl, hb, hh⟩ := hrel
    by_cases hlt : k < n
    · obtain ⟨c, hc⟩ : ∃ c, cs[k]? = some c := ⟨cs[k]'(by rw [HN.out]; exact hlt), List.getElem?_eq_getElem _⟩
      have g2 := cell_later' hb h2
      have g3 := cell_later' hb h3
      have gc : ∀ i c, cs[i]? = some c → wr.cell? ⟨b, off + i * 3, none⟩ = some (.int .i64 c.kind) ∧ wr.cell? ⟨b, off + i * 3 + 1, none⟩ = some (.int .i64 c.pos) ∧ wr.cell? ⟨b, off + i * 3 + 2, none⟩ = some (.int .i64 c.many) := fun i c h =>
        ⟨cell_later' hb (hcs i c h).1, cell_later' hb (hcs i c h).2.1, cell_later' hb (hcs i c h).2.2⟩
      obtain ⟨p1, p2, p3⟩ := gc k c hc
      have HC := Lib.hid hc
      have HG := Lib.hid gc
      clear hc gc hcs h2 h3
      have hba : Below wr.heap.size wr (wr.alloc (Obj.cells #[.int .i64 c.kind, .int .i64 c.pos, .int .i64 c.many] 43)) := (Below.refl _ _).alloc (Nat.le_refl _) _
      have hC := chk1_any k n cap leaves cs c bg b off _ HC.out HN.out hn' (cell_later' hba g2) (cell_later' hba g3) (fun i c h => ⟨cell_later' hba (HG.out i c h).1, cell_later' hba (HG.out i c h).2.1, cell_later' hba (HG.out i c h).2.2⟩)
      have HCc := Lib.hid hC
      have HBa := Lib.hid hba
      clear hC hba
      go_wp2_with fail
      refine HCc.out.mono ?_
      rintro e w1 ⟨rfl, hb1⟩
      have hb2 : Below w.heap.size w w1 := hb.trans ((HBa.out.mono hb.size).trans (hb1.mono (by simp; have := hb.size; omega)))
      clear HBa HCc hb1
      obtain ⟨er, her⟩ : ∃ er, er = chErr leaves (prevAt cs k) c := ⟨_, rfl⟩
      rw [← her]
      have HE := Lib.hid her
      clear her g2 g3 p1 p2 p3 hb
      by_cases h0 : er = 0
      · subst h0
        go_wp2_with fail
        go_roundw
        case rel => exact ⟨k + 1, by omega, by go_num, hb2, hh.out.trans (chsErr_step HC.out HE.out.symm)⟩
        case measure => simp [intOf]; omega
      · have h0b : (er != 0) = true := by simp [h0]
        have HF : Hid (chsR leaves cs = .tuple #[.int .i64 k, .int .i64 er]) := by
          show chsR leaves cs = _
          have := hh.out.trans (chsErr_stop HC.out (fun h => h0 (HE.out.trans h)))
          unfold chsR; rw [this, HE.out]
        clear h0 HE hh
        go_wp2_with fail
        go_ret2
        exact ⟨by rw [HF.out]; rfl, hb2⟩
    · have HF : Hid (chsR leaves cs = .tuple #[.int .i64 0, .int .i64 0]) := by
        show chsR leaves cs = _
        have := hh.out
        unfold chsR; rw [this, List.drop_of_length_le (by rw [HN.out]; omega)]; rfl
      go_wp2_with fail
      go_ret2
      exact ⟨by rw [HF.out]; rfl, hb⟩

theorem firstErrorCh_none (leaves : Int) (a : Option Addr) (cap : Nat) (sv : Value) (w : World) :
    Calls Tryd.prog 64 #[.slice a 0 cap, sv] w fun e w' => e = .returned (chsR leaves []) ∧ Below w.heap.size w w' := by
  have HF : Hid (chsR leaves [] = .tuple #[.int .i64 0, .int .i64 0]) := rfl
  go_enter Tryd.func64, Tryd.ntmps64
  go_wp2
  refine wp_loop_rounds 1 ?_
  rw [rounds_succ]
  go_wp2
  go_ret2
  exact ⟨by rw [HF.out]; rfl, Below.refl _ _⟩

end Go.Proofs.YtlekbddlemfokaaDoor
