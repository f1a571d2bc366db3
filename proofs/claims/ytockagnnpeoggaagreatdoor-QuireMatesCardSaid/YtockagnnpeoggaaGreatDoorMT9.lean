/- The parts Cj, Cc of the proof, joined. It holds without conditions of its own. -/
import Derived.Test.YtockagnnpeoggaaGreatDoorMT8
import Derived.Test.YtockagnnpeoggaaGreatDoorMT1
/- The reference: what the changes of a gathering do at a number (plus); it says the same as fateF. -/
namespace Go.Proofs.YtockagnnpeoggaaGreatDoor
set_option linter.unusedSimpArgs false
set_option linter.unusedVariables false
open Go Go.RowKit Go.Sort Go.BigFrame

def plusStep (n : Int) (p : Int × Int) (c : Chg) : Int × Int := if c.pos = n then (if c.kind = 3 then (c.many, p.2) else (p.1, c.kind)) else p
def plusG (cs : List Chg) (n : Int) : Int × Int := cs.foldl (plusStep n) (0, 0)
theorem plus_snoc (cs : List Chg) (c : Chg) (n : Int) : plusG (cs ++ [c]) n = plusStep n (plusG cs n) c := by unfold plusG; rw [List.foldl_append]; rfl
theorem plus_take {cs : List Chg} {k : Nat} {c : Chg} {n : Int} (h : cs[k]? = some c) : plusG (cs.take (k + 1)) n = plusStep n (plusG (cs.take k) n) c := by
  rw [List.take_add_one, h]
  exact plus_snoc _ _ _
theorem plus_none : ∀ (cs : List Chg) (n : Int), (∀ c ∈ cs, c.pos ≠ n) → plusG cs n = (0, 0) := by
  intro cs
  induction cs using snoc_rec with
  | nil => intro n _; rfl
  | snoc cs c ih =>
    intro n h
    rw [plus_snoc, ih n fun x hx => h x (by simp [hx])]
    unfold plusStep
    rw [if_neg (h c (by simp))]
/-- The kind that a fate has, as plus tells it. -/
def fateK (f : Fate) : Int := if f.gone then 1 else if f.swapped then 2 else 0
theorem plus_is : ∀ (cs : List Chg) (n : Int), cs.Pairwise ltC → (∀ c ∈ cs, c.kind = 1 ∨ c.kind = 2 ∨ c.kind = 3) → plusG cs n = ((fateF cs n).added, fateK (fateF cs n)) := by
  intro cs
  induction cs using snoc_rec with
  | nil => intro n _ _; rfl
  | snoc cs c ih =>
    intro n hp hk
    rw [List.pairwise_append] at hp
    obtain ⟨hp1, -, hp2⟩ := hp
    have hi := ih n hp1 fun x hx => hk x (by simp [hx])
    have hkc := hk c (by simp)
    have hlt : ∀ x ∈ cs, ltC x c := fun x hx => hp2 x hx c (by simp)
    rw [plus_snoc, fate_snoc]
    unfold plusStep fateStep
    by_cases hpos : c.pos = n
    · by_cases k3 : c.kind = 3
      · simp [hpos, k3, hi, fateK]
      · have h0 : ∀ x ∈ cs, x.pos ≠ n := fun x hx e => by
          have := hlt x hx
          unfold ltC at this
          omega
        have hf := fate_none cs n h0
        by_cases k1 : c.kind = 1
        · simp [hpos, k1, hi, hf, fateK]
        · have k2 : c.kind = 2 := by omega
          simp [hpos, k2, hi, hf, fateK]
    · simp [hpos, hi]

set_option maxRecDepth 100000 in
set_option maxHeartbeats 800000 in
theorem refPlus_any (g : Gth) (a : Option Addr) (m cap : Nat) (n : Int) (w : World) (hch : ChsAt w.heap.size w (.slice a m cap) g.chs) (hl : g.chs.length ≤ 100) :
    Calls Tryz.prog 76 #[.agg #[.int .i64 g.round, .int .i64 g.letter, .int .i64 g.leaves, .slice a m cap], .int .i64 n] w fun e w' => e = .returned (.tuple #[.int .i64 (plusG g.chs n).1, .int .i64 (plusG g.chs n).2]) ∧ Below w.heap.size w w' := by
  obtain ⟨a', cap', hav, hcell⟩ := hch
  simp only [Value.slice.injEq] at hav
  obtain ⟨rfl, hm, rfl⟩ := hav
  have HC := Lib.hid hcell
  have HM := Lib.hid hm
  have hm100 : m ≤ 100 := by omega
  have hba : Below w.heap.size w (w.alloc (.cells #[.int .i64 g.round, .int .i64 g.letter, .int .i64 g.leaves, .slice a m cap] 57)) := (Below.refl _ w).alloc (Nat.le_refl _) _
  have HB : Hid ((w.alloc (.cells #[.int .i64 g.round, .int .i64 g.letter, .int .i64 g.leaves, .slice a m cap] 57)).heap[w.heap.size]? = some (.cells #[.int .i64 g.round, .int .i64 g.letter, .int .i64 g.leaves, .slice a m cap] 57)) := Lib.hid (World.alloc_heap_new _ _)
  have HBA := Lib.hid hba
  clear hcell hm hba hl
  go_enter Tryz.func76, Tryz.ntmps76
  go_wp2_with fail
  revert HB HBA
  generalize (w.alloc (.cells #[.int .i64 g.round, .int .i64 g.letter, .int .i64 g.leaves, .slice a m cap] 57)) = w1
  intro HB HBA
  have p3 := blk_cell HB.out 3
  change w1.cell? ⟨w.heap.size, 3, none⟩ = some (.slice a m cap) at p3
  go_loopw [4, 5, 6] (fun u q i wr => ∃ (k : Nat), k ≤ m ∧ i = .int .i64 k ∧ u = .int .i64 (plusG (g.chs.take k) n).1 ∧ q = .int .i64 (plusG (g.chs.take k) n).2 ∧ wr = w1) (fun _ _ i _ => m - (intOf i).toNat)
  case atStart => exact ⟨0, by omega, rfl, rfl, rfl, rfl⟩
  case round =>
    obtain ⟨k, hk, rfl, rfl, rfl, rfl⟩ := hrel
    by_cases hlt : k < m
    · obtain ⟨c, hc⟩ : ∃ c, g.chs[k]? = some c := ⟨_, List.getElem?_eq_getElem (by have := HM.out; omega)⟩
      obtain ⟨cb, coff, rfl, hcb, hcell⟩ := HC.out (fun e => by rw [e] at hc; cases hc)
      obtain ⟨q0, q1, q2⟩ := hcell k c hc
      have q0 := (HBA.out.cell (p := ⟨cb, coff + k * 3, none⟩) hcb).trans q0
      have q1 := (HBA.out.cell (p := ⟨cb, coff + k * 3 + 1, none⟩) hcb).trans q1
      have q2 := (HBA.out.cell (p := ⟨cb, coff + k * 3 + 2, none⟩) hcb).trans q2
      have HT := Lib.hid (plus_take (n := n) hc)
      have d1 : ((k : Int) < m) := by omega
      clear hc hcell
      by_cases hpos : c.pos = n
      · have e1 : (c.pos == n) = true := by simp [hpos]
        by_cases h3 : c.kind = 3
        · have e2 : (c.kind == 3) = true := by simp [h3]
          have e3 : (c.kind != 3) = false := by simp [h3]
          have HV : Hid (plusG (g.chs.take (k + 1)) n = (c.many, (plusG (g.chs.take k) n).2)) := Lib.hid (by rw [HT.out]; unfold plusStep; rw [if_pos hpos, if_pos h3])
          clear hpos h3 HT
          go_wp2_with fail
          go_roundw
          case rel => exact ⟨k + 1, by omega, by go_num, by rw [HV.out], by rw [HV.out], trivial⟩
          case measure => simp [intOf]; omega
        · have e2 : (c.kind == 3) = false := by simp [h3]
          have e3 : (c.kind != 3) = true := by simp [h3]
          have HV : Hid (plusG (g.chs.take (k + 1)) n = ((plusG (g.chs.take k) n).1, c.kind)) := Lib.hid (by rw [HT.out]; unfold plusStep; rw [if_pos hpos, if_neg h3])
          clear hpos h3 HT
          go_wp2_with fail
          go_roundw
          case rel => exact ⟨k + 1, by omega, by go_num, by rw [HV.out], by rw [HV.out], trivial⟩
          case measure => simp [intOf]; omega
      · have e1 : (c.pos == n) = false := by simp [hpos]
        have HV : Hid (plusG (g.chs.take (k + 1)) n = plusG (g.chs.take k) n) := Lib.hid (by rw [HT.out]; unfold plusStep; rw [if_neg hpos])
        clear hpos HT
        go_wp2_with fail
        go_roundw
        case rel => exact ⟨k + 1, by omega, by go_num, by rw [HV.out], by rw [HV.out], trivial⟩
        case measure => simp [intOf]; omega
    · have HV : Hid (plusG g.chs n = plusG (g.chs.take k) n) := Lib.hid (by rw [List.take_of_length_le (by have := HM.out; omega)])
      go_wp2_with fail
      go_ret2
      exact ⟨by rw [HV.out]; rfl, HBA.out⟩
end Go.Proofs.YtockagnnpeoggaaGreatDoor

/- The reference's error of a gathering, as plain Lean, and that it is the one of the program. -/
namespace Go.Proofs.YtockagnnpeoggaaGreatDoor
set_option linter.unusedSimpArgs false
set_option linter.unusedVariables false

/-- The error of change i. -/
def refCh (leaves : Int) (prev : Option Chg) (c : Chg) : Int :=
  if inB 1 3 c.kind = false then 6
  else if (inB (if c.kind = 3 then 0 else 1) leaves c.pos && (if c.kind = 3 then inB 1 4 c.many else decide (c.many = 0))) = false then 7
  else match prev with
    | none => 0
    | some p => if c.pos < p.pos ∨ (c.pos = p.pos ∧ (c.kind ≠ 3 ∨ p.kind = 3)) then 2 else 0
theorem refCh_is (leaves : Int) (prev : Option Chg) (c : Chg) : refCh leaves prev c = chErr leaves prev c := by
  have hk : inB 1 3 c.kind = kindB c := by
    unfold inB kindB
    by_cases h1 : c.kind = 1
    · simp [h1]
    · by_cases h2 : c.kind = 2
      · simp [h2]
      · by_cases h3 : c.kind = 3
        · simp [h3]
        · have : ¬ (1 ≤ c.kind ∧ c.kind ≤ 3) := by omega
          simp [h1, h2, h3]; omega
  have hr : (inB (if c.kind = 3 then 0 else 1) leaves c.pos && (if c.kind = 3 then inB 1 4 c.many else decide (c.many = 0))) = rangeB c leaves := by
    unfold rangeB; split <;> rfl
  unfold refCh chErr
  rw [hk, hr]
  cases prev with
  | none => rfl
  | some p =>
    simp only []
    by_cases h1 : kindB c = false
    · simp [h1]
    · by_cases h2 : rangeB c leaves = false
      · simp [h2]
      · simp only [h1, h2, if_false]
        have : (c.pos < p.pos ∨ (c.pos = p.pos ∧ (c.kind ≠ 3 ∨ p.kind = 3))) ↔ orderB p c = false := by
          unfold orderB
          by_cases e : c.pos = p.pos
          · by_cases k : c.kind = 3 <;> by_cases q : p.kind = 3 <;> simp [e, k, q]
          · simp [e]; omega
        by_cases h3 : orderB p c = false
        · simp [h3, this]
        · simp [h3, this]

/-- The place of a lettered signature among all of them. -/
def rankG (g : Gth) : Int := if 23 ≤ g.letter then -1 else (g.round - 1) * 23 + g.letter
def ranksMax (gs : List Gth) : Int := gs.foldl (fun m g => max m (rankG g)) (-1)
/-- The error of a gathering behind others. -/
def refGth (before : List Gth) (g : Gth) : Int :=
  if sigB g.round g.letter = false then 7
  else if before.any (fun h => decide (h.round = g.round ∧ h.letter = g.letter)) then 5
  else if 0 ≤ rankG g ∧ rankG g < ranksMax before then 2
  else if g.leaves ≠ 1 ∧ (inB 2 12 g.leaves = false ∨ g.leaves % 2 = 1) then 7
  else if 4 < g.chs.length then 3
  else (chsErr g.leaves none 0 g.chs).2

def sigOf (g : Gth) : Int × Int := (g.round, g.letter)
def lastG (gs : List Gth) : Int × Int := gs.foldl lastOf (0, 0)
/-- What is so of gatherings that have no error: the last lettered one is the greatest. -/
structure OkG (gs : List Gth) : Prop where
  sig : ∀ g ∈ gs, sigB g.round g.letter = true
  last : (ranksMax gs = -1 ∧ lastG gs = (0, 0)) ∨ (0 ≤ ranksMax gs ∧ lastG gs ∈ gs.map sigOf ∧ (lastG gs).2 < 23 ∧ ranksMax gs = ((lastG gs).1 - 1) * 23 + (lastG gs).2)
theorem sigB_is {r l : Int} (h : sigB r l = true) : 1 ≤ r ∧ r ≤ 3 ∧ 0 ≤ l ∧ l ≤ 24 := by simp [sigB, inB] at h; omega
theorem okG_nil : OkG [] := ⟨fun _ h => (by cases h), Or.inl ⟨rfl, rfl⟩⟩

theorem rank_iff {before : List Gth} (h : OkG before) (g : Gth) (hs : sigB g.round g.letter = true) (hm : sigOf g ∉ before.map sigOf) :
    (0 ≤ rankG g ∧ rankG g < ranksMax before) ↔ (g.letter < 23 ∧ behindB g.round g.letter (lastG before).1 (lastG before).2 = false) := by
  have hb := sigB_is hs
  unfold rankG behindB
  rcases h.last with ⟨h1, h2⟩ | ⟨h1, h2, h3, h4⟩
  · rw [h1, h2]
    by_cases hl : 23 ≤ g.letter
    · rw [if_pos hl]; omega
    · rw [if_neg hl, if_neg (by show ¬ g.round = 0; omega), decide_eq_false_iff_not]
      show (_ ∧ _) ↔ (_ ∧ ¬ (0 : Int) < g.round)
      omega
  · have hne : ¬ (g.round = (lastG before).1 ∧ g.letter = (lastG before).2) := fun ⟨e1, e2⟩ => hm (by
      have : sigOf g = lastG before := by unfold sigOf; rw [e1, e2]
      rw [this]; exact h2)
    obtain ⟨q, hq, hqe⟩ := List.mem_map.1 h2
    have hqb := sigB_is (h.sig q hq)
    have e1 : q.round = (lastG before).1 := by rw [← hqe]; rfl
    have e2 : q.letter = (lastG before).2 := by rw [← hqe]; rfl
    rw [h4]
    by_cases hl : 23 ≤ g.letter
    · rw [if_pos hl]; omega
    · rw [if_neg hl]
      by_cases e : g.round = (lastG before).1
      · rw [if_pos e, decide_eq_false_iff_not]
        omega
      · rw [if_neg e, decide_eq_false_iff_not]
        omega

theorem leaves_iff (n : Int) : (n ≠ 1 ∧ (inB 2 12 n = false ∨ n % 2 = 1)) ↔ foldedB n = false := by
  unfold foldedB inB
  by_cases h1 : n = 1
  · simp [h1]
  · simp only [h1, decide_false, Bool.false_or, Bool.and_eq_false_iff, decide_eq_false_iff_not, ne_eq, not_false_eq_true, true_and]
    omega

theorem refGth_is {before : List Gth} (h : OkG before) (g : Gth) : refGth before g = gthErr (before.map sigOf) (lastG before) g := by
  unfold refGth gthErr
  by_cases hs : sigB g.round g.letter = false
  · rw [if_pos hs, if_pos hs]
  rw [if_neg hs, if_neg hs]
  have hs' : sigB g.round g.letter = true := by simpa using hs
  have hm : (before.any (fun h => decide (h.round = g.round ∧ h.letter = g.letter)) = true) ↔ (g.round, g.letter) ∈ before.map sigOf := by
    simp only [List.any_eq_true, decide_eq_true_eq, List.mem_map, sigOf, Prod.mk.injEq]
  by_cases hm' : (g.round, g.letter) ∈ before.map sigOf
  · rw [if_pos (hm.2 hm'), if_pos hm']
  rw [if_neg (fun e => hm' (hm.1 e)), if_neg hm']
  have hr := rank_iff h g hs' hm'
  by_cases hr' : g.letter < 23 ∧ behindB g.round g.letter (lastG before).1 (lastG before).2 = false
  · rw [if_pos hr', if_pos (hr.2 hr')]
  rw [if_neg hr', if_neg (fun e => hr' (hr.1 e))]
  have hl := leaves_iff g.leaves
  by_cases hl' : foldedB g.leaves = false
  · rw [if_pos hl', if_pos (hl.2 hl')]
  rw [if_neg hl', if_neg (fun e => hl' (hl.1 e))]

theorem ranksMax_snoc (gs : List Gth) (g : Gth) : ranksMax (gs ++ [g]) = max (ranksMax gs) (rankG g) := by simp [ranksMax]
theorem lastG_snoc (gs : List Gth) (g : Gth) : lastG (gs ++ [g]) = lastOf (lastG gs) g := by simp [lastG]
theorem okG_snoc {before : List Gth} (h : OkG before) (g : Gth) (h0 : refGth before g = 0) : OkG (before ++ [g]) := by
  unfold refGth at h0
  by_cases hs : sigB g.round g.letter = false
  · rw [if_pos hs] at h0; cases h0
  rw [if_neg hs] at h0
  have hs' : sigB g.round g.letter = true := by simpa using hs
  split at h0
  · cases h0
  split at h0
  · cases h0
  rename_i hr
  have hb := sigB_is hs'
  refine ⟨fun q hq => ?_, ?_⟩
  · rcases List.mem_append.1 hq with hq | hq
    · exact h.sig q hq
    · rw [List.mem_singleton] at hq; rw [hq]; exact hs'
  · rw [ranksMax_snoc, lastG_snoc]
    unfold lastOf
    by_cases hl : g.letter < 23
    · rw [if_pos hl]
      have e : rankG g = (g.round - 1) * 23 + g.letter := if_neg (by omega)
      have hmx : ¬ rankG g < ranksMax before := fun hh => hr ⟨by rw [e]; omega, hh⟩
      refine Or.inr ⟨?_, ?_, hl, ?_⟩
      · rw [e]; omega
      · simp [sigOf]
      · show max _ _ = (g.round - 1) * 23 + g.letter
        omega
    · rw [if_neg hl]
      have e : rankG g = -1 := if_pos (by omega)
      rw [e]
      rcases h.last with ⟨h1, h2⟩ | ⟨h1, h2, h3, h4⟩
      · exact Or.inl ⟨by rw [h1]; rfl, h2⟩
      · exact Or.inr ⟨by omega, by rw [List.map_append]; exact List.mem_append_left _ h2, h3, by omega⟩

/-- The first gathering with an error, behind others. -/
def refGs : List Gth → Nat → List Gth → Nat × Int
  | _, _, [] => (0, 0)
  | before, i, g :: gs => if refGth before g = 0 then refGs (before ++ [g]) (i + 1) gs else (i, refGth before g)
theorem refGs_is : ∀ (gs : List Gth) (before : List Gth) (i : Nat), OkG before → refGs before i gs = gsErr (before.map sigOf) (lastG before) i gs
  | [], _, _, _ => rfl
  | g :: gs, before, i, h => by
    unfold refGs gsErr
    rw [← refGth_is h g]
    by_cases h0 : refGth before g = 0
    · rw [if_pos h0, if_pos h0, refGs_is gs _ _ (okG_snoc h g h0), List.map_append, lastG_snoc]
      rfl
    · rw [if_neg h0, if_neg h0]
end Go.Proofs.YtockagnnpeoggaaGreatDoor
