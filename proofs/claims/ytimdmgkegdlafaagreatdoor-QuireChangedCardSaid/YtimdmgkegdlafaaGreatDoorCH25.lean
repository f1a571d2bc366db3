/- The parts Pe of the proof, joined. It holds without conditions of its own. -/
import Derived.Test.YtimdmgkegdlafaaGreatDoorCH2
import Derived.Test.YtimdmgkegdlafaaGreatDoorCH3
import Derived.Test.YtimdmgkegdlafaaGreatDoorCH15
import Derived.Test.YtimdmgkegdlafaaGreatDoorCH24
/- Leaves are written each otherwise, and read back. Nothing of the program. -/
namespace Go.Proofs.YtimdmgkegdlafaaGreatDoor
set_option linter.unusedSimpArgs false
set_option linter.unusedVariables false

theorem back_all : ((List.range 3).all fun r => (List.range 25).all fun l => (List.range 13).all fun n => (List.range 5).all fun p => !possibleB n p || decide (allF (leafNameF (nameT ((r : Int) + 1) l n p)) = some ((r : Int) + 1, (l : Int), (n : Int), (p : Int)))) = true := by decide +kernel
theorem name_back {r l n p : Int} (hr : 1 ≤ r ∧ r ≤ 3) (hl : 0 ≤ l ∧ l ≤ 24) (hn : 0 ≤ n ∧ n ≤ 12) (hp : 0 ≤ p ∧ p ≤ 4) (h : possibleB n p = true) : allF (leafNameF (nameT r l n p)) = some (r, l, n, p) := by
  have h0 := back_all
  simp only [List.all_eq_true, List.mem_range] at h0
  have h1 := h0 (r - 1).toNat (by omega) l.toNat (by omega) n.toNat (by omega) p.toNat (by omega)
  have e1 : (((r - 1).toNat : Int) + 1) = r := by omega
  have e2 : ((l.toNat : Int)) = l := by omega
  have e3 : ((n.toNat : Int)) = n := by omega
  have e4 : ((p.toNat : Int)) = p := by omega
  rw [e1, e2, e3, e4, h] at h1
  simpa using h1

theorem sigs_new : ∀ (gs : List Gth) (seen : List (Int × Int)) (last : Int × Int) (i : Nat), (gsErr seen last i gs).2 = 0 → (∀ g ∈ gs, (g.round, g.letter) ∉ seen) ∧ gs.Pairwise (fun g h => (g.round, g.letter) ≠ (h.round, h.letter))
  | [], _, _, _, _ => ⟨(fun _ h => by cases h), List.Pairwise.nil⟩
  | g :: gs, seen, last, i, h => by
    unfold gsErr at h
    by_cases h0 : gthErr seen last g = 0
    · rw [if_pos h0] at h
      obtain ⟨h1, h2⟩ := sigs_new gs _ _ _ h
      have hg : (g.round, g.letter) ∉ seen := by
        unfold gthErr at h0
        intro hm
        by_cases hs : sigB g.round g.letter = false
        · rw [if_pos hs] at h0; omega
        · rw [if_neg hs, if_pos hm] at h0; omega
      refine ⟨fun x hx => ?_, List.pairwise_cons.2 ⟨fun x hx e => h1 x hx (by rw [← e]; simp), h2⟩⟩
      rcases List.mem_cons.1 hx with rfl | hx
      · exact hg
      · exact fun hm => h1 x hx (List.mem_append_left _ hm)
    · rw [if_neg h0] at h; exact absurd h h0
theorem sigs_inj {b : Bk} (h : errF b = 0) {i j : Nat} {g k : Gth} (hi : b.gs[i]? = some g) (hj : b.gs[j]? = some k) (e : (g.round, g.letter) = (k.round, k.letter)) : i = j := by
  have hz : (gsErr [] (0, 0) 0 b.gs).2 = 0 := by
    unfold errF checkF at h
    by_cases h1 : inB 0 12 b.signed = false
    · rw [if_pos h1] at h; simp at h
    rw [if_neg h1] at h
    by_cases h2 : inB 1 30 b.gs.length = false
    · rw [if_pos h2] at h; simp at h
    rw [if_neg h2] at h
    by_cases h3 : (gsErr [] (0, 0) 0 b.gs).2 = 0
    · exact h3
    · rw [if_neg h3] at h; exact absurd h h3
  have hp := (sigs_new _ _ _ _ hz).2
  obtain ⟨h1, rfl⟩ := List.getElem?_eq_some_iff.1 hi
  obtain ⟨h2, rfl⟩ := List.getElem?_eq_some_iff.1 hj
  rcases Nat.lt_trichotomy i j with h3 | h3 | h3
  · exact absurd e (List.pairwise_iff_getElem.1 hp i j h1 h2 h3)
  · exact h3
  · exact absurd e.symm (List.pairwise_iff_getElem.1 hp j i h2 h1 h3)
theorem lf_possible {b : Bk} {x : Lf} (h : x ∈ lvs b) (hb : 0 ≤ x.num ∧ x.num ≤ 12 ∧ 0 ≤ x.plus ∧ x.plus ≤ 4) : possibleB x.num x.plus = true := by
  have hne : ¬ (x.num = 0 ∧ x.plus = 0) := by
    obtain ⟨g, _, hm⟩ := lvs_mem h
    simp only [lvsG, List.mem_flatMap] at hm
    obtain ⟨k, _, hm⟩ := hm
    simp only [lvsNum, List.mem_append, List.mem_map] at hm
    rcases hm with hm | ⟨j, _, hm⟩
    · split at hm
      · rw [List.mem_singleton] at hm
        have := congrArg Lf.num hm
        dsimp only at this
        omega
      · cases hm
    · have := congrArg Lf.plus hm
      dsimp only at this
      omega
  unfold possibleB
  simp only [Bool.and_eq_true, Bool.not_eq_true', Bool.and_eq_false_iff, decide_eq_false_iff_not, inB_iff]
  omega
/-- The name of a leaf, read back from how it is written. -/
theorem text_back {b : Bk} (h : errF b = 0) {x : Lf} (hx : x ∈ lvs b) : allF (leafNameF (lfText b x)) = some (nameQ b x) := by
  obtain ⟨g, hg, hok, h1, h2, h3, h4⟩ := lf_bounds (errF_zero h) hx
  have hl := hok.leaves
  unfold lfText nameQ
  rw [hg]
  exact name_back hok.round hok.letter ⟨h1, by omega⟩ ⟨h3, h4⟩ (lf_possible hx ⟨h1, by omega, h3, h4⟩)
theorem name_inj {b : Bk} (h : errF b = 0) {i j : Nat} {x y : Lf} (hi : (lvs b)[i]? = some x) (hj : (lvs b)[j]? = some y) (e : nameQ b x = nameQ b y) : i = j := by
  obtain ⟨g, hg, _⟩ := lvs_mem (List.mem_of_getElem? hi)
  obtain ⟨k, hk, _⟩ := lvs_mem (List.mem_of_getElem? hj)
  unfold nameQ at e
  rw [hg, hk] at e
  simp only [Prod.mk.injEq] at e
  obtain ⟨e1, e2, e3, e4⟩ := e
  have hgat := sigs_inj h hg hk (by rw [e1, e2])
  rcases Nat.lt_trichotomy i j with h3 | h3 | h3
  · have := sorted_lt (lvs_sorted b) hi hj h3
    unfold ltL at this
    omega
  · exact h3
  · have := sorted_lt (lvs_sorted b) hj hi h3
    unfold ltL at this
    omega
theorem text_inj {b : Bk} (h : errF b = 0) {i j : Nat} {x y : Lf} (hi : (lvs b)[i]? = some x) (hj : (lvs b)[j]? = some y) (e : lfText b x = lfText b y) : i = j := by
  have h1 := text_back h (List.mem_of_getElem? hi)
  have h2 := text_back h (List.mem_of_getElem? hj)
  rw [e, h2] at h1
  exact name_inj h hi hj (Option.some.inj h1).symm
theorem find_back {b : Bk} (h : errF b = 0) {i : Nat} {x : Lf} (hi : (lvs b)[i]? = some x) : findR b (lfText b x) = .tuple #[.int .i64 i, .int .i64 0] := by
  unfold findR
  rw [text_back h (List.mem_of_getElem? hi)]
  dsimp only
  have hf : (lvs b).findIdx? (fun y => decide (nameQ b y = nameQ b x)) = some i := by
    rw [List.findIdx?_eq_some_iff_getElem]
    obtain ⟨h1, h2⟩ := List.getElem?_eq_some_iff.1 hi
    refine ⟨h1, by simp [h2], fun j hj => ?_⟩
    have hjl : j < (lvs b).length := by omega
    have hne : nameQ b ((lvs b)[j]) ≠ nameQ b x := fun e => by
      have := name_inj h (List.getElem?_eq_getElem hjl) hi e
      omega
    simp [hne]
  rw [hf]
  rfl
end Go.Proofs.YtimdmgkegdlafaaGreatDoor
