/- The parts Fy of the proof, joined. It holds without conditions of its own. -/
import Derived.Test.YtnhacghjoikgpaaGreatDoorFX22
import Derived.Test.YtnhacghjoikgpaaGreatDoorFX21
/- Plain: what agrees with all that is seen; with one more mark no way of making is added. -/
namespace Go.Proofs.YtnhacghjoikgpaaGreatDoor
set_option linter.unusedSimpArgs false
set_option linter.unusedVariables false

theorem all_off {b : Bok} {x : Nat → Bool} (h : ∀ i, x i = true → i < 3 + b.marks.length) : offV (allS b).testBit x ↔ offV (fun _ => true) x := by
  unfold offV allS
  constructor
  · intro hh i _ hi
    exact hh i (by rw [Nat.testBit_two_pow_sub_one]; exact decide_eq_true (h i hi)) hi
  · intro hh i _ hi
    exact hh i rfl hi
theorem plain_lt {p : Prs} {b : Bok} {m : Mkw} {n : Nat} : ∀ i, plainV (wayV p b m) i = true → i < 3 + n := fun i hi => by
  unfold plainV at hi
  rw [Bool.and_eq_true] at hi
  have := of_decide_eq_true hi.1
  omega
theorem untrue_lt {w : Way} {ms : List (Int × Bool)} {sh h : Nat} : ∀ i, untrueF w ms sh h i = true → i < 3 + ms.length := fun i hi => by
  obtain ⟨h3, x, l, a1, -, -⟩ := untrue_sheet hi
  have := (List.getElem?_eq_some_iff.1 a1).1
  omega
/-- **Agreeing with all pieces**, by number or plainly. -/
theorem agree_all (p : Prs) (b : Bok) (m : Mkw) : agreesP p b (allS b) m = true ↔ agreesV (wayV p b m) b.marks (fun _ => true) := by
  rw [agrees_is]
  unfold agreesV
  rw [all_off plain_lt]
  simp only [all_off (b := b) untrue_lt]
theorem untrue_more {w : Way} {ms : List (Int × Bool)} {x : Int × Bool} {sh h i : Nat} (hi : untrueF w ms sh h i = true) : untrueF w (ms ++ [x]) sh h i = true := by
  obtain ⟨h3, y, l, a1, a2, a3⟩ := untrue_sheet hi
  unfold untrueF at hi ⊢
  rw [a1] at hi
  rw [List.getElem?_append_left (List.getElem?_eq_some_iff.1 a1).1, a1]
  exact hi
/-- With one more mark no way of making is added. -/
theorem agree_more {p : Prs} {b : Bok} {x : Int × Bool} {m : Mkw} (h : m ∈ agreeL p { b with marks := b.marks ++ [x] }) : m ∈ agreeL p b := by
  unfold agreeL at h ⊢
  obtain ⟨h1, h2⟩ := List.mem_filter.1 h
  refine List.mem_filter.2 ⟨h1, ?_⟩
  rw [agree_all] at h2 ⊢
  obtain ⟨a1, a2⟩ := h2
  refine ⟨a1, fun s hs => (a2 s hs).imp ?_ ?_⟩
  · exact fun hh i hi hu => hh i hi (untrue_more hu)
  · exact fun hh i hi hu => hh i hi (untrue_more hu)
end Go.Proofs.YtnhacghjoikgpaaGreatDoor
