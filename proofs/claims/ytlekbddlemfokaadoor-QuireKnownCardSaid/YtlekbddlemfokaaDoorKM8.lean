/- The parts Or of the proof, joined. It holds without conditions of its own. -/
import Derived.OrdersIn
import Derived.TacticsIn
/- A region that draws its order: each of its orders is walked as a list. For any program, inside any fence, in a round or not. -/
namespace Go.Proofs.YtlekbddlemfokaaDoor
set_option linter.unusedSimpArgs false
set_option linter.unusedVariables false
open Go

/-- The orders in which the operations of a region may come up. -/
def ordersOf (md : Region.Mode) (ops : Array Oper) : Nat → Array Bool → List (List Nat)
  | 0, _ => [[]]
  | fuel + 1, listed => if Region.ready md ops listed = [] then [[]] else (Region.ready md ops listed).flatMap fun i => (ordersOf md ops fuel (listed.setIfInBounds i true)).map (i :: ·)

theorem go_mem (md : Region.Mode) (ops : Array Oper) : ∀ (fuel t : Nat) (listed : Array Bool), Region.linearise.go md ops fuel t listed [] ∈ ordersOf md ops fuel listed
  | 0, t, listed => by simp [Region.linearise.go, ordersOf]
  | fuel + 1, t, listed => by
    simp only [Region.linearise.go, ordersOf]
    change (match (Region.ready md ops listed)[t % (Region.ready md ops listed).length]? with
      | some i => Region.linearise.go md ops fuel (t / (Region.ready md ops listed).length) (listed.setIfInBounds i true) [i]
      | none => [].reverse) ∈ _
    cases hi : (Region.ready md ops listed)[t % (Region.ready md ops listed).length]? with
    | none =>
      have hnil : Region.ready md ops listed = [] := by
        cases hr : Region.ready md ops listed with
        | nil => rfl
        | cons x xs =>
          rw [hr] at hi
          have hlt : t % (x :: xs).length < (x :: xs).length := Nat.mod_lt _ (by simp)
          simp at hi
          simp at hlt
          omega
      simp [hnil]
    | some i =>
      have hm := List.mem_of_getElem? hi
      have hne : Region.ready md ops listed ≠ [] := fun e => by rw [e] at hm; cases hm
      rw [if_neg hne]
      simp only []
      rw [linearise_go_acc, List.reverse_singleton, List.singleton_append]
      exact List.mem_flatMap.2 ⟨i, hm, List.mem_map.2 ⟨_, go_mem md ops fuel _ _, rfl⟩⟩

theorem wpOpsIn_list {F : Fence} {n : Nat} {P : Program} {ops : Array Oper} {Q : Exit → Act → World → Prop} : ∀ (L : List Nat) (a : Act) (w : World), wpListIn F n P ops Q (L.filterMap (ops[·]?)) a w → wpOpsIn F n P ops Q L a w
  | [], a, w, h => h
  | i :: L, a, w, h => by
    unfold wpOpsIn
    cases ho : ops[i]? with
    | none =>
      simp only [List.filterMap_cons, ho] at h
      exact wpOpsIn_list L a w h
    | some o =>
      simp only [List.filterMap_cons, ho] at h
      simp only []
      unfold wpListIn at h
      split
      · rename_i hw
        rw [if_pos hw] at h
        exact Oper.wpIn_mono (fun a w => wpOpsIn_list L a w) h
      · rename_i hw
        rw [if_neg hw] at h
        exact ⟨h.1, wpOpsIn_list L _ w h.2⟩

theorem wpIn_region_orders {F : Fence} {n : Nat} {P : Program} {id : Nat} {Q : Exit → Act → World → Prop} {a : Act} {w : World} {l : List Oper} (hm : P.follows .mixedOrders = true) (Ls : List (List Nat))
    (hL : ordersOf .any l.toArray l.length (Array.replicate l.length false) = Ls) (h : ∀ L ∈ Ls, wpListIn F n P l.toArray Q (L.filterMap (l.toArray[·]?)) a w.drew) : (Code.region id l.toArray true).wpIn F n P Q a w := by
  refine wpIn_region_draw fun t => wpOpsIn_list _ _ _ (h _ ?_)
  rw [← hL]
  simp only [Region.schedule, hm, Bool.true_or, if_true]
  have := go_mem .any l.toArray l.length t (Array.replicate l.length false)
  simpa [Region.linearise] using this

structure Cut (p : Prop) : Prop where
  out : p
/-- A piece of code by what it leaves: then what stands behind it is walked once. -/
theorem wpIn_cut {F : Fence} {n : Nat} {P : Program} {c : Code} {Q : Exit → Act → World → Prop} {a : Act} {w : World} (R : Act → Act → World → Prop)
    (h : c.wpIn F n P (fun e a' w' => e = .normal ∧ Cut (R a a' w')) a w) (hq : ∀ a' w', R a a' w' → Q .normal a' w') : c.wpIn F n P Q a w :=
  wpIn_mono h fun e a' w' ⟨he, hr⟩ => by subst he; exact hq a' w' hr.out
theorem wp_cut {P : Program} {c : Code} {Q : Exit → Act → World → Prop} {a : Act} {w : World} (R : Act → Act → World → Prop)
    (h : c.wpIn Fence.wide 10 P (fun e a' w' => e = .normal ∧ Cut (R a a' w')) a w) (hq : ∀ a' w', R a a' w' → Q .normal a' w') : c.wp P Q a w :=
  wpIn_wide.1 (wpIn_cut R h hq)

end Go.Proofs.YtlekbddlemfokaaDoor
