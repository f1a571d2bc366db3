/- The parts Qd of the proof, joined. It holds without conditions of its own. -/
import Derived.Test.YtockagnnpeoggaaGreatDoorMT4
import Derived.Maps.Keyed
import Derived.DeepKeys4
/- Contracts of package quire: the signatures that were met are kept in a map. -/
namespace Go.Proofs.YtockagnnpeoggaaGreatDoor
set_option linter.unusedSimpArgs false
set_option linter.unusedVariables false
open Go Go.RowKit Go.Maps

theorem laidOut : laidOutB Tryz.prog = true := by kernel_rfl
theorem rowSig : (54 : TypeId) < Tryz.prog.types.size := of_decide_eq_true (by kernel_rfl)
theorem wideSig : (match Tryz.prog.underlying 54 with | some (.array _ _) | some (.struct _) => true | _ => false) = true := by kernel_rfl
theorem keyAt2 : Tryz.prog.keyTypeAt 2 54 = true := by kernel_rfl
set_option maxRecDepth 100000 in
theorem sigKeyed : Keyed Tryz.prog 54 := Keyed.of_law (deep_law_laid laidOut (m := 2) (by omega) rowSig keyAt2 wideSig)
theorem cellsSig : Tryz.prog.cellsOf 54 = 2 := by kernel_rfl
theorem cellsInt : Tryz.prog.cellsOf 3 = 1 := by kernel_rfl
theorem keyTypeSig : Tryz.prog.keyType 54 = true := by kernel_rfl

theorem lits_some {r l : Int} (hw : (Lit.int .i64 r).wf = true) (hw' : (Lit.int .i64 l).wf = true) (d : Nat) : Tryz.prog.keyLits (d + 2) 54 [.int .i64 r, .int .i64 l] = some [.int .i64 r, .int .i64 l] := by
  have h1 : ∀ x : Int, (Lit.int .i64 x).wf = true → Tryz.prog.keyLits (d + 1) 3 [.int .i64 x] = some [.int .i64 x] := fun x hx => by
    unfold Program.keyLits; rw [Tryz.underlying3]; simp [hx]
  unfold Program.keyLits; rw [Tryz.underlying54]
  simp [cellsSig, cellsInt, h1, hw, hw']

theorem key_some {r l : Int} (h : sigB r l = true) : ∃ kl, keyOf Tryz.prog 54 (.agg #[.int .i64 r, .int .i64 l]) = some kl := by
  have hw : (Lit.int .i64 r).wf = true ∧ (Lit.int .i64 l).wf = true := by
    simp [sigB, inB] at h
    exact ⟨WalkArith.wf_i64 (by omega), WalkArith.wf_i64 (by omega)⟩
  obtain ⟨d, hd⟩ : ∃ d, Tryz.prog.types.size + 1 = d + 2 := ⟨Tryz.prog.types.size - 1, by have h : (54 : Nat) < Tryz.prog.types.size := rowSig; omega⟩
  have hf : (Value.agg #[.int .i64 r, .int .i64 l]).formed Tryz.prog 54 = true := by simp [Value.formed, Tryz.underlying54, cellsSig]
  refine ⟨.string (keyBytes [.int .i64 r, .int .i64 l]), ?_⟩
  rw [keyOf, Tryz.underlying54]
  dsimp only
  rw [keyTypeSig, hf, hd]
  simp only [Bool.and_self, if_true]
  rw [show (Value.agg #[.int .i64 r, .int .i64 l]).cells.toList = [.int .i64 r, .int .i64 l] from rfl, lits_some hw.1 hw.2]
  rfl

/-- Block b is a map from just these signatures to true. -/
def SigMap (w : World) (b : Nat) (ks : List (Int × Int)) : Prop :=
  ∃ es clock, w.heap[b]? = some (.map es clock) ∧ es.toList.map (·.key) = ks.map (fun k => Value.agg #[.int .i64 k.1, .int .i64 k.2]) ∧ (∀ e ∈ es.toList, e.val = .bool true) ∧ ∀ k ∈ ks, sigB k.1 k.2 = true

theorem SigMap.made (w : World) : SigMap (w.alloc (.map #[] 0)) w.heap.size [] := ⟨#[], 0, World.alloc_heap_new w _, rfl, by simp, by simp⟩
theorem SigMap.keep {w w' : World} {b : Nat} {ks : List (Int × Int)} (h : SigMap w b ks) (hs : w'.heap[b]? = w.heap[b]?) : SigMap w' b ks := by
  obtain ⟨es, clock, hb, r⟩ := h
  exact ⟨es, clock, hs.trans hb, r⟩
theorem SigMap.lt {w : World} {b : Nat} {ks : List (Int × Int)} (h : SigMap w b ks) : b < w.heap.size := by
  obtain ⟨es, clock, hb, r⟩ := h
  exact (Array.getElem?_eq_some_iff.1 hb).1

theorem zeroBool (w : World) : (zeroValue 4).run Tryz.prog w = .ok (.bool false) w := by kernel_rfl

theorem sig_keys {es : Array MapEntry} {ks : List (Int × Int)} (hk : es.toList.map (·.key) = ks.map (fun k => Value.agg #[.int .i64 k.1, .int .i64 k.2])) (hs : ∀ k ∈ ks, sigB k.1 k.2 = true) :
    ∀ e ∈ es.toList, ∃ l, keyOf Tryz.prog 54 e.key = some l := fun e he => by
  have : e.key ∈ es.toList.map (·.key) := List.mem_map.2 ⟨e, he, rfl⟩
  rw [hk] at this
  obtain ⟨k, hk, e1⟩ := List.mem_map.1 this
  rw [← e1]; exact key_some (hs k hk)

/-- What a look-up hands back. -/
theorem SigMap.look {w : World} {b : Nat} {ks : List (Int × Int)} (h : SigMap w b ks) {r l : Int} (hs : sigB r l = true) :
    (Instr.lookup 137 (.map (some b)) (.agg #[.int .i64 r, .int .i64 l]) false).run Tryz.prog w = .ok (.bool (decide ((r, l) ∈ ks))) w := by
  obtain ⟨es, clock, hb, hk, hv, hsig⟩ := h
  obtain ⟨kl, hkl⟩ := key_some hs
  have hck := sigKeyed.check w es.isEmpty hkl
  rcases sigKeyed.find w hkl es.toList (sig_keys hk hsig) with ⟨hf, hne⟩ | ⟨j, e, hf, hj, he⟩
  · have hm : ¬ (r, l) ∈ ks := fun hm => by
      have : (Value.agg #[.int .i64 r, .int .i64 l]) ∈ es.toList.map (·.key) := by rw [hk]; exact List.mem_map.2 ⟨_, hm, rfl⟩
      obtain ⟨e, he, e1⟩ := List.mem_map.1 this
      exact hne e he e1
    simp [Instr.lookup, run_underlying Tryz.underlying137, MapKept.run_getObj_map hb, hck, hf, zeroBool, Result.andThen, hm]
  · have hem : e ∈ es.toList := List.mem_of_getElem? hj
    have hm : (r, l) ∈ ks := by
      have : e.key ∈ es.toList.map (·.key) := List.mem_map.2 ⟨e, hem, rfl⟩
      rw [hk, he] at this
      obtain ⟨k, hk, e1⟩ := List.mem_map.1 this
      simp at e1
      rw [show (r, l) = k from by rw [← e1.1, ← e1.2]]; exact hk
    simp [Instr.lookup, run_underlying Tryz.underlying137, MapKept.run_getObj_map hb, hck, hf, hv e hem, Result.andThen, hm]

/-- A store of a signature that is not there. -/
theorem SigMap.put {w : World} {b : Nat} {ks : List (Int × Int)} (h : SigMap w b ks) {r l : Int} (hs : sigB r l = true) (hm : ¬ (r, l) ∈ ks) :
    ∃ o, (Instr.mapUpdate 137 (.map (some b)) (.agg #[.int .i64 r, .int .i64 l]) (.bool true)).run Tryz.prog w = .ok () (w.putObj b o) ∧ ∀ w', w'.heap[b]? = some o → SigMap w' b (ks ++ [(r, l)]) := by
  obtain ⟨es, clock, hb, hk, hv, hsig⟩ := h
  obtain ⟨kl, hkl⟩ := key_some hs
  have hck := sigKeyed.check w false hkl
  rcases sigKeyed.find w hkl es.toList (sig_keys hk hsig) with ⟨hf, hne⟩ | ⟨j, e, hf, hj, he⟩
  · refine ⟨.map (es.push { key := .agg #[.int .i64 r, .int .i64 l], val := .bool true, born := clock }) (clock + 1), ?_, fun w' hw' => ⟨_, _, hw', ?_, ?_, ?_⟩⟩
    · simp [Instr.mapUpdate, run_underlying Tryz.underlying137, MapKept.run_getObj_map hb, hck, hf, MapKept.run_setObj_map _ hb, Result.andThen, World.putObj]
    · simp [hk]
    · intro e he
      simp at he
      rcases he with he | rfl
      · exact hv e (by simpa using he)
      · rfl
    · intro k hk
      simp at hk
      rcases hk with hk | rfl
      · exact hsig k hk
      · exact hs
  · exact absurd (by
      have : e.key ∈ es.toList.map (·.key) := List.mem_map.2 ⟨e, List.mem_of_getElem? hj, rfl⟩
      rw [hk, he] at this
      obtain ⟨k, hk, e1⟩ := List.mem_map.1 this
      simp at e1
      rw [show (r, l) = k from by rw [← e1.1, ← e1.2]]; exact hk) hm

end Go.Proofs.YtockagnnpeoggaaGreatDoor
