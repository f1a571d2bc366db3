/- The parts Fu of the proof, joined. It holds without conditions of its own. -/
import Derived.Test.YtpdhdgdbknnllaaGreatDoorFX21
import Derived.Test.YtpdhdgdbknnllaaGreatDoorFX10
import Derived.Test.YtpdhdgdbknnllaaGreatDoorFX3
import Derived.Test.YtpdhdgdbknnllaaGreatDoorFX4
set_option maxRecDepth 100000
set_option maxHeartbeats 20000000
namespace Go.Proofs.YtpdhdgdbknnllaaGreatDoor
section
set_option linter.unusedSimpArgs false
set_option linter.unusedVariables false
open Go Go.RowKit Go.Sort Go.BigFrame
theorem eval_tab {P : Program} (hm : P.follows .mixedOrders = true) {fid : FuncId} {ys : List Value} {W : World} {l : List Value} {t : TypeId} (hW : W.heap[0]? = some (.cells l.toArray t (0, 0))) {v : V} {h' : H}
  (k : evCall P 100000 1 fid (ys.map .lit) (h00 (l.map .lit) t) = .ok (v, h')) :
  Calls P fid ys.toArray W fun en W' => ∃ x e', en = .returned x /\ VR e' v x /\ Rel P e' h' W' /\ Below W.heap.size W W' := by
 have hv : ∀ ys : List Value, VRs e00 (ys.map V.lit) ys := fun ys => by
  induction ys with
  | nil => exact VRs_nil.2 rfl
  | cons y ys ih => exact VRs_cons.2 ⟨y, ys, rfl, VR_lit.2 rfl, ih⟩
 have := evCall_ok (P := P) (e := e00) (w := W) hm (gl := 1) (rel_start hW) (hv ys) (fun g hg => by
  have h0 : g = 0 := by omega
  subst h0
  exact ⟨rfl, rfl⟩) k
 unfold CallOk at this
 refine this.mono ?_
 rintro en W' ⟨x, rfl, e', r', s, hx⟩
 have hk := VKept.of (P := P) s (rel_start hW) rfl rfl
 exact ⟨x, e', rfl, hx, r', ⟨hk.os, hk.tape, hk.output, hk.size, fun k hk' => hk.keep k hk'⟩⟩
noncomputable def listOk (t : TypeId) (s : Nat) : Bool := match evCall Tryz.prog 100000 1 73 [.lit (.int .u64 (s : Int))] (h00 (tabL.map .lit) t) with
 | .ok (.lit (.slice none 0 0), _) => Nat.beq s 0
 | .ok (.slc b 0 n cap true, h') => (match h'.get b with
   | some (.cells cs _) => and (and (Nat.beq n (List.length (idxV 11 s.testBit))) (Nat.ble n (List.length cs))) (sameC (cs.take n) (intVs (idxV 11 s.testBit)))
   | _ => false)
 | _ => false
theorem list_0 (t : TypeId) : (List.range' 0 128).all (listOk t) = true := by kernel_rfl
theorem list_1 (t : TypeId) : (List.range' 128 128).all (listOk t) = true := by kernel_rfl
theorem list_2 (t : TypeId) : (List.range' 256 128).all (listOk t) = true := by kernel_rfl
theorem list_3 (t : TypeId) : (List.range' 384 128).all (listOk t) = true := by kernel_rfl
theorem list_4 (t : TypeId) : (List.range' 512 128).all (listOk t) = true := by kernel_rfl
theorem list_5 (t : TypeId) : (List.range' 640 128).all (listOk t) = true := by kernel_rfl
theorem list_6 (t : TypeId) : (List.range' 768 128).all (listOk t) = true := by kernel_rfl
theorem list_7 (t : TypeId) : (List.range' 896 128).all (listOk t) = true := by kernel_rfl
theorem list_8 (t : TypeId) : (List.range' 1024 128).all (listOk t) = true := by kernel_rfl
theorem list_9 (t : TypeId) : (List.range' 1152 128).all (listOk t) = true := by kernel_rfl
theorem list_10 (t : TypeId) : (List.range' 1280 128).all (listOk t) = true := by kernel_rfl
theorem list_11 (t : TypeId) : (List.range' 1408 128).all (listOk t) = true := by kernel_rfl
theorem list_12 (t : TypeId) : (List.range' 1536 128).all (listOk t) = true := by kernel_rfl
theorem list_13 (t : TypeId) : (List.range' 1664 128).all (listOk t) = true := by kernel_rfl
theorem list_14 (t : TypeId) : (List.range' 1792 128).all (listOk t) = true := by kernel_rfl
theorem list_15 (t : TypeId) : (List.range' 1920 128).all (listOk t) = true := by kernel_rfl
theorem lists_all (t : TypeId) {s : Nat} (h : s < 2048) : listOk t s = true := by
 rcases (by omega : (0 <= s /\ s < 0 + 128) ∨ (128 <= s /\ s < 128 + 128) ∨ (256 <= s /\ s < 256 + 128) ∨ (384 <= s /\ s < 384 + 128) ∨ (512 <= s /\ s < 512 + 128) ∨ (640 <= s /\ s < 640 + 128) ∨ (768 <= s /\ s < 768 + 128) ∨ (896 <= s /\ s < 896 + 128) ∨ (1024 <= s /\ s < 1024 + 128) ∨ (1152 <= s /\ s < 1152 + 128) ∨ (1280 <= s /\ s < 1280 + 128) ∨ (1408 <= s /\ s < 1408 + 128) ∨ (1536 <= s /\ s < 1536 + 128) ∨ (1664 <= s /\ s < 1664 + 128) ∨ (1792 <= s /\ s < 1792 + 128) ∨ (1920 <= s /\ s < 1920 + 128)) with h | h | h | h | h | h | h | h | h | h | h | h | h | h | h | h
 · exact List.all_eq_true.1 (list_0 t) s (List.mem_range'_1.2 h)
 · exact List.all_eq_true.1 (list_1 t) s (List.mem_range'_1.2 h)
 · exact List.all_eq_true.1 (list_2 t) s (List.mem_range'_1.2 h)
 · exact List.all_eq_true.1 (list_3 t) s (List.mem_range'_1.2 h)
 · exact List.all_eq_true.1 (list_4 t) s (List.mem_range'_1.2 h)
 · exact List.all_eq_true.1 (list_5 t) s (List.mem_range'_1.2 h)
 · exact List.all_eq_true.1 (list_6 t) s (List.mem_range'_1.2 h)
 · exact List.all_eq_true.1 (list_7 t) s (List.mem_range'_1.2 h)
 · exact List.all_eq_true.1 (list_8 t) s (List.mem_range'_1.2 h)
 · exact List.all_eq_true.1 (list_9 t) s (List.mem_range'_1.2 h)
 · exact List.all_eq_true.1 (list_10 t) s (List.mem_range'_1.2 h)
 · exact List.all_eq_true.1 (list_11 t) s (List.mem_range'_1.2 h)
 · exact List.all_eq_true.1 (list_12 t) s (List.mem_range'_1.2 h)
 · exact List.all_eq_true.1 (list_13 t) s (List.mem_range'_1.2 h)
 · exact List.all_eq_true.1 (list_14 t) s (List.mem_range'_1.2 h)
 · exact List.all_eq_true.1 (list_15 t) s (List.mem_range'_1.2 h)
end
end Go.Proofs.YtpdhdgdbknnllaaGreatDoor
