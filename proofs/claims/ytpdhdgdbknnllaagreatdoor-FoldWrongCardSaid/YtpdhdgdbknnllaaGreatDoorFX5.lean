/- The parts Ta of the proof, joined. It holds without conditions of its own. -/
import Derived.Test.YtpdhdgdbknnllaaGreatDoorFX4
import Derived.Test.YtpdhdgdbknnllaaGreatDoorFX3
set_option maxRecDepth 100000
set_option maxHeartbeats 20000000
namespace Go.Proofs.YtpdhdgdbknnllaaGreatDoor
section
set_option linter.unusedSimpArgs false
set_option linter.unusedVariables false
open Go Go.RowKit
def sameC : List V -> List Value -> Bool
 | [], [] => true
 | .lit (.int .i64 n) :: cs, .int .i64 m :: ys => and (decide (n = m)) (sameC cs ys)
 | .lit (.bool a) :: cs, .bool b :: ys => and (a == b) (sameC cs ys)
 | _, _ => false
theorem sameC_ok : ∀ (cs : List V) (ys : List Value), sameC cs ys = true -> cs = ys.map .lit
 | [], [], _ => rfl
 | .lit (.int .i64 n) :: cs, .int .i64 m :: ys, h => by
   simp only [sameC, Bool.and_eq_true, decide_eq_true_eq] at h
   rw [h.1, sameC_ok cs ys h.2]; rfl
 | .lit (.bool a) :: cs, .bool b :: ys, h => by
   simp only [sameC, Bool.and_eq_true, beq_iff_eq] at h
   rw [h.1, sameC_ok cs ys h.2]; rfl
theorem VRs_lits_eq {e : Env} {ys : List Value} {l : List Value} (h : VRs e (ys.map .lit) l) : l = ys := by
 induction ys generalizing l with
 | nil => exact VRs_nil.1 h
 | cons y ys ih =>
   obtain ⟨x, xs, rfl, h1, h2⟩ := VRs_cons.1 h
   rw [VR_lit.1 h1, ih h2]
abbrev flV (l : Fl) : List Value := [.int .i64 l.sheet, .int .i64 l.col, .int .i64 l.row, .bool l.inner, .bool l.turned]
def LeavesAt (w : World) (v : Value) (ls : List Fl) (g : Nat) : Prop :=
 ∃ k : Nat, ∃ rest : List Value, v = .slice (some ⟨g, 0, none⟩) ls.length (ls.length + k) /\ w.heap[g]? = some (.cells (ls.flatMap flV ++ rest).toArray 106 (0, 0)) /\ rest.length = k * 5
def bytesF (f : Fds) : Bs := f.map fun x => if x then 120 else 121
theorem eval_lits {P : Program} (hm : P.follows .mixedOrders = true) {fid : FuncId} {ys : List Value} {W : World} {v : V} {h' : H} (k : evCall P 100000 0 fid (ys.map .lit) h01 = .ok (v, h')) :
  Calls P fid ys.toArray W fun en W' => ∃ x e', en = .returned x /\ VR e' v x /\ Rel P e' h' W' /\ Below W.heap.size W W' /\ ∀ b, e'.dom b -> W.heap.size <= e'.σ b := by
 have hv : ∀ ys : List Value, VRs e01 (ys.map V.lit) ys := fun ys => by
  induction ys with
  | nil => exact VRs_nil.2 rfl
  | cons y ys ih => exact VRs_cons.2 ⟨y, ys, rfl, VR_lit.2 rfl, ih⟩
 have := evCall_ok (P := P) (e := e01) (w := W) hm (gl := 0) rel_start0 (hv ys) (fun g hg => by omega) k
 unfold CallOk at this
 refine this.mono ?_
 rintro en W' ⟨x, rfl, e', r', s, hx⟩
 have hk := VKept.of (P := P) s rel_start0 rfl rfl
 refine ⟨x, e', rfl, hx, r', ⟨hk.os, hk.tape, hk.output, hk.size, fun k hk' => hk.keep k hk'⟩, fun b hb => ?_⟩
 rcases s.img b hb (fun h => h.elim) with h | ⟨c, hc, -⟩
 · exact h
 · exact hc.elim
noncomputable def foldedOk (f : Fds) : Bool := match evCall Tryz.prog 100000 0 92 [.lit (S (bytesF f))] h01 with
 | .ok (.slc b 0 n cap true, h') => (match h'.get b with
   | some (.cells cs t) => and (and (Nat.beq t 106) (Nat.beq (List.length cs) (Nat.mul cap 5))) (and (and (Nat.beq n (List.length (sheetF f))) (Nat.ble n cap)) (sameC (cs.take (Nat.mul n 5)) ((sheetF f).flatMap flV)))
   | _ => false)
 | _ => false
theorem folded_1 : (foldsOf 1 ++ foldsOf 2).all foldedOk = true := by kernel_rfl
theorem folded_2 : ((foldsOf 3).take 4).all foldedOk = true := by kernel_rfl
theorem folded_3 : ((foldsOf 3).drop 4).all foldedOk = true := by kernel_rfl
theorem folded_4 : ((foldsOf 4).take 4).all foldedOk = true := by kernel_rfl
theorem folded_5 : (((foldsOf 4).drop 4).take 4).all foldedOk = true := by kernel_rfl
theorem folded_6 : (((foldsOf 4).drop 8).take 4).all foldedOk = true := by kernel_rfl
theorem folded_7 : ((foldsOf 4).drop 12).all foldedOk = true := by kernel_rfl
theorem folded_all {f : Fds} (h1 : 1 <= f.length) (h2 : f.length <= 4) : foldedOk f = true := by
 have hm := allFolds_mem h1 h2
 unfold allFolds at hm
 have e3 : foldsOf 3 = (foldsOf 3).take 4 ++ (foldsOf 3).drop 4 := (List.take_append_drop _ _).symm
 have e4 : foldsOf 4 = (foldsOf 4).take 4 ++ (((foldsOf 4).drop 4).take 4 ++ (((foldsOf 4).drop 8).take 4 ++ (foldsOf 4).drop 12)) := by
  rw [show (foldsOf 4).drop 12 = ((foldsOf 4).drop 8).drop 4 by rw [List.drop_drop], List.take_append_drop, show (foldsOf 4).drop 8 = ((foldsOf 4).drop 4).drop 4 by rw [List.drop_drop], List.take_append_drop, List.take_append_drop]
 rw [e3, e4] at hm
 have a1 := List.all_eq_true.1 folded_1
 have a2 := List.all_eq_true.1 folded_2
 have a3 := List.all_eq_true.1 folded_3
 have a4 := List.all_eq_true.1 folded_4
 have a5 := List.all_eq_true.1 folded_5
 have a6 := List.all_eq_true.1 folded_6
 have a7 := List.all_eq_true.1 folded_7
 simp only [List.mem_append] at hm a1
 rcases hm with ((h | h) | (h | h)) | (h | h | h | h)
 · exact a1 f (Or.inl h)
 · exact a1 f (Or.inr h)
 · exact a2 f h
 · exact a3 f h
 · exact a4 f h
 · exact a5 f h
 · exact a6 f h
 · exact a7 f h
theorem followsT : Tryz.prog.follows .mixedOrders = true := by kernel_rfl
theorem folded_any {f : Fds} (h1 : 1 <= f.length) (h2 : f.length <= 4) (W : World) :
  Calls Tryz.prog 92 #[S (bytesF f)] W fun en W' => ∃ v g, en = .returned v /\ LeavesAt W' v (sheetF f) g /\ W.heap.size <= g /\ Below W.heap.size W W' := by
 have hk := folded_all h1 h2
 unfold foldedOk at hk
 split at hk
 · rename_i b n cap h' he
   split at hk
   · rename_i cs t hg
     simp only [Bool.and_eq_true] at hk
     obtain ⟨⟨k1, k2⟩, ⟨k3, k4⟩, k5⟩ := hk
     have t1 : t = 106 := Nat.eq_of_beq_eq_true k1
     have t2 : cs.length = cap * 5 := Nat.eq_of_beq_eq_true k2
     have t3 : n = (sheetF f).length := Nat.eq_of_beq_eq_true k3
     have t4 : n <= cap := Nat.le_of_ble_eq_true k4
     have t5 : cs.take (n * 5) = ((sheetF f).flatMap flV).map .lit := sameC_ok _ _ k5
     subst t1 t3
     refine (eval_lits followsT (ys := [S (bytesF f)]) (W := W) he).mono ?_
     rintro en W' ⟨x, e', rfl, hx, hr, hb, hfr⟩
     obtain ⟨hd, rfl⟩ := VR_slc.1 hx
     obtain ⟨-, o, ho, l, rest, rfl, hl, hrest⟩ := hr.at_ b _ hg
     have hs : sizeT Tryz.prog 106 = some 5 := by kernel_rfl
     have hr5 := hrest 5 hs
     have hlen := VRs_len hl
     have hl1 : l.take ((sheetF f).length * 5) = (sheetF f).flatMap flV := by
      refine VRs_lits_eq (e := e') ?_
      rw [<- t5]
      have key : ∀ (k : Nat) (cs : List V) (l : List Value), VRs e' cs l -> VRs e' (cs.take k) (l.take k) := fun k => by
       induction k with
       | zero => intro cs l h; exact VRs_nil.2 rfl
       | succ k ih =>
         intro cs l h
         cases cs with
         | nil => rw [VRs_nil.1 h]; exact VRs_nil.2 rfl
         | cons c cs =>
           obtain ⟨x, xs, rfl, h1, h2⟩ := VRs_cons.1 h
           exact VRs_cons.2 ⟨x, _, rfl, h1, ih _ _ h2⟩
      exact key _ _ _ hl
     refine ⟨_, e'.σ b, rfl, ⟨cap - (sheetF f).length + e'.κ b, l.drop ((sheetF f).length * 5) ++ rest, ?_, ?_, ?_⟩, hfr b hd, hb⟩
     · simp only [if_true]
       congr 1
       omega
     · rw [ho, <- hl1, <- List.append_assoc, List.take_append_drop]
     · rw [List.length_append, List.length_drop, hlen, t2, hr5, Nat.add_mul, Nat.sub_mul]
   · cases hk
 · cases hk
end
end Go.Proofs.YtpdhdgdbknnllaaGreatDoor
