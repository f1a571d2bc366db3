/- The parts Tb of the proof, joined. It holds without conditions of its own. -/
import Derived.Test.YtpdhdgdbknnllaaGreatDoorFX5
set_option maxRecDepth 100000
set_option maxHeartbeats 20000000
namespace Go.Proofs.YtpdhdgdbknnllaaGreatDoor
section
set_option linter.unusedSimpArgs false
set_option linter.unusedVariables false
open Go Go.RowKit
def eG (g k : Nat) : Env := ⟨fun _ => g, fun _ => k, fun b => b = 0⟩
def hG (ls : List Fl) : H := ⟨40, 40, 40, .node .leaf (some (.cells ((ls.flatMap flV).map .lit) 106)) .leaf⟩
theorem hG_get {ls : List Fl} {b : Nat} {o : Ob} (k : (hG ls).get b = some o) : b = 0 /\ o = .cells ((ls.flatMap flV).map .lit) 106 := by
 by_cases hb : b = 0
 · subst hb; cases k; exact ⟨rfl, rfl⟩
 · exfalso
   have h2 : (Tr.setP (some (Ob.cells ((ls.flatMap flV).map .lit) 106)) (Tr.path 0) Tr.leaf).get b = some o := k
   rw [Tr.get_set_other _ _ hb, Tr.get_leaf] at h2
   cases h2
theorem relG {W : World} {ls : List Fl} {g k : Nat} {rest : List Value} (h : W.heap[g]? = some (.cells (ls.flatMap flV ++ rest).toArray 106 (0, 0))) (hr : rest.length = k * 5) : Rel Tryz.prog (eG g k) (hG ls) W := by
 refine ⟨fun b hb => ?_, fun b hb => ?_, fun b o k' => ?_, fun b c o o' k1 k2 _ => ?_⟩
 · change b = 0 at hb; subst hb; show 0 < 40; omega
 · exact (Array.getElem?_eq_some_iff.1 h).1
 · obtain ⟨rfl, rfl⟩ := hG_get k'
   refine ⟨rfl, _, h, ls.flatMap flV, rest, rfl, VRs_lits _, fun s hs => ?_⟩
   have h5 : sizeT Tryz.prog 106 = some 5 := by kernel_rfl
   rw [h5] at hs
   cases hs
   exact hr
 · rw [(hG_get k1).1, (hG_get k2).1]
theorem eval_row {fid : FuncId} {ls : List Fl} {y v0 : Value} {g : Nat} {W : World} {v : V} {h' : H} (hl : LeavesAt W v0 ls g) (k : evCall Tryz.prog 100000 0 fid [.slc 0 0 ls.length ls.length true, .lit y] (hG ls) = .ok (v, h')) :
  Calls Tryz.prog fid #[v0, y] W fun en W' => ∃ x e', en = .returned x /\ VR e' v x /\ Rel Tryz.prog e' h' W' /\ Below W.heap.size W W' /\ ∀ b, 40 <= b -> e'.dom b -> W.heap.size <= e'.σ b := by
 obtain ⟨m, rest, rfl, hg, hr⟩ := hl
 have r := relG hg hr
 have hv : VRs (eG g m) [.slc 0 0 ls.length ls.length true, .lit y] [.slice (some ⟨g, 0, none⟩) ls.length (ls.length + m), y] :=
  VRs_cons.2 ⟨_, _, rfl, VR_slc.2 ⟨rfl, rfl⟩, VRs_cons.2 ⟨_, _, rfl, VR_lit.2 rfl, VRs_nil.2 rfl⟩⟩
 have := evCall_ok (P := Tryz.prog) (e := eG g m) (w := W) followsT (gl := 0) r hv (fun g hg => by omega) k
 unfold CallOk at this
 refine this.mono ?_
 rintro en W' ⟨x, rfl, e', r', s, hx⟩
 have hk := VKept.of (P := Tryz.prog) s r rfl rfl
 refine ⟨x, e', rfl, hx, r', ⟨hk.os, hk.tape, hk.output, hk.size, fun k hk' => hk.keep k hk'⟩, fun b hb40 hb => ?_⟩
 rcases s.img b hb (fun h => by change b = 0 at h; omega) with h | ⟨c, hc, hf, -⟩
 · exact h
 · change c = 0 at hc
   subst hc
   exact absurd hf (by unfold free; show ¬ (40 <= 0 ∨ 0 = 40); omega)
noncomputable def rowOk (x : E (V × H)) (ls : List Fl) : Bool := match x with
 | .ok (.slc b 0 n cap true, h') => (match h'.get b with
   | some (.cells cs t) => and (and (Nat.ble 40 b) (and (Nat.beq t 106) (Nat.beq (List.length cs) (Nat.mul cap 5)))) (and (and (Nat.beq n (List.length ls)) (Nat.ble n cap)) (sameC (cs.take (Nat.mul n 5)) (ls.flatMap flV)))
   | _ => false)
 | _ => false
noncomputable def gatheredOk (f : Fds) : Bool := [1, 2, 3, 4].all fun s => rowOk (evCall Tryz.prog 100000 0 91 [.slc 0 0 (sheetF f).length (sheetF f).length true, .lit (.int .i64 s)] (hG (sheetF f))) (gatherF (sheetF f) s.toNat)
theorem row_got {v : V} {h' : H} {ls : List Fl} (hk : rowOk (.ok (v, h')) ls = true) {e' : Env} {x : Value} {B : Nat} {W' : World} (hx : VR e' v x) (hr : Rel Tryz.prog e' h' W') (hfr : ∀ b, 40 <= b -> e'.dom b -> B <= e'.σ b) : ∃ g, LeavesAt W' x ls g /\ B <= g := by
 unfold rowOk at hk
 split at hk
 · rename_i b n cap h2 he
   obtain ⟨rfl, rfl⟩ := Prod.mk.inj (Except.ok.inj he)
   split at hk
   · rename_i cs t hg
     simp only [Bool.and_eq_true] at hk
     obtain ⟨⟨k0, k1, k2⟩, ⟨k3, k4⟩, k5⟩ := hk
     have t0 : 40 <= b := Nat.le_of_ble_eq_true k0
     have t1 : t = 106 := Nat.eq_of_beq_eq_true k1
     have t2 : cs.length = cap * 5 := Nat.eq_of_beq_eq_true k2
     have t3 : n = ls.length := Nat.eq_of_beq_eq_true k3
     have t4 : n <= cap := Nat.le_of_ble_eq_true k4
     have t5 : cs.take (n * 5) = (ls.flatMap flV).map .lit := sameC_ok _ _ k5
     subst t1 t3
     obtain ⟨hd, rfl⟩ := VR_slc.1 hx
     obtain ⟨-, o, ho, l, rest, rfl, hl, hrest⟩ := hr.at_ b _ hg
     have hs : sizeT Tryz.prog 106 = some 5 := by kernel_rfl
     have hr5 := hrest 5 hs
     have hlen := VRs_len hl
     have hl1 : l.take (ls.length * 5) = ls.flatMap flV := by
      refine VRs_lits_eq (e := e') ?_
      rw [<- t5]
      have key : ∀ (k : Nat) (cs : List V) (l : List Value), VRs e' cs l -> VRs e' (cs.take k) (l.take k) := fun k => by
       induction k with
       | zero => intro cs l h; exact VRs_nil.2 rfl
       | succ k ih =>
         intro cs l h
         cases cs with
         | nil => rw [VRs_nil.1 h]; exact VRs_nil.2 rfl
         | cons c cs =>
           obtain ⟨x, xs, rfl, h1, h2⟩ := VRs_cons.1 h
           exact VRs_cons.2 ⟨x, _, rfl, h1, ih _ _ h2⟩
      exact key _ _ _ hl
     refine ⟨e'.σ b, ⟨cap - ls.length + e'.κ b, l.drop (ls.length * 5) ++ rest, ?_, ?_, ?_⟩, hfr b t0 hd⟩
     · simp only [if_true]
       congr 1
       omega
     · rw [ho, <- hl1, <- List.append_assoc, List.take_append_drop]
     · rw [List.length_append, List.length_drop, hlen, t2, hr5, Nat.add_mul, Nat.sub_mul]
   · cases hk
 · cases hk
theorem gathered_1 : (foldsOf 1 ++ foldsOf 2).all gatheredOk = true := by kernel_rfl
theorem gathered_2 : (foldsOf 3).all gatheredOk = true := by kernel_rfl
theorem gathered_4 : ((foldsOf 4).take 4).all gatheredOk = true := by kernel_rfl
theorem gathered_5 : (((foldsOf 4).drop 4).take 4).all gatheredOk = true := by kernel_rfl
theorem gathered_6 : (((foldsOf 4).drop 8).take 4).all gatheredOk = true := by kernel_rfl
theorem gathered_7 : ((foldsOf 4).drop 12).all gatheredOk = true := by kernel_rfl
theorem gathered_all {f : Fds} (h1 : 1 <= f.length) (h2 : f.length <= 4) : gatheredOk f = true := by
 have hm := allFolds_mem h1 h2
 unfold allFolds at hm
 have e4 : foldsOf 4 = (foldsOf 4).take 4 ++ (((foldsOf 4).drop 4).take 4 ++ (((foldsOf 4).drop 8).take 4 ++ (foldsOf 4).drop 12)) := by
  rw [show (foldsOf 4).drop 12 = ((foldsOf 4).drop 8).drop 4 by rw [List.drop_drop], List.take_append_drop, show (foldsOf 4).drop 8 = ((foldsOf 4).drop 4).drop 4 by rw [List.drop_drop], List.take_append_drop, List.take_append_drop]
 rw [e4] at hm
 have a1 := List.all_eq_true.1 gathered_1
 have a2 := List.all_eq_true.1 gathered_2
 have a4 := List.all_eq_true.1 gathered_4
 have a5 := List.all_eq_true.1 gathered_5
 have a6 := List.all_eq_true.1 gathered_6
 have a7 := List.all_eq_true.1 gathered_7
 simp only [List.mem_append] at hm a1
 rcases hm with ((h | h) | h) | (h | h | h | h)
 · exact a1 f (Or.inl h)
 · exact a1 f (Or.inr h)
 · exact a2 f h
 · exact a4 f h
 · exact a5 f h
 · exact a6 f h
 · exact a7 f h
theorem gathered_any {f : Fds} (h1 : 1 <= f.length) (h2 : f.length <= 4) {s : Int} (hs : 1 <= s /\ s <= 4) {v0 : Value} {g : Nat} (W : World) (hl : LeavesAt W v0 (sheetF f) g) :
  Calls Tryz.prog 91 #[v0, .int .i64 s] W fun en W' => ∃ v g', en = .returned v /\ LeavesAt W' v (gatherF (sheetF f) s.toNat) g' /\ W.heap.size <= g' /\ Below W.heap.size W W' := by
 have hk := gathered_all h1 h2
 unfold gatheredOk at hk
 have hk := List.all_eq_true.1 hk s (by have : s = 1 ∨ s = 2 ∨ s = 3 ∨ s = 4 := by omega
                                        simpa using this)
 cases he : evCall Tryz.prog 100000 0 91 [.slc 0 0 (sheetF f).length (sheetF f).length true, .lit (.int .i64 s)] (hG (sheetF f)) with
 | error m => rw [he] at hk; cases hk
 | ok q =>
   obtain ⟨v, h'⟩ := q
   rw [he] at hk
   refine (eval_row hl he).mono ?_
   rintro en W' ⟨x, e', rfl, hx, hr, hb, hfr⟩
   obtain ⟨g', hg, hf⟩ := row_got hk hx hr hfr
   exact ⟨x, g', rfl, hg, hf, hb⟩
end
end Go.Proofs.YtpdhdgdbknnllaaGreatDoor
