/- The parts Uy of the proof, joined. It holds without conditions of its own. -/
import Derived.Test.YtpdhdgdbknnllaaGreatDoorFX5
set_option maxRecDepth 100000
set_option maxHeartbeats 20000000
namespace Go.Proofs.YtpdhdgdbknnllaaGreatDoor
section
set_option linter.unusedSimpArgs false
set_option linter.unusedVariables false
open Go Go.RowKit
abbrev lnV (l : Ln) : List Value := [.int .i64 l.col, .int .i64 l.row, .int .i64 l.x, .int .i64 l.y]
def LnsAt (w : World) (v : Value) (ls : List Ln) (g : Nat) : Prop :=
 ∃ k : Nat, ∃ rest : List Value, v = .slice (some ⟨g, 0, none⟩) ls.length (ls.length + k) /\ w.heap[g]? = some (.cells (ls.flatMap lnV ++ rest).toArray 154 (0, 0)) /\ rest.length = k * 4
noncomputable def pileOk (half : Bool) (f : Fds) : Bool := match evCall Tryz.prog 100000 0 81 [.lit (S (bytesF f)), .lit (.bool half)] h01 with
 | .ok (.slc b 0 n cap true, h') => (match h'.get b with
   | some (.cells cs t) => and (and (Nat.beq t 154) (Nat.beq (List.length cs) (Nat.mul cap 4))) (and (and (Nat.beq n (List.length (pileR f half))) (Nat.ble n cap)) (sameC (cs.take (Nat.mul n 4)) ((pileR f half).flatMap lnV)))
   | _ => false)
 | _ => false
theorem pile_1 : (foldsOf 1 ++ foldsOf 2).all (pileOk false) = true := by kernel_rfl
theorem pile_2 : ((foldsOf 3).take 4).all (pileOk false) = true := by kernel_rfl
theorem pile_3 : ((foldsOf 3).drop 4).all (pileOk false) = true := by kernel_rfl
theorem pile_4 : ((foldsOf 4).take 4).all (pileOk false) = true := by kernel_rfl
theorem pile_5 : (((foldsOf 4).drop 4).take 4).all (pileOk false) = true := by kernel_rfl
theorem pile_6 : (((foldsOf 4).drop 8).take 4).all (pileOk false) = true := by kernel_rfl
theorem pile_7 : ((foldsOf 4).drop 12).all (pileOk false) = true := by kernel_rfl
theorem pileh_1 : (foldsOf 2).all (pileOk true) = true := by kernel_rfl
theorem pileh_2 : ((foldsOf 3).take 4).all (pileOk true) = true := by kernel_rfl
theorem pileh_3 : ((foldsOf 3).drop 4).all (pileOk true) = true := by kernel_rfl
theorem pileh_4 : ((foldsOf 4).take 4).all (pileOk true) = true := by kernel_rfl
theorem pileh_5 : (((foldsOf 4).drop 4).take 4).all (pileOk true) = true := by kernel_rfl
theorem pileh_6 : (((foldsOf 4).drop 8).take 4).all (pileOk true) = true := by kernel_rfl
theorem pileh_7 : ((foldsOf 4).drop 12).all (pileOk true) = true := by kernel_rfl
theorem pile_parts {q : Fds -> Bool} (a1 : (foldsOf 1 ++ foldsOf 2).all q = true) (a2 : ((foldsOf 3).take 4).all q = true) (a3 : ((foldsOf 3).drop 4).all q = true) (a4 : ((foldsOf 4).take 4).all q = true)
  (a5 : (((foldsOf 4).drop 4).take 4).all q = true) (a6 : (((foldsOf 4).drop 8).take 4).all q = true) (a7 : ((foldsOf 4).drop 12).all q = true) {f : Fds} (h1 : 1 <= f.length) (h2 : f.length <= 4) : q f = true := by
 have hm := allFolds_mem h1 h2
 unfold allFolds at hm
 have e3 : foldsOf 3 = (foldsOf 3).take 4 ++ (foldsOf 3).drop 4 := (List.take_append_drop _ _).symm
 have e4 : foldsOf 4 = (foldsOf 4).take 4 ++ (((foldsOf 4).drop 4).take 4 ++ (((foldsOf 4).drop 8).take 4 ++ (foldsOf 4).drop 12)) := by
  rw [show (foldsOf 4).drop 12 = ((foldsOf 4).drop 8).drop 4 by rw [List.drop_drop], List.take_append_drop, show (foldsOf 4).drop 8 = ((foldsOf 4).drop 4).drop 4 by rw [List.drop_drop], List.take_append_drop, List.take_append_drop]
 rw [e3, e4] at hm
 rw [List.all_eq_true] at a1 a2 a3 a4 a5 a6 a7
 simp only [List.mem_append] at hm a1
 rcases hm with ((h | h) | (h | h)) | (h | h | h | h)
 · exact a1 f (Or.inl h)
 · exact a1 f (Or.inr h)
 · exact a2 f h
 · exact a3 f h
 · exact a4 f h
 · exact a5 f h
 · exact a6 f h
 · exact a7 f h
theorem pile_all {f : Fds} (h1 : 1 <= f.length) (h2 : f.length <= 4) (half : Bool) (h3 : half = true -> 2 <= f.length) : pileOk half f = true := by
 cases half
 · exact pile_parts pile_1 pile_2 pile_3 pile_4 pile_5 pile_6 pile_7 h1 h2
 · have h4 := h3 rfl
   have a1 : (foldsOf 1 ++ foldsOf 2).all (fun g => if 2 <= g.length then pileOk true g else true) = true := by
    rw [List.all_append, Bool.and_eq_true]
    refine ⟨by decide, ?_⟩
    have := pileh_1
    rw [List.all_eq_true] at this ⊢
    intro g hg
    simp only [this g hg, ite_self]
   have up : ∀ l : List Fds, l.all (pileOk true) = true -> l.all (fun g => if 2 <= g.length then pileOk true g else true) = true := by
    intro l hl
    rw [List.all_eq_true] at hl ⊢
    intro g hg
    simp only [hl g hg, ite_self]
   have := pile_parts a1 (up _ pileh_2) (up _ pileh_3) (up _ pileh_4) (up _ pileh_5) (up _ pileh_6) (up _ pileh_7) h1 h2
   rwa [if_pos h4] at this
theorem pile_any {f : Fds} (h1 : 1 <= f.length) (h2 : f.length <= 4) (half : Bool) (h3 : half = true -> 2 <= f.length) (W : World) :
  Calls Tryz.prog 81 #[S (bytesF f), .bool half] W fun en W' => ∃ v g, en = .returned v /\ LnsAt W' v (pileR f half) g /\ W.heap.size <= g /\ Below W.heap.size W W' := by
 have hk := pile_all h1 h2 half h3
 unfold pileOk at hk
 split at hk
 · rename_i b n cap h' he
   split at hk
   · rename_i cs t hg
     simp only [Bool.and_eq_true] at hk
     obtain ⟨⟨k1, k2⟩, ⟨k3, k4⟩, k5⟩ := hk
     have t1 : t = 154 := Nat.eq_of_beq_eq_true k1
     have t2 : cs.length = cap * 4 := Nat.eq_of_beq_eq_true k2
     have t3 : n = (pileR f half).length := Nat.eq_of_beq_eq_true k3
     have t4 : n <= cap := Nat.le_of_ble_eq_true k4
     have t5 : cs.take (n * 4) = ((pileR f half).flatMap lnV).map .lit := sameC_ok _ _ k5
     subst t1 t3
     refine (eval_lits followsT (ys := [S (bytesF f), .bool half]) (W := W) he).mono ?_
     rintro en W' ⟨x, e', rfl, hx, hr, hb, hfr⟩
     obtain ⟨hd, rfl⟩ := VR_slc.1 hx
     obtain ⟨-, o, ho, l, rest, rfl, hl, hrest⟩ := hr.at_ b _ hg
     have hs : sizeT Tryz.prog 154 = some 4 := by kernel_rfl
     have hr5 := hrest 4 hs
     have hlen := VRs_len hl
     have hl1 : l.take ((pileR f half).length * 4) = (pileR f half).flatMap lnV := by
      refine VRs_lits_eq (e := e') ?_
      rw [<- t5]
      have key : ∀ (k : Nat) (cs : List V) (l : List Value), VRs e' cs l -> VRs e' (cs.take k) (l.take k) := fun k => by
       induction k with
       | zero => intro cs l h; exact VRs_nil.2 rfl
       | succ k ih =>
         intro cs l h
         cases cs with
         | nil => rw [VRs_nil.1 h]; exact VRs_nil.2 rfl
         | cons c cs =>
           obtain ⟨x, xs, rfl, h1, h2⟩ := VRs_cons.1 h
           exact VRs_cons.2 ⟨x, _, rfl, h1, ih _ _ h2⟩
      exact key _ _ _ hl
     refine ⟨_, e'.σ b, rfl, ⟨cap - (pileR f half).length + e'.κ b, l.drop ((pileR f half).length * 4) ++ rest, ?_, ?_, ?_⟩, hfr b hd, hb⟩
     · simp only [if_true]
       congr 1
       omega
     · rw [ho, <- hl1, <- List.append_assoc, List.take_append_drop]
     · rw [List.length_append, List.length_drop, hlen, t2, hr5, Nat.add_mul, Nat.sub_mul]
   · cases hk
 · cases hk
end
end Go.Proofs.YtpdhdgdbknnllaaGreatDoor
