/- The parts Vj, Vk, Vl, Vm, Vn, Vo, Vp, Vq, Vr, Vra, Vrb, Vs, Vt of the proof, joined. It holds without conditions of its own. -/
import Derived.Test.YtpdhdgdbknnllaaGreatDoorFX1
import Derived.RangeFuncLeaves
import Derived.RangeFuncIn
import Derived.LoopNIn
import Derived.Scope
set_option maxRecDepth 100000
set_option maxHeartbeats 20000000
namespace Go.Proofs.YtpdhdgdbknnllaaGreatDoor
section
set_option linter.unusedSimpArgs false
set_option linter.unusedVariables false
open Go Go.RowKit
section
variable {P : Program} {e : Env} {h h' : H} {w : World} {v : V}
theorem newObj_ok {o : Ob} {x : Obj} (r : Rel P e h w) (ho : ∀ e', Le e e' -> ObR P e' h.n o x) : ∃ e', (newObj x).run P w = .ok (e'.σ h.n) (w.alloc x) /\ Rel P e' (h.with o) (w.alloc x) /\ Step h e w (h.with o) e' (w.alloc x) /\ e'.dom h.n := by
 have hn : ¬ e.dom h.n := fun hd => by have := r.lt _ hd; omega
 obtain ⟨g1, g2, g3, g4, -⟩ := rel_new (o := o) (x := x) 0 r (ho _ (Env.le_more hn))
 exact ⟨_, by rw [g4]; rfl, g1, g2, g3⟩
theorem makeMap_ok {t : TypeId} {q : Option Value} (r : Rel P e h w) (hq : q = none ∨ ∃ (k : IntKind) (n : Int) (kt el : TypeId), q = some (.int k n) /\ P.underlying t = some (.map kt el)) : Does P (Instr.makeMap t q) h e w (h.with (.map [] 0)) (.map h.n) := by
 obtain ⟨e', g1, g2, g3, g4⟩ := newObj_ok (o := .map [] 0) (x := .map #[] 0) r (fun _ _ => ⟨[], rfl, rfl⟩)
 refine ⟨_, _, ?_, e', g2, g3, VR_map.2 ⟨g4, rfl⟩⟩
 rcases hq with rfl | ⟨k, n, kt, el, rfl, hu⟩
 · simp only [Instr.makeMap, Sem.run_bind, Sem.run_pure, Result.andThen_ok, g1]
 · simp only [Instr.makeMap, Sem.run_bind, Sem.run_pure, Result.andThen_ok, run_und hu, asInt, asIntOf, g1]
theorem range_ok {t : TypeId} {a : V} {y : Value} (r : Rel P e h w) (hy : VR e a y) (k : opRange P t a h = .ok (v, h')) : Does P (Instr.range t y) h e w h' v := by
 unfold opRange at k
 cases hu : P.underlying t with
 | none => rw [hu] at k; cases k
 | some d =>
   rw [hu] at k
   split at k
   · rename_i s hd
     cases hd
     rw [newK_eq] at k
     cases k
     have hy' := VR_lit.1 hy
     subst hy'
     obtain ⟨e', g1, g2, g3, g4⟩ := newObj_ok (o := .siter s 0) (x := .stringIter s 0) r (fun _ _ => rfl)
     refine ⟨_, _, ?_, e', g2, g3, VR_ptr.2 ⟨g4, rfl⟩⟩
     simp only [Instr.range, Sem.run_bind, run_und hu, Result.andThen_ok, Sem.run_pure, g1]
   · rename_i kt el b hd
     cases hd
     split at k
     · rename_i es clk hb
       rw [newK_eq] at k
       cases k
       obtain ⟨hd, hy'⟩ := VR_map.1 hy
       subst hy'
       obtain ⟨-, x, hx, l, rfl, -⟩ := r.at_ b _ hb
       have hobj := getObj_run (P := P) hx (fun _ _ _ => by simp)
       obtain ⟨e', g1, g2, g3, g4⟩ := newObj_ok (o := .miter b clk) (x := .mapIter (some (e.σ b)) clk #[] clk) r (fun e' hle => ⟨by rw [hle.σ b hd], hle.dom b hd⟩)
       refine ⟨_, _, ?_, e', g2, g3, VR_ptr.2 ⟨g4, rfl⟩⟩
       simp only [Instr.range, Sem.run_bind, run_und hu, hobj, Result.andThen_ok, Sem.run_pure, g1]
     · cases k
   · cases k
theorem find_born {e : Env} {s : Nat} : ∀ {es : List (Value × V × Nat)} {l : List MapEntry} {q : Value × V × Nat}, EsR e es l -> findB s es = some q -> ∃ x, l.find? (·.born == s) = some x /\ x.key = q.1 /\ VR e q.2.1 x.val
 | [], l, q, h, k => by cases k
 | r :: es, l, q, h, k => by
   obtain ⟨y, l', rfl, h2, h3⟩ := h
   unfold findB at k
   cases hb : Nat.beq r.2.2 s with
   | true =>
     rw [hb] at k
     cases k
     have := Nat.eq_of_beq_eq_true hb
     exact ⟨{ key := r.1, val := y, born := r.2.2 }, by simp [this], rfl, h2⟩
   | false =>
     rw [hb] at k
     have := Nat.ne_of_beq_eq_false hb
     obtain ⟨x, g1, g2⟩ := find_born h3 k
     refine ⟨x, ?_, g2⟩
     rw [List.find?_cons]
     have hb2 : (({ key := r.1, val := y, born := r.2.2 } : MapEntry).born == s) = false := beq_false_of_ne this
     rw [hb2]
     exact g1
theorem entry_ok {a : V} {y : Value} (r : Rel P e h w) (hy : VR e a y) (k : opEntry a h = .ok v) : Does P (Instr.entry y) h e w h v := by
 unfold opEntry at k
 split at k
 · rename_i b
   obtain ⟨hd, rfl⟩ := VR_ptr.1 hy
   split at k
   · rename_i m clk s hb
     split at k
     · rename_i es c hm
       obtain ⟨hc, k⟩ := ec_ok k
       obtain ⟨q, hq, k⟩ := eo_ok k
       cases k
       have hc := Nat.eq_of_beq_eq_true hc
       subst hc
       obtain ⟨-, x, hx, seen, rfl, hs, -⟩ := r.at_ b _ hb
       obtain ⟨-, x2, hx2, l, rfl, hl⟩ := r.at_ m _ hm
       have g1 := getObj_run (P := P) hx (fun _ _ _ => by simp)
       have g2 := getObj_run (P := P) hx2 (fun _ _ _ => by simp)
       obtain ⟨z, f1, f2, f3⟩ := find_born hl hq
       refine Does.pure r (x := .tuple #[z.key, z.val]) ?_ (VR_tup.2 ⟨[z.key, z.val], rfl, VRs_cons.2 ⟨_, _, rfl, VR_lit.2 f2, VRs_cons.2 ⟨_, _, rfl, f3, VRs_nil.2 rfl⟩⟩⟩)
       have hf : l.toArray.find? (·.born == s) = some z := by rw [List.find?_toArray]; exact f1
       simp only [Instr.entry, Sem.run_bind, g1, Result.andThen_ok, hs, g2, bne_self_eq_false, Bool.false_eq_true, if_false, Sem.run_pure, hf]
     · cases k
   · cases k
 · cases k
theorem next_ok {t : TypeId} {a : V} {y : Value} {s : Bool} (r : Rel P e h w) (hy : VR e a y) (k : opNext a s h = .ok (v, h')) : Does P (Instr.next y s t) h e w h' v := by
 unfold opNext at k
 split at k
 · rename_i b
   obtain ⟨hd, rfl⟩ := VR_ptr.1 hy
   split at k
   · rename_i s pos hb
     obtain ⟨-, x, hx, rfl⟩ := r.at_ b _ hb
     have hobj := getObj_run (P := P) hx (fun _ _ _ => by simp)
     split at k
     · next hlt =>
       simp only at k
       obtain ⟨h2, hs, k⟩ := eb_ok k
       cases k
       have hlt' : pos < s.size := Nat.lt_of_succ_le (Nat.le_of_ble_eq_true hlt)
       obtain ⟨f1, f2, f3⟩ := turn_ok (o' := .siter s (pos + (Utf8.decode s pos).2)) (x' := .stringIter s (pos + (Utf8.decode s pos).2)) r hb hx (fun _ _ _ => by simp) rfl hs
       refine ⟨_, _, ?_, e, f2, f3, VR_tup.2 ⟨[.bool true, goInt pos, .int .i32 (Utf8.decode s pos).1], rfl, VRs_cons.2 ⟨_, _, rfl, VR_lit.2 rfl, VRs_cons.2 ⟨_, _, rfl, VR_lit.2 rfl, VRs_cons.2 ⟨_, _, rfl, VR_lit.2 rfl, VRs_nil.2 rfl⟩⟩⟩⟩⟩
       simp only [Instr.next, Sem.run_bind, hobj, Result.andThen_ok, hlt', if_true, f1, Sem.run_pure]
     · next hlt =>
       cases k
       have hlt' : ¬ pos < s.size := fun hp => hlt (Nat.ble_eq_true_of_le (Nat.succ_le_of_lt hp))
       refine Does.pure r (x := .tuple #[.bool false]) ?_ (VR_tup.2 ⟨[.bool false], rfl, VRs_cons.2 ⟨_, _, rfl, VR_lit.2 rfl, VRs_nil.2 rfl⟩⟩)
       simp only [Instr.next, Sem.run_bind, hobj, Result.andThen_ok, hlt', if_false, Sem.run_pure]
   · cases k
 · cases k
theorem extract_ok {a : V} {y : Value} {i : Nat} (r : Rel P e h w) (hy : VR e a y) (k : opExtract a i = .ok v) : Does P (Instr.extract y i) h e w h v := by
 unfold opExtract at k
 split at k
 · rename_i vs
   obtain ⟨l, rfl, hl⟩ := VR_tup.1 hy
   obtain ⟨u, hu, k⟩ := eo_ok k
   cases k
   obtain ⟨x, hx, hv⟩ := VRs_get hl hu
   refine Does.pure r (x := x) ?_ hv
   simp [Instr.extract, hx]
 · cases k
theorem pure?_ok {s : Sem Value} {x : Value} (k : pure? s = some x) : s.run P w = .ok x w := by
 unfold pure? at k
 split at k
 · cases k; rfl
 · cases k
theorem intBin_ok {op : BinOp} {t : TypeId} {k k' : IntKind} {m n : Int} {x : Value} (hk : intBin op k m k' n = some x) : (binOp op t (.int k m) (.int k' n)).run P w = .ok x w := by
 unfold intBin at hk
 cases op <;> simp only at hk <;> first
  | exact pure?_ok hk
  | (split at hk
     · next he => subst he; simp only [binOp, ne_eq, not_true_eq_false, if_false]; exact pure?_ok hk
     · cases hk)
theorem guard_int {op : BinOp} {t : TypeId} {x y : Operand} {k k' : IntKind} {m n : Int} : (eqGuard op t x y (.int k m) (.int k' n)).run P w = .ok () w := by
 unfold eqGuard
 cases op <;> rfl
theorem eqSlice {d : Nat} {t el : TypeId} {a : Addr} {l c l' c' : Nat} (hu : P.underlying t = some (.slice el)) : (Op.equalIn (d + 1) t (.slice (some a) l c) (.slice none l' c')).run P w = .ok false w := by
 unfold Op.equalIn
 simp only [Sem.run_bind, run_und hu, Result.andThen_ok]
 rfl
theorem eqPtr {d : Nat} {t el : TypeId} {a : Addr} (hu : P.underlying t = some (.pointer el)) : (Op.equalIn (d + 1) t (.pointer (some a)) (.pointer none)).run P w = .ok false w := by
 unfold Op.equalIn
 simp only [Sem.run_bind, run_und hu, Result.andThen_ok]
 rfl
theorem cmpNil_ok {op : BinOp} {t : TypeId} {x y : Operand} {a b : V} {p q : Value} {z : Bool} (hp : VR e a p) (hq : VR e b q) (k : cmpNil P op t a b = some z) : (do eqGuard op t x y p q; binOp op t p q : Sem Value).run P w = .ok (.bool z) w := by
 unfold cmpNil at k
 split at k
 · rename_i el b off len cap hid l c hu
   cases k
   rw [(VR_slc.1 hp).2, VR_lit.1 hq]
   show ((do pure (.bool (<- Op.equalIn 10000 t _ _)) : Sem Value)).run P w = _
   simp only [Sem.run_bind]
   rw [eqSlice (d := 9999) hu]
   rfl
 · rename_i el b off len cap hid l c hu
   cases k
   rw [(VR_slc.1 hp).2, VR_lit.1 hq]
   show ((do pure (.bool (!(<- Op.equalIn 10000 t _ _))) : Sem Value)).run P w = _
   simp only [Sem.run_bind]
   rw [eqSlice (d := 9999) hu]
   rfl
 · rename_i el b off hu
   cases k
   rw [(VR_ptr.1 hp).2, VR_lit.1 hq]
   show ((do pure (.bool (<- Op.equalIn 10000 t _ _)) : Sem Value)).run P w = _
   simp only [Sem.run_bind]
   rw [eqPtr (d := 9999) hu]
   rfl
 · rename_i el b off hu
   cases k
   rw [(VR_ptr.1 hp).2, VR_lit.1 hq]
   show ((do pure (.bool (!(<- Op.equalIn 10000 t _ _))) : Sem Value)).run P w = _
   simp only [Sem.run_bind]
   rw [eqPtr (d := 9999) hu]
   rfl
 · cases k
theorem bin_ok {op : BinOp} {t : TypeId} {x y : Operand} {a b : V} {p q : Value} (r : Rel P e h w) (hp : VR e a p) (hq : VR e b q) (k : opBin P op t x y a b = .ok v) : Does P (do eqGuard op t x y p q; binOp op t p q) h e w h v := by
 unfold opBin at k
 cases ha : a.plain with
 | none =>
   rw [ha] at k
   obtain ⟨z, hz, k⟩ := eo_ok k
   cases k
   exact Does.pure r (cmpNil_ok hp hq hz) (VR_lit.2 rfl)
 | some a' =>
   rw [ha] at k
   obtain ⟨b', hb, k⟩ := eo_ok k
   obtain ⟨z, hz, k⟩ := eo_ok k
   cases k
   have e1 := plain_VR ha hp
   have e2 := plain_VR hb hq
   subst e1 e2
   refine Does.pure r (x := z) ?_ (VR_lit.2 rfl)
   unfold litBin at hz
   split at hz
   · simp only [Sem.run_bind, guard_int, Result.andThen_ok]
     exact intBin_ok hz
   · exact prun_ok P w _ _ hz
theorem lenV_ok {a : V} {y : Value} {n : Nat} (hy : VR e a y) (k : lenV a = .ok n) : (Builtin.lenOf y).run P w = .ok n w := by
 unfold lenV at k
 split at k
 · cases k; rw [VR_lit.1 hy]; rfl
 · cases k; rw [(VR_slc.1 hy).2]; rfl
 · cases k; rw [VR_lit.1 hy]; rfl
 · cases k
theorem first_ok {a : V} {y : Value} {s n : Nat} {cs : List V} (r : Rel P e h w) (hy : VR e a y) (k : firstCellsT h s n a = .ok cs) : ∃ l : List Value, (Builtin.firstCells s n y).run P w = .ok l.toArray w /\ VRs e cs l := by
 unfold firstCellsT at k
 split at k
 · rename_i b off len cap hid
   split at k
   · rename_i c el hb
     obtain ⟨q, hq, k⟩ := eo_ok k
     cases k
     obtain ⟨-, l, rest, h2, h3, -⟩ := block_at r hb
     obtain ⟨rfl, hlen⟩ := takeN_some hq
     have hl := VRs_len h3
     rw [(VR_slc.1 hy).2]
     refine ⟨(l.drop off).take (n * s), ?_, VRs_take _ (VRs_drop off h3)⟩
     simp only [Builtin.firstCells]
     rcases hlen with h0 | hlen
     · rw [h0]; simp [loadCells, loadCellsFrom]
     · rw [load_run h2 (by simp; omega), List.drop_append_of_le_length (by omega), List.take_append_of_le_length (by simp; omega)]
   · cases k
 · obtain ⟨h0, k⟩ := ec_ok k
   cases k
   rw [VR_lit.1 hy]
   exact ⟨[], rfl, VRs_nil.2 rfl⟩
 · rename_i b
   cases k
   rw [VR_lit.1 hy]
   refine ⟨(b.data.toList.take n).map fun x => .int .u8 x.toNat, ?_, ?_⟩
   · simp only [Builtin.firstCells, Sem.run_pure]
     congr 1
     apply Array.toList_inj.1
     simp [ByteArray.extract, ByteArray.copySlice]
   · have := VRs_lits (e := e) ((b.data.toList.take n).map fun x => (.int .u8 x.toNat : Value))
     simpa [List.map_map, Function.comp_def] using this
 · cases k
end
end
section
set_option linter.unusedSimpArgs false
set_option linter.unusedVariables false
open Go Go.RowKit
theorem lay_eq {α : Type} : ∀ (vs l : List α) (i : Nat), i + vs.length <= l.length -> lay l i vs = l.take i ++ vs ++ l.drop (i + vs.length)
 | [], l, i, _ => by simp [lay]
 | v :: vs, l, i, h => by
   simp only [List.length_cons] at h
   show lay (l.set i v) (i + 1) vs = _
   rw [lay_eq vs _ _ (by simp; omega)]
   have h1 : (l.set i v).take (i + 1) = l.take i ++ [v] := by
    rw [List.take_add_one, List.take_set_of_le (Nat.le_refl i), List.getElem?_set_self (by omega)]
    rfl
   have h2 : (l.set i v).drop (i + 1 + vs.length) = l.drop (i + (vs.length + 1)) := by
    rw [List.drop_set_of_lt (by omega)]
    congr 1
    omega
   rw [h1, h2]
   simp
theorem growBy_le (N : Nat) : ∀ (r c : Nat), Builtin.growBy N r c <= Nat.max c (N + (N + 768) / 4)
 | 0, c => Nat.le_max_left _ _
 | r + 1, c => by
   unfold Builtin.growBy
   split
   · exact Nat.le_max_left _ _
   · have := growBy_le N r (c + (c + 768) / 4)
     have h2 : Nat.max (c + (c + 768) / 4) (N + (N + 768) / 4) <= N + (N + 768) / 4 := Nat.max_le.2 ⟨by omega, Nat.le_refl _⟩
     exact Nat.le_trans this (Nat.le_trans h2 (Nat.le_max_right _ _))
theorem next_le {N C : Nat} (h : C < N) : Builtin.nextslicecap N C <= 2 * N + 200 := by
 unfold Builtin.nextslicecap
 split
 · omega
 · split
   · omega
   · have := growBy_le N 4 C
     have h2 : Nat.max C (N + (N + 768) / 4) <= N + (N + 768) / 4 := Nat.max_le.2 ⟨by omega, Nat.le_refl _⟩
     have h3 : Builtin.growBy N 4 C <= N + (N + 768) / 4 := Nat.le_trans this h2
     omega
section
variable {P : Program} {e : Env} {h h' : H} {w : World} {v : V}
theorem grow_ok {el : TypeId} {cs : List V} {l rest : List Value} {b k s : Nat} (r : Rel P e h w) (hl : VRs e cs l) (hs : sizeT P el = some s) (hr : rest.length = k * s) (kk : opNew h el cs = .ok (b, h')) :
  ∃ e', (newRow el (l ++ rest).toArray).run P w = .ok ⟨e'.σ b, 0, none⟩ (w.alloc (.cells (l ++ rest).toArray el)) /\ Rel P e' h' (w.alloc (.cells (l ++ rest).toArray el)) /\ Step h e w h' e' (w.alloc (.cells (l ++ rest).toArray el)) /\ e'.dom b /\ e'.κ b = k := by
 unfold opNew at kk
 obtain ⟨-, kk⟩ := ec_ok kk
 rw [fVs_eq, newK_eq] at kk
 cases kk
 have hn : ¬ e.dom h.n := fun hd => by have := r.lt _ hd; omega
 obtain ⟨g1, g2, g3, g4, g5⟩ := rel_new (o := .cells cs el) (x := .cells (l ++ rest).toArray el) k r ⟨l, rest, rfl, hl.mono (Env.le_more hn), fun s' hs' => by rw [hs] at hs'; cases hs'; rw [hr]; simp [Env.more]⟩
 exact ⟨_, by simp [newRow, g4], g1, g2, g3, g5⟩
theorem inplace_ok {el : TypeId} {c new : List V} {l rest ln : List Value} {b nb s K len need cap : Nat} {h1 : H} {w' : World} (r : Rel P e h w) (hb : h.get b = some (.cells c el)) (hc : c.length = cap * s)
  (hw : w.heap[e.σ b]? = some (.cells (l ++ rest).toArray el (0, 0))) (h3 : VRs e c l) (h4 : rest.length = K * s) (hK : e.κ b = K) (hs : sizeT P el = some s) (hn : VRs e new ln) (hln : ln.length = (need - len) * s) (hlen : len <= need) (hneed : need <= cap + K) (hlc : len <= cap)
  (k1 : h.set b none = .ok h1) (k2 : opNew h1 el ((c.drop 0).take (len * s) ++ new) = .ok (nb, h'))
  (hat : w'.heap[e.σ b]? = some (.cells (lay (l ++ rest) (len * s) ln).toArray el (0, 0))) (o : One (e.σ b) w w') :
  ∃ e', Rel P e' h' w' /\ Step h e w h' e' w' /\ e'.dom nb /\ e'.σ nb = e.σ b /\ e'.κ nb = cap + K - need := by
 obtain ⟨hf, rfl⟩ := set_ok k1
 unfold opNew at k2
 obtain ⟨-, k2⟩ := ec_ok k2
 rw [fVs_eq, newK_eq] at k2
 cases k2
 have hnd : ¬ e.dom h.n := fun hd => by have := r.lt _ hd; omega
 have hle : Le e (e.more h.n (e.σ b) (cap + K - need)) := Env.le_more hnd
 have hσ : (e.more h.n (e.σ b) (cap + K - need)).σ h.n = e.σ b := by simp [Env.more]
 have hκ : (e.more h.n (e.σ b) (cap + K - need)).κ h.n = cap + K - need := by simp [Env.more]
 have hd := (r.at_ b _ hb).1
 have hl := VRs_len h3
 have hmul : need * s <= (cap + K) * s := Nat.mul_le_mul_right s hneed
 have hlm : len * s <= need * s := Nat.mul_le_mul_right s hlen
 have hlc' : len * s <= cap * s := Nat.mul_le_mul_right s hlc
 rw [Nat.add_mul] at hmul
 have hsub : (need - len) * s = need * s - len * s := Nat.sub_mul _ _ _
 have hall : (l ++ rest).length = cap * s + K * s := by simp; omega
 refine ⟨e.more h.n (e.σ b) (cap + K - need), ⟨fun i hi => ?_, fun i hi => ?_, fun i q hi => ?_, fun i j q1 q2 hi hj he => ?_⟩, ⟨hle, Nat.le_succ _, rfl, rfl, fun i hi => ?_, fun i hi hni => ?_, o.os, o.tape, o.output, by rw [o.size]; exact Nat.le_refl _, fun i hi hni => o.oth i fun e' => hni b hd hf e'.symm⟩, .inl rfl, hσ, hκ⟩
 · rcases hi with rfl | hi
   · exact Nat.lt_succ_self _
   · exact Nat.lt_succ_of_lt (r.lt i hi)
 · rw [o.size]
   rcases hi with rfl | hi
   · rw [hσ]; exact r.old b hd
   · rw [hle.σ i hi]; exact r.old i hi
 · by_cases hin : i = h.n
   · subst hin
     unfold H.with at hi
     rw [get_set_same] at hi
     cases hi
     refine ⟨.inl rfl, _, by rw [hσ]; exact hat, l.take (len * s) ++ ln, (l ++ rest).drop (need * s), ?_, ?_, fun s' hs' => ?_⟩
     · rw [lay_eq _ _ _ (by rw [hall, hln]; omega)]
       congr 2
       rw [List.take_append_of_le_length (by omega), hln]
       congr 2
       omega
     · rw [List.drop_zero]
       exact VRs_append ((VRs_take _ h3).mono hle) (hn.mono hle)
     · rw [hs] at hs'
       cases hs'
       rw [hκ, List.length_drop, hall, Nat.sub_mul, Nat.add_mul]
   · unfold H.with at hi
     rw [get_set_other _ _ _ _ _ hin] at hi
     by_cases hib : i = b
     · subst hib
       rw [get_set_same] at hi
       cases hi
     · rw [get_set_other _ _ _ _ _ hib] at hi
       obtain ⟨a1, y, a2, a3⟩ := r.at_ i q hi
       refine ⟨.inr a1, y, ?_, a3.mono hle a1⟩
       rw [hle.σ i a1, o.oth _ fun e' => hib (r.inj i b q _ hi hb e')]
       exact a2
 · have old : ∀ i q, i ≠ h.n -> (H.with ⟨h.n, h.p, h.x, Tr.setP none (Tr.path b) h.m⟩ (.cells ((c.drop 0).take (len * s) ++ new) el)).get i = some q -> i ≠ b /\ h.get i = some q := fun i q hin hi => by
    unfold H.with at hi
    rw [get_set_other _ _ _ _ _ hin] at hi
    by_cases hib : i = b
    · subst hib
      rw [get_set_same] at hi
      cases hi
    · rw [get_set_other _ _ _ _ _ hib] at hi
      exact ⟨hib, hi⟩
   by_cases hin : i = h.n
   · by_cases hjn : j = h.n
     · rw [hin, hjn]
     · exfalso
       obtain ⟨a1, a2⟩ := old j q2 hjn hj
       rw [hin, hσ, hle.σ j (r.at_ j q2 a2).1] at he
       exact a1 (r.inj j b q2 _ a2 hb he.symm)
   · obtain ⟨a1, a2⟩ := old i q1 hin hi
     by_cases hjn : j = h.n
     · exfalso
       rw [hjn, hσ, hle.σ i (r.at_ i q1 a2).1] at he
       exact a1 (r.inj i b q1 _ a2 hb he)
     · obtain ⟨b1, b2⟩ := old j q2 hjn hj
       rw [hle.σ i (r.at_ i q1 a2).1, hle.σ j (r.at_ j q2 b2).1] at he
       exact r.inj i j q1 q2 a2 b2 he
 · rcases hi with rfl | hi
   · exact .inr ⟨Nat.le_refl _, Nat.lt_succ_self _⟩
   · exact .inl hi
 · rcases hi with rfl | hi
   · exact .inr ⟨b, hd, hf, hσ⟩
   · exact absurd hi hni
end
end
section
set_option linter.unusedSimpArgs false
set_option linter.unusedVariables false
open Go Go.RowKit
section
variable {P : Program} {e : Env} {h h' : H} {w : World} {v : V}
theorem fit_run {t t' ty el : TypeId} {d : TypeDesc} {k off len C n s : Nat} {yx : Value} {ln : List Value} {w' : World} (hu : P.underlying t = some (.slice el)) (hd : P.underlying t' = some d) (hd2 : ∀ k, d ≠ .int k) (hs : sizeT P el = some s) (hlen : (Builtin.lenOf yx).run P w = .ok n w) (hc : (Builtin.firstCells s n yx).run P w = .ok ln.toArray w)
  (hneed : len + n <= C) (hst : (storeCells ⟨k, off + len * s, none⟩ ln).run P w = .ok () w') :
  (Builtin.append_ #[t, t'] ty #[.slice (some ⟨k, off, none⟩) len C, yx]).run P w = .ok (.slice (some ⟨k, off, none⟩) (len + n) C) w' := by
 unfold Builtin.append_
 simp only [List.getElem?_toArray, List.getElem?_cons_zero, List.getElem?_cons_succ, Sem.run_bind, run_und hu, Result.andThen_ok, run_size hs, run_und hd, Sem.run_pure]
 cases d <;> first
  | exact absurd rfl (hd2 _)
  | simp only [Bool.false_eq_true, if_false, Sem.run_bind, hlen, Result.andThen_ok, if_pos hneed, Bool.not_false, if_true, hc, add_at, hst, Sem.run_pure]
theorem nil_run {t t' ty el : TypeId} {d : TypeDesc} {s : Nat} {yx : Value} {ln : List Value} (hu : P.underlying t = some (.slice el)) (hd : P.underlying t' = some d) (hd2 : ∀ k, d ≠ .int k) (hs : sizeT P el = some s) (hlen : (Builtin.lenOf yx).run P w = .ok 0 w) (hc : (Builtin.firstCells s 0 yx).run P w = .ok ln.toArray w) :
  (Builtin.append_ #[t, t'] ty #[.slice none 0 0, yx]).run P w = .ok (.slice none 0 0) w := by
 unfold Builtin.append_
 simp only [List.getElem?_toArray, List.getElem?_cons_zero, List.getElem?_cons_succ, Sem.run_bind, run_und hu, Result.andThen_ok, run_size hs, run_und hd, Sem.run_pure]
 cases d <;> first
  | exact absurd rfl (hd2 _)
  | simp only [Bool.false_eq_true, if_false, Sem.run_bind, hlen, Result.andThen_ok, Nat.add_zero, Nat.le_refl, if_true, Bool.not_false, hc, Sem.run_pure]
theorem over_run {t t' ty el : TypeId} {d : TypeDesc} {base : Option Addr} {len C n s by_ : Nat} {z : V} {yx : Value} {lo ln : List Value} (hu : P.underlying t = some (.slice el)) (hd : P.underlying t' = some d) (hd2 : ∀ k, d ≠ .int k) (hs : sizeT P el = some s) (hby : bytesT P el = some by_) (hz : zeroT P el = some z) (hzl : z.cells.length = s)
  (hlen : (Builtin.lenOf yx).run P w = .ok n w) (hc : ∀ w' : World, w'.heap = w.heap -> (Builtin.firstCells s n yx).run P w' = .ok ln.toArray w') (ho : ∀ w' : World, w'.heap = w.heap -> (Builtin.firstCells s len (.slice base len C)).run P w' = .ok lo.toArray w')
  (hneed : C < len + n) (hbig : (len + n) * (by_ + 1) < 1000000) :
  ∃ NC rest, len + n <= NC /\ rest.length = (NC - (len + n)) * s /\ ∀ a w', (newRow el (lo ++ ln ++ rest).toArray).run P w.drew = .ok a w' -> (Builtin.append_ #[t, t'] ty #[.slice base len C, yx]).run P w = .ok (.slice (some a) (len + n) NC) w' := by
 obtain ⟨x, hx, rfl⟩ := run_zero hz
 obtain ⟨i, hi, rfl⟩ := run_bytes (w := w) hby
 have hi' : ∀ w', (typeInfo el).run P w' = .ok i w' := fun w' => by
  unfold typeInfo at hi ⊢
  simp only [Sem.run_bind, run_program, Result.andThen_ok] at hi ⊢
  cases hI : P.info? el with
  | none => rw [hI] at hi; cases hi
  | some j => rw [hI] at hi; cases hi; rfl
 have hcell : x.cells.size = s := by
  have := VRs_len (cells_VR (e := ⟨id, id, fun _ => False⟩) (VR_ofV x))
  rw [<- Array.length_toList]
  omega
 refine ⟨(Question.appendCap (len + n) C el).cut (w.tape w.drawn (.appendCap (len + n) C el)), (Builtin.zeroCells x.cells ((Question.appendCap (len + n) C el).cut (w.tape w.drawn (.appendCap (len + n) C el)) - (len + n))).toList, by simp [Question.cut], by simp [Builtin.zeroCells, hcell], fun a w' hr => ?_⟩
 have hmul : len + n <= (len + n) * (i.bytes + 1) := Nat.le_mul_of_pos_right _ (by omega)
 have hN : len + n < 1000000 := by omega
 have hb1 : (len + n) * i.bytes < 1000000 := by rw [Nat.mul_add] at hbig; omega
 have hg1 : ¬ (((len + n : Nat) : Int) > IntKind.i64.max /\ (False ∨ i.bytes = 0)) := by
  rintro ⟨hg, -⟩
  have : IntKind.i64.max = 9223372036854775807 := rfl
  omega
 have hbb : i.bytes < 1000000 := by
  have : 0 < len + n := by omega
  have := Nat.le_mul_of_pos_left i.bytes this
  omega
 have hg2 : ¬ (Builtin.nextslicecap (len + n) C * i.bytes > 2 ^ 48) := by
  have h1 := Nat.mul_le_mul_right i.bytes (next_le hneed)
  have h2 : (2 * (len + n) + 200) * i.bytes = 2 * ((len + n) * i.bytes) + 200 * i.bytes := by rw [Nat.add_mul, Nat.mul_assoc]
  omega
 have hforced : (Question.appendCap (len + n) C el).forced = false := rfl
 unfold Builtin.append_
 simp only [List.getElem?_toArray, List.getElem?_cons_zero, List.getElem?_cons_succ, Sem.run_bind, run_und hu, Result.andThen_ok, run_size hs, run_und hd, Sem.run_pure]
 cases d <;> first
  | exact absurd rfl (hd2 _)
  | (simp only [Bool.false_eq_true, if_false, Sem.run_bind, hlen, Result.andThen_ok, if_neg (Nat.not_le.2 hneed), hi', if_neg hg1, if_neg hg2, run_choose, hforced, run_askRoom, ho w.drew rfl, Bool.not_false, if_true, hc w.drew rfl, hx, World.drew_eq]
     rw [show (lo.toArray ++ ln.toArray ++ Builtin.zeroCells x.cells ((Question.appendCap (len + n) C el).cut (w.tape w.drawn (.appendCap (len + n) C el)) - (len + n))) = (lo ++ ln ++ (Builtin.zeroCells x.cells ((Question.appendCap (len + n) C el).cut (w.tape w.drawn (.appendCap (len + n) C el)) - (len + n))).toList).toArray by simp, hr]
     rfl)
theorem notInt {t' : TypeId} (k : (match P.underlying t' with | some (.int _) => false | some _ => true | none => false) = true) : ∃ d, P.underlying t' = some d /\ ∀ q, d ≠ .int q := by
 cases hu : P.underlying t' with
 | none => rw [hu] at k; cases k
 | some d =>
   refine ⟨d, rfl, fun q hq => ?_⟩
   subst hq
   rw [hu] at k
   cases k
theorem zero_cells {a : V} {y : Value} (s : Nat) (hy : VR e a y) (k : lenV a = .ok 0) : ∃ l : List Value, (Builtin.firstCells s 0 y).run P w = .ok l.toArray w := by
 unfold lenV at k
 split at k
 · rw [VR_lit.1 hy]; exact ⟨[], rfl⟩
 · rw [(VR_slc.1 hy).2]; exact ⟨[], by simp [Builtin.firstCells, loadCells, loadCellsFrom]⟩
 · rename_i q
   rw [VR_lit.1 hy]
   exact ⟨((q.extract 0 0).data.map fun b => (.int .u8 b.toNat : Value)).toList, by simp [Builtin.firstCells]⟩
 · cases k
theorem append_ok {ats : List TypeId} {ty : TypeId} {vs : List V} {xs : List Value} (r : Rel P e h w) (hxs : VRs e vs xs) (k : opAppend P ats vs h = .ok (v, h')) : Does P (Builtin.append_ ats.toArray ty xs.toArray) h e w h' v := by
 unfold opAppend at k
 split at k
 · rename_i t t' s x
   obtain ⟨ys, l1, rfl, hs0, hl1⟩ := VRs_cons.1 hxs
   obtain ⟨yx, l2, rfl, hx0, hl2⟩ := VRs_cons.1 hl1
   have hl3 := VRs_nil.1 hl2
   subst hl3
   cases hu : P.underlying t with
   | none => rw [hu] at k; cases k
   | some d =>
     rw [hu] at k
     cases d <;> simp only at k <;> try (cases k; done)
     rename_i el
     obtain ⟨hni, k⟩ := ec_ok k
     obtain ⟨d', hd, hd2⟩ := notInt hni
     obtain ⟨sz, hsz, k⟩ := eo_ok k
     obtain ⟨by_, hby, k⟩ := eo_ok k
     obtain ⟨z, hz, k⟩ := eo_ok k
     obtain ⟨n, hn, k⟩ := eb_ok k
     obtain ⟨hb, k⟩ := ec_ok k
     rw [Bool.and_eq_true] at hb
     have s0 : 0 < sz := Nat.lt_of_succ_le (Nat.le_of_ble_eq_true hb.1)
     have hzl := Nat.eq_of_beq_eq_true hb.2
     have hlen := fun w : World => lenV_ok (P := P) (w := w) hx0 hn
     split at k
     · -- nothing was there
       have hy := VR_lit.1 hs0
       subst hy
       split at k
       · next h0 =>
         cases k
         have h0' := Nat.eq_of_beq_eq_true h0
         subst h0'
         have hf := zero_cells (P := P) (w := w) sz hx0 hn
         obtain ⟨l, hf⟩ := hf
         exact Does.pure r (nil_run hu hd hd2 hsz (hlen w) hf) (VR_lit.2 rfl)
       · next h0 =>
         obtain ⟨hbig, k⟩ := ec_ok k
         obtain ⟨new, hnew, k⟩ := eb_ok k
         obtain ⟨⟨b, h2⟩, hnw, k⟩ := eb_ok k
         cases k
         have hbig' : n * (by_ + 1) < 1000000 := Nat.lt_of_succ_le (Nat.le_of_ble_eq_true hbig)
         obtain ⟨ln, _, hlv⟩ := first_ok r hx0 hnew
         have hfc : ∀ w' : World, w'.heap = w.heap -> (Builtin.firstCells sz n yx).run P w' = .ok ln.toArray w' := fun w' he => by
          have r' : Rel P e h w' := ⟨r.lt, fun b hb => by rw [he]; exact r.old b hb, fun b o hb => by rw [he]; exact r.at_ b o hb, r.inj⟩
          obtain ⟨ln', f1, f2⟩ := first_ok r' hx0 hnew
          rw [VRs_uniq _ _ _ hlv f2]
          exact f1
         have hn0 : 0 < n := by
          rcases Nat.eq_zero_or_pos n with h | h
          · subst h; exact absurd (Nat.beq_refl 0) h0
          · exact h
         obtain ⟨NC, rest, q1, q2, q3⟩ := over_run (ty := ty) (base := none) (len := 0) (C := 0) (lo := []) hu hd hd2 hsz hby hz hzl (hlen w) hfc (fun w' _ => rfl) (by omega) (by simpa using hbig')
         obtain ⟨e', g1, g2, g3, g4, g5⟩ := grow_ok (k := NC - (0 + n)) (r.drew) hlv hsz q2 hnw
         refine ⟨_, _, q3 _ _ (by simpa using g1), e', g2, (Step.drew h e w).trans g3, VR_slc.2 ⟨g4, ?_⟩⟩
         rw [g5]
         simp only [if_true]
         congr 1
         · omega
         · omega
     · rename_i b off len cap hid z1 z2 z3 z4 z5 z6
       obtain ⟨hdm, rfl⟩ := VR_slc.1 hs0
       split at k
       · next hle =>
         have hle' := Nat.le_of_ble_eq_true hle
         obtain ⟨new, hnew, k⟩ := eb_ok k
         obtain ⟨h2, hst, k⟩ := eb_ok k
         cases k
         obtain ⟨ln, hf, hlv⟩ := first_ok r hx0 hnew
         obtain ⟨w', r1, r2, r3⟩ := storeAt_ok r hlv hst
         exact ⟨_, _, fit_run hu hd hd2 hsz (hlen w) hf (by omega) r1, e, r2, r3, VR_slc.2 ⟨hdm, rfl⟩⟩
       · next hle =>
         have hgt : cap < len + n := by
          rcases Nat.lt_or_ge cap (len + n) with h | h
          · exact h
          · exact absurd (Nat.ble_eq_true_of_le h) hle
         obtain ⟨hbig, k⟩ := ec_ok k
         have hbig' : (len + n) * (by_ + 1) < 1000000 := Nat.lt_of_succ_le (Nat.le_of_ble_eq_true hbig)
         obtain ⟨old, hold, k⟩ := eb_ok k
         obtain ⟨new, hnew, k⟩ := eb_ok k
         obtain ⟨ln, hf, hlv⟩ := first_ok r hx0 hnew
         obtain ⟨lo, hfo, hlo⟩ := first_ok r hs0 hold
         have r' : ∀ w' : World, w'.heap = w.heap -> Rel P e h w' := fun w' he => ⟨r.lt, fun b hb => by rw [he]; exact r.old b hb, fun b o hb => by rw [he]; exact r.at_ b o hb, r.inj⟩
         have hfc : ∀ w' : World, w'.heap = w.heap -> (Builtin.firstCells sz n yx).run P w' = .ok ln.toArray w' := fun w' he => by
          obtain ⟨ln', f1, f2⟩ := first_ok (r' w' he) hx0 hnew
          rw [VRs_uniq _ _ _ hlv f2]
          exact f1
         have hfo' : ∀ C (w' : World), w'.heap = w.heap -> (Builtin.firstCells sz len (.slice (some ⟨e.σ b, off, none⟩) len C)).run P w' = .ok lo.toArray w' := fun C w' he => by
          obtain ⟨lo', f1, f2⟩ := first_ok (r' w' he) hs0 hold
          rw [VRs_uniq _ _ _ hlo f2]
          exact f1
         cases hid with
         | false =>
           simp only [Bool.false_eq_true, if_false] at k
           obtain ⟨⟨nb, h2⟩, hnw, k⟩ := eb_ok k
           cases k
           obtain ⟨NC, rest, q1, q2, q3⟩ := over_run (ty := ty) (base := some ⟨e.σ b, off, none⟩) (len := len) (C := cap + 0) (lo := lo) hu hd hd2 hsz hby hz hzl (hlen w) hfc (hfo' _) (by omega) hbig'
           obtain ⟨e', g1, g2, g3, g4, g5⟩ := grow_ok (k := NC - (len + n)) (r.drew) (VRs_append hlo hlv) hsz q2 hnw
           refine ⟨_, _, q3 _ _ g1, e', g2, (Step.drew h e w).trans g3, VR_slc.2 ⟨g4, ?_⟩⟩
           rw [g5]
           simp only [if_true]
           congr 1
           omega
         | true =>
           simp only [if_true] at k
           cases hb' : h.get b with
           | none => rw [hb'] at k; cases k
           | some ob =>
             rw [hb'] at k
             cases ob with
             | cells c el' =>
               simp only at k
               obtain ⟨hoc, kk⟩ := ec_ok k
               clear k
               simp only [Bool.and_eq_true] at hoc
               obtain ⟨⟨o1, o2⟩, o3, o4⟩ := hoc
               have ho0 := Nat.eq_of_beq_eq_true o1
               subst ho0
               have hcl := Nat.eq_of_beq_eq_true o2
               have hel := Nat.eq_of_beq_eq_true o3
               subst hel
               have hnl := Nat.eq_of_beq_eq_true o4
               obtain ⟨h1, hset, kk⟩ := eb_ok kk
               obtain ⟨⟨nb, h2⟩, hnw, kk⟩ := eb_ok kk
               cases kk
               obtain ⟨-, l, rest, hw, h3, h4⟩ := block_at r hb'
               have hlnl := VRs_len hlv
               have hll := VRs_len h3
               obtain ⟨hoe, hlc⟩ : old = (c.drop 0).take (len * sz) /\ len <= cap := by
                simp only [firstCellsT, hb'] at hold
                obtain ⟨q, hq, hold⟩ := eo_ok hold
                cases hold
                obtain ⟨q1, q2⟩ := takeN_some hq
                refine ⟨q1, ?_⟩
                rcases q2 with q2 | q2
                · rcases Nat.mul_eq_zero.1 q2 with h | h <;> omega
                · rw [hcl, Nat.zero_add] at q2
                  exact Nat.le_of_mul_le_mul_right q2 s0
               by_cases hroom : len + n <= cap + e.κ b
               · have hm1 : (len + n) * sz <= (cap + e.κ b) * sz := Nat.mul_le_mul_right sz hroom
                 rw [Nat.add_mul, Nat.add_mul] at hm1
                 have hrl := h4 sz hsz
                 have hsc : ∀ x ∈ ln, x.oneCell' = true := by
                  unfold opNew at hnw
                  obtain ⟨hsc, -⟩ := ec_ok hnw
                  unfold scalars at hsc
                  rw [List.all_append, Bool.and_eq_true] at hsc
                  exact scalars_one hsc.2 hlv
                 obtain ⟨w', f1, f2, f3⟩ := storeCells_run (P := P) (off := 0 + len * sz) (rest := []) ln 0 w (l ++ rest) (by simpa using hw) (by simp; omega) hsc
                 rw [Nat.zero_add] at f1 f2
                 simp only [Nat.add_zero, List.append_nil] at f2
                 obtain ⟨e', g1, g2, g3, g4, g5⟩ := inplace_ok (K := e.κ b) (len := len) (need := len + n) (new := new) r hb' hcl hw h3 hrl rfl hsz hlv (by rw [hlnl, hnl]; congr 1; omega) (by omega) hroom hlc hset (by rw [<- hoe]; exact hnw) f2 f3
                 refine ⟨_, _, fit_run hu hd hd2 hsz (hlen w) hf (by simpa using hroom) (by rw [Nat.zero_add]; exact f1), e', g1, g2, VR_slc.2 ⟨g3, ?_⟩⟩
                 rw [g4, g5]
                 simp only [if_true]
                 congr 1
                 omega
               · obtain ⟨hfr, rfl⟩ := set_ok hset
                 obtain ⟨NC, rest', q1, q2, q3⟩ := over_run (ty := ty) (base := some ⟨e.σ b, 0, none⟩) (len := len) (C := cap + if true = true then e.κ b else 0) (lo := lo) hu hd hd2 hsz hby hz hzl (hlen w) hfc (hfo' _) (by simp; omega) hbig'
                 obtain ⟨e', g1, g2, g3, g4, g5⟩ := grow_ok (k := NC - (len + n)) (rel_drop (b := b) r.drew) (VRs_append hlo hlv) hsz q2 hnw
                 refine ⟨_, _, q3 _ _ g1, e', g2, ((Step.drew h e w).trans (step_drop h e w.drew b)).trans g3, VR_slc.2 ⟨g4, ?_⟩⟩
                 rw [g5]
                 simp only [if_true]
                 congr 1
                 omega
             | _ => simp only at k; cases k
     · cases k
 · cases k
end
end
section
set_option linter.unusedSimpArgs false
set_option linter.unusedVariables false
open Go Go.RowKit
section
variable {P : Program} {e : Env} {h h' : H} {w : World} {v : V}
theorem copy_ok {ats : List TypeId} {ty : TypeId} {vs : List V} {xs : List Value} (r : Rel P e h w) (hxs : VRs e vs xs) (k : opCopy P ats vs h = .ok (v, h')) : Does P (Builtin.copy_ ats.toArray ty xs.toArray) h e w h' v := by
 unfold opCopy at k
 split at k
 · rename_i t ts d x
   obtain ⟨yd, l1, rfl, hd0, hl1⟩ := VRs_cons.1 hxs
   obtain ⟨yx, l2, rfl, hx0, hl2⟩ := VRs_cons.1 hl1
   have hl3 := VRs_nil.1 hl2
   subst hl3
   cases hu : P.underlying t with
   | none => rw [hu] at k; cases k
   | some dd =>
     rw [hu] at k
     cases dd with
     | slice el =>
       simp only at k
       obtain ⟨sz, hsz, k⟩ := eo_ok k
       obtain ⟨dl, hdl, k⟩ := eb_ok k
       obtain ⟨xl, hxl, k⟩ := eb_ok k
       obtain ⟨cs, hcs, k⟩ := eb_ok k
       have hlen := lenV_ok (P := P) (w := w) hx0 hxl
       obtain ⟨ln, hf, hlv⟩ := first_ok r hx0 hcs
       cases d with
       | slc b off len cap hid =>
         simp only at k
         obtain ⟨hdm, rfl⟩ := VR_slc.1 hd0
         obtain ⟨h2, hst, k⟩ := eb_ok k
         cases k
         have hdl' : dl = len := by cases hdl; rfl
         subst hdl'
         obtain ⟨w', r1, r2, r3⟩ := storeAt_ok r hlv hst
         refine ⟨_, w', ?_, e, r2, r3, VR_lit.2 rfl⟩
         simp only [Builtin.copy_, List.getElem?_toArray, List.getElem?_cons_zero, List.getElem?_cons_succ, Sem.run_bind, run_und hu, Result.andThen_ok, hlen, run_size hsz, hf, Sem.run_pure]
         rw [r1]
         rfl
       | _ => simp only at k; cases k
     | _ => simp only at k; cases k
 · cases k
theorem len_ok {ats : List TypeId} {ty : TypeId} {vs : List V} {xs : List Value} (r : Rel P e h w) (hxs : VRs e vs xs) (k : opLen P ats vs h = .ok v) : Does P (Builtin.len_ ats.toArray ty xs.toArray) h e w h v := by
 unfold opLen at k
 split at k
 · rename_i t x
   obtain ⟨y, l1, rfl, hy, hl1⟩ := VRs_cons.1 hxs
   have hl3 := VRs_nil.1 hl1
   subst hl3
   cases x with
   | slc b off len cap hid =>
     simp only at k
     cases hu : P.underlying t with
     | none => rw [hu] at k; cases k
     | some d =>
       rw [hu] at k
       cases d <;> simp only at k <;> try (cases k; done)
       cases k
       obtain ⟨hd, rfl⟩ := VR_slc.1 hy
       refine Does.pure r (x := goInt len) ?_ (VR_lit.2 rfl)
       simp only [Builtin.len_, List.getElem?_toArray, List.getElem?_cons_zero, Sem.run_bind, run_und hu, Result.andThen_ok, Sem.run_pure]
   | map b =>
     simp only at k
     cases hu : P.underlying t with
     | none => rw [hu] at k; cases k
     | some d =>
       rw [hu] at k
       cases d with
       | map kt el =>
         cases hb : h.get b with
         | none => rw [hb] at k; cases k
         | some o =>
           rw [hb] at k
           cases o <;> simp only at k <;> try (cases k; done)
           rename_i es c
           cases k
           obtain ⟨-, l, h2, hE⟩ := map_at r hb
           obtain ⟨hd, rfl⟩ := VR_map.1 hy
           refine Does.pure r (x := goInt es.length) ?_ (VR_lit.2 rfl)
           have := EsR_len hE
           simp only [Builtin.len_, List.getElem?_toArray, List.getElem?_cons_zero, Sem.run_bind, run_und hu, Result.andThen_ok, getObj_run h2 (fun _ _ _ => by simp), Sem.run_pure, List.size_toArray, this]
       | _ => simp only at k; cases k
   | lit q =>
     simp only at k
     obtain ⟨z, hz, k⟩ := eo_ok k
     cases k
     rw [VR_lit.1 hy]
     exact Does.pure r (prun_ok P w _ _ hz) (VR_lit.2 rfl)
   | _ => simp only at k; cases k
 · cases k
theorem ofV_cells (x : Value) : (ofV x).cells = x.cells.toList.map .lit := by
 cases x <;> rfl
theorem clear_ok {ats : List TypeId} {ty : TypeId} {vs : List V} {xs : List Value} (r : Rel P e h w) (hxs : VRs e vs xs) (k : opClear P ats vs h = .ok (v, h')) : Does P (Builtin.clear_ ats.toArray ty xs.toArray) h e w h' v := by
 unfold opClear at k
 split at k
 · rename_i t x
   obtain ⟨y, l1, rfl, hy, hl1⟩ := VRs_cons.1 hxs
   have hl3 := VRs_nil.1 hl1
   subst hl3
   cases hu : P.underlying t with
   | none => rw [hu] at k; cases k
   | some d =>
     rw [hu] at k
     cases d with
     | slice el =>
       cases x with
       | slc b off n cap hid =>
         simp only at k
         obtain ⟨hd, rfl⟩ := VR_slc.1 hy
         obtain ⟨z, hz, k⟩ := eo_ok k
         obtain ⟨x, hzr, rfl⟩ := run_zero hz
         cases n with
         | zero =>
           cases k
           refine Does.pure r (x := .tuple #[]) ?_ (VR_tup.2 ⟨[], rfl, VRs_nil.2 rfl⟩)
           simp only [Builtin.clear_, List.getElem?_toArray, List.getElem?_cons_zero, Sem.run_bind, run_und hu, Result.andThen_ok, Sem.run_pure]
         | succ n =>
           obtain ⟨h2, hs, k⟩ := eb_ok k
           cases k
           have hc : VRs e (clearC (n + 1) (ofV x).cells) (Builtin.zeroCells x.cells (n + 1)).toList := by
            have e1 : clearC (n + 1) (ofV x).cells = (Builtin.zeroCells x.cells (n + 1)).toList.map .lit := by
             unfold clearC Builtin.zeroCells
             rw [ofV_cells, List.length_map, Array.length_toList, Array.toList_map, Array.toList_range, List.map_map]
             refine List.map_congr_left fun i hi => ?_
             have hi' := List.mem_range.1 hi
             have hpos : 0 < x.cells.size := by
              rcases Nat.eq_zero_or_pos x.cells.size with h0 | h0
              · rw [h0] at hi'; omega
              · exact h0
             have hlt : i % x.cells.size < x.cells.size := Nat.mod_lt _ hpos
             rw [List.getElem?_map, List.getElem?_eq_getElem (by simpa using hlt)]
             simp [Array.getElem!_eq_getD, Array.getD_eq_getD_getElem?, Array.getElem?_eq_getElem hlt]
            rw [e1]
            exact VRs_lits _
           obtain ⟨w', s1, s2, s3⟩ := storeAt_ok r hc hs
           refine ⟨.tuple #[], w', ?_, e, s2, s3, VR_tup.2 ⟨[], rfl, VRs_nil.2 rfl⟩⟩
           simp only [Builtin.clear_, List.getElem?_toArray, List.getElem?_cons_zero, Sem.run_bind, run_und hu, Result.andThen_ok, hzr, s1, Sem.run_pure]
       | lit u =>
         split at k
         · rename_i h1; cases h1
         · rename_i hq
           have := VR_lit.1 hy
           subst this
           cases hq
           cases k
           refine Does.pure r (x := .tuple #[]) ?_ (VR_tup.2 ⟨[], rfl, VRs_nil.2 rfl⟩)
           simp only [Builtin.clear_, List.getElem?_toArray, List.getElem?_cons_zero, Sem.run_bind, run_und hu, Result.andThen_ok, Sem.run_pure]
         · cases k
       | _ => simp only at k; cases k
     | _ => simp only at k; cases k
 · cases k
theorem builtin_ok {b : Builtin} {ats : Array TypeId} {ty : TypeId} {cs : Array Bool} {vs : List V} {xs : List Value} (r : Rel P e h w) (hxs : VRs e vs xs) (k : opBuiltin P b ats.toList vs h = .ok (v, h')) :
  ∃ x w', (builtin b ats ty cs xs.toArray).run P w = .ok (.value x) w' /\ Got P h e w h' v x w' := by
 have hv : ∀ {s : Sem Value}, builtin b ats ty cs xs.toArray = (do pure (.value (<- s))) -> Does P s h e w h' v -> ∃ x w', (builtin b ats ty cs xs.toArray).run P w = .ok (.value x) w' /\ Got P h e w h' v x w' := fun hs ⟨x, w', g1, g2⟩ => ⟨x, w', by rw [hs]; simp only [Sem.run_bind, g1, Result.andThen_ok, Sem.run_pure], g2⟩
 cases b <;> simp only [opBuiltin] at k <;> try (cases k; done)
 · have := append_ok (ty := ty) r hxs k
   simp only [Array.toArray_toList] at this
   exact hv rfl this
 · have := clear_ok (ty := ty) r hxs k
   simp only [Array.toArray_toList] at this
   exact hv rfl this
 · have := copy_ok (ty := ty) r hxs k
   simp only [Array.toArray_toList] at this
   exact hv rfl this
 · obtain ⟨u, hu, k⟩ := eb_ok k
   cases k
   have := len_ok (ty := ty) r hxs hu
   simp only [Array.toArray_toList] at this
   exact hv rfl this
 · obtain ⟨l, hl, k⟩ := eo_ok k
   obtain ⟨x, hx, k⟩ := eo_ok k
   cases k
   have := plains_VRs hl hxs
   subst this
   refine hv rfl (Does.pure r (x := x) ?_ (VR_lit.2 rfl))
   exact prun_ok P w _ _ hx
 · obtain ⟨l, hl, k⟩ := eo_ok k
   obtain ⟨x, hx, k⟩ := eo_ok k
   cases k
   have := plains_VRs hl hxs
   subst this
   refine hv rfl (Does.pure r (x := x) ?_ (VR_lit.2 rfl))
   exact prun_ok P w _ _ hx
end
end
section
set_option linter.unusedSimpArgs false
set_option linter.unusedVariables false
open Go Go.RowKit
section
variable {P : Program} {e : Env} {h h' : H} {w : World} {v : V}
def OpOk (P : Program) (o : Oper) (ρ : Operand -> Value) (h : H) (e : Env) (w : World) (h' : H) (v : V) : Prop :=
 ∃ x w', ((execOp ρ o).run P w = .ok (.value x) w' ∨ ((execOp ρ o).run P w = .ok .skip w' /\ x = undef)) /\ Got P h e w h' v x w'
theorem value_ok {o : Oper} {ρ : Operand -> Value} {s : Sem Value} (hs : execOp ρ o = (do pure (.value (<- s)))) (d : Does P s h e w h' v) : OpOk P o ρ h e w h' v := by
 obtain ⟨x, w', g1, g2⟩ := d
 exact ⟨x, w', .inl (by rw [hs]; simp only [Sem.run_bind, g1, Result.andThen_ok, Sem.run_pure]), g2⟩
theorem unit_ok {o : Oper} {ρ : Operand -> Value} {s : Sem Unit} (hs : execOp ρ o = (do s; pure .skip)) (hd : ∃ w', s.run P w = .ok () w' /\ Rel P e h' w' /\ Step h e w h' e w') : OpOk P o ρ h e w h' uV := by
 obtain ⟨w', g1, g2, g3⟩ := hd
 exact ⟨undef, w', .inr ⟨by rw [hs]; simp only [Sem.run_bind, g1, Result.andThen_ok, Sem.run_pure], rfl⟩, e, g2, g3, VR_lit.2 rfl⟩
theorem kU_ok {x : E H} (k : kU x = .ok (v, h')) : x = .ok h' /\ v = uV := by
 unfold kU at k
 obtain ⟨u, h1, h2⟩ := eb_ok k
 cases h2
 exact ⟨h1, rfl⟩
theorem nil_ok {a : Fr} {ρ : Operand -> Value} {x : Operand} {o : Oper} (ho : o.op = .nilCheck x) (r : Rel P e h w) (hx : ∀ u, ev a x = .ok u -> VR e u (ρ x)) (k : pNil a h x = .ok (v, h')) : OpOk P o ρ h e w h' v := by
 unfold pNil at k
 obtain ⟨kk, hh⟩ := kV_ok k
 clear k
 subst hh
 have k := kk
 clear kk
 obtain ⟨u, hu, k⟩ := eb_ok k
 have hv := hx u hu
 refine ⟨ρ x, w, .inl ?_, Got.same r ?_⟩
 · unfold execOp
   rw [ho]
   dsimp only
   cases u <;> simp only [kNil] at k <;> try (cases k; done)
   · rw [(VR_ptr.1 hv).2]; rfl
   · rw [(VR_slc.1 hv).2]; rfl
   · rw [(VR_map.1 hv).2]; rfl
   · obtain ⟨l, m, e1, -⟩ := VR_fn.1 hv
     rw [e1]; rfl
   · rw [(VR_yld.1 hv).2]; rfl
 · cases u <;> simp only [kNil] at k <;> (cases k) <;> exact hv
theorem evo_ok {a : Fr} {ρ : Operand -> Value} {o : Option Operand} {q : Option V} (hx : ∀ x, o = some x -> ∀ u, ev a x = .ok u -> VR e u (ρ x)) (k : evo a o = .ok q) : VRo e q (o.map ρ) := by
 cases o with
 | none => cases k; rfl
 | some x =>
   unfold evo at k
   obtain ⟨u, hu, k⟩ := eb_ok k
   cases k
   exact ⟨_, rfl, hx x rfl u hu⟩
theorem plain_ok {o : Oper} {a : Fr} {ρ : Operand -> Value} {go : Run} (r : Rel P e h w) (hops : OpsR e a ρ o.op.operands.toList) (hc : isCall o.op = false) (k : opW P go a o.op h = .ok (v, h')) : OpOk P o ρ h e w h' v := by
 obtain ⟨dst, op, ty, pos, after, guard⟩ := o
 cases op with
 | move x =>
   change pMove a h x = _ at k
   obtain ⟨kk, hh⟩ := kV_ok k
   clear k
   subst hh
   have k := kk
   clear kk
   exact ⟨ρ x, w, .inl rfl, Got.same r (hops x (by simp [Op.operands]) _ k)⟩
 | assign x =>
   change pMove a h x = _ at k
   obtain ⟨kk, hh⟩ := kV_ok k
   clear k
   subst hh
   have k := kk
   clear kk
   exact ⟨ρ x, w, .inl rfl, Got.same r (hops x (by simp [Op.operands]) _ k)⟩
 | pick c x y =>
   change pPick a h c x y = _ at k
   obtain ⟨kk, hh⟩ := kV_ok k
   clear k
   subst hh
   have k := kk
   clear kk
   obtain ⟨u, hu, k⟩ := eb_ok k
   have hcv := hops c (by simp [Op.operands]) _ hu
   unfold kPick at k
   split at k
   · have e1 := VR_lit.1 hcv
     refine ⟨ρ x, w, .inl ?_, Got.same r (hops x (by simp [Op.operands]) _ k)⟩
     simp [execOp, e1, asBool]
   · have e1 := VR_lit.1 hcv
     refine ⟨ρ y, w, .inl ?_, Got.same r (hops y (by simp [Op.operands]) _ k)⟩
     simp [execOp, e1, asBool]
   · cases k
 | alloc t => exact value_ok rfl (alloc_ok r k)
 | box t x =>
   change pBox a h t x = _ at k
   obtain ⟨u, hu, k⟩ := eb_ok k
   exact value_ok rfl (box_ok r (hops x (by simp [Op.operands]) _ hu) k)
 | build t ps =>
   change pBuild P a h t ps = _ at k
   obtain ⟨vs, hvs, k⟩ := eb_ok k
   obtain ⟨kk, hh⟩ := kV_ok k
   clear k
   subst hh
   have k := kk
   clear kk
   have hv := OpsR.evs (e := e) (ρ := ρ) (fun x hx => hops x (by simpa [Op.operands] using hx)) hvs
   obtain ⟨q1, q2⟩ := parts_split (a := a) hv
   exact value_ok rfl (build_ok r q1 q2 k)
 | buildSlice t n ps =>
   change pBuildSlice P a h t n ps = _ at k
   obtain ⟨vs, hvs, k⟩ := eb_ok k
   have hv := OpsR.evs (e := e) (ρ := ρ) (fun x hx => hops x (by simpa [Op.operands] using hx)) hvs
   obtain ⟨q1, q2⟩ := parts_split (a := a) hv
   exact value_ok rfl (buildSlice_ok r q1 q2 k)
 | insert t m c x =>
   change pUpdate P a h t m c x = _ at k
   obtain ⟨u1, h1, k⟩ := eb_ok k
   obtain ⟨u2, h2, k⟩ := eb_ok k
   obtain ⟨u3, h3, k⟩ := eb_ok k
   obtain ⟨kk, hh⟩ := kU_ok k
   clear k
   subst hh
   have k := kk
   clear kk
   exact unit_ok rfl (update_ok r (hops m (by simp [Op.operands]) _ h1) (hops c (by simp [Op.operands]) _ h2) (hops x (by simp [Op.operands]) _ h3) k)
 | load t x =>
   change pLoad P a h t x = _ at k
   obtain ⟨u, hu, k⟩ := eb_ok k
   obtain ⟨kk, hh⟩ := kV_ok k
   clear k
   subst hh
   have k := kk
   clear kk
   exact value_ok rfl (load_ok r (hops x (by simp [Op.operands]) _ hu) k)
 | store t x y =>
   change pStore P a h t x y = _ at k
   obtain ⟨u, hu, k⟩ := eb_ok k
   obtain ⟨u2, hu2, k⟩ := eb_ok k
   obtain ⟨kk, hh⟩ := kU_ok k
   clear k
   subst hh
   have k := kk
   clear kk
   exact unit_ok rfl (store_ok r (hops x (by simp [Op.operands]) _ hu) (hops y (by simp [Op.operands]) _ hu2) k)
 | nilCheck x => exact nil_ok rfl r (hops x (by simp [Op.operands])) k
 | binOp op t x y t2 =>
   change pBin P a h op t x y = _ at k
   obtain ⟨u, hu, k⟩ := eb_ok k
   obtain ⟨u2, hu2, k⟩ := eb_ok k
   obtain ⟨kk, hh⟩ := kV_ok k
   clear k
   subst hh
   have k := kk
   clear kk
   exact value_ok rfl (bin_ok r (hops x (by simp [Op.operands]) _ hu) (hops y (by simp [Op.operands]) _ hu2) k)
 | unOp op t x =>
   change pUn P a h op x = _ at k
   obtain ⟨u, hu, k⟩ := eb_ok k
   obtain ⟨q, hq, k⟩ := eo_ok k
   obtain ⟨z, hz, k⟩ := eo_ok k
   cases k
   have e1 := plain_VR hq (hops x (by simp [Op.operands]) _ hu)
   refine value_ok rfl (Does.pure r (x := z) ?_ (VR_lit.2 rfl))
   rw [e1]
   exact prun_ok P w _ _ hz
 | convert s d x =>
   change pConvert P a h s d x = _ at k
   obtain ⟨u, hu, k⟩ := eb_ok k
   obtain ⟨q, hq, k⟩ := eo_ok k
   obtain ⟨z, hz, k⟩ := eo_ok k
   cases k
   have e1 := plain_VR hq (hops x (by simp [Op.operands]) _ hu)
   refine value_ok rfl (Does.pure r (x := z) ?_ (VR_lit.2 rfl))
   rw [e1]
   exact prun_ok P w _ _ hz
 | makeFunc f first cap =>
   change pFunc a h f first cap = _ at k
   unfold pFunc at k
   cases f <;> simp only at k <;> try (cases k; done)
   rename_i f
   obtain ⟨fs, hfs, k⟩ := eb_ok k
   obtain ⟨cs, hcs, k⟩ := eb_ok k
   cases k
   have q1 := OpsR.evs (e := e) (ρ := ρ) (fun x hx => hops x (by simp [Op.operands] at hx ⊢; exact .inl hx)) hfs
   have q2 := OpsR.evs (e := e) (ρ := ρ) (fun x hx => hops x (by simp [Op.operands] at hx ⊢; exact .inr hx)) hcs
   refine value_ok rfl (Does.pure r (x := .func (.func f) (first.toList.map ρ).toArray (cap.toList.map ρ).toArray) ?_ (VR_fn.2 ⟨_, _, rfl, q1, q2⟩))
   simp only [Instr.makeFunc, Sem.run_pure]
   rw [show Array.map ρ first = (List.map ρ first.toList).toArray from Array.toList_inj.1 (by simp), show Array.map ρ cap = (List.map ρ cap.toList).toArray from Array.toList_inj.1 (by simp)]
 | makeMap t q =>
   change pMap P a h t q = _ at k
   unfold pMap at k
   cases q with
   | none =>
     simp only at k
     rw [newK_eq] at k
     cases k
     exact value_ok rfl (makeMap_ok r (.inl rfl))
   | some x =>
     simp only at k
     obtain ⟨u, hu, k⟩ := eb_ok k
     obtain ⟨n, hn, k⟩ := eb_ok k
     obtain ⟨q, hq⟩ := idx_ok hn (hops x (by simp [Op.operands]) _ hu)
     cases hun : P.underlying t with
     | none => rw [hun] at k; cases k
     | some d =>
       rw [hun] at k
       cases d <;> simp only at k <;> try (cases k; done)
       rw [newK_eq] at k
       cases k
       exact value_ok rfl (makeMap_ok r (.inr ⟨q, n, _, _, by simp [hq], hun⟩))
 | makeSlice t l c =>
   change pMakeSlice P a h t l c = _ at k
   obtain ⟨u, hu, k⟩ := eb_ok k
   obtain ⟨u2, hu2, k⟩ := eb_ok k
   exact value_ok rfl (makeSlice_ok r (hops l (by simp [Op.operands]) _ hu) (hops c (by simp [Op.operands]) _ hu2) k)
 | slice t x lo hi mx =>
   change pSlice P a h t x lo hi mx = _ at k
   obtain ⟨u, hu, k⟩ := eb_ok k
   obtain ⟨q1, h1, k⟩ := eb_ok k
   obtain ⟨q2, h2, k⟩ := eb_ok k
   obtain ⟨q3, h3, k⟩ := eb_ok k
   obtain ⟨kk, hh⟩ := kV_ok k
   clear k
   subst hh
   have k := kk
   clear kk
   exact value_ok rfl (slice_ok r (hops x (by simp [Op.operands]) _ hu) (evo_ok (fun y hy => hops y (by subst hy; simp [Op.operands])) h1) (evo_ok (fun y hy => hops y (by subst hy; simp [Op.operands])) h2) (evo_ok (fun y hy => hops y (by subst hy; simp [Op.operands])) h3) k)
 | fieldAddr s x f =>
   change pFieldAddr P a h s x f = _ at k
   obtain ⟨u, hu, k⟩ := eb_ok k
   obtain ⟨kk, hh⟩ := kV_ok k
   clear k
   subst hh
   have k := kk
   clear kk
   exact value_ok rfl (fieldAddr_ok r (hops x (by simp [Op.operands]) _ hu) k)
 | field s x f =>
   change pField P a h s x f = _ at k
   obtain ⟨u, hu, k⟩ := eb_ok k
   obtain ⟨kk, hh⟩ := kV_ok k
   clear k
   subst hh
   have k := kk
   clear kk
   exact value_ok rfl (field_ok r (hops x (by simp [Op.operands]) _ hu) k)
 | indexAddr t x i =>
   change pIndexAddr P a h t x i = _ at k
   obtain ⟨u, hu, k⟩ := eb_ok k
   obtain ⟨u2, hu2, k⟩ := eb_ok k
   obtain ⟨kk, hh⟩ := kV_ok k
   clear k
   subst hh
   have k := kk
   clear kk
   exact value_ok rfl (indexAddr_ok r (hops x (by simp [Op.operands]) _ hu) (hops i (by simp [Op.operands]) _ hu2) k)
 | index t x i =>
   change pIndex P a h t x i = _ at k
   obtain ⟨u, hu, k⟩ := eb_ok k
   obtain ⟨u2, hu2, k⟩ := eb_ok k
   obtain ⟨kk, hh⟩ := kV_ok k
   clear k
   subst hh
   have k := kk
   clear kk
   exact value_ok rfl (index_ok r (hops x (by simp [Op.operands]) _ hu) (hops i (by simp [Op.operands]) _ hu2) k)
 | lookup t x i ok =>
   change pLookup P a h t x i ok = _ at k
   obtain ⟨u, hu, k⟩ := eb_ok k
   obtain ⟨u2, hu2, k⟩ := eb_ok k
   obtain ⟨kk, hh⟩ := kV_ok k
   clear k
   subst hh
   have k := kk
   clear kk
   exact value_ok rfl (lookup_ok r (hops x (by simp [Op.operands]) _ hu) (hops i (by simp [Op.operands]) _ hu2) k)
 | mapUpdate t m c x =>
   change pUpdate P a h t m c x = _ at k
   obtain ⟨u1, h1, k⟩ := eb_ok k
   obtain ⟨u2, h2, k⟩ := eb_ok k
   obtain ⟨u3, h3, k⟩ := eb_ok k
   obtain ⟨kk, hh⟩ := kU_ok k
   clear k
   subst hh
   have k := kk
   clear kk
   exact unit_ok rfl (update_ok r (hops m (by simp [Op.operands]) _ h1) (hops c (by simp [Op.operands]) _ h2) (hops x (by simp [Op.operands]) _ h3) k)
 | range t x =>
   change pRange P a h t x = _ at k
   obtain ⟨u, hu, k⟩ := eb_ok k
   exact value_ok rfl (range_ok r (hops x (by simp [Op.operands]) _ hu) k)
 | next it s =>
   change pNext a h it s = _ at k
   obtain ⟨u, hu, k⟩ := eb_ok k
   exact value_ok rfl (next_ok r (hops it (by simp [Op.operands]) _ hu) k)
 | entry it =>
   change pEntry a h it = _ at k
   obtain ⟨kk, hh⟩ := kV_ok k
   clear k
   subst hh
   have k := kk
   clear kk
   obtain ⟨u, hu, k⟩ := eb_ok k
   exact value_ok rfl (entry_ok r (hops it (by simp [Op.operands]) _ hu) k)
 | extract x i =>
   change pExtract a h x i = _ at k
   obtain ⟨kk, hh⟩ := kV_ok k
   clear k
   subst hh
   have k := kk
   clear kk
   obtain ⟨u, hu, k⟩ := eb_ok k
   exact value_ok rfl (extract_ok r (hops x (by simp [Op.operands]) _ hu) k)
 | call c => cases hc
 | _ => cases k
end
end
section
set_option linter.unusedSimpArgs false
set_option linter.unusedVariables false
open Go Go.RowKit
structure FrR (e : Env) (a : Fr) (act : Act) : Prop where
 size : act.tmps.size = a.sz
 tmp : ∀ i, TR e ((a.t.get i).getD uV) (act.tmps.getD i undef)
 df : act.defers = a.df.map fun d => { target := .collected (e.σ d), args := #[] }
 dom : ∀ d ∈ a.df, e.dom d
 glob : ∀ g, g < a.gl -> e.dom g /\ e.σ g = g
theorem FrR.mono {e e' : Env} {a : Fr} {act : Act} (h : Le e e') (r : FrR e a act) : FrR e' a act :=
 ⟨r.size, fun i => (r.tmp i).mono h, by rw [r.df]; exact List.map_congr_left fun d hd => by rw [h.σ d (r.dom d hd)], fun d hd => h.dom d (r.dom d hd), fun g hg => ⟨h.dom g (r.glob g hg).1, by rw [h.σ g (r.glob g hg).1]; exact (r.glob g hg).2⟩⟩
theorem FrR.ev {e : Env} {a : Fr} {act : Act} (r : FrR e a act) (x : Operand) (v : V) (k : ev a x = .ok v) : VR e v (act.eval x) := by
 cases x with
 | tmp i => exact (r.tmp i).got k
 | const c => cases k; exact VR_ofV c
 | func f => cases k; exact VR_fn.2 ⟨[], [], rfl, VRs_nil.2 rfl, VRs_nil.2 rfl⟩
 | global g =>
   obtain ⟨h1, k⟩ := ec_ok k
   cases k
   have h2 := r.glob g (Nat.lt_of_succ_le (Nat.le_of_ble_eq_true h1))
   exact VR_ptr.2 ⟨h2.1, by rw [h2.2]; rfl⟩
theorem FrR.ops {e : Env} {a : Fr} {act : Act} (r : FrR e a act) (xs : List Operand) : OpsR e a act.eval xs := fun x _ v k => r.ev x v k
theorem br_true {β : Type} (x y : β) : Tr.br true x y = x := rfl
theorem br_false {β : Type} (x y : β) : Tr.br false x y = y := rfl
theorem putK_eq {β : Type} (a : Fr) (d : Option Tmp) (v : V) (k : Fr -> β) : a.putK d v k = k (a.put d v) := by
 obtain ⟨t, sz, df, gl⟩ := a
 cases d with
 | none => rfl
 | some d =>
   unfold Fr.putK Fr.put
   simp only
   cases Nat.blt d sz with
   | true =>
     rw [br_true, br_true, fV_eq, Tr.setK_eq]
     congr 1
     unfold Tr.set
     rw [Tr.setK_eq]
     rfl
   | false => rfl
theorem FrR.put {e : Env} {a : Fr} {act : Act} (r : FrR e a act) (d : Option Tmp) {v : V} {x : Value} (hv : VR e v x) : FrR e (a.put d v) (act.put d x) := by
 cases d with
 | none => exact r
 | some d =>
   unfold Fr.put
   simp only
   cases hb : Nat.blt d a.sz with
   | false =>
     have hge : ¬ d < act.tmps.size := fun h => by
      rw [r.size] at h
      have : Nat.blt d a.sz = true := Nat.ble_eq_true_of_le (Nat.succ_le_of_lt h)
      rw [hb] at this
      cases this
     show FrR e a _
     refine ⟨by show (act.tmps.setIfInBounds d x).size = _; rw [Array.size_setIfInBounds]; exact r.size, fun i => ?_, r.df, r.dom, r.glob⟩
     show TR e _ ((act.tmps.setIfInBounds d x).getD i undef)
     rw [Array.setIfInBounds_eq_of_size_le (Nat.le_of_not_lt hge)]
     exact r.tmp i
   | true =>
     have hlt : d < act.tmps.size := by rw [r.size]; exact Nat.lt_of_succ_le (Nat.le_of_ble_eq_true hb)
     show FrR e ⟨a.t.set d (some v), a.sz, a.df, a.gl⟩ _
     refine ⟨by show (act.tmps.setIfInBounds d x).size = _; rw [Array.size_setIfInBounds]; exact r.size, fun i => ?_, r.df, r.dom, r.glob⟩
     show TR e (((a.t.set d (some v)).get i).getD uV) ((act.tmps.setIfInBounds d x).getD i undef)
     have hset : a.t.set d (some v) = Tr.setP (some v) (Tr.path d) a.t := by unfold Tr.set; rw [Tr.setK_eq]; rfl
     rw [hset]
     by_cases hi : i = d
     · subst hi
       rw [Tr.get_set_same, Array.getD_eq_getD_getElem?, Array.getElem?_setIfInBounds_self_of_lt hlt]
       exact .inr hv
     · rw [Tr.get_set_other _ _ hi, Array.getD_eq_getD_getElem?, Array.getElem?_setIfInBounds_ne (Ne.symm hi), <- Array.getD_eq_getD_getElem?]
       exact r.tmp i
theorem VR_bool {e : Env} {v : V} {b : Bool} (h : VR e v (.bool b)) : v = .lit (.bool b) := by
 cases v with
 | lit u => rw [<- VR_lit.1 h]
 | ptr _ _ => cases (VR_ptr.1 h).2
 | slc _ _ _ _ _ => cases (VR_slc.1 h).2
 | map _ => cases (VR_map.1 h).2
 | yld _ => cases (VR_yld.1 h).2
 | fn _ _ _ => obtain ⟨l, m, h1, -⟩ := VR_fn.1 h; cases h1
 | agg _ => obtain ⟨l, h1, -⟩ := VR_agg.1 h; cases h1
 | tup _ => obtain ⟨l, h1, -⟩ := VR_tup.1 h; cases h1
 | any => exact (VR_any h).elim
theorem wanted_ok {e : Env} {ops : Array Oper} {a : Fr} {tmps : Array Value} {o : Oper} (hsz : tmps.size = a.sz) (hd : ∀ j want d, o.guard = some (j, want) -> (ops[j]?).bind (·.dst) = some d -> TR e ((a.t.get d).getD uV) (tmps.getD d undef)) (hk : guardOk ops a o = true) : Region.wanted o (yielded ops tmps) = wantedT ops a o := by
 unfold Region.wanted wantedT
 cases hg : o.guard with
 | none => rfl
 | some q =>
   obtain ⟨j, want⟩ := q
   simp only
   unfold yielded
   cases hdst : (ops[j]?).bind (·.dst) with
   | none => rfl
   | some d =>
     have hv := (hd j want d hg hdst).resolve_left fun hany => by
      unfold guardOk at hk
      rw [hg] at hk
      simp only [hdst] at hk
      cases hq : a.t.get d with
      | none => rw [hq] at hany; cases hany
      | some q => rw [hq] at hany hk; cases (show q = .any from hany); cases hk
     simp only [Option.bind_some]
     rw [Array.getD_eq_getD_getElem?] at hv
     cases ht : tmps[d]? with
     | none =>
       rw [ht] at hv
       simp only [Option.getD_none] at hv
       cases hq : a.t.get d with
       | none => rfl
       | some v =>
         rw [hq] at hv
         cases v with
         | lit u =>
           have := VR_lit.1 hv
           cases u <;> first | rfl | (simp [undef] at this)
         | _ => rfl
     | some x =>
       rw [ht] at hv
       simp only [Option.getD_some] at hv
       cases hq : a.t.get d with
       | none =>
         rw [hq] at hv
         have := VR_lit.1 hv
         subst this
         rfl
       | some v =>
         rw [hq] at hv
         simp only [Option.getD_some] at hv
         cases x with
         | bool b =>
           have := VR_bool hv
           subst this
           simp
         | _ =>
           cases v with
           | lit u =>
             have := VR_lit.1 hv
             subst this
             rfl
           | _ => rfl
theorem runW_eq {dst : Option Tmp} {a : Fr} {k : OpsW} {r : E (V × H)} : runW dst a k r = eb r (@Prod.rec _ _ (fun _ => E (Fr × H)) fun v h' => a.putK dst v fun a' => k a' h') := by
 cases r <;> rfl
theorem opsW_cons {P : Program} {go : Run} {ops : Array Oper} {o : Oper} {rest : List Oper} {a : Fr} {h : H} : opsW P go ops (o :: rest) a h = ec (guardOk ops a o) "guard" (
  match wantedT ops a o with
  | true => eb (opW P go a o.op h) (@Prod.rec _ _ (fun _ => E (Fr × H)) fun v h' => a.putK o.dst v fun a' => opsW P go ops rest a' h')
  | false => a.putK o.dst uV fun a' => opsW P go ops rest a' h) := by
 change stepW P go ops o (opsW P go ops rest) a h = _
 unfold stepW
 cases hg : o.guard with
 | none =>
   have h1 : guardOk ops a o = true := by unfold guardOk; rw [hg]
   have h2 : wantedT ops a o = true := by unfold wantedT; rw [hg]
   rw [h1, h2]
   exact runW_eq
 | some q =>
   show guardedW P go ops o (opsW P go ops rest) a h = _
   unfold guardedW
   cases wantedT ops a o with
   | true => simp only [runW_eq]
   | false => rfl
def X.out : X -> Exit
 | .normal => .normal
 | .exit id => .exit id
 | .ret => .ret
def fence (e : Env) : Option Nat -> Fence
 | none => Fence.wide
 | some l => Fence.wide.inRound (e.σ l)
def GoOk (P : Program) (go : Run) : Prop :=
 ∀ r c a h x a' h', go r c a h = .ok (x, a', h') -> ∀ (e : Env) (w : World) (act : Act), Rel P e h w -> FrR e a act -> (∀ l, r = some l -> e.dom l) ->
   ∀ Q : Exit -> Act -> World -> Prop, (∀ e' act' w', Rel P e' h' w' -> FrR e' a' act' -> Step h e w h' e' w' -> Q x.out act' w') -> c.wpIn (fence e r) 9 P Q act w
def CallOk (P : Program) (f : FuncId) (xs : List Value) (h : H) (e : Env) (w : World) (h' : H) (v : V) : Prop :=
 Calls P f xs.toArray w fun en w' => ∃ x, en = .returned x /\ Got P h e w h' v x w'
section
variable {P : Program} {e : Env} {h h' : H} {w : World} {v : V}
def resF (tmps : Array Value) : ResultVar -> Sem Value
 | .tmp t => pure (tmps.getD t undef)
 | .cell a t => do loadVar t (<- asAddr (tmps.getD a undef))
theorem result_ok {a : Fr} {act : Act} {q : ResultVar} (r : Rel P e h w) (fr : FrR e a act) (k : resultT P a h q = .ok v) : ∃ x, (resF act.tmps q).run P w = .ok x w /\ VR e v x := by
 cases q with
 | tmp t => exact ⟨_, rfl, fr.ev (.tmp t) v k⟩
 | cell b t =>
   unfold resultT at k
   obtain ⟨u, hu, k⟩ := eb_ok k
   have hv := fr.ev (.tmp b) u hu
   obtain ⟨x, g1, g2⟩ := loads_ok r hv k
   refine ⟨x, ?_, g2⟩
   cases u <;> simp only [opLoad] at k <;> try (cases k; done)
   have hp : act.tmps.getD b undef = _ := (VR_ptr.1 hv).2
   have hp' : act.eval (.tmp b) = _ := (VR_ptr.1 hv).2
   rw [hp'] at g1
   simp only [resF, hp, asAddr, Sem.run_bind, Sem.run_pure, Result.andThen_ok]
   simpa [Instr.loadAt, Instr.sureAddr] using g1
theorem results_ok {a : Fr} {act : Act} (r : Rel P e h w) (fr : FrR e a act) : ∀ (qs : List ResultVar) (vs : List V), resultsT P a h qs = .ok vs -> ∃ xs : List Value, (qs.mapM (resF act.tmps)).run P w = .ok xs w /\ VRs e vs xs
 | [], vs, k => by cases k; exact ⟨[], rfl, VRs_nil.2 rfl⟩
 | q :: qs, vs, k => by
   unfold resultsT at k
   obtain ⟨u, hu, k⟩ := eb_ok k
   obtain ⟨us, hus, k⟩ := eb_ok k
   cases k
   obtain ⟨x, g1, g2⟩ := result_ok r fr hu
   obtain ⟨xs, g3, g4⟩ := results_ok r fr qs us hus
   refine ⟨x :: xs, ?_, VRs_cons.2 ⟨x, xs, rfl, g2, g4⟩⟩
   simp only [List.mapM_cons, Sem.run_bind]
   rw [g1]
   simp only [Result.andThen_ok]
   rw [g3]
   rfl
theorem pack_ok {a : Fr} {act : Act} {fn : Func} {vs : List V} (r : Rel P e h w) (fr : FrR e a act) (k : resultsT P a h fn.results.toList = .ok vs) : ∃ x, (results fn act.tmps).run P w = .ok x w /\ VR e (packT vs) x := by
 obtain ⟨xs, g1, g2⟩ := results_ok r fr _ _ k
 have hl := VRs_len g2
 have e0 : results fn act.tmps = (do let vs <- fn.results.mapM (resF act.tmps); pure (if h : vs.size = 1 then vs[0] else .tuple vs)) := rfl
 rw [e0]
 simp only [Sem.run_bind, Array.mapM_eq_mapM_toList, Sem.run_map]
 rw [g1]
 simp only [Result.andThen_ok, Sem.run_pure, List.size_toArray]
 match vs, xs, g2, hl with
 | [], [], _, _ => exact ⟨_, rfl, VR_tup.2 ⟨[], rfl, VRs_nil.2 rfl⟩⟩
 | [v], [x], g2, _ =>
   obtain ⟨y, ys, h1, h2, h3⟩ := VRs_cons.1 g2
   cases h1
   exact ⟨x, rfl, h2⟩
 | v1 :: v2 :: vs, x1 :: x2 :: xs, g2, _ => exact ⟨_, rfl, VR_tup.2 ⟨_, rfl, g2⟩⟩
theorem marks_ok {fn : Func} {tmps : Array Value} {R : Ending -> World -> Prop} : ∀ (ds : List Nat) (h : H) (w : World) (h2 : H), Rel P e h w -> takeMarks h ds = .ok h2 ->
  (∀ w', Rel P e h2 w' -> Step h e w h2 e w' -> ∃ x, (results fn tmps).run P w' = .ok x w' /\ R (.returned x) w') ->
  LeavesInM Fence.wide 9 P fn tmps R (ds.map fun d => { target := .collected (e.σ d), args := #[] }) .returning w
 | [], h, w, h2, r, k, hR => by
   cases k
   obtain ⟨x, g1, g2⟩ := hR w r (Step.refl h e w)
   exact ⟨x, g1, g2⟩
 | d :: ds, h, w, h2, r, k, hR => by
   unfold takeMarks at k
   cases hb : h.get d with
   | none => rw [hb] at k; cases k
   | some o =>
     rw [hb] at k
     cases o <;> try (cases k; done)
     rename_i b
     cases b with
     | false => cases k
     | true =>
       obtain ⟨h1, hs, k⟩ := eb_ok k
       obtain ⟨-, x, hx, rfl⟩ := r.at_ d _ hb
       obtain ⟨f1, f2, f3⟩ := turn_ok (o' := .dfr false) (x' := .deferred none) r hb hx (fun _ _ _ => by simp) rfl hs
       refine ⟨by simp, .inl ⟨_, _, rfl, ?_, marks_ok ds h1 _ h2 f2 k fun w' r' s' => hR w' r' (f3.trans s')⟩⟩
       simp only [Instr.takeDeferred, Sem.run_bind, getObj_run hx (fun _ _ _ => by simp), Result.andThen_ok, f1, Sem.run_pure]
theorem ofList_fr {vs : List V} {xs : List Value} (hv : VRs e vs xs) (n gl : Nat) (hg : ∀ g, g < gl -> e.dom g /\ e.σ g = g) : FrR e ⟨Tr.ofList vs 0 .leaf, Nat.max n vs.length, [], gl⟩ { tmps := xs.toArray ++ Array.replicate (n - xs.toArray.size) undef, defers := [] } := by
 have hl := VRs_len hv
 refine ⟨?_, fun i => ?_, rfl, fun d hd => (by cases hd), hg⟩
 · simp only [Array.size_append, List.size_toArray, Array.size_replicate]
   show xs.length + (n - xs.length) = max n vs.length
   omega
 · simp only
   rw [Tr.ofList_get, Array.getD_eq_getD_getElem?]
   split
   · next h =>
     have hi : i < vs.length := by omega
     have hi' : i < xs.length := by omega
     rw [Array.getElem?_append_left (by simpa using hi')]
     obtain ⟨x, h1, h2⟩ := VRs_get (i := i) (v := vs[i]) hv (by simp [hi])
     simp only [Nat.sub_zero, Option.getD_some, List.getElem?_toArray, h1]
     exact .inr h2
   · next h =>
     have hi : ¬ i < xs.length := by omega
     rw [Tr.get_leaf, Array.getElem?_append_right (by simp; omega)]
     simp only [Option.getD_none]
     by_cases hr : i - xs.length < n - xs.length
     · rw [Array.getElem?_replicate]
       simp only [List.size_toArray, hr, if_true, Option.getD_some]
       exact .inr (VR_lit.2 rfl)
     · rw [Array.getElem?_replicate]
       simp only [List.size_toArray, hr, if_false, Option.getD_none]
       exact .inr (VR_lit.2 rfl)
theorem call_ok {go : Run} {gl : Nat} {f : FuncId} {vs : List V} {xs : List Value} (hgo : GoOk P go) (r : Rel P e h w) (hv : VRs e vs xs) (hg : ∀ g, g < gl -> e.dom g /\ e.σ g = g) (k : callW P go gl f vs h = .ok (v, h')) :
  CallOk P f xs h e w h' v /\ ∃ fn, P.funcs[f]? = some fn /\ (fn.name == "runtime.NumGoroutine") = false /\ fn.body.isNone = false := by
 unfold callW at k
 obtain ⟨fn, hfn, k⟩ := eo_ok k
 obtain ⟨hnm, k⟩ := ec_ok k
 obtain ⟨c, hc, k⟩ := eo_ok k
 simp only [fNat_eq] at k
 obtain ⟨⟨x, a1, h1⟩, hgo1, k⟩ := eb_ok k
 refine ⟨?_, fn, hfn, by simpa using hnm, by rw [hc]; rfl⟩
 refine (callsIn_wide (n := 9)).1 ?_
 refine callsIn_of_wp_marks hfn hc trivial ?_ rfl
 have fin : (∀ id, x ≠ .exit id) -> eb (takeMarks h1 a1.df) (fun h2 => eb (resultsT P a1 h2 fn.results.toList) fun vs => (.ok (packT vs, h2) : E (V × H))) = .ok (v, h') -> ∀ (e' : Env) (act' : Act) (w' : World), Rel P e' h1 w' -> FrR e' a1 act' -> Step h e w h1 e' w' -> bodyPostM Fence.wide 9 P fn (fun en w' => ∃ x, en = .returned x /\ Got P h e w h' v x w') x.out act' w' := fun hx k e' act' w' r' fr' s' => by
  obtain ⟨h2, hm, k⟩ := eb_ok k
  obtain ⟨us, hus, k⟩ := eb_ok k
  cases k
  have key := marks_ok (fn := fn) (tmps := act'.tmps) (R := fun en w' => ∃ x, en = .returned x /\ Got P h e w h' (packT us) x w') a1.df h1 w' h' r' hm fun w2 r2 s2 => by
   obtain ⟨y, g1, g2⟩ := pack_ok r2 fr' hus
   exact ⟨y, g1, y, rfl, e', r2, s'.trans s2, g2⟩
  rw [<- fr'.df] at key
  cases x with
  | normal => exact key
  | ret => exact key
  | exit id => exact absurd rfl (hx id)
 refine hgo none c _ h x a1 h1 hgo1 e w _ r (ofList_fr hv fn.ntmps gl hg) (fun _ h => by cases h) _ fun e' act' w' r' fr' s' => ?_
 cases x with
 | normal => exact fin (fun _ h => by cases h) k e' act' w' r' fr' s'
 | ret => exact fin (fun _ h => by cases h) k e' act' w' r' fr' s'
 | exit id => cases k
end
end
section
set_option linter.unusedSimpArgs false
set_option linter.unusedVariables false
open Go Go.RowKit
section
variable {P : Program} {e : Env} {h h' : H} {w : World} {v : V}
theorem fence_fn (e : Env) (r : Option Nat) (f : FuncId) : (fence e r).fn f := by cases r <;> trivial
theorem fence_depth (e : Env) (r : Option Nat) : (fence e r).depth = none := by cases r <;> rfl
theorem fence_calls {r : Option Nat} {n : Nat} {f : FuncId} {args : Array Value} {R : Ending -> World -> Prop} (h : Calls P f args w R) : CallsIn (fence e r) n P f args w R := by
 have := (callsIn_wide (n := n)).2 h
 cases r with
 | none => exact this
 | some l => exact this
theorem wpIn_any {F : Fence} {n m : Nat} {c : Code} {Q : Exit -> Act -> World -> Prop} {a : Act} (hd : F.depth = none) (k : c.wpIn F n P Q a w) : c.wpIn F m P Q a w :=
 fun b i cs hro hb _ => k b i cs hro hb fun d hd' => by rw [hd] at hd'; cases hd'
theorem loop_at {l : Nat} {st : LoopState} {pend : Option Code} {t : Tr V} {sz : Nat} {ps : List Tmp} {asg bd : Code} {d : Nat} (r : Rel P e h w) (hb : h.get l = some (.loop st pend t sz ps asg bd d)) :
  ∃ (fn : FuncId) (tm : Array Value), w.heap[e.σ l]? = some (.loop { state := st, pending := pend, fn := fn, tmps := tm, params := ps.toArray, assign := asg, body := bd, defers := e.σ d }) /\ e.dom l /\ e.dom d /\ tm.size = sz /\ ∀ i, TR e ((t.get i).getD uV) (tm.getD i undef) := by
 obtain ⟨h1, x, hx, fn, tm, rfl, h2, h3, h4⟩ := r.at_ l _ hb
 exact ⟨fn, tm, hx, h1, h2, h3, h4⟩
theorem getLoop_run {l : Nat} {q : Loop} (h : w.heap[l]? = some (.loop q)) : (Instr.getLoop l).run P w = .ok q w := by
 simp only [Instr.getLoop, Sem.run_bind, getObj_run h (fun _ _ _ => by simp), Result.andThen_ok, Sem.run_pure]
theorem putArgs_ok : ∀ {qs : List Tmp} {vs : List V} {xs : List Value} {a : Fr} {act : Act}, qs.length = vs.length -> VRs e vs xs -> FrR e a act -> FrR e (putArgs qs vs a) { act with tmps := (qs.zip xs).foldl (fun t q => t.setIfInBounds q.1 q.2) act.tmps }
 | [], vs, xs, a, act, hl, hv, fr => by cases vs with | nil => exact fr | cons _ _ => simp at hl
 | q :: qs, [], xs, a, act, hl, hv, fr => by simp at hl
 | q :: qs, v :: vs, xs, a, act, hl, hv, fr => by
   obtain ⟨x, xs', rfl, h1, h2⟩ := VRs_cons.1 hv
   have := putArgs_ok (qs := qs) (act := act.put (some q) x) (by simpa using hl) h2 (fr.put (some q) h1)
   exact this
theorem round_ok {go : Run} {gl l : Nat} {vs : List V} {xs : List Value} {rr : Option Nat} (hgo : GoOk P go) (r : Rel P e h w) (hv : VRs e vs xs) (hg : ∀ g, g < gl -> e.dom g /\ e.σ g = g) (k : roundW go gl l vs h = .ok (v, h')) :
  ∃ (f : FuncId) (tmps : Array Value) (asg bd : Code), (Instr.yield (e.σ l) xs.toArray).run P w = .ok (.round (e.σ l) f tmps asg bd) w /\ RoundIn (fence e rr) 8 P (e.σ l) f tmps asg bd w fun en w' => ∃ x, en = .returned x /\ Got P h e w h' v x w' := by
 unfold roundW at k
 cases hb : h.get l with
 | none => rw [hb] at k; cases k
 | some o =>
   rw [hb] at k
   cases o <;> try (cases k; done)
   rename_i st pend t sz qs asg bd d
   obtain ⟨hlen, k⟩ := ec_ok k
   obtain ⟨⟨x1, a1, h1⟩, hgo1, k⟩ := eb_ok k
   obtain ⟨fn, tm, hl, hdl, hdd, hts, htm⟩ := loop_at r hb
   have hlen' := Nat.eq_of_beq_eq_true hlen
   have hxl := VRs_len hv
   refine ⟨fn, (qs.zip xs).foldl (fun t q => t.setIfInBounds q.1 q.2) tm, asg, bd, ?_, ?_⟩
   · have hne : ¬ xs.toArray.size ≠ qs.toArray.size := by simp; omega
     simp only [Instr.yield, Sem.run_bind, getLoop_run hl, Result.andThen_ok, if_neg hne, Sem.run_pure]
     congr 2
     rw [<- Array.foldl_toList]
     simp
   · cases x1 with
     | exit id => cases k
     | ret => cases k
     | normal =>
       simp only at k
       have fr0 : FrR e ⟨t, sz, [], gl⟩ ⟨tm, []⟩ := ⟨hts, htm, rfl, fun d hd => (by cases hd), hg⟩
       have fr1 := putArgs_ok (qs := qs) (vs := vs) (by omega) hv fr0
       have hfe : ∀ e' : Env, e'.σ l = e.σ l -> fence e' (some l) = (fence e rr).inRound (e.σ l) := fun e' he => by show Fence.wide.inRound (e'.σ l) = _; rw [he]; cases rr <;> rfl
       refine roundIn_of_wpIn (n := 8) (fence_fn e rr fn) ?_
       rw [<- hfe e rfl]
       refine wpIn_any (n := 9) rfl (hgo (some l) asg _ h .normal a1 h1 hgo1 e w _ r fr1 (fun q hq => by cases hq; exact hdl) _ fun e1 act1 w1 r1 fr2 s1 => ?_)
       have hσ1 : e1.σ l = e.σ l := s1.le.σ l hdl
       cases hb1 : h1.get l with
       | none => rw [hb1] at k; cases k
       | some o1 =>
         rw [hb1] at k
         cases o1 <;> try (cases k; done)
         rename_i st2 p2 t2 s2 q2 as2 bd2 d2
         cases st2 <;> try (cases k; done)
         obtain ⟨h2, hs2, k⟩ := eb_ok k
         obtain ⟨⟨x2, a2, h3⟩, hgo2, k⟩ := eb_ok k
         obtain ⟨fn2, tm2, hl2, hdl2, hdd2, hts2, htm2⟩ := loop_at r1 hb1
         obtain ⟨f1, f2, f3⟩ := turn_ok (o' := .loop .busy p2 t2 s2 q2 as2 bd2 d2) (x' := .loop { state := .busy, pending := p2, fn := fn2, tmps := tm2, params := q2.toArray, assign := as2, body := bd2, defers := e1.σ d2 }) r1 hb1 hl2 (fun _ _ _ => by simp) ⟨fn2, tm2, rfl, hdd2, hts2, htm2⟩ hs2
         refine ⟨{ w1 with heap := w1.heap.setIfInBounds (e1.σ l) (.loop { state := .busy, pending := p2, fn := fn2, tmps := tm2, params := q2.toArray, assign := as2, body := bd2, defers := e1.σ d2 }) }, ?_, ?_⟩
         · rw [<- hσ1]
           simp only [Instr.beginRound, Sem.run_bind, getLoop_run hl2, Result.andThen_ok, f1, Sem.run_pure]
         · rw [hfe e rfl, <- hfe e1 hσ1]
           refine wpIn_any (n := 9) rfl (hgo (some l) bd a1 h2 x2 a2 h3 hgo2 e1 _ act1 f2 fr2 (fun q hq => by cases hq; exact hdl2) _ fun e3 act3 w3 r3 fr3 s3 => ?_)
           have hσ3 : e3.σ l = e.σ l := by rw [(f3.trans s3).le.σ l hdl2, hσ1]
           simp only at k
           unfold roundEnd at k
           cases hb3 : h3.get l with
           | none => rw [hb3] at k; cases k
           | some o3 =>
             rw [hb3] at k
             cases o3 <;> try (cases k; done)
             rename_i st4 p4 t4 s4 q4 as4 bd4 d4
             obtain ⟨h4, hs4, k⟩ := eb_ok k
             cases k
             obtain ⟨fn4, tm4, hl4, hdl4, hdd4, hts4, htm4⟩ := loop_at r3 hb3
             have fin : ∀ (st5 : LoopState) (p5 : Option Code), h3.set l (some (.loop st5 p5 t4 s4 q4 as4 bd4 d4)) = .ok h' -> (st5 = if p5.isNone then .ready else .done) -> ∃ v5 w5, (Instr.endRound (e.σ l) p5).run P w3 = .ok v5 w5 /\ ∃ x, Ending.returned v5 = .returned x /\ Got P h e w h' (.lit (.bool p5.isNone)) x w5 := fun st5 p5 hs5 hst => by
              obtain ⟨g1, g2, g3⟩ := turn_ok (o' := .loop st5 p5 t4 s4 q4 as4 bd4 d4) (x' := .loop { state := st5, pending := p5, fn := fn4, tmps := tm4, params := q4.toArray, assign := as4, body := bd4, defers := e3.σ d4 }) r3 hb3 hl4 (fun _ _ _ => by simp) ⟨fn4, tm4, rfl, hdd4, hts4, htm4⟩ hs5
              refine ⟨.bool p5.isNone, { w3 with heap := w3.heap.setIfInBounds (e3.σ l) (.loop { state := st5, pending := p5, fn := fn4, tmps := tm4, params := q4.toArray, assign := as4, body := bd4, defers := e3.σ d4 }) }, ?_, _, rfl, e3, g2, ((s1.trans f3).trans s3).trans g3, VR_lit.2 rfl⟩
              rw [<- hσ3]
              subst hst
              simp only [Instr.endRound, Sem.run_bind, getLoop_run hl4, Result.andThen_ok, g1, Sem.run_pure]
             cases x2 with
             | normal => exact fin .ready none hs4 rfl
             | ret => exact fin .done (some .ret) hs4 rfl
             | exit id => exact fin .done (some (.exit id)) hs4 rfl
end
end
section
set_option linter.unusedSimpArgs false
set_option linter.unusedVariables false
open Go Go.RowKit
section
variable {P : Program} {e : Env} {h h' : H} {w : World} {v : V}
theorem enter_run {f : FuncId} {fn : Func} {args : Array Value} (h1 : P.funcs[f]? = some fn) (h2 : (fn.name == "runtime.NumGoroutine") = false) (h3 : fn.body.isNone = false) : (callFunc f args).run P w = .ok (.enter f args) w := by
 unfold callFunc
 simp only [Sem.run_bind, run_program, Result.andThen_ok, h1, h2, h3, Bool.false_eq_true, if_false, Sem.run_pure]
theorem arr_eq {α β : Type} (f : α -> β) (a : Array α) : a.map f = (a.toList.map f).toArray := Array.toList_inj.1 (by simp)
theorem not_defer {go : Run} {a : Fr} {o : Op} (k : opW P go a o h = .ok (v, h')) (c : Call) : o ≠ .defer c := fun e => by
 subst e
 cases k
theorem op_ok {go : Run} {o : Oper} {a : Fr} {act : Act} {rr : Option Nat} {next : Act -> World -> Prop} {Q : Exit -> Act -> World -> Prop} (hgo : GoOk P go) (r : Rel P e h w) (hops : OpsR e a act.eval o.op.operands.toList) (hg : ∀ g, g < a.gl -> e.dom g /\ e.σ g = g)
  (k : opW P go a o.op h = .ok (v, h')) (hn : ∀ x w', Got P h e w h' v x w' -> next (act.put o.dst x) w') : o.wpIn (fence e rr) 9 P act w next Q := by
 refine ⟨fun f _ => fence_fn e rr f, ?_⟩
 rw [Oper.semAt_eq _ _ _ (not_defer k)]
 cases hc : isCall o.op with
 | false =>
   obtain ⟨x, w', h1 | ⟨h1, rfl⟩, h2⟩ := plain_ok r hops hc k
   · rw [h1]; exact hn x w' h2
   · rw [h1]; exact hn _ w' h2
 | true =>
   obtain ⟨dst, op, ty, pos, after, guard⟩ := o
   cases op with
   | call c =>
     change callOpW P go a c h = _ at k
     obtain ⟨callee, args, ats⟩ := c
     obtain ⟨vs, hvs, k⟩ := eb_ok k
     have hv : VRs e vs (args.toList.map act.eval) := OpsR.evs (fun x hx => hops x (by cases callee <;> simp [Op.operands, Call.operands] <;> first | exact .inr (by simpa using hx) | simpa using hx)) hvs
     cases callee with
     | builtin b =>
       simp only at k
       obtain ⟨x, w', g1, g2⟩ := builtin_ok (ty := ty) (cs := args.map fun | .const _ => true | _ => false) r hv k
       have e1 : (execOp act.eval { dst := dst, op := .call { callee := .builtin b, args := args, argTypes := ats }, type := ty, pos := pos, after := after, guard := guard }).run P w = .ok (.value x) w' := by
        rw [<- g1, <- arr_eq]
        rfl
       rw [e1]
       exact hn x w' g2
     | invoke rv m => cases k
     | value f =>
       simp only at k
       obtain ⟨g, hgv, k⟩ := eb_ok k
       have hf := hops f (by simp [Op.operands, Call.operands]) g hgv
       cases g with
       | fn fid first cap =>
         simp only [calleeW] at k
         obtain ⟨l, m, e1, q1, q2⟩ := VR_fn.1 hf
         obtain ⟨c1, fn, c2, c3, c4⟩ := call_ok hgo r (VRs_append (VRs_append q1 hv) q2) hg k
         have e2 : (execOp act.eval { dst := dst, op := .call { callee := .value f, args := args, argTypes := ats }, type := ty, pos := pos, after := after, guard := guard }).run P w = .ok (.enter fid (l ++ args.toList.map act.eval ++ m).toArray) w := by
          have e3 : (execOp act.eval { dst := dst, op := .call { callee := .value f, args := args, argTypes := ats }, type := ty, pos := pos, after := after, guard := guard }) = (do let d <- Deferred.ofValue (act.eval f) (args.map act.eval); invoke d.target d.args) := rfl
          rw [e3, e1]
          simp only [Sem.run_bind, Deferred.ofValue, Sem.run_pure, Result.andThen_ok, invoke]
          rw [enter_run c2 c3 c4, arr_eq]
          simp
         rw [e2]
         refine ⟨fun hd => (by rw [fence_depth] at hd; cases hd), fence_calls (Calls.mono c1 ?_)⟩
         rintro en w' ⟨x, rfl, hx⟩
         exact hn x w' hx
       | yld l =>
         simp only [calleeW] at k
         have e1 := (VR_yld.1 hf).2
         obtain ⟨f', tmps, asg, bd, q1, q2⟩ := round_ok (rr := rr) hgo r hv hg k
         have e2 : (execOp act.eval { dst := dst, op := .call { callee := .value f, args := args, argTypes := ats }, type := ty, pos := pos, after := after, guard := guard }).run P w = .ok (.round (e.σ l) f' tmps asg bd) w := by
          have e3 : (execOp act.eval { dst := dst, op := .call { callee := .value f, args := args, argTypes := ats }, type := ty, pos := pos, after := after, guard := guard }) = (do let d <- Deferred.ofValue (act.eval f) (args.map act.eval); invoke d.target d.args) := rfl
          rw [e3, e1]
          simp only [Sem.run_bind, Deferred.ofValue, Sem.run_pure, Result.andThen_ok, invoke]
          rw [arr_eq, Array.empty_append]
          exact q1
         rw [e2]
         refine ⟨fun hd => (by rw [fence_depth] at hd; cases hd), RoundIn.mono q2 ?_⟩
         rintro en w' ⟨x, rfl, hx⟩
         exact hn x w' hx
       | _ => cases k
   | _ => cases hc
theorem fence_le {e e1 : Env} {rr : Option Nat} (hl : Le e e1) (hrr : ∀ l, rr = some l -> e.dom l) : fence e1 rr = fence e rr := by
 cases rr with
 | none => rfl
 | some l => show Fence.wide.inRound _ = Fence.wide.inRound _; rw [hl.σ l (hrr l rfl)]
theorem uV_ok {e : Env} : VR e uV undef := VR_lit.2 rfl
theorem ops_ok {go : Run} {ops : Array Oper} {rr : Option Nat} (hgo : GoOk P go) : ∀ (rest pre : List Oper) (a : Fr) (h : H) (a' : Fr) (h' : H), ops.toList = pre ++ rest -> opsW P go ops rest a h = .ok (a', h') -> ∀ (e : Env) (w : World) (act : Act), Rel P e h w -> FrR e a act -> (∀ l, rr = some l -> e.dom l) ->
  ∀ Q : Exit -> Act -> World -> Prop, (∀ e' act' w', Rel P e' h' w' -> FrR e' a' act' -> Step h e w h' e' w' -> Q .normal act' w') -> wpOpsIn (fence e rr) 9 P ops Q (List.range' pre.length rest.length) act w
 | [], pre, a, h, a', h', _, k, e, w, act, r, fr, _, Q, hQ => by
   cases k
   exact hQ e act w r fr (Step.refl h e w)
 | o :: rest, pre, a, h, a', h', hsp, k, e, w, act, r, fr, hrr, Q, hQ => by
   have ho : ops[pre.length]? = some o := by
    rw [<- Array.getElem?_toList, hsp]
    simp
   rw [List.length_cons, List.range'_succ]
   unfold wpOpsIn
   rw [ho]
   simp only
   rw [opsW_cons] at k
   obtain ⟨hgk, k⟩ := ec_ok k
   have hw : Region.wanted o (yielded ops act.tmps) = wantedT ops a o := wanted_ok fr.size (fun j want d _ _ => fr.tmp d) hgk
   have next : ∀ (e1 : Env) (a1 : Fr) (h1 : H) (act1 : Act) (w1 : World), Rel P e1 h1 w1 -> FrR e1 a1 act1 -> Step h e w h1 e1 w1 -> opsW P go ops rest a1 h1 = .ok (a', h') -> wpOpsIn (fence e rr) 9 P ops Q (List.range' (pre.length + 1) rest.length) act1 w1 := fun e1 a1 h1 act1 w1 r1 fr1 s1 k1 => by
    have ih := ops_ok (rr := rr) hgo rest (pre ++ [o]) a1 h1 a' h' (by rw [hsp]; simp) k1 e1 w1 act1 r1 fr1 (fun l hl => s1.le.dom l (hrr l hl)) Q (fun e' act' w' r' fr' s' => hQ e' act' w' r' fr' (s1.trans s'))
    rw [fence_le s1.le hrr] at ih
    simpa using ih
   rw [hw]
   cases hwt : wantedT ops a o with
   | true =>
     rw [hwt] at k
     simp only at k
     obtain ⟨⟨v, h1⟩, ho1, k⟩ := eb_ok k
     simp only [if_true]
     refine op_ok hgo r (fr.ops _) fr.glob ho1 fun x w' hx => ?_
     obtain ⟨e1, r1, s1, hv⟩ := hx
     have k' : opsW P go ops rest (a.put o.dst v) h1 = .ok (a', h') := (putK_eq a o.dst v fun a' => opsW P go ops rest a' h1).symm.trans k
     exact next e1 _ h1 _ w' r1 ((fr.mono s1.le).put o.dst hv) s1 k'
   | false =>
     rw [hwt] at k
     simp only [putK_eq] at k
     simp only [Bool.false_eq_true, if_false]
     exact ⟨fun f _ => fence_fn e rr f, next e _ h _ w r (fr.put o.dst uV_ok) (Step.refl h e w) k⟩
theorem region_ok {go : Run} {ops : Array Oper} {rr : Option Nat} {id : Nat} {a a' : Fr} {act : Act} {x : X} (hgo : GoOk P go) (r : Rel P e h w) (fr : FrR e a act) (hrr : ∀ l, rr = some l -> e.dom l) (k : regionW P go ops false a h = .ok (x, a', h'))
  (Q : Exit -> Act -> World -> Prop) (hQ : ∀ e' act' w', Rel P e' h' w' -> FrR e' a' act' -> Step h e w h' e' w' -> Q x.out act' w') : (Code.region id ops false).wpIn (fence e rr) 9 P Q act w := by
 unfold regionW at k
 obtain ⟨⟨a1, h1⟩, k1, k⟩ := eb_ok k
 cases k
 have := ops_ok hgo ops.toList [] a h _ _ rfl k1 e w act r fr hrr Q hQ
 refine wpIn_region ?_
 simpa [List.range_eq_range'] using this
end
end
section
set_option linter.unusedSimpArgs false
set_option linter.unusedVariables false
open Go Go.RowKit
def DrawOk (P : Program) (go : Run) : Prop :=
 ∀ id ops r a h x a' h', regionW P go ops true a h = .ok (x, a', h') -> ∀ (e : Env) (w : World) (act : Act), Rel P e h w -> FrR e a act -> (∀ l, r = some l -> e.dom l) ->
   ∀ Q : Exit -> Act -> World -> Prop, (∀ e' act' w', Rel P e' h' w' -> FrR e' a' act' -> Step h e w h' e' w' -> Q x.out act' w') -> (Code.region id ops true).wpIn (fence e r) 9 P Q act w
def LoopOk (P : Program) (go : Run) : Prop :=
 ∀ r c a h x a' h', go r (.loop c) a h = .ok (x, a', h') -> ∃ N, ∀ n, N <= n -> ∀ (e : Env) (w : World) (act : Act), Rel P e h w -> FrR e a act -> (∀ l, r = some l -> e.dom l) ->
   ∀ Q : Exit -> Act -> World -> Prop, (∀ e' act' w', Rel P e' h' w' -> FrR e' a' act' -> Step h e w h' e' w' -> Q x.out act' w') -> Code.roundsIn (fence e r) 9 P c Q n act w
section scope
variable {P : Program} {F : Fence} {n : Nat} {b : Frame} {a : Act} {k : List Item} {cs : List Frame} {w : World} {Q : Exit -> Act -> World -> Prop}
theorem stepR_scope {c : Code} : step P (lone (b.atR a (.code (.scope c) :: k)) cs w) = .next (lone (b.atR a (.code c :: .inScope c :: k)) cs w) :=
 step_lone_go (by simp [stepG, stepG.exec, Frame.atR])
theorem stepR_inScope {c : Code} : step P (lone (b.atR a (.inScope c :: k)) cs w) = .next (lone (b.atR a k) cs w) :=
 step_lone_go (by simp [stepG, stepG.exec, Frame.atR])
theorem wpIn_scope {c : Code} (h : c.wpIn F n P (Exit.noGoto Q) a w) : (Code.scope c).wpIn F n P Q a w := by
 intro b k cs hro hb hr
 have h0 : (lone (b.atR a (.code (.scope c) :: k)) cs w).fenced P F := fenced_calm hb hr rfl
 obtain ⟨e, a₁, w₁, hq, harr⟩ := h b (.inScope c :: k) cs hro hb hr
 cases e with
 | normal => exact ⟨.normal, a₁, w₁, hq, .head h0 stepR_scope (StepsIn.trans harr (.one (fenced_calm hb hr rfl) stepR_inScope))⟩
 | exit id =>
   have hx : exitTo id (.inScope c :: k) = exitTo id k := by simp [exitTo]
   exact ⟨.exit id, a₁, w₁, hq, fun k' hk => .head h0 stepR_scope (harr.1 k' (by rw [hx]; exact hk)),
    fun hr' hk => let ⟨k₁, h1, h2⟩ := harr.2 hr' (by rw [hx]; exact hk); ⟨k₁, h1, .head h0 stepR_scope h2⟩⟩
 | goto l => exact hq.elim
 | ret => exact ⟨_, a₁, w₁, hq, .of_steps (.one h0 stepR_scope) harr⟩
 | panic ch => exact ⟨_, a₁, w₁, hq, .of_steps (.one h0 stepR_scope) harr⟩
 | outgrown => exact ⟨_, a₁, w₁, hq, .of_steps (.one h0 stepR_scope) harr⟩
end scope
section
variable {P : Program} {e : Env} {h h' : H} {w : World} {v : V}
def blkOf : Option Nat -> Sem (Nat × List Deferred)
 | some l => do pure ((<- Instr.getLoop l).defers, [])
 | none => do
   let r <- newObj (.deferred (some []))
   pure (r, [{ target := .collected r, args := #[] }])
theorem enterLoop_run {fn : FuncId} {tmps : Array Value} {ps : Array Tmp} {asg bd : Code} {r : Option Nat} {q : Nat × List Deferred} {w1 : World} (h : (blkOf r).run P w = .ok q w1) : (Instr.enterLoop fn tmps ps asg bd r).run P w = (do pure (<- newObj (.loop { state := .ready, pending := none, fn, tmps, params := ps, assign := asg, body := bd, defers := q.1 }), q.2) : Sem _).run P w1 := by
 cases r with
 | none =>
   simp only [blkOf, Instr.enterLoop, Sem.run_bind] at h ⊢
   cases hn : (newObj (.deferred (some []))).run P w <;> rw [hn] at h <;> simp only [Result.andThen, Sem.run_pure] at h ⊢ <;> cases h
   rfl
 | some l =>
   simp only [blkOf, Instr.enterLoop, Sem.run_bind] at h ⊢
   cases hn : (Instr.getLoop l).run P w <;> rw [hn] at h <;> simp only [Result.andThen, Sem.run_pure] at h ⊢ <;> cases h
   rfl
noncomputable def blkT (r : Option Nat) (h : H) : E (Nat × List Nat × H) :=
 match r with
 | some l => (match h.get l with | some (.loop _ _ _ _ _ _ _ d) => .ok (d, [], h) | _ => .error "round")
 | none => h.newK (.dfr true) fun b h' => .ok (b, [b], h')
theorem blk_ok {r : Option Nat} {h1 : H} {d : Nat} {mk : List Nat} (re : Rel P e h w) (k : blkT r h = .ok (d, mk, h1)) : ∃ (e1 : Env) (w1 : World), Rel P e1 h1 w1 /\ Step h e w h1 e1 w1 /\ e1.dom d /\ (∀ i ∈ mk, e1.dom i) /\
  (blkOf (fence e r).round).run P w = .ok (e1.σ d, mk.map fun i => { target := .collected (e1.σ i), args := #[] }) w1 := by
 cases r with
 | none =>
   simp only [blkT, newK_eq] at k
   cases k
   obtain ⟨e1, g1, g2, g3, g4⟩ := newObj_ok (o := .dfr true) (x := .deferred (some [])) re (fun _ _ => rfl)
   refine ⟨e1, _, g2, g3, g4, fun i hi => by simp at hi; subst hi; exact g4, ?_⟩
   show Sem.run P (blkOf none) w = _
   simp only [blkOf, Sem.run_bind, g1, Result.andThen_ok, Sem.run_pure, List.map_cons, List.map_nil]
 | some l =>
   simp only [blkT] at k
   cases hb : h.get l with
   | none => rw [hb] at k; cases k
   | some o =>
     rw [hb] at k
     cases o <;> try (cases k; done)
     cases k
     obtain ⟨fn, tm, hl, hdl, hdd, -, -⟩ := loop_at re hb
     refine ⟨e, w, re, Step.refl _ _ _, hdd, fun i hi => (by cases hi), ?_⟩
     show Sem.run P (blkOf (some (e.σ l))) w = _
     simp only [blkOf, Sem.run_bind, getLoop_run hl, Result.andThen_ok, Sem.run_pure, List.map_nil]
noncomputable def endT (go : Run) (r : Option Nat) (a2 : Fr) (l : Nat) (h3 : H) : E (X × Fr × H) :=
 match h3.get l with
 | some (.loop .busy _ _ _ _ _ _ _) => .error "busy"
 | some (.loop _ pend t sz qs asg bd d) => eb (h3.set l (some (.loop .exhausted pend t sz qs asg bd d))) fun h4 =>
  match pend with
  | none => .ok (.normal, a2, h4)
  | some c => go r c a2 h4
 | _ => .error "loop"
theorem endT_ok {go : Run} {r : Option Nat} {a2 : Fr} {l : Nat} {h3 : H} {x : X} {a' : Fr} {w3 : World} (r3 : Rel P e h3 w3) (k : endT go r a2 l h3 = .ok (x, a', h')) :
  ∃ (pend : Option Code) (h4 : H) (w4 : World), (Instr.endLoop (e.σ l)).run P w3 = .ok pend w4 /\ Rel P e h4 w4 /\ Step h3 e w3 h4 e w4 /\
    (match pend with
     | none => x = .normal /\ a' = a2 /\ h' = h4
     | some c => go r c a2 h4 = .ok (x, a', h')) := by
 unfold endT at k
 cases hb : h3.get l with
 | none => rw [hb] at k; cases k
 | some o =>
   rw [hb] at k
   cases o with
   | loop st pend t sz qs asg bd d =>
     obtain ⟨fn, tm, hl, hdl, hdd, hts, htm⟩ := loop_at r3 hb
     have hst : st ≠ .busy := fun hs => by subst hs; cases k
     have k2 : eb (h3.set l (some (.loop .exhausted pend t sz qs asg bd d))) (fun h4 =>
       match pend with
       | none => .ok (.normal, a2, h4)
       | some c => go r c a2 h4) = .ok (x, a', h') := by
      rw [<- k]
      cases st <;> first | rfl | exact absurd rfl hst
     obtain ⟨h4, hs4, k3⟩ := eb_ok k2
     obtain ⟨f1, f2, f3⟩ := turn_ok (o' := .loop .exhausted pend t sz qs asg bd d) (x' := .loop { state := .exhausted, pending := pend, fn := fn, tmps := tm, params := qs.toArray, assign := asg, body := bd, defers := e.σ d }) r3 hb hl (fun _ _ _ => by simp) ⟨fn, tm, rfl, hdd, hts, htm⟩ hs4
     refine ⟨pend, h4, { w3 with heap := w3.heap.setIfInBounds (e.σ l) (.loop { state := .exhausted, pending := pend, fn := fn, tmps := tm, params := qs.toArray, assign := asg, body := bd, defers := e.σ d }) }, ?_, f2, f3, ?_⟩
     · have hb2 : (st == LoopState.busy) = false := by cases st <;> first | rfl | exact absurd rfl hst
       simp only [Instr.endLoop, Sem.run_bind, getLoop_run hl, Result.andThen_ok, hb2, Bool.false_eq_true, if_false, f1, Sem.run_pure]
     · cases pend with
       | none => cases k3; exact ⟨rfl, rfl, rfl⟩
       | some c => exact k3
   | _ => cases k
theorem rangeFunc_ok {go : Run} {r : Option Nat} {g : Operand} {gv : V} {ps : Array Tmp} {assign body : Code} {a a' : Fr} {act : Act} {x : X} (hgo : GoOk P go) (re : Rel P e h w) (fr : FrR e a act) (hrr : ∀ l, r = some l -> e.dom l)
  (hg : ev a g = .ok gv) (k : rangeW P go r gv ps assign body a h = .ok (x, a', h')) (Q : Exit -> Act -> World -> Prop) (hQ : ∀ e' act' w', Rel P e' h' w' -> FrR e' a' act' -> Step h e w h' e' w' -> Q x.out act' w') :
  (Code.rangeFunc g ps assign body).wpIn (fence e r) 9 P Q act w := by
 cases gv with
 | fn fid first cap =>
   obtain ⟨⟨d, mk, h1⟩, k1, k2⟩ := eb_ok (x := blkT r h) (f := fun q => match q with
    | (d, mk, h1) => h1.newK (.loop .ready none a.t a.sz ps.toList assign body d) fun l h2 => eb (callW P go a.gl fid (first ++ [.yld l] ++ cap) h2) fun q => endT go r ⟨a.t, a.sz, mk ++ a.df, a.gl⟩ l q.2) (by rw [<- k]; cases r <;> rfl)
   obtain ⟨e1, w1, r1, s1, hd1, hm1, hrun⟩ := blk_ok re k1
   simp only [newK_eq] at k2
   obtain ⟨⟨rv, h3⟩, hcall, k3⟩ := eb_ok k2
   have fr1 : FrR e1 a act := fr.mono s1.le
   obtain ⟨lf, mc, hev, q1, q2⟩ := VR_fn.1 (fr1.ev g _ hg)
   refine wpIn_rangeFunc fun fn hfn => ?_
   obtain ⟨e2, g1, r2, s2, hdl⟩ := newObj_ok (o := .loop .ready none a.t a.sz ps.toList assign body d) (x := .loop { state := .ready, pending := none, fn := fn, tmps := act.tmps, params := ps, assign := assign, body := body, defers := e1.σ d }) r1
    (fun e' le => ⟨fn, act.tmps, by rw [le.σ d hd1], le.dom d hd1, fr.size, fun i => (fr1.tmp i).mono le⟩)
   obtain ⟨c1, fn', c2, c3, c4⟩ := call_ok (xs := lf ++ [Value.func (.yield (e2.σ h1.n)) #[] #[]] ++ mc) hgo r2 (VRs_append (VRs_append (q1.mono s2.le) (VRs_cons.2 ⟨_, _, rfl, VR_yld.2 ⟨hdl, rfl⟩, VRs_nil.2 rfl⟩)) (q2.mono s2.le)) (fr1.mono s2.le).glob hcall
   refine ⟨e2.σ h1.n, mk.map fun i => { target := .collected (e1.σ i), args := #[] }, w1.alloc (.loop { state := .ready, pending := none, fn := fn, tmps := act.tmps, params := ps, assign := assign, body := body, defers := e1.σ d }), { target := .fn (.func fid) mc.toArray, args := lf.toArray ++ #[Value.func (.yield (e2.σ h1.n)) #[] #[]] }, w1.alloc (.loop { state := .ready, pending := none, fn := fn, tmps := act.tmps, params := ps, assign := assign, body := body, defers := e1.σ d }), fid, (lf ++ [Value.func (.yield (e2.σ h1.n)) #[] #[]] ++ mc).toArray, w1.alloc (.loop { state := .ready, pending := none, fn := fn, tmps := act.tmps, params := ps, assign := assign, body := body, defers := e1.σ d }), ?_, ?_, fun f' _ => fence_fn e r f', ?_, fun hd => (by rw [fence_depth] at hd; cases hd), ?_⟩
   · rw [enterLoop_run hrun]
     simp only [Sem.run_bind, Result.andThen_ok, g1, Sem.run_pure]
   · simp only [resolve, rangeCall, hev, Deferred.ofValue, Sem.run_pure]
     simp [Act.eval]
   · simp only [invoke]
     rw [enter_run c2 c3 c4]
     simp
   · refine fence_calls (Calls.mono c1 ?_)
     rintro en w3 ⟨rx, rfl, e3, r3, s3, -⟩
     have s03 : Step h e w h3 e3 w3 := (s1.trans s2).trans s3
     have hσl : e3.σ h1.n = e2.σ h1.n := s3.le.σ _ hdl
     obtain ⟨pend, h4, w4, f1, f2, f3, f4⟩ := endT_ok r3 k3
     have fr3 : FrR e3 ⟨a.t, a.sz, mk ++ a.df, a.gl⟩ { act with defers := (mk.map fun i => { target := .collected (e1.σ i), args := #[] }) ++ act.defers } := by
      have fra := fr1.mono (s2.le.trans s3.le)
      refine ⟨fra.size, fra.tmp, ?_, fun i hi => ?_, fra.glob⟩
      · show _ ++ act.defers = _
        rw [fra.df, List.map_append]
        congr 1
        refine List.map_congr_left fun i hi => ?_
        rw [(s2.le.trans s3.le).σ i (hm1 i hi)]
      · rcases List.mem_append.1 hi with hi | hi
        · exact (s2.le.trans s3.le).dom i (hm1 i hi)
        · exact fra.dom i hi
     refine ⟨pend, w4, by rw [<- hσl]; exact f1, ?_⟩
     cases pend with
     | none =>
       obtain ⟨rfl, rfl, rfl⟩ := f4
       exact hQ e3 _ w4 f2 fr3 (s03.trans f3)
     | some c =>
       have := hgo r c _ h4 x a' h' f4 e3 w4 _ f2 fr3 (fun l hl => s03.le.dom l (hrr l hl)) Q fun e' act' w' r' fr' s' => hQ e' act' w' r' fr' ((s03.trans f3).trans s')
       rw [fence_le s03.le hrr] at this
       exact this
 | _ => 
   unfold rangeW at k
   obtain ⟨q, -, k2⟩ := eb_ok k
   cases k2
end
end
section
set_option linter.unusedSimpArgs false
set_option linter.unusedVariables false
open Go Go.RowKit
theorem valEq_eq {a b : Value} (h : valEq a b = true) : a = b := by
 unfold valEq at h
 split at h
 · rw [Bool.and_eq_true] at h
   rw [of_decide_eq_true h.1, of_decide_eq_true h.2]
 · rename_i x y
   cases x <;> cases y <;> first | rfl | cases h
 · rename_i x y
   have := of_decide_eq_true h
   have h2 : x.data = y.data := Array.toList_inj.1 this
   cases x; cases y; cases h2; rfl
 · rename_i x y
   rw [Bool.and_eq_true] at h
   have h1 := Array.eq_empty_of_size_eq_zero (Nat.eq_of_beq_eq_true h.1)
   have h2 := Array.eq_empty_of_size_eq_zero (Nat.eq_of_beq_eq_true h.2)
   rw [h1, h2]
 · rw [Bool.and_eq_true] at h
   rw [of_decide_eq_true h.1, of_decide_eq_true h.2]
 · rfl
 · rfl
 · cases h
mutual
theorem vEq_eq : ∀ (v w : V), vEq v w = true -> v = w
 | .lit a, w, h => by
   unfold vEq at h
   cases w <;> first | (rw [valEq_eq h]; done) | cases h
 | .ptr b o, w, h => by
   unfold vEq at h
   cases w <;> simp only [Bool.and_eq_true] at h <;> first | (rw [Nat.eq_of_beq_eq_true h.1, Nat.eq_of_beq_eq_true h.2]; done) | cases h
 | .slc b o n c hid, w, h => by
   unfold vEq at h
   cases w <;> simp only [Bool.and_eq_true] at h <;> first
    | cases h; done
    | skip
   rename_i b' o' n' c' hid'
   obtain ⟨⟨h1, h2⟩, ⟨h3, h4⟩, h5⟩ := h
   rw [Nat.eq_of_beq_eq_true h1, Nat.eq_of_beq_eq_true h2, Nat.eq_of_beq_eq_true h3, Nat.eq_of_beq_eq_true h4]
   cases hid <;> cases hid' <;> first | rfl | cases h5
 | .map b, w, h => by
   unfold vEq at h
   cases w <;> first | (rw [Nat.eq_of_beq_eq_true h]; done) | cases h
 | .yld b, w, h => by
   unfold vEq at h
   cases w <;> first | (rw [Nat.eq_of_beq_eq_true h]; done) | cases h
 | .fn f a c, w, h => by
   unfold vEq at h
   cases w <;> simp only [Bool.and_eq_true] at h <;> first | (rw [Nat.eq_of_beq_eq_true h.1, vEqs_eq a _ h.2.1, vEqs_eq c _ h.2.2]; done) | cases h
 | .agg cs, w, h => by
   unfold vEq at h
   cases w <;> first | (rw [vEqs_eq cs _ h]; done) | cases h
 | .tup cs, w, h => by
   unfold vEq at h
   cases w <;> first | (rw [vEqs_eq cs _ h]; done) | cases h
 | .any, w, h => by unfold vEq at h; cases h
theorem vEqs_eq : ∀ (v w : List V), vEqs v w = true -> v = w
 | [], w, h => by
   unfold vEqs at h
   cases w <;> first | rfl | cases h
 | v :: vs, w, h => by
   unfold vEqs at h
   cases w <;> simp only [Bool.and_eq_true] at h <;> first | (rw [vEq_eq v _ h.1, vEqs_eq vs _ h.2]; done) | cases h
end
theorem natsEq_eq : ∀ (v w : List Nat), natsEq v w = true -> v = w
 | [], w, h => by
   unfold natsEq at h
   cases w <;> first | rfl | cases h
 | v :: vs, w, h => by
   unfold natsEq at h
   cases w <;> simp only [Bool.and_eq_true] at h <;> first | (rw [Nat.eq_of_beq_eq_true h.1, natsEq_eq vs _ h.2]; done) | cases h
theorem xEq_eq {x y : X} (h : xEq x y = true) : x = y := by
 cases x <;> cases y <;> first | rfl | (cases h; done) | skip
 have h' : Nat.beq _ _ = true := h
 rw [Nat.eq_of_beq_eq_true h']
mutual
theorem VR_back {e e' : Env} (h : Le e e') : ∀ (v : V) (x y : Value), VR e v y -> VR e' v x -> VR e v x
 | .lit v, x, y, k, j => VR_lit.2 (VR_lit.1 j)
 | .ptr b off, x, y, k, j => VR_ptr.2 ⟨(VR_ptr.1 k).1, by rw [<- h.σ b (VR_ptr.1 k).1]; exact (VR_ptr.1 j).2⟩
 | .slc b off len cap hid, x, y, k, j => VR_slc.2 ⟨(VR_slc.1 k).1, by rw [<- h.σ b (VR_slc.1 k).1, <- h.κ b (VR_slc.1 k).1]; exact (VR_slc.1 j).2⟩
 | .map b, x, y, k, j => VR_map.2 ⟨(VR_map.1 k).1, by rw [<- h.σ b (VR_map.1 k).1]; exact (VR_map.1 j).2⟩
 | .fn f a c, x, y, k, j => by
   obtain ⟨l, m, k1, k2, k3⟩ := VR_fn.1 k
   obtain ⟨l', m', j1, j2, j3⟩ := VR_fn.1 j
   exact VR_fn.2 ⟨l', m', j1, VRs_back h a l' l k2 j2, VRs_back h c m' m k3 j3⟩
 | .yld b, x, y, k, j => VR_yld.2 ⟨(VR_yld.1 k).1, by rw [<- h.σ b (VR_yld.1 k).1]; exact (VR_yld.1 j).2⟩
 | .agg cs, x, y, k, j => by
   obtain ⟨l, k1, k2⟩ := VR_agg.1 k
   obtain ⟨l', j1, j2⟩ := VR_agg.1 j
   exact VR_agg.2 ⟨l', j1, VRs_back h cs l' l k2 j2⟩
 | .tup cs, x, y, k, j => by
   obtain ⟨l, k1, k2⟩ := VR_tup.1 k
   obtain ⟨l', j1, j2⟩ := VR_tup.1 j
   exact VR_tup.2 ⟨l', j1, VRs_back h cs l' l k2 j2⟩
 | .any, x, y, k, j => (VR_any k).elim
theorem VRs_back {e e' : Env} (h : Le e e') : ∀ (vs : List V) (l m : List Value), VRs e vs m -> VRs e' vs l -> VRs e vs l
 | [], l, m, k, j => VRs_nil.2 (VRs_nil.1 j)
 | v :: vs, l, m, k, j => by
   obtain ⟨x, xs, k1, k2, k3⟩ := VRs_cons.1 k
   obtain ⟨y, ys, j1, j2, j3⟩ := VRs_cons.1 j
   exact VRs_cons.2 ⟨y, ys, j1, VR_back h v y x k2 j2, VRs_back h vs ys xs k3 j3⟩
end
theorem forget_ok {e : Env} {tm : Array Value} : ∀ (ds : List Tmp) (t : Tr V), (∀ i, TR e ((t.get i).getD uV) (tm.getD i undef)) -> ∀ i, TR e (((forgetT ds t).get i).getD uV) (tm.getD i undef)
 | [], t, h => h
 | d :: ds, t, h => by
   unfold forgetT
   rw [Tr.setK_eq]
   refine forget_ok ds _ fun i => ?_
   by_cases hi : i = d
   · subst hi; rw [Tr.get_set_same]; exact .inl rfl
   · rw [Tr.get_set_other _ _ hi]; exact h i
theorem refine_ok {e e' : Env} {tm : Array Value} {a : Fr} {es : List Fr} (ha : a ∈ es) (h' : ∀ i, TR e' ((a.t.get i).getD uV) (tm.getD i undef)) : ∀ (ds : List Tmp) (t : Tr V), (∀ i, TR e ((t.get i).getD uV) (tm.getD i undef)) -> ∀ i, TR e (((refineT es ds t).get i).getD uV) (tm.getD i undef)
 | [], t, h => h
 | d :: ds, t, h => by
   unfold refineT
   cases es with
   | nil => cases ha
   | cons b rest =>
     simp only
     split
     · next hc =>
       rw [Bool.and_eq_true, List.all_eq_true] at hc
       rw [Tr.setK_eq]
       refine refine_ok ha h' ds _ fun i => ?_
       by_cases hi : i = d
       · subst hi
         rw [Tr.get_set_same]
         have heq : (b.t.get i).getD uV = (a.t.get i).getD uV := by
          rcases List.mem_cons.1 ha with rfl | hr
          · rfl
          · exact vEq_eq _ _ (hc.2 a hr)
         refine .inr ?_
         show VR e ((b.t.get i).getD uV) _
         have hb := hc.1
         rw [heq] at hb ⊢
         refine bare_VR hb ((h' i).resolve_left fun hany => ?_)
         rw [hany] at hb
         cases hb
       · rw [Tr.get_set_other _ _ hi]; exact h i
     · exact refine_ok ha h' ds t h
theorem leq_ok {e e' : Env} {a a0 : Fr} {act act' : Act} (hl : leqF a a0 = true) (le : Le e e') (f0 : FrR e a0 act) (f : FrR e' a act') : FrR e a0 act' := by
 unfold leqF at hl
 rw [Bool.and_eq_true, Bool.and_eq_true] at hl
 obtain ⟨⟨h1, h2⟩, h3⟩ := hl
 have h1 := Nat.eq_of_beq_eq_true h1
 have h2 := natsEq_eq _ _ h2
 refine ⟨by rw [f.size, h1], fun i => ?_, by rw [f.df, h2]; exact List.map_congr_left fun d hd => by rw [le.σ d (f0.dom d hd)], f0.dom, f0.glob⟩
 by_cases hi : i < a0.sz
 · unfold leqT at h3
   rw [List.all_eq_true] at h3
   have h4 := h3 i (List.mem_range.2 hi)
   have hf := f.tmp i
   have hf0 := f0.tmp i
   cases hg : a0.t.get i with
   | none =>
     rw [hg] at h4 hf0
     rw [vEq_eq _ _ h4] at hf
     refine .inr (VR_lit.2 ?_)
     exact VR_lit.1 (hf.resolve_left fun h => by cases h)
   | some u =>
     rw [hg] at h4 hf0
     by_cases hu : u = .any
     · exact .inl hu
     · have h5 : vEq ((a.t.get i).getD uV) u = true := by
        cases u <;> first | exact h4 | exact absurd rfl hu
       rw [vEq_eq _ _ h5] at hf
       exact .inr (VR_back le u _ _ (hf0.resolve_left hu) (hf.resolve_left hu))
 · have e1 : act'.tmps.getD i undef = undef := by
    rw [Array.getD_eq_getD_getElem?, Array.getElem?_eq_none (by rw [f.size, h1]; omega)]; rfl
   have e2 : act.tmps.getD i undef = undef := by
    rw [Array.getD_eq_getD_getElem?, Array.getElem?_eq_none (by rw [f0.size]; omega)]; rfl
   have := f0.tmp i
   rw [e2] at this
   rw [e1]
   exact this
section model
variable {P : Program} {w : World}
theorem choose_some (n : Nat) (hn : 0 < n) : ∃ i w1, (choose (.mapNext n)).run P w = .ok i w1 /\ i < n /\ (w1 = w ∨ w1 = w.drew) := by
 rw [run_choose]
 by_cases hf : (Question.mapNext n).forced = true
 · rw [if_pos hf]; exact ⟨0, w, rfl, hn, .inl rfl⟩
 · rw [if_neg hf]
   exact ⟨_, _, rfl, Nat.mod_lt _ hn, .inr rfl⟩
theorem next_map {R M clk : Nat} {seen : Array Nat} {l : List MapEntry} {t : TypeId} (h1 : w.heap[R]? = some (.mapIter (some M) clk seen clk)) (h2 : w.heap[M]? = some (.map l.toArray clk)) (hb : ∀ x ∈ l, x.born < clk) :
  ((Instr.next (.pointer (some ⟨R, 0, none⟩)) false t).run P w = .ok (.tuple #[.bool false]) w /\ ∀ x ∈ l, seen.contains x.born = true) ∨
  ∃ x w1, x ∈ l /\ seen.contains x.born = false /\ (w1 = w ∨ w1 = w.drew) /\ (Instr.next (.pointer (some ⟨R, 0, none⟩)) false t).run P w = .ok (.tuple #[.bool true, x.key, x.val]) { w1 with heap := w1.heap.setIfInBounds R (.mapIter (some M) clk (seen.push x.born) clk) } := by
 have g1 := getObj_run (P := P) h1 (fun _ _ _ => by simp)
 have g2 := getObj_run (P := P) h2 (fun _ _ _ => by simp)
 have hc : (!seen.isEmpty && !l.toArray.isEmpty && l.toArray.all (·.born ≥ clk)) = false := by
  cases l with
  | nil => simp
  | cons x l =>
    have : (decide (x.born ≥ clk)) = false := by have := hb x (by simp); simp; omega
    simp [this]
 have hold : ((l.toArray.filter fun e => !seen.contains e.born).filter (·.born < clk)) = (l.filter fun e => !seen.contains e.born).toArray := by
  rw [List.filter_toArray, List.filter_toArray]
  congr 1
  rw [List.filter_eq_self]
  intro x hx
  exact decide_eq_true (hb x (List.mem_filter.1 hx).1)
 have hnew : ((l.toArray.filter fun e => !seen.contains e.born).filter (·.born ≥ clk)) = #[] := by
  rw [List.filter_toArray, List.filter_toArray]
  rw [List.filter_eq_nil_iff.2]
  intro x hx
  have := hb x (List.mem_filter.1 hx).1
  simp; omega
 generalize hL : l.filter (fun e => !seen.contains e.born) = L at hold
 have hrun : (Instr.next (.pointer (some ⟨R, 0, none⟩)) false t).run P w = (do
   match ((if L.toArray.isEmpty then #[none] else #[]) ++ (L.toArray ++ #[]).map some)[<- choose (.mapNext ((if L.toArray.isEmpty then #[none] else #[]) ++ (L.toArray ++ #[]).map some).size)]? with
   | some (some e) =>
     setObj R (.mapIter (some M) clk (seen.push e.born) clk)
     pure (.tuple #[.bool true, e.key, e.val])
   | some none => pure (.tuple #[.bool false])
   | none => stuck "Next: no such candidate" : Sem Value).run P w := by
  simp only [Instr.next, Sem.run_bind, g1, Result.andThen_ok, g2, hc, Bool.false_eq_true, if_false, hold, hnew, Sem.run_pure]
  rfl
 cases L with
 | nil =>
   refine .inl ⟨?_, fun x hx => ?_⟩
   · have hcs : ((if ([] : List MapEntry).toArray.isEmpty then #[none] else #[]) ++ (([] : List MapEntry).toArray ++ #[]).map some) = #[none] := by simp
     rw [hcs] at hrun
     rw [hrun]
     have hf : (Question.mapNext (#[none] : Array (Option MapEntry)).size).forced = true := rfl
     simp only [Sem.run_bind, run_choose, hf, if_true, Result.andThen_ok]
     rfl
   · have := List.filter_eq_nil_iff.1 hL x hx
     simpa using this
 | cons y L =>
   refine .inr ?_
   have hne : (y :: L).toArray.isEmpty = false := by simp
   have hcs : ((if (y :: L).toArray.isEmpty then #[none] else #[]) ++ ((y :: L).toArray ++ #[]).map some) = ((y :: L).map some).toArray := by
    rw [hne]; simp
   rw [hcs] at hrun
   obtain ⟨i, w1, c1, c2, c3⟩ := choose_some (P := P) (w := w) ((y :: L).map some).toArray.size (by simp)
   have hi : i < (y :: L).length := by simpa using c2
   have hx : (y :: L)[i] ∈ l.filter fun e => !seen.contains e.born := by rw [hL]; exact List.getElem_mem hi
   obtain ⟨x1, x2⟩ := List.mem_filter.1 hx
   have hw1 : w1.heap = w.heap := by rcases c3 with rfl | rfl <;> rfl
   have g3 := setObj_run (P := P) (w := w1) (r := R) (o' := .mapIter (some M) clk (seen.push (y :: L)[i].born) clk) (by rw [hw1]; exact h1) (fun _ _ _ => by simp)
   refine ⟨(y :: L)[i], w1, x1, by simpa using x2, c3, ?_⟩
   rw [hrun]
   have hget : ((y :: L).map some).toArray[i]? = some (some (y :: L)[i]) := by
    rw [List.getElem?_toArray, List.getElem?_map, List.getElem?_eq_getElem hi]; rfl
   simp only [Sem.run_bind, c1, Result.andThen_ok, hget, g3, Sem.run_pure]
end model
theorem mapAt_spec {a : Fr} {h : H} {c : Code} {q : Mr} (k : mapAt a h c = some q) : ∃ (id : Nat) (ty : TypeId) (pos : String) (af : Array Edge), c = .seq (.region id q.ops false) q.y /\ q.ops.toList = ⟨q.dst, .next q.it false, ty, pos, af, none⟩ :: q.post /\ h.get q.b = some (.miter q.m q.clk) /\ h.get q.m = some (.map q.es q.clk) := by
 unfold mapAt at k
 split at k
 · split at k
   · rename_i id ops y dst it post hn
     split at k
     · split at k
       · rename_i m clk hm
         split at k
         · rename_i es c hes
           split at k
           · next hc =>
             cases k
             have hc := Nat.eq_of_beq_eq_true hc
             subst hc
             unfold nextOf at hn
             split at hn
             · rename_i hl
               cases hn
               exact ⟨_, _, _, _, rfl, hl, hm, hes⟩
             · cases hn
             · cases hn
           · cases k
         · cases k
       · cases k
     · cases k
   · cases k
 · cases k
theorem bornOk_lt : ∀ {clk : Nat} {es : List (Value × V × Nat)}, bornOk clk es = true -> ∀ q ∈ es, q.2.2 < clk
 | clk, x :: es, h, q, hq => by
   unfold bornOk at h
   rw [Bool.and_eq_true, Bool.and_eq_true] at h
   rcases List.mem_cons.1 hq with rfl | hq
   · exact Nat.lt_of_succ_le (Nat.le_of_ble_eq_true h.1)
   · exact bornOk_lt h.2.2 q hq
theorem bornOk_inj : ∀ {clk : Nat} {es : List (Value × V × Nat)}, bornOk clk es = true -> ∀ q ∈ es, ∀ r ∈ es, q.2.2 = r.2.2 -> q = r
 | clk, x :: es, h, q, hq, r, hr, e => by
   unfold bornOk at h
   rw [Bool.and_eq_true, Bool.and_eq_true, List.all_eq_true] at h
   rcases List.mem_cons.1 hq with rfl | hq'
   · rcases List.mem_cons.1 hr with rfl | hr'
     · rfl
     · have := h.2.1 r hr'
       rw [e, Nat.beq_refl] at this
       cases this
   · rcases List.mem_cons.1 hr with rfl | hr'
     · have := h.2.1 q hq'
       rw [<- e, Nat.beq_refl] at this
       cases this
     · exact bornOk_inj h.2.2 q hq' r hr' e
theorem EsR_mem {e : Env} : ∀ {es : List (Value × V × Nat)} {l : List MapEntry}, EsR e es l -> ∀ x ∈ l, ∃ q ∈ es, x.key = q.1 /\ VR e q.2.1 x.val /\ x.born = q.2.2
 | [], l, h, x, hx => by rw [show l = [] from h] at hx; cases hx
 | q :: es, l, h, x, hx => by
   obtain ⟨y, l', rfl, h2, h3⟩ := h
   rcases List.mem_cons.1 hx with rfl | hx
   · exact ⟨q, by simp, rfl, h2, rfl⟩
   · obtain ⟨q', g1, g2⟩ := EsR_mem h3 x hx
     exact ⟨q', List.mem_cons_of_mem _ g1, g2⟩
theorem EsR_mem' {e : Env} : ∀ {es : List (Value × V × Nat)} {l : List MapEntry}, EsR e es l -> ∀ q ∈ es, ∃ x ∈ l, x.born = q.2.2
 | q :: es, l, h, r, hr => by
   obtain ⟨y, l', rfl, h2, h3⟩ := h
   rcases List.mem_cons.1 hr with rfl | hr
   · exact ⟨_, List.mem_cons_self, rfl⟩
   · obtain ⟨x, g1, g2⟩ := EsR_mem' h3 r hr
     exact ⟨x, List.mem_cons_of_mem _ g1, g2⟩
section
variable {P : Program}
noncomputable def matH (q : Mr) (s : Nat) (h : H) : H := ⟨h.n, h.p, h.x, Tr.setP (some (.mat q.m q.clk s)) (Tr.path q.b) h.m⟩
theorem rounds_mem {go : Run} {r : Option Nat} {q : Mr} {a : Fr} {h : H} : ∀ {es : List (Value × V × Nat)} {l : List (X × Fr)}, roundsM P go r q a h es = .ok l ->
  (∀ e ∈ es, ∃ x a' h', (x, a') ∈ l /\ roundM P go r q a (.tup [.lit (.bool true), .lit e.1, e.2.1]) (matH q e.2.2 h) = .ok (x, a', h') /\ leqF a' a = true) /\
  (∀ s ∈ l, ∃ e ∈ es, ∃ h', roundM P go r q a (.tup [.lit (.bool true), .lit e.1, e.2.1]) (matH q e.2.2 h) = .ok (s.1, s.2, h'))
 | [], l, k => by cases k; exact ⟨fun e he => (by cases he), fun e he => (by cases he)⟩
 | e :: es, l, k => by
   unfold roundsM at k
   rw [Tr.setK_eq] at k
   obtain ⟨⟨x, a', h'⟩, k1, k⟩ := eb_ok k
   obtain ⟨k2, k⟩ := ec_ok k
   obtain ⟨l', k3, k⟩ := eb_ok k
   cases k
   obtain ⟨i1, i2⟩ := rounds_mem k3
   refine ⟨fun e' he => ?_, fun s hs => ?_⟩
   · rcases List.mem_cons.1 he with rfl | he
     · exact ⟨x, a', h', List.mem_cons_self, k1, k2⟩
     · obtain ⟨y, b, g, g1, g2⟩ := i1 e' he
       exact ⟨y, b, g, List.mem_cons_of_mem _ g1, g2⟩
   · rcases List.mem_cons.1 hs with rfl | hs
     · exact ⟨e, List.mem_cons_self, h', k1⟩
     · obtain ⟨e', g1, g2⟩ := i2 s hs
       exact ⟨e', List.mem_cons_of_mem _ g1, g2⟩
theorem roundM_ok {go : Run} {r : Option Nat} {q : Mr} {a a' : Fr} {v : V} {x : Value} {h h' : H} {x' : X} {e : Env} {w : World} {act : Act} {o : Oper} (hgo : GoOk P go) (hops : q.ops.toList = o :: q.post) (k : roundM P go r q a v h = .ok (x', a', h')) (re : Rel P e h w) (fr : FrR e a act) (hv : VR e v x) (hrr : ∀ l, r = some l -> e.dom l)
  {Q : Exit -> Act -> World -> Prop} (hQ : ∀ e' act' w', Rel P e' h' w' -> FrR e' a' act' -> Step h e w h' e' w' -> Q x'.out act' w') :
  wpOpsIn (fence e r) 9 P q.ops (Exit.then (q.y.wpIn (fence e r) 9 P Q) Q) (List.range' 1 q.post.length) (act.put q.dst x) w := by
 unfold roundM at k
 rw [putK_eq] at k
 obtain ⟨⟨a2, h2⟩, k1, k2⟩ := eb_ok k
 refine ops_ok (rr := r) hgo q.post [o] (a.put q.dst v) h a2 h2 (by rw [hops]; rfl) k1 e w (act.put q.dst x) re (fr.put q.dst hv) hrr _ fun e1 act1 w1 r1 fr1 s1 => ?_
 show q.y.wpIn (fence e r) 9 P Q act1 w1
 rw [<- fence_le s1.le hrr]
 exact hgo r q.y a2 h2 x' a' h' k2 e1 w1 act1 r1 fr1 (fun l hl => s1.le.dom l (hrr l hl)) Q fun e' act' w' r' fr' s' => hQ e' act' w' r' fr' (s1.trans s')
end
end
section
set_option linter.unusedSimpArgs false
set_option linter.unusedVariables false
open Go Go.RowKit
section
variable {P : Program}
theorem then_out {K : Act -> World -> Prop} {Q : Exit -> Act -> World -> Prop} {x : X} {act : Act} {w : World} (hx : x ≠ .normal) (h : Q x.out act w) : Exit.then K Q x.out act w := by
 cases x with
 | normal => exact absurd rfl hx
 | exit id => exact h
 | ret => exact h
theorem isOut_iff {s : X × Fr} : isOut s = true ↔ s.1 ≠ .normal := by
 obtain ⟨x, a⟩ := s
 cases x <;> simp [isOut]
structure Far (K : Nat) (W w : World) : Prop where
 os : w.os = W.os
 tape : w.tape = W.tape
 output : w.output = W.output
 size : W.heap.size <= w.heap.size
 keep : ∀ k, k < W.heap.size -> k ≠ K -> w.heap[k]? = W.heap[k]?
theorem cnt_push {es : List (Value × V × Nat)} {seen : Array Nat} {z : Value × V × Nat} (hz : z ∈ es) (hs : seen.contains z.2.2 = false) : (es.filter fun y => !(seen.push z.2.2).contains y.2.2).length < (es.filter fun y => !seen.contains y.2.2).length := by
 have hle : ∀ l : List (Value × V × Nat), (l.filter fun y => !(seen.push z.2.2).contains y.2.2).length <= (l.filter fun y => !seen.contains y.2.2).length := fun l => by
  induction l with
  | nil => exact Nat.le_refl _
  | cons y l ih =>
    simp only [List.filter_cons]
    by_cases h1 : seen.contains y.2.2 = true
    · have h2 : (seen.push z.2.2).contains y.2.2 = true := by simp at h1 ⊢; exact .inl h1
      simp only [h1, h2, Bool.not_true, Bool.false_eq_true, if_false]
      exact ih
    · have h1' := Bool.eq_false_iff.2 h1
      simp only [h1', Bool.not_false, if_true, List.length_cons]
      split
      · simp only [List.length_cons]; omega
      · omega
 induction es with
 | nil => cases hz
 | cons y l ih =>
   simp only [List.filter_cons]
   rcases List.mem_cons.1 hz with rfl | hz
   · have h2 : (seen.push z.2.2).contains z.2.2 = true := by simp
     simp only [hs, h2, Bool.not_true, Bool.not_false, Bool.false_eq_true, if_false, if_true, List.length_cons]
     have := hle l
     omega
   · have ih := ih hz
     by_cases h1 : seen.contains y.2.2 = true
     · have h2 : (seen.push z.2.2).contains y.2.2 = true := by simp at h1 ⊢; exact .inl h1
       simp only [h1, h2, Bool.not_true, Bool.false_eq_true, if_false]
       exact ih
     · have h1' := Bool.eq_false_iff.2 h1
       simp only [h1', Bool.not_false, if_true, List.length_cons]
       split
       · simp only [List.length_cons]; omega
       · omega
theorem mapW_ok {go : Run} (hgo : GoOk P go) {r : Option Nat} {c : Code} {a a' : Fr} {h h' : H} {x : X} {q : Mr} (hq : mapAt a h c = some q) (k : mapW P go r c a h q = .ok (x, a', h')) : ∃ N, ∀ n, N <= n -> ∀ (e : Env) (W : World) (act : Act), Rel P e h W -> FrR e a act -> (∀ l, r = some l -> e.dom l) ->
  ∀ Q : Exit -> Act -> World -> Prop, (∀ e' act' w', Rel P e' h' w' -> FrR e' a' act' -> Step h e W h' e' w' -> Q x.out act' w') -> Code.roundsIn (fence e r) 9 P c Q n act W := by
 obtain ⟨id, ty, pos, af, hc, hops, hbit, hbm⟩ := mapAt_spec hq
 unfold mapW at k
 obtain ⟨kb, k⟩ := ec_ok k
 rw [Bool.and_eq_true] at kb
 obtain ⟨kb, kf⟩ := kb
 rw [Tr.setK_eq, fNat_eq] at k
 simp only at k
 obtain ⟨ki, k⟩ := ec_ok k
 obtain ⟨l, kr, k⟩ := eb_ok k
 have hfree : free h q.b := by
  rcases Bool.or_eq_true_iff.1 kf with k1 | k1
  · exact .inl (Nat.le_of_ble_eq_true k1)
  · exact .inr (Nat.eq_of_beq_eq_true k1)
 generalize hds : dstsC c = ds at *
 obtain ⟨m1, m2⟩ := rounds_mem kr
 refine ⟨q.es.length + 1, fun n hn e W act0 rel0 fr0 hrr Q hQ => ?_⟩
 obtain ⟨hdb, ob, hob, rfl, hdm⟩ := rel0.at_ _ _ hbit
 have hne : q.m ≠ q.b := fun hmb => by rw [hmb, hbit] at hbm; cases hbm
 have hev : ev ⟨forgetT ds a.t, a.sz, a.df, a.gl⟩ q.it = .ok (.ptr q.b 0) := by
  unfold isAt at ki
  split at ki
  · next hh => rw [hh, Nat.eq_of_beq_eq_true ki]
  · cases ki
 have frf : ∀ act, FrR e a act -> FrR e ⟨forgetT ds a.t, a.sz, a.df, a.gl⟩ act := fun act fr => ⟨fr.size, forget_ok ds a.t fr.tmp, fr.df, fr.dom, fr.glob⟩
 generalize ha0 : (⟨forgetT ds a.t, a.sz, a.df, a.gl⟩ : Fr) = a0 at *
 generalize hmm : Tr.setP none (Tr.path q.b) h.m = mm at *
 have hgm : ∀ b o, (⟨h.n, h.p, h.x, mm⟩ : H).get b = some o -> b ≠ q.b /\ h.get b = some o := fun b o hb => by
  subst hmm
  by_cases hbb : b = q.b
  · subst hbb; rw [get_set_same] at hb; cases hb
  · rw [get_set_other _ _ _ _ _ hbb] at hb; exact ⟨hbb, hb⟩
 have hmget : (⟨h.n, h.p, h.x, mm⟩ : H).get q.m = some (.map q.es q.clk) := by
  subst hmm
  rw [get_set_other _ _ _ _ _ hne]; exact hbm
 have hap : ∀ b o, (⟨h.n, h.p, h.x, mm⟩ : H).get b = some o -> e.σ b ≠ e.σ q.b := fun b o hb he => (hgm b o hb).1 (rel0.inj b q.b _ _ (hgm b o hb).2 hbit he)
 have far_step : ∀ w, Far (e.σ q.b) W w -> Step h e W ⟨h.n, h.p, h.x, mm⟩ e w := fun w f =>
  ⟨Le.refl e, Nat.le_refl _, rfl, rfl, fun _ hb => .inl hb, fun _ hb hnb => absurd hb hnb, f.os, f.tape, f.output, f.size, fun k hk hk2 => f.keep k hk fun hkb => hk2 q.b hdb hfree hkb.symm⟩
 have key : ∀ (n : Nat) (seen : Array Nat) (act : Act) (w : World), (q.es.filter fun y => !seen.contains y.2.2).length < n -> Rel P e ⟨h.n, h.p, h.x, mm⟩ w -> FrR e a0 act ->
   w.heap[e.σ q.b]? = some (.mapIter (some (e.σ q.m)) q.clk seen q.clk) -> Far (e.σ q.b) W w ->
   (∀ s, seen.contains s = true -> ∃ z ∈ q.es, z.2.2 = s /\ ∃ a1 h1, (X.normal, a1) ∈ l /\ roundM P go r q a0 (.tup [.lit (.bool true), .lit z.1, z.2.1]) (matH q z.2.2 ⟨h.n, h.n, h.n, mm⟩) = .ok (.normal, a1, h1)) ->
   Code.roundsIn (fence e r) 9 P c Q n act w := fun n => by
  induction n with
  | zero => exact fun seen act w hlt => absurd hlt (Nat.not_lt_zero _)
  | succ n ih =>
    intro seen act w hlt rel fr hit far hseen
    rw [roundsIn_succ, hc]
    refine wpIn_seq (wpIn_region ?_)
    have hlen : q.ops.size = 1 + q.post.length := by rw [<- Array.length_toList, hops]; simp; omega
    have hhead : q.ops[0]? = some ⟨q.dst, .next q.it false, ty, pos, af, none⟩ := by rw [<- Array.getElem?_toList, hops]; rfl
    rw [List.range_eq_range', hlen, Nat.add_comm, List.range'_succ]
    unfold wpOpsIn
    rw [hhead]
    simp only
    have hwt : Region.wanted ⟨q.dst, .next q.it false, ty, pos, af, none⟩ (yielded q.ops act.tmps) = true := rfl
    rw [hwt]
    simp only [if_true]
    refine ⟨fun f _ => fence_fn e r f, ?_⟩
    rw [Oper.semAt_eq _ _ _ (fun c hc => by cases hc)]
    have hp := fr.ev q.it _ hev
    have hx0 : act.eval q.it = .pointer (some ⟨e.σ q.b, 0, none⟩) := (VR_ptr.1 hp).2
    have hexec : ∀ (x : Value) (w' : World), (Instr.next (.pointer (some ⟨e.σ q.b, 0, none⟩)) false ty).run P w = .ok x w' -> (execOp act.eval ⟨q.dst, .next q.it false, ty, pos, af, none⟩).run P w = .ok (.value x) w' := fun x w' hx => by
     have e3 : (execOp act.eval ⟨q.dst, .next q.it false, ty, pos, af, none⟩) = (do let x <- Instr.next (act.eval q.it) false ty; pure (.value x)) := rfl
     rw [e3, hx0]
     simp only [Sem.run_bind, hx, Result.andThen_ok, Sem.run_pure]
    obtain ⟨-, om, hom, es', rfl, hes'⟩ := rel.at_ _ _ hmget
    rcases next_map (P := P) (t := ty) hit hom (fun x hx => by
     obtain ⟨z, hz, -, -, h3⟩ := EsR_mem hes' x hx
     rw [h3]; exact bornOk_lt kb z hz) with ⟨hrun, hall⟩ | ⟨y, w1, hy, hys, hw1, hrun⟩
    · rw [hexec _ _ hrun]
      -- all entries came
      have hnone : l.filter isOut = [] := by
       rw [List.filter_eq_nil_iff]
       intro s hs
       obtain ⟨z, hz, h1, hr1⟩ := m2 s hs
       obtain ⟨y, hy, hyb⟩ := EsR_mem' hes' z hz
       obtain ⟨z', hz', hb', a1, h2, -, hr2⟩ := hseen _ (hall y hy)
       have hzz : z' = z := bornOk_inj kb z' hz' z hz (by rw [hb', hyb])
       subst hzz
       rw [hr1] at hr2
       have : s.1 = X.normal := by
        have := Except.ok.inj hr2
        exact (Prod.mk.inj this).1
       rw [isOut_iff]
       exact fun hn => hn this
      rw [hnone] at k
      simp only at k
      obtain ⟨⟨x1, a1, h1⟩, k1, k2⟩ := eb_ok k
      have hx1 : x1 ≠ .normal /\ (x1, a1, h1) = (x, a', h') := by
       cases x1 with
       | normal => cases k2
       | exit id => exact ⟨fun h => (by cases h), Except.ok.inj k2⟩
       | ret => exact ⟨fun h => (by cases h), Except.ok.inj k2⟩
      obtain ⟨hx1, he1⟩ := hx1
      cases he1
      refine roundM_ok hgo hops k1 rel fr (VR_tup.2 ⟨[.bool false], rfl, VRs_cons.2 ⟨_, _, rfl, VR_lit.2 rfl, VRs_nil.2 rfl⟩⟩) hrr fun e' act' w' r' fr' s' => then_out hx1 (hQ e' act' w' r' fr' ((far_step w far).trans s'))
    · rw [hexec _ _ hrun]
      obtain ⟨z, hz, hk1, hk2, hk3⟩ := EsR_mem hes' y hy
      obtain ⟨x1, a1, h1, hmem, hr1, hleq⟩ := m1 z hz
      have hw1h : w1.heap = w.heap := by rcases hw1 with rfl | rfl <;> rfl
      have hw1o : w1.os = w.os /\ w1.tape = w.tape /\ w1.output = w.output := by rcases hw1 with rfl | rfl <;> exact ⟨rfl, rfl, rfl⟩
      have hszb : e.σ q.b < w.heap.size := by
       have := rel0.old _ hdb
       have := far.size
       omega
      generalize hw2 : ({ w1 with heap := w1.heap.setIfInBounds (e.σ q.b) (.mapIter (some (e.σ q.m)) q.clk (seen.push y.born) q.clk) } : World) = w2 at *
      have hw2h : w2.heap = w.heap.setIfInBounds (e.σ q.b) (.mapIter (some (e.σ q.m)) q.clk (seen.push y.born) q.clk) := by rw [<- hw2]; show w1.heap.setIfInBounds _ _ = _; rw [hw1h]
      have hw2s : w2.heap.size = w.heap.size := by rw [hw2h, Array.size_setIfInBounds]
      have hw2o : ∀ k, k ≠ e.σ q.b -> w2.heap[k]? = w.heap[k]? := fun k hk => by rw [hw2h, Array.getElem?_setIfInBounds_ne (Ne.symm hk)]
      have rel1 : Rel P e ⟨h.n, h.n, h.n, mm⟩ w2 := ⟨rel.lt, fun b hb => by rw [hw2s]; exact rel.old b hb, fun b o hb => by
       obtain ⟨g1, x, g2, g3⟩ := rel.at_ b o hb
       exact ⟨g1, x, by rw [hw2o _ (hap b o hb)]; exact g2, g3⟩, rel.inj⟩
      have rel2 : Rel P e (matH q z.2.2 ⟨h.n, h.n, h.n, mm⟩) w2 := by
       refine ⟨rel1.lt, rel1.old, fun b o hb => ?_, fun b c o1 o2 hb hc he => ?_⟩
       · unfold matH at hb
         by_cases hbb : b = q.b
         · subst hbb
           rw [get_set_same] at hb
           cases hb
           refine ⟨hdb, _, ?_, seen.push y.born, rfl, by rw [Array.back?_push, hk3], hdm⟩
           rw [hw2h, Array.getElem?_setIfInBounds_self_of_lt hszb]
         · rw [get_set_other _ _ _ _ _ hbb] at hb
           exact rel1.at_ b o hb
       · unfold matH at hb hc
         by_cases hbb : b = q.b
         · by_cases hcc : c = q.b
           · rw [hbb, hcc]
           · rw [get_set_other _ _ _ _ _ hcc] at hc
             exact absurd (hbb ▸ he.symm) (hap c o2 hc)
         · rw [get_set_other _ _ _ _ _ hbb] at hb
           by_cases hcc : c = q.b
           · exact absurd (hcc ▸ he) (hap b o1 hb)
           · rw [get_set_other _ _ _ _ _ hcc] at hc
             exact rel1.inj b c o1 o2 hb hc he
      have hv : VR e (.tup [.lit (.bool true), .lit z.1, z.2.1]) (.tuple #[.bool true, y.key, y.val]) := VR_tup.2 ⟨[.bool true, y.key, y.val], rfl, VRs_cons.2 ⟨_, _, rfl, VR_lit.2 rfl, VRs_cons.2 ⟨_, _, rfl, VR_lit.2 hk1, VRs_cons.2 ⟨_, _, rfl, hk2, VRs_nil.2 rfl⟩⟩⟩⟩
      refine roundM_ok hgo hops hr1 rel2 fr hv hrr fun e' act' w' r' fr' s' => ?_
      have hkeep : ∀ k, k < w2.heap.size -> w'.heap[k]? = w2.heap[k]? := fun k hk => s'.keep k hk fun c hc hf _ => by
       have := rel0.lt c hc
       rcases hf with hf | hf
       · exact absurd hf (by show ¬ h.n <= c; omega)
       · have : c = h.n := hf
         omega
      have far' : Far (e.σ q.b) W w' := by
       refine ⟨by rw [s'.os, <- hw2]; show w1.os = _; rw [hw1o.1]; exact far.os, by rw [s'.tape, <- hw2]; show w1.tape = _; rw [hw1o.2.1]; exact far.tape, by rw [s'.output, <- hw2]; show w1.output = _; rw [hw1o.2.2]; exact far.output, ?_, fun k hk hkb => ?_⟩
       · have := s'.size
         have := far.size
         omega
       · have := far.size
         rw [hkeep k (by omega), hw2o k hkb]
         exact far.keep k hk hkb
      have rel' : Rel P e ⟨h.n, h.p, h.x, mm⟩ w' := ⟨rel.lt, fun b hb => by have := rel.old b hb; have := s'.size; omega, fun b o hb => by
       obtain ⟨g1, x, g2, g3⟩ := rel1.at_ b o hb
       exact ⟨g1, x, by rw [hkeep _ (rel1.old b g1)]; exact g2, g3⟩, rel.inj⟩
      have frn : FrR e a0 act' := leq_ok hleq s'.le fr fr'
      by_cases hx1 : x1 = .normal
      · subst hx1
        show Code.roundsIn (fence e r) 9 P (.seq (.region id q.ops false) q.y) Q n act' w'
        rw [<- hc]
        refine ih (seen.push z.2.2) act' w' ?_ rel' frn ?_ far' fun s hs => ?_
        · have := cnt_push hz (seen := seen) (by rw [<- hk3]; exact hys)
          omega
        · rw [hkeep _ (by omega), hw2h, Array.getElem?_setIfInBounds_self_of_lt hszb, hk3]
        · rw [Array.contains_push] at hs
          rcases Bool.or_eq_true_iff.1 hs with hs | hs
          · exact hseen s hs
          · exact ⟨z, hz, (by simpa using hs : s = z.2.2).symm, a1, h1, hmem, hr1⟩
      · have hin : (x1, a1) ∈ l.filter isOut := List.mem_filter.2 ⟨hmem, isOut_iff.2 hx1⟩
        cases hfl : l.filter isOut with
        | nil => rw [hfl] at hin; cases hin
        | cons s rest =>
          rw [hfl] at k hin
          simp only at k
          obtain ⟨kx, k⟩ := ec_ok k
          rw [List.all_eq_true] at kx
          have hsx : s.1 = x1 := by
           rcases List.mem_cons.1 hin with rfl | hin
           · rfl
           · exact xEq_eq (kx _ hin)
          have hke := Prod.mk.inj (Except.ok.inj k)
          obtain ⟨kx1, kx2⟩ := hke
          obtain ⟨kx2, kx3⟩ := Prod.mk.inj kx2
          subst kx2 kx3
          rw [hsx] at kx1
          subst kx1
          have hmem2 : a1 ∈ s.2 :: rest.map (·.2) := by
           rcases List.mem_cons.1 hin with rfl | hin
           · exact List.mem_cons_self
           · exact List.mem_cons_of_mem _ (List.mem_map.2 ⟨_, hin, rfl⟩)
          refine then_out hx1 (hQ e act' w' rel' ?_ (far_step w' far'))
          subst ha0
          exact ⟨frn.size, refine_ok hmem2 fr'.tmp ds (forgetT ds a.t) frn.tmp, frn.df, frn.dom, frn.glob⟩
 refine key n #[] act0 W ?_ ⟨rel0.lt, rel0.old, fun b o hb => rel0.at_ b o (hgm b o hb).2, fun b c o o' hb hc => rel0.inj b c o o' (hgm b o hb).2 (hgm c o' hc).2⟩ (frf act0 fr0) hob ⟨rfl, rfl, rfl, Nat.le_refl _, fun _ _ _ => rfl⟩ fun s hs => (by simp at hs)
 have := List.length_filter_le (fun y : Value × V × Nat => !(#[] : Array Nat).contains y.2.2) q.es
 omega
end
end
section
set_option linter.unusedSimpArgs false
set_option linter.unusedVariables false
open Go Go.RowKit
section
variable {P : Program} {e : Env} {h h' : H} {w : World} {v : V}
theorem out_then {K : Act -> World -> Prop} {Q : Exit -> Act -> World -> Prop} {x : X} {act : Act} {w : World} (h1 : x = .normal -> K act w) (h2 : x ≠ .normal -> Q x.out act w) : Exit.then K Q x.out act w := by
 cases x with
 | normal => exact h1 rfl
 | exit id => exact h2 (fun h => by cases h)
 | ret => exact h2 (fun h => by cases h)
theorem seqW_ok {go : Run} {r : Option Nat} {y : Code} {x x' : X} {a a' : Fr} {h h' : H} (k : seqW go r y (x, a, h) = .ok (x', a', h')) : (x = .normal -> go r y a h = .ok (x', a', h')) /\ (x ≠ .normal -> x' = x /\ a' = a /\ h' = h) := by
 cases x with
 | normal => exact ⟨fun _ => k, fun hn => absurd rfl hn⟩
 | exit id => cases k; exact ⟨fun hn => (by cases hn), fun _ => ⟨rfl, rfl, rfl⟩⟩
 | ret => cases k; exact ⟨fun hn => (by cases hn), fun _ => ⟨rfl, rfl, rfl⟩⟩
theorem loop_ok {go : Run} (hgo : GoOk P go) (hl : LoopOk P go) : LoopOk P (codeW P go) := fun r c a h x a' h' k => by
 change loopW P go r c a h = _ at k
 unfold loopW at k
 cases hm : mapAt a h c with
 | some q =>
   rw [hm] at k
   exact mapW_ok hgo hm k
 | none =>
   rw [hm] at k
   simp only at k
   obtain ⟨⟨x1, a1, h1⟩, k1, k2⟩ := eb_ok k
   obtain ⟨g1, g2⟩ := seqW_ok k2
   have rest : ∃ N, ∀ n, N <= n -> ∀ (e : Env) (w : World) (act : Act), Rel P e h1 w -> FrR e a1 act -> (∀ l, r = some l -> e.dom l) -> x1 = .normal ->
     ∀ Q : Exit -> Act -> World -> Prop, (∀ e' act' w', Rel P e' h' w' -> FrR e' a' act' -> Step h1 e w h' e' w' -> Q x.out act' w') -> Code.roundsIn (fence e r) 9 P c Q n act w := by
    by_cases hx : x1 = .normal
    · obtain ⟨N, hN⟩ := hl r c a1 h1 x a' h' (g1 hx)
      exact ⟨N, fun n hn e w act re fr hrr _ => hN n hn e w act re fr hrr⟩
    · exact ⟨0, fun n hn e w act re fr hrr hx' => absurd hx' hx⟩
   obtain ⟨N, hN⟩ := rest
   refine ⟨N + 1, fun n hn e w act re fr hrr Q hQ => ?_⟩
   obtain ⟨n, rfl⟩ : ∃ n', n = n' + 1 := ⟨n - 1, by omega⟩
   rw [roundsIn_succ]
   refine hgo r c a h x1 a1 h1 k1 e w act re fr hrr _ fun e1 act1 w1 r1 fr1 s1 => out_then (fun hx => ?_) fun hx => ?_
   · have := hN n (by omega) e1 w1 act1 r1 fr1 (fun l hl => s1.le.dom l (hrr l hl)) hx Q fun e' act' w' r' fr' s' => hQ e' act' w' r' fr' (s1.trans s')
     rw [fence_le s1.le hrr] at this
     exact this
   · obtain ⟨rfl, rfl, rfl⟩ := g2 hx
     exact hQ e1 act1 w1 r1 fr1 s1
theorem code_ok {go : Run} (hgo : GoOk P go) (hl : LoopOk P go) (hd : DrawOk P go) : GoOk P (codeW P go) := fun r c a h x a' h' k e w act re fr hrr Q hQ => by
 cases c with
 | skip => cases k; exact wpIn_skip (hQ e act w re fr (Step.refl _ _ _))
 | label l => cases k; exact wpIn_label (hQ e act w re fr (Step.refl _ _ _))
 | exit id => cases k; exact wpIn_exit (hQ e act w re fr (Step.refl _ _ _))
 | ret => cases k; exact wpIn_ret (hQ e act w re fr (Step.refl _ _ _))
 | seq c1 c2 =>
   change eb (go r c1 a h) (seqW go r c2) = _ at k
   obtain ⟨⟨x1, a1, h1⟩, k1, k2⟩ := eb_ok k
   obtain ⟨g1, g2⟩ := seqW_ok k2
   refine wpIn_seq (hgo r c1 a h x1 a1 h1 k1 e w act re fr hrr _ fun e1 act1 w1 r1 fr1 s1 => out_then (fun hx => ?_) fun hx => ?_)
   · have := hgo r c2 a1 h1 x a' h' (g1 hx) e1 w1 act1 r1 fr1 (fun l hl => s1.le.dom l (hrr l hl)) Q fun e' act' w' r' fr' s' => hQ e' act' w' r' fr' (s1.trans s')
     rw [fence_le s1.le hrr] at this
     exact this
   · obtain ⟨rfl, rfl, rfl⟩ := g2 hx
     exact hQ e1 act1 w1 r1 fr1 s1
 | cond t c1 c2 =>
   change eb (ev a t) (condW go r c1 c2 a h) = _ at k
   obtain ⟨v, hv, k2⟩ := eb_ok k
   have hx := fr.ev t v hv
   have key : ∀ b : Bool, v = .lit (.bool b) -> (Code.cond t c1 c2).wpIn (fence e r) 9 P Q act w := fun b hb => by
    subst hb
    refine wpIn_cond (t := b) (VR_lit.1 hx) ?_
    cases b with
    | true => exact hgo r c1 a h x a' h' k2 e w act re fr hrr Q hQ
    | false => exact hgo r c2 a h x a' h' k2 e w act re fr hrr Q hQ
   unfold condW at k2
   split at k2
   · exact key true rfl
   · exact key false rfl
   · cases k2
 | block id c1 =>
   change eb (go r c1 a h) (blockW id) = _ at k
   obtain ⟨⟨x1, a1, h1⟩, k1, k2⟩ := eb_ok k
   refine wpIn_block (hgo r c1 a h x1 a1 h1 k1 e w act re fr hrr _ fun e1 act1 w1 r1 fr1 s1 => ?_)
   cases x1 with
   | normal => cases k2; exact hQ e1 act1 w1 r1 fr1 s1
   | ret => cases k2; exact hQ e1 act1 w1 r1 fr1 s1
   | exit id' =>
     show if id' = id then Q .normal act1 w1 else Q (.exit id') act1 w1
     by_cases hid : id' = id
     · have hb : Nat.beq id' id = true := by rw [hid]; exact Nat.beq_refl _
       change (.ok (Tr.br (Nat.beq id' id) .normal (.exit id'), a1, h1) : E (X × Fr × H)) = _ at k2
       rw [hb, br_true] at k2
       cases k2
       rw [if_pos hid]
       exact hQ e1 act1 w1 r1 fr1 s1
     · have hb : Nat.beq id' id = false := Bool.eq_false_iff.2 fun h => hid (Nat.eq_of_beq_eq_true h)
       change (.ok (Tr.br (Nat.beq id' id) .normal (.exit id'), a1, h1) : E (X × Fr × H)) = _ at k2
       rw [hb, br_false] at k2
       cases k2
       rw [if_neg hid]
       exact hQ e1 act1 w1 r1 fr1 s1
 | loop c1 =>
   obtain ⟨N, hN⟩ := loop_ok hgo hl r c1 a h x a' h' k
   exact wpIn_loop_rounds N (hN N (Nat.le_refl _) e w act re fr hrr Q hQ)
 | region id ops d =>
   cases d with
   | false => 
     change regionW P go ops false a h = _ at k
     exact region_ok hgo re fr hrr k Q hQ
   | true => exact hd id ops r a h x a' h' k e w act re fr hrr Q hQ
 | rangeFunc g ps asg bd =>
   change eb (ev a g) (fun g => rangeW P go r g ps asg bd a h) = _ at k
   obtain ⟨v, hv, k2⟩ := eb_ok k
   exact rangeFunc_ok hgo re fr hrr hv k2 Q hQ
 | scope c1 =>
   refine wpIn_scope (hgo r c1 a h x a' h' k e w act re fr hrr _ fun e1 act1 w1 r1 fr1 s1 => ?_)
   have := hQ e1 act1 w1 r1 fr1 s1
   cases x <;> exact this
 | goto l => cases k
 | refuse s => cases k
theorem evCode_both (hd : ∀ go, GoOk P go -> DrawOk P go) : ∀ f, GoOk P (evCode P f) /\ LoopOk P (evCode P f)
 | 0 => ⟨fun r c a h x a' h' k => (by cases k), fun r c a h x a' h' k => (by cases k)⟩
 | f + 1 => ⟨code_ok (evCode_both hd f).1 (evCode_both hd f).2 (hd _ (evCode_both hd f).1), loop_ok (evCode_both hd f).1 (evCode_both hd f).2⟩
end
end
section
set_option linter.unusedSimpArgs false
set_option linter.unusedVariables false
open Go Go.RowKit
noncomputable section
structure DS where
 rq : List Nat
 es : List Ef
 a : Fr
 h : H
section
variable (P : Program) (go : Run) (ops : Array Oper) (st : List (Nat × Nat)) (mk : List Mk) (nq : Nat) (h0 : H)
inductive Did (o : Oper) (i : Nat) (s : DS) : DS -> Prop where
 | make (q : Mk) (hq : lookM i mk = some q) (hw : wantedT ops s.a o = true) (hgk : guardOk ops s.a o = true) : Did o i s ⟨s.rq, s.es, s.a.put o.dst q.v, s.h⟩
 | skip (hm : lookM i mk = none) (hw : wantedT ops s.a o = false) (hgk : guardOk ops s.a o = true) : Did o i s ⟨s.rq, s.es, s.a.put o.dst uV, s.h⟩
 | mute (v : V) (hm : lookM i mk = none) (hw : wantedT ops s.a o = true) (hgk : guardOk ops s.a o = true) (hq : quietW P go s.a o nq (withM (usedM ops i (freeM ops s.es mk)) (shown ops st nq i (lowH ops i h0 s.es))) = some (v, false)) : Did o i s ⟨s.rq, s.es, s.a.put o.dst v, s.h⟩
 | read (v : V) (hm : lookM i mk = none) (hw : wantedT ops s.a o = true) (hgk : guardOk ops s.a o = true) (hq : quietW P go s.a o nq (withM (usedM ops i (freeM ops s.es mk)) (shown ops st nq i (lowH ops i h0 s.es))) = some (v, true))
  (he : ∀ e ∈ s.es, dep ops i e.i = false -> e.prot = true) (hp : apartAll ops st i (lowH ops i h0 s.es) = true) : Did o i s ⟨i :: s.rq, s.es, s.a.put o.dst v, s.h⟩
 | effect (v : V) (prot : Bool) (h' : H) (hm : lookM i mk = none) (hw : wantedT ops s.a o = true) (hgk : guardOk ops s.a o = true) (hk : effectW P go s.a o (withM (usedM ops i (freeM ops s.es mk)) s.h) (knownAt i st) = .ok (v, prot, h')) (hn : h'.n <= nq)
  (he : ∀ e ∈ s.es, dep ops i e.i = true) (hr : prot = false -> ∀ j ∈ s.rq, dep ops i j = true) (hb : besideM ops i prot (freeM ops s.es mk) s.rq (withM (usedM ops i (freeM ops s.es mk)) s.h) = true) : Did o i s ⟨s.rq, ⟨i, prot, h'⟩ :: s.es, s.a.put o.dst v, h'⟩
theorem drawW_cons {o : Oper} {rest : List Oper} {i : Nat} {s : DS} {a' : Fr} {h' : H} (k : drawW P go ops st mk nq h0 (o :: rest) i s.rq s.es s.a s.h = .ok (a', h')) :
  ∃ s', Did P go ops st mk nq h0 o i s s' /\ drawW P go ops st mk nq h0 rest (i + 1) s'.rq s'.es s'.a s'.h = .ok (a', h') := by
 unfold drawW at k
 cases hm : lookM i mk with
 | some q =>
   rw [hm] at k
   obtain ⟨hwg, k⟩ := ec_ok k
   rw [Bool.and_eq_true] at hwg
   exact ⟨_, .make q hm hwg.2 hwg.1, (putK_eq s.a o.dst q.v fun a' => drawW P go ops st mk nq h0 rest (i + 1) s.rq s.es a' s.h).symm.trans k⟩
 | none =>
   rw [hm] at k
   simp only at k
   obtain ⟨hgk, k⟩ := ec_ok k
   cases hw : wantedT ops s.a o with
   | false =>
     rw [hw] at k
     exact ⟨_, .skip hm hw hgk, (putK_eq s.a o.dst uV fun a' => drawW P go ops st mk nq h0 rest (i + 1) s.rq s.es a' s.h).symm.trans k⟩
   | true =>
     rw [hw] at k
     simp only at k
     cases hq : quietW P go s.a o nq (withM (usedM ops i (freeM ops s.es mk)) (shown ops st nq i (lowH ops i h0 s.es))) with
     | some p =>
       obtain ⟨v, r⟩ := p
       rw [hq] at k
       simp only at k
       obtain ⟨hc, k2⟩ := ec_ok k
       cases r with
       | false => exact ⟨_, .mute v hm hw hgk hq, (putK_eq s.a o.dst v fun a' => drawW P go ops st mk nq h0 rest (i + 1) s.rq s.es a' s.h).symm.trans k2⟩
       | true =>
         have k3 := (putK_eq s.a o.dst v fun a' => drawW P go ops st mk nq h0 rest (i + 1) (i :: s.rq) s.es a' s.h).symm.trans k2
         simp only [Bool.not_true, Bool.or_eq_true, Bool.false_eq_true, false_or, Bool.and_eq_true, List.all_eq_true] at hc
         exact ⟨_, .read v hm hw hgk hq (fun e he hd => (hc.1 e he).resolve_left (by rw [hd]; simp)) hc.2, k3⟩
     | none =>
       rw [hq] at k
       simp only at k
       obtain ⟨⟨v, prot, h1⟩, hk, k2⟩ := eb_ok k
       obtain ⟨hc, k3⟩ := ec_ok k2
       obtain ⟨hb, k5⟩ := ec_ok k3
       have k4 := (putK_eq s.a o.dst v fun a' => drawW P go ops st mk nq h0 rest (i + 1) s.rq (⟨i, prot, h1⟩ :: s.es) a' h1).symm.trans k5
       simp only [Bool.or_eq_true, Bool.and_eq_true, List.all_eq_true] at hc
       exact ⟨_, .effect v prot h1 hm hw hgk hk (Nat.le_of_ble_eq_true hc.1) hc.2.1 (fun hp => hc.2.2.resolve_left (by rw [hp]; simp)) hb, k4⟩
theorem drawW_trace : ∀ (rest : List Oper) (i : Nat) (s : DS) (a' : Fr) (h' : H), drawW P go ops st mk nq h0 rest i s.rq s.es s.a s.h = .ok (a', h') ->
  ∃ T : Nat -> DS, T i = s /\ (∀ j o, rest[j]? = some o -> Did P go ops st mk nq h0 o (i + j) (T (i + j)) (T (i + j + 1))) /\ (T (i + rest.length)).a = a' /\ (T (i + rest.length)).h = h'
 | [], i, s, a', h', k => by
   cases k
   exact ⟨fun _ => s, rfl, fun j o hj => by simp at hj, rfl, rfl⟩
 | o :: rest, i, s, a', h', k => by
   obtain ⟨s1, d1, k1⟩ := drawW_cons P go ops st mk nq h0 k
   obtain ⟨T, t1, t2, t3, t4⟩ := drawW_trace rest (i + 1) s1 a' h' k1
   refine ⟨fun j => if j = i then s else T j, by simp, fun j o' hj => ?_, ?_, ?_⟩
   · cases j with
     | zero =>
       simp only [List.getElem?_cons_zero, Option.some.injEq] at hj
       subst hj
       simp only [Nat.add_zero, if_true]
       rw [if_neg (by omega), t1]
       exact d1
     | succ j =>
       have := t2 j o' (by simpa using hj)
       show Did P go ops st mk nq h0 o' (i + (j + 1)) (if i + (j + 1) = i then s else T (i + (j + 1))) (if i + (j + 1) + 1 = i then s else T (i + (j + 1) + 1))
       rw [if_neg (by omega), if_neg (by omega)]
       have e1 : i + (j + 1) = i + 1 + j := by omega
       rw [e1]
       exact this
   · simp only [List.length_cons]
     rw [if_neg (by omega), show i + (rest.length + 1) = i + 1 + rest.length by omega]
     exact t3
   · simp only [List.length_cons]
     rw [if_neg (by omega), show i + (rest.length + 1) = i + 1 + rest.length by omega]
     exact t4
end
structure Text (P : Program) (go : Run) (ops : Array Oper) (st : List (Nat × Nat)) (mk : List Mk) (nq : Nat) (a : Fr) (h : H) (T : Nat -> DS) : Prop where
 zero : T 0 = ⟨[], [], a, h⟩
 did : ∀ j o, ops[j]? = some o -> Did P go ops st mk nq h o j (T j) (T (j + 1))
 le : h.n <= nq
def IsEff (T : Nat -> DS) (j : Nat) : Prop := ∃ prot, (T (j + 1)).es = ⟨j, prot, (T (j + 1)).h⟩ :: (T j).es
section
variable {P : Program} {go : Run} {ops : Array Oper} {st : List (Nat × Nat)} {mk : List Mk} {nq : Nat} {a : Fr} {h : H} {T : Nat -> DS}
theorem list_ne_cons {α : Type} {x : α} {l : List α} : l ≠ x :: l := fun h => by have := congrArg List.length h; simp at this
theorem Text.keep (t : Text P go ops st mk nq a h T) {j : Nat} {o : Oper} (ho : ops[j]? = some o) : IsEff T j ∨ ((T (j + 1)).h = (T j).h /\ (T (j + 1)).es = (T j).es) := by
 have d := t.did j o ho
 generalize hs : T (j + 1) = s at d
 cases d with
 | effect v prot h' hm hw hgk hk hn he hr hb => exact .inl ⟨prot, by rw [hs]⟩
 | _ => exact .inr ⟨rfl, rfl⟩
theorem Text.mem_es (t : Text P go ops st mk nq a h T) : ∀ i, i <= ops.size -> ∀ e ∈ (T i).es, e.i < i /\ (T (e.i + 1)).es = e :: (T e.i).es /\ e.h = (T (e.i + 1)).h
 | 0, _, e, he => by rw [t.zero] at he; cases he
 | i + 1, hi, e, he => by
   have ho : ops[i]? = some ops[i] := Array.getElem?_eq_getElem (by omega)
   rcases t.keep ho with ⟨prot, h1⟩ | ⟨-, h2⟩
   · rw [h1] at he
     rcases List.mem_cons.1 he with rfl | he
     · exact ⟨Nat.lt_succ_self _, h1, rfl⟩
     · obtain ⟨g1, g2⟩ := t.mem_es i (by omega) e he
       exact ⟨by omega, g2⟩
   · rw [h2] at he
     obtain ⟨g1, g2⟩ := t.mem_es i (by omega) e he
     exact ⟨by omega, g2⟩
theorem Text.eff_mem (t : Text P go ops st mk nq a h T) {j : Nat} : ∀ i, i <= ops.size -> j < i -> ∀ e, (T (j + 1)).es = e :: (T j).es -> e ∈ (T i).es
 | 0, _, hj, e, _ => by omega
 | i + 1, hi, hj, e, he => by
   by_cases hji : j = i
   · subst hji; rw [he]; exact List.mem_cons_self
   · have ih := t.eff_mem i (by omega) (by omega) e he
     have ho : ops[i]? = some ops[i] := Array.getElem?_eq_getElem (by omega)
     rcases t.keep ho with ⟨prot, h1⟩ | ⟨-, h2⟩
     · rw [h1]; exact List.mem_cons_of_mem _ ih
     · rw [h2]; exact ih
theorem Text.same (t : Text P go ops st mk nq a h T) {m : Nat} : ∀ n, m <= n -> n <= ops.size -> (∀ j, m <= j -> j < n -> ¬ IsEff T j) -> (T n).h = (T m).h
 | 0, hm, _, _ => by rw [Nat.le_zero.1 hm]
 | n + 1, hm, hn, hk => by
   by_cases he : m = n + 1
   · rw [he]
   · have ho : ops[n]? = some ops[n] := Array.getElem?_eq_getElem (by omega)
     rcases t.keep ho with h1 | h2
     · exact absurd h1 (hk n (by omega) (by omega))
     · rw [h2.1]
       exact t.same n (by omega) (by omega) fun j h1 h2 => hk j h1 (by omega)
theorem Text.low (t : Text P go ops st mk nq a h T) (i : Nat) : ∀ i', i' <= ops.size -> ∃ m, m <= i' /\ lowH ops i h (T i').es = (T m).h /\ (∀ j, m <= j -> j < i' -> IsEff T j -> dep ops i j = false) /\ (m = 0 ∨ ∃ k, m = k + 1 /\ IsEff T k /\ dep ops i k = true)
 | 0, _ => ⟨0, Nat.le_refl _, by rw [t.zero]; rfl, fun j _ h => by omega, .inl rfl⟩
 | i' + 1, hi => by
   have ho : ops[i']? = some ops[i'] := Array.getElem?_eq_getElem (by omega)
   obtain ⟨m, g1, g2, g3, g4⟩ := t.low i i' (by omega)
   rcases t.keep ho with ⟨prot, h1⟩ | ⟨h1, h2⟩
   · rw [h1]
     unfold lowH
     cases hd : dep ops i i' with
     | true => exact ⟨i' + 1, Nat.le_refl _, by simp only [hd], fun j _ h => by omega, .inr ⟨i', rfl, ⟨prot, h1⟩, hd⟩⟩
     | false =>
       refine ⟨m, by omega, by simp only [hd]; exact g2, fun j h3 h4 h5 => ?_, g4⟩
       by_cases hj : j = i'
       · subst hj; exact hd
       · exact g3 j h3 (by omega) h5
   · rw [h2]
     refine ⟨m, by omega, g2, fun j h3 h4 h5 => ?_, g4⟩
     by_cases hj : j = i'
     · subst hj
       obtain ⟨prot, h6⟩ := h5
       rw [h2] at h6
       exact absurd h6 list_ne_cons
     · exact g3 j h3 (by omega) h5
theorem Text.n_le (t : Text P go ops st mk nq a h T) : ∀ i, i <= ops.size -> (T i).h.n <= nq
 | 0, _ => by rw [t.zero]; exact t.le
 | i + 1, hi => by
   have ho : ops[i]? = some ops[i] := Array.getElem?_eq_getElem (by omega)
   have ih := t.n_le i (by omega)
   have d := t.did i _ ho
   generalize hs : T (i + 1) = s at d
   cases d with
   | effect v prot h' hm hw hgk hk hn he hr hb => exact hn
   | _ => exact ih
theorem Text.put (t : Text P go ops st mk nq a h T) {j : Nat} {o : Oper} (ho : ops[j]? = some o) : ∃ v, (T (j + 1)).a = (T j).a.put o.dst v := by
 have d := t.did j o ho
 generalize hs : T (j + 1) = s at d
 cases d with
 | _ => exact ⟨_, rfl⟩
theorem put_rest (a : Fr) (d : Option Tmp) (v : V) : (a.put d v).sz = a.sz /\ (a.put d v).df = a.df /\ (a.put d v).gl = a.gl := by
 unfold Fr.put
 cases d with
 | none => exact ⟨rfl, rfl, rfl⟩
 | some d => simp only; cases Nat.blt d a.sz <;> exact ⟨rfl, rfl, rfl⟩
theorem put_get (a : Fr) (d : Option Tmp) (v : V) (i : Nat) (h : d ≠ some i) : (a.put d v).t.get i = a.t.get i := by
 unfold Fr.put
 cases d with
 | none => rfl
 | some d =>
   simp only
   cases Nat.blt d a.sz with
   | false => rfl
   | true =>
     show (a.t.set d (some v)).get i = _
     have hset : a.t.set d (some v) = Tr.setP (some v) (Tr.path d) a.t := by unfold Tr.set; rw [Tr.setK_eq]; rfl
     rw [hset]
     exact Tr.get_set_other _ _ fun e => h (by rw [e])
theorem Text.rest (t : Text P go ops st mk nq a h T) : ∀ i, i <= ops.size -> (T i).a.sz = a.sz /\ (T i).a.df = a.df /\ (T i).a.gl = a.gl
 | 0, _ => by rw [t.zero]; exact ⟨rfl, rfl, rfl⟩
 | i + 1, hi => by
   have ho : ops[i]? = some ops[i] := Array.getElem?_eq_getElem (by omega)
   obtain ⟨v, hv⟩ := t.put ho
   obtain ⟨g1, g2, g3⟩ := put_rest (T i).a (ops[i]).dst v
   obtain ⟨k1, k2, k3⟩ := t.rest i (by omega)
   rw [hv]
   exact ⟨g1.trans k1, g2.trans k2, g3.trans k3⟩
theorem Text.sameT (t : Text P go ops st mk nq a h T) {d m : Nat} : ∀ n, m <= n -> n <= ops.size -> (∀ j o, m <= j -> j < n -> ops[j]? = some o -> o.dst ≠ some d) -> (T n).a.t.get d = (T m).a.t.get d
 | 0, hm, _, _ => by rw [Nat.le_zero.1 hm]
 | n + 1, hm, hn, hk => by
   by_cases he : m = n + 1
   · rw [he]
   · have ho : ops[n]? = some ops[n] := Array.getElem?_eq_getElem (by omega)
     obtain ⟨v, hv⟩ := t.put ho
     rw [hv, put_get _ _ _ _ (hk n _ (by omega) (by omega) ho)]
     exact t.sameT n (by omega) (by omega) fun j o h1 h2 => hk j o h1 (by omega)
end
end
end
end Go.Proofs.YtpdhdgdbknnllaaGreatDoor
