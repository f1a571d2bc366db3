/- The parts Kt, Vz of the proof, joined. It holds without conditions of its own. -/
import Derived.Test.YtfnnkfngiodnhaaDoorfk1
import Derived.Test.YtfnnkfngiodnhaaDoorfk2
import Derived.ChangeArms
import Derived.OpenShut
import Derived.FnData
/- What the statements' frames of the layers above share: the one listed variable, a table of the library, and what it holds. -/
namespace Go.Proofs.YtfnnkfngiodnhaaDoor
set_option linter.unusedSimpArgs false
set_option linter.unusedVariables false
open Go.ChangeShapes Go.WideShapes Go.ChangeAt Go.RowKit

theorem laidOut2 : laidOutB Tryd.prog = true := by kernel_rfl
theorem tab_cells {cs : List Value} {xs : List (DataW Unit × List MemPlace)} (hl : cs.length = 64) (hx : xs.length = 64) (he : ∀ i, i < 64 → ∃ z, (cs.drop (i * 1)).take 1 = [.int .u8 z] ∧ xs[i]? = some (.lit (.int .u8 z), []))
    (hd : xs.map (·.1) = tabL.map fun v => (match v with | .int .u8 n => .lit (.int .u8 n) | _ => .nil : DataW Unit)) : cs = tabL := by
  have ht : tabL.length = 64 := by kernel_rfl
  refine List.ext_getElem? fun i => ?_
  by_cases hi : i < 64
  · obtain ⟨z, h1, h2⟩ := he i hi
    have h3 : cs[i]? = some (.int .u8 z) := by
      have h0 : ((cs.drop (i * 1)).take 1)[0]? = some (.int .u8 z) := by rw [h1]; rfl
      simpa using h0
    have h4 : (xs.map (·.1))[i]? = some (.lit (.int .u8 z)) := by rw [List.getElem?_map, h2]; rfl
    rw [hd, List.getElem?_map, List.getElem?_eq_getElem (by omega : i < tabL.length)] at h4
    have h5 : ∀ v ∈ tabL, ∃ n, v = .int .u8 n := by
      intro v hv
      obtain ⟨n, -, rfl⟩ := List.mem_map.1 hv
      exact ⟨n, rfl⟩
    obtain ⟨n, hn⟩ := h5 _ (List.getElem_mem (by omega : i < tabL.length))
    rw [h3, List.getElem?_eq_getElem (by omega : i < tabL.length), hn]
    rw [hn] at h4
    simp only [Option.map_some, Option.some.injEq, DataW.lit.injEq, Lit.int.injEq, true_and] at h4
    rw [h4]
  · rw [List.getElem?_eq_none (by omega), List.getElem?_eq_none (by omega)]
theorem tab_laid {W : World} (h : laidMetH Tryd.prog laidVs W) : ∃ t, W.heap[0]? = some (.cells tabL.toArray t (0, 0)) := by
  rw [MakeChecks.laidMetH_plain _ _ _ (by kernel_rfl)] at h
  obtain ⟨ps, ⟨g, t, cs, fuel, p, q, hg, ht, hv, hd, hq, rfl⟩, -, hc⟩ := h
  obtain rfl := Option.some.inj ((show (Tryd.prog).globalNamed "math/bits.deBruijn64tab" = some 0 by kernel_rfl).symm.trans hg)
  obtain rfl := Option.some.inj ((show ((Tryd.prog).globals[0]?).map (·.type) = some 167 by kernel_rfl).symm.trans ht)
  obtain ⟨xs, m, -, ex, hl, hx, hel⟩ := DataW.trod_array Tryd.underlying167 hd
  have c1 : (Tryd.prog).cellsOf 5 = 1 := by kernel_rfl
  have c2 : (Tryd.prog).cellsOf 167 = 64 := by kernel_rfl
  rw [c2] at hl
  have hcs : cs.toList = tabL := tab_cells hl hx (fun i hi => by
    have hE := hel i hi
    rw [c1, List.getElem?_eq_getElem (by omega)] at hE
    obtain ⟨z, e1, e2, -⟩ := DataW.trod_int Tryd.underlying5 hE
    exact ⟨z, e1, by rw [List.getElem?_eq_getElem (by omega), e2]⟩) ((DataW.agg.inj (Prod.mk.inj ex).1).symm.trans (by kernel_rfl))
  have hsz : 0 < cs.size := by rw [← Array.length_toList, hl]; omega
  obtain ⟨⟨c, t, hh⟩, -⟩ := hc 0 0 (by
    refine List.mem_append_left _ (List.mem_append_left _ (List.mem_map.2 ⟨0, List.mem_range.2 hsz, rfl⟩)))
  have hv2 : W.heap[0]? = some (.cells c t (0, 0)) := hh
  simp only [World.var?, hg, Option.bind_some, hv2, Option.some.injEq] at hv
  subst hv
  exact ⟨t, by rw [hv2, ← hcs]⟩
end Go.Proofs.YtfnnkfngiodnhaaDoor

/- A function worked out piece by piece, one of whose pieces calls a function that was worked out before. -/
namespace Go.Proofs.YtfnnkfngiodnhaaDoor
set_option linter.unusedSimpArgs false
set_option linter.unusedVariables false
open Go Go.RowKit

noncomputable section
/-- A piece does what was worked out, in all worlds that are reached from where all started. -/
def SegS (P : Program) (h0 : H) (W : World) (c : Code) (a : Fr) (h : H) (x : X) (a' : Fr) (h' : H) : Prop :=
  ∀ (e : Env) (w : World) (act : Act), Rel P e h w → FrR e a act → Step h0 e00 W h e w →
    ∀ Q : Exit → Act → World → Prop, (∀ e' act' w', Rel P e' h' w' → FrR e' a' act' → Step h0 e00 W h' e' w' → Q x.out act' w') → c.wpIn (fence e none) 9 P Q act w
def evOps (P : Program) (f : Nat) (ops : Array Oper) (l : List Oper) (a : Fr) (h : H) (keep : List Nat) : E (Fr × H) := eb (opsW P (evCode P f) ops l a h) fun s => .ok (s.1, gcH keep s.2)
/-- The operations of a region. -/
def opsIn : Code → Array Oper
  | .region _ ops _ => ops
  | _ => #[]
def idIn : Code → Nat
  | .region id _ _ => id
  | _ => 0
section
variable {P : Program} {e : Env} {w W : World} {v : V} {h h0 h1 h2 h' : H} {a a1 a2 a' : Fr} {x : X} {c c1 c2 : Code}
theorem Seg.start (k : Seg P c a h x a' h') : SegS P h0 W c a h x a' h' := fun e w act re fr s Q hQ => k e w act re fr Q fun e' act' w' r' fr' s' => hQ e' act' w' r' fr' (s.trans s')
theorem segS_seq (k1 : SegS P h0 W c1 a h .normal a1 h1) (k2 : SegS P h0 W c2 a1 h1 x a' h') : SegS P h0 W (.seq c1 c2) a h x a' h' := fun e w act re fr s Q hQ =>
  wpIn_seq (k1 e w act re fr s _ fun e1 act1 w1 r1 fr1 s1 => by
    have := k2 e1 w1 act1 r1 fr1 s1 Q hQ
    exact this)
/-- Operations in the order of the text, with others behind them. -/
theorem ops_before {go : Run} {ops : Array Oper} (hgo : GoOk P go) {Q : Exit → Act → World → Prop} {n : Nat} : ∀ (rest pre tail : List Oper) (a : Fr) (h : H) (a' : Fr) (h' : H), ops.toList = pre ++ rest ++ tail → opsW P go ops rest a h = .ok (a', h') → ∀ (e : Env) (w : World) (act : Act), Rel P e h w → FrR e a act →
    (∀ e' act' w', Rel P e' h' w' → FrR e' a' act' → Step h e w h' e' w' → wpOpsIn (fence e none) 9 P ops Q (List.range' (pre.length + rest.length) n) act' w') → wpOpsIn (fence e none) 9 P ops Q (List.range' pre.length (rest.length + n)) act w
  | [], pre, tail, a, h, a', h', _, k, e, w, act, r, fr, hQ => by
    cases k
    have := hQ e act w r fr (Step.refl h e w)
    simpa using this
  | o :: rest, pre, tail, a, h, a', h', hsp, k, e, w, act, r, fr, hQ => by
    have ho : ops[pre.length]? = some o := by
      rw [← Array.getElem?_toList, hsp]
      simp
    rw [List.length_cons, show rest.length + 1 + n = (rest.length + n) + 1 by omega, List.range'_succ]
    unfold wpOpsIn
    rw [ho]
    simp only
    unfold opsW at k
    have hw : Region.wanted o (yielded ops act.tmps) = wantedT ops a o := wanted_ok fr.size fun j want d _ _ => fr.tmp d
    have next : ∀ (e1 : Env) (a1 : Fr) (h1 : H) (act1 : Act) (w1 : World), Rel P e1 h1 w1 → FrR e1 a1 act1 → Step h e w h1 e1 w1 → opsW P go ops rest a1 h1 = .ok (a', h') → wpOpsIn (fence e none) 9 P ops Q (List.range' (pre.length + 1) (rest.length + n)) act1 w1 := fun e1 a1 h1 act1 w1 r1 fr1 s1 k1 => by
      have ih := ops_before hgo (Q := Q) (n := n) rest (pre ++ [o]) tail a1 h1 a' h' (by rw [hsp]; simp) k1 e1 w1 act1 r1 fr1 (fun e' act' w' r' fr' s' => by
        have := hQ e' act' w' r' fr' (s1.trans s')
        have hfe : fence e1 none = fence e none := rfl
        rw [hfe]
        simpa [Nat.add_comm, Nat.add_left_comm, Nat.add_assoc] using this)
      have hfe : fence e1 none = fence e none := rfl
      rw [hfe] at ih
      simpa using ih
    rw [hw]
    cases hwt : wantedT ops a o with
    | true =>
      rw [hwt] at k
      simp only at k
      obtain ⟨⟨v, h1⟩, ho1, k⟩ := eb_ok k
      simp only [if_true]
      refine op_ok (rr := none) hgo r (fr.ops _) fr.glob ho1 fun x w' hx => ?_
      obtain ⟨e1, r1, s1, hv⟩ := hx
      have k' : opsW P go ops rest (a.put o.dst v) h1 = .ok (a', h') := (putK_eq a o.dst v fun a' => opsW P go ops rest a' h1).symm.trans k
      exact next e1 _ h1 _ w' r1 ((fr.mono s1.le).put o.dst hv) s1 k'
    | false =>
      rw [hwt] at k
      simp only [putK_eq] at k
      simp only [Bool.false_eq_true, if_false]
      exact ⟨fun f _ => trivial, next e _ h _ w r (fr.put o.dst uV_ok) (Step.refl h e w) k⟩
/-- A region in the order of the text, with a call of a function without arguments that yields a bare value. -/
theorem seg_call {f fid : Nat} {fn : Func} {ops : Array Oper} {id : Nat} {pre post : List Oper} {keep : List Nat} {d : Option Tmp} {ty : TypeId} {pos : String} {af : Array Edge} {gd : Option (Nat × Bool)} {y : Value} (hm : P.follows .mixedOrders = true)
    (hsp : ops.toList = pre ++ (⟨d, .call { callee := .value (.func fid), args := #[], argTypes := #[] }, ty, pos, af, gd⟩ :: post))
    (hfn : P.funcs[fid]? = some fn) (hnm : (fn.name == "runtime.NumGoroutine") = false) (hb : fn.body.isNone = false)
    (hc : ∀ w, Kept W w → Calls P fid #[] w fun en w' => en = .returned y ∧ Below w.heap.size w w') (hp : h0.p = h0.n) (hx : h0.x = h0.n) (hlt : Rel P e00 h0 W)
    (k1 : opsW P (evCode P f) ops pre a h = .ok (a1, h1)) (hwt : wantedT ops a1 ⟨d, .call { callee := .value (.func fid), args := #[], argTypes := #[] }, ty, pos, af, gd⟩ = true) (k2 : evOps P f ops post (a1.put d (.lit y)) h1 keep = .ok (a2, h2)) : SegS P h0 W (.region id ops false) a h .normal a2 h2 := fun e w act re fr s Q hQ => by
  refine wpIn_region ?_
  have hlen : ops.size = pre.length + (post.length + 1) := by rw [← Array.length_toList, hsp]; simp
  rw [List.range_eq_range', hlen]
  have e0 : ops.toList = ([] : List Oper) ++ pre ++ (⟨d, .call { callee := .value (.func fid), args := #[], argTypes := #[] }, ty, pos, af, gd⟩ :: post) := by rw [hsp]; simp
  refine ops_before (evCode_ok hm f) pre [] _ a h a1 h1 e0 k1 e w act re fr fun e1 act1 w1 r1 fr1 s1 => ?_
  have ho : ops[pre.length]? = some ⟨d, .call { callee := .value (.func fid), args := #[], argTypes := #[] }, ty, pos, af, gd⟩ := by
    rw [← Array.getElem?_toList, hsp]
    simp
  simp only [List.length_nil, Nat.zero_add]
  rw [List.range'_succ]
  unfold wpOpsIn
  rw [ho]
  simp only
  rw [wanted_ok fr1.size fun j want d _ _ => fr1.tmp d, hwt]
  simp only [if_true]
  have hk0 : Kept W w1 := Kept.of (s.trans s1) hlt hp hx
  refine ⟨fun f _ => trivial, ?_⟩
  rw [Oper.semAt_eq _ _ _ (fun c hc => by cases hc)]
  have e2 : (execOp act1.eval ⟨d, .call { callee := .value (.func fid), args := #[], argTypes := #[] }, ty, pos, af, gd⟩).run P w1 = .ok (.enter fid #[]) w1 := by
    have e3 : (execOp act1.eval ⟨d, .call { callee := .value (.func fid), args := #[], argTypes := #[] }, ty, pos, af, gd⟩) = (do let d ← Deferred.ofValue (act1.eval (.func fid)) ((#[] : Array Operand).map act1.eval); invoke d.target d.args) := rfl
    rw [e3]
    simp only [Array.map_empty, Sem.run_bind, Act.eval, Deferred.ofValue, Sem.run_pure, Result.andThen_ok, invoke]
    rw [enter_run hfn hnm hb]
    rfl
  rw [e2]
  refine ⟨fun hd => (by rw [fence_depth] at hd; cases hd), fence_calls (Calls.mono (hc w1 hk0) ?_)⟩
  rintro en w2 ⟨rfl, hbel⟩
  have hk : Kept w1 w2 := ⟨hbel.size, hbel.block, hbel.os, hbel.tape, hbel.output⟩
  have r2 := hk.rel r1
  have s2 : Step h1 e1 w1 h1 e1 w2 := hk.step h1 e1
  unfold evOps at k2
  obtain ⟨⟨a3, h3⟩, k3, k4⟩ := eb_ok k2
  cases k4
  have fin := ops_ok (rr := none) (Q := Q) (evCode_ok hm f) post (pre ++ [⟨d, .call { callee := .value (.func fid), args := #[], argTypes := #[] }, ty, pos, af, gd⟩]) (a1.put d (.lit y)) h1 a3 h3 (by rw [hsp]; simp) k3 e1 w2 (act1.put d y) r2 (fr1.put d (VR_lit.2 rfl)) (fun l hl => by cases hl)
    fun e' act' w' r' fr' s' => hQ e' act' w' (r'.less (Nat.le_refl _) (gcH_get keep h3)) fr' ((((s.trans s1).trans s2).trans s').gc keep)
  have hfe : fence e1 none = fence e none := rfl
  rw [hfe] at fin
  simpa using fin
def opNo : Oper := ⟨none, .move (.const (.bool false)), 0, "", #[], none⟩
def opAt (c : Code) (k : Nat) : Oper := ((opsIn c).toList.drop k).headD opNo
theorem segS_call {f fid k : Nat} {fn : Func} {keep : List Nat} {y : Value} (hm : P.follows .mixedOrders = true)
    (hsp : (opsIn c).toList = (opsIn c).toList.take k ++ opAt c k :: (opsIn c).toList.drop (k + 1)) (hop : (opAt c k).op = .call { callee := .value (.func fid), args := #[], argTypes := #[] })
    (hfn : P.funcs[fid]? = some fn) (hnm : (fn.name == "runtime.NumGoroutine") = false) (hb : fn.body.isNone = false)
    (hc : ∀ w, Kept W w → Calls P fid #[] w fun en w' => en = .returned y ∧ Below w.heap.size w w') (hp : h0.p = h0.n) (hx : h0.x = h0.n) (hlt : Rel P e00 h0 W)
    (k1 : opsW P (evCode P f) (opsIn c) ((opsIn c).toList.take k) a h = .ok (a1, h1)) (hwt : wantedT (opsIn c) a1 (opAt c k) = true) (k2 : evOps P f (opsIn c) ((opsIn c).toList.drop (k + 1)) (a1.put (opAt c k).dst (.lit y)) h1 keep = .ok (a2, h2)) : SegS P h0 W (.region (idIn c) (opsIn c) false) a h .normal a2 h2 := by
  generalize opAt c k = o at *
  obtain ⟨d, op, ty, pos, af, gd⟩ := o
  change op = _ at hop
  subst hop
  exact seg_call hm hsp hfn hnm hb hc hp hx hlt k1 hwt k2
/-- A function without arguments that was worked out to a bare result, from pieces. -/
theorem closedS_ok {l : List Value} {t : TypeId} {f : FuncId} {fn : Func} {y : Value} (hW : W.heap[0]? = some (.cells l.toArray t (0, 0))) (hfn : P.funcs[f]? = some fn) (hc : fn.body = some c)
    (hs : SegS P (h00 (l.map .lit) t) W c ⟨.leaf, fn.ntmps, [], 1⟩ (h00 (l.map .lit) t) x a1 h1) (hx : ∀ id, x ≠ .exit id) (k : finish P fn a1 h1 = .ok (.lit y, h')) : Calls P f #[] W fun en W' => en = .returned y ∧ Below W.heap.size W W' := by
  have hg : ∀ g, g < 1 → e00.dom g ∧ e00.σ g = g := fun g hg => by
    have h0 : g = 0 := by omega
    subst h0
    exact ⟨rfl, rfl⟩
  refine (callsIn_wide (n := 9)).1 ?_
  refine callsIn_of_wp_marks hfn hc trivial ?_ rfl
  have fr0 := ofList_fr (e := e00) (vs := []) (xs := []) (VRs_nil.2 rfl) fn.ntmps 1 hg
  have hmax : Nat.max fn.ntmps ([] : List V).length = fn.ntmps := Nat.max_eq_left (Nat.zero_le _)
  rw [hmax] at fr0
  refine hs e00 W _ (rel_start hW) fr0 (Step.refl _ _ _) _ fun e' act' w' r' fr' s' => ?_
  unfold finish at k
  obtain ⟨h2, hm, k1⟩ := eb_ok k
  obtain ⟨us, hus, k2⟩ := eb_ok k1
  have e5 : packT us = .lit y := (Prod.mk.inj (Except.ok.inj k2)).1
  have key := marks_ok (fn := fn) (tmps := act'.tmps) (R := fun en W' => en = .returned y ∧ Below W.heap.size W W') a1.df h1 w' h2 r' hm fun w2 r2 s2 => by
    obtain ⟨z, g1, g2⟩ := pack_ok r2 fr' hus
    rw [e5] at g2
    have hk := Kept.of (P := P) (s'.trans s2) (rel_start hW) rfl rfl
    exact ⟨z, g1, by rw [VR_lit.1 g2], hk.os, hk.tape, hk.output, hk.size, fun k hk' => hk.keep k hk'⟩
  rw [← fr'.df] at key
  cases x with
  | normal => exact key
  | ret => exact key
  | exit id => exact absurd rfl (hx id)
end
end
end Go.Proofs.YtfnnkfngiodnhaaDoor
