/- The parts Vk, Vl, Vm, Vn, Vo, Vp, Vq, Vr, Vs, Vt, Vu, Vv, Vw, Vx, Vy of the proof, joined. It holds without conditions of its own. -/
import Derived.Test.YtfnnkfngiodnhaaDoorfk1
import Derived.RangeFuncLeaves
import Derived.RangeFuncIn
import Derived.LoopNIn
import Derived.Scope
import Derived.OrdersIn
import Derived.Test.YtfnnkfngiodnhaaDoorChecked
import Derived.KernelRfl
/- The evaluator's append, copy and len are the model's. -/
namespace Go.Proofs.YtfnnkfngiodnhaaDoor
set_option linter.unusedSimpArgs false
set_option linter.unusedVariables false
open Go Go.RowKit

theorem lay_eq {α : Type} : ∀ (vs l : List α) (i : Nat), i + vs.length ≤ l.length → lay l i vs = l.take i ++ vs ++ l.drop (i + vs.length)
  | [], l, i, _ => by simp [lay]
  | v :: vs, l, i, h => by
    simp only [List.length_cons] at h
    show lay (l.set i v) (i + 1) vs = _
    rw [lay_eq vs _ _ (by simp; omega)]
    have h1 : (l.set i v).take (i + 1) = l.take i ++ [v] := by
      rw [List.take_add_one, List.take_set_of_le (Nat.le_refl i), List.getElem?_set_self (by omega)]
      rfl
    have h2 : (l.set i v).drop (i + 1 + vs.length) = l.drop (i + (vs.length + 1)) := by
      rw [List.drop_set_of_lt (by omega)]
      congr 1
      omega
    rw [h1, h2]
    simp
theorem growBy_le (N : Nat) : ∀ (r c : Nat), Builtin.growBy N r c ≤ Nat.max c (N + (N + 768) / 4)
  | 0, c => Nat.le_max_left _ _
  | r + 1, c => by
    unfold Builtin.growBy
    split
    · exact Nat.le_max_left _ _
    · have := growBy_le N r (c + (c + 768) / 4)
      have h2 : Nat.max (c + (c + 768) / 4) (N + (N + 768) / 4) ≤ N + (N + 768) / 4 := Nat.max_le.2 ⟨by omega, Nat.le_refl _⟩
      exact Nat.le_trans this (Nat.le_trans h2 (Nat.le_max_right _ _))
theorem next_le {N C : Nat} (h : C < N) : Builtin.nextslicecap N C ≤ 2 * N + 200 := by
  unfold Builtin.nextslicecap
  split
  · omega
  · split
    · omega
    · have := growBy_le N 4 C
      have h2 : Nat.max C (N + (N + 768) / 4) ≤ N + (N + 768) / 4 := Nat.max_le.2 ⟨by omega, Nat.le_refl _⟩
      have h3 : Builtin.growBy N 4 C ≤ N + (N + 768) / 4 := Nat.le_trans this h2
      omega
section
variable {P : Program} {e : Env} {h h' : H} {w : World} {v : V}
theorem drew_run {α : Type} {s : Sem α} : True := trivial
/-- A new row with room behind. -/
theorem grow_ok {el : TypeId} {cs : List V} {l rest : List Value} {b k s : Nat} (r : Rel P e h w) (hl : VRs e cs l) (hs : sizeT P el = some s) (hr : rest.length = k * s) (kk : opNew h el cs = .ok (b, h')) :
    ∃ e', (newRow el (l ++ rest).toArray).run P w = .ok ⟨e'.σ b, 0, none⟩ (w.alloc (.cells (l ++ rest).toArray el)) ∧ Rel P e' h' (w.alloc (.cells (l ++ rest).toArray el)) ∧ Step h e w h' e' (w.alloc (.cells (l ++ rest).toArray el)) ∧ e'.dom b ∧ e'.κ b = k := by
  unfold opNew at kk
  obtain ⟨-, kk⟩ := ec_ok kk
  rw [fVs_eq, newK_eq] at kk
  cases kk
  have hn : ¬ e.dom h.n := fun hd => by have := r.lt _ hd; omega
  obtain ⟨g1, g2, g3, g4, g5⟩ := rel_new (o := .cells cs el) (x := .cells (l ++ rest).toArray el) k r ⟨l, rest, rfl, hl.mono (Env.le_more hn), fun s' hs' => by rw [hs] at hs'; cases hs'; rw [hr]; simp [Env.more]⟩
  exact ⟨_, by simp [newRow, g4], g1, g2, g3, g5⟩
/-- What is appended lies behind the rest of an array whose name is given up. -/
theorem inplace_ok {el : TypeId} {c new : List V} {l rest ln : List Value} {b nb s K len need cap : Nat} {h1 : H} {w' : World} (r : Rel P e h w) (hb : h.get b = some (.cells c el)) (hc : c.length = cap * s)
    (hw : w.heap[e.σ b]? = some (.cells (l ++ rest).toArray el (0, 0))) (h3 : VRs e c l) (h4 : rest.length = K * s) (hK : e.κ b = K) (hs : sizeT P el = some s) (hn : VRs e new ln) (hln : ln.length = (need - len) * s) (hlen : len ≤ need) (hneed : need ≤ cap + K) (hlc : len ≤ cap)
    (k1 : h.set b none = .ok h1) (k2 : opNew h1 el ((c.drop 0).take (len * s) ++ new) = .ok (nb, h'))
    (hat : w'.heap[e.σ b]? = some (.cells (lay (l ++ rest) (len * s) ln).toArray el (0, 0))) (o : One (e.σ b) w w') :
    ∃ e', Rel P e' h' w' ∧ Step h e w h' e' w' ∧ e'.dom nb ∧ e'.σ nb = e.σ b ∧ e'.κ nb = cap + K - need := by
  obtain ⟨hf, rfl⟩ := set_ok k1
  unfold opNew at k2
  obtain ⟨-, k2⟩ := ec_ok k2
  rw [fVs_eq, newK_eq] at k2
  cases k2
  have hnd : ¬ e.dom h.n := fun hd => by have := r.lt _ hd; omega
  have hle : Le e (e.more h.n (e.σ b) (cap + K - need)) := Env.le_more hnd
  have hσ : (e.more h.n (e.σ b) (cap + K - need)).σ h.n = e.σ b := by simp [Env.more]
  have hκ : (e.more h.n (e.σ b) (cap + K - need)).κ h.n = cap + K - need := by simp [Env.more]
  have hd := (r.at_ b _ hb).1
  have hl := VRs_len h3
  have hmul : need * s ≤ (cap + K) * s := Nat.mul_le_mul_right s hneed
  have hlm : len * s ≤ need * s := Nat.mul_le_mul_right s hlen
  have hlc' : len * s ≤ cap * s := Nat.mul_le_mul_right s hlc
  rw [Nat.add_mul] at hmul
  have hsub : (need - len) * s = need * s - len * s := Nat.sub_mul _ _ _
  have hall : (l ++ rest).length = cap * s + K * s := by simp; omega
  refine ⟨e.more h.n (e.σ b) (cap + K - need), ⟨fun i hi => ?_, fun i hi => ?_, fun i q hi => ?_, fun i j q1 q2 hi hj he => ?_⟩, ⟨hle, Nat.le_succ _, rfl, rfl, fun i hi => ?_, fun i hi hni => ?_, o.os, o.tape, o.output, by rw [o.size]; exact Nat.le_refl _, fun i hi hni => o.oth i fun e' => hni b hd hf e'.symm⟩, .inl rfl, hσ, hκ⟩
  · rcases hi with rfl | hi
    · exact Nat.lt_succ_self _
    · exact Nat.lt_succ_of_lt (r.lt i hi)
  · rw [o.size]
    rcases hi with rfl | hi
    · rw [hσ]; exact r.old b hd
    · rw [hle.σ i hi]; exact r.old i hi
  · by_cases hin : i = h.n
    · subst hin
      unfold H.with at hi
      rw [get_set_same] at hi
      cases hi
      refine ⟨.inl rfl, _, by rw [hσ]; exact hat, l.take (len * s) ++ ln, (l ++ rest).drop (need * s), ?_, ?_, fun s' hs' => ?_⟩
      · rw [lay_eq _ _ _ (by rw [hall, hln]; omega)]
        congr 2
        rw [List.take_append_of_le_length (by omega), hln]
        congr 2
        omega
      · rw [List.drop_zero]
        exact VRs_append ((VRs_take _ h3).mono hle) (hn.mono hle)
      · rw [hs] at hs'
        cases hs'
        rw [hκ, List.length_drop, hall, Nat.sub_mul, Nat.add_mul]
    · unfold H.with at hi
      rw [get_set_other _ _ _ _ _ hin] at hi
      by_cases hib : i = b
      · subst hib
        rw [get_set_same] at hi
        cases hi
      · rw [get_set_other _ _ _ _ _ hib] at hi
        obtain ⟨a1, y, a2, a3⟩ := r.at_ i q hi
        refine ⟨.inr a1, y, ?_, a3.mono hle a1⟩
        rw [hle.σ i a1, o.oth _ fun e' => hib (r.inj i b q _ hi hb e')]
        exact a2
  · have old : ∀ i q, i ≠ h.n → (H.with ⟨h.n, h.p, h.x, Tr.setP none (Tr.path b) h.m⟩ (.cells ((c.drop 0).take (len * s) ++ new) el)).get i = some q → i ≠ b ∧ h.get i = some q := fun i q hin hi => by
      unfold H.with at hi
      rw [get_set_other _ _ _ _ _ hin] at hi
      by_cases hib : i = b
      · subst hib
        rw [get_set_same] at hi
        cases hi
      · rw [get_set_other _ _ _ _ _ hib] at hi
        exact ⟨hib, hi⟩
    by_cases hin : i = h.n
    · by_cases hjn : j = h.n
      · rw [hin, hjn]
      · exfalso
        obtain ⟨a1, a2⟩ := old j q2 hjn hj
        rw [hin, hσ, hle.σ j (r.at_ j q2 a2).1] at he
        exact a1 (r.inj j b q2 _ a2 hb he.symm)
    · obtain ⟨a1, a2⟩ := old i q1 hin hi
      by_cases hjn : j = h.n
      · exfalso
        rw [hjn, hσ, hle.σ i (r.at_ i q1 a2).1] at he
        exact a1 (r.inj i b q1 _ a2 hb he)
      · obtain ⟨b1, b2⟩ := old j q2 hjn hj
        rw [hle.σ i (r.at_ i q1 a2).1, hle.σ j (r.at_ j q2 b2).1] at he
        exact r.inj i j q1 q2 a2 b2 he
  · rcases hi with rfl | hi
    · exact .inr ⟨Nat.le_refl _, Nat.lt_succ_self _⟩
    · exact .inl hi
  · rcases hi with rfl | hi
    · exact .inr ⟨b, hd, hf, hσ⟩
    · exact absurd hi hni
end
end Go.Proofs.YtfnnkfngiodnhaaDoor

/- The evaluator's append, copy and len are the model's: the builtins themselves. -/
namespace Go.Proofs.YtfnnkfngiodnhaaDoor
set_option linter.unusedSimpArgs false
set_option linter.unusedVariables false
open Go Go.RowKit

section
variable {P : Program} {e : Env} {h h' : H} {w : World} {v : V}
/-- What is appended fits. -/
theorem fit_run {t t' ty el : TypeId} {d : TypeDesc} {k off len C n s : Nat} {yx : Value} {ln : List Value} {w' : World} (hu : P.underlying t = some (.slice el)) (hd : P.underlying t' = some d) (hd2 : ∀ k, d ≠ .int k) (hs : sizeT P el = some s) (hlen : (Builtin.lenOf yx).run P w = .ok n w) (hc : (Builtin.firstCells s n yx).run P w = .ok ln.toArray w)
    (hneed : len + n ≤ C) (hst : (storeCells ⟨k, off + len * s, none⟩ ln).run P w = .ok () w') :
    (Builtin.append_ #[t, t'] ty #[.slice (some ⟨k, off, none⟩) len C, yx]).run P w = .ok (.slice (some ⟨k, off, none⟩) (len + n) C) w' := by
  unfold Builtin.append_
  simp only [List.getElem?_toArray, List.getElem?_cons_zero, List.getElem?_cons_succ, Sem.run_bind, run_und hu, Result.andThen_ok, run_size hs, run_und hd, Sem.run_pure]
  cases d <;> first
    | exact absurd rfl (hd2 _)
    | simp only [Bool.false_eq_true, if_false, Sem.run_bind, hlen, Result.andThen_ok, if_pos hneed, Bool.not_false, if_true, hc, add_at, hst, Sem.run_pure]
/-- Nothing is appended to nothing. -/
theorem nil_run {t t' ty el : TypeId} {d : TypeDesc} {s : Nat} {yx : Value} {ln : List Value} (hu : P.underlying t = some (.slice el)) (hd : P.underlying t' = some d) (hd2 : ∀ k, d ≠ .int k) (hs : sizeT P el = some s) (hlen : (Builtin.lenOf yx).run P w = .ok 0 w) (hc : (Builtin.firstCells s 0 yx).run P w = .ok ln.toArray w) :
    (Builtin.append_ #[t, t'] ty #[.slice none 0 0, yx]).run P w = .ok (.slice none 0 0) w := by
  unfold Builtin.append_
  simp only [List.getElem?_toArray, List.getElem?_cons_zero, List.getElem?_cons_succ, Sem.run_bind, run_und hu, Result.andThen_ok, run_size hs, run_und hd, Sem.run_pure]
  cases d <;> first
    | exact absurd rfl (hd2 _)
    | simp only [Bool.false_eq_true, if_false, Sem.run_bind, hlen, Result.andThen_ok, Nat.add_zero, Nat.le_refl, if_true, Bool.not_false, hc, Sem.run_pure]
/-- What is appended does not fit: a new row. -/
theorem over_run {t t' ty el : TypeId} {d : TypeDesc} {base : Option Addr} {len C n s by_ : Nat} {z : V} {yx : Value} {lo ln : List Value} (hu : P.underlying t = some (.slice el)) (hd : P.underlying t' = some d) (hd2 : ∀ k, d ≠ .int k) (hs : sizeT P el = some s) (hby : bytesT P el = some by_) (hz : zeroT P el = some z) (hzl : z.cells.length = s)
    (hlen : (Builtin.lenOf yx).run P w = .ok n w) (hc : ∀ w' : World, w'.heap = w.heap → (Builtin.firstCells s n yx).run P w' = .ok ln.toArray w') (ho : ∀ w' : World, w'.heap = w.heap → (Builtin.firstCells s len (.slice base len C)).run P w' = .ok lo.toArray w')
    (hneed : C < len + n) (hbig : (len + n) * (by_ + 1) < 1000000) :
    ∃ NC rest, len + n ≤ NC ∧ rest.length = (NC - (len + n)) * s ∧ ∀ a w', (newRow el (lo ++ ln ++ rest).toArray).run P w.drew = .ok a w' → (Builtin.append_ #[t, t'] ty #[.slice base len C, yx]).run P w = .ok (.slice (some a) (len + n) NC) w' := by
  obtain ⟨x, hx, rfl⟩ := run_zero hz
  obtain ⟨i, hi, rfl⟩ := run_bytes (w := w) hby
  have hi' : ∀ w', (typeInfo el).run P w' = .ok i w' := fun w' => by
    unfold typeInfo at hi ⊢
    simp only [Sem.run_bind, run_program, Result.andThen_ok] at hi ⊢
    cases hI : P.info? el with
    | none => rw [hI] at hi; cases hi
    | some j => rw [hI] at hi; cases hi; rfl
  have hcell : x.cells.size = s := by
    have := VRs_len (cells_VR (e := ⟨id, id, fun _ => False⟩) (VR_ofV x))
    rw [← Array.length_toList]
    omega
  refine ⟨(Question.appendCap (len + n) C el).cut (w.tape w.drawn (.appendCap (len + n) C el)), (Builtin.zeroCells x.cells ((Question.appendCap (len + n) C el).cut (w.tape w.drawn (.appendCap (len + n) C el)) - (len + n))).toList, by simp [Question.cut], by simp [Builtin.zeroCells, hcell], fun a w' hr => ?_⟩
  have hmul : len + n ≤ (len + n) * (i.bytes + 1) := Nat.le_mul_of_pos_right _ (by omega)
  have hN : len + n < 1000000 := by omega
  have hb1 : (len + n) * i.bytes < 1000000 := by rw [Nat.mul_add] at hbig; omega
  have hg1 : ¬ (((len + n : Nat) : Int) > IntKind.i64.max ∧ (False ∨ i.bytes = 0)) := by
    rintro ⟨hg, -⟩
    have : IntKind.i64.max = 9223372036854775807 := rfl
    omega
  have hbb : i.bytes < 1000000 := by
    have : 0 < len + n := by omega
    have := Nat.le_mul_of_pos_left i.bytes this
    omega
  have hg2 : ¬ (Builtin.nextslicecap (len + n) C * i.bytes > 2 ^ 48) := by
    have h1 := Nat.mul_le_mul_right i.bytes (next_le hneed)
    have h2 : (2 * (len + n) + 200) * i.bytes = 2 * ((len + n) * i.bytes) + 200 * i.bytes := by rw [Nat.add_mul, Nat.mul_assoc]
    omega
  have hforced : (Question.appendCap (len + n) C el).forced = false := rfl
  unfold Builtin.append_
  simp only [List.getElem?_toArray, List.getElem?_cons_zero, List.getElem?_cons_succ, Sem.run_bind, run_und hu, Result.andThen_ok, run_size hs, run_und hd, Sem.run_pure]
  cases d <;> first
    | exact absurd rfl (hd2 _)
    | (simp only [Bool.false_eq_true, if_false, Sem.run_bind, hlen, Result.andThen_ok, if_neg (Nat.not_le.2 hneed), hi', if_neg hg1, if_neg hg2, run_choose, hforced, run_askRoom, ho w.drew rfl, Bool.not_false, if_true, hc w.drew rfl, hx, World.drew_eq]
       rw [show (lo.toArray ++ ln.toArray ++ Builtin.zeroCells x.cells ((Question.appendCap (len + n) C el).cut (w.tape w.drawn (.appendCap (len + n) C el)) - (len + n))) = (lo ++ ln ++ (Builtin.zeroCells x.cells ((Question.appendCap (len + n) C el).cut (w.tape w.drawn (.appendCap (len + n) C el)) - (len + n))).toList).toArray by simp, hr]
       rfl)
theorem notInt {t' : TypeId} (k : (match P.underlying t' with | some (.int _) => false | some _ => true | none => false) = true) : ∃ d, P.underlying t' = some d ∧ ∀ q, d ≠ .int q := by
  cases hu : P.underlying t' with
  | none => rw [hu] at k; cases k
  | some d =>
    refine ⟨d, rfl, fun q hq => ?_⟩
    subst hq
    rw [hu] at k
    cases k
theorem zero_cells {a : V} {y : Value} (s : Nat) (hy : VR e a y) (k : lenV a = .ok 0) : ∃ l : List Value, (Builtin.firstCells s 0 y).run P w = .ok l.toArray w := by
  unfold lenV at k
  split at k
  · rw [VR_lit.1 hy]; exact ⟨[], rfl⟩
  · rw [(VR_slc.1 hy).2]; exact ⟨[], by simp [Builtin.firstCells, loadCells, loadCellsFrom]⟩
  · rename_i q
    rw [VR_lit.1 hy]
    exact ⟨((q.extract 0 0).data.map fun b => (.int .u8 b.toNat : Value)).toList, by simp [Builtin.firstCells]⟩
  · cases k
theorem append_ok {ats : List TypeId} {ty : TypeId} {vs : List V} {xs : List Value} (r : Rel P e h w) (hxs : VRs e vs xs) (k : opAppend P ats vs h = .ok (v, h')) : Does P (Builtin.append_ ats.toArray ty xs.toArray) h e w h' v := by
  unfold opAppend at k
  split at k
  · rename_i t t' s x
    obtain ⟨ys, l1, rfl, hs0, hl1⟩ := VRs_cons.1 hxs
    obtain ⟨yx, l2, rfl, hx0, hl2⟩ := VRs_cons.1 hl1
    have hl3 := VRs_nil.1 hl2
    subst hl3
    cases hu : P.underlying t with
    | none => rw [hu] at k; cases k
    | some d =>
      rw [hu] at k
      cases d <;> simp only at k <;> try (cases k; done)
      rename_i el
      obtain ⟨hni, k⟩ := ec_ok k
      obtain ⟨d', hd, hd2⟩ := notInt hni
      obtain ⟨sz, hsz, k⟩ := eo_ok k
      obtain ⟨by_, hby, k⟩ := eo_ok k
      obtain ⟨z, hz, k⟩ := eo_ok k
      obtain ⟨n, hn, k⟩ := eb_ok k
      obtain ⟨hb, k⟩ := ec_ok k
      rw [Bool.and_eq_true] at hb
      have s0 : 0 < sz := Nat.lt_of_succ_le (Nat.le_of_ble_eq_true hb.1)
      have hzl := Nat.eq_of_beq_eq_true hb.2
      have hlen := fun w : World => lenV_ok (P := P) (w := w) hx0 hn
      split at k
      · -- nothing was there
        have hy := VR_lit.1 hs0
        subst hy
        split at k
        · next h0 =>
          cases k
          have h0' := Nat.eq_of_beq_eq_true h0
          subst h0'
          have hf := zero_cells (P := P) (w := w) sz hx0 hn
          obtain ⟨l, hf⟩ := hf
          exact Does.pure r (nil_run hu hd hd2 hsz (hlen w) hf) (VR_lit.2 rfl)
        · next h0 =>
          obtain ⟨hbig, k⟩ := ec_ok k
          obtain ⟨new, hnew, k⟩ := eb_ok k
          obtain ⟨⟨b, h2⟩, hnw, k⟩ := eb_ok k
          cases k
          have hbig' : n * (by_ + 1) < 1000000 := Nat.lt_of_succ_le (Nat.le_of_ble_eq_true hbig)
          obtain ⟨ln, _, hlv⟩ := first_ok r hx0 hnew
          have hfc : ∀ w' : World, w'.heap = w.heap → (Builtin.firstCells sz n yx).run P w' = .ok ln.toArray w' := fun w' he => by
            have r' : Rel P e h w' := ⟨r.lt, fun b hb => by rw [he]; exact r.old b hb, fun b o hb => by rw [he]; exact r.at_ b o hb, r.inj⟩
            obtain ⟨ln', f1, f2⟩ := first_ok r' hx0 hnew
            rw [VRs_uniq _ _ _ hlv f2]
            exact f1
          have hn0 : 0 < n := by
            rcases Nat.eq_zero_or_pos n with h | h
            · subst h; exact absurd (Nat.beq_refl 0) h0
            · exact h
          obtain ⟨NC, rest, q1, q2, q3⟩ := over_run (ty := ty) (base := none) (len := 0) (C := 0) (lo := []) hu hd hd2 hsz hby hz hzl (hlen w) hfc (fun w' _ => rfl) (by omega) (by simpa using hbig')
          obtain ⟨e', g1, g2, g3, g4, g5⟩ := grow_ok (k := NC - (0 + n)) (r.drew) hlv hsz q2 hnw
          refine ⟨_, _, q3 _ _ (by simpa using g1), e', g2, (Step.drew h e w).trans g3, VR_slc.2 ⟨g4, ?_⟩⟩
          rw [g5]
          simp only [if_true]
          congr 1
          · omega
          · omega
      · rename_i b off len cap hid z1 z2 z3 z4 z5 z6
        obtain ⟨hdm, rfl⟩ := VR_slc.1 hs0
        split at k
        · next hle =>
          have hle' := Nat.le_of_ble_eq_true hle
          obtain ⟨new, hnew, k⟩ := eb_ok k
          obtain ⟨h2, hst, k⟩ := eb_ok k
          cases k
          obtain ⟨ln, hf, hlv⟩ := first_ok r hx0 hnew
          obtain ⟨w', r1, r2, r3⟩ := storeAt_ok r hlv hst
          exact ⟨_, _, fit_run hu hd hd2 hsz (hlen w) hf (by omega) r1, e, r2, r3, VR_slc.2 ⟨hdm, rfl⟩⟩
        · next hle =>
          have hgt : cap < len + n := by
            rcases Nat.lt_or_ge cap (len + n) with h | h
            · exact h
            · exact absurd (Nat.ble_eq_true_of_le h) hle
          obtain ⟨hbig, k⟩ := ec_ok k
          have hbig' : (len + n) * (by_ + 1) < 1000000 := Nat.lt_of_succ_le (Nat.le_of_ble_eq_true hbig)
          obtain ⟨old, hold, k⟩ := eb_ok k
          obtain ⟨new, hnew, k⟩ := eb_ok k
          obtain ⟨ln, hf, hlv⟩ := first_ok r hx0 hnew
          obtain ⟨lo, hfo, hlo⟩ := first_ok r hs0 hold
          have r' : ∀ w' : World, w'.heap = w.heap → Rel P e h w' := fun w' he => ⟨r.lt, fun b hb => by rw [he]; exact r.old b hb, fun b o hb => by rw [he]; exact r.at_ b o hb, r.inj⟩
          have hfc : ∀ w' : World, w'.heap = w.heap → (Builtin.firstCells sz n yx).run P w' = .ok ln.toArray w' := fun w' he => by
            obtain ⟨ln', f1, f2⟩ := first_ok (r' w' he) hx0 hnew
            rw [VRs_uniq _ _ _ hlv f2]
            exact f1
          have hfo' : ∀ C (w' : World), w'.heap = w.heap → (Builtin.firstCells sz len (.slice (some ⟨e.σ b, off, none⟩) len C)).run P w' = .ok lo.toArray w' := fun C w' he => by
            obtain ⟨lo', f1, f2⟩ := first_ok (r' w' he) hs0 hold
            rw [VRs_uniq _ _ _ hlo f2]
            exact f1
          cases hid with
          | false =>
            simp only [Bool.false_eq_true, if_false] at k
            obtain ⟨⟨nb, h2⟩, hnw, k⟩ := eb_ok k
            cases k
            obtain ⟨NC, rest, q1, q2, q3⟩ := over_run (ty := ty) (base := some ⟨e.σ b, off, none⟩) (len := len) (C := cap + 0) (lo := lo) hu hd hd2 hsz hby hz hzl (hlen w) hfc (hfo' _) (by omega) hbig'
            obtain ⟨e', g1, g2, g3, g4, g5⟩ := grow_ok (k := NC - (len + n)) (r.drew) (VRs_append hlo hlv) hsz q2 hnw
            refine ⟨_, _, q3 _ _ g1, e', g2, (Step.drew h e w).trans g3, VR_slc.2 ⟨g4, ?_⟩⟩
            rw [g5]
            simp only [if_true]
            congr 1
            omega
          | true =>
            simp only [if_true] at k
            cases hb' : h.get b with
            | none => rw [hb'] at k; cases k
            | some ob =>
              rw [hb'] at k
              cases ob with
              | cells c el' =>
                simp only at k
                obtain ⟨hoc, kk⟩ := ec_ok k
                clear k
                simp only [Bool.and_eq_true] at hoc
                obtain ⟨⟨o1, o2⟩, o3, o4⟩ := hoc
                have ho0 := Nat.eq_of_beq_eq_true o1
                subst ho0
                have hcl := Nat.eq_of_beq_eq_true o2
                have hel := Nat.eq_of_beq_eq_true o3
                subst hel
                have hnl := Nat.eq_of_beq_eq_true o4
                obtain ⟨h1, hset, kk⟩ := eb_ok kk
                obtain ⟨⟨nb, h2⟩, hnw, kk⟩ := eb_ok kk
                cases kk
                obtain ⟨-, l, rest, hw, h3, h4⟩ := block_at r hb'
                have hlnl := VRs_len hlv
                have hll := VRs_len h3
                obtain ⟨hoe, hlc⟩ : old = (c.drop 0).take (len * sz) ∧ len ≤ cap := by
                  simp only [firstCellsT, hb'] at hold
                  obtain ⟨q, hq, hold⟩ := eo_ok hold
                  cases hold
                  obtain ⟨q1, q2⟩ := takeN_some hq
                  refine ⟨q1, ?_⟩
                  rcases q2 with q2 | q2
                  · rcases Nat.mul_eq_zero.1 q2 with h | h <;> omega
                  · rw [hcl, Nat.zero_add] at q2
                    exact Nat.le_of_mul_le_mul_right q2 s0
                by_cases hroom : len + n ≤ cap + e.κ b
                · have hm1 : (len + n) * sz ≤ (cap + e.κ b) * sz := Nat.mul_le_mul_right sz hroom
                  rw [Nat.add_mul, Nat.add_mul] at hm1
                  have hrl := h4 sz hsz
                  have hsc : ∀ x ∈ ln, x.oneCell' = true := by
                    unfold opNew at hnw
                    obtain ⟨hsc, -⟩ := ec_ok hnw
                    unfold scalars at hsc
                    rw [List.all_append, Bool.and_eq_true] at hsc
                    exact scalars_one hsc.2 hlv
                  obtain ⟨w', f1, f2, f3⟩ := storeCells_run (P := P) (off := 0 + len * sz) (rest := []) ln 0 w (l ++ rest) (by simpa using hw) (by simp; omega) hsc
                  rw [Nat.zero_add] at f1 f2
                  simp only [Nat.add_zero, List.append_nil] at f2
                  obtain ⟨e', g1, g2, g3, g4, g5⟩ := inplace_ok (K := e.κ b) (len := len) (need := len + n) (new := new) r hb' hcl hw h3 hrl rfl hsz hlv (by rw [hlnl, hnl]; congr 1; omega) (by omega) hroom hlc hset (by rw [← hoe]; exact hnw) f2 f3
                  refine ⟨_, _, fit_run hu hd hd2 hsz (hlen w) hf (by simpa using hroom) (by rw [Nat.zero_add]; exact f1), e', g1, g2, VR_slc.2 ⟨g3, ?_⟩⟩
                  rw [g4, g5]
                  simp only [if_true]
                  congr 1
                  omega
                · obtain ⟨hfr, rfl⟩ := set_ok hset
                  obtain ⟨NC, rest', q1, q2, q3⟩ := over_run (ty := ty) (base := some ⟨e.σ b, 0, none⟩) (len := len) (C := cap + if true = true then e.κ b else 0) (lo := lo) hu hd hd2 hsz hby hz hzl (hlen w) hfc (hfo' _) (by simp; omega) hbig'
                  obtain ⟨e', g1, g2, g3, g4, g5⟩ := grow_ok (k := NC - (len + n)) (rel_drop (b := b) r.drew) (VRs_append hlo hlv) hsz q2 hnw
                  refine ⟨_, _, q3 _ _ g1, e', g2, ((Step.drew h e w).trans (step_drop h e w.drew b)).trans g3, VR_slc.2 ⟨g4, ?_⟩⟩
                  rw [g5]
                  simp only [if_true]
                  congr 1
                  omega
              | _ => simp only at k; cases k
      · cases k
  · cases k
end
end Go.Proofs.YtfnnkfngiodnhaaDoor

/- The evaluator's operations are the model's: all of them but calls of functions. -/
namespace Go.Proofs.YtfnnkfngiodnhaaDoor
set_option linter.unusedSimpArgs false
set_option linter.unusedVariables false
open Go Go.RowKit

section
variable {P : Program} {e : Env} {h h' : H} {w : World} {v : V}
theorem copy_ok {ats : List TypeId} {ty : TypeId} {vs : List V} {xs : List Value} (r : Rel P e h w) (hxs : VRs e vs xs) (k : opCopy P ats vs h = .ok (v, h')) : Does P (Builtin.copy_ ats.toArray ty xs.toArray) h e w h' v := by
  unfold opCopy at k
  split at k
  · rename_i t ts d x
    obtain ⟨yd, l1, rfl, hd0, hl1⟩ := VRs_cons.1 hxs
    obtain ⟨yx, l2, rfl, hx0, hl2⟩ := VRs_cons.1 hl1
    have hl3 := VRs_nil.1 hl2
    subst hl3
    cases hu : P.underlying t with
    | none => rw [hu] at k; cases k
    | some dd =>
      rw [hu] at k
      cases dd with
      | slice el =>
        simp only at k
        obtain ⟨sz, hsz, k⟩ := eo_ok k
        obtain ⟨dl, hdl, k⟩ := eb_ok k
        obtain ⟨xl, hxl, k⟩ := eb_ok k
        obtain ⟨cs, hcs, k⟩ := eb_ok k
        have hlen := lenV_ok (P := P) (w := w) hx0 hxl
        obtain ⟨ln, hf, hlv⟩ := first_ok r hx0 hcs
        cases d with
        | slc b off len cap hid =>
          simp only at k
          obtain ⟨hdm, rfl⟩ := VR_slc.1 hd0
          obtain ⟨h2, hst, k⟩ := eb_ok k
          cases k
          have hdl' : dl = len := by cases hdl; rfl
          subst hdl'
          obtain ⟨w', r1, r2, r3⟩ := storeAt_ok r hlv hst
          refine ⟨_, w', ?_, e, r2, r3, VR_lit.2 rfl⟩
          simp only [Builtin.copy_, List.getElem?_toArray, List.getElem?_cons_zero, List.getElem?_cons_succ, Sem.run_bind, run_und hu, Result.andThen_ok, hlen, run_size hsz, hf, Sem.run_pure]
          rw [r1]
          rfl
        | _ => simp only at k; cases k
      | _ => simp only at k; cases k
  · cases k
theorem len_ok {ats : List TypeId} {ty : TypeId} {vs : List V} {xs : List Value} (r : Rel P e h w) (hxs : VRs e vs xs) (k : opLen P ats vs h = .ok v) : Does P (Builtin.len_ ats.toArray ty xs.toArray) h e w h v := by
  unfold opLen at k
  split at k
  · rename_i t x
    obtain ⟨y, l1, rfl, hy, hl1⟩ := VRs_cons.1 hxs
    have hl3 := VRs_nil.1 hl1
    subst hl3
    cases x with
    | slc b off len cap hid =>
      simp only at k
      cases hu : P.underlying t with
      | none => rw [hu] at k; cases k
      | some d =>
        rw [hu] at k
        cases d <;> simp only at k <;> try (cases k; done)
        cases k
        obtain ⟨hd, rfl⟩ := VR_slc.1 hy
        refine Does.pure r (x := goInt len) ?_ (VR_lit.2 rfl)
        simp only [Builtin.len_, List.getElem?_toArray, List.getElem?_cons_zero, Sem.run_bind, run_und hu, Result.andThen_ok, Sem.run_pure]
    | map b =>
      simp only at k
      cases hu : P.underlying t with
      | none => rw [hu] at k; cases k
      | some d =>
        rw [hu] at k
        cases d with
        | map kt el =>
          cases hb : h.get b with
          | none => rw [hb] at k; cases k
          | some o =>
            rw [hb] at k
            cases o <;> simp only at k <;> try (cases k; done)
            rename_i es c
            cases k
            obtain ⟨-, l, h2, hE⟩ := map_at r hb
            obtain ⟨hd, rfl⟩ := VR_map.1 hy
            refine Does.pure r (x := goInt es.length) ?_ (VR_lit.2 rfl)
            have := EsR_len hE
            simp only [Builtin.len_, List.getElem?_toArray, List.getElem?_cons_zero, Sem.run_bind, run_und hu, Result.andThen_ok, getObj_run h2 (fun _ _ _ => by simp), Sem.run_pure, List.size_toArray, this]
        | _ => simp only at k; cases k
    | lit q =>
      simp only at k
      obtain ⟨z, hz, k⟩ := eo_ok k
      cases k
      rw [VR_lit.1 hy]
      exact Does.pure r (prun_ok P w _ _ hz) (VR_lit.2 rfl)
    | _ => simp only at k; cases k
  · cases k
theorem builtin_ok {b : Builtin} {ats : Array TypeId} {ty : TypeId} {cs : Array Bool} {vs : List V} {xs : List Value} (r : Rel P e h w) (hxs : VRs e vs xs) (k : opBuiltin P b ats.toList vs h = .ok (v, h')) :
    ∃ x w', (builtin b ats ty cs xs.toArray).run P w = .ok (.value x) w' ∧ Got P h e w h' v x w' := by
  have hv : ∀ {s : Sem Value}, builtin b ats ty cs xs.toArray = (do pure (.value (← s))) → Does P s h e w h' v → ∃ x w', (builtin b ats ty cs xs.toArray).run P w = .ok (.value x) w' ∧ Got P h e w h' v x w' := fun hs ⟨x, w', g1, g2⟩ => ⟨x, w', by rw [hs]; simp only [Sem.run_bind, g1, Result.andThen_ok, Sem.run_pure], g2⟩
  cases b <;> simp only [opBuiltin] at k <;> try (cases k; done)
  · have := append_ok (ty := ty) r hxs k
    simp only [Array.toArray_toList] at this
    exact hv rfl this
  · have := copy_ok (ty := ty) r hxs k
    simp only [Array.toArray_toList] at this
    exact hv rfl this
  · obtain ⟨u, hu, k⟩ := eb_ok k
    cases k
    have := len_ok (ty := ty) r hxs hu
    simp only [Array.toArray_toList] at this
    exact hv rfl this
  · obtain ⟨l, hl, k⟩ := eo_ok k
    obtain ⟨x, hx, k⟩ := eo_ok k
    cases k
    have := plains_VRs hl hxs
    subst this
    refine hv rfl (Does.pure r (x := x) ?_ (VR_lit.2 rfl))
    exact prun_ok P w _ _ hx
  · obtain ⟨l, hl, k⟩ := eo_ok k
    obtain ⟨x, hx, k⟩ := eo_ok k
    cases k
    have := plains_VRs hl hxs
    subst this
    refine hv rfl (Does.pure r (x := x) ?_ (VR_lit.2 rfl))
    exact prun_ok P w _ _ hx
end
end Go.Proofs.YtfnnkfngiodnhaaDoor

/- The evaluator's operations are the model's: every operation that is no call. -/
namespace Go.Proofs.YtfnnkfngiodnhaaDoor
set_option linter.unusedSimpArgs false
set_option linter.unusedVariables false
open Go Go.RowKit

section
variable {P : Program} {e : Env} {h h' : H} {w : World} {v : V}
/-- What an operation that is no call comes to. -/
def OpOk (P : Program) (o : Oper) (ρ : Operand → Value) (h : H) (e : Env) (w : World) (h' : H) (v : V) : Prop :=
  ∃ x w', ((execOp ρ o).run P w = .ok (.value x) w' ∨ ((execOp ρ o).run P w = .ok .skip w' ∧ x = undef)) ∧ Got P h e w h' v x w'
theorem value_ok {o : Oper} {ρ : Operand → Value} {s : Sem Value} (hs : execOp ρ o = (do pure (.value (← s)))) (d : Does P s h e w h' v) : OpOk P o ρ h e w h' v := by
  obtain ⟨x, w', g1, g2⟩ := d
  exact ⟨x, w', .inl (by rw [hs]; simp only [Sem.run_bind, g1, Result.andThen_ok, Sem.run_pure]), g2⟩
theorem unit_ok {o : Oper} {ρ : Operand → Value} {s : Sem Unit} (hs : execOp ρ o = (do s; pure .skip)) (hd : ∃ w', s.run P w = .ok () w' ∧ Rel P e h' w' ∧ Step h e w h' e w') : OpOk P o ρ h e w h' uV := by
  obtain ⟨w', g1, g2, g3⟩ := hd
  exact ⟨undef, w', .inr ⟨by rw [hs]; simp only [Sem.run_bind, g1, Result.andThen_ok, Sem.run_pure], rfl⟩, e, g2, g3, VR_lit.2 rfl⟩
theorem kU_ok {x : E H} (k : kU x = .ok (v, h')) : x = .ok h' ∧ v = uV := by
  unfold kU at k
  obtain ⟨u, h1, h2⟩ := eb_ok k
  cases h2
  exact ⟨h1, rfl⟩
theorem nil_ok {a : Fr} {ρ : Operand → Value} {x : Operand} {o : Oper} (ho : o.op = .nilCheck x) (r : Rel P e h w) (hx : ∀ u, ev a x = .ok u → VR e u (ρ x)) (k : pNil a h x = .ok (v, h')) : OpOk P o ρ h e w h' v := by
  unfold pNil at k
  obtain ⟨kk, hh⟩ := kV_ok k
  clear k
  subst hh
  have k := kk
  clear kk
  obtain ⟨u, hu, k⟩ := eb_ok k
  have hv := hx u hu
  refine ⟨ρ x, w, .inl ?_, Got.same r ?_⟩
  · unfold execOp
    rw [ho]
    dsimp only
    cases u <;> simp only [kNil] at k <;> try (cases k; done)
    · rw [(VR_ptr.1 hv).2]; rfl
    · rw [(VR_slc.1 hv).2]; rfl
    · rw [(VR_map.1 hv).2]; rfl
    · obtain ⟨l, m, e1, -⟩ := VR_fn.1 hv
      rw [e1]; rfl
    · rw [(VR_yld.1 hv).2]; rfl
  · cases u <;> simp only [kNil] at k <;> (cases k) <;> exact hv
theorem evo_ok {a : Fr} {ρ : Operand → Value} {o : Option Operand} {q : Option V} (hx : ∀ x, o = some x → ∀ u, ev a x = .ok u → VR e u (ρ x)) (k : evo a o = .ok q) : VRo e q (o.map ρ) := by
  cases o with
  | none => cases k; rfl
  | some x =>
    unfold evo at k
    obtain ⟨u, hu, k⟩ := eb_ok k
    cases k
    exact ⟨_, rfl, hx x rfl u hu⟩
theorem plain_ok {o : Oper} {a : Fr} {ρ : Operand → Value} {go : Run} (r : Rel P e h w) (hops : OpsR e a ρ o.op.operands.toList) (hc : isCall o.op = false) (k : opW P go a o.op h = .ok (v, h')) : OpOk P o ρ h e w h' v := by
  obtain ⟨dst, op, ty, pos, after, guard⟩ := o
  cases op with
  | move x =>
    change pMove a h x = _ at k
    obtain ⟨kk, hh⟩ := kV_ok k
    clear k
    subst hh
    have k := kk
    clear kk
    exact ⟨ρ x, w, .inl rfl, Got.same r (hops x (by simp [Op.operands]) _ k)⟩
  | assign x =>
    change pMove a h x = _ at k
    obtain ⟨kk, hh⟩ := kV_ok k
    clear k
    subst hh
    have k := kk
    clear kk
    exact ⟨ρ x, w, .inl rfl, Got.same r (hops x (by simp [Op.operands]) _ k)⟩
  | pick c x y =>
    change pPick a h c x y = _ at k
    obtain ⟨kk, hh⟩ := kV_ok k
    clear k
    subst hh
    have k := kk
    clear kk
    obtain ⟨u, hu, k⟩ := eb_ok k
    have hcv := hops c (by simp [Op.operands]) _ hu
    unfold kPick at k
    split at k
    · have e1 := VR_lit.1 hcv
      refine ⟨ρ x, w, .inl ?_, Got.same r (hops x (by simp [Op.operands]) _ k)⟩
      simp [execOp, e1, asBool]
    · have e1 := VR_lit.1 hcv
      refine ⟨ρ y, w, .inl ?_, Got.same r (hops y (by simp [Op.operands]) _ k)⟩
      simp [execOp, e1, asBool]
    · cases k
  | alloc t => exact value_ok rfl (alloc_ok r k)
  | box t x =>
    change pBox a h t x = _ at k
    obtain ⟨u, hu, k⟩ := eb_ok k
    exact value_ok rfl (box_ok r (hops x (by simp [Op.operands]) _ hu) k)
  | build t ps =>
    change pBuild P a h t ps = _ at k
    obtain ⟨vs, hvs, k⟩ := eb_ok k
    obtain ⟨kk, hh⟩ := kV_ok k
    clear k
    subst hh
    have k := kk
    clear kk
    have hv := OpsR.evs (e := e) (ρ := ρ) (fun x hx => hops x (by simpa [Op.operands] using hx)) hvs
    obtain ⟨q1, q2⟩ := parts_split (a := a) hv
    exact value_ok rfl (build_ok r q1 q2 k)
  | buildSlice t n ps =>
    change pBuildSlice P a h t n ps = _ at k
    obtain ⟨vs, hvs, k⟩ := eb_ok k
    have hv := OpsR.evs (e := e) (ρ := ρ) (fun x hx => hops x (by simpa [Op.operands] using hx)) hvs
    obtain ⟨q1, q2⟩ := parts_split (a := a) hv
    exact value_ok rfl (buildSlice_ok r q1 q2 k)
  | insert t m c x =>
    change pUpdate P a h t m c x = _ at k
    obtain ⟨u1, h1, k⟩ := eb_ok k
    obtain ⟨u2, h2, k⟩ := eb_ok k
    obtain ⟨u3, h3, k⟩ := eb_ok k
    obtain ⟨kk, hh⟩ := kU_ok k
    clear k
    subst hh
    have k := kk
    clear kk
    exact unit_ok rfl (update_ok r (hops m (by simp [Op.operands]) _ h1) (hops c (by simp [Op.operands]) _ h2) (hops x (by simp [Op.operands]) _ h3) k)
  | load t x =>
    change pLoad P a h t x = _ at k
    obtain ⟨u, hu, k⟩ := eb_ok k
    obtain ⟨kk, hh⟩ := kV_ok k
    clear k
    subst hh
    have k := kk
    clear kk
    exact value_ok rfl (load_ok r (hops x (by simp [Op.operands]) _ hu) k)
  | store t x y =>
    change pStore P a h t x y = _ at k
    obtain ⟨u, hu, k⟩ := eb_ok k
    obtain ⟨u2, hu2, k⟩ := eb_ok k
    obtain ⟨kk, hh⟩ := kU_ok k
    clear k
    subst hh
    have k := kk
    clear kk
    exact unit_ok rfl (store_ok r (hops x (by simp [Op.operands]) _ hu) (hops y (by simp [Op.operands]) _ hu2) k)
  | nilCheck x => exact nil_ok rfl r (hops x (by simp [Op.operands])) k
  | binOp op t x y t2 =>
    change pBin P a h op t x y = _ at k
    obtain ⟨u, hu, k⟩ := eb_ok k
    obtain ⟨u2, hu2, k⟩ := eb_ok k
    obtain ⟨kk, hh⟩ := kV_ok k
    clear k
    subst hh
    have k := kk
    clear kk
    exact value_ok rfl (bin_ok r (hops x (by simp [Op.operands]) _ hu) (hops y (by simp [Op.operands]) _ hu2) k)
  | unOp op t x =>
    change pUn P a h op x = _ at k
    obtain ⟨u, hu, k⟩ := eb_ok k
    obtain ⟨q, hq, k⟩ := eo_ok k
    obtain ⟨z, hz, k⟩ := eo_ok k
    cases k
    have e1 := plain_VR hq (hops x (by simp [Op.operands]) _ hu)
    refine value_ok rfl (Does.pure r (x := z) ?_ (VR_lit.2 rfl))
    rw [e1]
    exact prun_ok P w _ _ hz
  | convert s d x =>
    change pConvert P a h s d x = _ at k
    obtain ⟨u, hu, k⟩ := eb_ok k
    obtain ⟨q, hq, k⟩ := eo_ok k
    obtain ⟨z, hz, k⟩ := eo_ok k
    cases k
    have e1 := plain_VR hq (hops x (by simp [Op.operands]) _ hu)
    refine value_ok rfl (Does.pure r (x := z) ?_ (VR_lit.2 rfl))
    rw [e1]
    exact prun_ok P w _ _ hz
  | makeFunc f first cap =>
    change pFunc a h f first cap = _ at k
    unfold pFunc at k
    cases f <;> simp only at k <;> try (cases k; done)
    rename_i f
    obtain ⟨fs, hfs, k⟩ := eb_ok k
    obtain ⟨cs, hcs, k⟩ := eb_ok k
    cases k
    have q1 := OpsR.evs (e := e) (ρ := ρ) (fun x hx => hops x (by simp [Op.operands] at hx ⊢; exact .inl hx)) hfs
    have q2 := OpsR.evs (e := e) (ρ := ρ) (fun x hx => hops x (by simp [Op.operands] at hx ⊢; exact .inr hx)) hcs
    refine value_ok rfl (Does.pure r (x := .func (.func f) (first.toList.map ρ).toArray (cap.toList.map ρ).toArray) ?_ (VR_fn.2 ⟨_, _, rfl, q1, q2⟩))
    simp only [Instr.makeFunc, Sem.run_pure]
    rw [show Array.map ρ first = (List.map ρ first.toList).toArray from Array.toList_inj.1 (by simp), show Array.map ρ cap = (List.map ρ cap.toList).toArray from Array.toList_inj.1 (by simp)]
  | makeMap t q =>
    change pMap P a h t q = _ at k
    unfold pMap at k
    cases q with
    | none =>
      simp only at k
      rw [newK_eq] at k
      cases k
      exact value_ok rfl (makeMap_ok r (.inl rfl))
    | some x =>
      simp only at k
      obtain ⟨u, hu, k⟩ := eb_ok k
      obtain ⟨n, hn, k⟩ := eb_ok k
      obtain ⟨q, hq⟩ := idx_ok hn (hops x (by simp [Op.operands]) _ hu)
      cases hun : P.underlying t with
      | none => rw [hun] at k; cases k
      | some d =>
        rw [hun] at k
        cases d <;> simp only at k <;> try (cases k; done)
        rw [newK_eq] at k
        cases k
        exact value_ok rfl (makeMap_ok r (.inr ⟨q, n, _, _, by simp [hq], hun⟩))
  | makeSlice t l c =>
    change pMakeSlice P a h t l c = _ at k
    obtain ⟨u, hu, k⟩ := eb_ok k
    obtain ⟨u2, hu2, k⟩ := eb_ok k
    exact value_ok rfl (makeSlice_ok r (hops l (by simp [Op.operands]) _ hu) (hops c (by simp [Op.operands]) _ hu2) k)
  | slice t x lo hi mx =>
    change pSlice P a h t x lo hi mx = _ at k
    obtain ⟨u, hu, k⟩ := eb_ok k
    obtain ⟨q1, h1, k⟩ := eb_ok k
    obtain ⟨q2, h2, k⟩ := eb_ok k
    obtain ⟨q3, h3, k⟩ := eb_ok k
    obtain ⟨kk, hh⟩ := kV_ok k
    clear k
    subst hh
    have k := kk
    clear kk
    exact value_ok rfl (slice_ok r (hops x (by simp [Op.operands]) _ hu) (evo_ok (fun y hy => hops y (by subst hy; simp [Op.operands])) h1) (evo_ok (fun y hy => hops y (by subst hy; simp [Op.operands])) h2) (evo_ok (fun y hy => hops y (by subst hy; simp [Op.operands])) h3) k)
  | fieldAddr s x f =>
    change pFieldAddr P a h s x f = _ at k
    obtain ⟨u, hu, k⟩ := eb_ok k
    obtain ⟨kk, hh⟩ := kV_ok k
    clear k
    subst hh
    have k := kk
    clear kk
    exact value_ok rfl (fieldAddr_ok r (hops x (by simp [Op.operands]) _ hu) k)
  | field s x f =>
    change pField P a h s x f = _ at k
    obtain ⟨u, hu, k⟩ := eb_ok k
    obtain ⟨kk, hh⟩ := kV_ok k
    clear k
    subst hh
    have k := kk
    clear kk
    exact value_ok rfl (field_ok r (hops x (by simp [Op.operands]) _ hu) k)
  | indexAddr t x i =>
    change pIndexAddr P a h t x i = _ at k
    obtain ⟨u, hu, k⟩ := eb_ok k
    obtain ⟨u2, hu2, k⟩ := eb_ok k
    obtain ⟨kk, hh⟩ := kV_ok k
    clear k
    subst hh
    have k := kk
    clear kk
    exact value_ok rfl (indexAddr_ok r (hops x (by simp [Op.operands]) _ hu) (hops i (by simp [Op.operands]) _ hu2) k)
  | index t x i =>
    change pIndex P a h t x i = _ at k
    obtain ⟨u, hu, k⟩ := eb_ok k
    obtain ⟨u2, hu2, k⟩ := eb_ok k
    obtain ⟨kk, hh⟩ := kV_ok k
    clear k
    subst hh
    have k := kk
    clear kk
    exact value_ok rfl (index_ok r (hops x (by simp [Op.operands]) _ hu) (hops i (by simp [Op.operands]) _ hu2) k)
  | lookup t x i ok =>
    change pLookup P a h t x i ok = _ at k
    obtain ⟨u, hu, k⟩ := eb_ok k
    obtain ⟨u2, hu2, k⟩ := eb_ok k
    obtain ⟨kk, hh⟩ := kV_ok k
    clear k
    subst hh
    have k := kk
    clear kk
    exact value_ok rfl (lookup_ok r (hops x (by simp [Op.operands]) _ hu) (hops i (by simp [Op.operands]) _ hu2) k)
  | mapUpdate t m c x =>
    change pUpdate P a h t m c x = _ at k
    obtain ⟨u1, h1, k⟩ := eb_ok k
    obtain ⟨u2, h2, k⟩ := eb_ok k
    obtain ⟨u3, h3, k⟩ := eb_ok k
    obtain ⟨kk, hh⟩ := kU_ok k
    clear k
    subst hh
    have k := kk
    clear kk
    exact unit_ok rfl (update_ok r (hops m (by simp [Op.operands]) _ h1) (hops c (by simp [Op.operands]) _ h2) (hops x (by simp [Op.operands]) _ h3) k)
  | range t x =>
    change pRange P a h t x = _ at k
    obtain ⟨u, hu, k⟩ := eb_ok k
    exact value_ok rfl (range_ok r (hops x (by simp [Op.operands]) _ hu) k)
  | next it s =>
    change pNext a h it s = _ at k
    obtain ⟨u, hu, k⟩ := eb_ok k
    exact value_ok rfl (next_ok r (hops it (by simp [Op.operands]) _ hu) k)
  | extract x i =>
    change pExtract a h x i = _ at k
    obtain ⟨kk, hh⟩ := kV_ok k
    clear k
    subst hh
    have k := kk
    clear kk
    obtain ⟨u, hu, k⟩ := eb_ok k
    exact value_ok rfl (extract_ok r (hops x (by simp [Op.operands]) _ hu) k)
  | call c => cases hc
  | _ => cases k
end
end Go.Proofs.YtfnnkfngiodnhaaDoor

/- Activations, calls and rounds: what the evaluator says of a piece of code holds of the model. -/
namespace Go.Proofs.YtfnnkfngiodnhaaDoor
set_option linter.unusedSimpArgs false
set_option linter.unusedVariables false
open Go Go.RowKit

structure FrR (e : Env) (a : Fr) (act : Act) : Prop where
  size : act.tmps.size = a.sz
  tmp : ∀ i, VR e ((a.t.get i).getD uV) (act.tmps.getD i undef)
  df : act.defers = a.df.map fun d => { target := .collected (e.σ d), args := #[] }
  dom : ∀ d ∈ a.df, e.dom d
  glob : ∀ g, g < a.gl → e.dom g ∧ e.σ g = g
theorem FrR.mono {e e' : Env} {a : Fr} {act : Act} (h : Le e e') (r : FrR e a act) : FrR e' a act :=
  ⟨r.size, fun i => (r.tmp i).mono h, by rw [r.df]; exact List.map_congr_left fun d hd => by rw [h.σ d (r.dom d hd)], fun d hd => h.dom d (r.dom d hd), fun g hg => ⟨h.dom g (r.glob g hg).1, by rw [h.σ g (r.glob g hg).1]; exact (r.glob g hg).2⟩⟩
theorem FrR.ev {e : Env} {a : Fr} {act : Act} (r : FrR e a act) (x : Operand) (v : V) (k : ev a x = .ok v) : VR e v (act.eval x) := by
  cases x with
  | tmp i => cases k; exact r.tmp i
  | const c => cases k; exact VR_ofV c
  | func f => cases k; exact VR_fn.2 ⟨[], [], rfl, VRs_nil.2 rfl, VRs_nil.2 rfl⟩
  | global g =>
    obtain ⟨h1, k⟩ := ec_ok k
    cases k
    have h2 := r.glob g (Nat.lt_of_succ_le (Nat.le_of_ble_eq_true h1))
    exact VR_ptr.2 ⟨h2.1, by rw [h2.2]; rfl⟩
theorem FrR.ops {e : Env} {a : Fr} {act : Act} (r : FrR e a act) (xs : List Operand) : OpsR e a act.eval xs := fun x _ v k => r.ev x v k
theorem br_true {β : Type} (x y : β) : Tr.br true x y = x := rfl
theorem br_false {β : Type} (x y : β) : Tr.br false x y = y := rfl
/-- A temporary is written. -/
theorem putK_eq {β : Type} (a : Fr) (d : Option Tmp) (v : V) (k : Fr → β) : a.putK d v k = k (a.put d v) := by
  cases d with
  | none => rfl
  | some d =>
    unfold Fr.putK Fr.put
    simp only
    cases Nat.blt d a.sz with
    | true =>
      rw [br_true, br_true, fV_eq, Tr.setK_eq]
      congr 1
      unfold Tr.set
      rw [Tr.setK_eq]
      rfl
    | false => rfl
theorem FrR.put {e : Env} {a : Fr} {act : Act} (r : FrR e a act) (d : Option Tmp) {v : V} {x : Value} (hv : VR e v x) : FrR e (a.put d v) (act.put d x) := by
  cases d with
  | none => exact r
  | some d =>
    unfold Fr.put
    simp only
    cases hb : Nat.blt d a.sz with
    | false =>
      have hge : ¬ d < act.tmps.size := fun h => by
        rw [r.size] at h
        have : Nat.blt d a.sz = true := Nat.ble_eq_true_of_le (Nat.succ_le_of_lt h)
        rw [hb] at this
        cases this
      show FrR e a _
      refine ⟨by show (act.tmps.setIfInBounds d x).size = _; rw [Array.size_setIfInBounds]; exact r.size, fun i => ?_, r.df, r.dom, r.glob⟩
      show VR e _ ((act.tmps.setIfInBounds d x).getD i undef)
      rw [Array.setIfInBounds_eq_of_size_le (Nat.le_of_not_lt hge)]
      exact r.tmp i
    | true =>
      have hlt : d < act.tmps.size := by rw [r.size]; exact Nat.lt_of_succ_le (Nat.le_of_ble_eq_true hb)
      show FrR e ⟨a.t.set d (some v), a.sz, a.df, a.gl⟩ _
      refine ⟨by show (act.tmps.setIfInBounds d x).size = _; rw [Array.size_setIfInBounds]; exact r.size, fun i => ?_, r.df, r.dom, r.glob⟩
      show VR e (((a.t.set d (some v)).get i).getD uV) ((act.tmps.setIfInBounds d x).getD i undef)
      have hset : a.t.set d (some v) = Tr.setP (some v) (Tr.path d) a.t := by unfold Tr.set; rw [Tr.setK_eq]; rfl
      rw [hset]
      by_cases hi : i = d
      · subst hi
        rw [Tr.get_set_same, Array.getD_eq_getD_getElem?, Array.getElem?_setIfInBounds_self_of_lt hlt]
        exact hv
      · rw [Tr.get_set_other _ _ hi, Array.getD_eq_getD_getElem?, Array.getElem?_setIfInBounds_ne (Ne.symm hi), ← Array.getD_eq_getD_getElem?]
        exact r.tmp i
/-- Is a guarded operation wanted? -/
theorem VR_bool {e : Env} {v : V} {b : Bool} (h : VR e v (.bool b)) : v = .lit (.bool b) := by
  cases v with
  | lit u => rw [← VR_lit.1 h]
  | ptr _ _ => cases (VR_ptr.1 h).2
  | slc _ _ _ _ _ => cases (VR_slc.1 h).2
  | map _ => cases (VR_map.1 h).2
  | yld _ => cases (VR_yld.1 h).2
  | fn _ _ _ => obtain ⟨l, m, h1, -⟩ := VR_fn.1 h; cases h1
  | agg _ => obtain ⟨l, h1, -⟩ := VR_agg.1 h; cases h1
  | tup _ => obtain ⟨l, h1, -⟩ := VR_tup.1 h; cases h1
theorem wanted_ok {e : Env} {ops : Array Oper} {a : Fr} {tmps : Array Value} {o : Oper} (hsz : tmps.size = a.sz) (hd : ∀ j want d, o.guard = some (j, want) → (ops[j]?).bind (·.dst) = some d → VR e ((a.t.get d).getD uV) (tmps.getD d undef)) : Region.wanted o (yielded ops tmps) = wantedT ops a o := by
  unfold Region.wanted wantedT
  cases hg : o.guard with
  | none => rfl
  | some q =>
    obtain ⟨j, want⟩ := q
    simp only
    unfold yielded
    cases hdst : (ops[j]?).bind (·.dst) with
    | none => rfl
    | some d =>
      have hv := hd j want d hg hdst
      simp only [Option.bind_some]
      rw [Array.getD_eq_getD_getElem?] at hv
      cases ht : tmps[d]? with
      | none =>
        rw [ht] at hv
        simp only [Option.getD_none] at hv
        cases hq : a.t.get d with
        | none => rfl
        | some v =>
          rw [hq] at hv
          cases v with
          | lit u =>
            have := VR_lit.1 hv
            cases u <;> first | rfl | (simp [undef] at this)
          | _ => rfl
      | some x =>
        rw [ht] at hv
        simp only [Option.getD_some] at hv
        cases hq : a.t.get d with
        | none =>
          rw [hq] at hv
          have := VR_lit.1 hv
          subst this
          rfl
        | some v =>
          rw [hq] at hv
          simp only [Option.getD_some] at hv
          cases x with
          | bool b =>
            have := VR_bool hv
            subst this
            simp
          | _ =>
            cases v with
            | lit u =>
              have := VR_lit.1 hv
              subst this
              rfl
            | _ => rfl
def X.out : X → Exit
  | .normal => .normal
  | .exit id => .exit id
  | .ret => .ret
def fence (e : Env) : Option Nat → Fence
  | none => Fence.wide
  | some l => Fence.wide.inRound (e.σ l)
/-- What the evaluator says of a piece of code holds of the model. -/
def GoOk (P : Program) (go : Run) : Prop :=
  ∀ r c a h x a' h', go r c a h = .ok (x, a', h') → ∀ (e : Env) (w : World) (act : Act), Rel P e h w → FrR e a act → (∀ l, r = some l → e.dom l) →
    ∀ Q : Exit → Act → World → Prop, (∀ e' act' w', Rel P e' h' w' → FrR e' a' act' → Step h e w h' e' w' → Q x.out act' w') → c.wpIn (fence e r) 9 P Q act w
/-- A call of a Go function. -/
def CallOk (P : Program) (f : FuncId) (xs : List Value) (h : H) (e : Env) (w : World) (h' : H) (v : V) : Prop :=
  Calls P f xs.toArray w fun en w' => ∃ x, en = .returned x ∧ Got P h e w h' v x w'
section
variable {P : Program} {e : Env} {h h' : H} {w : World} {v : V}
/-- What a result variable holds. -/
def resF (tmps : Array Value) : ResultVar → Sem Value
  | .tmp t => pure (tmps.getD t undef)
  | .cell a t => do loadVar t (← asAddr (tmps.getD a undef))
theorem result_ok {a : Fr} {act : Act} {q : ResultVar} (r : Rel P e h w) (fr : FrR e a act) (k : resultT P a h q = .ok v) : ∃ x, (resF act.tmps q).run P w = .ok x w ∧ VR e v x := by
  cases q with
  | tmp t => exact ⟨_, rfl, fr.ev (.tmp t) v k⟩
  | cell b t =>
    unfold resultT at k
    obtain ⟨u, hu, k⟩ := eb_ok k
    have hv := fr.ev (.tmp b) u hu
    obtain ⟨x, g1, g2⟩ := loads_ok r hv k
    refine ⟨x, ?_, g2⟩
    cases u <;> simp only [opLoad] at k <;> try (cases k; done)
    have hp : act.tmps.getD b undef = _ := (VR_ptr.1 hv).2
    have hp' : act.eval (.tmp b) = _ := (VR_ptr.1 hv).2
    rw [hp'] at g1
    simp only [resF, hp, asAddr, Sem.run_bind, Sem.run_pure, Result.andThen_ok]
    simpa [Instr.loadAt, Instr.sureAddr] using g1
theorem results_ok {a : Fr} {act : Act} (r : Rel P e h w) (fr : FrR e a act) : ∀ (qs : List ResultVar) (vs : List V), resultsT P a h qs = .ok vs → ∃ xs : List Value, (qs.mapM (resF act.tmps)).run P w = .ok xs w ∧ VRs e vs xs
  | [], vs, k => by cases k; exact ⟨[], rfl, VRs_nil.2 rfl⟩
  | q :: qs, vs, k => by
    unfold resultsT at k
    obtain ⟨u, hu, k⟩ := eb_ok k
    obtain ⟨us, hus, k⟩ := eb_ok k
    cases k
    obtain ⟨x, g1, g2⟩ := result_ok r fr hu
    obtain ⟨xs, g3, g4⟩ := results_ok r fr qs us hus
    refine ⟨x :: xs, ?_, VRs_cons.2 ⟨x, xs, rfl, g2, g4⟩⟩
    simp only [List.mapM_cons, Sem.run_bind]
    rw [g1]
    simp only [Result.andThen_ok]
    rw [g3]
    rfl
theorem pack_ok {a : Fr} {act : Act} {fn : Func} {vs : List V} (r : Rel P e h w) (fr : FrR e a act) (k : resultsT P a h fn.results.toList = .ok vs) : ∃ x, (results fn act.tmps).run P w = .ok x w ∧ VR e (packT vs) x := by
  obtain ⟨xs, g1, g2⟩ := results_ok r fr _ _ k
  have hl := VRs_len g2
  have e0 : results fn act.tmps = (do let vs ← fn.results.mapM (resF act.tmps); pure (if h : vs.size = 1 then vs[0] else .tuple vs)) := rfl
  rw [e0]
  simp only [Sem.run_bind, Array.mapM_eq_mapM_toList, Sem.run_map]
  rw [g1]
  simp only [Result.andThen_ok, Sem.run_pure, List.size_toArray]
  match vs, xs, g2, hl with
  | [], [], _, _ => exact ⟨_, rfl, VR_tup.2 ⟨[], rfl, VRs_nil.2 rfl⟩⟩
  | [v], [x], g2, _ =>
    obtain ⟨y, ys, h1, h2, h3⟩ := VRs_cons.1 g2
    cases h1
    exact ⟨x, rfl, h2⟩
  | v1 :: v2 :: vs, x1 :: x2 :: xs, g2, _ => exact ⟨_, rfl, VR_tup.2 ⟨_, rfl, g2⟩⟩
/-- The marks are taken back when a function is left. -/
theorem marks_ok {fn : Func} {tmps : Array Value} {R : Ending → World → Prop} : ∀ (ds : List Nat) (h : H) (w : World) (h2 : H), Rel P e h w → takeMarks h ds = .ok h2 →
    (∀ w', Rel P e h2 w' → Step h e w h2 e w' → ∃ x, (results fn tmps).run P w' = .ok x w' ∧ R (.returned x) w') →
    LeavesInM Fence.wide 9 P fn tmps R (ds.map fun d => { target := .collected (e.σ d), args := #[] }) .returning w
  | [], h, w, h2, r, k, hR => by
    cases k
    obtain ⟨x, g1, g2⟩ := hR w r (Step.refl h e w)
    exact ⟨x, g1, g2⟩
  | d :: ds, h, w, h2, r, k, hR => by
    unfold takeMarks at k
    cases hb : h.get d with
    | none => rw [hb] at k; cases k
    | some o =>
      rw [hb] at k
      cases o <;> try (cases k; done)
      rename_i b
      cases b with
      | false => cases k
      | true =>
        obtain ⟨h1, hs, k⟩ := eb_ok k
        obtain ⟨-, x, hx, rfl⟩ := r.at_ d _ hb
        obtain ⟨f1, f2, f3⟩ := turn_ok (o' := .dfr false) (x' := .deferred none) r hb hx (fun _ _ _ => by simp) rfl hs
        refine ⟨by simp, .inl ⟨_, _, rfl, ?_, marks_ok ds h1 _ h2 f2 k fun w' r' s' => hR w' r' (f3.trans s')⟩⟩
        simp only [Instr.takeDeferred, Sem.run_bind, getObj_run hx (fun _ _ _ => by simp), Result.andThen_ok, f1, Sem.run_pure]
theorem ofList_fr {vs : List V} {xs : List Value} (hv : VRs e vs xs) (n gl : Nat) (hg : ∀ g, g < gl → e.dom g ∧ e.σ g = g) : FrR e ⟨Tr.ofList vs 0 .leaf, Nat.max n vs.length, [], gl⟩ { tmps := xs.toArray ++ Array.replicate (n - xs.toArray.size) undef, defers := [] } := by
  have hl := VRs_len hv
  refine ⟨?_, fun i => ?_, rfl, fun d hd => (by cases hd), hg⟩
  · simp only [Array.size_append, List.size_toArray, Array.size_replicate]
    show xs.length + (n - xs.length) = max n vs.length
    omega
  · simp only
    rw [Tr.ofList_get, Array.getD_eq_getD_getElem?]
    split
    · next h =>
      have hi : i < vs.length := by omega
      have hi' : i < xs.length := by omega
      rw [Array.getElem?_append_left (by simpa using hi')]
      obtain ⟨x, h1, h2⟩ := VRs_get (i := i) (v := vs[i]) hv (by simp [hi])
      simp only [Nat.sub_zero, Option.getD_some, List.getElem?_toArray, h1]
      exact h2
    · next h =>
      have hi : ¬ i < xs.length := by omega
      rw [Tr.get_leaf, Array.getElem?_append_right (by simp; omega)]
      simp only [Option.getD_none]
      by_cases hr : i - xs.length < n - xs.length
      · rw [Array.getElem?_replicate]
        simp only [List.size_toArray, hr, if_true, Option.getD_some]
        exact VR_lit.2 rfl
      · rw [Array.getElem?_replicate]
        simp only [List.size_toArray, hr, if_false, Option.getD_none]
        exact VR_lit.2 rfl
/-- **A call, from what holds of code.** -/
theorem call_ok {go : Run} {gl : Nat} {f : FuncId} {vs : List V} {xs : List Value} (hgo : GoOk P go) (r : Rel P e h w) (hv : VRs e vs xs) (hg : ∀ g, g < gl → e.dom g ∧ e.σ g = g) (k : callW P go gl f vs h = .ok (v, h')) :
    CallOk P f xs h e w h' v ∧ ∃ fn, P.funcs[f]? = some fn ∧ (fn.name == "runtime.NumGoroutine") = false ∧ fn.body.isNone = false := by
  unfold callW at k
  obtain ⟨fn, hfn, k⟩ := eo_ok k
  obtain ⟨hnm, k⟩ := ec_ok k
  obtain ⟨c, hc, k⟩ := eo_ok k
  obtain ⟨⟨x, a1, h1⟩, hgo1, k⟩ := eb_ok k
  refine ⟨?_, fn, hfn, by simpa using hnm, by rw [hc]; rfl⟩
  refine (callsIn_wide (n := 9)).1 ?_
  refine callsIn_of_wp_marks hfn hc trivial ?_ rfl
  have fin : (∀ id, x ≠ .exit id) → eb (takeMarks h1 a1.df) (fun h2 => eb (resultsT P a1 h2 fn.results.toList) fun vs => (.ok (packT vs, h2) : E (V × H))) = .ok (v, h') → ∀ (e' : Env) (act' : Act) (w' : World), Rel P e' h1 w' → FrR e' a1 act' → Step h e w h1 e' w' → bodyPostM Fence.wide 9 P fn (fun en w' => ∃ x, en = .returned x ∧ Got P h e w h' v x w') x.out act' w' := fun hx k e' act' w' r' fr' s' => by
    obtain ⟨h2, hm, k⟩ := eb_ok k
    obtain ⟨us, hus, k⟩ := eb_ok k
    cases k
    have key := marks_ok (fn := fn) (tmps := act'.tmps) (R := fun en w' => ∃ x, en = .returned x ∧ Got P h e w h' (packT us) x w') a1.df h1 w' h' r' hm fun w2 r2 s2 => by
      obtain ⟨y, g1, g2⟩ := pack_ok r2 fr' hus
      exact ⟨y, g1, y, rfl, e', r2, s'.trans s2, g2⟩
    rw [← fr'.df] at key
    cases x with
    | normal => exact key
    | ret => exact key
    | exit id => exact absurd rfl (hx id)
  refine hgo none c _ h x a1 h1 hgo1 e w _ r (ofList_fr hv fn.ntmps gl hg) (fun _ h => by cases h) _ fun e' act' w' r' fr' s' => ?_
  cases x with
  | normal => exact fin (fun _ h => by cases h) k e' act' w' r' fr' s'
  | ret => exact fin (fun _ h => by cases h) k e' act' w' r' fr' s'
  | exit id => cases k
end
end Go.Proofs.YtfnnkfngiodnhaaDoor

/- Operations in their activations, rounds, ranges over functions; all code but regions that draw their order. -/
namespace Go.Proofs.YtfnnkfngiodnhaaDoor
set_option linter.unusedSimpArgs false
set_option linter.unusedVariables false
open Go Go.RowKit

section
variable {P : Program} {e : Env} {h h' : H} {w : World} {v : V}
theorem fence_fn (e : Env) (r : Option Nat) (f : FuncId) : (fence e r).fn f := by cases r <;> trivial
theorem fence_depth (e : Env) (r : Option Nat) : (fence e r).depth = none := by cases r <;> rfl
theorem fence_calls {r : Option Nat} {n : Nat} {f : FuncId} {args : Array Value} {R : Ending → World → Prop} (h : Calls P f args w R) : CallsIn (fence e r) n P f args w R := by
  have := (callsIn_wide (n := n)).2 h
  cases r with
  | none => exact this
  | some l => exact this
theorem wpIn_any {F : Fence} {n m : Nat} {c : Code} {Q : Exit → Act → World → Prop} {a : Act} (hd : F.depth = none) (k : c.wpIn F n P Q a w) : c.wpIn F m P Q a w :=
  fun b i cs hro hb _ => k b i cs hro hb fun d hd' => by rw [hd] at hd'; cases hd'
theorem loop_at {l : Nat} {st : LoopState} {pend : Option Code} {t : Tr V} {sz : Nat} {ps : List Tmp} {asg bd : Code} {d : Nat} (r : Rel P e h w) (hb : h.get l = some (.loop st pend t sz ps asg bd d)) :
    ∃ (fn : FuncId) (tm : Array Value), w.heap[e.σ l]? = some (.loop { state := st, pending := pend, fn := fn, tmps := tm, params := ps.toArray, assign := asg, body := bd, defers := e.σ d }) ∧ e.dom l ∧ e.dom d ∧ tm.size = sz ∧ ∀ i, VR e ((t.get i).getD uV) (tm.getD i undef) := by
  obtain ⟨h1, x, hx, fn, tm, rfl, h2, h3, h4⟩ := r.at_ l _ hb
  exact ⟨fn, tm, hx, h1, h2, h3, h4⟩
theorem getLoop_run {l : Nat} {q : Loop} (h : w.heap[l]? = some (.loop q)) : (Instr.getLoop l).run P w = .ok q w := by
  simp only [Instr.getLoop, Sem.run_bind, getObj_run h (fun _ _ _ => by simp), Result.andThen_ok, Sem.run_pure]
theorem putArgs_ok : ∀ {qs : List Tmp} {vs : List V} {xs : List Value} {a : Fr} {act : Act}, qs.length = vs.length → VRs e vs xs → FrR e a act → FrR e (putArgs qs vs a) { act with tmps := (qs.zip xs).foldl (fun t q => t.setIfInBounds q.1 q.2) act.tmps }
  | [], vs, xs, a, act, hl, hv, fr => by cases vs with | nil => exact fr | cons _ _ => simp at hl
  | q :: qs, [], xs, a, act, hl, hv, fr => by simp at hl
  | q :: qs, v :: vs, xs, a, act, hl, hv, fr => by
    obtain ⟨x, xs', rfl, h1, h2⟩ := VRs_cons.1 hv
    have := putArgs_ok (qs := qs) (act := act.put (some q) x) (by simpa using hl) h2 (fr.put (some q) h1)
    exact this
/-- **A round.** -/
theorem round_ok {go : Run} {gl l : Nat} {vs : List V} {xs : List Value} {rr : Option Nat} (hgo : GoOk P go) (r : Rel P e h w) (hv : VRs e vs xs) (hg : ∀ g, g < gl → e.dom g ∧ e.σ g = g) (k : roundW go gl l vs h = .ok (v, h')) :
    ∃ (f : FuncId) (tmps : Array Value) (asg bd : Code), (Instr.yield (e.σ l) xs.toArray).run P w = .ok (.round (e.σ l) f tmps asg bd) w ∧ RoundIn (fence e rr) 8 P (e.σ l) f tmps asg bd w fun en w' => ∃ x, en = .returned x ∧ Got P h e w h' v x w' := by
  unfold roundW at k
  cases hb : h.get l with
  | none => rw [hb] at k; cases k
  | some o =>
    rw [hb] at k
    cases o <;> try (cases k; done)
    rename_i st pend t sz qs asg bd d
    obtain ⟨hlen, k⟩ := ec_ok k
    obtain ⟨⟨x1, a1, h1⟩, hgo1, k⟩ := eb_ok k
    obtain ⟨fn, tm, hl, hdl, hdd, hts, htm⟩ := loop_at r hb
    have hlen' := Nat.eq_of_beq_eq_true hlen
    have hxl := VRs_len hv
    refine ⟨fn, (qs.zip xs).foldl (fun t q => t.setIfInBounds q.1 q.2) tm, asg, bd, ?_, ?_⟩
    · have hne : ¬ xs.toArray.size ≠ qs.toArray.size := by simp; omega
      simp only [Instr.yield, Sem.run_bind, getLoop_run hl, Result.andThen_ok, if_neg hne, Sem.run_pure]
      congr 2
      rw [← Array.foldl_toList]
      simp
    · cases x1 with
      | exit id => cases k
      | ret => cases k
      | normal =>
        simp only at k
        have fr0 : FrR e ⟨t, sz, [], gl⟩ ⟨tm, []⟩ := ⟨hts, htm, rfl, fun d hd => (by cases hd), hg⟩
        have fr1 := putArgs_ok (qs := qs) (vs := vs) (by omega) hv fr0
        have hfe : ∀ e' : Env, e'.σ l = e.σ l → fence e' (some l) = (fence e rr).inRound (e.σ l) := fun e' he => by show Fence.wide.inRound (e'.σ l) = _; rw [he]; cases rr <;> rfl
        refine roundIn_of_wpIn (n := 8) (fence_fn e rr fn) ?_
        rw [← hfe e rfl]
        refine wpIn_any (n := 9) rfl (hgo (some l) asg _ h .normal a1 h1 hgo1 e w _ r fr1 (fun q hq => by cases hq; exact hdl) _ fun e1 act1 w1 r1 fr2 s1 => ?_)
        have hσ1 : e1.σ l = e.σ l := s1.le.σ l hdl
        cases hb1 : h1.get l with
        | none => rw [hb1] at k; cases k
        | some o1 =>
          rw [hb1] at k
          cases o1 <;> try (cases k; done)
          rename_i st2 p2 t2 s2 q2 as2 bd2 d2
          cases st2 <;> try (cases k; done)
          obtain ⟨h2, hs2, k⟩ := eb_ok k
          obtain ⟨⟨x2, a2, h3⟩, hgo2, k⟩ := eb_ok k
          obtain ⟨fn2, tm2, hl2, hdl2, hdd2, hts2, htm2⟩ := loop_at r1 hb1
          obtain ⟨f1, f2, f3⟩ := turn_ok (o' := .loop .busy p2 t2 s2 q2 as2 bd2 d2) (x' := .loop { state := .busy, pending := p2, fn := fn2, tmps := tm2, params := q2.toArray, assign := as2, body := bd2, defers := e1.σ d2 }) r1 hb1 hl2 (fun _ _ _ => by simp) ⟨fn2, tm2, rfl, hdd2, hts2, htm2⟩ hs2
          refine ⟨{ w1 with heap := w1.heap.setIfInBounds (e1.σ l) (.loop { state := .busy, pending := p2, fn := fn2, tmps := tm2, params := q2.toArray, assign := as2, body := bd2, defers := e1.σ d2 }) }, ?_, ?_⟩
          · rw [← hσ1]
            simp only [Instr.beginRound, Sem.run_bind, getLoop_run hl2, Result.andThen_ok, f1, Sem.run_pure]
          · rw [hfe e rfl, ← hfe e1 hσ1]
            refine wpIn_any (n := 9) rfl (hgo (some l) bd a1 h2 x2 a2 h3 hgo2 e1 _ act1 f2 fr2 (fun q hq => by cases hq; exact hdl2) _ fun e3 act3 w3 r3 fr3 s3 => ?_)
            have hσ3 : e3.σ l = e.σ l := by rw [(f3.trans s3).le.σ l hdl2, hσ1]
            simp only at k
            unfold roundEnd at k
            cases hb3 : h3.get l with
            | none => rw [hb3] at k; cases k
            | some o3 =>
              rw [hb3] at k
              cases o3 <;> try (cases k; done)
              rename_i st4 p4 t4 s4 q4 as4 bd4 d4
              obtain ⟨h4, hs4, k⟩ := eb_ok k
              cases k
              obtain ⟨fn4, tm4, hl4, hdl4, hdd4, hts4, htm4⟩ := loop_at r3 hb3
              have fin : ∀ (st5 : LoopState) (p5 : Option Code), h3.set l (some (.loop st5 p5 t4 s4 q4 as4 bd4 d4)) = .ok h' → (st5 = if p5.isNone then .ready else .done) → ∃ v5 w5, (Instr.endRound (e.σ l) p5).run P w3 = .ok v5 w5 ∧ ∃ x, Ending.returned v5 = .returned x ∧ Got P h e w h' (.lit (.bool p5.isNone)) x w5 := fun st5 p5 hs5 hst => by
                obtain ⟨g1, g2, g3⟩ := turn_ok (o' := .loop st5 p5 t4 s4 q4 as4 bd4 d4) (x' := .loop { state := st5, pending := p5, fn := fn4, tmps := tm4, params := q4.toArray, assign := as4, body := bd4, defers := e3.σ d4 }) r3 hb3 hl4 (fun _ _ _ => by simp) ⟨fn4, tm4, rfl, hdd4, hts4, htm4⟩ hs5
                refine ⟨.bool p5.isNone, { w3 with heap := w3.heap.setIfInBounds (e3.σ l) (.loop { state := st5, pending := p5, fn := fn4, tmps := tm4, params := q4.toArray, assign := as4, body := bd4, defers := e3.σ d4 }) }, ?_, _, rfl, e3, g2, ((s1.trans f3).trans s3).trans g3, VR_lit.2 rfl⟩
                rw [← hσ3]
                subst hst
                simp only [Instr.endRound, Sem.run_bind, getLoop_run hl4, Result.andThen_ok, g1, Sem.run_pure]
              cases x2 with
              | normal => exact fin .ready none hs4 rfl
              | ret => exact fin .done (some .ret) hs4 rfl
              | exit id => exact fin .done (some (.exit id)) hs4 rfl
end
end Go.Proofs.YtfnnkfngiodnhaaDoor

/- Operations in their activations; regions in the order of the text; ranges over functions; all code. -/
namespace Go.Proofs.YtfnnkfngiodnhaaDoor
set_option linter.unusedSimpArgs false
set_option linter.unusedVariables false
open Go Go.RowKit

section
variable {P : Program} {e : Env} {h h' : H} {w : World} {v : V}
theorem enter_run {f : FuncId} {fn : Func} {args : Array Value} (h1 : P.funcs[f]? = some fn) (h2 : (fn.name == "runtime.NumGoroutine") = false) (h3 : fn.body.isNone = false) : (callFunc f args).run P w = .ok (.enter f args) w := by
  unfold callFunc
  simp only [Sem.run_bind, run_program, Result.andThen_ok, h1, h2, h3, Bool.false_eq_true, if_false, Sem.run_pure]
theorem arr_eq {α β : Type} (f : α → β) (a : Array α) : a.map f = (a.toList.map f).toArray := Array.toList_inj.1 (by simp)
theorem not_defer {go : Run} {a : Fr} {o : Op} (k : opW P go a o h = .ok (v, h')) (c : Call) : o ≠ .defer c := fun e => by
  subst e
  cases k
/-- **An operation in its activation.** -/
theorem op_ok {go : Run} {o : Oper} {a : Fr} {act : Act} {rr : Option Nat} {next : Act → World → Prop} {Q : Exit → Act → World → Prop} (hgo : GoOk P go) (r : Rel P e h w) (hops : OpsR e a act.eval o.op.operands.toList) (hg : ∀ g, g < a.gl → e.dom g ∧ e.σ g = g)
    (k : opW P go a o.op h = .ok (v, h')) (hn : ∀ x w', Got P h e w h' v x w' → next (act.put o.dst x) w') : o.wpIn (fence e rr) 9 P act w next Q := by
  refine ⟨fun f _ => fence_fn e rr f, ?_⟩
  rw [Oper.semAt_eq _ _ _ (not_defer k)]
  cases hc : isCall o.op with
  | false =>
    obtain ⟨x, w', h1 | ⟨h1, rfl⟩, h2⟩ := plain_ok r hops hc k
    · rw [h1]; exact hn x w' h2
    · rw [h1]; exact hn _ w' h2
  | true =>
    obtain ⟨dst, op, ty, pos, after, guard⟩ := o
    cases op with
    | call c =>
      change callOpW P go a c h = _ at k
      obtain ⟨callee, args, ats⟩ := c
      obtain ⟨vs, hvs, k⟩ := eb_ok k
      have hv : VRs e vs (args.toList.map act.eval) := OpsR.evs (fun x hx => hops x (by cases callee <;> simp [Op.operands, Call.operands] <;> first | exact .inr (by simpa using hx) | simpa using hx)) hvs
      cases callee with
      | builtin b =>
        simp only at k
        obtain ⟨x, w', g1, g2⟩ := builtin_ok (ty := ty) (cs := args.map fun | .const _ => true | _ => false) r hv k
        have e1 : (execOp act.eval { dst := dst, op := .call { callee := .builtin b, args := args, argTypes := ats }, type := ty, pos := pos, after := after, guard := guard }).run P w = .ok (.value x) w' := by
          rw [← g1, ← arr_eq]
          rfl
        rw [e1]
        exact hn x w' g2
      | invoke rv m => cases k
      | value f =>
        simp only at k
        obtain ⟨g, hgv, k⟩ := eb_ok k
        have hf := hops f (by simp [Op.operands, Call.operands]) g hgv
        cases g with
        | fn fid first cap =>
          simp only [calleeW] at k
          obtain ⟨l, m, e1, q1, q2⟩ := VR_fn.1 hf
          obtain ⟨c1, fn, c2, c3, c4⟩ := call_ok hgo r (VRs_append (VRs_append q1 hv) q2) hg k
          have e2 : (execOp act.eval { dst := dst, op := .call { callee := .value f, args := args, argTypes := ats }, type := ty, pos := pos, after := after, guard := guard }).run P w = .ok (.enter fid (l ++ args.toList.map act.eval ++ m).toArray) w := by
            have e3 : (execOp act.eval { dst := dst, op := .call { callee := .value f, args := args, argTypes := ats }, type := ty, pos := pos, after := after, guard := guard }) = (do let d ← Deferred.ofValue (act.eval f) (args.map act.eval); invoke d.target d.args) := rfl
            rw [e3, e1]
            simp only [Sem.run_bind, Deferred.ofValue, Sem.run_pure, Result.andThen_ok, invoke]
            rw [enter_run c2 c3 c4, arr_eq]
            simp
          rw [e2]
          refine ⟨fun hd => (by rw [fence_depth] at hd; cases hd), fence_calls (Calls.mono c1 ?_)⟩
          rintro en w' ⟨x, rfl, hx⟩
          exact hn x w' hx
        | yld l =>
          simp only [calleeW] at k
          have e1 := (VR_yld.1 hf).2
          obtain ⟨f', tmps, asg, bd, q1, q2⟩ := round_ok (rr := rr) hgo r hv hg k
          have e2 : (execOp act.eval { dst := dst, op := .call { callee := .value f, args := args, argTypes := ats }, type := ty, pos := pos, after := after, guard := guard }).run P w = .ok (.round (e.σ l) f' tmps asg bd) w := by
            have e3 : (execOp act.eval { dst := dst, op := .call { callee := .value f, args := args, argTypes := ats }, type := ty, pos := pos, after := after, guard := guard }) = (do let d ← Deferred.ofValue (act.eval f) (args.map act.eval); invoke d.target d.args) := rfl
            rw [e3, e1]
            simp only [Sem.run_bind, Deferred.ofValue, Sem.run_pure, Result.andThen_ok, invoke]
            rw [arr_eq, Array.empty_append]
            exact q1
          rw [e2]
          refine ⟨fun hd => (by rw [fence_depth] at hd; cases hd), RoundIn.mono q2 ?_⟩
          rintro en w' ⟨x, rfl, hx⟩
          exact hn x w' hx
        | _ => cases k
    | _ => cases hc
/-- A region in the order of the text. -/
theorem fence_le {e e1 : Env} {rr : Option Nat} (hl : Le e e1) (hrr : ∀ l, rr = some l → e.dom l) : fence e1 rr = fence e rr := by
  cases rr with
  | none => rfl
  | some l => show Fence.wide.inRound _ = Fence.wide.inRound _; rw [hl.σ l (hrr l rfl)]
theorem uV_ok {e : Env} : VR e uV undef := VR_lit.2 rfl
theorem ops_ok {go : Run} {ops : Array Oper} {rr : Option Nat} (hgo : GoOk P go) : ∀ (rest pre : List Oper) (a : Fr) (h : H) (a' : Fr) (h' : H), ops.toList = pre ++ rest → opsW P go ops rest a h = .ok (a', h') → ∀ (e : Env) (w : World) (act : Act), Rel P e h w → FrR e a act → (∀ l, rr = some l → e.dom l) →
    ∀ Q : Exit → Act → World → Prop, (∀ e' act' w', Rel P e' h' w' → FrR e' a' act' → Step h e w h' e' w' → Q .normal act' w') → wpOpsIn (fence e rr) 9 P ops Q (List.range' pre.length rest.length) act w
  | [], pre, a, h, a', h', _, k, e, w, act, r, fr, _, Q, hQ => by
    cases k
    exact hQ e act w r fr (Step.refl h e w)
  | o :: rest, pre, a, h, a', h', hsp, k, e, w, act, r, fr, hrr, Q, hQ => by
    have ho : ops[pre.length]? = some o := by
      rw [← Array.getElem?_toList, hsp]
      simp
    rw [List.length_cons, List.range'_succ]
    unfold wpOpsIn
    rw [ho]
    simp only
    unfold opsW at k
    have hw : Region.wanted o (yielded ops act.tmps) = wantedT ops a o := wanted_ok fr.size fun j want d _ _ => fr.tmp d
    have next : ∀ (e1 : Env) (a1 : Fr) (h1 : H) (act1 : Act) (w1 : World), Rel P e1 h1 w1 → FrR e1 a1 act1 → Step h e w h1 e1 w1 → opsW P go ops rest a1 h1 = .ok (a', h') → wpOpsIn (fence e rr) 9 P ops Q (List.range' (pre.length + 1) rest.length) act1 w1 := fun e1 a1 h1 act1 w1 r1 fr1 s1 k1 => by
      have ih := ops_ok (rr := rr) hgo rest (pre ++ [o]) a1 h1 a' h' (by rw [hsp]; simp) k1 e1 w1 act1 r1 fr1 (fun l hl => s1.le.dom l (hrr l hl)) Q (fun e' act' w' r' fr' s' => hQ e' act' w' r' fr' (s1.trans s'))
      rw [fence_le s1.le hrr] at ih
      simpa using ih
    rw [hw]
    cases hwt : wantedT ops a o with
    | true =>
      rw [hwt] at k
      simp only at k
      obtain ⟨⟨v, h1⟩, ho1, k⟩ := eb_ok k
      simp only [if_true]
      refine op_ok hgo r (fr.ops _) fr.glob ho1 fun x w' hx => ?_
      obtain ⟨e1, r1, s1, hv⟩ := hx
      have k' : opsW P go ops rest (a.put o.dst v) h1 = .ok (a', h') := (putK_eq a o.dst v fun a' => opsW P go ops rest a' h1).symm.trans k
      exact next e1 _ h1 _ w' r1 ((fr.mono s1.le).put o.dst hv) s1 k'
    | false =>
      rw [hwt] at k
      simp only [putK_eq] at k
      simp only [Bool.false_eq_true, if_false]
      exact ⟨fun f _ => fence_fn e rr f, next e _ h _ w r (fr.put o.dst uV_ok) (Step.refl h e w) k⟩
theorem region_ok {go : Run} {ops : Array Oper} {rr : Option Nat} {id : Nat} {a a' : Fr} {act : Act} {x : X} (hgo : GoOk P go) (r : Rel P e h w) (fr : FrR e a act) (hrr : ∀ l, rr = some l → e.dom l) (k : regionW P go ops false a h = .ok (x, a', h'))
    (Q : Exit → Act → World → Prop) (hQ : ∀ e' act' w', Rel P e' h' w' → FrR e' a' act' → Step h e w h' e' w' → Q x.out act' w') : (Code.region id ops false).wpIn (fence e rr) 9 P Q act w := by
  unfold regionW at k
  obtain ⟨⟨a1, h1⟩, k1, k⟩ := eb_ok k
  cases k
  have := ops_ok hgo ops.toList [] a h _ _ rfl k1 e w act r fr hrr Q hQ
  refine wpIn_region ?_
  simpa [List.range_eq_range'] using this
end
end Go.Proofs.YtfnnkfngiodnhaaDoor

/- All code but regions that draw their order: loops, ranges over functions, scopes. -/
namespace Go.Proofs.YtfnnkfngiodnhaaDoor
set_option linter.unusedSimpArgs false
set_option linter.unusedVariables false
open Go Go.RowKit

/-- Regions that draw their order. -/
def DrawOk (P : Program) (go : Run) : Prop :=
  ∀ id ops r a h x a' h', regionW P go ops true a h = .ok (x, a', h') → ∀ (e : Env) (w : World) (act : Act), Rel P e h w → FrR e a act → (∀ l, r = some l → e.dom l) →
    ∀ Q : Exit → Act → World → Prop, (∀ e' act' w', Rel P e' h' w' → FrR e' a' act' → Step h e w h' e' w' → Q x.out act' w') → (Code.region id ops true).wpIn (fence e r) 9 P Q act w
/-- A loop of at most so many rounds. -/
def LoopOk (P : Program) (go : Run) (m : Nat) : Prop :=
  ∀ r c a h x a' h', go r (.loop c) a h = .ok (x, a', h') → ∀ (e : Env) (w : World) (act : Act), Rel P e h w → FrR e a act → (∀ l, r = some l → e.dom l) →
    ∀ Q : Exit → Act → World → Prop, (∀ e' act' w', Rel P e' h' w' → FrR e' a' act' → Step h e w h' e' w' → Q x.out act' w') → Code.roundsIn (fence e r) 9 P c Q m act w
section scope
variable {P : Program} {F : Fence} {n : Nat} {b : Frame} {a : Act} {k : List Item} {cs : List Frame} {w : World} {Q : Exit → Act → World → Prop}
theorem stepR_scope {c : Code} : step P (lone (b.atR a (.code (.scope c) :: k)) cs w) = .next (lone (b.atR a (.code c :: .inScope c :: k)) cs w) :=
  step_lone_go (by simp [stepG, stepG.exec, Frame.atR])
theorem stepR_inScope {c : Code} : step P (lone (b.atR a (.inScope c :: k)) cs w) = .next (lone (b.atR a k) cs w) :=
  step_lone_go (by simp [stepG, stepG.exec, Frame.atR])
theorem wpIn_scope {c : Code} (h : c.wpIn F n P (Exit.noGoto Q) a w) : (Code.scope c).wpIn F n P Q a w := by
  intro b k cs hro hb hr
  have h0 : (lone (b.atR a (.code (.scope c) :: k)) cs w).fenced P F := fenced_calm hb hr rfl
  obtain ⟨e, a₁, w₁, hq, harr⟩ := h b (.inScope c :: k) cs hro hb hr
  cases e with
  | normal => exact ⟨.normal, a₁, w₁, hq, .head h0 stepR_scope (StepsIn.trans harr (.one (fenced_calm hb hr rfl) stepR_inScope))⟩
  | exit id =>
    have hx : exitTo id (.inScope c :: k) = exitTo id k := by simp [exitTo]
    exact ⟨.exit id, a₁, w₁, hq, fun k' hk => .head h0 stepR_scope (harr.1 k' (by rw [hx]; exact hk)),
      fun hr' hk => let ⟨k₁, h1, h2⟩ := harr.2 hr' (by rw [hx]; exact hk); ⟨k₁, h1, .head h0 stepR_scope h2⟩⟩
  | goto l => exact hq.elim
  | ret => exact ⟨_, a₁, w₁, hq, .of_steps (.one h0 stepR_scope) harr⟩
  | panic ch => exact ⟨_, a₁, w₁, hq, .of_steps (.one h0 stepR_scope) harr⟩
  | outgrown => exact ⟨_, a₁, w₁, hq, .of_steps (.one h0 stepR_scope) harr⟩
end scope

section
variable {P : Program} {e : Env} {h h' : H} {w : World} {v : V}
theorem VR_lit_bool {b : Bool} {x : Value} (hx : VR e (.lit (.bool b)) x) : x = .bool b := VR_lit.1 hx
/-- The block for the deferred calls. -/
def blkOf : Option Nat → Sem (Nat × List Deferred)
  | some l => do pure ((← Instr.getLoop l).defers, [])
  | none => do
    let r ← newObj (.deferred (some []))
    pure (r, [{ target := .collected r, args := #[] }])
theorem enterLoop_run {fn : FuncId} {tmps : Array Value} {ps : Array Tmp} {asg bd : Code} {r : Option Nat} {q : Nat × List Deferred} {w1 : World} (h : (blkOf r).run P w = .ok q w1) : (Instr.enterLoop fn tmps ps asg bd r).run P w = (do pure (← newObj (.loop { state := .ready, pending := none, fn, tmps, params := ps, assign := asg, body := bd, defers := q.1 }), q.2) : Sem _).run P w1 := by
  cases r with
  | none =>
    simp only [blkOf, Instr.enterLoop, Sem.run_bind] at h ⊢
    cases hn : (newObj (.deferred (some []))).run P w <;> rw [hn] at h <;> simp only [Result.andThen, Sem.run_pure] at h ⊢ <;> cases h
    rfl
  | some l =>
    simp only [blkOf, Instr.enterLoop, Sem.run_bind] at h ⊢
    cases hn : (Instr.getLoop l).run P w <;> rw [hn] at h <;> simp only [Result.andThen, Sem.run_pure] at h ⊢ <;> cases h
    rfl
noncomputable def blkT (r : Option Nat) (h : H) : E (Nat × List Nat × H) :=
  match r with
  | some l => (match h.get l with | some (.loop _ _ _ _ _ _ _ d) => .ok (d, [], h) | _ => .error "round")
  | none => h.newK (.dfr true) fun b h' => .ok (b, [b], h')
theorem blk_ok {r : Option Nat} {h1 : H} {d : Nat} {mk : List Nat} (re : Rel P e h w) (k : blkT r h = .ok (d, mk, h1)) : ∃ (e1 : Env) (w1 : World), Rel P e1 h1 w1 ∧ Step h e w h1 e1 w1 ∧ e1.dom d ∧ (∀ i ∈ mk, e1.dom i) ∧
    (blkOf (fence e r).round).run P w = .ok (e1.σ d, mk.map fun i => { target := .collected (e1.σ i), args := #[] }) w1 := by
  cases r with
  | none =>
    simp only [blkT, newK_eq] at k
    cases k
    obtain ⟨e1, g1, g2, g3, g4⟩ := newObj_ok (o := .dfr true) (x := .deferred (some [])) re (fun _ _ => rfl)
    refine ⟨e1, _, g2, g3, g4, fun i hi => by simp at hi; subst hi; exact g4, ?_⟩
    show Sem.run P (blkOf none) w = _
    simp only [blkOf, Sem.run_bind, g1, Result.andThen_ok, Sem.run_pure, List.map_cons, List.map_nil]
  | some l =>
    simp only [blkT] at k
    cases hb : h.get l with
    | none => rw [hb] at k; cases k
    | some o =>
      rw [hb] at k
      cases o <;> try (cases k; done)
      cases k
      obtain ⟨fn, tm, hl, hdl, hdd, -, -⟩ := loop_at re hb
      refine ⟨e, w, re, Step.refl _ _ _, hdd, fun i hi => (by cases hi), ?_⟩
      show Sem.run P (blkOf (some (e.σ l))) w = _
      simp only [blkOf, Sem.run_bind, getLoop_run hl, Result.andThen_ok, Sem.run_pure, List.map_nil]
noncomputable def endT (go : Run) (r : Option Nat) (a2 : Fr) (l : Nat) (h3 : H) : E (X × Fr × H) :=
  match h3.get l with
  | some (.loop .busy _ _ _ _ _ _ _) => .error "busy"
  | some (.loop _ pend t sz qs asg bd d) => eb (h3.set l (some (.loop .exhausted pend t sz qs asg bd d))) fun h4 =>
      match pend with
      | none => .ok (.normal, a2, h4)
      | some c => go r c a2 h4
  | _ => .error "loop"
theorem endT_ok {go : Run} {r : Option Nat} {a2 : Fr} {l : Nat} {h3 : H} {x : X} {a' : Fr} {w3 : World} (r3 : Rel P e h3 w3) (k : endT go r a2 l h3 = .ok (x, a', h')) :
    ∃ (pend : Option Code) (h4 : H) (w4 : World), (Instr.endLoop (e.σ l)).run P w3 = .ok pend w4 ∧ Rel P e h4 w4 ∧ Step h3 e w3 h4 e w4 ∧
      (match pend with
       | none => x = .normal ∧ a' = a2 ∧ h' = h4
       | some c => go r c a2 h4 = .ok (x, a', h')) := by
  unfold endT at k
  cases hb : h3.get l with
  | none => rw [hb] at k; cases k
  | some o =>
    rw [hb] at k
    cases o with
    | loop st pend t sz qs asg bd d =>
      obtain ⟨fn, tm, hl, hdl, hdd, hts, htm⟩ := loop_at r3 hb
      have hst : st ≠ .busy := fun hs => by subst hs; cases k
      have k2 : eb (h3.set l (some (.loop .exhausted pend t sz qs asg bd d))) (fun h4 =>
          match pend with
          | none => .ok (.normal, a2, h4)
          | some c => go r c a2 h4) = .ok (x, a', h') := by
        rw [← k]
        cases st <;> first | rfl | exact absurd rfl hst
      obtain ⟨h4, hs4, k3⟩ := eb_ok k2
      obtain ⟨f1, f2, f3⟩ := turn_ok (o' := .loop .exhausted pend t sz qs asg bd d) (x' := .loop { state := .exhausted, pending := pend, fn := fn, tmps := tm, params := qs.toArray, assign := asg, body := bd, defers := e.σ d }) r3 hb hl (fun _ _ _ => by simp) ⟨fn, tm, rfl, hdd, hts, htm⟩ hs4
      refine ⟨pend, h4, { w3 with heap := w3.heap.setIfInBounds (e.σ l) (.loop { state := .exhausted, pending := pend, fn := fn, tmps := tm, params := qs.toArray, assign := asg, body := bd, defers := e.σ d }) }, ?_, f2, f3, ?_⟩
      · have hb2 : (st == LoopState.busy) = false := by cases st <;> first | rfl | exact absurd rfl hst
        simp only [Instr.endLoop, Sem.run_bind, getLoop_run hl, Result.andThen_ok, hb2, Bool.false_eq_true, if_false, f1, Sem.run_pure]
      · cases pend with
        | none => cases k3; exact ⟨rfl, rfl, rfl⟩
        | some c => exact k3
    | _ => cases k
/-- A range over a function. -/
theorem rangeFunc_ok {go : Run} {r : Option Nat} {g : Operand} {gv : V} {ps : Array Tmp} {assign body : Code} {a a' : Fr} {act : Act} {x : X} (hgo : GoOk P go) (re : Rel P e h w) (fr : FrR e a act) (hrr : ∀ l, r = some l → e.dom l)
    (hg : ev a g = .ok gv) (k : rangeW P go r gv ps assign body a h = .ok (x, a', h')) (Q : Exit → Act → World → Prop) (hQ : ∀ e' act' w', Rel P e' h' w' → FrR e' a' act' → Step h e w h' e' w' → Q x.out act' w') :
    (Code.rangeFunc g ps assign body).wpIn (fence e r) 9 P Q act w := by
  cases gv with
  | fn fid first cap =>
    obtain ⟨⟨d, mk, h1⟩, k1, k2⟩ := eb_ok (x := blkT r h) (f := fun q => match q with
      | (d, mk, h1) => h1.newK (.loop .ready none a.t a.sz ps.toList assign body d) fun l h2 => eb (callW P go a.gl fid (first ++ [.yld l] ++ cap) h2) fun q => endT go r ⟨a.t, a.sz, mk ++ a.df, a.gl⟩ l q.2) (by rw [← k]; cases r <;> rfl)
    obtain ⟨e1, w1, r1, s1, hd1, hm1, hrun⟩ := blk_ok re k1
    simp only [newK_eq] at k2
    obtain ⟨⟨rv, h3⟩, hcall, k3⟩ := eb_ok k2
    have fr1 : FrR e1 a act := fr.mono s1.le
    obtain ⟨lf, mc, hev, q1, q2⟩ := VR_fn.1 (fr1.ev g _ hg)
    refine wpIn_rangeFunc fun fn hfn => ?_
    obtain ⟨e2, g1, r2, s2, hdl⟩ := newObj_ok (o := .loop .ready none a.t a.sz ps.toList assign body d) (x := .loop { state := .ready, pending := none, fn := fn, tmps := act.tmps, params := ps, assign := assign, body := body, defers := e1.σ d }) r1
      (fun e' le => ⟨fn, act.tmps, by rw [le.σ d hd1], le.dom d hd1, fr.size, fun i => (fr1.tmp i).mono le⟩)
    obtain ⟨c1, fn', c2, c3, c4⟩ := call_ok (xs := lf ++ [Value.func (.yield (e2.σ h1.n)) #[] #[]] ++ mc) hgo r2 (VRs_append (VRs_append (q1.mono s2.le) (VRs_cons.2 ⟨_, _, rfl, VR_yld.2 ⟨hdl, rfl⟩, VRs_nil.2 rfl⟩)) (q2.mono s2.le)) (fr1.mono s2.le).glob hcall
    refine ⟨e2.σ h1.n, mk.map fun i => { target := .collected (e1.σ i), args := #[] }, w1.alloc (.loop { state := .ready, pending := none, fn := fn, tmps := act.tmps, params := ps, assign := assign, body := body, defers := e1.σ d }), { target := .fn (.func fid) mc.toArray, args := lf.toArray ++ #[Value.func (.yield (e2.σ h1.n)) #[] #[]] }, w1.alloc (.loop { state := .ready, pending := none, fn := fn, tmps := act.tmps, params := ps, assign := assign, body := body, defers := e1.σ d }), fid, (lf ++ [Value.func (.yield (e2.σ h1.n)) #[] #[]] ++ mc).toArray, w1.alloc (.loop { state := .ready, pending := none, fn := fn, tmps := act.tmps, params := ps, assign := assign, body := body, defers := e1.σ d }), ?_, ?_, fun f' _ => fence_fn e r f', ?_, fun hd => (by rw [fence_depth] at hd; cases hd), ?_⟩
    · rw [enterLoop_run hrun]
      simp only [Sem.run_bind, Result.andThen_ok, g1, Sem.run_pure]
    · simp only [resolve, rangeCall, hev, Deferred.ofValue, Sem.run_pure]
      simp [Act.eval]
    · simp only [invoke]
      rw [enter_run c2 c3 c4]
      simp
    · refine fence_calls (Calls.mono c1 ?_)
      rintro en w3 ⟨rx, rfl, e3, r3, s3, -⟩
      have s03 : Step h e w h3 e3 w3 := (s1.trans s2).trans s3
      have hσl : e3.σ h1.n = e2.σ h1.n := s3.le.σ _ hdl
      obtain ⟨pend, h4, w4, f1, f2, f3, f4⟩ := endT_ok r3 k3
      have fr3 : FrR e3 ⟨a.t, a.sz, mk ++ a.df, a.gl⟩ { act with defers := (mk.map fun i => { target := .collected (e1.σ i), args := #[] }) ++ act.defers } := by
        have fra := fr1.mono (s2.le.trans s3.le)
        refine ⟨fra.size, fra.tmp, ?_, fun i hi => ?_, fra.glob⟩
        · show _ ++ act.defers = _
          rw [fra.df, List.map_append]
          congr 1
          refine List.map_congr_left fun i hi => ?_
          rw [(s2.le.trans s3.le).σ i (hm1 i hi)]
        · rcases List.mem_append.1 hi with hi | hi
          · exact (s2.le.trans s3.le).dom i (hm1 i hi)
          · exact fra.dom i hi
      refine ⟨pend, w4, by rw [← hσl]; exact f1, ?_⟩
      cases pend with
      | none =>
        obtain ⟨rfl, rfl, rfl⟩ := f4
        exact hQ e3 _ w4 f2 fr3 (s03.trans f3)
      | some c =>
        have := hgo r c _ h4 x a' h' f4 e3 w4 _ f2 fr3 (fun l hl => s03.le.dom l (hrr l hl)) Q fun e' act' w' r' fr' s' => hQ e' act' w' r' fr' ((s03.trans f3).trans s')
        rw [fence_le s03.le hrr] at this
        exact this
  | _ => 
    unfold rangeW at k
    obtain ⟨q, -, k2⟩ := eb_ok k
    cases k2
end
end Go.Proofs.YtfnnkfngiodnhaaDoor

/- All code, given the regions that draw their order. -/
namespace Go.Proofs.YtfnnkfngiodnhaaDoor
set_option linter.unusedSimpArgs false
set_option linter.unusedVariables false
open Go Go.RowKit

section
variable {P : Program} {e : Env} {h h' : H} {w : World} {v : V}
theorem out_then {K : Act → World → Prop} {Q : Exit → Act → World → Prop} {x : X} {act : Act} {w : World} (h1 : x = .normal → K act w) (h2 : x ≠ .normal → Q x.out act w) : Exit.then K Q x.out act w := by
  cases x with
  | normal => exact h1 rfl
  | exit id => exact h2 (fun h => by cases h)
  | ret => exact h2 (fun h => by cases h)
theorem seqW_ok {go : Run} {r : Option Nat} {y : Code} {x x' : X} {a a' : Fr} {h h' : H} (k : seqW go r y (x, a, h) = .ok (x', a', h')) : (x = .normal → go r y a h = .ok (x', a', h')) ∧ (x ≠ .normal → x' = x ∧ a' = a ∧ h' = h) := by
  cases x with
  | normal => exact ⟨fun _ => k, fun hn => absurd rfl hn⟩
  | exit id => cases k; exact ⟨fun hn => (by cases hn), fun _ => ⟨rfl, rfl, rfl⟩⟩
  | ret => cases k; exact ⟨fun hn => (by cases hn), fun _ => ⟨rfl, rfl, rfl⟩⟩
theorem loop_ok {go : Run} {m : Nat} (hgo : GoOk P go) (hl : LoopOk P go m) : LoopOk P (codeW P go) (m + 1) := fun r c a h x a' h' k e w act re fr hrr Q hQ => by
  change eb (go r c a h) (seqW go r (.loop c)) = _ at k
  obtain ⟨⟨x1, a1, h1⟩, k1, k2⟩ := eb_ok k
  obtain ⟨g1, g2⟩ := seqW_ok k2
  rw [roundsIn_succ]
  refine hgo r c a h x1 a1 h1 k1 e w act re fr hrr _ fun e1 act1 w1 r1 fr1 s1 => out_then (fun hx => ?_) fun hx => ?_
  · have := hl r c a1 h1 x a' h' (g1 hx) e1 w1 act1 r1 fr1 (fun l hl => s1.le.dom l (hrr l hl)) Q fun e' act' w' r' fr' s' => hQ e' act' w' r' fr' (s1.trans s')
    rw [fence_le s1.le hrr] at this
    exact this
  · obtain ⟨rfl, rfl, rfl⟩ := g2 hx
    exact hQ e1 act1 w1 r1 fr1 s1
theorem code_ok {go : Run} {m : Nat} (hgo : GoOk P go) (hl : LoopOk P go m) (hd : DrawOk P go) : GoOk P (codeW P go) := fun r c a h x a' h' k e w act re fr hrr Q hQ => by
  cases c with
  | skip => cases k; exact wpIn_skip (hQ e act w re fr (Step.refl _ _ _))
  | label l => cases k; exact wpIn_label (hQ e act w re fr (Step.refl _ _ _))
  | exit id => cases k; exact wpIn_exit (hQ e act w re fr (Step.refl _ _ _))
  | ret => cases k; exact wpIn_ret (hQ e act w re fr (Step.refl _ _ _))
  | seq c1 c2 =>
    change eb (go r c1 a h) (seqW go r c2) = _ at k
    obtain ⟨⟨x1, a1, h1⟩, k1, k2⟩ := eb_ok k
    obtain ⟨g1, g2⟩ := seqW_ok k2
    refine wpIn_seq (hgo r c1 a h x1 a1 h1 k1 e w act re fr hrr _ fun e1 act1 w1 r1 fr1 s1 => out_then (fun hx => ?_) fun hx => ?_)
    · have := hgo r c2 a1 h1 x a' h' (g1 hx) e1 w1 act1 r1 fr1 (fun l hl => s1.le.dom l (hrr l hl)) Q fun e' act' w' r' fr' s' => hQ e' act' w' r' fr' (s1.trans s')
      rw [fence_le s1.le hrr] at this
      exact this
    · obtain ⟨rfl, rfl, rfl⟩ := g2 hx
      exact hQ e1 act1 w1 r1 fr1 s1
  | cond t c1 c2 =>
    change eb (ev a t) (condW go r c1 c2 a h) = _ at k
    obtain ⟨v, hv, k2⟩ := eb_ok k
    have hx := fr.ev t v hv
    have key : ∀ b : Bool, v = .lit (.bool b) → (Code.cond t c1 c2).wpIn (fence e r) 9 P Q act w := fun b hb => by
      subst hb
      refine wpIn_cond (t := b) (VR_lit.1 hx) ?_
      cases b with
      | true => exact hgo r c1 a h x a' h' k2 e w act re fr hrr Q hQ
      | false => exact hgo r c2 a h x a' h' k2 e w act re fr hrr Q hQ
    unfold condW at k2
    split at k2
    · exact key true rfl
    · exact key false rfl
    · cases k2
  | block id c1 =>
    change eb (go r c1 a h) (blockW id) = _ at k
    obtain ⟨⟨x1, a1, h1⟩, k1, k2⟩ := eb_ok k
    refine wpIn_block (hgo r c1 a h x1 a1 h1 k1 e w act re fr hrr _ fun e1 act1 w1 r1 fr1 s1 => ?_)
    cases x1 with
    | normal => cases k2; exact hQ e1 act1 w1 r1 fr1 s1
    | ret => cases k2; exact hQ e1 act1 w1 r1 fr1 s1
    | exit id' =>
      show if id' = id then Q .normal act1 w1 else Q (.exit id') act1 w1
      by_cases hid : id' = id
      · have hb : Nat.beq id' id = true := by rw [hid]; exact Nat.beq_refl _
        change (.ok (Tr.br (Nat.beq id' id) .normal (.exit id'), a1, h1) : E (X × Fr × H)) = _ at k2
        rw [hb, br_true] at k2
        cases k2
        rw [if_pos hid]
        exact hQ e1 act1 w1 r1 fr1 s1
      · have hb : Nat.beq id' id = false := Bool.eq_false_iff.2 fun h => hid (Nat.eq_of_beq_eq_true h)
        change (.ok (Tr.br (Nat.beq id' id) .normal (.exit id'), a1, h1) : E (X × Fr × H)) = _ at k2
        rw [hb, br_false] at k2
        cases k2
        rw [if_neg hid]
        exact hQ e1 act1 w1 r1 fr1 s1
  | loop c1 => exact wpIn_loop_rounds (m + 1) (loop_ok hgo hl r c1 a h x a' h' k e w act re fr hrr Q hQ)
  | region id ops d =>
    cases d with
    | false => 
      change regionW P go ops false a h = _ at k
      exact region_ok hgo re fr hrr k Q hQ
    | true => exact hd id ops r a h x a' h' k e w act re fr hrr Q hQ
  | rangeFunc g ps asg bd =>
    change eb (ev a g) (fun g => rangeW P go r g ps asg bd a h) = _ at k
    obtain ⟨v, hv, k2⟩ := eb_ok k
    exact rangeFunc_ok hgo re fr hrr hv k2 Q hQ
  | scope c1 =>
    refine wpIn_scope (hgo r c1 a h x a' h' k e w act re fr hrr _ fun e1 act1 w1 r1 fr1 s1 => ?_)
    have := hQ e1 act1 w1 r1 fr1 s1
    cases x <;> exact this
  | goto l => cases k
  | refuse s => cases k
theorem evCode_both (hd : ∀ go, GoOk P go → DrawOk P go) : ∀ f, GoOk P (evCode P f) ∧ LoopOk P (evCode P f) f
  | 0 => ⟨fun r c a h x a' h' k => (by cases k), fun r c a h x a' h' k => (by cases k)⟩
  | f + 1 => ⟨code_ok (evCode_both hd f).1 (evCode_both hd f).2 (hd _ (evCode_both hd f).1), loop_ok (evCode_both hd f).1 (evCode_both hd f).2⟩
end
end Go.Proofs.YtfnnkfngiodnhaaDoor

/- A region that draws its order, as it is run in the order of the text: what each operation finds and leaves. -/
namespace Go.Proofs.YtfnnkfngiodnhaaDoor
set_option linter.unusedSimpArgs false
set_option linter.unusedVariables false
open Go Go.RowKit

noncomputable section
structure DS where
  rq : List Nat
  es : List Ef
  a : Fr
  h : H
section
variable (P : Program) (go : Run) (ops : Array Oper) (st : List (Nat × Nat)) (nq : Nat) (h0 : H)
/-- One operation, in the order of the text. -/
inductive Did (o : Oper) (i : Nat) (s : DS) : DS → Prop where
  | skip (hw : wantedT ops s.a o = false) : Did o i s ⟨s.rq, s.es, s.a.put o.dst uV, s.h⟩
  | mute (v : V) (hw : wantedT ops s.a o = true) (hq : quietW P go s.a o nq (shown ops st nq i (lowH ops i h0 s.es)) = some (v, false)) : Did o i s ⟨s.rq, s.es, s.a.put o.dst v, s.h⟩
  | read (v : V) (hw : wantedT ops s.a o = true) (hq : quietW P go s.a o nq (shown ops st nq i (lowH ops i h0 s.es)) = some (v, true))
      (he : ∀ e ∈ s.es, dep ops i e.i = false → e.prot = true) (hp : apartAll ops st i (lowH ops i h0 s.es) = true) : Did o i s ⟨i :: s.rq, s.es, s.a.put o.dst v, s.h⟩
  | effect (v : V) (prot : Bool) (h' : H) (hw : wantedT ops s.a o = true) (hk : effectW P go s.a o s.h (knownAt i st) = .ok (v, prot, h')) (hn : h'.n ≤ nq)
      (he : ∀ e ∈ s.es, dep ops i e.i = true) (hr : prot = false → ∀ j ∈ s.rq, dep ops i j = true) : Did o i s ⟨s.rq, ⟨i, prot, h'⟩ :: s.es, s.a.put o.dst v, h'⟩
theorem drawW_cons {o : Oper} {rest : List Oper} {i : Nat} {s : DS} {a' : Fr} {h' : H} (k : drawW P go ops st nq h0 (o :: rest) i s.rq s.es s.a s.h = .ok (a', h')) :
    ∃ s', Did P go ops st nq h0 o i s s' ∧ drawW P go ops st nq h0 rest (i + 1) s'.rq s'.es s'.a s'.h = .ok (a', h') := by
  unfold drawW at k
  cases hw : wantedT ops s.a o with
  | false =>
    rw [hw] at k
    exact ⟨_, .skip hw, (putK_eq s.a o.dst uV fun a' => drawW P go ops st nq h0 rest (i + 1) s.rq s.es a' s.h).symm.trans k⟩
  | true =>
    rw [hw] at k
    simp only at k
    cases hq : quietW P go s.a o nq (shown ops st nq i (lowH ops i h0 s.es)) with
    | some p =>
      obtain ⟨v, r⟩ := p
      rw [hq] at k
      simp only at k
      obtain ⟨hc, k2⟩ := ec_ok k
      cases r with
      | false => exact ⟨_, .mute v hw hq, (putK_eq s.a o.dst v fun a' => drawW P go ops st nq h0 rest (i + 1) s.rq s.es a' s.h).symm.trans k2⟩
      | true =>
        have k3 := (putK_eq s.a o.dst v fun a' => drawW P go ops st nq h0 rest (i + 1) (i :: s.rq) s.es a' s.h).symm.trans k2
        simp only [Bool.not_true, Bool.or_eq_true, Bool.false_eq_true, false_or, Bool.and_eq_true, List.all_eq_true] at hc
        exact ⟨_, .read v hw hq (fun e he hd => (hc.1 e he).resolve_left (by rw [hd]; simp)) hc.2, k3⟩
    | none =>
      rw [hq] at k
      simp only at k
      obtain ⟨⟨v, prot, h1⟩, hk, k2⟩ := eb_ok k
      obtain ⟨hc, k3⟩ := ec_ok k2
      have k4 := (putK_eq s.a o.dst v fun a' => drawW P go ops st nq h0 rest (i + 1) s.rq (⟨i, prot, h1⟩ :: s.es) a' h1).symm.trans k3
      simp only [Bool.or_eq_true, Bool.and_eq_true, List.all_eq_true] at hc
      exact ⟨_, .effect v prot h1 hw hk (Nat.le_of_ble_eq_true hc.1) hc.2.1 (fun hp => hc.2.2.resolve_left (by rw [hp]; simp)), k4⟩
theorem drawW_trace : ∀ (rest : List Oper) (i : Nat) (s : DS) (a' : Fr) (h' : H), drawW P go ops st nq h0 rest i s.rq s.es s.a s.h = .ok (a', h') →
    ∃ T : Nat → DS, T i = s ∧ (∀ j o, rest[j]? = some o → Did P go ops st nq h0 o (i + j) (T (i + j)) (T (i + j + 1))) ∧ (T (i + rest.length)).a = a' ∧ (T (i + rest.length)).h = h'
  | [], i, s, a', h', k => by
    cases k
    exact ⟨fun _ => s, rfl, fun j o hj => by simp at hj, rfl, rfl⟩
  | o :: rest, i, s, a', h', k => by
    obtain ⟨s1, d1, k1⟩ := drawW_cons P go ops st nq h0 k
    obtain ⟨T, t1, t2, t3, t4⟩ := drawW_trace rest (i + 1) s1 a' h' k1
    refine ⟨fun j => if j = i then s else T j, by simp, fun j o' hj => ?_, ?_, ?_⟩
    · cases j with
      | zero =>
        simp only [List.getElem?_cons_zero, Option.some.injEq] at hj
        subst hj
        simp only [Nat.add_zero, if_true]
        rw [if_neg (by omega), t1]
        exact d1
      | succ j =>
        have := t2 j o' (by simpa using hj)
        show Did P go ops st nq h0 o' (i + (j + 1)) (if i + (j + 1) = i then s else T (i + (j + 1))) (if i + (j + 1) + 1 = i then s else T (i + (j + 1) + 1))
        rw [if_neg (by omega), if_neg (by omega)]
        have e1 : i + (j + 1) = i + 1 + j := by omega
        rw [e1]
        exact this
    · simp only [List.length_cons]
      rw [if_neg (by omega), show i + (rest.length + 1) = i + 1 + rest.length by omega]
      exact t3
    · simp only [List.length_cons]
      rw [if_neg (by omega), show i + (rest.length + 1) = i + 1 + rest.length by omega]
      exact t4
end
/-- The whole run in the order of the text. -/
structure Text (P : Program) (go : Run) (ops : Array Oper) (st : List (Nat × Nat)) (nq : Nat) (a : Fr) (h : H) (T : Nat → DS) : Prop where
  zero : T 0 = ⟨[], [], a, h⟩
  did : ∀ j o, ops[j]? = some o → Did P go ops st nq h o j (T j) (T (j + 1))
  le : h.n ≤ nq
/-- An operation that has an effect. -/
def IsEff (T : Nat → DS) (j : Nat) : Prop := ∃ prot, (T (j + 1)).es = ⟨j, prot, (T (j + 1)).h⟩ :: (T j).es
section
variable {P : Program} {go : Run} {ops : Array Oper} {st : List (Nat × Nat)} {nq : Nat} {a : Fr} {h : H} {T : Nat → DS}
theorem list_ne_cons {α : Type} {x : α} {l : List α} : l ≠ x :: l := fun h => by have := congrArg List.length h; simp at this
/-- What is no effect leaves the memory. -/
theorem Text.keep (t : Text P go ops st nq a h T) {j : Nat} {o : Oper} (ho : ops[j]? = some o) : IsEff T j ∨ ((T (j + 1)).h = (T j).h ∧ (T (j + 1)).es = (T j).es) := by
  have d := t.did j o ho
  generalize hs : T (j + 1) = s at d
  cases d with
  | skip hw => exact .inr ⟨rfl, rfl⟩
  | mute v hw hq => exact .inr ⟨rfl, rfl⟩
  | read v hw hq he hp => exact .inr ⟨rfl, rfl⟩
  | effect v prot h' hw hk hn he hr => exact .inl ⟨prot, by rw [hs]⟩
/-- The effects that have come up. -/
theorem Text.mem_es (t : Text P go ops st nq a h T) : ∀ i, i ≤ ops.size → ∀ e ∈ (T i).es, e.i < i ∧ (T (e.i + 1)).es = e :: (T e.i).es ∧ e.h = (T (e.i + 1)).h
  | 0, _, e, he => by rw [t.zero] at he; cases he
  | i + 1, hi, e, he => by
    have ho : ops[i]? = some ops[i] := Array.getElem?_eq_getElem (by omega)
    rcases t.keep ho with ⟨prot, h1⟩ | ⟨-, h2⟩
    · rw [h1] at he
      rcases List.mem_cons.1 he with rfl | he
      · exact ⟨Nat.lt_succ_self _, h1, rfl⟩
      · obtain ⟨g1, g2⟩ := t.mem_es i (by omega) e he
        exact ⟨by omega, g2⟩
    · rw [h2] at he
      obtain ⟨g1, g2⟩ := t.mem_es i (by omega) e he
      exact ⟨by omega, g2⟩
theorem Text.eff_mem (t : Text P go ops st nq a h T) {j : Nat} : ∀ i, i ≤ ops.size → j < i → ∀ e, (T (j + 1)).es = e :: (T j).es → e ∈ (T i).es
  | 0, _, hj, e, _ => by omega
  | i + 1, hi, hj, e, he => by
    by_cases hji : j = i
    · subst hji; rw [he]; exact List.mem_cons_self
    · have ih := t.eff_mem i (by omega) (by omega) e he
      have ho : ops[i]? = some ops[i] := Array.getElem?_eq_getElem (by omega)
      rcases t.keep ho with ⟨prot, h1⟩ | ⟨-, h2⟩
      · rw [h1]; exact List.mem_cons_of_mem _ ih
      · rw [h2]; exact ih
/-- Memories with no effect between them are one. -/
theorem Text.same (t : Text P go ops st nq a h T) {m : Nat} : ∀ n, m ≤ n → n ≤ ops.size → (∀ j, m ≤ j → j < n → ¬ IsEff T j) → (T n).h = (T m).h
  | 0, hm, _, _ => by rw [Nat.le_zero.1 hm]
  | n + 1, hm, hn, hk => by
    by_cases he : m = n + 1
    · rw [he]
    · have ho : ops[n]? = some ops[n] := Array.getElem?_eq_getElem (by omega)
      rcases t.keep ho with h1 | h2
      · exact absurd h1 (hk n (by omega) (by omega))
      · rw [h2.1]
        exact t.same n (by omega) (by omega) fun j h1 h2 => hk j h1 (by omega)
/-- The memory behind the last effect that an operation waits for. -/
theorem Text.low (t : Text P go ops st nq a h T) (i : Nat) : ∀ i', i' ≤ ops.size → ∃ m, m ≤ i' ∧ lowH ops i h (T i').es = (T m).h ∧ (∀ j, m ≤ j → j < i' → IsEff T j → dep ops i j = false) ∧ (m = 0 ∨ ∃ k, m = k + 1 ∧ IsEff T k ∧ dep ops i k = true)
  | 0, _ => ⟨0, Nat.le_refl _, by rw [t.zero]; rfl, fun j _ h => by omega, .inl rfl⟩
  | i' + 1, hi => by
    have ho : ops[i']? = some ops[i'] := Array.getElem?_eq_getElem (by omega)
    obtain ⟨m, g1, g2, g3, g4⟩ := t.low i i' (by omega)
    rcases t.keep ho with ⟨prot, h1⟩ | ⟨h1, h2⟩
    · rw [h1]
      unfold lowH
      cases hd : dep ops i i' with
      | true => exact ⟨i' + 1, Nat.le_refl _, by simp only [hd], fun j _ h => by omega, .inr ⟨i', rfl, ⟨prot, h1⟩, hd⟩⟩
      | false =>
        refine ⟨m, by omega, by simp only [hd]; exact g2, fun j h3 h4 h5 => ?_, g4⟩
        by_cases hj : j = i'
        · subst hj; exact hd
        · exact g3 j h3 (by omega) h5
    · rw [h2]
      refine ⟨m, by omega, g2, fun j h3 h4 h5 => ?_, g4⟩
      by_cases hj : j = i'
      · subst hj
        obtain ⟨prot, h6⟩ := h5
        rw [h2] at h6
        exact absurd h6 list_ne_cons
      · exact g3 j h3 (by omega) h5
theorem Text.n_le (t : Text P go ops st nq a h T) : ∀ i, i ≤ ops.size → (T i).h.n ≤ nq
  | 0, _ => by rw [t.zero]; exact t.le
  | i + 1, hi => by
    have ho : ops[i]? = some ops[i] := Array.getElem?_eq_getElem (by omega)
    have ih := t.n_le i (by omega)
    have d := t.did i _ ho
    generalize hs : T (i + 1) = s at d
    cases d with
    | effect v prot h' hw hk hn he hr => exact hn
    | _ => exact ih
/-- What is put where. -/
theorem Text.put (t : Text P go ops st nq a h T) {j : Nat} {o : Oper} (ho : ops[j]? = some o) : ∃ v, (T (j + 1)).a = (T j).a.put o.dst v := by
  have d := t.did j o ho
  generalize hs : T (j + 1) = s at d
  cases d with
  | skip hw => exact ⟨_, rfl⟩
  | mute v hw hq => exact ⟨_, rfl⟩
  | read v hw hq he hp => exact ⟨_, rfl⟩
  | effect v prot h' hw hk hn he hr => exact ⟨_, rfl⟩
theorem put_rest (a : Fr) (d : Option Tmp) (v : V) : (a.put d v).sz = a.sz ∧ (a.put d v).df = a.df ∧ (a.put d v).gl = a.gl := by
  unfold Fr.put
  cases d with
  | none => exact ⟨rfl, rfl, rfl⟩
  | some d => simp only; cases Nat.blt d a.sz <;> exact ⟨rfl, rfl, rfl⟩
theorem put_get (a : Fr) (d : Option Tmp) (v : V) (i : Nat) (h : d ≠ some i) : (a.put d v).t.get i = a.t.get i := by
  unfold Fr.put
  cases d with
  | none => rfl
  | some d =>
    simp only
    cases Nat.blt d a.sz with
    | false => rfl
    | true =>
      show (a.t.set d (some v)).get i = _
      have hset : a.t.set d (some v) = Tr.setP (some v) (Tr.path d) a.t := by unfold Tr.set; rw [Tr.setK_eq]; rfl
      rw [hset]
      exact Tr.get_set_other _ _ fun e => h (by rw [e])
theorem Text.rest (t : Text P go ops st nq a h T) : ∀ i, i ≤ ops.size → (T i).a.sz = a.sz ∧ (T i).a.df = a.df ∧ (T i).a.gl = a.gl
  | 0, _ => by rw [t.zero]; exact ⟨rfl, rfl, rfl⟩
  | i + 1, hi => by
    have ho : ops[i]? = some ops[i] := Array.getElem?_eq_getElem (by omega)
    obtain ⟨v, hv⟩ := t.put ho
    obtain ⟨g1, g2, g3⟩ := put_rest (T i).a (ops[i]).dst v
    obtain ⟨k1, k2, k3⟩ := t.rest i (by omega)
    rw [hv]
    exact ⟨g1.trans k1, g2.trans k2, g3.trans k3⟩
/-- A temporary that none writes is left. -/
theorem Text.sameT (t : Text P go ops st nq a h T) {d m : Nat} : ∀ n, m ≤ n → n ≤ ops.size → (∀ j o, m ≤ j → j < n → ops[j]? = some o → o.dst ≠ some d) → (T n).a.t.get d = (T m).a.t.get d
  | 0, hm, _, _ => by rw [Nat.le_zero.1 hm]
  | n + 1, hm, hn, hk => by
    by_cases he : m = n + 1
    · rw [he]
    · have ho : ops[n]? = some ops[n] := Array.getElem?_eq_getElem (by omega)
      obtain ⟨v, hv⟩ := t.put ho
      rw [hv, put_get _ _ _ _ (hk n _ (by omega) (by omega) ho)]
      exact t.sameT n (by omega) (by omega) fun j o h1 h2 => hk j o h1 (by omega)
end
end
end Go.Proofs.YtfnnkfngiodnhaaDoor

/- A region that draws its order: whatever order is drawn, each operation finds what it finds in the order of the text. -/
namespace Go.Proofs.YtfnnkfngiodnhaaDoor
set_option linter.unusedSimpArgs false
set_option linter.unusedVariables false
open Go Go.RowKit

section deps
variable {ops : Array Oper}
/-- Operations wait for earlier ones. -/
def Early (ops : Array Oper) : Prop := ∀ i o, ops[i]? = some o → ∀ ed ∈ o.after, Region.binds .any ed = true → ed.on < i
def Down (ops : Array Oper) (S : Nat → Prop) : Prop := ∀ i o, S i → ops[i]? = some o → ∀ ed ∈ o.after, Region.binds .any ed = true → S ed.on
theorem depN_step {f i j : Nat} (h : depN ops (f + 1) i j = true) : ∃ o, ops[i]? = some o ∧ ∃ ed ∈ o.after, Region.binds .any ed = true ∧ (ed.on = j ∨ depN ops f ed.on j = true) := by
  change (match ops[i]? with
    | none => false
    | some o => o.after.toList.any fun e => and (Region.binds .any e) (or (Nat.beq e.on j) (depN ops f e.on j))) = true at h
  cases ho : ops[i]? with
  | none => rw [ho] at h; cases h
  | some o =>
    rw [ho] at h
    simp only [List.any_eq_true] at h
    obtain ⟨ed, h1, h2⟩ := h
    rw [Bool.and_eq_true, Bool.or_eq_true] at h2
    exact ⟨o, rfl, ed, by simpa using h1, h2.1, h2.2.imp Nat.eq_of_beq_eq_true id⟩
theorem depN_lt (he : Early ops) : ∀ f i j, depN ops f i j = true → j < i
  | 0, i, j, h => by cases h
  | f + 1, i, j, h => by
    obtain ⟨o, ho, ed, h1, h2, h3⟩ := depN_step h
    have := he i o ho ed h1 h2
    rcases h3 with h3 | h3
    · omega
    · have := depN_lt he f _ _ h3; omega
theorem depN_down {S : Nat → Prop} (hd : Down ops S) : ∀ f i j, depN ops f i j = true → S i → S j
  | 0, i, j, h, _ => by cases h
  | f + 1, i, j, h, hs => by
    obtain ⟨o, ho, ed, h1, h2, h3⟩ := depN_step h
    have := hd i o hs ho ed h1 h2
    rcases h3 with h3 | h3
    · rw [← h3]; exact this
    · exact depN_down hd f _ _ h3 this
theorem dep_lt (he : Early ops) {i j : Nat} (h : dep ops i j = true) : j < i := depN_lt he _ _ _ h
theorem dep_down {S : Nat → Prop} (hd : Down ops S) {i j : Nat} (h : dep ops i j = true) (hs : S i) : S j := depN_down hd _ _ _ h hs
theorem tmps_early (h : tmpsOk ops = true) : Early ops := fun i o ho ed h1 h2 => by
  unfold tmpsOk at h
  rw [List.all_eq_true] at h
  have hi : i < ops.size := (Array.getElem?_eq_some_iff.1 ho).1
  have := h i (List.mem_range.2 hi)
  rw [ho] at this
  simp only [Bool.and_eq_true, List.all_eq_true] at this
  have h3 := this.1 ed (by simpa using h1)
  rw [h2] at h3
  simpa using h3
theorem tmps_order (h : tmpsOk ops = true) {i j d : Nat} {o q : Oper} (ho : ops[i]? = some o) (hq : ops[j]? = some q) (hd : q.dst = some d) (hij : i ≠ j) (hl : d ∈ Oper.looksAt ops o ∨ o.dst = some d) : (j < i → dep ops i j = true) ∧ (i < j → dep ops j i = true) := by
  unfold tmpsOk at h
  rw [List.all_eq_true] at h
  have hi : i < ops.size := (Array.getElem?_eq_some_iff.1 ho).1
  have hj : j < ops.size := (Array.getElem?_eq_some_iff.1 hq).1
  have := h i (List.mem_range.2 hi)
  rw [ho] at this
  simp only [Bool.and_eq_true, List.all_eq_true] at this
  have h3 := this.2 j (List.mem_range.2 hj)
  rw [hq] at h3
  simp only [hd, Bool.or_eq_true, Bool.and_eq_true, Bool.not_eq_true'] at h3
  rcases h3 with h3 | h3 | h3
  · exact absurd (Nat.eq_of_beq_eq_true h3) hij
  · rcases hl with hl | hl
    · have := h3.1
      rw [List.contains_eq_mem] at this
      simp [hl] at this
    · have := h3.2
      rw [hl] at this
      simp at this
  · refine ⟨fun hlt => ?_, fun hlt => ?_⟩
    · have : Nat.blt j i = true := Nat.ble_eq_true_of_le (Nat.succ_le_of_lt hlt)
      rw [this] at h3
      exact h3
    · have : Nat.blt j i = false := Bool.eq_false_iff.2 fun hb => by have := Nat.le_of_ble_eq_true hb; omega
      rw [this] at h3
      exact h3
end deps

section shown
variable {P : Program} {ops : Array Oper} {st : List (Nat × Nat)} {nq : Nat} {e e' : Env} {w w' : World}
theorem without_get : ∀ (bs : List Nat) (m : Tr Ob) (b : Nat) (o : Ob), (without bs m).get b = some o → m.get b = some o ∧ b ∉ bs
  | [], m, b, o, h => ⟨h, by simp⟩
  | c :: bs, m, b, o, h => by
    unfold without at h
    rw [Tr.setK_eq] at h
    obtain ⟨h1, h2⟩ := without_get bs _ b o h
    by_cases hb : b = c
    · subst hb; rw [Tr.get_set_same] at h1; cases h1
    · rw [Tr.get_set_other _ _ hb] at h1
      exact ⟨h1, by simp [hb, h2]⟩
/-- What a reader is shown is so, and apart from the stores that it is not ordered with. -/
def RdOk (P : Program) (ops : Array Oper) (st : List (Nat × Nat)) (nq i : Nat) (g : H) (e : Env) (w : World) : Prop :=
  Rel P e (shown ops st nq i g) w ∧ ∀ q ∈ st, ordered ops i q.1 = false → e.dom q.2 ∧ ∀ b o, (shown ops st nq i g).get b = some o → e.σ b ≠ e.σ q.2
theorem shown_get {i : Nat} {g : H} {b : Nat} {o : Ob} (h : (shown ops st nq i g).get b = some o) : g.get b = some o ∧ ∀ q ∈ st, ordered ops i q.1 = false → b ≠ q.2 := by
  obtain ⟨h1, h2⟩ := without_get _ _ _ _ h
  refine ⟨h1, fun q hq ho hb => h2 ?_⟩
  rw [hb]
  exact List.mem_map.2 ⟨q, List.mem_filter.2 ⟨hq, by simp [ho]⟩, rfl⟩
theorem rdOk_start {i : Nat} {g : H} (r : Rel P e g w) (hn : g.n ≤ nq) (ha : apartAll ops st i g = true) : RdOk P ops st nq i g e w := by
  refine ⟨r.less hn fun b o hb => (shown_get hb).1, fun q hq ho => ?_⟩
  unfold apartAll at ha
  rw [List.all_eq_true] at ha
  have := ha q (List.mem_filter.2 ⟨hq, by simp [ho]⟩)
  cases hg : g.get q.2 with
  | none => rw [hg] at this; cases this
  | some oq =>
    refine ⟨(r.at_ _ _ hg).1, fun b o hb he => ?_⟩
    obtain ⟨h1, h2⟩ := shown_get hb
    exact h2 q hq ho (r.inj _ _ _ _ h1 hg he)
theorem rdOk_step {i : Nat} {g : H} (r : RdOk P ops st nq i g e w) (le : Le e e') (hn : ∀ b, e'.dom b → b < nq) (hs : ∀ b, e'.dom b → e'.σ b < w'.heap.size) (hk : ∀ b o, (shown ops st nq i g).get b = some o → w'.heap[e.σ b]? = w.heap[e.σ b]?) : RdOk P ops st nq i g e' w' := by
  obtain ⟨r1, r2⟩ := r
  refine ⟨⟨hn, hs, fun b o hb => ?_, fun b c o o' hb hc he => ?_⟩, fun q hq ho => ?_⟩
  · obtain ⟨h1, x, h2, h3⟩ := r1.at_ b o hb
    exact ⟨le.dom b h1, x, by rw [le.σ b h1, hk b o hb]; exact h2, h3.mono le h1⟩
  · rw [le.σ b (r1.at_ b o hb).1, le.σ c (r1.at_ c o' hc).1] at he
    exact r1.inj b c o o' hb hc he
  · obtain ⟨h1, h2⟩ := r2 q hq ho
    exact ⟨le.dom _ h1, fun b o hb => by rw [le.σ b (r1.at_ b o hb).1, le.σ _ h1]; exact h2 b o hb⟩
/-- All that there was is left. -/
structure Kept (w w' : World) : Prop where
  size : w.heap.size ≤ w'.heap.size
  keep : ∀ k, k < w.heap.size → w'.heap[k]? = w.heap[k]?
  os : w'.os = w.os
  tape : w'.tape = w.tape
  output : w'.output = w.output
theorem Kept.rel {g : H} (k : Kept w w') (r : Rel P e g w) : Rel P e g w' :=
  ⟨r.lt, fun b hb => Nat.lt_of_lt_of_le (r.old b hb) k.size, fun b o hb => by
    obtain ⟨h1, x, h2, h3⟩ := r.at_ b o hb
    exact ⟨h1, x, by rw [k.keep _ (r.old b h1)]; exact h2, h3⟩, r.inj⟩
theorem Kept.step (k : Kept w w') (h : H) (e : Env) : Step h e w h e w' :=
  ⟨Le.refl e, Nat.le_refl _, rfl, rfl, fun _ hb => .inl hb, fun _ hb hn => absurd hb hn, k.os, k.tape, k.output, k.size, fun i hi _ => k.keep i hi⟩
theorem Kept.of {g g' : H} (s : Step g e w g' e' w') (r : Rel P e g w) (hp : g.p = g.n) (hx : g.x = g.n) : Kept w w' :=
  ⟨s.size, fun k hk => s.keep k hk fun c hc hf => by
    have := r.lt c hc
    unfold free at hf
    omega, s.os, s.tape, s.output⟩
end shown

section effect
variable {P : Program} {e : Env} {w w' : World} {v : V} {x : Value}
theorem knownAt_mem {i y : Nat} : ∀ {st : List (Nat × Nat)}, knownAt i st = some y → (i, y) ∈ st
  | [], h => by cases h
  | q :: st, h => by
    unfold knownAt at h
    cases hb : Nat.beq q.1 i with
    | true =>
      rw [hb] at h
      simp only [Option.some.injEq] at h
      have := Nat.eq_of_beq_eq_true hb
      rw [← h, ← this]
      exact List.mem_cons_self
    | false =>
      rw [hb] at h
      exact List.mem_cons_of_mem _ (knownAt_mem h)
theorem oneOf_free {h : H} {y : Option Nat} {c : Nat} (hc : c < h.n) (hf : free ⟨h.n, h.n, oneOf h y, h.m⟩ c) : free h c ∧ y = some c := by
  have h1 : c = oneOf h y := hf.resolve_left (by show ¬ h.n ≤ c; omega)
  cases y with
  | none => change c = h.n at h1; omega
  | some b =>
    change c = Tr.br _ b h.n at h1
    cases hb : or (Nat.ble h.p b) (Nat.beq b h.x) with
    | false => rw [hb, br_false] at h1; omega
    | true =>
      rw [hb, br_true] at h1
      subst h1
      refine ⟨?_, rfl⟩
      rw [Bool.or_eq_true] at hb
      exact hb.imp Nat.le_of_ble_eq_true Nat.eq_of_beq_eq_true
/-- An effect: what it is run on. -/
theorem effectW_ok {go : Run} {a : Fr} {o : Oper} {h h' : H} {y : Option Nat} {prot : Bool} (k : effectW P go a o h y = .ok (v, prot, h')) :
    (prot = false ∧ opW P go a o.op h = .ok (v, h')) ∨ (prot = true ∧ ∃ h1, opW P go a o.op ⟨h.n, h.n, oneOf h y, h.m⟩ = .ok (v, h1) ∧ h' = ⟨h1.n, h.p, h.x, h1.m⟩) := by
  unfold effectW at k
  split at k
  · rename_i v1 h1 hk
    cases k
    exact .inr ⟨rfl, h1, hk, rfl⟩
  · obtain ⟨⟨v1, h1⟩, hk, k2⟩ := eb_ok k
    cases k2
    exact .inl ⟨rfl, hk⟩
theorem prot_got {h h1 : H} {y : Option Nat} (r : Rel P e h w) (k : Got P ⟨h.n, h.n, oneOf h y, h.m⟩ e w h1 v x w') :
    ∃ e', Rel P e' ⟨h1.n, h.p, h.x, h1.m⟩ w' ∧ Step h e w ⟨h1.n, h.p, h.x, h1.m⟩ e' w' ∧ VR e' v x ∧ ∀ k, k < w.heap.size → (∀ c, e.dom c → y = some c → e.σ c ≠ k) → w'.heap[k]? = w.heap[k]? := by
  obtain ⟨e', r', s, hv⟩ := k
  refine ⟨e', r'.less (Nat.le_refl _) fun b o hb => hb, ⟨s.le, s.n, rfl, rfl, s.new, fun b hb hn => ?_, s.os, s.tape, s.output, s.size, fun k hk hc => ?_⟩, hv, fun k hk hc => ?_⟩
  · rcases s.img b hb hn with h1 | ⟨c, h1, h2, h3⟩
    · exact .inl h1
    · exact .inr ⟨c, h1, (oneOf_free (r.lt c h1) h2).1, h3⟩
  · exact s.keep k hk fun c hd hf => hc c hd (oneOf_free (r.lt c hd) hf).1
  · exact s.keep k hk fun c hd hf => hc c hd (oneOf_free (r.lt c hd) hf).2
end effect
end Go.Proofs.YtfnnkfngiodnhaaDoor

/- A region that draws its order: what holds between its operations. -/
namespace Go.Proofs.YtfnnkfngiodnhaaDoor
set_option linter.unusedSimpArgs false
set_option linter.unusedVariables false
open Go Go.RowKit

section quiet
variable {P : Program} {e : Env} {w w' : World} {v : V} {x : Value}
theorem quietR_ok {nq : Nat} {y : E (V × H)} (k : quietR nq y = some v) : ∃ g', y = .ok (v, g') ∧ (g'.n = nq ∨ bare v = true) := by
  cases y with
  | error s => cases k
  | ok p =>
    obtain ⟨v1, g'⟩ := p
    change (match or (Nat.beq g'.n nq) (bare v1) with | true => some v1 | false => none) = some v at k
    cases hb : or (Nat.beq g'.n nq) (bare v1) with
    | false => rw [hb] at k; cases k
    | true =>
      rw [hb] at k
      cases k
      rw [Bool.or_eq_true] at hb
      exact ⟨g', rfl, hb.imp Nat.eq_of_beq_eq_true id⟩
theorem quietW_ok {go : Run} {a : Fr} {o : Oper} {nq : Nat} {g : H} {r : Bool} (k : quietW P go a o nq g = some (v, r)) :
    ∃ g', opW P go a o.op (match r with | true => g | false => ⟨nq, nq, nq, .leaf⟩) = .ok (v, g') ∧ (g'.n = nq ∨ bare v = true) := by
  unfold quietW at k
  cases h1 : isEffect o.op with
  | true => rw [h1] at k; cases k
  | false =>
    rw [h1] at k
    simp only at k
    cases h2 : isCall o.op with
    | true =>
      rw [h2] at k
      simp only at k
      cases h3 : plainT P 20 o.type with
      | false => rw [h3] at k; cases k
      | true =>
        rw [h3] at k
        simp only at k
        split at k
        · next u hu => cases k; exact quietR_ok hu
        · cases k
    | false =>
      rw [h2] at k
      simp only at k
      split at k
      · next u hu => cases k; exact quietR_ok hu
      · split at k
        · next u hu => cases k; exact quietR_ok hu
        · cases k
theorem quiet_got {g g' : H} {nq : Nat} (r : Rel P e g w) (hn : g.n = nq) (hp : g.p = g.n) (hx : g.x = g.n) (k : Got P g e w g' v x w') (hv : g'.n = nq ∨ bare v = true) : Kept w w' ∧ VR e v x := by
  obtain ⟨e', r', s, h1⟩ := k
  refine ⟨Kept.of s r hp hx, ?_⟩
  rcases hv with hv | hv
  · have hd : ∀ b, e'.dom b → e.dom b := fun b hb => by
      rcases s.new b hb with h2 | h2
      · exact h2
      · omega
    exact h1.mono ⟨fun b hb => hd b hb, fun b hb => (s.le.σ b (hd b hb)).symm, fun b hb => (s.le.κ b (hd b hb)).symm⟩
  · exact bare_VR hv h1
theorem put_tmp {a : Fr} {act : Act} {d : Tmp} (hs : act.tmps.size = a.sz) (hv : VR e v x) (ho : VR e ((a.t.get d).getD uV) (act.tmps.getD d undef)) : VR e (((a.put (some d) v).t.get d).getD uV) ((act.put (some d) x).tmps.getD d undef) := by
  unfold Fr.put
  simp only
  show VR e _ ((act.tmps.setIfInBounds d x).getD d undef)
  cases hb : Nat.blt d a.sz with
  | false =>
    have hge : ¬ d < act.tmps.size := fun h => by
      rw [hs] at h
      have : Nat.blt d a.sz = true := Nat.ble_eq_true_of_le (Nat.succ_le_of_lt h)
      rw [hb] at this
      cases this
    rw [Array.setIfInBounds_eq_of_size_le (Nat.le_of_not_lt hge)]
    exact ho
  | true =>
    have hlt : d < act.tmps.size := by rw [hs]; exact Nat.lt_of_succ_le (Nat.le_of_ble_eq_true hb)
    show VR e (((a.t.set d (some v)).get d).getD uV) _
    have hset : a.t.set d (some v) = Tr.setP (some v) (Tr.path d) a.t := by unfold Tr.set; rw [Tr.setK_eq]; rfl
    rw [hset, Tr.get_set_same, Array.getD_eq_getD_getElem?, Array.getElem?_setIfInBounds_self_of_lt hlt]
    exact hv
theorem put_other {act : Act} {dst : Option Tmp} {d : Tmp} (h : dst ≠ some d) : (act.put dst x).tmps.getD d undef = act.tmps.getD d undef := by
  cases dst with
  | none => rfl
  | some d' =>
    show (act.tmps.setIfInBounds d' x).getD d undef = _
    rw [Array.getD_eq_getD_getElem?, Array.getElem?_setIfInBounds_ne (fun e => h (by rw [e])), ← Array.getD_eq_getD_getElem?]
theorem put_size {act : Act} {dst : Option Tmp} : (act.put dst x).tmps.size = act.tmps.size := by
  cases dst with
  | none => rfl
  | some d' => show (act.tmps.setIfInBounds d' x).size = _; rw [Array.size_setIfInBounds]
theorem put_defers {act : Act} {dst : Option Tmp} : (act.put dst x).defers = act.defers := by cases dst <;> rfl
end quiet

def IsRead (T : Nat → DS) (i : Nat) : Prop := (T (i + 1)).rq = i :: (T i).rq
structure LowAt (T : Nat → DS) (ops : Array Oper) (h : H) (i m : Nat) : Prop where
  le : m ≤ i
  eq : lowH ops i h (T i).es = (T m).h
  free : ∀ j, m ≤ j → j < i → IsEff T j → dep ops i j = false
  last : m = 0 ∨ ∃ k, m = k + 1 ∧ IsEff T k ∧ dep ops i k = true
/-- The memory, and what the readers that have yet to come up are shown. -/
structure Mem (P : Program) (ops : Array Oper) (st : List (Nat × Nat)) (nq : Nat) (T : Nat → DS) (h : H) (e0 : Env) (w0 : World) (S : Nat → Prop) (e : Env) (w : World) : Prop where
  at_ : ∃ m, m ≤ ops.size ∧ (∀ j, j < m → IsEff T j → S j) ∧ (∀ j, m ≤ j → j < ops.size → IsEff T j → ¬ S j) ∧ Rel P e (T m).h w ∧ Step h e0 w0 (T m).h e w
  rd : ∀ i, i < ops.size → IsRead T i → ¬ S i → ∀ m, LowAt T ops h i m → (∀ k, m = k + 1 → S k) → RdOk P ops st nq i (T m).h e w
structure Frm (ops : Array Oper) (T : Nat → DS) (a : Fr) (S : Nat → Prop) (e : Env) (act : Act) : Prop where
  size : act.tmps.size = a.sz
  tmp : ∀ d, ∃ m, m ≤ ops.size ∧ (∀ j o, j < m → ops[j]? = some o → o.dst = some d → S j) ∧ (∀ j o, m ≤ j → ops[j]? = some o → o.dst = some d → ¬ S j) ∧ VR e (((T m).a.t.get d).getD uV) (act.tmps.getD d undef)
  df : act.defers = a.df.map fun d => { target := .collected (e.σ d), args := #[] }
  dom : ∀ d ∈ a.df, e.dom d
  glob : ∀ g, g < a.gl → e.dom g ∧ e.σ g = g

section
variable {P : Program} {go : Run} {ops : Array Oper} {st : List (Nat × Nat)} {nq : Nat} {a : Fr} {h : H} {T : Nat → DS} {S S' : Nat → Prop} {e e' e0 : Env} {w w' w0 : World} {act : Act} {i : Nat} {o : Oper}
theorem Mem.quiet (t : Text P go ops st nq a h T) (hS : ∀ j, S' j ↔ (j = i ∨ S j)) (hni : ¬ IsEff T i) (k : Kept w w') (M : Mem P ops st nq T h e0 w0 S e w) : Mem P ops st nq T h e0 w0 S' e w' := by
  obtain ⟨⟨m, m1, m2, m3, m4, m5⟩, rd⟩ := M
  refine ⟨⟨m, m1, fun j h1 h2 => (hS j).2 (.inr (m2 j h1 h2)), fun j h1 h2 h3 h4 => ?_, k.rel m4, m5.trans (k.step _ _)⟩, fun i' hi hr hn n hl hk => ?_⟩
  · rcases (hS j).1 h4 with rfl | h4
    · exact hni h3
    · exact m3 j h1 h2 h3 h4
  · have r := rd i' hi hr (fun hs => hn ((hS i').2 (.inr hs))) n hl fun q hq => by
      rcases (hS q).1 (hk q hq) with rfl | h4
      · rcases hl.last with h5 | ⟨q', h5, h6, -⟩
        · omega
        · have : q' = q := by omega
          subst this
          exact absurd h6 hni
      · exact h4
    exact rdOk_step r (Le.refl e) (fun b hb => r.1.lt b hb) (fun b hb => Nat.lt_of_lt_of_le (r.1.old b hb) k.size) fun b o hb => k.keep _ (r.1.old b (r.1.at_ b o hb).1)
/-- An effect finds the memory of the order of the text. -/
theorem Mem.here (t : Text P go ops st nq a h T) (hi : i < ops.size) (hd' : Down ops S') (hS : ∀ j, S' j ↔ (j = i ∨ S j)) (hni : ¬ S i) (hE : Early ops) (hef : IsEff T i) (hes : ∀ x ∈ (T i).es, dep ops i x.i = true) (M : Mem P ops st nq T h e0 w0 S e w) : Rel P e (T i).h w ∧ Step h e0 w0 (T i).h e w := by
  obtain ⟨⟨m, m1, m2, m3, m4, m5⟩, -⟩ := M
  have hmi : m ≤ i := Nat.le_of_not_lt fun hlt => hni (m2 i hlt hef)
  have hs : (T i).h = (T m).h := t.same i hmi (by omega) fun j h1 h2 h3 => m3 j h1 (by omega) h3 (by
    obtain ⟨prot, h4⟩ := h3
    have h5 := hes _ (t.eff_mem i (by omega) h2 _ h4)
    have h6 := dep_down hd' h5 ((hS i).2 (.inl rfl))
    rcases (hS j).1 h6 with h7 | h7
    · omega
    · exact h7)
  rw [hs]
  exact ⟨m4, m5⟩
theorem Text.read_mem (t : Text P go ops st nq a h T) {j : Nat} (hr : IsRead T j) : ∀ i, i ≤ ops.size → j < i → j ∈ (T i).rq
  | 0, _, hj => by omega
  | i + 1, hi, hj => by
    by_cases hji : j = i
    · subst hji; rw [hr]; exact List.mem_cons_self
    · have ih := t.read_mem hr i (by omega) (by omega)
      have ho : ops[i]? = some ops[i] := Array.getElem?_eq_getElem (by omega)
      have d := t.did i _ ho
      generalize T (i + 1) = s at d
      cases d with
      | read v hw hq he hp => exact List.mem_cons_of_mem _ ih
      | _ => exact ih
theorem Text.read_spec (t : Text P go ops st nq a h T) {j : Nat} {o : Oper} (ho : ops[j]? = some o) (hr : IsRead T j) : (∀ x ∈ (T j).es, dep ops j x.i = false → x.prot = true) ∧ apartAll ops st j (lowH ops j h (T j).es) = true ∧ ¬ IsEff T j := by
  have d := t.did j o ho
  unfold IsRead at hr
  unfold IsEff
  generalize T (j + 1) = s at d hr
  cases d with
  | read v hw hq he hp => exact ⟨he, hp, fun ⟨p, hp⟩ => list_ne_cons hp⟩
  | _ => exact absurd hr list_ne_cons
theorem Mem.effect (t : Text P go ops st nq a h T) (hE : Early ops) (hi : i < ops.size) (hd : Down ops S) (hd' : Down ops S') (hS : ∀ j, S' j ↔ (j = i ∨ S j)) (hni : ¬ S i) (M : Mem P ops st nq T h e0 w0 S e w)
    {prot : Bool} (hef : (T (i + 1)).es = ⟨i, prot, (T (i + 1)).h⟩ :: (T i).es) (hes : ∀ x ∈ (T i).es, dep ops i x.i = true) (hr : prot = false → ∀ j ∈ (T i).rq, dep ops i j = true)
    (r' : Rel P e' (T (i + 1)).h w') (s : Step (T i).h e w (T (i + 1)).h e' w') (hk : prot = true → ∀ k, k < w.heap.size → (∀ c, e.dom c → knownAt i st = some c → e.σ c ≠ k) → w'.heap[k]? = w.heap[k]?) : Mem P ops st nq T h e0 w0 S' e' w' := by
  have hI : IsEff T i := ⟨prot, hef⟩
  have hSi : S' i := (hS i).2 (.inl rfl)
  have hdS : ∀ j, dep ops i j = true → S j := fun j hj => by
    rcases (hS j).1 (dep_down hd' hj hSi) with h1 | h1
    · have := dep_lt hE hj; omega
    · exact h1
  -- an effect later in the text has not come up
  have later : ∀ j, i < j → j < ops.size → IsEff T j → ¬ S j := fun j h1 h2 ⟨p, h3⟩ h4 => by
    have ho : ops[j]? = some ops[j] := Array.getElem?_eq_getElem h2
    have d := t.did j _ ho
    have hm := t.eff_mem j (by omega) h1 _ hef
    generalize T (j + 1) = s at d h3
    cases d with
    | effect v pr h' hw hk hn he hr => exact hni (dep_down hd (he _ hm) h4)
    | _ => exact absurd h3 list_ne_cons
  obtain ⟨q1, q2⟩ := M.here t hi hd' hS hni hE hI hes
  refine ⟨⟨i + 1, hi, fun j h1 h2 => ?_, fun j h1 h2 h3 h4 => ?_, r', q2.trans s⟩, fun i' hi' hrd hn m hl hkm => ?_⟩
  · by_cases hji : j = i
    · subst hji; exact hSi
    · obtain ⟨p, h3⟩ := h2
      exact (hS j).2 (.inr (hdS j (hes _ (t.eff_mem i (by omega) (by omega) _ h3))))
  · rcases (hS j).1 h4 with h5 | h5
    · omega
    · exact later j (by omega) h2 h3 h5
  · have ho' : ops[i']? = some ops[i'] := Array.getElem?_eq_getElem hi'
    obtain ⟨d1, d2, d3⟩ := t.read_spec ho' hrd
    have hnS : ¬ S i' := fun hs => hn ((hS i').2 (.inr hs))
    have hne : i' ≠ i := fun h => hn (by rw [h]; exact hSi)
    by_cases hmi : m = i + 1
    · subst hmi
      exact rdOk_start r' (t.n_le _ hi) (by rw [← hl.eq]; exact d2)
    · have hmS : ∀ k, m = k + 1 → S k := fun k hk => ((hS k).1 (hkm k hk)).resolve_left (by omega)
      have r := M.rd i' hi' hrd hnS m hl hmS
      have hmle : m ≤ i := by
        rcases hl.last with h1 | ⟨k, h1, h2, h3⟩
        · omega
        · refine Nat.le_of_not_lt fun hlt => ?_
          exact later k (by omega) (by have := hl.le; omega) h2 (hmS k h1)
      -- it waits for nothing of this effect, nor this effect for it
      have n1 : dep ops i' i = false := by
        cases hdd : dep ops i' i with
        | false => rfl
        | true =>
          have := dep_lt hE hdd
          have h1 := hl.free i hmle this hI
          rw [hdd] at h1
          exact h1
      have n2 : dep ops i i' = false := by
        cases hdd : dep ops i i' with
        | false => rfl
        | true => exact absurd (hdS i' hdd) hnS
      have hp : prot = true := by
        rcases Nat.lt_or_gt_of_ne hne with h1 | h1
        · cases hpp : prot with
          | true => rfl
          | false =>
            have := hr hpp i' (t.read_mem hrd i (by omega) h1)
            rw [n2] at this
            cases this
        · exact d1 _ (t.eff_mem i' (by omega) h1 _ hef) n1
      have hord : ordered ops i' i = false := by unfold ordered; rw [n1, n2]; rfl
      refine rdOk_step r s.le (fun b hb => Nat.lt_of_lt_of_le (r'.lt b hb) (t.n_le _ hi)) r'.old fun b ob hb => ?_
      refine hk hp _ (r.1.old b (r.1.at_ b ob hb).1) fun c hc hkc => ?_
      have := (r.2 (i, c) (knownAt_mem hkc) hord).2 b ob hb
      exact fun he => this he.symm
theorem Frm.look (t : Text P go ops st nq a h T) (htm : tmpsOk ops = true) (ho : ops[i]? = some o) (hd : Down ops S) (hd' : Down ops S') (hS : ∀ j, S' j ↔ (j = i ∨ S j)) (hni : ¬ S i) (f : Frm ops T a S e act) {d : Tmp} (hl : d ∈ Oper.looksAt ops o ∨ o.dst = some d) :
    VR e (((T i).a.t.get d).getD uV) (act.tmps.getD d undef) := by
  have hi : i < ops.size := (Array.getElem?_eq_some_iff.1 ho).1
  obtain ⟨m, m1, m2, m3, m4⟩ := f.tmp d
  have hSi : S' i := (hS i).2 (.inl rfl)
  rcases Nat.le_total m i with hle | hle
  · rw [t.sameT i hle (by omega) fun j q h1 h2 h3 h4 => m3 j q h1 h3 h4 (by
      have h5 := (tmps_order htm ho h3 h4 (by omega) hl).1 h2
      rcases (hS j).1 (dep_down hd' h5 hSi) with h6 | h6
      · omega
      · exact h6)]
    exact m4
  · rw [← t.sameT m hle m1 fun j q h1 h2 h3 h4 => by
      have h5 := m2 j q h2 h3 h4
      by_cases hji : j = i
      · subst hji; exact hni h5
      · exact hni (dep_down hd ((tmps_order htm ho h3 h4 (by omega) hl).2 (by omega)) h5)]
    exact m4
theorem Frm.put (t : Text P go ops st nq a h T) (htm : tmpsOk ops = true) (ho : ops[i]? = some o) (hd : Down ops S) (hd' : Down ops S') (hS : ∀ j, S' j ↔ (j = i ∨ S j)) (hni : ¬ S i) (f : Frm ops T a S e act) {v : V} {x : Value} (le : Le e e') (hv : VR e' v x) (hT : (T (i + 1)).a = (T i).a.put o.dst v) :
    Frm ops T a S' e' (act.put o.dst x) := by
  have hi : i < ops.size := (Array.getElem?_eq_some_iff.1 ho).1
  have hSi : S' i := (hS i).2 (.inl rfl)
  refine ⟨by rw [put_size]; exact f.size, fun d => ?_, ?_, fun d hd => le.dom d (f.dom d hd), fun g hg => ⟨le.dom g (f.glob g hg).1, by rw [le.σ g (f.glob g hg).1]; exact (f.glob g hg).2⟩⟩
  · by_cases hdd : o.dst = some d
    · refine ⟨i + 1, hi, fun j q h1 h2 h3 => ?_, fun j q h1 h2 h3 h4 => ?_, ?_⟩
      · by_cases hji : j = i
        · subst hji; exact hSi
        · exact dep_down hd' ((tmps_order htm ho h2 h3 (fun h => hji h.symm) (.inr hdd)).1 (by omega)) hSi
      · rcases (hS j).1 h4 with h5 | h5
        · omega
        · exact hni (dep_down hd ((tmps_order htm ho h2 h3 (by omega) (.inr hdd)).2 (by omega)) h5)
      · rw [hT, hdd]
        exact put_tmp (by rw [f.size]; exact (t.rest i (by omega)).1.symm) hv ((f.look t htm ho hd hd' hS hni (.inr hdd)).mono le)
    · obtain ⟨m, m1, m2, m3, m4⟩ := f.tmp d
      refine ⟨m, m1, fun j q h1 h2 h3 => (hS j).2 (.inr (m2 j q h1 h2 h3)), fun j q h1 h2 h3 h4 => ?_, by rw [put_other hdd]; exact m4.mono le⟩
      rcases (hS j).1 h4 with h5 | h5
      · subst h5
        rw [ho] at h2
        cases h2
        exact hdd h3
      · exact m3 j q h1 h2 h3 h5
  · rw [put_defers, f.df]
    exact List.map_congr_left fun d hd => by rw [le.σ d (f.dom d hd)]
theorem Frm.done (t : Text P go ops st nq a h T) (hall : ∀ j, j < ops.size → S j) (f : Frm ops T a S e act) : FrR e (T ops.size).a act := by
  obtain ⟨r1, r2, r3⟩ := t.rest ops.size (Nat.le_refl _)
  refine ⟨by rw [f.size, r1], fun d => ?_, by rw [f.df, r2], by rw [r2]; exact f.dom, by rw [r3]; exact f.glob⟩
  obtain ⟨m, m1, m2, m3, m4⟩ := f.tmp d
  rw [t.sameT ops.size m1 (Nat.le_refl _) fun j q h1 h2 h3 h4 => m3 j q h1 h3 h4 (hall j h2)]
  exact m4
theorem Mem.done (t : Text P go ops st nq a h T) (hall : ∀ j, j < ops.size → S j) (M : Mem P ops st nq T h e0 w0 S e w) : Rel P e (T ops.size).h w ∧ Step h e0 w0 (T ops.size).h e w := by
  obtain ⟨⟨m, m1, m2, m3, m4, m5⟩, -⟩ := M
  rw [t.same ops.size m1 (Nat.le_refl _) fun j h1 h2 h3 => m3 j h1 h2 h3 (hall j h2)]
  exact ⟨m4, m5⟩
end
end Go.Proofs.YtfnnkfngiodnhaaDoor

/- A region that draws its order; all code; a call that is worked out. -/
namespace Go.Proofs.YtfnnkfngiodnhaaDoor
set_option linter.unusedSimpArgs false
set_option linter.unusedVariables false
open Go Go.RowKit

section
variable {P : Program} {go : Run} {ops : Array Oper} {st : List (Nat × Nat)} {nq : Nat} {a : Fr} {h : H} {T : Nat → DS} {S S' : Nat → Prop} {e e0 : Env} {w w0 : World} {act : Act} {i : Nat} {o : Oper} {rr : Option Nat}
theorem looks_operand {d : Tmp} (h : Operand.tmp d ∈ o.op.operands.toList) : d ∈ Oper.looksAt ops o :=
  List.mem_append_left _ (List.mem_filterMap.2 ⟨.tmp d, h, rfl⟩)
theorem looks_guard {d : Tmp} {j : Nat} {want : Bool} (h : o.guard = some (j, want)) (hd : (ops[j]?).bind (·.dst) = some d) : d ∈ Oper.looksAt ops o := by
  refine List.mem_append_right _ ?_
  rw [h]
  simp only
  rw [hd]
  simp
theorem draw_op (t : Text P go ops st nq a h T) (hgo : GoOk P go) (htm : tmpsOk ops = true) (ho : ops[i]? = some o) (hd : Down ops S) (hd' : Down ops S') (hS : ∀ j, S' j ↔ (j = i ∨ S j)) (hni : ¬ S i)
    (f : Frm ops T a S e act) (M : Mem P ops st nq T h e0 w0 S e w) (hrr : ∀ l, rr = some l → e0.dom l) {K : Act → World → Prop} {Q : Exit → Act → World → Prop} (hK : ∀ e' act' w', Frm ops T a S' e' act' → Mem P ops st nq T h e0 w0 S' e' w' → K act' w') :
    wpOpIn (fence e0 rr) 9 P ops Q i K act w := by
  have hi : i < ops.size := (Array.getElem?_eq_some_iff.1 ho).1
  have hE : Early ops := tmps_early htm
  have hSi : S' i := (hS i).2 (.inl rfl)
  have hdS : ∀ j, dep ops i j = true → S j := fun j hj => by
    rcases (hS j).1 (dep_down hd' hj hSi) with h1 | h1
    · have := dep_lt hE hj; omega
    · exact h1
  obtain ⟨m0, m1, m2, m3, m4, m5⟩ := M.at_
  have hf : fence e rr = fence e0 rr := fence_le m5.le hrr
  obtain ⟨r1, r2, r3⟩ := t.rest i (by omega)
  have hops : OpsR e (T i).a act.eval o.op.operands.toList := fun x hx v k => by
    cases x with
    | tmp d => cases k; exact f.look t htm ho hd hd' hS hni (.inl (looks_operand hx))
    | const c => cases k; exact VR_ofV c
    | func g => cases k; exact VR_fn.2 ⟨[], [], rfl, VRs_nil.2 rfl, VRs_nil.2 rfl⟩
    | global g =>
      obtain ⟨h1, k⟩ := ec_ok k
      cases k
      have h2 := f.glob g (by rw [← r3]; exact Nat.lt_of_succ_le (Nat.le_of_ble_eq_true h1))
      exact VR_ptr.2 ⟨h2.1, by rw [h2.2]; rfl⟩
  have hg : ∀ g, g < (T i).a.gl → e.dom g ∧ e.σ g = g := fun g hg => f.glob g (by rw [← r3]; exact hg)
  have hw : Region.wanted o (yielded ops act.tmps) = wantedT ops (T i).a o := wanted_ok (by rw [f.size, r1]) fun j want d h1 h2 => f.look t htm ho hd hd' hS hni (.inl (looks_guard h1 h2))
  unfold wpOpIn
  rw [ho]
  simp only
  rw [hw]
  -- what leaves the memory alone
  have quiet : ∀ {v : V} {g g' : H} {r : Bool}, wantedT ops (T i).a o = true → ¬ IsEff T i → (T (i + 1)).a = (T i).a.put o.dst v → opW P go (T i).a o.op g = .ok (v, g') → (g'.n = nq ∨ bare v = true) → Rel P e g w → g.n = nq → g.p = g.n → g.x = g.n → o.wpIn (fence e0 rr) 9 P act w K Q := fun {v g g' r} hwt hne hT hk hv rg hn hp hx => by
    rw [← hf]
    refine op_ok hgo rg hops hg hk fun x w' hx' => ?_
    obtain ⟨q1, q2⟩ := quiet_got rg hn hp hx hx' hv
    exact hK e _ w' (f.put t htm ho hd hd' hS hni (Le.refl e) q2 hT) (M.quiet t hS hne q1)
  have d := t.did i o ho
  cases hwt : wantedT ops (T i).a o with
  | false =>
    simp only [Bool.false_eq_true, if_false]
    have hT : (T (i + 1)).a = (T i).a.put o.dst uV ∧ ¬ IsEff T i := by
      unfold IsEff
      generalize T (i + 1) = s at d
      cases d with
      | skip hw => exact ⟨rfl, fun ⟨p, hp⟩ => list_ne_cons hp⟩
      | mute v hw hq => rw [hwt] at hw; cases hw
      | read v hw hq he hp => rw [hwt] at hw; cases hw
      | effect v prot h' hw hk hn he hr => rw [hwt] at hw; cases hw
    exact ⟨fun f' _ => fence_fn e0 rr f', hK e _ w (f.put t htm ho hd hd' hS hni (Le.refl e) uV_ok hT.1) (M.quiet t hS hT.2 ⟨Nat.le_refl _, fun _ _ => rfl, rfl, rfl, rfl⟩)⟩
  | true =>
    simp only [if_true]
    generalize hs : T (i + 1) = s at d
    cases d with
    | skip hw => rw [hwt] at hw; cases hw
    | mute v hw hq =>
      obtain ⟨g', g1, g2⟩ := quietW_ok hq
      refine quiet (r := false) hwt (fun ⟨p, hp⟩ => by rw [hs] at hp; exact list_ne_cons hp) (by rw [hs]) g1 g2 (m4.less (t.n_le _ m1) fun b ob hb => ?_) rfl rfl rfl
      change (Tr.leaf : Tr Ob).get b = some ob at hb
      rw [Tr.get_leaf] at hb
      cases hb
    | read v hw hq he hp =>
      obtain ⟨g', g1, g2⟩ := quietW_ok hq
      obtain ⟨m, l1, l2, l3, l4⟩ := t.low i i (by omega)
      have hl : LowAt T ops h i m := ⟨l1, l2, l3, l4⟩
      have r := M.rd i hi (by unfold IsRead; rw [hs]) hni m hl fun k hk => by
        rcases l4 with h1 | ⟨k', h1, h2, h3⟩
        · omega
        · have : k' = k := by omega
          subst this
          exact hdS _ h3
      refine quiet (r := true) hwt (fun ⟨p, hp⟩ => by rw [hs] at hp; exact list_ne_cons hp) (by rw [hs]) g1 g2 ?_ rfl rfl rfl
      rw [l2]
      exact r.1
    | effect v prot h' hw hk hn he hr =>
      have hh : (T (i + 1)).h = h' := by rw [hs]
      have hef : (T (i + 1)).es = ⟨i, prot, (T (i + 1)).h⟩ :: (T i).es := by rw [hs]
      have hT : (T (i + 1)).a = (T i).a.put o.dst v := by rw [hs]
      obtain ⟨q1, q2⟩ := M.here t hi hd' hS hni hE ⟨prot, hef⟩ he
      rw [← hf]
      rcases effectW_ok hk with ⟨hp, hk1⟩ | ⟨hp, h1, hk1, hh1⟩
      · refine op_ok hgo q1 hops hg hk1 fun x w' hx' => ?_
        obtain ⟨e', p1, p2, p3⟩ := hx'
        refine hK e' _ w' (f.put t htm ho hd hd' hS hni p2.le p3 hT) (M.effect t hE hi hd hd' hS hni hef he hr (by rw [hh]; exact p1) (by rw [hh]; exact p2) fun h => ?_)
        rw [hp] at h
        cases h
      · refine op_ok hgo (h := ⟨(T i).h.n, (T i).h.n, oneOf (T i).h (knownAt i st), (T i).h.m⟩) (q1.less (Nat.le_refl _) fun b ob hb => hb) hops hg hk1 fun x w' hx' => ?_
        obtain ⟨e', p1, p2, p3, p4⟩ := prot_got q1 hx'
        rw [← hh1, ← hh] at p1 p2
        exact hK e' _ w' (f.put t htm ho hd hd' hS hni p2.le p3 hT) (M.effect t hE hi hd hd' hS hni hef he hr p1 p2 fun _ => p4)
/-- Not listed yet. -/
def rem (l : Array Bool) : Nat := l.toList.countP (!·)
theorem rem_set {l : Array Bool} (h : l.getD i true = false) : rem l = rem (l.setIfInBounds i true) + 1 := by
  have hi : i < l.size := Nat.lt_of_not_le fun hle => by
    rw [Array.getD_eq_getD_getElem?, Array.getElem?_eq_none hle] at h
    cases h
  have hl : l.toList[i]'(by simpa using hi) = false := by
    rw [Array.getD_eq_getD_getElem?, Array.getElem?_eq_getElem hi] at h
    simpa using h
  unfold rem
  rw [Array.toList_setIfInBounds, List.countP_set (by simpa using hi), hl]
  have : 0 < l.toList.countP (!·) := List.countP_pos_iff.2 ⟨false, by rw [← hl]; exact List.getElem_mem _, rfl⟩
  simp only [Bool.not_false, Bool.not_true, if_true, Bool.false_eq_true, if_false]
  omega
theorem listed_lt {l : Array Bool} {d : Bool} {j : Nat} (h : l.getD j d ≠ d) : j < l.size := Nat.lt_of_not_le fun hle => h (by rw [Array.getD_eq_getD_getElem?, Array.getElem?_eq_none hle]; rfl)
theorem listed_iff {l : Array Bool} {j : Nat} (hj : j < l.size) (d d' : Bool) : l.getD j d = l.getD j d' := by
  rw [Array.getD_eq_getD_getElem?, Array.getD_eq_getD_getElem?, Array.getElem?_eq_getElem hj]
  rfl
theorem all_of_ready {l : Array Bool} (hE : Early ops) (hsz : l.size = ops.size) (hr : Region.ready .any ops l = []) : ∀ n, n ≤ ops.size → ∀ j, j < n → l.getD j false = true
  | 0, _, j, h => by omega
  | n + 1, hn, j, hj => by
    have ih := all_of_ready hE hsz hr n (by omega)
    by_cases hjn : j = n
    · subst hjn
      have ho : ops[j]? = some ops[j] := Array.getElem?_eq_getElem (by omega)
      cases hb : l.getD j true with
      | false =>
        have : j ∈ Region.ready .any ops l := mem_ready.2 ⟨hb, _, ho, fun ed h1 h2 => ih _ (hE j _ ho ed h1 h2)⟩
        rw [hr] at this
        cases this
      | true => rw [listed_iff (by omega) false true]; exact hb
    · exact ih j (by omega)
theorem rem_zero {l : Array Bool} (hsz : l.size = ops.size) (h : rem l = 0) : Region.ready .any ops l = [] := by
  cases hr : Region.ready .any ops l with
  | nil => rfl
  | cons x xs =>
    have hx : x ∈ Region.ready .any ops l := by rw [hr]; exact List.mem_cons_self
    have := rem_set (mem_ready.1 hx).1
    omega
theorem draw_any (t : Text P go ops st nq a h T) (hgo : GoOk P go) (htm : tmpsOk ops = true) (hrr : ∀ l, rr = some l → e0.dom l) {Q : Exit → Act → World → Prop} (hQ : ∀ e' act' w', Rel P e' (T ops.size).h w' → FrR e' (T ops.size).a act' → Step h e0 w0 (T ops.size).h e' w' → Q .normal act' w') :
    ∀ (fuel : Nat) (l : Array Bool) (e : Env) (act : Act) (w : World), l.size = ops.size → rem l ≤ fuel → Down ops (fun j => l.getD j false = true) → Frm ops T a (fun j => l.getD j false = true) e act → Mem P ops st nq T h e0 w0 (fun j => l.getD j false = true) e w → wpAnyIn (fence e0 rr) 9 P .any ops Q fuel l act w := fun fuel => by
  have fin : ∀ (l : Array Bool) (e : Env) (act : Act) (w : World), l.size = ops.size → Frm ops T a (fun j => l.getD j false = true) e act → Mem P ops st nq T h e0 w0 (fun j => l.getD j false = true) e w → Region.ready .any ops l = [] → Q .normal act w := fun l e act w hsz f M hr => by
    have hall := all_of_ready (tmps_early htm) hsz hr ops.size (Nat.le_refl _)
    obtain ⟨q1, q2⟩ := M.done t hall
    exact hQ e act w q1 (f.done t hall) q2
  induction fuel with
  | zero => exact fun l e act w hsz hrem hd f M => ⟨rem_zero hsz (by omega), fin l e act w hsz f M (rem_zero hsz (by omega))⟩
  | succ fuel ih =>
    refine fun l e act w hsz hrem hd f M => ⟨fin l e act w hsz f M, fun i hi => ?_⟩
    obtain ⟨hun, o, ho, hed⟩ := mem_ready.1 hi
    have hlt : i < l.size := listed_lt (d := true) (by rw [hun]; simp)
    have hS : ∀ j, (l.setIfInBounds i true).getD j false = true ↔ (j = i ∨ l.getD j false = true) := fun j => by
      by_cases hj : i = j
      · subst hj
        rw [Array.getD_eq_getD_getElem?, Array.getElem?_setIfInBounds_self_of_lt hlt]
        simp
      · rw [getD_set_ne false hj]
        exact ⟨.inr, fun h => h.resolve_left fun h => hj h.symm⟩
    have hd' : Down ops (fun j => (l.setIfInBounds i true).getD j false = true) := fun j q hj hq ed h1 h2 => by
      rcases (hS j).1 hj with rfl | hj
      · rw [ho] at hq
        cases hq
        exact (hS _).2 (.inr (hed ed h1 h2))
      · exact (hS _).2 (.inr (hd j q hj hq ed h1 h2))
    refine draw_op t hgo htm ho hd hd' hS (by rw [listed_iff hlt false true, hun]; simp) f M hrr fun e' act' w' f' M' => ?_
    exact ih _ e' act' w' (by rw [Array.size_setIfInBounds]; exact hsz) (by have := rem_set hun; omega) hd' f' M'
theorem none_listed {n j : Nat} (h : (Array.replicate n false).getD j false = true) : False := by
  rw [Array.getD_eq_getD_getElem?, Array.getElem?_replicate] at h
  split at h <;> cases h
theorem draw_ok (hm : P.follows .mixedOrders = true) {go : Run} (hgo : GoOk P go) : DrawOk P go := fun id ops r a h x a' h' k e w act re fr hrr Q hQ => by
  unfold regionW at k
  obtain ⟨htm, k1⟩ := ec_ok k
  rw [fNat_eq] at k1
  obtain ⟨⟨a1, h1⟩, k2, k3⟩ := eb_ok k1
  cases k3
  obtain ⟨T, t1, t2, t3, t4⟩ := drawW_trace P go ops (stores a ops.toList 0) (h.n + 4096) h ops.toList 0 ⟨[], [], a, h⟩ _ _ k2
  have t : Text P go ops (stores a ops.toList 0) (h.n + 4096) a h T := ⟨t1, fun j o ho => by have := t2 j o (by rw [Array.getElem?_toList]; exact ho); simpa using this, by omega⟩
  have hlen : 0 + ops.toList.length = ops.size := by simp
  rw [hlen] at t3 t4
  refine wpIn_region_any hm ?_
  refine draw_any (e0 := e) (w0 := w) t hgo htm hrr (fun e' act' w' p1 p2 p3 => ?_) ops.size _ e act _ (by simp) ?_ (fun j o hj => ?_) ⟨fr.size, fun d => ⟨0, Nat.zero_le _, fun j o hj => by omega, fun j o _ _ _ hj => ?_, ?_⟩, fr.df, fr.dom, fr.glob⟩ ⟨⟨0, Nat.zero_le _, fun j hj => by omega, fun j _ _ _ hj => ?_, ?_, ?_⟩, fun i hi hrd hn m hl hk => ?_⟩
  · rw [t4] at p1 p3
    rw [t3] at p2
    exact hQ e' act' w' p1 p2 p3
  · unfold rem
    refine Nat.le_trans List.countP_le_length ?_
    simp
  · exact absurd hj none_listed
  · exact none_listed hj
  · rw [t1]; exact fr.tmp d
  · exact none_listed hj
  · rw [t1]; exact re.drew
  · rw [t1]; exact Step.drew h e w
  · have hm0 : m = 0 := by
      cases m with
      | zero => rfl
      | succ k =>
        exact absurd (hk k rfl) none_listed
    subst hm0
    have ho : ops[i]? = some ops[i] := Array.getElem?_eq_getElem hi
    refine rdOk_start ?_ (t.n_le 0 (Nat.zero_le _)) (by rw [← hl.eq]; exact (t.read_spec ho hrd).2.1)
    rw [t1]; exact re.drew
/-- **What the evaluator says of a piece of code holds.** -/
theorem evCode_ok (hm : P.follows .mixedOrders = true) (f : Nat) : GoOk P (evCode P f) := (evCode_both (fun _ hgo => draw_ok hm hgo) f).1
/-- **A call that is worked out.** -/
theorem evCall_ok (hm : P.follows .mixedOrders = true) {f gl : Nat} {fid : FuncId} {vs : List V} {xs : List Value} {h h' : H} {v : V} (r : Rel P e h w) (hv : VRs e vs xs) (hg : ∀ g, g < gl → e.dom g ∧ e.σ g = g) (k : evCall P f gl fid vs h = .ok (v, h')) : CallOk P fid xs h e w h' v :=
  (call_ok (evCode_ok hm f) r hv hg k).1
end
end Go.Proofs.YtfnnkfngiodnhaaDoor

/- A function without arguments, worked out piece by piece: after each piece what is no longer reached is forgotten. -/
namespace Go.Proofs.YtfnnkfngiodnhaaDoor
set_option linter.unusedSimpArgs false
set_option linter.unusedVariables false
open Go Go.RowKit

noncomputable section
/-- A piece of code does what was worked out. -/
def Seg (P : Program) (c : Code) (a : Fr) (h : H) (x : X) (a' : Fr) (h' : H) : Prop :=
  ∀ (e : Env) (w : World) (act : Act), Rel P e h w → FrR e a act →
    ∀ Q : Exit → Act → World → Prop, (∀ e' act' w', Rel P e' h' w' → FrR e' a' act' → Step h e w h' e' w' → Q x.out act' w') → c.wpIn (fence e none) 9 P Q act w
def gcM (m : Tr Ob) : List Nat → Tr Ob → Tr Ob
  | [], t => t
  | b :: bs, t => Tr.setK (m.get b) (Tr.path b) t fun t' => gcM m bs t'
def gcH (keep : List Nat) (h : H) : H := ⟨h.n, h.p, h.x, gcM h.m keep .leaf⟩
/-- A piece is worked out, and but these names are forgotten. -/
def evGc (P : Program) (f : Nat) (c : Code) (a : Fr) (h : H) (keep : List Nat) : E (X × Fr × H) := eb (evCode P f none c a h) fun s => .ok (s.1, s.2.1, gcH keep s.2.2)
/-- The pieces of a sequence. -/
def piece : Nat → Code → Code
  | 0, .seq x _ => x
  | n + 1, .seq _ y => piece n y
  | _, _ => .skip
def bodyOf (f : Func) : Code := f.body.getD .skip
def finish (P : Program) (fn : Func) (a : Fr) (h : H) : E (V × H) := eb (takeMarks h a.df) fun h2 => eb (resultsT P a h2 fn.results.toList) fun us => .ok (packT us, h2)
section
variable {P : Program} {e : Env} {w : World} {v : V} {h h1 h' : H} {a a1 a' : Fr} {x : X} {c c1 c2 : Code}
theorem gcM_get (m : Tr Ob) : ∀ (keep : List Nat) (t : Tr Ob) (b : Nat) (o : Ob), (gcM m keep t).get b = some o → m.get b = some o ∨ t.get b = some o
  | [], t, b, o, k => .inr k
  | d :: ds, t, b, o, k => by
    unfold gcM at k
    rw [Tr.setK_eq] at k
    rcases gcM_get m ds _ b o k with k | k
    · exact .inl k
    · by_cases hb : b = d
      · subst hb
        rw [Tr.get_set_same] at k
        exact .inl k
      · rw [Tr.get_set_other _ _ hb] at k
        exact .inr k
theorem gcH_get (keep : List Nat) (h : H) (b : Nat) (o : Ob) (k : (gcH keep h).get b = some o) : h.get b = some o := by
  rcases gcM_get h.m keep .leaf b o k with k | k
  · exact k
  · rw [Tr.get_leaf] at k; cases k
theorem Step.gc {e' : Env} {w' : World} (s : Step h e w h' e' w') (keep : List Nat) : Step h e w (gcH keep h') e' w' := ⟨s.le, s.n, s.p, s.x, s.new, s.img, s.os, s.tape, s.output, s.size, s.keep⟩
theorem seg_of {f : Nat} {keep : List Nat} (hm : P.follows .mixedOrders = true) (k : evGc P f c a h keep = .ok (x, a', h')) : Seg P c a h x a' h' := fun e w act re fr Q hQ => by
  unfold evGc at k
  obtain ⟨⟨x1, a1, h1⟩, k1, k2⟩ := eb_ok k
  cases k2
  exact evCode_ok hm f none c a h _ _ _ k1 e w act re fr (fun l hl => by cases hl) Q fun e' act' w' r' fr' s' => hQ e' act' w' (r'.less (Nat.le_refl _) (gcH_get keep h1)) fr' (s'.gc keep)
theorem seg_seq (k1 : Seg P c1 a h .normal a1 h1) (k2 : Seg P c2 a1 h1 x a' h') : Seg P (.seq c1 c2) a h x a' h' := fun e w act re fr Q hQ =>
  wpIn_seq (k1 e w act re fr _ fun e1 act1 w1 r1 fr1 s1 => by
    have := k2 e1 w1 act1 r1 fr1 Q fun e' act' w' r' fr' s' => hQ e' act' w' r' fr' (s1.trans s')
    exact this)
theorem seg_ret : Seg P .ret a h .ret a h := fun e w act re fr Q hQ => wpIn_ret (hQ e act w re fr (Step.refl _ _ _))
theorem call_seg {gl : Nat} {f : FuncId} {fn : Func} {vs : List V} {xs : List Value} (hfn : P.funcs[f]? = some fn) (hc : fn.body = some c) (r : Rel P e h w) (hv : VRs e vs xs) (hg : ∀ g, g < gl → e.dom g ∧ e.σ g = g)
    (hs : Seg P c ⟨Tr.ofList vs 0 .leaf, Nat.max fn.ntmps vs.length, [], gl⟩ h x a1 h1) (hx : ∀ id, x ≠ .exit id) (k : finish P fn a1 h1 = .ok (v, h')) : CallOk P f xs h e w h' v := by
  refine (callsIn_wide (n := 9)).1 ?_
  refine callsIn_of_wp_marks hfn hc trivial ?_ rfl
  refine hs e w _ r (ofList_fr hv fn.ntmps gl hg) _ fun e' act' w' r' fr' s' => ?_
  unfold finish at k
  obtain ⟨h2, hm, k1⟩ := eb_ok k
  obtain ⟨us, hus, k2⟩ := eb_ok k1
  cases k2
  have key := marks_ok (fn := fn) (tmps := act'.tmps) (R := fun en w' => ∃ x, en = .returned x ∧ Got P h e w h' (packT us) x w') a1.df h1 w' h' r' hm fun w2 r2 s2 => by
    obtain ⟨y, g1, g2⟩ := pack_ok r2 fr' hus
    exact ⟨y, g1, y, rfl, e', r2, s'.trans s2, g2⟩
  rw [← fr'.df] at key
  cases x with
  | normal => exact key
  | ret => exact key
  | exit id => exact absurd rfl (hx id)
/-- Where all starts: one package variable is known, of any element type. -/
def e00 : Env := ⟨id, fun _ => 0, fun b => b = 0⟩
def h00 (tab : List V) (t : TypeId) : H := ⟨40, 40, 40, .node .leaf (some (.cells tab t)) .leaf⟩
theorem h00_get {tab : List V} {t : TypeId} {b : Nat} {o : Ob} (k : (h00 tab t).get b = some o) : b = 0 ∧ o = .cells tab t := by
  by_cases hb : b = 0
  · subst hb; cases k; exact ⟨rfl, rfl⟩
  · exfalso
    have h2 : (Tr.setP (some (Ob.cells tab t)) (Tr.path 0) Tr.leaf).get b = some o := k
    rw [Tr.get_set_other _ _ hb, Tr.get_leaf] at h2
    cases h2
theorem rel_start {P : Program} {W : World} {l : List Value} {t : TypeId} (hW : W.heap[0]? = some (.cells l.toArray t (0, 0))) : Rel P e00 (h00 (l.map .lit) t) W := by
  have h0 : 0 < W.heap.size := (Array.getElem?_eq_some_iff.1 hW).1
  refine ⟨fun b hb => ?_, fun b hb => ?_, fun b o k => ?_, fun b c o o' k1 k2 _ => ?_⟩
  · change b = 0 at hb; subst hb; show 0 < 40; omega
  · change b = 0 at hb; subst hb; exact h0
  · obtain ⟨rfl, rfl⟩ := h00_get k
    exact ⟨rfl, _, hW, l, [], by rw [List.append_nil], VRs_lits l, fun s _ => by simp [e00]⟩
  · rw [(h00_get k1).1, (h00_get k2).1]
/-- **A function without arguments that was worked out to a bare result** leaves all that was there. -/
theorem closed_ok {P : Program} {W : World} {l : List Value} {t : TypeId} {f : FuncId} {fn : Func} {y : Value} (hW : W.heap[0]? = some (.cells l.toArray t (0, 0))) (hfn : P.funcs[f]? = some fn) (hc : fn.body = some c)
    (hs : Seg P c ⟨.leaf, fn.ntmps, [], 1⟩ (h00 (l.map .lit) t) x a1 h1) (hx : ∀ id, x ≠ .exit id) (k : finish P fn a1 h1 = .ok (.lit y, h')) : Calls P f #[] W fun en W' => en = .returned y ∧ Below W.heap.size W W' := by
  have hs' : Seg P c ⟨Tr.ofList [] 0 .leaf, Nat.max fn.ntmps ([] : List V).length, [], 1⟩ (h00 (l.map .lit) t) x a1 h1 := by
    have : Nat.max fn.ntmps ([] : List V).length = fn.ntmps := Nat.max_eq_left (Nat.zero_le _)
    rw [this]
    exact hs
  have hg : ∀ g, g < 1 → e00.dom g ∧ e00.σ g = g := fun g hg => by
    have h0 : g = 0 := by omega
    subst h0
    exact ⟨rfl, rfl⟩
  have := call_seg (e := e00) (w := W) (vs := []) (xs := []) hfn hc (rel_start hW) (VRs_nil.2 rfl) hg hs' hx k
  refine Calls.mono this ?_
  rintro en W' ⟨z, rfl, e', r', s, hz⟩
  have hk := Kept.of (P := P) s (rel_start hW) rfl rfl
  exact ⟨by rw [VR_lit.1 hz], hk.os, hk.tape, hk.output, hk.size, fun k hk' => hk.keep k hk'⟩
end
end
end Go.Proofs.YtfnnkfngiodnhaaDoor

/- What the texts that work functions out share: the table that they read, and that the program follows the order of any mixture. -/
namespace Go.Proofs.YtfnnkfngiodnhaaDoor
set_option linter.unusedSimpArgs false
set_option linter.unusedVariables false
open Go
def tabL : List Value := ([0, 1, 56, 2, 57, 49, 28, 3, 61, 58, 42, 50, 38, 29, 17, 4, 62, 47, 59, 36, 45, 43, 51, 22, 53, 39, 33, 30, 24, 18, 12, 5, 63, 55, 48, 27, 60, 41, 37, 16, 46, 35, 44, 21, 52, 32, 23, 11, 54, 26, 40, 15, 34, 20, 31, 10, 25, 14, 19, 9, 13, 8, 7, 6] : List Int).map fun n => .int .u8 n
abbrev tab64 : List V := tabL.map .lit
theorem follows : Tryd.prog.follows .mixedOrders = true := by kernel_rfl
end Go.Proofs.YtfnnkfngiodnhaaDoor
