/- The parts Ba, Gt, To, Ua of the proof, joined. It holds without conditions of its own. -/
import Derived.Test.YtnhacghjoikgpaaGreatDoorFX5
import Derived.Lib.QuietBelow
import Derived.StillTail
import Derived.StillTailTactics
import Derived.BigRegion
import Derived.Test.YtnhacghjoikgpaaGreatDoorProg
import Derived.Test.YtnhacghjoikgpaaGreatDoorFX12
/- The last fold, as a byte. -/
namespace Go.Proofs.YtnhacghjoikgpaaGreatDoor
set_option linter.unusedSimpArgs false
set_option linter.unusedVariables false
open Go Go.RowKit Go.Sort Go.BigFrame

theorem bytesF_last {D : Fds} (h : 1 ≤ D.length) : ∃ k, (bytesF D).length = k + 1 ∧ ∃ c : UInt8, ((c.toNat : Int) == 120) = lastF D ∧ ∀ h : k < (⟨(bytesF D).toArray⟩ : ByteArray).size, (⟨(bytesF D).toArray⟩ : ByteArray)[k]'h = c := by
  have hne : D ≠ [] := fun e => by rw [e] at h; simp at h
  refine ⟨D.length - 1, by unfold bytesF; simp; omega, if lastF D then 120 else 121, by cases lastF D <;> rfl, ?_⟩
  intro h'
  have h0 : D.length - 1 < (bytesF D).length := by unfold bytesF; simp; omega
  have hg : (⟨(bytesF D).toArray⟩ : ByteArray)[D.length - 1]'h' = (bytesF D)[D.length - 1]'h0 := rfl
  rw [hg]
  have hm : (bytesF D)[D.length - 1]? = some (if lastF D then 120 else 121) := by
    unfold bytesF lastF
    rw [List.getElem?_map, List.getLastD_eq_getLast?, List.getLast?_eq_getElem?]
    rw [List.getElem?_eq_getElem (by omega)]
    simp
  rw [List.getElem?_eq_getElem h0] at hm
  exact Option.some.inj hm
end Go.Proofs.YtnhacghjoikgpaaGreatDoor

/- A region that draws its order: its first operations only read, or call what makes blocks of its own; the others come behind them, one after the other. One walk serves all orders. -/
namespace Go.Proofs.YtnhacghjoikgpaaGreatDoor
set_option linter.unusedSimpArgs false
set_option linter.unusedVariables false
open Go Go.RowKit Go.Sort

section
variable {P : Program} {ops : Array Oper} {md : Region.Mode} {C : World → Prop}

/-- The head's operations in whatever order: each that may come up is of the head, and quiet; L is what holds behind them. -/
def HeadQ (P : Program) (md : Region.Mode) (ops : Array Oper) (C : World → Prop) (n : Nat) (L : Array Bool → Act → Prop) : Nat → Array Bool → Act → Prop
  | 0, s, a => L s a
  | f + 1, s, a => (∃ i, i ∈ Region.ready md ops s) ∧ ∀ i ∈ Region.ready md ops s, i < n ∧ qOp P ops C i (HeadQ P md ops C n L f (s.setIfInBounds i true)) a

theorem headQ_any {n g : Nat} {L : Array Bool → Act → Prop} {R : Exit → Act → World → Prop} (hL : ∀ s a w, C w → L s a → wpAny P md ops R g s a w) :
    ∀ (f : Nat) (s : Array Bool) (a : Act) (w : World), C w → HeadQ P md ops C n L f s a → wpAny P md ops R (f + g) s a w := by
  intro f
  induction f with
  | zero => intro s a w hw h; simpa using hL s a w hw h
  | succ f ih =>
    intro s a w hw h
    have e : f + 1 + g = (f + g) + 1 := by omega
    rw [e]
    obtain ⟨⟨i0, h0⟩, h⟩ := h
    refine ⟨fun hn => ?_, fun i hi => wpOp_of_qOp hw (fun a' w' hw' hq => ih _ a' w' hw' hq) (h i hi).2⟩
    rw [hn] at h0
    cases h0

theorem unlisted_on {s : Array Bool} {i : Nat} (h1 : s.getD i true = false) (h2 : s.getD i false = true) : False := by
  rw [getD_both h1] at h2
  cases h2

/-- Each operation of the head is waited for by one behind it that is no farther than n, unless it is one of the first p. -/
def sinkP (md : Region.Mode) (ops : Array Oper) (p n : Nat) : Bool :=
  (List.range n).all fun i => decide (i < p) || (List.range (n + 1)).any fun j => decide (i < j) && Region.waitsFor md ops j i

theorem waits_on {s : Array Bool} {i j : Nat} (h : Region.waitsFor md ops j i = true) (hj : ∀ oj, ops[j]? = some oj → ∀ e ∈ oj.after, Region.binds md e = true → s.getD e.on false = true) (hi : s.getD i true = false) : False := by
  obtain ⟨oj, hoj, e, he, hb, hon⟩ := Region.waitsFor_spec h
  exact unlisted_on hi (hon ▸ hj oj hoj e he hb)

theorem tail_later {p n : Nat} {s : Array Bool} (hs : sinkP md ops p n = true) (hc : Region.chainB md ops n = true) (hn : n < ops.size) (inv : HeadInv md ops n s) :
    ∀ (d i : Nat), n - i ≤ d → p ≤ i → i < n → s.getD i true = false → ∀ t, n ≤ t → t ∉ Region.ready md ops s := by
  intro d
  induction d with
  | zero => intro i hd _ hi; omega
  | succ d ih =>
    intro i hd hpi hi hun t ht hr
    obtain ⟨_, ot, hot, hall⟩ := mem_ready.1 hr
    have htz : t < ops.size := (Array.getElem?_eq_some_iff.1 hot).1
    have hat : ∀ oj, ops[t]? = some oj → ∀ e ∈ oj.after, Region.binds md e = true → s.getD e.on false = true := fun oj hoj => by
      rw [hot] at hoj
      cases hoj
      exact hall
    rcases Nat.lt_or_ge n t with hlt | hle
    · have h1 := List.all_eq_true.1 hc t (List.mem_range.2 htz)
      simp only [Bool.or_eq_true, decide_eq_true_eq] at h1
      rcases h1 with h1 | h1
      · omega
      · exact waits_on h1 hat (inv.tail (t - 1) (by omega) (by omega))
    · have e : t = n := by omega
      subst e
      have h1 := List.all_eq_true.1 hs i (List.mem_range.2 hi)
      simp only [Bool.or_eq_true, decide_eq_true_eq, List.any_eq_true, List.mem_range, Bool.and_eq_true] at h1
      rcases h1 with h1 | ⟨j, hj, hij, hw⟩
      · omega
      · rcases Nat.lt_or_ge j t with hjt | hjt
        · cases hl : s.getD j false with
          | true => exact waits_on hw (fun oj hoj => inv.closed j oj hoj hl) hun
          | false => exact ih j (by omega) (by omega) hjt (getD_in (by rw [inv.size]; omega) hl) t (Nat.le_refl _) hr
        · have e : j = t := by omega
          subst e
          exact waits_on hw hat hun

theorem headQ_first {p n i : Nat} {o : Oper} {v : Value} {L : Array Bool → Act → Prop} (ho : ops[i]? = some o) (hsel : ∀ (j : Nat) (o : Oper) cs b, ops[j]? = some o → o.op ≠ .select cs b)
    (hs : sinkP md ops p n = true) (hc : Region.chainB md ops n = true) (hn : n < ops.size) (hpi : p ≤ i) (hin : i < n) (hend : ∀ s a, L s a → ∀ j ∈ Region.ready md ops s, n ≤ j) :
    ∀ (f : Nat) (s : Array Bool) (a : Act), HeadInv md ops n s →
      (∀ j oj, ops[j]? = some oj → j ≠ i → s.getD j true = false → (∀ e ∈ oj.after, Region.binds md e = true → e.on ≠ i) → o.apart ops oj = true) →
      i ∈ Region.ready md ops s → YieldsIn P ops C o v a → HeadQ P md ops C n L f (s.setIfInBounds i true) (a.put o.dst v) → HeadQ P md ops C n L (f + 1) s a := by
  intro f
  induction f with
  | zero =>
    intro s a inv _ hi hy H
    refine ⟨⟨i, hi⟩, fun j hj => ?_⟩
    have hjn : j < n := Nat.lt_of_not_le fun hle => tail_later hs hc hn inv _ i (Nat.le_refl _) hpi hin (mem_ready.1 hi).1 j hle hj
    by_cases e : j = i
    · subst e
      exact ⟨hjn, hy.qOp ho H⟩
    · have := hend _ _ H j (ready_mono hj e)
      omega
  | succ f ih =>
    intro s a inv hfree hi hy H
    refine ⟨⟨i, hi⟩, fun j hj => ?_⟩
    have hjn : j < n := Nat.lt_of_not_le fun hle => tail_later hs hc hn inv _ i (Nat.le_refl _) hpi hin (mem_ready.1 hi).1 j hle hj
    refine ⟨hjn, ?_⟩
    by_cases e : j = i
    · subst e
      exact hy.qOp ho H
    · obtain ⟨hun, oj, hoj, hafter⟩ := mem_ready.1 hj
      have hno : ∀ e ∈ oj.after, Region.binds md e = true → e.on ≠ i := fun e he hb q => unlisted_on (mem_ready.1 hi).1 (q ▸ hafter e he hb)
      have hq := qOp_put hoj (hfree j oj hoj e hun hno) (fun cs b => hsel i o cs b ho) (fun cs b => hsel j oj cs b hoj) hy (H.2 j (ready_mono hj e)).2
      refine qOp_mono (fun a' hk => ih _ a' (inv.set hj hjn) (fun k ok hk2 hki hun2 hno2 => hfree k ok hk2 hki ?_ hno2) (ready_mono hi (Ne.symm e)) hk.1 ?_) hq
      · by_cases q : j = k
        · subst q; exact hun
        · rwa [getD_set_ne true q] at hun2
      · rw [Array.setIfInBounds_comm _ _ e]
        exact hk.2

theorem headQ_lex {p n g : Nat} {K : Act → Prop} (hsel : Region.noSelect ops = true) (hs : sinkP md ops p n = true) (hc : Region.chainB md ops n = true) (hn : n < ops.size) :
    ∀ (l : List Oper) (k : Nat) (s : Array Bool) (a : Act), (∀ j, j < l.length → l[j]? = ops[k + j]?) → p ≤ k → k + l.length = n → HeadInv md ops n s →
      Region.lexHead md ops g l.length k s = true → wpQuiet P ops C K l a → HeadQ P md ops C n (fun s' a' => Region.seqB md ops g n s' = true ∧ K a') l.length s a := by
  intro l
  induction l with
  | nil =>
    intro k s a _ _ hk _ hB h
    have e : k = n := by simpa using hk
    subst e
    exact ⟨by simpa [Region.lexHead] using hB, h⟩
  | cons o l ih =>
    intro k s a hl hpk hk inv hB h
    have ho : ops[k]? = some o := by simpa using (hl 0 (by simp)).symm
    simp only [List.length_cons] at hk
    simp only [List.length_cons, Region.lexHead, Bool.and_eq_true] at hB
    obtain ⟨⟨hr, hf⟩, hB⟩ := hB
    have hr : k ∈ Region.ready md ops s := by simpa using hr
    have hq : qOp P ops C k (wpQuiet P ops C K l) a := by
      unfold qOp
      simp only [ho]
      exact h
    obtain ⟨v, hy, hK⟩ := yieldsIn_of_qOp ho hq
    refine headQ_first ho (Region.noSelect_spec hsel) hs hc hn hpk (by omega) (fun _ _ hL => seqB_ready hL.1) l.length s a inv (Region.free_spec ho hf) hr hy
      (ih (k + 1) _ _ (fun j hj => ?_) (by omega) (by omega) (inv.set hr (by omega)) hB hK)
    have := hl (j + 1) (by simp only [List.length_cons]; omega)
    simpa [Nat.add_assoc, Nat.add_comm 1 j] using this

/-- The first operations, which only copy: what they leave. -/
def leadV (o : Oper) (a : Act) : Value := match o.op with
  | .move x => a.eval x
  | _ => undef
def leadA : List Oper → Act → Act
  | [], a => a
  | o :: l, a => leadA l (a.put o.dst (leadV o a))
def leadS : Nat → List Oper → Array Bool → Array Bool
  | _, [], s => s
  | k, _ :: l, s => leadS (k + 1) l (s.setIfInBounds k true)
def isMove (o : Oper) : Bool := o.guard.isNone && match o.op with
  | .move _ => true
  | _ => false
def leadB (md : Region.Mode) (ops : Array Oper) : Nat → List Oper → Array Bool → Bool
  | _, [], _ => true
  | k, o :: l, s => isMove o && (Region.ready md ops s).contains k && Region.free md ops s k && leadB md ops (k + 1) l (s.setIfInBounds k true)

theorem move_yields {o : Oper} {a : Act} (h : isMove o = true) : Yields P ops o (leadV o a) a := by
  unfold isMove at h
  simp only [Bool.and_eq_true, Option.isNone_iff_eq_none] at h
  obtain ⟨hg, hm⟩ := h
  cases ho : o.op <;> simp only [ho] at hm <;> try (cases hm)
  rename_i x
  refine Or.inl ⟨by unfold Region.wanted; rw [hg], fun w => ?_⟩
  unfold leadV
  rw [ho]
  simp [execOp, ho, go_sem]

theorem lead_first {R : Exit → Act → World → Prop} (hsel : Region.noSelect ops = true) (hR : ∀ c a b w, R (.panic c) a w → R (.panic c) b w) :
    ∀ (l : List Oper) (k : Nat) (s : Array Bool) (a : Act) (f : Nat) (w : World), (∀ j, j < l.length → l[j]? = ops[k + j]?) → leadB md ops k l s = true →
      wpAny P md ops R f (leadS k l s) (leadA l a) w → wpAny P md ops R (l.length + f) s a w := by
  intro l
  induction l with
  | nil => intro k s a f w _ _ h; simpa [leadS, leadA] using h
  | cons o l ih =>
    intro k s a f w hl hB h
    have ho : ops[k]? = some o := by simpa using (hl 0 (by simp)).symm
    simp only [leadB, Bool.and_eq_true] at hB
    obtain ⟨⟨⟨hm, hr⟩, hf⟩, hB⟩ := hB
    have e : (o :: l).length + f = (l.length + f) + 1 := by simp only [List.length_cons]; omega
    rw [e]
    refine wpAny_first (v := leadV o a) ho (Region.noSelect_spec hsel) (fun c a w h => hR c _ _ w h) _ s a w (Region.free_spec ho hf) (by simpa using hr) (move_yields hm) ?_
    refine ih (k + 1) _ _ f w (fun j hj => ?_) hB h
    have := hl (j + 1) (by simp only [List.length_cons]; omega)
    simpa [Nat.add_assoc, Nat.add_comm 1 j] using this

theorem lead_inv {n : Nat} : ∀ (l : List Oper) (k : Nat) (s : Array Bool), k + l.length ≤ n → leadB md ops k l s = true → HeadInv md ops n s → HeadInv md ops n (leadS k l s) := by
  intro l
  induction l with
  | nil => intro k s _ _ h; exact h
  | cons o l ih =>
    intro k s hk hB h
    simp only [List.length_cons] at hk
    simp only [leadB, Bool.and_eq_true] at hB
    obtain ⟨⟨⟨_, hr⟩, _⟩, hB⟩ := hB
    exact ih (k + 1) _ (by omega) hB (h.set (by simpa using hr) (by omega))

/-- What is asked of the operations' order: the first p only copy; those up to n only read, or call; the others come one after the other. -/
def tailB (ops : List Oper) (p n : Nat) : Bool :=
  Region.noSelect ops.toArray && decide (p ≤ n) && decide (n < ops.length) && sinkP .any ops.toArray p n && Region.chainB .any ops.toArray n && leadB .any ops.toArray 0 (ops.take p) (Array.replicate ops.length false) &&
    Region.lexHead .any ops.toArray (ops.length - n) (n - p) p (leadS 0 (ops.take p) (Array.replicate ops.length false))

theorem wp_region_lead_tail {id : Nat} {Q : Exit → Act → World → Prop} {a : Act} {w : World} {l : List Oper} (p n : Nat) (hm : P.follows .mixedOrders = true) (hB : tailB l p n = true) (hR : ∀ c a b w, Q (.panic c) a w → Q (.panic c) b w)
    (hC : C { w with drawn := w.drawn + 1 })
    (h : wpQuiet P l.toArray C (fun a' => ∀ w', C w' → wpList P l.toArray Q (l.drop n) a' w') ((l.take n).drop p) (leadA (l.take p) a)) : (Code.region id l.toArray true).wp P Q a w := by
  simp only [tailB, Bool.and_eq_true, decide_eq_true_eq] at hB
  obtain ⟨⟨⟨⟨⟨⟨hsel, hpn⟩, hn⟩, hs⟩, hc⟩, hld⟩, hlex⟩ := hB
  have h0 : (l.take p).length = p := by simp; omega
  have h1 : ((l.take n).drop p).length = n - p := by simp; omega
  have h2 : (l.drop n).length = l.length - n := by simp
  have inv0 : HeadInv .any l.toArray n (Array.replicate l.length false) :=
    ⟨by simp, fun j oj _ hl => (by rw [getD_replicate_false] at hl; cases hl), fun t _ ht => getD_in (by simpa using ht) (getD_replicate_false _ _)⟩
  have inv := lead_inv (l.take p) 0 _ (by rw [h0]; omega) hld inv0
  have H := headQ_lex (md := .any) (g := l.length - n) hsel hs hc (by simpa using hn) ((l.take n).drop p) p _ (leadA (l.take p) a) (fun j hj => by
    rw [h1] at hj
    simp [List.getElem?_drop, show p + j < n by omega]) (Nat.le_refl _) (by rw [h1]; omega) inv (by rw [h1]; exact hlex) h
  refine wp_region_any hm ?_
  have := headQ_any (R := Q) (g := l.length - n) (fun s a' w' hw hL => by
    have := wpAny_of_seq (md := .any) (Q' := Q) (l.drop n) n s a' w' (fun j => by simp [List.getElem?_drop]) (by rw [h2]; exact hL.1) (hL.2 w' hw)
    rwa [h2] at this) _ _ _ _ hC H
  rw [h1] at this
  have := lead_first (R := Q) hsel hR (l.take p) 0 (Array.replicate l.length false) a _ _ (fun j hj => by rw [h0] at hj; simp [hj]) hld this
  rw [h0] at this
  have e : p + (n - p + (l.length - n)) = l.toArray.size := by simp; omega
  rw [e] at this
  simpa using this

/-- The same, with what follows behind a variable: the operations of the tail do not panic. -/
theorem wp_region_below_tail {id : Nat} {Q : Exit → Act → World → Prop} {a : Act} {w : World} {l : List Oper} (p n : Nat) (hm : P.follows .mixedOrders = true) (hB : tailB l p n = true)
    (h : ∀ R : Exit → Act → World → Prop, (∀ a w, Q .normal a w → R .normal a w) →
      wpQuiet P l.toArray (fun w' => ∃ p : Regrown, w' = grow (redrawn w p.d) p.os) (fun a' => ∀ w', (∃ p : Regrown, w' = grow (redrawn w p.d) p.os) → wpList P l.toArray R (l.drop n) a' w') ((l.take n).drop p) (leadA (l.take p) a)) : (Code.region id l.toArray true).wp P Q a w := by
  have := wp_region_lead_tail (Q := fun e a w => e = .normal ∧ Q .normal a w) (id := id) (C := fun w' => ∃ p : Regrown, w' = grow (redrawn w p.d) p.os) p n hm hB (fun c a b w h => by cases h.1) ⟨⟨w.drawn + 1, #[]⟩, by rw [grow_empty]; rfl⟩ (h _ (fun a w h => ⟨rfl, h⟩))
  exact Code.wp_mono (fun e a w ⟨he, hq⟩ => by rw [he]; exact hq) this
end
end Go.Proofs.YtnhacghjoikgpaaGreatDoor

/- What is known of a way of making without an error: its folds, its sheets, its leaves. -/
namespace Go.Proofs.YtnhacghjoikgpaaGreatDoor
set_option linter.unusedSimpArgs false
set_option linter.unusedVariables false
open Go Go.RowKit Go.Sort Go.BigFrame

theorem count_max : ∀ f ∈ allFolds, ∀ n ∈ [1, 2, 3, 4], 1 ≤ colsF f * rowsF f * n ∧ colsF f * rowsF f * n ≤ 64 := by decide +kernel
theorem count_half : ∀ f ∈ allFolds, 2 ≤ f.length → 2 ≤ colsF f * rowsF f ∧ colsF f * rowsF f ≤ 64 := by decide +kernel
structure Fine (p : Prs) (m : Mkw) (f : Fmt) : Prop where
  len1 : 1 ≤ f.folds.length
  len4 : f.folds.length ≤ 4
  back : bytesF (fdsB f.folds) = f.folds
  sh1 : 1 ≤ m.sheets.toNat
  sh4 : m.sheets.toNat ≤ 4
  half : m.half = true → m.sheets.toNat = 1 ∧ 2 ≤ f.folds.length
theorem fine_at {p : Prs} {m : Mkw} (he : errP p = 0) (hm : mkwErr p m = 0) : 0 ≤ m.fmt ∧ m.fmt.toNat < p.fmts.length ∧ 0 ≤ m.ppr ∧ m.ppr.toNat < p.pprs.length := by
  unfold mkwErr at hm
  split at hm
  · cases hm
  · rename_i h1
    have h1 : (inI 0 (p.fmts.length - 1) m.fmt && inI 0 (p.pprs.length - 1) m.ppr) = true := by simpa using h1
    simp only [inI, Bool.and_eq_true, decide_eq_true_eq] at h1
    omega
theorem fine_of {p : Prs} {m : Mkw} {f : Fmt} (he : errP p = 0) (hm : mkwErr p m = 0) (hf : p.fmts[m.fmt.toNat]? = some f) : Fine p m f := by
  obtain ⟨-, -, ⟨h5, h6⟩, hff⟩ := fine_press he
  obtain ⟨l1, l2, l3⟩ := fds_of_err (hff f (List.mem_of_getElem? hf))
  unfold mkwErr at hm
  split at hm
  · cases hm
  · split at hm
    · cases hm
    · rename_i h2
      split at hm
      · cases hm
      · rename_i h3
        have h2 : inI 1 p.sheets m.sheets = true := by simpa using h2
        simp only [inI, Bool.and_eq_true, decide_eq_true_eq] at h2
        refine ⟨l1, l2, bytes_back l3, by omega, by omega, fun hh => ?_⟩
        have hs : m.sheets = 1 := Classical.byContradiction fun h => h3 ⟨hh, Or.inl h⟩
        refine ⟨by omega, ?_⟩
        have : ¬ f.folds.length = 1 := fun h => h3 ⟨hh, Or.inr fun f' hf' => by rw [hf] at hf'; cases hf'; exact h⟩
        omega
/-- The leaves of a way of making. -/
abbrev leavesW (m : Mkw) (f : Fmt) : List Fl := leavesF (fdsB f.folds) m.sheets.toNat m.half
theorem Fine.mem {p : Prs} {m : Mkw} {f : Fmt} (h : Fine p m f) : fdsB f.folds ∈ allFolds ∧ m.sheets.toNat ∈ [1, 2, 3, 4] := by
  have h1 := h.sh1
  have h2 := h.sh4
  refine ⟨allFolds_mem (by unfold fdsB; simpa using h.len1) (by unfold fdsB; simpa using h.len4), ?_⟩
  simp
  omega
theorem Fine.two {p : Prs} {m : Mkw} {f : Fmt} (h : Fine p m f) (hh : m.half = true) : m.sheets.toNat = 1 ∧ 2 ≤ (fdsB f.folds).length := by
  have := h.half hh
  exact ⟨this.1, by unfold fdsB; simpa using this.2⟩
theorem Fine.count {p : Prs} {m : Mkw} {f : Fmt} (h : Fine p m f) : 1 ≤ (leavesW m f).length ∧ (leavesW m f).length ≤ 64 := by
  obtain ⟨h1, h2⟩ := h.mem
  unfold leavesW
  cases hh : m.half with
  | false =>
    rw [leaves_count _ h1 _ h2]
    exact count_max _ h1 _ h2
  | true =>
    obtain ⟨h3, h4⟩ := h.two hh
    rw [h3]
    have a := leaves_count_half _ h1 h4
    have b := count_half _ h1 h4
    omega
theorem Fine.conj {p : Prs} {m : Mkw} {f : Fmt} (h : Fine p m f) : conjB (fdsB f.folds) (leavesW m f) = true := by
  obtain ⟨h1, h2⟩ := h.mem
  unfold leavesW
  cases hh : m.half with
  | false => exact conj_all _ h1 _ h2
  | true =>
    obtain ⟨h3, h4⟩ := h.two hh
    rw [h3]
    exact conj_half _ h1 h4
theorem Fine.places {p : Prs} {m : Mkw} {f : Fmt} (h : Fine p m f) : placesB (leavesW m f) = true := by
  obtain ⟨h1, h2⟩ := h.mem
  unfold leavesW
  cases hh : m.half with
  | false => exact places_all _ h1 _ h2
  | true =>
    obtain ⟨h3, h4⟩ := h.two hh
    rw [h3]
    exact places_half _ h1 h4
theorem Fine.same {p : Prs} {m : Mkw} {f : Fmt} (h : Fine p m f) : leavesW m f = allR (fdsB f.folds) m.sheets.toNat m.half :=
  leaves_is (by unfold fdsB; simpa using h.len1) (by unfold fdsB; simpa using h.len4) h.sh1 h.sh4 (fun hh => h.two hh)
/-- The conjugate of a leaf: another one of its sheet. -/
theorem conj_is {f : Fds} {l : List Fl} (h : conjB f l = true) {i : Nat} (hi : i < l.length) : ∃ a b, l[i]? = some a ∧ l[l.length - 1 - i]? = some b ∧ a.sheet = b.sheet ∧ (if lastF f then a.row = b.row ∧ (a.col = b.col + 1 ∨ b.col = a.col + 1) else a.col = b.col ∧ (a.row = b.row + 1 ∨ b.row = a.row + 1)) ∧ a.turned = b.turned ∧ a.inner ≠ b.inner := by
  have h1 := List.all_eq_true.1 h i (List.mem_range.2 hi)
  obtain ⟨a, ha⟩ : ∃ a, l[i]? = some a := ⟨_, List.getElem?_eq_getElem hi⟩
  obtain ⟨b, hb⟩ : ∃ b, l[l.length - 1 - i]? = some b := ⟨_, List.getElem?_eq_getElem (by omega)⟩
  rw [ha, hb] at h1
  refine ⟨a, b, ha, hb, ?_⟩
  cases hl : lastF f <;> simp [hl] at h1 ⊢ <;> obtain ⟨⟨⟨x1, x2⟩, x3⟩, x4⟩ := h1 <;> refine ⟨x1, ?_, x3, x4⟩ <;> simpa using x2
theorem conj_mate {f : Fds} {l : List Fl} (h : conjB f l = true) {i : Nat} (hi : i < l.length) : l.length - 1 - i ∈ matesF l i := by
  obtain ⟨a, b, ha, hb, h1, -, -, h4⟩ := conj_is h hi
  unfold matesF
  refine List.mem_filter.2 ⟨List.mem_range.2 (by omega), ?_⟩
  rw [ha, hb]
  have : b ≠ a := fun e => h4 (by rw [e])
  simp [h1, this]
/-- The last byte of folds. -/
theorem last_byte {s : Bs} (h : bytesF (fdsB s) = s) {M : Nat} (hM : s.length = M + 1) : s[M]? = some (if lastF (fdsB s) then 120 else 121) := by
  have e : lastF (fdsB s) = ((fdsB s)[M]?).getD false := by
    unfold lastF
    rw [List.getLastD_eq_getLast?, List.getLast?_eq_getElem?]
    have : (fdsB s).length = M + 1 := by unfold fdsB; simpa using hM
    rw [this]; rfl
  conv => lhs; rw [← h]
  unfold bytesF
  rw [List.getElem?_map]
  obtain ⟨b, hb⟩ : ∃ b, (fdsB s)[M]? = some b := ⟨_, List.getElem?_eq_getElem (by unfold fdsB; simp; omega)⟩
  rw [hb] at e ⊢
  simp only [Option.getD_some] at e
  rw [e]
  rfl
end Go.Proofs.YtnhacghjoikgpaaGreatDoor

/- What is known of the mates of leaves: how many they are, and which. -/
namespace Go.Proofs.YtnhacghjoikgpaaGreatDoor
set_option linter.unusedSimpArgs false
set_option linter.unusedVariables false
open Go Go.RowKit Go.Sort Go.BigFrame

theorem cols_rows : ∀ f ∈ allFolds, colsF f * rowsF f = 2 ^ f.length := by decide +kernel
def eachB (l : List Fl) (s : Nat) : Bool := (List.range l.length).all fun i => (matesF l i).length + 1 == s
set_option maxRecDepth 100000 in
theorem each_all : ∀ f ∈ allFolds, ∀ n ∈ [1, 2, 3, 4], eachB (leavesF f n false) (2 ^ f.length) = true := by decide +kernel
theorem each_half : ∀ f ∈ allFolds, 2 ≤ f.length → eachB (leavesF f 1 true) (2 ^ (f.length - 1)) = true := by decide +kernel
/-- The leaves of one sheet. -/
def sizeW (m : Mkw) (f : Fmt) : Nat := if m.half then 2 ^ (f.folds.length - 1) else 2 ^ f.folds.length
theorem fds_len (f : Fmt) : (fdsB f.folds).length = f.folds.length := by unfold fdsB; simp
theorem Fine.size {p : Prs} {m : Mkw} {f : Fmt} (h : Fine p m f) : (leavesW m f).length = sizeW m f * m.sheets.toNat := by
  obtain ⟨h1, h2⟩ := h.mem
  have hc := cols_rows _ h1
  rw [fds_len] at hc
  unfold leavesW sizeW
  cases hh : m.half with
  | false =>
    rw [leaves_count _ h1 _ h2, hc]
    rfl
  | true =>
    obtain ⟨h3, h4⟩ := h.two hh
    rw [h3, if_pos rfl]
    have := leaves_count_half _ h1 h4
    rw [hc] at this
    rw [fds_len] at h4
    obtain ⟨k, hk⟩ : ∃ k, f.folds.length = k + 1 := ⟨f.folds.length - 1, by omega⟩
    rw [hk, Nat.pow_succ] at this
    rw [hk, Nat.add_sub_cancel]
    omega
theorem Fine.each {p : Prs} {m : Mkw} {f : Fmt} (h : Fine p m f) {i : Nat} (hi : i < (leavesW m f).length) : (matesF (leavesW m f) i).length + 1 = sizeW m f := by
  obtain ⟨h1, h2⟩ := h.mem
  have key : eachB (leavesW m f) (sizeW m f) = true := by
    unfold leavesW sizeW
    rw [← fds_len]
    cases hh : m.half with
    | false => exact each_all _ h1 _ h2
    | true =>
      obtain ⟨h3, h4⟩ := h.two hh
      rw [h3]
      exact each_half _ h1 h4
  have := List.all_eq_true.1 key i (List.mem_range.2 hi)
  simpa using this
theorem Fine.sheet {p : Prs} {m : Mkw} {f : Fmt} (h : Fine p m f) {i : Nat} {a : Fl} (hi : (leavesW m f)[i]? = some a) : a.sheet < m.sheets.toNat := by
  obtain ⟨h1, h2⟩ := h.mem
  have hm := List.mem_of_getElem? hi
  revert hm
  unfold leavesW
  cases hh : m.half with
  | false =>
    intro hm
    have := List.all_eq_true.1 (inside_all _ h1 _ h2) _ hm
    simp only [Bool.and_eq_true, decide_eq_true_eq] at this
    exact this.2
  | true =>
    obtain ⟨h3, h4⟩ := h.two hh
    rw [h3]
    intro hm
    have := List.all_eq_true.1 (inside_half _ h1 h4) _ hm
    simp only [Bool.and_eq_true, decide_eq_true_eq] at this
    exact this.2
theorem place_ne {l : List Fl} (h : placesB l = true) {i k : Nat} {a b : Fl} (hik : k < i) (ha : l[i]? = some a) (hb : l[k]? = some b) : ¬ (a.sheet = b.sheet ∧ a.col = b.col ∧ a.row = b.row) := by
  have h1 := List.all_eq_true.1 h i (List.mem_range.2 (List.getElem?_eq_some_iff.1 ha).1)
  have h2 := List.all_eq_true.1 h1 k (List.mem_range.2 hik)
  rw [ha, hb] at h2
  rintro ⟨e1, e2, e3⟩
  simp [e1, e2, e3] at h2
theorem mem_mates {l : List Fl} (h : placesB l = true) {i k : Nat} {a b : Fl} (ha : l[i]? = some a) (hb : l[k]? = some b) : k ∈ matesF l i ↔ k ≠ i ∧ b.sheet = a.sheet := by
  rw [mates_same h]
  unfold matesR
  rw [List.mem_filter, List.mem_range, ha, hb]
  have := (List.getElem?_eq_some_iff.1 hb).1
  simp [this]
theorem mates_lt {l : List Fl} {i k : Nat} (h : k ∈ matesF l i) : k < l.length := by
  unfold matesF at h
  exact List.mem_range.1 (List.mem_filter.1 h).1
theorem mates_up {l : List Fl} {i x y z : Nat} (h1 : (matesF l i)[x]? = some y) (h2 : (matesF l i)[x + 1]? = some z) : y < z := by
  have hp : (matesF l i).Pairwise (· < ·) := by unfold matesF; exact List.Pairwise.filter _ List.pairwise_lt_range
  obtain ⟨k1, e1⟩ := List.getElem?_eq_some_iff.1 h1
  obtain ⟨k2, e2⟩ := List.getElem?_eq_some_iff.1 h2
  have := List.pairwise_iff_getElem.1 hp x (x + 1) k1 k2 (by omega)
  rwa [e1, e2] at this
/-- Leaves have the same mates, or none in common. -/
theorem mates_sym {l : List Fl} (h : placesB l = true) {i k : Nat} {a b : Fl} (ha : l[i]? = some a) (hb : l[k]? = some b) (hne : i ≠ k) : decide (i ∈ matesF l k) = decide (k ∈ matesF l i) ∧ decide (k ∈ matesF l i) = decide (a.sheet = b.sheet) := by
  have e1 : (i ∈ matesF l k) ↔ a.sheet = b.sheet := (mem_mates h hb ha).trans ⟨fun x => x.2, fun x => ⟨hne, x⟩⟩
  have e2 : (k ∈ matesF l i) ↔ a.sheet = b.sheet := (mem_mates h ha hb).trans ⟨fun x => x.2.symm, fun x => ⟨fun e => hne e.symm, x.symm⟩⟩
  exact ⟨decide_eq_decide.2 (e1.trans e2.symm), decide_eq_decide.2 e2⟩
theorem mates_own {l : List Fl} (h : placesB l = true) {i : Nat} {a : Fl} (ha : l[i]? = some a) : decide (i ∈ matesF l i) = false :=
  decide_eq_false fun x => ((mem_mates h ha ha).1 x).1 rfl
theorem mates_of {l : List Fl} (h : placesB l = true) {i k y : Nat} {a b : Fl} (ha : l[i]? = some a) (hb : l[k]? = some b) (hy : y ∈ matesF l i) : ∃ c, l[y]? = some c ∧ c.sheet = a.sheet ∧ (y ≠ k → decide (y ∈ matesF l k) = decide (a.sheet = b.sheet)) := by
  obtain ⟨c, hc⟩ : ∃ c, l[y]? = some c := ⟨_, List.getElem?_eq_getElem (mates_lt hy)⟩
  have h1 := (mem_mates h ha hc).1 hy
  refine ⟨c, hc, h1.2, fun hn => decide_eq_decide.2 ?_⟩
  refine (mem_mates h hb hc).trans ?_
  rw [h1.2]
  exact ⟨fun x => x.2, fun x => ⟨hn, x⟩⟩
end Go.Proofs.YtnhacghjoikgpaaGreatDoor
