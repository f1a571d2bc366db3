/- The parts Ab, Na, Gt, Cr of the proof, joined. It holds without conditions of its own. -/
import Derived.Test.YtimdmgkegdlafaaGreatDoorCH32
import Derived.Test.YtimdmgkegdlafaaGreatDoorCH24
import Derived.Test.YtimdmgkegdlafaaGreatDoorCH33
import Derived.Test.YtimdmgkegdlafaaGreatDoorCH37
import Derived.Test.YtimdmgkegdlafaaGreatDoorCH12
import Derived.Test.YtimdmgkegdlafaaGreatDoorCH13
import Derived.Test.YtimdmgkegdlafaaGreatDoorCH17
import Derived.Test.YtimdmgkegdlafaaGreatDoorCH31
import Derived.Lib.QuietBelow
import Derived.StillTail
import Derived.StillTailTactics
import Derived.BigRegion
import Derived.Test.YtimdmgkegdlafaaGreatDoorProg
/- What the functions answer for the book of the examples. -/
namespace Go.Proofs.YtimdmgkegdlafaaGreatDoor
set_option linter.unusedSimpArgs false
set_option linter.unusedVariables false
open Go Go.RowKit

/-- The formula of the examples' book. -/
def exText : Bs := [112, 105, 50, 32, 65, 45, 67, 56, 32, 68, 56, 40, 45, 51, 44, 61, 53, 44, 56, 43, 49, 41, 32, 99, 104, 105, 49, 32, 36, 52]

theorem ex_err0 : errF (exBook 0) = 0 := by kernel_rfl
theorem ex_err1 : errF (exBook 1) = 0 := by kernel_rfl
theorem ex_write : writeF (exBook 0) = exText := by kernel_rfl
theorem ex_read : readF exText = (exBook 0, 0) := by kernel_rfl
theorem ex_leaf : leafTR (exBook 0) (getL (lvs (exBook 0)) 28) = .tuple #[S [68, 52], .int .i64 0] := by kernel_rfl
theorem ex_find : findR (exBook 0) [68, 56, 43, 49] = .tuple #[.int .i64 33, .int .i64 0] := by kernel_rfl
theorem ex_lost : findR (exBook 0) [68, 51] = .tuple #[.int .i64 0, .int .i64 4] := by kernel_rfl
theorem ex_mate : mateR (mateF (exBook 0) 32) = .tuple #[.int .i64 26, .int .i64 0] := by kernel_rfl
theorem ex_single : mateR (mateF (exBook 0) 34) = .tuple #[.int .i64 0, .int .i64 4] := by kernel_rfl
theorem ex_signs : signsF (exBook 0) = [2, 3, 4, 5, 10, 11, 12, 13, 18, 19, 20, 21, 26, 27, 28] := by kernel_rfl
theorem ex_differ : differR (diffAt 0 (namesF (exBook 0)) (namesF (exBook 1))) = .tuple #[.int .i64 33, .int .i64 0] := by kernel_rfl
theorem ex_name : nameB [97, 46, 57] = true := by kernel_rfl
theorem ex_noname : nameB [57, 97] = false := by kernel_rfl

end Go.Proofs.YtimdmgkegdlafaaGreatDoor

/- Where a word is first in a list of words, as the law's helper finds it. -/
namespace Go.Proofs.YtimdmgkegdlafaaGreatDoor
set_option linter.unusedSimpArgs false
set_option linter.unusedVariables false
open Go Go.RowKit Go.Sort Go.BigFrame Go.Shelf
attribute [local go_sem] Oper.semAt_some putAll

/-- The first place of a word. -/
def placeN (y : Bs) : List Bs → Nat → Option Nat
  | [], _ => none
  | x :: xs, i => if x = y then some i else placeN y xs (i + 1)
def placeF (xs : List Bs) (y : Bs) : Int := match placeN y xs 0 with
  | some i => i
  | none => -1
theorem placeN_found (y : Bs) : ∀ (xs : List Bs) (k i : Nat), xs[i]? = some y → (∀ j, j < i → xs[j]? ≠ some y) → placeN y xs k = some (k + i)
  | [], k, i, h, _ => by simp at h
  | x :: xs, k, 0, h, _ => by
    have : x = y := by simpa using h
    simp [placeN, this]
  | x :: xs, k, i + 1, h, hj => by
    have h0 : x ≠ y := by simpa using hj 0 (by omega)
    rw [placeN, if_neg h0, placeN_found y xs (k + 1) i (by simpa using h) fun j hl => by simpa using hj (j + 1) (by omega)]
    congr 1; omega
theorem placeN_none (y : Bs) : ∀ (xs : List Bs) (k : Nat), (∀ j : Nat, xs[j]? ≠ some y) → placeN y xs k = none
  | [], _, _ => rfl
  | x :: xs, k, h => by
    have h0 : x ≠ y := by simpa using h 0
    rw [placeN, if_neg h0]
    exact placeN_none y xs (k + 1) fun j => by simpa using h (j + 1)
theorem place_found {xs : List Bs} {y : Bs} {i : Nat} (h : xs[i]? = some y) (hj : ∀ j, j < i → xs[j]? ≠ some y) : placeF xs y = i := by
  unfold placeF; rw [placeN_found y xs 0 i h hj]; simp
theorem place_none {xs : List Bs} {y : Bs} (h : ∀ j : Nat, xs[j]? ≠ some y) : placeF xs y = -1 := by
  unfold placeF; rw [placeN_none y xs 0 h]

/-- A slice of strings. -/
def StrsAt (W : World) (v : Value) (xs : List Bs) : Prop :=
  ∃ (a : Option Addr) (cap : Nat), v = .slice a xs.length cap ∧ (xs ≠ [] → ∃ g, a = some ⟨g, 0, none⟩ ∧ g < W.heap.size ∧ ∀ i x, xs[i]? = some x → W.cell? ⟨g, i, none⟩ = some (S x))
theorem StrsAt.later {W W' : World} {v : Value} {xs : List Bs} (h : StrsAt W v xs) (hb : Below W.heap.size W W') : StrsAt W' v xs := by
  obtain ⟨a, cap, rfl, h⟩ := h
  refine ⟨a, cap, rfl, fun hne => ?_⟩
  obtain ⟨g, rfl, hg, hc⟩ := h hne
  exact ⟨g, rfl, Nat.lt_of_lt_of_le hg hb.size, fun i x hx => (hb.cell (p := ⟨g, i, none⟩) hg).trans (hc i x hx)⟩

end Go.Proofs.YtimdmgkegdlafaaGreatDoor

/- A region that draws its order: its first operations only read, or call what makes blocks of its own; the others come behind them, one after the other. One walk serves all orders. -/
namespace Go.Proofs.YtimdmgkegdlafaaGreatDoor
set_option linter.unusedSimpArgs false
set_option linter.unusedVariables false
open Go Go.RowKit Go.Sort

section
variable {P : Program} {ops : Array Oper} {md : Region.Mode} {C : World → Prop}

/-- The head's operations in whatever order: each that may come up is of the head, and quiet; L is what holds behind them. -/
def HeadQ (P : Program) (md : Region.Mode) (ops : Array Oper) (C : World → Prop) (n : Nat) (L : Array Bool → Act → Prop) : Nat → Array Bool → Act → Prop
  | 0, s, a => L s a
  | f + 1, s, a => (∃ i, i ∈ Region.ready md ops s) ∧ ∀ i ∈ Region.ready md ops s, i < n ∧ qOp P ops C i (HeadQ P md ops C n L f (s.setIfInBounds i true)) a

theorem headQ_any {n g : Nat} {L : Array Bool → Act → Prop} {R : Exit → Act → World → Prop} (hL : ∀ s a w, C w → L s a → wpAny P md ops R g s a w) :
    ∀ (f : Nat) (s : Array Bool) (a : Act) (w : World), C w → HeadQ P md ops C n L f s a → wpAny P md ops R (f + g) s a w := by
  intro f
  induction f with
  | zero => intro s a w hw h; simpa using hL s a w hw h
  | succ f ih =>
    intro s a w hw h
    have e : f + 1 + g = (f + g) + 1 := by omega
    rw [e]
    obtain ⟨⟨i0, h0⟩, h⟩ := h
    refine ⟨fun hn => ?_, fun i hi => wpOp_of_qOp hw (fun a' w' hw' hq => ih _ a' w' hw' hq) (h i hi).2⟩
    rw [hn] at h0
    cases h0

theorem unlisted_on {s : Array Bool} {i : Nat} (h1 : s.getD i true = false) (h2 : s.getD i false = true) : False := by
  rw [getD_both h1] at h2
  cases h2

/-- Each operation of the head is waited for by one behind it that is no farther than n, unless it is one of the first p. -/
def sinkP (md : Region.Mode) (ops : Array Oper) (p n : Nat) : Bool :=
  (List.range n).all fun i => decide (i < p) || (List.range (n + 1)).any fun j => decide (i < j) && Region.waitsFor md ops j i

theorem waits_on {s : Array Bool} {i j : Nat} (h : Region.waitsFor md ops j i = true) (hj : ∀ oj, ops[j]? = some oj → ∀ e ∈ oj.after, Region.binds md e = true → s.getD e.on false = true) (hi : s.getD i true = false) : False := by
  obtain ⟨oj, hoj, e, he, hb, hon⟩ := Region.waitsFor_spec h
  exact unlisted_on hi (hon ▸ hj oj hoj e he hb)

theorem tail_later {p n : Nat} {s : Array Bool} (hs : sinkP md ops p n = true) (hc : Region.chainB md ops n = true) (hn : n < ops.size) (inv : HeadInv md ops n s) :
    ∀ (d i : Nat), n - i ≤ d → p ≤ i → i < n → s.getD i true = false → ∀ t, n ≤ t → t ∉ Region.ready md ops s := by
  intro d
  induction d with
  | zero => intro i hd _ hi; omega
  | succ d ih =>
    intro i hd hpi hi hun t ht hr
    obtain ⟨_, ot, hot, hall⟩ := mem_ready.1 hr
    have htz : t < ops.size := (Array.getElem?_eq_some_iff.1 hot).1
    have hat : ∀ oj, ops[t]? = some oj → ∀ e ∈ oj.after, Region.binds md e = true → s.getD e.on false = true := fun oj hoj => by
      rw [hot] at hoj
      cases hoj
      exact hall
    rcases Nat.lt_or_ge n t with hlt | hle
    · have h1 := List.all_eq_true.1 hc t (List.mem_range.2 htz)
      simp only [Bool.or_eq_true, decide_eq_true_eq] at h1
      rcases h1 with h1 | h1
      · omega
      · exact waits_on h1 hat (inv.tail (t - 1) (by omega) (by omega))
    · have e : t = n := by omega
      subst e
      have h1 := List.all_eq_true.1 hs i (List.mem_range.2 hi)
      simp only [Bool.or_eq_true, decide_eq_true_eq, List.any_eq_true, List.mem_range, Bool.and_eq_true] at h1
      rcases h1 with h1 | ⟨j, hj, hij, hw⟩
      · omega
      · rcases Nat.lt_or_ge j t with hjt | hjt
        · cases hl : s.getD j false with
          | true => exact waits_on hw (fun oj hoj => inv.closed j oj hoj hl) hun
          | false => exact ih j (by omega) (by omega) hjt (getD_in (by rw [inv.size]; omega) hl) t (Nat.le_refl _) hr
        · have e : j = t := by omega
          subst e
          exact waits_on hw hat hun

theorem headQ_first {p n i : Nat} {o : Oper} {v : Value} {L : Array Bool → Act → Prop} (ho : ops[i]? = some o) (hsel : ∀ (j : Nat) (o : Oper) cs b, ops[j]? = some o → o.op ≠ .select cs b)
    (hs : sinkP md ops p n = true) (hc : Region.chainB md ops n = true) (hn : n < ops.size) (hpi : p ≤ i) (hin : i < n) (hend : ∀ s a, L s a → ∀ j ∈ Region.ready md ops s, n ≤ j) :
    ∀ (f : Nat) (s : Array Bool) (a : Act), HeadInv md ops n s →
      (∀ j oj, ops[j]? = some oj → j ≠ i → s.getD j true = false → (∀ e ∈ oj.after, Region.binds md e = true → e.on ≠ i) → o.apart ops oj = true) →
      i ∈ Region.ready md ops s → YieldsIn P ops C o v a → HeadQ P md ops C n L f (s.setIfInBounds i true) (a.put o.dst v) → HeadQ P md ops C n L (f + 1) s a := by
  intro f
  induction f with
  | zero =>
    intro s a inv _ hi hy H
    refine ⟨⟨i, hi⟩, fun j hj => ?_⟩
    have hjn : j < n := Nat.lt_of_not_le fun hle => tail_later hs hc hn inv _ i (Nat.le_refl _) hpi hin (mem_ready.1 hi).1 j hle hj
    by_cases e : j = i
    · subst e
      exact ⟨hjn, hy.qOp ho H⟩
    · have := hend _ _ H j (ready_mono hj e)
      omega
  | succ f ih =>
    intro s a inv hfree hi hy H
    refine ⟨⟨i, hi⟩, fun j hj => ?_⟩
    have hjn : j < n := Nat.lt_of_not_le fun hle => tail_later hs hc hn inv _ i (Nat.le_refl _) hpi hin (mem_ready.1 hi).1 j hle hj
    refine ⟨hjn, ?_⟩
    by_cases e : j = i
    · subst e
      exact hy.qOp ho H
    · obtain ⟨hun, oj, hoj, hafter⟩ := mem_ready.1 hj
      have hno : ∀ e ∈ oj.after, Region.binds md e = true → e.on ≠ i := fun e he hb q => unlisted_on (mem_ready.1 hi).1 (q ▸ hafter e he hb)
      have hq := qOp_put hoj (hfree j oj hoj e hun hno) (fun cs b => hsel i o cs b ho) (fun cs b => hsel j oj cs b hoj) hy (H.2 j (ready_mono hj e)).2
      refine qOp_mono (fun a' hk => ih _ a' (inv.set hj hjn) (fun k ok hk2 hki hun2 hno2 => hfree k ok hk2 hki ?_ hno2) (ready_mono hi (Ne.symm e)) hk.1 ?_) hq
      · by_cases q : j = k
        · subst q; exact hun
        · rwa [getD_set_ne true q] at hun2
      · rw [Array.setIfInBounds_comm _ _ e]
        exact hk.2

theorem headQ_lex {p n g : Nat} {K : Act → Prop} (hsel : Region.noSelect ops = true) (hs : sinkP md ops p n = true) (hc : Region.chainB md ops n = true) (hn : n < ops.size) :
    ∀ (l : List Oper) (k : Nat) (s : Array Bool) (a : Act), (∀ j, j < l.length → l[j]? = ops[k + j]?) → p ≤ k → k + l.length = n → HeadInv md ops n s →
      Region.lexHead md ops g l.length k s = true → wpQuiet P ops C K l a → HeadQ P md ops C n (fun s' a' => Region.seqB md ops g n s' = true ∧ K a') l.length s a := by
  intro l
  induction l with
  | nil =>
    intro k s a _ _ hk _ hB h
    have e : k = n := by simpa using hk
    subst e
    exact ⟨by simpa [Region.lexHead] using hB, h⟩
  | cons o l ih =>
    intro k s a hl hpk hk inv hB h
    have ho : ops[k]? = some o := by simpa using (hl 0 (by simp)).symm
    simp only [List.length_cons] at hk
    simp only [List.length_cons, Region.lexHead, Bool.and_eq_true] at hB
    obtain ⟨⟨hr, hf⟩, hB⟩ := hB
    have hr : k ∈ Region.ready md ops s := by simpa using hr
    have hq : qOp P ops C k (wpQuiet P ops C K l) a := by
      unfold qOp
      simp only [ho]
      exact h
    obtain ⟨v, hy, hK⟩ := yieldsIn_of_qOp ho hq
    refine headQ_first ho (Region.noSelect_spec hsel) hs hc hn hpk (by omega) (fun _ _ hL => seqB_ready hL.1) l.length s a inv (Region.free_spec ho hf) hr hy
      (ih (k + 1) _ _ (fun j hj => ?_) (by omega) (by omega) (inv.set hr (by omega)) hB hK)
    have := hl (j + 1) (by simp only [List.length_cons]; omega)
    simpa [Nat.add_assoc, Nat.add_comm 1 j] using this

/-- The first operations, which only copy: what they leave. -/
def leadV (o : Oper) (a : Act) : Value := match o.op with
  | .move x => a.eval x
  | _ => undef
def leadA : List Oper → Act → Act
  | [], a => a
  | o :: l, a => leadA l (a.put o.dst (leadV o a))
def leadS : Nat → List Oper → Array Bool → Array Bool
  | _, [], s => s
  | k, _ :: l, s => leadS (k + 1) l (s.setIfInBounds k true)
def isMove (o : Oper) : Bool := o.guard.isNone && match o.op with
  | .move _ => true
  | _ => false
def leadB (md : Region.Mode) (ops : Array Oper) : Nat → List Oper → Array Bool → Bool
  | _, [], _ => true
  | k, o :: l, s => isMove o && (Region.ready md ops s).contains k && Region.free md ops s k && leadB md ops (k + 1) l (s.setIfInBounds k true)

theorem move_yields {o : Oper} {a : Act} (h : isMove o = true) : Yields P ops o (leadV o a) a := by
  unfold isMove at h
  simp only [Bool.and_eq_true, Option.isNone_iff_eq_none] at h
  obtain ⟨hg, hm⟩ := h
  cases ho : o.op <;> simp only [ho] at hm <;> try (cases hm)
  rename_i x
  refine Or.inl ⟨by unfold Region.wanted; rw [hg], fun w => ?_⟩
  unfold leadV
  rw [ho]
  simp [execOp, ho, go_sem]

theorem lead_first {R : Exit → Act → World → Prop} (hsel : Region.noSelect ops = true) (hR : ∀ c a b w, R (.panic c) a w → R (.panic c) b w) :
    ∀ (l : List Oper) (k : Nat) (s : Array Bool) (a : Act) (f : Nat) (w : World), (∀ j, j < l.length → l[j]? = ops[k + j]?) → leadB md ops k l s = true →
      wpAny P md ops R f (leadS k l s) (leadA l a) w → wpAny P md ops R (l.length + f) s a w := by
  intro l
  induction l with
  | nil => intro k s a f w _ _ h; simpa [leadS, leadA] using h
  | cons o l ih =>
    intro k s a f w hl hB h
    have ho : ops[k]? = some o := by simpa using (hl 0 (by simp)).symm
    simp only [leadB, Bool.and_eq_true] at hB
    obtain ⟨⟨⟨hm, hr⟩, hf⟩, hB⟩ := hB
    have e : (o :: l).length + f = (l.length + f) + 1 := by simp only [List.length_cons]; omega
    rw [e]
    refine wpAny_first (v := leadV o a) ho (Region.noSelect_spec hsel) (fun c a w h => hR c _ _ w h) _ s a w (Region.free_spec ho hf) (by simpa using hr) (move_yields hm) ?_
    refine ih (k + 1) _ _ f w (fun j hj => ?_) hB h
    have := hl (j + 1) (by simp only [List.length_cons]; omega)
    simpa [Nat.add_assoc, Nat.add_comm 1 j] using this

theorem lead_inv {n : Nat} : ∀ (l : List Oper) (k : Nat) (s : Array Bool), k + l.length ≤ n → leadB md ops k l s = true → HeadInv md ops n s → HeadInv md ops n (leadS k l s) := by
  intro l
  induction l with
  | nil => intro k s _ _ h; exact h
  | cons o l ih =>
    intro k s hk hB h
    simp only [List.length_cons] at hk
    simp only [leadB, Bool.and_eq_true] at hB
    obtain ⟨⟨⟨_, hr⟩, _⟩, hB⟩ := hB
    exact ih (k + 1) _ (by omega) hB (h.set (by simpa using hr) (by omega))

/-- What is asked of the operations' order: the first p only copy; those up to n only read, or call; the others come one after the other. -/
def tailB (ops : List Oper) (p n : Nat) : Bool :=
  Region.noSelect ops.toArray && decide (p ≤ n) && decide (n < ops.length) && sinkP .any ops.toArray p n && Region.chainB .any ops.toArray n && leadB .any ops.toArray 0 (ops.take p) (Array.replicate ops.length false) &&
    Region.lexHead .any ops.toArray (ops.length - n) (n - p) p (leadS 0 (ops.take p) (Array.replicate ops.length false))

theorem wp_region_lead_tail {id : Nat} {Q : Exit → Act → World → Prop} {a : Act} {w : World} {l : List Oper} (p n : Nat) (hm : P.follows .mixedOrders = true) (hB : tailB l p n = true) (hR : ∀ c a b w, Q (.panic c) a w → Q (.panic c) b w)
    (hC : C { w with drawn := w.drawn + 1 })
    (h : wpQuiet P l.toArray C (fun a' => ∀ w', C w' → wpList P l.toArray Q (l.drop n) a' w') ((l.take n).drop p) (leadA (l.take p) a)) : (Code.region id l.toArray true).wp P Q a w := by
  simp only [tailB, Bool.and_eq_true, decide_eq_true_eq] at hB
  obtain ⟨⟨⟨⟨⟨⟨hsel, hpn⟩, hn⟩, hs⟩, hc⟩, hld⟩, hlex⟩ := hB
  have h0 : (l.take p).length = p := by simp; omega
  have h1 : ((l.take n).drop p).length = n - p := by simp; omega
  have h2 : (l.drop n).length = l.length - n := by simp
  have inv0 : HeadInv .any l.toArray n (Array.replicate l.length false) :=
    ⟨by simp, fun j oj _ hl => (by rw [getD_replicate_false] at hl; cases hl), fun t _ ht => getD_in (by simpa using ht) (getD_replicate_false _ _)⟩
  have inv := lead_inv (l.take p) 0 _ (by rw [h0]; omega) hld inv0
  have H := headQ_lex (md := .any) (g := l.length - n) hsel hs hc (by simpa using hn) ((l.take n).drop p) p _ (leadA (l.take p) a) (fun j hj => by
    rw [h1] at hj
    simp [List.getElem?_drop, show p + j < n by omega]) (Nat.le_refl _) (by rw [h1]; omega) inv (by rw [h1]; exact hlex) h
  refine wp_region_any hm ?_
  have := headQ_any (R := Q) (g := l.length - n) (fun s a' w' hw hL => by
    have := wpAny_of_seq (md := .any) (Q' := Q) (l.drop n) n s a' w' (fun j => by simp [List.getElem?_drop]) (by rw [h2]; exact hL.1) (hL.2 w' hw)
    rwa [h2] at this) _ _ _ _ hC H
  rw [h1] at this
  have := lead_first (R := Q) hsel hR (l.take p) 0 (Array.replicate l.length false) a _ _ (fun j hj => by rw [h0] at hj; simp [hj]) hld this
  rw [h0] at this
  have e : p + (n - p + (l.length - n)) = l.toArray.size := by simp; omega
  rw [e] at this
  simpa using this

/-- The same, with what follows behind a variable: the operations of the tail do not panic. -/
theorem wp_region_below_tail {id : Nat} {Q : Exit → Act → World → Prop} {a : Act} {w : World} {l : List Oper} (p n : Nat) (hm : P.follows .mixedOrders = true) (hB : tailB l p n = true)
    (h : ∀ R : Exit → Act → World → Prop, (∀ a w, Q .normal a w → R .normal a w) →
      wpQuiet P l.toArray (fun w' => ∃ p : Regrown, w' = grow (redrawn w p.d) p.os) (fun a' => ∀ w', (∃ p : Regrown, w' = grow (redrawn w p.d) p.os) → wpList P l.toArray R (l.drop n) a' w') ((l.take n).drop p) (leadA (l.take p) a)) : (Code.region id l.toArray true).wp P Q a w := by
  have := wp_region_lead_tail (Q := fun e a w => e = .normal ∧ Q .normal a w) (id := id) (C := fun w' => ∃ p : Regrown, w' = grow (redrawn w p.d) p.os) p n hm hB (fun c a b w h => by cases h.1) ⟨⟨w.drawn + 1, #[]⟩, by rw [grow_empty]; rfl⟩ (h _ (fun a w h => ⟨rfl, h⟩))
  exact Code.wp_mono (fun e a w ⟨he, hq⟩ => by rw [he]; exact hq) this
end
end Go.Proofs.YtimdmgkegdlafaaGreatDoor

/- The reference's Names. -/
namespace Go.Proofs.YtimdmgkegdlafaaGreatDoor
set_option linter.unusedSimpArgs false
set_option linter.unusedVariables false
open Go Go.RowKit Go.Sort Go.BigFrame Go.Shelf
attribute [local go_sem] Oper.semAt_some putAll

/-- How all leaves of a book are written. -/
def textsF (b : Bk) : List Bs := (lvs b).map (lfText b)
theorem strs_of_row {W : World} {base : Nat} {v : Value} {e : TypeId} {xs : List Bs} (h : W.ownsRow base e 1 v xs.length (xs.map S)) : StrsAt W v xs := by
  rcases h.2 with ⟨rfl, h0⟩ | ⟨g, cap, cur, rfl, hb, hg, rest⟩
  · exact ⟨none, 0, by rw [h0], fun hne => absurd (List.length_eq_zero_iff.1 h0) hne⟩
  · refine ⟨_, cap, rfl, fun _ => ⟨g, rfl, blk_lt hg, fun i x hx => ?_⟩⟩
    have hc := h.cells (g := g) (by simp [Value.ownBlock])
    have := hc i (S x) (by rw [List.getElem?_map, hx]; rfl)
    rwa [add_off] at this
/-- Growing a row of one's own leaves all that was there before it. -/
theorem below_row {W W' : World} {base : Nat} {v : Value} {e : TypeId} {s n : Nat} {xs : List Value} (h : W.ownsRow base e s v n xs) (hz : base ≤ W.heap.size) (hg : W.grownBy W' v.ownBlock) : Below base W W' :=
  ((Below.refl _ W).mono hz).grown hg hz (fun k hk => (h.lt k hk).1)

end Go.Proofs.YtimdmgkegdlafaaGreatDoor
