/- The parts Rf, Rg, Db, Dc, Da2, Ea, Ra, Rb, Rt, Ia, Ib, Ic, Id, Kfo, Kfk, Vz, Fa of the proof, joined. It holds without conditions of its own. -/
import Derived.RangeFuncCalls
import Derived.RangeFuncBound
import Derived.RangeFuncLeaves
import Derived.RangeFuncRecord
import Derived.Below
import Derived.Test.YtnhacghjoikgpaaGreatDoorFY3
import Derived.Lib.OthersKept
import Derived.WalkSmall
import Derived.Laws.RangeAny
import Derived.Maps.Keyed
import Derived.DeepKeys4
import Derived.StringKeys
import Derived.SizedLaws
/- A statement that ranges over a function, for iterators that keep state of their own in memory: the iterator owns a set X of blocks that the rounds leave alone; the caller owns the blocks that Ow names. For any program, at the wide fence. -/
namespace Go.Proofs.YtnhacghjoikgpaaGreatDoor
set_option linter.unusedSimpArgs false
set_option linter.unusedVariables false
open Go Go.RowKit

/-- From W to W' no block of W turns but those in X. -/
structure OnlyIn (X : Nat → Prop) (W W' : World) : Prop where
  os : W'.os = W.os
  tape : W'.tape = W.tape
  output : W'.output = W.output
  size : W.heap.size ≤ W'.heap.size
  block : ∀ k, k < W.heap.size → ¬ X k → W'.heap[k]? = W.heap[k]?

theorem OnlyIn.refl (X : Nat → Prop) (W : World) : OnlyIn X W W := ⟨rfl, rfl, rfl, Nat.le_refl _, fun _ _ _ => rfl⟩
theorem OnlyIn.trans {X : Nat → Prop} {A B C : World} (h : OnlyIn X A B) (k : OnlyIn X B C) : OnlyIn X A C :=
  ⟨k.os.trans h.os, k.tape.trans h.tape, k.output.trans h.output, Nat.le_trans h.size k.size, fun i hi hx => (k.block i (Nat.lt_of_lt_of_le hi h.size) hx).trans (h.block i hi hx)⟩
theorem OnlyIn.mono {X Y : Nat → Prop} {A B : World} (h : OnlyIn X A B) (hxy : ∀ k, X k → Y k) : OnlyIn Y A B :=
  ⟨h.os, h.tape, h.output, h.size, fun i hi hy => h.block i hi (fun hx => hy (hxy i hx))⟩
theorem OnlyIn.alloc (X : Nat → Prop) (W : World) (o : Obj) : OnlyIn X W (W.alloc o) :=
  ⟨rfl, rfl, rfl, by simp, fun k hk _ => Below.heap_alloc W o k hk⟩
theorem OnlyIn.setCell {X : Nat → Prop} (W : World) (p : Addr) (v : Value) (hp : X p.block) : OnlyIn X W (W.setCell p v) :=
  ⟨rfl, rfl, rfl, by simp [World.setCell], fun k _ hx => Below.heap_setCell W p v k (fun e => hx (e ▸ hp))⟩
theorem OnlyIn.putObj {X : Nat → Prop} (W : World) (l : Nat) (o : Obj) (hl : X l) : OnlyIn X W (W.putObj l o) :=
  ⟨rfl, rfl, rfl, by simp, fun _ _ hx => World.putObj_heap_other (fun e => hx (e ▸ hl))⟩
theorem OnlyIn.drew (X : Nat → Prop) (W : World) : OnlyIn X W W.drew := ⟨rfl, rfl, rfl, Nat.le_refl _, fun _ _ _ => rfl⟩
/-- What a call that leaves all that was there does. -/
theorem OnlyIn.of_below {X : Nat → Prop} {W W' : World} (h : Below W.heap.size W W') : OnlyIn X W W' :=
  ⟨h.os, h.tape, h.output, h.size, fun k hk _ => h.block k hk⟩
theorem OnlyIn.below {X : Nat → Prop} {B : Nat} {A W W' : World} (h : OnlyIn X W W') (hb : Below B A W) (hB : B ≤ W.heap.size) (hx : ∀ k, X k → B ≤ k) : Below B A W' :=
  hb.trans ⟨h.os, h.tape, h.output, h.size, fun k hk => h.block k (Nat.lt_of_lt_of_le hk hB) (fun hxk => by have := hx k hxk; omega)⟩

/-- The invariant allows whatever the iterator does: it turns blocks of its own and lays new ones. -/
def Abide {α : Type} (J : List α → (Nat → Prop) → World → Prop) : Prop :=
  ∀ pre (X X' : Nat → Prop) W W', J pre X W → OnlyIn X W W' → (∀ k, X' k → X k ∨ (W.heap.size ≤ k ∧ k < W'.heap.size)) → J pre X' W'

/-- What a round leaves as it was: the data that the iterator reads, and its own blocks. -/
def Kept (Pr X : Nat → Prop) (W W' : World) : Prop := W.heap.size ≤ W'.heap.size ∧ ∀ k, k < W.heap.size → (Pr k ∨ X k) → W'.heap[k]? = W.heap[k]?

/-- THE ITERATOR's CONTRACT: it yields xs, one after the other, or stops when a round says so. -/
def ItC {α : Type} (P : Program) (gf : Nat) (lb : Array Value) (encs : α → Array Value) (xs : List α) (Pr : Nat → Prop) (w₀ : World) : Prop :=
  ∀ (l : Nat) (J Jx : List α → (Nat → Prop) → World → Prop) (W : World), w₀.heap.size ≤ W.heap.size → (∀ k, Pr k → W.heap[k]? = w₀.heap[k]?) → Abide J → Abide Jx →
    (∀ pre x rest X W1, xs = pre ++ x :: rest → J pre X W1 → YieldAt Fence.wide 9 P l (encs x) W1 fun e W' =>
      (e = .returned (.bool true) ∧ J (pre ++ [x]) X W' ∧ Kept Pr X W1 W') ∨ (e = .returned (.bool false) ∧ Jx (pre ++ [x]) X W' ∧ Kept Pr X W1 W')) →
    J [] (fun _ => False) W →
    Calls P gf (#[.func (.yield l) #[] #[]] ++ lb) W fun e W' => (∃ v, e = .returned v) ∧ ((∃ X, J xs X W') ∨ (∃ pre X, Jx pre X W'))

/-- What a round of the caller's does to the world. -/
structure Turn (hs : Nat) (Pr : Nat → Prop) (Ow : World → Nat → Prop) (W W' : World) : Prop where
  size : W.heap.size ≤ W'.heap.size
  prot : ∀ k, Pr k → W'.heap[k]? = W.heap[k]?
  keeps : ∀ k, hs ≤ k → k < W.heap.size → ¬ Ow W k → W'.heap[k]? = W.heap[k]?
  owns : ∀ k, k < W.heap.size → Ow W' k → Ow W k

theorem Turn.trans {hs : Nat} {Pr : Nat → Prop} {Ow : World → Nat → Prop} {A B C : World} (h : Turn hs Pr Ow A B) (k : Turn hs Pr Ow B C) : Turn hs Pr Ow A C :=
  ⟨Nat.le_trans h.size k.size, fun i hi => (k.prot i hi).trans (h.prot i hi),
   fun i hs' hi ho => (k.keeps i hs' (Nat.lt_of_lt_of_le hi h.size) (fun hb => ho (h.owns i hi hb))).trans (h.keeps i hs' hi ho),
   fun i hi ho => h.owns i hi (k.owns i (Nat.lt_of_lt_of_le hi h.size) ho)⟩

def rfPost {α : Type} (hs : Nat) (Pr : Nat → Prop) (Ow : World → Nat → Prop) (I : List α → World → Prop) (Ix : Code → List α → World → Prop) (xs : List α) (W : World) : Exit → Act → World → Prop
  | .normal, _, W' => Turn hs Pr Ow W W' ∧ I xs W'
  | .ret, _, W' => Turn hs Pr Ow W W' ∧ Ix .ret xs W'
  | .exit id, _, W' => Turn hs Pr Ow W W' ∧ Ix (.exit id) xs W'
  | .goto t, _, W' => Turn hs Pr Ow W W' ∧ Ix (.goto t) xs W'
  | .panic _, _, _ => False
  | .outgrown, _, _ => False

theorem loop_not_cells {W : World} {l : Nat} {r : Loop} (h : W.heap[l]? = some (.loop r)) : ¬ ∃ c t f, W.heap[l]? = some (.cells c t f) := by
  rintro ⟨c, t, f, e⟩; rw [h] at e; cases e

/-- THE STATEMENT. -/
theorem rf_law {P : Program} {n : Nat} {α : Type} {g : Operand} {ps : Array Tmp} {assign body : Code} {Q : Exit → Act → World → Prop} {a : Act} {w : World}
    {gf : Nat} {lb : Array Value} (hg : a.eval g = .func (.func gf) #[] lb) (eg : ∀ args w, (callFunc gf args).run P w = .ok (.enter gf args) w)
    {encs : α → Array Value} {xs : List α} {Pr : Nat → Prop} (hit : ItC P gf lb encs xs Pr w) (hps : ∀ x, (encs x).size = ps.size) (hPr : ∀ k, Pr k → k < w.heap.size)
    (I : List α → World → Prop) (Ix : Code → List α → World → Prop) (Ow : World → Nat → Prop) (o : α → Obj) (a₁ : α → Nat → Act)
    (hOwc : ∀ pre W k, I pre W → Ow W k → ∃ c t f, W.heap[k]? = some (.cells c t f))
    (hI : ∀ pre (X : Nat → Prop) W W', I pre W → OnlyIn X W W' → (∀ k, X k → w.heap.size ≤ k ∧ ¬ Ow W k) → I pre W' ∧ ∀ k, Ow W' k → Ow W k)
    (hIx : ∀ c pre (X : Nat → Prop) W W', Ix c pre W → OnlyIn X W W' → (∀ k, X k → w.heap.size ≤ k) → Ix c pre W')
    (h0 : I [] w)
    (hassign : ∀ (l : Nat) (x : α) (W : World) (K : Act → World → Prop), K (a₁ x W.heap.size) (W.alloc (o x)) →
      assign.wpIn (Fence.wide.inRound l) 9 P (Exit.then K (fun _ _ _ => False)) { tmps := (ps.zip (encs x)).foldl (fun t (p, v) => t.setIfInBounds p v) a.tmps, defers := [] } W)
    (hbody : ∀ (l : Nat) (pre : List α) (x : α) (rest : List α) (bx : Nat) (W : World), xs = pre ++ x :: rest → I pre W → W.heap[bx]? = some (o x) → w.heap.size ≤ bx → ¬ Ow W bx →
      body.wpIn (Fence.wide.inRound l) 9 P (rfPost w.heap.size Pr Ow I Ix (pre ++ [x]) W) (a₁ x bx) W)
    (hdone : ∀ (D : Nat) (W : World), w.heap.size ≤ D → I xs W → W.heap[D]? = some (.deferred (some [])) → Q .normal { a with defers := { target := .collected D, args := #[] } :: a.defers } W)
    (hstop : ∀ (D : Nat) (c : Code) (pre : List α) (W : World), w.heap.size ≤ D → Ix c pre W → W.heap[D]? = some (.deferred (some [])) → c.wpIn Fence.wide n P Q { a with defers := { target := .collected D, args := #[] } :: a.defers } W) :
    (Code.rangeFunc g ps assign body).wpIn Fence.wide n P Q a w := by
  refine wpIn_rangeFunc ?_
  intro fn hfn
  obtain ⟨rec, hrec⟩ : ∃ rec : LoopState → Option Code → Loop, rec = fun st pe => { state := st, pending := pe, fn, tmps := a.tmps, params := ps, assign, body, defers := w.heap.size } := ⟨_, rfl⟩
  obtain ⟨W1, hW1⟩ : ∃ W1, (w.alloc (.deferred (some []))).alloc (.loop (rec .ready none)) = W1 := ⟨_, rfl⟩
  have hz1 : W1.heap.size = w.heap.size + 2 := by rw [← hW1]; simp
  have hL1 : W1.heap[w.heap.size + 1]? = some (.loop (rec .ready none)) := by
    rw [← hW1]; have := World.alloc_heap_new (w.alloc (.deferred (some []))) (.loop (rec .ready none)); rwa [World.size_alloc] at this
  have hK1 : W1.heap[w.heap.size]? = some (.deferred (some [])) := by
    rw [← hW1]; exact (Below.heap_alloc _ _ _ (by simp)).trans (World.alloc_heap_new w _)
  have hO1 : OnlyIn (fun _ => False) w W1 := by rw [← hW1]; exact (OnlyIn.alloc _ w _).trans (OnlyIn.alloc _ _ _)
  have hI1 : I [] W1 := (hI [] _ w W1 h0 hO1 (fun _ h => h.elim)).1
  refine ⟨w.heap.size + 1, [{ target := .collected w.heap.size, args := #[] }], W1, { target := .fn (.func gf) lb, args := #[.func (.yield (w.heap.size + 1)) #[] #[]] }, W1, gf,
    #[.func (.yield (w.heap.size + 1)) #[] #[]] ++ lb, W1, ?_, ?_, ?_, ?_, fun h => by simp [Fence.wide] at h, ?_⟩
  · rw [← hW1, hrec]; exact run_enterLoop_outer _ _ _ _ _
  · simp only [resolve, hg]
    simp [go_sem]
  · intro f' _; trivial
  · simp [invoke, go_sem, eg]
  refine callsIn_wide.2 ((hit (w.heap.size + 1)
      (fun pre X W => I pre W ∧ W.heap[w.heap.size + 1]? = some (.loop (rec .ready none)) ∧ W.heap[w.heap.size]? = some (.deferred (some [])) ∧ ∀ k, X k → w.heap.size + 2 ≤ k ∧ k < W.heap.size ∧ ¬ Ow W k)
      (fun pre X W => ∃ c, Ix c pre W ∧ W.heap[w.heap.size + 1]? = some (.loop (rec .done (some c))) ∧ W.heap[w.heap.size]? = some (.deferred (some [])) ∧ ∀ k, X k → w.heap.size + 2 ≤ k ∧ k < W.heap.size)
      W1 (by omega) (fun k hk => hO1.block k (hPr k hk) (fun h => h)) ?_ ?_ ?_ ⟨hI1, hL1, hK1, fun _ h => h.elim⟩).mono ?_)
  · -- J abides
    rintro pre X X' W W' ⟨hi, hl, hk, hx⟩ ho hx'
    have hlt : w.heap.size + 1 < W.heap.size := (Array.getElem?_eq_some_iff.1 hl).1
    obtain ⟨hi', how⟩ := hI pre X W W' hi ho (fun k h => ⟨by have := (hx k h).1; omega, (hx k h).2.2⟩)
    refine ⟨hi', (ho.block _ hlt (fun h => by have := (hx _ h).1; omega)).trans hl, (ho.block _ (by omega) (fun h => by have := (hx _ h).1; omega)).trans hk, fun k h => ?_⟩
    rcases hx' k h with h1 | ⟨h1, h2⟩
    · obtain ⟨a1, a2, a3⟩ := hx k h1
      exact ⟨a1, Nat.lt_of_lt_of_le a2 ho.size, fun h => a3 (how k h)⟩
    · refine ⟨by omega, h2, fun h => ?_⟩
      obtain ⟨c, t, f, e⟩ := hOwc pre W k hi (how k h)
      have := (Array.getElem?_eq_some_iff.1 e).1
      omega
  · rintro pre X X' W W' ⟨c, hi, hl, hk, hx⟩ ho hx'
    have hlt : w.heap.size + 1 < W.heap.size := (Array.getElem?_eq_some_iff.1 hl).1
    refine ⟨c, hIx c pre X W W' hi ho (fun k h => by have := (hx k h).1; omega), (ho.block _ hlt (fun h => by have := (hx _ h).1; omega)).trans hl, (ho.block _ (by omega) (fun h => by have := (hx _ h).1; omega)).trans hk, fun k h => ?_⟩
    rcases hx' k h with h1 | ⟨h1, h2⟩
    · obtain ⟨a1, a2⟩ := hx k h1
      exact ⟨a1, Nat.lt_of_lt_of_le a2 ho.size⟩
    · exact ⟨by omega, h2⟩
  · -- one round
    rintro pre x rest X W hxs ⟨hi, hl, hk, hx⟩
    have hlt : w.heap.size + 1 < W.heap.size := (Array.getElem?_eq_some_iff.1 hl).1
    have hy := run_yield (P := P) (args := encs x) hl (by rw [hrec]; exact hps x)
    rw [hrec] at hy
    refine ⟨fn, _, assign, body, hy, roundIn_of_wpIn hfn (hassign _ x W _ ?_)⟩
    clear hy
    obtain ⟨Wa, hWa⟩ : ∃ Wa, W.alloc (o x) = Wa := ⟨_, rfl⟩
    rw [hWa]
    have hza : Wa.heap.size = W.heap.size + 1 := by rw [← hWa]; simp
    have hla : Wa.heap[w.heap.size + 1]? = some (.loop (rec .ready none)) := by rw [← hWa]; exact (Below.heap_alloc _ _ _ hlt).trans hl
    refine ⟨_, run_beginRound hla (by rw [hrec]), ?_⟩
    obtain ⟨W2, hW2⟩ : ∃ W2, Wa.putObj (w.heap.size + 1) (.loop { rec .ready none with state := .busy }) = W2 := ⟨_, rfl⟩
    rw [hW2]
    have hz2 : W2.heap.size = W.heap.size + 1 := by rw [← hW2]; simp [hza]
    have hl2 : W2.heap[w.heap.size + 1]? = some (.loop { rec .ready none with state := .busy }) := by rw [← hW2]; exact World.putObj_heap_same (by omega)
    have hk2 : W2.heap[w.heap.size]? = some (.deferred (some [])) := by rw [← hW2]; exact (World.putObj_heap_other (by omega)).trans (by rw [← hWa]; exact (Below.heap_alloc _ _ _ (by omega)).trans hk)
    have hbx2 : W2.heap[W.heap.size]? = some (o x) := by rw [← hW2]; exact (World.putObj_heap_other (by omega)).trans (by rw [← hWa]; exact World.alloc_heap_new W _)
    have ho2 : OnlyIn (fun k => k = w.heap.size + 1) W W2 := by
      rw [← hW2]; refine OnlyIn.trans ?_ (OnlyIn.putObj Wa _ _ rfl); rw [← hWa]; exact OnlyIn.alloc _ W _
    obtain ⟨hi2, how2⟩ := hI pre _ W W2 hi ho2 (fun k e => ⟨by omega, fun h => by subst e; exact loop_not_cells hl (hOwc pre W _ hi h)⟩)
    refine wpIn_mono (hbody _ pre x rest W.heap.size W2 hxs hi2 hbx2 (by omega) (fun h => ?_)) ?_
    · obtain ⟨c, t, f, e⟩ := hOwc pre W _ hi (how2 _ h)
      have := (Array.getElem?_eq_some_iff.1 e).1
      omega
    have nL : ¬ Ow W2 (w.heap.size + 1) := fun h => loop_not_cells hl (hOwc pre W _ hi (how2 _ h))
    have nD : ¬ Ow W2 w.heap.size := fun h => by
      obtain ⟨c, t, f, e⟩ := hOwc pre W _ hi (how2 _ h); rw [hk] at e; cases e
    have fin : ∀ (jump : Option Code) (W3 : World), Turn w.heap.size Pr Ow W2 W3 →
        (Instr.endRound (w.heap.size + 1) jump).run P W3 = .ok (.bool jump.isNone) (W3.putObj (w.heap.size + 1) (.loop (rec (if jump.isNone then .ready else .done) jump))) ∧
        W3.heap[w.heap.size + 1]? = some (.loop { rec .ready none with state := .busy }) ∧
        (W3.putObj (w.heap.size + 1) (.loop (rec (if jump.isNone then .ready else .done) jump))).heap[w.heap.size + 1]? = some (.loop (rec (if jump.isNone then .ready else .done) jump)) ∧
        (W3.putObj (w.heap.size + 1) (.loop (rec (if jump.isNone then .ready else .done) jump))).heap[w.heap.size]? = some (.deferred (some [])) := fun jump W3 ht => by
      have hl3 := (ht.keeps _ (by omega) (by omega) nL).trans hl2
      have := run_endRound (P := P) jump hl3
      rw [hrec] at this ⊢
      exact ⟨this, by rw [hrec] at hl3; exact hl3, World.putObj_heap_same (Array.getElem?_eq_some_iff.1 hl3).1, (World.putObj_heap_other (by omega)).trans ((ht.keeps _ (by omega) (by omega) nD).trans hk2)⟩
    have kept3 : ∀ (W3 : World) (o : Obj), Turn w.heap.size Pr Ow W2 W3 → Kept Pr X W (W3.putObj (w.heap.size + 1) o) := fun W3 o ht => by
      have hsz := ht.size
      refine ⟨by simp; omega, fun k hkW h => ?_⟩
      rcases h with h | h
      · have hkw := hPr k h
        exact (World.putObj_heap_other (by omega)).trans ((ht.prot k h).trans (ho2.block k hkW (by omega)))
      · obtain ⟨a1, a2, a3'⟩ := hx k h
        exact (World.putObj_heap_other (by omega)).trans ((ht.keeps k (by omega) (by omega) (fun h => a3' (how2 k h))).trans (ho2.block k hkW (by omega)))
    have leaves : ∀ (c : Code) (W3 : World), Turn w.heap.size Pr Ow W2 W3 → Ix c (pre ++ [x]) W3 → ∃ v w', (Instr.endRound (w.heap.size + 1) (some c)).run P W3 = .ok v w' ∧
        (((Ending.returned v : Ending) = .returned (.bool true) ∧ (I (pre ++ [x]) w' ∧ w'.heap[w.heap.size + 1]? = some (.loop (rec .ready none)) ∧ w'.heap[w.heap.size]? = some (.deferred (some [])) ∧ ∀ k, X k → w.heap.size + 2 ≤ k ∧ k < w'.heap.size ∧ ¬ Ow w' k) ∧ Kept Pr X W w') ∨
          ((Ending.returned v : Ending) = .returned (.bool false) ∧ (∃ c, Ix c (pre ++ [x]) w' ∧ w'.heap[w.heap.size + 1]? = some (.loop (rec .done (some c))) ∧ w'.heap[w.heap.size]? = some (.deferred (some [])) ∧ (∀ k, X k → w.heap.size + 2 ≤ k ∧ k < w'.heap.size)) ∧ Kept Pr X W w')) := fun c W3 ht hc => by
      obtain ⟨hr, hl3, hl4, hk4⟩ := fin (some c) W3 ht
      refine ⟨_, _, hr, .inr ⟨rfl, ⟨c, hIx c _ _ W3 _ hc (OnlyIn.putObj (X := fun k => k = w.heap.size + 1) W3 _ _ rfl) (fun k e => by omega), hl4, hk4, fun k h => ?_⟩, kept3 W3 _ ht⟩⟩
      have := hx k h
      have := ht.size
      exact ⟨by omega, by simp; omega⟩
    rintro e a3 W3 hp
    cases e with
    | normal =>
      obtain ⟨ht, hi3⟩ := hp
      obtain ⟨hr, hl3, hl4, hk4⟩ := fin none W3 ht
      obtain ⟨hi4, how4⟩ := hI _ _ W3 (W3.putObj (w.heap.size + 1) (.loop (rec (if (none : Option Code).isNone then .ready else .done) none))) hi3 (OnlyIn.putObj (X := fun k => k = w.heap.size + 1) W3 _ _ rfl) (fun k e => ⟨by omega, fun h => by subst e; exact loop_not_cells hl3 (hOwc _ W3 _ hi3 h)⟩)
      have hsz := ht.size
      refine ⟨_, _, hr, .inl ⟨rfl, ⟨hi4, hl4, hk4, fun k h => ?_⟩, kept3 W3 _ ht⟩⟩
      obtain ⟨a1, a2, a3'⟩ := hx k h
      exact ⟨a1, by simp; omega, fun h4 => a3' (how2 k (ht.owns k (by omega) (how4 k h4)))⟩
    | ret => exact leaves .ret W3 hp.1 hp.2
    | exit id => exact leaves (.exit id) W3 hp.1 hp.2
    | goto t => exact leaves (.goto t) W3 hp.1 hp.2
    | panic ch => exact hp.elim
    | outgrown => exact hp.elim
  · -- behind the iterator
    rintro e W2 ⟨⟨v, rfl⟩, (⟨X, hi, hl, hk, hx⟩ | ⟨pre, X, c, hi, hl, hk, hx⟩)⟩
    · refine ⟨none, _, by have := run_endLoop (P := P) hl (by rw [hrec]; simp); rw [hrec] at this; exact this, ?_⟩
      exact hdone _ _ (Nat.le_refl _) (hI _ _ W2 _ hi (OnlyIn.putObj (X := fun k => k = w.heap.size + 1) W2 _ _ rfl) (fun k e => ⟨by omega, fun h => by subst e; exact loop_not_cells hl (hOwc _ W2 _ hi h)⟩)).1 ((World.putObj_heap_other (by omega)).trans hk)
    · refine ⟨some c, _, by have := run_endLoop (P := P) hl (by rw [hrec]; simp); rw [hrec] at this; exact this, ?_⟩
      exact hstop _ c pre _ (Nat.le_refl _) (hIx c _ _ W2 _ hi (OnlyIn.putObj (X := fun k => k = w.heap.size + 1) W2 _ _ rfl) (fun k e => by omega)) ((World.putObj_heap_other (by omega)).trans hk)

/-- How the body of a round may be left, where the invariant names the iterator's blocks. -/
def rfPostX {α : Type} (Pr X : Nat → Prop) (I : List α → (Nat → Prop) → World → Prop) (Ix : Code → List α → (Nat → Prop) → World → Prop) (xs : List α) (W : World) : Exit → Act → World → Prop
  | .normal, _, W' => Kept Pr X W W' ∧ I xs X W'
  | .ret, _, W' => Kept Pr X W W' ∧ Ix .ret xs X W'
  | .exit id, _, W' => Kept Pr X W W' ∧ Ix (.exit id) xs X W'
  | .goto t, _, W' => Kept Pr X W W' ∧ Ix (.goto t) xs X W'
  | .panic _, _, _ => False
  | .outgrown, _, _ => False

/-- THE STATEMENT, its invariant naming the blocks that are not the caller's (a caller that is an iterator itself wants that). -/
theorem rf_gen {P : Program} {n : Nat} {α : Type} {g : Operand} {ps : Array Tmp} {assign body : Code} {Q : Exit → Act → World → Prop} {a : Act} {w : World}
    {gf : Nat} {lb : Array Value} (hg : a.eval g = .func (.func gf) #[] lb) (eg : ∀ args w, (callFunc gf args).run P w = .ok (.enter gf args) w)
    {encs : α → Array Value} {xs : List α} {Pr : Nat → Prop} (hit : ItC P gf lb encs xs Pr w) (hps : ∀ x, (encs x).size = ps.size) (hPr : ∀ k, Pr k → k < w.heap.size)
    (I : List α → (Nat → Prop) → World → Prop) (Ix : Code → List α → (Nat → Prop) → World → Prop) (o : α → Obj) (a₁ : α → Nat → Act)
    (hI : Abide I) (hIx : ∀ c, Abide (Ix c)) (h0 : I [] (fun _ => False) w)
    (hassign : ∀ (l : Nat) (x : α) (W : World) (K : Act → World → Prop), K (a₁ x W.heap.size) (W.alloc (o x)) →
      assign.wpIn (Fence.wide.inRound l) 9 P (Exit.then K (fun _ _ _ => False)) { tmps := (ps.zip (encs x)).foldl (fun t (p, v) => t.setIfInBounds p v) a.tmps, defers := [] } W)
    (hbody : ∀ (l : Nat) (pre : List α) (x : α) (rest : List α) (bx : Nat) (X : Nat → Prop) (W : World), xs = pre ++ x :: rest → I pre X W → W.heap[bx]? = some (o x) → ¬ X bx → w.heap.size ≤ bx →
      body.wpIn (Fence.wide.inRound l) 9 P (rfPostX Pr X I Ix (pre ++ [x]) W) (a₁ x bx) W)
    (hdone : ∀ (D : Nat) (X : Nat → Prop) (W : World), w.heap.size ≤ D → X D → I xs X W → W.heap[D]? = some (.deferred (some [])) → Q .normal { a with defers := { target := .collected D, args := #[] } :: a.defers } W)
    (hstop : ∀ (D : Nat) (c : Code) (pre : List α) (X : Nat → Prop) (W : World), w.heap.size ≤ D → X D → Ix c pre X W → W.heap[D]? = some (.deferred (some [])) → c.wpIn Fence.wide n P Q { a with defers := { target := .collected D, args := #[] } :: a.defers } W) :
    (Code.rangeFunc g ps assign body).wpIn Fence.wide n P Q a w := by
  refine wpIn_rangeFunc ?_
  intro fn hfn
  obtain ⟨rec, hrec⟩ : ∃ rec : LoopState → Option Code → Loop, rec = fun st pe => { state := st, pending := pe, fn, tmps := a.tmps, params := ps, assign, body, defers := w.heap.size } := ⟨_, rfl⟩
  obtain ⟨W1, hW1⟩ : ∃ W1, (w.alloc (.deferred (some []))).alloc (.loop (rec .ready none)) = W1 := ⟨_, rfl⟩
  have hz1 : W1.heap.size = w.heap.size + 2 := by rw [← hW1]; simp
  have hL1 : W1.heap[w.heap.size + 1]? = some (.loop (rec .ready none)) := by
    rw [← hW1]; have := World.alloc_heap_new (w.alloc (.deferred (some []))) (.loop (rec .ready none)); rwa [World.size_alloc] at this
  have hK1 : W1.heap[w.heap.size]? = some (.deferred (some [])) := by
    rw [← hW1]; exact (Below.heap_alloc _ _ _ (by simp)).trans (World.alloc_heap_new w _)
  have hO1 : OnlyIn (fun _ => False) w W1 := by rw [← hW1]; exact (OnlyIn.alloc _ w _).trans (OnlyIn.alloc _ _ _)
  have hI1 : I [] (fun k => k = w.heap.size ∨ k = w.heap.size + 1) W1 := hI [] _ _ w W1 h0 hO1 (fun k h => Or.inr (by omega))
  refine ⟨w.heap.size + 1, [{ target := .collected w.heap.size, args := #[] }], W1, { target := .fn (.func gf) lb, args := #[.func (.yield (w.heap.size + 1)) #[] #[]] }, W1, gf,
    #[.func (.yield (w.heap.size + 1)) #[] #[]] ++ lb, W1, ?_, ?_, ?_, ?_, fun h => by simp [Fence.wide] at h, ?_⟩
  · rw [← hW1, hrec]; exact run_enterLoop_outer _ _ _ _ _
  · simp only [resolve, hg]
    simp [go_sem]
  · intro f' _; trivial
  · simp [invoke, go_sem, eg]
  refine callsIn_wide.2 ((hit (w.heap.size + 1)
      (fun pre X W => ∃ Xc : Nat → Prop, (∀ k, X k → Xc k) ∧ I pre Xc W ∧ W.heap[w.heap.size + 1]? = some (.loop (rec .ready none)) ∧ W.heap[w.heap.size]? = some (.deferred (some [])) ∧ Xc w.heap.size ∧ Xc (w.heap.size + 1) ∧ ¬ X w.heap.size ∧ ¬ X (w.heap.size + 1) ∧ ∀ k, Xc k → k < W.heap.size)
      (fun pre X W => ∃ (Xc : Nat → Prop) (c : Code), (∀ k, X k → Xc k) ∧ Ix c pre Xc W ∧ W.heap[w.heap.size + 1]? = some (.loop (rec .done (some c))) ∧ W.heap[w.heap.size]? = some (.deferred (some [])) ∧ Xc w.heap.size ∧ Xc (w.heap.size + 1) ∧ ¬ X w.heap.size ∧ ¬ X (w.heap.size + 1))
      W1 (by omega) (fun k hk => hO1.block k (hPr k hk) (fun h => h)) ?_ ?_ ?_ ⟨_, fun _ h => h.elim, hI1, hL1, hK1, Or.inl rfl, Or.inr rfl, fun h => h, fun h => h, fun k h => by omega⟩).mono ?_)
  · -- J abides
    rintro pre X X' W W' ⟨Xc, hs, hi, hl, hk, hd1, hd2, hn1, hn2, hb⟩ ho hx'
    have hlt : w.heap.size + 1 < W.heap.size := (Array.getElem?_eq_some_iff.1 hl).1
    refine ⟨fun k => Xc k ∨ X' k, fun k h => Or.inr h, hI pre Xc _ W W' hi (ho.mono hs) (fun k h => ?_), (ho.block _ hlt hn2).trans hl, (ho.block _ (by omega) hn1).trans hk, Or.inl hd1, Or.inl hd2, fun h => ?_, fun h => ?_, fun k h => ?_⟩
    · rcases h with h | h
      · exact Or.inl h
      · rcases hx' k h with h | h
        · exact Or.inl (hs k h)
        · exact Or.inr h
    · rcases hx' _ h with h | h
      · exact hn1 h
      · omega
    · rcases hx' _ h with h | h
      · exact hn2 h
      · omega
    · rcases h with h | h
      · exact Nat.lt_of_lt_of_le (hb k h) ho.size
      · rcases hx' k h with h | h
        · exact Nat.lt_of_lt_of_le (hb k (hs k h)) ho.size
        · exact h.2
  · rintro pre X X' W W' ⟨Xc, c, hs, hi, hl, hk, hd1, hd2, hn1, hn2⟩ ho hx'
    have hlt : w.heap.size + 1 < W.heap.size := (Array.getElem?_eq_some_iff.1 hl).1
    refine ⟨fun k => Xc k ∨ X' k, c, fun k h => Or.inr h, hIx c pre Xc _ W W' hi (ho.mono hs) (fun k h => ?_), (ho.block _ hlt hn2).trans hl, (ho.block _ (by omega) hn1).trans hk, Or.inl hd1, Or.inl hd2, fun h => ?_, fun h => ?_⟩
    · rcases h with h | h
      · exact Or.inl h
      · rcases hx' k h with h | h
        · exact Or.inl (hs k h)
        · exact Or.inr h
    · rcases hx' _ h with h | h
      · exact hn1 h
      · omega
    · rcases hx' _ h with h | h
      · exact hn2 h
      · omega
  · -- one round
    rintro pre x rest X W hxs ⟨Xc, hs, hi, hl, hk, hd1, hd2, hn1, hn2, hb⟩
    have hlt : w.heap.size + 1 < W.heap.size := (Array.getElem?_eq_some_iff.1 hl).1
    have hy := run_yield (P := P) (args := encs x) hl (by rw [hrec]; exact hps x)
    rw [hrec] at hy
    refine ⟨fn, _, assign, body, hy, roundIn_of_wpIn hfn (hassign _ x W _ ?_)⟩
    clear hy
    obtain ⟨Wa, hWa⟩ : ∃ Wa, W.alloc (o x) = Wa := ⟨_, rfl⟩
    rw [hWa]
    have hza : Wa.heap.size = W.heap.size + 1 := by rw [← hWa]; simp
    have hla : Wa.heap[w.heap.size + 1]? = some (.loop (rec .ready none)) := by rw [← hWa]; exact (Below.heap_alloc _ _ _ hlt).trans hl
    refine ⟨_, run_beginRound hla (by rw [hrec]), ?_⟩
    obtain ⟨W2, hW2⟩ : ∃ W2, Wa.putObj (w.heap.size + 1) (.loop { rec .ready none with state := .busy }) = W2 := ⟨_, rfl⟩
    rw [hW2]
    have hz2 : W2.heap.size = W.heap.size + 1 := by rw [← hW2]; simp [hza]
    have hl2 : W2.heap[w.heap.size + 1]? = some (.loop { rec .ready none with state := .busy }) := by rw [← hW2]; exact World.putObj_heap_same (by omega)
    have hk2 : W2.heap[w.heap.size]? = some (.deferred (some [])) := by rw [← hW2]; exact (World.putObj_heap_other (by omega)).trans (by rw [← hWa]; exact (Below.heap_alloc _ _ _ (by omega)).trans hk)
    have hbx2 : W2.heap[W.heap.size]? = some (o x) := by rw [← hW2]; exact (World.putObj_heap_other (by omega)).trans (by rw [← hWa]; exact World.alloc_heap_new W _)
    have ho2 : OnlyIn (fun k => k = w.heap.size + 1) W W2 := by
      rw [← hW2]; refine OnlyIn.trans ?_ (OnlyIn.putObj Wa _ _ rfl); rw [← hWa]; exact OnlyIn.alloc _ W _
    have hi2 : I pre Xc W2 := hI pre Xc Xc W W2 hi (ho2.mono (fun k e => by subst e; exact hd2)) (fun k h => Or.inl h)
    refine wpIn_mono (hbody _ pre x rest W.heap.size Xc W2 hxs hi2 hbx2 (fun h => by have := hb _ h; omega) (by omega)) ?_
    have fin : ∀ (jump : Option Code) (W3 : World), Kept Pr Xc W2 W3 →
        (Instr.endRound (w.heap.size + 1) jump).run P W3 = .ok (.bool jump.isNone) (W3.putObj (w.heap.size + 1) (.loop (rec (if jump.isNone then .ready else .done) jump))) ∧
        W3.heap[w.heap.size + 1]? = some (.loop { rec .ready none with state := .busy }) ∧
        (W3.putObj (w.heap.size + 1) (.loop (rec (if jump.isNone then .ready else .done) jump))).heap[w.heap.size + 1]? = some (.loop (rec (if jump.isNone then .ready else .done) jump)) ∧
        (W3.putObj (w.heap.size + 1) (.loop (rec (if jump.isNone then .ready else .done) jump))).heap[w.heap.size]? = some (.deferred (some [])) := fun jump W3 ht => by
      have hl3 := (ht.2 _ (by omega) (Or.inr hd2)).trans hl2
      have := run_endRound (P := P) jump hl3
      rw [hrec] at this ⊢
      exact ⟨this, by rw [hrec] at hl3; exact hl3, World.putObj_heap_same (Array.getElem?_eq_some_iff.1 hl3).1, (World.putObj_heap_other (by omega)).trans ((ht.2 _ (by omega) (Or.inr hd1)).trans hk2)⟩
    have kept3 : ∀ (W3 : World) (o : Obj), Kept Pr Xc W2 W3 → Kept Pr X W (W3.putObj (w.heap.size + 1) o) := fun W3 o ht => by
      have hsz := ht.1
      refine ⟨by simp; omega, fun k hkW h => ?_⟩
      have hkL : k ≠ w.heap.size + 1 := by
        rcases h with h | h
        · have := hPr k h; omega
        · exact fun e => hn2 (e ▸ h)
      exact (World.putObj_heap_other hkL).trans ((ht.2 k (by omega) (h.imp id (hs k))).trans (ho2.block k hkW hkL))
    have leaves : ∀ (c : Code) (W3 : World), Kept Pr Xc W2 W3 → Ix c (pre ++ [x]) Xc W3 → ∃ v w', (Instr.endRound (w.heap.size + 1) (some c)).run P W3 = .ok v w' ∧
        (((Ending.returned v : Ending) = .returned (.bool true) ∧ (∃ Xc : Nat → Prop, (∀ k, X k → Xc k) ∧ I (pre ++ [x]) Xc w' ∧ w'.heap[w.heap.size + 1]? = some (.loop (rec .ready none)) ∧ w'.heap[w.heap.size]? = some (.deferred (some [])) ∧ Xc w.heap.size ∧ Xc (w.heap.size + 1) ∧ ¬ X w.heap.size ∧ ¬ X (w.heap.size + 1) ∧ ∀ k, Xc k → k < w'.heap.size) ∧ Kept Pr X W w') ∨
          ((Ending.returned v : Ending) = .returned (.bool false) ∧ (∃ (Xc : Nat → Prop) (c : Code), (∀ k, X k → Xc k) ∧ Ix c (pre ++ [x]) Xc w' ∧ w'.heap[w.heap.size + 1]? = some (.loop (rec .done (some c))) ∧ w'.heap[w.heap.size]? = some (.deferred (some [])) ∧ Xc w.heap.size ∧ Xc (w.heap.size + 1) ∧ ¬ X w.heap.size ∧ ¬ X (w.heap.size + 1)) ∧ Kept Pr X W w')) := fun c W3 ht hc => by
      obtain ⟨hr, hl3, hl4, hk4⟩ := fin (some c) W3 ht
      exact ⟨_, _, hr, .inr ⟨rfl, ⟨Xc, c, hs, hIx c _ Xc Xc W3 _ hc (OnlyIn.putObj W3 _ _ hd2) (fun k h => Or.inl h), hl4, hk4, hd1, hd2, hn1, hn2⟩, kept3 W3 _ ht⟩⟩
    rintro e a3 W3 hp
    cases e with
    | normal =>
      obtain ⟨ht, hi3⟩ := hp
      obtain ⟨hr, hl3, hl4, hk4⟩ := fin none W3 ht
      have hsz := ht.1
      exact ⟨_, _, hr, .inl ⟨rfl, ⟨Xc, hs, hI _ Xc Xc W3 _ hi3 (OnlyIn.putObj W3 _ _ hd2) (fun k h => Or.inl h), hl4, hk4, hd1, hd2, hn1, hn2, fun k h => by have := hb k h; simp; omega⟩, kept3 W3 _ ht⟩⟩
    | ret => exact leaves .ret W3 hp.1 hp.2
    | exit id => exact leaves (.exit id) W3 hp.1 hp.2
    | goto t => exact leaves (.goto t) W3 hp.1 hp.2
    | panic ch => exact hp.elim
    | outgrown => exact hp.elim
  · -- behind the iterator
    rintro e W2 ⟨⟨v, rfl⟩, (⟨X, Xc, hs, hi, hl, hk, hd1, hd2, hn1, hn2, hb⟩ | ⟨pre, X, Xc, c, hs, hi, hl, hk, hd1, hd2, hn1, hn2⟩)⟩
    · refine ⟨none, _, by have := run_endLoop (P := P) hl (by rw [hrec]; simp); rw [hrec] at this; exact this, ?_⟩
      exact hdone _ Xc _ (Nat.le_refl _) hd1 (hI _ Xc Xc W2 _ hi (OnlyIn.putObj W2 _ _ hd2) (fun k h => Or.inl h)) ((World.putObj_heap_other (by omega)).trans hk)
    · refine ⟨some c, _, by have := run_endLoop (P := P) hl (by rw [hrec]; simp); rw [hrec] at this; exact this, ?_⟩
      exact hstop _ c pre Xc _ (Nat.le_refl _) hd1 (hIx c _ Xc Xc W2 _ hi (OnlyIn.putObj W2 _ _ hd2) (fun k h => Or.inl h)) ((World.putObj_heap_other (by omega)).trans hk)

/-- Behind a loop of such statements the frame bears a mark for each of them: they are taken back, one after the other. -/
def markOf (D : Nat) : Deferred := { target := .collected D, args := #[] }
theorem leaves_marks {n : Nat} {P : Program} {fn : Func} {tmps : Array Value} {R : Ending → World → Prop} : ∀ (Ds : List Nat) (W : World), Ds.Nodup → (∀ D ∈ Ds, W.heap[D]? = some (.deferred (some []))) →
    (∀ W', OnlyIn (fun k => k ∈ Ds) W W' → W'.heap.size = W.heap.size → LeavesInM Fence.wide n P fn tmps R [] .returning W') → LeavesInM Fence.wide n P fn tmps R (Ds.map markOf) .returning W
  | [], W, _, _, h => h W (OnlyIn.refl _ _) rfl
  | D :: Ds, W, hn, hd, h => by
    obtain ⟨hD, hn⟩ := List.nodup_cons.1 hn
    refine ⟨by simp, .inl ⟨D, _, rfl, run_takeDeferred (hd D (by simp)), ?_⟩⟩
    refine leaves_marks Ds _ hn (fun D' hD' => ?_) (fun W' ho hz => ?_)
    · exact (World.putObj_heap_other (k := D') (r := D) (fun e => hD (e ▸ hD'))).trans (hd D' (by simp [hD']))
    · refine h W' ((OnlyIn.putObj (X := fun k => k ∈ D :: Ds) W D _ (by simp)).trans (ho.mono fun k hk => by simp [hk])) (by simpa using hz)

/-- A round's contract goes into whatever round. -/
theorem roundIn_any {n m l' : Nat} {P : Program} {l : Nat} {f : FuncId} {tmps : Array Value} {assign body : Code} {w : World} {R : Ending → World → Prop} (h : RoundIn Fence.wide n P l f tmps assign body w R) : RoundIn (Fence.wide.inRound l') m P l f tmps assign body w R :=
  ⟨h.1, fun c cs _ => h.2 c cs (room_wide _)⟩

/-- What a caller keeps: all that lay at its start, and some blocks of its own. -/
structure Held (w0 : World) (bs : List (Nat × Obj)) (W : World) : Prop where
  below : Below w0.heap.size w0 W
  at_ : ∀ p ∈ bs, W.heap[p.1]? = some p.2
theorem Held.only {w0 W W' : World} {bs : List (Nat × Obj)} {X : Nat → Prop} (h : Held w0 bs W) (ho : OnlyIn X W W') {hs : Nat} (hX : ∀ k, X k → hs ≤ k) (h0 : w0.heap.size ≤ hs) (hb : ∀ p ∈ bs, p.1 < hs) : Held w0 bs W' := by
  refine ⟨ho.below h.below h.below.size (fun k hk => Nat.le_trans h0 (hX k hk)), fun p hp => ?_⟩
  have hlt : p.1 < W.heap.size := (Array.getElem?_eq_some_iff.1 (h.at_ p hp)).1
  exact (ho.block p.1 hlt (fun hx => by have := hX _ hx; have := hb p hp; omega)).trans (h.at_ p hp)
theorem Held.below' {w0 W W' : World} {bs : List (Nat × Obj)} (h : Held w0 bs W) (hb : Below W.heap.size W W') : Held w0 bs W' :=
  h.only (OnlyIn.of_below (X := fun _ => False) hb) (hs := max w0.heap.size (bs.foldr (fun p m => max (p.1 + 1) m) 0)) (fun _ h => h.elim) (by omega) (fun p hp => by
    have : ∀ (bs : List (Nat × Obj)), p ∈ bs → p.1 < bs.foldr (fun p m => max (p.1 + 1) m) 0 := fun bs => by
      induction bs with
      | nil => intro h; cases h
      | cons q bs ih =>
        intro h
        rcases List.mem_cons.1 h with rfl | h
        · simp only [List.foldr_cons]; omega
        · have := ih h; simp only [List.foldr_cons]; omega
    have := this bs hp
    omega)
theorem Turn.refl (hs : Nat) (Pr : Nat → Prop) (Ow : World → Nat → Prop) (W : World) : Turn hs Pr Ow W W := ⟨Nat.le_refl _, fun _ _ => rfl, fun _ _ _ _ => rfl, fun _ _ h => h⟩
/-- A round that turns boxes of the caller's ahead of the statement, and lays blocks. -/
theorem Turn.of {hs : Nat} {Pr : Nat → Prop} {X : Nat → Prop} {W W' : World} (h : OnlyIn X W W') (hX : ∀ k, X k → k < hs ∧ ¬ Pr k) (hPr : ∀ k, Pr k → k < W.heap.size) : Turn hs Pr (fun _ _ => False) W W' :=
  ⟨h.size, fun k hk => h.block k (hPr k hk) (fun hx => (hX k hx).2 hk), fun k hk hk' _ => h.block k hk' (fun hx => by have := (hX k hx).1; omega), fun _ _ h => h.elim⟩

end Go.Proofs.YtnhacghjoikgpaaGreatDoor

/- More on the statement that ranges over a function: what a caller keeps; how it leaves. For any program. -/
namespace Go.Proofs.YtnhacghjoikgpaaGreatDoor
set_option linter.unusedSimpArgs false
set_option linter.unusedVariables false
open Go Go.RowKit

theorem Held.get {w0 W : World} {bs : List (Nat × Obj)} (h : Held w0 bs W) (i : Nat) {k : Nat} {o : Obj} (hi : bs[i]? = some (k, o)) : W.heap[k]? = some o := h.at_ (k, o) (List.mem_of_getElem? hi)
/-- The frame bears one mark: it is taken back. -/
theorem leave_ret {n : Nat} {P : Program} {fn : Func} {tmps : Array Value} {R : Ending → World → Prop} {D : Nat} {W : World} (hD : W.heap[D]? = some (.deferred (some [])))
    (h : ∃ v, (results fn tmps).run P (W.putObj D (.deferred none)) = .ok v (W.putObj D (.deferred none)) ∧ R (.returned v) (W.putObj D (.deferred none))) :
    bodyPostM Fence.wide n P fn R .ret ⟨tmps, [{ target := .collected D, args := #[] }]⟩ W := by
  refine ⟨by simp, .inl ⟨_, _, rfl, run_takeDeferred hD, ?_⟩⟩
  exact h
theorem leave_end {n : Nat} {P : Program} {fn : Func} {tmps : Array Value} {R : Ending → World → Prop} {D : Nat} {W : World} (hD : W.heap[D]? = some (.deferred (some [])))
    (h : ∃ v, (results fn tmps).run P (W.putObj D (.deferred none)) = .ok v (W.putObj D (.deferred none)) ∧ R (.returned v) (W.putObj D (.deferred none))) :
    bodyPostM Fence.wide n P fn R .normal ⟨tmps, [{ target := .collected D, args := #[] }]⟩ W := leave_ret hD h
theorem Held.put {w0 W : World} {bs : List (Nat × Obj)} (h : Held w0 bs W) {D : Nat} (o : Obj) (h0 : w0.heap.size ≤ D) (hb : ∀ p ∈ bs, p.1 < D) : Held w0 bs (W.putObj D o) :=
  h.only (OnlyIn.putObj (X := fun k => k = D) W D o rfl) (hs := D) (fun _ h => by omega) h0 hb
/-- All four cells, or both, or all three. -/
theorem blk_set4 {W : World} {k : Nat} {a b c d : Value} {t : TypeId} {f : Nat × Nat} (h : W.heap[k]? = some (.cells #[a, b, c, d] t f)) (a' b' c' d' : Value) :
    ((((W.setCell ⟨k, 0, none⟩ a').setCell ⟨k, 1, none⟩ b').setCell ⟨k, 2, none⟩ c').setCell ⟨k, 3, none⟩ d').heap[k]? = some (.cells #[a', b', c', d'] t f) := by
  have := blk_set (blk_set (blk_set (blk_set h 0 a') 1 b') 2 c') 3 d'
  simpa using this
theorem blk_set3 {W : World} {k : Nat} {a b c : Value} {t : TypeId} {f : Nat × Nat} (h : W.heap[k]? = some (.cells #[a, b, c] t f)) (a' b' c' : Value) :
    (((W.setCell ⟨k, 0, none⟩ a').setCell ⟨k, 1, none⟩ b').setCell ⟨k, 2, none⟩ c').heap[k]? = some (.cells #[a', b', c'] t f) := by
  have := blk_set (blk_set (blk_set h 0 a') 1 b') 2 c'
  simpa using this
theorem blk_set2 {W : World} {k : Nat} {a b : Value} {t : TypeId} {f : Nat × Nat} (h : W.heap[k]? = some (.cells #[a, b] t f)) (a' b' : Value) :
    ((W.setCell ⟨k, 0, none⟩ a').setCell ⟨k, 1, none⟩ b').heap[k]? = some (.cells #[a', b'] t f) := by
  have := blk_set (blk_set h 0 a') 1 b'
  simpa using this
theorem blk_set1 {W : World} {k : Nat} {a : Value} {t : TypeId} {f : Nat × Nat} (h : W.heap[k]? = some (.cells #[a] t f)) (a' : Value) :
    (W.setCell ⟨k, 0, none⟩ a').heap[k]? = some (.cells #[a'] t f) := by
  have := blk_set h 0 a'
  simpa using this

/-- The frame with some slots written. -/
def putAll (tmps : Array Value) (us : List (Nat × Value)) : Array Value := us.foldl (fun t p => t.setIfInBounds p.1 p.2) tmps

/-- THE STATEMENT, the round's frame by the slots that its assignment writes. -/
theorem rf_law2 {P : Program} {n : Nat} {α : Type} {g : Operand} {ps : Array Tmp} {assign body : Code} {Q : Exit → Act → World → Prop} {a : Act} {w : World}
    {gf : Nat} {lb : Array Value} (hg : a.eval g = .func (.func gf) #[] lb) (eg : ∀ args w, (callFunc gf args).run P w = .ok (.enter gf args) w)
    {encs : α → Array Value} {xs : List α} {Pr : Nat → Prop} (hit : ItC P gf lb encs xs Pr w) (hps : ∀ x, (encs x).size = ps.size) (hPr : ∀ k, Pr k → k < w.heap.size)
    (I : List α → World → Prop) (Ix : Code → List α → World → Prop) (Ow : World → Nat → Prop) (o : α → Obj) (upd : α → Nat → List (Nat × Value))
    (hOwc : ∀ pre W k, I pre W → Ow W k → ∃ c t f, W.heap[k]? = some (.cells c t f))
    (hI : ∀ pre (X : Nat → Prop) W W', I pre W → OnlyIn X W W' → (∀ k, X k → w.heap.size ≤ k ∧ ¬ Ow W k) → I pre W' ∧ ∀ k, Ow W' k → Ow W k)
    (hIx : ∀ c pre (X : Nat → Prop) W W', Ix c pre W → OnlyIn X W W' → (∀ k, X k → w.heap.size ≤ k) → Ix c pre W')
    (h0 : I [] w)
    (hassign : ∀ (l : Nat) (x : α) (W : World) (K : Act → World → Prop), K { tmps := putAll a.tmps (upd x W.heap.size), defers := [] } (W.alloc (o x)) →
      assign.wpIn (Fence.wide.inRound l) 9 P (Exit.then K (fun _ _ _ => False)) { tmps := (ps.zip (encs x)).foldl (fun t (p, v) => t.setIfInBounds p v) a.tmps, defers := [] } W)
    (hbody : ∀ (l : Nat) (pre : List α) (x : α) (rest : List α) (bx : Nat) (W : World), xs = pre ++ x :: rest → I pre W → W.heap[bx]? = some (o x) → w.heap.size ≤ bx → ¬ Ow W bx →
      body.wpIn (Fence.wide.inRound l) 9 P (rfPost w.heap.size Pr Ow I Ix (pre ++ [x]) W) { tmps := putAll a.tmps (upd x bx), defers := [] } W)
    (hdone : ∀ (D : Nat) (W : World), w.heap.size ≤ D → I xs W → W.heap[D]? = some (.deferred (some [])) → Q .normal { a with defers := { target := .collected D, args := #[] } :: a.defers } W)
    (hstop : ∀ (D : Nat) (c : Code) (pre : List α) (W : World), w.heap.size ≤ D → Ix c pre W → W.heap[D]? = some (.deferred (some [])) → c.wpIn Fence.wide n P Q { a with defers := { target := .collected D, args := #[] } :: a.defers } W) :
    (Code.rangeFunc g ps assign body).wpIn Fence.wide n P Q a w :=
  rf_law hg eg hit hps hPr I Ix Ow o (fun x bx => { tmps := putAll a.tmps (upd x bx), defers := [] }) hOwc hI hIx h0 hassign hbody hdone hstop

end Go.Proofs.YtnhacghjoikgpaaGreatDoor

/- What the changes of a gathering do at a number; the leaves of a gathering and of a book, as plain Lean. -/
namespace Go.Proofs.YtnhacghjoikgpaaGreatDoor
set_option linter.unusedSimpArgs false
set_option linter.unusedVariables false

structure Fate where
  gone : Bool
  swapped : Bool
  added : Int
def fateStep (n : Int) (f : Fate) (c : Chg) : Fate :=
  if c.pos ≠ n then f else if c.kind = 1 then { f with gone := true } else if c.kind = 2 then { f with swapped := true } else if c.kind = 3 then { f with added := c.many } else f
def fateF (cs : List Chg) (n : Int) : Fate := cs.foldl (fateStep n) ⟨false, false, 0⟩

/-- A leaf: its gathering, Number, Plus and Kind. -/
structure Lf where
  gat : Nat
  num : Int
  plus : Int
  kind : Int
deriving DecidableEq

/-- The leaves of a gathering at one number, by what the changes do there. -/
def lvsNum (i : Nat) (k : Nat) (f : Fate) : List Lf :=
  (if 0 < k ∧ f.gone = false then [⟨i, k, 0, if f.swapped then 1 else 0⟩] else []) ++ (List.range f.added.toNat).map fun j => ⟨i, k, (j : Int) + 1, 2⟩
/-- The leaves of a gathering. -/
def lvsG (i : Nat) (g : Gth) : List Lf := (List.range (g.leaves + 1).toNat).flatMap fun k => lvsNum i k (fateF g.chs k)
/-- The leaves of a book. -/
def lvsFrom (i : Nat) : List Gth → List Lf
  | [] => []
  | g :: gs => lvsG i g ++ lvsFrom (i + 1) gs
def lvs (b : Bk) : List Lf := lvsFrom 0 b.gs

end Go.Proofs.YtnhacghjoikgpaaGreatDoor

/- What a book without an error is like: bounds of all its numbers. -/
namespace Go.Proofs.YtnhacghjoikgpaaGreatDoor
set_option linter.unusedSimpArgs false
set_option linter.unusedVariables false

theorem inB_iff {lo hi x : Int} : inB lo hi x = true ↔ lo ≤ x ∧ x ≤ hi := by simp [inB]
theorem gsErr_zero : ∀ {gs : List Gth} {seen : List (Int × Int)} {last : Int × Int} {i : Nat}, (gsErr seen last i gs).2 = 0 → ∀ g ∈ gs, ∃ seen last, gthErr seen last g = 0
  | [], _, _, _, _, g, hg => by cases hg
  | x :: xs, seen, last, i, h, g, hg => by
    unfold gsErr at h
    by_cases h0 : gthErr seen last x = 0
    · rw [if_pos h0] at h
      rcases List.mem_cons.1 hg with rfl | hg
      · exact ⟨seen, last, h0⟩
      · exact gsErr_zero h g hg
    · rw [if_neg h0] at h; exact absurd h h0
theorem chsErr_zero : ∀ {cs : List Chg} {l : Int} {p : Option Chg} {i : Nat}, (chsErr l p i cs).2 = 0 → ∀ c ∈ cs, kindB c = true ∧ rangeB c l = true
  | [], _, _, _, _, c, hc => by cases hc
  | x :: xs, l, p, i, h, c, hc => by
    unfold chsErr at h
    by_cases h0 : chErr l p x = 0
    · rw [if_pos h0] at h
      rcases List.mem_cons.1 hc with rfl | hc
      · unfold chErr at h0
        by_cases hk : kindB c = false
        · rw [if_pos hk] at h0; omega
        · rw [if_neg hk] at h0
          by_cases hr : rangeB c l = false
          · rw [if_pos hr] at h0; omega
          · exact ⟨by simpa using hk, by simpa using hr⟩
      · exact chsErr_zero h c hc
    · rw [if_neg h0] at h; exact absurd h h0

/-- A gathering without an error. -/
structure GOk (g : Gth) : Prop where
  sig : sigB g.round g.letter = true
  folded : foldedB g.leaves = true
  few : g.chs.length ≤ 4
  chs : (chsErr g.leaves none 0 g.chs).2 = 0
theorem gthErr_zero {seen : List (Int × Int)} {last : Int × Int} {g : Gth} (h : gthErr seen last g = 0) : GOk g := by
  unfold gthErr at h
  by_cases h1 : sigB g.round g.letter = false
  · rw [if_pos h1] at h; omega
  rw [if_neg h1] at h
  by_cases h2 : (g.round, g.letter) ∈ seen
  · rw [if_pos h2] at h; omega
  rw [if_neg h2] at h
  by_cases h3 : g.letter < 23 ∧ behindB g.round g.letter last.1 last.2 = false
  · rw [if_pos h3] at h; omega
  rw [if_neg h3] at h
  by_cases h4 : foldedB g.leaves = false
  · rw [if_pos h4] at h; omega
  rw [if_neg h4] at h
  by_cases h5 : 4 < g.chs.length
  · rw [if_pos h5] at h; omega
  rw [if_neg h5] at h
  exact ⟨by simpa using h1, by simpa using h4, by omega, h⟩
theorem GOk.leaves {g : Gth} (h : GOk g) : 1 ≤ g.leaves ∧ g.leaves ≤ 12 := by
  have := h.folded
  simp only [foldedB, Bool.or_eq_true, Bool.and_eq_true, decide_eq_true_eq, inB_iff] at this
  omega
theorem GOk.round {g : Gth} (h : GOk g) : 1 ≤ g.round ∧ g.round ≤ 3 := by
  have := h.sig
  simp only [sigB, Bool.and_eq_true, inB_iff] at this
  omega
theorem GOk.letter {g : Gth} (h : GOk g) : 0 ≤ g.letter ∧ g.letter ≤ 24 := by
  have := h.sig
  simp only [sigB, Bool.and_eq_true, inB_iff] at this
  omega
theorem GOk.ch {g : Gth} (h : GOk g) {c : Chg} (hc : c ∈ g.chs) : (c.kind = 1 ∨ c.kind = 2 ∨ c.kind = 3) ∧ 0 ≤ c.pos ∧ c.pos ≤ g.leaves ∧ 0 ≤ c.many ∧ c.many ≤ 4 := by
  obtain ⟨hk, hr⟩ := chsErr_zero h.chs c hc
  simp only [kindB, Bool.or_eq_true, decide_eq_true_eq] at hk
  unfold rangeB at hr
  split at hr <;> simp only [Bool.and_eq_true, inB_iff, decide_eq_true_eq] at hr <;> refine ⟨by omega, by omega, by omega, by omega, by omega⟩

def errF (b : Bk) : Int := (checkF b).2.2
structure BOk (b : Bk) : Prop where
  signed : 0 ≤ b.signed ∧ b.signed ≤ 12
  len : 1 ≤ b.gs.length ∧ b.gs.length ≤ 30
  gs : ∀ g ∈ b.gs, GOk g
theorem errF_zero {b : Bk} (h : errF b = 0) : BOk b := by
  unfold errF checkF at h
  by_cases h1 : inB 0 12 b.signed = false
  · rw [if_pos h1] at h; simp at h
  rw [if_neg h1] at h
  by_cases h2 : inB 1 30 b.gs.length = false
  · rw [if_pos h2] at h; simp at h
  rw [if_neg h2] at h
  have h1' := inB_iff.1 (show inB 0 12 b.signed = true by simpa using h1)
  have h2' := inB_iff.1 (show inB 1 30 b.gs.length = true by simpa using h2)
  by_cases h3 : (gsErr [] (0, 0) 0 b.gs).2 = 0
  · exact ⟨h1', by omega, fun g hg => by obtain ⟨s, l, hz⟩ := gsErr_zero h3 g hg; exact gthErr_zero hz⟩
  · rw [if_neg h3] at h; exact absurd h h3

theorem lvsFrom_app : ∀ (xs ys : List Gth) (i : Nat), lvsFrom i (xs ++ ys) = lvsFrom i xs ++ lvsFrom (i + xs.length) ys
  | [], ys, i => by simp [lvsFrom]
  | x :: xs, ys, i => by
    simp only [List.cons_append, lvsFrom, lvsFrom_app xs ys (i + 1), List.append_assoc, List.length_cons]
    rw [show i + 1 + xs.length = i + (xs.length + 1) by omega]
theorem take_split {α : Type} {xs : List α} {k : Nat} {x : α} (h : xs[k]? = some x) : xs = xs.take k ++ x :: xs.drop (k + 1) ∧ xs.take (k + 1) = xs.take k ++ [x] := by
  obtain ⟨hk, rfl⟩ := List.getElem?_eq_some_iff.1 h
  exact ⟨by simp, by simp⟩
theorem lvsFrom_take {gs : List Gth} {k : Nat} {g : Gth} (h : gs[k]? = some g) : lvsFrom 0 (gs.take (k + 1)) = lvsFrom 0 (gs.take k) ++ lvsG k g := by
  have hk := (List.getElem?_eq_some_iff.1 h).1
  rw [(take_split h).2, lvsFrom_app]
  simp [lvsFrom, Nat.min_eq_left (Nat.le_of_lt hk)]
theorem lvs_split {gs : List Gth} {k : Nat} {g : Gth} (h : gs[k]? = some g) : ∃ rest, lvsFrom 0 gs = lvsFrom 0 (gs.take k) ++ (lvsG k g ++ rest) := by
  have hk := (List.getElem?_eq_some_iff.1 h).1
  refine ⟨lvsFrom (k + 1) (gs.drop (k + 1)), ?_⟩
  conv => lhs; rw [(take_split h).1]
  rw [lvsFrom_app]
  simp [lvsFrom, Nat.min_eq_left (Nat.le_of_lt hk)]
theorem lvsNum_mem {i k : Nat} {f : Fate} {x : Lf} (h : x ∈ lvsNum i k f) : x.gat = i ∧ x.num = k ∧ 0 ≤ x.plus ∧ (x.plus = 0 ∨ x.plus ≤ f.added) ∧ 0 ≤ x.kind ∧ x.kind ≤ 2 := by
  simp only [lvsNum, List.mem_append, List.mem_map, List.mem_range] at h
  rcases h with h | ⟨j, hj, rfl⟩
  · split at h
    · simp only [List.mem_singleton] at h
      subst h
      refine ⟨rfl, rfl, by simp, by simp, ?_, ?_⟩ <;> dsimp only <;> split <;> omega
    · cases h
  · exact ⟨rfl, rfl, by dsimp only; omega, by dsimp only; omega, by dsimp only; omega, by dsimp only; omega⟩
theorem lvsG_mem {i : Nat} {g : Gth} {x : Lf} (h : x ∈ lvsG i g) : x.gat = i ∧ 0 ≤ x.num ∧ x.num ≤ g.leaves ∧ 0 ≤ x.plus ∧ (x.plus = 0 ∨ ∃ n, x.plus ≤ (fateF g.chs n).added) := by
  simp only [lvsG, List.mem_flatMap, List.mem_range] at h
  obtain ⟨k, hk, h⟩ := h
  obtain ⟨h1, h2, h3, h4, -⟩ := lvsNum_mem h
  exact ⟨h1, by omega, by omega, h3, h4.imp id fun h => ⟨_, h⟩⟩
theorem lvsFrom_mem : ∀ {gs : List Gth} {i : Nat} {x : Lf}, x ∈ lvsFrom i gs → ∃ g, i ≤ x.gat ∧ gs[x.gat - i]? = some g ∧ x ∈ lvsG x.gat g
  | [], _, _, h => by cases h
  | g :: gs, i, x, h => by
    simp only [lvsFrom, List.mem_append] at h
    rcases h with h | h
    · have hx := (lvsG_mem h).1
      exact ⟨g, by omega, by rw [hx]; simp, by rw [hx]; exact h⟩
    · obtain ⟨g', h1, h2, h3⟩ := lvsFrom_mem h
      refine ⟨g', by omega, ?_, h3⟩
      rw [show x.gat - i = (x.gat - (i + 1)) + 1 by omega]
      simpa using h2
theorem lvs_mem {b : Bk} {x : Lf} (h : x ∈ lvs b) : ∃ g, b.gs[x.gat]? = some g ∧ x ∈ lvsG x.gat g := by
  obtain ⟨g, -, h2, h3⟩ := lvsFrom_mem h
  exact ⟨g, by simpa using h2, h3⟩
theorem lvsNum_len {i k : Nat} {f : Fate} : (lvsNum i k f).length ≤ 1 + f.added.toNat := by
  simp only [lvsNum, List.length_append, List.length_map, List.length_range]
  split <;> simp
theorem flatMap_len {α β : Type} {f : α → List β} {n : Nat} : ∀ {xs : List α}, (∀ x ∈ xs, (f x).length ≤ n) → (xs.flatMap f).length ≤ xs.length * n
  | [], _ => by simp
  | x :: xs, h => by
    have h1 := h x (by simp)
    have h2 := flatMap_len (xs := xs) fun y hy => h y (by simp [hy])
    simp only [List.flatMap_cons, List.length_append, List.length_cons, Nat.add_mul]
    omega
end Go.Proofs.YtnhacghjoikgpaaGreatDoor

/- How changes, items and books are written, as plain Lean. -/
namespace Go.Proofs.YtnhacghjoikgpaaGreatDoor
set_option linter.unusedSimpArgs false
set_option linter.unusedVariables false

/-- How a change is written. -/
def chT (c : Chg) : List UInt8 := if c.kind = 1 then 45 :: dec c.pos else if c.kind = 2 then 61 :: dec c.pos else dec c.pos ++ 43 :: dec c.many
/-- Words with a byte between each two. -/
def joinB (s : UInt8) : List (List UInt8) → List UInt8
  | [] => []
  | [x] => x
  | x :: y :: xs => x ++ s :: joinB s (y :: xs)
def chsT (cs : List Chg) : List UInt8 := if cs = [] then [] else 40 :: joinB 44 (cs.map chT) ++ [41]

/-- An item of a formula: one gathering, or all from the first signature to the last. -/
structure Itm where
  kind : Int
  fr : Int
  fl : Int
  lr : Int
  ll : Int
  leaves : Int
  chs : List Chg
def itmT (x : Itm) : List UInt8 := (if x.kind = 1 then sigT x.fr x.fl ++ 45 :: sigT x.lr x.ll else sigT x.fr x.fl) ++ dec x.leaves ++ chsT x.chs
def formulaT (signed : Int) (xs : List Itm) : List UInt8 := (xs.flatMap fun x => itmT x ++ [32]) ++ 36 :: dec signed
/-- The signature behind a lettered one (of a place among all of them). -/
def nextS (r l : Int) : Int × Int := if l < 22 then (r, l + 1) else (r + 1, 0)
def takesB (x : Itm) (g : Gth) : Bool := decide (x.chs.length = 0) && decide (g.chs.length = 0) && decide (x.leaves = g.leaves) && decide (x.ll < 23) && decide (nextS x.lr x.ll = (g.round, g.letter))
def itm1 (g : Gth) : Itm := ⟨0, g.round, g.letter, g.round, g.letter, g.leaves, g.chs⟩
/-- One more gathering behind items. -/
def itmStep (xs : List Itm) (g : Gth) : List Itm := match xs.getLast? with
  | some x => if takesB x g then xs.dropLast ++ [{ x with kind := 1, lr := g.round, ll := g.letter }] else xs ++ [itm1 g]
  | none => [itm1 g]
def itmsOf (gs : List Gth) : List Itm := gs.foldl itmStep []
def writeF (b : Bk) : List UInt8 := formulaT b.signed (itmsOf b.gs)

theorem chT_len (c : Chg) : (chT c).length ≤ 5 := by
  have h1 := show (dec c.pos).length ≤ 2 by unfold dec decN; split <;> simp
  have h2 := show (dec c.many).length ≤ 2 by unfold dec decN; split <;> simp
  unfold chT
  split
  · simp; omega
  · split <;> simp <;> omega
theorem joinB_len {s : UInt8} {n : Nat} : ∀ {xs : List (List UInt8)}, (∀ x ∈ xs, x.length ≤ n) → (joinB s xs).length ≤ xs.length * (n + 1)
  | [], _ => by simp [joinB]
  | [x], h => by have := h x (by simp); simp [joinB]; omega
  | x :: y :: xs, h => by
    have h1 := h x (by simp)
    have h2 := joinB_len (s := s) (n := n) (xs := y :: xs) fun z hz => h z (List.mem_cons_of_mem _ hz)
    simp only [joinB, List.length_append, List.length_cons, Nat.add_mul] at *
    omega
theorem chsT_len {cs : List Chg} (h : cs.length ≤ 4) : (chsT cs).length ≤ 26 := by
  unfold chsT
  split
  · simp
  · have := joinB_len (s := 44) (n := 5) (xs := cs.map chT) fun x hx => by
      obtain ⟨c, -, rfl⟩ := List.mem_map.1 hx
      exact chT_len c
    simp only [List.length_map] at this
    simp
    omega

end Go.Proofs.YtnhacghjoikgpaaGreatDoor

/- The readers of formulas and leaves, as plain Lean. -/
namespace Go.Proofs.YtnhacghjoikgpaaGreatDoor
set_option linter.unusedSimpArgs false
set_option linter.unusedVariables false

abbrev Bs := List UInt8

/-- A word is read if it comes next. -/
def skipF (w s : Bs) : Option Bs := if w.isPrefixOf s then some (s.drop w.length) else none
def digitF : Bs → Option (Int × Bs)
  | c :: t => if 48 ≤ c.toNat ∧ c.toNat ≤ 57 then some ((c.toNat : Int) - 48, t) else none
  | [] => none
/-- The digits behind one that is not a zero: none of the numbers may be above 12. -/
def numF : Nat → Int → Bs → Option (Int × Bs)
  | 0, n, s => some (n, s)
  | f + 1, n, s => if n ≤ 0 then some (n, s) else match digitF s with
    | none => some (n, s)
    | some (d, t) => if 12 < 10 * n + d then none else numF f (10 * n + d) t
def numberF (s : Bs) : Option (Int × Bs) := match digitF s with
  | none => none
  | some (n, t) => numF 3 n t
def roundF (s : Bs) : Int × Bs := match skipF [50] s with
  | some t => (2, t)
  | none => match skipF [51] s with
    | some t => (3, t)
    | none => (1, s)
def letterAtF : List UInt8 → Int → Bs → Option (Int × Bs)
  | [], _, _ => none
  | c :: cs, i, s => match skipF [c] s with
    | some t => some (i, t)
    | none => letterAtF cs (i + 1) s
def letterF (s : Bs) : Option (Int × Bs) := match letterAtF letterL 0 s with
  | some r => some r
  | none => match skipF [112, 105] s with
    | some t => some (23, t)
    | none => match skipF [99, 104, 105] s with
      | some t => some (24, t)
      | none => none
def sigF (s : Bs) : Option ((Int × Int) × Bs) := match letterF (roundF s).2 with
  | some (l, t) => some (((roundF s).1, l), t)
  | none => none
def changeF (s : Bs) : Option (Chg × Bs) := match skipF [45] s with
  | some t => match numberF t with
    | some (n, u) => some (⟨1, n, 0⟩, u)
    | none => none
  | none => match skipF [61] s with
    | some t => match numberF t with
      | some (n, u) => some (⟨2, n, 0⟩, u)
      | none => none
    | none => match numberF s with
      | none => none
      | some (n, t) => match skipF [43] t with
        | none => none
        | some u => match numberF u with
          | none => none
          | some (m, v) => some (⟨3, n, m⟩, v)
/-- The changes behind the first one; f: how many there may be yet. -/
def moreF : Nat → List Chg → Bs → Option (List Chg × Bs)
  | 0, cs, s => match skipF [44] s with
    | some _ => none
    | none => match skipF [41] s with
      | some u => some (cs, u)
      | none => none
  | f + 1, cs, s => match skipF [44] s with
    | some t => match changeF t with
      | some (c, u) => moreF f (cs ++ [c]) u
      | none => none
    | none => match skipF [41] s with
      | some u => some (cs, u)
      | none => none
def changesF (s : Bs) : Option (List Chg × Bs) := match skipF [40] s with
  | none => some ([], s)
  | some t => match changeF t with
    | none => none
    | some (c, u) => moreF 3 [c] u
def itemF (s : Bs) : Option (Itm × Bs) := match sigF s with
  | none => none
  | some (a, t) => match skipF [45] t with
    | none => match numberF t with
      | none => none
      | some (n, u) => match changesF u with
        | none => none
        | some (cs, v) => some (⟨0, a.1, a.2, a.1, a.2, n, cs⟩, v)
    | some t => match sigF t with
      | none => none
      | some (z, u) => if a.2 < 23 ∧ z.2 < 23 ∧ behindB z.1 z.2 a.1 a.2 = true then match numberF u with
          | none => none
          | some (n, v) => some (⟨1, a.1, a.2, z.1, z.2, n, []⟩, v)
        else none
def itemsF : Nat → Bs → Option (List Itm × Bs)
  | 0, _ => none
  | f + 1, s => match skipF [36] s with
    | some t => some ([], t)
    | none => match itemF s with
      | none => none
      | some (x, t) => match skipF [32] t with
        | none => none
        | some u => match itemsF f u with
          | none => none
          | some (xs, v) => some (x :: xs, v)
/-- The signatures from one to another one. -/
def runS : Nat → Int × Int → Int × Int → List (Int × Int)
  | 0, s, _ => [s]
  | n + 1, s, l => if s = l then [s] else s :: runS n (nextS s.1 s.2) l
def rankS (r l : Int) : Int := (r - 1) * 23 + l
def itmGs (x : Itm) : List Gth := if x.kind = 0 then [⟨x.fr, x.fl, x.leaves, x.chs⟩] else (runS (rankS x.lr x.ll - rankS x.fr x.fl).toNat (x.fr, x.fl) (x.lr, x.ll)).map fun s => ⟨s.1, s.2, x.leaves, []⟩
def gsOf (xs : List Itm) : List Gth := xs.flatMap itmGs
def bookF (s : Bs) : Option (Bk × Bs) := match itemsF (s.length + 1) s with
  | none => none
  | some (xs, t) => match numberF t with
    | none => none
    | some (n, u) => some (⟨n, gsOf xs⟩, u)
/-- All of a text. -/
def allF {α : Type} (r : Option (α × Bs)) : Option α := match r with
  | some (x, []) => some x
  | _ => none
def readF (s : Bs) : Bk × Int := if 1000 < s.length then (⟨0, []⟩, 3) else match allF (bookF s) with
  | none => (⟨0, []⟩, 6)
  | some b => if errF b = 0 then (b, 0) else (⟨0, []⟩, 6)

/-- The name of a leaf. -/
def plusF (s : Bs) : Option (Int × Bs) := match skipF [43] s with
  | none => some (0, s)
  | some t => match numberF t with
    | none => none
    | some (p, u) => if p = 0 then none else some (p, u)
def leafNameF (s : Bs) : Option ((Int × Int × Int × Int) × Bs) := match sigF s with
  | none => none
  | some (a, t) => match numberF t with
    | none => none
    | some (n, u) => match plusF u with
      | none => none
      | some (p, v) => if possibleB n p = true then some ((a.1, a.2, n, p), v) else none

theorem skipF_len {w s t : Bs} (h : skipF w s = some t) : t.length + w.length = s.length := by
  unfold skipF at h
  split at h
  · rename_i hp
    have := (List.isPrefixOf_iff_prefix.1 hp).length_le
    cases h
    simp only [List.length_drop]
    omega
  · cases h
theorem digitF_len {s t : Bs} {n : Int} (h : digitF s = some (n, t)) : t.length + 1 = s.length ∧ 0 ≤ n ∧ n ≤ 9 := by
  cases s with
  | nil => cases h
  | cons c s =>
    simp only [digitF] at h
    split at h
    · simp only [Option.some.injEq, Prod.mk.injEq] at h
      obtain ⟨rfl, rfl⟩ := h
      refine ⟨rfl, by omega, by omega⟩
    · cases h
theorem numF_len : ∀ {f : Nat} {n m : Int} {s t : Bs}, numF f n s = some (m, t) → 0 ≤ n ∧ n ≤ 12 → t.length ≤ s.length ∧ 0 ≤ m ∧ m ≤ 12
  | 0, n, m, s, t, h, hn => by
    simp only [numF, Option.some.injEq, Prod.mk.injEq] at h
    obtain ⟨rfl, rfl⟩ := h
    exact ⟨Nat.le_refl _, hn⟩
  | f + 1, n, m, s, t, h, hn => by
    simp only [numF] at h
    split at h
    · simp only [Option.some.injEq, Prod.mk.injEq] at h
      obtain ⟨rfl, rfl⟩ := h
      exact ⟨Nat.le_refl _, hn⟩
    · split at h
      · simp only [Option.some.injEq, Prod.mk.injEq] at h
        obtain ⟨rfl, rfl⟩ := h
        exact ⟨Nat.le_refl _, hn⟩
      · rename_i d u hd
        split at h
        · cases h
        · have := digitF_len hd
          have := numF_len h (by omega)
          omega
theorem numberF_len {s t : Bs} {n : Int} (h : numberF s = some (n, t)) : t.length < s.length ∧ 0 ≤ n ∧ n ≤ 12 := by
  unfold numberF at h
  split at h
  · cases h
  · rename_i d u hd
    have := digitF_len hd
    have := numF_len h (by omega)
    omega
theorem roundF_len {s : Bs} : (roundF s).2.length ≤ s.length ∧ 1 ≤ (roundF s).1 ∧ (roundF s).1 ≤ 3 := by
  unfold roundF
  split
  · rename_i t h
    have := skipF_len h
    simp only [List.length_cons, List.length_nil] at this
    exact ⟨by simp; omega, by simp, by simp⟩
  · split
    · rename_i t h
      have := skipF_len h
      simp only [List.length_cons, List.length_nil] at this
      exact ⟨by simp; omega, by simp, by simp⟩
    · exact ⟨by simp, by simp, by simp⟩
theorem letterAtF_len : ∀ {cs : List UInt8} {i n : Int} {s t : Bs}, letterAtF cs i s = some (n, t) → t.length < s.length ∧ i ≤ n ∧ n < i + cs.length
  | [], _, _, _, _, h => by cases h
  | c :: cs, i, n, s, t, h => by
    simp only [letterAtF] at h
    split at h
    · rename_i u hu
      have := skipF_len hu
      simp only [Option.some.injEq, Prod.mk.injEq] at h
      obtain ⟨rfl, rfl⟩ := h
      simp only [List.length_cons, List.length_nil] at this ⊢
      omega
    · have := letterAtF_len h
      simp only [List.length_cons] at this ⊢
      omega
theorem letterF_len {s t : Bs} {n : Int} (h : letterF s = some (n, t)) : t.length < s.length ∧ 0 ≤ n ∧ n ≤ 24 := by
  unfold letterF at h
  split at h
  · rename_i r hr
    cases h
    have := letterAtF_len hr
    have e : letterL.length = 23 := rfl
    omega
  · split at h
    · rename_i u hu
      have := skipF_len hu
      simp only [Option.some.injEq, Prod.mk.injEq] at h
      obtain ⟨rfl, rfl⟩ := h
      simp only [List.length_cons, List.length_nil] at this
      omega
    · split at h
      · rename_i u hu
        have := skipF_len hu
        simp only [Option.some.injEq, Prod.mk.injEq] at h
        obtain ⟨rfl, rfl⟩ := h
        simp only [List.length_cons, List.length_nil] at this
        omega
      · cases h
theorem sigF_len {s t : Bs} {a : Int × Int} (h : sigF s = some (a, t)) : t.length < s.length ∧ sigB a.1 a.2 = true := by
  unfold sigF at h
  split at h
  · rename_i l u hu
    simp only [Option.some.injEq, Prod.mk.injEq] at h
    obtain ⟨rfl, rfl⟩ := h
    have h1 := letterF_len hu
    have h2 := roundF_len (s := s)
    refine ⟨by omega, ?_⟩
    simp only [sigB, inB, Bool.and_eq_true, decide_eq_true_eq]
    omega
  · cases h
/-- A change that is read: its numbers are at most 12. -/
def ChRead (c : Chg) : Prop := (c.kind = 1 ∨ c.kind = 2 ∨ c.kind = 3) ∧ 0 ≤ c.pos ∧ c.pos ≤ 12 ∧ 0 ≤ c.many ∧ c.many ≤ 12
theorem changeF_len {s t : Bs} {c : Chg} (h : changeF s = some (c, t)) : t.length < s.length ∧ ChRead c := by
  unfold changeF at h
  split at h
  · rename_i u hu
    have := skipF_len hu
    split at h
    · rename_i n v hn
      have := numberF_len hn
      simp only [Option.some.injEq, Prod.mk.injEq] at h
      obtain ⟨rfl, rfl⟩ := h
      simp only [List.length_cons, List.length_nil] at *
      exact ⟨by omega, Or.inl rfl, this.2.1, this.2.2, by simp, by simp⟩
    · cases h
  · split at h
    · rename_i u hu
      have := skipF_len hu
      split at h
      · rename_i n v hn
        have := numberF_len hn
        simp only [Option.some.injEq, Prod.mk.injEq] at h
        obtain ⟨rfl, rfl⟩ := h
        simp only [List.length_cons, List.length_nil] at *
        exact ⟨by omega, Or.inr (Or.inl rfl), this.2.1, this.2.2, by simp, by simp⟩
      · cases h
    · split at h
      · cases h
      · rename_i n v hn
        have h1 := numberF_len hn
        split at h
        · cases h
        · rename_i u hu
          have h2 := skipF_len hu
          split at h
          · cases h
          · rename_i m x hm
            have h3 := numberF_len hm
            simp only [Option.some.injEq, Prod.mk.injEq] at h
            obtain ⟨rfl, rfl⟩ := h
            simp only [List.length_cons, List.length_nil] at *
            exact ⟨by omega, Or.inr (Or.inr rfl), h1.2.1, h1.2.2, h3.2.1, h3.2.2⟩
theorem moreF_len : ∀ {f : Nat} {cs ds : List Chg} {s t : Bs}, moreF f cs s = some (ds, t) → (∀ c ∈ cs, ChRead c) → t.length < s.length ∧ (∀ c ∈ ds, ChRead c) ∧ ds.length ≤ cs.length + f ∧ cs.length ≤ ds.length
  | 0, cs, ds, s, t, h, hc => by
    simp only [moreF] at h
    split at h
    · cases h
    · split at h
      · rename_i u hu
        have := skipF_len hu
        simp only [Option.some.injEq, Prod.mk.injEq] at h
        obtain ⟨rfl, rfl⟩ := h
        simp only [List.length_cons, List.length_nil] at this
        exact ⟨by omega, hc, by omega, by omega⟩
      · cases h
  | f + 1, cs, ds, s, t, h, hc => by
    simp only [moreF] at h
    split at h
    · rename_i u hu
      have := skipF_len hu
      split at h
      · rename_i c v hv
        have h1 := changeF_len hv
        obtain ⟨h2, h3, h4, h5⟩ := moreF_len h (fun c' hc' => by
          rcases List.mem_append.1 hc' with h | h
          · exact hc _ h
          · simp only [List.mem_singleton] at h; subst h; exact h1.2)
        simp only [List.length_append, List.length_cons, List.length_nil] at *
        exact ⟨by omega, h3, by omega, by omega⟩
      · cases h
    · split at h
      · rename_i u hu
        have := skipF_len hu
        simp only [Option.some.injEq, Prod.mk.injEq] at h
        obtain ⟨rfl, rfl⟩ := h
        simp only [List.length_cons, List.length_nil] at this
        exact ⟨by omega, hc, by omega, by omega⟩
      · cases h
theorem changesF_len {s t : Bs} {cs : List Chg} (h : changesF s = some (cs, t)) : t.length ≤ s.length ∧ (∀ c ∈ cs, ChRead c) ∧ cs.length ≤ 4 := by
  unfold changesF at h
  split at h
  · simp only [Option.some.injEq, Prod.mk.injEq] at h
    obtain ⟨rfl, rfl⟩ := h
    exact ⟨Nat.le_refl _, (fun c hc => by cases hc), by simp⟩
  · rename_i u hu
    have := skipF_len hu
    split at h
    · cases h
    · rename_i c v hv
      have h1 := changeF_len hv
      obtain ⟨h2, h3, h4, -⟩ := moreF_len h (fun c' hc' => by simp only [List.mem_singleton] at hc'; subst hc'; exact h1.2)
      simp only [List.length_cons, List.length_nil] at *
      exact ⟨by omega, h3, by omega⟩
/-- An item that is read. -/
structure ItRead (x : Itm) : Prop where
  first : sigB x.fr x.fl = true
  last : sigB x.lr x.ll = true
  leaves : 0 ≤ x.leaves ∧ x.leaves ≤ 12
  few : x.chs.length ≤ 4
  chs : ∀ c ∈ x.chs, ChRead c
  kind : (x.kind = 0 ∧ x.fr = x.lr ∧ x.fl = x.ll) ∨ (x.kind = 1 ∧ x.fl < 23 ∧ x.ll < 23 ∧ behindB x.lr x.ll x.fr x.fl = true ∧ x.chs = [])
theorem itemF_len {s t : Bs} {x : Itm} (h : itemF s = some (x, t)) : t.length < s.length ∧ ItRead x := by
  unfold itemF at h
  split at h
  · cases h
  · rename_i a u hu
    have h1 := sigF_len hu
    split at h
    · split at h
      · cases h
      · rename_i n v hv
        have h2 := numberF_len hv
        split at h
        · cases h
        · rename_i cs y hy
          have h3 := changesF_len hy
          simp only [Option.some.injEq, Prod.mk.injEq] at h
          obtain ⟨rfl, rfl⟩ := h
          exact ⟨by omega, h1.2, h1.2, h2.2, h3.2.2, h3.2.1, Or.inl ⟨rfl, rfl, rfl⟩⟩
    · rename_i u2 hu2
      have := skipF_len hu2
      split at h
      · cases h
      · rename_i z v hv
        have h2 := sigF_len hv
        split at h
        · rename_i hc
          split at h
          · cases h
          · rename_i n y hy
            have h3 := numberF_len hy
            simp only [Option.some.injEq, Prod.mk.injEq] at h
            obtain ⟨rfl, rfl⟩ := h
            exact ⟨by omega, h1.2, h2.2, h3.2, by simp, (fun c hc => by cases hc), Or.inr ⟨rfl, hc.1, hc.2.1, hc.2.2, rfl⟩⟩
        · cases h
theorem itemsF_more : ∀ {f : Nat} {s : Bs} (g : Nat), s.length < f → itemsF (f + g) s = itemsF f s
  | 0, _, _, h => by omega
  | f + 1, s, g, h => by
    rw [show f + 1 + g = (f + g) + 1 by omega]
    simp only [itemsF]
    split
    · rfl
    · split
      · rfl
      · rename_i x t hx
        have h1 := itemF_len hx
        split
        · rfl
        · rename_i u hu
          have h2 := skipF_len hu
          rw [itemsF_more g (by omega)]
/-- What is left to read behind some items. -/
theorem itemsF_step {f : Nat} {s t u : Bs} {x : Itm} (h0 : skipF [36] s = none) (hx : itemF s = some (x, t)) (hu : skipF [32] t = some u) : itemsF (f + 1) s = (itemsF f u).map fun r => (x :: r.1, r.2) := by
  simp only [itemsF, h0, hx, hu]
  cases itemsF f u <;> rfl

end Go.Proofs.YtnhacghjoikgpaaGreatDoor

/- Contracts of the reader: a word, a digit, a number; and where it ends. -/
namespace Go.Proofs.YtnhacghjoikgpaaGreatDoor
set_option linter.unusedSimpArgs false
set_option linter.unusedVariables false
open Go Go.RowKit Go.Sort Go.BigFrame

/-- How the reading ends where a text has not the form. -/
abbrev panicE : Ending := .panicked [{ v := .iface 32 (.int .i64 6), recovered := false }]
theorem dec_one {k : Nat} (h : k < 10) : dec (k : Int) = [UInt8.ofNat (48 + k)] := by simp [dec, decN, h]
theorem skip_one (c d : UInt8) (s : Bs) : skipF [c] (d :: s) = if c = d then some s else none := by
  unfold skipF
  simp only [List.isPrefixOf]
  by_cases h : c = d <;> simp [h]
theorem skip_nil (c : UInt8) : skipF [c] [] = none := rfl
theorem digit_hit {s t : Bs} {n : Int} (h : digitF s = some (n, t)) : ∃ k : Nat, n = k ∧ k < 10 ∧ skipF (dec k) s = some t ∧ ∀ j : Nat, j < k → skipF (dec j) s = none := by
  cases s with
  | nil => cases h
  | cons c s =>
    simp only [digitF] at h
    split at h
    · rename_i hc
      simp only [Option.some.injEq, Prod.mk.injEq] at h
      obtain ⟨rfl, rfl⟩ := h
      refine ⟨c.toNat - 48, by omega, by omega, ?_, fun j hj => ?_⟩
      · rw [dec_one (by omega), skip_one, if_pos]
        rw [show 48 + (c.toNat - 48) = c.toNat by omega]; simp
      · rw [dec_one (by omega), skip_one, if_neg]
        intro e
        have := congrArg UInt8.toNat e
        simp only [UInt8.toNat_ofNat'] at this
        omega
    · cases h
theorem digit_miss {s : Bs} (h : digitF s = none) (j : Nat) (hj : j < 10) : skipF (dec j) s = none := by
  rw [dec_one hj]
  cases s with
  | nil => rfl
  | cons c s =>
    simp only [digitF] at h
    split at h
    · cases h
    · rename_i hc
      rw [skip_one, if_neg]
      intro e
      have := congrArg UInt8.toNat e
      simp only [UInt8.toNat_ofNat'] at this
      omega

end Go.Proofs.YtnhacghjoikgpaaGreatDoor

/- Contracts of the reader: a letter, a signature, a change. -/
namespace Go.Proofs.YtnhacghjoikgpaaGreatDoor
set_option linter.unusedSimpArgs false
set_option linter.unusedVariables false
open Go Go.RowKit Go.Sort Go.BigFrame Go.Lib

theorem letterAt_hit : ∀ {cs : List UInt8} {i n : Int} {s t : Bs}, letterAtF cs i s = some (n, t) → ∃ k : Nat, n = i + k ∧ k < cs.length ∧ skipF [cs.getD k 0] s = some t ∧ ∀ j, j < k → skipF [cs.getD j 0] s = none
  | [], _, _, _, _, h => by cases h
  | c :: cs, i, n, s, t, h => by
    simp only [letterAtF] at h
    split at h
    · rename_i u hu
      simp only [Option.some.injEq, Prod.mk.injEq] at h
      obtain ⟨rfl, rfl⟩ := h
      exact ⟨0, by omega, by simp, hu, fun j hj => by omega⟩
    · rename_i hu
      obtain ⟨k, h1, h2, h3, h4⟩ := letterAt_hit h
      refine ⟨k + 1, by omega, by simp; omega, h3, fun j hj => ?_⟩
      cases j with
      | zero => exact hu
      | succ j => exact h4 j (by omega)
theorem letterAt_miss : ∀ {cs : List UInt8} {i : Int} {s : Bs}, letterAtF cs i s = none → ∀ j, j < cs.length → skipF [cs.getD j 0] s = none
  | [], _, _, _, j, hj => by simp at hj
  | c :: cs, i, s, h, j, hj => by
    simp only [letterAtF] at h
    split at h
    · cases h
    · rename_i hu
      cases j with
      | zero => exact hu
      | succ j => exact letterAt_miss h j (by simpa using hj)

abbrev LB : ByteArray := ⟨#[65, 66, 67, 68, 69, 70, 71, 72, 73, 75, 76, 77, 78, 79, 80, 81, 82, 83, 84, 86, 88, 89, 90]⟩
theorem LB_at : ∀ k, (h : k < 23) → (LB[k]'h).toNat < 128 ∧ LB[k]'h = letterL.getD k 0 := by decide +kernel
theorem next_letter (w : World) (I k : Nat) (ty : TypeId) (hk : k < 23) (h : w.heap[I]? = some (.stringIter LB k)) :
    (Instr.next (.pointer (some ⟨I, 0, none⟩)) true ty).run Tryz.prog w = .ok (.tuple #[.bool true, .int .i64 k, .int .i32 (letterL.getD k 0).toNat]) (w.iterAt I LB (k + 1)) := by
  rw [run_next_ascii_at w I LB k ty h hk (LB_at k hk).1, (LB_at k hk).2]
theorem next_end (w : World) (I : Nat) (ty : TypeId) (h : w.heap[I]? = some (.stringIter LB 23)) :
    (Instr.next (.pointer (some ⟨I, 0, none⟩)) true ty).run Tryz.prog w = .ok (.tuple #[.bool false]) w :=
  run_next_end_at w I LB 23 ty h (by decide)
theorem OnlyIn.iterAt {X : Nat → Prop} (W : World) (k : Nat) (s : ByteArray) (pos : Nat) (h : X k) : OnlyIn X W (W.iterAt k s pos) :=
  ⟨rfl, rfl, rfl, by rw [iterAt_size]; exact Nat.le_refl _, fun i _ hx => iterAt_other W k i s pos (fun e => hx (e ▸ h))⟩

theorem OnlyIn.fresh {X : Nat → Prop} {w W W' : World} (h : OnlyIn X w W) (k : OnlyIn (fun j => w.heap.size ≤ j) W W') : OnlyIn X w W' :=
  ⟨k.os.trans h.os, k.tape.trans h.tape, k.output.trans h.output, Nat.le_trans h.size k.size, fun i hi hx => (k.block i (Nat.lt_of_lt_of_le hi h.size) (fun hj => by omega)).trans (h.block i hi hx)⟩
theorem enc_letter : ∀ k, k < 23 → Utf8.encode ((letterL.getD k 0).toNat : Int) = ⟨[letterL.getD k 0].toArray⟩ := by decide +kernel

end Go.Proofs.YtnhacghjoikgpaaGreatDoor

/- Contract of Name. -/
namespace Go.Proofs.YtnhacghjoikgpaaGreatDoor
set_option linter.unusedSimpArgs false
set_option linter.unusedVariables false
open Go Go.RowKit Go.Sort Go.BigFrame Go.Lib

/-- Whether a byte may stand in a name, first or behind. -/
def smallB (c : Nat) : Bool := decide (97 ≤ c) && decide (c ≤ 122)
def innerB (c : Nat) : Bool := (decide (48 ≤ c) && decide (c ≤ 57)) || decide (c = 46)
def nameL : Nat → Bs → Bool
  | _, [] => true
  | i, c :: cs => if smallB c.toNat || (decide (i ≠ 0) && innerB c.toNat) then nameL (i + 1) cs else false
def nameB (s : Bs) : Bool := decide (1 ≤ s.length) && decide (s.length ≤ 16) && nameL 0 s

/-- At the rune with a number. -/
structure AtRune (w wr : World) (s : Bs) (k : Nat) : Prop where
  it : wr.heap[w.heap.size + 1]? = some (.stringIter ⟨s.toArray⟩ k)
  below : Below w.heap.size w wr
  rest : nameL 0 s = nameL k (s.drop k)
theorem rune_at {s : Bs} {k : Nat} {c : UInt8} (h : s[k]? = some c) : ∃ r d : Nat, Utf8.decode ⟨s.toArray⟩ k = (r, d) ∧ ((r = c.toNat ∧ d = 1 ∧ r < 128) ∨ (128 ≤ r ∧ 128 ≤ c.toNat)) := by
  obtain ⟨hk, hc⟩ := List.getElem?_eq_some_iff.1 h
  have hk' : k < (⟨s.toArray⟩ : ByteArray).size := by rw [size_bytes]; exact hk
  have hc' : (⟨s.toArray⟩ : ByteArray)[k] = c := by rw [← hc]; rfl
  by_cases ha : c.toNat < 128
  · refine ⟨_, _, decode_ascii _ k hk' (by rw [hc']; exact ha), Or.inl ⟨by rw [hc'], rfl, by rw [hc']; exact ha⟩⟩
  · exact ⟨_, _, rfl, Or.inr ⟨(decode_high _ k hk' (by rw [hc']; omega)).1, by omega⟩⟩

set_option maxHeartbeats 2000000 in
theorem Name_any (s : Bs) (w : World) (hs : s.length ≤ 9223372036854775807) :
    Calls Tryz.prog 131 #[S s] w fun e w' => e = .returned (.bool (nameB s)) ∧ Below w.heap.size w w' := by
  have hzs : (⟨s.toArray⟩ : ByteArray).size = s.length := size_bytes s
  have HZ := Lib.hid hzs
  clear hzs
  cases hl : inB 1 16 s.length with
  | false =>
    have hF : Hid (nameB s = false) := by
      show _ = _
      unfold nameB
      simp only [inB, Bool.and_eq_false_iff, decide_eq_false_iff_not] at hl
      have : (decide (1 ≤ s.length) && decide (s.length ≤ 16)) = false := by
        rcases hl with h | h
        · rw [decide_eq_false (by omega)]; rfl
        · rw [decide_eq_false (p := s.length ≤ 16) (by omega), Bool.and_false]
      rw [this]; rfl
    go_enter Tryz.func131, Tryz.ntmps131
    go_wp2_with fail
    refine (within_one _ _ (s.length : Int) _ _ (by simp [World.cell?_alloc_at])).mono ?_
    rintro e w1 ⟨rfl, rfl⟩
    rw [hl]
    go_wp2_with fail
    go_ret
    exact ⟨by rw [hF.out]; rfl, (by repeat (first | exact Below.refl _ _ | assumption | (refine Below.alloc ?_ ?_ _; rotate_left; · (first | omega | (simp; done) | (simp; omega) | fail)) | (refine Below.setCell ?_ ?_ _; rotate_left; · (first | omega | (simp; done) | (simp; omega) | fail)) | refine Below.drew ?_ | fail))⟩
  | true =>
    have hb : 1 ≤ s.length ∧ s.length ≤ 16 := by
      simp only [inB, Bool.and_eq_true, decide_eq_true_eq] at hl; omega
    have hF0 : Hid (nameB s = nameL 0 s) := by
      show _ = _
      unfold nameB
      rw [decide_eq_true hb.1, decide_eq_true hb.2]; rfl
    obtain ⟨n, hn⟩ : ∃ n, n = s.length := ⟨_, rfl⟩
    have HNN := Lib.hid hn
    have hn16 : n ≤ 16 := by omega
    rw [← hn] at hl
    go_enter Tryz.func131, Tryz.ntmps131
    go_wp2_with fail
    refine (within_one _ _ (s.length : Int) _ _ (by simp [World.cell?_alloc_at])).mono ?_
    rintro e w1 ⟨rfl, rfl⟩
    rw [← hn, hl]
    have H0 : Hid (AtRune w ((w.alloc (.cells #[.int .i64 n] 3)).iter ⟨s.toArray⟩ 0) s 0) :=
      ⟨by have := World.iter_heap (w.alloc (.cells #[.int .i64 n] 3)) ⟨s.toArray⟩ 0; simpa using this, ((Below.refl _ _).alloc (Nat.le_refl _) _).alloc (by simp) _, rfl⟩
    clear hn hl hb hs
    go_wp2_with fail
    go_loopw [3] (fun v wr => ∃ k : Nat, k ≤ n ∧ Hid (AtRune w wr s k)) (fun _ wr => n - wr.iterPos (w.heap.size + 1))
    case atStart => exact ⟨0, by omega, H0⟩
    case round =>
      clear H0
      obtain ⟨k, hk, hA⟩ := hrel
      have HIT := Lib.hid hA.out.it
      by_cases hlt : k < n
      · obtain ⟨c, hc⟩ : ∃ c, s[k]? = some c := ⟨_, List.getElem?_eq_getElem (by have := HNN.out; omega)⟩
        obtain ⟨r, d, hdec, hrd⟩ := rune_at hc
        have hstep : nameL 0 s = if smallB c.toNat || (decide (k ≠ 0) && innerB c.toNat) then nameL (k + 1) (s.drop (k + 1)) else false := by
          rw [hA.out.rest, List.drop_eq_getElem?_toList_append, hc]
          rfl
        have hnx := fun ty => run_next_any_at (P := Tryz.prog) wr (w.heap.size + 1) ⟨s.toArray⟩ k ty hA.out.it (by rw [HZ.out]; have := HNN.out; omega)
        rw [hdec] at hnx
        dsimp only at hnx
        obtain ⟨wn, hwn⟩ : ∃ wn, wn = wr.iterAt (w.heap.size + 1) ⟨s.toArray⟩ (k + d) := ⟨_, rfl⟩
        rw [← hwn] at hnx
        have HBN : Hid (Below w.heap.size w wn) := by rw [hwn]; exact below_iterAt hA.out.below (by omega) _ _
        have hsm : smallB c.toNat = smallB r := by
          rcases hrd with ⟨h, -, -⟩ | ⟨h1, h2⟩
          · rw [h]
          · unfold smallB; rw [decide_eq_false (p := c.toNat ≤ 122) (by omega), decide_eq_false (p := r ≤ 122) (by omega)]; simp
        have hin : innerB c.toNat = innerB r := by
          rcases hrd with ⟨h, -, -⟩ | ⟨h1, h2⟩
          · rw [h]
          · unfold innerB; rw [decide_eq_false (p := c.toNat ≤ 57) (by omega), decide_eq_false (p := r ≤ 57) (by omega), decide_eq_false (p := c.toNat = 46) (by omega), decide_eq_false (p := r = 46) (by omega)]; simp
        rw [hsm, hin] at hstep
        have HST := Lib.hid hstep
        have HNX : (r < 128) → Hid (nameL 0 s = nameL (k + 1) (s.drop (k + 1)) → AtRune w wn s (k + 1)) := fun hr => by
          intro hrest
          have hd1 : d = 1 := by rcases hrd with ⟨-, h, -⟩ | ⟨h, -⟩ <;> omega
          subst hd1
          exact ⟨by rw [hwn]; exact iterAt_heap _ _ _ _ _ hA.out.it, HBN.out, hrest⟩
        clear hwn hstep hsm hin hc hdec hrd hA
        by_cases hk0 : k = 0
        · subst hk0
          have hcs : (97 ≤ r ∧ r ≤ 122) ∨ r < 97 ∨ 122 < r := by omega
          rcases hcs with ⟨h1, h2⟩ | h1 | h1
          · have HN : Hid (AtRune w wn s (0 + 1)) := (HNX (by omega)).out (by rw [HST.out]; simp [smallB, h1, h2])
            clear HNX
            have i1 : (97 : Int) ≤ (r : Int) := by omega
            have i2 : (r : Int) ≤ 122 := by omega
            go_wp2_with fail
            all_goals
              go_roundw
              case rel => exact ⟨0 + 1, by omega, HN.out⟩
              case measure => rw [iterPos_of HIT.out, iterPos_of HN.out.it]; omega
          · have HF : Hid (nameB s = false) := by show _ = _; rw [hF0.out, HST.out]; simp [smallB]; omega
            clear HNX
            have i1 : ¬ (97 : Int) ≤ (r : Int) := by omega
            go_wp2_with fail
            all_goals
              go_ret
              exact ⟨by rw [HF.out]; rfl, HBN.out⟩
          · have HF : Hid (nameB s = false) := by show _ = _; rw [hF0.out, HST.out]; simp [smallB]; omega
            clear HNX
            have i1 : (97 : Int) ≤ (r : Int) := by omega
            have i2 : ¬ (r : Int) ≤ 122 := by omega
            go_wp2_with fail
            all_goals
              go_ret
              exact ⟨by rw [HF.out]; rfl, HBN.out⟩
        · have hkb : ((k : Int) == 0) = false := by simp [hk0]
          have hcs : (97 ≤ r ∧ r ≤ 122) ∨ (48 ≤ r ∧ r ≤ 57) ∨ r = 46 ∨ (r < 48 ∧ r ≠ 46) ∨ (57 < r ∧ r < 97) ∨ 122 < r := by omega
          rcases hcs with ⟨h1, h2⟩ | ⟨h1, h2⟩ | h1 | ⟨h1, h2⟩ | ⟨h1, h2⟩ | h1
          · have HN : Hid (AtRune w wn s (k + 1)) := (HNX (by omega)).out (by rw [HST.out]; simp [smallB, h1, h2])
            clear HNX hk0
            have i1 : (97 : Int) ≤ (r : Int) := by omega
            have i2 : (r : Int) ≤ 122 := by omega
            go_wp2_with fail
            go_roundw
            case rel => exact ⟨k + 1, by omega, HN.out⟩
            case measure => rw [iterPos_of HIT.out, iterPos_of HN.out.it]; omega
          · have HN : Hid (AtRune w wn s (k + 1)) := (HNX (by omega)).out (by rw [HST.out]; simp [innerB, h1, h2, hk0])
            clear HNX hk0
            have i0 : ¬ (97 : Int) ≤ (r : Int) := by omega
            have i1 : (48 : Int) ≤ (r : Int) := by omega
            have i2 : (r : Int) ≤ 57 := by omega
            go_wp2_with fail
            go_roundw
            case rel => exact ⟨k + 1, by omega, HN.out⟩
            case measure => rw [iterPos_of HIT.out, iterPos_of HN.out.it]; omega
          · subst h1
            have HN : Hid (AtRune w wn s (k + 1)) := (HNX (by omega)).out (by rw [HST.out]; simp [innerB, hk0])
            clear HNX hk0
            go_wp2_with fail
            go_roundw
            case rel => exact ⟨k + 1, by omega, HN.out⟩
            case measure => rw [iterPos_of HIT.out, iterPos_of HN.out.it]; omega
          · have HF : Hid (nameB s = false) := by
              show _ = _; rw [hF0.out, HST.out, if_neg]
              simp [smallB, innerB]; omega
            clear HNX hk0
            have i0 : ¬ (97 : Int) ≤ (r : Int) := by omega
            have i1 : ¬ (48 : Int) ≤ (r : Int) := by omega
            have i2 : ((r : Int) == 46) = false := by simp; omega
            go_wp2_with fail
            go_ret
            exact ⟨by rw [HF.out]; rfl, HBN.out⟩
          · have HF : Hid (nameB s = false) := by
              show _ = _; rw [hF0.out, HST.out, if_neg]
              simp [smallB, innerB]; omega
            clear HNX hk0
            have i0 : ¬ (97 : Int) ≤ (r : Int) := by omega
            have i1 : (48 : Int) ≤ (r : Int) := by omega
            have i3 : ¬ (r : Int) ≤ 57 := by omega
            have i2 : ((r : Int) == 46) = false := by simp; omega
            go_wp2_with fail
            go_ret
            exact ⟨by rw [HF.out]; rfl, HBN.out⟩
          · have HF : Hid (nameB s = false) := by
              show _ = _; rw [hF0.out, HST.out, if_neg]
              simp [smallB, innerB]; omega
            clear HNX hk0
            have i0 : (97 : Int) ≤ (r : Int) := by omega
            have i4 : ¬ (r : Int) ≤ 122 := by omega
            have i1 : (48 : Int) ≤ (r : Int) := by omega
            have i3 : ¬ (r : Int) ≤ 57 := by omega
            have i2 : ((r : Int) == 46) = false := by simp; omega
            go_wp2_with fail
            go_ret
            exact ⟨by rw [HF.out]; rfl, HBN.out⟩
      · obtain rfl : k = n := by omega
        have hnx := fun ty => run_next_end_at (P := Tryz.prog) wr (w.heap.size + 1) ⟨s.toArray⟩ k ty hA.out.it (by rw [HZ.out]; have := HNN.out; omega)
        have HF : Hid (nameB s = true) := by
          show _ = _; rw [hF0.out, hA.out.rest, HNN.out, List.drop_length]; rfl
        go_wp2_with fail
        go_ret
        exact ⟨by rw [HF.out]; rfl, hA.out.below⟩

end Go.Proofs.YtnhacghjoikgpaaGreatDoor

/- What the checks of lists hand back; the names that were met are kept in a map. -/
namespace Go.Proofs.YtnhacghjoikgpaaGreatDoor
set_option linter.unusedSimpArgs false
set_option linter.unusedVariables false
open Go Go.RowKit Go.Maps Go.WideMaps

/-- A format, a paper, a press. -/
structure Fmt where
  name : Bs
  folds : Bs
structure Ppr where
  name : Bs
  wlo : Int
  whi : Int
  hlo : Int
  hhi : Int
structure Prs where
  fmts : List Fmt
  pprs : List Ppr
  trim : Int
  sheets : Int
/-- What is seen of a gathering. -/
structure Bok where
  leaves : Int
  chain : Int
  wlo : Int
  whi : Int
  hlo : Int
  hhi : Int
  marks : List (Int × Bool)
/-- A way of making. -/
structure Mkw where
  fmt : Int
  ppr : Int
  sheets : Int
  half : Bool
deriving DecidableEq
def inI (lo hi n : Int) : Bool := decide (lo ≤ n) && decide (n ≤ hi)
/-- The error of folds, of two spans, of a format and of a paper behind some names. -/
def fdsErr (f : Bs) : Int := if inI 1 4 f.length = false then 3 else if f.all (fun c => c == 120 || c == 121) then 0 else 6
def spansErr (lo hi a b c d : Int) : Int := if (inI lo hi a && inI lo hi b && inI lo hi c && inI lo hi d) = false then 7 else if b < a ∨ d < c then 2 else 0
def nmErr (seen : List Bs) (s : Bs) : Int := if nameB s = false then 6 else if s ∈ seen then 5 else 0
def fmtErr (seen : List Bs) (f : Fmt) : Int := if nmErr seen f.name = 0 then fdsErr f.folds else nmErr seen f.name
def pprErr (seen : List Bs) (p : Ppr) : Int := if nmErr seen p.name = 0 then spansErr 1 2000 p.wlo p.whi p.hlo p.hhi else nmErr seen p.name
/-- The first one with an error: its index and its error. -/
def firstE {α : Type} (name : α → Bs) (err : List Bs → α → Int) : List Bs → Nat → List α → Nat × Int
  | _, _, [] => (0, 0)
  | seen, i, x :: xs => if err seen x = 0 then firstE name err (seen ++ [name x]) (i + 1) xs else (i, err seen x)
def fmtsErr (l : List Fmt) : Nat × Int := if inI 1 6 l.length = false then (0, 3) else firstE Fmt.name fmtErr [] 0 l
def pprsErr (l : List Ppr) : Nat × Int := if inI 1 4 l.length = false then (0, 3) else firstE Ppr.name pprErr [] 0 l
/-- Check: part, index, error. -/
def checkP (p : Prs) : Nat × Nat × Int :=
  if (fmtsErr p.fmts).2 ≠ 0 then (1, (fmtsErr p.fmts).1, (fmtsErr p.fmts).2)
  else if (pprsErr p.pprs).2 ≠ 0 then (2, (pprsErr p.pprs).1, (pprsErr p.pprs).2)
  else if (inI 0 60 p.trim && inI 1 4 p.sheets) = false then (3, 0, 7) else (0, 0, 0)
def errP (p : Prs) : Int := (checkP p).2.2
/-- The first mark with an error. -/
def marksErr (leaves : Int) : Nat → List (Int × Bool) → Nat × Int
  | _, [] => (0, 0)
  | i, m :: ms => if inI 0 (leaves - 1) m.1 then marksErr leaves (i + 1) ms else (i, 4)
/-- CheckBook: part, index, error. -/
def checkK (p : Prs) (b : Bok) : Nat × Nat × Int :=
  if errP p ≠ 0 then (0, 0, errP p)
  else if inI 1 64 b.leaves = false then (1, 0, 7)
  else if inI 0 2 b.chain = false then (2, 0, 2)
  else if spansErr 0 2000 b.wlo b.whi b.hlo b.hhi ≠ 0 then (3, 0, spansErr 0 2000 b.wlo b.whi b.hlo b.hhi)
  else if inI 0 8 b.marks.length = false then (4, 0, 3)
  else if (marksErr b.leaves 0 b.marks).2 ≠ 0 then (4, (marksErr b.leaves 0 b.marks).1, 4) else (0, 0, 0)
theorem drop_at {α : Type} {xs : List α} {k : Nat} {x : α} (hk : xs[k]? = some x) : xs.drop k = x :: xs.drop (k + 1) := by
  have hl := (List.getElem?_eq_some_iff.1 hk).1
  rw [List.drop_eq_getElem_cons hl]; congr 1; exact Option.some.inj ((List.getElem?_eq_getElem hl).symm.trans hk)
theorem firstE_step {α : Type} {err : List Bs → α → Int} {nm : α → Bs} {xs : List α} {seen : List Bs} {k : Nat} {x : α} (hk : xs[k]? = some x) (h0 : err seen x = 0) :
    firstE nm err seen k (xs.drop k) = firstE nm err (seen ++ [nm x]) (k + 1) (xs.drop (k + 1)) := by
  rw [drop_at hk, firstE, if_pos h0]
theorem firstE_stop {α : Type} {err : List Bs → α → Int} {nm : α → Bs} {xs : List α} {seen : List Bs} {k : Nat} {x : α} (hk : xs[k]? = some x) (h0 : err seen x ≠ 0) :
    firstE nm err seen k (xs.drop k) = (k, err seen x) := by
  rw [drop_at hk, firstE, if_neg h0]
theorem firstE_end {α : Type} {err : List Bs → α → Int} {nm : α → Bs} {xs : List α} {seen : List Bs} {k : Nat} (hk : xs.length ≤ k) : firstE nm err seen k (xs.drop k) = (0, 0) := by
  rw [List.drop_of_length_le hk, firstE]
theorem marksErr_step {leaves : Int} {xs : List (Int × Bool)} {k : Nat} {x : Int × Bool} (hk : xs[k]? = some x) (h0 : inI 0 (leaves - 1) x.1 = true) :
    marksErr leaves k (xs.drop k) = marksErr leaves (k + 1) (xs.drop (k + 1)) := by
  rw [drop_at hk, marksErr, if_pos h0]
theorem marksErr_stop {leaves : Int} {xs : List (Int × Bool)} {k : Nat} {x : Int × Bool} (hk : xs[k]? = some x) (h0 : inI 0 (leaves - 1) x.1 = false) :
    marksErr leaves k (xs.drop k) = (k, 4) := by
  rw [drop_at hk, marksErr, if_neg (by rw [h0]; decide)]
theorem marksErr_end {leaves : Int} {xs : List (Int × Bool)} {k : Nat} (hk : xs.length ≤ k) : marksErr leaves k (xs.drop k) = (0, 0) := by
  rw [List.drop_of_length_le hk, marksErr]

theorem strKeyed : Keyed Tryz.prog 9 := string_keyed Tryz.underlying9
theorem str_key {s : Bs} (h : s.length ≤ 16) : ∃ kl, keyOf Tryz.prog 9 (S s) = some kl :=
  ⟨_, keyOf_string_mk Tryz.underlying9 (by rw [size_bytes]; unfold maxLen; omega)⟩

/-- Block b is a map from just these names to true. -/
def StrMap (w : World) (b : Nat) (ks : List Bs) : Prop :=
  ∃ es clock, w.heap[b]? = some (.map es clock) ∧ es.toList.map (·.key) = ks.map S ∧ (∀ e ∈ es.toList, e.val = .bool true) ∧ ∀ k ∈ ks, k.length ≤ 16

theorem StrMap.made (w : World) : StrMap (w.alloc (.map #[] 0)) w.heap.size [] := ⟨#[], 0, World.alloc_heap_new w _, rfl, by simp, by simp⟩
theorem StrMap.keep {w w' : World} {b : Nat} {ks : List Bs} (h : StrMap w b ks) (hs : w'.heap[b]? = w.heap[b]?) : StrMap w' b ks := by
  obtain ⟨es, clock, hb, r⟩ := h
  exact ⟨es, clock, hs.trans hb, r⟩
theorem StrMap.lt {w : World} {b : Nat} {ks : List Bs} (h : StrMap w b ks) : b < w.heap.size := by
  obtain ⟨es, clock, hb, r⟩ := h
  exact (Array.getElem?_eq_some_iff.1 hb).1

theorem zeroBoolI (w : World) : (zeroValue 4).run Tryz.prog w = .ok (.bool false) w := by kernel_rfl

theorem str_keys {es : Array MapEntry} {ks : List Bs} (hk : es.toList.map (·.key) = ks.map S) (hs : ∀ k ∈ ks, k.length ≤ 16) :
    ∀ e ∈ es.toList, ∃ l, keyOf Tryz.prog 9 e.key = some l := fun e he => by
  have : e.key ∈ es.toList.map (·.key) := List.mem_map.2 ⟨e, he, rfl⟩
  rw [hk] at this
  obtain ⟨k, hk, e1⟩ := List.mem_map.1 this
  rw [← e1]; exact str_key (hs k hk)
theorem S_inj {s t : Bs} (h : S s = S t) : s = t := by
  have := congrArg (fun v : Value => match v with | .string b => b.data.toList | _ => []) h
  simpa using this

/-- What a look-up hands back. -/
theorem StrMap.look {w : World} {b : Nat} {ks : List Bs} (h : StrMap w b ks) {s : Bs} (hs : s.length ≤ 16) :
    (Instr.lookup 217 (.map (some b)) (S s) false).run Tryz.prog w = .ok (.bool (decide (s ∈ ks))) w := by
  obtain ⟨es, clock, hb, hk, hv, hsig⟩ := h
  obtain ⟨kl, hkl⟩ := str_key hs
  have hck := strKeyed.check w es.isEmpty hkl
  rcases strKeyed.find w hkl es.toList (str_keys hk hsig) with ⟨hf, hne⟩ | ⟨j, e, hf, hj, he⟩
  · have hm : ¬ s ∈ ks := fun hm => by
      have : S s ∈ es.toList.map (·.key) := by rw [hk]; exact List.mem_map.2 ⟨_, hm, rfl⟩
      obtain ⟨e, he, e1⟩ := List.mem_map.1 this
      exact hne e he e1
    simp [Instr.lookup, run_underlying Tryz.underlying217, MapKept.run_getObj_map hb, hck, hf, zeroBoolI, Result.andThen, hm]
  · have hem : e ∈ es.toList := List.mem_of_getElem? hj
    have hm : s ∈ ks := by
      have : e.key ∈ es.toList.map (·.key) := List.mem_map.2 ⟨e, hem, rfl⟩
      rw [hk, he] at this
      obtain ⟨k, hk, e1⟩ := List.mem_map.1 this
      rw [← S_inj e1]; exact hk
    simp [Instr.lookup, run_underlying Tryz.underlying217, MapKept.run_getObj_map hb, hck, hf, hv e hem, Result.andThen, hm]

/-- A store of a name. -/
theorem StrMap.put {w : World} {b : Nat} {ks : List Bs} (h : StrMap w b ks) {s : Bs} (hs : s.length ≤ 16) :
    ∃ o, (Instr.mapUpdate 217 (.map (some b)) (S s) (.bool true)).run Tryz.prog w = .ok () (w.putObj b o) ∧ (¬ s ∈ ks → ∀ w', w'.heap[b]? = some o → StrMap w' b (ks ++ [s])) := by
  obtain ⟨es, clock, hb, hk, hv, hsig⟩ := h
  obtain ⟨kl, hkl⟩ := str_key hs
  have hck := strKeyed.check w false hkl
  rcases strKeyed.find w hkl es.toList (str_keys hk hsig) with ⟨hf, hne⟩ | ⟨j, e, hf, hj, he⟩
  · have hm : ¬ s ∈ ks := fun hm => by
      have : S s ∈ es.toList.map (·.key) := by rw [hk]; exact List.mem_map.2 ⟨_, hm, rfl⟩
      obtain ⟨e, he, e1⟩ := List.mem_map.1 this
      exact hne e he e1
    refine ⟨.map (es.push { key := S s, val := .bool true, born := clock }) (clock + 1), ?_, fun _ w' hw' => ⟨_, _, hw', ?_, ?_, ?_⟩⟩
    · simp [Instr.mapUpdate, run_underlying Tryz.underlying217, MapKept.run_getObj_map hb, hck, hf, MapKept.run_setObj_map _ hb, Result.andThen, World.putObj]
    · simp [hk]
    · intro e he
      simp at he
      rcases he with he | rfl
      · exact hv e (by simpa using he)
      · rfl
    · intro k hk
      simp at hk
      rcases hk with hk | rfl
      · exact hsig k hk
      · exact hs
  · have hem : e ∈ es.toList := List.mem_of_getElem? hj
    have hm : s ∈ ks := by
      have : e.key ∈ es.toList.map (·.key) := List.mem_map.2 ⟨e, hem, rfl⟩
      rw [hk, he] at this
      obtain ⟨k, hk, e1⟩ := List.mem_map.1 this
      rw [← S_inj e1]; exact hk
    have hsb : Instr.sameBits 10000 (S s) (S s) = true := by simp [Instr.sameBits, beq_toListBytes]
    refine ⟨.map (es.modify j fun e => { e with key := S s, val := .bool true }) clock, ?_, fun h => absurd hm h⟩
    have hj' : es[j]? = some e := by rw [← hj]; simp
    simp [Instr.mapUpdate, run_underlying Tryz.underlying217, MapKept.run_getObj_map hb, hck, hf, hj', he, Instr.keyThatStays, hsb, MapKept.run_setObj_map _ hb, Result.andThen, World.putObj]

end Go.Proofs.YtnhacghjoikgpaaGreatDoor

/- The reference: in, a letter, a digit, a name. -/
namespace Go.Proofs.YtnhacghjoikgpaaGreatDoor
set_option linter.unusedSimpArgs false
set_option linter.unusedVariables false
open Go Go.RowKit Go.Sort Go.BigFrame

theorem small_is (c : Nat) : smallB c = inB 97 122 c := by
  unfold smallB inB
  congr 1 <;> (apply decide_eq_decide.2; omega)
theorem inner_is (c : Nat) : innerB c = (inB 48 57 c || !((c : Int) != 46)) := by
  unfold innerB inB
  congr 1
  · congr 1 <;> (apply decide_eq_decide.2; omega)
  · by_cases h : c = 46
    · subst h; rfl
    · have h1 : ((c : Int) != 46) = true := by simp; omega
      rw [h1]; simp [h]
set_option maxHeartbeats 400000 in
theorem refLetter_any (c : Int) (h0 : 0 ≤ c) (h1 : c < 256) (w : World) :
    Calls Tryz.prog 119 #[.int .u8 c] w fun e w' => e = .returned (.bool (inB 97 122 c)) ∧ w' = w := by
  cases h1 : decide (97 ≤ c) with
  | false =>
    have e : inB 97 122 c = false := by simp [inB, h1]
    rw [e]
    go_enter Tryz.func119, Tryz.ntmps119
    go_wp2_with fail
    go_ret
    exact ⟨rfl, rfl⟩
  | true =>
    have e : inB 97 122 c = decide (c ≤ 122) := by simp [inB, h1]
    rw [e]
    go_enter Tryz.func119, Tryz.ntmps119
    go_wp2_with fail
    go_ret
    exact ⟨rfl, rfl⟩
set_option maxHeartbeats 400000 in
theorem refDigit_any (c : Int) (h0 : 0 ≤ c) (h1 : c < 256) (w : World) :
    Calls Tryz.prog 120 #[.int .u8 c] w fun e w' => e = .returned (.bool (inB 48 57 c)) ∧ w' = w := by
  cases h1 : decide (48 ≤ c) with
  | false =>
    have e : inB 48 57 c = false := by simp [inB, h1]
    rw [e]
    go_enter Tryz.func120, Tryz.ntmps120
    go_wp2_with fail
    go_ret
    exact ⟨rfl, rfl⟩
  | true =>
    have e : inB 48 57 c = decide (c ≤ 57) := by simp [inB, h1]
    rw [e]
    go_enter Tryz.func120, Tryz.ntmps120
    go_wp2_with fail
    go_ret
    exact ⟨rfl, rfl⟩

set_option maxRecDepth 100000 in
set_option maxHeartbeats 800000 in
theorem refName_any (s : Bs) (w : World) (hs : s.length ≤ 9223372036854775807) :
    Calls Tryz.prog 108 #[S s] w fun e w' => e = .returned (.bool (nameB s)) ∧ Below w.heap.size w w' := by
  have hzs : (⟨s.toArray⟩ : ByteArray).size = s.length := size_bytes s
  by_cases h0 : s.length = 0
  · have HF : Hid (nameB s = false) := Lib.hid (by unfold nameB; rw [decide_eq_false (p := 1 ≤ s.length) (by omega)]; rfl)
    rw [h0] at hzs
    go_enter Tryz.func108, Tryz.ntmps108
    go_wp2_with fail
    go_ret
    exact ⟨by rw [HF.out]; rfl, Below.refl _ _⟩
  have d0 : ((s.length : Int) == 0) = false := by
    rw [beq_eq_false_iff_ne]
    omega
  by_cases h1 : 16 < s.length
  · have HF : Hid (nameB s = false) := Lib.hid (by unfold nameB; rw [decide_eq_false (p := s.length ≤ 16) (by omega)]; simp)
    have d1 : decide ((16 : Int) < (s.length : Int)) = true := decide_eq_true (by omega)
    go_enter Tryz.func108, Tryz.ntmps108
    go_wp2_with fail
    go_ret
    exact ⟨by rw [HF.out]; rfl, Below.refl _ _⟩
  have d1 : decide ((16 : Int) < (s.length : Int)) = false := decide_eq_false (by omega)
  have HF : Hid (nameB s = nameL 0 s) := Lib.hid (by unfold nameB; rw [decide_eq_true (p := 1 ≤ s.length) (by omega), decide_eq_true (p := s.length ≤ 16) (by omega)]; rfl)
  go_enter Tryz.func108, Tryz.ntmps108
  go_wp2_with fail
  go_loopw [3] (fun q wr => ∃ (k : Nat), k ≤ s.length ∧ q = .int .i64 k ∧ Hid (nameL 0 s = nameL k (s.drop k)) ∧ wr = w) (fun q _ => s.length - (intOf q).toNat)
  case atStart => exact ⟨0, by omega, rfl, rfl, rfl⟩
  case round =>
    obtain ⟨k, hk, rfl, hT, rfl⟩ := hrel
    by_cases hlt : k < s.length
    · obtain ⟨c, hc⟩ : ∃ c, s[k]? = some c := ⟨_, List.getElem?_eq_getElem hlt⟩
      have hb : ∀ h : k < (⟨s.toArray⟩ : ByteArray).size, (⟨s.toArray⟩ : ByteArray)[k]'h = c := fun h => by
        obtain ⟨hk, hc⟩ := List.getElem?_eq_some_iff.1 hc
        rw [← hc]; rfl
      have hstep : nameL 0 s = if smallB c.toNat || (decide (k ≠ 0) && innerB c.toNat) then nameL (k + 1) (s.drop (k + 1)) else false := by
        rw [hT.out, List.drop_eq_getElem?_toList_append, hc]
        rfl
      rw [small_is, inner_is] at hstep
      have hc0 : (0 : Int) ≤ (c.toNat : Int) ∧ (c.toNat : Int) < 256 := by have := c.toNat_lt; omega
      have HST := Lib.hid hstep
      clear hstep hT hc
      go_wp2_with fail
      refine (refLetter_any c.toNat hc0.1 hc0.2 _).mono ?_
      rintro e w1 ⟨rfl, rfl⟩
      cases h1 : inB 97 122 c.toNat with
      | true =>
        have HN : Hid (nameL 0 s = nameL (k + 1) (s.drop (k + 1))) := Lib.hid (by rw [HST.out, h1]; rfl)
        go_wp2_with fail
        go_roundw
        case rel => exact ⟨k + 1, by omega, by go_num, HN.out, trivial⟩
        case measure => simp [intOf]; omega
      | false =>
        by_cases hk0 : k = 0
        · subst hk0
          have HN : Hid (nameB s = false) := Lib.hid (by rw [HF.out, HST.out, h1]; rfl)
          go_wp2_with fail
          go_ret
          exact ⟨by rw [HN.out]; rfl, Below.refl _ _⟩
        · have e0 : ((k : Int) == 0) = false := by simp; omega
          go_wp2_with fail
          refine (refDigit_any c.toNat hc0.1 hc0.2 _).mono ?_
          rintro e w1 ⟨rfl, rfl⟩
          cases h2 : inB 48 57 c.toNat with
          | true =>
            have HN : Hid (nameL 0 s = nameL (k + 1) (s.drop (k + 1))) := Lib.hid (by rw [HST.out, h1, h2]; simp [hk0])
            go_wp2_with fail
            go_roundw
            case rel => exact ⟨k + 1, by omega, by go_num, HN.out, trivial⟩
            case measure => simp [intOf]; omega
          | false =>
            cases h3 : ((c.toNat : Int) != 46) with
            | false =>
              have HN : Hid (nameL 0 s = nameL (k + 1) (s.drop (k + 1))) := Lib.hid (by rw [HST.out, h1, h2, h3]; simp [hk0])
              go_wp2_with fail
              go_roundw
              case rel => exact ⟨k + 1, by omega, by go_num, HN.out, trivial⟩
              case measure => simp [intOf]; omega
            | true =>
              have HN : Hid (nameB s = false) := Lib.hid (by rw [HF.out, HST.out, h1, h2, h3]; simp)
              go_wp2_with fail
              go_ret
              exact ⟨by rw [HN.out]; rfl, Below.refl _ _⟩
    · have HN : Hid (nameB s = true) := Lib.hid (by rw [HF.out, hT.out, List.drop_of_length_le (by omega)]; rfl)
      go_wp2_with fail
      go_ret
      exact ⟨by rw [HN.out]; rfl, Below.refl _ _⟩
end Go.Proofs.YtnhacghjoikgpaaGreatDoor

/- Where a word is in a list of strings. -/
namespace Go.Proofs.YtnhacghjoikgpaaGreatDoor
set_option linter.unusedSimpArgs false
set_option linter.unusedVariables false
open Go Go.RowKit Go.Sort Go.BigFrame
attribute [local go_sem] Oper.semAt_some putAll

/-- The first place of a word. -/
def placeN (y : Bs) : List Bs → Nat → Option Nat
  | [], _ => none
  | x :: xs, i => if x = y then some i else placeN y xs (i + 1)
def placeF (xs : List Bs) (y : Bs) : Int := match placeN y xs 0 with
  | some i => i
  | none => -1
theorem placeN_found (y : Bs) : ∀ (xs : List Bs) (k i : Nat), xs[i]? = some y → (∀ j, j < i → xs[j]? ≠ some y) → placeN y xs k = some (k + i)
  | [], k, i, h, _ => by simp at h
  | x :: xs, k, 0, h, _ => by
    have : x = y := by simpa using h
    simp [placeN, this]
  | x :: xs, k, i + 1, h, hj => by
    have h0 : x ≠ y := by simpa using hj 0 (by omega)
    rw [placeN, if_neg h0, placeN_found y xs (k + 1) i (by simpa using h) fun j hl => by simpa using hj (j + 1) (by omega)]
    congr 1; omega
theorem placeN_none (y : Bs) : ∀ (xs : List Bs) (k : Nat), (∀ j : Nat, xs[j]? ≠ some y) → placeN y xs k = none
  | [], _, _ => rfl
  | x :: xs, k, h => by
    have h0 : x ≠ y := by simpa using h 0
    rw [placeN, if_neg h0]
    exact placeN_none y xs (k + 1) fun j => by simpa using h (j + 1)
theorem place_found {xs : List Bs} {y : Bs} {i : Nat} (h : xs[i]? = some y) (hj : ∀ j, j < i → xs[j]? ≠ some y) : placeF xs y = i := by
  unfold placeF; rw [placeN_found y xs 0 i h hj]; simp
theorem place_none {xs : List Bs} {y : Bs} (h : ∀ j : Nat, xs[j]? ≠ some y) : placeF xs y = -1 := by
  unfold placeF; rw [placeN_none y xs 0 h]

/-- A slice of strings. -/
def StrsAt (W : World) (v : Value) (xs : List Bs) : Prop :=
  ∃ (a : Option Addr) (cap : Nat), v = .slice a xs.length cap ∧ (xs ≠ [] → ∃ g, a = some ⟨g, 0, none⟩ ∧ g < W.heap.size ∧ ∀ i x, xs[i]? = some x → W.cell? ⟨g, i, none⟩ = some (S x))
theorem StrsAt.later {W W' : World} {v : Value} {xs : List Bs} (h : StrsAt W v xs) (hb : Below W.heap.size W W') : StrsAt W' v xs := by
  obtain ⟨a, cap, rfl, h⟩ := h
  refine ⟨a, cap, rfl, fun hne => ?_⟩
  obtain ⟨g, rfl, hg, hc⟩ := h hne
  exact ⟨g, rfl, Nat.lt_of_lt_of_le hg hb.size, fun i x hx => (hb.cell (p := ⟨g, i, none⟩) hg).trans (hc i x hx)⟩

set_option maxRecDepth 100000 in
set_option maxHeartbeats 1000000 in
theorem Place_any (xs : List Bs) (v : Value) (y : Bs) (w : World) (hv : StrsAt w v xs) (hl : xs.length < 1000000) :
    Calls Tryz.prog 107 #[v, S y] w fun e w' => e = .returned (.int .i64 (placeF xs y)) ∧ Below w.heap.size w w' := by
  obtain ⟨a, cap, rfl, hx⟩ := hv
  have HX := Lib.hid hx
  have HB := Lib.hid (Below.refl w.heap.size w)
  clear hx
  obtain ⟨n, hn⟩ : ∃ n, n = xs.length := ⟨_, rfl⟩
  rw [← hn] at hl
  rw [← hn]
  have HN := Lib.hid hn
  clear hn
  go_enter Tryz.func107, Tryz.ntmps107
  go_wp2_with fail
  go_loopw [5] (fun i wr => ∃ (k : Nat), k ≤ n ∧ i = .int .i64 ((k : Int) - 1) ∧ wr = w ∧ Hid (∀ j, k ≤ j → xs[j]? ≠ some y)) (fun i _ => (intOf i + 1).toNat)
  case atStart =>
    refine ⟨n, by omega, by go_num, rfl, fun j hj e => ?_⟩
    have := (List.getElem?_eq_some_iff.1 e).1
    have := HN.out
    omega
  case round =>
    obtain ⟨k, hk, rfl, rfl, hA⟩ := hrel
    cases k with
    | zero =>
      have hm : (((0 : Nat) : Int) - 1) = -1 := rfl
      rw [hm]
      clear hm
      have hN : Hid (placeF xs y = -1) := place_none fun j => hA.out j (Nat.zero_le j)
      go_wp2_with fail
      go_loopw [6] (fun i wr' => i = .int .i64 0 ∧ wr' = wr) (fun _ _ => 0)
      case atStart => exact ⟨rfl, rfl⟩
      case round =>
        obtain ⟨rfl, rfl⟩ := hrel
        go_wp2_with fail
        go_ret
        exact ⟨by rw [hN.out]; rfl, HB.out⟩
    | succ k =>
      obtain ⟨x, hx⟩ : ∃ x, xs[k]? = some x := ⟨_, List.getElem?_eq_getElem (by have := HN.out; omega)⟩
      obtain ⟨g, rfl, -, hc⟩ := HX.out (fun e => by rw [e] at hx; cases hx)
      have x0 := hc k x hx
      have HXX := Lib.hid hx
      have HC := Lib.hid hc
      clear hc hx
      have hk1 : ((k + 1 : Nat) : Int) - 1 = k := by omega
      rw [hk1]
      go_wp2_with fail
      · rename_i hne
        have HNE : Hid (x ≠ y) := Lib.hid (by simpa using hne)
        clear hne
        go_wp2_with fail
        go_roundw
        case rel =>
          refine ⟨k, by omega, by go_num, by first | rfl | trivial, fun j hj => ?_⟩
          by_cases e : j = k
          · subst e; rw [HXX.out]; simpa using HNE.out
          · exact hA.out j (by omega)
        case measure => simp [intOf] <;> omega
      · rename_i heq _ _
        have HE : Hid (x = y) := Lib.hid (by simpa using heq)
        clear heq x0 hA
        go_wp2_with fail
        go_loopw [6] (fun i wr' => ∃ (j : Nat), j ≤ k ∧ i = .int .i64 j ∧ wr' = wr ∧ Hid (∀ l, l < j → xs[l]? ≠ some y)) (fun i _ => k - (intOf i).toNat)
        case atStart => exact ⟨0, by omega, rfl, rfl, fun l hl => by omega⟩
        case round =>
          obtain ⟨j, hj, rfl, rfl, hF⟩ := hrel
          by_cases hlt : j < k
          · obtain ⟨z, hz⟩ : ∃ z, xs[j]? = some z := ⟨_, List.getElem?_eq_getElem (by have := HN.out; omega)⟩
            have z0 := HC.out j z hz
            have HZZ := Lib.hid hz
            clear hz
            go_wp2_with fail
            · rename_i heq
              have hzy : z = y := by simpa using heq
              clear heq
              have hN : Hid (placeF xs y = j) := place_found (hzy ▸ HZZ.out) hF.out
              clear hF hzy
              go_wp2_with fail
              go_ret
              exact ⟨by rw [hN.out]; rfl, HB.out⟩
            · rename_i hne
              have hzy : Hid (z ≠ y) := Lib.hid (by simpa using hne)
              clear hne
              go_wp2_with fail
              go_roundw
              case rel =>
                refine ⟨j + 1, by omega, by go_num, by first | rfl | trivial, fun l hl => ?_⟩
                by_cases e : l = j
                · subst e; rw [HZZ.out]; simpa using hzy.out
                · exact hF.out l (by omega)
              case measure => simp [intOf] <;> omega
          · have hjk : j = k := by omega
            subst hjk
            have hN : Hid (placeF xs y = j) := place_found (HE.out ▸ HXX.out) hF.out
            clear hF
            go_wp2_with fail
            go_ret
            exact ⟨by rw [hN.out]; rfl, HB.out⟩

end Go.Proofs.YtnhacghjoikgpaaGreatDoor

/- Presses and what is seen of gatherings in memory; the reference's small functions of layer 2. -/
namespace Go.Proofs.YtnhacghjoikgpaaGreatDoor
set_option linter.unusedSimpArgs false
set_option linter.unusedVariables false
open Go Go.RowKit Go.Sort Go.BigFrame

/-- A slice of things of so many cells each, in blocks below B. -/
def RowsAt {α : Type} (n : Nat) (enc : α → List Value) (B : Nat) (w : World) (v : Value) (xs : List α) : Prop :=
  ∃ (a : Option Addr) (cap : Nat), v = .slice a xs.length cap ∧ (xs ≠ [] → ∃ b off, a = some ⟨b, off, none⟩ ∧ b < B ∧
    ∀ i x, xs[i]? = some x → ∀ j u, (enc x)[j]? = some u → w.cell? ⟨b, off + i * n + j, none⟩ = some u)
theorem cell_samei {B : Nat} {w w' : World} (h : ∀ k, k < B → w'.heap[k]? = w.heap[k]?) {b : Nat} (hb : b < B) (i : Nat) : w'.cell? ⟨b, i, none⟩ = w.cell? ⟨b, i, none⟩ :=
  World.cell?_of_block (w := w) (h b hb)
theorem RowsAt.same {α : Type} {n : Nat} {enc : α → List Value} {B : Nat} {w w' : World} {v : Value} {xs : List α} (h : RowsAt n enc B w v xs) (hs : ∀ k, k < B → w'.heap[k]? = w.heap[k]?) : RowsAt n enc B w' v xs := by
  obtain ⟨a, cap, rfl, h⟩ := h
  refine ⟨a, cap, rfl, fun hne => ?_⟩
  obtain ⟨b, off, rfl, hb, hc⟩ := h hne
  exact ⟨b, off, rfl, hb, fun i x hi j u hu => (cell_samei hs hb _).trans (hc i x hi j u hu)⟩
theorem RowsAt.mono {α : Type} {n : Nat} {enc : α → List Value} {B B' : Nat} {w : World} {v : Value} {xs : List α} (h : RowsAt n enc B w v xs) (hB : B ≤ B') : RowsAt n enc B' w v xs := by
  obtain ⟨a, cap, rfl, h⟩ := h
  refine ⟨a, cap, rfl, fun hne => ?_⟩
  obtain ⟨b, off, rfl, hb, hc⟩ := h hne
  exact ⟨b, off, rfl, Nat.lt_of_lt_of_le hb hB, hc⟩
theorem RowsAt.later {α : Type} {n : Nat} {enc : α → List Value} {w w' : World} {v : Value} {xs : List α} (h : RowsAt n enc w.heap.size w v xs) (hb : Below w.heap.size w w') : RowsAt n enc w'.heap.size w' v xs :=
  (h.same fun k hk => hb.block k hk).mono hb.size

abbrev fmtV (f : Fmt) : List Value := [S f.name, S f.folds]
abbrev pprV (p : Ppr) : List Value := [S p.name, .int .i64 p.wlo, .int .i64 p.whi, .int .i64 p.hlo, .int .i64 p.hhi]
abbrev mrkV (m : Int × Bool) : List Value := [.int .i64 m.1, .bool m.2]
/-- Strings are no longer than any machine holds. -/
def smallS (s : Bs) : Prop := s.length ≤ 9223372036854775807
/-- A press, as a value. -/
def PrsAt (B : Nat) (w : World) (v : Value) (p : Prs) : Prop :=
  ∃ fv pv, v = .agg #[fv, pv, .int .i64 p.trim, .int .i64 p.sheets] ∧ RowsAt 2 fmtV B w fv p.fmts ∧ RowsAt 5 pprV B w pv p.pprs ∧ (∀ f ∈ p.fmts, smallS f.name ∧ smallS f.folds) ∧ ∀ q ∈ p.pprs, smallS q.name
/-- What is seen of a gathering, as a value. -/
def BokAt (B : Nat) (w : World) (v : Value) (b : Bok) : Prop :=
  ∃ mv, v = .agg #[.int .i64 b.leaves, .int .i64 b.chain, .int .i64 b.wlo, .int .i64 b.whi, .int .i64 b.hlo, .int .i64 b.hhi, mv] ∧ RowsAt 2 mrkV B w mv b.marks
theorem PrsAt.later {w w' : World} {v : Value} {p : Prs} (h : PrsAt w.heap.size w v p) (hb : Below w.heap.size w w') : PrsAt w'.heap.size w' v p := by
  obtain ⟨fv, pv, rfl, h1, h2, h3⟩ := h
  exact ⟨fv, pv, rfl, h1.later hb, h2.later hb, h3⟩
theorem BokAt.later {w w' : World} {v : Value} {b : Bok} (h : BokAt w.heap.size w v b) (hb : Below w.heap.size w w') : BokAt w'.heap.size w' v b := by
  obtain ⟨mv, rfl, h1⟩ := h
  exact ⟨mv, rfl, h1.later hb⟩

theorem inI_inB (lo hi n : Int) : inI lo hi n = inB lo hi n := rfl

theorem place_mem {xs : List Bs} {y : Bs} : 0 ≤ placeF xs y ↔ y ∈ xs := by
  constructor
  · intro h
    refine Classical.byContradiction fun hn => ?_
    rw [place_none (fun j hj => hn (List.mem_of_getElem? hj))] at h
    omega
  · intro h
    unfold placeF
    split
    · omega
    · rename_i he
      exfalso
      have key : ∀ (xs : List Bs) (k : Nat), y ∈ xs → placeN y xs k ≠ none := by
        intro xs
        induction xs with
        | nil => intro k h; cases h
        | cons x xs ih =>
          intro k h
          unfold placeN
          split
          · simp
          · rename_i hx
            rcases List.mem_cons.1 h with rfl | h
            · exact absurd rfl hx
            · exact ih _ h
      exact key xs 0 h he

set_option maxRecDepth 100000 in
set_option maxHeartbeats 1000000 in
theorem refFresh_any (s : Bs) (xs : List Bs) (v : Value) (w : World) (hv : StrsAt w v xs) (hl : xs.length < 1000000) (hs : s.length ≤ 9223372036854775807) :
    Calls Tryz.prog 78 #[S s, v] w fun e w' => e = .returned (.int .i64 (nmErr xs s)) ∧ Below w.heap.size w w' := by
  have HV := Lib.hid hv
  obtain ⟨a, cap, rfl, -⟩ := hv
  have HL := Lib.hid hl
  have HS := Lib.hid hs
  obtain ⟨p, hp⟩ : ∃ p, p = placeF xs s := ⟨_, rfl⟩
  have HP := Lib.hid hp
  have hm : (0 ≤ p) ↔ s ∈ xs := by rw [hp]; exact place_mem
  clear hl hs hp
  have key : ∀ x y : Bool, nameB s = x → decide (s ∈ xs) = y → nmErr xs s = if x = false then 6 else if y = true then 5 else 0 := by
    rintro x y rfl rfl
    unfold nmErr
    simp
  cases hx : nameB s <;> cases hy : decide (s ∈ xs)
  all_goals
    have HF := Lib.hid (key _ _ hx hy)
    have HX := Lib.hid hx
    first
      | (have hp0 : p < 0 := by have := of_decide_eq_false hy; rw [← hm] at this; omega)
      | (have hp0 : 0 ≤ p := hm.2 (of_decide_eq_true hy))
    clear hm key hx hy
    go_enter Tryz.func78, Tryz.ntmps78
    go_wp2_with fail
    refine (Place_any xs _ s _ HV.out HL.out).mono ?_
    rintro e w1 ⟨rfl, hb1⟩
    rw [← HP.out]
    go_wp2_with fail
    refine (refName_any s _ HS.out).mono ?_
    rintro e w2 ⟨rfl, hb2⟩
    rw [HX.out]
    have hb3 := hb1.trans (hb2.mono hb1.size)
    go_wp2_with fail
    go_ret
    exact ⟨by rw [HF.out]; rfl, hb3⟩

end Go.Proofs.YtnhacghjoikgpaaGreatDoor

/- From the statement's data to a press, and what is seen of a gathering, in memory. -/
namespace Go.Proofs.YtnhacghjoikgpaaGreatDoor
set_option linter.unusedSimpArgs false
set_option linter.unusedVariables false
open Go Go.ChangeShapes Go.WideShapes Go.ChangeAt Go.RowKit

theorem kf_cellsStr : Tryz.prog.cellsOf 9 = 1 := by kernel_rfl
theorem kf_cellsBool : Tryz.prog.cellsOf 4 = 1 := by kernel_rfl
theorem kf_cellsSpan : Tryz.prog.cellsOf 27 = 2 := by kernel_rfl
theorem kf_cellsFmt : Tryz.prog.cellsOf 115 = 2 := by kernel_rfl
theorem kf_cellsPpr : Tryz.prog.cellsOf 67 = 5 := by kernel_rfl
theorem kf_cellsMrk : Tryz.prog.cellsOf 58 = 2 := by kernel_rfl
theorem kf_cellsPrs : Tryz.prog.cellsOf 25 = 4 := by kernel_rfl
theorem kf_cellsBok : Tryz.prog.cellsOf 30 = 7 := by kernel_rfl
theorem kf_cellsFmts : Tryz.prog.cellsOf 22 = 1 := by kernel_rfl
theorem kf_cellsPprs : Tryz.prog.cellsOf 23 = 1 := by kernel_rfl
theorem kf_cellsMrks : Tryz.prog.cellsOf 28 = 1 := by kernel_rfl
theorem len5 {l : List Value} (h : l.length = 5) : ∃ a b c d e, l = [a, b, c, d, e] := by match l, h with | [a, b, c, d, e], _ => exact ⟨a, b, c, d, e, rfl⟩
theorem len7 {l : List Value} (h : l.length = 7) : ∃ a b c d e f g, l = [a, b, c, d, e, f, g] := by match l, h with | [a, b, c, d, e, f, g], _ => exact ⟨a, b, c, d, e, f, g, rfl⟩

section
variable {H : Type} {enc : TypeId × Value → H} {w : World} {base : Nat} {spare : Nat → Bool} {held : Bool} {fuel : Nat} {x : DataW H × List MemPlace}
theorem kf_str {cs : List Value} (h : DataW.trod enc Tryz.prog w base spare held fuel 9 cs = some x) : ∃ s : Bs, cs = [S s] ∧ smallS s := by
  obtain ⟨s, e, _, hs⟩ := DataW.trod_string Tryz.underlying9 h
  subst e
  exact ⟨s.data.toList, rfl, hs⟩
theorem kf_span {cs : List Value} (h : DataW.trod enc Tryz.prog w base spare held fuel 27 cs = some x) : ∃ a b, cs = [.int .i64 a, .int .i64 b] := by
  obtain ⟨y0, y1, n, _, hl, h0, h1⟩ := trod_struct2 Tryz.underlying27 h
  rw [kf_cellsSpan] at hl
  obtain ⟨a, b, rfl⟩ := len2 hl
  obtain ⟨r, e0, _, _⟩ := DataW.trod_int Tryz.underlying3 h0
  obtain ⟨l, e1, _, _⟩ := DataW.trod_int Tryz.underlying3 h1
  simp [kx_cellsInt] at e0 e1
  subst e0 e1
  exact ⟨r, l, rfl⟩
theorem kf_fmt {cs : List Value} (h : DataW.trod enc Tryz.prog w base spare held fuel 115 cs = some x) : ∃ f : Fmt, cs = fmtV f ∧ smallS f.name ∧ smallS f.folds := by
  obtain ⟨y0, y1, n, _, hl, h0, h1⟩ := trod_struct2 Tryz.underlying115 h
  rw [kf_cellsFmt] at hl
  obtain ⟨a, b, rfl⟩ := len2 hl
  obtain ⟨s, e0, hs⟩ := kf_str h0
  obtain ⟨t, e1, ht⟩ := kf_str h1
  simp [kf_cellsStr] at e0 e1
  subst e0 e1
  exact ⟨⟨s, t⟩, rfl, hs, ht⟩
theorem kf_ppr {cs : List Value} (h : DataW.trod enc Tryz.prog w base spare held fuel 67 cs = some x) : ∃ p : Ppr, cs = pprV p ∧ smallS p.name := by
  obtain ⟨xs, n, _, _, hl, hlen, hf⟩ := DataW.trod_struct Tryz.underlying67 h
  rw [kf_cellsPpr] at hl
  obtain ⟨a, b, c, d, e, rfl⟩ := len5 hl
  match xs, hlen with
  | [y0, y1, y2], _ =>
    obtain ⟨s, e0, hs⟩ := kf_str (by simpa using hf 0 _ rfl)
    obtain ⟨r, l, e1⟩ := kf_span (by simpa using hf 1 _ rfl)
    obtain ⟨r', l', e2⟩ := kf_span (by simpa using hf 2 _ rfl)
    simp [kf_cellsStr, kf_cellsSpan] at e0 e1 e2
    obtain ⟨rfl, rfl⟩ := e1
    obtain ⟨rfl, rfl⟩ := e2
    subst e0
    exact ⟨⟨s, r, l, r', l'⟩, rfl, hs⟩
theorem kf_mrk {cs : List Value} (h : DataW.trod enc Tryz.prog w base spare held fuel 58 cs = some x) : ∃ m : Int × Bool, cs = mrkV m := by
  obtain ⟨y0, y1, n, _, hl, h0, h1⟩ := trod_struct2 Tryz.underlying58 h
  rw [kf_cellsMrk] at hl
  obtain ⟨a, b, rfl⟩ := len2 hl
  obtain ⟨r, e0, _, _⟩ := DataW.trod_int Tryz.underlying3 h0
  obtain ⟨l, e1, _⟩ := DataW.trod_bool Tryz.underlying4 h1
  simp [kx_cellsInt, kf_cellsBool] at e0 e1
  subst e0 e1
  exact ⟨(r, l), rfl⟩
/-- A slice of things whose cells are told. -/
theorem kf_rows {t e : TypeId} {cs : List Value} {α : Type} {n : Nat} {en : α → List Value} (ht : Tryz.prog.underlying t = some (.slice e)) (hn : Tryz.prog.cellsOf e = n) (h0 : 0 < n) (Q : α → Prop)
    (hR : ∀ (n : Nat) (l : List Value) (y : DataW H × List MemPlace), DataW.trod enc Tryz.prog w base spare held n e l = some y → ∃ z, l = en z ∧ Q z)
    (h : DataW.trod enc Tryz.prog w base spare held fuel t cs = some x) : ∃ (v : Value) (zs : List α), cs = [v] ∧ RowsAt n en w.heap.size w v zs ∧ ∀ z ∈ zs, Q z := by
  obtain ⟨a, cap, zs, e1, hz⟩ := kx_slice (α := { z : α // Q z }) ht (by omega) (fun z l => l = en z.1) (fun n l y hy => by
    obtain ⟨z, h1, h2⟩ := hR n l y hy
    exact ⟨⟨z, h2⟩, h1⟩) h
  refine ⟨.slice a zs.length cap, zs.map (·.1), e1, ⟨a, cap, by rw [List.length_map], fun hne => ?_⟩, fun z hz2 => ?_⟩
  · obtain ⟨b, off, ha, hb, hc⟩ := hz (fun h => hne (by rw [h]; rfl))
    refine ⟨b, off, ha, hb, fun i y hi j u hu => ?_⟩
    rw [List.getElem?_map, Option.map_eq_some_iff] at hi
    obtain ⟨z, hz1, rfl⟩ := hi
    obtain ⟨l, _, rfl, h3⟩ := hc i z hz1
    rw [hn] at h3
    exact h3 j u hu
  · obtain ⟨z', -, rfl⟩ := List.mem_map.1 hz2
    exact z'.2
set_option maxRecDepth 100000 in
/-- A press that is handed in lies in memory. -/
theorem press_in {v : Value} {b0 : Nat} (hv : Value.okWide Tryz.prog w .any b0 25 v) (h : DataW.trod enc Tryz.prog w base spare held fuel 25 v.cells.toList = some x) : ∃ p : Prs, PrsAt w.heap.size w v p := by
  simp only [Value.okWide, Tryz.underlying25] at hv
  obtain ⟨cs, rfl, -, -⟩ := hv
  obtain ⟨xs, n, _, _, hl, hlen, hf⟩ := DataW.trod_struct Tryz.underlying25 h
  rw [kf_cellsPrs] at hl
  obtain ⟨a, b, c, d, hcs⟩ := len4 hl
  have hcs' : cs = #[a, b, c, d] := by
    have e' : cs.toList = [a, b, c, d] := hcs
    rw [← Array.toArray_toList (xs := cs), e']
  subst hcs'
  match xs, hlen with
  | [y0, y1, y2, y3], _ =>
    obtain ⟨fv, fs, e0, hfs, hs1⟩ := kf_rows (α := Fmt) (en := fmtV) Tryz.underlying22 kf_cellsFmt (by decide) (fun f => smallS f.name ∧ smallS f.folds) (fun n l y hy => kf_fmt hy) (by simpa using hf 0 _ rfl)
    obtain ⟨pv, ps, e1, hps, hs2⟩ := kf_rows (α := Ppr) (en := pprV) Tryz.underlying23 kf_cellsPpr (by decide) (fun p => smallS p.name) (fun n l y hy => kf_ppr hy) (by simpa using hf 1 _ rfl)
    obtain ⟨r, e2, _, _⟩ := DataW.trod_int Tryz.underlying3 (by simpa using hf 2 _ rfl)
    obtain ⟨s, e3, _, _⟩ := DataW.trod_int Tryz.underlying3 (by simpa using hf 3 _ rfl)
    simp [kf_cellsFmts, kf_cellsPprs, kx_cellsInt, Value.cells] at e0 e1 e2 e3
    subst e0 e1 e2 e3
    exact ⟨⟨fs, ps, r, s⟩, _, _, rfl, hfs, hps, hs1, hs2⟩
set_option maxRecDepth 100000 in
/-- What is seen of a gathering, handed in, lies in memory. -/
theorem bok_in {v : Value} {b0 : Nat} (hv : Value.okWide Tryz.prog w .any b0 30 v) (h : DataW.trod enc Tryz.prog w base spare held fuel 30 v.cells.toList = some x) : ∃ b : Bok, BokAt w.heap.size w v b := by
  simp only [Value.okWide, Tryz.underlying30] at hv
  obtain ⟨cs, rfl, -, -⟩ := hv
  obtain ⟨xs, n, _, _, hl, hlen, hf⟩ := DataW.trod_struct Tryz.underlying30 h
  rw [kf_cellsBok] at hl
  obtain ⟨a, b, c, d, e, f, g, hcs⟩ := len7 hl
  have hcs' : cs = #[a, b, c, d, e, f, g] := by
    have e' : cs.toList = [a, b, c, d, e, f, g] := hcs
    rw [← Array.toArray_toList (xs := cs), e']
  subst hcs'
  match xs, hlen with
  | [y0, y1, y2, y3, y4], _ =>
    obtain ⟨r, e0, _, _⟩ := DataW.trod_int Tryz.underlying3 (by simpa using hf 0 _ rfl)
    obtain ⟨s, e1, _, _⟩ := DataW.trod_int Tryz.underlying3 (by simpa using hf 1 _ rfl)
    obtain ⟨t1, t2, e2⟩ := kf_span (by simpa using hf 2 _ rfl)
    obtain ⟨u1, u2, e3⟩ := kf_span (by simpa using hf 3 _ rfl)
    obtain ⟨mv, ms, e4, hms, -⟩ := kf_rows (α := Int × Bool) (en := mrkV) Tryz.underlying28 kf_cellsMrk (by decide) (fun _ => True) (fun n l y hy => by
      obtain ⟨m, hm⟩ := kf_mrk hy
      exact ⟨m, hm, trivial⟩) (by simpa using hf 4 _ rfl)
    simp [kf_cellsSpan, kf_cellsMrks, kx_cellsInt, Value.cells] at e0 e1 e2 e3 e4
    obtain ⟨rfl, rfl⟩ := e2
    obtain ⟨rfl, rfl⟩ := e3
    subst e0 e1 e4
    exact ⟨⟨r, s, t1, t2, u1, u2, ms⟩, _, rfl, hms⟩
end
end Go.Proofs.YtnhacghjoikgpaaGreatDoor

/- From the statement's data to a mark; how many marks a gathering can have. -/
namespace Go.Proofs.YtnhacghjoikgpaaGreatDoor
set_option linter.unusedSimpArgs false
set_option linter.unusedVariables false
open Go Go.ChangeShapes Go.WideShapes Go.ChangeAt Go.RowKit

section
variable {H : Type} {enc : TypeId × Value → H} {w : World} {base : Nat} {spare : Nat → Bool} {held : Bool} {fuel : Nat} {x : DataW H × List MemPlace}
set_option maxRecDepth 100000 in
theorem mark_in {v : Value} {b0 : Nat} (hv : Value.okWide Tryz.prog w .any b0 58 v) (h : DataW.trod enc Tryz.prog w base spare held fuel 58 v.cells.toList = some x) : ∃ (l : Int) (s : Bool), v = .agg #[.int .i64 l, .bool s] := by
  simp only [Value.okWide, Tryz.underlying58] at hv
  obtain ⟨cs, rfl, -, -⟩ := hv
  obtain ⟨m, e⟩ := kf_mrk h
  have : cs = #[.int .i64 m.1, .bool m.2] := by
    have e' : cs.toList = [.int .i64 m.1, .bool m.2] := e
    rw [← Array.toArray_toList (xs := cs), e']
  exact ⟨m.1, m.2, by rw [this]⟩
theorem kf_bytesMrk : Tryz.prog.bytesOf 58 = 16 := by kernel_rfl
set_option maxRecDepth 100000 in
theorem bok_few {v : Value} (h : DataW.trod enc Tryz.prog w base spare held fuel 30 v.cells.toList = some x) (hw : ∀ n ∈ x.1.weights Tryz.prog 30, n ≤ reachBytes) {B : Nat} {b : Bok} (hb : BokAt B w v b) : b.marks.length ≤ 8796093022207 := by
  obtain ⟨mv, rfl, a, cap, rfl, -⟩ := hb
  obtain ⟨xs, n, _, hx, hl, hlen, hf⟩ := DataW.trod_struct Tryz.underlying30 h
  match xs, hlen with
  | [y0, y1, y2, y3, y4], _ =>
    have h4 : DataW.trod enc Tryz.prog w base spare held n 28 [.slice a b.marks.length cap] = some y4 := by simpa [Value.cells, kf_cellsMrks] using hf 4 _ rfl
    rcases DataW.trod_slice Tryz.underlying28 h4 with ⟨e, _⟩ | ⟨a', len, cap', elems, rest, m, _, e, hx4, _, h2, h3, he, _⟩
    · simp at e
      rw [e.2.1]
      exact Nat.zero_le _
    · simp at e
      obtain ⟨_, rfl, rfl⟩ := e
      have hm := hw ((elems.length + rest.length) * Tryz.prog.bytesOf 58) (by
        rw [hx, hx4]
        simp [DataW.weights, DataW.weightsEach, Tryz.underlying30, Tryz.underlying28])
      rw [kf_bytesMrk] at hm
      unfold reachBytes at hm
      omega
end
end Go.Proofs.YtnhacghjoikgpaaGreatDoor

/- A function worked out piece by piece, one of whose pieces calls a function that was worked out before. -/
namespace Go.Proofs.YtnhacghjoikgpaaGreatDoor
set_option linter.unusedSimpArgs false
set_option linter.unusedVariables false
open Go Go.RowKit

noncomputable section
/-- A piece does what was worked out, in all worlds that are reached from where all started. -/
def SegS (P : Program) (e0 : Env) (h0 : H) (W : World) (c : Code) (a : Fr) (h : H) (x : X) (a' : Fr) (h' : H) : Prop :=
  ∀ (e : Env) (w : World) (act : Act), Rel P e h w → FrR e a act → Step h0 e0 W h e w →
    ∀ Q : Exit → Act → World → Prop, (∀ e' act' w', Rel P e' h' w' → FrR e' a' act' → Step h0 e0 W h' e' w' → Q x.out act' w') → c.wpIn (fence e none) 9 P Q act w
def evOps (P : Program) (f : Nat) (ops : Array Oper) (l : List Oper) (a : Fr) (h : H) (keep : List Nat) : E (Fr × H) := eb (opsW P (evCode P f) ops l a h) fun s => .ok (s.1, gcH keep s.2)
/-- The operations of a region. -/
def opsIn : Code → Array Oper
  | .region _ ops _ => ops
  | _ => #[]
def idIn : Code → Nat
  | .region id _ _ => id
  | _ => 0
section
variable {P : Program} {e e0 : Env} {w W : World} {v : V} {h h0 h1 h2 h' : H} {a a1 a2 a' : Fr} {x : X} {c c1 c2 : Code}
theorem Seg.start (k : Seg P c a h x a' h') : SegS P e0 h0 W c a h x a' h' := fun e w act re fr s Q hQ => k e w act re fr Q fun e' act' w' r' fr' s' => hQ e' act' w' r' fr' (s.trans s')
theorem segS_seq (k1 : SegS P e0 h0 W c1 a h .normal a1 h1) (k2 : SegS P e0 h0 W c2 a1 h1 x a' h') : SegS P e0 h0 W (.seq c1 c2) a h x a' h' := fun e w act re fr s Q hQ =>
  wpIn_seq (k1 e w act re fr s _ fun e1 act1 w1 r1 fr1 s1 => by
    have := k2 e1 w1 act1 r1 fr1 s1 Q hQ
    exact this)
/-- Operations in the order of the text, with others behind them. -/
theorem ops_before {go : Run} {ops : Array Oper} (hgo : GoOk P go) {Q : Exit → Act → World → Prop} {n : Nat} : ∀ (rest pre tail : List Oper) (a : Fr) (h : H) (a' : Fr) (h' : H), ops.toList = pre ++ rest ++ tail → opsW P go ops rest a h = .ok (a', h') → ∀ (e : Env) (w : World) (act : Act), Rel P e h w → FrR e a act →
    (∀ e' act' w', Rel P e' h' w' → FrR e' a' act' → Step h e w h' e' w' → wpOpsIn (fence e none) 9 P ops Q (List.range' (pre.length + rest.length) n) act' w') → wpOpsIn (fence e none) 9 P ops Q (List.range' pre.length (rest.length + n)) act w
  | [], pre, tail, a, h, a', h', _, k, e, w, act, r, fr, hQ => by
    cases k
    have := hQ e act w r fr (Step.refl h e w)
    simpa using this
  | o :: rest, pre, tail, a, h, a', h', hsp, k, e, w, act, r, fr, hQ => by
    have ho : ops[pre.length]? = some o := by
      rw [← Array.getElem?_toList, hsp]
      simp
    rw [List.length_cons, show rest.length + 1 + n = (rest.length + n) + 1 by omega, List.range'_succ]
    unfold wpOpsIn
    rw [ho]
    simp only
    rw [opsW_cons] at k
    obtain ⟨hgk, k⟩ := ec_ok k
    have hw : Region.wanted o (yielded ops act.tmps) = wantedT ops a o := wanted_ok fr.size (fun j want d _ _ => fr.tmp d) hgk
    have next : ∀ (e1 : Env) (a1 : Fr) (h1 : H) (act1 : Act) (w1 : World), Rel P e1 h1 w1 → FrR e1 a1 act1 → Step h e w h1 e1 w1 → opsW P go ops rest a1 h1 = .ok (a', h') → wpOpsIn (fence e none) 9 P ops Q (List.range' (pre.length + 1) (rest.length + n)) act1 w1 := fun e1 a1 h1 act1 w1 r1 fr1 s1 k1 => by
      have ih := ops_before hgo (Q := Q) (n := n) rest (pre ++ [o]) tail a1 h1 a' h' (by rw [hsp]; simp) k1 e1 w1 act1 r1 fr1 (fun e' act' w' r' fr' s' => by
        have := hQ e' act' w' r' fr' (s1.trans s')
        have hfe : fence e1 none = fence e none := rfl
        rw [hfe]
        simpa [Nat.add_comm, Nat.add_left_comm, Nat.add_assoc] using this)
      have hfe : fence e1 none = fence e none := rfl
      rw [hfe] at ih
      simpa using ih
    rw [hw]
    cases hwt : wantedT ops a o with
    | true =>
      rw [hwt] at k
      simp only at k
      obtain ⟨⟨v, h1⟩, ho1, k⟩ := eb_ok k
      simp only [if_true]
      refine op_ok (rr := none) hgo r (fr.ops _) fr.glob ho1 fun x w' hx => ?_
      obtain ⟨e1, r1, s1, hv⟩ := hx
      have k' : opsW P go ops rest (a.put o.dst v) h1 = .ok (a', h') := (putK_eq a o.dst v fun a' => opsW P go ops rest a' h1).symm.trans k
      exact next e1 _ h1 _ w' r1 ((fr.mono s1.le).put o.dst hv) s1 k'
    | false =>
      rw [hwt] at k
      simp only [putK_eq] at k
      simp only [Bool.false_eq_true, if_false]
      exact ⟨fun f _ => trivial, next e _ h _ w r (fr.put o.dst uV_ok) (Step.refl h e w) k⟩
/-- A region in the order of the text, with a call of a function without arguments that yields a bare value. -/
theorem seg_call {f fid : Nat} {fn : Func} {ops : Array Oper} {id : Nat} {pre post : List Oper} {keep : List Nat} {d : Option Tmp} {ty : TypeId} {pos : String} {af : Array Edge} {gd : Option (Nat × Bool)} {y : Value} (hm : P.follows .mixedOrders = true)
    (hsp : ops.toList = pre ++ (⟨d, .call { callee := .value (.func fid), args := #[], argTypes := #[] }, ty, pos, af, gd⟩ :: post))
    (hfn : P.funcs[fid]? = some fn) (hnm : (fn.name == "runtime.NumGoroutine") = false) (hb : fn.body.isNone = false)
    (hc : ∀ w, VKept W w → Calls P fid #[] w fun en w' => en = .returned y ∧ Below w.heap.size w w') (hp : h0.p = h0.n) (hx : h0.x = h0.n) (hlt : Rel P e0 h0 W)
    (k1 : opsW P (evCode P f) ops pre a h = .ok (a1, h1)) (hwt : wantedT ops a1 ⟨d, .call { callee := .value (.func fid), args := #[], argTypes := #[] }, ty, pos, af, gd⟩ = true) (hgk : guardOk ops a1 ⟨d, .call { callee := .value (.func fid), args := #[], argTypes := #[] }, ty, pos, af, gd⟩ = true) (k2 : evOps P f ops post (a1.put d (.lit y)) h1 keep = .ok (a2, h2)) : SegS P e0 h0 W (.region id ops false) a h .normal a2 h2 := fun e w act re fr s Q hQ => by
  refine wpIn_region ?_
  have hlen : ops.size = pre.length + (post.length + 1) := by rw [← Array.length_toList, hsp]; simp
  rw [List.range_eq_range', hlen]
  have e0 : ops.toList = ([] : List Oper) ++ pre ++ (⟨d, .call { callee := .value (.func fid), args := #[], argTypes := #[] }, ty, pos, af, gd⟩ :: post) := by rw [hsp]; simp
  refine ops_before (evCode_ok hm f) pre [] _ a h a1 h1 e0 k1 e w act re fr fun e1 act1 w1 r1 fr1 s1 => ?_
  have ho : ops[pre.length]? = some ⟨d, .call { callee := .value (.func fid), args := #[], argTypes := #[] }, ty, pos, af, gd⟩ := by
    rw [← Array.getElem?_toList, hsp]
    simp
  simp only [List.length_nil, Nat.zero_add]
  rw [List.range'_succ]
  unfold wpOpsIn
  rw [ho]
  simp only
  rw [wanted_ok fr1.size (fun j want d _ _ => fr1.tmp d) hgk, hwt]
  simp only [if_true]
  have hk0 : VKept W w1 := VKept.of (s.trans s1) hlt hp hx
  refine ⟨fun f _ => trivial, ?_⟩
  rw [Oper.semAt_eq _ _ _ (fun c hc => by cases hc)]
  have e2 : (execOp act1.eval ⟨d, .call { callee := .value (.func fid), args := #[], argTypes := #[] }, ty, pos, af, gd⟩).run P w1 = .ok (.enter fid #[]) w1 := by
    have e3 : (execOp act1.eval ⟨d, .call { callee := .value (.func fid), args := #[], argTypes := #[] }, ty, pos, af, gd⟩) = (do let d ← Deferred.ofValue (act1.eval (.func fid)) ((#[] : Array Operand).map act1.eval); invoke d.target d.args) := rfl
    rw [e3]
    simp only [Array.map_empty, Sem.run_bind, Act.eval, Deferred.ofValue, Sem.run_pure, Result.andThen_ok, invoke]
    rw [enter_run hfn hnm hb]
    rfl
  rw [e2]
  refine ⟨fun hd => (by rw [fence_depth] at hd; cases hd), fence_calls (Calls.mono (hc w1 hk0) ?_)⟩
  rintro en w2 ⟨rfl, hbel⟩
  have hk : VKept w1 w2 := ⟨hbel.size, hbel.block, hbel.os, hbel.tape, hbel.output⟩
  have r2 := hk.rel r1
  have s2 : Step h1 e1 w1 h1 e1 w2 := hk.step h1 e1
  unfold evOps at k2
  obtain ⟨⟨a3, h3⟩, k3, k4⟩ := eb_ok k2
  cases k4
  have fin := ops_ok (rr := none) (Q := Q) (evCode_ok hm f) post (pre ++ [⟨d, .call { callee := .value (.func fid), args := #[], argTypes := #[] }, ty, pos, af, gd⟩]) (a1.put d (.lit y)) h1 a3 h3 (by rw [hsp]; simp) k3 e1 w2 (act1.put d y) r2 (fr1.put d (VR_lit.2 rfl)) (fun l hl => by cases hl)
    fun e' act' w' r' fr' s' => hQ e' act' w' (r'.less (Nat.le_refl _) (gcH_get keep h3)) fr' ((((s.trans s1).trans s2).trans s').gc keep)
  have hfe : fence e1 none = fence e none := rfl
  rw [hfe] at fin
  simpa using fin
def opNo : Oper := ⟨none, .move (.const (.bool false)), 0, "", #[], none⟩
def opAt (c : Code) (k : Nat) : Oper := ((opsIn c).toList.drop k).headD opNo
theorem segS_call {f fid k : Nat} {fn : Func} {keep : List Nat} {y : Value} (hm : P.follows .mixedOrders = true)
    (hsp : (opsIn c).toList = (opsIn c).toList.take k ++ opAt c k :: (opsIn c).toList.drop (k + 1)) (hop : (opAt c k).op = .call { callee := .value (.func fid), args := #[], argTypes := #[] })
    (hfn : P.funcs[fid]? = some fn) (hnm : (fn.name == "runtime.NumGoroutine") = false) (hb : fn.body.isNone = false)
    (hc : ∀ w, VKept W w → Calls P fid #[] w fun en w' => en = .returned y ∧ Below w.heap.size w w') (hp : h0.p = h0.n) (hx : h0.x = h0.n) (hlt : Rel P e0 h0 W)
    (k1 : opsW P (evCode P f) (opsIn c) ((opsIn c).toList.take k) a h = .ok (a1, h1)) (hwt : wantedT (opsIn c) a1 (opAt c k) = true) (hgk : guardOk (opsIn c) a1 (opAt c k) = true) (k2 : evOps P f (opsIn c) ((opsIn c).toList.drop (k + 1)) (a1.put (opAt c k).dst (.lit y)) h1 keep = .ok (a2, h2)) : SegS P e0 h0 W (.region (idIn c) (opsIn c) false) a h .normal a2 h2 := by
  generalize opAt c k = o at *
  obtain ⟨d, op, ty, pos, af, gd⟩ := o
  change op = _ at hop
  subst hop
  exact seg_call hm hsp hfn hnm hb hc hp hx hlt k1 hwt hgk k2
/-- A function without arguments that was worked out to a bare result, from pieces. -/
theorem closedS_ok {l : List Value} {t : TypeId} {f : FuncId} {fn : Func} {y : Value} (hW : W.heap[0]? = some (.cells l.toArray t (0, 0))) (hfn : P.funcs[f]? = some fn) (hc : fn.body = some c)
    (hs : SegS P e00 (h00 (l.map .lit) t) W c ⟨.leaf, fn.ntmps, [], 1⟩ (h00 (l.map .lit) t) x a1 h1) (hx : ∀ id, x ≠ .exit id) (k : finish P fn a1 h1 = .ok (.lit y, h')) : Calls P f #[] W fun en W' => en = .returned y ∧ Below W.heap.size W W' := by
  have hg : ∀ g, g < 1 → e00.dom g ∧ e00.σ g = g := fun g hg => by
    have h0 : g = 0 := by omega
    subst h0
    exact ⟨rfl, rfl⟩
  refine (callsIn_wide (n := 9)).1 ?_
  refine callsIn_of_wp_marks hfn hc trivial ?_ rfl
  have fr0 := ofList_fr (e := e00) (vs := []) (xs := []) (VRs_nil.2 rfl) fn.ntmps 1 hg
  have hmax : Nat.max fn.ntmps ([] : List V).length = fn.ntmps := Nat.max_eq_left (Nat.zero_le _)
  rw [hmax] at fr0
  refine hs e00 W _ (rel_start hW) fr0 (Step.refl _ _ _) _ fun e' act' w' r' fr' s' => ?_
  unfold finish at k
  obtain ⟨h2, hm, k1⟩ := eb_ok k
  obtain ⟨us, hus, k2⟩ := eb_ok k1
  have e5 : packT us = .lit y := (Prod.mk.inj (Except.ok.inj k2)).1
  have key := marks_ok (fn := fn) (tmps := act'.tmps) (R := fun en W' => en = .returned y ∧ Below W.heap.size W W') a1.df h1 w' h2 r' hm fun w2 r2 s2 => by
    obtain ⟨z, g1, g2⟩ := pack_ok r2 fr' hus
    rw [e5] at g2
    have hk := VKept.of (P := P) (s'.trans s2) (rel_start hW) rfl rfl
    exact ⟨z, g1, by rw [VR_lit.1 g2], hk.os, hk.tape, hk.output, hk.size, fun k hk' => hk.keep k hk'⟩
  rw [← fr'.df] at key
  cases x with
  | normal => exact key
  | ret => exact key
  | exit id => exact absurd rfl (hx id)
/-- No package variable is known. -/
def e01 : Env := ⟨id, fun _ => 0, fun _ => False⟩
def h01 : H := ⟨40, 40, 40, .leaf⟩
theorem rel_start0 {P : Program} {W : World} : Rel P e01 h01 W := by
  have no : ∀ b o, h01.get b = some o → False := fun b o k => by
    change (Tr.leaf : Tr Ob).get b = _ at k
    rw [Tr.get_leaf] at k
    cases k
  exact ⟨fun b hb => hb.elim, fun b hb => hb.elim, fun b o k => (no b o k).elim, fun b c o o' k _ _ => (no b o k).elim⟩
theorem closed0_ok {f : FuncId} {fn : Func} {y : Value} (hfn : P.funcs[f]? = some fn) (hc : fn.body = some c)
    (hs : SegS P e01 h01 W c ⟨.leaf, fn.ntmps, [], 0⟩ h01 x a1 h1) (hx : ∀ id, x ≠ .exit id) (k : finish P fn a1 h1 = .ok (.lit y, h')) : Calls P f #[] W fun en W' => en = .returned y ∧ Below W.heap.size W W' := by
  have hg : ∀ g, g < 0 → e01.dom g ∧ e01.σ g = g := fun g hg => by omega
  refine (callsIn_wide (n := 9)).1 ?_
  refine callsIn_of_wp_marks hfn hc trivial ?_ rfl
  have fr0 := ofList_fr (e := e01) (vs := []) (xs := []) (VRs_nil.2 rfl) fn.ntmps 0 hg
  have hmax : Nat.max fn.ntmps ([] : List V).length = fn.ntmps := Nat.max_eq_left (Nat.zero_le _)
  rw [hmax] at fr0
  refine hs e01 W _ (rel_start0) fr0 (Step.refl _ _ _) _ fun e' act' w' r' fr' s' => ?_
  unfold finish at k
  obtain ⟨h2, hm, k1⟩ := eb_ok k
  obtain ⟨us, hus, k2⟩ := eb_ok k1
  have e5 : packT us = .lit y := (Prod.mk.inj (Except.ok.inj k2)).1
  have key := marks_ok (fn := fn) (tmps := act'.tmps) (R := fun en W' => en = .returned y ∧ Below W.heap.size W W') a1.df h1 w' h2 r' hm fun w2 r2 s2 => by
    obtain ⟨z, g1, g2⟩ := pack_ok r2 fr' hus
    rw [e5] at g2
    have hk := VKept.of (P := P) (s'.trans s2) (rel_start0) rfl rfl
    exact ⟨z, g1, by rw [VR_lit.1 g2], hk.os, hk.tape, hk.output, hk.size, fun k hk' => hk.keep k hk'⟩
  rw [← fr'.df] at key
  cases x with
  | normal => exact key
  | ret => exact key
  | exit id => exact absurd rfl (hx id)
end
end
end Go.Proofs.YtnhacghjoikgpaaGreatDoor

/- Layer 2, plain: how a sheet is folded, by the program and by the reference; both agree for all folds. -/
namespace Go.Proofs.YtnhacghjoikgpaaGreatDoor
set_option linter.unusedSimpArgs false
set_option linter.unusedVariables false

/-- A leaf of a gathering where it lies. -/
structure Fl where
  sheet : Nat
  col : Nat
  row : Nat
  inner : Bool
  turned : Bool
deriving DecidableEq
/-- Folds: true is an x. -/
abbrev Fds := List Bool
def colsF (f : Fds) : Nat := 2 ^ (f.filter fun b => b).length
def rowsF (f : Fds) : Nat := 2 ^ (f.filter fun b => !b).length
/-- A pile turned over. -/
def overF (heads : Bool) (p : List Fl) : List Fl := p.reverse.map fun l => { l with inner := !l.inner, turned := l.turned != heads }
/-- One fold of the program's bed: columns, rows, piles. -/
def bedF (x heads : Bool) (b : Nat × Nat × (Nat → Nat → List Fl)) : Nat × Nat × (Nat → Nat → List Fl) :=
  (if x then b.1 / 2 else b.1, if x then b.2.1 else b.2.1 / 2, fun c r => if c < (if x then b.1 / 2 else b.1) ∧ r < (if x then b.2.1 else b.2.1 / 2) then b.2.2 c r ++ overF heads (if x then b.2.2 (b.1 - 1 - c) r else b.2.2 c (b.2.1 - 1 - r)) else b.2.2 c r)
def lastF (f : Fds) : Bool := f.getLastD false
/-- The leaves of a sheet, folded, as the program does it. -/
def sheetF (f : Fds) : List Fl := (f.foldl (fun b x => bedF x (x != lastF f) b) (colsF f, rowsF f, fun c r => [⟨0, c, r, false, false⟩])).2.2 0 0
/-- The leaves of a gathering, as the program does it. -/
def ofSheetF (l : List Fl) (s : Nat) : List Fl := l.map fun x => { x with sheet := s }
def gatherF (l : List Fl) (n : Nat) : List Fl := ((List.range n).flatMap fun s => ofSheetF (l.take (l.length / 2)) s) ++ (List.range n).flatMap fun k => ofSheetF (l.drop (l.length / 2)) (n - 1 - k)
/-- The folds that are made. -/
def madeF (f : Fds) (half : Bool) : Fds := if half then f.drop 1 else f
def leavesF (f : Fds) (n : Nat) (half : Bool) : List Fl := gatherF (sheetF (madeF f half)) n

/-- A leaf as it lies, in the reference: column, row, turned over by x and by y. -/
structure Ln where
  col : Nat
  row : Nat
  x : Nat
  y : Nat
deriving DecidableEq
def turnedR (x : Bool) (p : List Ln) : List Ln := p.reverse.map fun l => if x then { l with x := l.x + 1 } else { l with y := l.y + 1 }
def foldR (x : Bool) (ps : List (List (List Ln))) : List (List (List Ln)) :=
  let rows := ps.length
  let cols := (ps.headD []).length
  (List.range (if x then rows else rows / 2)).map fun r => (List.range (if x then cols / 2 else cols)).map fun c =>
    ((ps.getD r []).getD c []) ++ turnedR x (if x then (ps.getD r []).getD (cols - 1 - c) [] else (ps.getD (rows - 1 - r) []).getD c [])
def pileR (f : Fds) (half : Bool) : List Ln :=
  let rows := if half ∧ f.headD false = false then rowsF f / 2 else rowsF f
  let cols := if half ∧ f.headD false = true then colsF f / 2 else colsF f
  (((if half then f.drop 1 else f).foldl (fun ps x => foldR x ps) ((List.range rows).map fun r => (List.range cols).map fun c => [⟨c, r, 0, 0⟩])).headD []).headD []
def ownR (f : Fds) (l : List Ln) (s : Nat) : List Fl := l.map fun a => ⟨s, a.col, a.row, (a.x + a.y) % 2 == 1, (if lastF f then a.y else a.x) % 2 == 1⟩
/-- The leaves of a gathering, as the reference does it. -/
def allR (f : Fds) (n : Nat) (half : Bool) : List Fl :=
  let l := pileR f half
  let st := (List.range n).foldl (fun (st : List Fl × List Fl) s => (st.1 ++ (ownR f l s).take ((ownR f l s).length / 2), (ownR f l s).drop ((ownR f l s).length / 2) ++ st.2)) ([], [])
  st.1 ++ st.2
/-- All folds that a format can have. -/
def foldsOf : Nat → List Fds
  | 0 => [[]]
  | n + 1 => (foldsOf n).flatMap fun f => [true :: f, false :: f]
def allFolds : List Fds := foldsOf 1 ++ foldsOf 2 ++ foldsOf 3 ++ foldsOf 4
theorem foldsOf_mem : ∀ (n : Nat) (f : Fds), f.length = n → f ∈ foldsOf n
  | 0, [], _ => by simp [foldsOf]
  | n + 1, b :: f, h => by
    have ih := foldsOf_mem n f (by simpa using h)
    unfold foldsOf
    exact List.mem_flatMap.2 ⟨f, ih, by cases b <;> simp⟩
theorem allFolds_mem {f : Fds} (h1 : 1 ≤ f.length) (h2 : f.length ≤ 4) : f ∈ allFolds := by
  unfold allFolds
  have h : f.length = 1 ∨ f.length = 2 ∨ f.length = 3 ∨ f.length = 4 := by omega
  rcases h with h | h | h | h <;> simp [foldsOf_mem _ _ h]
/-- **The program folds as the reference does.** -/
theorem leaves_all : ∀ f ∈ allFolds, ∀ n ∈ [1, 2, 3, 4], leavesF f n false = allR f n false := by decide +kernel
theorem leaves_half : ∀ f ∈ allFolds, 2 ≤ f.length → leavesF f 1 true = allR f 1 true := by decide +kernel
theorem leaves_is {f : Fds} {n : Nat} {half : Bool} (h1 : 1 ≤ f.length) (h2 : f.length ≤ 4) (h3 : 1 ≤ n) (h4 : n ≤ 4) (h5 : half = true → n = 1 ∧ 2 ≤ f.length) : leavesF f n half = allR f n half := by
  have hf := allFolds_mem h1 h2
  cases half with
  | false => exact leaves_all f hf n (by simp; omega)
  | true =>
    obtain ⟨rfl, h6⟩ := h5 rfl
    exact leaves_half f hf h6
/-- The examples of the document. -/
theorem ex_quarto : leavesF [true, false] 1 false = [⟨0, 0, 0, false, false⟩, ⟨0, 1, 0, true, true⟩, ⟨0, 1, 1, false, true⟩, ⟨0, 0, 1, true, false⟩] := by decide +kernel
/-- How many leaves there are. -/
theorem leaves_count : ∀ f ∈ allFolds, ∀ n ∈ [1, 2, 3, 4], (leavesF f n false).length = colsF f * rowsF f * n := by decide +kernel
theorem leaves_count_half : ∀ f ∈ allFolds, 2 ≤ f.length → (leavesF f 1 true).length * 2 = colsF f * rowsF f := by decide +kernel
/-- Conjugate leaves: of one sheet, side by side, turned alike, one on each forme. -/
def conjB (f : Fds) (l : List Fl) : Bool := (List.range l.length).all fun i => match l[i]?, l[l.length - 1 - i]? with
  | some a, some b => a.sheet == b.sheet && (if lastF f then (a.row == b.row && (a.col == b.col + 1 || b.col == a.col + 1)) else (a.col == b.col && (a.row == b.row + 1 || b.row == a.row + 1))) && a.turned == b.turned && a.inner != b.inner
  | _, _ => false
theorem conj_all : ∀ f ∈ allFolds, ∀ n ∈ [1, 2, 3, 4], conjB f (leavesF f n false) = true := by decide +kernel
theorem conj_half : ∀ f ∈ allFolds, 2 ≤ f.length → conjB f (leavesF f 1 true) = true := by decide +kernel
/-- No two leaves of a gathering lie at one place. -/
def placesB (l : List Fl) : Bool := (List.range l.length).all fun i => (List.range i).all fun k => match l[i]?, l[k]? with
  | some a, some b => !(a.sheet == b.sheet && a.col == b.col && a.row == b.row)
  | _, _ => false
theorem places_all : ∀ f ∈ allFolds, ∀ n ∈ [1, 2, 3, 4], placesB (leavesF f n false) = true := by decide +kernel
theorem places_half : ∀ f ∈ allFolds, 2 ≤ f.length → placesB (leavesF f 1 true) = true := by decide +kernel
/-- Where leaves lie. -/
def insideB (f : Fds) (n : Nat) (l : List Fl) : Bool := l.all fun a => decide (a.col < colsF f) && decide (a.row < rowsF f) && decide (a.sheet < n)
theorem inside_all : ∀ f ∈ allFolds, ∀ n ∈ [1, 2, 3, 4], insideB f n (leavesF f n false) = true := by decide +kernel
theorem inside_half : ∀ f ∈ allFolds, 2 ≤ f.length → insideB (madeF f true) 1 (leavesF f 1 true) = true := by decide +kernel
/-- The page of a leaf on a forme. -/
def pageF (i : Nat) (l : Fl) (inner : Bool) : Int := let n : Int := 2 * i + 1 + (if l.inner != inner then 1 else 0); if l.turned then -n else n
/-- The leaf at a place. -/
def atF (l : List Fl) (s c r : Nat) : Option Nat := l.findIdx? fun a => a.sheet == s && a.col == c && a.row == r
/-- What lies at a place of a forme. -/
def spotF (l : List Fl) (s c r : Nat) (inner : Bool) : Option Int := match atF l s c r with
  | some i => match l[i]? with
    | some a => some (pageF i a inner)
    | none => none
  | none => none
/-- A forme, as the program and as the reference makes it. -/
def formeF (l : List Fl) (rows cols : Nat) (s : Nat) (inner : Bool) : List Int := (List.range rows).flatMap fun r => (List.range cols).map fun c => (spotF l s c r inner).getD 0
def formeR (l : List Fl) (rows cols : Nat) (s : Nat) (inner : Bool) : List Int := (List.range rows).flatMap fun r => (List.range cols).filterMap fun c => spotF l s c r inner
/-- The mates of a leaf, as the program finds them (by what leaves are) and as the reference does (by their numbers). -/
def matesF (l : List Fl) (k : Nat) : List Nat := (List.range l.length).filter fun i => match l[i]?, l[k]? with
  | some a, some b => a != b && a.sheet == b.sheet
  | _, _ => false
def matesR (l : List Fl) (k : Nat) : List Nat := (List.range l.length).filter fun i => i != k && match l[i]?, l[k]? with
  | some a, some b => a.sheet == b.sheet
  | _, _ => false
theorem mates_same {l : List Fl} (h : placesB l = true) (k : Nat) : matesF l k = matesR l k := by
  have key : ∀ i j : Nat, j < i → i < l.length → l[i]? ≠ l[j]? := fun i j hji hil e => by
    have h1 := List.all_eq_true.1 h i (List.mem_range.2 hil)
    have h2 := List.all_eq_true.1 h1 j (List.mem_range.2 hji)
    obtain ⟨a, ha⟩ : ∃ a, l[i]? = some a := ⟨_, List.getElem?_eq_getElem hil⟩
    rw [← e, ha] at h2
    simp at h2
  unfold matesF matesR
  apply List.filter_congr
  intro i hi
  have hil := List.mem_range.1 hi
  obtain ⟨a, ha⟩ : ∃ a, l[i]? = some a := ⟨_, List.getElem?_eq_getElem hil⟩
  rw [ha]
  cases hb : l[k]? with
  | none => simp
  | some b =>
    dsimp only
    by_cases e : i = k
    · subst e
      rw [ha] at hb
      cases hb
      simp
    · have hab : a ≠ b := fun hab => by
        have hkl := (List.getElem?_eq_some_iff.1 hb).1
        rcases Nat.lt_or_gt_of_ne e with h1 | h1
        · exact key k i h1 hkl (by rw [ha, hb, hab])
        · exact key i k h1 hil (by rw [ha, hb, hab])
      have h1 : (a != b) = true := by simpa using hab
      have h2 : (i != k) = true := by simpa using e
      rw [h1, h2]
/-- The examples of the document. -/
theorem ex_forme : formeF (leavesF [true, false] 1 false) 2 2 0 true = [2, -3, 7, -6] := by decide +kernel
theorem ex_formeO : formeF (leavesF [true, false, true] 1 false) 2 4 0 false = [1, 16, 13, 4, -8, -9, -12, -5] := by decide +kernel
theorem ex_formeK : formeF (leavesF [true, false] 1 false) 2 2 0 false = [1, -4, 8, -5] := by decide +kernel
theorem ex_mates : matesF (leavesF [true, false, true] 1 false) 1 = [0, 2, 3, 4, 5, 6, 7] := by decide +kernel
end Go.Proofs.YtnhacghjoikgpaaGreatDoor
