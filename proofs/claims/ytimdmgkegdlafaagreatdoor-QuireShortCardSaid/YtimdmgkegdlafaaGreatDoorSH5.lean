/- The parts Rf, Qd of the proof, joined. It holds without conditions of its own. -/
import Derived.RangeFuncCalls
import Derived.RangeFuncBound
import Derived.RangeFuncLeaves
import Derived.RangeFuncRecord
import Derived.Below
import Derived.Test.YtimdmgkegdlafaaGreatDoorSH4
import Derived.Maps.Keyed
import Derived.DeepKeys4
/- A statement that ranges over a function, for iterators that keep state of their own in memory: the iterator owns a set X of blocks that the rounds leave alone; the caller owns the blocks that Ow names. For any program, at the wide fence. -/
namespace Go.Proofs.YtimdmgkegdlafaaGreatDoor
set_option linter.unusedSimpArgs false
set_option linter.unusedVariables false
open Go Go.RowKit

/-- From W to W' no block of W turns but those in X. -/
structure OnlyIn (X : Nat → Prop) (W W' : World) : Prop where
  os : W'.os = W.os
  tape : W'.tape = W.tape
  output : W'.output = W.output
  size : W.heap.size ≤ W'.heap.size
  block : ∀ k, k < W.heap.size → ¬ X k → W'.heap[k]? = W.heap[k]?

theorem OnlyIn.refl (X : Nat → Prop) (W : World) : OnlyIn X W W := ⟨rfl, rfl, rfl, Nat.le_refl _, fun _ _ _ => rfl⟩
theorem OnlyIn.trans {X : Nat → Prop} {A B C : World} (h : OnlyIn X A B) (k : OnlyIn X B C) : OnlyIn X A C :=
  ⟨k.os.trans h.os, k.tape.trans h.tape, k.output.trans h.output, Nat.le_trans h.size k.size, fun i hi hx => (k.block i (Nat.lt_of_lt_of_le hi h.size) hx).trans (h.block i hi hx)⟩
theorem OnlyIn.mono {X Y : Nat → Prop} {A B : World} (h : OnlyIn X A B) (hxy : ∀ k, X k → Y k) : OnlyIn Y A B :=
  ⟨h.os, h.tape, h.output, h.size, fun i hi hy => h.block i hi (fun hx => hy (hxy i hx))⟩
theorem OnlyIn.alloc (X : Nat → Prop) (W : World) (o : Obj) : OnlyIn X W (W.alloc o) :=
  ⟨rfl, rfl, rfl, by simp, fun k hk _ => Below.heap_alloc W o k hk⟩
theorem OnlyIn.setCell {X : Nat → Prop} (W : World) (p : Addr) (v : Value) (hp : X p.block) : OnlyIn X W (W.setCell p v) :=
  ⟨rfl, rfl, rfl, by simp [World.setCell], fun k _ hx => Below.heap_setCell W p v k (fun e => hx (e ▸ hp))⟩
theorem OnlyIn.putObj {X : Nat → Prop} (W : World) (l : Nat) (o : Obj) (hl : X l) : OnlyIn X W (W.putObj l o) :=
  ⟨rfl, rfl, rfl, by simp, fun _ _ hx => World.putObj_heap_other (fun e => hx (e ▸ hl))⟩
theorem OnlyIn.drew (X : Nat → Prop) (W : World) : OnlyIn X W W.drew := ⟨rfl, rfl, rfl, Nat.le_refl _, fun _ _ _ => rfl⟩
/-- What a call that leaves all that was there does. -/
theorem OnlyIn.of_below {X : Nat → Prop} {W W' : World} (h : Below W.heap.size W W') : OnlyIn X W W' :=
  ⟨h.os, h.tape, h.output, h.size, fun k hk _ => h.block k hk⟩
theorem OnlyIn.below {X : Nat → Prop} {B : Nat} {A W W' : World} (h : OnlyIn X W W') (hb : Below B A W) (hB : B ≤ W.heap.size) (hx : ∀ k, X k → B ≤ k) : Below B A W' :=
  hb.trans ⟨h.os, h.tape, h.output, h.size, fun k hk => h.block k (Nat.lt_of_lt_of_le hk hB) (fun hxk => by have := hx k hxk; omega)⟩

/-- The invariant allows whatever the iterator does: it turns blocks of its own and lays new ones. -/
def Abide {α : Type} (J : List α → (Nat → Prop) → World → Prop) : Prop :=
  ∀ pre (X X' : Nat → Prop) W W', J pre X W → OnlyIn X W W' → (∀ k, X' k → X k ∨ (W.heap.size ≤ k ∧ k < W'.heap.size)) → J pre X' W'

/-- What a round leaves as it was: the data that the iterator reads, and its own blocks. -/
def Kept (Pr X : Nat → Prop) (W W' : World) : Prop := W.heap.size ≤ W'.heap.size ∧ ∀ k, k < W.heap.size → (Pr k ∨ X k) → W'.heap[k]? = W.heap[k]?

/-- THE ITERATOR's CONTRACT: it yields xs, one after the other, or stops when a round says so. -/
def ItC {α : Type} (P : Program) (gf : Nat) (lb : Array Value) (encs : α → Array Value) (xs : List α) (Pr : Nat → Prop) (w₀ : World) : Prop :=
  ∀ (l : Nat) (J Jx : List α → (Nat → Prop) → World → Prop) (W : World), w₀.heap.size ≤ W.heap.size → (∀ k, Pr k → W.heap[k]? = w₀.heap[k]?) → Abide J → Abide Jx →
    (∀ pre x rest X W1, xs = pre ++ x :: rest → J pre X W1 → YieldAt Fence.wide 9 P l (encs x) W1 fun e W' =>
      (e = .returned (.bool true) ∧ J (pre ++ [x]) X W' ∧ Kept Pr X W1 W') ∨ (e = .returned (.bool false) ∧ Jx (pre ++ [x]) X W' ∧ Kept Pr X W1 W')) →
    J [] (fun _ => False) W →
    Calls P gf (#[.func (.yield l) #[] #[]] ++ lb) W fun e W' => (∃ v, e = .returned v) ∧ ((∃ X, J xs X W') ∨ (∃ pre X, Jx pre X W'))

/-- What a round of the caller's does to the world. -/
structure Turn (hs : Nat) (Pr : Nat → Prop) (Ow : World → Nat → Prop) (W W' : World) : Prop where
  size : W.heap.size ≤ W'.heap.size
  prot : ∀ k, Pr k → W'.heap[k]? = W.heap[k]?
  keeps : ∀ k, hs ≤ k → k < W.heap.size → ¬ Ow W k → W'.heap[k]? = W.heap[k]?
  owns : ∀ k, k < W.heap.size → Ow W' k → Ow W k

theorem Turn.trans {hs : Nat} {Pr : Nat → Prop} {Ow : World → Nat → Prop} {A B C : World} (h : Turn hs Pr Ow A B) (k : Turn hs Pr Ow B C) : Turn hs Pr Ow A C :=
  ⟨Nat.le_trans h.size k.size, fun i hi => (k.prot i hi).trans (h.prot i hi),
   fun i hs' hi ho => (k.keeps i hs' (Nat.lt_of_lt_of_le hi h.size) (fun hb => ho (h.owns i hi hb))).trans (h.keeps i hs' hi ho),
   fun i hi ho => h.owns i hi (k.owns i (Nat.lt_of_lt_of_le hi h.size) ho)⟩

def rfPost {α : Type} (hs : Nat) (Pr : Nat → Prop) (Ow : World → Nat → Prop) (I : List α → World → Prop) (Ix : Code → List α → World → Prop) (xs : List α) (W : World) : Exit → Act → World → Prop
  | .normal, _, W' => Turn hs Pr Ow W W' ∧ I xs W'
  | .ret, _, W' => Turn hs Pr Ow W W' ∧ Ix .ret xs W'
  | .exit id, _, W' => Turn hs Pr Ow W W' ∧ Ix (.exit id) xs W'
  | .goto t, _, W' => Turn hs Pr Ow W W' ∧ Ix (.goto t) xs W'
  | .panic _, _, _ => False
  | .outgrown, _, _ => False

theorem loop_not_cells {W : World} {l : Nat} {r : Loop} (h : W.heap[l]? = some (.loop r)) : ¬ ∃ c t f, W.heap[l]? = some (.cells c t f) := by
  rintro ⟨c, t, f, e⟩; rw [h] at e; cases e

/-- THE STATEMENT. -/
theorem rf_law {P : Program} {n : Nat} {α : Type} {g : Operand} {ps : Array Tmp} {assign body : Code} {Q : Exit → Act → World → Prop} {a : Act} {w : World}
    {gf : Nat} {lb : Array Value} (hg : a.eval g = .func (.func gf) #[] lb) (eg : ∀ args w, (callFunc gf args).run P w = .ok (.enter gf args) w)
    {encs : α → Array Value} {xs : List α} {Pr : Nat → Prop} (hit : ItC P gf lb encs xs Pr w) (hps : ∀ x, (encs x).size = ps.size) (hPr : ∀ k, Pr k → k < w.heap.size)
    (I : List α → World → Prop) (Ix : Code → List α → World → Prop) (Ow : World → Nat → Prop) (o : α → Obj) (a₁ : α → Nat → Act)
    (hOwc : ∀ pre W k, I pre W → Ow W k → ∃ c t f, W.heap[k]? = some (.cells c t f))
    (hI : ∀ pre (X : Nat → Prop) W W', I pre W → OnlyIn X W W' → (∀ k, X k → w.heap.size ≤ k ∧ ¬ Ow W k) → I pre W' ∧ ∀ k, Ow W' k → Ow W k)
    (hIx : ∀ c pre (X : Nat → Prop) W W', Ix c pre W → OnlyIn X W W' → (∀ k, X k → w.heap.size ≤ k) → Ix c pre W')
    (h0 : I [] w)
    (hassign : ∀ (l : Nat) (x : α) (W : World) (K : Act → World → Prop), K (a₁ x W.heap.size) (W.alloc (o x)) →
      assign.wpIn (Fence.wide.inRound l) 9 P (Exit.then K (fun _ _ _ => False)) { tmps := (ps.zip (encs x)).foldl (fun t (p, v) => t.setIfInBounds p v) a.tmps, defers := [] } W)
    (hbody : ∀ (l : Nat) (pre : List α) (x : α) (rest : List α) (bx : Nat) (W : World), xs = pre ++ x :: rest → I pre W → W.heap[bx]? = some (o x) → w.heap.size ≤ bx → ¬ Ow W bx →
      body.wpIn (Fence.wide.inRound l) 9 P (rfPost w.heap.size Pr Ow I Ix (pre ++ [x]) W) (a₁ x bx) W)
    (hdone : ∀ (D : Nat) (W : World), w.heap.size ≤ D → I xs W → W.heap[D]? = some (.deferred (some [])) → Q .normal { a with defers := { target := .collected D, args := #[] } :: a.defers } W)
    (hstop : ∀ (D : Nat) (c : Code) (pre : List α) (W : World), w.heap.size ≤ D → Ix c pre W → W.heap[D]? = some (.deferred (some [])) → c.wpIn Fence.wide n P Q { a with defers := { target := .collected D, args := #[] } :: a.defers } W) :
    (Code.rangeFunc g ps assign body).wpIn Fence.wide n P Q a w := by
  refine wpIn_rangeFunc ?_
  intro fn hfn
  obtain ⟨rec, hrec⟩ : ∃ rec : LoopState → Option Code → Loop, rec = fun st pe => { state := st, pending := pe, fn, tmps := a.tmps, params := ps, assign, body, defers := w.heap.size } := ⟨_, rfl⟩
  obtain ⟨W1, hW1⟩ : ∃ W1, (w.alloc (.deferred (some []))).alloc (.loop (rec .ready none)) = W1 := ⟨_, rfl⟩
  have hz1 : W1.heap.size = w.heap.size + 2 := by rw [← hW1]; simp
  have hL1 : W1.heap[w.heap.size + 1]? = some (.loop (rec .ready none)) := by
    rw [← hW1]; have := World.alloc_heap_new (w.alloc (.deferred (some []))) (.loop (rec .ready none)); rwa [World.size_alloc] at this
  have hK1 : W1.heap[w.heap.size]? = some (.deferred (some [])) := by
    rw [← hW1]; exact (Below.heap_alloc _ _ _ (by simp)).trans (World.alloc_heap_new w _)
  have hO1 : OnlyIn (fun _ => False) w W1 := by rw [← hW1]; exact (OnlyIn.alloc _ w _).trans (OnlyIn.alloc _ _ _)
  have hI1 : I [] W1 := (hI [] _ w W1 h0 hO1 (fun _ h => h.elim)).1
  refine ⟨w.heap.size + 1, [{ target := .collected w.heap.size, args := #[] }], W1, { target := .fn (.func gf) lb, args := #[.func (.yield (w.heap.size + 1)) #[] #[]] }, W1, gf,
    #[.func (.yield (w.heap.size + 1)) #[] #[]] ++ lb, W1, ?_, ?_, ?_, ?_, fun h => by simp [Fence.wide] at h, ?_⟩
  · rw [← hW1, hrec]; exact run_enterLoop_outer _ _ _ _ _
  · simp only [resolve, hg]
    simp [go_sem]
  · intro f' _; trivial
  · simp [invoke, go_sem, eg]
  refine callsIn_wide.2 ((hit (w.heap.size + 1)
      (fun pre X W => I pre W ∧ W.heap[w.heap.size + 1]? = some (.loop (rec .ready none)) ∧ W.heap[w.heap.size]? = some (.deferred (some [])) ∧ ∀ k, X k → w.heap.size + 2 ≤ k ∧ k < W.heap.size ∧ ¬ Ow W k)
      (fun pre X W => ∃ c, Ix c pre W ∧ W.heap[w.heap.size + 1]? = some (.loop (rec .done (some c))) ∧ W.heap[w.heap.size]? = some (.deferred (some [])) ∧ ∀ k, X k → w.heap.size + 2 ≤ k ∧ k < W.heap.size)
      W1 (by omega) (fun k hk => hO1.block k (hPr k hk) (fun h => h)) ?_ ?_ ?_ ⟨hI1, hL1, hK1, fun _ h => h.elim⟩).mono ?_)
  · -- J abides
    rintro pre X X' W W' ⟨hi, hl, hk, hx⟩ ho hx'
    have hlt : w.heap.size + 1 < W.heap.size := (Array.getElem?_eq_some_iff.1 hl).1
    obtain ⟨hi', how⟩ := hI pre X W W' hi ho (fun k h => ⟨by have := (hx k h).1; omega, (hx k h).2.2⟩)
    refine ⟨hi', (ho.block _ hlt (fun h => by have := (hx _ h).1; omega)).trans hl, (ho.block _ (by omega) (fun h => by have := (hx _ h).1; omega)).trans hk, fun k h => ?_⟩
    rcases hx' k h with h1 | ⟨h1, h2⟩
    · obtain ⟨a1, a2, a3⟩ := hx k h1
      exact ⟨a1, Nat.lt_of_lt_of_le a2 ho.size, fun h => a3 (how k h)⟩
    · refine ⟨by omega, h2, fun h => ?_⟩
      obtain ⟨c, t, f, e⟩ := hOwc pre W k hi (how k h)
      have := (Array.getElem?_eq_some_iff.1 e).1
      omega
  · rintro pre X X' W W' ⟨c, hi, hl, hk, hx⟩ ho hx'
    have hlt : w.heap.size + 1 < W.heap.size := (Array.getElem?_eq_some_iff.1 hl).1
    refine ⟨c, hIx c pre X W W' hi ho (fun k h => by have := (hx k h).1; omega), (ho.block _ hlt (fun h => by have := (hx _ h).1; omega)).trans hl, (ho.block _ (by omega) (fun h => by have := (hx _ h).1; omega)).trans hk, fun k h => ?_⟩
    rcases hx' k h with h1 | ⟨h1, h2⟩
    · obtain ⟨a1, a2⟩ := hx k h1
      exact ⟨a1, Nat.lt_of_lt_of_le a2 ho.size⟩
    · exact ⟨by omega, h2⟩
  · -- one round
    rintro pre x rest X W hxs ⟨hi, hl, hk, hx⟩
    have hlt : w.heap.size + 1 < W.heap.size := (Array.getElem?_eq_some_iff.1 hl).1
    have hy := run_yield (P := P) (args := encs x) hl (by rw [hrec]; exact hps x)
    rw [hrec] at hy
    refine ⟨fn, _, assign, body, hy, roundIn_of_wpIn hfn (hassign _ x W _ ?_)⟩
    clear hy
    obtain ⟨Wa, hWa⟩ : ∃ Wa, W.alloc (o x) = Wa := ⟨_, rfl⟩
    rw [hWa]
    have hza : Wa.heap.size = W.heap.size + 1 := by rw [← hWa]; simp
    have hla : Wa.heap[w.heap.size + 1]? = some (.loop (rec .ready none)) := by rw [← hWa]; exact (Below.heap_alloc _ _ _ hlt).trans hl
    refine ⟨_, run_beginRound hla (by rw [hrec]), ?_⟩
    obtain ⟨W2, hW2⟩ : ∃ W2, Wa.putObj (w.heap.size + 1) (.loop { rec .ready none with state := .busy }) = W2 := ⟨_, rfl⟩
    rw [hW2]
    have hz2 : W2.heap.size = W.heap.size + 1 := by rw [← hW2]; simp [hza]
    have hl2 : W2.heap[w.heap.size + 1]? = some (.loop { rec .ready none with state := .busy }) := by rw [← hW2]; exact World.putObj_heap_same (by omega)
    have hk2 : W2.heap[w.heap.size]? = some (.deferred (some [])) := by rw [← hW2]; exact (World.putObj_heap_other (by omega)).trans (by rw [← hWa]; exact (Below.heap_alloc _ _ _ (by omega)).trans hk)
    have hbx2 : W2.heap[W.heap.size]? = some (o x) := by rw [← hW2]; exact (World.putObj_heap_other (by omega)).trans (by rw [← hWa]; exact World.alloc_heap_new W _)
    have ho2 : OnlyIn (fun k => k = w.heap.size + 1) W W2 := by
      rw [← hW2]; refine OnlyIn.trans ?_ (OnlyIn.putObj Wa _ _ rfl); rw [← hWa]; exact OnlyIn.alloc _ W _
    obtain ⟨hi2, how2⟩ := hI pre _ W W2 hi ho2 (fun k e => ⟨by omega, fun h => by subst e; exact loop_not_cells hl (hOwc pre W _ hi h)⟩)
    refine wpIn_mono (hbody _ pre x rest W.heap.size W2 hxs hi2 hbx2 (by omega) (fun h => ?_)) ?_
    · obtain ⟨c, t, f, e⟩ := hOwc pre W _ hi (how2 _ h)
      have := (Array.getElem?_eq_some_iff.1 e).1
      omega
    have nL : ¬ Ow W2 (w.heap.size + 1) := fun h => loop_not_cells hl (hOwc pre W _ hi (how2 _ h))
    have nD : ¬ Ow W2 w.heap.size := fun h => by
      obtain ⟨c, t, f, e⟩ := hOwc pre W _ hi (how2 _ h); rw [hk] at e; cases e
    have fin : ∀ (jump : Option Code) (W3 : World), Turn w.heap.size Pr Ow W2 W3 →
        (Instr.endRound (w.heap.size + 1) jump).run P W3 = .ok (.bool jump.isNone) (W3.putObj (w.heap.size + 1) (.loop (rec (if jump.isNone then .ready else .done) jump))) ∧
        W3.heap[w.heap.size + 1]? = some (.loop { rec .ready none with state := .busy }) ∧
        (W3.putObj (w.heap.size + 1) (.loop (rec (if jump.isNone then .ready else .done) jump))).heap[w.heap.size + 1]? = some (.loop (rec (if jump.isNone then .ready else .done) jump)) ∧
        (W3.putObj (w.heap.size + 1) (.loop (rec (if jump.isNone then .ready else .done) jump))).heap[w.heap.size]? = some (.deferred (some [])) := fun jump W3 ht => by
      have hl3 := (ht.keeps _ (by omega) (by omega) nL).trans hl2
      have := run_endRound (P := P) jump hl3
      rw [hrec] at this ⊢
      exact ⟨this, by rw [hrec] at hl3; exact hl3, World.putObj_heap_same (Array.getElem?_eq_some_iff.1 hl3).1, (World.putObj_heap_other (by omega)).trans ((ht.keeps _ (by omega) (by omega) nD).trans hk2)⟩
    have kept3 : ∀ (W3 : World) (o : Obj), Turn w.heap.size Pr Ow W2 W3 → Kept Pr X W (W3.putObj (w.heap.size + 1) o) := fun W3 o ht => by
      have hsz := ht.size
      refine ⟨by simp; omega, fun k hkW h => ?_⟩
      rcases h with h | h
      · have hkw := hPr k h
        exact (World.putObj_heap_other (by omega)).trans ((ht.prot k h).trans (ho2.block k hkW (by omega)))
      · obtain ⟨a1, a2, a3'⟩ := hx k h
        exact (World.putObj_heap_other (by omega)).trans ((ht.keeps k (by omega) (by omega) (fun h => a3' (how2 k h))).trans (ho2.block k hkW (by omega)))
    have leaves : ∀ (c : Code) (W3 : World), Turn w.heap.size Pr Ow W2 W3 → Ix c (pre ++ [x]) W3 → ∃ v w', (Instr.endRound (w.heap.size + 1) (some c)).run P W3 = .ok v w' ∧
        (((Ending.returned v : Ending) = .returned (.bool true) ∧ (I (pre ++ [x]) w' ∧ w'.heap[w.heap.size + 1]? = some (.loop (rec .ready none)) ∧ w'.heap[w.heap.size]? = some (.deferred (some [])) ∧ ∀ k, X k → w.heap.size + 2 ≤ k ∧ k < w'.heap.size ∧ ¬ Ow w' k) ∧ Kept Pr X W w') ∨
          ((Ending.returned v : Ending) = .returned (.bool false) ∧ (∃ c, Ix c (pre ++ [x]) w' ∧ w'.heap[w.heap.size + 1]? = some (.loop (rec .done (some c))) ∧ w'.heap[w.heap.size]? = some (.deferred (some [])) ∧ (∀ k, X k → w.heap.size + 2 ≤ k ∧ k < w'.heap.size)) ∧ Kept Pr X W w')) := fun c W3 ht hc => by
      obtain ⟨hr, hl3, hl4, hk4⟩ := fin (some c) W3 ht
      refine ⟨_, _, hr, .inr ⟨rfl, ⟨c, hIx c _ _ W3 _ hc (OnlyIn.putObj (X := fun k => k = w.heap.size + 1) W3 _ _ rfl) (fun k e => by omega), hl4, hk4, fun k h => ?_⟩, kept3 W3 _ ht⟩⟩
      have := hx k h
      have := ht.size
      exact ⟨by omega, by simp; omega⟩
    rintro e a3 W3 hp
    cases e with
    | normal =>
      obtain ⟨ht, hi3⟩ := hp
      obtain ⟨hr, hl3, hl4, hk4⟩ := fin none W3 ht
      obtain ⟨hi4, how4⟩ := hI _ _ W3 (W3.putObj (w.heap.size + 1) (.loop (rec (if (none : Option Code).isNone then .ready else .done) none))) hi3 (OnlyIn.putObj (X := fun k => k = w.heap.size + 1) W3 _ _ rfl) (fun k e => ⟨by omega, fun h => by subst e; exact loop_not_cells hl3 (hOwc _ W3 _ hi3 h)⟩)
      have hsz := ht.size
      refine ⟨_, _, hr, .inl ⟨rfl, ⟨hi4, hl4, hk4, fun k h => ?_⟩, kept3 W3 _ ht⟩⟩
      obtain ⟨a1, a2, a3'⟩ := hx k h
      exact ⟨a1, by simp; omega, fun h4 => a3' (how2 k (ht.owns k (by omega) (how4 k h4)))⟩
    | ret => exact leaves .ret W3 hp.1 hp.2
    | exit id => exact leaves (.exit id) W3 hp.1 hp.2
    | goto t => exact leaves (.goto t) W3 hp.1 hp.2
    | panic ch => exact hp.elim
    | outgrown => exact hp.elim
  · -- behind the iterator
    rintro e W2 ⟨⟨v, rfl⟩, (⟨X, hi, hl, hk, hx⟩ | ⟨pre, X, c, hi, hl, hk, hx⟩)⟩
    · refine ⟨none, _, by have := run_endLoop (P := P) hl (by rw [hrec]; simp); rw [hrec] at this; exact this, ?_⟩
      exact hdone _ _ (Nat.le_refl _) (hI _ _ W2 _ hi (OnlyIn.putObj (X := fun k => k = w.heap.size + 1) W2 _ _ rfl) (fun k e => ⟨by omega, fun h => by subst e; exact loop_not_cells hl (hOwc _ W2 _ hi h)⟩)).1 ((World.putObj_heap_other (by omega)).trans hk)
    · refine ⟨some c, _, by have := run_endLoop (P := P) hl (by rw [hrec]; simp); rw [hrec] at this; exact this, ?_⟩
      exact hstop _ c pre _ (Nat.le_refl _) (hIx c _ _ W2 _ hi (OnlyIn.putObj (X := fun k => k = w.heap.size + 1) W2 _ _ rfl) (fun k e => by omega)) ((World.putObj_heap_other (by omega)).trans hk)

/-- How the body of a round may be left, where the invariant names the iterator's blocks. -/
def rfPostX {α : Type} (Pr X : Nat → Prop) (I : List α → (Nat → Prop) → World → Prop) (Ix : Code → List α → (Nat → Prop) → World → Prop) (xs : List α) (W : World) : Exit → Act → World → Prop
  | .normal, _, W' => Kept Pr X W W' ∧ I xs X W'
  | .ret, _, W' => Kept Pr X W W' ∧ Ix .ret xs X W'
  | .exit id, _, W' => Kept Pr X W W' ∧ Ix (.exit id) xs X W'
  | .goto t, _, W' => Kept Pr X W W' ∧ Ix (.goto t) xs X W'
  | .panic _, _, _ => False
  | .outgrown, _, _ => False

/-- THE STATEMENT, its invariant naming the blocks that are not the caller's (a caller that is an iterator itself wants that). -/
theorem rf_gen {P : Program} {n : Nat} {α : Type} {g : Operand} {ps : Array Tmp} {assign body : Code} {Q : Exit → Act → World → Prop} {a : Act} {w : World}
    {gf : Nat} {lb : Array Value} (hg : a.eval g = .func (.func gf) #[] lb) (eg : ∀ args w, (callFunc gf args).run P w = .ok (.enter gf args) w)
    {encs : α → Array Value} {xs : List α} {Pr : Nat → Prop} (hit : ItC P gf lb encs xs Pr w) (hps : ∀ x, (encs x).size = ps.size) (hPr : ∀ k, Pr k → k < w.heap.size)
    (I : List α → (Nat → Prop) → World → Prop) (Ix : Code → List α → (Nat → Prop) → World → Prop) (o : α → Obj) (a₁ : α → Nat → Act)
    (hI : Abide I) (hIx : ∀ c, Abide (Ix c)) (h0 : I [] (fun _ => False) w)
    (hassign : ∀ (l : Nat) (x : α) (W : World) (K : Act → World → Prop), K (a₁ x W.heap.size) (W.alloc (o x)) →
      assign.wpIn (Fence.wide.inRound l) 9 P (Exit.then K (fun _ _ _ => False)) { tmps := (ps.zip (encs x)).foldl (fun t (p, v) => t.setIfInBounds p v) a.tmps, defers := [] } W)
    (hbody : ∀ (l : Nat) (pre : List α) (x : α) (rest : List α) (bx : Nat) (X : Nat → Prop) (W : World), xs = pre ++ x :: rest → I pre X W → W.heap[bx]? = some (o x) → ¬ X bx → w.heap.size ≤ bx →
      body.wpIn (Fence.wide.inRound l) 9 P (rfPostX Pr X I Ix (pre ++ [x]) W) (a₁ x bx) W)
    (hdone : ∀ (D : Nat) (X : Nat → Prop) (W : World), w.heap.size ≤ D → X D → I xs X W → W.heap[D]? = some (.deferred (some [])) → Q .normal { a with defers := { target := .collected D, args := #[] } :: a.defers } W)
    (hstop : ∀ (D : Nat) (c : Code) (pre : List α) (X : Nat → Prop) (W : World), w.heap.size ≤ D → X D → Ix c pre X W → W.heap[D]? = some (.deferred (some [])) → c.wpIn Fence.wide n P Q { a with defers := { target := .collected D, args := #[] } :: a.defers } W) :
    (Code.rangeFunc g ps assign body).wpIn Fence.wide n P Q a w := by
  refine wpIn_rangeFunc ?_
  intro fn hfn
  obtain ⟨rec, hrec⟩ : ∃ rec : LoopState → Option Code → Loop, rec = fun st pe => { state := st, pending := pe, fn, tmps := a.tmps, params := ps, assign, body, defers := w.heap.size } := ⟨_, rfl⟩
  obtain ⟨W1, hW1⟩ : ∃ W1, (w.alloc (.deferred (some []))).alloc (.loop (rec .ready none)) = W1 := ⟨_, rfl⟩
  have hz1 : W1.heap.size = w.heap.size + 2 := by rw [← hW1]; simp
  have hL1 : W1.heap[w.heap.size + 1]? = some (.loop (rec .ready none)) := by
    rw [← hW1]; have := World.alloc_heap_new (w.alloc (.deferred (some []))) (.loop (rec .ready none)); rwa [World.size_alloc] at this
  have hK1 : W1.heap[w.heap.size]? = some (.deferred (some [])) := by
    rw [← hW1]; exact (Below.heap_alloc _ _ _ (by simp)).trans (World.alloc_heap_new w _)
  have hO1 : OnlyIn (fun _ => False) w W1 := by rw [← hW1]; exact (OnlyIn.alloc _ w _).trans (OnlyIn.alloc _ _ _)
  have hI1 : I [] (fun k => k = w.heap.size ∨ k = w.heap.size + 1) W1 := hI [] _ _ w W1 h0 hO1 (fun k h => Or.inr (by omega))
  refine ⟨w.heap.size + 1, [{ target := .collected w.heap.size, args := #[] }], W1, { target := .fn (.func gf) lb, args := #[.func (.yield (w.heap.size + 1)) #[] #[]] }, W1, gf,
    #[.func (.yield (w.heap.size + 1)) #[] #[]] ++ lb, W1, ?_, ?_, ?_, ?_, fun h => by simp [Fence.wide] at h, ?_⟩
  · rw [← hW1, hrec]; exact run_enterLoop_outer _ _ _ _ _
  · simp only [resolve, hg]
    simp [go_sem]
  · intro f' _; trivial
  · simp [invoke, go_sem, eg]
  refine callsIn_wide.2 ((hit (w.heap.size + 1)
      (fun pre X W => ∃ Xc : Nat → Prop, (∀ k, X k → Xc k) ∧ I pre Xc W ∧ W.heap[w.heap.size + 1]? = some (.loop (rec .ready none)) ∧ W.heap[w.heap.size]? = some (.deferred (some [])) ∧ Xc w.heap.size ∧ Xc (w.heap.size + 1) ∧ ¬ X w.heap.size ∧ ¬ X (w.heap.size + 1) ∧ ∀ k, Xc k → k < W.heap.size)
      (fun pre X W => ∃ (Xc : Nat → Prop) (c : Code), (∀ k, X k → Xc k) ∧ Ix c pre Xc W ∧ W.heap[w.heap.size + 1]? = some (.loop (rec .done (some c))) ∧ W.heap[w.heap.size]? = some (.deferred (some [])) ∧ Xc w.heap.size ∧ Xc (w.heap.size + 1) ∧ ¬ X w.heap.size ∧ ¬ X (w.heap.size + 1))
      W1 (by omega) (fun k hk => hO1.block k (hPr k hk) (fun h => h)) ?_ ?_ ?_ ⟨_, fun _ h => h.elim, hI1, hL1, hK1, Or.inl rfl, Or.inr rfl, fun h => h, fun h => h, fun k h => by omega⟩).mono ?_)
  · -- J abides
    rintro pre X X' W W' ⟨Xc, hs, hi, hl, hk, hd1, hd2, hn1, hn2, hb⟩ ho hx'
    have hlt : w.heap.size + 1 < W.heap.size := (Array.getElem?_eq_some_iff.1 hl).1
    refine ⟨fun k => Xc k ∨ X' k, fun k h => Or.inr h, hI pre Xc _ W W' hi (ho.mono hs) (fun k h => ?_), (ho.block _ hlt hn2).trans hl, (ho.block _ (by omega) hn1).trans hk, Or.inl hd1, Or.inl hd2, fun h => ?_, fun h => ?_, fun k h => ?_⟩
    · rcases h with h | h
      · exact Or.inl h
      · rcases hx' k h with h | h
        · exact Or.inl (hs k h)
        · exact Or.inr h
    · rcases hx' _ h with h | h
      · exact hn1 h
      · omega
    · rcases hx' _ h with h | h
      · exact hn2 h
      · omega
    · rcases h with h | h
      · exact Nat.lt_of_lt_of_le (hb k h) ho.size
      · rcases hx' k h with h | h
        · exact Nat.lt_of_lt_of_le (hb k (hs k h)) ho.size
        · exact h.2
  · rintro pre X X' W W' ⟨Xc, c, hs, hi, hl, hk, hd1, hd2, hn1, hn2⟩ ho hx'
    have hlt : w.heap.size + 1 < W.heap.size := (Array.getElem?_eq_some_iff.1 hl).1
    refine ⟨fun k => Xc k ∨ X' k, c, fun k h => Or.inr h, hIx c pre Xc _ W W' hi (ho.mono hs) (fun k h => ?_), (ho.block _ hlt hn2).trans hl, (ho.block _ (by omega) hn1).trans hk, Or.inl hd1, Or.inl hd2, fun h => ?_, fun h => ?_⟩
    · rcases h with h | h
      · exact Or.inl h
      · rcases hx' k h with h | h
        · exact Or.inl (hs k h)
        · exact Or.inr h
    · rcases hx' _ h with h | h
      · exact hn1 h
      · omega
    · rcases hx' _ h with h | h
      · exact hn2 h
      · omega
  · -- one round
    rintro pre x rest X W hxs ⟨Xc, hs, hi, hl, hk, hd1, hd2, hn1, hn2, hb⟩
    have hlt : w.heap.size + 1 < W.heap.size := (Array.getElem?_eq_some_iff.1 hl).1
    have hy := run_yield (P := P) (args := encs x) hl (by rw [hrec]; exact hps x)
    rw [hrec] at hy
    refine ⟨fn, _, assign, body, hy, roundIn_of_wpIn hfn (hassign _ x W _ ?_)⟩
    clear hy
    obtain ⟨Wa, hWa⟩ : ∃ Wa, W.alloc (o x) = Wa := ⟨_, rfl⟩
    rw [hWa]
    have hza : Wa.heap.size = W.heap.size + 1 := by rw [← hWa]; simp
    have hla : Wa.heap[w.heap.size + 1]? = some (.loop (rec .ready none)) := by rw [← hWa]; exact (Below.heap_alloc _ _ _ hlt).trans hl
    refine ⟨_, run_beginRound hla (by rw [hrec]), ?_⟩
    obtain ⟨W2, hW2⟩ : ∃ W2, Wa.putObj (w.heap.size + 1) (.loop { rec .ready none with state := .busy }) = W2 := ⟨_, rfl⟩
    rw [hW2]
    have hz2 : W2.heap.size = W.heap.size + 1 := by rw [← hW2]; simp [hza]
    have hl2 : W2.heap[w.heap.size + 1]? = some (.loop { rec .ready none with state := .busy }) := by rw [← hW2]; exact World.putObj_heap_same (by omega)
    have hk2 : W2.heap[w.heap.size]? = some (.deferred (some [])) := by rw [← hW2]; exact (World.putObj_heap_other (by omega)).trans (by rw [← hWa]; exact (Below.heap_alloc _ _ _ (by omega)).trans hk)
    have hbx2 : W2.heap[W.heap.size]? = some (o x) := by rw [← hW2]; exact (World.putObj_heap_other (by omega)).trans (by rw [← hWa]; exact World.alloc_heap_new W _)
    have ho2 : OnlyIn (fun k => k = w.heap.size + 1) W W2 := by
      rw [← hW2]; refine OnlyIn.trans ?_ (OnlyIn.putObj Wa _ _ rfl); rw [← hWa]; exact OnlyIn.alloc _ W _
    have hi2 : I pre Xc W2 := hI pre Xc Xc W W2 hi (ho2.mono (fun k e => by subst e; exact hd2)) (fun k h => Or.inl h)
    refine wpIn_mono (hbody _ pre x rest W.heap.size Xc W2 hxs hi2 hbx2 (fun h => by have := hb _ h; omega) (by omega)) ?_
    have fin : ∀ (jump : Option Code) (W3 : World), Kept Pr Xc W2 W3 →
        (Instr.endRound (w.heap.size + 1) jump).run P W3 = .ok (.bool jump.isNone) (W3.putObj (w.heap.size + 1) (.loop (rec (if jump.isNone then .ready else .done) jump))) ∧
        W3.heap[w.heap.size + 1]? = some (.loop { rec .ready none with state := .busy }) ∧
        (W3.putObj (w.heap.size + 1) (.loop (rec (if jump.isNone then .ready else .done) jump))).heap[w.heap.size + 1]? = some (.loop (rec (if jump.isNone then .ready else .done) jump)) ∧
        (W3.putObj (w.heap.size + 1) (.loop (rec (if jump.isNone then .ready else .done) jump))).heap[w.heap.size]? = some (.deferred (some [])) := fun jump W3 ht => by
      have hl3 := (ht.2 _ (by omega) (Or.inr hd2)).trans hl2
      have := run_endRound (P := P) jump hl3
      rw [hrec] at this ⊢
      exact ⟨this, by rw [hrec] at hl3; exact hl3, World.putObj_heap_same (Array.getElem?_eq_some_iff.1 hl3).1, (World.putObj_heap_other (by omega)).trans ((ht.2 _ (by omega) (Or.inr hd1)).trans hk2)⟩
    have kept3 : ∀ (W3 : World) (o : Obj), Kept Pr Xc W2 W3 → Kept Pr X W (W3.putObj (w.heap.size + 1) o) := fun W3 o ht => by
      have hsz := ht.1
      refine ⟨by simp; omega, fun k hkW h => ?_⟩
      have hkL : k ≠ w.heap.size + 1 := by
        rcases h with h | h
        · have := hPr k h; omega
        · exact fun e => hn2 (e ▸ h)
      exact (World.putObj_heap_other hkL).trans ((ht.2 k (by omega) (h.imp id (hs k))).trans (ho2.block k hkW hkL))
    have leaves : ∀ (c : Code) (W3 : World), Kept Pr Xc W2 W3 → Ix c (pre ++ [x]) Xc W3 → ∃ v w', (Instr.endRound (w.heap.size + 1) (some c)).run P W3 = .ok v w' ∧
        (((Ending.returned v : Ending) = .returned (.bool true) ∧ (∃ Xc : Nat → Prop, (∀ k, X k → Xc k) ∧ I (pre ++ [x]) Xc w' ∧ w'.heap[w.heap.size + 1]? = some (.loop (rec .ready none)) ∧ w'.heap[w.heap.size]? = some (.deferred (some [])) ∧ Xc w.heap.size ∧ Xc (w.heap.size + 1) ∧ ¬ X w.heap.size ∧ ¬ X (w.heap.size + 1) ∧ ∀ k, Xc k → k < w'.heap.size) ∧ Kept Pr X W w') ∨
          ((Ending.returned v : Ending) = .returned (.bool false) ∧ (∃ (Xc : Nat → Prop) (c : Code), (∀ k, X k → Xc k) ∧ Ix c (pre ++ [x]) Xc w' ∧ w'.heap[w.heap.size + 1]? = some (.loop (rec .done (some c))) ∧ w'.heap[w.heap.size]? = some (.deferred (some [])) ∧ Xc w.heap.size ∧ Xc (w.heap.size + 1) ∧ ¬ X w.heap.size ∧ ¬ X (w.heap.size + 1)) ∧ Kept Pr X W w')) := fun c W3 ht hc => by
      obtain ⟨hr, hl3, hl4, hk4⟩ := fin (some c) W3 ht
      exact ⟨_, _, hr, .inr ⟨rfl, ⟨Xc, c, hs, hIx c _ Xc Xc W3 _ hc (OnlyIn.putObj W3 _ _ hd2) (fun k h => Or.inl h), hl4, hk4, hd1, hd2, hn1, hn2⟩, kept3 W3 _ ht⟩⟩
    rintro e a3 W3 hp
    cases e with
    | normal =>
      obtain ⟨ht, hi3⟩ := hp
      obtain ⟨hr, hl3, hl4, hk4⟩ := fin none W3 ht
      have hsz := ht.1
      exact ⟨_, _, hr, .inl ⟨rfl, ⟨Xc, hs, hI _ Xc Xc W3 _ hi3 (OnlyIn.putObj W3 _ _ hd2) (fun k h => Or.inl h), hl4, hk4, hd1, hd2, hn1, hn2, fun k h => by have := hb k h; simp; omega⟩, kept3 W3 _ ht⟩⟩
    | ret => exact leaves .ret W3 hp.1 hp.2
    | exit id => exact leaves (.exit id) W3 hp.1 hp.2
    | goto t => exact leaves (.goto t) W3 hp.1 hp.2
    | panic ch => exact hp.elim
    | outgrown => exact hp.elim
  · -- behind the iterator
    rintro e W2 ⟨⟨v, rfl⟩, (⟨X, Xc, hs, hi, hl, hk, hd1, hd2, hn1, hn2, hb⟩ | ⟨pre, X, Xc, c, hs, hi, hl, hk, hd1, hd2, hn1, hn2⟩)⟩
    · refine ⟨none, _, by have := run_endLoop (P := P) hl (by rw [hrec]; simp); rw [hrec] at this; exact this, ?_⟩
      exact hdone _ Xc _ (Nat.le_refl _) hd1 (hI _ Xc Xc W2 _ hi (OnlyIn.putObj W2 _ _ hd2) (fun k h => Or.inl h)) ((World.putObj_heap_other (by omega)).trans hk)
    · refine ⟨some c, _, by have := run_endLoop (P := P) hl (by rw [hrec]; simp); rw [hrec] at this; exact this, ?_⟩
      exact hstop _ c pre Xc _ (Nat.le_refl _) hd1 (hIx c _ Xc Xc W2 _ hi (OnlyIn.putObj W2 _ _ hd2) (fun k h => Or.inl h)) ((World.putObj_heap_other (by omega)).trans hk)

/-- Behind a loop of such statements the frame bears a mark for each of them: they are taken back, one after the other. -/
def markOf (D : Nat) : Deferred := { target := .collected D, args := #[] }
theorem leaves_marks {n : Nat} {P : Program} {fn : Func} {tmps : Array Value} {R : Ending → World → Prop} : ∀ (Ds : List Nat) (W : World), Ds.Nodup → (∀ D ∈ Ds, W.heap[D]? = some (.deferred (some []))) →
    (∀ W', OnlyIn (fun k => k ∈ Ds) W W' → W'.heap.size = W.heap.size → LeavesInM Fence.wide n P fn tmps R [] .returning W') → LeavesInM Fence.wide n P fn tmps R (Ds.map markOf) .returning W
  | [], W, _, _, h => h W (OnlyIn.refl _ _) rfl
  | D :: Ds, W, hn, hd, h => by
    obtain ⟨hD, hn⟩ := List.nodup_cons.1 hn
    refine ⟨by simp, .inl ⟨D, _, rfl, run_takeDeferred (hd D (by simp)), ?_⟩⟩
    refine leaves_marks Ds _ hn (fun D' hD' => ?_) (fun W' ho hz => ?_)
    · exact (World.putObj_heap_other (k := D') (r := D) (fun e => hD (e ▸ hD'))).trans (hd D' (by simp [hD']))
    · refine h W' ((OnlyIn.putObj (X := fun k => k ∈ D :: Ds) W D _ (by simp)).trans (ho.mono fun k hk => by simp [hk])) (by simpa using hz)

/-- A round's contract goes into whatever round. -/
theorem roundIn_any {n m l' : Nat} {P : Program} {l : Nat} {f : FuncId} {tmps : Array Value} {assign body : Code} {w : World} {R : Ending → World → Prop} (h : RoundIn Fence.wide n P l f tmps assign body w R) : RoundIn (Fence.wide.inRound l') m P l f tmps assign body w R :=
  ⟨h.1, fun c cs _ => h.2 c cs (room_wide _)⟩

/-- What a caller keeps: all that lay at its start, and some blocks of its own. -/
structure Held (w0 : World) (bs : List (Nat × Obj)) (W : World) : Prop where
  below : Below w0.heap.size w0 W
  at_ : ∀ p ∈ bs, W.heap[p.1]? = some p.2
theorem Held.only {w0 W W' : World} {bs : List (Nat × Obj)} {X : Nat → Prop} (h : Held w0 bs W) (ho : OnlyIn X W W') {hs : Nat} (hX : ∀ k, X k → hs ≤ k) (h0 : w0.heap.size ≤ hs) (hb : ∀ p ∈ bs, p.1 < hs) : Held w0 bs W' := by
  refine ⟨ho.below h.below h.below.size (fun k hk => Nat.le_trans h0 (hX k hk)), fun p hp => ?_⟩
  have hlt : p.1 < W.heap.size := (Array.getElem?_eq_some_iff.1 (h.at_ p hp)).1
  exact (ho.block p.1 hlt (fun hx => by have := hX _ hx; have := hb p hp; omega)).trans (h.at_ p hp)
theorem Held.below' {w0 W W' : World} {bs : List (Nat × Obj)} (h : Held w0 bs W) (hb : Below W.heap.size W W') : Held w0 bs W' :=
  h.only (OnlyIn.of_below (X := fun _ => False) hb) (hs := max w0.heap.size (bs.foldr (fun p m => max (p.1 + 1) m) 0)) (fun _ h => h.elim) (by omega) (fun p hp => by
    have : ∀ (bs : List (Nat × Obj)), p ∈ bs → p.1 < bs.foldr (fun p m => max (p.1 + 1) m) 0 := fun bs => by
      induction bs with
      | nil => intro h; cases h
      | cons q bs ih =>
        intro h
        rcases List.mem_cons.1 h with rfl | h
        · simp only [List.foldr_cons]; omega
        · have := ih h; simp only [List.foldr_cons]; omega
    have := this bs hp
    omega)
theorem Turn.refl (hs : Nat) (Pr : Nat → Prop) (Ow : World → Nat → Prop) (W : World) : Turn hs Pr Ow W W := ⟨Nat.le_refl _, fun _ _ => rfl, fun _ _ _ _ => rfl, fun _ _ h => h⟩
/-- A round that turns boxes of the caller's ahead of the statement, and lays blocks. -/
theorem Turn.of {hs : Nat} {Pr : Nat → Prop} {X : Nat → Prop} {W W' : World} (h : OnlyIn X W W') (hX : ∀ k, X k → k < hs ∧ ¬ Pr k) (hPr : ∀ k, Pr k → k < W.heap.size) : Turn hs Pr (fun _ _ => False) W W' :=
  ⟨h.size, fun k hk => h.block k (hPr k hk) (fun hx => (hX k hx).2 hk), fun k hk hk' _ => h.block k hk' (fun hx => by have := (hX k hx).1; omega), fun _ _ h => h.elim⟩

end Go.Proofs.YtimdmgkegdlafaaGreatDoor

/- Contracts of package quire: the signatures that were met are kept in a map. -/
namespace Go.Proofs.YtimdmgkegdlafaaGreatDoor
set_option linter.unusedSimpArgs false
set_option linter.unusedVariables false
open Go Go.RowKit Go.Maps

theorem laidOut : laidOutB Tryz.prog = true := by kernel_rfl
theorem rowSig : (39 : TypeId) < Tryz.prog.types.size := of_decide_eq_true (by kernel_rfl)
theorem wideSig : (match Tryz.prog.underlying 39 with | some (.array _ _) | some (.struct _) => true | _ => false) = true := by kernel_rfl
theorem keyAt2 : Tryz.prog.keyTypeAt 2 39 = true := by kernel_rfl
set_option maxRecDepth 100000 in
theorem sigKeyed : Keyed Tryz.prog 39 := Keyed.of_law (deep_law_laid laidOut (m := 2) (by omega) rowSig keyAt2 wideSig)
theorem cellsSig : Tryz.prog.cellsOf 39 = 2 := by kernel_rfl
theorem cellsInt : Tryz.prog.cellsOf 3 = 1 := by kernel_rfl
theorem keyTypeSig : Tryz.prog.keyType 39 = true := by kernel_rfl

theorem lits_some {r l : Int} (hw : (Lit.int .i64 r).wf = true) (hw' : (Lit.int .i64 l).wf = true) (d : Nat) : Tryz.prog.keyLits (d + 2) 39 [.int .i64 r, .int .i64 l] = some [.int .i64 r, .int .i64 l] := by
  have h1 : ∀ x : Int, (Lit.int .i64 x).wf = true → Tryz.prog.keyLits (d + 1) 3 [.int .i64 x] = some [.int .i64 x] := fun x hx => by
    unfold Program.keyLits; rw [Tryz.underlying3]; simp [hx]
  unfold Program.keyLits; rw [Tryz.underlying39]
  simp [cellsSig, cellsInt, h1, hw, hw']

theorem key_some {r l : Int} (h : sigB r l = true) : ∃ kl, keyOf Tryz.prog 39 (.agg #[.int .i64 r, .int .i64 l]) = some kl := by
  have hw : (Lit.int .i64 r).wf = true ∧ (Lit.int .i64 l).wf = true := by
    simp [sigB, inB] at h
    exact ⟨WalkArith.wf_i64 (by omega), WalkArith.wf_i64 (by omega)⟩
  obtain ⟨d, hd⟩ : ∃ d, Tryz.prog.types.size + 1 = d + 2 := ⟨Tryz.prog.types.size - 1, by have h : (39 : Nat) < Tryz.prog.types.size := rowSig; omega⟩
  have hf : (Value.agg #[.int .i64 r, .int .i64 l]).formed Tryz.prog 39 = true := by simp [Value.formed, Tryz.underlying39, cellsSig]
  refine ⟨.string (keyBytes [.int .i64 r, .int .i64 l]), ?_⟩
  rw [keyOf, Tryz.underlying39]
  dsimp only
  rw [keyTypeSig, hf, hd]
  simp only [Bool.and_self, if_true]
  rw [show (Value.agg #[.int .i64 r, .int .i64 l]).cells.toList = [.int .i64 r, .int .i64 l] from rfl, lits_some hw.1 hw.2]
  rfl

/-- Block b is a map from just these signatures to true. -/
def SigMap (w : World) (b : Nat) (ks : List (Int × Int)) : Prop :=
  ∃ es clock, w.heap[b]? = some (.map es clock) ∧ es.toList.map (·.key) = ks.map (fun k => Value.agg #[.int .i64 k.1, .int .i64 k.2]) ∧ (∀ e ∈ es.toList, e.val = .bool true) ∧ ∀ k ∈ ks, sigB k.1 k.2 = true

theorem SigMap.made (w : World) : SigMap (w.alloc (.map #[] 0)) w.heap.size [] := ⟨#[], 0, World.alloc_heap_new w _, rfl, by simp, by simp⟩
theorem SigMap.keep {w w' : World} {b : Nat} {ks : List (Int × Int)} (h : SigMap w b ks) (hs : w'.heap[b]? = w.heap[b]?) : SigMap w' b ks := by
  obtain ⟨es, clock, hb, r⟩ := h
  exact ⟨es, clock, hs.trans hb, r⟩
theorem SigMap.lt {w : World} {b : Nat} {ks : List (Int × Int)} (h : SigMap w b ks) : b < w.heap.size := by
  obtain ⟨es, clock, hb, r⟩ := h
  exact (Array.getElem?_eq_some_iff.1 hb).1

theorem zeroBool (w : World) : (zeroValue 4).run Tryz.prog w = .ok (.bool false) w := by kernel_rfl

theorem sig_keys {es : Array MapEntry} {ks : List (Int × Int)} (hk : es.toList.map (·.key) = ks.map (fun k => Value.agg #[.int .i64 k.1, .int .i64 k.2])) (hs : ∀ k ∈ ks, sigB k.1 k.2 = true) :
    ∀ e ∈ es.toList, ∃ l, keyOf Tryz.prog 39 e.key = some l := fun e he => by
  have : e.key ∈ es.toList.map (·.key) := List.mem_map.2 ⟨e, he, rfl⟩
  rw [hk] at this
  obtain ⟨k, hk, e1⟩ := List.mem_map.1 this
  rw [← e1]; exact key_some (hs k hk)

/-- What a look-up hands back. -/
theorem SigMap.look {w : World} {b : Nat} {ks : List (Int × Int)} (h : SigMap w b ks) {r l : Int} (hs : sigB r l = true) :
    (Instr.lookup 115 (.map (some b)) (.agg #[.int .i64 r, .int .i64 l]) false).run Tryz.prog w = .ok (.bool (decide ((r, l) ∈ ks))) w := by
  obtain ⟨es, clock, hb, hk, hv, hsig⟩ := h
  obtain ⟨kl, hkl⟩ := key_some hs
  have hck := sigKeyed.check w es.isEmpty hkl
  rcases sigKeyed.find w hkl es.toList (sig_keys hk hsig) with ⟨hf, hne⟩ | ⟨j, e, hf, hj, he⟩
  · have hm : ¬ (r, l) ∈ ks := fun hm => by
      have : (Value.agg #[.int .i64 r, .int .i64 l]) ∈ es.toList.map (·.key) := by rw [hk]; exact List.mem_map.2 ⟨_, hm, rfl⟩
      obtain ⟨e, he, e1⟩ := List.mem_map.1 this
      exact hne e he e1
    simp [Instr.lookup, run_underlying Tryz.underlying115, MapKept.run_getObj_map hb, hck, hf, zeroBool, Result.andThen, hm]
  · have hem : e ∈ es.toList := List.mem_of_getElem? hj
    have hm : (r, l) ∈ ks := by
      have : e.key ∈ es.toList.map (·.key) := List.mem_map.2 ⟨e, hem, rfl⟩
      rw [hk, he] at this
      obtain ⟨k, hk, e1⟩ := List.mem_map.1 this
      simp at e1
      rw [show (r, l) = k from by rw [← e1.1, ← e1.2]]; exact hk
    simp [Instr.lookup, run_underlying Tryz.underlying115, MapKept.run_getObj_map hb, hck, hf, hv e hem, Result.andThen, hm]

/-- A store of a signature that is not there. -/
theorem SigMap.put {w : World} {b : Nat} {ks : List (Int × Int)} (h : SigMap w b ks) {r l : Int} (hs : sigB r l = true) (hm : ¬ (r, l) ∈ ks) :
    ∃ o, (Instr.mapUpdate 115 (.map (some b)) (.agg #[.int .i64 r, .int .i64 l]) (.bool true)).run Tryz.prog w = .ok () (w.putObj b o) ∧ ∀ w', w'.heap[b]? = some o → SigMap w' b (ks ++ [(r, l)]) := by
  obtain ⟨es, clock, hb, hk, hv, hsig⟩ := h
  obtain ⟨kl, hkl⟩ := key_some hs
  have hck := sigKeyed.check w false hkl
  rcases sigKeyed.find w hkl es.toList (sig_keys hk hsig) with ⟨hf, hne⟩ | ⟨j, e, hf, hj, he⟩
  · refine ⟨.map (es.push { key := .agg #[.int .i64 r, .int .i64 l], val := .bool true, born := clock }) (clock + 1), ?_, fun w' hw' => ⟨_, _, hw', ?_, ?_, ?_⟩⟩
    · simp [Instr.mapUpdate, run_underlying Tryz.underlying115, MapKept.run_getObj_map hb, hck, hf, MapKept.run_setObj_map _ hb, Result.andThen, World.putObj]
    · simp [hk]
    · intro e he
      simp at he
      rcases he with he | rfl
      · exact hv e (by simpa using he)
      · rfl
    · intro k hk
      simp at hk
      rcases hk with hk | rfl
      · exact hsig k hk
      · exact hs
  · exact absurd (by
      have : e.key ∈ es.toList.map (·.key) := List.mem_map.2 ⟨e, List.mem_of_getElem? hj, rfl⟩
      rw [hk, he] at this
      obtain ⟨k, hk, e1⟩ := List.mem_map.1 this
      simp at e1
      rw [show (r, l) = k from by rw [← e1.1, ← e1.2]]; exact hk) hm

end Go.Proofs.YtimdmgkegdlafaaGreatDoor
