/- The parts Rf, Rg, Db, Dc, Da2, Ea, Ra, Rb of the proof, joined. It holds without conditions of its own. -/
import Derived.RangeFuncCalls
import Derived.RangeFuncBound
import Derived.RangeFuncLeaves
import Derived.RangeFuncRecord
import Derived.Below
import Derived.Test.YtlekbddlemfokaaDoorKM2
import Derived.Test.YtlekbddlemfokaaDoorKM1
import Derived.Lib.OthersKept
import Derived.WalkSmall
/- A statement that ranges over a function, for iterators that keep state of their own in memory: the iterator owns a set X of blocks that the rounds leave alone; the caller owns the blocks that Ow names. For any program, at the wide fence. -/
namespace Go.Proofs.YtlekbddlemfokaaDoor
set_option linter.unusedSimpArgs false
set_option linter.unusedVariables false
open Go Go.RowKit

/-- From W to W' no block of W turns but those in X. -/
structure OnlyIn (X : Nat → Prop) (W W' : World) : Prop where
  os : W'.os = W.os
  tape : W'.tape = W.tape
  output : W'.output = W.output
  size : W.heap.size ≤ W'.heap.size
  block : ∀ k, k < W.heap.size → ¬ X k → W'.heap[k]? = W.heap[k]?

theorem OnlyIn.refl (X : Nat → Prop) (W : World) : OnlyIn X W W := ⟨rfl, rfl, rfl, Nat.le_refl _, fun _ _ _ => rfl⟩
theorem OnlyIn.trans {X : Nat → Prop} {A B C : World} (h : OnlyIn X A B) (k : OnlyIn X B C) : OnlyIn X A C :=
  ⟨k.os.trans h.os, k.tape.trans h.tape, k.output.trans h.output, Nat.le_trans h.size k.size, fun i hi hx => (k.block i (Nat.lt_of_lt_of_le hi h.size) hx).trans (h.block i hi hx)⟩
theorem OnlyIn.mono {X Y : Nat → Prop} {A B : World} (h : OnlyIn X A B) (hxy : ∀ k, X k → Y k) : OnlyIn Y A B :=
  ⟨h.os, h.tape, h.output, h.size, fun i hi hy => h.block i hi (fun hx => hy (hxy i hx))⟩
theorem OnlyIn.alloc (X : Nat → Prop) (W : World) (o : Obj) : OnlyIn X W (W.alloc o) :=
  ⟨rfl, rfl, rfl, by simp, fun k hk _ => Below.heap_alloc W o k hk⟩
theorem OnlyIn.setCell {X : Nat → Prop} (W : World) (p : Addr) (v : Value) (hp : X p.block) : OnlyIn X W (W.setCell p v) :=
  ⟨rfl, rfl, rfl, by simp [World.setCell], fun k _ hx => Below.heap_setCell W p v k (fun e => hx (e ▸ hp))⟩
theorem OnlyIn.putObj {X : Nat → Prop} (W : World) (l : Nat) (o : Obj) (hl : X l) : OnlyIn X W (W.putObj l o) :=
  ⟨rfl, rfl, rfl, by simp, fun _ _ hx => World.putObj_heap_other (fun e => hx (e ▸ hl))⟩
theorem OnlyIn.drew (X : Nat → Prop) (W : World) : OnlyIn X W W.drew := ⟨rfl, rfl, rfl, Nat.le_refl _, fun _ _ _ => rfl⟩
/-- What a call that leaves all that was there does. -/
theorem OnlyIn.of_below {X : Nat → Prop} {W W' : World} (h : Below W.heap.size W W') : OnlyIn X W W' :=
  ⟨h.os, h.tape, h.output, h.size, fun k hk _ => h.block k hk⟩
theorem OnlyIn.below {X : Nat → Prop} {B : Nat} {A W W' : World} (h : OnlyIn X W W') (hb : Below B A W) (hB : B ≤ W.heap.size) (hx : ∀ k, X k → B ≤ k) : Below B A W' :=
  hb.trans ⟨h.os, h.tape, h.output, h.size, fun k hk => h.block k (Nat.lt_of_lt_of_le hk hB) (fun hxk => by have := hx k hxk; omega)⟩

/-- The invariant allows whatever the iterator does: it turns blocks of its own and lays new ones. -/
def Abide {α : Type} (J : List α → (Nat → Prop) → World → Prop) : Prop :=
  ∀ pre (X X' : Nat → Prop) W W', J pre X W → OnlyIn X W W' → (∀ k, X' k → X k ∨ (W.heap.size ≤ k ∧ k < W'.heap.size)) → J pre X' W'

/-- What a round leaves as it was: the data that the iterator reads, and its own blocks. -/
def Kept (Pr X : Nat → Prop) (W W' : World) : Prop := W.heap.size ≤ W'.heap.size ∧ ∀ k, k < W.heap.size → (Pr k ∨ X k) → W'.heap[k]? = W.heap[k]?

/-- THE ITERATOR's CONTRACT: it yields xs, one after the other, or stops when a round says so. -/
def ItC {α : Type} (P : Program) (gf : Nat) (lb : Array Value) (encs : α → Array Value) (xs : List α) (Pr : Nat → Prop) (w₀ : World) : Prop :=
  ∀ (l : Nat) (J Jx : List α → (Nat → Prop) → World → Prop) (W : World), w₀.heap.size ≤ W.heap.size → (∀ k, Pr k → W.heap[k]? = w₀.heap[k]?) → Abide J → Abide Jx →
    (∀ pre x rest X W1, xs = pre ++ x :: rest → J pre X W1 → YieldAt Fence.wide 9 P l (encs x) W1 fun e W' =>
      (e = .returned (.bool true) ∧ J (pre ++ [x]) X W' ∧ Kept Pr X W1 W') ∨ (e = .returned (.bool false) ∧ Jx (pre ++ [x]) X W' ∧ Kept Pr X W1 W')) →
    J [] (fun _ => False) W →
    Calls P gf (#[.func (.yield l) #[] #[]] ++ lb) W fun e W' => (∃ v, e = .returned v) ∧ ((∃ X, J xs X W') ∨ (∃ pre X, Jx pre X W'))

/-- What a round of the caller's does to the world. -/
structure Turn (hs : Nat) (Pr : Nat → Prop) (Ow : World → Nat → Prop) (W W' : World) : Prop where
  size : W.heap.size ≤ W'.heap.size
  prot : ∀ k, Pr k → W'.heap[k]? = W.heap[k]?
  keeps : ∀ k, hs ≤ k → k < W.heap.size → ¬ Ow W k → W'.heap[k]? = W.heap[k]?
  owns : ∀ k, k < W.heap.size → Ow W' k → Ow W k

theorem Turn.trans {hs : Nat} {Pr : Nat → Prop} {Ow : World → Nat → Prop} {A B C : World} (h : Turn hs Pr Ow A B) (k : Turn hs Pr Ow B C) : Turn hs Pr Ow A C :=
  ⟨Nat.le_trans h.size k.size, fun i hi => (k.prot i hi).trans (h.prot i hi),
   fun i hs' hi ho => (k.keeps i hs' (Nat.lt_of_lt_of_le hi h.size) (fun hb => ho (h.owns i hi hb))).trans (h.keeps i hs' hi ho),
   fun i hi ho => h.owns i hi (k.owns i (Nat.lt_of_lt_of_le hi h.size) ho)⟩

def rfPost {α : Type} (hs : Nat) (Pr : Nat → Prop) (Ow : World → Nat → Prop) (I : List α → World → Prop) (Ix : Code → List α → World → Prop) (xs : List α) (W : World) : Exit → Act → World → Prop
  | .normal, _, W' => Turn hs Pr Ow W W' ∧ I xs W'
  | .ret, _, W' => Turn hs Pr Ow W W' ∧ Ix .ret xs W'
  | .exit id, _, W' => Turn hs Pr Ow W W' ∧ Ix (.exit id) xs W'
  | .goto t, _, W' => Turn hs Pr Ow W W' ∧ Ix (.goto t) xs W'
  | .panic _, _, _ => False
  | .outgrown, _, _ => False

theorem loop_not_cells {W : World} {l : Nat} {r : Loop} (h : W.heap[l]? = some (.loop r)) : ¬ ∃ c t f, W.heap[l]? = some (.cells c t f) := by
  rintro ⟨c, t, f, e⟩; rw [h] at e; cases e

/-- THE STATEMENT. -/
theorem rf_law {P : Program} {n : Nat} {α : Type} {g : Operand} {ps : Array Tmp} {assign body : Code} {Q : Exit → Act → World → Prop} {a : Act} {w : World}
    {gf : Nat} {lb : Array Value} (hg : a.eval g = .func (.func gf) #[] lb) (eg : ∀ args w, (callFunc gf args).run P w = .ok (.enter gf args) w)
    {encs : α → Array Value} {xs : List α} {Pr : Nat → Prop} (hit : ItC P gf lb encs xs Pr w) (hps : ∀ x, (encs x).size = ps.size) (hPr : ∀ k, Pr k → k < w.heap.size)
    (I : List α → World → Prop) (Ix : Code → List α → World → Prop) (Ow : World → Nat → Prop) (o : α → Obj) (a₁ : α → Nat → Act)
    (hOwc : ∀ pre W k, I pre W → Ow W k → ∃ c t f, W.heap[k]? = some (.cells c t f))
    (hI : ∀ pre (X : Nat → Prop) W W', I pre W → OnlyIn X W W' → (∀ k, X k → w.heap.size ≤ k ∧ ¬ Ow W k) → I pre W' ∧ ∀ k, Ow W' k → Ow W k)
    (hIx : ∀ c pre (X : Nat → Prop) W W', Ix c pre W → OnlyIn X W W' → (∀ k, X k → w.heap.size ≤ k) → Ix c pre W')
    (h0 : I [] w)
    (hassign : ∀ (l : Nat) (x : α) (W : World) (K : Act → World → Prop), K (a₁ x W.heap.size) (W.alloc (o x)) →
      assign.wpIn (Fence.wide.inRound l) 9 P (Exit.then K (fun _ _ _ => False)) { tmps := (ps.zip (encs x)).foldl (fun t (p, v) => t.setIfInBounds p v) a.tmps, defers := [] } W)
    (hbody : ∀ (l : Nat) (pre : List α) (x : α) (rest : List α) (bx : Nat) (W : World), xs = pre ++ x :: rest → I pre W → W.heap[bx]? = some (o x) → w.heap.size ≤ bx → ¬ Ow W bx →
      body.wpIn (Fence.wide.inRound l) 9 P (rfPost w.heap.size Pr Ow I Ix (pre ++ [x]) W) (a₁ x bx) W)
    (hdone : ∀ (D : Nat) (W : World), w.heap.size ≤ D → I xs W → W.heap[D]? = some (.deferred (some [])) → Q .normal { a with defers := { target := .collected D, args := #[] } :: a.defers } W)
    (hstop : ∀ (D : Nat) (c : Code) (pre : List α) (W : World), w.heap.size ≤ D → Ix c pre W → W.heap[D]? = some (.deferred (some [])) → c.wpIn Fence.wide n P Q { a with defers := { target := .collected D, args := #[] } :: a.defers } W) :
    (Code.rangeFunc g ps assign body).wpIn Fence.wide n P Q a w := by
  refine wpIn_rangeFunc ?_
  intro fn hfn
  obtain ⟨rec, hrec⟩ : ∃ rec : LoopState → Option Code → Loop, rec = fun st pe => { state := st, pending := pe, fn, tmps := a.tmps, params := ps, assign, body, defers := w.heap.size } := ⟨_, rfl⟩
  obtain ⟨W1, hW1⟩ : ∃ W1, (w.alloc (.deferred (some []))).alloc (.loop (rec .ready none)) = W1 := ⟨_, rfl⟩
  have hz1 : W1.heap.size = w.heap.size + 2 := by rw [← hW1]; simp
  have hL1 : W1.heap[w.heap.size + 1]? = some (.loop (rec .ready none)) := by
    rw [← hW1]; have := World.alloc_heap_new (w.alloc (.deferred (some []))) (.loop (rec .ready none)); rwa [World.size_alloc] at this
  have hK1 : W1.heap[w.heap.size]? = some (.deferred (some [])) := by
    rw [← hW1]; exact (Below.heap_alloc _ _ _ (by simp)).trans (World.alloc_heap_new w _)
  have hO1 : OnlyIn (fun _ => False) w W1 := by rw [← hW1]; exact (OnlyIn.alloc _ w _).trans (OnlyIn.alloc _ _ _)
  have hI1 : I [] W1 := (hI [] _ w W1 h0 hO1 (fun _ h => h.elim)).1
  refine ⟨w.heap.size + 1, [{ target := .collected w.heap.size, args := #[] }], W1, { target := .fn (.func gf) lb, args := #[.func (.yield (w.heap.size + 1)) #[] #[]] }, W1, gf,
    #[.func (.yield (w.heap.size + 1)) #[] #[]] ++ lb, W1, ?_, ?_, ?_, ?_, fun h => by simp [Fence.wide] at h, ?_⟩
  · rw [← hW1, hrec]; exact run_enterLoop_outer _ _ _ _ _
  · simp only [resolve, hg]
    simp [go_sem]
  · intro f' _; trivial
  · simp [invoke, go_sem, eg]
  refine callsIn_wide.2 ((hit (w.heap.size + 1)
      (fun pre X W => I pre W ∧ W.heap[w.heap.size + 1]? = some (.loop (rec .ready none)) ∧ W.heap[w.heap.size]? = some (.deferred (some [])) ∧ ∀ k, X k → w.heap.size + 2 ≤ k ∧ k < W.heap.size ∧ ¬ Ow W k)
      (fun pre X W => ∃ c, Ix c pre W ∧ W.heap[w.heap.size + 1]? = some (.loop (rec .done (some c))) ∧ W.heap[w.heap.size]? = some (.deferred (some [])) ∧ ∀ k, X k → w.heap.size + 2 ≤ k ∧ k < W.heap.size)
      W1 (by omega) (fun k hk => hO1.block k (hPr k hk) (fun h => h)) ?_ ?_ ?_ ⟨hI1, hL1, hK1, fun _ h => h.elim⟩).mono ?_)
  · -- J abides
    rintro pre X X' W W' ⟨hi, hl, hk, hx⟩ ho hx'
    have hlt : w.heap.size + 1 < W.heap.size := (Array.getElem?_eq_some_iff.1 hl).1
    obtain ⟨hi', how⟩ := hI pre X W W' hi ho (fun k h => ⟨by have := (hx k h).1; omega, (hx k h).2.2⟩)
    refine ⟨hi', (ho.block _ hlt (fun h => by have := (hx _ h).1; omega)).trans hl, (ho.block _ (by omega) (fun h => by have := (hx _ h).1; omega)).trans hk, fun k h => ?_⟩
    rcases hx' k h with h1 | ⟨h1, h2⟩
    · obtain ⟨a1, a2, a3⟩ := hx k h1
      exact ⟨a1, Nat.lt_of_lt_of_le a2 ho.size, fun h => a3 (how k h)⟩
    · refine ⟨by omega, h2, fun h => ?_⟩
      obtain ⟨c, t, f, e⟩ := hOwc pre W k hi (how k h)
      have := (Array.getElem?_eq_some_iff.1 e).1
      omega
  · rintro pre X X' W W' ⟨c, hi, hl, hk, hx⟩ ho hx'
    have hlt : w.heap.size + 1 < W.heap.size := (Array.getElem?_eq_some_iff.1 hl).1
    refine ⟨c, hIx c pre X W W' hi ho (fun k h => by have := (hx k h).1; omega), (ho.block _ hlt (fun h => by have := (hx _ h).1; omega)).trans hl, (ho.block _ (by omega) (fun h => by have := (hx _ h).1; omega)).trans hk, fun k h => ?_⟩
    rcases hx' k h with h1 | ⟨h1, h2⟩
    · obtain ⟨a1, a2⟩ := hx k h1
      exact ⟨a1, Nat.lt_of_lt_of_le a2 ho.size⟩
    · exact ⟨by omega, h2⟩
  · -- one round
    rintro pre x rest X W hxs ⟨hi, hl, hk, hx⟩
    have hlt : w.heap.size + 1 < W.heap.size := (Array.getElem?_eq_some_iff.1 hl).1
    have hy := run_yield (P := P) (args := encs x) hl (by rw [hrec]; exact hps x)
    rw [hrec] at hy
    refine ⟨fn, _, assign, body, hy, roundIn_of_wpIn hfn (hassign _ x W _ ?_)⟩
    clear hy
    obtain ⟨Wa, hWa⟩ : ∃ Wa, W.alloc (o x) = Wa := ⟨_, rfl⟩
    rw [hWa]
    have hza : Wa.heap.size = W.heap.size + 1 := by rw [← hWa]; simp
    have hla : Wa.heap[w.heap.size + 1]? = some (.loop (rec .ready none)) := by rw [← hWa]; exact (Below.heap_alloc _ _ _ hlt).trans hl
    refine ⟨_, run_beginRound hla (by rw [hrec]), ?_⟩
    obtain ⟨W2, hW2⟩ : ∃ W2, Wa.putObj (w.heap.size + 1) (.loop { rec .ready none with state := .busy }) = W2 := ⟨_, rfl⟩
    rw [hW2]
    have hz2 : W2.heap.size = W.heap.size + 1 := by rw [← hW2]; simp [hza]
    have hl2 : W2.heap[w.heap.size + 1]? = some (.loop { rec .ready none with state := .busy }) := by rw [← hW2]; exact World.putObj_heap_same (by omega)
    have hk2 : W2.heap[w.heap.size]? = some (.deferred (some [])) := by rw [← hW2]; exact (World.putObj_heap_other (by omega)).trans (by rw [← hWa]; exact (Below.heap_alloc _ _ _ (by omega)).trans hk)
    have hbx2 : W2.heap[W.heap.size]? = some (o x) := by rw [← hW2]; exact (World.putObj_heap_other (by omega)).trans (by rw [← hWa]; exact World.alloc_heap_new W _)
    have ho2 : OnlyIn (fun k => k = w.heap.size + 1) W W2 := by
      rw [← hW2]; refine OnlyIn.trans ?_ (OnlyIn.putObj Wa _ _ rfl); rw [← hWa]; exact OnlyIn.alloc _ W _
    obtain ⟨hi2, how2⟩ := hI pre _ W W2 hi ho2 (fun k e => ⟨by omega, fun h => by subst e; exact loop_not_cells hl (hOwc pre W _ hi h)⟩)
    refine wpIn_mono (hbody _ pre x rest W.heap.size W2 hxs hi2 hbx2 (by omega) (fun h => ?_)) ?_
    · obtain ⟨c, t, f, e⟩ := hOwc pre W _ hi (how2 _ h)
      have := (Array.getElem?_eq_some_iff.1 e).1
      omega
    have nL : ¬ Ow W2 (w.heap.size + 1) := fun h => loop_not_cells hl (hOwc pre W _ hi (how2 _ h))
    have nD : ¬ Ow W2 w.heap.size := fun h => by
      obtain ⟨c, t, f, e⟩ := hOwc pre W _ hi (how2 _ h); rw [hk] at e; cases e
    have fin : ∀ (jump : Option Code) (W3 : World), Turn w.heap.size Pr Ow W2 W3 →
        (Instr.endRound (w.heap.size + 1) jump).run P W3 = .ok (.bool jump.isNone) (W3.putObj (w.heap.size + 1) (.loop (rec (if jump.isNone then .ready else .done) jump))) ∧
        W3.heap[w.heap.size + 1]? = some (.loop { rec .ready none with state := .busy }) ∧
        (W3.putObj (w.heap.size + 1) (.loop (rec (if jump.isNone then .ready else .done) jump))).heap[w.heap.size + 1]? = some (.loop (rec (if jump.isNone then .ready else .done) jump)) ∧
        (W3.putObj (w.heap.size + 1) (.loop (rec (if jump.isNone then .ready else .done) jump))).heap[w.heap.size]? = some (.deferred (some [])) := fun jump W3 ht => by
      have hl3 := (ht.keeps _ (by omega) (by omega) nL).trans hl2
      have := run_endRound (P := P) jump hl3
      rw [hrec] at this ⊢
      exact ⟨this, by rw [hrec] at hl3; exact hl3, World.putObj_heap_same (Array.getElem?_eq_some_iff.1 hl3).1, (World.putObj_heap_other (by omega)).trans ((ht.keeps _ (by omega) (by omega) nD).trans hk2)⟩
    have kept3 : ∀ (W3 : World) (o : Obj), Turn w.heap.size Pr Ow W2 W3 → Kept Pr X W (W3.putObj (w.heap.size + 1) o) := fun W3 o ht => by
      have hsz := ht.size
      refine ⟨by simp; omega, fun k hkW h => ?_⟩
      rcases h with h | h
      · have hkw := hPr k h
        exact (World.putObj_heap_other (by omega)).trans ((ht.prot k h).trans (ho2.block k hkW (by omega)))
      · obtain ⟨a1, a2, a3'⟩ := hx k h
        exact (World.putObj_heap_other (by omega)).trans ((ht.keeps k (by omega) (by omega) (fun h => a3' (how2 k h))).trans (ho2.block k hkW (by omega)))
    have leaves : ∀ (c : Code) (W3 : World), Turn w.heap.size Pr Ow W2 W3 → Ix c (pre ++ [x]) W3 → ∃ v w', (Instr.endRound (w.heap.size + 1) (some c)).run P W3 = .ok v w' ∧
        (((Ending.returned v : Ending) = .returned (.bool true) ∧ (I (pre ++ [x]) w' ∧ w'.heap[w.heap.size + 1]? = some (.loop (rec .ready none)) ∧ w'.heap[w.heap.size]? = some (.deferred (some [])) ∧ ∀ k, X k → w.heap.size + 2 ≤ k ∧ k < w'.heap.size ∧ ¬ Ow w' k) ∧ Kept Pr X W w') ∨
          ((Ending.returned v : Ending) = .returned (.bool false) ∧ (∃ c, Ix c (pre ++ [x]) w' ∧ w'.heap[w.heap.size + 1]? = some (.loop (rec .done (some c))) ∧ w'.heap[w.heap.size]? = some (.deferred (some [])) ∧ (∀ k, X k → w.heap.size + 2 ≤ k ∧ k < w'.heap.size)) ∧ Kept Pr X W w')) := fun c W3 ht hc => by
      obtain ⟨hr, hl3, hl4, hk4⟩ := fin (some c) W3 ht
      refine ⟨_, _, hr, .inr ⟨rfl, ⟨c, hIx c _ _ W3 _ hc (OnlyIn.putObj (X := fun k => k = w.heap.size + 1) W3 _ _ rfl) (fun k e => by omega), hl4, hk4, fun k h => ?_⟩, kept3 W3 _ ht⟩⟩
      have := hx k h
      have := ht.size
      exact ⟨by omega, by simp; omega⟩
    rintro e a3 W3 hp
    cases e with
    | normal =>
      obtain ⟨ht, hi3⟩ := hp
      obtain ⟨hr, hl3, hl4, hk4⟩ := fin none W3 ht
      obtain ⟨hi4, how4⟩ := hI _ _ W3 (W3.putObj (w.heap.size + 1) (.loop (rec (if (none : Option Code).isNone then .ready else .done) none))) hi3 (OnlyIn.putObj (X := fun k => k = w.heap.size + 1) W3 _ _ rfl) (fun k e => ⟨by omega, fun h => by subst e; exact loop_not_cells hl3 (hOwc _ W3 _ hi3 h)⟩)
      have hsz := ht.size
      refine ⟨_, _, hr, .inl ⟨rfl, ⟨hi4, hl4, hk4, fun k h => ?_⟩, kept3 W3 _ ht⟩⟩
      obtain ⟨a1, a2, a3'⟩ := hx k h
      exact ⟨a1, by simp; omega, fun h4 => a3' (how2 k (ht.owns k (by omega) (how4 k h4)))⟩
    | ret => exact leaves .ret W3 hp.1 hp.2
    | exit id => exact leaves (.exit id) W3 hp.1 hp.2
    | goto t => exact leaves (.goto t) W3 hp.1 hp.2
    | panic ch => exact hp.elim
    | outgrown => exact hp.elim
  · -- behind the iterator
    rintro e W2 ⟨⟨v, rfl⟩, (⟨X, hi, hl, hk, hx⟩ | ⟨pre, X, c, hi, hl, hk, hx⟩)⟩
    · refine ⟨none, _, by have := run_endLoop (P := P) hl (by rw [hrec]; simp); rw [hrec] at this; exact this, ?_⟩
      exact hdone _ _ (Nat.le_refl _) (hI _ _ W2 _ hi (OnlyIn.putObj (X := fun k => k = w.heap.size + 1) W2 _ _ rfl) (fun k e => ⟨by omega, fun h => by subst e; exact loop_not_cells hl (hOwc _ W2 _ hi h)⟩)).1 ((World.putObj_heap_other (by omega)).trans hk)
    · refine ⟨some c, _, by have := run_endLoop (P := P) hl (by rw [hrec]; simp); rw [hrec] at this; exact this, ?_⟩
      exact hstop _ c pre _ (Nat.le_refl _) (hIx c _ _ W2 _ hi (OnlyIn.putObj (X := fun k => k = w.heap.size + 1) W2 _ _ rfl) (fun k e => by omega)) ((World.putObj_heap_other (by omega)).trans hk)

/-- How the body of a round may be left, where the invariant names the iterator's blocks. -/
def rfPostX {α : Type} (Pr X : Nat → Prop) (I : List α → (Nat → Prop) → World → Prop) (Ix : Code → List α → (Nat → Prop) → World → Prop) (xs : List α) (W : World) : Exit → Act → World → Prop
  | .normal, _, W' => Kept Pr X W W' ∧ I xs X W'
  | .ret, _, W' => Kept Pr X W W' ∧ Ix .ret xs X W'
  | .exit id, _, W' => Kept Pr X W W' ∧ Ix (.exit id) xs X W'
  | .goto t, _, W' => Kept Pr X W W' ∧ Ix (.goto t) xs X W'
  | .panic _, _, _ => False
  | .outgrown, _, _ => False

/-- THE STATEMENT, its invariant naming the blocks that are not the caller's (a caller that is an iterator itself wants that). -/
theorem rf_gen {P : Program} {n : Nat} {α : Type} {g : Operand} {ps : Array Tmp} {assign body : Code} {Q : Exit → Act → World → Prop} {a : Act} {w : World}
    {gf : Nat} {lb : Array Value} (hg : a.eval g = .func (.func gf) #[] lb) (eg : ∀ args w, (callFunc gf args).run P w = .ok (.enter gf args) w)
    {encs : α → Array Value} {xs : List α} {Pr : Nat → Prop} (hit : ItC P gf lb encs xs Pr w) (hps : ∀ x, (encs x).size = ps.size) (hPr : ∀ k, Pr k → k < w.heap.size)
    (I : List α → (Nat → Prop) → World → Prop) (Ix : Code → List α → (Nat → Prop) → World → Prop) (o : α → Obj) (a₁ : α → Nat → Act)
    (hI : Abide I) (hIx : ∀ c, Abide (Ix c)) (h0 : I [] (fun _ => False) w)
    (hassign : ∀ (l : Nat) (x : α) (W : World) (K : Act → World → Prop), K (a₁ x W.heap.size) (W.alloc (o x)) →
      assign.wpIn (Fence.wide.inRound l) 9 P (Exit.then K (fun _ _ _ => False)) { tmps := (ps.zip (encs x)).foldl (fun t (p, v) => t.setIfInBounds p v) a.tmps, defers := [] } W)
    (hbody : ∀ (l : Nat) (pre : List α) (x : α) (rest : List α) (bx : Nat) (X : Nat → Prop) (W : World), xs = pre ++ x :: rest → I pre X W → W.heap[bx]? = some (o x) → ¬ X bx → w.heap.size ≤ bx →
      body.wpIn (Fence.wide.inRound l) 9 P (rfPostX Pr X I Ix (pre ++ [x]) W) (a₁ x bx) W)
    (hdone : ∀ (D : Nat) (X : Nat → Prop) (W : World), w.heap.size ≤ D → X D → I xs X W → W.heap[D]? = some (.deferred (some [])) → Q .normal { a with defers := { target := .collected D, args := #[] } :: a.defers } W)
    (hstop : ∀ (D : Nat) (c : Code) (pre : List α) (X : Nat → Prop) (W : World), w.heap.size ≤ D → X D → Ix c pre X W → W.heap[D]? = some (.deferred (some [])) → c.wpIn Fence.wide n P Q { a with defers := { target := .collected D, args := #[] } :: a.defers } W) :
    (Code.rangeFunc g ps assign body).wpIn Fence.wide n P Q a w := by
  refine wpIn_rangeFunc ?_
  intro fn hfn
  obtain ⟨rec, hrec⟩ : ∃ rec : LoopState → Option Code → Loop, rec = fun st pe => { state := st, pending := pe, fn, tmps := a.tmps, params := ps, assign, body, defers := w.heap.size } := ⟨_, rfl⟩
  obtain ⟨W1, hW1⟩ : ∃ W1, (w.alloc (.deferred (some []))).alloc (.loop (rec .ready none)) = W1 := ⟨_, rfl⟩
  have hz1 : W1.heap.size = w.heap.size + 2 := by rw [← hW1]; simp
  have hL1 : W1.heap[w.heap.size + 1]? = some (.loop (rec .ready none)) := by
    rw [← hW1]; have := World.alloc_heap_new (w.alloc (.deferred (some []))) (.loop (rec .ready none)); rwa [World.size_alloc] at this
  have hK1 : W1.heap[w.heap.size]? = some (.deferred (some [])) := by
    rw [← hW1]; exact (Below.heap_alloc _ _ _ (by simp)).trans (World.alloc_heap_new w _)
  have hO1 : OnlyIn (fun _ => False) w W1 := by rw [← hW1]; exact (OnlyIn.alloc _ w _).trans (OnlyIn.alloc _ _ _)
  have hI1 : I [] (fun k => k = w.heap.size ∨ k = w.heap.size + 1) W1 := hI [] _ _ w W1 h0 hO1 (fun k h => Or.inr (by omega))
  refine ⟨w.heap.size + 1, [{ target := .collected w.heap.size, args := #[] }], W1, { target := .fn (.func gf) lb, args := #[.func (.yield (w.heap.size + 1)) #[] #[]] }, W1, gf,
    #[.func (.yield (w.heap.size + 1)) #[] #[]] ++ lb, W1, ?_, ?_, ?_, ?_, fun h => by simp [Fence.wide] at h, ?_⟩
  · rw [← hW1, hrec]; exact run_enterLoop_outer _ _ _ _ _
  · simp only [resolve, hg]
    simp [go_sem]
  · intro f' _; trivial
  · simp [invoke, go_sem, eg]
  refine callsIn_wide.2 ((hit (w.heap.size + 1)
      (fun pre X W => ∃ Xc : Nat → Prop, (∀ k, X k → Xc k) ∧ I pre Xc W ∧ W.heap[w.heap.size + 1]? = some (.loop (rec .ready none)) ∧ W.heap[w.heap.size]? = some (.deferred (some [])) ∧ Xc w.heap.size ∧ Xc (w.heap.size + 1) ∧ ¬ X w.heap.size ∧ ¬ X (w.heap.size + 1) ∧ ∀ k, Xc k → k < W.heap.size)
      (fun pre X W => ∃ (Xc : Nat → Prop) (c : Code), (∀ k, X k → Xc k) ∧ Ix c pre Xc W ∧ W.heap[w.heap.size + 1]? = some (.loop (rec .done (some c))) ∧ W.heap[w.heap.size]? = some (.deferred (some [])) ∧ Xc w.heap.size ∧ Xc (w.heap.size + 1) ∧ ¬ X w.heap.size ∧ ¬ X (w.heap.size + 1))
      W1 (by omega) (fun k hk => hO1.block k (hPr k hk) (fun h => h)) ?_ ?_ ?_ ⟨_, fun _ h => h.elim, hI1, hL1, hK1, Or.inl rfl, Or.inr rfl, fun h => h, fun h => h, fun k h => by omega⟩).mono ?_)
  · -- J abides
    rintro pre X X' W W' ⟨Xc, hs, hi, hl, hk, hd1, hd2, hn1, hn2, hb⟩ ho hx'
    have hlt : w.heap.size + 1 < W.heap.size := (Array.getElem?_eq_some_iff.1 hl).1
    refine ⟨fun k => Xc k ∨ X' k, fun k h => Or.inr h, hI pre Xc _ W W' hi (ho.mono hs) (fun k h => ?_), (ho.block _ hlt hn2).trans hl, (ho.block _ (by omega) hn1).trans hk, Or.inl hd1, Or.inl hd2, fun h => ?_, fun h => ?_, fun k h => ?_⟩
    · rcases h with h | h
      · exact Or.inl h
      · rcases hx' k h with h | h
        · exact Or.inl (hs k h)
        · exact Or.inr h
    · rcases hx' _ h with h | h
      · exact hn1 h
      · omega
    · rcases hx' _ h with h | h
      · exact hn2 h
      · omega
    · rcases h with h | h
      · exact Nat.lt_of_lt_of_le (hb k h) ho.size
      · rcases hx' k h with h | h
        · exact Nat.lt_of_lt_of_le (hb k (hs k h)) ho.size
        · exact h.2
  · rintro pre X X' W W' ⟨Xc, c, hs, hi, hl, hk, hd1, hd2, hn1, hn2⟩ ho hx'
    have hlt : w.heap.size + 1 < W.heap.size := (Array.getElem?_eq_some_iff.1 hl).1
    refine ⟨fun k => Xc k ∨ X' k, c, fun k h => Or.inr h, hIx c pre Xc _ W W' hi (ho.mono hs) (fun k h => ?_), (ho.block _ hlt hn2).trans hl, (ho.block _ (by omega) hn1).trans hk, Or.inl hd1, Or.inl hd2, fun h => ?_, fun h => ?_⟩
    · rcases h with h | h
      · exact Or.inl h
      · rcases hx' k h with h | h
        · exact Or.inl (hs k h)
        · exact Or.inr h
    · rcases hx' _ h with h | h
      · exact hn1 h
      · omega
    · rcases hx' _ h with h | h
      · exact hn2 h
      · omega
  · -- one round
    rintro pre x rest X W hxs ⟨Xc, hs, hi, hl, hk, hd1, hd2, hn1, hn2, hb⟩
    have hlt : w.heap.size + 1 < W.heap.size := (Array.getElem?_eq_some_iff.1 hl).1
    have hy := run_yield (P := P) (args := encs x) hl (by rw [hrec]; exact hps x)
    rw [hrec] at hy
    refine ⟨fn, _, assign, body, hy, roundIn_of_wpIn hfn (hassign _ x W _ ?_)⟩
    clear hy
    obtain ⟨Wa, hWa⟩ : ∃ Wa, W.alloc (o x) = Wa := ⟨_, rfl⟩
    rw [hWa]
    have hza : Wa.heap.size = W.heap.size + 1 := by rw [← hWa]; simp
    have hla : Wa.heap[w.heap.size + 1]? = some (.loop (rec .ready none)) := by rw [← hWa]; exact (Below.heap_alloc _ _ _ hlt).trans hl
    refine ⟨_, run_beginRound hla (by rw [hrec]), ?_⟩
    obtain ⟨W2, hW2⟩ : ∃ W2, Wa.putObj (w.heap.size + 1) (.loop { rec .ready none with state := .busy }) = W2 := ⟨_, rfl⟩
    rw [hW2]
    have hz2 : W2.heap.size = W.heap.size + 1 := by rw [← hW2]; simp [hza]
    have hl2 : W2.heap[w.heap.size + 1]? = some (.loop { rec .ready none with state := .busy }) := by rw [← hW2]; exact World.putObj_heap_same (by omega)
    have hk2 : W2.heap[w.heap.size]? = some (.deferred (some [])) := by rw [← hW2]; exact (World.putObj_heap_other (by omega)).trans (by rw [← hWa]; exact (Below.heap_alloc _ _ _ (by omega)).trans hk)
    have hbx2 : W2.heap[W.heap.size]? = some (o x) := by rw [← hW2]; exact (World.putObj_heap_other (by omega)).trans (by rw [← hWa]; exact World.alloc_heap_new W _)
    have ho2 : OnlyIn (fun k => k = w.heap.size + 1) W W2 := by
      rw [← hW2]; refine OnlyIn.trans ?_ (OnlyIn.putObj Wa _ _ rfl); rw [← hWa]; exact OnlyIn.alloc _ W _
    have hi2 : I pre Xc W2 := hI pre Xc Xc W W2 hi (ho2.mono (fun k e => by subst e; exact hd2)) (fun k h => Or.inl h)
    refine wpIn_mono (hbody _ pre x rest W.heap.size Xc W2 hxs hi2 hbx2 (fun h => by have := hb _ h; omega) (by omega)) ?_
    have fin : ∀ (jump : Option Code) (W3 : World), Kept Pr Xc W2 W3 →
        (Instr.endRound (w.heap.size + 1) jump).run P W3 = .ok (.bool jump.isNone) (W3.putObj (w.heap.size + 1) (.loop (rec (if jump.isNone then .ready else .done) jump))) ∧
        W3.heap[w.heap.size + 1]? = some (.loop { rec .ready none with state := .busy }) ∧
        (W3.putObj (w.heap.size + 1) (.loop (rec (if jump.isNone then .ready else .done) jump))).heap[w.heap.size + 1]? = some (.loop (rec (if jump.isNone then .ready else .done) jump)) ∧
        (W3.putObj (w.heap.size + 1) (.loop (rec (if jump.isNone then .ready else .done) jump))).heap[w.heap.size]? = some (.deferred (some [])) := fun jump W3 ht => by
      have hl3 := (ht.2 _ (by omega) (Or.inr hd2)).trans hl2
      have := run_endRound (P := P) jump hl3
      rw [hrec] at this ⊢
      exact ⟨this, by rw [hrec] at hl3; exact hl3, World.putObj_heap_same (Array.getElem?_eq_some_iff.1 hl3).1, (World.putObj_heap_other (by omega)).trans ((ht.2 _ (by omega) (Or.inr hd1)).trans hk2)⟩
    have kept3 : ∀ (W3 : World) (o : Obj), Kept Pr Xc W2 W3 → Kept Pr X W (W3.putObj (w.heap.size + 1) o) := fun W3 o ht => by
      have hsz := ht.1
      refine ⟨by simp; omega, fun k hkW h => ?_⟩
      have hkL : k ≠ w.heap.size + 1 := by
        rcases h with h | h
        · have := hPr k h; omega
        · exact fun e => hn2 (e ▸ h)
      exact (World.putObj_heap_other hkL).trans ((ht.2 k (by omega) (h.imp id (hs k))).trans (ho2.block k hkW hkL))
    have leaves : ∀ (c : Code) (W3 : World), Kept Pr Xc W2 W3 → Ix c (pre ++ [x]) Xc W3 → ∃ v w', (Instr.endRound (w.heap.size + 1) (some c)).run P W3 = .ok v w' ∧
        (((Ending.returned v : Ending) = .returned (.bool true) ∧ (∃ Xc : Nat → Prop, (∀ k, X k → Xc k) ∧ I (pre ++ [x]) Xc w' ∧ w'.heap[w.heap.size + 1]? = some (.loop (rec .ready none)) ∧ w'.heap[w.heap.size]? = some (.deferred (some [])) ∧ Xc w.heap.size ∧ Xc (w.heap.size + 1) ∧ ¬ X w.heap.size ∧ ¬ X (w.heap.size + 1) ∧ ∀ k, Xc k → k < w'.heap.size) ∧ Kept Pr X W w') ∨
          ((Ending.returned v : Ending) = .returned (.bool false) ∧ (∃ (Xc : Nat → Prop) (c : Code), (∀ k, X k → Xc k) ∧ Ix c (pre ++ [x]) Xc w' ∧ w'.heap[w.heap.size + 1]? = some (.loop (rec .done (some c))) ∧ w'.heap[w.heap.size]? = some (.deferred (some [])) ∧ Xc w.heap.size ∧ Xc (w.heap.size + 1) ∧ ¬ X w.heap.size ∧ ¬ X (w.heap.size + 1)) ∧ Kept Pr X W w')) := fun c W3 ht hc => by
      obtain ⟨hr, hl3, hl4, hk4⟩ := fin (some c) W3 ht
      exact ⟨_, _, hr, .inr ⟨rfl, ⟨Xc, c, hs, hIx c _ Xc Xc W3 _ hc (OnlyIn.putObj W3 _ _ hd2) (fun k h => Or.inl h), hl4, hk4, hd1, hd2, hn1, hn2⟩, kept3 W3 _ ht⟩⟩
    rintro e a3 W3 hp
    cases e with
    | normal =>
      obtain ⟨ht, hi3⟩ := hp
      obtain ⟨hr, hl3, hl4, hk4⟩ := fin none W3 ht
      have hsz := ht.1
      exact ⟨_, _, hr, .inl ⟨rfl, ⟨Xc, hs, hI _ Xc Xc W3 _ hi3 (OnlyIn.putObj W3 _ _ hd2) (fun k h => Or.inl h), hl4, hk4, hd1, hd2, hn1, hn2, fun k h => by have := hb k h; simp; omega⟩, kept3 W3 _ ht⟩⟩
    | ret => exact leaves .ret W3 hp.1 hp.2
    | exit id => exact leaves (.exit id) W3 hp.1 hp.2
    | goto t => exact leaves (.goto t) W3 hp.1 hp.2
    | panic ch => exact hp.elim
    | outgrown => exact hp.elim
  · -- behind the iterator
    rintro e W2 ⟨⟨v, rfl⟩, (⟨X, Xc, hs, hi, hl, hk, hd1, hd2, hn1, hn2, hb⟩ | ⟨pre, X, Xc, c, hs, hi, hl, hk, hd1, hd2, hn1, hn2⟩)⟩
    · refine ⟨none, _, by have := run_endLoop (P := P) hl (by rw [hrec]; simp); rw [hrec] at this; exact this, ?_⟩
      exact hdone _ Xc _ (Nat.le_refl _) hd1 (hI _ Xc Xc W2 _ hi (OnlyIn.putObj W2 _ _ hd2) (fun k h => Or.inl h)) ((World.putObj_heap_other (by omega)).trans hk)
    · refine ⟨some c, _, by have := run_endLoop (P := P) hl (by rw [hrec]; simp); rw [hrec] at this; exact this, ?_⟩
      exact hstop _ c pre Xc _ (Nat.le_refl _) hd1 (hIx c _ Xc Xc W2 _ hi (OnlyIn.putObj W2 _ _ hd2) (fun k h => Or.inl h)) ((World.putObj_heap_other (by omega)).trans hk)

/-- Behind a loop of such statements the frame bears a mark for each of them: they are taken back, one after the other. -/
def markOf (D : Nat) : Deferred := { target := .collected D, args := #[] }
theorem leaves_marks {n : Nat} {P : Program} {fn : Func} {tmps : Array Value} {R : Ending → World → Prop} : ∀ (Ds : List Nat) (W : World), Ds.Nodup → (∀ D ∈ Ds, W.heap[D]? = some (.deferred (some []))) →
    (∀ W', OnlyIn (fun k => k ∈ Ds) W W' → W'.heap.size = W.heap.size → LeavesInM Fence.wide n P fn tmps R [] .returning W') → LeavesInM Fence.wide n P fn tmps R (Ds.map markOf) .returning W
  | [], W, _, _, h => h W (OnlyIn.refl _ _) rfl
  | D :: Ds, W, hn, hd, h => by
    obtain ⟨hD, hn⟩ := List.nodup_cons.1 hn
    refine ⟨by simp, .inl ⟨D, _, rfl, run_takeDeferred (hd D (by simp)), ?_⟩⟩
    refine leaves_marks Ds _ hn (fun D' hD' => ?_) (fun W' ho hz => ?_)
    · exact (World.putObj_heap_other (k := D') (r := D) (fun e => hD (e ▸ hD'))).trans (hd D' (by simp [hD']))
    · refine h W' ((OnlyIn.putObj (X := fun k => k ∈ D :: Ds) W D _ (by simp)).trans (ho.mono fun k hk => by simp [hk])) (by simpa using hz)

/-- A round's contract goes into whatever round. -/
theorem roundIn_any {n m l' : Nat} {P : Program} {l : Nat} {f : FuncId} {tmps : Array Value} {assign body : Code} {w : World} {R : Ending → World → Prop} (h : RoundIn Fence.wide n P l f tmps assign body w R) : RoundIn (Fence.wide.inRound l') m P l f tmps assign body w R :=
  ⟨h.1, fun c cs _ => h.2 c cs (room_wide _)⟩

/-- What a caller keeps: all that lay at its start, and some blocks of its own. -/
structure Held (w0 : World) (bs : List (Nat × Obj)) (W : World) : Prop where
  below : Below w0.heap.size w0 W
  at_ : ∀ p ∈ bs, W.heap[p.1]? = some p.2
theorem Held.only {w0 W W' : World} {bs : List (Nat × Obj)} {X : Nat → Prop} (h : Held w0 bs W) (ho : OnlyIn X W W') {hs : Nat} (hX : ∀ k, X k → hs ≤ k) (h0 : w0.heap.size ≤ hs) (hb : ∀ p ∈ bs, p.1 < hs) : Held w0 bs W' := by
  refine ⟨ho.below h.below h.below.size (fun k hk => Nat.le_trans h0 (hX k hk)), fun p hp => ?_⟩
  have hlt : p.1 < W.heap.size := (Array.getElem?_eq_some_iff.1 (h.at_ p hp)).1
  exact (ho.block p.1 hlt (fun hx => by have := hX _ hx; have := hb p hp; omega)).trans (h.at_ p hp)
theorem Held.below' {w0 W W' : World} {bs : List (Nat × Obj)} (h : Held w0 bs W) (hb : Below W.heap.size W W') : Held w0 bs W' :=
  h.only (OnlyIn.of_below (X := fun _ => False) hb) (hs := max w0.heap.size (bs.foldr (fun p m => max (p.1 + 1) m) 0)) (fun _ h => h.elim) (by omega) (fun p hp => by
    have : ∀ (bs : List (Nat × Obj)), p ∈ bs → p.1 < bs.foldr (fun p m => max (p.1 + 1) m) 0 := fun bs => by
      induction bs with
      | nil => intro h; cases h
      | cons q bs ih =>
        intro h
        rcases List.mem_cons.1 h with rfl | h
        · simp only [List.foldr_cons]; omega
        · have := ih h; simp only [List.foldr_cons]; omega
    have := this bs hp
    omega)
theorem Turn.refl (hs : Nat) (Pr : Nat → Prop) (Ow : World → Nat → Prop) (W : World) : Turn hs Pr Ow W W := ⟨Nat.le_refl _, fun _ _ => rfl, fun _ _ _ _ => rfl, fun _ _ h => h⟩
/-- A round that turns boxes of the caller's ahead of the statement, and lays blocks. -/
theorem Turn.of {hs : Nat} {Pr : Nat → Prop} {X : Nat → Prop} {W W' : World} (h : OnlyIn X W W') (hX : ∀ k, X k → k < hs ∧ ¬ Pr k) (hPr : ∀ k, Pr k → k < W.heap.size) : Turn hs Pr (fun _ _ => False) W W' :=
  ⟨h.size, fun k hk => h.block k (hPr k hk) (fun hx => (hX k hx).2 hk), fun k hk hk' _ => h.block k hk' (fun hx => by have := (hX k hx).1; omega), fun _ _ h => h.elim⟩

end Go.Proofs.YtlekbddlemfokaaDoor

/- More on the statement that ranges over a function: what a caller keeps; how it leaves. For any program. -/
namespace Go.Proofs.YtlekbddlemfokaaDoor
set_option linter.unusedSimpArgs false
set_option linter.unusedVariables false
open Go Go.RowKit

theorem Held.get {w0 W : World} {bs : List (Nat × Obj)} (h : Held w0 bs W) (i : Nat) {k : Nat} {o : Obj} (hi : bs[i]? = some (k, o)) : W.heap[k]? = some o := h.at_ (k, o) (List.mem_of_getElem? hi)
/-- The frame bears one mark: it is taken back. -/
theorem leave_ret {n : Nat} {P : Program} {fn : Func} {tmps : Array Value} {R : Ending → World → Prop} {D : Nat} {W : World} (hD : W.heap[D]? = some (.deferred (some [])))
    (h : ∃ v, (results fn tmps).run P (W.putObj D (.deferred none)) = .ok v (W.putObj D (.deferred none)) ∧ R (.returned v) (W.putObj D (.deferred none))) :
    bodyPostM Fence.wide n P fn R .ret ⟨tmps, [{ target := .collected D, args := #[] }]⟩ W := by
  refine ⟨by simp, .inl ⟨_, _, rfl, run_takeDeferred hD, ?_⟩⟩
  exact h
theorem leave_end {n : Nat} {P : Program} {fn : Func} {tmps : Array Value} {R : Ending → World → Prop} {D : Nat} {W : World} (hD : W.heap[D]? = some (.deferred (some [])))
    (h : ∃ v, (results fn tmps).run P (W.putObj D (.deferred none)) = .ok v (W.putObj D (.deferred none)) ∧ R (.returned v) (W.putObj D (.deferred none))) :
    bodyPostM Fence.wide n P fn R .normal ⟨tmps, [{ target := .collected D, args := #[] }]⟩ W := leave_ret hD h
theorem Held.put {w0 W : World} {bs : List (Nat × Obj)} (h : Held w0 bs W) {D : Nat} (o : Obj) (h0 : w0.heap.size ≤ D) (hb : ∀ p ∈ bs, p.1 < D) : Held w0 bs (W.putObj D o) :=
  h.only (OnlyIn.putObj (X := fun k => k = D) W D o rfl) (hs := D) (fun _ h => by omega) h0 hb
/-- All four cells, or both, or all three. -/
theorem blk_set4 {W : World} {k : Nat} {a b c d : Value} {t : TypeId} {f : Nat × Nat} (h : W.heap[k]? = some (.cells #[a, b, c, d] t f)) (a' b' c' d' : Value) :
    ((((W.setCell ⟨k, 0, none⟩ a').setCell ⟨k, 1, none⟩ b').setCell ⟨k, 2, none⟩ c').setCell ⟨k, 3, none⟩ d').heap[k]? = some (.cells #[a', b', c', d'] t f) := by
  have := blk_set (blk_set (blk_set (blk_set h 0 a') 1 b') 2 c') 3 d'
  simpa using this
theorem blk_set3 {W : World} {k : Nat} {a b c : Value} {t : TypeId} {f : Nat × Nat} (h : W.heap[k]? = some (.cells #[a, b, c] t f)) (a' b' c' : Value) :
    (((W.setCell ⟨k, 0, none⟩ a').setCell ⟨k, 1, none⟩ b').setCell ⟨k, 2, none⟩ c').heap[k]? = some (.cells #[a', b', c'] t f) := by
  have := blk_set (blk_set (blk_set h 0 a') 1 b') 2 c'
  simpa using this
theorem blk_set2 {W : World} {k : Nat} {a b : Value} {t : TypeId} {f : Nat × Nat} (h : W.heap[k]? = some (.cells #[a, b] t f)) (a' b' : Value) :
    ((W.setCell ⟨k, 0, none⟩ a').setCell ⟨k, 1, none⟩ b').heap[k]? = some (.cells #[a', b'] t f) := by
  have := blk_set (blk_set h 0 a') 1 b'
  simpa using this
theorem blk_set1 {W : World} {k : Nat} {a : Value} {t : TypeId} {f : Nat × Nat} (h : W.heap[k]? = some (.cells #[a] t f)) (a' : Value) :
    (W.setCell ⟨k, 0, none⟩ a').heap[k]? = some (.cells #[a'] t f) := by
  have := blk_set h 0 a'
  simpa using this

/-- The frame with some slots written. -/
def putAll (tmps : Array Value) (us : List (Nat × Value)) : Array Value := us.foldl (fun t p => t.setIfInBounds p.1 p.2) tmps

/-- THE STATEMENT, the round's frame by the slots that its assignment writes. -/
theorem rf_law2 {P : Program} {n : Nat} {α : Type} {g : Operand} {ps : Array Tmp} {assign body : Code} {Q : Exit → Act → World → Prop} {a : Act} {w : World}
    {gf : Nat} {lb : Array Value} (hg : a.eval g = .func (.func gf) #[] lb) (eg : ∀ args w, (callFunc gf args).run P w = .ok (.enter gf args) w)
    {encs : α → Array Value} {xs : List α} {Pr : Nat → Prop} (hit : ItC P gf lb encs xs Pr w) (hps : ∀ x, (encs x).size = ps.size) (hPr : ∀ k, Pr k → k < w.heap.size)
    (I : List α → World → Prop) (Ix : Code → List α → World → Prop) (Ow : World → Nat → Prop) (o : α → Obj) (upd : α → Nat → List (Nat × Value))
    (hOwc : ∀ pre W k, I pre W → Ow W k → ∃ c t f, W.heap[k]? = some (.cells c t f))
    (hI : ∀ pre (X : Nat → Prop) W W', I pre W → OnlyIn X W W' → (∀ k, X k → w.heap.size ≤ k ∧ ¬ Ow W k) → I pre W' ∧ ∀ k, Ow W' k → Ow W k)
    (hIx : ∀ c pre (X : Nat → Prop) W W', Ix c pre W → OnlyIn X W W' → (∀ k, X k → w.heap.size ≤ k) → Ix c pre W')
    (h0 : I [] w)
    (hassign : ∀ (l : Nat) (x : α) (W : World) (K : Act → World → Prop), K { tmps := putAll a.tmps (upd x W.heap.size), defers := [] } (W.alloc (o x)) →
      assign.wpIn (Fence.wide.inRound l) 9 P (Exit.then K (fun _ _ _ => False)) { tmps := (ps.zip (encs x)).foldl (fun t (p, v) => t.setIfInBounds p v) a.tmps, defers := [] } W)
    (hbody : ∀ (l : Nat) (pre : List α) (x : α) (rest : List α) (bx : Nat) (W : World), xs = pre ++ x :: rest → I pre W → W.heap[bx]? = some (o x) → w.heap.size ≤ bx → ¬ Ow W bx →
      body.wpIn (Fence.wide.inRound l) 9 P (rfPost w.heap.size Pr Ow I Ix (pre ++ [x]) W) { tmps := putAll a.tmps (upd x bx), defers := [] } W)
    (hdone : ∀ (D : Nat) (W : World), w.heap.size ≤ D → I xs W → W.heap[D]? = some (.deferred (some [])) → Q .normal { a with defers := { target := .collected D, args := #[] } :: a.defers } W)
    (hstop : ∀ (D : Nat) (c : Code) (pre : List α) (W : World), w.heap.size ≤ D → Ix c pre W → W.heap[D]? = some (.deferred (some [])) → c.wpIn Fence.wide n P Q { a with defers := { target := .collected D, args := #[] } :: a.defers } W) :
    (Code.rangeFunc g ps assign body).wpIn Fence.wide n P Q a w :=
  rf_law hg eg hit hps hPr I Ix Ow o (fun x bx => { tmps := putAll a.tmps (upd x bx), defers := [] }) hOwc hI hIx h0 hassign hbody hdone hstop

end Go.Proofs.YtlekbddlemfokaaDoor

/- What the changes of a gathering do at a number; the leaves of a gathering and of a book, as plain Lean. -/
namespace Go.Proofs.YtlekbddlemfokaaDoor
set_option linter.unusedSimpArgs false
set_option linter.unusedVariables false

structure Fate where
  gone : Bool
  swapped : Bool
  added : Int
def fateStep (n : Int) (f : Fate) (c : Chg) : Fate :=
  if c.pos ≠ n then f else if c.kind = 1 then { f with gone := true } else if c.kind = 2 then { f with swapped := true } else if c.kind = 3 then { f with added := c.many } else f
def fateF (cs : List Chg) (n : Int) : Fate := cs.foldl (fateStep n) ⟨false, false, 0⟩

/-- A leaf: its gathering, Number, Plus and Kind. -/
structure Lf where
  gat : Nat
  num : Int
  plus : Int
  kind : Int
deriving DecidableEq

/-- The leaves of a gathering at one number, by what the changes do there. -/
def lvsNum (i : Nat) (k : Nat) (f : Fate) : List Lf :=
  (if 0 < k ∧ f.gone = false then [⟨i, k, 0, if f.swapped then 1 else 0⟩] else []) ++ (List.range f.added.toNat).map fun j => ⟨i, k, (j : Int) + 1, 2⟩
/-- The leaves of a gathering. -/
def lvsG (i : Nat) (g : Gth) : List Lf := (List.range (g.leaves + 1).toNat).flatMap fun k => lvsNum i k (fateF g.chs k)
/-- The leaves of a book. -/
def lvsFrom (i : Nat) : List Gth → List Lf
  | [] => []
  | g :: gs => lvsG i g ++ lvsFrom (i + 1) gs
def lvs (b : Bk) : List Lf := lvsFrom 0 b.gs

end Go.Proofs.YtlekbddlemfokaaDoor

/- What a book without an error is like: bounds of all its numbers. -/
namespace Go.Proofs.YtlekbddlemfokaaDoor
set_option linter.unusedSimpArgs false
set_option linter.unusedVariables false

theorem inB_iff {lo hi x : Int} : inB lo hi x = true ↔ lo ≤ x ∧ x ≤ hi := by simp [inB]
theorem gsErr_zero : ∀ {gs : List Gth} {seen : List (Int × Int)} {last : Int × Int} {i : Nat}, (gsErr seen last i gs).2 = 0 → ∀ g ∈ gs, ∃ seen last, gthErr seen last g = 0
  | [], _, _, _, _, g, hg => by cases hg
  | x :: xs, seen, last, i, h, g, hg => by
    unfold gsErr at h
    by_cases h0 : gthErr seen last x = 0
    · rw [if_pos h0] at h
      rcases List.mem_cons.1 hg with rfl | hg
      · exact ⟨seen, last, h0⟩
      · exact gsErr_zero h g hg
    · rw [if_neg h0] at h; exact absurd h h0
theorem chsErr_zero : ∀ {cs : List Chg} {l : Int} {p : Option Chg} {i : Nat}, (chsErr l p i cs).2 = 0 → ∀ c ∈ cs, kindB c = true ∧ rangeB c l = true
  | [], _, _, _, _, c, hc => by cases hc
  | x :: xs, l, p, i, h, c, hc => by
    unfold chsErr at h
    by_cases h0 : chErr l p x = 0
    · rw [if_pos h0] at h
      rcases List.mem_cons.1 hc with rfl | hc
      · unfold chErr at h0
        by_cases hk : kindB c = false
        · rw [if_pos hk] at h0; omega
        · rw [if_neg hk] at h0
          by_cases hr : rangeB c l = false
          · rw [if_pos hr] at h0; omega
          · exact ⟨by simpa using hk, by simpa using hr⟩
      · exact chsErr_zero h c hc
    · rw [if_neg h0] at h; exact absurd h h0

/-- A gathering without an error. -/
structure GOk (g : Gth) : Prop where
  sig : sigB g.round g.letter = true
  folded : foldedB g.leaves = true
  few : g.chs.length ≤ 4
  chs : (chsErr g.leaves none 0 g.chs).2 = 0
theorem gthErr_zero {seen : List (Int × Int)} {last : Int × Int} {g : Gth} (h : gthErr seen last g = 0) : GOk g := by
  unfold gthErr at h
  by_cases h1 : sigB g.round g.letter = false
  · rw [if_pos h1] at h; omega
  rw [if_neg h1] at h
  by_cases h2 : (g.round, g.letter) ∈ seen
  · rw [if_pos h2] at h; omega
  rw [if_neg h2] at h
  by_cases h3 : g.letter < 23 ∧ behindB g.round g.letter last.1 last.2 = false
  · rw [if_pos h3] at h; omega
  rw [if_neg h3] at h
  by_cases h4 : foldedB g.leaves = false
  · rw [if_pos h4] at h; omega
  rw [if_neg h4] at h
  by_cases h5 : 4 < g.chs.length
  · rw [if_pos h5] at h; omega
  rw [if_neg h5] at h
  exact ⟨by simpa using h1, by simpa using h4, by omega, h⟩
theorem GOk.leaves {g : Gth} (h : GOk g) : 1 ≤ g.leaves ∧ g.leaves ≤ 12 := by
  have := h.folded
  simp only [foldedB, Bool.or_eq_true, Bool.and_eq_true, decide_eq_true_eq, inB_iff] at this
  omega
theorem GOk.round {g : Gth} (h : GOk g) : 1 ≤ g.round ∧ g.round ≤ 3 := by
  have := h.sig
  simp only [sigB, Bool.and_eq_true, inB_iff] at this
  omega
theorem GOk.letter {g : Gth} (h : GOk g) : 0 ≤ g.letter ∧ g.letter ≤ 24 := by
  have := h.sig
  simp only [sigB, Bool.and_eq_true, inB_iff] at this
  omega
theorem GOk.ch {g : Gth} (h : GOk g) {c : Chg} (hc : c ∈ g.chs) : (c.kind = 1 ∨ c.kind = 2 ∨ c.kind = 3) ∧ 0 ≤ c.pos ∧ c.pos ≤ g.leaves ∧ 0 ≤ c.many ∧ c.many ≤ 4 := by
  obtain ⟨hk, hr⟩ := chsErr_zero h.chs c hc
  simp only [kindB, Bool.or_eq_true, decide_eq_true_eq] at hk
  unfold rangeB at hr
  split at hr <;> simp only [Bool.and_eq_true, inB_iff, decide_eq_true_eq] at hr <;> refine ⟨by omega, by omega, by omega, by omega, by omega⟩

def errF (b : Bk) : Int := (checkF b).2.2
structure BOk (b : Bk) : Prop where
  signed : 0 ≤ b.signed ∧ b.signed ≤ 12
  len : 1 ≤ b.gs.length ∧ b.gs.length ≤ 30
  gs : ∀ g ∈ b.gs, GOk g
theorem errF_zero {b : Bk} (h : errF b = 0) : BOk b := by
  unfold errF checkF at h
  by_cases h1 : inB 0 12 b.signed = false
  · rw [if_pos h1] at h; simp at h
  rw [if_neg h1] at h
  by_cases h2 : inB 1 30 b.gs.length = false
  · rw [if_pos h2] at h; simp at h
  rw [if_neg h2] at h
  have h1' := inB_iff.1 (show inB 0 12 b.signed = true by simpa using h1)
  have h2' := inB_iff.1 (show inB 1 30 b.gs.length = true by simpa using h2)
  by_cases h3 : (gsErr [] (0, 0) 0 b.gs).2 = 0
  · exact ⟨h1', by omega, fun g hg => by obtain ⟨s, l, hz⟩ := gsErr_zero h3 g hg; exact gthErr_zero hz⟩
  · rw [if_neg h3] at h; exact absurd h h3

theorem lvsFrom_app : ∀ (xs ys : List Gth) (i : Nat), lvsFrom i (xs ++ ys) = lvsFrom i xs ++ lvsFrom (i + xs.length) ys
  | [], ys, i => by simp [lvsFrom]
  | x :: xs, ys, i => by
    simp only [List.cons_append, lvsFrom, lvsFrom_app xs ys (i + 1), List.append_assoc, List.length_cons]
    rw [show i + 1 + xs.length = i + (xs.length + 1) by omega]
theorem take_split {α : Type} {xs : List α} {k : Nat} {x : α} (h : xs[k]? = some x) : xs = xs.take k ++ x :: xs.drop (k + 1) ∧ xs.take (k + 1) = xs.take k ++ [x] := by
  obtain ⟨hk, rfl⟩ := List.getElem?_eq_some_iff.1 h
  exact ⟨by simp, by simp⟩
theorem lvsFrom_take {gs : List Gth} {k : Nat} {g : Gth} (h : gs[k]? = some g) : lvsFrom 0 (gs.take (k + 1)) = lvsFrom 0 (gs.take k) ++ lvsG k g := by
  have hk := (List.getElem?_eq_some_iff.1 h).1
  rw [(take_split h).2, lvsFrom_app]
  simp [lvsFrom, Nat.min_eq_left (Nat.le_of_lt hk)]
theorem lvs_split {gs : List Gth} {k : Nat} {g : Gth} (h : gs[k]? = some g) : ∃ rest, lvsFrom 0 gs = lvsFrom 0 (gs.take k) ++ (lvsG k g ++ rest) := by
  have hk := (List.getElem?_eq_some_iff.1 h).1
  refine ⟨lvsFrom (k + 1) (gs.drop (k + 1)), ?_⟩
  conv => lhs; rw [(take_split h).1]
  rw [lvsFrom_app]
  simp [lvsFrom, Nat.min_eq_left (Nat.le_of_lt hk)]
theorem lvsNum_mem {i k : Nat} {f : Fate} {x : Lf} (h : x ∈ lvsNum i k f) : x.gat = i ∧ x.num = k ∧ 0 ≤ x.plus ∧ (x.plus = 0 ∨ x.plus ≤ f.added) ∧ 0 ≤ x.kind ∧ x.kind ≤ 2 := by
  simp only [lvsNum, List.mem_append, List.mem_map, List.mem_range] at h
  rcases h with h | ⟨j, hj, rfl⟩
  · split at h
    · simp only [List.mem_singleton] at h
      subst h
      refine ⟨rfl, rfl, by simp, by simp, ?_, ?_⟩ <;> dsimp only <;> split <;> omega
    · cases h
  · exact ⟨rfl, rfl, by dsimp only; omega, by dsimp only; omega, by dsimp only; omega, by dsimp only; omega⟩
theorem lvsG_mem {i : Nat} {g : Gth} {x : Lf} (h : x ∈ lvsG i g) : x.gat = i ∧ 0 ≤ x.num ∧ x.num ≤ g.leaves ∧ 0 ≤ x.plus ∧ (x.plus = 0 ∨ ∃ n, x.plus ≤ (fateF g.chs n).added) := by
  simp only [lvsG, List.mem_flatMap, List.mem_range] at h
  obtain ⟨k, hk, h⟩ := h
  obtain ⟨h1, h2, h3, h4, -⟩ := lvsNum_mem h
  exact ⟨h1, by omega, by omega, h3, h4.imp id fun h => ⟨_, h⟩⟩
theorem lvsFrom_mem : ∀ {gs : List Gth} {i : Nat} {x : Lf}, x ∈ lvsFrom i gs → ∃ g, i ≤ x.gat ∧ gs[x.gat - i]? = some g ∧ x ∈ lvsG x.gat g
  | [], _, _, h => by cases h
  | g :: gs, i, x, h => by
    simp only [lvsFrom, List.mem_append] at h
    rcases h with h | h
    · have hx := (lvsG_mem h).1
      exact ⟨g, by omega, by rw [hx]; simp, by rw [hx]; exact h⟩
    · obtain ⟨g', h1, h2, h3⟩ := lvsFrom_mem h
      refine ⟨g', by omega, ?_, h3⟩
      rw [show x.gat - i = (x.gat - (i + 1)) + 1 by omega]
      simpa using h2
theorem lvs_mem {b : Bk} {x : Lf} (h : x ∈ lvs b) : ∃ g, b.gs[x.gat]? = some g ∧ x ∈ lvsG x.gat g := by
  obtain ⟨g, -, h2, h3⟩ := lvsFrom_mem h
  exact ⟨g, by simpa using h2, h3⟩
theorem lvsNum_len {i k : Nat} {f : Fate} : (lvsNum i k f).length ≤ 1 + f.added.toNat := by
  simp only [lvsNum, List.length_append, List.length_map, List.length_range]
  split <;> simp
theorem flatMap_len {α β : Type} {f : α → List β} {n : Nat} : ∀ {xs : List α}, (∀ x ∈ xs, (f x).length ≤ n) → (xs.flatMap f).length ≤ xs.length * n
  | [], _ => by simp
  | x :: xs, h => by
    have h1 := h x (by simp)
    have h2 := flatMap_len (xs := xs) fun y hy => h y (by simp [hy])
    simp only [List.flatMap_cons, List.length_append, List.length_cons, Nat.add_mul]
    omega
end Go.Proofs.YtlekbddlemfokaaDoor

/- How changes, items and books are written, as plain Lean. -/
namespace Go.Proofs.YtlekbddlemfokaaDoor
set_option linter.unusedSimpArgs false
set_option linter.unusedVariables false

/-- How a change is written. -/
def chT (c : Chg) : List UInt8 := if c.kind = 1 then 45 :: dec c.pos else if c.kind = 2 then 61 :: dec c.pos else dec c.pos ++ 43 :: dec c.many
/-- Words with a byte between each two. -/
def joinB (s : UInt8) : List (List UInt8) → List UInt8
  | [] => []
  | [x] => x
  | x :: y :: xs => x ++ s :: joinB s (y :: xs)
def chsT (cs : List Chg) : List UInt8 := if cs = [] then [] else 40 :: joinB 44 (cs.map chT) ++ [41]

/-- An item of a formula: one gathering, or all from the first signature to the last. -/
structure Itm where
  kind : Int
  fr : Int
  fl : Int
  lr : Int
  ll : Int
  leaves : Int
  chs : List Chg
def itmT (x : Itm) : List UInt8 := (if x.kind = 1 then sigT x.fr x.fl ++ 45 :: sigT x.lr x.ll else sigT x.fr x.fl) ++ dec x.leaves ++ chsT x.chs
def formulaT (signed : Int) (xs : List Itm) : List UInt8 := (xs.flatMap fun x => itmT x ++ [32]) ++ 36 :: dec signed
/-- The signature behind a lettered one (of a place among all of them). -/
def nextS (r l : Int) : Int × Int := if l < 22 then (r, l + 1) else (r + 1, 0)
def takesB (x : Itm) (g : Gth) : Bool := decide (x.chs.length = 0) && decide (g.chs.length = 0) && decide (x.leaves = g.leaves) && decide (x.ll < 23) && decide (nextS x.lr x.ll = (g.round, g.letter))
def itm1 (g : Gth) : Itm := ⟨0, g.round, g.letter, g.round, g.letter, g.leaves, g.chs⟩
/-- One more gathering behind items. -/
def itmStep (xs : List Itm) (g : Gth) : List Itm := match xs.getLast? with
  | some x => if takesB x g then xs.dropLast ++ [{ x with kind := 1, lr := g.round, ll := g.letter }] else xs ++ [itm1 g]
  | none => [itm1 g]
def itmsOf (gs : List Gth) : List Itm := gs.foldl itmStep []
def writeF (b : Bk) : List UInt8 := formulaT b.signed (itmsOf b.gs)

theorem chT_len (c : Chg) : (chT c).length ≤ 5 := by
  have h1 := show (dec c.pos).length ≤ 2 by unfold dec decN; split <;> simp
  have h2 := show (dec c.many).length ≤ 2 by unfold dec decN; split <;> simp
  unfold chT
  split
  · simp; omega
  · split <;> simp <;> omega
theorem joinB_len {s : UInt8} {n : Nat} : ∀ {xs : List (List UInt8)}, (∀ x ∈ xs, x.length ≤ n) → (joinB s xs).length ≤ xs.length * (n + 1)
  | [], _ => by simp [joinB]
  | [x], h => by have := h x (by simp); simp [joinB]; omega
  | x :: y :: xs, h => by
    have h1 := h x (by simp)
    have h2 := joinB_len (s := s) (n := n) (xs := y :: xs) fun z hz => h z (List.mem_cons_of_mem _ hz)
    simp only [joinB, List.length_append, List.length_cons, Nat.add_mul] at *
    omega
theorem chsT_len {cs : List Chg} (h : cs.length ≤ 4) : (chsT cs).length ≤ 26 := by
  unfold chsT
  split
  · simp
  · have := joinB_len (s := 44) (n := 5) (xs := cs.map chT) fun x hx => by
      obtain ⟨c, -, rfl⟩ := List.mem_map.1 hx
      exact chT_len c
    simp only [List.length_map] at this
    simp
    omega

end Go.Proofs.YtlekbddlemfokaaDoor

/- The readers of formulas and leaves, as plain Lean. -/
namespace Go.Proofs.YtlekbddlemfokaaDoor
set_option linter.unusedSimpArgs false
set_option linter.unusedVariables false

abbrev Bs := List UInt8

/-- A word is read if it comes next. -/
def skipF (w s : Bs) : Option Bs := if w.isPrefixOf s then some (s.drop w.length) else none
def digitF : Bs → Option (Int × Bs)
  | c :: t => if 48 ≤ c.toNat ∧ c.toNat ≤ 57 then some ((c.toNat : Int) - 48, t) else none
  | [] => none
/-- The digits behind one that is not a zero: none of the numbers may be above 12. -/
def numF : Nat → Int → Bs → Option (Int × Bs)
  | 0, n, s => some (n, s)
  | f + 1, n, s => if n ≤ 0 then some (n, s) else match digitF s with
    | none => some (n, s)
    | some (d, t) => if 12 < 10 * n + d then none else numF f (10 * n + d) t
def numberF (s : Bs) : Option (Int × Bs) := match digitF s with
  | none => none
  | some (n, t) => numF 3 n t
def roundF (s : Bs) : Int × Bs := match skipF [50] s with
  | some t => (2, t)
  | none => match skipF [51] s with
    | some t => (3, t)
    | none => (1, s)
def letterAtF : List UInt8 → Int → Bs → Option (Int × Bs)
  | [], _, _ => none
  | c :: cs, i, s => match skipF [c] s with
    | some t => some (i, t)
    | none => letterAtF cs (i + 1) s
def letterF (s : Bs) : Option (Int × Bs) := match letterAtF letterL 0 s with
  | some r => some r
  | none => match skipF [112, 105] s with
    | some t => some (23, t)
    | none => match skipF [99, 104, 105] s with
      | some t => some (24, t)
      | none => none
def sigF (s : Bs) : Option ((Int × Int) × Bs) := match letterF (roundF s).2 with
  | some (l, t) => some (((roundF s).1, l), t)
  | none => none
def changeF (s : Bs) : Option (Chg × Bs) := match skipF [45] s with
  | some t => match numberF t with
    | some (n, u) => some (⟨1, n, 0⟩, u)
    | none => none
  | none => match skipF [61] s with
    | some t => match numberF t with
      | some (n, u) => some (⟨2, n, 0⟩, u)
      | none => none
    | none => match numberF s with
      | none => none
      | some (n, t) => match skipF [43] t with
        | none => none
        | some u => match numberF u with
          | none => none
          | some (m, v) => some (⟨3, n, m⟩, v)
/-- The changes behind the first one; f: how many there may be yet. -/
def moreF : Nat → List Chg → Bs → Option (List Chg × Bs)
  | 0, cs, s => match skipF [44] s with
    | some _ => none
    | none => match skipF [41] s with
      | some u => some (cs, u)
      | none => none
  | f + 1, cs, s => match skipF [44] s with
    | some t => match changeF t with
      | some (c, u) => moreF f (cs ++ [c]) u
      | none => none
    | none => match skipF [41] s with
      | some u => some (cs, u)
      | none => none
def changesF (s : Bs) : Option (List Chg × Bs) := match skipF [40] s with
  | none => some ([], s)
  | some t => match changeF t with
    | none => none
    | some (c, u) => moreF 3 [c] u
def itemF (s : Bs) : Option (Itm × Bs) := match sigF s with
  | none => none
  | some (a, t) => match skipF [45] t with
    | none => match numberF t with
      | none => none
      | some (n, u) => match changesF u with
        | none => none
        | some (cs, v) => some (⟨0, a.1, a.2, a.1, a.2, n, cs⟩, v)
    | some t => match sigF t with
      | none => none
      | some (z, u) => if a.2 < 23 ∧ z.2 < 23 ∧ behindB z.1 z.2 a.1 a.2 = true then match numberF u with
          | none => none
          | some (n, v) => some (⟨1, a.1, a.2, z.1, z.2, n, []⟩, v)
        else none
def itemsF : Nat → Bs → Option (List Itm × Bs)
  | 0, _ => none
  | f + 1, s => match skipF [36] s with
    | some t => some ([], t)
    | none => match itemF s with
      | none => none
      | some (x, t) => match skipF [32] t with
        | none => none
        | some u => match itemsF f u with
          | none => none
          | some (xs, v) => some (x :: xs, v)
/-- The signatures from one to another one. -/
def runS : Nat → Int × Int → Int × Int → List (Int × Int)
  | 0, s, _ => [s]
  | n + 1, s, l => if s = l then [s] else s :: runS n (nextS s.1 s.2) l
def rankS (r l : Int) : Int := (r - 1) * 23 + l
def itmGs (x : Itm) : List Gth := if x.kind = 0 then [⟨x.fr, x.fl, x.leaves, x.chs⟩] else (runS (rankS x.lr x.ll - rankS x.fr x.fl).toNat (x.fr, x.fl) (x.lr, x.ll)).map fun s => ⟨s.1, s.2, x.leaves, []⟩
def gsOf (xs : List Itm) : List Gth := xs.flatMap itmGs
def bookF (s : Bs) : Option (Bk × Bs) := match itemsF (s.length + 1) s with
  | none => none
  | some (xs, t) => match numberF t with
    | none => none
    | some (n, u) => some (⟨n, gsOf xs⟩, u)
/-- All of a text. -/
def allF {α : Type} (r : Option (α × Bs)) : Option α := match r with
  | some (x, []) => some x
  | _ => none
def readF (s : Bs) : Bk × Int := if 1000 < s.length then (⟨0, []⟩, 3) else match allF (bookF s) with
  | none => (⟨0, []⟩, 6)
  | some b => if errF b = 0 then (b, 0) else (⟨0, []⟩, 6)

/-- The name of a leaf. -/
def plusF (s : Bs) : Option (Int × Bs) := match skipF [43] s with
  | none => some (0, s)
  | some t => match numberF t with
    | none => none
    | some (p, u) => if p = 0 then none else some (p, u)
def leafNameF (s : Bs) : Option ((Int × Int × Int × Int) × Bs) := match sigF s with
  | none => none
  | some (a, t) => match numberF t with
    | none => none
    | some (n, u) => match plusF u with
      | none => none
      | some (p, v) => if possibleB n p = true then some ((a.1, a.2, n, p), v) else none

theorem skipF_len {w s t : Bs} (h : skipF w s = some t) : t.length + w.length = s.length := by
  unfold skipF at h
  split at h
  · rename_i hp
    have := (List.isPrefixOf_iff_prefix.1 hp).length_le
    cases h
    simp only [List.length_drop]
    omega
  · cases h
theorem digitF_len {s t : Bs} {n : Int} (h : digitF s = some (n, t)) : t.length + 1 = s.length ∧ 0 ≤ n ∧ n ≤ 9 := by
  cases s with
  | nil => cases h
  | cons c s =>
    simp only [digitF] at h
    split at h
    · simp only [Option.some.injEq, Prod.mk.injEq] at h
      obtain ⟨rfl, rfl⟩ := h
      refine ⟨rfl, by omega, by omega⟩
    · cases h
theorem numF_len : ∀ {f : Nat} {n m : Int} {s t : Bs}, numF f n s = some (m, t) → 0 ≤ n ∧ n ≤ 12 → t.length ≤ s.length ∧ 0 ≤ m ∧ m ≤ 12
  | 0, n, m, s, t, h, hn => by
    simp only [numF, Option.some.injEq, Prod.mk.injEq] at h
    obtain ⟨rfl, rfl⟩ := h
    exact ⟨Nat.le_refl _, hn⟩
  | f + 1, n, m, s, t, h, hn => by
    simp only [numF] at h
    split at h
    · simp only [Option.some.injEq, Prod.mk.injEq] at h
      obtain ⟨rfl, rfl⟩ := h
      exact ⟨Nat.le_refl _, hn⟩
    · split at h
      · simp only [Option.some.injEq, Prod.mk.injEq] at h
        obtain ⟨rfl, rfl⟩ := h
        exact ⟨Nat.le_refl _, hn⟩
      · rename_i d u hd
        split at h
        · cases h
        · have := digitF_len hd
          have := numF_len h (by omega)
          omega
theorem numberF_len {s t : Bs} {n : Int} (h : numberF s = some (n, t)) : t.length < s.length ∧ 0 ≤ n ∧ n ≤ 12 := by
  unfold numberF at h
  split at h
  · cases h
  · rename_i d u hd
    have := digitF_len hd
    have := numF_len h (by omega)
    omega
theorem roundF_len {s : Bs} : (roundF s).2.length ≤ s.length ∧ 1 ≤ (roundF s).1 ∧ (roundF s).1 ≤ 3 := by
  unfold roundF
  split
  · rename_i t h
    have := skipF_len h
    simp only [List.length_cons, List.length_nil] at this
    exact ⟨by simp; omega, by simp, by simp⟩
  · split
    · rename_i t h
      have := skipF_len h
      simp only [List.length_cons, List.length_nil] at this
      exact ⟨by simp; omega, by simp, by simp⟩
    · exact ⟨by simp, by simp, by simp⟩
theorem letterAtF_len : ∀ {cs : List UInt8} {i n : Int} {s t : Bs}, letterAtF cs i s = some (n, t) → t.length < s.length ∧ i ≤ n ∧ n < i + cs.length
  | [], _, _, _, _, h => by cases h
  | c :: cs, i, n, s, t, h => by
    simp only [letterAtF] at h
    split at h
    · rename_i u hu
      have := skipF_len hu
      simp only [Option.some.injEq, Prod.mk.injEq] at h
      obtain ⟨rfl, rfl⟩ := h
      simp only [List.length_cons, List.length_nil] at this ⊢
      omega
    · have := letterAtF_len h
      simp only [List.length_cons] at this ⊢
      omega
theorem letterF_len {s t : Bs} {n : Int} (h : letterF s = some (n, t)) : t.length < s.length ∧ 0 ≤ n ∧ n ≤ 24 := by
  unfold letterF at h
  split at h
  · rename_i r hr
    cases h
    have := letterAtF_len hr
    have e : letterL.length = 23 := rfl
    omega
  · split at h
    · rename_i u hu
      have := skipF_len hu
      simp only [Option.some.injEq, Prod.mk.injEq] at h
      obtain ⟨rfl, rfl⟩ := h
      simp only [List.length_cons, List.length_nil] at this
      omega
    · split at h
      · rename_i u hu
        have := skipF_len hu
        simp only [Option.some.injEq, Prod.mk.injEq] at h
        obtain ⟨rfl, rfl⟩ := h
        simp only [List.length_cons, List.length_nil] at this
        omega
      · cases h
theorem sigF_len {s t : Bs} {a : Int × Int} (h : sigF s = some (a, t)) : t.length < s.length ∧ sigB a.1 a.2 = true := by
  unfold sigF at h
  split at h
  · rename_i l u hu
    simp only [Option.some.injEq, Prod.mk.injEq] at h
    obtain ⟨rfl, rfl⟩ := h
    have h1 := letterF_len hu
    have h2 := roundF_len (s := s)
    refine ⟨by omega, ?_⟩
    simp only [sigB, inB, Bool.and_eq_true, decide_eq_true_eq]
    omega
  · cases h
/-- A change that is read: its numbers are at most 12. -/
def ChRead (c : Chg) : Prop := (c.kind = 1 ∨ c.kind = 2 ∨ c.kind = 3) ∧ 0 ≤ c.pos ∧ c.pos ≤ 12 ∧ 0 ≤ c.many ∧ c.many ≤ 12
theorem changeF_len {s t : Bs} {c : Chg} (h : changeF s = some (c, t)) : t.length < s.length ∧ ChRead c := by
  unfold changeF at h
  split at h
  · rename_i u hu
    have := skipF_len hu
    split at h
    · rename_i n v hn
      have := numberF_len hn
      simp only [Option.some.injEq, Prod.mk.injEq] at h
      obtain ⟨rfl, rfl⟩ := h
      simp only [List.length_cons, List.length_nil] at *
      exact ⟨by omega, Or.inl rfl, this.2.1, this.2.2, by simp, by simp⟩
    · cases h
  · split at h
    · rename_i u hu
      have := skipF_len hu
      split at h
      · rename_i n v hn
        have := numberF_len hn
        simp only [Option.some.injEq, Prod.mk.injEq] at h
        obtain ⟨rfl, rfl⟩ := h
        simp only [List.length_cons, List.length_nil] at *
        exact ⟨by omega, Or.inr (Or.inl rfl), this.2.1, this.2.2, by simp, by simp⟩
      · cases h
    · split at h
      · cases h
      · rename_i n v hn
        have h1 := numberF_len hn
        split at h
        · cases h
        · rename_i u hu
          have h2 := skipF_len hu
          split at h
          · cases h
          · rename_i m x hm
            have h3 := numberF_len hm
            simp only [Option.some.injEq, Prod.mk.injEq] at h
            obtain ⟨rfl, rfl⟩ := h
            simp only [List.length_cons, List.length_nil] at *
            exact ⟨by omega, Or.inr (Or.inr rfl), h1.2.1, h1.2.2, h3.2.1, h3.2.2⟩
theorem moreF_len : ∀ {f : Nat} {cs ds : List Chg} {s t : Bs}, moreF f cs s = some (ds, t) → (∀ c ∈ cs, ChRead c) → t.length < s.length ∧ (∀ c ∈ ds, ChRead c) ∧ ds.length ≤ cs.length + f ∧ cs.length ≤ ds.length
  | 0, cs, ds, s, t, h, hc => by
    simp only [moreF] at h
    split at h
    · cases h
    · split at h
      · rename_i u hu
        have := skipF_len hu
        simp only [Option.some.injEq, Prod.mk.injEq] at h
        obtain ⟨rfl, rfl⟩ := h
        simp only [List.length_cons, List.length_nil] at this
        exact ⟨by omega, hc, by omega, by omega⟩
      · cases h
  | f + 1, cs, ds, s, t, h, hc => by
    simp only [moreF] at h
    split at h
    · rename_i u hu
      have := skipF_len hu
      split at h
      · rename_i c v hv
        have h1 := changeF_len hv
        obtain ⟨h2, h3, h4, h5⟩ := moreF_len h (fun c' hc' => by
          rcases List.mem_append.1 hc' with h | h
          · exact hc _ h
          · simp only [List.mem_singleton] at h; subst h; exact h1.2)
        simp only [List.length_append, List.length_cons, List.length_nil] at *
        exact ⟨by omega, h3, by omega, by omega⟩
      · cases h
    · split at h
      · rename_i u hu
        have := skipF_len hu
        simp only [Option.some.injEq, Prod.mk.injEq] at h
        obtain ⟨rfl, rfl⟩ := h
        simp only [List.length_cons, List.length_nil] at this
        exact ⟨by omega, hc, by omega, by omega⟩
      · cases h
theorem changesF_len {s t : Bs} {cs : List Chg} (h : changesF s = some (cs, t)) : t.length ≤ s.length ∧ (∀ c ∈ cs, ChRead c) ∧ cs.length ≤ 4 := by
  unfold changesF at h
  split at h
  · simp only [Option.some.injEq, Prod.mk.injEq] at h
    obtain ⟨rfl, rfl⟩ := h
    exact ⟨Nat.le_refl _, (fun c hc => by cases hc), by simp⟩
  · rename_i u hu
    have := skipF_len hu
    split at h
    · cases h
    · rename_i c v hv
      have h1 := changeF_len hv
      obtain ⟨h2, h3, h4, -⟩ := moreF_len h (fun c' hc' => by simp only [List.mem_singleton] at hc'; subst hc'; exact h1.2)
      simp only [List.length_cons, List.length_nil] at *
      exact ⟨by omega, h3, by omega⟩
/-- An item that is read. -/
structure ItRead (x : Itm) : Prop where
  first : sigB x.fr x.fl = true
  last : sigB x.lr x.ll = true
  leaves : 0 ≤ x.leaves ∧ x.leaves ≤ 12
  few : x.chs.length ≤ 4
  chs : ∀ c ∈ x.chs, ChRead c
  kind : (x.kind = 0 ∧ x.fr = x.lr ∧ x.fl = x.ll) ∨ (x.kind = 1 ∧ x.fl < 23 ∧ x.ll < 23 ∧ behindB x.lr x.ll x.fr x.fl = true ∧ x.chs = [])
theorem itemF_len {s t : Bs} {x : Itm} (h : itemF s = some (x, t)) : t.length < s.length ∧ ItRead x := by
  unfold itemF at h
  split at h
  · cases h
  · rename_i a u hu
    have h1 := sigF_len hu
    split at h
    · split at h
      · cases h
      · rename_i n v hv
        have h2 := numberF_len hv
        split at h
        · cases h
        · rename_i cs y hy
          have h3 := changesF_len hy
          simp only [Option.some.injEq, Prod.mk.injEq] at h
          obtain ⟨rfl, rfl⟩ := h
          exact ⟨by omega, h1.2, h1.2, h2.2, h3.2.2, h3.2.1, Or.inl ⟨rfl, rfl, rfl⟩⟩
    · rename_i u2 hu2
      have := skipF_len hu2
      split at h
      · cases h
      · rename_i z v hv
        have h2 := sigF_len hv
        split at h
        · rename_i hc
          split at h
          · cases h
          · rename_i n y hy
            have h3 := numberF_len hy
            simp only [Option.some.injEq, Prod.mk.injEq] at h
            obtain ⟨rfl, rfl⟩ := h
            exact ⟨by omega, h1.2, h2.2, h3.2, by simp, (fun c hc => by cases hc), Or.inr ⟨rfl, hc.1, hc.2.1, hc.2.2, rfl⟩⟩
        · cases h
theorem itemsF_more : ∀ {f : Nat} {s : Bs} (g : Nat), s.length < f → itemsF (f + g) s = itemsF f s
  | 0, _, _, h => by omega
  | f + 1, s, g, h => by
    rw [show f + 1 + g = (f + g) + 1 by omega]
    simp only [itemsF]
    split
    · rfl
    · split
      · rfl
      · rename_i x t hx
        have h1 := itemF_len hx
        split
        · rfl
        · rename_i u hu
          have h2 := skipF_len hu
          rw [itemsF_more g (by omega)]
/-- What is left to read behind some items. -/
theorem itemsF_step {f : Nat} {s t u : Bs} {x : Itm} (h0 : skipF [36] s = none) (hx : itemF s = some (x, t)) (hu : skipF [32] t = some u) : itemsF (f + 1) s = (itemsF f u).map fun r => (x :: r.1, r.2) := by
  simp only [itemsF, h0, hx, hu]
  cases itemsF f u <;> rfl

end Go.Proofs.YtlekbddlemfokaaDoor

/- Contracts of the reader: a word, a digit, a number; and where it ends. -/
namespace Go.Proofs.YtlekbddlemfokaaDoor
set_option linter.unusedSimpArgs false
set_option linter.unusedVariables false
open Go Go.RowKit Go.Sort Go.BigFrame

/-- The reader lies in block R and has s yet to read. -/
def Rd (W : World) (R : Nat) (s : Bs) : Prop := W.heap[R]? = some (.cells #[S s] 89)
/-- Only the reader has turned; it has s yet to read. -/
structure Rw (R : Nat) (s : Bs) (w w' : World) : Prop where
  rd : Rd w' R s
  only : OnlyIn (fun k => k = R) w w'
theorem Rw.trans {R : Nat} {s t : Bs} {a b c : World} (h : Rw R s a b) (k : Rw R t b c) : Rw R t a c := ⟨k.rd, h.only.trans k.only⟩
theorem Rd.later {R : Nat} {s : Bs} {w w' : World} (h : Rd w R s) (hb : Below w.heap.size w w') : Rw R s w w' :=
  ⟨blk_later hb h, OnlyIn.of_below hb⟩
theorem Rw.block {R : Nat} {s : Bs} {w w' : World} (h : Rw R s w w') {k : Nat} {o : Obj} (hk : w.heap[k]? = some o) (hne : k ≠ R) : w'.heap[k]? = some o :=
  (h.only.block k (blk_lt hk) hne).trans hk
theorem Rw.size {R : Nat} {s : Bs} {w w' : World} (h : Rw R s w w') : w.heap.size ≤ w'.heap.size := h.only.size
theorem Rw.below {R : Nat} {s : Bs} {w w0 w' : World} (h : Rw R s w w') {B : Nat} (hb : Below B w0 w) (hB : B ≤ w.heap.size) (hR : B ≤ R) : Below B w0 w' :=
  h.only.below hb hB (fun _ e => by omega)

/-- How the reading ends where a text has not the form. -/
abbrev panicE : Ending := .panicked [{ v := .iface 26 (.int .i64 6), recovered := false }]
/-- What a reader hands back: what it read, or its end. -/
def ReadPost {α : Type} (R : Nat) (enc : α → Value) (r : Option (α × Bs)) (w : World) (e : Ending) (w' : World) : Prop := match r with
  | some (x, t) => e = .returned (enc x) ∧ Rw R t w w'
  | none => e = panicE ∧ ∃ t, Rw R t w w'

theorem hasPrefix_eq (s p : Bs) : Lib.hasPrefix s p = (skipF p s).isSome := by
  unfold Lib.hasPrefix skipF
  cases h : p.isPrefixOf s <;> simp_all

set_option maxHeartbeats 400000 in
theorem skip_yes (R : Nat) (s p t : Bs) (w : World) (hr : Rd w R s) (h : skipF p s = some t) :
    Calls Tryd.prog 41 #[.pointer (some ⟨R, 0, none⟩), S p] w fun e w' => e = .returned (.bool true) ∧ Rw R t w w' := by
  have e1 : Lib.hasPrefix s p = true := by rw [hasPrefix_eq, h]; rfl
  have e2 : Lib.trimPrefix s p = t := by
    unfold skipF at h; unfold Lib.trimPrefix; simp_all
  have c0 := blk_cell hr 0
  have f0 := blk_free hr 0
  have HR := Lib.hid hr
  have HE := Lib.hid e1
  have HF := Lib.hid e2
  clear hr h e1 e2
  go_enter Tryd.func41, Tryd.ntmps41
  go_wp2_with fail
  refine (Tryd.strings_CutPrefix _ _ _).mono ?_
  rintro e w1 ⟨rfl, rfl⟩
  simp only [HE.out, HF.out]
  go_wp2_with fail
  go_ret
  exact ⟨rfl, blk_set1 HR.out _, OnlyIn.setCell _ _ _ rfl⟩

set_option maxHeartbeats 400000 in
theorem skip_no (R : Nat) (s p : Bs) (w : World) (hr : Rd w R s) (h : skipF p s = none) :
    Calls Tryd.prog 41 #[.pointer (some ⟨R, 0, none⟩), S p] w fun e w' => e = .returned (.bool false) ∧ Rw R s w w' := by
  have e1 : Lib.hasPrefix s p = false := by rw [hasPrefix_eq, h]; rfl
  have e2 : Lib.trimPrefix s p = s := by
    unfold Lib.trimPrefix; simp [e1]
  have c0 := blk_cell hr 0
  have f0 := blk_free hr 0
  have HR := Lib.hid hr
  have HE := Lib.hid e1
  have HF := Lib.hid e2
  clear hr h e1 e2
  go_enter Tryd.func41, Tryd.ntmps41
  go_wp2_with fail
  refine (Tryd.strings_CutPrefix _ _ _).mono ?_
  rintro e w1 ⟨rfl, rfl⟩
  simp only [HE.out, HF.out]
  go_wp2_with fail
  go_ret
  exact ⟨rfl, blk_set1 HR.out _, OnlyIn.setCell _ _ _ rfl⟩

set_option maxHeartbeats 400000 in
theorem fail_any (v : Value) (w : World) : Calls Tryd.prog 40 #[v] w fun e w' => e = panicE ∧ w = w' := by
  go_enter Tryd.func40, Tryd.ntmps40
  go_wp2_with fail
  exact ⟨rfl, rfl, rfl⟩

set_option maxHeartbeats 400000 in
theorem must_no (R : Nat) (s p : Bs) (w : World) (hr : Rd w R s) (h : skipF p s = none) :
    Calls Tryd.prog 43 #[.pointer (some ⟨R, 0, none⟩), S p] w fun e w' => e = panicE ∧ Rw R s w w' := by
  go_enter Tryd.func43, Tryd.ntmps43
  go_wp2_with fail
  refine (skip_no R s p _ hr h).mono ?_
  rintro e w1 ⟨rfl, hw⟩
  go_wp2_with fail
  refine (fail_any _ _).mono ?_
  rintro e w2 ⟨rfl, rfl⟩
  go_wp2_with fail
  exact ⟨rfl, rfl, hw⟩
set_option maxHeartbeats 400000 in
theorem must_yes (R : Nat) (s p t : Bs) (w : World) (hr : Rd w R s) (h : skipF p s = some t) :
    Calls Tryd.prog 43 #[.pointer (some ⟨R, 0, none⟩), S p] w fun e w' => e = .returned (.tuple #[]) ∧ Rw R t w w' := by
  go_enter Tryd.func43, Tryd.ntmps43
  go_wp2_with fail
  refine (skip_yes R s p t _ hr h).mono ?_
  rintro e w1 ⟨rfl, hw⟩
  go_wp2_with fail
  go_end0
  exact ⟨rfl, hw⟩

theorem dec_one {k : Nat} (h : k < 10) : dec (k : Int) = [UInt8.ofNat (48 + k)] := by simp [dec, decN, h]
theorem skip_one (c d : UInt8) (s : Bs) : skipF [c] (d :: s) = if c = d then some s else none := by
  unfold skipF
  simp only [List.isPrefixOf]
  by_cases h : c = d <;> simp [h]
theorem skip_nil (c : UInt8) : skipF [c] [] = none := rfl
theorem digit_hit {s t : Bs} {n : Int} (h : digitF s = some (n, t)) : ∃ k : Nat, n = k ∧ k < 10 ∧ skipF (dec k) s = some t ∧ ∀ j : Nat, j < k → skipF (dec j) s = none := by
  cases s with
  | nil => cases h
  | cons c s =>
    simp only [digitF] at h
    split at h
    · rename_i hc
      simp only [Option.some.injEq, Prod.mk.injEq] at h
      obtain ⟨rfl, rfl⟩ := h
      refine ⟨c.toNat - 48, by omega, by omega, ?_, fun j hj => ?_⟩
      · rw [dec_one (by omega), skip_one, if_pos]
        rw [show 48 + (c.toNat - 48) = c.toNat by omega]; simp
      · rw [dec_one (by omega), skip_one, if_neg]
        intro e
        have := congrArg UInt8.toNat e
        simp only [UInt8.toNat_ofNat'] at this
        omega
    · cases h
theorem digit_miss {s : Bs} (h : digitF s = none) (j : Nat) (hj : j < 10) : skipF (dec j) s = none := by
  rw [dec_one hj]
  cases s with
  | nil => rfl
  | cons c s =>
    simp only [digitF] at h
    split at h
    · cases h
    · rename_i hc
      rw [skip_one, if_neg]
      intro e
      have := congrArg UInt8.toNat e
      simp only [UInt8.toNat_ofNat'] at this
      omega

set_option maxHeartbeats 400000 in
theorem digit_no (R : Nat) (s : Bs) (w : World) (hr : Rd w R s) (h : digitF s = none) :
    Calls Tryd.prog 62 #[.pointer (some ⟨R, 0, none⟩)] w fun e w' => e = .returned (.tuple #[.int .i64 0, .bool false]) ∧ Rw R s w w' := by
  have HR := Lib.hid hr
  have HD := Lib.hid h
  clear hr h
  go_enter Tryd.func62, Tryd.ntmps62
  go_wp2_with fail
  go_loopw [5] (fun i wr => ∃ k : Nat, k ≤ 10 ∧ i = .int .i64 k ∧ Hid (Rw R s w wr)) (fun i _ => 10 - (intOf i).toNat)
  case atStart => exact ⟨0, by omega, rfl, ⟨HR.out, OnlyIn.refl _ _⟩⟩
  case round =>
    obtain ⟨k, hk, rfl, hw⟩ := hrel
    by_cases hlt : k < 10
    · go_wp2_with fail
      refine (Itoa_any k (by omega) (by omega) _).mono ?_
      rintro e w1 ⟨rfl, rfl⟩
      go_wp2_with fail
      refine (skip_no R s (dec k) _ hw.out.rd (digit_miss HD.out k hlt)).mono ?_
      rintro e w1 ⟨rfl, hw1⟩
      have HW := Lib.hid (hw.out.trans hw1)
      clear hw1 hw
      go_wp2_with fail
      go_roundw
      case rel => exact ⟨k + 1, by omega, by go_num, HW⟩
      case measure => simp [intOf]; omega
    · go_wp2_with fail
      go_ret2
      exact ⟨rfl, hw.out⟩
set_option maxHeartbeats 400000 in
theorem digit_yes (R : Nat) (s t : Bs) (n : Int) (w : World) (hr : Rd w R s) (h : digitF s = some (n, t)) :
    Calls Tryd.prog 62 #[.pointer (some ⟨R, 0, none⟩)] w fun e w' => e = .returned (.tuple #[.int .i64 n, .bool true]) ∧ Rw R t w w' := by
  have HR := Lib.hid hr
  obtain ⟨m, rfl, hm, hh, hj⟩ := digit_hit h
  have HD := Lib.hid hj
  have HH := Lib.hid hh
  clear hr h hh hj
  go_enter Tryd.func62, Tryd.ntmps62
  go_wp2_with fail
  go_loopw [5] (fun i wr => ∃ k : Nat, k ≤ m ∧ i = .int .i64 k ∧ Hid (Rw R s w wr)) (fun i _ => 10 - (intOf i).toNat)
  case atStart => exact ⟨0, by omega, rfl, ⟨HR.out, OnlyIn.refl _ _⟩⟩
  case round =>
    obtain ⟨k, hk, rfl, hw⟩ := hrel
    by_cases hlt : k < m
    · go_wp2_with fail
      refine (Itoa_any k (by omega) (by omega) _).mono ?_
      rintro e w1 ⟨rfl, rfl⟩
      go_wp2_with fail
      refine (skip_no R s (dec k) _ hw.out.rd (HD.out k hlt)).mono ?_
      rintro e w1 ⟨rfl, hw1⟩
      have HW := Lib.hid (hw.out.trans hw1)
      clear hw1 hw
      go_wp2_with fail
      go_roundw
      case rel => exact ⟨k + 1, by omega, by go_num, HW⟩
      case measure => simp [intOf]; omega
    · obtain rfl : k = m := by omega
      go_wp2_with fail
      refine (Itoa_any k (by omega) (by omega) _).mono ?_
      rintro e w1 ⟨rfl, rfl⟩
      go_wp2_with fail
      refine (skip_yes R s (dec k) t _ hw.out.rd HH.out).mono ?_
      rintro e w1 ⟨rfl, hw1⟩
      have HW := Lib.hid (hw.out.trans hw1)
      clear hw1 hw
      go_wp2_with fail
      go_ret2
      exact ⟨rfl, HW.out⟩

set_option maxHeartbeats 1000000 in
theorem number_any (R : Nat) (s : Bs) (w : World) (hr : Rd w R s) :
    Calls Tryd.prog 44 #[.pointer (some ⟨R, 0, none⟩)] w (ReadPost R (fun n => .int .i64 n) (numberF s) w) := by
  have HR := Lib.hid hr
  clear hr
  cases hd : digitF s with
  | none =>
    have hn : numberF s = none := by simp [numberF, hd]
    rw [hn]
    have HD := Lib.hid hd
    clear hd hn
    go_enter Tryd.func44, Tryd.ntmps44
    go_wp2_with fail
    refine (digit_no R s _ HR.out HD.out).mono ?_
    rintro e w1 ⟨rfl, hw⟩
    have HW := Lib.hid hw
    clear hw
    go_wp2_with fail
    refine (fail_any _ _).mono ?_
    rintro e w2 ⟨rfl, rfl⟩
    go_wp2_with fail
    exact ⟨rfl, rfl, s, HW.out⟩
  | some p =>
    obtain ⟨n, t⟩ := p
    have hn : numberF s = numF 3 n t := by simp [numberF, hd]
    obtain ⟨-, hn0, hn9⟩ := digitF_len hd
    have HN := Lib.hid hn
    have HD := Lib.hid hd
    rw [hn]
    clear hd hn
    go_enter Tryd.func44, Tryd.ntmps44
    go_wp2_with fail
    refine (digit_yes R s t n _ HR.out HD.out).mono ?_
    rintro e w1 ⟨rfl, hw⟩
    have HW := Lib.hid hw
    clear hw
    go_wp2_with fail
    go_loopw [3] (fun v wr => ∃ (f : Nat) (m : Int) (u : Bs), f ≤ 3 ∧ (f = 3 → m ≤ 9) ∧ (f = 2 → 10 ≤ m ∨ m = 0) ∧ f ≥ 2 ∧ 0 ≤ m ∧ m ≤ 12 ∧ v = .int .i64 m ∧ Hid (numF 3 n t = numF f m u) ∧ Hid (Rw R u w wr)) (fun v _ => 100 - (intOf v).toNat)
    case atStart => exact ⟨3, n, t, by omega, fun _ => hn9, by omega, by omega, hn0, by omega, rfl, rfl, HW⟩
    case round =>
      obtain ⟨f, m, u, hf, hf3, hf2, hge, hm0, hm, rfl, HF, hw⟩ := hrel
      by_cases hz : m ≤ 0
      · have hF : numF f m u = some (m, u) := by
          obtain ⟨f', rfl⟩ : ∃ f', f = f' + 1 := ⟨f - 1, by omega⟩
          simp [numF, hz]
        have HF2 := Lib.hid (HF.out.trans hF)
        clear HF hF HN
        go_wp2_with fail
        go_ret
        show ReadPost R _ (numF 3 n t) _ _ _
        rw [HF2.out]
        exact ⟨rfl, hw.out⟩
      · obtain ⟨f', rfl⟩ : ∃ f', f = f' + 1 := ⟨f - 1, by omega⟩
        cases hd : digitF u with
        | none =>
          have hF : numF (f' + 1) m u = some (m, u) := by simp [numF, hz, hd]
          have HF2 := Lib.hid (HF.out.trans hF)
          have HD := Lib.hid hd
          clear HF hF hd HN
          go_wp2_with fail
          refine (digit_no R u _ hw.out.rd HD.out).mono ?_
          rintro e w2 ⟨rfl, hw2⟩
          have HW := Lib.hid (hw.out.trans hw2)
          clear hw2 hw
          go_wp2_with fail
          go_ret
          show ReadPost R _ (numF 3 n t) _ _ _
          rw [HF2.out]
          exact ⟨rfl, HW.out⟩
        | some p =>
          obtain ⟨d, u2⟩ := p
          obtain ⟨-, hd0, hd9⟩ := digitF_len hd
          have HD := Lib.hid hd
          by_cases hbig : 12 < 10 * m + d
          · have hF : numF (f' + 1) m u = none := by simp [numF, hz, hd, hbig]
            have HF2 := Lib.hid (HF.out.trans hF)
            clear HF hF hd HN
            go_wp2_with fail
            refine (digit_yes R u u2 d _ hw.out.rd HD.out).mono ?_
            rintro e w2 ⟨rfl, hw2⟩
            have HW := Lib.hid (hw.out.trans hw2)
            clear hw2 hw
            go_wp2_with fail
            refine (fail_any _ _).mono ?_
            rintro e w2 ⟨rfl, rfl⟩
            go_wp2_with fail
            refine ⟨rfl, ?_⟩
            show ReadPost R _ (numF 3 n t) _ _ _
            rw [HF2.out]
            exact ⟨rfl, u2, HW.out⟩
          · have hF : numF (f' + 1) m u = numF f' (10 * m + d) u2 := by simp [numF, hz, hd, hbig]
            have HF2 := Lib.hid (HF.out.trans hF)
            have hf'2 : f' = 2 := by
              rcases Nat.lt_or_ge f' 2 with h | h
              · have : f' + 1 = 2 := by omega
                have := hf2 this
                omega
              · omega
            subst hf'2
            clear HF hF hd HN
            go_wp2_with fail
            refine (digit_yes R u u2 d _ hw.out.rd HD.out).mono ?_
            rintro e w2 ⟨rfl, hw2⟩
            have HW := Lib.hid (hw.out.trans hw2)
            clear hw2 hw
            go_wp2_with fail
            go_roundw
            case rel => exact ⟨2, 10 * m + d, u2, by omega, by omega, by omega, by omega, by omega, by omega, rfl, HF2, HW⟩
            case measure => simp [intOf]; omega

end Go.Proofs.YtlekbddlemfokaaDoor

/- Contracts of the reader: a letter, a signature, a change. -/
namespace Go.Proofs.YtlekbddlemfokaaDoor
set_option linter.unusedSimpArgs false
set_option linter.unusedVariables false
open Go Go.RowKit Go.Sort Go.BigFrame Go.Lib

theorem letterAt_hit : ∀ {cs : List UInt8} {i n : Int} {s t : Bs}, letterAtF cs i s = some (n, t) → ∃ k : Nat, n = i + k ∧ k < cs.length ∧ skipF [cs.getD k 0] s = some t ∧ ∀ j, j < k → skipF [cs.getD j 0] s = none
  | [], _, _, _, _, h => by cases h
  | c :: cs, i, n, s, t, h => by
    simp only [letterAtF] at h
    split at h
    · rename_i u hu
      simp only [Option.some.injEq, Prod.mk.injEq] at h
      obtain ⟨rfl, rfl⟩ := h
      exact ⟨0, by omega, by simp, hu, fun j hj => by omega⟩
    · rename_i hu
      obtain ⟨k, h1, h2, h3, h4⟩ := letterAt_hit h
      refine ⟨k + 1, by omega, by simp; omega, h3, fun j hj => ?_⟩
      cases j with
      | zero => exact hu
      | succ j => exact h4 j (by omega)
theorem letterAt_miss : ∀ {cs : List UInt8} {i : Int} {s : Bs}, letterAtF cs i s = none → ∀ j, j < cs.length → skipF [cs.getD j 0] s = none
  | [], _, _, _, j, hj => by simp at hj
  | c :: cs, i, s, h, j, hj => by
    simp only [letterAtF] at h
    split at h
    · cases h
    · rename_i hu
      cases j with
      | zero => exact hu
      | succ j => exact letterAt_miss h j (by simpa using hj)

abbrev LB : ByteArray := ⟨#[65, 66, 67, 68, 69, 70, 71, 72, 73, 75, 76, 77, 78, 79, 80, 81, 82, 83, 84, 86, 88, 89, 90]⟩
theorem LB_at : ∀ k, (h : k < 23) → (LB[k]'h).toNat < 128 ∧ LB[k]'h = letterL.getD k 0 := by decide +kernel
theorem next_letter (w : World) (I k : Nat) (ty : TypeId) (hk : k < 23) (h : w.heap[I]? = some (.stringIter LB k)) :
    (Instr.next (.pointer (some ⟨I, 0, none⟩)) true ty).run Tryd.prog w = .ok (.tuple #[.bool true, .int .i64 k, .int .i32 (letterL.getD k 0).toNat]) (w.iterAt I LB (k + 1)) := by
  rw [run_next_ascii_at w I LB k ty h hk (LB_at k hk).1, (LB_at k hk).2]
theorem next_end (w : World) (I : Nat) (ty : TypeId) (h : w.heap[I]? = some (.stringIter LB 23)) :
    (Instr.next (.pointer (some ⟨I, 0, none⟩)) true ty).run Tryd.prog w = .ok (.tuple #[.bool false]) w :=
  run_next_end_at w I LB 23 ty h (by decide)
theorem OnlyIn.iterAt {X : Nat → Prop} (W : World) (k : Nat) (s : ByteArray) (pos : Nat) (h : X k) : OnlyIn X W (W.iterAt k s pos) :=
  ⟨rfl, rfl, rfl, by rw [iterAt_size]; exact Nat.le_refl _, fun i _ hx => iterAt_other W k i s pos (fun e => hx (e ▸ h))⟩

theorem OnlyIn.fresh {X : Nat → Prop} {w W W' : World} (h : OnlyIn X w W) (k : OnlyIn (fun j => w.heap.size ≤ j) W W') : OnlyIn X w W' :=
  ⟨k.os.trans h.os, k.tape.trans h.tape, k.output.trans h.output, Nat.le_trans h.size k.size, fun i hi hx => (k.block i (Nat.lt_of_lt_of_le hi h.size) (fun hj => by omega)).trans (h.block i hi hx)⟩
theorem enc_letter : ∀ k, k < 23 → Utf8.encode ((letterL.getD k 0).toNat : Int) = ⟨[letterL.getD k 0].toArray⟩ := by decide +kernel

/-- How the letters are gone through: at letter k, whose iterator has been moved on. -/
structure AtLetter (w wn : World) (R k : Nat) (s : Bs) : Prop where
  it : wn.heap[w.heap.size]? = some (.stringIter LB k)
  rd : Rd wn R s
  only : OnlyIn (fun j => j = R) w wn
theorem AtLetter.next {w wn : World} {R k : Nat} {s : Bs} (h : AtLetter w wn R k s) (hR : R < w.heap.size) : AtLetter w (wn.iterAt w.heap.size LB (k + 1)) R (k + 1) s :=
  ⟨iterAt_heap _ _ _ _ _ h.it, (iterAt_other _ _ _ _ _ (by omega)).trans h.rd, h.only.fresh (OnlyIn.iterAt _ _ _ _ (Nat.le_refl _))⟩
theorem AtLetter.skip {w wn w' : World} {R k : Nat} {s t : Bs} (h : AtLetter w wn R k s) (hR : R < w.heap.size) (hw : Rw R t wn w') : AtLetter w w' R k t :=
  ⟨hw.block h.it (by omega), hw.rd, h.only.trans hw.only⟩

set_option maxHeartbeats 1000000 in
theorem letter_any (R : Nat) (s : Bs) (w : World) (hr : Rd w R s) :
    Calls Tryd.prog 71 #[.pointer (some ⟨R, 0, none⟩)] w (ReadPost R (fun n => .int .i64 n) (letterF s) w) := by
  have HR := Lib.hid hr
  have hR := blk_lt hr
  clear hr
  have h0 : Hid (AtLetter w (w.iter LB 0) R 0 s) := ⟨World.iter_heap _ _ _, (heap_alloc_past _ _ _ hR).trans HR.out, OnlyIn.alloc _ _ _⟩
  cases hl : letterAtF letterL 0 s with
  | some p =>
    obtain ⟨n, t⟩ := p
    obtain ⟨m, hn, hm, hh, hj⟩ := letterAt_hit hl
    have hm23 : m < 23 := hm
    obtain rfl : n = m := by omega
    have hF : letterF s = some ((m : Int), t) := by simp [letterF, hl]
    rw [hF]
    have HH := Lib.hid hh
    have HJ := Lib.hid hj
    clear hh hj hl hF hn hm
    go_enter Tryd.func71, Tryd.ntmps71
    go_wp2_with fail
    go_loopw [3] (fun v wr => ∃ k : Nat, k ≤ m ∧ Hid (AtLetter w wr R k s)) (fun _ wr => 23 - wr.iterPos w.heap.size)
    case atStart => exact ⟨0, by omega, h0⟩
    case round =>
      obtain ⟨k, hk, hA⟩ := hrel
      by_cases hlt : k < m
      · skip
        obtain ⟨wn, hwn⟩ : ∃ wn, wn = wr.iterAt w.heap.size LB (k + 1) := ⟨_, rfl⟩
        obtain ⟨c, hc⟩ : ∃ c, c = letterL.getD k 0 := ⟨_, rfl⟩
        have hnx := fun ty => next_letter wr w.heap.size k ty (by omega) hA.out.it
        have he := enc_letter k (by omega)
        have HN := Lib.hid (iterPos_of hA.out.it)
        rw [← hwn, ← hc] at hnx
        rw [← hc] at he
        have HA := Lib.hid (hA.out.next hR)
        rw [← hwn] at HA
        have HC := Lib.hid hc
        clear hwn hA hc
        go_wp2_with fail
        refine (skip_no R s [c] _ HA.out.rd (by rw [HC.out]; exact HJ.out k hlt)).mono ?_
        rintro e w1 ⟨rfl, hw1⟩
        have HA1 := Lib.hid (HA.out.skip hR hw1)
        clear hw1 HA
        go_wp2_with fail
        go_roundw
        case rel => exact ⟨k + 1, by omega, HA1⟩
        case measure => rw [HN.out, iterPos_of HA1.out.it]; omega
      · obtain rfl : k = m := by omega
        obtain ⟨wn, hwn⟩ : ∃ wn, wn = wr.iterAt w.heap.size LB (k + 1) := ⟨_, rfl⟩
        obtain ⟨c, hc⟩ : ∃ c, c = letterL.getD k 0 := ⟨_, rfl⟩
        have hnx := fun ty => next_letter wr w.heap.size k ty (by omega) hA.out.it
        have he := enc_letter k (by omega)
        have HN := Lib.hid (iterPos_of hA.out.it)
        rw [← hwn, ← hc] at hnx
        rw [← hc] at he
        have HA := Lib.hid (hA.out.next hR)
        rw [← hwn] at HA
        have HC := Lib.hid hc
        clear hwn hA hc
        go_wp2_with fail
        refine (skip_yes R s [c] t _ HA.out.rd (by rw [HC.out]; exact HH.out)).mono ?_
        rintro e w1 ⟨rfl, hw1⟩
        have HA1 := Lib.hid (HA.out.skip hR hw1)
        clear hw1 HA
        go_wp2_with fail
        go_ret
        exact ⟨rfl, HA1.out.rd, HA1.out.only⟩
  | none =>
    have hj := letterAt_miss hl
    have HJ := Lib.hid hj
    clear hj
    have fin : ∀ (x : Bs → Prop), True := fun _ => trivial
    clear fin
    cases h1 : skipF [112, 105] s with
    | some t =>
      have hF : letterF s = some (23, t) := by simp [letterF, hl, h1]
      rw [hF]
      have H1 := Lib.hid h1
      clear hl h1 hF
      go_enter Tryd.func71, Tryd.ntmps71
      go_wp2_with fail
      go_loopw [3] (fun v wr => ∃ k : Nat, k ≤ 23 ∧ Hid (AtLetter w wr R k s)) (fun _ wr => 23 - wr.iterPos w.heap.size)
      case atStart => exact ⟨0, by omega, h0⟩
      case round =>
        obtain ⟨k, hk, hA⟩ := hrel
        by_cases hlt : k < 23
        · skip
          obtain ⟨wn, hwn⟩ : ∃ wn, wn = wr.iterAt w.heap.size LB (k + 1) := ⟨_, rfl⟩
          obtain ⟨c, hc⟩ : ∃ c, c = letterL.getD k 0 := ⟨_, rfl⟩
          have hnx := fun ty => next_letter wr w.heap.size k ty (by omega) hA.out.it
          have he := enc_letter k (by omega)
          have HN := Lib.hid (iterPos_of hA.out.it)
          rw [← hwn, ← hc] at hnx
          rw [← hc] at he
          have HA := Lib.hid (hA.out.next hR)
          rw [← hwn] at HA
          have HC := Lib.hid hc
          clear hwn hA hc
          go_wp2_with fail
          refine (skip_no R s [c] _ HA.out.rd (by rw [HC.out]; exact HJ.out k hlt)).mono ?_
          rintro e w1 ⟨rfl, hw1⟩
          have HA1 := Lib.hid (HA.out.skip hR hw1)
          clear hw1 HA
          go_wp2_with fail
          go_roundw
          case rel => exact ⟨k + 1, by omega, HA1⟩
          case measure => rw [HN.out, iterPos_of HA1.out.it]; omega
        · obtain rfl : k = 23 := by omega
          have hnx := fun ty => next_end wr w.heap.size ty hA.out.it
          go_wp2_with fail
          refine (skip_yes R s [112, 105] t _ hA.out.rd H1.out).mono ?_
          rintro e w1 ⟨rfl, hw1⟩
          have HA1 := Lib.hid (hA.out.skip hR hw1)
          clear hw1 hA hnx
          go_wp2_with fail
          go_ret
          exact ⟨rfl, HA1.out.rd, HA1.out.only⟩
    | none =>
      have HL := Lib.hid hl
      have H1 := Lib.hid h1
      clear hl h1
      go_enter Tryd.func71, Tryd.ntmps71
      go_wp2_with fail
      go_loopw [3] (fun v wr => ∃ k : Nat, k ≤ 23 ∧ Hid (AtLetter w wr R k s)) (fun _ wr => 23 - wr.iterPos w.heap.size)
      case atStart => exact ⟨0, by omega, h0⟩
      case round =>
        obtain ⟨k, hk, hA⟩ := hrel
        by_cases hlt : k < 23
        · skip
          obtain ⟨wn, hwn⟩ : ∃ wn, wn = wr.iterAt w.heap.size LB (k + 1) := ⟨_, rfl⟩
          obtain ⟨c, hc⟩ : ∃ c, c = letterL.getD k 0 := ⟨_, rfl⟩
          have hnx := fun ty => next_letter wr w.heap.size k ty (by omega) hA.out.it
          have he := enc_letter k (by omega)
          have HN := Lib.hid (iterPos_of hA.out.it)
          rw [← hwn, ← hc] at hnx
          rw [← hc] at he
          have HA := Lib.hid (hA.out.next hR)
          rw [← hwn] at HA
          have HC := Lib.hid hc
          clear hwn hA hc
          go_wp2_with fail
          refine (skip_no R s [c] _ HA.out.rd (by rw [HC.out]; exact HJ.out k hlt)).mono ?_
          rintro e w1 ⟨rfl, hw1⟩
          have HA1 := Lib.hid (HA.out.skip hR hw1)
          clear hw1 HA
          go_wp2_with fail
          go_roundw
          case rel => exact ⟨k + 1, by omega, HA1⟩
          case measure => rw [HN.out, iterPos_of HA1.out.it]; omega
        · obtain rfl : k = 23 := by omega
          have hnx := fun ty => next_end wr w.heap.size ty hA.out.it
          go_wp2_with fail
          refine (skip_no R s [112, 105] _ hA.out.rd H1.out).mono ?_
          rintro e w1 ⟨rfl, hw1⟩
          have HA1 := Lib.hid (hA.out.skip hR hw1)
          clear hw1 hA hnx
          cases h2 : skipF [99, 104, 105] s with
          | some t =>
            have H2 := Lib.hid h2
            clear h2
            go_wp2_with fail
            refine (must_yes R s [99, 104, 105] t _ HA1.out.rd H2.out).mono ?_
            rintro e w2 ⟨rfl, hw2⟩
            have HA2 := Lib.hid (HA1.out.skip hR hw2)
            clear hw2 HA1
            go_wp2_with fail
            go_ret
            have hF : letterF s = some (24, t) := by simp [letterF, HL.out, H1.out, H2.out]
            show ReadPost R _ (letterF s) _ _ _
            rw [hF]
            exact ⟨rfl, HA2.out.rd, HA2.out.only⟩
          | none =>
            have H2 := Lib.hid h2
            clear h2
            go_wp2_with fail
            refine (must_no R s [99, 104, 105] _ HA1.out.rd H2.out).mono ?_
            rintro e w2 ⟨rfl, hw2⟩
            have HA2 := Lib.hid (HA1.out.skip hR hw2)
            clear hw2 HA1
            go_wp2_with fail
            have hF : letterF s = none := by simp [letterF, HL.out, H1.out, H2.out]
            refine ⟨rfl, ?_⟩
            show ReadPost R _ (letterF s) _ _ _
            rw [hF]
            exact ⟨rfl, s, HA2.out.rd, HA2.out.only⟩

end Go.Proofs.YtlekbddlemfokaaDoor
