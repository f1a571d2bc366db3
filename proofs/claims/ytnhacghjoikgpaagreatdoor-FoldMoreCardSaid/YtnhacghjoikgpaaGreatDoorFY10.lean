/- The parts Hi, Rz, Hh, Hj, Io, Iq, Ir, Tk of the proof, joined. It holds without conditions of its own. -/
import Derived.Test.YtnhacghjoikgpaaGreatDoorFY9
import Derived.Test.YtnhacghjoikgpaaGreatDoorFY4
import Derived.Test.YtnhacghjoikgpaaGreatDoorFY8
import Derived.Deep.RegionHeld3
/- The numbers for which something holds: Where, of Sure's two closures. -/
namespace Go.Proofs.YtnhacghjoikgpaaGreatDoor
set_option linter.unusedSimpArgs false
set_option linter.unusedVariables false
open Go Go.RowKit Go.Sort Go.BigFrame

set_option maxRecDepth 100000 in
set_option maxHeartbeats 4000000 in
theorem where1_any (many : Nat) (A : Nat → Bool) (g ab : Nat) (w : World) (hm : many ≤ 64)
    (hc : ∀ (n : Nat) (W : World), n < many → Below w.heap.size w W → Calls Tryz.prog 100 #[.int .i64 n, .pointer (some ⟨g, 0, none⟩), .pointer (some ⟨ab, 0, none⟩)] W fun e W' => e = .returned (.bool (A n)) ∧ Below W.heap.size W W') :
    Calls Tryz.prog 99 #[.int .i64 many, .func (.func 100) #[] #[.pointer (some ⟨g, 0, none⟩), .pointer (some ⟨ab, 0, none⟩)]] w fun e w' => (∃ v, e = .returned v ∧ w'.ownsRow w.heap.size 3 1 v ((List.range many).filter A).length (intVs ((List.range many).filter A))) ∧ Below w.heap.size w w' := by
  have HC := Lib.hid hc
  obtain ⟨ei, hi1, hi2, hi3, hi4⟩ := elemInt
  have HI := Lib.hid (And.intro hi1 (And.intro hi2 (And.intro hi3 hi4)))
  clear hi1 hi2 hi3 hi4 hc
  go_enter Tryz.func99, Tryz.ntmps99
  go_wp2_with fail
  go_loopw [5, 8] (fun v j wr => ∃ (k : Nat), k ≤ many ∧ j = .int .i64 k ∧ Hid (wr.ownsRow w.heap.size 3 1 v ((List.range k).filter A).length (intVs ((List.range k).filter A))) ∧ Hid (Below w.heap.size w wr)) (fun _ j _ => many - (intOf j).toNat)
  case atStart => exact ⟨0, by omega, rfl, World.ownsRow_nil _ _ _ _, Below.refl _ _⟩
  case round =>
    obtain ⟨k, hk, rfl, HR, HB⟩ := hrel
    have hz := HB.out.size
    by_cases hlt : k < many
    · go_wp2_with fail
      refine (HC.out k _ hlt HB.out).mono ?_
      rintro e w4 ⟨rfl, hb4⟩
      have HB4 := Lib.hid (HB.out.trans (hb4.mono hz))
      have HR4 := Lib.hid (row_later HR.out hb4)
      have hz4 := HB4.out.size
      obtain ⟨z, hzk⟩ : ∃ z, z = A k := ⟨_, rfl⟩
      rw [← hzk]
      have HF := Lib.hid hzk
      clear hzk hb4 HB HR hz
      cases z with
      | false =>
        go_wp2_with fail
        go_roundw
        case rel => exact ⟨k + 1, by omega, by go_num, (by show World.ownsRow _ _ _ _ _ _ _; rw [range_filter_no HF.out.symm]; exact HR4.out), HB4⟩
        case measure => simp [intOf]; omega
      | true =>
        have hrl := range_filter_len A k
        obtain ⟨hi1, hi2, hi3, hi4⟩ := HI.out
        go_wp2_with (at_builtin; (refine wpList_append_own _ rfl _ _ 36 rfl w.heap.size 3 ei _ 1 8 undInts hi1 hi2 hi3 hi4 rfl (by decide) u5 ((List.range k).filter A).length (intVs ((List.range k).filter A)) rfl (HR4.out.alloc _) ⟨w4.heap.size, 0, none⟩ 1 1 [.int .i64 k] rfl rfl ?a1 ?b1 ?c1 ?d1 ?e1 ?f1))
        case a1 =>
          intro j u hju
          rw [add_offi]
          unfold World.cell?
          rw [World.alloc_heap_new]
          simpa using hju
        case b1 => simp [Value.oneCell']
        case c1 => simp only [maxLen]; omega
        case d1 => omega
        case e1 => (first | omega | (simp; omega))
        case f1 =>
          rintro v' w7 hown hgrow -
          have HB7 := Lib.hid (HB4.out.trans ((((Below.refl _ w4).alloc (Nat.le_refl _) (.cells #[.int .i64 k] 3)).mono hz4).trans (below_row (HR4.out.alloc _) (by simp; omega) hgrow)))
          have HO := Lib.hid hown
          clear hgrow hown hi1 hi2 hi3 hi4
          go_wp2_with fail
          go_roundw
          case rel => exact ⟨k + 1, by omega, by go_num, (by
            show World.ownsRow _ _ _ _ _ _ _
            rw [range_filter_yes HF.out.symm]
            have h := HO.out
            simpa [intVs] using h), HB7.out⟩
          case measure => simp [intOf]; omega
    · obtain rfl : k = many := by omega
      go_wp2_with fail
      go_ret
      exact ⟨⟨_, rfl, HR.out⟩, HB.out⟩
set_option maxRecDepth 100000 in
set_option maxHeartbeats 4000000 in
theorem where2_any (many : Nat) (A : Nat → Bool) (g ab : Nat) (w : World) (hm : many ≤ 64)
    (hc : ∀ (n : Nat) (W : World), n < many → Below w.heap.size w W → Calls Tryz.prog 101 #[.int .i64 n, .pointer (some ⟨g, 0, none⟩)] W fun e W' => e = .returned (.bool (A n)) ∧ Below W.heap.size W W') :
    Calls Tryz.prog 99 #[.int .i64 many, .func (.func 101) #[] #[.pointer (some ⟨g, 0, none⟩)]] w fun e w' => (∃ v, e = .returned v ∧ w'.ownsRow w.heap.size 3 1 v ((List.range many).filter A).length (intVs ((List.range many).filter A))) ∧ Below w.heap.size w w' := by
  have HC := Lib.hid hc
  obtain ⟨ei, hi1, hi2, hi3, hi4⟩ := elemInt
  have HI := Lib.hid (And.intro hi1 (And.intro hi2 (And.intro hi3 hi4)))
  clear hi1 hi2 hi3 hi4 hc
  go_enter Tryz.func99, Tryz.ntmps99
  go_wp2_with fail
  go_loopw [5, 8] (fun v j wr => ∃ (k : Nat), k ≤ many ∧ j = .int .i64 k ∧ Hid (wr.ownsRow w.heap.size 3 1 v ((List.range k).filter A).length (intVs ((List.range k).filter A))) ∧ Hid (Below w.heap.size w wr)) (fun _ j _ => many - (intOf j).toNat)
  case atStart => exact ⟨0, by omega, rfl, World.ownsRow_nil _ _ _ _, Below.refl _ _⟩
  case round =>
    obtain ⟨k, hk, rfl, HR, HB⟩ := hrel
    have hz := HB.out.size
    by_cases hlt : k < many
    · go_wp2_with fail
      refine (HC.out k _ hlt HB.out).mono ?_
      rintro e w4 ⟨rfl, hb4⟩
      have HB4 := Lib.hid (HB.out.trans (hb4.mono hz))
      have HR4 := Lib.hid (row_later HR.out hb4)
      have hz4 := HB4.out.size
      obtain ⟨z, hzk⟩ : ∃ z, z = A k := ⟨_, rfl⟩
      rw [← hzk]
      have HF := Lib.hid hzk
      clear hzk hb4 HB HR hz
      cases z with
      | false =>
        go_wp2_with fail
        go_roundw
        case rel => exact ⟨k + 1, by omega, by go_num, (by show World.ownsRow _ _ _ _ _ _ _; rw [range_filter_no HF.out.symm]; exact HR4.out), HB4⟩
        case measure => simp [intOf]; omega
      | true =>
        have hrl := range_filter_len A k
        obtain ⟨hi1, hi2, hi3, hi4⟩ := HI.out
        go_wp2_with (at_builtin; (refine wpList_append_own _ rfl _ _ 36 rfl w.heap.size 3 ei _ 1 8 undInts hi1 hi2 hi3 hi4 rfl (by decide) u5 ((List.range k).filter A).length (intVs ((List.range k).filter A)) rfl (HR4.out.alloc _) ⟨w4.heap.size, 0, none⟩ 1 1 [.int .i64 k] rfl rfl ?a1 ?b1 ?c1 ?d1 ?e1 ?f1))
        case a1 =>
          intro j u hju
          rw [add_offi]
          unfold World.cell?
          rw [World.alloc_heap_new]
          simpa using hju
        case b1 => simp [Value.oneCell']
        case c1 => simp only [maxLen]; omega
        case d1 => omega
        case e1 => (first | omega | (simp; omega))
        case f1 =>
          rintro v' w7 hown hgrow -
          have HB7 := Lib.hid (HB4.out.trans ((((Below.refl _ w4).alloc (Nat.le_refl _) (.cells #[.int .i64 k] 3)).mono hz4).trans (below_row (HR4.out.alloc _) (by simp; omega) hgrow)))
          have HO := Lib.hid hown
          clear hgrow hown hi1 hi2 hi3 hi4
          go_wp2_with fail
          go_roundw
          case rel => exact ⟨k + 1, by omega, by go_num, (by
            show World.ownsRow _ _ _ _ _ _ _
            rw [range_filter_yes HF.out.symm]
            have h := HO.out
            simpa [intVs] using h), HB7.out⟩
          case measure => simp [intOf]; omega
    · obtain rfl : k = many := by omega
      go_wp2_with fail
      go_ret
      exact ⟨⟨_, rfl, HR.out⟩, HB.out⟩
end Go.Proofs.YtnhacghjoikgpaaGreatDoor

/- A statement that ranges over a function without a variable. For any program. -/
namespace Go.Proofs.YtnhacghjoikgpaaGreatDoor
set_option linter.unusedSimpArgs false
set_option linter.unusedVariables false
open Go Go.RowKit

/-- THE STATEMENT, without a variable. -/
theorem rf_law0 {P : Program} {n : Nat} {α : Type} {g : Operand} {ps : Array Tmp} {assign body : Code} {Q : Exit → Act → World → Prop} {a : Act} {w : World}
    {gf : Nat} {lb : Array Value} (hg : a.eval g = .func (.func gf) #[] lb) (eg : ∀ args w, (callFunc gf args).run P w = .ok (.enter gf args) w)
    {encs : α → Array Value} {xs : List α} {Pr : Nat → Prop} (hit : ItC P gf lb encs xs Pr w) (hps : ∀ x, (encs x).size = ps.size) (hPr : ∀ k, Pr k → k < w.heap.size)
    (I : List α → World → Prop) (Ix : Code → List α → World → Prop) (Ow : World → Nat → Prop) (a₁ : α → Act)
    (hOwc : ∀ pre W k, I pre W → Ow W k → ∃ c t f, W.heap[k]? = some (.cells c t f))
    (hI : ∀ pre (X : Nat → Prop) W W', I pre W → OnlyIn X W W' → (∀ k, X k → w.heap.size ≤ k ∧ ¬ Ow W k) → I pre W' ∧ ∀ k, Ow W' k → Ow W k)
    (hIx : ∀ c pre (X : Nat → Prop) W W', Ix c pre W → OnlyIn X W W' → (∀ k, X k → w.heap.size ≤ k) → Ix c pre W')
    (h0 : I [] w)
    (hassign : ∀ (l : Nat) (x : α) (W : World) (K : Act → World → Prop), K (a₁ x) W →
      assign.wpIn (Fence.wide.inRound l) 9 P (Exit.then K (fun _ _ _ => False)) { tmps := (ps.zip (encs x)).foldl (fun t (p, v) => t.setIfInBounds p v) a.tmps, defers := [] } W)
    (hbody : ∀ (l : Nat) (pre : List α) (x : α) (rest : List α) (W : World), xs = pre ++ x :: rest → I pre W →
      body.wpIn (Fence.wide.inRound l) 9 P (rfPost w.heap.size Pr Ow I Ix (pre ++ [x]) W) (a₁ x) W)
    (hdone : ∀ (D : Nat) (W : World), w.heap.size ≤ D → I xs W → W.heap[D]? = some (.deferred (some [])) → Q .normal { a with defers := { target := .collected D, args := #[] } :: a.defers } W)
    (hstop : ∀ (D : Nat) (c : Code) (pre : List α) (W : World), w.heap.size ≤ D → Ix c pre W → W.heap[D]? = some (.deferred (some [])) → c.wpIn Fence.wide n P Q { a with defers := { target := .collected D, args := #[] } :: a.defers } W) :
    (Code.rangeFunc g ps assign body).wpIn Fence.wide n P Q a w := by
  refine wpIn_rangeFunc ?_
  intro fn hfn
  obtain ⟨rec, hrec⟩ : ∃ rec : LoopState → Option Code → Loop, rec = fun st pe => { state := st, pending := pe, fn, tmps := a.tmps, params := ps, assign, body, defers := w.heap.size } := ⟨_, rfl⟩
  obtain ⟨W1, hW1⟩ : ∃ W1, (w.alloc (.deferred (some []))).alloc (.loop (rec .ready none)) = W1 := ⟨_, rfl⟩
  have hz1 : W1.heap.size = w.heap.size + 2 := by rw [← hW1]; simp
  have hL1 : W1.heap[w.heap.size + 1]? = some (.loop (rec .ready none)) := by
    rw [← hW1]; have := World.alloc_heap_new (w.alloc (.deferred (some []))) (.loop (rec .ready none)); rwa [World.size_alloc] at this
  have hK1 : W1.heap[w.heap.size]? = some (.deferred (some [])) := by
    rw [← hW1]; exact (Below.heap_alloc _ _ _ (by simp)).trans (World.alloc_heap_new w _)
  have hO1 : OnlyIn (fun _ => False) w W1 := by rw [← hW1]; exact (OnlyIn.alloc _ w _).trans (OnlyIn.alloc _ _ _)
  have hI1 : I [] W1 := (hI [] _ w W1 h0 hO1 (fun _ h => h.elim)).1
  refine ⟨w.heap.size + 1, [{ target := .collected w.heap.size, args := #[] }], W1, { target := .fn (.func gf) lb, args := #[.func (.yield (w.heap.size + 1)) #[] #[]] }, W1, gf,
    #[.func (.yield (w.heap.size + 1)) #[] #[]] ++ lb, W1, ?_, ?_, ?_, ?_, fun h => by simp [Fence.wide] at h, ?_⟩
  · rw [← hW1, hrec]; exact run_enterLoop_outer _ _ _ _ _
  · simp only [resolve, hg]
    simp [go_sem]
  · intro f' _; trivial
  · simp [invoke, go_sem, eg]
  refine callsIn_wide.2 ((hit (w.heap.size + 1)
      (fun pre X W => I pre W ∧ W.heap[w.heap.size + 1]? = some (.loop (rec .ready none)) ∧ W.heap[w.heap.size]? = some (.deferred (some [])) ∧ ∀ k, X k → w.heap.size + 2 ≤ k ∧ k < W.heap.size ∧ ¬ Ow W k)
      (fun pre X W => ∃ c, Ix c pre W ∧ W.heap[w.heap.size + 1]? = some (.loop (rec .done (some c))) ∧ W.heap[w.heap.size]? = some (.deferred (some [])) ∧ ∀ k, X k → w.heap.size + 2 ≤ k ∧ k < W.heap.size)
      W1 (by omega) (fun k hk => hO1.block k (hPr k hk) (fun h => h)) ?_ ?_ ?_ ⟨hI1, hL1, hK1, fun _ h => h.elim⟩).mono ?_)
  · -- J abides
    rintro pre X X' W W' ⟨hi, hl, hk, hx⟩ ho hx'
    have hlt : w.heap.size + 1 < W.heap.size := (Array.getElem?_eq_some_iff.1 hl).1
    obtain ⟨hi', how⟩ := hI pre X W W' hi ho (fun k h => ⟨by have := (hx k h).1; omega, (hx k h).2.2⟩)
    refine ⟨hi', (ho.block _ hlt (fun h => by have := (hx _ h).1; omega)).trans hl, (ho.block _ (by omega) (fun h => by have := (hx _ h).1; omega)).trans hk, fun k h => ?_⟩
    rcases hx' k h with h1 | ⟨h1, h2⟩
    · obtain ⟨a1, a2, a3⟩ := hx k h1
      exact ⟨a1, Nat.lt_of_lt_of_le a2 ho.size, fun h => a3 (how k h)⟩
    · refine ⟨by omega, h2, fun h => ?_⟩
      obtain ⟨c, t, f, e⟩ := hOwc pre W k hi (how k h)
      have := (Array.getElem?_eq_some_iff.1 e).1
      omega
  · rintro pre X X' W W' ⟨c, hi, hl, hk, hx⟩ ho hx'
    have hlt : w.heap.size + 1 < W.heap.size := (Array.getElem?_eq_some_iff.1 hl).1
    refine ⟨c, hIx c pre X W W' hi ho (fun k h => by have := (hx k h).1; omega), (ho.block _ hlt (fun h => by have := (hx _ h).1; omega)).trans hl, (ho.block _ (by omega) (fun h => by have := (hx _ h).1; omega)).trans hk, fun k h => ?_⟩
    rcases hx' k h with h1 | ⟨h1, h2⟩
    · obtain ⟨a1, a2⟩ := hx k h1
      exact ⟨a1, Nat.lt_of_lt_of_le a2 ho.size⟩
    · exact ⟨by omega, h2⟩
  · -- one round
    rintro pre x rest X W hxs ⟨hi, hl, hk, hx⟩
    have hlt : w.heap.size + 1 < W.heap.size := (Array.getElem?_eq_some_iff.1 hl).1
    have hy := run_yield (P := P) (args := encs x) hl (by rw [hrec]; exact hps x)
    rw [hrec] at hy
    refine ⟨fn, _, assign, body, hy, roundIn_of_wpIn hfn (hassign _ x W _ ?_)⟩
    clear hy
    refine ⟨_, run_beginRound hl (by rw [hrec]), ?_⟩
    obtain ⟨W2, hW2⟩ : ∃ W2, W.putObj (w.heap.size + 1) (.loop { rec .ready none with state := .busy }) = W2 := ⟨_, rfl⟩
    rw [hW2]
    have hz2 : W2.heap.size = W.heap.size := by rw [← hW2]; simp
    have hl2 : W2.heap[w.heap.size + 1]? = some (.loop { rec .ready none with state := .busy }) := by rw [← hW2]; exact World.putObj_heap_same (by omega)
    have hk2 : W2.heap[w.heap.size]? = some (.deferred (some [])) := by rw [← hW2]; exact (World.putObj_heap_other (by omega)).trans hk
    have ho2 : OnlyIn (fun k => k = w.heap.size + 1) W W2 := by
      rw [← hW2]; exact OnlyIn.putObj W _ _ rfl
    obtain ⟨hi2, how2⟩ := hI pre _ W W2 hi ho2 (fun k e => ⟨by omega, fun h => by subst e; exact loop_not_cells hl (hOwc pre W _ hi h)⟩)
    refine wpIn_mono (hbody _ pre x rest W2 hxs hi2) ?_
    have nL : ¬ Ow W2 (w.heap.size + 1) := fun h => loop_not_cells hl (hOwc pre W _ hi (how2 _ h))
    have nD : ¬ Ow W2 w.heap.size := fun h => by
      obtain ⟨c, t, f, e⟩ := hOwc pre W _ hi (how2 _ h); rw [hk] at e; cases e
    have fin : ∀ (jump : Option Code) (W3 : World), Turn w.heap.size Pr Ow W2 W3 →
        (Instr.endRound (w.heap.size + 1) jump).run P W3 = .ok (.bool jump.isNone) (W3.putObj (w.heap.size + 1) (.loop (rec (if jump.isNone then .ready else .done) jump))) ∧
        W3.heap[w.heap.size + 1]? = some (.loop { rec .ready none with state := .busy }) ∧
        (W3.putObj (w.heap.size + 1) (.loop (rec (if jump.isNone then .ready else .done) jump))).heap[w.heap.size + 1]? = some (.loop (rec (if jump.isNone then .ready else .done) jump)) ∧
        (W3.putObj (w.heap.size + 1) (.loop (rec (if jump.isNone then .ready else .done) jump))).heap[w.heap.size]? = some (.deferred (some [])) := fun jump W3 ht => by
      have hl3 := (ht.keeps _ (by omega) (by omega) nL).trans hl2
      have := run_endRound (P := P) jump hl3
      rw [hrec] at this ⊢
      exact ⟨this, by rw [hrec] at hl3; exact hl3, World.putObj_heap_same (Array.getElem?_eq_some_iff.1 hl3).1, (World.putObj_heap_other (by omega)).trans ((ht.keeps _ (by omega) (by omega) nD).trans hk2)⟩
    have kept3 : ∀ (W3 : World) (o : Obj), Turn w.heap.size Pr Ow W2 W3 → Kept Pr X W (W3.putObj (w.heap.size + 1) o) := fun W3 o ht => by
      have hsz := ht.size
      refine ⟨by simp; omega, fun k hkW h => ?_⟩
      rcases h with h | h
      · have hkw := hPr k h
        exact (World.putObj_heap_other (by omega)).trans ((ht.prot k h).trans (ho2.block k hkW (by omega)))
      · obtain ⟨a1, a2, a3'⟩ := hx k h
        exact (World.putObj_heap_other (by omega)).trans ((ht.keeps k (by omega) (by omega) (fun h => a3' (how2 k h))).trans (ho2.block k hkW (by omega)))
    have leaves : ∀ (c : Code) (W3 : World), Turn w.heap.size Pr Ow W2 W3 → Ix c (pre ++ [x]) W3 → ∃ v w', (Instr.endRound (w.heap.size + 1) (some c)).run P W3 = .ok v w' ∧
        (((Ending.returned v : Ending) = .returned (.bool true) ∧ (I (pre ++ [x]) w' ∧ w'.heap[w.heap.size + 1]? = some (.loop (rec .ready none)) ∧ w'.heap[w.heap.size]? = some (.deferred (some [])) ∧ ∀ k, X k → w.heap.size + 2 ≤ k ∧ k < w'.heap.size ∧ ¬ Ow w' k) ∧ Kept Pr X W w') ∨
          ((Ending.returned v : Ending) = .returned (.bool false) ∧ (∃ c, Ix c (pre ++ [x]) w' ∧ w'.heap[w.heap.size + 1]? = some (.loop (rec .done (some c))) ∧ w'.heap[w.heap.size]? = some (.deferred (some [])) ∧ (∀ k, X k → w.heap.size + 2 ≤ k ∧ k < w'.heap.size)) ∧ Kept Pr X W w')) := fun c W3 ht hc => by
      obtain ⟨hr, hl3, hl4, hk4⟩ := fin (some c) W3 ht
      refine ⟨_, _, hr, .inr ⟨rfl, ⟨c, hIx c _ _ W3 _ hc (OnlyIn.putObj (X := fun k => k = w.heap.size + 1) W3 _ _ rfl) (fun k e => by omega), hl4, hk4, fun k h => ?_⟩, kept3 W3 _ ht⟩⟩
      have := hx k h
      have := ht.size
      exact ⟨by omega, by simp; omega⟩
    rintro e a3 W3 hp
    cases e with
    | normal =>
      obtain ⟨ht, hi3⟩ := hp
      obtain ⟨hr, hl3, hl4, hk4⟩ := fin none W3 ht
      obtain ⟨hi4, how4⟩ := hI _ _ W3 (W3.putObj (w.heap.size + 1) (.loop (rec (if (none : Option Code).isNone then .ready else .done) none))) hi3 (OnlyIn.putObj (X := fun k => k = w.heap.size + 1) W3 _ _ rfl) (fun k e => ⟨by omega, fun h => by subst e; exact loop_not_cells hl3 (hOwc _ W3 _ hi3 h)⟩)
      have hsz := ht.size
      refine ⟨_, _, hr, .inl ⟨rfl, ⟨hi4, hl4, hk4, fun k h => ?_⟩, kept3 W3 _ ht⟩⟩
      obtain ⟨a1, a2, a3'⟩ := hx k h
      exact ⟨a1, by simp; omega, fun h4 => a3' (how2 k (ht.owns k (by omega) (how4 k h4)))⟩
    | ret => exact leaves .ret W3 hp.1 hp.2
    | exit id => exact leaves (.exit id) W3 hp.1 hp.2
    | goto t => exact leaves (.goto t) W3 hp.1 hp.2
    | panic ch => exact hp.elim
    | outgrown => exact hp.elim
  · -- behind the iterator
    rintro e W2 ⟨⟨v, rfl⟩, (⟨X, hi, hl, hk, hx⟩ | ⟨pre, X, c, hi, hl, hk, hx⟩)⟩
    · refine ⟨none, _, by have := run_endLoop (P := P) hl (by rw [hrec]; simp); rw [hrec] at this; exact this, ?_⟩
      exact hdone _ _ (Nat.le_refl _) (hI _ _ W2 _ hi (OnlyIn.putObj (X := fun k => k = w.heap.size + 1) W2 _ _ rfl) (fun k e => ⟨by omega, fun h => by subst e; exact loop_not_cells hl (hOwc _ W2 _ hi h)⟩)).1 ((World.putObj_heap_other (by omega)).trans hk)
    · refine ⟨some c, _, by have := run_endLoop (P := P) hl (by rw [hrec]; simp); rw [hrec] at this; exact this, ?_⟩
      exact hstop _ c pre _ (Nat.le_refl _) (hIx c _ _ W2 _ hi (OnlyIn.putObj (X := fun k => k = w.heap.size + 1) W2 _ _ rfl) (fun k e => by omega)) ((World.putObj_heap_other (by omega)).trans hk)
/-- THE STATEMENT leaves in its first round. -/
theorem rf_some {P : Program} {n : Nat} {α : Type} {g : Operand} {ps : Array Tmp} {assign body : Code} {Q : Exit → Act → World → Prop} {a : Act} {w : World}
    {gf : Nat} {lb : Array Value} (hg : a.eval g = .func (.func gf) #[] lb) (eg : ∀ args w, (callFunc gf args).run P w = .ok (.enter gf args) w)
    {encs : α → Array Value} {xs : List α} {Pr : Nat → Prop} (hit : ItC P gf lb encs xs Pr w) (hps : ∀ x, (encs x).size = ps.size) (hPr : ∀ k, Pr k → k < w.heap.size)
    (w0 : World) (bs bsR : List (Nat × Obj)) (Xr : Nat → Prop) (upd : α → List (Nat × Value))
    (hbs : ∀ q ∈ bs, q.1 < w.heap.size) (hbsR : ∀ q ∈ bsR, q.1 < w.heap.size) (hXr : ∀ k, Xr k → k < w.heap.size ∧ ¬ Pr k) (h0 : Held w0 bs w)
    (hassign : ∀ (l : Nat) (x : α) (W : World) (K : Act → World → Prop), K { tmps := putAll a.tmps (upd x), defers := [] } W →
      assign.wpIn (Fence.wide.inRound l) 9 P (Exit.then K (fun _ _ _ => False)) { tmps := (ps.zip (encs x)).foldl (fun t (p, v) => t.setIfInBounds p v) a.tmps, defers := [] } W)
    (hbody : ∀ (l : Nat) (x : α) (W : World), Held w0 bs W → w.heap.size ≤ W.heap.size →
      body.wpIn (Fence.wide.inRound l) 9 P (fun e _ W' => e = .ret ∧ OnlyIn Xr W W' ∧ Held w0 bsR W') { tmps := putAll a.tmps (upd x), defers := [] } W)
    (hdone : ∀ (D : Nat) (W : World), w.heap.size ≤ D → Held w0 bs W → xs = [] → W.heap[D]? = some (.deferred (some [])) → Q .normal { a with defers := { target := .collected D, args := #[] } :: a.defers } W)
    (hstop : ∀ (D : Nat) (W : World), w.heap.size ≤ D → xs ≠ [] → Held w0 bsR W → W.heap[D]? = some (.deferred (some [])) → Code.ret.wpIn Fence.wide n P Q { a with defers := { target := .collected D, args := #[] } :: a.defers } W) :
    (Code.rangeFunc g ps assign body).wpIn Fence.wide n P Q a w := by
  refine rf_law0 hg eg hit hps hPr (fun pre W => Held w0 bs W ∧ pre = [] ∧ w.heap.size ≤ W.heap.size)
    (fun c pre W => c = .ret ∧ xs ≠ [] ∧ Held w0 bsR W) (fun _ _ => False) (fun x => { tmps := putAll a.tmps (upd x), defers := [] }) (fun _ _ _ _ h => h.elim) ?_ ?_
    ⟨h0, rfl, Nat.le_refl _⟩ hassign ?_ ?_ ?_
  · rintro pre X W W' ⟨h1, h2, h3⟩ ho hX
    exact ⟨⟨h1.only ho (hs := w.heap.size) (fun k h => (hX k h).1) h0.below.size hbs, h2, Nat.le_trans h3 ho.size⟩, fun k h => h.elim⟩
  · rintro c pre X W W' ⟨hc, h1, h4⟩ ho hX
    exact ⟨hc, h1, h4.only ho (hs := w.heap.size) hX h0.below.size hbsR⟩
  · rintro l pre x rest W hsp ⟨h1, h2, h3⟩
    refine wpIn_mono (hbody l x W h1 h3) ?_
    rintro e a' W' ⟨rfl, ho, hh⟩
    exact ⟨Turn.of ho hXr (fun k hk => Nat.lt_of_lt_of_le (hPr k hk) h3), rfl, by rw [hsp]; simp, hh⟩
  · rintro D W hD ⟨h1, h2, -⟩ hd
    exact hdone D W hD h1 h2 hd
  · rintro D c pre W hD ⟨rfl, h1, h4⟩ hd
    exact hstop D W hD h1 h4 hd
end Go.Proofs.YtnhacghjoikgpaaGreatDoor

/- A statement that ranges over a function, whose rounds write known blocks of the caller's. For any program. -/
namespace Go.Proofs.YtnhacghjoikgpaaGreatDoor
set_option linter.unusedSimpArgs false
set_option linter.unusedVariables false
open Go Go.RowKit

theorem rf_state {P : Program} {n : Nat} {α : Type} {g : Operand} {ps : Array Tmp} {assign body : Code} {Q : Exit → Act → World → Prop} {a : Act} {w : World}
    {gf : Nat} {lb : Array Value} (hg : a.eval g = .func (.func gf) #[] lb) (eg : ∀ args w, (callFunc gf args).run P w = .ok (.enter gf args) w)
    {encs : α → Array Value} {xs : List α} {Pr : Nat → Prop} (hit : ItC P gf lb encs xs Pr w) (hps : ∀ x, (encs x).size = ps.size) (hPr : ∀ k, Pr k → k < w.heap.size)
    (I : List α → World → Prop) (Xr : Nat → Prop) (upd : α → List (Nat × Value))
    (hXr : ∀ k, Xr k → k < w.heap.size ∧ ¬ Pr k)
    (hI : ∀ pre (X : Nat → Prop) W W', I pre W → OnlyIn X W W' → (∀ k, X k → w.heap.size ≤ k) → I pre W') (hIs : ∀ pre W, I pre W → w.heap.size ≤ W.heap.size)
    (h0 : I [] w)
    (hassign : ∀ (l : Nat) (x : α) (W : World) (K : Act → World → Prop), K { tmps := putAll a.tmps (upd x), defers := [] } W →
      assign.wpIn (Fence.wide.inRound l) 9 P (Exit.then K (fun _ _ _ => False)) { tmps := (ps.zip (encs x)).foldl (fun t (p, v) => t.setIfInBounds p v) a.tmps, defers := [] } W)
    (hbody : ∀ (l : Nat) (pre : List α) (x : α) (rest : List α) (W : World), xs = pre ++ x :: rest → I pre W →
      body.wpIn (Fence.wide.inRound l) 9 P (fun e _ W' => e = .normal ∧ OnlyIn Xr W W' ∧ I (pre ++ [x]) W') { tmps := putAll a.tmps (upd x), defers := [] } W)
    (hdone : ∀ (D : Nat) (W : World), w.heap.size ≤ D → I xs W → W.heap[D]? = some (.deferred (some [])) → Q .normal { a with defers := { target := .collected D, args := #[] } :: a.defers } W) :
    (Code.rangeFunc g ps assign body).wpIn Fence.wide n P Q a w := by
  refine rf_law0 hg eg hit hps hPr I (fun _ _ _ => False) (fun _ _ => False) (fun x => { tmps := putAll a.tmps (upd x), defers := [] }) (fun _ _ _ _ h => h.elim) ?_ ?_ h0 hassign ?_ hdone ?_
  · intro pre X W W' h1 ho hX
    exact ⟨hI pre X W W' h1 ho (fun k hk => (hX k hk).1), fun _ h => h.elim⟩
  · intro c pre X W W' h1
    exact h1.elim
  · intro l pre x rest W hsp h1
    refine wpIn_mono (hbody l pre x rest W hsp h1) ?_
    rintro e a' W' ⟨rfl, ho, hh⟩
    exact ⟨Turn.of ho hXr (fun k hk => Nat.lt_of_lt_of_le (hPr k hk) (hIs pre W h1)), hh⟩
  · intro D c pre W _ h1
    exact h1.elim
theorem drop_at7 {α : Type} {xs : List α} {k : Nat} {x : α} (hk : xs[k]? = some x) : xs.drop k = x :: xs.drop (k + 1) := by
  have hl := (List.getElem?_eq_some_iff.1 hk).1
  rw [List.drop_eq_getElem_cons hl]; congr 1; exact Option.some.inj ((List.getElem?_eq_getElem hl).symm.trans hk)
/-- An iterator over what is made of things, as one over the things. -/
theorem itc_map {α β : Type} {P : Program} {gf : Nat} {lb : Array Value} {encs : α → Array Value} {f : β → α} {ys : List β} {Pr : Nat → Prop} {w₀ : World} (h : ItC P gf lb encs (ys.map f) Pr w₀) : ItC P gf lb (fun y => encs (f y)) ys Pr w₀ := by
  intro l J Jx W hsz hpr hJ hJx hY h0
  have key := h l (fun pre X W => J (ys.take pre.length) X W) (fun pre X W => Jx (ys.take pre.length) X W) W hsz hpr (fun pre X X' W W' a b c => hJ _ _ _ _ _ a b c) (fun pre X X' W W' a b c => hJx _ _ _ _ _ a b c) ?_ (by simpa using h0)
  · refine key.mono ?_
    rintro e w' ⟨hv, h⟩
    refine ⟨hv, h.imp (fun ⟨X, k⟩ => ⟨X, ?_⟩) (fun ⟨pre, X, k⟩ => ⟨_, X, k⟩)⟩
    simpa using k
  · intro pre x rest X W1 hsp hj
    have hl : pre.length < ys.length := by
      have := congrArg List.length hsp
      simp only [List.length_map, List.length_append, List.length_cons] at this
      omega
    obtain ⟨y, hy⟩ : ∃ y, ys[pre.length]? = some y := ⟨_, List.getElem?_eq_getElem hl⟩
    have hfx : f y = x := by
      have h1 : (ys.map f)[pre.length]? = (pre ++ x :: rest)[pre.length]? := by rw [hsp]
      rw [List.getElem?_map, hy] at h1
      simpa using h1
    have h2 := hY (ys.take pre.length) y (ys.drop (pre.length + 1)) X W1 (by rw [← drop_at7 hy, List.take_append_drop]) hj
    have e : ys.take (pre ++ [x]).length = ys.take pre.length ++ [y] := by
      rw [List.length_append, List.length_singleton, List.take_add_one, hy]; rfl
    rw [e, ← hfx]
    exact h2
end Go.Proofs.YtnhacghjoikgpaaGreatDoor

/- What all things have, and what some has: Sure, over functions. -/
namespace Go.Proofs.YtnhacghjoikgpaaGreatDoor
set_option linter.unusedSimpArgs false
set_option linter.unusedVariables false
open Go Go.RowKit Go.Sort Go.BigFrame
attribute [local go_sem] Oper.semAt_some putAll

/-- Of how many things a number is had. -/
def cntN {α : Type} (H : α → Nat → Bool) (pre : List α) (n : Nat) : Nat := (pre.filter fun v => H v n).length
def cntL {α : Type} (H : α → Nat → Bool) (pre : List α) (x : α) (many k : Nat) : List Value := (List.range many).map fun n => Value.int .i64 ((if n < k then cntN H (pre ++ [x]) n else cntN H pre n : Nat) : Int)
def cntB {α : Type} (H : α → Nat → Bool) (pre : List α) (many : Nat) : List Value := (List.range many).map fun n => Value.int .i64 ((cntN H pre n : Nat) : Int)
theorem cnt_le {α : Type} (H : α → Nat → Bool) (pre : List α) (n : Nat) : cntN H pre n ≤ pre.length := List.length_filter_le _ _
theorem cntL_zero {α : Type} (H : α → Nat → Bool) (pre : List α) (x : α) (many : Nat) : cntL H pre x many 0 = cntB H pre many := by unfold cntL cntB; simp
theorem cntL_all {α : Type} (H : α → Nat → Bool) (pre : List α) (x : α) (many : Nat) : cntL H pre x many many = cntB H (pre ++ [x]) many := by
  unfold cntL cntB
  refine List.map_congr_left fun n hn => ?_
  rw [if_pos (List.mem_range.1 hn)]
theorem cntL_at {α : Type} {H : α → Nat → Bool} {pre : List α} {x : α} {many k : Nat} (h : k < many) : (cntL H pre x many k)[k]? = some (.int .i64 (cntN H pre k : Nat)) := by
  unfold cntL
  rw [List.getElem?_map, List.getElem?_range h]
  simp
theorem cntB_at {α : Type} {H : α → Nat → Bool} {pre : List α} {many k : Nat} (h : k < many) : (cntB H pre many)[k]? = some (.int .i64 (cntN H pre k : Nat)) := by
  unfold cntB
  rw [List.getElem?_map, List.getElem?_range h]
  rfl
theorem cnt_next {α : Type} {H : α → Nat → Bool} {pre : List α} {x : α} {k : Nat} : cntN H (pre ++ [x]) k = cntN H pre k + (if H x k then 1 else 0) := by
  unfold cntN
  rw [List.filter_append, List.length_append]
  cases h : H x k <;> simp [h]
theorem cntL_no {α : Type} {H : α → Nat → Bool} {pre : List α} {x : α} {many k : Nat} (h : H x k = false) : cntL H pre x many (k + 1) = cntL H pre x many k := by
  unfold cntL
  refine List.map_congr_left fun n hn => ?_
  by_cases e : n = k
  · subst e
    rw [if_pos (by omega), if_neg (by omega), cnt_next, h]
    rfl
  · by_cases e2 : n < k
    · rw [if_pos (by omega), if_pos e2]
    · rw [if_neg (by omega), if_neg e2]
theorem cntL_yes {α : Type} {H : α → Nat → Bool} {pre : List α} {x : α} {many k : Nat} (hk : k < many) (h : H x k = true) : (cntL H pre x many k).set k (.int .i64 ((cntN H pre k : Nat) + 1)) = cntL H pre x many (k + 1) := by
  refine List.ext_getElem? fun n => ?_
  unfold cntL
  rw [List.getElem?_set]
  by_cases e : k = n
  · subst e
    simp only [List.length_map, List.length_range, hk, if_true, List.getElem?_map, List.getElem?_range hk, Option.map_some]
    rw [if_pos (by omega), cnt_next, h]
    rfl
  · rw [if_neg e, List.getElem?_map, List.getElem?_map]
    by_cases hn : n < many
    · rw [List.getElem?_range hn, Option.map_some, Option.map_some]
      by_cases e2 : n < k
      · rw [if_pos e2, if_pos (by omega)]
      · rw [if_neg e2, if_neg (by omega)]
    · rw [List.getElem?_eq_none (by simp; omega), Option.map_none, Option.map_none]
theorem cnt_all {α : Type} (H : α → Nat → Bool) (vs : List α) (n : Nat) : decide (cntN H vs n = vs.length) = vs.all fun v => H v n := by
  unfold cntN
  rw [Bool.eq_iff_iff, decide_eq_true_iff, List.length_filter_eq_length_iff, List.all_eq_true]
theorem cnt_any {α : Type} (H : α → Nat → Bool) (vs : List α) (n : Nat) : decide (0 < cntN H vs n) = vs.any fun v => H v n := by
  unfold cntN
  rw [Bool.eq_iff_iff, decide_eq_true_iff, List.length_pos_iff, List.any_eq_true]
  constructor
  · intro h
    obtain ⟨x, hx⟩ := List.exists_mem_of_ne_nil _ h
    exact ⟨x, (List.mem_filter.1 hx).1, (List.mem_filter.1 hx).2⟩
  · rintro ⟨x, h1, h2⟩
    exact List.ne_nil_of_mem (List.mem_filter.2 ⟨h1, h2⟩)
theorem elemFn : ∃ i z, Tryz.prog.info? 135 = some i ∧ i.zero = some z ∧ i.size = 1 ∧ i.bytes = 8 ∧ z.cells.size = 1 := by
  have h : (Tryz.prog.info? 135).map (fun i => (i.zero.map (fun z => z.cells.size), i.size, i.bytes)) = some (some 1, 1, 8) := by kernel_rfl
  cases hi : Tryz.prog.info? 135 with
  | none => rw [hi] at h; cases h
  | some i =>
    rw [hi] at h
    simp only [Option.map_some, Option.some.injEq, Prod.mk.injEq] at h
    obtain ⟨h1, h2, h3⟩ := h
    cases hz : i.zero with
    | none => rw [hz] at h1; cases h1
    | some z =>
      rw [hz] at h1
      simp only [Option.map_some, Option.some.injEq] at h1
      exact ⟨i, z, rfl, hz, h2, h3, h1⟩
/-- The first of Sure's closures: do all things have a number? -/
theorem sureAll_any (g ab gc many z n : Nat) (c : Int) (xs : List Value) (t : TypeId) (w : World) (h1 : w.heap[g]? = some (.cells #[.slice (some ⟨gc, 0, none⟩) many many] 36 (0, 0))) (h2 : w.heap[gc]? = some (.cells xs.toArray t (0, 0))) (hn : n < many)
    (hx : xs[n]? = some (.int .i64 z)) (h3 : w.heap[ab]? = some (.cells #[.int .i64 c] 3 (0, 0))) (A : Bool) (hA : ((z : Int) == c) = A) :
    Calls Tryz.prog 100 #[.int .i64 n, .pointer (some ⟨g, 0, none⟩), .pointer (some ⟨ab, 0, none⟩)] w fun e w' => e = .returned (.bool A) ∧ Below w.heap.size w w' := by
  have c0 := blk_cell h1 0
  have c1 : w.cell? ⟨gc, n, none⟩ = some (.int .i64 z) := (blk_cell h2 n).trans (by simpa using hx)
  have c2 := blk_cell h3 0
  clear h1 h2 h3 hx
  go_enter Tryz.func100, Tryz.ntmps100
  go_wp2_with fail
  cases A with
  | true =>
    go_quiet (fail)
    go_wp2_with fail
    go_ret
    exact ⟨rfl, bdrewN (Below.refl _ _) _⟩
  | false =>
    go_quiet (fail)
    go_wp2_with fail
    go_ret
    exact ⟨rfl, bdrewN (Below.refl _ _) _⟩
/-- The second one: does some thing have a number? -/
theorem sureSome_any (g gc many z n : Nat) (xs : List Value) (t : TypeId) (w : World) (h1 : w.heap[g]? = some (.cells #[.slice (some ⟨gc, 0, none⟩) many many] 36 (0, 0))) (h2 : w.heap[gc]? = some (.cells xs.toArray t (0, 0))) (hn : n < many)
    (hx : xs[n]? = some (.int .i64 z)) :
    Calls Tryz.prog 101 #[.int .i64 n, .pointer (some ⟨g, 0, none⟩)] w fun e w' => e = .returned (.bool (decide (0 < z))) ∧ Below w.heap.size w w' := by
  have c0 := blk_cell h1 0
  have c1 : w.cell? ⟨gc, n, none⟩ = some (.int .i64 z) := (blk_cell h2 n).trans (by simpa using hx)
  clear h1 h2 hx
  go_enter Tryz.func101, Tryz.ntmps101
  go_wp2_with fail
  go_ret
  exact ⟨by simp, Below.refl _ _⟩
end Go.Proofs.YtnhacghjoikgpaaGreatDoor

/- Check of what is seen of a gathering. -/
namespace Go.Proofs.YtnhacghjoikgpaaGreatDoor
set_option linter.unusedSimpArgs false
set_option linter.unusedVariables false
open Go Go.RowKit Go.Sort Go.BigFrame

theorem checkK_is (p : Prs) (b : Bok) : checkK p b = if errP p ≠ 0 then (0, 0, errP p)
  else if inI 1 64 b.leaves = false then (1, 0, 7)
  else if inI 0 2 b.chain = false then (2, 0, 2)
  else if spansErr 0 2000 b.wlo b.whi b.hlo b.hhi ≠ 0 then (3, 0, spansErr 0 2000 b.wlo b.whi b.hlo b.hhi)
  else if (marksR 0 8 b.leaves b.marks).2 ≠ 0 then (4, (marksR 0 8 b.leaves b.marks).1, (marksR 0 8 b.leaves b.marks).2) else (0, 0, 0) := by
  have key : ∀ (l : List (Int × Bool)) (k : Nat), (marksErr b.leaves k l).2 = 0 ∨ (marksErr b.leaves k l).2 = 4 := by
    intro l
    induction l with
    | nil => intro k; exact Or.inl rfl
    | cons m l ih =>
      intro k
      unfold marksErr
      split
      · exact ih _
      · exact Or.inr rfl
  unfold checkK marksR
  cases inI 0 8 b.marks.length
  · simp
  · rcases key b.marks 0 with h | h <;> simp [h]

set_option maxRecDepth 100000 in
set_option maxHeartbeats 2000000 in
theorem foldCheckBook_any (p : Prs) (b : Bok) (vp vb : Value) (w : World) (hp : PrsAt w.heap.size w vp p) (hb : BokAt w.heap.size w vb b) :
    Calls Tryz.prog 57 #[vp, vb] w fun e w' => e = .returned (.tuple #[.int .i64 ((checkK p b).1 : Nat), .int .i64 ((checkK p b).2.1 : Nat), .int .i64 (checkK p b).2.2]) ∧ Below w.heap.size w w' := by
  have HP := Lib.hid hp
  obtain ⟨fv, pv, rfl, ⟨a, cap, rfl, -⟩, ⟨a2, cap2, rfl, -⟩, -⟩ := hp
  obtain ⟨n1, hn1⟩ : ∃ n, n = p.fmts.length := ⟨_, rfl⟩
  obtain ⟨n2, hn2⟩ : ∃ n, n = p.pprs.length := ⟨_, rfl⟩
  rw [← hn1, ← hn2] at HP ⊢
  clear hn1 hn2
  obtain ⟨mv, rfl, hm⟩ := hb
  have HM := Lib.hid hm
  clear hm
  obtain ⟨⟨r1, r2, r3⟩, hr⟩ : ∃ r, r = checkK p b := ⟨_, rfl⟩
  rw [← hr]
  obtain ⟨ep, hep⟩ : ∃ ep, ep = errP p := ⟨_, rfl⟩
  obtain ⟨es, hes⟩ : ∃ es, es = spansErr 0 2000 b.wlo b.whi b.hlo b.hhi := ⟨_, rfl⟩
  obtain ⟨⟨m1, m2⟩, hmm⟩ : ∃ m, m = marksR 0 8 b.leaves b.marks := ⟨_, rfl⟩
  have HR : Hid ((r1, r2, r3) = if ep ≠ 0 then (0, 0, ep) else if inI 1 64 b.leaves = false then (1, 0, 7) else if inI 0 2 b.chain = false then (2, 0, 2) else if es ≠ 0 then (3, 0, es) else if m2 ≠ 0 then (4, m1, m2) else (0, 0, 0)) := Lib.hid (by
    rw [hr, checkK_is, ← hep, ← hes, ← hmm])
  have HEP := Lib.hid hep
  have HES := Lib.hid hes
  have HMM := Lib.hid hmm
  clear hr hep hes hmm
  dsimp only
  go_enter Tryz.func57, Tryz.ntmps57
  go_wp2_with fail
  have hb0 : Below w.heap.size w ((w.alloc (.cells #[.slice a n1 cap, .slice a2 n2 cap2, .int .i64 p.trim, .int .i64 p.sheets] 25)).alloc (.cells #[.int .i64 b.leaves, .int .i64 b.chain, .int .i64 b.wlo, .int .i64 b.whi, .int .i64 b.hlo, .int .i64 b.hhi, mv] 30)) := by exact (by repeat (first | exact Below.refl _ _ | assumption | (refine Below.alloc ?_ ?_ _; rotate_left; · (first | omega | (simp; done) | (simp; omega) | fail)) | (refine Below.setCell ?_ ?_ _; rotate_left; · (first | omega | (simp; done) | (simp; omega) | fail)) | refine Below.drew ?_ | fail))
  have b2 : ((w.alloc (.cells #[.slice a n1 cap, .slice a2 n2 cap2, .int .i64 p.trim, .int .i64 p.sheets] 25)).alloc (.cells #[.int .i64 b.leaves, .int .i64 b.chain, .int .i64 b.wlo, .int .i64 b.whi, .int .i64 b.hlo, .int .i64 b.hhi, mv] 30)).heap[w.heap.size + 1]? = some (.cells #[.int .i64 b.leaves, .int .i64 b.chain, .int .i64 b.wlo, .int .i64 b.whi, .int .i64 b.hlo, .int .i64 b.hhi, mv] 30) := (by repeat (first | exact heap_alloc_at _ _ _ (by (first | omega | (simp; done) | (simp; omega) | (simp at *; omega) | fail)) | assumption | rw [heap_alloc_past _ _ _ (by (first | omega | (simp; done) | (simp; omega) | (simp at *; omega) | fail))] | rw [heap_setCell_past _ _ _ _ (by (first | omega | (simp; done) | (simp; omega) | (simp at *; omega) | fail))] | fail))
  revert hb0 b2
  generalize ((w.alloc (.cells #[.slice a n1 cap, .slice a2 n2 cap2, .int .i64 p.trim, .int .i64 p.sheets] 25)).alloc (.cells #[.int .i64 b.leaves, .int .i64 b.chain, .int .i64 b.wlo, .int .i64 b.whi, .int .i64 b.hlo, .int .i64 b.hhi, mv] 30)) = w1
  intro hb0 b2
  refine (foldOpen_any p _ _ (HP.out.later hb0)).mono ?_
  rintro e w2 ⟨rfl, hb2⟩
  rw [← HEP.out]
  have b2 := blk_later hb2 b2
  have hb3 := hb0.trans (hb2.mono hb0.size)
  have hz := blk_lt b2
  clear hb0 hb2
  by_cases h0 : ep = 0
  · have HO : Hid (openP p (.agg #[.slice a n1 cap, .slice a2 n2 cap2, .int .i64 p.trim, .int .i64 p.sheets]) = .agg #[.slice a n1 cap, .slice a2 n2 cap2, .int .i64 p.trim, .int .i64 p.sheets]) := Lib.hid (by unfold openP; rw [if_pos (HEP.out.symm.trans h0)])
    rw [HO.out]
    have HR1 : Hid ((r1, r2, r3) = if inI 1 64 b.leaves = false then (1, 0, 7) else if inI 0 2 b.chain = false then (2, 0, 2) else if es ≠ 0 then (3, 0, es) else if m2 ≠ 0 then (4, m1, m2) else (0, 0, 0)) := Lib.hid (by rw [HR.out, if_neg (by rw [h0]; decide)])
    clear HO HR HEP
    subst h0
    have b3 : (w2.alloc (.cells #[.slice a n1 cap, .slice a2 n2 cap2, .int .i64 p.trim, .int .i64 p.sheets] 122)).heap[w.heap.size + 1]? = some (.cells #[.int .i64 b.leaves, .int .i64 b.chain, .int .i64 b.wlo, .int .i64 b.whi, .int .i64 b.hlo, .int .i64 b.hhi, mv] 30) := (heap_alloc_past _ _ _ hz).trans b2
    have e0 := blk_cell b3 0
    have e1 := blk_cell b3 1
    have e2 := blk_cell b3 2
    have e3 := blk_cell b3 3
    have e4 := blk_cell b3 4
    have e5 := blk_cell b3 5
    have e6 := blk_cell b3 6
    go_wp2_with fail
    refine (within_one 1 64 b.leaves _ _ (by simp [World.cell?_alloc_at])).mono ?_
    rintro e w3 ⟨rfl, hw⟩
    have hbb : Below w2.heap.size w2 w3 := by rw [← hw]; exact (by repeat (first | exact Below.refl _ _ | assumption | (refine Below.alloc ?_ ?_ _; rotate_left; · (first | omega | (simp; done) | (simp; omega) | fail)) | (refine Below.setCell ?_ ?_ _; rotate_left; · (first | omega | (simp; done) | (simp; omega) | fail)) | refine Below.drew ?_ | fail))
    clear hw e0 e1 e2 e3 e4 e5 e6 b3
    have b2 := blk_later hbb b2
    have hb3 := hb3.trans (hbb.mono hb3.size)
    have hz := blk_lt b2
    clear hbb
    cases h1 : inB 1 64 b.leaves with
    | false =>
      have HR2 : Hid (r1 = 1 ∧ r2 = 0 ∧ r3 = 7) := Lib.hid (by have := HR1.out; rw [inI_inB, h1] at this; simpa using this)
      clear HR1
      go_wp2_with fail
      go_ret3
      exact ⟨by rw [HR2.out.1, HR2.out.2.1, HR2.out.2.2]; rfl, hb3⟩
    | true =>
      have HR2 : Hid ((r1, r2, r3) = if inI 0 2 b.chain = false then (2, 0, 2) else if es ≠ 0 then (3, 0, es) else if m2 ≠ 0 then (4, m1, m2) else (0, 0, 0)) := Lib.hid (by rw [HR1.out, if_neg (by rw [inI_inB, h1]; decide)])
      clear HR1
      have e0 := blk_cell b2 0
      have e1 := blk_cell b2 1
      have e2 := blk_cell b2 2
      have e3 := blk_cell b2 3
      have e4 := blk_cell b2 4
      have e5 := blk_cell b2 5
      have e6 := blk_cell b2 6
      go_wp2_with fail
      refine (within_one 0 2 b.chain _ _ (by simp [World.cell?_alloc_at])).mono ?_
      rintro e w4 ⟨rfl, hw⟩
      have hbb : Below w3.heap.size w3 w4 := by rw [← hw]; exact (by repeat (first | exact Below.refl _ _ | assumption | (refine Below.alloc ?_ ?_ _; rotate_left; · (first | omega | (simp; done) | (simp; omega) | fail)) | (refine Below.setCell ?_ ?_ _; rotate_left; · (first | omega | (simp; done) | (simp; omega) | fail)) | refine Below.drew ?_ | fail))
      clear hw e0 e1 e2 e3 e4 e5 e6
      have b2 := blk_later hbb b2
      have hb3 := hb3.trans (hbb.mono hb3.size)
      have hz := blk_lt b2
      clear hbb
      cases h2 : inB 0 2 b.chain with
      | false =>
        have HR2 : Hid (r1 = 2 ∧ r2 = 0 ∧ r3 = 2) := Lib.hid (by have := HR2.out; rw [inI_inB, h2] at this; simpa using this)
        go_wp2_with fail
        go_ret3
        exact ⟨by rw [HR2.out.1, HR2.out.2.1, HR2.out.2.2]; rfl, hb3⟩
      | true =>
        have HR3 : Hid ((r1, r2, r3) = if es ≠ 0 then (3, 0, es) else if m2 ≠ 0 then (4, m1, m2) else (0, 0, 0)) := Lib.hid (by rw [HR2.out, if_neg (by rw [inI_inB, h2]; decide)])
        clear HR2
        have e0 := blk_cell b2 0
        have e1 := blk_cell b2 1
        have e2 := blk_cell b2 2
        have e3 := blk_cell b2 3
        have e4 := blk_cell b2 4
        have e5 := blk_cell b2 5
        have e6 := blk_cell b2 6
        go_wp2_with fail
        refine (spans_two 0 2000 b.wlo b.whi b.hlo b.hhi _ _ (by simp [World.cell?_alloc_at]) (by simp [World.cell?_alloc_at]) (by simp [World.cell?_alloc_at]) (by simp [World.cell?_alloc_at])).mono ?_
        rintro e w5 ⟨rfl, hw⟩
        rw [← HES.out]
        have hbb : Below w4.heap.size w4 w5 := ((Below.refl _ _).alloc (Nat.le_refl _) _).trans (hw.mono (by simp))
        clear hw e0 e1 e2 e3 e4 e5 e6
        have b2 := blk_later hbb b2
        have hb3 := hb3.trans (hbb.mono hb3.size)
        have hz := blk_lt b2
        clear hbb
        by_cases h3 : es = 0
        · have HR4 : Hid ((r1, r2, r3) = if m2 ≠ 0 then (4, m1, m2) else (0, 0, 0)) := Lib.hid (by rw [HR3.out, if_neg (by rw [h3]; decide)])
          clear HR3 HES
          subst h3
          go_wp2_with fail
          have hb3 := hb3.drew
          have d0 : w5.drew.cell? ⟨w.heap.size + 1, 0, none⟩ = some (.int .i64 b.leaves) := blk_cell b2 0
          have d6 : w5.drew.cell? ⟨w.heap.size + 1, 6, none⟩ = some mv := blk_cell b2 6
          refine wp_region_held_drew (S := fun u => u.cell? ⟨w.heap.size + 1, 0, none⟩ = some (.int .i64 b.leaves) ∧ u.cell? ⟨w.heap.size + 1, 6, none⟩ = some mv) (by kernel_rfl) ?_ (fun hHeld => ?_)
          · (try dsimp only); go_keep
          refine wpAnyH_take (i := 0) (v := ?_) rfl (by kernel_rfl) (by kernel_rfl) (by kernel_rfl) (fun _ _ _ h => h) (Or.inl ⟨by rfl, ?_⟩) (by assumption) ?_
          rotate_left
          · (intro w hSw; (try dsimp only at hSw); go_simp; (try with_reducible rfl))
          (try simp only [Act.put, List.setIfInBounds_toArray, List.set_cons_zero, List.set_cons_succ])
          refine wpAnyH_take (i := 1) (v := ?_) rfl (by kernel_rfl) (by kernel_rfl) (by kernel_rfl) (fun _ _ _ h => h) (Or.inl ⟨by rfl, ?_⟩) (by assumption) ?_
          rotate_left
          · (intro w hSw; (try dsimp only at hSw); go_simp; (try with_reducible rfl))
          (try simp only [Act.put, List.setIfInBounds_toArray, List.set_cons_zero, List.set_cons_succ])
          refine wpAnyH_take (i := 2) (v := ?_) rfl (by kernel_rfl) (by kernel_rfl) (by kernel_rfl) (fun _ _ _ h => h) (Or.inl ⟨by rfl, ?_⟩) (by assumption) ?_
          rotate_left
          · (intro w hSw; (try dsimp only at hSw); go_simp; (try with_reducible rfl))
          (try simp only [Act.put, List.setIfInBounds_toArray, List.set_cons_zero, List.set_cons_succ])
          refine wpAnyH_take (i := 3) (v := ?_) rfl (by kernel_rfl) (by kernel_rfl) (by kernel_rfl) (fun _ _ _ h => h) (Or.inl ⟨by rfl, ?_⟩) (by assumption) ?_
          rotate_left
          · (intro w hSw; (try dsimp only at hSw); go_simp; (try with_reducible rfl))
          (try simp only [Act.put, List.setIfInBounds_toArray, List.set_cons_zero, List.set_cons_succ])
          refine wpAnyH_ready (rs := [4]) (by kernel_rfl) (by simp) ?_
          refine AllReadyH.cons rfl (fun K hK => ?_) AllReadyH.nil
          go_simp
          clear b2 hz
          revert hb3 d0 d6 hHeld
          generalize w5.drew = w6
          intro hb3 d0 d6 hHeld
          refine (markError_any b.leaves _).mono ?_
          rintro e w7 ⟨⟨n, rfl, hn⟩, hb⟩
          have hz3 := hb3.size
          have hb4 := hb3.trans (hb.mono hz3)
          have d0 := cell_later' hb d0
          have d6 := cell_later' hb d6
          clear hb
          go_simp
          refine hK.out _ _ ?_ (fun hNew => ?_)
          · (try dsimp only); go_keep
          clear hK K hHeld
          have hHeld := hNew
          clear hNew
          (try simp only [Act.put, List.setIfInBounds_toArray, List.set_cons_zero, List.set_cons_succ])
          refine wpAnyH_ready (rs := [5]) (by kernel_rfl) (by simp) ?_
          refine AllReadyH.cons rfl (fun K hK => ?_) AllReadyH.nil
          go_simp
          refine (listM_any 0 8 b.leaves b.marks mv n w.heap.size _ (HM.out.same fun k hk => hb4.block k hk) hb4.size hn (by decide)).mono ?_
          rintro e w8 ⟨rfl, ho⟩
          rw [← HMM.out]
          have hb5 := hb4.trans (ho.mono hb4.size)
          have d0 := cell_later' ho d0
          have d6 := cell_later' ho d6
          clear ho hb4 hb3 hn
          dsimp only
          go_simp
          refine hK.out _ _ ?_ (fun hNew => ?_)
          · (try dsimp only); go_keep
          clear hK K hHeld
          have hHeld := hNew
          clear hNew
          (try simp only [Act.put, List.setIfInBounds_toArray, List.set_cons_zero, List.set_cons_succ])
          refine wpAnyH_take (i := 6) (v := ?_) rfl (by kernel_rfl) (by kernel_rfl) (by kernel_rfl) (fun _ _ _ h => h) (Or.inl ⟨by rfl, ?_⟩) (by assumption) ?_
          rotate_left
          · (intro w hSw; (try dsimp only at hSw); go_simp; (try with_reducible rfl))
          (try simp only [Act.put, List.setIfInBounds_toArray, List.set_cons_zero, List.set_cons_succ])
          refine wpAnyH_take (i := 7) (v := ?_) rfl (by kernel_rfl) (by kernel_rfl) (by kernel_rfl) (fun _ _ _ h => h) (Or.inl ⟨by rfl, ?_⟩) (by assumption) ?_
          rotate_left
          · (intro w hSw; (try dsimp only at hSw); go_simp; (try with_reducible rfl))
          (try simp only [Act.put, List.setIfInBounds_toArray, List.set_cons_zero, List.set_cons_succ])
          refine wpAnyH_take (i := 8) (v := ?_) rfl (by kernel_rfl) (by kernel_rfl) (by kernel_rfl) (fun _ _ _ h => h) (Or.inl ⟨by rfl, ?_⟩) (by assumption) ?_
          rotate_left
          · (intro w hSw; (try dsimp only at hSw); go_simp; (try with_reducible rfl))
          (try simp only [Act.put, List.setIfInBounds_toArray, List.set_cons_zero, List.set_cons_succ])
          refine wpAnyH_take (i := 9) (v := ?_) rfl (by kernel_rfl) (by kernel_rfl) (by kernel_rfl) (fun _ _ _ h => h) (Or.inl ⟨by rfl, ?_⟩) (by assumption) ?_
          rotate_left
          · (intro w hSw; (try dsimp only at hSw); go_simp; (try with_reducible rfl))
          (try simp only [Act.put, List.setIfInBounds_toArray, List.set_cons_zero, List.set_cons_succ])
          refine wpAnyH_take (i := 10) (v := ?_) rfl (by kernel_rfl) (by kernel_rfl) (by kernel_rfl) (fun _ _ _ h => h) (Or.inl ⟨by rfl, ?_⟩) (by assumption) ?_
          rotate_left
          · (intro w hSw; (try dsimp only at hSw); go_simp; (try with_reducible rfl))
          (try simp only [Act.put, List.setIfInBounds_toArray, List.set_cons_zero, List.set_cons_succ])
          refine wpAnyH_done (by kernel_rfl) ?_ _
          clear hHeld
          have hb3 := hb5
          clear hb5
          by_cases h4 : m2 = 0
          · have HR2 : Hid (r1 = 0 ∧ r2 = 0 ∧ r3 = 0) := Lib.hid (by have := HR4.out; rw [if_neg (by rw [h4]; decide)] at this; simpa using this)
            clear HR4 HMM
            subst h4
            go_wp2_with fail
            go_ret3
            exact ⟨by rw [HR2.out.1, HR2.out.2.1, HR2.out.2.2]; rfl, hb3⟩
          · have HR2 : Hid (r1 = 4 ∧ r2 = m1 ∧ r3 = m2) := Lib.hid (by have := HR4.out; rw [if_pos h4] at this; simpa using this)
            have h0b : (m2 != 0) = true := by simp [h4]
            clear h4 HR4 HMM
            go_wp2_with fail
            go_ret3
            exact ⟨by rw [HR2.out.1, HR2.out.2.1, HR2.out.2.2]; rfl, hb3⟩
        · have HR2 : Hid (r1 = 3 ∧ r2 = 0 ∧ r3 = es) := Lib.hid (by have := HR3.out; rw [if_pos h3] at this; simpa using this)
          have h0b : (es != 0) = true := by simp [h3]
          clear h3 HR3
          go_wp2_with fail
          go_ret3
          exact ⟨by rw [HR2.out.1, HR2.out.2.1, HR2.out.2.2]; rfl, hb3⟩
  · have HO : Hid (openP p (.agg #[.slice a n1 cap, .slice a2 n2 cap2, .int .i64 p.trim, .int .i64 p.sheets]) = .agg #[.slice none 0 0, .slice none 0 0, .int .i64 0, .int .i64 0]) := Lib.hid (by unfold openP; rw [if_neg (fun h => h0 (HEP.out.trans h))])
    rw [HO.out]
    have HR1 : Hid (r1 = 0 ∧ r2 = 0 ∧ r3 = ep) := Lib.hid (by have := HR.out; rw [if_pos h0] at this; simpa using this)
    have h0b : (ep != 0) = true := by simp [h0]
    clear h0 HR HEP HO
    go_wp2_with fail
    go_ret3
    exact ⟨by rw [HR1.out.1, HR1.out.2.1, HR1.out.2.2]; rfl, (by repeat (first | (refine Below.setCell ?_ ?_ _; rotate_left; · (first | omega | (simp; done) | (simp; omega) | fail)) | (refine Below.alloc ?_ ?_ _; rotate_left; · (first | omega | (simp; done) | (simp; omega) | fail)) | refine Below.drew ?_ | exact hb3 | fail))⟩
end Go.Proofs.YtnhacghjoikgpaaGreatDoor

/- The reference: Check of a press. -/
namespace Go.Proofs.YtnhacghjoikgpaaGreatDoor
set_option linter.unusedSimpArgs false
set_option linter.unusedVariables false
open Go Go.RowKit Go.Sort Go.BigFrame
attribute [local go_sem] Oper.semAt_some putAll

/-- The names that were met ahead of one. -/
def seenF (xs : List Fmt) (k : Nat) : List Bs := (xs.take k).map Fmt.name
def seenP (xs : List Ppr) (k : Nat) : List Bs := (xs.take k).map Ppr.name
theorem seenF_next {xs : List Fmt} {k : Nat} {x : Fmt} (h : xs[k]? = some x) : seenF xs (k + 1) = seenF xs k ++ [x.name] := by
  unfold seenF; rw [List.take_add_one, h]; simp
theorem seenP_next {xs : List Ppr} {k : Nat} {x : Ppr} (h : xs[k]? = some x) : seenP xs (k + 1) = seenP xs k ++ [x.name] := by
  unfold seenP; rw [List.take_add_one, h]; simp
theorem seenF_len {xs : List Fmt} {k : Nat} (h : k ≤ xs.length) : (seenF xs k).length = k := by unfold seenF; simp; omega
theorem seenP_len {xs : List Ppr} {k : Nat} (h : k ≤ xs.length) : (seenP xs k).length = k := by unfold seenP; simp; omega

theorem both2_is (a b c d lo hi x : Int) (hx : x = spansErr lo hi a b c d) (w : World) :
    Calls Tryz.prog 65 #[.agg #[.int .i64 a, .int .i64 b], .agg #[.int .i64 c, .int .i64 d], .int .i64 lo, .int .i64 hi] w fun e w' => e = .returned (.int .i64 x) ∧ Below w.heap.size w w' := by
  subst hx; exact both_any a b c d lo hi w

set_option maxRecDepth 100000 in
set_option maxHeartbeats 4000000 in
theorem refCheck2_any (p : Prs) (v : Value) (w : World) (hp : PrsAt w.heap.size w v p) :
    Calls Tryz.prog 47 #[v] w fun e w' => e = .returned (.tuple #[.int .i64 ((checkP p).1 : Nat), .int .i64 ((checkP p).2.1 : Nat), .int .i64 (checkP p).2.2]) ∧ Below w.heap.size w w' := by
  obtain ⟨fv, pv, rfl, hf, hq, hs1, hs2⟩ := hp
  have HF := Lib.hid hf
  have HQ := Lib.hid hq
  have HS1 := Lib.hid hs1
  have HS2 := Lib.hid hs2
  obtain ⟨a, cap, rfl, hfc⟩ := hf
  obtain ⟨a2, cap2, rfl, hqc⟩ := hq
  obtain ⟨n1, hn1⟩ : ∃ n, n = p.fmts.length := ⟨_, rfl⟩
  obtain ⟨n2, hn2⟩ : ∃ n, n = p.pprs.length := ⟨_, rfl⟩
  rw [← hn1] at HF ⊢
  rw [← hn2] at HQ ⊢
  have HN1 := Lib.hid hn1
  have HN2 := Lib.hid hn2
  have HFC := Lib.hid hfc
  have HQC := Lib.hid hqc
  clear hs1 hs2 hfc hqc hn1 hn2
  obtain ⟨⟨r1, r2, r3⟩, hr⟩ : ∃ r, r = checkP p := ⟨_, rfl⟩
  rw [← hr]
  obtain ⟨⟨x1, x2⟩, hx⟩ : ∃ x, x = fmtsErr p.fmts := ⟨_, rfl⟩
  obtain ⟨⟨y1, y2⟩, hy⟩ : ∃ y, y = pprsErr p.pprs := ⟨_, rfl⟩
  have HR : Hid ((r1, r2, r3) = if x2 ≠ 0 then (1, x1, x2) else if y2 ≠ 0 then (2, y1, y2) else if (inI 0 60 p.trim && inI 1 4 p.sheets) = false then (3, 0, 7) else (0, 0, 0)) := Lib.hid (by
    rw [hr]; unfold checkP; rw [← hx, ← hy])
  have HX1 : Hid ((x1, x2) = listR 1 6 Fmt.name fmtErr p.fmts) := Lib.hid hx
  have HY1 : Hid ((y1, y2) = listR 1 4 Ppr.name pprErr p.pprs) := Lib.hid hy
  clear hr hx hy
  dsimp only
  go_enter Tryz.func47, Tryz.ntmps47
  go_wp2_with fail
  refine (in2_any _ 1 6 _).mono ?_
  rintro e w1 ⟨rfl, hw⟩
  have hb0 : Below w.heap.size w w1 := by rw [hw]; exact (by repeat (first | exact Below.refl _ _ | assumption | (refine Below.alloc ?_ ?_ _; rotate_left; · (first | omega | (simp; done) | (simp; omega) | fail)) | (refine Below.setCell ?_ ?_ _; rotate_left; · (first | omega | (simp; done) | (simp; omega) | fail)) | refine Below.drew ?_ | fail))
  have b1 : w1.heap[w.heap.size]? = some (.cells #[.slice a n1 cap, .slice a2 n2 cap2, .int .i64 p.trim, .int .i64 p.sheets] 25) := by rw [hw]; exact (by repeat (first | exact heap_alloc_at _ _ _ (by (first | omega | (simp; done) | (simp; omega) | (simp at *; omega) | fail)) | assumption | rw [heap_alloc_past _ _ _ (by (first | omega | (simp; done) | (simp; omega) | (simp at *; omega) | fail))] | rw [heap_setCell_past _ _ _ _ (by (first | omega | (simp; done) | (simp; omega) | (simp at *; omega) | fail))] | fail))
  clear hw
  have HB0 := Lib.hid hb0
  have HBz := HB0
  have hz0 := hb0.size
  obtain ⟨ei, hi1, hi2, hi3, hi4⟩ := elemStr
  have HI := Lib.hid (And.intro hi1 (And.intro hi2 (And.intro hi3 hi4)))
  have HB1 := Lib.hid b1
  clear hi1 hi2 hi3 hi4 hb0
  cases hi : inI 1 6 n1 with
  | false =>
    have HX2 : Hid (r1 = 1 ∧ r2 = 0 ∧ r3 = 3) := Lib.hid (by
      have h1 : (x1, x2) = (0, 3) := by rw [HX1.out]; unfold listR; rw [← HN1.out, if_pos hi]
      have h2 := HR.out
      simp at h1
      rw [h1.1, h1.2] at h2
      simpa using h2)
    clear hi
    go_wp2_with fail
    go_ret3
    exact ⟨by rw [(HX2).out.1, (HX2).out.2.1, (HX2).out.2.2]; rfl, HBz.out⟩
  | true =>
    have HX2 : Hid ((x1, x2) = firstE Fmt.name fmtErr [] 0 p.fmts) := Lib.hid (by rw [HX1.out]; unfold listR; rw [← HN1.out, if_neg (by rw [hi]; decide)])
    have hle1 : n1 ≤ 6 := by simp only [inI, Bool.and_eq_true, decide_eq_true_eq] at hi; omega
    clear hi
    have HR0 : Hid (w1.ownsRow w1.heap.size 9 1 (.slice none 0 0) 0 []) := Lib.hid (World.ownsRow_nil _ _ _ _)
    have HBB : Hid (Below w1.heap.size w1 w1) := Lib.hid (Below.refl _ _)
    have c0 := blk_cell b1 0
    have c1 := blk_cell b1 1
    have c2 := blk_cell b1 2
    have c3 := blk_cell b1 3
    go_wp2_with fail
    go_loopw [5, 6] (fun v i wr => ∃ (k : Nat), k ≤ n1 ∧ i = .int .i64 k ∧ Hid (wr.ownsRow w1.heap.size 9 1 v k ((seenF p.fmts k).map S)) ∧ Hid (Below w1.heap.size w1 wr) ∧ Hid ((x1, x2) = firstE Fmt.name fmtErr (seenF p.fmts k) k (p.fmts.drop k))) (fun _ i _ => n1 - (intOf i).toNat)
    case atStart => exact ⟨0, by omega, rfl, (by have h := HR0.out; show World.ownsRow _ _ _ _ _ _ _; simpa [seenF] using h), HBB, HX2⟩
    case round =>
      clear HR0 HBB c0 c1 c2 c3
      obtain ⟨k, hk, rfl, HRo, HB, HZ⟩ := hrel
      have hb3 := blk_later HB.out HB1.out
      have hzr := HB.out.size
      have c0 := blk_cell hb3 0
      have c1 := blk_cell hb3 1
      have c2 := blk_cell hb3 2
      have c3 := blk_cell hb3 3
      by_cases hlt : k < n1
      · obtain ⟨x, hx⟩ : ∃ x, p.fmts[k]? = some x := ⟨_, List.getElem?_eq_getElem (by have := HN1.out; omega)⟩
        obtain ⟨b', off, rfl, hb', hc⟩ := HFC.out (fun h => by rw [h] at hx; simp at hx)
        have q0 : wr.cell? ⟨b', off + k * 2, none⟩ = some (S x.name) := cell_later' (HB0.out.trans (HB.out.mono hz0)) (by have := hc k x hx 0 _ rfl; simpa using this)
        have q1 : wr.cell? ⟨b', off + k * 2 + 1, none⟩ = some (S x.folds) := cell_later' (HB0.out.trans (HB.out.mono hz0)) (by have := hc k x hx 1 _ rfl; simpa using this)
        have HQ1 : Hid (w.cell? ⟨b', off + k * 2 + 1, none⟩ = some (S x.folds)) := Lib.hid (by have := hc k x hx 1 _ rfl; simpa using this)
        have HX := Lib.hid hx
        have HSx := Lib.hid (HS1.out x (List.mem_of_getElem? hx))
        have hln : (seenF p.fmts k).length = k := seenF_len (by have := HN1.out; omega)
        have HLN := Lib.hid hln
        obtain ⟨er, her⟩ : ∃ er, er = nmErr (seenF p.fmts k) x.name := ⟨_, rfl⟩
        have HER := Lib.hid her
        clear hx hc hln her
        go_wp2_with fail
        refine (refFresh_any x.name (seenF p.fmts k) u5 _ (strs_of_row (by rw [HLN.out]; exact HRo.out)) (by rw [HLN.out]; omega) HSx.out.1).mono ?_
        rintro e w6 ⟨rfl, hb6⟩
        rw [← HER.out]
        have HB6 := Lib.hid (HB.out.trans (hb6.mono hzr))
        have HR6 := Lib.hid (row_later HRo.out hb6)
        have hb3 := blk_later hb6 hb3
        have q0 := cell_later' hb6 q0
        have q1 := cell_later' hb6 q1
        have hz6 := HB6.out.size
        clear c0 c1 c2 c3 hb6 HRo
        have c0 := blk_cell hb3 0
        have c1 := blk_cell hb3 1
        have c2 := blk_cell hb3 2
        have c3 := blk_cell hb3 3
        obtain ⟨hi1, hi2, hi3, hi4⟩ := HI.out
        go_wp2_with (at_builtin; refine wpList_append_own _ rfl _ _ 147 rfl w1.heap.size 9 ei _ 1 16 undStrs hi1 hi2 hi3 hi4 rfl (by decide) u5 k ((seenF p.fmts k).map S) rfl (HR6.out.alloc _) ⟨w6.heap.size, 0, none⟩ 1 1 [S x.name] rfl rfl ?c1 ?c2 ?c3 ?c4 ?c5 ?c6)
        case c1 => exact cells_new _ _ _
        case c2 => simp [Value.oneCell']
        case c3 => simp only [maxLen]; omega
        case c4 => omega
        case c5 => simp; omega
        case c6 =>
          rintro v' w7 hown hgrow -
          have HB7 := Lib.hid (HB6.out.trans ((((Below.refl _ w6).alloc (Nat.le_refl _) (.cells #[S x.name] 9)).mono hz6).trans (below_row (HR6.out.alloc _) (by simp; omega) hgrow)))
          have HO := Lib.hid hown
          have hb3 := blk_later HB7.out HB1.out
          have q1 : w7.cell? ⟨b', off + k * 2 + 1, none⟩ = some (S x.folds) := cell_later' (HB0.out.trans (HB7.out.mono hz0)) (HQ1.out)
          have hz7 := HB7.out.size
          clear hgrow hown hi1 hi2 hi3 hi4 HB6 HR6 c0 c1 c2 c3 HB
          have c0 := blk_cell hb3 0
          have c1 := blk_cell hb3 1
          have c2 := blk_cell hb3 2
          have c3 := blk_cell hb3 3
          by_cases h0 : er = 0
          · have HFE : Hid (fmtErr (seenF p.fmts k) x = fdsErr x.folds) := Lib.hid (by unfold fmtErr; rw [← HER.out, if_pos h0])
            clear HER
            subst h0
            go_wp2_with fail
            refine (refFolds_any x.folds _ HSx.out.2).mono ?_
            rintro e w8 ⟨rfl, hb8⟩
            obtain ⟨ef, hef⟩ : ∃ ef, ef = fdsErr x.folds := ⟨_, rfl⟩
            rw [← hef]
            have HEF : Hid (fmtErr (seenF p.fmts k) x = ef) := Lib.hid (HFE.out.trans hef.symm)
            have HB8 := Lib.hid (HB7.out.trans (hb8.mono hz7))
            have HR8 := Lib.hid (row_later HO.out hb8)
            clear hef HFE hb8 HO HB7 c0 c1 c2 c3
            by_cases h1 : ef = 0
            · have HZ2 : Hid ((x1, x2) = firstE Fmt.name fmtErr (seenF p.fmts (k + 1)) (k + 1) (p.fmts.drop (k + 1))) := Lib.hid (by rw [HZ.out, firstE_step HX.out (HEF.out.trans h1), seenF_next HX.out])
              clear HEF HZ
              subst h1
              go_wp2_with fail
              go_roundw
              case rel => exact ⟨k + 1, by omega, by go_num, (by
                have h := HR8.out
                rw [seenF_next HX.out, List.map_append]
                show World.ownsRow _ _ _ _ _ _ _
                simpa using h), HB8, HZ2⟩
              case measure => simp [intOf]; omega
            · have HXX : Hid (x1 = k ∧ x2 = ef) := Lib.hid (by
                have h2 := HZ.out.trans (firstE_stop HX.out (fun h => h1 (HEF.out.symm.trans h)))
                rw [HEF.out] at h2
                simpa using h2)
              have HX2 : Hid (r1 = 1 ∧ r2 = k ∧ r3 = ef) := Lib.hid (by
                have h2 := HR.out
                rw [HXX.out.1, HXX.out.2, if_pos h1] at h2
                simpa using h2)
              have HBz := Lib.hid (HB0.out.trans (HB8.out.mono hz0))
              have h0b : (ef != 0) = true := by simp [h1]
              clear h1 HXX HEF
              go_wp2_with fail
              go_ret3
              exact ⟨by rw [(HX2).out.1, (HX2).out.2.1, (HX2).out.2.2]; rfl, HBz.out⟩
          · have HFE : Hid (fmtErr (seenF p.fmts k) x = er) := Lib.hid (by unfold fmtErr; rw [← HER.out, if_neg h0])
            have HXX : Hid (x1 = k ∧ x2 = er) := Lib.hid (by
              have h2 := HZ.out.trans (firstE_stop HX.out (fun h => h0 (HFE.out.symm.trans h)))
              rw [HFE.out] at h2
              simpa using h2)
            have HX2 : Hid (r1 = 1 ∧ r2 = k ∧ r3 = er) := Lib.hid (by
              have h2 := HR.out
              rw [HXX.out.1, HXX.out.2, if_pos h0] at h2
              simpa using h2)
            have HBz := Lib.hid (HB0.out.trans (HB7.out.mono hz0))
            have h0b : (er != 0) = true := by simp [h0]
            have h0c : (er == 0) = false := by simp [h0]
            clear h0 HXX HFE
            go_wp2_with fail
            go_ret3
            exact ⟨by rw [(HX2).out.1, (HX2).out.2.1, (HX2).out.2.2]; rfl, HBz.out⟩
      · have hkN : k = n1 := by omega
        have hx2 : x1 = 0 ∧ x2 = 0 := by
          have h := HZ.out.trans (firstE_end (by have := HN1.out; omega))
          simpa using h
        have HRP : Hid ((r1, r2, r3) = if y2 ≠ 0 then (2, y1, y2) else if (inI 0 60 p.trim && inI 1 4 p.sheets) = false then (3, 0, 7) else (0, 0, 0)) := Lib.hid (by rw [HR.out, if_neg (by rw [hx2.2]; decide)])
        have HB0 := Lib.hid (HB0.out.trans (HB.out.mono hz0))
        have HB1 := Lib.hid hb3
        clear HZ HRo HR HX1 HX2 hx2 HFC HF HS1 hkN HB HBz
        clear hle1 hk
        go_wp2_with fail
        refine (in2_any _ 1 4 _).mono ?_
        rintro e wv ⟨rfl, hw⟩
        subst hw
        have HBv := HB0
        have HBz := HB0
        have hz9 := HBv.out.size
        have HB9 := HB1
        cases hi : inI 1 4 n2 with
        | false =>
          have HX2 : Hid (r1 = 2 ∧ r2 = 0 ∧ r3 = 3) := Lib.hid (by
            have h1 : (y1, y2) = (0, 3) := by rw [HY1.out]; unfold listR; rw [← HN2.out, if_pos hi]
            have h2 := HRP.out
            simp at h1
            rw [h1.1, h1.2] at h2
            simpa using h2)
          clear hi
          go_wp2_with fail
          go_ret3
          exact ⟨by rw [(HX2).out.1, (HX2).out.2.1, (HX2).out.2.2]; rfl, HBz.out⟩
        | true =>
          have HX3 : Hid ((y1, y2) = firstE Ppr.name pprErr [] 0 p.pprs) := Lib.hid (by rw [HY1.out]; unfold listR; rw [← HN2.out, if_neg (by rw [hi]; decide)])
          have hle1 : n2 ≤ 4 := by simp only [inI, Bool.and_eq_true, decide_eq_true_eq] at hi; omega
          clear hi
          have HR0 : Hid (wv.ownsRow wv.heap.size 9 1 (.slice none 0 0) 0 []) := Lib.hid (World.ownsRow_nil _ _ _ _)
          have HBB : Hid (Below wv.heap.size wv wv) := Lib.hid (Below.refl _ _)
          clear hzr b1 hz0
          go_wp2_with fail
          go_loopw [5, 8] (fun v i wr => ∃ (k : Nat), k ≤ n2 ∧ i = .int .i64 k ∧ Hid (wr.ownsRow wv.heap.size 9 1 v k ((seenP p.pprs k).map S)) ∧ Hid (Below wv.heap.size wv wr) ∧ Hid ((y1, y2) = firstE Ppr.name pprErr (seenP p.pprs k) k (p.pprs.drop k))) (fun _ i _ => n2 - (intOf i).toNat)
          case atStart => exact ⟨0, by omega, rfl, (by have h := HR0.out; show World.ownsRow _ _ _ _ _ _ _; simpa [seenP] using h), HBB, HX3⟩
          case round =>
            clear HR0 HBB c0 c1 c2 c3
            obtain ⟨k, hk, rfl, HRo, HB, HZ⟩ := hrel
            have hb3 := blk_later HB.out HB9.out
            have hzr := HB.out.size
            have c0 := blk_cell hb3 0
            have c1 := blk_cell hb3 1
            have c2 := blk_cell hb3 2
            have c3 := blk_cell hb3 3
            by_cases hlt : k < n2
            · obtain ⟨x, hx⟩ : ∃ x, p.pprs[k]? = some x := ⟨_, List.getElem?_eq_getElem (by have := HN2.out; omega)⟩
              obtain ⟨b', off, rfl, hb', hc⟩ := HQC.out (fun h => by rw [h] at hx; simp at hx)
              have q0 : wr.cell? ⟨b', off + k * 5, none⟩ = some (S x.name) := cell_later' (HBv.out.trans (HB.out.mono hz9)) (by have := hc k x hx 0 _ rfl; simpa using this)
              have HQ1 : Hid (w.cell? ⟨b', off + k * 5 + 1, none⟩ = some (.int .i64 x.wlo)) := Lib.hid (by have := hc k x hx 1 _ rfl; simpa using this)
              have HQ2 : Hid (w.cell? ⟨b', off + k * 5 + 2, none⟩ = some (.int .i64 x.whi)) := Lib.hid (by have := hc k x hx 2 _ rfl; simpa using this)
              have HQ3 : Hid (w.cell? ⟨b', off + k * 5 + 3, none⟩ = some (.int .i64 x.hlo)) := Lib.hid (by have := hc k x hx 3 _ rfl; simpa using this)
              have HQ4 : Hid (w.cell? ⟨b', off + k * 5 + 4, none⟩ = some (.int .i64 x.hhi)) := Lib.hid (by have := hc k x hx 4 _ rfl; simpa using this)
              have HX := Lib.hid hx
              have HSx := Lib.hid (HS2.out x (List.mem_of_getElem? hx))
              have hln : (seenP p.pprs k).length = k := seenP_len (by have := HN2.out; omega)
              have HLN := Lib.hid hln
              obtain ⟨er, her⟩ : ∃ er, er = nmErr (seenP p.pprs k) x.name := ⟨_, rfl⟩
              have HER := Lib.hid her
              clear hx hc hln her
              go_wp2_with fail
              refine (refFresh_any x.name (seenP p.pprs k) u5 _ (strs_of_row (by rw [HLN.out]; exact HRo.out)) (by rw [HLN.out]; omega) HSx.out).mono ?_
              rintro e w6 ⟨rfl, hb6⟩
              rw [← HER.out]
              have HB6 := Lib.hid (HB.out.trans (hb6.mono hzr))
              have HR6 := Lib.hid (row_later HRo.out hb6)
              have hb3 := blk_later hb6 hb3
              have q0 := cell_later' hb6 q0
              have hz6 := HB6.out.size
              clear c0 c1 c2 c3 hb6 HRo
              have c0 := blk_cell hb3 0
              have c1 := blk_cell hb3 1
              have c2 := blk_cell hb3 2
              have c3 := blk_cell hb3 3
              obtain ⟨hi1, hi2, hi3, hi4⟩ := HI.out
              go_wp2_with (at_builtin; refine wpList_append_own _ rfl _ _ 147 rfl wv.heap.size 9 ei _ 1 16 undStrs hi1 hi2 hi3 hi4 rfl (by decide) u5 k ((seenP p.pprs k).map S) rfl (HR6.out.alloc _) ⟨w6.heap.size, 0, none⟩ 1 1 [S x.name] rfl rfl ?c1 ?c2 ?c3 ?c4 ?c5 ?c6)
              case c1 => exact cells_new _ _ _
              case c2 => simp [Value.oneCell']
              case c3 => simp only [maxLen]; omega
              case c4 => omega
              case c5 => simp; omega
              case c6 =>
                rintro v' w7 hown hgrow -
                have HB7 := Lib.hid (HB6.out.trans ((((Below.refl _ w6).alloc (Nat.le_refl _) (.cells #[S x.name] 9)).mono hz6).trans (below_row (HR6.out.alloc _) (by simp; omega) hgrow)))
                have HO := Lib.hid hown
                have hb3 := blk_later HB7.out HB9.out
                have q1 : w7.cell? ⟨b', off + k * 5 + 1, none⟩ = some (.int .i64 x.wlo) := cell_later' (HBv.out.trans (HB7.out.mono hz9)) (HQ1.out)
                have q2 : w7.cell? ⟨b', off + k * 5 + 2, none⟩ = some (.int .i64 x.whi) := cell_later' (HBv.out.trans (HB7.out.mono hz9)) (HQ2.out)
                have q3 : w7.cell? ⟨b', off + k * 5 + 3, none⟩ = some (.int .i64 x.hlo) := cell_later' (HBv.out.trans (HB7.out.mono hz9)) (HQ3.out)
                have q4 : w7.cell? ⟨b', off + k * 5 + 4, none⟩ = some (.int .i64 x.hhi) := cell_later' (HBv.out.trans (HB7.out.mono hz9)) (HQ4.out)
                have hz7 := HB7.out.size
                clear hgrow hown hi1 hi2 hi3 hi4 HB6 HR6 c0 c1 c2 c3 HB
                have c0 := blk_cell hb3 0
                have c1 := blk_cell hb3 1
                have c2 := blk_cell hb3 2
                have c3 := blk_cell hb3 3
                by_cases h0 : er = 0
                · obtain ⟨ef, hef⟩ : ∃ ef, ef = spansErr 1 2000 x.wlo x.whi x.hlo x.hhi := ⟨_, rfl⟩
                  have HEF : Hid (pprErr (seenP p.pprs k) x = ef) := Lib.hid (by unfold pprErr; rw [← HER.out, if_pos h0, hef])
                  have HEV := Lib.hid hef
                  clear HER hef
                  subst h0
                  go_wp2_with fail
                  have r0 := cell_regrown c0
                  have r1' := cell_regrown c1
                  have s1 := cell_regrown q1
                  have s2 := cell_regrown q2
                  have s3 := cell_regrown q3
                  have s4 := cell_regrown q4
                  have cC : ∀ d os, Calls Tryz.prog 65 #[.agg #[.int .i64 x.wlo, .int .i64 x.whi], .agg #[.int .i64 x.hlo, .int .i64 x.hhi], .int .i64 1, .int .i64 2000] (grow (redrawn w7 d) os) (fun e w'' => e = .returned (.int .i64 ef) ∧ ∃ p : Regrown, w'' = grow (redrawn w7 p.d) p.os) := fun d os => Calls.regrown_of (both2_is _ _ _ _ _ _ ef HEV.out _)
                  clear c0 c1 c2 c3 q1 q2 q3 q4 q0
                  refine wp_region_quiet_below (by kernel_rfl) (by kernel_rfl) ?_; (repeat (go_big_quiet_step (exact cC _ _))); refine wpQuiet_nil ?_; rintro w8 ⟨⟨d8, os8⟩, rfl⟩
                  have hb8 := below_regrown w7 d8 os8
                  clear r0 r1' s1 s2 s3 s4 cC HEV
                  have HB8 := Lib.hid (HB7.out.trans (hb8.mono hz7))
                  have HR8 := Lib.hid (row_later HO.out hb8)
                  clear hb8 HO HB7
                  generalize grow (redrawn w7 d8) os8 = w8 at *
                  by_cases h1 : ef = 0
                  · have HZ2 : Hid ((y1, y2) = firstE Ppr.name pprErr (seenP p.pprs (k + 1)) (k + 1) (p.pprs.drop (k + 1))) := Lib.hid (by rw [HZ.out, firstE_step HX.out (HEF.out.trans h1), seenP_next HX.out])
                    clear HEF HZ
                    subst h1
                    go_wp2_with fail
                    go_roundw
                    case rel => exact ⟨k + 1, by omega, by go_num, (by
                      have h := HR8.out
                      rw [seenP_next HX.out, List.map_append]
                      show World.ownsRow _ _ _ _ _ _ _
                      simpa using h), HB8, HZ2⟩
                    case measure => simp [intOf]; omega
                  · have HXX : Hid (y1 = k ∧ y2 = ef) := Lib.hid (by
                      have h2 := HZ.out.trans (firstE_stop HX.out (fun h => h1 (HEF.out.symm.trans h)))
                      rw [HEF.out] at h2
                      simpa using h2)
                    have HX3 : Hid (r1 = 2 ∧ r2 = k ∧ r3 = ef) := Lib.hid (by
                      have h2 := HRP.out
                      rw [HXX.out.1, HXX.out.2, if_pos h1] at h2
                      simpa using h2)
                    have HBz := Lib.hid (HBv.out.trans (HB8.out.mono hz9))
                    have h0b : (ef != 0) = true := by simp [h1]
                    clear h1 HXX HEF
                    go_wp2_with fail
                    go_ret3
                    exact ⟨by rw [(HX3).out.1, (HX3).out.2.1, (HX3).out.2.2]; rfl, HBz.out⟩
                · have HFE : Hid (pprErr (seenP p.pprs k) x = er) := Lib.hid (by unfold pprErr; rw [← HER.out, if_neg h0])
                  have HXX : Hid (y1 = k ∧ y2 = er) := Lib.hid (by
                    have h2 := HZ.out.trans (firstE_stop HX.out (fun h => h0 (HFE.out.symm.trans h)))
                    rw [HFE.out] at h2
                    simpa using h2)
                  have HX3 : Hid (r1 = 2 ∧ r2 = k ∧ r3 = er) := Lib.hid (by
                    have h2 := HRP.out
                    rw [HXX.out.1, HXX.out.2, if_pos h0] at h2
                    simpa using h2)
                  have HBz := Lib.hid (HBv.out.trans (HB7.out.mono hz9))
                  have h0b : (er != 0) = true := by simp [h0]
                  have h0c : (er == 0) = false := by simp [h0]
                  clear h0 HXX HFE
                  go_wp2_with fail
                  go_ret3
                  exact ⟨by rw [(HX3).out.1, (HX3).out.2.1, (HX3).out.2.2]; rfl, HBz.out⟩
            · have hy2 : y1 = 0 ∧ y2 = 0 := by
                have h := HZ.out.trans (firstE_end (by have := HN2.out; omega))
                simpa using h
              have HRT : Hid ((r1, r2, r3) = if (inI 0 60 p.trim && inI 1 4 p.sheets) = false then (3, 0, 7) else (0, 0, 0)) := Lib.hid (by rw [HRP.out, if_neg (by rw [hy2.2]; decide)])
              have HBz := Lib.hid (HBv.out.trans (HB.out.mono hz9))
              clear HZ HRo HRP HY1 HX3 hy2 HQC HQ HS2 HB
              go_wp2_with fail
              refine (in2_any p.trim 0 60 _).mono ?_
              rintro e w9 ⟨rfl, hw⟩
              subst hw
              cases h1 : inI 0 60 p.trim with
              | false =>
                have HX2 : Hid (r1 = 3 ∧ r2 = 0 ∧ r3 = 7) := Lib.hid (by have := HRT.out; rw [h1] at this; simpa using this)
                clear HRT
                go_wp2_with fail
                go_ret3
                exact ⟨by rw [(HX2).out.1, (HX2).out.2.1, (HX2).out.2.2]; rfl, HBz.out⟩
              | true =>
                go_wp2_with fail
                refine (in2_any p.sheets 1 4 _).mono ?_
                rintro e w9 ⟨rfl, hw⟩
                subst hw
                cases h2 : inI 1 4 p.sheets with
                | false =>
                  have HX2 : Hid (r1 = 3 ∧ r2 = 0 ∧ r3 = 7) := Lib.hid (by have := HRT.out; rw [h1, h2] at this; simpa using this)
                  clear HRT
                  go_wp2_with fail
                  go_ret3
                  exact ⟨by rw [(HX2).out.1, (HX2).out.2.1, (HX2).out.2.2]; rfl, HBz.out⟩
                | true =>
                  have HX2 : Hid (r1 = 0 ∧ r2 = 0 ∧ r3 = 0) := Lib.hid (by have := HRT.out; rw [h1, h2] at this; simpa using this)
                  clear HRT
                  go_wp2_with fail
                  go_ret3
                  exact ⟨by rw [(HX2).out.1, (HX2).out.2.1, (HX2).out.2.2]; rfl, HBz.out⟩
end Go.Proofs.YtnhacghjoikgpaaGreatDoor

/- The reference: Check of what is seen of a gathering. -/
namespace Go.Proofs.YtnhacghjoikgpaaGreatDoor
set_option linter.unusedSimpArgs false
set_option linter.unusedVariables false
open Go Go.RowKit Go.Sort Go.BigFrame

theorem in2_is (n lo hi : Int) (x : Bool) (hx : x = inI lo hi n) (w : World) :
    Calls Tryz.prog 32 #[.int .i64 n, .int .i64 lo, .int .i64 hi] w fun e w' => e = .returned (.bool x) ∧ Below w.heap.size w w' := by
  subst hx
  exact (in2_any n lo hi w).mono fun e w' ⟨h1, h2⟩ => ⟨h1, by rw [h2]; exact Below.refl _ _⟩

set_option maxRecDepth 100000 in
set_option maxHeartbeats 2000000 in
theorem refCheckBook2_any (p : Prs) (b : Bok) (vp vb : Value) (w : World) (hp : PrsAt w.heap.size w vp p) (hb : BokAt w.heap.size w vb b) :
    Calls Tryz.prog 28 #[vp, vb] w fun e w' => e = .returned (.tuple #[.int .i64 ((checkK p b).1 : Nat), .int .i64 ((checkK p b).2.1 : Nat), .int .i64 (checkK p b).2.2]) ∧ Below w.heap.size w w' := by
  have HP := Lib.hid hp
  obtain ⟨fv, pv, rfl, ⟨a, cap, rfl, -⟩, ⟨a2, cap2, rfl, -⟩, -⟩ := hp
  obtain ⟨n1, hn1⟩ : ∃ n, n = p.fmts.length := ⟨_, rfl⟩
  obtain ⟨n2, hn2⟩ : ∃ n, n = p.pprs.length := ⟨_, rfl⟩
  rw [← hn1, ← hn2] at HP ⊢
  clear hn1 hn2
  obtain ⟨mv, rfl, hm⟩ := hb
  obtain ⟨a3, cap3, rfl, hmc⟩ := hm
  obtain ⟨n3, hn3⟩ : ∃ n, n = b.marks.length := ⟨_, rfl⟩
  rw [← hn3]
  have HN3 := Lib.hid hn3
  have HMC := Lib.hid hmc
  clear hmc hn3
  obtain ⟨⟨r1, r2, r3⟩, hr⟩ : ∃ r, r = checkK p b := ⟨_, rfl⟩
  rw [← hr]
  obtain ⟨⟨c1, c2, ep⟩, hep⟩ : ∃ c, c = checkP p := ⟨_, rfl⟩
  obtain ⟨es, hes⟩ : ∃ es, es = spansErr 0 2000 b.wlo b.whi b.hlo b.hhi := ⟨_, rfl⟩
  obtain ⟨⟨m1, m2⟩, hmm⟩ : ∃ m, m = marksR 0 8 b.leaves b.marks := ⟨_, rfl⟩
  have HR : Hid ((r1, r2, r3) = if ep ≠ 0 then (0, 0, ep) else if inI 1 64 b.leaves = false then (1, 0, 7) else if inI 0 2 b.chain = false then (2, 0, 2) else if es ≠ 0 then (3, 0, es) else if m2 ≠ 0 then (4, m1, m2) else (0, 0, 0)) := Lib.hid (by
    rw [hr, checkK_is, show errP p = ep by unfold errP; rw [← hep], ← hes, ← hmm])
  have HEP := Lib.hid hep
  have HES := Lib.hid hes
  have HMM := Lib.hid hmm
  clear hr hep hes hmm
  dsimp only
  go_enter Tryz.func28, Tryz.ntmps28
  go_wp2_with fail
  have hb0 : Below w.heap.size w ((w.alloc (.cells #[.slice a n1 cap, .slice a2 n2 cap2, .int .i64 p.trim, .int .i64 p.sheets] 25)).alloc (.cells #[.int .i64 b.leaves, .int .i64 b.chain, .int .i64 b.wlo, .int .i64 b.whi, .int .i64 b.hlo, .int .i64 b.hhi, .slice a3 n3 cap3] 30)) := by exact (by repeat (first | exact Below.refl _ _ | assumption | (refine Below.alloc ?_ ?_ _; rotate_left; · (first | omega | (simp; done) | (simp; omega) | fail)) | (refine Below.setCell ?_ ?_ _; rotate_left; · (first | omega | (simp; done) | (simp; omega) | fail)) | refine Below.drew ?_ | fail))
  have b2 : ((w.alloc (.cells #[.slice a n1 cap, .slice a2 n2 cap2, .int .i64 p.trim, .int .i64 p.sheets] 25)).alloc (.cells #[.int .i64 b.leaves, .int .i64 b.chain, .int .i64 b.wlo, .int .i64 b.whi, .int .i64 b.hlo, .int .i64 b.hhi, .slice a3 n3 cap3] 30)).heap[w.heap.size + 1]? = some (.cells #[.int .i64 b.leaves, .int .i64 b.chain, .int .i64 b.wlo, .int .i64 b.whi, .int .i64 b.hlo, .int .i64 b.hhi, .slice a3 n3 cap3] 30) := (by repeat (first | exact heap_alloc_at _ _ _ (by (first | omega | (simp; done) | (simp; omega) | (simp at *; omega) | fail)) | assumption | rw [heap_alloc_past _ _ _ (by (first | omega | (simp; done) | (simp; omega) | (simp at *; omega) | fail))] | rw [heap_setCell_past _ _ _ _ (by (first | omega | (simp; done) | (simp; omega) | (simp at *; omega) | fail))] | fail))
  revert hb0 b2
  generalize ((w.alloc (.cells #[.slice a n1 cap, .slice a2 n2 cap2, .int .i64 p.trim, .int .i64 p.sheets] 25)).alloc (.cells #[.int .i64 b.leaves, .int .i64 b.chain, .int .i64 b.wlo, .int .i64 b.whi, .int .i64 b.hlo, .int .i64 b.hhi, .slice a3 n3 cap3] 30)) = w1
  intro hb0 b2
  refine (refCheck2_any p _ _ (HP.out.later hb0)).mono ?_
  rintro e w2 ⟨rfl, hb2⟩
  rw [← HEP.out]
  have b2 := blk_later hb2 b2
  have HB3 := Lib.hid (hb0.trans (hb2.mono hb0.size))
  clear hb0 hb2
  have HB2 := Lib.hid b2
  dsimp only
  by_cases h0 : ep = 0
  · have HR1 : Hid ((r1, r2, r3) = if inI 1 64 b.leaves = false then (1, 0, 7) else if inI 0 2 b.chain = false then (2, 0, 2) else if es ≠ 0 then (3, 0, es) else if m2 ≠ 0 then (4, m1, m2) else (0, 0, 0)) := Lib.hid (by rw [HR.out, if_neg (by rw [h0]; decide)])
    clear HR HEP
    subst h0
    have e0 := blk_cell b2 0
    have e1 := blk_cell b2 1
    have e2 := blk_cell b2 2
    have e3 := blk_cell b2 3
    have e4 := blk_cell b2 4
    have e5 := blk_cell b2 5
    have e6 := blk_cell b2 6
    go_wp2_with fail
    refine (in2_any b.leaves 1 64 _).mono ?_
    rintro e w3 ⟨rfl, hw⟩
    subst hw
    cases h1 : inI 1 64 b.leaves with
    | false =>
      have HR2 : Hid (r1 = 1 ∧ r2 = 0 ∧ r3 = 7) := Lib.hid (by have := HR1.out; rw [h1] at this; simpa using this)
      clear HR1
      go_wp2_with fail
      go_ret3
      exact ⟨by rw [HR2.out.1, HR2.out.2.1, HR2.out.2.2]; rfl, HB3.out⟩
    | true =>
      have HR2 : Hid ((r1, r2, r3) = if inI 0 2 b.chain = false then (2, 0, 2) else if es ≠ 0 then (3, 0, es) else if m2 ≠ 0 then (4, m1, m2) else (0, 0, 0)) := Lib.hid (by rw [HR1.out, if_neg (by rw [h1]; decide)])
      have hl : 1 ≤ b.leaves ∧ b.leaves ≤ 64 := by simpa [inI] using h1
      clear HR1 h1
      go_wp2_with fail
      refine (in2_any b.chain 0 2 _).mono ?_
      rintro e w3 ⟨rfl, hw⟩
      subst hw
      cases h2 : inI 0 2 b.chain with
      | false =>
        have HR2 : Hid (r1 = 2 ∧ r2 = 0 ∧ r3 = 2) := Lib.hid (by have := HR2.out; rw [h2] at this; simpa using this)
        go_wp2_with fail
        go_ret3
        exact ⟨by rw [HR2.out.1, HR2.out.2.1, HR2.out.2.2]; rfl, HB3.out⟩
      | true =>
        have HR3 : Hid ((r1, r2, r3) = if es ≠ 0 then (3, 0, es) else if m2 ≠ 0 then (4, m1, m2) else (0, 0, 0)) := Lib.hid (by rw [HR2.out, if_neg (by rw [h2]; decide)])
        clear HR2 h2
        go_wp2_with fail
        refine (both2_is b.wlo b.whi b.hlo b.hhi 0 2000 es HES.out _).mono ?_
        rintro e w4 ⟨rfl, hb4⟩
        have b4 := blk_later hb4 HB2.out
        have HB3 := Lib.hid (HB3.out.trans (hb4.mono HB3.out.size))
        clear hb4 e0 e1 e2 e3 e4 e5 e6 HB2 b2
        by_cases h3 : es = 0
        · have HR4 : Hid ((r1, r2, r3) = if m2 ≠ 0 then (4, m1, m2) else (0, 0, 0)) := Lib.hid (by rw [HR3.out, if_neg (by rw [h3]; decide)])
          clear HR3 HES
          subst h3
          have e0 := blk_cell b4 0
          have e1 := blk_cell b4 1
          have e2 := blk_cell b4 2
          have e3 := blk_cell b4 3
          have e4 := blk_cell b4 4
          have e5 := blk_cell b4 5
          have e6 := blk_cell b4 6
          by_cases h8 : 8 < n3
          · have HR2 : Hid (r1 = 4 ∧ r2 = 0 ∧ r3 = 3) := Lib.hid (by
              have h9 : (m1, m2) = (0, 3) := by
                rw [HMM.out]; unfold marksR; rw [if_pos]
                rw [← HN3.out]; unfold inI; rw [decide_eq_false (p := (n3 : Int) ≤ 8) (by omega)]; simp
              have := HR4.out
              simp at h9
              rw [h9.1, h9.2] at this
              simpa using this)
            clear HR4
            go_wp2_with fail
            go_ret3
            exact ⟨by rw [HR2.out.1, HR2.out.2.1, HR2.out.2.2]; rfl, HB3.out⟩
          · have HZ0 : Hid ((m1, m2) = marksErr b.leaves 0 b.marks) := Lib.hid (by
              rw [HMM.out]; unfold marksR; rw [if_neg]
              rw [← HN3.out]; unfold inI; rw [decide_eq_true (p := (n3 : Int) ≤ 8) (by omega), decide_eq_true (p := (0 : Int) ≤ n3) (by omega)]; decide)
            have HB4 := Lib.hid b4
            clear HMM
            go_wp2_with fail
            clear e0 e1 e2 e3 e4 e5 e6 b4
            go_loopw [10] (fun q wr => ∃ (k : Nat), k ≤ n3 ∧ q = .int .i64 k ∧ Hid (Below w4.heap.size w4 wr) ∧ Hid ((m1, m2) = marksErr b.leaves k (b.marks.drop k))) (fun q _ => n3 - (intOf q).toNat)
            case atStart => exact ⟨0, by omega, rfl, Lib.hid (Below.refl _ _), HZ0⟩
            case round =>
              obtain ⟨k, hk, rfl, HB, HZ⟩ := hrel
              have b5 := blk_later HB.out HB4.out
              have e0 := blk_cell b5 0
              have e1 := blk_cell b5 1
              have e2 := blk_cell b5 2
              have e3 := blk_cell b5 3
              have e4 := blk_cell b5 4
              have e5 := blk_cell b5 5
              have e6 := blk_cell b5 6
              have HBr := Lib.hid (HB3.out.trans (HB.out.mono HB3.out.size))
              by_cases hlt : k < n3
              · obtain ⟨x, hx⟩ : ∃ x, b.marks[k]? = some x := ⟨_, List.getElem?_eq_getElem (by have := HN3.out; omega)⟩
                obtain ⟨b', off, rfl, hb', hc⟩ := HMC.out (fun h => by rw [h] at hx; simp at hx)
                have q0 : wr.cell? ⟨b', off + k * 2, none⟩ = some (.int .i64 x.1) := cell_later' HBr.out (by have := hc k x hx 0 _ rfl; simpa using this)
                have HX := Lib.hid hx
                obtain ⟨ef, hef⟩ : ∃ ef, ef = inI 0 (b.leaves - 1) x.1 := ⟨_, rfl⟩
                have HEF := Lib.hid hef
                clear hx hc hef
                go_wp2_with fail
                have s0 := cell_regrown e0
                have s6 := cell_regrown e6
                have t0 := cell_regrown q0
                have cC : ∀ d os, Calls Tryz.prog 32 #[.int .i64 x.1, .int .i64 0, .int .i64 (b.leaves - 1)] (grow (redrawn wr d) os) (fun e w'' => e = .returned (.bool ef) ∧ ∃ p : Regrown, w'' = grow (redrawn wr p.d) p.os) := fun d os => Calls.regrown_of (in2_is _ _ _ ef HEF.out _)
                clear e0 e1 e2 e3 e4 e5 e6 q0 b5
                refine wp_region_quiet_below (by kernel_rfl) (by kernel_rfl) ?_; (repeat (go_big_quiet_step (exact cC _ _))); refine wpQuiet_nil ?_; rintro w8 ⟨⟨d8, os8⟩, rfl⟩
                have hb8 := below_regrown wr d8 os8
                have HB8 := Lib.hid (HB.out.trans (hb8.mono HB.out.size))
                clear s0 s6 t0 cC hb8
                generalize grow (redrawn wr d8) os8 = w8 at *
                cases hf : ef with
                | false =>
                  have HR2 : Hid (r1 = 4 ∧ r2 = k ∧ r3 = 4) := Lib.hid (by
                    have h9 : m1 = k ∧ m2 = 4 := by
                      have h := HZ.out.trans (marksErr_stop HX.out (by rw [← HEF.out, hf]))
                      simpa using h
                    have := HR4.out
                    rw [h9.1, h9.2] at this
                    simpa using this)
                  have HB3 := Lib.hid (HB3.out.trans (HB8.out.mono HB3.out.size))
                  clear HZ HR4
                  go_wp2_with fail
                  go_ret3
                  exact ⟨by rw [HR2.out.1, HR2.out.2.1, HR2.out.2.2]; rfl, HB3.out⟩
                | true =>
                  have HZ2 : Hid ((m1, m2) = marksErr b.leaves (k + 1) (b.marks.drop (k + 1))) := Lib.hid (HZ.out.trans (marksErr_step HX.out (by rw [← HEF.out, hf])))
                  clear HZ
                  go_wp2_with fail
                  go_roundw
                  case rel => exact ⟨k + 1, by omega, by go_num, HB8, HZ2⟩
                  case measure => simp [intOf]; omega
              · have HR2 : Hid (r1 = 0 ∧ r2 = 0 ∧ r3 = 0) := Lib.hid (by
                  have h9 : m1 = 0 ∧ m2 = 0 := by
                    have h := HZ.out.trans (marksErr_end (by have := HN3.out; omega))
                    simpa using h
                  have := HR4.out
                  rw [h9.1, h9.2] at this
                  simpa using this)
                have HB3 := HBr
                clear HZ HR4
                go_wp2_with fail
                go_ret3
                exact ⟨by rw [HR2.out.1, HR2.out.2.1, HR2.out.2.2]; rfl, HB3.out⟩
        · have HR2 : Hid (r1 = 3 ∧ r2 = 0 ∧ r3 = es) := Lib.hid (by have := HR3.out; rw [if_pos h3] at this; simpa using this)
          have h0b : (es != 0) = true := by simp [h3]
          clear h3 HR3
          go_wp2_with fail
          go_ret3
          exact ⟨by rw [HR2.out.1, HR2.out.2.1, HR2.out.2.2]; rfl, HB3.out⟩
  · have HR2 : Hid (r1 = 0 ∧ r2 = 0 ∧ r3 = ep) := Lib.hid (by have := HR.out; rw [if_pos h0] at this; simpa using this)
    have h0b : (ep != 0) = true := by simp [h0]
    clear h0 HR HEP
    go_wp2_with fail
    go_ret3
    exact ⟨by rw [HR2.out.1, HR2.out.2.1, HR2.out.2.2]; rfl, HB3.out⟩
end Go.Proofs.YtnhacghjoikgpaaGreatDoor

/- The reference: the error of a way of making. -/
namespace Go.Proofs.YtnhacghjoikgpaaGreatDoor
set_option linter.unusedSimpArgs false
set_option linter.unusedVariables false
open Go Go.RowKit Go.Sort Go.BigFrame

set_option maxRecDepth 100000 in
set_option maxHeartbeats 1000000 in
theorem refMake2_any (p : Prs) (m : Mkw) (vp : Value) (w : World) (hp : PrsAt w.heap.size w vp p) (he : errP p = 0) :
    Calls Tryz.prog 70 #[vp, mkwV m] w fun e w' => e = .returned (.int .i64 (mkwErr p m)) ∧ Below w.heap.size w w' := by
  obtain ⟨⟨f1, f2⟩, ⟨f3, f4⟩, ⟨f5, f6⟩, hff⟩ := fine_press he
  have HP := Lib.hid hp
  have HE := Lib.hid he
  obtain ⟨fv, pv, rfl, ⟨a, cap, rfl, hfc⟩, ⟨a2, cap2, rfl, -⟩, -⟩ := hp
  obtain ⟨n1, hn1⟩ : ∃ n, n = p.fmts.length := ⟨_, rfl⟩
  obtain ⟨n2, hn2⟩ : ∃ n, n = p.pprs.length := ⟨_, rfl⟩
  have hz0 : ∃ z, z = mkwErr p m := ⟨_, rfl⟩
  obtain ⟨z, hz⟩ := hz0
  rw [← hz]
  unfold mkwErr at hz
  rw [← hn1, ← hn2] at hz
  rw [← hn1] at f1 f2
  rw [← hn2] at f3 f4
  obtain ⟨fm, pp, sh, hf⟩ := m
  dsimp only at hz ⊢
  rw [← hn1, ← hn2]
  have HZ := Lib.hid hz
  have HN1 := Lib.hid hn1
  have HFC := Lib.hid hfc
  have HFF := Lib.hid hff
  have hn1v := hn1.symm
  have hn2v := hn2.symm
  clear hz hn1 hn2 hfc hff he
  rw [hn1v, hn2v] at HP
  clear hn1v hn2v
  go_enter Tryz.func70, Tryz.ntmps70
  go_wp2_with fail
  have hp0 : Below w.heap.size w ((w.alloc (.cells #[.slice a n1 cap, .slice a2 n2 cap2, .int .i64 p.trim, .int .i64 p.sheets] 25)).alloc (.cells #[.int .i64 fm, .int .i64 pp, .int .i64 sh, .bool hf] 50)) := by exact (by repeat (first | exact Below.refl _ _ | assumption | (refine Below.alloc ?_ ?_ _; rotate_left; · (first | omega | (simp; done) | (simp; omega) | fail)) | (refine Below.setCell ?_ ?_ _; rotate_left; · (first | omega | (simp; done) | (simp; omega) | fail)) | refine Below.drew ?_ | fail))
  have b1 : ((w.alloc (.cells #[.slice a n1 cap, .slice a2 n2 cap2, .int .i64 p.trim, .int .i64 p.sheets] 25)).alloc (.cells #[.int .i64 fm, .int .i64 pp, .int .i64 sh, .bool hf] 50)).heap[w.heap.size]? = some (.cells #[.slice a n1 cap, .slice a2 n2 cap2, .int .i64 p.trim, .int .i64 p.sheets] 25 (0, 0)) := by exact (by repeat (first | exact heap_alloc_at _ _ _ (by (first | omega | (simp; done) | (simp; omega) | (simp at *; omega) | fail)) | assumption | rw [heap_alloc_past _ _ _ (by (first | omega | (simp; done) | (simp; omega) | (simp at *; omega) | fail))] | rw [heap_setCell_past _ _ _ _ (by (first | omega | (simp; done) | (simp; omega) | (simp at *; omega) | fail))] | fail))
  have b2 : ((w.alloc (.cells #[.slice a n1 cap, .slice a2 n2 cap2, .int .i64 p.trim, .int .i64 p.sheets] 25)).alloc (.cells #[.int .i64 fm, .int .i64 pp, .int .i64 sh, .bool hf] 50)).heap[w.heap.size + 1]? = some (.cells #[.int .i64 fm, .int .i64 pp, .int .i64 sh, .bool hf] 50 (0, 0)) := by exact (by repeat (first | exact heap_alloc_at _ _ _ (by (first | omega | (simp; done) | (simp; omega) | (simp at *; omega) | fail)) | assumption | rw [heap_alloc_past _ _ _ (by (first | omega | (simp; done) | (simp; omega) | (simp at *; omega) | fail))] | rw [heap_setCell_past _ _ _ _ (by (first | omega | (simp; done) | (simp; omega) | (simp at *; omega) | fail))] | fail))
  refine (refCheck2_any p _ _ (HP.out.later hp0)).mono ?_
  rintro e w2 ⟨rfl, hb⟩
  obtain ⟨⟨y1, y2, y3⟩, hy⟩ : ∃ y, y = checkP p := ⟨_, rfl⟩
  rw [← hy]
  have hy3 : y3 = 0 := by have := HE.out; unfold errP at this; rw [← hy] at this; exact this
  subst hy3
  replace b1 := blk_later hb b1
  replace b2 := blk_later hb b2
  have HB := Lib.hid (hp0.trans (hb.mono hp0.size))
  clear hb hp0 hy
  have p0 := blk_cell b1 0
  have p1 := blk_cell b1 1
  have p2 := blk_cell b1 2
  have p3 := blk_cell b1 3
  have m0 := blk_cell b2 0
  have m1 := blk_cell b2 1
  have m2 := blk_cell b2 2
  have m3 := blk_cell b2 3
  obtain ⟨h1, hh⟩ : ∃ x, x = inI 0 (n1 - 1 : Int) fm := ⟨_, rfl⟩
  have Hh1 := Lib.hid hh
  clear hh
  go_wp2_with fail
  refine (in2_is fm 0 (n1 - 1 : Int) h1 Hh1.out _).mono ?_
  rintro e w3 ⟨rfl, hb⟩
  replace b1 := blk_later hb b1
  replace b2 := blk_later hb b2
  replace HB := Lib.hid (HB.out.trans (hb.mono HB.out.size))
  clear hb p0 p1 p2 p3 m0 m1 m2 m3
  have p0 := blk_cell b1 0
  have p1 := blk_cell b1 1
  have p2 := blk_cell b1 2
  have p3 := blk_cell b1 3
  have m0 := blk_cell b2 0
  have m1 := blk_cell b2 1
  have m2 := blk_cell b2 2
  have m3 := blk_cell b2 3
  cases h1 with
  | false =>
    have HF : Hid (z = 4) := Lib.hid (by rw [HZ.out, ← Hh1.out]; rfl)
    go_wp2_with fail
    go_ret
    exact ⟨by rw [(HF).out]; rfl, HB.out⟩
  | true =>
    have h1 : inI 0 (n1 - 1) fm = true := Hh1.out.symm
    obtain ⟨i, rfl⟩ : ∃ i : Nat, fm = i := ⟨fm.toNat, by simp only [inI, Bool.and_eq_true, decide_eq_true_eq] at h1; omega⟩
    have hi : i < n1 := by simp only [inI, Bool.and_eq_true, decide_eq_true_eq] at h1; omega
    have HZ2 : Hid (z = if inI 0 (n2 - 1) pp = false then 4 else if inI 1 p.sheets sh = false then 7 else if hf = true ∧ (sh ≠ 1 ∨ ∀ f, p.fmts[i]? = some f → f.folds.length = 1) then 2 else 0) := Lib.hid (by
      rw [HZ.out, h1]; simp)
    clear HZ h1 Hh1
    obtain ⟨h2, hh⟩ : ∃ x, x = inI 0 (n2 - 1 : Int) pp := ⟨_, rfl⟩
    have Hh2 := Lib.hid hh
    clear hh
    go_wp2_with fail
    refine (in2_is pp 0 (n2 - 1 : Int) h2 Hh2.out _).mono ?_
    rintro e w4 ⟨rfl, hb⟩
    replace b1 := blk_later hb b1
    replace b2 := blk_later hb b2
    replace HB := Lib.hid (HB.out.trans (hb.mono HB.out.size))
    clear hb p0 p1 p2 p3 m0 m1 m2 m3
    have p0 := blk_cell b1 0
    have p1 := blk_cell b1 1
    have p2 := blk_cell b1 2
    have p3 := blk_cell b1 3
    have m0 := blk_cell b2 0
    have m1 := blk_cell b2 1
    have m2 := blk_cell b2 2
    have m3 := blk_cell b2 3
    cases h2 with
    | false =>
      have HF : Hid (z = 4) := Lib.hid (by rw [HZ2.out, ← Hh2.out]; rfl)
      go_wp2_with fail
      go_ret
      exact ⟨by rw [(HF).out]; rfl, HB.out⟩
    | true =>
      have HZ3 : Hid (z = if inI 1 p.sheets sh = false then 7 else if hf = true ∧ (sh ≠ 1 ∨ ∀ f, p.fmts[i]? = some f → f.folds.length = 1) then 2 else 0) := Lib.hid (by
        rw [HZ2.out, ← Hh2.out]; simp)
      clear HZ2 Hh2
      obtain ⟨h3, hh⟩ : ∃ x, x = inI 1 p.sheets sh := ⟨_, rfl⟩
      have Hh3 := Lib.hid hh
      clear hh
      go_wp2_with fail
      refine (in2_is sh 1 p.sheets h3 Hh3.out _).mono ?_
      rintro e w5 ⟨rfl, hb⟩
      replace b1 := blk_later hb b1
      replace b2 := blk_later hb b2
      replace HB := Lib.hid (HB.out.trans (hb.mono HB.out.size))
      clear hb p0 p1 p2 p3 m0 m1 m2 m3
      have p0 := blk_cell b1 0
      have p1 := blk_cell b1 1
      have p2 := blk_cell b1 2
      have p3 := blk_cell b1 3
      have m0 := blk_cell b2 0
      have m1 := blk_cell b2 1
      have m2 := blk_cell b2 2
      have m3 := blk_cell b2 3
      cases h3 with
      | false =>
        have HF : Hid (z = 7) := Lib.hid (by rw [HZ3.out, ← Hh3.out]; rfl)
        go_wp2_with fail
        go_ret
        exact ⟨by rw [(HF).out]; rfl, HB.out⟩
      | true =>
        have HZ4 : Hid (z = if hf = true ∧ (sh ≠ 1 ∨ ∀ f, p.fmts[i]? = some f → f.folds.length = 1) then 2 else 0) := Lib.hid (by
          rw [HZ3.out, ← Hh3.out]; simp)
        clear HZ3 Hh3
        cases hf with
        | false =>
          have HF : Hid (z = 0) := Lib.hid (by rw [HZ4.out]; simp)
          go_wp2_with fail
          go_ret
          exact ⟨by rw [(HF).out]; rfl, HB.out⟩
        | true =>
          by_cases hs : sh = 1
          · subst hs
            obtain ⟨f, hfx⟩ : ∃ f, p.fmts[i]? = some f := ⟨_, List.getElem?_eq_getElem (by have := HN1.out; omega)⟩
            obtain ⟨b', off, rfl, hb', hc⟩ := HFC.out (fun h => by rw [h] at hfx; simp at hfx)
            have q1 : w5.cell? ⟨b', off + i * 2 + 1, none⟩ = some (S f.folds) := cell_later' HB.out (by have := hc i f hfx 1 _ rfl; simpa using this)
            have hl := fds_of_err (HFF.out f (List.mem_of_getElem? hfx))
            have HX := Lib.hid hfx
            have hzs : (⟨f.folds.toArray⟩ : ByteArray).size = f.folds.length := size_bytes f.folds
            obtain ⟨k, hk⟩ : ∃ k, k = f.folds.length := ⟨_, rfl⟩
            rw [← hk] at hl hzs
            have HK := Lib.hid hk
            clear hc hfx hk
            obtain ⟨hl1, hl2, -⟩ := hl
            by_cases h5 : k = 1
            · have HF : Hid (z = 2) := Lib.hid (by
                rw [HZ4.out, if_pos]
                exact ⟨rfl, Or.inr fun f' hf' => by rw [HX.out] at hf'; cases hf'; rw [← HK.out]; exact h5⟩)
              clear HZ4
              subst h5
              go_wp2_with fail
              go_ret
              exact ⟨by rw [(HF).out]; rfl, HB.out⟩
            · have HF : Hid (z = 0) := Lib.hid (by
                rw [HZ4.out, if_neg]
                rintro ⟨-, h | h⟩
                · exact h rfl
                · exact h5 (by rw [HK.out]; exact h f HX.out))
              have h5b : ((k : Int) == 1) = false := by simp; omega
              clear HZ4
              go_wp2_with fail
              go_ret
              exact ⟨by rw [(HF).out]; rfl, HB.out⟩
          · have HF : Hid (z = 2) := Lib.hid (by rw [HZ4.out, if_pos]; exact ⟨rfl, Or.inl hs⟩)
            have hsb : (sh != 1) = true := by simp [hs]
            clear HZ4 hs
            go_wp2_with fail
            go_ret
            exact ⟨by rw [(HF).out]; rfl, HB.out⟩
end Go.Proofs.YtnhacghjoikgpaaGreatDoor
