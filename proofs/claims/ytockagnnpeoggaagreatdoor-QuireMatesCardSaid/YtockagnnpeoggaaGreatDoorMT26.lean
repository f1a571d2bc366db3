/- The parts Cn, Rh of the proof, joined. It holds without conditions of its own. -/
import Derived.Test.YtockagnnpeoggaaGreatDoorMT25
import Derived.Test.YtockagnnpeoggaaGreatDoorMT12
import Derived.Test.YtockagnnpeoggaaGreatDoorMT22
/- The reference's Leaves. -/
namespace Go.Proofs.YtockagnnpeoggaaGreatDoor
set_option linter.unusedSimpArgs false
set_option linter.unusedVariables false
open Go Go.RowKit Go.Sort Go.BigFrame Go.Shelf
attribute [local go_sem] Oper.semAt_some putAll

set_option maxRecDepth 100000 in
set_option maxHeartbeats 400000 in
theorem refLeaves_bad (b : Bk) (v : Value) (w : World) (hb : BookAt w.heap.size w v b) (he : errF b ≠ 0) :
    Calls Tryz.prog 18 #[v] w fun e w' => e = .returned (.tuple #[.slice none 0 0, .int .i64 (errF b)]) ∧ Below w.heap.size w w' := by
  obtain ⟨sv, rfl, hgs⟩ := hb
  have hb : BookAt w.heap.size w (.agg #[.int .i64 b.signed, sv]) b := ⟨sv, rfl, hgs⟩
  obtain ⟨a, cap, rfl, -⟩ := hgs
  have HK := Lib.hid (BkBox.start hb)
  clear hb
  have hne : (errF b != 0) = true := by simp [he]
  have HV : Hid (checkR b = .tuple #[.int .i64 (checkF b).1, .int .i64 (checkF b).2.1, .int .i64 (errF b)]) := Lib.hid rfl
  clear he
  have c0 := blk_cell HK.out.box 0; have c1 := blk_cell HK.out.box 1
  go_enter Tryz.func18, Tryz.ntmps18
  go_wp2_with fail
  refine (refCheck_any b _ _ HK.out.book).mono ?_
  rintro e w1 ⟨rfl, hb1⟩
  rw [HV.out]
  have HK := Lib.hid (HK.out.later hb1)
  clear hb1 c0 c1
  go_wp2_with fail
  go_ret2
  exact ⟨rfl, HK.out.below⟩

set_option maxRecDepth 100000 in
set_option maxHeartbeats 400000 in
theorem refLeaves_good (b : Bk) (v : Value) (w : World) (hb : BookAt w.heap.size w v b) (he : errF b = 0) :
    Calls Tryz.prog 18 #[v] w fun e w' => (∃ v', e = .returned (.tuple #[v', .int .i64 0]) ∧ LfsAt w' v' (lvs b)) ∧ Below w.heap.size w w' := by
  obtain ⟨sv, rfl, hgs⟩ := hb
  have hb : BookAt w.heap.size w (.agg #[.int .i64 b.signed, sv]) b := ⟨sv, rfl, hgs⟩
  obtain ⟨a, cap, rfl, -⟩ := hgs
  have HK := Lib.hid (BkBox.start hb)
  clear hb
  have HV : Hid (checkR b = .tuple #[.int .i64 (checkF b).1, .int .i64 (checkF b).2.1, .int .i64 0]) := Lib.hid (by rw [checkR_eq]; unfold errF at he; rw [he])
  have HE := Lib.hid he
  clear he
  have c0 := blk_cell HK.out.box 0; have c1 := blk_cell HK.out.box 1
  go_enter Tryz.func18, Tryz.ntmps18
  go_wp2_with fail
  refine (refCheck_any b _ _ HK.out.book).mono ?_
  rintro e w1 ⟨rfl, hb1⟩
  rw [HV.out]
  have HK := Lib.hid (HK.out.later hb1)
  clear hb1 c0 c1
  have c0 := blk_cell HK.out.box 0; have c1 := blk_cell HK.out.box 1
  go_wp2_with fail
  refine (refAll_any b _ _ HK.out.book (errF_zero HE.out)).mono ?_
  rintro e w2 ⟨⟨v', rfl, hrow⟩, hb2⟩
  have hL := LfsAt.of_row hrow
  have HK := Lib.hid (HK.out.later hb2)
  clear hb2 c0 c1 hrow
  have HL := Lib.hid hL
  clear hL
  go_wp2_with fail
  go_ret2
  exact ⟨⟨_, rfl, HL.out⟩, HK.out.below⟩

end Go.Proofs.YtockagnnpeoggaaGreatDoor

/- The statement that ranges over a function and looks for the first element of a kind. For any program. -/
namespace Go.Proofs.YtockagnnpeoggaaGreatDoor
set_option linter.unusedSimpArgs false
set_option linter.unusedVariables false
open Go Go.RowKit

theorem rf_find {P : Program} {n : Nat} {α : Type} {g : Operand} {ps : Array Tmp} {assign body : Code} {Q : Exit → Act → World → Prop} {a : Act} {w : World}
    {gf : Nat} {lb : Array Value} (hg : a.eval g = .func (.func gf) #[] lb) (eg : ∀ args w, (callFunc gf args).run P w = .ok (.enter gf args) w)
    {encs : α → Array Value} {xs : List α} {Pr : Nat → Prop} (hit : ItC P gf lb encs xs Pr w) (hps : ∀ x, (encs x).size = ps.size) (hPr : ∀ k, Pr k → k < w.heap.size)
    (w0 : World) (bs : List (Nat × Obj)) (p : α → Bool) (bsR : α → List (Nat × Obj)) (Xr : Nat → Prop) (o : α → Obj) (upd : α → Nat → List (Nat × Value))
    (hbs : ∀ q ∈ bs, q.1 < w.heap.size) (hbsR : ∀ x, ∀ q ∈ bsR x, q.1 < w.heap.size) (hXr : ∀ k, Xr k → k < w.heap.size ∧ ¬ Pr k) (h0 : Held w0 bs w)
    (hassign : ∀ (l : Nat) (x : α) (W : World) (K : Act → World → Prop), K { tmps := putAll a.tmps (upd x W.heap.size), defers := [] } (W.alloc (o x)) →
      assign.wpIn (Fence.wide.inRound l) 9 P (Exit.then K (fun _ _ _ => False)) { tmps := (ps.zip (encs x)).foldl (fun t (p, v) => t.setIfInBounds p v) a.tmps, defers := [] } W)
    (hbody : ∀ (l : Nat) (pre : List α) (x : α) (rest : List α) (bx : Nat) (W : World), xs = pre ++ x :: rest → Held w0 bs W → W.heap[bx]? = some (o x) → w.heap.size ≤ bx →
      body.wpIn (Fence.wide.inRound l) 9 P (fun e _ W' => (p x = true ∧ e = .ret ∧ OnlyIn Xr W W' ∧ Held w0 (bsR x) W') ∨ (p x = false ∧ e = .normal ∧ Below W.heap.size W W')) { tmps := putAll a.tmps (upd x bx), defers := [] } W)
    (hdone : ∀ (D : Nat) (W : World), w.heap.size ≤ D → Held w0 bs W → (∀ y ∈ xs, p y = false) → W.heap[D]? = some (.deferred (some [])) → Q .normal { a with defers := { target := .collected D, args := #[] } :: a.defers } W)
    (hstop : ∀ (D : Nat) (pre : List α) (x : α) (rest : List α) (W : World), w.heap.size ≤ D → xs = pre ++ x :: rest → (∀ y ∈ pre, p y = false) → p x = true → Held w0 (bsR x) W → W.heap[D]? = some (.deferred (some [])) → Code.ret.wpIn Fence.wide n P Q { a with defers := { target := .collected D, args := #[] } :: a.defers } W) :
    (Code.rangeFunc g ps assign body).wpIn Fence.wide n P Q a w := by
  refine rf_law2 hg eg hit hps hPr (fun pre W => Held w0 bs W ∧ (∀ y ∈ pre, p y = false) ∧ w.heap.size ≤ W.heap.size)
    (fun c _ W => c = .ret ∧ ∃ pre x rest, xs = pre ++ x :: rest ∧ (∀ y ∈ pre, p y = false) ∧ p x = true ∧ Held w0 (bsR x) W) (fun _ _ => False) o upd (fun _ _ _ _ h => h.elim) ?_ ?_
    ⟨h0, fun _ h => (by cases h), Nat.le_refl _⟩ hassign ?_ ?_ ?_
  · rintro pre X W W' ⟨h1, h2, h3⟩ ho hX
    exact ⟨⟨h1.only ho (hs := w.heap.size) (fun k h => (hX k h).1) h0.below.size hbs, h2, Nat.le_trans h3 ho.size⟩, fun k h => h.elim⟩
  · rintro c pre X W W' ⟨hc, pre', x, rest, h1, h2, h3, h4⟩ ho hX
    exact ⟨hc, pre', x, rest, h1, h2, h3, h4.only ho (hs := w.heap.size) hX h0.below.size (hbsR x)⟩
  · rintro l pre x rest bx W hsp ⟨h1, h2, h3⟩ hbx hlb -
    refine wpIn_mono (hbody l pre x rest bx W hsp h1 hbx hlb) ?_
    rintro e a' W' (⟨hp, rfl, ho, hh⟩ | ⟨hp, rfl, hb⟩)
    · exact ⟨Turn.of ho hXr (fun k hk => Nat.lt_of_lt_of_le (hPr k hk) h3), rfl, pre, x, rest, hsp, h2, hp, hh⟩
    · refine ⟨Turn.of (X := fun _ => False) (OnlyIn.of_below hb) (fun k hk => hk.elim) (fun k hk => Nat.lt_of_lt_of_le (hPr k hk) h3), h1.below' hb, fun y hy => ?_, Nat.le_trans h3 hb.size⟩
      rcases List.mem_append.1 hy with hy | hy
      · exact h2 y hy
      · simp only [List.mem_singleton] at hy; rw [hy]; exact hp
  · rintro D W hD ⟨h1, h2, -⟩ hd
    exact hdone D W hD h1 h2 hd
  · rintro D c pre W hD ⟨rfl, pre', x, rest, h1, h2, h3, h4⟩ hd
    exact hstop D pre' x rest W hD h1 h2 h3 h4 hd

end Go.Proofs.YtockagnnpeoggaaGreatDoor
