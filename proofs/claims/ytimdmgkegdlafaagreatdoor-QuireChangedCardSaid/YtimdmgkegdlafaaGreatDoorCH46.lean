/- The parts Lj of the proof, joined. It holds without conditions of its own. -/
import Derived.Test.YtimdmgkegdlafaaGreatDoorCH41
import Derived.Test.YtimdmgkegdlafaaGreatDoorCH20
import Derived.Test.YtimdmgkegdlafaaGreatDoorCH30
import Derived.Test.YtimdmgkegdlafaaGreatDoorCH24
import Derived.Test.YtimdmgkegdlafaaGreatDoorCH39
import Derived.Test.YtimdmgkegdlafaaGreatDoorCH45
/- The law QuireChanged: copies of a book with one change of one gathering. -/
namespace Go.Proofs.YtimdmgkegdlafaaGreatDoor
set_option linter.unusedSimpArgs false
set_option linter.unusedVariables false
open Go Go.RowKit Go.Sort Go.BigFrame Go.Shelf
attribute [local go_sem] Oper.semAt_some putAll

theorem addr_add (bb off j : Nat) : (⟨bb, off, none⟩ : Addr).add j = ⟨bb, off + j, none⟩ := by
  unfold Addr.add
  split <;> simp_all
theorem gtCells_cons (z : Gth × Value) (zs : List (Gth × Value)) : gtCells (z :: zs) = .int .i64 z.1.round :: .int .i64 z.1.letter :: .int .i64 z.1.leaves :: z.2 :: gtCells zs := by simp [gtCells, gtC]
theorem gtCells_length : ∀ zs : List (Gth × Value), (gtCells zs).length = zs.length * 4
  | [] => rfl
  | z :: zs => by rw [gtCells_cons]; simp only [List.length_cons, gtCells_length zs]; omega
theorem gtCells_at : ∀ (zs : List (Gth × Value)) (i : Nat) (z : Gth × Value), zs[i]? = some z → (gtCells zs)[i * 4]? = some (.int .i64 z.1.round) ∧ (gtCells zs)[i * 4 + 1]? = some (.int .i64 z.1.letter) ∧ (gtCells zs)[i * 4 + 2]? = some (.int .i64 z.1.leaves) ∧ (gtCells zs)[i * 4 + 3]? = some z.2
  | [], _, _, h => by cases h
  | y :: zs, 0, z, h => by
    simp only [List.getElem?_cons_zero, Option.some.injEq] at h
    subst h
    rw [gtCells_cons]
    exact ⟨rfl, rfl, rfl, rfl⟩
  | y :: zs, i + 1, z, h => by
    have ih := gtCells_at zs i z (by simpa using h)
    rw [gtCells_cons, show (i + 1) * 4 = i * 4 + 4 by omega]
    exact ih
theorem gtCells_set : ∀ (zs : List (Gth × Value)) (k : Nat) (z : Gth × Value), k < zs.length → ((((gtCells zs).set (k * 4) (.int .i64 z.1.round)).set (k * 4 + 1) (.int .i64 z.1.letter)).set (k * 4 + 2) (.int .i64 z.1.leaves)).set (k * 4 + 3) z.2 = gtCells (zs.set k z)
  | [], k, z, h => by cases h
  | y :: zs, 0, z, h => by
    show _ = gtCells (z :: zs)
    rw [gtCells_cons, gtCells_cons]
    rfl
  | y :: zs, k + 1, z, h => by
    have ih := gtCells_set zs k z (by simpa using h)
    rw [gtCells_cons, List.set_cons_succ, gtCells_cons, show (k + 1) * 4 = k * 4 + 4 by omega, ← ih]
    rfl
/-- What lies in memory of a book's gatherings, as a list. -/
theorem gs_list {B : Nat} {w : World} {bb off n cap : Nat} {gs : List Gth} (h : GsAt B w (.slice (some ⟨bb, off, none⟩) n cap) gs) :
    ∃ zs : List (Gth × Value), zs.map (·.1) = gs ∧ (∀ z ∈ zs, ∃ ca ccap, z.2 = .slice ca z.1.chs.length ccap ∧ ChsAt B w z.2 z.1.chs) ∧ ∀ j u, (gtCells zs)[j]? = some u → w.cell? ((⟨bb, off, none⟩ : Addr).add j) = some u := by
  have hch : ∀ i : Nat, ∃ cv : Value, ∀ g, gs[i]? = some g → (∃ ca ccap, cv = .slice ca g.chs.length ccap ∧ ChsAt B w cv g.chs) ∧ w.cell? ⟨bb, off + i * 4, none⟩ = some (.int .i64 g.round) ∧ w.cell? ⟨bb, off + i * 4 + 1, none⟩ = some (.int .i64 g.letter) ∧
      w.cell? ⟨bb, off + i * 4 + 2, none⟩ = some (.int .i64 g.leaves) ∧ w.cell? ⟨bb, off + i * 4 + 3, none⟩ = some cv := by
    intro i
    cases hg : gs[i]? with
    | none => exact ⟨.slice none 0 0, fun g h => by cases h⟩
    | some g =>
      obtain ⟨bb', off', e, -, ca, ccap, hc, h0, h1, h2, h3⟩ := h.get hg
      cases e
      refine ⟨.slice ca g.chs.length ccap, fun g' hg' => ?_⟩
      simp only [Option.some.injEq] at hg'
      subst hg'
      exact ⟨⟨ca, ccap, rfl, hc⟩, h0, h1, h2, h3⟩
  obtain ⟨F, hF⟩ : ∃ F : Nat → Value, ∀ i g, gs[i]? = some g → (∃ ca ccap, F i = .slice ca g.chs.length ccap ∧ ChsAt B w (F i) g.chs) ∧ w.cell? ⟨bb, off + i * 4, none⟩ = some (.int .i64 g.round) ∧ w.cell? ⟨bb, off + i * 4 + 1, none⟩ = some (.int .i64 g.letter) ∧
      w.cell? ⟨bb, off + i * 4 + 2, none⟩ = some (.int .i64 g.leaves) ∧ w.cell? ⟨bb, off + i * 4 + 3, none⟩ = some (F i) := ⟨fun i => Classical.choose (hch i), fun i => Classical.choose_spec (hch i)⟩
  clear hch
  refine ⟨gs.zipIdx.map fun p => (p.1, F p.2), ?_, ?_, ?_⟩
  · rw [List.map_map]
    exact List.zipIdx_map_fst 0 gs
  · intro z hz
    obtain ⟨p, hp, rfl⟩ := List.mem_map.1 hz
    have hp' : gs[p.2]? = some p.1 := List.mem_zipIdx_iff_getElem?.1 hp
    exact (hF p.2 p.1 hp').1
  · intro j u hj
    have hlen := (List.getElem?_eq_some_iff.1 hj).1
    rw [gtCells_length, List.length_map, List.length_zipIdx] at hlen
    obtain ⟨g, hg⟩ : ∃ g, gs[j / 4]? = some g := ⟨_, List.getElem?_eq_getElem (by omega)⟩
    have hz : (gs.zipIdx.map fun p => (p.1, F p.2))[j / 4]? = some (g, F (j / 4)) := by
      rw [List.getElem?_map, List.getElem?_zipIdx, hg]
      simp
    obtain ⟨c0, c1, c2, c3⟩ := gtCells_at _ _ _ hz
    obtain ⟨-, m0, m1, m2, m3⟩ := hF (j / 4) g hg
    rw [addr_add]
    have hr : j = j / 4 * 4 ∨ j = j / 4 * 4 + 1 ∨ j = j / 4 * 4 + 2 ∨ j = j / 4 * 4 + 3 := by omega
    have e : ∀ q, j = j / 4 * 4 + q → off + j = off + j / 4 * 4 + q := fun q hq => by omega
    rcases hr with hr | hr | hr | hr
    · rw [hr, c0] at hj
      rw [e 0 hr, ← hj]
      exact m0
    · rw [hr, c1] at hj
      rw [e 1 hr, ← hj]
      exact m1
    · rw [hr, c2] at hj
      rw [e 2 hr, ← hj]
      exact m2
    · rw [hr, c3] at hj
      rw [e 3 hr, ← hj]
      exact m3
theorem gtCells_one {zs : List (Gth × Value)} (h : ∀ z ∈ zs, ∃ ca n ccap, z.2 = .slice ca n ccap) : ∀ u ∈ gtCells zs, u.oneCell' = true := by
  intro u hu
  obtain ⟨z, hz, hu⟩ := List.mem_flatMap.1 hu
  obtain ⟨ca, n, ccap, e⟩ := h z hz
  simp only [gtC, List.mem_cons, List.not_mem_nil, or_false] at hu
  rcases hu with rfl | rfl | rfl | rfl
  · rfl
  · rfl
  · rfl
  · rw [e]; rfl
/-- A gathering stored into a row of one's own. -/
theorem row_set {W : World} {base g n cap : Nat} {zs : List (Gth × Value)} (h : W.ownsRow base 42 4 (.slice (some ⟨g, 0, none⟩) n cap) n (gtCells zs)) (hn : zs.length = n) {k : Nat} (hk : k < n) (z : Gth × Value) :
    ((((W.setCell ⟨g, k * 4, none⟩ (.int .i64 z.1.round)).setCell ⟨g, k * 4 + 1, none⟩ (.int .i64 z.1.letter)).setCell ⟨g, k * 4 + 2, none⟩ (.int .i64 z.1.leaves)).setCell ⟨g, k * 4 + 3, none⟩ z.2).ownsRow base 42 4 (.slice (some ⟨g, 0, none⟩) n cap) n (gtCells (zs.set k z)) := by
  have h1 := (h.stored (k * 4) (.int .i64 z.1.round)).1
  have h2 := (h1.stored (k * 4 + 1) (.int .i64 z.1.letter)).1
  have h3 := (h2.stored (k * 4 + 2) (.int .i64 z.1.leaves)).1
  have h4 := (h3.stored (k * 4 + 3) z.2).1
  rw [gtCells_set zs k z (by omega)] at h4
  exact h4
/-- Storing into a block: what lies in others stays. -/
structure Only (g : Nat) (W W' : World) : Prop where
  size : W'.heap.size = W.heap.size
  block : ∀ k, k ≠ g → W'.heap[k]? = W.heap[k]?
  tape : W'.tape = W.tape
  os : W'.os = W.os
  output : W'.output = W.output
theorem Only.set (g j : Nat) (u : Value) {W0 W : World} (h : Only g W0 W) : Only g W0 (W.setCell ⟨g, j, none⟩ u) :=
  ⟨by simpa using h.size, fun k hk => (heap_setCell_past _ _ _ _ hk).trans (h.block k hk), h.tape, h.os, h.output⟩
theorem Only.refl (g : Nat) (W : World) : Only g W W := ⟨rfl, fun _ _ => rfl, rfl, rfl, rfl⟩
theorem Only.below {g B : Nat} {w W W' : World} (h : Only g W W') (hb : Below B w W) (hg : B ≤ g) : Below B w W' :=
  ⟨h.os.trans hb.os, h.tape.trans hb.tape, h.output.trans hb.output, by rw [h.size]; exact hb.size, fun k hk => (h.block k (by omega)).trans (hb.block k hk)⟩
theorem Only.grown {g : Nat} {W W' : World} (h : Only g W W') : W.grownBy W' (some g) :=
  ⟨h.os, h.tape, h.output, Nat.le_of_eq h.size.symm, fun k _ hk => h.block k (fun e => hk (by rw [e]))⟩
theorem Held.only1 {w W W' : World} {bs : List (Nat × Obj)} {g : Nat} (h : Held w bs W) (ho : Only g W W') (hg : w.heap.size ≤ g) (hne : ∀ p ∈ bs, p.1 ≠ g) : Held w bs W' :=
  ⟨ho.below h.below hg, fun p hp => (ho.block _ (hne p hp)).trans (h.at_ p hp)⟩
theorem row_kept1 {W W' : World} {base g h n m cap : Nat} {e : TypeId} {s : Nat} {xs : List Value} (hr : W.ownsRow base e s (.slice (some ⟨h, 0, none⟩) n cap) m xs) (ho : Only g W W') (hne : h ≠ g) : W'.ownsRow base e s (.slice (some ⟨h, 0, none⟩) n cap) m xs :=
  hr.kept ho.grown (.inr (by simp [Value.ownBlock, hne]))
theorem Held.add {w W : World} {bs : List (Nat × Obj)} (h : Held w bs W) (o : Obj) : Held w ((W.heap.size, o) :: bs) (W.alloc o) := by
  have hb := h.below' ((Below.refl W.heap.size W).alloc (Nat.le_refl _) o)
  refine ⟨hb.below, fun p hp => ?_⟩
  rcases List.mem_cons.1 hp with rfl | hp
  · exact World.alloc_heap_new _ _
  · exact hb.at_ p hp
theorem Held.drop {w W : World} {bs : List (Nat × Obj)} {p : Nat × Obj} (h : Held w (p :: bs) W) : Held w bs W := ⟨h.below, fun q hq => h.at_ q (List.mem_cons_of_mem _ hq)⟩
theorem cell_al3 {W : World} {b i : Nat} {v : Value} (h : W.cell? ⟨b, i, none⟩ = some v) (hb : b < W.heap.size) (o o' o'' : Obj) : (((W.alloc o).alloc o').alloc o'').cell? ⟨b, i, none⟩ = some v :=
  cell_al (cell_al2 h hb o o') (by simp; omega) o''

set_option maxRecDepth 100000 in
set_option maxHeartbeats 400000 in
theorem QuireChanged_bad (b : Bk) (v : Value) (x y : Nat) (w : World) (hb : BookAt w.heap.size w v b) (he : errF b ≠ 0) :
    Calls Tryz.prog 6 #[v, .agg #[.int .u8 x, .int .u8 y]] w fun e w' => e = .returned (.bool true) ∧ Below w.heap.size w w' := by
  obtain ⟨sv, rfl, hgs⟩ := hb
  have hb : BookAt w.heap.size w (.agg #[.int .i64 b.signed, sv]) b := ⟨sv, rfl, hgs⟩
  obtain ⟨a, cap, rfl, -⟩ := hgs
  have HK := Lib.hid ((BkBox.start hb).later (W' := (w.alloc (.cells #[.int .i64 b.signed, .slice a b.gs.length cap] 24)).alloc (.cells #[.int .u8 x, .int .u8 y] 37)) ((Below.refl _ _).alloc (Nat.le_refl _) _))
  clear hb
  have heq : (errF b == 0) = false := by simp [he]
  clear he
  have c0 := blk_cell HK.out.box 0; have c1 := blk_cell HK.out.box 1
  go_enter Tryz.func6, Tryz.ntmps6
  go_wp2_with fail
  refine (valid_any b _ _ HK.out.book).mono ?_
  rintro e w1 ⟨rfl, hb1⟩
  rw [heq]
  have HK := Lib.hid (HK.out.later hb1)
  clear hb1
  go_wp2_with fail
  refine (Awake_any _).mono ?_
  rintro e w2 ⟨rfl, hb2⟩
  have HK := Lib.hid (HK.out.later hb2)
  clear hb2
  go_wp2_with fail
  go_ret
  exact ⟨rfl, HK.out.below⟩
end Go.Proofs.YtimdmgkegdlafaaGreatDoor
