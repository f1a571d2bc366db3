/- The parts Lj, Lt of the proof, joined. It holds without conditions of its own. -/
import Derived.Test.YtlfglbnbenaghaaGreatDoorTX24
import Derived.Test.YtlfglbnbenaghaaGreatDoorTX10
import Derived.Test.YtlfglbnbenaghaaGreatDoorTX15
import Derived.Test.YtlfglbnbenaghaaGreatDoorTX12
import Derived.Test.YtlfglbnbenaghaaGreatDoorTX22
import Derived.Test.YtlfglbnbenaghaaGreatDoorTX28
import Derived.Test.YtlfglbnbenaghaaGreatDoorTX23
/- The law QuireChanged: copies of a book with one change of one gathering. -/
namespace Go.Proofs.YtlfglbnbenaghaaGreatDoor
set_option linter.unusedSimpArgs false
set_option linter.unusedVariables false
open Go Go.RowKit Go.Sort Go.BigFrame Go.Shelf
attribute [local go_sem] Oper.semAt_some putAll

theorem addr_add (bb off j : Nat) : (⟨bb, off, none⟩ : Addr).add j = ⟨bb, off + j, none⟩ := by
  unfold Addr.add
  split <;> simp_all
theorem gtCells_cons (z : Gth × Value) (zs : List (Gth × Value)) : gtCells (z :: zs) = .int .i64 z.1.round :: .int .i64 z.1.letter :: .int .i64 z.1.leaves :: z.2 :: gtCells zs := by simp [gtCells, gtC]
theorem gtCells_length : ∀ zs : List (Gth × Value), (gtCells zs).length = zs.length * 4
  | [] => rfl
  | z :: zs => by rw [gtCells_cons]; simp only [List.length_cons, gtCells_length zs]; omega
theorem gtCells_at : ∀ (zs : List (Gth × Value)) (i : Nat) (z : Gth × Value), zs[i]? = some z → (gtCells zs)[i * 4]? = some (.int .i64 z.1.round) ∧ (gtCells zs)[i * 4 + 1]? = some (.int .i64 z.1.letter) ∧ (gtCells zs)[i * 4 + 2]? = some (.int .i64 z.1.leaves) ∧ (gtCells zs)[i * 4 + 3]? = some z.2
  | [], _, _, h => by cases h
  | y :: zs, 0, z, h => by
    simp only [List.getElem?_cons_zero, Option.some.injEq] at h
    subst h
    rw [gtCells_cons]
    exact ⟨rfl, rfl, rfl, rfl⟩
  | y :: zs, i + 1, z, h => by
    have ih := gtCells_at zs i z (by simpa using h)
    rw [gtCells_cons, show (i + 1) * 4 = i * 4 + 4 by omega]
    exact ih
theorem gtCells_set : ∀ (zs : List (Gth × Value)) (k : Nat) (z : Gth × Value), k < zs.length → ((((gtCells zs).set (k * 4) (.int .i64 z.1.round)).set (k * 4 + 1) (.int .i64 z.1.letter)).set (k * 4 + 2) (.int .i64 z.1.leaves)).set (k * 4 + 3) z.2 = gtCells (zs.set k z)
  | [], k, z, h => by cases h
  | y :: zs, 0, z, h => by
    show _ = gtCells (z :: zs)
    rw [gtCells_cons, gtCells_cons]
    rfl
  | y :: zs, k + 1, z, h => by
    have ih := gtCells_set zs k z (by simpa using h)
    rw [gtCells_cons, List.set_cons_succ, gtCells_cons, show (k + 1) * 4 = k * 4 + 4 by omega, ← ih]
    rfl
/-- What lies in memory of a book's gatherings, as a list. -/
theorem gs_list {B : Nat} {w : World} {bb off n cap : Nat} {gs : List Gth} (h : GsAt B w (.slice (some ⟨bb, off, none⟩) n cap) gs) :
    ∃ zs : List (Gth × Value), zs.map (·.1) = gs ∧ (∀ z ∈ zs, ∃ ca ccap, z.2 = .slice ca z.1.chs.length ccap ∧ ChsAt B w z.2 z.1.chs) ∧ ∀ j u, (gtCells zs)[j]? = some u → w.cell? ((⟨bb, off, none⟩ : Addr).add j) = some u := by
  have hch : ∀ i : Nat, ∃ cv : Value, ∀ g, gs[i]? = some g → (∃ ca ccap, cv = .slice ca g.chs.length ccap ∧ ChsAt B w cv g.chs) ∧ w.cell? ⟨bb, off + i * 4, none⟩ = some (.int .i64 g.round) ∧ w.cell? ⟨bb, off + i * 4 + 1, none⟩ = some (.int .i64 g.letter) ∧
      w.cell? ⟨bb, off + i * 4 + 2, none⟩ = some (.int .i64 g.leaves) ∧ w.cell? ⟨bb, off + i * 4 + 3, none⟩ = some cv := by
    intro i
    cases hg : gs[i]? with
    | none => exact ⟨.slice none 0 0, fun g h => by cases h⟩
    | some g =>
      obtain ⟨bb', off', e, -, ca, ccap, hc, h0, h1, h2, h3⟩ := h.get hg
      cases e
      refine ⟨.slice ca g.chs.length ccap, fun g' hg' => ?_⟩
      simp only [Option.some.injEq] at hg'
      subst hg'
      exact ⟨⟨ca, ccap, rfl, hc⟩, h0, h1, h2, h3⟩
  obtain ⟨F, hF⟩ : ∃ F : Nat → Value, ∀ i g, gs[i]? = some g → (∃ ca ccap, F i = .slice ca g.chs.length ccap ∧ ChsAt B w (F i) g.chs) ∧ w.cell? ⟨bb, off + i * 4, none⟩ = some (.int .i64 g.round) ∧ w.cell? ⟨bb, off + i * 4 + 1, none⟩ = some (.int .i64 g.letter) ∧
      w.cell? ⟨bb, off + i * 4 + 2, none⟩ = some (.int .i64 g.leaves) ∧ w.cell? ⟨bb, off + i * 4 + 3, none⟩ = some (F i) := ⟨fun i => Classical.choose (hch i), fun i => Classical.choose_spec (hch i)⟩
  clear hch
  refine ⟨gs.zipIdx.map fun p => (p.1, F p.2), ?_, ?_, ?_⟩
  · rw [List.map_map]
    exact List.zipIdx_map_fst 0 gs
  · intro z hz
    obtain ⟨p, hp, rfl⟩ := List.mem_map.1 hz
    have hp' : gs[p.2]? = some p.1 := List.mem_zipIdx_iff_getElem?.1 hp
    exact (hF p.2 p.1 hp').1
  · intro j u hj
    have hlen := (List.getElem?_eq_some_iff.1 hj).1
    rw [gtCells_length, List.length_map, List.length_zipIdx] at hlen
    obtain ⟨g, hg⟩ : ∃ g, gs[j / 4]? = some g := ⟨_, List.getElem?_eq_getElem (by omega)⟩
    have hz : (gs.zipIdx.map fun p => (p.1, F p.2))[j / 4]? = some (g, F (j / 4)) := by
      rw [List.getElem?_map, List.getElem?_zipIdx, hg]
      simp
    obtain ⟨c0, c1, c2, c3⟩ := gtCells_at _ _ _ hz
    obtain ⟨-, m0, m1, m2, m3⟩ := hF (j / 4) g hg
    rw [addr_add]
    have hr : j = j / 4 * 4 ∨ j = j / 4 * 4 + 1 ∨ j = j / 4 * 4 + 2 ∨ j = j / 4 * 4 + 3 := by omega
    have e : ∀ q, j = j / 4 * 4 + q → off + j = off + j / 4 * 4 + q := fun q hq => by omega
    rcases hr with hr | hr | hr | hr
    · rw [hr, c0] at hj
      rw [e 0 hr, ← hj]
      exact m0
    · rw [hr, c1] at hj
      rw [e 1 hr, ← hj]
      exact m1
    · rw [hr, c2] at hj
      rw [e 2 hr, ← hj]
      exact m2
    · rw [hr, c3] at hj
      rw [e 3 hr, ← hj]
      exact m3
theorem gtCells_one {zs : List (Gth × Value)} (h : ∀ z ∈ zs, ∃ ca n ccap, z.2 = .slice ca n ccap) : ∀ u ∈ gtCells zs, u.oneCell' = true := by
  intro u hu
  obtain ⟨z, hz, hu⟩ := List.mem_flatMap.1 hu
  obtain ⟨ca, n, ccap, e⟩ := h z hz
  simp only [gtC, List.mem_cons, List.not_mem_nil, or_false] at hu
  rcases hu with rfl | rfl | rfl | rfl
  · rfl
  · rfl
  · rfl
  · rw [e]; rfl
/-- A gathering stored into a row of one's own. -/
theorem row_set {W : World} {base g n cap : Nat} {zs : List (Gth × Value)} (h : W.ownsRow base 42 4 (.slice (some ⟨g, 0, none⟩) n cap) n (gtCells zs)) (hn : zs.length = n) {k : Nat} (hk : k < n) (z : Gth × Value) :
    ((((W.setCell ⟨g, k * 4, none⟩ (.int .i64 z.1.round)).setCell ⟨g, k * 4 + 1, none⟩ (.int .i64 z.1.letter)).setCell ⟨g, k * 4 + 2, none⟩ (.int .i64 z.1.leaves)).setCell ⟨g, k * 4 + 3, none⟩ z.2).ownsRow base 42 4 (.slice (some ⟨g, 0, none⟩) n cap) n (gtCells (zs.set k z)) := by
  have h1 := (h.stored (k * 4) (.int .i64 z.1.round)).1
  have h2 := (h1.stored (k * 4 + 1) (.int .i64 z.1.letter)).1
  have h3 := (h2.stored (k * 4 + 2) (.int .i64 z.1.leaves)).1
  have h4 := (h3.stored (k * 4 + 3) z.2).1
  rw [gtCells_set zs k z (by omega)] at h4
  exact h4
/-- Storing into a block: what lies in others stays. -/
structure Only (g : Nat) (W W' : World) : Prop where
  size : W'.heap.size = W.heap.size
  block : ∀ k, k ≠ g → W'.heap[k]? = W.heap[k]?
  tape : W'.tape = W.tape
  os : W'.os = W.os
  output : W'.output = W.output
theorem Only.set (g j : Nat) (u : Value) {W0 W : World} (h : Only g W0 W) : Only g W0 (W.setCell ⟨g, j, none⟩ u) :=
  ⟨by simpa using h.size, fun k hk => (heap_setCell_past _ _ _ _ hk).trans (h.block k hk), h.tape, h.os, h.output⟩
theorem Only.refl (g : Nat) (W : World) : Only g W W := ⟨rfl, fun _ _ => rfl, rfl, rfl, rfl⟩
theorem Only.below {g B : Nat} {w W W' : World} (h : Only g W W') (hb : Below B w W) (hg : B ≤ g) : Below B w W' :=
  ⟨h.os.trans hb.os, h.tape.trans hb.tape, h.output.trans hb.output, by rw [h.size]; exact hb.size, fun k hk => (h.block k (by omega)).trans (hb.block k hk)⟩
theorem Only.grown {g : Nat} {W W' : World} (h : Only g W W') : W.grownBy W' (some g) :=
  ⟨h.os, h.tape, h.output, Nat.le_of_eq h.size.symm, fun k _ hk => h.block k (fun e => hk (by rw [e]))⟩
theorem Held.only1 {w W W' : World} {bs : List (Nat × Obj)} {g : Nat} (h : Held w bs W) (ho : Only g W W') (hg : w.heap.size ≤ g) (hne : ∀ p ∈ bs, p.1 ≠ g) : Held w bs W' :=
  ⟨ho.below h.below hg, fun p hp => (ho.block _ (hne p hp)).trans (h.at_ p hp)⟩
theorem row_kept1 {W W' : World} {base g h n m cap : Nat} {e : TypeId} {s : Nat} {xs : List Value} (hr : W.ownsRow base e s (.slice (some ⟨h, 0, none⟩) n cap) m xs) (ho : Only g W W') (hne : h ≠ g) : W'.ownsRow base e s (.slice (some ⟨h, 0, none⟩) n cap) m xs :=
  hr.kept ho.grown (.inr (by simp [Value.ownBlock, hne]))
theorem Held.add {w W : World} {bs : List (Nat × Obj)} (h : Held w bs W) (o : Obj) : Held w ((W.heap.size, o) :: bs) (W.alloc o) := by
  have hb := h.below' ((Below.refl W.heap.size W).alloc (Nat.le_refl _) o)
  refine ⟨hb.below, fun p hp => ?_⟩
  rcases List.mem_cons.1 hp with rfl | hp
  · exact World.alloc_heap_new _ _
  · exact hb.at_ p hp
theorem Held.drop {w W : World} {bs : List (Nat × Obj)} {p : Nat × Obj} (h : Held w (p :: bs) W) : Held w bs W := ⟨h.below, fun q hq => h.at_ q (List.mem_cons_of_mem _ hq)⟩
theorem cell_al3 {W : World} {b i : Nat} {v : Value} (h : W.cell? ⟨b, i, none⟩ = some v) (hb : b < W.heap.size) (o o' o'' : Obj) : (((W.alloc o).alloc o').alloc o'').cell? ⟨b, i, none⟩ = some v :=
  cell_al (cell_al2 h hb o o') (by simp; omega) o''

set_option maxRecDepth 100000 in
set_option maxHeartbeats 400000 in
theorem QuireChanged_bad (b : Bk) (v : Value) (x y : Nat) (w : World) (hb : BookAt w.heap.size w v b) (he : errF b ≠ 0) :
    Calls Tryz.prog 6 #[v, .agg #[.int .u8 x, .int .u8 y]] w fun e w' => e = .returned (.bool true) ∧ Below w.heap.size w w' := by
  obtain ⟨sv, rfl, hgs⟩ := hb
  have hb : BookAt w.heap.size w (.agg #[.int .i64 b.signed, sv]) b := ⟨sv, rfl, hgs⟩
  obtain ⟨a, cap, rfl, -⟩ := hgs
  have HK := Lib.hid ((BkBox.start hb).later (W' := (w.alloc (.cells #[.int .i64 b.signed, .slice a b.gs.length cap] 24)).alloc (.cells #[.int .u8 x, .int .u8 y] 37)) ((Below.refl _ _).alloc (Nat.le_refl _) _))
  clear hb
  have heq : (errF b == 0) = false := by simp [he]
  clear he
  have c0 := blk_cell HK.out.box 0; have c1 := blk_cell HK.out.box 1
  go_enter Tryz.func6, Tryz.ntmps6
  go_wp2_with fail
  refine (valid_any b _ _ HK.out.book).mono ?_
  rintro e w1 ⟨rfl, hb1⟩
  rw [heq]
  have HK := Lib.hid (HK.out.later hb1)
  clear hb1
  go_wp2_with fail
  refine (Awake_any _).mono ?_
  rintro e w2 ⟨rfl, hb2⟩
  have HK := Lib.hid (HK.out.later hb2)
  clear hb2
  go_wp2_with fail
  go_ret
  exact ⟨rfl, HK.out.below⟩
end Go.Proofs.YtlfglbnbenaghaaGreatDoor

/- The reference's items: what its parts leave. -/
namespace Go.Proofs.YtlfglbnbenaghaaGreatDoor
set_option linter.unusedSimpArgs false
set_option linter.unusedVariables false
open Go Go.RowKit Go.Sort Go.BigFrame Go.Shelf
attribute [local go_sem] Oper.semAt_some putAll

/-- Changes in a block of their own. -/
def ChsT (W : World) (v : Value) (cs : List Chg) : Prop := ∃ (a : Option Addr) (cap : Nat), v = .slice a cs.length cap ∧ (cs ≠ [] → ∃ b xs, a = some ⟨b, 0, none⟩ ∧ W.heap[b]? = some (.cells xs 44) ∧
  ∀ i c, cs[i]? = some c → xs[i * 3]? = some (.int .i64 c.kind) ∧ xs[i * 3 + 1]? = some (.int .i64 c.pos) ∧ xs[i * 3 + 2]? = some (.int .i64 c.many))
theorem ChsT.at_ {W : World} {v : Value} {cs : List Chg} (h : ChsT W v cs) : ChsAt W.heap.size W v cs := by
  obtain ⟨a, cap, rfl, h⟩ := h
  refine ⟨a, cap, rfl, fun hne => ?_⟩
  obtain ⟨b, xs, rfl, hb, hc⟩ := h hne
  refine ⟨b, 0, rfl, blk_lt hb, fun i c hi => ?_⟩
  obtain ⟨h1, h2, h3⟩ := hc i c hi
  simp only [Nat.zero_add, blk_cell hb]
  exact ⟨h1, h2, h3⟩
theorem ChsT.keep {W W' : World} {v : Value} {cs : List Chg} (h : ChsT W v cs) (hk : ∀ (b : Nat) (xs : Array Value), W.heap[b]? = some (Obj.cells xs 44) → W'.heap[b]? = some (Obj.cells xs 44)) : ChsT W' v cs := by
  obtain ⟨a, cap, rfl, h⟩ := h
  refine ⟨a, cap, rfl, fun hne => ?_⟩
  obtain ⟨b, xs, rfl, hb, hc⟩ := h hne
  exact ⟨b, xs, rfl, hk b xs hb, hc⟩
theorem ChsT.later {W W' : World} {v : Value} {cs : List Chg} (h : ChsT W v cs) (hb : Below W.heap.size W W') : ChsT W' v cs := h.keep fun _ _ hk => blk_later hb hk
theorem ChsT.grown {W W' : World} {u v : Value} {cs : List Chg} {base n : Nat} {xs : List Value} (h : ChsT W v cs) (hr : W.ownsRow base 42 4 u n xs) (hg : W.grownBy W' u.ownBlock) : ChsT W' v cs :=
  h.keep fun b ys hk => by
    rw [← hk]
    refine hg.block b (blk_lt hk) fun e => ?_
    rcases hr.2 with ⟨rfl, _⟩ | ⟨g, cap, cur, rfl, _, h2, _⟩
    · simp [Value.ownBlock] at e
    · simp only [Value.ownBlock, Option.some.injEq] at e
      subst e
      rw [h2] at hk
      simp at hk
theorem ChsT.of_row {W : World} {base : Nat} {v : Value} {cs : List Chg} (h : W.ownsRow base 44 3 v cs.length (chgCells cs)) : ChsT W v cs := by
  rcases h.2 with ⟨rfl, h0⟩ | ⟨g, cap, cur, rfl, hb, hg, rest⟩
  · exact ⟨none, 0, by rw [h0], fun hne => absurd (List.length_eq_zero_iff.1 h0) hne⟩
  · refine ⟨_, cap, rfl, fun _ => ⟨g, cur, rfl, hg, fun i c hi => ?_⟩⟩
    have hc := h.cells (g := g) (by simp [Value.ownBlock])
    obtain ⟨h1, h2, h3⟩ := chg_at hi
    have q : ∀ j u, (chgCells cs)[j]? = some u → cur[j]? = some u := fun j u hj => by
      have := hc j u hj
      rw [add_off', blk_cell hg] at this
      exact this
    exact ⟨q _ _ h1, q _ _ h2, q _ _ h3⟩
/-- Gatherings in a row of their own. -/
def GsT (base : Nat) (W : World) (v : Value) (gs : List Gth) : Prop := ∃ zs : List (Gth × Value), zs.map (·.1) = gs ∧ W.ownsRow base 42 4 v gs.length (gtCells zs) ∧ ∀ z ∈ zs, ChsT W z.2 z.1.chs
/-- What the reference's items returns. -/
def ItemsR (r : Option (List Gth)) (base : Nat) (e : Ending) (w' : World) : Prop := ∃ v B, e = .returned (.tuple #[v, .bool B]) ∧ match r with
  | none => B = false
  | some gs => B = true ∧ GsT base w' v gs
theorem gs_one {W : World} {base : Nat} {n : Nat} {g : Gth} {cv : Value} (hn : n = W.heap.size) (hb : base ≤ n) (hc : ChsT W cv g.chs) :
    GsT base (W.alloc (.cells #[.int .i64 g.round, .int .i64 g.letter, .int .i64 g.leaves, cv] 42)) (.slice (some ⟨n, 0, none⟩) 1 1) [g] := by
  subst hn
  refine ⟨[(g, cv)], rfl, ?_, fun z hz => ?_⟩
  · exact World.ownsRow_lit W #[.int .i64 g.round, .int .i64 g.letter, .int .i64 g.leaves, cv] 1 hb (by simp [maxLen]) (by simp)
  · rw [List.mem_singleton.1 hz]
    exact hc.later ((Below.refl _ W).alloc (Nat.le_refl _) _)

theorem take_one' {α : Type} {gs : List α} {i : Nat} {g : α} (h : gs[i]? = some g) : gs.take (i + 1) = gs.take i ++ [g] := by
  rw [List.take_add_one, h]
  rfl
theorem list_at {α : Type} {qs : List α} {k : Nat} {q : α} (h : qs[k]? = some q) : qs = qs.take k ++ q :: qs.drop (k + 1) := by
  obtain ⟨h3, h4⟩ := List.getElem?_eq_some_iff.1 h
  rw [← h4, List.getElem_cons_drop, List.take_append_drop]
theorem tail_one {a : Int × Int} {v : Bs} : ∀ x, cutF 40 v = [x] → tailF a a v = if 0 ≤ decF x then some [⟨a.1, a.2, decF x, []⟩] else none := fun x h => by
  unfold tailF
  rw [h]
  dsimp only
  rw [if_pos rfl]
theorem tail_two {a : Int × Int} {v : Bs} : ∀ x y, cutF 40 v = [x, y] → tailF a a v = if 0 ≤ decF x then (match innerF y with
    | none => none
    | some cs => some [⟨a.1, a.2, decF x, cs⟩]) else none := fun x y h => by
  unfold tailF
  rw [h]
  dsimp only
  by_cases hd : 0 ≤ decF x
  · rw [if_pos hd, if_pos ⟨hd, rfl⟩]
    cases innerF y <;> rfl
  · rw [if_neg hd, if_neg (fun e => hd e.1)]
theorem tail_no {a b : Int × Int} {v : Bs} : (cutF 40 v).length ≠ 1 → (cutF 40 v).length ≠ 2 → tailF a b v = none := fun h1 h2 => by
  unfold tailF
  split
  · rename_i x h
    rw [h] at h1
    exact absurd rfl h1
  · rename_i x y h
    rw [h] at h2
    exact absurd rfl h2
  · rfl

set_option maxRecDepth 100000 in
set_option maxHeartbeats 1600000 in
theorem refItems_none (s : Bs) (w : World) (hs : s.length ≤ 1048576) (hq : sigF s = none) :
    Calls Tryz.prog 32 #[S s] w fun e w' => ItemsR (itemsF2 s) w.heap.size e w' ∧ Below w.heap.size w w' := by
  have HR : Hid (begR s = .tuple #[.agg #[.int .i64 0, .int .i64 0], S s, .bool false]) := Lib.hid (by unfold begR; rw [hq])
  have HF : Hid (itemsF2 s = none) := Lib.hid (by unfold itemsF2; rw [hq])
  have HS := Lib.hid hs
  clear hq hs
  go_enter Tryz.func32, Tryz.ntmps32
  go_wp2_with fail
  refine (refBegins_any s _ HS.out).mono ?_
  rintro e w1 ⟨rfl, hb1⟩
  rw [HR.out]
  have HB := Lib.hid hb1
  clear hb1
  go_wp2_with fail
  go_ret2
  exact ⟨⟨_, _, rfl, by rw [HF.out]⟩, HB.out.alloc HB.out.size _⟩

/-- The loop of an item's changes. -/
structure CgI (w5 W : World) (G : Nat) (D : Int) (v : Value) (cs : List Chg) : Prop where
  only : OnlyIn (fun k => k = G) w5 W
  box : W.heap[G]? = some (.cells #[.int .i64 0, .int .i64 0, .int .i64 D, v] 42)
  row : W.ownsRow w5.heap.size 44 3 v cs.length (chgCells cs)
  lt : G < w5.heap.size
theorem CgI.later {w5 W W' : World} {G : Nat} {D : Int} {v : Value} {cs : List Chg} (h : CgI w5 W G D v cs) (hb : Below W.heap.size W W') : CgI w5 W' G D v cs :=
  ⟨h.only.trans (OnlyIn.of_below hb), blk_later hb h.box, row_later h.row hb, h.lt⟩
theorem CgI.cell {w5 W : World} {G : Nat} {D : Int} {v u : Value} {cs : List Chg} (h : CgI w5 W G D v cs) {k i : Nat} (hk : k < w5.heap.size) (hne : k ≠ G) (hc : w5.cell? ⟨k, i, none⟩ = some u) : W.cell? ⟨k, i, none⟩ = some u := by
  rw [← hc]
  exact World.cell?_of_block (h.only.block k hk hne)
theorem CgI.blk {w5 W : World} {G : Nat} {D : Int} {v : Value} {cs : List Chg} (h : CgI w5 W G D v cs) {k : Nat} {o : Obj} (hk : k < w5.heap.size) (hne : k ≠ G) (hc : w5.heap[k]? = some o) : W.heap[k]? = some o := (h.only.block k hk hne).trans hc
theorem CgI.add {w5 W W' : World} {G : Nat} {D : Int} {v v' : Value} {cs : List Chg} {c : Chg} (h : CgI w5 W G D v cs) (hr : W'.ownsRow w5.heap.size 44 3 v' (cs.length + 1) (chgCells cs ++ [.int .i64 c.kind, .int .i64 c.pos, .int .i64 c.many])) (hg : W.grownBy W' v.ownBlock) :
    CgI w5 (W'.setCell ⟨G, 3, none⟩ v') G D v' (cs ++ [c]) := by
  have hlt := h.lt
  have hne : v.ownBlock ≠ some G := fun e => by have := (h.row.lt G e).1; omega
  have hbx : W'.heap[G]? = some (.cells #[.int .i64 0, .int .i64 0, .int .i64 D, v] 42) := by
    rw [← h.box]
    exact hg.block G (blk_lt h.box) (fun e => hne e.symm)
  have hsz := hg.size
  refine ⟨⟨hg.os.trans h.only.os, hg.tape.trans h.only.tape, hg.output.trans h.only.output, Nat.le_trans h.only.size (by simpa using hsz), fun k hk hkG => ?_⟩, blk_set hbx 3 v', ?_, hlt⟩
  · refine (heap_setCell_past _ _ _ _ (show k ≠ G from hkG)).trans ((hg.block k (Nat.lt_of_lt_of_le hk h.only.size) fun e => ?_).trans (h.only.block k hk hkG))
    have := (h.row.lt k e.symm).1
    omega
  · obtain ⟨g, cap, rfl, h1, h2⟩ := row_form hr (by omega)
    have e : chgCells (cs ++ [c]) = chgCells cs ++ [.int .i64 c.kind, .int .i64 c.pos, .int .i64 c.many] := by simp [chgCells]
    rw [e, List.length_append]
    exact row_kept1 hr (Only.set G 3 _ (Only.refl G W')) (by omega)

set_option maxRecDepth 100000 in
set_option maxHeartbeats 3200000 in
theorem refItems_plain (s : Bs) (w : World) (hs : s.length ≤ 1048576) (a1 a2 : Int) (t : Bs) (hq : sigF s = some ((a1, a2), t)) (hh : t.head? ≠ some 45) :
    Calls Tryz.prog 32 #[S s] w fun e w' => ItemsR (itemsF2 s) w.heap.size e w' ∧ Below w.heap.size w w' := by
  have HR : Hid (begR s = .tuple #[.agg #[.int .i64 a1, .int .i64 a2], S t, .bool true]) := Lib.hid (by unfold begR; rw [hq])
  have HF : Hid (itemsF2 s = tailF (a1, a2) (a1, a2) t) := Lib.hid (by unfold itemsF2; rw [hq]; dsimp only; rw [if_neg hh])
  have HS := Lib.hid hs
  have HT : Hid (t.length ≤ 1048576) := Lib.hid (by have := (sigF_len hq).1; omega)
  have h3 : t = [] ∨ ∃ y u, t = y :: u ∧ y ≠ 45 := by
    cases t with
    | nil => exact Or.inl rfl
    | cons y u => exact Or.inr ⟨y, u, rfl, by simpa using hh⟩
  clear hq hs hh
  go_enter Tryz.func32, Tryz.ntmps32
  go_wp2_with fail
  refine (refBegins_any s _ HS.out).mono ?_
  rintro e w1 ⟨rfl, hb1⟩
  rw [HR.out]
  have HB1 := Lib.hid hb1
  clear hb1
  rcases h3 with rfl | ⟨y, u, hyu, n1⟩
  · go_wp2_with fail
    have hzz1 := HB1.out.size
    refine (refCut_any [] 40 _ HT.out).mono ?_
    rintro e w3 ⟨⟨v', rfl, hrow⟩, hb3⟩
    have hX := blk_later hb3 (show ((w1.alloc (.cells #[.int .i64 a1, .int .i64 a2] 39)).alloc (.cells #[.int .i64 a1, .int .i64 a2] 39)).heap[w1.heap.size]? = some (.cells #[.int .i64 a1, .int .i64 a2] 39) from (by repeat (first | exact heap_alloc_at _ _ _ (by (first | omega | (simp; done) | (simp; omega) | fail)) | (refine (heap_alloc_past _ _ _ ?_).trans ?_; · (first | omega | (simp; done) | (simp; omega) | fail)) | fail)))
    have hY := blk_later hb3 (show ((w1.alloc (.cells #[.int .i64 a1, .int .i64 a2] 39)).alloc (.cells #[.int .i64 a1, .int .i64 a2] 39)).heap[w1.heap.size + 1]? = some (.cells #[.int .i64 a1, .int .i64 a2] 39) from (by repeat (first | exact heap_alloc_at _ _ _ (by (first | omega | (simp; done) | (simp; omega) | fail)) | (refine (heap_alloc_past _ _ _ ?_).trans ?_; · (first | omega | (simp; done) | (simp; omega) | fail)) | fail)))
    have HB3 := Lib.hid (show Below w.heap.size w w3 from Below.trans (by exact (by repeat (first | (refine Below.setCell ?_ ?_ _; rotate_left; · (first | omega | (simp; done) | (simp; omega) | fail)) | (refine Below.alloc ?_ ?_ _; rotate_left; · (first | omega | (simp; done) | (simp; omega) | fail)) | refine Below.drew ?_ | exact HB1.out | fail))) (hb3.mono (by have := HB1.out.size; simp; omega)))
    have hps := strs_of_row hrow
    have hcl := cutF_short 40 []
    have hne := cutF_ne 40 []
    have HP1 := Lib.hid (tail_one (a := (a1, a2)) (v := []))
    have HP2 := Lib.hid (tail_two (a := (a1, a2)) (v := []))
    have HPN := Lib.hid (tail_no (a := (a1, a2)) (b := (a1, a2)) (v := []))
    obtain ⟨ps, hps'⟩ : ∃ ps, ps = cutF 40 [] := ⟨_, rfl⟩
    rw [← hps'] at hps hcl hne HP1 HP2 HPN
    clear hps' hb3 hrow
    obtain ⟨q, cap, rfl, hc⟩ := hps
    obtain ⟨g, rfl, hg, hc⟩ := hc hne
    obtain ⟨x, ps', rfl⟩ : ∃ x ps', ps = x :: ps' := by
      cases ps with
      | nil => exact absurd rfl hne
      | cons x ps' => exact ⟨x, ps', rfl⟩
    have x0 := hc 0 x rfl
    have HC := Lib.hid hc
    have HCL := Lib.hid hcl
    have HU : Hid (x.length ≤ 1048576) := Lib.hid (Nat.le_trans (hcl x (by simp)) HT.out)
    obtain ⟨D, hD⟩ : ∃ D, D = decF x := ⟨_, rfl⟩
    have HD := Lib.hid hD
    have HXX := Lib.hid hX
    have HYY := Lib.hid hY
    have HGL := Lib.hid hg
    obtain ⟨n, hn⟩ : ∃ n, n = ps'.length := ⟨_, rfl⟩
    have hn1 : (x :: ps').length = n + 1 := by rw [hn]; rfl
    rw [hn1]
    have HN := Lib.hid hn
    clear hc hcl hne hD hX hY hg hn hn1 hzz1
    go_wp2_with fail
    refine (refDecimal_any x _ HU.out).mono ?_
    rintro e w4 ⟨rfl, hb4⟩
    rw [← HD.out]
    go_upto_region 11 with fail
    obtain ⟨W, hW⟩ : ∃ W, W = w4.alloc (.cells #[.int .i64 0, .int .i64 0, .int .i64 D, .slice none 0 0] 42) := ⟨_, rfl⟩
    rw [← hW]
    have hb4' : Below w3.heap.size w3 W := by rw [hW]; exact hb4.alloc hb4.size _
    have HGW : Hid (W.heap[w4.heap.size]? = some (.cells #[.int .i64 0, .int .i64 0, .int .i64 D, .slice none 0 0] 42)) := Lib.hid (by rw [hW]; exact (by repeat (first | exact heap_alloc_at _ _ _ (by (first | omega | (simp; done) | (simp; omega) | fail)) | (refine (heap_alloc_past _ _ _ ?_).trans ?_; · (first | omega | (simp; done) | (simp; omega) | fail)) | fail)))
    have HXW := Lib.hid (blk_later hb4' HXX.out)
    have HYW := Lib.hid (blk_later hb4' HYY.out)
    have HBW := Lib.hid (HB3.out.trans (hb4'.mono HB3.out.size))
    have HCW : Hid (∀ (i : Nat) (y : Bs), (x :: ps')[i]? = some y → W.cell? ⟨g, i, none⟩ = some (S y)) := Lib.hid (fun i y hy => (hb4'.cell (p := ⟨g, i, none⟩) HGL.out).trans (HC.out i y hy))
    have HGw : Hid (w.heap.size ≤ w4.heap.size) := Lib.hid (by have := blk_lt HYY.out; have := HB1.out.size; have := hb4.size; omega)
    have HGX : Hid (w1.heap.size + 1 < w4.heap.size ∧ g < w4.heap.size) := Lib.hid (by have := blk_lt HYY.out; have := HGL.out; have := hb4.size; omega)
    clear hW hb4 hb4' x0 HC HGL HXX HYY HB3 HU
    by_cases hD0 : D < 0
    · have e1 : decide (D < 0) = true := decide_eq_true hD0
      have HNO : Hid (tailF (a1, a2) (a1, a2) [] = none) := Lib.hid (by
        rcases ps' with _ | ⟨y, _ | ⟨z, ps'⟩⟩
        · rw [HP1.out x rfl, if_neg (by rw [← HD.out]; omega)]
        · rw [HP2.out x y rfl, if_neg (by rw [← HD.out]; omega)]
        · exact HPN.out (by simp) (by simp))
      have z0 := blk_cell HGW.out 0; have z1 := blk_cell HGW.out 1; have z2 := blk_cell HGW.out 2; have z3 := blk_cell HGW.out 3
      go_wp2_with fail
      go_ret2
      exact ⟨⟨_, _, rfl, by rw [HF.out, HNO.out]⟩, HBW.out⟩
    · have e1 : decide (D < 0) = false := decide_eq_false hD0
      have z0 := blk_cell HGW.out 0; have z1 := blk_cell HGW.out 1; have z2 := blk_cell HGW.out 2; have z3 := blk_cell HGW.out 3
      have c0 := blk_cell HXW.out 0; have c1 := blk_cell HXW.out 1
      have d0 := blk_cell HYW.out 0; have d1 := blk_cell HYW.out 1
      rcases ps' with _ | ⟨y, _ | ⟨y2, ps'⟩⟩
      · obtain rfl : n = 0 := HN.out
        have HYES : Hid (tailF (a1, a2) (a1, a2) [] = some [⟨a1, a2, D, []⟩]) := Lib.hid (by rw [HP1.out x rfl, if_pos (by rw [← HD.out]; omega), ← HD.out])
        have f0 := blk_free HGW.out 0; have f1 := blk_free HGW.out 1; have f2 := blk_free HGW.out 2; have f3 := blk_free HGW.out 3
        go_wp2_with fail
        go_ret2
        exact ⟨⟨_, _, rfl, by rw [HF.out, HYES.out]; exact ⟨rfl, gs_one (by simp) HBW.out.size ⟨none, 0, rfl, fun h => absurd rfl h⟩⟩⟩, ((HBW.out.setCell HGw.out _).setCell HGw.out _).alloc (by simpa using HBW.out.size) _⟩
      · obtain rfl : n = 1 := HN.out
        have x1 := HCW.out 1 y rfl
        have HIN : Hid (tailF (a1, a2) (a1, a2) [] = match innerF y with
          | none => none
          | some cs => some [⟨a1, a2, D, cs⟩]) := Lib.hid (by rw [HP2.out x y rfl, if_pos (by rw [← HD.out]; omega), ← HD.out])
        have HYL : Hid (y.length ≤ 1048576) := Lib.hid (Nat.le_trans (HCL.out y (by simp)) HT.out)
        have hy3 : y = [] ∨ ∃ z b, y = z ++ [b] := by
          rcases nil_or_snoc y with h | ⟨z, b, h⟩
          · exact Or.inl h
          · exact Or.inr ⟨z, b, h⟩
        rcases hy3 with rfl | ⟨z, b, hyz⟩
        · have HNO : Hid (tailF (a1, a2) (a1, a2) [] = none) := Lib.hid HIN.out
          go_wp2_with fail
          go_ret2
          exact ⟨⟨_, _, rfl, by rw [HF.out, HNO.out]⟩, HBW.out⟩
        · obtain ⟨M, hM⟩ : ∃ M, M = z.length := ⟨_, rfl⟩
          have hzy : (⟨y.toArray⟩ : ByteArray).size = M + 1 := by rw [size_bytes, hyz, hM]; simp
          have hbl : ∀ h : M < (⟨y.toArray⟩ : ByteArray).size, (⟨y.toArray⟩ : ByteArray)[M]'h = b := fun h => by
            subst hyz
            subst hM
            show (z ++ [b]).toArray[z.length]'_ = b
            simp
          have hzl : M ≤ 1048576 := by have := HYL.out; rw [hyz] at this; simp at this; omega
          have e5 : ((M : Int) + 1 == 0) = false := by rw [beq_eq_false_iff_ne]; omega
          have i5 : (M : Int) < (M : Int) + 1 := by omega
          have HYZ := Lib.hid hyz
          have HM := Lib.hid hM
          clear hyz hM
          by_cases hb41 : b = 41
          · subst hb41
            have HIN2 : Hid (tailF (a1, a2) (a1, a2) [] = match allOf changedF (cutF 44 z) with
              | none => none
              | some cs => some [⟨a1, a2, D, cs⟩]) := Lib.hid (by
              rw [HIN.out, HYZ.out]
              unfold innerF
              rw [List.getLast?_concat, if_pos rfl, List.dropLast_concat])
            have hex : (⟨y.toArray⟩ : ByteArray).extract 0 M = ⟨z.toArray⟩ := by
              rw [ext_take y M (by rw [HYZ.out, HM.out]; simp), HYZ.out, HM.out, List.take_left]
            have HZL : Hid (z.length ≤ 1048576) := Lib.hid (by rw [← HM.out]; exact hzl)
            have i0 : (0 : Int) ≤ (M : Int) := by omega
            have i6 : (M : Int) ≤ (M : Int) + 1 := by omega
            go_wp2_with fail
            refine (refCut_any z 44 _ HZL.out).mono ?_
            rintro e w5 ⟨⟨v5, rfl, hrow⟩, hb5⟩
            have hqn := cutF_ne 44 z
            have hql := cutF_short 44 z
            have hqc := cutF_len 44 z
            obtain ⟨qs, hqs⟩ : ∃ qs, qs = cutF 44 z := ⟨_, rfl⟩
            rw [← hqs] at hrow hqn hql hqc HIN2
            obtain ⟨J, hJ⟩ : ∃ J, J = qs.length := ⟨_, rfl⟩
            have hst := strs_of_row hrow
            rw [← hJ] at hrow hqc
            have hJ0 : 0 < J := by rw [hJ]; exact List.length_pos_iff.2 hqn
            obtain ⟨g2, qcap, rfl, hg2, hg2l⟩ := row_form hrow hJ0
            have hJl : J ≤ 1048577 := by have := HZL.out; omega
            have HQC : Hid (∀ (i : Nat) (q : Bs), qs[i]? = some q → w5.cell? ⟨g2, i, none⟩ = some (S q)) := Lib.hid (by
              obtain ⟨qa, qc2, e, h⟩ := hst
              cases e
              obtain ⟨g2', e, -, h⟩ := h hqn
              cases e
              exact h)
            have hGl := blk_lt HGW.out
            have HIC : Hid (CgI w5 w5 w4.heap.size D (.slice none 0 0) []) := Lib.hid ⟨OnlyIn.refl _ _, blk_later hb5 HGW.out, World.ownsRow_nil _ _ _ _, by have := hb5.size; omega⟩
            have HBW5 := Lib.hid (HBW.out.trans (hb5.mono HBW.out.size))
            have HX5 := Lib.hid (blk_later hb5 HXW.out)
            have HY5 := Lib.hid (blk_later hb5 HYW.out)
            have HGG : Hid (g2 ≠ w4.heap.size ∧ g2 < w5.heap.size) := Lib.hid (by omega)
            have HJ := Lib.hid hJ
            have HQL := Lib.hid hql
            obtain ⟨ei, hi1, hi2, hi3, hi4⟩ := elemChg
            have HI := Lib.hid (And.intro hi1 (And.intro hi2 (And.intro hi3 hi4)))
            clear hi1 hi2 hi3 hi4 hrow hst hqs hqn hql hqc hJ hg2 hg2l hGl hb5 z0 z1 z2 z3 c0 c1 d0 d1 x1 hbl hex e1 e5 i0 i5 i6
            go_wp2_with fail
            go_loopw [12] (fun i wr => ∃ (k : Nat) (v : Value) (cs : List Chg), k ≤ J ∧ i = .int .i64 k ∧ Hid (CgI w5 wr w4.heap.size D v cs ∧ allOf changedF (qs.take k) = some cs ∧ cs.length = k)) (fun i _ => J - (intOf i).toNat)
            case atStart => exact ⟨0, _, [], by omega, rfl, Lib.hid ⟨HIC.out, rfl, rfl⟩⟩
            case round =>
              clear HIC
              obtain ⟨k, v, cs, hk, rfl, HIC⟩ := hrel
              have hGw := HIC.out.1.lt
              by_cases hlt : k < J
              · have d1 : decide ((k : Int) < (J : Int)) = true := decide_eq_true (by omega)
                have i1 : (k : Int) < (J : Int) := by omega
                obtain ⟨q, hq⟩ : ∃ q, qs[k]? = some q := ⟨_, List.getElem?_eq_getElem (by have := HJ.out; omega)⟩
                have x1 := HIC.out.1.cell HGG.out.2 HGG.out.1 (HQC.out k q hq)
                have HQK := Lib.hid hq
                have HQQ : Hid (q.length ≤ 1048576) := Lib.hid (Nat.le_trans (HQL.out q (List.mem_of_getElem? hq)) HZL.out)
                clear hq
                go_wp2_with fail
                refine (refChanged_any q _ HQQ.out).mono ?_
                rintro e w6 ⟨⟨ck, cp, cm, B, rfl, hcf⟩, hb6⟩
                have HCF := Lib.hid hcf
                have HIC := Lib.hid (And.intro (HIC.out.1.later hb6) HIC.out.2)
                clear hb6 hcf x1
                cases B with
                | false =>
                  have HNO : Hid (tailF (a1, a2) (a1, a2) [] = none) := Lib.hid (by
                    have h2 := list_at HQK.out
                    have h5 : allOf changedF qs = none := by
                      rw [h2]
                      exact allOf_stop HCF.out
                    rw [HIN2.out, h5])
                  go_wp2_with fail
                  go_ret2
                  exact ⟨⟨_, _, rfl, by rw [HF.out, HNO.out]⟩, (HIC.out.1.only.below HBW5.out HBW5.out.size (fun j e => by subst e; exact HGw.out)).alloc (by have := HBW5.out.size; have := HIC.out.1.only.size; omega) _⟩
                | true =>
                  have hCF : changedF q = some ⟨ck, cp, cm⟩ := HCF.out
                  have HALL : Hid (allOf changedF (qs.take (k + 1)) = some (cs ++ [⟨ck, cp, cm⟩])) := Lib.hid (by
                    rw [take_one' HQK.out, allOf_snoc, HIC.out.2.1]
                    dsimp only
                    rw [hCF])
                  clear hCF
                  obtain ⟨W2, hW2⟩ : ∃ W2, W2 = w6.alloc (.cells #[.int .i64 ck, .int .i64 cp, .int .i64 cm] 44) := ⟨_, rfl⟩
                  have HIC2 := Lib.hid (show CgI w5 W2 w4.heap.size D v cs by rw [hW2]; exact HIC.out.1.later ((Below.refl _ w6).alloc (Nat.le_refl _) _))
                  have hcb : W2.heap[w6.heap.size]? = some (.cells #[.int .i64 ck, .int .i64 cp, .int .i64 cm] 44) := by rw [hW2]; exact (by repeat (first | exact heap_alloc_at _ _ _ (by (first | omega | (simp; done) | (simp; omega) | fail)) | (refine (heap_alloc_past _ _ _ ?_).trans ?_; · (first | omega | (simp; done) | (simp; omega) | fail)) | fail))
                  have hsz2 : w5.heap.size ≤ W2.heap.size := HIC2.out.only.size
                  have r0 := blk_cell hcb 0; have r1 := blk_cell hcb 1; have r2 := blk_cell hcb 2
                  have hbx := HIC2.out.box
                  have b0 := blk_cell hbx 0; have b1 := blk_cell hbx 1; have b2 := blk_cell hbx 2; have b3 := blk_cell hbx 3
                  have hkl := HIC.out.2.2
                  go_upto_region 24 with fail
                  rw [← hW2]
                  clear hW2 hcb hbx HIC
                  obtain ⟨hi1, hi2, hi3, hi4⟩ := HI.out
                  go_wp2_with (at_builtin; refine wpList_append_own _ rfl _ _ 40 rfl w5.heap.size 44 ei _ 3 24 undChgs hi1 hi2 hi3 hi4 rfl (by decide) v cs.length (chgCells cs) rfl (row_later HIC2.out.row ((Below.refl _ W2).alloc (Nat.le_refl _) (.cells #[.int .i64 ck, .int .i64 cp, .int .i64 cm] 44))) ⟨W2.heap.size, 0, none⟩ 1 1 [.int .i64 ck, .int .i64 cp, .int .i64 cm] rfl rfl ?c1 ?c2 ?c3 ?c4 ?c5 ?c6)
                  case c1 => exact cells_at W2 _ _ _ rfl
                  case c2 => simp [Value.oneCell']
                  case c3 => simp only [maxLen]; omega
                  case c4 => omega
                  case c5 => simp; omega
                  case c6 =>
                    rintro v' w7 hown hgrow -
                    obtain ⟨g7, cap7, rfl, -, -⟩ := row_form hown (by omega)
                    have HIC3 := HIC2.out.later ((Below.refl _ W2).alloc (Nat.le_refl _) (.cells #[.int .i64 ck, .int .i64 cp, .int .i64 cm] 44))
                    have HIC4 := Lib.hid (HIC3.add (c := ⟨ck, cp, cm⟩) (by rw [hkl]; exact hown) hgrow)
                    have hbx7 : w7.heap[w4.heap.size]? = some (.cells #[.int .i64 0, .int .i64 0, .int .i64 D, v] 42) := by
                      rw [← HIC3.box]
                      exact hgrow.block _ (blk_lt HIC3.box) (fun e => by have := (HIC3.row.lt _ e.symm).1; omega)
                    have p0 := blk_cell hbx7 0; have p1 := blk_cell hbx7 1; have p2 := blk_cell hbx7 2; have p3 := blk_cell hbx7 3
                    have f0 := blk_free hbx7 0; have f1 := blk_free hbx7 1; have f2 := blk_free hbx7 2; have f3 := blk_free hbx7 3
                    clear hbx7 hown hgrow HIC3 b0 b1 b2 b3 r0 r1 r2 hi1 hi2 hi3 hi4
                    go_wp2_with fail
                    go_roundw
                    case rel => exact ⟨k + 1, _, cs ++ [⟨ck, cp, cm⟩], by omega, by go_num, Lib.hid ⟨HIC4.out, HALL.out, by rw [List.length_append, hkl]; rfl⟩⟩
                    case measure => simp [intOf]; omega
              · have d1 : decide ((k : Int) < (J : Int)) = false := decide_eq_false (by omega)
                have hkJ : k = J := by omega
                have HYES : Hid (tailF (a1, a2) (a1, a2) [] = some [⟨a1, a2, D, cs⟩]) := Lib.hid (by
                  have h := HIC.out.2.1
                  rw [hkJ, HJ.out, List.take_length] at h
                  rw [HIN2.out, h])
                have hIC := HIC.out.1
                have hXb := hIC.blk (by have := HGX.out; have := blk_lt HX5.out; omega) (by have := HGX.out; omega) HX5.out
                have hYb := hIC.blk (by have := HGX.out; have := blk_lt HY5.out; omega) (by have := HGX.out; omega) HY5.out
                have hbx := hIC.box
                have z0 := blk_cell hbx 0; have z1 := blk_cell hbx 1; have z2 := blk_cell hbx 2; have z3 := blk_cell hbx 3
                have f0 := blk_free hbx 0; have f1 := blk_free hbx 1; have f2 := blk_free hbx 2; have f3 := blk_free hbx 3
                have c0 := blk_cell hXb 0; have c1 := blk_cell hXb 1
                have d0 := blk_cell hYb 0; have d1 := blk_cell hYb 1
                have HBE := Lib.hid (hIC.only.below HBW5.out HBW5.out.size (fun j e => by subst e; exact HGw.out))
                have HCT := Lib.hid (ChsT.of_row hIC.row)
                have HTY : Hid (∀ (b : Nat) (xs : Array Value), wr.heap[b]? = some (Obj.cells xs 44) → b ≠ w4.heap.size) := Lib.hid (fun b xs hb e => by
                  subst e
                  rw [hbx] at hb
                  simp at hb)
                clear hIC hXb hYb hbx hkJ HIC
                go_wp2_with fail
                go_ret2
                have HKE : ChsT ((wr.setCell ⟨w4.heap.size, 0, none⟩ (.int .i64 a1)).setCell ⟨w4.heap.size, 1, none⟩ (.int .i64 a2)) v cs := HCT.out.keep fun b xs hb =>
                  (heap_setCell_past _ _ _ _ (HTY.out b xs hb)).trans ((heap_setCell_past _ _ _ _ (HTY.out b xs hb)).trans hb)
                exact ⟨⟨_, _, rfl, by rw [HF.out, HYES.out]; exact ⟨rfl, gs_one (by simp) (by have := HBE.out.size; simpa using this) HKE⟩⟩, ((HBE.out.setCell HGw.out _).setCell HGw.out _).alloc (by simpa using HBE.out.size) _⟩
          · have m2 : ((b.toNat : Int) == 41) = false := by
              rw [beq_eq_false_iff_ne]
              intro h
              exact hb41 (UInt8.toNat_inj.1 (by show b.toNat = 41; omega))
            have HNO : Hid (tailF (a1, a2) (a1, a2) [] = none) := Lib.hid (by
              rw [HIN.out, HYZ.out]
              unfold innerF
              rw [List.getLast?_concat, if_neg (by simpa using hb41)])
            clear hb41
            go_wp2_with fail
            go_ret2
            exact ⟨⟨_, _, rfl, by rw [HF.out, HNO.out]⟩, HBW.out⟩
      · have hn2 : 2 ≤ n := by rw [HN.out]; simp
        have e2 : decide ((2 : Int) < (n : Int) + 1) = true := decide_eq_true (by omega)
        have HNO : Hid (tailF (a1, a2) (a1, a2) [] = none) := Lib.hid (HPN.out (by simp) (by simp))
        go_wp2_with fail
        go_ret2
        exact ⟨⟨_, _, rfl, by rw [HF.out, HNO.out]⟩, HBW.out⟩
  · have hb0 : ∀ h : 0 < (⟨t.toArray⟩ : ByteArray).size, (⟨t.toArray⟩ : ByteArray)[0]'h = y := fun h => by
      subst hyu
      rfl
    obtain ⟨N, hN⟩ : ∃ N, N = t.length := ⟨_, rfl⟩
    have hzt : (⟨t.toArray⟩ : ByteArray).size = N := by rw [size_bytes, hN]
    have g1 : (0 : Int) < (N : Int) := by rw [hN, hyu]; simp
    have g0 : decide ((0 : Int) < (N : Int)) = true := decide_eq_true g1
    have m1 : ((y.toNat : Int) == 45) = false := by
      rw [beq_eq_false_iff_ne]
      intro h
      exact n1 (UInt8.toNat_inj.1 (by show y.toNat = 45; omega))
    clear n1 hyu hN
    go_wp2_with fail
    have hzz1 := HB1.out.size
    refine (refCut_any t 40 _ HT.out).mono ?_
    rintro e w3 ⟨⟨v', rfl, hrow⟩, hb3⟩
    have hX := blk_later hb3 (show ((w1.alloc (.cells #[.int .i64 a1, .int .i64 a2] 39)).alloc (.cells #[.int .i64 a1, .int .i64 a2] 39)).heap[w1.heap.size]? = some (.cells #[.int .i64 a1, .int .i64 a2] 39) from (by repeat (first | exact heap_alloc_at _ _ _ (by (first | omega | (simp; done) | (simp; omega) | fail)) | (refine (heap_alloc_past _ _ _ ?_).trans ?_; · (first | omega | (simp; done) | (simp; omega) | fail)) | fail)))
    have hY := blk_later hb3 (show ((w1.alloc (.cells #[.int .i64 a1, .int .i64 a2] 39)).alloc (.cells #[.int .i64 a1, .int .i64 a2] 39)).heap[w1.heap.size + 1]? = some (.cells #[.int .i64 a1, .int .i64 a2] 39) from (by repeat (first | exact heap_alloc_at _ _ _ (by (first | omega | (simp; done) | (simp; omega) | fail)) | (refine (heap_alloc_past _ _ _ ?_).trans ?_; · (first | omega | (simp; done) | (simp; omega) | fail)) | fail)))
    have HB3 := Lib.hid (show Below w.heap.size w w3 from Below.trans (by exact (by repeat (first | (refine Below.setCell ?_ ?_ _; rotate_left; · (first | omega | (simp; done) | (simp; omega) | fail)) | (refine Below.alloc ?_ ?_ _; rotate_left; · (first | omega | (simp; done) | (simp; omega) | fail)) | refine Below.drew ?_ | exact HB1.out | fail))) (hb3.mono (by have := HB1.out.size; simp; omega)))
    have hps := strs_of_row hrow
    have hcl := cutF_short 40 t
    have hne := cutF_ne 40 t
    have HP1 := Lib.hid (tail_one (a := (a1, a2)) (v := t))
    have HP2 := Lib.hid (tail_two (a := (a1, a2)) (v := t))
    have HPN := Lib.hid (tail_no (a := (a1, a2)) (b := (a1, a2)) (v := t))
    obtain ⟨ps, hps'⟩ : ∃ ps, ps = cutF 40 t := ⟨_, rfl⟩
    rw [← hps'] at hps hcl hne HP1 HP2 HPN
    clear hps' hb3 hrow
    obtain ⟨q, cap, rfl, hc⟩ := hps
    obtain ⟨g, rfl, hg, hc⟩ := hc hne
    obtain ⟨x, ps', rfl⟩ : ∃ x ps', ps = x :: ps' := by
      cases ps with
      | nil => exact absurd rfl hne
      | cons x ps' => exact ⟨x, ps', rfl⟩
    have x0 := hc 0 x rfl
    have HC := Lib.hid hc
    have HCL := Lib.hid hcl
    have HU : Hid (x.length ≤ 1048576) := Lib.hid (Nat.le_trans (hcl x (by simp)) HT.out)
    obtain ⟨D, hD⟩ : ∃ D, D = decF x := ⟨_, rfl⟩
    have HD := Lib.hid hD
    have HXX := Lib.hid hX
    have HYY := Lib.hid hY
    have HGL := Lib.hid hg
    obtain ⟨n, hn⟩ : ∃ n, n = ps'.length := ⟨_, rfl⟩
    have hn1 : (x :: ps').length = n + 1 := by rw [hn]; rfl
    rw [hn1]
    have HN := Lib.hid hn
    clear hc hcl hne hD hX hY hg hn hn1 hzz1
    go_wp2_with fail
    refine (refDecimal_any x _ HU.out).mono ?_
    rintro e w4 ⟨rfl, hb4⟩
    rw [← HD.out]
    go_upto_region 11 with fail
    obtain ⟨W, hW⟩ : ∃ W, W = w4.alloc (.cells #[.int .i64 0, .int .i64 0, .int .i64 D, .slice none 0 0] 42) := ⟨_, rfl⟩
    rw [← hW]
    have hb4' : Below w3.heap.size w3 W := by rw [hW]; exact hb4.alloc hb4.size _
    have HGW : Hid (W.heap[w4.heap.size]? = some (.cells #[.int .i64 0, .int .i64 0, .int .i64 D, .slice none 0 0] 42)) := Lib.hid (by rw [hW]; exact (by repeat (first | exact heap_alloc_at _ _ _ (by (first | omega | (simp; done) | (simp; omega) | fail)) | (refine (heap_alloc_past _ _ _ ?_).trans ?_; · (first | omega | (simp; done) | (simp; omega) | fail)) | fail)))
    have HXW := Lib.hid (blk_later hb4' HXX.out)
    have HYW := Lib.hid (blk_later hb4' HYY.out)
    have HBW := Lib.hid (HB3.out.trans (hb4'.mono HB3.out.size))
    have HCW : Hid (∀ (i : Nat) (y : Bs), (x :: ps')[i]? = some y → W.cell? ⟨g, i, none⟩ = some (S y)) := Lib.hid (fun i y hy => (hb4'.cell (p := ⟨g, i, none⟩) HGL.out).trans (HC.out i y hy))
    have HGw : Hid (w.heap.size ≤ w4.heap.size) := Lib.hid (by have := blk_lt HYY.out; have := HB1.out.size; have := hb4.size; omega)
    have HGX : Hid (w1.heap.size + 1 < w4.heap.size ∧ g < w4.heap.size) := Lib.hid (by have := blk_lt HYY.out; have := HGL.out; have := hb4.size; omega)
    clear hW hb4 hb4' x0 HC HGL HXX HYY HB3 HU
    by_cases hD0 : D < 0
    · have e1 : decide (D < 0) = true := decide_eq_true hD0
      have HNO : Hid (tailF (a1, a2) (a1, a2) t = none) := Lib.hid (by
        rcases ps' with _ | ⟨y, _ | ⟨z, ps'⟩⟩
        · rw [HP1.out x rfl, if_neg (by rw [← HD.out]; omega)]
        · rw [HP2.out x y rfl, if_neg (by rw [← HD.out]; omega)]
        · exact HPN.out (by simp) (by simp))
      have z0 := blk_cell HGW.out 0; have z1 := blk_cell HGW.out 1; have z2 := blk_cell HGW.out 2; have z3 := blk_cell HGW.out 3
      go_wp2_with fail
      go_ret2
      exact ⟨⟨_, _, rfl, by rw [HF.out, HNO.out]⟩, HBW.out⟩
    · have e1 : decide (D < 0) = false := decide_eq_false hD0
      have z0 := blk_cell HGW.out 0; have z1 := blk_cell HGW.out 1; have z2 := blk_cell HGW.out 2; have z3 := blk_cell HGW.out 3
      have c0 := blk_cell HXW.out 0; have c1 := blk_cell HXW.out 1
      have d0 := blk_cell HYW.out 0; have d1 := blk_cell HYW.out 1
      rcases ps' with _ | ⟨y, _ | ⟨y2, ps'⟩⟩
      · obtain rfl : n = 0 := HN.out
        have HYES : Hid (tailF (a1, a2) (a1, a2) t = some [⟨a1, a2, D, []⟩]) := Lib.hid (by rw [HP1.out x rfl, if_pos (by rw [← HD.out]; omega), ← HD.out])
        have f0 := blk_free HGW.out 0; have f1 := blk_free HGW.out 1; have f2 := blk_free HGW.out 2; have f3 := blk_free HGW.out 3
        go_wp2_with fail
        go_ret2
        exact ⟨⟨_, _, rfl, by rw [HF.out, HYES.out]; exact ⟨rfl, gs_one (by simp) HBW.out.size ⟨none, 0, rfl, fun h => absurd rfl h⟩⟩⟩, ((HBW.out.setCell HGw.out _).setCell HGw.out _).alloc (by simpa using HBW.out.size) _⟩
      · obtain rfl : n = 1 := HN.out
        have x1 := HCW.out 1 y rfl
        have HIN : Hid (tailF (a1, a2) (a1, a2) t = match innerF y with
          | none => none
          | some cs => some [⟨a1, a2, D, cs⟩]) := Lib.hid (by rw [HP2.out x y rfl, if_pos (by rw [← HD.out]; omega), ← HD.out])
        have HYL : Hid (y.length ≤ 1048576) := Lib.hid (Nat.le_trans (HCL.out y (by simp)) HT.out)
        have hy3 : y = [] ∨ ∃ z b, y = z ++ [b] := by
          rcases nil_or_snoc y with h | ⟨z, b, h⟩
          · exact Or.inl h
          · exact Or.inr ⟨z, b, h⟩
        rcases hy3 with rfl | ⟨z, b, hyz⟩
        · have HNO : Hid (tailF (a1, a2) (a1, a2) t = none) := Lib.hid HIN.out
          go_wp2_with fail
          go_ret2
          exact ⟨⟨_, _, rfl, by rw [HF.out, HNO.out]⟩, HBW.out⟩
        · obtain ⟨M, hM⟩ : ∃ M, M = z.length := ⟨_, rfl⟩
          have hzy : (⟨y.toArray⟩ : ByteArray).size = M + 1 := by rw [size_bytes, hyz, hM]; simp
          have hbl : ∀ h : M < (⟨y.toArray⟩ : ByteArray).size, (⟨y.toArray⟩ : ByteArray)[M]'h = b := fun h => by
            subst hyz
            subst hM
            show (z ++ [b]).toArray[z.length]'_ = b
            simp
          have hzl : M ≤ 1048576 := by have := HYL.out; rw [hyz] at this; simp at this; omega
          have e5 : ((M : Int) + 1 == 0) = false := by rw [beq_eq_false_iff_ne]; omega
          have i5 : (M : Int) < (M : Int) + 1 := by omega
          have HYZ := Lib.hid hyz
          have HM := Lib.hid hM
          clear hyz hM
          by_cases hb41 : b = 41
          · subst hb41
            have HIN2 : Hid (tailF (a1, a2) (a1, a2) t = match allOf changedF (cutF 44 z) with
              | none => none
              | some cs => some [⟨a1, a2, D, cs⟩]) := Lib.hid (by
              rw [HIN.out, HYZ.out]
              unfold innerF
              rw [List.getLast?_concat, if_pos rfl, List.dropLast_concat])
            have hex : (⟨y.toArray⟩ : ByteArray).extract 0 M = ⟨z.toArray⟩ := by
              rw [ext_take y M (by rw [HYZ.out, HM.out]; simp), HYZ.out, HM.out, List.take_left]
            have HZL : Hid (z.length ≤ 1048576) := Lib.hid (by rw [← HM.out]; exact hzl)
            have i0 : (0 : Int) ≤ (M : Int) := by omega
            have i6 : (M : Int) ≤ (M : Int) + 1 := by omega
            go_wp2_with fail
            refine (refCut_any z 44 _ HZL.out).mono ?_
            rintro e w5 ⟨⟨v5, rfl, hrow⟩, hb5⟩
            have hqn := cutF_ne 44 z
            have hql := cutF_short 44 z
            have hqc := cutF_len 44 z
            obtain ⟨qs, hqs⟩ : ∃ qs, qs = cutF 44 z := ⟨_, rfl⟩
            rw [← hqs] at hrow hqn hql hqc HIN2
            obtain ⟨J, hJ⟩ : ∃ J, J = qs.length := ⟨_, rfl⟩
            have hst := strs_of_row hrow
            rw [← hJ] at hrow hqc
            have hJ0 : 0 < J := by rw [hJ]; exact List.length_pos_iff.2 hqn
            obtain ⟨g2, qcap, rfl, hg2, hg2l⟩ := row_form hrow hJ0
            have hJl : J ≤ 1048577 := by have := HZL.out; omega
            have HQC : Hid (∀ (i : Nat) (q : Bs), qs[i]? = some q → w5.cell? ⟨g2, i, none⟩ = some (S q)) := Lib.hid (by
              obtain ⟨qa, qc2, e, h⟩ := hst
              cases e
              obtain ⟨g2', e, -, h⟩ := h hqn
              cases e
              exact h)
            have hGl := blk_lt HGW.out
            have HIC : Hid (CgI w5 w5 w4.heap.size D (.slice none 0 0) []) := Lib.hid ⟨OnlyIn.refl _ _, blk_later hb5 HGW.out, World.ownsRow_nil _ _ _ _, by have := hb5.size; omega⟩
            have HBW5 := Lib.hid (HBW.out.trans (hb5.mono HBW.out.size))
            have HX5 := Lib.hid (blk_later hb5 HXW.out)
            have HY5 := Lib.hid (blk_later hb5 HYW.out)
            have HGG : Hid (g2 ≠ w4.heap.size ∧ g2 < w5.heap.size) := Lib.hid (by omega)
            have HJ := Lib.hid hJ
            have HQL := Lib.hid hql
            obtain ⟨ei, hi1, hi2, hi3, hi4⟩ := elemChg
            have HI := Lib.hid (And.intro hi1 (And.intro hi2 (And.intro hi3 hi4)))
            clear hi1 hi2 hi3 hi4 hrow hst hqs hqn hql hqc hJ hg2 hg2l hGl hb5 z0 z1 z2 z3 c0 c1 d0 d1 x1 hbl hex e1 e5 i0 i5 i6
            go_wp2_with fail
            go_loopw [12] (fun i wr => ∃ (k : Nat) (v : Value) (cs : List Chg), k ≤ J ∧ i = .int .i64 k ∧ Hid (CgI w5 wr w4.heap.size D v cs ∧ allOf changedF (qs.take k) = some cs ∧ cs.length = k)) (fun i _ => J - (intOf i).toNat)
            case atStart => exact ⟨0, _, [], by omega, rfl, Lib.hid ⟨HIC.out, rfl, rfl⟩⟩
            case round =>
              clear HIC
              obtain ⟨k, v, cs, hk, rfl, HIC⟩ := hrel
              have hGw := HIC.out.1.lt
              by_cases hlt : k < J
              · have d1 : decide ((k : Int) < (J : Int)) = true := decide_eq_true (by omega)
                have i1 : (k : Int) < (J : Int) := by omega
                obtain ⟨q, hq⟩ : ∃ q, qs[k]? = some q := ⟨_, List.getElem?_eq_getElem (by have := HJ.out; omega)⟩
                have x1 := HIC.out.1.cell HGG.out.2 HGG.out.1 (HQC.out k q hq)
                have HQK := Lib.hid hq
                have HQQ : Hid (q.length ≤ 1048576) := Lib.hid (Nat.le_trans (HQL.out q (List.mem_of_getElem? hq)) HZL.out)
                clear hq
                go_wp2_with fail
                refine (refChanged_any q _ HQQ.out).mono ?_
                rintro e w6 ⟨⟨ck, cp, cm, B, rfl, hcf⟩, hb6⟩
                have HCF := Lib.hid hcf
                have HIC := Lib.hid (And.intro (HIC.out.1.later hb6) HIC.out.2)
                clear hb6 hcf x1
                cases B with
                | false =>
                  have HNO : Hid (tailF (a1, a2) (a1, a2) t = none) := Lib.hid (by
                    have h2 := list_at HQK.out
                    have h5 : allOf changedF qs = none := by
                      rw [h2]
                      exact allOf_stop HCF.out
                    rw [HIN2.out, h5])
                  go_wp2_with fail
                  go_ret2
                  exact ⟨⟨_, _, rfl, by rw [HF.out, HNO.out]⟩, (HIC.out.1.only.below HBW5.out HBW5.out.size (fun j e => by subst e; exact HGw.out)).alloc (by have := HBW5.out.size; have := HIC.out.1.only.size; omega) _⟩
                | true =>
                  have hCF : changedF q = some ⟨ck, cp, cm⟩ := HCF.out
                  have HALL : Hid (allOf changedF (qs.take (k + 1)) = some (cs ++ [⟨ck, cp, cm⟩])) := Lib.hid (by
                    rw [take_one' HQK.out, allOf_snoc, HIC.out.2.1]
                    dsimp only
                    rw [hCF])
                  clear hCF
                  obtain ⟨W2, hW2⟩ : ∃ W2, W2 = w6.alloc (.cells #[.int .i64 ck, .int .i64 cp, .int .i64 cm] 44) := ⟨_, rfl⟩
                  have HIC2 := Lib.hid (show CgI w5 W2 w4.heap.size D v cs by rw [hW2]; exact HIC.out.1.later ((Below.refl _ w6).alloc (Nat.le_refl _) _))
                  have hcb : W2.heap[w6.heap.size]? = some (.cells #[.int .i64 ck, .int .i64 cp, .int .i64 cm] 44) := by rw [hW2]; exact (by repeat (first | exact heap_alloc_at _ _ _ (by (first | omega | (simp; done) | (simp; omega) | fail)) | (refine (heap_alloc_past _ _ _ ?_).trans ?_; · (first | omega | (simp; done) | (simp; omega) | fail)) | fail))
                  have hsz2 : w5.heap.size ≤ W2.heap.size := HIC2.out.only.size
                  have r0 := blk_cell hcb 0; have r1 := blk_cell hcb 1; have r2 := blk_cell hcb 2
                  have hbx := HIC2.out.box
                  have b0 := blk_cell hbx 0; have b1 := blk_cell hbx 1; have b2 := blk_cell hbx 2; have b3 := blk_cell hbx 3
                  have hkl := HIC.out.2.2
                  go_upto_region 24 with fail
                  rw [← hW2]
                  clear hW2 hcb hbx HIC
                  obtain ⟨hi1, hi2, hi3, hi4⟩ := HI.out
                  go_wp2_with (at_builtin; refine wpList_append_own _ rfl _ _ 40 rfl w5.heap.size 44 ei _ 3 24 undChgs hi1 hi2 hi3 hi4 rfl (by decide) v cs.length (chgCells cs) rfl (row_later HIC2.out.row ((Below.refl _ W2).alloc (Nat.le_refl _) (.cells #[.int .i64 ck, .int .i64 cp, .int .i64 cm] 44))) ⟨W2.heap.size, 0, none⟩ 1 1 [.int .i64 ck, .int .i64 cp, .int .i64 cm] rfl rfl ?c1 ?c2 ?c3 ?c4 ?c5 ?c6)
                  case c1 => exact cells_at W2 _ _ _ rfl
                  case c2 => simp [Value.oneCell']
                  case c3 => simp only [maxLen]; omega
                  case c4 => omega
                  case c5 => simp; omega
                  case c6 =>
                    rintro v' w7 hown hgrow -
                    obtain ⟨g7, cap7, rfl, -, -⟩ := row_form hown (by omega)
                    have HIC3 := HIC2.out.later ((Below.refl _ W2).alloc (Nat.le_refl _) (.cells #[.int .i64 ck, .int .i64 cp, .int .i64 cm] 44))
                    have HIC4 := Lib.hid (HIC3.add (c := ⟨ck, cp, cm⟩) (by rw [hkl]; exact hown) hgrow)
                    have hbx7 : w7.heap[w4.heap.size]? = some (.cells #[.int .i64 0, .int .i64 0, .int .i64 D, v] 42) := by
                      rw [← HIC3.box]
                      exact hgrow.block _ (blk_lt HIC3.box) (fun e => by have := (HIC3.row.lt _ e.symm).1; omega)
                    have p0 := blk_cell hbx7 0; have p1 := blk_cell hbx7 1; have p2 := blk_cell hbx7 2; have p3 := blk_cell hbx7 3
                    have f0 := blk_free hbx7 0; have f1 := blk_free hbx7 1; have f2 := blk_free hbx7 2; have f3 := blk_free hbx7 3
                    clear hbx7 hown hgrow HIC3 b0 b1 b2 b3 r0 r1 r2 hi1 hi2 hi3 hi4
                    go_wp2_with fail
                    go_roundw
                    case rel => exact ⟨k + 1, _, cs ++ [⟨ck, cp, cm⟩], by omega, by go_num, Lib.hid ⟨HIC4.out, HALL.out, by rw [List.length_append, hkl]; rfl⟩⟩
                    case measure => simp [intOf]; omega
              · have d1 : decide ((k : Int) < (J : Int)) = false := decide_eq_false (by omega)
                have hkJ : k = J := by omega
                have HYES : Hid (tailF (a1, a2) (a1, a2) t = some [⟨a1, a2, D, cs⟩]) := Lib.hid (by
                  have h := HIC.out.2.1
                  rw [hkJ, HJ.out, List.take_length] at h
                  rw [HIN2.out, h])
                have hIC := HIC.out.1
                have hXb := hIC.blk (by have := HGX.out; have := blk_lt HX5.out; omega) (by have := HGX.out; omega) HX5.out
                have hYb := hIC.blk (by have := HGX.out; have := blk_lt HY5.out; omega) (by have := HGX.out; omega) HY5.out
                have hbx := hIC.box
                have z0 := blk_cell hbx 0; have z1 := blk_cell hbx 1; have z2 := blk_cell hbx 2; have z3 := blk_cell hbx 3
                have f0 := blk_free hbx 0; have f1 := blk_free hbx 1; have f2 := blk_free hbx 2; have f3 := blk_free hbx 3
                have c0 := blk_cell hXb 0; have c1 := blk_cell hXb 1
                have d0 := blk_cell hYb 0; have d1 := blk_cell hYb 1
                have HBE := Lib.hid (hIC.only.below HBW5.out HBW5.out.size (fun j e => by subst e; exact HGw.out))
                have HCT := Lib.hid (ChsT.of_row hIC.row)
                have HTY : Hid (∀ (b : Nat) (xs : Array Value), wr.heap[b]? = some (Obj.cells xs 44) → b ≠ w4.heap.size) := Lib.hid (fun b xs hb e => by
                  subst e
                  rw [hbx] at hb
                  simp at hb)
                clear hIC hXb hYb hbx hkJ HIC
                go_wp2_with fail
                go_ret2
                have HKE : ChsT ((wr.setCell ⟨w4.heap.size, 0, none⟩ (.int .i64 a1)).setCell ⟨w4.heap.size, 1, none⟩ (.int .i64 a2)) v cs := HCT.out.keep fun b xs hb =>
                  (heap_setCell_past _ _ _ _ (HTY.out b xs hb)).trans ((heap_setCell_past _ _ _ _ (HTY.out b xs hb)).trans hb)
                exact ⟨⟨_, _, rfl, by rw [HF.out, HYES.out]; exact ⟨rfl, gs_one (by simp) (by have := HBE.out.size; simpa using this) HKE⟩⟩, ((HBE.out.setCell HGw.out _).setCell HGw.out _).alloc (by simpa using HBE.out.size) _⟩
          · have m2 : ((b.toNat : Int) == 41) = false := by
              rw [beq_eq_false_iff_ne]
              intro h
              exact hb41 (UInt8.toNat_inj.1 (by show b.toNat = 41; omega))
            have HNO : Hid (tailF (a1, a2) (a1, a2) t = none) := Lib.hid (by
              rw [HIN.out, HYZ.out]
              unfold innerF
              rw [List.getLast?_concat, if_neg (by simpa using hb41)])
            clear hb41
            go_wp2_with fail
            go_ret2
            exact ⟨⟨_, _, rfl, by rw [HF.out, HNO.out]⟩, HBW.out⟩
      · have hn2 : 2 ≤ n := by rw [HN.out]; simp
        have e2 : decide ((2 : Int) < (n : Int) + 1) = true := decide_eq_true (by omega)
        have HNO : Hid (tailF (a1, a2) (a1, a2) t = none) := Lib.hid (HPN.out (by simp) (by simp))
        go_wp2_with fail
        go_ret2
        exact ⟨⟨_, _, rfl, by rw [HF.out, HNO.out]⟩, HBW.out⟩
end Go.Proofs.YtlfglbnbenaghaaGreatDoor
