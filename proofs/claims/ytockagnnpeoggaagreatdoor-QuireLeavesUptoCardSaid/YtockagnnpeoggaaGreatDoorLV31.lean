/- The parts Co of the proof, joined. It holds without conditions of its own. -/
import Derived.Test.YtockagnnpeoggaaGreatDoorLV30
/- The reference's Pair and Mate. -/
namespace Go.Proofs.YtockagnnpeoggaaGreatDoor
set_option linter.unusedSimpArgs false
set_option linter.unusedVariables false
open Go Go.RowKit Go.Sort Go.BigFrame Go.Shelf
attribute [local go_sem] Oper.semAt_some putAll

/-- A leaf at a number is the mate of another, as the reference asks. -/
def pairC (g : Gth) (i k : Nat) (x y : Lf) : Prop := k ≠ i ∧ y.gat = x.gat ∧ y.kind = 0 ∧ y.num + x.num = g.leaves + 1
theorem pair_cond {b : Bk} {i k : Nat} {x y : Lf} {g : Gth} (hx : (lvs b)[i]? = some x) (hy : (lvs b)[k]? = some y) (hg : b.gs[x.gat]? = some g) (hk : x.kind = 0) :
    pairC g i k x y ↔ turnedL b x ≠ x ∧ y = turnedL b x := by
  have px : x.plus = 0 := lvs_plus (List.mem_of_getElem? hx) (by omega)
  rw [turned_is hg]
  constructor
  · rintro ⟨h1, h2, h3, h4⟩
    have py : y.plus = 0 := lvs_plus (List.mem_of_getElem? hy) (by omega)
    have e : y = ⟨x.gat, g.leaves + 1 - x.num, x.plus, x.kind⟩ := by
      cases y
      simp only at *
      simp only [Lf.mk.injEq]
      omega
    refine ⟨fun h => h1 ?_, e⟩
    rw [← e] at h
    rw [h] at hy
    exact sorted_inj (lvs_sorted b) hy hx
  · rintro ⟨h1, rfl⟩
    refine ⟨fun h => h1 ?_, rfl, hk, ?_⟩
    · subst h
      rw [hx] at hy
      exact (Option.some.inj hy).symm
    · show g.leaves + 1 - x.num + x.num = _
      omega
theorem pair_found {b : Bk} {i k : Nat} {x y : Lf} {g : Gth} (hx : (lvs b)[i]? = some x) (hy : (lvs b)[k]? = some y) (hg : b.gs[x.gat]? = some g) (hk : x.kind = 0) (h : pairC g i k x y) : mateF b i = some k := by
  obtain ⟨h1, h2⟩ := (pair_cond hx hy hg hk).1 h
  unfold mateF
  rw [getL_nat, hx]
  dsimp only
  rw [if_pos ⟨hk, h1⟩, ← h2]
  exact find_at (lvs_sorted b) hy
theorem pair_not {b : Bk} {i : Nat} {x : Lf} {g : Gth} (hx : (lvs b)[i]? = some x) (hg : b.gs[x.gat]? = some g) (h : x.kind = 0 → ∀ k y, (lvs b)[k]? = some y → ¬ pairC g i k x y) : mateF b i = none := by
  cases hm : mateF b i with
  | none => rfl
  | some k =>
    unfold mateF at hm
    rw [getL_nat, hx] at hm
    dsimp only at hm
    split at hm
    · rename_i h0
      have hy := find_some hm
      exact absurd ((pair_cond hx hy hg h0.1).2 ⟨h0.2, rfl⟩) (h h0.1 k _ hy)
    · cases hm
def pairF (b : Bk) (n : Int) : Int := match mateF b n with
  | some m => m
  | none => -1

set_option maxRecDepth 100000 in
set_option maxHeartbeats 1600000 in
theorem refPair_any (b : Bk) (v : Value) (i : Nat) (x : Lf) (w : World) (hb : BookAt w.heap.size w v b) (he : errF b = 0) (hx : (lvs b)[i]? = some x) :
    Calls Tryz.prog 37 #[v, .int .i64 i] w fun e w' => e = .returned (.int .i64 (pairF b i)) ∧ Below w.heap.size w w' := by
  obtain ⟨sv, rfl, hgs⟩ := hb
  have hb : BookAt w.heap.size w (.agg #[.int .i64 b.signed, sv]) b := ⟨sv, rfl, hgs⟩
  obtain ⟨a, cap, rfl, -⟩ := hgs
  have HK := Lib.hid (BkBox.start hb)
  clear hb
  have hfew := lvs_few (errF_zero he)
  obtain ⟨g, hg, hgk, n0, n1, p0, p1⟩ := lf_bounds (errF_zero he) (List.mem_of_getElem? hx)
  have hlv := hgk.leaves
  have HE := Lib.hid he
  have HX := Lib.hid hx
  have HGG := Lib.hid hg
  obtain ⟨N, hN⟩ : ∃ N, N = (lvs b).length := ⟨_, rfl⟩
  have HN := Lib.hid hN
  rw [← hN] at hfew
  have hiN : i < N := by
    rw [hN]
    exact (List.getElem?_eq_some_iff.1 hx).1
  have hgb : x.gat < b.gs.length := (List.getElem?_eq_some_iff.1 hg).1
  clear he hx hg hgk hN
  have c0 := blk_cell HK.out.box 0; have c1 := blk_cell HK.out.box 1
  go_enter Tryz.func37, Tryz.ntmps37
  go_wp2_with fail
  refine (refAll_any b _ _ HK.out.book (errF_zero HE.out)).mono ?_
  rintro e w1 ⟨⟨v', rfl, hrow⟩, hb1⟩
  have hL := LfsAt.of_row hrow
  have HK := Lib.hid (HK.out.later hb1)
  clear hb1 c0 c1 hrow
  have HL := Lib.hid hL
  obtain ⟨la, lcap, rfl, -⟩ := hL
  rw [← HN.out] at HL ⊢
  obtain ⟨la', rfl, -, x0, x1, x2, x3⟩ := HL.out.get HX.out
  by_cases hk0 : x.kind = 0
  · have e0 : (x.kind != 0) = false := by simp [hk0]
    have HK0 := Lib.hid hk0
    go_wp2_with fail
    have HK' := Lib.hid (HK.out.later ((Below.refl _ w1).alloc (Nat.le_refl _) (.cells #[.int .i64 x.gat, .int .i64 x.num, .int .i64 x.plus, .int .i64 0] 68)))
    have HL' := Lib.hid (HL.out.later ((Below.refl _ w1).alloc (Nat.le_refl _) (.cells #[.int .i64 x.gat, .int .i64 x.num, .int .i64 x.plus, .int .i64 0] 68)))
    obtain ⟨W, hW⟩ : ∃ W, W = w1.alloc (.cells #[.int .i64 x.gat, .int .i64 x.num, .int .i64 x.plus, .int .i64 0] 68) := ⟨_, rfl⟩
    have q : W.heap[w1.heap.size]? = some (.cells #[.int .i64 x.gat, .int .i64 x.num, .int .i64 x.plus, .int .i64 0] 68) := by rw [hW]; exact World.alloc_heap_new _ _
    rw [← hW] at HK' HL' ⊢
    have q0 := blk_cell q 0
    have q1 := blk_cell q 1
    have q2 := blk_cell q 2
    have q3 := blk_cell q 3
    clear hW q x0 x1 x2 x3 HK HL
    obtain ⟨bb, off, rfl, -, ca, ccap, -, g0, g1, g2, g3⟩ := HK'.out.gth HGG.out
    have c0 := blk_cell HK'.out.box 0; have c1 := blk_cell HK'.out.box 1
    go_loopw [7] (fun t wr => ∃ (k d : Nat), k ≤ N ∧ t = .int .i64 k ∧ wr = W.drewN d ∧ Hid (∀ j y, j < k → (lvs b)[j]? = some y → ¬ pairC g i j x y)) (fun t _ => N - (intOf t).toNat)
    case atStart => exact ⟨0, 0, by omega, rfl, rfl, fun j y h => absurd h (by omega)⟩
    case round =>
      obtain ⟨k, d, hk, rfl, rfl, hT⟩ := hrel
      by_cases hlt : k < N
      · obtain ⟨y, hy⟩ : ∃ y, (lvs b)[k]? = some y := ⟨_, List.getElem?_eq_getElem (by have := HN.out; omega)⟩
        obtain ⟨z, ez, -, y0, y1, y2, y3⟩ := HL'.out.get hy
        obtain ⟨gy, hgy, hgyk, m0, m1, -, -⟩ := lf_bounds (errF_zero HE.out) (List.mem_of_getElem? hy)
        have hlvy := hgyk.leaves
        have HY := Lib.hid hy
        clear hy hgy hgyk
        cases ez
        have d1 : ((k : Int) < N) := by omega
        have hs : wrap64 (y.num + x.num) = y.num + x.num := by unfold wrap64; omega
        have hs2 : wrap64 (g.leaves + 1) = g.leaves + 1 := by unfold wrap64; omega
        by_cases hc : pairC g i k x y
        · have HV : Hid (pairF b i = k) := Lib.hid (by unfold pairF; rw [pair_found HX.out HY.out HGG.out HK0.out hc])
          obtain ⟨h1, h2, h3, h4⟩ := hc
          have f1 : ((k : Int) != (i : Int)) = true := by simp; omega
          have f2 : ((y.gat : Int) == (x.gat : Int)) = true := by simp; omega
          have f3 : (y.kind == 0) = true := by simp [h3]
          have f4 : (y.num + x.num == g.leaves + 1) = true := by simp [h4]
          clear hT h1 h2 h3 h4
          go_wp2_with fail
          go_quiet (fail)
          go_wp2_with fail
          go_ret
          exact ⟨by rw [HV.out]; rfl, bdrewN (bdrewN HK'.out.below _) _⟩
        · have HT : Hid (∀ j y, j < k + 1 → (lvs b)[j]? = some y → ¬ pairC g i j x y) := Lib.hid (by
            intro j z h hz
            by_cases e : j = k
            · subst e
              rw [HY.out] at hz
              cases hz
              exact hc
            · exact hT.out j z (by omega) hz)
          have hcs : (k = i) ∨ (k ≠ i ∧ ((y.gat ≠ x.gat) ∨ (y.gat = x.gat ∧ ((y.kind ≠ 0) ∨ (y.kind = 0 ∧ y.num + x.num ≠ g.leaves + 1))))) := by
            unfold pairC at hc
            omega
          have hcs' : ((k : Int) != (i : Int)) = false ∨ (((k : Int) != (i : Int)) = true ∧ ((((y.gat : Int) == (x.gat : Int)) = false) ∨ (((y.gat : Int) == (x.gat : Int)) = true ∧ (((y.kind == 0) = false) ∨ ((y.kind == 0) = true ∧ (y.num + x.num == g.leaves + 1) = false))))) := by
            rcases hcs with h | ⟨h1, h | ⟨h2, h | ⟨h3, h⟩⟩⟩
            · exact Or.inl (by simp [h])
            · exact Or.inr ⟨(by simp; omega), Or.inl (by simp; omega)⟩
            · exact Or.inr ⟨(by simp; omega), Or.inr ⟨(by simp; omega), Or.inl (by simp [h])⟩⟩
            · exact Or.inr ⟨(by simp; omega), Or.inr ⟨(by simp; omega), Or.inr ⟨(by simp [h3]), (by simp [h])⟩⟩⟩
          clear hT hc hcs
          rcases hcs' with f1 | ⟨f1, f2 | ⟨f2, f3 | ⟨f3, f4⟩⟩⟩
          all_goals
            go_wp2_with fail
            go_quiet (fail)
            go_wp2_with fail
            go_roundw
            case rel => exact ⟨k + 1, _, by omega, by go_num, rfl, HT.out⟩
            case measure => simp [intOf]; omega
      · have HV : Hid (pairF b i = -1) := Lib.hid (by
          unfold pairF
          rw [pair_not HX.out HGG.out (fun _ j z hz => hT.out j z (by
            have := (List.getElem?_eq_some_iff.1 hz).1
            have := HN.out
            omega) hz)])
        clear hT
        go_wp2_with fail
        go_ret
        exact ⟨by rw [HV.out]; rfl, bdrewN HK'.out.below _⟩
  · have e0 : (x.kind != 0) = true := by simp [hk0]
    have HV : Hid (pairF b i = -1) := Lib.hid (by unfold pairF; rw [pair_not HX.out HGG.out (fun h => absurd h hk0)])
    clear hk0
    go_wp2_with fail
    go_ret
    exact ⟨by rw [HV.out]; rfl, HK.out.below.alloc HK.out.below.size _⟩
end Go.Proofs.YtockagnnpeoggaaGreatDoor
