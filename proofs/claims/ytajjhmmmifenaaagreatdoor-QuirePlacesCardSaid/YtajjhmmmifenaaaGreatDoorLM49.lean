/- The parts Ld of the proof, joined. It holds without conditions of its own. -/
import Derived.Test.YtajjhmmmifenaaaGreatDoorLM25
import Derived.Test.YtajjhmmmifenaaaGreatDoorLM27
import Derived.Test.YtajjhmmmifenaaaGreatDoorLM33
import Derived.Test.YtajjhmmmifenaaaGreatDoorLM48
/- The law QuirePlaces: it returns true. -/
namespace Go.Proofs.YtajjhmmmifenaaaGreatDoor
set_option linter.unusedSimpArgs false
set_option linter.unusedVariables false
open Go Go.RowKit Go.Sort Go.BigFrame Go.Shelf
attribute [local go_sem] Oper.semAt_some putAll

theorem getL_over {α : Type} (xs : List α) : getL xs (xs.length : Int) = none := by
  rw [getL_nat, List.getElem?_eq_none (Nat.le_refl _)]
theorem getL_below {α : Type} (xs : List α) : getL xs (-1) = none := by unfold getL; rw [if_pos (by omega)]
theorem bytes_ne {s t : List UInt8} (h : s ≠ t) : ¬ (⟨s.toArray⟩ : ByteArray) = ⟨t.toArray⟩ := fun e => h (by
  injection e with e
  exact congrArg Array.toList e)

set_option maxRecDepth 100000 in
set_option maxHeartbeats 1600000 in
theorem QuirePlaces_bad (b : Bk) (v u : Value) (m n : Nat) (hu : u = .agg #[.int .u16 m, .int .u16 n]) (w : World) (hb : BookAt w.heap.size w v b) (he : errF b ≠ 0) :
    Calls Tryz.prog 7 #[v, u] w fun e w' => e = .returned (.bool true) ∧ Below w.heap.size w w' := by
  subst hu
  obtain ⟨sv, rfl, hgs⟩ := hb
  have hb : BookAt w.heap.size w (.agg #[.int .i64 b.signed, sv]) b := ⟨sv, rfl, hgs⟩
  obtain ⟨a, cap, rfl, -⟩ := hgs
  have HK := Lib.hid ((BkBox.start hb).later (W' := (w.alloc (.cells #[.int .i64 b.signed, .slice a b.gs.length cap] 24)).alloc (.cells #[.int .u16 m, .int .u16 n] 50)) ((Below.refl _ _).alloc (Nat.le_refl _) _))
  clear hb
  have hne : (errF b != 0) = true := by simp [he]
  have heq : (errF b == 0) = false := by simp [he]
  have HE := Lib.hid he
  clear he
  go_enter Tryz.func7, Tryz.ntmps7
  go_wp2_with fail
  refine (Leaves_bad b _ _ HK.out.book HE.out).mono ?_
  rintro e w1 ⟨rfl, hb1⟩
  have HK := Lib.hid (HK.out.later hb1)
  clear hb1
  have c0 := blk_cell HK.out.box 0; have c1 := blk_cell HK.out.box 1
  go_wp2_with fail
  refine (valid_any b _ _ HK.out.book).mono ?_
  rintro e w2 ⟨rfl, hb2⟩
  rw [heq]
  have HK := Lib.hid (HK.out.later hb2)
  clear hb2 c0 c1
  go_wp2_with fail
  refine (Awake_any _).mono ?_
  rintro e w3 ⟨rfl, hb3⟩
  have HK := Lib.hid (HK.out.later hb3)
  clear hb3
  go_wp2_with fail
  go_ret
  exact ⟨rfl, HK.out.below⟩

set_option maxRecDepth 100000 in
set_option maxHeartbeats 1600000 in
theorem QuirePlaces_good (b : Bk) (v u : Value) (m n : Nat) (hm : m < 65536) (hn : n < 65536) (hu : u = .agg #[.int .u16 m, .int .u16 n]) (w : World) (hb : BookAt w.heap.size w v b) (he : errF b = 0) :
    Calls Tryz.prog 7 #[v, u] w fun e w' => e = .returned (.bool true) ∧ Below w.heap.size w w' := by
  subst hu
  obtain ⟨sv, rfl, hgs⟩ := hb
  have hb : BookAt w.heap.size w (.agg #[.int .i64 b.signed, sv]) b := ⟨sv, rfl, hgs⟩
  obtain ⟨a, cap, rfl, -⟩ := hgs
  have HK := Lib.hid ((BkBox.start hb).later (W' := (w.alloc (.cells #[.int .i64 b.signed, .slice a b.gs.length cap] 24)).alloc (.cells #[.int .u16 m, .int .u16 n] 50)) ((Below.refl _ _).alloc (Nat.le_refl _) _))
  have HA : Hid (((w.alloc (.cells #[.int .i64 b.signed, .slice a b.gs.length cap] 24)).alloc (.cells #[.int .u16 m, .int .u16 n] 50)).heap[w.heap.size + 1]? = some (.cells #[.int .u16 m, .int .u16 n] 50)) := Lib.hid (by exact (by repeat (first | exact heap_alloc_at _ _ _ (by (first | omega | (simp; done) | (simp; omega) | fail)) | (refine (heap_alloc_past _ _ _ ?_).trans ?_; · (first | omega | (simp; done) | (simp; omega) | fail)) | fail)))
  clear hb
  have heq : (errF b == 0) = true := by simp [he]
  have HE := Lib.hid he
  clear he
  go_enter Tryz.func7, Tryz.ntmps7
  go_wp2_with fail
  refine (Leaves_good b _ _ HK.out.book HE.out).mono ?_
  rintro e w1 ⟨⟨lv, rfl, hrow⟩, hb1⟩
  have hL := LfsAt.of_row hrow
  clear hrow
  obtain ⟨la, lcap, rfl, -⟩ := hL
  have HK := Lib.hid (HK.out.later hb1)
  have HA := Lib.hid (blk_later hb1 HA.out)
  clear hb1
  obtain ⟨N, hN⟩ : ∃ N, N = (lvs b).length := ⟨_, rfl⟩
  have HN := Lib.hid hN
  rw [← hN]
  clear hN
  have c0 := blk_cell HK.out.box 0; have c1 := blk_cell HK.out.box 1
  go_wp2_with fail
  refine (valid_any b _ _ HK.out.book).mono ?_
  rintro e w2 ⟨rfl, hb2⟩
  rw [heq]
  have HK := Lib.hid (HK.out.later hb2)
  have HA := Lib.hid (blk_later hb2 HA.out)
  clear hb2 c0 c1
  have c0 := blk_cell HK.out.box 0; have c1 := blk_cell HK.out.box 1
  by_cases h0 : N = 0
  · have e0 : ((N : Int) == 0) = true := by simp [h0]
    have hlz : getL (lvs b) 0 = none := by
      have := getL_over (lvs b)
      rw [← HN.out, h0] at this
      exact this
    have HZ := Lib.hid hlz
    clear h0 hlz
    go_wp2_with fail
    refine (Leaf_good b _ 0 _ HK.out.book HE.out).mono ?_
    rintro e w3 ⟨rfl, hb3⟩
    rw [HZ.out]
    dsimp only [leafTR]
    have HK := Lib.hid (HK.out.later hb3)
    clear hb3 c0 c1
    go_wp2_with fail
    refine (Awake_any _).mono ?_
    rintro e w4 ⟨rfl, hb4⟩
    have HK := Lib.hid (HK.out.later hb4)
    clear hb4
    go_wp2_with fail
    go_ret
    exact ⟨rfl, HK.out.below⟩
  · have e0 : ((N : Int) == 0) = false := by simp [h0]
    obtain ⟨i, hi⟩ : ∃ i, i = m % N := ⟨_, rfl⟩
    obtain ⟨j, hj⟩ : ∃ j, j = n % N := ⟨_, rfl⟩
    have hiN : i < N := by rw [hi]; exact Nat.mod_lt _ (by omega)
    have hjN : j < N := by rw [hj]; exact Nat.mod_lt _ (by omega)
    have hm1 : (m : Int) % (N : Int) = (i : Int) := by rw [hi]; simp
    have hm2 : (m : Int).tmod (N : Int) = (i : Int) := by rw [hi]; rfl
    have hm3 : (n : Int) % (N : Int) = (j : Int) := by rw [hj]; simp
    have hm4 : (n : Int).tmod (N : Int) = (j : Int) := by rw [hj]; rfl
    have d0 : ¬ (N : Int) = 0 := by omega
    have hw1 : wrap64 (m : Int) = (m : Int) := by unfold wrap64; omega
    have hw2 : wrap64 (n : Int) = (n : Int) := by unfold wrap64; omega
    obtain ⟨x, hx⟩ : ∃ x, (lvs b)[i]? = some x := ⟨_, List.getElem?_eq_getElem (by have := HN.out; omega)⟩
    obtain ⟨y, hy⟩ : ∃ y, (lvs b)[j]? = some y := ⟨_, List.getElem?_eq_getElem (by have := HN.out; omega)⟩
    have HF := Lib.hid (find_back HE.out hx)
    have HX := Lib.hid ((getL_nat (lvs b) i).trans hx)
    have HY := Lib.hid ((getL_nat (lvs b) j).trans hy)
    have HT : Hid ((i = j ∧ lfText b x = lfText b y) ∨ (i ≠ j ∧ lfText b x ≠ lfText b y)) := Lib.hid (by
      by_cases e : i = j
      · subst e
        rw [hx] at hy
        cases hy
        exact Or.inl ⟨rfl, rfl⟩
      · exact Or.inr ⟨e, fun h => e (text_inj HE.out hx hy h)⟩)
    clear hi hj hx hy
    have a0 := blk_cell HA.out 0
    have a1 := blk_cell HA.out 1
    go_wp2_with fail
    go_quiet (fail)
    have hbd : Below w2.heap.size w2 (w2.drewN nq) := bdrewN (Below.refl _ _) _
    have HK := Lib.hid (HK.out.later hbd)
    clear hbd c0 c1 a0 a1 HA hm1 hm2 hm3 hm4 hw1 hw2
    revert HK
    generalize w2.drewN nq = w3
    intro HK
    have c0 := blk_cell HK.out.box 0; have c1 := blk_cell HK.out.box 1
    go_wp2_with fail
    refine (Leaf_good b _ i _ HK.out.book HE.out).mono ?_
    rintro e w4 ⟨rfl, hb⟩
    rw [HX.out]
    dsimp only [leafTR]
    have HK := Lib.hid (HK.out.later hb)
    clear hb c0 c1
    have c0 := blk_cell HK.out.box 0; have c1 := blk_cell HK.out.box 1
    go_wp2_with fail
    refine (Leaf_good b _ j _ HK.out.book HE.out).mono ?_
    rintro e w5 ⟨rfl, hb⟩
    rw [HY.out]
    dsimp only [leafTR]
    have HK := Lib.hid (HK.out.later hb)
    clear hb c0 c1
    have c0 := blk_cell HK.out.box 0; have c1 := blk_cell HK.out.box 1
    go_wp2_with fail
    refine (Find_good b _ (lfText b x) _ HK.out.book HE.out).mono ?_
    rintro e w6 ⟨rfl, hb⟩
    rw [HF.out]
    have HK := Lib.hid (HK.out.later hb)
    clear hb c0 c1
    have c0 := blk_cell HK.out.box 0; have c1 := blk_cell HK.out.box 1
    go_wp2_with fail
    refine (Leaf_good b _ N _ HK.out.book HE.out).mono ?_
    rintro e w7 ⟨rfl, hb⟩
    rw [HN.out, getL_over]
    dsimp only [leafTR]
    have HK := Lib.hid (HK.out.later hb)
    clear hb c0 c1
    have c0 := blk_cell HK.out.box 0; have c1 := blk_cell HK.out.box 1
    go_wp2_with fail
    refine (Leaf_good b _ (-1) _ HK.out.book HE.out).mono ?_
    rintro e w8 ⟨rfl, hb⟩
    rw [getL_below]
    dsimp only [leafTR]
    have HK := Lib.hid (HK.out.later hb)
    clear hb c0 c1
    rcases HT.out with ⟨rfl, et⟩ | ⟨hij, et⟩
    · rw [← et]
      clear et HT
      go_wp2_with fail
      refine (Awake_any _).mono ?_
      rintro e w9 ⟨rfl, hb⟩
      have HK := Lib.hid (HK.out.later hb)
      clear hb
      go_wp2_with fail
      go_ret
      exact ⟨rfl, HK.out.below⟩
    · have eb := bytes_ne et
      have e1 : ((i : Int) == (j : Int)) = false := by
        rw [beq_eq_false_iff_ne]
        omega
      have e2 : ¬ (i : Int) = (j : Int) := by omega
      obtain ⟨t, ht⟩ : ∃ t, t = lfText b x := ⟨_, rfl⟩
      obtain ⟨s, hs⟩ : ∃ s, s = lfText b y := ⟨_, rfl⟩
      rw [← ht, ← hs] at eb
      rw [← ht, ← hs]
      have et2 : ¬ t = s := fun e => eb (by rw [e])
      have et3 : (t == s) = false := by
        rw [beq_eq_false_iff_ne]
        exact et2
      clear ht hs et HT
      go_wp2_with fail
      refine (Awake_any _).mono ?_
      rintro e w9 ⟨rfl, hb⟩
      have HK := Lib.hid (HK.out.later hb)
      clear hb
      go_wp2_with fail
      go_ret
      exact ⟨rfl, HK.out.below⟩
theorem QuirePlaces_any (b : Bk) (v : Value) (m n : Nat) (hm : m < 65536) (hn : n < 65536) (w : World) (hb : BookAt w.heap.size w v b) :
    Calls Tryz.prog 7 #[v, .agg #[.int .u16 m, .int .u16 n]] w fun e w' => e = .returned (.bool true) ∧ Below w.heap.size w w' := by
  by_cases he : errF b = 0
  · exact QuirePlaces_good b v _ m n hm hn rfl w hb he
  · exact QuirePlaces_bad b v _ m n rfl w hb he
end Go.Proofs.YtajjhmmmifenaaaGreatDoor
