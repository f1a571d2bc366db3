/- The parts Lb of the proof, joined. It holds without conditions of its own. -/
import Derived.Test.YtajjhmmmifenaaaGreatDoorPM25
import Derived.Test.YtajjhmmmifenaaaGreatDoorPM27
import Derived.Test.YtajjhmmmifenaaaGreatDoorPM47
/- The law QuirePairs: it returns true. -/
namespace Go.Proofs.YtajjhmmmifenaaaGreatDoor
set_option linter.unusedSimpArgs false
set_option linter.unusedVariables false
open Go Go.RowKit Go.Sort Go.BigFrame Go.Shelf
attribute [local go_sem] Oper.semAt_some putAll

set_option maxRecDepth 100000 in
set_option maxHeartbeats 1600000 in
theorem QuirePairs_bad (b : Bk) (v : Value) (n : Nat) (w : World) (hb : BookAt w.heap.size w v b) (he : errF b ≠ 0) :
    Calls Tryz.prog 10 #[v, .int .u16 n] w fun e w' => e = .returned (.bool true) ∧ Below w.heap.size w w' := by
  obtain ⟨sv, rfl, hgs⟩ := hb
  have hb : BookAt w.heap.size w (.agg #[.int .i64 b.signed, sv]) b := ⟨sv, rfl, hgs⟩
  obtain ⟨a, cap, rfl, -⟩ := hgs
  have HK := Lib.hid (BkBox.start hb)
  clear hb
  have hne : (errF b != 0) = true := by simp [he]
  have heq : (errF b == 0) = false := by simp [he]
  have HE := Lib.hid he
  clear he
  go_enter Tryz.func10, Tryz.ntmps10
  go_wp2_with fail
  refine (Leaves_bad b _ _ HK.out.book HE.out).mono ?_
  rintro e w1 ⟨rfl, hb1⟩
  have HK := Lib.hid (HK.out.later hb1)
  clear hb1
  have c0 := blk_cell HK.out.box 0; have c1 := blk_cell HK.out.box 1
  go_wp2_with fail
  refine (valid_any b _ _ HK.out.book).mono ?_
  rintro e w2 ⟨rfl, hb2⟩
  rw [heq]
  have HK := Lib.hid (HK.out.later hb2)
  clear hb2 c0 c1
  go_wp2_with fail
  refine (Awake_any _).mono ?_
  rintro e w3 ⟨rfl, hb3⟩
  have HK := Lib.hid (HK.out.later hb3)
  clear hb3
  go_wp2_with fail
  go_ret
  exact ⟨rfl, HK.out.below⟩

set_option maxRecDepth 100000 in
set_option maxHeartbeats 1600000 in
theorem QuirePairs_good (b : Bk) (v : Value) (n : Nat) (hn : n < 65536) (w : World) (hb : BookAt w.heap.size w v b) (he : errF b = 0) :
    Calls Tryz.prog 10 #[v, .int .u16 n] w fun e w' => e = .returned (.bool true) ∧ Below w.heap.size w w' := by
  obtain ⟨sv, rfl, hgs⟩ := hb
  have hb : BookAt w.heap.size w (.agg #[.int .i64 b.signed, sv]) b := ⟨sv, rfl, hgs⟩
  obtain ⟨a, cap, rfl, -⟩ := hgs
  have HK := Lib.hid (BkBox.start hb)
  clear hb
  have heq : (errF b == 0) = true := by simp [he]
  have HE := Lib.hid he
  clear he
  go_enter Tryz.func10, Tryz.ntmps10
  go_wp2_with fail
  refine (Leaves_good b _ _ HK.out.book HE.out).mono ?_
  rintro e w1 ⟨⟨lv, rfl, hrow⟩, hb1⟩
  have hL := LfsAt.of_row hrow
  clear hrow
  have hL' := hL
  obtain ⟨la, lcap, rfl, -⟩ := hL'
  have HL := Lib.hid hL
  have HK := Lib.hid (HK.out.later hb1)
  clear hb1 hL
  obtain ⟨N, hN⟩ : ∃ N, N = (lvs b).length := ⟨_, rfl⟩
  have HN := Lib.hid hN
  rw [← hN] at HL ⊢
  clear hN
  have c0 := blk_cell HK.out.box 0; have c1 := blk_cell HK.out.box 1
  go_wp2_with fail
  refine (valid_any b _ _ HK.out.book).mono ?_
  rintro e w2 ⟨rfl, hb2⟩
  rw [heq]
  have HK := Lib.hid (HK.out.later hb2)
  have HL := Lib.hid (HL.out.later hb2)
  clear hb2 c0 c1
  have c0 := blk_cell HK.out.box 0; have c1 := blk_cell HK.out.box 1
  by_cases h0 : N = 0
  · have e0 : ((N : Int) == 0) = true := by simp [h0]
    clear HL
    go_wp2_with fail
    refine (valid_any b _ _ HK.out.book).mono ?_
    rintro e w3 ⟨rfl, hb3⟩
    rw [heq]
    have HK := Lib.hid (HK.out.later hb3)
    clear hb3 c0 c1
    go_wp2_with fail
    refine (Awake_any _).mono ?_
    rintro e w4 ⟨rfl, hb4⟩
    have HK := Lib.hid (HK.out.later hb4)
    clear hb4
    go_wp2_with fail
    go_ret
    exact ⟨rfl, HK.out.below⟩
  · have e0 : ((N : Int) == 0) = false := by simp [h0]
    obtain ⟨i, hi⟩ : ∃ i, i = n % N := ⟨_, rfl⟩
    have hiN : i < N := by rw [hi]; exact Nat.mod_lt _ (by omega)
    have hm1 : (n : Int) % (N : Int) = (i : Int) := by rw [hi]; simp
    have hm2 : (n : Int).tmod (N : Int) = (i : Int) := by rw [hi]; rfl
    have d0 : ¬ (N : Int) = 0 := by omega
    have hw : wrap64 (n : Int) = (n : Int) := by unfold wrap64; omega
    obtain ⟨x, hx⟩ : ∃ x, (lvs b)[i]? = some x := ⟨_, List.getElem?_eq_getElem (by have := HN.out; omega)⟩
    obtain ⟨g, hg, -⟩ := lvs_mem (List.mem_of_getElem? hx)
    have HX := Lib.hid hx
    have HG := Lib.hid hg
    clear hi hx hg
    go_wp2_with fail
    refine (Mate_good b _ i _ HK.out.book HE.out).mono ?_
    rintro e w3 ⟨rfl, hb3⟩
    have HK := Lib.hid (HK.out.later hb3)
    have HL := Lib.hid (HL.out.later hb3)
    clear hb3 c0 c1 hw hm1 hm2
    have c0 := blk_cell HK.out.box 0; have c1 := blk_cell HK.out.box 1
    obtain ⟨gl, rfl, hgl, l0, l1, l2, l3⟩ := HL.out.get HX.out
    obtain ⟨bb, off, rfl, hbb, ca, ccap, hch, g0, g1, g2, g3⟩ := HK.out.gth HG.out
    have hXl := blk_lt HK.out.box
    have c1' := fun o => cell_al c1 hXl o
    have l0' := fun o => cell_al l0 hgl o
    have g0' := fun o => cell_al g0 hbb o
    have g1' := fun o => cell_al g1 hbb o
    have g2' := fun o => cell_al g2 hbb o
    have g3' := fun o => cell_al g3 hbb o
    have d1 : ((i : Int) < N) := by omega
    have d2 : ((x.gat : Int) < b.gs.length) := by
      have := (List.getElem?_eq_some_iff.1 HG.out).1
      omega
    cases hm : mateF b i with
    | none =>
      dsimp only [mateR]
      go_wp2_with fail
      go_region
      have hn0 := mate_none (errF_zero HE.out) HX.out HG.out hm
      have hba : Below w3.heap.size w3 ((w3.alloc (.cells #[.int .i64 g.round, .int .i64 g.letter, .int .i64 g.leaves, .slice ca g.chs.length ccap] 59)).drew) := ((Below.refl _ w3).alloc (Nat.le_refl _) _).drew
      have HGB : Hid (((w3.alloc (.cells #[.int .i64 g.round, .int .i64 g.letter, .int .i64 g.leaves, .slice ca g.chs.length ccap] 59)).drew).heap[w3.heap.size]? = some (.cells #[.int .i64 g.round, .int .i64 g.letter, .int .i64 g.leaves, .slice ca g.chs.length ccap] 59)) := Lib.hid (World.alloc_heap_new _ _)
      have HK := Lib.hid (HK.out.later hba)
      have HL := Lib.hid (HL.out.later hba)
      clear hba c0 c1 l0 l1 l2 l3 g0 g1 g2 g3 c1' l0' g0' g1' g2' g3' hch
      revert HGB HK HL
      generalize (w3.alloc (.cells #[.int .i64 g.round, .int .i64 g.letter, .int .i64 g.leaves, .slice ca g.chs.length ccap] 59)).drew = w4
      intro HGB HK HL
      have p0 := blk_cell HGB.out 0
      have p1 := blk_cell HGB.out 1
      have p2 := blk_cell HGB.out 2
      have p3 := blk_cell HGB.out 3
      obtain ⟨M, hM⟩ : ∃ M, M = g.chs.length := ⟨_, rfl⟩
      change w4.cell? ⟨w3.heap.size, 3, none⟩ = some (.slice ca g.chs.length ccap) at p3
      rw [← hM] at p3
      have HM := Lib.hid hM
      by_cases hc : g.chs = []
      · have hM0 : M = 0 := by rw [hM, hc]; rfl
        have e1 : decide (0 < M) = false := decide_eq_false (by omega)
        have e1' : decide ((0 : Int) < (M : Int)) = false := decide_eq_false (by omega)
        have e2 : (g.leaves == 1) = true := by
          rcases hn0 with h | h
          · exact absurd hc h
          · simp [h]
        clear hn0 hc hm hM
        go_wp2_with fail
        refine (Awake_any _).mono ?_
        rintro e w5 ⟨rfl, hb5⟩
        have HK := Lib.hid (HK.out.later hb5)
        clear hb5
        go_wp2_with fail
        go_ret
        exact ⟨rfl, HK.out.below⟩
      · have hM0 : 0 < M := by
          rw [hM]
          exact Nat.pos_of_ne_zero (fun e => hc (List.length_eq_zero_iff.1 e))
        have e1 : decide (0 < M) = true := decide_eq_true hM0
        have e1' : decide ((0 : Int) < (M : Int)) = true := decide_eq_true (by omega)
        clear hn0 hc hm hM
        go_wp2_with fail
        refine (Awake_any _).mono ?_
        rintro e w5 ⟨rfl, hb5⟩
        have HK := Lib.hid (HK.out.later hb5)
        clear hb5
        go_wp2_with fail
        go_ret
        exact ⟨rfl, HK.out.below⟩
    | some k =>
      dsimp only [mateR]
      obtain ⟨y, hy⟩ := mate_ok HX.out HG.out hm
      have HY := Lib.hid hy
      clear hm hy
      go_wp2_with fail
      go_region
      have hba : Below w3.heap.size w3 ((w3.alloc (.cells #[.int .i64 g.round, .int .i64 g.letter, .int .i64 g.leaves, .slice ca g.chs.length ccap] 59)).drew) := ((Below.refl _ w3).alloc (Nat.le_refl _) _).drew
      have HGB : Hid (((w3.alloc (.cells #[.int .i64 g.round, .int .i64 g.letter, .int .i64 g.leaves, .slice ca g.chs.length ccap] 59)).drew).heap[w3.heap.size]? = some (.cells #[.int .i64 g.round, .int .i64 g.letter, .int .i64 g.leaves, .slice ca g.chs.length ccap] 59)) := Lib.hid (World.alloc_heap_new _ _)
      have HK := Lib.hid (HK.out.later hba)
      have HL := Lib.hid (HL.out.later hba)
      clear hba c0 c1 l0 l1 l2 l3 g0 g1 g2 g3 c1' l0' g0' g1' g2' g3' hch
      revert HGB HK HL
      generalize (w3.alloc (.cells #[.int .i64 g.round, .int .i64 g.letter, .int .i64 g.leaves, .slice ca g.chs.length ccap] 59)).drew = w4
      intro HGB HK HL
      have p0 := blk_cell HGB.out 0
      have p1 := blk_cell HGB.out 1
      have p2 := blk_cell HGB.out 2
      have p3 := blk_cell HGB.out 3
      have hkN : k < N := by
        have := (List.getElem?_eq_some_iff.1 HY.out.at_).1
        have := HN.out
        omega
      have hki := HY.out.ne
      have e1 : decide ((k : Int) < 0) = false := decide_eq_false (by omega)
      have e2 : decide ((N : Int) ≤ (k : Int)) = false := decide_eq_false (by omega)
      have e3 : ((k : Int) == (i : Int)) = false := by
        rw [beq_eq_false_iff_ne]
        omega
      have c0 := blk_cell HK.out.box 0; have c1 := blk_cell HK.out.box 1
      clear p0 p1 p2 p3
      go_wp2_with fail
      refine (Mate_good b _ k _ HK.out.book HE.out).mono ?_
      rintro e w5 ⟨rfl, hb5⟩
      have HK := Lib.hid (HK.out.later hb5)
      have HL := Lib.hid (HL.out.later hb5)
      have HGB := Lib.hid (blk_later hb5 HGB.out)
      clear hb5 c0 c1 e1 e2 e3
      rw [HY.out.back]
      dsimp only [mateR]
      obtain ⟨gl', he', -, l0, l1, l2, l3⟩ := HL.out.get HX.out
      cases he'
      obtain ⟨gl', he', -, m0, m1, m2, m3⟩ := HL.out.get HY.out.at_
      cases he'
      rw [HY.out.gat] at m0
      rw [HY.out.ky] at m3
      rw [HY.out.kx] at l3
      have p2 := blk_cell HGB.out 2
      change w5.cell? ⟨w3.heap.size, 2, none⟩ = some (.int .i64 g.leaves) at p2
      have hbd := (errF_zero HE.out).gs g (List.mem_of_getElem? HG.out)
      have hbl := hbd.leaves
      obtain ⟨T, hT⟩ : ∃ T, T = g.leaves + 1 := ⟨_, rfl⟩
      have w1' : IntKind.i64.wrap (g.leaves + 1) = T := by rw [hT]; exact IntWalk.i64_in _ (by omega)
      have w2' : IntKind.i64.wrap (y.num + x.num) = T := by rw [HY.out.num, hT]; exact IntWalk.i64_in _ (by omega)
      have d3 : ((k : Int) < N) := by omega
      have r0 := cell_regrown l0
      have r1 := cell_regrown l1
      have r3 := cell_regrown l3
      have s0 := cell_regrown m0
      have s1 := cell_regrown m1
      have s3 := cell_regrown m3
      have t2 := cell_regrown p2
      have cA : ∀ d os, Calls Tryz.prog 19 #[] (grow (redrawn w5 d) os) (fun e w'' => e = .returned (.bool true) ∧ ∃ p : Regrown, w'' = grow (redrawn w5 p.d) p.os) := fun d os => Calls.regrown_of (Awake_any _)
      clear l0 l1 l2 l3 m0 m1 m2 m3 p2 hbd hT
      go_wp2_with fail
      refine wp_region_quiet_below (by kernel_rfl) (by kernel_rfl) ?_; (repeat (go_big_quiet_step (exact cA _ _))); refine wpQuiet_nil ?_; rintro w8 ⟨⟨d8, os8⟩, rfl⟩
      go_wp2_with fail
      go_ret
      exact ⟨rfl, HK.out.below.trans ((below_regrown w5 d8 os8).mono HK.out.below.size)⟩
theorem QuirePairs_any (b : Bk) (v : Value) (n : Nat) (hn : n < 65536) (w : World) (hb : BookAt w.heap.size w v b) :
    Calls Tryz.prog 10 #[v, .int .u16 n] w fun e w' => e = .returned (.bool true) ∧ Below w.heap.size w w' := by
  by_cases he : errF b = 0
  · exact QuirePairs_good b v n hn w hb he
  · exact QuirePairs_bad b v n w hb he
end Go.Proofs.YtajjhmmmifenaaaGreatDoor
