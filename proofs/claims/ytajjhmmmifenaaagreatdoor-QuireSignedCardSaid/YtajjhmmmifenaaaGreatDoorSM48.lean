/- The parts Lc of the proof, joined. It holds without conditions of its own. -/
import Derived.Test.YtajjhmmmifenaaaGreatDoorSM25
import Derived.Test.YtajjhmmmifenaaaGreatDoorSM29
import Derived.Test.YtajjhmmmifenaaaGreatDoorSM47
/- The law QuireSigned: it returns true. -/
namespace Go.Proofs.YtajjhmmmifenaaaGreatDoor
set_option linter.unusedSimpArgs false
set_option linter.unusedVariables false
open Go Go.RowKit Go.Sort Go.BigFrame Go.Shelf
attribute [local go_sem] Oper.semAt_some putAll

set_option maxRecDepth 100000 in
set_option maxHeartbeats 1600000 in
theorem QuireSigned_bad (b : Bk) (v : Value) (n : Nat) (w : World) (hb : BookAt w.heap.size w v b) (he : errF b ≠ 0) :
    Calls Tryz.prog 11 #[v, .int .u8 n] w fun e w' => e = .returned (.bool true) ∧ Below w.heap.size w w' := by
  obtain ⟨sv, rfl, hgs⟩ := hb
  have hb : BookAt w.heap.size w (.agg #[.int .i64 b.signed, sv]) b := ⟨sv, rfl, hgs⟩
  obtain ⟨a, cap, rfl, -⟩ := hgs
  have HK := Lib.hid (BkBox.start hb)
  clear hb
  have hne : (errF b != 0) = true := by simp [he]
  have heq : (errF b == 0) = false := by simp [he]
  have HE := Lib.hid he
  clear he
  go_enter Tryz.func11, Tryz.ntmps11
  go_wp2_with fail
  refine (valid_any b _ _ HK.out.book).mono ?_
  rintro e w1 ⟨rfl, hb1⟩
  rw [heq]
  have HK := Lib.hid (HK.out.later hb1)
  clear hb1
  have c0 := blk_cell HK.out.box 0; have c1 := blk_cell HK.out.box 1
  go_wp2_with fail
  refine (Signs_bad b _ _ HK.out.book HE.out).mono ?_
  rintro e w2 ⟨rfl, hb2⟩
  have HK := Lib.hid (HK.out.later hb2)
  clear hb2 c0 c1
  go_wp2_with fail
  refine (Awake_any _).mono ?_
  rintro e w3 ⟨rfl, hb3⟩
  have HK := Lib.hid (HK.out.later hb3)
  clear hb3
  go_wp2_with fail
  go_ret
  exact ⟨rfl, HK.out.below⟩

/-- The signed number that is greater. -/
theorem great_ge {s : Int} {n : Nat} (h : 0 ≤ s ∧ s ≤ 12) : s ≤ min 12 (s + (n : Int) % 5) ∧ 0 ≤ min 12 (s + (n : Int) % 5) ∧ min 12 (s + (n : Int) % 5) ≤ 12 := by omega
theorem ints_of {b : Bk} {t : Nat} {z : Int} (h : ((signsF b).map fun n : Nat => (n : Int))[t]? = some z) : ∃ q : Nat, z = q ∧ (signsF b)[t]? = some q := by
  rw [List.getElem?_map] at h
  cases hq : (signsF b)[t]? with
  | none => rw [hq] at h; cases h
  | some q => rw [hq] at h; exact ⟨q, (Option.some.inj h).symm, rfl⟩

set_option maxRecDepth 100000 in
set_option maxHeartbeats 1600000 in
theorem QuireSigned_good (b : Bk) (v : Value) (n : Nat) (hn : n < 256) (w : World) (hb : BookAt w.heap.size w v b) (he : errF b = 0) :
    Calls Tryz.prog 11 #[v, .int .u8 n] w fun e w' => e = .returned (.bool true) ∧ Below w.heap.size w w' := by
  obtain ⟨sv, rfl, hgs⟩ := hb
  have hb : BookAt w.heap.size w (.agg #[.int .i64 b.signed, sv]) b := ⟨sv, rfl, hgs⟩
  obtain ⟨a, cap, rfl, -⟩ := hgs
  have HK := Lib.hid (BkBox.start hb)
  clear hb
  have heq : (errF b == 0) = true := by simp [he]
  have HE := Lib.hid he
  have hs0 := (errF_zero he).signed
  have hgr := great_ge (n := n) hs0
  obtain ⟨s', hs'⟩ : ∃ s', s' = min 12 (b.signed + (n : Int) % 5) := ⟨_, rfl⟩
  rw [← hs'] at hgr
  have HE2 := Lib.hid (err_great he hgr.2.1 hgr.2.2)
  have hf := lvs_few (errF_zero he)
  have hw0 : wrap64 (n : Int) = (n : Int) := by unfold wrap64; omega
  have hw1 : IntKind.i64.wrap (b.signed + (n : Int) % 5) = b.signed + (n : Int) % 5 := IntWalk.i64_in _ (by omega)
  have hw2 : (n : Int).tmod 5 = (n : Int) % 5 := Int.tmod_eq_emod_of_nonneg (by omega)
  clear he
  go_enter Tryz.func11, Tryz.ntmps11
  go_wp2_with fail
  refine (valid_any b _ _ HK.out.book).mono ?_
  rintro e w1 ⟨rfl, hb1⟩
  rw [heq]
  have HK := Lib.hid (HK.out.later hb1)
  clear hb1
  have c0 := blk_cell HK.out.box 0; have c1 := blk_cell HK.out.box 1
  have hXl := blk_lt HK.out.box
  go_wp2_with fail
  rw [← hs']
  have hba : Below w1.heap.size w1 (w1.alloc (.cells #[.int .i64 s', .slice a b.gs.length cap] 24)) := (Below.refl _ w1).alloc (Nat.le_refl _) _
  have HG : Hid (BkBox w1 (w1.alloc (.cells #[.int .i64 s', .slice a b.gs.length cap] 24)) w1.heap.size ⟨s', b.gs⟩ a cap) := Lib.hid (by
    have hb := HK.out.book
    obtain ⟨sv, e, hg⟩ := hb
    have : sv = .slice a b.gs.length cap := by
      simp only [Value.agg.injEq, Array.mk.injEq, List.cons.injEq, true_and, and_true] at e
      exact e.symm
    subst this
    exact ⟨World.alloc_heap_new _ _, ⟨_, rfl, (hg.below hba (Nat.le_refl _)).mono hba.size⟩, hba⟩)
  have HK := Lib.hid (HK.out.later hba)
  have HS' := Lib.hid hs'
  clear hba c0 c1 hXl hw0 hw1 hw2 hs'
  revert HG HK
  generalize (w1.alloc (.cells #[.int .i64 s', .slice a b.gs.length cap] 24)) = w2
  generalize w1.heap.size = X
  intro HG HK
  refine (Signs_good b _ _ HK.out.book HE.out).mono ?_
  rintro e w3 ⟨⟨sl, rfl, hrow⟩, hb⟩
  have hS := IntsAt.of_row hrow
  clear hrow
  obtain ⟨S0, hS0⟩ : ∃ S0 : List Int, S0 = (signsF b).map fun n : Nat => (n : Int) := ⟨_, rfl⟩
  rw [← hS0] at hS
  have HS0 := Lib.hid hS0
  clear hS0
  have HSI := Lib.hid hS
  obtain ⟨sa, scap, rfl, -⟩ := hS
  obtain ⟨K1, hK1⟩ : ∃ K1, K1 = S0.length := ⟨_, rfl⟩
  rw [← hK1] at HSI
  rw [← hK1]
  have HK1 := Lib.hid hK1
  have hK1b : K1 < 1000000 := by
    have h1 : K1 = (signsF b).length := by rw [hK1, HS0.out]; simp
    have h2 : (signsF b).length ≤ (lvs b).length := by
      unfold signsF signsOf
      rw [List.length_map]
      refine Nat.le_trans (List.length_filter_le _ _) ?_
      simp
    omega
  have HK := Lib.hid (HK.out.later hb)
  have HG := Lib.hid (HG.out.later hb)
  clear hb hK1
  have c0 := blk_cell HG.out.box 0; have c1 := blk_cell HG.out.box 1
  go_wp2_with fail
  refine (Signs_good ⟨s', b.gs⟩ _ _ HG.out.book HE2.out).mono ?_
  rintro e w4 ⟨⟨tl, rfl, hrow⟩, hb⟩
  have hT := IntsAt.of_row hrow
  clear hrow
  obtain ⟨T0, hT0⟩ : ∃ T0 : List Int, T0 = (signsF ⟨s', b.gs⟩).map fun n : Nat => (n : Int) := ⟨_, rfl⟩
  rw [← hT0] at hT
  have HT0 := Lib.hid hT0
  clear hT0
  have HTI := Lib.hid hT
  obtain ⟨ta, tcap, rfl, -⟩ := hT
  obtain ⟨K2, hK2⟩ : ∃ K2, K2 = T0.length := ⟨_, rfl⟩
  rw [← hK2] at HTI
  rw [← hK2]
  have HK2 := Lib.hid hK2
  have hK2b : K2 < 1000000 := by
    have h1 : K2 = (signsF ⟨s', b.gs⟩).length := by rw [hK2, HT0.out]; simp
    have h2 : (signsF ⟨s', b.gs⟩).length ≤ (lvs b).length := by
      unfold signsF signsOf
      rw [List.length_map]
      refine Nat.le_trans (List.length_filter_le _ _) ?_
      simp
      exact Nat.le_refl _
    omega
  have HK := Lib.hid (HK.out.later hb)
  have HSI := Lib.hid (HSI.out.later hb)
  clear hb hK2 HG c0 c1
  have c0 := blk_cell HK.out.box 0; have c1 := blk_cell HK.out.box 1
  go_wp2_with fail
  refine (Leaves_good b _ _ HK.out.book HE.out).mono ?_
  rintro e w5 ⟨⟨lv, rfl, hrow⟩, hb⟩
  have hL := LfsAt.of_row hrow
  clear hrow
  have HL := Lib.hid hL
  obtain ⟨la, lcap, rfl, -⟩ := hL
  obtain ⟨N, hN⟩ : ∃ N, N = (lvs b).length := ⟨_, rfl⟩
  have HN := Lib.hid hN
  rw [← hN] at HL hf
  rw [← hN]
  have HK := Lib.hid (HK.out.later hb)
  have HSI := Lib.hid (HSI.out.later hb)
  have HTI := Lib.hid (HTI.out.later hb)
  clear hb hN c0 c1
  go_wp2_with fail
  go_loopw [14] (fun q wr => ∃ (k : Nat), k ≤ K1 ∧ q = .int .i64 k ∧ wr = w5) (fun q _ => K1 - (intOf q).toNat)
  case atStart => exact ⟨0, by omega, rfl, rfl⟩
  case round =>
    obtain ⟨k, hk, rfl, rfl⟩ := hrel
    by_cases hlt : k < K1
    · obtain ⟨z, hz⟩ : ∃ z, S0[k]? = some z := ⟨_, List.getElem?_eq_getElem (by have := HK1.out; omega)⟩
      obtain ⟨g1, rfl, -, q0⟩ := HSI.out.get hz
      have hmem : decide (z ∈ T0) = true := decide_eq_true (by
        have h1 := hz
        rw [HS0.out] at h1
        obtain ⟨q, rfl, h2⟩ := ints_of h1
        rw [HT0.out]
        exact List.mem_map.2 ⟨q, signs_great hgr.1 (List.mem_of_getElem? h2), rfl⟩)
      have HM := Lib.hid hmem
      clear hz hmem
      go_wp2_with fail
      refine (refHas_any T0 _ z _ (by have h := HTI.out; rw [HK2.out] at h ⊢; exact h) (by have := HK2.out; omega)).mono ?_
      rintro e w6 ⟨rfl, rfl⟩
      rw [HM.out]
      go_wp2_with fail
      go_roundw
      case rel => exact ⟨k + 1, by omega, by go_num, trivial⟩
      case measure => simp [intOf]; omega
    · go_wp2_with fail
      have HW0 := Lib.hid HK.out.below
      go_loopw [15] (fun q w9 => ∃ (t p : Nat), t ≤ K2 ∧ q = .int .i64 t ∧ w9 = World.drewN wr p) (fun q _ => K2 - (intOf q).toNat)
      case atStart => exact ⟨0, 0, by omega, rfl, rfl⟩
      case round =>
        obtain ⟨t, p, ht, rfl, rfl⟩ := hrel
        clear hlt hk
        by_cases hlt : t < K2
        · obtain ⟨z, hz⟩ : ∃ z, T0[t]? = some z := ⟨_, List.getElem?_eq_getElem (by have := HK2.out; omega)⟩
          obtain ⟨g1, rfl, -, q0⟩ := HTI.out.get hz
          have hz' := hz
          rw [HT0.out] at hz'
          obtain ⟨q, rfl, hq⟩ := ints_of hz'
          obtain ⟨x, hx, hsx⟩ := signs_mem.1 (List.mem_of_getElem? hq)
          obtain ⟨g, hg, hlet, hkind, -⟩ := signed_is hsx
          have hx : (lvs b)[q]? = some x := hx
          have hplus := lvs_plus (List.mem_of_getElem? hx) hkind
          have hg : b.gs[x.gat]? = some g := hg
          obtain ⟨gl, rfl, -, l0, l1, l2, l3⟩ := HL.out.get hx
          obtain ⟨bb, off, rfl, -, ca, ccap, -, g0, g1', g2, g3⟩ := HK.out.gth hg
          rw [hplus] at l2
          have hqN := (List.getElem?_eq_some_iff.1 hx).1
          rw [← HN.out] at hqN
          have hgl := (List.getElem?_eq_some_iff.1 hg).1
          have e1 : decide ((q : Int) < 0) = false := decide_eq_false (by omega)
          have e2 : decide ((N : Int) ≤ (q : Int)) = false := decide_eq_false (by omega)
          have e2' : decide (N ≤ q) = false := decide_eq_false (by omega)
          have e3 : decide ((23 : Int) ≤ g.letter) = false := decide_eq_false (by omega)
          have d1 : ((q : Int) < N) := by omega
          have d2 : ((x.gat : Int) < b.gs.length) := by omega
          have d3 : ((t : Int) < K2) := by omega
          clear hz hz' hsx hkind hplus hx hg
          have c0 := blk_cell HK.out.box 0
          have c1 := blk_cell HK.out.box 1
          rcases t with _ | t
          · clear hq
            go_wp2_with fail
            go_quiet (fail)
            go_wp2_with fail
            go_roundw
            case rel => exact ⟨0 + 1, _, by omega, by go_num, rfl⟩
            case measure => simp [intOf]; omega
          · obtain ⟨z, hz⟩ : ∃ z, T0[t]? = some z := ⟨_, List.getElem?_eq_getElem (by have := HK2.out; omega)⟩
            obtain ⟨g5, he5, -, q5⟩ := HTI.out.get hz
            cases he5
            have hz' := hz
            rw [HT0.out] at hz'
            obtain ⟨q', rfl, hq'⟩ := ints_of hz'
            have hlt' : q' < q := by
              have hp := signs_sorted ⟨s', b.gs⟩
              obtain ⟨h1, h1'⟩ := List.getElem?_eq_some_iff.1 hq
              obtain ⟨h2, h2'⟩ := List.getElem?_eq_some_iff.1 hq'
              have := List.pairwise_iff_getElem.1 hp t (t + 1) h2 h1 (by omega)
              rw [h1', h2'] at this
              exact this
            have e4 : decide ((q : Int) ≤ (q' : Int)) = false := decide_eq_false (by omega)
            have e4' : decide (q ≤ q') = false := decide_eq_false (by omega)
            have e5 : decide ((0 : Int) < ((t + 1 : Nat) : Int)) = true := decide_eq_true (by omega)
            have e6 : IntKind.i64.wrap (((t + 1 : Nat) : Int) - 1) = t := by rw [IntKind.wrap_i64]; omega
            have d4 : ((t : Int) < K2) := by omega
            clear hz hz' hq hq' hlt'
            go_wp2_with fail
            go_quiet (fail)
            go_wp2_with fail
            go_roundw
            case rel => exact ⟨t + 1 + 1, _, by omega, by go_num, rfl⟩
            case measure => simp [intOf]; omega
        · go_wp2_with fail
          refine (Awake_any _).mono ?_
          rintro e w7 ⟨rfl, hb⟩
          have hbd : Below wr.heap.size wr (World.drewN wr p) := bdrewN (Below.refl _ _) _
          have hw7 := (HW0.out.trans (hbd.mono HW0.out.size)).trans (hb.mono HW0.out.size)
          clear hb
          go_wp2_with fail
          go_ret
          exact ⟨rfl, hw7⟩
theorem QuireSigned_any (b : Bk) (v : Value) (n : Nat) (hn : n < 256) (w : World) (hb : BookAt w.heap.size w v b) :
    Calls Tryz.prog 11 #[v, .int .u8 n] w fun e w' => e = .returned (.bool true) ∧ Below w.heap.size w w' := by
  by_cases he : errF b = 0
  · exact QuireSigned_good b v n hn w hb he
  · exact QuireSigned_bad b v n w hb he
end Go.Proofs.YtajjhmmmifenaaaGreatDoor
