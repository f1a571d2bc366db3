/- The parts Le of the proof, joined. It holds without conditions of its own. -/
import Derived.Test.YtajjhmmmifenaaaGreatDoorTM25
import Derived.Test.YtajjhmmmifenaaaGreatDoorTM29
import Derived.Test.YtajjhmmmifenaaaGreatDoorTM47
/- The law QuireTogether: it returns true. -/
namespace Go.Proofs.YtajjhmmmifenaaaGreatDoor
set_option linter.unusedSimpArgs false
set_option linter.unusedVariables false
open Go Go.RowKit Go.Sort Go.BigFrame Go.Shelf
attribute [local go_sem] Oper.semAt_some putAll

theorem GsAt.take {B : Nat} {w : World} {a : Option Addr} {n cap k : Nat} {gs : List Gth} (h : GsAt B w (.slice a n cap) gs) (hk : k ≤ gs.length) : GsAt B w (.slice a k cap) (gs.take k) := by
  obtain ⟨a', cap', e, hc⟩ := h
  cases e
  refine ⟨a, cap, by rw [List.length_take, Nat.min_eq_left hk], fun hne => ?_⟩
  obtain ⟨b, off, h1, h2, h3⟩ := hc (fun e => hne (by rw [e]; simp))
  refine ⟨b, off, h1, h2, fun i g hg => ?_⟩
  rw [List.getElem?_take] at hg
  split at hg
  · exact h3 i g hg
  · cases hg
theorem LfsAt.take {W : World} {a : Option Addr} {n cap k : Nat} {xs : List Lf} (h : LfsAt W (.slice a n cap) xs) (hk : k ≤ xs.length) : LfsAt W (.slice a k cap) (xs.take k) := by
  obtain ⟨a', cap', e, hc⟩ := h
  cases e
  refine ⟨a, cap, by rw [List.length_take, Nat.min_eq_left hk], fun hne => ?_⟩
  obtain ⟨g, h1, h2, h3⟩ := hc (fun e => hne (by rw [e]; simp))
  refine ⟨g, h1, h2, fun i x hx => ?_⟩
  rw [List.getElem?_take] at hx
  split at hx
  · exact h3 i x hx
  · cases hx
theorem row_cap {W : World} {base : Nat} {a : Option Addr} {n cap : Nat} {e : TypeId} {size m : Nat} {xs : List Value} (h : W.ownsRow base e size (.slice a n cap) m xs) : n ≤ cap ∧ cap ≤ 9223372036854775807 := by
  rcases h.2 with ⟨h1, _⟩ | ⟨g, cap', cur, h1, _, _, h4, h5, _⟩
  · cases h1; omega
  · cases h1; exact ⟨h4, h5⟩

set_option maxRecDepth 100000 in
set_option maxHeartbeats 1600000 in
theorem QuireTogether_bad (b : Bk) (v : Value) (n : Nat) (w : World) (hb : BookAt w.heap.size w v b) (he : errF b ≠ 0) :
    Calls Tryz.prog 13 #[v, .int .u8 n] w fun e w' => e = .returned (.bool true) ∧ Below w.heap.size w w' := by
  obtain ⟨sv, rfl, hgs⟩ := hb
  have hb : BookAt w.heap.size w (.agg #[.int .i64 b.signed, sv]) b := ⟨sv, rfl, hgs⟩
  obtain ⟨a, cap, rfl, -⟩ := hgs
  have HK := Lib.hid (BkBox.start hb)
  clear hb
  have heq : (errF b == 0) = false := by simp [he]
  clear he
  go_enter Tryz.func13, Tryz.ntmps13
  go_wp2_with fail
  refine (valid_any b _ _ HK.out.book).mono ?_
  rintro e w1 ⟨rfl, hb1⟩
  rw [heq]
  have HK := Lib.hid (HK.out.later hb1)
  clear hb1
  go_wp2_with fail
  refine (Awake_any _).mono ?_
  rintro e w3 ⟨rfl, hb3⟩
  have HK := Lib.hid (HK.out.later hb3)
  clear hb3
  go_wp2_with fail
  go_ret
  exact ⟨rfl, HK.out.below⟩

set_option maxRecDepth 100000 in
set_option maxHeartbeats 1600000 in
theorem QuireTogether_good (b : Bk) (v : Value) (n : Nat) (hn : n < 256) (w : World) (hb : BookAt w.heap.size w v b) (hcap : ∀ s a n cap, v = .agg #[.int .i64 s, .slice a n cap] → n ≤ cap ∧ cap ≤ 9223372036854775807) (he : errF b = 0) :
    Calls Tryz.prog 13 #[v, .int .u8 n] w fun e w' => e = .returned (.bool true) ∧ Below w.heap.size w w' := by
  obtain ⟨sv, rfl, hgs⟩ := hb
  have hb : BookAt w.heap.size w (.agg #[.int .i64 b.signed, sv]) b := ⟨sv, rfl, hgs⟩
  have hgs' := hgs
  obtain ⟨a, cap, rfl, -⟩ := hgs'
  obtain ⟨hc1, hc2⟩ := hcap _ _ _ _ rfl
  have hlen := (errF_zero he).len
  have HGS := Lib.hid hgs
  have HK := Lib.hid (BkBox.start hb)
  obtain ⟨g0, hg0⟩ : ∃ g0, b.gs[0]? = some g0 := ⟨_, List.getElem?_eq_getElem (by omega)⟩
  obtain ⟨bb, off, rfl, -⟩ := hgs.get hg0
  clear hb hcap hg0 hgs
  have heq : (errF b == 0) = true := by simp [he]
  have HE := Lib.hid he
  have hf := lvs_few (errF_zero he)
  obtain ⟨i, hi⟩ : ∃ i, i = n % b.gs.length := ⟨_, rfl⟩
  have hiL : i < b.gs.length := by rw [hi]; exact Nat.mod_lt _ (by omega)
  have HP := Lib.hid (err_take (k := 1 + i) he (by omega) (by omega))
  have hm1 : (n : Int) % (b.gs.length : Int) = (i : Int) := by rw [hi]; simp
  have hm2 : (n : Int).tmod (b.gs.length : Int) = (i : Int) := by rw [hi]; rfl
  have hw0 : wrap64 (n : Int) = (n : Int) := by unfold wrap64; omega
  obtain ⟨k, hk⟩ : ∃ k, k = 1 + i := ⟨_, rfl⟩
  have hw1 : IntKind.i64.wrap (1 + (i : Int)) = (k : Int) := by rw [IntWalk.i64_in _ (by omega)]; omega
  have d0 : ¬ (b.gs.length : Int) = 0 := by omega
  rw [← hk] at HP
  have hkL : k ≤ b.gs.length := by omega
  have hkc : k ≤ cap := by omega
  clear he hi hk
  go_enter Tryz.func13, Tryz.ntmps13
  go_wp2_with fail
  refine (valid_any b _ _ HK.out.book).mono ?_
  rintro e w1 ⟨rfl, hb1⟩
  rw [heq]
  have HK := Lib.hid (HK.out.later hb1)
  have HGS := Lib.hid (HGS.out.below (Below.trans ((Below.refl w.heap.size w).alloc (Nat.le_refl _) (.cells #[.int .i64 b.signed, .slice (some ⟨bb, off, none⟩) b.gs.length cap] 24)) (hb1.mono (by simp))) (Nat.le_refl _))
  have hz1 : w.heap.size ≤ w1.heap.size := HK.out.below.size
  clear hb1
  have c0 := blk_cell HK.out.box 0; have c1 := blk_cell HK.out.box 1
  have hXl := blk_lt HK.out.box
  have c0' := fun o => cell_al c0 hXl o
  have c1' := fun o => cell_al c1 hXl o
  have HPB : Hid ((w1.alloc (.cells #[.int .i64 b.signed, .slice (some ⟨bb, off, none⟩) b.gs.length cap] 24)).heap[w1.heap.size]? = some (.cells #[.int .i64 b.signed, .slice (some ⟨bb, off, none⟩) b.gs.length cap] 24)) := Lib.hid (World.alloc_heap_new _ _)
  have p0 := blk_cell HPB.out 0
  have p1 := blk_cell HPB.out 1
  have f1 := blk_free HPB.out 1
  have hne : ¬ w.heap.size = w1.heap.size := by omega
  have hne' : ¬ w1.heap.size = w.heap.size := by omega
  go_wp2_with fail
  go_region
  have hba : Below w1.heap.size w1 ((w1.alloc (.cells #[.int .i64 b.signed, .slice (some ⟨bb, off, none⟩) k cap] 24)).drew) := ((Below.refl _ w1).alloc (Nat.le_refl _) _).drew
  have HPB : Hid (((w1.alloc (.cells #[.int .i64 b.signed, .slice (some ⟨bb, off, none⟩) k cap] 24)).drew).heap[w1.heap.size]? = some (.cells #[.int .i64 b.signed, .slice (some ⟨bb, off, none⟩) k cap] 24)) := Lib.hid (World.alloc_heap_new _ _)
  have HPK : Hid (GsAt w.heap.size ((w1.alloc (.cells #[.int .i64 b.signed, .slice (some ⟨bb, off, none⟩) k cap] 24)).drew) (.slice (some ⟨bb, off, none⟩) k cap) (b.gs.take k)) := Lib.hid (by
    have h := HGS.out.take hkL
    exact h.below hba (by omega))
  have HK := Lib.hid (HK.out.later hba)
  have HWZ := Lib.hid HK.out.below.size
  clear hba c0 c1 c0' c1' p0 p1 f1 hXl hne hne' HGS hw0 hw1 hm1 hm2
  revert HPB HPK HK HWZ
  generalize ((w1.alloc (.cells #[.int .i64 b.signed, .slice (some ⟨bb, off, none⟩) k cap] 24)).drew) = w2
  generalize w1.heap.size = X at *
  intro HPB HPK HK HWZ
  have c0 := blk_cell HK.out.box 0; have c1 := blk_cell HK.out.box 1
  go_wp2_with fail
  refine (Leaves_good b _ _ HK.out.book HE.out).mono ?_
  rintro e w3 ⟨⟨lv, rfl, hrow⟩, hb⟩
  have hL := LfsAt.of_row hrow
  have HPB := Lib.hid (blk_later hb HPB.out)
  have HPK := Lib.hid (HPK.out.below hb HWZ.out)
  have HK := Lib.hid (HK.out.later hb)
  have HWZ := Lib.hid (Nat.le_trans HWZ.out hb.size)
  clear hb c0 c1
  obtain ⟨rest, hrest⟩ := lvs_part b k
  obtain ⟨N, hN⟩ : ∃ N, N = (lvs b).length := ⟨_, rfl⟩
  obtain ⟨M, hM⟩ : ∃ M, M = (lvs ⟨b.signed, b.gs.take k⟩).length := ⟨_, rfl⟩
  have hMN : N = M + rest.length := by rw [hN, hM, hrest, List.length_append]
  have HTK : Hid (lvs ⟨b.signed, b.gs.take k⟩ = (lvs b).take M) := Lib.hid (by rw [hrest, hM, List.take_left])
  have HDF : Hid (diffAt 0 (namesF ⟨b.signed, b.gs.take k⟩) (namesF b) = if rest.length = 0 then none else some M) := Lib.hid (by
    rw [names_part b k rest hrest, diffAt_part]
    have h1 : (rest.map (nameQ b) = []) ↔ rest.length = 0 := by
      rw [List.map_eq_nil_iff, List.length_eq_zero_iff]
    have h2 : (namesF ⟨b.signed, b.gs.take k⟩).length = M := by
      unfold namesF
      rw [List.length_map, hM]
    rw [h2, Nat.zero_add]
    by_cases h : rest.length = 0
    · rw [if_pos h, if_pos (h1.2 h)]
    · rw [if_neg h, if_neg (fun e => h (h1.1 e))])
  have HN := Lib.hid hN
  have HM := Lib.hid hM
  rw [← hN] at hf
  rw [← hN] at hrow
  obtain ⟨R, hR⟩ : ∃ R, R = rest.length := ⟨_, rfl⟩
  rw [← hR] at hMN HDF
  have HMN := Lib.hid hMN
  clear hrest hR hN hMN
  rcases hrow.2 with ⟨rfl, h0⟩ | ⟨gl, lcap, cur, rfl, -, -, hlc, hlm, -⟩
  · have HL := Lib.hid hL
    have hM0 : M = 0 := by have := HMN.out; omega
    clear hrow hL
    have c0 := blk_cell HPB.out 0; have c1 := blk_cell HPB.out 1
    go_wp2_with fail
    refine (Leaves_good ⟨b.signed, b.gs.take k⟩ _ _ ⟨_, rfl, HPK.out.mono HWZ.out⟩ HP.out).mono ?_
    rintro e w4 ⟨⟨mv, rfl, hrow⟩, hb⟩
    have hLM := LfsAt.of_row hrow
    clear hrow
    have HLM := Lib.hid hLM
    obtain ⟨ma, mcap, rfl, -⟩ := hLM
    have HPB := Lib.hid (blk_later hb HPB.out)
    have HPK := Lib.hid (HPK.out.below hb HWZ.out)
    have HK := Lib.hid (HK.out.later hb)
    have HL := Lib.hid (HL.out.later hb)
    have HWZ := Lib.hid (Nat.le_trans HWZ.out hb.size)
    clear hb c0 c1
    rw [← hM] at HLM
    rw [← hM]
    have e1 : decide ((N : Int) < (M : Int)) = false := decide_eq_false (by have := HMN.out; omega)
    have e1' : decide (N < M) = false := decide_eq_false (by have := HMN.out; omega)
    have HA : Hid (LfsAt w4 (.slice none M 0) ((lvs b).take M)) := Lib.hid (by rw [hM0]; exact ⟨none, 0, by simp, fun h => absurd (by simp) h⟩)
    subst hM0
    have hN0 : N = 0 := h0
    subst hN0
    have hR0 : R = 0 := by have := HMN.out; omega
    have HMM := Lib.hid hM
    clear hM
    go_wp2_with fail
    refine (refAlike_any _ _ _ _ _ HLM.out HA.out (by have := HMM.out; have := HMN.out; omega) (by rw [List.length_take]; have := HN.out; omega)).mono ?_
    rintro e w5 ⟨rfl, hb⟩
    rw [decide_eq_true HTK.out]
    have HPB := Lib.hid (blk_later hb HPB.out)
    have HPK := Lib.hid (HPK.out.below hb HWZ.out)
    have HK := Lib.hid (HK.out.later hb)
    have HWZ := Lib.hid (Nat.le_trans HWZ.out hb.size)
    clear hb
    have c0 := blk_cell HPB.out 0; have c1 := blk_cell HPB.out 1
    have d0 := blk_cell HK.out.box 0; have d1 := blk_cell HK.out.box 1
    go_wp2_with fail
    refine (Differ_good ⟨b.signed, b.gs.take k⟩ b _ _ _ ⟨_, rfl, HPK.out.mono HWZ.out⟩ HK.out.book HP.out HE.out).mono ?_
    rintro e w6 ⟨rfl, hb⟩
    rw [HDF.out]
    have HK := Lib.hid (HK.out.later hb)
    clear hb c0 c1 d0 d1
    rw [if_pos hR0]
    dsimp only [differR]
    have e2 : (((0 : Nat) : Int) == ((0 : Nat) : Int)) = true := by
      first
        | rfl
        | (rw [beq_iff_eq]; have := HMN.out; omega)
    go_wp2_with fail
    refine (Awake_any _).mono ?_
    rintro e w7 ⟨rfl, hb⟩
    have HK := Lib.hid (HK.out.later hb)
    clear hb
    go_wp2_with fail
    go_ret
    exact ⟨rfl, HK.out.below⟩
  · have HL := Lib.hid hL
    clear hrow hL
    have c0 := blk_cell HPB.out 0; have c1 := blk_cell HPB.out 1
    go_wp2_with fail
    refine (Leaves_good ⟨b.signed, b.gs.take k⟩ _ _ ⟨_, rfl, HPK.out.mono HWZ.out⟩ HP.out).mono ?_
    rintro e w4 ⟨⟨mv, rfl, hrow⟩, hb⟩
    have hLM := LfsAt.of_row hrow
    clear hrow
    have HLM := Lib.hid hLM
    obtain ⟨ma, mcap, rfl, -⟩ := hLM
    have HPB := Lib.hid (blk_later hb HPB.out)
    have HPK := Lib.hid (HPK.out.below hb HWZ.out)
    have HK := Lib.hid (HK.out.later hb)
    have HL := Lib.hid (HL.out.later hb)
    have HWZ := Lib.hid (Nat.le_trans HWZ.out hb.size)
    clear hb c0 c1
    rw [← hM] at HLM
    rw [← hM]
    have e1 : decide ((N : Int) < (M : Int)) = false := decide_eq_false (by have := HMN.out; omega)
    have e1' : decide (N < M) = false := decide_eq_false (by have := HMN.out; omega)
    have HA := Lib.hid (LfsAt.take (k := M) HL.out (by have := HN.out; have := HMN.out; omega))
    have hMl : M ≤ lcap := by have := HMN.out; omega
    have HMM := Lib.hid hM
    clear hM
    go_wp2_with fail
    refine (refAlike_any _ _ _ _ _ HLM.out HA.out (by have := HMM.out; have := HMN.out; omega) (by rw [List.length_take]; have := HN.out; omega)).mono ?_
    rintro e w5 ⟨rfl, hb⟩
    rw [decide_eq_true HTK.out]
    have HPB := Lib.hid (blk_later hb HPB.out)
    have HPK := Lib.hid (HPK.out.below hb HWZ.out)
    have HK := Lib.hid (HK.out.later hb)
    have HWZ := Lib.hid (Nat.le_trans HWZ.out hb.size)
    clear hb
    have c0 := blk_cell HPB.out 0; have c1 := blk_cell HPB.out 1
    have d0 := blk_cell HK.out.box 0; have d1 := blk_cell HK.out.box 1
    go_wp2_with fail
    refine (Differ_good ⟨b.signed, b.gs.take k⟩ b _ _ _ ⟨_, rfl, HPK.out.mono HWZ.out⟩ HK.out.book HP.out HE.out).mono ?_
    rintro e w6 ⟨rfl, hb⟩
    rw [HDF.out]
    have HK := Lib.hid (HK.out.later hb)
    clear hb c0 c1 d0 d1
    by_cases hR0 : R = 0
    · skip
      rw [if_pos hR0]
      dsimp only [differR]
      have e2 : (((M : Nat) : Int) == ((N : Nat) : Int)) = true := by
        first
          | rfl
          | (rw [beq_iff_eq]; have := HMN.out; omega)
      go_wp2_with fail
      refine (Awake_any _).mono ?_
      rintro e w7 ⟨rfl, hb⟩
      have HK := Lib.hid (HK.out.later hb)
      clear hb
      go_wp2_with fail
      go_ret
      exact ⟨rfl, HK.out.below⟩
    · skip
      rw [if_neg hR0]
      dsimp only [differR]
      have e2 : ((M : Int) == (N : Int)) = false := by
        rw [beq_eq_false_iff_ne]
        have := HMN.out
        omega
      go_wp2_with fail
      refine (Awake_any _).mono ?_
      rintro e w7 ⟨rfl, hb⟩
      have HK := Lib.hid (HK.out.later hb)
      clear hb
      go_wp2_with fail
      go_ret
      exact ⟨rfl, HK.out.below⟩
theorem QuireTogether_any (b : Bk) (v : Value) (n : Nat) (hn : n < 256) (w : World) (hb : BookAt w.heap.size w v b) (hcap : ∀ s a n cap, v = .agg #[.int .i64 s, .slice a n cap] → n ≤ cap ∧ cap ≤ 9223372036854775807) :
    Calls Tryz.prog 13 #[v, .int .u8 n] w fun e w' => e = .returned (.bool true) ∧ Below w.heap.size w w' := by
  by_cases he : errF b = 0
  · exact QuireTogether_good b v n hn w hb hcap he
  · exact QuireTogether_bad b v n w hb he
end Go.Proofs.YtajjhmmmifenaaaGreatDoor
