/- The parts Gc of the proof, joined. It holds without conditions of its own. -/
import Derived.Test.YtimdmgkegdlafaaGreatDoorSH34
import Derived.Test.YtimdmgkegdlafaaGreatDoorSH37
import Derived.Test.YtimdmgkegdlafaaGreatDoorSH30
/- The reference's Text: it is what the program writes. -/
namespace Go.Proofs.YtimdmgkegdlafaaGreatDoor
set_option linter.unusedSimpArgs false
set_option linter.unusedVariables false
open Go Go.RowKit Go.Sort Go.BigFrame Go.Shelf
attribute [local go_sem] Oper.semAt_some putAll

/-- An item that stands for gatherings up to one. -/
structure EndsAt (y : Itm) (a g : Gth) : Prop where
  fr : y.fr = a.round
  fl : y.fl = a.letter
  lr : y.lr = g.round
  ll : y.ll = g.letter
  leaves : y.leaves = g.leaves
  chs : y.chs = g.chs
theorem taken_is {y : Itm} {a g h : Gth} (e : EndsAt y a g) (hg : GOk g) (hh : GOk h) : takesB y h = follB g h := by
  have h1 := hg.letter
  have h2 := hg.round
  have h3 := hh.letter
  have h4 := hh.round
  rw [Bool.eq_iff_iff]
  unfold takesB follB nextS rankF
  rw [e.lr, e.ll, e.leaves, e.chs]
  simp only [Bool.and_eq_true, decide_eq_true_eq, beq_iff_eq]
  constructor
  · rintro ⟨⟨⟨⟨c1, c2⟩, c3⟩, c4⟩, c5⟩
    rw [if_neg (by omega)]
    split at c5 <;> simp only [Prod.mk.injEq] at c5 <;> obtain ⟨c6, c7⟩ := c5
    · rw [if_neg (by omega)]
      exact ⟨⟨⟨⟨by omega, by omega⟩, c3⟩, by omega⟩, by omega⟩
    · rw [if_neg (by omega)]
      exact ⟨⟨⟨⟨by omega, by omega⟩, c3⟩, by omega⟩, by omega⟩
  · rintro ⟨⟨⟨⟨c1, c2⟩, c3⟩, c4⟩, c5⟩
    have c6 : g.letter < 23 := by
      split at c1 <;> omega
    rw [if_neg (show ¬ 23 ≤ g.letter by omega)] at c2
    refine ⟨⟨⟨⟨by omega, by omega⟩, c3⟩, c6⟩, ?_⟩
    by_cases c7 : 23 ≤ h.letter
    · rw [if_pos c7] at c2
      omega
    · rw [if_neg c7] at c2
      split
      · simp only [Prod.mk.injEq]; omega
      · simp only [Prod.mk.injEq]; omega
theorem ends_one (g : Gth) : EndsAt (itm1 g) g g := ⟨rfl, rfl, rfl, rfl, rfl, rfl⟩
theorem ends_more {y : Itm} {a g h : Gth} (e : EndsAt y a g) (ht : takesB y h = true) : EndsAt { y with kind := 1, lr := h.round, ll := h.letter } a h := by
  unfold takesB at ht
  simp only [Bool.and_eq_true, decide_eq_true_eq] at ht
  obtain ⟨⟨⟨⟨c1, c2⟩, c3⟩, c4⟩, c5⟩ := ht
  exact ⟨e.fr, e.fl, rfl, rfl, c3, by rw [List.length_eq_zero_iff.1 c1, List.length_eq_zero_iff.1 c2]⟩
theorem step_yes {xs : List Itm} {y : Itm} {g : Gth} (h : takesB y g = true) : itmStep (xs ++ [y]) g = xs ++ [{ y with kind := 1, lr := g.round, ll := g.letter }] := by
  unfold itmStep
  rw [List.getLast?_append]
  simp [h]
theorem step_no {xs : List Itm} {y : Itm} {g : Gth} (h : takesB y g = false) : itmStep (xs ++ [y]) g = (xs ++ [y]) ++ [itm1 g] := by
  unfold itmStep
  rw [List.getLast?_append]
  simp [h]
theorem itm_many {y : Itm} {a g : Gth} (e : EndsAt y a g) (hk : y.kind = 1) : itmT y = sigT a.round a.letter ++ [45] ++ gthT g := by
  unfold itmT gthT
  rw [if_pos hk, e.fr, e.fl, e.lr, e.ll, e.leaves, e.chs]
  simp
theorem itm_once {y : Itm} {a g : Gth} (e : EndsAt y a g) (hk : y.kind = 0) (ha : a = g) : itmT y = gthT g := by
  unfold itmT gthT
  rw [if_neg (by omega), e.fr, e.fl, e.leaves, e.chs, ha]
theorem gthT_len {g : Gth} (h : GOk g) : (gthT g).length ≤ 33 := by
  have h1 := sigT_len g.round g.letter
  have h2 := dec_len g.leaves
  have h3 := preT_len g.chs
  have h4 := h.few
  unfold gthT
  rw [chsT_pre]
  simp only [List.length_append]
  split <;> simp <;> omega
theorem itemsT_snoc (xs : List Itm) (y : Itm) : itemsT (xs ++ [y]) = itemsT xs ++ itmT y ++ [32] := by simp [itemsT]


set_option maxRecDepth 100000 in
set_option maxHeartbeats 6400000 in
theorem refText_any (b : Bk) (v : Value) (w : World) (hb : BookAt w.heap.size w v b) (he : errF b = 0) :
    Calls Tryz.prog 26 #[v] w fun e w' => e = .returned (S (writeF b)) ∧ Below w.heap.size w w' := by
  obtain ⟨sv, rfl, hgs⟩ := hb
  have hb : BookAt w.heap.size w (.agg #[.int .i64 b.signed, sv]) b := ⟨sv, rfl, hgs⟩
  obtain ⟨a, cap, rfl, -⟩ := hgs
  have HK := Lib.hid (BkBox.start hb)
  clear hb
  have hlen := (errF_zero he).len
  have hsg := (errF_zero he).signed
  have HE := Lib.hid (errF_zero he)
  clear he
  go_enter Tryz.func26, Tryz.ntmps26
  go_wp2_with fail
  revert HK
  generalize w.alloc (.cells #[.int .i64 b.signed, .slice a b.gs.length cap] 24) = w1
  intro HK
  go_loopg [3, 4] b.gs.length (fun g o q wr => ∃ (i : Nat) (O : Bs), i + g = b.gs.length ∧ o = S O ∧ q = .int .i64 i ∧ Hid (O = itemsT (itmsOf (b.gs.take i)) ∧ O.length ≤ i * 45 ∧ ∀ x, b.gs[i]? = some x → itmStep (itmsOf (b.gs.take i)) x = itmsOf (b.gs.take i) ++ [itm1 x]) ∧ Hid (BkBox w wr w.heap.size b a cap))
  case atStart => exact ⟨0, [], by omega, rfl, rfl, Lib.hid ⟨rfl, by simp, fun x _ => rfl⟩, HK⟩
  case round =>
    clear HK
    obtain ⟨i, O, hi, rfl, rfl, HO, HK⟩ := hrel
    have hOl : O.length ≤ 1350 := by have := HO.out.2.1; omega
    have zO : (⟨O.toArray⟩ : ByteArray).size ≤ 1350 := by rw [size_bytes]; exact hOl
    have c0 := blk_cell HK.out.box 0; have c1 := blk_cell HK.out.box 1
    cases gk with
    | succ g =>
      have hlt : i < b.gs.length := by omega
      have d0 : decide ((i : Int) < b.gs.length) = true := decide_eq_true (by omega)
      obtain ⟨gi, hgi⟩ : ∃ gi, b.gs[i]? = some gi := ⟨_, List.getElem?_eq_getElem hlt⟩
      have hy0 := HO.out.2.2 gi hgi
      rw [← itmsOf_take hgi] at hy0
      have HGI := Lib.hid hgi
      have HKI := Lib.hid (HE.out.gs gi (List.mem_of_getElem? hgi))
      have HY0 := Lib.hid hy0
      clear hgi hy0
      go_wp2_with fail
      go_loopg [5] (b.gs.length - i) (fun g2 q wy => ∃ (t : Nat), i ≤ t ∧ t + g2 = b.gs.length ∧ t < b.gs.length ∧ q = .int .i64 t ∧ Hid (∃ y gt, itmsOf (b.gs.take (t + 1)) = itmsOf (b.gs.take i) ++ [y] ∧ b.gs[t]? = some gt ∧ EndsAt y gi gt ∧ y.kind = if t = i then 0 else 1) ∧ Hid (BkBox w wy w.heap.size b a cap))
      case atStart => exact ⟨i, by omega, by omega, by omega, rfl, Lib.hid ⟨itm1 gi, gi, HY0.out, HGI.out, ends_one gi, by rw [if_pos rfl]; rfl⟩, HK⟩
      case round =>
        clear HK HY0 c0 c1
        obtain ⟨t, hit, htg, htl, rfl, HT, HK⟩ := hrel
        obtain ⟨y, gt, hy, hgt, hye, hyk⟩ := HT.out
        have HY := Lib.hid hy
        have HGT := Lib.hid hgt
        have HYE := Lib.hid hye
        have HYK := Lib.hid hyk
        have HKT := Lib.hid (HE.out.gs gt (List.mem_of_getElem? hgt))
        clear hy hgt hye hyk HT
        have c0 := blk_cell HK.out.box 0; have c1 := blk_cell HK.out.box 1
        have wt : IntKind.i64.wrap ((t : Int) + 1) = (t : Int) + 1 := IntWalk.i64_in _ (by omega)
        have r0 := cell_regrown c0
        have r1 := cell_regrown c1
        by_cases hmore : t + 1 < b.gs.length
        · have d1 : decide ((t : Int) + 1 < b.gs.length) = true := decide_eq_true (by omega)
          obtain ⟨gn, hgn⟩ : ∃ gn, b.gs[t + 1]? = some gn := ⟨_, List.getElem?_eq_getElem hmore⟩
          obtain ⟨bb, off, rfl, -, ca, ccap, hca, g0, g1, g2', g3⟩ := HK.out.gth HGT.out
          obtain ⟨bb', off', e', -, cb, dcap, hcb, h0, h1, h2, h3⟩ := HK.out.gth hgn
          cases e'
          have HGN := Lib.hid hgn
          have HKN := Lib.hid (HE.out.gs gn (List.mem_of_getElem? hgn))
          have s0 := cell_regrown g0
          have s1 := cell_regrown g1
          have s2 := cell_regrown g2'
          have s3 := cell_regrown g3
          have t0 := cell_regrown h0
          have t1 := cell_regrown h1
          have t2 := cell_regrown h2
          have t3 := cell_regrown h3
          clear g0 g1 g2' g3 h0 h1 h2 h3 c0 c1 hgn hca hcb
          have cF : ∀ d os, Calls Tryz.prog 54 #[.agg #[.int .i64 gt.round, .int .i64 gt.letter, .int .i64 gt.leaves, .slice ca gt.chs.length ccap], .agg #[.int .i64 gn.round, .int .i64 gn.letter, .int .i64 gn.leaves, .slice cb gn.chs.length dcap]] (grow (redrawn wr d) os) (fun e w'' => e = .returned (.bool (follB gt gn)) ∧ ∃ p : Regrown, w'' = grow (redrawn wr p.d) p.os) := fun d os => Calls.regrown_of (refFollows_any gt gn ca cb ccap dcap _ HKT.out HKN.out)
          have i1 : (0 : Int) ≤ (t : Int) + 1 := by omega
          have i2 : (t : Int) + 1 < b.gs.length := by omega
          have i3 : (t : Int) < b.gs.length := by omega
          have i4 : ((t : Int) + 1).toNat = t + 1 := by omega
          cases hF : follB gt gn with
          | true =>
            rw [hF] at cF
            go_wp2_with fail
            refine wp_region_quiet_below (by kernel_rfl) (by kernel_rfl) ?_; (repeat (go_big_quiet_step (with_reducible exact cF _ _))); refine wpQuiet_nil ?_; rintro w6 ⟨⟨d6, os6⟩, rfl⟩
            have HK := Lib.hid (HK.out.later (below_regrown wr d6 os6))
            have HTK : Hid (takesB y gn = true) := Lib.hid (by rw [taken_is HYE.out HKT.out HKN.out]; exact hF)
            have HNY : Hid (itmsOf (b.gs.take (t + 1 + 1)) = itmsOf (b.gs.take i) ++ [{ y with kind := 1, lr := gn.round, ll := gn.letter }]) := Lib.hid (by rw [itmsOf_take HGN.out, HY.out, step_yes HTK.out])
            clear r0 r1 s0 s1 s2 s3 t0 t1 t2 t3 cF hF
            go_wp2_with fail
            go_roundg (b.gs.length - (t + 1))
            case measure => omega
            case rel => exact ⟨t + 1, by omega, by omega, by omega, by go_num, Lib.hid ⟨_, gn, HNY.out, HGN.out, ends_more HYE.out HTK.out, by rw [if_neg (by omega)]⟩, HK⟩
          | false =>
            rw [hF] at cF
            go_wp2_with fail
            refine wp_region_quiet_below (by kernel_rfl) (by kernel_rfl) ?_; (repeat (go_big_quiet_step (with_reducible exact cF _ _))); refine wpQuiet_nil ?_; rintro w6 ⟨⟨d6, os6⟩, rfl⟩
            have HK := Lib.hid (HK.out.later (below_regrown wr d6 os6))
            have HNX : Hid (∀ x, b.gs[t + 1]? = some x → takesB y x = false) := Lib.hid (fun x hx => by
              rw [HGN.out] at hx
              cases hx
              rw [taken_is HYE.out HKT.out HKN.out]
              exact hF)
            clear r0 r1 s0 s1 s2 s3 t0 t1 t2 t3 cF hF
            revert HK
            dsimp only
            generalize grow (redrawn wr d6) os6 = w6
            intro HK
            have c0 := blk_cell HK.out.box 0; have c1 := blk_cell HK.out.box 1
            have hli : (i : Int) < b.gs.length := by omega
            have hlt' : (t : Int) < b.gs.length := by omega
            by_cases hti : t = i
            · have e8 : decide ((i : Int) < (t : Int)) = false := decide_eq_false (by omega)
              have e9 : decide (i < t) = false := decide_eq_false (by omega)
              have hgg : gi = gt := by
                have h1 := HGI.out
                have h2 := HGT.out
                rw [hti] at h2
                rw [h2] at h1
                exact (Option.some.inj h1).symm
              have HIT : Hid (itmT y = gthT gt) := Lib.hid (itm_once HYE.out (by have h := HYK.out; rwa [if_pos hti] at h) hgg)
              have HTI := Lib.hid hti
              clear hgg hti
              obtain ⟨G0, hG0⟩ : ∃ G0, G0 = gthT gt := ⟨_, rfl⟩
              have zG : (⟨G0.toArray⟩ : ByteArray).size ≤ 33 := by rw [size_bytes, hG0]; exact gthT_len HKT.out
              have HG0 := Lib.hid hG0
              clear hG0
              have z32 : (⟨[32].toArray⟩ : ByteArray).size ≤ 1 := by decide
              obtain ⟨Q, hQ⟩ : ∃ Z, Z = O ++ G0 := ⟨_, rfl⟩
              have cq : ((⟨(O).toArray⟩ : ByteArray) ++ ⟨(G0).toArray⟩) = ⟨(Q).toArray⟩ := by rw [hQ]; exact cat_bytes _ _
              have lq : (⟨(Q).toArray⟩ : ByteArray).size ≤ 1400 := by rw [← cq, ByteArray.size_append]; omega
              have HQ := Lib.hid hQ
              clear hQ
              obtain ⟨Q2, hQ2⟩ : ∃ Z, Z = Q ++ [32] := ⟨_, rfl⟩
              have cq2 : ((⟨(Q).toArray⟩ : ByteArray) ++ ⟨([32]).toArray⟩) = ⟨(Q2).toArray⟩ := by rw [hQ2]; exact cat_bytes _ _
              have lq2 : (⟨(Q2).toArray⟩ : ByteArray).size ≤ 1401 := by rw [← cq2, ByteArray.size_append]; omega
              have HQ2 := Lib.hid hQ2
              clear hQ2
              obtain ⟨bt, offt, et, -, ct, cct, hct, j0, j1, j2, j3⟩ := HK.out.gth HGT.out
              cases et
              have HCT := Lib.hid hct
              clear hct
              go_wp2_with fail
              refine (refItem_any gt ct cct _ HCT.out HKT.out).mono ?_
              rintro e w8 ⟨rfl, hb8⟩
              rw [← HG0.out]
              have HK := Lib.hid (HK.out.later hb8)
              clear hb8 j0 j1 j2 j3 HCT
              go_wp2_with fail
              go_roundg (b.gs.length - (t + 1))
              case measure => omega
              case rel => exact ⟨t + 1, Q2, by omega, (by first | rfl | trivial), by go_num, Lib.hid ⟨by rw [HY.out, itemsT_snoc, HIT.out]; rw [HQ2.out, HQ.out, HO.out.1]; simp [HO.out.1, HG0.out], by
                have h1 := HO.out.2.1
                have h2 : Q2.length ≤ O.length + 45 := by rw [← size_bytes, ← size_bytes O, ← cq2, ← cq]; simp only [ByteArray.size_append]; omega
                have h3 : (i + 1) * 45 ≤ (t + 1) * 45 := Nat.mul_le_mul_right _ (by omega)
                omega, fun x hx => by rw [HY.out]; exact step_no (HNX.out x hx)⟩, HK⟩
            · have e8 : decide ((i : Int) < (t : Int)) = true := decide_eq_true (by omega)
              have e9 : decide (i < t) = true := decide_eq_true (by omega)
              have HIT : Hid (itmT y = sigT gi.round gi.letter ++ [45] ++ gthT gt) := Lib.hid (itm_many HYE.out (by have h := HYK.out; rwa [if_neg hti] at h))
              have z45 : (⟨[45].toArray⟩ : ByteArray).size ≤ 1 := by decide
              have zsg : (⟨(sigT gi.round gi.letter).toArray⟩ : ByteArray).size ≤ 5 := by rw [size_bytes]; exact sigT_len _ _
              obtain ⟨P1, hP1⟩ : ∃ Z, Z = O ++ sigT gi.round gi.letter := ⟨_, rfl⟩
              have c1x : ((⟨(O).toArray⟩ : ByteArray) ++ ⟨(sigT gi.round gi.letter).toArray⟩) = ⟨(P1).toArray⟩ := by rw [hP1]; exact cat_bytes _ _
              have l1x : (⟨(P1).toArray⟩ : ByteArray).size ≤ 1360 := by rw [← c1x, ByteArray.size_append]; omega
              have HP1 := Lib.hid hP1
              clear hP1
              obtain ⟨P2, hP2⟩ : ∃ Z, Z = P1 ++ [45] := ⟨_, rfl⟩
              have c2x : ((⟨(P1).toArray⟩ : ByteArray) ++ ⟨([45]).toArray⟩) = ⟨(P2).toArray⟩ := by rw [hP2]; exact cat_bytes _ _
              have l2x : (⟨(P2).toArray⟩ : ByteArray).size ≤ 1361 := by rw [← c2x, ByteArray.size_append]; omega
              have HP2 := Lib.hid hP2
              clear hP2
              obtain ⟨bi, offi, ei, -, cix, ccix, -, k0, k1, k2, k3⟩ := HK.out.gth HGI.out
              cases ei
              go_wp2_with fail
              refine (refWritten_any _ _ HKI.out.sig _).mono ?_
              rintro e w7 ⟨rfl, hb7⟩
              have HK := Lib.hid (HK.out.later hb7)
              clear hb7 k0 k1 k2 k3 c0 c1
              have c0 := blk_cell HK.out.box 0; have c1 := blk_cell HK.out.box 1
              obtain ⟨G0, hG0⟩ : ∃ G0, G0 = gthT gt := ⟨_, rfl⟩
              have zG : (⟨G0.toArray⟩ : ByteArray).size ≤ 33 := by rw [size_bytes, hG0]; exact gthT_len HKT.out
              have HG0 := Lib.hid hG0
              clear hG0
              have z32 : (⟨[32].toArray⟩ : ByteArray).size ≤ 1 := by decide
              obtain ⟨Q, hQ⟩ : ∃ Z, Z = P2 ++ G0 := ⟨_, rfl⟩
              have cq : ((⟨(P2).toArray⟩ : ByteArray) ++ ⟨(G0).toArray⟩) = ⟨(Q).toArray⟩ := by rw [hQ]; exact cat_bytes _ _
              have lq : (⟨(Q).toArray⟩ : ByteArray).size ≤ 1400 := by rw [← cq, ByteArray.size_append]; omega
              have HQ := Lib.hid hQ
              clear hQ
              obtain ⟨Q2, hQ2⟩ : ∃ Z, Z = Q ++ [32] := ⟨_, rfl⟩
              have cq2 : ((⟨(Q).toArray⟩ : ByteArray) ++ ⟨([32]).toArray⟩) = ⟨(Q2).toArray⟩ := by rw [hQ2]; exact cat_bytes _ _
              have lq2 : (⟨(Q2).toArray⟩ : ByteArray).size ≤ 1401 := by rw [← cq2, ByteArray.size_append]; omega
              have HQ2 := Lib.hid hQ2
              clear hQ2
              obtain ⟨bt, offt, et, -, ct, cct, hct, j0, j1, j2, j3⟩ := HK.out.gth HGT.out
              cases et
              have HCT := Lib.hid hct
              clear hct
              go_wp2_with fail
              refine (refItem_any gt ct cct _ HCT.out HKT.out).mono ?_
              rintro e w8 ⟨rfl, hb8⟩
              rw [← HG0.out]
              have HK := Lib.hid (HK.out.later hb8)
              clear hb8 j0 j1 j2 j3 HCT
              go_wp2_with fail
              go_roundg (b.gs.length - (t + 1))
              case measure => omega
              case rel => exact ⟨t + 1, Q2, by omega, (by first | rfl | trivial), by go_num, Lib.hid ⟨by rw [HY.out, itemsT_snoc, HIT.out]; rw [HQ2.out, HQ.out, HP2.out, HP1.out]; simp [HO.out.1, HG0.out], by
                have h1 := HO.out.2.1
                have h2 : Q2.length ≤ O.length + 45 := by rw [← size_bytes, ← size_bytes O, ← cq2, ← cq, ← c2x, ← c1x]; simp only [ByteArray.size_append]; omega
                have h3 : (i + 1) * 45 ≤ (t + 1) * 45 := Nat.mul_le_mul_right _ (by omega)
                omega, fun x hx => by rw [HY.out]; exact step_no (HNX.out x hx)⟩, HK⟩
        · have d1 : decide ((t : Int) + 1 < b.gs.length) = false := decide_eq_false (by omega)
          have HNX : Hid (∀ x, b.gs[t + 1]? = some x → takesB y x = false) := Lib.hid (fun x hx => absurd (List.getElem?_eq_some_iff.1 hx).1 hmore)
          go_wp2_with fail
          refine wp_region_quiet_below (by kernel_rfl) (by kernel_rfl) ?_; (repeat (go_big_quiet_step (fail))); refine wpQuiet_nil ?_; rintro w6 ⟨⟨d6, os6⟩, rfl⟩
          have HK := Lib.hid (HK.out.later (below_regrown wr d6 os6))
          clear r0 r1 c0 c1
          revert HK
          dsimp only
          generalize grow (redrawn wr d6) os6 = w6
          intro HK
          have c0 := blk_cell HK.out.box 0; have c1 := blk_cell HK.out.box 1
          have hli : (i : Int) < b.gs.length := by omega
          have hlt' : (t : Int) < b.gs.length := by omega
          by_cases hti : t = i
          · have e8 : decide ((i : Int) < (t : Int)) = false := decide_eq_false (by omega)
            have e9 : decide (i < t) = false := decide_eq_false (by omega)
            have hgg : gi = gt := by
              have h1 := HGI.out
              have h2 := HGT.out
              rw [hti] at h2
              rw [h2] at h1
              exact (Option.some.inj h1).symm
            have HIT : Hid (itmT y = gthT gt) := Lib.hid (itm_once HYE.out (by have h := HYK.out; rwa [if_pos hti] at h) hgg)
            have HTI := Lib.hid hti
            clear hgg hti
            obtain ⟨G0, hG0⟩ : ∃ G0, G0 = gthT gt := ⟨_, rfl⟩
            have zG : (⟨G0.toArray⟩ : ByteArray).size ≤ 33 := by rw [size_bytes, hG0]; exact gthT_len HKT.out
            have HG0 := Lib.hid hG0
            clear hG0
            have z32 : (⟨[32].toArray⟩ : ByteArray).size ≤ 1 := by decide
            obtain ⟨Q, hQ⟩ : ∃ Z, Z = O ++ G0 := ⟨_, rfl⟩
            have cq : ((⟨(O).toArray⟩ : ByteArray) ++ ⟨(G0).toArray⟩) = ⟨(Q).toArray⟩ := by rw [hQ]; exact cat_bytes _ _
            have lq : (⟨(Q).toArray⟩ : ByteArray).size ≤ 1400 := by rw [← cq, ByteArray.size_append]; omega
            have HQ := Lib.hid hQ
            clear hQ
            obtain ⟨Q2, hQ2⟩ : ∃ Z, Z = Q ++ [32] := ⟨_, rfl⟩
            have cq2 : ((⟨(Q).toArray⟩ : ByteArray) ++ ⟨([32]).toArray⟩) = ⟨(Q2).toArray⟩ := by rw [hQ2]; exact cat_bytes _ _
            have lq2 : (⟨(Q2).toArray⟩ : ByteArray).size ≤ 1401 := by rw [← cq2, ByteArray.size_append]; omega
            have HQ2 := Lib.hid hQ2
            clear hQ2
            obtain ⟨bt, offt, et, -, ct, cct, hct, j0, j1, j2, j3⟩ := HK.out.gth HGT.out
            cases et
            have HCT := Lib.hid hct
            clear hct
            go_wp2_with fail
            refine (refItem_any gt ct cct _ HCT.out HKT.out).mono ?_
            rintro e w8 ⟨rfl, hb8⟩
            rw [← HG0.out]
            have HK := Lib.hid (HK.out.later hb8)
            clear hb8 j0 j1 j2 j3 HCT
            go_wp2_with fail
            go_roundg (b.gs.length - (t + 1))
            case measure => omega
            case rel => exact ⟨t + 1, Q2, by omega, (by first | rfl | trivial), by go_num, Lib.hid ⟨by rw [HY.out, itemsT_snoc, HIT.out]; rw [HQ2.out, HQ.out, HO.out.1]; simp [HO.out.1, HG0.out], by
              have h1 := HO.out.2.1
              have h2 : Q2.length ≤ O.length + 45 := by rw [← size_bytes, ← size_bytes O, ← cq2, ← cq]; simp only [ByteArray.size_append]; omega
              have h3 : (i + 1) * 45 ≤ (t + 1) * 45 := Nat.mul_le_mul_right _ (by omega)
              omega, fun x hx => by rw [HY.out]; exact step_no (HNX.out x hx)⟩, HK⟩
          · have e8 : decide ((i : Int) < (t : Int)) = true := decide_eq_true (by omega)
            have e9 : decide (i < t) = true := decide_eq_true (by omega)
            have HIT : Hid (itmT y = sigT gi.round gi.letter ++ [45] ++ gthT gt) := Lib.hid (itm_many HYE.out (by have h := HYK.out; rwa [if_neg hti] at h))
            have z45 : (⟨[45].toArray⟩ : ByteArray).size ≤ 1 := by decide
            have zsg : (⟨(sigT gi.round gi.letter).toArray⟩ : ByteArray).size ≤ 5 := by rw [size_bytes]; exact sigT_len _ _
            obtain ⟨P1, hP1⟩ : ∃ Z, Z = O ++ sigT gi.round gi.letter := ⟨_, rfl⟩
            have c1x : ((⟨(O).toArray⟩ : ByteArray) ++ ⟨(sigT gi.round gi.letter).toArray⟩) = ⟨(P1).toArray⟩ := by rw [hP1]; exact cat_bytes _ _
            have l1x : (⟨(P1).toArray⟩ : ByteArray).size ≤ 1360 := by rw [← c1x, ByteArray.size_append]; omega
            have HP1 := Lib.hid hP1
            clear hP1
            obtain ⟨P2, hP2⟩ : ∃ Z, Z = P1 ++ [45] := ⟨_, rfl⟩
            have c2x : ((⟨(P1).toArray⟩ : ByteArray) ++ ⟨([45]).toArray⟩) = ⟨(P2).toArray⟩ := by rw [hP2]; exact cat_bytes _ _
            have l2x : (⟨(P2).toArray⟩ : ByteArray).size ≤ 1361 := by rw [← c2x, ByteArray.size_append]; omega
            have HP2 := Lib.hid hP2
            clear hP2
            obtain ⟨bi, offi, ei, -, cix, ccix, -, k0, k1, k2, k3⟩ := HK.out.gth HGI.out
            cases ei
            go_wp2_with fail
            refine (refWritten_any _ _ HKI.out.sig _).mono ?_
            rintro e w7 ⟨rfl, hb7⟩
            have HK := Lib.hid (HK.out.later hb7)
            clear hb7 k0 k1 k2 k3 c0 c1
            have c0 := blk_cell HK.out.box 0; have c1 := blk_cell HK.out.box 1
            obtain ⟨G0, hG0⟩ : ∃ G0, G0 = gthT gt := ⟨_, rfl⟩
            have zG : (⟨G0.toArray⟩ : ByteArray).size ≤ 33 := by rw [size_bytes, hG0]; exact gthT_len HKT.out
            have HG0 := Lib.hid hG0
            clear hG0
            have z32 : (⟨[32].toArray⟩ : ByteArray).size ≤ 1 := by decide
            obtain ⟨Q, hQ⟩ : ∃ Z, Z = P2 ++ G0 := ⟨_, rfl⟩
            have cq : ((⟨(P2).toArray⟩ : ByteArray) ++ ⟨(G0).toArray⟩) = ⟨(Q).toArray⟩ := by rw [hQ]; exact cat_bytes _ _
            have lq : (⟨(Q).toArray⟩ : ByteArray).size ≤ 1400 := by rw [← cq, ByteArray.size_append]; omega
            have HQ := Lib.hid hQ
            clear hQ
            obtain ⟨Q2, hQ2⟩ : ∃ Z, Z = Q ++ [32] := ⟨_, rfl⟩
            have cq2 : ((⟨(Q).toArray⟩ : ByteArray) ++ ⟨([32]).toArray⟩) = ⟨(Q2).toArray⟩ := by rw [hQ2]; exact cat_bytes _ _
            have lq2 : (⟨(Q2).toArray⟩ : ByteArray).size ≤ 1401 := by rw [← cq2, ByteArray.size_append]; omega
            have HQ2 := Lib.hid hQ2
            clear hQ2
            obtain ⟨bt, offt, et, -, ct, cct, hct, j0, j1, j2, j3⟩ := HK.out.gth HGT.out
            cases et
            have HCT := Lib.hid hct
            clear hct
            go_wp2_with fail
            refine (refItem_any gt ct cct _ HCT.out HKT.out).mono ?_
            rintro e w8 ⟨rfl, hb8⟩
            rw [← HG0.out]
            have HK := Lib.hid (HK.out.later hb8)
            clear hb8 j0 j1 j2 j3 HCT
            go_wp2_with fail
            go_roundg (b.gs.length - (t + 1))
            case measure => omega
            case rel => exact ⟨t + 1, Q2, by omega, (by first | rfl | trivial), by go_num, Lib.hid ⟨by rw [HY.out, itemsT_snoc, HIT.out]; rw [HQ2.out, HQ.out, HP2.out, HP1.out]; simp [HO.out.1, HG0.out], by
              have h1 := HO.out.2.1
              have h2 : Q2.length ≤ O.length + 45 := by rw [← size_bytes, ← size_bytes O, ← cq2, ← cq, ← c2x, ← c1x]; simp only [ByteArray.size_append]; omega
              have h3 : (i + 1) * 45 ≤ (t + 1) * 45 := Nat.mul_le_mul_right _ (by omega)
              omega, fun x hx => by rw [HY.out]; exact step_no (HNX.out x hx)⟩, HK⟩
    | zero =>
      have hiN : i = b.gs.length := by omega
      have d0 : decide ((i : Int) < b.gs.length) = false := decide_eq_false (by omega)
      have HV : Hid (writeF b = O ++ [36] ++ dec b.signed) := Lib.hid (by
        have h := HO.out.1
        rw [hiN, List.take_length] at h
        unfold writeF
        rw [formulaT_is, ← h]
        simp)
      have z36 : (⟨[36].toArray⟩ : ByteArray).size ≤ 1 := by decide
      have zsd : (⟨(dec b.signed).toArray⟩ : ByteArray).size ≤ 2 := by rw [size_bytes]; exact dec_len _
      obtain ⟨P1, hP1⟩ : ∃ Z, Z = O ++ [36] := ⟨_, rfl⟩
      have c1x : ((⟨(O).toArray⟩ : ByteArray) ++ ⟨([36]).toArray⟩) = ⟨(P1).toArray⟩ := by rw [hP1]; exact cat_bytes _ _
      have l1x : (⟨(P1).toArray⟩ : ByteArray).size ≤ 1360 := by rw [← c1x, ByteArray.size_append]; omega
      have HP1 := Lib.hid hP1
      clear hP1
      obtain ⟨P2, hP2⟩ : ∃ Z, Z = P1 ++ dec b.signed := ⟨_, rfl⟩
      have c2x : ((⟨(P1).toArray⟩ : ByteArray) ++ ⟨(dec b.signed).toArray⟩) = ⟨(P2).toArray⟩ := by rw [hP2]; exact cat_bytes _ _
      have l2x : (⟨(P2).toArray⟩ : ByteArray).size ≤ 1362 := by rw [← c2x, ByteArray.size_append]; omega
      have HP2 := Lib.hid hP2
      clear hP2
      clear hiN
      go_wp2_with fail
      refine (refDig_any b.signed hsg.1 (by omega) _).mono ?_
      rintro e w7 ⟨rfl, hb7⟩
      have HK := Lib.hid (HK.out.later hb7)
      clear hb7 c0 c1
      go_wp2_with fail
      go_ret
      exact ⟨by rw [HV.out, ← HP1.out, ← HP2.out]; rfl, HK.out.below⟩
end Go.Proofs.YtimdmgkegdlafaaGreatDoor
