/- The parts Lp of the proof, joined. It holds without conditions of its own. -/
import Derived.Test.YtimdmgkegdlafaaGreatDoorSH39
import Derived.Test.YtimdmgkegdlafaaGreatDoorSH2
import Derived.Test.YtimdmgkegdlafaaGreatDoorSH38
import Derived.Test.YtimdmgkegdlafaaGreatDoorSH44
import Derived.Test.YtimdmgkegdlafaaGreatDoorSH30
/- ANY formula of a book, as the law QuireShort makes it. -/
namespace Go.Proofs.YtimdmgkegdlafaaGreatDoor
set_option linter.unusedSimpArgs false
set_option linter.unusedVariables false
open Go Go.RowKit Go.Sort Go.BigFrame Go.Shelf
attribute [local go_sem] Oper.semAt_some putAll

theorem itm1_len {g : Gth} (h : GOk g) : (itmT (itm1 g)).length ≤ 33 := by
  have e : itmT (itm1 g) = gthT g := itm_once (ends_one g) rfl rfl
  rw [e]
  exact gthT_len h

theorem ot_catA {f i : Nat} {O I Q Q2 G0 X Y : Bs} (h0 : ¬ f < i) (h1 : O = I) (h2 : Q = O ++ G0) (h3 : Q2 = Q ++ [32]) (h4 : G0 = Y) : Q2 = I ++ (if f < i then X ++ [45] else []) ++ (Y ++ [32]) := by
  rw [if_neg h0, h3, h2, h1, h4]
  simp
theorem ot_catB {f i : Nat} {O I P1 P2 Q Q2 G0 Y : Bs} {a a2 : Gth} (h0 : f < i) (h1 : O = I) (h5 : P1 = O ++ sigT a.round a.letter) (h6 : P2 = P1 ++ [45]) (h2 : Q = P2 ++ G0) (h3 : Q2 = Q ++ [32]) (h4 : G0 = Y) (h7 : a2 = a) :
    Q2 = I ++ (if f < i then sigT a2.round a2.letter ++ [45] else []) ++ (Y ++ [32]) := by
  rw [if_pos h0, h3, h2, h6, h5, h1, h4, h7]
  simp

set_option maxRecDepth 100000 in
set_option maxHeartbeats 400000 in
theorem turn_any (xs : List Nat) (v : Value) (n : Nat) (w : World) (hv : U8sAt w.heap.size w v xs) (hn : n < 1000) :
    Calls Tryz.prog 40 #[v, .int .i64 n] w fun e w' => (∃ t : Nat, t < 256 ∧ e = .returned (.int .i64 t)) ∧ Below w.heap.size w w' := by
  obtain ⟨hx, a, cap, rfl, hc⟩ := hv
  by_cases h0 : xs = []
  · subst h0
    go_enter Tryz.func40, Tryz.ntmps40
    go_wp2_with fail
    go_ret
    exact ⟨⟨0, by decide, rfl⟩, Below.refl _ _⟩
  · obtain ⟨b, off, rfl, hb, hc⟩ := hc h0
    obtain ⟨L, hL⟩ : ∃ L, L = xs.length := ⟨_, rfl⟩
    have hLp : 0 < L := by rw [hL]; exact List.length_pos_iff.2 h0
    obtain ⟨k, hk⟩ : ∃ k, k = n % L := ⟨_, rfl⟩
    have hkL : k < L := by rw [hk]; exact Nat.mod_lt _ hLp
    obtain ⟨x, hxk⟩ : ∃ x, xs[k]? = some x := ⟨_, List.getElem?_eq_getElem (by omega)⟩
    have c0 := hc k x hxk
    have hx1 := hx x (List.mem_of_getElem? hxk)
    rw [← hL]
    have hm : (n : Int).tmod (L : Int) = (k : Int) := by rw [hk]; rfl
    have d0 : ¬ (L : Int) = 0 := by omega
    have e0 : ((L : Int) == 0) = false := by simp; omega
    have hw0 : wrap64 (x : Int) = (x : Int) := by unfold wrap64; omega
    have i2 : (k : Int) < (L : Int) := by omega
    clear hL hk hxk hc hx h0
    go_enter Tryz.func40, Tryz.ntmps40
    go_wp2_with fail
    go_ret
    exact ⟨⟨x, hx1, rfl⟩, Below.refl _ _⟩

set_option maxRecDepth 100000 in
set_option maxHeartbeats 400000 in
theorem one_any (g : Gth) (ca : Option Addr) (ccap : Nat) (w : World) (hch : ChsAt w.heap.size w (.slice ca g.chs.length ccap) g.chs) (hg : GOk g) :
    Calls Tryz.prog 41 #[.agg #[.int .i64 g.round, .int .i64 g.letter, .int .i64 g.leaves, .slice ca g.chs.length ccap]] w fun e w' => e = .returned (S (itmT (itm1 g))) ∧ Below w.heap.size w w' := by
  obtain ⟨T, hT⟩ : ∃ T, T = itmT (itm1 g) := ⟨_, rfl⟩
  obtain ⟨M, hM⟩ : ∃ M, M = T.length := ⟨_, rfl⟩
  have hM33 : M ≤ 33 := by rw [hM, hT]; exact itm1_len hg
  have hzU : (⟨(T ++ [32, 36, 48]).toArray⟩ : ByteArray).size = M + 3 := by rw [size_bytes, List.length_append, hM]; rfl
  have hex : (⟨(T ++ [32, 36, 48]).toArray⟩ : ByteArray).extract 0 M = ⟨T.toArray⟩ := by
    rw [ext_take _ M (by rw [List.length_append]; omega), hM, List.take_left]
  obtain ⟨U, hU⟩ : ∃ U, U = T ++ [32, 36, 48] := ⟨_, rfl⟩
  have HU : Hid (writeF ⟨0, [g]⟩ = U) := Lib.hid (by rw [write_one, hU, hT])
  rw [← hU] at hzU hex
  rw [← hT]
  obtain ⟨N, hN⟩ : ∃ N, N = M + 3 := ⟨_, rfl⟩
  rw [← hN] at hzU
  have hlU : U.length = N := by rw [← size_bytes, hzU]
  have i1 : (0 : Int) ≤ (M : Int) := by omega
  have i2 : (M : Int) ≤ (N : Int) := by omega
  have hw3 : wrap64 ((N : Int) - 3) = (M : Int) := by unfold wrap64; omega
  have HE := Lib.hid (err_one hg)
  have HC := Lib.hid hch
  clear hU hT hg hch hM hN
  go_enter Tryz.func41, Tryz.ntmps41
  go_wp2_with fail
  refine (refText_any ⟨0, [g]⟩ _ _ ?hbk HE.out).mono ?_
  case hbk =>
    refine ⟨_, rfl, _, _, rfl, fun _ => ⟨_, 0, rfl, ?_, fun i x hi => ?_⟩⟩
    · simp
    · obtain ⟨rfl, rfl⟩ : i = 0 ∧ g = x := by
        cases i with
        | zero => exact ⟨rfl, Option.some.inj hi⟩
        | succ i => simp at hi
      refine ⟨_, (HC.out.below (by exact (by repeat (first | (refine Below.setCell ?_ ?_ _; rotate_left; · (first | omega | (simp; done) | (simp; omega) | fail)) | (refine Below.alloc ?_ ?_ _; rotate_left; · (first | omega | (simp; done) | (simp; omega) | fail)) | refine Below.drew ?_ | exact Below.refl _ _ | fail))) (Nat.le_refl _)).mono (by simp; omega), ?_, ?_, ?_, ?_⟩
      all_goals simp [World.cell?_alloc_at]
  rintro e w1 ⟨rfl, hb1⟩
  rw [HU.out]
  have hb0 : Below w.heap.size w w1 := Below.trans (by exact (by repeat (first | (refine Below.setCell ?_ ?_ _; rotate_left; · (first | omega | (simp; done) | (simp; omega) | fail)) | (refine Below.alloc ?_ ?_ _; rotate_left; · (first | omega | (simp; done) | (simp; omega) | fail)) | refine Below.drew ?_ | exact Below.refl _ _ | fail))) (hb1.mono (by simp; try omega))
  have HB := Lib.hid hb0
  clear hb1 hb0
  go_wp2_with fail
  go_ret
  exact ⟨rfl, HB.out⟩

set_option maxRecDepth 100000 in
set_option maxHeartbeats 6400000 in
theorem Other_any (b : Bk) (v : Value) (xs : List Nat) (u : Value) (w : World) (hb : BookAt w.heap.size w v b) (hcap : ∀ s a n cap, v = .agg #[.int .i64 s, .slice a n cap] → n ≤ cap ∧ cap ≤ 9223372036854775807) (hu : U8sAt w.heap.size w u xs) (he : errF b = 0) :
    Calls Tryz.prog 14 #[v, u] w fun e w' => (∃ f ys, Oth b b.gs.length f ys ∧ (itemsT ys).length ≤ 1350 ∧ e = .returned (S (itemsT ys ++ 36 :: dec b.signed))) ∧ Below w.heap.size w w' := by
  obtain ⟨sv, rfl, hgs⟩ := hb
  have hb : BookAt w.heap.size w (.agg #[.int .i64 b.signed, sv]) b := ⟨sv, rfl, hgs⟩
  obtain ⟨a, cap, rfl, -⟩ := hgs
  obtain ⟨hc1, hc2⟩ := hcap _ _ _ _ rfl
  have hu0 := hu
  obtain ⟨-, xa, xcap, rfl, -⟩ := hu0
  have HX := Lib.hid hu
  have HK := Lib.hid (BkBox.start hb)
  have hlen := (errF_zero he).len
  have hsg := (errF_zero he).signed
  have HE := Lib.hid (errF_zero he)
  have HEE := Lib.hid he
  clear he hb hu hcap
  go_enter Tryz.func14, Tryz.ntmps14
  go_wp2_with fail
  revert HK
  generalize w.alloc (.cells #[.int .i64 b.signed, .slice a b.gs.length cap] 24) = w1
  intro HK
  go_loopg [5, 6, 7] b.gs.length (fun g o q r wr => ∃ (i f : Nat) (ys : List Itm) (O : Bs), i + g = b.gs.length ∧ o = S O ∧ q = .int .i64 f ∧ r = .int .i64 i ∧ Hid (O = itemsT ys ∧ O.length ≤ i * 45 ∧ Oth b i f ys) ∧ Hid (BkBox w wr w.heap.size b a cap))
  case atStart => exact ⟨0, 0, [], [], by omega, rfl, rfl, rfl, Lib.hid ⟨rfl, by simp, Oth.start b⟩, HK⟩
  case round =>
    clear HK
    obtain ⟨i, f, ys, O, hi, rfl, rfl, rfl, HO, HK⟩ := hrel
    have hOl : O.length ≤ 1350 := by have := HO.out.2.1; omega
    have zO : (⟨O.toArray⟩ : ByteArray).size ≤ 1350 := by rw [size_bytes]; exact hOl
    have hfi0 : f ≤ i := HO.out.2.2.upto
    cases gk with
    | succ g =>
      have hlt : i < b.gs.length := by omega
      have d0 : decide ((i : Int) < b.gs.length) = true := decide_eq_true (by omega)
      have i3 : (i : Int) < b.gs.length := by omega
      obtain ⟨gi, hgi⟩ : ∃ gi, b.gs[i]? = some gi := ⟨_, List.getElem?_eq_getElem hlt⟩
      have HGI := Lib.hid hgi
      have HKI := Lib.hid (HE.out.gs gi (List.mem_of_getElem? hgi))
      clear hgi
      obtain ⟨bb, off, rfl, -⟩ := HK.out.gth HGI.out
      by_cases hmore : i + 1 < b.gs.length
      · have d1 : decide ((i : Int) + 1 < b.gs.length) = true := decide_eq_true (by omega)
        have c0 := blk_cell HK.out.box 0; have c1 := blk_cell HK.out.box 1
        go_wp2_with fail
        refine (turn_any xs _ i _ (HX.out.later HK.out.below HK.out.below.size) (by omega)).mono ?_
        rintro e w2 ⟨⟨t, ht, rfl⟩, hb2⟩
        have HK := Lib.hid (HK.out.later hb2)
        clear hb2 c0 c1
        have hpar : t % 2 = 0 ∨ t % 2 = 1 := by omega
        rcases hpar with hpar | hpar
        · have hm : (t : Int).tmod 2 = 0 := by rw [show (t : Int).tmod 2 = ((t % 2 : Nat) : Int) from rfl, hpar]; rfl
          clear hpar
          obtain ⟨gn, hgn⟩ : ∃ gn, b.gs[i + 1]? = some gn := ⟨_, List.getElem?_eq_getElem hmore⟩
          have HGN := Lib.hid hgn
          have HKN := Lib.hid (HE.out.gs gn (List.mem_of_getElem? hgn))
          clear hgn
          have q1 : (0 : Int) ≤ (i : Int) := by omega
          have q2 : (i : Int) ≤ (i : Int) + 2 := by omega
          have q3 : (i : Int) + 2 ≤ (cap : Int) := by omega
          have c0 := blk_cell HK.out.box 0; have c1 := blk_cell HK.out.box 1
          obtain ⟨bb', off', e', -, ca, ccap, hca, g0, g1, g2, g3⟩ := HK.out.gth HGI.out
          cases e'
          obtain ⟨bb', off', e', -, cb, dcap, hcb, h0, h1, h2, h3⟩ := HK.out.gth HGN.out
          cases e'
          have hbl : bb < _ := ((HK.out.gth HGI.out).elim fun _ h => h.elim fun _ h => by cases h.1; exact h.2.1)
          have HM : Hid (BookAt _ _ (.agg #[.int .i64 0, .slice (some ⟨bb, off + i * 4, none⟩) 2 (cap - i)]) ⟨0, [gi, gn]⟩) := Lib.hid (by
            refine ⟨_, rfl, _, _, rfl, fun _ => ⟨bb, off + i * 4, rfl, hbl, fun k x hx => ?_⟩⟩
            match k, hx with
            | 0, hx =>
              cases hx
              exact ⟨_, hca, g0, g1, g2, g3⟩
            | 1, hx =>
              cases hx
              rw [show off + i * 4 + 1 * 4 = off + (i + 1) * 4 by omega]
              exact ⟨_, hcb, h0, h1, h2, h3⟩)
          clear g0 g1 g2 g3 h0 h1 h2 h3 hca hcb hbl
          go_wp2_with fail
          refine (refText_any ⟨0, [gi, gn]⟩ _ _ HM.out (err_two HEE.out HGI.out HGN.out)).mono ?_
          rintro e w3 ⟨rfl, hb3⟩
          have HK := Lib.hid (HK.out.later hb3)
          clear hb3 c0 c1 HM
          obtain ⟨D, hD⟩ : ∃ D, D = writeF ⟨0, [gi, gn]⟩ := ⟨_, rfl⟩
          have hDl : D.length ≤ 1000 := by rw [hD]; exact write_len (err_two HEE.out HGI.out HGN.out)
          have HDC : Hid ((cutF 32 D).length = if takesB (itm1 gi) gn then 2 else 3) := Lib.hid (by rw [hD]; exact cut_two HKI.out HKN.out)
          rw [← hD]
          clear hD
          go_wp2_with fail
          refine (refCut_any D 32 _ (by omega)).mono ?_
          rintro e w4 ⟨⟨v4, rfl, hrow⟩, hb4⟩
          have HK := Lib.hid (HK.out.later hb4)
          rw [HDC.out] at hrow
          clear hb4
          cases htk : takesB (itm1 gi) gn with
          | true =>
            rw [htk, if_pos rfl] at hrow
            obtain ⟨g4, cap4, rfl, -, -⟩ := row_form hrow (by decide)
            have HST := Lib.hid (HO.out.2.2.stay HGI.out HGN.out HKI.out HKN.out htk)
            clear hrow htk
            go_wp2_with fail
            go_roundg g
            case measure => omega
            case rel => exact ⟨i + 1, f, ys, O, by omega, rfl, rfl, by go_num, Lib.hid ⟨HO.out.1, by have := HO.out.2.1; omega, HST.out⟩, HK⟩
          | false =>
            rw [htk, if_neg (by decide)] at hrow
            obtain ⟨g4, cap4, rfl, -, -⟩ := row_form hrow (by decide)
            clear hrow htk
            by_cases hfi : f < i
            · have e8 : decide ((f : Int) < (i : Int)) = true := decide_eq_true (by omega)
              obtain ⟨xx, af, haf, -, hqq⟩ := HO.out.2.2.put HGI.out HKI.out
              rw [if_pos hfi] at hqq
              have hfL : (f : Int) < b.gs.length := by have := (List.getElem?_eq_some_iff.1 haf).1; omega
              have HAF := Lib.hid haf
              have HKF := Lib.hid (HE.out.gs af (List.mem_of_getElem? haf))
              have HQQ := Lib.hid hqq
              have HFI := Lib.hid hfi
              clear haf hqq hfi
              have z45 : (⟨[45].toArray⟩ : ByteArray).size ≤ 1 := by decide
              have zsg : (⟨(sigT af.round af.letter).toArray⟩ : ByteArray).size ≤ 5 := by rw [size_bytes]; exact sigT_len _ _
              obtain ⟨P1, hP1⟩ : ∃ Z, Z = O ++ sigT af.round af.letter := ⟨_, rfl⟩
              have c1x : ((⟨(O).toArray⟩ : ByteArray) ++ ⟨(sigT af.round af.letter).toArray⟩) = ⟨(P1).toArray⟩ := by rw [hP1]; exact cat_bytes _ _
              have l1x : (⟨(P1).toArray⟩ : ByteArray).size ≤ 1360 := by rw [← c1x, ByteArray.size_append]; omega
              have HP1 := Lib.hid hP1
              clear hP1
              obtain ⟨P2, hP2⟩ : ∃ Z, Z = P1 ++ [45] := ⟨_, rfl⟩
              have c2x : ((⟨(P1).toArray⟩ : ByteArray) ++ ⟨([45]).toArray⟩) = ⟨(P2).toArray⟩ := by rw [hP2]; exact cat_bytes _ _
              have l2x : (⟨(P2).toArray⟩ : ByteArray).size ≤ 1361 := by rw [← c2x, ByteArray.size_append]; omega
              have HP2 := Lib.hid hP2
              clear hP2
              have HAL : Hid ((⟨P2.toArray⟩ : ByteArray).size ≤ (⟨O.toArray⟩ : ByteArray).size + 6) := Lib.hid (by rw [← c2x, ← c1x]; simp only [ByteArray.size_append]; omega)
              obtain ⟨bf, offf, ef, -, cf, ccf, -, k0, k1, k2, k3⟩ := HK.out.gth HAF.out
              cases ef
              have c0 := blk_cell HK.out.box 0; have c1 := blk_cell HK.out.box 1
              go_wp2_with fail
              refine (refWritten_any _ _ HKF.out.sig _).mono ?_
              rintro e w7 ⟨rfl, hb7⟩
              have HK := Lib.hid (HK.out.later hb7)
              clear hb7 k0 k1 k2 k3 c0 c1
              obtain ⟨G0, hG0⟩ : ∃ G0, G0 = itmT (itm1 gi) := ⟨_, rfl⟩
              have zG : (⟨G0.toArray⟩ : ByteArray).size ≤ 33 := by rw [size_bytes, hG0]; exact itm1_len HKI.out
              have HG0 := Lib.hid hG0
              clear hG0
              have z32 : (⟨[32].toArray⟩ : ByteArray).size ≤ 1 := by decide
              obtain ⟨Q, hQ⟩ : ∃ Z, Z = P2 ++ G0 := ⟨_, rfl⟩
              have cq : ((⟨(P2).toArray⟩ : ByteArray) ++ ⟨(G0).toArray⟩) = ⟨(Q).toArray⟩ := by rw [hQ]; exact cat_bytes _ _
              have lq : (⟨(Q).toArray⟩ : ByteArray).size ≤ 1400 := by rw [← cq, ByteArray.size_append]; omega
              have HQ := Lib.hid hQ
              clear hQ
              obtain ⟨Q2, hQ2⟩ : ∃ Z, Z = Q ++ [32] := ⟨_, rfl⟩
              have cq2 : ((⟨(Q).toArray⟩ : ByteArray) ++ ⟨([32]).toArray⟩) = ⟨(Q2).toArray⟩ := by rw [hQ2]; exact cat_bytes _ _
              have lq2 : (⟨(Q2).toArray⟩ : ByteArray).size ≤ 1401 := by rw [← cq2, ByteArray.size_append]; omega
              have HQ2 := Lib.hid hQ2
              clear hQ2
              obtain ⟨bi2, offi2, ei2, -, ci, cci, hci, j0, j1, j2, j3⟩ := HK.out.gth HGI.out
              cases ei2
              have HCI := Lib.hid hci
              clear hci
              have c0 := blk_cell HK.out.box 0; have c1 := blk_cell HK.out.box 1
              go_wp2_with fail
              refine (one_any gi ci cci _ HCI.out HKI.out).mono ?_
              rintro e w8 ⟨rfl, hb8⟩
              rw [← HG0.out]
              have HK := Lib.hid (HK.out.later hb8)
              clear hb8 j0 j1 j2 j3 c0 c1 HCI
              go_wp2_with fail
              obtain ⟨x, af2, haf2, hp, hq⟩ := HO.out.2.2.put HGI.out HKI.out
              have HP := Lib.hid hp
              have HQT : Hid (Q2 = itemsT (ys ++ [x])) := Lib.hid (by rw [hq]; exact ot_catB HFI.out HO.out.1 HP1.out HP2.out HQ.out HQ2.out HG0.out (Option.some.inj (haf2.symm.trans HAF.out)))
              have HQL : Hid (Q2.length ≤ (i + 1) * 45) := Lib.hid (by
                have h1 := HO.out.2.1
                have h3 : Q2.length = (⟨Q2.toArray⟩ : ByteArray).size := (size_bytes _).symm
                have h4 : O.length = (⟨O.toArray⟩ : ByteArray).size := (size_bytes _).symm
                have h5 : ((⟨Q.toArray⟩ : ByteArray) ++ ⟨[32].toArray⟩).size = (⟨Q2.toArray⟩ : ByteArray).size := congrArg ByteArray.size cq2
                have h6 : ((⟨(P2).toArray⟩ : ByteArray) ++ ⟨G0.toArray⟩).size = (⟨Q.toArray⟩ : ByteArray).size := congrArg ByteArray.size cq
                rw [ByteArray.size_append] at h5 h6
                have h7 := HAL.out
                omega)
              clear hp hq haf2
              go_roundg g
              case measure => omega
              case rel => exact ⟨i + 1, i + 1, ys ++ [x], Q2, by omega, rfl, by go_num, by go_num, Lib.hid ⟨HQT.out, HQL.out, HP.out⟩, HK⟩
            · have e8 : decide ((f : Int) < (i : Int)) = false := decide_eq_false (by omega)
              have HFI := Lib.hid hfi
              have HAL : Hid ((⟨O.toArray⟩ : ByteArray).size ≤ (⟨O.toArray⟩ : ByteArray).size + 6) := Lib.hid (by omega)
              clear hfi
              obtain ⟨G0, hG0⟩ : ∃ G0, G0 = itmT (itm1 gi) := ⟨_, rfl⟩
              have zG : (⟨G0.toArray⟩ : ByteArray).size ≤ 33 := by rw [size_bytes, hG0]; exact itm1_len HKI.out
              have HG0 := Lib.hid hG0
              clear hG0
              have z32 : (⟨[32].toArray⟩ : ByteArray).size ≤ 1 := by decide
              obtain ⟨Q, hQ⟩ : ∃ Z, Z = O ++ G0 := ⟨_, rfl⟩
              have cq : ((⟨(O).toArray⟩ : ByteArray) ++ ⟨(G0).toArray⟩) = ⟨(Q).toArray⟩ := by rw [hQ]; exact cat_bytes _ _
              have lq : (⟨(Q).toArray⟩ : ByteArray).size ≤ 1400 := by rw [← cq, ByteArray.size_append]; omega
              have HQ := Lib.hid hQ
              clear hQ
              obtain ⟨Q2, hQ2⟩ : ∃ Z, Z = Q ++ [32] := ⟨_, rfl⟩
              have cq2 : ((⟨(Q).toArray⟩ : ByteArray) ++ ⟨([32]).toArray⟩) = ⟨(Q2).toArray⟩ := by rw [hQ2]; exact cat_bytes _ _
              have lq2 : (⟨(Q2).toArray⟩ : ByteArray).size ≤ 1401 := by rw [← cq2, ByteArray.size_append]; omega
              have HQ2 := Lib.hid hQ2
              clear hQ2
              obtain ⟨bi2, offi2, ei2, -, ci, cci, hci, j0, j1, j2, j3⟩ := HK.out.gth HGI.out
              cases ei2
              have HCI := Lib.hid hci
              clear hci
              have c0 := blk_cell HK.out.box 0; have c1 := blk_cell HK.out.box 1
              go_wp2_with fail
              refine (one_any gi ci cci _ HCI.out HKI.out).mono ?_
              rintro e w8 ⟨rfl, hb8⟩
              rw [← HG0.out]
              have HK := Lib.hid (HK.out.later hb8)
              clear hb8 j0 j1 j2 j3 c0 c1 HCI
              go_wp2_with fail
              obtain ⟨x, af2, haf2, hp, hq⟩ := HO.out.2.2.put HGI.out HKI.out
              have HP := Lib.hid hp
              have HQT : Hid (Q2 = itemsT (ys ++ [x])) := Lib.hid (by rw [hq]; exact ot_catA HFI.out HO.out.1 HQ.out HQ2.out HG0.out)
              have HQL : Hid (Q2.length ≤ (i + 1) * 45) := Lib.hid (by
                have h1 := HO.out.2.1
                have h3 : Q2.length = (⟨Q2.toArray⟩ : ByteArray).size := (size_bytes _).symm
                have h4 : O.length = (⟨O.toArray⟩ : ByteArray).size := (size_bytes _).symm
                have h5 : ((⟨Q.toArray⟩ : ByteArray) ++ ⟨[32].toArray⟩).size = (⟨Q2.toArray⟩ : ByteArray).size := congrArg ByteArray.size cq2
                have h6 : ((⟨(O).toArray⟩ : ByteArray) ++ ⟨G0.toArray⟩).size = (⟨Q.toArray⟩ : ByteArray).size := congrArg ByteArray.size cq
                rw [ByteArray.size_append] at h5 h6
                have h7 := HAL.out
                omega)
              clear hp hq haf2
              go_roundg g
              case measure => omega
              case rel => exact ⟨i + 1, i + 1, ys ++ [x], Q2, by omega, rfl, by go_num, by go_num, Lib.hid ⟨HQT.out, HQL.out, HP.out⟩, HK⟩
        · have hm : (t : Int).tmod 2 = 1 := by rw [show (t : Int).tmod 2 = ((t % 2 : Nat) : Int) from rfl, hpar]; rfl
          clear hpar
          by_cases hfi : f < i
          · have e8 : decide ((f : Int) < (i : Int)) = true := decide_eq_true (by omega)
            obtain ⟨xx, af, haf, -, hqq⟩ := HO.out.2.2.put HGI.out HKI.out
            rw [if_pos hfi] at hqq
            have hfL : (f : Int) < b.gs.length := by have := (List.getElem?_eq_some_iff.1 haf).1; omega
            have HAF := Lib.hid haf
            have HKF := Lib.hid (HE.out.gs af (List.mem_of_getElem? haf))
            have HQQ := Lib.hid hqq
            have HFI := Lib.hid hfi
            clear haf hqq hfi
            have z45 : (⟨[45].toArray⟩ : ByteArray).size ≤ 1 := by decide
            have zsg : (⟨(sigT af.round af.letter).toArray⟩ : ByteArray).size ≤ 5 := by rw [size_bytes]; exact sigT_len _ _
            obtain ⟨P1, hP1⟩ : ∃ Z, Z = O ++ sigT af.round af.letter := ⟨_, rfl⟩
            have c1x : ((⟨(O).toArray⟩ : ByteArray) ++ ⟨(sigT af.round af.letter).toArray⟩) = ⟨(P1).toArray⟩ := by rw [hP1]; exact cat_bytes _ _
            have l1x : (⟨(P1).toArray⟩ : ByteArray).size ≤ 1360 := by rw [← c1x, ByteArray.size_append]; omega
            have HP1 := Lib.hid hP1
            clear hP1
            obtain ⟨P2, hP2⟩ : ∃ Z, Z = P1 ++ [45] := ⟨_, rfl⟩
            have c2x : ((⟨(P1).toArray⟩ : ByteArray) ++ ⟨([45]).toArray⟩) = ⟨(P2).toArray⟩ := by rw [hP2]; exact cat_bytes _ _
            have l2x : (⟨(P2).toArray⟩ : ByteArray).size ≤ 1361 := by rw [← c2x, ByteArray.size_append]; omega
            have HP2 := Lib.hid hP2
            clear hP2
            have HAL : Hid ((⟨P2.toArray⟩ : ByteArray).size ≤ (⟨O.toArray⟩ : ByteArray).size + 6) := Lib.hid (by rw [← c2x, ← c1x]; simp only [ByteArray.size_append]; omega)
            obtain ⟨bf, offf, ef, -, cf, ccf, -, k0, k1, k2, k3⟩ := HK.out.gth HAF.out
            cases ef
            have c0 := blk_cell HK.out.box 0; have c1 := blk_cell HK.out.box 1
            go_wp2_with fail
            refine (refWritten_any _ _ HKF.out.sig _).mono ?_
            rintro e w7 ⟨rfl, hb7⟩
            have HK := Lib.hid (HK.out.later hb7)
            clear hb7 k0 k1 k2 k3 c0 c1
            obtain ⟨G0, hG0⟩ : ∃ G0, G0 = itmT (itm1 gi) := ⟨_, rfl⟩
            have zG : (⟨G0.toArray⟩ : ByteArray).size ≤ 33 := by rw [size_bytes, hG0]; exact itm1_len HKI.out
            have HG0 := Lib.hid hG0
            clear hG0
            have z32 : (⟨[32].toArray⟩ : ByteArray).size ≤ 1 := by decide
            obtain ⟨Q, hQ⟩ : ∃ Z, Z = P2 ++ G0 := ⟨_, rfl⟩
            have cq : ((⟨(P2).toArray⟩ : ByteArray) ++ ⟨(G0).toArray⟩) = ⟨(Q).toArray⟩ := by rw [hQ]; exact cat_bytes _ _
            have lq : (⟨(Q).toArray⟩ : ByteArray).size ≤ 1400 := by rw [← cq, ByteArray.size_append]; omega
            have HQ := Lib.hid hQ
            clear hQ
            obtain ⟨Q2, hQ2⟩ : ∃ Z, Z = Q ++ [32] := ⟨_, rfl⟩
            have cq2 : ((⟨(Q).toArray⟩ : ByteArray) ++ ⟨([32]).toArray⟩) = ⟨(Q2).toArray⟩ := by rw [hQ2]; exact cat_bytes _ _
            have lq2 : (⟨(Q2).toArray⟩ : ByteArray).size ≤ 1401 := by rw [← cq2, ByteArray.size_append]; omega
            have HQ2 := Lib.hid hQ2
            clear hQ2
            obtain ⟨bi2, offi2, ei2, -, ci, cci, hci, j0, j1, j2, j3⟩ := HK.out.gth HGI.out
            cases ei2
            have HCI := Lib.hid hci
            clear hci
            have c0 := blk_cell HK.out.box 0; have c1 := blk_cell HK.out.box 1
            go_wp2_with fail
            refine (one_any gi ci cci _ HCI.out HKI.out).mono ?_
            rintro e w8 ⟨rfl, hb8⟩
            rw [← HG0.out]
            have HK := Lib.hid (HK.out.later hb8)
            clear hb8 j0 j1 j2 j3 c0 c1 HCI
            go_wp2_with fail
            obtain ⟨x, af2, haf2, hp, hq⟩ := HO.out.2.2.put HGI.out HKI.out
            have HP := Lib.hid hp
            have HQT : Hid (Q2 = itemsT (ys ++ [x])) := Lib.hid (by rw [hq]; exact ot_catB HFI.out HO.out.1 HP1.out HP2.out HQ.out HQ2.out HG0.out (Option.some.inj (haf2.symm.trans HAF.out)))
            have HQL : Hid (Q2.length ≤ (i + 1) * 45) := Lib.hid (by
              have h1 := HO.out.2.1
              have h3 : Q2.length = (⟨Q2.toArray⟩ : ByteArray).size := (size_bytes _).symm
              have h4 : O.length = (⟨O.toArray⟩ : ByteArray).size := (size_bytes _).symm
              have h5 : ((⟨Q.toArray⟩ : ByteArray) ++ ⟨[32].toArray⟩).size = (⟨Q2.toArray⟩ : ByteArray).size := congrArg ByteArray.size cq2
              have h6 : ((⟨(P2).toArray⟩ : ByteArray) ++ ⟨G0.toArray⟩).size = (⟨Q.toArray⟩ : ByteArray).size := congrArg ByteArray.size cq
              rw [ByteArray.size_append] at h5 h6
              have h7 := HAL.out
              omega)
            clear hp hq haf2
            go_roundg g
            case measure => omega
            case rel => exact ⟨i + 1, i + 1, ys ++ [x], Q2, by omega, rfl, by go_num, by go_num, Lib.hid ⟨HQT.out, HQL.out, HP.out⟩, HK⟩
          · have e8 : decide ((f : Int) < (i : Int)) = false := decide_eq_false (by omega)
            have HFI := Lib.hid hfi
            have HAL : Hid ((⟨O.toArray⟩ : ByteArray).size ≤ (⟨O.toArray⟩ : ByteArray).size + 6) := Lib.hid (by omega)
            clear hfi
            obtain ⟨G0, hG0⟩ : ∃ G0, G0 = itmT (itm1 gi) := ⟨_, rfl⟩
            have zG : (⟨G0.toArray⟩ : ByteArray).size ≤ 33 := by rw [size_bytes, hG0]; exact itm1_len HKI.out
            have HG0 := Lib.hid hG0
            clear hG0
            have z32 : (⟨[32].toArray⟩ : ByteArray).size ≤ 1 := by decide
            obtain ⟨Q, hQ⟩ : ∃ Z, Z = O ++ G0 := ⟨_, rfl⟩
            have cq : ((⟨(O).toArray⟩ : ByteArray) ++ ⟨(G0).toArray⟩) = ⟨(Q).toArray⟩ := by rw [hQ]; exact cat_bytes _ _
            have lq : (⟨(Q).toArray⟩ : ByteArray).size ≤ 1400 := by rw [← cq, ByteArray.size_append]; omega
            have HQ := Lib.hid hQ
            clear hQ
            obtain ⟨Q2, hQ2⟩ : ∃ Z, Z = Q ++ [32] := ⟨_, rfl⟩
            have cq2 : ((⟨(Q).toArray⟩ : ByteArray) ++ ⟨([32]).toArray⟩) = ⟨(Q2).toArray⟩ := by rw [hQ2]; exact cat_bytes _ _
            have lq2 : (⟨(Q2).toArray⟩ : ByteArray).size ≤ 1401 := by rw [← cq2, ByteArray.size_append]; omega
            have HQ2 := Lib.hid hQ2
            clear hQ2
            obtain ⟨bi2, offi2, ei2, -, ci, cci, hci, j0, j1, j2, j3⟩ := HK.out.gth HGI.out
            cases ei2
            have HCI := Lib.hid hci
            clear hci
            have c0 := blk_cell HK.out.box 0; have c1 := blk_cell HK.out.box 1
            go_wp2_with fail
            refine (one_any gi ci cci _ HCI.out HKI.out).mono ?_
            rintro e w8 ⟨rfl, hb8⟩
            rw [← HG0.out]
            have HK := Lib.hid (HK.out.later hb8)
            clear hb8 j0 j1 j2 j3 c0 c1 HCI
            go_wp2_with fail
            obtain ⟨x, af2, haf2, hp, hq⟩ := HO.out.2.2.put HGI.out HKI.out
            have HP := Lib.hid hp
            have HQT : Hid (Q2 = itemsT (ys ++ [x])) := Lib.hid (by rw [hq]; exact ot_catA HFI.out HO.out.1 HQ.out HQ2.out HG0.out)
            have HQL : Hid (Q2.length ≤ (i + 1) * 45) := Lib.hid (by
              have h1 := HO.out.2.1
              have h3 : Q2.length = (⟨Q2.toArray⟩ : ByteArray).size := (size_bytes _).symm
              have h4 : O.length = (⟨O.toArray⟩ : ByteArray).size := (size_bytes _).symm
              have h5 : ((⟨Q.toArray⟩ : ByteArray) ++ ⟨[32].toArray⟩).size = (⟨Q2.toArray⟩ : ByteArray).size := congrArg ByteArray.size cq2
              have h6 : ((⟨(O).toArray⟩ : ByteArray) ++ ⟨G0.toArray⟩).size = (⟨Q.toArray⟩ : ByteArray).size := congrArg ByteArray.size cq
              rw [ByteArray.size_append] at h5 h6
              have h7 := HAL.out
              omega)
            clear hp hq haf2
            go_roundg g
            case measure => omega
            case rel => exact ⟨i + 1, i + 1, ys ++ [x], Q2, by omega, rfl, by go_num, by go_num, Lib.hid ⟨HQT.out, HQL.out, HP.out⟩, HK⟩
      · have d1 : decide ((i : Int) + 1 < b.gs.length) = false := decide_eq_false (by omega)
        by_cases hfi : f < i
        · have e8 : decide ((f : Int) < (i : Int)) = true := decide_eq_true (by omega)
          obtain ⟨xx, af, haf, -, hqq⟩ := HO.out.2.2.put HGI.out HKI.out
          rw [if_pos hfi] at hqq
          have hfL : (f : Int) < b.gs.length := by have := (List.getElem?_eq_some_iff.1 haf).1; omega
          have HAF := Lib.hid haf
          have HKF := Lib.hid (HE.out.gs af (List.mem_of_getElem? haf))
          have HQQ := Lib.hid hqq
          have HFI := Lib.hid hfi
          clear haf hqq hfi
          have z45 : (⟨[45].toArray⟩ : ByteArray).size ≤ 1 := by decide
          have zsg : (⟨(sigT af.round af.letter).toArray⟩ : ByteArray).size ≤ 5 := by rw [size_bytes]; exact sigT_len _ _
          obtain ⟨P1, hP1⟩ : ∃ Z, Z = O ++ sigT af.round af.letter := ⟨_, rfl⟩
          have c1x : ((⟨(O).toArray⟩ : ByteArray) ++ ⟨(sigT af.round af.letter).toArray⟩) = ⟨(P1).toArray⟩ := by rw [hP1]; exact cat_bytes _ _
          have l1x : (⟨(P1).toArray⟩ : ByteArray).size ≤ 1360 := by rw [← c1x, ByteArray.size_append]; omega
          have HP1 := Lib.hid hP1
          clear hP1
          obtain ⟨P2, hP2⟩ : ∃ Z, Z = P1 ++ [45] := ⟨_, rfl⟩
          have c2x : ((⟨(P1).toArray⟩ : ByteArray) ++ ⟨([45]).toArray⟩) = ⟨(P2).toArray⟩ := by rw [hP2]; exact cat_bytes _ _
          have l2x : (⟨(P2).toArray⟩ : ByteArray).size ≤ 1361 := by rw [← c2x, ByteArray.size_append]; omega
          have HP2 := Lib.hid hP2
          clear hP2
          have HAL : Hid ((⟨P2.toArray⟩ : ByteArray).size ≤ (⟨O.toArray⟩ : ByteArray).size + 6) := Lib.hid (by rw [← c2x, ← c1x]; simp only [ByteArray.size_append]; omega)
          obtain ⟨bf, offf, ef, -, cf, ccf, -, k0, k1, k2, k3⟩ := HK.out.gth HAF.out
          cases ef
          have c0 := blk_cell HK.out.box 0; have c1 := blk_cell HK.out.box 1
          go_wp2_with fail
          refine (refWritten_any _ _ HKF.out.sig _).mono ?_
          rintro e w7 ⟨rfl, hb7⟩
          have HK := Lib.hid (HK.out.later hb7)
          clear hb7 k0 k1 k2 k3 c0 c1
          obtain ⟨G0, hG0⟩ : ∃ G0, G0 = itmT (itm1 gi) := ⟨_, rfl⟩
          have zG : (⟨G0.toArray⟩ : ByteArray).size ≤ 33 := by rw [size_bytes, hG0]; exact itm1_len HKI.out
          have HG0 := Lib.hid hG0
          clear hG0
          have z32 : (⟨[32].toArray⟩ : ByteArray).size ≤ 1 := by decide
          obtain ⟨Q, hQ⟩ : ∃ Z, Z = P2 ++ G0 := ⟨_, rfl⟩
          have cq : ((⟨(P2).toArray⟩ : ByteArray) ++ ⟨(G0).toArray⟩) = ⟨(Q).toArray⟩ := by rw [hQ]; exact cat_bytes _ _
          have lq : (⟨(Q).toArray⟩ : ByteArray).size ≤ 1400 := by rw [← cq, ByteArray.size_append]; omega
          have HQ := Lib.hid hQ
          clear hQ
          obtain ⟨Q2, hQ2⟩ : ∃ Z, Z = Q ++ [32] := ⟨_, rfl⟩
          have cq2 : ((⟨(Q).toArray⟩ : ByteArray) ++ ⟨([32]).toArray⟩) = ⟨(Q2).toArray⟩ := by rw [hQ2]; exact cat_bytes _ _
          have lq2 : (⟨(Q2).toArray⟩ : ByteArray).size ≤ 1401 := by rw [← cq2, ByteArray.size_append]; omega
          have HQ2 := Lib.hid hQ2
          clear hQ2
          obtain ⟨bi2, offi2, ei2, -, ci, cci, hci, j0, j1, j2, j3⟩ := HK.out.gth HGI.out
          cases ei2
          have HCI := Lib.hid hci
          clear hci
          have c0 := blk_cell HK.out.box 0; have c1 := blk_cell HK.out.box 1
          go_wp2_with fail
          refine (one_any gi ci cci _ HCI.out HKI.out).mono ?_
          rintro e w8 ⟨rfl, hb8⟩
          rw [← HG0.out]
          have HK := Lib.hid (HK.out.later hb8)
          clear hb8 j0 j1 j2 j3 c0 c1 HCI
          go_wp2_with fail
          obtain ⟨x, af2, haf2, hp, hq⟩ := HO.out.2.2.put HGI.out HKI.out
          have HP := Lib.hid hp
          have HQT : Hid (Q2 = itemsT (ys ++ [x])) := Lib.hid (by rw [hq]; exact ot_catB HFI.out HO.out.1 HP1.out HP2.out HQ.out HQ2.out HG0.out (Option.some.inj (haf2.symm.trans HAF.out)))
          have HQL : Hid (Q2.length ≤ (i + 1) * 45) := Lib.hid (by
            have h1 := HO.out.2.1
            have h3 : Q2.length = (⟨Q2.toArray⟩ : ByteArray).size := (size_bytes _).symm
            have h4 : O.length = (⟨O.toArray⟩ : ByteArray).size := (size_bytes _).symm
            have h5 : ((⟨Q.toArray⟩ : ByteArray) ++ ⟨[32].toArray⟩).size = (⟨Q2.toArray⟩ : ByteArray).size := congrArg ByteArray.size cq2
            have h6 : ((⟨(P2).toArray⟩ : ByteArray) ++ ⟨G0.toArray⟩).size = (⟨Q.toArray⟩ : ByteArray).size := congrArg ByteArray.size cq
            rw [ByteArray.size_append] at h5 h6
            have h7 := HAL.out
            omega)
          clear hp hq haf2
          go_roundg g
          case measure => omega
          case rel => exact ⟨i + 1, i + 1, ys ++ [x], Q2, by omega, rfl, by go_num, by go_num, Lib.hid ⟨HQT.out, HQL.out, HP.out⟩, HK⟩
        · have e8 : decide ((f : Int) < (i : Int)) = false := decide_eq_false (by omega)
          have HFI := Lib.hid hfi
          have HAL : Hid ((⟨O.toArray⟩ : ByteArray).size ≤ (⟨O.toArray⟩ : ByteArray).size + 6) := Lib.hid (by omega)
          clear hfi
          obtain ⟨G0, hG0⟩ : ∃ G0, G0 = itmT (itm1 gi) := ⟨_, rfl⟩
          have zG : (⟨G0.toArray⟩ : ByteArray).size ≤ 33 := by rw [size_bytes, hG0]; exact itm1_len HKI.out
          have HG0 := Lib.hid hG0
          clear hG0
          have z32 : (⟨[32].toArray⟩ : ByteArray).size ≤ 1 := by decide
          obtain ⟨Q, hQ⟩ : ∃ Z, Z = O ++ G0 := ⟨_, rfl⟩
          have cq : ((⟨(O).toArray⟩ : ByteArray) ++ ⟨(G0).toArray⟩) = ⟨(Q).toArray⟩ := by rw [hQ]; exact cat_bytes _ _
          have lq : (⟨(Q).toArray⟩ : ByteArray).size ≤ 1400 := by rw [← cq, ByteArray.size_append]; omega
          have HQ := Lib.hid hQ
          clear hQ
          obtain ⟨Q2, hQ2⟩ : ∃ Z, Z = Q ++ [32] := ⟨_, rfl⟩
          have cq2 : ((⟨(Q).toArray⟩ : ByteArray) ++ ⟨([32]).toArray⟩) = ⟨(Q2).toArray⟩ := by rw [hQ2]; exact cat_bytes _ _
          have lq2 : (⟨(Q2).toArray⟩ : ByteArray).size ≤ 1401 := by rw [← cq2, ByteArray.size_append]; omega
          have HQ2 := Lib.hid hQ2
          clear hQ2
          obtain ⟨bi2, offi2, ei2, -, ci, cci, hci, j0, j1, j2, j3⟩ := HK.out.gth HGI.out
          cases ei2
          have HCI := Lib.hid hci
          clear hci
          have c0 := blk_cell HK.out.box 0; have c1 := blk_cell HK.out.box 1
          go_wp2_with fail
          refine (one_any gi ci cci _ HCI.out HKI.out).mono ?_
          rintro e w8 ⟨rfl, hb8⟩
          rw [← HG0.out]
          have HK := Lib.hid (HK.out.later hb8)
          clear hb8 j0 j1 j2 j3 c0 c1 HCI
          go_wp2_with fail
          obtain ⟨x, af2, haf2, hp, hq⟩ := HO.out.2.2.put HGI.out HKI.out
          have HP := Lib.hid hp
          have HQT : Hid (Q2 = itemsT (ys ++ [x])) := Lib.hid (by rw [hq]; exact ot_catA HFI.out HO.out.1 HQ.out HQ2.out HG0.out)
          have HQL : Hid (Q2.length ≤ (i + 1) * 45) := Lib.hid (by
            have h1 := HO.out.2.1
            have h3 : Q2.length = (⟨Q2.toArray⟩ : ByteArray).size := (size_bytes _).symm
            have h4 : O.length = (⟨O.toArray⟩ : ByteArray).size := (size_bytes _).symm
            have h5 : ((⟨Q.toArray⟩ : ByteArray) ++ ⟨[32].toArray⟩).size = (⟨Q2.toArray⟩ : ByteArray).size := congrArg ByteArray.size cq2
            have h6 : ((⟨(O).toArray⟩ : ByteArray) ++ ⟨G0.toArray⟩).size = (⟨Q.toArray⟩ : ByteArray).size := congrArg ByteArray.size cq
            rw [ByteArray.size_append] at h5 h6
            have h7 := HAL.out
            omega)
          clear hp hq haf2
          go_roundg g
          case measure => omega
          case rel => exact ⟨i + 1, i + 1, ys ++ [x], Q2, by omega, rfl, by go_num, by go_num, Lib.hid ⟨HQT.out, HQL.out, HP.out⟩, HK⟩
    | zero =>
      have hiN : i = b.gs.length := by omega
      have d0 : decide ((i : Int) < b.gs.length) = false := decide_eq_false (by omega)
      have hoth := HO.out.2.2
      rw [hiN] at hoth
      have HV : Hid (O = itemsT ys) := Lib.hid HO.out.1
      have HOT := Lib.hid hoth
      have z36 : (⟨[36].toArray⟩ : ByteArray).size ≤ 1 := by decide
      have zsd : (⟨(dec b.signed).toArray⟩ : ByteArray).size ≤ 2 := by rw [size_bytes]; exact dec_len _
      obtain ⟨P1, hP1⟩ : ∃ Z, Z = O ++ [36] := ⟨_, rfl⟩
      have c1x : ((⟨(O).toArray⟩ : ByteArray) ++ ⟨([36]).toArray⟩) = ⟨(P1).toArray⟩ := by rw [hP1]; exact cat_bytes _ _
      have l1x : (⟨(P1).toArray⟩ : ByteArray).size ≤ 1360 := by rw [← c1x, ByteArray.size_append]; omega
      have HP1 := Lib.hid hP1
      clear hP1
      obtain ⟨P2, hP2⟩ : ∃ Z, Z = P1 ++ dec b.signed := ⟨_, rfl⟩
      have c2x : ((⟨(P1).toArray⟩ : ByteArray) ++ ⟨(dec b.signed).toArray⟩) = ⟨(P2).toArray⟩ := by rw [hP2]; exact cat_bytes _ _
      have l2x : (⟨(P2).toArray⟩ : ByteArray).size ≤ 1362 := by rw [← c2x, ByteArray.size_append]; omega
      have HP2 := Lib.hid hP2
      clear hP2
      clear hiN hoth
      have c0 := blk_cell HK.out.box 0; have c1 := blk_cell HK.out.box 1
      go_wp2_with fail
      refine (refDig_any b.signed hsg.1 (by omega) _).mono ?_
      rintro e w7 ⟨rfl, hb7⟩
      have HK := Lib.hid (HK.out.later hb7)
      clear hb7 c0 c1
      go_wp2_with fail
      go_ret
      exact ⟨⟨f, ys, HOT.out, by rw [← HV.out]; exact hOl, by rw [HP2.out, HP1.out, HV.out]; simp⟩, HK.out.below⟩
end Go.Proofs.YtimdmgkegdlafaaGreatDoor
