/- The parts Cv of the proof, joined. It holds without conditions of its own. -/
import Derived.Test.YtimdmgkegdlafaaGreatDoorCH26
import Derived.Test.YtimdmgkegdlafaaGreatDoorCH39
/- The reference's Signed and Decimal. -/
namespace Go.Proofs.YtimdmgkegdlafaaGreatDoor
set_option linter.unusedSimpArgs false
set_option linter.unusedVariables false
open Go Go.RowKit Go.Sort Go.BigFrame Go.Shelf

theorem isDig_in (c : UInt8) : isDig c = inB 48 57 c.toNat := by
  unfold isDig inB
  congr 1 <;> (apply decide_eq_decide.2; omega)
theorem bytes_no {s t : List UInt8} (h : s ≠ t) : ¬ (⟨s.toArray⟩ : ByteArray) = ⟨t.toArray⟩ := fun e => h (by
  have := congrArg ByteArray.data e
  simpa using this)

set_option maxRecDepth 100000 in
set_option maxHeartbeats 1000000 in
theorem refDigitsNeg_any (n : Nat) (h0 : 0 < n) (hn : n < 10 ^ 10) (w : World) :
    Calls Tryz.prog 16 #[.int .i64 (-(n : Int))] w fun e w' => e = .returned (S (45 :: digN n)) ∧ Below w.heap.size w w' := by
  have hn0 : (decide (-(n : Int) < 0)) = true := decide_eq_true (by omega)
  have hn1 : IntKind.i64.wrap (-(-(n : Int))) = (n : Int) := by rw [IntWalk.i64_in _ (by omega)]; omega
  have hn2 : IntKind.i64.wrap (n : Int) = (n : Int) := IntWalk.i64_in _ (by omega)
  have HN := Lib.hid hn
  clear hn
  go_enter Tryz.func16, Tryz.ntmps16
  go_wp2_with fail
  have HB0 := Lib.hid (Below.refl w.heap.size w)
  go_loopw [0, 4] (fun q o wr => ∃ (m : Nat) (t : Bs) (k : Nat), q = .int .i64 m ∧ o = S t ∧ Hid (digN n = digN m ++ t ∧ m < 10 ^ k ∧ t.length + k ≤ 10 ∧ Below w.heap.size w wr)) (fun q _ _ => (intOf q).toNat)
  case atStart => exact ⟨n, [], 10, rfl, rfl, by simp, HN.out, by simp, Below.refl _ _⟩
  case round =>
    clear hn0 hn1 hn2
    obtain ⟨m, t, k, rfl, rfl, hT⟩ := hrel
    obtain ⟨h1, h2, h3, h4⟩ := hT.out
    clear HB0 hT
    have HB := Lib.hid h4
    clear h4
    by_cases hm : m < 10
    · have hd : decide ((9 : Int) < (m : Int)) = false := decide_eq_false (by omega)
      have e1 : IntKind.i64.wrap (48 + (m : Int)) = 48 + (m : Int) := IntWalk.i64_in _ (by omega)
      have HF := Lib.hid h1
      clear h1 h2
      have cv := conv_one wr (48 + m) (48 + (m : Int)) (by simp) (by omega)
      have z1 : (⟨t.toArray⟩ : ByteArray).size ≤ 10 := by rw [size_bytes]; omega
      go_wp2_with fail
      go_ret
      refine ⟨ret_S (l := 45 :: digN n) ?_, HB.out.alloc HB.out.size _⟩
      rw [HF.out, digN_small hm]
      apply ByteArray.ext
      simp
    · have hd : decide ((9 : Int) < (m : Int)) = true := decide_eq_true (by omega)
      have HF := Lib.hid h1
      have HM := Lib.hid h2
      clear h1 h2
      have cv := conv_one wr (48 + m % 10) (48 + (m : Int) % 10) (by omega) (by omega)
      have z1 : (⟨t.toArray⟩ : ByteArray).size ≤ 10 := by rw [size_bytes]; omega
      have e2 : IntKind.i64.wrap ((m : Int) / 10) = ((m / 10 : Nat) : Int) := by
        have := Nat.lt_of_lt_of_le HM.out (Nat.pow_le_pow_right (show 0 < 10 by decide) (show k ≤ 10 by omega))
        rw [IntWalk.i64_in _ (by omega)]
        omega
      go_wp2_with fail
      go_roundw
      case rel =>
        obtain ⟨j, rfl⟩ : ∃ j, k = j + 1 := ⟨k - 1, by
          rcases k with _ | k
          · have := HM.out; simp at this; omega
          · omega⟩
        refine ⟨m / 10, UInt8.ofNat (48 + m % 10) :: t, j, by first | rfl | rw [e2] | go_num, ?_, Lib.hid ⟨?_, ?_, ?_, HB.out.alloc HB.out.size _⟩⟩
        · refine congrArg Value.string ?_
          apply ByteArray.ext
          simp
        · rw [HF.out, digN_big hm]
          simp
        · have := HM.out
          rw [Nat.pow_succ] at this
          omega
        · simp; omega
      case measure => simp [intOf]; omega

/-- What Signed may say of a string. -/
def SgOk (s : Bs) (D : Int) : Prop := if s.head? = some 45 then D < 0 ∨ D = 2000000000 else D = if 0 ≤ decF s then decF s else 2000000000
theorem sg_neg {s : Bs} {D : Int} (h : s.head? = some 45) (hd : D < 0 ∨ D = 2000000000) : SgOk s D := by unfold SgOk; rw [if_pos h]; exact hd
theorem sg_no {s : Bs} (h : decF s < 0) : SgOk s 2000000000 := by
  unfold SgOk
  split
  · exact Or.inr rfl
  · rw [if_neg (by omega)]
theorem sg_yes {s : Bs} {n : Nat} (h : s.head? ≠ some 45) (hs : s = digN n) (hl : s.length ≤ 9) : SgOk s n := by
  have e : decF s = n := by rw [hs]; exact decF_digN (by rw [← hs]; exact hl)
  unfold SgOk
  rw [if_neg h, e, if_pos (by omega)]
theorem decF_no {s : Bs} (h : s.all isDig = true → False) : decF s < 0 := by
  unfold decF
  rw [if_neg (fun h2 => h h2.2.1)]
  omega
theorem decF_long {s : Bs} (h : 9 < s.length) : decF s < 0 := by
  unfold decF
  rw [if_neg (fun h2 => by omega)]
  omega
theorem decF_other {s : Bs} (h : digN (valN s) ≠ s) : decF s < 0 := by
  unfold decF
  rw [if_neg (fun h2 => h h2.2.2)]
  omega

set_option maxRecDepth 100000 in
set_option maxHeartbeats 1600000 in
theorem refSigned_any (s : Bs) (w : World) (hs : s.length ≤ 1048576) :
    Calls Tryz.prog 66 #[S s] w fun e w' => (∃ D, e = .returned (.int .i64 D) ∧ SgOk s D) ∧ Below w.heap.size w w' := by
  have hzs : (⟨s.toArray⟩ : ByteArray).size = s.length := size_bytes s
  obtain ⟨n, hn⟩ : ∃ n, n = s.length := ⟨_, rfl⟩
  rw [← hn] at hs hzs
  have HN := Lib.hid hn
  clear hn
  cases hh : s with
  | nil =>
    subst hh
    have HNO : Hid (SgOk [] 2000000000) := Lib.hid (sg_no (by decide +kernel))
    obtain rfl : n = 0 := HN.out
    go_enter Tryz.func66, Tryz.ntmps66
    go_wp2_with fail
    go_ret
    exact ⟨⟨_, rfl, HNO.out⟩, Below.refl _ _⟩
  | cons y t =>
    rw [← hh]
    have hn1 : 0 < n := by rw [HN.out, hh]; simp
    have hb0 : ∀ h : 0 < (⟨s.toArray⟩ : ByteArray).size, (⟨s.toArray⟩ : ByteArray)[0]'h = y := fun h => by
      subst hh
      rfl
    have hhd : s.head? = some y := by rw [hh]; rfl
    have HT : Hid (s.drop 1 = t) := Lib.hid (by rw [hh]; rfl)
    have HHD := Lib.hid hhd
    have HSS := Lib.hid hh
    clear hh hhd
    have g0 : decide ((0 : Int) < (n : Int)) = true := decide_eq_true (by omega)
    by_cases hy : y = 45
    · subst hy
      have HNO : Hid (SgOk s 2000000000) := Lib.hid (sg_neg HHD.out (Or.inr rfl))
      by_cases h1 : n = 1
      · subst h1
        go_enter Tryz.func66, Tryz.ntmps66
        go_wp2_with fail
        go_ret
        exact ⟨⟨_, rfl, HNO.out⟩, Below.refl _ _⟩
      · have g1 : ((n : Int) == 1) = false := by simp; omega
        by_cases h2 : 10 < n
        · have g2 : decide ((10 : Int) < (n : Int)) = true := decide_eq_true (by omega)
          go_enter Tryz.func66, Tryz.ntmps66
          go_wp2_with fail
          go_ret
          exact ⟨⟨_, rfl, HNO.out⟩, Below.refl _ _⟩
        · have g2 : decide ((10 : Int) < (n : Int)) = false := decide_eq_false (by omega)
          go_enter Tryz.func66, Tryz.ntmps66
          go_wp2_with fail
          clear g0 g1 g2 hb0
          go_loopw [3, 5] (fun a i wr => ∃ (j v : Nat), 1 ≤ j ∧ j ≤ n ∧ a = .int .i64 v ∧ i = .int .i64 j ∧ Hid (v = valN ((s.take j).drop 1) ∧ ((s.take j).drop 1).all isDig = true) ∧ wr = w) (fun _ i _ => n - (intOf i).toNat)
          case atStart => exact ⟨1, 0, by omega, by omega, rfl, rfl, Lib.hid (by rw [HSS.out]; exact ⟨rfl, rfl⟩), rfl⟩
          case round =>
            obtain ⟨j, v, hj0, hj, rfl, rfl, hT, rfl⟩ := hrel
            obtain ⟨hv, had⟩ := hT.out
            have hvl := valN_lt _ had
            rw [List.length_drop, List.length_take, Nat.min_eq_left (by have := HN.out; omega), ← hv] at hvl
            have hv9 : v < 1000000000 := Nat.lt_of_lt_of_le hvl (Nat.le_trans (Nat.pow_le_pow_right (by decide) (show j - 1 ≤ 9 by omega)) (by decide))
            have HVV := Lib.hid hv
            have HAD := Lib.hid had
            clear hv had hvl hT
            by_cases hlt : j < n
            · obtain ⟨x, hx⟩ : ∃ x, s[j]? = some x := ⟨_, List.getElem?_eq_getElem (by have := HN.out; omega)⟩
              have hb : ∀ h : j < (⟨s.toArray⟩ : ByteArray).size, (⟨s.toArray⟩ : ByteArray)[j]'h = x := fun h => by
                obtain ⟨hk, hc⟩ := List.getElem?_eq_some_iff.1 hx
                rw [← hc]; rfl
              have hc0 : (0 : Int) ≤ (x.toNat : Int) ∧ (x.toNat : Int) < 256 := by have := x.toNat_lt; omega
              have hst : (s.take (j + 1)).drop 1 = (s.take j).drop 1 ++ [x] := by
                rw [List.take_add_one, hx, List.drop_append_of_le_length (by rw [List.length_take]; have := HN.out; omega)]
                rfl
              have HST := Lib.hid hst
              have HX := Lib.hid hx
              clear hst hx
              go_wp2_with fail
              refine (refDigit_any x.toNat hc0.1 hc0.2 _).mono ?_
              rintro e w1 ⟨rfl, rfl⟩
              cases hd : inB 48 57 x.toNat with
              | false =>
                have hnd : (s.drop 1).all isDig = true → False := by
                  intro h
                  have h2 := (List.all_eq_true.1 h) x (List.mem_of_getElem? (show (s.drop 1)[j - 1]? = some x by rw [List.getElem?_drop, ← HX.out]; congr 1; omega))
                  rw [isDig_in, hd] at h2
                  cases h2
                have HNO : Hid (SgOk s 2000000000) := Lib.hid (HNO.out)
                clear hnd
                go_wp2_with fail
                go_ret
                exact ⟨⟨_, rfl, HNO.out⟩, Below.refl _ _⟩
              | true =>
                have hxd : 48 ≤ x.toNat ∧ x.toNat ≤ 57 := by
                  simp [inB] at hd
                  omega
                have w1 : IntKind.i64.wrap ((v : Int) * 10) = (v : Int) * 10 := IntWalk.i64_in _ (by omega)
                have w2 : IntKind.i64.wrap ((v : Int) * 10 + (x.toNat : Int)) = (v : Int) * 10 + (x.toNat : Int) := IntWalk.i64_in _ (by omega)
                have w3 : IntKind.i64.wrap ((v : Int) * 10 + (x.toNat : Int) - 48) = (v : Int) * 10 + (x.toNat : Int) - 48 := IntWalk.i64_in _ (by omega)
                have HD := Lib.hid hd
                have HXD := Lib.hid hxd
                clear hd hxd
                go_wp2_with fail
                go_roundw
                case rel => exact ⟨j + 1, v * 10 + (x.toNat - 48), by omega, by omega, (by have := HXD.out; first | (congr 1; omega) | (simp; omega) | go_num), by go_num, Lib.hid ⟨by rw [HST.out, valN_snoc, ← HVV.out], by rw [HST.out, List.all_append, HAD.out]; simp [isDig_in, HD.out]⟩, trivial⟩
                case measure => simp [intOf]; omega
            · have hjn : j = n := by omega
              have hfull : (s.take j).drop 1 = s.drop 1 := by rw [List.take_of_length_le (by have := HN.out; omega)]
              rw [hfull] at HVV HAD
              subst hjn
              clear hfull hlt hj
              cases v with
              | zero =>
                go_wp2_with fail
                refine (refDigits_any 0 (by decide) _).mono ?_
                rintro e w1 ⟨rfl, hb1⟩
                have HB1 := Lib.hid hb1
                have hne : digN 0 ≠ s := by
                  rw [HSS.out, digN_small (by decide)]
                  intro h
                  exact absurd (List.cons.inj h).1 (by decide)
                have eb := bytes_no hne
                have eb2 : (digN 0 == s) = false := by simp [hne]
                clear hb1 hne
                go_wp2_with fail
                go_ret
                exact ⟨⟨_, rfl, HNO.out⟩, HB1.out⟩
              | succ v =>
                have wn : IntKind.i64.wrap (-((v + 1 : Nat) : Int)) = -((v + 1 : Nat) : Int) := IntWalk.i64_in _ (by omega)
                go_wp2_with fail
                refine (refDigitsNeg_any (v + 1) (by omega) (by omega) _).mono ?_
                rintro e w1 ⟨rfl, hb1⟩
                have HB1 := Lib.hid hb1
                clear hb1 wn
                obtain ⟨dd, hdd⟩ : ∃ dd, dd = 45 :: digN (v + 1) := ⟨_, rfl⟩
                rw [← hdd]
                clear hdd
                by_cases e : dd = s
                · subst e
                  have HY : Hid (SgOk dd (-((v + 1 : Nat) : Int))) := Lib.hid (sg_neg HHD.out (Or.inl (by omega)))
                  go_wp2_with fail
                  go_ret
                  exact ⟨⟨_, rfl, HY.out⟩, HB1.out⟩
                · have eb := bytes_no e
                  have eb2 : (dd == s) = false := by simp [e]
                  clear e
                  go_wp2_with fail
                  go_ret
                  exact ⟨⟨_, rfl, HNO.out⟩, HB1.out⟩
    · have hy2 : ((y.toNat : Int) == 45) = false := by
        rw [beq_eq_false_iff_ne]
        intro h
        exact hy (UInt8.toNat_inj.1 (by show y.toNat = 45; omega))
      have hhy : s.head? ≠ some 45 := by rw [HHD.out]; simpa using hy
      have HHY := Lib.hid hhy
      have g1 : ((n : Int) == 0) = false := by simp; omega
      clear hhy hy
      by_cases h2 : 9 < n
      · have HNO : Hid (SgOk s 2000000000) := Lib.hid (sg_no (decF_long (by have := HN.out; omega)))
        have g2 : decide ((9 : Int) < (n : Int)) = true := decide_eq_true (by omega)
        go_enter Tryz.func66, Tryz.ntmps66
        go_wp2_with fail
        go_ret
        exact ⟨⟨_, rfl, HNO.out⟩, Below.refl _ _⟩
      · have g2 : decide ((9 : Int) < (n : Int)) = false := decide_eq_false (by omega)
        go_enter Tryz.func66, Tryz.ntmps66
        go_wp2_with fail
        clear g0 g1 g2 hb0 hy2
        go_loopw [3, 5] (fun a i wr => ∃ (j v : Nat), 0 ≤ j ∧ j ≤ n ∧ a = .int .i64 v ∧ i = .int .i64 j ∧ Hid (v = valN ((s.take j).drop 0) ∧ ((s.take j).drop 0).all isDig = true) ∧ wr = w) (fun _ i _ => n - (intOf i).toNat)
        case atStart => exact ⟨0, 0, by omega, by omega, rfl, rfl, Lib.hid ⟨rfl, rfl⟩, rfl⟩
        case round =>
          obtain ⟨j, v, hj0, hj, rfl, rfl, hT, rfl⟩ := hrel
          obtain ⟨hv, had⟩ := hT.out
          have hvl := valN_lt _ had
          rw [List.length_drop, List.length_take, Nat.min_eq_left (by have := HN.out; omega), ← hv] at hvl
          have hv9 : v < 1000000000 := Nat.lt_of_lt_of_le hvl (Nat.le_trans (Nat.pow_le_pow_right (by decide) (show j - 0 ≤ 9 by omega)) (by decide))
          have HVV := Lib.hid hv
          have HAD := Lib.hid had
          clear hv had hvl hT
          by_cases hlt : j < n
          · obtain ⟨x, hx⟩ : ∃ x, s[j]? = some x := ⟨_, List.getElem?_eq_getElem (by have := HN.out; omega)⟩
            have hb : ∀ h : j < (⟨s.toArray⟩ : ByteArray).size, (⟨s.toArray⟩ : ByteArray)[j]'h = x := fun h => by
              obtain ⟨hk, hc⟩ := List.getElem?_eq_some_iff.1 hx
              rw [← hc]; rfl
            have hc0 : (0 : Int) ≤ (x.toNat : Int) ∧ (x.toNat : Int) < 256 := by have := x.toNat_lt; omega
            have hst : (s.take (j + 1)).drop 0 = (s.take j).drop 0 ++ [x] := by
              rw [List.take_add_one, hx, List.drop_append_of_le_length (by rw [List.length_take]; have := HN.out; omega)]
              rfl
            have HST := Lib.hid hst
            have HX := Lib.hid hx
            clear hst hx
            go_wp2_with fail
            refine (refDigit_any x.toNat hc0.1 hc0.2 _).mono ?_
            rintro e w1 ⟨rfl, rfl⟩
            cases hd : inB 48 57 x.toNat with
            | false =>
              have hnd : (s.drop 0).all isDig = true → False := by
                intro h
                have h2 := (List.all_eq_true.1 h) x (List.mem_of_getElem? (show (s.drop 0)[j - 0]? = some x by rw [List.getElem?_drop, ← HX.out]; congr 1; omega))
                rw [isDig_in, hd] at h2
                cases h2
              have HNO : Hid (SgOk s 2000000000) := Lib.hid ((sg_no (decF_no hnd)))
              clear hnd
              go_wp2_with fail
              go_ret
              exact ⟨⟨_, rfl, HNO.out⟩, Below.refl _ _⟩
            | true =>
              have hxd : 48 ≤ x.toNat ∧ x.toNat ≤ 57 := by
                simp [inB] at hd
                omega
              have w1 : IntKind.i64.wrap ((v : Int) * 10) = (v : Int) * 10 := IntWalk.i64_in _ (by omega)
              have w2 : IntKind.i64.wrap ((v : Int) * 10 + (x.toNat : Int)) = (v : Int) * 10 + (x.toNat : Int) := IntWalk.i64_in _ (by omega)
              have w3 : IntKind.i64.wrap ((v : Int) * 10 + (x.toNat : Int) - 48) = (v : Int) * 10 + (x.toNat : Int) - 48 := IntWalk.i64_in _ (by omega)
              have HD := Lib.hid hd
              have HXD := Lib.hid hxd
              clear hd hxd
              go_wp2_with fail
              go_roundw
              case rel => exact ⟨j + 1, v * 10 + (x.toNat - 48), by omega, by omega, (by have := HXD.out; first | (congr 1; omega) | (simp; omega) | go_num), by go_num, Lib.hid ⟨by rw [HST.out, valN_snoc, ← HVV.out], by rw [HST.out, List.all_append, HAD.out]; simp [isDig_in, HD.out]⟩, trivial⟩
              case measure => simp [intOf]; omega
          · have hjn : j = n := by omega
            have hfull : (s.take j).drop 0 = s.drop 0 := by rw [List.take_of_length_le (by have := HN.out; omega)]
            rw [hfull] at HVV HAD
            subst hjn
            clear hfull hlt hj
            rw [List.drop_zero] at HVV HAD
            go_wp2_with fail
            refine (refDigits_any v (by omega) _).mono ?_
            rintro e w1 ⟨rfl, hb1⟩
            have HB1 := Lib.hid hb1
            clear hb1
            have hdv : digN v = digN (valN s) := by rw [← HVV.out]
            by_cases e : digN v = s
            · have HY : Hid (SgOk s v) := Lib.hid (sg_yes HHY.out e.symm (by have := HN.out; omega))
              rw [e]
              clear e hdv
              go_wp2_with fail
              go_ret
              exact ⟨⟨_, rfl, HY.out⟩, HB1.out⟩
            · have HNO : Hid (SgOk s 2000000000) := Lib.hid (sg_no (decF_other (by rw [← hdv]; exact e)))
              have eb := bytes_no e
              have eb2 : (digN v == s) = false := by simp [e]
              clear e hdv
              go_wp2_with fail
              go_ret
              exact ⟨⟨_, rfl, HNO.out⟩, HB1.out⟩

set_option maxRecDepth 100000 in
set_option maxHeartbeats 800000 in
theorem refDecimal_any (s : Bs) (w : World) (hs : s.length ≤ 1048576) :
    Calls Tryz.prog 31 #[S s] w fun e w' => e = .returned (.int .i64 (decF s)) ∧ Below w.heap.size w w' := by
  have HS := Lib.hid hs
  clear hs
  go_enter Tryz.func31, Tryz.ntmps31
  go_wp2_with fail
  refine (refSigned_any s _ HS.out).mono ?_
  rintro e w1 ⟨⟨D, rfl, hD⟩, hb1⟩
  have HB1 := Lib.hid hb1
  clear hb1
  have hcs : (D < 0 ∧ decF s = -1) ∨ (¬ D < 0 ∧ D = 2000000000 ∧ decF s = -1) ∨ (¬ D < 0 ∧ D ≠ 2000000000 ∧ decF s = D) := by
    unfold SgOk at hD
    have hge := decF_ge s
    split at hD
    · rename_i h45
      have hneg : decF s = -1 := by
        have : decF s < 0 := decF_no (fun h => by
          cases s with
          | nil => cases h45
          | cons y t =>
            simp only [List.head?_cons, Option.some.injEq] at h45
            subst h45
            simp [isDig] at h)
        omega
      rcases hD with h | h
      · exact Or.inl ⟨h, hneg⟩
      · exact Or.inr (Or.inl ⟨by omega, h, hneg⟩)
    · split at hD
      · rename_i h0
        have : decF s < 1000000000 := by
          unfold decF at h0 ⊢
          split
          · rename_i h1
            have := valN_lt s h1.2.1
            have := Nat.lt_of_lt_of_le this (Nat.le_trans (Nat.pow_le_pow_right (by decide) h1.1) (Nat.le_refl (10 ^ 9)))
            omega
          · omega
        exact Or.inr (Or.inr ⟨by omega, by omega, by omega⟩)
      · exact Or.inr (Or.inl ⟨by omega, hD, by omega⟩)
  clear hD
  rcases hcs with ⟨h1, h2⟩ | ⟨h1, h2, h3⟩ | ⟨h1, h2, h3⟩
  · have e1 : decide (D < 0) = true := decide_eq_true h1
    have HV := Lib.hid h2
    clear h1 h2
    go_wp2_with fail
    go_ret
    exact ⟨by rw [HV.out]; rfl, HB1.out⟩
  · subst h2
    have HV := Lib.hid h3
    clear h1 h3
    go_wp2_with fail
    go_ret
    exact ⟨by rw [HV.out]; rfl, HB1.out⟩
  · have e1 : decide (D < 0) = false := decide_eq_false h1
    have e2 : (D == 2000000000) = false := by simp [h2]
    have HV := Lib.hid h3
    clear h1 h2 h3
    go_wp2_with fail
    go_ret
    exact ⟨by rw [HV.out]; rfl, HB1.out⟩
end Go.Proofs.YtimdmgkegdlafaaGreatDoor
