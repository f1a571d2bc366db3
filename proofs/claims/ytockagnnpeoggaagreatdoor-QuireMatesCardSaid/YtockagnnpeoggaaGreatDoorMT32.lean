/- The parts Cp, Cb, Cg of the proof, joined. It holds without conditions of its own. -/
import Derived.Test.YtockagnnpeoggaaGreatDoorMT31
import Derived.Test.YtockagnnpeoggaaGreatDoorMT8
import Derived.Test.YtockagnnpeoggaaGreatDoorMT16
import Derived.Test.YtockagnnpeoggaaGreatDoorMT12
import Derived.Laws.IdiomStrings
/- The reference's Mate. -/
namespace Go.Proofs.YtockagnnpeoggaaGreatDoor
set_option linter.unusedSimpArgs false
set_option linter.unusedVariables false
open Go Go.RowKit Go.Sort Go.BigFrame Go.Shelf
attribute [local go_sem] Oper.semAt_some putAll

theorem mate_out {b : Bk} {n : Int} (h : inB 0 ((lvs b).length - 1) n = false) : mateF b n = none := by
  have e : getL (lvs b) n = none := by
    cases hx : getL (lvs b) n with
    | none => rfl
    | some x =>
      unfold getL at hx
      split at hx
      · cases hx
      · have := (List.getElem?_eq_some_iff.1 hx).1
        simp [inB] at h
        omega
  unfold mateF
  rw [e]
theorem mate_in {b : Bk} {n : Int} (h : inB 0 ((lvs b).length - 1) n = true) : ∃ (i : Nat) (x : Lf), n = i ∧ (lvs b)[i]? = some x := by
  simp [inB] at h
  exact ⟨n.toNat, _, by omega, List.getElem?_eq_getElem (by omega)⟩

set_option maxRecDepth 100000 in
set_option maxHeartbeats 400000 in
theorem refMate_bad (b : Bk) (v : Value) (n : Int) (w : World) (hb : BookAt w.heap.size w v b) (he : errF b ≠ 0) :
    Calls Tryz.prog 10 #[v, .int .i64 n] w fun e w' => e = .returned (.tuple #[.int .i64 0, .int .i64 (errF b)]) ∧ Below w.heap.size w w' := by
  obtain ⟨sv, rfl, hgs⟩ := hb
  have hb : BookAt w.heap.size w (.agg #[.int .i64 b.signed, sv]) b := ⟨sv, rfl, hgs⟩
  obtain ⟨a, cap, rfl, -⟩ := hgs
  have HK := Lib.hid (BkBox.start hb)
  clear hb
  have hne : (errF b != 0) = true := by simp [he]
  have HE := Lib.hid he
  clear he
  have c0 := blk_cell HK.out.box 0; have c1 := blk_cell HK.out.box 1
  go_enter Tryz.func10, Tryz.ntmps10
  go_wp2_with fail
  refine (refLeaves_bad b _ _ HK.out.book HE.out).mono ?_
  rintro e w1 ⟨rfl, hb1⟩
  have HK := Lib.hid (HK.out.later hb1)
  clear hb1 c0 c1
  go_wp2_with fail
  go_ret2
  exact ⟨rfl, HK.out.below⟩

set_option maxRecDepth 100000 in
set_option maxHeartbeats 800000 in
theorem refMate_good (b : Bk) (v : Value) (n : Int) (w : World) (hb : BookAt w.heap.size w v b) (he : errF b = 0) :
    Calls Tryz.prog 10 #[v, .int .i64 n] w fun e w' => e = .returned (mateR (mateF b n)) ∧ Below w.heap.size w w' := by
  obtain ⟨sv, rfl, hgs⟩ := hb
  have hb : BookAt w.heap.size w (.agg #[.int .i64 b.signed, sv]) b := ⟨sv, rfl, hgs⟩
  obtain ⟨a, cap, rfl, -⟩ := hgs
  have HK := Lib.hid (BkBox.start hb)
  clear hb
  have hfew := lvs_few (errF_zero he)
  have HE := Lib.hid he
  obtain ⟨N, hN⟩ : ∃ N, N = (lvs b).length := ⟨_, rfl⟩
  have HN := Lib.hid hN
  rw [← hN] at hfew
  clear he hN
  have c0 := blk_cell HK.out.box 0; have c1 := blk_cell HK.out.box 1
  go_enter Tryz.func10, Tryz.ntmps10
  go_wp2_with fail
  refine (refLeaves_good b _ _ HK.out.book HE.out).mono ?_
  rintro e w1 ⟨⟨v', rfl, hL⟩, hb1⟩
  have HK := Lib.hid (HK.out.later hb1)
  clear hb1 c0 c1
  obtain ⟨la, lcap, rfl, -⟩ := hL
  rw [← HN.out]
  have c0 := blk_cell HK.out.box 0; have c1 := blk_cell HK.out.box 1
  have hw1 : wrap64 ((N : Int) - 1) = (N : Int) - 1 := by unfold wrap64; omega
  go_wp2_with fail
  refine (refIn_any n 0 ((N : Int) - 1) _).mono ?_
  rintro e w2 ⟨rfl, hb2⟩
  have HK := Lib.hid (HK.out.later (hb2.mono (Nat.le_refl _)))
  clear hb2 c0 c1
  have c0 := blk_cell HK.out.box 0; have c1 := blk_cell HK.out.box 1
  cases hi : inB 0 ((N : Int) - 1) n with
  | false =>
    have HM : Hid (mateF b n = none) := Lib.hid (mate_out (by rw [← HN.out]; exact hi))
    clear hi
    go_wp2_with fail
    go_ret2
    exact ⟨by rw [HM.out]; rfl, HK.out.below⟩
  | true =>
    obtain ⟨i, x, rfl, hx⟩ := mate_in (b := b) (n := n) (by rw [← HN.out]; exact hi)
    have HX := Lib.hid hx
    clear hi hx
    go_wp2_with fail
    refine (refPair_any b _ i x _ HK.out.book HE.out HX.out).mono ?_
    rintro e w3 ⟨rfl, hb3⟩
    have HK := Lib.hid (HK.out.later hb3)
    clear hb3 c0 c1
    have c0 := blk_cell HK.out.box 0; have c1 := blk_cell HK.out.box 1
    cases hm : mateF b i with
    | none =>
      have hp : pairF b i = -1 := by unfold pairF; rw [hm]
      rw [hp]
      have HM := Lib.hid hm
      clear hp hm
      go_wp2_with fail
      go_ret2
      exact ⟨by rw [HM.out]; rfl, HK.out.below⟩
    | some k =>
      have hp : pairF b i = k := by unfold pairF; rw [hm]
      rw [hp]
      have e0 : decide ((k : Int) < 0) = false := decide_eq_false (by omega)
      have HP := Lib.hid hp
      have HM := Lib.hid hm
      clear hp hm
      go_wp2_with fail
      refine (refPair_any b _ i x _ HK.out.book HE.out HX.out).mono ?_
      rintro e w4 ⟨rfl, hb4⟩
      have HK := Lib.hid (HK.out.later hb4)
      rw [HP.out]
      clear hb4 c0 c1
      go_wp2_with fail
      go_ret2
      exact ⟨by rw [HM.out]; rfl, HK.out.below⟩
end Go.Proofs.YtockagnnpeoggaaGreatDoor

/- The reference: how a number and a signature are written; the signature behind another one; Sig, Next. -/
namespace Go.Proofs.YtockagnnpeoggaaGreatDoor
set_option linter.unusedSimpArgs false
set_option linter.unusedVariables false
open Go Go.RowKit Go.Sort Go.BigFrame

/-- The digits of a number. -/
def digN (n : Nat) : Bs := if n < 10 then [UInt8.ofNat (48 + n)] else digN (n / 10) ++ [UInt8.ofNat (48 + n % 10)]
theorem digN_small {n : Nat} (h : n < 10) : digN n = [UInt8.ofNat (48 + n)] := by rw [digN, if_pos h]
theorem digN_big {n : Nat} (h : ¬ n < 10) : digN n = digN (n / 10) ++ [UInt8.ofNat (48 + n % 10)] := by rw [digN, if_neg h]
theorem digN_dec {n : Nat} (h : n < 100) : digN n = decN n := by
  unfold decN
  split
  · exact digN_small (by omega)
  · rw [digN_big (by omega), digN_small (by omega)]; rfl

/-- The string of a new slice of one byte. -/
theorem conv_one (W : World) (x : Nat) (z : Int) (hz : z = x) (hx : x < 256) :
    (convert 49 9 (.slice (some ⟨W.heap.size, 0, none⟩) 1 1)).run Tryz.prog (W.alloc (.cells #[.int .u8 z] 5)) = .ok (.string ⟨[UInt8.ofNat x].toArray⟩) (W.alloc (.cells #[.int .u8 z] 5)) := by
  subst hz
  refine run_convert_bytes_back (P := Tryz.prog) _ _ _ 5 ⟨W.heap.size, 0, none⟩ 1 [UInt8.ofNat x] Tryz.underlying49 Tryz.underlying5 Tryz.underlying9 ?_
  intro j hj
  obtain rfl : j = 0 := by simp at hj; omega
  have h := World.cell?_alloc_mark W #[.int .u8 (x : Int)] 5 (0, 0) 0
  have e : ((UInt8.ofNat x).toNat : Int) = x := by simp; omega
  simp only [List.getElem_cons_zero, e]
  simp [Addr.add] at h ⊢
set_option maxRecDepth 100000 in
set_option maxHeartbeats 1000000 in
theorem refDigits_any (n : Nat) (hn : n < 10 ^ 10) (w : World) :
    Calls Tryz.prog 32 #[.int .i64 n] w fun e w' => e = .returned (S (digN n)) ∧ Below w.heap.size w w' := by
  have hn0 : (decide ((n : Int) < 0)) = false := decide_eq_false (by omega)
  have HN := Lib.hid hn
  clear hn
  go_enter Tryz.func32, Tryz.ntmps32
  go_wp2_with fail
  have HB0 := Lib.hid (Below.refl w.heap.size w)
  go_loopw [0, 4] (fun q o wr => ∃ (m : Nat) (t : Bs) (k : Nat), q = .int .i64 m ∧ o = S t ∧ Hid (digN n = digN m ++ t ∧ m < 10 ^ k ∧ t.length + k ≤ 10 ∧ Below w.heap.size w wr)) (fun q _ _ => (intOf q).toNat)
  case atStart => exact ⟨n, [], 10, rfl, rfl, by simp, HN.out, by simp, Below.refl _ _⟩
  case round =>
    obtain ⟨m, t, k, rfl, rfl, hT⟩ := hrel
    obtain ⟨h1, h2, h3, h4⟩ := hT.out
    clear HB0 hT
    have HB := Lib.hid h4
    clear h4
    by_cases hm : m < 10
    · have hd : decide ((9 : Int) < (m : Int)) = false := decide_eq_false (by omega)
      have e1 : IntKind.i64.wrap (48 + (m : Int)) = 48 + (m : Int) := IntWalk.i64_in _ (by omega)
      have HF := Lib.hid h1
      clear h1 h2
      have cv := conv_one wr (48 + m) (48 + (m : Int)) (by simp) (by omega)
      have z1 : (⟨t.toArray⟩ : ByteArray).size ≤ 10 := by rw [size_bytes]; omega
      go_wp2_with fail
      go_ret
      refine ⟨ret_S (l := digN n) ?_, HB.out.alloc HB.out.size _⟩
      rw [HF.out, digN_small hm]
      apply ByteArray.ext
      simp
    · have hd : decide ((9 : Int) < (m : Int)) = true := decide_eq_true (by omega)
      have HF := Lib.hid h1
      have HM := Lib.hid h2
      clear h1 h2
      have cv := conv_one wr (48 + m % 10) (48 + (m : Int) % 10) (by omega) (by omega)
      have z1 : (⟨t.toArray⟩ : ByteArray).size ≤ 10 := by rw [size_bytes]; omega
      have e2 : IntKind.i64.wrap ((m : Int) / 10) = ((m / 10 : Nat) : Int) := by
        have := Nat.lt_of_lt_of_le HM.out (Nat.pow_le_pow_right (show 0 < 10 by decide) (show k ≤ 10 by omega))
        rw [IntWalk.i64_in _ (by omega)]
        omega
      go_wp2_with fail
      go_roundw
      case rel =>
        obtain ⟨j, rfl⟩ : ∃ j, k = j + 1 := ⟨k - 1, by
          rcases k with _ | k
          · have := HM.out; simp at this; omega
          · omega⟩
        refine ⟨m / 10, UInt8.ofNat (48 + m % 10) :: t, j, by first | rfl | rw [e2] | go_num, ?_, Lib.hid ⟨?_, ?_, ?_, HB.out.alloc HB.out.size _⟩⟩
        · refine congrArg Value.string ?_
          apply ByteArray.ext
          simp
        · rw [HF.out, digN_big hm]
          simp
        · have := HM.out
          rw [Nat.pow_succ] at this
          omega
        · simp; omega
      case measure => simp [intOf]; omega
end Go.Proofs.YtockagnnpeoggaaGreatDoor

/- The reference: how a signature is written; Sig; the signature behind another one; Next. -/
namespace Go.Proofs.YtockagnnpeoggaaGreatDoor
set_option linter.unusedSimpArgs false
set_option linter.unusedVariables false
open Go Go.RowKit Go.Sort Go.BigFrame

theorem digN_dec3 {r : Int} (h0 : 0 ≤ r) (h1 : r < 100) : digN r.toNat = dec r := digN_dec (by omega)
set_option maxRecDepth 100000 in
set_option maxHeartbeats 800000 in
theorem refWritten_any (r l : Int) (hs : sigB r l = true) (w : World) :
    Calls Tryz.prog 31 #[.agg #[.int .i64 r, .int .i64 l]] w fun e w' => e = .returned (S (sigT r l)) ∧ Below w.heap.size w w' := by
  have hb : 1 ≤ r ∧ r ≤ 3 ∧ 0 ≤ l ∧ l ≤ 24 := by simp [sigB, inB] at hs; omega
  obtain ⟨r1, r2, l1, l2⟩ := hb
  clear hs
  have z2 := dec_len r
  have zr : (⟨(dec r).toArray⟩ : ByteArray).size ≤ 2 := by rw [size_bytes]; exact z2
  have hL : Hid (l = 23 ∧ letterT l = [112, 105] ∨ l = 24 ∧ letterT l = [99, 104, 105] ∨ l < 23 ∧ letterT l = [letterL.getD l.toNat 0]) := Lib.hid (by
    unfold letterT
    by_cases h23 : l = 23
    · exact Or.inl ⟨h23, if_pos h23⟩
    by_cases h24 : l = 24
    · exact Or.inr (Or.inl ⟨h24, by rw [if_neg h23, if_pos h24]⟩)
    · exact Or.inr (Or.inr ⟨by omega, by rw [if_neg h23, if_neg h24]⟩))
  obtain ⟨k, hk⟩ : ∃ k : Nat, r = k := ⟨r.toNat, by omega⟩
  by_cases h : 1 < r
  · have hd : decide (1 < r) = true := decide_eq_true h
    have HE : Hid (sigT r l = dec r ++ letterT l) := Lib.hid (by unfold sigT; rw [if_pos h])
    have hdg := fun W => refDigits_any k (by omega) W
    rw [← hk, show digN k = dec r from by rw [← digN_dec3 (by omega) (by omega), hk]; rfl] at hdg
    have HD := Lib.hid hdg
    clear h hdg hk
    rcases hL.out with ⟨rfl, e⟩ | ⟨rfl, e⟩ | ⟨hl, e⟩
    · have HT := Lib.hid e
      clear e hL
      go_enter Tryz.func31, Tryz.ntmps31
      go_wp2_with fail
      refine (HD.out _).mono ?_
      rintro e w1 ⟨rfl, hb1⟩
      have k1 : w1.cell? ⟨w.heap.size, 1, none⟩ = some (.int .i64 23) := cell_later' hb1 (by simp [World.cell?_alloc_at])
      have hb0 : Below w.heap.size w w1 := Below.trans (by exact (by repeat (first | (refine Below.setCell ?_ ?_ _; rotate_left; · (first | omega | (simp; done) | (simp; omega) | fail)) | (refine Below.alloc ?_ ?_ _; rotate_left; · (first | omega | (simp; done) | (simp; omega) | fail)) | refine Below.drew ?_ | exact Below.refl _ _ | fail))) (hb1.mono (by simp; try omega))
      clear hb1
      go_wp2_with fail
      go_ret
      exact ⟨ret_S (by rw [HE.out, HT.out]; exact cat_bytes _ _), hb0⟩
    · have HT := Lib.hid e
      clear e hL
      go_enter Tryz.func31, Tryz.ntmps31
      go_wp2_with fail
      refine (HD.out _).mono ?_
      rintro e w1 ⟨rfl, hb1⟩
      have k1 : w1.cell? ⟨w.heap.size, 1, none⟩ = some (.int .i64 24) := cell_later' hb1 (by simp [World.cell?_alloc_at])
      have hb0 : Below w.heap.size w w1 := Below.trans (by exact (by repeat (first | (refine Below.setCell ?_ ?_ _; rotate_left; · (first | omega | (simp; done) | (simp; omega) | fail)) | (refine Below.alloc ?_ ?_ _; rotate_left; · (first | omega | (simp; done) | (simp; omega) | fail)) | refine Below.drew ?_ | exact Below.refl _ _ | fail))) (hb1.mono (by simp; try omega))
      clear hb1
      go_wp2_with fail
      go_ret
      exact ⟨ret_S (by rw [HE.out, HT.out]; exact cat_bytes _ _), hb0⟩
    · have HT := Lib.hid e
      clear e hL
      obtain ⟨j, rfl⟩ := Int.eq_ofNat_of_zero_le l1
      rw [Int.toNat_natCast] at HT
      have hj : j < 23 := by omega
      have hc := Lib.hid (letter_cut j hj)
      have b23 : ((j : Int) == 23) = false := by simp; omega
      have b24 : ((j : Int) == 24) = false := by simp; omega
      have d1 : IntKind.i64.wrap ((j : Int) + 1) = ((j + 1 : Nat) : Int) := by rw [IntWalk.i64_in _ (by omega)]; omega
      go_enter Tryz.func31, Tryz.ntmps31
      go_wp2_with fail
      refine (HD.out _).mono ?_
      rintro e w1 ⟨rfl, hb1⟩
      have k1 : w1.cell? ⟨w.heap.size, 1, none⟩ = some (.int .i64 j) := cell_later' hb1 (by simp [World.cell?_alloc_at])
      have hb0 : Below w.heap.size w w1 := Below.trans (by exact (by repeat (first | (refine Below.setCell ?_ ?_ _; rotate_left; · (first | omega | (simp; done) | (simp; omega) | fail)) | (refine Below.alloc ?_ ?_ _; rotate_left; · (first | omega | (simp; done) | (simp; omega) | fail)) | refine Below.drew ?_ | exact Below.refl _ _ | fail))) (hb1.mono (by simp; try omega))
      clear hb1
      go_wp2_with fail
      go_ret
      exact ⟨ret_S (by rw [HE.out, HT.out, hc.out]; exact cat_bytes _ _), hb0⟩
  · have hd : decide (1 < r) = false := decide_eq_false h
    have HE : Hid (sigT r l = letterT l) := Lib.hid (by unfold sigT; rw [if_neg h]; rfl)
    clear h hk
    rcases hL.out with ⟨rfl, e⟩ | ⟨rfl, e⟩ | ⟨hl, e⟩
    · have HT := Lib.hid e
      clear e hL
      go_enter Tryz.func31, Tryz.ntmps31
      go_wp2_with fail
      go_ret
      exact ⟨by rw [HE.out, HT.out]; rfl, (by repeat (first | exact Below.refl _ _ | assumption | (refine Below.alloc ?_ ?_ _; rotate_left; · (first | omega | (simp; done) | (simp; omega) | (simp at *; omega) | fail)) | (refine Below.setCell ?_ ?_ _; rotate_left; · (first | omega | (simp; done) | (simp; omega) | (simp at *; omega) | fail)) | refine Below.drew ?_ | fail))⟩
    · have HT := Lib.hid e
      clear e hL
      go_enter Tryz.func31, Tryz.ntmps31
      go_wp2_with fail
      go_ret
      exact ⟨by rw [HE.out, HT.out]; rfl, (by repeat (first | exact Below.refl _ _ | assumption | (refine Below.alloc ?_ ?_ _; rotate_left; · (first | omega | (simp; done) | (simp; omega) | (simp at *; omega) | fail)) | (refine Below.setCell ?_ ?_ _; rotate_left; · (first | omega | (simp; done) | (simp; omega) | (simp at *; omega) | fail)) | refine Below.drew ?_ | fail))⟩
    · have HT := Lib.hid e
      clear e hL
      obtain ⟨j, rfl⟩ := Int.eq_ofNat_of_zero_le l1
      rw [Int.toNat_natCast] at HT
      have hj : j < 23 := by omega
      have hc := Lib.hid (letter_cut j hj)
      have b23 : ((j : Int) == 23) = false := by simp; omega
      have b24 : ((j : Int) == 24) = false := by simp; omega
      have d1 : IntKind.i64.wrap ((j : Int) + 1) = ((j + 1 : Nat) : Int) := by rw [IntWalk.i64_in _ (by omega)]; omega
      go_enter Tryz.func31, Tryz.ntmps31
      go_wp2_with fail
      go_ret
      exact ⟨ret_S (by rw [HE.out, HT.out, hc.out]; exact cat_bytes [] _), (by repeat (first | exact Below.refl _ _ | assumption | (refine Below.alloc ?_ ?_ _; rotate_left; · (first | omega | (simp; done) | (simp; omega) | (simp at *; omega) | fail)) | (refine Below.setCell ?_ ?_ _; rotate_left; · (first | omega | (simp; done) | (simp; omega) | (simp at *; omega) | fail)) | refine Below.drew ?_ | fail))⟩
end Go.Proofs.YtockagnnpeoggaaGreatDoor
