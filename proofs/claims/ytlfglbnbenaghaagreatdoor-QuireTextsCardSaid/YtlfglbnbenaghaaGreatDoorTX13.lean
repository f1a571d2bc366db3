/- The parts Pe, Ca, Cb, Wa, Pg, Ph of the proof, joined. It holds without conditions of its own. -/
import Derived.Test.YtlfglbnbenaghaaGreatDoorTX1
import Derived.Test.YtlfglbnbenaghaaGreatDoorTX7
import Derived.Test.YtlfglbnbenaghaaGreatDoorTX12
import Derived.Test.YtlfglbnbenaghaaGreatDoorTX3
import Derived.Test.YtlfglbnbenaghaaGreatDoorTX4
import Derived.Laws.IdiomStrings
import Derived.Test.YtlfglbnbenaghaaGreatDoorTX6
/- Leaves are written each otherwise, and read back. Nothing of the program. -/
namespace Go.Proofs.YtlfglbnbenaghaaGreatDoor
set_option linter.unusedSimpArgs false
set_option linter.unusedVariables false

theorem back_all : ((List.range 3).all fun r => (List.range 25).all fun l => (List.range 13).all fun n => (List.range 5).all fun p => !possibleB n p || decide (allF (leafNameF (nameT ((r : Int) + 1) l n p)) = some ((r : Int) + 1, (l : Int), (n : Int), (p : Int)))) = true := by decide +kernel
theorem name_back {r l n p : Int} (hr : 1 ≤ r ∧ r ≤ 3) (hl : 0 ≤ l ∧ l ≤ 24) (hn : 0 ≤ n ∧ n ≤ 12) (hp : 0 ≤ p ∧ p ≤ 4) (h : possibleB n p = true) : allF (leafNameF (nameT r l n p)) = some (r, l, n, p) := by
  have h0 := back_all
  simp only [List.all_eq_true, List.mem_range] at h0
  have h1 := h0 (r - 1).toNat (by omega) l.toNat (by omega) n.toNat (by omega) p.toNat (by omega)
  have e1 : (((r - 1).toNat : Int) + 1) = r := by omega
  have e2 : ((l.toNat : Int)) = l := by omega
  have e3 : ((n.toNat : Int)) = n := by omega
  have e4 : ((p.toNat : Int)) = p := by omega
  rw [e1, e2, e3, e4, h] at h1
  simpa using h1

theorem sigs_new : ∀ (gs : List Gth) (seen : List (Int × Int)) (last : Int × Int) (i : Nat), (gsErr seen last i gs).2 = 0 → (∀ g ∈ gs, (g.round, g.letter) ∉ seen) ∧ gs.Pairwise (fun g h => (g.round, g.letter) ≠ (h.round, h.letter))
  | [], _, _, _, _ => ⟨(fun _ h => by cases h), List.Pairwise.nil⟩
  | g :: gs, seen, last, i, h => by
    unfold gsErr at h
    by_cases h0 : gthErr seen last g = 0
    · rw [if_pos h0] at h
      obtain ⟨h1, h2⟩ := sigs_new gs _ _ _ h
      have hg : (g.round, g.letter) ∉ seen := by
        unfold gthErr at h0
        intro hm
        by_cases hs : sigB g.round g.letter = false
        · rw [if_pos hs] at h0; omega
        · rw [if_neg hs, if_pos hm] at h0; omega
      refine ⟨fun x hx => ?_, List.pairwise_cons.2 ⟨fun x hx e => h1 x hx (by rw [← e]; simp), h2⟩⟩
      rcases List.mem_cons.1 hx with rfl | hx
      · exact hg
      · exact fun hm => h1 x hx (List.mem_append_left _ hm)
    · rw [if_neg h0] at h; exact absurd h h0
theorem sigs_inj {b : Bk} (h : errF b = 0) {i j : Nat} {g k : Gth} (hi : b.gs[i]? = some g) (hj : b.gs[j]? = some k) (e : (g.round, g.letter) = (k.round, k.letter)) : i = j := by
  have hz : (gsErr [] (0, 0) 0 b.gs).2 = 0 := by
    unfold errF checkF at h
    by_cases h1 : inB 0 12 b.signed = false
    · rw [if_pos h1] at h; simp at h
    rw [if_neg h1] at h
    by_cases h2 : inB 1 30 b.gs.length = false
    · rw [if_pos h2] at h; simp at h
    rw [if_neg h2] at h
    by_cases h3 : (gsErr [] (0, 0) 0 b.gs).2 = 0
    · exact h3
    · rw [if_neg h3] at h; exact absurd h h3
  have hp := (sigs_new _ _ _ _ hz).2
  obtain ⟨h1, rfl⟩ := List.getElem?_eq_some_iff.1 hi
  obtain ⟨h2, rfl⟩ := List.getElem?_eq_some_iff.1 hj
  rcases Nat.lt_trichotomy i j with h3 | h3 | h3
  · exact absurd e (List.pairwise_iff_getElem.1 hp i j h1 h2 h3)
  · exact h3
  · exact absurd e.symm (List.pairwise_iff_getElem.1 hp j i h2 h1 h3)
theorem lf_possible {b : Bk} {x : Lf} (h : x ∈ lvs b) (hb : 0 ≤ x.num ∧ x.num ≤ 12 ∧ 0 ≤ x.plus ∧ x.plus ≤ 4) : possibleB x.num x.plus = true := by
  have hne : ¬ (x.num = 0 ∧ x.plus = 0) := by
    obtain ⟨g, _, hm⟩ := lvs_mem h
    simp only [lvsG, List.mem_flatMap] at hm
    obtain ⟨k, _, hm⟩ := hm
    simp only [lvsNum, List.mem_append, List.mem_map] at hm
    rcases hm with hm | ⟨j, _, hm⟩
    · split at hm
      · rw [List.mem_singleton] at hm
        have := congrArg Lf.num hm
        dsimp only at this
        omega
      · cases hm
    · have := congrArg Lf.plus hm
      dsimp only at this
      omega
  unfold possibleB
  simp only [Bool.and_eq_true, Bool.not_eq_true', Bool.and_eq_false_iff, decide_eq_false_iff_not, inB_iff]
  omega
/-- The name of a leaf, read back from how it is written. -/
theorem text_back {b : Bk} (h : errF b = 0) {x : Lf} (hx : x ∈ lvs b) : allF (leafNameF (lfText b x)) = some (nameQ b x) := by
  obtain ⟨g, hg, hok, h1, h2, h3, h4⟩ := lf_bounds (errF_zero h) hx
  have hl := hok.leaves
  unfold lfText nameQ
  rw [hg]
  exact name_back hok.round hok.letter ⟨h1, by omega⟩ ⟨h3, h4⟩ (lf_possible hx ⟨h1, by omega, h3, h4⟩)
theorem name_inj {b : Bk} (h : errF b = 0) {i j : Nat} {x y : Lf} (hi : (lvs b)[i]? = some x) (hj : (lvs b)[j]? = some y) (e : nameQ b x = nameQ b y) : i = j := by
  obtain ⟨g, hg, _⟩ := lvs_mem (List.mem_of_getElem? hi)
  obtain ⟨k, hk, _⟩ := lvs_mem (List.mem_of_getElem? hj)
  unfold nameQ at e
  rw [hg, hk] at e
  simp only [Prod.mk.injEq] at e
  obtain ⟨e1, e2, e3, e4⟩ := e
  have hgat := sigs_inj h hg hk (by rw [e1, e2])
  rcases Nat.lt_trichotomy i j with h3 | h3 | h3
  · have := sorted_lt (lvs_sorted b) hi hj h3
    unfold ltL at this
    omega
  · exact h3
  · have := sorted_lt (lvs_sorted b) hj hi h3
    unfold ltL at this
    omega
theorem text_inj {b : Bk} (h : errF b = 0) {i j : Nat} {x y : Lf} (hi : (lvs b)[i]? = some x) (hj : (lvs b)[j]? = some y) (e : lfText b x = lfText b y) : i = j := by
  have h1 := text_back h (List.mem_of_getElem? hi)
  have h2 := text_back h (List.mem_of_getElem? hj)
  rw [e, h2] at h1
  exact name_inj h hi hj (Option.some.inj h1).symm
theorem find_back {b : Bk} (h : errF b = 0) {i : Nat} {x : Lf} (hi : (lvs b)[i]? = some x) : findR b (lfText b x) = .tuple #[.int .i64 i, .int .i64 0] := by
  unfold findR
  rw [text_back h (List.mem_of_getElem? hi)]
  dsimp only
  have hf : (lvs b).findIdx? (fun y => decide (nameQ b y = nameQ b x)) = some i := by
    rw [List.findIdx?_eq_some_iff_getElem]
    obtain ⟨h1, h2⟩ := List.getElem?_eq_some_iff.1 hi
    refine ⟨h1, by simp [h2], fun j hj => ?_⟩
    have hjl : j < (lvs b).length := by omega
    have hne : nameQ b ((lvs b)[j]) ≠ nameQ b x := fun e => by
      have := name_inj h (List.getElem?_eq_getElem hjl) hi e
      omega
    simp [hne]
  rw [hf]
  rfl
end Go.Proofs.YtlfglbnbenaghaaGreatDoor

/- The reference's small functions: in, signature, rank. -/
namespace Go.Proofs.YtlfglbnbenaghaaGreatDoor
set_option linter.unusedSimpArgs false
set_option linter.unusedVariables false
open Go Go.RowKit Go.Sort Go.BigFrame

set_option maxHeartbeats 400000 in
theorem refIn_any (n lo hi : Int) (w : World) :
    Calls Tryz.prog 52 #[.int .i64 n, .int .i64 lo, .int .i64 hi] w fun e w' => e = .returned (.bool (inB lo hi n)) ∧ Below w.heap.size w w' := by
  cases h1 : decide (lo ≤ n) with
  | false =>
    have e : inB lo hi n = false := by simp [inB, h1]
    rw [e]
    go_enter Tryz.func52, Tryz.ntmps52
    go_wp2_with fail
    go_ret
    exact ⟨rfl, Below.refl _ _⟩
  | true =>
    cases h2 : decide (n ≤ hi) with
    | false =>
      have e : inB lo hi n = false := by simp [inB, h1, h2]
      rw [e]
      go_enter Tryz.func52, Tryz.ntmps52
      go_wp2_with fail
      go_ret
      exact ⟨rfl, Below.refl _ _⟩
    | true =>
      have e : inB lo hi n = true := by simp [inB, h1, h2]
      rw [e]
      go_enter Tryz.func52, Tryz.ntmps52
      go_wp2_with fail
      go_ret
      exact ⟨rfl, Below.refl _ _⟩

set_option maxHeartbeats 400000 in
theorem refSignature_any (r l : Int) (w : World) :
    Calls Tryz.prog 84 #[.agg #[.int .i64 r, .int .i64 l]] w fun e w' => e = .returned (.bool (sigB r l)) ∧ Below w.heap.size w w' := by
  unfold sigB
  cases h1 : inB 1 3 r with
  | false =>
    have H1 := Lib.hid h1
    clear h1
    go_enter Tryz.func84, Tryz.ntmps84
    go_wp2_with fail
    refine (refIn_any r 1 3 _).mono ?_
    rintro e w1 ⟨rfl, hb⟩
    rw [H1.out]
    have hb1 := ((Below.refl w.heap.size w).alloc (Nat.le_refl _) _).trans (hb.mono (by simp))
    clear hb
    go_wp2_with fail
    go_ret
    exact ⟨rfl, hb1⟩
  | true =>
    have H1 := Lib.hid h1
    clear h1
    go_enter Tryz.func84, Tryz.ntmps84
    go_wp2_with fail
    refine (refIn_any r 1 3 _).mono ?_
    rintro e w1 ⟨rfl, hb⟩
    rw [H1.out]
    have k1 : w1.cell? ⟨w.heap.size, 1, none⟩ = some (.int .i64 l) := cell_later' hb (by simp [World.cell?_alloc_at])
    have hb1 := ((Below.refl w.heap.size w).alloc (Nat.le_refl _) _).trans (hb.mono (by simp))
    clear hb
    go_wp2_with fail
    refine (refIn_any l 0 24 _).mono ?_
    rintro e w2 ⟨rfl, hb⟩
    have hb2 := hb1.trans (hb.mono hb1.size)
    clear hb
    go_wp2_with fail
    go_ret
    exact ⟨rfl, hb2⟩

/-- The place of a lettered signature among all of them. -/
def rankF (r l : Int) : Int := if 23 ≤ l then -1 else (r - 1) * 23 + l
set_option maxHeartbeats 400000 in
theorem refRank_any (r l : Int) (w : World) (h : sigB r l = true) :
    Calls Tryz.prog 68 #[.agg #[.int .i64 r, .int .i64 l]] w fun e w' => e = .returned (.int .i64 (rankF r l)) ∧ Below w.heap.size w w' := by
  have hb : 1 ≤ r ∧ r ≤ 3 ∧ 0 ≤ l ∧ l ≤ 24 := by simp [sigB, inB] at h; omega
  clear h
  by_cases hl : 23 ≤ l
  · have e : rankF r l = -1 := if_pos hl
    rw [e]
    have hd : decide (23 ≤ l) = true := decide_eq_true hl
    clear hl e
    go_enter Tryz.func68, Tryz.ntmps68
    go_wp2_with fail
    go_ret
    exact ⟨rfl, (by repeat (first | (refine Below.setCell ?_ ?_ _; rotate_left; · (first | omega | (simp; done) | (simp; omega) | fail)) | (refine Below.alloc ?_ ?_ _; rotate_left; · (first | omega | (simp; done) | (simp; omega) | fail)) | refine Below.drew ?_ | exact Below.refl _ _ | fail))⟩
  · have e : rankF r l = (r - 1) * 23 + l := if_neg hl
    rw [e]
    have hd : decide (23 ≤ l) = false := decide_eq_false hl
    have w1 : IntKind.i64.wrap (r - 1) = r - 1 := IntWalk.i64_in _ (by omega)
    have w2 : IntKind.i64.wrap ((r - 1) * 23) = (r - 1) * 23 := IntWalk.i64_in _ (by omega)
    have w3 : IntKind.i64.wrap ((r - 1) * 23 + l) = (r - 1) * 23 + l := IntWalk.i64_in _ (by omega)
    clear hl e
    go_enter Tryz.func68, Tryz.ntmps68
    go_wp2_with fail
    go_ret
    exact ⟨rfl, (by repeat (first | (refine Below.setCell ?_ ?_ _; rotate_left; · (first | omega | (simp; done) | (simp; omega) | fail)) | (refine Below.alloc ?_ ?_ _; rotate_left; · (first | omega | (simp; done) | (simp; omega) | fail)) | refine Below.drew ?_ | exact Below.refl _ _ | fail))⟩

end Go.Proofs.YtlfglbnbenaghaaGreatDoor

/- The reference: how a number and a signature are written; the signature behind another one; Sig, Next. -/
namespace Go.Proofs.YtlfglbnbenaghaaGreatDoor
set_option linter.unusedSimpArgs false
set_option linter.unusedVariables false
open Go Go.RowKit Go.Sort Go.BigFrame

/-- The digits of a number. -/
def digN (n : Nat) : Bs := if n < 10 then [UInt8.ofNat (48 + n)] else digN (n / 10) ++ [UInt8.ofNat (48 + n % 10)]
theorem digN_small {n : Nat} (h : n < 10) : digN n = [UInt8.ofNat (48 + n)] := by rw [digN, if_pos h]
theorem digN_big {n : Nat} (h : ¬ n < 10) : digN n = digN (n / 10) ++ [UInt8.ofNat (48 + n % 10)] := by rw [digN, if_neg h]
theorem digN_dec {n : Nat} (h : n < 100) : digN n = decN n := by
  unfold decN
  split
  · exact digN_small (by omega)
  · rw [digN_big (by omega), digN_small (by omega)]; rfl

/-- The string of a new slice of one byte. -/
theorem conv_one (W : World) (x : Nat) (z : Int) (hz : z = x) (hx : x < 256) :
    (convert 34 9 (.slice (some ⟨W.heap.size, 0, none⟩) 1 1)).run Tryz.prog (W.alloc (.cells #[.int .u8 z] 5)) = .ok (.string ⟨[UInt8.ofNat x].toArray⟩) (W.alloc (.cells #[.int .u8 z] 5)) := by
  subst hz
  refine run_convert_bytes_back (P := Tryz.prog) _ _ _ 5 ⟨W.heap.size, 0, none⟩ 1 [UInt8.ofNat x] Tryz.underlying34 Tryz.underlying5 Tryz.underlying9 ?_
  intro j hj
  obtain rfl : j = 0 := by simp at hj; omega
  have h := World.cell?_alloc_mark W #[.int .u8 (x : Int)] 5 (0, 0) 0
  have e : ((UInt8.ofNat x).toNat : Int) = x := by simp; omega
  simp only [List.getElem_cons_zero, e]
  simp [Addr.add] at h ⊢
set_option maxRecDepth 100000 in
set_option maxHeartbeats 1000000 in
theorem refDigits_any (n : Nat) (hn : n < 10 ^ 10) (w : World) :
    Calls Tryz.prog 16 #[.int .i64 n] w fun e w' => e = .returned (S (digN n)) ∧ Below w.heap.size w w' := by
  have hn0 : (decide ((n : Int) < 0)) = false := decide_eq_false (by omega)
  have HN := Lib.hid hn
  clear hn
  go_enter Tryz.func16, Tryz.ntmps16
  go_wp2_with fail
  have HB0 := Lib.hid (Below.refl w.heap.size w)
  go_loopw [0, 4] (fun q o wr => ∃ (m : Nat) (t : Bs) (k : Nat), q = .int .i64 m ∧ o = S t ∧ Hid (digN n = digN m ++ t ∧ m < 10 ^ k ∧ t.length + k ≤ 10 ∧ Below w.heap.size w wr)) (fun q _ _ => (intOf q).toNat)
  case atStart => exact ⟨n, [], 10, rfl, rfl, by simp, HN.out, by simp, Below.refl _ _⟩
  case round =>
    obtain ⟨m, t, k, rfl, rfl, hT⟩ := hrel
    obtain ⟨h1, h2, h3, h4⟩ := hT.out
    clear HB0 hT
    have HB := Lib.hid h4
    clear h4
    by_cases hm : m < 10
    · have hd : decide ((9 : Int) < (m : Int)) = false := decide_eq_false (by omega)
      have e1 : IntKind.i64.wrap (48 + (m : Int)) = 48 + (m : Int) := IntWalk.i64_in _ (by omega)
      have HF := Lib.hid h1
      clear h1 h2
      have cv := conv_one wr (48 + m) (48 + (m : Int)) (by simp) (by omega)
      have z1 : (⟨t.toArray⟩ : ByteArray).size ≤ 10 := by rw [size_bytes]; omega
      go_wp2_with fail
      go_ret
      refine ⟨ret_S (l := digN n) ?_, HB.out.alloc HB.out.size _⟩
      rw [HF.out, digN_small hm]
      apply ByteArray.ext
      simp
    · have hd : decide ((9 : Int) < (m : Int)) = true := decide_eq_true (by omega)
      have HF := Lib.hid h1
      have HM := Lib.hid h2
      clear h1 h2
      have cv := conv_one wr (48 + m % 10) (48 + (m : Int) % 10) (by omega) (by omega)
      have z1 : (⟨t.toArray⟩ : ByteArray).size ≤ 10 := by rw [size_bytes]; omega
      have e2 : IntKind.i64.wrap ((m : Int) / 10) = ((m / 10 : Nat) : Int) := by
        have := Nat.lt_of_lt_of_le HM.out (Nat.pow_le_pow_right (show 0 < 10 by decide) (show k ≤ 10 by omega))
        rw [IntWalk.i64_in _ (by omega)]
        omega
      go_wp2_with fail
      go_roundw
      case rel =>
        obtain ⟨j, rfl⟩ : ∃ j, k = j + 1 := ⟨k - 1, by
          rcases k with _ | k
          · have := HM.out; simp at this; omega
          · omega⟩
        refine ⟨m / 10, UInt8.ofNat (48 + m % 10) :: t, j, by first | rfl | rw [e2] | go_num, ?_, Lib.hid ⟨?_, ?_, ?_, HB.out.alloc HB.out.size _⟩⟩
        · refine congrArg Value.string ?_
          apply ByteArray.ext
          simp
        · rw [HF.out, digN_big hm]
          simp
        · have := HM.out
          rw [Nat.pow_succ] at this
          omega
        · simp; omega
      case measure => simp [intOf]; omega
end Go.Proofs.YtlfglbnbenaghaaGreatDoor

/- How changes are written. -/
namespace Go.Proofs.YtlfglbnbenaghaaGreatDoor
set_option linter.unusedSimpArgs false
set_option linter.unusedVariables false
open Go Go.RowKit Go.Sort Go.BigFrame

theorem dec_size (n : Int) : (⟨(dec n).toArray⟩ : ByteArray).size ≤ 2 := by rw [size_bytes]; exact dec_len n

set_option maxHeartbeats 400000 in
theorem takenText_any (p : Int) (hp : 0 ≤ p ∧ p < 100) (w : World) :
    Calls Tryz.prog 139 #[.agg #[.int .i64 p]] w fun e w' => e = .returned (S (45 :: dec p)) ∧ Below w.heap.size w w' := by
  have zd := dec_size p
  have zq : (⟨#[45]⟩ : ByteArray).size ≤ 1 := by decide
  go_enter Tryz.func139, Tryz.ntmps139
  go_wp2_with fail
  refine (Itoa_any p hp.1 hp.2 _).mono ?_
  rintro e w1 ⟨rfl, rfl⟩
  go_wp2_with fail
  go_ret
  exact ⟨ret_S (by rw [show (⟨#[45]⟩ : ByteArray) = ⟨[45].toArray⟩ from rfl, cat_bytes]; rfl), (by repeat (first | exact Below.refl _ _ | assumption | (refine Below.alloc ?_ ?_ _; rotate_left; · (first | omega | (simp; done) | (simp; omega) | (simp at *; omega) | fail)) | (refine Below.setCell ?_ ?_ _; rotate_left; · (first | omega | (simp; done) | (simp; omega) | (simp at *; omega) | fail)) | refine Below.drew ?_ | fail))⟩
set_option maxHeartbeats 400000 in
theorem cancelledText_any (p : Int) (hp : 0 ≤ p ∧ p < 100) (w : World) :
    Calls Tryz.prog 140 #[.agg #[.int .i64 p]] w fun e w' => e = .returned (S (61 :: dec p)) ∧ Below w.heap.size w w' := by
  have zd := dec_size p
  have zq : (⟨#[61]⟩ : ByteArray).size ≤ 1 := by decide
  go_enter Tryz.func140, Tryz.ntmps140
  go_wp2_with fail
  refine (Itoa_any p hp.1 hp.2 _).mono ?_
  rintro e w1 ⟨rfl, rfl⟩
  go_wp2_with fail
  go_ret
  exact ⟨ret_S (by rw [show (⟨#[61]⟩ : ByteArray) = ⟨[61].toArray⟩ from rfl, cat_bytes]; rfl), (by repeat (first | exact Below.refl _ _ | assumption | (refine Below.alloc ?_ ?_ _; rotate_left; · (first | omega | (simp; done) | (simp; omega) | (simp at *; omega) | fail)) | (refine Below.setCell ?_ ?_ _; rotate_left; · (first | omega | (simp; done) | (simp; omega) | (simp at *; omega) | fail)) | refine Below.drew ?_ | fail))⟩
set_option maxRecDepth 100000 in
set_option maxHeartbeats 400000 in
theorem putInText_any (p m : Int) (hp : 0 ≤ p ∧ p < 100) (hm : 0 ≤ m ∧ m < 100) (w : World) :
    Calls Tryz.prog 141 #[.agg #[.int .i64 p, .int .i64 m]] w fun e w' => e = .returned (S (dec p ++ 43 :: dec m)) ∧ Below w.heap.size w w' := by
  have zd := dec_size p
  have ze := dec_size m
  have zq : (⟨#[43]⟩ : ByteArray).size ≤ 1 := by decide
  have zt : ((⟨(dec p).toArray⟩ : ByteArray) ++ ⟨#[43]⟩).size ≤ 3 := by rw [ByteArray.size_append]; omega
  obtain ⟨w1, hw1⟩ : ∃ w1, w1 = w.alloc (Obj.cells #[.int .i64 p, .int .i64 m] 164) := ⟨_, rfl⟩
  have hb1 : Below w.heap.size w w1 := by rw [hw1]; exact (by repeat (first | exact Below.refl _ _ | assumption | (refine Below.alloc ?_ ?_ _; rotate_left; · (first | omega | (simp; done) | (simp; omega) | (simp at *; omega) | fail)) | (refine Below.setCell ?_ ?_ _; rotate_left; · (first | omega | (simp; done) | (simp; omega) | (simp at *; omega) | fail)) | refine Below.drew ?_ | fail))
  have q1 : w1.heap[w.heap.size]? = some (.cells #[.int .i64 p, .int .i64 m] 164) := by rw [hw1]; exact (by repeat (first | exact heap_alloc_at _ _ _ (by (first | omega | (simp; done) | (simp; omega) | (simp at *; omega) | fail)) | assumption | rw [heap_alloc_past _ _ _ (by (first | omega | (simp; done) | (simp; omega) | (simp at *; omega) | fail))] | rw [heap_setCell_past _ _ _ _ (by (first | omega | (simp; done) | (simp; omega) | (simp at *; omega) | fail))] | fail))
  go_enter Tryz.func141, Tryz.ntmps141
  go_wp2_with fail
  rw [← hw1]
  clear hw1
  have c0 := blk_cell q1 0; have c1 := blk_cell q1 1
  clear q1
  have r0 := cell_regrown c0
  have r1 := cell_regrown c1
  have cP : ∀ d os, Calls Tryz.prog 50 #[.int .i64 p] (grow (redrawn w1 d) os) (fun e w'' => e = .returned (S (dec p)) ∧ ∃ p : Regrown, w'' = grow (redrawn w1 p.d) p.os) := fun d os => Calls.regrown_of ((Itoa_any p hp.1 hp.2 _).mono fun e w' ⟨h1, h2⟩ => ⟨h1, h2 ▸ Below.refl _ _⟩)
  have cM : ∀ d os, Calls Tryz.prog 50 #[.int .i64 m] (grow (redrawn w1 d) os) (fun e w'' => e = .returned (S (dec m)) ∧ ∃ p : Regrown, w'' = grow (redrawn w1 p.d) p.os) := fun d os => Calls.regrown_of ((Itoa_any m hm.1 hm.2 _).mono fun e w' ⟨h1, h2⟩ => ⟨h1, h2 ▸ Below.refl _ _⟩)
  refine wp_region_quiet_below (by kernel_rfl) (by kernel_rfl) ?_; (repeat (go_big_quiet_step (first | exact cP _ _ | exact cM _ _))); refine wpQuiet_nil ?_; rintro w3 ⟨⟨d3, os3⟩, rfl⟩
  have hb13 := below_regrown w1 d3 os3
  have hb3 := hb1.trans (hb13.mono hb1.size)
  go_wp2_with fail
  go_ret
  exact ⟨ret_S (by rw [show (⟨#[43]⟩ : ByteArray) = ⟨[43].toArray⟩ from rfl, cat_bytes, cat_bytes]; simp), hb3⟩

end Go.Proofs.YtlfglbnbenaghaaGreatDoor

/- How numbers are written and read by the reference; strings that are cut. -/
namespace Go.Proofs.YtlfglbnbenaghaaGreatDoor
set_option linter.unusedSimpArgs false
set_option linter.unusedVariables false
open Go

def isDig (c : UInt8) : Bool := decide (48 ≤ c.toNat) && decide (c.toNat ≤ 57)
def valN (s : Bs) : Nat := s.foldl (fun n c => n * 10 + (c.toNat - 48)) 0
theorem valN_snoc (s : Bs) (c : UInt8) : valN (s ++ [c]) = valN s * 10 + (c.toNat - 48) := by simp [valN]
theorem dig_at {d : Nat} (h : d < 10) : (UInt8.ofNat (48 + d)).toNat = 48 + d := by
  rw [UInt8.toNat_ofNat']
  omega
theorem dig_is {d : Nat} (h : d < 10) : isDig (UInt8.ofNat (48 + d)) = true := by
  unfold isDig
  rw [dig_at h]
  simp
  omega
theorem digN_ne (n : Nat) : digN n ≠ [] := by
  by_cases h : n < 10
  · rw [digN_small h]; simp
  · rw [digN_big h]; simp
theorem digN_all (n : Nat) : (digN n).all isDig = true := by
  induction n using Nat.strongRecOn with
  | _ n ih =>
    by_cases h : n < 10
    · rw [digN_small h]
      simp only [List.all_cons, List.all_nil, Bool.and_true, dig_is h]
    · rw [digN_big h, List.all_append, ih (n / 10) (by omega)]
      simp only [List.all_cons, List.all_nil, Bool.and_true, Bool.true_and, dig_is (show n % 10 < 10 by omega)]
theorem valN_digN (n : Nat) : valN (digN n) = n := by
  induction n using Nat.strongRecOn with
  | _ n ih =>
    by_cases h : n < 10
    · rw [digN_small h]
      simp only [valN, List.foldl_cons, List.foldl_nil, dig_at h]
      omega
    · rw [digN_big h, valN_snoc, ih (n / 10) (by omega), dig_at (by omega)]
      omega
/-- The number that a string is, as the reference reads it; -1: it is none. -/
def decF (u : Bs) : Int := if u.length ≤ 9 ∧ u.all isDig = true ∧ digN (valN u) = u then (valN u : Int) else -1
theorem decF_digN {n : Nat} (h : (digN n).length ≤ 9) : decF (digN n) = n := by
  unfold decF
  rw [valN_digN, if_pos ⟨h, digN_all n, rfl⟩]
theorem decF_is {u : Bs} (h : 0 ≤ decF u) : ∃ n : Nat, decF u = n ∧ u = digN n ∧ u.length ≤ 9 := by
  unfold decF at h ⊢
  split
  · rename_i h1
    exact ⟨valN u, rfl, h1.2.2.symm, h1.1⟩
  · rename_i h1
    rw [if_neg h1] at h
    omega
theorem decF_ge (u : Bs) : -1 ≤ decF u := by
  unfold decF
  split <;> omega
theorem decF_dec {n : Int} (h0 : 0 ≤ n) (h1 : n < 100) : decF (dec n) = n := by
  have e : digN n.toNat = dec n := digN_dec (by omega)
  rw [← e, decF_digN (by rw [e]; have := dec_len n; omega)]
  omega
theorem decF_dec_is {u : Bs} (h : 0 ≤ decF u) (h1 : decF u < 100) : u = dec (decF u) := by
  obtain ⟨n, e, hu, _⟩ := decF_is h
  rw [e] at h1
  have e2 : digN n = decN n := digN_dec (by omega)
  rw [e, hu, e2]
  rfl
theorem valN_lt : ∀ (s : Bs), s.all isDig = true → valN s < 10 ^ s.length := by
  intro s
  induction h : s.length generalizing s with
  | zero => intro _; rw [List.length_eq_zero_iff.1 h]; decide
  | succ k ih =>
    intro ha
    obtain ⟨t, c, rfl⟩ : ∃ t c, s = t ++ [c] := ⟨s.dropLast, s.getLast (fun e => by rw [e] at h; cases h), (List.dropLast_concat_getLast _).symm⟩
    rw [List.length_append, List.length_singleton] at h
    rw [List.all_append, Bool.and_eq_true] at ha
    have h1 := ih t (by omega) ha.1
    have h2 : isDig c = true := by simpa using ha.2
    simp only [isDig, Bool.and_eq_true, decide_eq_true_eq] at h2
    rw [valN_snoc, Nat.pow_succ]
    omega

/-- A string cut at each byte of a kind. -/
def cutF (c : UInt8) : Bs → List Bs
  | [] => [[]]
  | x :: t => if x = c then [] :: cutF c t else match cutF c t with
    | [] => [[x]]
    | p :: ps => (x :: p) :: ps
/-- One byte more at the end of the last piece. -/
def lastAdd (x : UInt8) : List Bs → List Bs
  | [] => [[x]]
  | [p] => [p ++ [x]]
  | p :: q :: r => p :: lastAdd x (q :: r)
theorem cutF_ne (c : UInt8) : ∀ s, cutF c s ≠ []
  | [] => by simp [cutF]
  | x :: t => by
    unfold cutF
    split
    · simp
    · split <;> simp
theorem cutF_snoc (c x : UInt8) : ∀ s, cutF c (s ++ [x]) = if x = c then cutF c s ++ [[]] else lastAdd x (cutF c s)
  | [] => by
    simp only [List.nil_append, cutF]
    split <;> simp [lastAdd]
  | y :: t => by
    have ih := cutF_snoc c x t
    have hne := cutF_ne c t
    simp only [List.cons_append, cutF]
    rw [ih]
    by_cases hx : x = c
    · simp only [if_pos hx]
      by_cases hy : y = c
      · simp [hy]
      · simp only [if_neg hy]
        cases h : cutF c t with
        | nil => exact absurd h hne
        | cons p ps => simp
    · simp only [if_neg hx]
      by_cases hy : y = c
      · simp only [if_pos hy]
        cases h : cutF c t with
        | nil => exact absurd h hne
        | cons p ps => simp [lastAdd]
      · simp only [if_neg hy]
        cases h : cutF c t with
        | nil => exact absurd h hne
        | cons p ps =>
          cases ps with
          | nil => simp [lastAdd]
          | cons q r => simp [lastAdd]
theorem lastAdd_len (x : UInt8) : ∀ ps, ps ≠ [] → (lastAdd x ps).length = ps.length
  | [], h => absurd rfl h
  | [p], _ => rfl
  | p :: q :: r, _ => by simp [lastAdd, lastAdd_len x (q :: r) (by simp)]
theorem lastAdd_set (x : UInt8) : ∀ (ps : List Bs) (p : Bs), ps[ps.length - 1]? = some p → lastAdd x ps = ps.set (ps.length - 1) (p ++ [x])
  | [], p, h => by cases h
  | [q], p, h => by
    simp only [List.length_singleton, Nat.sub_self, List.getElem?_cons_zero, Option.some.injEq] at h
    subst h
    rfl
  | p :: q :: r, y, h => by
    have ih := lastAdd_set x (q :: r) y (by simpa using h)
    simp only [List.length_cons, Nat.add_one_sub_one] at ih ⊢
    simp only [lastAdd, ih]
    simp
theorem cutF_len (c : UInt8) : ∀ s, (cutF c s).length ≤ s.length + 1
  | [] => by simp [cutF]
  | x :: t => by
    have ih := cutF_len c t
    have hne := cutF_ne c t
    unfold cutF
    split
    · simp; omega
    · split
      · rename_i h; exact absurd h hne
      · rename_i p ps h
        rw [h] at ih
        simp at ih ⊢
        omega
/-- A string without the byte is one piece; the pieces, joined, are the string. -/
theorem cutF_one (c : UInt8) : ∀ u, c ∉ u → cutF c u = [u]
  | [], _ => rfl
  | x :: t, h => by
    simp only [List.mem_cons, not_or] at h
    unfold cutF
    rw [if_neg (fun e => h.1 e.symm), cutF_one c t h.2]
theorem cutF_app (c : UInt8) : ∀ u t, c ∉ u → cutF c (u ++ c :: t) = u :: cutF c t
  | [], t, _ => by simp [cutF]
  | x :: u, t, h => by
    simp only [List.mem_cons, not_or] at h
    rw [List.cons_append, cutF, if_neg (fun e => h.1 e.symm), cutF_app c u t h.2]
theorem cutF_join (c : UInt8) : ∀ s, joinB c (cutF c s) = s
  | [] => rfl
  | x :: t => by
    have ih := cutF_join c t
    have hne := cutF_ne c t
    unfold cutF
    split
    · rename_i e
      cases h : cutF c t with
      | nil => exact absurd h hne
      | cons p ps => rw [h] at ih; simp [joinB, ih, e]
    · split
      · rename_i h; exact absurd h hne
      · rename_i p ps h
        rw [h] at ih
        cases ps with
        | nil => simpa [joinB] using ih
        | cons q r => simpa [joinB] using ih
theorem cutF_clean (c : UInt8) : ∀ s p, p ∈ cutF c s → c ∉ p
  | [], p, h => by
    simp only [cutF, List.mem_singleton] at h
    simp [h]
  | x :: t, p, h => by
    have ih := cutF_clean c t
    unfold cutF at h
    split at h
    · rcases List.mem_cons.1 h with rfl | h
      · simp
      · exact ih p h
    · rename_i hx
      split at h
      · rename_i h0; exact absurd h0 (cutF_ne c t)
      · rename_i q ps h0
        rcases List.mem_cons.1 h with rfl | h
        · have := ih q (by rw [h0]; simp)
          simp only [List.mem_cons, not_or]
          exact ⟨fun e => hx e.symm, this⟩
        · exact ih p (by rw [h0]; simp [h])
theorem cutF_short (c : UInt8) : ∀ s p, p ∈ cutF c s → p.length ≤ s.length
  | [], p, h => by
    simp only [cutF, List.mem_singleton] at h
    simp [h]
  | x :: t, p, h => by
    have ih := cutF_short c t
    unfold cutF at h
    split at h
    · rcases List.mem_cons.1 h with rfl | h
      · simp
      · have := ih p h; simp; omega
    · split at h
      · rename_i h0; exact absurd h0 (cutF_ne c t)
      · rename_i q ps h0
        rcases List.mem_cons.1 h with rfl | h
        · have := ih q (by rw [h0]; simp)
          simp; omega
        · have := ih p (by rw [h0]; simp [h])
          simp; omega
end Go.Proofs.YtlfglbnbenaghaaGreatDoor

/- How signatures and numbers are written and read: the one is the other. -/
namespace Go.Proofs.YtlfglbnbenaghaaGreatDoor
set_option linter.unusedSimpArgs false
set_option linter.unusedVariables false
open Go

theorem skipF_is {w s t : Bs} (h : skipF w s = some t) : s = w ++ t := by
  unfold skipF at h
  split at h
  · rename_i hp
    obtain ⟨u, hu⟩ := List.isPrefixOf_iff_prefix.1 hp
    subst hu
    simp only [List.drop_left, Option.some.injEq] at h
    rw [h]
  · cases h
theorem skipF_app (w t : Bs) : skipF w (w ++ t) = some t := by
  unfold skipF
  rw [if_pos (List.isPrefixOf_iff_prefix.2 (List.prefix_append w t)), List.drop_left]
theorem letterAtF_is : ∀ (cs : List UInt8) (i : Int) (s t : Bs) (j : Int), letterAtF cs i s = some (j, t) → ∃ (k : Nat) (c : UInt8), j = i + k ∧ cs[k]? = some c ∧ s = c :: t
  | [], _, _, _, _, h => by cases h
  | c :: cs, i, s, t, j, h => by
    unfold letterAtF at h
    split at h
    · rename_i u hu
      simp only [Option.some.injEq, Prod.mk.injEq] at h
      obtain ⟨rfl, rfl⟩ := h
      exact ⟨0, c, by simp, rfl, skipF_is hu⟩
    · obtain ⟨k, d, h1, h2, h3⟩ := letterAtF_is cs (i + 1) s t j h
      exact ⟨k + 1, d, by omega, by simpa using h2, h3⟩
theorem letterF_is {s t : Bs} {l : Int} (h : letterF s = some (l, t)) : s = letterT l ++ t := by
  unfold letterF at h
  split at h
  · rename_i r hr
    obtain ⟨j, u⟩ := r
    simp only [Option.some.injEq, Prod.mk.injEq] at h
    obtain ⟨rfl, rfl⟩ := h
    obtain ⟨k, c, h1, h2, h3⟩ := letterAtF_is _ _ _ _ _ hr
    have hk : k < 23 := (List.getElem?_eq_some_iff.1 h2).1
    unfold letterT
    rw [if_neg (by omega), if_neg (by omega), h3, show j.toNat = k by omega, List.getD_eq_getElem?_getD, h2]
    rfl
  · split at h
    · rename_i u hu
      simp only [Option.some.injEq, Prod.mk.injEq] at h
      obtain ⟨rfl, rfl⟩ := h
      exact skipF_is hu
    · split at h
      · rename_i u hu
        simp only [Option.some.injEq, Prod.mk.injEq] at h
        obtain ⟨rfl, rfl⟩ := h
        exact skipF_is hu
      · cases h
theorem roundF_is (s : Bs) : s = (if 1 < (roundF s).1 then dec (roundF s).1 else []) ++ (roundF s).2 := by
  unfold roundF
  split
  · rename_i t h
    exact skipF_is h
  · split
    · rename_i t h
      exact skipF_is h
    · rfl
theorem sigF_is {s t : Bs} {a : Int × Int} (h : sigF s = some (a, t)) : s = sigT a.1 a.2 ++ t := by
  unfold sigF at h
  split at h
  · rename_i l u hu
    simp only [Option.some.injEq, Prod.mk.injEq] at h
    obtain ⟨rfl, rfl⟩ := h
    have h1 := roundF_is s
    rw [letterF_is hu] at h1
    unfold sigT
    rw [List.append_assoc]
    exact h1
  · cases h
set_option maxRecDepth 100000 in
theorem sigF_text {r l : Int} (h : sigB r l = true) (t : Bs) : sigF (sigT r l ++ t) = some ((r, l), t) := by
  have hb : 1 ≤ r ∧ r ≤ 3 ∧ 0 ≤ l ∧ l ≤ 24 := by simp [sigB, inB] at h; omega
  clear h
  have h1 : r = 1 ∨ r = 2 ∨ r = 3 := by omega
  have h2 : l = 0 ∨ l = 1 ∨ l = 2 ∨ l = 3 ∨ l = 4 ∨ l = 5 ∨ l = 6 ∨ l = 7 ∨ l = 8 ∨ l = 9 ∨ l = 10 ∨ l = 11 ∨ l = 12 ∨ l = 13 ∨ l = 14 ∨ l = 15 ∨ l = 16 ∨ l = 17 ∨ l = 18 ∨ l = 19 ∨ l = 20 ∨ l = 21 ∨ l = 22 ∨ l = 23 ∨ l = 24 := by omega
  clear hb
  rcases h1 with rfl | rfl | rfl
  all_goals
    rcases h2 with rfl | rfl | rfl | rfl | rfl | rfl | rfl | rfl | rfl | rfl | rfl | rfl | rfl | rfl | rfl | rfl | rfl | rfl | rfl | rfl | rfl | rfl | rfl | rfl | rfl <;> rfl
/-- No signature's text begins another's. -/
theorem sig_once {r l r' l' : Int} {t t' : Bs} (h : sigB r l = true) (h' : sigB r' l' = true) (e : sigT r l ++ t = sigT r' l' ++ t') : r = r' ∧ l = l' ∧ t = t' := by
  have h1 := sigF_text h t
  rw [e, sigF_text h' t'] at h1
  simp only [Option.some.injEq, Prod.mk.injEq] at h1
  obtain ⟨⟨h2, h3⟩, h4⟩ := h1
  exact ⟨h2.symm, h3.symm, h4.symm⟩
theorem sigT_pos (r l : Int) : 0 < (sigT r l).length := by
  unfold sigT letterT
  rw [List.length_append]
  split <;> split <;> (try split) <;> simp <;> omega

/-- A number's digits are read to where they end. -/
def noDig (t : Bs) : Prop := ∀ c, t.head? = some c → isDig c = false
theorem digitF_is {s t : Bs} {n : Int} (h : digitF s = some (n, t)) : ∃ c, s = c :: t ∧ n = (c.toNat : Int) - 48 ∧ 48 ≤ c.toNat ∧ c.toNat ≤ 57 := by
  cases s with
  | nil => cases h
  | cons c u =>
    change (if 48 ≤ c.toNat ∧ c.toNat ≤ 57 then some ((c.toNat : Int) - 48, u) else none) = some (n, t) at h
    split at h
    · rename_i hc
      simp only [Option.some.injEq, Prod.mk.injEq] at h
      obtain ⟨rfl, rfl⟩ := h
      exact ⟨c, rfl, rfl, hc.1, hc.2⟩
    · cases h
theorem digitF_none {t : Bs} (h : digitF t = none) : noDig t := by
  intro c hc
  cases t with
  | nil => cases hc
  | cons d u =>
    simp only [List.head?_cons, Option.some.injEq] at hc
    subst hc
    change (if 48 ≤ d.toNat ∧ d.toNat ≤ 57 then some ((d.toNat : Int) - 48, u) else none) = none at h
    split at h
    · cases h
    · rename_i hn
      simp only [isDig, Bool.and_eq_false_iff, decide_eq_false_iff_not]
      omega
theorem digitF_no {t : Bs} (h : noDig t) : digitF t = none := by
  cases t with
  | nil => rfl
  | cons d u =>
    have := h d rfl
    simp only [isDig, Bool.and_eq_false_iff, decide_eq_false_iff_not] at this
    change (if 48 ≤ d.toNat ∧ d.toNat ≤ 57 then some ((d.toNat : Int) - 48, u) else none) = none
    rw [if_neg (by omega)]
theorem byte_is {c : UInt8} {d : Nat} (h : c.toNat = 48 + d) (hd : d < 10) : c = UInt8.ofNat (48 + d) := by
  apply UInt8.toNat_inj.1
  rw [dig_at hd, h]
theorem dec_oneI {n : Int} (h0 : 0 ≤ n) (h1 : n < 10) : dec n = [UInt8.ofNat (48 + n.toNat)] := by
  unfold dec decN
  rw [if_pos (by omega)]
theorem dec_twoI {n : Int} (h0 : 10 ≤ n) (h1 : n < 100) : dec n = [UInt8.ofNat (48 + n.toNat / 10), UInt8.ofNat (48 + n.toNat % 10)] := by
  unfold dec decN
  rw [if_neg (by omega)]
theorem numberF_is {s t : Bs} {n : Int} (h : numberF s = some (n, t)) : s = dec n ++ t ∧ 0 ≤ n ∧ n ≤ 12 ∧ (n = 0 ∨ noDig t) := by
  unfold numberF at h
  split at h
  · cases h
  · rename_i d u hd
    obtain ⟨c, rfl, rfl, hc0, hc1⟩ := digitF_is hd
    have ec : c = UInt8.ofNat (48 + (c.toNat - 48)) := byte_is (by omega) (by omega)
    unfold numF at h
    split at h
    · simp only [Option.some.injEq, Prod.mk.injEq] at h
      obtain ⟨rfl, rfl⟩ := h
      refine ⟨?_, by omega, by omega, Or.inl (by omega)⟩
      rw [dec_oneI (by omega) (by omega), show ((c.toNat : Int) - 48).toNat = c.toNat - 48 by omega, ← ec]
      rfl
    · rename_i hp
      split at h
      · rename_i hn
        simp only [Option.some.injEq, Prod.mk.injEq] at h
        obtain ⟨rfl, rfl⟩ := h
        refine ⟨?_, by omega, by omega, Or.inr (digitF_none hn)⟩
        rw [dec_oneI (by omega) (by omega), show ((c.toNat : Int) - 48).toNat = c.toNat - 48 by omega, ← ec]
        rfl
      · rename_i d2 v hd2
        obtain ⟨c2, rfl, rfl, hc2, hc3⟩ := digitF_is hd2
        have ec2 : c2 = UInt8.ofNat (48 + (c2.toNat - 48)) := byte_is (by omega) (by omega)
        split at h
        · cases h
        · rename_i hle
          unfold numF at h
          split at h
          · omega
          · split at h
            · rename_i hn
              simp only [Option.some.injEq, Prod.mk.injEq] at h
              obtain ⟨rfl, rfl⟩ := h
              refine ⟨?_, by omega, by omega, Or.inr (digitF_none hn)⟩
              rw [dec_twoI (by omega) (by omega), show (10 * ((c.toNat : Int) - 48) + ((c2.toNat : Int) - 48)).toNat / 10 = c.toNat - 48 by omega, show (10 * ((c.toNat : Int) - 48) + ((c2.toNat : Int) - 48)).toNat % 10 = c2.toNat - 48 by omega, ← ec, ← ec2]
              rfl
            · rename_i d3 z hd3
              obtain ⟨c3, rfl, rfl, hc4, hc5⟩ := digitF_is hd3
              split at h
              · cases h
              · omega
theorem digitF_dig {d : Nat} (hd : d < 10) (t : Bs) : digitF (UInt8.ofNat (48 + d) :: t) = some ((d : Int), t) := by
  change (if 48 ≤ (UInt8.ofNat (48 + d)).toNat ∧ (UInt8.ofNat (48 + d)).toNat ≤ 57 then some (((UInt8.ofNat (48 + d)).toNat : Int) - 48, t) else none) = _
  rw [dig_at hd, if_pos (by omega), show ((48 + d : Nat) : Int) - 48 = d by omega]
theorem numberF_dec {n : Int} (h0 : 0 ≤ n) (h1 : n ≤ 12) {t : Bs} (h : n = 0 ∨ noDig t) : numberF (dec n ++ t) = some (n, t) := by
  by_cases h2 : n < 10
  · rw [dec_oneI h0 h2]
    show numberF (UInt8.ofNat (48 + n.toNat) :: t) = _
    unfold numberF
    rw [digitF_dig (show n.toNat < 10 by omega)]
    dsimp only
    rw [show ((n.toNat : Nat) : Int) = n by omega]
    unfold numF
    by_cases hz : n ≤ 0
    · rw [if_pos hz]
    · rw [if_neg hz, digitF_no (h.resolve_left (by omega))]
  · rw [dec_twoI (by omega) (by omega)]
    show numberF (UInt8.ofNat (48 + n.toNat / 10) :: UInt8.ofNat (48 + n.toNat % 10) :: t) = _
    unfold numberF
    rw [digitF_dig (show n.toNat / 10 < 10 by omega)]
    dsimp only
    unfold numF
    rw [if_neg (by omega), digitF_dig (show n.toNat % 10 < 10 by omega)]
    dsimp only
    rw [show 10 * ((n.toNat / 10 : Nat) : Int) + ((n.toNat % 10 : Nat) : Int) = n by omega, if_neg (by omega)]
    unfold numF
    rw [if_neg (by omega), digitF_no (h.resolve_left (by omega))]
/-- A leaf's name that is read is how this leaf is written. -/
theorem noDig_plus (t : Bs) : noDig (43 :: t) := by
  intro c hc
  simp only [List.head?_cons, Option.some.injEq] at hc
  subst hc
  rfl
theorem leafName_is {s : Bs} {r l n p : Int} (h : allF (leafNameF s) = some (r, l, n, p)) : sigB r l = true ∧ possibleB n p = true ∧ s = nameT r l n p := by
  cases hq : leafNameF s with
  | none => rw [hq] at h; cases h
  | some x =>
    obtain ⟨q, t⟩ := x
    rw [hq] at h
    cases t with
    | cons c t => cases h
    | nil =>
      simp only [allF, Option.some.injEq] at h
      subst h
      unfold leafNameF at hq
      split at hq
      · cases hq
      · rename_i a u ha
        split at hq
        · cases hq
        · rename_i n' v hn
          split at hq
          · cases hq
          · rename_i p' z hp
            split at hq
            · rename_i hposs
              simp only [Option.some.injEq, Prod.mk.injEq] at hq
              obtain ⟨⟨rfl, rfl, rfl, rfl⟩, rfl⟩ := hq
              refine ⟨(sigF_len ha).2, hposs, ?_⟩
              rw [sigF_is ha, (numberF_is hn).1]
              unfold nameT
              rw [List.append_assoc]
              congr 2
              unfold plusF at hp
              split at hp
              · simp only [Option.some.injEq, Prod.mk.injEq] at hp
                obtain ⟨rfl, rfl⟩ := hp
                simp
              · rename_i y hy
                split at hp
                · cases hp
                · rename_i p2 z2 hz
                  split at hp
                  · cases hp
                  · rename_i hp0
                    simp only [Option.some.injEq, Prod.mk.injEq] at hp
                    obtain ⟨rfl, rfl⟩ := hp
                    have hz' := numberF_is hz
                    rw [skipF_is hy, hz'.1, if_pos (by omega)]
                    simp
            · cases hq
theorem possible_rng {n p : Int} (h : possibleB n p = true) : 0 ≤ n ∧ n ≤ 12 ∧ 0 ≤ p ∧ p ≤ 4 ∧ ¬ (n = 0 ∧ p = 0) := by
  unfold possibleB inB at h
  simp only [Bool.and_eq_true, Bool.not_eq_true', Bool.and_eq_false_iff, decide_eq_true_eq, decide_eq_false_iff_not] at h
  omega
theorem possible_of {n p : Int} (h : 0 ≤ n ∧ n ≤ 12 ∧ 0 ≤ p ∧ p ≤ 4 ∧ ¬ (n = 0 ∧ p = 0)) : possibleB n p = true := by
  unfold possibleB inB
  simp only [Bool.and_eq_true, Bool.not_eq_true', Bool.and_eq_false_iff, decide_eq_true_eq, decide_eq_false_iff_not]
  omega

/-- Whether a string is as a leaf of some book can be written: as the reference asks. -/
def someF (s : Bs) : Bool := match sigF s with
  | none => false
  | some (_, t) => match cutF 43 t with
    | [_] => inB 1 12 (decF t)
    | [u, v] => inB 0 12 (decF u) && inB 1 4 (decF v)
    | _ => false
theorem dec_clean {n : Int} (h0 : 0 ≤ n) (h1 : n < 100) : (43 : UInt8) ∉ dec n := by
  intro h
  have e : digN n.toNat = dec n := digN_dec (by omega)
  rw [← e] at h
  have := List.all_eq_true.1 (digN_all n.toNat) 43 h
  cases this
theorem joinB_two (c : UInt8) (u v : Bs) : joinB c [u, v] = u ++ c :: v := rfl
theorem some_is (s : Bs) : someF s = (allF (leafNameF s)).isSome := by
  cases hn : allF (leafNameF s) with
  | some q =>
    obtain ⟨r, l, n, p⟩ := q
    obtain ⟨h1, h2, rfl⟩ := leafName_is hn
    have hp := possible_rng h2
    unfold someF nameT
    rw [List.append_assoc, sigF_text h1]
    dsimp only
    by_cases hp0 : 0 < p
    · rw [if_pos hp0, cutF_app 43 _ _ (dec_clean hp.1 (by omega)), cutF_one 43 _ (dec_clean hp.2.2.1 (by omega))]
      dsimp only
      rw [decF_dec hp.1 (by omega), decF_dec hp.2.2.1 (by omega)]
      simp [inB]
      omega
    · rw [if_neg hp0, List.append_nil, cutF_one 43 _ (dec_clean hp.1 (by omega))]
      dsimp only
      rw [decF_dec hp.1 (by omega)]
      simp [inB]
      omega
  | none =>
    show someF s = false
    cases hs : someF s with
    | false => rfl
    | true =>
      exfalso
      unfold someF at hs
      split at hs
      · cases hs
      · rename_i a t ha
        have hsig := (sigF_len ha).2
        have hb : (1 ≤ a.1 ∧ a.1 ≤ 3) ∧ (0 ≤ a.2 ∧ a.2 ≤ 24) := by simp [sigB, inB] at hsig; omega
        have hst := sigF_is ha
        have hj := cutF_join 43 t
        split at hs
        · rename_i u hu
          simp only [inB, Bool.and_eq_true, decide_eq_true_eq] at hs
          have ht := decF_dec_is (u := t) (by omega) (by omega)
          have e : s = nameT a.1 a.2 (decF t) 0 := by
            unfold nameT
            rw [if_neg (by omega), List.append_nil, ← ht]
            exact hst
          have := name_back (r := a.1) (l := a.2) (n := decF t) (p := 0) hb.1 hb.2 (by omega) (by omega) (possible_of (by omega))
          rw [← e, hn] at this
          cases this
        · rename_i u v hu
          rw [hu, joinB_two] at hj
          simp only [inB, Bool.and_eq_true, decide_eq_true_eq] at hs
          have hu' := decF_dec_is (u := u) (by omega) (by omega)
          have hv' := decF_dec_is (u := v) (by omega) (by omega)
          have e : s = nameT a.1 a.2 (decF u) (decF v) := by
            unfold nameT
            rw [if_pos (by omega), ← hu', ← hv', List.append_assoc, hj]
            exact hst
          have := name_back (r := a.1) (l := a.2) (n := decF u) (p := decF v) hb.1 hb.2 (by omega) (by omega) (possible_of (by omega))
          rw [← e, hn] at this
          cases this
        · cases hs
/-- The place of a string among how the leaves are written is where the leaf is that is read. -/
theorem place_find {b : Bk} (he : errF b = 0) {s : Bs} {q : Int × Int × Int × Int} (h : allF (leafNameF s) = some q) (x : Lf) (hx : x ∈ lvs b) : lfText b x = s ↔ nameQ b x = q := by
  obtain ⟨r, l, n, p⟩ := q
  constructor
  · intro e
    have := text_back he hx
    rw [e, h] at this
    exact (Option.some.inj this).symm
  · intro e
    obtain ⟨h1, h2, h3⟩ := leafName_is h
    obtain ⟨g, hg, _⟩ := lvs_mem hx
    unfold nameQ at e
    rw [hg] at e
    simp only [Prod.mk.injEq] at e
    obtain ⟨rfl, rfl, rfl, rfl⟩ := e
    unfold lfText
    rw [hg, h3]
end Go.Proofs.YtlfglbnbenaghaaGreatDoor
