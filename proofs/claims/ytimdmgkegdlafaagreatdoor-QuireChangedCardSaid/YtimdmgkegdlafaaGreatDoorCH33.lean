/- The parts Rt of the proof, joined. It holds without conditions of its own. -/
import Derived.Test.YtimdmgkegdlafaaGreatDoorCH18
import Derived.Laws.RangeAny
/- Contract of Name. -/
namespace Go.Proofs.YtimdmgkegdlafaaGreatDoor
set_option linter.unusedSimpArgs false
set_option linter.unusedVariables false
open Go Go.RowKit Go.Sort Go.BigFrame Go.Lib

/-- Whether a byte may stand in a name, first or behind. -/
def smallB (c : Nat) : Bool := decide (97 ≤ c) && decide (c ≤ 122)
def innerB (c : Nat) : Bool := (decide (48 ≤ c) && decide (c ≤ 57)) || decide (c = 46)
def nameL : Nat → Bs → Bool
  | _, [] => true
  | i, c :: cs => if smallB c.toNat || (decide (i ≠ 0) && innerB c.toNat) then nameL (i + 1) cs else false
def nameB (s : Bs) : Bool := decide (1 ≤ s.length) && decide (s.length ≤ 16) && nameL 0 s

/-- At the rune with a number. -/
structure AtRune (w wr : World) (s : Bs) (k : Nat) : Prop where
  it : wr.heap[w.heap.size + 1]? = some (.stringIter ⟨s.toArray⟩ k)
  below : Below w.heap.size w wr
  rest : nameL 0 s = nameL k (s.drop k)
theorem rune_at {s : Bs} {k : Nat} {c : UInt8} (h : s[k]? = some c) : ∃ r d : Nat, Utf8.decode ⟨s.toArray⟩ k = (r, d) ∧ ((r = c.toNat ∧ d = 1 ∧ r < 128) ∨ (128 ≤ r ∧ 128 ≤ c.toNat)) := by
  obtain ⟨hk, hc⟩ := List.getElem?_eq_some_iff.1 h
  have hk' : k < (⟨s.toArray⟩ : ByteArray).size := by rw [size_bytes]; exact hk
  have hc' : (⟨s.toArray⟩ : ByteArray)[k] = c := by rw [← hc]; rfl
  by_cases ha : c.toNat < 128
  · refine ⟨_, _, decode_ascii _ k hk' (by rw [hc']; exact ha), Or.inl ⟨by rw [hc'], rfl, by rw [hc']; exact ha⟩⟩
  · exact ⟨_, _, rfl, Or.inr ⟨(decode_high _ k hk' (by rw [hc']; omega)).1, by omega⟩⟩

set_option maxHeartbeats 2000000 in
theorem Name_any (s : Bs) (w : World) (hs : s.length ≤ 9223372036854775807) :
    Calls Tryz.prog 39 #[S s] w fun e w' => e = .returned (.bool (nameB s)) ∧ Below w.heap.size w w' := by
  have hzs : (⟨s.toArray⟩ : ByteArray).size = s.length := size_bytes s
  have HZ := Lib.hid hzs
  clear hzs
  cases hl : inB 1 16 s.length with
  | false =>
    have hF : Hid (nameB s = false) := by
      show _ = _
      unfold nameB
      simp only [inB, Bool.and_eq_false_iff, decide_eq_false_iff_not] at hl
      have : (decide (1 ≤ s.length) && decide (s.length ≤ 16)) = false := by
        rcases hl with h | h
        · rw [decide_eq_false (by omega)]; rfl
        · rw [decide_eq_false (p := s.length ≤ 16) (by omega), Bool.and_false]
      rw [this]; rfl
    go_enter Tryz.func39, Tryz.ntmps39
    go_wp2_with fail
    refine (within_one _ _ (s.length : Int) _ _ (by simp [World.cell?_alloc_at])).mono ?_
    rintro e w1 ⟨rfl, rfl⟩
    rw [hl]
    go_wp2_with fail
    go_ret
    exact ⟨by rw [hF.out]; rfl, (by repeat (first | exact Below.refl _ _ | assumption | (refine Below.alloc ?_ ?_ _; rotate_left; · (first | omega | (simp; done) | (simp; omega) | fail)) | (refine Below.setCell ?_ ?_ _; rotate_left; · (first | omega | (simp; done) | (simp; omega) | fail)) | refine Below.drew ?_ | fail))⟩
  | true =>
    have hb : 1 ≤ s.length ∧ s.length ≤ 16 := by
      simp only [inB, Bool.and_eq_true, decide_eq_true_eq] at hl; omega
    have hF0 : Hid (nameB s = nameL 0 s) := by
      show _ = _
      unfold nameB
      rw [decide_eq_true hb.1, decide_eq_true hb.2]; rfl
    obtain ⟨n, hn⟩ : ∃ n, n = s.length := ⟨_, rfl⟩
    have HNN := Lib.hid hn
    have hn16 : n ≤ 16 := by omega
    rw [← hn] at hl
    go_enter Tryz.func39, Tryz.ntmps39
    go_wp2_with fail
    refine (within_one _ _ (s.length : Int) _ _ (by simp [World.cell?_alloc_at])).mono ?_
    rintro e w1 ⟨rfl, rfl⟩
    rw [← hn, hl]
    have H0 : Hid (AtRune w ((w.alloc (.cells #[.int .i64 n] 3)).iter ⟨s.toArray⟩ 0) s 0) :=
      ⟨by have := World.iter_heap (w.alloc (.cells #[.int .i64 n] 3)) ⟨s.toArray⟩ 0; simpa using this, ((Below.refl _ _).alloc (Nat.le_refl _) _).alloc (by simp) _, rfl⟩
    clear hn hl hb hs
    go_wp2_with fail
    go_loopw [3] (fun v wr => ∃ k : Nat, k ≤ n ∧ Hid (AtRune w wr s k)) (fun _ wr => n - wr.iterPos (w.heap.size + 1))
    case atStart => exact ⟨0, by omega, H0⟩
    case round =>
      clear H0
      obtain ⟨k, hk, hA⟩ := hrel
      have HIT := Lib.hid hA.out.it
      by_cases hlt : k < n
      · obtain ⟨c, hc⟩ : ∃ c, s[k]? = some c := ⟨_, List.getElem?_eq_getElem (by have := HNN.out; omega)⟩
        obtain ⟨r, d, hdec, hrd⟩ := rune_at hc
        have hstep : nameL 0 s = if smallB c.toNat || (decide (k ≠ 0) && innerB c.toNat) then nameL (k + 1) (s.drop (k + 1)) else false := by
          rw [hA.out.rest, List.drop_eq_getElem?_toList_append, hc]
          rfl
        have hnx := fun ty => run_next_any_at (P := Tryz.prog) wr (w.heap.size + 1) ⟨s.toArray⟩ k ty hA.out.it (by rw [HZ.out]; have := HNN.out; omega)
        rw [hdec] at hnx
        dsimp only at hnx
        obtain ⟨wn, hwn⟩ : ∃ wn, wn = wr.iterAt (w.heap.size + 1) ⟨s.toArray⟩ (k + d) := ⟨_, rfl⟩
        rw [← hwn] at hnx
        have HBN : Hid (Below w.heap.size w wn) := by rw [hwn]; exact below_iterAt hA.out.below (by omega) _ _
        have hsm : smallB c.toNat = smallB r := by
          rcases hrd with ⟨h, -, -⟩ | ⟨h1, h2⟩
          · rw [h]
          · unfold smallB; rw [decide_eq_false (p := c.toNat ≤ 122) (by omega), decide_eq_false (p := r ≤ 122) (by omega)]; simp
        have hin : innerB c.toNat = innerB r := by
          rcases hrd with ⟨h, -, -⟩ | ⟨h1, h2⟩
          · rw [h]
          · unfold innerB; rw [decide_eq_false (p := c.toNat ≤ 57) (by omega), decide_eq_false (p := r ≤ 57) (by omega), decide_eq_false (p := c.toNat = 46) (by omega), decide_eq_false (p := r = 46) (by omega)]; simp
        rw [hsm, hin] at hstep
        have HST := Lib.hid hstep
        have HNX : (r < 128) → Hid (nameL 0 s = nameL (k + 1) (s.drop (k + 1)) → AtRune w wn s (k + 1)) := fun hr => by
          intro hrest
          have hd1 : d = 1 := by rcases hrd with ⟨-, h, -⟩ | ⟨h, -⟩ <;> omega
          subst hd1
          exact ⟨by rw [hwn]; exact iterAt_heap _ _ _ _ _ hA.out.it, HBN.out, hrest⟩
        clear hwn hstep hsm hin hc hdec hrd hA
        by_cases hk0 : k = 0
        · subst hk0
          have hcs : (97 ≤ r ∧ r ≤ 122) ∨ r < 97 ∨ 122 < r := by omega
          rcases hcs with ⟨h1, h2⟩ | h1 | h1
          · have HN : Hid (AtRune w wn s (0 + 1)) := (HNX (by omega)).out (by rw [HST.out]; simp [smallB, h1, h2])
            clear HNX
            have i1 : (97 : Int) ≤ (r : Int) := by omega
            have i2 : (r : Int) ≤ 122 := by omega
            go_wp2_with fail
            all_goals
              go_roundw
              case rel => exact ⟨0 + 1, by omega, HN.out⟩
              case measure => rw [iterPos_of HIT.out, iterPos_of HN.out.it]; omega
          · have HF : Hid (nameB s = false) := by show _ = _; rw [hF0.out, HST.out]; simp [smallB]; omega
            clear HNX
            have i1 : ¬ (97 : Int) ≤ (r : Int) := by omega
            go_wp2_with fail
            all_goals
              go_ret
              exact ⟨by rw [HF.out]; rfl, HBN.out⟩
          · have HF : Hid (nameB s = false) := by show _ = _; rw [hF0.out, HST.out]; simp [smallB]; omega
            clear HNX
            have i1 : (97 : Int) ≤ (r : Int) := by omega
            have i2 : ¬ (r : Int) ≤ 122 := by omega
            go_wp2_with fail
            all_goals
              go_ret
              exact ⟨by rw [HF.out]; rfl, HBN.out⟩
        · have hkb : ((k : Int) == 0) = false := by simp [hk0]
          have hcs : (97 ≤ r ∧ r ≤ 122) ∨ (48 ≤ r ∧ r ≤ 57) ∨ r = 46 ∨ (r < 48 ∧ r ≠ 46) ∨ (57 < r ∧ r < 97) ∨ 122 < r := by omega
          rcases hcs with ⟨h1, h2⟩ | ⟨h1, h2⟩ | h1 | ⟨h1, h2⟩ | ⟨h1, h2⟩ | h1
          · have HN : Hid (AtRune w wn s (k + 1)) := (HNX (by omega)).out (by rw [HST.out]; simp [smallB, h1, h2])
            clear HNX hk0
            have i1 : (97 : Int) ≤ (r : Int) := by omega
            have i2 : (r : Int) ≤ 122 := by omega
            go_wp2_with fail
            go_roundw
            case rel => exact ⟨k + 1, by omega, HN.out⟩
            case measure => rw [iterPos_of HIT.out, iterPos_of HN.out.it]; omega
          · have HN : Hid (AtRune w wn s (k + 1)) := (HNX (by omega)).out (by rw [HST.out]; simp [innerB, h1, h2, hk0])
            clear HNX hk0
            have i0 : ¬ (97 : Int) ≤ (r : Int) := by omega
            have i1 : (48 : Int) ≤ (r : Int) := by omega
            have i2 : (r : Int) ≤ 57 := by omega
            go_wp2_with fail
            go_roundw
            case rel => exact ⟨k + 1, by omega, HN.out⟩
            case measure => rw [iterPos_of HIT.out, iterPos_of HN.out.it]; omega
          · subst h1
            have HN : Hid (AtRune w wn s (k + 1)) := (HNX (by omega)).out (by rw [HST.out]; simp [innerB, hk0])
            clear HNX hk0
            go_wp2_with fail
            go_roundw
            case rel => exact ⟨k + 1, by omega, HN.out⟩
            case measure => rw [iterPos_of HIT.out, iterPos_of HN.out.it]; omega
          · have HF : Hid (nameB s = false) := by
              show _ = _; rw [hF0.out, HST.out, if_neg]
              simp [smallB, innerB]; omega
            clear HNX hk0
            have i0 : ¬ (97 : Int) ≤ (r : Int) := by omega
            have i1 : ¬ (48 : Int) ≤ (r : Int) := by omega
            have i2 : ((r : Int) == 46) = false := by simp; omega
            go_wp2_with fail
            go_ret
            exact ⟨by rw [HF.out]; rfl, HBN.out⟩
          · have HF : Hid (nameB s = false) := by
              show _ = _; rw [hF0.out, HST.out, if_neg]
              simp [smallB, innerB]; omega
            clear HNX hk0
            have i0 : ¬ (97 : Int) ≤ (r : Int) := by omega
            have i1 : (48 : Int) ≤ (r : Int) := by omega
            have i3 : ¬ (r : Int) ≤ 57 := by omega
            have i2 : ((r : Int) == 46) = false := by simp; omega
            go_wp2_with fail
            go_ret
            exact ⟨by rw [HF.out]; rfl, HBN.out⟩
          · have HF : Hid (nameB s = false) := by
              show _ = _; rw [hF0.out, HST.out, if_neg]
              simp [smallB, innerB]; omega
            clear HNX hk0
            have i0 : (97 : Int) ≤ (r : Int) := by omega
            have i4 : ¬ (r : Int) ≤ 122 := by omega
            have i1 : (48 : Int) ≤ (r : Int) := by omega
            have i3 : ¬ (r : Int) ≤ 57 := by omega
            have i2 : ((r : Int) == 46) = false := by simp; omega
            go_wp2_with fail
            go_ret
            exact ⟨by rw [HF.out]; rfl, HBN.out⟩
      · obtain rfl : k = n := by omega
        have hnx := fun ty => run_next_end_at (P := Tryz.prog) wr (w.heap.size + 1) ⟨s.toArray⟩ k ty hA.out.it (by rw [HZ.out]; have := HNN.out; omega)
        have HF : Hid (nameB s = true) := by
          show _ = _; rw [hF0.out, hA.out.rest, HNN.out, List.drop_length]; rfl
        go_wp2_with fail
        go_ret
        exact ⟨by rw [HF.out]; rfl, hA.out.below⟩

end Go.Proofs.YtimdmgkegdlafaaGreatDoor
