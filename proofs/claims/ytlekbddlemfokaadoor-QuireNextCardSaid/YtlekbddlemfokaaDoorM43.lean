/- The parts Ab, Ac, Na of the proof, joined. It holds without conditions of its own. -/
import Derived.Test.YtlekbddlemfokaaDoorM7
import Derived.Test.YtlekbddlemfokaaDoorM32
import Derived.Test.YtlekbddlemfokaaDoorM33
import Derived.Test.YtlekbddlemfokaaDoorM34
import Derived.Test.YtlekbddlemfokaaDoorM42
import Derived.Test.YtlekbddlemfokaaDoorM21
import Derived.Test.YtlekbddlemfokaaDoorM26
/- What the functions answer for the book of the examples. -/
namespace Go.Proofs.YtlekbddlemfokaaDoor
set_option linter.unusedSimpArgs false
set_option linter.unusedVariables false
open Go Go.RowKit

/-- The formula of the examples' book. -/
def exText : Bs := [112, 105, 50, 32, 65, 45, 67, 56, 32, 68, 56, 40, 45, 51, 44, 61, 53, 44, 56, 43, 49, 41, 32, 99, 104, 105, 49, 32, 36, 52]

theorem ex_err0 : errF (exBook 0) = 0 := by kernel_rfl
theorem ex_err1 : errF (exBook 1) = 0 := by kernel_rfl
theorem ex_write : writeF (exBook 0) = exText := by kernel_rfl
theorem ex_read : readF exText = (exBook 0, 0) := by kernel_rfl
theorem ex_leaf : leafTR (exBook 0) (getL (lvs (exBook 0)) 28) = .tuple #[S [68, 52], .int .i64 0] := by kernel_rfl
theorem ex_find : findR (exBook 0) [68, 56, 43, 49] = .tuple #[.int .i64 33, .int .i64 0] := by kernel_rfl
theorem ex_lost : findR (exBook 0) [68, 51] = .tuple #[.int .i64 0, .int .i64 4] := by kernel_rfl
theorem ex_mate : mateR (mateF (exBook 0) 32) = .tuple #[.int .i64 26, .int .i64 0] := by kernel_rfl
theorem ex_single : mateR (mateF (exBook 0) 34) = .tuple #[.int .i64 0, .int .i64 4] := by kernel_rfl
theorem ex_signs : signsF (exBook 0) = [2, 3, 4, 5, 10, 11, 12, 13, 18, 19, 20, 21, 26, 27, 28] := by kernel_rfl
theorem ex_differ : differR (diffAt 0 (namesF (exBook 0)) (namesF (exBook 1))) = .tuple #[.int .i64 33, .int .i64 0] := by kernel_rfl
theorem ex_name : nameB [97, 46, 57] = true := by kernel_rfl
theorem ex_noname : nameB [57, 97] = false := by kernel_rfl

end Go.Proofs.YtlekbddlemfokaaDoor

/- The law's comparison of two lists of numbers. -/
namespace Go.Proofs.YtlekbddlemfokaaDoor
set_option linter.unusedSimpArgs false
set_option linter.unusedVariables false
open Go Go.RowKit Go.Sort Go.BigFrame Go.Shelf
attribute [local go_sem] Oper.semAt_some putAll

/-- A slice of numbers. -/
def IntsAt (W : World) (v : Value) (xs : List Int) : Prop :=
  ∃ (a : Option Addr) (cap : Nat), v = .slice a xs.length cap ∧ (xs ≠ [] → ∃ g, a = some ⟨g, 0, none⟩ ∧ g < W.heap.size ∧ ∀ i x, xs[i]? = some x → W.cell? ⟨g, i, none⟩ = some (.int .i64 x))
theorem take_step {α : Type} {xs ys : List α} {k : Nat} {x y : α} (hx : xs[k]? = some x) (hy : ys[k]? = some y) (h : xs.take k = ys.take k) (e : x = y) : xs.take (k + 1) = ys.take (k + 1) := by
  rw [List.take_add_one, List.take_add_one, h, hx, hy, e]

set_option maxRecDepth 100000 in
set_option maxHeartbeats 1000000 in
theorem Ints_any (xs ys : List Int) (v u : Value) (w : World) (hv : IntsAt w v xs) (hu : IntsAt w u ys) (hl : xs.length < 1000000) (hl2 : ys.length < 1000000) :
    Calls Tryd.prog 37 #[v, u] w fun e w' => e = .returned (.bool (decide (xs = ys))) ∧ Below w.heap.size w w' := by
  obtain ⟨ax, capx, rfl, hx⟩ := hv
  obtain ⟨ay, capy, rfl, hy⟩ := hu
  have HX := Lib.hid hx
  have HY := Lib.hid hy
  have HB := Lib.hid (Below.refl w.heap.size w)
  clear hx hy
  obtain ⟨n, hn⟩ : ∃ n, n = xs.length := ⟨_, rfl⟩
  obtain ⟨m, hm⟩ : ∃ m, m = ys.length := ⟨_, rfl⟩
  rw [← hn] at hl
  rw [← hm] at hl2
  rw [← hn, ← hm]
  have HN := Lib.hid hn
  have HM := Lib.hid hm
  clear hn hm
  have hB : ∃ B : Bool, ((n : Int) == (m : Int)) = B ∧ Hid ((B = true → n = m) ∧ (B = false → xs ≠ ys)) := by
    by_cases e : n = m
    · exact ⟨true, by simp [e], fun _ => e, fun h => by cases h⟩
    · exact ⟨false, by simp; omega, (fun h => by cases h), fun _ h => e (by rw [HN.out, HM.out, h])⟩
  obtain ⟨B, hBe, HBB⟩ := hB
  go_enter Tryd.func37, Tryd.ntmps37
  go_wp2_with fail
  go_loopw [5, 6] (fun f i wr => ∃ (k q : Nat) (D : Bool), k ≤ n ∧ i = .int .i64 k ∧ wr = w.drewN q ∧ f = .bool D ∧ Hid (D = true → n = m ∧ xs.take k = ys.take k) ∧ Hid (D = false → xs ≠ ys)) (fun _ i _ => n - (intOf i).toNat)
  case atStart => exact ⟨0, 0, B, by omega, rfl, rfl, rfl, fun h => ⟨HBB.out.1 h, rfl⟩, HBB.out.2⟩
  case round =>
    obtain ⟨k, q, D, hk, rfl, rfl, rfl, hT, hF⟩ := hrel
    clear HBB hBe
    cases D with
    | false =>
      have HD : Hid (decide (xs = ys) = false) := decide_eq_false (hF.out rfl)
      clear hT hF
      go_wp2_with fail
      go_ret
      exact ⟨by rw [HD.out]; rfl, bdrewN HB.out _⟩
    | true =>
      obtain ⟨hnm, htk⟩ := hT.out rfl
      clear hT hF
      by_cases hlt : k < n
      · obtain ⟨x, hx⟩ : ∃ x, xs[k]? = some x := ⟨_, List.getElem?_eq_getElem (by have := HN.out; omega)⟩
        obtain ⟨y, hy⟩ : ∃ y, ys[k]? = some y := ⟨_, List.getElem?_eq_getElem (by have := HM.out; omega)⟩
        obtain ⟨gx, rfl, -, hcx⟩ := HX.out (fun e => by rw [e] at hx; cases hx)
        obtain ⟨gy, rfl, -, hcy⟩ := HY.out (fun e => by rw [e] at hy; cases hy)
        have x0 := hcx k x hx
        have y0 := hcy k y hy
        have HXX := Lib.hid hx
        have HYY := Lib.hid hy
        have HTK := Lib.hid htk
        have hkm : k < m := by omega
        clear hcx hcy hx hy htk
        go_wp2_with fail
        by_cases hxy : x = y
        · subst hxy
          go_quiet (fail)
          go_wp2_with fail
          go_roundw
          case rel => exact ⟨k + 1, q + nq, true, by omega, by go_num, rfl, by simp, (fun _ => ⟨hnm, take_step HXX.out HYY.out HTK.out rfl⟩), (fun h => by cases h)⟩
          case measure => simp [intOf]; omega
        · have HNE : Hid (xs ≠ ys) := fun e => by have h1 := HXX.out; rw [e, HYY.out] at h1; cases h1; exact hxy rfl
          go_quiet (fail)
          go_wp2_with fail
          go_roundw
          case rel => exact ⟨k + 1, q + nq, false, by omega, by go_num, rfl, by simp [hxy], (fun h => by cases h), (fun _ => HNE.out)⟩
          case measure => simp [intOf]; omega
      · have hkn : k = n := by omega
        have HD : Hid (decide (xs = ys) = true) := decide_eq_true (by
          have h1 := htk
          rw [hkn, HN.out, List.take_length, ← HN.out, hnm, HM.out, List.take_length] at h1
          exact h1)
        subst hkn
        clear htk
        go_wp2_with fail
        go_ret
        exact ⟨by rw [HD.out]; rfl, bdrewN HB.out _⟩

end Go.Proofs.YtlekbddlemfokaaDoor

/- Where a word is first in a list of words, as the law's helper finds it. -/
namespace Go.Proofs.YtlekbddlemfokaaDoor
set_option linter.unusedSimpArgs false
set_option linter.unusedVariables false
open Go Go.RowKit Go.Sort Go.BigFrame Go.Shelf
attribute [local go_sem] Oper.semAt_some putAll

/-- The first place of a word. -/
def placeN (y : Bs) : List Bs → Nat → Option Nat
  | [], _ => none
  | x :: xs, i => if x = y then some i else placeN y xs (i + 1)
def placeF (xs : List Bs) (y : Bs) : Int := match placeN y xs 0 with
  | some i => i
  | none => -1
theorem placeN_found (y : Bs) : ∀ (xs : List Bs) (k i : Nat), xs[i]? = some y → (∀ j, j < i → xs[j]? ≠ some y) → placeN y xs k = some (k + i)
  | [], k, i, h, _ => by simp at h
  | x :: xs, k, 0, h, _ => by
    have : x = y := by simpa using h
    simp [placeN, this]
  | x :: xs, k, i + 1, h, hj => by
    have h0 : x ≠ y := by simpa using hj 0 (by omega)
    rw [placeN, if_neg h0, placeN_found y xs (k + 1) i (by simpa using h) fun j hl => by simpa using hj (j + 1) (by omega)]
    congr 1; omega
theorem placeN_none (y : Bs) : ∀ (xs : List Bs) (k : Nat), (∀ j : Nat, xs[j]? ≠ some y) → placeN y xs k = none
  | [], _, _ => rfl
  | x :: xs, k, h => by
    have h0 : x ≠ y := by simpa using h 0
    rw [placeN, if_neg h0]
    exact placeN_none y xs (k + 1) fun j => by simpa using h (j + 1)
theorem place_found {xs : List Bs} {y : Bs} {i : Nat} (h : xs[i]? = some y) (hj : ∀ j, j < i → xs[j]? ≠ some y) : placeF xs y = i := by
  unfold placeF; rw [placeN_found y xs 0 i h hj]; simp
theorem place_none {xs : List Bs} {y : Bs} (h : ∀ j : Nat, xs[j]? ≠ some y) : placeF xs y = -1 := by
  unfold placeF; rw [placeN_none y xs 0 h]

/-- A slice of strings. -/
def StrsAt (W : World) (v : Value) (xs : List Bs) : Prop :=
  ∃ (a : Option Addr) (cap : Nat), v = .slice a xs.length cap ∧ (xs ≠ [] → ∃ g, a = some ⟨g, 0, none⟩ ∧ g < W.heap.size ∧ ∀ i x, xs[i]? = some x → W.cell? ⟨g, i, none⟩ = some (S x))
theorem StrsAt.later {W W' : World} {v : Value} {xs : List Bs} (h : StrsAt W v xs) (hb : Below W.heap.size W W') : StrsAt W' v xs := by
  obtain ⟨a, cap, rfl, h⟩ := h
  refine ⟨a, cap, rfl, fun hne => ?_⟩
  obtain ⟨g, rfl, hg, hc⟩ := h hne
  exact ⟨g, rfl, Nat.lt_of_lt_of_le hg hb.size, fun i x hx => (hb.cell (p := ⟨g, i, none⟩) hg).trans (hc i x hx)⟩

set_option maxRecDepth 100000 in
set_option maxHeartbeats 1000000 in
theorem Place_any (xs : List Bs) (v : Value) (y : Bs) (w : World) (hv : StrsAt w v xs) (hl : xs.length < 1000000) :
    Calls Tryd.prog 16 #[v, S y] w fun e w' => e = .returned (.int .i64 (placeF xs y)) ∧ Below w.heap.size w w' := by
  obtain ⟨a, cap, rfl, hx⟩ := hv
  have HX := Lib.hid hx
  have HB := Lib.hid (Below.refl w.heap.size w)
  clear hx
  obtain ⟨n, hn⟩ : ∃ n, n = xs.length := ⟨_, rfl⟩
  rw [← hn] at hl
  rw [← hn]
  have HN := Lib.hid hn
  clear hn
  go_enter Tryd.func16, Tryd.ntmps16
  go_wp2_with fail
  go_loopw [5] (fun i wr => ∃ (k : Nat), k ≤ n ∧ i = .int .i64 ((k : Int) - 1) ∧ wr = w ∧ Hid (∀ j, k ≤ j → xs[j]? ≠ some y)) (fun i _ => (intOf i + 1).toNat)
  case atStart =>
    refine ⟨n, by omega, by go_num, rfl, fun j hj e => ?_⟩
    have := (List.getElem?_eq_some_iff.1 e).1
    have := HN.out
    omega
  case round =>
    obtain ⟨k, hk, rfl, rfl, hA⟩ := hrel
    cases k with
    | zero =>
      have hm : (((0 : Nat) : Int) - 1) = -1 := rfl
      rw [hm]
      clear hm
      have hN : Hid (placeF xs y = -1) := place_none fun j => hA.out j (Nat.zero_le j)
      go_wp2_with fail
      go_loopw [6] (fun i wr' => i = .int .i64 0 ∧ wr' = wr) (fun _ _ => 0)
      case atStart => exact ⟨rfl, rfl⟩
      case round =>
        obtain ⟨rfl, rfl⟩ := hrel
        go_wp2_with fail
        go_ret
        exact ⟨by rw [hN.out]; rfl, HB.out⟩
    | succ k =>
      obtain ⟨x, hx⟩ : ∃ x, xs[k]? = some x := ⟨_, List.getElem?_eq_getElem (by have := HN.out; omega)⟩
      obtain ⟨g, rfl, -, hc⟩ := HX.out (fun e => by rw [e] at hx; cases hx)
      have x0 := hc k x hx
      have HXX := Lib.hid hx
      have HC := Lib.hid hc
      clear hc hx
      have hk1 : ((k + 1 : Nat) : Int) - 1 = k := by omega
      rw [hk1]
      go_wp2_with fail
      · rename_i hne
        have HNE : Hid (x ≠ y) := Lib.hid (by simpa using hne)
        clear hne
        go_wp2_with fail
        go_roundw
        case rel =>
          refine ⟨k, by omega, by go_num, by first | rfl | trivial, fun j hj => ?_⟩
          by_cases e : j = k
          · subst e; rw [HXX.out]; simpa using HNE.out
          · exact hA.out j (by omega)
        case measure => simp [intOf] <;> omega
      · rename_i heq _ _
        have HE : Hid (x = y) := Lib.hid (by simpa using heq)
        clear heq x0 hA
        go_wp2_with fail
        go_loopw [6] (fun i wr' => ∃ (j : Nat), j ≤ k ∧ i = .int .i64 j ∧ wr' = wr ∧ Hid (∀ l, l < j → xs[l]? ≠ some y)) (fun i _ => k - (intOf i).toNat)
        case atStart => exact ⟨0, by omega, rfl, rfl, fun l hl => by omega⟩
        case round =>
          obtain ⟨j, hj, rfl, rfl, hF⟩ := hrel
          by_cases hlt : j < k
          · obtain ⟨z, hz⟩ : ∃ z, xs[j]? = some z := ⟨_, List.getElem?_eq_getElem (by have := HN.out; omega)⟩
            have z0 := HC.out j z hz
            have HZZ := Lib.hid hz
            clear hz
            go_wp2_with fail
            · rename_i heq
              have hzy : z = y := by simpa using heq
              clear heq
              have hN : Hid (placeF xs y = j) := place_found (hzy ▸ HZZ.out) hF.out
              clear hF hzy
              go_wp2_with fail
              go_ret
              exact ⟨by rw [hN.out]; rfl, HB.out⟩
            · rename_i hne
              have hzy : Hid (z ≠ y) := Lib.hid (by simpa using hne)
              clear hne
              go_wp2_with fail
              go_roundw
              case rel =>
                refine ⟨j + 1, by omega, by go_num, by first | rfl | trivial, fun l hl => ?_⟩
                by_cases e : l = j
                · subst e; rw [HZZ.out]; simpa using hzy.out
                · exact hF.out l (by omega)
              case measure => simp [intOf] <;> omega
          · have hjk : j = k := by omega
            subst hjk
            have hN : Hid (placeF xs y = j) := place_found (HE.out ▸ HXX.out) hF.out
            clear hF
            go_wp2_with fail
            go_ret
            exact ⟨by rw [hN.out]; rfl, HB.out⟩

end Go.Proofs.YtlekbddlemfokaaDoor
