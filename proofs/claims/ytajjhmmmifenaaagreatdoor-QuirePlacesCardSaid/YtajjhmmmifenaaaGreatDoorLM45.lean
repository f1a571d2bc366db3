/- The parts Ab, Ac of the proof, joined. It holds without conditions of its own. -/
import Derived.Test.YtajjhmmmifenaaaGreatDoorLM34
import Derived.Test.YtajjhmmmifenaaaGreatDoorLM32
import Derived.Test.YtajjhmmmifenaaaGreatDoorLM36
import Derived.Test.YtajjhmmmifenaaaGreatDoorLM37
import Derived.Test.YtajjhmmmifenaaaGreatDoorLM44
import Derived.Test.YtajjhmmmifenaaaGreatDoorLM23
import Derived.Test.YtajjhmmmifenaaaGreatDoorLM28
/- What the functions answer for the book of the examples. -/
namespace Go.Proofs.YtajjhmmmifenaaaGreatDoor
set_option linter.unusedSimpArgs false
set_option linter.unusedVariables false
open Go Go.RowKit

/-- The formula of the examples' book. -/
def exText : Bs := [112, 105, 50, 32, 65, 45, 67, 56, 32, 68, 56, 40, 45, 51, 44, 61, 53, 44, 56, 43, 49, 41, 32, 99, 104, 105, 49, 32, 36, 52]

theorem ex_err0 : errF (exBook 0) = 0 := by kernel_rfl
theorem ex_err1 : errF (exBook 1) = 0 := by kernel_rfl
theorem ex_write : writeF (exBook 0) = exText := by kernel_rfl
theorem ex_read : readF exText = (exBook 0, 0) := by kernel_rfl
theorem ex_leaf : leafTR (exBook 0) (getL (lvs (exBook 0)) 28) = .tuple #[S [68, 52], .int .i64 0] := by kernel_rfl
theorem ex_find : findR (exBook 0) [68, 56, 43, 49] = .tuple #[.int .i64 33, .int .i64 0] := by kernel_rfl
theorem ex_lost : findR (exBook 0) [68, 51] = .tuple #[.int .i64 0, .int .i64 4] := by kernel_rfl
theorem ex_mate : mateR (mateF (exBook 0) 32) = .tuple #[.int .i64 26, .int .i64 0] := by kernel_rfl
theorem ex_single : mateR (mateF (exBook 0) 34) = .tuple #[.int .i64 0, .int .i64 4] := by kernel_rfl
theorem ex_signs : signsF (exBook 0) = [2, 3, 4, 5, 10, 11, 12, 13, 18, 19, 20, 21, 26, 27, 28] := by kernel_rfl
theorem ex_differ : differR (diffAt 0 (namesF (exBook 0)) (namesF (exBook 1))) = .tuple #[.int .i64 33, .int .i64 0] := by kernel_rfl
theorem ex_name : nameB [97, 46, 57] = true := by kernel_rfl
theorem ex_noname : nameB [57, 97] = false := by kernel_rfl

end Go.Proofs.YtajjhmmmifenaaaGreatDoor

/- The law's comparison of two lists of numbers. -/
namespace Go.Proofs.YtajjhmmmifenaaaGreatDoor
set_option linter.unusedSimpArgs false
set_option linter.unusedVariables false
open Go Go.RowKit Go.Sort Go.BigFrame Go.Shelf
attribute [local go_sem] Oper.semAt_some putAll

/-- A slice of numbers. -/
def IntsAt (W : World) (v : Value) (xs : List Int) : Prop :=
  ∃ (a : Option Addr) (cap : Nat), v = .slice a xs.length cap ∧ (xs ≠ [] → ∃ g, a = some ⟨g, 0, none⟩ ∧ g < W.heap.size ∧ ∀ i x, xs[i]? = some x → W.cell? ⟨g, i, none⟩ = some (.int .i64 x))
theorem take_step {α : Type} {xs ys : List α} {k : Nat} {x y : α} (hx : xs[k]? = some x) (hy : ys[k]? = some y) (h : xs.take k = ys.take k) (e : x = y) : xs.take (k + 1) = ys.take (k + 1) := by
  rw [List.take_add_one, List.take_add_one, h, hx, hy, e]

set_option maxRecDepth 100000 in
set_option maxHeartbeats 1000000 in
theorem Ints_any (xs ys : List Int) (v u : Value) (w : World) (hv : IntsAt w v xs) (hu : IntsAt w u ys) (hl : xs.length < 1000000) (hl2 : ys.length < 1000000) :
    Calls Tryz.prog 31 #[v, u] w fun e w' => e = .returned (.bool (decide (xs = ys))) ∧ Below w.heap.size w w' := by
  obtain ⟨ax, capx, rfl, hx⟩ := hv
  obtain ⟨ay, capy, rfl, hy⟩ := hu
  have HX := Lib.hid hx
  have HY := Lib.hid hy
  have HB := Lib.hid (Below.refl w.heap.size w)
  clear hx hy
  obtain ⟨n, hn⟩ : ∃ n, n = xs.length := ⟨_, rfl⟩
  obtain ⟨m, hm⟩ : ∃ m, m = ys.length := ⟨_, rfl⟩
  rw [← hn] at hl
  rw [← hm] at hl2
  rw [← hn, ← hm]
  have HN := Lib.hid hn
  have HM := Lib.hid hm
  clear hn hm
  have hB : ∃ B : Bool, ((n : Int) == (m : Int)) = B ∧ Hid ((B = true → n = m) ∧ (B = false → xs ≠ ys)) := by
    by_cases e : n = m
    · exact ⟨true, by simp [e], fun _ => e, fun h => by cases h⟩
    · exact ⟨false, by simp; omega, (fun h => by cases h), fun _ h => e (by rw [HN.out, HM.out, h])⟩
  obtain ⟨B, hBe, HBB⟩ := hB
  go_enter Tryz.func31, Tryz.ntmps31
  go_wp2_with fail
  go_loopw [5, 6] (fun f i wr => ∃ (k q : Nat) (D : Bool), k ≤ n ∧ i = .int .i64 k ∧ wr = w.drewN q ∧ f = .bool D ∧ Hid (D = true → n = m ∧ xs.take k = ys.take k) ∧ Hid (D = false → xs ≠ ys)) (fun _ i _ => n - (intOf i).toNat)
  case atStart => exact ⟨0, 0, B, by omega, rfl, rfl, rfl, fun h => ⟨HBB.out.1 h, rfl⟩, HBB.out.2⟩
  case round =>
    obtain ⟨k, q, D, hk, rfl, rfl, rfl, hT, hF⟩ := hrel
    clear HBB hBe
    cases D with
    | false =>
      have HD : Hid (decide (xs = ys) = false) := decide_eq_false (hF.out rfl)
      clear hT hF
      go_wp2_with fail
      go_ret
      exact ⟨by rw [HD.out]; rfl, bdrewN HB.out _⟩
    | true =>
      obtain ⟨hnm, htk⟩ := hT.out rfl
      clear hT hF
      by_cases hlt : k < n
      · obtain ⟨x, hx⟩ : ∃ x, xs[k]? = some x := ⟨_, List.getElem?_eq_getElem (by have := HN.out; omega)⟩
        obtain ⟨y, hy⟩ : ∃ y, ys[k]? = some y := ⟨_, List.getElem?_eq_getElem (by have := HM.out; omega)⟩
        obtain ⟨gx, rfl, -, hcx⟩ := HX.out (fun e => by rw [e] at hx; cases hx)
        obtain ⟨gy, rfl, -, hcy⟩ := HY.out (fun e => by rw [e] at hy; cases hy)
        have x0 := hcx k x hx
        have y0 := hcy k y hy
        have HXX := Lib.hid hx
        have HYY := Lib.hid hy
        have HTK := Lib.hid htk
        have hkm : k < m := by omega
        clear hcx hcy hx hy htk
        go_wp2_with fail
        by_cases hxy : x = y
        · subst hxy
          go_quiet (fail)
          go_wp2_with fail
          go_roundw
          case rel => exact ⟨k + 1, q + nq, true, by omega, by go_num, rfl, by simp, (fun _ => ⟨hnm, take_step HXX.out HYY.out HTK.out rfl⟩), (fun h => by cases h)⟩
          case measure => simp [intOf]; omega
        · have HNE : Hid (xs ≠ ys) := fun e => by have h1 := HXX.out; rw [e, HYY.out] at h1; cases h1; exact hxy rfl
          go_quiet (fail)
          go_wp2_with fail
          go_roundw
          case rel => exact ⟨k + 1, q + nq, false, by omega, by go_num, rfl, by simp [hxy], (fun h => by cases h), (fun _ => HNE.out)⟩
          case measure => simp [intOf]; omega
      · have hkn : k = n := by omega
        have HD : Hid (decide (xs = ys) = true) := decide_eq_true (by
          have h1 := htk
          rw [hkn, HN.out, List.take_length, ← HN.out, hnm, HM.out, List.take_length] at h1
          exact h1)
        subst hkn
        clear htk
        go_wp2_with fail
        go_ret
        exact ⟨by rw [HD.out]; rfl, bdrewN HB.out _⟩

end Go.Proofs.YtajjhmmmifenaaaGreatDoor
