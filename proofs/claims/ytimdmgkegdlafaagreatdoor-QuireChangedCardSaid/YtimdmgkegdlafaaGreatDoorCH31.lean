/- The parts Ac, Lh, Co, Cp, Cg of the proof, joined. It holds without conditions of its own. -/
import Derived.Test.YtimdmgkegdlafaaGreatDoorCH17
import Derived.Test.YtimdmgkegdlafaaGreatDoorCH30
import Derived.Test.YtimdmgkegdlafaaGreatDoorCH27
import Derived.Test.YtimdmgkegdlafaaGreatDoorCH26
/- The law's comparison of two lists of numbers. -/
namespace Go.Proofs.YtimdmgkegdlafaaGreatDoor
set_option linter.unusedSimpArgs false
set_option linter.unusedVariables false
open Go Go.RowKit Go.Sort Go.BigFrame Go.Shelf
attribute [local go_sem] Oper.semAt_some putAll

/-- A slice of numbers. -/
def IntsAt (W : World) (v : Value) (xs : List Int) : Prop :=
  ∃ (a : Option Addr) (cap : Nat), v = .slice a xs.length cap ∧ (xs ≠ [] → ∃ g, a = some ⟨g, 0, none⟩ ∧ g < W.heap.size ∧ ∀ i x, xs[i]? = some x → W.cell? ⟨g, i, none⟩ = some (.int .i64 x))
theorem take_step {α : Type} {xs ys : List α} {k : Nat} {x y : α} (hx : xs[k]? = some x) (hy : ys[k]? = some y) (h : xs.take k = ys.take k) (e : x = y) : xs.take (k + 1) = ys.take (k + 1) := by
  rw [List.take_add_one, List.take_add_one, h, hx, hy, e]

set_option maxRecDepth 100000 in
set_option maxHeartbeats 1000000 in
theorem Ints_any (xs ys : List Int) (v u : Value) (w : World) (hv : IntsAt w v xs) (hu : IntsAt w u ys) (hl : xs.length < 1000000) (hl2 : ys.length < 1000000) :
    Calls Tryz.prog 38 #[v, u] w fun e w' => e = .returned (.bool (decide (xs = ys))) ∧ Below w.heap.size w w' := by
  obtain ⟨ax, capx, rfl, hx⟩ := hv
  obtain ⟨ay, capy, rfl, hy⟩ := hu
  have HX := Lib.hid hx
  have HY := Lib.hid hy
  have HB := Lib.hid (Below.refl w.heap.size w)
  clear hx hy
  obtain ⟨n, hn⟩ : ∃ n, n = xs.length := ⟨_, rfl⟩
  obtain ⟨m, hm⟩ : ∃ m, m = ys.length := ⟨_, rfl⟩
  rw [← hn] at hl
  rw [← hm] at hl2
  rw [← hn, ← hm]
  have HN := Lib.hid hn
  have HM := Lib.hid hm
  clear hn hm
  have hB : ∃ B : Bool, ((n : Int) == (m : Int)) = B ∧ Hid ((B = true → n = m) ∧ (B = false → xs ≠ ys)) := by
    by_cases e : n = m
    · exact ⟨true, by simp [e], fun _ => e, fun h => by cases h⟩
    · exact ⟨false, by simp; omega, (fun h => by cases h), fun _ h => e (by rw [HN.out, HM.out, h])⟩
  obtain ⟨B, hBe, HBB⟩ := hB
  go_enter Tryz.func38, Tryz.ntmps38
  go_wp2_with fail
  go_loopw [5, 6] (fun f i wr => ∃ (k q : Nat) (D : Bool), k ≤ n ∧ i = .int .i64 k ∧ wr = w.drewN q ∧ f = .bool D ∧ Hid (D = true → n = m ∧ xs.take k = ys.take k) ∧ Hid (D = false → xs ≠ ys)) (fun _ i _ => n - (intOf i).toNat)
  case atStart => exact ⟨0, 0, B, by omega, rfl, rfl, rfl, fun h => ⟨HBB.out.1 h, rfl⟩, HBB.out.2⟩
  case round =>
    obtain ⟨k, q, D, hk, rfl, rfl, rfl, hT, hF⟩ := hrel
    clear HBB hBe
    cases D with
    | false =>
      have HD : Hid (decide (xs = ys) = false) := decide_eq_false (hF.out rfl)
      clear hT hF
      go_wp2_with fail
      go_ret
      exact ⟨by rw [HD.out]; rfl, bdrewN HB.out _⟩
    | true =>
      obtain ⟨hnm, htk⟩ := hT.out rfl
      clear hT hF
      by_cases hlt : k < n
      · obtain ⟨x, hx⟩ : ∃ x, xs[k]? = some x := ⟨_, List.getElem?_eq_getElem (by have := HN.out; omega)⟩
        obtain ⟨y, hy⟩ : ∃ y, ys[k]? = some y := ⟨_, List.getElem?_eq_getElem (by have := HM.out; omega)⟩
        obtain ⟨gx, rfl, -, hcx⟩ := HX.out (fun e => by rw [e] at hx; cases hx)
        obtain ⟨gy, rfl, -, hcy⟩ := HY.out (fun e => by rw [e] at hy; cases hy)
        have x0 := hcx k x hx
        have y0 := hcy k y hy
        have HXX := Lib.hid hx
        have HYY := Lib.hid hy
        have HTK := Lib.hid htk
        have hkm : k < m := by omega
        clear hcx hcy hx hy htk
        go_wp2_with fail
        by_cases hxy : x = y
        · subst hxy
          go_quiet (fail)
          go_wp2_with fail
          go_roundw
          case rel => exact ⟨k + 1, q + nq, true, by omega, by go_num, rfl, by simp, (fun _ => ⟨hnm, take_step HXX.out HYY.out HTK.out rfl⟩), (fun h => by cases h)⟩
          case measure => simp [intOf]; omega
        · have HNE : Hid (xs ≠ ys) := fun e => by have h1 := HXX.out; rw [e, HYY.out] at h1; cases h1; exact hxy rfl
          go_quiet (fail)
          go_wp2_with fail
          go_roundw
          case rel => exact ⟨k + 1, q + nq, false, by omega, by go_num, rfl, by simp [hxy], (fun h => by cases h), (fun _ => HNE.out)⟩
          case measure => simp [intOf]; omega
      · have hkn : k = n := by omega
        have HD : Hid (decide (xs = ys) = true) := decide_eq_true (by
          have h1 := htk
          rw [hkn, HN.out, List.take_length, ← HN.out, hnm, HM.out, List.take_length] at h1
          exact h1)
        subst hkn
        clear htk
        go_wp2_with fail
        go_ret
        exact ⟨by rw [HD.out]; rfl, bdrewN HB.out _⟩

end Go.Proofs.YtimdmgkegdlafaaGreatDoor

/- Small functions of the reference over lists: Has, Alike, Before. -/
namespace Go.Proofs.YtimdmgkegdlafaaGreatDoor
set_option linter.unusedSimpArgs false
set_option linter.unusedVariables false
open Go Go.RowKit Go.Sort Go.BigFrame Go.Shelf
attribute [local go_sem] Oper.semAt_some putAll

theorem IntsAt.get {W : World} {a : Option Addr} {n cap : Nat} {xs : List Int} (h : IntsAt W (.slice a n cap) xs) {i : Nat} {x : Int} (hx : xs[i]? = some x) : ∃ g, a = some ⟨g, 0, none⟩ ∧ g < W.heap.size ∧ W.cell? ⟨g, i, none⟩ = some (.int .i64 x) := by
  obtain ⟨a', cap', e, hc⟩ := h
  cases e
  obtain ⟨g, h1, h2, h3⟩ := hc (fun e => by rw [e] at hx; cases hx)
  exact ⟨g, h1, h2, h3 i x hx⟩
theorem not_mem_take {xs : List Int} {k : Nat} {x z : Int} (hx : xs[k]? = some x) (h : z ∉ xs.take k) (hne : x ≠ z) : z ∉ xs.take (k + 1) := by
  rw [List.take_add_one, hx]
  simp only [Option.toList_some, List.mem_append, List.mem_singleton, not_or]
  exact ⟨h, fun e => hne e.symm⟩

end Go.Proofs.YtimdmgkegdlafaaGreatDoor

/- The reference's Pair and Mate. -/
namespace Go.Proofs.YtimdmgkegdlafaaGreatDoor
set_option linter.unusedSimpArgs false
set_option linter.unusedVariables false
open Go Go.RowKit Go.Sort Go.BigFrame Go.Shelf
attribute [local go_sem] Oper.semAt_some putAll

/-- A leaf at a number is the mate of another, as the reference asks. -/
def pairC (g : Gth) (i k : Nat) (x y : Lf) : Prop := k ≠ i ∧ y.gat = x.gat ∧ y.kind = 0 ∧ y.num + x.num = g.leaves + 1
theorem pair_cond {b : Bk} {i k : Nat} {x y : Lf} {g : Gth} (hx : (lvs b)[i]? = some x) (hy : (lvs b)[k]? = some y) (hg : b.gs[x.gat]? = some g) (hk : x.kind = 0) :
    pairC g i k x y ↔ turnedL b x ≠ x ∧ y = turnedL b x := by
  have px : x.plus = 0 := lvs_plus (List.mem_of_getElem? hx) (by omega)
  rw [turned_is hg]
  constructor
  · rintro ⟨h1, h2, h3, h4⟩
    have py : y.plus = 0 := lvs_plus (List.mem_of_getElem? hy) (by omega)
    have e : y = ⟨x.gat, g.leaves + 1 - x.num, x.plus, x.kind⟩ := by
      cases y
      simp only at *
      simp only [Lf.mk.injEq]
      omega
    refine ⟨fun h => h1 ?_, e⟩
    rw [← e] at h
    rw [h] at hy
    exact sorted_inj (lvs_sorted b) hy hx
  · rintro ⟨h1, rfl⟩
    refine ⟨fun h => h1 ?_, rfl, hk, ?_⟩
    · subst h
      rw [hx] at hy
      exact (Option.some.inj hy).symm
    · show g.leaves + 1 - x.num + x.num = _
      omega
theorem pair_found {b : Bk} {i k : Nat} {x y : Lf} {g : Gth} (hx : (lvs b)[i]? = some x) (hy : (lvs b)[k]? = some y) (hg : b.gs[x.gat]? = some g) (hk : x.kind = 0) (h : pairC g i k x y) : mateF b i = some k := by
  obtain ⟨h1, h2⟩ := (pair_cond hx hy hg hk).1 h
  unfold mateF
  rw [getL_nat, hx]
  dsimp only
  rw [if_pos ⟨hk, h1⟩, ← h2]
  exact find_at (lvs_sorted b) hy
theorem pair_not {b : Bk} {i : Nat} {x : Lf} {g : Gth} (hx : (lvs b)[i]? = some x) (hg : b.gs[x.gat]? = some g) (h : x.kind = 0 → ∀ k y, (lvs b)[k]? = some y → ¬ pairC g i k x y) : mateF b i = none := by
  cases hm : mateF b i with
  | none => rfl
  | some k =>
    unfold mateF at hm
    rw [getL_nat, hx] at hm
    dsimp only at hm
    split at hm
    · rename_i h0
      have hy := find_some hm
      exact absurd ((pair_cond hx hy hg h0.1).2 ⟨h0.2, rfl⟩) (h h0.1 k _ hy)
    · cases hm
def pairF (b : Bk) (n : Int) : Int := match mateF b n with
  | some m => m
  | none => -1

end Go.Proofs.YtimdmgkegdlafaaGreatDoor

/- The reference's Mate. -/
namespace Go.Proofs.YtimdmgkegdlafaaGreatDoor
set_option linter.unusedSimpArgs false
set_option linter.unusedVariables false
open Go Go.RowKit Go.Sort Go.BigFrame Go.Shelf
attribute [local go_sem] Oper.semAt_some putAll

theorem mate_out {b : Bk} {n : Int} (h : inB 0 ((lvs b).length - 1) n = false) : mateF b n = none := by
  have e : getL (lvs b) n = none := by
    cases hx : getL (lvs b) n with
    | none => rfl
    | some x =>
      unfold getL at hx
      split at hx
      · cases hx
      · have := (List.getElem?_eq_some_iff.1 hx).1
        simp [inB] at h
        omega
  unfold mateF
  rw [e]
theorem mate_in {b : Bk} {n : Int} (h : inB 0 ((lvs b).length - 1) n = true) : ∃ (i : Nat) (x : Lf), n = i ∧ (lvs b)[i]? = some x := by
  simp [inB] at h
  exact ⟨n.toNat, _, by omega, List.getElem?_eq_getElem (by omega)⟩

end Go.Proofs.YtimdmgkegdlafaaGreatDoor

/- The reference: how a signature is written; Sig; the signature behind another one; Next. -/
namespace Go.Proofs.YtimdmgkegdlafaaGreatDoor
set_option linter.unusedSimpArgs false
set_option linter.unusedVariables false
open Go Go.RowKit Go.Sort Go.BigFrame

theorem digN_dec3 {r : Int} (h0 : 0 ≤ r) (h1 : r < 100) : digN r.toNat = dec r := digN_dec (by omega)
set_option maxRecDepth 100000 in
set_option maxHeartbeats 800000 in
theorem refWritten_any (r l : Int) (hs : sigB r l = true) (w : World) :
    Calls Tryz.prog 15 #[.agg #[.int .i64 r, .int .i64 l]] w fun e w' => e = .returned (S (sigT r l)) ∧ Below w.heap.size w w' := by
  have hb : 1 ≤ r ∧ r ≤ 3 ∧ 0 ≤ l ∧ l ≤ 24 := by simp [sigB, inB] at hs; omega
  obtain ⟨r1, r2, l1, l2⟩ := hb
  clear hs
  have z2 := dec_len r
  have zr : (⟨(dec r).toArray⟩ : ByteArray).size ≤ 2 := by rw [size_bytes]; exact z2
  have hL : Hid (l = 23 ∧ letterT l = [112, 105] ∨ l = 24 ∧ letterT l = [99, 104, 105] ∨ l < 23 ∧ letterT l = [letterL.getD l.toNat 0]) := Lib.hid (by
    unfold letterT
    by_cases h23 : l = 23
    · exact Or.inl ⟨h23, if_pos h23⟩
    by_cases h24 : l = 24
    · exact Or.inr (Or.inl ⟨h24, by rw [if_neg h23, if_pos h24]⟩)
    · exact Or.inr (Or.inr ⟨by omega, by rw [if_neg h23, if_neg h24]⟩))
  obtain ⟨k, hk⟩ : ∃ k : Nat, r = k := ⟨r.toNat, by omega⟩
  by_cases h : 1 < r
  · have hd : decide (1 < r) = true := decide_eq_true h
    have HE : Hid (sigT r l = dec r ++ letterT l) := Lib.hid (by unfold sigT; rw [if_pos h])
    have hdg := fun W => refDigits_any k (by omega) W
    rw [← hk, show digN k = dec r from by rw [← digN_dec3 (by omega) (by omega), hk]; rfl] at hdg
    have HD := Lib.hid hdg
    clear h hdg hk
    rcases hL.out with ⟨rfl, e⟩ | ⟨rfl, e⟩ | ⟨hl, e⟩
    · have HT := Lib.hid e
      clear e hL
      go_enter Tryz.func15, Tryz.ntmps15
      go_wp2_with fail
      refine (HD.out _).mono ?_
      rintro e w1 ⟨rfl, hb1⟩
      have k1 : w1.cell? ⟨w.heap.size, 1, none⟩ = some (.int .i64 23) := cell_later' hb1 (by simp [World.cell?_alloc_at])
      have hb0 : Below w.heap.size w w1 := Below.trans (by exact (by repeat (first | (refine Below.setCell ?_ ?_ _; rotate_left; · (first | omega | (simp; done) | (simp; omega) | fail)) | (refine Below.alloc ?_ ?_ _; rotate_left; · (first | omega | (simp; done) | (simp; omega) | fail)) | refine Below.drew ?_ | exact Below.refl _ _ | fail))) (hb1.mono (by simp; try omega))
      clear hb1
      go_wp2_with fail
      go_ret
      exact ⟨ret_S (by rw [HE.out, HT.out]; exact cat_bytes _ _), hb0⟩
    · have HT := Lib.hid e
      clear e hL
      go_enter Tryz.func15, Tryz.ntmps15
      go_wp2_with fail
      refine (HD.out _).mono ?_
      rintro e w1 ⟨rfl, hb1⟩
      have k1 : w1.cell? ⟨w.heap.size, 1, none⟩ = some (.int .i64 24) := cell_later' hb1 (by simp [World.cell?_alloc_at])
      have hb0 : Below w.heap.size w w1 := Below.trans (by exact (by repeat (first | (refine Below.setCell ?_ ?_ _; rotate_left; · (first | omega | (simp; done) | (simp; omega) | fail)) | (refine Below.alloc ?_ ?_ _; rotate_left; · (first | omega | (simp; done) | (simp; omega) | fail)) | refine Below.drew ?_ | exact Below.refl _ _ | fail))) (hb1.mono (by simp; try omega))
      clear hb1
      go_wp2_with fail
      go_ret
      exact ⟨ret_S (by rw [HE.out, HT.out]; exact cat_bytes _ _), hb0⟩
    · have HT := Lib.hid e
      clear e hL
      obtain ⟨j, rfl⟩ := Int.eq_ofNat_of_zero_le l1
      rw [Int.toNat_natCast] at HT
      have hj : j < 23 := by omega
      have hc := Lib.hid (letter_cut j hj)
      have b23 : ((j : Int) == 23) = false := by simp; omega
      have b24 : ((j : Int) == 24) = false := by simp; omega
      have d1 : IntKind.i64.wrap ((j : Int) + 1) = ((j + 1 : Nat) : Int) := by rw [IntWalk.i64_in _ (by omega)]; omega
      go_enter Tryz.func15, Tryz.ntmps15
      go_wp2_with fail
      refine (HD.out _).mono ?_
      rintro e w1 ⟨rfl, hb1⟩
      have k1 : w1.cell? ⟨w.heap.size, 1, none⟩ = some (.int .i64 j) := cell_later' hb1 (by simp [World.cell?_alloc_at])
      have hb0 : Below w.heap.size w w1 := Below.trans (by exact (by repeat (first | (refine Below.setCell ?_ ?_ _; rotate_left; · (first | omega | (simp; done) | (simp; omega) | fail)) | (refine Below.alloc ?_ ?_ _; rotate_left; · (first | omega | (simp; done) | (simp; omega) | fail)) | refine Below.drew ?_ | exact Below.refl _ _ | fail))) (hb1.mono (by simp; try omega))
      clear hb1
      go_wp2_with fail
      go_ret
      exact ⟨ret_S (by rw [HE.out, HT.out, hc.out]; exact cat_bytes _ _), hb0⟩
  · have hd : decide (1 < r) = false := decide_eq_false h
    have HE : Hid (sigT r l = letterT l) := Lib.hid (by unfold sigT; rw [if_neg h]; rfl)
    clear h hk
    rcases hL.out with ⟨rfl, e⟩ | ⟨rfl, e⟩ | ⟨hl, e⟩
    · have HT := Lib.hid e
      clear e hL
      go_enter Tryz.func15, Tryz.ntmps15
      go_wp2_with fail
      go_ret
      exact ⟨by rw [HE.out, HT.out]; rfl, (by repeat (first | exact Below.refl _ _ | assumption | (refine Below.alloc ?_ ?_ _; rotate_left; · (first | omega | (simp; done) | (simp; omega) | (simp at *; omega) | fail)) | (refine Below.setCell ?_ ?_ _; rotate_left; · (first | omega | (simp; done) | (simp; omega) | (simp at *; omega) | fail)) | refine Below.drew ?_ | fail))⟩
    · have HT := Lib.hid e
      clear e hL
      go_enter Tryz.func15, Tryz.ntmps15
      go_wp2_with fail
      go_ret
      exact ⟨by rw [HE.out, HT.out]; rfl, (by repeat (first | exact Below.refl _ _ | assumption | (refine Below.alloc ?_ ?_ _; rotate_left; · (first | omega | (simp; done) | (simp; omega) | (simp at *; omega) | fail)) | (refine Below.setCell ?_ ?_ _; rotate_left; · (first | omega | (simp; done) | (simp; omega) | (simp at *; omega) | fail)) | refine Below.drew ?_ | fail))⟩
    · have HT := Lib.hid e
      clear e hL
      obtain ⟨j, rfl⟩ := Int.eq_ofNat_of_zero_le l1
      rw [Int.toNat_natCast] at HT
      have hj : j < 23 := by omega
      have hc := Lib.hid (letter_cut j hj)
      have b23 : ((j : Int) == 23) = false := by simp; omega
      have b24 : ((j : Int) == 24) = false := by simp; omega
      have d1 : IntKind.i64.wrap ((j : Int) + 1) = ((j + 1 : Nat) : Int) := by rw [IntWalk.i64_in _ (by omega)]; omega
      go_enter Tryz.func15, Tryz.ntmps15
      go_wp2_with fail
      go_ret
      exact ⟨ret_S (by rw [HE.out, HT.out, hc.out]; exact cat_bytes [] _), (by repeat (first | exact Below.refl _ _ | assumption | (refine Below.alloc ?_ ?_ _; rotate_left; · (first | omega | (simp; done) | (simp; omega) | (simp at *; omega) | fail)) | (refine Below.setCell ?_ ?_ _; rotate_left; · (first | omega | (simp; done) | (simp; omega) | (simp at *; omega) | fail)) | refine Below.drew ?_ | fail))⟩
end Go.Proofs.YtimdmgkegdlafaaGreatDoor
