/- The parts Pb, Pd, Ac, Lh, Co, Cp, Cg, Cq, Gt of the proof, joined. It holds without conditions of its own. -/
import Derived.Test.YtlfglbnbenaghaaGreatDoorTX1
import Derived.Test.YtlfglbnbenaghaaGreatDoorTX8
import Derived.Test.YtlfglbnbenaghaaGreatDoorTX15
import Derived.Test.YtlfglbnbenaghaaGreatDoorTX13
import Derived.Lib.QuietBelow
import Derived.StillTail
import Derived.StillTailTactics
import Derived.BigRegion
import Derived.Test.YtlfglbnbenaghaaGreatDoorProg
/- Plain facts of mates. -/
namespace Go.Proofs.YtlfglbnbenaghaaGreatDoor
set_option linter.unusedSimpArgs false
set_option linter.unusedVariables false

theorem turned_is {b : Bk} {x : Lf} {g : Gth} (hg : b.gs[x.gat]? = some g) : turnedL b x = ⟨x.gat, g.leaves + 1 - x.num, x.plus, x.kind⟩ := by unfold turnedL; rw [hg]
theorem turned_back {b : Bk} {x : Lf} {g : Gth} (hg : b.gs[x.gat]? = some g) : turnedL b (turnedL b x) = x := by
  rw [turned_is hg, turned_is (by exact hg)]
  obtain ⟨a, n, p, k⟩ := x
  dsimp only
  congr 1
  omega
theorem getL_nat {α : Type} (xs : List α) (i : Nat) : getL xs (i : Int) = xs[i]? := by
  unfold getL
  rw [if_neg (by omega), Int.toNat_natCast]
/-- What is so of a leaf that has a mate. -/
structure MateOk (b : Bk) (i k : Nat) (x y : Lf) (g : Gth) : Prop where
  at_ : (lvs b)[k]? = some y
  gat : y.gat = x.gat
  num : y.num + x.num = g.leaves + 1
  kx : x.kind = 0
  ky : y.kind = 0
  ne : k ≠ i
  back : mateF b k = some i
theorem mate_ok {b : Bk} {i k : Nat} {x : Lf} {g : Gth} (hx : (lvs b)[i]? = some x) (hg : b.gs[x.gat]? = some g) (h : mateF b i = some k) : ∃ y, MateOk b i k x y g := by
  unfold mateF at h
  rw [getL_nat, hx] at h
  dsimp only at h
  split at h
  · rename_i hc
    have hk := find_some h
    have ht := turned_is hg
    refine ⟨turnedL b x, hk, by rw [ht], by rw [ht]; dsimp only; omega, hc.1, by rw [ht]; exact hc.1, fun e => ?_, ?_⟩
    · subst e
      rw [hx] at hk
      exact hc.2 (Option.some.inj hk).symm
    · unfold mateF
      rw [getL_nat, hk]
      dsimp only
      rw [turned_back hg, if_pos ⟨by rw [ht]; exact hc.1, fun e => hc.2 e.symm⟩]
      exact find_at (lvs_sorted b) hx
  · cases h
theorem mate_none {b : Bk} (hok : BOk b) {i : Nat} {x : Lf} {g : Gth} (hx : (lvs b)[i]? = some x) (hg : b.gs[x.gat]? = some g) (h : mateF b i = none) : g.chs ≠ [] ∨ g.leaves = 1 := by
  by_cases hc : g.chs = []
  · refine Or.inr ?_
    have hf := (hok.gs g (List.mem_of_getElem? hg)).folded
    obtain ⟨g', hg', hm⟩ := lvs_mem (List.mem_of_getElem? hx)
    rw [hg] at hg'
    cases hg'
    rw [lvsG_plain hc] at hm
    by_cases h1 : g.leaves = 1
    · exact h1
    exfalso
    have he : g.leaves % 2 = 0 := by
      simp only [foldedB, Bool.or_eq_true, Bool.and_eq_true, decide_eq_true_eq] at hf
      omega
    have ht := turned_is hg
    have hy : turnedL b x ∈ lvs b := mem_lvs hg (by
      rw [lvsG_plain hc, ht]
      exact ⟨rfl, by dsimp only; omega, by dsimp only; omega, hm.2.2.2.1, hm.2.2.2.2⟩)
    obtain ⟨k, hk⟩ := find_mem hy
    unfold mateF at h
    rw [getL_nat, hx] at h
    dsimp only at h
    rw [if_pos ⟨hm.2.2.2.2, fun e => by
      have e' := congrArg Lf.num (ht.symm.trans e)
      dsimp only at e'
      omega⟩, hk] at h
    cases h
  · exact Or.inl hc
end Go.Proofs.YtlfglbnbenaghaaGreatDoor

/- Plain facts of signed leaves, and of a book with its first gatherings alone. -/
namespace Go.Proofs.YtlfglbnbenaghaaGreatDoor
set_option linter.unusedSimpArgs false
set_option linter.unusedVariables false

theorem signs_mem {b : Bk} {t : Nat} : t ∈ signsF b ↔ ∃ x, (lvs b)[t]? = some x ∧ signedL b x = true := by
  unfold signsF signsOf
  simp only [List.mem_map, List.mem_filter]
  constructor
  · rintro ⟨⟨x, i⟩, ⟨h1, h2⟩, rfl⟩
    exact ⟨x, List.mem_zipIdx_iff_getElem?.1 h1, h2⟩
  · rintro ⟨x, h1, h2⟩
    exact ⟨(x, t), ⟨List.mem_zipIdx_iff_getElem?.2 h1, h2⟩, rfl⟩
theorem signs_sorted (b : Bk) : (signsF b).Pairwise (· < ·) := by
  unfold signsF signsOf
  rw [List.pairwise_map]
  have h : ((lvs b).zipIdx).Pairwise (fun x y => x.2 < y.2) := by
    rw [← List.pairwise_map (f := Prod.snd) (R := (· < ·)), List.zipIdx_map_snd]
    exact List.pairwise_lt_range'
  exact h.sublist List.filter_sublist
theorem lvs_plus {b : Bk} {x : Lf} (h : x ∈ lvs b) (hk : x.kind ≠ 2) : x.plus = 0 := by
  obtain ⟨g, _, hm⟩ := lvs_mem h
  simp only [lvsG, List.mem_flatMap] at hm
  obtain ⟨k, _, hm⟩ := hm
  simp only [lvsNum, List.mem_append, List.mem_map] at hm
  rcases hm with hm | ⟨j, _, hm⟩
  · split at hm
    · rw [List.mem_singleton] at hm
      exact congrArg Lf.plus hm
    · cases hm
  · exact absurd (congrArg Lf.kind hm).symm hk
theorem signed_is {b : Bk} {x : Lf} (h : signedL b x = true) : ∃ g, b.gs[x.gat]? = some g ∧ g.letter < 23 ∧ x.kind ≠ 2 ∧ x.num ≤ b.signed := by
  unfold signedL at h
  split at h
  · rename_i g hg
    simp only [signedB, Bool.and_eq_true, decide_eq_true_eq, bne_iff_ne] at h
    exact ⟨g, hg, h.1.1, h.1.2, h.2⟩
  · cases h
theorem signed_great {b : Bk} {s : Int} {x : Lf} (hs : b.signed ≤ s) (h : signedL b x = true) : signedL ⟨s, b.gs⟩ x = true := by
  obtain ⟨g, h1, h2, h3, h4⟩ := signed_is h
  unfold signedL
  dsimp only
  rw [h1]
  simp only [signedB, Bool.and_eq_true, decide_eq_true_eq, bne_iff_ne]
  exact ⟨⟨h2, h3⟩, by omega⟩
theorem lvs_gs (s : Int) (b : Bk) : lvs ⟨s, b.gs⟩ = lvs b := rfl
theorem signs_great {b : Bk} {s : Int} (hs : b.signed ≤ s) {t : Nat} (h : t ∈ signsF b) : t ∈ signsF ⟨s, b.gs⟩ := by
  obtain ⟨x, h1, h2⟩ := signs_mem.1 h
  exact signs_mem.2 ⟨x, by rw [lvs_gs]; exact h1, signed_great hs h2⟩
theorem err_is {b : Bk} (h : errF b = 0) : inB 0 12 b.signed = true ∧ inB 1 30 b.gs.length = true ∧ (gsErr [] (0, 0) 0 b.gs).2 = 0 := by
  unfold errF checkF at h
  by_cases h1 : inB 0 12 b.signed = false
  · rw [if_pos h1] at h; simp at h
  rw [if_neg h1] at h
  by_cases h2 : inB 1 30 b.gs.length = false
  · rw [if_pos h2] at h; simp at h
  rw [if_neg h2] at h
  by_cases h3 : (gsErr [] (0, 0) 0 b.gs).2 = 0
  · exact ⟨by simpa using h1, by simpa using h2, h3⟩
  · rw [if_neg h3] at h; exact absurd h h3
theorem err_of {b : Bk} (h1 : inB 0 12 b.signed = true) (h2 : inB 1 30 b.gs.length = true) (h3 : (gsErr [] (0, 0) 0 b.gs).2 = 0) : errF b = 0 := by
  unfold errF checkF
  rw [if_neg (by rw [h1]; decide), if_neg (by rw [h2]; decide), if_pos h3]
theorem err_great {b : Bk} {s : Int} (h : errF b = 0) (h0 : 0 ≤ s) (h1 : s ≤ 12) : errF ⟨s, b.gs⟩ = 0 := by
  obtain ⟨_, h3, h4⟩ := err_is h
  exact err_of (by rw [inB_iff]; exact ⟨h0, h1⟩) h3 h4
theorem gsErr_take : ∀ (gs : List Gth) (k : Nat) (seen : List (Int × Int)) (last : Int × Int) (i : Nat), (gsErr seen last i gs).2 = 0 → (gsErr seen last i (gs.take k)).2 = 0
  | [], k, _, _, _, _ => by simp [gsErr]
  | g :: gs, 0, _, _, _, _ => by simp [gsErr]
  | g :: gs, k + 1, seen, last, i, h => by
    rw [List.take_succ_cons]
    unfold gsErr at h ⊢
    by_cases h0 : gthErr seen last g = 0
    · rw [if_pos h0] at h ⊢
      exact gsErr_take gs k _ _ _ h
    · rw [if_neg h0] at h ⊢
      exact h
theorem err_take {b : Bk} {k : Nat} (h : errF b = 0) (h1 : 1 ≤ k) (h2 : k ≤ b.gs.length) : errF ⟨b.signed, b.gs.take k⟩ = 0 := by
  obtain ⟨h3, h4, h5⟩ := err_is h
  rw [inB_iff] at h4
  exact err_of h3 (by rw [inB_iff]; dsimp only; rw [List.length_take]; omega) (gsErr_take _ _ _ _ _ h5)
theorem lvs_part (b : Bk) (k : Nat) : ∃ rest, lvs b = lvs ⟨b.signed, b.gs.take k⟩ ++ rest := by
  refine ⟨lvsFrom (0 + (b.gs.take k).length) (b.gs.drop k), ?_⟩
  show lvsFrom 0 b.gs = lvsFrom 0 (b.gs.take k) ++ _
  rw [← lvsFrom_app, List.take_append_drop]
theorem names_part (b : Bk) (k : Nat) (rest : List Lf) (h : lvs b = lvs ⟨b.signed, b.gs.take k⟩ ++ rest) : namesF b = namesF ⟨b.signed, b.gs.take k⟩ ++ rest.map (nameQ b) := by
  unfold namesF
  rw [h, List.map_append]
  congr 1
  apply List.map_congr_left
  intro x hx
  obtain ⟨g, hg, _⟩ := lvs_mem hx
  dsimp only at hg
  have hg' := hg
  rw [List.getElem?_take] at hg'
  split at hg'
  · unfold nameQ
    dsimp only
    rw [hg, hg']
  · cases hg'
theorem diffAt_part : ∀ (xs ys : List Quad) (i : Nat), diffAt i xs (xs ++ ys) = if ys = [] then none else some (i + xs.length)
  | [], [], i => by simp [diffAt]
  | [], y :: ys, i => by simp [diffAt]
  | x :: xs, ys, i => by
    rw [List.cons_append, diffAt, if_pos rfl, diffAt_part xs ys (i + 1)]
    split
    · rfl
    · rw [List.length_cons]
      congr 1
      omega
end Go.Proofs.YtlfglbnbenaghaaGreatDoor

/- The law's comparison of two lists of numbers. -/
namespace Go.Proofs.YtlfglbnbenaghaaGreatDoor
set_option linter.unusedSimpArgs false
set_option linter.unusedVariables false
open Go Go.RowKit Go.Sort Go.BigFrame Go.Shelf
attribute [local go_sem] Oper.semAt_some putAll

/-- A slice of numbers. -/
def IntsAt (W : World) (v : Value) (xs : List Int) : Prop :=
  ∃ (a : Option Addr) (cap : Nat), v = .slice a xs.length cap ∧ (xs ≠ [] → ∃ g, a = some ⟨g, 0, none⟩ ∧ g < W.heap.size ∧ ∀ i x, xs[i]? = some x → W.cell? ⟨g, i, none⟩ = some (.int .i64 x))
theorem take_step {α : Type} {xs ys : List α} {k : Nat} {x y : α} (hx : xs[k]? = some x) (hy : ys[k]? = some y) (h : xs.take k = ys.take k) (e : x = y) : xs.take (k + 1) = ys.take (k + 1) := by
  rw [List.take_add_one, List.take_add_one, h, hx, hy, e]

set_option maxRecDepth 100000 in
set_option maxHeartbeats 1000000 in
theorem Ints_any (xs ys : List Int) (v u : Value) (w : World) (hv : IntsAt w v xs) (hu : IntsAt w u ys) (hl : xs.length < 1000000) (hl2 : ys.length < 1000000) :
    Calls Tryz.prog 38 #[v, u] w fun e w' => e = .returned (.bool (decide (xs = ys))) ∧ Below w.heap.size w w' := by
  obtain ⟨ax, capx, rfl, hx⟩ := hv
  obtain ⟨ay, capy, rfl, hy⟩ := hu
  have HX := Lib.hid hx
  have HY := Lib.hid hy
  have HB := Lib.hid (Below.refl w.heap.size w)
  clear hx hy
  obtain ⟨n, hn⟩ : ∃ n, n = xs.length := ⟨_, rfl⟩
  obtain ⟨m, hm⟩ : ∃ m, m = ys.length := ⟨_, rfl⟩
  rw [← hn] at hl
  rw [← hm] at hl2
  rw [← hn, ← hm]
  have HN := Lib.hid hn
  have HM := Lib.hid hm
  clear hn hm
  have hB : ∃ B : Bool, ((n : Int) == (m : Int)) = B ∧ Hid ((B = true → n = m) ∧ (B = false → xs ≠ ys)) := by
    by_cases e : n = m
    · exact ⟨true, by simp [e], fun _ => e, fun h => by cases h⟩
    · exact ⟨false, by simp; omega, (fun h => by cases h), fun _ h => e (by rw [HN.out, HM.out, h])⟩
  obtain ⟨B, hBe, HBB⟩ := hB
  go_enter Tryz.func38, Tryz.ntmps38
  go_wp2_with fail
  go_loopw [5, 6] (fun f i wr => ∃ (k q : Nat) (D : Bool), k ≤ n ∧ i = .int .i64 k ∧ wr = w.drewN q ∧ f = .bool D ∧ Hid (D = true → n = m ∧ xs.take k = ys.take k) ∧ Hid (D = false → xs ≠ ys)) (fun _ i _ => n - (intOf i).toNat)
  case atStart => exact ⟨0, 0, B, by omega, rfl, rfl, rfl, fun h => ⟨HBB.out.1 h, rfl⟩, HBB.out.2⟩
  case round =>
    obtain ⟨k, q, D, hk, rfl, rfl, rfl, hT, hF⟩ := hrel
    clear HBB hBe
    cases D with
    | false =>
      have HD : Hid (decide (xs = ys) = false) := decide_eq_false (hF.out rfl)
      clear hT hF
      go_wp2_with fail
      go_ret
      exact ⟨by rw [HD.out]; rfl, bdrewN HB.out _⟩
    | true =>
      obtain ⟨hnm, htk⟩ := hT.out rfl
      clear hT hF
      by_cases hlt : k < n
      · obtain ⟨x, hx⟩ : ∃ x, xs[k]? = some x := ⟨_, List.getElem?_eq_getElem (by have := HN.out; omega)⟩
        obtain ⟨y, hy⟩ : ∃ y, ys[k]? = some y := ⟨_, List.getElem?_eq_getElem (by have := HM.out; omega)⟩
        obtain ⟨gx, rfl, -, hcx⟩ := HX.out (fun e => by rw [e] at hx; cases hx)
        obtain ⟨gy, rfl, -, hcy⟩ := HY.out (fun e => by rw [e] at hy; cases hy)
        have x0 := hcx k x hx
        have y0 := hcy k y hy
        have HXX := Lib.hid hx
        have HYY := Lib.hid hy
        have HTK := Lib.hid htk
        have hkm : k < m := by omega
        clear hcx hcy hx hy htk
        go_wp2_with fail
        by_cases hxy : x = y
        · subst hxy
          go_quiet (fail)
          go_wp2_with fail
          go_roundw
          case rel => exact ⟨k + 1, q + nq, true, by omega, by go_num, rfl, by simp, (fun _ => ⟨hnm, take_step HXX.out HYY.out HTK.out rfl⟩), (fun h => by cases h)⟩
          case measure => simp [intOf]; omega
        · have HNE : Hid (xs ≠ ys) := fun e => by have h1 := HXX.out; rw [e, HYY.out] at h1; cases h1; exact hxy rfl
          go_quiet (fail)
          go_wp2_with fail
          go_roundw
          case rel => exact ⟨k + 1, q + nq, false, by omega, by go_num, rfl, by simp [hxy], (fun h => by cases h), (fun _ => HNE.out)⟩
          case measure => simp [intOf]; omega
      · have hkn : k = n := by omega
        have HD : Hid (decide (xs = ys) = true) := decide_eq_true (by
          have h1 := htk
          rw [hkn, HN.out, List.take_length, ← HN.out, hnm, HM.out, List.take_length] at h1
          exact h1)
        subst hkn
        clear htk
        go_wp2_with fail
        go_ret
        exact ⟨by rw [HD.out]; rfl, bdrewN HB.out _⟩

end Go.Proofs.YtlfglbnbenaghaaGreatDoor

/- Small functions of the reference over lists: Has, Alike, Before. -/
namespace Go.Proofs.YtlfglbnbenaghaaGreatDoor
set_option linter.unusedSimpArgs false
set_option linter.unusedVariables false
open Go Go.RowKit Go.Sort Go.BigFrame Go.Shelf
attribute [local go_sem] Oper.semAt_some putAll

theorem IntsAt.get {W : World} {a : Option Addr} {n cap : Nat} {xs : List Int} (h : IntsAt W (.slice a n cap) xs) {i : Nat} {x : Int} (hx : xs[i]? = some x) : ∃ g, a = some ⟨g, 0, none⟩ ∧ g < W.heap.size ∧ W.cell? ⟨g, i, none⟩ = some (.int .i64 x) := by
  obtain ⟨a', cap', e, hc⟩ := h
  cases e
  obtain ⟨g, h1, h2, h3⟩ := hc (fun e => by rw [e] at hx; cases hx)
  exact ⟨g, h1, h2, h3 i x hx⟩
theorem not_mem_take {xs : List Int} {k : Nat} {x z : Int} (hx : xs[k]? = some x) (h : z ∉ xs.take k) (hne : x ≠ z) : z ∉ xs.take (k + 1) := by
  rw [List.take_add_one, hx]
  simp only [Option.toList_some, List.mem_append, List.mem_singleton, not_or]
  exact ⟨h, fun e => hne e.symm⟩

end Go.Proofs.YtlfglbnbenaghaaGreatDoor

/- The reference's Pair and Mate. -/
namespace Go.Proofs.YtlfglbnbenaghaaGreatDoor
set_option linter.unusedSimpArgs false
set_option linter.unusedVariables false
open Go Go.RowKit Go.Sort Go.BigFrame Go.Shelf
attribute [local go_sem] Oper.semAt_some putAll

/-- A leaf at a number is the mate of another, as the reference asks. -/
def pairC (g : Gth) (i k : Nat) (x y : Lf) : Prop := k ≠ i ∧ y.gat = x.gat ∧ y.kind = 0 ∧ y.num + x.num = g.leaves + 1
theorem pair_cond {b : Bk} {i k : Nat} {x y : Lf} {g : Gth} (hx : (lvs b)[i]? = some x) (hy : (lvs b)[k]? = some y) (hg : b.gs[x.gat]? = some g) (hk : x.kind = 0) :
    pairC g i k x y ↔ turnedL b x ≠ x ∧ y = turnedL b x := by
  have px : x.plus = 0 := lvs_plus (List.mem_of_getElem? hx) (by omega)
  rw [turned_is hg]
  constructor
  · rintro ⟨h1, h2, h3, h4⟩
    have py : y.plus = 0 := lvs_plus (List.mem_of_getElem? hy) (by omega)
    have e : y = ⟨x.gat, g.leaves + 1 - x.num, x.plus, x.kind⟩ := by
      cases y
      simp only at *
      simp only [Lf.mk.injEq]
      omega
    refine ⟨fun h => h1 ?_, e⟩
    rw [← e] at h
    rw [h] at hy
    exact sorted_inj (lvs_sorted b) hy hx
  · rintro ⟨h1, rfl⟩
    refine ⟨fun h => h1 ?_, rfl, hk, ?_⟩
    · subst h
      rw [hx] at hy
      exact (Option.some.inj hy).symm
    · show g.leaves + 1 - x.num + x.num = _
      omega
theorem pair_found {b : Bk} {i k : Nat} {x y : Lf} {g : Gth} (hx : (lvs b)[i]? = some x) (hy : (lvs b)[k]? = some y) (hg : b.gs[x.gat]? = some g) (hk : x.kind = 0) (h : pairC g i k x y) : mateF b i = some k := by
  obtain ⟨h1, h2⟩ := (pair_cond hx hy hg hk).1 h
  unfold mateF
  rw [getL_nat, hx]
  dsimp only
  rw [if_pos ⟨hk, h1⟩, ← h2]
  exact find_at (lvs_sorted b) hy
theorem pair_not {b : Bk} {i : Nat} {x : Lf} {g : Gth} (hx : (lvs b)[i]? = some x) (hg : b.gs[x.gat]? = some g) (h : x.kind = 0 → ∀ k y, (lvs b)[k]? = some y → ¬ pairC g i k x y) : mateF b i = none := by
  cases hm : mateF b i with
  | none => rfl
  | some k =>
    unfold mateF at hm
    rw [getL_nat, hx] at hm
    dsimp only at hm
    split at hm
    · rename_i h0
      have hy := find_some hm
      exact absurd ((pair_cond hx hy hg h0.1).2 ⟨h0.2, rfl⟩) (h h0.1 k _ hy)
    · cases hm
def pairF (b : Bk) (n : Int) : Int := match mateF b n with
  | some m => m
  | none => -1

end Go.Proofs.YtlfglbnbenaghaaGreatDoor

/- The reference's Mate. -/
namespace Go.Proofs.YtlfglbnbenaghaaGreatDoor
set_option linter.unusedSimpArgs false
set_option linter.unusedVariables false
open Go Go.RowKit Go.Sort Go.BigFrame Go.Shelf
attribute [local go_sem] Oper.semAt_some putAll

theorem mate_out {b : Bk} {n : Int} (h : inB 0 ((lvs b).length - 1) n = false) : mateF b n = none := by
  have e : getL (lvs b) n = none := by
    cases hx : getL (lvs b) n with
    | none => rfl
    | some x =>
      unfold getL at hx
      split at hx
      · cases hx
      · have := (List.getElem?_eq_some_iff.1 hx).1
        simp [inB] at h
        omega
  unfold mateF
  rw [e]
theorem mate_in {b : Bk} {n : Int} (h : inB 0 ((lvs b).length - 1) n = true) : ∃ (i : Nat) (x : Lf), n = i ∧ (lvs b)[i]? = some x := by
  simp [inB] at h
  exact ⟨n.toNat, _, by omega, List.getElem?_eq_getElem (by omega)⟩

end Go.Proofs.YtlfglbnbenaghaaGreatDoor

/- The reference: how a signature is written; Sig; the signature behind another one; Next. -/
namespace Go.Proofs.YtlfglbnbenaghaaGreatDoor
set_option linter.unusedSimpArgs false
set_option linter.unusedVariables false
open Go Go.RowKit Go.Sort Go.BigFrame

theorem digN_dec3 {r : Int} (h0 : 0 ≤ r) (h1 : r < 100) : digN r.toNat = dec r := digN_dec (by omega)
set_option maxRecDepth 100000 in
set_option maxHeartbeats 800000 in
theorem refWritten_any (r l : Int) (hs : sigB r l = true) (w : World) :
    Calls Tryz.prog 15 #[.agg #[.int .i64 r, .int .i64 l]] w fun e w' => e = .returned (S (sigT r l)) ∧ Below w.heap.size w w' := by
  have hb : 1 ≤ r ∧ r ≤ 3 ∧ 0 ≤ l ∧ l ≤ 24 := by simp [sigB, inB] at hs; omega
  obtain ⟨r1, r2, l1, l2⟩ := hb
  clear hs
  have z2 := dec_len r
  have zr : (⟨(dec r).toArray⟩ : ByteArray).size ≤ 2 := by rw [size_bytes]; exact z2
  have hL : Hid (l = 23 ∧ letterT l = [112, 105] ∨ l = 24 ∧ letterT l = [99, 104, 105] ∨ l < 23 ∧ letterT l = [letterL.getD l.toNat 0]) := Lib.hid (by
    unfold letterT
    by_cases h23 : l = 23
    · exact Or.inl ⟨h23, if_pos h23⟩
    by_cases h24 : l = 24
    · exact Or.inr (Or.inl ⟨h24, by rw [if_neg h23, if_pos h24]⟩)
    · exact Or.inr (Or.inr ⟨by omega, by rw [if_neg h23, if_neg h24]⟩))
  obtain ⟨k, hk⟩ : ∃ k : Nat, r = k := ⟨r.toNat, by omega⟩
  by_cases h : 1 < r
  · have hd : decide (1 < r) = true := decide_eq_true h
    have HE : Hid (sigT r l = dec r ++ letterT l) := Lib.hid (by unfold sigT; rw [if_pos h])
    have hdg := fun W => refDigits_any k (by omega) W
    rw [← hk, show digN k = dec r from by rw [← digN_dec3 (by omega) (by omega), hk]; rfl] at hdg
    have HD := Lib.hid hdg
    clear h hdg hk
    rcases hL.out with ⟨rfl, e⟩ | ⟨rfl, e⟩ | ⟨hl, e⟩
    · have HT := Lib.hid e
      clear e hL
      go_enter Tryz.func15, Tryz.ntmps15
      go_wp2_with fail
      refine (HD.out _).mono ?_
      rintro e w1 ⟨rfl, hb1⟩
      have k1 : w1.cell? ⟨w.heap.size, 1, none⟩ = some (.int .i64 23) := cell_later' hb1 (by simp [World.cell?_alloc_at])
      have hb0 : Below w.heap.size w w1 := Below.trans (by exact (by repeat (first | (refine Below.setCell ?_ ?_ _; rotate_left; · (first | omega | (simp; done) | (simp; omega) | fail)) | (refine Below.alloc ?_ ?_ _; rotate_left; · (first | omega | (simp; done) | (simp; omega) | fail)) | refine Below.drew ?_ | exact Below.refl _ _ | fail))) (hb1.mono (by simp; try omega))
      clear hb1
      go_wp2_with fail
      go_ret
      exact ⟨ret_S (by rw [HE.out, HT.out]; exact cat_bytes _ _), hb0⟩
    · have HT := Lib.hid e
      clear e hL
      go_enter Tryz.func15, Tryz.ntmps15
      go_wp2_with fail
      refine (HD.out _).mono ?_
      rintro e w1 ⟨rfl, hb1⟩
      have k1 : w1.cell? ⟨w.heap.size, 1, none⟩ = some (.int .i64 24) := cell_later' hb1 (by simp [World.cell?_alloc_at])
      have hb0 : Below w.heap.size w w1 := Below.trans (by exact (by repeat (first | (refine Below.setCell ?_ ?_ _; rotate_left; · (first | omega | (simp; done) | (simp; omega) | fail)) | (refine Below.alloc ?_ ?_ _; rotate_left; · (first | omega | (simp; done) | (simp; omega) | fail)) | refine Below.drew ?_ | exact Below.refl _ _ | fail))) (hb1.mono (by simp; try omega))
      clear hb1
      go_wp2_with fail
      go_ret
      exact ⟨ret_S (by rw [HE.out, HT.out]; exact cat_bytes _ _), hb0⟩
    · have HT := Lib.hid e
      clear e hL
      obtain ⟨j, rfl⟩ := Int.eq_ofNat_of_zero_le l1
      rw [Int.toNat_natCast] at HT
      have hj : j < 23 := by omega
      have hc := Lib.hid (letter_cut j hj)
      have b23 : ((j : Int) == 23) = false := by simp; omega
      have b24 : ((j : Int) == 24) = false := by simp; omega
      have d1 : IntKind.i64.wrap ((j : Int) + 1) = ((j + 1 : Nat) : Int) := by rw [IntWalk.i64_in _ (by omega)]; omega
      go_enter Tryz.func15, Tryz.ntmps15
      go_wp2_with fail
      refine (HD.out _).mono ?_
      rintro e w1 ⟨rfl, hb1⟩
      have k1 : w1.cell? ⟨w.heap.size, 1, none⟩ = some (.int .i64 j) := cell_later' hb1 (by simp [World.cell?_alloc_at])
      have hb0 : Below w.heap.size w w1 := Below.trans (by exact (by repeat (first | (refine Below.setCell ?_ ?_ _; rotate_left; · (first | omega | (simp; done) | (simp; omega) | fail)) | (refine Below.alloc ?_ ?_ _; rotate_left; · (first | omega | (simp; done) | (simp; omega) | fail)) | refine Below.drew ?_ | exact Below.refl _ _ | fail))) (hb1.mono (by simp; try omega))
      clear hb1
      go_wp2_with fail
      go_ret
      exact ⟨ret_S (by rw [HE.out, HT.out, hc.out]; exact cat_bytes _ _), hb0⟩
  · have hd : decide (1 < r) = false := decide_eq_false h
    have HE : Hid (sigT r l = letterT l) := Lib.hid (by unfold sigT; rw [if_neg h]; rfl)
    clear h hk
    rcases hL.out with ⟨rfl, e⟩ | ⟨rfl, e⟩ | ⟨hl, e⟩
    · have HT := Lib.hid e
      clear e hL
      go_enter Tryz.func15, Tryz.ntmps15
      go_wp2_with fail
      go_ret
      exact ⟨by rw [HE.out, HT.out]; rfl, (by repeat (first | exact Below.refl _ _ | assumption | (refine Below.alloc ?_ ?_ _; rotate_left; · (first | omega | (simp; done) | (simp; omega) | (simp at *; omega) | fail)) | (refine Below.setCell ?_ ?_ _; rotate_left; · (first | omega | (simp; done) | (simp; omega) | (simp at *; omega) | fail)) | refine Below.drew ?_ | fail))⟩
    · have HT := Lib.hid e
      clear e hL
      go_enter Tryz.func15, Tryz.ntmps15
      go_wp2_with fail
      go_ret
      exact ⟨by rw [HE.out, HT.out]; rfl, (by repeat (first | exact Below.refl _ _ | assumption | (refine Below.alloc ?_ ?_ _; rotate_left; · (first | omega | (simp; done) | (simp; omega) | (simp at *; omega) | fail)) | (refine Below.setCell ?_ ?_ _; rotate_left; · (first | omega | (simp; done) | (simp; omega) | (simp at *; omega) | fail)) | refine Below.drew ?_ | fail))⟩
    · have HT := Lib.hid e
      clear e hL
      obtain ⟨j, rfl⟩ := Int.eq_ofNat_of_zero_le l1
      rw [Int.toNat_natCast] at HT
      have hj : j < 23 := by omega
      have hc := Lib.hid (letter_cut j hj)
      have b23 : ((j : Int) == 23) = false := by simp; omega
      have b24 : ((j : Int) == 24) = false := by simp; omega
      have d1 : IntKind.i64.wrap ((j : Int) + 1) = ((j + 1 : Nat) : Int) := by rw [IntWalk.i64_in _ (by omega)]; omega
      go_enter Tryz.func15, Tryz.ntmps15
      go_wp2_with fail
      go_ret
      exact ⟨ret_S (by rw [HE.out, HT.out, hc.out]; exact cat_bytes [] _), (by repeat (first | exact Below.refl _ _ | assumption | (refine Below.alloc ?_ ?_ _; rotate_left; · (first | omega | (simp; done) | (simp; omega) | (simp at *; omega) | fail)) | (refine Below.setCell ?_ ?_ _; rotate_left; · (first | omega | (simp; done) | (simp; omega) | (simp at *; omega) | fail)) | refine Below.drew ?_ | fail))⟩
end Go.Proofs.YtlfglbnbenaghaaGreatDoor

/- The reference's Called. -/
namespace Go.Proofs.YtlfglbnbenaghaaGreatDoor
set_option linter.unusedSimpArgs false
set_option linter.unusedVariables false
open Go Go.RowKit Go.Sort Go.BigFrame Go.Shelf
attribute [local go_sem] Oper.semAt_some putAll

theorem refDig_any (n : Int) (h0 : 0 ≤ n) (h1 : n < 100) (w : World) :
    Calls Tryz.prog 16 #[.int .i64 n] w fun e w' => e = .returned (S (dec n)) ∧ Below w.heap.size w w' := by
  obtain ⟨k, rfl⟩ := Int.eq_ofNat_of_zero_le h0
  have h := refDigits_any k (by omega) w
  have e : digN k = dec (k : Int) := digN_dec3 (r := (k : Int)) h0 h1
  rw [e] at h
  exact h

end Go.Proofs.YtlfglbnbenaghaaGreatDoor

/- A region that draws its order: its first operations only read, or call what makes blocks of its own; the others come behind them, one after the other. One walk serves all orders. -/
namespace Go.Proofs.YtlfglbnbenaghaaGreatDoor
set_option linter.unusedSimpArgs false
set_option linter.unusedVariables false
open Go Go.RowKit Go.Sort

section
variable {P : Program} {ops : Array Oper} {md : Region.Mode} {C : World → Prop}

/-- The head's operations in whatever order: each that may come up is of the head, and quiet; L is what holds behind them. -/
def HeadQ (P : Program) (md : Region.Mode) (ops : Array Oper) (C : World → Prop) (n : Nat) (L : Array Bool → Act → Prop) : Nat → Array Bool → Act → Prop
  | 0, s, a => L s a
  | f + 1, s, a => (∃ i, i ∈ Region.ready md ops s) ∧ ∀ i ∈ Region.ready md ops s, i < n ∧ qOp P ops C i (HeadQ P md ops C n L f (s.setIfInBounds i true)) a

theorem headQ_any {n g : Nat} {L : Array Bool → Act → Prop} {R : Exit → Act → World → Prop} (hL : ∀ s a w, C w → L s a → wpAny P md ops R g s a w) :
    ∀ (f : Nat) (s : Array Bool) (a : Act) (w : World), C w → HeadQ P md ops C n L f s a → wpAny P md ops R (f + g) s a w := by
  intro f
  induction f with
  | zero => intro s a w hw h; simpa using hL s a w hw h
  | succ f ih =>
    intro s a w hw h
    have e : f + 1 + g = (f + g) + 1 := by omega
    rw [e]
    obtain ⟨⟨i0, h0⟩, h⟩ := h
    refine ⟨fun hn => ?_, fun i hi => wpOp_of_qOp hw (fun a' w' hw' hq => ih _ a' w' hw' hq) (h i hi).2⟩
    rw [hn] at h0
    cases h0

theorem unlisted_on {s : Array Bool} {i : Nat} (h1 : s.getD i true = false) (h2 : s.getD i false = true) : False := by
  rw [getD_both h1] at h2
  cases h2

/-- Each operation of the head is waited for by one behind it that is no farther than n, unless it is one of the first p. -/
def sinkP (md : Region.Mode) (ops : Array Oper) (p n : Nat) : Bool :=
  (List.range n).all fun i => decide (i < p) || (List.range (n + 1)).any fun j => decide (i < j) && Region.waitsFor md ops j i

theorem waits_on {s : Array Bool} {i j : Nat} (h : Region.waitsFor md ops j i = true) (hj : ∀ oj, ops[j]? = some oj → ∀ e ∈ oj.after, Region.binds md e = true → s.getD e.on false = true) (hi : s.getD i true = false) : False := by
  obtain ⟨oj, hoj, e, he, hb, hon⟩ := Region.waitsFor_spec h
  exact unlisted_on hi (hon ▸ hj oj hoj e he hb)

theorem tail_later {p n : Nat} {s : Array Bool} (hs : sinkP md ops p n = true) (hc : Region.chainB md ops n = true) (hn : n < ops.size) (inv : HeadInv md ops n s) :
    ∀ (d i : Nat), n - i ≤ d → p ≤ i → i < n → s.getD i true = false → ∀ t, n ≤ t → t ∉ Region.ready md ops s := by
  intro d
  induction d with
  | zero => intro i hd _ hi; omega
  | succ d ih =>
    intro i hd hpi hi hun t ht hr
    obtain ⟨_, ot, hot, hall⟩ := mem_ready.1 hr
    have htz : t < ops.size := (Array.getElem?_eq_some_iff.1 hot).1
    have hat : ∀ oj, ops[t]? = some oj → ∀ e ∈ oj.after, Region.binds md e = true → s.getD e.on false = true := fun oj hoj => by
      rw [hot] at hoj
      cases hoj
      exact hall
    rcases Nat.lt_or_ge n t with hlt | hle
    · have h1 := List.all_eq_true.1 hc t (List.mem_range.2 htz)
      simp only [Bool.or_eq_true, decide_eq_true_eq] at h1
      rcases h1 with h1 | h1
      · omega
      · exact waits_on h1 hat (inv.tail (t - 1) (by omega) (by omega))
    · have e : t = n := by omega
      subst e
      have h1 := List.all_eq_true.1 hs i (List.mem_range.2 hi)
      simp only [Bool.or_eq_true, decide_eq_true_eq, List.any_eq_true, List.mem_range, Bool.and_eq_true] at h1
      rcases h1 with h1 | ⟨j, hj, hij, hw⟩
      · omega
      · rcases Nat.lt_or_ge j t with hjt | hjt
        · cases hl : s.getD j false with
          | true => exact waits_on hw (fun oj hoj => inv.closed j oj hoj hl) hun
          | false => exact ih j (by omega) (by omega) hjt (getD_in (by rw [inv.size]; omega) hl) t (Nat.le_refl _) hr
        · have e : j = t := by omega
          subst e
          exact waits_on hw hat hun

theorem headQ_first {p n i : Nat} {o : Oper} {v : Value} {L : Array Bool → Act → Prop} (ho : ops[i]? = some o) (hsel : ∀ (j : Nat) (o : Oper) cs b, ops[j]? = some o → o.op ≠ .select cs b)
    (hs : sinkP md ops p n = true) (hc : Region.chainB md ops n = true) (hn : n < ops.size) (hpi : p ≤ i) (hin : i < n) (hend : ∀ s a, L s a → ∀ j ∈ Region.ready md ops s, n ≤ j) :
    ∀ (f : Nat) (s : Array Bool) (a : Act), HeadInv md ops n s →
      (∀ j oj, ops[j]? = some oj → j ≠ i → s.getD j true = false → (∀ e ∈ oj.after, Region.binds md e = true → e.on ≠ i) → o.apart ops oj = true) →
      i ∈ Region.ready md ops s → YieldsIn P ops C o v a → HeadQ P md ops C n L f (s.setIfInBounds i true) (a.put o.dst v) → HeadQ P md ops C n L (f + 1) s a := by
  intro f
  induction f with
  | zero =>
    intro s a inv _ hi hy H
    refine ⟨⟨i, hi⟩, fun j hj => ?_⟩
    have hjn : j < n := Nat.lt_of_not_le fun hle => tail_later hs hc hn inv _ i (Nat.le_refl _) hpi hin (mem_ready.1 hi).1 j hle hj
    by_cases e : j = i
    · subst e
      exact ⟨hjn, hy.qOp ho H⟩
    · have := hend _ _ H j (ready_mono hj e)
      omega
  | succ f ih =>
    intro s a inv hfree hi hy H
    refine ⟨⟨i, hi⟩, fun j hj => ?_⟩
    have hjn : j < n := Nat.lt_of_not_le fun hle => tail_later hs hc hn inv _ i (Nat.le_refl _) hpi hin (mem_ready.1 hi).1 j hle hj
    refine ⟨hjn, ?_⟩
    by_cases e : j = i
    · subst e
      exact hy.qOp ho H
    · obtain ⟨hun, oj, hoj, hafter⟩ := mem_ready.1 hj
      have hno : ∀ e ∈ oj.after, Region.binds md e = true → e.on ≠ i := fun e he hb q => unlisted_on (mem_ready.1 hi).1 (q ▸ hafter e he hb)
      have hq := qOp_put hoj (hfree j oj hoj e hun hno) (fun cs b => hsel i o cs b ho) (fun cs b => hsel j oj cs b hoj) hy (H.2 j (ready_mono hj e)).2
      refine qOp_mono (fun a' hk => ih _ a' (inv.set hj hjn) (fun k ok hk2 hki hun2 hno2 => hfree k ok hk2 hki ?_ hno2) (ready_mono hi (Ne.symm e)) hk.1 ?_) hq
      · by_cases q : j = k
        · subst q; exact hun
        · rwa [getD_set_ne true q] at hun2
      · rw [Array.setIfInBounds_comm _ _ e]
        exact hk.2

theorem headQ_lex {p n g : Nat} {K : Act → Prop} (hsel : Region.noSelect ops = true) (hs : sinkP md ops p n = true) (hc : Region.chainB md ops n = true) (hn : n < ops.size) :
    ∀ (l : List Oper) (k : Nat) (s : Array Bool) (a : Act), (∀ j, j < l.length → l[j]? = ops[k + j]?) → p ≤ k → k + l.length = n → HeadInv md ops n s →
      Region.lexHead md ops g l.length k s = true → wpQuiet P ops C K l a → HeadQ P md ops C n (fun s' a' => Region.seqB md ops g n s' = true ∧ K a') l.length s a := by
  intro l
  induction l with
  | nil =>
    intro k s a _ _ hk _ hB h
    have e : k = n := by simpa using hk
    subst e
    exact ⟨by simpa [Region.lexHead] using hB, h⟩
  | cons o l ih =>
    intro k s a hl hpk hk inv hB h
    have ho : ops[k]? = some o := by simpa using (hl 0 (by simp)).symm
    simp only [List.length_cons] at hk
    simp only [List.length_cons, Region.lexHead, Bool.and_eq_true] at hB
    obtain ⟨⟨hr, hf⟩, hB⟩ := hB
    have hr : k ∈ Region.ready md ops s := by simpa using hr
    have hq : qOp P ops C k (wpQuiet P ops C K l) a := by
      unfold qOp
      simp only [ho]
      exact h
    obtain ⟨v, hy, hK⟩ := yieldsIn_of_qOp ho hq
    refine headQ_first ho (Region.noSelect_spec hsel) hs hc hn hpk (by omega) (fun _ _ hL => seqB_ready hL.1) l.length s a inv (Region.free_spec ho hf) hr hy
      (ih (k + 1) _ _ (fun j hj => ?_) (by omega) (by omega) (inv.set hr (by omega)) hB hK)
    have := hl (j + 1) (by simp only [List.length_cons]; omega)
    simpa [Nat.add_assoc, Nat.add_comm 1 j] using this

/-- The first operations, which only copy: what they leave. -/
def leadV (o : Oper) (a : Act) : Value := match o.op with
  | .move x => a.eval x
  | _ => undef
def leadA : List Oper → Act → Act
  | [], a => a
  | o :: l, a => leadA l (a.put o.dst (leadV o a))
def leadS : Nat → List Oper → Array Bool → Array Bool
  | _, [], s => s
  | k, _ :: l, s => leadS (k + 1) l (s.setIfInBounds k true)
def isMove (o : Oper) : Bool := o.guard.isNone && match o.op with
  | .move _ => true
  | _ => false
def leadB (md : Region.Mode) (ops : Array Oper) : Nat → List Oper → Array Bool → Bool
  | _, [], _ => true
  | k, o :: l, s => isMove o && (Region.ready md ops s).contains k && Region.free md ops s k && leadB md ops (k + 1) l (s.setIfInBounds k true)

theorem move_yields {o : Oper} {a : Act} (h : isMove o = true) : Yields P ops o (leadV o a) a := by
  unfold isMove at h
  simp only [Bool.and_eq_true, Option.isNone_iff_eq_none] at h
  obtain ⟨hg, hm⟩ := h
  cases ho : o.op <;> simp only [ho] at hm <;> try (cases hm)
  rename_i x
  refine Or.inl ⟨by unfold Region.wanted; rw [hg], fun w => ?_⟩
  unfold leadV
  rw [ho]
  simp [execOp, ho, go_sem]

theorem lead_first {R : Exit → Act → World → Prop} (hsel : Region.noSelect ops = true) (hR : ∀ c a b w, R (.panic c) a w → R (.panic c) b w) :
    ∀ (l : List Oper) (k : Nat) (s : Array Bool) (a : Act) (f : Nat) (w : World), (∀ j, j < l.length → l[j]? = ops[k + j]?) → leadB md ops k l s = true →
      wpAny P md ops R f (leadS k l s) (leadA l a) w → wpAny P md ops R (l.length + f) s a w := by
  intro l
  induction l with
  | nil => intro k s a f w _ _ h; simpa [leadS, leadA] using h
  | cons o l ih =>
    intro k s a f w hl hB h
    have ho : ops[k]? = some o := by simpa using (hl 0 (by simp)).symm
    simp only [leadB, Bool.and_eq_true] at hB
    obtain ⟨⟨⟨hm, hr⟩, hf⟩, hB⟩ := hB
    have e : (o :: l).length + f = (l.length + f) + 1 := by simp only [List.length_cons]; omega
    rw [e]
    refine wpAny_first (v := leadV o a) ho (Region.noSelect_spec hsel) (fun c a w h => hR c _ _ w h) _ s a w (Region.free_spec ho hf) (by simpa using hr) (move_yields hm) ?_
    refine ih (k + 1) _ _ f w (fun j hj => ?_) hB h
    have := hl (j + 1) (by simp only [List.length_cons]; omega)
    simpa [Nat.add_assoc, Nat.add_comm 1 j] using this

theorem lead_inv {n : Nat} : ∀ (l : List Oper) (k : Nat) (s : Array Bool), k + l.length ≤ n → leadB md ops k l s = true → HeadInv md ops n s → HeadInv md ops n (leadS k l s) := by
  intro l
  induction l with
  | nil => intro k s _ _ h; exact h
  | cons o l ih =>
    intro k s hk hB h
    simp only [List.length_cons] at hk
    simp only [leadB, Bool.and_eq_true] at hB
    obtain ⟨⟨⟨_, hr⟩, _⟩, hB⟩ := hB
    exact ih (k + 1) _ (by omega) hB (h.set (by simpa using hr) (by omega))

/-- What is asked of the operations' order: the first p only copy; those up to n only read, or call; the others come one after the other. -/
def tailB (ops : List Oper) (p n : Nat) : Bool :=
  Region.noSelect ops.toArray && decide (p ≤ n) && decide (n < ops.length) && sinkP .any ops.toArray p n && Region.chainB .any ops.toArray n && leadB .any ops.toArray 0 (ops.take p) (Array.replicate ops.length false) &&
    Region.lexHead .any ops.toArray (ops.length - n) (n - p) p (leadS 0 (ops.take p) (Array.replicate ops.length false))

theorem wp_region_lead_tail {id : Nat} {Q : Exit → Act → World → Prop} {a : Act} {w : World} {l : List Oper} (p n : Nat) (hm : P.follows .mixedOrders = true) (hB : tailB l p n = true) (hR : ∀ c a b w, Q (.panic c) a w → Q (.panic c) b w)
    (hC : C { w with drawn := w.drawn + 1 })
    (h : wpQuiet P l.toArray C (fun a' => ∀ w', C w' → wpList P l.toArray Q (l.drop n) a' w') ((l.take n).drop p) (leadA (l.take p) a)) : (Code.region id l.toArray true).wp P Q a w := by
  simp only [tailB, Bool.and_eq_true, decide_eq_true_eq] at hB
  obtain ⟨⟨⟨⟨⟨⟨hsel, hpn⟩, hn⟩, hs⟩, hc⟩, hld⟩, hlex⟩ := hB
  have h0 : (l.take p).length = p := by simp; omega
  have h1 : ((l.take n).drop p).length = n - p := by simp; omega
  have h2 : (l.drop n).length = l.length - n := by simp
  have inv0 : HeadInv .any l.toArray n (Array.replicate l.length false) :=
    ⟨by simp, fun j oj _ hl => (by rw [getD_replicate_false] at hl; cases hl), fun t _ ht => getD_in (by simpa using ht) (getD_replicate_false _ _)⟩
  have inv := lead_inv (l.take p) 0 _ (by rw [h0]; omega) hld inv0
  have H := headQ_lex (md := .any) (g := l.length - n) hsel hs hc (by simpa using hn) ((l.take n).drop p) p _ (leadA (l.take p) a) (fun j hj => by
    rw [h1] at hj
    simp [List.getElem?_drop, show p + j < n by omega]) (Nat.le_refl _) (by rw [h1]; omega) inv (by rw [h1]; exact hlex) h
  refine wp_region_any hm ?_
  have := headQ_any (R := Q) (g := l.length - n) (fun s a' w' hw hL => by
    have := wpAny_of_seq (md := .any) (Q' := Q) (l.drop n) n s a' w' (fun j => by simp [List.getElem?_drop]) (by rw [h2]; exact hL.1) (hL.2 w' hw)
    rwa [h2] at this) _ _ _ _ hC H
  rw [h1] at this
  have := lead_first (R := Q) hsel hR (l.take p) 0 (Array.replicate l.length false) a _ _ (fun j hj => by rw [h0] at hj; simp [hj]) hld this
  rw [h0] at this
  have e : p + (n - p + (l.length - n)) = l.toArray.size := by simp; omega
  rw [e] at this
  simpa using this

/-- The same, with what follows behind a variable: the operations of the tail do not panic. -/
theorem wp_region_below_tail {id : Nat} {Q : Exit → Act → World → Prop} {a : Act} {w : World} {l : List Oper} (p n : Nat) (hm : P.follows .mixedOrders = true) (hB : tailB l p n = true)
    (h : ∀ R : Exit → Act → World → Prop, (∀ a w, Q .normal a w → R .normal a w) →
      wpQuiet P l.toArray (fun w' => ∃ p : Regrown, w' = grow (redrawn w p.d) p.os) (fun a' => ∀ w', (∃ p : Regrown, w' = grow (redrawn w p.d) p.os) → wpList P l.toArray R (l.drop n) a' w') ((l.take n).drop p) (leadA (l.take p) a)) : (Code.region id l.toArray true).wp P Q a w := by
  have := wp_region_lead_tail (Q := fun e a w => e = .normal ∧ Q .normal a w) (id := id) (C := fun w' => ∃ p : Regrown, w' = grow (redrawn w p.d) p.os) p n hm hB (fun c a b w h => by cases h.1) ⟨⟨w.drawn + 1, #[]⟩, by rw [grow_empty]; rfl⟩ (h _ (fun a w h => ⟨rfl, h⟩))
  exact Code.wp_mono (fun e a w ⟨he, hq⟩ => by rw [he]; exact hq) this
end
end Go.Proofs.YtlfglbnbenaghaaGreatDoor
