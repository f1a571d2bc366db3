/- The parts Pd, Ac, Lh, Co, Cp of the proof, joined. It holds without conditions of its own. -/
import Derived.Test.YtimdmgkegdlafaaGreatDoorSH3
import Derived.Test.YtimdmgkegdlafaaGreatDoorSH17
import Derived.Test.YtimdmgkegdlafaaGreatDoorSH30
/- Plain facts of signed leaves, and of a book with its first gatherings alone. -/
namespace Go.Proofs.YtimdmgkegdlafaaGreatDoor
set_option linter.unusedSimpArgs false
set_option linter.unusedVariables false

theorem signs_mem {b : Bk} {t : Nat} : t ∈ signsF b ↔ ∃ x, (lvs b)[t]? = some x ∧ signedL b x = true := by
  unfold signsF signsOf
  simp only [List.mem_map, List.mem_filter]
  constructor
  · rintro ⟨⟨x, i⟩, ⟨h1, h2⟩, rfl⟩
    exact ⟨x, List.mem_zipIdx_iff_getElem?.1 h1, h2⟩
  · rintro ⟨x, h1, h2⟩
    exact ⟨(x, t), ⟨List.mem_zipIdx_iff_getElem?.2 h1, h2⟩, rfl⟩
theorem signs_sorted (b : Bk) : (signsF b).Pairwise (· < ·) := by
  unfold signsF signsOf
  rw [List.pairwise_map]
  have h : ((lvs b).zipIdx).Pairwise (fun x y => x.2 < y.2) := by
    rw [← List.pairwise_map (f := Prod.snd) (R := (· < ·)), List.zipIdx_map_snd]
    exact List.pairwise_lt_range'
  exact h.sublist List.filter_sublist
theorem lvs_plus {b : Bk} {x : Lf} (h : x ∈ lvs b) (hk : x.kind ≠ 2) : x.plus = 0 := by
  obtain ⟨g, _, hm⟩ := lvs_mem h
  simp only [lvsG, List.mem_flatMap] at hm
  obtain ⟨k, _, hm⟩ := hm
  simp only [lvsNum, List.mem_append, List.mem_map] at hm
  rcases hm with hm | ⟨j, _, hm⟩
  · split at hm
    · rw [List.mem_singleton] at hm
      exact congrArg Lf.plus hm
    · cases hm
  · exact absurd (congrArg Lf.kind hm).symm hk
theorem signed_is {b : Bk} {x : Lf} (h : signedL b x = true) : ∃ g, b.gs[x.gat]? = some g ∧ g.letter < 23 ∧ x.kind ≠ 2 ∧ x.num ≤ b.signed := by
  unfold signedL at h
  split at h
  · rename_i g hg
    simp only [signedB, Bool.and_eq_true, decide_eq_true_eq, bne_iff_ne] at h
    exact ⟨g, hg, h.1.1, h.1.2, h.2⟩
  · cases h
theorem signed_great {b : Bk} {s : Int} {x : Lf} (hs : b.signed ≤ s) (h : signedL b x = true) : signedL ⟨s, b.gs⟩ x = true := by
  obtain ⟨g, h1, h2, h3, h4⟩ := signed_is h
  unfold signedL
  dsimp only
  rw [h1]
  simp only [signedB, Bool.and_eq_true, decide_eq_true_eq, bne_iff_ne]
  exact ⟨⟨h2, h3⟩, by omega⟩
theorem lvs_gs (s : Int) (b : Bk) : lvs ⟨s, b.gs⟩ = lvs b := rfl
theorem signs_great {b : Bk} {s : Int} (hs : b.signed ≤ s) {t : Nat} (h : t ∈ signsF b) : t ∈ signsF ⟨s, b.gs⟩ := by
  obtain ⟨x, h1, h2⟩ := signs_mem.1 h
  exact signs_mem.2 ⟨x, by rw [lvs_gs]; exact h1, signed_great hs h2⟩
theorem err_is {b : Bk} (h : errF b = 0) : inB 0 12 b.signed = true ∧ inB 1 30 b.gs.length = true ∧ (gsErr [] (0, 0) 0 b.gs).2 = 0 := by
  unfold errF checkF at h
  by_cases h1 : inB 0 12 b.signed = false
  · rw [if_pos h1] at h; simp at h
  rw [if_neg h1] at h
  by_cases h2 : inB 1 30 b.gs.length = false
  · rw [if_pos h2] at h; simp at h
  rw [if_neg h2] at h
  by_cases h3 : (gsErr [] (0, 0) 0 b.gs).2 = 0
  · exact ⟨by simpa using h1, by simpa using h2, h3⟩
  · rw [if_neg h3] at h; exact absurd h h3
theorem err_of {b : Bk} (h1 : inB 0 12 b.signed = true) (h2 : inB 1 30 b.gs.length = true) (h3 : (gsErr [] (0, 0) 0 b.gs).2 = 0) : errF b = 0 := by
  unfold errF checkF
  rw [if_neg (by rw [h1]; decide), if_neg (by rw [h2]; decide), if_pos h3]
theorem err_great {b : Bk} {s : Int} (h : errF b = 0) (h0 : 0 ≤ s) (h1 : s ≤ 12) : errF ⟨s, b.gs⟩ = 0 := by
  obtain ⟨_, h3, h4⟩ := err_is h
  exact err_of (by rw [inB_iff]; exact ⟨h0, h1⟩) h3 h4
theorem gsErr_take : ∀ (gs : List Gth) (k : Nat) (seen : List (Int × Int)) (last : Int × Int) (i : Nat), (gsErr seen last i gs).2 = 0 → (gsErr seen last i (gs.take k)).2 = 0
  | [], k, _, _, _, _ => by simp [gsErr]
  | g :: gs, 0, _, _, _, _ => by simp [gsErr]
  | g :: gs, k + 1, seen, last, i, h => by
    rw [List.take_succ_cons]
    unfold gsErr at h ⊢
    by_cases h0 : gthErr seen last g = 0
    · rw [if_pos h0] at h ⊢
      exact gsErr_take gs k _ _ _ h
    · rw [if_neg h0] at h ⊢
      exact h
theorem err_take {b : Bk} {k : Nat} (h : errF b = 0) (h1 : 1 ≤ k) (h2 : k ≤ b.gs.length) : errF ⟨b.signed, b.gs.take k⟩ = 0 := by
  obtain ⟨h3, h4, h5⟩ := err_is h
  rw [inB_iff] at h4
  exact err_of h3 (by rw [inB_iff]; dsimp only; rw [List.length_take]; omega) (gsErr_take _ _ _ _ _ h5)
theorem lvs_part (b : Bk) (k : Nat) : ∃ rest, lvs b = lvs ⟨b.signed, b.gs.take k⟩ ++ rest := by
  refine ⟨lvsFrom (0 + (b.gs.take k).length) (b.gs.drop k), ?_⟩
  show lvsFrom 0 b.gs = lvsFrom 0 (b.gs.take k) ++ _
  rw [← lvsFrom_app, List.take_append_drop]
theorem names_part (b : Bk) (k : Nat) (rest : List Lf) (h : lvs b = lvs ⟨b.signed, b.gs.take k⟩ ++ rest) : namesF b = namesF ⟨b.signed, b.gs.take k⟩ ++ rest.map (nameQ b) := by
  unfold namesF
  rw [h, List.map_append]
  congr 1
  apply List.map_congr_left
  intro x hx
  obtain ⟨g, hg, _⟩ := lvs_mem hx
  dsimp only at hg
  have hg' := hg
  rw [List.getElem?_take] at hg'
  split at hg'
  · unfold nameQ
    dsimp only
    rw [hg, hg']
  · cases hg'
theorem diffAt_part : ∀ (xs ys : List Quad) (i : Nat), diffAt i xs (xs ++ ys) = if ys = [] then none else some (i + xs.length)
  | [], [], i => by simp [diffAt]
  | [], y :: ys, i => by simp [diffAt]
  | x :: xs, ys, i => by
    rw [List.cons_append, diffAt, if_pos rfl, diffAt_part xs ys (i + 1)]
    split
    · rfl
    · rw [List.length_cons]
      congr 1
      omega
end Go.Proofs.YtimdmgkegdlafaaGreatDoor

/- The law's comparison of two lists of numbers. -/
namespace Go.Proofs.YtimdmgkegdlafaaGreatDoor
set_option linter.unusedSimpArgs false
set_option linter.unusedVariables false
open Go Go.RowKit Go.Sort Go.BigFrame Go.Shelf
attribute [local go_sem] Oper.semAt_some putAll

/-- A slice of numbers. -/
def IntsAt (W : World) (v : Value) (xs : List Int) : Prop :=
  ∃ (a : Option Addr) (cap : Nat), v = .slice a xs.length cap ∧ (xs ≠ [] → ∃ g, a = some ⟨g, 0, none⟩ ∧ g < W.heap.size ∧ ∀ i x, xs[i]? = some x → W.cell? ⟨g, i, none⟩ = some (.int .i64 x))
theorem take_step {α : Type} {xs ys : List α} {k : Nat} {x y : α} (hx : xs[k]? = some x) (hy : ys[k]? = some y) (h : xs.take k = ys.take k) (e : x = y) : xs.take (k + 1) = ys.take (k + 1) := by
  rw [List.take_add_one, List.take_add_one, h, hx, hy, e]

set_option maxRecDepth 100000 in
set_option maxHeartbeats 1000000 in
theorem Ints_any (xs ys : List Int) (v u : Value) (w : World) (hv : IntsAt w v xs) (hu : IntsAt w u ys) (hl : xs.length < 1000000) (hl2 : ys.length < 1000000) :
    Calls Tryz.prog 38 #[v, u] w fun e w' => e = .returned (.bool (decide (xs = ys))) ∧ Below w.heap.size w w' := by
  obtain ⟨ax, capx, rfl, hx⟩ := hv
  obtain ⟨ay, capy, rfl, hy⟩ := hu
  have HX := Lib.hid hx
  have HY := Lib.hid hy
  have HB := Lib.hid (Below.refl w.heap.size w)
  clear hx hy
  obtain ⟨n, hn⟩ : ∃ n, n = xs.length := ⟨_, rfl⟩
  obtain ⟨m, hm⟩ : ∃ m, m = ys.length := ⟨_, rfl⟩
  rw [← hn] at hl
  rw [← hm] at hl2
  rw [← hn, ← hm]
  have HN := Lib.hid hn
  have HM := Lib.hid hm
  clear hn hm
  have hB : ∃ B : Bool, ((n : Int) == (m : Int)) = B ∧ Hid ((B = true → n = m) ∧ (B = false → xs ≠ ys)) := by
    by_cases e : n = m
    · exact ⟨true, by simp [e], fun _ => e, fun h => by cases h⟩
    · exact ⟨false, by simp; omega, (fun h => by cases h), fun _ h => e (by rw [HN.out, HM.out, h])⟩
  obtain ⟨B, hBe, HBB⟩ := hB
  go_enter Tryz.func38, Tryz.ntmps38
  go_wp2_with fail
  go_loopw [5, 6] (fun f i wr => ∃ (k q : Nat) (D : Bool), k ≤ n ∧ i = .int .i64 k ∧ wr = w.drewN q ∧ f = .bool D ∧ Hid (D = true → n = m ∧ xs.take k = ys.take k) ∧ Hid (D = false → xs ≠ ys)) (fun _ i _ => n - (intOf i).toNat)
  case atStart => exact ⟨0, 0, B, by omega, rfl, rfl, rfl, fun h => ⟨HBB.out.1 h, rfl⟩, HBB.out.2⟩
  case round =>
    obtain ⟨k, q, D, hk, rfl, rfl, rfl, hT, hF⟩ := hrel
    clear HBB hBe
    cases D with
    | false =>
      have HD : Hid (decide (xs = ys) = false) := decide_eq_false (hF.out rfl)
      clear hT hF
      go_wp2_with fail
      go_ret
      exact ⟨by rw [HD.out]; rfl, bdrewN HB.out _⟩
    | true =>
      obtain ⟨hnm, htk⟩ := hT.out rfl
      clear hT hF
      by_cases hlt : k < n
      · obtain ⟨x, hx⟩ : ∃ x, xs[k]? = some x := ⟨_, List.getElem?_eq_getElem (by have := HN.out; omega)⟩
        obtain ⟨y, hy⟩ : ∃ y, ys[k]? = some y := ⟨_, List.getElem?_eq_getElem (by have := HM.out; omega)⟩
        obtain ⟨gx, rfl, -, hcx⟩ := HX.out (fun e => by rw [e] at hx; cases hx)
        obtain ⟨gy, rfl, -, hcy⟩ := HY.out (fun e => by rw [e] at hy; cases hy)
        have x0 := hcx k x hx
        have y0 := hcy k y hy
        have HXX := Lib.hid hx
        have HYY := Lib.hid hy
        have HTK := Lib.hid htk
        have hkm : k < m := by omega
        clear hcx hcy hx hy htk
        go_wp2_with fail
        by_cases hxy : x = y
        · subst hxy
          go_quiet (fail)
          go_wp2_with fail
          go_roundw
          case rel => exact ⟨k + 1, q + nq, true, by omega, by go_num, rfl, by simp, (fun _ => ⟨hnm, take_step HXX.out HYY.out HTK.out rfl⟩), (fun h => by cases h)⟩
          case measure => simp [intOf]; omega
        · have HNE : Hid (xs ≠ ys) := fun e => by have h1 := HXX.out; rw [e, HYY.out] at h1; cases h1; exact hxy rfl
          go_quiet (fail)
          go_wp2_with fail
          go_roundw
          case rel => exact ⟨k + 1, q + nq, false, by omega, by go_num, rfl, by simp [hxy], (fun h => by cases h), (fun _ => HNE.out)⟩
          case measure => simp [intOf]; omega
      · have hkn : k = n := by omega
        have HD : Hid (decide (xs = ys) = true) := decide_eq_true (by
          have h1 := htk
          rw [hkn, HN.out, List.take_length, ← HN.out, hnm, HM.out, List.take_length] at h1
          exact h1)
        subst hkn
        clear htk
        go_wp2_with fail
        go_ret
        exact ⟨by rw [HD.out]; rfl, bdrewN HB.out _⟩

end Go.Proofs.YtimdmgkegdlafaaGreatDoor

/- Small functions of the reference over lists: Has, Alike, Before. -/
namespace Go.Proofs.YtimdmgkegdlafaaGreatDoor
set_option linter.unusedSimpArgs false
set_option linter.unusedVariables false
open Go Go.RowKit Go.Sort Go.BigFrame Go.Shelf
attribute [local go_sem] Oper.semAt_some putAll

theorem IntsAt.get {W : World} {a : Option Addr} {n cap : Nat} {xs : List Int} (h : IntsAt W (.slice a n cap) xs) {i : Nat} {x : Int} (hx : xs[i]? = some x) : ∃ g, a = some ⟨g, 0, none⟩ ∧ g < W.heap.size ∧ W.cell? ⟨g, i, none⟩ = some (.int .i64 x) := by
  obtain ⟨a', cap', e, hc⟩ := h
  cases e
  obtain ⟨g, h1, h2, h3⟩ := hc (fun e => by rw [e] at hx; cases hx)
  exact ⟨g, h1, h2, h3 i x hx⟩
theorem not_mem_take {xs : List Int} {k : Nat} {x z : Int} (hx : xs[k]? = some x) (h : z ∉ xs.take k) (hne : x ≠ z) : z ∉ xs.take (k + 1) := by
  rw [List.take_add_one, hx]
  simp only [Option.toList_some, List.mem_append, List.mem_singleton, not_or]
  exact ⟨h, fun e => hne e.symm⟩

end Go.Proofs.YtimdmgkegdlafaaGreatDoor

/- The reference's Pair and Mate. -/
namespace Go.Proofs.YtimdmgkegdlafaaGreatDoor
set_option linter.unusedSimpArgs false
set_option linter.unusedVariables false
open Go Go.RowKit Go.Sort Go.BigFrame Go.Shelf
attribute [local go_sem] Oper.semAt_some putAll

/-- A leaf at a number is the mate of another, as the reference asks. -/
def pairC (g : Gth) (i k : Nat) (x y : Lf) : Prop := k ≠ i ∧ y.gat = x.gat ∧ y.kind = 0 ∧ y.num + x.num = g.leaves + 1
theorem pair_cond {b : Bk} {i k : Nat} {x y : Lf} {g : Gth} (hx : (lvs b)[i]? = some x) (hy : (lvs b)[k]? = some y) (hg : b.gs[x.gat]? = some g) (hk : x.kind = 0) :
    pairC g i k x y ↔ turnedL b x ≠ x ∧ y = turnedL b x := by
  have px : x.plus = 0 := lvs_plus (List.mem_of_getElem? hx) (by omega)
  rw [turned_is hg]
  constructor
  · rintro ⟨h1, h2, h3, h4⟩
    have py : y.plus = 0 := lvs_plus (List.mem_of_getElem? hy) (by omega)
    have e : y = ⟨x.gat, g.leaves + 1 - x.num, x.plus, x.kind⟩ := by
      cases y
      simp only at *
      simp only [Lf.mk.injEq]
      omega
    refine ⟨fun h => h1 ?_, e⟩
    rw [← e] at h
    rw [h] at hy
    exact sorted_inj (lvs_sorted b) hy hx
  · rintro ⟨h1, rfl⟩
    refine ⟨fun h => h1 ?_, rfl, hk, ?_⟩
    · subst h
      rw [hx] at hy
      exact (Option.some.inj hy).symm
    · show g.leaves + 1 - x.num + x.num = _
      omega
theorem pair_found {b : Bk} {i k : Nat} {x y : Lf} {g : Gth} (hx : (lvs b)[i]? = some x) (hy : (lvs b)[k]? = some y) (hg : b.gs[x.gat]? = some g) (hk : x.kind = 0) (h : pairC g i k x y) : mateF b i = some k := by
  obtain ⟨h1, h2⟩ := (pair_cond hx hy hg hk).1 h
  unfold mateF
  rw [getL_nat, hx]
  dsimp only
  rw [if_pos ⟨hk, h1⟩, ← h2]
  exact find_at (lvs_sorted b) hy
theorem pair_not {b : Bk} {i : Nat} {x : Lf} {g : Gth} (hx : (lvs b)[i]? = some x) (hg : b.gs[x.gat]? = some g) (h : x.kind = 0 → ∀ k y, (lvs b)[k]? = some y → ¬ pairC g i k x y) : mateF b i = none := by
  cases hm : mateF b i with
  | none => rfl
  | some k =>
    unfold mateF at hm
    rw [getL_nat, hx] at hm
    dsimp only at hm
    split at hm
    · rename_i h0
      have hy := find_some hm
      exact absurd ((pair_cond hx hy hg h0.1).2 ⟨h0.2, rfl⟩) (h h0.1 k _ hy)
    · cases hm
def pairF (b : Bk) (n : Int) : Int := match mateF b n with
  | some m => m
  | none => -1

end Go.Proofs.YtimdmgkegdlafaaGreatDoor

/- The reference's Mate. -/
namespace Go.Proofs.YtimdmgkegdlafaaGreatDoor
set_option linter.unusedSimpArgs false
set_option linter.unusedVariables false
open Go Go.RowKit Go.Sort Go.BigFrame Go.Shelf
attribute [local go_sem] Oper.semAt_some putAll

theorem mate_out {b : Bk} {n : Int} (h : inB 0 ((lvs b).length - 1) n = false) : mateF b n = none := by
  have e : getL (lvs b) n = none := by
    cases hx : getL (lvs b) n with
    | none => rfl
    | some x =>
      unfold getL at hx
      split at hx
      · cases hx
      · have := (List.getElem?_eq_some_iff.1 hx).1
        simp [inB] at h
        omega
  unfold mateF
  rw [e]
theorem mate_in {b : Bk} {n : Int} (h : inB 0 ((lvs b).length - 1) n = true) : ∃ (i : Nat) (x : Lf), n = i ∧ (lvs b)[i]? = some x := by
  simp [inB] at h
  exact ⟨n.toNat, _, by omega, List.getElem?_eq_getElem (by omega)⟩

end Go.Proofs.YtimdmgkegdlafaaGreatDoor
