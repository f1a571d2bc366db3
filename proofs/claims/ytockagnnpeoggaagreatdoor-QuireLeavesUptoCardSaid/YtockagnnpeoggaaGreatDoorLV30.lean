/- The parts Cn, Pb, Pd, Ac, Lh of the proof, joined. It holds without conditions of its own. -/
import Derived.Test.YtockagnnpeoggaaGreatDoorLV29
import Derived.Test.YtockagnnpeoggaaGreatDoorLV28
import Derived.Test.YtockagnnpeoggaaGreatDoorLV1
import Derived.Test.YtockagnnpeoggaaGreatDoorLV15
import Derived.Test.YtockagnnpeoggaaGreatDoorLV16
/- The reference's Leaves. -/
namespace Go.Proofs.YtockagnnpeoggaaGreatDoor
set_option linter.unusedSimpArgs false
set_option linter.unusedVariables false
open Go Go.RowKit Go.Sort Go.BigFrame Go.Shelf
attribute [local go_sem] Oper.semAt_some putAll

set_option maxRecDepth 100000 in
set_option maxHeartbeats 400000 in
theorem refLeaves_bad (b : Bk) (v : Value) (w : World) (hb : BookAt w.heap.size w v b) (he : errF b ≠ 0) :
    Calls Tryz.prog 18 #[v] w fun e w' => e = .returned (.tuple #[.slice none 0 0, .int .i64 (errF b)]) ∧ Below w.heap.size w w' := by
  obtain ⟨sv, rfl, hgs⟩ := hb
  have hb : BookAt w.heap.size w (.agg #[.int .i64 b.signed, sv]) b := ⟨sv, rfl, hgs⟩
  obtain ⟨a, cap, rfl, -⟩ := hgs
  have HK := Lib.hid (BkBox.start hb)
  clear hb
  have hne : (errF b != 0) = true := by simp [he]
  have HV : Hid (checkR b = .tuple #[.int .i64 (checkF b).1, .int .i64 (checkF b).2.1, .int .i64 (errF b)]) := Lib.hid rfl
  clear he
  have c0 := blk_cell HK.out.box 0; have c1 := blk_cell HK.out.box 1
  go_enter Tryz.func18, Tryz.ntmps18
  go_wp2_with fail
  refine (refCheck_any b _ _ HK.out.book).mono ?_
  rintro e w1 ⟨rfl, hb1⟩
  rw [HV.out]
  have HK := Lib.hid (HK.out.later hb1)
  clear hb1 c0 c1
  go_wp2_with fail
  go_ret2
  exact ⟨rfl, HK.out.below⟩

set_option maxRecDepth 100000 in
set_option maxHeartbeats 400000 in
theorem refLeaves_good (b : Bk) (v : Value) (w : World) (hb : BookAt w.heap.size w v b) (he : errF b = 0) :
    Calls Tryz.prog 18 #[v] w fun e w' => (∃ v', e = .returned (.tuple #[v', .int .i64 0]) ∧ LfsAt w' v' (lvs b)) ∧ Below w.heap.size w w' := by
  obtain ⟨sv, rfl, hgs⟩ := hb
  have hb : BookAt w.heap.size w (.agg #[.int .i64 b.signed, sv]) b := ⟨sv, rfl, hgs⟩
  obtain ⟨a, cap, rfl, -⟩ := hgs
  have HK := Lib.hid (BkBox.start hb)
  clear hb
  have HV : Hid (checkR b = .tuple #[.int .i64 (checkF b).1, .int .i64 (checkF b).2.1, .int .i64 0]) := Lib.hid (by rw [checkR_eq]; unfold errF at he; rw [he])
  have HE := Lib.hid he
  clear he
  have c0 := blk_cell HK.out.box 0; have c1 := blk_cell HK.out.box 1
  go_enter Tryz.func18, Tryz.ntmps18
  go_wp2_with fail
  refine (refCheck_any b _ _ HK.out.book).mono ?_
  rintro e w1 ⟨rfl, hb1⟩
  rw [HV.out]
  have HK := Lib.hid (HK.out.later hb1)
  clear hb1 c0 c1
  have c0 := blk_cell HK.out.box 0; have c1 := blk_cell HK.out.box 1
  go_wp2_with fail
  refine (refAll_any b _ _ HK.out.book (errF_zero HE.out)).mono ?_
  rintro e w2 ⟨⟨v', rfl, hrow⟩, hb2⟩
  have hL := LfsAt.of_row hrow
  have HK := Lib.hid (HK.out.later hb2)
  clear hb2 c0 c1 hrow
  have HL := Lib.hid hL
  clear hL
  go_wp2_with fail
  go_ret2
  exact ⟨⟨_, rfl, HL.out⟩, HK.out.below⟩

end Go.Proofs.YtockagnnpeoggaaGreatDoor

/- Plain facts of mates. -/
namespace Go.Proofs.YtockagnnpeoggaaGreatDoor
set_option linter.unusedSimpArgs false
set_option linter.unusedVariables false

theorem turned_is {b : Bk} {x : Lf} {g : Gth} (hg : b.gs[x.gat]? = some g) : turnedL b x = ⟨x.gat, g.leaves + 1 - x.num, x.plus, x.kind⟩ := by unfold turnedL; rw [hg]
theorem turned_back {b : Bk} {x : Lf} {g : Gth} (hg : b.gs[x.gat]? = some g) : turnedL b (turnedL b x) = x := by
  rw [turned_is hg, turned_is (by exact hg)]
  obtain ⟨a, n, p, k⟩ := x
  dsimp only
  congr 1
  omega
theorem getL_nat {α : Type} (xs : List α) (i : Nat) : getL xs (i : Int) = xs[i]? := by
  unfold getL
  rw [if_neg (by omega), Int.toNat_natCast]
/-- What is so of a leaf that has a mate. -/
structure MateOk (b : Bk) (i k : Nat) (x y : Lf) (g : Gth) : Prop where
  at_ : (lvs b)[k]? = some y
  gat : y.gat = x.gat
  num : y.num + x.num = g.leaves + 1
  kx : x.kind = 0
  ky : y.kind = 0
  ne : k ≠ i
  back : mateF b k = some i
theorem mate_ok {b : Bk} {i k : Nat} {x : Lf} {g : Gth} (hx : (lvs b)[i]? = some x) (hg : b.gs[x.gat]? = some g) (h : mateF b i = some k) : ∃ y, MateOk b i k x y g := by
  unfold mateF at h
  rw [getL_nat, hx] at h
  dsimp only at h
  split at h
  · rename_i hc
    have hk := find_some h
    have ht := turned_is hg
    refine ⟨turnedL b x, hk, by rw [ht], by rw [ht]; dsimp only; omega, hc.1, by rw [ht]; exact hc.1, fun e => ?_, ?_⟩
    · subst e
      rw [hx] at hk
      exact hc.2 (Option.some.inj hk).symm
    · unfold mateF
      rw [getL_nat, hk]
      dsimp only
      rw [turned_back hg, if_pos ⟨by rw [ht]; exact hc.1, fun e => hc.2 e.symm⟩]
      exact find_at (lvs_sorted b) hx
  · cases h
theorem mate_none {b : Bk} (hok : BOk b) {i : Nat} {x : Lf} {g : Gth} (hx : (lvs b)[i]? = some x) (hg : b.gs[x.gat]? = some g) (h : mateF b i = none) : g.chs ≠ [] ∨ g.leaves = 1 := by
  by_cases hc : g.chs = []
  · refine Or.inr ?_
    have hf := (hok.gs g (List.mem_of_getElem? hg)).folded
    obtain ⟨g', hg', hm⟩ := lvs_mem (List.mem_of_getElem? hx)
    rw [hg] at hg'
    cases hg'
    rw [lvsG_plain hc] at hm
    by_cases h1 : g.leaves = 1
    · exact h1
    exfalso
    have he : g.leaves % 2 = 0 := by
      simp only [foldedB, Bool.or_eq_true, Bool.and_eq_true, decide_eq_true_eq] at hf
      omega
    have ht := turned_is hg
    have hy : turnedL b x ∈ lvs b := mem_lvs hg (by
      rw [lvsG_plain hc, ht]
      exact ⟨rfl, by dsimp only; omega, by dsimp only; omega, hm.2.2.2.1, hm.2.2.2.2⟩)
    obtain ⟨k, hk⟩ := find_mem hy
    unfold mateF at h
    rw [getL_nat, hx] at h
    dsimp only at h
    rw [if_pos ⟨hm.2.2.2.2, fun e => by
      have e' := congrArg Lf.num (ht.symm.trans e)
      dsimp only at e'
      omega⟩, hk] at h
    cases h
  · exact Or.inl hc
end Go.Proofs.YtockagnnpeoggaaGreatDoor

/- Plain facts of signed leaves, and of a book with its first gatherings alone. -/
namespace Go.Proofs.YtockagnnpeoggaaGreatDoor
set_option linter.unusedSimpArgs false
set_option linter.unusedVariables false

theorem signs_mem {b : Bk} {t : Nat} : t ∈ signsF b ↔ ∃ x, (lvs b)[t]? = some x ∧ signedL b x = true := by
  unfold signsF signsOf
  simp only [List.mem_map, List.mem_filter]
  constructor
  · rintro ⟨⟨x, i⟩, ⟨h1, h2⟩, rfl⟩
    exact ⟨x, List.mem_zipIdx_iff_getElem?.1 h1, h2⟩
  · rintro ⟨x, h1, h2⟩
    exact ⟨(x, t), ⟨List.mem_zipIdx_iff_getElem?.2 h1, h2⟩, rfl⟩
theorem signs_sorted (b : Bk) : (signsF b).Pairwise (· < ·) := by
  unfold signsF signsOf
  rw [List.pairwise_map]
  have h : ((lvs b).zipIdx).Pairwise (fun x y => x.2 < y.2) := by
    rw [← List.pairwise_map (f := Prod.snd) (R := (· < ·)), List.zipIdx_map_snd]
    exact List.pairwise_lt_range'
  exact h.sublist List.filter_sublist
theorem lvs_plus {b : Bk} {x : Lf} (h : x ∈ lvs b) (hk : x.kind ≠ 2) : x.plus = 0 := by
  obtain ⟨g, _, hm⟩ := lvs_mem h
  simp only [lvsG, List.mem_flatMap] at hm
  obtain ⟨k, _, hm⟩ := hm
  simp only [lvsNum, List.mem_append, List.mem_map] at hm
  rcases hm with hm | ⟨j, _, hm⟩
  · split at hm
    · rw [List.mem_singleton] at hm
      exact congrArg Lf.plus hm
    · cases hm
  · exact absurd (congrArg Lf.kind hm).symm hk
theorem signed_is {b : Bk} {x : Lf} (h : signedL b x = true) : ∃ g, b.gs[x.gat]? = some g ∧ g.letter < 23 ∧ x.kind ≠ 2 ∧ x.num ≤ b.signed := by
  unfold signedL at h
  split at h
  · rename_i g hg
    simp only [signedB, Bool.and_eq_true, decide_eq_true_eq, bne_iff_ne] at h
    exact ⟨g, hg, h.1.1, h.1.2, h.2⟩
  · cases h
theorem signed_great {b : Bk} {s : Int} {x : Lf} (hs : b.signed ≤ s) (h : signedL b x = true) : signedL ⟨s, b.gs⟩ x = true := by
  obtain ⟨g, h1, h2, h3, h4⟩ := signed_is h
  unfold signedL
  dsimp only
  rw [h1]
  simp only [signedB, Bool.and_eq_true, decide_eq_true_eq, bne_iff_ne]
  exact ⟨⟨h2, h3⟩, by omega⟩
theorem lvs_gs (s : Int) (b : Bk) : lvs ⟨s, b.gs⟩ = lvs b := rfl
theorem signs_great {b : Bk} {s : Int} (hs : b.signed ≤ s) {t : Nat} (h : t ∈ signsF b) : t ∈ signsF ⟨s, b.gs⟩ := by
  obtain ⟨x, h1, h2⟩ := signs_mem.1 h
  exact signs_mem.2 ⟨x, by rw [lvs_gs]; exact h1, signed_great hs h2⟩
theorem err_is {b : Bk} (h : errF b = 0) : inB 0 12 b.signed = true ∧ inB 1 30 b.gs.length = true ∧ (gsErr [] (0, 0) 0 b.gs).2 = 0 := by
  unfold errF checkF at h
  by_cases h1 : inB 0 12 b.signed = false
  · rw [if_pos h1] at h; simp at h
  rw [if_neg h1] at h
  by_cases h2 : inB 1 30 b.gs.length = false
  · rw [if_pos h2] at h; simp at h
  rw [if_neg h2] at h
  by_cases h3 : (gsErr [] (0, 0) 0 b.gs).2 = 0
  · exact ⟨by simpa using h1, by simpa using h2, h3⟩
  · rw [if_neg h3] at h; exact absurd h h3
theorem err_of {b : Bk} (h1 : inB 0 12 b.signed = true) (h2 : inB 1 30 b.gs.length = true) (h3 : (gsErr [] (0, 0) 0 b.gs).2 = 0) : errF b = 0 := by
  unfold errF checkF
  rw [if_neg (by rw [h1]; decide), if_neg (by rw [h2]; decide), if_pos h3]
theorem err_great {b : Bk} {s : Int} (h : errF b = 0) (h0 : 0 ≤ s) (h1 : s ≤ 12) : errF ⟨s, b.gs⟩ = 0 := by
  obtain ⟨_, h3, h4⟩ := err_is h
  exact err_of (by rw [inB_iff]; exact ⟨h0, h1⟩) h3 h4
theorem gsErr_take : ∀ (gs : List Gth) (k : Nat) (seen : List (Int × Int)) (last : Int × Int) (i : Nat), (gsErr seen last i gs).2 = 0 → (gsErr seen last i (gs.take k)).2 = 0
  | [], k, _, _, _, _ => by simp [gsErr]
  | g :: gs, 0, _, _, _, _ => by simp [gsErr]
  | g :: gs, k + 1, seen, last, i, h => by
    rw [List.take_succ_cons]
    unfold gsErr at h ⊢
    by_cases h0 : gthErr seen last g = 0
    · rw [if_pos h0] at h ⊢
      exact gsErr_take gs k _ _ _ h
    · rw [if_neg h0] at h ⊢
      exact h
theorem err_take {b : Bk} {k : Nat} (h : errF b = 0) (h1 : 1 ≤ k) (h2 : k ≤ b.gs.length) : errF ⟨b.signed, b.gs.take k⟩ = 0 := by
  obtain ⟨h3, h4, h5⟩ := err_is h
  rw [inB_iff] at h4
  exact err_of h3 (by rw [inB_iff]; dsimp only; rw [List.length_take]; omega) (gsErr_take _ _ _ _ _ h5)
theorem lvs_part (b : Bk) (k : Nat) : ∃ rest, lvs b = lvs ⟨b.signed, b.gs.take k⟩ ++ rest := by
  refine ⟨lvsFrom (0 + (b.gs.take k).length) (b.gs.drop k), ?_⟩
  show lvsFrom 0 b.gs = lvsFrom 0 (b.gs.take k) ++ _
  rw [← lvsFrom_app, List.take_append_drop]
theorem names_part (b : Bk) (k : Nat) (rest : List Lf) (h : lvs b = lvs ⟨b.signed, b.gs.take k⟩ ++ rest) : namesF b = namesF ⟨b.signed, b.gs.take k⟩ ++ rest.map (nameQ b) := by
  unfold namesF
  rw [h, List.map_append]
  congr 1
  apply List.map_congr_left
  intro x hx
  obtain ⟨g, hg, _⟩ := lvs_mem hx
  dsimp only at hg
  have hg' := hg
  rw [List.getElem?_take] at hg'
  split at hg'
  · unfold nameQ
    dsimp only
    rw [hg, hg']
  · cases hg'
theorem diffAt_part : ∀ (xs ys : List Quad) (i : Nat), diffAt i xs (xs ++ ys) = if ys = [] then none else some (i + xs.length)
  | [], [], i => by simp [diffAt]
  | [], y :: ys, i => by simp [diffAt]
  | x :: xs, ys, i => by
    rw [List.cons_append, diffAt, if_pos rfl, diffAt_part xs ys (i + 1)]
    split
    · rfl
    · rw [List.length_cons]
      congr 1
      omega
end Go.Proofs.YtockagnnpeoggaaGreatDoor

/- The law's comparison of two lists of numbers. -/
namespace Go.Proofs.YtockagnnpeoggaaGreatDoor
set_option linter.unusedSimpArgs false
set_option linter.unusedVariables false
open Go Go.RowKit Go.Sort Go.BigFrame Go.Shelf
attribute [local go_sem] Oper.semAt_some putAll

/-- A slice of numbers. -/
def IntsAt (W : World) (v : Value) (xs : List Int) : Prop :=
  ∃ (a : Option Addr) (cap : Nat), v = .slice a xs.length cap ∧ (xs ≠ [] → ∃ g, a = some ⟨g, 0, none⟩ ∧ g < W.heap.size ∧ ∀ i x, xs[i]? = some x → W.cell? ⟨g, i, none⟩ = some (.int .i64 x))
theorem take_step {α : Type} {xs ys : List α} {k : Nat} {x y : α} (hx : xs[k]? = some x) (hy : ys[k]? = some y) (h : xs.take k = ys.take k) (e : x = y) : xs.take (k + 1) = ys.take (k + 1) := by
  rw [List.take_add_one, List.take_add_one, h, hx, hy, e]

set_option maxRecDepth 100000 in
set_option maxHeartbeats 1000000 in
theorem Ints_any (xs ys : List Int) (v u : Value) (w : World) (hv : IntsAt w v xs) (hu : IntsAt w u ys) (hl : xs.length < 1000000) (hl2 : ys.length < 1000000) :
    Calls Tryz.prog 13 #[v, u] w fun e w' => e = .returned (.bool (decide (xs = ys))) ∧ Below w.heap.size w w' := by
  obtain ⟨ax, capx, rfl, hx⟩ := hv
  obtain ⟨ay, capy, rfl, hy⟩ := hu
  have HX := Lib.hid hx
  have HY := Lib.hid hy
  have HB := Lib.hid (Below.refl w.heap.size w)
  clear hx hy
  obtain ⟨n, hn⟩ : ∃ n, n = xs.length := ⟨_, rfl⟩
  obtain ⟨m, hm⟩ : ∃ m, m = ys.length := ⟨_, rfl⟩
  rw [← hn] at hl
  rw [← hm] at hl2
  rw [← hn, ← hm]
  have HN := Lib.hid hn
  have HM := Lib.hid hm
  clear hn hm
  have hB : ∃ B : Bool, ((n : Int) == (m : Int)) = B ∧ Hid ((B = true → n = m) ∧ (B = false → xs ≠ ys)) := by
    by_cases e : n = m
    · exact ⟨true, by simp [e], fun _ => e, fun h => by cases h⟩
    · exact ⟨false, by simp; omega, (fun h => by cases h), fun _ h => e (by rw [HN.out, HM.out, h])⟩
  obtain ⟨B, hBe, HBB⟩ := hB
  go_enter Tryz.func13, Tryz.ntmps13
  go_wp2_with fail
  go_loopw [5, 6] (fun f i wr => ∃ (k q : Nat) (D : Bool), k ≤ n ∧ i = .int .i64 k ∧ wr = w.drewN q ∧ f = .bool D ∧ Hid (D = true → n = m ∧ xs.take k = ys.take k) ∧ Hid (D = false → xs ≠ ys)) (fun _ i _ => n - (intOf i).toNat)
  case atStart => exact ⟨0, 0, B, by omega, rfl, rfl, rfl, fun h => ⟨HBB.out.1 h, rfl⟩, HBB.out.2⟩
  case round =>
    obtain ⟨k, q, D, hk, rfl, rfl, rfl, hT, hF⟩ := hrel
    clear HBB hBe
    cases D with
    | false =>
      have HD : Hid (decide (xs = ys) = false) := decide_eq_false (hF.out rfl)
      clear hT hF
      go_wp2_with fail
      go_ret
      exact ⟨by rw [HD.out]; rfl, bdrewN HB.out _⟩
    | true =>
      obtain ⟨hnm, htk⟩ := hT.out rfl
      clear hT hF
      by_cases hlt : k < n
      · obtain ⟨x, hx⟩ : ∃ x, xs[k]? = some x := ⟨_, List.getElem?_eq_getElem (by have := HN.out; omega)⟩
        obtain ⟨y, hy⟩ : ∃ y, ys[k]? = some y := ⟨_, List.getElem?_eq_getElem (by have := HM.out; omega)⟩
        obtain ⟨gx, rfl, -, hcx⟩ := HX.out (fun e => by rw [e] at hx; cases hx)
        obtain ⟨gy, rfl, -, hcy⟩ := HY.out (fun e => by rw [e] at hy; cases hy)
        have x0 := hcx k x hx
        have y0 := hcy k y hy
        have HXX := Lib.hid hx
        have HYY := Lib.hid hy
        have HTK := Lib.hid htk
        have hkm : k < m := by omega
        clear hcx hcy hx hy htk
        go_wp2_with fail
        by_cases hxy : x = y
        · subst hxy
          go_quiet (fail)
          go_wp2_with fail
          go_roundw
          case rel => exact ⟨k + 1, q + nq, true, by omega, by go_num, rfl, by simp, (fun _ => ⟨hnm, take_step HXX.out HYY.out HTK.out rfl⟩), (fun h => by cases h)⟩
          case measure => simp [intOf]; omega
        · have HNE : Hid (xs ≠ ys) := fun e => by have h1 := HXX.out; rw [e, HYY.out] at h1; cases h1; exact hxy rfl
          go_quiet (fail)
          go_wp2_with fail
          go_roundw
          case rel => exact ⟨k + 1, q + nq, false, by omega, by go_num, rfl, by simp [hxy], (fun h => by cases h), (fun _ => HNE.out)⟩
          case measure => simp [intOf]; omega
      · have hkn : k = n := by omega
        have HD : Hid (decide (xs = ys) = true) := decide_eq_true (by
          have h1 := htk
          rw [hkn, HN.out, List.take_length, ← HN.out, hnm, HM.out, List.take_length] at h1
          exact h1)
        subst hkn
        clear htk
        go_wp2_with fail
        go_ret
        exact ⟨by rw [HD.out]; rfl, bdrewN HB.out _⟩

end Go.Proofs.YtockagnnpeoggaaGreatDoor

/- Small functions of the reference over lists: Has, Alike, Before. -/
namespace Go.Proofs.YtockagnnpeoggaaGreatDoor
set_option linter.unusedSimpArgs false
set_option linter.unusedVariables false
open Go Go.RowKit Go.Sort Go.BigFrame Go.Shelf
attribute [local go_sem] Oper.semAt_some putAll

theorem IntsAt.get {W : World} {a : Option Addr} {n cap : Nat} {xs : List Int} (h : IntsAt W (.slice a n cap) xs) {i : Nat} {x : Int} (hx : xs[i]? = some x) : ∃ g, a = some ⟨g, 0, none⟩ ∧ g < W.heap.size ∧ W.cell? ⟨g, i, none⟩ = some (.int .i64 x) := by
  obtain ⟨a', cap', e, hc⟩ := h
  cases e
  obtain ⟨g, h1, h2, h3⟩ := hc (fun e => by rw [e] at hx; cases hx)
  exact ⟨g, h1, h2, h3 i x hx⟩
theorem not_mem_take {xs : List Int} {k : Nat} {x z : Int} (hx : xs[k]? = some x) (h : z ∉ xs.take k) (hne : x ≠ z) : z ∉ xs.take (k + 1) := by
  rw [List.take_add_one, hx]
  simp only [Option.toList_some, List.mem_append, List.mem_singleton, not_or]
  exact ⟨h, fun e => hne e.symm⟩

set_option maxRecDepth 100000 in
set_option maxHeartbeats 800000 in
theorem refAlike_any (xs ys : List Lf) (v u : Value) (w : World) (hv : LfsAt w v xs) (hu : LfsAt w u ys) (hl : xs.length < 1000000) (hl2 : ys.length < 1000000) :
    Calls Tryz.prog 19 #[v, u] w fun e w' => e = .returned (.bool (decide (xs = ys))) ∧ Below w.heap.size w w' := by
  have HX := Lib.hid hv
  have HY := Lib.hid hu
  obtain ⟨ax, capx, rfl, -⟩ := hv
  obtain ⟨ay, capy, rfl, -⟩ := hu
  have HB := Lib.hid (Below.refl w.heap.size w)
  obtain ⟨n, hn⟩ : ∃ n, n = xs.length := ⟨_, rfl⟩
  obtain ⟨m, hm⟩ : ∃ m, m = ys.length := ⟨_, rfl⟩
  rw [← hn] at hl HX
  rw [← hm] at hl2 HY
  rw [← hn, ← hm]
  have HN := Lib.hid hn
  have HM := Lib.hid hm
  clear hn hm
  by_cases hnm : n = m
  · have e0 : ((n : Int) != (m : Int)) = false := by simp [hnm]
    go_enter Tryz.func19, Tryz.ntmps19
    go_wp2_with fail
    go_loopw [5] (fun i wr => ∃ (k q : Nat), k ≤ n ∧ i = .int .i64 k ∧ wr = w.drewN q ∧ Hid (xs.take k = ys.take k)) (fun i _ => n - (intOf i).toNat)
    case atStart => exact ⟨0, 0, by omega, rfl, rfl, rfl⟩
    case round =>
      obtain ⟨k, q, hk, rfl, rfl, hT⟩ := hrel
      by_cases hlt : k < n
      · obtain ⟨x, hx⟩ : ∃ x, xs[k]? = some x := ⟨_, List.getElem?_eq_getElem (by have := HN.out; omega)⟩
        obtain ⟨y, hy⟩ : ∃ y, ys[k]? = some y := ⟨_, List.getElem?_eq_getElem (by have := HM.out; omega)⟩
        obtain ⟨gx, rfl, -, x0, x1, x2, x3⟩ := HX.out.get hx
        obtain ⟨gy, rfl, -, y0, y1, y2, y3⟩ := HY.out.get hy
        have HXX := Lib.hid hx
        have HYY := Lib.hid hy
        clear hx hy
        have d1 : ((k : Int) < n) := by omega
        have d2 : ((k : Int) < m) := by omega
        by_cases e : x = y
        · have HT := Lib.hid (take_step HXX.out HYY.out hT.out e)
          subst e
          clear hT HYY
          go_wp2_with fail
          go_quiet (fail)
          go_wp2_with fail
          go_roundw
          case rel => exact ⟨k + 1, _, by omega, by go_num, rfl, HT.out⟩
          case measure => simp [intOf]; omega
        · have HD : Hid (decide (xs = ys) = false) := Lib.hid (decide_eq_false (fun h => e (by
            have h1 := HXX.out
            rw [h, HYY.out] at h1
            exact (Option.some.inj h1).symm)))
          obtain ⟨xa, xb, xc, xd⟩ := x
          obtain ⟨ya, yb, yc, yd⟩ := y
          have e1 : (¬ xa = ya ∧ ¬ (xa : Int) = (ya : Int)) ∨ (xa = ya ∧ ((¬ xb = yb) ∨ (xb = yb ∧ ((¬ xc = yc) ∨ (xc = yc ∧ ¬ xd = yd))))) := by
            by_cases h1 : xa = ya
            · refine Or.inr ⟨h1, ?_⟩
              by_cases h2 : xb = yb
              · refine Or.inr ⟨h2, ?_⟩
                by_cases h3 : xc = yc
                · exact Or.inr ⟨h3, fun h4 => e (by rw [h1, h2, h3, h4])⟩
                · exact Or.inl h3
              · exact Or.inl h2
            · exact Or.inl ⟨h1, by omega⟩
          clear e hT HXX HYY
          dsimp only at x0 x1 x2 x3 y0 y1 y2 y3
          rcases e1 with ⟨h1, h1'⟩ | ⟨rfl, h1 | ⟨rfl, h1 | ⟨rfl, h1⟩⟩⟩
          all_goals
            go_wp2_with fail
            go_quiet (fail)
            go_wp2_with fail
            go_ret
            exact ⟨by rw [HD.out]; rfl, bdrewN (bdrewN HB.out _) _⟩
      · have HD : Hid (decide (xs = ys) = true) := Lib.hid (decide_eq_true (by
          have h := hT.out
          rwa [List.take_of_length_le (by have := HN.out; omega), List.take_of_length_le (by have := HM.out; omega)] at h))
        clear hT
        go_wp2_with fail
        go_ret
        exact ⟨by rw [HD.out]; rfl, bdrewN HB.out _⟩
  · have e0 : ((n : Int) != (m : Int)) = true := by simp; omega
    have HD : Hid (decide (xs = ys) = false) := Lib.hid (decide_eq_false (fun h => hnm (by rw [HN.out, HM.out, h])))
    go_enter Tryz.func19, Tryz.ntmps19
    go_wp2_with fail
    go_ret
    exact ⟨by rw [HD.out]; rfl, Below.refl _ _⟩
end Go.Proofs.YtockagnnpeoggaaGreatDoor
