/- The parts Ua, Ac, Lh of the proof, joined. It holds without conditions of its own. -/
import Derived.Test.YtdpiemgdenfkoaaGreatDoorFW13
import Derived.Test.YtdpiemgdenfkoaaGreatDoorFW11
import Derived.Test.YtdpiemgdenfkoaaGreatDoorFW8
import Derived.Shelf.RegionOpen
/- What is known of the mates of leaves: how many they are, and which. -/
namespace Go.Proofs.YtdpiemgdenfkoaaGreatDoor
set_option linter.unusedSimpArgs false
set_option linter.unusedVariables false
open Go Go.RowKit Go.Sort Go.BigFrame

theorem cols_rows : ∀ f ∈ allFolds, colsF f * rowsF f = 2 ^ f.length := by decide +kernel
def eachB (l : List Fl) (s : Nat) : Bool := (List.range l.length).all fun i => (matesF l i).length + 1 == s
set_option maxRecDepth 100000 in
theorem each_all : ∀ f ∈ allFolds, ∀ n ∈ [1, 2, 3, 4], eachB (leavesF f n false) (2 ^ f.length) = true := by decide +kernel
theorem each_half : ∀ f ∈ allFolds, 2 ≤ f.length → eachB (leavesF f 1 true) (2 ^ (f.length - 1)) = true := by decide +kernel
/-- The leaves of one sheet. -/
def sizeW (m : Mkw) (f : Fmt) : Nat := if m.half then 2 ^ (f.folds.length - 1) else 2 ^ f.folds.length
theorem fds_len (f : Fmt) : (fdsB f.folds).length = f.folds.length := by unfold fdsB; simp
theorem Fine.size {p : Prs} {m : Mkw} {f : Fmt} (h : Fine p m f) : (leavesW m f).length = sizeW m f * m.sheets.toNat := by
  obtain ⟨h1, h2⟩ := h.mem
  have hc := cols_rows _ h1
  rw [fds_len] at hc
  unfold leavesW sizeW
  cases hh : m.half with
  | false =>
    rw [leaves_count _ h1 _ h2, hc]
    rfl
  | true =>
    obtain ⟨h3, h4⟩ := h.two hh
    rw [h3, if_pos rfl]
    have := leaves_count_half _ h1 h4
    rw [hc] at this
    rw [fds_len] at h4
    obtain ⟨k, hk⟩ : ∃ k, f.folds.length = k + 1 := ⟨f.folds.length - 1, by omega⟩
    rw [hk, Nat.pow_succ] at this
    rw [hk, Nat.add_sub_cancel]
    omega
theorem Fine.each {p : Prs} {m : Mkw} {f : Fmt} (h : Fine p m f) {i : Nat} (hi : i < (leavesW m f).length) : (matesF (leavesW m f) i).length + 1 = sizeW m f := by
  obtain ⟨h1, h2⟩ := h.mem
  have key : eachB (leavesW m f) (sizeW m f) = true := by
    unfold leavesW sizeW
    rw [← fds_len]
    cases hh : m.half with
    | false => exact each_all _ h1 _ h2
    | true =>
      obtain ⟨h3, h4⟩ := h.two hh
      rw [h3]
      exact each_half _ h1 h4
  have := List.all_eq_true.1 key i (List.mem_range.2 hi)
  simpa using this
theorem Fine.sheet {p : Prs} {m : Mkw} {f : Fmt} (h : Fine p m f) {i : Nat} {a : Fl} (hi : (leavesW m f)[i]? = some a) : a.sheet < m.sheets.toNat := by
  obtain ⟨h1, h2⟩ := h.mem
  have hm := List.mem_of_getElem? hi
  revert hm
  unfold leavesW
  cases hh : m.half with
  | false =>
    intro hm
    have := List.all_eq_true.1 (inside_all _ h1 _ h2) _ hm
    simp only [Bool.and_eq_true, decide_eq_true_eq] at this
    exact this.2
  | true =>
    obtain ⟨h3, h4⟩ := h.two hh
    rw [h3]
    intro hm
    have := List.all_eq_true.1 (inside_half _ h1 h4) _ hm
    simp only [Bool.and_eq_true, decide_eq_true_eq] at this
    exact this.2
theorem place_ne {l : List Fl} (h : placesB l = true) {i k : Nat} {a b : Fl} (hik : k < i) (ha : l[i]? = some a) (hb : l[k]? = some b) : ¬ (a.sheet = b.sheet ∧ a.col = b.col ∧ a.row = b.row) := by
  have h1 := List.all_eq_true.1 h i (List.mem_range.2 (List.getElem?_eq_some_iff.1 ha).1)
  have h2 := List.all_eq_true.1 h1 k (List.mem_range.2 hik)
  rw [ha, hb] at h2
  rintro ⟨e1, e2, e3⟩
  simp [e1, e2, e3] at h2
theorem mem_mates {l : List Fl} (h : placesB l = true) {i k : Nat} {a b : Fl} (ha : l[i]? = some a) (hb : l[k]? = some b) : k ∈ matesF l i ↔ k ≠ i ∧ b.sheet = a.sheet := by
  rw [mates_same h]
  unfold matesR
  rw [List.mem_filter, List.mem_range, ha, hb]
  have := (List.getElem?_eq_some_iff.1 hb).1
  simp [this]
theorem mates_lt {l : List Fl} {i k : Nat} (h : k ∈ matesF l i) : k < l.length := by
  unfold matesF at h
  exact List.mem_range.1 (List.mem_filter.1 h).1
theorem mates_up {l : List Fl} {i x y z : Nat} (h1 : (matesF l i)[x]? = some y) (h2 : (matesF l i)[x + 1]? = some z) : y < z := by
  have hp : (matesF l i).Pairwise (· < ·) := by unfold matesF; exact List.Pairwise.filter _ List.pairwise_lt_range
  obtain ⟨k1, e1⟩ := List.getElem?_eq_some_iff.1 h1
  obtain ⟨k2, e2⟩ := List.getElem?_eq_some_iff.1 h2
  have := List.pairwise_iff_getElem.1 hp x (x + 1) k1 k2 (by omega)
  rwa [e1, e2] at this
/-- Leaves have the same mates, or none in common. -/
theorem mates_sym {l : List Fl} (h : placesB l = true) {i k : Nat} {a b : Fl} (ha : l[i]? = some a) (hb : l[k]? = some b) (hne : i ≠ k) : decide (i ∈ matesF l k) = decide (k ∈ matesF l i) ∧ decide (k ∈ matesF l i) = decide (a.sheet = b.sheet) := by
  have e1 : (i ∈ matesF l k) ↔ a.sheet = b.sheet := (mem_mates h hb ha).trans ⟨fun x => x.2, fun x => ⟨hne, x⟩⟩
  have e2 : (k ∈ matesF l i) ↔ a.sheet = b.sheet := (mem_mates h ha hb).trans ⟨fun x => x.2.symm, fun x => ⟨fun e => hne e.symm, x.symm⟩⟩
  exact ⟨decide_eq_decide.2 (e1.trans e2.symm), decide_eq_decide.2 e2⟩
theorem mates_own {l : List Fl} (h : placesB l = true) {i : Nat} {a : Fl} (ha : l[i]? = some a) : decide (i ∈ matesF l i) = false :=
  decide_eq_false fun x => ((mem_mates h ha ha).1 x).1 rfl
theorem mates_of {l : List Fl} (h : placesB l = true) {i k y : Nat} {a b : Fl} (ha : l[i]? = some a) (hb : l[k]? = some b) (hy : y ∈ matesF l i) : ∃ c, l[y]? = some c ∧ c.sheet = a.sheet ∧ (y ≠ k → decide (y ∈ matesF l k) = decide (a.sheet = b.sheet)) := by
  obtain ⟨c, hc⟩ : ∃ c, l[y]? = some c := ⟨_, List.getElem?_eq_getElem (mates_lt hy)⟩
  have h1 := (mem_mates h ha hc).1 hy
  refine ⟨c, hc, h1.2, fun hn => decide_eq_decide.2 ?_⟩
  refine (mem_mates h hb hc).trans ?_
  rw [h1.2]
  exact ⟨fun x => x.2, fun x => ⟨hn, x⟩⟩
end Go.Proofs.YtdpiemgdenfkoaaGreatDoor

/- The law's comparison of two lists of numbers. -/
namespace Go.Proofs.YtdpiemgdenfkoaaGreatDoor
set_option linter.unusedSimpArgs false
set_option linter.unusedVariables false
open Go Go.RowKit Go.Sort Go.BigFrame Go.Shelf
attribute [local go_sem] Oper.semAt_some putAll

theorem take_step {α : Type} {xs ys : List α} {k : Nat} {x y : α} (hx : xs[k]? = some x) (hy : ys[k]? = some y) (h : xs.take k = ys.take k) (e : x = y) : xs.take (k + 1) = ys.take (k + 1) := by
  rw [List.take_add_one, List.take_add_one, h, hx, hy, e]

set_option maxRecDepth 100000 in
set_option maxHeartbeats 1000000 in
theorem Ints_any (xs ys : List Int) (v u : Value) (w : World) (hv : IntsAt w v xs) (hu : IntsAt w u ys) (hl : xs.length < 1000000) (hl2 : ys.length < 1000000) :
    Calls Tryz.prog 19 #[v, u] w fun e w' => e = .returned (.bool (decide (xs = ys))) ∧ Below w.heap.size w w' := by
  obtain ⟨ax, capx, rfl, hx⟩ := hv
  obtain ⟨ay, capy, rfl, hy⟩ := hu
  have HX := Lib.hid hx
  have HY := Lib.hid hy
  have HB := Lib.hid (Below.refl w.heap.size w)
  clear hx hy
  obtain ⟨n, hn⟩ : ∃ n, n = xs.length := ⟨_, rfl⟩
  obtain ⟨m, hm⟩ : ∃ m, m = ys.length := ⟨_, rfl⟩
  rw [← hn] at hl
  rw [← hm] at hl2
  rw [← hn, ← hm]
  have HN := Lib.hid hn
  have HM := Lib.hid hm
  clear hn hm
  have hB : ∃ B : Bool, ((n : Int) == (m : Int)) = B ∧ Hid ((B = true → n = m) ∧ (B = false → xs ≠ ys)) := by
    by_cases e : n = m
    · exact ⟨true, by simp [e], fun _ => e, fun h => by cases h⟩
    · exact ⟨false, by simp; omega, (fun h => by cases h), fun _ h => e (by rw [HN.out, HM.out, h])⟩
  obtain ⟨B, hBe, HBB⟩ := hB
  go_enter Tryz.func19, Tryz.ntmps19
  go_wp2_with fail
  go_loopw [5, 6] (fun f i wr => ∃ (k q : Nat) (D : Bool), k ≤ n ∧ i = .int .i64 k ∧ wr = w.drewN q ∧ f = .bool D ∧ Hid (D = true → n = m ∧ xs.take k = ys.take k) ∧ Hid (D = false → xs ≠ ys)) (fun _ i _ => n - (intOf i).toNat)
  case atStart => exact ⟨0, 0, B, by omega, rfl, rfl, rfl, fun h => ⟨HBB.out.1 h, rfl⟩, HBB.out.2⟩
  case round =>
    obtain ⟨k, q, D, hk, rfl, rfl, rfl, hT, hF⟩ := hrel
    clear HBB hBe
    cases D with
    | false =>
      have HD : Hid (decide (xs = ys) = false) := decide_eq_false (hF.out rfl)
      clear hT hF
      go_wp2_with fail
      go_ret
      exact ⟨by rw [HD.out]; rfl, bdrewN HB.out _⟩
    | true =>
      obtain ⟨hnm, htk⟩ := hT.out rfl
      clear hT hF
      by_cases hlt : k < n
      · obtain ⟨x, hx⟩ : ∃ x, xs[k]? = some x := ⟨_, List.getElem?_eq_getElem (by have := HN.out; omega)⟩
        obtain ⟨y, hy⟩ : ∃ y, ys[k]? = some y := ⟨_, List.getElem?_eq_getElem (by have := HM.out; omega)⟩
        obtain ⟨gx, rfl, -, hcx⟩ := HX.out (fun e => by rw [e] at hx; cases hx)
        obtain ⟨gy, rfl, -, hcy⟩ := HY.out (fun e => by rw [e] at hy; cases hy)
        have x0 := hcx k x hx
        have y0 := hcy k y hy
        have HXX := Lib.hid hx
        have HYY := Lib.hid hy
        have HTK := Lib.hid htk
        have hkm : k < m := by omega
        clear hcx hcy hx hy htk
        go_wp2_with fail
        by_cases hxy : x = y
        · subst hxy
          go_quiet (fail)
          go_wp2_with fail
          go_roundw
          case rel => exact ⟨k + 1, q + nq, true, by omega, by go_num, rfl, by simp, (fun _ => ⟨hnm, take_step HXX.out HYY.out HTK.out rfl⟩), (fun h => by cases h)⟩
          case measure => simp [intOf]; omega
        · have HNE : Hid (xs ≠ ys) := fun e => by have h1 := HXX.out; rw [e, HYY.out] at h1; cases h1; exact hxy rfl
          go_quiet (fail)
          go_wp2_with fail
          go_roundw
          case rel => exact ⟨k + 1, q + nq, false, by omega, by go_num, rfl, by simp [hxy], (fun h => by cases h), (fun _ => HNE.out)⟩
          case measure => simp [intOf]; omega
      · have hkn : k = n := by omega
        have HD : Hid (decide (xs = ys) = true) := decide_eq_true (by
          have h1 := htk
          rw [hkn, HN.out, List.take_length, ← HN.out, hnm, HM.out, List.take_length] at h1
          exact h1)
        subst hkn
        clear htk
        go_wp2_with fail
        go_ret
        exact ⟨by rw [HD.out]; rfl, bdrewN HB.out _⟩

end Go.Proofs.YtdpiemgdenfkoaaGreatDoor

/- Small functions of the reference over lists: Has, Alike, Before. -/
namespace Go.Proofs.YtdpiemgdenfkoaaGreatDoor
set_option linter.unusedSimpArgs false
set_option linter.unusedVariables false
open Go Go.RowKit Go.Sort Go.BigFrame Go.Shelf
attribute [local go_sem] Oper.semAt_some putAll

theorem IntsAt.get {W : World} {a : Option Addr} {n cap : Nat} {xs : List Int} (h : IntsAt W (.slice a n cap) xs) {i : Nat} {x : Int} (hx : xs[i]? = some x) : ∃ g, a = some ⟨g, 0, none⟩ ∧ g < W.heap.size ∧ W.cell? ⟨g, i, none⟩ = some (.int .i64 x) := by
  obtain ⟨a', cap', e, hc⟩ := h
  cases e
  obtain ⟨g, h1, h2, h3⟩ := hc (fun e => by rw [e] at hx; cases hx)
  exact ⟨g, h1, h2, h3 i x hx⟩
theorem not_mem_take {xs : List Int} {k : Nat} {x z : Int} (hx : xs[k]? = some x) (h : z ∉ xs.take k) (hne : x ≠ z) : z ∉ xs.take (k + 1) := by
  rw [List.take_add_one, hx]
  simp only [Option.toList_some, List.mem_append, List.mem_singleton, not_or]
  exact ⟨h, fun e => hne e.symm⟩

set_option maxRecDepth 100000 in
set_option maxHeartbeats 400000 in
theorem refHas_any (xs : List Int) (v : Value) (z : Int) (w : World) (hv : IntsAt w v xs) (hl : xs.length < 1000000) :
    Calls Tryz.prog 26 #[v, .int .i64 z] w fun e w' => e = .returned (.bool (decide (z ∈ xs))) ∧ w' = w := by
  have HV := Lib.hid hv
  obtain ⟨a, cap, rfl, -⟩ := hv
  obtain ⟨n, hn⟩ : ∃ n, n = xs.length := ⟨_, rfl⟩
  have HN := Lib.hid hn
  rw [← hn] at HV hl ⊢
  clear hn
  go_enter Tryz.func26, Tryz.ntmps26
  go_wp2_with fail
  go_loopw [5] (fun q wr => ∃ (k : Nat), k ≤ n ∧ q = .int .i64 k ∧ Hid (z ∉ xs.take k) ∧ wr = w) (fun q _ => n - (intOf q).toNat)
  case atStart => exact ⟨0, by omega, rfl, (by show z ∉ _; simp), rfl⟩
  case round =>
    obtain ⟨k, hk, rfl, hT, rfl⟩ := hrel
    by_cases hlt : k < n
    · obtain ⟨x, hx⟩ : ∃ x, xs[k]? = some x := ⟨_, List.getElem?_eq_getElem (by have := HN.out; omega)⟩
      obtain ⟨g, rfl, -, q0⟩ := HV.out.get hx
      have HX := Lib.hid hx
      clear hx
      by_cases e : x = z
      · have HD : Hid (decide (z ∈ xs) = true) := Lib.hid (decide_eq_true (by rw [← e]; exact List.mem_of_getElem? HX.out))
        have e0 : (x == z) = true := by simp [e]
        clear e hT
        go_wp2_with fail
        go_ret
        exact ⟨by rw [HD.out]; rfl, rfl⟩
      · have e0 : (x == z) = false := by simp [e]
        have HT := Lib.hid (not_mem_take HX.out hT.out e)
        clear e hT
        go_wp2_with fail
        go_roundw
        case rel => exact ⟨k + 1, by omega, by go_num, HT.out, trivial⟩
        case measure => simp [intOf]; omega
    · have HD : Hid (decide (z ∈ xs) = false) := Lib.hid (decide_eq_false (by
        have h := hT.out
        rwa [List.take_of_length_le (by have := HN.out; omega)] at h))
      clear hT
      go_wp2_with fail
      go_ret
      exact ⟨by rw [HD.out]; rfl, rfl⟩

end Go.Proofs.YtdpiemgdenfkoaaGreatDoor
