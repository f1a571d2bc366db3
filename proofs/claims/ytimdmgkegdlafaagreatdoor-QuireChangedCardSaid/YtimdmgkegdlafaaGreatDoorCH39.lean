/- The parts Ct, Pk, Cu, Ci of the proof, joined. It holds without conditions of its own. -/
import Derived.Test.YtimdmgkegdlafaaGreatDoorCH38
import Derived.Test.YtimdmgkegdlafaaGreatDoorCH17
import Derived.Test.YtimdmgkegdlafaaGreatDoorCH25
import Derived.Test.YtimdmgkegdlafaaGreatDoorCH26
import Derived.Test.YtimdmgkegdlafaaGreatDoorCH27
import Derived.Test.YtimdmgkegdlafaaGreatDoorCH33
/- The reference's Differ. -/
namespace Go.Proofs.YtimdmgkegdlafaaGreatDoor
set_option linter.unusedSimpArgs false
set_option linter.unusedVariables false
open Go Go.RowKit Go.Sort Go.BigFrame Go.Shelf
attribute [local go_sem] Oper.semAt_some putAll

theorem bytes_other {s t : List UInt8} (h : s ≠ t) : ¬ (⟨s.toArray⟩ : ByteArray) = ⟨t.toArray⟩ := fun e => h (by
  have := congrArg ByteArray.data e
  simpa using this)
theorem text_at {b : Bk} {k : Nat} {x : Lf} (h : (lvs b)[k]? = some x) : (textsF b)[k]? = some (lfText b x) := by unfold textsF; rw [List.getElem?_map, h]; rfl
theorem name_at {b : Bk} {k : Nat} {x : Lf} (h : (lvs b)[k]? = some x) : (namesF b)[k]? = some (nameQ b x) := by unfold namesF; rw [List.getElem?_map, h]; rfl
theorem texts_len (b : Bk) : (textsF b).length = (lvs b).length := by simp [textsF]
theorem names_len (b : Bk) : (namesF b).length = (lvs b).length := by simp [namesF]
/-- Leaves of two books are written alike just if they have one name. -/
theorem text_name {b c : Bk} {x y : Lf} (he : errF b = 0) (hf : errF c = 0) (hx : x ∈ lvs b) (hy : y ∈ lvs c) : lfText b x = lfText c y ↔ nameQ b x = nameQ c y := by
  constructor
  · intro h
    have h1 := text_back he hx
    have h2 := text_back hf hy
    rw [h, h2] at h1
    exact (Option.some.inj h1).symm
  · intro h
    obtain ⟨g, hg, _⟩ := lvs_mem hx
    obtain ⟨k, hk, _⟩ := lvs_mem hy
    simp only [nameQ, hg, hk, Prod.mk.injEq] at h
    obtain ⟨h1, h2, h3, h4⟩ := h
    simp only [lfText, hg, hk, h1, h2, h3, h4]

/-- Two books in their boxes. -/
abbrev twoB (n : Nat) (b c : Bk) (a a2 : Option Addr) (cap cap2 : Nat) : List (Nat × Obj) :=
  [(n, .cells #[.int .i64 b.signed, .slice a b.gs.length cap] 24), (n + 1, .cells #[.int .i64 c.signed, .slice a2 c.gs.length cap2] 24)]
theorem twoB_start (b c : Bk) (a a2 : Option Addr) (cap cap2 : Nat) (w : World) :
    Held w (twoB w.heap.size b c a a2 cap cap2) ((w.alloc (.cells #[.int .i64 b.signed, .slice a b.gs.length cap] 24)).alloc (.cells #[.int .i64 c.signed, .slice a2 c.gs.length cap2] 24)) := by
  refine ⟨by exact (by repeat (first | (refine Below.setCell ?_ ?_ _; rotate_left; · (first | omega | (simp; done) | (simp; omega) | fail)) | (refine Below.alloc ?_ ?_ _; rotate_left; · (first | omega | (simp; done) | (simp; omega) | fail)) | refine Below.drew ?_ | exact Below.refl _ _ | fail)), fun p hp => ?_⟩
  (simp only [List.mem_cons, List.not_mem_nil, or_false] at hp)
  rcases hp with rfl | rfl
  · exact (by repeat (first | exact heap_alloc_at _ _ _ (by (first | omega | (simp; done) | (simp; omega) | fail)) | (refine (heap_alloc_past _ _ _ ?_).trans ?_; · (first | omega | (simp; done) | (simp; omega) | fail)) | fail))
  · exact (by repeat (first | exact heap_alloc_at _ _ _ (by (first | omega | (simp; done) | (simp; omega) | fail)) | (refine (heap_alloc_past _ _ _ ?_).trans ?_; · (first | omega | (simp; done) | (simp; omega) | fail)) | fail))



/-- What the two lists leave. -/
def DifCut2 (w : World) (b c : Bk) (va vc : Value) (a0 a' : Act) (w' : World) : Prop :=
  ∃ v1 v2, Below w.heap.size w w' ∧ StrsAt w' v1 (textsF b) ∧ StrsAt w' v2 (textsF c) ∧ a' = { tmps := putAll a0.tmps [(29, va), (30, v1), (31, vc), (32, v2), (9, v1), (10, v2)], defers := [] }

end Go.Proofs.YtimdmgkegdlafaaGreatDoor

/- One change of a gathering without others: what becomes of the leaves. -/
namespace Go.Proofs.YtimdmgkegdlafaaGreatDoor
set_option linter.unusedSimpArgs false
set_option linter.unusedVariables false
open Go

/-- The book whose k-th gathering has these changes. -/
def withC (b : Bk) (k : Nat) (g : Gth) (cs : List Chg) : Bk := ⟨b.signed, b.gs.set k ⟨g.round, g.letter, g.leaves, cs⟩⟩
theorem withC_at {b : Bk} {k : Nat} {g : Gth} (hg : b.gs[k]? = some g) (cs : List Chg) : (withC b k g cs).gs[k]? = some ⟨g.round, g.letter, g.leaves, cs⟩ := by
  have hk := (List.getElem?_eq_some_iff.1 hg).1
  show (b.gs.set k _)[k]? = _
  rw [List.getElem?_set_self hk]
theorem gthErr_chs {seen : List (Int × Int)} {last : Int × Int} {g : Gth} {cs : List Chg} (h : gthErr seen last g = 0) (hl : cs.length ≤ 4) (hc : (chsErr g.leaves none 0 cs).2 = 0) : gthErr seen last ⟨g.round, g.letter, g.leaves, cs⟩ = 0 := by
  unfold gthErr at h ⊢
  dsimp only
  split at h
  · exact absurd h (by decide)
  · rename_i h1
    rw [if_neg h1]
    split at h
    · exact absurd h (by decide)
    · rename_i h2
      rw [if_neg h2]
      split at h
      · exact absurd h (by decide)
      · rename_i h3
        rw [if_neg h3]
        split at h
        · exact absurd h (by decide)
        · rename_i h4
          rw [if_neg h4, if_neg (by omega)]
          exact hc
theorem gsErr_set : ∀ (gs : List Gth) (k : Nat) (g : Gth) (cs : List Chg) (seen : List (Int × Int)) (last : Int × Int) (i : Nat), gs[k]? = some g → cs.length ≤ 4 → (chsErr g.leaves none 0 cs).2 = 0 → (gsErr seen last i gs).2 = 0 → (gsErr seen last i (gs.set k ⟨g.round, g.letter, g.leaves, cs⟩)).2 = 0
  | [], k, g, cs, seen, last, i, h, _, _, _ => by cases h
  | x :: gs, 0, g, cs, seen, last, i, h, hl, hc, he => by
    simp only [List.getElem?_cons_zero, Option.some.injEq] at h
    subst h
    unfold gsErr at he
    split at he
    · rename_i h0
      show (gsErr seen last i (_ :: gs)).2 = 0
      unfold gsErr
      rw [if_pos (gthErr_chs h0 hl hc)]
      exact he
    · rename_i h0
      exact absurd he h0
  | x :: gs, k + 1, g, cs, seen, last, i, h, hl, hc, he => by
    unfold gsErr at he
    split at he
    · rename_i h0
      show (gsErr seen last i (x :: gs.set k _)).2 = 0
      unfold gsErr
      rw [if_pos h0]
      exact gsErr_set gs k g cs _ _ _ (by simpa using h) hl hc he
    · rename_i h0
      exact absurd he h0
theorem withC_ok {b : Bk} {k : Nat} {g : Gth} {cs : List Chg} (he : errF b = 0) (hg : b.gs[k]? = some g) (hl : cs.length ≤ 4) (hc : (chsErr g.leaves none 0 cs).2 = 0) : errF (withC b k g cs) = 0 := by
  obtain ⟨h1, h2, h3⟩ := err_is he
  refine err_of h1 ?_ (gsErr_set _ _ _ _ _ _ _ hg hl hc h3)
  show inB 1 30 (b.gs.set k _).length = true
  rw [List.length_set]
  exact h2
theorem one_ok {L n : Int} (kd : Int) (hk : kd = 1 ∨ kd = 2) (h1 : 1 ≤ n) (h2 : n ≤ L) : (chsErr L none 0 [⟨kd, n, 0⟩]).2 = 0 := by
  unfold chsErr chErr kindB rangeB inB
  dsimp only
  rcases hk with rfl | rfl <;> simp [chsErr, h1, h2]

/-- The leaves of a gathering without changes, up to a number and behind it. -/
def ownL (k : Nat) (m : Nat) : List Lf := if m = 0 then [] else [⟨k, m, 0, 0⟩]
theorem lvsNum_none (k m : Nat) : lvsNum k m ⟨false, false, 0⟩ = ownL k m := by
  unfold lvsNum ownL
  by_cases h : m = 0
  · simp [h]
  · rw [if_pos ⟨by omega, rfl⟩, if_neg h]
    rfl
theorem fate_other {kd n : Int} {m : Int} (h : n ≠ m) : fateF [⟨kd, n, 0⟩] m = ⟨false, false, 0⟩ := by
  unfold fateF fateStep
  simp [h]
theorem range_parts (n L : Nat) (h : n ≤ L) : List.range (L + 1) = List.range n ++ (n :: (List.range (L - n)).map fun j => n + 1 + j) := by
  have e : L + 1 = n + ((L - n) + 1) := by omega
  rw [e, List.range_add, List.range_succ_eq_map]
  simp only [List.map_cons, List.map_map]
  congr 2
  apply List.map_congr_left
  intro j _
  simp only [Function.comp, Nat.succ_eq_add_one]
  omega
def preL (k n : Nat) : List Lf := (List.range n).flatMap (ownL k)
def postL (k n L : Nat) : List Lf := ((List.range (L - n)).map fun j => n + 1 + j).flatMap (ownL k)
theorem preL_len (k n : Nat) : (preL k (n + 1)).length = n := by
  unfold preL
  induction n with
  | zero => rfl
  | succ n ih => rw [List.range_succ, List.flatMap_append, List.length_append, ih]; simp [ownL]
theorem lvsG_parts (k : Nat) (g : Gth) (cs : List Chg) (n L : Nat) (hL : g.leaves = (L : Int)) (hn : n ≤ L) (hcs : ∀ m : Nat, m ≠ n → fateF cs m = ⟨false, false, 0⟩) :
    lvsG k ⟨g.round, g.letter, g.leaves, cs⟩ = preL k n ++ (lvsNum k n (fateF cs n) ++ postL k n L) := by
  unfold lvsG
  dsimp only
  rw [hL, show ((L : Int) + 1).toNat = L + 1 by omega, range_parts n L hn, List.flatMap_append, List.flatMap_cons]
  unfold preL postL
  have h1 : ∀ (l : List Nat), (∀ m ∈ l, m ≠ n) → (l.flatMap fun m => lvsNum k m (fateF cs m)) = l.flatMap (ownL k) := by
    intro l
    induction l with
    | nil => intro _; rfl
    | cons m l ih =>
      intro h
      rw [List.flatMap_cons, List.flatMap_cons, ih (fun x hx => h x (by simp [hx])), hcs m (h m (by simp)), lvsNum_none]
  rw [h1 (List.range n) (fun m hm => by have := List.mem_range.1 hm; omega), h1 _ (fun m hm => by
    obtain ⟨j, hj, rfl⟩ := List.mem_map.1 hm
    omega)]
/-- The leaves before the leaf, and those behind it. -/
def befL (b : Bk) (k n : Nat) : List Lf := lvsFrom 0 (b.gs.take k) ++ preL k n
def behL (b : Bk) (k n L : Nat) : List Lf := postL k n L ++ lvsFrom (k + 1) (b.gs.drop (k + 1))
theorem withC_lvs {b : Bk} {k : Nat} {g : Gth} {cs : List Chg} {n L : Nat} (hg : b.gs[k]? = some g) (hL : g.leaves = (L : Int)) (hn : n ≤ L) (hcs : ∀ m : Nat, m ≠ n → fateF cs m = ⟨false, false, 0⟩) :
    lvs (withC b k g cs) = befL b k n ++ (lvsNum k n (fateF cs n) ++ behL b k n L) := by
  have hk := (List.getElem?_eq_some_iff.1 hg).1
  have e : (withC b k g cs).gs = b.gs.take k ++ (⟨g.round, g.letter, g.leaves, cs⟩ :: b.gs.drop (k + 1)) := by
    show b.gs.set k _ = _
    rw [List.set_eq_take_append_cons_drop, if_pos hk]
  unfold lvs
  rw [e, lvsFrom_app, List.length_take, Nat.min_eq_left (by omega), Nat.zero_add]
  show lvsFrom 0 (b.gs.take k) ++ (lvsG k _ ++ lvsFrom (k + 1) (b.gs.drop (k + 1))) = _
  rw [lvsG_parts k g cs n L hL hn hcs]
  simp [befL, behL]
theorem plain_lvs {b : Bk} {k : Nat} {g : Gth} {n L : Nat} (hg : b.gs[k]? = some g) (hL : g.leaves = (L : Int)) (h1 : 1 ≤ n) (hn : n ≤ L) : lvs (withC b k g []) = befL b k n ++ (⟨k, n, 0, 0⟩ :: behL b k n L) := by
  rw [withC_lvs hg hL hn (fun m _ => rfl), show fateF [] (n : Int) = ⟨false, false, 0⟩ from rfl, lvsNum_none]
  unfold ownL
  rw [if_neg (by omega)]
  rfl
theorem less_lvs {b : Bk} {k : Nat} {g : Gth} {n L : Nat} (hg : b.gs[k]? = some g) (hL : g.leaves = (L : Int)) (h1 : 1 ≤ n) (hn : n ≤ L) : lvs (withC b k g [⟨1, n, 0⟩]) = befL b k n ++ behL b k n L := by
  rw [withC_lvs hg hL hn (fun m hm => fate_other (by omega))]
  have e : fateF [⟨1, (n : Int), 0⟩] (n : Int) = ⟨true, false, 0⟩ := by unfold fateF fateStep; simp
  rw [e]
  simp [lvsNum]
theorem swap_lvs {b : Bk} {k : Nat} {g : Gth} {n L : Nat} (hg : b.gs[k]? = some g) (hL : g.leaves = (L : Int)) (h1 : 1 ≤ n) (hn : n ≤ L) : lvs (withC b k g [⟨2, n, 0⟩]) = befL b k n ++ (⟨k, n, 0, 1⟩ :: behL b k n L) := by
  rw [withC_lvs hg hL hn (fun m hm => fate_other (by omega))]
  have e : fateF [⟨2, (n : Int), 0⟩] (n : Int) = ⟨false, true, 0⟩ := by unfold fateF fateStep; simp
  rw [e]
  unfold lvsNum
  rw [if_pos ⟨by omega, rfl⟩]
  rfl
theorem withC_text {b : Bk} {k : Nat} {g : Gth} (hg : b.gs[k]? = some g) (cs : List Chg) (x : Lf) : lfText (withC b k g cs) x = lfText b x := by
  have hk := (List.getElem?_eq_some_iff.1 hg).1
  unfold lfText withC
  dsimp only
  by_cases h : k = x.gat
  · subst h
    rw [List.getElem?_set_self hk, hg]
  · rw [List.getElem?_set_ne h]
theorem withC_name {b : Bk} {k : Nat} {g : Gth} (hg : b.gs[k]? = some g) (cs : List Chg) (x : Lf) : nameQ (withC b k g cs) x = nameQ b x := by
  have hk := (List.getElem?_eq_some_iff.1 hg).1
  unfold nameQ withC
  dsimp only
  by_cases h : k = x.gat
  · subst h
    rw [List.getElem?_set_self hk, hg]
  · rw [List.getElem?_set_ne h]
theorem withC_turned {b : Bk} {k : Nat} {g : Gth} (hg : b.gs[k]? = some g) (cs : List Chg) (n p kd : Int) : turnedL (withC b k g cs) ⟨k, n, p, kd⟩ = ⟨k, g.leaves + 1 - n, p, kd⟩ := by
  unfold turnedL
  dsimp only
  rw [withC_at hg]
theorem diffAt_app : ∀ (ps xs ys : List Quad) (i : Nat), diffAt i (ps ++ xs) (ps ++ ys) = diffAt (i + ps.length) xs ys
  | [], xs, ys, i => rfl
  | p :: ps, xs, ys, i => by
    simp only [List.cons_append, diffAt, if_true]
    rw [diffAt_app ps xs ys (i + 1)]
    simp only [List.length_cons]
    congr 1
    omega
end Go.Proofs.YtimdmgkegdlafaaGreatDoor

/- The reference's Cut. -/
namespace Go.Proofs.YtimdmgkegdlafaaGreatDoor
set_option linter.unusedSimpArgs false
set_option linter.unusedVariables false
open Go Go.RowKit Go.Sort Go.BigFrame Go.Shelf
attribute [local go_sem] Oper.semAt_some putAll

theorem ext_one {s : Bs} {k : Nat} {c : UInt8} (h : s[k]? = some c) : (⟨s.toArray⟩ : ByteArray).extract k (k + 1) = ⟨#[c]⟩ := by
  apply ByteArray.ext
  obtain ⟨hk, hc⟩ := List.getElem?_eq_some_iff.1 h
  rw [ByteArray.data_extract]
  apply Array.toList_inj.1
  simp only [Array.toList_extract, List.extract_eq_drop_take']
  show (s.take (k + 1)).drop k = [c]
  rw [List.take_add_one, h]
  show ((s.take k) ++ [c]).drop k = [c]
  rw [List.drop_append_of_le_length (by rw [List.length_take]; omega), List.drop_of_length_le (by rw [List.length_take]; omega)]
  rfl
theorem take_succ_snoc {s : Bs} {k : Nat} {c : UInt8} (h : s[k]? = some c) : s.take (k + 1) = s.take k ++ [c] := by
  rw [List.take_add_one, h]
  rfl
theorem row_form {W : World} {base : Nat} {v : Value} {e : TypeId} {s n : Nat} {xs : List Value} (h : W.ownsRow base e s v n xs) (hn : 0 < n) : ∃ g cap, v = .slice (some ⟨g, 0, none⟩) n cap ∧ base ≤ g ∧ g < W.heap.size := by
  rcases h.2 with ⟨_, h0⟩ | ⟨g, cap, cur, rfl, hb, hg, _⟩
  · omega
  · exact ⟨g, cap, rfl, hb, blk_lt hg⟩
/-- Storing into a row of one's own leaves all that was there before it. -/
theorem below_set {W : World} {base g j : Nat} {u : Value} (hg : base ≤ g) (hz : base ≤ W.heap.size) : Below base W (W.setCell ⟨g, j, none⟩ u) :=
  ((Below.refl _ W).mono hz).setCell hg u

set_option maxRecDepth 100000 in
set_option maxHeartbeats 1600000 in
theorem refCut_any (s : Bs) (c : UInt8) (w : World) (hs : s.length ≤ 1048576) :
    Calls Tryz.prog 30 #[S s, .int .u8 c.toNat] w fun e w' => (∃ v', e = .returned v' ∧ w'.ownsRow w.heap.size 9 1 v' (cutF c s).length ((cutF c s).map S)) ∧ Below w.heap.size w w' := by
  have hzs : (⟨s.toArray⟩ : ByteArray).size = s.length := size_bytes s
  obtain ⟨n, hn⟩ : ∃ n, n = s.length := ⟨_, rfl⟩
  rw [← hn] at hs hzs
  have HN := Lib.hid hn
  clear hn
  obtain ⟨ei, hi1, hi2, hi3, hi4⟩ := elemStr
  have HI := Lib.hid (And.intro hi1 (And.intro hi2 (And.intro hi3 hi4)))
  clear hi1 hi2 hi3 hi4
  go_enter Tryz.func30, Tryz.ntmps30
  go_wp2_with fail
  have HR : Hid ((w.alloc (.cells #[S []] 9)).ownsRow w.heap.size 9 1 (.slice (some ⟨w.heap.size, 0, none⟩) 1 1) 1 [S []]) := Lib.hid (World.ownsRow_lit w #[S []] 1 (Nat.le_refl _) (by simp [maxLen]) rfl)
  have HB : Hid (Below w.heap.size w (w.alloc (.cells #[S []] 9))) := Lib.hid ((Below.refl _ _).alloc (Nat.le_refl _) _)
  go_loopw [5, 6] (fun v i wr => ∃ (k : Nat), k ≤ n ∧ i = .int .i64 k ∧ Hid (wr.ownsRow w.heap.size 9 1 v (cutF c (s.take k)).length ((cutF c (s.take k)).map S)) ∧ Hid (Below w.heap.size w wr)) (fun _ i _ => n - (intOf i).toNat)
  case atStart => exact ⟨0, by omega, rfl, HR, HB⟩
  case round =>
    clear HR HB
    obtain ⟨k, hk, rfl, HR, HB⟩ := hrel
    have hz := HB.out.size
    by_cases hlt : k < n
    · obtain ⟨x, hx⟩ : ∃ x, s[k]? = some x := ⟨_, List.getElem?_eq_getElem (by have := HN.out; omega)⟩
      have hb : ∀ h : k < (⟨s.toArray⟩ : ByteArray).size, (⟨s.toArray⟩ : ByteArray)[k]'h = x := fun h => by
        obtain ⟨hk, hc⟩ := List.getElem?_eq_some_iff.1 hx
        rw [← hc]; rfl
      have hex := ext_one hx
      have htk := take_succ_snoc hx
      have hcl := cutF_len c (s.take k)
      rw [List.length_take] at hcl
      have hsn := cutF_snoc c x (s.take k)
      rw [← htk] at hsn
      obtain ⟨ps, hps⟩ : ∃ ps, ps = cutF c (s.take k) := ⟨_, rfl⟩
      have hne : ps ≠ [] := by rw [hps]; exact cutF_ne _ _
      have hpl : ∀ p ∈ ps, p.length ≤ n := fun p hp => by
        rw [hps] at hp
        have := cutF_short _ _ _ hp
        rw [List.length_take] at this
        omega
      rw [← hps] at HR hsn hcl
      obtain ⟨m, hm⟩ : ∃ m, ps.length = m + 1 := ⟨ps.length - 1, by cases ps with | nil => exact absurd rfl hne | cons _ _ => simp⟩
      obtain ⟨g, cap, rfl, hgb, hgl⟩ := row_form HR.out (by omega)
      rw [hm] at HR hcl ⊢
      have HSN := Lib.hid hsn
      have HPL := Lib.hid hpl
      have HM := Lib.hid hm
      clear hx htk hsn hpl hm hps
      by_cases e : x = c
      · have e0 : ((x.toNat : Int) == (c.toNat : Int)) = true := by simp [e]
        rw [if_pos e] at HSN
        obtain ⟨hi1, hi2, hi3, hi4⟩ := HI.out
        go_wp2_with (at_builtin; refine wpList_append_own _ rfl _ _ 68 rfl w.heap.size 9 ei _ 1 16 undStrs hi1 hi2 hi3 hi4 rfl (by decide) (.slice (some ⟨g, 0, none⟩) (m + 1) cap) (m + 1) (ps.map S) rfl (HR.out.alloc _) ⟨wr.heap.size, 0, none⟩ 1 1 [S []] rfl rfl ?c1 ?c2 ?c3 ?c4 ?c5 ?c6)
        case c1 => exact cells_new _ _ _
        case c2 => simp [Value.oneCell']
        case c3 => simp only [maxLen]; omega
        case c4 => omega
        case c5 => simp; omega
        case c6 =>
          rintro v' w7 hown hgrow -
          have HB7 := Lib.hid (HB.out.trans ((((Below.refl _ wr).alloc (Nat.le_refl _) (.cells #[S []] 9)).mono hz).trans (below_row (HR.out.alloc _) (by simp; omega) hgrow)))
          have HO := Lib.hid hown
          clear hgrow hown hi1 hi2 hi3 hi4
          go_wp2_with fail
          go_roundw
          case rel => exact ⟨k + 1, by omega, by go_num, (by
            show World.ownsRow _ _ _ _ _ _ _
            rw [HSN.out, List.length_append, HM.out, List.map_append]
            exact HO.out), HB7⟩
          case measure => simp [intOf]; omega
      · have e0 : ((x.toNat : Int) == (c.toNat : Int)) = false := by
          rw [beq_eq_false_iff_ne]
          intro h
          exact e (UInt8.toNat_inj.1 (by omega))
        rw [if_neg e] at HSN
        obtain ⟨p, hp⟩ : ∃ p, ps[m]? = some p := ⟨_, List.getElem?_eq_getElem (by have := HM.out; omega)⟩
        have x0 : wr.cell? ⟨g, m, none⟩ = some (S p) := by
          have h := HR.out.cells (g := g) rfl m (S p) (by rw [List.getElem?_map, hp]; rfl)
          rwa [add_off] at h
        have y0 := HR.out.frozenAt m
        have hlp := HPL.out p (List.mem_of_getElem? hp)
        have hsz : (⟨p.toArray⟩ : ByteArray).size ≤ n := by rw [size_bytes]; exact hlp
        have hsz2 : (⟨p.toArray⟩ : ByteArray).size ≤ 1048576 := by omega
        have hsx : (⟨#[x]⟩ : ByteArray).size ≤ 1 := Nat.le_refl _
        have hm1 : IntKind.i64.wrap (m : Int) = (m : Int) := IntWalk.i64_in _ (by omega)
        have hk1 : IntKind.i64.wrap ((k : Int) + 1) = (k : Int) + 1 := IntWalk.i64_in _ (by omega)
        have hmm : (m : Int) < (m : Int) + 1 := by omega
        have hmn : m < m + 1 := by omega
        have hkk : (k : Int) ≤ (k : Int) + 1 := by omega
        have hkn : (k : Int) + 1 ≤ (n : Int) := by omega
        have hk0 : (0 : Int) ≤ (k : Int) + 1 := by omega
        have hkt : ((k : Int) + 1).toNat = k + 1 := by omega
        have HP := Lib.hid hp
        clear hp
        go_wp2_with fail
        have r0 := cell_regrown x0
        clear x0 y0
        refine wp_region_below_tail 0 17 (by kernel_rfl) (by kernel_rfl) fun R hR => ?_; simp only [List.take_succ_cons, List.take_zero, List.drop_succ_cons, List.drop_zero, leadA, leadV, Act.put, Act.eval, List.setIfInBounds_toArray, List.set_cons_zero, List.set_cons_succ, Array.getD_eq_getD_getElem?, List.getElem?_toArray, List.getElem?_cons_zero, List.getElem?_cons_succ, Option.getD_some]; (repeat (go_big_quiet_step (fail))); refine wpQuiet_nil ?_; rintro w6 ⟨⟨d6, os6⟩, rfl⟩; have hR := Lib.hid hR
        have HB6 := Lib.hid (HB.out.trans ((below_regrown wr d6 os6).mono hz))
        have HR6 := Lib.hid (row_later HR.out (below_regrown wr d6 os6))
        clear r0
        dsimp only
        generalize grow (redrawn wr d6) os6 = w6 at *
        have hz6 := HB6.out.size
        have x0 : w6.cell? ⟨g, m, none⟩ = some (S p) := by
          have h := HR6.out.cells (g := g) rfl m (S p) (by rw [List.getElem?_map, HP.out]; rfl)
          rwa [add_off] at h
        have y0 := HR6.out.frozenAt m
        go_wp2_with fail
        have hst := HR6.out.stored m (S (p ++ [x]))
        have HS6 := Lib.hid hst.1
        have HG6 := Lib.hid (below_set (u := S (p ++ [x])) (j := m) hgb hz6)
        clear hst
        have hcat : ((⟨p.toArray⟩ : ByteArray) ++ ⟨#[x]⟩) = ⟨(p ++ [x]).toArray⟩ := cat_bytes p [x]
        go_roundw
        case rel => exact ⟨k + 1, by omega, by go_num, (by
          show World.ownsRow _ _ _ _ _ _ _
          rw [HSN.out, lastAdd_len _ _ hne, HM.out, lastAdd_set x ps p (by rw [HM.out]; exact HP.out), HM.out, List.map_set, hcat]
          exact HS6.out), (by
          show Below _ _ _
          rw [hcat]
          exact HB6.out.trans HG6.out)⟩
        case measure => simp [intOf]; omega
    · have hkn : s.take k = s := List.take_of_length_le (by have := HN.out; omega)
      rw [hkn] at HR
      go_wp2_with fail
      go_ret
      exact ⟨⟨_, rfl, HR.out⟩, HB.out⟩
end Go.Proofs.YtimdmgkegdlafaaGreatDoor

/- The reference: a letter, a digit, a name. -/
namespace Go.Proofs.YtimdmgkegdlafaaGreatDoor
set_option linter.unusedSimpArgs false
set_option linter.unusedVariables false
open Go Go.RowKit Go.Sort Go.BigFrame

theorem small_is (c : Nat) : smallB c = inB 97 122 c := by
  unfold smallB inB
  congr 1 <;> (apply decide_eq_decide.2; omega)
theorem inner_is (c : Nat) : innerB c = (inB 48 57 c || !((c : Int) != 46)) := by
  unfold innerB inB
  congr 1
  · congr 1 <;> (apply decide_eq_decide.2; omega)
  · by_cases h : c = 46
    · subst h; rfl
    · have h1 : ((c : Int) != 46) = true := by simp; omega
      rw [h1]; simp [h]
set_option maxHeartbeats 400000 in
theorem refDigit_any (c : Int) (h0 : 0 ≤ c) (h1 : c < 256) (w : World) :
    Calls Tryz.prog 96 #[.int .u8 c] w fun e w' => e = .returned (.bool (inB 48 57 c)) ∧ w' = w := by
  cases h1 : decide (48 ≤ c) with
  | false =>
    have e : inB 48 57 c = false := by simp [inB, h1]
    rw [e]
    go_enter Tryz.func96, Tryz.ntmps96
    go_wp2_with fail
    go_ret
    exact ⟨rfl, rfl⟩
  | true =>
    have e : inB 48 57 c = decide (c ≤ 57) := by simp [inB, h1]
    rw [e]
    go_enter Tryz.func96, Tryz.ntmps96
    go_wp2_with fail
    go_ret
    exact ⟨rfl, rfl⟩

end Go.Proofs.YtimdmgkegdlafaaGreatDoor
