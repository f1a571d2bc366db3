/- The parts Ab, Na, Cr, Cu of the proof, joined. It holds without conditions of its own. -/
import Derived.Test.YtimdmgkegdlafaaGreatDoorSH39
import Derived.Test.YtimdmgkegdlafaaGreatDoorSH24
import Derived.Test.YtimdmgkegdlafaaGreatDoorSH40
import Derived.Test.YtimdmgkegdlafaaGreatDoorSH41
import Derived.Test.YtimdmgkegdlafaaGreatDoorSH12
import Derived.Test.YtimdmgkegdlafaaGreatDoorSH13
import Derived.Test.YtimdmgkegdlafaaGreatDoorSH17
import Derived.Test.YtimdmgkegdlafaaGreatDoorSH31
import Derived.Test.YtimdmgkegdlafaaGreatDoorSH32
import Derived.Test.YtimdmgkegdlafaaGreatDoorSH26
/- What the functions answer for the book of the examples. -/
namespace Go.Proofs.YtimdmgkegdlafaaGreatDoor
set_option linter.unusedSimpArgs false
set_option linter.unusedVariables false
open Go Go.RowKit

/-- The formula of the examples' book. -/
def exText : Bs := [112, 105, 50, 32, 65, 45, 67, 56, 32, 68, 56, 40, 45, 51, 44, 61, 53, 44, 56, 43, 49, 41, 32, 99, 104, 105, 49, 32, 36, 52]

theorem ex_err0 : errF (exBook 0) = 0 := by kernel_rfl
theorem ex_err1 : errF (exBook 1) = 0 := by kernel_rfl
theorem ex_write : writeF (exBook 0) = exText := by kernel_rfl
theorem ex_read : readF exText = (exBook 0, 0) := by kernel_rfl
theorem ex_leaf : leafTR (exBook 0) (getL (lvs (exBook 0)) 28) = .tuple #[S [68, 52], .int .i64 0] := by kernel_rfl
theorem ex_find : findR (exBook 0) [68, 56, 43, 49] = .tuple #[.int .i64 33, .int .i64 0] := by kernel_rfl
theorem ex_lost : findR (exBook 0) [68, 51] = .tuple #[.int .i64 0, .int .i64 4] := by kernel_rfl
theorem ex_mate : mateR (mateF (exBook 0) 32) = .tuple #[.int .i64 26, .int .i64 0] := by kernel_rfl
theorem ex_single : mateR (mateF (exBook 0) 34) = .tuple #[.int .i64 0, .int .i64 4] := by kernel_rfl
theorem ex_signs : signsF (exBook 0) = [2, 3, 4, 5, 10, 11, 12, 13, 18, 19, 20, 21, 26, 27, 28] := by kernel_rfl
theorem ex_differ : differR (diffAt 0 (namesF (exBook 0)) (namesF (exBook 1))) = .tuple #[.int .i64 33, .int .i64 0] := by kernel_rfl
theorem ex_name : nameB [97, 46, 57] = true := by kernel_rfl
theorem ex_noname : nameB [57, 97] = false := by kernel_rfl

end Go.Proofs.YtimdmgkegdlafaaGreatDoor

/- Where a word is first in a list of words, as the law's helper finds it. -/
namespace Go.Proofs.YtimdmgkegdlafaaGreatDoor
set_option linter.unusedSimpArgs false
set_option linter.unusedVariables false
open Go Go.RowKit Go.Sort Go.BigFrame Go.Shelf
attribute [local go_sem] Oper.semAt_some putAll

/-- The first place of a word. -/
def placeN (y : Bs) : List Bs → Nat → Option Nat
  | [], _ => none
  | x :: xs, i => if x = y then some i else placeN y xs (i + 1)
def placeF (xs : List Bs) (y : Bs) : Int := match placeN y xs 0 with
  | some i => i
  | none => -1
theorem placeN_found (y : Bs) : ∀ (xs : List Bs) (k i : Nat), xs[i]? = some y → (∀ j, j < i → xs[j]? ≠ some y) → placeN y xs k = some (k + i)
  | [], k, i, h, _ => by simp at h
  | x :: xs, k, 0, h, _ => by
    have : x = y := by simpa using h
    simp [placeN, this]
  | x :: xs, k, i + 1, h, hj => by
    have h0 : x ≠ y := by simpa using hj 0 (by omega)
    rw [placeN, if_neg h0, placeN_found y xs (k + 1) i (by simpa using h) fun j hl => by simpa using hj (j + 1) (by omega)]
    congr 1; omega
theorem placeN_none (y : Bs) : ∀ (xs : List Bs) (k : Nat), (∀ j : Nat, xs[j]? ≠ some y) → placeN y xs k = none
  | [], _, _ => rfl
  | x :: xs, k, h => by
    have h0 : x ≠ y := by simpa using h 0
    rw [placeN, if_neg h0]
    exact placeN_none y xs (k + 1) fun j => by simpa using h (j + 1)
theorem place_found {xs : List Bs} {y : Bs} {i : Nat} (h : xs[i]? = some y) (hj : ∀ j, j < i → xs[j]? ≠ some y) : placeF xs y = i := by
  unfold placeF; rw [placeN_found y xs 0 i h hj]; simp
theorem place_none {xs : List Bs} {y : Bs} (h : ∀ j : Nat, xs[j]? ≠ some y) : placeF xs y = -1 := by
  unfold placeF; rw [placeN_none y xs 0 h]

/-- A slice of strings. -/
def StrsAt (W : World) (v : Value) (xs : List Bs) : Prop :=
  ∃ (a : Option Addr) (cap : Nat), v = .slice a xs.length cap ∧ (xs ≠ [] → ∃ g, a = some ⟨g, 0, none⟩ ∧ g < W.heap.size ∧ ∀ i x, xs[i]? = some x → W.cell? ⟨g, i, none⟩ = some (S x))
theorem StrsAt.later {W W' : World} {v : Value} {xs : List Bs} (h : StrsAt W v xs) (hb : Below W.heap.size W W') : StrsAt W' v xs := by
  obtain ⟨a, cap, rfl, h⟩ := h
  refine ⟨a, cap, rfl, fun hne => ?_⟩
  obtain ⟨g, rfl, hg, hc⟩ := h hne
  exact ⟨g, rfl, Nat.lt_of_lt_of_le hg hb.size, fun i x hx => (hb.cell (p := ⟨g, i, none⟩) hg).trans (hc i x hx)⟩

end Go.Proofs.YtimdmgkegdlafaaGreatDoor

/- The reference's Names. -/
namespace Go.Proofs.YtimdmgkegdlafaaGreatDoor
set_option linter.unusedSimpArgs false
set_option linter.unusedVariables false
open Go Go.RowKit Go.Sort Go.BigFrame Go.Shelf
attribute [local go_sem] Oper.semAt_some putAll

/-- How all leaves of a book are written. -/
def textsF (b : Bk) : List Bs := (lvs b).map (lfText b)
theorem strs_of_row {W : World} {base : Nat} {v : Value} {e : TypeId} {xs : List Bs} (h : W.ownsRow base e 1 v xs.length (xs.map S)) : StrsAt W v xs := by
  rcases h.2 with ⟨rfl, h0⟩ | ⟨g, cap, cur, rfl, hb, hg, rest⟩
  · exact ⟨none, 0, by rw [h0], fun hne => absurd (List.length_eq_zero_iff.1 h0) hne⟩
  · refine ⟨_, cap, rfl, fun _ => ⟨g, rfl, blk_lt hg, fun i x hx => ?_⟩⟩
    have hc := h.cells (g := g) (by simp [Value.ownBlock])
    have := hc i (S x) (by rw [List.getElem?_map, hx]; rfl)
    rwa [add_off] at this
/-- Growing a row of one's own leaves all that was there before it. -/
theorem below_row {W W' : World} {base : Nat} {v : Value} {e : TypeId} {s n : Nat} {xs : List Value} (h : W.ownsRow base e s v n xs) (hz : base ≤ W.heap.size) (hg : W.grownBy W' v.ownBlock) : Below base W W' :=
  ((Below.refl _ W).mono hz).grown hg hz (fun k hk => (h.lt k hk).1)

end Go.Proofs.YtimdmgkegdlafaaGreatDoor

/- The reference's Cut. -/
namespace Go.Proofs.YtimdmgkegdlafaaGreatDoor
set_option linter.unusedSimpArgs false
set_option linter.unusedVariables false
open Go Go.RowKit Go.Sort Go.BigFrame Go.Shelf
attribute [local go_sem] Oper.semAt_some putAll

theorem ext_one {s : Bs} {k : Nat} {c : UInt8} (h : s[k]? = some c) : (⟨s.toArray⟩ : ByteArray).extract k (k + 1) = ⟨#[c]⟩ := by
  apply ByteArray.ext
  obtain ⟨hk, hc⟩ := List.getElem?_eq_some_iff.1 h
  rw [ByteArray.data_extract]
  apply Array.toList_inj.1
  simp only [Array.toList_extract, List.extract_eq_drop_take']
  show (s.take (k + 1)).drop k = [c]
  rw [List.take_add_one, h]
  show ((s.take k) ++ [c]).drop k = [c]
  rw [List.drop_append_of_le_length (by rw [List.length_take]; omega), List.drop_of_length_le (by rw [List.length_take]; omega)]
  rfl
theorem take_succ_snoc {s : Bs} {k : Nat} {c : UInt8} (h : s[k]? = some c) : s.take (k + 1) = s.take k ++ [c] := by
  rw [List.take_add_one, h]
  rfl
theorem row_form {W : World} {base : Nat} {v : Value} {e : TypeId} {s n : Nat} {xs : List Value} (h : W.ownsRow base e s v n xs) (hn : 0 < n) : ∃ g cap, v = .slice (some ⟨g, 0, none⟩) n cap ∧ base ≤ g ∧ g < W.heap.size := by
  rcases h.2 with ⟨_, h0⟩ | ⟨g, cap, cur, rfl, hb, hg, _⟩
  · omega
  · exact ⟨g, cap, rfl, hb, blk_lt hg⟩
/-- Storing into a row of one's own leaves all that was there before it. -/
theorem below_set {W : World} {base g j : Nat} {u : Value} (hg : base ≤ g) (hz : base ≤ W.heap.size) : Below base W (W.setCell ⟨g, j, none⟩ u) :=
  ((Below.refl _ W).mono hz).setCell hg u

set_option maxRecDepth 100000 in
set_option maxHeartbeats 1600000 in
theorem refCut_any (s : Bs) (c : UInt8) (w : World) (hs : s.length ≤ 1048576) :
    Calls Tryz.prog 30 #[S s, .int .u8 c.toNat] w fun e w' => (∃ v', e = .returned v' ∧ w'.ownsRow w.heap.size 9 1 v' (cutF c s).length ((cutF c s).map S)) ∧ Below w.heap.size w w' := by
  have hzs : (⟨s.toArray⟩ : ByteArray).size = s.length := size_bytes s
  obtain ⟨n, hn⟩ : ∃ n, n = s.length := ⟨_, rfl⟩
  rw [← hn] at hs hzs
  have HN := Lib.hid hn
  clear hn
  obtain ⟨ei, hi1, hi2, hi3, hi4⟩ := elemStr
  have HI := Lib.hid (And.intro hi1 (And.intro hi2 (And.intro hi3 hi4)))
  clear hi1 hi2 hi3 hi4
  go_enter Tryz.func30, Tryz.ntmps30
  go_wp2_with fail
  have HR : Hid ((w.alloc (.cells #[S []] 9)).ownsRow w.heap.size 9 1 (.slice (some ⟨w.heap.size, 0, none⟩) 1 1) 1 [S []]) := Lib.hid (World.ownsRow_lit w #[S []] 1 (Nat.le_refl _) (by simp [maxLen]) rfl)
  have HB : Hid (Below w.heap.size w (w.alloc (.cells #[S []] 9))) := Lib.hid ((Below.refl _ _).alloc (Nat.le_refl _) _)
  go_loopw [5, 6] (fun v i wr => ∃ (k : Nat), k ≤ n ∧ i = .int .i64 k ∧ Hid (wr.ownsRow w.heap.size 9 1 v (cutF c (s.take k)).length ((cutF c (s.take k)).map S)) ∧ Hid (Below w.heap.size w wr)) (fun _ i _ => n - (intOf i).toNat)
  case atStart => exact ⟨0, by omega, rfl, HR, HB⟩
  case round =>
    clear HR HB
    obtain ⟨k, hk, rfl, HR, HB⟩ := hrel
    have hz := HB.out.size
    by_cases hlt : k < n
    · obtain ⟨x, hx⟩ : ∃ x, s[k]? = some x := ⟨_, List.getElem?_eq_getElem (by have := HN.out; omega)⟩
      have hb : ∀ h : k < (⟨s.toArray⟩ : ByteArray).size, (⟨s.toArray⟩ : ByteArray)[k]'h = x := fun h => by
        obtain ⟨hk, hc⟩ := List.getElem?_eq_some_iff.1 hx
        rw [← hc]; rfl
      have hex := ext_one hx
      have htk := take_succ_snoc hx
      have hcl := cutF_len c (s.take k)
      rw [List.length_take] at hcl
      have hsn := cutF_snoc c x (s.take k)
      rw [← htk] at hsn
      obtain ⟨ps, hps⟩ : ∃ ps, ps = cutF c (s.take k) := ⟨_, rfl⟩
      have hne : ps ≠ [] := by rw [hps]; exact cutF_ne _ _
      have hpl : ∀ p ∈ ps, p.length ≤ n := fun p hp => by
        rw [hps] at hp
        have := cutF_short _ _ _ hp
        rw [List.length_take] at this
        omega
      rw [← hps] at HR hsn hcl
      obtain ⟨m, hm⟩ : ∃ m, ps.length = m + 1 := ⟨ps.length - 1, by cases ps with | nil => exact absurd rfl hne | cons _ _ => simp⟩
      obtain ⟨g, cap, rfl, hgb, hgl⟩ := row_form HR.out (by omega)
      rw [hm] at HR hcl ⊢
      have HSN := Lib.hid hsn
      have HPL := Lib.hid hpl
      have HM := Lib.hid hm
      clear hx htk hsn hpl hm hps
      by_cases e : x = c
      · have e0 : ((x.toNat : Int) == (c.toNat : Int)) = true := by simp [e]
        rw [if_pos e] at HSN
        obtain ⟨hi1, hi2, hi3, hi4⟩ := HI.out
        go_wp2_with (at_builtin; refine wpList_append_own _ rfl _ _ 68 rfl w.heap.size 9 ei _ 1 16 undStrs hi1 hi2 hi3 hi4 rfl (by decide) (.slice (some ⟨g, 0, none⟩) (m + 1) cap) (m + 1) (ps.map S) rfl (HR.out.alloc _) ⟨wr.heap.size, 0, none⟩ 1 1 [S []] rfl rfl ?c1 ?c2 ?c3 ?c4 ?c5 ?c6)
        case c1 => exact cells_new _ _ _
        case c2 => simp [Value.oneCell']
        case c3 => simp only [maxLen]; omega
        case c4 => omega
        case c5 => simp; omega
        case c6 =>
          rintro v' w7 hown hgrow -
          have HB7 := Lib.hid (HB.out.trans ((((Below.refl _ wr).alloc (Nat.le_refl _) (.cells #[S []] 9)).mono hz).trans (below_row (HR.out.alloc _) (by simp; omega) hgrow)))
          have HO := Lib.hid hown
          clear hgrow hown hi1 hi2 hi3 hi4
          go_wp2_with fail
          go_roundw
          case rel => exact ⟨k + 1, by omega, by go_num, (by
            show World.ownsRow _ _ _ _ _ _ _
            rw [HSN.out, List.length_append, HM.out, List.map_append]
            exact HO.out), HB7⟩
          case measure => simp [intOf]; omega
      · have e0 : ((x.toNat : Int) == (c.toNat : Int)) = false := by
          rw [beq_eq_false_iff_ne]
          intro h
          exact e (UInt8.toNat_inj.1 (by omega))
        rw [if_neg e] at HSN
        obtain ⟨p, hp⟩ : ∃ p, ps[m]? = some p := ⟨_, List.getElem?_eq_getElem (by have := HM.out; omega)⟩
        have x0 : wr.cell? ⟨g, m, none⟩ = some (S p) := by
          have h := HR.out.cells (g := g) rfl m (S p) (by rw [List.getElem?_map, hp]; rfl)
          rwa [add_off] at h
        have y0 := HR.out.frozenAt m
        have hlp := HPL.out p (List.mem_of_getElem? hp)
        have hsz : (⟨p.toArray⟩ : ByteArray).size ≤ n := by rw [size_bytes]; exact hlp
        have hsz2 : (⟨p.toArray⟩ : ByteArray).size ≤ 1048576 := by omega
        have hsx : (⟨#[x]⟩ : ByteArray).size ≤ 1 := Nat.le_refl _
        have hm1 : IntKind.i64.wrap (m : Int) = (m : Int) := IntWalk.i64_in _ (by omega)
        have hk1 : IntKind.i64.wrap ((k : Int) + 1) = (k : Int) + 1 := IntWalk.i64_in _ (by omega)
        have hmm : (m : Int) < (m : Int) + 1 := by omega
        have hmn : m < m + 1 := by omega
        have hkk : (k : Int) ≤ (k : Int) + 1 := by omega
        have hkn : (k : Int) + 1 ≤ (n : Int) := by omega
        have hk0 : (0 : Int) ≤ (k : Int) + 1 := by omega
        have hkt : ((k : Int) + 1).toNat = k + 1 := by omega
        have HP := Lib.hid hp
        clear hp
        go_wp2_with fail
        have r0 := cell_regrown x0
        clear x0 y0
        refine wp_region_below_tail 0 17 (by kernel_rfl) (by kernel_rfl) fun R hR => ?_; simp only [List.take_succ_cons, List.take_zero, List.drop_succ_cons, List.drop_zero, leadA, leadV, Act.put, Act.eval, List.setIfInBounds_toArray, List.set_cons_zero, List.set_cons_succ, Array.getD_eq_getD_getElem?, List.getElem?_toArray, List.getElem?_cons_zero, List.getElem?_cons_succ, Option.getD_some]; (repeat (go_big_quiet_step (fail))); refine wpQuiet_nil ?_; rintro w6 ⟨⟨d6, os6⟩, rfl⟩; have hR := Lib.hid hR
        have HB6 := Lib.hid (HB.out.trans ((below_regrown wr d6 os6).mono hz))
        have HR6 := Lib.hid (row_later HR.out (below_regrown wr d6 os6))
        clear r0
        dsimp only
        generalize grow (redrawn wr d6) os6 = w6 at *
        have hz6 := HB6.out.size
        have x0 : w6.cell? ⟨g, m, none⟩ = some (S p) := by
          have h := HR6.out.cells (g := g) rfl m (S p) (by rw [List.getElem?_map, HP.out]; rfl)
          rwa [add_off] at h
        have y0 := HR6.out.frozenAt m
        go_wp2_with fail
        have hst := HR6.out.stored m (S (p ++ [x]))
        have HS6 := Lib.hid hst.1
        have HG6 := Lib.hid (below_set (u := S (p ++ [x])) (j := m) hgb hz6)
        clear hst
        have hcat : ((⟨p.toArray⟩ : ByteArray) ++ ⟨#[x]⟩) = ⟨(p ++ [x]).toArray⟩ := cat_bytes p [x]
        go_roundw
        case rel => exact ⟨k + 1, by omega, by go_num, (by
          show World.ownsRow _ _ _ _ _ _ _
          rw [HSN.out, lastAdd_len _ _ hne, HM.out, lastAdd_set x ps p (by rw [HM.out]; exact HP.out), HM.out, List.map_set, hcat]
          exact HS6.out), (by
          show Below _ _ _
          rw [hcat]
          exact HB6.out.trans HG6.out)⟩
        case measure => simp [intOf]; omega
    · have hkn : s.take k = s := List.take_of_length_le (by have := HN.out; omega)
      rw [hkn] at HR
      go_wp2_with fail
      go_ret
      exact ⟨⟨_, rfl, HR.out⟩, HB.out⟩
end Go.Proofs.YtimdmgkegdlafaaGreatDoor
