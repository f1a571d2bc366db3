/- The parts Cr, Cu, Ci, Cv, Cx of the proof, joined. It holds without conditions of its own. -/
import Derived.Test.YtlfglbnbenaghaaGreatDoorTX16
import Derived.Test.YtlfglbnbenaghaaGreatDoorTX21
import Derived.Test.YtlfglbnbenaghaaGreatDoorTX13
import Derived.Test.YtlfglbnbenaghaaGreatDoorTX20
/- The reference's Names. -/
namespace Go.Proofs.YtlfglbnbenaghaaGreatDoor
set_option linter.unusedSimpArgs false
set_option linter.unusedVariables false
open Go Go.RowKit Go.Sort Go.BigFrame Go.Shelf
attribute [local go_sem] Oper.semAt_some putAll

/-- How all leaves of a book are written. -/
def textsF (b : Bk) : List Bs := (lvs b).map (lfText b)
theorem strs_of_row {W : World} {base : Nat} {v : Value} {e : TypeId} {xs : List Bs} (h : W.ownsRow base e 1 v xs.length (xs.map S)) : StrsAt W v xs := by
  rcases h.2 with ⟨rfl, h0⟩ | ⟨g, cap, cur, rfl, hb, hg, rest⟩
  · exact ⟨none, 0, by rw [h0], fun hne => absurd (List.length_eq_zero_iff.1 h0) hne⟩
  · refine ⟨_, cap, rfl, fun _ => ⟨g, rfl, blk_lt hg, fun i x hx => ?_⟩⟩
    have hc := h.cells (g := g) (by simp [Value.ownBlock])
    have := hc i (S x) (by rw [List.getElem?_map, hx]; rfl)
    rwa [add_off] at this
/-- Growing a row of one's own leaves all that was there before it. -/
theorem below_row {W W' : World} {base : Nat} {v : Value} {e : TypeId} {s n : Nat} {xs : List Value} (h : W.ownsRow base e s v n xs) (hz : base ≤ W.heap.size) (hg : W.grownBy W' v.ownBlock) : Below base W W' :=
  ((Below.refl _ W).mono hz).grown hg hz (fun k hk => (h.lt k hk).1)

end Go.Proofs.YtlfglbnbenaghaaGreatDoor

/- The reference's Cut. -/
namespace Go.Proofs.YtlfglbnbenaghaaGreatDoor
set_option linter.unusedSimpArgs false
set_option linter.unusedVariables false
open Go Go.RowKit Go.Sort Go.BigFrame Go.Shelf
attribute [local go_sem] Oper.semAt_some putAll

theorem ext_one {s : Bs} {k : Nat} {c : UInt8} (h : s[k]? = some c) : (⟨s.toArray⟩ : ByteArray).extract k (k + 1) = ⟨#[c]⟩ := by
  apply ByteArray.ext
  obtain ⟨hk, hc⟩ := List.getElem?_eq_some_iff.1 h
  rw [ByteArray.data_extract]
  apply Array.toList_inj.1
  simp only [Array.toList_extract, List.extract_eq_drop_take']
  show (s.take (k + 1)).drop k = [c]
  rw [List.take_add_one, h]
  show ((s.take k) ++ [c]).drop k = [c]
  rw [List.drop_append_of_le_length (by rw [List.length_take]; omega), List.drop_of_length_le (by rw [List.length_take]; omega)]
  rfl
theorem take_succ_snoc {s : Bs} {k : Nat} {c : UInt8} (h : s[k]? = some c) : s.take (k + 1) = s.take k ++ [c] := by
  rw [List.take_add_one, h]
  rfl
theorem row_form {W : World} {base : Nat} {v : Value} {e : TypeId} {s n : Nat} {xs : List Value} (h : W.ownsRow base e s v n xs) (hn : 0 < n) : ∃ g cap, v = .slice (some ⟨g, 0, none⟩) n cap ∧ base ≤ g ∧ g < W.heap.size := by
  rcases h.2 with ⟨_, h0⟩ | ⟨g, cap, cur, rfl, hb, hg, _⟩
  · omega
  · exact ⟨g, cap, rfl, hb, blk_lt hg⟩
/-- Storing into a row of one's own leaves all that was there before it. -/
theorem below_set {W : World} {base g j : Nat} {u : Value} (hg : base ≤ g) (hz : base ≤ W.heap.size) : Below base W (W.setCell ⟨g, j, none⟩ u) :=
  ((Below.refl _ W).mono hz).setCell hg u

set_option maxRecDepth 100000 in
set_option maxHeartbeats 1600000 in
theorem refCut_any (s : Bs) (c : UInt8) (w : World) (hs : s.length ≤ 1048576) :
    Calls Tryz.prog 30 #[S s, .int .u8 c.toNat] w fun e w' => (∃ v', e = .returned v' ∧ w'.ownsRow w.heap.size 9 1 v' (cutF c s).length ((cutF c s).map S)) ∧ Below w.heap.size w w' := by
  have hzs : (⟨s.toArray⟩ : ByteArray).size = s.length := size_bytes s
  obtain ⟨n, hn⟩ : ∃ n, n = s.length := ⟨_, rfl⟩
  rw [← hn] at hs hzs
  have HN := Lib.hid hn
  clear hn
  obtain ⟨ei, hi1, hi2, hi3, hi4⟩ := elemStr
  have HI := Lib.hid (And.intro hi1 (And.intro hi2 (And.intro hi3 hi4)))
  clear hi1 hi2 hi3 hi4
  go_enter Tryz.func30, Tryz.ntmps30
  go_wp2_with fail
  have HR : Hid ((w.alloc (.cells #[S []] 9)).ownsRow w.heap.size 9 1 (.slice (some ⟨w.heap.size, 0, none⟩) 1 1) 1 [S []]) := Lib.hid (World.ownsRow_lit w #[S []] 1 (Nat.le_refl _) (by simp [maxLen]) rfl)
  have HB : Hid (Below w.heap.size w (w.alloc (.cells #[S []] 9))) := Lib.hid ((Below.refl _ _).alloc (Nat.le_refl _) _)
  go_loopw [5, 6] (fun v i wr => ∃ (k : Nat), k ≤ n ∧ i = .int .i64 k ∧ Hid (wr.ownsRow w.heap.size 9 1 v (cutF c (s.take k)).length ((cutF c (s.take k)).map S)) ∧ Hid (Below w.heap.size w wr)) (fun _ i _ => n - (intOf i).toNat)
  case atStart => exact ⟨0, by omega, rfl, HR, HB⟩
  case round =>
    clear HR HB
    obtain ⟨k, hk, rfl, HR, HB⟩ := hrel
    have hz := HB.out.size
    by_cases hlt : k < n
    · obtain ⟨x, hx⟩ : ∃ x, s[k]? = some x := ⟨_, List.getElem?_eq_getElem (by have := HN.out; omega)⟩
      have hb : ∀ h : k < (⟨s.toArray⟩ : ByteArray).size, (⟨s.toArray⟩ : ByteArray)[k]'h = x := fun h => by
        obtain ⟨hk, hc⟩ := List.getElem?_eq_some_iff.1 hx
        rw [← hc]; rfl
      have hex := ext_one hx
      have htk := take_succ_snoc hx
      have hcl := cutF_len c (s.take k)
      rw [List.length_take] at hcl
      have hsn := cutF_snoc c x (s.take k)
      rw [← htk] at hsn
      obtain ⟨ps, hps⟩ : ∃ ps, ps = cutF c (s.take k) := ⟨_, rfl⟩
      have hne : ps ≠ [] := by rw [hps]; exact cutF_ne _ _
      have hpl : ∀ p ∈ ps, p.length ≤ n := fun p hp => by
        rw [hps] at hp
        have := cutF_short _ _ _ hp
        rw [List.length_take] at this
        omega
      rw [← hps] at HR hsn hcl
      obtain ⟨m, hm⟩ : ∃ m, ps.length = m + 1 := ⟨ps.length - 1, by cases ps with | nil => exact absurd rfl hne | cons _ _ => simp⟩
      obtain ⟨g, cap, rfl, hgb, hgl⟩ := row_form HR.out (by omega)
      rw [hm] at HR hcl ⊢
      have HSN := Lib.hid hsn
      have HPL := Lib.hid hpl
      have HM := Lib.hid hm
      clear hx htk hsn hpl hm hps
      by_cases e : x = c
      · have e0 : ((x.toNat : Int) == (c.toNat : Int)) = true := by simp [e]
        rw [if_pos e] at HSN
        obtain ⟨hi1, hi2, hi3, hi4⟩ := HI.out
        go_wp2_with (at_builtin; refine wpList_append_own _ rfl _ _ 68 rfl w.heap.size 9 ei _ 1 16 undStrs hi1 hi2 hi3 hi4 rfl (by decide) (.slice (some ⟨g, 0, none⟩) (m + 1) cap) (m + 1) (ps.map S) rfl (HR.out.alloc _) ⟨wr.heap.size, 0, none⟩ 1 1 [S []] rfl rfl ?c1 ?c2 ?c3 ?c4 ?c5 ?c6)
        case c1 => exact cells_new _ _ _
        case c2 => simp [Value.oneCell']
        case c3 => simp only [maxLen]; omega
        case c4 => omega
        case c5 => simp; omega
        case c6 =>
          rintro v' w7 hown hgrow -
          have HB7 := Lib.hid (HB.out.trans ((((Below.refl _ wr).alloc (Nat.le_refl _) (.cells #[S []] 9)).mono hz).trans (below_row (HR.out.alloc _) (by simp; omega) hgrow)))
          have HO := Lib.hid hown
          clear hgrow hown hi1 hi2 hi3 hi4
          go_wp2_with fail
          go_roundw
          case rel => exact ⟨k + 1, by omega, by go_num, (by
            show World.ownsRow _ _ _ _ _ _ _
            rw [HSN.out, List.length_append, HM.out, List.map_append]
            exact HO.out), HB7⟩
          case measure => simp [intOf]; omega
      · have e0 : ((x.toNat : Int) == (c.toNat : Int)) = false := by
          rw [beq_eq_false_iff_ne]
          intro h
          exact e (UInt8.toNat_inj.1 (by omega))
        rw [if_neg e] at HSN
        obtain ⟨p, hp⟩ : ∃ p, ps[m]? = some p := ⟨_, List.getElem?_eq_getElem (by have := HM.out; omega)⟩
        have x0 : wr.cell? ⟨g, m, none⟩ = some (S p) := by
          have h := HR.out.cells (g := g) rfl m (S p) (by rw [List.getElem?_map, hp]; rfl)
          rwa [add_off] at h
        have y0 := HR.out.frozenAt m
        have hlp := HPL.out p (List.mem_of_getElem? hp)
        have hsz : (⟨p.toArray⟩ : ByteArray).size ≤ n := by rw [size_bytes]; exact hlp
        have hsz2 : (⟨p.toArray⟩ : ByteArray).size ≤ 1048576 := by omega
        have hsx : (⟨#[x]⟩ : ByteArray).size ≤ 1 := Nat.le_refl _
        have hm1 : IntKind.i64.wrap (m : Int) = (m : Int) := IntWalk.i64_in _ (by omega)
        have hk1 : IntKind.i64.wrap ((k : Int) + 1) = (k : Int) + 1 := IntWalk.i64_in _ (by omega)
        have hmm : (m : Int) < (m : Int) + 1 := by omega
        have hmn : m < m + 1 := by omega
        have hkk : (k : Int) ≤ (k : Int) + 1 := by omega
        have hkn : (k : Int) + 1 ≤ (n : Int) := by omega
        have hk0 : (0 : Int) ≤ (k : Int) + 1 := by omega
        have hkt : ((k : Int) + 1).toNat = k + 1 := by omega
        have HP := Lib.hid hp
        clear hp
        go_wp2_with fail
        have r0 := cell_regrown x0
        clear x0 y0
        refine wp_region_below_tail 0 17 (by kernel_rfl) (by kernel_rfl) fun R hR => ?_; simp only [List.take_succ_cons, List.take_zero, List.drop_succ_cons, List.drop_zero, leadA, leadV, Act.put, Act.eval, List.setIfInBounds_toArray, List.set_cons_zero, List.set_cons_succ, Array.getD_eq_getD_getElem?, List.getElem?_toArray, List.getElem?_cons_zero, List.getElem?_cons_succ, Option.getD_some]; (repeat (go_big_quiet_step (fail))); refine wpQuiet_nil ?_; rintro w6 ⟨⟨d6, os6⟩, rfl⟩; have hR := Lib.hid hR
        have HB6 := Lib.hid (HB.out.trans ((below_regrown wr d6 os6).mono hz))
        have HR6 := Lib.hid (row_later HR.out (below_regrown wr d6 os6))
        clear r0
        dsimp only
        generalize grow (redrawn wr d6) os6 = w6 at *
        have hz6 := HB6.out.size
        have x0 : w6.cell? ⟨g, m, none⟩ = some (S p) := by
          have h := HR6.out.cells (g := g) rfl m (S p) (by rw [List.getElem?_map, HP.out]; rfl)
          rwa [add_off] at h
        have y0 := HR6.out.frozenAt m
        go_wp2_with fail
        have hst := HR6.out.stored m (S (p ++ [x]))
        have HS6 := Lib.hid hst.1
        have HG6 := Lib.hid (below_set (u := S (p ++ [x])) (j := m) hgb hz6)
        clear hst
        have hcat : ((⟨p.toArray⟩ : ByteArray) ++ ⟨#[x]⟩) = ⟨(p ++ [x]).toArray⟩ := cat_bytes p [x]
        go_roundw
        case rel => exact ⟨k + 1, by omega, by go_num, (by
          show World.ownsRow _ _ _ _ _ _ _
          rw [HSN.out, lastAdd_len _ _ hne, HM.out, lastAdd_set x ps p (by rw [HM.out]; exact HP.out), HM.out, List.map_set, hcat]
          exact HS6.out), (by
          show Below _ _ _
          rw [hcat]
          exact HB6.out.trans HG6.out)⟩
        case measure => simp [intOf]; omega
    · have hkn : s.take k = s := List.take_of_length_le (by have := HN.out; omega)
      rw [hkn] at HR
      go_wp2_with fail
      go_ret
      exact ⟨⟨_, rfl, HR.out⟩, HB.out⟩
end Go.Proofs.YtlfglbnbenaghaaGreatDoor

/- The reference: a letter, a digit, a name. -/
namespace Go.Proofs.YtlfglbnbenaghaaGreatDoor
set_option linter.unusedSimpArgs false
set_option linter.unusedVariables false
open Go Go.RowKit Go.Sort Go.BigFrame

theorem small_is (c : Nat) : smallB c = inB 97 122 c := by
  unfold smallB inB
  congr 1 <;> (apply decide_eq_decide.2; omega)
theorem inner_is (c : Nat) : innerB c = (inB 48 57 c || !((c : Int) != 46)) := by
  unfold innerB inB
  congr 1
  · congr 1 <;> (apply decide_eq_decide.2; omega)
  · by_cases h : c = 46
    · subst h; rfl
    · have h1 : ((c : Int) != 46) = true := by simp; omega
      rw [h1]; simp [h]
set_option maxHeartbeats 400000 in
theorem refDigit_any (c : Int) (h0 : 0 ≤ c) (h1 : c < 256) (w : World) :
    Calls Tryz.prog 96 #[.int .u8 c] w fun e w' => e = .returned (.bool (inB 48 57 c)) ∧ w' = w := by
  cases h1 : decide (48 ≤ c) with
  | false =>
    have e : inB 48 57 c = false := by simp [inB, h1]
    rw [e]
    go_enter Tryz.func96, Tryz.ntmps96
    go_wp2_with fail
    go_ret
    exact ⟨rfl, rfl⟩
  | true =>
    have e : inB 48 57 c = decide (c ≤ 57) := by simp [inB, h1]
    rw [e]
    go_enter Tryz.func96, Tryz.ntmps96
    go_wp2_with fail
    go_ret
    exact ⟨rfl, rfl⟩

end Go.Proofs.YtlfglbnbenaghaaGreatDoor

/- The reference's Signed and Decimal. -/
namespace Go.Proofs.YtlfglbnbenaghaaGreatDoor
set_option linter.unusedSimpArgs false
set_option linter.unusedVariables false
open Go Go.RowKit Go.Sort Go.BigFrame Go.Shelf

theorem isDig_in (c : UInt8) : isDig c = inB 48 57 c.toNat := by
  unfold isDig inB
  congr 1 <;> (apply decide_eq_decide.2; omega)
theorem bytes_no {s t : List UInt8} (h : s ≠ t) : ¬ (⟨s.toArray⟩ : ByteArray) = ⟨t.toArray⟩ := fun e => h (by
  have := congrArg ByteArray.data e
  simpa using this)

set_option maxRecDepth 100000 in
set_option maxHeartbeats 1000000 in
theorem refDigitsNeg_any (n : Nat) (h0 : 0 < n) (hn : n < 10 ^ 10) (w : World) :
    Calls Tryz.prog 16 #[.int .i64 (-(n : Int))] w fun e w' => e = .returned (S (45 :: digN n)) ∧ Below w.heap.size w w' := by
  have hn0 : (decide (-(n : Int) < 0)) = true := decide_eq_true (by omega)
  have hn1 : IntKind.i64.wrap (-(-(n : Int))) = (n : Int) := by rw [IntWalk.i64_in _ (by omega)]; omega
  have hn2 : IntKind.i64.wrap (n : Int) = (n : Int) := IntWalk.i64_in _ (by omega)
  have HN := Lib.hid hn
  clear hn
  go_enter Tryz.func16, Tryz.ntmps16
  go_wp2_with fail
  have HB0 := Lib.hid (Below.refl w.heap.size w)
  go_loopw [0, 4] (fun q o wr => ∃ (m : Nat) (t : Bs) (k : Nat), q = .int .i64 m ∧ o = S t ∧ Hid (digN n = digN m ++ t ∧ m < 10 ^ k ∧ t.length + k ≤ 10 ∧ Below w.heap.size w wr)) (fun q _ _ => (intOf q).toNat)
  case atStart => exact ⟨n, [], 10, rfl, rfl, by simp, HN.out, by simp, Below.refl _ _⟩
  case round =>
    clear hn0 hn1 hn2
    obtain ⟨m, t, k, rfl, rfl, hT⟩ := hrel
    obtain ⟨h1, h2, h3, h4⟩ := hT.out
    clear HB0 hT
    have HB := Lib.hid h4
    clear h4
    by_cases hm : m < 10
    · have hd : decide ((9 : Int) < (m : Int)) = false := decide_eq_false (by omega)
      have e1 : IntKind.i64.wrap (48 + (m : Int)) = 48 + (m : Int) := IntWalk.i64_in _ (by omega)
      have HF := Lib.hid h1
      clear h1 h2
      have cv := conv_one wr (48 + m) (48 + (m : Int)) (by simp) (by omega)
      have z1 : (⟨t.toArray⟩ : ByteArray).size ≤ 10 := by rw [size_bytes]; omega
      go_wp2_with fail
      go_ret
      refine ⟨ret_S (l := 45 :: digN n) ?_, HB.out.alloc HB.out.size _⟩
      rw [HF.out, digN_small hm]
      apply ByteArray.ext
      simp
    · have hd : decide ((9 : Int) < (m : Int)) = true := decide_eq_true (by omega)
      have HF := Lib.hid h1
      have HM := Lib.hid h2
      clear h1 h2
      have cv := conv_one wr (48 + m % 10) (48 + (m : Int) % 10) (by omega) (by omega)
      have z1 : (⟨t.toArray⟩ : ByteArray).size ≤ 10 := by rw [size_bytes]; omega
      have e2 : IntKind.i64.wrap ((m : Int) / 10) = ((m / 10 : Nat) : Int) := by
        have := Nat.lt_of_lt_of_le HM.out (Nat.pow_le_pow_right (show 0 < 10 by decide) (show k ≤ 10 by omega))
        rw [IntWalk.i64_in _ (by omega)]
        omega
      go_wp2_with fail
      go_roundw
      case rel =>
        obtain ⟨j, rfl⟩ : ∃ j, k = j + 1 := ⟨k - 1, by
          rcases k with _ | k
          · have := HM.out; simp at this; omega
          · omega⟩
        refine ⟨m / 10, UInt8.ofNat (48 + m % 10) :: t, j, by first | rfl | rw [e2] | go_num, ?_, Lib.hid ⟨?_, ?_, ?_, HB.out.alloc HB.out.size _⟩⟩
        · refine congrArg Value.string ?_
          apply ByteArray.ext
          simp
        · rw [HF.out, digN_big hm]
          simp
        · have := HM.out
          rw [Nat.pow_succ] at this
          omega
        · simp; omega
      case measure => simp [intOf]; omega

/-- What Signed may say of a string. -/
def SgOk (s : Bs) (D : Int) : Prop := if s.head? = some 45 then D < 0 ∨ D = 2000000000 else D = if 0 ≤ decF s then decF s else 2000000000
theorem sg_neg {s : Bs} {D : Int} (h : s.head? = some 45) (hd : D < 0 ∨ D = 2000000000) : SgOk s D := by unfold SgOk; rw [if_pos h]; exact hd
theorem sg_no {s : Bs} (h : decF s < 0) : SgOk s 2000000000 := by
  unfold SgOk
  split
  · exact Or.inr rfl
  · rw [if_neg (by omega)]
theorem sg_yes {s : Bs} {n : Nat} (h : s.head? ≠ some 45) (hs : s = digN n) (hl : s.length ≤ 9) : SgOk s n := by
  have e : decF s = n := by rw [hs]; exact decF_digN (by rw [← hs]; exact hl)
  unfold SgOk
  rw [if_neg h, e, if_pos (by omega)]
theorem decF_no {s : Bs} (h : s.all isDig = true → False) : decF s < 0 := by
  unfold decF
  rw [if_neg (fun h2 => h h2.2.1)]
  omega
theorem decF_long {s : Bs} (h : 9 < s.length) : decF s < 0 := by
  unfold decF
  rw [if_neg (fun h2 => by omega)]
  omega
theorem decF_other {s : Bs} (h : digN (valN s) ≠ s) : decF s < 0 := by
  unfold decF
  rw [if_neg (fun h2 => h h2.2.2)]
  omega

set_option maxRecDepth 100000 in
set_option maxHeartbeats 1600000 in
theorem refSigned_any (s : Bs) (w : World) (hs : s.length ≤ 1048576) :
    Calls Tryz.prog 66 #[S s] w fun e w' => (∃ D, e = .returned (.int .i64 D) ∧ SgOk s D) ∧ Below w.heap.size w w' := by
  have hzs : (⟨s.toArray⟩ : ByteArray).size = s.length := size_bytes s
  obtain ⟨n, hn⟩ : ∃ n, n = s.length := ⟨_, rfl⟩
  rw [← hn] at hs hzs
  have HN := Lib.hid hn
  clear hn
  cases hh : s with
  | nil =>
    subst hh
    have HNO : Hid (SgOk [] 2000000000) := Lib.hid (sg_no (by decide +kernel))
    obtain rfl : n = 0 := HN.out
    go_enter Tryz.func66, Tryz.ntmps66
    go_wp2_with fail
    go_ret
    exact ⟨⟨_, rfl, HNO.out⟩, Below.refl _ _⟩
  | cons y t =>
    rw [← hh]
    have hn1 : 0 < n := by rw [HN.out, hh]; simp
    have hb0 : ∀ h : 0 < (⟨s.toArray⟩ : ByteArray).size, (⟨s.toArray⟩ : ByteArray)[0]'h = y := fun h => by
      subst hh
      rfl
    have hhd : s.head? = some y := by rw [hh]; rfl
    have HT : Hid (s.drop 1 = t) := Lib.hid (by rw [hh]; rfl)
    have HHD := Lib.hid hhd
    have HSS := Lib.hid hh
    clear hh hhd
    have g0 : decide ((0 : Int) < (n : Int)) = true := decide_eq_true (by omega)
    by_cases hy : y = 45
    · subst hy
      have HNO : Hid (SgOk s 2000000000) := Lib.hid (sg_neg HHD.out (Or.inr rfl))
      by_cases h1 : n = 1
      · subst h1
        go_enter Tryz.func66, Tryz.ntmps66
        go_wp2_with fail
        go_ret
        exact ⟨⟨_, rfl, HNO.out⟩, Below.refl _ _⟩
      · have g1 : ((n : Int) == 1) = false := by simp; omega
        by_cases h2 : 10 < n
        · have g2 : decide ((10 : Int) < (n : Int)) = true := decide_eq_true (by omega)
          go_enter Tryz.func66, Tryz.ntmps66
          go_wp2_with fail
          go_ret
          exact ⟨⟨_, rfl, HNO.out⟩, Below.refl _ _⟩
        · have g2 : decide ((10 : Int) < (n : Int)) = false := decide_eq_false (by omega)
          go_enter Tryz.func66, Tryz.ntmps66
          go_wp2_with fail
          clear g0 g1 g2 hb0
          go_loopw [3, 5] (fun a i wr => ∃ (j v : Nat), 1 ≤ j ∧ j ≤ n ∧ a = .int .i64 v ∧ i = .int .i64 j ∧ Hid (v = valN ((s.take j).drop 1) ∧ ((s.take j).drop 1).all isDig = true) ∧ wr = w) (fun _ i _ => n - (intOf i).toNat)
          case atStart => exact ⟨1, 0, by omega, by omega, rfl, rfl, Lib.hid (by rw [HSS.out]; exact ⟨rfl, rfl⟩), rfl⟩
          case round =>
            obtain ⟨j, v, hj0, hj, rfl, rfl, hT, rfl⟩ := hrel
            obtain ⟨hv, had⟩ := hT.out
            have hvl := valN_lt _ had
            rw [List.length_drop, List.length_take, Nat.min_eq_left (by have := HN.out; omega), ← hv] at hvl
            have hv9 : v < 1000000000 := Nat.lt_of_lt_of_le hvl (Nat.le_trans (Nat.pow_le_pow_right (by decide) (show j - 1 ≤ 9 by omega)) (by decide))
            have HVV := Lib.hid hv
            have HAD := Lib.hid had
            clear hv had hvl hT
            by_cases hlt : j < n
            · obtain ⟨x, hx⟩ : ∃ x, s[j]? = some x := ⟨_, List.getElem?_eq_getElem (by have := HN.out; omega)⟩
              have hb : ∀ h : j < (⟨s.toArray⟩ : ByteArray).size, (⟨s.toArray⟩ : ByteArray)[j]'h = x := fun h => by
                obtain ⟨hk, hc⟩ := List.getElem?_eq_some_iff.1 hx
                rw [← hc]; rfl
              have hc0 : (0 : Int) ≤ (x.toNat : Int) ∧ (x.toNat : Int) < 256 := by have := x.toNat_lt; omega
              have hst : (s.take (j + 1)).drop 1 = (s.take j).drop 1 ++ [x] := by
                rw [List.take_add_one, hx, List.drop_append_of_le_length (by rw [List.length_take]; have := HN.out; omega)]
                rfl
              have HST := Lib.hid hst
              have HX := Lib.hid hx
              clear hst hx
              go_wp2_with fail
              refine (refDigit_any x.toNat hc0.1 hc0.2 _).mono ?_
              rintro e w1 ⟨rfl, rfl⟩
              cases hd : inB 48 57 x.toNat with
              | false =>
                have hnd : (s.drop 1).all isDig = true → False := by
                  intro h
                  have h2 := (List.all_eq_true.1 h) x (List.mem_of_getElem? (show (s.drop 1)[j - 1]? = some x by rw [List.getElem?_drop, ← HX.out]; congr 1; omega))
                  rw [isDig_in, hd] at h2
                  cases h2
                have HNO : Hid (SgOk s 2000000000) := Lib.hid (HNO.out)
                clear hnd
                go_wp2_with fail
                go_ret
                exact ⟨⟨_, rfl, HNO.out⟩, Below.refl _ _⟩
              | true =>
                have hxd : 48 ≤ x.toNat ∧ x.toNat ≤ 57 := by
                  simp [inB] at hd
                  omega
                have w1 : IntKind.i64.wrap ((v : Int) * 10) = (v : Int) * 10 := IntWalk.i64_in _ (by omega)
                have w2 : IntKind.i64.wrap ((v : Int) * 10 + (x.toNat : Int)) = (v : Int) * 10 + (x.toNat : Int) := IntWalk.i64_in _ (by omega)
                have w3 : IntKind.i64.wrap ((v : Int) * 10 + (x.toNat : Int) - 48) = (v : Int) * 10 + (x.toNat : Int) - 48 := IntWalk.i64_in _ (by omega)
                have HD := Lib.hid hd
                have HXD := Lib.hid hxd
                clear hd hxd
                go_wp2_with fail
                go_roundw
                case rel => exact ⟨j + 1, v * 10 + (x.toNat - 48), by omega, by omega, (by have := HXD.out; first | (congr 1; omega) | (simp; omega) | go_num), by go_num, Lib.hid ⟨by rw [HST.out, valN_snoc, ← HVV.out], by rw [HST.out, List.all_append, HAD.out]; simp [isDig_in, HD.out]⟩, trivial⟩
                case measure => simp [intOf]; omega
            · have hjn : j = n := by omega
              have hfull : (s.take j).drop 1 = s.drop 1 := by rw [List.take_of_length_le (by have := HN.out; omega)]
              rw [hfull] at HVV HAD
              subst hjn
              clear hfull hlt hj
              cases v with
              | zero =>
                go_wp2_with fail
                refine (refDigits_any 0 (by decide) _).mono ?_
                rintro e w1 ⟨rfl, hb1⟩
                have HB1 := Lib.hid hb1
                have hne : digN 0 ≠ s := by
                  rw [HSS.out, digN_small (by decide)]
                  intro h
                  exact absurd (List.cons.inj h).1 (by decide)
                have eb := bytes_no hne
                have eb2 : (digN 0 == s) = false := by simp [hne]
                clear hb1 hne
                go_wp2_with fail
                go_ret
                exact ⟨⟨_, rfl, HNO.out⟩, HB1.out⟩
              | succ v =>
                have wn : IntKind.i64.wrap (-((v + 1 : Nat) : Int)) = -((v + 1 : Nat) : Int) := IntWalk.i64_in _ (by omega)
                go_wp2_with fail
                refine (refDigitsNeg_any (v + 1) (by omega) (by omega) _).mono ?_
                rintro e w1 ⟨rfl, hb1⟩
                have HB1 := Lib.hid hb1
                clear hb1 wn
                obtain ⟨dd, hdd⟩ : ∃ dd, dd = 45 :: digN (v + 1) := ⟨_, rfl⟩
                rw [← hdd]
                clear hdd
                by_cases e : dd = s
                · subst e
                  have HY : Hid (SgOk dd (-((v + 1 : Nat) : Int))) := Lib.hid (sg_neg HHD.out (Or.inl (by omega)))
                  go_wp2_with fail
                  go_ret
                  exact ⟨⟨_, rfl, HY.out⟩, HB1.out⟩
                · have eb := bytes_no e
                  have eb2 : (dd == s) = false := by simp [e]
                  clear e
                  go_wp2_with fail
                  go_ret
                  exact ⟨⟨_, rfl, HNO.out⟩, HB1.out⟩
    · have hy2 : ((y.toNat : Int) == 45) = false := by
        rw [beq_eq_false_iff_ne]
        intro h
        exact hy (UInt8.toNat_inj.1 (by show y.toNat = 45; omega))
      have hhy : s.head? ≠ some 45 := by rw [HHD.out]; simpa using hy
      have HHY := Lib.hid hhy
      have g1 : ((n : Int) == 0) = false := by simp; omega
      clear hhy hy
      by_cases h2 : 9 < n
      · have HNO : Hid (SgOk s 2000000000) := Lib.hid (sg_no (decF_long (by have := HN.out; omega)))
        have g2 : decide ((9 : Int) < (n : Int)) = true := decide_eq_true (by omega)
        go_enter Tryz.func66, Tryz.ntmps66
        go_wp2_with fail
        go_ret
        exact ⟨⟨_, rfl, HNO.out⟩, Below.refl _ _⟩
      · have g2 : decide ((9 : Int) < (n : Int)) = false := decide_eq_false (by omega)
        go_enter Tryz.func66, Tryz.ntmps66
        go_wp2_with fail
        clear g0 g1 g2 hb0 hy2
        go_loopw [3, 5] (fun a i wr => ∃ (j v : Nat), 0 ≤ j ∧ j ≤ n ∧ a = .int .i64 v ∧ i = .int .i64 j ∧ Hid (v = valN ((s.take j).drop 0) ∧ ((s.take j).drop 0).all isDig = true) ∧ wr = w) (fun _ i _ => n - (intOf i).toNat)
        case atStart => exact ⟨0, 0, by omega, by omega, rfl, rfl, Lib.hid ⟨rfl, rfl⟩, rfl⟩
        case round =>
          obtain ⟨j, v, hj0, hj, rfl, rfl, hT, rfl⟩ := hrel
          obtain ⟨hv, had⟩ := hT.out
          have hvl := valN_lt _ had
          rw [List.length_drop, List.length_take, Nat.min_eq_left (by have := HN.out; omega), ← hv] at hvl
          have hv9 : v < 1000000000 := Nat.lt_of_lt_of_le hvl (Nat.le_trans (Nat.pow_le_pow_right (by decide) (show j - 0 ≤ 9 by omega)) (by decide))
          have HVV := Lib.hid hv
          have HAD := Lib.hid had
          clear hv had hvl hT
          by_cases hlt : j < n
          · obtain ⟨x, hx⟩ : ∃ x, s[j]? = some x := ⟨_, List.getElem?_eq_getElem (by have := HN.out; omega)⟩
            have hb : ∀ h : j < (⟨s.toArray⟩ : ByteArray).size, (⟨s.toArray⟩ : ByteArray)[j]'h = x := fun h => by
              obtain ⟨hk, hc⟩ := List.getElem?_eq_some_iff.1 hx
              rw [← hc]; rfl
            have hc0 : (0 : Int) ≤ (x.toNat : Int) ∧ (x.toNat : Int) < 256 := by have := x.toNat_lt; omega
            have hst : (s.take (j + 1)).drop 0 = (s.take j).drop 0 ++ [x] := by
              rw [List.take_add_one, hx, List.drop_append_of_le_length (by rw [List.length_take]; have := HN.out; omega)]
              rfl
            have HST := Lib.hid hst
            have HX := Lib.hid hx
            clear hst hx
            go_wp2_with fail
            refine (refDigit_any x.toNat hc0.1 hc0.2 _).mono ?_
            rintro e w1 ⟨rfl, rfl⟩
            cases hd : inB 48 57 x.toNat with
            | false =>
              have hnd : (s.drop 0).all isDig = true → False := by
                intro h
                have h2 := (List.all_eq_true.1 h) x (List.mem_of_getElem? (show (s.drop 0)[j - 0]? = some x by rw [List.getElem?_drop, ← HX.out]; congr 1; omega))
                rw [isDig_in, hd] at h2
                cases h2
              have HNO : Hid (SgOk s 2000000000) := Lib.hid ((sg_no (decF_no hnd)))
              clear hnd
              go_wp2_with fail
              go_ret
              exact ⟨⟨_, rfl, HNO.out⟩, Below.refl _ _⟩
            | true =>
              have hxd : 48 ≤ x.toNat ∧ x.toNat ≤ 57 := by
                simp [inB] at hd
                omega
              have w1 : IntKind.i64.wrap ((v : Int) * 10) = (v : Int) * 10 := IntWalk.i64_in _ (by omega)
              have w2 : IntKind.i64.wrap ((v : Int) * 10 + (x.toNat : Int)) = (v : Int) * 10 + (x.toNat : Int) := IntWalk.i64_in _ (by omega)
              have w3 : IntKind.i64.wrap ((v : Int) * 10 + (x.toNat : Int) - 48) = (v : Int) * 10 + (x.toNat : Int) - 48 := IntWalk.i64_in _ (by omega)
              have HD := Lib.hid hd
              have HXD := Lib.hid hxd
              clear hd hxd
              go_wp2_with fail
              go_roundw
              case rel => exact ⟨j + 1, v * 10 + (x.toNat - 48), by omega, by omega, (by have := HXD.out; first | (congr 1; omega) | (simp; omega) | go_num), by go_num, Lib.hid ⟨by rw [HST.out, valN_snoc, ← HVV.out], by rw [HST.out, List.all_append, HAD.out]; simp [isDig_in, HD.out]⟩, trivial⟩
              case measure => simp [intOf]; omega
          · have hjn : j = n := by omega
            have hfull : (s.take j).drop 0 = s.drop 0 := by rw [List.take_of_length_le (by have := HN.out; omega)]
            rw [hfull] at HVV HAD
            subst hjn
            clear hfull hlt hj
            rw [List.drop_zero] at HVV HAD
            go_wp2_with fail
            refine (refDigits_any v (by omega) _).mono ?_
            rintro e w1 ⟨rfl, hb1⟩
            have HB1 := Lib.hid hb1
            clear hb1
            have hdv : digN v = digN (valN s) := by rw [← HVV.out]
            by_cases e : digN v = s
            · have HY : Hid (SgOk s v) := Lib.hid (sg_yes HHY.out e.symm (by have := HN.out; omega))
              rw [e]
              clear e hdv
              go_wp2_with fail
              go_ret
              exact ⟨⟨_, rfl, HY.out⟩, HB1.out⟩
            · have HNO : Hid (SgOk s 2000000000) := Lib.hid (sg_no (decF_other (by rw [← hdv]; exact e)))
              have eb := bytes_no e
              have eb2 : (digN v == s) = false := by simp [e]
              clear e hdv
              go_wp2_with fail
              go_ret
              exact ⟨⟨_, rfl, HNO.out⟩, HB1.out⟩

set_option maxRecDepth 100000 in
set_option maxHeartbeats 800000 in
theorem refDecimal_any (s : Bs) (w : World) (hs : s.length ≤ 1048576) :
    Calls Tryz.prog 31 #[S s] w fun e w' => e = .returned (.int .i64 (decF s)) ∧ Below w.heap.size w w' := by
  have HS := Lib.hid hs
  clear hs
  go_enter Tryz.func31, Tryz.ntmps31
  go_wp2_with fail
  refine (refSigned_any s _ HS.out).mono ?_
  rintro e w1 ⟨⟨D, rfl, hD⟩, hb1⟩
  have HB1 := Lib.hid hb1
  clear hb1
  have hcs : (D < 0 ∧ decF s = -1) ∨ (¬ D < 0 ∧ D = 2000000000 ∧ decF s = -1) ∨ (¬ D < 0 ∧ D ≠ 2000000000 ∧ decF s = D) := by
    unfold SgOk at hD
    have hge := decF_ge s
    split at hD
    · rename_i h45
      have hneg : decF s = -1 := by
        have : decF s < 0 := decF_no (fun h => by
          cases s with
          | nil => cases h45
          | cons y t =>
            simp only [List.head?_cons, Option.some.injEq] at h45
            subst h45
            simp [isDig] at h)
        omega
      rcases hD with h | h
      · exact Or.inl ⟨h, hneg⟩
      · exact Or.inr (Or.inl ⟨by omega, h, hneg⟩)
    · split at hD
      · rename_i h0
        have : decF s < 1000000000 := by
          unfold decF at h0 ⊢
          split
          · rename_i h1
            have := valN_lt s h1.2.1
            have := Nat.lt_of_lt_of_le this (Nat.le_trans (Nat.pow_le_pow_right (by decide) h1.1) (Nat.le_refl (10 ^ 9)))
            omega
          · omega
        exact Or.inr (Or.inr ⟨by omega, by omega, by omega⟩)
      · exact Or.inr (Or.inl ⟨by omega, hD, by omega⟩)
  clear hD
  rcases hcs with ⟨h1, h2⟩ | ⟨h1, h2, h3⟩ | ⟨h1, h2, h3⟩
  · have e1 : decide (D < 0) = true := decide_eq_true h1
    have HV := Lib.hid h2
    clear h1 h2
    go_wp2_with fail
    go_ret
    exact ⟨by rw [HV.out]; rfl, HB1.out⟩
  · subst h2
    have HV := Lib.hid h3
    clear h1 h3
    go_wp2_with fail
    go_ret
    exact ⟨by rw [HV.out]; rfl, HB1.out⟩
  · have e1 : decide (D < 0) = false := decide_eq_false h1
    have e2 : (D == 2000000000) = false := by simp [h2]
    have HV := Lib.hid h3
    clear h1 h2 h3
    go_wp2_with fail
    go_ret
    exact ⟨by rw [HV.out]; rfl, HB1.out⟩
end Go.Proofs.YtlfglbnbenaghaaGreatDoor

/- The reference's begins and some. -/
namespace Go.Proofs.YtlfglbnbenaghaaGreatDoor
set_option linter.unusedSimpArgs false
set_option linter.unusedVariables false
open Go Go.RowKit Go.Sort Go.BigFrame Go.Shelf
attribute [local go_sem] Oper.semAt_some putAll

/-- What the search has found among the first signatures. -/
def bgS (s : Bs) (q : Nat) : Int × Int × Nat := match sigF s with
  | some (a, _) => if (a.1.toNat - 1) * 25 + a.2.toNat < q then (a.1, a.2, (sigT a.1 a.2).length) else (0, 0, 0)
  | none => (0, 0, 0)
theorem bgS_zero (s : Bs) : bgS s 0 = (0, 0, 0) := by
  unfold bgS
  split
  · rw [if_neg (by omega)]
  · rfl
theorem bgS_hit {s : Bs} {k n : Nat} (hk : k < 3) (hn : n < 25) (h2 : (sigT (k + 1) n).length ≤ s.length) (h3 : s.take (sigT (k + 1) n).length = sigT (k + 1) n) : bgS s (k * 25 + n + 1) = ((k : Int) + 1, (n : Int), (sigT (k + 1) n).length) := by
  have e : s = sigT (k + 1) n ++ s.drop (sigT (k + 1) n).length := by
    have h := (List.take_append_drop (sigT ((k : Int) + 1) n).length s).symm
    rwa [h3] at h
  have hs : sigB ((k : Int) + 1) n = true := by simp [sigB, inB]; omega
  unfold bgS
  rw [e, sigF_text hs]
  dsimp only
  rw [if_pos (by omega)]
theorem bgS_miss {s : Bs} {k n : Nat} (hk : k < 3) (hn : n < 25) (h : ¬ ((bgS s (k * 25 + n)).2.2 < (sigT (k + 1) n).length ∧ (sigT (k + 1) n).length ≤ s.length ∧ s.take (sigT (k + 1) n).length = sigT (k + 1) n)) : bgS s (k * 25 + n + 1) = bgS s (k * 25 + n) := by
  cases hq : sigF s with
  | none => unfold bgS; rw [hq]
  | some p =>
    obtain ⟨⟨r, l⟩, t⟩ := p
    have hs := (sigF_len hq).2
    have hb : 1 ≤ r ∧ r ≤ 3 ∧ 0 ≤ l ∧ l ≤ 24 := by simp [sigB, inB] at hs; omega
    have e := sigF_is hq
    unfold bgS at h ⊢
    rw [hq] at h ⊢
    dsimp only at h e ⊢
    by_cases h1 : (r.toNat - 1) * 25 + l.toNat < k * 25 + n
    · rw [if_pos h1, if_pos (by omega)]
    · by_cases h2 : (r.toNat - 1) * 25 + l.toNat = k * 25 + n
      · exfalso
        rw [if_neg h1] at h
        have hr : r = (k : Int) + 1 := by omega
        have hl : l = (n : Int) := by omega
        subst hr hl
        refine h ⟨sigT_pos _ _, ?_, ?_⟩
        · rw [e, List.length_append]; omega
        · rw [e, List.take_left]
      · rw [if_neg h1, if_neg (by omega)]
theorem bgS_all (s : Bs) : bgS s 75 = match sigF s with
    | some (a, _) => (a.1, a.2, (sigT a.1 a.2).length)
    | none => (0, 0, 0) := by
  unfold bgS
  split
  · rename_i a t h
    have hs := (sigF_len h).2
    have hb : 1 ≤ a.1 ∧ a.1 ≤ 3 ∧ 0 ≤ a.2 ∧ a.2 ≤ 24 := by simp [sigB, inB] at hs; omega
    rw [if_pos (by omega)]
  · rfl
/-- What the reference's begins returns. -/
def begR (s : Bs) : Value := match sigF s with
  | some (a, t) => .tuple #[.agg #[.int .i64 a.1, .int .i64 a.2], S t, .bool true]
  | none => .tuple #[.agg #[.int .i64 0, .int .i64 0], S s, .bool false]

structure BgW (w W : World) (s : Bs) (q m : Nat) : Prop where
  res : W.heap[w.heap.size]? = some (.cells #[.int .i64 0, .int .i64 0] 39)
  best : W.heap[w.heap.size + 1]? = some (.cells #[.int .i64 (bgS s q).1, .int .i64 (bgS s q).2.1] 39)
  many : m = (bgS s q).2.2
  below : Below w.heap.size w W
theorem BgW.later {w W W' : World} {s : Bs} {q m : Nat} (h : BgW w W s q m) (hb : Below W.heap.size W W') : BgW w W' s q m :=
  ⟨blk_later hb h.res, blk_later hb h.best, h.many, h.below.trans (hb.mono h.below.size)⟩
theorem BgW.same {w W : World} {s : Bs} {q q' m : Nat} (h : BgW w W s q m) (e : bgS s q' = bgS s q) : BgW w W s q' m :=
  ⟨h.res, by rw [e]; exact h.best, by rw [e]; exact h.many, h.below⟩
theorem BgW.set {w W : World} {s : Bs} {q q' m m' : Nat} {r l : Int} (h : BgW w W s q m) (e : bgS s q' = (r, l, m')) :
    BgW w ((W.setCell ⟨w.heap.size + 1, 0, none⟩ (.int .i64 r)).setCell ⟨w.heap.size + 1, 1, none⟩ (.int .i64 l)) s q' m' := by
  refine ⟨?_, ?_, by rw [e], ?_⟩
  · exact (heap_setCell_past _ _ _ _ (by simp)).trans ((heap_setCell_past _ _ _ _ (by simp)).trans h.res)
  · rw [e]
    exact blk_setRow h.best _ _
  · exact (h.below.setCell (by simp) _).setCell (by simp) _
theorem ext_take (s : Bs) (k : Nat) (hk : k ≤ s.length) : (⟨s.toArray⟩ : ByteArray).extract 0 k = ⟨(s.take k).toArray⟩ := by
  apply ByteArray.ext
  rw [ByteArray.data_extract]
  apply Array.toList_inj.1
  simp [List.extract_eq_drop_take']
theorem ext_drop (s : Bs) (k : Nat) (hk : k ≤ s.length) : (⟨s.toArray⟩ : ByteArray).extract k s.length = ⟨(s.drop k).toArray⟩ := by
  apply ByteArray.ext
  rw [ByteArray.data_extract]
  apply Array.toList_inj.1
  simp [List.extract_eq_drop_take']

set_option maxRecDepth 100000 in
set_option maxHeartbeats 3200000 in
theorem refBegins_any (s : Bs) (w : World) (hs : s.length ≤ 1048576) :
    Calls Tryz.prog 67 #[S s] w fun e w' => e = .returned (begR s) ∧ Below w.heap.size w w' := by
  have hzs : (⟨s.toArray⟩ : ByteArray).size = s.length := size_bytes s
  obtain ⟨N, hN⟩ : ∃ N, N = s.length := ⟨_, rfl⟩
  rw [← hN] at hs hzs
  have HN := Lib.hid hN
  clear hN
  go_enter Tryz.func67, Tryz.ntmps67
  go_wp2_with fail
  have HG : Hid (BgW w ((w.alloc (.cells #[.int .i64 0, .int .i64 0] 39)).alloc (.cells #[.int .i64 0, .int .i64 0] 39)) s 0 0) := Lib.hid ⟨by exact (by repeat (first | exact heap_alloc_at _ _ _ (by (first | omega | (simp; done) | (simp; omega) | fail)) | (refine (heap_alloc_past _ _ _ ?_).trans ?_; · (first | omega | (simp; done) | (simp; omega) | fail)) | fail)), by rw [bgS_zero]; exact (by repeat (first | exact heap_alloc_at _ _ _ (by (first | omega | (simp; done) | (simp; omega) | fail)) | (refine (heap_alloc_past _ _ _ ?_).trans ?_; · (first | omega | (simp; done) | (simp; omega) | fail)) | fail)), by rw [bgS_zero], by exact (by repeat (first | (refine Below.setCell ?_ ?_ _; rotate_left; · (first | omega | (simp; done) | (simp; omega) | fail)) | (refine Below.alloc ?_ ?_ _; rotate_left; · (first | omega | (simp; done) | (simp; omega) | fail)) | refine Below.drew ?_ | exact Below.refl _ _ | fail))⟩
  go_loopg [6, 7] 3 (fun g m r wr => ∃ (k M : Nat), k + g = 3 ∧ r = .int .i64 ((k : Int) + 1) ∧ m = .int .i64 M ∧ Hid (BgW w wr s (k * 25) M))
  case atStart => exact ⟨0, 0, rfl, rfl, rfl, HG⟩
  case round =>
    clear HG
    obtain ⟨k, M, hk, rfl, rfl, HG⟩ := hrel
    cases gk with
    | succ g =>
      have hk3 : k < 3 := by omega
      have d1 : decide (((k : Int) + 1) ≤ 3) = true := decide_eq_true (by omega)
      go_wp2_with fail
      go_loopg [6, 8] 25 (fun g2 m l wy => ∃ (n M : Nat), n + g2 = 25 ∧ l = .int .i64 n ∧ m = .int .i64 M ∧ Hid (BgW w wy s (k * 25 + n) M))
      case atStart => exact ⟨0, M, by omega, rfl, rfl, HG⟩
      case round =>
        clear HG
        obtain ⟨n, M, hn, rfl, rfl, HG⟩ := hrel
        cases gk with
        | succ g2 =>
          have hn25 : n < 25 := by omega
          have d2 : decide ((n : Int) ≤ 24) = true := decide_eq_true (by omega)
          have hsb : sigB ((k : Int) + 1) n = true := by simp [sigB, inB]; omega
          have HSB := Lib.hid hsb
          clear hsb
          go_wp2_with fail
          refine (refWritten_any _ _ HSB.out _).mono ?_
          rintro e w3 ⟨rfl, hb3⟩
          have HG := Lib.hid (HG.out.later hb3)
          clear hb3
          have hlen : (sigT ((k : Int) + 1) n).length ≤ 5 := sigT_len _ _
          have hpos := sigT_pos ((k : Int) + 1) n
          have hmm := HG.out.many
          obtain ⟨T, hT⟩ : ∃ T, T = sigT ((k : Int) + 1) n := ⟨_, rfl⟩
          have HT := Lib.hid hT
          rw [← hT] at hlen hpos ⊢
          obtain ⟨L, hL⟩ : ∃ L, L = T.length := ⟨_, rfl⟩
          have hzT : (⟨T.toArray⟩ : ByteArray).size = L := by rw [size_bytes, hL]
          rw [← hL] at hlen hpos
          have HL := Lib.hid hL
          have HM := Lib.hid hmm
          clear hT hL hmm
          by_cases c1 : M < L
          · have e1 : decide ((M : Int) < (L : Int)) = true := decide_eq_true (by omega)
            by_cases c2 : L ≤ N
            · have e2 : decide ((L : Int) ≤ (N : Int)) = true := decide_eq_true (by omega)
              have hex : (⟨s.toArray⟩ : ByteArray).extract 0 L = ⟨(s.take L).toArray⟩ := ext_take s L (by have := HN.out; omega)
              have i1 : (0 : Int) ≤ (L : Int) := by omega
              have i2 : (L : Int) ≤ (N : Int) := by omega
              by_cases c3 : s.take L = T
              · have HH := Lib.hid (bgS_hit (s := s) hk3 hn25 (by rw [← HT.out, ← HL.out, ← HN.out]; exact c2) (by rw [← HT.out, ← HL.out]; exact c3))
                rw [← HT.out, ← HL.out] at HH
                rw [c3] at hex
                have b0 := blk_cell HG.out.best 0
                have b1 := blk_cell HG.out.best 1
                have f0 := blk_free HG.out.best 0
                have f1 := blk_free HG.out.best 1
                clear c3
                go_wp2_with fail
                have HG2 := Lib.hid (HG.out.set HH.out)
                go_roundg g2
                case measure => omega
                case rel => exact ⟨n + 1, L, by omega, by go_num, by go_num, HG2⟩
              · have HMI := Lib.hid (bgS_miss (s := s) hk3 hn25 (fun h => c3 (by rw [HL.out, HT.out]; exact h.2.2)))
                have eb := bytes_no c3
                have eb2 : (s.take L == T) = false := by simp [c3]
                clear c3
                go_wp2_with fail
                have HG2 := Lib.hid (HG.out.same HMI.out)
                go_roundg g2
                case measure => omega
                case rel => exact ⟨n + 1, M, by omega, by go_num, rfl, HG2⟩
            · have HMI := Lib.hid (bgS_miss (s := s) hk3 hn25 (fun h => c2 (by rw [HL.out, HT.out, HN.out]; exact h.2.1)))
              have e2 : decide ((L : Int) ≤ (N : Int)) = false := decide_eq_false (by omega)
              go_wp2_with fail
              have HG2 := Lib.hid (HG.out.same HMI.out)
              go_roundg g2
              case measure => omega
              case rel => exact ⟨n + 1, M, by omega, by go_num, rfl, HG2⟩
          · have HMI := Lib.hid (bgS_miss (s := s) hk3 hn25 (fun h => c1 (by rw [HL.out, HT.out, HM.out]; exact h.1)))
            have e1 : decide ((M : Int) < (L : Int)) = false := decide_eq_false (by omega)
            go_wp2_with fail
            have HG2 := Lib.hid (HG.out.same HMI.out)
            go_roundg g2
            case measure => omega
            case rel => exact ⟨n + 1, M, by omega, by go_num, rfl, HG2⟩
        | zero =>
          have hn25 : n = 25 := by omega
          subst hn25
          go_wp2_with fail
          go_roundg g
          case measure => omega
          case rel => exact ⟨k + 1, M, by omega, by go_num, rfl, (by show BgW _ _ _ _ _; have h := HG.out; rwa [show (k + 1) * 25 = k * 25 + 25 by omega])⟩
    | zero =>
      have hk3 : k = 3 := by omega
      subst hk3
      have hA := bgS_all s
      have hmm := HG.out.many
      rw [show 3 * 25 = 75 from rfl, hA] at hmm
      have hbest := HG.out.best
      rw [show 3 * 25 = 75 from rfl, hA] at hbest
      have hres := HG.out.res
      have HB := Lib.hid HG.out.below
      clear hk HG hA
      have hXr : w.heap.size ≠ w.heap.size + 1 := by omega
      cases hq : sigF s with
      | some p =>
        obtain ⟨⟨r, l⟩, t⟩ := p
        rw [hq] at hmm hbest
        dsimp only at hmm hbest
        have hst := sigF_is hq
        dsimp only at hst
        have HR : Hid (begR s = .tuple #[.agg #[.int .i64 r, .int .i64 l], S t, .bool true]) := Lib.hid (by unfold begR; rw [hq])
        have hMN : M ≤ N := by have := HN.out; rw [hst, List.length_append] at this; omega
        have hMp : 0 < M := by rw [hmm]; exact sigT_pos _ _
        have hex : (⟨s.toArray⟩ : ByteArray).extract M N = ⟨t.toArray⟩ := by
          rw [HN.out, ext_drop s M (by have := HN.out; omega)]
          congr 2
          rw [hst, hmm, List.drop_left]
        have b0 := blk_cell hbest 0
        have b1 := blk_cell hbest 1
        have a0 := blk_cell hres 0
        have a1 := blk_cell hres 1
        have f0 := blk_free hres 0
        have f1 := blk_free hres 1
        have i1 : (M : Int) ≤ (N : Int) := by omega
        have d0 : decide ((0 : Int) < (M : Int)) = true := decide_eq_true (by omega)
        clear hmm hst hq
        go_wp2_with fail
        go_region
        go_wp2_with fail
        have hset := blk_drew (blk_setRow hres (.int .i64 r) (.int .i64 l))
        have z0 := blk_cell hset 0
        have z1 := blk_cell hset 1
        clear hset a0 a1 f0 f1 b0 b1
        exact bodyPost_ret (v := .tuple #[.agg #[.int .i64 r, .int .i64 l], S t, .bool true]) (by simp [results, Tryz.results67, go_sem, z0, z1]) rfl ⟨by rw [HR.out], ((HB.out.setCell (by simp) _).setCell (by simp) _).drew⟩
      | none =>
        rw [hq] at hmm hbest
        dsimp only at hmm hbest
        subst hmm
        have HR : Hid (begR s = .tuple #[.agg #[.int .i64 0, .int .i64 0], S s, .bool false]) := Lib.hid (by unfold begR; rw [hq])
        have hex : (⟨s.toArray⟩ : ByteArray).extract 0 N = ⟨s.toArray⟩ := by
          rw [HN.out, ext_drop s 0 (by omega)]
          rfl
        have b0 := blk_cell hbest 0
        have b1 := blk_cell hbest 1
        have a0 := blk_cell hres 0
        have a1 := blk_cell hres 1
        have f0 := blk_free hres 0
        have f1 := blk_free hres 1
        clear hq
        go_wp2_with fail
        go_region
        go_wp2_with fail
        have hset := blk_drew (blk_setRow hres (.int .i64 0) (.int .i64 0))
        have z0 := blk_cell hset 0
        have z1 := blk_cell hset 1
        clear hset a0 a1 f0 f1 b0 b1
        exact bodyPost_ret (v := .tuple #[.agg #[.int .i64 0, .int .i64 0], S s, .bool false]) (by simp [results, Tryz.results67, go_sem, z0, z1]) rfl ⟨by rw [HR.out], ((HB.out.setCell (by simp) _).setCell (by simp) _).drew⟩

end Go.Proofs.YtlfglbnbenaghaaGreatDoor
