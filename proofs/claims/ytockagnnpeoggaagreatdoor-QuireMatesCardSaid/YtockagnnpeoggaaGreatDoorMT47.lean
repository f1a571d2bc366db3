/- The parts Cr, Cs, Pe of the proof, joined. It holds without conditions of its own. -/
import Derived.Test.YtockagnnpeoggaaGreatDoorMT33
import Derived.Test.YtockagnnpeoggaaGreatDoorMT46
import Derived.Test.YtockagnnpeoggaaGreatDoorMT22
import Derived.Test.YtockagnnpeoggaaGreatDoorMT8
import Derived.Test.YtockagnnpeoggaaGreatDoorMT12
import Derived.Test.YtockagnnpeoggaaGreatDoorMT24
import Derived.Test.YtockagnnpeoggaaGreatDoorMT37
/- The reference's Names. -/
namespace Go.Proofs.YtockagnnpeoggaaGreatDoor
set_option linter.unusedSimpArgs false
set_option linter.unusedVariables false
open Go Go.RowKit Go.Sort Go.BigFrame Go.Shelf
attribute [local go_sem] Oper.semAt_some putAll

/-- How all leaves of a book are written. -/
def textsF (b : Bk) : List Bs := (lvs b).map (lfText b)
theorem strs_of_row {W : World} {base : Nat} {v : Value} {e : TypeId} {xs : List Bs} (h : W.ownsRow base e 1 v xs.length (xs.map S)) : StrsAt W v xs := by
  rcases h.2 with ⟨rfl, h0⟩ | ⟨g, cap, cur, rfl, hb, hg, rest⟩
  · exact ⟨none, 0, by rw [h0], fun hne => absurd (List.length_eq_zero_iff.1 h0) hne⟩
  · refine ⟨_, cap, rfl, fun _ => ⟨g, rfl, blk_lt hg, fun i x hx => ?_⟩⟩
    have hc := h.cells (g := g) (by simp [Value.ownBlock])
    have := hc i (S x) (by rw [List.getElem?_map, hx]; rfl)
    rwa [add_off] at this
/-- Growing a row of one's own leaves all that was there before it. -/
theorem below_row {W W' : World} {base : Nat} {v : Value} {e : TypeId} {s n : Nat} {xs : List Value} (h : W.ownsRow base e s v n xs) (hz : base ≤ W.heap.size) (hg : W.grownBy W' v.ownBlock) : Below base W W' :=
  ((Below.refl _ W).mono hz).grown hg hz (fun k hk => (h.lt k hk).1)

set_option maxRecDepth 100000 in
set_option maxHeartbeats 1600000 in
theorem refNames_any (b : Bk) (v : Value) (w : World) (hb : BookAt w.heap.size w v b) (he : errF b = 0) :
    Calls Tryz.prog 42 #[v] w fun e w' => (∃ v', e = .returned v' ∧ StrsAt w' v' (textsF b)) ∧ Below w.heap.size w w' := by
  obtain ⟨sv, rfl, hgs⟩ := hb
  have hb : BookAt w.heap.size w (.agg #[.int .i64 b.signed, sv]) b := ⟨sv, rfl, hgs⟩
  obtain ⟨a, cap, rfl, -⟩ := hgs
  have HK := Lib.hid (BkBox.start hb)
  clear hb
  have hfew := lvs_few (errF_zero he)
  have HE := Lib.hid he
  obtain ⟨N, hN⟩ : ∃ N, N = (lvs b).length := ⟨_, rfl⟩
  have HN := Lib.hid hN
  rw [← hN] at hfew
  clear he hN
  obtain ⟨ei, hi1, hi2, hi3, hi4⟩ := elemStr
  have HI := Lib.hid (And.intro hi1 (And.intro hi2 (And.intro hi3 hi4)))
  clear hi1 hi2 hi3 hi4
  have c0 := blk_cell HK.out.box 0; have c1 := blk_cell HK.out.box 1
  go_enter Tryz.func42, Tryz.ntmps42
  go_wp2_with fail
  refine (refAll_any b _ _ HK.out.book (errF_zero HE.out)).mono ?_
  rintro e w1 ⟨⟨v', rfl, hrow⟩, hb1⟩
  have hL := LfsAt.of_row hrow
  have HK := Lib.hid (HK.out.later hb1)
  clear hb1 c0 c1 hrow
  have HL := Lib.hid hL
  obtain ⟨la, lcap, rfl, -⟩ := hL
  rw [← HN.out] at HL ⊢
  have HR : Hid (w1.ownsRow w1.heap.size 9 1 (.slice none 0 0) 0 []) := Lib.hid (World.ownsRow_nil _ _ _ _)
  have HB : Hid (Below w1.heap.size w1 w1) := Lib.hid (Below.refl _ _)
  go_wp2_with fail
  go_loopw [3, 5] (fun v i wr => ∃ (k : Nat), k ≤ N ∧ i = .int .i64 k ∧ Hid (wr.ownsRow w1.heap.size 9 1 v k (((textsF b).take k).map S)) ∧ Hid (Below w1.heap.size w1 wr)) (fun _ i _ => N - (intOf i).toNat)
  case atStart => exact ⟨0, by omega, rfl, (by have h := HR.out; show World.ownsRow _ _ _ _ _ _ _; simpa using h), HB⟩
  case round =>
    clear HR HB
    obtain ⟨k, hk, rfl, HR, HB⟩ := hrel
    have HKr := Lib.hid (HK.out.later HB.out)
    have c0 := blk_cell HKr.out.box 0; have c1 := blk_cell HKr.out.box 1
    by_cases hlt : k < N
    · obtain ⟨x, hx⟩ : ∃ x, (lvs b)[k]? = some x := ⟨_, List.getElem?_eq_getElem (by have := HN.out; omega)⟩
      obtain ⟨z, ez, -, x0, x1, x2, x3⟩ := (HL.out.later HB.out).get hx
      cases ez
      obtain ⟨g, hg, hgk, n0, n1, p0, p1⟩ := lf_bounds (errF_zero HE.out) (List.mem_of_getElem? hx)
      have hlv := hgk.leaves
      have HX := Lib.hid hx
      have HGG := Lib.hid hg
      have HS := Lib.hid hgk.sig
      have d1 : ((k : Int) < N) := by omega
      clear hx hg hgk
      have hz := HB.out.size
      go_wp2_with fail
      have r0 := cell_regrown c0
      have r1 := cell_regrown c1
      have s0 := cell_regrown x0
      have s1 := cell_regrown x1
      have s2 := cell_regrown x2
      have s3 := cell_regrown x3
      clear c0 c1 x0 x1 x2 x3
      have cC : ∀ d os, Calls Tryz.prog 70 #[.agg #[.int .i64 b.signed, .slice a b.gs.length cap], .agg #[.int .i64 x.gat, .int .i64 x.num, .int .i64 x.plus, .int .i64 x.kind]] (grow (redrawn wr d) os) (fun e w'' => e = .returned (S (lfText b x)) ∧ ∃ p : Regrown, w'' = grow (redrawn wr p.d) p.os) := fun d os => Calls.regrown_of (refCalled_any b _ x g _ (HKr.out.later (below_regrown wr d os)).book HGG.out HS.out n0 (by omega) p0 p1)
      refine wp_region_below_tail 1 7 (by kernel_rfl) (by kernel_rfl) fun R hR => ?_; simp only [List.take_succ_cons, List.take_zero, List.drop_succ_cons, List.drop_zero, leadA, leadV, Act.put, Act.eval, List.setIfInBounds_toArray, List.set_cons_zero, List.set_cons_succ, Array.getD_eq_getD_getElem?, List.getElem?_toArray, List.getElem?_cons_zero, List.getElem?_cons_succ, Option.getD_some]; (repeat (go_big_quiet_step (exact cC _ _))); refine wpQuiet_nil ?_; rintro w6 ⟨⟨d6, os6⟩, rfl⟩; have hR := Lib.hid hR
      have HK := Lib.hid (HKr.out.later (below_regrown wr d6 os6))
      have HB6 := Lib.hid (HB.out.trans ((below_regrown wr d6 os6).mono hz))
      have HR6 := Lib.hid (row_later HR.out (below_regrown wr d6 os6))
      clear r0 r1 s0 s1 s2 s3 cC HKr
      dsimp only
      generalize grow (redrawn wr d6) os6 = w6 at *
      obtain ⟨hi1, hi2, hi3, hi4⟩ := HI.out
      have hz6 := HB6.out.size
      go_wp2_with (at_builtin; refine wpList_append_own _ rfl _ _ 84 rfl w1.heap.size 9 ei _ 1 16 undStrs hi1 hi2 hi3 hi4 rfl (by decide) u3 k (((textsF b).take k).map S) rfl (HR6.out.alloc _) ⟨w6.heap.size, 0, none⟩ 1 1 [S (lfText b x)] rfl rfl ?c1 ?c2 ?c3 ?c4 ?c5 ?c6)
      case c1 => exact cells_new _ _ _
      case c2 => simp [Value.oneCell']
      case c3 => simp only [maxLen]; omega
      case c4 => omega
      case c5 => simp; omega
      case c6 =>
        rintro v' w7 hown hgrow -
        have HB7 := Lib.hid (HB6.out.trans ((((Below.refl _ w6).alloc (Nat.le_refl _) (.cells #[S (lfText b x)] 9)).mono hz6).trans (below_row (HR6.out.alloc _) (by simp; omega) hgrow)))
        have HO := Lib.hid hown
        clear hgrow hown hi1 hi2 hi3 hi4
        go_wp2_with fail
        go_roundw
        case rel => exact ⟨k + 1, by omega, by go_num, (by
          have h := HO.out
          rw [List.take_add_one, List.map_append]
          have e : (textsF b)[k]? = some (lfText b x) := by unfold textsF; rw [List.getElem?_map, HX.out]; rfl
          rw [e]
          show World.ownsRow _ _ _ _ _ _ _
          simpa [List.map_take] using h), HB7⟩
        case measure => simp [intOf]; omega
    · have hkN : k = N := by omega
      have HV : Hid ((textsF b).take k = textsF b) := Lib.hid (by
        rw [hkN, HN.out]
        unfold textsF
        rw [List.take_of_length_le (by simp)])
      have hl : (textsF b).length = k := by unfold textsF; rw [List.length_map, hkN, HN.out]
      have HL9 := Lib.hid hl
      clear hl
      go_wp2_with fail
      go_ret
      refine ⟨⟨_, rfl, ?_⟩, HKr.out.below⟩
      have h := HR.out
      rw [HV.out] at h
      exact strs_of_row (by rw [HL9.out]; exact h)
end Go.Proofs.YtockagnnpeoggaaGreatDoor

/- The reference's Signs. -/
namespace Go.Proofs.YtockagnnpeoggaaGreatDoor
set_option linter.unusedSimpArgs false
set_option linter.unusedVariables false
open Go Go.RowKit Go.Sort Go.BigFrame Go.Shelf
attribute [local go_sem] Oper.semAt_some putAll

/-- The numbers of the signed leaves among the first ones. -/
def signsN (b : Bk) (k : Nat) : List Nat := signsOf b ((lvs b).zipIdx.take k)
theorem signsN_yes {b : Bk} {k : Nat} {x : Lf} (hx : (lvs b)[k]? = some x) (h : signedL b x = true) : signsN b (k + 1) = signsN b k ++ [k] := by
  unfold signsN
  rw [List.take_add_one, List.getElem?_zipIdx, hx]
  simpa using signs_yes (pre := (lvs b).zipIdx.take k) (y := (x, k)) h
theorem signsN_no {b : Bk} {k : Nat} {x : Lf} (hx : (lvs b)[k]? = some x) (h : signedL b x = false) : signsN b (k + 1) = signsN b k := by
  unfold signsN
  rw [List.take_add_one, List.getElem?_zipIdx, hx]
  simpa using signs_no (pre := (lvs b).zipIdx.take k) (y := (x, k)) h
theorem signsN_all {b : Bk} {k : Nat} (h : (lvs b).length ≤ k) : signsN b k = signsF b := by
  unfold signsN signsF
  rw [List.take_of_length_le (by simpa using h)]
theorem signsN_len (b : Bk) (k : Nat) : (signsN b k).length ≤ k := by
  unfold signsN signsOf
  rw [List.length_map]
  exact Nat.le_trans (List.length_filter_le _ _) (by rw [List.length_take]; omega)

set_option maxRecDepth 100000 in
set_option maxHeartbeats 400000 in
theorem refSigns_bad (b : Bk) (v : Value) (w : World) (hb : BookAt w.heap.size w v b) (he : errF b ≠ 0) :
    Calls Tryz.prog 12 #[v] w fun e w' => e = .returned (.tuple #[.slice none 0 0, .int .i64 (errF b)]) ∧ Below w.heap.size w w' := by
  obtain ⟨sv, rfl, hgs⟩ := hb
  have hb : BookAt w.heap.size w (.agg #[.int .i64 b.signed, sv]) b := ⟨sv, rfl, hgs⟩
  obtain ⟨a, cap, rfl, -⟩ := hgs
  have HK := Lib.hid (BkBox.start hb)
  clear hb
  have hne : (errF b != 0) = true := by simp [he]
  have HE := Lib.hid he
  clear he
  have c0 := blk_cell HK.out.box 0; have c1 := blk_cell HK.out.box 1
  go_enter Tryz.func12, Tryz.ntmps12
  go_wp2_with fail
  refine (refLeaves_bad b _ _ HK.out.book HE.out).mono ?_
  rintro e w1 ⟨rfl, hb1⟩
  have HK := Lib.hid (HK.out.later hb1)
  clear hb1 c0 c1
  go_wp2_with fail
  go_ret2
  exact ⟨rfl, HK.out.below⟩

set_option maxRecDepth 100000 in
set_option maxHeartbeats 1600000 in
theorem refSigns_good (b : Bk) (v : Value) (w : World) (hb : BookAt w.heap.size w v b) (he : errF b = 0) :
    Calls Tryz.prog 12 #[v] w fun e w' => (∃ v' base, e = .returned (.tuple #[v', .int .i64 0]) ∧ w'.ownsRow base 3 1 v' (signsF b).length (intVs (signsF b))) ∧ Below w.heap.size w w' := by
  obtain ⟨sv, rfl, hgs⟩ := hb
  have hb : BookAt w.heap.size w (.agg #[.int .i64 b.signed, sv]) b := ⟨sv, rfl, hgs⟩
  obtain ⟨a, cap, rfl, -⟩ := hgs
  have HK := Lib.hid (BkBox.start hb)
  clear hb
  have hfew := lvs_few (errF_zero he)
  have HE := Lib.hid he
  obtain ⟨N, hN⟩ : ∃ N, N = (lvs b).length := ⟨_, rfl⟩
  have HN := Lib.hid hN
  rw [← hN] at hfew
  clear he hN
  obtain ⟨ei, hi1, hi2, hi3, hi4⟩ := elemInt
  have HI := Lib.hid (And.intro hi1 (And.intro hi2 (And.intro hi3 hi4)))
  clear hi1 hi2 hi3 hi4
  have c0 := blk_cell HK.out.box 0; have c1 := blk_cell HK.out.box 1
  go_enter Tryz.func12, Tryz.ntmps12
  go_wp2_with fail
  refine (refLeaves_good b _ _ HK.out.book HE.out).mono ?_
  rintro e w1 ⟨⟨v', rfl, hL⟩, hb1⟩
  have HK := Lib.hid (HK.out.later hb1)
  clear hb1 c0 c1
  have HL := Lib.hid hL
  obtain ⟨la, lcap, rfl, -⟩ := hL
  rw [← HN.out] at HL ⊢
  have HR : Hid (w1.ownsRow w1.heap.size 3 1 (.slice none 0 0) 0 []) := Lib.hid (World.ownsRow_nil _ _ _ _)
  have HB : Hid (Below w1.heap.size w1 w1) := Lib.hid (Below.refl _ _)
  go_wp2_with fail
  go_loopw [6, 7] (fun v i wr => ∃ (k : Nat), k ≤ N ∧ i = .int .i64 k ∧ Hid (wr.ownsRow w1.heap.size 3 1 v (signsN b k).length (intVs (signsN b k))) ∧ Hid (Below w1.heap.size w1 wr)) (fun _ i _ => N - (intOf i).toNat)
  case atStart => exact ⟨0, by omega, rfl, (by have h := HR.out; show World.ownsRow _ _ _ _ _ _ _; simpa [signsN, signsOf, intVs] using h), HB⟩
  case round =>
    clear HR HB
    obtain ⟨k, hk, rfl, HR, HB⟩ := hrel
    have HKr := Lib.hid (HK.out.later HB.out)
    have c0 := blk_cell HKr.out.box 0; have c1 := blk_cell HKr.out.box 1
    by_cases hlt : k < N
    · obtain ⟨x, hx⟩ : ∃ x, (lvs b)[k]? = some x := ⟨_, List.getElem?_eq_getElem (by have := HN.out; omega)⟩
      obtain ⟨z, ez, -, x0, x1, x2, x3⟩ := (HL.out.later HB.out).get hx
      cases ez
      obtain ⟨g, hg, hgk, n0, n1, p0, p1⟩ := lf_bounds (errF_zero HE.out) (List.mem_of_getElem? hx)
      obtain ⟨bb, off, rfl, -, ca, ccap, -, g0, g1, g2, g3⟩ := HKr.out.gth hg
      have hgb : x.gat < b.gs.length := (List.getElem?_eq_some_iff.1 hg).1
      have HX := Lib.hid hx
      have HS := Lib.hid hgk.sig
      have hsg : signedL b x = signedB b x g := by simp [signedL, hg]
      have d1 : ((k : Int) < N) := by omega
      have d2 : ((x.gat : Int) < b.gs.length) := by omega
      have hz := HB.out.size
      obtain ⟨Q, hQ⟩ : ∃ Q, Q = rankF g.round g.letter := ⟨_, rfl⟩
      have hrk : g.letter < 23 ↔ 0 ≤ Q := by
        have h := hgk.sig
        simp [sigB, inB] at h
        rw [hQ]
        unfold rankF
        split <;> omega
      clear hx hg hgk x2 g2 g3
      have r0 := cell_regrown c0
      have r1 := cell_regrown c1
      have s0 := cell_regrown x0
      have s1 := cell_regrown x1
      have s3 := cell_regrown x3
      have t0 := cell_regrown g0
      have t1 := cell_regrown g1
      have cR : ∀ d os, Calls Tryz.prog 39 #[.agg #[.int .i64 g.round, .int .i64 g.letter]] (grow (redrawn wr d) os) (fun e w'' => e = .returned (.int .i64 Q) ∧ ∃ p : Regrown, w'' = grow (redrawn wr p.d) p.os) := fun d os => Calls.regrown_of (by have h := refRank_any g.round g.letter (grow (redrawn wr d) os) HS.out; rwa [← hQ] at h)
      clear hQ c0 c1 x0 x1 x3 g0 g1
      by_cases f1 : 0 ≤ Q
      · have e1 : decide (0 ≤ Q) = true := decide_eq_true f1
        by_cases f2 : x.kind = 2
        · have HSG : Hid (signedL b x = false) := Lib.hid (by rw [hsg]; simp [signedB, f2])
          have e2 : (x.kind != 2) = false := by simp [f2]
          clear hsg hrk
          go_wp2_with fail
          refine wp_region_quiet_below (by kernel_rfl) (by kernel_rfl) ?_; (repeat (go_big_quiet_step (exact cR _ _))); refine wpQuiet_nil ?_; rintro w6 ⟨⟨d6, os6⟩, rfl⟩
          have HR := Lib.hid (row_later HR.out (below_regrown wr d6 os6))
          have HB := Lib.hid (HB.out.trans ((below_regrown wr d6 os6).mono hz))
          have HN9 := Lib.hid (signsN_no HX.out HSG.out)
          clear r0 r1 s0 s1 s3 t0 t1 cR HSG
          go_wp2_with fail
          go_roundw
          case rel => exact ⟨k + 1, by omega, by go_num, (by show World.ownsRow _ _ _ _ _ _ _; rw [HN9.out]; exact HR.out), HB⟩
          case measure => simp [intOf]; omega
        · have e2 : (x.kind != 2) = true := by simp [f2]
          by_cases f3 : x.num ≤ b.signed
          · have HSG : Hid (signedL b x = true) := Lib.hid (by rw [hsg]; simp [signedB, f2, f3, hrk.2 f1])
            have e3 : decide (x.num ≤ b.signed) = true := decide_eq_true f3
            clear hsg hrk
            go_wp2_with fail
            refine wp_region_quiet_below (by kernel_rfl) (by kernel_rfl) ?_; (repeat (go_big_quiet_step (exact cR _ _))); refine wpQuiet_nil ?_; rintro w6 ⟨⟨d6, os6⟩, rfl⟩
            have HR6 := Lib.hid (row_later HR.out (below_regrown wr d6 os6))
            have HB6 := Lib.hid (HB.out.trans ((below_regrown wr d6 os6).mono hz))
            have HN9 := Lib.hid (signsN_yes HX.out HSG.out)
            have hsl := signsN_len b k
            clear r0 r1 s0 s1 s3 t0 t1 cR HSG
            dsimp only
            generalize grow (redrawn wr d6) os6 = w6 at *
            obtain ⟨hi1, hi2, hi3, hi4⟩ := HI.out
            have hz6 := HB6.out.size
            go_wp2_with (at_builtin; refine wpList_append_own _ rfl _ _ 28 rfl w1.heap.size 3 ei _ 1 8 undInts hi1 hi2 hi3 hi4 rfl (by decide) u6 (signsN b k).length (intVs (signsN b k)) rfl (HR6.out.alloc _) ⟨w6.heap.size, 0, none⟩ 1 1 [.int .i64 k] rfl rfl ?c1 ?c2 ?c3 ?c4 ?c5 ?c6)
            case c1 => exact cells_new _ _ _
            case c2 => simp [Value.oneCell']
            case c3 => simp only [maxLen]; omega
            case c4 => omega
            case c5 => simp; omega
            case c6 =>
              rintro v' w7 hown hgrow -
              have HB7 := Lib.hid (HB6.out.trans ((((Below.refl _ w6).alloc (Nat.le_refl _) (.cells #[.int .i64 k] 3)).mono hz6).trans (below_row (HR6.out.alloc _) (by simp; omega) hgrow)))
              have HO := Lib.hid hown
              clear hgrow hown hi1 hi2 hi3 hi4
              go_wp2_with fail
              go_roundw
              case rel => exact ⟨k + 1, by omega, by go_num, (by
                show World.ownsRow _ _ _ _ _ _ _
                rw [HN9.out]
                have h := HO.out
                simpa [intVs] using h), HB7⟩
              case measure => simp [intOf]; omega
          · have HSG : Hid (signedL b x = false) := Lib.hid (by rw [hsg]; simp [signedB, f3])
            have e3 : decide (x.num ≤ b.signed) = false := decide_eq_false f3
            clear hsg hrk
            go_wp2_with fail
            refine wp_region_quiet_below (by kernel_rfl) (by kernel_rfl) ?_; (repeat (go_big_quiet_step (exact cR _ _))); refine wpQuiet_nil ?_; rintro w6 ⟨⟨d6, os6⟩, rfl⟩
            have HR := Lib.hid (row_later HR.out (below_regrown wr d6 os6))
            have HB := Lib.hid (HB.out.trans ((below_regrown wr d6 os6).mono hz))
            have HN9 := Lib.hid (signsN_no HX.out HSG.out)
            clear r0 r1 s0 s1 s3 t0 t1 cR HSG
            go_wp2_with fail
            go_roundw
            case rel => exact ⟨k + 1, by omega, by go_num, (by show World.ownsRow _ _ _ _ _ _ _; rw [HN9.out]; exact HR.out), HB⟩
            case measure => simp [intOf]; omega
      · have e1 : decide (0 ≤ Q) = false := decide_eq_false f1
        have HSG : Hid (signedL b x = false) := Lib.hid (by rw [hsg]; simp [signedB, hrk, f1])
        clear hsg hrk
        go_wp2_with fail
        refine wp_region_quiet_below (by kernel_rfl) (by kernel_rfl) ?_; (repeat (go_big_quiet_step (exact cR _ _))); refine wpQuiet_nil ?_; rintro w6 ⟨⟨d6, os6⟩, rfl⟩
        have HR := Lib.hid (row_later HR.out (below_regrown wr d6 os6))
        have HB := Lib.hid (HB.out.trans ((below_regrown wr d6 os6).mono hz))
        have HN9 := Lib.hid (signsN_no HX.out HSG.out)
        clear r0 r1 s0 s1 s3 t0 t1 cR HSG
        go_wp2_with fail
        go_roundw
        case rel => exact ⟨k + 1, by omega, by go_num, (by show World.ownsRow _ _ _ _ _ _ _; rw [HN9.out]; exact HR.out), HB⟩
        case measure => simp [intOf]; omega
    · have hkN : k = N := by omega
      have HV : Hid (signsN b k = signsF b) := Lib.hid (signsN_all (by have := HN.out; omega))
      clear c0 c1
      go_wp2_with fail
      go_ret2
      refine ⟨⟨_, w1.heap.size, rfl, ?_⟩, HKr.out.below⟩
      have h := HR.out
      rw [HV.out] at h
      exact h
end Go.Proofs.YtockagnnpeoggaaGreatDoor

/- Leaves are written each otherwise, and read back. Nothing of the program. -/
namespace Go.Proofs.YtockagnnpeoggaaGreatDoor
set_option linter.unusedSimpArgs false
set_option linter.unusedVariables false

theorem back_all : ((List.range 3).all fun r => (List.range 25).all fun l => (List.range 13).all fun n => (List.range 5).all fun p => !possibleB n p || decide (allF (leafNameF (nameT ((r : Int) + 1) l n p)) = some ((r : Int) + 1, (l : Int), (n : Int), (p : Int)))) = true := by decide +kernel
theorem name_back {r l n p : Int} (hr : 1 ≤ r ∧ r ≤ 3) (hl : 0 ≤ l ∧ l ≤ 24) (hn : 0 ≤ n ∧ n ≤ 12) (hp : 0 ≤ p ∧ p ≤ 4) (h : possibleB n p = true) : allF (leafNameF (nameT r l n p)) = some (r, l, n, p) := by
  have h0 := back_all
  simp only [List.all_eq_true, List.mem_range] at h0
  have h1 := h0 (r - 1).toNat (by omega) l.toNat (by omega) n.toNat (by omega) p.toNat (by omega)
  have e1 : (((r - 1).toNat : Int) + 1) = r := by omega
  have e2 : ((l.toNat : Int)) = l := by omega
  have e3 : ((n.toNat : Int)) = n := by omega
  have e4 : ((p.toNat : Int)) = p := by omega
  rw [e1, e2, e3, e4, h] at h1
  simpa using h1

theorem sigs_new : ∀ (gs : List Gth) (seen : List (Int × Int)) (last : Int × Int) (i : Nat), (gsErr seen last i gs).2 = 0 → (∀ g ∈ gs, (g.round, g.letter) ∉ seen) ∧ gs.Pairwise (fun g h => (g.round, g.letter) ≠ (h.round, h.letter))
  | [], _, _, _, _ => ⟨(fun _ h => by cases h), List.Pairwise.nil⟩
  | g :: gs, seen, last, i, h => by
    unfold gsErr at h
    by_cases h0 : gthErr seen last g = 0
    · rw [if_pos h0] at h
      obtain ⟨h1, h2⟩ := sigs_new gs _ _ _ h
      have hg : (g.round, g.letter) ∉ seen := by
        unfold gthErr at h0
        intro hm
        by_cases hs : sigB g.round g.letter = false
        · rw [if_pos hs] at h0; omega
        · rw [if_neg hs, if_pos hm] at h0; omega
      refine ⟨fun x hx => ?_, List.pairwise_cons.2 ⟨fun x hx e => h1 x hx (by rw [← e]; simp), h2⟩⟩
      rcases List.mem_cons.1 hx with rfl | hx
      · exact hg
      · exact fun hm => h1 x hx (List.mem_append_left _ hm)
    · rw [if_neg h0] at h; exact absurd h h0
theorem sigs_inj {b : Bk} (h : errF b = 0) {i j : Nat} {g k : Gth} (hi : b.gs[i]? = some g) (hj : b.gs[j]? = some k) (e : (g.round, g.letter) = (k.round, k.letter)) : i = j := by
  have hz : (gsErr [] (0, 0) 0 b.gs).2 = 0 := by
    unfold errF checkF at h
    by_cases h1 : inB 0 12 b.signed = false
    · rw [if_pos h1] at h; simp at h
    rw [if_neg h1] at h
    by_cases h2 : inB 1 30 b.gs.length = false
    · rw [if_pos h2] at h; simp at h
    rw [if_neg h2] at h
    by_cases h3 : (gsErr [] (0, 0) 0 b.gs).2 = 0
    · exact h3
    · rw [if_neg h3] at h; exact absurd h h3
  have hp := (sigs_new _ _ _ _ hz).2
  obtain ⟨h1, rfl⟩ := List.getElem?_eq_some_iff.1 hi
  obtain ⟨h2, rfl⟩ := List.getElem?_eq_some_iff.1 hj
  rcases Nat.lt_trichotomy i j with h3 | h3 | h3
  · exact absurd e (List.pairwise_iff_getElem.1 hp i j h1 h2 h3)
  · exact h3
  · exact absurd e.symm (List.pairwise_iff_getElem.1 hp j i h2 h1 h3)
theorem lf_possible {b : Bk} {x : Lf} (h : x ∈ lvs b) (hb : 0 ≤ x.num ∧ x.num ≤ 12 ∧ 0 ≤ x.plus ∧ x.plus ≤ 4) : possibleB x.num x.plus = true := by
  have hne : ¬ (x.num = 0 ∧ x.plus = 0) := by
    obtain ⟨g, _, hm⟩ := lvs_mem h
    simp only [lvsG, List.mem_flatMap] at hm
    obtain ⟨k, _, hm⟩ := hm
    simp only [lvsNum, List.mem_append, List.mem_map] at hm
    rcases hm with hm | ⟨j, _, hm⟩
    · split at hm
      · rw [List.mem_singleton] at hm
        have := congrArg Lf.num hm
        dsimp only at this
        omega
      · cases hm
    · have := congrArg Lf.plus hm
      dsimp only at this
      omega
  unfold possibleB
  simp only [Bool.and_eq_true, Bool.not_eq_true', Bool.and_eq_false_iff, decide_eq_false_iff_not, inB_iff]
  omega
/-- The name of a leaf, read back from how it is written. -/
theorem text_back {b : Bk} (h : errF b = 0) {x : Lf} (hx : x ∈ lvs b) : allF (leafNameF (lfText b x)) = some (nameQ b x) := by
  obtain ⟨g, hg, hok, h1, h2, h3, h4⟩ := lf_bounds (errF_zero h) hx
  have hl := hok.leaves
  unfold lfText nameQ
  rw [hg]
  exact name_back hok.round hok.letter ⟨h1, by omega⟩ ⟨h3, h4⟩ (lf_possible hx ⟨h1, by omega, h3, h4⟩)
theorem name_inj {b : Bk} (h : errF b = 0) {i j : Nat} {x y : Lf} (hi : (lvs b)[i]? = some x) (hj : (lvs b)[j]? = some y) (e : nameQ b x = nameQ b y) : i = j := by
  obtain ⟨g, hg, _⟩ := lvs_mem (List.mem_of_getElem? hi)
  obtain ⟨k, hk, _⟩ := lvs_mem (List.mem_of_getElem? hj)
  unfold nameQ at e
  rw [hg, hk] at e
  simp only [Prod.mk.injEq] at e
  obtain ⟨e1, e2, e3, e4⟩ := e
  have hgat := sigs_inj h hg hk (by rw [e1, e2])
  rcases Nat.lt_trichotomy i j with h3 | h3 | h3
  · have := sorted_lt (lvs_sorted b) hi hj h3
    unfold ltL at this
    omega
  · exact h3
  · have := sorted_lt (lvs_sorted b) hj hi h3
    unfold ltL at this
    omega
theorem text_inj {b : Bk} (h : errF b = 0) {i j : Nat} {x y : Lf} (hi : (lvs b)[i]? = some x) (hj : (lvs b)[j]? = some y) (e : lfText b x = lfText b y) : i = j := by
  have h1 := text_back h (List.mem_of_getElem? hi)
  have h2 := text_back h (List.mem_of_getElem? hj)
  rw [e, h2] at h1
  exact name_inj h hi hj (Option.some.inj h1).symm
theorem find_back {b : Bk} (h : errF b = 0) {i : Nat} {x : Lf} (hi : (lvs b)[i]? = some x) : findR b (lfText b x) = .tuple #[.int .i64 i, .int .i64 0] := by
  unfold findR
  rw [text_back h (List.mem_of_getElem? hi)]
  dsimp only
  have hf : (lvs b).findIdx? (fun y => decide (nameQ b y = nameQ b x)) = some i := by
    rw [List.findIdx?_eq_some_iff_getElem]
    obtain ⟨h1, h2⟩ := List.getElem?_eq_some_iff.1 hi
    refine ⟨h1, by simp [h2], fun j hj => ?_⟩
    have hjl : j < (lvs b).length := by omega
    have hne : nameQ b ((lvs b)[j]) ≠ nameQ b x := fun e => by
      have := name_inj h (List.getElem?_eq_getElem hjl) hi e
      omega
    simp [hne]
  rw [hf]
  rfl
end Go.Proofs.YtockagnnpeoggaaGreatDoor
