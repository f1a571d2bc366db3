/- The parts In, Tc, Td, Te, Tf of the proof, joined. It holds without conditions of its own. -/
import Derived.Test.YtielaaaeecfkoaaGreatDoorFL7
import Derived.Test.YtielaaaeecfkoaaGreatDoorFL6
import Derived.Deep.RegionHeld3
/- Marks; a press that is opened. -/
namespace Go.Proofs.YtielaaaeecfkoaaGreatDoor
set_option linter.unusedSimpArgs false
set_option linter.unusedVariables false
open Go Go.RowKit Go.Sort Go.BigFrame

theorem mrk_zero {leaves : Int} {x : Int × Bool} : mrkErr leaves x = 0 ↔ inI 0 (leaves - 1) x.1 = true := by
  unfold mrkErr
  cases inI 0 (leaves - 1) x.1 <;> simp
theorem mrk_four {leaves : Int} {x : Int × Bool} (h : mrkErr leaves x ≠ 0) : inI 0 (leaves - 1) x.1 = false ∧ mrkErr leaves x = 4 := by
  unfold mrkErr at *
  cases h2 : inI 0 (leaves - 1) x.1 <;> simp_all

set_option maxRecDepth 100000 in
set_option maxHeartbeats 1000000 in
theorem firstM_any (leaves : Int) (xs : List (Int × Bool)) (v : Value) (n B : Nat) (w : World) (hv : RowsAt 2 mrkV B w v xs) (hB : B ≤ w.heap.size) (hn : w.cell? ⟨n, 0, none⟩ = some (.int .i64 leaves)) (hl : xs.length ≤ 100) :
    Calls Tryz.prog 72 #[v, .func (.func 73) #[] #[.pointer (some ⟨n, 0, none⟩)]] w fun e w' => e = .returned (.tuple #[.int .i64 ((marksErr leaves 0 xs).1 : Nat), .int .i64 (marksErr leaves 0 xs).2]) ∧ Below w.heap.size w w' := by
  obtain ⟨a, cap, rfl, hc⟩ := hv
  by_cases hne : xs = []
  · subst hne
    have HF : Hid (marksErr leaves 0 [] = (0, 0)) := Lib.hid rfl
    clear hc
    dsimp only [List.length_nil] at hl ⊢
    go_enter Tryz.func72, Tryz.ntmps72
    go_wp2_with fail
    refine wp_loop_rounds 1 ?_
    rw [rounds_succ]
    go_wp2_with fail
    go_ret2
    exact ⟨by rw [HF.out]; rfl, Below.refl _ _⟩
  obtain ⟨b', off, rfl, hb', hcell⟩ := hc hne
  have HC := Lib.hid hcell
  obtain ⟨N, hN⟩ : ∃ N, N = xs.length := ⟨_, rfl⟩
  rw [← hN] at hl ⊢
  have HN := Lib.hid hN
  clear hcell hN hc hne
  obtain ⟨z1, hz1⟩ : ∃ z1, z1 = marksErr leaves 0 xs := ⟨_, rfl⟩
  rw [← hz1]
  have HZ := Lib.hid hz1
  clear hz1
  go_enter Tryz.func72, Tryz.ntmps72
  go_wp2_with fail
  go_loopw [11] (fun q wr => ∃ (k : Nat), k ≤ N ∧ q = .int .i64 k ∧ Below w.heap.size w wr ∧ Hid (z1 = marksErr leaves k (xs.drop k))) (fun q _ => N - (intOf q).toNat)
  case atStart => exact ⟨0, by omega, rfl, Below.refl _ _, HZ⟩
  case round =>
    obtain ⟨k, hk, rfl, ho, hh⟩ := hrel
    have hzr := ho.size
    by_cases hlt : k < N
    · obtain ⟨x, hx⟩ : ∃ x, xs[k]? = some x := ⟨_, List.getElem?_eq_getElem (by have := HN.out; omega)⟩
      have q0 : wr.cell? ⟨b', off + k * 2, none⟩ = some (.int .i64 x.1) := cell_later' ho (by have := HC.out k x hx 0 _ rfl; simpa using this)
      have q1 : wr.cell? ⟨b', off + k * 2 + 1, none⟩ = some (.bool x.2) := cell_later' ho (by have := HC.out k x hx 1 _ rfl; simpa using this)
      have HG := Lib.hid hx
      have hba : Below wr.heap.size wr (wr.alloc (Obj.cells #[.int .i64 x.1, .bool x.2] 91)) := (Below.refl _ _).alloc (Nat.le_refl _) _
      have hC := mrk1_any k x leaves n _ (cell_later' hba (cell_later' ho hn))
      have HCc := Lib.hid hC
      have HO := Lib.hid (ho.trans (hba.mono hzr))
      clear hC hba hx
      go_wp2_with fail
      refine HCc.out.mono ?_
      rintro e w1 ⟨rfl, hb1⟩
      have ho2 := HO.out.trans (hb1.mono HO.out.size)
      obtain ⟨er, her⟩ : ∃ er, er = mrkErr leaves x := ⟨_, rfl⟩
      rw [← her]
      have HR := Lib.hid her
      clear her q0 q1 ho HO HCc hb1
      by_cases h0 : er = 0
      · have HH : Hid (z1 = marksErr leaves (k + 1) (xs.drop (k + 1))) := Lib.hid (hh.out.trans (marksErr_step HG.out (mrk_zero.1 (HR.out.symm.trans h0))))
        clear HR hh
        subst h0
        go_wp2_with fail
        go_roundw
        case rel => exact ⟨k + 1, by omega, by go_num, ho2, HH⟩
        case measure => simp [intOf]; omega
      · have h0b : (er != 0) = true := by simp [h0]
        have h4 := mrk_four (fun h => h0 (HR.out.trans h))
        have HF : Hid (z1 = (k, er)) := Lib.hid (by rw [HR.out, h4.2]; exact hh.out.trans (marksErr_stop HG.out h4.1))
        clear h0 HR hh h4
        go_wp2_with fail
        go_ret2
        exact ⟨by rw [HF.out]; rfl, ho2⟩
    · have HF : Hid (z1 = (0, 0)) := Lib.hid (hh.out.trans (marksErr_end (by have := HN.out; omega)))
      go_wp2_with fail
      go_ret2
      exact ⟨by rw [HF.out]; rfl, ho⟩

def marksR (lo hi leaves : Int) (xs : List (Int × Bool)) : Nat × Int := if inI lo hi xs.length = false then (0, 3) else marksErr leaves 0 xs
set_option maxHeartbeats 1000000 in
theorem listM_any (lo hi leaves : Int) (xs : List (Int × Bool)) (v : Value) (n B : Nat) (w : World) (hv : RowsAt 2 mrkV B w v xs) (hB : B ≤ w.heap.size) (hn : w.cell? ⟨n, 0, none⟩ = some (.int .i64 leaves)) (hh : hi ≤ 100) :
    Calls Tryz.prog 39 #[.int .i64 lo, .int .i64 hi, v, .func (.func 73) #[] #[.pointer (some ⟨n, 0, none⟩)]] w fun e w' => e = .returned (.tuple #[.int .i64 ((marksR lo hi leaves xs).1 : Nat), .int .i64 (marksR lo hi leaves xs).2]) ∧ Below w.heap.size w w' := by
  have HV := Lib.hid hv
  obtain ⟨a, cap, rfl, -⟩ := hv
  obtain ⟨N, hN⟩ : ∃ N, N = xs.length := ⟨_, rfl⟩
  rw [← hN] at HV ⊢
  obtain ⟨z1, hz1⟩ : ∃ z1, z1 = marksR lo hi leaves xs := ⟨_, rfl⟩
  rw [← hz1]
  cases hi0 : inB lo hi N with
  | false =>
    have HF : Hid (z1 = (0, 3)) := Lib.hid (by rw [hz1]; unfold marksR; rw [← hN, if_pos (by rw [inI_inB]; exact hi0)])
    clear hz1 hN
    go_enter Tryz.func39, Tryz.ntmps39
    go_wp2_with fail
    refine (within_one lo hi N _ _ (by simp [World.cell?_alloc_at])).mono ?_
    rintro e w1 ⟨rfl, hw⟩
    have hb1 : Below w.heap.size w w1 := by rw [← hw]; exact (by repeat (first | exact Below.refl _ _ | assumption | (refine Below.alloc ?_ ?_ _; rotate_left; · (first | omega | (simp; done) | (simp; omega) | fail)) | (refine Below.setCell ?_ ?_ _; rotate_left; · (first | omega | (simp; done) | (simp; omega) | fail)) | refine Below.drew ?_ | fail))
    clear hw
    rw [hi0]
    go_wp2_with fail
    go_ret2
    exact ⟨by rw [HF.out]; rfl, hb1⟩
  | true =>
    have hl : xs.length ≤ 100 := by
      simp only [inB, Bool.and_eq_true, decide_eq_true_eq] at hi0; omega
    have HF : Hid (z1 = marksErr leaves 0 xs) := Lib.hid (by rw [hz1]; unfold marksR; rw [← hN, if_neg (by rw [inI_inB, hi0]; decide)])
    have HN := Lib.hid hN
    have HL := Lib.hid hl
    clear hz1 hN hl
    go_enter Tryz.func39, Tryz.ntmps39
    go_wp2_with fail
    refine (within_one lo hi N _ _ (by simp [World.cell?_alloc_at])).mono ?_
    rintro e w1 ⟨rfl, hw⟩
    have hb1 : Below w.heap.size w w1 := by rw [← hw]; exact (by repeat (first | exact Below.refl _ _ | assumption | (refine Below.alloc ?_ ?_ _; rotate_left; · (first | omega | (simp; done) | (simp; omega) | fail)) | (refine Below.setCell ?_ ?_ _; rotate_left; · (first | omega | (simp; done) | (simp; omega) | fail)) | refine Below.drew ?_ | fail))
    clear hw
    rw [hi0]
    have HB := Lib.hid hb1
    have hn1 := cell_later' hb1 hn
    have hz1 := hb1.size
    clear hb1 hi0
    go_wp2_with fail
    refine (firstM_any leaves xs _ n B _ (by have h := HV.out; rw [HN.out] at h ⊢; exact h.same fun k hk => HB.out.block k (by omega)) (by omega) hn1 HL.out).mono ?_
    rintro e w2 ⟨rfl, ho⟩
    rw [← HF.out]
    have HO : Hid (Below w.heap.size w w2) := Lib.hid (HB.out.trans (ho.mono hz1))
    clear ho HF HB HV
    obtain ⟨x, y⟩ := z1
    go_wp2_with fail
    go_ret2
    exact ⟨rfl, HO.out⟩

/-- What open hands back of a press. -/
def openP (p : Prs) (v : Value) : Value := if errP p = 0 then v else .agg #[.slice none 0 0, .slice none 0 0, .int .i64 0, .int .i64 0]
set_option maxHeartbeats 1000000 in
theorem foldOpen_any (p : Prs) (v : Value) (w : World) (hp : PrsAt w.heap.size w v p) :
    Calls Tryz.prog 37 #[v] w fun e w' => e = .returned (.tuple #[openP p v, .int .i64 (errP p)]) ∧ Below w.heap.size w w' := by
  have HP := Lib.hid hp
  obtain ⟨fv, pv, rfl, ⟨a, cap, rfl, -⟩, ⟨a2, cap2, rfl, -⟩, -⟩ := hp
  obtain ⟨n1, hn1⟩ : ∃ n, n = p.fmts.length := ⟨_, rfl⟩
  obtain ⟨n2, hn2⟩ : ∃ n, n = p.pprs.length := ⟨_, rfl⟩
  rw [← hn1, ← hn2] at HP ⊢
  clear hn1 hn2
  obtain ⟨⟨r1, r2, r3⟩, hr⟩ : ∃ r, r = checkP p := ⟨_, rfl⟩
  have HR := Lib.hid hr
  have HE : Hid (errP p = r3) := Lib.hid (by unfold errP; rw [← hr])
  clear hr
  go_enter Tryz.func37, Tryz.ntmps37
  go_wp2_with fail
  have hb0 : Below w.heap.size w ((w.alloc (.cells #[.slice a n1 cap, .slice a2 n2 cap2, .int .i64 p.trim, .int .i64 p.sheets] 25)).alloc (.cells #[.slice none 0 0, .slice none 0 0, .int .i64 0, .int .i64 0] 85)) := by exact (by repeat (first | exact Below.refl _ _ | assumption | (refine Below.alloc ?_ ?_ _; rotate_left; · (first | omega | (simp; done) | (simp; omega) | fail)) | (refine Below.setCell ?_ ?_ _; rotate_left; · (first | omega | (simp; done) | (simp; omega) | fail)) | refine Below.drew ?_ | fail))
  have b1 : ((w.alloc (.cells #[.slice a n1 cap, .slice a2 n2 cap2, .int .i64 p.trim, .int .i64 p.sheets] 25)).alloc (.cells #[.slice none 0 0, .slice none 0 0, .int .i64 0, .int .i64 0] 85)).heap[w.heap.size]? = some (.cells #[.slice a n1 cap, .slice a2 n2 cap2, .int .i64 p.trim, .int .i64 p.sheets] 25) := (by repeat (first | exact heap_alloc_at _ _ _ (by (first | omega | (simp; done) | (simp; omega) | (simp at *; omega) | fail)) | assumption | rw [heap_alloc_past _ _ _ (by (first | omega | (simp; done) | (simp; omega) | (simp at *; omega) | fail))] | rw [heap_setCell_past _ _ _ _ (by (first | omega | (simp; done) | (simp; omega) | (simp at *; omega) | fail))] | fail))
  have b2 : ((w.alloc (.cells #[.slice a n1 cap, .slice a2 n2 cap2, .int .i64 p.trim, .int .i64 p.sheets] 25)).alloc (.cells #[.slice none 0 0, .slice none 0 0, .int .i64 0, .int .i64 0] 85)).heap[w.heap.size + 1]? = some (.cells #[.slice none 0 0, .slice none 0 0, .int .i64 0, .int .i64 0] 85) := (by repeat (first | exact heap_alloc_at _ _ _ (by (first | omega | (simp; done) | (simp; omega) | (simp at *; omega) | fail)) | assumption | rw [heap_alloc_past _ _ _ (by (first | omega | (simp; done) | (simp; omega) | (simp at *; omega) | fail))] | rw [heap_setCell_past _ _ _ _ (by (first | omega | (simp; done) | (simp; omega) | (simp at *; omega) | fail))] | fail))
  revert hb0 b1 b2
  generalize ((w.alloc (.cells #[.slice a n1 cap, .slice a2 n2 cap2, .int .i64 p.trim, .int .i64 p.sheets] 25)).alloc (.cells #[.slice none 0 0, .slice none 0 0, .int .i64 0, .int .i64 0] 85)) = w1
  intro hb0 b1 b2
  refine (foldCheck_any p _ _ (HP.out.later hb0)).mono ?_
  rintro e w2 ⟨rfl, hb2⟩
  rw [← HR.out]
  have b1 := blk_later hb2 b1
  have b2 := blk_later hb2 b2
  have hb3 := hb0.trans (hb2.mono hb0.size)
  have hz := blk_lt b2
  clear hb0 hb2
  have c0 := blk_cell b1 0; have c1 := blk_cell b1 1; have c2 := blk_cell b1 2; have c3 := blk_cell b1 3
  have d0 := blk_cell b2 0; have d1 := blk_cell b2 1; have d2 := blk_cell b2 2; have d3 := blk_cell b2 3
  have f0 := blk_free b2 0; have f1 := blk_free b2 1; have f2 := blk_free b2 2; have f3 := blk_free b2 3
  dsimp only
  by_cases h0 : r3 = 0
  · have HF : Hid (openP p (.agg #[.slice a n1 cap, .slice a2 n2 cap2, .int .i64 p.trim, .int .i64 p.sheets]) = .agg #[.slice a n1 cap, .slice a2 n2 cap2, .int .i64 p.trim, .int .i64 p.sheets]) := Lib.hid (by unfold openP; rw [if_pos (HE.out.trans h0)])
    have HE2 : Hid (errP p = 0) := Lib.hid (HE.out.trans h0)
    clear HE HR
    subst h0
    go_wp2_with fail
    have b3 : ((((w2.setCell ⟨w.heap.size + 1, 0, none⟩ (.slice a n1 cap)).setCell ⟨w.heap.size + 1, 1, none⟩ (.slice a2 n2 cap2)).setCell ⟨w.heap.size + 1, 2, none⟩ (.int .i64 p.trim)).setCell ⟨w.heap.size + 1, 3, none⟩ (.int .i64 p.sheets)).heap[w.heap.size + 1]? = some (.cells #[.slice a n1 cap, .slice a2 n2 cap2, .int .i64 p.trim, .int .i64 p.sheets] 85) := by
      simpa using blk_set (blk_set (blk_set (blk_set b2 0 (.slice a n1 cap)) 1 (.slice a2 n2 cap2)) 2 (.int .i64 p.trim)) 3 (.int .i64 p.sheets)
    have g0 := blk_cell b3 0; have g1 := blk_cell b3 1; have g2 := blk_cell b3 2; have g3 := blk_cell b3 3
    exact bodyPost_ret (v := .tuple #[.agg #[.slice a n1 cap, .slice a2 n2 cap2, .int .i64 p.trim, .int .i64 p.sheets], .int .i64 0]) (by simp [results, Tryz.results37, go_sem, g0, g1, g2, g3]) rfl ⟨by rw [HF.out, HE2.out], (by repeat (first | (refine Below.setCell ?_ ?_ _; rotate_left; · (first | omega | (simp; done) | (simp; omega) | fail)) | (refine Below.alloc ?_ ?_ _; rotate_left; · (first | omega | (simp; done) | (simp; omega) | fail)) | refine Below.drew ?_ | exact hb3 | fail))⟩
  · have HF : Hid (openP p (.agg #[.slice a n1 cap, .slice a2 n2 cap2, .int .i64 p.trim, .int .i64 p.sheets]) = .agg #[.slice none 0 0, .slice none 0 0, .int .i64 0, .int .i64 0]) := Lib.hid (by unfold openP; rw [if_neg (fun h => h0 (HE.out.symm.trans h))])
    have h0b : (r3 != 0) = true := by simp [h0]
    clear h0 HR
    go_wp2_with fail
    have b3 : ((((w2.setCell ⟨w.heap.size + 1, 0, none⟩ (.slice none 0 0)).setCell ⟨w.heap.size + 1, 1, none⟩ (.slice none 0 0)).setCell ⟨w.heap.size + 1, 2, none⟩ (.int .i64 0)).setCell ⟨w.heap.size + 1, 3, none⟩ (.int .i64 0)).heap[w.heap.size + 1]? = some (.cells #[.slice none 0 0, .slice none 0 0, .int .i64 0, .int .i64 0] 85) := by
      simpa using blk_set (blk_set (blk_set (blk_set b2 0 (.slice none 0 0)) 1 (.slice none 0 0)) 2 (.int .i64 0)) 3 (.int .i64 0)
    have g0 := blk_cell b3 0; have g1 := blk_cell b3 1; have g2 := blk_cell b3 2; have g3 := blk_cell b3 3
    exact bodyPost_ret (v := .tuple #[.agg #[.slice none 0 0, .slice none 0 0, .int .i64 0, .int .i64 0], .int .i64 r3]) (by simp [results, Tryz.results37, go_sem, g0, g1, g2, g3]) rfl ⟨by rw [HF.out, HE.out], (by repeat (first | (refine Below.setCell ?_ ?_ _; rotate_left; · (first | omega | (simp; done) | (simp; omega) | fail)) | (refine Below.alloc ?_ ?_ _; rotate_left; · (first | omega | (simp; done) | (simp; omega) | fail)) | refine Below.drew ?_ | exact hb3 | fail))⟩
end Go.Proofs.YtielaaaeecfkoaaGreatDoor

/- Columns and rows of a sheet; the error of a way of making. -/
namespace Go.Proofs.YtielaaaeecfkoaaGreatDoor
set_option linter.unusedSimpArgs false
set_option linter.unusedVariables false
open Go Go.RowKit Go.Sort Go.BigFrame

noncomputable def gridOk (f : Fds) : Bool := match evCall Tryz.prog 100000 0 83 [.lit (S (bytesF f))] h01 with
  | .ok (.tup [.lit (.int .i64 a), .lit (.int .i64 b)], _) => and (decide (a = (colsF f : Int))) (decide (b = (rowsF f : Int)))
  | _ => false
theorem grid_all : allFolds.all gridOk = true := by kernel_rfl
theorem grid_any {f : Fds} (h1 : 1 ≤ f.length) (h2 : f.length ≤ 4) (W : World) :
    Calls Tryz.prog 83 #[S (bytesF f)] W fun en W' => en = .returned (.tuple #[.int .i64 (colsF f), .int .i64 (rowsF f)]) ∧ Below W.heap.size W W' := by
  have hk := List.all_eq_true.1 grid_all f (allFolds_mem h1 h2)
  unfold gridOk at hk
  split at hk
  · rename_i a b h' he
    simp only [Bool.and_eq_true, decide_eq_true_eq] at hk
    obtain ⟨rfl, rfl⟩ := hk
    refine (eval_lits followsT (ys := [S (bytesF f)]) (W := W) he).mono ?_
    rintro en W' ⟨x, e', rfl, hx, hr, hb, hfr⟩
    obtain ⟨l, rfl, hl⟩ := VR_tup.1 hx
    obtain ⟨y, ys, rfl, g1, g2⟩ := VRs_cons.1 hl
    obtain ⟨z, zs, rfl, g3, g4⟩ := VRs_cons.1 g2
    rw [VR_lit.1 g1, VR_lit.1 g3, VRs_nil.1 g4]
    exact ⟨rfl, hb⟩
  · cases hk

/-- Folds by their letters. -/
def fdsB (s : Bs) : Fds := s.map fun c => c == 120
theorem bytes_back {s : Bs} (h : s.all fdB = true) : bytesF (fdsB s) = s := by
  unfold bytesF fdsB
  rw [List.map_map]
  conv => rhs; rw [← List.map_id s]
  refine List.map_congr_left fun c hc => ?_
  have := List.all_eq_true.1 h c hc
  unfold fdB at this
  simp only [Bool.or_eq_true, beq_iff_eq] at this
  rcases this with rfl | rfl <;> rfl
theorem fds_of_err {s : Bs} (h : fdsErr s = 0) : 1 ≤ s.length ∧ s.length ≤ 4 ∧ s.all fdB = true := by
  unfold fdsErr at h
  split at h
  · cases h
  · rename_i h1
    have h1 : inI 1 4 s.length = true := by simpa using h1
    simp only [inI, Bool.and_eq_true, decide_eq_true_eq] at h1
    split at h
    · rename_i h2
      exact ⟨by omega, by omega, h2⟩
    · cases h

/-- A way of making as a value. -/
abbrev mkwV (m : Mkw) : Value := .agg #[.int .i64 m.fmt, .int .i64 m.ppr, .int .i64 m.sheets, .bool m.half]
/-- The error of a way of making of a press. -/
def mkwErr (p : Prs) (m : Mkw) : Int :=
  if (inI 0 (p.fmts.length - 1) m.fmt && inI 0 (p.pprs.length - 1) m.ppr) = false then 4
  else if inI 1 p.sheets m.sheets = false then 7
  else if m.half = true ∧ (m.sheets ≠ 1 ∨ ∀ f, p.fmts[m.fmt.toNat]? = some f → f.folds.length = 1) then 2 else 0
end Go.Proofs.YtielaaaeecfkoaaGreatDoor

/- The error of a way of making of a press without one. -/
namespace Go.Proofs.YtielaaaeecfkoaaGreatDoor
set_option linter.unusedSimpArgs false
set_option linter.unusedVariables false
open Go Go.RowKit Go.Sort Go.BigFrame

/-- What a press without an error has. -/
theorem firstE_ok {α : Type} {nm : α → Bs} {err : List Bs → α → Int} : ∀ (xs : List α) (seen : List Bs) (k : Nat), (firstE nm err seen k xs).2 = 0 → ∀ x ∈ xs, ∃ seen, err seen x = 0
  | [], _, _, _, x, hx => by cases hx
  | y :: ys, seen, k, h, x, hx => by
    unfold firstE at h
    split at h
    · rename_i h0
      rcases List.mem_cons.1 hx with rfl | hx
      · exact ⟨_, h0⟩
      · exact firstE_ok ys _ _ h x hx
    · rename_i h0; exact absurd h h0
theorem fine_press {p : Prs} (h : errP p = 0) : (1 ≤ p.fmts.length ∧ p.fmts.length ≤ 6) ∧ (1 ≤ p.pprs.length ∧ p.pprs.length ≤ 4) ∧ (1 ≤ p.sheets ∧ p.sheets ≤ 4) ∧ ∀ f ∈ p.fmts, fdsErr f.folds = 0 := by
  unfold errP checkP at h
  split at h
  · rename_i h1; exact absurd h h1
  · rename_i h1
    split at h
    · rename_i h2; exact absurd h h2
    · rename_i h2
      split at h
      · cases h
      · rename_i h3
        have h1 : (fmtsErr p.fmts).2 = 0 := by simpa using h1
        have h2 : (pprsErr p.pprs).2 = 0 := by simpa using h2
        have h3 : (inI 0 60 p.trim && inI 1 4 p.sheets) = true := by simpa using h3
        unfold fmtsErr at h1
        unfold pprsErr at h2
        split at h1
        · cases h1
        · rename_i g1
          split at h2
          · cases h2
          · rename_i g2
            have g1 : inI 1 6 p.fmts.length = true := by simpa using g1
            have g2 : inI 1 4 p.pprs.length = true := by simpa using g2
            simp only [inI, Bool.and_eq_true, decide_eq_true_eq] at g1 g2 h3
            refine ⟨by omega, by omega, by omega, fun f hf => ?_⟩
            obtain ⟨seen, h4⟩ := firstE_ok _ _ _ h1 f hf
            unfold fmtErr at h4
            split at h4
            · exact h4
            · rename_i h5; exact absurd h4 h5

set_option maxRecDepth 100000 in
set_option maxHeartbeats 1000000 in
theorem makeError_any (p : Prs) (m : Mkw) (vp : Value) (w : World) (hp : PrsAt w.heap.size w vp p) (he : errP p = 0) :
    Calls Tryz.prog 79 #[vp, mkwV m] w fun e w' => e = .returned (.int .i64 (mkwErr p m)) ∧ Below w.heap.size w w' := by
  obtain ⟨⟨f1, f2⟩, ⟨f3, f4⟩, ⟨f5, f6⟩, hff⟩ := fine_press he
  obtain ⟨fv, pv, rfl, ⟨a, cap, rfl, hfc⟩, ⟨a2, cap2, rfl, -⟩, -⟩ := hp
  obtain ⟨n1, hn1⟩ : ∃ n, n = p.fmts.length := ⟨_, rfl⟩
  obtain ⟨n2, hn2⟩ : ∃ n, n = p.pprs.length := ⟨_, rfl⟩
  have hz0 : ∃ z, z = mkwErr p m := ⟨_, rfl⟩
  obtain ⟨z, hz⟩ := hz0
  rw [← hz]
  unfold mkwErr at hz
  rw [← hn1, ← hn2] at hz
  rw [← hn1] at f1 f2
  rw [← hn2] at f3 f4
  obtain ⟨fm, pp, sh, hf⟩ := m
  dsimp only at hz ⊢
  rw [← hn1, ← hn2]
  have HZ := Lib.hid hz
  have HN1 := Lib.hid hn1
  have HFC := Lib.hid hfc
  have HFF := Lib.hid hff
  clear hz hn1 hn2 hfc hff he
  go_enter Tryz.func79, Tryz.ntmps79
  go_wp2_with fail
  refine (within_one 0 (n1 - 1) fm _ _ (by simp [World.cell?_alloc_at])).mono ?_
  rintro e w2 ⟨rfl, hw⟩
  have hb : Below w.heap.size w w2 := by rw [← hw]; exact (by repeat (first | exact Below.refl _ _ | assumption | (refine Below.alloc ?_ ?_ _; rotate_left; · (first | omega | (simp; done) | (simp; omega) | fail)) | (refine Below.setCell ?_ ?_ _; rotate_left; · (first | omega | (simp; done) | (simp; omega) | fail)) | refine Below.drew ?_ | fail))
  have b1 : w2.heap[w.heap.size]? = some (.cells #[.slice a n1 cap, .slice a2 n2 cap2, .int .i64 p.trim, .int .i64 p.sheets] 85) := by rw [← hw]; exact (by repeat (first | exact heap_alloc_at _ _ _ (by (first | omega | (simp; done) | (simp; omega) | (simp at *; omega) | fail)) | assumption | rw [heap_alloc_past _ _ _ (by (first | omega | (simp; done) | (simp; omega) | (simp at *; omega) | fail))] | rw [heap_setCell_past _ _ _ _ (by (first | omega | (simp; done) | (simp; omega) | (simp at *; omega) | fail))] | fail))
  have b2 : w2.heap[w.heap.size + 1]? = some (.cells #[.int .i64 fm, .int .i64 pp, .int .i64 sh, .bool hf] 38) := by rw [← hw]; exact (by repeat (first | exact heap_alloc_at _ _ _ (by (first | omega | (simp; done) | (simp; omega) | (simp at *; omega) | fail)) | assumption | rw [heap_alloc_past _ _ _ (by (first | omega | (simp; done) | (simp; omega) | (simp at *; omega) | fail))] | rw [heap_setCell_past _ _ _ _ (by (first | omega | (simp; done) | (simp; omega) | (simp at *; omega) | fail))] | fail))
  have HB := Lib.hid hb
  clear hw hb
  have p0 := blk_cell b1 0
  have p1 := blk_cell b1 1
  have p2 := blk_cell b1 2
  have p3 := blk_cell b1 3
  have m0 := blk_cell b2 0
  have m1 := blk_cell b2 1
  have m2 := blk_cell b2 2
  have m3 := blk_cell b2 3
  cases h1 : inB 0 (n1 - 1) fm with
  | false =>
    have HF : Hid (z = 4) := Lib.hid (by rw [HZ.out, inI_inB, h1]; rfl)
    go_wp2_with fail
    go_ret
    exact ⟨by rw [(HF).out]; rfl, HB.out⟩
  | true =>
    obtain ⟨i, rfl⟩ : ∃ i : Nat, fm = i := ⟨fm.toNat, by simp only [inB, Bool.and_eq_true, decide_eq_true_eq] at h1; omega⟩
    have hi : i < n1 := by simp only [inB, Bool.and_eq_true, decide_eq_true_eq] at h1; omega
    have HZ2 : Hid (z = if inI 0 (n2 - 1) pp = false then 4 else if inI 1 p.sheets sh = false then 7 else if hf = true ∧ (sh ≠ 1 ∨ ∀ f, p.fmts[i]? = some f → f.folds.length = 1) then 2 else 0) := Lib.hid (by
      rw [HZ.out, inI_inB, h1]; simp)
    clear HZ h1
    go_wp2_with fail
    refine (within_one 0 (n2 - 1) pp _ _ (by simp [World.cell?_alloc_at])).mono ?_
    rintro e w3 ⟨rfl, hw⟩
    have hb : Below w2.heap.size w2 w3 := by rw [← hw]; exact (by repeat (first | exact Below.refl _ _ | assumption | (refine Below.alloc ?_ ?_ _; rotate_left; · (first | omega | (simp; done) | (simp; omega) | fail)) | (refine Below.setCell ?_ ?_ _; rotate_left; · (first | omega | (simp; done) | (simp; omega) | fail)) | refine Below.drew ?_ | fail))
    have b1 := blk_later hb b1
    have b2 := blk_later hb b2
    have HB := Lib.hid (HB.out.trans (hb.mono HB.out.size))
    clear hw hb p0 p1 p2 p3 m0 m1 m2 m3
    have p0 := blk_cell b1 0
    have p1 := blk_cell b1 1
    have p2 := blk_cell b1 2
    have p3 := blk_cell b1 3
    have m0 := blk_cell b2 0
    have m1 := blk_cell b2 1
    have m2 := blk_cell b2 2
    have m3 := blk_cell b2 3
    cases h2 : inB 0 (n2 - 1) pp with
    | false =>
      have HF : Hid (z = 4) := Lib.hid (by rw [HZ2.out, inI_inB, h2]; rfl)
      go_wp2_with fail
      go_ret
      exact ⟨by rw [(HF).out]; rfl, HB.out⟩
    | true =>
      have HZ3 : Hid (z = if inI 1 p.sheets sh = false then 7 else if hf = true ∧ (sh ≠ 1 ∨ ∀ f, p.fmts[i]? = some f → f.folds.length = 1) then 2 else 0) := Lib.hid (by
        rw [HZ2.out, inI_inB, h2]; simp)
      clear HZ2 h2
      go_wp2_with fail
      refine (within_one 1 p.sheets sh _ _ (by simp [World.cell?_alloc_at])).mono ?_
      rintro e w4 ⟨rfl, hw⟩
      have hb : Below w3.heap.size w3 w4 := by rw [← hw]; exact (by repeat (first | exact Below.refl _ _ | assumption | (refine Below.alloc ?_ ?_ _; rotate_left; · (first | omega | (simp; done) | (simp; omega) | fail)) | (refine Below.setCell ?_ ?_ _; rotate_left; · (first | omega | (simp; done) | (simp; omega) | fail)) | refine Below.drew ?_ | fail))
      have b1 := blk_later hb b1
      have b2 := blk_later hb b2
      have HB := Lib.hid (HB.out.trans (hb.mono HB.out.size))
      clear hw hb p0 p1 p2 p3 m0 m1 m2 m3
      have p0 := blk_cell b1 0
      have p1 := blk_cell b1 1
      have p2 := blk_cell b1 2
      have p3 := blk_cell b1 3
      have m0 := blk_cell b2 0
      have m1 := blk_cell b2 1
      have m2 := blk_cell b2 2
      have m3 := blk_cell b2 3
      cases h3 : inB 1 p.sheets sh with
      | false =>
        have HF : Hid (z = 7) := Lib.hid (by rw [HZ3.out, inI_inB, h3]; rfl)
        go_wp2_with fail
        go_ret
        exact ⟨by rw [(HF).out]; rfl, HB.out⟩
      | true =>
        have HZ4 : Hid (z = if hf = true ∧ (sh ≠ 1 ∨ ∀ f, p.fmts[i]? = some f → f.folds.length = 1) then 2 else 0) := Lib.hid (by
          rw [HZ3.out, inI_inB, h3]; simp)
        clear HZ3
        cases hf with
        | false =>
          have HF : Hid (z = 0) := Lib.hid (by rw [HZ4.out]; simp)
          go_wp2_with fail
          go_ret
          exact ⟨by rw [(HF).out]; rfl, HB.out⟩
        | true =>
          by_cases hs : sh = 1
          · subst hs
            obtain ⟨f, hfx⟩ : ∃ f, p.fmts[i]? = some f := ⟨_, List.getElem?_eq_getElem (by have := HN1.out; omega)⟩
            obtain ⟨b', off, rfl, hb', hc⟩ := HFC.out (fun h => by rw [h] at hfx; simp at hfx)
            have q1 : w4.cell? ⟨b', off + i * 2 + 1, none⟩ = some (S f.folds) := cell_later' HB.out (by have := hc i f hfx 1 _ rfl; simpa using this)
            have hl := fds_of_err (HFF.out f (List.mem_of_getElem? hfx))
            have HX := Lib.hid hfx
            have hzs : (⟨f.folds.toArray⟩ : ByteArray).size = f.folds.length := size_bytes f.folds
            obtain ⟨k, hk⟩ : ∃ k, k = f.folds.length := ⟨_, rfl⟩
            rw [← hk] at hl hzs
            have HK := Lib.hid hk
            clear hc hfx hk
            obtain ⟨hl1, hl2, -⟩ := hl
            by_cases h5 : k = 1
            · have HF : Hid (z = 2) := Lib.hid (by
                rw [HZ4.out, if_pos]
                exact ⟨rfl, Or.inr fun f' hf' => by rw [HX.out] at hf'; cases hf'; rw [← HK.out]; exact h5⟩)
              clear HZ4
              subst h5
              go_wp2_with fail
              go_ret
              exact ⟨by rw [(HF).out]; rfl, HB.out⟩
            · have HF : Hid (z = 0) := Lib.hid (by
                rw [HZ4.out, if_neg]
                rintro ⟨-, h | h⟩
                · exact h rfl
                · exact h5 (by rw [HK.out]; exact h f HX.out))
              have h5b : ((k : Int) == 1) = false := by simp; omega
              clear HZ4
              go_wp2_with fail
              go_ret
              exact ⟨by rw [(HF).out]; rfl, HB.out⟩
          · have HF : Hid (z = 2) := Lib.hid (by rw [HZ4.out, if_pos]; exact ⟨rfl, Or.inl hs⟩)
            have hsb : (sh != 1) = true := by simp [hs]
            clear HZ4 hs
            go_wp2_with fail
            go_ret
            exact ⟨by rw [(HF).out]; rfl, HB.out⟩
end Go.Proofs.YtielaaaeecfkoaaGreatDoor

/- The folds of which a way of making was made. -/
namespace Go.Proofs.YtielaaaeecfkoaaGreatDoor
set_option linter.unusedSimpArgs false
set_option linter.unusedVariables false
open Go Go.RowKit Go.Sort Go.BigFrame

theorem cut_bytes (s : Bs) (k : Nat) : (⟨s.toArray⟩ : ByteArray).extract k s.length = ⟨(s.drop k).toArray⟩ := by
  apply ByteArray.ext
  rw [ByteArray.data_extract]
  simp
  exact List.take_of_length_le (by simp)
/-- A way of making that is looked at, as a value. -/
abbrev wayC (m : Mkw) (s : Bs) (c r : Int) (q : Ppr) (tr : Int) (lv : Value) : Array Value :=
  #[.int .i64 m.fmt, .int .i64 m.ppr, .int .i64 m.sheets, .bool m.half, S s, .int .i64 c, .int .i64 r, S q.name, .int .i64 q.wlo, .int .i64 q.whi, .int .i64 q.hlo, .int .i64 q.hhi, .int .i64 tr, lv]
set_option maxRecDepth 100000 in
set_option maxHeartbeats 1000000 in
theorem foldsMade_any (m : Mkw) (s : Bs) (c r : Int) (q : Ppr) (tr : Int) (lv : Value) (w : World) (h1 : 1 ≤ s.length) (h2 : s.length ≤ 4) :
    Calls Tryz.prog 84 #[.agg (wayC m s c r q tr lv)] w fun e w' => e = .returned (S (if m.half then s.drop 1 else s)) ∧ Below w.heap.size w w' := by
  have hzs : (⟨s.toArray⟩ : ByteArray).size = s.length := size_bytes s
  cases hf : m.half with
  | false =>
    go_enter Tryz.func84, Tryz.ntmps84
    go_wp2_with fail
    go_ret
    exact ⟨rfl, (by repeat (first | exact Below.refl _ _ | assumption | (refine Below.alloc ?_ ?_ _; rotate_left; · (first | omega | (simp; done) | (simp; omega) | fail)) | (refine Below.setCell ?_ ?_ _; rotate_left; · (first | omega | (simp; done) | (simp; omega) | fail)) | refine Below.drew ?_ | fail))⟩
  | true =>
    go_enter Tryz.func84, Tryz.ntmps84
    go_wp2_with fail
    go_ret
    exact ⟨ret_S ((cut_bytes s 1).trans (by rw [List.drop_one])), (by repeat (first | exact Below.refl _ _ | assumption | (refine Below.alloc ?_ ?_ _; rotate_left; · (first | omega | (simp; done) | (simp; omega) | fail)) | (refine Below.setCell ?_ ?_ _; rotate_left; · (first | omega | (simp; done) | (simp; omega) | fail)) | refine Below.drew ?_ | fail))⟩
theorem foldsMade_is (m : Mkw) (s : Bs) (c r : Int) (q : Ppr) (tr : Int) (lv : Value) (x : Bs) (hx : x = if m.half then s.drop 1 else s) (w : World) (h1 : 1 ≤ s.length) (h2 : s.length ≤ 4) :
    Calls Tryz.prog 84 #[.agg (wayC m s c r q tr lv)] w fun e w' => e = .returned (S x) ∧ Below w.heap.size w w' := by
  subst hx; exact foldsMade_any m s c r q tr lv w h1 h2
theorem made_bytes {s : Bs} (h : s.all fdB = true) (b : Bool) : bytesF (madeF (fdsB s) b) = if b then s.drop 1 else s := by
  cases b with
  | false => exact bytes_back h
  | true =>
    show bytesF ((fdsB s).drop 1) = s.drop 1
    have := congrArg (List.drop 1) (bytes_back h)
    unfold bytesF at this ⊢
    rw [← List.map_drop] at this
    exact this
end Go.Proofs.YtielaaaeecfkoaaGreatDoor

/- A way of making that is looked at. -/
namespace Go.Proofs.YtielaaaeecfkoaaGreatDoor
set_option linter.unusedSimpArgs false
set_option linter.unusedVariables false
open Go Go.RowKit Go.Sort Go.BigFrame

set_option maxRecDepth 100000 in
set_option maxHeartbeats 4000000 in
theorem way_any (p : Prs) (m : Mkw) (vp : Value) (w : World) (hp : PrsAt w.heap.size w vp p) (he : errP p = 0) (hm : mkwErr p m = 0) :
    Calls Tryz.prog 80 #[vp, mkwV m] w fun e w' => (∃ f q lv g, p.fmts[m.fmt.toNat]? = some f ∧ p.pprs[m.ppr.toNat]? = some q ∧ e = .returned (.agg (wayC m f.folds (colsF (fdsB f.folds)) (rowsF (fdsB f.folds)) q p.trim lv)) ∧ LeavesAt w' lv (leavesF (fdsB f.folds) m.sheets.toNat m.half) g ∧ w.heap.size ≤ g) ∧ Below w.heap.size w w' := by
  obtain ⟨⟨f1, f2⟩, ⟨f3, f4⟩, ⟨f5, f6⟩, hff⟩ := fine_press he
  obtain ⟨fv, pv, rfl, ⟨a, cap, rfl, hfc⟩, ⟨a2, cap2, rfl, hqc⟩, -⟩ := hp
  obtain ⟨fm, pp, sh, hf⟩ := m
  unfold mkwErr at hm
  dsimp only at hm ⊢
  have hm1 : (inI 0 (p.fmts.length - 1) fm && inI 0 (p.pprs.length - 1) pp) = true := by
    cases h : (inI 0 (p.fmts.length - 1) fm && inI 0 (p.pprs.length - 1) pp) with
    | true => rfl
    | false => rw [if_pos h] at hm; cases hm
  rw [if_neg (by rw [hm1]; decide)] at hm
  have hm2 : inI 1 p.sheets sh = true := by
    cases h : inI 1 p.sheets sh with
    | true => rfl
    | false => rw [if_pos h] at hm; cases hm
  rw [if_neg (by rw [hm2]; decide)] at hm
  simp only [inI, Bool.and_eq_true, decide_eq_true_eq] at hm1 hm2
  obtain ⟨i, rfl⟩ : ∃ i : Nat, fm = i := ⟨fm.toNat, by omega⟩
  obtain ⟨j, rfl⟩ : ∃ j : Nat, pp = j := ⟨pp.toNat, by omega⟩
  obtain ⟨f, hfx⟩ : ∃ f, p.fmts[i]? = some f := ⟨_, List.getElem?_eq_getElem (by omega)⟩
  obtain ⟨q, hqx⟩ : ∃ q, p.pprs[j]? = some q := ⟨_, List.getElem?_eq_getElem (by omega)⟩
  obtain ⟨g1, o1, rfl, hg1, hc1⟩ := hfc (fun h => by rw [h] at hfx; simp at hfx)
  obtain ⟨g2, o2, rfl, hg2, hc2⟩ := hqc (fun h => by rw [h] at hqx; simp at hqx)
  have hfd := fds_of_err (hff f (List.mem_of_getElem? hfx))
  have hhalf : hf = true → sh = 1 ∧ 2 ≤ f.folds.length := fun h => by
    subst h
    by_cases h3 : sh = 1
    · refine ⟨h3, Nat.lt_of_not_le fun h4 => ?_⟩
      rw [if_pos ⟨rfl, Or.inr fun f' hf' => by rw [Int.toNat_natCast, hfx] at hf'; cases hf'; omega⟩] at hm
      cases hm
    · rw [if_pos ⟨rfl, Or.inl h3⟩] at hm; cases hm
  have k1 : w.cell? ⟨g1, o1 + i * 2 + 1, none⟩ = some (S f.folds) := by have := hc1 i f hfx 1 _ rfl; simpa using this
  have q0 : w.cell? ⟨g2, o2 + j * 5, none⟩ = some (S q.name) := by have := hc2 j q hqx 0 _ rfl; simpa using this
  have q1 : w.cell? ⟨g2, o2 + j * 5 + 1, none⟩ = some (.int .i64 q.wlo) := by have := hc2 j q hqx 1 _ rfl; simpa using this
  have q2 : w.cell? ⟨g2, o2 + j * 5 + 2, none⟩ = some (.int .i64 q.whi) := by have := hc2 j q hqx 2 _ rfl; simpa using this
  have q3 : w.cell? ⟨g2, o2 + j * 5 + 3, none⟩ = some (.int .i64 q.hlo) := by have := hc2 j q hqx 3 _ rfl; simpa using this
  have q4 : w.cell? ⟨g2, o2 + j * 5 + 4, none⟩ = some (.int .i64 q.hhi) := by have := hc2 j q hqx 4 _ rfl; simpa using this
  obtain ⟨n1, hn1⟩ : ∃ n, n = p.fmts.length := ⟨_, rfl⟩
  obtain ⟨n2, hn2⟩ : ∃ n, n = p.pprs.length := ⟨_, rfl⟩
  rw [← hn1] at hm1 f1 f2 ⊢
  rw [← hn2] at hm1 f3 f4 ⊢
  have hi : i < n1 := by omega
  have hj : j < n2 := by omega
  have hs4 : 1 ≤ sh ∧ sh ≤ 4 := by omega
  have HFX := Lib.hid hfx
  have HQX := Lib.hid hqx
  have HFD := Lib.hid hfd
  have HH := Lib.hid hhalf
  obtain ⟨mf, hmf⟩ : ∃ mf, mf = if hf then f.folds.drop 1 else f.folds := ⟨_, rfl⟩
  have HMF := Lib.hid hmf
  have hml : 1 ≤ (madeF (fdsB f.folds) hf).length ∧ (madeF (fdsB f.folds) hf).length ≤ 4 := by
    cases hf with
    | false => show 1 ≤ (fdsB f.folds).length ∧ (fdsB f.folds).length ≤ 4; unfold fdsB; rw [List.length_map]; omega
    | true => have := (hhalf rfl).2; show 1 ≤ ((fdsB f.folds).drop 1).length ∧ ((fdsB f.folds).drop 1).length ≤ 4; unfold fdsB; rw [List.length_drop, List.length_map]; omega
  have HFo : Hid (∀ W, Calls Tryz.prog 104 #[S mf] W fun en W' => ∃ v g, en = .returned v ∧ LeavesAt W' v (sheetF (madeF (fdsB f.folds) hf)) g ∧ W.heap.size ≤ g ∧ Below W.heap.size W W') := Lib.hid fun W => by
    have := folded_any hml.1 hml.2 W
    rwa [made_bytes hfd.2.2, ← hmf] at this
  have HGa : Hid (∀ (v0 : Value) (g : Nat) (W : World), LeavesAt W v0 (sheetF (madeF (fdsB f.folds) hf)) g → Calls Tryz.prog 103 #[v0, .int .i64 sh] W fun en W' => ∃ v g', en = .returned v ∧ LeavesAt W' v (gatherF (sheetF (madeF (fdsB f.folds) hf)) sh.toNat) g' ∧ W.heap.size ≤ g' ∧ Below W.heap.size W W') := Lib.hid fun v0 g W hl => gathered_any hml.1 hml.2 hs4 W hl
  clear hmf hml
  clear hn1 hn2 hm hm1 hm2 hfc hqc hc1 hc2 hff hfx hqx hfd hhalf he f5 f6
  go_enter Tryz.func80, Tryz.ntmps80
  go_wp2_with fail
  have hb0 : Below w.heap.size w (((w.alloc (.cells #[.slice (some ⟨g1, o1, none⟩) n1 cap, .slice (some ⟨g2, o2, none⟩) n2 cap2, .int .i64 p.trim, .int .i64 p.sheets] 85)).alloc (.cells #[.int .i64 i, .int .i64 j, .int .i64 sh, .bool hf] 38)).alloc (.cells #[.int .i64 0, .int .i64 0, .int .i64 0, .bool false, S [], .int .i64 0, .int .i64 0, S [], .int .i64 0, .int .i64 0, .int .i64 0, .int .i64 0, .int .i64 0, .slice none 0 0] 107)) := by exact (by repeat (first | exact Below.refl _ _ | assumption | (refine Below.alloc ?_ ?_ _; rotate_left; · (first | omega | (simp; done) | (simp; omega) | fail)) | (refine Below.setCell ?_ ?_ _; rotate_left; · (first | omega | (simp; done) | (simp; omega) | fail)) | refine Below.drew ?_ | fail))
  have b1 : (((w.alloc (.cells #[.slice (some ⟨g1, o1, none⟩) n1 cap, .slice (some ⟨g2, o2, none⟩) n2 cap2, .int .i64 p.trim, .int .i64 p.sheets] 85)).alloc (.cells #[.int .i64 i, .int .i64 j, .int .i64 sh, .bool hf] 38)).alloc (.cells #[.int .i64 0, .int .i64 0, .int .i64 0, .bool false, S [], .int .i64 0, .int .i64 0, S [], .int .i64 0, .int .i64 0, .int .i64 0, .int .i64 0, .int .i64 0, .slice none 0 0] 107)).heap[w.heap.size]? = some (.cells #[.slice (some ⟨g1, o1, none⟩) n1 cap, .slice (some ⟨g2, o2, none⟩) n2 cap2, .int .i64 p.trim, .int .i64 p.sheets] 85) := (by repeat (first | exact heap_alloc_at _ _ _ (by (first | omega | (simp; done) | (simp; omega) | (simp at *; omega) | fail)) | assumption | rw [heap_alloc_past _ _ _ (by (first | omega | (simp; done) | (simp; omega) | (simp at *; omega) | fail))] | rw [heap_setCell_past _ _ _ _ (by (first | omega | (simp; done) | (simp; omega) | (simp at *; omega) | fail))] | fail))
  have b2 : (((w.alloc (.cells #[.slice (some ⟨g1, o1, none⟩) n1 cap, .slice (some ⟨g2, o2, none⟩) n2 cap2, .int .i64 p.trim, .int .i64 p.sheets] 85)).alloc (.cells #[.int .i64 i, .int .i64 j, .int .i64 sh, .bool hf] 38)).alloc (.cells #[.int .i64 0, .int .i64 0, .int .i64 0, .bool false, S [], .int .i64 0, .int .i64 0, S [], .int .i64 0, .int .i64 0, .int .i64 0, .int .i64 0, .int .i64 0, .slice none 0 0] 107)).heap[w.heap.size + 1]? = some (.cells #[.int .i64 i, .int .i64 j, .int .i64 sh, .bool hf] 38) := (by repeat (first | exact heap_alloc_at _ _ _ (by (first | omega | (simp; done) | (simp; omega) | (simp at *; omega) | fail)) | assumption | rw [heap_alloc_past _ _ _ (by (first | omega | (simp; done) | (simp; omega) | (simp at *; omega) | fail))] | rw [heap_setCell_past _ _ _ _ (by (first | omega | (simp; done) | (simp; omega) | (simp at *; omega) | fail))] | fail))
  have b3 : (((w.alloc (.cells #[.slice (some ⟨g1, o1, none⟩) n1 cap, .slice (some ⟨g2, o2, none⟩) n2 cap2, .int .i64 p.trim, .int .i64 p.sheets] 85)).alloc (.cells #[.int .i64 i, .int .i64 j, .int .i64 sh, .bool hf] 38)).alloc (.cells #[.int .i64 0, .int .i64 0, .int .i64 0, .bool false, S [], .int .i64 0, .int .i64 0, S [], .int .i64 0, .int .i64 0, .int .i64 0, .int .i64 0, .int .i64 0, .slice none 0 0] 107)).heap[w.heap.size + 2]? = some (.cells #[.int .i64 0, .int .i64 0, .int .i64 0, .bool false, S [], .int .i64 0, .int .i64 0, S [], .int .i64 0, .int .i64 0, .int .i64 0, .int .i64 0, .int .i64 0, .slice none 0 0] 107) := (by repeat (first | exact heap_alloc_at _ _ _ (by (first | omega | (simp; done) | (simp; omega) | (simp at *; omega) | fail)) | assumption | rw [heap_alloc_past _ _ _ (by (first | omega | (simp; done) | (simp; omega) | (simp at *; omega) | fail))] | rw [heap_setCell_past _ _ _ _ (by (first | omega | (simp; done) | (simp; omega) | (simp at *; omega) | fail))] | fail))
  have k1 := cell_later' hb0 k1
  have q0 := cell_later' hb0 q0
  have q1 := cell_later' hb0 q1
  have q2 := cell_later' hb0 q2
  have q3 := cell_later' hb0 q3
  have q4 := cell_later' hb0 q4
  have p0 := blk_cell b1 0
  have p1 := blk_cell b1 1
  have p2 := blk_cell b1 2
  have m0 := blk_cell b2 0
  have m1 := blk_cell b2 1
  have m2 := blk_cell b2 2
  have m3 := blk_cell b2 3
  have hsz : (((w.alloc (.cells #[.slice (some ⟨g1, o1, none⟩) n1 cap, .slice (some ⟨g2, o2, none⟩) n2 cap2, .int .i64 p.trim, .int .i64 p.sheets] 85)).alloc (.cells #[.int .i64 i, .int .i64 j, .int .i64 sh, .bool hf] 38)).alloc (.cells #[.int .i64 0, .int .i64 0, .int .i64 0, .bool false, S [], .int .i64 0, .int .i64 0, S [], .int .i64 0, .int .i64 0, .int .i64 0, .int .i64 0, .int .i64 0, .slice none 0 0] 107)).heap.size = w.heap.size + 3 := by simp
  revert hb0 b1 b2 b3 k1 q0 q1 q2 q3 q4 p0 p1 p2 m0 m1 m2 m3 hsz
  generalize (((w.alloc (.cells #[.slice (some ⟨g1, o1, none⟩) n1 cap, .slice (some ⟨g2, o2, none⟩) n2 cap2, .int .i64 p.trim, .int .i64 p.sheets] 85)).alloc (.cells #[.int .i64 i, .int .i64 j, .int .i64 sh, .bool hf] 38)).alloc (.cells #[.int .i64 0, .int .i64 0, .int .i64 0, .bool false, S [], .int .i64 0, .int .i64 0, S [], .int .i64 0, .int .i64 0, .int .i64 0, .int .i64 0, .int .i64 0, .slice none 0 0] 107)) = w1
  intro hb0 b1 b2 b3 k1 q0 q1 q2 q3 q4 p0 p1 p2 m0 m1 m2 m3 hsz
  have hb0 := hb0.drew
  refine wp_region_held_drew (S := (fun u => u.cell? ⟨w.heap.size, 0, none⟩ = some (.slice (some ⟨g1, o1, none⟩) n1 cap) ∧ u.cell? ⟨w.heap.size, 1, none⟩ = some (.slice (some ⟨g2, o2, none⟩) n2 cap2) ∧ u.cell? ⟨w.heap.size, 2, none⟩ = some (.int .i64 p.trim) ∧ u.cell? ⟨w.heap.size + 1, 0, none⟩ = some (.int .i64 i) ∧ u.cell? ⟨w.heap.size + 1, 1, none⟩ = some (.int .i64 j) ∧ u.cell? ⟨w.heap.size + 1, 2, none⟩ = some (.int .i64 sh) ∧ u.cell? ⟨w.heap.size + 1, 3, none⟩ = some (.bool hf) ∧ u.cell? ⟨g1, o1 + i * 2 + 1, none⟩ = some (S f.folds) ∧ u.cell? ⟨g2, o2 + j * 5, none⟩ = some (S q.name) ∧ u.cell? ⟨g2, o2 + j * 5 + 1, none⟩ = some (.int .i64 q.wlo) ∧ u.cell? ⟨g2, o2 + j * 5 + 2, none⟩ = some (.int .i64 q.whi) ∧ u.cell? ⟨g2, o2 + j * 5 + 3, none⟩ = some (.int .i64 q.hlo) ∧ u.cell? ⟨g2, o2 + j * 5 + 4, none⟩ = some (.int .i64 q.hhi))) (by kernel_rfl) ?_ (fun hHeld => ?_)
  · exact ⟨p0, p1, p2, m0, m1, m2, m3, k1, q0, q1, q2, q3, q4⟩
  refine wpAnyH_take (i := 0) (v := ?_) rfl (by kernel_rfl) (by kernel_rfl) (by kernel_rfl) (fun _ _ _ h => h) (Or.inl ⟨by rfl, ?_⟩) (by assumption) ?_
  rotate_left
  · (intro w hSw; (try dsimp only at hSw); go_simp; (try with_reducible rfl))
  (try simp only [Act.put, List.setIfInBounds_toArray, List.set_cons_zero, List.set_cons_succ])
  refine wpAnyH_take (i := 1) (v := ?_) rfl (by kernel_rfl) (by kernel_rfl) (by kernel_rfl) (fun _ _ _ h => h) (Or.inl ⟨by rfl, ?_⟩) (by assumption) ?_
  rotate_left
  · (intro w hSw; (try dsimp only at hSw); go_simp; (try with_reducible rfl))
  (try simp only [Act.put, List.setIfInBounds_toArray, List.set_cons_zero, List.set_cons_succ])
  refine wpAnyH_take (i := 2) (v := ?_) rfl (by kernel_rfl) (by kernel_rfl) (by kernel_rfl) (fun _ _ _ h => h) (Or.inl ⟨by rfl, ?_⟩) (by assumption) ?_
  rotate_left
  · (intro w hSw; (try dsimp only at hSw); go_simp; (try with_reducible rfl))
  (try simp only [Act.put, List.setIfInBounds_toArray, List.set_cons_zero, List.set_cons_succ])
  refine wpAnyH_take (i := 3) (v := ?_) rfl (by kernel_rfl) (by kernel_rfl) (by kernel_rfl) (fun _ _ _ h => h) (Or.inl ⟨by rfl, ?_⟩) (by assumption) ?_
  rotate_left
  · (intro w hSw; (try dsimp only at hSw); go_simp; (try with_reducible rfl))
  (try simp only [Act.put, List.setIfInBounds_toArray, List.set_cons_zero, List.set_cons_succ])
  refine wpAnyH_take (i := 4) (v := ?_) rfl (by kernel_rfl) (by kernel_rfl) (by kernel_rfl) (fun _ _ _ h => h) (Or.inl ⟨by rfl, ?_⟩) (by assumption) ?_
  rotate_left
  · (intro w hSw; (try dsimp only at hSw); go_simp; (try with_reducible rfl))
  (try simp only [Act.put, List.setIfInBounds_toArray, List.set_cons_zero, List.set_cons_succ])
  refine wpAnyH_take (i := 5) (v := ?_) rfl (by kernel_rfl) (by kernel_rfl) (by kernel_rfl) (fun _ _ _ h => h) (Or.inl ⟨by rfl, ?_⟩) (by assumption) ?_
  rotate_left
  · (intro w hSw; (try dsimp only at hSw); go_simp; (try with_reducible rfl))
  (try simp only [Act.put, List.setIfInBounds_toArray, List.set_cons_zero, List.set_cons_succ])
  refine wpAnyH_take (i := 6) (v := ?_) rfl (by kernel_rfl) (by kernel_rfl) (by kernel_rfl) (fun _ _ _ h => h) (Or.inl ⟨by rfl, ?_⟩) (by assumption) ?_
  rotate_left
  · (intro w hSw; (try dsimp only at hSw); go_simp; (try with_reducible rfl))
  (try simp only [Act.put, List.setIfInBounds_toArray, List.set_cons_zero, List.set_cons_succ])
  refine wpAnyH_take (i := 7) (v := ?_) rfl (by kernel_rfl) (by kernel_rfl) (by kernel_rfl) (fun _ _ _ h => h) (Or.inl ⟨by rfl, ?_⟩) (by assumption) ?_
  rotate_left
  · (intro w hSw; (try dsimp only at hSw); go_simp; (try with_reducible rfl))
  (try simp only [Act.put, List.setIfInBounds_toArray, List.set_cons_zero, List.set_cons_succ])
  refine wpAnyH_take (i := 8) (v := ?_) rfl (by kernel_rfl) (by kernel_rfl) (by kernel_rfl) (fun _ _ _ h => h) (Or.inl ⟨by rfl, ?_⟩) (by assumption) ?_
  rotate_left
  · (intro w hSw; (try dsimp only at hSw); go_simp; (try with_reducible rfl))
  (try simp only [Act.put, List.setIfInBounds_toArray, List.set_cons_zero, List.set_cons_succ])
  refine wpAnyH_take (i := 9) (v := ?_) rfl (by kernel_rfl) (by kernel_rfl) (by kernel_rfl) (fun _ _ _ h => h) (Or.inl ⟨by rfl, ?_⟩) (by assumption) ?_
  rotate_left
  · (intro w hSw; (try dsimp only at hSw); go_simp; (try with_reducible rfl))
  (try simp only [Act.put, List.setIfInBounds_toArray, List.set_cons_zero, List.set_cons_succ])
  refine wpAnyH_take (i := 10) (v := ?_) rfl (by kernel_rfl) (by kernel_rfl) (by kernel_rfl) (fun _ _ _ h => h) (Or.inl ⟨by rfl, ?_⟩) (by assumption) ?_
  rotate_left
  · (intro w hSw; (try dsimp only at hSw); go_simp; (try with_reducible rfl))
  (try simp only [Act.put, List.setIfInBounds_toArray, List.set_cons_zero, List.set_cons_succ])
  refine wpAnyH_take (i := 11) (v := ?_) rfl (by kernel_rfl) (by kernel_rfl) (by kernel_rfl) (fun _ _ _ h => h) (Or.inl ⟨by rfl, ?_⟩) (by assumption) ?_
  rotate_left
  · (intro w hSw; (try dsimp only at hSw); go_simp; (try with_reducible rfl))
  (try simp only [Act.put, List.setIfInBounds_toArray, List.set_cons_zero, List.set_cons_succ])
  refine wpAnyH_take (i := 12) (v := ?_) rfl (by kernel_rfl) (by kernel_rfl) (by kernel_rfl) (fun _ _ _ h => h) (Or.inl ⟨by rfl, ?_⟩) (by assumption) ?_
  rotate_left
  · (intro w hSw; (try dsimp only at hSw); go_simp; (try with_reducible rfl))
  (try simp only [Act.put, List.setIfInBounds_toArray, List.set_cons_zero, List.set_cons_succ])
  refine wpAnyH_take (i := 13) (v := ?_) rfl (by kernel_rfl) (by kernel_rfl) (by kernel_rfl) (fun _ _ _ h => h) (Or.inl ⟨by rfl, ?_⟩) (by assumption) ?_
  rotate_left
  · (intro w hSw; (try dsimp only at hSw); go_simp; (try with_reducible rfl))
  (try simp only [Act.put, List.setIfInBounds_toArray, List.set_cons_zero, List.set_cons_succ])
  refine wpAnyH_take (i := 14) (v := ?_) rfl (by kernel_rfl) (by kernel_rfl) (by kernel_rfl) (fun _ _ _ h => h) (Or.inl ⟨by rfl, ?_⟩) (by assumption) ?_
  rotate_left
  · (intro w hSw; (try dsimp only at hSw); go_simp; (try with_reducible rfl))
  (try simp only [Act.put, List.setIfInBounds_toArray, List.set_cons_zero, List.set_cons_succ])
  refine wpAnyH_take (i := 15) (v := ?_) rfl (by kernel_rfl) (by kernel_rfl) (by kernel_rfl) (fun _ _ _ h => h) (Or.inl ⟨by rfl, ?_⟩) (by assumption) ?_
  rotate_left
  · (intro w hSw; (try dsimp only at hSw); go_simp; (try with_reducible rfl))
  (try simp only [Act.put, List.setIfInBounds_toArray, List.set_cons_zero, List.set_cons_succ])
  refine wpAnyH_take (i := 16) (v := ?_) rfl (by kernel_rfl) (by kernel_rfl) (by kernel_rfl) (fun _ _ _ h => h) (Or.inl ⟨by rfl, ?_⟩) (by assumption) ?_
  rotate_left
  · (intro w hSw; (try dsimp only at hSw); go_simp; (try with_reducible rfl))
  (try simp only [Act.put, List.setIfInBounds_toArray, List.set_cons_zero, List.set_cons_succ])
  refine wpAnyH_take (i := 17) (v := ?_) rfl (by kernel_rfl) (by kernel_rfl) (by kernel_rfl) (fun _ _ _ h => h) (Or.inl ⟨by rfl, ?_⟩) (by assumption) ?_
  rotate_left
  · (intro w hSw; (try dsimp only at hSw); go_simp; (try with_reducible rfl))
  (try simp only [Act.put, List.setIfInBounds_toArray, List.set_cons_zero, List.set_cons_succ])
  refine wpAnyH_take (i := 18) (v := ?_) rfl (by kernel_rfl) (by kernel_rfl) (by kernel_rfl) (fun _ _ _ h => h) (Or.inl ⟨by rfl, ?_⟩) (by assumption) ?_
  rotate_left
  · (intro w hSw; (try dsimp only at hSw); go_simp; (try with_reducible rfl))
  (try simp only [Act.put, List.setIfInBounds_toArray, List.set_cons_zero, List.set_cons_succ])
  refine wpAnyH_take (i := 19) (v := ?_) rfl (by kernel_rfl) (by kernel_rfl) (by kernel_rfl) (fun _ _ _ h => h) (Or.inl ⟨by rfl, ?_⟩) (by assumption) ?_
  rotate_left
  · (intro w hSw; (try dsimp only at hSw); go_simp; (try with_reducible rfl))
  (try simp only [Act.put, List.setIfInBounds_toArray, List.set_cons_zero, List.set_cons_succ])
  refine wpAnyH_ready (rs := [20]) (by kernel_rfl) (by simp) ?_
  refine AllReadyH.cons rfl (fun K hK => ?_) AllReadyH.nil
  go_simp
  have n1' : ¬ w.heap.size + 3 = g1 := by omega
  have n2' : ¬ w.heap.size + 3 = g2 := by omega
  refine hK.out _ _ ?_ (fun hNew => ?_)
  · (try dsimp only); go_keep
  clear hK K hHeld
  have hHeld := hNew
  clear hNew
  (try simp only [Act.put, List.setIfInBounds_toArray, List.set_cons_zero, List.set_cons_succ])
  refine wpAnyH_ready (rs := [21]) (by kernel_rfl) (by simp) ?_
  refine AllReadyH.cons rfl (fun K hK => ?_) AllReadyH.nil
  go_simp
  refine hK.out _ _ ?_ (fun hNew => ?_)
  · (try dsimp only); go_keep
  clear hK K hHeld
  have hHeld := hNew
  clear hNew
  (try simp only [Act.put, List.setIfInBounds_toArray, List.set_cons_zero, List.set_cons_succ])
  refine wpAnyH_done (by kernel_rfl) ?_ _
  clear hHeld p0 p1 p2 m0 m1 m2 m3 k1 q0 q1 q2 q3 q4 n1' n2'
  have hb1 : Below w.heap.size w ((w1.alloc (.cells #[.int .i64 i, .int .i64 j, .int .i64 sh, .bool hf, S f.folds, .int .i64 0, .int .i64 0, S q.name, .int .i64 q.wlo, .int .i64 q.whi, .int .i64 q.hlo, .int .i64 q.hhi, .int .i64 p.trim, .slice none 0 0] 107)).drew) := by exact ((show Below w.heap.size w w1 from ⟨hb0.os, hb0.tape, hb0.output, hb0.size, hb0.block⟩).alloc (by omega) _).drew
  have c5 : ((w1.alloc (.cells #[.int .i64 i, .int .i64 j, .int .i64 sh, .bool hf, S f.folds, .int .i64 0, .int .i64 0, S q.name, .int .i64 q.wlo, .int .i64 q.whi, .int .i64 q.hlo, .int .i64 q.hhi, .int .i64 p.trim, .slice none 0 0] 107)).drew).heap[w.heap.size + 3]? = some (.cells #[.int .i64 i, .int .i64 j, .int .i64 sh, .bool hf, S f.folds, .int .i64 0, .int .i64 0, S q.name, .int .i64 q.wlo, .int .i64 q.whi, .int .i64 q.hlo, .int .i64 q.hhi, .int .i64 p.trim, .slice none 0 0] 107) := heap_alloc_at _ _ _ hsz.symm
  have b2 : ((w1.alloc (.cells #[.int .i64 i, .int .i64 j, .int .i64 sh, .bool hf, S f.folds, .int .i64 0, .int .i64 0, S q.name, .int .i64 q.wlo, .int .i64 q.whi, .int .i64 q.hlo, .int .i64 q.hhi, .int .i64 p.trim, .slice none 0 0] 107)).drew).heap[w.heap.size + 1]? = some (.cells #[.int .i64 i, .int .i64 j, .int .i64 sh, .bool hf] 38) := (heap_alloc_past w1 _ _ (by omega)).trans b2
  have b3 : ((w1.alloc (.cells #[.int .i64 i, .int .i64 j, .int .i64 sh, .bool hf, S f.folds, .int .i64 0, .int .i64 0, S q.name, .int .i64 q.wlo, .int .i64 q.whi, .int .i64 q.hlo, .int .i64 q.hhi, .int .i64 p.trim, .slice none 0 0] 107)).drew).heap[w.heap.size + 2]? = some (.cells #[.int .i64 0, .int .i64 0, .int .i64 0, .bool false, S [], .int .i64 0, .int .i64 0, S [], .int .i64 0, .int .i64 0, .int .i64 0, .int .i64 0, .int .i64 0, .slice none 0 0] 107) := (heap_alloc_past w1 _ _ (by omega)).trans b3
  revert hb1 c5 b2 b3
  generalize ((w1.alloc (.cells #[.int .i64 i, .int .i64 j, .int .i64 sh, .bool hf, S f.folds, .int .i64 0, .int .i64 0, S q.name, .int .i64 q.wlo, .int .i64 q.whi, .int .i64 q.hlo, .int .i64 q.hhi, .int .i64 p.trim, .slice none 0 0] 107)).drew) = w2
  intro hb1 c5 b2 b3
  clear hb0 b1 hsz
  obtain ⟨l1, l2, l3⟩ := HFD.out
  have hG : ∀ W, Calls Tryz.prog 83 #[S f.folds] W fun en W' => en = .returned (.tuple #[.int .i64 (colsF (fdsB f.folds)), .int .i64 (rowsF (fdsB f.folds))]) ∧ Below W.heap.size W W' := fun W => by
    have := grid_any (f := fdsB f.folds) (by unfold fdsB; simpa using l1) (by unfold fdsB; simpa using l2) W
    rwa [bytes_back l3] at this
  have d4 := blk_cell c5 4
  go_wp2_with fail
  refine (hG _).mono ?_
  rintro e w3 ⟨rfl, hb⟩
  have c5 := blk_later hb c5
  have b2 := blk_later hb b2
  have b3 := blk_later hb b3
  have hb3 := hb1.trans (hb.mono hb1.size)
  obtain ⟨co, hco⟩ : ∃ co, co = (colsF (fdsB f.folds) : Int) := ⟨_, rfl⟩
  obtain ⟨ro, hro⟩ : ∃ ro, ro = (rowsF (fdsB f.folds) : Int) := ⟨_, rfl⟩
  rw [← hco, ← hro]
  have HCO := Lib.hid hco
  have HRO := Lib.hid hro
  clear hco hro hb hb1 hG d4
  have d5 := blk_cell c5 5
  have d6 := blk_cell c5 6
  have z5 := blk_free c5 5
  have z6 := blk_free c5 6
  go_wp2_with fail
  have hz3 := hb3.size
  have hlt3 := blk_lt c5
  have hb4 : Below w.heap.size w ((w3.setCell ⟨w.heap.size + 3, 5, none⟩ (.int .i64 co)).setCell ⟨w.heap.size + 3, 6, none⟩ (.int .i64 ro)) := by exact (by repeat (first | (refine Below.setCell ?_ ?_ _; rotate_left; · (first | omega | (simp; done) | (simp; omega) | fail)) | (refine Below.alloc ?_ ?_ _; rotate_left; · (first | omega | (simp; done) | (simp; omega) | fail)) | refine Below.drew ?_ | exact hb3 | fail))
  have c5 : ((w3.setCell ⟨w.heap.size + 3, 5, none⟩ (.int .i64 co)).setCell ⟨w.heap.size + 3, 6, none⟩ (.int .i64 ro)).heap[w.heap.size + 3]? = some (.cells #[.int .i64 i, .int .i64 j, .int .i64 sh, .bool hf, S f.folds, .int .i64 co, .int .i64 ro, S q.name, .int .i64 q.wlo, .int .i64 q.whi, .int .i64 q.hlo, .int .i64 q.hhi, .int .i64 p.trim, .slice none 0 0] 107) := by
    simpa using blk_set (blk_set c5 5 (.int .i64 co)) 6 (.int .i64 ro)
  have b2 : ((w3.setCell ⟨w.heap.size + 3, 5, none⟩ (.int .i64 co)).setCell ⟨w.heap.size + 3, 6, none⟩ (.int .i64 ro)).heap[w.heap.size + 1]? = some (.cells #[.int .i64 i, .int .i64 j, .int .i64 sh, .bool hf] 38) := by
    rw [heap_setCell_past _ _ _ _ (by simp), heap_setCell_past _ _ _ _ (by simp)]; exact b2
  have b3 : ((w3.setCell ⟨w.heap.size + 3, 5, none⟩ (.int .i64 co)).setCell ⟨w.heap.size + 3, 6, none⟩ (.int .i64 ro)).heap[w.heap.size + 2]? = some (.cells #[.int .i64 0, .int .i64 0, .int .i64 0, .bool false, S [], .int .i64 0, .int .i64 0, S [], .int .i64 0, .int .i64 0, .int .i64 0, .int .i64 0, .int .i64 0, .slice none 0 0] 107) := by
    rw [heap_setCell_past _ _ _ _ (by simp), heap_setCell_past _ _ _ _ (by simp)]; exact b3
  revert hb4 c5 b2 b3
  generalize ((w3.setCell ⟨w.heap.size + 3, 5, none⟩ (.int .i64 co)).setCell ⟨w.heap.size + 3, 6, none⟩ (.int .i64 ro)) = w4
  intro hb4 c5 b2 b3
  clear hb3 d5 d6 z5 z6 hz3 hlt3
  have hb4 := hb4.drew
  have d0 := blk_cell c5 0
  have d1 := blk_cell c5 1
  have d2 := blk_cell c5 2
  have d3 := blk_cell c5 3
  have d4 := blk_cell c5 4
  have d5 := blk_cell c5 5
  have d6 := blk_cell c5 6
  have d7 := blk_cell c5 7
  have d8 := blk_cell c5 8
  have d9 := blk_cell c5 9
  have d10 := blk_cell c5 10
  have d11 := blk_cell c5 11
  have d12 := blk_cell c5 12
  have d13 := blk_cell c5 13
  have m2 := blk_cell b2 2
  have z13 := blk_free c5 13
  refine wp_region_held_drew (S := fun u => u.cell? ⟨w.heap.size + 1, 2, none⟩ = some (.int .i64 sh)) (by kernel_rfl) ?_ (fun hHeld => ?_)
  · exact m2
  refine wpAnyH_take (i := 3) (v := ?_) rfl (by kernel_rfl) (by kernel_rfl) (by kernel_rfl) (fun _ _ _ h => h) (Or.inl ⟨by rfl, ?_⟩) (by assumption) ?_
  rotate_left
  · (intro w hSw; (try dsimp only at hSw); go_simp; (try with_reducible rfl))
  (try simp only [Act.put, List.setIfInBounds_toArray, List.set_cons_zero, List.set_cons_succ])
  refine wpAnyH_take (i := 4) (v := ?_) rfl (by kernel_rfl) (by kernel_rfl) (by kernel_rfl) (fun _ _ _ h => h) (Or.inl ⟨by rfl, ?_⟩) (by assumption) ?_
  rotate_left
  · (intro w hSw; (try dsimp only at hSw); go_simp; (try with_reducible rfl))
  (try simp only [Act.put, List.setIfInBounds_toArray, List.set_cons_zero, List.set_cons_succ])
  have d0 : w4.drew.cell? ⟨w.heap.size + 3, 0, none⟩ = some (.int .i64 i) := d0
  have d1 : w4.drew.cell? ⟨w.heap.size + 3, 1, none⟩ = some (.int .i64 j) := d1
  have d2 : w4.drew.cell? ⟨w.heap.size + 3, 2, none⟩ = some (.int .i64 sh) := d2
  have d3 : w4.drew.cell? ⟨w.heap.size + 3, 3, none⟩ = some (.bool hf) := d3
  have d4 : w4.drew.cell? ⟨w.heap.size + 3, 4, none⟩ = some (S f.folds) := d4
  have d5 : w4.drew.cell? ⟨w.heap.size + 3, 5, none⟩ = some (.int .i64 co) := d5
  have d6 : w4.drew.cell? ⟨w.heap.size + 3, 6, none⟩ = some (.int .i64 ro) := d6
  have d7 : w4.drew.cell? ⟨w.heap.size + 3, 7, none⟩ = some (S q.name) := d7
  have d8 : w4.drew.cell? ⟨w.heap.size + 3, 8, none⟩ = some (.int .i64 q.wlo) := d8
  have d9 : w4.drew.cell? ⟨w.heap.size + 3, 9, none⟩ = some (.int .i64 q.whi) := d9
  have d10 : w4.drew.cell? ⟨w.heap.size + 3, 10, none⟩ = some (.int .i64 q.hlo) := d10
  have d11 : w4.drew.cell? ⟨w.heap.size + 3, 11, none⟩ = some (.int .i64 q.hhi) := d11
  have d12 : w4.drew.cell? ⟨w.heap.size + 3, 12, none⟩ = some (.int .i64 p.trim) := d12
  have d13 : w4.drew.cell? ⟨w.heap.size + 3, 13, none⟩ = some (.slice none 0 0) := d13
  refine wpAnyH_ready (rs := [0]) (by kernel_rfl) (by simp) ?_
  refine AllReadyH.cons rfl (fun K hK => ?_) AllReadyH.nil
  go_simp
  refine hK.out _ _ ?_ (fun hNew => ?_)
  · (try dsimp only); go_keep
  clear hK K hHeld
  have hHeld := hNew
  clear hNew
  (try simp only [Act.put, List.setIfInBounds_toArray, List.set_cons_zero, List.set_cons_succ])
  refine wpAnyH_ready (rs := [1]) (by kernel_rfl) (by simp) ?_
  refine AllReadyH.cons rfl (fun K hK => ?_) AllReadyH.nil
  go_simp
  refine (foldsMade_is ⟨i, j, sh, hf⟩ f.folds co ro q p.trim (.slice none 0 0) mf HMF.out _ l1 l2).mono ?_
  rintro e w5 ⟨rfl, hb⟩
  have c5 := blk_later hb c5
  have b3 := blk_later hb b3
  have m2 := cell_later' hb m2
  have hb5 := hb4.trans (hb.mono hb4.size)
  clear hb d0 d1 d2 d3 d4 d5 d6 d7 d8 d9 d10 d11 d12 d13 z13
  have d0 := blk_cell c5 0
  have d1 := blk_cell c5 1
  have d2 := blk_cell c5 2
  have d3 := blk_cell c5 3
  have d4 := blk_cell c5 4
  have d5 := blk_cell c5 5
  have d6 := blk_cell c5 6
  have d7 := blk_cell c5 7
  have d8 := blk_cell c5 8
  have d9 := blk_cell c5 9
  have d10 := blk_cell c5 10
  have d11 := blk_cell c5 11
  have d12 := blk_cell c5 12
  have d13 := blk_cell c5 13
  have z13 := blk_free c5 13
  go_simp
  refine hK.out _ _ ?_ (fun hNew => ?_)
  · (try dsimp only); go_keep
  clear hK K hHeld
  have hHeld := hNew
  clear hNew
  (try simp only [Act.put, List.setIfInBounds_toArray, List.set_cons_zero, List.set_cons_succ])
  refine wpAnyH_ready (rs := [2]) (by kernel_rfl) (by simp) ?_
  refine AllReadyH.cons rfl (fun K hK => ?_) AllReadyH.nil
  go_simp
  refine (HFo.out _).mono ?_
  rintro e w6 ⟨v6, g6, rfl, hl6, hg6, hb⟩
  have c5 := blk_later hb c5
  have b3 := blk_later hb b3
  have m2 := cell_later' hb m2
  have hb6 := hb5.trans (hb.mono hb5.size)
  clear hb d0 d1 d2 d3 d4 d5 d6 d7 d8 d9 d10 d11 d12 d13 z13
  have d0 := blk_cell c5 0
  have d1 := blk_cell c5 1
  have d2 := blk_cell c5 2
  have d3 := blk_cell c5 3
  have d4 := blk_cell c5 4
  have d5 := blk_cell c5 5
  have d6 := blk_cell c5 6
  have d7 := blk_cell c5 7
  have d8 := blk_cell c5 8
  have d9 := blk_cell c5 9
  have d10 := blk_cell c5 10
  have d11 := blk_cell c5 11
  have d12 := blk_cell c5 12
  have d13 := blk_cell c5 13
  have z13 := blk_free c5 13
  have hs6 := blk_lt c5
  have HL6 := Lib.hid hl6
  obtain ⟨k6, rest6, rfl, -⟩ := hl6
  obtain ⟨n6, hn6⟩ : ∃ n, n = (sheetF (madeF (fdsB f.folds) hf)).length := ⟨_, rfl⟩
  rw [← hn6] at HL6 ⊢
  clear hn6
  go_simp
  refine hK.out _ _ ?_ (fun hNew => ?_)
  · (try dsimp only); go_keep
  clear hK K hHeld
  have hHeld := hNew
  clear hNew
  (try simp only [Act.put, List.setIfInBounds_toArray, List.set_cons_zero, List.set_cons_succ])
  refine wpAnyH_ready (rs := [5]) (by kernel_rfl) (by simp) ?_
  refine AllReadyH.cons rfl (fun K hK => ?_) AllReadyH.nil
  go_simp
  refine (HGa.out _ g6 _ HL6.out).mono ?_
  rintro e w7 ⟨v7, g7, rfl, hl7, hg7, hb⟩
  have c5 := blk_later hb c5
  have b3 := blk_later hb b3
  have m2 := cell_later' hb m2
  have hb7 := hb6.trans (hb.mono hb6.size)
  clear hb d0 d1 d2 d3 d4 d5 d6 d7 d8 d9 d10 d11 d12 d13 z13
  have d0 := blk_cell c5 0
  have d1 := blk_cell c5 1
  have d2 := blk_cell c5 2
  have d3 := blk_cell c5 3
  have d4 := blk_cell c5 4
  have d5 := blk_cell c5 5
  have d6 := blk_cell c5 6
  have d7 := blk_cell c5 7
  have d8 := blk_cell c5 8
  have d9 := blk_cell c5 9
  have d10 := blk_cell c5 10
  have d11 := blk_cell c5 11
  have d12 := blk_cell c5 12
  have d13 := blk_cell c5 13
  have z13 := blk_free c5 13
  have HL7 := Lib.hid hl7
  obtain ⟨k7, rest7, rfl, -⟩ := hl7
  obtain ⟨n7, hn7⟩ : ∃ n, n = (gatherF (sheetF (madeF (fdsB f.folds) hf)) sh.toNat).length := ⟨_, rfl⟩
  rw [← hn7] at HL7 ⊢
  have HG7 : Hid (w.heap.size + 4 ≤ g7) := Lib.hid (by omega)
  clear hn7
  go_simp
  refine hK.out _ _ ?_ (fun hNew => ?_)
  · (try dsimp only); go_keep
  clear hK K hHeld
  have hHeld := hNew
  clear hNew
  (try simp only [Act.put, List.setIfInBounds_toArray, List.set_cons_zero, List.set_cons_succ])
  refine wpAnyH_take (i := 6) (v := ?_) rfl (by kernel_rfl) (by kernel_rfl) (by kernel_rfl) (fun _ _ _ h => h) (Or.inl ⟨by rfl, ?_⟩) (by assumption) ?_
  rotate_left
  · (intro w hSw; (try dsimp only at hSw); go_simp; (try with_reducible rfl))
  (try simp only [Act.put, List.setIfInBounds_toArray, List.set_cons_zero, List.set_cons_succ])
  refine wpAnyH_ready (rs := [7]) (by kernel_rfl) (by simp) ?_
  refine AllReadyH.cons rfl (fun K hK => ?_) AllReadyH.nil
  go_simp
  refine hK.out _ _ ?_ (fun hNew => ?_)
  · (try dsimp only); go_keep
  clear hK K hHeld
  have hHeld := hNew
  clear hNew
  (try simp only [Act.put, List.setIfInBounds_toArray, List.set_cons_zero, List.set_cons_succ])
  refine wpAnyH_done (by kernel_rfl) ?_ _
  have hz7 := hb7.size
  have hlt7 := blk_lt c5
  have hb8 : Below w.heap.size w (w7.setCell ⟨w.heap.size + 3, 13, none⟩ (.slice (some ⟨g7, 0, none⟩) n7 (n7 + k7))) := by exact (by repeat (first | (refine Below.setCell ?_ ?_ _; rotate_left; · (first | omega | (simp; done) | (simp; omega) | fail)) | (refine Below.alloc ?_ ?_ _; rotate_left; · (first | omega | (simp; done) | (simp; omega) | fail)) | refine Below.drew ?_ | exact hb7 | fail))
  have c8 : (w7.setCell ⟨w.heap.size + 3, 13, none⟩ (.slice (some ⟨g7, 0, none⟩) n7 (n7 + k7))).heap[w.heap.size + 3]? = some (.cells #[.int .i64 i, .int .i64 j, .int .i64 sh, .bool hf, S f.folds, .int .i64 co, .int .i64 ro, S q.name, .int .i64 q.wlo, .int .i64 q.whi, .int .i64 q.hlo, .int .i64 q.hhi, .int .i64 p.trim, .slice (some ⟨g7, 0, none⟩) n7 (n7 + k7)] 107) := by
    simpa using blk_set c5 13 (.slice (some ⟨g7, 0, none⟩) n7 (n7 + k7))
  have b8 : (w7.setCell ⟨w.heap.size + 3, 13, none⟩ (.slice (some ⟨g7, 0, none⟩) n7 (n7 + k7))).heap[w.heap.size + 2]? = some (.cells #[.int .i64 0, .int .i64 0, .int .i64 0, .bool false, S [], .int .i64 0, .int .i64 0, S [], .int .i64 0, .int .i64 0, .int .i64 0, .int .i64 0, .int .i64 0, .slice none 0 0] 107) := by
    rw [heap_setCell_past _ _ _ _ (by simp)]; exact b3
  have HL8 : Hid (LeavesAt (w7.setCell ⟨w.heap.size + 3, 13, none⟩ (.slice (some ⟨g7, 0, none⟩) n7 (n7 + k7))) (.slice (some ⟨g7, 0, none⟩) n7 (n7 + k7)) (gatherF (sheetF (madeF (fdsB f.folds) hf)) sh.toNat) g7) := Lib.hid (by
    obtain ⟨k, rest, h1, h2, h3⟩ := HL7.out
    exact ⟨k, rest, h1, by rw [heap_setCell_past _ _ _ _ (by have := HG7.out; simp; omega)]; exact h2, h3⟩)
  clear hHeld hb7 c5 b3 HL7 HL6 hz7 hlt7 m2 z13 hs6 HFo HGa
  clear d0 d1 d2 d3 d4 d5 d6 d7 d8 d9 d10 d11 d12 d13
  revert hb8 c8 b8 HL8
  generalize (w7.setCell ⟨w.heap.size + 3, 13, none⟩ (.slice (some ⟨g7, 0, none⟩) n7 (n7 + k7))) = w8
  intro hb8 c8 b8 HL8
  have d0 := blk_cell c8 0
  have d1 := blk_cell c8 1
  have d2 := blk_cell c8 2
  have d3 := blk_cell c8 3
  have d4 := blk_cell c8 4
  have d5 := blk_cell c8 5
  have d6 := blk_cell c8 6
  have d7 := blk_cell c8 7
  have d8 := blk_cell c8 8
  have d9 := blk_cell c8 9
  have d10 := blk_cell c8 10
  have d11 := blk_cell c8 11
  have d12 := blk_cell c8 12
  have d13 := blk_cell c8 13
  have e0 := blk_cell b8 0
  have e1 := blk_cell b8 1
  have e2 := blk_cell b8 2
  have e3 := blk_cell b8 3
  have e4 := blk_cell b8 4
  have e5 := blk_cell b8 5
  have e6 := blk_cell b8 6
  have e7 := blk_cell b8 7
  have e8 := blk_cell b8 8
  have e9 := blk_cell b8 9
  have e10 := blk_cell b8 10
  have e11 := blk_cell b8 11
  have e12 := blk_cell b8 12
  have e13 := blk_cell b8 13
  have z0 := blk_free b8 0
  have z1 := blk_free b8 1
  have z2 := blk_free b8 2
  have z3 := blk_free b8 3
  have z4 := blk_free b8 4
  have z5 := blk_free b8 5
  have z6 := blk_free b8 6
  have z7 := blk_free b8 7
  have z8 := blk_free b8 8
  have z9 := blk_free b8 9
  have z10 := blk_free b8 10
  have z11 := blk_free b8 11
  have z12 := blk_free b8 12
  have z13 := blk_free b8 13
  go_wp2_with fail
  have hz8 := hb8.size
  have b9 : ((((((((((((((w8.setCell ⟨w.heap.size + 1 + 1, 0, none⟩ (.int .i64 i)).setCell ⟨w.heap.size + 1 + 1, 1, none⟩ (.int .i64 j)).setCell ⟨w.heap.size + 1 + 1, 2, none⟩ (.int .i64 sh)).setCell ⟨w.heap.size + 1 + 1, 3, none⟩ (.bool hf)).setCell ⟨w.heap.size + 1 + 1, 4, none⟩ (S f.folds)).setCell ⟨w.heap.size + 1 + 1, 5, none⟩ (.int .i64 co)).setCell ⟨w.heap.size + 1 + 1, 6, none⟩ (.int .i64 ro)).setCell ⟨w.heap.size + 1 + 1, 7, none⟩ (S q.name)).setCell ⟨w.heap.size + 1 + 1, 8, none⟩ (.int .i64 q.wlo)).setCell ⟨w.heap.size + 1 + 1, 9, none⟩ (.int .i64 q.whi)).setCell ⟨w.heap.size + 1 + 1, 10, none⟩ (.int .i64 q.hlo)).setCell ⟨w.heap.size + 1 + 1, 11, none⟩ (.int .i64 q.hhi)).setCell ⟨w.heap.size + 1 + 1, 12, none⟩ (.int .i64 p.trim)).setCell ⟨w.heap.size + 1 + 1, 13, none⟩ (.slice (some ⟨g7, 0, none⟩) n7 (n7 + k7))).heap[w.heap.size + 1 + 1]? = some (.cells #[.int .i64 i, .int .i64 j, .int .i64 sh, .bool hf, S f.folds, .int .i64 co, .int .i64 ro, S q.name, .int .i64 q.wlo, .int .i64 q.whi, .int .i64 q.hlo, .int .i64 q.hhi, .int .i64 p.trim, .slice (some ⟨g7, 0, none⟩) n7 (n7 + k7)] 107) := by
    simpa using (blk_set (blk_set (blk_set (blk_set (blk_set (blk_set (blk_set (blk_set (blk_set (blk_set (blk_set (blk_set (blk_set (blk_set b8 0 (.int .i64 i)) 1 (.int .i64 j)) 2 (.int .i64 sh)) 3 (.bool hf)) 4 (S f.folds)) 5 (.int .i64 co)) 6 (.int .i64 ro)) 7 (S q.name)) 8 (.int .i64 q.wlo)) 9 (.int .i64 q.whi)) 10 (.int .i64 q.hlo)) 11 (.int .i64 q.hhi)) 12 (.int .i64 p.trim)) 13 (.slice (some ⟨g7, 0, none⟩) n7 (n7 + k7)))
  have hb9 : Below w.heap.size w ((((((((((((((w8.setCell ⟨w.heap.size + 1 + 1, 0, none⟩ (.int .i64 i)).setCell ⟨w.heap.size + 1 + 1, 1, none⟩ (.int .i64 j)).setCell ⟨w.heap.size + 1 + 1, 2, none⟩ (.int .i64 sh)).setCell ⟨w.heap.size + 1 + 1, 3, none⟩ (.bool hf)).setCell ⟨w.heap.size + 1 + 1, 4, none⟩ (S f.folds)).setCell ⟨w.heap.size + 1 + 1, 5, none⟩ (.int .i64 co)).setCell ⟨w.heap.size + 1 + 1, 6, none⟩ (.int .i64 ro)).setCell ⟨w.heap.size + 1 + 1, 7, none⟩ (S q.name)).setCell ⟨w.heap.size + 1 + 1, 8, none⟩ (.int .i64 q.wlo)).setCell ⟨w.heap.size + 1 + 1, 9, none⟩ (.int .i64 q.whi)).setCell ⟨w.heap.size + 1 + 1, 10, none⟩ (.int .i64 q.hlo)).setCell ⟨w.heap.size + 1 + 1, 11, none⟩ (.int .i64 q.hhi)).setCell ⟨w.heap.size + 1 + 1, 12, none⟩ (.int .i64 p.trim)).setCell ⟨w.heap.size + 1 + 1, 13, none⟩ (.slice (some ⟨g7, 0, none⟩) n7 (n7 + k7))) := by exact (by repeat (first | (refine Below.setCell ?_ ?_ _; rotate_left; · (first | omega | (simp; done) | (simp; omega) | fail)) | (refine Below.alloc ?_ ?_ _; rotate_left; · (first | omega | (simp; done) | (simp; omega) | fail)) | refine Below.drew ?_ | exact hb8 | fail))
  have HL9 : LeavesAt ((((((((((((((w8.setCell ⟨w.heap.size + 1 + 1, 0, none⟩ (.int .i64 i)).setCell ⟨w.heap.size + 1 + 1, 1, none⟩ (.int .i64 j)).setCell ⟨w.heap.size + 1 + 1, 2, none⟩ (.int .i64 sh)).setCell ⟨w.heap.size + 1 + 1, 3, none⟩ (.bool hf)).setCell ⟨w.heap.size + 1 + 1, 4, none⟩ (S f.folds)).setCell ⟨w.heap.size + 1 + 1, 5, none⟩ (.int .i64 co)).setCell ⟨w.heap.size + 1 + 1, 6, none⟩ (.int .i64 ro)).setCell ⟨w.heap.size + 1 + 1, 7, none⟩ (S q.name)).setCell ⟨w.heap.size + 1 + 1, 8, none⟩ (.int .i64 q.wlo)).setCell ⟨w.heap.size + 1 + 1, 9, none⟩ (.int .i64 q.whi)).setCell ⟨w.heap.size + 1 + 1, 10, none⟩ (.int .i64 q.hlo)).setCell ⟨w.heap.size + 1 + 1, 11, none⟩ (.int .i64 q.hhi)).setCell ⟨w.heap.size + 1 + 1, 12, none⟩ (.int .i64 p.trim)).setCell ⟨w.heap.size + 1 + 1, 13, none⟩ (.slice (some ⟨g7, 0, none⟩) n7 (n7 + k7))) (.slice (some ⟨g7, 0, none⟩) n7 (n7 + k7)) (gatherF (sheetF (madeF (fdsB f.folds) hf)) sh.toNat) g7 := by
    obtain ⟨k, rest, h1, h2, h3⟩ := HL8.out
    have hg := HG7.out
    exact ⟨k, rest, h1, by rw [heap_setCell_past _ _ _ _ (by simp; omega), heap_setCell_past _ _ _ _ (by simp; omega), heap_setCell_past _ _ _ _ (by simp; omega), heap_setCell_past _ _ _ _ (by simp; omega), heap_setCell_past _ _ _ _ (by simp; omega), heap_setCell_past _ _ _ _ (by simp; omega), heap_setCell_past _ _ _ _ (by simp; omega), heap_setCell_past _ _ _ _ (by simp; omega), heap_setCell_past _ _ _ _ (by simp; omega), heap_setCell_past _ _ _ _ (by simp; omega), heap_setCell_past _ _ _ _ (by simp; omega), heap_setCell_past _ _ _ _ (by simp; omega), heap_setCell_past _ _ _ _ (by simp; omega), heap_setCell_past _ _ _ _ (by simp; omega)]; exact h2, h3⟩
  have y0 := blk_cell b9 0
  have y1 := blk_cell b9 1
  have y2 := blk_cell b9 2
  have y3 := blk_cell b9 3
  have y4 := blk_cell b9 4
  have y5 := blk_cell b9 5
  have y6 := blk_cell b9 6
  have y7 := blk_cell b9 7
  have y8 := blk_cell b9 8
  have y9 := blk_cell b9 9
  have y10 := blk_cell b9 10
  have y11 := blk_cell b9 11
  have y12 := blk_cell b9 12
  have y13 := blk_cell b9 13
  exact bodyPost_ret (v := .agg #[.int .i64 i, .int .i64 j, .int .i64 sh, .bool hf, S f.folds, .int .i64 co, .int .i64 ro, S q.name, .int .i64 q.wlo, .int .i64 q.whi, .int .i64 q.hlo, .int .i64 q.hhi, .int .i64 p.trim, .slice (some ⟨g7, 0, none⟩) n7 (n7 + k7)]) (by simp [results, Tryz.results80, go_sem, y0, y1, y2, y3, y4, y5, y6, y7, y8, y9, y10, y11, y12, y13]) rfl ⟨⟨f, q, _, g7, by rw [Int.toNat_natCast]; exact HFX.out, by rw [Int.toNat_natCast]; exact HQX.out, by rw [HCO.out, HRO.out], HL9, by have := HG7.out; omega⟩, hb9⟩
end Go.Proofs.YtielaaaeecfkoaaGreatDoor
