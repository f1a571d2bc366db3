/- The parts Ik, Il, Im, In, Io, Ap, Ip of the proof, joined. It holds without conditions of its own. -/
import Derived.Test.YthnifhejmoggmaaGreatDoorFC5
import Derived.Deep.RegionHeld3
import Derived.OwnWalkIn
import Derived.RangeFuncBox
import Derived.Test.YthnifhejmoggmaaGreatDoorFC4
import Derived.OwnWalk
/- The first one of a list with an error: formats, papers, marks. -/
namespace Go.Proofs.YthnifhejmoggmaaGreatDoor
set_option linter.unusedSimpArgs false
set_option linter.unusedVariables false
open Go Go.RowKit Go.Sort Go.BigFrame

set_option maxRecDepth 100000 in
set_option maxHeartbeats 1000000 in
theorem firstF_any (xs : List Fmt) (v : Value) (n i g m b B : Nat) (w : World) (hv : RowsAt 2 fmtV B w v xs) (hk : KeepsAt w n i g m b []) (hB : B ≤ b) (hl : xs.length ≤ 100) (hsm : ∀ x ∈ xs, smallS x.name ∧ smallS x.folds) :
    Calls Tryz.prog 62 #[v, .func (.func 65) #[] #[.pointer (some ⟨n, 0, none⟩)]] w fun e w' => e = .returned (.tuple #[.int .i64 ((firstE Fmt.name fmtErr [] 0 xs).1 : Nat), .int .i64 (firstE Fmt.name fmtErr [] 0 xs).2]) ∧ OnlyIn (· = b) w w' := by
  obtain ⟨a, cap, rfl, hc⟩ := hv
  by_cases hne : xs = []
  · subst hne
    have HF : Hid (firstE Fmt.name fmtErr [] 0 ([] : List Fmt) = (0, 0)) := Lib.hid rfl
    clear hc hsm
    dsimp only [List.length_nil] at hl ⊢
    go_enter Tryz.func62, Tryz.ntmps62
    go_wp2_with fail
    refine wp_loop_rounds 1 ?_
    rw [rounds_succ]
    go_wp2_with fail
    go_ret2
    exact ⟨by rw [HF.out]; rfl, OnlyIn.refl _ _⟩
  obtain ⟨b', off, rfl, hb', hcell⟩ := hc hne
  have HC := Lib.hid hcell
  have HK := Lib.hid hk
  have HS := Lib.hid hsm
  have hbw := hk.names.map.lt
  obtain ⟨N, hN⟩ : ∃ N, N = xs.length := ⟨_, rfl⟩
  rw [← hN] at hl ⊢
  have HN := Lib.hid hN
  clear hcell hk hsm hN hc hne
  obtain ⟨z1, hz1⟩ : ∃ z1, z1 = (firstE Fmt.name fmtErr [] 0 xs) := ⟨_, rfl⟩
  rw [← hz1]
  have HZ := Lib.hid hz1
  clear hz1
  go_enter Tryz.func62, Tryz.ntmps62
  go_wp2_with fail
  go_loopw [11] (fun q wr => ∃ (k : Nat) (seen : List Bs), k ≤ N ∧ q = .int .i64 k ∧ OnlyIn (· = b) w wr ∧ Hid (KeepsAt wr n i g m b seen) ∧ Hid (z1 = firstE Fmt.name fmtErr seen k (xs.drop k))) (fun q _ => N - (intOf q).toNat)
  case atStart => exact ⟨0, [], by omega, rfl, OnlyIn.refl _ _, HK, HZ⟩
  case round =>
    obtain ⟨k, seen, hk, rfl, ho, hEr, hh⟩ := hrel
    have hzr := ho.size
    by_cases hlt : k < N
    · obtain ⟨x, hx⟩ : ∃ x, xs[k]? = some x := ⟨_, List.getElem?_eq_getElem (by have := HN.out; omega)⟩
      have q0 : wr.cell? ⟨b', off + k * 2, none⟩ = some (S x.name) := (only_cell ho (by omega) (by omega)).trans (by have := HC.out k x hx 0 _ rfl; simpa using this)
      have q1 : wr.cell? ⟨b', off + k * 2 + 1, none⟩ = some (S x.folds) := (only_cell ho (by omega) (by omega)).trans (by have := HC.out k x hx 1 _ rfl; simpa using this)
      have HG := Lib.hid hx
      have hba : Below wr.heap.size wr (wr.alloc (Obj.cells #[S x.name, S x.folds] 62)) := (Below.refl _ _).alloc (Nat.le_refl _) _
      have HE2 := Lib.hid (hEr.out.below hba)
      have hC := fmt1_any k x n i g m b seen _ HE2.out.cell HE2.out.names (HS.out x (List.mem_of_getElem? hx))
      have HCc := Lib.hid hC
      have HO := Lib.hid (ho.trans (OnlyIn.of_below hba))
      clear hC hba hx
      go_wp2_with fail
      refine HCc.out.mono ?_
      rintro e w1 ⟨rfl, ho1, hE1⟩
      have ho2 := HO.out.trans ho1
      obtain ⟨er, her⟩ : ∃ er, er = fmtErr seen x := ⟨_, rfl⟩
      rw [← her] at hE1 ⊢
      have HE1 : Hid (er = 0 → KeepsAt w1 n i g m b (seen ++ [Fmt.name x])) := Lib.hid fun h => HE2.out.next ho1 (hE1 h)
      have HR := Lib.hid her
      clear her hE1 q0 q1 ho hEr HO HCc ho1 HE2
      by_cases h0 : er = 0
      · have HE3 := Lib.hid (HE1.out h0)
        have HH : Hid (z1 = firstE Fmt.name fmtErr (seen ++ [Fmt.name x]) (k + 1) (xs.drop (k + 1))) := Lib.hid (hh.out.trans (firstE_step HG.out (HR.out.symm.trans h0)))
        clear HE1 HR hh
        subst h0
        go_wp2_with fail
        go_roundw
        case rel => exact ⟨k + 1, _, by omega, by go_num, ho2, HE3, HH⟩
        case measure => simp [intOf]; omega
      · have h0b : (er != 0) = true := by simp [h0]
        have HF : Hid (z1 = (k, er)) := Lib.hid (by
          have := hh.out.trans (firstE_stop HG.out (fun h => h0 (HR.out.trans h)))
          rw [← HR.out] at this; exact this)
        clear h0 HR hh HE1
        go_wp2_with fail
        go_ret2
        exact ⟨by rw [HF.out]; rfl, ho2⟩
    · have HF : Hid (z1 = (0, 0)) := Lib.hid (hh.out.trans (firstE_end (by have := HN.out; omega)))
      go_wp2_with fail
      go_ret2
      exact ⟨by rw [HF.out]; rfl, ho⟩

set_option maxRecDepth 100000 in
set_option maxHeartbeats 1000000 in
theorem firstP_any (xs : List Ppr) (v : Value) (n i g m b B : Nat) (w : World) (hv : RowsAt 5 pprV B w v xs) (hk : KeepsAt w n i g m b []) (hB : B ≤ b) (hl : xs.length ≤ 100) (hsm : ∀ x ∈ xs, smallS x.name) :
    Calls Tryz.prog 67 #[v, .func (.func 68) #[] #[.pointer (some ⟨n, 0, none⟩)]] w fun e w' => e = .returned (.tuple #[.int .i64 ((firstE Ppr.name pprErr [] 0 xs).1 : Nat), .int .i64 (firstE Ppr.name pprErr [] 0 xs).2]) ∧ OnlyIn (· = b) w w' := by
  obtain ⟨a, cap, rfl, hc⟩ := hv
  by_cases hne : xs = []
  · subst hne
    have HF : Hid (firstE Ppr.name pprErr [] 0 ([] : List Ppr) = (0, 0)) := Lib.hid rfl
    clear hc hsm
    dsimp only [List.length_nil] at hl ⊢
    go_enter Tryz.func67, Tryz.ntmps67
    go_wp2_with fail
    refine wp_loop_rounds 1 ?_
    rw [rounds_succ]
    go_wp2_with fail
    go_ret2
    exact ⟨by rw [HF.out]; rfl, OnlyIn.refl _ _⟩
  obtain ⟨b', off, rfl, hb', hcell⟩ := hc hne
  have HC := Lib.hid hcell
  have HK := Lib.hid hk
  have HS := Lib.hid hsm
  have hbw := hk.names.map.lt
  obtain ⟨N, hN⟩ : ∃ N, N = xs.length := ⟨_, rfl⟩
  rw [← hN] at hl ⊢
  have HN := Lib.hid hN
  clear hcell hk hsm hN hc hne
  obtain ⟨z1, hz1⟩ : ∃ z1, z1 = (firstE Ppr.name pprErr [] 0 xs) := ⟨_, rfl⟩
  rw [← hz1]
  have HZ := Lib.hid hz1
  clear hz1
  go_enter Tryz.func67, Tryz.ntmps67
  go_wp2_with fail
  go_loopw [11] (fun q wr => ∃ (k : Nat) (seen : List Bs), k ≤ N ∧ q = .int .i64 k ∧ OnlyIn (· = b) w wr ∧ Hid (KeepsAt wr n i g m b seen) ∧ Hid (z1 = firstE Ppr.name pprErr seen k (xs.drop k))) (fun q _ => N - (intOf q).toNat)
  case atStart => exact ⟨0, [], by omega, rfl, OnlyIn.refl _ _, HK, HZ⟩
  case round =>
    obtain ⟨k, seen, hk, rfl, ho, hEr, hh⟩ := hrel
    have hzr := ho.size
    by_cases hlt : k < N
    · obtain ⟨x, hx⟩ : ∃ x, xs[k]? = some x := ⟨_, List.getElem?_eq_getElem (by have := HN.out; omega)⟩
      have q0 : wr.cell? ⟨b', off + k * 5, none⟩ = some (S x.name) := (only_cell ho (by omega) (by omega)).trans (by have := HC.out k x hx 0 _ rfl; simpa using this)
      have q1 : wr.cell? ⟨b', off + k * 5 + 1, none⟩ = some (.int .i64 x.wlo) := (only_cell ho (by omega) (by omega)).trans (by have := HC.out k x hx 1 _ rfl; simpa using this)
      have q2 : wr.cell? ⟨b', off + k * 5 + 2, none⟩ = some (.int .i64 x.whi) := (only_cell ho (by omega) (by omega)).trans (by have := HC.out k x hx 2 _ rfl; simpa using this)
      have q3 : wr.cell? ⟨b', off + k * 5 + 3, none⟩ = some (.int .i64 x.hlo) := (only_cell ho (by omega) (by omega)).trans (by have := HC.out k x hx 3 _ rfl; simpa using this)
      have q4 : wr.cell? ⟨b', off + k * 5 + 4, none⟩ = some (.int .i64 x.hhi) := (only_cell ho (by omega) (by omega)).trans (by have := HC.out k x hx 4 _ rfl; simpa using this)
      have HG := Lib.hid hx
      have hba : Below wr.heap.size wr (wr.alloc (Obj.cells #[S x.name, .int .i64 x.wlo, .int .i64 x.whi, .int .i64 x.hlo, .int .i64 x.hhi] 75)) := (Below.refl _ _).alloc (Nat.le_refl _) _
      have HE2 := Lib.hid (hEr.out.below hba)
      have hC := ppr1_any k x n i g m b seen _ HE2.out.cell HE2.out.names (HS.out x (List.mem_of_getElem? hx))
      have HCc := Lib.hid hC
      have HO := Lib.hid (ho.trans (OnlyIn.of_below hba))
      clear hC hba hx
      go_wp2_with fail
      refine HCc.out.mono ?_
      rintro e w1 ⟨rfl, ho1, hE1⟩
      have ho2 := HO.out.trans ho1
      obtain ⟨er, her⟩ : ∃ er, er = pprErr seen x := ⟨_, rfl⟩
      rw [← her] at hE1 ⊢
      have HE1 : Hid (er = 0 → KeepsAt w1 n i g m b (seen ++ [Ppr.name x])) := Lib.hid fun h => HE2.out.next ho1 (hE1 h)
      have HR := Lib.hid her
      clear her hE1 q0 q1 q2 q3 q4 ho hEr HO HCc ho1 HE2
      by_cases h0 : er = 0
      · have HE3 := Lib.hid (HE1.out h0)
        have HH : Hid (z1 = firstE Ppr.name pprErr (seen ++ [Ppr.name x]) (k + 1) (xs.drop (k + 1))) := Lib.hid (hh.out.trans (firstE_step HG.out (HR.out.symm.trans h0)))
        clear HE1 HR hh
        subst h0
        go_wp2_with fail
        go_roundw
        case rel => exact ⟨k + 1, _, by omega, by go_num, ho2, HE3, HH⟩
        case measure => simp [intOf]; omega
      · have h0b : (er != 0) = true := by simp [h0]
        have HF : Hid (z1 = (k, er)) := Lib.hid (by
          have := hh.out.trans (firstE_stop HG.out (fun h => h0 (HR.out.trans h)))
          rw [← HR.out] at this; exact this)
        clear h0 HR hh HE1
        go_wp2_with fail
        go_ret2
        exact ⟨by rw [HF.out]; rfl, ho2⟩
    · have HF : Hid (z1 = (0, 0)) := Lib.hid (hh.out.trans (firstE_end (by have := HN.out; omega)))
      go_wp2_with fail
      go_ret2
      exact ⟨by rw [HF.out]; rfl, ho⟩
end Go.Proofs.YthnifhejmoggmaaGreatDoor

/- Lists: too short, too long, or the first one with an error. -/
namespace Go.Proofs.YthnifhejmoggmaaGreatDoor
set_option linter.unusedSimpArgs false
set_option linter.unusedVariables false
open Go Go.RowKit Go.Sort Go.BigFrame

def listR {α : Type} (lo hi : Int) (nm : α → Bs) (err : List Bs → α → Int) (xs : List α) : Nat × Int := if inI lo hi xs.length = false then (0, 3) else firstE nm err [] 0 xs
theorem fmts_is (xs : List Fmt) : fmtsErr xs = listR 1 6 Fmt.name fmtErr xs := rfl
theorem pprs_is (xs : List Ppr) : pprsErr xs = listR 1 4 Ppr.name pprErr xs := rfl

set_option maxHeartbeats 1000000 in
theorem listF_any (lo hi : Int) (xs : List Fmt) (v : Value) (n i g m b B : Nat) (w : World) (hv : RowsAt 2 fmtV B w v xs) (hk : KeepsAt w n i g m b []) (hB : B ≤ b) (hh : hi ≤ 100) (hsm : ∀ x ∈ xs, smallS x.name ∧ smallS x.folds) :
    Calls Tryz.prog 28 #[.int .i64 lo, .int .i64 hi, v, .func (.func 65) #[] #[.pointer (some ⟨n, 0, none⟩)]] w fun e w' => e = .returned (.tuple #[.int .i64 ((listR lo hi Fmt.name fmtErr xs).1 : Nat), .int .i64 (listR lo hi Fmt.name fmtErr xs).2]) ∧ OnlyIn (· = b) w w' := by
  have HV := Lib.hid hv
  have HK := Lib.hid hk
  have HS := Lib.hid hsm
  have hBw : B ≤ w.heap.size := by have := hk.names.map.lt; omega
  obtain ⟨a, cap, rfl, -⟩ := hv
  clear hk hsm
  obtain ⟨N, hN⟩ : ∃ N, N = xs.length := ⟨_, rfl⟩
  rw [← hN] at HV ⊢
  obtain ⟨z1, hz1⟩ : ∃ z1, z1 = listR lo hi Fmt.name fmtErr xs := ⟨_, rfl⟩
  rw [← hz1]
  cases hi0 : inB lo hi N with
  | false =>
    have HF : Hid (z1 = (0, 3)) := Lib.hid (by rw [hz1]; unfold listR; rw [← hN, if_pos (by rw [inI_inB]; exact hi0)])
    clear hz1 hN
    go_enter Tryz.func28, Tryz.ntmps28
    go_wp2_with fail
    refine (within_one lo hi N _ _ (by simp [World.cell?_alloc_at])).mono ?_
    rintro e w1 ⟨rfl, hw⟩
    have hb1 : Below w.heap.size w w1 := by rw [← hw]; exact (by repeat (first | exact Below.refl _ _ | assumption | (refine Below.alloc ?_ ?_ _; rotate_left; · (first | omega | (simp; done) | (simp; omega) | fail)) | (refine Below.setCell ?_ ?_ _; rotate_left; · (first | omega | (simp; done) | (simp; omega) | fail)) | refine Below.drew ?_ | fail))
    clear hw
    rw [hi0]
    go_wp2_with fail
    go_ret2
    exact ⟨by rw [HF.out]; rfl, OnlyIn.of_below hb1⟩
  | true =>
    have hl : xs.length ≤ 100 := by
      simp only [inB, Bool.and_eq_true, decide_eq_true_eq] at hi0; omega
    have HF : Hid (z1 = firstE Fmt.name fmtErr [] 0 xs) := Lib.hid (by rw [hz1]; unfold listR; rw [← hN, if_neg (by rw [inI_inB, hi0]; decide)])
    have HN := Lib.hid hN
    have HL := Lib.hid hl
    clear hz1 hN hl
    go_enter Tryz.func28, Tryz.ntmps28
    go_wp2_with fail
    refine (within_one lo hi N _ _ (by simp [World.cell?_alloc_at])).mono ?_
    rintro e w1 ⟨rfl, hw⟩
    have hb1 : Below w.heap.size w w1 := by rw [← hw]; exact (by repeat (first | exact Below.refl _ _ | assumption | (refine Below.alloc ?_ ?_ _; rotate_left; · (first | omega | (simp; done) | (simp; omega) | fail)) | (refine Below.setCell ?_ ?_ _; rotate_left; · (first | omega | (simp; done) | (simp; omega) | fail)) | refine Below.drew ?_ | fail))
    clear hw
    rw [hi0]
    have HB := Lib.hid hb1
    clear hb1 hi0
    go_wp2_with fail
    refine (firstF_any xs _ n i g m b B _ (by have h := HV.out; rw [HN.out] at h ⊢; exact h.same fun k hk => HB.out.block k (by omega)) (HK.out.below HB.out) hB HL.out HS.out).mono ?_
    rintro e w2 ⟨rfl, ho⟩
    rw [← HF.out]
    have HO : Hid (OnlyIn (· = b) w w2) := Lib.hid ((OnlyIn.of_below HB.out).trans ho)
    clear ho HF HB HV HK
    obtain ⟨x, y⟩ := z1
    go_wp2_with fail
    go_ret2
    exact ⟨rfl, HO.out⟩

set_option maxHeartbeats 1000000 in
theorem listP_any (lo hi : Int) (xs : List Ppr) (v : Value) (n i g m b B : Nat) (w : World) (hv : RowsAt 5 pprV B w v xs) (hk : KeepsAt w n i g m b []) (hB : B ≤ b) (hh : hi ≤ 100) (hsm : ∀ x ∈ xs, smallS x.name) :
    Calls Tryz.prog 30 #[.int .i64 lo, .int .i64 hi, v, .func (.func 68) #[] #[.pointer (some ⟨n, 0, none⟩)]] w fun e w' => e = .returned (.tuple #[.int .i64 ((listR lo hi Ppr.name pprErr xs).1 : Nat), .int .i64 (listR lo hi Ppr.name pprErr xs).2]) ∧ OnlyIn (· = b) w w' := by
  have HV := Lib.hid hv
  have HK := Lib.hid hk
  have HS := Lib.hid hsm
  have hBw : B ≤ w.heap.size := by have := hk.names.map.lt; omega
  obtain ⟨a, cap, rfl, -⟩ := hv
  clear hk hsm
  obtain ⟨N, hN⟩ : ∃ N, N = xs.length := ⟨_, rfl⟩
  rw [← hN] at HV ⊢
  obtain ⟨z1, hz1⟩ : ∃ z1, z1 = listR lo hi Ppr.name pprErr xs := ⟨_, rfl⟩
  rw [← hz1]
  cases hi0 : inB lo hi N with
  | false =>
    have HF : Hid (z1 = (0, 3)) := Lib.hid (by rw [hz1]; unfold listR; rw [← hN, if_pos (by rw [inI_inB]; exact hi0)])
    clear hz1 hN
    go_enter Tryz.func30, Tryz.ntmps30
    go_wp2_with fail
    refine (within_one lo hi N _ _ (by simp [World.cell?_alloc_at])).mono ?_
    rintro e w1 ⟨rfl, hw⟩
    have hb1 : Below w.heap.size w w1 := by rw [← hw]; exact (by repeat (first | exact Below.refl _ _ | assumption | (refine Below.alloc ?_ ?_ _; rotate_left; · (first | omega | (simp; done) | (simp; omega) | fail)) | (refine Below.setCell ?_ ?_ _; rotate_left; · (first | omega | (simp; done) | (simp; omega) | fail)) | refine Below.drew ?_ | fail))
    clear hw
    rw [hi0]
    go_wp2_with fail
    go_ret2
    exact ⟨by rw [HF.out]; rfl, OnlyIn.of_below hb1⟩
  | true =>
    have hl : xs.length ≤ 100 := by
      simp only [inB, Bool.and_eq_true, decide_eq_true_eq] at hi0; omega
    have HF : Hid (z1 = firstE Ppr.name pprErr [] 0 xs) := Lib.hid (by rw [hz1]; unfold listR; rw [← hN, if_neg (by rw [inI_inB, hi0]; decide)])
    have HN := Lib.hid hN
    have HL := Lib.hid hl
    clear hz1 hN hl
    go_enter Tryz.func30, Tryz.ntmps30
    go_wp2_with fail
    refine (within_one lo hi N _ _ (by simp [World.cell?_alloc_at])).mono ?_
    rintro e w1 ⟨rfl, hw⟩
    have hb1 : Below w.heap.size w w1 := by rw [← hw]; exact (by repeat (first | exact Below.refl _ _ | assumption | (refine Below.alloc ?_ ?_ _; rotate_left; · (first | omega | (simp; done) | (simp; omega) | fail)) | (refine Below.setCell ?_ ?_ _; rotate_left; · (first | omega | (simp; done) | (simp; omega) | fail)) | refine Below.drew ?_ | fail))
    clear hw
    rw [hi0]
    have HB := Lib.hid hb1
    clear hb1 hi0
    go_wp2_with fail
    refine (firstP_any xs _ n i g m b B _ (by have h := HV.out; rw [HN.out] at h ⊢; exact h.same fun k hk => HB.out.block k (by omega)) (HK.out.below HB.out) hB HL.out HS.out).mono ?_
    rintro e w2 ⟨rfl, ho⟩
    rw [← HF.out]
    have HO : Hid (OnlyIn (· = b) w w2) := Lib.hid ((OnlyIn.of_below HB.out).trans ho)
    clear ho HF HB HV HK
    obtain ⟨x, y⟩ := z1
    go_wp2_with fail
    go_ret2
    exact ⟨rfl, HO.out⟩
end Go.Proofs.YthnifhejmoggmaaGreatDoor

/- Check of a press. -/
namespace Go.Proofs.YthnifhejmoggmaaGreatDoor
set_option linter.unusedSimpArgs false
set_option linter.unusedVariables false
open Go Go.RowKit Go.Sort Go.BigFrame

theorem PrsAt.cells {w : World} {v : Value} {p : Prs} (h : PrsAt w.heap.size w v p) : ∃ fv pv, v = .agg #[fv, pv, .int .i64 p.trim, .int .i64 p.sheets] := by
  obtain ⟨fv, pv, h, -⟩ := h
  exact ⟨fv, pv, h⟩

set_option maxRecDepth 100000 in
set_option maxHeartbeats 1000000 in
theorem foldCheck_any (p : Prs) (v : Value) (w : World) (hp : PrsAt w.heap.size w v p) :
    Calls Tryz.prog 9 #[v] w fun e w' => e = .returned (.tuple #[.int .i64 ((checkP p).1 : Nat), .int .i64 ((checkP p).2.1 : Nat), .int .i64 (checkP p).2.2]) ∧ Below w.heap.size w w' := by
  obtain ⟨fv, pv, rfl, hf, hq, hs1, hs2⟩ := hp
  have HF := Lib.hid hf
  have HQ := Lib.hid hq
  have HS1 := Lib.hid hs1
  have HS2 := Lib.hid hs2
  clear hf hq hs1 hs2
  obtain ⟨⟨r1, r2, r3⟩, hr⟩ : ∃ r, r = checkP p := ⟨_, rfl⟩
  rw [← hr]
  obtain ⟨⟨x1, x2⟩, hx⟩ : ∃ x, x = fmtsErr p.fmts := ⟨_, rfl⟩
  obtain ⟨⟨y1, y2⟩, hy⟩ : ∃ y, y = pprsErr p.pprs := ⟨_, rfl⟩
  have HR : Hid ((r1, r2, r3) = if x2 ≠ 0 then (1, x1, x2) else if y2 ≠ 0 then (2, y1, y2) else if (inI 0 60 p.trim && inI 1 4 p.sheets) = false then (3, 0, 7) else (0, 0, 0)) := Lib.hid (by
    rw [hr]; unfold checkP; rw [← hx, ← hy])
  have HX1 : Hid ((x1, x2) = listR 1 6 Fmt.name fmtErr p.fmts) := Lib.hid hx
  have HY1 : Hid ((y1, y2) = listR 1 4 Ppr.name pprErr p.pprs) := Lib.hid hy
  clear hr hx hy
  dsimp only
  go_enter Tryz.func9, Tryz.ntmps9
  go_wp2_with fail
  have hb0 : Below w.heap.size w (w.alloc (.cells #[fv, pv, .int .i64 p.trim, .int .i64 p.sheets] 25)) := (Below.refl _ _).alloc (Nat.le_refl _) _
  have hz0 : w.heap.size + 1 ≤ (w.alloc (.cells #[fv, pv, .int .i64 p.trim, .int .i64 p.sheets] 25)).heap.size := by simp
  have c0 : (w.alloc (.cells #[fv, pv, .int .i64 p.trim, .int .i64 p.sheets] 25)).cell? ⟨w.heap.size, 0, none⟩ = some fv := by simp [World.cell?_alloc_at]
  have c1 : (w.alloc (.cells #[fv, pv, .int .i64 p.trim, .int .i64 p.sheets] 25)).cell? ⟨w.heap.size, 1, none⟩ = some pv := by simp [World.cell?_alloc_at]
  have c2 : (w.alloc (.cells #[fv, pv, .int .i64 p.trim, .int .i64 p.sheets] 25)).cell? ⟨w.heap.size, 2, none⟩ = some (.int .i64 p.trim) := by simp [World.cell?_alloc_at]
  have c3 : (w.alloc (.cells #[fv, pv, .int .i64 p.trim, .int .i64 p.sheets] 25)).cell? ⟨w.heap.size, 3, none⟩ = some (.int .i64 p.sheets) := by simp [World.cell?_alloc_at]
  revert hb0 hz0 c0 c1 c2 c3
  generalize (w.alloc (.cells #[fv, pv, .int .i64 p.trim, .int .i64 p.sheets] 25)) = w1
  intro hb0 hz0 c0 c1 c2 c3
  have hb0 := hb0.drew
  have d0 : w1.drew.cell? ⟨w.heap.size, 0, none⟩ = some fv := c0
  have d1 : w1.drew.cell? ⟨w.heap.size, 1, none⟩ = some pv := c1
  have d2 : w1.drew.cell? ⟨w.heap.size, 2, none⟩ = some (.int .i64 p.trim) := c2
  have d3 : w1.drew.cell? ⟨w.heap.size, 3, none⟩ = some (.int .i64 p.sheets) := c3
  have dz : w.heap.size + 1 ≤ w1.drew.heap.size := hz0
  refine wp_region_held_drew (S := fun u => u.cell? ⟨w.heap.size, 0, none⟩ = some fv) (by kernel_rfl) ?_ (fun hHeld => ?_)
  · (try dsimp only); go_keep
  refine wpAnyH_take (i := 0) (v := ?_) rfl (by kernel_rfl) (by kernel_rfl) (by kernel_rfl) (fun _ _ _ h => h) (Or.inl ⟨by rfl, ?_⟩) (by assumption) ?_
  rotate_left
  · (intro w hSw; (try dsimp only at hSw); go_simp; (try with_reducible rfl))
  (try simp only [Act.put, List.setIfInBounds_toArray, List.set_cons_zero, List.set_cons_succ])
  refine wpAnyH_take (i := 1) (v := ?_) rfl (by kernel_rfl) (by kernel_rfl) (by kernel_rfl) (fun _ _ _ h => h) (Or.inl ⟨by rfl, ?_⟩) (by assumption) ?_
  rotate_left
  · (intro w hSw; (try dsimp only at hSw); go_simp; (try with_reducible rfl))
  (try simp only [Act.put, List.setIfInBounds_toArray, List.set_cons_zero, List.set_cons_succ])
  refine wpAnyH_ready (rs := [2]) (by kernel_rfl) (by simp) ?_
  refine AllReadyH.cons rfl (fun K hK => ?_) AllReadyH.nil
  go_simp
  clear c0 c1 c2 c3 hz0
  revert hb0 d0 d1 d2 d3 dz hHeld
  generalize w1.drew = w2
  intro hb0 d0 d1 d2 d3 dz hHeld
  refine (formatError_any _).mono ?_
  rintro e w3 ⟨⟨n, i, g, m, b, rfl, hk, hbb⟩, hb⟩
  have hb3 := hb0.trans (hb.mono (by omega))
  have d0 := cell_later' hb d0
  have d1 := cell_later' hb d1
  have d2 := cell_later' hb d2
  have d3 := cell_later' hb d3
  have dz3 := hb.size
  have HK := Lib.hid hk
  clear hk hb
  go_simp
  refine hK.out _ _ ?_ (fun hNew => ?_)
  · (try dsimp only); go_keep
  clear hK K hHeld
  have hHeld := hNew
  clear hNew
  (try simp only [Act.put, List.setIfInBounds_toArray, List.set_cons_zero, List.set_cons_succ])
  refine wpAnyH_ready (rs := [3]) (by kernel_rfl) (by simp) ?_
  refine AllReadyH.cons rfl (fun K hK => ?_) AllReadyH.nil
  go_simp
  refine (listF_any 1 6 p.fmts fv n i g m b w.heap.size _ ((HF).out.same fun k hk => hb3.block k hk) HK.out (by omega) (by decide) (HS1).out).mono ?_
  rintro e w4 ⟨rfl, ho⟩
  rw [← (HX1).out]
  have hb4 := ho.below hb3 (by omega) (fun k hk => by omega)
  have d0 := (only_cell ho (lt_of_cell d0) (by omega)).trans d0
  have d1 := (only_cell ho (lt_of_cell d1) (by omega)).trans d1
  have d2 := (only_cell ho (lt_of_cell d2) (by omega)).trans d2
  have d3 := (only_cell ho (lt_of_cell d3) (by omega)).trans d3
  have dz4 := ho.size
  dsimp only
  go_simp
  refine hK.out _ _ ?_ (fun hNew => ?_)
  · (try dsimp only); go_keep
  clear hK K hHeld
  have hHeld := hNew
  clear hNew
  (try simp only [Act.put, List.setIfInBounds_toArray, List.set_cons_zero, List.set_cons_succ])
  refine wpAnyH_take (i := 4) (v := ?_) rfl (by kernel_rfl) (by kernel_rfl) (by kernel_rfl) (fun _ _ _ h => h) (Or.inl ⟨by rfl, ?_⟩) (by assumption) ?_
  rotate_left
  · (intro w hSw; (try dsimp only at hSw); go_simp; (try with_reducible rfl))
  (try simp only [Act.put, List.setIfInBounds_toArray, List.set_cons_zero, List.set_cons_succ])
  refine wpAnyH_take (i := 5) (v := ?_) rfl (by kernel_rfl) (by kernel_rfl) (by kernel_rfl) (fun _ _ _ h => h) (Or.inl ⟨by rfl, ?_⟩) (by assumption) ?_
  rotate_left
  · (intro w hSw; (try dsimp only at hSw); go_simp; (try with_reducible rfl))
  (try simp only [Act.put, List.setIfInBounds_toArray, List.set_cons_zero, List.set_cons_succ])
  refine wpAnyH_take (i := 6) (v := ?_) rfl (by kernel_rfl) (by kernel_rfl) (by kernel_rfl) (fun _ _ _ h => h) (Or.inl ⟨by rfl, ?_⟩) (by assumption) ?_
  rotate_left
  · (intro w hSw; (try dsimp only at hSw); go_simp; (try with_reducible rfl))
  (try simp only [Act.put, List.setIfInBounds_toArray, List.set_cons_zero, List.set_cons_succ])
  refine wpAnyH_take (i := 7) (v := ?_) rfl (by kernel_rfl) (by kernel_rfl) (by kernel_rfl) (fun _ _ _ h => h) (Or.inl ⟨by rfl, ?_⟩) (by assumption) ?_
  rotate_left
  · (intro w hSw; (try dsimp only at hSw); go_simp; (try with_reducible rfl))
  (try simp only [Act.put, List.setIfInBounds_toArray, List.set_cons_zero, List.set_cons_succ])
  refine wpAnyH_take (i := 8) (v := ?_) rfl (by kernel_rfl) (by kernel_rfl) (by kernel_rfl) (fun _ _ _ h => h) (Or.inl ⟨by rfl, ?_⟩) (by assumption) ?_
  rotate_left
  · (intro w hSw; (try dsimp only at hSw); go_simp; (try with_reducible rfl))
  (try simp only [Act.put, List.setIfInBounds_toArray, List.set_cons_zero, List.set_cons_succ])
  refine wpAnyH_done (by kernel_rfl) ?_ _
  clear hHeld ho HK hb3 hbb
  by_cases hx : x2 = 0
  · have HR1 : Hid ((r1, r2, r3) = if y2 ≠ 0 then (2, y1, y2) else if (inI 0 60 p.trim && inI 1 4 p.sheets) = false then (3, 0, 7) else (0, 0, 0)) := Lib.hid (by rw [HR.out, if_neg (by rw [hx]; decide)])
    clear HR HX1 HF HS1
    subst hx
    go_wp2_with fail
    have hb0 := hb4
    have c0 := d0
    have c1 := d1
    have c2 := d2
    have c3 := d3
    have hz0 : w.heap.size + 1 ≤ w4.heap.size := by omega
    clear d0 d1 d2 d3 hb4 dz dz3 dz4
    generalize w4 = w1 at *
    have hb0 := hb0.drew
    have d0 : w1.drew.cell? ⟨w.heap.size, 0, none⟩ = some fv := c0
    have d1 : w1.drew.cell? ⟨w.heap.size, 1, none⟩ = some pv := c1
    have d2 : w1.drew.cell? ⟨w.heap.size, 2, none⟩ = some (.int .i64 p.trim) := c2
    have d3 : w1.drew.cell? ⟨w.heap.size, 3, none⟩ = some (.int .i64 p.sheets) := c3
    have dz : w.heap.size + 1 ≤ w1.drew.heap.size := hz0
    refine wp_region_held_drew (S := fun u => u.cell? ⟨w.heap.size, 1, none⟩ = some pv) (by kernel_rfl) ?_ (fun hHeld => ?_)
    · (try dsimp only); go_keep
    refine wpAnyH_take (i := 0) (v := ?_) rfl (by kernel_rfl) (by kernel_rfl) (by kernel_rfl) (fun _ _ _ h => h) (Or.inl ⟨by rfl, ?_⟩) (by assumption) ?_
    rotate_left
    · (intro w hSw; (try dsimp only at hSw); go_simp; (try with_reducible rfl))
    (try simp only [Act.put, List.setIfInBounds_toArray, List.set_cons_zero, List.set_cons_succ])
    refine wpAnyH_take (i := 1) (v := ?_) rfl (by kernel_rfl) (by kernel_rfl) (by kernel_rfl) (fun _ _ _ h => h) (Or.inl ⟨by rfl, ?_⟩) (by assumption) ?_
    rotate_left
    · (intro w hSw; (try dsimp only at hSw); go_simp; (try with_reducible rfl))
    (try simp only [Act.put, List.setIfInBounds_toArray, List.set_cons_zero, List.set_cons_succ])
    refine wpAnyH_ready (rs := [2]) (by kernel_rfl) (by simp) ?_
    refine AllReadyH.cons rfl (fun K hK => ?_) AllReadyH.nil
    go_simp
    clear c0 c1 c2 c3 hz0
    revert hb0 d0 d1 d2 d3 dz hHeld
    generalize w1.drew = w2
    intro hb0 d0 d1 d2 d3 dz hHeld
    refine (paperError_any _).mono ?_
    rintro e w3 ⟨⟨n, i, g, m, b, rfl, hk, hbb⟩, hb⟩
    have hb3 := hb0.trans (hb.mono (by omega))
    have d0 := cell_later' hb d0
    have d1 := cell_later' hb d1
    have d2 := cell_later' hb d2
    have d3 := cell_later' hb d3
    have dz3 := hb.size
    have HK := Lib.hid hk
    clear hk hb
    go_simp
    refine hK.out _ _ ?_ (fun hNew => ?_)
    · (try dsimp only); go_keep
    clear hK K hHeld
    have hHeld := hNew
    clear hNew
    (try simp only [Act.put, List.setIfInBounds_toArray, List.set_cons_zero, List.set_cons_succ])
    refine wpAnyH_ready (rs := [3]) (by kernel_rfl) (by simp) ?_
    refine AllReadyH.cons rfl (fun K hK => ?_) AllReadyH.nil
    go_simp
    refine (listP_any 1 4 p.pprs pv n i g m b w.heap.size _ ((HQ).out.same fun k hk => hb3.block k hk) HK.out (by omega) (by decide) (HS2).out).mono ?_
    rintro e w4 ⟨rfl, ho⟩
    rw [← (HY1).out]
    have hb4 := ho.below hb3 (by omega) (fun k hk => by omega)
    have d0 := (only_cell ho (lt_of_cell d0) (by omega)).trans d0
    have d1 := (only_cell ho (lt_of_cell d1) (by omega)).trans d1
    have d2 := (only_cell ho (lt_of_cell d2) (by omega)).trans d2
    have d3 := (only_cell ho (lt_of_cell d3) (by omega)).trans d3
    have dz4 := ho.size
    dsimp only
    go_simp
    refine hK.out _ _ ?_ (fun hNew => ?_)
    · (try dsimp only); go_keep
    clear hK K hHeld
    have hHeld := hNew
    clear hNew
    (try simp only [Act.put, List.setIfInBounds_toArray, List.set_cons_zero, List.set_cons_succ])
    refine wpAnyH_take (i := 4) (v := ?_) rfl (by kernel_rfl) (by kernel_rfl) (by kernel_rfl) (fun _ _ _ h => h) (Or.inl ⟨by rfl, ?_⟩) (by assumption) ?_
    rotate_left
    · (intro w hSw; (try dsimp only at hSw); go_simp; (try with_reducible rfl))
    (try simp only [Act.put, List.setIfInBounds_toArray, List.set_cons_zero, List.set_cons_succ])
    refine wpAnyH_take (i := 5) (v := ?_) rfl (by kernel_rfl) (by kernel_rfl) (by kernel_rfl) (fun _ _ _ h => h) (Or.inl ⟨by rfl, ?_⟩) (by assumption) ?_
    rotate_left
    · (intro w hSw; (try dsimp only at hSw); go_simp; (try with_reducible rfl))
    (try simp only [Act.put, List.setIfInBounds_toArray, List.set_cons_zero, List.set_cons_succ])
    refine wpAnyH_take (i := 6) (v := ?_) rfl (by kernel_rfl) (by kernel_rfl) (by kernel_rfl) (fun _ _ _ h => h) (Or.inl ⟨by rfl, ?_⟩) (by assumption) ?_
    rotate_left
    · (intro w hSw; (try dsimp only at hSw); go_simp; (try with_reducible rfl))
    (try simp only [Act.put, List.setIfInBounds_toArray, List.set_cons_zero, List.set_cons_succ])
    refine wpAnyH_take (i := 7) (v := ?_) rfl (by kernel_rfl) (by kernel_rfl) (by kernel_rfl) (fun _ _ _ h => h) (Or.inl ⟨by rfl, ?_⟩) (by assumption) ?_
    rotate_left
    · (intro w hSw; (try dsimp only at hSw); go_simp; (try with_reducible rfl))
    (try simp only [Act.put, List.setIfInBounds_toArray, List.set_cons_zero, List.set_cons_succ])
    refine wpAnyH_take (i := 8) (v := ?_) rfl (by kernel_rfl) (by kernel_rfl) (by kernel_rfl) (fun _ _ _ h => h) (Or.inl ⟨by rfl, ?_⟩) (by assumption) ?_
    rotate_left
    · (intro w hSw; (try dsimp only at hSw); go_simp; (try with_reducible rfl))
    (try simp only [Act.put, List.setIfInBounds_toArray, List.set_cons_zero, List.set_cons_succ])
    refine wpAnyH_done (by kernel_rfl) ?_ _
    clear hHeld ho HK hb3 hbb
    by_cases hy : y2 = 0
    · have HR2 : Hid ((r1, r2, r3) = if (inI 0 60 p.trim && inI 1 4 p.sheets) = false then (3, 0, 7) else (0, 0, 0)) := Lib.hid (by rw [HR1.out, if_neg (by rw [hy]; decide)])
      clear HR1 HY1 HQ HS2
      subst hy
      go_wp2_with fail
      refine (within_one 0 60 p.trim _ _ (by simp [World.cell?_alloc_at])).mono ?_
      rintro e w5 ⟨rfl, hw⟩
      have hb5 : Below w4.heap.size w4 w5 := by rw [← hw]; exact (by repeat (first | exact Below.refl _ _ | assumption | (refine Below.alloc ?_ ?_ _; rotate_left; · (first | omega | (simp; done) | (simp; omega) | fail)) | (refine Below.setCell ?_ ?_ _; rotate_left; · (first | omega | (simp; done) | (simp; omega) | fail)) | refine Below.drew ?_ | fail))
      have e3 := cell_later' hb5 d3
      have hb6 := hb4.trans (hb5.mono hb4.size)
      clear hw hb4 hb5 d0 d1 d2 d3
      cases h1 : inB 0 60 p.trim with
      | false =>
        have HR3 : Hid (r1 = 3 ∧ r2 = 0 ∧ r3 = 7) := Lib.hid (by have := HR2.out; rw [inI_inB, h1] at this; simpa using this)
        go_wp2_with fail
        go_ret3
        exact ⟨by rw [HR3.out.1, HR3.out.2.1, HR3.out.2.2]; rfl, hb6⟩
      | true =>
        go_wp2_with fail
        refine (within_one 1 4 p.sheets _ _ (by simp [World.cell?_alloc_at])).mono ?_
        rintro e w7 ⟨rfl, hw⟩
        have hz5 := hb6.size
        have hb7 : Below w.heap.size w w7 := by rw [← hw]; exact (by repeat (first | (refine Below.setCell ?_ ?_ _; rotate_left; · (first | omega | (simp; done) | (simp; omega) | fail)) | (refine Below.alloc ?_ ?_ _; rotate_left; · (first | omega | (simp; done) | (simp; omega) | fail)) | refine Below.drew ?_ | exact hb6 | fail))
        clear hw
        cases h2 : inB 1 4 p.sheets with
        | false =>
          have HR3 : Hid (r1 = 3 ∧ r2 = 0 ∧ r3 = 7) := Lib.hid (by have := HR2.out; rw [inI_inB, inI_inB, h1, h2] at this; simpa using this)
          go_wp2_with fail
          go_ret3
          exact ⟨by rw [HR3.out.1, HR3.out.2.1, HR3.out.2.2]; rfl, hb7⟩
        | true =>
          have HR3 : Hid (r1 = 0 ∧ r2 = 0 ∧ r3 = 0) := Lib.hid (by have := HR2.out; rw [inI_inB, inI_inB, h1, h2] at this; simpa using this)
          go_wp2_with fail
          go_ret3
          exact ⟨by rw [HR3.out.1, HR3.out.2.1, HR3.out.2.2]; rfl, hb7⟩
    · have HR2 : Hid (r1 = 2 ∧ r2 = y1 ∧ r3 = y2) := Lib.hid (by have := HR1.out; rw [if_pos hy] at this; simpa using this)
      have h0b : (y2 != 0) = true := by simp [hy]
      clear hy HR1
      go_wp2_with fail
      go_ret3
      exact ⟨by rw [HR2.out.1, HR2.out.2.1, HR2.out.2.2]; rfl, hb4⟩
  · have HR1 : Hid (r1 = 1 ∧ r2 = x1 ∧ r3 = x2) := Lib.hid (by have := HR.out; rw [if_pos hx] at this; simpa using this)
    have h0b : (x2 != 0) = true := by simp [hx]
    clear hx HR
    go_wp2_with fail
    go_ret3
    exact ⟨by rw [HR1.out.1, HR1.out.2.1, HR1.out.2.2]; rfl, hb4⟩
end Go.Proofs.YthnifhejmoggmaaGreatDoor

/- Marks; a press that is opened. -/
namespace Go.Proofs.YthnifhejmoggmaaGreatDoor
set_option linter.unusedSimpArgs false
set_option linter.unusedVariables false
open Go Go.RowKit Go.Sort Go.BigFrame

theorem mrk_zero {leaves : Int} {x : Int × Bool} : mrkErr leaves x = 0 ↔ inI 0 (leaves - 1) x.1 = true := by
  unfold mrkErr
  cases inI 0 (leaves - 1) x.1 <;> simp
theorem mrk_four {leaves : Int} {x : Int × Bool} (h : mrkErr leaves x ≠ 0) : inI 0 (leaves - 1) x.1 = false ∧ mrkErr leaves x = 4 := by
  unfold mrkErr at *
  cases h2 : inI 0 (leaves - 1) x.1 <;> simp_all

set_option maxRecDepth 100000 in
set_option maxHeartbeats 1000000 in
theorem firstM_any (leaves : Int) (xs : List (Int × Bool)) (v : Value) (n B : Nat) (w : World) (hv : RowsAt 2 mrkV B w v xs) (hB : B ≤ w.heap.size) (hn : w.cell? ⟨n, 0, none⟩ = some (.int .i64 leaves)) (hl : xs.length ≤ 100) :
    Calls Tryz.prog 72 #[v, .func (.func 73) #[] #[.pointer (some ⟨n, 0, none⟩)]] w fun e w' => e = .returned (.tuple #[.int .i64 ((marksErr leaves 0 xs).1 : Nat), .int .i64 (marksErr leaves 0 xs).2]) ∧ Below w.heap.size w w' := by
  obtain ⟨a, cap, rfl, hc⟩ := hv
  by_cases hne : xs = []
  · subst hne
    have HF : Hid (marksErr leaves 0 [] = (0, 0)) := Lib.hid rfl
    clear hc
    dsimp only [List.length_nil] at hl ⊢
    go_enter Tryz.func72, Tryz.ntmps72
    go_wp2_with fail
    refine wp_loop_rounds 1 ?_
    rw [rounds_succ]
    go_wp2_with fail
    go_ret2
    exact ⟨by rw [HF.out]; rfl, Below.refl _ _⟩
  obtain ⟨b', off, rfl, hb', hcell⟩ := hc hne
  have HC := Lib.hid hcell
  obtain ⟨N, hN⟩ : ∃ N, N = xs.length := ⟨_, rfl⟩
  rw [← hN] at hl ⊢
  have HN := Lib.hid hN
  clear hcell hN hc hne
  obtain ⟨z1, hz1⟩ : ∃ z1, z1 = marksErr leaves 0 xs := ⟨_, rfl⟩
  rw [← hz1]
  have HZ := Lib.hid hz1
  clear hz1
  go_enter Tryz.func72, Tryz.ntmps72
  go_wp2_with fail
  go_loopw [11] (fun q wr => ∃ (k : Nat), k ≤ N ∧ q = .int .i64 k ∧ Below w.heap.size w wr ∧ Hid (z1 = marksErr leaves k (xs.drop k))) (fun q _ => N - (intOf q).toNat)
  case atStart => exact ⟨0, by omega, rfl, Below.refl _ _, HZ⟩
  case round =>
    obtain ⟨k, hk, rfl, ho, hh⟩ := hrel
    have hzr := ho.size
    by_cases hlt : k < N
    · obtain ⟨x, hx⟩ : ∃ x, xs[k]? = some x := ⟨_, List.getElem?_eq_getElem (by have := HN.out; omega)⟩
      have q0 : wr.cell? ⟨b', off + k * 2, none⟩ = some (.int .i64 x.1) := cell_later' ho (by have := HC.out k x hx 0 _ rfl; simpa using this)
      have q1 : wr.cell? ⟨b', off + k * 2 + 1, none⟩ = some (.bool x.2) := cell_later' ho (by have := HC.out k x hx 1 _ rfl; simpa using this)
      have HG := Lib.hid hx
      have hba : Below wr.heap.size wr (wr.alloc (Obj.cells #[.int .i64 x.1, .bool x.2] 91)) := (Below.refl _ _).alloc (Nat.le_refl _) _
      have hC := mrk1_any k x leaves n _ (cell_later' hba (cell_later' ho hn))
      have HCc := Lib.hid hC
      have HO := Lib.hid (ho.trans (hba.mono hzr))
      clear hC hba hx
      go_wp2_with fail
      refine HCc.out.mono ?_
      rintro e w1 ⟨rfl, hb1⟩
      have ho2 := HO.out.trans (hb1.mono HO.out.size)
      obtain ⟨er, her⟩ : ∃ er, er = mrkErr leaves x := ⟨_, rfl⟩
      rw [← her]
      have HR := Lib.hid her
      clear her q0 q1 ho HO HCc hb1
      by_cases h0 : er = 0
      · have HH : Hid (z1 = marksErr leaves (k + 1) (xs.drop (k + 1))) := Lib.hid (hh.out.trans (marksErr_step HG.out (mrk_zero.1 (HR.out.symm.trans h0))))
        clear HR hh
        subst h0
        go_wp2_with fail
        go_roundw
        case rel => exact ⟨k + 1, by omega, by go_num, ho2, HH⟩
        case measure => simp [intOf]; omega
      · have h0b : (er != 0) = true := by simp [h0]
        have h4 := mrk_four (fun h => h0 (HR.out.trans h))
        have HF : Hid (z1 = (k, er)) := Lib.hid (by rw [HR.out, h4.2]; exact hh.out.trans (marksErr_stop HG.out h4.1))
        clear h0 HR hh h4
        go_wp2_with fail
        go_ret2
        exact ⟨by rw [HF.out]; rfl, ho2⟩
    · have HF : Hid (z1 = (0, 0)) := Lib.hid (hh.out.trans (marksErr_end (by have := HN.out; omega)))
      go_wp2_with fail
      go_ret2
      exact ⟨by rw [HF.out]; rfl, ho⟩

def marksR (lo hi leaves : Int) (xs : List (Int × Bool)) : Nat × Int := if inI lo hi xs.length = false then (0, 3) else marksErr leaves 0 xs
set_option maxHeartbeats 1000000 in
theorem listM_any (lo hi leaves : Int) (xs : List (Int × Bool)) (v : Value) (n B : Nat) (w : World) (hv : RowsAt 2 mrkV B w v xs) (hB : B ≤ w.heap.size) (hn : w.cell? ⟨n, 0, none⟩ = some (.int .i64 leaves)) (hh : hi ≤ 100) :
    Calls Tryz.prog 39 #[.int .i64 lo, .int .i64 hi, v, .func (.func 73) #[] #[.pointer (some ⟨n, 0, none⟩)]] w fun e w' => e = .returned (.tuple #[.int .i64 ((marksR lo hi leaves xs).1 : Nat), .int .i64 (marksR lo hi leaves xs).2]) ∧ Below w.heap.size w w' := by
  have HV := Lib.hid hv
  obtain ⟨a, cap, rfl, -⟩ := hv
  obtain ⟨N, hN⟩ : ∃ N, N = xs.length := ⟨_, rfl⟩
  rw [← hN] at HV ⊢
  obtain ⟨z1, hz1⟩ : ∃ z1, z1 = marksR lo hi leaves xs := ⟨_, rfl⟩
  rw [← hz1]
  cases hi0 : inB lo hi N with
  | false =>
    have HF : Hid (z1 = (0, 3)) := Lib.hid (by rw [hz1]; unfold marksR; rw [← hN, if_pos (by rw [inI_inB]; exact hi0)])
    clear hz1 hN
    go_enter Tryz.func39, Tryz.ntmps39
    go_wp2_with fail
    refine (within_one lo hi N _ _ (by simp [World.cell?_alloc_at])).mono ?_
    rintro e w1 ⟨rfl, hw⟩
    have hb1 : Below w.heap.size w w1 := by rw [← hw]; exact (by repeat (first | exact Below.refl _ _ | assumption | (refine Below.alloc ?_ ?_ _; rotate_left; · (first | omega | (simp; done) | (simp; omega) | fail)) | (refine Below.setCell ?_ ?_ _; rotate_left; · (first | omega | (simp; done) | (simp; omega) | fail)) | refine Below.drew ?_ | fail))
    clear hw
    rw [hi0]
    go_wp2_with fail
    go_ret2
    exact ⟨by rw [HF.out]; rfl, hb1⟩
  | true =>
    have hl : xs.length ≤ 100 := by
      simp only [inB, Bool.and_eq_true, decide_eq_true_eq] at hi0; omega
    have HF : Hid (z1 = marksErr leaves 0 xs) := Lib.hid (by rw [hz1]; unfold marksR; rw [← hN, if_neg (by rw [inI_inB, hi0]; decide)])
    have HN := Lib.hid hN
    have HL := Lib.hid hl
    clear hz1 hN hl
    go_enter Tryz.func39, Tryz.ntmps39
    go_wp2_with fail
    refine (within_one lo hi N _ _ (by simp [World.cell?_alloc_at])).mono ?_
    rintro e w1 ⟨rfl, hw⟩
    have hb1 : Below w.heap.size w w1 := by rw [← hw]; exact (by repeat (first | exact Below.refl _ _ | assumption | (refine Below.alloc ?_ ?_ _; rotate_left; · (first | omega | (simp; done) | (simp; omega) | fail)) | (refine Below.setCell ?_ ?_ _; rotate_left; · (first | omega | (simp; done) | (simp; omega) | fail)) | refine Below.drew ?_ | fail))
    clear hw
    rw [hi0]
    have HB := Lib.hid hb1
    have hn1 := cell_later' hb1 hn
    have hz1 := hb1.size
    clear hb1 hi0
    go_wp2_with fail
    refine (firstM_any leaves xs _ n B _ (by have h := HV.out; rw [HN.out] at h ⊢; exact h.same fun k hk => HB.out.block k (by omega)) (by omega) hn1 HL.out).mono ?_
    rintro e w2 ⟨rfl, ho⟩
    rw [← HF.out]
    have HO : Hid (Below w.heap.size w w2) := Lib.hid (HB.out.trans (ho.mono hz1))
    clear ho HF HB HV
    obtain ⟨x, y⟩ := z1
    go_wp2_with fail
    go_ret2
    exact ⟨rfl, HO.out⟩

/-- What open hands back of a press. -/
def openP (p : Prs) (v : Value) : Value := if errP p = 0 then v else .agg #[.slice none 0 0, .slice none 0 0, .int .i64 0, .int .i64 0]
set_option maxHeartbeats 1000000 in
theorem foldOpen_any (p : Prs) (v : Value) (w : World) (hp : PrsAt w.heap.size w v p) :
    Calls Tryz.prog 37 #[v] w fun e w' => e = .returned (.tuple #[openP p v, .int .i64 (errP p)]) ∧ Below w.heap.size w w' := by
  have HP := Lib.hid hp
  obtain ⟨fv, pv, rfl, ⟨a, cap, rfl, -⟩, ⟨a2, cap2, rfl, -⟩, -⟩ := hp
  obtain ⟨n1, hn1⟩ : ∃ n, n = p.fmts.length := ⟨_, rfl⟩
  obtain ⟨n2, hn2⟩ : ∃ n, n = p.pprs.length := ⟨_, rfl⟩
  rw [← hn1, ← hn2] at HP ⊢
  clear hn1 hn2
  obtain ⟨⟨r1, r2, r3⟩, hr⟩ : ∃ r, r = checkP p := ⟨_, rfl⟩
  have HR := Lib.hid hr
  have HE : Hid (errP p = r3) := Lib.hid (by unfold errP; rw [← hr])
  clear hr
  go_enter Tryz.func37, Tryz.ntmps37
  go_wp2_with fail
  have hb0 : Below w.heap.size w ((w.alloc (.cells #[.slice a n1 cap, .slice a2 n2 cap2, .int .i64 p.trim, .int .i64 p.sheets] 25)).alloc (.cells #[.slice none 0 0, .slice none 0 0, .int .i64 0, .int .i64 0] 85)) := by exact (by repeat (first | exact Below.refl _ _ | assumption | (refine Below.alloc ?_ ?_ _; rotate_left; · (first | omega | (simp; done) | (simp; omega) | fail)) | (refine Below.setCell ?_ ?_ _; rotate_left; · (first | omega | (simp; done) | (simp; omega) | fail)) | refine Below.drew ?_ | fail))
  have b1 : ((w.alloc (.cells #[.slice a n1 cap, .slice a2 n2 cap2, .int .i64 p.trim, .int .i64 p.sheets] 25)).alloc (.cells #[.slice none 0 0, .slice none 0 0, .int .i64 0, .int .i64 0] 85)).heap[w.heap.size]? = some (.cells #[.slice a n1 cap, .slice a2 n2 cap2, .int .i64 p.trim, .int .i64 p.sheets] 25) := (by repeat (first | exact heap_alloc_at _ _ _ (by (first | omega | (simp; done) | (simp; omega) | (simp at *; omega) | fail)) | assumption | rw [heap_alloc_past _ _ _ (by (first | omega | (simp; done) | (simp; omega) | (simp at *; omega) | fail))] | rw [heap_setCell_past _ _ _ _ (by (first | omega | (simp; done) | (simp; omega) | (simp at *; omega) | fail))] | fail))
  have b2 : ((w.alloc (.cells #[.slice a n1 cap, .slice a2 n2 cap2, .int .i64 p.trim, .int .i64 p.sheets] 25)).alloc (.cells #[.slice none 0 0, .slice none 0 0, .int .i64 0, .int .i64 0] 85)).heap[w.heap.size + 1]? = some (.cells #[.slice none 0 0, .slice none 0 0, .int .i64 0, .int .i64 0] 85) := (by repeat (first | exact heap_alloc_at _ _ _ (by (first | omega | (simp; done) | (simp; omega) | (simp at *; omega) | fail)) | assumption | rw [heap_alloc_past _ _ _ (by (first | omega | (simp; done) | (simp; omega) | (simp at *; omega) | fail))] | rw [heap_setCell_past _ _ _ _ (by (first | omega | (simp; done) | (simp; omega) | (simp at *; omega) | fail))] | fail))
  revert hb0 b1 b2
  generalize ((w.alloc (.cells #[.slice a n1 cap, .slice a2 n2 cap2, .int .i64 p.trim, .int .i64 p.sheets] 25)).alloc (.cells #[.slice none 0 0, .slice none 0 0, .int .i64 0, .int .i64 0] 85)) = w1
  intro hb0 b1 b2
  refine (foldCheck_any p _ _ (HP.out.later hb0)).mono ?_
  rintro e w2 ⟨rfl, hb2⟩
  rw [← HR.out]
  have b1 := blk_later hb2 b1
  have b2 := blk_later hb2 b2
  have hb3 := hb0.trans (hb2.mono hb0.size)
  have hz := blk_lt b2
  clear hb0 hb2
  have c0 := blk_cell b1 0; have c1 := blk_cell b1 1; have c2 := blk_cell b1 2; have c3 := blk_cell b1 3
  have d0 := blk_cell b2 0; have d1 := blk_cell b2 1; have d2 := blk_cell b2 2; have d3 := blk_cell b2 3
  have f0 := blk_free b2 0; have f1 := blk_free b2 1; have f2 := blk_free b2 2; have f3 := blk_free b2 3
  dsimp only
  by_cases h0 : r3 = 0
  · have HF : Hid (openP p (.agg #[.slice a n1 cap, .slice a2 n2 cap2, .int .i64 p.trim, .int .i64 p.sheets]) = .agg #[.slice a n1 cap, .slice a2 n2 cap2, .int .i64 p.trim, .int .i64 p.sheets]) := Lib.hid (by unfold openP; rw [if_pos (HE.out.trans h0)])
    have HE2 : Hid (errP p = 0) := Lib.hid (HE.out.trans h0)
    clear HE HR
    subst h0
    go_wp2_with fail
    have b3 : ((((w2.setCell ⟨w.heap.size + 1, 0, none⟩ (.slice a n1 cap)).setCell ⟨w.heap.size + 1, 1, none⟩ (.slice a2 n2 cap2)).setCell ⟨w.heap.size + 1, 2, none⟩ (.int .i64 p.trim)).setCell ⟨w.heap.size + 1, 3, none⟩ (.int .i64 p.sheets)).heap[w.heap.size + 1]? = some (.cells #[.slice a n1 cap, .slice a2 n2 cap2, .int .i64 p.trim, .int .i64 p.sheets] 85) := by
      simpa using blk_set (blk_set (blk_set (blk_set b2 0 (.slice a n1 cap)) 1 (.slice a2 n2 cap2)) 2 (.int .i64 p.trim)) 3 (.int .i64 p.sheets)
    have g0 := blk_cell b3 0; have g1 := blk_cell b3 1; have g2 := blk_cell b3 2; have g3 := blk_cell b3 3
    exact bodyPost_ret (v := .tuple #[.agg #[.slice a n1 cap, .slice a2 n2 cap2, .int .i64 p.trim, .int .i64 p.sheets], .int .i64 0]) (by simp [results, Tryz.results37, go_sem, g0, g1, g2, g3]) rfl ⟨by rw [HF.out, HE2.out], (by repeat (first | (refine Below.setCell ?_ ?_ _; rotate_left; · (first | omega | (simp; done) | (simp; omega) | fail)) | (refine Below.alloc ?_ ?_ _; rotate_left; · (first | omega | (simp; done) | (simp; omega) | fail)) | refine Below.drew ?_ | exact hb3 | fail))⟩
  · have HF : Hid (openP p (.agg #[.slice a n1 cap, .slice a2 n2 cap2, .int .i64 p.trim, .int .i64 p.sheets]) = .agg #[.slice none 0 0, .slice none 0 0, .int .i64 0, .int .i64 0]) := Lib.hid (by unfold openP; rw [if_neg (fun h => h0 (HE.out.symm.trans h))])
    have h0b : (r3 != 0) = true := by simp [h0]
    clear h0 HR
    go_wp2_with fail
    have b3 : ((((w2.setCell ⟨w.heap.size + 1, 0, none⟩ (.slice none 0 0)).setCell ⟨w.heap.size + 1, 1, none⟩ (.slice none 0 0)).setCell ⟨w.heap.size + 1, 2, none⟩ (.int .i64 0)).setCell ⟨w.heap.size + 1, 3, none⟩ (.int .i64 0)).heap[w.heap.size + 1]? = some (.cells #[.slice none 0 0, .slice none 0 0, .int .i64 0, .int .i64 0] 85) := by
      simpa using blk_set (blk_set (blk_set (blk_set b2 0 (.slice none 0 0)) 1 (.slice none 0 0)) 2 (.int .i64 0)) 3 (.int .i64 0)
    have g0 := blk_cell b3 0; have g1 := blk_cell b3 1; have g2 := blk_cell b3 2; have g3 := blk_cell b3 3
    exact bodyPost_ret (v := .tuple #[.agg #[.slice none 0 0, .slice none 0 0, .int .i64 0, .int .i64 0], .int .i64 r3]) (by simp [results, Tryz.results37, go_sem, g0, g1, g2, g3]) rfl ⟨by rw [HF.out, HE.out], (by repeat (first | (refine Below.setCell ?_ ?_ _; rotate_left; · (first | omega | (simp; done) | (simp; omega) | fail)) | (refine Below.alloc ?_ ?_ _; rotate_left; · (first | omega | (simp; done) | (simp; omega) | fail)) | refine Below.drew ?_ | exact hb3 | fail))⟩
end Go.Proofs.YthnifhejmoggmaaGreatDoor

/- Check of what is seen of a gathering. -/
namespace Go.Proofs.YthnifhejmoggmaaGreatDoor
set_option linter.unusedSimpArgs false
set_option linter.unusedVariables false
open Go Go.RowKit Go.Sort Go.BigFrame

theorem checkK_is (p : Prs) (b : Bok) : checkK p b = if errP p ≠ 0 then (0, 0, errP p)
  else if inI 1 64 b.leaves = false then (1, 0, 7)
  else if inI 0 2 b.chain = false then (2, 0, 2)
  else if spansErr 0 2000 b.wlo b.whi b.hlo b.hhi ≠ 0 then (3, 0, spansErr 0 2000 b.wlo b.whi b.hlo b.hhi)
  else if (marksR 0 8 b.leaves b.marks).2 ≠ 0 then (4, (marksR 0 8 b.leaves b.marks).1, (marksR 0 8 b.leaves b.marks).2) else (0, 0, 0) := by
  have key : ∀ (l : List (Int × Bool)) (k : Nat), (marksErr b.leaves k l).2 = 0 ∨ (marksErr b.leaves k l).2 = 4 := by
    intro l
    induction l with
    | nil => intro k; exact Or.inl rfl
    | cons m l ih =>
      intro k
      unfold marksErr
      split
      · exact ih _
      · exact Or.inr rfl
  unfold checkK marksR
  cases inI 0 8 b.marks.length
  · simp
  · rcases key b.marks 0 with h | h <;> simp [h]

set_option maxRecDepth 100000 in
set_option maxHeartbeats 2000000 in
theorem foldCheckBook_any (p : Prs) (b : Bok) (vp vb : Value) (w : World) (hp : PrsAt w.heap.size w vp p) (hb : BokAt w.heap.size w vb b) :
    Calls Tryz.prog 11 #[vp, vb] w fun e w' => e = .returned (.tuple #[.int .i64 ((checkK p b).1 : Nat), .int .i64 ((checkK p b).2.1 : Nat), .int .i64 (checkK p b).2.2]) ∧ Below w.heap.size w w' := by
  have HP := Lib.hid hp
  obtain ⟨fv, pv, rfl, ⟨a, cap, rfl, -⟩, ⟨a2, cap2, rfl, -⟩, -⟩ := hp
  obtain ⟨n1, hn1⟩ : ∃ n, n = p.fmts.length := ⟨_, rfl⟩
  obtain ⟨n2, hn2⟩ : ∃ n, n = p.pprs.length := ⟨_, rfl⟩
  rw [← hn1, ← hn2] at HP ⊢
  clear hn1 hn2
  obtain ⟨mv, rfl, hm⟩ := hb
  have HM := Lib.hid hm
  clear hm
  obtain ⟨⟨r1, r2, r3⟩, hr⟩ : ∃ r, r = checkK p b := ⟨_, rfl⟩
  rw [← hr]
  obtain ⟨ep, hep⟩ : ∃ ep, ep = errP p := ⟨_, rfl⟩
  obtain ⟨es, hes⟩ : ∃ es, es = spansErr 0 2000 b.wlo b.whi b.hlo b.hhi := ⟨_, rfl⟩
  obtain ⟨⟨m1, m2⟩, hmm⟩ : ∃ m, m = marksR 0 8 b.leaves b.marks := ⟨_, rfl⟩
  have HR : Hid ((r1, r2, r3) = if ep ≠ 0 then (0, 0, ep) else if inI 1 64 b.leaves = false then (1, 0, 7) else if inI 0 2 b.chain = false then (2, 0, 2) else if es ≠ 0 then (3, 0, es) else if m2 ≠ 0 then (4, m1, m2) else (0, 0, 0)) := Lib.hid (by
    rw [hr, checkK_is, ← hep, ← hes, ← hmm])
  have HEP := Lib.hid hep
  have HES := Lib.hid hes
  have HMM := Lib.hid hmm
  clear hr hep hes hmm
  dsimp only
  go_enter Tryz.func11, Tryz.ntmps11
  go_wp2_with fail
  have hb0 : Below w.heap.size w ((w.alloc (.cells #[.slice a n1 cap, .slice a2 n2 cap2, .int .i64 p.trim, .int .i64 p.sheets] 25)).alloc (.cells #[.int .i64 b.leaves, .int .i64 b.chain, .int .i64 b.wlo, .int .i64 b.whi, .int .i64 b.hlo, .int .i64 b.hhi, mv] 30)) := by exact (by repeat (first | exact Below.refl _ _ | assumption | (refine Below.alloc ?_ ?_ _; rotate_left; · (first | omega | (simp; done) | (simp; omega) | fail)) | (refine Below.setCell ?_ ?_ _; rotate_left; · (first | omega | (simp; done) | (simp; omega) | fail)) | refine Below.drew ?_ | fail))
  have b2 : ((w.alloc (.cells #[.slice a n1 cap, .slice a2 n2 cap2, .int .i64 p.trim, .int .i64 p.sheets] 25)).alloc (.cells #[.int .i64 b.leaves, .int .i64 b.chain, .int .i64 b.wlo, .int .i64 b.whi, .int .i64 b.hlo, .int .i64 b.hhi, mv] 30)).heap[w.heap.size + 1]? = some (.cells #[.int .i64 b.leaves, .int .i64 b.chain, .int .i64 b.wlo, .int .i64 b.whi, .int .i64 b.hlo, .int .i64 b.hhi, mv] 30) := (by repeat (first | exact heap_alloc_at _ _ _ (by (first | omega | (simp; done) | (simp; omega) | (simp at *; omega) | fail)) | assumption | rw [heap_alloc_past _ _ _ (by (first | omega | (simp; done) | (simp; omega) | (simp at *; omega) | fail))] | rw [heap_setCell_past _ _ _ _ (by (first | omega | (simp; done) | (simp; omega) | (simp at *; omega) | fail))] | fail))
  revert hb0 b2
  generalize ((w.alloc (.cells #[.slice a n1 cap, .slice a2 n2 cap2, .int .i64 p.trim, .int .i64 p.sheets] 25)).alloc (.cells #[.int .i64 b.leaves, .int .i64 b.chain, .int .i64 b.wlo, .int .i64 b.whi, .int .i64 b.hlo, .int .i64 b.hhi, mv] 30)) = w1
  intro hb0 b2
  refine (foldOpen_any p _ _ (HP.out.later hb0)).mono ?_
  rintro e w2 ⟨rfl, hb2⟩
  rw [← HEP.out]
  have b2 := blk_later hb2 b2
  have hb3 := hb0.trans (hb2.mono hb0.size)
  have hz := blk_lt b2
  clear hb0 hb2
  by_cases h0 : ep = 0
  · have HO : Hid (openP p (.agg #[.slice a n1 cap, .slice a2 n2 cap2, .int .i64 p.trim, .int .i64 p.sheets]) = .agg #[.slice a n1 cap, .slice a2 n2 cap2, .int .i64 p.trim, .int .i64 p.sheets]) := Lib.hid (by unfold openP; rw [if_pos (HEP.out.symm.trans h0)])
    rw [HO.out]
    have HR1 : Hid ((r1, r2, r3) = if inI 1 64 b.leaves = false then (1, 0, 7) else if inI 0 2 b.chain = false then (2, 0, 2) else if es ≠ 0 then (3, 0, es) else if m2 ≠ 0 then (4, m1, m2) else (0, 0, 0)) := Lib.hid (by rw [HR.out, if_neg (by rw [h0]; decide)])
    clear HO HR HEP
    subst h0
    have b3 : (w2.alloc (.cells #[.slice a n1 cap, .slice a2 n2 cap2, .int .i64 p.trim, .int .i64 p.sheets] 85)).heap[w.heap.size + 1]? = some (.cells #[.int .i64 b.leaves, .int .i64 b.chain, .int .i64 b.wlo, .int .i64 b.whi, .int .i64 b.hlo, .int .i64 b.hhi, mv] 30) := (heap_alloc_past _ _ _ hz).trans b2
    have e0 := blk_cell b3 0
    have e1 := blk_cell b3 1
    have e2 := blk_cell b3 2
    have e3 := blk_cell b3 3
    have e4 := blk_cell b3 4
    have e5 := blk_cell b3 5
    have e6 := blk_cell b3 6
    go_wp2_with fail
    refine (within_one 1 64 b.leaves _ _ (by simp [World.cell?_alloc_at])).mono ?_
    rintro e w3 ⟨rfl, hw⟩
    have hbb : Below w2.heap.size w2 w3 := by rw [← hw]; exact (by repeat (first | exact Below.refl _ _ | assumption | (refine Below.alloc ?_ ?_ _; rotate_left; · (first | omega | (simp; done) | (simp; omega) | fail)) | (refine Below.setCell ?_ ?_ _; rotate_left; · (first | omega | (simp; done) | (simp; omega) | fail)) | refine Below.drew ?_ | fail))
    clear hw e0 e1 e2 e3 e4 e5 e6 b3
    have b2 := blk_later hbb b2
    have hb3 := hb3.trans (hbb.mono hb3.size)
    have hz := blk_lt b2
    clear hbb
    cases h1 : inB 1 64 b.leaves with
    | false =>
      have HR2 : Hid (r1 = 1 ∧ r2 = 0 ∧ r3 = 7) := Lib.hid (by have := HR1.out; rw [inI_inB, h1] at this; simpa using this)
      clear HR1
      go_wp2_with fail
      go_ret3
      exact ⟨by rw [HR2.out.1, HR2.out.2.1, HR2.out.2.2]; rfl, hb3⟩
    | true =>
      have HR2 : Hid ((r1, r2, r3) = if inI 0 2 b.chain = false then (2, 0, 2) else if es ≠ 0 then (3, 0, es) else if m2 ≠ 0 then (4, m1, m2) else (0, 0, 0)) := Lib.hid (by rw [HR1.out, if_neg (by rw [inI_inB, h1]; decide)])
      clear HR1
      have e0 := blk_cell b2 0
      have e1 := blk_cell b2 1
      have e2 := blk_cell b2 2
      have e3 := blk_cell b2 3
      have e4 := blk_cell b2 4
      have e5 := blk_cell b2 5
      have e6 := blk_cell b2 6
      go_wp2_with fail
      refine (within_one 0 2 b.chain _ _ (by simp [World.cell?_alloc_at])).mono ?_
      rintro e w4 ⟨rfl, hw⟩
      have hbb : Below w3.heap.size w3 w4 := by rw [← hw]; exact (by repeat (first | exact Below.refl _ _ | assumption | (refine Below.alloc ?_ ?_ _; rotate_left; · (first | omega | (simp; done) | (simp; omega) | fail)) | (refine Below.setCell ?_ ?_ _; rotate_left; · (first | omega | (simp; done) | (simp; omega) | fail)) | refine Below.drew ?_ | fail))
      clear hw e0 e1 e2 e3 e4 e5 e6
      have b2 := blk_later hbb b2
      have hb3 := hb3.trans (hbb.mono hb3.size)
      have hz := blk_lt b2
      clear hbb
      cases h2 : inB 0 2 b.chain with
      | false =>
        have HR2 : Hid (r1 = 2 ∧ r2 = 0 ∧ r3 = 2) := Lib.hid (by have := HR2.out; rw [inI_inB, h2] at this; simpa using this)
        go_wp2_with fail
        go_ret3
        exact ⟨by rw [HR2.out.1, HR2.out.2.1, HR2.out.2.2]; rfl, hb3⟩
      | true =>
        have HR3 : Hid ((r1, r2, r3) = if es ≠ 0 then (3, 0, es) else if m2 ≠ 0 then (4, m1, m2) else (0, 0, 0)) := Lib.hid (by rw [HR2.out, if_neg (by rw [inI_inB, h2]; decide)])
        clear HR2
        have e0 := blk_cell b2 0
        have e1 := blk_cell b2 1
        have e2 := blk_cell b2 2
        have e3 := blk_cell b2 3
        have e4 := blk_cell b2 4
        have e5 := blk_cell b2 5
        have e6 := blk_cell b2 6
        go_wp2_with fail
        refine (spans_two 0 2000 b.wlo b.whi b.hlo b.hhi _ _ (by simp [World.cell?_alloc_at]) (by simp [World.cell?_alloc_at]) (by simp [World.cell?_alloc_at]) (by simp [World.cell?_alloc_at])).mono ?_
        rintro e w5 ⟨rfl, hw⟩
        rw [← HES.out]
        have hbb : Below w4.heap.size w4 w5 := ((Below.refl _ _).alloc (Nat.le_refl _) _).trans (hw.mono (by simp))
        clear hw e0 e1 e2 e3 e4 e5 e6
        have b2 := blk_later hbb b2
        have hb3 := hb3.trans (hbb.mono hb3.size)
        have hz := blk_lt b2
        clear hbb
        by_cases h3 : es = 0
        · have HR4 : Hid ((r1, r2, r3) = if m2 ≠ 0 then (4, m1, m2) else (0, 0, 0)) := Lib.hid (by rw [HR3.out, if_neg (by rw [h3]; decide)])
          clear HR3 HES
          subst h3
          go_wp2_with fail
          have hb3 := hb3.drew
          have d0 : w5.drew.cell? ⟨w.heap.size + 1, 0, none⟩ = some (.int .i64 b.leaves) := blk_cell b2 0
          have d6 : w5.drew.cell? ⟨w.heap.size + 1, 6, none⟩ = some mv := blk_cell b2 6
          refine wp_region_held_drew (S := fun u => u.cell? ⟨w.heap.size + 1, 0, none⟩ = some (.int .i64 b.leaves) ∧ u.cell? ⟨w.heap.size + 1, 6, none⟩ = some mv) (by kernel_rfl) ?_ (fun hHeld => ?_)
          · (try dsimp only); go_keep
          refine wpAnyH_take (i := 0) (v := ?_) rfl (by kernel_rfl) (by kernel_rfl) (by kernel_rfl) (fun _ _ _ h => h) (Or.inl ⟨by rfl, ?_⟩) (by assumption) ?_
          rotate_left
          · (intro w hSw; (try dsimp only at hSw); go_simp; (try with_reducible rfl))
          (try simp only [Act.put, List.setIfInBounds_toArray, List.set_cons_zero, List.set_cons_succ])
          refine wpAnyH_take (i := 1) (v := ?_) rfl (by kernel_rfl) (by kernel_rfl) (by kernel_rfl) (fun _ _ _ h => h) (Or.inl ⟨by rfl, ?_⟩) (by assumption) ?_
          rotate_left
          · (intro w hSw; (try dsimp only at hSw); go_simp; (try with_reducible rfl))
          (try simp only [Act.put, List.setIfInBounds_toArray, List.set_cons_zero, List.set_cons_succ])
          refine wpAnyH_take (i := 2) (v := ?_) rfl (by kernel_rfl) (by kernel_rfl) (by kernel_rfl) (fun _ _ _ h => h) (Or.inl ⟨by rfl, ?_⟩) (by assumption) ?_
          rotate_left
          · (intro w hSw; (try dsimp only at hSw); go_simp; (try with_reducible rfl))
          (try simp only [Act.put, List.setIfInBounds_toArray, List.set_cons_zero, List.set_cons_succ])
          refine wpAnyH_take (i := 3) (v := ?_) rfl (by kernel_rfl) (by kernel_rfl) (by kernel_rfl) (fun _ _ _ h => h) (Or.inl ⟨by rfl, ?_⟩) (by assumption) ?_
          rotate_left
          · (intro w hSw; (try dsimp only at hSw); go_simp; (try with_reducible rfl))
          (try simp only [Act.put, List.setIfInBounds_toArray, List.set_cons_zero, List.set_cons_succ])
          refine wpAnyH_ready (rs := [4]) (by kernel_rfl) (by simp) ?_
          refine AllReadyH.cons rfl (fun K hK => ?_) AllReadyH.nil
          go_simp
          clear b2 hz
          revert hb3 d0 d6 hHeld
          generalize w5.drew = w6
          intro hb3 d0 d6 hHeld
          refine (markError_any b.leaves _).mono ?_
          rintro e w7 ⟨⟨n, rfl, hn⟩, hb⟩
          have hz3 := hb3.size
          have hb4 := hb3.trans (hb.mono hz3)
          have d0 := cell_later' hb d0
          have d6 := cell_later' hb d6
          clear hb
          go_simp
          refine hK.out _ _ ?_ (fun hNew => ?_)
          · (try dsimp only); go_keep
          clear hK K hHeld
          have hHeld := hNew
          clear hNew
          (try simp only [Act.put, List.setIfInBounds_toArray, List.set_cons_zero, List.set_cons_succ])
          refine wpAnyH_ready (rs := [5]) (by kernel_rfl) (by simp) ?_
          refine AllReadyH.cons rfl (fun K hK => ?_) AllReadyH.nil
          go_simp
          refine (listM_any 0 8 b.leaves b.marks mv n w.heap.size _ (HM.out.same fun k hk => hb4.block k hk) hb4.size hn (by decide)).mono ?_
          rintro e w8 ⟨rfl, ho⟩
          rw [← HMM.out]
          have hb5 := hb4.trans (ho.mono hb4.size)
          have d0 := cell_later' ho d0
          have d6 := cell_later' ho d6
          clear ho hb4 hb3 hn
          dsimp only
          go_simp
          refine hK.out _ _ ?_ (fun hNew => ?_)
          · (try dsimp only); go_keep
          clear hK K hHeld
          have hHeld := hNew
          clear hNew
          (try simp only [Act.put, List.setIfInBounds_toArray, List.set_cons_zero, List.set_cons_succ])
          refine wpAnyH_take (i := 6) (v := ?_) rfl (by kernel_rfl) (by kernel_rfl) (by kernel_rfl) (fun _ _ _ h => h) (Or.inl ⟨by rfl, ?_⟩) (by assumption) ?_
          rotate_left
          · (intro w hSw; (try dsimp only at hSw); go_simp; (try with_reducible rfl))
          (try simp only [Act.put, List.setIfInBounds_toArray, List.set_cons_zero, List.set_cons_succ])
          refine wpAnyH_take (i := 7) (v := ?_) rfl (by kernel_rfl) (by kernel_rfl) (by kernel_rfl) (fun _ _ _ h => h) (Or.inl ⟨by rfl, ?_⟩) (by assumption) ?_
          rotate_left
          · (intro w hSw; (try dsimp only at hSw); go_simp; (try with_reducible rfl))
          (try simp only [Act.put, List.setIfInBounds_toArray, List.set_cons_zero, List.set_cons_succ])
          refine wpAnyH_take (i := 8) (v := ?_) rfl (by kernel_rfl) (by kernel_rfl) (by kernel_rfl) (fun _ _ _ h => h) (Or.inl ⟨by rfl, ?_⟩) (by assumption) ?_
          rotate_left
          · (intro w hSw; (try dsimp only at hSw); go_simp; (try with_reducible rfl))
          (try simp only [Act.put, List.setIfInBounds_toArray, List.set_cons_zero, List.set_cons_succ])
          refine wpAnyH_take (i := 9) (v := ?_) rfl (by kernel_rfl) (by kernel_rfl) (by kernel_rfl) (fun _ _ _ h => h) (Or.inl ⟨by rfl, ?_⟩) (by assumption) ?_
          rotate_left
          · (intro w hSw; (try dsimp only at hSw); go_simp; (try with_reducible rfl))
          (try simp only [Act.put, List.setIfInBounds_toArray, List.set_cons_zero, List.set_cons_succ])
          refine wpAnyH_take (i := 10) (v := ?_) rfl (by kernel_rfl) (by kernel_rfl) (by kernel_rfl) (fun _ _ _ h => h) (Or.inl ⟨by rfl, ?_⟩) (by assumption) ?_
          rotate_left
          · (intro w hSw; (try dsimp only at hSw); go_simp; (try with_reducible rfl))
          (try simp only [Act.put, List.setIfInBounds_toArray, List.set_cons_zero, List.set_cons_succ])
          refine wpAnyH_done (by kernel_rfl) ?_ _
          clear hHeld
          have hb3 := hb5
          clear hb5
          by_cases h4 : m2 = 0
          · have HR2 : Hid (r1 = 0 ∧ r2 = 0 ∧ r3 = 0) := Lib.hid (by have := HR4.out; rw [if_neg (by rw [h4]; decide)] at this; simpa using this)
            clear HR4 HMM
            subst h4
            go_wp2_with fail
            go_ret3
            exact ⟨by rw [HR2.out.1, HR2.out.2.1, HR2.out.2.2]; rfl, hb3⟩
          · have HR2 : Hid (r1 = 4 ∧ r2 = m1 ∧ r3 = m2) := Lib.hid (by have := HR4.out; rw [if_pos h4] at this; simpa using this)
            have h0b : (m2 != 0) = true := by simp [h4]
            clear h4 HR4 HMM
            go_wp2_with fail
            go_ret3
            exact ⟨by rw [HR2.out.1, HR2.out.2.1, HR2.out.2.2]; rfl, hb3⟩
        · have HR2 : Hid (r1 = 3 ∧ r2 = 0 ∧ r3 = es) := Lib.hid (by have := HR3.out; rw [if_pos h3] at this; simpa using this)
          have h0b : (es != 0) = true := by simp [h3]
          clear h3 HR3
          go_wp2_with fail
          go_ret3
          exact ⟨by rw [HR2.out.1, HR2.out.2.1, HR2.out.2.2]; rfl, hb3⟩
  · have HO : Hid (openP p (.agg #[.slice a n1 cap, .slice a2 n2 cap2, .int .i64 p.trim, .int .i64 p.sheets]) = .agg #[.slice none 0 0, .slice none 0 0, .int .i64 0, .int .i64 0]) := Lib.hid (by unfold openP; rw [if_neg (fun h => h0 (HEP.out.trans h))])
    rw [HO.out]
    have HR1 : Hid (r1 = 0 ∧ r2 = 0 ∧ r3 = ep) := Lib.hid (by have := HR.out; rw [if_pos h0] at this; simpa using this)
    have h0b : (ep != 0) = true := by simp [h0]
    clear h0 HR HEP HO
    go_wp2_with fail
    go_ret3
    exact ⟨by rw [HR1.out.1, HR1.out.2.1, HR1.out.2.2]; rfl, (by repeat (first | (refine Below.setCell ?_ ?_ _; rotate_left; · (first | omega | (simp; done) | (simp; omega) | fail)) | (refine Below.alloc ?_ ?_ _; rotate_left; · (first | omega | (simp; done) | (simp; omega) | fail)) | refine Below.drew ?_ | exact hb3 | fail))⟩
end Go.Proofs.YthnifhejmoggmaaGreatDoor

/- 'list = append(list, x)' in a round: the row is as before or new. For any program. -/
namespace Go.Proofs.YthnifhejmoggmaaGreatDoor
set_option linter.unusedSimpArgs false
set_option linter.unusedVariables false
open Go Go.RowKit

theorem run_append_one {P : Program} (w : World) (base : Nat) (t ty e : TypeId) (i : TypeInfo) (z : Value) (size bytes : Nat) (ht : P.underlying t = some (.slice e)) (hi : P.info? e = some i) (hz : i.zero = some z)
    (hsize : i.size = size) (hby : i.bytes = bytes) (hzs : z.cells.size = size) (hsz : 0 < size)
    (v : Value) (n : Nat) (xs : List Value) (hown : w.ownsRow base e size v n xs)
    (a : Addr) (c : Nat) (news : List Value) (hl : news.length = size) (hnews : ∀ j u, news[j]? = some u → w.cell? (a.add j) = some u) (h1 : ∀ u ∈ news, u.oneCell' = true)
    (h63 : n + 1 ≤ maxLen) (hbytes : (n + 1) * bytes ≤ 140737488355328) (hbase : base ≤ w.heap.size) :
    ∃ g cap w', (Builtin.append_ #[t, t] ty #[v, .slice (some a) 1 c]).run P w = .ok (.slice (some ⟨g, 0, none⟩) (n + 1) cap) w' ∧ w'.ownsRow base e size (.slice (some ⟨g, 0, none⟩) (n + 1) cap) (n + 1) (xs ++ news) ∧ w.grownBy w' v.ownBlock ∧
      (v.ownBlock = some g ∨ w.heap.size ≤ g) := by
  have hl1 : news.length = 1 * size := by omega
  obtain ⟨v', w', hr, ho, hg, -⟩ := run_append_own (P := P) w base t ty e i z size bytes ht hi hz hsize hby hzs hsz v n xs hown a 1 c news hl1 hnews h1 h63 hbytes hbase
  obtain ⟨g, cap, rfl⟩ := ownsRow_succ ho
  refine ⟨g, cap, w', hr, ho, hg, ?_⟩
  rcases hown.2 with ⟨rfl, rfl⟩ | ⟨g0, cap0, cur, rfl, hbg, hg0, hnc, hcm, hcs, htake⟩
  · have hx : xs = [] := List.eq_nil_of_length_eq_zero (by simpa using hown.1)
    subst hx
    obtain ⟨v2, w2, hr2, ho2, -, -⟩ := run_append_own (P := P) w w.heap.size t ty e i z size bytes ht hi hz hsize hby hzs hsz (.slice none 0 0) 0 [] (World.ownsRow_nil w _ _ _) a 1 c news hl1 hnews h1 h63 hbytes (Nat.le_refl _)
    rw [hr] at hr2
    cases hr2
    rcases ho2.2 with ⟨h, -⟩ | ⟨g', cap', cur', h, hb', -⟩
    · cases h
    · cases h; exact Or.inr hb'
  · subst hsize
    by_cases hroom : n + 1 ≤ cap0
    · have hfit : n * i.size + news.length ≤ cur.size := by rw [hl1, hcs, ← Nat.add_mul]; exact Nat.mul_le_mul_right _ hroom
      have hr2 := run_append_room (P := P) w t ty e i ht hi g0 n cap0 cur hg0 a 1 c news hl1 hnews h1 hroom hfit
      rw [hr] at hr2
      cases hr2
      exact Or.inl rfl
    · have hcell : ∀ j u, xs[j]? = some u → w.cell? ((⟨g0, 0, none⟩ : Addr).add j) = some u := World.ownsRow.cells hown (by simp [Value.ownBlock])
      have hr2 := run_append_grow (P := P) w t ty e i z ht hi hz ⟨g0, 0, none⟩ n cap0 xs hown.1 hcell a 1 c news hl1 hnews (by omega) (by simp only [maxLen] at h63; omega) (growslice_fits (by omega) (by rw [hby]; exact hbytes))
      rw [hr] at hr2
      cases hr2
      exact Or.inr (Nat.le_refl _)

theorem wpListIn_append_one {F : Fence} {n : Nat} {P : Program} (w : World) {ops : Array Oper} {rest : List Oper} {o : Oper} {a : Act} {Q : Exit → Act → World → Prop}
    (hg : o.guard = none) (s x : Operand) (t : TypeId) (hop : o.op = Op.call { callee := Callee.builtin Builtin.append, args := #[s, x], argTypes := #[t, t] })
    (base : Nat) (e : TypeId) (i : TypeInfo) (z : Value) (size bytes : Nat) (h1 : P.underlying t = some (.slice e)) (h2 : P.info? e = some i) (h3 : i.zero = some z) (h4 : i.size = size) (h5 : i.bytes = bytes) (h6 : z.cells.size = size) (h7 : 0 < size)
    (v : Value) (k : Nat) (xs : List Value) (hs : a.eval s = v) (hown : w.ownsRow base e size v k xs) (ad : Addr) (c : Nat) (news : List Value) (hx : a.eval x = .slice (some ad) 1 c) (hn : news.length = size)
    (hc : ∀ j u, news[j]? = some u → w.cell? (ad.add j) = some u) (h1c : ∀ u ∈ news, u.oneCell' = true) (b1 : k + 1 ≤ maxLen) (b2 : (k + 1) * bytes ≤ 140737488355328) (b3 : base ≤ w.heap.size)
    (hK : ∀ g cap w', w'.ownsRow base e size (.slice (some ⟨g, 0, none⟩) (k + 1) cap) (k + 1) (xs ++ news) → w.grownBy w' v.ownBlock → (v.ownBlock = some g ∨ w.heap.size ≤ g) → wpListIn F n P ops Q rest (a.put o.dst (.slice (some ⟨g, 0, none⟩) (k + 1) cap)) w') :
    wpListIn F n P ops Q (o :: rest) a w := by
  refine wpListIn_plain hg fun K hK' => ?_
  obtain ⟨g, cap, w', hrun, r1, r2, r3⟩ := run_append_one (P := P) w base t o.type e i z size bytes h1 h2 h3 h4 h5 h6 h7 v k xs hown ad c news hn hc h1c b1 b2 b3
  unfold Oper.wpIn
  refine ⟨?_, ?_⟩
  · simp [Oper.about, hop, resolve, Target.leads, Sem.run_pure]
  · rw [Oper.semAt_plain F _ _ (by rw [hop]; intro c hc'; cases hc')]
    simp [execOp, hop, resolve, invoke, builtin, hs, hx, hrun, Result.andThen]
    exact hK' _ _ (hK g cap w' r1 r2 r3)

/-- A variable's box holds a slice of the call's own. -/
def ListAt (W : World) (base BL : Nat) (ty e : TypeId) (size k : Nat) (xs : List Value) : Prop := ∃ v, W.heap[BL]? = some (.cells #[v] ty) ∧ W.ownsRow base e size v k xs
/-- The row of that slice. -/
def OwL (BL : Nat) (ty : TypeId) (W : World) (j : Nat) : Prop := ∃ v, W.heap[BL]? = some (.cells #[v] ty) ∧ v.ownBlock = some j
theorem ListAt.own {W : World} {base BL : Nat} {ty e : TypeId} {size k : Nat} {xs : List Value} (h : ListAt W base BL ty e size k xs) {j : Nat} (hj : OwL BL ty W j) : base ≤ j ∧ ∃ c t f, W.heap[j]? = some (.cells c t f) := by
  obtain ⟨v, h1, h2⟩ := h
  obtain ⟨u, h3, h4⟩ := hj
  rw [h1] at h3
  simp only [Option.some.injEq, Obj.cells.injEq, Array.mk.injEq, List.cons.injEq, and_true] at h3
  subst h3
  refine ⟨(h2.lt j h4).1, ?_⟩
  rcases h2.2 with ⟨rfl, -⟩ | ⟨g, cap, cur, rfl, -, hg, -⟩
  · simp [Value.ownBlock] at h4
  · simp only [Value.ownBlock, Option.some.injEq] at h4
    subst h4
    exact ⟨_, _, _, hg⟩
theorem ListAt.only {W W' : World} {X : Nat → Prop} {hs base BL : Nat} {ty e : TypeId} {size k : Nat} {xs : List Value} (h : ListAt W base BL ty e size k xs) (ho : OnlyIn X W W') (hX : ∀ j, X j → hs ≤ j ∧ ¬ OwL BL ty W j) (hBL : BL < hs) :
    ListAt W' base BL ty e size k xs ∧ ∀ j, OwL BL ty W' j → OwL BL ty W j := by
  obtain ⟨v, h1, h2⟩ := h
  have h1' : W'.heap[BL]? = some (.cells #[v] ty) := (ho.block BL (Array.getElem?_eq_some_iff.1 h1).1 (fun hx => by have := (hX _ hx).1; omega)).trans h1
  refine ⟨⟨v, h1', h2.1, ?_⟩, fun j ⟨u, h3, h4⟩ => ?_⟩
  · rcases h2.2 with hn | ⟨g, cap, cur, rfl, hb, hg, rest⟩
    · exact .inl hn
    · refine .inr ⟨g, cap, cur, rfl, hb, ?_, rest⟩
      exact (ho.block g (Array.getElem?_eq_some_iff.1 hg).1 (fun hx => (hX _ hx).2 ⟨_, h1, by simp [Value.ownBlock]⟩)).trans hg
  · rw [h1'] at h3
    simp only [Option.some.injEq, Obj.cells.injEq, Array.mk.injEq, List.cons.injEq, and_true] at h3
    subst h3
    exact ⟨v, h1, h4⟩
/-- Behind 'list = append(list, x)'. -/
theorem list_step {W Wt w' : World} {hs base BL : Nat} {ty e : TypeId} {size k g cap : Nat} {v : Value} {xs ys : List Value} {Pr : Nat → Prop} (hL : W.heap[BL]? = some (.cells #[v] ty)) (hrow : W.ownsRow base e size v k xs) (_hty : ty ≠ e)
    (ho : OnlyIn (fun _ => False) W Wt) (hown : w'.ownsRow base e size (.slice (some ⟨g, 0, none⟩) (k + 1) cap) (k + 1) ys) (hgrow : Wt.grownBy w' v.ownBlock) (hg : v.ownBlock = some g ∨ Wt.heap.size ≤ g)
    (hBL : BL < hs) (hb : hs ≤ base) (hPr : ∀ j, Pr j → j ≠ BL ∧ j < base ∧ j < W.heap.size) :
    w'.heap[BL]? = some (.cells #[v] ty) ∧ ListAt (w'.setCell ⟨BL, 0, none⟩ (.slice (some ⟨g, 0, none⟩) (k + 1) cap)) base BL ty e size (k + 1) ys ∧
      Turn hs Pr (OwL BL ty) W (w'.setCell ⟨BL, 0, none⟩ (.slice (some ⟨g, 0, none⟩) (k + 1) cap)) ∧ OnlyIn (fun j => j = BL ∨ base ≤ j) W (w'.setCell ⟨BL, 0, none⟩ (.slice (some ⟨g, 0, none⟩) (k + 1) cap)) := by
  have hBlt : BL < W.heap.size := (Array.getElem?_eq_some_iff.1 hL).1
  have hLt : Wt.heap[BL]? = some (.cells #[v] ty) := (ho.block BL hBlt (fun h => h)).trans hL
  have hnr : some BL ≠ v.ownBlock := fun e' => by
    have h := (hrow.lt BL e'.symm).1; omega
  have hLw : w'.heap[BL]? = some (.cells #[v] ty) := (hgrow.block BL (Array.getElem?_eq_some_iff.1 hLt).1 hnr).trans hLt
  have hne : g ≠ BL := fun e' => by
    rcases hg with h | h
    · exact hnr (by rw [h, e'])
    · have := (Array.getElem?_eq_some_iff.1 hLt).1; omega
  have hL3 : (w'.setCell ⟨BL, 0, none⟩ (.slice (some ⟨g, 0, none⟩) (k + 1) cap)).heap[BL]? = some (.cells #[.slice (some ⟨g, 0, none⟩) (k + 1) cap] ty) := blk_set1 hLw _
  have hkeep : ∀ j, j < W.heap.size → j ≠ BL → some j ≠ v.ownBlock → (w'.setCell ⟨BL, 0, none⟩ (.slice (some ⟨g, 0, none⟩) (k + 1) cap)).heap[j]? = W.heap[j]? := fun j hj hjB hjv =>
    (heap_setCell_past w' ⟨BL, 0, none⟩ _ j hjB).trans ((hgrow.block j (Nat.lt_of_lt_of_le hj ho.size) hjv).trans (ho.block j hj (fun h => h)))
  have hsz : W.heap.size ≤ (w'.setCell ⟨BL, 0, none⟩ (.slice (some ⟨g, 0, none⟩) (k + 1) cap)).heap.size := by
    simp only [World.size_setCell]; exact Nat.le_trans ho.size hgrow.size
  refine ⟨hLw, ⟨_, hL3, hown.kept (grownBy_setCell' w' BL _) (.inr (by simp only [Value.ownBlock, ne_eq, Option.some.injEq]; exact hne))⟩, ⟨hsz, fun j hj => ?_, fun j h1 h2 h3 => ?_, fun j hj ⟨u, h3, h4⟩ => ?_⟩, ⟨?_, ?_, ?_, hsz, fun j hj hx => ?_⟩⟩
  · obtain ⟨a1, a2, a3⟩ := hPr j hj
    exact hkeep j a3 a1 (fun e' => by have := (hrow.lt j e'.symm).1; omega)
  · exact hkeep j h2 (by omega) (fun e' => h3 ⟨v, hL, e'.symm⟩)
  · rw [hL3] at h3
    simp only [Option.some.injEq, Obj.cells.injEq, Array.mk.injEq, List.cons.injEq, and_true] at h3
    subst h3
    simp only [Value.ownBlock, Option.some.injEq] at h4
    subst h4
    rcases hg with h | h
    · exact ⟨v, hL, h⟩
    · have := ho.size; omega
  · show w'.os = _; rw [hgrow.os, ho.os]
  · show w'.tape = _; rw [hgrow.tape, ho.tape]
  · show w'.output = _; rw [hgrow.output, ho.output]
  · exact hkeep j hj (fun e' => hx (Or.inl e')) (fun e' => hx (Or.inr (hrow.lt j e'.symm).1))

theorem cells_new (W : World) (l : List Value) (t : TypeId) : ∀ j u, l[j]? = some u → (W.alloc (.cells ⟨l⟩ t)).cell? ((⟨W.heap.size, 0, none⟩ : Addr).add j) = some u := by
  intro j u hu
  have hadd : (⟨W.heap.size, 0, none⟩ : Addr).add j = ⟨W.heap.size, j, none⟩ := by unfold Addr.add; split <;> simp_all
  rw [hadd, blk_cell (heap_alloc_at W _ _ rfl) j]
  simpa using hu
theorem row_mono {W : World} {base b' : Nat} {e : TypeId} {size k : Nat} {v : Value} {xs : List Value} (h : W.ownsRow base e size v k xs) (hb : b' ≤ base) : W.ownsRow b' e size v k xs :=
  ⟨h.1, h.2.imp id fun ⟨g, cap, cur, he, hb', rest⟩ => ⟨g, cap, cur, he, Nat.le_trans hb hb', rest⟩⟩
theorem elemOf {P : Program} {e : TypeId} {z : Value} {size bytes : Nat} (h : (P.info? e).map (fun i => (i.zero, i.size, i.bytes)) = some (some z, size, bytes)) : ∃ i, P.info? e = some i ∧ i.zero = some z ∧ i.size = size ∧ i.bytes = bytes := by
  cases hi : P.info? e with
  | none => rw [hi] at h; cases h
  | some i =>
    rw [hi] at h
    simp only [Option.map_some, Option.some.injEq, Prod.mk.injEq] at h
    exact ⟨i, rfl, h.1, h.2.1, h.2.2⟩
theorem grown_of_below {W W1 : World} (h : Below W.heap.size W W1) : W.grownBy W1 none := ⟨h.os, h.tape, h.output, h.size, fun k hk _ => h.block k hk⟩
theorem row_later {W W1 : World} {base : Nat} {e : TypeId} {size k : Nat} {v : Value} {xs : List Value} (h : W.ownsRow base e size v k xs) (hb : Below W.heap.size W W1) : W1.ownsRow base e size v k xs :=
  h.kept (grown_of_below hb) (by cases v.ownBlock <;> simp)
/-- A round that only calls and lays blocks. -/
theorem list_stay {W W1 : World} {hs base BL : Nat} {ty e : TypeId} {size k : Nat} {v : Value} {xs : List Value} {Pr : Nat → Prop} (hL : W.heap[BL]? = some (.cells #[v] ty)) (hrow : W.ownsRow base e size v k xs) (hb : Below W.heap.size W W1) (hPr : ∀ j, Pr j → j < W.heap.size) :
    Turn hs Pr (OwL BL ty) W W1 ∧ ListAt W1 base BL ty e size k xs := by
  have hL1 := blk_later hb hL
  refine ⟨⟨hb.size, fun j hj => hb.block j (hPr j hj), fun j _ hj _ => hb.block j hj, fun j _ ⟨u, h3, h4⟩ => ?_⟩, v, hL1, row_later hrow hb⟩
  rw [hL1] at h3
  simp only [Option.some.injEq, Obj.cells.injEq, Array.mk.injEq, List.cons.injEq, and_true] at h3
  subst h3
  exact ⟨v, hL, h4⟩
/-- THE STATEMENT, its body collecting in a slice that lies in a box. -/
theorem rf_list {P : Program} {n : Nat} {α : Type} {g : Operand} {ps : Array Tmp} {assign body : Code} {Q : Exit → Act → World → Prop} {a : Act} {w : World}
    {gf : Nat} {lb : Array Value} (hg : a.eval g = .func (.func gf) #[] lb) (eg : ∀ args w, (callFunc gf args).run P w = .ok (.enter gf args) w)
    {encs : α → Array Value} {xs : List α} {Pr : Nat → Prop} (hit : ItC P gf lb encs xs Pr w) (hps : ∀ x, (encs x).size = ps.size) (hPr : ∀ k, Pr k → k < w.heap.size)
    (w0 : World) (bs : List (Nat × Obj)) (BL : Nat) (ty e : TypeId) (size : Nat) (kf : List α → Nat) (xf : List α → List Value) (o : α → Obj) (upd : α → Nat → List (Nat × Value))
    (hbs : ∀ p ∈ bs, p.1 < w.heap.size) (h0 : Held w0 bs w) (hL0 : w.heap[BL]? = some (.cells #[.slice none 0 0] ty)) (hk0 : kf [] = 0) (hx0 : xf [] = [])
    (hassign : ∀ (l : Nat) (x : α) (W : World) (K : Act → World → Prop), K { tmps := putAll a.tmps (upd x W.heap.size), defers := [] } (W.alloc (o x)) →
      assign.wpIn (Fence.wide.inRound l) 9 P (Exit.then K (fun _ _ _ => False)) { tmps := (ps.zip (encs x)).foldl (fun t (p, v) => t.setIfInBounds p v) a.tmps, defers := [] } W)
    (hbody : ∀ (l : Nat) (pre : List α) (x : α) (rest : List α) (bx : Nat) (W : World) (v : Value), xs = pre ++ x :: rest → Held w0 bs W → W.heap[BL]? = some (.cells #[v] ty) → W.ownsRow w.heap.size e size v (kf pre) (xf pre) → W.heap[bx]? = some (o x) → w.heap.size ≤ bx → v.ownBlock ≠ some bx →
      body.wpIn (Fence.wide.inRound l) 9 P (fun e' _ W' => e' = .normal ∧ Turn w.heap.size Pr (OwL BL ty) W W' ∧ Held w0 bs W' ∧ ListAt W' w.heap.size BL ty e size (kf (pre ++ [x])) (xf (pre ++ [x]))) { tmps := putAll a.tmps (upd x bx), defers := [] } W)
    (hdone : ∀ (D : Nat) (W : World) (v : Value), w.heap.size ≤ D → Held w0 bs W → W.heap[BL]? = some (.cells #[v] ty) → W.ownsRow w.heap.size e size v (kf xs) (xf xs) → W.heap[D]? = some (.deferred (some [])) → Q .normal { a with defers := { target := .collected D, args := #[] } :: a.defers } W) :
    (Code.rangeFunc g ps assign body).wpIn Fence.wide n P Q a w := by
  have hBL : BL < w.heap.size := (Array.getElem?_eq_some_iff.1 hL0).1
  refine rf_law2 hg eg hit hps hPr (fun pre W => Held w0 bs W ∧ ListAt W w.heap.size BL ty e size (kf pre) (xf pre)) (fun _ _ _ => False) (OwL BL ty) o upd
    (fun pre W k h hk => (h.2.own hk).2) ?_ (fun _ _ _ _ _ h => h.elim) ⟨h0, _, hL0, by rw [hk0, hx0]; exact World.ownsRow_nil _ _ _ _⟩ hassign ?_ ?_ (fun _ _ _ _ _ h => h.elim)
  · rintro pre X W W' ⟨h1, h2⟩ ho hX
    obtain ⟨h3, h4⟩ := h2.only ho hX hBL
    exact ⟨⟨h1.only ho (hs := w.heap.size) (fun k h => (hX k h).1) h0.below.size hbs, h3⟩, h4⟩
  · rintro l pre x rest bx W hsp ⟨h1, v, h2, h3⟩ hbx hlb hnb
    refine wpIn_mono (hbody l pre x rest bx W v hsp h1 h2 h3 hbx hlb (fun e' => hnb ⟨v, h2, e'⟩)) ?_
    rintro e' a' W' ⟨rfl, q1, q2, q3⟩
    exact ⟨q1, q2, q3⟩
  · rintro D W hD ⟨h1, v, h2, h3⟩ hd
    exact hdone D W v hD h1 h2 h3 hd

end Go.Proofs.YthnifhejmoggmaaGreatDoor

/- Rows of strings that grow. -/
namespace Go.Proofs.YthnifhejmoggmaaGreatDoor
set_option linter.unusedSimpArgs false
set_option linter.unusedVariables false
open Go Go.RowKit Go.Sort Go.BigFrame

theorem add_offi (g j : Nat) : (⟨g, 0, none⟩ : Addr).add j = ⟨g, j, none⟩ := by unfold Addr.add; split <;> simp_all
theorem strs_of_row {W : World} {base : Nat} {v : Value} {e : TypeId} {xs : List Bs} (h : W.ownsRow base e 1 v xs.length (xs.map S)) : StrsAt W v xs := by
  rcases h.2 with ⟨rfl, h0⟩ | ⟨g, cap, cur, rfl, hb, hg, rest⟩
  · exact ⟨none, 0, by rw [h0], fun hne => absurd (List.length_eq_zero_iff.1 h0) hne⟩
  · refine ⟨_, cap, rfl, fun _ => ⟨g, rfl, blk_lt hg, fun i x hx => ?_⟩⟩
    have hc := h.cells (g := g) (by simp [Value.ownBlock])
    have := hc i (S x) (by rw [List.getElem?_map, hx]; rfl)
    rwa [add_offi] at this
/-- Growing a row of one's own leaves all that was there before it. -/
theorem below_row {W W' : World} {base : Nat} {v : Value} {e : TypeId} {s n : Nat} {xs : List Value} (h : W.ownsRow base e s v n xs) (hz : base ≤ W.heap.size) (hg : W.grownBy W' v.ownBlock) : Below base W W' :=
  ((Below.refl _ W).mono hz).grown hg hz (fun k hk => (h.lt k hk).1)

theorem elemStr : ∃ i, Tryz.prog.info? 9 = some i ∧ i.zero = some (.string ⟨#[]⟩) ∧ i.size = 1 ∧ i.bytes = 16 := elemOf (by kernel_rfl)
theorem undStrs : Tryz.prog.underlying 80 = some (.slice 9) := by kernel_rfl
end Go.Proofs.YthnifhejmoggmaaGreatDoor
