/- The parts Ie, If, Ig, Ih, Ii, Ij, Ik, Il of the proof, joined. It holds without conditions of its own. -/
import Derived.Test.YtpdhdgdbknnllaaGreatDoorFX4
set_option maxRecDepth 100000
set_option maxHeartbeats 20000000
namespace Go.Proofs.YtpdhdgdbknnllaaGreatDoor
section
set_option linter.unusedSimpArgs false
set_option linter.unusedVariables false
open Go Go.RowKit Go.Sort Go.BigFrame
theorem in2_any (n lo hi : Int) (w : World) :
  Calls Tryz.prog 32 #[.int .i64 n, .int .i64 lo, .int .i64 hi] w fun e w' => e = .returned (.bool (inI lo hi n)) /\ w' = w := by
 cases h1 : decide (lo <= n) with
 | false =>
   have e : inI lo hi n = false := by simp [inI, h1]
   rw [e]
   go_enter Tryz.func32, Tryz.ntmps32
   go_wp2_with fail
   go_ret
   exact ⟨rfl, rfl⟩
 | true =>
   have e : inI lo hi n = decide (n <= hi) := by simp [inI, h1]
   rw [e]
   go_enter Tryz.func32, Tryz.ntmps32
   go_wp2_with fail
   go_ret
   exact ⟨rfl, rfl⟩
def rangeErr (lo hi a b : Int) : Int := if (inI lo hi a && inI lo hi b) = false then 7 else if b < a then 2 else 0
theorem refRange_any (a b lo hi : Int) (w : World) :
  Calls Tryz.prog 98 #[.agg #[.int .i64 a, .int .i64 b], .int .i64 lo, .int .i64 hi] w fun e w' => e = .returned (.int .i64 (rangeErr lo hi a b)) /\ Below w.heap.size w w' := by
 have key : ∀ r : Int, (¬ (lo <= min a b /\ max a b <= hi) -> r = 7) -> ((lo <= min a b /\ max a b <= hi) -> b < a -> r = 2) -> ((lo <= min a b /\ max a b <= hi) -> ¬ b < a -> r = 0) -> rangeErr lo hi a b = r := by
  intro r h1 h2 h3
  by_cases h : lo <= min a b /\ max a b <= hi
  · have e : (inI lo hi a && inI lo hi b) = true := by simp only [inI, Bool.and_eq_true, decide_eq_true_eq]; omega
    by_cases h' : b < a
    · rw [h2 h h']; simp [rangeErr, e, h']
    · rw [h3 h h']; simp [rangeErr, e, h']
  · have e : (inI lo hi a && inI lo hi b) = false := by
     cases e : (inI lo hi a && inI lo hi b) with
     | false => rfl
     | true => exact absurd (by simp only [inI, Bool.and_eq_true, decide_eq_true_eq] at e; omega) h
    rw [h1 h]; simp [rangeErr, e]
 rcases Int.lt_trichotomy a b with ho | ho | ho
 · by_cases h1 : lo <= a
   · by_cases h2 : b <= hi
     · have HF := Lib.hid (key 0 (fun h => by omega) (fun _ h => by omega) (fun _ _ => rfl))
       clear key
       go_enter Tryz.func98, Tryz.ntmps98
       go_wp2_with fail
       all_goals first
        | (exfalso; omega)
        | (go_ret; exact ⟨by rw [HF.out]; rfl, (by repeat (first | exact Below.refl _ _ | assumption | (refine Below.alloc ?_ ?_ _; rotate_left; · (first | omega | (simp; done) | (simp; omega) | fail)) | (refine Below.setCell ?_ ?_ _; rotate_left; · (first | omega | (simp; done) | (simp; omega) | fail)) | refine Below.drew ?_ | fail))⟩)
     · have HF := Lib.hid (key 7 (fun h => rfl) (fun h _ => by omega) (fun h _ => by omega))
       clear key
       go_enter Tryz.func98, Tryz.ntmps98
       go_wp2_with fail
       all_goals first
        | (exfalso; omega)
        | (go_ret; exact ⟨by rw [HF.out]; rfl, (by repeat (first | exact Below.refl _ _ | assumption | (refine Below.alloc ?_ ?_ _; rotate_left; · (first | omega | (simp; done) | (simp; omega) | fail)) | (refine Below.setCell ?_ ?_ _; rotate_left; · (first | omega | (simp; done) | (simp; omega) | fail)) | refine Below.drew ?_ | fail))⟩)
   · have HF := Lib.hid (key 7 (fun h => rfl) (fun h _ => by omega) (fun h _ => by omega))
     clear key
     go_enter Tryz.func98, Tryz.ntmps98
     go_wp2_with fail
     all_goals first
      | (exfalso; omega)
      | (go_ret; exact ⟨by rw [HF.out]; rfl, (by repeat (first | exact Below.refl _ _ | assumption | (refine Below.alloc ?_ ?_ _; rotate_left; · (first | omega | (simp; done) | (simp; omega) | fail)) | (refine Below.setCell ?_ ?_ _; rotate_left; · (first | omega | (simp; done) | (simp; omega) | fail)) | refine Below.drew ?_ | fail))⟩)
 · subst ho
   by_cases h1 : lo <= a
   · by_cases h2 : a <= hi
     · have HF := Lib.hid (key 0 (fun h => by omega) (fun _ h => by omega) (fun _ _ => rfl))
       clear key
       go_enter Tryz.func98, Tryz.ntmps98
       go_wp2_with fail
       all_goals first
        | (exfalso; omega)
        | (go_ret; exact ⟨by rw [HF.out]; rfl, (by repeat (first | exact Below.refl _ _ | assumption | (refine Below.alloc ?_ ?_ _; rotate_left; · (first | omega | (simp; done) | (simp; omega) | fail)) | (refine Below.setCell ?_ ?_ _; rotate_left; · (first | omega | (simp; done) | (simp; omega) | fail)) | refine Below.drew ?_ | fail))⟩)
     · have HF := Lib.hid (key 7 (fun h => rfl) (fun h _ => by omega) (fun h _ => by omega))
       clear key
       go_enter Tryz.func98, Tryz.ntmps98
       go_wp2_with fail
       all_goals first
        | (exfalso; omega)
        | (go_ret; exact ⟨by rw [HF.out]; rfl, (by repeat (first | exact Below.refl _ _ | assumption | (refine Below.alloc ?_ ?_ _; rotate_left; · (first | omega | (simp; done) | (simp; omega) | fail)) | (refine Below.setCell ?_ ?_ _; rotate_left; · (first | omega | (simp; done) | (simp; omega) | fail)) | refine Below.drew ?_ | fail))⟩)
   · have HF := Lib.hid (key 7 (fun h => rfl) (fun h _ => by omega) (fun h _ => by omega))
     clear key
     go_enter Tryz.func98, Tryz.ntmps98
     go_wp2_with fail
     all_goals first
      | (exfalso; omega)
      | (go_ret; exact ⟨by rw [HF.out]; rfl, (by repeat (first | exact Below.refl _ _ | assumption | (refine Below.alloc ?_ ?_ _; rotate_left; · (first | omega | (simp; done) | (simp; omega) | fail)) | (refine Below.setCell ?_ ?_ _; rotate_left; · (first | omega | (simp; done) | (simp; omega) | fail)) | refine Below.drew ?_ | fail))⟩)
 · by_cases h1 : lo <= b
   · by_cases h2 : a <= hi
     · have HF := Lib.hid (key 2 (fun h => by omega) (fun _ h => rfl) (fun _ h => absurd ho h))
       clear key
       go_enter Tryz.func98, Tryz.ntmps98
       go_wp2_with fail
       all_goals first
        | (exfalso; omega)
        | (go_ret; exact ⟨by rw [HF.out]; rfl, (by repeat (first | exact Below.refl _ _ | assumption | (refine Below.alloc ?_ ?_ _; rotate_left; · (first | omega | (simp; done) | (simp; omega) | fail)) | (refine Below.setCell ?_ ?_ _; rotate_left; · (first | omega | (simp; done) | (simp; omega) | fail)) | refine Below.drew ?_ | fail))⟩)
     · have HF := Lib.hid (key 7 (fun h => rfl) (fun h _ => by omega) (fun h _ => by omega))
       clear key
       go_enter Tryz.func98, Tryz.ntmps98
       go_wp2_with fail
       all_goals first
        | (exfalso; omega)
        | (go_ret; exact ⟨by rw [HF.out]; rfl, (by repeat (first | exact Below.refl _ _ | assumption | (refine Below.alloc ?_ ?_ _; rotate_left; · (first | omega | (simp; done) | (simp; omega) | fail)) | (refine Below.setCell ?_ ?_ _; rotate_left; · (first | omega | (simp; done) | (simp; omega) | fail)) | refine Below.drew ?_ | fail))⟩)
   · have HF := Lib.hid (key 7 (fun h => rfl) (fun h _ => by omega) (fun h _ => by omega))
     clear key
     go_enter Tryz.func98, Tryz.ntmps98
     go_wp2_with fail
     all_goals first
      | (exfalso; omega)
      | (go_ret; exact ⟨by rw [HF.out]; rfl, (by repeat (first | exact Below.refl _ _ | assumption | (refine Below.alloc ?_ ?_ _; rotate_left; · (first | omega | (simp; done) | (simp; omega) | fail)) | (refine Below.setCell ?_ ?_ _; rotate_left; · (first | omega | (simp; done) | (simp; omega) | fail)) | refine Below.drew ?_ | fail))⟩)
theorem refRange_is (a b lo hi x : Int) (hx : x = rangeErr lo hi a b) (w : World) :
  Calls Tryz.prog 98 #[.agg #[.int .i64 a, .int .i64 b], .int .i64 lo, .int .i64 hi] w fun e w' => e = .returned (.int .i64 x) /\ Below w.heap.size w w' := by
 subst hx; exact refRange_any a b lo hi w
end
section
set_option linter.unusedSimpArgs false
set_option linter.unusedVariables false
open Go Go.RowKit Go.Sort Go.BigFrame
theorem both_is (lo hi a b c d : Int) : spansErr lo hi a b c d = if rangeErr lo hi a b = 7 ∨ rangeErr lo hi c d = 7 then 7 else if rangeErr lo hi a b ≠ 0 then rangeErr lo hi a b else rangeErr lo hi c d := by
 unfold spansErr rangeErr
 cases inI lo hi a <;> cases inI lo hi b <;> cases inI lo hi c <;> cases inI lo hi d <;> by_cases h1 : b < a <;> by_cases h2 : d < c <;> simp [h1, h2]
theorem both_any (a b c d lo hi : Int) (w : World) :
  Calls Tryz.prog 65 #[.agg #[.int .i64 a, .int .i64 b], .agg #[.int .i64 c, .int .i64 d], .int .i64 lo, .int .i64 hi] w fun e w' => e = .returned (.int .i64 (spansErr lo hi a b c d)) /\ Below w.heap.size w w' := by
 rw [both_is]
 obtain ⟨x, hx⟩ : ∃ x, x = rangeErr lo hi a b := ⟨_, rfl⟩
 obtain ⟨y, hy⟩ : ∃ y, y = rangeErr lo hi c d := ⟨_, rfl⟩
 rw [<- hx, <- hy]
 have HX := Lib.hid hx
 have HY := Lib.hid hy
 clear hx hy
 have key : ∀ p q r : Bool, decide (x = 7) = p -> decide (y = 7) = q -> decide (x = 0) = r -> (if x = 7 ∨ y = 7 then 7 else if x ≠ 0 then x else y) = if p = true ∨ q = true then 7 else if r = true then y else x := by
  rintro p q r rfl rfl rfl
  by_cases h1 : x = 7 <;> by_cases h2 : y = 7 <;> by_cases h3 : x = 0 <;> simp [h1, h2, h3]
 obtain ⟨z, hz⟩ : ∃ z, z = (if x = 7 ∨ y = 7 then 7 else if x ≠ 0 then x else y) := ⟨_, rfl⟩
 rw [<- hz] at key ⊢
 have HK := Lib.hid key
 clear key hz
 go_enter Tryz.func65, Tryz.ntmps65
 go_wp2_with fail
 have hb1 : Below w.heap.size w ((w.alloc (.cells #[.int .i64 a, .int .i64 b] 27)).alloc (.cells #[.int .i64 c, .int .i64 d] 27)) := by exact (by repeat (first | exact Below.refl _ _ | assumption | (refine Below.alloc ?_ ?_ _; rotate_left; · (first | omega | (simp; done) | (simp; omega) | fail)) | (refine Below.setCell ?_ ?_ _; rotate_left; · (first | omega | (simp; done) | (simp; omega) | fail)) | refine Below.drew ?_ | fail))
 have b1 : ((w.alloc (.cells #[.int .i64 a, .int .i64 b] 27)).alloc (.cells #[.int .i64 c, .int .i64 d] 27)).heap[w.heap.size]? = some (.cells #[.int .i64 a, .int .i64 b] 27) := (by repeat (first | exact heap_alloc_at _ _ _ (by (first | omega | (simp; done) | (simp; omega) | (simp at *; omega) | fail)) | assumption | rw [heap_alloc_past _ _ _ (by (first | omega | (simp; done) | (simp; omega) | (simp at *; omega) | fail))] | rw [heap_setCell_past _ _ _ _ (by (first | omega | (simp; done) | (simp; omega) | (simp at *; omega) | fail))] | fail))
 have b2 : ((w.alloc (.cells #[.int .i64 a, .int .i64 b] 27)).alloc (.cells #[.int .i64 c, .int .i64 d] 27)).heap[w.heap.size + 1]? = some (.cells #[.int .i64 c, .int .i64 d] 27) := (by repeat (first | exact heap_alloc_at _ _ _ (by (first | omega | (simp; done) | (simp; omega) | (simp at *; omega) | fail)) | assumption | rw [heap_alloc_past _ _ _ (by (first | omega | (simp; done) | (simp; omega) | (simp at *; omega) | fail))] | rw [heap_setCell_past _ _ _ _ (by (first | omega | (simp; done) | (simp; omega) | (simp at *; omega) | fail))] | fail))
 revert hb1 b1 b2
 generalize ((w.alloc (.cells #[.int .i64 a, .int .i64 b] 27)).alloc (.cells #[.int .i64 c, .int .i64 d] 27)) = w2
 intro hb1 b1 b2
 have r0 := cell_regrown (blk_cell b1 0)
 have r1' := cell_regrown (blk_cell b1 1)
 have s0 := cell_regrown (blk_cell b2 0)
 have s1 := cell_regrown (blk_cell b2 1)
 have cA : ∀ d' os, Calls Tryz.prog 98 #[.agg #[.int .i64 a, .int .i64 b], .int .i64 lo, .int .i64 hi] (grow (redrawn w2 d') os) (fun e w'' => e = .returned (.int .i64 x) /\ ∃ p : Regrown, w'' = grow (redrawn w2 p.d) p.os) := fun d' os => Calls.regrown_of (refRange_is a b lo hi x HX.out _)
 have cB : ∀ d' os, Calls Tryz.prog 98 #[.agg #[.int .i64 c, .int .i64 d], .int .i64 lo, .int .i64 hi] (grow (redrawn w2 d') os) (fun e w'' => e = .returned (.int .i64 y) /\ ∃ p : Regrown, w'' = grow (redrawn w2 p.d) p.os) := fun d' os => Calls.regrown_of (refRange_is c d lo hi y HY.out _)
 clear b1 b2
 refine wp_region_quiet_below (by kernel_rfl) (by kernel_rfl) ?_; (repeat (go_big_quiet_step (first | with_reducible exact cA _ _ | with_reducible exact cB _ _))); refine wpQuiet_nil ?_; rintro w3 ⟨⟨d3, os3⟩, rfl⟩
 have hb3 := hb1.trans ((below_regrown w2 d3 os3).mono hb1.size)
 clear r0 r1' s0 s1 cA cB
 cases hp : decide (x = 7) <;> cases hq : decide (y = 7) <;> cases hr : decide (x = 0)
 all_goals
  have HF := Lib.hid (HK.out _ _ _ hp hq hr)
  have p1 : (x == 7) = decide (x = 7) := rfl
  have q1 : (y == 7) = decide (y = 7) := rfl
  have r1 : (x != 0) = !(decide (x = 0)) := rfl
  rw [hp] at p1
  rw [hq] at q1
  rw [hr] at r1
  clear HK hp hq hr
  go_wp2_with fail
  go_ret
  exact ⟨by rw [HF.out]; rfl, hb3⟩
end
section
set_option linter.unusedSimpArgs false
set_option linter.unusedVariables false
open Go Go.RowKit Go.Sort Go.BigFrame Go.Lib
def fdB (c : UInt8) : Bool := c == 120 || c == 121
theorem fd_is (c : UInt8) : fdB c = !(((c.toNat : Int) != 120) && ((c.toNat : Int) != 121)) := by
 have h : ∀ m : UInt8, (c == m) = !((c.toNat : Int) != (m.toNat : Int)) := by
  intro m
  by_cases h : c = m
  · subst h; simp
  · have h2 : ¬ (c.toNat : Int) = (m.toNat : Int) := fun e => h (UInt8.toNat_inj.1 (by omega))
    have h3 : (c == m) = false := by simp [h]
    rw [h3]
    simp [h2]
 unfold fdB
 rw [h 120, h 121]
 rw [show ((120 : UInt8).toNat : Int) = 120 from rfl, show ((121 : UInt8).toNat : Int) = 121 from rfl, Bool.not_and]
theorem all_step {s : Bs} {k : Nat} {c : UInt8} (hc : s[k]? = some c) : (s.drop k).all fdB = (fdB c && (s.drop (k + 1)).all fdB) := by
 rw [drop_at hc]; rfl
theorem refFolds_any (s : Bs) (w : World) (hs : s.length <= 9223372036854775807) :
  Calls Tryz.prog 79 #[S s] w fun e w' => e = .returned (.int .i64 (fdsErr s)) /\ Below w.heap.size w w' := by
 have hzs : (⟨s.toArray⟩ : ByteArray).size = s.length := size_bytes s
 cases hi : inI 1 4 s.length with
 | false =>
   have HF : Hid (fdsErr s = 3) := Lib.hid (by unfold fdsErr; rw [if_pos hi])
   go_enter Tryz.func79, Tryz.ntmps79
   go_wp2_with fail
   refine (in2_any _ 1 4 _).mono ?_
   rintro e w1 ⟨rfl, rfl⟩
   rw [hi]
   go_wp2_with fail
   go_ret
   exact ⟨by rw [HF.out]; rfl, Below.refl _ _⟩
 | true =>
   have HF : Hid (fdsErr s = if s.all fdB then 0 else 6) := Lib.hid (by unfold fdsErr; rw [if_neg (by rw [hi]; decide)]; rfl)
   go_enter Tryz.func79, Tryz.ntmps79
   go_wp2_with fail
   refine (in2_any _ 1 4 _).mono ?_
   rintro e w1 ⟨rfl, rfl⟩
   rw [hi]
   clear hi
   go_wp2_with fail
   go_loopw [3] (fun q wr => ∃ (k : Nat), k <= s.length /\ q = .int .i64 k /\ Hid (s.all fdB = (s.drop k).all fdB) /\ wr = w1) (fun q _ => s.length - (intOf q).toNat)
   case atStart => exact ⟨0, by omega, rfl, rfl, rfl⟩
   case round =>
    obtain ⟨k, hk, rfl, hT, rfl⟩ := hrel
    by_cases hlt : k < s.length
    · obtain ⟨c, hc⟩ : ∃ c, s[k]? = some c := ⟨_, List.getElem?_eq_getElem hlt⟩
      have hb : ∀ h : k < (⟨s.toArray⟩ : ByteArray).size, (⟨s.toArray⟩ : ByteArray)[k]'h = c := fun h => by
       obtain ⟨hk, hc⟩ := List.getElem?_eq_some_iff.1 hc
       rw [<- hc]; rfl
      have hstep : s.all fdB = (fdB c && (s.drop (k + 1)).all fdB) := by rw [hT.out, all_step hc]
      rw [fd_is] at hstep
      have HST := Lib.hid hstep
      clear hstep hT hc
      cases h1 : ((c.toNat : Int) != 120) <;> cases h2 : ((c.toNat : Int) != 121)
      case true.true =>
       have HN : Hid (s.all fdB = false) := Lib.hid (by rw [HST.out, h1, h2]; rfl)
       go_wp2_with fail
       go_ret
       exact ⟨by rw [HF.out, HN.out]; rfl, Below.refl _ _⟩
      all_goals
       have HN : Hid (s.all fdB = (s.drop (k + 1)).all fdB) := Lib.hid (by rw [HST.out, h1, h2]; rfl)
       go_wp2_with fail
       go_roundw
       case rel => exact ⟨k + 1, by omega, by go_num, HN.out, trivial⟩
       case measure => simp [intOf]; omega
    · have HN : Hid (s.all fdB = true) := Lib.hid (by rw [hT.out, List.drop_of_length_le (by omega)]; rfl)
      go_wp2_with fail
      go_ret
      exact ⟨by rw [HF.out, HN.out]; rfl, Below.refl _ _⟩
structure AtFold (w wr : World) (s : Bs) (k : Nat) : Prop where
 it : wr.heap[w.heap.size]? = some (.stringIter ⟨s.toArray⟩ k)
 below : Below w.heap.size w wr
 rest : s.all fdB = (s.drop k).all fdB
theorem areFolds_any (s : Bs) (w : World) (hs : s.length <= 9223372036854775807) :
  Calls Tryz.prog 133 #[S s] w fun e w' => e = .returned (.bool (s.all fdB)) /\ Below w.heap.size w w' := by
 have hzs : (⟨s.toArray⟩ : ByteArray).size = s.length := size_bytes s
 have HZ := Lib.hid hzs
 clear hzs
 obtain ⟨n, hn⟩ : ∃ n, n = s.length := ⟨_, rfl⟩
 have HNN := Lib.hid hn
 have H0 : Hid (AtFold w (w.iter ⟨s.toArray⟩ 0) s 0) := ⟨World.iter_heap w ⟨s.toArray⟩ 0, (Below.refl _ _).alloc (Nat.le_refl _) _, rfl⟩
 clear hn hs
 go_enter Tryz.func133, Tryz.ntmps133
 go_wp2_with fail
 go_loopw [4] (fun v wr => ∃ k : Nat, k <= n /\ Hid (AtFold w wr s k)) (fun _ wr => n - wr.iterPos w.heap.size)
 case atStart => exact ⟨0, by omega, H0⟩
 case round =>
  clear H0
  obtain ⟨k, hk, hA⟩ := hrel
  have HIT := Lib.hid hA.out.it
  by_cases hlt : k < n
  · obtain ⟨c, hc⟩ : ∃ c, s[k]? = some c := ⟨_, List.getElem?_eq_getElem (by have := HNN.out; omega)⟩
    obtain ⟨r, d, hdec, hrd⟩ := rune_at hc
    have hstep : s.all fdB = (fdB c && (s.drop (k + 1)).all fdB) := by rw [hA.out.rest, all_step hc]
    rw [fd_is] at hstep
    have hnx := fun ty => run_next_any_at (P := Tryz.prog) wr w.heap.size ⟨s.toArray⟩ k ty hA.out.it (by rw [HZ.out]; have := HNN.out; omega)
    rw [hdec] at hnx
    dsimp only at hnx
    obtain ⟨wn, hwn⟩ : ∃ wn, wn = wr.iterAt w.heap.size ⟨s.toArray⟩ (k + d) := ⟨_, rfl⟩
    rw [<- hwn] at hnx
    have HBN : Hid (Below w.heap.size w wn) := by rw [hwn]; exact below_iterAt hA.out.below (by omega) _ _
    have e1 : ((c.toNat : Int) != 120) = ((r : Int) != 120) := by
     rcases hrd with ⟨h, -, -⟩ | ⟨h1, h2⟩
     · rw [h]
     · rw [bne_iff_ne.2 (by omega), bne_iff_ne.2 (by omega)]
    have e2 : ((c.toNat : Int) != 121) = ((r : Int) != 121) := by
     rcases hrd with ⟨h, -, -⟩ | ⟨h1, h2⟩
     · rw [h]
     · rw [bne_iff_ne.2 (by omega), bne_iff_ne.2 (by omega)]
    rw [e1, e2] at hstep
    have HST := Lib.hid hstep
    have HNX : (r < 128) -> Hid (s.all fdB = (s.drop (k + 1)).all fdB -> AtFold w wn s (k + 1)) := fun hr => by
     intro hrest
     have hd1 : d = 1 := by rcases hrd with ⟨-, h, -⟩ | ⟨h, -⟩ <;> omega
     subst hd1
     exact ⟨by rw [hwn]; exact iterAt_heap _ _ _ _ _ hA.out.it, HBN.out, hrest⟩
    clear hwn hstep e1 e2 hc hdec hrd hA
    cases h1 : ((r : Int) != 120) <;> cases h2 : ((r : Int) != 121)
    case true.true =>
     have HN : Hid (s.all fdB = false) := Lib.hid (by rw [HST.out, h1, h2]; rfl)
     clear HNX HST
     go_wp2_with fail
     go_ret
     exact ⟨by rw [HN.out]; rfl, HBN.out⟩
    all_goals
     have hr : r < 128 := by
      first
       | (have : r = 120 := by have := bne_eq_false_iff_eq.1 h1; omega
          omega)
       | (have : r = 121 := by have := bne_eq_false_iff_eq.1 h2; omega
          omega)
     have HN : Hid (AtFold w wn s (k + 1)) := (HNX hr).out (by rw [HST.out, h1, h2]; rfl)
     clear HNX HST hr
     go_wp2_with fail
     go_roundw
     case rel => exact ⟨k + 1, by omega, HN.out⟩
     case measure => rw [iterPos_of HIT.out, iterPos_of HN.out.it]; omega
  · obtain rfl : k = n := by omega
    have hnx := fun ty => run_next_end_at (P := Tryz.prog) wr w.heap.size ⟨s.toArray⟩ k ty hA.out.it (by rw [HZ.out]; have := HNN.out; omega)
    have HF : Hid (s.all fdB = true) := by
     show _ = _; rw [hA.out.rest, HNN.out, List.drop_length]; rfl
    go_wp2_with fail
    go_ret
    exact ⟨by rw [HF.out]; rfl, hA.out.below⟩
end
section
set_option linter.unusedSimpArgs false
set_option linter.unusedVariables false
open Go Go.RowKit Go.Sort Go.BigFrame
theorem run_store_func {P : Program} {w : World} (a : Addr) (m : Mode) (f : Fn) (x y : Array Value) : (store a (.func f x y) m).run P w = stored P w a (.func f x y) m := run_store P w a _ m rfl
attribute [local go_sem] run_store_func
theorem again1_any (s : Bs) (m b : Nat) (seen : List Bs) (w : World) (hc : w.cell? ⟨m, 0, none⟩ = some (.map (some b))) (hm : StrMap w b seen) (hs : s.length <= 16) (hne : m ≠ b) :
  Calls Tryz.prog 139 #[S s, .pointer (some ⟨m, 0, none⟩)] w fun e w' => e = .returned (.bool (decide (s ∈ seen))) /\ OnlyIn (· = b) w w' /\ (¬ s ∈ seen -> StrMap w' b (seen ++ [s])) := by
 have hl := hm.look hs
 obtain ⟨o, hput, hmap⟩ := hm.put hs
 have HM := Lib.hid hm
 have HP := Lib.hid hmap
 clear hm hmap
 obtain ⟨x, hx⟩ : ∃ x, x = decide (s ∈ seen) := ⟨_, rfl⟩
 rw [<- hx] at hl ⊢
 clear hx
 go_enter Tryz.func139, Tryz.ntmps139
 go_wp2_with fail
 go_ret
 exact ⟨rfl, OnlyIn.putObj w b o rfl, fun h => HP.out h _ (World.putObj_heap_same HM.out.lt)⟩
structure NamesAt (w : World) (i g m b : Nat) (seen : List Bs) : Prop where
 ci : w.cell? ⟨i, 0, none⟩ = some (.func (.func 131) #[] #[])
 cg : w.cell? ⟨g, 0, none⟩ = some (.func (.func 139) #[] #[.pointer (some ⟨m, 0, none⟩)])
 cm : w.cell? ⟨m, 0, none⟩ = some (.map (some b))
 map : StrMap w b seen
 ni : i ≠ b
 ng : g ≠ b
 nm : m ≠ b
abbrev namesV (i g : Nat) : Value := .func (.func 138) #[] #[.pointer (some ⟨i, 0, none⟩), .pointer (some ⟨g, 0, none⟩)]
theorem NamesAt.below {w w' : World} {i g m b : Nat} {seen : List Bs} (h : NamesAt w i g m b seen) (hb : Below w.heap.size w w') : NamesAt w' i g m b seen :=
 ⟨cell_later' hb h.ci, cell_later' hb h.cg, cell_later' hb h.cm, h.map.keep (hb.block b h.map.lt), h.ni, h.ng, h.nm⟩
theorem only_cell {b k i : Nat} {w w' : World} (ho : OnlyIn (· = b) w w') (hk : k < w.heap.size) (hne : k ≠ b) : w'.cell? ⟨k, i, none⟩ = w.cell? ⟨k, i, none⟩ :=
 World.cell?_of_block (ho.block k hk hne)
theorem names1_any (s : Bs) (i g m b : Nat) (seen : List Bs) (w : World) (hN : NamesAt w i g m b seen) (hs : s.length <= 9223372036854775807) :
  Calls Tryz.prog 138 #[S s, .pointer (some ⟨i, 0, none⟩), .pointer (some ⟨g, 0, none⟩)] w fun e w' => e = .returned (.int .i64 (nmErr seen s)) /\ OnlyIn (· = b) w w' /\ (nmErr seen s = 0 -> NamesAt w' i g m b (seen ++ [s])) := by
 have c1 := hN.ci
 have c2 := hN.cg
 have HN := Lib.hid hN
 clear hN
 cases hn : nameB s with
 | false =>
   have HF : Hid (nmErr seen s = 6) := Lib.hid (by unfold nmErr; rw [if_pos hn])
   go_enter Tryz.func138, Tryz.ntmps138
   go_wp2_with fail
   refine (Name_any s _ hs).mono ?_
   rintro e w1 ⟨rfl, hb1⟩
   rw [hn]
   go_wp2_with fail
   go_ret
   exact ⟨by rw [HF.out]; rfl, OnlyIn.of_below hb1, fun h => by rw [HF.out] at h; cases h⟩
 | true =>
   have hl16 : s.length <= 16 := by
    unfold nameB at hn
    simp only [Bool.and_eq_true, decide_eq_true_eq] at hn
    omega
   have HF : Hid (nmErr seen s = if decide (s ∈ seen) = true then 5 else 0) := Lib.hid (by unfold nmErr; rw [if_neg (by rw [hn]; decide)]; simp)
   go_enter Tryz.func138, Tryz.ntmps138
   go_wp2_with fail
   refine (Name_any s _ hs).mono ?_
   rintro e w1 ⟨rfl, hb1⟩
   rw [hn]
   have hN1 := HN.out.below hb1
   have c1 := hN1.ci
   have c2 := hN1.cg
   have HN1 := Lib.hid hN1
   have HB := Lib.hid hb1
   clear hN1 hb1 hn
   go_wp2_with fail
   refine (again1_any s m b seen _ HN1.out.cm HN1.out.map hl16 HN1.out.nm).mono ?_
   rintro e w2 ⟨rfl, ho, hst⟩
   have hO : OnlyIn (· = b) w w2 := (OnlyIn.of_below HB.out).trans ho
   have HS : Hid (¬ s ∈ seen -> NamesAt w2 i g m b (seen ++ [s])) := Lib.hid fun h =>
    ⟨(only_cell ho (lt_of_cell HN1.out.ci) HN1.out.ni).trans HN1.out.ci, (only_cell ho (lt_of_cell HN1.out.cg) HN1.out.ng).trans HN1.out.cg, (only_cell ho (lt_of_cell HN1.out.cm) HN1.out.nm).trans HN1.out.cm, hst h, HN1.out.ni, HN1.out.ng, HN1.out.nm⟩
   clear ho hst HN1 HB HN c1 c2
   cases hm : decide (s ∈ seen) with
   | true =>
     have HF : Hid (nmErr seen s = 5) := Lib.hid (by rw [HF.out, hm]; rfl)
     go_wp2_with fail
     go_ret
     exact ⟨by rw [HF.out]; rfl, hO, fun h => by rw [HF.out] at h; cases h⟩
   | false =>
     have HF : Hid (nmErr seen s = 0) := Lib.hid (by rw [HF.out, hm]; rfl)
     have HM := Lib.hid hm
     clear hm
     go_wp2_with fail
     go_ret
     exact ⟨by rw [HF.out]; rfl, hO, fun _ => HS.out (of_decide_eq_false HM.out)⟩
theorem again_any (w : World) :
  Calls Tryz.prog 137 #[] w fun e w' => (∃ m b, e = .returned (.func (.func 139) #[] #[.pointer (some ⟨m, 0, none⟩)]) /\ w.heap.size <= m /\ w.heap.size <= b /\ w'.cell? ⟨m, 0, none⟩ = some (.map (some b)) /\ StrMap w' b [] /\ m ≠ b) /\ Below w.heap.size w w' := by
 have hmm := @run_makeMap Tryz.prog
 go_enter Tryz.func137, Tryz.ntmps137
 go_wp2_with fail
 go_ret
 refine ⟨⟨w.heap.size + 1, w.heap.size, rfl, by omega, by omega, ?_, ?_, by omega⟩, (by repeat (first | exact Below.refl _ _ | assumption | (refine Below.alloc ?_ ?_ _; rotate_left; · (first | omega | (simp; done) | (simp; omega) | fail)) | (refine Below.setCell ?_ ?_ _; rotate_left; · (first | omega | (simp; done) | (simp; omega) | fail)) | refine Below.drew ?_ | fail))⟩
 · simp [World.cell?_alloc_at]
 · exact (StrMap.made w).keep (Below.heap_alloc _ _ _ (by simp))
theorem names_any (w : World) :
  Calls Tryz.prog 130 #[.func (.func 131) #[] #[]] w fun e w' => (∃ i g m b, e = .returned (namesV i g) /\ NamesAt w' i g m b [] /\ w.heap.size <= b) /\ Below w.heap.size w w' := by
 go_enter Tryz.func130, Tryz.ntmps130
 go_wp2_with fail
 refine (again_any _).mono ?_
 rintro e w1 ⟨⟨m, b, rfl, hm0, hb0, hc, hmp, hne⟩, hb1⟩
 have hz := hb1.size
 simp at hm0 hb0 hz
 have k0 : w1.cell? ⟨w.heap.size, 0, none⟩ = some (.func (.func 131) #[] #[]) := cell_later' hb1 (by simp [World.cell?_alloc_at])
 have hb2 := ((Below.refl w.heap.size w).alloc (Nat.le_refl _) _).trans (hb1.mono (by simp))
 clear hb1
 go_wp2_with fail
 go_ret
 refine ⟨⟨w.heap.size, w1.heap.size, m, b, rfl, ⟨?_, ?_, ?_, ?_, by omega, ?_, hne⟩, by omega⟩, hb2.alloc hb2.size _⟩
 · exact cell_later' ((Below.refl w1.heap.size w1).alloc (Nat.le_refl _) _) k0
 · simp [World.cell?_alloc_at]
 · exact cell_later' ((Below.refl w1.heap.size w1).alloc (Nat.le_refl _) _) hc
 · exact hmp.keep (Below.heap_alloc _ _ _ hmp.lt)
 · have := hmp.lt; omega
end
section
set_option linter.unusedSimpArgs false
set_option linter.unusedVariables false
open Go Go.RowKit Go.Sort Go.BigFrame
attribute [local go_sem] run_store_func
theorem within_list (lo hi : Int) (xs : List Int) (b cap : Nat) (w : World) (hc : ∀ i x, xs[i]? = some x -> w.cell? ⟨b, i, none⟩ = some (.int .i64 x)) (hl : xs.length < 1000000) :
  Calls Tryz.prog 30 #[.int .i64 lo, .int .i64 hi, .slice (some ⟨b, 0, none⟩) xs.length cap] w fun e w' => e = .returned (.bool (xs.all (inI lo hi))) /\ w' = w := by
 have HC := Lib.hid hc
 clear hc
 obtain ⟨n, hn⟩ : ∃ n, n = xs.length := ⟨_, rfl⟩
 rw [<- hn] at hl ⊢
 have HN := Lib.hid hn
 clear hn
 go_enter Tryz.func30, Tryz.ntmps30
 go_wp2_with fail
 go_loopw [11] (fun q wr => ∃ (k : Nat), k <= n /\ q = .int .i64 k /\ Hid (xs.all (inI lo hi) = (xs.drop k).all (inI lo hi)) /\ wr = w) (fun q _ => n - (intOf q).toNat)
 case atStart => exact ⟨0, by omega, rfl, rfl, rfl⟩
 case round =>
  obtain ⟨k, hk, rfl, hT, rfl⟩ := hrel
  by_cases hlt : k < n
  · obtain ⟨x, hx⟩ : ∃ x, xs[k]? = some x := ⟨_, List.getElem?_eq_getElem (by have := HN.out; omega)⟩
    have h0 := HC.out k x hx
    have hstep : xs.all (inI lo hi) = (inI lo hi x && (xs.drop (k + 1)).all (inI lo hi)) := by rw [hT.out, drop_at hx]; rfl
    have HST := Lib.hid hstep
    clear hstep hT hx
    by_cases h1 : x < lo
    · have HN2 : Hid (xs.all (inI lo hi) = false) := Lib.hid (by rw [HST.out]; unfold inI; rw [decide_eq_false (p := lo <= x) (by omega)]; rfl)
      go_wp2_with fail
      go_ret
      exact ⟨by rw [HN2.out]; rfl, rfl⟩
    · by_cases h2 : hi < x
      · have HN2 : Hid (xs.all (inI lo hi) = false) := Lib.hid (by rw [HST.out]; unfold inI; rw [decide_eq_false (p := x <= hi) (by omega)]; simp)
        go_wp2_with fail
        go_ret
        exact ⟨by rw [HN2.out]; rfl, rfl⟩
      · have HN2 : Hid (xs.all (inI lo hi) = (xs.drop (k + 1)).all (inI lo hi)) := Lib.hid (by rw [HST.out]; unfold inI; rw [decide_eq_true (p := x <= hi) (by omega), decide_eq_true (p := lo <= x) (by omega)]; rfl)
        go_wp2_with fail
        go_roundw
        case rel => exact ⟨k + 1, by omega, by go_num, HN2.out, trivial⟩
        case measure => simp [intOf]; omega
  · have HN2 : Hid (xs.all (inI lo hi) = true) := Lib.hid (by rw [hT.out, List.drop_of_length_le (by have := HN.out; omega)]; rfl)
    go_wp2_with fail
    go_ret
    exact ⟨by rw [HN2.out]; rfl, rfl⟩
theorem within_two (lo hi x y : Int) (b : Nat) (w : World) (h0 : w.cell? ⟨b, 0, none⟩ = some (.int .i64 x)) (h1 : w.cell? ⟨b, 1, none⟩ = some (.int .i64 y)) :
  Calls Tryz.prog 30 #[.int .i64 lo, .int .i64 hi, .slice (some ⟨b, 0, none⟩) 2 2] w fun e w' => e = .returned (.bool (inI lo hi x && inI lo hi y)) /\ w' = w := by
 have h := within_list lo hi [x, y] b 2 w (fun i z hz => by
  match i, hz with
  | 0, hz => obtain rfl := Option.some.inj hz; exact h0
  | 1, hz => obtain rfl := Option.some.inj hz; exact h1
  | _ + 2, hz => simp at hz) (by simp)
 simpa using h
theorem spans_two (lo hi a b c d : Int) (k : Nat) (w : World) (h0 : w.cell? ⟨k, 0, none⟩ = some (.int .i64 a)) (h1 : w.cell? ⟨k, 1, none⟩ = some (.int .i64 b)) (h2 : w.cell? ⟨k, 2, none⟩ = some (.int .i64 c)) (h3 : w.cell? ⟨k, 3, none⟩ = some (.int .i64 d)) :
  Calls Tryz.prog 86 #[.int .i64 lo, .int .i64 hi, .slice (some ⟨k, 0, none⟩) 2 2] w fun e w' => e = .returned (.int .i64 (spansErr lo hi a b c d)) /\ Below w.heap.size w w' := by
 obtain ⟨p, hp⟩ : ∃ p, p = (inI lo hi a && inI lo hi b) := ⟨_, rfl⟩
 obtain ⟨q, hq⟩ : ∃ q, q = (inI lo hi c && inI lo hi d) := ⟨_, rfl⟩
 obtain ⟨z, hz⟩ : ∃ z, z = spansErr lo hi a b c d := ⟨_, rfl⟩
 rw [<- hz]
 have HF : Hid (z = if (p && q) = false then 7 else if b < a ∨ d < c then 2 else 0) := Lib.hid (by rw [hz]; unfold spansErr; rw [hp, hq, <- Bool.and_assoc])
 have HP := Lib.hid hp
 have HQ := Lib.hid hq
 clear hp hq hz
 go_enter Tryz.func86, Tryz.ntmps86
 go_wp2_with fail
 refine wp_loop_rounds 3 ?_
 rw [rounds_succ]
 go_wp2_with fail
 refine (within_two lo hi a b _ _ (by simp [World.cell?_alloc_at]) (by simp [World.cell?_alloc_at])).mono ?_
 rintro e w1 ⟨rfl, hw⟩
 rw [<- HP.out]
 have hb1 : Below w.heap.size w w1 := by rw [hw]; exact (by repeat (first | exact Below.refl _ _ | assumption | (refine Below.alloc ?_ ?_ _; rotate_left; · (first | omega | (simp; done) | (simp; omega) | fail)) | (refine Below.setCell ?_ ?_ _; rotate_left; · (first | omega | (simp; done) | (simp; omega) | fail)) | refine Below.drew ?_ | fail))
 have hz1 := hb1.size
 have h0 := cell_later' hb1 h0
 have h1 := cell_later' hb1 h1
 have h2 := cell_later' hb1 h2
 have h3 := cell_later' hb1 h3
 clear hw
 cases hp : p with
 | false =>
   have HG : Hid (z = 7) := Lib.hid (by rw [HF.out, hp]; rfl)
   go_wp2_with fail
   go_ret
   exact ⟨by rw [HG.out]; rfl, hb1⟩
 | true =>
   go_wp2_with fail
   rw [rounds_succ]
   go_wp2_with fail
   refine (within_two lo hi c d _ _ (by simp [World.cell?_alloc_at]) (by simp [World.cell?_alloc_at])).mono ?_
   rintro e w2 ⟨rfl, hw⟩
   rw [<- HQ.out]
   have hb2 : Below w.heap.size w w2 := by rw [hw]; exact (by repeat (first | (refine Below.setCell ?_ ?_ _; rotate_left; · (first | omega | (simp; done) | (simp; omega) | fail)) | (refine Below.alloc ?_ ?_ _; rotate_left; · (first | omega | (simp; done) | (simp; omega) | fail)) | refine Below.drew ?_ | exact hb1 | fail))
   have hz2 := hb2.size
   have hb3 : Below w1.heap.size w1 w2 := by rw [hw]; exact (by repeat (first | exact Below.refl _ _ | assumption | (refine Below.alloc ?_ ?_ _; rotate_left; · (first | omega | (simp; done) | (simp; omega) | fail)) | (refine Below.setCell ?_ ?_ _; rotate_left; · (first | omega | (simp; done) | (simp; omega) | fail)) | refine Below.drew ?_ | fail))
   have h0 := cell_later' hb3 h0
   have h1 := cell_later' hb3 h1
   have h2 := cell_later' hb3 h2
   have h3 := cell_later' hb3 h3
   clear hw
   cases hq : q with
   | false =>
     have HG : Hid (z = 7) := Lib.hid (by rw [HF.out, hp, hq]; rfl)
     go_wp2_with fail
     go_ret
     exact ⟨by rw [HG.out]; rfl, hb2⟩
   | true =>
     have HG : Hid (z = if b < a ∨ d < c then 2 else 0) := Lib.hid (by rw [HF.out, hp, hq]; rfl)
     clear hb1 hb3
     clear HF HP HQ hp hq
     go_wp2_with fail
     rw [rounds_succ]
     go_wp2_with fail
     refine wp_loop_rounds 3 ?_
     rw [rounds_succ]
     by_cases g1 : b < a
     · have HG : Hid (z = 2) := Lib.hid (by rw [HG.out, if_pos (Or.inl g1)])
       go_wp2_with fail
       go_ret
       exact ⟨by rw [HG.out]; rfl, (by repeat (first | (refine Below.setCell ?_ ?_ _; rotate_left; · (first | omega | (simp; done) | (simp; omega) | fail)) | (refine Below.alloc ?_ ?_ _; rotate_left; · (first | omega | (simp; done) | (simp; omega) | fail)) | refine Below.drew ?_ | exact hb2 | fail))⟩
     · go_wp2_with fail
       rw [rounds_succ]
       by_cases g2 : d < c
       · have HG : Hid (z = 2) := Lib.hid (by rw [HG.out, if_pos (Or.inr g2)])
         have k2 : (w2.alloc (.cells #[.int .i64 a, .int .i64 b] 27)).cell? ⟨k, 2, none⟩ = some (.int .i64 c) := cell_later' ((Below.refl _ _).alloc (Nat.le_refl _) _) h2
         have k3 : (w2.alloc (.cells #[.int .i64 a, .int .i64 b] 27)).cell? ⟨k, 3, none⟩ = some (.int .i64 d) := cell_later' ((Below.refl _ _).alloc (Nat.le_refl _) _) h3
         go_wp2_with fail
         go_ret
         exact ⟨by rw [HG.out]; rfl, (by repeat (first | (refine Below.setCell ?_ ?_ _; rotate_left; · (first | omega | (simp; done) | (simp; omega) | fail)) | (refine Below.alloc ?_ ?_ _; rotate_left; · (first | omega | (simp; done) | (simp; omega) | fail)) | refine Below.drew ?_ | exact hb2 | fail))⟩
       · have HG : Hid (z = 0) := Lib.hid (by rw [HG.out, if_neg (by omega)])
         have k2 : (w2.alloc (.cells #[.int .i64 a, .int .i64 b] 27)).cell? ⟨k, 2, none⟩ = some (.int .i64 c) := cell_later' ((Below.refl _ _).alloc (Nat.le_refl _) _) h2
         have k3 : (w2.alloc (.cells #[.int .i64 a, .int .i64 b] 27)).cell? ⟨k, 3, none⟩ = some (.int .i64 d) := cell_later' ((Below.refl _ _).alloc (Nat.le_refl _) _) h3
         go_wp2_with fail
         rw [rounds_succ]
         go_wp2_with fail
         go_ret
         exact ⟨by rw [HG.out]; rfl, (by repeat (first | (refine Below.setCell ?_ ?_ _; rotate_left; · (first | omega | (simp; done) | (simp; omega) | fail)) | (refine Below.alloc ?_ ?_ _; rotate_left; · (first | omega | (simp; done) | (simp; omega) | fail)) | refine Below.drew ?_ | exact hb2 | fail))⟩
theorem fdsErr_is (f : Bs) : fdsErr f = if inI 1 4 f.length = false then 3 else if f.all fdB = true then 0 else 6 := rfl
theorem fmt1_any (j : Int) (f : Fmt) (n i g m b : Nat) (seen : List Bs) (w : World) (hc : w.cell? ⟨n, 0, none⟩ = some (namesV i g)) (hN : NamesAt w i g m b seen) (hs : smallS f.name /\ smallS f.folds) :
  Calls Tryz.prog 132 #[.int .i64 j, .agg #[S f.name, S f.folds], .pointer (some ⟨n, 0, none⟩)] w fun e w' => e = .returned (.int .i64 (fmtErr seen f)) /\ OnlyIn (· = b) w w' /\ (fmtErr seen f = 0 -> NamesAt w' i g m b (seen ++ [f.name])) := by
 have HN := Lib.hid hN
 have HS := Lib.hid hs
 clear hN hs
 obtain ⟨z, hz⟩ : ∃ z, z = fmtErr seen f := ⟨_, rfl⟩
 rw [<- hz]
 obtain ⟨y, hy⟩ : ∃ y, y = nmErr seen f.name := ⟨_, rfl⟩
 have HF : Hid (z = if y = 0 then fdsErr f.folds else y) := Lib.hid (by rw [hz, hy]; rfl)
 have HY := Lib.hid hy
 clear hz hy
 have hw0 : Below w.heap.size w (w.alloc (.cells #[S f.name, S f.folds] 115)) := (Below.refl _ _).alloc (Nat.le_refl _) _
 have hc0 := cell_later' hw0 hc
 go_enter Tryz.func132, Tryz.ntmps132
 go_wp2_with fail
 refine (names1_any f.name i g m b seen _ (HN.out.below hw0) HS.out.1).mono ?_
 rintro e w1 ⟨rfl, ho, hst⟩
 rw [<- HY.out] at hst ⊢
 have hz1 := ho.size
 simp at hz1
 have hbw := HN.out.map.lt
 have c0 : w1.cell? ⟨w.heap.size, 0, none⟩ = some (S f.name) := (only_cell ho (by simp) (by omega)).trans (by simp [World.cell?_alloc_at])
 have c1 : w1.cell? ⟨w.heap.size, 1, none⟩ = some (S f.folds) := (only_cell ho (by simp) (by omega)).trans (by simp [World.cell?_alloc_at])
 have HO : Hid (OnlyIn (· = b) w w1) := Lib.hid ((OnlyIn.of_below hw0).trans ho)
 have HT := Lib.hid hst
 clear hst ho hw0 HN hc hc0
 by_cases h0 : y = 0
 · subst h0
   have HF2 : Hid (z = fdsErr f.folds) := Lib.hid (by rw [HF.out, if_pos rfl])
   have HT2 := Lib.hid (HT.out rfl)
   clear HF HT
   go_wp2_with fail
   refine (within_one 1 4 f.folds.length _ _ (by simp [World.cell?_alloc_at])).mono ?_
   rintro e w2 ⟨rfl, hw⟩
   have hb2 : Below w1.heap.size w1 w2 := by rw [<- hw]; exact (by repeat (first | exact Below.refl _ _ | assumption | (refine Below.alloc ?_ ?_ _; rotate_left; · (first | omega | (simp; done) | (simp; omega) | fail)) | (refine Below.setCell ?_ ?_ _; rotate_left; · (first | omega | (simp; done) | (simp; omega) | fail)) | refine Below.drew ?_ | fail))
   have c1 := cell_later' hb2 c1
   have HB2 := Lib.hid hb2
   clear hw hb2 c0
   cases hl : inB 1 4 f.folds.length with
   | false =>
     have HF : Hid (z = 3) := Lib.hid (by rw [HF2.out, fdsErr_is, if_pos (by rw [inI_inB]; exact hl)])
     go_wp2_with fail
     go_ret
     exact ⟨by rw [HF.out]; rfl, HO.out.trans (OnlyIn.of_below HB2.out), fun h => by rw [HF.out] at h; cases h⟩
   | true =>
     have HF3 : Hid (z = if f.folds.all fdB = true then 0 else 6) := Lib.hid (by rw [HF2.out, fdsErr_is, if_neg (by rw [inI_inB, hl]; decide)])
     go_wp2_with fail
     refine (areFolds_any f.folds _ HS.out.2).mono ?_
     rintro e w3 ⟨rfl, hb3⟩
     have HB3 : Hid (Below w1.heap.size w1 w3) := Lib.hid (HB2.out.trans (hb3.mono HB2.out.size))
     clear hb3 HB2 c1 hl
     cases ha : f.folds.all fdB with
     | false =>
       have HF : Hid (z = 6) := Lib.hid (by rw [HF3.out, ha]; rfl)
       go_wp2_with fail
       go_ret
       exact ⟨by rw [HF.out]; rfl, HO.out.trans (OnlyIn.of_below HB3.out), fun h => by rw [HF.out] at h; cases h⟩
     | true =>
       have HF : Hid (z = 0) := Lib.hid (by rw [HF3.out, ha]; rfl)
       go_wp2_with fail
       go_ret
       exact ⟨by rw [HF.out]; rfl, HO.out.trans (OnlyIn.of_below HB3.out), fun _ => HT2.out.below HB3.out⟩
 · have HF : Hid (z = y) := Lib.hid (by rw [HF.out, if_neg h0])
   have h0b : (y != 0) = true := by simp [h0]
   have H0 := Lib.hid h0
   clear h0
   go_wp2_with fail
   go_ret
   exact ⟨by rw [HF.out]; rfl, HO.out, fun h => absurd (HF.out.symm.trans h) H0.out⟩
end
section
set_option linter.unusedSimpArgs false
set_option linter.unusedVariables false
open Go Go.RowKit Go.Sort Go.BigFrame
attribute [local go_sem] run_store_func
theorem ppr1_any (j : Int) (p : Ppr) (n i g m b : Nat) (seen : List Bs) (w : World) (hc : w.cell? ⟨n, 0, none⟩ = some (namesV i g)) (hN : NamesAt w i g m b seen) (hs : smallS p.name) :
  Calls Tryz.prog 135 #[.int .i64 j, .agg #[S p.name, .int .i64 p.wlo, .int .i64 p.whi, .int .i64 p.hlo, .int .i64 p.hhi], .pointer (some ⟨n, 0, none⟩)] w fun e w' => e = .returned (.int .i64 (pprErr seen p)) /\ OnlyIn (· = b) w w' /\ (pprErr seen p = 0 -> NamesAt w' i g m b (seen ++ [p.name])) := by
 have HN := Lib.hid hN
 have HS := Lib.hid hs
 clear hN hs
 obtain ⟨z, hz⟩ : ∃ z, z = pprErr seen p := ⟨_, rfl⟩
 rw [<- hz]
 obtain ⟨y, hy⟩ : ∃ y, y = nmErr seen p.name := ⟨_, rfl⟩
 have HF : Hid (z = if y = 0 then spansErr 1 2000 p.wlo p.whi p.hlo p.hhi else y) := Lib.hid (by rw [hz, hy]; rfl)
 have HY := Lib.hid hy
 clear hz hy
 have hw0 : Below w.heap.size w (w.alloc (.cells #[S p.name, .int .i64 p.wlo, .int .i64 p.whi, .int .i64 p.hlo, .int .i64 p.hhi] 67)) := (Below.refl _ _).alloc (Nat.le_refl _) _
 have hc0 := cell_later' hw0 hc
 go_enter Tryz.func135, Tryz.ntmps135
 go_wp2_with fail
 refine (names1_any p.name i g m b seen _ (HN.out.below hw0) HS.out).mono ?_
 rintro e w1 ⟨rfl, ho, hst⟩
 rw [<- HY.out] at hst ⊢
 have hz1 := ho.size
 simp at hz1
 have hbw := HN.out.map.lt
 have c0 : w1.cell? ⟨w.heap.size, 0, none⟩ = some (S p.name) := (only_cell ho (by simp) (by omega)).trans (by simp [World.cell?_alloc_at])
 have c1 : w1.cell? ⟨w.heap.size, 1, none⟩ = some (.int .i64 p.wlo) := (only_cell ho (by simp) (by omega)).trans (by simp [World.cell?_alloc_at])
 have c2 : w1.cell? ⟨w.heap.size, 2, none⟩ = some (.int .i64 p.whi) := (only_cell ho (by simp) (by omega)).trans (by simp [World.cell?_alloc_at])
 have c3 : w1.cell? ⟨w.heap.size, 3, none⟩ = some (.int .i64 p.hlo) := (only_cell ho (by simp) (by omega)).trans (by simp [World.cell?_alloc_at])
 have c4 : w1.cell? ⟨w.heap.size, 4, none⟩ = some (.int .i64 p.hhi) := (only_cell ho (by simp) (by omega)).trans (by simp [World.cell?_alloc_at])
 have HO : Hid (OnlyIn (· = b) w w1) := Lib.hid ((OnlyIn.of_below hw0).trans ho)
 have HT := Lib.hid hst
 clear hst ho hw0 HN hc hc0
 by_cases h0 : y = 0
 · subst h0
   have HF2 : Hid (z = spansErr 1 2000 p.wlo p.whi p.hlo p.hhi) := Lib.hid (by rw [HF.out, if_pos rfl])
   have HT2 := Lib.hid (HT.out rfl)
   clear HF HT
   go_wp2_with fail
   refine (spans_two 1 2000 p.wlo p.whi p.hlo p.hhi _ _ (by simp [World.cell?_alloc_at]) (by simp [World.cell?_alloc_at]) (by simp [World.cell?_alloc_at]) (by simp [World.cell?_alloc_at])).mono ?_
   rintro e w2 ⟨rfl, hb⟩
   have hb2 : Below w1.heap.size w1 w2 := ((Below.refl _ _).alloc (Nat.le_refl _) _).trans (hb.mono (by simp))
   have HB2 := Lib.hid hb2
   rw [<- HF2.out]
   clear hb hb2 c0 c1 c2 c3 c4
   go_wp2_with fail
   go_ret
   exact ⟨rfl, HO.out.trans (OnlyIn.of_below HB2.out), fun _ => HT2.out.below HB2.out⟩
 · have HF2 : Hid (z = y) := Lib.hid (by rw [HF.out, if_neg h0])
   have h0b : (y != 0) = true := by simp [h0]
   have H0 := Lib.hid h0
   clear h0
   go_wp2_with fail
   go_ret
   exact ⟨by rw [HF2.out]; rfl, HO.out, fun h => absurd (HF2.out.symm.trans h) H0.out⟩
def mrkErr (leaves : Int) (x : Int × Bool) : Int := if inI 0 (leaves - 1) x.1 = true then 0 else 4
theorem mrk1_any (j : Int) (x : Int × Bool) (leaves : Int) (n : Nat) (w : World) (hc : w.cell? ⟨n, 0, none⟩ = some (.int .i64 leaves)) :
  Calls Tryz.prog 112 #[.int .i64 j, .agg #[.int .i64 x.1, .bool x.2], .pointer (some ⟨n, 0, none⟩)] w fun e w' => e = .returned (.int .i64 (mrkErr leaves x)) /\ Below w.heap.size w w' := by
 obtain ⟨z, hz⟩ : ∃ z, z = mrkErr leaves x := ⟨_, rfl⟩
 rw [<- hz]
 have HZ := Lib.hid hz
 clear hz
 obtain ⟨l, s⟩ := x
 have hw0 : Below w.heap.size w (w.alloc (.cells #[.int .i64 l, .bool s] 58)) := (Below.refl _ _).alloc (Nat.le_refl _) _
 have hc0 := cell_later' hw0 hc
 by_cases h1 : l < 0
 · have HF : Hid (z = 4) := Lib.hid (by rw [HZ.out]; unfold mrkErr inI; rw [decide_eq_false (p := 0 <= l) (by omega)]; rfl)
   clear HZ
   go_enter Tryz.func112, Tryz.ntmps112
   go_wp2_with fail
   go_ret
   exact ⟨by rw [HF.out]; rfl, hw0⟩
 · by_cases h2 : l ≥ leaves
   · have HF : Hid (z = 4) := Lib.hid (by rw [HZ.out]; unfold mrkErr inI; rw [decide_eq_false (p := l <= leaves - 1) (by omega)]; simp)
     clear HZ
     go_enter Tryz.func112, Tryz.ntmps112
     go_wp2_with fail
     go_ret
     exact ⟨by rw [HF.out]; rfl, hw0⟩
   · have HF : Hid (z = 0) := Lib.hid (by rw [HZ.out]; unfold mrkErr inI; rw [decide_eq_true (p := l <= leaves - 1) (by omega), decide_eq_true (p := 0 <= l) (by omega)]; rfl)
     clear HZ
     go_enter Tryz.func112, Tryz.ntmps112
     go_wp2_with fail
     go_ret
     exact ⟨by rw [HF.out]; rfl, hw0⟩
structure KeepsAt (w : World) (n i g m b : Nat) (seen : List Bs) : Prop where
 cell : w.cell? ⟨n, 0, none⟩ = some (namesV i g)
 names : NamesAt w i g m b seen
 ne : n ≠ b
theorem KeepsAt.below {w w' : World} {n i g m b : Nat} {seen : List Bs} (h : KeepsAt w n i g m b seen) (hb : Below w.heap.size w w') : KeepsAt w' n i g m b seen :=
 ⟨cell_later' hb h.cell, h.names.below hb, h.ne⟩
theorem KeepsAt.next {w w' : World} {n i g m b : Nat} {seen seen' : List Bs} (h : KeepsAt w n i g m b seen) (ho : OnlyIn (· = b) w w') (hn : NamesAt w' i g m b seen') : KeepsAt w' n i g m b seen' :=
 ⟨(only_cell ho (lt_of_cell h.cell) h.ne).trans h.cell, hn, h.ne⟩
theorem formatError_any (w : World) :
  Calls Tryz.prog 123 #[] w fun e w' => (∃ n i g m b, e = .returned (.func (.func 132) #[] #[.pointer (some ⟨n, 0, none⟩)]) /\ KeepsAt w' n i g m b [] /\ w.heap.size <= b) /\ Below w.heap.size w w' := by
 go_enter Tryz.func123, Tryz.ntmps123
 go_wp2_with fail
 refine (names_any _).mono ?_
 rintro e w1 ⟨⟨i, g, m, b, rfl, hN, hb0⟩, hb1⟩
 have hz := hb1.size
 have hlt := hN.map.lt
 go_wp2_with fail
 go_ret
 refine ⟨⟨w1.heap.size, i, g, m, b, rfl, ⟨?_, ?_, by omega⟩, hb0⟩, hb1.alloc hz _⟩
 · simp [World.cell?_alloc_at]
 · exact hN.below ((Below.refl _ _).alloc (Nat.le_refl _) _)
theorem paperError_any (w : World) :
  Calls Tryz.prog 125 #[] w fun e w' => (∃ n i g m b, e = .returned (.func (.func 135) #[] #[.pointer (some ⟨n, 0, none⟩)]) /\ KeepsAt w' n i g m b [] /\ w.heap.size <= b) /\ Below w.heap.size w w' := by
 go_enter Tryz.func125, Tryz.ntmps125
 go_wp2_with fail
 refine (names_any _).mono ?_
 rintro e w1 ⟨⟨i, g, m, b, rfl, hN, hb0⟩, hb1⟩
 have hz := hb1.size
 have hlt := hN.map.lt
 go_wp2_with fail
 go_ret
 refine ⟨⟨w1.heap.size, i, g, m, b, rfl, ⟨?_, ?_, by omega⟩, hb0⟩, hb1.alloc hz _⟩
 · simp [World.cell?_alloc_at]
 · exact hN.below ((Below.refl _ _).alloc (Nat.le_refl _) _)
theorem markError_any (leaves : Int) (w : World) :
  Calls Tryz.prog 88 #[.int .i64 leaves] w fun e w' => (∃ n, e = .returned (.func (.func 112) #[] #[.pointer (some ⟨n, 0, none⟩)]) /\ w'.cell? ⟨n, 0, none⟩ = some (.int .i64 leaves)) /\ Below w.heap.size w w' := by
 go_enter Tryz.func88, Tryz.ntmps88
 go_wp2_with fail
 go_ret
 exact ⟨⟨w.heap.size, rfl, by simp [World.cell?_alloc_at]⟩, (by repeat (first | exact Below.refl _ _ | assumption | (refine Below.alloc ?_ ?_ _; rotate_left; · (first | omega | (simp; done) | (simp; omega) | fail)) | (refine Below.setCell ?_ ?_ _; rotate_left; · (first | omega | (simp; done) | (simp; omega) | fail)) | refine Below.drew ?_ | fail))⟩
end
section
set_option linter.unusedSimpArgs false
set_option linter.unusedVariables false
open Go Go.RowKit Go.Sort Go.BigFrame
theorem firstF_any (xs : List Fmt) (v : Value) (n i g m b B : Nat) (w : World) (hv : RowsAt 2 fmtV B w v xs) (hk : KeepsAt w n i g m b []) (hB : B <= b) (hl : xs.length <= 100) (hsm : ∀ x ∈ xs, smallS x.name /\ smallS x.folds) :
  Calls Tryz.prog 129 #[v, .func (.func 132) #[] #[.pointer (some ⟨n, 0, none⟩)]] w fun e w' => e = .returned (.tuple #[.int .i64 ((firstE Fmt.name fmtErr [] 0 xs).1 : Nat), .int .i64 (firstE Fmt.name fmtErr [] 0 xs).2]) /\ OnlyIn (· = b) w w' := by
 obtain ⟨a, cap, rfl, hc⟩ := hv
 by_cases hne : xs = []
 · subst hne
   have HF : Hid (firstE Fmt.name fmtErr [] 0 ([] : List Fmt) = (0, 0)) := Lib.hid rfl
   clear hc hsm
   dsimp only [List.length_nil] at hl ⊢
   go_enter Tryz.func129, Tryz.ntmps129
   go_wp2_with fail
   refine wp_loop_rounds 1 ?_
   rw [rounds_succ]
   go_wp2_with fail
   go_ret2
   exact ⟨by rw [HF.out]; rfl, OnlyIn.refl _ _⟩
 obtain ⟨b', off, rfl, hb', hcell⟩ := hc hne
 have HC := Lib.hid hcell
 have HK := Lib.hid hk
 have HS := Lib.hid hsm
 have hbw := hk.names.map.lt
 obtain ⟨N, hN⟩ : ∃ N, N = xs.length := ⟨_, rfl⟩
 rw [<- hN] at hl ⊢
 have HN := Lib.hid hN
 clear hcell hk hsm hN hc hne
 obtain ⟨z1, hz1⟩ : ∃ z1, z1 = (firstE Fmt.name fmtErr [] 0 xs) := ⟨_, rfl⟩
 rw [<- hz1]
 have HZ := Lib.hid hz1
 clear hz1
 go_enter Tryz.func129, Tryz.ntmps129
 go_wp2_with fail
 go_loopw [11] (fun q wr => ∃ (k : Nat) (seen : List Bs), k <= N /\ q = .int .i64 k /\ OnlyIn (· = b) w wr /\ Hid (KeepsAt wr n i g m b seen) /\ Hid (z1 = firstE Fmt.name fmtErr seen k (xs.drop k))) (fun q _ => N - (intOf q).toNat)
 case atStart => exact ⟨0, [], by omega, rfl, OnlyIn.refl _ _, HK, HZ⟩
 case round =>
  obtain ⟨k, seen, hk, rfl, ho, hEr, hh⟩ := hrel
  have hzr := ho.size
  by_cases hlt : k < N
  · obtain ⟨x, hx⟩ : ∃ x, xs[k]? = some x := ⟨_, List.getElem?_eq_getElem (by have := HN.out; omega)⟩
    have q0 : wr.cell? ⟨b', off + k * 2, none⟩ = some (S x.name) := (only_cell ho (by omega) (by omega)).trans (by have := HC.out k x hx 0 _ rfl; simpa using this)
    have q1 : wr.cell? ⟨b', off + k * 2 + 1, none⟩ = some (S x.folds) := (only_cell ho (by omega) (by omega)).trans (by have := HC.out k x hx 1 _ rfl; simpa using this)
    have HG := Lib.hid hx
    have hba : Below wr.heap.size wr (wr.alloc (Obj.cells #[S x.name, S x.folds] 115)) := (Below.refl _ _).alloc (Nat.le_refl _) _
    have HE2 := Lib.hid (hEr.out.below hba)
    have hC := fmt1_any k x n i g m b seen _ HE2.out.cell HE2.out.names (HS.out x (List.mem_of_getElem? hx))
    have HCc := Lib.hid hC
    have HO := Lib.hid (ho.trans (OnlyIn.of_below hba))
    clear hC hba hx
    go_wp2_with fail
    refine HCc.out.mono ?_
    rintro e w1 ⟨rfl, ho1, hE1⟩
    have ho2 := HO.out.trans ho1
    obtain ⟨er, her⟩ : ∃ er, er = fmtErr seen x := ⟨_, rfl⟩
    rw [<- her] at hE1 ⊢
    have HE1 : Hid (er = 0 -> KeepsAt w1 n i g m b (seen ++ [Fmt.name x])) := Lib.hid fun h => HE2.out.next ho1 (hE1 h)
    have HR := Lib.hid her
    clear her hE1 q0 q1 ho hEr HO HCc ho1 HE2
    by_cases h0 : er = 0
    · have HE3 := Lib.hid (HE1.out h0)
      have HH : Hid (z1 = firstE Fmt.name fmtErr (seen ++ [Fmt.name x]) (k + 1) (xs.drop (k + 1))) := Lib.hid (hh.out.trans (firstE_step HG.out (HR.out.symm.trans h0)))
      clear HE1 HR hh
      subst h0
      go_wp2_with fail
      go_roundw
      case rel => exact ⟨k + 1, _, by omega, by go_num, ho2, HE3, HH⟩
      case measure => simp [intOf]; omega
    · have h0b : (er != 0) = true := by simp [h0]
      have HF : Hid (z1 = (k, er)) := Lib.hid (by
       have := hh.out.trans (firstE_stop HG.out (fun h => h0 (HR.out.trans h)))
       rw [<- HR.out] at this; exact this)
      clear h0 HR hh HE1
      go_wp2_with fail
      go_ret2
      exact ⟨by rw [HF.out]; rfl, ho2⟩
  · have HF : Hid (z1 = (0, 0)) := Lib.hid (hh.out.trans (firstE_end (by have := HN.out; omega)))
    go_wp2_with fail
    go_ret2
    exact ⟨by rw [HF.out]; rfl, ho⟩
theorem firstP_any (xs : List Ppr) (v : Value) (n i g m b B : Nat) (w : World) (hv : RowsAt 5 pprV B w v xs) (hk : KeepsAt w n i g m b []) (hB : B <= b) (hl : xs.length <= 100) (hsm : ∀ x ∈ xs, smallS x.name) :
  Calls Tryz.prog 134 #[v, .func (.func 135) #[] #[.pointer (some ⟨n, 0, none⟩)]] w fun e w' => e = .returned (.tuple #[.int .i64 ((firstE Ppr.name pprErr [] 0 xs).1 : Nat), .int .i64 (firstE Ppr.name pprErr [] 0 xs).2]) /\ OnlyIn (· = b) w w' := by
 obtain ⟨a, cap, rfl, hc⟩ := hv
 by_cases hne : xs = []
 · subst hne
   have HF : Hid (firstE Ppr.name pprErr [] 0 ([] : List Ppr) = (0, 0)) := Lib.hid rfl
   clear hc hsm
   dsimp only [List.length_nil] at hl ⊢
   go_enter Tryz.func134, Tryz.ntmps134
   go_wp2_with fail
   refine wp_loop_rounds 1 ?_
   rw [rounds_succ]
   go_wp2_with fail
   go_ret2
   exact ⟨by rw [HF.out]; rfl, OnlyIn.refl _ _⟩
 obtain ⟨b', off, rfl, hb', hcell⟩ := hc hne
 have HC := Lib.hid hcell
 have HK := Lib.hid hk
 have HS := Lib.hid hsm
 have hbw := hk.names.map.lt
 obtain ⟨N, hN⟩ : ∃ N, N = xs.length := ⟨_, rfl⟩
 rw [<- hN] at hl ⊢
 have HN := Lib.hid hN
 clear hcell hk hsm hN hc hne
 obtain ⟨z1, hz1⟩ : ∃ z1, z1 = (firstE Ppr.name pprErr [] 0 xs) := ⟨_, rfl⟩
 rw [<- hz1]
 have HZ := Lib.hid hz1
 clear hz1
 go_enter Tryz.func134, Tryz.ntmps134
 go_wp2_with fail
 go_loopw [11] (fun q wr => ∃ (k : Nat) (seen : List Bs), k <= N /\ q = .int .i64 k /\ OnlyIn (· = b) w wr /\ Hid (KeepsAt wr n i g m b seen) /\ Hid (z1 = firstE Ppr.name pprErr seen k (xs.drop k))) (fun q _ => N - (intOf q).toNat)
 case atStart => exact ⟨0, [], by omega, rfl, OnlyIn.refl _ _, HK, HZ⟩
 case round =>
  obtain ⟨k, seen, hk, rfl, ho, hEr, hh⟩ := hrel
  have hzr := ho.size
  by_cases hlt : k < N
  · obtain ⟨x, hx⟩ : ∃ x, xs[k]? = some x := ⟨_, List.getElem?_eq_getElem (by have := HN.out; omega)⟩
    have q0 : wr.cell? ⟨b', off + k * 5, none⟩ = some (S x.name) := (only_cell ho (by omega) (by omega)).trans (by have := HC.out k x hx 0 _ rfl; simpa using this)
    have q1 : wr.cell? ⟨b', off + k * 5 + 1, none⟩ = some (.int .i64 x.wlo) := (only_cell ho (by omega) (by omega)).trans (by have := HC.out k x hx 1 _ rfl; simpa using this)
    have q2 : wr.cell? ⟨b', off + k * 5 + 2, none⟩ = some (.int .i64 x.whi) := (only_cell ho (by omega) (by omega)).trans (by have := HC.out k x hx 2 _ rfl; simpa using this)
    have q3 : wr.cell? ⟨b', off + k * 5 + 3, none⟩ = some (.int .i64 x.hlo) := (only_cell ho (by omega) (by omega)).trans (by have := HC.out k x hx 3 _ rfl; simpa using this)
    have q4 : wr.cell? ⟨b', off + k * 5 + 4, none⟩ = some (.int .i64 x.hhi) := (only_cell ho (by omega) (by omega)).trans (by have := HC.out k x hx 4 _ rfl; simpa using this)
    have HG := Lib.hid hx
    have hba : Below wr.heap.size wr (wr.alloc (Obj.cells #[S x.name, .int .i64 x.wlo, .int .i64 x.whi, .int .i64 x.hlo, .int .i64 x.hhi] 67)) := (Below.refl _ _).alloc (Nat.le_refl _) _
    have HE2 := Lib.hid (hEr.out.below hba)
    have hC := ppr1_any k x n i g m b seen _ HE2.out.cell HE2.out.names (HS.out x (List.mem_of_getElem? hx))
    have HCc := Lib.hid hC
    have HO := Lib.hid (ho.trans (OnlyIn.of_below hba))
    clear hC hba hx
    go_wp2_with fail
    refine HCc.out.mono ?_
    rintro e w1 ⟨rfl, ho1, hE1⟩
    have ho2 := HO.out.trans ho1
    obtain ⟨er, her⟩ : ∃ er, er = pprErr seen x := ⟨_, rfl⟩
    rw [<- her] at hE1 ⊢
    have HE1 : Hid (er = 0 -> KeepsAt w1 n i g m b (seen ++ [Ppr.name x])) := Lib.hid fun h => HE2.out.next ho1 (hE1 h)
    have HR := Lib.hid her
    clear her hE1 q0 q1 q2 q3 q4 ho hEr HO HCc ho1 HE2
    by_cases h0 : er = 0
    · have HE3 := Lib.hid (HE1.out h0)
      have HH : Hid (z1 = firstE Ppr.name pprErr (seen ++ [Ppr.name x]) (k + 1) (xs.drop (k + 1))) := Lib.hid (hh.out.trans (firstE_step HG.out (HR.out.symm.trans h0)))
      clear HE1 HR hh
      subst h0
      go_wp2_with fail
      go_roundw
      case rel => exact ⟨k + 1, _, by omega, by go_num, ho2, HE3, HH⟩
      case measure => simp [intOf]; omega
    · have h0b : (er != 0) = true := by simp [h0]
      have HF : Hid (z1 = (k, er)) := Lib.hid (by
       have := hh.out.trans (firstE_stop HG.out (fun h => h0 (HR.out.trans h)))
       rw [<- HR.out] at this; exact this)
      clear h0 HR hh HE1
      go_wp2_with fail
      go_ret2
      exact ⟨by rw [HF.out]; rfl, ho2⟩
  · have HF : Hid (z1 = (0, 0)) := Lib.hid (hh.out.trans (firstE_end (by have := HN.out; omega)))
    go_wp2_with fail
    go_ret2
    exact ⟨by rw [HF.out]; rfl, ho⟩
end
section
set_option linter.unusedSimpArgs false
set_option linter.unusedVariables false
open Go Go.RowKit Go.Sort Go.BigFrame
def listR {α : Type} (lo hi : Int) (nm : α -> Bs) (err : List Bs -> α -> Int) (xs : List α) : Nat × Int := if inI lo hi xs.length = false then (0, 3) else firstE nm err [] 0 xs
theorem listF_any (lo hi : Int) (xs : List Fmt) (v : Value) (n i g m b B : Nat) (w : World) (hv : RowsAt 2 fmtV B w v xs) (hk : KeepsAt w n i g m b []) (hB : B <= b) (hh : hi <= 100) (hsm : ∀ x ∈ xs, smallS x.name /\ smallS x.folds) :
  Calls Tryz.prog 122 #[.int .i64 lo, .int .i64 hi, v, .func (.func 132) #[] #[.pointer (some ⟨n, 0, none⟩)]] w fun e w' => e = .returned (.tuple #[.int .i64 ((listR lo hi Fmt.name fmtErr xs).1 : Nat), .int .i64 (listR lo hi Fmt.name fmtErr xs).2]) /\ OnlyIn (· = b) w w' := by
 have HV := Lib.hid hv
 have HK := Lib.hid hk
 have HS := Lib.hid hsm
 have hBw : B <= w.heap.size := by have := hk.names.map.lt; omega
 obtain ⟨a, cap, rfl, -⟩ := hv
 clear hk hsm
 obtain ⟨N, hN⟩ : ∃ N, N = xs.length := ⟨_, rfl⟩
 rw [<- hN] at HV ⊢
 obtain ⟨z1, hz1⟩ : ∃ z1, z1 = listR lo hi Fmt.name fmtErr xs := ⟨_, rfl⟩
 rw [<- hz1]
 cases hi0 : inB lo hi N with
 | false =>
   have HF : Hid (z1 = (0, 3)) := Lib.hid (by rw [hz1]; unfold listR; rw [<- hN, if_pos (by rw [inI_inB]; exact hi0)])
   clear hz1 hN
   go_enter Tryz.func122, Tryz.ntmps122
   go_wp2_with fail
   refine (within_one lo hi N _ _ (by simp [World.cell?_alloc_at])).mono ?_
   rintro e w1 ⟨rfl, hw⟩
   have hb1 : Below w.heap.size w w1 := by rw [<- hw]; exact (by repeat (first | exact Below.refl _ _ | assumption | (refine Below.alloc ?_ ?_ _; rotate_left; · (first | omega | (simp; done) | (simp; omega) | fail)) | (refine Below.setCell ?_ ?_ _; rotate_left; · (first | omega | (simp; done) | (simp; omega) | fail)) | refine Below.drew ?_ | fail))
   clear hw
   rw [hi0]
   go_wp2_with fail
   go_ret2
   exact ⟨by rw [HF.out]; rfl, OnlyIn.of_below hb1⟩
 | true =>
   have hl : xs.length <= 100 := by
    simp only [inB, Bool.and_eq_true, decide_eq_true_eq] at hi0; omega
   have HF : Hid (z1 = firstE Fmt.name fmtErr [] 0 xs) := Lib.hid (by rw [hz1]; unfold listR; rw [<- hN, if_neg (by rw [inI_inB, hi0]; decide)])
   have HN := Lib.hid hN
   have HL := Lib.hid hl
   clear hz1 hN hl
   go_enter Tryz.func122, Tryz.ntmps122
   go_wp2_with fail
   refine (within_one lo hi N _ _ (by simp [World.cell?_alloc_at])).mono ?_
   rintro e w1 ⟨rfl, hw⟩
   have hb1 : Below w.heap.size w w1 := by rw [<- hw]; exact (by repeat (first | exact Below.refl _ _ | assumption | (refine Below.alloc ?_ ?_ _; rotate_left; · (first | omega | (simp; done) | (simp; omega) | fail)) | (refine Below.setCell ?_ ?_ _; rotate_left; · (first | omega | (simp; done) | (simp; omega) | fail)) | refine Below.drew ?_ | fail))
   clear hw
   rw [hi0]
   have HB := Lib.hid hb1
   clear hb1 hi0
   go_wp2_with fail
   refine (firstF_any xs _ n i g m b B _ (by have h := HV.out; rw [HN.out] at h ⊢; exact h.same fun k hk => HB.out.block k (by omega)) (HK.out.below HB.out) hB HL.out HS.out).mono ?_
   rintro e w2 ⟨rfl, ho⟩
   rw [<- HF.out]
   have HO : Hid (OnlyIn (· = b) w w2) := Lib.hid ((OnlyIn.of_below HB.out).trans ho)
   clear ho HF HB HV HK
   obtain ⟨x, y⟩ := z1
   go_wp2_with fail
   go_ret2
   exact ⟨rfl, HO.out⟩
theorem listP_any (lo hi : Int) (xs : List Ppr) (v : Value) (n i g m b B : Nat) (w : World) (hv : RowsAt 5 pprV B w v xs) (hk : KeepsAt w n i g m b []) (hB : B <= b) (hh : hi <= 100) (hsm : ∀ x ∈ xs, smallS x.name) :
  Calls Tryz.prog 124 #[.int .i64 lo, .int .i64 hi, v, .func (.func 135) #[] #[.pointer (some ⟨n, 0, none⟩)]] w fun e w' => e = .returned (.tuple #[.int .i64 ((listR lo hi Ppr.name pprErr xs).1 : Nat), .int .i64 (listR lo hi Ppr.name pprErr xs).2]) /\ OnlyIn (· = b) w w' := by
 have HV := Lib.hid hv
 have HK := Lib.hid hk
 have HS := Lib.hid hsm
 have hBw : B <= w.heap.size := by have := hk.names.map.lt; omega
 obtain ⟨a, cap, rfl, -⟩ := hv
 clear hk hsm
 obtain ⟨N, hN⟩ : ∃ N, N = xs.length := ⟨_, rfl⟩
 rw [<- hN] at HV ⊢
 obtain ⟨z1, hz1⟩ : ∃ z1, z1 = listR lo hi Ppr.name pprErr xs := ⟨_, rfl⟩
 rw [<- hz1]
 cases hi0 : inB lo hi N with
 | false =>
   have HF : Hid (z1 = (0, 3)) := Lib.hid (by rw [hz1]; unfold listR; rw [<- hN, if_pos (by rw [inI_inB]; exact hi0)])
   clear hz1 hN
   go_enter Tryz.func124, Tryz.ntmps124
   go_wp2_with fail
   refine (within_one lo hi N _ _ (by simp [World.cell?_alloc_at])).mono ?_
   rintro e w1 ⟨rfl, hw⟩
   have hb1 : Below w.heap.size w w1 := by rw [<- hw]; exact (by repeat (first | exact Below.refl _ _ | assumption | (refine Below.alloc ?_ ?_ _; rotate_left; · (first | omega | (simp; done) | (simp; omega) | fail)) | (refine Below.setCell ?_ ?_ _; rotate_left; · (first | omega | (simp; done) | (simp; omega) | fail)) | refine Below.drew ?_ | fail))
   clear hw
   rw [hi0]
   go_wp2_with fail
   go_ret2
   exact ⟨by rw [HF.out]; rfl, OnlyIn.of_below hb1⟩
 | true =>
   have hl : xs.length <= 100 := by
    simp only [inB, Bool.and_eq_true, decide_eq_true_eq] at hi0; omega
   have HF : Hid (z1 = firstE Ppr.name pprErr [] 0 xs) := Lib.hid (by rw [hz1]; unfold listR; rw [<- hN, if_neg (by rw [inI_inB, hi0]; decide)])
   have HN := Lib.hid hN
   have HL := Lib.hid hl
   clear hz1 hN hl
   go_enter Tryz.func124, Tryz.ntmps124
   go_wp2_with fail
   refine (within_one lo hi N _ _ (by simp [World.cell?_alloc_at])).mono ?_
   rintro e w1 ⟨rfl, hw⟩
   have hb1 : Below w.heap.size w w1 := by rw [<- hw]; exact (by repeat (first | exact Below.refl _ _ | assumption | (refine Below.alloc ?_ ?_ _; rotate_left; · (first | omega | (simp; done) | (simp; omega) | fail)) | (refine Below.setCell ?_ ?_ _; rotate_left; · (first | omega | (simp; done) | (simp; omega) | fail)) | refine Below.drew ?_ | fail))
   clear hw
   rw [hi0]
   have HB := Lib.hid hb1
   clear hb1 hi0
   go_wp2_with fail
   refine (firstP_any xs _ n i g m b B _ (by have h := HV.out; rw [HN.out] at h ⊢; exact h.same fun k hk => HB.out.block k (by omega)) (HK.out.below HB.out) hB HL.out HS.out).mono ?_
   rintro e w2 ⟨rfl, ho⟩
   rw [<- HF.out]
   have HO : Hid (OnlyIn (· = b) w w2) := Lib.hid ((OnlyIn.of_below HB.out).trans ho)
   clear ho HF HB HV HK
   obtain ⟨x, y⟩ := z1
   go_wp2_with fail
   go_ret2
   exact ⟨rfl, HO.out⟩
end
end Go.Proofs.YtpdhdgdbknnllaaGreatDoor
