/- The parts Nb of the proof, joined. It holds without conditions of its own. -/
import Derived.Test.YtlekbddlemfokaaDoorM43
import Derived.Test.YtlekbddlemfokaaDoorM47
/- QuireNext's law: by going on 68 times one comes from A to 3Z. -/
namespace Go.Proofs.YtlekbddlemfokaaDoor
set_option linter.unusedSimpArgs false
set_option linter.unusedVariables false
open Go Go.RowKit Go.Sort Go.BigFrame Go.Shelf
attribute [local go_sem] Oper.semAt_some putAll

/-- The n-th lettered signature, and how it is written. -/
def nmA (n : Nat) : Int × Int := if n < 69 then (((n / 23 : Nat) : Int) + 1, ((n % 23 : Nat) : Int)) else (0, 0)
def nmT (n : Nat) : Bs := sigT (nmA n).1 (nmA n).2
def nms (n : Nat) : List Bs := (List.range n).map nmT

def okN (n : Nat) : Bool := sigB (nmA n).1 (nmA n).2 && decide (placeF (nms n) (nmT n) = -1) && (n == 0 || decide (¬ (nmT n).length < (nmT (n - 1)).length)) && decide ((nmA n).2 < 23) &&
  (if n < 68 then decide (behindF (nmA n).1 (nmA n).2 = nmA (n + 1)) && sigB (nmA (n + 1)).1 (nmA (n + 1)).2 else decide (behindF (nmA n).1 (nmA n).2 = (4, 0)))
theorem okN_all : (List.range 69).all okN = true := by kernel_rfl
theorem okN_at {n : Nat} (h : n < 69) : okN n = true := List.all_eq_true.1 okN_all n (List.mem_range.2 h)
structure OkN (n : Nat) : Prop where
  sig : sigB (nmA n).1 (nmA n).2 = true
  new : placeF (nms n) (nmT n) = -1
  len : n ≠ 0 → ¬ (nmT n).length < (nmT (n - 1)).length
  let_ : (nmA n).2 < 23
  next : n < 68 → behindF (nmA n).1 (nmA n).2 = nmA (n + 1) ∧ sigB (nmA (n + 1)).1 (nmA (n + 1)).2 = true
  last : ¬ n < 68 → behindF (nmA n).1 (nmA n).2 = (4, 0)
theorem okN_is {n : Nat} (h : n < 69) : OkN n := by
  have := okN_at h
  simp only [okN, Bool.and_eq_true, decide_eq_true_eq, Bool.or_eq_true, beq_iff_eq] at this
  obtain ⟨⟨⟨⟨h1, h2⟩, h3⟩, h4⟩, h5⟩ := this
  refine ⟨h1, h2, fun hn => h3.resolve_left hn, h4, fun hl => ?_, fun hl => ?_⟩
  · rw [if_pos hl] at h5; simpa using h5
  · rw [if_neg hl] at h5; simpa using h5
theorem nms_len (n : Nat) : (nms n).length = n := by simp [nms]
theorem nms_succ (n : Nat) : nms (n + 1) = nms n ++ [nmT n] := by simp [nms, List.range_succ]
theorem nms_at {n i : Nat} (h : i < n) : (nms n)[i]? = some (nmT i) := by simp [nms, h]
theorem StrsAt.of_row {W : World} {base : Nat} {v : Value} {e : TypeId} {xs : List Bs} (h : W.ownsRow base e 1 v xs.length (xs.map S)) : StrsAt W v xs := by
  rcases h.2 with ⟨rfl, h0⟩ | ⟨g, cap, cur, rfl, hb, hg, rest⟩
  · exact ⟨none, 0, by rw [h0], fun hne => absurd (List.length_eq_zero_iff.1 h0) (fun e => hne (by rw [e]))⟩
  · refine ⟨_, cap, rfl, fun _ => ⟨g, rfl, blk_lt hg, fun i x hx => ?_⟩⟩
    have hc := h.cells (g := g) (by simp [Value.ownBlock])
    have := hc i (S x) (by rw [List.getElem?_map, hx]; rfl)
    cases i with
    | zero => simpa [Addr.add] using this
    | succ i => simpa [Addr.add] using this

theorem met_all : ((List.range 3).all fun a => (List.range 25).all fun b => decide (0 ≤ placeF (nms 69) (sigT ((a : Int) + 1) (b : Int))) == decide ((b : Int) < 23)) = true := by kernel_rfl
theorem sig_met {r l : Int} (h : sigB r l = true) : 0 ≤ placeF (nms 69) (sigT r l) ↔ l < 23 := by
  have hb : 1 ≤ r ∧ r ≤ 3 ∧ 0 ≤ l ∧ l ≤ 24 := by simp [sigB, inB] at h; omega
  have := List.all_eq_true.1 (List.all_eq_true.1 met_all (r - 1).toNat (List.mem_range.2 (by omega))) l.toNat (List.mem_range.2 (by omega))
  rw [show (((r - 1).toNat : Nat) : Int) + 1 = r by omega, show ((l.toNat : Nat) : Int) = l by omega] at this
  simpa using this

/-- What a round of QuireNext's loop leaves: the box of `at`, the box of s, the words met. -/
structure NxW (w W : World) (A base : Nat) (v : Value) (k m : Nat) (r l : Int) : Prop where
  at_ : W.heap[A]? = some (.cells #[.int .i64 (nmA k).1, .int .i64 (nmA k).2] 39)
  s : W.heap[w.heap.size]? = some (.cells #[.int .i64 r, .int .i64 l] 39)
  lt : w.heap.size < A ∧ A < base
  row : W.ownsRow base 9 1 v m ((nms m).map S)
  below : Below w.heap.size w W
  size : base ≤ W.heap.size

theorem NxW.later {w W W' : World} {A base k m : Nat} {v : Value} {r l : Int} (h : NxW w W A base v k m r l) (hb : Below W.heap.size W W') : NxW w W' A base v k m r l :=
  ⟨blk_later hb h.at_, blk_later hb h.s, h.lt, row_later h.row hb, h.below.trans (hb.mono h.below.size), Nat.le_trans h.size hb.size⟩
theorem NxW.appended {w W W' : World} {A k m : Nat} {v v' : Value} {r l : Int} {o : Obj} (h : NxW w W A (A + 1) v k m r l) (hz : A + 1 ≤ W.heap.size) (hg : (W.alloc o).grownBy W' v.ownBlock) (hr : W'.ownsRow (A + 1) 9 1 v' (m + 1) ((nms (m + 1)).map S)) :
    NxW w W' A (A + 1) v' k (m + 1) r l := by
  have hA : Below (A + 1) W W' := ((Below.refl (A + 1) W).alloc hz _).grown hg (by simp; omega) (fun j ej => (h.row.lt j ej).1)
  have hl := h.lt
  exact ⟨(hA.block A (by omega)).trans h.at_, (hA.block _ (by omega)).trans h.s, h.lt, hr, h.below.trans (hA.mono (by omega)), Nat.le_trans hz hA.size⟩

theorem NxW.set {w W : World} {A k m : Nat} {v : Value} {r l : Int} (h : NxW w W A (A + 1) v k m r l) (k' : Nat) :
    NxW w ((W.setCell ⟨A, 0, none⟩ (.int .i64 (nmA k').1)).setCell ⟨A, 1, none⟩ (.int .i64 (nmA k').2)) A (A + 1) v k' m r l := by
  have hl := h.lt
  have hz := h.size
  have hb := h.below.size
  refine ⟨blk_setRow h.at_ _ _, ?_, hl, ownsRow_setCell_below (ownsRow_setCell_below h.row (by simp) _) (by simp) _, ?_, by simp; omega⟩
  · exact (heap_setCell_past _ _ _ _ (by simp; omega)).trans ((heap_setCell_past _ _ _ _ (by simp; omega)).trans h.s)
  · exact (h.below.setCell (by simp; omega) _).setCell (by simp; omega) _
theorem NxW.stored {w W : World} {A k m : Nat} {v : Value} {r l : Int} (h : NxW w W A (A + 1) v k m r l) (o : Obj) (k' : Nat) :
    NxW w (((W.alloc o).setCell ⟨A, 0, none⟩ (.int .i64 (nmA k').1)).setCell ⟨A, 1, none⟩ (.int .i64 (nmA k').2)) A (A + 1) v k' m r l :=
  (h.later ((Below.refl _ _).alloc (Nat.le_refl _) o)).set k'

set_option maxRecDepth 100000 in
set_option maxHeartbeats 4000000 in
theorem QuireNext_any (r l : Int) (w : World) :
    Calls Tryd.prog 4 #[.agg #[.int .i64 r, .int .i64 l]] w fun e w' => e = .returned (.bool true) ∧ Below w.heap.size w w' := by
  go_enter Tryd.func4, Tryd.ntmps4
  go_wp2_with fail
  refine (lawSig_any 1 0 _).mono ?_
  rintro e w1 ⟨rfl, hb⟩
  have hS := blk_later hb (show (w.alloc (.cells #[.int .i64 r, .int .i64 l] 39)).heap[w.heap.size]? = some (.cells #[.int .i64 r, .int .i64 l] 39) by exact (by repeat (first | exact heap_alloc_at _ _ _ (by (first | omega | (simp; done) | (simp; omega) | fail)) | (refine (heap_alloc_past _ _ _ ?_).trans ?_; · (first | omega | (simp; done) | (simp; omega) | fail)) | fail)))
  have hB : Below w.heap.size w w1 := Below.trans (show Below w.heap.size w _ by exact (by repeat (first | (refine Below.setCell ?_ ?_ _; rotate_left; · (first | omega | (simp; done) | (simp; omega) | fail)) | (refine Below.alloc ?_ ?_ _; rotate_left; · (first | omega | (simp; done) | (simp; omega) | fail)) | refine Below.drew ?_ | exact Below.refl _ _ | fail))) (hb.mono (by simp))
  have hz := hB.size
  have hz1 := hb.size
  simp at hz1
  have HNX : Hid (NxW w (w1.alloc (.cells #[.int .i64 1, .int .i64 0] 39)) w1.heap.size (w1.heap.size + 1) (.slice none 0 0) 0 0 r l) := Lib.hid ⟨by exact (by repeat (first | exact heap_alloc_at _ _ _ (by (first | omega | (simp; done) | (simp; omega) | fail)) | (refine (heap_alloc_past _ _ _ ?_).trans ?_; · (first | omega | (simp; done) | (simp; omega) | fail)) | fail)), by exact (by repeat (first | (refine (heap_setCell_past _ _ _ _ ?_).trans ?_; · (first | omega | (simp; done) | (simp; omega) | fail)) | (refine (heap_alloc_past _ _ _ ?_).trans ?_; · (first | omega | (simp; done) | (simp; omega) | fail)) | exact hS | fail)), by omega, World.ownsRow_nil _ _ _ _, by exact (by repeat (first | (refine Below.setCell ?_ ?_ _; rotate_left; · (first | omega | (simp; done) | (simp; omega) | fail)) | (refine Below.alloc ?_ ?_ _; rotate_left; · (first | omega | (simp; done) | (simp; omega) | fail)) | refine Below.drew ?_ | exact hB | fail)), by simp⟩
  clear hb hS hB
  go_wp2_with fail
  generalize hw2 : w1.alloc (.cells #[.int .i64 1, .int .i64 0] 39) = w2 at *
  clear hw2
  generalize w1.heap.size = A at *
  go_loopw [4, 5] (fun v i wr => ∃ (k : Nat), k ≤ 69 ∧ i = .int .i64 k ∧ Hid (NxW w wr A (A + 1) v k k r l)) (fun _ i _ => 69 - (intOf i).toNat)
  case atStart => exact ⟨0, by omega, rfl, HNX⟩
  case round =>
    obtain ⟨k, hk, rfl, hN⟩ := hrel
    clear HNX
    by_cases hlt : k < 69
    · have HO := Lib.hid (okN_is hlt)
      have c0 := blk_cell hN.out.at_ 0; have c1 := blk_cell hN.out.at_ 1
      go_wp2_with fail
      refine (Sig_good (nmA k).1 (nmA k).2 _ HO.out.sig).mono ?_
      rintro e w3 ⟨rfl, hb⟩
      have HN3 := Lib.hid (hN.out.later hb)
      clear hb hN c0 c1
      go_wp2_with fail
      refine (Place_any (nms k) _ (sigT (nmA k).1 (nmA k).2) _ (StrsAt.of_row (by rw [nms_len]; exact HN3.out.row)) (by rw [nms_len]; omega)).mono ?_
      rintro e w4 ⟨rfl, hb⟩
      rw [show placeF (nms k) (sigT (nmA k).1 (nmA k).2) = -1 from HO.out.new]
      have HN4 := Lib.hid (HN3.out.later hb)
      clear hb HN3
      obtain ⟨ei, hi1, hi2, hi3, hi4⟩ := elemStr
      cases k with
      | zero =>
        go_wp2_with (at_builtin; refine wpList_append_own _ rfl _ _ 32 rfl (A + 1) 9 ei _ 1 16 undStrs hi1 hi2 hi3 hi4 rfl (by decide) u4 0 ((nms 0).map S) rfl (HN4.out.row.alloc _) ⟨w4.heap.size, 0, none⟩ 1 1 [S (sigT (nmA 0).1 (nmA 0).2)] rfl rfl ?c1 ?c2 ?c3 ?c4 ?c5 ?c6)
        case c1 => exact cells_new _ _ _
        case c2 => simp [Value.oneCell']
        case c3 => simp only [maxLen]; omega
        case c4 => omega
        case c5 => simp; have := HN4.out.size; omega
        case c6 =>
          rintro v' w5 hown hgrow -
          have HN5 := Lib.hid (HN4.out.appended (by have := HN4.out.size; omega) hgrow (by rw [nms_succ, List.map_append]; exact hown))
          clear hgrow hown HN4 hi1 hi2 hi3 hi4
          have c0 := blk_cell HN5.out.at_ 0; have c1 := blk_cell HN5.out.at_ 1
          go_wp2_with fail
          have HK : Hid ((nmA 0).2 < 23) := HO.out.let_
          by_cases h68 : 0 < 68
          · obtain ⟨hF, hs⟩ := HO.out.next h68
            have HF := Lib.hid hF
            have HSG := Lib.hid hs
            clear hF hs
            refine (Next_letter (nmA 0).1 (nmA 0).2 _ HO.out.sig HK.out (nmA (0 + 1)).1 (nmA (0 + 1)).2 HF.out true HSG.out (.tuple #[.agg #[.int .i64 (nmA (0 + 1)).1, .int .i64 (nmA (0 + 1)).2], .int .i64 0]) rfl).mono ?_
            rintro e w6 ⟨rfl, hb⟩
            have HN6 := Lib.hid (HN5.out.later hb)
            clear hb HN5 c0 c1 HF HSG HK HO
            have hnk : (((0 : Nat) : Int) == 68) = false := by first | (simp; done) | (simp; omega)
            have hA6 : (w6.alloc (.cells #[.int .i64 (nmA (0 + 1)).1, .int .i64 (nmA (0 + 1)).2] 39)).heap[A]? = some (.cells #[.int .i64 (nmA 0).1, .int .i64 (nmA 0).2] 39) := (heap_alloc_past _ _ _ (blk_lt HN6.out.at_)).trans HN6.out.at_
            have c0 := blk_cell hA6 0; have c1 := blk_cell hA6 1
            have f0 := blk_free hA6 0; have f1 := blk_free hA6 1
            clear hA6
            go_wp2_with fail
            go_roundw
            case rel => exact ⟨0 + 1, by omega, by go_num, HN6.out.stored _ (0 + 1)⟩
            case measure => simp [intOf] <;> omega
          omega
      | succ j =>
        obtain ⟨aa, cap, rfl, hcs⟩ : StrsAt w4 u4 (nms (j + 1)) := StrsAt.of_row (by rw [nms_len]; exact HN4.out.row)
        obtain ⟨g, rfl, -, hcs⟩ := hcs (fun e => by have := congrArg List.length e; rw [nms_len] at this; cases this)
        have x0 := hcs j (nmT j) (nms_at (by omega))
        clear hcs
        have hll : ¬ (nmT (j + 1)).length < (nmT j).length := HO.out.len (by omega)
        obtain ⟨p, hp⟩ : ∃ p, (ByteArray.mk (sigT (nmA (j + 1)).1 (nmA (j + 1)).2).toArray).size = p := ⟨_, rfl⟩
        obtain ⟨q, hq⟩ : ∃ q, (ByteArray.mk (nmT j).toArray).size = q := ⟨_, rfl⟩
        have hpq : decide (p < q) = false := by
          rw [← hp, ← hq, size_bytes, size_bytes]; exact decide_eq_false hll
        clear hll
        simp only [nms_len] at HN4 ⊢
        go_wp2_with (at_builtin; refine wpList_append_own _ rfl _ _ 32 rfl (A + 1) 9 ei _ 1 16 undStrs hi1 hi2 hi3 hi4 rfl (by decide) (.slice (some ⟨g, 0, none⟩) (j + 1) cap) (j + 1) ((nms (j + 1)).map S) rfl (HN4.out.row.alloc _) ⟨w4.heap.size, 0, none⟩ 1 1 [S (sigT (nmA (j + 1)).1 (nmA (j + 1)).2)] rfl rfl ?c1 ?c2 ?c3 ?c4 ?c5 ?c6)
        case c1 => exact cells_new _ _ _
        case c2 => simp [Value.oneCell']
        case c3 => simp only [maxLen]; omega
        case c4 => omega
        case c5 => simp; have := HN4.out.size; omega
        case c6 =>
          rintro v' w5 hown hgrow -
          have HN5 := Lib.hid (HN4.out.appended (by have := HN4.out.size; omega) hgrow (by rw [nms_succ, List.map_append]; exact hown))
          clear hgrow hown HN4 hi1 hi2 hi3 hi4
          have c0 := blk_cell HN5.out.at_ 0; have c1 := blk_cell HN5.out.at_ 1
          go_wp2_with fail
          have HK : Hid ((nmA (j + 1)).2 < 23) := HO.out.let_
          by_cases h68 : (j + 1) < 68
          · obtain ⟨hF, hs⟩ := HO.out.next h68
            have HF := Lib.hid hF
            have HSG := Lib.hid hs
            clear hF hs
            refine (Next_letter (nmA (j + 1)).1 (nmA (j + 1)).2 _ HO.out.sig HK.out (nmA ((j + 1) + 1)).1 (nmA ((j + 1) + 1)).2 HF.out true HSG.out (.tuple #[.agg #[.int .i64 (nmA ((j + 1) + 1)).1, .int .i64 (nmA ((j + 1) + 1)).2], .int .i64 0]) rfl).mono ?_
            rintro e w6 ⟨rfl, hb⟩
            have HN6 := Lib.hid (HN5.out.later hb)
            clear hb HN5 c0 c1 HF HSG HK HO
            have hnk : ((((j + 1) : Nat) : Int) == 68) = false := by first | (simp; done) | (simp; omega)
            have hA6 : (w6.alloc (.cells #[.int .i64 (nmA ((j + 1) + 1)).1, .int .i64 (nmA ((j + 1) + 1)).2] 39)).heap[A]? = some (.cells #[.int .i64 (nmA (j + 1)).1, .int .i64 (nmA (j + 1)).2] 39) := (heap_alloc_past _ _ _ (blk_lt HN6.out.at_)).trans HN6.out.at_
            have c0 := blk_cell hA6 0; have c1 := blk_cell hA6 1
            have f0 := blk_free hA6 0; have f1 := blk_free hA6 1
            clear hA6
            go_wp2_with fail
            go_roundw
            case rel => exact ⟨(j + 1) + 1, by omega, by go_num, HN6.out.stored _ ((j + 1) + 1)⟩
            case measure => simp [intOf] <;> omega
          have hF := HO.out.last h68
          have HF := Lib.hid hF
          have e1 : (nmA (j + 1)).1 = 3 := by obtain rfl : j = 67 := by omega
                                              rfl
          have e2 : (nmA (j + 1)).2 = 22 := by obtain rfl : j = 67 := by omega
                                               rfl
          have e3 : nmA (j + 1 + 1) = (0, 0) := by obtain rfl : j = 67 := by omega
                                                   rfl
          refine (Next_letter (nmA (j + 1)).1 (nmA (j + 1)).2 _ HO.out.sig HK.out 4 0 HF.out false (by decide) (.tuple #[.agg #[.int .i64 0, .int .i64 0], .int .i64 4]) rfl).mono ?_
          rintro e w6 ⟨rfl, hb⟩
          have HN6 := Lib.hid (HN5.out.later hb)
          clear hb HN5 c0 c1 HF HK HO hF
          have hnk : ((j : Int) + 1 == 68) = true := by simp; omega
          have hnk' : (((j + 1 : Nat) : Int) == 68) = true := by simp; omega
          go_wp2_with fail
          have HN7 := Lib.hid (HN6.out.later ((Below.refl _ _).alloc (Nat.le_refl _) (.cells #[.int .i64 0, .int .i64 0] 39)))
          have hX : (w6.alloc (.cells #[.int .i64 0, .int .i64 0] 39)).heap[w6.heap.size]? = some (.cells #[.int .i64 0, .int .i64 0] 39) := by exact (by repeat (first | exact heap_alloc_at _ _ _ (by (first | omega | (simp; done) | (simp; omega) | fail)) | (refine (heap_alloc_past _ _ _ ?_).trans ?_; · (first | omega | (simp; done) | (simp; omega) | fail)) | fail))
          have HX7 := Lib.hid hX
          clear hX HN6
          generalize w6.alloc (.cells #[.int .i64 0, .int .i64 0] 39) = w7 at *
          have hA7 := HN7.out.at_
          rw [e1, e2] at hA7
          have c0 := blk_cell hA7 0; have c1 := blk_cell hA7 1
          have r0 := cell_regrown c0
          have r1 := cell_regrown c1
          clear c0 c1 hA7
          have cS : ∀ d os, Calls Tryd.prog 13 #[.int .i64 3, .int .i64 22] (grow (redrawn w7 d) os) (fun e w'' => e = .returned (.agg #[.int .i64 3, .int .i64 22]) ∧ ∃ p : Regrown, w'' = grow (redrawn w7 p.d) p.os) := fun d os => Calls.regrown_of (lawSig_any 3 22 _)
          refine wp_region_quiet_below (by kernel_rfl) (by kernel_rfl) ?_; (repeat (go_big_quiet_step (exact cS _ _))); refine wpQuiet_nil ?_; rintro w8 ⟨⟨d8, os8⟩, rfl⟩
          clear r0 r1 cS
          have hb8 := below_regrown w7 d8 os8
          have HN8 := Lib.hid (HN7.out.later hb8)
          have HX8 := Lib.hid (blk_later hb8 HX7.out)
          clear hb8 HX7 HN7
          generalize grow (redrawn w7 d8) os8 = w8 at *
          have c0 := blk_cell HX8.out 0; have c1 := blk_cell HX8.out 1
          have d0 := blk_cell HN8.out.at_ 0; have d1 := blk_cell HN8.out.at_ 1
          have f0 := blk_free HN8.out.at_ 0; have f1 := blk_free HN8.out.at_ 1
          clear e1 e2
          go_wp2_with fail
          have hs8 := HN8.out.set (j + 1 + 1)
          rw [e3] at hs8
          go_roundw
          case rel => exact ⟨j + 1 + 1, by omega, by go_num, hs8⟩
          case measure => simp [intOf] <;> omega
    · have hk69 : k = 69 := by omega
      subst hk69
      clear hk hlt
      have hst := StrsAt.of_row (xs := nms 69) (e := 9) (base := A + 1) (v := u4) (W := wr) (by rw [nms_len]; exact hN.out.row)
      have HST := Lib.hid hst
      have HWS := Lib.hid hN.out.s
      have HB := Lib.hid hN.out.below
      clear hN hst
      have c0 := blk_cell HWS.out 0; have c1 := blk_cell HWS.out 1
      cases hs : sigB r l with
      | false =>
        go_wp2_with fail
        refine (Sig_bad r l _ hs).mono ?_
        rintro e w3 ⟨rfl, hb⟩
        have HWS := Lib.hid (blk_later hb HWS.out)
        have HB := Lib.hid (HB.out.trans (hb.mono HB.out.size))
        clear hb c0 c1 HST
        have c0 := blk_cell HWS.out 0; have c1 := blk_cell HWS.out 1
        go_wp2_with fail
        refine (Next_bad r l _ hs).mono ?_
        rintro e w4 ⟨rfl, hb⟩
        have HB := Lib.hid (HB.out.trans (hb.mono HB.out.size))
        clear hb c0 c1 HWS hs
        go_wp2_with fail
        have hX : (w4.alloc (.cells #[.int .i64 0, .int .i64 0] 39)).heap[w4.heap.size]? = some (.cells #[.int .i64 0, .int .i64 0] 39) := by exact (by repeat (first | exact heap_alloc_at _ _ _ (by (first | omega | (simp; done) | (simp; omega) | fail)) | (refine (heap_alloc_past _ _ _ ?_).trans ?_; · (first | omega | (simp; done) | (simp; omega) | fail)) | fail))
        have HB := Lib.hid (HB.out.alloc HB.out.size (.cells #[.int .i64 0, .int .i64 0] 39))
        revert hX HB
        generalize w4.alloc (.cells #[.int .i64 0, .int .i64 0] 39) = w5
        intro hX HB
        have c0 := blk_cell hX 0; have c1 := blk_cell hX 1
        have r0 := cell_regrown c0
        have r1 := cell_regrown c1
        clear c0 c1 hX
        have cS : ∀ d os, Calls Tryd.prog 13 #[.int .i64 0, .int .i64 0] (grow (redrawn w5 d) os) (fun e w'' => e = .returned (.agg #[.int .i64 0, .int .i64 0]) ∧ ∃ p : Regrown, w'' = grow (redrawn w5 p.d) p.os) := fun d os => Calls.regrown_of (lawSig_any 0 0 _)
        have cA : ∀ d os, Calls Tryd.prog 15 #[] (grow (redrawn w5 d) os) (fun e w'' => e = .returned (.bool true) ∧ ∃ p : Regrown, w'' = grow (redrawn w5 p.d) p.os) := fun d os => Calls.regrown_of (Awake_any _)
        refine wp_region_quiet_below (by kernel_rfl) (by kernel_rfl) ?_; (repeat (go_big_quiet_step (first | exact cS _ _ | exact cA _ _))); refine wpQuiet_nil ?_; rintro w6 ⟨⟨d6, os6⟩, rfl⟩
        clear r0 r1 cS cA
        have HB := Lib.hid (HB.out.trans ((below_regrown w5 d6 os6).mono HB.out.size))
        go_wp2_with fail
        go_ret
        exact ⟨rfl, HB.out⟩
      | true =>
        go_wp2_with fail
        refine (Sig_good r l _ hs).mono ?_
        rintro e w3 ⟨rfl, hb⟩
        have HWS := Lib.hid (blk_later hb HWS.out)
        have HB := Lib.hid (HB.out.trans (hb.mono HB.out.size))
        have HST := Lib.hid (HST.out.later hb)
        have hpl := sig_met hs
        clear hb c0 c1
        have c0 := blk_cell HWS.out 0; have c1 := blk_cell HWS.out 1
        by_cases hl : l < 23
        · have hpt : 0 ≤ placeF (nms 69) (sigT r l) := hpl.2 hl
          obtain ⟨r', hr'⟩ : ∃ r', r' = (behindF r l).1 := ⟨_, rfl⟩
          obtain ⟨l', hl'⟩ : ∃ l', l' = (behindF r l).2 := ⟨_, rfl⟩
          have HF : Hid (behindF r l = (r', l')) := Lib.hid (by rw [hr', hl'])
          clear hr' hl' hpl
          have HSG := Lib.hid hs
          clear hs
          have hnl : decide (23 ≤ l) = false := decide_eq_false (by omega)
          cases hx : sigB r' l' with
          | false =>
            go_wp2_with fail
            refine (Next_letter r l _ HSG.out hl r' l' HF.out false hx (.tuple #[.agg #[.int .i64 0, .int .i64 0], .int .i64 4]) rfl).mono ?_
            rintro e w4 ⟨rfl, hb⟩
            have HWS := Lib.hid (blk_later hb HWS.out)
            have HB := Lib.hid (HB.out.trans (hb.mono HB.out.size))
            have HST := Lib.hid (HST.out.later hb)
            clear hb c0 c1
            go_wp2_with fail
            have hba := Lib.hid ((Below.refl w4.heap.size w4).alloc (Nat.le_refl _) (.cells #[.int .i64 0, .int .i64 0] 39))
            have HWS := Lib.hid (blk_later hba.out HWS.out)
            have HB := Lib.hid (HB.out.trans (hba.out.mono HB.out.size))
            have HST := Lib.hid (HST.out.later hba.out)
            clear hba
            revert HWS HB HST
            generalize w4.alloc (.cells #[.int .i64 0, .int .i64 0] 39) = w5
            intro HWS HB HST
            have c0 := blk_cell HWS.out 0; have c1 := blk_cell HWS.out 1
            have r0 := cell_regrown c0
            have r1 := cell_regrown c1
            clear c0 c1
            have cP : ∀ d os, Calls Tryd.prog 16 #[u4, S (sigT r l)] (grow (redrawn w5 d) os) (fun e w'' => e = .returned (.int .i64 (placeF (nms 69) (sigT r l))) ∧ ∃ p : Regrown, w'' = grow (redrawn w5 p.d) p.os) := fun d os => Calls.regrown_of (Place_any _ _ _ _ (HST.out.later (below_regrown w5 d os)) (by rw [nms_len]; omega))
            have cA : ∀ d os, Calls Tryd.prog 15 #[] (grow (redrawn w5 d) os) (fun e w'' => e = .returned (.bool true) ∧ ∃ p : Regrown, w'' = grow (redrawn w5 p.d) p.os) := fun d os => Calls.regrown_of (Awake_any _)
            refine wp_region_quiet_below (by kernel_rfl) (by kernel_rfl) ?_; (repeat (go_big_quiet_step (first | exact cP _ _ | exact cA _ _))); refine wpQuiet_nil ?_; rintro w6 ⟨⟨d6, os6⟩, rfl⟩
            clear r0 r1 cP cA
            have HB := Lib.hid (HB.out.trans ((below_regrown w5 d6 os6).mono HB.out.size))
            go_wp2_with fail
            go_ret
            exact ⟨rfl, HB.out⟩
          | true =>
            go_wp2_with fail
            refine (Next_letter r l _ HSG.out hl r' l' HF.out true hx (.tuple #[.agg #[.int .i64 r', .int .i64 l'], .int .i64 0]) rfl).mono ?_
            rintro e w4 ⟨rfl, hb⟩
            have HWS := Lib.hid (blk_later hb HWS.out)
            have HB := Lib.hid (HB.out.trans (hb.mono HB.out.size))
            have HST := Lib.hid (HST.out.later hb)
            clear hb c0 c1
            go_wp2_with fail
            have hba := Lib.hid ((Below.refl w4.heap.size w4).alloc (Nat.le_refl _) (.cells #[.int .i64 r', .int .i64 l'] 39))
            have HWS := Lib.hid (blk_later hba.out HWS.out)
            have HB := Lib.hid (HB.out.trans (hba.out.mono HB.out.size))
            have HST := Lib.hid (HST.out.later hba.out)
            clear hba
            revert HWS HB HST
            generalize w4.alloc (.cells #[.int .i64 r', .int .i64 l'] 39) = w5
            intro HWS HB HST
            have c0 := blk_cell HWS.out 0; have c1 := blk_cell HWS.out 1
            have r0 := cell_regrown c0
            have r1 := cell_regrown c1
            clear c0 c1
            have cP : ∀ d os, Calls Tryd.prog 16 #[u4, S (sigT r l)] (grow (redrawn w5 d) os) (fun e w'' => e = .returned (.int .i64 (placeF (nms 69) (sigT r l))) ∧ ∃ p : Regrown, w'' = grow (redrawn w5 p.d) p.os) := fun d os => Calls.regrown_of (Place_any _ _ _ _ (HST.out.later (below_regrown w5 d os)) (by rw [nms_len]; omega))
            have cA : ∀ d os, Calls Tryd.prog 15 #[] (grow (redrawn w5 d) os) (fun e w'' => e = .returned (.bool true) ∧ ∃ p : Regrown, w'' = grow (redrawn w5 p.d) p.os) := fun d os => Calls.regrown_of (Awake_any _)
            refine wp_region_quiet_below (by kernel_rfl) (by kernel_rfl) ?_; (repeat (go_big_quiet_step (first | exact cP _ _ | exact cA _ _))); refine wpQuiet_nil ?_; rintro w6 ⟨⟨d6, os6⟩, rfl⟩
            clear r0 r1 cP cA
            have HB := Lib.hid (HB.out.trans ((below_regrown w5 d6 os6).mono HB.out.size))
            go_wp2_with fail
            go_ret
            exact ⟨rfl, HB.out⟩
        · have hpt : decide (0 ≤ placeF (nms 69) (sigT r l)) = false := decide_eq_false fun h => hl (hpl.1 h)
          have hnl : decide (l < 23) = false := decide_eq_false hl
          have HL := Lib.hid hl
          clear hpl
          have HSG := Lib.hid hs
          clear hs
          go_wp2_with fail
          refine (Next_plain r l _ HSG.out (by have := HL.out; omega)).mono ?_
          rintro e w4 ⟨rfl, hb⟩
          have HWS := Lib.hid (blk_later hb HWS.out)
          have HB := Lib.hid (HB.out.trans (hb.mono HB.out.size))
          have HST := Lib.hid (HST.out.later hb)
          clear hb c0 c1
          go_wp2_with fail
          have hba := Lib.hid ((Below.refl w4.heap.size w4).alloc (Nat.le_refl _) (.cells #[.int .i64 0, .int .i64 0] 39))
          have HWS := Lib.hid (blk_later hba.out HWS.out)
          have HB := Lib.hid (HB.out.trans (hba.out.mono HB.out.size))
          have HST := Lib.hid (HST.out.later hba.out)
          clear hba
          revert HWS HB HST
          generalize w4.alloc (.cells #[.int .i64 0, .int .i64 0] 39) = w5
          intro HWS HB HST
          have c0 := blk_cell HWS.out 0; have c1 := blk_cell HWS.out 1
          have r0 := cell_regrown c0
          have r1 := cell_regrown c1
          clear c0 c1
          have cP : ∀ d os, Calls Tryd.prog 16 #[u4, S (sigT r l)] (grow (redrawn w5 d) os) (fun e w'' => e = .returned (.int .i64 (placeF (nms 69) (sigT r l))) ∧ ∃ p : Regrown, w'' = grow (redrawn w5 p.d) p.os) := fun d os => Calls.regrown_of (Place_any _ _ _ _ (HST.out.later (below_regrown w5 d os)) (by rw [nms_len]; omega))
          have cA : ∀ d os, Calls Tryd.prog 15 #[] (grow (redrawn w5 d) os) (fun e w'' => e = .returned (.bool true) ∧ ∃ p : Regrown, w'' = grow (redrawn w5 p.d) p.os) := fun d os => Calls.regrown_of (Awake_any _)
          refine wp_region_quiet_below (by kernel_rfl) (by kernel_rfl) ?_; (repeat (go_big_quiet_step (first | exact cP _ _ | exact cA _ _))); refine wpQuiet_nil ?_; rintro w6 ⟨⟨d6, os6⟩, rfl⟩
          clear r0 r1 cP cA
          have HB := Lib.hid (HB.out.trans ((below_regrown w5 d6 os6).mono HB.out.size))
          go_wp2_with fail
          go_ret
          exact ⟨rfl, HB.out⟩

end Go.Proofs.YtlekbddlemfokaaDoor
