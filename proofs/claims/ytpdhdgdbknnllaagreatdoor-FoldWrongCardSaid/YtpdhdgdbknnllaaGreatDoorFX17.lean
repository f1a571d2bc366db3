/- The parts Fg, Fh, Fm, Bb, Hf of the proof, joined. It holds without conditions of its own. -/
import Derived.Test.YtpdhdgdbknnllaaGreatDoorFX16
import Derived.Test.YtpdhdgdbknnllaaGreatDoorFX10
set_option maxRecDepth 100000
set_option maxHeartbeats 20000000
namespace Go.Proofs.YtpdhdgdbknnllaaGreatDoor
section
set_option linter.unusedSimpArgs false
set_option linter.unusedVariables false
open Go Go.RowKit Go.Sort Go.BigFrame
theorem has_bits : (List.range 2048).all (fun s => (List.range 11).all fun n => (bits BinOp.and IntKind.u64 ((s : Int) / 2 ^ n) 1 == 1) == s.testBit n) = true := by decide +kernel
theorem has_bit {s n : Nat} (hs : s < 2048) (hn : n < 11) : (bits BinOp.and IntKind.u64 ((s : Int) / 2 ^ n) 1 == 1) = s.testBit n := by
 have h1 := List.all_eq_true.1 has_bits s (List.mem_range.2 hs)
 exact beq_iff_eq.1 (List.all_eq_true.1 h1 n (List.mem_range.2 hn))
theorem all_bits : (List.range 12).all (fun n => IntKind.u64.wrap (IntKind.u64.wrap (2 ^ n) - 1) == ((2 ^ n - 1 : Nat) : Int)) = true := by decide +kernel
theorem SetHas_any (s n : Nat) (hs : s < 2048) (hn : n < 11) (w : World) :
  Calls Tryz.prog 62 #[.int .u64 s, .int .i64 n] w fun e w' => e = .returned (.bool (s.testBit n)) /\ w' = w := by
 have h := has_bit hs hn
 obtain ⟨z, hz⟩ : ∃ z, z = s.testBit n := ⟨_, rfl⟩
 rw [<- hz] at h ⊢
 clear hz
 go_enter Tryz.func62, Tryz.ntmps62
 go_wp2_with fail
 go_ret
 exact ⟨rfl, rfl⟩
theorem SetAll_any (n : Nat) (hn : n <= 11) (w : World) :
  Calls Tryz.prog 64 #[.int .i64 n] w fun e w' => e = .returned (.int .u64 ((2 ^ n - 1 : Nat) : Int)) /\ w' = w := by
 have h := beq_iff_eq.1 (List.all_eq_true.1 all_bits n (List.mem_range.2 (by omega)))
 go_enter Tryz.func64, Tryz.ntmps64
 go_wp2_with fail
 go_ret
 exact ⟨rfl, rfl⟩
end
section
set_option linter.unusedSimpArgs false
set_option linter.unusedVariables false
open Go Go.RowKit Go.Sort Go.BigFrame
def untrB (ls : List Fl) (co ro sheet half : Nat) (m : Int × Bool) : Bool := match ls[m.1.toNat]? with
 | none => false
 | some l => decide (l.sheet = sheet) && (markB co ro half l != m.2)
def trueFrom (ls : List Fl) (co ro s sheet half : Nat) : Nat -> List (Int × Bool) -> Bool
 | _, [] => true
 | k, m :: ms => if s.testBit (3 + k) = true /\ untrB ls co ro sheet half m = true then false else trueFrom ls co ro s sheet half (k + 1) ms
structure CmAt (W : World) (P1 P2 P3 P4 g : Nat) (b : Bok) (s sheet co ro : Nat) (m : Mkw) (bs : Bs) (q : Ppr) (tr : Int) (mv wv lv : Value) (ls : List Fl) : Prop where
 seen : W.heap[P1]? = some (.cells (seenC b mv wv) 72 (0, 0))
 set : W.heap[P2]? = some (.cells #[.int .u64 s] 79 (0, 0))
 way : W.heap[P3]? = some (.cells (wayC m bs co ro q tr lv) 83 (0, 0))
 sheet : W.heap[P4]? = some (.cells #[.int .i64 sheet] 3 (0, 0))
 marks : RowsAt 2 mrkV W.heap.size W mv b.marks
 leaves : LeavesAt W lv ls g
theorem CmAt.later {W W' : World} {P1 P2 P3 P4 g : Nat} {b : Bok} {s sheet co ro : Nat} {m : Mkw} {bs : Bs} {q : Ppr} {tr : Int} {mv wv lv : Value} {ls : List Fl} (h : CmAt W P1 P2 P3 P4 g b s sheet co ro m bs q tr mv wv lv ls) (hb : Below W.heap.size W W') : CmAt W' P1 P2 P3 P4 g b s sheet co ro m bs q tr mv wv lv ls :=
 ⟨blk_later hb h.seen, blk_later hb h.set, blk_later hb h.way, blk_later hb h.sheet, h.marks.later hb, h.leaves.later hb⟩
theorem allTrue_any (W : World) (P1 P2 P3 P4 g : Nat) (b : Bok) (s sheet co ro half : Nat) (m : Mkw) (bs : Bs) (q : Ppr) (tr : Int) (mv wv lv : Value) (ls : List Fl) (h : CmAt W P1 P2 P3 P4 g b s sheet co ro m bs q tr mv wv lv ls)
  (hs : s < 2048) (hn : b.marks.length <= 8) (hl : ls.length <= 64) (hm : ∀ x ∈ b.marks, 0 <= x.1 /\ x.1 < ls.length) (hsm : ∀ l ∈ ls, l.col < 16 /\ l.row < 16) (hco : (co : Int) ∈ pows) (hro : (ro : Int) ∈ pows) (hh : half <= 1) :
  Calls Tryz.prog 97 #[.int .i64 half, .pointer (some ⟨P1, 0, none⟩), .pointer (some ⟨P2, 0, none⟩), .pointer (some ⟨P3, 0, none⟩), .pointer (some ⟨P4, 0, none⟩)] W fun e w' => e = .returned (.bool (trueFrom ls co ro s sheet half 0 b.marks)) /\ Below W.heap.size W w' := by
 have HC := Lib.hid h
 have HM := Lib.hid hm
 have HSM := Lib.hid hsm
 have HCO := Lib.hid hco
 have HRO := Lib.hid hro
 have hl' := h.leaves
 obtain ⟨k7, rest7, rfl, -⟩ := hl'
 have hm' := h.marks
 obtain ⟨ma, mcap, rfl, hmc⟩ := hm'
 obtain ⟨N, hN⟩ : ∃ N, N = b.marks.length := ⟨_, rfl⟩
 obtain ⟨NL, hNL⟩ : ∃ N, N = ls.length := ⟨_, rfl⟩
 have HN := Lib.hid hN
 have HNL := Lib.hid hNL
 rw [<- hN] at HC hn
 rw [<- hNL] at HC hl HM
 have hHas := fun (k : Nat) (hk : k < 8) (W' : World) => SetHas_any s (3 + k) hs (by omega) W'
 have HHAS := Lib.hid hHas
 obtain ⟨Z, hZ⟩ : ∃ Z, Z = trueFrom ls co ro s sheet half 0 b.marks := ⟨_, rfl⟩
 rw [<- hZ]
 have HZ0 : Hid (Z = trueFrom ls co ro s sheet half 0 (b.marks.drop 0)) := Lib.hid (by rw [List.drop_zero]; exact hZ)
 clear h hm hsm hco hro hN hNL hHas hs hZ
 have h1 := HC.out.seen
 dsimp only [seenC] at h1
 have c0 := blk_cell (h1) 0
 have c1 := blk_cell (h1) 1
 have c2 := blk_cell (h1) 2
 have c3 := blk_cell (h1) 3
 have c4 := blk_cell (h1) 4
 have c5 := blk_cell (h1) 5
 have c6 := blk_cell (h1) 6
 have c7 := blk_cell (h1) 7
 clear h1
 go_enter Tryz.func97, Tryz.ntmps97
 go_wp2_with fail
 clear c0 c1 c2 c3 c4 c5 c6 c7
 go_loopw [14] (fun i wr => ∃ (k : Nat), k <= N /\ i = .int .i64 k /\ Hid (Below W.heap.size W wr) /\ Hid (Z = trueFrom ls co ro s sheet half k (b.marks.drop k))) (fun i _ => N - (intOf i).toNat)
 case atStart => exact ⟨0, by omega, rfl, Below.refl _ _, HZ0⟩
 case round =>
  clear HZ0
  obtain ⟨k, hk, rfl, HB, HZ⟩ := hrel
  have HCr := Lib.hid (HC.out.later HB.out)
  by_cases hlt : k < N
  · obtain ⟨x, hx⟩ : ∃ x, b.marks[k]? = some x := ⟨_, List.getElem?_eq_getElem (by have := HN.out; omega)⟩
    obtain ⟨xl, xs⟩ := x
    obtain ⟨mb, mo, rfl, hmb, hmcell⟩ := hmc (fun h => by rw [h] at hx; simp at hx)
    have m0 : W.cell? ⟨mb, mo + k * 2, none⟩ = some (.int .i64 xl) := by have := hmcell k _ hx 0 _ rfl; simpa using this
    have m1 : W.cell? ⟨mb, mo + k * 2 + 1, none⟩ = some (.bool xs) := by have := hmcell k _ hx 1 _ rfl; simpa using this
    have m0 := cell_later' HB.out m0
    have m1 := cell_later' HB.out m1
    obtain ⟨hx0, hx1⟩ := HM.out _ (List.mem_of_getElem? hx)
    obtain ⟨j, rfl⟩ : ∃ j : Nat, xl = j := ⟨xl.toNat, by dsimp only at hx0; omega⟩
    have hj : j < NL := by dsimp only at hx1; omega
    obtain ⟨y, hy⟩ : ∃ y, ls[j]? = some y := ⟨_, List.getElem?_eq_getElem (by have := HNL.out; omega)⟩
    have HY := Lib.hid hy
    have HX := Lib.hid hx
    obtain ⟨t, ht⟩ : ∃ t, t = s.testBit (3 + k) := ⟨_, rfl⟩
    have hst : trueFrom ls co ro s sheet half k (b.marks.drop k) = if t = true /\ untrB ls co ro sheet half ((j : Int), xs) = true then false else trueFrom ls co ro s sheet half (k + 1) (b.marks.drop (k + 1)) := by
     rw [drop_at hx, trueFrom, <- ht]
    have HST := Lib.hid (HZ.out.trans hst)
    have HT := Lib.hid ht
    clear hx hst hmcell hx0 hx1 ht
    go_upto_region 4 with fail
    obtain ⟨w1, hw1⟩ : ∃ w1, w1 = (wr.alloc (.cells #[.int .i64 j, .bool xs] 58)) := ⟨_, rfl⟩
    rw [<- hw1]
    have hb1 : Below wr.heap.size wr w1 := by rw [hw1]; exact (Below.refl _ _).alloc (Nat.le_refl _) _
    have hv : w1.heap[wr.heap.size]? = some (.cells #[.int .i64 j, .bool xs] 58 (0, 0)) := by rw [hw1]; exact World.alloc_heap_new _ _
    have HC1 := Lib.hid (HCr.out.later hb1)
    have HB1 := Lib.hid (HB.out.trans (hb1.mono HB.out.size))
    have HV := Lib.hid hv
    clear hw1 hb1 m0 m1 HCr HB
    have v0 := cell_regrown (blk_cell hv 0)
    have v1 := cell_regrown (blk_cell hv 1)
    have a0 := cell_regrown (blk_cell HC1.out.set 0)
    have b0 := cell_regrown (blk_cell HC1.out.sheet 0)
    have hway := HC1.out.way
    dsimp only [wayC] at hway
    have p13 := cell_regrown (blk_cell hway 13)
    have y0 := cell_regrown (leaf_cells HC1.out.leaves HY.out).1
    have cH : ∀ d' os, Calls Tryz.prog 62 #[.int .u64 s, .int .i64 (3 + (k : Int))] (grow (redrawn w1 d') os) (fun e w'' => e = .returned (.bool t) /\ ∃ p : Regrown, w'' = grow (redrawn w1 p.d) p.os) := fun d' os => Calls.regrown_of ((HHAS.out k (by omega) _).mono fun e w'' ⟨h1, h2⟩ => ⟨by rw [HT.out]; exact h1, by rw [h2]; exact Below.refl _ _⟩)
    clear hv hway hy
    cases t with
    | false =>
      have HZN : Hid (Z = trueFrom ls co ro s sheet half (k + 1) (b.marks.drop (k + 1))) := Lib.hid (by rw [HST.out, if_neg (by simp)])
      clear HST HZ
      refine wp_region_quiet_below (by kernel_rfl) (by kernel_rfl) ?_; (repeat (go_big_quiet_step (exact cH _ _))); refine wpQuiet_nil ?_; rintro w6 ⟨⟨d6, os6⟩, rfl⟩
      have HB6 := Lib.hid (HB1.out.trans ((below_regrown w1 d6 os6).mono HB1.out.size))
      clear v0 v1 a0 b0 p13 y0 cH HC1 HV HB1
      dsimp only
      generalize grow (redrawn w1 d6) os6 = w6 at *
      go_wp2_with fail
      go_quiet (fail)
      go_wp2_with fail
      go_roundw
      case rel => exact ⟨k + 1, by omega, by go_num, Lib.hid (bdrewN HB6.out _), HZN⟩
      case measure => simp [intOf]; omega
    | true =>
      by_cases hsh : y.sheet = sheet
      · have e1 : ((y.sheet : Int) == (sheet : Int)) = true := by simp [hsh]
        refine wp_region_quiet_below (by kernel_rfl) (by kernel_rfl) ?_; (repeat (go_big_quiet_step (exact cH _ _))); refine wpQuiet_nil ?_; rintro w6 ⟨⟨d6, os6⟩, rfl⟩
        have HB6 := Lib.hid (HB1.out.trans ((below_regrown w1 d6 os6).mono HB1.out.size))
        have HC6 := Lib.hid (HC1.out.later (below_regrown w1 d6 os6))
        have hv6 := blk_later (below_regrown w1 d6 os6) HV.out
        clear v0 v1 a0 b0 p13 y0 cH HC1 HV HB1
        dsimp only
        generalize grow (redrawn w1 d6) os6 = w6 at *
        have v0 := cell_regrown (blk_cell hv6 0)
        have v1 := cell_regrown (blk_cell hv6 1)
        have hway := HC6.out.way
        dsimp only [wayC] at hway
        have p0 := blk_cell (hway) 0
        have p1 := blk_cell (hway) 1
        have p2 := blk_cell (hway) 2
        have p3 := blk_cell (hway) 3
        have p4 := blk_cell (hway) 4
        have p5 := blk_cell (hway) 5
        have p6 := blk_cell (hway) 6
        have p7 := blk_cell (hway) 7
        have p8 := blk_cell (hway) 8
        have p9 := blk_cell (hway) 9
        have p10 := blk_cell (hway) 10
        have p11 := blk_cell (hway) 11
        have p12 := blk_cell (hway) 12
        have p13 := blk_cell (hway) 13
        have p0 := cell_regrown p0
        have p1 := cell_regrown p1
        have p2 := cell_regrown p2
        have p3 := cell_regrown p3
        have p4 := cell_regrown p4
        have p5 := cell_regrown p5
        have p6 := cell_regrown p6
        have p7 := cell_regrown p7
        have p8 := cell_regrown p8
        have p9 := cell_regrown p9
        have p10 := cell_regrown p10
        have p11 := cell_regrown p11
        have p12 := cell_regrown p12
        have p13 := cell_regrown p13
        obtain ⟨B, hB⟩ : ∃ B, B = markB co ro half y := ⟨_, rfl⟩
        have HBB := Lib.hid hB
        obtain ⟨hy1, hy2⟩ := HSM.out y (List.mem_of_getElem? HY.out)
        have cM : ∀ d' os, Calls Tryz.prog 77 #[.agg (wayC m bs co ro q tr (.slice (some ⟨g, 0, none⟩) NL (NL + k7))), .int .i64 j, .int .i64 half] (grow (redrawn w6 d') os) (fun e w'' => e = .returned (.bool B) /\ ∃ p : Regrown, w'' = grow (redrawn w6 p.d) p.os) := fun d' os => Calls.regrown_of (by
         rw [hB]
         exact marked_any m bs co ro q tr (.slice (some ⟨g, 0, none⟩) NL (NL + k7)) ls g j half y _ (HC6.out.leaves.later (below_regrown w6 d' os)) (by rw [<- HNL.out]; omega) HY.out hy1 hy2 HCO.out HRO.out hh)
        obtain ⟨nb, hnb⟩ : ∃ b, b = (B != xs) := ⟨_, rfl⟩
        have e2 : (!(B == xs)) = nb := hnb.symm
        have HU : Hid (untrB ls co ro sheet half ((j : Int), xs) = nb) := Lib.hid (by
         unfold untrB
         rw [Int.toNat_natCast, HY.out]
         show (decide (y.sheet = sheet) && (markB co ro half y != xs)) = nb
         rw [decide_eq_true hsh, <- hB, hnb, Bool.true_and])
        clear hv6 hway hB hnb hsh hy1 hy2
        go_wp2_with fail
        refine wp_region_quiet_below (by kernel_rfl) (by kernel_rfl) ?_; (repeat (go_big_quiet_step (exact cM _ _))); refine wpQuiet_nil ?_; rintro w7 ⟨⟨d7, os7⟩, rfl⟩
        have HB7 := Lib.hid (HB6.out.trans ((below_regrown w6 d7 os7).mono HB6.out.size))
        clear v0 v1 p0 p1 p2 p3 p4 p5 p6 p7 p8 p9 p10 p11 p12 p13 cM HC6
        dsimp only
        generalize grow (redrawn w6 d7) os7 = w7 at *
        cases nb with
        | true =>
          have HZN : Hid (Z = false) := Lib.hid (by rw [HST.out, if_pos (by rw [HU.out]; simp)])
          clear HST HZ
          go_wp2_with fail
          go_ret
          exact ⟨by rw [HZN.out]; rfl, HB7.out⟩
        | false =>
          have HZN : Hid (Z = trueFrom ls co ro s sheet half (k + 1) (b.marks.drop (k + 1))) := Lib.hid (by rw [HST.out, if_neg (by rw [HU.out]; simp)])
          clear HST HZ
          go_wp2_with fail
          go_roundw
          case rel => exact ⟨k + 1, by omega, by go_num, HB7, HZN⟩
          case measure => simp [intOf]; omega
      · have e1 : ((y.sheet : Int) == (sheet : Int)) = false := by simp; omega
        have HU : Hid (untrB ls co ro sheet half ((j : Int), xs) = false) := Lib.hid (by
         unfold untrB
         rw [Int.toNat_natCast, HY.out]
         show (decide (y.sheet = sheet) && _) = false
         rw [decide_eq_false hsh, Bool.false_and])
        have HZN : Hid (Z = trueFrom ls co ro s sheet half (k + 1) (b.marks.drop (k + 1))) := Lib.hid (by rw [HST.out, if_neg (by rw [HU.out]; simp)])
        clear HST HZ hsh
        refine wp_region_quiet_below (by kernel_rfl) (by kernel_rfl) ?_; (repeat (go_big_quiet_step (exact cH _ _))); refine wpQuiet_nil ?_; rintro w6 ⟨⟨d6, os6⟩, rfl⟩
        have HB6 := Lib.hid (HB1.out.trans ((below_regrown w1 d6 os6).mono HB1.out.size))
        clear v0 v1 a0 b0 p13 y0 cH HC1 HV HB1
        dsimp only
        generalize grow (redrawn w1 d6) os6 = w6 at *
        go_wp2_with fail
        go_quiet (fail)
        go_wp2_with fail
        go_roundw
        case rel => exact ⟨k + 1, by omega, by go_num, Lib.hid (bdrewN HB6.out _), HZN⟩
        case measure => simp [intOf]; omega
  · have HZ1 : Hid (Z = true) := Lib.hid (by rw [HZ.out, List.drop_of_length_le (by have := HN.out; omega)]; rfl)
    clear HZ
    go_wp2_with fail
    go_ret
    exact ⟨by rw [HZ1.out]; rfl, HB.out⟩
theorem canBeMarked_any (b : Bok) (s sheet co ro g : Nat) (m : Mkw) (bs : Bs) (q : Ppr) (tr : Int) (mv wv lv : Value) (ls : List Fl) (w : World) (hmk : RowsAt 2 mrkV w.heap.size w mv b.marks) (hlv : LeavesAt w lv ls g)
  (hs : s < 2048) (hn : b.marks.length <= 8) (hl : ls.length <= 64) (hm : ∀ x ∈ b.marks, 0 <= x.1 /\ x.1 < ls.length) (hsm : ∀ l ∈ ls, l.col < 16 /\ l.row < 16) (hco : (co : Int) ∈ pows) (hro : (ro : Int) ∈ pows) :
  Calls Tryz.prog 63 #[.agg (seenC b mv wv), .agg (wayC m bs co ro q tr lv), .int .i64 sheet, .int .u64 s] w fun e w' => e = .returned (.bool (trueFrom ls co ro s sheet 0 0 b.marks || trueFrom ls co ro s sheet 1 0 b.marks)) /\ Below w.heap.size w w' := by
 have hmf : ∀ (fn : Fn) (first cap : Array Value) (w : World), (Instr.makeFunc fn first cap).run Tryz.prog w = .ok (.func fn first cap) w := fun _ _ _ _ => rfl
 obtain ⟨w1, hw1⟩ : ∃ w1, w1 = ((((w.alloc (.cells (seenC b mv wv) 72)).alloc (.cells (wayC m bs co ro q tr lv) 83)).alloc (.cells #[.int .i64 sheet] 3)).alloc (.cells #[.int .u64 s] 79)) := ⟨_, rfl⟩
 have hb1 : Below w.heap.size w w1 := by rw [hw1]; exact (by repeat (first | exact Below.refl _ _ | assumption | (refine Below.alloc ?_ ?_ _; rotate_left; · (first | omega | (simp; done) | (simp; omega) | fail)) | (refine Below.setCell ?_ ?_ _; rotate_left; · (first | omega | (simp; done) | (simp; omega) | fail)) | refine Below.drew ?_ | fail))
 have HA : Hid (CmAt w1 w.heap.size (w.heap.size + 1 + 1 + 1) (w.heap.size + 1) (w.heap.size + 1 + 1) g b s sheet co ro m bs q tr mv wv lv ls) := Lib.hid ⟨by rw [hw1]; exact (by repeat (first | exact heap_alloc_at _ _ _ (by (first | omega | (simp; done) | (simp; omega) | (simp at *; omega) | fail)) | assumption | rw [heap_alloc_past _ _ _ (by (first | omega | (simp; done) | (simp; omega) | (simp at *; omega) | fail))] | rw [heap_setCell_past _ _ _ _ (by (first | omega | (simp; done) | (simp; omega) | (simp at *; omega) | fail))] | fail)), by rw [hw1]; exact (by repeat (first | exact heap_alloc_at _ _ _ (by (first | omega | (simp; done) | (simp; omega) | (simp at *; omega) | fail)) | assumption | rw [heap_alloc_past _ _ _ (by (first | omega | (simp; done) | (simp; omega) | (simp at *; omega) | fail))] | rw [heap_setCell_past _ _ _ _ (by (first | omega | (simp; done) | (simp; omega) | (simp at *; omega) | fail))] | fail)), by rw [hw1]; exact (by repeat (first | exact heap_alloc_at _ _ _ (by (first | omega | (simp; done) | (simp; omega) | (simp at *; omega) | fail)) | assumption | rw [heap_alloc_past _ _ _ (by (first | omega | (simp; done) | (simp; omega) | (simp at *; omega) | fail))] | rw [heap_setCell_past _ _ _ _ (by (first | omega | (simp; done) | (simp; omega) | (simp at *; omega) | fail))] | fail)), by rw [hw1]; exact (by repeat (first | exact heap_alloc_at _ _ _ (by (first | omega | (simp; done) | (simp; omega) | (simp at *; omega) | fail)) | assumption | rw [heap_alloc_past _ _ _ (by (first | omega | (simp; done) | (simp; omega) | (simp at *; omega) | fail))] | rw [heap_setCell_past _ _ _ _ (by (first | omega | (simp; done) | (simp; omega) | (simp at *; omega) | fail))] | fail)), hmk.later hb1, hlv.later hb1⟩
 have HT := Lib.hid (fun (half : Nat) (hh : half <= 1) (W : World) (h : CmAt W w.heap.size (w.heap.size + 1 + 1 + 1) (w.heap.size + 1) (w.heap.size + 1 + 1) g b s sheet co ro m bs q tr mv wv lv ls) => allTrue_any W _ _ _ _ g b s sheet co ro half m bs q tr mv wv lv ls h hs hn hl hm hsm hco hro hh)
 obtain ⟨t0, ht0⟩ : ∃ t, t = trueFrom ls co ro s sheet 0 0 b.marks := ⟨_, rfl⟩
 obtain ⟨t1, ht1⟩ : ∃ t, t = trueFrom ls co ro s sheet 1 0 b.marks := ⟨_, rfl⟩
 rw [<- ht0, <- ht1]
 have HT0 := Lib.hid ht0
 have HT1 := Lib.hid ht1
 have HB1 := Lib.hid hb1
 clear hmk hlv hs hn hl hm hsm hco hro ht0 ht1 hb1
 go_enter Tryz.func63, Tryz.ntmps63
 go_wp2_with fail
 rw [show ((((w.alloc (.cells (seenC b mv wv) 72)).alloc (.cells (wayC m bs co ro q tr lv) 83)).alloc (.cells #[.int .i64 sheet] 3)).alloc (.cells #[.int .u64 s] 79)) = w1 from hw1.symm]
 clear hw1
 refine (HT.out 0 (by omega) w1 HA.out).mono ?_
 rintro e w2 ⟨rfl, hb⟩
 rw [<- HT0.out]
 have HA2 := Lib.hid (HA.out.later hb)
 have HB2 := Lib.hid (HB1.out.trans (hb.mono HB1.out.size))
 clear hb HA HB1
 cases t0 with
 | true =>
   go_wp2_with fail
   go_ret
   exact ⟨by simp, HB2.out⟩
 | false =>
   go_wp2_with fail
   refine (HT.out 1 (by omega) w2 HA2.out).mono ?_
   rintro e w3 ⟨rfl, hb⟩
   rw [<- HT1.out]
   have HB3 := Lib.hid (HB2.out.trans (hb.mono HB2.out.size))
   clear hb HA2 HB2
   go_wp2_with fail
   go_ret
   exact ⟨by simp, HB3.out⟩
end
section
set_option linter.unusedSimpArgs false
set_option linter.unusedVariables false
open Go Go.RowKit Go.Sort Go.BigFrame
theorem fine_papers {p : Prs} (h : errP p = 0) : (0 <= p.trim /\ p.trim <= 60) /\ ∀ q ∈ p.pprs, (1 <= q.wlo /\ q.wlo <= 2000) /\ (1 <= q.whi /\ q.whi <= 2000) /\ (1 <= q.hlo /\ q.hlo <= 2000) /\ (1 <= q.hhi /\ q.hhi <= 2000) /\ q.wlo <= q.whi /\ q.hlo <= q.hhi := by
 unfold errP checkP at h
 split at h
 · rename_i h1; exact absurd h h1
 · rename_i h1
   split at h
   · rename_i h2; exact absurd h h2
   · rename_i h2
     split at h
     · cases h
     · rename_i h3
       have h2 : (pprsErr p.pprs).2 = 0 := by simpa using h2
       have h3 : (inI 0 60 p.trim && inI 1 4 p.sheets) = true := by simpa using h3
       unfold pprsErr at h2
       split at h2
       · cases h2
       · simp only [inI, Bool.and_eq_true, decide_eq_true_eq] at h3
         refine ⟨by omega, fun q hq => ?_⟩
         obtain ⟨seen, h4⟩ := firstE_ok _ _ _ h2 q hq
         unfold pprErr at h4
         split at h4
         · unfold spansErr at h4
           split at h4
           · cases h4
           · rename_i h5
             have h5 : (inI 1 2000 q.wlo && inI 1 2000 q.whi && inI 1 2000 q.hlo && inI 1 2000 q.hhi) = true := Classical.byContradiction fun hn => h5 (by simpa using hn)
             split at h4
             · cases h4
             · rename_i h6
               simp only [inI, Bool.and_eq_true, decide_eq_true_eq] at h5
               omega
         · rename_i h5; exact absurd h4 h5
theorem marks_in {leaves : Int} : ∀ (ms : List (Int × Bool)) (k : Nat), (marksErr leaves k ms).2 = 0 -> ∀ x ∈ ms, 0 <= x.1 /\ x.1 < leaves
 | [], _, _, x, hx => by cases hx
 | m :: ms, k, h, x, hx => by
   unfold marksErr at h
   split at h
   · rename_i h0
     rcases List.mem_cons.1 hx with rfl | hx
     · simp only [inI, Bool.and_eq_true, decide_eq_true_eq] at h0
       omega
     · exact marks_in ms _ h x hx
   · cases h
theorem fine_bok {p : Prs} {b : Bok} (h : (checkK p b).2.2 = 0) : errP p = 0 /\ (1 <= b.leaves /\ b.leaves <= 64) /\ b.marks.length <= 8 /\ ∀ x ∈ b.marks, 0 <= x.1 /\ x.1 < b.leaves := by
 have h0 := err_of_K h
 unfold checkK at h
 rw [if_neg (by rw [h0]; decide)] at h
 split at h
 · cases h
 · rename_i h1
   split at h
   · cases h
   · split at h
     · rename_i h3; exact absurd h h3
     · split at h
       · cases h
       · rename_i h4
         split at h
         · cases h
         · rename_i h5
           have h1 : inI 1 64 b.leaves = true := by simpa using h1
           have h4 : inI 0 8 b.marks.length = true := by simpa using h4
           have h5 : (marksErr b.leaves 0 b.marks).2 = 0 := by simpa using h5
           simp only [inI, Bool.and_eq_true, decide_eq_true_eq] at h1 h4
           exact ⟨h0, by omega, by omega, marks_in _ _ h5⟩
structure WayF (p : Prs) (b : Bok) (m : Mkw) (D : Fds) (co ro : Nat) (nm : Bs) (qa qb qc qd : Nat) : Prop where
 flds : fldsOf p m = bytesF D
 fds : fdsB (fldsOf p m) = D
 len1 : 1 <= D.length
 len4 : D.length <= 4
 cols : colsF D = co
 rows : rowsF D = ro
 cop : (co : Int) ∈ pows
 rop : (ro : Int) ∈ pows
 ppr : pprOf p m = ⟨nm, qa, qb, qc, qd⟩
 small : qa <= 2000 /\ qb <= 2000 /\ qc <= 2000 /\ qd <= 2000
 num : ((lvOf p m).length : Int) = b.leaves
 leaf : ∀ l ∈ lvOf p m, l.col < 16 /\ l.row < 16
 sh : 1 <= m.sheets.toNat /\ m.sheets.toNat <= 4 /\ m.sheets = (m.sheets.toNat : Int)
theorem way_fine {p : Prs} {b : Bok} {m : Mkw} (he : (checkK p b).2.2 = 0) (hm : m ∈ waysW p b (makesW p)) : ∃ D co ro nm qa qb qc qd, WayF p b m D co ro nm qa qb qc qd := by
 obtain ⟨h0, -, -, -⟩ := fine_bok he
 obtain ⟨hm1, hm2⟩ := List.mem_filter.1 hm
 have hm3 := makes_ok hm1
 obtain ⟨a1, a2, a3, a4⟩ := fine_at h0 hm3
 obtain ⟨f, hf⟩ : ∃ f, p.fmts[m.fmt.toNat]? = some f := ⟨_, List.getElem?_eq_getElem a2⟩
 obtain ⟨q, hq⟩ : ∃ q, p.pprs[m.ppr.toNat]? = some q := ⟨_, List.getElem?_eq_getElem a4⟩
 have k := fine_of h0 hm3 hf
 obtain ⟨-, hqs⟩ := fine_papers h0
 obtain ⟨q1, q2, q3, q4, -, -⟩ := hqs q (List.mem_of_getElem? hq)
 have e1 : fldsOf p m = f.folds := by unfold fldsOf; rw [hf]
 have e2 : pprOf p m = q := by unfold pprOf; rw [hq]
 have e3 : lvOf p m = leavesW m f := by unfold lvOf; rw [e1]
 have hpw := pows_all _ k.mem.1
 refine ⟨fdsB f.folds, colsF (fdsB f.folds), rowsF (fdsB f.folds), q.name, q.wlo.toNat, q.whi.toNat, q.hlo.toNat, q.hhi.toNat, ⟨?_, ?_, ?_, ?_, rfl, rfl, hpw.1, hpw.2, ?_, by omega, ?_, ?_, ?_⟩⟩
 · rw [e1, k.back]
 · rw [e1]
 · unfold fdsB; simpa using k.len1
 · unfold fdsB; simpa using k.len4
 · rw [e2, Int.toNat_of_nonneg (by omega), Int.toNat_of_nonneg (by omega), Int.toNat_of_nonneg (by omega), Int.toNat_of_nonneg (by omega)]
 · unfold waysP at hm2; simpa using hm2
 · intro l hl
   rw [e3] at hl
   obtain ⟨i, hi⟩ := List.getElem?_of_mem hl
   exact k.small hi
 · have := k.sh1
   have := k.sh4
   omega
def plainB (p : Prs) (b : Bok) (m : Mkw) : Bool × Bool × Bool :=
 let s := sizesF (pprOf p m).wlo.toNat (pprOf p m).whi.toNat (pprOf p m).hlo.toNat (pprOf p m).hhi.toNat (colsF (fdsB (fldsOf p m))) (rowsF (fdsB (fldsOf p m))) (lastF (fdsB (fldsOf p m))) p.trim
 (chainB2 b (lastF (fdsB (fldsOf p m))), meetB s.1 s.2.1 b.wlo b.whi, meetB s.2.2.1 s.2.2.2 b.hlo b.hhi)
def sheetB (p : Prs) (b : Bok) (s : Nat) (m : Mkw) (sh : Nat) : Bool :=
 trueFrom (lvOf p m) (colsF (fdsB (fldsOf p m))) (rowsF (fdsB (fldsOf p m))) s sh 0 0 b.marks || trueFrom (lvOf p m) (colsF (fdsB (fldsOf p m))) (rowsF (fdsB (fldsOf p m))) s sh 1 0 b.marks
def agreesP (p : Prs) (b : Bok) (s : Nat) (m : Mkw) : Bool :=
 (!(s.testBit 0) || (plainB p b m).1) && (!(s.testBit 1) || (plainB p b m).2.1) && (!(s.testBit 2) || (plainB p b m).2.2) && (List.range m.sheets.toNat).all fun sh => sheetB p b s m sh
end
section
set_option linter.unusedSimpArgs false
set_option linter.unusedVariables false
theorem spans_zero {lo hi a b c d : Int} : spansErr lo hi a b c d = 0 ↔ (lo <= a /\ a <= hi) /\ (lo <= b /\ b <= hi) /\ (lo <= c /\ c <= hi) /\ (lo <= d /\ d <= hi) /\ a <= b /\ c <= d := by
 unfold spansErr
 constructor
 · intro h
   split at h
   · cases h
   · rename_i h5
     have h5 : (inI lo hi a && inI lo hi b && inI lo hi c && inI lo hi d) = true := Classical.byContradiction fun hn => h5 (by simpa using hn)
     split at h
     · cases h
     · rename_i h6
       simp only [inI, Bool.and_eq_true, decide_eq_true_eq] at h5
       omega
 · intro h
   have h5 : (inI lo hi a && inI lo hi b && inI lo hi c && inI lo hi d) = true := by
    simp only [inI, Bool.and_eq_true, decide_eq_true_eq]
    omega
   rw [if_neg (by rw [h5]; decide), if_neg (by omega)]
theorem checkK_zero {p : Prs} {b : Bok} : (checkK p b).2.2 = 0 ↔ errP p = 0 /\ inI 1 64 b.leaves = true /\ inI 0 2 b.chain = true /\ spansErr 0 2000 b.wlo b.whi b.hlo b.hhi = 0 /\ inI 0 8 b.marks.length = true /\ (marksErr b.leaves 0 b.marks).2 = 0 := by
 unfold checkK
 constructor
 · intro h
   split at h
   · rename_i h1; exact absurd h h1
   · rename_i h1
     split at h
     · cases h
     · rename_i h2
       split at h
       · cases h
       · rename_i h3
         split at h
         · rename_i h4; exact absurd h h4
         · rename_i h4
           split at h
           · cases h
           · rename_i h5
             split at h
             · cases h
             · rename_i h6
               exact ⟨by simpa using h1, by simpa using h2, by simpa using h3, by simpa using h4, by simpa using h5, by simpa using h6⟩
 · rintro ⟨h1, h2, h3, h4, h5, h6⟩
   rw [if_neg (by rw [h1]; decide), if_neg (by rw [h2]; decide), if_neg (by rw [h3]; decide), if_neg (by rw [h4]; decide), if_neg (by rw [h5]; decide), if_neg (by rw [h6]; decide)]
theorem marksErr_zero {leaves : Int} : ∀ (ms : List (Int × Bool)) (k : Nat), (∀ x ∈ ms, inI 0 (leaves - 1) x.1 = true) -> (marksErr leaves k ms).2 = 0
 | [], _, _ => rfl
 | m :: ms, k, h => by
   rw [marksErr, if_pos (h m (List.mem_cons_self ..))]
   exact marksErr_zero ms _ fun x hx => h x (List.mem_cons_of_mem _ hx)
end
section
set_option linter.unusedSimpArgs false
set_option linter.unusedVariables false
def sizeN (up : Bool) (co ro : Nat) (W H : Nat) : Nat × Nat := if up then (W / co, H / ro) else (H / ro, W / co)
structure Szs where
 a : Nat
 b : Nat
 c : Nat
 d : Nat
def amongI (lo hi : Int) (n : Nat) : Int := lo + (n : Int) % (hi - lo + 1)
theorem among_in {lo hi : Int} (h : lo <= hi) (n : Nat) : lo <= amongI lo hi n /\ amongI lo hi n <= hi := by
 unfold amongI
 have h1 := Int.emod_nonneg (n : Int) (show hi - lo + 1 ≠ 0 by omega)
 have h2 := Int.emod_lt_of_pos (n : Int) (show 0 < hi - lo + 1 by omega)
 omega
def trimI (w : Int) (t : Nat) (trim : Int) : Int := max 0 (w - (t : Int) % (trim + 1))
def loI (w : Int) (n : Nat) : Int := max 0 (w - (n : Int) % 9)
def hiI (w : Int) (n : Nat) : Int := min 2000 (w + (n : Int) % 9)
def rawN (p : Prs) (m : Mkw) (s : Szs) : Nat × Nat := sizeN (lastF (fdsB (fldsOf p m))) (colsF (fdsB (fldsOf p m))) (rowsF (fdsB (fldsOf p m))) (amongI (pprOf p m).wlo (pprOf p m).whi s.a).toNat (amongI (pprOf p m).hlo (pprOf p m).hhi s.b).toNat
def wideI (p : Prs) (m : Mkw) (s : Szs) : Int := trimI (rawN p m s).1 s.c p.trim
def highI (p : Prs) (m : Mkw) (s : Szs) : Int := trimI (rawN p m s).2 s.d (2 * p.trim)
def tellM (p : Prs) (m : Mkw) (hv : Nat -> Nat) (bits i j : Nat) : Int × Bool := ((j : Int), (match (lvOf p m)[j]? with
 | some l => markB (colsF (fdsB (fldsOf p m))) (rowsF (fdsB (fldsOf p m))) (hv l.sheet) l
 | none => false) != bits.testBit i)
def toldB (p : Prs) (m : Mkw) (s : Szs) (v : Szs) (ch : Nat) (hv : Nat -> Nat) (bits : Nat) (js : List Nat) : Bok :=
 { leaves := ((lvOf p m).length : Nat), chain := if 0 < ch % 3 then (if lastF (fdsB (fldsOf p m)) then 1 else 2) else 0,
   wlo := loI (wideI p m s) v.a, whi := hiI (wideI p m s) v.b, hlo := loI (highI p m s) v.c, hhi := hiI (highI p m s) v.d,
   marks := js.zipIdx.map fun q => tellM p m hv bits q.2 q.1 }
theorem trim_in {w : Int} {t : Nat} {tr : Int} (h0 : 0 <= w) (h1 : w <= 2000) (ht : 0 <= tr) : 0 <= trimI w t tr /\ trimI w t tr <= w /\ w - tr <= trimI w t tr := by
 unfold trimI
 have h2 := Int.emod_nonneg (t : Int) (show tr + 1 ≠ 0 by omega)
 have h3 := Int.emod_lt_of_pos (t : Int) (show 0 < tr + 1 by omega)
 omega
theorem span_in {w : Int} {n k : Nat} (h0 : 0 <= w) (h1 : w <= 2000) : 0 <= loI w n /\ loI w n <= w /\ w <= hiI w k /\ hiI w k <= 2000 := by
 unfold loI hiI
 omega
theorem told_sizes {p : Prs} {m : Mkw} (he : errP p = 0) (hm : mkwErr p m = 0) (s : Szs) :
  (0 <= wideI p m s /\ wideI p m s <= 2000) /\ (0 <= highI p m s /\ highI p m s <= 2000) /\
  (sizesF (pprOf p m).wlo.toNat (pprOf p m).whi.toNat (pprOf p m).hlo.toNat (pprOf p m).hhi.toNat (colsF (fdsB (fldsOf p m))) (rowsF (fdsB (fldsOf p m))) (lastF (fdsB (fldsOf p m))) p.trim).1 <= wideI p m s /\
  wideI p m s <= (sizesF (pprOf p m).wlo.toNat (pprOf p m).whi.toNat (pprOf p m).hlo.toNat (pprOf p m).hhi.toNat (colsF (fdsB (fldsOf p m))) (rowsF (fdsB (fldsOf p m))) (lastF (fdsB (fldsOf p m))) p.trim).2.1 /\
  (sizesF (pprOf p m).wlo.toNat (pprOf p m).whi.toNat (pprOf p m).hlo.toNat (pprOf p m).hhi.toNat (colsF (fdsB (fldsOf p m))) (rowsF (fdsB (fldsOf p m))) (lastF (fdsB (fldsOf p m))) p.trim).2.2.1 <= highI p m s /\
  highI p m s <= (sizesF (pprOf p m).wlo.toNat (pprOf p m).whi.toNat (pprOf p m).hlo.toNat (pprOf p m).hhi.toNat (colsF (fdsB (fldsOf p m))) (rowsF (fdsB (fldsOf p m))) (lastF (fdsB (fldsOf p m))) p.trim).2.2.2 := by
 obtain ⟨ht, hq⟩ := fine_papers he
 obtain ⟨-, -, a3, a4⟩ := fine_at he hm
 obtain ⟨q, hqi⟩ : ∃ q, p.pprs[m.ppr.toNat]? = some q := ⟨_, List.getElem?_eq_getElem a4⟩
 have e2 : pprOf p m = q := by unfold pprOf; rw [hqi]
 have k := hq q (List.mem_of_getElem? hqi)
 obtain ⟨A, hA⟩ : ∃ A, A = (amongI q.wlo q.whi s.a).toNat := ⟨_, rfl⟩
 obtain ⟨B, hB⟩ : ∃ B, B = (amongI q.hlo q.hhi s.b).toNat := ⟨_, rfl⟩
 have ha := among_in (lo := q.wlo) (hi := q.whi) (by omega) s.a
 have hb := among_in (lo := q.hlo) (hi := q.hhi) (by omega) s.b
 unfold wideI highI rawN
 rw [e2, <- hA, <- hB]
 generalize colsF (fdsB (fldsOf p m)) = co
 generalize rowsF (fdsB (fldsOf p m)) = ro
 have d1 : ((q.wlo.toNat / co : Nat) : Int) <= ((A / co : Nat) : Int) := Int.ofNat_le.2 (Nat.div_le_div_right (by omega))
 have d2 : ((A / co : Nat) : Int) <= ((q.whi.toNat / co : Nat) : Int) := Int.ofNat_le.2 (Nat.div_le_div_right (by omega))
 have d3 : ((q.hlo.toNat / ro : Nat) : Int) <= ((B / ro : Nat) : Int) := Int.ofNat_le.2 (Nat.div_le_div_right (by omega))
 have d4 : ((B / ro : Nat) : Int) <= ((q.hhi.toNat / ro : Nat) : Int) := Int.ofNat_le.2 (Nat.div_le_div_right (by omega))
 have d5 : ((A / co : Nat) : Int) <= A := Int.ofNat_le.2 (Nat.div_le_self _ _)
 have d6 : ((B / ro : Nat) : Int) <= B := Int.ofNat_le.2 (Nat.div_le_self _ _)
 have z1 : (0 : Int) <= ((A / co : Nat) : Int) := Int.natCast_nonneg _
 have z2 : (0 : Int) <= ((B / ro : Nat) : Int) := Int.natCast_nonneg _
 unfold sizeN sizesF
 cases lastF (fdsB (fldsOf p m))
 · simp only [Bool.false_eq_true, if_false]
   have t1 := trim_in (t := s.c) (tr := p.trim) z2 (by omega) ht.1
   have t2 := trim_in (t := s.d) (tr := 2 * p.trim) z1 (by omega) (by omega)
   omega
 · simp only [if_true]
   have t1 := trim_in (t := s.c) (tr := p.trim) z1 (by omega) ht.1
   have t2 := trim_in (t := s.d) (tr := 2 * p.trim) z2 (by omega) (by omega)
   omega
theorem told_num {p : Prs} {m : Mkw} (he : errP p = 0) (hm : mkwErr p m = 0) : 1 <= (lvOf p m).length /\ (lvOf p m).length <= 64 := by
 obtain ⟨-, a2, -, -⟩ := fine_at he hm
 obtain ⟨f, hf⟩ : ∃ f, p.fmts[m.fmt.toNat]? = some f := ⟨_, List.getElem?_eq_getElem a2⟩
 have k := (fine_of he hm hf).count
 have e1 : fldsOf p m = f.folds := by unfold fldsOf; rw [hf]
 unfold lvOf
 rw [e1]
 exact k
theorem told_mark {p : Prs} {m : Mkw} {hv : Nat -> Nat} {bits : Nat} {js : List Nat} {i : Nat} {x : Int × Bool} (h : (js.zipIdx.map fun q => tellM p m hv bits q.2 q.1)[i]? = some x) : ∃ j, js[i]? = some j /\ x = tellM p m hv bits i j := by
 rw [List.getElem?_map, Option.map_eq_some_iff] at h
 obtain ⟨q, hq, rfl⟩ := h
 rw [List.getElem?_zipIdx, Option.map_eq_some_iff] at hq
 obtain ⟨j, hj, rfl⟩ := hq
 exact ⟨j, hj, by simp⟩
theorem told_fine {p : Prs} {m : Mkw} (he : errP p = 0) (hm : mkwErr p m = 0) (s v : Szs) (ch : Nat) (hv : Nat -> Nat) (bits : Nat) (js : List Nat) (hl : js.length <= 8) (hj : ∀ j ∈ js, j < (lvOf p m).length) :
  (checkK p (toldB p m s v ch hv bits js)).2.2 = 0 := by
 have hn := told_num he hm
 obtain ⟨h1, h2, -⟩ := told_sizes he hm s
 have s1 := span_in (n := v.a) (k := v.b) h1.1 h1.2
 have s2 := span_in (n := v.c) (k := v.d) h2.1 h2.2
 have q1 : (toldB p m s v ch hv bits js).wlo = loI (wideI p m s) v.a := rfl
 have q2 : (toldB p m s v ch hv bits js).whi = hiI (wideI p m s) v.b := rfl
 have q3 : (toldB p m s v ch hv bits js).hlo = loI (highI p m s) v.c := rfl
 have q4 : (toldB p m s v ch hv bits js).hhi = hiI (highI p m s) v.d := rfl
 have q5 : (toldB p m s v ch hv bits js).leaves = ((lvOf p m).length : Nat) := rfl
 have q6 : (toldB p m s v ch hv bits js).chain = if 0 < ch % 3 then (if lastF (fdsB (fldsOf p m)) then 1 else 2) else 0 := rfl
 have q7 : (toldB p m s v ch hv bits js).marks = js.zipIdx.map fun q => tellM p m hv bits q.2 q.1 := rfl
 have q8 : (toldB p m s v ch hv bits js).marks.length = js.length := by rw [q7, List.length_map, List.length_zipIdx]
 refine checkK_zero.2 ⟨he, ?_, ?_, spans_zero.2 (by rw [q1, q2, q3, q4]; omega), ?_, marksErr_zero _ _ fun x hx => ?_⟩
 · rw [q5]; simp only [inI, Bool.and_eq_true, decide_eq_true_eq]; omega
 · rw [q6]; simp only [inI, Bool.and_eq_true, decide_eq_true_eq]
   split
   · split <;> omega
   · omega
 · rw [q8]; simp only [inI, Bool.and_eq_true, decide_eq_true_eq]; omega
 · obtain ⟨i, hi⟩ := List.getElem?_of_mem hx
   obtain ⟨j, hji, rfl⟩ := told_mark hi
   have := hj j (List.mem_of_getElem? hji)
   have q9 : (tellM p m hv bits i j).1 = (j : Int) := rfl
   rw [q5, q9]
   simp only [inI, Bool.and_eq_true, decide_eq_true_eq]
   omega
end
end Go.Proofs.YtpdhdgdbknnllaaGreatDoor
