/- The parts Hr of the proof, joined. It holds without conditions of its own. -/
import Derived.Test.YtnhacghjoikgpaaGreatDoorFX12
import Derived.Test.YtnhacghjoikgpaaGreatDoorFX9
import Derived.Test.YtnhacghjoikgpaaGreatDoorFX15
import Derived.Test.YtnhacghjoikgpaaGreatDoorFX19
import Derived.Test.YtnhacghjoikgpaaGreatDoorFX25
/- FoldWider: with a greater trim, wider papers and wider spans each way of making that agreed still does. -/
namespace Go.Proofs.YtnhacghjoikgpaaGreatDoor
set_option linter.unusedSimpArgs false
set_option linter.unusedVariables false
open Go Go.RowKit Go.Sort Go.BigFrame

/-- The lesser, the greater of two numbers. -/
def minI (x y : Int) : Int := if y < x then y else x
def maxI (x y : Int) : Int := if x < y then y else x
theorem minI_is (x y : Int) : minI x y = min x y := by unfold minI; split <;> omega
theorem maxI_is (x y : Int) : maxI x y = max x y := by unfold maxI; split <;> omega
theorem run_min_is {P : Program} {w : World} (ts : Array TypeId) (t : TypeId) (k k' : IntKind) (x y : Int) : (Builtin.min_ ts t #[.int k x, .int k' y]).run P w = .ok (.int k (minI x y)) w := run_min_int2 w ts t k k' x y
theorem run_max_is {P : Program} {w : World} (ts : Array TypeId) (t : TypeId) (k k' : IntKind) (x y : Int) : (Builtin.max_ ts t #[.int k x, .int k' y]).run P w = .ok (.int k (maxI x y)) w := run_max_int2 w ts t k k' x y
attribute [local go_sem high] run_min_is run_max_is
theorem elemPpr : ∃ i, Tryz.prog.info? 67 = some i ∧ i.zero = some (.agg #[S [], .int .i64 0, .int .i64 0, .int .i64 0, .int .i64 0]) ∧ i.size = 5 ∧ i.bytes = 48 := elemOf (by kernel_rfl)
theorem undPprs : Tryz.prog.underlying 23 = some (.slice 67) := by kernel_rfl
/-- The wider papers so far. -/
structure WdSt (Z W : World) (bw : Nat) (fs : Value) (tr sh : Int) (v : Value) (qs : List Ppr) : Prop where
  only : OnlyIn (fun k => k = bw) Z W
  box : W.heap[bw]? = some (.cells #[fs, v, .int .i64 tr, .int .i64 sh] 25 (0, 0))
  row : W.ownsRow Z.heap.size 67 5 v qs.length (qs.flatMap pprV)
  lt : bw < Z.heap.size
theorem WdSt.later {Z W W' : World} {bw : Nat} {fs v : Value} {tr sh : Int} {qs : List Ppr} (h : WdSt Z W bw fs tr sh v qs) (hb : Below W.heap.size W W') : WdSt Z W' bw fs tr sh v qs :=
  ⟨h.only.trans (OnlyIn.of_below hb), blk_later hb h.box, row_later h.row hb, h.lt⟩
theorem WdSt.blk {Z W : World} {bw : Nat} {fs v : Value} {tr sh : Int} {qs : List Ppr} (h : WdSt Z W bw fs tr sh v qs) {k : Nat} {o : Obj} (hk : k < Z.heap.size) (hne : k ≠ bw) (hc : Z.heap[k]? = some o) : W.heap[k]? = some o := (h.only.block k hk hne).trans hc
theorem WdSt.add {Z W W' : World} {bw : Nat} {fs v v' : Value} {tr sh : Int} {qs : List Ppr} {q : Ppr} (h : WdSt Z W bw fs tr sh v qs) (hr : W'.ownsRow Z.heap.size 67 5 v' (qs.length + 1) (qs.flatMap pprV ++ pprV q)) (hg : W.grownBy W' v.ownBlock) :
    WdSt Z (W'.setCell ⟨bw, 1, none⟩ v') bw fs tr sh v' (qs ++ [q]) := by
  have hlt := h.lt
  have hne : v.ownBlock ≠ some bw := fun e => by have := (h.row.lt bw e).1; omega
  have hbx : W'.heap[bw]? = some (.cells #[fs, v, .int .i64 tr, .int .i64 sh] 25 (0, 0)) := by
    rw [← h.box]
    exact hg.block bw (blk_lt h.box) (fun e => hne e.symm)
  have hsz := hg.size
  refine ⟨⟨hg.os.trans h.only.os, hg.tape.trans h.only.tape, hg.output.trans h.only.output, Nat.le_trans h.only.size (by simpa using hsz), fun k hk hkG => ?_⟩, blk_set hbx 1 v', ?_, hlt⟩
  · refine (heap_setCell_past _ _ _ _ (show k ≠ bw from hkG)).trans ((hg.block k (Nat.lt_of_lt_of_le hk h.only.size) fun e => ?_).trans (h.only.block k hk hkG))
    have := (h.row.lt k e.symm).1
    omega
  · have e : (qs ++ [q]).flatMap pprV = qs.flatMap pprV ++ pprV q := by simp
    rw [e, List.length_append, List.length_singleton]
    exact ownsRow_setCell_below hr (by simpa using hlt) v'
set_option maxRecDepth 100000 in
set_option maxHeartbeats 1000000 in
theorem span2_any (x y : Int) (w : World) : Calls Tryz.prog 24 #[.int .i64 x, .int .i64 y] w fun e w' => e = .returned (.agg #[.int .i64 x, .int .i64 y]) ∧ Below w.heap.size w w' := by
  go_enter Tryz.func24, Tryz.ntmps24
  go_wp2_with fail
  have h := World.alloc_heap_new w (.cells #[.int .i64 x, .int .i64 y] 27)
  have y0 := blk_cell h 0
  have y1 := blk_cell h 1
  exact bodyPost_ret (v := .agg #[.int .i64 x, .int .i64 y]) (by simp [results, Tryz.results24, go_sem, y0, y1]) rfl ⟨rfl, by exact (by repeat (first | exact Below.refl _ _ | assumption | (refine Below.alloc ?_ ?_ _; rotate_left; · (first | omega | (simp; done) | (simp; omega) | fail)) | (refine Below.setCell ?_ ?_ _; rotate_left; · (first | omega | (simp; done) | (simp; omega) | fail)) | refine Below.drew ?_ | fail))⟩

set_option maxRecDepth 100000 in
set_option maxHeartbeats 20000000 in
theorem FoldWider_any (p : Prs) (vp : Value) (b : Bok) (vb : Value) (n0 n1 n2 n3 : Nat) (h0 : n0 < 256) (h1 : n1 < 256) (h2 : n2 < 256) (h3 : n3 < 256) (w : World) (t : TypeId) (hp : PrsAt w.heap.size w vp p) (hb : BokAt w.heap.size w vb b) (hW : w.heap[0]? = some (.cells tabL.toArray t (0, 0))) :
    Calls Tryz.prog 7 #[vp, vb, .agg #[.int .u8 n0, .int .u8 n1, .int .u8 n2, .int .u8 n3]] w fun e w' => e = .returned (.bool true) ∧ Below w.heap.size w w' := by
  have HP := Lib.hid hp
  have HK := Lib.hid hb
  have HW := Lib.hid hW
  obtain ⟨fv, pv, rfl, ⟨a, cap, rfl, -⟩, ⟨a2, cap2, rfl, hpc⟩, -⟩ := hp
  obtain ⟨mv, rfl, ⟨a3, cap3, rfl, -⟩⟩ := hb
  obtain ⟨N1, hN1⟩ : ∃ n, n = p.fmts.length := ⟨_, rfl⟩
  obtain ⟨N2, hN2⟩ : ∃ n, n = p.pprs.length := ⟨_, rfl⟩
  obtain ⟨N3, hN3⟩ : ∃ n, n = b.marks.length := ⟨_, rfl⟩
  have HN2 := Lib.hid hN2
  rw [← hN1, ← hN2] at HP ⊢
  rw [← hN3] at HK ⊢
  have HPC := Lib.hid hpc
  clear hN1 hN2 hN3 hW hpc
  go_enter Tryz.func7, Tryz.ntmps7
  go_wp2_with fail
  obtain ⟨w1, hw1⟩ : ∃ w1, w1 = (((w.alloc (.cells #[.slice a N1 cap, .slice a2 N2 cap2, .int .i64 p.trim, .int .i64 p.sheets] 25)).alloc (.cells #[.int .i64 b.leaves, .int .i64 b.chain, .int .i64 b.wlo, .int .i64 b.whi, .int .i64 b.hlo, .int .i64 b.hhi, .slice a3 N3 cap3] 30)).alloc (.cells #[.int .u8 n0, .int .u8 n1, .int .u8 n2, .int .u8 n3] 65)) := ⟨_, rfl⟩
  have hb1 : Below w.heap.size w w1 := by rw [hw1]; exact (by repeat (first | exact Below.refl _ _ | assumption | (refine Below.alloc ?_ ?_ _; rotate_left; · (first | omega | (simp; done) | (simp; omega) | fail)) | (refine Below.setCell ?_ ?_ _; rotate_left; · (first | omega | (simp; done) | (simp; omega) | fail)) | refine Below.drew ?_ | fail))
  have x1 : w1.heap[w.heap.size]? = some (.cells #[.slice a N1 cap, .slice a2 N2 cap2, .int .i64 p.trim, .int .i64 p.sheets] 25 (0, 0)) := by rw [hw1]; exact (by repeat (first | exact heap_alloc_at _ _ _ (by (first | omega | (simp; done) | (simp; omega) | (simp at *; omega) | fail)) | assumption | rw [heap_alloc_past _ _ _ (by (first | omega | (simp; done) | (simp; omega) | (simp at *; omega) | fail))] | rw [heap_setCell_past _ _ _ _ (by (first | omega | (simp; done) | (simp; omega) | (simp at *; omega) | fail))] | fail))
  have x2 : w1.heap[w.heap.size + 1]? = some (.cells #[.int .i64 b.leaves, .int .i64 b.chain, .int .i64 b.wlo, .int .i64 b.whi, .int .i64 b.hlo, .int .i64 b.hhi, .slice a3 N3 cap3] 30 (0, 0)) := by rw [hw1]; exact (by repeat (first | exact heap_alloc_at _ _ _ (by (first | omega | (simp; done) | (simp; omega) | (simp at *; omega) | fail)) | assumption | rw [heap_alloc_past _ _ _ (by (first | omega | (simp; done) | (simp; omega) | (simp at *; omega) | fail))] | rw [heap_setCell_past _ _ _ _ (by (first | omega | (simp; done) | (simp; omega) | (simp at *; omega) | fail))] | fail))
  have x3 : w1.heap[w.heap.size + 2]? = some (.cells #[.int .u8 n0, .int .u8 n1, .int .u8 n2, .int .u8 n3] 65 (0, 0)) := by rw [hw1]; exact (by repeat (first | exact heap_alloc_at _ _ _ (by (first | omega | (simp; done) | (simp; omega) | (simp at *; omega) | fail)) | assumption | rw [heap_alloc_past _ _ _ (by (first | omega | (simp; done) | (simp; omega) | (simp at *; omega) | fail))] | rw [heap_setCell_past _ _ _ _ (by (first | omega | (simp; done) | (simp; omega) | (simp at *; omega) | fail))] | fail))
  have hz1 : w1.heap.size = w.heap.size + 3 := by rw [hw1]; simp
  rw [← hw1]
  obtain ⟨z, hz⟩ : ∃ z, z = ((checkK p b).2.2 == 0) := ⟨_, rfl⟩
  refine (good2_any p b _ _ _ (HP.out.later hb1) (HK.out.later hb1)).mono ?_
  rintro e w2 ⟨rfl, hb2⟩
  rw [← hz]
  have HB2 := Lib.hid (hb1.trans (hb2.mono hb1.size))
  have X1 := Lib.hid (blk_later hb2 x1)
  have X2 := Lib.hid (blk_later hb2 x2)
  have X3 := Lib.hid (blk_later hb2 x3)
  have HZ := Lib.hid hz
  have hz2 : w.heap.size + 3 ≤ w2.heap.size := by have := hb2.size; omega
  clear hw1 hb1 hb2 x1 x2 x3 hz hz1
  cases z with
  | false =>
    go_wp2_with fail
    refine (awake_any2 (t := t) (blk_later HB2.out HW.out)).mono ?_
    rintro e w6 ⟨rfl, hb⟩
    have hb6 := HB2.out.trans (hb.mono HB2.out.size)
    clear hb
    go_wp2_with fail
    go_ret
    exact ⟨rfl, hb6⟩
  | true =>
    have he : (checkK p b).2.2 = 0 := by have := HZ.out; simpa using this.symm
    have HE := Lib.hid he
    have p0 := blk_cell (X1.out) 0
    have p1 := blk_cell (X1.out) 1
    have p2 := blk_cell (X1.out) 2
    have p3 := blk_cell (X1.out) 3
    have e0 := blk_cell (X2.out) 0
    have e1 := blk_cell (X2.out) 1
    have e2 := blk_cell (X2.out) 2
    have e3 := blk_cell (X2.out) 3
    have e4 := blk_cell (X2.out) 4
    have e5 := blk_cell (X2.out) 5
    have e6 := blk_cell (X2.out) 6
    have y0 := blk_cell (X3.out) 0
    have y1 := blk_cell (X3.out) 1
    have y2 := blk_cell (X3.out) 2
    have y3 := blk_cell (X3.out) 3
    clear HZ he
    have l0 : w.heap.size < w2.heap.size := by omega
    have l1 : w.heap.size + 1 < w2.heap.size := by omega
    have l2 : w.heap.size + 2 < w2.heap.size := by omega
    go_wp2_with fail
    obtain ⟨M, hM⟩ : ∃ M, M = w2.heap.size := ⟨_, rfl⟩
    obtain ⟨hfe, -⟩ := fine_bok HE.out
    have hN4 : N2 ≤ 4 := by
      obtain ⟨-, ⟨f3, f4⟩, -⟩ := fine_press hfe
      have := HN2.out
      omega
    obtain ⟨⟨ht0, ht1⟩, hq0⟩ := fine_papers hfe
    have HQ0 := Lib.hid hq0
    clear hq0
    go_region
    · skip
      obtain ⟨bw, hbw⟩ : ∃ n, n = w2.heap.size := ⟨_, rfl⟩
      obtain ⟨bc, hbc⟩ : ∃ n, n = w2.heap.size + 1 := ⟨_, rfl⟩
      obtain ⟨w3, hw3⟩ : ∃ w3, w3 = ((w2.alloc (.cells #[.slice a N1 cap, .slice a2 N2 cap2, .int .i64 p.trim, .int .i64 p.sheets] 25)).alloc (.cells #[.int .i64 b.leaves, .int .i64 b.chain, .int .i64 b.wlo, .int .i64 b.whi, .int .i64 b.hlo, .int .i64 b.hhi, .slice a3 N3 cap3] 30)).drew := ⟨_, rfl⟩
      have hb3 : Below w2.heap.size w2 w3 := by rw [hw3]; exact Below.drew (by exact (by repeat (first | exact Below.refl _ _ | assumption | (refine Below.alloc ?_ ?_ _; rotate_left; · (first | omega | (simp; done) | (simp; omega) | fail)) | (refine Below.setCell ?_ ?_ _; rotate_left; · (first | omega | (simp; done) | (simp; omega) | fail)) | refine Below.drew ?_ | fail)))
      have x7 : w3.heap[bw]? = some (.cells #[.slice a N1 cap, .slice a2 N2 cap2, .int .i64 p.trim, .int .i64 p.sheets] 25 (0, 0)) := by rw [hw3, hbw]; show (World.alloc _ _).heap[_]? = _; exact (by repeat (first | exact heap_alloc_at _ _ _ (by (first | omega | (simp; done) | (simp; omega) | fail)) | (refine (heap_alloc_past _ _ _ ?_).trans ?_; · (first | omega | (simp; done) | (simp; omega) | fail)) | fail))
      have x8 : w3.heap[bc]? = some (.cells #[.int .i64 b.leaves, .int .i64 b.chain, .int .i64 b.wlo, .int .i64 b.whi, .int .i64 b.hlo, .int .i64 b.hhi, .slice a3 N3 cap3] 30 (0, 0)) := by rw [hw3, hbc]; show (World.alloc _ _).heap[_]? = _; exact (by repeat (first | exact heap_alloc_at _ _ _ (by (first | omega | (simp; done) | (simp; omega) | fail)) | (refine (heap_alloc_past _ _ _ ?_).trans ?_; · (first | omega | (simp; done) | (simp; omega) | fail)) | fail))
      have hzM : w3.heap.size = M + 2 := by rw [hw3, hM]; show (World.alloc _ _).heap.size = _; simp
      rw [← hw3]
      have X7 := Lib.hid x7
      have X8 := Lib.hid x8
      have HB3 := Lib.hid (HB2.out.trans (hb3.mono HB2.out.size))
      have Z1 := Lib.hid (blk_later hb3 X1.out)
      have Z2 := Lib.hid (blk_later hb3 X2.out)
      have Z3 := Lib.hid (blk_later hb3 X3.out)
      clear x7 x8 hb3 hw3
      rw [← hM] at hbc hbw ⊢
      rw [← hbc]
      rw [← hbw]
      clear p0 p1 p2 p3 e0 e1 e2 e3 e4 e5 e6 y0 y1 y2 y3 l0 l1 l2
      have hne : bw ≠ bc := by omega
      have hbw1 : bw < w3.heap.size := by omega
      have hbc1 : bc < w3.heap.size := by omega
      have hbw0 : w.heap.size + 3 ≤ bw := by omega
      have hbc0 : w.heap.size + 3 ≤ bc := by omega
      have hz3 : w.heap.size + 3 ≤ w3.heap.size := by omega
      clear hbw hbc hM hzM
      have p0 := blk_cell (Z1.out) 0
      have p1 := blk_cell (Z1.out) 1
      have p2 := blk_cell (Z1.out) 2
      have p3 := blk_cell (Z1.out) 3
      have e0 := blk_cell (Z2.out) 0
      have e1 := blk_cell (Z2.out) 1
      have e2 := blk_cell (Z2.out) 2
      have e3 := blk_cell (Z2.out) 3
      have e4 := blk_cell (Z2.out) 4
      have e5 := blk_cell (Z2.out) 5
      have e6 := blk_cell (Z2.out) 6
      have y0 := blk_cell (Z3.out) 0
      have y1 := blk_cell (Z3.out) 1
      have y2 := blk_cell (Z3.out) 2
      have y3 := blk_cell (Z3.out) 3
      have u0 := blk_cell X7.out 0
      have u1 := blk_cell X7.out 1
      have u2 := blk_cell X7.out 2
      have u3 := blk_cell X7.out 3
      have f1 := blk_free X7.out 1
      have f2 := blk_free X7.out 2
      go_wp2_with fail
      obtain ⟨tr, htr⟩ : ∃ q, q = minI 60 (p.trim + (n0 : Int) % 9) := ⟨_, rfl⟩
      rw [← htr]
      obtain ⟨w4, hw4⟩ : ∃ w4, w4 = (w3.setCell ⟨bw, 2, none⟩ (.int .i64 tr)).setCell ⟨bw, 1, none⟩ (.slice none 0 0) := ⟨_, rfl⟩
      have x7 : w4.heap[bw]? = some (.cells #[.slice a N1 cap, .slice none 0 0, .int .i64 tr, .int .i64 p.sheets] 25 (0, 0)) := by
        rw [hw4]
        have h := blk_set (blk_set X7.out 2 (.int .i64 tr)) 1 (.slice none 0 0)
        simpa using h
      have hzE : w4.heap.size = w3.heap.size := by rw [hw4]; simp
      have hk4 : ∀ k, k ≠ bw → w4.heap[k]? = w3.heap[k]? := fun k hk => by rw [hw4]; exact (heap_setCell_past _ _ _ _ hk).trans (heap_setCell_past _ _ _ _ hk)
      rw [← hw4]
      have HS0 : Hid (WdSt w4 w4 bw (.slice a N1 cap) tr p.sheets (.slice none 0 0) []) := Lib.hid ⟨OnlyIn.refl _ _, x7, World.ownsRow_nil _ _ _ _, by omega⟩
      have HB4 : Hid (Below w.heap.size w w4) := Lib.hid ⟨by rw [hw4]; exact HB3.out.os, by rw [hw4]; exact HB3.out.tape, by rw [hw4]; exact HB3.out.output, by omega, fun k hk => (hk4 k (by omega)).trans (HB3.out.block k hk)⟩
      have W1 := Lib.hid ((hk4 _ (by omega)).trans Z1.out)
      have W2 := Lib.hid ((hk4 _ (by omega)).trans Z2.out)
      have W3 := Lib.hid ((hk4 _ (by omega)).trans Z3.out)
      have W8 := Lib.hid ((hk4 _ (fun e => hne e.symm)).trans X8.out)
      have HTR := Lib.hid htr
      have hbw4 : bw < w4.heap.size := by omega
      have hbc4 : bc < w4.heap.size := by omega
      have hz4 : w.heap.size + 3 ≤ w4.heap.size := by omega
      clear hw4 htr hk4 x7 u0 u1 u2 u3 f1 f2 X7 X8 Z1 Z2 Z3 HB3 X1 X2 X3 p0 p1 p2 p3 e0 e1 e2 e3 e4 e5 e6 y0 y1 y2 y3 hz3 hbw1 hbc1 hzE
      go_loopw [9] (fun j wr => ∃ (k : Nat) (v : Value), k ≤ N2 ∧ j = .int .i64 k ∧ Hid (WdSt w4 wr bw (.slice a N1 cap) tr p.sheets v ((p.pprs.take k).map (widenQ n1 n2)))) (fun j _ => N2 - (intOf j).toNat)
      case atStart => exact ⟨0, .slice none 0 0, by omega, rfl, HS0⟩
      case round =>
        clear HS0
        obtain ⟨k, v, hk, rfl, HS⟩ := hrel
        have g1 := HS.out.blk (by omega) (by omega) W1.out
        have g3 := HS.out.blk (by omega) (by omega) W3.out
        have p1 := blk_cell g1 1
        have y1 := blk_cell g3 1
        have y2 := blk_cell g3 2
        have G1 := Lib.hid g1
        have G3 := Lib.hid g3
        have hszr := HS.out.only.size
        have lr0 : w.heap.size < wr.heap.size := by omega
        have lr2 : w.heap.size + 2 < wr.heap.size := by omega
        clear g1 g3
        by_cases hlt : k < N2
        · obtain ⟨q, hq⟩ : ∃ q, p.pprs[k]? = some q := ⟨_, List.getElem?_eq_getElem (by have := HN2.out; omega)⟩
          obtain ⟨gb, off, rfl, hgb, hc⟩ := HPC.out (fun e => by rw [e] at hq; cases hq)
          have hcw : ∀ i, wr.cell? ⟨gb, i, none⟩ = w.cell? ⟨gb, i, none⟩ := fun i => World.cell?_of_block ((HS.out.only.block gb (by omega) (by omega)).trans (HB4.out.block gb hgb))
          have q0 : wr.cell? ⟨gb, off + k * 5, none⟩ = some (S q.name) := by rw [hcw]; simpa using hc k q hq 0 _ rfl
          have q1 : wr.cell? ⟨gb, off + k * 5 + 1, none⟩ = some (.int .i64 q.wlo) := by rw [hcw]; simpa using hc k q hq 1 _ rfl
          have q2 : wr.cell? ⟨gb, off + k * 5 + 2, none⟩ = some (.int .i64 q.whi) := by rw [hcw]; simpa using hc k q hq 2 _ rfl
          have q3 : wr.cell? ⟨gb, off + k * 5 + 3, none⟩ = some (.int .i64 q.hlo) := by rw [hcw]; simpa using hc k q hq 3 _ rfl
          have q4 : wr.cell? ⟨gb, off + k * 5 + 4, none⟩ = some (.int .i64 q.hhi) := by rw [hcw]; simpa using hc k q hq 4 _ rfl
          obtain ⟨⟨b1, b2⟩, ⟨b3, b4⟩, ⟨b5, b6⟩, ⟨b7, b8⟩, -, -⟩ := HQ0.out q (List.mem_of_getElem? hq)
          have HQ := Lib.hid hq
          obtain ⟨qs, hqs⟩ : ∃ qs, qs = (p.pprs.take k).map (widenQ n1 n2) := ⟨_, rfl⟩
          have hql : qs.length = k := by
            rw [hqs, List.length_map, List.length_take]
            have := HN2.out
            omega
          rw [← hqs] at HS
          have HQS := Lib.hid hqs
          have HQL := Lib.hid hql
          clear hc hcw hq hqs hql
          go_wp2_with fail
          obtain ⟨a1, ha1⟩ : ∃ z, z = maxI 1 (q.wlo - (n1 : Int)) := ⟨_, rfl⟩
          obtain ⟨a2, ha2⟩ : ∃ z, z = minI 2000 (q.whi + (n2 : Int)) := ⟨_, rfl⟩
          have hb5 : Below wr.heap.size wr (wr.alloc (.cells (pprV q).toArray 67)) := by exact (by repeat (first | exact Below.refl _ _ | assumption | (refine Below.alloc ?_ ?_ _; rotate_left; · (first | omega | (simp; done) | (simp; omega) | fail)) | (refine Below.setCell ?_ ?_ _; rotate_left; · (first | omega | (simp; done) | (simp; omega) | fail)) | refine Below.drew ?_ | fail))
          have x5 : (wr.alloc (.cells (pprV q).toArray 67)).heap[wr.heap.size]? = some (.cells (pprV q).toArray 67 (0, 0)) := by exact (by repeat (first | exact heap_alloc_at _ _ _ (by (first | omega | (simp; done) | (simp; omega) | (simp at *; omega) | fail)) | assumption | rw [heap_alloc_past _ _ _ (by (first | omega | (simp; done) | (simp; omega) | (simp at *; omega) | fail))] | rw [heap_setCell_past _ _ _ _ (by (first | omega | (simp; done) | (simp; omega) | (simp at *; omega) | fail))] | fail))
          rw [← ha1, ← ha2]
          obtain ⟨w5, hw5⟩ : ∃ w5, w5 = wr.alloc (.cells (pprV q).toArray 67) := ⟨_, rfl⟩
          rw [← hw5] at hb5 x5 ⊢
          refine (span2_any a1 a2 w5).mono ?_
          rintro e w6 ⟨rfl, hb6⟩
          have hz6 : wr.heap.size < w5.heap.size := blk_lt x5
          have hb6' : Below wr.heap.size wr w6 := hb5.trans (hb6.mono (by omega))
          have x6 := blk_later hb6 x5
          have HB6 := Lib.hid hb6'
          have X6 := Lib.hid x6
          have HA1 := Lib.hid ha1
          have HA2 := Lib.hid ha2
          have c1 := blk_cell x6 1
          have c2 := blk_cell x6 2
          have c3 := blk_cell x6 3
          have c4 := blk_cell x6 4
          have f1 := blk_free x6 1
          have f2 := blk_free x6 2
          have y1 := blk_cell (hb6'.block _ (by omega) |>.trans G3.out) 1
          have y2 := blk_cell (hb6'.block _ (by omega) |>.trans G3.out) 2
          have lx := blk_lt x6
          clear hw5 hb5 x5 hb6 hb6' x6 ha1 ha2 hz6 q0 q1 q2 q3 q4 p1
          have l2 : w.heap.size + 2 ≠ wr.heap.size := by omega
          go_wp2_with fail
          obtain ⟨a3', ha3⟩ : ∃ z, z = maxI 1 (q.hlo - (n2 : Int)) := ⟨_, rfl⟩
          obtain ⟨a4, ha4⟩ : ∃ z, z = minI 2000 (q.hhi + (n1 : Int)) := ⟨_, rfl⟩
          obtain ⟨w7, hw7⟩ : ∃ w7, w7 = (w6.setCell ⟨wr.heap.size, 1, none⟩ (.int .i64 a1)).setCell ⟨wr.heap.size, 2, none⟩ (.int .i64 a2) := ⟨_, rfl⟩
          rw [← ha3, ← ha4, ← hw7]
          have hb7 : Below wr.heap.size wr w7 := by rw [hw7]; exact (by repeat (first | (refine Below.setCell ?_ ?_ _; rotate_left; · (first | omega | (simp; done) | (simp; omega) | fail)) | (refine Below.alloc ?_ ?_ _; rotate_left; · (first | omega | (simp; done) | (simp; omega) | fail)) | refine Below.drew ?_ | exact HB6.out | fail))
          have x7 : w7.heap[wr.heap.size]? = some (.cells (pprV ⟨q.name, a1, a2, q.hlo, q.hhi⟩).toArray 67 (0, 0)) := by
            rw [hw7]
            have h := blk_set (blk_set X6.out 1 (.int .i64 a1)) 2 (.int .i64 a2)
            simpa using h
          refine (span2_any a3' a4 w7).mono ?_
          rintro e w8 ⟨rfl, hb8⟩
          have hz7 := blk_lt x7
          have HB8 := Lib.hid (hb7.trans (hb8.mono (by omega)))
          have x8 := blk_later hb8 x7
          have X8 := Lib.hid x8
          have HA3 := Lib.hid ha3
          have HA4 := Lib.hid ha4
          clear c1 c2 c3 c4 f1 f2 y1 y2 lx X6 HB6
          have c0 := blk_cell x8 0
          have c1 := blk_cell x8 1
          have c2 := blk_cell x8 2
          have c3 := blk_cell x8 3
          have c4 := blk_cell x8 4
          have f3 := blk_free x8 3
          have f4 := blk_free x8 4
          have HS8 := Lib.hid (HS.out.later HB8.out)
          have v1 := blk_cell HS8.out.box 1
          have g1 := blk_free HS8.out.box 1
          have lx := blk_lt x8
          have lbw : bw ≠ wr.heap.size := by omega
          clear hw7 hb7 x7 hb8 hz7 x8 ha3 ha4
          obtain ⟨ei, hi1, hi2, hi3, hi4⟩ := elemPpr
          have hb9 : Below wr.heap.size wr ((w8.setCell ⟨wr.heap.size, 3, none⟩ (.int .i64 a3')).setCell ⟨wr.heap.size, 4, none⟩ (.int .i64 a4)) := by exact (by repeat (first | (refine Below.setCell ?_ ?_ _; rotate_left; · (first | omega | (simp; done) | (simp; omega) | fail)) | (refine Below.alloc ?_ ?_ _; rotate_left; · (first | omega | (simp; done) | (simp; omega) | fail)) | refine Below.drew ?_ | exact HB8.out | fail))
          have HS9 := Lib.hid (HS.out.later hb9)
          have hbx := hb9.size
          clear hb9
          obtain ⟨w9, hw9⟩ : ∃ w9, w9 = (w8.setCell ⟨wr.heap.size, 3, none⟩ (.int .i64 a3')).setCell ⟨wr.heap.size, 4, none⟩ (.int .i64 a4) := ⟨_, rfl⟩
          have hzz : w9.heap.size = w8.heap.size := by rw [hw9]; simp
          go_wp2_with (at_builtin; go_must (refine wpList_append_own _ rfl _ _ 23 rfl w4.heap.size 67 ei _ 5 48 undPprs hi1 hi2 hi3 hi4 rfl (by decide) v qs.length (qs.flatMap pprV) rfl (HS9.out.row.alloc _) ⟨w8.heap.size, 0, none⟩ 1 1 (pprV ⟨q.name, a1, a2, a3', a4⟩) rfl rfl ?a1 ?b1 ?c1 ?d1 ?e1 ?f1))
          case a1 =>
            intro j u hju
            rw [add_offi]
            unfold World.cell?
            rw [show w8.heap.size = ((w8.setCell ⟨wr.heap.size, 3, none⟩ (.int .i64 a3')).setCell ⟨wr.heap.size, 4, none⟩ (.int .i64 a4)).heap.size by simp]
            rw [World.alloc_heap_new]
            simpa using hju
          case b1 => simp [Value.oneCell']
          case c1 => rw [HQL.out]; simp only [maxLen]; omega
          case d1 => rw [HQL.out]; omega
          case e1 => (first | omega | (simp; omega))
          case f1 =>
            rintro v' w10 hown hgrow -
            obtain ⟨g9, cap9, rfl, -⟩ := row_formH hown (by omega)
            have hb10 := (HS9.out.later ((Below.refl _ _).alloc (Nat.le_refl _) (.cells (pprV ⟨q.name, a1, a2, a3', a4⟩).toArray 67))).add (q := ⟨q.name, a1, a2, a3', a4⟩) hown hgrow
            have HT := Lib.hid hb10
            have hq5 : (p.pprs.take (k + 1)).map (widenQ n1 n2) = qs ++ [⟨q.name, a1, a2, a3', a4⟩] := by
              rw [HQS.out, List.take_add_one, HQ.out, List.map_append]
              simp only [Option.toList_some, List.map_cons, List.map_nil, widenQ]
              rw [HA1.out, HA2.out, HA3.out, HA4.out, maxI_is, minI_is, maxI_is, minI_is]
            have HQ5 := Lib.hid hq5
            have hbx0 : w10.heap[bw]? = some (.cells #[.slice a N1 cap, v, .int .i64 tr, .int .i64 p.sheets] 25 (0, 0)) := by
              have hx := blk_later ((Below.refl _ _).alloc (Nat.le_refl _) (.cells (pprV ⟨q.name, a1, a2, a3', a4⟩).toArray 67)) HS9.out.box
              exact (hgrow.block bw (blk_lt hx) (fun e => by have := (HS9.out.row.lt bw e.symm).1; omega)).trans hx
            have z1 := blk_cell hbx0 1
            have zf := blk_free hbx0 1
            clear hown hgrow hb10 hq5 hi1 hi2 hi3 hi4 hbx0
            go_wp2_with fail
            go_roundw
            case rel => exact ⟨k + 1, .slice (some ⟨g9, 0, none⟩) (qs.length + 1) cap9, by omega, by go_num, by rw [HQ5.out]; exact HT⟩
            case measure => simp [intOf]; omega
        · obtain rfl : k = N2 := by omega
          clear y1 y2
          obtain ⟨qs, hqs⟩ : ∃ qs, qs = (p.pprs.take k).map (widenQ n1 n2) := ⟨_, rfl⟩
          rw [← hqs] at HS
          have hqp : qs = p.pprs.map (widenQ n1 n2) := by rw [hqs, List.take_of_length_le (by have := HN2.out; omega)]
          have HQP := Lib.hid hqp
          clear hqs hqp
          obtain ⟨-, -, -, hsp, -, -⟩ := checkK_zero.1 HE.out
          obtain ⟨⟨r1, r2⟩, ⟨r3, r4⟩, ⟨r5, r6⟩, ⟨r7, r8⟩, -, -⟩ := spans_zero.1 hsp
          obtain ⟨b', hb'⟩ : ∃ b', b' = widenB n3 b := ⟨_, rfl⟩
          have l1 : maxI 0 (b.wlo - (n3 : Int)) = b'.wlo := by rw [maxI_is, hb']; rfl
          have l2 : minI 2000 (b.whi + (n3 : Int)) = b'.whi := by rw [minI_is, hb']; rfl
          have l3 : maxI 0 (b.hlo - (n3 : Int)) = b'.hlo := by rw [maxI_is, hb']; rfl
          have l4 : minI 2000 (b.hhi + (n3 : Int)) = b'.hhi := by rw [minI_is, hb']; rfl
          have L1 := Lib.hid l1
          have L2 := Lib.hid l2
          have L3 := Lib.hid l3
          have L4 := Lib.hid l4
          have HB' := Lib.hid hb'
          have hoc := HS.out.only
          have g2 := HS.out.blk (by omega) (by omega) W2.out
          have g8 := HS.out.blk hbc4 (fun e => hne e.symm) W8.out
          have G2 := Lib.hid g2
          have G8 := Lib.hid g8
          have HBR : Hid (Below w.heap.size w wr) := Lib.hid ⟨hoc.os.trans HB4.out.os, hoc.tape.trans HB4.out.tape, hoc.output.trans HB4.out.output, by omega, fun j hj => (hoc.block j (by omega) (by omega)).trans (HB4.out.block j hj)⟩
          have e2 := blk_cell g2 2
          have e3 := blk_cell g2 3
          have y3 := blk_cell G3.out 3
          clear hsp l1 l2 l3 l4 hb' hoc g2 g8
          go_wp2_with fail
          rw [L1.out, L2.out]
          refine (span2_any _ _ _).mono ?_
          rintro e w5 ⟨rfl, hb5⟩
          have HB5 := Lib.hid hb5
          have hs5 : wr.heap.size ≤ w5.heap.size := hb5.size
          have g8 := blk_later hb5 G8.out
          have k2 := blk_cell g8 2
          have k3 := blk_cell g8 3
          have k2f := blk_free g8 2
          have k3f := blk_free g8 3
          have g2 := blk_later hb5 G2.out
          have e4 := blk_cell g2 4
          have e5 := blk_cell g2 5
          have y3 := blk_cell (blk_later hb5 G3.out) 3
          have nb0 : w.heap.size + 1 ≠ bc := by omega
          have nb1 : w.heap.size + 2 ≠ bc := by omega
          have nb3 : w.heap.size + 1 + 1 ≠ bc := by omega
          clear e2 e3 p1 hb5 g2
          go_wp2_with fail
          rw [L3.out, L4.out]
          obtain ⟨w6, hw6⟩ : ∃ w6, w6 = (w5.setCell ⟨bc, 2, none⟩ (.int .i64 b'.wlo)).setCell ⟨bc, 3, none⟩ (.int .i64 b'.whi) := ⟨_, rfl⟩
          rw [← hw6]
          have x6 : w6.heap[bc]? = some (.cells #[.int .i64 b.leaves, .int .i64 b.chain, .int .i64 b'.wlo, .int .i64 b'.whi, .int .i64 b.hlo, .int .i64 b.hhi, .slice a3 N3 cap3] 30 (0, 0)) := by
            rw [hw6]
            have h := blk_set (blk_set g8 2 (.int .i64 b'.wlo)) 3 (.int .i64 b'.whi)
            simpa using h
          have r6 : w6.ownsRow w4.heap.size 67 5 v qs.length (qs.flatMap pprV) := by rw [hw6]; exact ownsRow_setCell_below (ownsRow_setCell_below (row_later HS.out.row HB5.out) hbc4 _) hbc4 _
          have k6 : ∀ j, j ≠ bc → w6.heap[j]? = w5.heap[j]? := fun j hj => by rw [hw6]; exact (heap_setCell_past _ _ _ _ hj).trans (heap_setCell_past _ _ _ _ hj)
          have z6 : w5.heap.size ≤ w6.heap.size := by rw [hw6]; simp
          have o6 : w6.os = w5.os ∧ w6.tape = w5.tape ∧ w6.output = w5.output := by rw [hw6]; exact ⟨rfl, rfl, rfl⟩
          refine (span2_any _ _ w6).mono ?_
          rintro e w7 ⟨rfl, hb7⟩
          have hs7 := hb7.size
          have hz57 : w5.heap.size ≤ w7.heap.size := by omega
          have x7 := blk_later hb7 x6
          have k7 : ∀ j, j < w5.heap.size → j ≠ bc → w7.heap[j]? = w5.heap[j]? := fun j hj hne => (hb7.block j (by omega)).trans (k6 j hne)
          have O7 : Hid (w7.os = w5.os ∧ w7.tape = w5.tape ∧ w7.output = w5.output) := Lib.hid ⟨hb7.os.trans o6.1, hb7.tape.trans o6.2.1, hb7.output.trans o6.2.2⟩
          have X7 := Lib.hid x7
          have K7 := Lib.hid k7
          have R7 := Lib.hid (row_later r6 hb7)
          have B7 := Lib.hid ((k7 bw (by omega) hne).trans (blk_later HB5.out HS.out.box))
          clear r6
          have k4 := blk_cell x7 4
          have k5 := blk_cell x7 5
          have k4f := blk_free x7 4
          have k5f := blk_free x7 5
          have G1b := Lib.hid (blk_later HB5.out G1.out)
          have G2b := Lib.hid (blk_later HB5.out G2.out)
          have pc0 := blk_cell ((k7 _ (by omega) (by omega)).trans G1b.out) 0
          have pc1 := blk_cell ((k7 _ (by omega) (by omega)).trans G1b.out) 1
          have pc2 := blk_cell ((k7 _ (by omega) (by omega)).trans G1b.out) 2
          have pc3 := blk_cell ((k7 _ (by omega) (by omega)).trans G1b.out) 3
          have d0 := blk_cell ((k7 _ (by omega) (by omega)).trans G2b.out) 0
          have d1 := blk_cell ((k7 _ (by omega) (by omega)).trans G2b.out) 1
          have d2 := blk_cell ((k7 _ (by omega) (by omega)).trans G2b.out) 2
          have d3 := blk_cell ((k7 _ (by omega) (by omega)).trans G2b.out) 3
          have d4 := blk_cell ((k7 _ (by omega) (by omega)).trans G2b.out) 4
          have d5 := blk_cell ((k7 _ (by omega) (by omega)).trans G2b.out) 5
          have d6 := blk_cell ((k7 _ (by omega) (by omega)).trans G2b.out) 6
          have l0 : w.heap.size ≠ bc := by omega
          clear hw6 x6 k6 z6 o6 hb7 x7 k7 e4 e5 y3 k2 k3 k2f k3f g8
          obtain ⟨p', hp'⟩ : ∃ p', p' = widenP n0 n1 n2 p := ⟨_, rfl⟩
          have HE2 : Hid ((checkK p' b').2.2 = 0) := Lib.hid (by rw [hp', HB'.out]; exact widen_err HE.out)
          have t1 : tr = p'.trim := by rw [HTR.out, minI_is, hp']; rfl
          have t2 : p.sheets = p'.sheets := by rw [hp']; rfl
          have t3 : b'.leaves = b.leaves := by rw [HB'.out]; rfl
          have t4 : b'.chain = b.chain := by rw [HB'.out]; rfl
          have t5 : b'.marks = b.marks := by rw [HB'.out]; rfl
          have T1 := Lib.hid t1
          have T2 := Lib.hid t2
          have T5 := Lib.hid t5
          have HAG := Lib.hid (fun W h1 h2 => Agree_good p b (.agg #[.slice a N1 cap, .slice a2 k cap2, .int .i64 p.trim, .int .i64 p.sheets]) (.slice a3 N3 cap3) W h1 h2 HE.out)
          have HWG := Lib.hid (fun W t h1 h2 => Wrong_good p b (.agg #[.slice a N1 cap, .slice a2 k cap2, .int .i64 p.trim, .int .i64 p.sheets]) (.slice a3 N3 cap3) W t h1 h2 HE.out)
          have HAG2 := (fun W h1 h2 => Agree_good p' b' (.agg #[.slice a N1 cap, v, .int .i64 tr, .int .i64 p.sheets]) (.slice a3 N3 cap3) W h1 h2 HE2.out)
          have HWG2 := (fun W t h1 h2 => Wrong_good p' b' (.agg #[.slice a N1 cap, v, .int .i64 tr, .int .i64 p.sheets]) (.slice a3 N3 cap3) W t h1 h2 HE2.out)
          rw [t3, t4, t5] at HAG2 HWG2
          have HAG2 := Lib.hid HAG2
          have HWG2 := Lib.hid HWG2
          have HP' := Lib.hid hp'
          have HSUB : Hid (∀ m ∈ agreeL p b, m ∈ agreeL p' b') := Lib.hid (by rw [hp', HB'.out]; exact widen_agree HE.out)
          have HBST : Hid ((idxV 11 (bestW p' b').testBit).length ≤ (idxV 11 (bestW p b).testBit).length) := Lib.hid (by rw [hp', HB'.out]; exact widen_best HE.out)
          have HWAY : Hid (waysW p' b' (makesW p') = waysW p b (makesW p)) := Lib.hid (by rw [hp', HB'.out]; exact widen_ways HE.out)
          have HLN1 := Lib.hid (agreeL_len HE.out)
          have HLN2 := Lib.hid (agreeL_len HE2.out)
          clear t1 t2 t3 t4 t5 hp'
          go_wp2_with fail
          obtain ⟨w8, hw8⟩ : ∃ w8, w8 = (w7.setCell ⟨bc, 4, none⟩ (.int .i64 b'.hlo)).setCell ⟨bc, 5, none⟩ (.int .i64 b'.hhi) := ⟨_, rfl⟩
          rw [← hw8]
          have k8 : ∀ j, j ≠ bc → w8.heap[j]? = w7.heap[j]? := fun j hj => by rw [hw8]; exact (heap_setCell_past _ _ _ _ hj).trans (heap_setCell_past _ _ _ _ hj)
          have z8 : w8.heap.size = w7.heap.size := by rw [hw8]; simp
          have x8 : w8.heap[bc]? = some (.cells #[.int .i64 b.leaves, .int .i64 b.chain, .int .i64 b'.wlo, .int .i64 b'.whi, .int .i64 b'.hlo, .int .i64 b'.hhi, .slice a3 N3 cap3] 30 (0, 0)) := by
            rw [hw8]
            have h := blk_set (blk_set X7.out 4 (.int .i64 b'.hlo)) 5 (.int .i64 b'.hhi)
            simpa using h
          have r8 : w8.ownsRow w4.heap.size 67 5 v qs.length (qs.flatMap pprV) := by rw [hw8]; exact ownsRow_setCell_below (ownsRow_setCell_below R7.out hbc4 _) hbc4 _
          have hb8 : Below w.heap.size w w8 := ⟨by rw [hw8]; exact O7.out.1.trans (HB5.out.os.trans HBR.out.os), by rw [hw8]; exact O7.out.2.1.trans (HB5.out.tape.trans HBR.out.tape), by rw [hw8]; exact O7.out.2.2.trans (HB5.out.output.trans HBR.out.output), by have := HBR.out.size; omega, fun j hj => (k8 j (by omega)).trans ((K7.out j (by have := HBR.out.size; omega) (by omega)).trans ((HB5.out.block j (by have := HBR.out.size; omega)).trans (HBR.out.block j hj)))⟩
          have Y1 := Lib.hid ((k8 _ (by omega)).trans ((K7.out _ (by have := HBR.out.size; omega) (by omega)).trans G1b.out))
          have Y2 := Lib.hid ((k8 _ (by omega)).trans ((K7.out _ (by have := HBR.out.size; omega) (by omega)).trans G2b.out))
          have Y7 := Lib.hid ((k8 _ hne).trans B7.out)
          have Y8 := Lib.hid x8
          have R8 := Lib.hid (rows_of_own (enc := pprV) (fun _ => rfl) r8)
          have HB8 := Lib.hid hb8
          clear hw8 k8 z8 x8 r8 hb8 d0 d1 d2 d3 d4 d5 d6 pc0 pc1 pc2 pc3 k4 k5 k4f k5f
          have HPW : Hid (PrsAt w8.heap.size w8 (.agg #[.slice a N1 cap, v, .int .i64 tr, .int .i64 p.sheets]) p') := Lib.hid (by
            obtain ⟨fv, pv, e, hf, -, hsf, hsp⟩ := HP.out
            cases e
            refine ⟨.slice a N1 cap, v, by rw [T1.out, T2.out], ?_, ?_, ?_, ?_⟩
            · rw [HP'.out]; exact hf.later HB8.out
            · have h := R8.out
              rw [HQP.out] at h
              rw [HP'.out]; exact h
            · rw [HP'.out]; exact hsf
            · rw [HP'.out]
              intro q hq
              obtain ⟨q0, hq0, rfl⟩ := List.mem_map.1 hq
              exact hsp q0 hq0)
          have HMK : Hid (RowsAt 2 mrkV w8.heap.size w8 (.slice a3 N3 cap3) b.marks) := Lib.hid (by
            obtain ⟨mv, e, hm⟩ := HK.out
            cases e
            exact hm.later HB8.out)
          refine (HAG.out w8 (HP.out.later HB8.out) HMK.out).mono ?_
          rintro e w9 ⟨⟨lv, rfl, hlv⟩, hb9⟩
          have HB9 := Lib.hid hb9
          have HL1 := Lib.hid (rows_of_own (enc := mkC) (fun _ => rfl) hlv)
          have p0 := blk_cell (blk_later HB9.out Y1.out) 0
          have p1 := blk_cell (blk_later HB9.out Y1.out) 1
          have p2 := blk_cell (blk_later HB9.out Y1.out) 2
          have p3 := blk_cell (blk_later HB9.out Y1.out) 3
          have e0 := blk_cell (blk_later HB9.out Y2.out) 0
          have e1 := blk_cell (blk_later HB9.out Y2.out) 1
          have e2 := blk_cell (blk_later HB9.out Y2.out) 2
          have e3 := blk_cell (blk_later HB9.out Y2.out) 3
          have e4 := blk_cell (blk_later HB9.out Y2.out) 4
          have e5 := blk_cell (blk_later HB9.out Y2.out) 5
          have e6 := blk_cell (blk_later HB9.out Y2.out) 6
          have u0 := blk_cell (blk_later HB9.out Y7.out) 0
          have u1 := blk_cell (blk_later HB9.out Y7.out) 1
          have u2 := blk_cell (blk_later HB9.out Y7.out) 2
          have u3 := blk_cell (blk_later HB9.out Y7.out) 3
          have c0 := blk_cell (blk_later HB9.out Y8.out) 0
          have c1 := blk_cell (blk_later HB9.out Y8.out) 1
          have c2 := blk_cell (blk_later HB9.out Y8.out) 2
          have c3 := blk_cell (blk_later HB9.out Y8.out) 3
          have c4 := blk_cell (blk_later HB9.out Y8.out) 4
          have c5 := blk_cell (blk_later HB9.out Y8.out) 5
          have c6 := blk_cell (blk_later HB9.out Y8.out) 6
          clear hlv hb9
          go_wp2_with fail
          refine (HAG2.out w9 (HPW.out.later HB9.out) (HMK.out.later HB9.out)).mono ?_
          rintro e w10 ⟨⟨kv, rfl, hkv⟩, hb10⟩
          have HB10 := Lib.hid (HB9.out.trans (hb10.mono HB9.out.size))
          have HL1 := Lib.hid (HL1.out.later hb10)
          have HL2 := Lib.hid (rows_of_own (enc := mkC) (fun _ => rfl) hkv)
          clear hkv hb10 p0 p1 p2 p3 e0 e1 e2 e3 e4 e5 e6 u0 u1 u2 u3 c0 c1 c2 c3 c4 c5 c6
          obtain ⟨la, lcap, e1, -⟩ := id HL1.out
          obtain ⟨ka, kcap, e2, -⟩ := id HL2.out
          subst e1 e2
          obtain ⟨NA, hNA⟩ : ∃ n, n = (agreeL p b).length := ⟨_, rfl⟩
          obtain ⟨NB, hNB⟩ : ∃ n, n = (agreeL p' b').length := ⟨_, rfl⟩
          have HNA := Lib.hid hNA
          have HNB := Lib.hid hNB
          rw [← hNA] at HL1 HLN1 ⊢
          rw [← hNB] at HL2 HLN2 ⊢
          have hna := HLN1.out
          have hnb := HLN2.out
          clear hNA hNB
          go_wp2_with fail
          go_loopw [15] (fun q wr => ∃ (k' : Nat), k' ≤ NA ∧ q = .int .i64 k' ∧ Hid (Below w10.heap.size w10 wr)) (fun q _ => NA - (intOf q).toNat)
          case atStart => exact ⟨0, by omega, rfl, Lib.hid (Below.refl _ _)⟩
          case round =>
            obtain ⟨k', hk', rfl, HB⟩ := hrel
            by_cases hlt : k' < NA
            · obtain ⟨x, hx⟩ : ∃ x, (agreeL p b)[k']? = some x := ⟨_, List.getElem?_eq_getElem (by have := HNA.out; omega)⟩
              obtain ⟨g, off, rfl, q0, q1, q2, q3⟩ := mk_cells (HL1.out.later HB.out) rfl hx
              have HIN := Lib.hid (decide_eq_true (HSUB.out x (List.mem_of_getElem? hx)))
              clear hx
              go_wp2_with fail
              refine (one_any (agreeL p' b') _ x _ _ (HL2.out.later HB.out) (Nat.le_refl _) (by rw [← HNB.out]; omega)).mono ?_
              rintro e w12 ⟨rfl, hb12⟩
              rw [HIN.out]
              have HB12 := Lib.hid (HB.out.trans (hb12.mono HB.out.size))
              clear hb12 q0 q1 q2 q3
              go_wp2_with fail
              go_roundw
              case rel => exact ⟨k' + 1, by omega, by go_num, HB12⟩
              case measure => simp [intOf]; omega
            · obtain rfl : k' = NA := by omega
              have HBT := Lib.hid (HB10.out.trans (HB.out.mono HB10.out.size))
              have p0 := blk_cell (blk_later HBT.out Y1.out) 0
              have p1 := blk_cell (blk_later HBT.out Y1.out) 1
              have p2 := blk_cell (blk_later HBT.out Y1.out) 2
              have p3 := blk_cell (blk_later HBT.out Y1.out) 3
              have e0 := blk_cell (blk_later HBT.out Y2.out) 0
              have e1 := blk_cell (blk_later HBT.out Y2.out) 1
              have e2 := blk_cell (blk_later HBT.out Y2.out) 2
              have e3 := blk_cell (blk_later HBT.out Y2.out) 3
              have e4 := blk_cell (blk_later HBT.out Y2.out) 4
              have e5 := blk_cell (blk_later HBT.out Y2.out) 5
              have e6 := blk_cell (blk_later HBT.out Y2.out) 6
              have u0 := blk_cell (blk_later HBT.out Y7.out) 0
              have u1 := blk_cell (blk_later HBT.out Y7.out) 1
              have u2 := blk_cell (blk_later HBT.out Y7.out) 2
              have u3 := blk_cell (blk_later HBT.out Y7.out) 3
              have c0 := blk_cell (blk_later HBT.out Y8.out) 0
              have c1 := blk_cell (blk_later HBT.out Y8.out) 1
              have c2 := blk_cell (blk_later HBT.out Y8.out) 2
              have c3 := blk_cell (blk_later HBT.out Y8.out) 3
              have c4 := blk_cell (blk_later HBT.out Y8.out) 4
              have c5 := blk_cell (blk_later HBT.out Y8.out) 5
              have c6 := blk_cell (blk_later HBT.out Y8.out) 6
              go_wp2_with fail
              refine (HWG.out _ t (HP.out.later (HB8.out.trans (HBT.out.mono HB8.out.size))) (HMK.out.later HBT.out) (blk_later (HB8.out.trans (HBT.out.mono HB8.out.size)) HW.out)).mono ?_
              rintro e w13 ⟨hres, hb13⟩
              have HB13 := Lib.hid (HBT.out.trans (hb13.mono HBT.out.size))
              clear hb13 p0 p1 p2 p3 e0 e1 e2 e3 e4 e5 e6 u0 u1 u2 u3 c0 c1 c2 c3 c4 c5 c6
              have p0 := blk_cell (blk_later HB13.out Y1.out) 0
              have p1 := blk_cell (blk_later HB13.out Y1.out) 1
              have p2 := blk_cell (blk_later HB13.out Y1.out) 2
              have p3 := blk_cell (blk_later HB13.out Y1.out) 3
              have e0 := blk_cell (blk_later HB13.out Y2.out) 0
              have e1 := blk_cell (blk_later HB13.out Y2.out) 1
              have e2 := blk_cell (blk_later HB13.out Y2.out) 2
              have e3 := blk_cell (blk_later HB13.out Y2.out) 3
              have e4 := blk_cell (blk_later HB13.out Y2.out) 4
              have e5 := blk_cell (blk_later HB13.out Y2.out) 5
              have e6 := blk_cell (blk_later HB13.out Y2.out) 6
              have u0 := blk_cell (blk_later HB13.out Y7.out) 0
              have u1 := blk_cell (blk_later HB13.out Y7.out) 1
              have u2 := blk_cell (blk_later HB13.out Y7.out) 2
              have u3 := blk_cell (blk_later HB13.out Y7.out) 3
              have c0 := blk_cell (blk_later HB13.out Y8.out) 0
              have c1 := blk_cell (blk_later HB13.out Y8.out) 1
              have c2 := blk_cell (blk_later HB13.out Y8.out) 2
              have c3 := blk_cell (blk_later HB13.out Y8.out) 3
              have c4 := blk_cell (blk_later HB13.out Y8.out) 4
              have c5 := blk_cell (blk_later HB13.out Y8.out) 5
              have c6 := blk_cell (blk_later HB13.out Y8.out) 6
              rcases hres with ⟨hw0, rfl⟩ | ⟨hw0, va, rfl, hva⟩
              · have HW0 := Lib.hid hw0
                clear hw0
                go_wp2_with fail
                refine (HWG2.out _ t (HPW.out.later HB13.out) (HMK.out.later HB13.out) (blk_later (HB8.out.trans (HB13.out.mono HB8.out.size)) HW.out)).mono ?_
                rintro e w14 ⟨hres, hb14⟩
                have HB14 := Lib.hid (HB8.out.trans ((HB13.out.trans (hb14.mono HB13.out.size)).mono HB8.out.size))
                clear hb14 p0 p1 p2 p3 e0 e1 e2 e3 e4 e5 e6 u0 u1 u2 u3 c0 c1 c2 c3 c4 c5 c6
                rcases hres with ⟨-, rfl⟩ | ⟨hw1, -⟩
                · skip
                  go_wp2_with fail
                  refine (awake_any2 (t := t) (blk_later HB14.out HW.out)).mono ?_
                  rintro e w15 ⟨rfl, hb15⟩
                  have hb16 := HB14.out.trans (hb15.mono HB14.out.size)
                  clear hb15
                  go_wp2_with fail
                  go_ret
                  exact ⟨rfl, hb16⟩
                · exact absurd (HWAY.out.trans HW0.out) hw1
              · have HW0 := Lib.hid hw0
                have HVA := Lib.hid hva
                obtain ⟨aa, acap, rfl, -⟩ := hva
                rw [List.length_map] at HVA ⊢
                obtain ⟨NV, hNV⟩ : ∃ n, n = (idxV 11 (bestW p b).testBit).length := ⟨_, rfl⟩
                rw [← hNV] at HVA HBST ⊢
                clear hw0 hNV HVA
                go_wp2_with fail
                refine (HWG2.out _ t (HPW.out.later HB13.out) (HMK.out.later HB13.out) (blk_later (HB8.out.trans (HB13.out.mono HB8.out.size)) HW.out)).mono ?_
                rintro e w14 ⟨hres, hb14⟩
                have HB14 := Lib.hid (HB8.out.trans ((HB13.out.trans (hb14.mono HB13.out.size)).mono HB8.out.size))
                clear hb14 p0 p1 p2 p3 e0 e1 e2 e3 e4 e5 e6 u0 u1 u2 u3 c0 c1 c2 c3 c4 c5 c6
                rcases hres with ⟨hw1, -⟩ | ⟨-, vb, rfl, hvb⟩
                · exact absurd (HWAY.out.symm.trans hw1) HW0.out
                · obtain ⟨ba, bcap, rfl, -⟩ := hvb
                  rw [List.length_map]
                  obtain ⟨NU, hNU⟩ : ∃ n, n = (idxV 11 (bestW p' b').testBit).length := ⟨_, rfl⟩
                  rw [← hNU] at HBST ⊢
                  have hle := HBST.out
                  have hle2 : ((NU : Int) ≤ (NV : Int)) := by omega
                  clear hNU
                  go_wp2_with fail
                  refine (awake_any2 (t := t) (blk_later HB14.out HW.out)).mono ?_
                  rintro e w15 ⟨rfl, hb15⟩
                  have hb16 := HB14.out.trans (hb15.mono HB14.out.size)
                  clear hb15
                  go_wp2_with fail
                  go_ret
                  exact ⟨rfl, hb16⟩
    · skip
      obtain ⟨bw, hbw⟩ : ∃ n, n = w2.heap.size + 1 := ⟨_, rfl⟩
      obtain ⟨bc, hbc⟩ : ∃ n, n = w2.heap.size := ⟨_, rfl⟩
      obtain ⟨w3, hw3⟩ : ∃ w3, w3 = ((w2.alloc (.cells #[.int .i64 b.leaves, .int .i64 b.chain, .int .i64 b.wlo, .int .i64 b.whi, .int .i64 b.hlo, .int .i64 b.hhi, .slice a3 N3 cap3] 30)).alloc (.cells #[.slice a N1 cap, .slice a2 N2 cap2, .int .i64 p.trim, .int .i64 p.sheets] 25)).drew := ⟨_, rfl⟩
      have hb3 : Below w2.heap.size w2 w3 := by rw [hw3]; exact Below.drew (by exact (by repeat (first | exact Below.refl _ _ | assumption | (refine Below.alloc ?_ ?_ _; rotate_left; · (first | omega | (simp; done) | (simp; omega) | fail)) | (refine Below.setCell ?_ ?_ _; rotate_left; · (first | omega | (simp; done) | (simp; omega) | fail)) | refine Below.drew ?_ | fail)))
      have x7 : w3.heap[bw]? = some (.cells #[.slice a N1 cap, .slice a2 N2 cap2, .int .i64 p.trim, .int .i64 p.sheets] 25 (0, 0)) := by rw [hw3, hbw]; show (World.alloc _ _).heap[_]? = _; exact (by repeat (first | exact heap_alloc_at _ _ _ (by (first | omega | (simp; done) | (simp; omega) | fail)) | (refine (heap_alloc_past _ _ _ ?_).trans ?_; · (first | omega | (simp; done) | (simp; omega) | fail)) | fail))
      have x8 : w3.heap[bc]? = some (.cells #[.int .i64 b.leaves, .int .i64 b.chain, .int .i64 b.wlo, .int .i64 b.whi, .int .i64 b.hlo, .int .i64 b.hhi, .slice a3 N3 cap3] 30 (0, 0)) := by rw [hw3, hbc]; show (World.alloc _ _).heap[_]? = _; exact (by repeat (first | exact heap_alloc_at _ _ _ (by (first | omega | (simp; done) | (simp; omega) | fail)) | (refine (heap_alloc_past _ _ _ ?_).trans ?_; · (first | omega | (simp; done) | (simp; omega) | fail)) | fail))
      have hzM : w3.heap.size = M + 2 := by rw [hw3, hM]; show (World.alloc _ _).heap.size = _; simp
      rw [← hw3]
      have X7 := Lib.hid x7
      have X8 := Lib.hid x8
      have HB3 := Lib.hid (HB2.out.trans (hb3.mono HB2.out.size))
      have Z1 := Lib.hid (blk_later hb3 X1.out)
      have Z2 := Lib.hid (blk_later hb3 X2.out)
      have Z3 := Lib.hid (blk_later hb3 X3.out)
      clear x7 x8 hb3 hw3
      rw [← hM] at hbc hbw ⊢
      rw [← hbw]
      rw [← hbc]
      clear p0 p1 p2 p3 e0 e1 e2 e3 e4 e5 e6 y0 y1 y2 y3 l0 l1 l2
      have hne : bw ≠ bc := by omega
      have hbw1 : bw < w3.heap.size := by omega
      have hbc1 : bc < w3.heap.size := by omega
      have hbw0 : w.heap.size + 3 ≤ bw := by omega
      have hbc0 : w.heap.size + 3 ≤ bc := by omega
      have hz3 : w.heap.size + 3 ≤ w3.heap.size := by omega
      clear hbw hbc hM hzM
      have p0 := blk_cell (Z1.out) 0
      have p1 := blk_cell (Z1.out) 1
      have p2 := blk_cell (Z1.out) 2
      have p3 := blk_cell (Z1.out) 3
      have e0 := blk_cell (Z2.out) 0
      have e1 := blk_cell (Z2.out) 1
      have e2 := blk_cell (Z2.out) 2
      have e3 := blk_cell (Z2.out) 3
      have e4 := blk_cell (Z2.out) 4
      have e5 := blk_cell (Z2.out) 5
      have e6 := blk_cell (Z2.out) 6
      have y0 := blk_cell (Z3.out) 0
      have y1 := blk_cell (Z3.out) 1
      have y2 := blk_cell (Z3.out) 2
      have y3 := blk_cell (Z3.out) 3
      have u0 := blk_cell X7.out 0
      have u1 := blk_cell X7.out 1
      have u2 := blk_cell X7.out 2
      have u3 := blk_cell X7.out 3
      have f1 := blk_free X7.out 1
      have f2 := blk_free X7.out 2
      go_wp2_with fail
      obtain ⟨tr, htr⟩ : ∃ q, q = minI 60 (p.trim + (n0 : Int) % 9) := ⟨_, rfl⟩
      rw [← htr]
      obtain ⟨w4, hw4⟩ : ∃ w4, w4 = (w3.setCell ⟨bw, 2, none⟩ (.int .i64 tr)).setCell ⟨bw, 1, none⟩ (.slice none 0 0) := ⟨_, rfl⟩
      have x7 : w4.heap[bw]? = some (.cells #[.slice a N1 cap, .slice none 0 0, .int .i64 tr, .int .i64 p.sheets] 25 (0, 0)) := by
        rw [hw4]
        have h := blk_set (blk_set X7.out 2 (.int .i64 tr)) 1 (.slice none 0 0)
        simpa using h
      have hzE : w4.heap.size = w3.heap.size := by rw [hw4]; simp
      have hk4 : ∀ k, k ≠ bw → w4.heap[k]? = w3.heap[k]? := fun k hk => by rw [hw4]; exact (heap_setCell_past _ _ _ _ hk).trans (heap_setCell_past _ _ _ _ hk)
      rw [← hw4]
      have HS0 : Hid (WdSt w4 w4 bw (.slice a N1 cap) tr p.sheets (.slice none 0 0) []) := Lib.hid ⟨OnlyIn.refl _ _, x7, World.ownsRow_nil _ _ _ _, by omega⟩
      have HB4 : Hid (Below w.heap.size w w4) := Lib.hid ⟨by rw [hw4]; exact HB3.out.os, by rw [hw4]; exact HB3.out.tape, by rw [hw4]; exact HB3.out.output, by omega, fun k hk => (hk4 k (by omega)).trans (HB3.out.block k hk)⟩
      have W1 := Lib.hid ((hk4 _ (by omega)).trans Z1.out)
      have W2 := Lib.hid ((hk4 _ (by omega)).trans Z2.out)
      have W3 := Lib.hid ((hk4 _ (by omega)).trans Z3.out)
      have W8 := Lib.hid ((hk4 _ (fun e => hne e.symm)).trans X8.out)
      have HTR := Lib.hid htr
      have hbw4 : bw < w4.heap.size := by omega
      have hbc4 : bc < w4.heap.size := by omega
      have hz4 : w.heap.size + 3 ≤ w4.heap.size := by omega
      clear hw4 htr hk4 x7 u0 u1 u2 u3 f1 f2 X7 X8 Z1 Z2 Z3 HB3 X1 X2 X3 p0 p1 p2 p3 e0 e1 e2 e3 e4 e5 e6 y0 y1 y2 y3 hz3 hbw1 hbc1 hzE
      go_loopw [9] (fun j wr => ∃ (k : Nat) (v : Value), k ≤ N2 ∧ j = .int .i64 k ∧ Hid (WdSt w4 wr bw (.slice a N1 cap) tr p.sheets v ((p.pprs.take k).map (widenQ n1 n2)))) (fun j _ => N2 - (intOf j).toNat)
      case atStart => exact ⟨0, .slice none 0 0, by omega, rfl, HS0⟩
      case round =>
        clear HS0
        obtain ⟨k, v, hk, rfl, HS⟩ := hrel
        have g1 := HS.out.blk (by omega) (by omega) W1.out
        have g3 := HS.out.blk (by omega) (by omega) W3.out
        have p1 := blk_cell g1 1
        have y1 := blk_cell g3 1
        have y2 := blk_cell g3 2
        have G1 := Lib.hid g1
        have G3 := Lib.hid g3
        have hszr := HS.out.only.size
        have lr0 : w.heap.size < wr.heap.size := by omega
        have lr2 : w.heap.size + 2 < wr.heap.size := by omega
        clear g1 g3
        by_cases hlt : k < N2
        · obtain ⟨q, hq⟩ : ∃ q, p.pprs[k]? = some q := ⟨_, List.getElem?_eq_getElem (by have := HN2.out; omega)⟩
          obtain ⟨gb, off, rfl, hgb, hc⟩ := HPC.out (fun e => by rw [e] at hq; cases hq)
          have hcw : ∀ i, wr.cell? ⟨gb, i, none⟩ = w.cell? ⟨gb, i, none⟩ := fun i => World.cell?_of_block ((HS.out.only.block gb (by omega) (by omega)).trans (HB4.out.block gb hgb))
          have q0 : wr.cell? ⟨gb, off + k * 5, none⟩ = some (S q.name) := by rw [hcw]; simpa using hc k q hq 0 _ rfl
          have q1 : wr.cell? ⟨gb, off + k * 5 + 1, none⟩ = some (.int .i64 q.wlo) := by rw [hcw]; simpa using hc k q hq 1 _ rfl
          have q2 : wr.cell? ⟨gb, off + k * 5 + 2, none⟩ = some (.int .i64 q.whi) := by rw [hcw]; simpa using hc k q hq 2 _ rfl
          have q3 : wr.cell? ⟨gb, off + k * 5 + 3, none⟩ = some (.int .i64 q.hlo) := by rw [hcw]; simpa using hc k q hq 3 _ rfl
          have q4 : wr.cell? ⟨gb, off + k * 5 + 4, none⟩ = some (.int .i64 q.hhi) := by rw [hcw]; simpa using hc k q hq 4 _ rfl
          obtain ⟨⟨b1, b2⟩, ⟨b3, b4⟩, ⟨b5, b6⟩, ⟨b7, b8⟩, -, -⟩ := HQ0.out q (List.mem_of_getElem? hq)
          have HQ := Lib.hid hq
          obtain ⟨qs, hqs⟩ : ∃ qs, qs = (p.pprs.take k).map (widenQ n1 n2) := ⟨_, rfl⟩
          have hql : qs.length = k := by
            rw [hqs, List.length_map, List.length_take]
            have := HN2.out
            omega
          rw [← hqs] at HS
          have HQS := Lib.hid hqs
          have HQL := Lib.hid hql
          clear hc hcw hq hqs hql
          go_wp2_with fail
          obtain ⟨a1, ha1⟩ : ∃ z, z = maxI 1 (q.wlo - (n1 : Int)) := ⟨_, rfl⟩
          obtain ⟨a2, ha2⟩ : ∃ z, z = minI 2000 (q.whi + (n2 : Int)) := ⟨_, rfl⟩
          have hb5 : Below wr.heap.size wr (wr.alloc (.cells (pprV q).toArray 67)) := by exact (by repeat (first | exact Below.refl _ _ | assumption | (refine Below.alloc ?_ ?_ _; rotate_left; · (first | omega | (simp; done) | (simp; omega) | fail)) | (refine Below.setCell ?_ ?_ _; rotate_left; · (first | omega | (simp; done) | (simp; omega) | fail)) | refine Below.drew ?_ | fail))
          have x5 : (wr.alloc (.cells (pprV q).toArray 67)).heap[wr.heap.size]? = some (.cells (pprV q).toArray 67 (0, 0)) := by exact (by repeat (first | exact heap_alloc_at _ _ _ (by (first | omega | (simp; done) | (simp; omega) | (simp at *; omega) | fail)) | assumption | rw [heap_alloc_past _ _ _ (by (first | omega | (simp; done) | (simp; omega) | (simp at *; omega) | fail))] | rw [heap_setCell_past _ _ _ _ (by (first | omega | (simp; done) | (simp; omega) | (simp at *; omega) | fail))] | fail))
          rw [← ha1, ← ha2]
          obtain ⟨w5, hw5⟩ : ∃ w5, w5 = wr.alloc (.cells (pprV q).toArray 67) := ⟨_, rfl⟩
          rw [← hw5] at hb5 x5 ⊢
          refine (span2_any a1 a2 w5).mono ?_
          rintro e w6 ⟨rfl, hb6⟩
          have hz6 : wr.heap.size < w5.heap.size := blk_lt x5
          have hb6' : Below wr.heap.size wr w6 := hb5.trans (hb6.mono (by omega))
          have x6 := blk_later hb6 x5
          have HB6 := Lib.hid hb6'
          have X6 := Lib.hid x6
          have HA1 := Lib.hid ha1
          have HA2 := Lib.hid ha2
          have c1 := blk_cell x6 1
          have c2 := blk_cell x6 2
          have c3 := blk_cell x6 3
          have c4 := blk_cell x6 4
          have f1 := blk_free x6 1
          have f2 := blk_free x6 2
          have y1 := blk_cell (hb6'.block _ (by omega) |>.trans G3.out) 1
          have y2 := blk_cell (hb6'.block _ (by omega) |>.trans G3.out) 2
          have lx := blk_lt x6
          clear hw5 hb5 x5 hb6 hb6' x6 ha1 ha2 hz6 q0 q1 q2 q3 q4 p1
          have l2 : w.heap.size + 2 ≠ wr.heap.size := by omega
          go_wp2_with fail
          obtain ⟨a3', ha3⟩ : ∃ z, z = maxI 1 (q.hlo - (n2 : Int)) := ⟨_, rfl⟩
          obtain ⟨a4, ha4⟩ : ∃ z, z = minI 2000 (q.hhi + (n1 : Int)) := ⟨_, rfl⟩
          obtain ⟨w7, hw7⟩ : ∃ w7, w7 = (w6.setCell ⟨wr.heap.size, 1, none⟩ (.int .i64 a1)).setCell ⟨wr.heap.size, 2, none⟩ (.int .i64 a2) := ⟨_, rfl⟩
          rw [← ha3, ← ha4, ← hw7]
          have hb7 : Below wr.heap.size wr w7 := by rw [hw7]; exact (by repeat (first | (refine Below.setCell ?_ ?_ _; rotate_left; · (first | omega | (simp; done) | (simp; omega) | fail)) | (refine Below.alloc ?_ ?_ _; rotate_left; · (first | omega | (simp; done) | (simp; omega) | fail)) | refine Below.drew ?_ | exact HB6.out | fail))
          have x7 : w7.heap[wr.heap.size]? = some (.cells (pprV ⟨q.name, a1, a2, q.hlo, q.hhi⟩).toArray 67 (0, 0)) := by
            rw [hw7]
            have h := blk_set (blk_set X6.out 1 (.int .i64 a1)) 2 (.int .i64 a2)
            simpa using h
          refine (span2_any a3' a4 w7).mono ?_
          rintro e w8 ⟨rfl, hb8⟩
          have hz7 := blk_lt x7
          have HB8 := Lib.hid (hb7.trans (hb8.mono (by omega)))
          have x8 := blk_later hb8 x7
          have X8 := Lib.hid x8
          have HA3 := Lib.hid ha3
          have HA4 := Lib.hid ha4
          clear c1 c2 c3 c4 f1 f2 y1 y2 lx X6 HB6
          have c0 := blk_cell x8 0
          have c1 := blk_cell x8 1
          have c2 := blk_cell x8 2
          have c3 := blk_cell x8 3
          have c4 := blk_cell x8 4
          have f3 := blk_free x8 3
          have f4 := blk_free x8 4
          have HS8 := Lib.hid (HS.out.later HB8.out)
          have v1 := blk_cell HS8.out.box 1
          have g1 := blk_free HS8.out.box 1
          have lx := blk_lt x8
          have lbw : bw ≠ wr.heap.size := by omega
          clear hw7 hb7 x7 hb8 hz7 x8 ha3 ha4
          obtain ⟨ei, hi1, hi2, hi3, hi4⟩ := elemPpr
          have hb9 : Below wr.heap.size wr ((w8.setCell ⟨wr.heap.size, 3, none⟩ (.int .i64 a3')).setCell ⟨wr.heap.size, 4, none⟩ (.int .i64 a4)) := by exact (by repeat (first | (refine Below.setCell ?_ ?_ _; rotate_left; · (first | omega | (simp; done) | (simp; omega) | fail)) | (refine Below.alloc ?_ ?_ _; rotate_left; · (first | omega | (simp; done) | (simp; omega) | fail)) | refine Below.drew ?_ | exact HB8.out | fail))
          have HS9 := Lib.hid (HS.out.later hb9)
          have hbx := hb9.size
          clear hb9
          obtain ⟨w9, hw9⟩ : ∃ w9, w9 = (w8.setCell ⟨wr.heap.size, 3, none⟩ (.int .i64 a3')).setCell ⟨wr.heap.size, 4, none⟩ (.int .i64 a4) := ⟨_, rfl⟩
          have hzz : w9.heap.size = w8.heap.size := by rw [hw9]; simp
          go_wp2_with (at_builtin; go_must (refine wpList_append_own _ rfl _ _ 23 rfl w4.heap.size 67 ei _ 5 48 undPprs hi1 hi2 hi3 hi4 rfl (by decide) v qs.length (qs.flatMap pprV) rfl (HS9.out.row.alloc _) ⟨w8.heap.size, 0, none⟩ 1 1 (pprV ⟨q.name, a1, a2, a3', a4⟩) rfl rfl ?a1 ?b1 ?c1 ?d1 ?e1 ?f1))
          case a1 =>
            intro j u hju
            rw [add_offi]
            unfold World.cell?
            rw [show w8.heap.size = ((w8.setCell ⟨wr.heap.size, 3, none⟩ (.int .i64 a3')).setCell ⟨wr.heap.size, 4, none⟩ (.int .i64 a4)).heap.size by simp]
            rw [World.alloc_heap_new]
            simpa using hju
          case b1 => simp [Value.oneCell']
          case c1 => rw [HQL.out]; simp only [maxLen]; omega
          case d1 => rw [HQL.out]; omega
          case e1 => (first | omega | (simp; omega))
          case f1 =>
            rintro v' w10 hown hgrow -
            obtain ⟨g9, cap9, rfl, -⟩ := row_formH hown (by omega)
            have hb10 := (HS9.out.later ((Below.refl _ _).alloc (Nat.le_refl _) (.cells (pprV ⟨q.name, a1, a2, a3', a4⟩).toArray 67))).add (q := ⟨q.name, a1, a2, a3', a4⟩) hown hgrow
            have HT := Lib.hid hb10
            have hq5 : (p.pprs.take (k + 1)).map (widenQ n1 n2) = qs ++ [⟨q.name, a1, a2, a3', a4⟩] := by
              rw [HQS.out, List.take_add_one, HQ.out, List.map_append]
              simp only [Option.toList_some, List.map_cons, List.map_nil, widenQ]
              rw [HA1.out, HA2.out, HA3.out, HA4.out, maxI_is, minI_is, maxI_is, minI_is]
            have HQ5 := Lib.hid hq5
            have hbx0 : w10.heap[bw]? = some (.cells #[.slice a N1 cap, v, .int .i64 tr, .int .i64 p.sheets] 25 (0, 0)) := by
              have hx := blk_later ((Below.refl _ _).alloc (Nat.le_refl _) (.cells (pprV ⟨q.name, a1, a2, a3', a4⟩).toArray 67)) HS9.out.box
              exact (hgrow.block bw (blk_lt hx) (fun e => by have := (HS9.out.row.lt bw e.symm).1; omega)).trans hx
            have z1 := blk_cell hbx0 1
            have zf := blk_free hbx0 1
            clear hown hgrow hb10 hq5 hi1 hi2 hi3 hi4 hbx0
            go_wp2_with fail
            go_roundw
            case rel => exact ⟨k + 1, .slice (some ⟨g9, 0, none⟩) (qs.length + 1) cap9, by omega, by go_num, by rw [HQ5.out]; exact HT⟩
            case measure => simp [intOf]; omega
        · obtain rfl : k = N2 := by omega
          clear y1 y2
          obtain ⟨qs, hqs⟩ : ∃ qs, qs = (p.pprs.take k).map (widenQ n1 n2) := ⟨_, rfl⟩
          rw [← hqs] at HS
          have hqp : qs = p.pprs.map (widenQ n1 n2) := by rw [hqs, List.take_of_length_le (by have := HN2.out; omega)]
          have HQP := Lib.hid hqp
          clear hqs hqp
          obtain ⟨-, -, -, hsp, -, -⟩ := checkK_zero.1 HE.out
          obtain ⟨⟨r1, r2⟩, ⟨r3, r4⟩, ⟨r5, r6⟩, ⟨r7, r8⟩, -, -⟩ := spans_zero.1 hsp
          obtain ⟨b', hb'⟩ : ∃ b', b' = widenB n3 b := ⟨_, rfl⟩
          have l1 : maxI 0 (b.wlo - (n3 : Int)) = b'.wlo := by rw [maxI_is, hb']; rfl
          have l2 : minI 2000 (b.whi + (n3 : Int)) = b'.whi := by rw [minI_is, hb']; rfl
          have l3 : maxI 0 (b.hlo - (n3 : Int)) = b'.hlo := by rw [maxI_is, hb']; rfl
          have l4 : minI 2000 (b.hhi + (n3 : Int)) = b'.hhi := by rw [minI_is, hb']; rfl
          have L1 := Lib.hid l1
          have L2 := Lib.hid l2
          have L3 := Lib.hid l3
          have L4 := Lib.hid l4
          have HB' := Lib.hid hb'
          have hoc := HS.out.only
          have g2 := HS.out.blk (by omega) (by omega) W2.out
          have g8 := HS.out.blk hbc4 (fun e => hne e.symm) W8.out
          have G2 := Lib.hid g2
          have G8 := Lib.hid g8
          have HBR : Hid (Below w.heap.size w wr) := Lib.hid ⟨hoc.os.trans HB4.out.os, hoc.tape.trans HB4.out.tape, hoc.output.trans HB4.out.output, by omega, fun j hj => (hoc.block j (by omega) (by omega)).trans (HB4.out.block j hj)⟩
          have e2 := blk_cell g2 2
          have e3 := blk_cell g2 3
          have y3 := blk_cell G3.out 3
          clear hsp l1 l2 l3 l4 hb' hoc g2 g8
          go_wp2_with fail
          rw [L1.out, L2.out]
          refine (span2_any _ _ _).mono ?_
          rintro e w5 ⟨rfl, hb5⟩
          have HB5 := Lib.hid hb5
          have hs5 : wr.heap.size ≤ w5.heap.size := hb5.size
          have g8 := blk_later hb5 G8.out
          have k2 := blk_cell g8 2
          have k3 := blk_cell g8 3
          have k2f := blk_free g8 2
          have k3f := blk_free g8 3
          have g2 := blk_later hb5 G2.out
          have e4 := blk_cell g2 4
          have e5 := blk_cell g2 5
          have y3 := blk_cell (blk_later hb5 G3.out) 3
          have nb0 : w.heap.size + 1 ≠ bc := by omega
          have nb1 : w.heap.size + 2 ≠ bc := by omega
          have nb3 : w.heap.size + 1 + 1 ≠ bc := by omega
          clear e2 e3 p1 hb5 g2
          go_wp2_with fail
          rw [L3.out, L4.out]
          obtain ⟨w6, hw6⟩ : ∃ w6, w6 = (w5.setCell ⟨bc, 2, none⟩ (.int .i64 b'.wlo)).setCell ⟨bc, 3, none⟩ (.int .i64 b'.whi) := ⟨_, rfl⟩
          rw [← hw6]
          have x6 : w6.heap[bc]? = some (.cells #[.int .i64 b.leaves, .int .i64 b.chain, .int .i64 b'.wlo, .int .i64 b'.whi, .int .i64 b.hlo, .int .i64 b.hhi, .slice a3 N3 cap3] 30 (0, 0)) := by
            rw [hw6]
            have h := blk_set (blk_set g8 2 (.int .i64 b'.wlo)) 3 (.int .i64 b'.whi)
            simpa using h
          have r6 : w6.ownsRow w4.heap.size 67 5 v qs.length (qs.flatMap pprV) := by rw [hw6]; exact ownsRow_setCell_below (ownsRow_setCell_below (row_later HS.out.row HB5.out) hbc4 _) hbc4 _
          have k6 : ∀ j, j ≠ bc → w6.heap[j]? = w5.heap[j]? := fun j hj => by rw [hw6]; exact (heap_setCell_past _ _ _ _ hj).trans (heap_setCell_past _ _ _ _ hj)
          have z6 : w5.heap.size ≤ w6.heap.size := by rw [hw6]; simp
          have o6 : w6.os = w5.os ∧ w6.tape = w5.tape ∧ w6.output = w5.output := by rw [hw6]; exact ⟨rfl, rfl, rfl⟩
          refine (span2_any _ _ w6).mono ?_
          rintro e w7 ⟨rfl, hb7⟩
          have hs7 := hb7.size
          have hz57 : w5.heap.size ≤ w7.heap.size := by omega
          have x7 := blk_later hb7 x6
          have k7 : ∀ j, j < w5.heap.size → j ≠ bc → w7.heap[j]? = w5.heap[j]? := fun j hj hne => (hb7.block j (by omega)).trans (k6 j hne)
          have O7 : Hid (w7.os = w5.os ∧ w7.tape = w5.tape ∧ w7.output = w5.output) := Lib.hid ⟨hb7.os.trans o6.1, hb7.tape.trans o6.2.1, hb7.output.trans o6.2.2⟩
          have X7 := Lib.hid x7
          have K7 := Lib.hid k7
          have R7 := Lib.hid (row_later r6 hb7)
          have B7 := Lib.hid ((k7 bw (by omega) hne).trans (blk_later HB5.out HS.out.box))
          clear r6
          have k4 := blk_cell x7 4
          have k5 := blk_cell x7 5
          have k4f := blk_free x7 4
          have k5f := blk_free x7 5
          have G1b := Lib.hid (blk_later HB5.out G1.out)
          have G2b := Lib.hid (blk_later HB5.out G2.out)
          have pc0 := blk_cell ((k7 _ (by omega) (by omega)).trans G1b.out) 0
          have pc1 := blk_cell ((k7 _ (by omega) (by omega)).trans G1b.out) 1
          have pc2 := blk_cell ((k7 _ (by omega) (by omega)).trans G1b.out) 2
          have pc3 := blk_cell ((k7 _ (by omega) (by omega)).trans G1b.out) 3
          have d0 := blk_cell ((k7 _ (by omega) (by omega)).trans G2b.out) 0
          have d1 := blk_cell ((k7 _ (by omega) (by omega)).trans G2b.out) 1
          have d2 := blk_cell ((k7 _ (by omega) (by omega)).trans G2b.out) 2
          have d3 := blk_cell ((k7 _ (by omega) (by omega)).trans G2b.out) 3
          have d4 := blk_cell ((k7 _ (by omega) (by omega)).trans G2b.out) 4
          have d5 := blk_cell ((k7 _ (by omega) (by omega)).trans G2b.out) 5
          have d6 := blk_cell ((k7 _ (by omega) (by omega)).trans G2b.out) 6
          have l0 : w.heap.size ≠ bc := by omega
          clear hw6 x6 k6 z6 o6 hb7 x7 k7 e4 e5 y3 k2 k3 k2f k3f g8
          obtain ⟨p', hp'⟩ : ∃ p', p' = widenP n0 n1 n2 p := ⟨_, rfl⟩
          have HE2 : Hid ((checkK p' b').2.2 = 0) := Lib.hid (by rw [hp', HB'.out]; exact widen_err HE.out)
          have t1 : tr = p'.trim := by rw [HTR.out, minI_is, hp']; rfl
          have t2 : p.sheets = p'.sheets := by rw [hp']; rfl
          have t3 : b'.leaves = b.leaves := by rw [HB'.out]; rfl
          have t4 : b'.chain = b.chain := by rw [HB'.out]; rfl
          have t5 : b'.marks = b.marks := by rw [HB'.out]; rfl
          have T1 := Lib.hid t1
          have T2 := Lib.hid t2
          have T5 := Lib.hid t5
          have HAG := Lib.hid (fun W h1 h2 => Agree_good p b (.agg #[.slice a N1 cap, .slice a2 k cap2, .int .i64 p.trim, .int .i64 p.sheets]) (.slice a3 N3 cap3) W h1 h2 HE.out)
          have HWG := Lib.hid (fun W t h1 h2 => Wrong_good p b (.agg #[.slice a N1 cap, .slice a2 k cap2, .int .i64 p.trim, .int .i64 p.sheets]) (.slice a3 N3 cap3) W t h1 h2 HE.out)
          have HAG2 := (fun W h1 h2 => Agree_good p' b' (.agg #[.slice a N1 cap, v, .int .i64 tr, .int .i64 p.sheets]) (.slice a3 N3 cap3) W h1 h2 HE2.out)
          have HWG2 := (fun W t h1 h2 => Wrong_good p' b' (.agg #[.slice a N1 cap, v, .int .i64 tr, .int .i64 p.sheets]) (.slice a3 N3 cap3) W t h1 h2 HE2.out)
          rw [t3, t4, t5] at HAG2 HWG2
          have HAG2 := Lib.hid HAG2
          have HWG2 := Lib.hid HWG2
          have HP' := Lib.hid hp'
          have HSUB : Hid (∀ m ∈ agreeL p b, m ∈ agreeL p' b') := Lib.hid (by rw [hp', HB'.out]; exact widen_agree HE.out)
          have HBST : Hid ((idxV 11 (bestW p' b').testBit).length ≤ (idxV 11 (bestW p b).testBit).length) := Lib.hid (by rw [hp', HB'.out]; exact widen_best HE.out)
          have HWAY : Hid (waysW p' b' (makesW p') = waysW p b (makesW p)) := Lib.hid (by rw [hp', HB'.out]; exact widen_ways HE.out)
          have HLN1 := Lib.hid (agreeL_len HE.out)
          have HLN2 := Lib.hid (agreeL_len HE2.out)
          clear t1 t2 t3 t4 t5 hp'
          go_wp2_with fail
          obtain ⟨w8, hw8⟩ : ∃ w8, w8 = (w7.setCell ⟨bc, 4, none⟩ (.int .i64 b'.hlo)).setCell ⟨bc, 5, none⟩ (.int .i64 b'.hhi) := ⟨_, rfl⟩
          rw [← hw8]
          have k8 : ∀ j, j ≠ bc → w8.heap[j]? = w7.heap[j]? := fun j hj => by rw [hw8]; exact (heap_setCell_past _ _ _ _ hj).trans (heap_setCell_past _ _ _ _ hj)
          have z8 : w8.heap.size = w7.heap.size := by rw [hw8]; simp
          have x8 : w8.heap[bc]? = some (.cells #[.int .i64 b.leaves, .int .i64 b.chain, .int .i64 b'.wlo, .int .i64 b'.whi, .int .i64 b'.hlo, .int .i64 b'.hhi, .slice a3 N3 cap3] 30 (0, 0)) := by
            rw [hw8]
            have h := blk_set (blk_set X7.out 4 (.int .i64 b'.hlo)) 5 (.int .i64 b'.hhi)
            simpa using h
          have r8 : w8.ownsRow w4.heap.size 67 5 v qs.length (qs.flatMap pprV) := by rw [hw8]; exact ownsRow_setCell_below (ownsRow_setCell_below R7.out hbc4 _) hbc4 _
          have hb8 : Below w.heap.size w w8 := ⟨by rw [hw8]; exact O7.out.1.trans (HB5.out.os.trans HBR.out.os), by rw [hw8]; exact O7.out.2.1.trans (HB5.out.tape.trans HBR.out.tape), by rw [hw8]; exact O7.out.2.2.trans (HB5.out.output.trans HBR.out.output), by have := HBR.out.size; omega, fun j hj => (k8 j (by omega)).trans ((K7.out j (by have := HBR.out.size; omega) (by omega)).trans ((HB5.out.block j (by have := HBR.out.size; omega)).trans (HBR.out.block j hj)))⟩
          have Y1 := Lib.hid ((k8 _ (by omega)).trans ((K7.out _ (by have := HBR.out.size; omega) (by omega)).trans G1b.out))
          have Y2 := Lib.hid ((k8 _ (by omega)).trans ((K7.out _ (by have := HBR.out.size; omega) (by omega)).trans G2b.out))
          have Y7 := Lib.hid ((k8 _ hne).trans B7.out)
          have Y8 := Lib.hid x8
          have R8 := Lib.hid (rows_of_own (enc := pprV) (fun _ => rfl) r8)
          have HB8 := Lib.hid hb8
          clear hw8 k8 z8 x8 r8 hb8 d0 d1 d2 d3 d4 d5 d6 pc0 pc1 pc2 pc3 k4 k5 k4f k5f
          have HPW : Hid (PrsAt w8.heap.size w8 (.agg #[.slice a N1 cap, v, .int .i64 tr, .int .i64 p.sheets]) p') := Lib.hid (by
            obtain ⟨fv, pv, e, hf, -, hsf, hsp⟩ := HP.out
            cases e
            refine ⟨.slice a N1 cap, v, by rw [T1.out, T2.out], ?_, ?_, ?_, ?_⟩
            · rw [HP'.out]; exact hf.later HB8.out
            · have h := R8.out
              rw [HQP.out] at h
              rw [HP'.out]; exact h
            · rw [HP'.out]; exact hsf
            · rw [HP'.out]
              intro q hq
              obtain ⟨q0, hq0, rfl⟩ := List.mem_map.1 hq
              exact hsp q0 hq0)
          have HMK : Hid (RowsAt 2 mrkV w8.heap.size w8 (.slice a3 N3 cap3) b.marks) := Lib.hid (by
            obtain ⟨mv, e, hm⟩ := HK.out
            cases e
            exact hm.later HB8.out)
          refine (HAG.out w8 (HP.out.later HB8.out) HMK.out).mono ?_
          rintro e w9 ⟨⟨lv, rfl, hlv⟩, hb9⟩
          have HB9 := Lib.hid hb9
          have HL1 := Lib.hid (rows_of_own (enc := mkC) (fun _ => rfl) hlv)
          have p0 := blk_cell (blk_later HB9.out Y1.out) 0
          have p1 := blk_cell (blk_later HB9.out Y1.out) 1
          have p2 := blk_cell (blk_later HB9.out Y1.out) 2
          have p3 := blk_cell (blk_later HB9.out Y1.out) 3
          have e0 := blk_cell (blk_later HB9.out Y2.out) 0
          have e1 := blk_cell (blk_later HB9.out Y2.out) 1
          have e2 := blk_cell (blk_later HB9.out Y2.out) 2
          have e3 := blk_cell (blk_later HB9.out Y2.out) 3
          have e4 := blk_cell (blk_later HB9.out Y2.out) 4
          have e5 := blk_cell (blk_later HB9.out Y2.out) 5
          have e6 := blk_cell (blk_later HB9.out Y2.out) 6
          have u0 := blk_cell (blk_later HB9.out Y7.out) 0
          have u1 := blk_cell (blk_later HB9.out Y7.out) 1
          have u2 := blk_cell (blk_later HB9.out Y7.out) 2
          have u3 := blk_cell (blk_later HB9.out Y7.out) 3
          have c0 := blk_cell (blk_later HB9.out Y8.out) 0
          have c1 := blk_cell (blk_later HB9.out Y8.out) 1
          have c2 := blk_cell (blk_later HB9.out Y8.out) 2
          have c3 := blk_cell (blk_later HB9.out Y8.out) 3
          have c4 := blk_cell (blk_later HB9.out Y8.out) 4
          have c5 := blk_cell (blk_later HB9.out Y8.out) 5
          have c6 := blk_cell (blk_later HB9.out Y8.out) 6
          clear hlv hb9
          go_wp2_with fail
          refine (HAG2.out w9 (HPW.out.later HB9.out) (HMK.out.later HB9.out)).mono ?_
          rintro e w10 ⟨⟨kv, rfl, hkv⟩, hb10⟩
          have HB10 := Lib.hid (HB9.out.trans (hb10.mono HB9.out.size))
          have HL1 := Lib.hid (HL1.out.later hb10)
          have HL2 := Lib.hid (rows_of_own (enc := mkC) (fun _ => rfl) hkv)
          clear hkv hb10 p0 p1 p2 p3 e0 e1 e2 e3 e4 e5 e6 u0 u1 u2 u3 c0 c1 c2 c3 c4 c5 c6
          obtain ⟨la, lcap, e1, -⟩ := id HL1.out
          obtain ⟨ka, kcap, e2, -⟩ := id HL2.out
          subst e1 e2
          obtain ⟨NA, hNA⟩ : ∃ n, n = (agreeL p b).length := ⟨_, rfl⟩
          obtain ⟨NB, hNB⟩ : ∃ n, n = (agreeL p' b').length := ⟨_, rfl⟩
          have HNA := Lib.hid hNA
          have HNB := Lib.hid hNB
          rw [← hNA] at HL1 HLN1 ⊢
          rw [← hNB] at HL2 HLN2 ⊢
          have hna := HLN1.out
          have hnb := HLN2.out
          clear hNA hNB
          go_wp2_with fail
          go_loopw [15] (fun q wr => ∃ (k' : Nat), k' ≤ NA ∧ q = .int .i64 k' ∧ Hid (Below w10.heap.size w10 wr)) (fun q _ => NA - (intOf q).toNat)
          case atStart => exact ⟨0, by omega, rfl, Lib.hid (Below.refl _ _)⟩
          case round =>
            obtain ⟨k', hk', rfl, HB⟩ := hrel
            by_cases hlt : k' < NA
            · obtain ⟨x, hx⟩ : ∃ x, (agreeL p b)[k']? = some x := ⟨_, List.getElem?_eq_getElem (by have := HNA.out; omega)⟩
              obtain ⟨g, off, rfl, q0, q1, q2, q3⟩ := mk_cells (HL1.out.later HB.out) rfl hx
              have HIN := Lib.hid (decide_eq_true (HSUB.out x (List.mem_of_getElem? hx)))
              clear hx
              go_wp2_with fail
              refine (one_any (agreeL p' b') _ x _ _ (HL2.out.later HB.out) (Nat.le_refl _) (by rw [← HNB.out]; omega)).mono ?_
              rintro e w12 ⟨rfl, hb12⟩
              rw [HIN.out]
              have HB12 := Lib.hid (HB.out.trans (hb12.mono HB.out.size))
              clear hb12 q0 q1 q2 q3
              go_wp2_with fail
              go_roundw
              case rel => exact ⟨k' + 1, by omega, by go_num, HB12⟩
              case measure => simp [intOf]; omega
            · obtain rfl : k' = NA := by omega
              have HBT := Lib.hid (HB10.out.trans (HB.out.mono HB10.out.size))
              have p0 := blk_cell (blk_later HBT.out Y1.out) 0
              have p1 := blk_cell (blk_later HBT.out Y1.out) 1
              have p2 := blk_cell (blk_later HBT.out Y1.out) 2
              have p3 := blk_cell (blk_later HBT.out Y1.out) 3
              have e0 := blk_cell (blk_later HBT.out Y2.out) 0
              have e1 := blk_cell (blk_later HBT.out Y2.out) 1
              have e2 := blk_cell (blk_later HBT.out Y2.out) 2
              have e3 := blk_cell (blk_later HBT.out Y2.out) 3
              have e4 := blk_cell (blk_later HBT.out Y2.out) 4
              have e5 := blk_cell (blk_later HBT.out Y2.out) 5
              have e6 := blk_cell (blk_later HBT.out Y2.out) 6
              have u0 := blk_cell (blk_later HBT.out Y7.out) 0
              have u1 := blk_cell (blk_later HBT.out Y7.out) 1
              have u2 := blk_cell (blk_later HBT.out Y7.out) 2
              have u3 := blk_cell (blk_later HBT.out Y7.out) 3
              have c0 := blk_cell (blk_later HBT.out Y8.out) 0
              have c1 := blk_cell (blk_later HBT.out Y8.out) 1
              have c2 := blk_cell (blk_later HBT.out Y8.out) 2
              have c3 := blk_cell (blk_later HBT.out Y8.out) 3
              have c4 := blk_cell (blk_later HBT.out Y8.out) 4
              have c5 := blk_cell (blk_later HBT.out Y8.out) 5
              have c6 := blk_cell (blk_later HBT.out Y8.out) 6
              go_wp2_with fail
              refine (HWG.out _ t (HP.out.later (HB8.out.trans (HBT.out.mono HB8.out.size))) (HMK.out.later HBT.out) (blk_later (HB8.out.trans (HBT.out.mono HB8.out.size)) HW.out)).mono ?_
              rintro e w13 ⟨hres, hb13⟩
              have HB13 := Lib.hid (HBT.out.trans (hb13.mono HBT.out.size))
              clear hb13 p0 p1 p2 p3 e0 e1 e2 e3 e4 e5 e6 u0 u1 u2 u3 c0 c1 c2 c3 c4 c5 c6
              have p0 := blk_cell (blk_later HB13.out Y1.out) 0
              have p1 := blk_cell (blk_later HB13.out Y1.out) 1
              have p2 := blk_cell (blk_later HB13.out Y1.out) 2
              have p3 := blk_cell (blk_later HB13.out Y1.out) 3
              have e0 := blk_cell (blk_later HB13.out Y2.out) 0
              have e1 := blk_cell (blk_later HB13.out Y2.out) 1
              have e2 := blk_cell (blk_later HB13.out Y2.out) 2
              have e3 := blk_cell (blk_later HB13.out Y2.out) 3
              have e4 := blk_cell (blk_later HB13.out Y2.out) 4
              have e5 := blk_cell (blk_later HB13.out Y2.out) 5
              have e6 := blk_cell (blk_later HB13.out Y2.out) 6
              have u0 := blk_cell (blk_later HB13.out Y7.out) 0
              have u1 := blk_cell (blk_later HB13.out Y7.out) 1
              have u2 := blk_cell (blk_later HB13.out Y7.out) 2
              have u3 := blk_cell (blk_later HB13.out Y7.out) 3
              have c0 := blk_cell (blk_later HB13.out Y8.out) 0
              have c1 := blk_cell (blk_later HB13.out Y8.out) 1
              have c2 := blk_cell (blk_later HB13.out Y8.out) 2
              have c3 := blk_cell (blk_later HB13.out Y8.out) 3
              have c4 := blk_cell (blk_later HB13.out Y8.out) 4
              have c5 := blk_cell (blk_later HB13.out Y8.out) 5
              have c6 := blk_cell (blk_later HB13.out Y8.out) 6
              rcases hres with ⟨hw0, rfl⟩ | ⟨hw0, va, rfl, hva⟩
              · have HW0 := Lib.hid hw0
                clear hw0
                go_wp2_with fail
                refine (HWG2.out _ t (HPW.out.later HB13.out) (HMK.out.later HB13.out) (blk_later (HB8.out.trans (HB13.out.mono HB8.out.size)) HW.out)).mono ?_
                rintro e w14 ⟨hres, hb14⟩
                have HB14 := Lib.hid (HB8.out.trans ((HB13.out.trans (hb14.mono HB13.out.size)).mono HB8.out.size))
                clear hb14 p0 p1 p2 p3 e0 e1 e2 e3 e4 e5 e6 u0 u1 u2 u3 c0 c1 c2 c3 c4 c5 c6
                rcases hres with ⟨-, rfl⟩ | ⟨hw1, -⟩
                · skip
                  go_wp2_with fail
                  refine (awake_any2 (t := t) (blk_later HB14.out HW.out)).mono ?_
                  rintro e w15 ⟨rfl, hb15⟩
                  have hb16 := HB14.out.trans (hb15.mono HB14.out.size)
                  clear hb15
                  go_wp2_with fail
                  go_ret
                  exact ⟨rfl, hb16⟩
                · exact absurd (HWAY.out.trans HW0.out) hw1
              · have HW0 := Lib.hid hw0
                have HVA := Lib.hid hva
                obtain ⟨aa, acap, rfl, -⟩ := hva
                rw [List.length_map] at HVA ⊢
                obtain ⟨NV, hNV⟩ : ∃ n, n = (idxV 11 (bestW p b).testBit).length := ⟨_, rfl⟩
                rw [← hNV] at HVA HBST ⊢
                clear hw0 hNV HVA
                go_wp2_with fail
                refine (HWG2.out _ t (HPW.out.later HB13.out) (HMK.out.later HB13.out) (blk_later (HB8.out.trans (HB13.out.mono HB8.out.size)) HW.out)).mono ?_
                rintro e w14 ⟨hres, hb14⟩
                have HB14 := Lib.hid (HB8.out.trans ((HB13.out.trans (hb14.mono HB13.out.size)).mono HB8.out.size))
                clear hb14 p0 p1 p2 p3 e0 e1 e2 e3 e4 e5 e6 u0 u1 u2 u3 c0 c1 c2 c3 c4 c5 c6
                rcases hres with ⟨hw1, -⟩ | ⟨-, vb, rfl, hvb⟩
                · exact absurd (HWAY.out.symm.trans hw1) HW0.out
                · obtain ⟨ba, bcap, rfl, -⟩ := hvb
                  rw [List.length_map]
                  obtain ⟨NU, hNU⟩ : ∃ n, n = (idxV 11 (bestW p' b').testBit).length := ⟨_, rfl⟩
                  rw [← hNU] at HBST ⊢
                  have hle := HBST.out
                  have hle2 : ((NU : Int) ≤ (NV : Int)) := by omega
                  clear hNU
                  go_wp2_with fail
                  refine (awake_any2 (t := t) (blk_later HB14.out HW.out)).mono ?_
                  rintro e w15 ⟨rfl, hb15⟩
                  have hb16 := HB14.out.trans (hb15.mono HB14.out.size)
                  clear hb15
                  go_wp2_with fail
                  go_ret
                  exact ⟨rfl, hb16⟩
end Go.Proofs.YtnhacghjoikgpaaGreatDoor
