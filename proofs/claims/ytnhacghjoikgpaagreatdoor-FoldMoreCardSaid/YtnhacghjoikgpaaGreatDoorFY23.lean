/- The parts Ht, Kfy of the proof, joined. It holds without conditions of its own. -/
import Derived.Test.YtnhacghjoikgpaaGreatDoorFY19
import Derived.Test.YtnhacghjoikgpaaGreatDoorFY22
import Derived.Test.YtnhacghjoikgpaaGreatDoorFY3
import Derived.Test.YtnhacghjoikgpaaGreatDoorFY4
import Derived.Test.YtnhacghjoikgpaaGreatDoorCards
import Derived.Test.YtnhacghjoikgpaaGreatDoorTie
import Derived.ChangeSame
import Derived.SevenTiedAt
/- FoldMore: with one more mark no way of making is added, no leaf is added to those that may be together, and none is lost of those that must be. -/
namespace Go.Proofs.YtnhacghjoikgpaaGreatDoor
set_option linter.unusedSimpArgs false
set_option linter.unusedVariables false
open Go Go.RowKit Go.Sort Go.BigFrame

theorem agreeL_lenB {p : Prs} {b : Bok} (he : (checkK p b).2.2 = 0) : (agreeL p b).length ≤ 192 := by
  obtain ⟨hee, -, -, -⟩ := fine_bok he
  obtain ⟨-, ⟨f3, f4⟩, ⟨f5, f6⟩, -⟩ := fine_press hee
  obtain ⟨⟨f1, f2⟩, -⟩ := fine_press hee
  have h1 := mkA_len p p.fmts.length (by omega) (by omega)
  have h2 : (waysW p b (makesW p)).length ≤ (makesW p).length := List.length_filter_le _ _
  have h3 : (agreeL p b).length ≤ (waysW p b (makesW p)).length := List.length_filter_le _ _
  unfold makesW at h2 h3
  omega
theorem wp_cut {P : Program} {c : Code} {Q : Exit → Act → World → Prop} {a : Act} {w : World} (R : Exit → Act → World → Prop) (h : c.wp P R a w) (k : ∀ e a' w', R e a' w' → Q e a' w') : c.wp P Q a w := wp_mono h k
set_option maxRecDepth 100000 in
set_option maxHeartbeats 20000000 in
theorem FoldMore_any (p : Prs) (vp : Value) (b : Bok) (vb : Value) (xl : Int) (xs : Bool) (w : World) (t : TypeId) (hp : PrsAt w.heap.size w vp p) (hb : BokAt w.heap.size w vb b) (hN : b.marks.length ≤ 8796093022207) (hW : w.heap[0]? = some (.cells tabL.toArray t (0, 0))) :
    Calls Tryz.prog 5 #[vp, vb, .agg #[.int .i64 xl, .bool xs]] w fun e w' => e = .returned (.bool true) ∧ Below w.heap.size w w' := by
  have HP := Lib.hid hp
  have HK := Lib.hid hb
  have HW := Lib.hid hW
  have HLM := Lib.hid hN
  obtain ⟨fv, pv, rfl, ⟨a, cap, rfl, -⟩, ⟨a2, cap2, rfl, -⟩, -⟩ := hp
  obtain ⟨mv, rfl, ⟨a3, cap3, rfl, hmc⟩⟩ := hb
  obtain ⟨N1, hN1⟩ : ∃ n, n = p.fmts.length := ⟨_, rfl⟩
  obtain ⟨N2, hN2⟩ : ∃ n, n = p.pprs.length := ⟨_, rfl⟩
  obtain ⟨N3, hN3⟩ : ∃ n, n = b.marks.length := ⟨_, rfl⟩
  have HN3 := Lib.hid hN3
  rw [← hN1, ← hN2] at HP ⊢
  rw [← hN3] at HK ⊢
  clear hN1 hN2 hN3 hW hmc hN
  go_enter Tryz.func5, Tryz.ntmps5
  go_wp2_with fail
  obtain ⟨w1, hw1⟩ : ∃ w1, w1 = ((((w.alloc (.cells #[.slice a N1 cap, .slice a2 N2 cap2, .int .i64 p.trim, .int .i64 p.sheets] 25)).alloc (.cells #[.int .i64 b.leaves, .int .i64 b.chain, .int .i64 b.wlo, .int .i64 b.whi, .int .i64 b.hlo, .int .i64 b.hhi, .slice a3 N3 cap3] 30)).alloc (.cells #[.int .i64 xl, .bool xs] 58)).alloc (.cells #[.int .i64 b.leaves, .int .i64 b.chain, .int .i64 b.wlo, .int .i64 b.whi, .int .i64 b.hlo, .int .i64 b.hhi, .slice a3 N3 cap3] 30)) := ⟨_, rfl⟩
  have hb1 : Below w.heap.size w w1 := by rw [hw1]; exact (by repeat (first | exact Below.refl _ _ | assumption | (refine Below.alloc ?_ ?_ _; rotate_left; · (first | omega | (simp; done) | (simp; omega) | fail)) | (refine Below.setCell ?_ ?_ _; rotate_left; · (first | omega | (simp; done) | (simp; omega) | fail)) | refine Below.drew ?_ | fail))
  have x1 : w1.heap[w.heap.size]? = some (.cells #[.slice a N1 cap, .slice a2 N2 cap2, .int .i64 p.trim, .int .i64 p.sheets] 25 (0, 0)) := by rw [hw1]; exact (by repeat (first | exact heap_alloc_at _ _ _ (by (first | omega | (simp; done) | (simp; omega) | (simp at *; omega) | fail)) | assumption | rw [heap_alloc_past _ _ _ (by (first | omega | (simp; done) | (simp; omega) | (simp at *; omega) | fail))] | rw [heap_setCell_past _ _ _ _ (by (first | omega | (simp; done) | (simp; omega) | (simp at *; omega) | fail))] | fail))
  have x2 : w1.heap[w.heap.size + 1]? = some (.cells #[.int .i64 b.leaves, .int .i64 b.chain, .int .i64 b.wlo, .int .i64 b.whi, .int .i64 b.hlo, .int .i64 b.hhi, .slice a3 N3 cap3] 30 (0, 0)) := by rw [hw1]; exact (by repeat (first | exact heap_alloc_at _ _ _ (by (first | omega | (simp; done) | (simp; omega) | (simp at *; omega) | fail)) | assumption | rw [heap_alloc_past _ _ _ (by (first | omega | (simp; done) | (simp; omega) | (simp at *; omega) | fail))] | rw [heap_setCell_past _ _ _ _ (by (first | omega | (simp; done) | (simp; omega) | (simp at *; omega) | fail))] | fail))
  have x3 : w1.heap[w.heap.size + 2]? = some (.cells #[.int .i64 xl, .bool xs] 58 (0, 0)) := by rw [hw1]; exact (by repeat (first | exact heap_alloc_at _ _ _ (by (first | omega | (simp; done) | (simp; omega) | (simp at *; omega) | fail)) | assumption | rw [heap_alloc_past _ _ _ (by (first | omega | (simp; done) | (simp; omega) | (simp at *; omega) | fail))] | rw [heap_setCell_past _ _ _ _ (by (first | omega | (simp; done) | (simp; omega) | (simp at *; omega) | fail))] | fail))
  have x4 : w1.heap[w.heap.size + 3]? = some (.cells #[.int .i64 b.leaves, .int .i64 b.chain, .int .i64 b.wlo, .int .i64 b.whi, .int .i64 b.hlo, .int .i64 b.hhi, .slice a3 N3 cap3] 30 (0, 0)) := by rw [hw1]; exact (by repeat (first | exact heap_alloc_at _ _ _ (by (first | omega | (simp; done) | (simp; omega) | (simp at *; omega) | fail)) | assumption | rw [heap_alloc_past _ _ _ (by (first | omega | (simp; done) | (simp; omega) | (simp at *; omega) | fail))] | rw [heap_setCell_past _ _ _ _ (by (first | omega | (simp; done) | (simp; omega) | (simp at *; omega) | fail))] | fail))
  have hz1 : w1.heap.size = w.heap.size + 4 := by rw [hw1]; simp
  rw [← hw1]
  have HB1 := Lib.hid hb1
  have X1 := Lib.hid x1
  have X2 := Lib.hid x2
  have X3 := Lib.hid x3
  have X4 := Lib.hid x4
  obtain ⟨Z, hZ⟩ : ∃ Z, Z = w1.heap.size := ⟨_, rfl⟩
  have hZ4 : Z ≤ w.heap.size + 4 := by omega
  have hZ5 : w.heap.size + 4 ≤ Z := by omega
  have HZ := Lib.hid hZ
  clear hw1 hb1 x1 x2 x3 x4 hz1 hZ
  refine wp_cut (fun e a' w' => match e with | .normal => (∃ q0 q1 q2 q3 q4 q5 q6 q7 : Value, a' = ⟨#[(.agg #[.slice a N1 cap, .slice a2 N2 cap2, .int .i64 p.trim, .int .i64 p.sheets]), (.agg #[.int .i64 b.leaves, .int .i64 b.chain, .int .i64 b.wlo, .int .i64 b.whi, .int .i64 b.hlo, .int .i64 b.hhi, .slice a3 N3 cap3]), (.agg #[.int .i64 xl, .bool xs]), (.pointer (some ⟨w.heap.size, 0, none⟩)), (.pointer (some ⟨w.heap.size + 1, 0, none⟩)), (.pointer (some ⟨w.heap.size + 1 + 1, 0, none⟩)), (.bool false), (.pointer (some ⟨w.heap.size + 1 + 1 + 1, 0, none⟩)), undef, undef, undef, undef, undef, undef, undef, undef, undef, undef, undef, (.agg #[.int .i64 b.leaves, .int .i64 b.chain, .int .i64 b.wlo, .int .i64 b.whi, .int .i64 b.hlo, .int .i64 b.hhi, .slice a3 N3 cap3]), q0, q1, q2, q3, q4, q5, q6, q7, undef, undef, undef, undef, undef, undef, undef, undef, undef, undef, undef, undef, undef, undef, undef, undef, undef, undef, undef, undef, undef, undef, undef, undef, undef, undef, undef, undef, undef, undef, undef, undef, undef, undef, undef, undef, undef, undef, undef, undef, undef, undef, undef, undef, undef, undef, undef, undef, undef, undef, undef, undef, undef, undef, undef, undef, undef, undef, undef, undef, undef, undef, undef, undef, undef, undef, undef, undef, undef, undef, undef, undef, undef, undef, undef, undef, undef, undef, undef, undef, undef, undef, undef, undef, undef, undef, undef, undef, undef, undef], []⟩ ∧ Hid (Below w.heap.size w w') ∧ Hid (∀ k, k < Z → k ≠ w.heap.size + 3 → w'.heap[k]? = w1.heap[k]?) ∧ ∃ ca capc, Hid (w'.heap[w.heap.size + 3]? = some (.cells #[.int .i64 b.leaves, .int .i64 b.chain, .int .i64 b.wlo, .int .i64 b.whi, .int .i64 b.hlo, .int .i64 b.hhi, .slice ca (N3 + 1) capc] 30 (0, 0))) ∧ Hid (RowsAt 2 mrkV w'.heap.size w' (.slice ca (N3 + 1) capc) (b.marks ++ [(xl, xs)])) ) | _ => False) ?reg ?cont
  case cont =>
    rintro e a' w3 hR
    cases e with
    | normal =>
      obtain ⟨q0, q1, q2, q3, q4, q5, q6, q7, rfl, HB3, HK3, ca, capc, X7, HM7⟩ := hR
      have hz3 : Z ≤ w3.heap.size := by
        have h := blk_lt X7.out
        omega
      have Y1 := Lib.hid ((HK3.out _ (show w.heap.size < Z by omega) (by omega)).trans X1.out)
      have Y2 := Lib.hid ((HK3.out _ (show w.heap.size + 1 < Z by omega) (by omega)).trans X2.out)
      have Y3 := Lib.hid ((HK3.out _ (show w.heap.size + 2 < Z by omega) (by omega)).trans X3.out)
      have Y7 := Lib.hid X7.out
      clear HK3 X7 X1 X2 X3 X4 HZ HB1
      have p0 := blk_cell (blk_later (Below.refl w3.heap.size w3) Y1.out) 0
      have p1 := blk_cell (blk_later (Below.refl w3.heap.size w3) Y1.out) 1
      have p2 := blk_cell (blk_later (Below.refl w3.heap.size w3) Y1.out) 2
      have p3 := blk_cell (blk_later (Below.refl w3.heap.size w3) Y1.out) 3
      have e0 := blk_cell (blk_later (Below.refl w3.heap.size w3) Y2.out) 0
      have e1 := blk_cell (blk_later (Below.refl w3.heap.size w3) Y2.out) 1
      have e2 := blk_cell (blk_later (Below.refl w3.heap.size w3) Y2.out) 2
      have e3 := blk_cell (blk_later (Below.refl w3.heap.size w3) Y2.out) 3
      have e4 := blk_cell (blk_later (Below.refl w3.heap.size w3) Y2.out) 4
      have e5 := blk_cell (blk_later (Below.refl w3.heap.size w3) Y2.out) 5
      have e6 := blk_cell (blk_later (Below.refl w3.heap.size w3) Y2.out) 6
      have y0 := blk_cell (blk_later (Below.refl w3.heap.size w3) Y3.out) 0
      have c0 := blk_cell (blk_later (Below.refl w3.heap.size w3) Y7.out) 0
      have c1 := blk_cell (blk_later (Below.refl w3.heap.size w3) Y7.out) 1
      have c2 := blk_cell (blk_later (Below.refl w3.heap.size w3) Y7.out) 2
      have c3 := blk_cell (blk_later (Below.refl w3.heap.size w3) Y7.out) 3
      have c4 := blk_cell (blk_later (Below.refl w3.heap.size w3) Y7.out) 4
      have c5 := blk_cell (blk_later (Below.refl w3.heap.size w3) Y7.out) 5
      have c6 := blk_cell (blk_later (Below.refl w3.heap.size w3) Y7.out) 6
      go_wp2_with fail
      obtain ⟨c, hc⟩ : ∃ c : Bok, c = { b with marks := b.marks ++ [(xl, xs)] } := ⟨_, rfl⟩
      have HC := Lib.hid hc
      have hBc : BokAt w3.heap.size w3 (.agg #[.int .i64 b.leaves, .int .i64 b.chain, .int .i64 b.wlo, .int .i64 b.whi, .int .i64 b.hlo, .int .i64 b.hhi, .slice ca (N3 + 1) capc]) c := by rw [hc]; exact ⟨_, rfl, HM7.out⟩
      have HBC := Lib.hid hBc
      clear hc hBc
      obtain ⟨z, hz⟩ : ∃ z, z = ((checkK p c).2.2 == 0) := ⟨_, rfl⟩
      refine (good2_any p c _ _ w3 (HP.out.later HB3.out) HBC.out).mono ?_
      rintro e w4 ⟨rfl, hb4⟩
      rw [← hz]
      have HB4 := Lib.hid hb4
      have HZ2 := Lib.hid hz
      have hs4 := hb4.size
      clear hz hb4
      cases z with
      | false =>
        clear p0 p1 p2 p3 e0 e1 e2 e3 e4 e5 e6 y0 c0 c1 c2 c3 c4 c5 c6
        go_wp2_with fail
        refine (awake_any2 (t := t) (blk_later ((HB3.out.trans (HB4.out.mono HB3.out.size))) HW.out)).mono ?_
        rintro e wz ⟨rfl, hbz⟩
        have hb99 := HB3.out.trans ((HB4.out.trans (hbz.mono (HB4.out).size)).mono HB3.out.size)
        clear hbz
        go_wp2_with fail
        go_ret
        exact ⟨rfl, hb99⟩
      | true =>
        have hec : (checkK p c).2.2 = 0 := by have := HZ2.out; simpa using this.symm
        have HEC := Lib.hid hec
        have hmf := more_fine (p := p) (b := b) (x := (xl, xs)) (by rw [← HC.out]; exact hec)
        obtain ⟨heb, hx0, hx1⟩ := hmf
        have HEB := Lib.hid heb
        have HIN : Hid (inI 0 (b.leaves - 1) xl = true) := Lib.hid (by simp only [inI, Bool.and_eq_true, decide_eq_true_eq]; exact ⟨hx0, by have : xl < b.leaves := hx1; omega⟩)
        have HAG := Lib.hid (fun W h1 h2 => Agree_good p b (.agg #[.slice a N1 cap, .slice a2 N2 cap2, .int .i64 p.trim, .int .i64 p.sheets]) (.slice a3 N3 cap3) W h1 h2 HEB.out)
        have HTG := Lib.hid (fun W h1 h2 => Together_good p b xl (.agg #[.slice a N1 cap, .slice a2 N2 cap2, .int .i64 p.trim, .int .i64 p.sheets]) (.slice a3 N3 cap3) W h1 h2 HEB.out)
        have HAG2 := (fun W h1 h2 => Agree_good p c (.agg #[.slice a N1 cap, .slice a2 N2 cap2, .int .i64 p.trim, .int .i64 p.sheets]) (.slice ca (N3 + 1) capc) W h1 h2 HEC.out)
        have HTG2 := (fun W h1 h2 => Together_good p c xl (.agg #[.slice a N1 cap, .slice a2 N2 cap2, .int .i64 p.trim, .int .i64 p.sheets]) (.slice ca (N3 + 1) capc) W h1 h2 HEC.out)
        have t1 : c.leaves = b.leaves := by rw [HC.out]
        have t2 : c.chain = b.chain := by rw [HC.out]
        have t3 : c.wlo = b.wlo := by rw [HC.out]
        have t4 : c.whi = b.whi := by rw [HC.out]
        have t5 : c.hlo = b.hlo := by rw [HC.out]
        have t6 : c.hhi = b.hhi := by rw [HC.out]
        have t7 : c.marks = b.marks ++ [(xl, xs)] := by rw [HC.out]
        rw [t1, t2, t3, t4, t5, t6, t7] at HAG2 HTG2
        have HAG2 := Lib.hid HAG2
        have HTG2 := Lib.hid HTG2
        have HLV := Lib.hid t1
        have HSUB : Hid (∀ m ∈ agreeL p c, m ∈ agreeL p b) := Lib.hid (by rw [HC.out]; exact fun m hm => agree_more hm)
        have HMU : Hid (∀ j ∈ mustL p b xl.toNat, j ∈ mustL p c xl.toNat) := Lib.hid (by rw [HC.out]; exact fun j hj => must_more hj)
        have HMA : Hid (∀ j ∈ mayL p c xl.toNat, j ∈ mayL p b xl.toNat) := Lib.hid (by rw [HC.out]; exact fun j hj => may_more hj)
        obtain ⟨-, ⟨hbl1, hbl2⟩, -, -⟩ := fine_bok HEB.out
        have HBL := Lib.hid (And.intro hbl1 hbl2)
        have HLN1 := Lib.hid (agreeL_lenB HEB.out)
        have HLN2 := Lib.hid (agreeL_lenB HEC.out)
        have HMK : Hid (RowsAt 2 mrkV w3.heap.size w3 (.slice a3 N3 cap3) b.marks) := Lib.hid (by
          obtain ⟨mv, e, hm⟩ := HK.out
          cases e
          exact hm.later HB3.out)
        clear t1 t2 t3 t4 t5 t6 t7 hec heb hx0 hx1 hbl1 hbl2 p0 p1 p2 p3 e0 e1 e2 e3 e4 e5 e6 y0 c0 c1 c2 c3 c4 c5 c6
        have p0 := blk_cell (blk_later (HB4.out) Y1.out) 0
        have p1 := blk_cell (blk_later (HB4.out) Y1.out) 1
        have p2 := blk_cell (blk_later (HB4.out) Y1.out) 2
        have p3 := blk_cell (blk_later (HB4.out) Y1.out) 3
        have e0 := blk_cell (blk_later (HB4.out) Y2.out) 0
        have e1 := blk_cell (blk_later (HB4.out) Y2.out) 1
        have e2 := blk_cell (blk_later (HB4.out) Y2.out) 2
        have e3 := blk_cell (blk_later (HB4.out) Y2.out) 3
        have e4 := blk_cell (blk_later (HB4.out) Y2.out) 4
        have e5 := blk_cell (blk_later (HB4.out) Y2.out) 5
        have e6 := blk_cell (blk_later (HB4.out) Y2.out) 6
        have y0 := blk_cell (blk_later (HB4.out) Y3.out) 0
        have c0 := blk_cell (blk_later (HB4.out) Y7.out) 0
        have c1 := blk_cell (blk_later (HB4.out) Y7.out) 1
        have c2 := blk_cell (blk_later (HB4.out) Y7.out) 2
        have c3 := blk_cell (blk_later (HB4.out) Y7.out) 3
        have c4 := blk_cell (blk_later (HB4.out) Y7.out) 4
        have c5 := blk_cell (blk_later (HB4.out) Y7.out) 5
        have c6 := blk_cell (blk_later (HB4.out) Y7.out) 6
        go_wp2_with fail
        refine (HAG.out w4 (HP.out.later (HB3.out.trans (HB4.out.mono HB3.out.size))) (HMK.out.later HB4.out)).mono ?_
        rintro e w5 ⟨⟨lv, rfl, hlv⟩, hb5⟩
        have HB5 := Lib.hid (HB4.out.trans (hb5.mono HB4.out.size))
        have HL1 := Lib.hid (rows_of_own (enc := mkC) (fun _ => rfl) hlv)
        clear hlv hb5 p0 p1 p2 p3 e0 e1 e2 e3 e4 e5 e6 y0 c0 c1 c2 c3 c4 c5 c6
        have p0 := blk_cell (blk_later (HB5.out) Y1.out) 0
        have p1 := blk_cell (blk_later (HB5.out) Y1.out) 1
        have p2 := blk_cell (blk_later (HB5.out) Y1.out) 2
        have p3 := blk_cell (blk_later (HB5.out) Y1.out) 3
        have e0 := blk_cell (blk_later (HB5.out) Y2.out) 0
        have e1 := blk_cell (blk_later (HB5.out) Y2.out) 1
        have e2 := blk_cell (blk_later (HB5.out) Y2.out) 2
        have e3 := blk_cell (blk_later (HB5.out) Y2.out) 3
        have e4 := blk_cell (blk_later (HB5.out) Y2.out) 4
        have e5 := blk_cell (blk_later (HB5.out) Y2.out) 5
        have e6 := blk_cell (blk_later (HB5.out) Y2.out) 6
        have y0 := blk_cell (blk_later (HB5.out) Y3.out) 0
        have c0 := blk_cell (blk_later (HB5.out) Y7.out) 0
        have c1 := blk_cell (blk_later (HB5.out) Y7.out) 1
        have c2 := blk_cell (blk_later (HB5.out) Y7.out) 2
        have c3 := blk_cell (blk_later (HB5.out) Y7.out) 3
        have c4 := blk_cell (blk_later (HB5.out) Y7.out) 4
        have c5 := blk_cell (blk_later (HB5.out) Y7.out) 5
        have c6 := blk_cell (blk_later (HB5.out) Y7.out) 6
        go_wp2_with fail
        refine (HAG2.out w5 (HP.out.later (HB3.out.trans (HB5.out.mono HB3.out.size))) (HM7.out.later HB5.out)).mono ?_
        rintro e w6 ⟨⟨kv, rfl, hkv⟩, hb6⟩
        have HB6 := Lib.hid (HB5.out.trans (hb6.mono HB5.out.size))
        have HL1 := Lib.hid (HL1.out.later hb6)
        have HL2 := Lib.hid (rows_of_own (enc := mkC) (fun _ => rfl) hkv)
        clear hkv hb6 p0 p1 p2 p3 e0 e1 e2 e3 e4 e5 e6 y0 c0 c1 c2 c3 c4 c5 c6
        obtain ⟨la, lcap, e1, -⟩ := id HL1.out
        obtain ⟨ka, kcap, e2, -⟩ := id HL2.out
        subst e1 e2
        obtain ⟨NA, hNA⟩ : ∃ n, n = (agreeL p b).length := ⟨_, rfl⟩
        obtain ⟨NB, hNB⟩ : ∃ n, n = (agreeL p c).length := ⟨_, rfl⟩
        have HNA := Lib.hid hNA
        have HNB := Lib.hid hNB
        rw [← hNA] at HL1 HLN1 ⊢
        rw [← hNB] at HL2 HLN2 ⊢
        have hna := HLN1.out
        have hnb := HLN2.out
        clear hNA hNB
        go_wp2_with fail
        go_loopw [12] (fun q wr => ∃ (k' : Nat), k' ≤ NB ∧ q = .int .i64 k' ∧ Hid (Below w6.heap.size w6 wr)) (fun q _ => NB - (intOf q).toNat)
        case atStart => exact ⟨0, by omega, rfl, Lib.hid (Below.refl _ _)⟩
        case round =>
          obtain ⟨k', hk', rfl, HB⟩ := hrel
          by_cases hlt : k' < NB
          · obtain ⟨x, hx⟩ : ∃ x, (agreeL p c)[k']? = some x := ⟨_, List.getElem?_eq_getElem (by have := HNB.out; omega)⟩
            obtain ⟨g, off, rfl, q0, q1, q2, q3⟩ := mk_cells (HL2.out.later HB.out) rfl hx
            have HIX := Lib.hid (decide_eq_true (HSUB.out x (List.mem_of_getElem? hx)))
            clear hx
            go_wp2_with fail
            refine (one_any (agreeL p b) _ x _ _ (HL1.out.later HB.out) (Nat.le_refl _) (by rw [← HNA.out]; omega)).mono ?_
            rintro e w12 ⟨rfl, hb12⟩
            rw [HIX.out]
            have HB12 := Lib.hid (HB.out.trans (hb12.mono HB.out.size))
            clear hb12 q0 q1 q2 q3
            go_wp2_with fail
            go_roundw
            case rel => exact ⟨k' + 1, by omega, by go_num, HB12⟩
            case measure => simp [intOf]; omega
          · obtain rfl : k' = NB := by omega
            have HBT := Lib.hid (HB6.out.trans (HB.out.mono HB6.out.size))
            have p0 := blk_cell (blk_later (HBT.out) Y1.out) 0
            have p1 := blk_cell (blk_later (HBT.out) Y1.out) 1
            have p2 := blk_cell (blk_later (HBT.out) Y1.out) 2
            have p3 := blk_cell (blk_later (HBT.out) Y1.out) 3
            have e0 := blk_cell (blk_later (HBT.out) Y2.out) 0
            have e1 := blk_cell (blk_later (HBT.out) Y2.out) 1
            have e2 := blk_cell (blk_later (HBT.out) Y2.out) 2
            have e3 := blk_cell (blk_later (HBT.out) Y2.out) 3
            have e4 := blk_cell (blk_later (HBT.out) Y2.out) 4
            have e5 := blk_cell (blk_later (HBT.out) Y2.out) 5
            have e6 := blk_cell (blk_later (HBT.out) Y2.out) 6
            have y0 := blk_cell (blk_later (HBT.out) Y3.out) 0
            have c0 := blk_cell (blk_later (HBT.out) Y7.out) 0
            have c1 := blk_cell (blk_later (HBT.out) Y7.out) 1
            have c2 := blk_cell (blk_later (HBT.out) Y7.out) 2
            have c3 := blk_cell (blk_later (HBT.out) Y7.out) 3
            have c4 := blk_cell (blk_later (HBT.out) Y7.out) 4
            have c5 := blk_cell (blk_later (HBT.out) Y7.out) 5
            have c6 := blk_cell (blk_later (HBT.out) Y7.out) 6
            go_wp2_with fail
            refine (HTG.out wr (HP.out.later (HB3.out.trans (HBT.out.mono HB3.out.size))) (HMK.out.later HBT.out)).mono ?_
            rintro e w13 ⟨hres, hb13⟩
            have HB13 := Lib.hid (HBT.out.trans (hb13.mono HBT.out.size))
            clear hb13 p0 p1 p2 p3 e0 e1 e2 e3 e4 e5 e6 y0 c0 c1 c2 c3 c4 c5 c6
            have p0 := blk_cell (blk_later (HB13.out) Y1.out) 0
            have p1 := blk_cell (blk_later (HB13.out) Y1.out) 1
            have p2 := blk_cell (blk_later (HB13.out) Y1.out) 2
            have p3 := blk_cell (blk_later (HB13.out) Y1.out) 3
            have e0 := blk_cell (blk_later (HB13.out) Y2.out) 0
            have e1 := blk_cell (blk_later (HB13.out) Y2.out) 1
            have e2 := blk_cell (blk_later (HB13.out) Y2.out) 2
            have e3 := blk_cell (blk_later (HB13.out) Y2.out) 3
            have e4 := blk_cell (blk_later (HB13.out) Y2.out) 4
            have e5 := blk_cell (blk_later (HB13.out) Y2.out) 5
            have e6 := blk_cell (blk_later (HB13.out) Y2.out) 6
            have y0 := blk_cell (blk_later (HB13.out) Y3.out) 0
            have c0 := blk_cell (blk_later (HB13.out) Y7.out) 0
            have c1 := blk_cell (blk_later (HB13.out) Y7.out) 1
            have c2 := blk_cell (blk_later (HB13.out) Y7.out) 2
            have c3 := blk_cell (blk_later (HB13.out) Y7.out) 3
            have c4 := blk_cell (blk_later (HB13.out) Y7.out) 4
            have c5 := blk_cell (blk_later (HB13.out) Y7.out) 5
            have c6 := blk_cell (blk_later (HB13.out) Y7.out) 6
            rcases hres with ⟨ha, -⟩ | ⟨-, ha, rfl⟩ | ⟨-, ha, av, nv, rfl, hav, hnv⟩
            · rw [HIN.out] at ha
              cases ha
            · have hbe : agreeL p c = [] := List.eq_nil_iff_forall_not_mem.2 fun m hm => by
                have h := HSUB.out m hm
                rw [ha] at h
                cases h
              have HBE := Lib.hid hbe
              clear ha hbe
              go_wp2_with fail
              refine (HTG2.out w13 (HP.out.later (HB3.out.trans (HB13.out.mono HB3.out.size))) (HM7.out.later HB13.out)).mono ?_
              rintro e w14 ⟨hres, hb14⟩
              have HB14 := Lib.hid (HB13.out.trans (hb14.mono HB13.out.size))
              clear hb14 p0 p1 p2 p3 e0 e1 e2 e3 e4 e5 e6 y0 c0 c1 c2 c3 c4 c5 c6
              rcases hres with ⟨ha, -⟩ | ⟨-, -, rfl⟩ | ⟨-, ha, -⟩
              · rw [HIN.out] at ha
                cases ha
              · have hkz : k' = 0 := by rw [HNB.out, HBE.out]; rfl
                subst hkz
                go_wp2_with fail
                refine (awake_any2 (t := t) (blk_later ((HB3.out.trans (HB14.out.mono HB3.out.size))) HW.out)).mono ?_
                rintro e wz ⟨rfl, hbz⟩
                have hb99 := HB3.out.trans ((HB14.out.trans (hbz.mono (HB14.out).size)).mono HB3.out.size)
                clear hbz
                go_wp2_with fail
                go_ret
                exact ⟨rfl, hb99⟩
              · exact absurd HBE.out ha
            · have HAV := Lib.hid hav
              have HNV := Lib.hid hnv
              clear ha hav hnv
              go_wp2_with fail
              refine (HTG2.out w13 (HP.out.later (HB3.out.trans (HB13.out.mono HB3.out.size))) (HM7.out.later HB13.out)).mono ?_
              rintro e w14 ⟨hres, hb14⟩
              have HB14 := Lib.hid (HB13.out.trans (hb14.mono HB13.out.size))
              have HAV := Lib.hid (HAV.out.later hb14)
              have HNV := Lib.hid (HNV.out.later hb14)
              clear hb14 p0 p1 p2 p3 e0 e1 e2 e3 e4 e5 e6 y0 c0 c1 c2 c3 c4 c5 c6
              rcases hres with ⟨ha, -⟩ | ⟨-, ha, rfl⟩ | ⟨-, -, av2, nv2, rfl, hav2, hnv2⟩
              · rw [HIN.out] at ha
                cases ha
              · have hkz : k' = 0 := by rw [HNB.out, ha]; rfl
                subst hkz
                clear ha
                go_wp2_with fail
                refine (awake_any2 (t := t) (blk_later ((HB3.out.trans (HB14.out.mono HB3.out.size))) HW.out)).mono ?_
                rintro e wz ⟨rfl, hbz⟩
                have hb99 := HB3.out.trans ((HB14.out.trans (hbz.mono (HB14.out).size)).mono HB3.out.size)
                clear hbz
                go_wp2_with fail
                go_ret
                exact ⟨rfl, hb99⟩
              · have HAV2 := Lib.hid hav2
                have HNV2 := Lib.hid hnv2
                clear hav2 hnv2
                have hbl := HBL.out
                go_wp2_with fail
                refine (lpart_any _ _ av av2 w14 HAV.out HAV2.out (by rw [List.length_map]; have := must_len p b xl.toNat; omega) (by rw [List.length_map]; have := must_len p c xl.toNat; have := HLV.out; omega) (fun x hx => by
                  obtain ⟨j, hj, rfl⟩ := List.mem_map.1 hx
                  exact List.mem_map_of_mem (HMU.out j hj))).mono ?_
                rintro e w15 ⟨rfl, hb15⟩
                have HB15 := Lib.hid (HB14.out.trans (hb15.mono HB14.out.size))
                have HNV := Lib.hid (HNV.out.later hb15)
                have HNV2 := Lib.hid (HNV2.out.later hb15)
                clear hb15
                go_wp2_with fail
                refine (lpart_any _ _ nv2 nv w15 HNV2.out HNV.out (by rw [List.length_map]; have := may_len p c xl.toNat; have := HLV.out; omega) (by rw [List.length_map]; have := may_len p b xl.toNat; omega) (fun x hx => by
                  obtain ⟨j, hj, rfl⟩ := List.mem_map.1 hx
                  exact List.mem_map_of_mem (HMA.out j hj))).mono ?_
                rintro e w16 ⟨rfl, hb16⟩
                have HB16 := Lib.hid (HB15.out.trans (hb16.mono HB15.out.size))
                clear hb16
                go_wp2_with fail
                refine (awake_any2 (t := t) (blk_later ((HB3.out.trans (HB16.out.mono HB3.out.size))) HW.out)).mono ?_
                rintro e wz ⟨rfl, hbz⟩
                have hb99 := HB3.out.trans ((HB16.out.trans (hbz.mono (HB16.out).size)).mono HB3.out.size)
                clear hbz
                go_wp2_with fail
                go_ret
                exact ⟨rfl, hb99⟩
    | ret => exact hR.elim
    | exit id => exact hR.elim
    | goto t => exact hR.elim
    | panic ch => exact hR.elim
    | outgrown => exact hR.elim
  case reg =>
    have s1 : w1.drew.cell? ⟨w.heap.size + 1, 6, none⟩ = some (.slice a3 N3 cap3) := blk_cell (blk_drew X2.out) 6
    have s2 : w1.drew.cell? ⟨w.heap.size + 2, 0, none⟩ = some (.int .i64 xl) := blk_cell (blk_drew X3.out) 0
    have s3 : w1.drew.cell? ⟨w.heap.size + 2, 1, none⟩ = some (.bool xs) := blk_cell (blk_drew X3.out) 1
    refine wp_region_held_drew (S := fun u => u.cell? ⟨w.heap.size + 1, 6, none⟩ = some (.slice a3 N3 cap3) ∧ u.cell? ⟨w.heap.size + 2, 0, none⟩ = some (.int .i64 xl) ∧ u.cell? ⟨w.heap.size + 2, 1, none⟩ = some (.bool xs)) (by kernel_rfl) ⟨s1, s2, s3⟩ (fun hHeld => ?_)
    obtain ⟨wd, hwd⟩ : ∃ wd, wd = w1.drew := ⟨_, rfl⟩
    have HWD : Hid (wd.heap = w1.heap ∧ Below Z w1 wd) := Lib.hid (by rw [hwd]; exact ⟨rfl, Below.drew (Below.refl _ _)⟩)
    have hzd : wd.heap.size = Z := by rw [HWD.out.1, HZ.out]
    rw [← hwd] at hHeld s1 s2 s3 ⊢
    have HS1 := Lib.hid s1
    have HS2 := Lib.hid s2
    have HS3 := Lib.hid s3
    have HZD := Lib.hid hzd
    clear hwd s1 s2 s3 hzd
    refine wpAnyH_take (i := 1) (v := ?_) rfl (by kernel_rfl) (by kernel_rfl) (by kernel_rfl) (fun _ _ _ h => h) (Or.inl ⟨by rfl, ?_⟩) (by assumption) ?_
    rotate_left
    · (intro w hSw; (try dsimp only at hSw); go_simp; (try with_reducible rfl))
    (try simp only [Act.put, List.setIfInBounds_toArray, List.set_cons_zero, List.set_cons_succ])
    refine wpAnyH_take (i := 2) (v := ?_) rfl (by kernel_rfl) (by kernel_rfl) (by kernel_rfl) (fun _ _ _ h => h) (Or.inl ⟨by rfl, ?_⟩) (by assumption) ?_
    rotate_left
    · (intro w hSw; (try dsimp only at hSw); go_simp; (try with_reducible rfl))
    (try simp only [Act.put, List.setIfInBounds_toArray, List.set_cons_zero, List.set_cons_succ])
    refine wpAnyH_take (i := 4) (v := ?_) rfl (by kernel_rfl) (by kernel_rfl) (by kernel_rfl) (fun _ _ _ h => h) (Or.inl ⟨by rfl, ?_⟩) (by assumption) ?_
    rotate_left
    · (intro w hSw; (try dsimp only at hSw); go_simp; (try with_reducible rfl))
    (try simp only [Act.put, List.setIfInBounds_toArray, List.set_cons_zero, List.set_cons_succ])
    obtain ⟨ei, hi1, hi2, hi3, hi4⟩ := elemMrk
    have HI := Lib.hid (And.intro hi1 (And.intro hi2 (And.intro hi3 hi4)))
    clear hi1 hi2 hi3 hi4
    refine wpAnyH_ready (rs := [0, 5]) (by kernel_rfl) (by simp) ?_
    refine AllReadyH.cons rfl (fun K hK => ?_) ?_
    · skip
      go_simp
      obtain ⟨u1, hu1⟩ : ∃ v, v = (wd).alloc (.cells #[] 58) := ⟨_, rfl⟩
      have hbu : Below (wd).heap.size wd u1 := by rw [hu1]; exact (Below.refl _ _).alloc (Nat.le_refl _) _
      have hzu : Z ≤ (wd).heap.size := by have := (Below.refl Z wd).size; have := HZD.out; omega
      have hb9 : Below Z wd u1 := (Below.refl Z wd).trans (hbu.mono hzu)
      have HSZ := Lib.hid (show (u1).heap.size = (wd).heap.size + 1 by rw [hu1]; simp)
      have r9 : (u1).ownsRow Z 58 2 (.slice (some ⟨wd.heap.size, 0, none⟩) 0 0) 0 [] := by rw [hu1]; exact World.ownsRow_lit _ #[] 0 hzu (by simp [maxLen]) rfl
      rw [← hu1]
      have HB := Lib.hid hb9
      have HU1 := Lib.hid hbu
      have R0 := Lib.hid r9
      clear hu1 hbu hzu hb9 r9
      refine hK.out _ _ ?_ (fun hNew => ?_)
      · exact ⟨(World.cell?_of_block (HB.out.block _ (show w.heap.size + 1 < Z by omega))).trans HS1.out, (World.cell?_of_block (HB.out.block _ (show w.heap.size + 2 < Z by omega))).trans HS2.out, (World.cell?_of_block (HB.out.block _ (show w.heap.size + 2 < Z by omega))).trans HS3.out⟩
      clear hK K hHeld
      have hHeld := hNew
      clear hNew
      (try simp only [Act.put, List.setIfInBounds_toArray, List.set_cons_zero, List.set_cons_succ])
      refine wpAnyH_ready (rs := [3, 5]) (by kernel_rfl) (by simp) ?_
      refine AllReadyH.cons rfl (fun K hK => ?_) ?_
      · skip
        have hmk : RowsAt 2 mrkV w.heap.size u1 (.slice a3 N3 cap3) b.marks := by
          obtain ⟨mv, e, hm⟩ := HK.out
          cases e
          exact hm.same fun k hk => (HB.out.block k (by omega)).trans ((HWD.out.2.block k (by omega)).trans (HB1.out.block k hk))
        obtain ⟨hi1, hi2, hi3, hi4⟩ := HI.out
        obtain ⟨v3, u2, hr3, hown3, hg3⟩ := run_append_rows (P := Tryz.prog) (enc := mrkV) u1 Z 28 28 58 ei _ 2 16 undMrks hi1 hi2 hi3 hi4 rfl (by decide) _ R0.out (fun _ => rfl) (fun x v hv => by simp at hv; rcases hv with rfl | rfl <;> rfl) hmk (by have := HLM.out; simp only [maxLen]; omega) (by have := HLM.out; omega) (by have := HB.out.size; have := HZD.out; omega)
        have hb3 : Below Z u1 u2 := below_row R0.out (by have := HB.out.size; have := HZD.out; omega) hg3
        have HB := Lib.hid (HB.out.trans hb3)
        rw [← HN3.out] at hown3
        have R3 := Lib.hid hown3
        have HG := Lib.hid hg3
        rw [if_pos (by kernel_rfl)]
        refine wp_append_rows (.tmp 20) (.tmp 22) 28 rfl rfl rfl hr3 ?_
        clear hmk hi1 hi2 hi3 hi4 hr3 hown3 hg3 hb3 R0
        (try simp only [Act.put, List.setIfInBounds_toArray, List.set_cons_zero, List.set_cons_succ])
        refine hK.out _ _ ?_ (fun hNew => ?_)
        · exact ⟨(World.cell?_of_block (HB.out.block _ (show w.heap.size + 1 < Z by omega))).trans HS1.out, (World.cell?_of_block (HB.out.block _ (show w.heap.size + 2 < Z by omega))).trans HS2.out, (World.cell?_of_block (HB.out.block _ (show w.heap.size + 2 < Z by omega))).trans HS3.out⟩
        clear hK K hHeld
        have hHeld := hNew
        clear hNew
        (try simp only [Act.put, List.setIfInBounds_toArray, List.set_cons_zero, List.set_cons_succ])
        refine wpAnyH_ready (rs := [5]) (by kernel_rfl) (by simp) ?_
        refine AllReadyH.cons rfl (fun K hK => ?_) AllReadyH.nil
        go_simp
        obtain ⟨u3, hu3⟩ : ∃ v, v = (u2).alloc (.cells #[.int .i64 xl, .bool xs] 58) := ⟨_, rfl⟩
        have hbu : Below (u2).heap.size u2 u3 := by rw [hu3]; exact (Below.refl _ _).alloc (Nat.le_refl _) _
        have hzu : Z ≤ (u2).heap.size := by have := HB.out.size; have := HZD.out; omega
        have hc5 : (u3).heap[(u2).heap.size]? = some (.cells #[.int .i64 xl, .bool xs] 58 (0, 0)) := by rw [hu3]; exact World.alloc_heap_new _ _
        rw [← hu3]
        have HB := Lib.hid (HB.out.trans (hbu.mono hzu))
        have C5 := Lib.hid hc5
        have R3 := Lib.hid (row_later R3.out hbu)
        clear hu3 hbu hzu hc5
        refine hK.out _ _ ?_ (fun hNew => ?_)
        · exact ⟨(World.cell?_of_block (HB.out.block _ (show w.heap.size + 1 < Z by omega))).trans HS1.out, (World.cell?_of_block (HB.out.block _ (show w.heap.size + 2 < Z by omega))).trans HS2.out, (World.cell?_of_block (HB.out.block _ (show w.heap.size + 2 < Z by omega))).trans HS3.out⟩
        clear hK K hHeld
        have hHeld := hNew
        clear hNew
        (try simp only [Act.put, List.setIfInBounds_toArray, List.set_cons_zero, List.set_cons_succ])
        refine wpAnyH_ready (rs := [6]) (by kernel_rfl) (by simp) ?_
        refine AllReadyH.cons rfl (fun K hK => ?_) AllReadyH.nil
        obtain ⟨hi1, hi2, hi3, hi4⟩ := HI.out
        have hn3 : N3 ≤ 8796093022207 := by have := HLM.out; have := HN3.out; omega
        obtain ⟨v6, u4, hr6, hown6, hg6, -⟩ := run_append_own (P := Tryz.prog) u3 Z 28 28 58 ei _ 2 16 undMrks hi1 hi2 hi3 hi4 rfl (by decide) v3 N3 (b.marks.flatMap mrkV) R3.out ⟨u2.heap.size, 0, none⟩ 1 1 [.int .i64 xl, .bool xs] rfl
          (fun j v hju => by
            rw [add_offi]
            exact (blk_cell C5.out j).trans (by simpa using hju)) (fun v hv => by simp at hv; rcases hv with rfl | rfl <;> rfl) (by simp only [maxLen]; omega) (by omega) (by have := HB.out.size; have := HZD.out; omega)
        obtain ⟨g9, cap9, rfl, -⟩ := row_formH hown6 (by omega)
        have hb6 : Below Z u3 u4 := below_row R3.out (by have := HB.out.size; have := HZD.out; omega) hg6
        have HB := Lib.hid (HB.out.trans hb6)
        have R6 := Lib.hid hown6
        rw [if_pos (by kernel_rfl)]
        refine wp_append_rows (.tmp 23) (.tmp 25) 28 rfl rfl rfl hr6 ?_
        clear hi1 hi2 hi3 hi4 hr6 hown6 hg6 hb6 R3 C5
        (try simp only [Act.put, List.setIfInBounds_toArray, List.set_cons_zero, List.set_cons_succ])
        refine hK.out _ _ ?_ (fun hNew => ?_)
        · exact ⟨(World.cell?_of_block (HB.out.block _ (show w.heap.size + 1 < Z by omega))).trans HS1.out, (World.cell?_of_block (HB.out.block _ (show w.heap.size + 2 < Z by omega))).trans HS2.out, (World.cell?_of_block (HB.out.block _ (show w.heap.size + 2 < Z by omega))).trans HS3.out⟩
        clear hK K hHeld
        have hHeld := hNew
        clear hNew
        (try simp only [Act.put, List.setIfInBounds_toArray, List.set_cons_zero, List.set_cons_succ])
        refine wpAnyH_take (i := 7) (v := ?_) rfl (by kernel_rfl) (by kernel_rfl) (by kernel_rfl) (fun _ _ _ h => h) (Or.inl ⟨by rfl, ?_⟩) (by assumption) ?_
        rotate_left
        · (intro w hSw; (try dsimp only at hSw); go_simp; (try with_reducible rfl))
        (try simp only [Act.put, List.setIfInBounds_toArray, List.set_cons_zero, List.set_cons_succ])
        refine wpAnyH_ready (rs := [8]) (by kernel_rfl) (by simp) ?_
        refine AllReadyH.cons rfl (fun K hK => ?_) AllReadyH.nil
        have x4 : (u4).heap[w.heap.size + 3]? = some (.cells #[.int .i64 b.leaves, .int .i64 b.chain, .int .i64 b.wlo, .int .i64 b.whi, .int .i64 b.hlo, .int .i64 b.hhi, .slice a3 N3 cap3] 30 (0, 0)) := (HB.out.block _ (by omega)).trans ((HWD.out.2.block _ (by omega)).trans X4.out)
        have c6 := blk_cell x4 6
        have f6 := blk_free x4 6
        have X6 := Lib.hid x4
        clear x4
        go_simp
        refine hK.out _ _ ?_ (fun hNew => ?_)
        · exact ⟨(World.cell?_of_block (heap_setCell_past _ _ _ _ (show w.heap.size + 1 ≠ w.heap.size + 1 + 1 + 1 by omega))).trans ((World.cell?_of_block (HB.out.block _ (show w.heap.size + 1 < Z by omega))).trans HS1.out), (World.cell?_of_block (heap_setCell_past _ _ _ _ (show w.heap.size + 2 ≠ w.heap.size + 1 + 1 + 1 by omega))).trans ((World.cell?_of_block (HB.out.block _ (show w.heap.size + 2 < Z by omega))).trans HS2.out), (World.cell?_of_block (heap_setCell_past _ _ _ _ (show w.heap.size + 2 ≠ w.heap.size + 1 + 1 + 1 by omega))).trans ((World.cell?_of_block (HB.out.block _ (show w.heap.size + 2 < Z by omega))).trans HS3.out)⟩
        clear hK K hHeld hNew c6 f6
        (try simp only [Act.put, List.setIfInBounds_toArray, List.set_cons_zero, List.set_cons_succ])
        refine wpAnyH_done (by kernel_rfl) ?_ _
        have hsz := HB.out.size
        have hsz0 := HB1.out.size
        have hzd := HZD.out
        have hzz := HZ.out
        have hbw : Below w.heap.size w u4 := HB1.out.trans ((HWD.out.2.trans HB.out).mono (by omega))
        have hW1 : Below w.heap.size w ((u4).setCell ⟨w.heap.size + 3, 6, none⟩ (.slice (some ⟨g9, 0, none⟩) (N3 + 1) cap9)) := hbw.setCell (show w.heap.size ≤ w.heap.size + 3 by omega) _
        have hW2 : ∀ k, k < Z → k ≠ w.heap.size + 3 → ((u4).setCell ⟨w.heap.size + 3, 6, none⟩ (.slice (some ⟨g9, 0, none⟩) (N3 + 1) cap9)).heap[k]? = w1.heap[k]? := fun k hk hne => (heap_setCell_past _ _ _ _ hne).trans ((HB.out.block k hk).trans (HWD.out.2.block k hk))
        have hW3 := blk_set X6.out 6 (.slice (some ⟨g9, 0, none⟩) (N3 + 1) cap9)
        have hW4 : ((u4).setCell ⟨w.heap.size + 3, 6, none⟩ (.slice (some ⟨g9, 0, none⟩) (N3 + 1) cap9)).ownsRow Z 58 2 (.slice (some ⟨g9, 0, none⟩) (N3 + 1) cap9) (b.marks ++ [(xl, xs)]).length ((b.marks ++ [(xl, xs)]).flatMap mrkV) := by
          have e1 : (b.marks ++ [(xl, xs)]).length = N3 + 1 := by rw [List.length_append, ← HN3.out]; rfl
          have e2 : (b.marks ++ [(xl, xs)]).flatMap mrkV = b.marks.flatMap mrkV ++ [.int .i64 xl, .bool xs] := by simp
          rw [e1, e2]
          exact ownsRow_setCell_below R6.out (show w.heap.size + 3 < Z by omega) _
        exact ⟨_, _, _, _, _, _, _, _, rfl, hW1, hW2, _, _, hW3, rows_of_own (enc := mrkV) (fun _ => rfl) hW4⟩
      · refine AllReadyH.cons rfl (fun K hK => ?_) AllReadyH.nil
        go_simp
        obtain ⟨u2, hu2⟩ : ∃ v, v = (u1).alloc (.cells #[.int .i64 xl, .bool xs] 58) := ⟨_, rfl⟩
        have hbu : Below (u1).heap.size u1 u2 := by rw [hu2]; exact (Below.refl _ _).alloc (Nat.le_refl _) _
        have hzu : Z ≤ (u1).heap.size := by have := HB.out.size; have := HZD.out; omega
        have hc5 : (u2).heap[(u1).heap.size]? = some (.cells #[.int .i64 xl, .bool xs] 58 (0, 0)) := by rw [hu2]; exact World.alloc_heap_new _ _
        rw [← hu2]
        have HB := Lib.hid (HB.out.trans (hbu.mono hzu))
        have C5 := Lib.hid hc5
        have R0 := Lib.hid (row_later R0.out hbu)
        clear hu2 hbu hzu hc5
        refine hK.out _ _ ?_ (fun hNew => ?_)
        · exact ⟨(World.cell?_of_block (HB.out.block _ (show w.heap.size + 1 < Z by omega))).trans HS1.out, (World.cell?_of_block (HB.out.block _ (show w.heap.size + 2 < Z by omega))).trans HS2.out, (World.cell?_of_block (HB.out.block _ (show w.heap.size + 2 < Z by omega))).trans HS3.out⟩
        clear hK K hHeld
        have hHeld := hNew
        clear hNew
        (try simp only [Act.put, List.setIfInBounds_toArray, List.set_cons_zero, List.set_cons_succ])
        refine wpAnyH_ready (rs := [3]) (by kernel_rfl) (by simp) ?_
        refine AllReadyH.cons rfl (fun K hK => ?_) AllReadyH.nil
        have hmk : RowsAt 2 mrkV w.heap.size u2 (.slice a3 N3 cap3) b.marks := by
          obtain ⟨mv, e, hm⟩ := HK.out
          cases e
          exact hm.same fun k hk => (HB.out.block k (by omega)).trans ((HWD.out.2.block k (by omega)).trans (HB1.out.block k hk))
        obtain ⟨hi1, hi2, hi3, hi4⟩ := HI.out
        obtain ⟨v3, u3, hr3, hown3, hg3⟩ := run_append_rows (P := Tryz.prog) (enc := mrkV) u2 Z 28 28 58 ei _ 2 16 undMrks hi1 hi2 hi3 hi4 rfl (by decide) _ R0.out (fun _ => rfl) (fun x v hv => by simp at hv; rcases hv with rfl | rfl <;> rfl) hmk (by have := HLM.out; simp only [maxLen]; omega) (by have := HLM.out; omega) (by have := HB.out.size; have := HZD.out; omega)
        have hb3 : Below Z u2 u3 := below_row R0.out (by have := HB.out.size; have := HZD.out; omega) hg3
        have HB := Lib.hid (HB.out.trans hb3)
        rw [← HN3.out] at hown3
        have R3 := Lib.hid hown3
        have HG := Lib.hid hg3
        rw [if_pos (by kernel_rfl)]
        refine wp_append_rows (.tmp 20) (.tmp 22) 28 rfl rfl rfl hr3 ?_
        clear hmk hi1 hi2 hi3 hi4 hr3 hown3 hg3 hb3 R0
        (try simp only [Act.put, List.setIfInBounds_toArray, List.set_cons_zero, List.set_cons_succ])
        refine hK.out _ _ ?_ (fun hNew => ?_)
        · exact ⟨(World.cell?_of_block (HB.out.block _ (show w.heap.size + 1 < Z by omega))).trans HS1.out, (World.cell?_of_block (HB.out.block _ (show w.heap.size + 2 < Z by omega))).trans HS2.out, (World.cell?_of_block (HB.out.block _ (show w.heap.size + 2 < Z by omega))).trans HS3.out⟩
        clear hK K hHeld
        have hHeld := hNew
        clear hNew
        (try simp only [Act.put, List.setIfInBounds_toArray, List.set_cons_zero, List.set_cons_succ])
        have C5 := Lib.hid ((HG.out.block _ (blk_lt C5.out) (fun e => by have h := Option.some.inj e; have := HSZ.out; omega)).trans C5.out)
        refine wpAnyH_ready (rs := [6]) (by kernel_rfl) (by simp) ?_
        refine AllReadyH.cons rfl (fun K hK => ?_) AllReadyH.nil
        obtain ⟨hi1, hi2, hi3, hi4⟩ := HI.out
        have hn3 : N3 ≤ 8796093022207 := by have := HLM.out; have := HN3.out; omega
        obtain ⟨v6, u4, hr6, hown6, hg6, -⟩ := run_append_own (P := Tryz.prog) u3 Z 28 28 58 ei _ 2 16 undMrks hi1 hi2 hi3 hi4 rfl (by decide) v3 N3 (b.marks.flatMap mrkV) R3.out ⟨u1.heap.size, 0, none⟩ 1 1 [.int .i64 xl, .bool xs] rfl
          (fun j v hju => by
            rw [add_offi]
            exact (blk_cell C5.out j).trans (by simpa using hju)) (fun v hv => by simp at hv; rcases hv with rfl | rfl <;> rfl) (by simp only [maxLen]; omega) (by omega) (by have := HB.out.size; have := HZD.out; omega)
        obtain ⟨g9, cap9, rfl, -⟩ := row_formH hown6 (by omega)
        have hb6 : Below Z u3 u4 := below_row R3.out (by have := HB.out.size; have := HZD.out; omega) hg6
        have HB := Lib.hid (HB.out.trans hb6)
        have R6 := Lib.hid hown6
        rw [if_pos (by kernel_rfl)]
        refine wp_append_rows (.tmp 23) (.tmp 25) 28 rfl rfl rfl hr6 ?_
        clear hi1 hi2 hi3 hi4 hr6 hown6 hg6 hb6 R3 C5
        (try simp only [Act.put, List.setIfInBounds_toArray, List.set_cons_zero, List.set_cons_succ])
        refine hK.out _ _ ?_ (fun hNew => ?_)
        · exact ⟨(World.cell?_of_block (HB.out.block _ (show w.heap.size + 1 < Z by omega))).trans HS1.out, (World.cell?_of_block (HB.out.block _ (show w.heap.size + 2 < Z by omega))).trans HS2.out, (World.cell?_of_block (HB.out.block _ (show w.heap.size + 2 < Z by omega))).trans HS3.out⟩
        clear hK K hHeld
        have hHeld := hNew
        clear hNew
        (try simp only [Act.put, List.setIfInBounds_toArray, List.set_cons_zero, List.set_cons_succ])
        refine wpAnyH_take (i := 7) (v := ?_) rfl (by kernel_rfl) (by kernel_rfl) (by kernel_rfl) (fun _ _ _ h => h) (Or.inl ⟨by rfl, ?_⟩) (by assumption) ?_
        rotate_left
        · (intro w hSw; (try dsimp only at hSw); go_simp; (try with_reducible rfl))
        (try simp only [Act.put, List.setIfInBounds_toArray, List.set_cons_zero, List.set_cons_succ])
        refine wpAnyH_ready (rs := [8]) (by kernel_rfl) (by simp) ?_
        refine AllReadyH.cons rfl (fun K hK => ?_) AllReadyH.nil
        have x4 : (u4).heap[w.heap.size + 3]? = some (.cells #[.int .i64 b.leaves, .int .i64 b.chain, .int .i64 b.wlo, .int .i64 b.whi, .int .i64 b.hlo, .int .i64 b.hhi, .slice a3 N3 cap3] 30 (0, 0)) := (HB.out.block _ (by omega)).trans ((HWD.out.2.block _ (by omega)).trans X4.out)
        have c6 := blk_cell x4 6
        have f6 := blk_free x4 6
        have X6 := Lib.hid x4
        clear x4
        go_simp
        refine hK.out _ _ ?_ (fun hNew => ?_)
        · exact ⟨(World.cell?_of_block (heap_setCell_past _ _ _ _ (show w.heap.size + 1 ≠ w.heap.size + 1 + 1 + 1 by omega))).trans ((World.cell?_of_block (HB.out.block _ (show w.heap.size + 1 < Z by omega))).trans HS1.out), (World.cell?_of_block (heap_setCell_past _ _ _ _ (show w.heap.size + 2 ≠ w.heap.size + 1 + 1 + 1 by omega))).trans ((World.cell?_of_block (HB.out.block _ (show w.heap.size + 2 < Z by omega))).trans HS2.out), (World.cell?_of_block (heap_setCell_past _ _ _ _ (show w.heap.size + 2 ≠ w.heap.size + 1 + 1 + 1 by omega))).trans ((World.cell?_of_block (HB.out.block _ (show w.heap.size + 2 < Z by omega))).trans HS3.out)⟩
        clear hK K hHeld hNew c6 f6
        (try simp only [Act.put, List.setIfInBounds_toArray, List.set_cons_zero, List.set_cons_succ])
        refine wpAnyH_done (by kernel_rfl) ?_ _
        have hsz := HB.out.size
        have hsz0 := HB1.out.size
        have hzd := HZD.out
        have hzz := HZ.out
        have hbw : Below w.heap.size w u4 := HB1.out.trans ((HWD.out.2.trans HB.out).mono (by omega))
        have hW1 : Below w.heap.size w ((u4).setCell ⟨w.heap.size + 3, 6, none⟩ (.slice (some ⟨g9, 0, none⟩) (N3 + 1) cap9)) := hbw.setCell (show w.heap.size ≤ w.heap.size + 3 by omega) _
        have hW2 : ∀ k, k < Z → k ≠ w.heap.size + 3 → ((u4).setCell ⟨w.heap.size + 3, 6, none⟩ (.slice (some ⟨g9, 0, none⟩) (N3 + 1) cap9)).heap[k]? = w1.heap[k]? := fun k hk hne => (heap_setCell_past _ _ _ _ hne).trans ((HB.out.block k hk).trans (HWD.out.2.block k hk))
        have hW3 := blk_set X6.out 6 (.slice (some ⟨g9, 0, none⟩) (N3 + 1) cap9)
        have hW4 : ((u4).setCell ⟨w.heap.size + 3, 6, none⟩ (.slice (some ⟨g9, 0, none⟩) (N3 + 1) cap9)).ownsRow Z 58 2 (.slice (some ⟨g9, 0, none⟩) (N3 + 1) cap9) (b.marks ++ [(xl, xs)]).length ((b.marks ++ [(xl, xs)]).flatMap mrkV) := by
          have e1 : (b.marks ++ [(xl, xs)]).length = N3 + 1 := by rw [List.length_append, ← HN3.out]; rfl
          have e2 : (b.marks ++ [(xl, xs)]).flatMap mrkV = b.marks.flatMap mrkV ++ [.int .i64 xl, .bool xs] := by simp
          rw [e1, e2]
          exact ownsRow_setCell_below R6.out (show w.heap.size + 3 < Z by omega) _
        exact ⟨_, _, _, _, _, _, _, _, rfl, hW1, hW2, _, _, hW3, rows_of_own (enc := mrkV) (fun _ => rfl) hW4⟩
    · refine AllReadyH.cons rfl (fun K hK => ?_) AllReadyH.nil
      have HB := Lib.hid (Below.refl Z wd)
      have R0 := Lib.hid (trivial : True)
      go_simp
      obtain ⟨u1, hu1⟩ : ∃ v, v = (wd).alloc (.cells #[.int .i64 xl, .bool xs] 58) := ⟨_, rfl⟩
      have hbu : Below (wd).heap.size wd u1 := by rw [hu1]; exact (Below.refl _ _).alloc (Nat.le_refl _) _
      have hzu : Z ≤ (wd).heap.size := by have := HB.out.size; have := HZD.out; omega
      have hc5 : (u1).heap[(wd).heap.size]? = some (.cells #[.int .i64 xl, .bool xs] 58 (0, 0)) := by rw [hu1]; exact World.alloc_heap_new _ _
      have HS5 := Lib.hid (show (u1).heap.size = (wd).heap.size + 1 by rw [hu1]; simp)
      rw [← hu1]
      have HB := Lib.hid (HB.out.trans (hbu.mono hzu))
      have C5 := Lib.hid hc5
      clear hu1 hbu hzu hc5
      refine hK.out _ _ ?_ (fun hNew => ?_)
      · exact ⟨(World.cell?_of_block (HB.out.block _ (show w.heap.size + 1 < Z by omega))).trans HS1.out, (World.cell?_of_block (HB.out.block _ (show w.heap.size + 2 < Z by omega))).trans HS2.out, (World.cell?_of_block (HB.out.block _ (show w.heap.size + 2 < Z by omega))).trans HS3.out⟩
      clear hK K hHeld
      have hHeld := hNew
      clear hNew
      (try simp only [Act.put, List.setIfInBounds_toArray, List.set_cons_zero, List.set_cons_succ])
      refine wpAnyH_ready (rs := [0]) (by kernel_rfl) (by simp) ?_
      refine AllReadyH.cons rfl (fun K hK => ?_) AllReadyH.nil
      go_simp
      obtain ⟨u2, hu2⟩ : ∃ v, v = (u1).alloc (.cells #[] 58) := ⟨_, rfl⟩
      have hbu : Below (u1).heap.size u1 u2 := by rw [hu2]; exact (Below.refl _ _).alloc (Nat.le_refl _) _
      have hzu : Z ≤ (u1).heap.size := by have := (HB.out).size; have := HZD.out; omega
      have hb9 : Below Z wd u2 := (HB.out).trans (hbu.mono hzu)
      have HSZ := Lib.hid (show (u2).heap.size = (u1).heap.size + 1 by rw [hu2]; simp)
      have r9 : (u2).ownsRow Z 58 2 (.slice (some ⟨u1.heap.size, 0, none⟩) 0 0) 0 [] := by rw [hu2]; exact World.ownsRow_lit _ #[] 0 hzu (by simp [maxLen]) rfl
      rw [← hu2]
      have HB := Lib.hid hb9
      have HU1 := Lib.hid hbu
      have R0 := Lib.hid r9
      clear hu2 hbu hzu hb9 r9
      refine hK.out _ _ ?_ (fun hNew => ?_)
      · exact ⟨(World.cell?_of_block (HB.out.block _ (show w.heap.size + 1 < Z by omega))).trans HS1.out, (World.cell?_of_block (HB.out.block _ (show w.heap.size + 2 < Z by omega))).trans HS2.out, (World.cell?_of_block (HB.out.block _ (show w.heap.size + 2 < Z by omega))).trans HS3.out⟩
      clear hK K hHeld
      have hHeld := hNew
      clear hNew
      (try simp only [Act.put, List.setIfInBounds_toArray, List.set_cons_zero, List.set_cons_succ])
      have C5 := Lib.hid (blk_later (show Below u1.heap.size u1 u2 from HU1.out) C5.out)
      refine wpAnyH_ready (rs := [3]) (by kernel_rfl) (by simp) ?_
      refine AllReadyH.cons rfl (fun K hK => ?_) AllReadyH.nil
      have hmk : RowsAt 2 mrkV w.heap.size u2 (.slice a3 N3 cap3) b.marks := by
        obtain ⟨mv, e, hm⟩ := HK.out
        cases e
        exact hm.same fun k hk => (HB.out.block k (by omega)).trans ((HWD.out.2.block k (by omega)).trans (HB1.out.block k hk))
      obtain ⟨hi1, hi2, hi3, hi4⟩ := HI.out
      obtain ⟨v3, u3, hr3, hown3, hg3⟩ := run_append_rows (P := Tryz.prog) (enc := mrkV) u2 Z 28 28 58 ei _ 2 16 undMrks hi1 hi2 hi3 hi4 rfl (by decide) _ R0.out (fun _ => rfl) (fun x v hv => by simp at hv; rcases hv with rfl | rfl <;> rfl) hmk (by have := HLM.out; simp only [maxLen]; omega) (by have := HLM.out; omega) (by have := HB.out.size; have := HZD.out; omega)
      have hb3 : Below Z u2 u3 := below_row R0.out (by have := HB.out.size; have := HZD.out; omega) hg3
      have HB := Lib.hid (HB.out.trans hb3)
      rw [← HN3.out] at hown3
      have R3 := Lib.hid hown3
      have HG := Lib.hid hg3
      rw [if_pos (by kernel_rfl)]
      refine wp_append_rows (.tmp 20) (.tmp 22) 28 rfl rfl rfl hr3 ?_
      clear hmk hi1 hi2 hi3 hi4 hr3 hown3 hg3 hb3 R0
      (try simp only [Act.put, List.setIfInBounds_toArray, List.set_cons_zero, List.set_cons_succ])
      refine hK.out _ _ ?_ (fun hNew => ?_)
      · exact ⟨(World.cell?_of_block (HB.out.block _ (show w.heap.size + 1 < Z by omega))).trans HS1.out, (World.cell?_of_block (HB.out.block _ (show w.heap.size + 2 < Z by omega))).trans HS2.out, (World.cell?_of_block (HB.out.block _ (show w.heap.size + 2 < Z by omega))).trans HS3.out⟩
      clear hK K hHeld
      have hHeld := hNew
      clear hNew
      (try simp only [Act.put, List.setIfInBounds_toArray, List.set_cons_zero, List.set_cons_succ])
      have C5 := Lib.hid ((HG.out.block _ (blk_lt C5.out) (fun e => by have h := Option.some.inj e; have := HS5.out; omega)).trans C5.out)
      refine wpAnyH_ready (rs := [6]) (by kernel_rfl) (by simp) ?_
      refine AllReadyH.cons rfl (fun K hK => ?_) AllReadyH.nil
      obtain ⟨hi1, hi2, hi3, hi4⟩ := HI.out
      have hn3 : N3 ≤ 8796093022207 := by have := HLM.out; have := HN3.out; omega
      obtain ⟨v6, u4, hr6, hown6, hg6, -⟩ := run_append_own (P := Tryz.prog) u3 Z 28 28 58 ei _ 2 16 undMrks hi1 hi2 hi3 hi4 rfl (by decide) v3 N3 (b.marks.flatMap mrkV) R3.out ⟨wd.heap.size, 0, none⟩ 1 1 [.int .i64 xl, .bool xs] rfl
        (fun j v hju => by
          rw [add_offi]
          exact (blk_cell C5.out j).trans (by simpa using hju)) (fun v hv => by simp at hv; rcases hv with rfl | rfl <;> rfl) (by simp only [maxLen]; omega) (by omega) (by have := HB.out.size; have := HZD.out; omega)
      obtain ⟨g9, cap9, rfl, -⟩ := row_formH hown6 (by omega)
      have hb6 : Below Z u3 u4 := below_row R3.out (by have := HB.out.size; have := HZD.out; omega) hg6
      have HB := Lib.hid (HB.out.trans hb6)
      have R6 := Lib.hid hown6
      rw [if_pos (by kernel_rfl)]
      refine wp_append_rows (.tmp 23) (.tmp 25) 28 rfl rfl rfl hr6 ?_
      clear hi1 hi2 hi3 hi4 hr6 hown6 hg6 hb6 R3 C5
      (try simp only [Act.put, List.setIfInBounds_toArray, List.set_cons_zero, List.set_cons_succ])
      refine hK.out _ _ ?_ (fun hNew => ?_)
      · exact ⟨(World.cell?_of_block (HB.out.block _ (show w.heap.size + 1 < Z by omega))).trans HS1.out, (World.cell?_of_block (HB.out.block _ (show w.heap.size + 2 < Z by omega))).trans HS2.out, (World.cell?_of_block (HB.out.block _ (show w.heap.size + 2 < Z by omega))).trans HS3.out⟩
      clear hK K hHeld
      have hHeld := hNew
      clear hNew
      (try simp only [Act.put, List.setIfInBounds_toArray, List.set_cons_zero, List.set_cons_succ])
      refine wpAnyH_take (i := 7) (v := ?_) rfl (by kernel_rfl) (by kernel_rfl) (by kernel_rfl) (fun _ _ _ h => h) (Or.inl ⟨by rfl, ?_⟩) (by assumption) ?_
      rotate_left
      · (intro w hSw; (try dsimp only at hSw); go_simp; (try with_reducible rfl))
      (try simp only [Act.put, List.setIfInBounds_toArray, List.set_cons_zero, List.set_cons_succ])
      refine wpAnyH_ready (rs := [8]) (by kernel_rfl) (by simp) ?_
      refine AllReadyH.cons rfl (fun K hK => ?_) AllReadyH.nil
      have x4 : (u4).heap[w.heap.size + 3]? = some (.cells #[.int .i64 b.leaves, .int .i64 b.chain, .int .i64 b.wlo, .int .i64 b.whi, .int .i64 b.hlo, .int .i64 b.hhi, .slice a3 N3 cap3] 30 (0, 0)) := (HB.out.block _ (by omega)).trans ((HWD.out.2.block _ (by omega)).trans X4.out)
      have c6 := blk_cell x4 6
      have f6 := blk_free x4 6
      have X6 := Lib.hid x4
      clear x4
      go_simp
      refine hK.out _ _ ?_ (fun hNew => ?_)
      · exact ⟨(World.cell?_of_block (heap_setCell_past _ _ _ _ (show w.heap.size + 1 ≠ w.heap.size + 1 + 1 + 1 by omega))).trans ((World.cell?_of_block (HB.out.block _ (show w.heap.size + 1 < Z by omega))).trans HS1.out), (World.cell?_of_block (heap_setCell_past _ _ _ _ (show w.heap.size + 2 ≠ w.heap.size + 1 + 1 + 1 by omega))).trans ((World.cell?_of_block (HB.out.block _ (show w.heap.size + 2 < Z by omega))).trans HS2.out), (World.cell?_of_block (heap_setCell_past _ _ _ _ (show w.heap.size + 2 ≠ w.heap.size + 1 + 1 + 1 by omega))).trans ((World.cell?_of_block (HB.out.block _ (show w.heap.size + 2 < Z by omega))).trans HS3.out)⟩
      clear hK K hHeld hNew c6 f6
      (try simp only [Act.put, List.setIfInBounds_toArray, List.set_cons_zero, List.set_cons_succ])
      refine wpAnyH_done (by kernel_rfl) ?_ _
      have hsz := HB.out.size
      have hsz0 := HB1.out.size
      have hzd := HZD.out
      have hzz := HZ.out
      have hbw : Below w.heap.size w u4 := HB1.out.trans ((HWD.out.2.trans HB.out).mono (by omega))
      have hW1 : Below w.heap.size w ((u4).setCell ⟨w.heap.size + 3, 6, none⟩ (.slice (some ⟨g9, 0, none⟩) (N3 + 1) cap9)) := hbw.setCell (show w.heap.size ≤ w.heap.size + 3 by omega) _
      have hW2 : ∀ k, k < Z → k ≠ w.heap.size + 3 → ((u4).setCell ⟨w.heap.size + 3, 6, none⟩ (.slice (some ⟨g9, 0, none⟩) (N3 + 1) cap9)).heap[k]? = w1.heap[k]? := fun k hk hne => (heap_setCell_past _ _ _ _ hne).trans ((HB.out.block k hk).trans (HWD.out.2.block k hk))
      have hW3 := blk_set X6.out 6 (.slice (some ⟨g9, 0, none⟩) (N3 + 1) cap9)
      have hW4 : ((u4).setCell ⟨w.heap.size + 3, 6, none⟩ (.slice (some ⟨g9, 0, none⟩) (N3 + 1) cap9)).ownsRow Z 58 2 (.slice (some ⟨g9, 0, none⟩) (N3 + 1) cap9) (b.marks ++ [(xl, xs)]).length ((b.marks ++ [(xl, xs)]).flatMap mrkV) := by
        have e1 : (b.marks ++ [(xl, xs)]).length = N3 + 1 := by rw [List.length_append, ← HN3.out]; rfl
        have e2 : (b.marks ++ [(xl, xs)]).flatMap mrkV = b.marks.flatMap mrkV ++ [.int .i64 xl, .bool xs] := by simp
        rw [e1, e2]
        exact ownsRow_setCell_below R6.out (show w.heap.size + 3 < Z by omega) _
      exact ⟨_, _, _, _, _, _, _, _, rfl, hW1, hW2, _, _, hW3, rows_of_own (enc := mrkV) (fun _ => rfl) hW4⟩
end Go.Proofs.YtnhacghjoikgpaaGreatDoor

/- The statement FoldMore: with one more mark no way of making is added, no leaf is added to those that may be together, and none is lost of those that must be, for any press and gathering, and any further mark. No condition. -/
namespace Go.Proofs.YtnhacghjoikgpaaGreatDoor
set_option linter.unusedSimpArgs false
set_option linter.unusedVariables false
open Go Go.ChangeShapes Go.WideShapes Go.ChangeAt Go.RowKit

set_option maxHeartbeats 800000 in
set_option maxRecDepth 100000 in
theorem foldMore_lifted (os : Os) (started : os.Started) (H : Type) (enc : TypeId × Value → H) :
    ReturnsInHanded {} Tryz.checked os 5 .any (fun w args => (Rows.foldMoreSpec.pre enc Tryz.prog Tryz.f5 [] false w args ∧ laidMetH Tryz.prog laidVs w) ∧ sizedMet enc Tryz.prog Tryz.f5 (OpenSpec.ofChange Rows.foldMoreSpec) false w args)
      (Rows.foldMoreSpec.post enc Tryz.prog Tryz.f5 false true false false) := by
  refine returnsInHanded_of_change_and (C := Tryz.checked) (X := fun w _ => laidMetH Tryz.prog laidVs w) (fun _ _ _ hh h => h.of_heap hh) own started (by kernel_rfl) Tryz.func5
    (ChangeSpec.witness_shaped (enc := enc) (C := Tryz.checked) (os := os) (X := fun w _ => laidMetH Tryz.prog laidVs w) false (World.doorLaid Tryz.prog 400 os) #[.agg #[.slice none 0 0, .slice none 0 0, .int .i64 0, .int .i64 0], .agg #[.int .i64 0, .int .i64 0, .int .i64 0, .int .i64 0, .int .i64 0, .int .i64 0, .slice none 0 0], .agg #[.int .i64 0, .bool false]] 8 rfl (World.shaped_of_RefB (by kernel_rfl) (by kernel_rfl)) (by kernel_rfl) (by kernel_rfl) (by kernel_rfl) (door_met os _)) ?_
  intro W base args ds gs before hval0 hW _ hSZ hL _
  have hval : ∀ (j : Nat) t v, (Tryz.f5).params[j]? = some t → args[j]? = some v → Value.okWide Tryz.prog W .any base t v := hval0
  have hW' := hW
  obtain ⟨p, q, hA0, hV, rfl, hfz, hnd⟩ := hW
  have hA : DataW.TrodAll enc Tryz.prog W 0 (fun _ => true) true (Tryz.f5).params.toList args.toList ds p := hA0
  rw [Tryz.params5] at hA hval
  obtain ⟨t0, hW0⟩ := tab_laid hL
  obtain ⟨v0, v1, v2, d0, d1, d2, p0, p1, p2, rfl, rfl, rfl, h0, h1, h2⟩ := trodAll_three hA
  obtain ⟨rfl, rfl⟩ := trodVars_none hV
  obtain ⟨f0, hx0⟩ := h0
  obtain ⟨b0, hb0⟩ := press_in (hval 0 25 v0 rfl rfl) hx0
  obtain ⟨f1, hx1⟩ := h1
  obtain ⟨b1, hb1⟩ := bok_in (hval 1 30 v1 rfl rfl) hx1
  obtain ⟨f2, hx2⟩ := h2
  obtain ⟨n2, m2, rfl⟩ := mark_in (hval 2 58 v2 rfl rfl) hx2
  clear hA0 hval0
  simp only [List.append_nil] at hW'
  have hfew := bok_few hx1 (fun n hn => by
    have h := List.all_eq_true.1 hSZ n (DataW.weights_mem_each (j := 1) (t := 30) (d := d1) (by rw [Tryz.params5]; rfl) rfl n hn)
    simpa using h) hb1
  refine (FoldMore_any b0 v0 b1 v1 n2 m2 W t0 hb0 hb1 hfew hW0).mono fun e W' ⟨he, hb⟩ => ?_
  subst he
  exact ⟨_, rfl, law_post (tb := 4) laidOut2 hW' rfl rfl (by kernel_rfl) Tryz.underlying4 (by kernel_rfl) hb⟩

theorem foldMore_holds : Rows.FoldMoreSaid :=
  OpenClaim.holds_of_wide 5 Tryz.f5 rfl rfl rfl rfl rfl rfl rfl ⟨rfl, rfl, rfl, rfl, rfl⟩ rfl rfl rfl rfl rfl (by kernel_rfl) Tryz.func5 (by kernel_rfl)
    (of_decide_eq_true (by kernel_rfl)) (by unfold Func.isWrapper; first | (rw [if_pos (by decide +kernel)]; kernel_rfl) | (rw [if_neg (by decide +kernel)]; exact ⟨rfl, rfl⟩))
    (fun os started H enc _ => foldMore_lifted os started H enc)

theorem foldMore_card : Rows.FoldMoreCardSaid :=
  Claim7.holds_tied_plain_at .later [] [.data] true (true, "b5cf93fcf032eb28ba5817108855ecbacd8f7271e3fb418352c5b6ce3584cbae") false
    foldMore_holds (fun _ h => by cases h) (by kernel_rfl) (fun _ h => by cases h) foldMore_row_tie rfl ⟨rfl, rfl⟩ (by kernel_rfl) rfl
    (fun f fn hf hfn => by
      obtain rfl : f = 5 := Option.some.inj ((show Tryz.prog.funcNamed "duodecimo/duodecimolaw02.FoldMore" = some 5 by kernel_rfl).symm.trans hf) |>.symm
      obtain rfl : fn = Tryz.f5 := (Option.some.inj ((Tryz.func5).symm.trans hfn)).symm
      exact ⟨by kernel_rfl, fun j t ht => by
        rw [Tryz.params5] at ht
        have hm : t ∈ [25, 30, 58] := by simpa using Array.mem_of_getElem? ht
        have hall : ([25, 30, 58].all fun u => !Tryz.prog.wantsStandIn u) = true := by kernel_rfl
        exact (show Tryz.prog.wantsStandIn t = false by simpa using List.all_eq_true.1 hall t hm)⟩)
    (by kernel_rfl)
end Go.Proofs.YtnhacghjoikgpaaGreatDoor
