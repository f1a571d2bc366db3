/- The parts Xc of the proof, joined. It holds without conditions of its own. -/
import Derived.Test.YtpdhdgdbknnllaaGreatDoorFX29
import Derived.Test.YtpdhdgdbknnllaaGreatDoorFX30
import Derived.Test.YtpdhdgdbknnllaaGreatDoorFX23
import Derived.Test.YtpdhdgdbknnllaaGreatDoorFX33
set_option maxRecDepth 100000
set_option maxHeartbeats 20000000
namespace Go.Proofs.YtpdhdgdbknnllaaGreatDoor
section
set_option linter.unusedSimpArgs false
set_option linter.unusedVariables false
open Go Go.RowKit Go.Sort Go.BigFrame
theorem mem_cast {l : List Nat} {i : Nat} : ((i : Int) ∈ l.map fun (n : Nat) => (n : Int)) ↔ i ∈ l := by
 rw [List.mem_map]
 exact ⟨fun ⟨j, h1, h2⟩ => (Int.ofNat.inj h2) ▸ h1, fun h => ⟨i, h, rfl⟩⟩
theorem bit_walk {n k : Nat} {bt : Bool} (h : bt = n.testBit k) : (((n : Int) / 2 ^ k).tmod 2 == 1) = bt := by
 have e1 : ((n : Int) / 2 ^ k) = ((n / 2 ^ k : Nat) : Int) := by rw [Int.natCast_ediv, Int.natCast_pow]; rfl
 have e2 : (((n / 2 ^ k : Nat) : Int)).tmod 2 = ((n / 2 ^ k % 2 : Nat) : Int) := by rw [Int.tmod_eq_emod_of_nonneg (Int.natCast_nonneg _)]; exact (Int.natCast_emod _ 2).symm
 rw [e1, e2, h, Nat.testBit_eq_decide_div_mod_eq]
 rcases (show n / 2 ^ k % 2 = 0 ∨ n / 2 ^ k % 2 = 1 by omega) with h | h <;> rw [h] <;> rfl
theorem FoldWrong_any (p : Prs) (vp : Value) (b : Bok) (vb : Value) (ma sa ha la : List Nat) (mv sv hv lv : Value) (n : Nat) (hn : n < 65536) (w : World) (t : TypeId) (hp : PrsAt w.heap.size w vp p) (hb : BokAt w.heap.size w vb b) (h1 : U16sAt w mv ma) (h2 : U16sAt w sv sa) (h3 : U16sAt w hv ha) (h4 : U16sAt w lv la) (hW : w.heap[0]? = some (.cells tabL.toArray t (0, 0))) :
  Calls Tryz.prog 6 #[vp, vb, .agg #[mv, sv, hv, lv, .int .u16 n]] w fun e w' => e = .returned (.bool true) /\ Below w.heap.size w w' := by
 have HP := Lib.hid hp
 have HK := Lib.hid hb
 have HW := Lib.hid hW
 have H1 := Lib.hid h1
 have H2 := Lib.hid h2
 have H3 := Lib.hid h3
 have H4 := Lib.hid h4
 obtain ⟨fv, pv, rfl, ⟨a, cap, rfl, -⟩, ⟨a2, cap2, rfl, -⟩, -⟩ := hp
 obtain ⟨mv0, rfl, ⟨a0, cap0, rfl, -⟩⟩ := hb
 obtain ⟨a3, cap3, rfl, -⟩ := h1
 obtain ⟨a4, cap4, rfl, -⟩ := h2
 obtain ⟨a5, cap5, rfl, -⟩ := h3
 obtain ⟨a6, cap6, rfl, -⟩ := h4
 obtain ⟨N0, hN0⟩ : ∃ n, n = b.marks.length := ⟨_, rfl⟩
 obtain ⟨n1, hn1⟩ : ∃ n, n = p.fmts.length := ⟨_, rfl⟩
 obtain ⟨n2, hn2⟩ : ∃ n, n = p.pprs.length := ⟨_, rfl⟩
 obtain ⟨n3, hn3⟩ : ∃ n, n = ma.length := ⟨_, rfl⟩
 obtain ⟨n4, hn4⟩ : ∃ n, n = sa.length := ⟨_, rfl⟩
 obtain ⟨n5, hn5⟩ : ∃ n, n = ha.length := ⟨_, rfl⟩
 obtain ⟨n6, hn6⟩ : ∃ n, n = la.length := ⟨_, rfl⟩
 have HN0 := Lib.hid hN0
 rw [<- hN0] at HK ⊢
 rw [<- hn1, <- hn2] at HP ⊢
 rw [<- hn3] at H1 ⊢
 rw [<- hn4] at H2 ⊢
 rw [<- hn5] at H3 ⊢
 rw [<- hn6] at H4 ⊢
 clear hN0 hn1 hn2 hn3 hn4 hn5 hn6 hW
 have HMS : Hid (RowsAt 2 mrkV w.heap.size w (.slice a0 N0 cap0) b.marks) := Lib.hid (by
  obtain ⟨mv, e, hm⟩ := HK.out
  cases e
  exact hm)
 go_enter Tryz.func6, Tryz.ntmps6
 go_wp2_with fail
 go_region
 obtain ⟨w1, hw1⟩ : ∃ w1, w1 = ((((w.alloc (.cells #[.slice a n1 cap, .slice a2 n2 cap2, .int .i64 p.trim, .int .i64 p.sheets] 25)).alloc (.cells #[.int .i64 b.leaves, .int .i64 b.chain, .int .i64 b.wlo, .int .i64 b.whi, .int .i64 b.hlo, .int .i64 b.hhi, .slice a0 N0 cap0] 30)).alloc (.cells #[.slice a3 n3 cap3, .slice a4 n4 cap4, .slice a5 n5 cap5, .slice a6 n6 cap6, .int .u16 (n : Int)] 62)).alloc (.cells #[.slice a3 n3 cap3, .slice a4 n4 cap4, .slice a5 n5 cap5, .slice a6 n6 cap6] 46)) := ⟨_, rfl⟩
 have hb1 : Below w.heap.size w w1 := by rw [hw1]; exact (by repeat (first | exact Below.refl _ _ | assumption | (refine Below.alloc ?_ ?_ _; rotate_left; · (first | omega | (simp; done) | (simp; omega) | fail)) | (refine Below.setCell ?_ ?_ _; rotate_left; · (first | omega | (simp; done) | (simp; omega) | fail)) | refine Below.drew ?_ | fail))
 have x1 : w1.heap[w.heap.size]? = some (.cells #[.slice a n1 cap, .slice a2 n2 cap2, .int .i64 p.trim, .int .i64 p.sheets] 25 (0, 0)) := by rw [hw1]; exact (by repeat (first | exact heap_alloc_at _ _ _ (by (first | omega | (simp; done) | (simp; omega) | (simp at *; omega) | fail)) | assumption | rw [heap_alloc_past _ _ _ (by (first | omega | (simp; done) | (simp; omega) | (simp at *; omega) | fail))] | rw [heap_setCell_past _ _ _ _ (by (first | omega | (simp; done) | (simp; omega) | (simp at *; omega) | fail))] | fail))
 have x2 : w1.heap[w.heap.size + 1]? = some (.cells #[.int .i64 b.leaves, .int .i64 b.chain, .int .i64 b.wlo, .int .i64 b.whi, .int .i64 b.hlo, .int .i64 b.hhi, .slice a0 N0 cap0] 30 (0, 0)) := by rw [hw1]; exact (by repeat (first | exact heap_alloc_at _ _ _ (by (first | omega | (simp; done) | (simp; omega) | (simp at *; omega) | fail)) | assumption | rw [heap_alloc_past _ _ _ (by (first | omega | (simp; done) | (simp; omega) | (simp at *; omega) | fail))] | rw [heap_setCell_past _ _ _ _ (by (first | omega | (simp; done) | (simp; omega) | (simp at *; omega) | fail))] | fail))
 have x4 : w1.heap[w.heap.size + 1 + 1 + 1]? = some (.cells #[.slice a3 n3 cap3, .slice a4 n4 cap4, .slice a5 n5 cap5, .slice a6 n6 cap6] 46 (0, 0)) := by rw [hw1]; exact (by repeat (first | exact heap_alloc_at _ _ _ (by (first | omega | (simp; done) | (simp; omega) | (simp at *; omega) | fail)) | assumption | rw [heap_alloc_past _ _ _ (by (first | omega | (simp; done) | (simp; omega) | (simp at *; omega) | fail))] | rw [heap_setCell_past _ _ _ _ (by (first | omega | (simp; done) | (simp; omega) | (simp at *; omega) | fail))] | fail))
 rw [<- hw1]
 clear hw1
 obtain ⟨w2, hw2⟩ : ∃ w2, w2 = w1.drew := ⟨_, rfl⟩
 have HB2 : Hid (Below w.heap.size w w2) := Lib.hid (by rw [hw2]; exact Below.drew hb1)
 have Y1 : Hid (w2.heap[w.heap.size]? = some (.cells #[.slice a n1 cap, .slice a2 n2 cap2, .int .i64 p.trim, .int .i64 p.sheets] 25 (0, 0))) := Lib.hid (by rw [hw2]; exact blk_drew x1)
 have Y2 : Hid (w2.heap[w.heap.size + 1]? = some (.cells #[.int .i64 b.leaves, .int .i64 b.chain, .int .i64 b.wlo, .int .i64 b.whi, .int .i64 b.hlo, .int .i64 b.hhi, .slice a0 N0 cap0] 30 (0, 0))) := Lib.hid (by rw [hw2]; exact blk_drew x2)
 have Y4 : Hid (w2.heap[w.heap.size + 1 + 1 + 1]? = some (.cells #[.slice a3 n3 cap3, .slice a4 n4 cap4, .slice a5 n5 cap5, .slice a6 n6 cap6] 46 (0, 0))) := Lib.hid (by rw [hw2]; exact blk_drew x4)
 rw [<- hw2]
 clear hw2 hb1 x1 x2 x4
 obtain ⟨z, hz⟩ : ∃ z, z = ((checkK p b).2.2 == 0) := ⟨_, rfl⟩
 have HZ := Lib.hid hz
 clear hz
 have p0 := blk_cell (blk_later (Below.refl w2.heap.size w2) Y1.out) 0
 have p1 := blk_cell (blk_later (Below.refl w2.heap.size w2) Y1.out) 1
 have p2 := blk_cell (blk_later (Below.refl w2.heap.size w2) Y1.out) 2
 have p3 := blk_cell (blk_later (Below.refl w2.heap.size w2) Y1.out) 3
 have e0 := blk_cell (blk_later (Below.refl w2.heap.size w2) Y2.out) 0
 have e1 := blk_cell (blk_later (Below.refl w2.heap.size w2) Y2.out) 1
 have e2 := blk_cell (blk_later (Below.refl w2.heap.size w2) Y2.out) 2
 have e3 := blk_cell (blk_later (Below.refl w2.heap.size w2) Y2.out) 3
 have e4 := blk_cell (blk_later (Below.refl w2.heap.size w2) Y2.out) 4
 have e5 := blk_cell (blk_later (Below.refl w2.heap.size w2) Y2.out) 5
 have e6 := blk_cell (blk_later (Below.refl w2.heap.size w2) Y2.out) 6
 cases z with
 | false =>
   have hne : (checkK p b).2.2 ≠ 0 := by have := HZ.out; simpa using this.symm
   go_wp2_with fail
   refine (Wrong_bad p b _ _ w2 (HP.out.later HB2.out) (HMS.out.later HB2.out) hne).mono ?_
   rintro e w3 ⟨rfl, hb3⟩
   have HB3 := Lib.hid hb3
   have HB33 := Lib.hid (HB2.out.trans (hb3.mono HB2.out.size))
   obtain ⟨ek, hek⟩ : ∃ e, e = (checkK p b).2.2 := ⟨_, rfl⟩
   rw [<- hek] at hne ⊢
   have hq : (ek == 0) = false := by simpa using hne
   have hq2 : (ek != 0) = true := by simpa using hne
   clear hek hb3 p0 p1 p2 p3 e0 e1 e2 e3 e4 e5 e6
   have p0 := blk_cell (blk_later (HB3.out) Y1.out) 0
   have p1 := blk_cell (blk_later (HB3.out) Y1.out) 1
   have p2 := blk_cell (blk_later (HB3.out) Y1.out) 2
   have p3 := blk_cell (blk_later (HB3.out) Y1.out) 3
   have e0 := blk_cell (blk_later (HB3.out) Y2.out) 0
   have e1 := blk_cell (blk_later (HB3.out) Y2.out) 1
   have e2 := blk_cell (blk_later (HB3.out) Y2.out) 2
   have e3 := blk_cell (blk_later (HB3.out) Y2.out) 3
   have e4 := blk_cell (blk_later (HB3.out) Y2.out) 4
   have e5 := blk_cell (blk_later (HB3.out) Y2.out) 5
   have e6 := blk_cell (blk_later (HB3.out) Y2.out) 6
   go_wp2_with fail
   refine (good2_any p b _ _ w3 (HP.out.later HB33.out) (HK.out.later HB33.out)).mono ?_
   rintro e w4 ⟨rfl, hb4⟩
   rw [<- HZ.out]
   have HB4 := Lib.hid (HB33.out.trans (hb4.mono HB33.out.size))
   clear hb4 p0 p1 p2 p3 e0 e1 e2 e3 e4 e5 e6
   go_wp2_with fail
   refine (awake_any2 (t := t) (blk_later HB4.out HW.out)).mono ?_
   rintro e wz ⟨rfl, hbz⟩
   have hb99 := (HB4.out).trans (hbz.mono (HB4.out).size)
   clear hbz
   go_wp2_with fail
   go_ret
   exact ⟨rfl, hb99⟩
 | true =>
   have hec : (checkK p b).2.2 = 0 := by have := HZ.out; simpa using this.symm
   have HEC := Lib.hid hec
   obtain ⟨hee, ⟨hbl1, hbl2⟩, hm8, -⟩ := fine_bok hec
   rw [<- HN0.out] at hm8
   have HE := Lib.hid hee
   clear hec hee
   go_wp2_with fail
   refine (Wrong_good p b _ _ w2 t (HP.out.later HB2.out) (HMS.out.later HB2.out) HEC.out (blk_later HB2.out HW.out)).mono ?_
   rintro e w3 ⟨hres, hb3⟩
   have key : ∃ (ws : List Nat) (EV : Int) (v : Value), e = .returned (.tuple #[v, .int .i64 EV]) /\ IntsAt w3 v (ws.map fun (n : Nat) => (n : Int)) /\ ((EV = 9 /\ ws = [] /\ waysW p b (makesW p) = []) ∨ (EV = 0 /\ ws = idxV 11 (bestW p b).testBit /\ waysW p b (makesW p) ≠ [])) := by
    rcases hres with ⟨h1, rfl⟩ | ⟨h1, v, rfl, h2⟩
    · exact ⟨[], 9, .slice none 0 0, rfl, ⟨none, 0, rfl, fun h => absurd rfl h⟩, Or.inl ⟨rfl, rfl, h1⟩⟩
    · exact ⟨_, 0, v, rfl, h2, Or.inr ⟨rfl, rfl, h1⟩⟩
   obtain ⟨ws, EV, wv, rfl, hwv, hcase⟩ := key
   have HWV := Lib.hid hwv
   obtain ⟨wa, wcap, rfl, -⟩ := hwv
   obtain ⟨WN, hWN⟩ : ∃ n, n = (ws.map fun (n : Nat) => (n : Int)).length := ⟨_, rfl⟩
   have hw11 : WN <= 11 := by
    rw [hWN, List.length_map]
    rcases hcase with ⟨-, h, -⟩ | ⟨-, h, -⟩
    · rw [h]; simp
    · rw [h]
      unfold idxV
      exact range_filter_len _ _
   rw [<- hWN] at HWV ⊢
   have HWN := Lib.hid hWN
   have HCS := Lib.hid hcase
   have HB3 := Lib.hid hb3
   have HB33 := Lib.hid (HB2.out.trans (hb3.mono HB2.out.size))
   clear hres hcase hWN hb3 p0 p1 p2 p3 e0 e1 e2 e3 e4 e5 e6
   have p0 := blk_cell (blk_later (HB3.out) Y1.out) 0
   have p1 := blk_cell (blk_later (HB3.out) Y1.out) 1
   have p2 := blk_cell (blk_later (HB3.out) Y1.out) 2
   have p3 := blk_cell (blk_later (HB3.out) Y1.out) 3
   have e0 := blk_cell (blk_later (HB3.out) Y2.out) 0
   have e1 := blk_cell (blk_later (HB3.out) Y2.out) 1
   have e2 := blk_cell (blk_later (HB3.out) Y2.out) 2
   have e3 := blk_cell (blk_later (HB3.out) Y2.out) 3
   have e4 := blk_cell (blk_later (HB3.out) Y2.out) 4
   have e5 := blk_cell (blk_later (HB3.out) Y2.out) 5
   have e6 := blk_cell (blk_later (HB3.out) Y2.out) 6
   go_wp2_with fail
   refine (good2_any p b _ _ w3 (HP.out.later HB33.out) (HK.out.later HB33.out)).mono ?_
   rintro e w4 ⟨rfl, hb4⟩
   rw [<- HZ.out]
   have HB4 := Lib.hid (HB3.out.trans (hb4.mono HB3.out.size))
   have HB44 := Lib.hid (HB33.out.trans (hb4.mono HB33.out.size))
   have HWV := Lib.hid (HWV.out.later hb4)
   clear HB3 HB33 hb4 p0 p1 p2 p3 e0 e1 e2 e3 e4 e5 e6
   have p0 := blk_cell (blk_later (HB4.out) Y1.out) 0
   have p1 := blk_cell (blk_later (HB4.out) Y1.out) 1
   have p2 := blk_cell (blk_later (HB4.out) Y1.out) 2
   have p3 := blk_cell (blk_later (HB4.out) Y1.out) 3
   have e0 := blk_cell (blk_later (HB4.out) Y2.out) 0
   have e1 := blk_cell (blk_later (HB4.out) Y2.out) 1
   have e2 := blk_cell (blk_later (HB4.out) Y2.out) 2
   have e3 := blk_cell (blk_later (HB4.out) Y2.out) 3
   have e4 := blk_cell (blk_later (HB4.out) Y2.out) 4
   have e5 := blk_cell (blk_later (HB4.out) Y2.out) 5
   have e6 := blk_cell (blk_later (HB4.out) Y2.out) 6
   have g0 := blk_cell (blk_later HB4.out Y4.out) 0
   have g1 := blk_cell (blk_later HB4.out Y4.out) 1
   have g2 := blk_cell (blk_later HB4.out Y4.out) 2
   have g3 := blk_cell (blk_later HB4.out Y4.out) 3
   go_wp2_with fail
   obtain ⟨n8, hn8⟩ : ∃ m, m = n % 256 := ⟨_, rfl⟩
   have hn8i : (n : Int) % 256 = (n8 : Int) := by omega
   have hn8b : n8 < 256 := by omega
   have HN8 := Lib.hid hn8
   rw [hn8i]
   refine (Told_any p ma sa ha la _ _ _ _ n8 hn8b _ w4 (HP.out.later HB44.out) HE.out (H1.out.later HB44.out) (H2.out.later HB44.out) (H3.out.later HB44.out) (H4.out.later HB44.out)).mono ?_
   rintro e w5 ⟨⟨m, mk, hm, rfl, hmk⟩, hb5⟩
   have hmw := makes_ok hm
   obtain ⟨hl1, hl2⟩ := told_num HE.out hmw
   obtain ⟨c, hc⟩ : ∃ c, c = toldT p m sa ha la n8 := ⟨_, rfl⟩
   have hcc : (checkK p c).2.2 = 0 := by
    rw [hc]
    refine told_fine HE.out hmw _ _ _ _ _ _ ?_ ?_
    · unfold toldJ; rw [List.length_map, List.length_range]; omega
    · intro j hj
      unfold toldJ at hj
      obtain ⟨i, -, rfl⟩ := List.mem_map.1 hj
      exact Nat.mod_lt _ (by omega)
   have hcw : m ∈ waysW p c (makesW p) := by
    unfold waysW
    refine List.mem_filter.2 ⟨hm, ?_⟩
    unfold waysP
    rw [hc]
    simp [toldT, toldB]
   have hfew := told_few (bits := n8) hcc hcw (fun S hS => by
    rw [hc]
    exact told_agreesW HE.out hmw _ _ _ _ (fun s => by have := Nat.mod_lt (turnN ha s) (show 0 < 2 by decide); omega) n8 _ S hS)
   have hm8c : c.marks.length <= 8 := (fine_bok hcc).2.2.1
   have hbits : (List.range c.marks.length).filter n8.testBit = (List.range c.marks.length).filter n.testBit := by
    refine List.filter_congr fun i hi => ?_
    rw [hn8, show 256 = 2 ^ 8 by rfl, Nat.testBit_mod_two_pow, decide_eq_true (by have := List.mem_range.1 hi; omega), Bool.true_and]
   rw [hbits] at hfew
   rw [<- hc] at hmk ⊢
   obtain ⟨mo, mc, hmv, -⟩ := id hmk
   obtain ⟨ML, hML⟩ : ∃ n, n = c.marks.length := ⟨_, rfl⟩
   rw [<- hML] at hmv hfew hm8c
   subst hmv
   have HFEW := Lib.hid hfew
   have HCC := Lib.hid hcc
   have HCW := Lib.hid hcw
   have HMK := Lib.hid hmk
   have HB5 := Lib.hid (HB4.out.trans (hb5.mono HB4.out.size))
   have HB55 := Lib.hid (HB44.out.trans (hb5.mono HB44.out.size))
   have HWV := Lib.hid (HWV.out.later hb5)
   clear hm hmw hl1 hl2 hc hcc hcw hfew hbits hML hmk hb5 HB4 HB44 hn8 hn8i hn8b p0 p1 p2 p3 e0 e1 e2 e3 e4 e5 e6 g0 g1 g2 g3
   go_upto_region 8 with fail
   obtain ⟨w6, hw6⟩ : ∃ v, v = (w5.alloc (.cells #[.int .i64 c.leaves, .int .i64 c.chain, .int .i64 c.wlo, .int .i64 c.whi, .int .i64 c.hlo, .int .i64 c.hhi, .slice mo ML mc] 30)).alloc (.cells #[.int .i64 m.fmt, .int .i64 m.ppr, .int .i64 m.sheets, .bool m.half] 50) := ⟨_, rfl⟩
   have hb6 : Below w5.heap.size w5 w6 := by rw [hw6]; exact (by repeat (first | exact Below.refl _ _ | assumption | (refine Below.alloc ?_ ?_ _; rotate_left; · (first | omega | (simp; done) | (simp; omega) | fail)) | (refine Below.setCell ?_ ?_ _; rotate_left; · (first | omega | (simp; done) | (simp; omega) | fail)) | refine Below.drew ?_ | fail))
   have x3 : w6.heap[w5.heap.size]? = some (.cells #[.int .i64 c.leaves, .int .i64 c.chain, .int .i64 c.wlo, .int .i64 c.whi, .int .i64 c.hlo, .int .i64 c.hhi, .slice mo ML mc] 30 (0, 0)) := by rw [hw6]; exact (by repeat (first | exact heap_alloc_at _ _ _ (by (first | omega | (simp; done) | (simp; omega) | (simp at *; omega) | fail)) | assumption | rw [heap_alloc_past _ _ _ (by (first | omega | (simp; done) | (simp; omega) | (simp at *; omega) | fail))] | rw [heap_setCell_past _ _ _ _ (by (first | omega | (simp; done) | (simp; omega) | (simp at *; omega) | fail))] | fail))
   rw [<- hw6]
   clear hw6
   have Y5 := Lib.hid x3
   have HB6 := Lib.hid (HB5.out.trans (hb6.mono HB5.out.size))
   have HB66 := Lib.hid (HB55.out.trans (hb6.mono HB55.out.size))
   have HWV := Lib.hid (HWV.out.later hb6)
   have HMK := Lib.hid (HMK.out.later hb6)
   clear hb6 x3 HB5 HB55
   have k6 := blk_cell Y5.out 6
   go_loopw [13, 14] (fun q j wr => ∃ (k C : Nat), k <= ML /\ j = .int .i64 k /\ q = .int .i64 C /\ Hid (C = ((List.range k).filter n.testBit).length) /\ wr = w6) (fun _ j _ => ML - (intOf j).toNat)
   case atStart => exact ⟨0, 0, by omega, rfl, rfl, Lib.hid rfl, rfl⟩
   case round =>
    obtain ⟨k, C, hk, rfl, rfl, HC, rfl⟩ := hrel
    have hck : C <= k := by rw [HC.out]; exact range_filter_len _ _
    by_cases hlt : k < ML
    · obtain ⟨bt, hbt⟩ : ∃ z, z = n.testBit k := ⟨_, rfl⟩
      have hbit : (((n : Int) / 2 ^ k).tmod 2 == 1) = bt := bit_walk hbt
      have HBT := Lib.hid hbt
      clear hbt
      cases bt with
      | true =>
        go_wp2_with fail
        go_roundw
        case rel => exact ⟨k + 1, C + 1, by omega, by go_num, by go_num, Lib.hid (by rw [range_filter_yes HBT.out.symm, List.length_append, <- HC.out]; rfl), trivial⟩
        case measure => exact loop_less hlt
      | false =>
        go_wp2_with fail
        go_roundw
        case rel => exact ⟨k + 1, C, by omega, by go_num, rfl, Lib.hid (by rw [range_filter_no HBT.out.symm, <- HC.out]), trivial⟩
        case measure => exact loop_less hlt
    · obtain rfl : k = ML := by omega
      clear k6
      have p0 := blk_cell (blk_later (HB6.out) Y1.out) 0
      have p1 := blk_cell (blk_later (HB6.out) Y1.out) 1
      have p2 := blk_cell (blk_later (HB6.out) Y1.out) 2
      have p3 := blk_cell (blk_later (HB6.out) Y1.out) 3
      have e0 := blk_cell (blk_later (HB6.out) Y2.out) 0
      have e1 := blk_cell (blk_later (HB6.out) Y2.out) 1
      have e2 := blk_cell (blk_later (HB6.out) Y2.out) 2
      have e3 := blk_cell (blk_later (HB6.out) Y2.out) 3
      have e4 := blk_cell (blk_later (HB6.out) Y2.out) 4
      have e5 := blk_cell (blk_later (HB6.out) Y2.out) 5
      have e6 := blk_cell (blk_later (HB6.out) Y2.out) 6
      have k0 := blk_cell Y5.out 0
      have k1 := blk_cell Y5.out 1
      have k2 := blk_cell Y5.out 2
      have k3 := blk_cell Y5.out 3
      have k4 := blk_cell Y5.out 4
      have k5 := blk_cell Y5.out 5
      have k6 := blk_cell Y5.out 6
      go_wp2_with fail
      refine (Wrong_good p c _ _ wr t (HP.out.later HB66.out) HMK.out HCC.out (blk_later HB66.out HW.out)).mono ?_
      rintro e w7 ⟨hres, hb7⟩
      rcases hres with ⟨h, -⟩ | ⟨-, vv, rfl, hvv⟩
      · exact absurd h (List.ne_nil_of_mem HCW.out)
      obtain ⟨va, vcap, rfl, -⟩ := hvv
      obtain ⟨VN, hVN⟩ : ∃ n, n = ((idxV 11 (bestW p c).testBit).map fun (n : Nat) => (n : Int)).length := ⟨_, rfl⟩
      rw [<- hVN]
      have hvc : VN <= C := by rw [hVN, List.length_map, HC.out]; exact HFEW.out
      have hvf : ¬ C < VN := by omega
      have HB7 := Lib.hid (HB6.out.trans (hb7.mono HB6.out.size))
      have HB77 := Lib.hid (HB66.out.trans (hb7.mono HB66.out.size))
      have HWV := Lib.hid (HWV.out.later hb7)
      clear hVN hb7 HB6 HB66 HMK HCC HCW HFEW p0 p1 p2 p3 e0 e1 e2 e3 e4 e5 e6 k0 k1 k2 k3 k4 k5 k6
      obtain ⟨ei, hi1, hi2, hi3, hi4⟩ := elemInt
      have HI := Lib.hid (And.intro hi1 (And.intro hi2 (And.intro hi3 hi4)))
      clear hi1 hi2 hi3 hi4
      go_wp2_with fail
      go_loopw [17, 18] (fun v j wr => ∃ (k : Nat), k <= 3 + N0 /\ j = .int .i64 k /\ Hid (wr.ownsRow w7.heap.size 3 1 v ((List.range k).filter n.testBit).length (intVs ((List.range k).filter n.testBit))) /\ Hid (Below w7.heap.size w7 wr)) (fun _ j _ => 3 + N0 - (intOf j).toNat)
      case atStart => exact ⟨0, by omega, rfl, World.ownsRow_nil _ _ _ _, Below.refl _ _⟩
      case round =>
       obtain ⟨k2, hk2, rfl, HR, HB⟩ := hrel
       clear Y5 HMK hk hlt hm8c hck HC hvc
       have g2 := blk_later (HB7.out.trans (HB.out.mono HB7.out.size)) Y2.out
       have e6 := blk_cell g2 6
       clear g2
       by_cases hlt : k2 < 3 + N0
       · obtain ⟨bt, hbt⟩ : ∃ z, z = n.testBit k2 := ⟨_, rfl⟩
         have hbit : (((n : Int) / 2 ^ k2).tmod 2 == 1) = bt := bit_walk hbt
         have HBT := Lib.hid hbt
         clear hbt
         have hlen := range_filter_len n.testBit k2
         have hz := HB.out.size
         cases bt with
         | true =>
           obtain ⟨hi1, hi2, hi3, hi4⟩ := HI.out
           go_wp2_with (at_builtin; (refine wpList_append_own _ rfl _ _ 36 rfl w7.heap.size 3 ei _ 1 8 undInts hi1 hi2 hi3 hi4 rfl (by decide) u17 ((List.range k2).filter n.testBit).length (intVs ((List.range k2).filter n.testBit)) rfl (HR.out.alloc _) ⟨wr.heap.size, 0, none⟩ 1 1 [.int .i64 k2] rfl rfl ?a1 ?b1 ?c1 ?d1 ?e1 ?f1))
           case a1 =>
            intro j u hju
            rw [add_offi]
            unfold World.cell?
            rw [World.alloc_heap_new]
            simpa using hju
           case b1 => simp [Value.oneCell']
           case c1 => simp only [maxLen]; omega
           case d1 => omega
           case e1 => (first | omega | (simp; omega))
           case f1 =>
            rintro v' w8 hown hgrow -
            have HB8 := Lib.hid (HB.out.trans ((((Below.refl _ wr).alloc (Nat.le_refl _) (.cells #[.int .i64 k2] 3)).mono hz).trans (below_row (HR.out.alloc _) (by simp; omega) hgrow)))
            have HO := Lib.hid hown
            clear hgrow hown hi1 hi2 hi3 hi4 e6
            go_wp2_with fail
            go_roundw
            case rel => exact ⟨k2 + 1, by omega, by go_num, (by
             show World.ownsRow _ _ _ _ _ _ _
             rw [range_filter_yes HBT.out.symm]
             have h := HO.out
             simpa [intVs] using h), HB8.out⟩
            case measure => exact loop_less hlt
         | false =>
           go_wp2_with fail
           go_roundw
           case rel => exact ⟨k2 + 1, by omega, by go_num, (by rw [range_filter_no HBT.out.symm]; exact HR.out), HB.out⟩
           case measure => exact loop_less hlt
       · obtain rfl : k2 = 3 + N0 := by omega
         have hxs := ints_of_row HR.out
         obtain ⟨oa, ocap, ho, -⟩ := id hxs
         obtain ⟨OTN, hOTN⟩ : ∃ q, q = (((List.range (3 + N0)).filter n.testBit).map fun (n : Nat) => (n : Int)).length := ⟨_, rfl⟩
         obtain ⟨xs, hxsd⟩ : ∃ l, l = ((List.range (3 + N0)).filter n.testBit).map fun (n : Nat) => (n : Int) := ⟨_, rfl⟩
         have hot : OTN <= 11 := by rw [hOTN, List.length_map]; have := range_filter_len n.testBit (3 + N0); omega
         rw [<- hOTN] at ho
         subst ho
         rw [<- hxsd] at hOTN hxs
         have HXS := Lib.hid hxs
         have HXSD := Lib.hid hxsd
         have HOTN := Lib.hid hOTN
         have HB9 := Lib.hid (HB7.out.trans (HB.out.mono HB7.out.size))
         have HWV := Lib.hid (HWV.out.later HB.out)
         have HWO := (fun W h1 h2 => without_any b a0 cap0 xs (.slice oa OTN ocap) W h1 (by rw [<- HN0.out]; exact hm8) h2 (by have := HOTN.out; omega))
         rw [<- HN0.out] at HWO
         obtain ⟨c2, hc2⟩ : ∃ c, c = woB b (fun (i : Nat) => decide ((i : Int) ∈ xs)) := ⟨_, rfl⟩
         rw [<- hc2] at HWO
         have HWO := Lib.hid HWO
         have HC2 := Lib.hid hc2
         have HCF2 : Hid ((checkK p c2).2.2 = 0) := Lib.hid (by rw [hc2]; exact wo_fine HEC.out)
         clear hxs hxsd hOTN hc2 HR HB HB7 HB77 hlt HI
         clear e6
         have e6 := blk_cell (blk_later HB9.out Y2.out) 6
         go_wp2_with fail
         clear e6
         obtain ⟨wd, hwd⟩ : ∃ v, v = wr.drew := ⟨_, rfl⟩
         have HWD : Hid (Below w2.heap.size w2 wd) := Lib.hid (by rw [hwd]; exact Below.drew HB9.out)
         have D1 := Lib.hid (blk_later HWD.out Y1.out)
         have D2 := Lib.hid (blk_later HWD.out Y2.out)
         have HXD := Lib.hid (show IntsAt wd (.slice oa OTN ocap) xs from by rw [hwd]; exact (HXS.out).later (Below.drew (Below.refl _ _)))
         have HDD : Hid (Below wr.heap.size wr wd) := Lib.hid (by rw [hwd]; exact Below.drew (Below.refl _ _))
         have HSS : Hid (∀ u : World, Below wd.heap.size wd u -> u.cell? ⟨w.heap.size, 0, none⟩ = some (.slice a n1 cap) /\ u.cell? ⟨w.heap.size, 1, none⟩ = some (.slice a2 n2 cap2) /\ u.cell? ⟨w.heap.size, 2, none⟩ = some (.int .i64 p.trim) /\ u.cell? ⟨w.heap.size, 3, none⟩ = some (.int .i64 p.sheets) /\ u.cell? ⟨w.heap.size + 1, 0, none⟩ = some (.int .i64 b.leaves) /\ u.cell? ⟨w.heap.size + 1, 1, none⟩ = some (.int .i64 b.chain) /\ u.cell? ⟨w.heap.size + 1, 2, none⟩ = some (.int .i64 b.wlo) /\ u.cell? ⟨w.heap.size + 1, 3, none⟩ = some (.int .i64 b.whi) /\ u.cell? ⟨w.heap.size + 1, 4, none⟩ = some (.int .i64 b.hlo) /\ u.cell? ⟨w.heap.size + 1, 5, none⟩ = some (.int .i64 b.hhi) /\ u.cell? ⟨w.heap.size + 1, 6, none⟩ = some (.slice a0 N0 cap0)) := Lib.hid (fun u hb => ⟨blk_cell (blk_later hb D1.out) 0, blk_cell (blk_later hb D1.out) 1, blk_cell (blk_later hb D1.out) 2, blk_cell (blk_later hb D1.out) 3, blk_cell (blk_later hb D2.out) 0, blk_cell (blk_later hb D2.out) 1, blk_cell (blk_later hb D2.out) 2, blk_cell (blk_later hb D2.out) 3, blk_cell (blk_later hb D2.out) 4, blk_cell (blk_later hb D2.out) 5, blk_cell (blk_later hb D2.out) 6⟩)
         refine wp_region_held_drew (S := fun u => u.cell? ⟨w.heap.size, 0, none⟩ = some (.slice a n1 cap) /\ u.cell? ⟨w.heap.size, 1, none⟩ = some (.slice a2 n2 cap2) /\ u.cell? ⟨w.heap.size, 2, none⟩ = some (.int .i64 p.trim) /\ u.cell? ⟨w.heap.size, 3, none⟩ = some (.int .i64 p.sheets) /\ u.cell? ⟨w.heap.size + 1, 0, none⟩ = some (.int .i64 b.leaves) /\ u.cell? ⟨w.heap.size + 1, 1, none⟩ = some (.int .i64 b.chain) /\ u.cell? ⟨w.heap.size + 1, 2, none⟩ = some (.int .i64 b.wlo) /\ u.cell? ⟨w.heap.size + 1, 3, none⟩ = some (.int .i64 b.whi) /\ u.cell? ⟨w.heap.size + 1, 4, none⟩ = some (.int .i64 b.hlo) /\ u.cell? ⟨w.heap.size + 1, 5, none⟩ = some (.int .i64 b.hhi) /\ u.cell? ⟨w.heap.size + 1, 6, none⟩ = some (.slice a0 N0 cap0)) (by kernel_rfl) (by rw [<- hwd]; exact HSS.out _ (Below.refl _ _)) (fun hHeld => ?_)
         rw [<- hwd] at hHeld ⊢
         clear hwd
         refine wpAnyH_take (i := 0) (v := ?_) rfl (by kernel_rfl) (by kernel_rfl) (by kernel_rfl) (fun _ _ _ h => h) (Or.inl ⟨by rfl, ?_⟩) (by assumption) ?_
         rotate_left
         · (intro w hSw; (try dsimp only at hSw); (try simp only [List.getElem_toArray, List.getElem_cons_zero, List.getElem_cons_succ]); go_simp; (try with_reducible rfl))
         (try simp only [List.getElem_toArray, List.getElem_cons_zero, List.getElem_cons_succ, Act.put, List.setIfInBounds_toArray, List.set_cons_zero, List.set_cons_succ])
         refine wpAnyH_take (i := 1) (v := ?_) rfl (by kernel_rfl) (by kernel_rfl) (by kernel_rfl) (fun _ _ _ h => h) (Or.inl ⟨by rfl, ?_⟩) (by assumption) ?_
         rotate_left
         · (intro w hSw; (try dsimp only at hSw); (try simp only [List.getElem_toArray, List.getElem_cons_zero, List.getElem_cons_succ]); go_simp; (try with_reducible rfl))
         (try simp only [List.getElem_toArray, List.getElem_cons_zero, List.getElem_cons_succ, Act.put, List.setIfInBounds_toArray, List.set_cons_zero, List.set_cons_succ])
         refine wpAnyH_take (i := 2) (v := ?_) rfl (by kernel_rfl) (by kernel_rfl) (by kernel_rfl) (fun _ _ _ h => h) (Or.inl ⟨by rfl, ?_⟩) (by assumption) ?_
         rotate_left
         · (intro w hSw; (try dsimp only at hSw); (try simp only [List.getElem_toArray, List.getElem_cons_zero, List.getElem_cons_succ]); go_simp; (try with_reducible rfl))
         (try simp only [List.getElem_toArray, List.getElem_cons_zero, List.getElem_cons_succ, Act.put, List.setIfInBounds_toArray, List.set_cons_zero, List.set_cons_succ])
         refine wpAnyH_ready (rs := [3]) (by kernel_rfl) (by simp) ?_
         refine AllReadyH.cons rfl (fun K hK => ?_) AllReadyH.nil
         go_simp
         refine (HWO.out wd (HMS.out.later (HB2.out.trans (HWD.out.mono HB2.out.size))) HXD.out).mono ?_
         rintro e ua ⟨⟨mk2, rfl, hmk2⟩, hba⟩
         have HMK2 := Lib.hid hmk2
         have HBA := Lib.hid hba
         clear hmk2 hba
         dsimp only
         go_simp
         refine hK.out _ _ ?_ (fun hNew => ?_)
         · exact HSS.out _ HBA.out
         clear hK K hHeld
         have hHeld := hNew
         clear hNew
         (try simp only [List.getElem_toArray, List.getElem_cons_zero, List.getElem_cons_succ, Act.put, List.setIfInBounds_toArray, List.set_cons_zero, List.set_cons_succ])
         refine wpAnyH_ready (rs := [4]) (by kernel_rfl) (by simp) ?_
         refine AllReadyH.cons rfl (fun K hK => ?_) AllReadyH.nil
         go_simp
         refine (Agree_good p c2 _ mk2 ua (HP.out.later (HB2.out.trans ((HWD.out.trans (HBA.out.mono HWD.out.size)).mono HB2.out.size))) HMK2.out HCF2.out).mono ?_
         rintro e ub ⟨⟨kv2, rfl, hkv2⟩, hbb⟩
         have HKV2 := Lib.hid (rows_of_own (enc := mkC) (fun _ => rfl) hkv2)
         have HBB := Lib.hid (HBA.out.trans (hbb.mono HBA.out.size))
         clear hkv2 hbb HMK2
         obtain ⟨ka2, kc2, hk2, -⟩ := id HKV2.out
         obtain ⟨KN2, hKN2⟩ : ∃ n, n = (agreeL p c2).length := ⟨_, rfl⟩
         rw [<- hKN2] at hk2
         subst hk2
         have HKN2 := Lib.hid hKN2
         clear hKN2
         dsimp only
         go_simp
         refine hK.out _ _ ?_ (fun hNew => ?_)
         · exact HSS.out _ HBB.out
         clear hK K hHeld
         have hHeld := hNew
         clear hNew
         (try simp only [List.getElem_toArray, List.getElem_cons_zero, List.getElem_cons_succ, Act.put, List.setIfInBounds_toArray, List.set_cons_zero, List.set_cons_succ])
         refine wpAnyH_take (i := 5) (v := ?_) rfl (by kernel_rfl) (by kernel_rfl) (by kernel_rfl) (fun _ _ _ h => h) (Or.inl ⟨by rfl, ?_⟩) (by assumption) ?_
         rotate_left
         · (intro w hSw; (try dsimp only at hSw); (try simp only [List.getElem_toArray, List.getElem_cons_zero, List.getElem_cons_succ]); go_simp; (try with_reducible rfl))
         (try simp only [List.getElem_toArray, List.getElem_cons_zero, List.getElem_cons_succ, Act.put, List.setIfInBounds_toArray, List.set_cons_zero, List.set_cons_succ])
         refine wpAnyH_take (i := 6) (v := ?_) rfl (by kernel_rfl) (by kernel_rfl) (by kernel_rfl) (fun _ _ _ h => h) (Or.inl ⟨by rfl, ?_⟩) (by assumption) ?_
         rotate_left
         · (intro w hSw; (try dsimp only at hSw); (try simp only [List.getElem_toArray, List.getElem_cons_zero, List.getElem_cons_succ]); go_simp; (try with_reducible rfl))
         (try simp only [List.getElem_toArray, List.getElem_cons_zero, List.getElem_cons_succ, Act.put, List.setIfInBounds_toArray, List.set_cons_zero, List.set_cons_succ])
         refine wpAnyH_take (i := 7) (v := ?_) rfl (by kernel_rfl) (by kernel_rfl) (by kernel_rfl) (fun _ _ _ h => h) (Or.inl ⟨by rfl, ?_⟩) (by assumption) ?_
         rotate_left
         · (intro w hSw; (try dsimp only at hSw); (try simp only [List.getElem_toArray, List.getElem_cons_zero, List.getElem_cons_succ]); go_simp; (try with_reducible rfl))
         (try simp only [List.getElem_toArray, List.getElem_cons_zero, List.getElem_cons_succ, Act.put, List.setIfInBounds_toArray, List.set_cons_zero, List.set_cons_succ])
         refine wpAnyH_take (i := 8) (v := ?_) rfl (by kernel_rfl) (by kernel_rfl) (by kernel_rfl) (fun _ _ _ h => h) (Or.inl ⟨by rfl, ?_⟩) (by assumption) ?_
         rotate_left
         · (intro w hSw; (try dsimp only at hSw); (try simp only [List.getElem_toArray, List.getElem_cons_zero, List.getElem_cons_succ]); go_simp; (try with_reducible rfl))
         (try simp only [List.getElem_toArray, List.getElem_cons_zero, List.getElem_cons_succ, Act.put, List.setIfInBounds_toArray, List.set_cons_zero, List.set_cons_succ])
         refine wpAnyH_take (i := 9) (v := ?_) rfl (by kernel_rfl) (by kernel_rfl) (by kernel_rfl) (fun _ _ _ h => h) (Or.inl ⟨by rfl, ?_⟩) (by assumption) ?_
         rotate_left
         · (intro w hSw; (try dsimp only at hSw); (try simp only [List.getElem_toArray, List.getElem_cons_zero, List.getElem_cons_succ]); go_simp; (try with_reducible rfl))
         (try simp only [List.getElem_toArray, List.getElem_cons_zero, List.getElem_cons_succ, Act.put, List.setIfInBounds_toArray, List.set_cons_zero, List.set_cons_succ])
         refine wpAnyH_done (by kernel_rfl) ?_ _
         have HBZ2 := Lib.hid (HWD.out.trans (HBB.out.mono HWD.out.size))
         have HDZ2 := Lib.hid (HDD.out.trans (HBB.out.mono HDD.out.size))
         clear hHeld HSS HBA HBB D1 D2 HXD HWD HDD
         have HWV := Lib.hid (HWV.out.later HDZ2.out)
         have HB10 := Lib.hid (HB2.out.trans (HBZ2.out.mono HB2.out.size))
         clear HWO HXS HB9
         rcases HCS.out with ⟨hev, hws, hwy⟩ | ⟨hev, hws, hwy⟩
         · subst hev
           have hwn0 : WN = 0 := by rw [HWN.out, hws]; rfl
           have hkn0 : KN2 = 0 := by rw [HKN2.out, HC2.out, wo_none HE.out (by rw [<- HN0.out]; exact hm8) hwy]; rfl
           subst hwn0 hkn0
           clear hws hwy
           go_wp2_with fail
           refine (awake_any2 (t := t) (blk_later HB10.out HW.out)).mono ?_
           rintro e wz ⟨rfl, hbz⟩
           have hb99 := (HB10.out).trans (hbz.mono (HB10.out).size)
           clear hbz
           go_wp2_with fail
           go_ret
           exact ⟨rfl, hb99⟩
         · subst hev
           have hn0l : 3 + N0 <= 11 := by omega
           have hbw := wrong_agree HEC.out hwy
           have hwsb : ∀ i y, ws[i]? = some y -> y < 3 + N0 := fun i y hy => by
            have h1 := List.mem_of_getElem? hy
            rw [hws] at h1
            unfold idxV at h1
            have h2 := (List.mem_filter.1 h1).2
            refine Nat.lt_of_not_le fun h3 => ?_
            have h4 := Nat.testBit_lt_two_pow (Nat.lt_of_lt_of_le hbw.1 (Nat.pow_le_pow_right (by decide) (show 3 + b.marks.length <= y by rw [<- HN0.out]; exact h3)))
            rw [h4] at h2
            cases h2
           have hwss : ∀ i y z, ws[i]? = some y -> ws[i + 1]? = some z -> y < z := fun i y z hy hz => by
            rw [hws] at hy hz
            unfold idxV at hy hz
            have hp := List.Pairwise.filter (bestW p b).testBit (List.pairwise_lt_range (n := 11))
            obtain ⟨l1, e1⟩ := List.getElem?_eq_some_iff.1 hy
            obtain ⟨l2, e2⟩ := List.getElem?_eq_some_iff.1 hz
            rw [<- e1, <- e2]
            exact List.pairwise_iff_getElem.1 hp i (i + 1) l1 l2 (by omega)
           have HWSB := Lib.hid hwsb
           have HWSS := Lib.hid hwss
           have HWSD := Lib.hid hws
           have HWY := Lib.hid hwy
           clear hws hwy hbw hwsb hwss
           go_wp2_with fail
           go_loopw [21] (fun j wx => ∃ (k3 : Nat), k3 <= WN /\ j = .int .i64 k3 /\ Hid (Below ub.heap.size ub wx)) (fun j _ => WN - (intOf j).toNat)
           case atStart => exact ⟨0, by omega, rfl, Lib.hid (Below.refl _ _)⟩
           case round =>
            obtain ⟨k3, hk3, rfl, HBX⟩ := hrel
            by_cases hlt : k3 < WN
            · obtain ⟨y, hy⟩ : ∃ y, ws[k3]? = some y := ⟨_, List.getElem?_eq_getElem (by have := HWN.out; rw [List.length_map] at this; omega)⟩
              have hyb := HWSB.out k3 y hy
              have hx : (ws.map fun (n : Nat) => (n : Int))[k3]? = some (y : Int) := by rw [List.getElem?_map, hy]; rfl
              obtain ⟨g, rfl, -, q0⟩ := (HWV.out.later HBX.out).get hx
              have e6 := blk_cell (blk_later (HBZ2.out.trans (HBX.out.mono HBZ2.out.size)) Y2.out) 6
              have d0 : decide ((y : Int) < 0) = false := decide_eq_false (by omega)
              have d1 : decide ((3 : Int) + (N0 : Int) <= (y : Int)) = false := decide_eq_false (by omega)
              have c0 : ¬ (3 + N0 <= y) := by omega
              by_cases hz : k3 = 0
              · have HY := Lib.hid hy
                subst hz
                have d2 : decide ((0 : Int) < ((0 : Nat) : Int)) = false := decide_eq_false (by omega)
                clear hx hy
                go_wp2_with fail
                go_quiet (fail)
                go_wp2_with fail
                go_roundw
                case rel => exact ⟨1, by omega, by go_num, Lib.hid (bdrewN HBX.out _)⟩
                case measure => exact loop_less hlt
              · obtain ⟨k4, hk4⟩ : ∃ k4, k3 = k4 + 1 := ⟨k3 - 1, by omega⟩
                obtain ⟨y2, hy2⟩ : ∃ y, ws[k4]? = some y := ⟨_, List.getElem?_eq_getElem (by have := (List.getElem?_eq_some_iff.1 hy).1; omega)⟩
                have hyy := HWSS.out k4 y2 y hy2 (by rw [<- hk4]; exact hy)
                have hx2 : (ws.map fun (n : Nat) => (n : Int))[k4]? = some (y2 : Int) := by rw [List.getElem?_map, hy2]; rfl
                obtain ⟨g2, eg, -, q1⟩ := (HWV.out.later HBX.out).get hx2
                simp only [Option.some.injEq, Addr.mk.injEq, and_true] at eg
                subst eg
                have he : (k3 : Int) - 1 = (k4 : Int) := by omega
                have hk4l : k4 < WN := by omega
                have d2 : decide ((0 : Int) < (k3 : Int)) = true := decide_eq_true (by omega)
                have d3 : decide ((y : Int) <= (y2 : Int)) = false := decide_eq_false (by omega)
                have c2 : 0 < k3 := by omega
                have c3 : ¬ (y <= y2) := by omega
                clear hx hx2 hy hy2 hk4 hz
                go_wp2_with fail
                go_quiet (fail)
                go_wp2_with fail
                go_roundw
                case rel => exact ⟨k3 + 1, by omega, by go_num, Lib.hid (bdrewN HBX.out _)⟩
                case measure => exact loop_less hlt
            · obtain rfl : k3 = WN := by omega
              have HBX2 := Lib.hid (HBZ2.out.trans (HBX.out.mono HBZ2.out.size))
              obtain ⟨wl, hwl⟩ : ∃ l, l = ws.map fun (n : Nat) => (n : Int) := ⟨_, rfl⟩
              have HWW := Lib.hid (HWV.out.later HBX.out)
              rw [<- hwl] at HWW
              have HWL := Lib.hid hwl
              have HWO := (fun W h1 h2 => without_any b a0 cap0 wl (.slice wa k3 wcap) W h1 (by rw [<- HN0.out]; exact hm8) h2 (by rw [HWL.out, <- HWN.out]; omega))
              rw [<- HN0.out] at HWO
              obtain ⟨c3, hc3⟩ : ∃ c, c = woB b (fun (i : Nat) => decide ((i : Int) ∈ wl)) := ⟨_, rfl⟩
              rw [<- hc3] at HWO
              have HWO := Lib.hid HWO
              have HC3 := Lib.hid hc3
              have HCF3 : Hid ((checkK p c3).2.2 = 0) := Lib.hid (by rw [hc3]; exact wo_fine HEC.out)
              clear hwl hc3 hlt
              go_wp2_with fail
              obtain ⟨wd, hwd⟩ : ∃ v, v = wr.drew := ⟨_, rfl⟩
              have HWD : Hid (Below w2.heap.size w2 wd) := Lib.hid (by rw [hwd]; exact Below.drew HBX2.out)
              have D1 := Lib.hid (blk_later HWD.out Y1.out)
              have D2 := Lib.hid (blk_later HWD.out Y2.out)
              have HXD := Lib.hid (show IntsAt wd (.slice wa k3 wcap) wl from by rw [hwd]; exact (HWW.out).later (Below.drew (Below.refl _ _)))
              have HDD : Hid (Below wr.heap.size wr wd) := Lib.hid (by rw [hwd]; exact Below.drew (Below.refl _ _))
              have HSS : Hid (∀ u : World, Below wd.heap.size wd u -> u.cell? ⟨w.heap.size, 0, none⟩ = some (.slice a n1 cap) /\ u.cell? ⟨w.heap.size, 1, none⟩ = some (.slice a2 n2 cap2) /\ u.cell? ⟨w.heap.size, 2, none⟩ = some (.int .i64 p.trim) /\ u.cell? ⟨w.heap.size, 3, none⟩ = some (.int .i64 p.sheets) /\ u.cell? ⟨w.heap.size + 1, 0, none⟩ = some (.int .i64 b.leaves) /\ u.cell? ⟨w.heap.size + 1, 1, none⟩ = some (.int .i64 b.chain) /\ u.cell? ⟨w.heap.size + 1, 2, none⟩ = some (.int .i64 b.wlo) /\ u.cell? ⟨w.heap.size + 1, 3, none⟩ = some (.int .i64 b.whi) /\ u.cell? ⟨w.heap.size + 1, 4, none⟩ = some (.int .i64 b.hlo) /\ u.cell? ⟨w.heap.size + 1, 5, none⟩ = some (.int .i64 b.hhi) /\ u.cell? ⟨w.heap.size + 1, 6, none⟩ = some (.slice a0 N0 cap0)) := Lib.hid (fun u hb => ⟨blk_cell (blk_later hb D1.out) 0, blk_cell (blk_later hb D1.out) 1, blk_cell (blk_later hb D1.out) 2, blk_cell (blk_later hb D1.out) 3, blk_cell (blk_later hb D2.out) 0, blk_cell (blk_later hb D2.out) 1, blk_cell (blk_later hb D2.out) 2, blk_cell (blk_later hb D2.out) 3, blk_cell (blk_later hb D2.out) 4, blk_cell (blk_later hb D2.out) 5, blk_cell (blk_later hb D2.out) 6⟩)
              refine wp_region_held_drew (S := fun u => u.cell? ⟨w.heap.size, 0, none⟩ = some (.slice a n1 cap) /\ u.cell? ⟨w.heap.size, 1, none⟩ = some (.slice a2 n2 cap2) /\ u.cell? ⟨w.heap.size, 2, none⟩ = some (.int .i64 p.trim) /\ u.cell? ⟨w.heap.size, 3, none⟩ = some (.int .i64 p.sheets) /\ u.cell? ⟨w.heap.size + 1, 0, none⟩ = some (.int .i64 b.leaves) /\ u.cell? ⟨w.heap.size + 1, 1, none⟩ = some (.int .i64 b.chain) /\ u.cell? ⟨w.heap.size + 1, 2, none⟩ = some (.int .i64 b.wlo) /\ u.cell? ⟨w.heap.size + 1, 3, none⟩ = some (.int .i64 b.whi) /\ u.cell? ⟨w.heap.size + 1, 4, none⟩ = some (.int .i64 b.hlo) /\ u.cell? ⟨w.heap.size + 1, 5, none⟩ = some (.int .i64 b.hhi) /\ u.cell? ⟨w.heap.size + 1, 6, none⟩ = some (.slice a0 N0 cap0)) (by kernel_rfl) (by rw [<- hwd]; exact HSS.out _ (Below.refl _ _)) (fun hHeld => ?_)
              rw [<- hwd] at hHeld ⊢
              clear hwd
              refine wpAnyH_take (i := 0) (v := ?_) rfl (by kernel_rfl) (by kernel_rfl) (by kernel_rfl) (fun _ _ _ h => h) (Or.inl ⟨by rfl, ?_⟩) (by assumption) ?_
              rotate_left
              · (intro w hSw; (try dsimp only at hSw); (try simp only [List.getElem_toArray, List.getElem_cons_zero, List.getElem_cons_succ]); go_simp; (try with_reducible rfl))
              (try simp only [List.getElem_toArray, List.getElem_cons_zero, List.getElem_cons_succ, Act.put, List.setIfInBounds_toArray, List.set_cons_zero, List.set_cons_succ])
              refine wpAnyH_take (i := 1) (v := ?_) rfl (by kernel_rfl) (by kernel_rfl) (by kernel_rfl) (fun _ _ _ h => h) (Or.inl ⟨by rfl, ?_⟩) (by assumption) ?_
              rotate_left
              · (intro w hSw; (try dsimp only at hSw); (try simp only [List.getElem_toArray, List.getElem_cons_zero, List.getElem_cons_succ]); go_simp; (try with_reducible rfl))
              (try simp only [List.getElem_toArray, List.getElem_cons_zero, List.getElem_cons_succ, Act.put, List.setIfInBounds_toArray, List.set_cons_zero, List.set_cons_succ])
              refine wpAnyH_take (i := 2) (v := ?_) rfl (by kernel_rfl) (by kernel_rfl) (by kernel_rfl) (fun _ _ _ h => h) (Or.inl ⟨by rfl, ?_⟩) (by assumption) ?_
              rotate_left
              · (intro w hSw; (try dsimp only at hSw); (try simp only [List.getElem_toArray, List.getElem_cons_zero, List.getElem_cons_succ]); go_simp; (try with_reducible rfl))
              (try simp only [List.getElem_toArray, List.getElem_cons_zero, List.getElem_cons_succ, Act.put, List.setIfInBounds_toArray, List.set_cons_zero, List.set_cons_succ])
              refine wpAnyH_ready (rs := [3]) (by kernel_rfl) (by simp) ?_
              refine AllReadyH.cons rfl (fun K hK => ?_) AllReadyH.nil
              go_simp
              refine (HWO.out wd (HMS.out.later (HB2.out.trans (HWD.out.mono HB2.out.size))) HXD.out).mono ?_
              rintro e uc ⟨⟨mk3, rfl, hmk3⟩, hba⟩
              have HMK3 := Lib.hid hmk3
              have HBA := Lib.hid hba
              clear hmk3 hba
              dsimp only
              go_simp
              refine hK.out _ _ ?_ (fun hNew => ?_)
              · exact HSS.out _ HBA.out
              clear hK K hHeld
              have hHeld := hNew
              clear hNew
              (try simp only [List.getElem_toArray, List.getElem_cons_zero, List.getElem_cons_succ, Act.put, List.setIfInBounds_toArray, List.set_cons_zero, List.set_cons_succ])
              refine wpAnyH_ready (rs := [4]) (by kernel_rfl) (by simp) ?_
              refine AllReadyH.cons rfl (fun K hK => ?_) AllReadyH.nil
              go_simp
              refine (Agree_good p c3 _ mk3 uc (HP.out.later (HB2.out.trans ((HWD.out.trans (HBA.out.mono HWD.out.size)).mono HB2.out.size))) HMK3.out HCF3.out).mono ?_
              rintro e ud ⟨⟨kv3, rfl, hkv3⟩, hbb⟩
              have HKV3 := Lib.hid (rows_of_own (enc := mkC) (fun _ => rfl) hkv3)
              have HBB := Lib.hid (HBA.out.trans (hbb.mono HBA.out.size))
              clear hkv3 hbb HMK3
              obtain ⟨ka3, kc3, hk3, -⟩ := id HKV3.out
              obtain ⟨KN3, hKN3⟩ : ∃ n, n = (agreeL p c3).length := ⟨_, rfl⟩
              rw [<- hKN3] at hk3
              subst hk3
              have HKN3 := Lib.hid hKN3
              clear hKN3
              dsimp only
              go_simp
              refine hK.out _ _ ?_ (fun hNew => ?_)
              · exact HSS.out _ HBB.out
              clear hK K hHeld
              have hHeld := hNew
              clear hNew
              (try simp only [List.getElem_toArray, List.getElem_cons_zero, List.getElem_cons_succ, Act.put, List.setIfInBounds_toArray, List.set_cons_zero, List.set_cons_succ])
              refine wpAnyH_take (i := 5) (v := ?_) rfl (by kernel_rfl) (by kernel_rfl) (by kernel_rfl) (fun _ _ _ h => h) (Or.inl ⟨by rfl, ?_⟩) (by assumption) ?_
              rotate_left
              · (intro w hSw; (try dsimp only at hSw); (try simp only [List.getElem_toArray, List.getElem_cons_zero, List.getElem_cons_succ]); go_simp; (try with_reducible rfl))
              (try simp only [List.getElem_toArray, List.getElem_cons_zero, List.getElem_cons_succ, Act.put, List.setIfInBounds_toArray, List.set_cons_zero, List.set_cons_succ])
              refine wpAnyH_take (i := 6) (v := ?_) rfl (by kernel_rfl) (by kernel_rfl) (by kernel_rfl) (fun _ _ _ h => h) (Or.inl ⟨by rfl, ?_⟩) (by assumption) ?_
              rotate_left
              · (intro w hSw; (try dsimp only at hSw); (try simp only [List.getElem_toArray, List.getElem_cons_zero, List.getElem_cons_succ]); go_simp; (try with_reducible rfl))
              (try simp only [List.getElem_toArray, List.getElem_cons_zero, List.getElem_cons_succ, Act.put, List.setIfInBounds_toArray, List.set_cons_zero, List.set_cons_succ])
              refine wpAnyH_take (i := 7) (v := ?_) rfl (by kernel_rfl) (by kernel_rfl) (by kernel_rfl) (fun _ _ _ h => h) (Or.inl ⟨by rfl, ?_⟩) (by assumption) ?_
              rotate_left
              · (intro w hSw; (try dsimp only at hSw); (try simp only [List.getElem_toArray, List.getElem_cons_zero, List.getElem_cons_succ]); go_simp; (try with_reducible rfl))
              (try simp only [List.getElem_toArray, List.getElem_cons_zero, List.getElem_cons_succ, Act.put, List.setIfInBounds_toArray, List.set_cons_zero, List.set_cons_succ])
              refine wpAnyH_take (i := 8) (v := ?_) rfl (by kernel_rfl) (by kernel_rfl) (by kernel_rfl) (fun _ _ _ h => h) (Or.inl ⟨by rfl, ?_⟩) (by assumption) ?_
              rotate_left
              · (intro w hSw; (try dsimp only at hSw); (try simp only [List.getElem_toArray, List.getElem_cons_zero, List.getElem_cons_succ]); go_simp; (try with_reducible rfl))
              (try simp only [List.getElem_toArray, List.getElem_cons_zero, List.getElem_cons_succ, Act.put, List.setIfInBounds_toArray, List.set_cons_zero, List.set_cons_succ])
              refine wpAnyH_take (i := 9) (v := ?_) rfl (by kernel_rfl) (by kernel_rfl) (by kernel_rfl) (fun _ _ _ h => h) (Or.inl ⟨by rfl, ?_⟩) (by assumption) ?_
              rotate_left
              · (intro w hSw; (try dsimp only at hSw); (try simp only [List.getElem_toArray, List.getElem_cons_zero, List.getElem_cons_succ]); go_simp; (try with_reducible rfl))
              (try simp only [List.getElem_toArray, List.getElem_cons_zero, List.getElem_cons_succ, Act.put, List.setIfInBounds_toArray, List.set_cons_zero, List.set_cons_succ])
              refine wpAnyH_done (by kernel_rfl) ?_ _
              have HBZ3 := Lib.hid (HWD.out.trans (HBB.out.mono HWD.out.size))
              have HDZ3 := Lib.hid (HDD.out.trans (HBB.out.mono HDD.out.size))
              clear hHeld HSS HBA HBB D1 D2 HXD HWD HDD
              have HB11 := Lib.hid (HB2.out.trans (HBZ3.out.mono HB2.out.size))
              have hk3n : 0 < KN3 := by
               rw [HKN3.out, HC3.out]
               refine List.length_pos_iff.2 (wo_some HEC.out HWY.out fun i hi => ?_)
               rw [HWL.out, HWSD.out]
               refine Bool.eq_iff_iff.2 ?_
               rw [decide_eq_true_iff, mem_cast]
               unfold idxV
               rw [List.mem_filter, List.mem_range]
               exact ⟨fun h => h.2, fun h => ⟨by have := HN0.out; omega, h⟩⟩
              have hk2n : KN2 = 0 ∨ k3 <= OTN := by
               by_cases h0 : KN2 = 0
               · exact Or.inl h0
               · refine Or.inr ?_
                 have h := wo_few HEC.out n.testBit (t := fun (i : Nat) => decide ((i : Int) ∈ xs)) (fun i hi => by
                  rw [HXSD.out]
                  refine Bool.eq_iff_iff.2 ?_
                  rw [decide_eq_true_iff, mem_cast, List.mem_filter, List.mem_range]
                  exact ⟨fun h => h.2, fun h => ⟨by have := HN0.out; omega, h⟩⟩) (by
                  rw [<- HC2.out]
                  intro h
                  exact h0 (by rw [HKN2.out, h]; rfl))
                 rw [HWN.out, List.length_map, HWSD.out, HOTN.out, HXSD.out, List.length_map, HN0.out]
                 exact h
              have a1 : ¬ KN3 = 0 := by omega
              rcases hk2n with h | h
              · subst h
                go_wp2_with fail
                refine (awake_any2 (t := t) (blk_later HB11.out HW.out)).mono ?_
                rintro e wz ⟨rfl, hbz⟩
                have hb99 := (HB11.out).trans (hbz.mono (HB11.out).size)
                clear hbz
                go_wp2_with fail
                go_ret
                exact ⟨rfl, hb99⟩
              · have a2 : decide ((k3 : Int) <= (OTN : Int)) = true := decide_eq_true (by omega)
                by_cases h0 : KN2 = 0
                · subst h0
                  go_wp2_with fail
                  refine (awake_any2 (t := t) (blk_later HB11.out HW.out)).mono ?_
                  rintro e wz ⟨rfl, hbz⟩
                  have hb99 := (HB11.out).trans (hbz.mono (HB11.out).size)
                  clear hbz
                  go_wp2_with fail
                  go_ret
                  exact ⟨rfl, hb99⟩
                · have a3 : ((KN2 : Int) == 0) = false := by simp; exact h0
                  go_wp2_with fail
                  refine (awake_any2 (t := t) (blk_later HB11.out HW.out)).mono ?_
                  rintro e wz ⟨rfl, hbz⟩
                  have hb99 := (HB11.out).trans (hbz.mono (HB11.out).size)
                  clear hbz
                  go_wp2_with fail
                  go_ret
                  exact ⟨rfl, hb99⟩
end
end Go.Proofs.YtpdhdgdbknnllaaGreatDoor
