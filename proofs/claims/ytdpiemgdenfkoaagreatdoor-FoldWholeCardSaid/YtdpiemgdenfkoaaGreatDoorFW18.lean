/- The parts Ub of the proof, joined. It holds without conditions of its own. -/
import Derived.Test.YtdpiemgdenfkoaaGreatDoorFW14
import Derived.Deep.Cut
import Derived.Test.YtdpiemgdenfkoaaGreatDoorFW17
/- FoldWhole. -/
namespace Go.Proofs.YtdpiemgdenfkoaaGreatDoor
set_option linter.unusedSimpArgs false
set_option linter.unusedVariables false
open Go Go.RowKit Go.Sort Go.BigFrame

theorem mem_cast {xs : List Nat} {k : Nat} : decide ((k : Int) ∈ xs.map fun (n : Nat) => (n : Int)) = decide (k ∈ xs) := by
  refine decide_eq_decide.2 ⟨fun h => ?_, fun h => List.mem_map.2 ⟨k, h, rfl⟩⟩
  obtain ⟨j, hj, e⟩ := List.mem_map.1 h
  have : j = k := by omega
  rwa [← this]

set_option maxRecDepth 100000 in
set_option maxHeartbeats 4000000 in
theorem FoldWhole_any (p : Prs) (vp : Value) (x0 x1 x2 : Nat) (hx0 : x0 < 65536) (hx1 : x1 < 65536) (hx2 : x2 < 65536) (w : World) (t : TypeId) (hp : PrsAt w.heap.size w vp p) (hW : w.heap[0]? = some (.cells tabL.toArray t (0, 0))) :
    Calls Tryz.prog 7 #[vp, .agg #[.int .u16 x0, .int .u16 x1, .int .u16 x2]] w fun e w' => e = .returned (.bool true) ∧ Below w.heap.size w w' := by
  have HP := Lib.hid hp
  have HW := Lib.hid hW
  obtain ⟨fv, pv, rfl, ⟨a, cap, rfl, hfc⟩, ⟨a2, cap2, rfl, -⟩, -⟩ := hp
  have HFC := Lib.hid hfc
  obtain ⟨n1, hn1⟩ : ∃ n, n = p.fmts.length := ⟨_, rfl⟩
  obtain ⟨n2, hn2⟩ : ∃ n, n = p.pprs.length := ⟨_, rfl⟩
  rw [← hn1, ← hn2] at HP ⊢
  have HN1 := Lib.hid hn1
  clear hn1 hn2 hW hfc
  go_enter Tryz.func7, Tryz.ntmps7
  go_wp2_with fail
  have hb0 : Below w.heap.size w ((w.alloc (.cells #[.slice a n1 cap, .slice a2 n2 cap2, .int .i64 p.trim, .int .i64 p.sheets] 25)).alloc (.cells #[.int .u16 x0, .int .u16 x1, .int .u16 x2] 64)) := by exact (by repeat (first | exact Below.refl _ _ | assumption | (refine Below.alloc ?_ ?_ _; rotate_left; · (first | omega | (simp; done) | (simp; omega) | fail)) | (refine Below.setCell ?_ ?_ _; rotate_left; · (first | omega | (simp; done) | (simp; omega) | fail)) | refine Below.drew ?_ | fail))
  have b1 : ((w.alloc (.cells #[.slice a n1 cap, .slice a2 n2 cap2, .int .i64 p.trim, .int .i64 p.sheets] 25)).alloc (.cells #[.int .u16 x0, .int .u16 x1, .int .u16 x2] 64)).heap[w.heap.size]? = some (.cells #[.slice a n1 cap, .slice a2 n2 cap2, .int .i64 p.trim, .int .i64 p.sheets] 25 (0, 0)) := by exact (by repeat (first | exact heap_alloc_at _ _ _ (by (first | omega | (simp; done) | (simp; omega) | (simp at *; omega) | fail)) | assumption | rw [heap_alloc_past _ _ _ (by (first | omega | (simp; done) | (simp; omega) | (simp at *; omega) | fail))] | rw [heap_setCell_past _ _ _ _ (by (first | omega | (simp; done) | (simp; omega) | (simp at *; omega) | fail))] | fail))
  have b2 : ((w.alloc (.cells #[.slice a n1 cap, .slice a2 n2 cap2, .int .i64 p.trim, .int .i64 p.sheets] 25)).alloc (.cells #[.int .u16 x0, .int .u16 x1, .int .u16 x2] 64)).heap[w.heap.size + 1]? = some (.cells #[.int .u16 x0, .int .u16 x1, .int .u16 x2] 64 (0, 0)) := by exact (by repeat (first | exact heap_alloc_at _ _ _ (by (first | omega | (simp; done) | (simp; omega) | (simp at *; omega) | fail)) | assumption | rw [heap_alloc_past _ _ _ (by (first | omega | (simp; done) | (simp; omega) | (simp at *; omega) | fail))] | rw [heap_setCell_past _ _ _ _ (by (first | omega | (simp; done) | (simp; omega) | (simp at *; omega) | fail))] | fail))
  generalize hw1 : ((w.alloc (.cells #[.slice a n1 cap, .slice a2 n2 cap2, .int .i64 p.trim, .int .i64 p.sheets] 25)).alloc (.cells #[.int .u16 x0, .int .u16 x1, .int .u16 x2] 64)) = w1 at *
  clear hw1
  have p0 := blk_cell b1 0
  have p1 := blk_cell b1 1
  have p2 := blk_cell b1 2
  have p3 := blk_cell b1 3
  have x0' := blk_cell b2 0
  have x1' := blk_cell b2 1
  have x2' := blk_cell b2 2
  obtain ⟨ep, hep⟩ : ∃ ep, ep = errP p := ⟨_, rfl⟩
  have HEP := Lib.hid hep
  refine (valid2_any p _ _ (HP.out.later hb0)).mono ?_
  rintro e w9 ⟨rfl, hb⟩
  rw [← hep]
  clear hep
  replace b1 := blk_later hb b1
  replace b2 := blk_later hb b2
  replace hb0 := hb0.trans (hb.mono hb0.size)
  clear p0 p1 p2 p3 x0' x1' x2' hb
  generalize w9 = w2 at *
  have p0 := blk_cell b1 0
  have p1 := blk_cell b1 1
  have p2 := blk_cell b1 2
  have p3 := blk_cell b1 3
  have x0' := blk_cell b2 0
  have x1' := blk_cell b2 1
  have x2' := blk_cell b2 2
  by_cases h0 : ep = 0
  · have e0 : (ep == 0) = true := by simp [h0]
    have HE := Lib.hid (show errP p = 0 by rw [← HEP.out]; exact h0)
    clear HEP
    subst h0
    clear e0
    go_wp2_with fail
    refine (Made2_any p _ x0 _ (HP.out.later hb0) HE.out hx0).mono ?_
    rintro e w9 ⟨⟨m, rfl, hm⟩, hb⟩
    have HM := Lib.hid hm
    clear hm
    replace b1 := blk_later hb b1
    replace b2 := blk_later hb b2
    replace hb0 := hb0.trans (hb.mono hb0.size)
    clear p0 p1 p2 p3 x0' x1' x2' hb
    generalize w9 = w3 at *
    have p0 := blk_cell b1 0
    have p1 := blk_cell b1 1
    have p2 := blk_cell b1 2
    have p3 := blk_cell b1 3
    have x0' := blk_cell b2 0
    have x1' := blk_cell b2 1
    have x2' := blk_cell b2 2
    obtain ⟨m1, m2, m3, m4⟩ := fine_at HE.out HM.out
    obtain ⟨f, hf⟩ : ∃ f, p.fmts[m.fmt.toNat]? = some f := ⟨_, List.getElem?_eq_getElem m2⟩
    have HF := Lib.hid hf
    have FN := Lib.hid (fine_of HE.out HM.out hf)
    clear hf m1 m2 m3 m4
    have hb : Below w3.heap.size w3 (w3.alloc (.cells #[.int .i64 m.fmt, .int .i64 m.ppr, .int .i64 m.sheets, .bool m.half] 38)) := (Below.refl _ _).alloc (Nat.le_refl _) _
    have b3 : (w3.alloc (.cells #[.int .i64 m.fmt, .int .i64 m.ppr, .int .i64 m.sheets, .bool m.half] 38)).heap[w3.heap.size]? = some (.cells #[.int .i64 m.fmt, .int .i64 m.ppr, .int .i64 m.sheets, .bool m.half] 38 (0, 0)) := World.alloc_heap_new _ _
    replace b1 := blk_later hb b1
    replace b2 := blk_later hb b2
    replace hb0 := hb0.trans (hb.mono hb0.size)
    clear p0 p1 p2 p3 x0' x1' x2' hb
    have p0 := blk_cell b1 0
    have p1 := blk_cell b1 1
    have p2 := blk_cell b1 2
    have p3 := blk_cell b1 3
    have x0' := blk_cell b2 0
    have x1' := blk_cell b2 1
    have x2' := blk_cell b2 2
    have q0 := blk_cell b3 0
    have q1 := blk_cell b3 1
    have q2 := blk_cell b3 2
    have q3 := blk_cell b3 3
    go_wp2_with fail
    refine (Leaves2_any p m _ _ (HP.out.later hb0) HE.out HM.out).mono ?_
    rintro e w9 ⟨⟨f', lv, g, hfx, rfl, hl, -⟩, hb⟩
    obtain rfl : f' = f := Option.some.inj (hfx.symm.trans HF.out)
    clear hfx
    obtain ⟨ls, hls⟩ : ∃ ls, ls = leavesW m f' := ⟨_, rfl⟩
    have hcnt := FN.out.count
    have hsz := FN.out.size
    rw [← hls] at hcnt hsz
    rw [show leavesF (fdsB f'.folds) m.sheets.toNat m.half = ls from hls.symm] at hl
    have HLS := Lib.hid hls
    have HPL : Hid (placesB ls = true) := Lib.hid (by rw [hls]; exact FN.out.places)
    have HL := Lib.hid hl
    obtain ⟨k7, rest, rfl, -⟩ := hl
    obtain ⟨N, hN⟩ : ∃ N, N = ls.length := ⟨_, rfl⟩
    obtain ⟨Z, hZ⟩ : ∃ Z, Z = sizeW m f' := ⟨_, rfl⟩
    rw [← hN] at HL hcnt ⊢
    rw [← hN, ← hZ] at hsz
    have HN := Lib.hid hN
    have HZ := Lib.hid hZ
    obtain ⟨hc1, hc64⟩ := hcnt
    have HSZ := Lib.hid hsz
    clear hls hN hZ hsz
    generalize hB : w3.heap.size = B at *
    clear hB
    replace b1 := blk_later hb b1
    replace b2 := blk_later hb b2
    replace b3 := blk_later hb b3
    replace hb0 := hb0.trans (hb.mono hb0.size)
    clear p0 p1 p2 p3 x0' x1' x2' q0 q1 q2 q3 hb
    generalize w9 = w4 at *
    have p0 := blk_cell b1 0
    have p1 := blk_cell b1 1
    have p2 := blk_cell b1 2
    have p3 := blk_cell b1 3
    have x0' := blk_cell b2 0
    have x1' := blk_cell b2 1
    have x2' := blk_cell b2 2
    have q0 := blk_cell b3 0
    have q1 := blk_cell b3 1
    have q2 := blk_cell b3 2
    have q3 := blk_cell b3 3
    obtain ⟨m1, m2, -, -⟩ := fine_at HE.out HM.out
    rw [← HN1.out] at m2
    have m3 : m.fmt < (n1 : Int) := by omega
    obtain ⟨b', off, rfl, hb', hc⟩ := HFC.out (fun h => by have := HF.out; rw [h] at this; simp at this)
    have qf : w4.cell? ⟨b', off + m.fmt.toNat * 2 + 1, none⟩ = some (S f'.folds) := cell_later' hb0 (by have := hc m.fmt.toNat f' HF.out 1 _ rfl; simpa using this)
    obtain ⟨M, hM⟩ : ∃ M, f'.folds.length = M := ⟨_, rfl⟩
    have hzs : (⟨f'.folds.toArray⟩ : ByteArray).size = M := (size_bytes f'.folds).trans hM
    have hM1 : 1 ≤ M := by have := FN.out.len1; omega
    have hM4 : M ≤ 4 := by have := FN.out.len4; omega
    have HMM := Lib.hid hM
    clear hc hb' hM
    go_wp2_with fail
    go_loopw [8, 9] (fun s j wr => ∃ (k P : Nat), k ≤ M ∧ j = .int .i64 k ∧ s = .int .i64 P ∧ Hid (P = 2 ^ k) ∧ P ≤ 16 ∧ wr = w4) (fun _ j _ => M - (intOf j).toNat)
    case atStart => exact ⟨0, 1, by omega, rfl, rfl, (by show 1 = 2 ^ 0; rfl), by omega, rfl⟩
    case round =>
      obtain ⟨k, P, hk, rfl, rfl, HP2, hP, rfl⟩ := hrel
      by_cases hlt : k < M
      · have hP8 : P ≤ 8 := by
          rw [HP2.out]
          exact Nat.le_trans (Nat.pow_le_pow_right (by omega) (show k ≤ 3 by omega)) (by decide)
        go_wp2_with fail
        go_roundw
        case rel => exact ⟨k + 1, P * 2, by omega, by go_num, by go_num, (by show P * 2 = 2 ^ (k + 1); rw [Nat.pow_succ, HP2.out]), by omega, trivial⟩
        case measure => simp [intOf]; omega
      · obtain rfl : k = M := by omega
        clear hlt hk
        obtain ⟨hf, hhf⟩ : ∃ hf, m.half = hf := ⟨_, rfl⟩
        have HH := Lib.hid hhf
        replace q3 : wr.cell? ⟨B, 3, none⟩ = some (.bool hf) := by rw [← hhf]; exact q3
        clear hhf
        cases hf with
        | false =>
          obtain rfl : Z = P := by rw [HP2.out, HZ.out]; unfold sizeW; rw [HH.out, HMM.out]; rfl
          have HPZ : Hid (Z ≤ 16) := Lib.hid hP
          go_upto_region 12 with fail
          have hz1 : 1 ≤ Z := by rw [HZ.out]; unfold sizeW; split <;> exact Nat.one_le_two_pow
          have hz16 : Z ≤ 16 := HPZ.out
          clear HPZ HP2 hP
          have hns : ((N : Int) != wrap64 ((Z : Int) * m.sheets)) = false := by
            have e : (Z : Int) * m.sheets = (N : Int) := by
              have h1 := FN.out.sh1
              rw [HSZ.out, Int.natCast_mul, Int.toNat_of_nonneg (by omega)]
            rw [e, show wrap64 (N : Int) = (N : Int) by unfold wrap64; omega]
            simp
          go_wp2_with fail
          go_loopw [10] (fun i wx => ∃ (i' q : Nat), i' ≤ N ∧ i = .int .i64 i' ∧ wx = wr.drewN q) (fun i _ => N - (intOf i).toNat)
          case atStart => exact ⟨0, 0, by omega, rfl, rfl⟩
          case round =>
            obtain ⟨i, q, hi, rfl, rfl⟩ := hrel
            by_cases hlt : i < N
            · obtain ⟨x, hx⟩ : ∃ x, ls[i]? = some x := ⟨_, List.getElem?_eq_getElem (by have := HN.out; omega)⟩
              have HX := Lib.hid hx
              have HIN := Lib.hid (by have h := FN.out.sheet (i := i) (a := x); rw [← HLS.out] at h; exact h hx : x.sheet < m.sheets.toNat)
              obtain ⟨r0, r1, r2, r3, r4⟩ := leaf_cells HL.out hx
              clear hx
              go_wp2_with fail
              go_loopw [11] (fun k wx => ∃ (k' r : Nat), k' ≤ i ∧ k = .int .i64 k' ∧ wx = wr.drewN r) (fun k _ => i - (intOf k).toNat)
              case atStart => exact ⟨0, q, by omega, rfl, rfl⟩
              case round =>
                obtain ⟨k, r, hk, rfl, rfl⟩ := hrel
                by_cases hlt2 : k < i
                · obtain ⟨y, hy⟩ : ∃ y, ls[k]? = some y := ⟨_, List.getElem?_eq_getElem (by have := HN.out; omega)⟩
                  have hne := place_ne HPL.out hlt2 HX.out hy
                  obtain ⟨s0, s1, s2, s3, s4⟩ := leaf_cells HL.out hy
                  clear hy HX HIN
                  obtain ⟨xs, xc, xr, xi, xt⟩ := x
                  obtain ⟨ys, yc, yr, yi, yt⟩ := y
                  dsimp only at hne r0 r1 r2 r3 r4 s0 s1 s2 s3 s4
                  have e1 : (¬ xs = ys ∧ ¬ (xs : Int) = (ys : Int)) ∨ (xs = ys ∧ ((¬ xc = yc ∧ ¬ (xc : Int) = (yc : Int)) ∨ (xc = yc ∧ ¬ xr = yr ∧ ¬ (xr : Int) = (yr : Int)))) := by omega
                  clear hne
                  have hkN : k < N := by omega
                  rcases e1 with ⟨h1, h1'⟩ | ⟨rfl, ⟨h1, h1'⟩ | ⟨rfl, h1, h1'⟩⟩
                  · have f1 : ((xs : Int) == (ys : Int)) = false := beq_eq_false_iff_ne.2 h1'
                    clear h1 h1'
                    as_aux_lemma =>
                      go_wp2_with fail

                      go_quiet (fail)
                      go_wp2_with fail
                      go_roundw
                      case rel => exact ⟨k + 1, _, by omega, by go_num, rfl⟩
                      case measure => simp [intOf]; omega
                  · have f1 : ((xs : Int) == (xs : Int)) = true := beq_self_eq_true _
                    have f2 : ((xc : Int) == (yc : Int)) = false := beq_eq_false_iff_ne.2 h1'
                    clear h1 h1'
                    as_aux_lemma =>
                      go_wp2_with fail

                      go_quiet (fail)
                      go_wp2_with fail
                      go_roundw
                      case rel => exact ⟨k + 1, _, by omega, by go_num, rfl⟩
                      case measure => simp [intOf]; omega
                  · have f1 : ((xs : Int) == (xs : Int)) = true := beq_self_eq_true _
                    have f2 : ((xc : Int) == (xc : Int)) = true := beq_self_eq_true _
                    have f3 : ((xr : Int) == (yr : Int)) = false := beq_eq_false_iff_ne.2 h1'
                    clear h1 h1'
                    as_aux_lemma =>
                      go_wp2_with fail

                      go_quiet (fail)
                      go_wp2_with fail
                      go_roundw
                      case rel => exact ⟨k + 1, _, by omega, by go_num, rfl⟩
                      case measure => simp [intOf]; omega
                · obtain rfl : k = i := by omega
                  obtain ⟨xs, xc, xr, xi, xt⟩ := x
                  dsimp only at HIN r0 r1 r2 r3 r4
                  have g1 : decide ((xc : Int) < 0) = false := decide_eq_false (by omega)
                  have g2 : decide ((xr : Int) < 0) = false := decide_eq_false (by omega)
                  have g3 : decide ((xs : Int) < 0) = false := decide_eq_false (by omega)
                  have g4 : decide ((xs : Int) ≥ m.sheets) = false := decide_eq_false (by have := HIN.out; omega)
                  clear HX HIN
                  as_aux_lemma =>
                    go_wp2_with fail
                    go_quiet (fail)
                    go_wp2_with fail
                    go_roundw
                    case rel => exact ⟨k + 1, _, by omega, by go_num, rfl⟩
                    case measure => simp [intOf]; omega
            · obtain rfl : N = i := by omega
              clear hi hlt hns
              go_upto_region 24 with fail
              have hb : Below wr.heap.size wr (wr.drewN q) := bdrewN (Below.refl _ _) q
              have HL4 := Lib.hid (HL.out.later hb)
              clear HL qf
              generalize wr.drewN q = w9 at *
              replace b1 := blk_later hb b1
              replace b2 := blk_later hb b2
              replace b3 := blk_later hb b3
              replace hb0 := hb0.trans (hb.mono hb0.size)
              clear p0 p1 p2 p3 x0' x1' x2' q0 q1 q2 q3 hb
              generalize w9 = w5 at *
              have p0 := blk_cell b1 0
              have p1 := blk_cell b1 1
              have p2 := blk_cell b1 2
              have p3 := blk_cell b1 3
              have x0' := blk_cell b2 0
              have x1' := blk_cell b2 1
              have x2' := blk_cell b2 2
              have q0 := blk_cell b3 0
              have q1 := blk_cell b3 1
              have q2 := blk_cell b3 2
              have q3 := blk_cell b3 3
              have e1 : ((N : Int) == 0) = false := by simp; omega
              have hk1 : x1 % N < N := Nat.mod_lt _ (by omega)
              have i1 : (x1 : Int) % (N : Int) = ((x1 % N : Nat) : Int) := (Int.natCast_emod _ _).symm
              have hk2 : x2 % N < N := Nat.mod_lt _ (by omega)
              have i2 : (x2 : Int) % (N : Int) = ((x2 % N : Nat) : Int) := (Int.natCast_emod _ _).symm
              obtain ⟨ka, hka⟩ : ∃ ka, ka = x1 % N := ⟨_, rfl⟩
              obtain ⟨kb, hkb⟩ : ∃ kb, kb = x2 % N := ⟨_, rfl⟩
              rw [← hka] at hk1 i1
              rw [← hkb] at hk2 i2
              clear hka hkb
              go_wp2_with fail
              go_quiet (fail)
              have hb : Below w5.heap.size w5 (w5.drewN nq) := bdrewN (Below.refl _ _) nq
              have HL5 := Lib.hid (HL4.out.later hb)
              clear HL4
              generalize w5.drewN nq = w9 at *
              replace b1 := blk_later hb b1
              replace b2 := blk_later hb b2
              replace b3 := blk_later hb b3
              replace hb0 := hb0.trans (hb.mono hb0.size)
              clear p0 p1 p2 p3 x0' x1' x2' q0 q1 q2 q3 hb
              generalize w9 = w6 at *
              have p0 := blk_cell b1 0
              have p1 := blk_cell b1 1
              have p2 := blk_cell b1 2
              have p3 := blk_cell b1 3
              have x0' := blk_cell b2 0
              have x1' := blk_cell b2 1
              have x2' := blk_cell b2 2
              have q0 := blk_cell b3 0
              have q1 := blk_cell b3 1
              have q2 := blk_cell b3 2
              have q3 := blk_cell b3 3
              go_wp2_with fail
              rw [i1, i2]
              clear i1 i2
              refine (Mates_any p m f' ls ka _ _ (HP.out.later hb0) HE.out HM.out HF.out HLS.out (by rw [← HN.out]; omega) (by rw [← HN.out]; exact hk1)).mono ?_
              rintro e w9 ⟨⟨v5, rfl, hv5⟩, hb⟩
              have HL6 := Lib.hid (HL5.out.later hb)
              clear HL5
              replace b1 := blk_later hb b1
              replace b2 := blk_later hb b2
              replace b3 := blk_later hb b3
              replace hb0 := hb0.trans (hb.mono hb0.size)
              clear p0 p1 p2 p3 x0' x1' x2' q0 q1 q2 q3 hb
              generalize w9 = w7 at *
              have p0 := blk_cell b1 0
              have p1 := blk_cell b1 1
              have p2 := blk_cell b1 2
              have p3 := blk_cell b1 3
              have x0' := blk_cell b2 0
              have x1' := blk_cell b2 1
              have x2' := blk_cell b2 2
              have q0 := blk_cell b3 0
              have q1 := blk_cell b3 1
              have q2 := blk_cell b3 2
              have q3 := blk_cell b3 3
              go_wp2_with fail
              refine (Mates_any p m f' ls kb _ _ (HP.out.later hb0) HE.out HM.out HF.out HLS.out (by rw [← HN.out]; omega) (by rw [← HN.out]; exact hk2)).mono ?_
              rintro e w9 ⟨⟨v6, rfl, hv6⟩, hb⟩
              have HL7 := Lib.hid (HL6.out.later hb)
              replace hv5 := hv5.later hb
              clear HL6
              replace b1 := blk_later hb b1
              replace b2 := blk_later hb b2
              replace b3 := blk_later hb b3
              replace hb0 := hb0.trans (hb.mono hb0.size)
              clear p0 p1 p2 p3 x0' x1' x2' q0 q1 q2 q3 hb
              generalize w9 = w8 at *
              have p0 := blk_cell b1 0
              have p1 := blk_cell b1 1
              have p2 := blk_cell b1 2
              have p3 := blk_cell b1 3
              have x0' := blk_cell b2 0
              have x1' := blk_cell b2 1
              have x2' := blk_cell b2 2
              have q0 := blk_cell b3 0
              have q1 := blk_cell b3 1
              have q2 := blk_cell b3 2
              have q3 := blk_cell b3 3
              have HV5 := Lib.hid hv5
              have HV6 := Lib.hid hv6
              obtain ⟨a5, cap5, rfl, -⟩ := hv5
              obtain ⟨a6, cap6, rfl, -⟩ := hv6
              obtain ⟨y, hy⟩ : ∃ y, ls[ka]? = some y := ⟨_, List.getElem?_eq_getElem (by rw [← HN.out]; exact hk1)⟩
              obtain ⟨z, hz⟩ : ∃ z, ls[kb]? = some z := ⟨_, List.getElem?_eq_getElem (by rw [← HN.out]; exact hk2)⟩
              have HY := Lib.hid hy
              have HZZ := Lib.hid hz
              have n5 := FN.out.each (i := ka) (by show ka < (leavesW m f').length; rw [← HLS.out, ← HN.out]; exact hk1)
              have n6 := FN.out.each (i := kb) (by show kb < (leavesW m f').length; rw [← HLS.out, ← HN.out]; exact hk2)
              rw [← HLS.out, ← HZ.out, ← List.length_map (f := fun (n : Nat) => (n : Int))] at n5 n6
              obtain ⟨L5, hL5⟩ : ∃ L, L = (matesF ls ka).map fun (n : Nat) => (n : Int) := ⟨_, rfl⟩
              obtain ⟨L6, hL6⟩ : ∃ L, L = (matesF ls kb).map fun (n : Nat) => (n : Int) := ⟨_, rfl⟩
              rw [← hL5] at n5 HV5 ⊢
              rw [← hL6] at n6 HV6 ⊢
              have g5 : decide ((ka : Int) ∈ L5) = false := by rw [hL5, mem_cast]; exact mates_own HPL.out hy
              have g6 : decide ((kb : Int) ∈ L6) = false := by rw [hL6, mem_cast]; exact mates_own HPL.out hz
              have HL5' := Lib.hid hL5
              have HL6' := Lib.hid hL6
              obtain ⟨N5, hN5⟩ : ∃ n, n = L5.length := ⟨_, rfl⟩
              obtain ⟨N6, hN6⟩ : ∃ n, n = L6.length := ⟨_, rfl⟩
              rw [← hN5] at n5 HV5 ⊢
              rw [← hN6] at n6 HV6 ⊢
              have HN5 := Lib.hid hN5
              have HN6 := Lib.hid hN6
              have e5 : ((N5 : Int) != (Z : Int) - 1) = false := by simp; omega
              have e6 : ((N6 : Int) != (Z : Int) - 1) = false := by simp; omega
              have h5s : N5 ≤ 15 := by omega
              have h6s : N6 ≤ 15 := by omega
              have G5 := Lib.hid g5
              have G6 := Lib.hid g6
              clear hL5 hL6 hN5 hN6 hy hz n5 n6 g5 g6
              go_wp2_with fail
              refine (refHas_any L5 _ _ _ HV5.out (by rw [← HN5.out]; omega)).mono ?_
              rintro e w9 ⟨rfl, h9⟩
              obtain rfl := h9.symm
              rw [G5.out]
              go_wp2_with fail
              refine (refHas_any L6 _ _ _ HV6.out (by rw [← HN6.out]; omega)).mono ?_
              rintro e w9 ⟨rfl, h9⟩
              obtain rfl := h9.symm
              rw [G6.out]
              by_cases hik : ka = kb
              · have f1 : ((ka : Int) == (kb : Int)) = true := by simp [hik]
                have HLL : Hid (decide (L5 = L6) = true) := Lib.hid (decide_eq_true (by rw [HL5'.out, HL6'.out, hik]))
                clear hik
                go_wp2_with fail
                refine (Ints_any L5 L6 _ _ _ HV5.out HV6.out (by rw [← HN5.out]; omega) (by rw [← HN6.out]; omega)).mono ?_
                rintro e w9 ⟨rfl, hb⟩
                rw [HLL.out]
                clear HV5 HV6 HL7
                replace b1 := blk_later hb b1
                replace b2 := blk_later hb b2
                replace b3 := blk_later hb b3
                replace hb0 := hb0.trans (hb.mono hb0.size)
                clear p0 p1 p2 p3 x0' x1' x2' q0 q1 q2 q3 hb
                generalize w9 = w10 at *
                have p0 := blk_cell b1 0
                have p1 := blk_cell b1 1
                have p2 := blk_cell b1 2
                have p3 := blk_cell b1 3
                have x0' := blk_cell b2 0
                have x1' := blk_cell b2 1
                have x2' := blk_cell b2 2
                have q0 := blk_cell b3 0
                have q1 := blk_cell b3 1
                have q2 := blk_cell b3 2
                have q3 := blk_cell b3 3
                go_wp2_with fail
                refine (awake_any2 (t := t) (blk_later hb0 HW.out)).mono ?_
                rintro e w6 ⟨rfl, hb⟩
                have hb6 := hb0.trans (hb.mono hb0.size)
                clear hb0 hb b1 b2 b3 p0 p1 p2 p3 x0' x1' x2' q0 q1 q2 q3
                go_wp2_with fail
                go_ret
                exact ⟨rfl, hb6⟩
              · have f1 : ((ka : Int) == (kb : Int)) = false := by simp; omega
                obtain ⟨hT1, hT2⟩ := mates_sym HPL.out HY.out HZZ.out hik
                obtain ⟨T, hT⟩ : ∃ T, T = decide (kb ∈ matesF ls ka) := ⟨_, rfl⟩
                rw [← hT] at hT1 hT2
                have HT : Hid (decide ((kb : Int) ∈ L5) = T) := Lib.hid (by rw [HL5'.out, mem_cast]; exact hT.symm)
                have HT1 : Hid (decide ((ka : Int) ∈ L6) = T) := Lib.hid (by rw [HL6'.out, mem_cast]; exact hT1)
                have HT2 := Lib.hid hT2
                clear hT hT1 hT2 hik
                go_wp2_with fail
                refine (refHas_any L5 _ _ _ HV5.out (by rw [← HN5.out]; omega)).mono ?_
                rintro e w9 ⟨rfl, h9⟩
                obtain rfl := h9.symm
                rw [HT.out]
                clear HT
                go_wp2_with fail
                clear p0 p1 p2 p3 x0' x1' x2' q0 q1 q2 q3
                go_loopw [21] (fun x wx => ∃ (x' : Nat), x' ≤ N5 ∧ x = .int .i64 x' ∧ Hid (Below w8.heap.size w8 wx)) (fun x _ => N5 - (intOf x).toNat)
                case atStart => exact ⟨0, by omega, rfl, Below.refl _ _⟩
                case round =>
                  obtain ⟨x, hx, rfl, HB⟩ := hrel
                  by_cases hlt : x < N5
                  · obtain ⟨v, hv⟩ : ∃ v, (matesF ls ka)[x]? = some v := ⟨_, List.getElem?_eq_getElem (by have := HN5.out; rw [HL5'.out, List.length_map] at this; omega)⟩
                    obtain ⟨c, hc, hcs, hcT⟩ := mates_of HPL.out HY.out HZZ.out (List.mem_of_getElem? hv)
                    have hvN : v < N := by rw [HN.out]; exact mates_lt (List.mem_of_getElem? hv)
                    obtain ⟨g5, rfl, -, c5⟩ := (HV5.out.later HB.out).get (i := x) (x := (v : Int)) (by rw [HL5'.out, List.getElem?_map, hv]; rfl)
                    obtain ⟨r0, -, -, -, -⟩ := leaf_cells (HL7.out.later HB.out) hc
                    obtain ⟨s0, -, -, -, -⟩ := leaf_cells (HL7.out.later HB.out) HY.out
                    have pc5 := cell_regrown c5
                    have pr0 := cell_regrown r0
                    have ps0 := cell_regrown s0
                    have f2 : decide ((v : Int) < 0) = false := decide_eq_false (by omega)
                    have f3 : decide (N ≤ v) = false := decide_eq_false (by omega)
                    have f4 : ((c.sheet : Int) != (y.sheet : Int)) = false := by rw [hcs]; simp
                    have HC2 := Lib.hid (show v ≠ kb → decide ((v : Int) ∈ L6) = T from fun hn => by rw [HL6'.out, mem_cast, hcT hn]; exact HT2.out.symm)
                    have HV := Lib.hid hv
                    clear hv hc hcs hcT
                    by_cases hvk : v = kb
                    · have f5 : ((v : Int) != (kb : Int)) = false := by simp [hvk]
                      clear HC2 hvk
                      have c1 : True := trivial
                      as_aux_lemma =>
                        cases x with
                        | zero =>
                          go_wp2_with fail
                          refine wp_region_quiet_below (by kernel_rfl) (by kernel_rfl) ?_; (repeat (go_big_quiet_step (fail))); refine wpQuiet_nil ?_; rintro w3 ⟨⟨d3, os3⟩, rfl⟩
                          have HB3 := Lib.hid (HB.out.trans ((below_regrown wr d3 os3).mono HB.out.size))
                          clear HV c1 pc5 pr0 ps0 c5 r0 s0
                          dsimp only
                          generalize grow (redrawn wr d3) os3 = w3 at *
                          go_wp2_with fail
                          go_roundw
                          case rel => exact ⟨1, by omega, by go_num, HB3.out⟩
                          case measure => simp [intOf]; omega
                        | succ x =>
                          obtain ⟨u, hu⟩ : ∃ u, (matesF ls ka)[x]? = some u := ⟨_, List.getElem?_eq_getElem (by have := HN5.out; rw [HL5'.out, List.length_map] at this; omega)⟩
                          obtain ⟨g9, hg9, -, c9⟩ := (HV5.out.later HB.out).get (i := x) (x := (u : Int)) (by rw [HL5'.out, List.getElem?_map, hu]; rfl)
                          obtain rfl : g5 = g9 := by injection hg9 with hg9; injection hg9
                          have pc9 := cell_regrown c9
                          have huv := mates_up hu HV.out
                          have f8 : decide (v ≤ u) = false := decide_eq_false (by omega)
                          clear hu hg9 huv
                          go_wp2_with fail
                          refine wp_region_quiet_below (by kernel_rfl) (by kernel_rfl) ?_; (repeat (go_big_quiet_step (fail))); refine wpQuiet_nil ?_; rintro w3 ⟨⟨d3, os3⟩, rfl⟩
                          have HB3 := Lib.hid (HB.out.trans ((below_regrown wr d3 os3).mono HB.out.size))
                          clear HV c1 pc5 pr0 ps0 c5 r0 s0 c9 pc9
                          dsimp only
                          generalize grow (redrawn wr d3) os3 = w3 at *
                          go_wp2_with fail
                          go_roundw
                          case rel => exact ⟨x + 2, by omega, by go_num, HB3.out⟩
                          case measure => simp [intOf]; omega
                    · have f5 : ((v : Int) != (kb : Int)) = true := by simp; omega
                      have hTT : (T != T) = false := by simp
                      have c1 : ∀ d' os, Calls Tryz.prog 26 #[.slice a6 N6 cap6, .int .i64 v] (grow (redrawn wr d') os) (fun e w'' => e = .returned (.bool T) ∧ ∃ p : Regrown, w'' = grow (redrawn wr p.d) p.os) := fun d' os => Calls.regrown_of ((refHas_any L6 _ v _ (HV6.out.later (HB.out.trans ((below_regrown wr d' os).mono HB.out.size))) (by rw [← HN6.out]; omega)).mono fun e w' h => ⟨by rw [h.1, HC2.out hvk], by rw [h.2]; exact Below.refl _ _⟩)
                      clear hvk
                      as_aux_lemma =>
                        cases x with
                        | zero =>
                          go_wp2_with fail
                          refine wp_region_quiet_below (by kernel_rfl) (by kernel_rfl) ?_; (repeat (go_big_quiet_step (with_reducible exact c1 _ _))); refine wpQuiet_nil ?_; rintro w3 ⟨⟨d3, os3⟩, rfl⟩
                          have HB3 := Lib.hid (HB.out.trans ((below_regrown wr d3 os3).mono HB.out.size))
                          clear HV c1 pc5 pr0 ps0 c5 r0 s0
                          dsimp only
                          generalize grow (redrawn wr d3) os3 = w3 at *
                          go_wp2_with fail
                          go_roundw
                          case rel => exact ⟨1, by omega, by go_num, HB3.out⟩
                          case measure => simp [intOf]; omega
                        | succ x =>
                          obtain ⟨u, hu⟩ : ∃ u, (matesF ls ka)[x]? = some u := ⟨_, List.getElem?_eq_getElem (by have := HN5.out; rw [HL5'.out, List.length_map] at this; omega)⟩
                          obtain ⟨g9, hg9, -, c9⟩ := (HV5.out.later HB.out).get (i := x) (x := (u : Int)) (by rw [HL5'.out, List.getElem?_map, hu]; rfl)
                          obtain rfl : g5 = g9 := by injection hg9 with hg9; injection hg9
                          have pc9 := cell_regrown c9
                          have huv := mates_up hu HV.out
                          have f8 : decide (v ≤ u) = false := decide_eq_false (by omega)
                          clear hu hg9 huv
                          go_wp2_with fail
                          refine wp_region_quiet_below (by kernel_rfl) (by kernel_rfl) ?_; (repeat (go_big_quiet_step (with_reducible exact c1 _ _))); refine wpQuiet_nil ?_; rintro w3 ⟨⟨d3, os3⟩, rfl⟩
                          have HB3 := Lib.hid (HB.out.trans ((below_regrown wr d3 os3).mono HB.out.size))
                          clear HV c1 pc5 pr0 ps0 c5 r0 s0 c9 pc9
                          dsimp only
                          generalize grow (redrawn wr d3) os3 = w3 at *
                          go_wp2_with fail
                          go_roundw
                          case rel => exact ⟨x + 2, by omega, by go_num, HB3.out⟩
                          case measure => simp [intOf]; omega
                  · obtain rfl : x = N5 := by omega
                    have HB7 := Lib.hid (hb0.trans (HB.out.mono hb0.size))
                    obtain ⟨r0, -, -, -, -⟩ := leaf_cells (HL7.out.later HB.out) HY.out
                    obtain ⟨s0, -, -, -, -⟩ := leaf_cells (HL7.out.later HB.out) HZZ.out
                    have pr0 := cell_regrown r0
                    have ps0 := cell_regrown s0
                    have c1 : ∀ d' os, Calls Tryz.prog 26 #[.slice a6 N6 cap6, .int .i64 ka] (grow (redrawn wr d') os) (fun e w'' => e = .returned (.bool T) ∧ ∃ p : Regrown, w'' = grow (redrawn wr p.d) p.os) := fun d' os => Calls.regrown_of ((refHas_any L6 _ ka _ (HV6.out.later (HB.out.trans ((below_regrown wr d' os).mono HB.out.size))) (by rw [← HN6.out]; omega)).mono fun e w' h => ⟨by rw [h.1, HT1.out], by rw [h.2]; exact Below.refl _ _⟩)
                    have cA : ∀ d' os, Calls Tryz.prog 13 #[] (grow (redrawn wr d') os) (fun e w'' => e = .returned (.bool true) ∧ ∃ p : Regrown, w'' = grow (redrawn wr p.d) p.os) := fun d' os => Calls.regrown_of (awake_any2 (t := t) (blk_later (HB7.out.trans ((below_regrown wr d' os).mono HB7.out.size)) HW.out))
                    have hTT : (T == T) = true := by simp
                    have f2 : (T == ((y.sheet : Int) == (z.sheet : Int))) = true := by
                      rw [HT2.out]
                      by_cases h : y.sheet = z.sheet
                      · simp [h]
                      · have h2 : ¬ (y.sheet : Int) = (z.sheet : Int) := by omega
                        rw [decide_eq_false h, beq_eq_false_iff_ne.2 h2]; rfl
                    as_aux_lemma =>
                      clear HV5 HV6 HL7
                      go_wp2_with fail
                      refine wp_region_quiet_below (by kernel_rfl) (by kernel_rfl) ?_; (repeat (go_big_quiet_step (first | with_reducible exact c1 _ _ | with_reducible exact cA _ _))); refine wpQuiet_nil ?_; rintro w3 ⟨⟨d3, os3⟩, rfl⟩
                      have HB3 := Lib.hid (HB7.out.trans ((below_regrown wr d3 os3).mono HB7.out.size))
                      clear c1 cA pr0 ps0 r0 s0 hb0 b1 b2 b3
                      dsimp only
                      generalize grow (redrawn wr d3) os3 = w3 at *
                      go_wp2_with fail
                      go_ret
                      exact ⟨rfl, HB3.out⟩
        | true =>
          have HP3 : Hid (P = Z * 2) := Lib.hid <| by
            have := FN.out.two HH.out
            rw [fds_len, HMM.out] at this
            rw [HP2.out, HZ.out]
            unfold sizeW
            rw [HH.out, HMM.out, if_pos rfl]
            obtain ⟨j, rfl⟩ : ∃ j, k = j + 1 := ⟨k - 1, by omega⟩
            rw [Nat.pow_succ, Nat.add_sub_cancel]
          have HPZ : Hid (Z ≤ 16) := Lib.hid (by have := HP3.out; omega)
          go_upto_region 12 with fail
          rw [show (P : Int) / 2 = (Z : Int) by have := HP3.out; omega]
          clear HP3
          have hz1 : 1 ≤ Z := by rw [HZ.out]; unfold sizeW; split <;> exact Nat.one_le_two_pow
          have hz16 : Z ≤ 16 := HPZ.out
          clear HPZ HP2 hP
          have hns : ((N : Int) != wrap64 ((Z : Int) * m.sheets)) = false := by
            have e : (Z : Int) * m.sheets = (N : Int) := by
              have h1 := FN.out.sh1
              rw [HSZ.out, Int.natCast_mul, Int.toNat_of_nonneg (by omega)]
            rw [e, show wrap64 (N : Int) = (N : Int) by unfold wrap64; omega]
            simp
          go_wp2_with fail
          go_loopw [10] (fun i wx => ∃ (i' q : Nat), i' ≤ N ∧ i = .int .i64 i' ∧ wx = wr.drewN q) (fun i _ => N - (intOf i).toNat)
          case atStart => exact ⟨0, 0, by omega, rfl, rfl⟩
          case round =>
            obtain ⟨i, q, hi, rfl, rfl⟩ := hrel
            by_cases hlt : i < N
            · obtain ⟨x, hx⟩ : ∃ x, ls[i]? = some x := ⟨_, List.getElem?_eq_getElem (by have := HN.out; omega)⟩
              have HX := Lib.hid hx
              have HIN := Lib.hid (by have h := FN.out.sheet (i := i) (a := x); rw [← HLS.out] at h; exact h hx : x.sheet < m.sheets.toNat)
              obtain ⟨r0, r1, r2, r3, r4⟩ := leaf_cells HL.out hx
              clear hx
              go_wp2_with fail
              go_loopw [11] (fun k wx => ∃ (k' r : Nat), k' ≤ i ∧ k = .int .i64 k' ∧ wx = wr.drewN r) (fun k _ => i - (intOf k).toNat)
              case atStart => exact ⟨0, q, by omega, rfl, rfl⟩
              case round =>
                obtain ⟨k, r, hk, rfl, rfl⟩ := hrel
                by_cases hlt2 : k < i
                · obtain ⟨y, hy⟩ : ∃ y, ls[k]? = some y := ⟨_, List.getElem?_eq_getElem (by have := HN.out; omega)⟩
                  have hne := place_ne HPL.out hlt2 HX.out hy
                  obtain ⟨s0, s1, s2, s3, s4⟩ := leaf_cells HL.out hy
                  clear hy HX HIN
                  obtain ⟨xs, xc, xr, xi, xt⟩ := x
                  obtain ⟨ys, yc, yr, yi, yt⟩ := y
                  dsimp only at hne r0 r1 r2 r3 r4 s0 s1 s2 s3 s4
                  have e1 : (¬ xs = ys ∧ ¬ (xs : Int) = (ys : Int)) ∨ (xs = ys ∧ ((¬ xc = yc ∧ ¬ (xc : Int) = (yc : Int)) ∨ (xc = yc ∧ ¬ xr = yr ∧ ¬ (xr : Int) = (yr : Int)))) := by omega
                  clear hne
                  have hkN : k < N := by omega
                  rcases e1 with ⟨h1, h1'⟩ | ⟨rfl, ⟨h1, h1'⟩ | ⟨rfl, h1, h1'⟩⟩
                  · have f1 : ((xs : Int) == (ys : Int)) = false := beq_eq_false_iff_ne.2 h1'
                    clear h1 h1'
                    as_aux_lemma =>
                      go_wp2_with fail

                      go_quiet (fail)
                      go_wp2_with fail
                      go_roundw
                      case rel => exact ⟨k + 1, _, by omega, by go_num, rfl⟩
                      case measure => simp [intOf]; omega
                  · have f1 : ((xs : Int) == (xs : Int)) = true := beq_self_eq_true _
                    have f2 : ((xc : Int) == (yc : Int)) = false := beq_eq_false_iff_ne.2 h1'
                    clear h1 h1'
                    as_aux_lemma =>
                      go_wp2_with fail

                      go_quiet (fail)
                      go_wp2_with fail
                      go_roundw
                      case rel => exact ⟨k + 1, _, by omega, by go_num, rfl⟩
                      case measure => simp [intOf]; omega
                  · have f1 : ((xs : Int) == (xs : Int)) = true := beq_self_eq_true _
                    have f2 : ((xc : Int) == (xc : Int)) = true := beq_self_eq_true _
                    have f3 : ((xr : Int) == (yr : Int)) = false := beq_eq_false_iff_ne.2 h1'
                    clear h1 h1'
                    as_aux_lemma =>
                      go_wp2_with fail

                      go_quiet (fail)
                      go_wp2_with fail
                      go_roundw
                      case rel => exact ⟨k + 1, _, by omega, by go_num, rfl⟩
                      case measure => simp [intOf]; omega
                · obtain rfl : k = i := by omega
                  obtain ⟨xs, xc, xr, xi, xt⟩ := x
                  dsimp only at HIN r0 r1 r2 r3 r4
                  have g1 : decide ((xc : Int) < 0) = false := decide_eq_false (by omega)
                  have g2 : decide ((xr : Int) < 0) = false := decide_eq_false (by omega)
                  have g3 : decide ((xs : Int) < 0) = false := decide_eq_false (by omega)
                  have g4 : decide ((xs : Int) ≥ m.sheets) = false := decide_eq_false (by have := HIN.out; omega)
                  clear HX HIN
                  as_aux_lemma =>
                    go_wp2_with fail
                    go_quiet (fail)
                    go_wp2_with fail
                    go_roundw
                    case rel => exact ⟨k + 1, _, by omega, by go_num, rfl⟩
                    case measure => simp [intOf]; omega
            · obtain rfl : N = i := by omega
              clear hi hlt hns
              go_upto_region 24 with fail
              have hb : Below wr.heap.size wr (wr.drewN q) := bdrewN (Below.refl _ _) q
              have HL4 := Lib.hid (HL.out.later hb)
              clear HL qf
              generalize wr.drewN q = w9 at *
              replace b1 := blk_later hb b1
              replace b2 := blk_later hb b2
              replace b3 := blk_later hb b3
              replace hb0 := hb0.trans (hb.mono hb0.size)
              clear p0 p1 p2 p3 x0' x1' x2' q0 q1 q2 q3 hb
              generalize w9 = w5 at *
              have p0 := blk_cell b1 0
              have p1 := blk_cell b1 1
              have p2 := blk_cell b1 2
              have p3 := blk_cell b1 3
              have x0' := blk_cell b2 0
              have x1' := blk_cell b2 1
              have x2' := blk_cell b2 2
              have q0 := blk_cell b3 0
              have q1 := blk_cell b3 1
              have q2 := blk_cell b3 2
              have q3 := blk_cell b3 3
              have e1 : ((N : Int) == 0) = false := by simp; omega
              have hk1 : x1 % N < N := Nat.mod_lt _ (by omega)
              have i1 : (x1 : Int) % (N : Int) = ((x1 % N : Nat) : Int) := (Int.natCast_emod _ _).symm
              have hk2 : x2 % N < N := Nat.mod_lt _ (by omega)
              have i2 : (x2 : Int) % (N : Int) = ((x2 % N : Nat) : Int) := (Int.natCast_emod _ _).symm
              obtain ⟨ka, hka⟩ : ∃ ka, ka = x1 % N := ⟨_, rfl⟩
              obtain ⟨kb, hkb⟩ : ∃ kb, kb = x2 % N := ⟨_, rfl⟩
              rw [← hka] at hk1 i1
              rw [← hkb] at hk2 i2
              clear hka hkb
              go_wp2_with fail
              go_quiet (fail)
              have hb : Below w5.heap.size w5 (w5.drewN nq) := bdrewN (Below.refl _ _) nq
              have HL5 := Lib.hid (HL4.out.later hb)
              clear HL4
              generalize w5.drewN nq = w9 at *
              replace b1 := blk_later hb b1
              replace b2 := blk_later hb b2
              replace b3 := blk_later hb b3
              replace hb0 := hb0.trans (hb.mono hb0.size)
              clear p0 p1 p2 p3 x0' x1' x2' q0 q1 q2 q3 hb
              generalize w9 = w6 at *
              have p0 := blk_cell b1 0
              have p1 := blk_cell b1 1
              have p2 := blk_cell b1 2
              have p3 := blk_cell b1 3
              have x0' := blk_cell b2 0
              have x1' := blk_cell b2 1
              have x2' := blk_cell b2 2
              have q0 := blk_cell b3 0
              have q1 := blk_cell b3 1
              have q2 := blk_cell b3 2
              have q3 := blk_cell b3 3
              go_wp2_with fail
              rw [i1, i2]
              clear i1 i2
              refine (Mates_any p m f' ls ka _ _ (HP.out.later hb0) HE.out HM.out HF.out HLS.out (by rw [← HN.out]; omega) (by rw [← HN.out]; exact hk1)).mono ?_
              rintro e w9 ⟨⟨v5, rfl, hv5⟩, hb⟩
              have HL6 := Lib.hid (HL5.out.later hb)
              clear HL5
              replace b1 := blk_later hb b1
              replace b2 := blk_later hb b2
              replace b3 := blk_later hb b3
              replace hb0 := hb0.trans (hb.mono hb0.size)
              clear p0 p1 p2 p3 x0' x1' x2' q0 q1 q2 q3 hb
              generalize w9 = w7 at *
              have p0 := blk_cell b1 0
              have p1 := blk_cell b1 1
              have p2 := blk_cell b1 2
              have p3 := blk_cell b1 3
              have x0' := blk_cell b2 0
              have x1' := blk_cell b2 1
              have x2' := blk_cell b2 2
              have q0 := blk_cell b3 0
              have q1 := blk_cell b3 1
              have q2 := blk_cell b3 2
              have q3 := blk_cell b3 3
              go_wp2_with fail
              refine (Mates_any p m f' ls kb _ _ (HP.out.later hb0) HE.out HM.out HF.out HLS.out (by rw [← HN.out]; omega) (by rw [← HN.out]; exact hk2)).mono ?_
              rintro e w9 ⟨⟨v6, rfl, hv6⟩, hb⟩
              have HL7 := Lib.hid (HL6.out.later hb)
              replace hv5 := hv5.later hb
              clear HL6
              replace b1 := blk_later hb b1
              replace b2 := blk_later hb b2
              replace b3 := blk_later hb b3
              replace hb0 := hb0.trans (hb.mono hb0.size)
              clear p0 p1 p2 p3 x0' x1' x2' q0 q1 q2 q3 hb
              generalize w9 = w8 at *
              have p0 := blk_cell b1 0
              have p1 := blk_cell b1 1
              have p2 := blk_cell b1 2
              have p3 := blk_cell b1 3
              have x0' := blk_cell b2 0
              have x1' := blk_cell b2 1
              have x2' := blk_cell b2 2
              have q0 := blk_cell b3 0
              have q1 := blk_cell b3 1
              have q2 := blk_cell b3 2
              have q3 := blk_cell b3 3
              have HV5 := Lib.hid hv5
              have HV6 := Lib.hid hv6
              obtain ⟨a5, cap5, rfl, -⟩ := hv5
              obtain ⟨a6, cap6, rfl, -⟩ := hv6
              obtain ⟨y, hy⟩ : ∃ y, ls[ka]? = some y := ⟨_, List.getElem?_eq_getElem (by rw [← HN.out]; exact hk1)⟩
              obtain ⟨z, hz⟩ : ∃ z, ls[kb]? = some z := ⟨_, List.getElem?_eq_getElem (by rw [← HN.out]; exact hk2)⟩
              have HY := Lib.hid hy
              have HZZ := Lib.hid hz
              have n5 := FN.out.each (i := ka) (by show ka < (leavesW m f').length; rw [← HLS.out, ← HN.out]; exact hk1)
              have n6 := FN.out.each (i := kb) (by show kb < (leavesW m f').length; rw [← HLS.out, ← HN.out]; exact hk2)
              rw [← HLS.out, ← HZ.out, ← List.length_map (f := fun (n : Nat) => (n : Int))] at n5 n6
              obtain ⟨L5, hL5⟩ : ∃ L, L = (matesF ls ka).map fun (n : Nat) => (n : Int) := ⟨_, rfl⟩
              obtain ⟨L6, hL6⟩ : ∃ L, L = (matesF ls kb).map fun (n : Nat) => (n : Int) := ⟨_, rfl⟩
              rw [← hL5] at n5 HV5 ⊢
              rw [← hL6] at n6 HV6 ⊢
              have g5 : decide ((ka : Int) ∈ L5) = false := by rw [hL5, mem_cast]; exact mates_own HPL.out hy
              have g6 : decide ((kb : Int) ∈ L6) = false := by rw [hL6, mem_cast]; exact mates_own HPL.out hz
              have HL5' := Lib.hid hL5
              have HL6' := Lib.hid hL6
              obtain ⟨N5, hN5⟩ : ∃ n, n = L5.length := ⟨_, rfl⟩
              obtain ⟨N6, hN6⟩ : ∃ n, n = L6.length := ⟨_, rfl⟩
              rw [← hN5] at n5 HV5 ⊢
              rw [← hN6] at n6 HV6 ⊢
              have HN5 := Lib.hid hN5
              have HN6 := Lib.hid hN6
              have e5 : ((N5 : Int) != (Z : Int) - 1) = false := by simp; omega
              have e6 : ((N6 : Int) != (Z : Int) - 1) = false := by simp; omega
              have h5s : N5 ≤ 15 := by omega
              have h6s : N6 ≤ 15 := by omega
              have G5 := Lib.hid g5
              have G6 := Lib.hid g6
              clear hL5 hL6 hN5 hN6 hy hz n5 n6 g5 g6
              go_wp2_with fail
              refine (refHas_any L5 _ _ _ HV5.out (by rw [← HN5.out]; omega)).mono ?_
              rintro e w9 ⟨rfl, h9⟩
              obtain rfl := h9.symm
              rw [G5.out]
              go_wp2_with fail
              refine (refHas_any L6 _ _ _ HV6.out (by rw [← HN6.out]; omega)).mono ?_
              rintro e w9 ⟨rfl, h9⟩
              obtain rfl := h9.symm
              rw [G6.out]
              by_cases hik : ka = kb
              · have f1 : ((ka : Int) == (kb : Int)) = true := by simp [hik]
                have HLL : Hid (decide (L5 = L6) = true) := Lib.hid (decide_eq_true (by rw [HL5'.out, HL6'.out, hik]))
                clear hik
                go_wp2_with fail
                refine (Ints_any L5 L6 _ _ _ HV5.out HV6.out (by rw [← HN5.out]; omega) (by rw [← HN6.out]; omega)).mono ?_
                rintro e w9 ⟨rfl, hb⟩
                rw [HLL.out]
                clear HV5 HV6 HL7
                replace b1 := blk_later hb b1
                replace b2 := blk_later hb b2
                replace b3 := blk_later hb b3
                replace hb0 := hb0.trans (hb.mono hb0.size)
                clear p0 p1 p2 p3 x0' x1' x2' q0 q1 q2 q3 hb
                generalize w9 = w10 at *
                have p0 := blk_cell b1 0
                have p1 := blk_cell b1 1
                have p2 := blk_cell b1 2
                have p3 := blk_cell b1 3
                have x0' := blk_cell b2 0
                have x1' := blk_cell b2 1
                have x2' := blk_cell b2 2
                have q0 := blk_cell b3 0
                have q1 := blk_cell b3 1
                have q2 := blk_cell b3 2
                have q3 := blk_cell b3 3
                go_wp2_with fail
                refine (awake_any2 (t := t) (blk_later hb0 HW.out)).mono ?_
                rintro e w6 ⟨rfl, hb⟩
                have hb6 := hb0.trans (hb.mono hb0.size)
                clear hb0 hb b1 b2 b3 p0 p1 p2 p3 x0' x1' x2' q0 q1 q2 q3
                go_wp2_with fail
                go_ret
                exact ⟨rfl, hb6⟩
              · have f1 : ((ka : Int) == (kb : Int)) = false := by simp; omega
                obtain ⟨hT1, hT2⟩ := mates_sym HPL.out HY.out HZZ.out hik
                obtain ⟨T, hT⟩ : ∃ T, T = decide (kb ∈ matesF ls ka) := ⟨_, rfl⟩
                rw [← hT] at hT1 hT2
                have HT : Hid (decide ((kb : Int) ∈ L5) = T) := Lib.hid (by rw [HL5'.out, mem_cast]; exact hT.symm)
                have HT1 : Hid (decide ((ka : Int) ∈ L6) = T) := Lib.hid (by rw [HL6'.out, mem_cast]; exact hT1)
                have HT2 := Lib.hid hT2
                clear hT hT1 hT2 hik
                go_wp2_with fail
                refine (refHas_any L5 _ _ _ HV5.out (by rw [← HN5.out]; omega)).mono ?_
                rintro e w9 ⟨rfl, h9⟩
                obtain rfl := h9.symm
                rw [HT.out]
                clear HT
                go_wp2_with fail
                clear p0 p1 p2 p3 x0' x1' x2' q0 q1 q2 q3
                go_loopw [21] (fun x wx => ∃ (x' : Nat), x' ≤ N5 ∧ x = .int .i64 x' ∧ Hid (Below w8.heap.size w8 wx)) (fun x _ => N5 - (intOf x).toNat)
                case atStart => exact ⟨0, by omega, rfl, Below.refl _ _⟩
                case round =>
                  obtain ⟨x, hx, rfl, HB⟩ := hrel
                  by_cases hlt : x < N5
                  · obtain ⟨v, hv⟩ : ∃ v, (matesF ls ka)[x]? = some v := ⟨_, List.getElem?_eq_getElem (by have := HN5.out; rw [HL5'.out, List.length_map] at this; omega)⟩
                    obtain ⟨c, hc, hcs, hcT⟩ := mates_of HPL.out HY.out HZZ.out (List.mem_of_getElem? hv)
                    have hvN : v < N := by rw [HN.out]; exact mates_lt (List.mem_of_getElem? hv)
                    obtain ⟨g5, rfl, -, c5⟩ := (HV5.out.later HB.out).get (i := x) (x := (v : Int)) (by rw [HL5'.out, List.getElem?_map, hv]; rfl)
                    obtain ⟨r0, -, -, -, -⟩ := leaf_cells (HL7.out.later HB.out) hc
                    obtain ⟨s0, -, -, -, -⟩ := leaf_cells (HL7.out.later HB.out) HY.out
                    have pc5 := cell_regrown c5
                    have pr0 := cell_regrown r0
                    have ps0 := cell_regrown s0
                    have f2 : decide ((v : Int) < 0) = false := decide_eq_false (by omega)
                    have f3 : decide (N ≤ v) = false := decide_eq_false (by omega)
                    have f4 : ((c.sheet : Int) != (y.sheet : Int)) = false := by rw [hcs]; simp
                    have HC2 := Lib.hid (show v ≠ kb → decide ((v : Int) ∈ L6) = T from fun hn => by rw [HL6'.out, mem_cast, hcT hn]; exact HT2.out.symm)
                    have HV := Lib.hid hv
                    clear hv hc hcs hcT
                    by_cases hvk : v = kb
                    · have f5 : ((v : Int) != (kb : Int)) = false := by simp [hvk]
                      clear HC2 hvk
                      have c1 : True := trivial
                      as_aux_lemma =>
                        cases x with
                        | zero =>
                          go_wp2_with fail
                          refine wp_region_quiet_below (by kernel_rfl) (by kernel_rfl) ?_; (repeat (go_big_quiet_step (fail))); refine wpQuiet_nil ?_; rintro w3 ⟨⟨d3, os3⟩, rfl⟩
                          have HB3 := Lib.hid (HB.out.trans ((below_regrown wr d3 os3).mono HB.out.size))
                          clear HV c1 pc5 pr0 ps0 c5 r0 s0
                          dsimp only
                          generalize grow (redrawn wr d3) os3 = w3 at *
                          go_wp2_with fail
                          go_roundw
                          case rel => exact ⟨1, by omega, by go_num, HB3.out⟩
                          case measure => simp [intOf]; omega
                        | succ x =>
                          obtain ⟨u, hu⟩ : ∃ u, (matesF ls ka)[x]? = some u := ⟨_, List.getElem?_eq_getElem (by have := HN5.out; rw [HL5'.out, List.length_map] at this; omega)⟩
                          obtain ⟨g9, hg9, -, c9⟩ := (HV5.out.later HB.out).get (i := x) (x := (u : Int)) (by rw [HL5'.out, List.getElem?_map, hu]; rfl)
                          obtain rfl : g5 = g9 := by injection hg9 with hg9; injection hg9
                          have pc9 := cell_regrown c9
                          have huv := mates_up hu HV.out
                          have f8 : decide (v ≤ u) = false := decide_eq_false (by omega)
                          clear hu hg9 huv
                          go_wp2_with fail
                          refine wp_region_quiet_below (by kernel_rfl) (by kernel_rfl) ?_; (repeat (go_big_quiet_step (fail))); refine wpQuiet_nil ?_; rintro w3 ⟨⟨d3, os3⟩, rfl⟩
                          have HB3 := Lib.hid (HB.out.trans ((below_regrown wr d3 os3).mono HB.out.size))
                          clear HV c1 pc5 pr0 ps0 c5 r0 s0 c9 pc9
                          dsimp only
                          generalize grow (redrawn wr d3) os3 = w3 at *
                          go_wp2_with fail
                          go_roundw
                          case rel => exact ⟨x + 2, by omega, by go_num, HB3.out⟩
                          case measure => simp [intOf]; omega
                    · have f5 : ((v : Int) != (kb : Int)) = true := by simp; omega
                      have hTT : (T != T) = false := by simp
                      have c1 : ∀ d' os, Calls Tryz.prog 26 #[.slice a6 N6 cap6, .int .i64 v] (grow (redrawn wr d') os) (fun e w'' => e = .returned (.bool T) ∧ ∃ p : Regrown, w'' = grow (redrawn wr p.d) p.os) := fun d' os => Calls.regrown_of ((refHas_any L6 _ v _ (HV6.out.later (HB.out.trans ((below_regrown wr d' os).mono HB.out.size))) (by rw [← HN6.out]; omega)).mono fun e w' h => ⟨by rw [h.1, HC2.out hvk], by rw [h.2]; exact Below.refl _ _⟩)
                      clear hvk
                      as_aux_lemma =>
                        cases x with
                        | zero =>
                          go_wp2_with fail
                          refine wp_region_quiet_below (by kernel_rfl) (by kernel_rfl) ?_; (repeat (go_big_quiet_step (with_reducible exact c1 _ _))); refine wpQuiet_nil ?_; rintro w3 ⟨⟨d3, os3⟩, rfl⟩
                          have HB3 := Lib.hid (HB.out.trans ((below_regrown wr d3 os3).mono HB.out.size))
                          clear HV c1 pc5 pr0 ps0 c5 r0 s0
                          dsimp only
                          generalize grow (redrawn wr d3) os3 = w3 at *
                          go_wp2_with fail
                          go_roundw
                          case rel => exact ⟨1, by omega, by go_num, HB3.out⟩
                          case measure => simp [intOf]; omega
                        | succ x =>
                          obtain ⟨u, hu⟩ : ∃ u, (matesF ls ka)[x]? = some u := ⟨_, List.getElem?_eq_getElem (by have := HN5.out; rw [HL5'.out, List.length_map] at this; omega)⟩
                          obtain ⟨g9, hg9, -, c9⟩ := (HV5.out.later HB.out).get (i := x) (x := (u : Int)) (by rw [HL5'.out, List.getElem?_map, hu]; rfl)
                          obtain rfl : g5 = g9 := by injection hg9 with hg9; injection hg9
                          have pc9 := cell_regrown c9
                          have huv := mates_up hu HV.out
                          have f8 : decide (v ≤ u) = false := decide_eq_false (by omega)
                          clear hu hg9 huv
                          go_wp2_with fail
                          refine wp_region_quiet_below (by kernel_rfl) (by kernel_rfl) ?_; (repeat (go_big_quiet_step (with_reducible exact c1 _ _))); refine wpQuiet_nil ?_; rintro w3 ⟨⟨d3, os3⟩, rfl⟩
                          have HB3 := Lib.hid (HB.out.trans ((below_regrown wr d3 os3).mono HB.out.size))
                          clear HV c1 pc5 pr0 ps0 c5 r0 s0 c9 pc9
                          dsimp only
                          generalize grow (redrawn wr d3) os3 = w3 at *
                          go_wp2_with fail
                          go_roundw
                          case rel => exact ⟨x + 2, by omega, by go_num, HB3.out⟩
                          case measure => simp [intOf]; omega
                  · obtain rfl : x = N5 := by omega
                    have HB7 := Lib.hid (hb0.trans (HB.out.mono hb0.size))
                    obtain ⟨r0, -, -, -, -⟩ := leaf_cells (HL7.out.later HB.out) HY.out
                    obtain ⟨s0, -, -, -, -⟩ := leaf_cells (HL7.out.later HB.out) HZZ.out
                    have pr0 := cell_regrown r0
                    have ps0 := cell_regrown s0
                    have c1 : ∀ d' os, Calls Tryz.prog 26 #[.slice a6 N6 cap6, .int .i64 ka] (grow (redrawn wr d') os) (fun e w'' => e = .returned (.bool T) ∧ ∃ p : Regrown, w'' = grow (redrawn wr p.d) p.os) := fun d' os => Calls.regrown_of ((refHas_any L6 _ ka _ (HV6.out.later (HB.out.trans ((below_regrown wr d' os).mono HB.out.size))) (by rw [← HN6.out]; omega)).mono fun e w' h => ⟨by rw [h.1, HT1.out], by rw [h.2]; exact Below.refl _ _⟩)
                    have cA : ∀ d' os, Calls Tryz.prog 13 #[] (grow (redrawn wr d') os) (fun e w'' => e = .returned (.bool true) ∧ ∃ p : Regrown, w'' = grow (redrawn wr p.d) p.os) := fun d' os => Calls.regrown_of (awake_any2 (t := t) (blk_later (HB7.out.trans ((below_regrown wr d' os).mono HB7.out.size)) HW.out))
                    have hTT : (T == T) = true := by simp
                    have f2 : (T == ((y.sheet : Int) == (z.sheet : Int))) = true := by
                      rw [HT2.out]
                      by_cases h : y.sheet = z.sheet
                      · simp [h]
                      · have h2 : ¬ (y.sheet : Int) = (z.sheet : Int) := by omega
                        rw [decide_eq_false h, beq_eq_false_iff_ne.2 h2]; rfl
                    as_aux_lemma =>
                      clear HV5 HV6 HL7
                      go_wp2_with fail
                      refine wp_region_quiet_below (by kernel_rfl) (by kernel_rfl) ?_; (repeat (go_big_quiet_step (first | with_reducible exact c1 _ _ | with_reducible exact cA _ _))); refine wpQuiet_nil ?_; rintro w3 ⟨⟨d3, os3⟩, rfl⟩
                      have HB3 := Lib.hid (HB7.out.trans ((below_regrown wr d3 os3).mono HB7.out.size))
                      clear c1 cA pr0 ps0 r0 s0 hb0 b1 b2 b3
                      dsimp only
                      generalize grow (redrawn wr d3) os3 = w3 at *
                      go_wp2_with fail
                      go_ret
                      exact ⟨rfl, HB3.out⟩
  · have e0 : (ep == 0) = false := by simp [h0]
    clear HEP
    go_wp2_with fail
    refine (awake_any2 (t := t) (blk_later hb0 HW.out)).mono ?_
    rintro e w6 ⟨rfl, hb⟩
    have hb6 := hb0.trans (hb.mono hb0.size)
    clear hb0 hb b1 b2 p0 p1 p2 p3 x0' x1' x2'
    go_wp2_with fail
    go_ret
    exact ⟨rfl, hb6⟩
end Go.Proofs.YtdpiemgdenfkoaaGreatDoor
