/- The parts Lf of the proof, joined. It holds without conditions of its own. -/
import Derived.Test.YtajjhmmmifenaaaGreatDoorOM25
import Derived.Test.YtajjhmmmifenaaaGreatDoorOM31
import Derived.Test.YtajjhmmmifenaaaGreatDoorOM49
import Derived.Deep.RegionHeld3
/- The law QuireOrder: it returns true. -/
namespace Go.Proofs.YtajjhmmmifenaaaGreatDoor
set_option linter.unusedSimpArgs false
set_option linter.unusedVariables false
open Go Go.RowKit Go.Sort Go.BigFrame Go.Shelf
attribute [local go_sem] Oper.semAt_some putAll

theorem ints3 {W : World} {n : Nat} (p q r : Int) (t : TypeId) (h : n = W.heap.size) : IntsAt (W.alloc (.cells #[.int .i64 p, .int .i64 q, .int .i64 r] t)) (.slice (some ⟨n, 0, none⟩) 3 3) [p, q, r] := by
  subst h
  exact ints_alloc W t [p, q, r]

set_option maxRecDepth 100000 in
set_option maxHeartbeats 1600000 in
theorem QuireOrder_bad (b : Bk) (v : Value) (w : World) (hb : BookAt w.heap.size w v b) (he : errF b ≠ 0) :
    Calls Tryz.prog 9 #[v] w fun e w' => e = .returned (.bool true) ∧ Below w.heap.size w w' := by
  obtain ⟨sv, rfl, hgs⟩ := hb
  have hb : BookAt w.heap.size w (.agg #[.int .i64 b.signed, sv]) b := ⟨sv, rfl, hgs⟩
  obtain ⟨a, cap, rfl, -⟩ := hgs
  have HK := Lib.hid (BkBox.start hb)
  clear hb
  have hne : (errF b != 0) = true := by simp [he]
  have heq : (errF b == 0) = false := by simp [he]
  have HE := Lib.hid he
  clear he
  go_enter Tryz.func9, Tryz.ntmps9
  go_wp2_with fail
  refine (Leaves_bad b _ _ HK.out.book HE.out).mono ?_
  rintro e w1 ⟨rfl, hb1⟩
  have HK := Lib.hid (HK.out.later hb1)
  clear hb1
  have c0 := blk_cell HK.out.box 0; have c1 := blk_cell HK.out.box 1
  go_wp2_with fail
  refine (valid_any b _ _ HK.out.book).mono ?_
  rintro e w2 ⟨rfl, hb2⟩
  rw [heq]
  have HK := Lib.hid (HK.out.later hb2)
  clear hb2 c0 c1
  go_wp2_with fail
  refine (Awake_any _).mono ?_
  rintro e w3 ⟨rfl, hb3⟩
  have HK := Lib.hid (HK.out.later hb3)
  clear hb3
  go_wp2_with fail
  go_ret
  exact ⟨rfl, HK.out.below⟩

set_option maxRecDepth 100000 in
set_option maxHeartbeats 3200000 in
theorem QuireOrder_good (b : Bk) (v : Value) (w : World) (hb : BookAt w.heap.size w v b) (he : errF b = 0) :
    Calls Tryz.prog 9 #[v] w fun e w' => e = .returned (.bool true) ∧ Below w.heap.size w w' := by
  obtain ⟨sv, rfl, hgs⟩ := hb
  have hb : BookAt w.heap.size w (.agg #[.int .i64 b.signed, sv]) b := ⟨sv, rfl, hgs⟩
  obtain ⟨a, cap, rfl, -⟩ := hgs
  have HK := Lib.hid (BkBox.start hb)
  clear hb
  have heq : (errF b == 0) = true := by simp [he]
  have hok := errF_zero he
  have hf := lvs_few hok
  have HOK := Lib.hid hok
  have HE := Lib.hid he
  have HCNT : Hid (((lvs b).length : Int) = sumG b.gs) := Lib.hid (lvsFrom_count b.gs 0 hok.gs)
  have hlen := hok.len
  clear he hok
  go_enter Tryz.func9, Tryz.ntmps9
  go_wp2_with fail
  refine (Leaves_good b _ _ HK.out.book HE.out).mono ?_
  rintro e w1 ⟨⟨lv, rfl, hrow⟩, hb1⟩
  have hL := LfsAt.of_row hrow
  clear hrow
  have HL := Lib.hid hL
  obtain ⟨la, lcap, rfl, -⟩ := hL
  have HK := Lib.hid (HK.out.later hb1)
  clear hb1
  obtain ⟨N, hN⟩ : ∃ N, N = (lvs b).length := ⟨_, rfl⟩
  have HN := Lib.hid hN
  rw [← hN] at HL hf HCNT ⊢
  clear hN
  have c0 := blk_cell HK.out.box 0; have c1 := blk_cell HK.out.box 1
  go_wp2_with fail
  refine (valid_any b _ _ HK.out.book).mono ?_
  rintro e w2 ⟨rfl, hb2⟩
  rw [heq]
  have HK := Lib.hid (HK.out.later hb2)
  have HL := Lib.hid (HL.out.later hb2)
  clear hb2 c0 c1
  go_wp2_with fail
  go_loopg [5, 6] b.gs.length (fun g v i wr => ∃ (k : Nat), k + g = b.gs.length ∧ i = .int .i64 k ∧ v = .int .i64 (sumG (b.gs.take k)) ∧ Hid (BkBox w wr w.heap.size b a cap) ∧ Hid (LfsAt wr (.slice la N lcap) (lvs b)))
  case atStart => exact ⟨0, by omega, rfl, rfl, HK, HL⟩
  case round =>
    clear HK HL
    obtain ⟨k, hk, rfl, rfl, HK, HL⟩ := hrel
    have c0 := blk_cell HK.out.box 0; have c1 := blk_cell HK.out.box 1
    cases gk with
    | succ g =>
      have hlt : k < b.gs.length := by omega
      obtain ⟨x, hx⟩ : ∃ x, b.gs[k]? = some x := ⟨_, List.getElem?_eq_getElem hlt⟩
      obtain ⟨bb, off, rfl, hbb, ca, ccap, hch, g0, g1, g2, g3⟩ := HK.out.gth hx
      have HX := Lib.hid hx
      have hgk := HOK.out.gs x (List.mem_of_getElem? hx)
      have HGK := Lib.hid hgk
      have hl1 := hgk.leaves
      have hsb := sumG_bound (gs := b.gs.take k) fun y hy => HOK.out.gs y (List.mem_of_mem_take hy)
      rw [List.length_take] at hsb
      have d1 : ((k : Int) < b.gs.length) := by omega
      obtain ⟨B0, hB0⟩ : ∃ B0, B0 = sumG (b.gs.take k) := ⟨_, rfl⟩
      rw [← hB0] at hsb ⊢
      have HB0 := Lib.hid hB0
      have hB0l : -3000 ≤ B0 ∧ B0 ≤ 3000 := by omega
      have e1 : IntKind.i64.wrap (B0 + x.leaves) = B0 + x.leaves := IntWalk.i64_in _ (by omega)
      clear hx hgk hsb hB0
      go_wp2_with fail
      have hba : Below wr.heap.size wr (wr.alloc (.cells #[.int .i64 x.round, .int .i64 x.letter, .int .i64 x.leaves, .slice ca x.chs.length ccap] 59)) := (Below.refl _ wr).alloc (Nat.le_refl _) _
      have HGB : Hid ((wr.alloc (.cells #[.int .i64 x.round, .int .i64 x.letter, .int .i64 x.leaves, .slice ca x.chs.length ccap] 59)).heap[wr.heap.size]? = some (.cells #[.int .i64 x.round, .int .i64 x.letter, .int .i64 x.leaves, .slice ca x.chs.length ccap] 59)) := Lib.hid (World.alloc_heap_new _ _)
      have HK := Lib.hid (HK.out.later hba)
      have HL := Lib.hid (HL.out.later hba)
      have HCH := Lib.hid ((hch.below hba (Nat.le_refl _)).mono hba.size)
      clear hba c0 c1 g0 g1 g2 g3 hch hbb
      revert HGB HK HL HCH
      generalize (wr.alloc (.cells #[.int .i64 x.round, .int .i64 x.letter, .int .i64 x.leaves, .slice ca x.chs.length ccap] 59)) = w3
      generalize wr.heap.size = X
      intro HGB HK HL HCH
      obtain ⟨M, hM⟩ : ∃ M, M = x.chs.length := ⟨_, rfl⟩
      have p3 := blk_cell HGB.out 3
      change w3.cell? ⟨X, 3, none⟩ = some (.slice ca x.chs.length ccap) at p3
      rw [← hM] at p3
      have HM := Lib.hid hM
      have hM4 : M ≤ 4 := by
        have := HGK.out.few
        omega
      clear hM
      go_loopg [5, 8] M (fun g2 v j wy => ∃ (i : Nat), i + g2 = M ∧ j = .int .i64 i ∧ wy = w3 ∧ v = .int .i64 (B0 + x.leaves + sumC (x.chs.take i)))
      case atStart => exact ⟨0, by omega, rfl, rfl, by simp [sumC]⟩
      case round =>
        obtain ⟨i, hi, rfl, rfl, rfl⟩ := hrel
        cases gk with
        | succ g2 =>
          have hil : i < M := by omega
          obtain ⟨c, hc⟩ : ∃ c, x.chs[i]? = some c := ⟨_, List.getElem?_eq_getElem (by have := HM.out; omega)⟩
          obtain ⟨a', cap', e', hcc⟩ := HCH.out
          cases e'
          obtain ⟨cb, coff, rfl, -, hcell⟩ := hcc (fun e => by rw [e] at hc; cases hc)
          obtain ⟨q0, q1, q2⟩ := hcell i c hc
          have hcb := HGK.out.ch (List.mem_of_getElem? hc)
          have hsc := sumC_bound (cs := x.chs.take i) fun y hy => ⟨(HGK.out.ch (List.mem_of_mem_take hy)).2.2.2.1, (HGK.out.ch (List.mem_of_mem_take hy)).2.2.2.2⟩
          have hfew := HGK.out.few
          rw [List.length_take] at hsc
          obtain ⟨C0, hC0⟩ : ∃ C0, C0 = B0 + x.leaves + sumC (x.chs.take i) := ⟨_, rfl⟩
          have HC0 := Lib.hid hC0
          rw [← hC0]
          have hC0l : -4000 ≤ C0 ∧ C0 ≤ 4000 := by omega
          have HCS := Lib.hid (sumC_take hc)
          have e2 : IntKind.i64.wrap (C0 + c.many) = C0 + c.many := IntWalk.i64_in _ (by omega)
          have d2 : ((i : Int) < M) := by omega
          clear hc hsc hC0 hcell hcc
          by_cases hk1 : c.kind = 1
          · have e3 : (c.kind == 1) = true := by simp [hk1]
            have e4 : IntKind.i64.wrap (C0 + c.many - 1) = C0 + c.many - 1 := IntWalk.i64_in _ (by omega)
            have HA : Hid (addF c = c.many - 1) := Lib.hid (if_pos hk1)
            go_wp2_with fail
            go_roundg g2
            case measure => omega
            case rel => exact ⟨i + 1, by omega, by go_num, rfl, by rw [HCS.out, HA.out, HC0.out]; congr 1; omega⟩
          · have e3 : (c.kind == 1) = false := by simp [hk1]
            have HA : Hid (addF c = c.many) := Lib.hid (if_neg hk1)
            go_wp2_with fail
            go_roundg g2
            case measure => omega
            case rel => exact ⟨i + 1, by omega, by go_num, rfl, by rw [HCS.out, HA.out, HC0.out]; congr 1; omega⟩
        | zero =>
          have hi0 : i = M := by omega
          subst hi0
          have HV : Hid (B0 + x.leaves + sumC (x.chs.take i) = sumG (b.gs.take (k + 1))) := Lib.hid (by
            rw [sumG_take HX.out, HB0.out, HM.out, List.take_length]
            omega)
          rw [HV.out]
          go_wp2_with fail
          go_roundg g
          case measure => omega
          case rel => exact ⟨k + 1, by omega, by go_num, rfl, HK, HL⟩
    | zero =>
      have hk0 : k = b.gs.length := by omega
      have HV : Hid (sumG (b.gs.take k) = (N : Int)) := Lib.hid (by rw [hk0, List.take_length]; exact HCNT.out.symm)
      rw [HV.out]
      have e9 : ((N : Int) != (N : Int)) = false := by simp
      have HKC := Lib.hid HK.out.below
      have hk9 : ¬ k < b.gs.length := by omega
      clear HV hk hk0
      go_wp2_with fail
      go_loopw [9] (fun q wy => ∃ (t : Nat), t ≤ N ∧ q = .int .i64 t ∧ Hid (BkBox w wy w.heap.size b a cap) ∧ Hid (LfsAt wy (.slice la N lcap) (lvs b))) (fun q _ => N - (intOf q).toNat)
      case atStart => exact ⟨0, by omega, rfl, HK, HL⟩
      case round =>
        clear HK HL
        obtain ⟨t, ht, rfl, HK, HL⟩ := hrel
        by_cases hlt : t < N
        · obtain ⟨x, hx⟩ : ∃ x, (lvs b)[t]? = some x := ⟨_, List.getElem?_eq_getElem (by have := HN.out; omega)⟩
          obtain ⟨gl, rfl, hgl, l0, l1, l2, l3⟩ := HL.out.get hx
          obtain ⟨g, hg, hgok, hb1, hb2, hb3, hb4⟩ := lf_bounds HOK.out (List.mem_of_getElem? hx)
          have hkd := lf_kinds (List.mem_of_getElem? hx)
          have HX := Lib.hid hx
          have HG := Lib.hid hg
          have hgat := (List.getElem?_eq_some_iff.1 hg).1
          have d1 : ((t : Int) < N) := by omega
          clear hx hg hgok
          go_wp2_with fail
          have hba : Below wr.heap.size wr (wr.alloc (.cells #[.int .i64 x.gat, .int .i64 x.num, .int .i64 x.plus, .int .i64 x.kind] 63)) := (Below.refl _ wr).alloc (Nat.le_refl _) _
          have HXB : Hid ((wr.alloc (.cells #[.int .i64 x.gat, .int .i64 x.num, .int .i64 x.plus, .int .i64 x.kind] 63)).heap[wr.heap.size]? = some (.cells #[.int .i64 x.gat, .int .i64 x.num, .int .i64 x.plus, .int .i64 x.kind] 63)) := Lib.hid (World.alloc_heap_new _ _)
          have HK := Lib.hid (HK.out.later hba)
          have HL := Lib.hid (HL.out.later hba)
          clear hba l0 l1 l2 l3 hgl
          revert HXB HK HL
          generalize (wr.alloc (.cells #[.int .i64 x.gat, .int .i64 x.num, .int .i64 x.plus, .int .i64 x.kind] 63)) = w3
          generalize wr.heap.size = X
          intro HXB HK HL
          have c0 := blk_cell HK.out.box 0; have c1 := blk_cell HK.out.box 1
          have p0 := blk_cell HXB.out 0; have p1 := blk_cell HXB.out 1; have p2 := blk_cell HXB.out 2; have p3 := blk_cell HXB.out 3
          obtain ⟨bb, off, rfl, -, ca, ccap, -, g0, g1, g2, g3⟩ := HK.out.gth HG.out
          have e1 : decide ((b.gs.length : Int) ≤ (x.gat : Int)) = false := decide_eq_false (by omega)
          have e1' : decide (b.gs.length ≤ x.gat) = false := decide_eq_false (by omega)
          have e2 : decide (x.num < 0) = false := decide_eq_false (by omega)
          have e3 : decide (g.leaves < x.num) = false := decide_eq_false (by omega)
          have e0 : decide ((x.gat : Int) < 0) = false := decide_eq_false (by omega)
          have d2 : ((x.gat : Int) < b.gs.length) := by omega
          rcases hkd with ⟨h1, h2⟩ | ⟨h1, h2, h3⟩
          · have f1 : (x.kind == 2) = true := by simp [h1]
            have f2 : decide (0 < x.plus) = true := decide_eq_true h2
            have f3 : (x.plus == 0) = false := by rw [beq_eq_false_iff_ne]; omega
            clear h1 h2
            by_cases h4 : x.num = 0
            · have f4 : (x.num == 0) = true := by simp [h4]
              clear h4
              go_wp2_with fail
              go_quiet (fail)
              have hbd : Below w3.heap.size w3 (w3.drewN nq) := bdrewN (Below.refl _ _) _
              have HK := Lib.hid (HK.out.later hbd)
              have HL := Lib.hid (HL.out.later hbd)
              have HXB := Lib.hid (blk_later hbd HXB.out)
              clear hbd p0 p1 p2 p3 c0 c1 g0 g1 g2 g3
              revert HK HL HXB
              generalize w3.drewN nq = w4
              intro HK HL HXB
              have hsz4 := blk_lt HXB.out
              rcases t with _ | t
              · go_wp2_with fail
                go_quiet (fail)
                go_wp2_with fail
                go_roundw
                case rel => exact ⟨0 + 1, by omega, by go_num, Lib.hid (HK.out.later (bdrewN (Below.refl _ _) _)), Lib.hid (HL.out.later (bdrewN (Below.refl _ _) _))⟩
                case measure => simp [intOf]; omega
              · obtain ⟨y, hy⟩ : ∃ y, (lvs b)[t]? = some y := ⟨_, List.getElem?_eq_getElem (by have := HN.out; omega)⟩
                have HBL := Lib.hid (before_lt (sorted_lt (lvs_sorted b) hy HX.out (Nat.lt_succ_self t)))
                obtain ⟨gl', he', hgl, m0, m1, m2, -⟩ := HL.out.get hy
                cases he'
                have n0 := blk_cell HXB.out 0
                have n1 := blk_cell HXB.out 1
                have n2 := blk_cell HXB.out 2
                change w4.cell? ⟨X, 0, none⟩ = some (.int .i64 x.gat) at n0
                change w4.cell? ⟨X, 1, none⟩ = some (.int .i64 x.num) at n1
                change w4.cell? ⟨X, 2, none⟩ = some (.int .i64 x.plus) at n2
                have e5 : decide ((0 : Int) < ((t + 1 : Nat) : Int)) = true := decide_eq_true (by omega)
                have e6 : IntKind.i64.wrap (((t + 1 : Nat) : Int) - 1) = t := by rw [IntKind.wrap_i64]; omega
                have e7 : IntKind.i64.wrap (t : Int) = t := by rw [IntKind.wrap_i64]; omega
                have d4 : ((t : Int) < N) := by omega
                have d5 : (0 : Int) ≤ (t : Int) := by omega
                have d6 : ¬ (t : Int) < 0 := by omega
                have d7 : ¬ (N : Int) ≤ (t : Int) := by omega
                have d8 : t < N := by omega
                clear hy
                go_wp2_with fail
                refine wp_region_held_drew (S := (fun u => u.cell? ⟨gl, t * 4, none⟩ = some (.int .i64 y.gat) ∧ u.cell? ⟨gl, t * 4 + 1, none⟩ = some (.int .i64 y.num) ∧ u.cell? ⟨gl, t * 4 + 2, none⟩ = some (.int .i64 y.plus) ∧ u.cell? ⟨X, 0, none⟩ = some (.int .i64 x.gat) ∧ u.cell? ⟨X, 1, none⟩ = some (.int .i64 x.num) ∧ u.cell? ⟨X, 2, none⟩ = some (.int .i64 x.plus))) (by kernel_rfl) ?_ (fun hHeld => ?_)
                · exact ⟨m0, m1, m2, n0, n1, n2⟩
                refine wpAnyH_take (i := 0) (v := ?_) rfl (by kernel_rfl) (by kernel_rfl) (by kernel_rfl) (fun _ _ _ h => h) (Or.inl ⟨by rfl, ?_⟩) (by assumption) ?_
                rotate_left
                · (intro w hSw; (try dsimp only at hSw); (try simp only [List.getElem_toArray, List.getElem_cons_zero, List.getElem_cons_succ]); go_simp; (try with_reducible rfl))
                (try simp only [List.getElem_toArray, List.getElem_cons_zero, List.getElem_cons_succ, Act.put, List.setIfInBounds_toArray, List.set_cons_zero, List.set_cons_succ])
                refine wpAnyH_take (i := 1) (v := ?_) rfl (by kernel_rfl) (by kernel_rfl) (by kernel_rfl) (fun _ _ _ h => h) (Or.inl ⟨by rfl, ?_⟩) (by assumption) ?_
                rotate_left
                · (intro w hSw; (try dsimp only at hSw); (try simp only [List.getElem_toArray, List.getElem_cons_zero, List.getElem_cons_succ]); go_simp; (try with_reducible rfl))
                (try simp only [List.getElem_toArray, List.getElem_cons_zero, List.getElem_cons_succ, Act.put, List.setIfInBounds_toArray, List.set_cons_zero, List.set_cons_succ])
                refine wpAnyH_take (i := 2) (v := ?_) rfl (by kernel_rfl) (by kernel_rfl) (by kernel_rfl) (fun _ _ _ h => h) (Or.inl ⟨by rfl, ?_⟩) (by assumption) ?_
                rotate_left
                · (intro w hSw; (try dsimp only at hSw); (try simp only [List.getElem_toArray, List.getElem_cons_zero, List.getElem_cons_succ]); go_simp; (try with_reducible rfl))
                (try simp only [List.getElem_toArray, List.getElem_cons_zero, List.getElem_cons_succ, Act.put, List.setIfInBounds_toArray, List.set_cons_zero, List.set_cons_succ])
                refine wpAnyH_take (i := 3) (v := ?_) rfl (by kernel_rfl) (by kernel_rfl) (by kernel_rfl) (fun _ _ _ h => h) (Or.inl ⟨by rfl, ?_⟩) (by assumption) ?_
                rotate_left
                · (intro w hSw; (try dsimp only at hSw); (try simp only [List.getElem_toArray, List.getElem_cons_zero, List.getElem_cons_succ]); go_simp; (try with_reducible rfl))
                (try simp only [List.getElem_toArray, List.getElem_cons_zero, List.getElem_cons_succ, Act.put, List.setIfInBounds_toArray, List.set_cons_zero, List.set_cons_succ])
                refine wpAnyH_take (i := 4) (v := ?_) rfl (by kernel_rfl) (by kernel_rfl) (by kernel_rfl) (fun _ _ _ h => h) (Or.inl ⟨by rfl, ?_⟩) (by assumption) ?_
                rotate_left
                · (intro w hSw; (try dsimp only at hSw); (try simp only [List.getElem_toArray, List.getElem_cons_zero, List.getElem_cons_succ]); go_simp; (try with_reducible rfl))
                (try simp only [List.getElem_toArray, List.getElem_cons_zero, List.getElem_cons_succ, Act.put, List.setIfInBounds_toArray, List.set_cons_zero, List.set_cons_succ])
                refine wpAnyH_take (i := 5) (v := ?_) rfl (by kernel_rfl) (by kernel_rfl) (by kernel_rfl) (fun _ _ _ h => h) (Or.inl ⟨by rfl, ?_⟩) (by assumption) ?_
                rotate_left
                · (intro w hSw; (try dsimp only at hSw); (try simp only [List.getElem_toArray, List.getElem_cons_zero, List.getElem_cons_succ]); go_simp; (try with_reducible rfl))
                (try simp only [List.getElem_toArray, List.getElem_cons_zero, List.getElem_cons_succ, Act.put, List.setIfInBounds_toArray, List.set_cons_zero, List.set_cons_succ])
                refine wpAnyH_take (i := 6) (v := ?_) rfl (by kernel_rfl) (by kernel_rfl) (by kernel_rfl) (fun _ _ _ h => h) (Or.inl ⟨by rfl, ?_⟩) (by assumption) ?_
                rotate_left
                · (intro w hSw; (try dsimp only at hSw); (try simp only [List.getElem_toArray, List.getElem_cons_zero, List.getElem_cons_succ]); go_simp; (try with_reducible rfl))
                (try simp only [List.getElem_toArray, List.getElem_cons_zero, List.getElem_cons_succ, Act.put, List.setIfInBounds_toArray, List.set_cons_zero, List.set_cons_succ])
                refine wpAnyH_take (i := 7) (v := ?_) rfl (by kernel_rfl) (by kernel_rfl) (by kernel_rfl) (fun _ _ _ h => h) (Or.inl ⟨by rfl, ?_⟩) (by assumption) ?_
                rotate_left
                · (intro w hSw; (try dsimp only at hSw); (try simp only [List.getElem_toArray, List.getElem_cons_zero, List.getElem_cons_succ]); go_simp; (try with_reducible rfl))
                (try simp only [List.getElem_toArray, List.getElem_cons_zero, List.getElem_cons_succ, Act.put, List.setIfInBounds_toArray, List.set_cons_zero, List.set_cons_succ])
                refine wpAnyH_take (i := 8) (v := ?_) rfl (by kernel_rfl) (by kernel_rfl) (by kernel_rfl) (fun _ _ _ h => h) (Or.inl ⟨by rfl, ?_⟩) (by assumption) ?_
                rotate_left
                · (intro w hSw; (try dsimp only at hSw); (try simp only [List.getElem_toArray, List.getElem_cons_zero, List.getElem_cons_succ]); go_simp; (try with_reducible rfl))
                (try simp only [List.getElem_toArray, List.getElem_cons_zero, List.getElem_cons_succ, Act.put, List.setIfInBounds_toArray, List.set_cons_zero, List.set_cons_succ])
                refine wpAnyH_take (i := 9) (v := ?_) rfl (by kernel_rfl) (by kernel_rfl) (by kernel_rfl) (fun _ _ _ h => h) (Or.inl ⟨by rfl, ?_⟩) (by assumption) ?_
                rotate_left
                · (intro w hSw; (try dsimp only at hSw); (try simp only [List.getElem_toArray, List.getElem_cons_zero, List.getElem_cons_succ]); go_simp; (try with_reducible rfl))
                (try simp only [List.getElem_toArray, List.getElem_cons_zero, List.getElem_cons_succ, Act.put, List.setIfInBounds_toArray, List.set_cons_zero, List.set_cons_succ])
                refine wpAnyH_take (i := 10) (v := ?_) rfl (by kernel_rfl) (by kernel_rfl) (by kernel_rfl) (fun _ _ _ h => h) (Or.inl ⟨by rfl, ?_⟩) (by assumption) ?_
                rotate_left
                · (intro w hSw; (try dsimp only at hSw); (try simp only [List.getElem_toArray, List.getElem_cons_zero, List.getElem_cons_succ]); go_simp; (try with_reducible rfl))
                (try simp only [List.getElem_toArray, List.getElem_cons_zero, List.getElem_cons_succ, Act.put, List.setIfInBounds_toArray, List.set_cons_zero, List.set_cons_succ])
                refine wpAnyH_take (i := 11) (v := ?_) rfl (by kernel_rfl) (by kernel_rfl) (by kernel_rfl) (fun _ _ _ h => h) (Or.inl ⟨by rfl, ?_⟩) (by assumption) ?_
                rotate_left
                · (intro w hSw; (try dsimp only at hSw); (try simp only [List.getElem_toArray, List.getElem_cons_zero, List.getElem_cons_succ]); go_simp; (try with_reducible rfl))
                (try simp only [List.getElem_toArray, List.getElem_cons_zero, List.getElem_cons_succ, Act.put, List.setIfInBounds_toArray, List.set_cons_zero, List.set_cons_succ])
                refine wpAnyH_take (i := 12) (v := ?_) rfl (by kernel_rfl) (by kernel_rfl) (by kernel_rfl) (fun _ _ _ h => h) (Or.inl ⟨by rfl, ?_⟩) (by assumption) ?_
                rotate_left
                · (intro w hSw; (try dsimp only at hSw); (try simp only [List.getElem_toArray, List.getElem_cons_zero, List.getElem_cons_succ]); go_simp; (try with_reducible rfl))
                (try simp only [List.getElem_toArray, List.getElem_cons_zero, List.getElem_cons_succ, Act.put, List.setIfInBounds_toArray, List.set_cons_zero, List.set_cons_succ])
                refine wpAnyH_take (i := 13) (v := ?_) rfl (by kernel_rfl) (by kernel_rfl) (by kernel_rfl) (fun _ _ _ h => h) (Or.inl ⟨by rfl, ?_⟩) (by assumption) ?_
                rotate_left
                · (intro w hSw; (try dsimp only at hSw); (try simp only [List.getElem_toArray, List.getElem_cons_zero, List.getElem_cons_succ]); go_simp; (try with_reducible rfl))
                (try simp only [List.getElem_toArray, List.getElem_cons_zero, List.getElem_cons_succ, Act.put, List.setIfInBounds_toArray, List.set_cons_zero, List.set_cons_succ])
                refine wpAnyH_take (i := 14) (v := ?_) rfl (by kernel_rfl) (by kernel_rfl) (by kernel_rfl) (fun _ _ _ h => h) (Or.inl ⟨by rfl, ?_⟩) (by assumption) ?_
                rotate_left
                · (intro w hSw; (try dsimp only at hSw); (try simp only [List.getElem_toArray, List.getElem_cons_zero, List.getElem_cons_succ]); go_simp; (try with_reducible rfl))
                (try simp only [List.getElem_toArray, List.getElem_cons_zero, List.getElem_cons_succ, Act.put, List.setIfInBounds_toArray, List.set_cons_zero, List.set_cons_succ])
                refine wpAnyH_take (i := 15) (v := ?_) rfl (by kernel_rfl) (by kernel_rfl) (by kernel_rfl) (fun _ _ _ h => h) (Or.inl ⟨by rfl, ?_⟩) (by assumption) ?_
                rotate_left
                · (intro w hSw; (try dsimp only at hSw); (try simp only [List.getElem_toArray, List.getElem_cons_zero, List.getElem_cons_succ]); go_simp; (try with_reducible rfl))
                (try simp only [List.getElem_toArray, List.getElem_cons_zero, List.getElem_cons_succ, Act.put, List.setIfInBounds_toArray, List.set_cons_zero, List.set_cons_succ])
                refine wpAnyH_take (i := 16) (v := ?_) rfl (by kernel_rfl) (by kernel_rfl) (by kernel_rfl) (fun _ _ _ h => h) (Or.inl ⟨by rfl, ?_⟩) (by assumption) ?_
                rotate_left
                · (intro w hSw; (try dsimp only at hSw); (try simp only [List.getElem_toArray, List.getElem_cons_zero, List.getElem_cons_succ]); go_simp; (try with_reducible rfl))
                (try simp only [List.getElem_toArray, List.getElem_cons_zero, List.getElem_cons_succ, Act.put, List.setIfInBounds_toArray, List.set_cons_zero, List.set_cons_succ])
                refine wpAnyH_take (i := 17) (v := ?_) rfl (by kernel_rfl) (by kernel_rfl) (by kernel_rfl) (fun _ _ _ h => h) (Or.inl ⟨by rfl, ?_⟩) (by assumption) ?_
                rotate_left
                · (intro w hSw; (try dsimp only at hSw); (try simp only [List.getElem_toArray, List.getElem_cons_zero, List.getElem_cons_succ]); go_simp; (try with_reducible rfl))
                (try simp only [List.getElem_toArray, List.getElem_cons_zero, List.getElem_cons_succ, Act.put, List.setIfInBounds_toArray, List.set_cons_zero, List.set_cons_succ])
                refine wpAnyH_take (i := 18) (v := ?_) rfl (by kernel_rfl) (by kernel_rfl) (by kernel_rfl) (fun _ _ _ h => h) (Or.inl ⟨by rfl, ?_⟩) (by assumption) ?_
                rotate_left
                · (intro w hSw; (try dsimp only at hSw); (try simp only [List.getElem_toArray, List.getElem_cons_zero, List.getElem_cons_succ]); go_simp; (try with_reducible rfl))
                (try simp only [List.getElem_toArray, List.getElem_cons_zero, List.getElem_cons_succ, Act.put, List.setIfInBounds_toArray, List.set_cons_zero, List.set_cons_succ])
                refine wpAnyH_take (i := 19) (v := ?_) rfl (by kernel_rfl) (by kernel_rfl) (by kernel_rfl) (fun _ _ _ h => h) (Or.inl ⟨by rfl, ?_⟩) (by assumption) ?_
                rotate_left
                · (intro w hSw; (try dsimp only at hSw); (try simp only [List.getElem_toArray, List.getElem_cons_zero, List.getElem_cons_succ]); go_simp; (try with_reducible rfl))
                (try simp only [List.getElem_toArray, List.getElem_cons_zero, List.getElem_cons_succ, Act.put, List.setIfInBounds_toArray, List.set_cons_zero, List.set_cons_succ])
                refine wpAnyH_take (i := 20) (v := ?_) rfl (by kernel_rfl) (by kernel_rfl) (by kernel_rfl) (fun _ _ _ h => h) (Or.inl ⟨by rfl, ?_⟩) (by assumption) ?_
                rotate_left
                · (intro w hSw; (try dsimp only at hSw); (try simp only [List.getElem_toArray, List.getElem_cons_zero, List.getElem_cons_succ]); go_simp; (try with_reducible rfl))
                (try simp only [List.getElem_toArray, List.getElem_cons_zero, List.getElem_cons_succ, Act.put, List.setIfInBounds_toArray, List.set_cons_zero, List.set_cons_succ])
                refine wpAnyH_take (i := 22) (v := ?_) rfl (by kernel_rfl) (by kernel_rfl) (by kernel_rfl) (fun _ _ _ h => h) (Or.inl ⟨by rfl, ?_⟩) (by assumption) ?_
                rotate_left
                · (intro w hSw; (try dsimp only at hSw); (try simp only [List.getElem_toArray, List.getElem_cons_zero, List.getElem_cons_succ]); go_simp; (try with_reducible rfl))
                (try simp only [List.getElem_toArray, List.getElem_cons_zero, List.getElem_cons_succ, Act.put, List.setIfInBounds_toArray, List.set_cons_zero, List.set_cons_succ])
                refine wpAnyH_take (i := 23) (v := ?_) rfl (by kernel_rfl) (by kernel_rfl) (by kernel_rfl) (fun _ _ _ h => h) (Or.inl ⟨by rfl, ?_⟩) (by assumption) ?_
                rotate_left
                · (intro w hSw; (try dsimp only at hSw); (try simp only [List.getElem_toArray, List.getElem_cons_zero, List.getElem_cons_succ]); go_simp; (try with_reducible rfl))
                (try simp only [List.getElem_toArray, List.getElem_cons_zero, List.getElem_cons_succ, Act.put, List.setIfInBounds_toArray, List.set_cons_zero, List.set_cons_succ])
                refine wpAnyH_take (i := 24) (v := ?_) rfl (by kernel_rfl) (by kernel_rfl) (by kernel_rfl) (fun _ _ _ h => h) (Or.inl ⟨by rfl, ?_⟩) (by assumption) ?_
                rotate_left
                · (intro w hSw; (try dsimp only at hSw); (try simp only [List.getElem_toArray, List.getElem_cons_zero, List.getElem_cons_succ]); go_simp; (try with_reducible rfl))
                (try simp only [List.getElem_toArray, List.getElem_cons_zero, List.getElem_cons_succ, Act.put, List.setIfInBounds_toArray, List.set_cons_zero, List.set_cons_succ])
                refine wpAnyH_take (i := 25) (v := ?_) rfl (by kernel_rfl) (by kernel_rfl) (by kernel_rfl) (fun _ _ _ h => h) (Or.inl ⟨by rfl, ?_⟩) (by assumption) ?_
                rotate_left
                · (intro w hSw; (try dsimp only at hSw); (try simp only [List.getElem_toArray, List.getElem_cons_zero, List.getElem_cons_succ]); go_simp; (try with_reducible rfl))
                (try simp only [List.getElem_toArray, List.getElem_cons_zero, List.getElem_cons_succ, Act.put, List.setIfInBounds_toArray, List.set_cons_zero, List.set_cons_succ])
                refine wpAnyH_take (i := 26) (v := ?_) rfl (by kernel_rfl) (by kernel_rfl) (by kernel_rfl) (fun _ _ _ h => h) (Or.inl ⟨by rfl, ?_⟩) (by assumption) ?_
                rotate_left
                · (intro w hSw; (try dsimp only at hSw); (try simp only [List.getElem_toArray, List.getElem_cons_zero, List.getElem_cons_succ]); go_simp; (try with_reducible rfl))
                (try simp only [List.getElem_toArray, List.getElem_cons_zero, List.getElem_cons_succ, Act.put, List.setIfInBounds_toArray, List.set_cons_zero, List.set_cons_succ])
                refine wpAnyH_take (i := 27) (v := ?_) rfl (by kernel_rfl) (by kernel_rfl) (by kernel_rfl) (fun _ _ _ h => h) (Or.inl ⟨by rfl, ?_⟩) (by assumption) ?_
                rotate_left
                · (intro w hSw; (try dsimp only at hSw); (try simp only [List.getElem_toArray, List.getElem_cons_zero, List.getElem_cons_succ]); go_simp; (try with_reducible rfl))
                (try simp only [List.getElem_toArray, List.getElem_cons_zero, List.getElem_cons_succ, Act.put, List.setIfInBounds_toArray, List.set_cons_zero, List.set_cons_succ])
                refine wpAnyH_ready (rs := [21, 28]) (by kernel_rfl) (by simp) ?_
                refine AllReadyH.cons rfl (fun K hK => ?_) ?_
                · go_simp
                  refine hK.out _ _ ?_ (fun hNew => ?_)
                  · obtain ⟨q0, q1, q2, q3, q4, q5⟩ := hHeld
                    exact ⟨cell_al q0 (lt_of_cell q0) _, cell_al q1 (lt_of_cell q1) _, cell_al q2 (lt_of_cell q2) _, cell_al q3 (lt_of_cell q3) _, cell_al q4 (lt_of_cell q4) _, cell_al q5 (lt_of_cell q5) _⟩
                  clear hK K hHeld
                  have hHeld := hNew
                  clear hNew
                  (try simp only [Act.put, List.setIfInBounds_toArray, List.set_cons_zero, List.set_cons_succ])
                  refine wpAnyH_ready (rs := [28]) (by kernel_rfl) (by simp) ?_
                  refine AllReadyH.cons rfl (fun K hK => ?_) AllReadyH.nil
                  go_simp
                  refine hK.out _ _ ?_ (fun hNew => ?_)
                  · obtain ⟨q0, q1, q2, q3, q4, q5⟩ := hHeld
                    exact ⟨cell_al q0 (lt_of_cell q0) _, cell_al q1 (lt_of_cell q1) _, cell_al q2 (lt_of_cell q2) _, cell_al q3 (lt_of_cell q3) _, cell_al q4 (lt_of_cell q4) _, cell_al q5 (lt_of_cell q5) _⟩
                  clear hK K hHeld
                  have hHeld := hNew
                  clear hNew
                  (try simp only [Act.put, List.setIfInBounds_toArray, List.set_cons_zero, List.set_cons_succ])
                  refine wpAnyH_ready (rs := [29]) (by kernel_rfl) (by simp) ?_
                  refine AllReadyH.cons rfl (fun K hK => ?_) AllReadyH.nil
                  go_simp
                  refine (refBefore_any [(y.gat : Int), y.num, y.plus] [(x.gat : Int), x.num, x.plus] _ _ _ (by exact (ints3 (W := w4) (n := w4.heap.size) y.gat y.num y.plus 3 rfl).later (by exact (by repeat (first | (refine Below.setCell ?_ ?_ _; rotate_left; · (first | omega | (simp; done) | (simp; omega) | fail)) | (refine Below.alloc ?_ ?_ _; rotate_left; · (first | omega | (simp; done) | (simp; omega) | fail)) | refine Below.drew ?_ | exact Below.refl _ _ | fail)))) (by exact (ints3 (W := w4.alloc (.cells #[.int .i64 y.gat, .int .i64 y.num, .int .i64 y.plus] 3)) (n := w4.heap.size + 1) x.gat x.num x.plus 3 (by simp)).later (by exact (by repeat (first | (refine Below.setCell ?_ ?_ _; rotate_left; · (first | omega | (simp; done) | (simp; omega) | fail)) | (refine Below.alloc ?_ ?_ _; rotate_left; · (first | omega | (simp; done) | (simp; omega) | fail)) | refine Below.drew ?_ | exact Below.refl _ _ | fail)))) (by simp) (by simp)).mono ?_
                  rintro e w9 ⟨rfl, hb9⟩
                  rw [HBL.out]
                  have hb8 := Below.trans (show Below w4.heap.size w4 _ by exact (by repeat (first | (refine Below.setCell ?_ ?_ _; rotate_left; · (first | omega | (simp; done) | (simp; omega) | fail)) | (refine Below.alloc ?_ ?_ _; rotate_left; · (first | omega | (simp; done) | (simp; omega) | fail)) | refine Below.drew ?_ | exact Below.refl _ _ | fail))) (hb9.mono (by simp; omega))
                  have s0 := (hb8.cell (p := ⟨gl, t * 4, none⟩) hgl).trans m0
                  have s1 := (hb8.cell (p := ⟨gl, t * 4 + 1, none⟩) hgl).trans m1
                  have s2 := (hb8.cell (p := ⟨gl, t * 4 + 2, none⟩) hgl).trans m2
                  have s3 := (hb8.cell (p := ⟨X, 0, none⟩) hsz4).trans n0
                  have s4 := (hb8.cell (p := ⟨X, 1, none⟩) hsz4).trans n1
                  have s5 := (hb8.cell (p := ⟨X, 2, none⟩) hsz4).trans n2
                  go_wp2_with fail
                  refine hK.out _ _ ?_ (fun hNew => ?_)
                  · exact ⟨s0, s1, s2, s3, s4, s5⟩
                  clear hK K hHeld
                  have hHeld := hNew
                  clear hNew
                  (try simp only [Act.put, List.setIfInBounds_toArray, List.set_cons_zero, List.set_cons_succ])
                  refine wpAnyH_take (i := 30) (v := ?_) rfl (by kernel_rfl) (by kernel_rfl) (by kernel_rfl) (fun _ _ _ h => h) (Or.inl ⟨by rfl, ?_⟩) (by assumption) ?_
                  rotate_left
                  · (intro w hSw; (try dsimp only at hSw); (try simp only [List.getElem_toArray, List.getElem_cons_zero, List.getElem_cons_succ]); go_simp; (try with_reducible rfl))
                  (try simp only [List.getElem_toArray, List.getElem_cons_zero, List.getElem_cons_succ, Act.put, List.setIfInBounds_toArray, List.set_cons_zero, List.set_cons_succ])
                  refine wpAnyH_take (i := 31) (v := ?_) rfl (by kernel_rfl) (by kernel_rfl) (by kernel_rfl) (fun _ _ _ h => h) (Or.inl ⟨by rfl, ?_⟩) (by assumption) ?_
                  rotate_left
                  · (intro w hSw; (try dsimp only at hSw); (try simp only [List.getElem_toArray, List.getElem_cons_zero, List.getElem_cons_succ]); go_simp; (try with_reducible rfl))
                  (try simp only [List.getElem_toArray, List.getElem_cons_zero, List.getElem_cons_succ, Act.put, List.setIfInBounds_toArray, List.set_cons_zero, List.set_cons_succ])
                  refine wpAnyH_done (by kernel_rfl) ?_ _
                  have HK := Lib.hid (HK.out.later hb8)
                  have HL := Lib.hid (HL.out.later hb8)
                  clear s0 s1 s2 s3 s4 s5 m0 m1 m2 n0 n1 n2 hb8 hb9 hHeld
                  go_wp2_with fail
                  go_roundw
                  case rel => exact ⟨t + 1 + 1, by omega, by go_num, HK, HL⟩
                  case measure => simp [intOf]; omega
                refine AllReadyH.cons rfl (fun K hK => ?_) AllReadyH.nil
                · go_simp
                  refine hK.out _ _ ?_ (fun hNew => ?_)
                  · obtain ⟨q0, q1, q2, q3, q4, q5⟩ := hHeld
                    exact ⟨cell_al q0 (lt_of_cell q0) _, cell_al q1 (lt_of_cell q1) _, cell_al q2 (lt_of_cell q2) _, cell_al q3 (lt_of_cell q3) _, cell_al q4 (lt_of_cell q4) _, cell_al q5 (lt_of_cell q5) _⟩
                  clear hK K hHeld
                  have hHeld := hNew
                  clear hNew
                  (try simp only [Act.put, List.setIfInBounds_toArray, List.set_cons_zero, List.set_cons_succ])
                  refine wpAnyH_ready (rs := [21]) (by kernel_rfl) (by simp) ?_
                  refine AllReadyH.cons rfl (fun K hK => ?_) AllReadyH.nil
                  go_simp
                  refine hK.out _ _ ?_ (fun hNew => ?_)
                  · obtain ⟨q0, q1, q2, q3, q4, q5⟩ := hHeld
                    exact ⟨cell_al q0 (lt_of_cell q0) _, cell_al q1 (lt_of_cell q1) _, cell_al q2 (lt_of_cell q2) _, cell_al q3 (lt_of_cell q3) _, cell_al q4 (lt_of_cell q4) _, cell_al q5 (lt_of_cell q5) _⟩
                  clear hK K hHeld
                  have hHeld := hNew
                  clear hNew
                  (try simp only [Act.put, List.setIfInBounds_toArray, List.set_cons_zero, List.set_cons_succ])
                  refine wpAnyH_ready (rs := [29]) (by kernel_rfl) (by simp) ?_
                  refine AllReadyH.cons rfl (fun K hK => ?_) AllReadyH.nil
                  go_simp
                  refine (refBefore_any [(y.gat : Int), y.num, y.plus] [(x.gat : Int), x.num, x.plus] _ _ _ (by exact (ints3 (W := w4.alloc (.cells #[.int .i64 x.gat, .int .i64 x.num, .int .i64 x.plus] 3)) (n := w4.heap.size + 1) y.gat y.num y.plus 3 (by simp)).later (by exact (by repeat (first | (refine Below.setCell ?_ ?_ _; rotate_left; · (first | omega | (simp; done) | (simp; omega) | fail)) | (refine Below.alloc ?_ ?_ _; rotate_left; · (first | omega | (simp; done) | (simp; omega) | fail)) | refine Below.drew ?_ | exact Below.refl _ _ | fail)))) (by exact (ints3 (W := w4) (n := w4.heap.size) x.gat x.num x.plus 3 rfl).later (by exact (by repeat (first | (refine Below.setCell ?_ ?_ _; rotate_left; · (first | omega | (simp; done) | (simp; omega) | fail)) | (refine Below.alloc ?_ ?_ _; rotate_left; · (first | omega | (simp; done) | (simp; omega) | fail)) | refine Below.drew ?_ | exact Below.refl _ _ | fail)))) (by simp) (by simp)).mono ?_
                  rintro e w9 ⟨rfl, hb9⟩
                  rw [HBL.out]
                  have hb8 := Below.trans (show Below w4.heap.size w4 _ by exact (by repeat (first | (refine Below.setCell ?_ ?_ _; rotate_left; · (first | omega | (simp; done) | (simp; omega) | fail)) | (refine Below.alloc ?_ ?_ _; rotate_left; · (first | omega | (simp; done) | (simp; omega) | fail)) | refine Below.drew ?_ | exact Below.refl _ _ | fail))) (hb9.mono (by simp; omega))
                  have s0 := (hb8.cell (p := ⟨gl, t * 4, none⟩) hgl).trans m0
                  have s1 := (hb8.cell (p := ⟨gl, t * 4 + 1, none⟩) hgl).trans m1
                  have s2 := (hb8.cell (p := ⟨gl, t * 4 + 2, none⟩) hgl).trans m2
                  have s3 := (hb8.cell (p := ⟨X, 0, none⟩) hsz4).trans n0
                  have s4 := (hb8.cell (p := ⟨X, 1, none⟩) hsz4).trans n1
                  have s5 := (hb8.cell (p := ⟨X, 2, none⟩) hsz4).trans n2
                  go_wp2_with fail
                  refine hK.out _ _ ?_ (fun hNew => ?_)
                  · exact ⟨s0, s1, s2, s3, s4, s5⟩
                  clear hK K hHeld
                  have hHeld := hNew
                  clear hNew
                  (try simp only [Act.put, List.setIfInBounds_toArray, List.set_cons_zero, List.set_cons_succ])
                  refine wpAnyH_take (i := 30) (v := ?_) rfl (by kernel_rfl) (by kernel_rfl) (by kernel_rfl) (fun _ _ _ h => h) (Or.inl ⟨by rfl, ?_⟩) (by assumption) ?_
                  rotate_left
                  · (intro w hSw; (try dsimp only at hSw); (try simp only [List.getElem_toArray, List.getElem_cons_zero, List.getElem_cons_succ]); go_simp; (try with_reducible rfl))
                  (try simp only [List.getElem_toArray, List.getElem_cons_zero, List.getElem_cons_succ, Act.put, List.setIfInBounds_toArray, List.set_cons_zero, List.set_cons_succ])
                  refine wpAnyH_take (i := 31) (v := ?_) rfl (by kernel_rfl) (by kernel_rfl) (by kernel_rfl) (fun _ _ _ h => h) (Or.inl ⟨by rfl, ?_⟩) (by assumption) ?_
                  rotate_left
                  · (intro w hSw; (try dsimp only at hSw); (try simp only [List.getElem_toArray, List.getElem_cons_zero, List.getElem_cons_succ]); go_simp; (try with_reducible rfl))
                  (try simp only [List.getElem_toArray, List.getElem_cons_zero, List.getElem_cons_succ, Act.put, List.setIfInBounds_toArray, List.set_cons_zero, List.set_cons_succ])
                  refine wpAnyH_done (by kernel_rfl) ?_ _
                  have HK := Lib.hid (HK.out.later hb8)
                  have HL := Lib.hid (HL.out.later hb8)
                  clear s0 s1 s2 s3 s4 s5 m0 m1 m2 n0 n1 n2 hb8 hb9 hHeld
                  go_wp2_with fail
                  go_roundw
                  case rel => exact ⟨t + 1 + 1, by omega, by go_num, HK, HL⟩
                  case measure => simp [intOf]; omega
            · have f4 : (x.num == 0) = false := by simp [h4]
              clear h4
              go_wp2_with fail
              go_quiet (fail)
              have hbd : Below w3.heap.size w3 (w3.drewN nq) := bdrewN (Below.refl _ _) _
              have HK := Lib.hid (HK.out.later hbd)
              have HL := Lib.hid (HL.out.later hbd)
              have HXB := Lib.hid (blk_later hbd HXB.out)
              clear hbd p0 p1 p2 p3 c0 c1 g0 g1 g2 g3
              revert HK HL HXB
              generalize w3.drewN nq = w4
              intro HK HL HXB
              have hsz4 := blk_lt HXB.out
              rcases t with _ | t
              · go_wp2_with fail
                go_quiet (fail)
                go_wp2_with fail
                go_roundw
                case rel => exact ⟨0 + 1, by omega, by go_num, Lib.hid (HK.out.later (bdrewN (Below.refl _ _) _)), Lib.hid (HL.out.later (bdrewN (Below.refl _ _) _))⟩
                case measure => simp [intOf]; omega
              · obtain ⟨y, hy⟩ : ∃ y, (lvs b)[t]? = some y := ⟨_, List.getElem?_eq_getElem (by have := HN.out; omega)⟩
                have HBL := Lib.hid (before_lt (sorted_lt (lvs_sorted b) hy HX.out (Nat.lt_succ_self t)))
                obtain ⟨gl', he', hgl, m0, m1, m2, -⟩ := HL.out.get hy
                cases he'
                have n0 := blk_cell HXB.out 0
                have n1 := blk_cell HXB.out 1
                have n2 := blk_cell HXB.out 2
                change w4.cell? ⟨X, 0, none⟩ = some (.int .i64 x.gat) at n0
                change w4.cell? ⟨X, 1, none⟩ = some (.int .i64 x.num) at n1
                change w4.cell? ⟨X, 2, none⟩ = some (.int .i64 x.plus) at n2
                have e5 : decide ((0 : Int) < ((t + 1 : Nat) : Int)) = true := decide_eq_true (by omega)
                have e6 : IntKind.i64.wrap (((t + 1 : Nat) : Int) - 1) = t := by rw [IntKind.wrap_i64]; omega
                have e7 : IntKind.i64.wrap (t : Int) = t := by rw [IntKind.wrap_i64]; omega
                have d4 : ((t : Int) < N) := by omega
                have d5 : (0 : Int) ≤ (t : Int) := by omega
                have d6 : ¬ (t : Int) < 0 := by omega
                have d7 : ¬ (N : Int) ≤ (t : Int) := by omega
                have d8 : t < N := by omega
                clear hy
                go_wp2_with fail
                refine wp_region_held_drew (S := (fun u => u.cell? ⟨gl, t * 4, none⟩ = some (.int .i64 y.gat) ∧ u.cell? ⟨gl, t * 4 + 1, none⟩ = some (.int .i64 y.num) ∧ u.cell? ⟨gl, t * 4 + 2, none⟩ = some (.int .i64 y.plus) ∧ u.cell? ⟨X, 0, none⟩ = some (.int .i64 x.gat) ∧ u.cell? ⟨X, 1, none⟩ = some (.int .i64 x.num) ∧ u.cell? ⟨X, 2, none⟩ = some (.int .i64 x.plus))) (by kernel_rfl) ?_ (fun hHeld => ?_)
                · exact ⟨m0, m1, m2, n0, n1, n2⟩
                refine wpAnyH_take (i := 0) (v := ?_) rfl (by kernel_rfl) (by kernel_rfl) (by kernel_rfl) (fun _ _ _ h => h) (Or.inl ⟨by rfl, ?_⟩) (by assumption) ?_
                rotate_left
                · (intro w hSw; (try dsimp only at hSw); (try simp only [List.getElem_toArray, List.getElem_cons_zero, List.getElem_cons_succ]); go_simp; (try with_reducible rfl))
                (try simp only [List.getElem_toArray, List.getElem_cons_zero, List.getElem_cons_succ, Act.put, List.setIfInBounds_toArray, List.set_cons_zero, List.set_cons_succ])
                refine wpAnyH_take (i := 1) (v := ?_) rfl (by kernel_rfl) (by kernel_rfl) (by kernel_rfl) (fun _ _ _ h => h) (Or.inl ⟨by rfl, ?_⟩) (by assumption) ?_
                rotate_left
                · (intro w hSw; (try dsimp only at hSw); (try simp only [List.getElem_toArray, List.getElem_cons_zero, List.getElem_cons_succ]); go_simp; (try with_reducible rfl))
                (try simp only [List.getElem_toArray, List.getElem_cons_zero, List.getElem_cons_succ, Act.put, List.setIfInBounds_toArray, List.set_cons_zero, List.set_cons_succ])
                refine wpAnyH_take (i := 2) (v := ?_) rfl (by kernel_rfl) (by kernel_rfl) (by kernel_rfl) (fun _ _ _ h => h) (Or.inl ⟨by rfl, ?_⟩) (by assumption) ?_
                rotate_left
                · (intro w hSw; (try dsimp only at hSw); (try simp only [List.getElem_toArray, List.getElem_cons_zero, List.getElem_cons_succ]); go_simp; (try with_reducible rfl))
                (try simp only [List.getElem_toArray, List.getElem_cons_zero, List.getElem_cons_succ, Act.put, List.setIfInBounds_toArray, List.set_cons_zero, List.set_cons_succ])
                refine wpAnyH_take (i := 3) (v := ?_) rfl (by kernel_rfl) (by kernel_rfl) (by kernel_rfl) (fun _ _ _ h => h) (Or.inl ⟨by rfl, ?_⟩) (by assumption) ?_
                rotate_left
                · (intro w hSw; (try dsimp only at hSw); (try simp only [List.getElem_toArray, List.getElem_cons_zero, List.getElem_cons_succ]); go_simp; (try with_reducible rfl))
                (try simp only [List.getElem_toArray, List.getElem_cons_zero, List.getElem_cons_succ, Act.put, List.setIfInBounds_toArray, List.set_cons_zero, List.set_cons_succ])
                refine wpAnyH_take (i := 4) (v := ?_) rfl (by kernel_rfl) (by kernel_rfl) (by kernel_rfl) (fun _ _ _ h => h) (Or.inl ⟨by rfl, ?_⟩) (by assumption) ?_
                rotate_left
                · (intro w hSw; (try dsimp only at hSw); (try simp only [List.getElem_toArray, List.getElem_cons_zero, List.getElem_cons_succ]); go_simp; (try with_reducible rfl))
                (try simp only [List.getElem_toArray, List.getElem_cons_zero, List.getElem_cons_succ, Act.put, List.setIfInBounds_toArray, List.set_cons_zero, List.set_cons_succ])
                refine wpAnyH_take (i := 5) (v := ?_) rfl (by kernel_rfl) (by kernel_rfl) (by kernel_rfl) (fun _ _ _ h => h) (Or.inl ⟨by rfl, ?_⟩) (by assumption) ?_
                rotate_left
                · (intro w hSw; (try dsimp only at hSw); (try simp only [List.getElem_toArray, List.getElem_cons_zero, List.getElem_cons_succ]); go_simp; (try with_reducible rfl))
                (try simp only [List.getElem_toArray, List.getElem_cons_zero, List.getElem_cons_succ, Act.put, List.setIfInBounds_toArray, List.set_cons_zero, List.set_cons_succ])
                refine wpAnyH_take (i := 6) (v := ?_) rfl (by kernel_rfl) (by kernel_rfl) (by kernel_rfl) (fun _ _ _ h => h) (Or.inl ⟨by rfl, ?_⟩) (by assumption) ?_
                rotate_left
                · (intro w hSw; (try dsimp only at hSw); (try simp only [List.getElem_toArray, List.getElem_cons_zero, List.getElem_cons_succ]); go_simp; (try with_reducible rfl))
                (try simp only [List.getElem_toArray, List.getElem_cons_zero, List.getElem_cons_succ, Act.put, List.setIfInBounds_toArray, List.set_cons_zero, List.set_cons_succ])
                refine wpAnyH_take (i := 7) (v := ?_) rfl (by kernel_rfl) (by kernel_rfl) (by kernel_rfl) (fun _ _ _ h => h) (Or.inl ⟨by rfl, ?_⟩) (by assumption) ?_
                rotate_left
                · (intro w hSw; (try dsimp only at hSw); (try simp only [List.getElem_toArray, List.getElem_cons_zero, List.getElem_cons_succ]); go_simp; (try with_reducible rfl))
                (try simp only [List.getElem_toArray, List.getElem_cons_zero, List.getElem_cons_succ, Act.put, List.setIfInBounds_toArray, List.set_cons_zero, List.set_cons_succ])
                refine wpAnyH_take (i := 8) (v := ?_) rfl (by kernel_rfl) (by kernel_rfl) (by kernel_rfl) (fun _ _ _ h => h) (Or.inl ⟨by rfl, ?_⟩) (by assumption) ?_
                rotate_left
                · (intro w hSw; (try dsimp only at hSw); (try simp only [List.getElem_toArray, List.getElem_cons_zero, List.getElem_cons_succ]); go_simp; (try with_reducible rfl))
                (try simp only [List.getElem_toArray, List.getElem_cons_zero, List.getElem_cons_succ, Act.put, List.setIfInBounds_toArray, List.set_cons_zero, List.set_cons_succ])
                refine wpAnyH_take (i := 9) (v := ?_) rfl (by kernel_rfl) (by kernel_rfl) (by kernel_rfl) (fun _ _ _ h => h) (Or.inl ⟨by rfl, ?_⟩) (by assumption) ?_
                rotate_left
                · (intro w hSw; (try dsimp only at hSw); (try simp only [List.getElem_toArray, List.getElem_cons_zero, List.getElem_cons_succ]); go_simp; (try with_reducible rfl))
                (try simp only [List.getElem_toArray, List.getElem_cons_zero, List.getElem_cons_succ, Act.put, List.setIfInBounds_toArray, List.set_cons_zero, List.set_cons_succ])
                refine wpAnyH_take (i := 10) (v := ?_) rfl (by kernel_rfl) (by kernel_rfl) (by kernel_rfl) (fun _ _ _ h => h) (Or.inl ⟨by rfl, ?_⟩) (by assumption) ?_
                rotate_left
                · (intro w hSw; (try dsimp only at hSw); (try simp only [List.getElem_toArray, List.getElem_cons_zero, List.getElem_cons_succ]); go_simp; (try with_reducible rfl))
                (try simp only [List.getElem_toArray, List.getElem_cons_zero, List.getElem_cons_succ, Act.put, List.setIfInBounds_toArray, List.set_cons_zero, List.set_cons_succ])
                refine wpAnyH_take (i := 11) (v := ?_) rfl (by kernel_rfl) (by kernel_rfl) (by kernel_rfl) (fun _ _ _ h => h) (Or.inl ⟨by rfl, ?_⟩) (by assumption) ?_
                rotate_left
                · (intro w hSw; (try dsimp only at hSw); (try simp only [List.getElem_toArray, List.getElem_cons_zero, List.getElem_cons_succ]); go_simp; (try with_reducible rfl))
                (try simp only [List.getElem_toArray, List.getElem_cons_zero, List.getElem_cons_succ, Act.put, List.setIfInBounds_toArray, List.set_cons_zero, List.set_cons_succ])
                refine wpAnyH_take (i := 12) (v := ?_) rfl (by kernel_rfl) (by kernel_rfl) (by kernel_rfl) (fun _ _ _ h => h) (Or.inl ⟨by rfl, ?_⟩) (by assumption) ?_
                rotate_left
                · (intro w hSw; (try dsimp only at hSw); (try simp only [List.getElem_toArray, List.getElem_cons_zero, List.getElem_cons_succ]); go_simp; (try with_reducible rfl))
                (try simp only [List.getElem_toArray, List.getElem_cons_zero, List.getElem_cons_succ, Act.put, List.setIfInBounds_toArray, List.set_cons_zero, List.set_cons_succ])
                refine wpAnyH_take (i := 13) (v := ?_) rfl (by kernel_rfl) (by kernel_rfl) (by kernel_rfl) (fun _ _ _ h => h) (Or.inl ⟨by rfl, ?_⟩) (by assumption) ?_
                rotate_left
                · (intro w hSw; (try dsimp only at hSw); (try simp only [List.getElem_toArray, List.getElem_cons_zero, List.getElem_cons_succ]); go_simp; (try with_reducible rfl))
                (try simp only [List.getElem_toArray, List.getElem_cons_zero, List.getElem_cons_succ, Act.put, List.setIfInBounds_toArray, List.set_cons_zero, List.set_cons_succ])
                refine wpAnyH_take (i := 14) (v := ?_) rfl (by kernel_rfl) (by kernel_rfl) (by kernel_rfl) (fun _ _ _ h => h) (Or.inl ⟨by rfl, ?_⟩) (by assumption) ?_
                rotate_left
                · (intro w hSw; (try dsimp only at hSw); (try simp only [List.getElem_toArray, List.getElem_cons_zero, List.getElem_cons_succ]); go_simp; (try with_reducible rfl))
                (try simp only [List.getElem_toArray, List.getElem_cons_zero, List.getElem_cons_succ, Act.put, List.setIfInBounds_toArray, List.set_cons_zero, List.set_cons_succ])
                refine wpAnyH_take (i := 15) (v := ?_) rfl (by kernel_rfl) (by kernel_rfl) (by kernel_rfl) (fun _ _ _ h => h) (Or.inl ⟨by rfl, ?_⟩) (by assumption) ?_
                rotate_left
                · (intro w hSw; (try dsimp only at hSw); (try simp only [List.getElem_toArray, List.getElem_cons_zero, List.getElem_cons_succ]); go_simp; (try with_reducible rfl))
                (try simp only [List.getElem_toArray, List.getElem_cons_zero, List.getElem_cons_succ, Act.put, List.setIfInBounds_toArray, List.set_cons_zero, List.set_cons_succ])
                refine wpAnyH_take (i := 16) (v := ?_) rfl (by kernel_rfl) (by kernel_rfl) (by kernel_rfl) (fun _ _ _ h => h) (Or.inl ⟨by rfl, ?_⟩) (by assumption) ?_
                rotate_left
                · (intro w hSw; (try dsimp only at hSw); (try simp only [List.getElem_toArray, List.getElem_cons_zero, List.getElem_cons_succ]); go_simp; (try with_reducible rfl))
                (try simp only [List.getElem_toArray, List.getElem_cons_zero, List.getElem_cons_succ, Act.put, List.setIfInBounds_toArray, List.set_cons_zero, List.set_cons_succ])
                refine wpAnyH_take (i := 17) (v := ?_) rfl (by kernel_rfl) (by kernel_rfl) (by kernel_rfl) (fun _ _ _ h => h) (Or.inl ⟨by rfl, ?_⟩) (by assumption) ?_
                rotate_left
                · (intro w hSw; (try dsimp only at hSw); (try simp only [List.getElem_toArray, List.getElem_cons_zero, List.getElem_cons_succ]); go_simp; (try with_reducible rfl))
                (try simp only [List.getElem_toArray, List.getElem_cons_zero, List.getElem_cons_succ, Act.put, List.setIfInBounds_toArray, List.set_cons_zero, List.set_cons_succ])
                refine wpAnyH_take (i := 18) (v := ?_) rfl (by kernel_rfl) (by kernel_rfl) (by kernel_rfl) (fun _ _ _ h => h) (Or.inl ⟨by rfl, ?_⟩) (by assumption) ?_
                rotate_left
                · (intro w hSw; (try dsimp only at hSw); (try simp only [List.getElem_toArray, List.getElem_cons_zero, List.getElem_cons_succ]); go_simp; (try with_reducible rfl))
                (try simp only [List.getElem_toArray, List.getElem_cons_zero, List.getElem_cons_succ, Act.put, List.setIfInBounds_toArray, List.set_cons_zero, List.set_cons_succ])
                refine wpAnyH_take (i := 19) (v := ?_) rfl (by kernel_rfl) (by kernel_rfl) (by kernel_rfl) (fun _ _ _ h => h) (Or.inl ⟨by rfl, ?_⟩) (by assumption) ?_
                rotate_left
                · (intro w hSw; (try dsimp only at hSw); (try simp only [List.getElem_toArray, List.getElem_cons_zero, List.getElem_cons_succ]); go_simp; (try with_reducible rfl))
                (try simp only [List.getElem_toArray, List.getElem_cons_zero, List.getElem_cons_succ, Act.put, List.setIfInBounds_toArray, List.set_cons_zero, List.set_cons_succ])
                refine wpAnyH_take (i := 20) (v := ?_) rfl (by kernel_rfl) (by kernel_rfl) (by kernel_rfl) (fun _ _ _ h => h) (Or.inl ⟨by rfl, ?_⟩) (by assumption) ?_
                rotate_left
                · (intro w hSw; (try dsimp only at hSw); (try simp only [List.getElem_toArray, List.getElem_cons_zero, List.getElem_cons_succ]); go_simp; (try with_reducible rfl))
                (try simp only [List.getElem_toArray, List.getElem_cons_zero, List.getElem_cons_succ, Act.put, List.setIfInBounds_toArray, List.set_cons_zero, List.set_cons_succ])
                refine wpAnyH_take (i := 22) (v := ?_) rfl (by kernel_rfl) (by kernel_rfl) (by kernel_rfl) (fun _ _ _ h => h) (Or.inl ⟨by rfl, ?_⟩) (by assumption) ?_
                rotate_left
                · (intro w hSw; (try dsimp only at hSw); (try simp only [List.getElem_toArray, List.getElem_cons_zero, List.getElem_cons_succ]); go_simp; (try with_reducible rfl))
                (try simp only [List.getElem_toArray, List.getElem_cons_zero, List.getElem_cons_succ, Act.put, List.setIfInBounds_toArray, List.set_cons_zero, List.set_cons_succ])
                refine wpAnyH_take (i := 23) (v := ?_) rfl (by kernel_rfl) (by kernel_rfl) (by kernel_rfl) (fun _ _ _ h => h) (Or.inl ⟨by rfl, ?_⟩) (by assumption) ?_
                rotate_left
                · (intro w hSw; (try dsimp only at hSw); (try simp only [List.getElem_toArray, List.getElem_cons_zero, List.getElem_cons_succ]); go_simp; (try with_reducible rfl))
                (try simp only [List.getElem_toArray, List.getElem_cons_zero, List.getElem_cons_succ, Act.put, List.setIfInBounds_toArray, List.set_cons_zero, List.set_cons_succ])
                refine wpAnyH_take (i := 24) (v := ?_) rfl (by kernel_rfl) (by kernel_rfl) (by kernel_rfl) (fun _ _ _ h => h) (Or.inl ⟨by rfl, ?_⟩) (by assumption) ?_
                rotate_left
                · (intro w hSw; (try dsimp only at hSw); (try simp only [List.getElem_toArray, List.getElem_cons_zero, List.getElem_cons_succ]); go_simp; (try with_reducible rfl))
                (try simp only [List.getElem_toArray, List.getElem_cons_zero, List.getElem_cons_succ, Act.put, List.setIfInBounds_toArray, List.set_cons_zero, List.set_cons_succ])
                refine wpAnyH_take (i := 25) (v := ?_) rfl (by kernel_rfl) (by kernel_rfl) (by kernel_rfl) (fun _ _ _ h => h) (Or.inl ⟨by rfl, ?_⟩) (by assumption) ?_
                rotate_left
                · (intro w hSw; (try dsimp only at hSw); (try simp only [List.getElem_toArray, List.getElem_cons_zero, List.getElem_cons_succ]); go_simp; (try with_reducible rfl))
                (try simp only [List.getElem_toArray, List.getElem_cons_zero, List.getElem_cons_succ, Act.put, List.setIfInBounds_toArray, List.set_cons_zero, List.set_cons_succ])
                refine wpAnyH_take (i := 26) (v := ?_) rfl (by kernel_rfl) (by kernel_rfl) (by kernel_rfl) (fun _ _ _ h => h) (Or.inl ⟨by rfl, ?_⟩) (by assumption) ?_
                rotate_left
                · (intro w hSw; (try dsimp only at hSw); (try simp only [List.getElem_toArray, List.getElem_cons_zero, List.getElem_cons_succ]); go_simp; (try with_reducible rfl))
                (try simp only [List.getElem_toArray, List.getElem_cons_zero, List.getElem_cons_succ, Act.put, List.setIfInBounds_toArray, List.set_cons_zero, List.set_cons_succ])
                refine wpAnyH_take (i := 27) (v := ?_) rfl (by kernel_rfl) (by kernel_rfl) (by kernel_rfl) (fun _ _ _ h => h) (Or.inl ⟨by rfl, ?_⟩) (by assumption) ?_
                rotate_left
                · (intro w hSw; (try dsimp only at hSw); (try simp only [List.getElem_toArray, List.getElem_cons_zero, List.getElem_cons_succ]); go_simp; (try with_reducible rfl))
                (try simp only [List.getElem_toArray, List.getElem_cons_zero, List.getElem_cons_succ, Act.put, List.setIfInBounds_toArray, List.set_cons_zero, List.set_cons_succ])
                refine wpAnyH_ready (rs := [21, 28]) (by kernel_rfl) (by simp) ?_
                refine AllReadyH.cons rfl (fun K hK => ?_) ?_
                · go_simp
                  refine hK.out _ _ ?_ (fun hNew => ?_)
                  · obtain ⟨q0, q1, q2, q3, q4, q5⟩ := hHeld
                    exact ⟨cell_al q0 (lt_of_cell q0) _, cell_al q1 (lt_of_cell q1) _, cell_al q2 (lt_of_cell q2) _, cell_al q3 (lt_of_cell q3) _, cell_al q4 (lt_of_cell q4) _, cell_al q5 (lt_of_cell q5) _⟩
                  clear hK K hHeld
                  have hHeld := hNew
                  clear hNew
                  (try simp only [Act.put, List.setIfInBounds_toArray, List.set_cons_zero, List.set_cons_succ])
                  refine wpAnyH_ready (rs := [28]) (by kernel_rfl) (by simp) ?_
                  refine AllReadyH.cons rfl (fun K hK => ?_) AllReadyH.nil
                  go_simp
                  refine hK.out _ _ ?_ (fun hNew => ?_)
                  · obtain ⟨q0, q1, q2, q3, q4, q5⟩ := hHeld
                    exact ⟨cell_al q0 (lt_of_cell q0) _, cell_al q1 (lt_of_cell q1) _, cell_al q2 (lt_of_cell q2) _, cell_al q3 (lt_of_cell q3) _, cell_al q4 (lt_of_cell q4) _, cell_al q5 (lt_of_cell q5) _⟩
                  clear hK K hHeld
                  have hHeld := hNew
                  clear hNew
                  (try simp only [Act.put, List.setIfInBounds_toArray, List.set_cons_zero, List.set_cons_succ])
                  refine wpAnyH_ready (rs := [29]) (by kernel_rfl) (by simp) ?_
                  refine AllReadyH.cons rfl (fun K hK => ?_) AllReadyH.nil
                  go_simp
                  refine (refBefore_any [(y.gat : Int), y.num, y.plus] [(x.gat : Int), x.num, x.plus] _ _ _ (by exact (ints3 (W := w4) (n := w4.heap.size) y.gat y.num y.plus 3 rfl).later (by exact (by repeat (first | (refine Below.setCell ?_ ?_ _; rotate_left; · (first | omega | (simp; done) | (simp; omega) | fail)) | (refine Below.alloc ?_ ?_ _; rotate_left; · (first | omega | (simp; done) | (simp; omega) | fail)) | refine Below.drew ?_ | exact Below.refl _ _ | fail)))) (by exact (ints3 (W := w4.alloc (.cells #[.int .i64 y.gat, .int .i64 y.num, .int .i64 y.plus] 3)) (n := w4.heap.size + 1) x.gat x.num x.plus 3 (by simp)).later (by exact (by repeat (first | (refine Below.setCell ?_ ?_ _; rotate_left; · (first | omega | (simp; done) | (simp; omega) | fail)) | (refine Below.alloc ?_ ?_ _; rotate_left; · (first | omega | (simp; done) | (simp; omega) | fail)) | refine Below.drew ?_ | exact Below.refl _ _ | fail)))) (by simp) (by simp)).mono ?_
                  rintro e w9 ⟨rfl, hb9⟩
                  rw [HBL.out]
                  have hb8 := Below.trans (show Below w4.heap.size w4 _ by exact (by repeat (first | (refine Below.setCell ?_ ?_ _; rotate_left; · (first | omega | (simp; done) | (simp; omega) | fail)) | (refine Below.alloc ?_ ?_ _; rotate_left; · (first | omega | (simp; done) | (simp; omega) | fail)) | refine Below.drew ?_ | exact Below.refl _ _ | fail))) (hb9.mono (by simp; omega))
                  have s0 := (hb8.cell (p := ⟨gl, t * 4, none⟩) hgl).trans m0
                  have s1 := (hb8.cell (p := ⟨gl, t * 4 + 1, none⟩) hgl).trans m1
                  have s2 := (hb8.cell (p := ⟨gl, t * 4 + 2, none⟩) hgl).trans m2
                  have s3 := (hb8.cell (p := ⟨X, 0, none⟩) hsz4).trans n0
                  have s4 := (hb8.cell (p := ⟨X, 1, none⟩) hsz4).trans n1
                  have s5 := (hb8.cell (p := ⟨X, 2, none⟩) hsz4).trans n2
                  go_wp2_with fail
                  refine hK.out _ _ ?_ (fun hNew => ?_)
                  · exact ⟨s0, s1, s2, s3, s4, s5⟩
                  clear hK K hHeld
                  have hHeld := hNew
                  clear hNew
                  (try simp only [Act.put, List.setIfInBounds_toArray, List.set_cons_zero, List.set_cons_succ])
                  refine wpAnyH_take (i := 30) (v := ?_) rfl (by kernel_rfl) (by kernel_rfl) (by kernel_rfl) (fun _ _ _ h => h) (Or.inl ⟨by rfl, ?_⟩) (by assumption) ?_
                  rotate_left
                  · (intro w hSw; (try dsimp only at hSw); (try simp only [List.getElem_toArray, List.getElem_cons_zero, List.getElem_cons_succ]); go_simp; (try with_reducible rfl))
                  (try simp only [List.getElem_toArray, List.getElem_cons_zero, List.getElem_cons_succ, Act.put, List.setIfInBounds_toArray, List.set_cons_zero, List.set_cons_succ])
                  refine wpAnyH_take (i := 31) (v := ?_) rfl (by kernel_rfl) (by kernel_rfl) (by kernel_rfl) (fun _ _ _ h => h) (Or.inl ⟨by rfl, ?_⟩) (by assumption) ?_
                  rotate_left
                  · (intro w hSw; (try dsimp only at hSw); (try simp only [List.getElem_toArray, List.getElem_cons_zero, List.getElem_cons_succ]); go_simp; (try with_reducible rfl))
                  (try simp only [List.getElem_toArray, List.getElem_cons_zero, List.getElem_cons_succ, Act.put, List.setIfInBounds_toArray, List.set_cons_zero, List.set_cons_succ])
                  refine wpAnyH_done (by kernel_rfl) ?_ _
                  have HK := Lib.hid (HK.out.later hb8)
                  have HL := Lib.hid (HL.out.later hb8)
                  clear s0 s1 s2 s3 s4 s5 m0 m1 m2 n0 n1 n2 hb8 hb9 hHeld
                  go_wp2_with fail
                  go_roundw
                  case rel => exact ⟨t + 1 + 1, by omega, by go_num, HK, HL⟩
                  case measure => simp [intOf]; omega
                refine AllReadyH.cons rfl (fun K hK => ?_) AllReadyH.nil
                · go_simp
                  refine hK.out _ _ ?_ (fun hNew => ?_)
                  · obtain ⟨q0, q1, q2, q3, q4, q5⟩ := hHeld
                    exact ⟨cell_al q0 (lt_of_cell q0) _, cell_al q1 (lt_of_cell q1) _, cell_al q2 (lt_of_cell q2) _, cell_al q3 (lt_of_cell q3) _, cell_al q4 (lt_of_cell q4) _, cell_al q5 (lt_of_cell q5) _⟩
                  clear hK K hHeld
                  have hHeld := hNew
                  clear hNew
                  (try simp only [Act.put, List.setIfInBounds_toArray, List.set_cons_zero, List.set_cons_succ])
                  refine wpAnyH_ready (rs := [21]) (by kernel_rfl) (by simp) ?_
                  refine AllReadyH.cons rfl (fun K hK => ?_) AllReadyH.nil
                  go_simp
                  refine hK.out _ _ ?_ (fun hNew => ?_)
                  · obtain ⟨q0, q1, q2, q3, q4, q5⟩ := hHeld
                    exact ⟨cell_al q0 (lt_of_cell q0) _, cell_al q1 (lt_of_cell q1) _, cell_al q2 (lt_of_cell q2) _, cell_al q3 (lt_of_cell q3) _, cell_al q4 (lt_of_cell q4) _, cell_al q5 (lt_of_cell q5) _⟩
                  clear hK K hHeld
                  have hHeld := hNew
                  clear hNew
                  (try simp only [Act.put, List.setIfInBounds_toArray, List.set_cons_zero, List.set_cons_succ])
                  refine wpAnyH_ready (rs := [29]) (by kernel_rfl) (by simp) ?_
                  refine AllReadyH.cons rfl (fun K hK => ?_) AllReadyH.nil
                  go_simp
                  refine (refBefore_any [(y.gat : Int), y.num, y.plus] [(x.gat : Int), x.num, x.plus] _ _ _ (by exact (ints3 (W := w4.alloc (.cells #[.int .i64 x.gat, .int .i64 x.num, .int .i64 x.plus] 3)) (n := w4.heap.size + 1) y.gat y.num y.plus 3 (by simp)).later (by exact (by repeat (first | (refine Below.setCell ?_ ?_ _; rotate_left; · (first | omega | (simp; done) | (simp; omega) | fail)) | (refine Below.alloc ?_ ?_ _; rotate_left; · (first | omega | (simp; done) | (simp; omega) | fail)) | refine Below.drew ?_ | exact Below.refl _ _ | fail)))) (by exact (ints3 (W := w4) (n := w4.heap.size) x.gat x.num x.plus 3 rfl).later (by exact (by repeat (first | (refine Below.setCell ?_ ?_ _; rotate_left; · (first | omega | (simp; done) | (simp; omega) | fail)) | (refine Below.alloc ?_ ?_ _; rotate_left; · (first | omega | (simp; done) | (simp; omega) | fail)) | refine Below.drew ?_ | exact Below.refl _ _ | fail)))) (by simp) (by simp)).mono ?_
                  rintro e w9 ⟨rfl, hb9⟩
                  rw [HBL.out]
                  have hb8 := Below.trans (show Below w4.heap.size w4 _ by exact (by repeat (first | (refine Below.setCell ?_ ?_ _; rotate_left; · (first | omega | (simp; done) | (simp; omega) | fail)) | (refine Below.alloc ?_ ?_ _; rotate_left; · (first | omega | (simp; done) | (simp; omega) | fail)) | refine Below.drew ?_ | exact Below.refl _ _ | fail))) (hb9.mono (by simp; omega))
                  have s0 := (hb8.cell (p := ⟨gl, t * 4, none⟩) hgl).trans m0
                  have s1 := (hb8.cell (p := ⟨gl, t * 4 + 1, none⟩) hgl).trans m1
                  have s2 := (hb8.cell (p := ⟨gl, t * 4 + 2, none⟩) hgl).trans m2
                  have s3 := (hb8.cell (p := ⟨X, 0, none⟩) hsz4).trans n0
                  have s4 := (hb8.cell (p := ⟨X, 1, none⟩) hsz4).trans n1
                  have s5 := (hb8.cell (p := ⟨X, 2, none⟩) hsz4).trans n2
                  go_wp2_with fail
                  refine hK.out _ _ ?_ (fun hNew => ?_)
                  · exact ⟨s0, s1, s2, s3, s4, s5⟩
                  clear hK K hHeld
                  have hHeld := hNew
                  clear hNew
                  (try simp only [Act.put, List.setIfInBounds_toArray, List.set_cons_zero, List.set_cons_succ])
                  refine wpAnyH_take (i := 30) (v := ?_) rfl (by kernel_rfl) (by kernel_rfl) (by kernel_rfl) (fun _ _ _ h => h) (Or.inl ⟨by rfl, ?_⟩) (by assumption) ?_
                  rotate_left
                  · (intro w hSw; (try dsimp only at hSw); (try simp only [List.getElem_toArray, List.getElem_cons_zero, List.getElem_cons_succ]); go_simp; (try with_reducible rfl))
                  (try simp only [List.getElem_toArray, List.getElem_cons_zero, List.getElem_cons_succ, Act.put, List.setIfInBounds_toArray, List.set_cons_zero, List.set_cons_succ])
                  refine wpAnyH_take (i := 31) (v := ?_) rfl (by kernel_rfl) (by kernel_rfl) (by kernel_rfl) (fun _ _ _ h => h) (Or.inl ⟨by rfl, ?_⟩) (by assumption) ?_
                  rotate_left
                  · (intro w hSw; (try dsimp only at hSw); (try simp only [List.getElem_toArray, List.getElem_cons_zero, List.getElem_cons_succ]); go_simp; (try with_reducible rfl))
                  (try simp only [List.getElem_toArray, List.getElem_cons_zero, List.getElem_cons_succ, Act.put, List.setIfInBounds_toArray, List.set_cons_zero, List.set_cons_succ])
                  refine wpAnyH_done (by kernel_rfl) ?_ _
                  have HK := Lib.hid (HK.out.later hb8)
                  have HL := Lib.hid (HL.out.later hb8)
                  clear s0 s1 s2 s3 s4 s5 m0 m1 m2 n0 n1 n2 hb8 hb9 hHeld
                  go_wp2_with fail
                  go_roundw
                  case rel => exact ⟨t + 1 + 1, by omega, by go_num, HK, HL⟩
                  case measure => simp [intOf]; omega
          · have f1 : (x.kind == 2) = false := by simp [h1]
            have f2 : decide (0 < x.plus) = false := decide_eq_false (by omega)
            have f4 : (x.num == 0) = false := by simp [h3]
            clear h1 h2 h3
            go_wp2_with fail
            go_quiet (fail)
            have hbd : Below w3.heap.size w3 (w3.drewN nq) := bdrewN (Below.refl _ _) _
            have HK := Lib.hid (HK.out.later hbd)
            have HL := Lib.hid (HL.out.later hbd)
            have HXB := Lib.hid (blk_later hbd HXB.out)
            clear hbd p0 p1 p2 p3 c0 c1 g0 g1 g2 g3
            revert HK HL HXB
            generalize w3.drewN nq = w4
            intro HK HL HXB
            have hsz4 := blk_lt HXB.out
            rcases t with _ | t
            · go_wp2_with fail
              go_quiet (fail)
              go_wp2_with fail
              go_roundw
              case rel => exact ⟨0 + 1, by omega, by go_num, Lib.hid (HK.out.later (bdrewN (Below.refl _ _) _)), Lib.hid (HL.out.later (bdrewN (Below.refl _ _) _))⟩
              case measure => simp [intOf]; omega
            · obtain ⟨y, hy⟩ : ∃ y, (lvs b)[t]? = some y := ⟨_, List.getElem?_eq_getElem (by have := HN.out; omega)⟩
              have HBL := Lib.hid (before_lt (sorted_lt (lvs_sorted b) hy HX.out (Nat.lt_succ_self t)))
              obtain ⟨gl', he', hgl, m0, m1, m2, -⟩ := HL.out.get hy
              cases he'
              have n0 := blk_cell HXB.out 0
              have n1 := blk_cell HXB.out 1
              have n2 := blk_cell HXB.out 2
              change w4.cell? ⟨X, 0, none⟩ = some (.int .i64 x.gat) at n0
              change w4.cell? ⟨X, 1, none⟩ = some (.int .i64 x.num) at n1
              change w4.cell? ⟨X, 2, none⟩ = some (.int .i64 x.plus) at n2
              have e5 : decide ((0 : Int) < ((t + 1 : Nat) : Int)) = true := decide_eq_true (by omega)
              have e6 : IntKind.i64.wrap (((t + 1 : Nat) : Int) - 1) = t := by rw [IntKind.wrap_i64]; omega
              have e7 : IntKind.i64.wrap (t : Int) = t := by rw [IntKind.wrap_i64]; omega
              have d4 : ((t : Int) < N) := by omega
              have d5 : (0 : Int) ≤ (t : Int) := by omega
              have d6 : ¬ (t : Int) < 0 := by omega
              have d7 : ¬ (N : Int) ≤ (t : Int) := by omega
              have d8 : t < N := by omega
              clear hy
              go_wp2_with fail
              refine wp_region_held_drew (S := (fun u => u.cell? ⟨gl, t * 4, none⟩ = some (.int .i64 y.gat) ∧ u.cell? ⟨gl, t * 4 + 1, none⟩ = some (.int .i64 y.num) ∧ u.cell? ⟨gl, t * 4 + 2, none⟩ = some (.int .i64 y.plus) ∧ u.cell? ⟨X, 0, none⟩ = some (.int .i64 x.gat) ∧ u.cell? ⟨X, 1, none⟩ = some (.int .i64 x.num) ∧ u.cell? ⟨X, 2, none⟩ = some (.int .i64 x.plus))) (by kernel_rfl) ?_ (fun hHeld => ?_)
              · exact ⟨m0, m1, m2, n0, n1, n2⟩
              refine wpAnyH_take (i := 0) (v := ?_) rfl (by kernel_rfl) (by kernel_rfl) (by kernel_rfl) (fun _ _ _ h => h) (Or.inl ⟨by rfl, ?_⟩) (by assumption) ?_
              rotate_left
              · (intro w hSw; (try dsimp only at hSw); (try simp only [List.getElem_toArray, List.getElem_cons_zero, List.getElem_cons_succ]); go_simp; (try with_reducible rfl))
              (try simp only [List.getElem_toArray, List.getElem_cons_zero, List.getElem_cons_succ, Act.put, List.setIfInBounds_toArray, List.set_cons_zero, List.set_cons_succ])
              refine wpAnyH_take (i := 1) (v := ?_) rfl (by kernel_rfl) (by kernel_rfl) (by kernel_rfl) (fun _ _ _ h => h) (Or.inl ⟨by rfl, ?_⟩) (by assumption) ?_
              rotate_left
              · (intro w hSw; (try dsimp only at hSw); (try simp only [List.getElem_toArray, List.getElem_cons_zero, List.getElem_cons_succ]); go_simp; (try with_reducible rfl))
              (try simp only [List.getElem_toArray, List.getElem_cons_zero, List.getElem_cons_succ, Act.put, List.setIfInBounds_toArray, List.set_cons_zero, List.set_cons_succ])
              refine wpAnyH_take (i := 2) (v := ?_) rfl (by kernel_rfl) (by kernel_rfl) (by kernel_rfl) (fun _ _ _ h => h) (Or.inl ⟨by rfl, ?_⟩) (by assumption) ?_
              rotate_left
              · (intro w hSw; (try dsimp only at hSw); (try simp only [List.getElem_toArray, List.getElem_cons_zero, List.getElem_cons_succ]); go_simp; (try with_reducible rfl))
              (try simp only [List.getElem_toArray, List.getElem_cons_zero, List.getElem_cons_succ, Act.put, List.setIfInBounds_toArray, List.set_cons_zero, List.set_cons_succ])
              refine wpAnyH_take (i := 3) (v := ?_) rfl (by kernel_rfl) (by kernel_rfl) (by kernel_rfl) (fun _ _ _ h => h) (Or.inl ⟨by rfl, ?_⟩) (by assumption) ?_
              rotate_left
              · (intro w hSw; (try dsimp only at hSw); (try simp only [List.getElem_toArray, List.getElem_cons_zero, List.getElem_cons_succ]); go_simp; (try with_reducible rfl))
              (try simp only [List.getElem_toArray, List.getElem_cons_zero, List.getElem_cons_succ, Act.put, List.setIfInBounds_toArray, List.set_cons_zero, List.set_cons_succ])
              refine wpAnyH_take (i := 4) (v := ?_) rfl (by kernel_rfl) (by kernel_rfl) (by kernel_rfl) (fun _ _ _ h => h) (Or.inl ⟨by rfl, ?_⟩) (by assumption) ?_
              rotate_left
              · (intro w hSw; (try dsimp only at hSw); (try simp only [List.getElem_toArray, List.getElem_cons_zero, List.getElem_cons_succ]); go_simp; (try with_reducible rfl))
              (try simp only [List.getElem_toArray, List.getElem_cons_zero, List.getElem_cons_succ, Act.put, List.setIfInBounds_toArray, List.set_cons_zero, List.set_cons_succ])
              refine wpAnyH_take (i := 5) (v := ?_) rfl (by kernel_rfl) (by kernel_rfl) (by kernel_rfl) (fun _ _ _ h => h) (Or.inl ⟨by rfl, ?_⟩) (by assumption) ?_
              rotate_left
              · (intro w hSw; (try dsimp only at hSw); (try simp only [List.getElem_toArray, List.getElem_cons_zero, List.getElem_cons_succ]); go_simp; (try with_reducible rfl))
              (try simp only [List.getElem_toArray, List.getElem_cons_zero, List.getElem_cons_succ, Act.put, List.setIfInBounds_toArray, List.set_cons_zero, List.set_cons_succ])
              refine wpAnyH_take (i := 6) (v := ?_) rfl (by kernel_rfl) (by kernel_rfl) (by kernel_rfl) (fun _ _ _ h => h) (Or.inl ⟨by rfl, ?_⟩) (by assumption) ?_
              rotate_left
              · (intro w hSw; (try dsimp only at hSw); (try simp only [List.getElem_toArray, List.getElem_cons_zero, List.getElem_cons_succ]); go_simp; (try with_reducible rfl))
              (try simp only [List.getElem_toArray, List.getElem_cons_zero, List.getElem_cons_succ, Act.put, List.setIfInBounds_toArray, List.set_cons_zero, List.set_cons_succ])
              refine wpAnyH_take (i := 7) (v := ?_) rfl (by kernel_rfl) (by kernel_rfl) (by kernel_rfl) (fun _ _ _ h => h) (Or.inl ⟨by rfl, ?_⟩) (by assumption) ?_
              rotate_left
              · (intro w hSw; (try dsimp only at hSw); (try simp only [List.getElem_toArray, List.getElem_cons_zero, List.getElem_cons_succ]); go_simp; (try with_reducible rfl))
              (try simp only [List.getElem_toArray, List.getElem_cons_zero, List.getElem_cons_succ, Act.put, List.setIfInBounds_toArray, List.set_cons_zero, List.set_cons_succ])
              refine wpAnyH_take (i := 8) (v := ?_) rfl (by kernel_rfl) (by kernel_rfl) (by kernel_rfl) (fun _ _ _ h => h) (Or.inl ⟨by rfl, ?_⟩) (by assumption) ?_
              rotate_left
              · (intro w hSw; (try dsimp only at hSw); (try simp only [List.getElem_toArray, List.getElem_cons_zero, List.getElem_cons_succ]); go_simp; (try with_reducible rfl))
              (try simp only [List.getElem_toArray, List.getElem_cons_zero, List.getElem_cons_succ, Act.put, List.setIfInBounds_toArray, List.set_cons_zero, List.set_cons_succ])
              refine wpAnyH_take (i := 9) (v := ?_) rfl (by kernel_rfl) (by kernel_rfl) (by kernel_rfl) (fun _ _ _ h => h) (Or.inl ⟨by rfl, ?_⟩) (by assumption) ?_
              rotate_left
              · (intro w hSw; (try dsimp only at hSw); (try simp only [List.getElem_toArray, List.getElem_cons_zero, List.getElem_cons_succ]); go_simp; (try with_reducible rfl))
              (try simp only [List.getElem_toArray, List.getElem_cons_zero, List.getElem_cons_succ, Act.put, List.setIfInBounds_toArray, List.set_cons_zero, List.set_cons_succ])
              refine wpAnyH_take (i := 10) (v := ?_) rfl (by kernel_rfl) (by kernel_rfl) (by kernel_rfl) (fun _ _ _ h => h) (Or.inl ⟨by rfl, ?_⟩) (by assumption) ?_
              rotate_left
              · (intro w hSw; (try dsimp only at hSw); (try simp only [List.getElem_toArray, List.getElem_cons_zero, List.getElem_cons_succ]); go_simp; (try with_reducible rfl))
              (try simp only [List.getElem_toArray, List.getElem_cons_zero, List.getElem_cons_succ, Act.put, List.setIfInBounds_toArray, List.set_cons_zero, List.set_cons_succ])
              refine wpAnyH_take (i := 11) (v := ?_) rfl (by kernel_rfl) (by kernel_rfl) (by kernel_rfl) (fun _ _ _ h => h) (Or.inl ⟨by rfl, ?_⟩) (by assumption) ?_
              rotate_left
              · (intro w hSw; (try dsimp only at hSw); (try simp only [List.getElem_toArray, List.getElem_cons_zero, List.getElem_cons_succ]); go_simp; (try with_reducible rfl))
              (try simp only [List.getElem_toArray, List.getElem_cons_zero, List.getElem_cons_succ, Act.put, List.setIfInBounds_toArray, List.set_cons_zero, List.set_cons_succ])
              refine wpAnyH_take (i := 12) (v := ?_) rfl (by kernel_rfl) (by kernel_rfl) (by kernel_rfl) (fun _ _ _ h => h) (Or.inl ⟨by rfl, ?_⟩) (by assumption) ?_
              rotate_left
              · (intro w hSw; (try dsimp only at hSw); (try simp only [List.getElem_toArray, List.getElem_cons_zero, List.getElem_cons_succ]); go_simp; (try with_reducible rfl))
              (try simp only [List.getElem_toArray, List.getElem_cons_zero, List.getElem_cons_succ, Act.put, List.setIfInBounds_toArray, List.set_cons_zero, List.set_cons_succ])
              refine wpAnyH_take (i := 13) (v := ?_) rfl (by kernel_rfl) (by kernel_rfl) (by kernel_rfl) (fun _ _ _ h => h) (Or.inl ⟨by rfl, ?_⟩) (by assumption) ?_
              rotate_left
              · (intro w hSw; (try dsimp only at hSw); (try simp only [List.getElem_toArray, List.getElem_cons_zero, List.getElem_cons_succ]); go_simp; (try with_reducible rfl))
              (try simp only [List.getElem_toArray, List.getElem_cons_zero, List.getElem_cons_succ, Act.put, List.setIfInBounds_toArray, List.set_cons_zero, List.set_cons_succ])
              refine wpAnyH_take (i := 14) (v := ?_) rfl (by kernel_rfl) (by kernel_rfl) (by kernel_rfl) (fun _ _ _ h => h) (Or.inl ⟨by rfl, ?_⟩) (by assumption) ?_
              rotate_left
              · (intro w hSw; (try dsimp only at hSw); (try simp only [List.getElem_toArray, List.getElem_cons_zero, List.getElem_cons_succ]); go_simp; (try with_reducible rfl))
              (try simp only [List.getElem_toArray, List.getElem_cons_zero, List.getElem_cons_succ, Act.put, List.setIfInBounds_toArray, List.set_cons_zero, List.set_cons_succ])
              refine wpAnyH_take (i := 15) (v := ?_) rfl (by kernel_rfl) (by kernel_rfl) (by kernel_rfl) (fun _ _ _ h => h) (Or.inl ⟨by rfl, ?_⟩) (by assumption) ?_
              rotate_left
              · (intro w hSw; (try dsimp only at hSw); (try simp only [List.getElem_toArray, List.getElem_cons_zero, List.getElem_cons_succ]); go_simp; (try with_reducible rfl))
              (try simp only [List.getElem_toArray, List.getElem_cons_zero, List.getElem_cons_succ, Act.put, List.setIfInBounds_toArray, List.set_cons_zero, List.set_cons_succ])
              refine wpAnyH_take (i := 16) (v := ?_) rfl (by kernel_rfl) (by kernel_rfl) (by kernel_rfl) (fun _ _ _ h => h) (Or.inl ⟨by rfl, ?_⟩) (by assumption) ?_
              rotate_left
              · (intro w hSw; (try dsimp only at hSw); (try simp only [List.getElem_toArray, List.getElem_cons_zero, List.getElem_cons_succ]); go_simp; (try with_reducible rfl))
              (try simp only [List.getElem_toArray, List.getElem_cons_zero, List.getElem_cons_succ, Act.put, List.setIfInBounds_toArray, List.set_cons_zero, List.set_cons_succ])
              refine wpAnyH_take (i := 17) (v := ?_) rfl (by kernel_rfl) (by kernel_rfl) (by kernel_rfl) (fun _ _ _ h => h) (Or.inl ⟨by rfl, ?_⟩) (by assumption) ?_
              rotate_left
              · (intro w hSw; (try dsimp only at hSw); (try simp only [List.getElem_toArray, List.getElem_cons_zero, List.getElem_cons_succ]); go_simp; (try with_reducible rfl))
              (try simp only [List.getElem_toArray, List.getElem_cons_zero, List.getElem_cons_succ, Act.put, List.setIfInBounds_toArray, List.set_cons_zero, List.set_cons_succ])
              refine wpAnyH_take (i := 18) (v := ?_) rfl (by kernel_rfl) (by kernel_rfl) (by kernel_rfl) (fun _ _ _ h => h) (Or.inl ⟨by rfl, ?_⟩) (by assumption) ?_
              rotate_left
              · (intro w hSw; (try dsimp only at hSw); (try simp only [List.getElem_toArray, List.getElem_cons_zero, List.getElem_cons_succ]); go_simp; (try with_reducible rfl))
              (try simp only [List.getElem_toArray, List.getElem_cons_zero, List.getElem_cons_succ, Act.put, List.setIfInBounds_toArray, List.set_cons_zero, List.set_cons_succ])
              refine wpAnyH_take (i := 19) (v := ?_) rfl (by kernel_rfl) (by kernel_rfl) (by kernel_rfl) (fun _ _ _ h => h) (Or.inl ⟨by rfl, ?_⟩) (by assumption) ?_
              rotate_left
              · (intro w hSw; (try dsimp only at hSw); (try simp only [List.getElem_toArray, List.getElem_cons_zero, List.getElem_cons_succ]); go_simp; (try with_reducible rfl))
              (try simp only [List.getElem_toArray, List.getElem_cons_zero, List.getElem_cons_succ, Act.put, List.setIfInBounds_toArray, List.set_cons_zero, List.set_cons_succ])
              refine wpAnyH_take (i := 20) (v := ?_) rfl (by kernel_rfl) (by kernel_rfl) (by kernel_rfl) (fun _ _ _ h => h) (Or.inl ⟨by rfl, ?_⟩) (by assumption) ?_
              rotate_left
              · (intro w hSw; (try dsimp only at hSw); (try simp only [List.getElem_toArray, List.getElem_cons_zero, List.getElem_cons_succ]); go_simp; (try with_reducible rfl))
              (try simp only [List.getElem_toArray, List.getElem_cons_zero, List.getElem_cons_succ, Act.put, List.setIfInBounds_toArray, List.set_cons_zero, List.set_cons_succ])
              refine wpAnyH_take (i := 22) (v := ?_) rfl (by kernel_rfl) (by kernel_rfl) (by kernel_rfl) (fun _ _ _ h => h) (Or.inl ⟨by rfl, ?_⟩) (by assumption) ?_
              rotate_left
              · (intro w hSw; (try dsimp only at hSw); (try simp only [List.getElem_toArray, List.getElem_cons_zero, List.getElem_cons_succ]); go_simp; (try with_reducible rfl))
              (try simp only [List.getElem_toArray, List.getElem_cons_zero, List.getElem_cons_succ, Act.put, List.setIfInBounds_toArray, List.set_cons_zero, List.set_cons_succ])
              refine wpAnyH_take (i := 23) (v := ?_) rfl (by kernel_rfl) (by kernel_rfl) (by kernel_rfl) (fun _ _ _ h => h) (Or.inl ⟨by rfl, ?_⟩) (by assumption) ?_
              rotate_left
              · (intro w hSw; (try dsimp only at hSw); (try simp only [List.getElem_toArray, List.getElem_cons_zero, List.getElem_cons_succ]); go_simp; (try with_reducible rfl))
              (try simp only [List.getElem_toArray, List.getElem_cons_zero, List.getElem_cons_succ, Act.put, List.setIfInBounds_toArray, List.set_cons_zero, List.set_cons_succ])
              refine wpAnyH_take (i := 24) (v := ?_) rfl (by kernel_rfl) (by kernel_rfl) (by kernel_rfl) (fun _ _ _ h => h) (Or.inl ⟨by rfl, ?_⟩) (by assumption) ?_
              rotate_left
              · (intro w hSw; (try dsimp only at hSw); (try simp only [List.getElem_toArray, List.getElem_cons_zero, List.getElem_cons_succ]); go_simp; (try with_reducible rfl))
              (try simp only [List.getElem_toArray, List.getElem_cons_zero, List.getElem_cons_succ, Act.put, List.setIfInBounds_toArray, List.set_cons_zero, List.set_cons_succ])
              refine wpAnyH_take (i := 25) (v := ?_) rfl (by kernel_rfl) (by kernel_rfl) (by kernel_rfl) (fun _ _ _ h => h) (Or.inl ⟨by rfl, ?_⟩) (by assumption) ?_
              rotate_left
              · (intro w hSw; (try dsimp only at hSw); (try simp only [List.getElem_toArray, List.getElem_cons_zero, List.getElem_cons_succ]); go_simp; (try with_reducible rfl))
              (try simp only [List.getElem_toArray, List.getElem_cons_zero, List.getElem_cons_succ, Act.put, List.setIfInBounds_toArray, List.set_cons_zero, List.set_cons_succ])
              refine wpAnyH_take (i := 26) (v := ?_) rfl (by kernel_rfl) (by kernel_rfl) (by kernel_rfl) (fun _ _ _ h => h) (Or.inl ⟨by rfl, ?_⟩) (by assumption) ?_
              rotate_left
              · (intro w hSw; (try dsimp only at hSw); (try simp only [List.getElem_toArray, List.getElem_cons_zero, List.getElem_cons_succ]); go_simp; (try with_reducible rfl))
              (try simp only [List.getElem_toArray, List.getElem_cons_zero, List.getElem_cons_succ, Act.put, List.setIfInBounds_toArray, List.set_cons_zero, List.set_cons_succ])
              refine wpAnyH_take (i := 27) (v := ?_) rfl (by kernel_rfl) (by kernel_rfl) (by kernel_rfl) (fun _ _ _ h => h) (Or.inl ⟨by rfl, ?_⟩) (by assumption) ?_
              rotate_left
              · (intro w hSw; (try dsimp only at hSw); (try simp only [List.getElem_toArray, List.getElem_cons_zero, List.getElem_cons_succ]); go_simp; (try with_reducible rfl))
              (try simp only [List.getElem_toArray, List.getElem_cons_zero, List.getElem_cons_succ, Act.put, List.setIfInBounds_toArray, List.set_cons_zero, List.set_cons_succ])
              refine wpAnyH_ready (rs := [21, 28]) (by kernel_rfl) (by simp) ?_
              refine AllReadyH.cons rfl (fun K hK => ?_) ?_
              · go_simp
                refine hK.out _ _ ?_ (fun hNew => ?_)
                · obtain ⟨q0, q1, q2, q3, q4, q5⟩ := hHeld
                  exact ⟨cell_al q0 (lt_of_cell q0) _, cell_al q1 (lt_of_cell q1) _, cell_al q2 (lt_of_cell q2) _, cell_al q3 (lt_of_cell q3) _, cell_al q4 (lt_of_cell q4) _, cell_al q5 (lt_of_cell q5) _⟩
                clear hK K hHeld
                have hHeld := hNew
                clear hNew
                (try simp only [Act.put, List.setIfInBounds_toArray, List.set_cons_zero, List.set_cons_succ])
                refine wpAnyH_ready (rs := [28]) (by kernel_rfl) (by simp) ?_
                refine AllReadyH.cons rfl (fun K hK => ?_) AllReadyH.nil
                go_simp
                refine hK.out _ _ ?_ (fun hNew => ?_)
                · obtain ⟨q0, q1, q2, q3, q4, q5⟩ := hHeld
                  exact ⟨cell_al q0 (lt_of_cell q0) _, cell_al q1 (lt_of_cell q1) _, cell_al q2 (lt_of_cell q2) _, cell_al q3 (lt_of_cell q3) _, cell_al q4 (lt_of_cell q4) _, cell_al q5 (lt_of_cell q5) _⟩
                clear hK K hHeld
                have hHeld := hNew
                clear hNew
                (try simp only [Act.put, List.setIfInBounds_toArray, List.set_cons_zero, List.set_cons_succ])
                refine wpAnyH_ready (rs := [29]) (by kernel_rfl) (by simp) ?_
                refine AllReadyH.cons rfl (fun K hK => ?_) AllReadyH.nil
                go_simp
                refine (refBefore_any [(y.gat : Int), y.num, y.plus] [(x.gat : Int), x.num, x.plus] _ _ _ (by exact (ints3 (W := w4) (n := w4.heap.size) y.gat y.num y.plus 3 rfl).later (by exact (by repeat (first | (refine Below.setCell ?_ ?_ _; rotate_left; · (first | omega | (simp; done) | (simp; omega) | fail)) | (refine Below.alloc ?_ ?_ _; rotate_left; · (first | omega | (simp; done) | (simp; omega) | fail)) | refine Below.drew ?_ | exact Below.refl _ _ | fail)))) (by exact (ints3 (W := w4.alloc (.cells #[.int .i64 y.gat, .int .i64 y.num, .int .i64 y.plus] 3)) (n := w4.heap.size + 1) x.gat x.num x.plus 3 (by simp)).later (by exact (by repeat (first | (refine Below.setCell ?_ ?_ _; rotate_left; · (first | omega | (simp; done) | (simp; omega) | fail)) | (refine Below.alloc ?_ ?_ _; rotate_left; · (first | omega | (simp; done) | (simp; omega) | fail)) | refine Below.drew ?_ | exact Below.refl _ _ | fail)))) (by simp) (by simp)).mono ?_
                rintro e w9 ⟨rfl, hb9⟩
                rw [HBL.out]
                have hb8 := Below.trans (show Below w4.heap.size w4 _ by exact (by repeat (first | (refine Below.setCell ?_ ?_ _; rotate_left; · (first | omega | (simp; done) | (simp; omega) | fail)) | (refine Below.alloc ?_ ?_ _; rotate_left; · (first | omega | (simp; done) | (simp; omega) | fail)) | refine Below.drew ?_ | exact Below.refl _ _ | fail))) (hb9.mono (by simp; omega))
                have s0 := (hb8.cell (p := ⟨gl, t * 4, none⟩) hgl).trans m0
                have s1 := (hb8.cell (p := ⟨gl, t * 4 + 1, none⟩) hgl).trans m1
                have s2 := (hb8.cell (p := ⟨gl, t * 4 + 2, none⟩) hgl).trans m2
                have s3 := (hb8.cell (p := ⟨X, 0, none⟩) hsz4).trans n0
                have s4 := (hb8.cell (p := ⟨X, 1, none⟩) hsz4).trans n1
                have s5 := (hb8.cell (p := ⟨X, 2, none⟩) hsz4).trans n2
                go_wp2_with fail
                refine hK.out _ _ ?_ (fun hNew => ?_)
                · exact ⟨s0, s1, s2, s3, s4, s5⟩
                clear hK K hHeld
                have hHeld := hNew
                clear hNew
                (try simp only [Act.put, List.setIfInBounds_toArray, List.set_cons_zero, List.set_cons_succ])
                refine wpAnyH_take (i := 30) (v := ?_) rfl (by kernel_rfl) (by kernel_rfl) (by kernel_rfl) (fun _ _ _ h => h) (Or.inl ⟨by rfl, ?_⟩) (by assumption) ?_
                rotate_left
                · (intro w hSw; (try dsimp only at hSw); (try simp only [List.getElem_toArray, List.getElem_cons_zero, List.getElem_cons_succ]); go_simp; (try with_reducible rfl))
                (try simp only [List.getElem_toArray, List.getElem_cons_zero, List.getElem_cons_succ, Act.put, List.setIfInBounds_toArray, List.set_cons_zero, List.set_cons_succ])
                refine wpAnyH_take (i := 31) (v := ?_) rfl (by kernel_rfl) (by kernel_rfl) (by kernel_rfl) (fun _ _ _ h => h) (Or.inl ⟨by rfl, ?_⟩) (by assumption) ?_
                rotate_left
                · (intro w hSw; (try dsimp only at hSw); (try simp only [List.getElem_toArray, List.getElem_cons_zero, List.getElem_cons_succ]); go_simp; (try with_reducible rfl))
                (try simp only [List.getElem_toArray, List.getElem_cons_zero, List.getElem_cons_succ, Act.put, List.setIfInBounds_toArray, List.set_cons_zero, List.set_cons_succ])
                refine wpAnyH_done (by kernel_rfl) ?_ _
                have HK := Lib.hid (HK.out.later hb8)
                have HL := Lib.hid (HL.out.later hb8)
                clear s0 s1 s2 s3 s4 s5 m0 m1 m2 n0 n1 n2 hb8 hb9 hHeld
                go_wp2_with fail
                go_roundw
                case rel => exact ⟨t + 1 + 1, by omega, by go_num, HK, HL⟩
                case measure => simp [intOf]; omega
              refine AllReadyH.cons rfl (fun K hK => ?_) AllReadyH.nil
              · go_simp
                refine hK.out _ _ ?_ (fun hNew => ?_)
                · obtain ⟨q0, q1, q2, q3, q4, q5⟩ := hHeld
                  exact ⟨cell_al q0 (lt_of_cell q0) _, cell_al q1 (lt_of_cell q1) _, cell_al q2 (lt_of_cell q2) _, cell_al q3 (lt_of_cell q3) _, cell_al q4 (lt_of_cell q4) _, cell_al q5 (lt_of_cell q5) _⟩
                clear hK K hHeld
                have hHeld := hNew
                clear hNew
                (try simp only [Act.put, List.setIfInBounds_toArray, List.set_cons_zero, List.set_cons_succ])
                refine wpAnyH_ready (rs := [21]) (by kernel_rfl) (by simp) ?_
                refine AllReadyH.cons rfl (fun K hK => ?_) AllReadyH.nil
                go_simp
                refine hK.out _ _ ?_ (fun hNew => ?_)
                · obtain ⟨q0, q1, q2, q3, q4, q5⟩ := hHeld
                  exact ⟨cell_al q0 (lt_of_cell q0) _, cell_al q1 (lt_of_cell q1) _, cell_al q2 (lt_of_cell q2) _, cell_al q3 (lt_of_cell q3) _, cell_al q4 (lt_of_cell q4) _, cell_al q5 (lt_of_cell q5) _⟩
                clear hK K hHeld
                have hHeld := hNew
                clear hNew
                (try simp only [Act.put, List.setIfInBounds_toArray, List.set_cons_zero, List.set_cons_succ])
                refine wpAnyH_ready (rs := [29]) (by kernel_rfl) (by simp) ?_
                refine AllReadyH.cons rfl (fun K hK => ?_) AllReadyH.nil
                go_simp
                refine (refBefore_any [(y.gat : Int), y.num, y.plus] [(x.gat : Int), x.num, x.plus] _ _ _ (by exact (ints3 (W := w4.alloc (.cells #[.int .i64 x.gat, .int .i64 x.num, .int .i64 x.plus] 3)) (n := w4.heap.size + 1) y.gat y.num y.plus 3 (by simp)).later (by exact (by repeat (first | (refine Below.setCell ?_ ?_ _; rotate_left; · (first | omega | (simp; done) | (simp; omega) | fail)) | (refine Below.alloc ?_ ?_ _; rotate_left; · (first | omega | (simp; done) | (simp; omega) | fail)) | refine Below.drew ?_ | exact Below.refl _ _ | fail)))) (by exact (ints3 (W := w4) (n := w4.heap.size) x.gat x.num x.plus 3 rfl).later (by exact (by repeat (first | (refine Below.setCell ?_ ?_ _; rotate_left; · (first | omega | (simp; done) | (simp; omega) | fail)) | (refine Below.alloc ?_ ?_ _; rotate_left; · (first | omega | (simp; done) | (simp; omega) | fail)) | refine Below.drew ?_ | exact Below.refl _ _ | fail)))) (by simp) (by simp)).mono ?_
                rintro e w9 ⟨rfl, hb9⟩
                rw [HBL.out]
                have hb8 := Below.trans (show Below w4.heap.size w4 _ by exact (by repeat (first | (refine Below.setCell ?_ ?_ _; rotate_left; · (first | omega | (simp; done) | (simp; omega) | fail)) | (refine Below.alloc ?_ ?_ _; rotate_left; · (first | omega | (simp; done) | (simp; omega) | fail)) | refine Below.drew ?_ | exact Below.refl _ _ | fail))) (hb9.mono (by simp; omega))
                have s0 := (hb8.cell (p := ⟨gl, t * 4, none⟩) hgl).trans m0
                have s1 := (hb8.cell (p := ⟨gl, t * 4 + 1, none⟩) hgl).trans m1
                have s2 := (hb8.cell (p := ⟨gl, t * 4 + 2, none⟩) hgl).trans m2
                have s3 := (hb8.cell (p := ⟨X, 0, none⟩) hsz4).trans n0
                have s4 := (hb8.cell (p := ⟨X, 1, none⟩) hsz4).trans n1
                have s5 := (hb8.cell (p := ⟨X, 2, none⟩) hsz4).trans n2
                go_wp2_with fail
                refine hK.out _ _ ?_ (fun hNew => ?_)
                · exact ⟨s0, s1, s2, s3, s4, s5⟩
                clear hK K hHeld
                have hHeld := hNew
                clear hNew
                (try simp only [Act.put, List.setIfInBounds_toArray, List.set_cons_zero, List.set_cons_succ])
                refine wpAnyH_take (i := 30) (v := ?_) rfl (by kernel_rfl) (by kernel_rfl) (by kernel_rfl) (fun _ _ _ h => h) (Or.inl ⟨by rfl, ?_⟩) (by assumption) ?_
                rotate_left
                · (intro w hSw; (try dsimp only at hSw); (try simp only [List.getElem_toArray, List.getElem_cons_zero, List.getElem_cons_succ]); go_simp; (try with_reducible rfl))
                (try simp only [List.getElem_toArray, List.getElem_cons_zero, List.getElem_cons_succ, Act.put, List.setIfInBounds_toArray, List.set_cons_zero, List.set_cons_succ])
                refine wpAnyH_take (i := 31) (v := ?_) rfl (by kernel_rfl) (by kernel_rfl) (by kernel_rfl) (fun _ _ _ h => h) (Or.inl ⟨by rfl, ?_⟩) (by assumption) ?_
                rotate_left
                · (intro w hSw; (try dsimp only at hSw); (try simp only [List.getElem_toArray, List.getElem_cons_zero, List.getElem_cons_succ]); go_simp; (try with_reducible rfl))
                (try simp only [List.getElem_toArray, List.getElem_cons_zero, List.getElem_cons_succ, Act.put, List.setIfInBounds_toArray, List.set_cons_zero, List.set_cons_succ])
                refine wpAnyH_done (by kernel_rfl) ?_ _
                have HK := Lib.hid (HK.out.later hb8)
                have HL := Lib.hid (HL.out.later hb8)
                clear s0 s1 s2 s3 s4 s5 m0 m1 m2 n0 n1 n2 hb8 hb9 hHeld
                go_wp2_with fail
                go_roundw
                case rel => exact ⟨t + 1 + 1, by omega, by go_num, HK, HL⟩
                case measure => simp [intOf]; omega
        · go_wp2_with fail
          refine (Awake_any _).mono ?_
          rintro e w9 ⟨rfl, hb9⟩
          have hw9 := HK.out.below.trans (hb9.mono HK.out.below.size)
          clear hb9
          go_wp2_with fail
          go_ret
          exact ⟨rfl, hw9⟩
theorem QuireOrder_any (b : Bk) (v : Value) (w : World) (hb : BookAt w.heap.size w v b) :
    Calls Tryz.prog 9 #[v] w fun e w' => e = .returned (.bool true) ∧ Below w.heap.size w w' := by
  by_cases he : errF b = 0
  · exact QuireOrder_good b v w hb he
  · exact QuireOrder_bad b v w hb he
end Go.Proofs.YtajjhmmmifenaaaGreatDoor
