/- The parts Or, Qq, Qr, Rh of the proof, joined. It holds without conditions of its own. -/
import Derived.OrdersIn
import Derived.TacticsIn
import Derived.Test.YtlfglbnbenaghaaGreatDoorTX6
/- A region that draws its order: each of its orders is walked as a list. For any program, inside any fence, in a round or not. -/
namespace Go.Proofs.YtlfglbnbenaghaaGreatDoor
set_option linter.unusedSimpArgs false
set_option linter.unusedVariables false
open Go

/-- The orders in which the operations of a region may come up. -/
def ordersOf (md : Region.Mode) (ops : Array Oper) : Nat → Array Bool → List (List Nat)
  | 0, _ => [[]]
  | fuel + 1, listed => if Region.ready md ops listed = [] then [[]] else (Region.ready md ops listed).flatMap fun i => (ordersOf md ops fuel (listed.setIfInBounds i true)).map (i :: ·)

theorem go_mem (md : Region.Mode) (ops : Array Oper) : ∀ (fuel t : Nat) (listed : Array Bool), Region.linearise.go md ops fuel t listed [] ∈ ordersOf md ops fuel listed
  | 0, t, listed => by simp [Region.linearise.go, ordersOf]
  | fuel + 1, t, listed => by
    simp only [Region.linearise.go, ordersOf]
    change (match (Region.ready md ops listed)[t % (Region.ready md ops listed).length]? with
      | some i => Region.linearise.go md ops fuel (t / (Region.ready md ops listed).length) (listed.setIfInBounds i true) [i]
      | none => [].reverse) ∈ _
    cases hi : (Region.ready md ops listed)[t % (Region.ready md ops listed).length]? with
    | none =>
      have hnil : Region.ready md ops listed = [] := by
        cases hr : Region.ready md ops listed with
        | nil => rfl
        | cons x xs =>
          rw [hr] at hi
          have hlt : t % (x :: xs).length < (x :: xs).length := Nat.mod_lt _ (by simp)
          simp at hi
          simp at hlt
          omega
      simp [hnil]
    | some i =>
      have hm := List.mem_of_getElem? hi
      have hne : Region.ready md ops listed ≠ [] := fun e => by rw [e] at hm; cases hm
      rw [if_neg hne]
      simp only []
      rw [linearise_go_acc, List.reverse_singleton, List.singleton_append]
      exact List.mem_flatMap.2 ⟨i, hm, List.mem_map.2 ⟨_, go_mem md ops fuel _ _, rfl⟩⟩

theorem wpOpsIn_list {F : Fence} {n : Nat} {P : Program} {ops : Array Oper} {Q : Exit → Act → World → Prop} : ∀ (L : List Nat) (a : Act) (w : World), wpListIn F n P ops Q (L.filterMap (ops[·]?)) a w → wpOpsIn F n P ops Q L a w
  | [], a, w, h => h
  | i :: L, a, w, h => by
    unfold wpOpsIn
    cases ho : ops[i]? with
    | none =>
      simp only [List.filterMap_cons, ho] at h
      exact wpOpsIn_list L a w h
    | some o =>
      simp only [List.filterMap_cons, ho] at h
      simp only []
      unfold wpListIn at h
      split
      · rename_i hw
        rw [if_pos hw] at h
        exact Oper.wpIn_mono (fun a w => wpOpsIn_list L a w) h
      · rename_i hw
        rw [if_neg hw] at h
        exact ⟨h.1, wpOpsIn_list L _ w h.2⟩

theorem wpIn_region_orders {F : Fence} {n : Nat} {P : Program} {id : Nat} {Q : Exit → Act → World → Prop} {a : Act} {w : World} {l : List Oper} (hm : P.follows .mixedOrders = true) (Ls : List (List Nat))
    (hL : ordersOf .any l.toArray l.length (Array.replicate l.length false) = Ls) (h : ∀ L ∈ Ls, wpListIn F n P l.toArray Q (L.filterMap (l.toArray[·]?)) a w.drew) : (Code.region id l.toArray true).wpIn F n P Q a w := by
  refine wpIn_region_draw fun t => wpOpsIn_list _ _ _ (h _ ?_)
  rw [← hL]
  simp only [Region.schedule, hm, Bool.true_or, if_true]
  have := go_mem .any l.toArray l.length t (Array.replicate l.length false)
  simpa [Region.linearise] using this

structure Cut (p : Prop) : Prop where
  out : p
/-- A piece of code by what it leaves: then what stands behind it is walked once. -/
theorem wpIn_cut {F : Fence} {n : Nat} {P : Program} {c : Code} {Q : Exit → Act → World → Prop} {a : Act} {w : World} (R : Act → Act → World → Prop)
    (h : c.wpIn F n P (fun e a' w' => e = .normal ∧ Cut (R a a' w')) a w) (hq : ∀ a' w', R a a' w' → Q .normal a' w') : c.wpIn F n P Q a w :=
  wpIn_mono h fun e a' w' ⟨he, hr⟩ => by subst he; exact hq a' w' hr.out
theorem wp_cut {P : Program} {c : Code} {Q : Exit → Act → World → Prop} {a : Act} {w : World} (R : Act → Act → World → Prop)
    (h : c.wpIn Fence.wide 10 P (fun e a' w' => e = .normal ∧ Cut (R a a' w')) a w) (hq : ∀ a' w', R a a' w' → Q .normal a' w') : c.wp P Q a w :=
  wpIn_wide.1 (wpIn_cut R h hq)

end Go.Proofs.YtlfglbnbenaghaaGreatDoor

/- The names of all leaves. -/
namespace Go.Proofs.YtlfglbnbenaghaaGreatDoor
set_option linter.unusedSimpArgs false
set_option linter.unusedVariables false
open Go Go.RowKit Go.Sort Go.BigFrame Go.Shelf
attribute [local go_sem] Oper.semAt_some putAll

theorem elemNm : ∃ i, Tryz.prog.info? 91 = some i ∧ i.zero = some (.agg #[.int .i64 0, .int .i64 0, .int .i64 0, .int .i64 0]) ∧ i.size = 4 ∧ i.bytes = 32 := elemOf (by kernel_rfl)
theorem undNms : Tryz.prog.underlying 99 = some (.slice 91) := by kernel_rfl
/-- The cells of the names of leaves in a row. -/
def nmCells (b : Bk) (x : Lf) : List Value := match b.gs[x.gat]? with
  | some g => [.int .i64 g.round, .int .i64 g.letter, .int .i64 x.num, .int .i64 x.plus]
  | none => []
def nmsCells (b : Bk) (xs : List Lf) : List Value := xs.flatMap (nmCells b)

set_option maxRecDepth 100000 in
set_option maxHeartbeats 4000000 in
theorem names_any (b : Bk) (v : Value) (w : World) (hb : BookAt w.heap.size w v b) (he : errF b = 0) :
    Calls Tryz.prog 48 #[v] w fun e w' => (∃ v', e = .returned v' ∧ w'.ownsRow w.heap.size 91 4 v' (lvs b).length (nmsCells b (lvs b))) ∧ Below w.heap.size w w' := by
  have hb' := hb
  obtain ⟨sv, rfl, hgs⟩ := hb
  have hgs' := hgs
  obtain ⟨a, cap, rfl, -⟩ := hgs'
  have hok := errF_zero he
  have HG := Lib.hid hgs
  have HB := Lib.hid hb'
  clear hgs hb'
  refine (callsIn_wide (n := 10)).1 ?_
  refine callsIn_of_wp_marks Tryz.func48 rfl trivial ?_ rfl
  simp only [Tryz.ntmps48, List.size_toArray, List.length_cons, List.length_nil, Nat.reduceAdd, Nat.reduceSub, Array.replicate_succ, Array.replicate_zero, List.push_toArray, List.append_toArray, List.nil_append, List.cons_append]
  gi_wp2_with fail
  refine ⟨trivial, ?_⟩
  refine (callsIn_wide.2 (volLeaves_any b.signed _ b.gs.length cap _)).mono ?_
  rintro e w2 ⟨rfl, hw2⟩
  gi_wp2_with fail
  obtain ⟨V, hV⟩ : ∃ V, V = w.heap.size := ⟨_, rfl⟩
  have hz2 : w2.heap.size = V + 3 := by rw [← hw2, hV]; simp
  have hh : Held w [(V, .cells #[.int .i64 b.signed, .slice a b.gs.length cap] 57)] w2 := ⟨by rw [← hw2]; exact (by repeat (first | (refine Below.setCell ?_ ?_ _; rotate_left; · (first | omega | (simp; done) | (simp; omega) | fail)) | (refine Below.alloc ?_ ?_ _; rotate_left; · (first | omega | (simp; done) | (simp; omega) | fail)) | refine Below.drew ?_ | exact Below.refl _ _ | fail)), fun p hp => by
    (simp only [List.mem_cons, List.not_mem_nil, or_false] at hp)
    subst hp
    rw [← hw2, hV]; exact (by repeat (first | exact heap_alloc_at _ _ _ (by (first | omega | (simp; done) | (simp; omega) | fail)) | (refine (heap_alloc_past _ _ _ ?_).trans ?_; · (first | omega | (simp; done) | (simp; omega) | fail)) | fail))⟩
  have hL : w2.heap[V + 1]? = some (.cells #[.slice none 0 0] 99) := by rw [← hw2, hV]; exact (by repeat (first | exact heap_alloc_at _ _ _ (by (first | omega | (simp; done) | (simp; omega) | fail)) | (refine (heap_alloc_past _ _ _ ?_).trans ?_; · (first | omega | (simp; done) | (simp; omega) | fail)) | fail))
  have hvb : w2.heap[V + 2]? = some (.cells #[.int .i64 b.signed, .slice a b.gs.length cap] 57) := by rw [← hw2, hV]; exact (by repeat (first | exact heap_alloc_at _ _ _ (by (first | omega | (simp; done) | (simp; omega) | fail)) | (refine (heap_alloc_past _ _ _ ?_).trans ?_; · (first | omega | (simp; done) | (simp; omega) | fail)) | fail))
  have hVl : w.heap.size ≤ V := by omega
  have hz2a : V + 3 ≤ w2.heap.size := by omega
  have hz2b : w2.heap.size ≤ V + 3 := by omega
  simp only [World.size_alloc, ← hV]
  clear hw2 hV hz2
  have HV := Lib.hid hvb
  have HL := Lib.hid hL
  clear hvb hL
  refine rf_list (gf := 77) (lb := #[.pointer (some ⟨V + 2, 0, none⟩)]) rfl (enters_of Tryz.func77 (by kernel_rfl) rfl)
    (leaves_it b.gs b.signed a cap w2 (V + 2) w.heap.size (by omega) (HG.out.below hh.below (Nat.le_refl _)) hok.gs (by have := hok.len; omega) HV.out) (fun _ => rfl) (fun j hj => by rcases hj with h | h <;> omega)
    w [(V, .cells #[.int .i64 b.signed, .slice a b.gs.length cap] 57)] (V + 1) 99 91 4 (fun pre => pre.length) (fun pre => nmsCells b (pre.map (·.1))) (fun y => .cells #[.int .i64 y.1.gat, .int .i64 y.1.num, .int .i64 y.1.plus, .int .i64 y.1.kind] 89)
    (fun y bx => [(8, .int .i64 y.2), (9, lfV y.1), (5, .pointer (some ⟨bx, 0, none⟩))]) (fun p hp => by (simp only [List.mem_cons, List.not_mem_nil, or_false] at hp); subst hp; (simp only; omega)) hh HL.out rfl rfl ?assign ?body ?done
  case assign =>
    intro l y W K' hK'
    gi_wp2_with fail
    exact hK'
  case body =>
    rintro l pre y rest bx W u hsp h1 h2 h3 hbx hlb hnb
    obtain ⟨-, hx⟩ := zip_at hsp
    have hlb' := blk_lt hbx
    have hv := h1.get 0 rfl
    have v0 := blk_cell hv 0; have v1 := blk_cell hv 1
    have d0 := blk_cell hbx 0; have d1 := blk_cell hbx 1; have d2 := blk_cell hbx 2; have d3 := blk_cell hbx 3
    have n0 := blk_cell h2 0
    obtain ⟨g, hg, -⟩ := lvs_mem (b := b) (List.mem_of_getElem? hx)
    have hC := name_any b (.agg #[.int .i64 b.signed, .slice a b.gs.length cap]) y.1 g W.drew (HB.out.below h1.below.drew (Nat.le_refl _) |>.mono h1.below.size) hg
    have HC := Lib.hid hC
    have HGG : Hid (nmCells b y.1 = [.int .i64 g.round, .int .i64 g.letter, .int .i64 y.1.num, .int .i64 y.1.plus]) := by show _ = _; simp [nmCells, hg]
    clear hC hv
    obtain ⟨ei, hi1, hi2, hi3, hi4⟩ := elemNm
    have hlen : pre.length < 2000 := by
      have h5 := lvsFrom_len (i := 0) hok.gs
      have h6 := congrArg List.length hsp
      have := hok.len
      simp only [List.length_append, List.length_cons, List.length_zipIdx] at h6
      omega
    have H2 := Lib.hid h2
    have H3 := Lib.hid h3
    clear h2 h3 hg hbx
    unfold putAll
    simp only [List.foldl_cons, List.foldl_nil]
    refine wpIn_block ?_
    refine wpIn_region_orders (by kernel_rfl) [[0, 1, 2, 3, 4, 5, 6], [0, 2, 1, 3, 4, 5, 6], [1, 0, 2, 3, 4, 5, 6], [1, 2, 0, 3, 4, 5, 6], [1, 2, 3, 0, 4, 5, 6], [1, 2, 3, 4, 0, 5, 6], [2, 0, 1, 3, 4, 5, 6], [2, 1, 0, 3, 4, 5, 6], [2, 1, 3, 0, 4, 5, 6], [2, 1, 3, 4, 0, 5, 6]] (by kernel_rfl) ?_
    obtain ⟨Wd, hWd⟩ : ∃ Wd, Wd = W.drew := ⟨_, rfl⟩
    have HO : Hid (OnlyIn (fun _ => False) W Wd) := by rw [hWd]; exact OnlyIn.drew _ _
    have H2d : Hid (Wd.heap[V + 1]? = some (.cells #[u] 99)) := by rw [hWd]; exact H2.out
    have H3d : Hid (Wd.ownsRow w2.heap.size 91 4 u pre.length (nmsCells b (pre.map (·.1)))) := by rw [hWd]; exact H3.out
    have hzd : Wd.heap.size = W.heap.size := by rw [hWd]; rfl
    have hzd1 : Wd.heap.size ≤ W.heap.size := by omega
    have hzd2 : W.heap.size ≤ Wd.heap.size := by omega
    have n0 : Wd.cell? ⟨V + 1, 0, none⟩ = some u := by rw [hWd]; exact n0
    have v0 : Wd.cell? ⟨V, 0, none⟩ = some (.int .i64 b.signed) := by rw [hWd]; exact v0
    have v1 : Wd.cell? ⟨V, 1, none⟩ = some (.slice a b.gs.length cap) := by rw [hWd]; exact v1
    have d0 : Wd.cell? ⟨bx, 0, none⟩ = some (.int .i64 y.1.gat) := by rw [hWd]; exact d0
    have d1 : Wd.cell? ⟨bx, 1, none⟩ = some (.int .i64 y.1.num) := by rw [hWd]; exact d1
    have d2 : Wd.cell? ⟨bx, 2, none⟩ = some (.int .i64 y.1.plus) := by rw [hWd]; exact d2
    have d3 : Wd.cell? ⟨bx, 3, none⟩ = some (.int .i64 y.1.kind) := by rw [hWd]; exact d3
    rw [← hWd] at HC ⊢
    clear hWd hzd
    have key : ∀ (w1 : World) (g' capg : Nat) (w' : World), Below Wd.heap.size Wd w1 → w'.ownsRow w2.heap.size 91 4 (.slice (some ⟨g', 0, none⟩) (pre.length + 1) capg) (pre.length + 1) (nmsCells b (pre.map (·.1)) ++ [.int .i64 g.round, .int .i64 g.letter, .int .i64 y.1.num, .int .i64 y.1.plus]) →
        (w1.alloc (.cells #[.int .i64 g.round, .int .i64 g.letter, .int .i64 y.1.num, .int .i64 y.1.plus] 91)).grownBy w' u.ownBlock → (u.ownBlock = some g' ∨ (w1.alloc (.cells #[.int .i64 g.round, .int .i64 g.letter, .int .i64 y.1.num, .int .i64 y.1.plus] 91)).heap.size ≤ g') →
        w'.heap[V + 1]? = some (.cells #[u] 99) ∧
        Turn w2.heap.size (fun k => k = V + 2 ∨ k < w.heap.size) (OwL (V + 1) 99) W (w'.setCell ⟨V + 1, 0, none⟩ (.slice (some ⟨g', 0, none⟩) (pre.length + 1) capg)) ∧
        Held w [(V, .cells #[.int .i64 b.signed, .slice a b.gs.length cap] 57)] (w'.setCell ⟨V + 1, 0, none⟩ (.slice (some ⟨g', 0, none⟩) (pre.length + 1) capg)) ∧
        ListAt (w'.setCell ⟨V + 1, 0, none⟩ (.slice (some ⟨g', 0, none⟩) (pre.length + 1) capg)) w2.heap.size (V + 1) 99 91 4 (pre.length + 1) (nmsCells b (pre.map (·.1) ++ [y.1])) := by
      intro w1 g' capg w' hb1 hown hgrow hg'
      obtain ⟨s1, s2, s3, s4⟩ := list_step (hs := w2.heap.size) (Pr := fun k => k = V + 2 ∨ k < w.heap.size) H2.out H3.out (by decide) ((HO.out.trans (OnlyIn.of_below hb1)).trans (OnlyIn.alloc _ _ _)) hown hgrow hg' (by omega) (Nat.le_refl _) (fun j hj => by rcases hj with hj | hj <;> refine ⟨by omega, by omega, by omega⟩)
      refine ⟨s1, s3, h1.only s4 (hs := V + 1) (fun j hj => by rcases hj with hj | hj <;> omega) (by omega) (fun p hp => by (simp only [List.mem_cons, List.not_mem_nil, or_false] at hp); subst hp; (simp only; omega)), ?_⟩
      have hV : nmsCells b (pre.map (·.1) ++ [y.1]) = nmsCells b (pre.map (·.1)) ++ [.int .i64 g.round, .int .i64 g.letter, .int .i64 y.1.num, .int .i64 y.1.plus] := by simp [nmsCells, HGG.out]
      rw [hV]
      exact s2
    have HK := Lib.hid key
    clear key
    simp only [List.forall_mem_cons]
    refine ⟨?_, ?_, ?_, ?_, ?_, ?_, ?_, ?_, ?_, ?_, fun _ h => by cases h⟩
    all_goals
      simp only [List.filterMap_cons, List.filterMap_nil, List.getElem?_toArray, List.getElem?_cons_zero, List.getElem?_cons_succ]
      change wpListIn _ _ _ _ _ [_, _, _, _, _, _, _] _ _
      gi_wp2_with fail
      refine ⟨trivial, ?_⟩
      refine (CallsIn.inRound l (callsIn_wide.2 HC.out)).mono ?_
      rintro e w1 ⟨rfl, hb1⟩
      have H2' := Lib.hid (blk_later hb1 H2d.out)
      have H3' := Lib.hid (row_later H3d.out hb1)
      have n1 := blk_cell H2'.out 0
      have hz1 := hb1.size
      have hV1 : V + 1 < w1.heap.size := by omega
      have HB1 := Lib.hid hb1
      clear n0 v0 v1 d0 d1 d2 d3 hb1
      gi_wp2_with (gi_at_builtin; refine wpListIn_append_one _ rfl _ _ 99 rfl w2.heap.size 91 ei _ 4 32 undNms hi1 hi2 hi3 hi4 rfl (by decide) u pre.length (nmsCells b (pre.map (·.1))) rfl (H3'.out.alloc _) ⟨w1.heap.size, 0, none⟩ 1 [.int .i64 g.round, .int .i64 g.letter, .int .i64 y.1.num, .int .i64 y.1.plus] rfl rfl ?c1 ?c2 ?c3 ?c4 ?c5 ?c6)
      case c1 => exact cells_new _ _ _
      case c2 => simp [Value.oneCell']
      case c3 => simp only [maxLen]; omega
      case c4 => omega
      case c5 => simp; omega
      case c6 =>
        rintro g' capg w' hown hgrow hg'
        obtain ⟨s1, s3⟩ := HK.out w1 g' capg w' HB1.out hown hgrow (by simpa using hg')
        have HS := Lib.hid s3
        clear s3
        have cL := blk_cell s1 0
        have fL := blk_free s1 0
        gi_wp2_with fail
        exact ⟨trivial, HS.out⟩
  case done =>
    rintro D W u hD h1 h2 h3 hdef
    have n0 := blk_cell h2 0
    gi_wp2_with fail
    have h4 := h1.put (.deferred none) (D := D) (by omega) (fun p hp => by (simp only [List.mem_cons, List.not_mem_nil, or_false] at hp); subst hp; (simp only; omega))
    have h5 := ownsRow_putObj h3 (.deferred none) hdef rfl
    refine leave_ret hdef ⟨u, by simp [results, Tryz.results48, go_sem], ⟨u, rfl, ?_⟩, h4.below⟩
    simp only [List.length_zipIdx, List.zipIdx_map_fst] at h5
    exact row_mono h5 (by omega)

end Go.Proofs.YtlfglbnbenaghaaGreatDoor

/- Leaf. -/
namespace Go.Proofs.YtlfglbnbenaghaaGreatDoor
set_option linter.unusedSimpArgs false
set_option linter.unusedVariables false
open Go Go.RowKit Go.Sort Go.BigFrame Go.Shelf

set_option maxRecDepth 100000 in
set_option maxHeartbeats 1000000 in
theorem Leaf_bad (b : Bk) (v : Value) (n : Int) (w : World) (hb : BookAt w.heap.size w v b) (he : errF b ≠ 0) :
    Calls Tryz.prog 19 #[v, .int .i64 n] w fun e w' => e = .returned (.tuple #[S [], .int .i64 (errF b)]) ∧ Below w.heap.size w w' := by
  have hb' := hb
  obtain ⟨sv, rfl, hgs⟩ := hb
  have hgs' := hgs
  obtain ⟨a, cap, rfl, -⟩ := hgs'
  have hop : openV b (.agg #[.int .i64 b.signed, .slice a b.gs.length cap]) = .tuple #[.agg #[.int .i64 0, .slice none 0 0], .int .i64 (errF b)] := by simp [openV, he]
  have hne : (errF b != 0) = true := by simp [he]
  go_enter Tryz.func19, Tryz.ntmps19
  go_wp2_with fail
  refine (open_any b _ _ (hb'.below (B := w.heap.size) (by exact (by repeat (first | (refine Below.setCell ?_ ?_ _; rotate_left; · (first | omega | (simp; done) | (simp; omega) | fail)) | (refine Below.alloc ?_ ?_ _; rotate_left; · (first | omega | (simp; done) | (simp; omega) | fail)) | refine Below.drew ?_ | exact Below.refl _ _ | fail))) (Nat.le_refl _) |>.mono (by simp; try omega))).mono ?_
  rintro e w1 ⟨rfl, hb1⟩
  rw [hop]
  have hb0 : Below w.heap.size w w1 := Below.trans (by exact (by repeat (first | (refine Below.setCell ?_ ?_ _; rotate_left; · (first | omega | (simp; done) | (simp; omega) | fail)) | (refine Below.alloc ?_ ?_ _; rotate_left; · (first | omega | (simp; done) | (simp; omega) | fail)) | refine Below.drew ?_ | exact Below.refl _ _ | fail))) (hb1.mono (by simp; try omega))
  have hz := hb0.size
  go_wp2_with fail
  go_ret2
  exact ⟨rfl, (by repeat (first | (refine Below.setCell ?_ ?_ _; rotate_left; · (first | omega | (simp; done) | (simp; omega) | fail)) | (refine Below.alloc ?_ ?_ _; rotate_left; · (first | omega | (simp; done) | (simp; omega) | fail)) | refine Below.drew ?_ | exact hb0 | fail))⟩

theorem GsAt.get {B : Nat} {w : World} {a : Option Addr} {n cap : Nat} {gs : List Gth} (h : GsAt B w (.slice a n cap) gs) {i : Nat} {g : Gth} (hg : gs[i]? = some g) :
    ∃ bb off, a = some ⟨bb, off, none⟩ ∧ bb < B ∧ ∃ ca ccap, ChsAt B w (.slice ca g.chs.length ccap) g.chs ∧ w.cell? ⟨bb, off + i * 4, none⟩ = some (.int .i64 g.round) ∧ w.cell? ⟨bb, off + i * 4 + 1, none⟩ = some (.int .i64 g.letter) ∧
      w.cell? ⟨bb, off + i * 4 + 2, none⟩ = some (.int .i64 g.leaves) ∧ w.cell? ⟨bb, off + i * 4 + 3, none⟩ = some (.slice ca g.chs.length ccap) := by
  obtain ⟨a', cap', e, hc⟩ := h
  cases e
  obtain ⟨bb, off, rfl, hb, hcell⟩ := hc (fun e => by rw [e] at hg; cases hg)
  obtain ⟨cv, h1, h2⟩ := hcell i g hg
  have h1' := h1
  obtain ⟨ca, ccap, rfl, -⟩ := h1'
  exact ⟨bb, off, rfl, hb, ca, ccap, h1, h2⟩
/-- How a leaf of a book is written. -/
def lfText (b : Bk) (x : Lf) : List UInt8 := match b.gs[x.gat]? with
  | some g => nameT g.round g.letter x.num x.plus
  | none => []
def leafTR (b : Bk) : Option Lf → Value
  | some x => .tuple #[S (lfText b x), .int .i64 0]
  | none => .tuple #[S [], .int .i64 4]

theorem lf_bounds {b : Bk} (hok : BOk b) {x : Lf} (hx : x ∈ lvs b) : ∃ g, b.gs[x.gat]? = some g ∧ GOk g ∧ 0 ≤ x.num ∧ x.num ≤ g.leaves ∧ 0 ≤ x.plus ∧ x.plus ≤ 4 := by
  obtain ⟨g, hg, hm⟩ := lvs_mem hx
  have hgk := hok.gs g (List.mem_of_getElem? hg)
  obtain ⟨h1, h2, h3, h4, h5⟩ := lvsG_mem hm
  refine ⟨g, hg, hgk, h2, h3, h4, ?_⟩
  rcases h5 with h5 | ⟨n, h5⟩
  · omega
  · have := fate_added (cs := g.chs) (num := n) fun c hc => ⟨(hgk.ch hc).2.2.2.1, (hgk.ch hc).2.2.2.2⟩
    omega
theorem getL_mem {α : Type} {xs : List α} {n : Int} {x : α} (h : getL xs n = some x) : x ∈ xs := by
  unfold getL at h
  split at h
  · cases h
  · exact List.mem_of_getElem? h

set_option maxRecDepth 100000 in
set_option maxHeartbeats 1000000 in
theorem Leaf_good (b : Bk) (v : Value) (n : Int) (w : World) (hb : BookAt w.heap.size w v b) (he : errF b = 0) :
    Calls Tryz.prog 19 #[v, .int .i64 n] w fun e w' => e = .returned (leafTR b (getL (lvs b) n)) ∧ Below w.heap.size w w' := by
  have hb' := hb
  obtain ⟨sv, rfl, hgs⟩ := hb
  have hgs' := hgs
  obtain ⟨a, cap, rfl, -⟩ := hgs'
  have hok := errF_zero he
  have hop : openV b (.agg #[.int .i64 b.signed, .slice a b.gs.length cap]) = .tuple #[.agg #[.int .i64 b.signed, .slice a b.gs.length cap], .int .i64 0] := by simp [openV, he]
  have HG := Lib.hid hgs
  have HB := Lib.hid hb'
  clear hgs hb'
  go_enter Tryz.func19, Tryz.ntmps19
  go_wp2_with fail
  refine (open_any b _ _ (HB.out.below (B := w.heap.size) (by exact (by repeat (first | (refine Below.setCell ?_ ?_ _; rotate_left; · (first | omega | (simp; done) | (simp; omega) | fail)) | (refine Below.alloc ?_ ?_ _; rotate_left; · (first | omega | (simp; done) | (simp; omega) | fail)) | refine Below.drew ?_ | exact Below.refl _ _ | fail))) (Nat.le_refl _) |>.mono (by simp; try omega))).mono ?_
  rintro e w1 ⟨rfl, hb1⟩
  rw [hop]
  have hb0 : Below w.heap.size w w1 := Below.trans (by exact (by repeat (first | (refine Below.setCell ?_ ?_ _; rotate_left; · (first | omega | (simp; done) | (simp; omega) | fail)) | (refine Below.alloc ?_ ?_ _; rotate_left; · (first | omega | (simp; done) | (simp; omega) | fail)) | refine Below.drew ?_ | exact Below.refl _ _ | fail))) (hb1.mono (by simp; try omega))
  have HB0 := Lib.hid hb0
  have hz := hb0.size
  clear hb1 hb0 hop
  go_wp2_with fail
  refine (leaf_any b _ n _ (HB.out.below (B := w.heap.size) (by exact (by repeat (first | (refine Below.setCell ?_ ?_ _; rotate_left; · (first | omega | (simp; done) | (simp; omega) | fail)) | (refine Below.alloc ?_ ?_ _; rotate_left; · (first | omega | (simp; done) | (simp; omega) | fail)) | refine Below.drew ?_ | exact HB0.out | fail))) (Nat.le_refl _) |>.mono (by simp; try omega)) he).mono ?_
  rintro e w2 ⟨rfl, hb2⟩
  have hb0 : Below w.heap.size w w2 := Below.trans (by exact (by repeat (first | (refine Below.setCell ?_ ?_ _; rotate_left; · (first | omega | (simp; done) | (simp; omega) | fail)) | (refine Below.alloc ?_ ?_ _; rotate_left; · (first | omega | (simp; done) | (simp; omega) | fail)) | refine Below.drew ?_ | exact HB0.out | fail))) (hb2.mono (by simp; try omega))
  have h6 : w2.heap[w1.heap.size]? = some (.cells #[.int .i64 b.signed, .slice a b.gs.length cap] 57) := blk_later hb2 (by exact (by repeat (first | exact heap_alloc_at _ _ _ (by (first | omega | (simp; done) | (simp; omega) | fail)) | (refine (heap_alloc_past _ _ _ ?_).trans ?_; · (first | omega | (simp; done) | (simp; omega) | fail)) | fail)))
  have hz2 := hb0.size
  have HB2 := Lib.hid hb0
  have hzz := blk_lt h6
  clear hb2 hb0
  cases hx : getL (lvs b) n with
  | none =>
    have HX := Lib.hid hx
    clear hx
    simp only [leafR]
    go_wp2_with fail
    go_ret2
    exact ⟨by rw [HX.out]; rfl, (by repeat (first | (refine Below.setCell ?_ ?_ _; rotate_left; · (first | omega | (simp; done) | (simp; omega) | fail)) | (refine Below.alloc ?_ ?_ _; rotate_left; · (first | omega | (simp; done) | (simp; omega) | fail)) | refine Below.drew ?_ | exact HB2.out | fail))⟩
  | some x =>
    obtain ⟨g, hg, hgk, n0, n1, p0, p1⟩ := lf_bounds hok (getL_mem hx)
    have hlv := hgk.leaves
    have HX := Lib.hid hx
    clear hx
    simp only [leafR, lfV]
    have v0 := blk_cell h6 0; have v1 := blk_cell h6 1
    clear h6
    go_wp2_with fail
    refine (name_any b _ x g _ (HB.out.below (B := w.heap.size) (by exact (by repeat (first | (refine Below.setCell ?_ ?_ _; rotate_left; · (first | omega | (simp; done) | (simp; omega) | fail)) | (refine Below.alloc ?_ ?_ _; rotate_left; · (first | omega | (simp; done) | (simp; omega) | fail)) | refine Below.drew ?_ | exact HB2.out | fail))) (Nat.le_refl _) |>.mono (by simp; try omega)) hg).mono ?_
    rintro e w3 ⟨rfl, hb3⟩
    have hb0 : Below w.heap.size w w3 := Below.trans (by exact (by repeat (first | (refine Below.setCell ?_ ?_ _; rotate_left; · (first | omega | (simp; done) | (simp; omega) | fail)) | (refine Below.alloc ?_ ?_ _; rotate_left; · (first | omega | (simp; done) | (simp; omega) | fail)) | refine Below.drew ?_ | exact HB2.out | fail))) (hb3.mono (by simp; try omega))
    have HB3 := Lib.hid hb0
    clear hb3 hb0
    go_wp2_with fail
    refine (nameText_any g.round g.letter x.num x.plus hgk.sig ⟨n0, by omega⟩ ⟨p0, by omega⟩ _).mono ?_
    rintro e w4 ⟨rfl, hb4⟩
    have hb0 : Below w.heap.size w w4 := HB3.out.trans (hb4.mono HB3.out.size)
    have HT : Hid (lfText b x = nameT g.round g.letter x.num x.plus) := by show _ = _; simp [lfText, hg]
    go_wp2_with fail
    go_ret2
    exact ⟨by rw [HX.out]; simp only [leafTR, HT.out]; rfl, hb0⟩

end Go.Proofs.YtlfglbnbenaghaaGreatDoor

/- The statement that ranges over a function and looks for the first element of a kind. For any program. -/
namespace Go.Proofs.YtlfglbnbenaghaaGreatDoor
set_option linter.unusedSimpArgs false
set_option linter.unusedVariables false
open Go Go.RowKit

theorem rf_find {P : Program} {n : Nat} {α : Type} {g : Operand} {ps : Array Tmp} {assign body : Code} {Q : Exit → Act → World → Prop} {a : Act} {w : World}
    {gf : Nat} {lb : Array Value} (hg : a.eval g = .func (.func gf) #[] lb) (eg : ∀ args w, (callFunc gf args).run P w = .ok (.enter gf args) w)
    {encs : α → Array Value} {xs : List α} {Pr : Nat → Prop} (hit : ItC P gf lb encs xs Pr w) (hps : ∀ x, (encs x).size = ps.size) (hPr : ∀ k, Pr k → k < w.heap.size)
    (w0 : World) (bs : List (Nat × Obj)) (p : α → Bool) (bsR : α → List (Nat × Obj)) (Xr : Nat → Prop) (o : α → Obj) (upd : α → Nat → List (Nat × Value))
    (hbs : ∀ q ∈ bs, q.1 < w.heap.size) (hbsR : ∀ x, ∀ q ∈ bsR x, q.1 < w.heap.size) (hXr : ∀ k, Xr k → k < w.heap.size ∧ ¬ Pr k) (h0 : Held w0 bs w)
    (hassign : ∀ (l : Nat) (x : α) (W : World) (K : Act → World → Prop), K { tmps := putAll a.tmps (upd x W.heap.size), defers := [] } (W.alloc (o x)) →
      assign.wpIn (Fence.wide.inRound l) 9 P (Exit.then K (fun _ _ _ => False)) { tmps := (ps.zip (encs x)).foldl (fun t (p, v) => t.setIfInBounds p v) a.tmps, defers := [] } W)
    (hbody : ∀ (l : Nat) (pre : List α) (x : α) (rest : List α) (bx : Nat) (W : World), xs = pre ++ x :: rest → Held w0 bs W → W.heap[bx]? = some (o x) → w.heap.size ≤ bx →
      body.wpIn (Fence.wide.inRound l) 9 P (fun e _ W' => (p x = true ∧ e = .ret ∧ OnlyIn Xr W W' ∧ Held w0 (bsR x) W') ∨ (p x = false ∧ e = .normal ∧ Below W.heap.size W W')) { tmps := putAll a.tmps (upd x bx), defers := [] } W)
    (hdone : ∀ (D : Nat) (W : World), w.heap.size ≤ D → Held w0 bs W → (∀ y ∈ xs, p y = false) → W.heap[D]? = some (.deferred (some [])) → Q .normal { a with defers := { target := .collected D, args := #[] } :: a.defers } W)
    (hstop : ∀ (D : Nat) (pre : List α) (x : α) (rest : List α) (W : World), w.heap.size ≤ D → xs = pre ++ x :: rest → (∀ y ∈ pre, p y = false) → p x = true → Held w0 (bsR x) W → W.heap[D]? = some (.deferred (some [])) → Code.ret.wpIn Fence.wide n P Q { a with defers := { target := .collected D, args := #[] } :: a.defers } W) :
    (Code.rangeFunc g ps assign body).wpIn Fence.wide n P Q a w := by
  refine rf_law2 hg eg hit hps hPr (fun pre W => Held w0 bs W ∧ (∀ y ∈ pre, p y = false) ∧ w.heap.size ≤ W.heap.size)
    (fun c _ W => c = .ret ∧ ∃ pre x rest, xs = pre ++ x :: rest ∧ (∀ y ∈ pre, p y = false) ∧ p x = true ∧ Held w0 (bsR x) W) (fun _ _ => False) o upd (fun _ _ _ _ h => h.elim) ?_ ?_
    ⟨h0, fun _ h => (by cases h), Nat.le_refl _⟩ hassign ?_ ?_ ?_
  · rintro pre X W W' ⟨h1, h2, h3⟩ ho hX
    exact ⟨⟨h1.only ho (hs := w.heap.size) (fun k h => (hX k h).1) h0.below.size hbs, h2, Nat.le_trans h3 ho.size⟩, fun k h => h.elim⟩
  · rintro c pre X W W' ⟨hc, pre', x, rest, h1, h2, h3, h4⟩ ho hX
    exact ⟨hc, pre', x, rest, h1, h2, h3, h4.only ho (hs := w.heap.size) hX h0.below.size (hbsR x)⟩
  · rintro l pre x rest bx W hsp ⟨h1, h2, h3⟩ hbx hlb -
    refine wpIn_mono (hbody l pre x rest bx W hsp h1 hbx hlb) ?_
    rintro e a' W' (⟨hp, rfl, ho, hh⟩ | ⟨hp, rfl, hb⟩)
    · exact ⟨Turn.of ho hXr (fun k hk => Nat.lt_of_lt_of_le (hPr k hk) h3), rfl, pre, x, rest, hsp, h2, hp, hh⟩
    · refine ⟨Turn.of (X := fun _ => False) (OnlyIn.of_below hb) (fun k hk => hk.elim) (fun k hk => Nat.lt_of_lt_of_le (hPr k hk) h3), h1.below' hb, fun y hy => ?_, Nat.le_trans h3 hb.size⟩
      rcases List.mem_append.1 hy with hy | hy
      · exact h2 y hy
      · simp only [List.mem_singleton] at hy; rw [hy]; exact hp
  · rintro D W hD ⟨h1, h2, -⟩ hd
    exact hdone D W hD h1 h2 hd
  · rintro D c pre W hD ⟨rfl, pre', x, rest, h1, h2, h3, h4⟩ hd
    exact hstop D pre' x rest W hD h1 h2 h3 h4 hd

end Go.Proofs.YtlfglbnbenaghaaGreatDoor
