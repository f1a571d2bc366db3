/- The parts Qp, Or of the proof, joined. It holds without conditions of its own. -/
import Derived.Test.YtimdmgkegdlafaaGreatDoorCH12
import Derived.OrdersIn
import Derived.TacticsIn
/- Signs. -/
namespace Go.Proofs.YtimdmgkegdlafaaGreatDoor
set_option linter.unusedSimpArgs false
set_option linter.unusedVariables false
open Go Go.RowKit Go.Sort Go.BigFrame Go.Shelf
attribute [local go_sem] Oper.semAt_some putAll

theorem elemInt : ∃ i, Tryz.prog.info? 3 = some i ∧ i.zero = some (.int .i64 0) ∧ i.size = 1 ∧ i.bytes = 8 := elemOf (by kernel_rfl)
theorem undInts : Tryz.prog.underlying 74 = some (.slice 3) := by kernel_rfl
/-- Whether a leaf of a book is signed; the numbers of those that are. -/
def signedL (b : Bk) (x : Lf) : Bool := match b.gs[x.gat]? with
  | some g => signedB b x g
  | none => false
def signsOf (b : Bk) (ys : List (Lf × Nat)) : List Nat := (ys.filter fun y => signedL b y.1).map (·.2)
def intVs (xs : List Nat) : List Value := xs.map fun (n : Nat) => Value.int .i64 (n : Int)
def signsF (b : Bk) : List Nat := signsOf b (lvs b).zipIdx

theorem signs_no {b : Bk} {pre : List (Lf × Nat)} {y : Lf × Nat} (h : signedL b y.1 = false) : signsOf b (pre ++ [y]) = signsOf b pre := by simp [signsOf, List.filter_append, h]
theorem signs_yes {b : Bk} {pre : List (Lf × Nat)} {y : Lf × Nat} (h : signedL b y.1 = true) : signsOf b (pre ++ [y]) = signsOf b pre ++ [y.2] := by simp [signsOf, List.filter_append, h]

set_option maxRecDepth 100000 in
set_option maxHeartbeats 1000000 in
theorem Signs_bad (b : Bk) (v : Value) (w : World) (hb : BookAt w.heap.size w v b) (he : errF b ≠ 0) :
    Calls Tryz.prog 34 #[v] w fun e w' => e = .returned (.tuple #[.slice none 0 0, .int .i64 (errF b)]) ∧ Below w.heap.size w w' := by
  have hb' := hb
  obtain ⟨sv, rfl, hgs⟩ := hb
  have hgs' := hgs
  obtain ⟨a, cap, rfl, -⟩ := hgs'
  have hop : openV b (.agg #[.int .i64 b.signed, .slice a b.gs.length cap]) = .tuple #[.agg #[.int .i64 0, .slice none 0 0], .int .i64 (errF b)] := by simp [openV, he]
  have hne : (errF b != 0) = true := by simp [he]
  go_enter Tryz.func34, Tryz.ntmps34
  go_wp2_with fail
  refine (open_any b _ _ (hb'.below (B := w.heap.size) (by exact (by repeat (first | (refine Below.setCell ?_ ?_ _; rotate_left; · (first | omega | (simp; done) | (simp; omega) | fail)) | (refine Below.alloc ?_ ?_ _; rotate_left; · (first | omega | (simp; done) | (simp; omega) | fail)) | refine Below.drew ?_ | exact Below.refl _ _ | fail))) (Nat.le_refl _) |>.mono (by simp; try omega))).mono ?_
  rintro e w1 ⟨rfl, hb1⟩
  rw [hop]
  have hb0 : Below w.heap.size w w1 := Below.trans (by exact (by repeat (first | (refine Below.setCell ?_ ?_ _; rotate_left; · (first | omega | (simp; done) | (simp; omega) | fail)) | (refine Below.alloc ?_ ?_ _; rotate_left; · (first | omega | (simp; done) | (simp; omega) | fail)) | refine Below.drew ?_ | exact Below.refl _ _ | fail))) (hb1.mono (by simp; try omega))
  have hz := hb0.size
  go_wp2_with fail
  go_ret2
  exact ⟨rfl, (by repeat (first | (refine Below.setCell ?_ ?_ _; rotate_left; · (first | omega | (simp; done) | (simp; omega) | fail)) | (refine Below.alloc ?_ ?_ _; rotate_left; · (first | omega | (simp; done) | (simp; omega) | fail)) | refine Below.drew ?_ | exact hb0 | fail))⟩

set_option maxRecDepth 100000 in
set_option maxHeartbeats 1000000 in
theorem Signs_good (b : Bk) (v : Value) (w : World) (hb : BookAt w.heap.size w v b) (he : errF b = 0) :
    Calls Tryz.prog 34 #[v] w fun e w' => (∃ v', e = .returned (.tuple #[v', .int .i64 0]) ∧ w'.ownsRow w.heap.size 3 1 v' (signsF b).length (intVs (signsF b))) ∧ Below w.heap.size w w' := by
  have hb' := hb
  obtain ⟨sv, rfl, hgs⟩ := hb
  have hgs' := hgs
  obtain ⟨a, cap, rfl, -⟩ := hgs'
  have hok := errF_zero he
  have hop : openV b (.agg #[.int .i64 b.signed, .slice a b.gs.length cap]) = .tuple #[.agg #[.int .i64 b.signed, .slice a b.gs.length cap], .int .i64 0] := by simp [openV, he]
  have HG := Lib.hid hgs
  have HB := Lib.hid hb'
  clear hgs hb'
  refine (callsIn_wide (n := 10)).1 ?_
  refine callsIn_of_wp_marks Tryz.func34 rfl trivial ?_ rfl
  simp only [Tryz.ntmps34, List.size_toArray, List.length_cons, List.length_nil, Nat.reduceAdd, Nat.reduceSub, Array.replicate_succ, Array.replicate_zero, List.push_toArray, List.append_toArray, List.nil_append, List.cons_append]
  gi_wp2_with fail
  refine ⟨trivial, ?_⟩
  refine (callsIn_wide.2 (open_any b _ _ (HB.out.below (B := w.heap.size) (by exact (by repeat (first | (refine Below.setCell ?_ ?_ _; rotate_left; · (first | omega | (simp; done) | (simp; omega) | fail)) | (refine Below.alloc ?_ ?_ _; rotate_left; · (first | omega | (simp; done) | (simp; omega) | fail)) | refine Below.drew ?_ | exact Below.refl _ _ | fail))) (Nat.le_refl _) |>.mono (by simp; try omega)))).mono ?_
  rintro e w1 ⟨rfl, hb1⟩
  rw [hop]
  have hb0 : Below w.heap.size w w1 := Below.trans (by exact (by repeat (first | (refine Below.setCell ?_ ?_ _; rotate_left; · (first | omega | (simp; done) | (simp; omega) | fail)) | (refine Below.alloc ?_ ?_ _; rotate_left; · (first | omega | (simp; done) | (simp; omega) | fail)) | refine Below.drew ?_ | exact Below.refl _ _ | fail))) (hb1.mono (by simp; try omega))
  have HB0 := Lib.hid hb0
  have hz := hb0.size
  clear hb1 hb0 hop
  gi_wp2_with fail
  refine ⟨trivial, ?_⟩
  refine (callsIn_wide.2 (volLeaves_any b.signed _ b.gs.length cap _)).mono ?_
  rintro e w2 ⟨rfl, hw2⟩
  gi_wp2_with fail
  obtain ⟨V, hV⟩ : ∃ V, V = w1.heap.size := ⟨_, rfl⟩
  have hz2 : w2.heap.size = V + 3 := by rw [← hw2, hV]; simp
  have hh : Held w [(V, .cells #[.int .i64 b.signed, .slice a b.gs.length cap] 57)] w2 := ⟨HB0.out.trans (by rw [← hw2]; exact (by repeat (first | (refine Below.setCell ?_ ?_ _; rotate_left; · (first | omega | (simp; done) | (simp; omega) | fail)) | (refine Below.alloc ?_ ?_ _; rotate_left; · (first | omega | (simp; done) | (simp; omega) | fail)) | refine Below.drew ?_ | exact Below.refl _ _ | fail))), fun p hp => by
    (simp only [List.mem_cons, List.not_mem_nil, or_false] at hp)
    subst hp
    rw [← hw2, hV]; exact (by repeat (first | exact heap_alloc_at _ _ _ (by (first | omega | (simp; done) | (simp; omega) | fail)) | (refine (heap_alloc_past _ _ _ ?_).trans ?_; · (first | omega | (simp; done) | (simp; omega) | fail)) | fail))⟩
  have hL : w2.heap[V + 1]? = some (.cells #[.slice none 0 0] 74) := by rw [← hw2, hV]; exact (by repeat (first | exact heap_alloc_at _ _ _ (by (first | omega | (simp; done) | (simp; omega) | fail)) | (refine (heap_alloc_past _ _ _ ?_).trans ?_; · (first | omega | (simp; done) | (simp; omega) | fail)) | fail))
  have hvb : w2.heap[V + 2]? = some (.cells #[.int .i64 b.signed, .slice a b.gs.length cap] 57) := by rw [← hw2, hV]; exact (by repeat (first | exact heap_alloc_at _ _ _ (by (first | omega | (simp; done) | (simp; omega) | fail)) | (refine (heap_alloc_past _ _ _ ?_).trans ?_; · (first | omega | (simp; done) | (simp; omega) | fail)) | fail))
  have hVl : w.heap.size ≤ V := by omega
  have hz2a : V + 3 ≤ w2.heap.size := by omega
  have hz2b : w2.heap.size ≤ V + 3 := by omega
  simp only [World.size_alloc, ← hV]
  clear hw2 hV hz2
  have HV := Lib.hid hvb
  have HL := Lib.hid hL
  clear hvb hL
  refine rf_list (gf := 77) (lb := #[.pointer (some ⟨V + 2, 0, none⟩)]) rfl (enters_of Tryz.func77 (by kernel_rfl) rfl)
    (leaves_it b.gs b.signed a cap w2 (V + 2) w.heap.size (by omega) (HG.out.below hh.below (Nat.le_refl _)) hok.gs (by have := hok.len; omega) HV.out) (fun _ => rfl) (fun j hj => by rcases hj with h | h <;> omega)
    w [(V, .cells #[.int .i64 b.signed, .slice a b.gs.length cap] 57)] (V + 1) 74 3 1 (fun pre => (signsOf b pre).length) (fun pre => intVs (signsOf b pre)) (fun y => .cells #[.int .i64 y.1.gat, .int .i64 y.1.num, .int .i64 y.1.plus, .int .i64 y.1.kind] 89)
    (fun y bx => [(19, .int .i64 y.2), (20, lfV y.1), (7, .int .i64 y.2), (8, .pointer (some ⟨bx, 0, none⟩))]) (fun p hp => by (simp only [List.mem_cons, List.not_mem_nil, or_false] at hp); subst hp; (simp only; omega)) hh HL.out rfl rfl ?assign ?body ?done
  case assign =>
    intro l y W K' hK'
    gi_wp2_with fail
    exact hK'
  case body =>
    rintro l pre y rest bx W u hsp h1 h2 h3 hbx hlb hnb
    obtain ⟨-, hx⟩ := zip_at hsp
    have hlb' := blk_lt hbx
    have hv := h1.get 0 rfl
    have v0 := blk_cell hv 0; have v1 := blk_cell hv 1
    have d0 := blk_cell hbx 0; have d1 := blk_cell hbx 1; have d2 := blk_cell hbx 2; have d3 := blk_cell hbx 3
    obtain ⟨g, hg, -⟩ := lvs_mem (b := b) (List.mem_of_getElem? hx)
    have hC := signed_any b (.agg #[.int .i64 b.signed, .slice a b.gs.length cap]) y.1 g W (HB.out.below h1.below (Nat.le_refl _) |>.mono h1.below.size) hg
    have HC := Lib.hid hC
    have hsg : signedL b y.1 = signedB b y.1 g := by simp [signedL, hg]
    clear hC hv
    gi_wp2_with fail
    refine ⟨trivial, ?_⟩
    refine (CallsIn.inRound l (callsIn_wide.2 HC.out)).mono ?_
    rintro e W1 ⟨rfl, hb1⟩
    rw [← hsg]
    obtain ⟨q, hq⟩ : ∃ q, q = signedL b y.1 := ⟨_, rfl⟩
    rw [← hq]
    have HQ := Lib.hid hq
    have h2' := blk_later hb1 h2
    have hz1 := hb1.size
    have n0 := blk_cell h2' 0
    have H2 := Lib.hid h2
    have H3 := Lib.hid h3
    have HB1 := Lib.hid hb1
    clear hq hsg HC hb1 h2 h3 h2' v0 v1 d0 d1 d2 d3 hbx
    cases q
    · gi_wp2_with fail
      obtain ⟨t1, t2⟩ := list_stay (hs := w2.heap.size) (Pr := fun k => k = V + 2 ∨ k < w.heap.size) H2.out H3.out HB1.out (fun j hj => by rcases hj with hj | hj <;> omega)
      exact ⟨t1, h1.below' HB1.out, by rw [signs_no (pre := pre) HQ.out.symm]; exact t2⟩
    · obtain ⟨ei, hi1, hi2, hi3, hi4⟩ := elemInt
      have hlen : (signsOf b pre).length < 2000 := by
        have h5 := lvsFrom_len (i := 0) hok.gs
        have h6 := congrArg List.length hsp
        have h7 : (signsOf b pre).length ≤ pre.length := by unfold signsOf; rw [List.length_map]; exact List.length_filter_le _ _
        have := hok.len
        simp only [List.length_append, List.length_cons, List.length_zipIdx] at h6
        omega
      have HO : Hid (OnlyIn (fun _ => False) W (W1.alloc (.cells #[.int .i64 y.2] 3))) := (OnlyIn.of_below HB1.out).trans (OnlyIn.alloc _ _ _)
      have HR : Hid (W1.ownsRow w2.heap.size 3 1 u (signsOf b pre).length (intVs (signsOf b pre))) := row_later H3.out HB1.out
      gi_wp2_with (gi_at_builtin; refine wpListIn_append_one _ rfl _ _ 74 rfl w2.heap.size 3 ei _ 1 8 undInts hi1 hi2 hi3 hi4 rfl (by decide) u (signsOf b pre).length (intVs (signsOf b pre)) rfl (HR.out.alloc _) ⟨W1.heap.size, 0, none⟩ 1 [.int .i64 y.2] rfl rfl ?c1 ?c2 ?c3 ?c4 ?c5 ?c6)
      case c1 => exact cells_new _ _ _
      case c2 => simp [Value.oneCell']
      case c3 => simp only [maxLen]; omega
      case c4 => omega
      case c5 => simp; omega
      case c6 =>
        rintro g capg w' hown hgrow hg
        obtain ⟨s1, s2, s3, s4⟩ := list_step (hs := w2.heap.size) (Pr := fun k => k = V + 2 ∨ k < w.heap.size) H2.out H3.out (by decide) HO.out hown hgrow (by simpa using hg) (by omega) (Nat.le_refl _) (fun j hj => by rcases hj with hj | hj <;> refine ⟨by omega, by omega, by omega⟩)
        have cL := blk_cell s1 0
        have fL := blk_free s1 0
        gi_wp2_with fail
        refine ⟨h1.only s4 (hs := V + 1) (fun j hj => by rcases hj with hj | hj <;> omega) (by omega) (fun p hp => by (simp only [List.mem_cons, List.not_mem_nil, or_false] at hp); subst hp; (simp only; omega)), ?_⟩
        have hN : (signsOf b (pre ++ [y])).length = (signsOf b pre).length + 1 := by rw [signs_yes HQ.out.symm]; simp
        have hV : intVs (signsOf b (pre ++ [y])) = intVs (signsOf b pre) ++ [.int .i64 y.2] := by rw [signs_yes HQ.out.symm]; simp [intVs]
        rw [hN, hV]
        exact s2
  case done =>
    rintro D W u hD h1 h2 h3 hdef
    have n0 := blk_cell h2 0
    gi_wp2_with fail
    have h4 := h1.put (.deferred none) (D := D) (by omega) (fun p hp => by (simp only [List.mem_cons, List.not_mem_nil, or_false] at hp); subst hp; (simp only; omega))
    have h5 := ownsRow_putObj h3 (.deferred none) hdef rfl
    refine leave_ret hdef ⟨.tuple #[u, .int .i64 0], by simp [results, Tryz.results34, go_sem], ⟨u, rfl, ?_⟩, h4.below⟩
    exact row_mono h5 (by omega)

end Go.Proofs.YtimdmgkegdlafaaGreatDoor

/- A region that draws its order: each of its orders is walked as a list. For any program, inside any fence, in a round or not. -/
namespace Go.Proofs.YtimdmgkegdlafaaGreatDoor
set_option linter.unusedSimpArgs false
set_option linter.unusedVariables false
open Go

/-- The orders in which the operations of a region may come up. -/
def ordersOf (md : Region.Mode) (ops : Array Oper) : Nat → Array Bool → List (List Nat)
  | 0, _ => [[]]
  | fuel + 1, listed => if Region.ready md ops listed = [] then [[]] else (Region.ready md ops listed).flatMap fun i => (ordersOf md ops fuel (listed.setIfInBounds i true)).map (i :: ·)

theorem go_mem (md : Region.Mode) (ops : Array Oper) : ∀ (fuel t : Nat) (listed : Array Bool), Region.linearise.go md ops fuel t listed [] ∈ ordersOf md ops fuel listed
  | 0, t, listed => by simp [Region.linearise.go, ordersOf]
  | fuel + 1, t, listed => by
    simp only [Region.linearise.go, ordersOf]
    change (match (Region.ready md ops listed)[t % (Region.ready md ops listed).length]? with
      | some i => Region.linearise.go md ops fuel (t / (Region.ready md ops listed).length) (listed.setIfInBounds i true) [i]
      | none => [].reverse) ∈ _
    cases hi : (Region.ready md ops listed)[t % (Region.ready md ops listed).length]? with
    | none =>
      have hnil : Region.ready md ops listed = [] := by
        cases hr : Region.ready md ops listed with
        | nil => rfl
        | cons x xs =>
          rw [hr] at hi
          have hlt : t % (x :: xs).length < (x :: xs).length := Nat.mod_lt _ (by simp)
          simp at hi
          simp at hlt
          omega
      simp [hnil]
    | some i =>
      have hm := List.mem_of_getElem? hi
      have hne : Region.ready md ops listed ≠ [] := fun e => by rw [e] at hm; cases hm
      rw [if_neg hne]
      simp only []
      rw [linearise_go_acc, List.reverse_singleton, List.singleton_append]
      exact List.mem_flatMap.2 ⟨i, hm, List.mem_map.2 ⟨_, go_mem md ops fuel _ _, rfl⟩⟩

theorem wpOpsIn_list {F : Fence} {n : Nat} {P : Program} {ops : Array Oper} {Q : Exit → Act → World → Prop} : ∀ (L : List Nat) (a : Act) (w : World), wpListIn F n P ops Q (L.filterMap (ops[·]?)) a w → wpOpsIn F n P ops Q L a w
  | [], a, w, h => h
  | i :: L, a, w, h => by
    unfold wpOpsIn
    cases ho : ops[i]? with
    | none =>
      simp only [List.filterMap_cons, ho] at h
      exact wpOpsIn_list L a w h
    | some o =>
      simp only [List.filterMap_cons, ho] at h
      simp only []
      unfold wpListIn at h
      split
      · rename_i hw
        rw [if_pos hw] at h
        exact Oper.wpIn_mono (fun a w => wpOpsIn_list L a w) h
      · rename_i hw
        rw [if_neg hw] at h
        exact ⟨h.1, wpOpsIn_list L _ w h.2⟩

theorem wpIn_region_orders {F : Fence} {n : Nat} {P : Program} {id : Nat} {Q : Exit → Act → World → Prop} {a : Act} {w : World} {l : List Oper} (hm : P.follows .mixedOrders = true) (Ls : List (List Nat))
    (hL : ordersOf .any l.toArray l.length (Array.replicate l.length false) = Ls) (h : ∀ L ∈ Ls, wpListIn F n P l.toArray Q (L.filterMap (l.toArray[·]?)) a w.drew) : (Code.region id l.toArray true).wpIn F n P Q a w := by
  refine wpIn_region_draw fun t => wpOpsIn_list _ _ _ (h _ ?_)
  rw [← hL]
  simp only [Region.schedule, hm, Bool.true_or, if_true]
  have := go_mem .any l.toArray l.length t (Array.replicate l.length false)
  simpa [Region.linearise] using this

structure Cut (p : Prop) : Prop where
  out : p
/-- A piece of code by what it leaves: then what stands behind it is walked once. -/
theorem wpIn_cut {F : Fence} {n : Nat} {P : Program} {c : Code} {Q : Exit → Act → World → Prop} {a : Act} {w : World} (R : Act → Act → World → Prop)
    (h : c.wpIn F n P (fun e a' w' => e = .normal ∧ Cut (R a a' w')) a w) (hq : ∀ a' w', R a a' w' → Q .normal a' w') : c.wpIn F n P Q a w :=
  wpIn_mono h fun e a' w' ⟨he, hr⟩ => by subst he; exact hq a' w' hr.out
theorem wp_cut {P : Program} {c : Code} {Q : Exit → Act → World → Prop} {a : Act} {w : World} (R : Act → Act → World → Prop)
    (h : c.wpIn Fence.wide 10 P (fun e a' w' => e = .normal ∧ Cut (R a a' w')) a w) (hq : ∀ a' w', R a a' w' → Q .normal a' w') : c.wp P Q a w :=
  wpIn_wide.1 (wpIn_cut R h hq)

end Go.Proofs.YtimdmgkegdlafaaGreatDoor
