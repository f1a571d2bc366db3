/- The parts Fy, He, Hm, Hn, Hd, Ho, Ac, Lh, Hq, Ya of the proof, joined. It holds without conditions of its own. -/
import Derived.Test.YtnhacghjoikgpaaGreatDoorFY18
import Derived.Test.YtnhacghjoikgpaaGreatDoorFY17
import Derived.Test.YtnhacghjoikgpaaGreatDoorFY11
import Derived.Test.YtnhacghjoikgpaaGreatDoorFY8
import Derived.Test.YtnhacghjoikgpaaGreatDoorFY10
import Derived.Test.YtnhacghjoikgpaaGreatDoorFY9
import Derived.Laws.AppendOwn
import Derived.Test.YtnhacghjoikgpaaGreatDoorFY7
import Derived.Shelf.RegionOpen
import Derived.Test.YtnhacghjoikgpaaGreatDoorFY3
import Derived.Test.YtnhacghjoikgpaaGreatDoorFY4
/- Plain: what agrees with all that is seen; with one more mark no way of making is added. -/
namespace Go.Proofs.YtnhacghjoikgpaaGreatDoor
set_option linter.unusedSimpArgs false
set_option linter.unusedVariables false

theorem all_off {b : Bok} {x : Nat → Bool} (h : ∀ i, x i = true → i < 3 + b.marks.length) : offV (allS b).testBit x ↔ offV (fun _ => true) x := by
  unfold offV allS
  constructor
  · intro hh i _ hi
    exact hh i (by rw [Nat.testBit_two_pow_sub_one]; exact decide_eq_true (h i hi)) hi
  · intro hh i _ hi
    exact hh i rfl hi
theorem plain_lt {p : Prs} {b : Bok} {m : Mkw} {n : Nat} : ∀ i, plainV (wayV p b m) i = true → i < 3 + n := fun i hi => by
  unfold plainV at hi
  rw [Bool.and_eq_true] at hi
  have := of_decide_eq_true hi.1
  omega
theorem untrue_lt {w : Way} {ms : List (Int × Bool)} {sh h : Nat} : ∀ i, untrueF w ms sh h i = true → i < 3 + ms.length := fun i hi => by
  obtain ⟨h3, x, l, a1, -, -⟩ := untrue_sheet hi
  have := (List.getElem?_eq_some_iff.1 a1).1
  omega
/-- **Agreeing with all pieces**, by number or plainly. -/
theorem agree_all (p : Prs) (b : Bok) (m : Mkw) : agreesP p b (allS b) m = true ↔ agreesV (wayV p b m) b.marks (fun _ => true) := by
  rw [agrees_is]
  unfold agreesV
  rw [all_off plain_lt]
  simp only [all_off (b := b) untrue_lt]
theorem untrue_more {w : Way} {ms : List (Int × Bool)} {x : Int × Bool} {sh h i : Nat} (hi : untrueF w ms sh h i = true) : untrueF w (ms ++ [x]) sh h i = true := by
  obtain ⟨h3, y, l, a1, a2, a3⟩ := untrue_sheet hi
  unfold untrueF at hi ⊢
  rw [a1] at hi
  rw [List.getElem?_append_left (List.getElem?_eq_some_iff.1 a1).1, a1]
  exact hi
/-- With one more mark no way of making is added. -/
theorem agree_more {p : Prs} {b : Bok} {x : Int × Bool} {m : Mkw} (h : m ∈ agreeL p { b with marks := b.marks ++ [x] }) : m ∈ agreeL p b := by
  unfold agreeL at h ⊢
  obtain ⟨h1, h2⟩ := List.mem_filter.1 h
  refine List.mem_filter.2 ⟨h1, ?_⟩
  rw [agree_all] at h2 ⊢
  obtain ⟨a1, a2⟩ := h2
  refine ⟨a1, fun s hs => (a2 s hs).imp ?_ ?_⟩
  · exact fun hh i hi hu => hh i hi (untrue_more hu)
  · exact fun hh i hi hu => hh i hi (untrue_more hu)
end Go.Proofs.YtnhacghjoikgpaaGreatDoor

/- Plain: the leaves that must, and that may, be of the sheet of one; with one more mark. -/
namespace Go.Proofs.YtnhacghjoikgpaaGreatDoor
set_option linter.unusedSimpArgs false
set_option linter.unusedVariables false

/-- Whether another leaf is of the sheet of one, in a way of making. -/
def askB (p : Prs) (m : Mkw) (i j : Nat) : Bool := !decide (j = i) && (match (lvOf p m)[i]?, (lvOf p m)[j]? with
  | some x, some y => x.sheet == y.sheet
  | _, _ => false)
def mustL (p : Prs) (b : Bok) (i : Nat) : List Nat := (List.range b.leaves.toNat).filter fun j => (agreeL p b).all fun m => askB p m i j
def mayL (p : Prs) (b : Bok) (i : Nat) : List Nat := (List.range b.leaves.toNat).filter fun j => (agreeL p b).any fun m => askB p m i j
theorem must_more {p : Prs} {b : Bok} {x : Int × Bool} {i j : Nat} (h : j ∈ mustL p b i) : j ∈ mustL p { b with marks := b.marks ++ [x] } i := by
  unfold mustL at h ⊢
  obtain ⟨h1, h2⟩ := List.mem_filter.1 h
  refine List.mem_filter.2 ⟨h1, List.all_eq_true.2 fun m hm => List.all_eq_true.1 h2 m (agree_more hm)⟩
theorem may_more {p : Prs} {b : Bok} {x : Int × Bool} {i j : Nat} (h : j ∈ mayL p { b with marks := b.marks ++ [x] } i) : j ∈ mayL p b i := by
  unfold mayL at h ⊢
  obtain ⟨h1, h2⟩ := List.mem_filter.1 h
  obtain ⟨m, hm, hq⟩ := List.any_eq_true.1 h2
  exact List.mem_filter.2 ⟨h1, List.any_eq_true.2 ⟨m, agree_more hm, hq⟩⟩
theorem must_len (p : Prs) (b : Bok) (i : Nat) : (mustL p b i).length ≤ b.leaves.toNat := by
  have := List.length_filter_le (fun j => (agreeL p b).all fun m => askB p m i j) (List.range b.leaves.toNat)
  rwa [List.length_range] at this
theorem may_len (p : Prs) (b : Bok) (i : Nat) : (mayL p b i).length ≤ b.leaves.toNat := by
  have := List.length_filter_le (fun j => (agreeL p b).any fun m => askB p m i j) (List.range b.leaves.toNat)
  rwa [List.length_range] at this
end Go.Proofs.YtnhacghjoikgpaaGreatDoor

/- The leaves that must, and that may, be of the sheet of one: together. -/
namespace Go.Proofs.YtnhacghjoikgpaaGreatDoor
set_option linter.unusedSimpArgs false
set_option linter.unusedVariables false
open Go Go.RowKit Go.Sort Go.BigFrame
attribute [local go_sem] Oper.semAt_some putAll

theorem undFns : Tryz.prog.underlying 134 = some (.slice 135) := by kernel_rfl
/-- The question that a way of making answers, as a value. -/
abbrev askV (p : Prs) (y : Wz) : Value := .func (.func 66) #[.agg (wayOf p y.1 (.slice y.2.1 y.2.2.1 y.2.2.2))] #[]
set_option maxRecDepth 100000 in
set_option maxHeartbeats 1000000 in
theorem valuesFn_any (a : Option Addr) (n c : Nat) (w : World) :
    Calls Tryz.prog 68 #[.slice a n c] w fun e w' => e = .returned (.func (.func 102) #[] #[.pointer (some ⟨w.heap.size, 0, none⟩)]) ∧ w.alloc (.cells #[.slice a n c] 134) = w' := by
  have hmf : ∀ (fn : Fn) (first cap : Array Value) (w : World), (Instr.makeFunc fn first cap).run Tryz.prog w = .ok (.func fn first cap) w := fun _ _ _ _ => rfl
  go_enter Tryz.func68, Tryz.ntmps68
  go_wp2
  go_ret
  exact ⟨rfl, rfl⟩
set_option maxRecDepth 100000 in
set_option maxHeartbeats 20000000 in
theorem seenTogether_any (p : Prs) (b : Bok) (ma : Option Addr) (mn mcap : Nat) (va : Option Addr) (vn vc : Nat) (ys : List Wz) (i : Nat) (w : World) (h : SnAt w p b (.slice ma mn mcap) (.slice va vn vc) ys) (he : (checkK p b).2.2 = 0) (hmn : mn = b.marks.length) (hi : i < b.leaves.toNat) :
    Calls Tryz.prog 31 #[.agg (seenC b (.slice ma mn mcap) (.slice va vn vc)), .int .i64 i] w fun e w' =>
      (∃ av mv, e = .returned (.tuple #[av, mv, .bool (agreeL p b != [])]) ∧ IntsAt w' av ((mustL p b i).map fun (n : Nat) => (n : Int)) ∧ IntsAt w' mv ((mayL p b i).map fun (n : Nat) => (n : Int))) ∧ Below w.heap.size w w' := by
  obtain ⟨-, ⟨hl1, hl2⟩, hm8, -⟩ := fine_bok he
  rw [← hmn] at hm8
  have H := Lib.hid h
  have HE := Lib.hid he
  have HMN := Lib.hid hmn
  obtain ⟨V, hV⟩ : ∃ V, V = w.heap.size := ⟨_, rfl⟩
  clear h he hmn
  refine (callsIn_wide (n := 10)).1 ?_
  refine callsIn_of_wp_marks Tryz.func31 rfl trivial ?_ rfl
  simp only [Tryz.ntmps31, List.size_toArray, List.length_cons, List.length_nil, Nat.reduceAdd, Nat.reduceSub, Array.replicate_succ, Array.replicate_zero, List.push_toArray, List.append_toArray, List.nil_append, List.cons_append]
  gi_wp2_with fail
  have hbw : Below w.heap.size w (((w.alloc (.cells (seenC b (.slice ma mn mcap) (.slice va vn vc)) 72)).alloc (.cells #[.int .i64 i] 3)).alloc (.cells #[.slice none 0 0] 134)).drew := Below.drew (by exact (by repeat (first | exact Below.refl _ _ | assumption | (refine Below.alloc ?_ ?_ _; rotate_left; · (first | omega | (simp; done) | (simp; omega) | fail)) | (refine Below.setCell ?_ ?_ _; rotate_left; · (first | omega | (simp; done) | (simp; omega) | fail)) | refine Below.drew ?_ | fail)))
  have hz2 : (((w.alloc (.cells (seenC b (.slice ma mn mcap) (.slice va vn vc)) 72)).alloc (.cells #[.int .i64 i] 3)).alloc (.cells #[.slice none 0 0] 134)).drew.heap.size = V + 3 := by rw [hV]; show (World.alloc _ _).heap.size = _; simp
  have h6 : (((w.alloc (.cells (seenC b (.slice ma mn mcap) (.slice va vn vc)) 72)).alloc (.cells #[.int .i64 i] 3)).alloc (.cells #[.slice none 0 0] 134)).drew.heap[V]? = some (.cells (seenC b (.slice ma mn mcap) (.slice va vn vc)) 72 (0, 0)) := by rw [hV]; show (World.alloc _ _).heap[_]? = _; exact (by repeat (first | exact heap_alloc_at _ _ _ (by (first | omega | (simp; done) | (simp; omega) | fail)) | (refine (heap_alloc_past _ _ _ ?_).trans ?_; · (first | omega | (simp; done) | (simp; omega) | fail)) | fail))
  have h7 : (((w.alloc (.cells (seenC b (.slice ma mn mcap) (.slice va vn vc)) 72)).alloc (.cells #[.int .i64 i] 3)).alloc (.cells #[.slice none 0 0] 134)).drew.heap[V + 1]? = some (.cells #[.int .i64 i] 3 (0, 0)) := by rw [hV]; show (World.alloc _ _).heap[_]? = _; exact (by repeat (first | exact heap_alloc_at _ _ _ (by (first | omega | (simp; done) | (simp; omega) | fail)) | (refine (heap_alloc_past _ _ _ ?_).trans ?_; · (first | omega | (simp; done) | (simp; omega) | fail)) | fail))
  have hL : (((w.alloc (.cells (seenC b (.slice ma mn mcap) (.slice va vn vc)) 72)).alloc (.cells #[.int .i64 i] 3)).alloc (.cells #[.slice none 0 0] 134)).drew.heap[V + 2]? = some (.cells #[.slice none 0 0] 134) := by rw [hV]; show (World.alloc _ _).heap[_]? = _; exact (by repeat (first | exact heap_alloc_at _ _ _ (by (first | omega | (simp; done) | (simp; omega) | fail)) | (refine (heap_alloc_past _ _ _ ?_).trans ?_; · (first | omega | (simp; done) | (simp; omega) | fail)) | fail))
  simp only [World.size_alloc, ← hV]
  rw [← hV] at hbw
  have HV := Lib.hid hV
  clear hV
  refine wpIn_wide.2 (wp_normal ?_)
  refine wp_region_held_drew (S := fun u => u.cell? ⟨V, 0, none⟩ = some (.int .i64 b.leaves) ∧ u.cell? ⟨V, 1, none⟩ = some (.int .i64 b.chain) ∧ u.cell? ⟨V, 2, none⟩ = some (.int .i64 b.wlo) ∧ u.cell? ⟨V, 3, none⟩ = some (.int .i64 b.whi) ∧ u.cell? ⟨V, 4, none⟩ = some (.int .i64 b.hlo) ∧ u.cell? ⟨V, 5, none⟩ = some (.int .i64 b.hhi) ∧ u.cell? ⟨V, 6, none⟩ = some (.slice ma mn mcap) ∧ u.cell? ⟨V, 7, none⟩ = some (.slice va vn vc)) (by kernel_rfl) ?_ (fun hHeld => ?_)
  · exact ⟨blk_cell h6 0, blk_cell h6 1, blk_cell h6 2, blk_cell h6 3, blk_cell h6 4, blk_cell h6 5, blk_cell h6 6, blk_cell h6 7⟩
  revert hbw hz2 h6 h7 hL hHeld
  generalize (((w.alloc (.cells (seenC b (.slice ma mn mcap) (.slice va vn vc)) 72)).alloc (.cells #[.int .i64 i] 3)).alloc (.cells #[.slice none 0 0] 134)).drew = w3
  intro hbw hz2 h6 h7 hL hHeld
  have HBW := Lib.hid hbw
  have H6 := Lib.hid h6
  have H7 := Lib.hid h7
  have HL := Lib.hid hL
  clear hbw h6 h7 hL
  refine wpAnyH_take (i := 0) (v := ?_) rfl (by kernel_rfl) (by kernel_rfl) (by kernel_rfl) (fun _ _ _ h => h) (Or.inl ⟨by rfl, ?_⟩) (by assumption) ?_
  rotate_left
  · (intro w hSw; (try dsimp only at hSw); go_simp; (try with_reducible rfl))
  (try simp only [Act.put, List.setIfInBounds_toArray, List.set_cons_zero, List.set_cons_succ])
  refine wpAnyH_take (i := 1) (v := ?_) rfl (by kernel_rfl) (by kernel_rfl) (by kernel_rfl) (fun _ _ _ h => h) (Or.inl ⟨by rfl, ?_⟩) (by assumption) ?_
  rotate_left
  · (intro w hSw; (try dsimp only at hSw); go_simp; (try with_reducible rfl))
  (try simp only [Act.put, List.setIfInBounds_toArray, List.set_cons_zero, List.set_cons_succ])
  refine wpAnyH_ready (rs := [2]) (by kernel_rfl) (by simp) ?_
  refine AllReadyH.cons rfl (fun K hK => ?_) AllReadyH.nil
  go_simp
  refine (seenAll_any b ma mn mcap (.slice va vn vc) hm8 _).mono ?_
  rintro e w4 ⟨rfl, hb4⟩
  obtain ⟨s, hs⟩ : ∃ s, s = 2 ^ (3 + mn) - 1 := ⟨_, rfl⟩
  rw [← hs]
  have HSA := Lib.hid hs
  have h6 := blk_later hb4 H6.out
  have k0 := blk_cell (h6) 0
  have k1 := blk_cell (h6) 1
  have k2 := blk_cell (h6) 2
  have k3 := blk_cell (h6) 3
  have k4 := blk_cell (h6) 4
  have k5 := blk_cell (h6) 5
  have k6 := blk_cell (h6) 6
  have k7 := blk_cell (h6) 7
  have HB4 := Lib.hid hb4
  clear hs hb4 h6
  dsimp only
  go_simp
  refine hK.out _ _ ?_ (fun hNew => ?_)
  · (try dsimp only); go_keep
  clear hK K hHeld
  have hHeld := hNew
  clear hNew
  (try simp only [Act.put, List.setIfInBounds_toArray, List.set_cons_zero, List.set_cons_succ])
  refine wpAnyH_ready (rs := [3]) (by kernel_rfl) (by simp) ?_
  refine AllReadyH.cons rfl (fun K hK => ?_) AllReadyH.nil
  go_simp
  refine (seenAgreeing_any b (.slice ma mn mcap) (.slice va vn vc) s _).mono ?_
  rintro e w5 ⟨rfl, hw5⟩
  have hb5 : Below w4.heap.size w4 w5 := by rw [← hw5]; exact (by repeat (first | exact Below.refl _ _ | assumption | (refine Below.alloc ?_ ?_ _; rotate_left; · (first | omega | (simp; done) | (simp; omega) | fail)) | (refine Below.setCell ?_ ?_ _; rotate_left; · (first | omega | (simp; done) | (simp; omega) | fail)) | refine Below.drew ?_ | fail))
  have g1 : w5.heap[w4.heap.size]? = some (.cells (seenC b (.slice ma mn mcap) (.slice va vn vc)) 72 (0, 0)) := by rw [← hw5]; exact (by repeat (first | exact heap_alloc_at _ _ _ (by (first | omega | (simp; done) | (simp; omega) | (simp at *; omega) | fail)) | assumption | rw [heap_alloc_past _ _ _ (by (first | omega | (simp; done) | (simp; omega) | (simp at *; omega) | fail))] | rw [heap_setCell_past _ _ _ _ (by (first | omega | (simp; done) | (simp; omega) | (simp at *; omega) | fail))] | fail))
  have g2 : w5.heap[w4.heap.size + 1]? = some (.cells #[.int .u64 s] 79 (0, 0)) := by rw [← hw5]; exact (by repeat (first | exact heap_alloc_at _ _ _ (by (first | omega | (simp; done) | (simp; omega) | (simp at *; omega) | fail)) | assumption | rw [heap_alloc_past _ _ _ (by (first | omega | (simp; done) | (simp; omega) | (simp at *; omega) | fail))] | rw [heap_setCell_past _ _ _ _ (by (first | omega | (simp; done) | (simp; omega) | (simp at *; omega) | fail))] | fail))
  have g3 : w5.heap.size = w4.heap.size + 2 := by rw [← hw5]; simp
  have G1 := Lib.hid g1
  have G2 := Lib.hid g2
  have G3 := Lib.hid g3
  have HB5 := Lib.hid hb5
  have h6 := blk_later hb5 (blk_later HB4.out H6.out)
  clear k0 k1 k2 k3 k4 k5 k6 k7
  have k0 := blk_cell (h6) 0
  have k1 := blk_cell (h6) 1
  have k2 := blk_cell (h6) 2
  have k3 := blk_cell (h6) 3
  have k4 := blk_cell (h6) 4
  have k5 := blk_cell (h6) 5
  have k6 := blk_cell (h6) 6
  have k7 := blk_cell (h6) 7
  clear g1 g2 g3 hb5 h6 hw5
  dsimp only
  go_simp
  refine hK.out _ _ ?_ (fun hNew => ?_)
  · (try dsimp only); go_keep
  clear hK K hHeld
  have hHeld := hNew
  clear hNew
  (try simp only [Act.put, List.setIfInBounds_toArray, List.set_cons_zero, List.set_cons_succ])
  refine wpAnyH_done (by kernel_rfl) ?_ _
  clear hHeld k0 k1 k2 k3 k4 k5 k6 k7
  gi_wp2_with fail
  have hb15 : Below V w w5 := (HBW.out.trans (HB4.out.mono (by have := hz2; omega))).trans (HB5.out.mono (by have := HB4.out.size; omega))
  have HBL := Lib.hid hb15
  have hL5 : w5.heap[V + 2]? = some (.cells #[.slice none 0 0] 134) := blk_later HB5.out (blk_later HB4.out HL.out)
  have h65 := blk_later HB5.out (blk_later HB4.out H6.out)
  have h75 := blk_later HB5.out (blk_later HB4.out H7.out)
  have hz5 : V + 3 ≤ w4.heap.size := by have := HB4.out.size; omega
  have hz6 : w4.heap.size + 2 ≤ w5.heap.size := by have := G3.out; omega
  have hz7 : w5.heap.size ≤ w4.heap.size + 2 := by have := G3.out; omega
  have hylen : ys.length ≤ 192 := H.out.len
  have hs2 : s < 2048 := by rw [HSA.out]; have := Nat.pow_le_pow_right (n := 2) (by decide) (show 3 + mn ≤ 11 by omega); omega
  have hit := H.out.hit HE.out hs2 (by rw [← HV.out]; exact HBL.out) G1.out G2.out
  rw [← HV.out] at hit
  have hAL : (ys.filter fun y => agreesP p b s y.1).map (·.1) = agreeL p b := by
    rw [agree_take p b (agreesP p b s) ys]
    unfold agreeL allS
    rw [← HMN.out, ← HSA.out, ← H.out.ways]
  obtain ⟨us, hus⟩ : ∃ us, us = ys.filter fun y => agreesP p b s y.1 := ⟨_, rfl⟩
  have husl : us.length ≤ 192 := by rw [hus]; exact Nat.le_trans (List.length_filter_le _ _) hylen
  rw [← hus] at hit hAL
  have HAL := Lib.hid hAL
  have HUS := Lib.hid hus
  clear hz2 hAL hb15 hus HL HB4 HB5 H6 H7 HBW hs2
  refine rf_list (gf := 60) (lb := #[.pointer (some ⟨w4.heap.size, 0, none⟩), .pointer (some ⟨w4.heap.size + 1, 0, none⟩)]) rfl (enters_of Tryz.func60 (by kernel_rfl) rfl)
    hit (fun _ => rfl) (fun j hj => by rcases hj with h | h | h <;> omega)
    w [(V, .cells (seenC b (.slice ma mn mcap) (.slice va vn vc)) 72), (V + 1, .cells #[.int .i64 i] 3)] (V + 2) 134 135 1 (fun pre => pre.length) (fun pre => pre.map (askV p)) (fun y => .cells (wayOf p y.1 (.slice y.2.1 y.2.2.1 y.2.2.2)) 83)
    (fun y bx => [(13, .agg (wayOf p y.1 (.slice y.2.1 y.2.2.1 y.2.2.2))), (8, .pointer (some ⟨bx, 0, none⟩))]) (fun q hq => by simp only [List.mem_cons, List.not_mem_nil, or_false] at hq; rcases hq with rfl | rfl <;> (simp only; omega))
    ⟨by rw [← HV.out]; exact HBL.out, fun q hq => by simp only [List.mem_cons, List.not_mem_nil, or_false] at hq; rcases hq with rfl | rfl <;> assumption⟩ hL5 rfl rfl ?assign ?body ?done
  case assign =>
    intro l y W K' hK'
    gi_wp2_with fail
    exact hK'
  case body =>
    rintro l pre y rest bx W u hsp h1 h2 h3 hbx hlb hnb
    have n0 := blk_cell h2 0
    have p0 := blk_cell (hbx) 0
    have p1 := blk_cell (hbx) 1
    have p2 := blk_cell (hbx) 2
    have p3 := blk_cell (hbx) 3
    have p4 := blk_cell (hbx) 4
    have p5 := blk_cell (hbx) 5
    have p6 := blk_cell (hbx) 6
    have p7 := blk_cell (hbx) 7
    have p8 := blk_cell (hbx) 8
    have p9 := blk_cell (hbx) 9
    have p10 := blk_cell (hbx) 10
    have p11 := blk_cell (hbx) 11
    have p12 := blk_cell (hbx) 12
    have p13 := blk_cell (hbx) 13
    have hlx := blk_lt hbx
    obtain ⟨ei, ez, hi1, hi2, hi3, hi4, hi5⟩ := elemFn
    have hlen : pre.length < 200 := by
      have h6 := congrArg List.length hsp
      simp only [List.length_append, List.length_cons] at h6
      omega
    have ho : OnlyIn (fun _ => False) W (W.alloc (.cells #[askV p y] 135)) := OnlyIn.alloc _ _ _
    have H2 := Lib.hid h2
    have H3 := Lib.hid h3
    clear hsp
    gi_wp2_with (gi_at_builtin; refine wpListIn_append_one _ rfl _ _ 134 rfl w5.heap.size 135 ei ez 1 8 undFns hi1 hi2 hi3 hi4 hi5 (by decide) u pre.length (pre.map (askV p)) rfl (H3.out.alloc _) ⟨W.heap.size, 0, none⟩ 1 [askV p y] rfl rfl ?c1 ?c2 ?c3 ?c4 ?c5 ?c6)
    case c2 => simp [Value.oneCell']
    case c3 => simp only [maxLen]; omega
    case c4 => omega
    case c5 => first | omega | (simp; omega)
    case c6 =>
      rintro g capg w' hown hgrow hg
      obtain ⟨s1, s2, s3, s4⟩ := list_step (hs := w5.heap.size) (Pr := fun k => k = w4.heap.size ∨ k = w4.heap.size + 1 ∨ k < V) H2.out H3.out (by decide) ho hown hgrow (by simpa using hg) (by omega) (Nat.le_refl _) (fun j hj => by rcases hj with hj | hj | hj <;> refine ⟨by omega, by omega, by omega⟩)
      have cL := blk_cell s1 0
      have fL := blk_free s1 0
      gi_wp2_with fail
      have hh2 : Held w [(V, .cells (seenC b (.slice ma mn mcap) (.slice va vn vc)) 72), (V + 1, .cells #[.int .i64 i] 3)] (w'.setCell ⟨V + 2, 0, none⟩ (.slice (some ⟨g, 0, none⟩) (pre.length + 1) capg)) := h1.only2 s4 (fun j hj => ⟨by have := HV.out; rcases hj with hj | hj <;> omega, fun q hq => by simp only [List.mem_cons, List.not_mem_nil, or_false] at hq; rcases hq with rfl | rfl <;> (simp only; rcases hj with hj | hj <;> omega)⟩)
      first | exact hh2 | exact ⟨hh2, by simpa using s2⟩
  case done =>
    rintro D W u hD h1 h2 h3 hdef
    have n0 := blk_cell h2 0
    gi_wp2_with fail
    have hv0 := h1.get 0 rfl
    have hv1 := h1.get 1 rfl
    obtain ⟨M, hM⟩ : ∃ M : Nat, b.leaves = (M : Int) := ⟨b.leaves.toNat, by omega⟩
    have s0 : W.cell? ⟨V, 0, none⟩ = some (.int .i64 (M : Nat)) := by rw [← hM]; exact blk_cell hv0 0
    have hu := h3
    obtain ⟨a9, cap9, rfl⟩ : ∃ a9 cap9, u = .slice a9 us.length cap9 := by
      rcases h3.2 with ⟨rfl, h0⟩ | ⟨g, cap, cur, rfl, -⟩
      · exact ⟨none, 0, by rw [h0]⟩
      · exact ⟨_, _, rfl⟩
    have hcell : ∀ (j : Nat) v, (us.map (askV p))[j]? = some v → ∃ g, a9 = some ⟨g, 0, none⟩ ∧ g < W.heap.size ∧ W.cell? ⟨g, j, none⟩ = some v := fun j v hj => by
      rcases hu.2 with ⟨e, h0⟩ | ⟨g, cap, cur, e, hbg, hg, -⟩
      · exfalso
        have : us = [] := List.length_eq_zero_iff.1 h0
        rw [this] at hj
        cases hj
      · cases e
        refine ⟨g, rfl, blk_lt hg, ?_⟩
        have := hu.cells (g := g) (by simp [Value.ownBlock]) j v hj
        rwa [add_offi] at this
    have HCE := Lib.hid hcell
    have HV0 := Lib.hid hv0
    have HV1 := Lib.hid hv1
    have HDF := Lib.hid hdef
    have HM := Lib.hid hM
    have HH1 := Lib.hid h1
    have HL2 := Lib.hid h2
    have hM1 : M ≤ 64 := by omega
    have hiM : i < M := by omega
    clear h1 h2 h3 hdef hu hcell hv0 hv1 hM
    refine wpIn_wide.2 (wp_normal ?_)
    refine wp_region_held_drew (S := fun x => x.cell? ⟨V + 2, 0, none⟩ = some (.slice a9 us.length cap9) ∧ x.cell? ⟨V, 0, none⟩ = some (.int .i64 (M : Nat))) (by kernel_rfl) ?_ (fun hHeld => ?_)
    · exact ⟨n0, s0⟩
    clear n0 s0
    obtain ⟨Wd, hWd⟩ : ∃ Wd, Wd = W.drew := ⟨_, rfl⟩
    have hbd : Below W.heap.size W Wd := by rw [hWd]; exact Below.drew (Below.refl _ _)
    rw [← hWd] at hHeld ⊢
    have HBD := Lib.hid hbd
    clear hWd hbd
    refine wpAnyH_take (i := 0) (v := ?_) rfl (by kernel_rfl) (by kernel_rfl) (by kernel_rfl) (fun _ _ _ h => h) (Or.inl ⟨by rfl, ?_⟩) (by assumption) ?_
    rotate_left
    · (intro w hSw; (try dsimp only at hSw); go_simp; (try with_reducible rfl))
    (try simp only [Act.put, List.setIfInBounds_toArray, List.set_cons_zero, List.set_cons_succ])
    refine wpAnyH_take (i := 2) (v := ?_) rfl (by kernel_rfl) (by kernel_rfl) (by kernel_rfl) (fun _ _ _ h => h) (Or.inl ⟨by rfl, ?_⟩) (by assumption) ?_
    rotate_left
    · (intro w hSw; (try dsimp only at hSw); go_simp; (try with_reducible rfl))
    (try simp only [Act.put, List.setIfInBounds_toArray, List.set_cons_zero, List.set_cons_succ])
    refine wpAnyH_take (i := 3) (v := ?_) rfl (by kernel_rfl) (by kernel_rfl) (by kernel_rfl) (fun _ _ _ h => h) (Or.inl ⟨by rfl, ?_⟩) (by assumption) ?_
    rotate_left
    · (intro w hSw; (try dsimp only at hSw); go_simp; (try with_reducible rfl))
    (try simp only [Act.put, List.setIfInBounds_toArray, List.set_cons_zero, List.set_cons_succ])
    refine wpAnyH_take (i := 4) (v := ?_) rfl (by kernel_rfl) (by kernel_rfl) (by kernel_rfl) (fun _ _ _ h => h) (Or.inl ⟨by rfl, ?_⟩) (by assumption) ?_
    rotate_left
    · (intro w hSw; (try dsimp only at hSw); go_simp; (try with_reducible rfl))
    (try simp only [Act.put, List.setIfInBounds_toArray, List.set_cons_zero, List.set_cons_succ])
    refine wpAnyH_take (i := 5) (v := ?_) rfl (by kernel_rfl) (by kernel_rfl) (by kernel_rfl) (fun _ _ _ h => h) (Or.inl ⟨by rfl, ?_⟩) (by assumption) ?_
    rotate_left
    · (intro w hSw; (try dsimp only at hSw); go_simp; (try with_reducible rfl))
    (try simp only [Act.put, List.setIfInBounds_toArray, List.set_cons_zero, List.set_cons_succ])
    refine wpAnyH_ready (rs := [1]) (by kernel_rfl) (by simp) ?_
    refine AllReadyH.cons rfl (fun K hK => ?_) AllReadyH.nil
    go_simp
    refine (valuesFn_any a9 us.length cap9 Wd).mono ?_
    rintro e w6 ⟨rfl, hw6⟩
    have hb6 : Below Wd.heap.size Wd w6 := by rw [← hw6]; exact (by repeat (first | exact Below.refl _ _ | assumption | (refine Below.alloc ?_ ?_ _; rotate_left; · (first | omega | (simp; done) | (simp; omega) | fail)) | (refine Below.setCell ?_ ?_ _; rotate_left; · (first | omega | (simp; done) | (simp; omega) | fail)) | refine Below.drew ?_ | fail))
    have hx6 : w6.heap[Wd.heap.size]? = some (.cells #[.slice a9 us.length cap9] 134 (0, 0)) := by rw [← hw6]; exact (by repeat (first | exact heap_alloc_at _ _ _ (by (first | omega | (simp; done) | (simp; omega) | (simp at *; omega) | fail)) | assumption | rw [heap_alloc_past _ _ _ (by (first | omega | (simp; done) | (simp; omega) | (simp at *; omega) | fail))] | rw [heap_setCell_past _ _ _ _ (by (first | omega | (simp; done) | (simp; omega) | (simp at *; omega) | fail))] | fail))
    have HB6 := Lib.hid (HBD.out.trans (hb6.mono HBD.out.size))
    have HX6 := Lib.hid hx6
    have hz6 : Wd.heap.size ≤ w6.heap.size := hb6.size
    have n0 := blk_cell (blk_later HB6.out HL2.out) 0
    have s0 : w6.cell? ⟨V, 0, none⟩ = some (.int .i64 (M : Nat)) := by rw [← HM.out]; exact blk_cell (blk_later HB6.out HV0.out) 0
    clear hw6 hb6 hx6
    dsimp only
    go_simp
    refine hK.out _ _ ?_ (fun hNew => ?_)
    · (try dsimp only); go_keep
    clear hK K hHeld
    have hHeld := hNew
    clear hNew
    (try simp only [Act.put, List.setIfInBounds_toArray, List.set_cons_zero, List.set_cons_succ])
    refine wpAnyH_ready (rs := [6]) (by kernel_rfl) (by simp) ?_
    refine AllReadyH.cons rfl (fun K hK => ?_) AllReadyH.nil
    go_simp
    have hh : ∀ u ∈ us, ∀ (n : Nat), n < M → ∀ W', Below w6.heap.size w6 W' → Calls Tryz.prog 69 #[askV p u, .int .i64 n, .pointer (some ⟨V + 1, 0, none⟩)] W' fun e W'' => e = .returned (.bool (askB p u.1 i n)) ∧ Below W'.heap.size W' W'' := fun u hu n hn W' hb => by
      have hu1 : u ∈ ys := by rw [HUS.out] at hu; exact (List.mem_filter.1 hu).1
      have hu2 : u.1 ∈ waysW p b (makesW p) := by rw [← H.out.ways]; exact List.mem_map_of_mem hu1
      have hnum : (lvOf p u.1).length = M := by
        have h := (List.mem_filter.1 hu2).2
        unfold waysP at h
        have h2 : ((lvOf p u.1).length : Int) = b.leaves := by simpa using h
        rw [HM.out] at h2
        omega
      obtain ⟨g, hg⟩ := H.out.lv (wz u) (List.mem_map_of_mem hu1)
      have hbW : Below w.heap.size w W' := by
        have h0 := HH1.out.below
        exact h0.trans ((HB6.out.trans (hb.mono HB6.out.size)).mono h0.size)
      obtain ⟨x, hx⟩ : ∃ x, (lvOf p u.1)[i]? = some x := ⟨_, List.getElem?_eq_getElem (by omega)⟩
      obtain ⟨y, hy⟩ : ∃ y, (lvOf p u.1)[n]? = some y := ⟨_, List.getElem?_eq_getElem (by omega)⟩
      have hq := asks_any u.1 (fldsOf p u.1) (colsF (fdsB (fldsOf p u.1))) (rowsF (fdsB (fldsOf p u.1))) (pprOf p u.1) p.trim (.slice u.2.1 u.2.2.1 u.2.2.2) (lvOf p u.1) g i n (V + 1) x y W' (hg.later hbW) (by omega) hx hy (blk_later hb (blk_later HB6.out HV1.out))
      have e : askB p u.1 i n = (!decide (n = i) && (x.sheet == y.sheet)) := by unfold askB; rw [hx, hy]
      rw [e]
      exact hq
    refine (Sure_any us (askV p) (fun u n => askB p u.1 i n) M (V + 1) Wd.heap.size Wd.heap.size a9 cap9 w6 hM1 (by omega) hz6 (fun j v hj => by
      obtain ⟨g, h1, h2, h3⟩ := HCE.out j v hj
      have hbz := HBD.out.size
      exact ⟨g, h1, by omega, by rw [← h3]; exact World.cell?_of_block (HB6.out.block g h2)⟩) HX6.out hh).mono ?_
    rintro e w7 ⟨⟨av, mv, rfl, hia, him⟩, hb7⟩
    have HB7 := Lib.hid (HB6.out.trans (hb7.mono HB6.out.size))
    have e1 : ((List.range M).filter fun n => us.all fun u => askB p u.1 i n) = mustL p b i := by
      unfold mustL
      rw [← HAL.out, HM.out, Int.toNat_natCast]
      congr 1
      funext n
      rw [List.all_map]
      rfl
    have e2 : ((List.range M).filter fun n => us.any fun u => askB p u.1 i n) = mayL p b i := by
      unfold mayL
      rw [← HAL.out, HM.out, Int.toNat_natCast]
      congr 1
      funext n
      rw [List.any_map]
      rfl
    rw [e1] at hia
    rw [e2] at him
    have HIA := Lib.hid hia
    have HIM := Lib.hid him
    have n1 := blk_cell (blk_later HB7.out HL2.out) 0
    have s1 : w7.cell? ⟨V, 0, none⟩ = some (.int .i64 (M : Nat)) := by rw [← HM.out]; exact blk_cell (blk_later HB7.out HV0.out) 0
    clear hh hia him e1 e2 hb7 n0 s0
    dsimp only
    go_simp
    refine hK.out _ _ ?_ (fun hNew => ?_)
    · (try dsimp only); go_keep
    clear hK K hHeld
    have hHeld := hNew
    clear hNew
    (try simp only [Act.put, List.setIfInBounds_toArray, List.set_cons_zero, List.set_cons_succ])
    refine wpAnyH_take (i := 7) (v := ?_) rfl (by kernel_rfl) (by kernel_rfl) (by kernel_rfl) (fun _ _ _ h => h) (Or.inl ⟨by rfl, ?_⟩) (by assumption) ?_
    rotate_left
    · (intro w hSw; (try dsimp only at hSw); go_simp; (try with_reducible rfl))
    (try simp only [Act.put, List.setIfInBounds_toArray, List.set_cons_zero, List.set_cons_succ])
    refine wpAnyH_take (i := 8) (v := ?_) rfl (by kernel_rfl) (by kernel_rfl) (by kernel_rfl) (fun _ _ _ h => h) (Or.inl ⟨by rfl, ?_⟩) (by assumption) ?_
    rotate_left
    · (intro w hSw; (try dsimp only at hSw); go_simp; (try with_reducible rfl))
    (try simp only [Act.put, List.setIfInBounds_toArray, List.set_cons_zero, List.set_cons_succ])
    refine wpAnyH_take (i := 9) (v := ?_) rfl (by kernel_rfl) (by kernel_rfl) (by kernel_rfl) (fun _ _ _ h => h) (Or.inl ⟨by rfl, ?_⟩) (by assumption) ?_
    rotate_left
    · (intro w hSw; (try dsimp only at hSw); go_simp; (try with_reducible rfl))
    (try simp only [Act.put, List.setIfInBounds_toArray, List.set_cons_zero, List.set_cons_succ])
    refine wpAnyH_take (i := 10) (v := ?_) rfl (by kernel_rfl) (by kernel_rfl) (by kernel_rfl) (fun _ _ _ h => h) (Or.inl ⟨by rfl, ?_⟩) (by assumption) ?_
    rotate_left
    · (intro w hSw; (try dsimp only at hSw); go_simp; (try with_reducible rfl))
    (try simp only [Act.put, List.setIfInBounds_toArray, List.set_cons_zero, List.set_cons_succ])
    refine wpAnyH_take (i := 11) (v := ?_) rfl (by kernel_rfl) (by kernel_rfl) (by kernel_rfl) (fun _ _ _ h => h) (Or.inl ⟨by rfl, ?_⟩) (by assumption) ?_
    rotate_left
    · (intro w hSw; (try dsimp only at hSw); go_simp; (try with_reducible rfl))
    (try simp only [Act.put, List.setIfInBounds_toArray, List.set_cons_zero, List.set_cons_succ])
    refine wpAnyH_done (by kernel_rfl) ?_ _
    clear hHeld s1
    obtain ⟨UL, hUL⟩ : ∃ UL, UL = us.length := ⟨_, rfl⟩
    have hag : (agreeL p b != []) = decide (0 < UL) := by
      rw [← HAL.out, hUL]
      cases us <;> simp
    have HAG := Lib.hid hag
    rw [← hUL] at n1
    have HLD := HH1.out.below.size
    have hd7 : w7.heap[D]? = some (.deferred (some [])) := blk_later HB7.out HDF.out
    have HD7 := Lib.hid hd7
    have hDw : V ≤ D := by omega
    clear hUL hag hd7 HLD
    by_cases hz : UL = 0
    · subst hz
      gi_wp2_with fail
      refine wpIn_wide.2 (wp_normal ?_)
      go_quiet (fail)
      gi_wp2_with fail
      have hbl : Below w.heap.size w w7 := HH1.out.below.trans (HB7.out.mono HH1.out.below.size)
      refine leave_ret (blk_drewN HD7.out _) ⟨.tuple #[av, mv, .bool false], by simp [results, Tryz.results31, go_sem], ⟨av, mv, by rw [HAG.out]; rfl, ?_, ?_⟩, ?_⟩
      · exact ((HIA.out.later (bdrewN (Below.refl _ _) _)).put (blk_drewN HD7.out _) _)
      · exact ((HIM.out.later (bdrewN (Below.refl _ _) _)).put (blk_drewN HD7.out _) _)
      · exact ((⟨bdrewN hbl _, fun q hq => by cases hq⟩ : Held w [] (w7.drewN _)).put (.deferred none) (D := D) (by have := HV.out; omega) (fun q hq => by cases hq)).below
    · have hpos : (0 : Int) < (UL : Int) := by omega
      gi_wp2_with fail
      refine wpIn_wide.2 (wp_normal ?_)
      go_quiet (fail)
      gi_wp2_with fail
      have hbl : Below w.heap.size w w7 := HH1.out.below.trans (HB7.out.mono HH1.out.below.size)
      refine leave_ret (blk_drewN HD7.out _) ⟨.tuple #[av, mv, .bool true], by simp [results, Tryz.results31, go_sem]; omega, ⟨av, mv, by rw [HAG.out, decide_eq_true (by omega)], ?_, ?_⟩, ?_⟩
      · exact ((HIA.out.later (bdrewN (Below.refl _ _) _)).put (blk_drewN HD7.out _) _)
      · exact ((HIM.out.later (bdrewN (Below.refl _ _) _)).put (blk_drewN HD7.out _) _)
      · exact ((⟨bdrewN hbl _, fun q hq => by cases hq⟩ : Held w [] (w7.drewN _)).put (.deferred none) (D := D) (by have := HV.out; omega) (fun q hq => by cases hq)).below
end Go.Proofs.YtnhacghjoikgpaaGreatDoor

/- The leaves that must, and that may, be of the sheet of one: Together. -/
namespace Go.Proofs.YtnhacghjoikgpaaGreatDoor
set_option linter.unusedSimpArgs false
set_option linter.unusedVariables false
open Go Go.RowKit Go.Sort Go.BigFrame
attribute [local go_sem] Oper.semAt_some putAll

theorem wz_fst2 (ys : List Wz) : (ys.map wz).map (·.1) = ys.map (·.1) := by rw [List.map_map]; rfl
set_option maxRecDepth 100000 in
set_option maxHeartbeats 8000000 in
theorem Together_good (p : Prs) (b : Bok) (leaf : Int) (vp mv : Value) (w : World) (hp : PrsAt w.heap.size w vp p) (hb : RowsAt 2 mrkV w.heap.size w mv b.marks) (he : (checkK p b).2.2 = 0) :
    Calls Tryz.prog 11 #[vp, .agg #[.int .i64 b.leaves, .int .i64 b.chain, .int .i64 b.wlo, .int .i64 b.whi, .int .i64 b.hlo, .int .i64 b.hhi, mv], .int .i64 leaf] w fun e w' =>
      ((inI 0 (b.leaves - 1) leaf = false ∧ e = .returned (.tuple #[.slice none 0 0, .slice none 0 0, .int .i64 4])) ∨
        (inI 0 (b.leaves - 1) leaf = true ∧ agreeL p b = [] ∧ e = .returned (.tuple #[.slice none 0 0, .slice none 0 0, .int .i64 8])) ∨
        (inI 0 (b.leaves - 1) leaf = true ∧ agreeL p b ≠ [] ∧ ∃ av nv, e = .returned (.tuple #[av, nv, .int .i64 0]) ∧ IntsAt w' av ((mustL p b leaf.toNat).map fun (n : Nat) => (n : Int)) ∧ IntsAt w' nv ((mayL p b leaf.toNat).map fun (n : Nat) => (n : Int)))) ∧ Below w.heap.size w w' := by
  obtain ⟨hee, ⟨hbl1, hbl2⟩, hm8, -⟩ := fine_bok he
  have hlenM : (waysW p b (makesW p)).length ≤ 192 := by
    obtain ⟨-, ⟨f3, f4⟩, ⟨f5, f6⟩, -⟩ := fine_press hee
    obtain ⟨⟨f1, f2⟩, -⟩ := fine_press hee
    have h1 := mkA_len p p.fmts.length (by omega) (by omega)
    have h2 : (waysW p b (makesW p)).length ≤ (makesW p).length := List.length_filter_le _ _
    unfold makesW at h2 ⊢
    omega
  have HOC := Lib.hid (fun W (h1 : PrsAt W.heap.size W vp p) (h2 : RowsAt 2 mrkV W.heap.size W mv b.marks) => openCase_any p b vp mv W h1 h2 he)
  have HP := Lib.hid hp
  have HM := Lib.hid hb
  have HEK := Lib.hid he
  have HLM := Lib.hid hlenM
  obtain ⟨fv, pv, rfl, ⟨fa, fcap, rfl, -⟩, ⟨pa, pcap, rfl, -⟩, -⟩ := hp
  obtain ⟨ma, mcap, rfl, -⟩ := hb
  obtain ⟨n1, hn1⟩ : ∃ n, n = p.fmts.length := ⟨_, rfl⟩
  obtain ⟨n2, hn2⟩ : ∃ n, n = p.pprs.length := ⟨_, rfl⟩
  obtain ⟨n3, hn3⟩ : ∃ n, n = b.marks.length := ⟨_, rfl⟩
  have HN3 := Lib.hid hn3
  rw [← hn1, ← hn2] at HP HOC ⊢
  rw [← hn3] at HM HOC hm8 ⊢
  clear he hee hlenM hn1 hn2 hn3
  go_enter Tryz.func11, Tryz.ntmps11
  go_wp2_with fail
  have hb0 : Below w.heap.size w ((w.alloc (.cells #[.slice fa n1 fcap, .slice pa n2 pcap, .int .i64 p.trim, .int .i64 p.sheets] 25)).alloc (.cells #[.int .i64 b.leaves, .int .i64 b.chain, .int .i64 b.wlo, .int .i64 b.whi, .int .i64 b.hlo, .int .i64 b.hhi, .slice ma n3 mcap] 30)) := by exact (by repeat (first | exact Below.refl _ _ | assumption | (refine Below.alloc ?_ ?_ _; rotate_left; · (first | omega | (simp; done) | (simp; omega) | fail)) | (refine Below.setCell ?_ ?_ _; rotate_left; · (first | omega | (simp; done) | (simp; omega) | fail)) | refine Below.drew ?_ | fail))
  have hx0 : ((w.alloc (.cells #[.slice fa n1 fcap, .slice pa n2 pcap, .int .i64 p.trim, .int .i64 p.sheets] 25)).alloc (.cells #[.int .i64 b.leaves, .int .i64 b.chain, .int .i64 b.wlo, .int .i64 b.whi, .int .i64 b.hlo, .int .i64 b.hhi, .slice ma n3 mcap] 30)).heap[w.heap.size + 1]? = some (.cells #[.int .i64 b.leaves, .int .i64 b.chain, .int .i64 b.wlo, .int .i64 b.whi, .int .i64 b.hlo, .int .i64 b.hhi, .slice ma n3 mcap] 30 (0, 0)) := by exact (by repeat (first | exact heap_alloc_at _ _ _ (by (first | omega | (simp; done) | (simp; omega) | (simp at *; omega) | fail)) | assumption | rw [heap_alloc_past _ _ _ (by (first | omega | (simp; done) | (simp; omega) | (simp at *; omega) | fail))] | rw [heap_setCell_past _ _ _ _ (by (first | omega | (simp; done) | (simp; omega) | (simp at *; omega) | fail))] | fail))
  revert hb0 hx0
  generalize ((w.alloc (.cells #[.slice fa n1 fcap, .slice pa n2 pcap, .int .i64 p.trim, .int .i64 p.sheets] 25)).alloc (.cells #[.int .i64 b.leaves, .int .i64 b.chain, .int .i64 b.wlo, .int .i64 b.whi, .int .i64 b.hlo, .int .i64 b.hhi, .slice ma n3 mcap] 30)) = w0
  intro hb0 hx0
  refine (HOC.out _ (HP.out.later hb0) (HM.out.later hb0)).mono ?_
  rintro e w1 ⟨⟨wv, rfl, hwy⟩, hb1⟩
  have hb2 := hb0.trans (hb1.mono hb0.size)
  obtain ⟨zs, hz1, hz2, hz3⟩ := hwy
  obtain ⟨ys, rfl⟩ := wz_all zs (fun z hz => by
    obtain ⟨g, ⟨k, rest, e, -⟩, -⟩ := hz3 z hz
    exact ⟨_, _, _, e⟩)
  have hzl : (waysW p b (makesW p)).length = ys.length := by rw [← hz1]; simp
  obtain ⟨va, vc, rfl⟩ : ∃ a c, wv = Value.slice a ys.length c := by
    rcases hz2.2 with ⟨rfl, h0⟩ | ⟨g, cap, cur, rfl, -⟩
    · exact ⟨_, _, by rw [← hzl, h0]⟩
    · exact ⟨_, _, by rw [← hzl]⟩
  have hsn : SnAt w1 p b (.slice ma n3 mcap) (.slice va ys.length vc) ys := ⟨by rw [← wz_fst2]; exact hz1, by rw [← hzl]; exact row_mono (by rw [← hzl] at hz2; exact hz2) (Nat.zero_le _), fun z hz => by
      obtain ⟨g, hl, -⟩ := hz3 z hz
      exact ⟨g, hl⟩, HM.out.later hb2, by have := HLM.out; omega⟩
  have HSN := Lib.hid hsn
  have HB2 := Lib.hid hb2
  have hx1 := blk_later hb1 hx0
  have HX1 := Lib.hid hx1
  have c0 := blk_cell hx1 0
  have hs1 := hb2.size
  have hlw1 := blk_lt hx1
  obtain ⟨vn, hvn⟩ : ∃ n, n = ys.length := ⟨_, rfl⟩
  rw [← hvn] at HSN ⊢
  clear hz1 hz2 hz3 hb0 hb1 hb2 HOC hsn hzl hvn hx0 hx1 HLM
  have hw1 : w.heap.size + 1 < w1.heap.size := hlw1
  go_wp2_with fail
  obtain ⟨w2, hw2⟩ : ∃ w2, w2 = (w1.alloc (.cells #[.int .i64 b.leaves, .int .i64 b.chain, .int .i64 b.wlo, .int .i64 b.whi, .int .i64 b.hlo, .int .i64 b.hhi, .slice ma n3 mcap, .slice va vn vc] 72)).alloc (.cells #[.int .i64 leaf] 3) := ⟨_, rfl⟩
  have hb3 : Below w1.heap.size w1 w2 := by rw [hw2]; exact (by repeat (first | exact Below.refl _ _ | assumption | (refine Below.alloc ?_ ?_ _; rotate_left; · (first | omega | (simp; done) | (simp; omega) | fail)) | (refine Below.setCell ?_ ?_ _; rotate_left; · (first | omega | (simp; done) | (simp; omega) | fail)) | refine Below.drew ?_ | fail))
  have hx2 : w2.heap[w1.heap.size]? = some (.cells #[.int .i64 b.leaves, .int .i64 b.chain, .int .i64 b.wlo, .int .i64 b.whi, .int .i64 b.hlo, .int .i64 b.hhi, .slice ma n3 mcap, .slice va vn vc] 72 (0, 0)) := by rw [hw2]; exact (by repeat (first | exact heap_alloc_at _ _ _ (by (first | omega | (simp; done) | (simp; omega) | (simp at *; omega) | fail)) | assumption | rw [heap_alloc_past _ _ _ (by (first | omega | (simp; done) | (simp; omega) | (simp at *; omega) | fail))] | rw [heap_setCell_past _ _ _ _ (by (first | omega | (simp; done) | (simp; omega) | (simp at *; omega) | fail))] | fail))
  have hx3 : w2.heap[w1.heap.size + 1]? = some (.cells #[.int .i64 leaf] 3 (0, 0)) := by rw [hw2]; exact (by repeat (first | exact heap_alloc_at _ _ _ (by (first | omega | (simp; done) | (simp; omega) | (simp at *; omega) | fail)) | assumption | rw [heap_alloc_past _ _ _ (by (first | omega | (simp; done) | (simp; omega) | (simp at *; omega) | fail))] | rw [heap_setCell_past _ _ _ _ (by (first | omega | (simp; done) | (simp; omega) | (simp at *; omega) | fail))] | fail))
  rw [← hw2]
  have HB3 := Lib.hid (HB2.out.trans (hb3.mono HB2.out.size))
  have HSN2 := Lib.hid (HSN.out.later hb3)
  have HX2 := Lib.hid hx2
  refine (within_one 0 (b.leaves - 1) leaf _ w2 (blk_cell hx3 0)).mono ?_
  rintro e w3 ⟨rfl, rfl⟩
  obtain ⟨z, hz⟩ : ∃ z, z = inB 0 (b.leaves - 1) leaf := ⟨_, rfl⟩
  rw [← hz]
  have HZ : Hid (inI 0 (b.leaves - 1) leaf = z) := Lib.hid hz.symm
  have hs3 := HB3.out.size
  clear c0 hw2 hb3 hx2 hx3 hz HSN hlw1 hw1 HX1
  cases z with
  | false =>
    go_wp2_with fail
    go_ret3
    exact ⟨Or.inl ⟨HZ.out, rfl⟩, HB3.out⟩
  | true =>
    have hle : 0 ≤ leaf ∧ leaf ≤ b.leaves - 1 := by
      have h := HZ.out
      unfold inI at h
      simpa [Bool.and_eq_true] using h
    obtain ⟨i, hi⟩ : ∃ i : Nat, leaf = (i : Int) := ⟨leaf.toNat, by omega⟩
    subst hi
    have hib : i < b.leaves.toNat := by omega
    have c0 := blk_cell (HX2.out) 0
    have c1 := blk_cell (HX2.out) 1
    have c2 := blk_cell (HX2.out) 2
    have c3 := blk_cell (HX2.out) 3
    have c4 := blk_cell (HX2.out) 4
    have c5 := blk_cell (HX2.out) 5
    have c6 := blk_cell (HX2.out) 6
    have c7 := blk_cell (HX2.out) 7
    go_wp2_with fail
    refine (seenTogether_any p b ma n3 mcap va vn vc ys i w2 HSN2.out HEK.out HN3.out hib).mono ?_
    rintro e w4 ⟨⟨av, nv, rfl, hia, him⟩, hb4⟩
    have HIA := Lib.hid hia
    have HIM := Lib.hid him
    have HB4 := Lib.hid (HB3.out.trans (hb4.mono HB3.out.size))
    obtain ⟨q, hq⟩ : ∃ q, q = (agreeL p b != []) := ⟨_, rfl⟩
    rw [← hq]
    have HQ := Lib.hid hq
    have hs4 := HB4.out.size
    clear hia him hb4 hq c0 c1 c2 c3 c4 c5 c6 c7 hs3
    cases q with
    | false =>
      go_wp2_with fail
      go_ret3
      exact ⟨Or.inr (Or.inl ⟨HZ.out, by simpa using HQ.out.symm, rfl⟩), HB4.out⟩
    | true =>
      go_wp2_with fail
      go_ret3
      exact ⟨Or.inr (Or.inr ⟨HZ.out, by simpa using HQ.out.symm, av, nv, rfl, HIA.out, HIM.out⟩), HB4.out⟩
set_option maxRecDepth 100000 in
set_option maxHeartbeats 4000000 in
theorem Together_bad (p : Prs) (b : Bok) (leaf : Int) (vp mv : Value) (w : World) (hp : PrsAt w.heap.size w vp p) (hb : RowsAt 2 mrkV w.heap.size w mv b.marks) (he : (checkK p b).2.2 ≠ 0) :
    Calls Tryz.prog 11 #[vp, .agg #[.int .i64 b.leaves, .int .i64 b.chain, .int .i64 b.wlo, .int .i64 b.whi, .int .i64 b.hlo, .int .i64 b.hhi, mv], .int .i64 leaf] w fun e w' => e = .returned (.tuple #[.slice none 0 0, .slice none 0 0, .int .i64 (checkK p b).2.2]) ∧ Below w.heap.size w w' := by
  have HOC := Lib.hid (fun W (h1 : PrsAt W.heap.size W vp p) (h2 : RowsAt 2 mrkV W.heap.size W mv b.marks) => openCase_bad p b vp mv W h1 h2 he)
  have HP := Lib.hid hp
  have HM := Lib.hid hb
  obtain ⟨ek, hek⟩ : ∃ e, e = (checkK p b).2.2 := ⟨_, rfl⟩
  rw [← hek] at he HOC ⊢
  have hne : (ek != 0) = true := by simp [he]
  obtain ⟨fv, pv, rfl, ⟨fa, fcap, rfl, -⟩, ⟨pa, pcap, rfl, -⟩, -⟩ := hp
  obtain ⟨ma, mcap, rfl, -⟩ := hb
  obtain ⟨n1, hn1⟩ : ∃ n, n = p.fmts.length := ⟨_, rfl⟩
  obtain ⟨n2, hn2⟩ : ∃ n, n = p.pprs.length := ⟨_, rfl⟩
  obtain ⟨n3, hn3⟩ : ∃ n, n = b.marks.length := ⟨_, rfl⟩
  rw [← hn1, ← hn2] at HP HOC ⊢
  rw [← hn3] at HM HOC ⊢
  clear he hek hn1 hn2 hn3
  go_enter Tryz.func11, Tryz.ntmps11
  go_wp2_with fail
  have hb0 : Below w.heap.size w ((w.alloc (.cells #[.slice fa n1 fcap, .slice pa n2 pcap, .int .i64 p.trim, .int .i64 p.sheets] 25)).alloc (.cells #[.int .i64 b.leaves, .int .i64 b.chain, .int .i64 b.wlo, .int .i64 b.whi, .int .i64 b.hlo, .int .i64 b.hhi, .slice ma n3 mcap] 30)) := by exact (by repeat (first | exact Below.refl _ _ | assumption | (refine Below.alloc ?_ ?_ _; rotate_left; · (first | omega | (simp; done) | (simp; omega) | fail)) | (refine Below.setCell ?_ ?_ _; rotate_left; · (first | omega | (simp; done) | (simp; omega) | fail)) | refine Below.drew ?_ | fail))
  revert hb0
  generalize ((w.alloc (.cells #[.slice fa n1 fcap, .slice pa n2 pcap, .int .i64 p.trim, .int .i64 p.sheets] 25)).alloc (.cells #[.int .i64 b.leaves, .int .i64 b.chain, .int .i64 b.wlo, .int .i64 b.whi, .int .i64 b.hlo, .int .i64 b.hhi, .slice ma n3 mcap] 30)) = w0
  intro hb0
  refine (HOC.out _ (HP.out.later hb0) (HM.out.later hb0)).mono ?_
  rintro e w1 ⟨rfl, hb1⟩
  have hb2 := hb0.trans (hb1.mono hb0.size)
  have hs1 := hb2.size
  clear hb0 hb1 HOC
  go_wp2_with fail
  go_ret3
  exact ⟨rfl, by exact (by repeat (first | (refine Below.setCell ?_ ?_ _; rotate_left; · (first | omega | (simp; done) | (simp; omega) | fail)) | (refine Below.alloc ?_ ?_ _; rotate_left; · (first | omega | (simp; done) | (simp; omega) | fail)) | refine Below.drew ?_ | exact hb2 | fail))⟩
end Go.Proofs.YtnhacghjoikgpaaGreatDoor

/- Rows that a call owns, as rows; the law's good, and whether a list has a way of making. -/
namespace Go.Proofs.YtnhacghjoikgpaaGreatDoor
set_option linter.unusedSimpArgs false
set_option linter.unusedVariables false
open Go Go.RowKit Go.Sort Go.BigFrame

theorem flat_atg {α : Type} {n : Nat} {enc : α → List Value} (hlen : ∀ x, (enc x).length = n) : ∀ (xs : List α) (i : Nat) (x : α), xs[i]? = some x → ∀ c, c < n → (xs.flatMap enc)[i * n + c]? = (enc x)[c]?
  | [], _, _, h, _, _ => by simp at h
  | y :: ys, 0, x, h, c, hc => by
    obtain rfl : y = x := by simpa using h
    rw [List.flatMap_cons, Nat.zero_mul, Nat.zero_add, List.getElem?_append_left (by rw [hlen]; exact hc)]
  | y :: ys, i + 1, x, h, c, hc => by
    rw [List.flatMap_cons, List.getElem?_append_right (by rw [hlen, Nat.succ_mul]; omega), hlen]
    have := flat_atg hlen ys i x (by simpa using h) c hc
    rw [← this]
    congr 1
    rw [Nat.succ_mul]
    omega
/-- A row that the call owns, as a row. -/
theorem rows_of_own {α : Type} {n : Nat} {enc : α → List Value} (hlen : ∀ x, (enc x).length = n) {W : World} {base : Nat} {v : Value} {e : TypeId} {xs : List α} (h : W.ownsRow base e n v xs.length (xs.flatMap enc)) : RowsAt n enc W.heap.size W v xs := by
  rcases h.2 with ⟨rfl, h0⟩ | ⟨g, cap, cur, rfl, hb, hg, rest⟩
  · exact ⟨none, 0, by rw [h0], fun hne => absurd (List.length_eq_zero_iff.1 h0) hne⟩
  · refine ⟨_, cap, rfl, fun _ => ⟨g, 0, rfl, blk_lt hg, fun i x hx j u hju => ?_⟩⟩
    have hc := h.cells (g := g) (by simp [Value.ownBlock])
    have hj : j < n := by rw [← hlen x]; exact (List.getElem?_eq_some_iff.1 hju).1
    have := hc (i * n + j) u (by rw [flat_atg hlen xs i x hx j hj]; exact hju)
    rw [add_offi] at this
    rw [Nat.zero_add]
    exact this

theorem row_formH {W : World} {base : Nat} {v : Value} {e : TypeId} {s n : Nat} {xs : List Value} (h : W.ownsRow base e s v n xs) (hn : 0 < n) : ∃ g cap, v = .slice (some ⟨g, 0, none⟩) n cap ∧ base ≤ g ∧ g < W.heap.size ∧ n ≤ cap ∧ cap ≤ maxLen := by
  rcases h.2 with ⟨-, h0⟩ | ⟨g, cap, cur, rfl, hb, hg, h1, h2, -⟩
  · omega
  · exact ⟨g, cap, rfl, hb, (Array.getElem?_eq_some_iff.1 hg).1, h1, h2⟩
set_option maxRecDepth 100000 in
set_option maxHeartbeats 1000000 in
theorem good2_any (p : Prs) (b : Bok) (vp vb : Value) (w : World) (hp : PrsAt w.heap.size w vp p) (hb : BokAt w.heap.size w vb b) :
    Calls Tryz.prog 22 #[vp, vb] w fun e w' => e = .returned (.bool ((checkK p b).2.2 == 0)) ∧ Below w.heap.size w w' := by
  have HP := Lib.hid hp
  have HK := Lib.hid hb
  obtain ⟨fv, pv, rfl, ⟨a, cap, rfl, -⟩, ⟨a2, cap2, rfl, -⟩, -⟩ := hp
  obtain ⟨mv, rfl, ⟨a3, cap3, rfl, -⟩⟩ := hb
  obtain ⟨n1, hn1⟩ : ∃ n, n = p.fmts.length := ⟨_, rfl⟩
  obtain ⟨n2, hn2⟩ : ∃ n, n = p.pprs.length := ⟨_, rfl⟩
  obtain ⟨n3, hn3⟩ : ∃ n, n = b.marks.length := ⟨_, rfl⟩
  rw [← hn1, ← hn2] at HP ⊢
  rw [← hn3] at HK ⊢
  clear hn1 hn2 hn3
  obtain ⟨z, hz⟩ : ∃ z, z = (checkK p b).2.2 := ⟨_, rfl⟩
  rw [← hz]
  have HZ := Lib.hid hz
  clear hz
  go_enter Tryz.func22, Tryz.ntmps22
  go_wp2_with fail
  have hp0 : Below w.heap.size w ((w.alloc (.cells #[.slice a n1 cap, .slice a2 n2 cap2, .int .i64 p.trim, .int .i64 p.sheets] 25)).alloc (.cells #[.int .i64 b.leaves, .int .i64 b.chain, .int .i64 b.wlo, .int .i64 b.whi, .int .i64 b.hlo, .int .i64 b.hhi, .slice a3 n3 cap3] 30)) := by exact (by repeat (first | exact Below.refl _ _ | assumption | (refine Below.alloc ?_ ?_ _; rotate_left; · (first | omega | (simp; done) | (simp; omega) | fail)) | (refine Below.setCell ?_ ?_ _; rotate_left; · (first | omega | (simp; done) | (simp; omega) | fail)) | refine Below.drew ?_ | fail))
  refine (refCheckBook2_any p b _ _ _ (HP.out.later hp0) (HK.out.later hp0)).mono ?_
  rintro e w2 ⟨rfl, hb⟩
  rw [show (checkK p b).2.2 = z from HZ.out.symm]
  have hb2 := hp0.trans (hb.mono hp0.size)
  clear hb hp0
  go_wp2_with fail
  go_ret
  exact ⟨rfl, hb2⟩
/-- The ways of making of a row. -/
theorem mk_cells {W : World} {B : Nat} {v : Value} {a : Option Addr} {n cap : Nat} {ms : List Mkw} {i : Nat} {m : Mkw} (h : RowsAt 4 mkC B W v ms) (hv : v = .slice a n cap) (hm : ms[i]? = some m) : ∃ g off, a = some ⟨g, off, none⟩ ∧
    W.cell? ⟨g, off + i * 4, none⟩ = some (.int .i64 m.fmt) ∧ W.cell? ⟨g, off + i * 4 + 1, none⟩ = some (.int .i64 m.ppr) ∧ W.cell? ⟨g, off + i * 4 + 2, none⟩ = some (.int .i64 m.sheets) ∧ W.cell? ⟨g, off + i * 4 + 3, none⟩ = some (.bool m.half) := by
  subst hv
  obtain ⟨a', cap', e, h⟩ := h
  cases e
  obtain ⟨g, off, rfl, -, hc⟩ := h (fun e => by rw [e] at hm; cases hm)
  exact ⟨g, off, rfl, by simpa using hc i m hm 0 _ rfl, by simpa using hc i m hm 1 _ rfl, by simpa using hc i m hm 2 _ rfl, by simpa using hc i m hm 3 _ rfl⟩
set_option maxRecDepth 100000 in
set_option maxHeartbeats 4000000 in
theorem one_any (ms : List Mkw) (v : Value) (m : Mkw) (B : Nat) (w : World) (hv : RowsAt 4 mkC B w v ms) (hB : B ≤ w.heap.size) (hl : ms.length ≤ 1000) :
    Calls Tryz.prog 20 #[v, mkwV m] w fun e w' => e = .returned (.bool (decide (m ∈ ms))) ∧ Below w.heap.size w w' := by
  have HV := Lib.hid hv
  obtain ⟨a, cap, rfl, -⟩ := hv
  obtain ⟨n, hn⟩ : ∃ n, n = ms.length := ⟨_, rfl⟩
  have HN := Lib.hid hn
  rw [← hn] at HV hl ⊢
  clear hn
  go_enter Tryz.func20, Tryz.ntmps20
  go_wp2_with fail
  obtain ⟨w1, hw1⟩ : ∃ w1, w1 = w.alloc (.cells #[.int .i64 m.fmt, .int .i64 m.ppr, .int .i64 m.sheets, .bool m.half] 50) := ⟨_, rfl⟩
  have hb1 : Below w.heap.size w w1 := by rw [hw1]; exact (by repeat (first | exact Below.refl _ _ | assumption | (refine Below.alloc ?_ ?_ _; rotate_left; · (first | omega | (simp; done) | (simp; omega) | fail)) | (refine Below.setCell ?_ ?_ _; rotate_left; · (first | omega | (simp; done) | (simp; omega) | fail)) | refine Below.drew ?_ | fail))
  have hx1 : w1.heap[w.heap.size]? = some (.cells #[.int .i64 m.fmt, .int .i64 m.ppr, .int .i64 m.sheets, .bool m.half] 50 (0, 0)) := by rw [hw1]; exact (by repeat (first | exact heap_alloc_at _ _ _ (by (first | omega | (simp; done) | (simp; omega) | (simp at *; omega) | fail)) | assumption | rw [heap_alloc_past _ _ _ (by (first | omega | (simp; done) | (simp; omega) | (simp at *; omega) | fail))] | rw [heap_setCell_past _ _ _ _ (by (first | omega | (simp; done) | (simp; omega) | (simp at *; omega) | fail))] | fail))
  rw [← hw1]
  have HB1 := Lib.hid hb1
  have HX1 := Lib.hid hx1
  clear hw1 hb1 hx1
  go_loopw [5] (fun q wr => ∃ (k : Nat), k ≤ n ∧ q = .int .i64 k ∧ Hid (m ∉ ms.take k) ∧ Hid (Below w1.heap.size w1 wr)) (fun q _ => n - (intOf q).toNat)
  case atStart => exact ⟨0, by omega, rfl, (by show m ∉ _; simp), Lib.hid (Below.refl _ _)⟩
  case round =>
    obtain ⟨k, hk, rfl, hT, HB⟩ := hrel
    have HBB := Lib.hid (HB1.out.trans (HB.out.mono HB1.out.size))
    by_cases hlt : k < n
    · obtain ⟨x, hx⟩ : ∃ x, ms[k]? = some x := ⟨_, List.getElem?_eq_getElem (by have := HN.out; omega)⟩
      obtain ⟨g, off, rfl, q0, q1, q2, q3⟩ := mk_cells (HV.out.same (w' := wr) (fun j hj => HBB.out.block j (by omega))) rfl hx
      have d0 := blk_cell (blk_later HB.out HX1.out) 0
      have d1 := blk_cell (blk_later HB.out HX1.out) 1
      have d2 := blk_cell (blk_later HB.out HX1.out) 2
      have d3 := blk_cell (blk_later HB.out HX1.out) 3
      have HX := Lib.hid hx
      clear hx
      have hcases : (¬ x.fmt = m.fmt) ∨ (x.fmt = m.fmt ∧ ((¬ x.ppr = m.ppr) ∨ (x.ppr = m.ppr ∧ ((¬ x.sheets = m.sheets) ∨ (x.sheets = m.sheets ∧ ((¬ x.half = m.half) ∨ x.half = m.half)))))) := by
        by_cases h1 : x.fmt = m.fmt
        · by_cases h2 : x.ppr = m.ppr
          · by_cases h3 : x.sheets = m.sheets
            · by_cases h4 : x.half = m.half
              · exact Or.inr ⟨h1, Or.inr ⟨h2, Or.inr ⟨h3, Or.inr h4⟩⟩⟩
              · exact Or.inr ⟨h1, Or.inr ⟨h2, Or.inr ⟨h3, Or.inl h4⟩⟩⟩
            · exact Or.inr ⟨h1, Or.inr ⟨h2, Or.inl h3⟩⟩
          · exact Or.inr ⟨h1, Or.inl h2⟩
        · exact Or.inl h1
      have HT3 := Lib.hid (fun (hne : ¬ x = m) => (by
        intro hmem
        rw [List.take_add_one, HX.out] at hmem
        simp only [Option.toList_some, List.mem_append, List.mem_singleton] at hmem
        rcases hmem with hmem | hmem
        · exact hT.out hmem
        · exact hne hmem.symm : m ∉ ms.take (k + 1)))
      obtain ⟨xa, xb, xc, xd⟩ := x
      obtain ⟨ma, mb, mc, md⟩ := m
      dsimp only at hcases q0 q1 q2 q3 d0 d1 d2 d3 ⊢
      clear hT
      rcases hcases with h1 | ⟨rfl, h1 | ⟨rfl, h1 | ⟨rfl, h1 | h1⟩⟩⟩
      · have hT2 := Lib.hid (HT3.out (fun e => h1 (by cases e; rfl)))
        clear HT3
        go_wp2_with fail
        go_quiet (fail)
        go_wp2_with fail
        go_roundw
        case rel => exact ⟨k + 1, by omega, by go_num, hT2, Lib.hid (bdrewN HB.out _)⟩
        case measure => simp [intOf]; omega
      · have hT2 := Lib.hid (HT3.out (fun e => h1 (by cases e; rfl)))
        clear HT3
        go_wp2_with fail
        go_quiet (fail)
        go_wp2_with fail
        go_roundw
        case rel => exact ⟨k + 1, by omega, by go_num, hT2, Lib.hid (bdrewN HB.out _)⟩
        case measure => simp [intOf]; omega
      · have hT2 := Lib.hid (HT3.out (fun e => h1 (by cases e; rfl)))
        clear HT3
        go_wp2_with fail
        go_quiet (fail)
        go_wp2_with fail
        go_roundw
        case rel => exact ⟨k + 1, by omega, by go_num, hT2, Lib.hid (bdrewN HB.out _)⟩
        case measure => simp [intOf]; omega
      · have hT2 := Lib.hid (HT3.out (fun e => h1 (by cases e; rfl)))
        clear HT3
        cases xd <;> cases md <;> first | exact absurd rfl h1 | skip
        · go_wp2_with fail
          go_quiet (fail)
          go_wp2_with fail
          go_roundw
          case rel => exact ⟨k + 1, by omega, by go_num, hT2, Lib.hid (bdrewN HB.out _)⟩
          case measure => simp [intOf]; omega
        · go_wp2_with fail
          go_quiet (fail)
          go_wp2_with fail
          go_roundw
          case rel => exact ⟨k + 1, by omega, by go_num, hT2, Lib.hid (bdrewN HB.out _)⟩
          case measure => simp [intOf]; omega
      · subst h1
        have HD : Hid (decide ((⟨xa, xb, xc, xd⟩ : Mkw) ∈ ms) = true) := Lib.hid (decide_eq_true (List.mem_of_getElem? HX.out))
        clear HT3
        go_wp2_with fail
        go_quiet (fail)
        go_wp2_with fail
        go_ret
        exact ⟨by rw [HD.out]; rfl, bdrewN HBB.out _⟩
    · have HD : Hid (decide (m ∈ ms) = false) := Lib.hid (decide_eq_false (by
        have h := hT.out
        rwa [List.take_of_length_le (by have := HN.out; omega)] at h))
      clear hT
      go_wp2_with fail
      go_ret
      exact ⟨by rw [HD.out]; rfl, HBB.out⟩
end Go.Proofs.YtnhacghjoikgpaaGreatDoor

/- A row that is appended to an empty one. -/
namespace Go.Proofs.YtnhacghjoikgpaaGreatDoor
set_option linter.unusedSimpArgs false
set_option linter.unusedVariables false
open Go Go.RowKit Go.Sort Go.BigFrame

theorem elemMrk : ∃ i, Tryz.prog.info? 58 = some i ∧ i.zero = some (.agg #[.int .i64 0, .bool false]) ∧ i.size = 2 ∧ i.bytes = 16 := elemOf (by kernel_rfl)
theorem undMrks : Tryz.prog.underlying 28 = some (.slice 58) := by kernel_rfl
theorem run_append_zero {P : Program} (t ty e : TypeId) (i : TypeInfo) (ht : P.underlying t = some (.slice e)) (hi : P.info? e = some i) (g c : Nat) (a : Option Addr) (w : World) :
    (Builtin.append_ #[t, t] ty #[.slice (some ⟨g, 0, none⟩) 0 0, .slice a 0 c]).run P w = .ok (.slice (some ⟨g, 0, none⟩) 0 0) w := by
  cases a <;> simp [Builtin.append_, run_underlying ht, sizeOf, typeInfo, hi, Builtin.lenOf, Builtin.firstCells, loadCells, loadCellsFrom, storeCells]
theorem flat_lenR {α : Type} {n : Nat} {enc : α → List Value} (hlen : ∀ x, (enc x).length = n) : ∀ xs : List α, (xs.flatMap enc).length = xs.length * n
  | [] => by simp
  | x :: xs => by
    rw [List.flatMap_cons, List.length_append, hlen, flat_lenR hlen xs, List.length_cons, Nat.succ_mul]
    omega
/-- Rows that are appended to an empty row of the call's own. -/
theorem run_append_rows {P : Program} {α : Type} {enc : α → List Value} (w : World) (base : Nat) (t ty e : TypeId) (i : TypeInfo) (z : Value) (size bytes : Nat) (ht : P.underlying t = some (.slice e)) (hi : P.info? e = some i) (hz : i.zero = some z)
    (hsize : i.size = size) (hby : i.bytes = bytes) (hzs : z.cells.size = size) (hsz : 0 < size) (g : Nat) (hown : w.ownsRow base e size (.slice (some ⟨g, 0, none⟩) 0 0) 0 [])
    (hlen : ∀ x, (enc x).length = size) (h1c : ∀ x, ∀ u ∈ enc x, u.oneCell' = true) {B : Nat} {s : Value} {ys : List α} (hs : RowsAt size enc B w s ys) (h63 : ys.length ≤ maxLen) (hbytes : ys.length * bytes ≤ 140737488355328) (hbase : base ≤ w.heap.size) :
    ∃ v' w', (Builtin.append_ #[t, t] ty #[.slice (some ⟨g, 0, none⟩) 0 0, s]).run P w = .ok v' w' ∧ w'.ownsRow base e size v' ys.length (ys.flatMap enc) ∧ w.grownBy w' (some g) := by
  obtain ⟨a, cap, rfl, hc⟩ := hs
  by_cases hy : ys = []
  · subst hy
    exact ⟨_, w, run_append_zero t ty e i ht hi g cap a w, hown, ⟨rfl, rfl, rfl, Nat.le_refl _, fun _ _ _ => rfl⟩⟩
  · obtain ⟨b, off, rfl, hb, hc⟩ := hc hy
    have hfl := flat_lenR hlen ys
    obtain ⟨v', w', hr, h2, h3, -⟩ := run_append_own (P := P) w base t ty e i z size bytes ht hi hz hsize hby hzs hsz (.slice (some ⟨g, 0, none⟩) 0 0) 0 [] hown ⟨b, off, none⟩ ys.length cap (ys.flatMap enc) hfl
      (fun j u hju => by
        have hj : j < ys.length * size := by rw [← hfl]; exact (List.getElem?_eq_some_iff.1 hju).1
        have hq : j / size < ys.length := Nat.div_lt_of_lt_mul (by rwa [Nat.mul_comm] at hj)
        obtain ⟨x, hx⟩ : ∃ x, ys[j / size]? = some x := ⟨_, List.getElem?_eq_getElem hq⟩
        have hm : j % size < size := Nat.mod_lt _ hsz
        have he : j / size * size + j % size = j := by rw [Nat.mul_comm]; exact Nat.div_add_mod j size
        have h4 := flat_atg hlen ys (j / size) x hx (j % size) hm
        rw [he, hju] at h4
        have h5 := hc (j / size) x hx (j % size) u h4.symm
        have e2 : (⟨b, off, none⟩ : Addr).add j = ⟨b, off + j / size * size + j % size, none⟩ := by
          rw [show off + j / size * size + j % size = off + j by omega]
          unfold Addr.add
          split <;> simp_all
        rw [e2]
        exact h5)
      (fun u hu => by
        obtain ⟨x, -, hx⟩ := List.mem_flatMap.1 hu
        exact h1c x u hx) (by omega) (by rw [Nat.zero_add]; exact hbytes) hbase
    refine ⟨v', w', hr, ?_, h3⟩
    simpa using h2
theorem wp_append_rows {P : Program} {o : Oper} {a : Act} {K : Act → World → Prop} {Q : Exit → Act → World → Prop} {w : World} (s x : Operand) (t : TypeId)
    (ho : o.op = .call { callee := .builtin .append, args := #[s, x], argTypes := #[t, t] }) {v1 v2 : Value} (h1 : a.eval s = v1) (h2 : a.eval x = v2)
    {v' : Value} {w' : World} (hr : (Builtin.append_ #[t, t] o.type #[v1, v2]).run P w = .ok v' w') (h : K (a.put o.dst v') w') : o.wp P a w K Q := by
  unfold Oper.wp execOp
  simp only [ho, resolve, invoke, builtin, Sem.run_bind, Sem.run_pure, Result.andThen_ok, List.map_toArray, List.map_cons, List.map_nil, h1, h2, hr]
  exact h
end Go.Proofs.YtnhacghjoikgpaaGreatDoor

/- The law's comparison of two lists of numbers. -/
namespace Go.Proofs.YtnhacghjoikgpaaGreatDoor
set_option linter.unusedSimpArgs false
set_option linter.unusedVariables false
open Go Go.RowKit Go.Sort Go.BigFrame Go.Shelf
attribute [local go_sem] Oper.semAt_some putAll

theorem take_step {α : Type} {xs ys : List α} {k : Nat} {x y : α} (hx : xs[k]? = some x) (hy : ys[k]? = some y) (h : xs.take k = ys.take k) (e : x = y) : xs.take (k + 1) = ys.take (k + 1) := by
  rw [List.take_add_one, List.take_add_one, h, hx, hy, e]

set_option maxRecDepth 100000 in
set_option maxHeartbeats 1000000 in
theorem Ints_any (xs ys : List Int) (v u : Value) (w : World) (hv : IntsAt w v xs) (hu : IntsAt w u ys) (hl : xs.length < 1000000) (hl2 : ys.length < 1000000) :
    Calls Tryz.prog 13 #[v, u] w fun e w' => e = .returned (.bool (decide (xs = ys))) ∧ Below w.heap.size w w' := by
  obtain ⟨ax, capx, rfl, hx⟩ := hv
  obtain ⟨ay, capy, rfl, hy⟩ := hu
  have HX := Lib.hid hx
  have HY := Lib.hid hy
  have HB := Lib.hid (Below.refl w.heap.size w)
  clear hx hy
  obtain ⟨n, hn⟩ : ∃ n, n = xs.length := ⟨_, rfl⟩
  obtain ⟨m, hm⟩ : ∃ m, m = ys.length := ⟨_, rfl⟩
  rw [← hn] at hl
  rw [← hm] at hl2
  rw [← hn, ← hm]
  have HN := Lib.hid hn
  have HM := Lib.hid hm
  clear hn hm
  have hB : ∃ B : Bool, ((n : Int) == (m : Int)) = B ∧ Hid ((B = true → n = m) ∧ (B = false → xs ≠ ys)) := by
    by_cases e : n = m
    · exact ⟨true, by simp [e], fun _ => e, fun h => by cases h⟩
    · exact ⟨false, by simp; omega, (fun h => by cases h), fun _ h => e (by rw [HN.out, HM.out, h])⟩
  obtain ⟨B, hBe, HBB⟩ := hB
  go_enter Tryz.func13, Tryz.ntmps13
  go_wp2_with fail
  go_loopw [5, 6] (fun f i wr => ∃ (k q : Nat) (D : Bool), k ≤ n ∧ i = .int .i64 k ∧ wr = w.drewN q ∧ f = .bool D ∧ Hid (D = true → n = m ∧ xs.take k = ys.take k) ∧ Hid (D = false → xs ≠ ys)) (fun _ i _ => n - (intOf i).toNat)
  case atStart => exact ⟨0, 0, B, by omega, rfl, rfl, rfl, fun h => ⟨HBB.out.1 h, rfl⟩, HBB.out.2⟩
  case round =>
    obtain ⟨k, q, D, hk, rfl, rfl, rfl, hT, hF⟩ := hrel
    clear HBB hBe
    cases D with
    | false =>
      have HD : Hid (decide (xs = ys) = false) := decide_eq_false (hF.out rfl)
      clear hT hF
      go_wp2_with fail
      go_ret
      exact ⟨by rw [HD.out]; rfl, bdrewN HB.out _⟩
    | true =>
      obtain ⟨hnm, htk⟩ := hT.out rfl
      clear hT hF
      by_cases hlt : k < n
      · obtain ⟨x, hx⟩ : ∃ x, xs[k]? = some x := ⟨_, List.getElem?_eq_getElem (by have := HN.out; omega)⟩
        obtain ⟨y, hy⟩ : ∃ y, ys[k]? = some y := ⟨_, List.getElem?_eq_getElem (by have := HM.out; omega)⟩
        obtain ⟨gx, rfl, -, hcx⟩ := HX.out (fun e => by rw [e] at hx; cases hx)
        obtain ⟨gy, rfl, -, hcy⟩ := HY.out (fun e => by rw [e] at hy; cases hy)
        have x0 := hcx k x hx
        have y0 := hcy k y hy
        have HXX := Lib.hid hx
        have HYY := Lib.hid hy
        have HTK := Lib.hid htk
        have hkm : k < m := by omega
        clear hcx hcy hx hy htk
        go_wp2_with fail
        by_cases hxy : x = y
        · subst hxy
          go_quiet (fail)
          go_wp2_with fail
          go_roundw
          case rel => exact ⟨k + 1, q + nq, true, by omega, by go_num, rfl, by simp, (fun _ => ⟨hnm, take_step HXX.out HYY.out HTK.out rfl⟩), (fun h => by cases h)⟩
          case measure => simp [intOf]; omega
        · have HNE : Hid (xs ≠ ys) := fun e => by have h1 := HXX.out; rw [e, HYY.out] at h1; cases h1; exact hxy rfl
          go_quiet (fail)
          go_wp2_with fail
          go_roundw
          case rel => exact ⟨k + 1, q + nq, false, by omega, by go_num, rfl, by simp [hxy], (fun h => by cases h), (fun _ => HNE.out)⟩
          case measure => simp [intOf]; omega
      · have hkn : k = n := by omega
        have HD : Hid (decide (xs = ys) = true) := decide_eq_true (by
          have h1 := htk
          rw [hkn, HN.out, List.take_length, ← HN.out, hnm, HM.out, List.take_length] at h1
          exact h1)
        subst hkn
        clear htk
        go_wp2_with fail
        go_ret
        exact ⟨by rw [HD.out]; rfl, bdrewN HB.out _⟩

end Go.Proofs.YtnhacghjoikgpaaGreatDoor

/- Small functions of the reference over lists: Has, Alike, Before. -/
namespace Go.Proofs.YtnhacghjoikgpaaGreatDoor
set_option linter.unusedSimpArgs false
set_option linter.unusedVariables false
open Go Go.RowKit Go.Sort Go.BigFrame Go.Shelf
attribute [local go_sem] Oper.semAt_some putAll

theorem IntsAt.get {W : World} {a : Option Addr} {n cap : Nat} {xs : List Int} (h : IntsAt W (.slice a n cap) xs) {i : Nat} {x : Int} (hx : xs[i]? = some x) : ∃ g, a = some ⟨g, 0, none⟩ ∧ g < W.heap.size ∧ W.cell? ⟨g, i, none⟩ = some (.int .i64 x) := by
  obtain ⟨a', cap', e, hc⟩ := h
  cases e
  obtain ⟨g, h1, h2, h3⟩ := hc (fun e => by rw [e] at hx; cases hx)
  exact ⟨g, h1, h2, h3 i x hx⟩
theorem not_mem_take {xs : List Int} {k : Nat} {x z : Int} (hx : xs[k]? = some x) (h : z ∉ xs.take k) (hne : x ≠ z) : z ∉ xs.take (k + 1) := by
  rw [List.take_add_one, hx]
  simp only [Option.toList_some, List.mem_append, List.mem_singleton, not_or]
  exact ⟨h, fun e => hne e.symm⟩

set_option maxRecDepth 100000 in
set_option maxHeartbeats 400000 in
theorem refHas_any (xs : List Int) (v : Value) (z : Int) (w : World) (hv : IntsAt w v xs) (hl : xs.length < 1000000) :
    Calls Tryz.prog 34 #[v, .int .i64 z] w fun e w' => e = .returned (.bool (decide (z ∈ xs))) ∧ w' = w := by
  have HV := Lib.hid hv
  obtain ⟨a, cap, rfl, -⟩ := hv
  obtain ⟨n, hn⟩ : ∃ n, n = xs.length := ⟨_, rfl⟩
  have HN := Lib.hid hn
  rw [← hn] at HV hl ⊢
  clear hn
  go_enter Tryz.func34, Tryz.ntmps34
  go_wp2_with fail
  go_loopw [5] (fun q wr => ∃ (k : Nat), k ≤ n ∧ q = .int .i64 k ∧ Hid (z ∉ xs.take k) ∧ wr = w) (fun q _ => n - (intOf q).toNat)
  case atStart => exact ⟨0, by omega, rfl, (by show z ∉ _; simp), rfl⟩
  case round =>
    obtain ⟨k, hk, rfl, hT, rfl⟩ := hrel
    by_cases hlt : k < n
    · obtain ⟨x, hx⟩ : ∃ x, xs[k]? = some x := ⟨_, List.getElem?_eq_getElem (by have := HN.out; omega)⟩
      obtain ⟨g, rfl, -, q0⟩ := HV.out.get hx
      have HX := Lib.hid hx
      clear hx
      by_cases e : x = z
      · have HD : Hid (decide (z ∈ xs) = true) := Lib.hid (decide_eq_true (by rw [← e]; exact List.mem_of_getElem? HX.out))
        have e0 : (x == z) = true := by simp [e]
        clear e hT
        go_wp2_with fail
        go_ret
        exact ⟨by rw [HD.out]; rfl, rfl⟩
      · have e0 : (x == z) = false := by simp [e]
        have HT := Lib.hid (not_mem_take HX.out hT.out e)
        clear e hT
        go_wp2_with fail
        go_roundw
        case rel => exact ⟨k + 1, by omega, by go_num, HT.out, trivial⟩
        case measure => simp [intOf]; omega
    · have HD : Hid (decide (z ∈ xs) = false) := Lib.hid (decide_eq_false (by
        have h := hT.out
        rwa [List.take_of_length_le (by have := HN.out; omega)] at h))
      clear hT
      go_wp2_with fail
      go_ret
      exact ⟨by rw [HD.out]; rfl, rfl⟩

end Go.Proofs.YtnhacghjoikgpaaGreatDoor

/- Whether all numbers of a list are in another one. -/
namespace Go.Proofs.YtnhacghjoikgpaaGreatDoor
set_option linter.unusedSimpArgs false
set_option linter.unusedVariables false
open Go Go.RowKit Go.Sort Go.BigFrame

set_option maxRecDepth 100000 in
set_option maxHeartbeats 2000000 in
theorem lpart_any (xs ys : List Int) (v u : Value) (w : World) (hv : IntsAt w v xs) (hu : IntsAt w u ys) (hl : xs.length < 1000000) (hl2 : ys.length < 1000000) (hsub : ∀ x ∈ xs, x ∈ ys) :
    Calls Tryz.prog 21 #[v, u] w fun e w' => e = .returned (.bool true) ∧ Below w.heap.size w w' := by
  have HV := Lib.hid hv
  have HU := Lib.hid hu
  have HS := Lib.hid hsub
  obtain ⟨a, cap, rfl, -⟩ := hv
  obtain ⟨a2, cap2, rfl, -⟩ := hu
  obtain ⟨n, hn⟩ : ∃ n, n = xs.length := ⟨_, rfl⟩
  obtain ⟨n2, hn2⟩ : ∃ n, n = ys.length := ⟨_, rfl⟩
  have HN := Lib.hid hn
  have HN2 := Lib.hid hn2
  rw [← hn] at HV hl ⊢
  rw [← hn2] at HU hl2 ⊢
  clear hn hn2 hsub
  go_enter Tryz.func21, Tryz.ntmps21
  go_wp2_with fail
  go_loopw [5] (fun q wr => ∃ (k : Nat), k ≤ n ∧ q = .int .i64 k ∧ Hid (Below w.heap.size w wr)) (fun q _ => n - (intOf q).toNat)
  case atStart => exact ⟨0, by omega, rfl, Lib.hid (Below.refl _ _)⟩
  case round =>
    obtain ⟨k, hk, rfl, HB⟩ := hrel
    by_cases hlt : k < n
    · obtain ⟨x, hx⟩ : ∃ x, xs[k]? = some x := ⟨_, List.getElem?_eq_getElem (by have := HN.out; omega)⟩
      obtain ⟨g, rfl, -, q0⟩ := (HV.out.later HB.out).get hx
      have HX := Lib.hid (decide_eq_true (HS.out x (List.mem_of_getElem? hx)))
      clear hx
      go_wp2_with fail
      refine (refHas_any ys _ x _ (HU.out.later HB.out) (by rw [← HN2.out]; exact hl2)).mono ?_
      rintro e w4 ⟨rfl, rfl⟩
      rw [HX.out]
      go_wp2_with fail
      go_roundw
      case rel => exact ⟨k + 1, by omega, by go_num, HB⟩
      case measure => simp [intOf]; omega
    · obtain rfl : k = n := by omega
      go_wp2_with fail
      go_ret
      exact ⟨rfl, HB.out⟩
end Go.Proofs.YtnhacghjoikgpaaGreatDoor

/- awake_any2, worked out: pieces 0 to 3. -/
namespace Go.Proofs.YtnhacghjoikgpaaGreatDoor
set_option linter.unusedSimpArgs false
set_option linter.unusedVariables false
open Go Go.RowKit
noncomputable section
def yfA0 : Fr := ⟨.leaf, (Tryz.f16).ntmps, [], 1⟩
def yfH0 (t : TypeId) : H := h00 tab64 t
def yfA1 : Fr := (Fr.mk (Tr.node Tr.leaf (some (V.lit (Value.bool Bool.false))) Tr.leaf) 194 [] 1)
def yfH1 (t : TypeId) : H := ⟨40, 40, 40, .node Tr.leaf (some (.cells tab64 t)) Tr.leaf⟩
theorem yfP0 (t : TypeId) : evGc Tryz.prog 100000 (piece 0 (bodyOf Tryz.f16)) yfA0 (yfH0 t) [0] = .ok (.normal, yfA1, yfH1 t) := by kernel_rfl
def yfA2 : Fr := (Fr.mk (Tr.node (Tr.node Tr.leaf (some (V.ptr 45 0)) (Tr.node (Tr.node Tr.leaf none (Tr.node Tr.leaf (some (V.agg [(V.slc 41 0 3 3 Bool.false), (V.slc 44 0 1 1 Bool.false), (V.lit (Value.int IntKind.i64 (Int.ofNat 10))), (V.lit (Value.int IntKind.i64 (Int.ofNat 2)))])) Tr.leaf)) none Tr.leaf)) (some (V.lit (Value.bool Bool.false))) Tr.leaf) 194 [] 1)
def yfH2 (t : TypeId) : H := ⟨46, 40, 40, .node (Tr.node Tr.leaf none (Tr.node (Tr.node Tr.leaf none (Tr.node (Tr.node Tr.leaf (some (Ob.cells [(V.lit (Value.string (ByteArray.mk (Array.mk [(UInt8.ofNat 102), (UInt8.ofNat 111), (UInt8.ofNat 108), (UInt8.ofNat 105), (UInt8.ofNat 111)])))), (V.lit (Value.string (ByteArray.mk (Array.mk [(UInt8.ofNat 120)])))), (V.lit (Value.string (ByteArray.mk (Array.mk [(UInt8.ofNat 113), (UInt8.ofNat 117), (UInt8.ofNat 97), (UInt8.ofNat 114), (UInt8.ofNat 116), (UInt8.ofNat 111)])))), (V.lit (Value.string (ByteArray.mk (Array.mk [(UInt8.ofNat 120), (UInt8.ofNat 121)])))), (V.lit (Value.string (ByteArray.mk (Array.mk [(UInt8.ofNat 111), (UInt8.ofNat 99), (UInt8.ofNat 116), (UInt8.ofNat 97), (UInt8.ofNat 118), (UInt8.ofNat 111)])))), (V.lit (Value.string (ByteArray.mk (Array.mk [(UInt8.ofNat 120), (UInt8.ofNat 121), (UInt8.ofNat 120)]))))] 115)) Tr.leaf) none Tr.leaf)) none (Tr.node Tr.leaf none (Tr.node (Tr.node Tr.leaf (some (Ob.cells [(V.slc 41 0 3 3 Bool.false), (V.slc 44 0 1 1 Bool.false), (V.lit (Value.int IntKind.i64 (Int.ofNat 10))), (V.lit (Value.int IntKind.i64 (Int.ofNat 2)))] 25)) Tr.leaf) none Tr.leaf)))) (some (.cells tab64 t)) (Tr.node (Tr.node Tr.leaf none (Tr.node Tr.leaf none (Tr.node (Tr.node Tr.leaf (some (Ob.cells [(V.lit (Value.string (ByteArray.mk (Array.mk [(UInt8.ofNat 112), (UInt8.ofNat 111), (UInt8.ofNat 116)])))), (V.lit (Value.int IntKind.i64 (Int.ofNat 400))), (V.lit (Value.int IntKind.i64 (Int.ofNat 410))), (V.lit (Value.int IntKind.i64 (Int.ofNat 300))), (V.lit (Value.int IntKind.i64 (Int.ofNat 306)))] 67)) Tr.leaf) none Tr.leaf))) none Tr.leaf)⟩
theorem yfP1 (t : TypeId) : evGc Tryz.prog 100000 (piece 1 (bodyOf Tryz.f16)) yfA1 (yfH1 t) [0, 41, 44, 45] = .ok (.normal, yfA2, yfH2 t) := by kernel_rfl
def yfA3 : Fr := (Fr.mk (Tr.node (Tr.node (Tr.node (Tr.node (Tr.node (Tr.node Tr.leaf (some (V.lit (Value.int IntKind.i64 (Int.ofNat 0)))) Tr.leaf) none Tr.leaf) none Tr.leaf) (some (V.lit (Value.int IntKind.i64 (Int.ofNat 0)))) (Tr.node Tr.leaf none (Tr.node Tr.leaf (some (V.agg [(V.slc 41 0 3 3 Bool.false), (V.slc 44 0 1 1 Bool.false), (V.lit (Value.int IntKind.i64 (Int.ofNat 10))), (V.lit (Value.int IntKind.i64 (Int.ofNat 2)))])) Tr.leaf))) (some (V.ptr 45 0)) (Tr.node (Tr.node Tr.leaf none (Tr.node Tr.leaf (some (V.agg [(V.slc 41 0 3 3 Bool.false), (V.slc 44 0 1 1 Bool.false), (V.lit (Value.int IntKind.i64 (Int.ofNat 10))), (V.lit (Value.int IntKind.i64 (Int.ofNat 2)))])) Tr.leaf)) none (Tr.node Tr.leaf none (Tr.node Tr.leaf (some (V.tup [(V.slc 130 0 4 4 Bool.true), (V.lit (Value.int IntKind.i64 (Int.ofNat 0)))])) Tr.leaf)))) (some (V.lit (Value.bool Bool.false))) (Tr.node (Tr.node Tr.leaf none (Tr.node Tr.leaf none (Tr.node Tr.leaf (some (V.agg [(V.lit (Value.int IntKind.i64 (Int.ofNat 1))), (V.lit (Value.int IntKind.i64 (Int.ofNat 0))), (V.lit (Value.int IntKind.i64 (Int.ofNat 1))), (V.lit (Value.bool Bool.false))])) Tr.leaf))) (some (V.slc 130 0 4 4 Bool.true)) (Tr.node (Tr.node Tr.leaf none (Tr.node Tr.leaf (some (V.tup [(V.slc 130 0 4 4 Bool.true), (V.lit (Value.int IntKind.i64 (Int.ofNat 0)))])) Tr.leaf)) none (Tr.node Tr.leaf none (Tr.node Tr.leaf (some (V.slc 130 0 4 4 Bool.true)) Tr.leaf))))) 194 [] 1)
def yfH3 (t : TypeId) : H := ⟨132, 40, 40, .node (Tr.node Tr.leaf none (Tr.node (Tr.node Tr.leaf none (Tr.node (Tr.node Tr.leaf (some (Ob.cells [(V.lit (Value.string (ByteArray.mk (Array.mk [(UInt8.ofNat 102), (UInt8.ofNat 111), (UInt8.ofNat 108), (UInt8.ofNat 105), (UInt8.ofNat 111)])))), (V.lit (Value.string (ByteArray.mk (Array.mk [(UInt8.ofNat 120)])))), (V.lit (Value.string (ByteArray.mk (Array.mk [(UInt8.ofNat 113), (UInt8.ofNat 117), (UInt8.ofNat 97), (UInt8.ofNat 114), (UInt8.ofNat 116), (UInt8.ofNat 111)])))), (V.lit (Value.string (ByteArray.mk (Array.mk [(UInt8.ofNat 120), (UInt8.ofNat 121)])))), (V.lit (Value.string (ByteArray.mk (Array.mk [(UInt8.ofNat 111), (UInt8.ofNat 99), (UInt8.ofNat 116), (UInt8.ofNat 97), (UInt8.ofNat 118), (UInt8.ofNat 111)])))), (V.lit (Value.string (ByteArray.mk (Array.mk [(UInt8.ofNat 120), (UInt8.ofNat 121), (UInt8.ofNat 120)]))))] 115)) Tr.leaf) none Tr.leaf)) none (Tr.node Tr.leaf none (Tr.node (Tr.node Tr.leaf (some (Ob.cells [(V.slc 41 0 3 3 Bool.false), (V.slc 44 0 1 1 Bool.false), (V.lit (Value.int IntKind.i64 (Int.ofNat 10))), (V.lit (Value.int IntKind.i64 (Int.ofNat 2)))] 25)) Tr.leaf) none Tr.leaf)))) (some (.cells tab64 t)) (Tr.node (Tr.node Tr.leaf none (Tr.node Tr.leaf none (Tr.node (Tr.node Tr.leaf (some (Ob.cells [(V.lit (Value.string (ByteArray.mk (Array.mk [(UInt8.ofNat 112), (UInt8.ofNat 111), (UInt8.ofNat 116)])))), (V.lit (Value.int IntKind.i64 (Int.ofNat 400))), (V.lit (Value.int IntKind.i64 (Int.ofNat 410))), (V.lit (Value.int IntKind.i64 (Int.ofNat 300))), (V.lit (Value.int IntKind.i64 (Int.ofNat 306)))] 67)) Tr.leaf) none Tr.leaf))) none (Tr.node (Tr.node (Tr.node (Tr.node (Tr.node (Tr.node Tr.leaf (some (Ob.cells [(V.lit (Value.int IntKind.i64 (Int.ofNat 0))), (V.lit (Value.int IntKind.i64 (Int.ofNat 0))), (V.lit (Value.int IntKind.i64 (Int.ofNat 0))), (V.lit (Value.bool Bool.false)), (V.lit (Value.bool Bool.false)), (V.lit (Value.int IntKind.i64 (Int.ofNat 0))), (V.lit (Value.int IntKind.i64 (Int.ofNat 1))), (V.lit (Value.int IntKind.i64 (Int.ofNat 0))), (V.lit (Value.bool Bool.true)), (V.lit (Value.bool Bool.true)), (V.lit (Value.int IntKind.i64 (Int.ofNat 0))), (V.lit (Value.int IntKind.i64 (Int.ofNat 1))), (V.lit (Value.int IntKind.i64 (Int.ofNat 1))), (V.lit (Value.bool Bool.false)), (V.lit (Value.bool Bool.true)), (V.lit (Value.int IntKind.i64 (Int.ofNat 0))), (V.lit (Value.int IntKind.i64 (Int.ofNat 0))), (V.lit (Value.int IntKind.i64 (Int.ofNat 1))), (V.lit (Value.bool Bool.true)), (V.lit (Value.bool Bool.false))] 106)) Tr.leaf) none Tr.leaf) none Tr.leaf) none Tr.leaf) none Tr.leaf) none Tr.leaf))⟩
theorem yfP2 (t : TypeId) : evGc Tryz.prog 100000 (piece 2 (bodyOf Tryz.f16)) yfA2 (yfH2 t) [0, 41, 44, 45, 130] = .ok (.normal, yfA3, yfH3 t) := by kernel_rfl
def yfA4 : Fr := (Fr.mk (Tr.node (Tr.node (Tr.node (Tr.node (Tr.node (Tr.node Tr.leaf (some (V.lit (Value.int IntKind.i64 (Int.ofNat 0)))) Tr.leaf) none Tr.leaf) none Tr.leaf) (some (V.lit (Value.int IntKind.i64 (Int.ofNat 0)))) (Tr.node (Tr.node (Tr.node Tr.leaf (some (V.tup [(V.slc 234 0 4 4 Bool.true), (V.lit (Value.int IntKind.i64 (Int.ofNat 0)))])) Tr.leaf) none Tr.leaf) none (Tr.node Tr.leaf (some (V.agg [(V.slc 41 0 3 3 Bool.false), (V.slc 44 0 1 1 Bool.false), (V.lit (Value.int IntKind.i64 (Int.ofNat 10))), (V.lit (Value.int IntKind.i64 (Int.ofNat 2)))])) Tr.leaf))) (some (V.ptr 45 0)) (Tr.node (Tr.node (Tr.node (Tr.node Tr.leaf (some (V.agg [(V.slc 41 0 3 3 Bool.false), (V.slc 44 0 1 1 Bool.false), (V.lit (Value.int IntKind.i64 (Int.ofNat 10))), (V.lit (Value.int IntKind.i64 (Int.ofNat 2)))])) Tr.leaf) none Tr.leaf) none (Tr.node Tr.leaf (some (V.agg [(V.slc 41 0 3 3 Bool.false), (V.slc 44 0 1 1 Bool.false), (V.lit (Value.int IntKind.i64 (Int.ofNat 10))), (V.lit (Value.int IntKind.i64 (Int.ofNat 2)))])) Tr.leaf)) (some (V.lit (Value.int IntKind.i64 (Int.ofNat 0)))) (Tr.node (Tr.node (Tr.node Tr.leaf (some (V.lit (Value.int IntKind.i64 (Int.ofNat 0)))) Tr.leaf) none Tr.leaf) none (Tr.node Tr.leaf (some (V.tup [(V.slc 130 0 4 4 Bool.true), (V.lit (Value.int IntKind.i64 (Int.ofNat 0)))])) Tr.leaf)))) (some (V.lit (Value.bool Bool.false))) (Tr.node (Tr.node (Tr.node (Tr.node (Tr.node Tr.leaf (some (V.tup [(V.slc 234 0 4 4 Bool.true), (V.lit (Value.int IntKind.i64 (Int.ofNat 0)))])) Tr.leaf) none Tr.leaf) none Tr.leaf) (some (V.slc 234 0 4 4 Bool.true)) (Tr.node (Tr.node (Tr.node Tr.leaf (some (V.slc 234 0 4 4 Bool.true)) Tr.leaf) none Tr.leaf) none (Tr.node Tr.leaf (some (V.agg [(V.lit (Value.int IntKind.i64 (Int.ofNat 1))), (V.lit (Value.int IntKind.i64 (Int.ofNat 0))), (V.lit (Value.int IntKind.i64 (Int.ofNat 1))), (V.lit (Value.bool Bool.false))])) Tr.leaf))) (some (V.slc 130 0 4 4 Bool.true)) (Tr.node (Tr.node (Tr.node (Tr.node Tr.leaf (some (V.agg [(V.lit (Value.int IntKind.i64 (Int.ofNat 1))), (V.lit (Value.int IntKind.i64 (Int.ofNat 0))), (V.lit (Value.int IntKind.i64 (Int.ofNat 1))), (V.lit (Value.bool Bool.false))])) Tr.leaf) none Tr.leaf) none (Tr.node Tr.leaf (some (V.tup [(V.slc 130 0 4 4 Bool.true), (V.lit (Value.int IntKind.i64 (Int.ofNat 0)))])) Tr.leaf)) none (Tr.node Tr.leaf none (Tr.node Tr.leaf (some (V.slc 130 0 4 4 Bool.true)) Tr.leaf))))) 194 [] 1)
def yfH4 (t : TypeId) : H := ⟨235, 40, 40, .node (Tr.node Tr.leaf none (Tr.node (Tr.node Tr.leaf none (Tr.node (Tr.node Tr.leaf (some (Ob.cells [(V.lit (Value.string (ByteArray.mk (Array.mk [(UInt8.ofNat 102), (UInt8.ofNat 111), (UInt8.ofNat 108), (UInt8.ofNat 105), (UInt8.ofNat 111)])))), (V.lit (Value.string (ByteArray.mk (Array.mk [(UInt8.ofNat 120)])))), (V.lit (Value.string (ByteArray.mk (Array.mk [(UInt8.ofNat 113), (UInt8.ofNat 117), (UInt8.ofNat 97), (UInt8.ofNat 114), (UInt8.ofNat 116), (UInt8.ofNat 111)])))), (V.lit (Value.string (ByteArray.mk (Array.mk [(UInt8.ofNat 120), (UInt8.ofNat 121)])))), (V.lit (Value.string (ByteArray.mk (Array.mk [(UInt8.ofNat 111), (UInt8.ofNat 99), (UInt8.ofNat 116), (UInt8.ofNat 97), (UInt8.ofNat 118), (UInt8.ofNat 111)])))), (V.lit (Value.string (ByteArray.mk (Array.mk [(UInt8.ofNat 120), (UInt8.ofNat 121), (UInt8.ofNat 120)]))))] 115)) Tr.leaf) none Tr.leaf)) none (Tr.node Tr.leaf none (Tr.node (Tr.node Tr.leaf (some (Ob.cells [(V.slc 41 0 3 3 Bool.false), (V.slc 44 0 1 1 Bool.false), (V.lit (Value.int IntKind.i64 (Int.ofNat 10))), (V.lit (Value.int IntKind.i64 (Int.ofNat 2)))] 25)) Tr.leaf) none Tr.leaf)))) (some (.cells tab64 t)) (Tr.node (Tr.node Tr.leaf none (Tr.node Tr.leaf none (Tr.node (Tr.node Tr.leaf (some (Ob.cells [(V.lit (Value.string (ByteArray.mk (Array.mk [(UInt8.ofNat 112), (UInt8.ofNat 111), (UInt8.ofNat 116)])))), (V.lit (Value.int IntKind.i64 (Int.ofNat 400))), (V.lit (Value.int IntKind.i64 (Int.ofNat 410))), (V.lit (Value.int IntKind.i64 (Int.ofNat 300))), (V.lit (Value.int IntKind.i64 (Int.ofNat 306)))] 67)) Tr.leaf) none Tr.leaf))) none (Tr.node (Tr.node (Tr.node (Tr.node (Tr.node (Tr.node Tr.leaf (some (Ob.cells [(V.lit (Value.int IntKind.i64 (Int.ofNat 0))), (V.lit (Value.int IntKind.i64 (Int.ofNat 0))), (V.lit (Value.int IntKind.i64 (Int.ofNat 0))), (V.lit (Value.bool Bool.false)), (V.lit (Value.bool Bool.false)), (V.lit (Value.int IntKind.i64 (Int.ofNat 0))), (V.lit (Value.int IntKind.i64 (Int.ofNat 1))), (V.lit (Value.int IntKind.i64 (Int.ofNat 0))), (V.lit (Value.bool Bool.true)), (V.lit (Value.bool Bool.true)), (V.lit (Value.int IntKind.i64 (Int.ofNat 0))), (V.lit (Value.int IntKind.i64 (Int.ofNat 1))), (V.lit (Value.int IntKind.i64 (Int.ofNat 1))), (V.lit (Value.bool Bool.false)), (V.lit (Value.bool Bool.true)), (V.lit (Value.int IntKind.i64 (Int.ofNat 0))), (V.lit (Value.int IntKind.i64 (Int.ofNat 0))), (V.lit (Value.int IntKind.i64 (Int.ofNat 1))), (V.lit (Value.bool Bool.true)), (V.lit (Value.bool Bool.false))] 106)) Tr.leaf) none Tr.leaf) none Tr.leaf) none Tr.leaf) none (Tr.node (Tr.node Tr.leaf none (Tr.node Tr.leaf none (Tr.node Tr.leaf (some (Ob.cells [(V.lit (Value.int IntKind.i64 (Int.ofNat 2))), (V.lit (Value.int IntKind.i64 (Int.negSucc 2))), (V.lit (Value.int IntKind.i64 (Int.ofNat 7))), (V.lit (Value.int IntKind.i64 (Int.negSucc 5)))] 3)) Tr.leaf))) none Tr.leaf)) none Tr.leaf))⟩
theorem yfP3 (t : TypeId) : evGc Tryz.prog 100000 (piece 3 (bodyOf Tryz.f16)) yfA3 (yfH3 t) [0, 41, 44, 45, 130, 234] = .ok (.normal, yfA4, yfH4 t) := by kernel_rfl
end
end Go.Proofs.YtnhacghjoikgpaaGreatDoor
