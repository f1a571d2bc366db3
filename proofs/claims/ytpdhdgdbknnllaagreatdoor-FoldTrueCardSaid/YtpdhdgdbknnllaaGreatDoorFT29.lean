/- The parts Hm, Hn, Ac, Lh, Hq, Tn, Ys, Ya of the proof, joined. It holds without conditions of its own. -/
import Derived.Test.YtpdhdgdbknnllaaGreatDoorFT28
import Derived.Test.YtpdhdgdbknnllaaGreatDoorFT24
import Derived.Test.YtpdhdgdbknnllaaGreatDoorFT8
import Derived.Test.YtpdhdgdbknnllaaGreatDoorFT10
import Derived.Test.YtpdhdgdbknnllaaGreatDoorFT7
import Derived.Shelf.RegionOpen
import Derived.Test.YtpdhdgdbknnllaaGreatDoorFT14
import Derived.Test.YtpdhdgdbknnllaaGreatDoorFT1
import Derived.Test.YtpdhdgdbknnllaaGreatDoorFT3
import Derived.Test.YtpdhdgdbknnllaaGreatDoorFT4
set_option maxRecDepth 100000
set_option maxHeartbeats 20000000
namespace Go.Proofs.YtpdhdgdbknnllaaGreatDoor
section
set_option linter.unusedSimpArgs false
set_option linter.unusedVariables false
open Go Go.RowKit Go.Sort Go.BigFrame
attribute [local go_sem] Oper.semAt_some putAll
theorem undFns : Tryz.prog.underlying 134 = some (.slice 135) := by kernel_rfl
abbrev askV (p : Prs) (y : Wz) : Value := .func (.func 66) #[.agg (wayOf p y.1 (.slice y.2.1 y.2.2.1 y.2.2.2))] #[]
theorem valuesFn_any (a : Option Addr) (n c : Nat) (w : World) :
  Calls Tryz.prog 68 #[.slice a n c] w fun e w' => e = .returned (.func (.func 102) #[] #[.pointer (some ⟨w.heap.size, 0, none⟩)]) /\ w.alloc (.cells #[.slice a n c] 134) = w' := by
 have hmf : ∀ (fn : Fn) (first cap : Array Value) (w : World), (Instr.makeFunc fn first cap).run Tryz.prog w = .ok (.func fn first cap) w := fun _ _ _ _ => rfl
 go_enter Tryz.func68, Tryz.ntmps68
 go_wp2
 go_ret
 exact ⟨rfl, rfl⟩
theorem seenTogether_any (p : Prs) (b : Bok) (ma : Option Addr) (mn mcap : Nat) (va : Option Addr) (vn vc : Nat) (ys : List Wz) (i : Nat) (w : World) (h : SnAt w p b (.slice ma mn mcap) (.slice va vn vc) ys) (he : (checkK p b).2.2 = 0) (hmn : mn = b.marks.length) (hi : i < b.leaves.toNat) :
  Calls Tryz.prog 31 #[.agg (seenC b (.slice ma mn mcap) (.slice va vn vc)), .int .i64 i] w fun e w' =>
   (∃ av mv, e = .returned (.tuple #[av, mv, .bool (agreeL p b != [])]) /\ IntsAt w' av ((mustL p b i).map fun (n : Nat) => (n : Int)) /\ IntsAt w' mv ((mayL p b i).map fun (n : Nat) => (n : Int))) /\ Below w.heap.size w w' := by
 obtain ⟨-, ⟨hl1, hl2⟩, hm8, -⟩ := fine_bok he
 rw [<- hmn] at hm8
 have H := Lib.hid h
 have HE := Lib.hid he
 have HMN := Lib.hid hmn
 obtain ⟨V, hV⟩ : ∃ V, V = w.heap.size := ⟨_, rfl⟩
 clear h he hmn
 refine (callsIn_wide (n := 10)).1 ?_
 refine callsIn_of_wp_marks Tryz.func31 rfl trivial ?_ rfl
 simp only [Tryz.ntmps31, List.size_toArray, List.length_cons, List.length_nil, Nat.reduceAdd, Nat.reduceSub, Array.replicate_succ, Array.replicate_zero, List.push_toArray, List.append_toArray, List.nil_append, List.cons_append]
 gi_wp2_with fail
 have hbw : Below w.heap.size w (((w.alloc (.cells (seenC b (.slice ma mn mcap) (.slice va vn vc)) 72)).alloc (.cells #[.int .i64 i] 3)).alloc (.cells #[.slice none 0 0] 134)).drew := Below.drew (by exact (by repeat (first | exact Below.refl _ _ | assumption | (refine Below.alloc ?_ ?_ _; rotate_left; · (first | omega | (simp; done) | (simp; omega) | fail)) | (refine Below.setCell ?_ ?_ _; rotate_left; · (first | omega | (simp; done) | (simp; omega) | fail)) | refine Below.drew ?_ | fail)))
 have hz2 : (((w.alloc (.cells (seenC b (.slice ma mn mcap) (.slice va vn vc)) 72)).alloc (.cells #[.int .i64 i] 3)).alloc (.cells #[.slice none 0 0] 134)).drew.heap.size = V + 3 := by rw [hV]; show (World.alloc _ _).heap.size = _; simp
 have h6 : (((w.alloc (.cells (seenC b (.slice ma mn mcap) (.slice va vn vc)) 72)).alloc (.cells #[.int .i64 i] 3)).alloc (.cells #[.slice none 0 0] 134)).drew.heap[V]? = some (.cells (seenC b (.slice ma mn mcap) (.slice va vn vc)) 72 (0, 0)) := by rw [hV]; show (World.alloc _ _).heap[_]? = _; exact (by repeat (first | exact heap_alloc_at _ _ _ (by (first | omega | (simp; done) | (simp; omega) | fail)) | (refine (heap_alloc_past _ _ _ ?_).trans ?_; · (first | omega | (simp; done) | (simp; omega) | fail)) | fail))
 have h7 : (((w.alloc (.cells (seenC b (.slice ma mn mcap) (.slice va vn vc)) 72)).alloc (.cells #[.int .i64 i] 3)).alloc (.cells #[.slice none 0 0] 134)).drew.heap[V + 1]? = some (.cells #[.int .i64 i] 3 (0, 0)) := by rw [hV]; show (World.alloc _ _).heap[_]? = _; exact (by repeat (first | exact heap_alloc_at _ _ _ (by (first | omega | (simp; done) | (simp; omega) | fail)) | (refine (heap_alloc_past _ _ _ ?_).trans ?_; · (first | omega | (simp; done) | (simp; omega) | fail)) | fail))
 have hL : (((w.alloc (.cells (seenC b (.slice ma mn mcap) (.slice va vn vc)) 72)).alloc (.cells #[.int .i64 i] 3)).alloc (.cells #[.slice none 0 0] 134)).drew.heap[V + 2]? = some (.cells #[.slice none 0 0] 134) := by rw [hV]; show (World.alloc _ _).heap[_]? = _; exact (by repeat (first | exact heap_alloc_at _ _ _ (by (first | omega | (simp; done) | (simp; omega) | fail)) | (refine (heap_alloc_past _ _ _ ?_).trans ?_; · (first | omega | (simp; done) | (simp; omega) | fail)) | fail))
 simp only [World.size_alloc, <- hV]
 rw [<- hV] at hbw
 have HV := Lib.hid hV
 clear hV
 refine wpIn_wide.2 (wp_normal ?_)
 refine wp_region_held_drew (S := fun u => u.cell? ⟨V, 0, none⟩ = some (.int .i64 b.leaves) /\ u.cell? ⟨V, 1, none⟩ = some (.int .i64 b.chain) /\ u.cell? ⟨V, 2, none⟩ = some (.int .i64 b.wlo) /\ u.cell? ⟨V, 3, none⟩ = some (.int .i64 b.whi) /\ u.cell? ⟨V, 4, none⟩ = some (.int .i64 b.hlo) /\ u.cell? ⟨V, 5, none⟩ = some (.int .i64 b.hhi) /\ u.cell? ⟨V, 6, none⟩ = some (.slice ma mn mcap) /\ u.cell? ⟨V, 7, none⟩ = some (.slice va vn vc)) (by kernel_rfl) ?_ (fun hHeld => ?_)
 · exact ⟨blk_cell h6 0, blk_cell h6 1, blk_cell h6 2, blk_cell h6 3, blk_cell h6 4, blk_cell h6 5, blk_cell h6 6, blk_cell h6 7⟩
 revert hbw hz2 h6 h7 hL hHeld
 generalize (((w.alloc (.cells (seenC b (.slice ma mn mcap) (.slice va vn vc)) 72)).alloc (.cells #[.int .i64 i] 3)).alloc (.cells #[.slice none 0 0] 134)).drew = w3
 intro hbw hz2 h6 h7 hL hHeld
 have HBW := Lib.hid hbw
 have H6 := Lib.hid h6
 have H7 := Lib.hid h7
 have HL := Lib.hid hL
 clear hbw h6 h7 hL
 refine wpAnyH_take (i := 0) (v := ?_) rfl (by kernel_rfl) (by kernel_rfl) (by kernel_rfl) (fun _ _ _ h => h) (Or.inl ⟨by rfl, ?_⟩) (by assumption) ?_
 rotate_left
 · (intro w hSw; (try dsimp only at hSw); (try simp only [List.getElem_toArray, List.getElem_cons_zero, List.getElem_cons_succ]); go_simp; (try with_reducible rfl))
 (try simp only [List.getElem_toArray, List.getElem_cons_zero, List.getElem_cons_succ, Act.put, List.setIfInBounds_toArray, List.set_cons_zero, List.set_cons_succ])
 refine wpAnyH_take (i := 1) (v := ?_) rfl (by kernel_rfl) (by kernel_rfl) (by kernel_rfl) (fun _ _ _ h => h) (Or.inl ⟨by rfl, ?_⟩) (by assumption) ?_
 rotate_left
 · (intro w hSw; (try dsimp only at hSw); (try simp only [List.getElem_toArray, List.getElem_cons_zero, List.getElem_cons_succ]); go_simp; (try with_reducible rfl))
 (try simp only [List.getElem_toArray, List.getElem_cons_zero, List.getElem_cons_succ, Act.put, List.setIfInBounds_toArray, List.set_cons_zero, List.set_cons_succ])
 refine wpAnyH_ready (rs := [2]) (by kernel_rfl) (by simp) ?_
 refine AllReadyH.cons rfl (fun K hK => ?_) AllReadyH.nil
 go_simp
 refine (seenAll_any b ma mn mcap (.slice va vn vc) hm8 _).mono ?_
 rintro e w4 ⟨rfl, hb4⟩
 obtain ⟨s, hs⟩ : ∃ s, s = 2 ^ (3 + mn) - 1 := ⟨_, rfl⟩
 rw [<- hs]
 have HSA := Lib.hid hs
 have h6 := blk_later hb4 H6.out
 have k0 := blk_cell (h6) 0
 have k1 := blk_cell (h6) 1
 have k2 := blk_cell (h6) 2
 have k3 := blk_cell (h6) 3
 have k4 := blk_cell (h6) 4
 have k5 := blk_cell (h6) 5
 have k6 := blk_cell (h6) 6
 have k7 := blk_cell (h6) 7
 have HB4 := Lib.hid hb4
 clear hs hb4 h6
 dsimp only
 go_simp
 refine hK.out _ _ ?_ (fun hNew => ?_)
 · (try dsimp only); go_keep
 clear hK K hHeld
 have hHeld := hNew
 clear hNew
 (try simp only [Act.put, List.setIfInBounds_toArray, List.set_cons_zero, List.set_cons_succ])
 refine wpAnyH_ready (rs := [3]) (by kernel_rfl) (by simp) ?_
 refine AllReadyH.cons rfl (fun K hK => ?_) AllReadyH.nil
 go_simp
 refine (seenAgreeing_any b (.slice ma mn mcap) (.slice va vn vc) s _).mono ?_
 rintro e w5 ⟨rfl, hw5⟩
 have hb5 : Below w4.heap.size w4 w5 := by rw [<- hw5]; exact (by repeat (first | exact Below.refl _ _ | assumption | (refine Below.alloc ?_ ?_ _; rotate_left; · (first | omega | (simp; done) | (simp; omega) | fail)) | (refine Below.setCell ?_ ?_ _; rotate_left; · (first | omega | (simp; done) | (simp; omega) | fail)) | refine Below.drew ?_ | fail))
 have g1 : w5.heap[w4.heap.size]? = some (.cells (seenC b (.slice ma mn mcap) (.slice va vn vc)) 72 (0, 0)) := by rw [<- hw5]; exact (by repeat (first | exact heap_alloc_at _ _ _ (by (first | omega | (simp; done) | (simp; omega) | (simp at *; omega) | fail)) | assumption | rw [heap_alloc_past _ _ _ (by (first | omega | (simp; done) | (simp; omega) | (simp at *; omega) | fail))] | rw [heap_setCell_past _ _ _ _ (by (first | omega | (simp; done) | (simp; omega) | (simp at *; omega) | fail))] | fail))
 have g2 : w5.heap[w4.heap.size + 1]? = some (.cells #[.int .u64 s] 79 (0, 0)) := by rw [<- hw5]; exact (by repeat (first | exact heap_alloc_at _ _ _ (by (first | omega | (simp; done) | (simp; omega) | (simp at *; omega) | fail)) | assumption | rw [heap_alloc_past _ _ _ (by (first | omega | (simp; done) | (simp; omega) | (simp at *; omega) | fail))] | rw [heap_setCell_past _ _ _ _ (by (first | omega | (simp; done) | (simp; omega) | (simp at *; omega) | fail))] | fail))
 have g3 : w5.heap.size = w4.heap.size + 2 := by rw [<- hw5]; simp
 have G1 := Lib.hid g1
 have G2 := Lib.hid g2
 have G3 := Lib.hid g3
 have HB5 := Lib.hid hb5
 have h6 := blk_later hb5 (blk_later HB4.out H6.out)
 clear k0 k1 k2 k3 k4 k5 k6 k7
 have k0 := blk_cell (h6) 0
 have k1 := blk_cell (h6) 1
 have k2 := blk_cell (h6) 2
 have k3 := blk_cell (h6) 3
 have k4 := blk_cell (h6) 4
 have k5 := blk_cell (h6) 5
 have k6 := blk_cell (h6) 6
 have k7 := blk_cell (h6) 7
 clear g1 g2 g3 hb5 h6 hw5
 dsimp only
 go_simp
 refine hK.out _ _ ?_ (fun hNew => ?_)
 · (try dsimp only); go_keep
 clear hK K hHeld
 have hHeld := hNew
 clear hNew
 (try simp only [Act.put, List.setIfInBounds_toArray, List.set_cons_zero, List.set_cons_succ])
 refine wpAnyH_done (by kernel_rfl) ?_ _
 clear hHeld k0 k1 k2 k3 k4 k5 k6 k7
 gi_wp2_with fail
 have hb15 : Below V w w5 := (HBW.out.trans (HB4.out.mono (by have := hz2; omega))).trans (HB5.out.mono (by have := HB4.out.size; omega))
 have HBL := Lib.hid hb15
 have hL5 : w5.heap[V + 2]? = some (.cells #[.slice none 0 0] 134) := blk_later HB5.out (blk_later HB4.out HL.out)
 have h65 := blk_later HB5.out (blk_later HB4.out H6.out)
 have h75 := blk_later HB5.out (blk_later HB4.out H7.out)
 have hz5 : V + 3 <= w4.heap.size := by have := HB4.out.size; omega
 have hz6 : w4.heap.size + 2 <= w5.heap.size := by have := G3.out; omega
 have hz7 : w5.heap.size <= w4.heap.size + 2 := by have := G3.out; omega
 have hylen : ys.length <= 192 := H.out.len
 have hs2 : s < 2048 := by rw [HSA.out]; have := Nat.pow_le_pow_right (n := 2) (by decide) (show 3 + mn <= 11 by omega); omega
 have hit := H.out.hit HE.out hs2 (by rw [<- HV.out]; exact HBL.out) G1.out G2.out
 rw [<- HV.out] at hit
 have hAL : (ys.filter fun y => agreesP p b s y.1).map (·.1) = agreeL p b := by
  rw [agree_take p b (agreesP p b s) ys]
  unfold agreeL allS
  rw [<- HMN.out, <- HSA.out, <- H.out.ways]
 obtain ⟨us, hus⟩ : ∃ us, us = ys.filter fun y => agreesP p b s y.1 := ⟨_, rfl⟩
 have husl : us.length <= 192 := by rw [hus]; exact Nat.le_trans (List.length_filter_le _ _) hylen
 rw [<- hus] at hit hAL
 have HAL := Lib.hid hAL
 have HUS := Lib.hid hus
 clear hz2 hAL hb15 hus HL HB4 HB5 H6 H7 HBW hs2
 refine rf_list (gf := 60) (lb := #[.pointer (some ⟨w4.heap.size, 0, none⟩), .pointer (some ⟨w4.heap.size + 1, 0, none⟩)]) rfl (enters_of Tryz.func60 (by kernel_rfl) rfl)
  hit (fun _ => rfl) (fun j hj => by rcases hj with h | h | h <;> omega)
  w [(V, .cells (seenC b (.slice ma mn mcap) (.slice va vn vc)) 72), (V + 1, .cells #[.int .i64 i] 3)] (V + 2) 134 135 1 (fun pre => pre.length) (fun pre => pre.map (askV p)) (fun y => .cells (wayOf p y.1 (.slice y.2.1 y.2.2.1 y.2.2.2)) 83)
  (fun y bx => [(13, .agg (wayOf p y.1 (.slice y.2.1 y.2.2.1 y.2.2.2))), (8, .pointer (some ⟨bx, 0, none⟩))]) (fun q hq => by simp only [List.mem_cons, List.not_mem_nil, or_false] at hq; rcases hq with rfl | rfl <;> (simp only; omega))
  ⟨by rw [<- HV.out]; exact HBL.out, fun q hq => by simp only [List.mem_cons, List.not_mem_nil, or_false] at hq; rcases hq with rfl | rfl <;> assumption⟩ hL5 rfl rfl ?assign ?body ?done
 case assign =>
  intro l y W K' hK'
  gi_wp2_with fail
  exact hK'
 case body =>
  rintro l pre y rest bx W u hsp h1 h2 h3 hbx hlb hnb
  have n0 := blk_cell h2 0
  have p0 := blk_cell (hbx) 0
  have p1 := blk_cell (hbx) 1
  have p2 := blk_cell (hbx) 2
  have p3 := blk_cell (hbx) 3
  have p4 := blk_cell (hbx) 4
  have p5 := blk_cell (hbx) 5
  have p6 := blk_cell (hbx) 6
  have p7 := blk_cell (hbx) 7
  have p8 := blk_cell (hbx) 8
  have p9 := blk_cell (hbx) 9
  have p10 := blk_cell (hbx) 10
  have p11 := blk_cell (hbx) 11
  have p12 := blk_cell (hbx) 12
  have p13 := blk_cell (hbx) 13
  have hlx := blk_lt hbx
  obtain ⟨ei, ez, hi1, hi2, hi3, hi4, hi5⟩ := elemFn
  have hlen : pre.length < 200 := by
   have h6 := congrArg List.length hsp
   simp only [List.length_append, List.length_cons] at h6
   omega
  have ho : OnlyIn (fun _ => False) W (W.alloc (.cells #[askV p y] 135)) := OnlyIn.alloc _ _ _
  have H2 := Lib.hid h2
  have H3 := Lib.hid h3
  clear hsp
  gi_wp2_with (gi_at_builtin; refine wpListIn_append_one _ rfl _ _ 134 rfl w5.heap.size 135 ei ez 1 8 undFns hi1 hi2 hi3 hi4 hi5 (by decide) u pre.length (pre.map (askV p)) rfl (H3.out.alloc _) ⟨W.heap.size, 0, none⟩ 1 [askV p y] rfl rfl ?c1 ?c2 ?c3 ?c4 ?c5 ?c6)
  case c2 => simp [Value.oneCell']
  case c3 => simp only [maxLen]; omega
  case c4 => omega
  case c5 => first | omega | (simp; omega)
  case c6 =>
   rintro g capg w' hown hgrow hg
   obtain ⟨s1, s2, s3, s4⟩ := list_step (hs := w5.heap.size) (Pr := fun k => k = w4.heap.size ∨ k = w4.heap.size + 1 ∨ k < V) H2.out H3.out (by decide) ho hown hgrow (by simpa using hg) (by omega) (Nat.le_refl _) (fun j hj => by rcases hj with hj | hj | hj <;> refine ⟨by omega, by omega, by omega⟩)
   have cL := blk_cell s1 0
   have fL := blk_free s1 0
   gi_wp2_with fail
   have hh2 : Held w [(V, .cells (seenC b (.slice ma mn mcap) (.slice va vn vc)) 72), (V + 1, .cells #[.int .i64 i] 3)] (w'.setCell ⟨V + 2, 0, none⟩ (.slice (some ⟨g, 0, none⟩) (pre.length + 1) capg)) := h1.only2 s4 (fun j hj => ⟨by have := HV.out; rcases hj with hj | hj <;> omega, fun q hq => by simp only [List.mem_cons, List.not_mem_nil, or_false] at hq; rcases hq with rfl | rfl <;> (simp only; rcases hj with hj | hj <;> omega)⟩)
   first | exact hh2 | exact ⟨hh2, by simpa using s2⟩
 case done =>
  rintro D W u hD h1 h2 h3 hdef
  have n0 := blk_cell h2 0
  gi_wp2_with fail
  have hv0 := h1.get 0 rfl
  have hv1 := h1.get 1 rfl
  obtain ⟨M, hM⟩ : ∃ M : Nat, b.leaves = (M : Int) := ⟨b.leaves.toNat, by omega⟩
  have s0 : W.cell? ⟨V, 0, none⟩ = some (.int .i64 (M : Nat)) := by rw [<- hM]; exact blk_cell hv0 0
  have hu := h3
  obtain ⟨a9, cap9, rfl⟩ : ∃ a9 cap9, u = .slice a9 us.length cap9 := by
   rcases h3.2 with ⟨rfl, h0⟩ | ⟨g, cap, cur, rfl, -⟩
   · exact ⟨none, 0, by rw [h0]⟩
   · exact ⟨_, _, rfl⟩
  have hcell : ∀ (j : Nat) v, (us.map (askV p))[j]? = some v -> ∃ g, a9 = some ⟨g, 0, none⟩ /\ g < W.heap.size /\ W.cell? ⟨g, j, none⟩ = some v := fun j v hj => by
   rcases hu.2 with ⟨e, h0⟩ | ⟨g, cap, cur, e, hbg, hg, -⟩
   · exfalso
     have : us = [] := List.length_eq_zero_iff.1 h0
     rw [this] at hj
     cases hj
   · cases e
     refine ⟨g, rfl, blk_lt hg, ?_⟩
     have := hu.cells (g := g) (by simp [Value.ownBlock]) j v hj
     rwa [add_offi] at this
  have HCE := Lib.hid hcell
  have HV0 := Lib.hid hv0
  have HV1 := Lib.hid hv1
  have HDF := Lib.hid hdef
  have HM := Lib.hid hM
  have HH1 := Lib.hid h1
  have HL2 := Lib.hid h2
  have hM1 : M <= 64 := by omega
  have hiM : i < M := by omega
  clear h1 h2 h3 hdef hu hcell hv0 hv1 hM
  refine wpIn_wide.2 (wp_normal ?_)
  refine wp_region_held_drew (S := fun x => x.cell? ⟨V + 2, 0, none⟩ = some (.slice a9 us.length cap9) /\ x.cell? ⟨V, 0, none⟩ = some (.int .i64 (M : Nat))) (by kernel_rfl) ?_ (fun hHeld => ?_)
  · exact ⟨n0, s0⟩
  clear n0 s0
  obtain ⟨Wd, hWd⟩ : ∃ Wd, Wd = W.drew := ⟨_, rfl⟩
  have hbd : Below W.heap.size W Wd := by rw [hWd]; exact Below.drew (Below.refl _ _)
  rw [<- hWd] at hHeld ⊢
  have HBD := Lib.hid hbd
  clear hWd hbd
  refine wpAnyH_take (i := 0) (v := ?_) rfl (by kernel_rfl) (by kernel_rfl) (by kernel_rfl) (fun _ _ _ h => h) (Or.inl ⟨by rfl, ?_⟩) (by assumption) ?_
  rotate_left
  · (intro w hSw; (try dsimp only at hSw); (try simp only [List.getElem_toArray, List.getElem_cons_zero, List.getElem_cons_succ]); go_simp; (try with_reducible rfl))
  (try simp only [List.getElem_toArray, List.getElem_cons_zero, List.getElem_cons_succ, Act.put, List.setIfInBounds_toArray, List.set_cons_zero, List.set_cons_succ])
  refine wpAnyH_take (i := 2) (v := ?_) rfl (by kernel_rfl) (by kernel_rfl) (by kernel_rfl) (fun _ _ _ h => h) (Or.inl ⟨by rfl, ?_⟩) (by assumption) ?_
  rotate_left
  · (intro w hSw; (try dsimp only at hSw); (try simp only [List.getElem_toArray, List.getElem_cons_zero, List.getElem_cons_succ]); go_simp; (try with_reducible rfl))
  (try simp only [List.getElem_toArray, List.getElem_cons_zero, List.getElem_cons_succ, Act.put, List.setIfInBounds_toArray, List.set_cons_zero, List.set_cons_succ])
  refine wpAnyH_take (i := 3) (v := ?_) rfl (by kernel_rfl) (by kernel_rfl) (by kernel_rfl) (fun _ _ _ h => h) (Or.inl ⟨by rfl, ?_⟩) (by assumption) ?_
  rotate_left
  · (intro w hSw; (try dsimp only at hSw); (try simp only [List.getElem_toArray, List.getElem_cons_zero, List.getElem_cons_succ]); go_simp; (try with_reducible rfl))
  (try simp only [List.getElem_toArray, List.getElem_cons_zero, List.getElem_cons_succ, Act.put, List.setIfInBounds_toArray, List.set_cons_zero, List.set_cons_succ])
  refine wpAnyH_take (i := 4) (v := ?_) rfl (by kernel_rfl) (by kernel_rfl) (by kernel_rfl) (fun _ _ _ h => h) (Or.inl ⟨by rfl, ?_⟩) (by assumption) ?_
  rotate_left
  · (intro w hSw; (try dsimp only at hSw); (try simp only [List.getElem_toArray, List.getElem_cons_zero, List.getElem_cons_succ]); go_simp; (try with_reducible rfl))
  (try simp only [List.getElem_toArray, List.getElem_cons_zero, List.getElem_cons_succ, Act.put, List.setIfInBounds_toArray, List.set_cons_zero, List.set_cons_succ])
  refine wpAnyH_take (i := 5) (v := ?_) rfl (by kernel_rfl) (by kernel_rfl) (by kernel_rfl) (fun _ _ _ h => h) (Or.inl ⟨by rfl, ?_⟩) (by assumption) ?_
  rotate_left
  · (intro w hSw; (try dsimp only at hSw); (try simp only [List.getElem_toArray, List.getElem_cons_zero, List.getElem_cons_succ]); go_simp; (try with_reducible rfl))
  (try simp only [List.getElem_toArray, List.getElem_cons_zero, List.getElem_cons_succ, Act.put, List.setIfInBounds_toArray, List.set_cons_zero, List.set_cons_succ])
  refine wpAnyH_ready (rs := [1]) (by kernel_rfl) (by simp) ?_
  refine AllReadyH.cons rfl (fun K hK => ?_) AllReadyH.nil
  go_simp
  refine (valuesFn_any a9 us.length cap9 Wd).mono ?_
  rintro e w6 ⟨rfl, hw6⟩
  have hb6 : Below Wd.heap.size Wd w6 := by rw [<- hw6]; exact (by repeat (first | exact Below.refl _ _ | assumption | (refine Below.alloc ?_ ?_ _; rotate_left; · (first | omega | (simp; done) | (simp; omega) | fail)) | (refine Below.setCell ?_ ?_ _; rotate_left; · (first | omega | (simp; done) | (simp; omega) | fail)) | refine Below.drew ?_ | fail))
  have hx6 : w6.heap[Wd.heap.size]? = some (.cells #[.slice a9 us.length cap9] 134 (0, 0)) := by rw [<- hw6]; exact (by repeat (first | exact heap_alloc_at _ _ _ (by (first | omega | (simp; done) | (simp; omega) | (simp at *; omega) | fail)) | assumption | rw [heap_alloc_past _ _ _ (by (first | omega | (simp; done) | (simp; omega) | (simp at *; omega) | fail))] | rw [heap_setCell_past _ _ _ _ (by (first | omega | (simp; done) | (simp; omega) | (simp at *; omega) | fail))] | fail))
  have HB6 := Lib.hid (HBD.out.trans (hb6.mono HBD.out.size))
  have HX6 := Lib.hid hx6
  have hz6 : Wd.heap.size <= w6.heap.size := hb6.size
  have n0 := blk_cell (blk_later HB6.out HL2.out) 0
  have s0 : w6.cell? ⟨V, 0, none⟩ = some (.int .i64 (M : Nat)) := by rw [<- HM.out]; exact blk_cell (blk_later HB6.out HV0.out) 0
  clear hw6 hb6 hx6
  dsimp only
  go_simp
  refine hK.out _ _ ?_ (fun hNew => ?_)
  · (try dsimp only); go_keep
  clear hK K hHeld
  have hHeld := hNew
  clear hNew
  (try simp only [Act.put, List.setIfInBounds_toArray, List.set_cons_zero, List.set_cons_succ])
  refine wpAnyH_ready (rs := [6]) (by kernel_rfl) (by simp) ?_
  refine AllReadyH.cons rfl (fun K hK => ?_) AllReadyH.nil
  go_simp
  have hh : ∀ u ∈ us, ∀ (n : Nat), n < M -> ∀ W', Below w6.heap.size w6 W' -> Calls Tryz.prog 69 #[askV p u, .int .i64 n, .pointer (some ⟨V + 1, 0, none⟩)] W' fun e W'' => e = .returned (.bool (askB p u.1 i n)) /\ Below W'.heap.size W' W'' := fun u hu n hn W' hb => by
   have hu1 : u ∈ ys := by rw [HUS.out] at hu; exact (List.mem_filter.1 hu).1
   have hu2 : u.1 ∈ waysW p b (makesW p) := by rw [<- H.out.ways]; exact List.mem_map_of_mem hu1
   have hnum : (lvOf p u.1).length = M := by
    have h := (List.mem_filter.1 hu2).2
    unfold waysP at h
    have h2 : ((lvOf p u.1).length : Int) = b.leaves := by simpa using h
    rw [HM.out] at h2
    omega
   obtain ⟨g, hg⟩ := H.out.lv (wz u) (List.mem_map_of_mem hu1)
   have hbW : Below w.heap.size w W' := by
    have h0 := HH1.out.below
    exact h0.trans ((HB6.out.trans (hb.mono HB6.out.size)).mono h0.size)
   obtain ⟨x, hx⟩ : ∃ x, (lvOf p u.1)[i]? = some x := ⟨_, List.getElem?_eq_getElem (by omega)⟩
   obtain ⟨y, hy⟩ : ∃ y, (lvOf p u.1)[n]? = some y := ⟨_, List.getElem?_eq_getElem (by omega)⟩
   have hq := asks_any u.1 (fldsOf p u.1) (colsF (fdsB (fldsOf p u.1))) (rowsF (fdsB (fldsOf p u.1))) (pprOf p u.1) p.trim (.slice u.2.1 u.2.2.1 u.2.2.2) (lvOf p u.1) g i n (V + 1) x y W' (hg.later hbW) (by omega) hx hy (blk_later hb (blk_later HB6.out HV1.out))
   have e : askB p u.1 i n = (!decide (n = i) && (x.sheet == y.sheet)) := by unfold askB; rw [hx, hy]
   rw [e]
   exact hq
  refine (Sure_any us (askV p) (fun u n => askB p u.1 i n) M (V + 1) Wd.heap.size Wd.heap.size a9 cap9 w6 hM1 (by omega) hz6 (fun j v hj => by
   obtain ⟨g, h1, h2, h3⟩ := HCE.out j v hj
   have hbz := HBD.out.size
   exact ⟨g, h1, by omega, by rw [<- h3]; exact World.cell?_of_block (HB6.out.block g h2)⟩) HX6.out hh).mono ?_
  rintro e w7 ⟨⟨av, mv, rfl, hia, him⟩, hb7⟩
  have HB7 := Lib.hid (HB6.out.trans (hb7.mono HB6.out.size))
  have e1 : ((List.range M).filter fun n => us.all fun u => askB p u.1 i n) = mustL p b i := by
   unfold mustL
   rw [<- HAL.out, HM.out, Int.toNat_natCast]
   congr 1
   funext n
   rw [List.all_map]
   rfl
  have e2 : ((List.range M).filter fun n => us.any fun u => askB p u.1 i n) = mayL p b i := by
   unfold mayL
   rw [<- HAL.out, HM.out, Int.toNat_natCast]
   congr 1
   funext n
   rw [List.any_map]
   rfl
  rw [e1] at hia
  rw [e2] at him
  have HIA := Lib.hid hia
  have HIM := Lib.hid him
  have n1 := blk_cell (blk_later HB7.out HL2.out) 0
  have s1 : w7.cell? ⟨V, 0, none⟩ = some (.int .i64 (M : Nat)) := by rw [<- HM.out]; exact blk_cell (blk_later HB7.out HV0.out) 0
  clear hh hia him e1 e2 hb7 n0 s0
  dsimp only
  go_simp
  refine hK.out _ _ ?_ (fun hNew => ?_)
  · (try dsimp only); go_keep
  clear hK K hHeld
  have hHeld := hNew
  clear hNew
  (try simp only [Act.put, List.setIfInBounds_toArray, List.set_cons_zero, List.set_cons_succ])
  refine wpAnyH_take (i := 7) (v := ?_) rfl (by kernel_rfl) (by kernel_rfl) (by kernel_rfl) (fun _ _ _ h => h) (Or.inl ⟨by rfl, ?_⟩) (by assumption) ?_
  rotate_left
  · (intro w hSw; (try dsimp only at hSw); (try simp only [List.getElem_toArray, List.getElem_cons_zero, List.getElem_cons_succ]); go_simp; (try with_reducible rfl))
  (try simp only [List.getElem_toArray, List.getElem_cons_zero, List.getElem_cons_succ, Act.put, List.setIfInBounds_toArray, List.set_cons_zero, List.set_cons_succ])
  refine wpAnyH_take (i := 8) (v := ?_) rfl (by kernel_rfl) (by kernel_rfl) (by kernel_rfl) (fun _ _ _ h => h) (Or.inl ⟨by rfl, ?_⟩) (by assumption) ?_
  rotate_left
  · (intro w hSw; (try dsimp only at hSw); (try simp only [List.getElem_toArray, List.getElem_cons_zero, List.getElem_cons_succ]); go_simp; (try with_reducible rfl))
  (try simp only [List.getElem_toArray, List.getElem_cons_zero, List.getElem_cons_succ, Act.put, List.setIfInBounds_toArray, List.set_cons_zero, List.set_cons_succ])
  refine wpAnyH_take (i := 9) (v := ?_) rfl (by kernel_rfl) (by kernel_rfl) (by kernel_rfl) (fun _ _ _ h => h) (Or.inl ⟨by rfl, ?_⟩) (by assumption) ?_
  rotate_left
  · (intro w hSw; (try dsimp only at hSw); (try simp only [List.getElem_toArray, List.getElem_cons_zero, List.getElem_cons_succ]); go_simp; (try with_reducible rfl))
  (try simp only [List.getElem_toArray, List.getElem_cons_zero, List.getElem_cons_succ, Act.put, List.setIfInBounds_toArray, List.set_cons_zero, List.set_cons_succ])
  refine wpAnyH_take (i := 10) (v := ?_) rfl (by kernel_rfl) (by kernel_rfl) (by kernel_rfl) (fun _ _ _ h => h) (Or.inl ⟨by rfl, ?_⟩) (by assumption) ?_
  rotate_left
  · (intro w hSw; (try dsimp only at hSw); (try simp only [List.getElem_toArray, List.getElem_cons_zero, List.getElem_cons_succ]); go_simp; (try with_reducible rfl))
  (try simp only [List.getElem_toArray, List.getElem_cons_zero, List.getElem_cons_succ, Act.put, List.setIfInBounds_toArray, List.set_cons_zero, List.set_cons_succ])
  refine wpAnyH_take (i := 11) (v := ?_) rfl (by kernel_rfl) (by kernel_rfl) (by kernel_rfl) (fun _ _ _ h => h) (Or.inl ⟨by rfl, ?_⟩) (by assumption) ?_
  rotate_left
  · (intro w hSw; (try dsimp only at hSw); (try simp only [List.getElem_toArray, List.getElem_cons_zero, List.getElem_cons_succ]); go_simp; (try with_reducible rfl))
  (try simp only [List.getElem_toArray, List.getElem_cons_zero, List.getElem_cons_succ, Act.put, List.setIfInBounds_toArray, List.set_cons_zero, List.set_cons_succ])
  refine wpAnyH_done (by kernel_rfl) ?_ _
  clear hHeld s1
  obtain ⟨UL, hUL⟩ : ∃ UL, UL = us.length := ⟨_, rfl⟩
  have hag : (agreeL p b != []) = decide (0 < UL) := by
   rw [<- HAL.out, hUL]
   cases us <;> simp
  have HAG := Lib.hid hag
  rw [<- hUL] at n1
  have HLD := HH1.out.below.size
  have hd7 : w7.heap[D]? = some (.deferred (some [])) := blk_later HB7.out HDF.out
  have HD7 := Lib.hid hd7
  have hDw : V <= D := by omega
  clear hUL hag hd7 HLD
  by_cases hz : UL = 0
  · subst hz
    gi_wp2_with fail
    refine wpIn_wide.2 (wp_normal ?_)
    go_quiet (fail)
    gi_wp2_with fail
    have hbl : Below w.heap.size w w7 := HH1.out.below.trans (HB7.out.mono HH1.out.below.size)
    refine leave_ret (blk_drewN HD7.out _) ⟨.tuple #[av, mv, .bool false], by simp [results, Tryz.results31, go_sem], ⟨av, mv, by rw [HAG.out]; rfl, ?_, ?_⟩, ?_⟩
    · exact ((HIA.out.later (bdrewN (Below.refl _ _) _)).put (blk_drewN HD7.out _) _)
    · exact ((HIM.out.later (bdrewN (Below.refl _ _) _)).put (blk_drewN HD7.out _) _)
    · exact ((⟨bdrewN hbl _, fun q hq => by cases hq⟩ : Held w [] (w7.drewN _)).put (.deferred none) (D := D) (by have := HV.out; omega) (fun q hq => by cases hq)).below
  · have hpos : (0 : Int) < (UL : Int) := by omega
    gi_wp2_with fail
    refine wpIn_wide.2 (wp_normal ?_)
    go_quiet (fail)
    gi_wp2_with fail
    have hbl : Below w.heap.size w w7 := HH1.out.below.trans (HB7.out.mono HH1.out.below.size)
    refine leave_ret (blk_drewN HD7.out _) ⟨.tuple #[av, mv, .bool true], by simp [results, Tryz.results31, go_sem]; omega, ⟨av, mv, by rw [HAG.out, decide_eq_true (by omega)], ?_, ?_⟩, ?_⟩
    · exact ((HIA.out.later (bdrewN (Below.refl _ _) _)).put (blk_drewN HD7.out _) _)
    · exact ((HIM.out.later (bdrewN (Below.refl _ _) _)).put (blk_drewN HD7.out _) _)
    · exact ((⟨bdrewN hbl _, fun q hq => by cases hq⟩ : Held w [] (w7.drewN _)).put (.deferred none) (D := D) (by have := HV.out; omega) (fun q hq => by cases hq)).below
end
section
set_option linter.unusedSimpArgs false
set_option linter.unusedVariables false
open Go Go.RowKit Go.Sort Go.BigFrame
attribute [local go_sem] Oper.semAt_some putAll
theorem wz_fst2 (ys : List Wz) : (ys.map wz).map (·.1) = ys.map (·.1) := by rw [List.map_map]; rfl
theorem Together_good (p : Prs) (b : Bok) (leaf : Int) (vp mv : Value) (w : World) (hp : PrsAt w.heap.size w vp p) (hb : RowsAt 2 mrkV w.heap.size w mv b.marks) (he : (checkK p b).2.2 = 0) :
  Calls Tryz.prog 11 #[vp, .agg #[.int .i64 b.leaves, .int .i64 b.chain, .int .i64 b.wlo, .int .i64 b.whi, .int .i64 b.hlo, .int .i64 b.hhi, mv], .int .i64 leaf] w fun e w' =>
   ((inI 0 (b.leaves - 1) leaf = false /\ e = .returned (.tuple #[.slice none 0 0, .slice none 0 0, .int .i64 4])) ∨
     (inI 0 (b.leaves - 1) leaf = true /\ agreeL p b = [] /\ e = .returned (.tuple #[.slice none 0 0, .slice none 0 0, .int .i64 8])) ∨
     (inI 0 (b.leaves - 1) leaf = true /\ agreeL p b ≠ [] /\ ∃ av nv, e = .returned (.tuple #[av, nv, .int .i64 0]) /\ IntsAt w' av ((mustL p b leaf.toNat).map fun (n : Nat) => (n : Int)) /\ IntsAt w' nv ((mayL p b leaf.toNat).map fun (n : Nat) => (n : Int)))) /\ Below w.heap.size w w' := by
 obtain ⟨hee, ⟨hbl1, hbl2⟩, hm8, -⟩ := fine_bok he
 have hlenM : (waysW p b (makesW p)).length <= 192 := by
  obtain ⟨-, ⟨f3, f4⟩, ⟨f5, f6⟩, -⟩ := fine_press hee
  obtain ⟨⟨f1, f2⟩, -⟩ := fine_press hee
  have h1 := mkA_len p p.fmts.length (by omega) (by omega)
  have h2 : (waysW p b (makesW p)).length <= (makesW p).length := List.length_filter_le _ _
  unfold makesW at h2 ⊢
  omega
 have HOC := Lib.hid (fun W (h1 : PrsAt W.heap.size W vp p) (h2 : RowsAt 2 mrkV W.heap.size W mv b.marks) => openCase_any p b vp mv W h1 h2 he)
 have HP := Lib.hid hp
 have HM := Lib.hid hb
 have HEK := Lib.hid he
 have HLM := Lib.hid hlenM
 obtain ⟨fv, pv, rfl, ⟨fa, fcap, rfl, -⟩, ⟨pa, pcap, rfl, -⟩, -⟩ := hp
 obtain ⟨ma, mcap, rfl, -⟩ := hb
 obtain ⟨n1, hn1⟩ : ∃ n, n = p.fmts.length := ⟨_, rfl⟩
 obtain ⟨n2, hn2⟩ : ∃ n, n = p.pprs.length := ⟨_, rfl⟩
 obtain ⟨n3, hn3⟩ : ∃ n, n = b.marks.length := ⟨_, rfl⟩
 have HN3 := Lib.hid hn3
 rw [<- hn1, <- hn2] at HP HOC ⊢
 rw [<- hn3] at HM HOC hm8 ⊢
 clear he hee hlenM hn1 hn2 hn3
 go_enter Tryz.func11, Tryz.ntmps11
 go_wp2_with fail
 have hb0 : Below w.heap.size w ((w.alloc (.cells #[.slice fa n1 fcap, .slice pa n2 pcap, .int .i64 p.trim, .int .i64 p.sheets] 25)).alloc (.cells #[.int .i64 b.leaves, .int .i64 b.chain, .int .i64 b.wlo, .int .i64 b.whi, .int .i64 b.hlo, .int .i64 b.hhi, .slice ma n3 mcap] 30)) := by exact (by repeat (first | exact Below.refl _ _ | assumption | (refine Below.alloc ?_ ?_ _; rotate_left; · (first | omega | (simp; done) | (simp; omega) | fail)) | (refine Below.setCell ?_ ?_ _; rotate_left; · (first | omega | (simp; done) | (simp; omega) | fail)) | refine Below.drew ?_ | fail))
 have hx0 : ((w.alloc (.cells #[.slice fa n1 fcap, .slice pa n2 pcap, .int .i64 p.trim, .int .i64 p.sheets] 25)).alloc (.cells #[.int .i64 b.leaves, .int .i64 b.chain, .int .i64 b.wlo, .int .i64 b.whi, .int .i64 b.hlo, .int .i64 b.hhi, .slice ma n3 mcap] 30)).heap[w.heap.size + 1]? = some (.cells #[.int .i64 b.leaves, .int .i64 b.chain, .int .i64 b.wlo, .int .i64 b.whi, .int .i64 b.hlo, .int .i64 b.hhi, .slice ma n3 mcap] 30 (0, 0)) := by exact (by repeat (first | exact heap_alloc_at _ _ _ (by (first | omega | (simp; done) | (simp; omega) | (simp at *; omega) | fail)) | assumption | rw [heap_alloc_past _ _ _ (by (first | omega | (simp; done) | (simp; omega) | (simp at *; omega) | fail))] | rw [heap_setCell_past _ _ _ _ (by (first | omega | (simp; done) | (simp; omega) | (simp at *; omega) | fail))] | fail))
 revert hb0 hx0
 generalize ((w.alloc (.cells #[.slice fa n1 fcap, .slice pa n2 pcap, .int .i64 p.trim, .int .i64 p.sheets] 25)).alloc (.cells #[.int .i64 b.leaves, .int .i64 b.chain, .int .i64 b.wlo, .int .i64 b.whi, .int .i64 b.hlo, .int .i64 b.hhi, .slice ma n3 mcap] 30)) = w0
 intro hb0 hx0
 refine (HOC.out _ (HP.out.later hb0) (HM.out.later hb0)).mono ?_
 rintro e w1 ⟨⟨wv, rfl, hwy⟩, hb1⟩
 have hb2 := hb0.trans (hb1.mono hb0.size)
 obtain ⟨zs, hz1, hz2, hz3⟩ := hwy
 obtain ⟨ys, rfl⟩ := wz_all zs (fun z hz => by
  obtain ⟨g, ⟨k, rest, e, -⟩, -⟩ := hz3 z hz
  exact ⟨_, _, _, e⟩)
 have hzl : (waysW p b (makesW p)).length = ys.length := by rw [<- hz1]; simp
 obtain ⟨va, vc, rfl⟩ : ∃ a c, wv = Value.slice a ys.length c := by
  rcases hz2.2 with ⟨rfl, h0⟩ | ⟨g, cap, cur, rfl, -⟩
  · exact ⟨_, _, by rw [<- hzl, h0]⟩
  · exact ⟨_, _, by rw [<- hzl]⟩
 have hsn : SnAt w1 p b (.slice ma n3 mcap) (.slice va ys.length vc) ys := ⟨by rw [<- wz_fst2]; exact hz1, by rw [<- hzl]; exact row_mono (by rw [<- hzl] at hz2; exact hz2) (Nat.zero_le _), fun z hz => by
  obtain ⟨g, hl, -⟩ := hz3 z hz
  exact ⟨g, hl⟩, HM.out.later hb2, by have := HLM.out; omega⟩
 have HSN := Lib.hid hsn
 have HB2 := Lib.hid hb2
 have hx1 := blk_later hb1 hx0
 have HX1 := Lib.hid hx1
 have c0 := blk_cell hx1 0
 have hs1 := hb2.size
 have hlw1 := blk_lt hx1
 obtain ⟨vn, hvn⟩ : ∃ n, n = ys.length := ⟨_, rfl⟩
 rw [<- hvn] at HSN ⊢
 clear hz1 hz2 hz3 hb0 hb1 hb2 HOC hsn hzl hvn hx0 hx1 HLM
 have hw1 : w.heap.size + 1 < w1.heap.size := hlw1
 go_wp2_with fail
 obtain ⟨w2, hw2⟩ : ∃ w2, w2 = (w1.alloc (.cells #[.int .i64 b.leaves, .int .i64 b.chain, .int .i64 b.wlo, .int .i64 b.whi, .int .i64 b.hlo, .int .i64 b.hhi, .slice ma n3 mcap, .slice va vn vc] 72)).alloc (.cells #[.int .i64 leaf] 3) := ⟨_, rfl⟩
 have hb3 : Below w1.heap.size w1 w2 := by rw [hw2]; exact (by repeat (first | exact Below.refl _ _ | assumption | (refine Below.alloc ?_ ?_ _; rotate_left; · (first | omega | (simp; done) | (simp; omega) | fail)) | (refine Below.setCell ?_ ?_ _; rotate_left; · (first | omega | (simp; done) | (simp; omega) | fail)) | refine Below.drew ?_ | fail))
 have hx2 : w2.heap[w1.heap.size]? = some (.cells #[.int .i64 b.leaves, .int .i64 b.chain, .int .i64 b.wlo, .int .i64 b.whi, .int .i64 b.hlo, .int .i64 b.hhi, .slice ma n3 mcap, .slice va vn vc] 72 (0, 0)) := by rw [hw2]; exact (by repeat (first | exact heap_alloc_at _ _ _ (by (first | omega | (simp; done) | (simp; omega) | (simp at *; omega) | fail)) | assumption | rw [heap_alloc_past _ _ _ (by (first | omega | (simp; done) | (simp; omega) | (simp at *; omega) | fail))] | rw [heap_setCell_past _ _ _ _ (by (first | omega | (simp; done) | (simp; omega) | (simp at *; omega) | fail))] | fail))
 have hx3 : w2.heap[w1.heap.size + 1]? = some (.cells #[.int .i64 leaf] 3 (0, 0)) := by rw [hw2]; exact (by repeat (first | exact heap_alloc_at _ _ _ (by (first | omega | (simp; done) | (simp; omega) | (simp at *; omega) | fail)) | assumption | rw [heap_alloc_past _ _ _ (by (first | omega | (simp; done) | (simp; omega) | (simp at *; omega) | fail))] | rw [heap_setCell_past _ _ _ _ (by (first | omega | (simp; done) | (simp; omega) | (simp at *; omega) | fail))] | fail))
 rw [<- hw2]
 have HB3 := Lib.hid (HB2.out.trans (hb3.mono HB2.out.size))
 have HSN2 := Lib.hid (HSN.out.later hb3)
 have HX2 := Lib.hid hx2
 refine (within_one 0 (b.leaves - 1) leaf _ w2 (blk_cell hx3 0)).mono ?_
 rintro e w3 ⟨rfl, rfl⟩
 obtain ⟨z, hz⟩ : ∃ z, z = inB 0 (b.leaves - 1) leaf := ⟨_, rfl⟩
 rw [<- hz]
 have HZ : Hid (inI 0 (b.leaves - 1) leaf = z) := Lib.hid hz.symm
 have hs3 := HB3.out.size
 clear c0 hw2 hb3 hx2 hx3 hz HSN hlw1 hw1 HX1
 cases z with
 | false =>
   go_wp2_with fail
   go_ret3
   exact ⟨Or.inl ⟨HZ.out, rfl⟩, HB3.out⟩
 | true =>
   have hle : 0 <= leaf /\ leaf <= b.leaves - 1 := by
    have h := HZ.out
    unfold inI at h
    simpa [Bool.and_eq_true] using h
   obtain ⟨i, hi⟩ : ∃ i : Nat, leaf = (i : Int) := ⟨leaf.toNat, by omega⟩
   subst hi
   have hib : i < b.leaves.toNat := by omega
   have c0 := blk_cell (HX2.out) 0
   have c1 := blk_cell (HX2.out) 1
   have c2 := blk_cell (HX2.out) 2
   have c3 := blk_cell (HX2.out) 3
   have c4 := blk_cell (HX2.out) 4
   have c5 := blk_cell (HX2.out) 5
   have c6 := blk_cell (HX2.out) 6
   have c7 := blk_cell (HX2.out) 7
   go_wp2_with fail
   refine (seenTogether_any p b ma n3 mcap va vn vc ys i w2 HSN2.out HEK.out HN3.out hib).mono ?_
   rintro e w4 ⟨⟨av, nv, rfl, hia, him⟩, hb4⟩
   have HIA := Lib.hid hia
   have HIM := Lib.hid him
   have HB4 := Lib.hid (HB3.out.trans (hb4.mono HB3.out.size))
   obtain ⟨q, hq⟩ : ∃ q, q = (agreeL p b != []) := ⟨_, rfl⟩
   rw [<- hq]
   have HQ := Lib.hid hq
   have hs4 := HB4.out.size
   clear hia him hb4 hq c0 c1 c2 c3 c4 c5 c6 c7 hs3
   cases q with
   | false =>
     go_wp2_with fail
     go_ret3
     exact ⟨Or.inr (Or.inl ⟨HZ.out, by simpa using HQ.out.symm, rfl⟩), HB4.out⟩
   | true =>
     go_wp2_with fail
     go_ret3
     exact ⟨Or.inr (Or.inr ⟨HZ.out, by simpa using HQ.out.symm, av, nv, rfl, HIA.out, HIM.out⟩), HB4.out⟩
end
section
set_option linter.unusedSimpArgs false
set_option linter.unusedVariables false
open Go Go.RowKit Go.Sort Go.BigFrame Go.Shelf
attribute [local go_sem] Oper.semAt_some putAll
theorem IntsAt.get {W : World} {a : Option Addr} {n cap : Nat} {xs : List Int} (h : IntsAt W (.slice a n cap) xs) {i : Nat} {x : Int} (hx : xs[i]? = some x) : ∃ g, a = some ⟨g, 0, none⟩ /\ g < W.heap.size /\ W.cell? ⟨g, i, none⟩ = some (.int .i64 x) := by
 obtain ⟨a', cap', e, hc⟩ := h
 cases e
 obtain ⟨g, h1, h2, h3⟩ := hc (fun e => by rw [e] at hx; cases hx)
 exact ⟨g, h1, h2, h3 i x hx⟩
theorem not_mem_take {xs : List Int} {k : Nat} {x z : Int} (hx : xs[k]? = some x) (h : z ∉ xs.take k) (hne : x ≠ z) : z ∉ xs.take (k + 1) := by
 rw [List.take_add_one, hx]
 simp only [Option.toList_some, List.mem_append, List.mem_singleton, not_or]
 exact ⟨h, fun e => hne e.symm⟩
theorem refHas_any (xs : List Int) (v : Value) (z : Int) (w : World) (hv : IntsAt w v xs) (hl : xs.length < 1000000) :
  Calls Tryz.prog 34 #[v, .int .i64 z] w fun e w' => e = .returned (.bool (decide (z ∈ xs))) /\ w' = w := by
 have HV := Lib.hid hv
 obtain ⟨a, cap, rfl, -⟩ := hv
 obtain ⟨n, hn⟩ : ∃ n, n = xs.length := ⟨_, rfl⟩
 have HN := Lib.hid hn
 rw [<- hn] at HV hl ⊢
 clear hn
 go_enter Tryz.func34, Tryz.ntmps34
 go_wp2_with fail
 go_loopw [5] (fun q wr => ∃ (k : Nat), k <= n /\ q = .int .i64 k /\ Hid (z ∉ xs.take k) /\ wr = w) (fun q _ => n - (intOf q).toNat)
 case atStart => exact ⟨0, by omega, rfl, (by show z ∉ _; simp), rfl⟩
 case round =>
  obtain ⟨k, hk, rfl, hT, rfl⟩ := hrel
  by_cases hlt : k < n
  · obtain ⟨x, hx⟩ : ∃ x, xs[k]? = some x := ⟨_, List.getElem?_eq_getElem (by have := HN.out; omega)⟩
    obtain ⟨g, rfl, -, q0⟩ := HV.out.get hx
    have HX := Lib.hid hx
    clear hx
    by_cases e : x = z
    · have HD : Hid (decide (z ∈ xs) = true) := Lib.hid (decide_eq_true (by rw [<- e]; exact List.mem_of_getElem? HX.out))
      have e0 : (x == z) = true := by simp [e]
      clear e hT
      go_wp2_with fail
      go_ret
      exact ⟨by rw [HD.out]; rfl, rfl⟩
    · have e0 : (x == z) = false := by simp [e]
      have HT := Lib.hid (not_mem_take HX.out hT.out e)
      clear e hT
      go_wp2_with fail
      go_roundw
      case rel => exact ⟨k + 1, by omega, by go_num, HT.out, trivial⟩
      case measure => simp [intOf]; omega
  · have HD : Hid (decide (z ∈ xs) = false) := Lib.hid (decide_eq_false (by
     have h := hT.out
     rwa [List.take_of_length_le (by have := HN.out; omega)] at h))
    clear hT
    go_wp2_with fail
    go_ret
    exact ⟨by rw [HD.out]; rfl, rfl⟩
end
section
set_option linter.unusedSimpArgs false
set_option linter.unusedVariables false
open Go Go.RowKit Go.Sort Go.BigFrame
theorem lpart_any (xs ys : List Int) (v u : Value) (w : World) (hv : IntsAt w v xs) (hu : IntsAt w u ys) (hl : xs.length < 1000000) (hl2 : ys.length < 1000000) (hsub : ∀ x ∈ xs, x ∈ ys) :
  Calls Tryz.prog 21 #[v, u] w fun e w' => e = .returned (.bool true) /\ Below w.heap.size w w' := by
 have HV := Lib.hid hv
 have HU := Lib.hid hu
 have HS := Lib.hid hsub
 obtain ⟨a, cap, rfl, -⟩ := hv
 obtain ⟨a2, cap2, rfl, -⟩ := hu
 obtain ⟨n, hn⟩ : ∃ n, n = xs.length := ⟨_, rfl⟩
 obtain ⟨n2, hn2⟩ : ∃ n, n = ys.length := ⟨_, rfl⟩
 have HN := Lib.hid hn
 have HN2 := Lib.hid hn2
 rw [<- hn] at HV hl ⊢
 rw [<- hn2] at HU hl2 ⊢
 clear hn hn2 hsub
 go_enter Tryz.func21, Tryz.ntmps21
 go_wp2_with fail
 go_loopw [5] (fun q wr => ∃ (k : Nat), k <= n /\ q = .int .i64 k /\ Hid (Below w.heap.size w wr)) (fun q _ => n - (intOf q).toNat)
 case atStart => exact ⟨0, by omega, rfl, Lib.hid (Below.refl _ _)⟩
 case round =>
  obtain ⟨k, hk, rfl, HB⟩ := hrel
  by_cases hlt : k < n
  · obtain ⟨x, hx⟩ : ∃ x, xs[k]? = some x := ⟨_, List.getElem?_eq_getElem (by have := HN.out; omega)⟩
    obtain ⟨g, rfl, -, q0⟩ := (HV.out.later HB.out).get hx
    have HX := Lib.hid (decide_eq_true (HS.out x (List.mem_of_getElem? hx)))
    clear hx
    go_wp2_with fail
    refine (refHas_any ys _ x _ (HU.out.later HB.out) (by rw [<- HN2.out]; exact hl2)).mono ?_
    rintro e w4 ⟨rfl, rfl⟩
    rw [HX.out]
    go_wp2_with fail
    go_roundw
    case rel => exact ⟨k + 1, by omega, by go_num, HB⟩
    case measure => simp [intOf]; omega
  · obtain rfl : k = n := by omega
    go_wp2_with fail
    go_ret
    exact ⟨rfl, HB.out⟩
end
section
set_option linter.unusedSimpArgs false
set_option linter.unusedVariables false
open Go Go.RowKit Go.Sort Go.BigFrame
theorem valid2_any (p : Prs) (vp : Value) (w : World) (hp : PrsAt w.heap.size w vp p) :
  Calls Tryz.prog 17 #[vp] w fun e w' => e = .returned (.bool (errP p == 0)) /\ Below w.heap.size w w' := by
 have HP := Lib.hid hp
 obtain ⟨fv, pv, rfl, ⟨a, cap, rfl, -⟩, ⟨a2, cap2, rfl, -⟩, -⟩ := hp
 obtain ⟨n1, hn1⟩ : ∃ n, n = p.fmts.length := ⟨_, rfl⟩
 obtain ⟨n2, hn2⟩ : ∃ n, n = p.pprs.length := ⟨_, rfl⟩
 rw [<- hn1, <- hn2] at HP ⊢
 clear hn1 hn2
 obtain ⟨z, hz⟩ : ∃ z, z = errP p := ⟨_, rfl⟩
 rw [<- hz]
 have HZ := Lib.hid hz
 clear hz
 go_enter Tryz.func17, Tryz.ntmps17
 go_wp2_with fail
 have hp0 : Below w.heap.size w (w.alloc (.cells #[.slice a n1 cap, .slice a2 n2 cap2, .int .i64 p.trim, .int .i64 p.sheets] 25)) := by exact (by repeat (first | exact Below.refl _ _ | assumption | (refine Below.alloc ?_ ?_ _; rotate_left; · (first | omega | (simp; done) | (simp; omega) | fail)) | (refine Below.setCell ?_ ?_ _; rotate_left; · (first | omega | (simp; done) | (simp; omega) | fail)) | refine Below.drew ?_ | fail))
 refine (refCheck2_any p _ _ (HP.out.later hp0)).mono ?_
 rintro e w2 ⟨rfl, hb⟩
 rw [show (checkP p).2.2 = z from HZ.out.symm]
 have hb2 := hp0.trans (hb.mono hp0.size)
 clear hb hp0
 go_wp2_with fail
 go_ret
 exact ⟨rfl, hb2⟩
end
section
set_option linter.unusedSimpArgs false
set_option linter.unusedVariables false
open Go
abbrev yN {α : Type} (l : Tr α) (x : Option α) (r : Tr α) : Tr α := Tr.node l x r
abbrev yL {α : Type} : Tr α := Tr.leaf
abbrev yI (n : Nat) : V := V.lit (Value.int IntKind.i64 (Int.ofNat n))
abbrev yM (n : Nat) : V := V.lit (Value.int IntKind.i64 (Int.negSucc n))
abbrev yF : V := V.lit (Value.bool Bool.false)
abbrev yT : V := V.lit (Value.bool Bool.true)
abbrev yS (a b c d : Nat) : V := V.slc a b c d Bool.true
abbrev yZ (a b c d : Nat) : V := V.slc a b c d Bool.false
abbrev yO : V := V.lit (Value.slice none 0 0)
abbrev yG (l : List V) : V := V.agg l
abbrev yU (l : List V) : V := V.tup l
abbrev yW (l : List Nat) : V := V.lit (Value.string (ByteArray.mk (Array.mk (l.map UInt8.ofNat))))
abbrev yIs (n : Nat) : Option V := some (yI n)
abbrev ySs (a b c d : Nat) : Option V := some (yS a b c d)
abbrev yZs (a b c d : Nat) : Option V := some (yZ a b c d)
end
section
set_option linter.unusedSimpArgs false
set_option linter.unusedVariables false
open Go Go.RowKit
noncomputable section
def yfA0 : Fr := ⟨.leaf, (Tryz.f16).ntmps, [], 1⟩
def yfH0 (t : TypeId) : H := h00 tab64 t
def yfA1 : Fr := (Fr.mk (yN yL (some yF) yL) 194 [] 1)
def yfH1 (t : TypeId) : H := ⟨40, 40, 40, .node yL (some (.cells tab64 t)) yL⟩
theorem yfP0 (t : TypeId) : evGc Tryz.prog 100000 (piece 0 (bodyOf Tryz.f16)) yfA0 (yfH0 t) [0] = .ok (.normal, yfA1, yfH1 t) := by kernel_rfl
def yfA2 : Fr := (Fr.mk (yN (yN yL (some (V.ptr 45 0)) (yN (yN yL none (yN yL (some (yG [(yZ 41 0 3 3), (yZ 44 0 1 1), (yI 10), (yI 2)])) yL)) none yL)) (some yF) yL) 194 [] 1)
def yfH2 (t : TypeId) : H := ⟨46, 40, 40, .node (yN yL none (yN (yN yL none (yN (yN yL (some (Ob.cells [(yW [102, 111, 108, 105, 111]), (yW [120]), (yW [113, 117, 97, 114, 116, 111]), (yW [120, 121]), (yW [111, 99, 116, 97, 118, 111]), (yW [120, 121, 120])] 115)) yL) none yL)) none (yN yL none (yN (yN yL (some (Ob.cells [(yZ 41 0 3 3), (yZ 44 0 1 1), (yI 10), (yI 2)] 25)) yL) none yL)))) (some (.cells tab64 t)) (yN (yN yL none (yN yL none (yN (yN yL (some (Ob.cells [(yW [112, 111, 116]), (yI 400), (yI 410), (yI 300), (yI 306)] 67)) yL) none yL))) none yL)⟩
theorem yfP1 (t : TypeId) : evGc Tryz.prog 100000 (piece 1 (bodyOf Tryz.f16)) yfA1 (yfH1 t) [0, 41, 44, 45] = .ok (.normal, yfA2, yfH2 t) := by kernel_rfl
def yfA3 : Fr := (Fr.mk (yN (yN (yN (yN (yN (yN yL (yIs 0) yL) none yL) none yL) (yIs 0) (yN yL none (yN yL (some (yG [(yZ 41 0 3 3), (yZ 44 0 1 1), (yI 10), (yI 2)])) yL))) (some (V.ptr 45 0)) (yN (yN yL none (yN yL (some (yG [(yZ 41 0 3 3), (yZ 44 0 1 1), (yI 10), (yI 2)])) yL)) none (yN yL none (yN yL (some (yU [(yS 130 0 4 4), (yI 0)])) yL)))) (some yF) (yN (yN yL none (yN yL none (yN yL (some (yG [(yI 1), (yI 0), (yI 1), yF])) yL))) (ySs 130 0 4 4) (yN (yN yL none (yN yL (some (yU [(yS 130 0 4 4), (yI 0)])) yL)) none (yN yL none (yN yL (ySs 130 0 4 4) yL))))) 194 [] 1)
def yfH3 (t : TypeId) : H := ⟨132, 40, 40, .node (yN yL none (yN (yN yL none (yN (yN yL (some (Ob.cells [(yW [102, 111, 108, 105, 111]), (yW [120]), (yW [113, 117, 97, 114, 116, 111]), (yW [120, 121]), (yW [111, 99, 116, 97, 118, 111]), (yW [120, 121, 120])] 115)) yL) none yL)) none (yN yL none (yN (yN yL (some (Ob.cells [(yZ 41 0 3 3), (yZ 44 0 1 1), (yI 10), (yI 2)] 25)) yL) none yL)))) (some (.cells tab64 t)) (yN (yN yL none (yN yL none (yN (yN yL (some (Ob.cells [(yW [112, 111, 116]), (yI 400), (yI 410), (yI 300), (yI 306)] 67)) yL) none yL))) none (yN (yN (yN (yN (yN (yN yL (some (Ob.cells [(yI 0), (yI 0), (yI 0), yF, yF, (yI 0), (yI 1), (yI 0), yT, yT, (yI 0), (yI 1), (yI 1), yF, yT, (yI 0), (yI 0), (yI 1), yT, yF] 106)) yL) none yL) none yL) none yL) none yL) none yL))⟩
theorem yfP2 (t : TypeId) : evGc Tryz.prog 100000 (piece 2 (bodyOf Tryz.f16)) yfA2 (yfH2 t) [0, 41, 44, 45, 130] = .ok (.normal, yfA3, yfH3 t) := by kernel_rfl
def yfA4 : Fr := (Fr.mk (yN (yN (yN (yN (yN (yN yL (yIs 0) yL) none yL) none yL) (yIs 0) (yN (yN (yN yL (some (yU [(yS 234 0 4 4), (yI 0)])) yL) none yL) none (yN yL (some (yG [(yZ 41 0 3 3), (yZ 44 0 1 1), (yI 10), (yI 2)])) yL))) (some (V.ptr 45 0)) (yN (yN (yN (yN yL (some (yG [(yZ 41 0 3 3), (yZ 44 0 1 1), (yI 10), (yI 2)])) yL) none yL) none (yN yL (some (yG [(yZ 41 0 3 3), (yZ 44 0 1 1), (yI 10), (yI 2)])) yL)) (yIs 0) (yN (yN (yN yL (yIs 0) yL) none yL) none (yN yL (some (yU [(yS 130 0 4 4), (yI 0)])) yL)))) (some yF) (yN (yN (yN (yN (yN yL (some (yU [(yS 234 0 4 4), (yI 0)])) yL) none yL) none yL) (ySs 234 0 4 4) (yN (yN (yN yL (ySs 234 0 4 4) yL) none yL) none (yN yL (some (yG [(yI 1), (yI 0), (yI 1), yF])) yL))) (ySs 130 0 4 4) (yN (yN (yN (yN yL (some (yG [(yI 1), (yI 0), (yI 1), yF])) yL) none yL) none (yN yL (some (yU [(yS 130 0 4 4), (yI 0)])) yL)) none (yN yL none (yN yL (ySs 130 0 4 4) yL))))) 194 [] 1)
def yfH4 (t : TypeId) : H := ⟨235, 40, 40, .node (yN yL none (yN (yN yL none (yN (yN yL (some (Ob.cells [(yW [102, 111, 108, 105, 111]), (yW [120]), (yW [113, 117, 97, 114, 116, 111]), (yW [120, 121]), (yW [111, 99, 116, 97, 118, 111]), (yW [120, 121, 120])] 115)) yL) none yL)) none (yN yL none (yN (yN yL (some (Ob.cells [(yZ 41 0 3 3), (yZ 44 0 1 1), (yI 10), (yI 2)] 25)) yL) none yL)))) (some (.cells tab64 t)) (yN (yN yL none (yN yL none (yN (yN yL (some (Ob.cells [(yW [112, 111, 116]), (yI 400), (yI 410), (yI 300), (yI 306)] 67)) yL) none yL))) none (yN (yN (yN (yN (yN (yN yL (some (Ob.cells [(yI 0), (yI 0), (yI 0), yF, yF, (yI 0), (yI 1), (yI 0), yT, yT, (yI 0), (yI 1), (yI 1), yF, yT, (yI 0), (yI 0), (yI 1), yT, yF] 106)) yL) none yL) none yL) none yL) none (yN (yN yL none (yN yL none (yN yL (some (Ob.cells [(yI 2), (yM 2), (yI 7), (yM 5)] 3)) yL))) none yL)) none yL))⟩
theorem yfP3 (t : TypeId) : evGc Tryz.prog 100000 (piece 3 (bodyOf Tryz.f16)) yfA3 (yfH3 t) [0, 41, 44, 45, 130, 234] = .ok (.normal, yfA4, yfH4 t) := by kernel_rfl
end
end
end Go.Proofs.YtpdhdgdbknnllaaGreatDoor
