/- The parts Fo, Fp, Rz, Fq of the proof, joined. It holds without conditions of its own. -/
import Derived.Test.YtpdhdgdbknnllaaGreatDoorFX18
import Derived.Test.YtpdhdgdbknnllaaGreatDoorFX10
import Derived.Deep.RegionHeld3
import Derived.Test.YtpdhdgdbknnllaaGreatDoorFX3
set_option maxRecDepth 100000
set_option maxHeartbeats 20000000
namespace Go.Proofs.YtpdhdgdbknnllaaGreatDoor
section
set_option linter.unusedSimpArgs false
set_option linter.unusedVariables false
open Go Go.RowKit Go.Sort Go.BigFrame
attribute [local go_sem] Oper.semAt_some putAll
theorem seenAll_any (b : Bok) (ma : Option Addr) (N mcap : Nat) (wv : Value) (hN : N <= 8) (w : World) :
  Calls Tryz.prog 27 #[.agg (seenC b (.slice ma N mcap) wv)] w fun e w' => e = .returned (.int .u64 ((2 ^ (3 + N) - 1 : Nat) : Int)) /\ Below w.heap.size w w' := by
 have hb0 : Below w.heap.size w (w.alloc (.cells (seenC b (.slice ma N mcap) wv) 72)) := (Below.refl _ _).alloc (Nat.le_refl _) _
 have hc := World.alloc_heap_new w (.cells (seenC b (.slice ma N mcap) wv) 72)
 have c6 : (w.alloc (.cells (seenC b (.slice ma N mcap) wv) 72)).cell? ⟨w.heap.size, 6, none⟩ = some (.slice ma N mcap) := blk_cell hc 6
 have HA := Lib.hid (fun W => SetAll_any (3 + N) (by omega) W)
 clear hc
 go_enter Tryz.func27, Tryz.ntmps27
 go_wp2_with fail
 refine ((show ((3 + N : Nat) : Int) = 3 + (N : Int) by omega) ▸ HA.out _).mono ?_
 rintro e w2 ⟨rfl, rfl⟩
 go_wp2_with fail
 go_ret
 exact ⟨rfl, hb0⟩
theorem ItC.map {α β : Type} {P : Program} {gf : Nat} {lb : Array Value} {encs : α -> Array Value} {f : β -> α} {ys : List β} {Pr : Nat -> Prop} {w₀ : World} (h : ItC P gf lb encs (ys.map f) Pr w₀) : ItC P gf lb (fun y => encs (f y)) ys Pr w₀ := by
 intro l J Jx W hsz hpr hJ hJx hY h0
 have key := h l (fun pre X W => J (ys.take pre.length) X W) (fun pre X W => Jx (ys.take pre.length) X W) W hsz hpr (fun pre X X' W W' a b c => hJ _ _ _ _ _ a b c) (fun pre X X' W W' a b c => hJx _ _ _ _ _ a b c) ?_ (by simpa using h0)
 · refine key.mono ?_
   rintro e w' ⟨hv, h⟩
   refine ⟨hv, h.imp (fun ⟨X, k⟩ => ⟨X, ?_⟩) (fun ⟨pre, X, k⟩ => ⟨_, X, k⟩)⟩
   simpa using k
 · intro pre x rest X W1 hsp hj
   have hl : pre.length < ys.length := by
    have := congrArg List.length hsp
    simp only [List.length_map, List.length_append, List.length_cons] at this
    omega
   obtain ⟨y, hy⟩ : ∃ y, ys[pre.length]? = some y := ⟨_, List.getElem?_eq_getElem hl⟩
   have hfx : f y = x := by
    have h1 : (ys.map f)[pre.length]? = (pre ++ x :: rest)[pre.length]? := by rw [hsp]
    rw [List.getElem?_map, hy] at h1
    simpa using h1
   have h2 := hY (ys.take pre.length) y (ys.drop (pre.length + 1)) X W1 (by rw [<- drop_at hy, List.take_append_drop]) hj
   have e : ys.take (pre ++ [x]).length = ys.take pre.length ++ [y] := by
    rw [List.length_append, List.length_singleton, List.take_add_one, hy]; rfl
   rw [e, <- hfx]
   exact h2
abbrev Wz := Mkw × Option Addr × Nat × Nat
abbrev wz (y : Wz) : Mkw × Value := (y.1, .slice y.2.1 y.2.2.1 y.2.2.2)
theorem wz_all : ∀ (zs : List (Mkw × Value)), (∀ z ∈ zs, ∃ a n c, z.2 = Value.slice a n c) -> ∃ ys : List Wz, ys.map wz = zs
 | [], _ => ⟨[], rfl⟩
 | z :: zs, h => by
   obtain ⟨ys, hy⟩ := wz_all zs (fun z hz => h z (List.mem_cons_of_mem _ hz))
   obtain ⟨a, n, c, e⟩ := h z (by simp)
   refine ⟨(z.1, a, n, c) :: ys, ?_⟩
   rw [List.map_cons, hy, wz, <- e]
def allS (b : Bok) : Nat := 2 ^ (3 + b.marks.length) - 1
def agreeL (p : Prs) (b : Bok) : List Mkw := (waysW p b (makesW p)).filter (agreesP p b (allS b))
theorem seenAgreeing_any (b : Bok) (mv wv : Value) (s : Nat) (w : World) :
  Calls Tryz.prog 26 #[.agg (seenC b mv wv), .int .u64 s] w fun e w' =>
   e = .returned (.func (.func 60) #[] #[.pointer (some ⟨w.heap.size, 0, none⟩), .pointer (some ⟨w.heap.size + 1, 0, none⟩)]) /\ (w.alloc (.cells (seenC b mv wv) 72)).alloc (.cells #[.int .u64 s] 79) = w' := by
 have hmf : ∀ (fn : Fn) (first cap : Array Value) (w : World), (Instr.makeFunc fn first cap).run Tryz.prog w = .ok (.func fn first cap) w := fun _ _ _ _ => rfl
 go_enter Tryz.func26, Tryz.ntmps26
 go_wp2
 go_ret
 exact ⟨rfl, rfl⟩
theorem openCase_bad (p : Prs) (b : Bok) (vp mv : Value) (w : World) (hp : PrsAt w.heap.size w vp p) (hb : RowsAt 2 mrkV w.heap.size w mv b.marks) (he : (checkK p b).2.2 ≠ 0) :
  Calls Tryz.prog 25 #[vp, .agg #[.int .i64 b.leaves, .int .i64 b.chain, .int .i64 b.wlo, .int .i64 b.whi, .int .i64 b.hlo, .int .i64 b.hhi, mv]] w fun e w' => e = .returned (.tuple #[.agg #[.int .i64 0, .int .i64 0, .int .i64 0, .int .i64 0, .int .i64 0, .int .i64 0, .slice none 0 0, .slice none 0 0], .int .i64 (checkK p b).2.2]) /\ Below w.heap.size w w' := by
 have HCB := Lib.hid (fun W (h1 : PrsAt W.heap.size W vp p) (h2 : BokAt W.heap.size W (.agg #[.int .i64 b.leaves, .int .i64 b.chain, .int .i64 b.wlo, .int .i64 b.whi, .int .i64 b.hlo, .int .i64 b.hhi, mv]) b) => foldCheckBook_any p b vp _ W h1 h2)
 obtain ⟨ek, hek⟩ : ∃ e, e = (checkK p b).2.2 := ⟨_, rfl⟩
 rw [<- hek] at he HCB ⊢
 have hne : (ek != 0) = true := by simp [he]
 have HP := Lib.hid hp
 have HM := Lib.hid hb
 obtain ⟨fv, pv, rfl, ⟨fa, fcap, rfl, -⟩, ⟨pa, pcap, rfl, -⟩, -⟩ := hp
 obtain ⟨ma, mcap, rfl, -⟩ := hb
 obtain ⟨n1, hn1⟩ : ∃ n, n = p.fmts.length := ⟨_, rfl⟩
 obtain ⟨n2, hn2⟩ : ∃ n, n = p.pprs.length := ⟨_, rfl⟩
 obtain ⟨n3, hn3⟩ : ∃ n, n = b.marks.length := ⟨_, rfl⟩
 rw [<- hn1, <- hn2] at HP HCB ⊢
 rw [<- hn3] at HM HCB ⊢
 clear he hek hn1 hn2 hn3
 go_enter Tryz.func25, Tryz.ntmps25
 go_wp2_with fail
 have hb0 : Below w.heap.size w (((w.alloc (.cells #[.slice fa n1 fcap, .slice pa n2 pcap, .int .i64 p.trim, .int .i64 p.sheets] 25)).alloc (.cells #[.int .i64 b.leaves, .int .i64 b.chain, .int .i64 b.wlo, .int .i64 b.whi, .int .i64 b.hlo, .int .i64 b.hhi, .slice ma n3 mcap] 30)).alloc (.cells #[.int .i64 0, .int .i64 0, .int .i64 0, .int .i64 0, .int .i64 0, .int .i64 0, .slice none 0 0, .slice none 0 0] 72)) := by exact (by repeat (first | exact Below.refl _ _ | assumption | (refine Below.alloc ?_ ?_ _; rotate_left; · (first | omega | (simp; done) | (simp; omega) | fail)) | (refine Below.setCell ?_ ?_ _; rotate_left; · (first | omega | (simp; done) | (simp; omega) | fail)) | refine Below.drew ?_ | fail))
 have b0 : (((w.alloc (.cells #[.slice fa n1 fcap, .slice pa n2 pcap, .int .i64 p.trim, .int .i64 p.sheets] 25)).alloc (.cells #[.int .i64 b.leaves, .int .i64 b.chain, .int .i64 b.wlo, .int .i64 b.whi, .int .i64 b.hlo, .int .i64 b.hhi, .slice ma n3 mcap] 30)).alloc (.cells #[.int .i64 0, .int .i64 0, .int .i64 0, .int .i64 0, .int .i64 0, .int .i64 0, .slice none 0 0, .slice none 0 0] 72)).heap[w.heap.size]? = some (.cells #[.slice fa n1 fcap, .slice pa n2 pcap, .int .i64 p.trim, .int .i64 p.sheets] 25) := (by repeat (first | exact heap_alloc_at _ _ _ (by (first | omega | (simp; done) | (simp; omega) | (simp at *; omega) | fail)) | assumption | rw [heap_alloc_past _ _ _ (by (first | omega | (simp; done) | (simp; omega) | (simp at *; omega) | fail))] | rw [heap_setCell_past _ _ _ _ (by (first | omega | (simp; done) | (simp; omega) | (simp at *; omega) | fail))] | fail))
 have b2 : (((w.alloc (.cells #[.slice fa n1 fcap, .slice pa n2 pcap, .int .i64 p.trim, .int .i64 p.sheets] 25)).alloc (.cells #[.int .i64 b.leaves, .int .i64 b.chain, .int .i64 b.wlo, .int .i64 b.whi, .int .i64 b.hlo, .int .i64 b.hhi, .slice ma n3 mcap] 30)).alloc (.cells #[.int .i64 0, .int .i64 0, .int .i64 0, .int .i64 0, .int .i64 0, .int .i64 0, .slice none 0 0, .slice none 0 0] 72)).heap[w.heap.size + 1]? = some (.cells #[.int .i64 b.leaves, .int .i64 b.chain, .int .i64 b.wlo, .int .i64 b.whi, .int .i64 b.hlo, .int .i64 b.hhi, .slice ma n3 mcap] 30) := (by repeat (first | exact heap_alloc_at _ _ _ (by (first | omega | (simp; done) | (simp; omega) | (simp at *; omega) | fail)) | assumption | rw [heap_alloc_past _ _ _ (by (first | omega | (simp; done) | (simp; omega) | (simp at *; omega) | fail))] | rw [heap_setCell_past _ _ _ _ (by (first | omega | (simp; done) | (simp; omega) | (simp at *; omega) | fail))] | fail))
 have b3 : (((w.alloc (.cells #[.slice fa n1 fcap, .slice pa n2 pcap, .int .i64 p.trim, .int .i64 p.sheets] 25)).alloc (.cells #[.int .i64 b.leaves, .int .i64 b.chain, .int .i64 b.wlo, .int .i64 b.whi, .int .i64 b.hlo, .int .i64 b.hhi, .slice ma n3 mcap] 30)).alloc (.cells #[.int .i64 0, .int .i64 0, .int .i64 0, .int .i64 0, .int .i64 0, .int .i64 0, .slice none 0 0, .slice none 0 0] 72)).heap[w.heap.size + 1 + 1]? = some (.cells #[.int .i64 0, .int .i64 0, .int .i64 0, .int .i64 0, .int .i64 0, .int .i64 0, .slice none 0 0, .slice none 0 0] 72) := (by repeat (first | exact heap_alloc_at _ _ _ (by (first | omega | (simp; done) | (simp; omega) | (simp at *; omega) | fail)) | assumption | rw [heap_alloc_past _ _ _ (by (first | omega | (simp; done) | (simp; omega) | (simp at *; omega) | fail))] | rw [heap_setCell_past _ _ _ _ (by (first | omega | (simp; done) | (simp; omega) | (simp at *; omega) | fail))] | fail))
 have hsz : (((w.alloc (.cells #[.slice fa n1 fcap, .slice pa n2 pcap, .int .i64 p.trim, .int .i64 p.sheets] 25)).alloc (.cells #[.int .i64 b.leaves, .int .i64 b.chain, .int .i64 b.wlo, .int .i64 b.whi, .int .i64 b.hlo, .int .i64 b.hhi, .slice ma n3 mcap] 30)).alloc (.cells #[.int .i64 0, .int .i64 0, .int .i64 0, .int .i64 0, .int .i64 0, .int .i64 0, .slice none 0 0, .slice none 0 0] 72)).heap.size = w.heap.size + 3 := by simp
 revert hb0 b0 b2 b3 hsz
 generalize (((w.alloc (.cells #[.slice fa n1 fcap, .slice pa n2 pcap, .int .i64 p.trim, .int .i64 p.sheets] 25)).alloc (.cells #[.int .i64 b.leaves, .int .i64 b.chain, .int .i64 b.wlo, .int .i64 b.whi, .int .i64 b.hlo, .int .i64 b.hhi, .slice ma n3 mcap] 30)).alloc (.cells #[.int .i64 0, .int .i64 0, .int .i64 0, .int .i64 0, .int .i64 0, .int .i64 0, .slice none 0 0, .slice none 0 0] 72)) = w0
 intro hb0 b0 b2 b3 hsz
 refine (HCB.out _ (HP.out.later hb0) ⟨_, rfl, HM.out.later hb0⟩).mono ?_
 rintro e w1 ⟨rfl, hb1⟩
 have hb2 := hb0.trans (hb1.mono hb0.size)
 have b0 := blk_later hb1 b0
 have b2 := blk_later hb1 b2
 have b3 := blk_later hb1 b3
 have hs1 := hb1.size
 clear hb0 hb1
 have k0 := blk_cell b2 0
 have k1 := blk_cell b2 1
 have k2 := blk_cell b2 2
 have k3 := blk_cell b2 3
 have k4 := blk_cell b2 4
 have k5 := blk_cell b2 5
 have k6 := blk_cell b2 6
 have p0 := blk_cell b0 0
 have p1 := blk_cell b0 1
 have p2 := blk_cell b0 2
 have p3 := blk_cell b0 3
 have l0 := blk_lt b0
 have l2 := blk_lt b2
 have l3 := blk_lt b3
 clear HCB
 have z0 := blk_cell b3 0
 have z1 := blk_cell b3 1
 have z2 := blk_cell b3 2
 have z3 := blk_cell b3 3
 have z4 := blk_cell b3 4
 have z5 := blk_cell b3 5
 have z6 := blk_cell b3 6
 have z7 := blk_cell b3 7
 have r0 := blk_free b3 0
 have r1 := blk_free b3 1
 have r2 := blk_free b3 2
 have r3 := blk_free b3 3
 have r4 := blk_free b3 4
 have r5 := blk_free b3 5
 have r6 := blk_free b3 6
 have r7 := blk_free b3 7
 go_wp2_with fail
 obtain ⟨W8, hW8⟩ : ∃ x, x = ((((((((w1.setCell ⟨w.heap.size + 1 + 1, 0, none⟩ (.int .i64 0)).setCell ⟨w.heap.size + 1 + 1, 1, none⟩ (.int .i64 0)).setCell ⟨w.heap.size + 1 + 1, 2, none⟩ (.int .i64 0)).setCell ⟨w.heap.size + 1 + 1, 3, none⟩ (.int .i64 0)).setCell ⟨w.heap.size + 1 + 1, 4, none⟩ (.int .i64 0)).setCell ⟨w.heap.size + 1 + 1, 5, none⟩ (.int .i64 0)).setCell ⟨w.heap.size + 1 + 1, 6, none⟩ (.slice none 0 0)).setCell ⟨w.heap.size + 1 + 1, 7, none⟩ (.slice none 0 0)) := ⟨_, rfl⟩
 have hS : W8.heap[w.heap.size + 1 + 1]? = some (.cells #[.int .i64 0, .int .i64 0, .int .i64 0, .int .i64 0, .int .i64 0, .int .i64 0, .slice none 0 0, .slice none 0 0] 72) := by
  rw [hW8]
  have := (blk_set (blk_set (blk_set (blk_set (blk_set (blk_set (blk_set (blk_set b3 0 (.int .i64 0)) 1 (.int .i64 0)) 2 (.int .i64 0)) 3 (.int .i64 0)) 4 (.int .i64 0)) 5 (.int .i64 0)) 6 (.slice none 0 0)) 7 (.slice none 0 0))
  simpa using this
 have hO : OnlyIn (fun j => j = w.heap.size + 1 + 1) w1 W8 := by rw [hW8]; exact ((((((((OnlyIn.setCell (X := fun j => j = w.heap.size + 1 + 1) w1 ⟨w.heap.size + 1 + 1, 0, none⟩ _ rfl).trans (OnlyIn.setCell _ ⟨w.heap.size + 1 + 1, 1, none⟩ _ rfl)).trans (OnlyIn.setCell _ ⟨w.heap.size + 1 + 1, 2, none⟩ _ rfl)).trans (OnlyIn.setCell _ ⟨w.heap.size + 1 + 1, 3, none⟩ _ rfl)).trans (OnlyIn.setCell _ ⟨w.heap.size + 1 + 1, 4, none⟩ _ rfl)).trans (OnlyIn.setCell _ ⟨w.heap.size + 1 + 1, 5, none⟩ _ rfl)).trans (OnlyIn.setCell _ ⟨w.heap.size + 1 + 1, 6, none⟩ _ rfl)).trans (OnlyIn.setCell _ ⟨w.heap.size + 1 + 1, 7, none⟩ _ rfl))
 rw [<- hW8]
 have y0 := blk_cell hS 0
 have y1 := blk_cell hS 1
 have y2 := blk_cell hS 2
 have y3 := blk_cell hS 3
 have y4 := blk_cell hS 4
 have y5 := blk_cell hS 5
 have y6 := blk_cell hS 6
 have y7 := blk_cell hS 7
 exact bodyPost_ret (v := .tuple #[.agg #[.int .i64 0, .int .i64 0, .int .i64 0, .int .i64 0, .int .i64 0, .int .i64 0, .slice none 0 0, .slice none 0 0], .int .i64 ek]) (by simp [results, Tryz.results25, go_sem, y0, y1, y2, y3, y4, y5, y6, y7]) rfl ⟨rfl, hO.below hb2 hb2.size (fun k hk => by omega)⟩
end
section
set_option linter.unusedSimpArgs false
set_option linter.unusedVariables false
open Go Go.RowKit Go.Sort Go.BigFrame
attribute [local go_sem] Oper.semAt_some putAll
theorem wp_normal {P : Program} {c : Code} {Q : Exit -> Act -> World -> Prop} {a : Act} {w : World} (h : c.wp P (fun e a' w' => match e with | .normal => Q .normal a' w' | _ => False) a w) : c.wp P Q a w :=
 wp_mono h (fun e a' w' hq => by cases e <;> first | exact hq | exact hq.elim)
theorem agree_take (p : Prs) (b : Bok) (A : Mkw -> Bool) : ∀ (ys : List Wz), ((ys.filter fun y => A y.1).map (·.1)) = (ys.map (·.1)).filter A
 | [] => rfl
 | y :: ys => by
   rw [List.filter_cons, List.map_cons, List.filter_cons]
   split
   · rw [List.map_cons, agree_take p b A ys]
   · rw [agree_take p b A ys]
theorem Agree_good (p : Prs) (b : Bok) (vp mv : Value) (w : World) (hp : PrsAt w.heap.size w vp p) (hb : RowsAt 2 mrkV w.heap.size w mv b.marks) (he : (checkK p b).2.2 = 0) :
  Calls Tryz.prog 8 #[vp, .agg #[.int .i64 b.leaves, .int .i64 b.chain, .int .i64 b.wlo, .int .i64 b.whi, .int .i64 b.hlo, .int .i64 b.hhi, mv]] w fun e w' => (∃ v, e = .returned (.tuple #[v, .int .i64 0]) /\ w'.ownsRow w.heap.size 50 4 v (agreeL p b).length (mkCells (agreeL p b))) /\ Below w.heap.size w w' := by
 obtain ⟨hee, hbl, hm8, -⟩ := fine_bok he
 have hlenM : (waysW p b (makesW p)).length <= 192 := by
  obtain ⟨-, ⟨f3, f4⟩, ⟨f5, f6⟩, -⟩ := fine_press hee
  obtain ⟨⟨f1, f2⟩, -⟩ := fine_press hee
  have h1 := mkA_len p p.fmts.length (by omega) (by omega)
  have h2 : (waysW p b (makesW p)).length <= (makesW p).length := List.length_filter_le _ _
  unfold makesW at h2 ⊢
  omega
 have HOC := Lib.hid (fun W (h1 : PrsAt W.heap.size W vp p) (h2 : RowsAt 2 mrkV W.heap.size W mv b.marks) => openCase_any p b vp mv W h1 h2 he)
 have HP := Lib.hid hp
 have HM := Lib.hid hb
 have HEK := Lib.hid he
 have HLM := Lib.hid hlenM
 obtain ⟨fv, pv, rfl, ⟨fa, fcap, rfl, -⟩, ⟨pa, pcap, rfl, -⟩, -⟩ := hp
 obtain ⟨ma, mcap, rfl, -⟩ := hb
 obtain ⟨n1, hn1⟩ : ∃ n, n = p.fmts.length := ⟨_, rfl⟩
 obtain ⟨n2, hn2⟩ : ∃ n, n = p.pprs.length := ⟨_, rfl⟩
 obtain ⟨n3, hn3⟩ : ∃ n, n = b.marks.length := ⟨_, rfl⟩
 have HN3 := Lib.hid hn3
 rw [<- hn1, <- hn2] at HP HOC ⊢
 rw [<- hn3] at HM HOC hm8 ⊢
 clear he hee hbl hlenM hn1 hn2 hn3
 refine (callsIn_wide (n := 10)).1 ?_
 refine callsIn_of_wp_marks Tryz.func8 rfl trivial ?_ rfl
 simp only [Tryz.ntmps8, List.size_toArray, List.length_cons, List.length_nil, Nat.reduceAdd, Nat.reduceSub, Array.replicate_succ, Array.replicate_zero, List.push_toArray, List.append_toArray, List.nil_append, List.cons_append]
 gi_wp2_with fail
 have hb0 : Below w.heap.size w ((w.alloc (.cells #[.slice fa n1 fcap, .slice pa n2 pcap, .int .i64 p.trim, .int .i64 p.sheets] 25)).alloc (.cells #[.int .i64 b.leaves, .int .i64 b.chain, .int .i64 b.wlo, .int .i64 b.whi, .int .i64 b.hlo, .int .i64 b.hhi, .slice ma n3 mcap] 30)) := by exact (by repeat (first | exact Below.refl _ _ | assumption | (refine Below.alloc ?_ ?_ _; rotate_left; · (first | omega | (simp; done) | (simp; omega) | fail)) | (refine Below.setCell ?_ ?_ _; rotate_left; · (first | omega | (simp; done) | (simp; omega) | fail)) | refine Below.drew ?_ | fail))
 revert hb0
 generalize ((w.alloc (.cells #[.slice fa n1 fcap, .slice pa n2 pcap, .int .i64 p.trim, .int .i64 p.sheets] 25)).alloc (.cells #[.int .i64 b.leaves, .int .i64 b.chain, .int .i64 b.wlo, .int .i64 b.whi, .int .i64 b.hlo, .int .i64 b.hhi, .slice ma n3 mcap] 30)) = w0
 intro hb0
 refine ⟨trivial, (callsIn_wide.2 (HOC.out _ (HP.out.later hb0) (HM.out.later hb0))).mono ?_⟩
 rintro e w1 ⟨⟨wv, rfl, hwy⟩, hb1⟩
 have hb2 := hb0.trans (hb1.mono hb0.size)
 obtain ⟨zs, hz1, hz2, hz3⟩ := hwy
 obtain ⟨ys, rfl⟩ := wz_all zs (fun z hz => by
  obtain ⟨g, ⟨k, rest, e, -⟩, -⟩ := hz3 z hz
  exact ⟨_, _, _, e⟩)
 obtain ⟨va, vn, vc, rfl⟩ : ∃ a n c, wv = Value.slice a n c := by
  rcases hz2.2 with ⟨rfl, -⟩ | ⟨g, cap, cur, rfl, -⟩
  · exact ⟨_, _, _, rfl⟩
  · exact ⟨_, _, _, rfl⟩
 have HZ1 := Lib.hid hz1
 have HZ2 := Lib.hid hz2
 have HZ3 := Lib.hid hz3
 have HB2 := Lib.hid hb2
 have hs1 := hb2.size
 clear hz1 hz2 hz3 hb0 hb1 hb2 HOC
 gi_wp2_with fail
 obtain ⟨V, hV⟩ : ∃ V, V = w1.heap.size := ⟨_, rfl⟩
 have hbw : Below w1.heap.size w1 ((w1.alloc (.cells #[.int .i64 b.leaves, .int .i64 b.chain, .int .i64 b.wlo, .int .i64 b.whi, .int .i64 b.hlo, .int .i64 b.hhi, .slice ma n3 mcap, .slice va vn vc] 72)).alloc (.cells #[.slice none 0 0] 31)).drew := Below.drew (by exact (by repeat (first | exact Below.refl _ _ | assumption | (refine Below.alloc ?_ ?_ _; rotate_left; · (first | omega | (simp; done) | (simp; omega) | fail)) | (refine Below.setCell ?_ ?_ _; rotate_left; · (first | omega | (simp; done) | (simp; omega) | fail)) | refine Below.drew ?_ | fail)))
 have hz2 : ((w1.alloc (.cells #[.int .i64 b.leaves, .int .i64 b.chain, .int .i64 b.wlo, .int .i64 b.whi, .int .i64 b.hlo, .int .i64 b.hhi, .slice ma n3 mcap, .slice va vn vc] 72)).alloc (.cells #[.slice none 0 0] 31)).drew.heap.size = V + 2 := by rw [hV]; show (World.alloc _ _).heap.size = _; simp
 have h6 : ((w1.alloc (.cells #[.int .i64 b.leaves, .int .i64 b.chain, .int .i64 b.wlo, .int .i64 b.whi, .int .i64 b.hlo, .int .i64 b.hhi, .slice ma n3 mcap, .slice va vn vc] 72)).alloc (.cells #[.slice none 0 0] 31)).drew.heap[V]? = some (.cells #[.int .i64 b.leaves, .int .i64 b.chain, .int .i64 b.wlo, .int .i64 b.whi, .int .i64 b.hlo, .int .i64 b.hhi, .slice ma n3 mcap, .slice va vn vc] 72 (0, 0)) := by rw [hV]; show (World.alloc _ _).heap[_]? = _; exact (by repeat (first | exact heap_alloc_at _ _ _ (by (first | omega | (simp; done) | (simp; omega) | fail)) | (refine (heap_alloc_past _ _ _ ?_).trans ?_; · (first | omega | (simp; done) | (simp; omega) | fail)) | fail))
 have hL : ((w1.alloc (.cells #[.int .i64 b.leaves, .int .i64 b.chain, .int .i64 b.wlo, .int .i64 b.whi, .int .i64 b.hlo, .int .i64 b.hhi, .slice ma n3 mcap, .slice va vn vc] 72)).alloc (.cells #[.slice none 0 0] 31)).drew.heap[V + 1]? = some (.cells #[.slice none 0 0] 31) := by rw [hV]; show (World.alloc _ _).heap[_]? = _; exact (by repeat (first | exact heap_alloc_at _ _ _ (by (first | omega | (simp; done) | (simp; omega) | fail)) | (refine (heap_alloc_past _ _ _ ?_).trans ?_; · (first | omega | (simp; done) | (simp; omega) | fail)) | fail))
 simp only [World.size_alloc, <- hV]
 rw [<- hV] at hs1
 have HV := Lib.hid hV
 clear hV
 refine wpIn_wide.2 (wp_normal ?_)
 refine wp_region_held_drew (S := fun u => u.cell? ⟨V, 0, none⟩ = some (.int .i64 b.leaves) /\ u.cell? ⟨V, 1, none⟩ = some (.int .i64 b.chain) /\ u.cell? ⟨V, 2, none⟩ = some (.int .i64 b.wlo) /\ u.cell? ⟨V, 3, none⟩ = some (.int .i64 b.whi) /\ u.cell? ⟨V, 4, none⟩ = some (.int .i64 b.hlo) /\ u.cell? ⟨V, 5, none⟩ = some (.int .i64 b.hhi) /\ u.cell? ⟨V, 6, none⟩ = some (.slice ma n3 mcap) /\ u.cell? ⟨V, 7, none⟩ = some (.slice va vn vc)) (by kernel_rfl) ?_ (fun hHeld => ?_)
 · exact ⟨blk_cell h6 0, blk_cell h6 1, blk_cell h6 2, blk_cell h6 3, blk_cell h6 4, blk_cell h6 5, blk_cell h6 6, blk_cell h6 7⟩
 have HB2' := Lib.hid (HB2.out.trans (hbw.mono HB2.out.size))
 revert hbw hz2 h6 hL HB2' hHeld
 generalize ((w1.alloc (.cells #[.int .i64 b.leaves, .int .i64 b.chain, .int .i64 b.wlo, .int .i64 b.whi, .int .i64 b.hlo, .int .i64 b.hhi, .slice ma n3 mcap, .slice va vn vc] 72)).alloc (.cells #[.slice none 0 0] 31)).drew = w3
 intro hbw hz2 h6 hL HB3 hHeld
 have HBW := Lib.hid hbw
 have H6 := Lib.hid h6
 have HL := Lib.hid hL
 clear hbw h6 hL
 refine wpAnyH_take (i := 0) (v := ?_) rfl (by kernel_rfl) (by kernel_rfl) (by kernel_rfl) (fun _ _ _ h => h) (Or.inl ⟨by rfl, ?_⟩) (by assumption) ?_
 rotate_left
 · (intro w hSw; (try dsimp only at hSw); go_simp; (try with_reducible rfl))
 (try simp only [Act.put, List.setIfInBounds_toArray, List.set_cons_zero, List.set_cons_succ])
 refine wpAnyH_take (i := 1) (v := ?_) rfl (by kernel_rfl) (by kernel_rfl) (by kernel_rfl) (fun _ _ _ h => h) (Or.inl ⟨by rfl, ?_⟩) (by assumption) ?_
 rotate_left
 · (intro w hSw; (try dsimp only at hSw); go_simp; (try with_reducible rfl))
 (try simp only [Act.put, List.setIfInBounds_toArray, List.set_cons_zero, List.set_cons_succ])
 refine wpAnyH_ready (rs := [2]) (by kernel_rfl) (by simp) ?_
 refine AllReadyH.cons rfl (fun K hK => ?_) AllReadyH.nil
 go_simp
 refine (seenAll_any b ma n3 mcap (.slice va vn vc) hm8 _).mono ?_
 rintro e w4 ⟨rfl, hb4⟩
 obtain ⟨s, hs⟩ : ∃ s, s = 2 ^ (3 + n3) - 1 := ⟨_, rfl⟩
 rw [<- hs]
 have HSA := Lib.hid hs
 have h6 := blk_later hb4 H6.out
 have k0 := blk_cell (h6) 0
 have k1 := blk_cell (h6) 1
 have k2 := blk_cell (h6) 2
 have k3 := blk_cell (h6) 3
 have k4 := blk_cell (h6) 4
 have k5 := blk_cell (h6) 5
 have k6 := blk_cell (h6) 6
 have k7 := blk_cell (h6) 7
 have HB4 := Lib.hid hb4
 clear hs hb4 h6
 dsimp only
 go_simp
 refine hK.out _ _ ?_ (fun hNew => ?_)
 · (try dsimp only); go_keep
 clear hK K hHeld
 have hHeld := hNew
 clear hNew
 (try simp only [Act.put, List.setIfInBounds_toArray, List.set_cons_zero, List.set_cons_succ])
 refine wpAnyH_ready (rs := [3]) (by kernel_rfl) (by simp) ?_
 refine AllReadyH.cons rfl (fun K hK => ?_) AllReadyH.nil
 go_simp
 refine (seenAgreeing_any b (.slice ma n3 mcap) (.slice va vn vc) s _).mono ?_
 rintro e w5 ⟨rfl, hw5⟩
 have hb5 : Below w4.heap.size w4 w5 := by rw [<- hw5]; exact (by repeat (first | exact Below.refl _ _ | assumption | (refine Below.alloc ?_ ?_ _; rotate_left; · (first | omega | (simp; done) | (simp; omega) | fail)) | (refine Below.setCell ?_ ?_ _; rotate_left; · (first | omega | (simp; done) | (simp; omega) | fail)) | refine Below.drew ?_ | fail))
 have g1 : w5.heap[w4.heap.size]? = some (.cells (seenC b (.slice ma n3 mcap) (.slice va vn vc)) 72 (0, 0)) := by rw [<- hw5]; exact (by repeat (first | exact heap_alloc_at _ _ _ (by (first | omega | (simp; done) | (simp; omega) | (simp at *; omega) | fail)) | assumption | rw [heap_alloc_past _ _ _ (by (first | omega | (simp; done) | (simp; omega) | (simp at *; omega) | fail))] | rw [heap_setCell_past _ _ _ _ (by (first | omega | (simp; done) | (simp; omega) | (simp at *; omega) | fail))] | fail))
 have g2 : w5.heap[w4.heap.size + 1]? = some (.cells #[.int .u64 s] 79 (0, 0)) := by rw [<- hw5]; exact (by repeat (first | exact heap_alloc_at _ _ _ (by (first | omega | (simp; done) | (simp; omega) | (simp at *; omega) | fail)) | assumption | rw [heap_alloc_past _ _ _ (by (first | omega | (simp; done) | (simp; omega) | (simp at *; omega) | fail))] | rw [heap_setCell_past _ _ _ _ (by (first | omega | (simp; done) | (simp; omega) | (simp at *; omega) | fail))] | fail))
 have g3 : w5.heap.size = w4.heap.size + 2 := by rw [<- hw5]; simp
 have G1 := Lib.hid g1
 have G2 := Lib.hid g2
 have G3 := Lib.hid g3
 have HB5 := Lib.hid hb5
 have h6 := blk_later hb5 (blk_later HB4.out H6.out)
 clear k0 k1 k2 k3 k4 k5 k6 k7
 have k0 := blk_cell (h6) 0
 have k1 := blk_cell (h6) 1
 have k2 := blk_cell (h6) 2
 have k3 := blk_cell (h6) 3
 have k4 := blk_cell (h6) 4
 have k5 := blk_cell (h6) 5
 have k6 := blk_cell (h6) 6
 have k7 := blk_cell (h6) 7
 clear g1 g2 g3 hb5 h6 hw5
 dsimp only
 go_simp
 refine hK.out _ _ ?_ (fun hNew => ?_)
 · (try dsimp only); go_keep
 clear hK K hHeld
 have hHeld := hNew
 clear hNew
 (try simp only [Act.put, List.setIfInBounds_toArray, List.set_cons_zero, List.set_cons_succ])
 refine wpAnyH_done (by kernel_rfl) ?_ _
 clear hHeld k0 k1 k2 k3 k4 k5 k6 k7
 gi_wp2_with fail
 have hb15 : Below w1.heap.size w1 w5 := (HBW.out.trans (HB4.out.mono HBW.out.size)).trans (HB5.out.mono (Nat.le_trans HBW.out.size HB4.out.size))
 have HBL : Below w.heap.size w w5 := HB2.out.trans (hb15.mono HB2.out.size)
 have hL5 : w5.heap[V + 1]? = some (.cells #[.slice none 0 0] 31) := blk_later HB5.out (blk_later HB4.out HL.out)
 have hz5 := HB4.out.size
 have hz6 : w4.heap.size + 2 <= w5.heap.size := by have := G3.out; omega
 have hz7 : w5.heap.size <= w4.heap.size + 2 := by have := G3.out; omega
 have hlen : (ys.map wz).length = (waysW p b (makesW p)).length := by rw [<- HZ1.out]; simp
 have hlen2 : ys.length <= 192 := by have := HLM.out; rw [List.length_map] at hlen; omega
 have hV1 : w1.heap.size <= V := by have := HV.out; omega
 have hit : ItC Tryz.prog 60 #[.pointer (some ⟨w4.heap.size, 0, none⟩), .pointer (some ⟨w4.heap.size + 1, 0, none⟩)] (fun y : Wz => #[.agg (wayOf p (wz y).1 (wz y).2)]) (ys.filter fun y => agreesP p b s y.1) (fun k => k = w4.heap.size ∨ k = w4.heap.size + 1 ∨ k < V) w5 := by
  have h := agreeing_it p b HEK.out s (by rw [HSA.out]; have := Nat.pow_le_pow_right (n := 2) (by decide) (show 3 + n3 <= 11 by omega); omega) (.slice ma n3 mcap) (.slice va vn vc) w5 w4.heap.size (w4.heap.size + 1) V (by omega) (ys.map wz) (by rw [List.length_map]; omega)
   (fun z hz => by rw [<- HZ1.out]; exact List.mem_map_of_mem hz)
   (by rw [hlen]; exact row_mono (row_later HZ2.out hb15) (Nat.zero_le _))
   (fun g hg => by have := (HZ2.out.lt g hg).2; omega)
   (fun z hz => by
    obtain ⟨g, hl, -⟩ := HZ3.out z hz
    exact ⟨g, hl.later hb15, by have := hl.lt; omega⟩)
   ((HM.out.same (fun k hk => HBL.block k hk)).mono (by omega)) G1.out G2.out
  have e : (ys.map wz).filter (fun z => agreesP p b s z.1) = (ys.filter fun y => agreesP p b s y.1).map wz := by rw [List.filter_map]; rfl
  rw [e] at h
  exact h.map
 have hAL : (ys.filter fun y => agreesP p b s y.1).map (·.1) = agreeL p b := by
  rw [agree_take p b (agreesP p b s) ys]
  unfold agreeL allS
  rw [<- HN3.out, <- HSA.out, <- HZ1.out, List.map_map]
  rfl
 have HAL := Lib.hid hAL
 have HLN := Lib.hid hlen2
 clear hlen hlen2 hAL hb15
 refine rf_list (gf := 60) (lb := #[.pointer (some ⟨w4.heap.size, 0, none⟩), .pointer (some ⟨w4.heap.size + 1, 0, none⟩)]) rfl (enters_of Tryz.func60 (by kernel_rfl) rfl)
  hit (fun _ => rfl) (fun j hj => by rcases hj with h | h | h <;> omega)
  w [] (V + 1) 31 50 4 (fun pre => pre.length) (fun pre => mkCells (pre.map (·.1))) (fun y => .cells (wayOf p y.1 (.slice y.2.1 y.2.2.1 y.2.2.2)) 83)
  (fun y bx => [(23, .agg (wayOf p y.1 (.slice y.2.1 y.2.2.1 y.2.2.2))), (9, .pointer (some ⟨bx, 0, none⟩))]) (fun q hq => by cases hq) ⟨HBL, fun q hq => by cases hq⟩ hL5 rfl rfl ?assign ?body ?done
 case assign =>
  intro l y W K' hK'
  gi_wp2_with fail
  exact hK'
 case body =>
  rintro l pre y rest bx W u hsp h1 h2 h3 hbx hlb hnb
  have n0 := blk_cell h2 0
  have d0 : W.cell? ⟨bx, 0, none⟩ = some (.int .i64 y.1.fmt) := blk_cell hbx 0
  have d1 : W.cell? ⟨bx, 1, none⟩ = some (.int .i64 y.1.ppr) := blk_cell hbx 1
  have d2 : W.cell? ⟨bx, 2, none⟩ = some (.int .i64 y.1.sheets) := blk_cell hbx 2
  have d3 : W.cell? ⟨bx, 3, none⟩ = some (.bool y.1.half) := blk_cell hbx 3
  have hlx := blk_lt hbx
  obtain ⟨ei, hi1, hi2, hi3, hi4⟩ := elemMk
  have hlen : pre.length < 200 := by
   have h6 := congrArg List.length hsp
   have h7 : (ys.filter fun y => agreesP p b s y.1).length <= ys.length := List.length_filter_le _ _
   have := HLN.out
   simp only [List.length_append, List.length_cons] at h6
   omega
  have ho : OnlyIn (fun _ => False) W (W.alloc (.cells #[.int .i64 y.1.fmt, .int .i64 y.1.ppr, .int .i64 y.1.sheets, .bool y.1.half] 50)) := OnlyIn.alloc _ _ _
  have H2 := Lib.hid h2
  have H3 := Lib.hid h3
  clear hsp
  gi_wp2_with (gi_at_builtin; refine wpListIn_append_one _ rfl _ _ 31 rfl w5.heap.size 50 ei _ 4 32 undMks hi1 hi2 hi3 hi4 rfl (by decide) u pre.length (mkCells (pre.map (·.1))) rfl (H3.out.alloc _) ⟨W.heap.size, 0, none⟩ 1 (mkC y.1) rfl rfl ?c1 ?c2 ?c3 ?c4 ?c5 ?c6)
  case c2 => simp [Value.oneCell']
  case c3 => simp only [maxLen]; omega
  case c4 => omega
  case c5 => first | omega | (simp; omega)
  case c6 =>
   rintro g capg w' hown hgrow hg
   obtain ⟨s1, s2, s3, s4⟩ := list_step (hs := w5.heap.size) (Pr := fun k => k = w4.heap.size ∨ k = w4.heap.size + 1 ∨ k < V) H2.out H3.out (by decide) ho hown hgrow (by simpa using hg) (by omega) (Nat.le_refl _) (fun j hj => by rcases hj with hj | hj | hj <;> refine ⟨by omega, by omega, by omega⟩)
   have cL := blk_cell s1 0
   have fL := blk_free s1 0
   gi_wp2_with fail
   exact ⟨h1.only2 s4 (fun j hj => ⟨by rcases hj with hj | hj <;> omega, fun q hq => by cases hq⟩), by simpa [mkCells] using s2⟩
 case done =>
  rintro D W u hD h1 h2 h3 hdef
  have n0 := blk_cell h2 0
  gi_wp2_with fail
  have h4 := h1.put (.deferred none) (D := D) (by omega) (fun q hq => by cases hq)
  have h5 := ownsRow_putObj h3 (.deferred none) hdef rfl
  rw [HAL.out, <- List.length_map (f := fun y : Wz => y.1), HAL.out] at h5
  refine leave_ret hdef ⟨.tuple #[u, .int .i64 0], by simp [results, Tryz.results8, go_sem], ⟨u, rfl, ?_⟩, h4.below⟩
  exact row_mono h5 (by omega)
end
section
set_option linter.unusedSimpArgs false
set_option linter.unusedVariables false
open Go Go.RowKit
theorem rf_law0 {P : Program} {n : Nat} {α : Type} {g : Operand} {ps : Array Tmp} {assign body : Code} {Q : Exit -> Act -> World -> Prop} {a : Act} {w : World}
  {gf : Nat} {lb : Array Value} (hg : a.eval g = .func (.func gf) #[] lb) (eg : ∀ args w, (callFunc gf args).run P w = .ok (.enter gf args) w)
  {encs : α -> Array Value} {xs : List α} {Pr : Nat -> Prop} (hit : ItC P gf lb encs xs Pr w) (hps : ∀ x, (encs x).size = ps.size) (hPr : ∀ k, Pr k -> k < w.heap.size)
  (I : List α -> World -> Prop) (Ix : Code -> List α -> World -> Prop) (Ow : World -> Nat -> Prop) (a₁ : α -> Act)
  (hOwc : ∀ pre W k, I pre W -> Ow W k -> ∃ c t f, W.heap[k]? = some (.cells c t f))
  (hI : ∀ pre (X : Nat -> Prop) W W', I pre W -> OnlyIn X W W' -> (∀ k, X k -> w.heap.size <= k /\ ¬ Ow W k) -> I pre W' /\ ∀ k, Ow W' k -> Ow W k)
  (hIx : ∀ c pre (X : Nat -> Prop) W W', Ix c pre W -> OnlyIn X W W' -> (∀ k, X k -> w.heap.size <= k) -> Ix c pre W')
  (h0 : I [] w)
  (hassign : ∀ (l : Nat) (x : α) (W : World) (K : Act -> World -> Prop), K (a₁ x) W ->
   assign.wpIn (Fence.wide.inRound l) 9 P (Exit.then K (fun _ _ _ => False)) { tmps := (ps.zip (encs x)).foldl (fun t (p, v) => t.setIfInBounds p v) a.tmps, defers := [] } W)
  (hbody : ∀ (l : Nat) (pre : List α) (x : α) (rest : List α) (W : World), xs = pre ++ x :: rest -> I pre W ->
   body.wpIn (Fence.wide.inRound l) 9 P (rfPost w.heap.size Pr Ow I Ix (pre ++ [x]) W) (a₁ x) W)
  (hdone : ∀ (D : Nat) (W : World), w.heap.size <= D -> I xs W -> W.heap[D]? = some (.deferred (some [])) -> Q .normal { a with defers := { target := .collected D, args := #[] } :: a.defers } W)
  (hstop : ∀ (D : Nat) (c : Code) (pre : List α) (W : World), w.heap.size <= D -> Ix c pre W -> W.heap[D]? = some (.deferred (some [])) -> c.wpIn Fence.wide n P Q { a with defers := { target := .collected D, args := #[] } :: a.defers } W) :
  (Code.rangeFunc g ps assign body).wpIn Fence.wide n P Q a w := by
 refine wpIn_rangeFunc ?_
 intro fn hfn
 obtain ⟨rec, hrec⟩ : ∃ rec : LoopState -> Option Code -> Loop, rec = fun st pe => { state := st, pending := pe, fn, tmps := a.tmps, params := ps, assign, body, defers := w.heap.size } := ⟨_, rfl⟩
 obtain ⟨W1, hW1⟩ : ∃ W1, (w.alloc (.deferred (some []))).alloc (.loop (rec .ready none)) = W1 := ⟨_, rfl⟩
 have hz1 : W1.heap.size = w.heap.size + 2 := by rw [<- hW1]; simp
 have hL1 : W1.heap[w.heap.size + 1]? = some (.loop (rec .ready none)) := by
  rw [<- hW1]; have := World.alloc_heap_new (w.alloc (.deferred (some []))) (.loop (rec .ready none)); rwa [World.size_alloc] at this
 have hK1 : W1.heap[w.heap.size]? = some (.deferred (some [])) := by
  rw [<- hW1]; exact (Below.heap_alloc _ _ _ (by simp)).trans (World.alloc_heap_new w _)
 have hO1 : OnlyIn (fun _ => False) w W1 := by rw [<- hW1]; exact (OnlyIn.alloc _ w _).trans (OnlyIn.alloc _ _ _)
 have hI1 : I [] W1 := (hI [] _ w W1 h0 hO1 (fun _ h => h.elim)).1
 refine ⟨w.heap.size + 1, [{ target := .collected w.heap.size, args := #[] }], W1, { target := .fn (.func gf) lb, args := #[.func (.yield (w.heap.size + 1)) #[] #[]] }, W1, gf,
  #[.func (.yield (w.heap.size + 1)) #[] #[]] ++ lb, W1, ?_, ?_, ?_, ?_, fun h => by simp [Fence.wide] at h, ?_⟩
 · rw [<- hW1, hrec]; exact run_enterLoop_outer _ _ _ _ _
 · simp only [resolve, hg]
   simp [go_sem]
 · intro f' _; trivial
 · simp [invoke, go_sem, eg]
 refine callsIn_wide.2 ((hit (w.heap.size + 1)
  (fun pre X W => I pre W /\ W.heap[w.heap.size + 1]? = some (.loop (rec .ready none)) /\ W.heap[w.heap.size]? = some (.deferred (some [])) /\ ∀ k, X k -> w.heap.size + 2 <= k /\ k < W.heap.size /\ ¬ Ow W k)
  (fun pre X W => ∃ c, Ix c pre W /\ W.heap[w.heap.size + 1]? = some (.loop (rec .done (some c))) /\ W.heap[w.heap.size]? = some (.deferred (some [])) /\ ∀ k, X k -> w.heap.size + 2 <= k /\ k < W.heap.size)
  W1 (by omega) (fun k hk => hO1.block k (hPr k hk) (fun h => h)) ?_ ?_ ?_ ⟨hI1, hL1, hK1, fun _ h => h.elim⟩).mono ?_)
 · -- J abides
   rintro pre X X' W W' ⟨hi, hl, hk, hx⟩ ho hx'
   have hlt : w.heap.size + 1 < W.heap.size := (Array.getElem?_eq_some_iff.1 hl).1
   obtain ⟨hi', how⟩ := hI pre X W W' hi ho (fun k h => ⟨by have := (hx k h).1; omega, (hx k h).2.2⟩)
   refine ⟨hi', (ho.block _ hlt (fun h => by have := (hx _ h).1; omega)).trans hl, (ho.block _ (by omega) (fun h => by have := (hx _ h).1; omega)).trans hk, fun k h => ?_⟩
   rcases hx' k h with h1 | ⟨h1, h2⟩
   · obtain ⟨a1, a2, a3⟩ := hx k h1
     exact ⟨a1, Nat.lt_of_lt_of_le a2 ho.size, fun h => a3 (how k h)⟩
   · refine ⟨by omega, h2, fun h => ?_⟩
     obtain ⟨c, t, f, e⟩ := hOwc pre W k hi (how k h)
     have := (Array.getElem?_eq_some_iff.1 e).1
     omega
 · rintro pre X X' W W' ⟨c, hi, hl, hk, hx⟩ ho hx'
   have hlt : w.heap.size + 1 < W.heap.size := (Array.getElem?_eq_some_iff.1 hl).1
   refine ⟨c, hIx c pre X W W' hi ho (fun k h => by have := (hx k h).1; omega), (ho.block _ hlt (fun h => by have := (hx _ h).1; omega)).trans hl, (ho.block _ (by omega) (fun h => by have := (hx _ h).1; omega)).trans hk, fun k h => ?_⟩
   rcases hx' k h with h1 | ⟨h1, h2⟩
   · obtain ⟨a1, a2⟩ := hx k h1
     exact ⟨a1, Nat.lt_of_lt_of_le a2 ho.size⟩
   · exact ⟨by omega, h2⟩
 · -- one round
   rintro pre x rest X W hxs ⟨hi, hl, hk, hx⟩
   have hlt : w.heap.size + 1 < W.heap.size := (Array.getElem?_eq_some_iff.1 hl).1
   have hy := run_yield (P := P) (args := encs x) hl (by rw [hrec]; exact hps x)
   rw [hrec] at hy
   refine ⟨fn, _, assign, body, hy, roundIn_of_wpIn hfn (hassign _ x W _ ?_)⟩
   clear hy
   refine ⟨_, run_beginRound hl (by rw [hrec]), ?_⟩
   obtain ⟨W2, hW2⟩ : ∃ W2, W.putObj (w.heap.size + 1) (.loop { rec .ready none with state := .busy }) = W2 := ⟨_, rfl⟩
   rw [hW2]
   have hz2 : W2.heap.size = W.heap.size := by rw [<- hW2]; simp
   have hl2 : W2.heap[w.heap.size + 1]? = some (.loop { rec .ready none with state := .busy }) := by rw [<- hW2]; exact World.putObj_heap_same (by omega)
   have hk2 : W2.heap[w.heap.size]? = some (.deferred (some [])) := by rw [<- hW2]; exact (World.putObj_heap_other (by omega)).trans hk
   have ho2 : OnlyIn (fun k => k = w.heap.size + 1) W W2 := by
    rw [<- hW2]; exact OnlyIn.putObj W _ _ rfl
   obtain ⟨hi2, how2⟩ := hI pre _ W W2 hi ho2 (fun k e => ⟨by omega, fun h => by subst e; exact loop_not_cells hl (hOwc pre W _ hi h)⟩)
   refine wpIn_mono (hbody _ pre x rest W2 hxs hi2) ?_
   have nL : ¬ Ow W2 (w.heap.size + 1) := fun h => loop_not_cells hl (hOwc pre W _ hi (how2 _ h))
   have nD : ¬ Ow W2 w.heap.size := fun h => by
    obtain ⟨c, t, f, e⟩ := hOwc pre W _ hi (how2 _ h); rw [hk] at e; cases e
   have fin : ∀ (jump : Option Code) (W3 : World), Turn w.heap.size Pr Ow W2 W3 ->
     (Instr.endRound (w.heap.size + 1) jump).run P W3 = .ok (.bool jump.isNone) (W3.putObj (w.heap.size + 1) (.loop (rec (if jump.isNone then .ready else .done) jump))) /\
     W3.heap[w.heap.size + 1]? = some (.loop { rec .ready none with state := .busy }) /\
     (W3.putObj (w.heap.size + 1) (.loop (rec (if jump.isNone then .ready else .done) jump))).heap[w.heap.size + 1]? = some (.loop (rec (if jump.isNone then .ready else .done) jump)) /\
     (W3.putObj (w.heap.size + 1) (.loop (rec (if jump.isNone then .ready else .done) jump))).heap[w.heap.size]? = some (.deferred (some [])) := fun jump W3 ht => by
    have hl3 := (ht.keeps _ (by omega) (by omega) nL).trans hl2
    have := run_endRound (P := P) jump hl3
    rw [hrec] at this ⊢
    exact ⟨this, by rw [hrec] at hl3; exact hl3, World.putObj_heap_same (Array.getElem?_eq_some_iff.1 hl3).1, (World.putObj_heap_other (by omega)).trans ((ht.keeps _ (by omega) (by omega) nD).trans hk2)⟩
   have kept3 : ∀ (W3 : World) (o : Obj), Turn w.heap.size Pr Ow W2 W3 -> Kept Pr X W (W3.putObj (w.heap.size + 1) o) := fun W3 o ht => by
    have hsz := ht.size
    refine ⟨by simp; omega, fun k hkW h => ?_⟩
    rcases h with h | h
    · have hkw := hPr k h
      exact (World.putObj_heap_other (by omega)).trans ((ht.prot k h).trans (ho2.block k hkW (by omega)))
    · obtain ⟨a1, a2, a3'⟩ := hx k h
      exact (World.putObj_heap_other (by omega)).trans ((ht.keeps k (by omega) (by omega) (fun h => a3' (how2 k h))).trans (ho2.block k hkW (by omega)))
   have leaves : ∀ (c : Code) (W3 : World), Turn w.heap.size Pr Ow W2 W3 -> Ix c (pre ++ [x]) W3 -> ∃ v w', (Instr.endRound (w.heap.size + 1) (some c)).run P W3 = .ok v w' /\
     (((Ending.returned v : Ending) = .returned (.bool true) /\ (I (pre ++ [x]) w' /\ w'.heap[w.heap.size + 1]? = some (.loop (rec .ready none)) /\ w'.heap[w.heap.size]? = some (.deferred (some [])) /\ ∀ k, X k -> w.heap.size + 2 <= k /\ k < w'.heap.size /\ ¬ Ow w' k) /\ Kept Pr X W w') ∨
       ((Ending.returned v : Ending) = .returned (.bool false) /\ (∃ c, Ix c (pre ++ [x]) w' /\ w'.heap[w.heap.size + 1]? = some (.loop (rec .done (some c))) /\ w'.heap[w.heap.size]? = some (.deferred (some [])) /\ (∀ k, X k -> w.heap.size + 2 <= k /\ k < w'.heap.size)) /\ Kept Pr X W w')) := fun c W3 ht hc => by
    obtain ⟨hr, hl3, hl4, hk4⟩ := fin (some c) W3 ht
    refine ⟨_, _, hr, .inr ⟨rfl, ⟨c, hIx c _ _ W3 _ hc (OnlyIn.putObj (X := fun k => k = w.heap.size + 1) W3 _ _ rfl) (fun k e => by omega), hl4, hk4, fun k h => ?_⟩, kept3 W3 _ ht⟩⟩
    have := hx k h
    have := ht.size
    exact ⟨by omega, by simp; omega⟩
   rintro e a3 W3 hp
   cases e with
   | normal =>
     obtain ⟨ht, hi3⟩ := hp
     obtain ⟨hr, hl3, hl4, hk4⟩ := fin none W3 ht
     obtain ⟨hi4, how4⟩ := hI _ _ W3 (W3.putObj (w.heap.size + 1) (.loop (rec (if (none : Option Code).isNone then .ready else .done) none))) hi3 (OnlyIn.putObj (X := fun k => k = w.heap.size + 1) W3 _ _ rfl) (fun k e => ⟨by omega, fun h => by subst e; exact loop_not_cells hl3 (hOwc _ W3 _ hi3 h)⟩)
     have hsz := ht.size
     refine ⟨_, _, hr, .inl ⟨rfl, ⟨hi4, hl4, hk4, fun k h => ?_⟩, kept3 W3 _ ht⟩⟩
     obtain ⟨a1, a2, a3'⟩ := hx k h
     exact ⟨a1, by simp; omega, fun h4 => a3' (how2 k (ht.owns k (by omega) (how4 k h4)))⟩
   | ret => exact leaves .ret W3 hp.1 hp.2
   | exit id => exact leaves (.exit id) W3 hp.1 hp.2
   | goto t => exact leaves (.goto t) W3 hp.1 hp.2
   | panic ch => exact hp.elim
   | outgrown => exact hp.elim
 · -- behind the iterator
   rintro e W2 ⟨⟨v, rfl⟩, (⟨X, hi, hl, hk, hx⟩ | ⟨pre, X, c, hi, hl, hk, hx⟩)⟩
   · refine ⟨none, _, by have := run_endLoop (P := P) hl (by rw [hrec]; simp); rw [hrec] at this; exact this, ?_⟩
     exact hdone _ _ (Nat.le_refl _) (hI _ _ W2 _ hi (OnlyIn.putObj (X := fun k => k = w.heap.size + 1) W2 _ _ rfl) (fun k e => ⟨by omega, fun h => by subst e; exact loop_not_cells hl (hOwc _ W2 _ hi h)⟩)).1 ((World.putObj_heap_other (by omega)).trans hk)
   · refine ⟨some c, _, by have := run_endLoop (P := P) hl (by rw [hrec]; simp); rw [hrec] at this; exact this, ?_⟩
     exact hstop _ c pre _ (Nat.le_refl _) (hIx c _ _ W2 _ hi (OnlyIn.putObj (X := fun k => k = w.heap.size + 1) W2 _ _ rfl) (fun k e => by omega)) ((World.putObj_heap_other (by omega)).trans hk)
theorem rf_some {P : Program} {n : Nat} {α : Type} {g : Operand} {ps : Array Tmp} {assign body : Code} {Q : Exit -> Act -> World -> Prop} {a : Act} {w : World}
  {gf : Nat} {lb : Array Value} (hg : a.eval g = .func (.func gf) #[] lb) (eg : ∀ args w, (callFunc gf args).run P w = .ok (.enter gf args) w)
  {encs : α -> Array Value} {xs : List α} {Pr : Nat -> Prop} (hit : ItC P gf lb encs xs Pr w) (hps : ∀ x, (encs x).size = ps.size) (hPr : ∀ k, Pr k -> k < w.heap.size)
  (w0 : World) (bs bsR : List (Nat × Obj)) (Xr : Nat -> Prop) (upd : α -> List (Nat × Value))
  (hbs : ∀ q ∈ bs, q.1 < w.heap.size) (hbsR : ∀ q ∈ bsR, q.1 < w.heap.size) (hXr : ∀ k, Xr k -> k < w.heap.size /\ ¬ Pr k) (h0 : Held w0 bs w)
  (hassign : ∀ (l : Nat) (x : α) (W : World) (K : Act -> World -> Prop), K { tmps := putAll a.tmps (upd x), defers := [] } W ->
   assign.wpIn (Fence.wide.inRound l) 9 P (Exit.then K (fun _ _ _ => False)) { tmps := (ps.zip (encs x)).foldl (fun t (p, v) => t.setIfInBounds p v) a.tmps, defers := [] } W)
  (hbody : ∀ (l : Nat) (x : α) (W : World), Held w0 bs W -> w.heap.size <= W.heap.size ->
   body.wpIn (Fence.wide.inRound l) 9 P (fun e _ W' => e = .ret /\ OnlyIn Xr W W' /\ Held w0 bsR W') { tmps := putAll a.tmps (upd x), defers := [] } W)
  (hdone : ∀ (D : Nat) (W : World), w.heap.size <= D -> Held w0 bs W -> xs = [] -> W.heap[D]? = some (.deferred (some [])) -> Q .normal { a with defers := { target := .collected D, args := #[] } :: a.defers } W)
  (hstop : ∀ (D : Nat) (W : World), w.heap.size <= D -> xs ≠ [] -> Held w0 bsR W -> W.heap[D]? = some (.deferred (some [])) -> Code.ret.wpIn Fence.wide n P Q { a with defers := { target := .collected D, args := #[] } :: a.defers } W) :
  (Code.rangeFunc g ps assign body).wpIn Fence.wide n P Q a w := by
 refine rf_law0 hg eg hit hps hPr (fun pre W => Held w0 bs W /\ pre = [] /\ w.heap.size <= W.heap.size)
  (fun c pre W => c = .ret /\ xs ≠ [] /\ Held w0 bsR W) (fun _ _ => False) (fun x => { tmps := putAll a.tmps (upd x), defers := [] }) (fun _ _ _ _ h => h.elim) ?_ ?_
  ⟨h0, rfl, Nat.le_refl _⟩ hassign ?_ ?_ ?_
 · rintro pre X W W' ⟨h1, h2, h3⟩ ho hX
   exact ⟨⟨h1.only ho (hs := w.heap.size) (fun k h => (hX k h).1) h0.below.size hbs, h2, Nat.le_trans h3 ho.size⟩, fun k h => h.elim⟩
 · rintro c pre X W W' ⟨hc, h1, h4⟩ ho hX
   exact ⟨hc, h1, h4.only ho (hs := w.heap.size) hX h0.below.size hbsR⟩
 · rintro l pre x rest W hsp ⟨h1, h2, h3⟩
   refine wpIn_mono (hbody l x W h1 h3) ?_
   rintro e a' W' ⟨rfl, ho, hh⟩
   exact ⟨Turn.of ho hXr (fun k hk => Nat.lt_of_lt_of_le (hPr k hk) h3), rfl, by rw [hsp]; simp, hh⟩
 · rintro D W hD ⟨h1, h2, -⟩ hd
   exact hdone D W hD h1 h2 hd
 · rintro D c pre W hD ⟨rfl, h1, h4⟩ hd
   exact hstop D W hD h1 h4 hd
end
section
set_option linter.unusedSimpArgs false
set_option linter.unusedVariables false
open Go Go.RowKit Go.Sort Go.BigFrame
attribute [local go_sem] Oper.semAt_some putAll
structure SnAt (W : World) (p : Prs) (b : Bok) (mv wv : Value) (ys : List Wz) : Prop where
 ways : ys.map (·.1) = waysW p b (makesW p)
 row : W.ownsRow 0 83 14 wv ys.length (wyCells p (ys.map wz))
 lv : ∀ z ∈ ys.map wz, ∃ g, LeavesAt W z.2 (lvOf p z.1) g
 mks : RowsAt 2 mrkV W.heap.size W mv b.marks
 len : ys.length <= 192
theorem SnAt.later {W W' : World} {p : Prs} {b : Bok} {mv wv : Value} {ys : List Wz} (h : SnAt W p b mv wv ys) (hb : Below W.heap.size W W') : SnAt W' p b mv wv ys :=
 ⟨h.ways, row_later h.row hb, fun z hz => (h.lv z hz).imp fun _ hl => hl.later hb, h.mks.later hb, h.len⟩
theorem SnAt.hit {W : World} {p : Prs} {b : Bok} {mv wv : Value} {ys : List Wz} (h : SnAt W p b mv wv ys) (he : (checkK p b).2.2 = 0) {s : Nat} (hs : s < 2048) {w5 : World} (hb : Below W.heap.size W w5) {sb nb : Nat}
  (g1 : w5.heap[sb]? = some (.cells (seenC b mv wv) 72 (0, 0))) (g2 : w5.heap[nb]? = some (.cells #[.int .u64 s] 79 (0, 0))) :
  ItC Tryz.prog 60 #[.pointer (some ⟨sb, 0, none⟩), .pointer (some ⟨nb, 0, none⟩)] (fun y : Wz => #[.agg (wayOf p (wz y).1 (wz y).2)]) (ys.filter fun y => agreesP p b s y.1) (fun k => k = sb ∨ k = nb ∨ k < W.heap.size) w5 := by
 have hl : (ys.map wz).length = ys.length := by simp
 have h1 := agreeing_it p b he s hs mv wv w5 sb nb W.heap.size hb.size (ys.map wz) (by have := h.len; omega)
  (fun z hz => by
   rw [<- h.ways]
   obtain ⟨y, hy, rfl⟩ := List.mem_map.1 hz
   exact List.mem_map.2 ⟨y, hy, rfl⟩)
  (by rw [hl]; exact row_later h.row hb)
  (fun g hg => (h.row.lt g hg).2)
  (fun z hz => by
   obtain ⟨g, hl⟩ := h.lv z hz
   exact ⟨g, hl.later hb, hl.lt⟩)
  (h.mks.same (fun k hk => hb.block k hk)) g1 g2
 have e : (ys.map wz).filter (fun z => agreesP p b s z.1) = (ys.filter fun y => agreesP p b s y.1).map wz := by rw [List.filter_map]; rfl
 rw [e] at h1
 exact h1.map
theorem agrees_any (p : Prs) (b : Bok) (ma : Option Addr) (mn mcap : Nat) (va : Option Addr) (vn vc : Nat) (ys : List Wz) (s : Nat) (w : World) (h : SnAt w p b (.slice ma mn mcap) (.slice va vn vc) ys) (he : (checkK p b).2.2 = 0) (hs : s < 2048) :
  Calls Tryz.prog 72 #[.agg (seenC b (.slice ma mn mcap) (.slice va vn vc)), .int .u64 s] w fun e w' => e = .returned (.bool ((ys.filter fun y => agreesP p b s y.1) != [])) /\ Below w.heap.size w w' := by
 have H := Lib.hid h
 have HE := Lib.hid he
 have HS := Lib.hid hs
 clear h he hs
 refine (callsIn_wide (n := 10)).1 ?_
 refine callsIn_of_wp_marks Tryz.func72 rfl trivial ?_ rfl
 simp only [Tryz.ntmps72, List.size_toArray, List.length_cons, List.length_nil, Nat.reduceAdd, Nat.reduceSub, Array.replicate_succ, Array.replicate_zero, List.push_toArray, List.append_toArray, List.nil_append, List.cons_append]
 gi_wp2_with fail
 have hb0 : Below w.heap.size w ((w.alloc (.cells #[.int .i64 b.leaves, .int .i64 b.chain, .int .i64 b.wlo, .int .i64 b.whi, .int .i64 b.hlo, .int .i64 b.hhi, .slice ma mn mcap, .slice va vn vc] 72)).alloc (.cells #[.bool false] 4)) := by exact (by repeat (first | exact Below.refl _ _ | assumption | (refine Below.alloc ?_ ?_ _; rotate_left; · (first | omega | (simp; done) | (simp; omega) | fail)) | (refine Below.setCell ?_ ?_ _; rotate_left; · (first | omega | (simp; done) | (simp; omega) | fail)) | refine Below.drew ?_ | fail))
 have z0 : ((w.alloc (.cells #[.int .i64 b.leaves, .int .i64 b.chain, .int .i64 b.wlo, .int .i64 b.whi, .int .i64 b.hlo, .int .i64 b.hhi, .slice ma mn mcap, .slice va vn vc] 72)).alloc (.cells #[.bool false] 4)).heap[w.heap.size + 1]? = some (.cells #[.bool false] 4) := (by repeat (first | exact heap_alloc_at _ _ _ (by (first | omega | (simp; done) | (simp; omega) | (simp at *; omega) | fail)) | assumption | rw [heap_alloc_past _ _ _ (by (first | omega | (simp; done) | (simp; omega) | (simp at *; omega) | fail))] | rw [heap_setCell_past _ _ _ _ (by (first | omega | (simp; done) | (simp; omega) | (simp at *; omega) | fail))] | fail))
 have hz : ((w.alloc (.cells #[.int .i64 b.leaves, .int .i64 b.chain, .int .i64 b.wlo, .int .i64 b.whi, .int .i64 b.hlo, .int .i64 b.hhi, .slice ma mn mcap, .slice va vn vc] 72)).alloc (.cells #[.bool false] 4)).heap.size = w.heap.size + 2 := by simp
 revert hb0 z0 hz
 generalize ((w.alloc (.cells #[.int .i64 b.leaves, .int .i64 b.chain, .int .i64 b.wlo, .int .i64 b.whi, .int .i64 b.hlo, .int .i64 b.hhi, .slice ma mn mcap, .slice va vn vc] 72)).alloc (.cells #[.bool false] 4)) = w2
 intro hb0 z0 hz
 refine ⟨trivial, (callsIn_wide.2 (seenAgreeing_any b (.slice ma mn mcap) (.slice va vn vc) s _)).mono ?_⟩
 rintro e w3 ⟨rfl, hw3⟩
 have hb5 : Below w2.heap.size w2 w3 := by rw [<- hw3]; exact (by repeat (first | exact Below.refl _ _ | assumption | (refine Below.alloc ?_ ?_ _; rotate_left; · (first | omega | (simp; done) | (simp; omega) | fail)) | (refine Below.setCell ?_ ?_ _; rotate_left; · (first | omega | (simp; done) | (simp; omega) | fail)) | refine Below.drew ?_ | fail))
 have g1 : w3.heap[w2.heap.size]? = some (.cells (seenC b (.slice ma mn mcap) (.slice va vn vc)) 72 (0, 0)) := by rw [<- hw3]; exact (by repeat (first | exact heap_alloc_at _ _ _ (by (first | omega | (simp; done) | (simp; omega) | (simp at *; omega) | fail)) | assumption | rw [heap_alloc_past _ _ _ (by (first | omega | (simp; done) | (simp; omega) | (simp at *; omega) | fail))] | rw [heap_setCell_past _ _ _ _ (by (first | omega | (simp; done) | (simp; omega) | (simp at *; omega) | fail))] | fail))
 have g2 : w3.heap[w2.heap.size + 1]? = some (.cells #[.int .u64 s] 79 (0, 0)) := by rw [<- hw3]; exact (by repeat (first | exact heap_alloc_at _ _ _ (by (first | omega | (simp; done) | (simp; omega) | (simp at *; omega) | fail)) | assumption | rw [heap_alloc_past _ _ _ (by (first | omega | (simp; done) | (simp; omega) | (simp at *; omega) | fail))] | rw [heap_setCell_past _ _ _ _ (by (first | omega | (simp; done) | (simp; omega) | (simp at *; omega) | fail))] | fail))
 have g3 : w3.heap.size = w2.heap.size + 2 := by rw [<- hw3]; simp
 obtain ⟨B2, hB2⟩ : ∃ n, n = w2.heap.size := ⟨_, rfl⟩
 have hbw : Below w.heap.size w w3 := hb0.trans (hb5.mono hb0.size)
 have hit := H.out.hit HE.out HS.out hbw g1 g2
 have z3 := blk_later hb5 z0
 rw [<- hB2] at hit g3 hz ⊢
 have hz3a : B2 + 2 <= w3.heap.size := by omega
 have hz3b : B2 = w.heap.size + 2 := by omega
 have hz3c : w.heap.size + 2 <= B2 /\ B2 <= w.heap.size + 2 := by omega
 have Z3 := Lib.hid z3
 have HBW := Lib.hid hbw
 clear hb0 hb5 g1 g2 g3 z0 z3 hz hz3b hw3 hB2 hbw
 gi_wp2_with fail
 refine rf_some (gf := 60) (lb := #[.pointer (some ⟨B2, 0, none⟩), .pointer (some ⟨B2 + 1, 0, none⟩)]) rfl (enters_of Tryz.func60 (by kernel_rfl) rfl)
  hit (fun _ => rfl) (fun j hj => by rcases hj with h | h | h <;> omega)
  w [(w.heap.size + 1, .cells #[.bool false] 4)] [(w.heap.size + 1, .cells #[.bool true] 4)] (fun k => k = w.heap.size + 1) (fun y => [(8, .agg (wayOf p (wz y).1 (wz y).2))])
  (fun q hq => by simp only [List.mem_singleton] at hq; subst hq; (simp only; omega)) (fun q hq => by simp only [List.mem_singleton] at hq; subst hq; (simp only; omega)) (fun k hk => ⟨by omega, fun h => by rcases h with h | h | h <;> omega⟩)
  ⟨HBW.out, fun q hq => by simp only [List.mem_singleton] at hq; subst hq; exact Z3.out⟩ ?assign ?body ?done ?stop
 case assign =>
  intro l y W K' hK'
  gi_wp2_with fail
  exact hK'
 case body =>
  rintro l y W h1 hlb
  have hv := h1.get 0 rfl
  have c0 := blk_cell hv 0
  have f0 := blk_free hv 0
  gi_wp2_with fail
  exact ⟨OnlyIn.setCell _ _ _ rfl, ⟨by exact (by repeat (first | (refine Below.setCell ?_ ?_ _; rotate_left; · (first | omega | (simp; done) | (simp; omega) | fail)) | (refine Below.alloc ?_ ?_ _; rotate_left; · (first | omega | (simp; done) | (simp; omega) | fail)) | refine Below.drew ?_ | exact h1.below | fail)), fun q hq => by simp only [List.mem_singleton] at hq; subst hq; exact blk_set1 hv _⟩⟩
 case done =>
  rintro D W hD h1 hx hdef
  have hv := h1.get 0 rfl
  have c0 := blk_cell hv 0
  have f0 := blk_free hv 0
  have hDl := (Array.getElem?_eq_some_iff.1 hdef).1
  have HH1 := Lib.hid h1
  have HDF := Lib.hid hdef
  have HVV := Lib.hid hv
  clear h1 hdef hv
  gi_wp2_with fail
  have hne : D ≠ w.heap.size + 1 := by omega
  have hdef8 : (W.setCell ⟨w.heap.size + 1, 0, none⟩ (.bool false)).heap[D]? = some (.deferred (some [])) := (heap_setCell_past W ⟨w.heap.size + 1, 0, none⟩ _ D hne).trans HDF.out
  have hS := blk_set1 HVV.out (.bool false)
  have hS9 : ((W.setCell ⟨w.heap.size + 1, 0, none⟩ (.bool false)).putObj D (.deferred none)).heap[w.heap.size + 1]? = some (.cells #[.bool false] 4) := (World.putObj_heap_other (fun e => hne e.symm)).trans hS
  have y0 := blk_cell hS9 0
  refine leave_ret hdef8 ⟨.bool false, by simp [results, Tryz.results72, go_sem, y0], by rw [hx]; rfl, ?_⟩
  exact ((⟨by exact (by repeat (first | (refine Below.setCell ?_ ?_ _; rotate_left; · (first | omega | (simp; done) | (simp; omega) | fail)) | (refine Below.alloc ?_ ?_ _; rotate_left; · (first | omega | (simp; done) | (simp; omega) | fail)) | refine Below.drew ?_ | exact HH1.out.below | fail)), fun q hq => by cases hq⟩ : Held w [] (W.setCell ⟨w.heap.size + 1, 0, none⟩ (.bool false))).put (.deferred none) (D := D) (by omega) (fun q hq => by cases hq)).below
 case stop =>
  rintro D W hD hx h1 hdef
  have hv := h1.get 0 rfl
  have HH1 := Lib.hid h1
  have HDF := Lib.hid hdef
  have HVV := Lib.hid hv
  clear h1 hdef hv
  gi_wp2_with fail
  have hne : D ≠ w.heap.size + 1 := by omega
  have hS9 : (W.putObj D (.deferred none)).heap[w.heap.size + 1]? = some (.cells #[.bool true] 4) := (World.putObj_heap_other (fun e => hne e.symm)).trans HVV.out
  have y0 := blk_cell hS9 0
  refine leave_ret HDF.out ⟨.bool true, by simp [results, Tryz.results72, go_sem, y0], by rw [show ((ys.filter fun y => agreesP p b s y.1) != []) = true by simpa using hx], ?_⟩
  exact (HH1.out.put (.deferred none) (D := D) (by omega) (fun q hq => by simp only [List.mem_singleton] at hq; subst hq; (simp only; omega))).below
end
end Go.Proofs.YtpdhdgdbknnllaaGreatDoor
