/- The parts Iv, Io, Iq, Ir, Tk, Tl, To of the proof, joined. It holds without conditions of its own. -/
import Derived.Test.YtpdhdgdbknnllaaGreatDoorFX9
import Derived.Test.YtpdhdgdbknnllaaGreatDoorFX3
import Derived.Test.YtpdhdgdbknnllaaGreatDoorFX8
import Derived.Deep.RegionHeld3
set_option maxRecDepth 100000
set_option maxHeartbeats 20000000
namespace Go.Proofs.YtpdhdgdbknnllaaGreatDoor
section
set_option linter.unusedSimpArgs false
set_option linter.unusedVariables false
open Go Go.RowKit Go.Sort Go.BigFrame
theorem elemInt : ∃ i, Tryz.prog.info? 3 = some i /\ i.zero = some (.int .i64 0) /\ i.size = 1 /\ i.bytes = 8 := elemOf (by kernel_rfl)
theorem undInts : Tryz.prog.underlying 36 = some (.slice 3) := by kernel_rfl
def intVs (xs : List Nat) : List Value := xs.map fun (n : Nat) => Value.int .i64 (n : Int)
def IntsAt (W : World) (v : Value) (xs : List Int) : Prop :=
 ∃ (a : Option Addr) (cap : Nat), v = .slice a xs.length cap /\ (xs ≠ [] -> ∃ g, a = some ⟨g, 0, none⟩ /\ g < W.heap.size /\ ∀ i x, xs[i]? = some x -> W.cell? ⟨g, i, none⟩ = some (.int .i64 x))
theorem ints_of_row {W : World} {base : Nat} {v : Value} {e : TypeId} {xs : List Nat} (h : W.ownsRow base e 1 v xs.length (intVs xs)) : IntsAt W v (xs.map fun (n : Nat) => (n : Int)) := by
 rcases h.2 with ⟨rfl, h0⟩ | ⟨g, cap, cur, rfl, hb, hg, rest⟩
 · exact ⟨none, 0, by rw [List.length_map, h0], fun hne => absurd (List.length_eq_zero_iff.1 h0) (fun e => hne (by rw [e]; rfl))⟩
 · refine ⟨_, cap, by rw [List.length_map], fun _ => ⟨g, rfl, blk_lt hg, fun i x hx => ?_⟩⟩
   have hc := h.cells (g := g) (by simp [Value.ownBlock])
   rw [List.getElem?_map] at hx
   obtain ⟨n, hn, rfl⟩ := Option.map_eq_some_iff.1 hx
   have := hc i (.int .i64 n) (by rw [intVs, List.getElem?_map, hn]; rfl)
   rwa [add_offi] at this
theorem IntsAt.later {W W' : World} {v : Value} {xs : List Int} (h : IntsAt W v xs) (hb : Below W.heap.size W W') : IntsAt W' v xs := by
 obtain ⟨a, cap, e, hc⟩ := h
 refine ⟨a, cap, e, fun hne => ?_⟩
 obtain ⟨g, h1, h2, h3⟩ := hc hne
 exact ⟨g, h1, Nat.lt_of_lt_of_le h2 hb.size, fun i x hx => cell_later' hb (h3 i x hx)⟩
theorem range_filter_no {p : Nat -> Bool} {k : Nat} (h : p k = false) : (List.range (k + 1)).filter p = (List.range k).filter p := by simp [List.range_succ, List.filter_append, h]
theorem range_filter_yes {p : Nat -> Bool} {k : Nat} (h : p k = true) : (List.range (k + 1)).filter p = (List.range k).filter p ++ [k] := by simp [List.range_succ, List.filter_append, h]
theorem range_filter_len (p : Nat -> Bool) (k : Nat) : ((List.range k).filter p).length <= k := by
 have := List.length_filter_le p (List.range k)
 rwa [List.length_range] at this
end
section
set_option linter.unusedSimpArgs false
set_option linter.unusedVariables false
open Go Go.RowKit Go.Sort Go.BigFrame
theorem checkK_is (p : Prs) (b : Bok) : checkK p b = if errP p ≠ 0 then (0, 0, errP p)
 else if inI 1 64 b.leaves = false then (1, 0, 7)
 else if inI 0 2 b.chain = false then (2, 0, 2)
 else if spansErr 0 2000 b.wlo b.whi b.hlo b.hhi ≠ 0 then (3, 0, spansErr 0 2000 b.wlo b.whi b.hlo b.hhi)
 else if (marksR 0 8 b.leaves b.marks).2 ≠ 0 then (4, (marksR 0 8 b.leaves b.marks).1, (marksR 0 8 b.leaves b.marks).2) else (0, 0, 0) := by
 have key : ∀ (l : List (Int × Bool)) (k : Nat), (marksErr b.leaves k l).2 = 0 ∨ (marksErr b.leaves k l).2 = 4 := by
  intro l
  induction l with
  | nil => intro k; exact Or.inl rfl
  | cons m l ih =>
    intro k
    unfold marksErr
    split
    · exact ih _
    · exact Or.inr rfl
 unfold checkK marksR
 cases inI 0 8 b.marks.length
 · simp
 · rcases key b.marks 0 with h | h <;> simp [h]
theorem foldCheckBook_any (p : Prs) (b : Bok) (vp vb : Value) (w : World) (hp : PrsAt w.heap.size w vp p) (hb : BokAt w.heap.size w vb b) :
  Calls Tryz.prog 57 #[vp, vb] w fun e w' => e = .returned (.tuple #[.int .i64 ((checkK p b).1 : Nat), .int .i64 ((checkK p b).2.1 : Nat), .int .i64 (checkK p b).2.2]) /\ Below w.heap.size w w' := by
 have HP := Lib.hid hp
 obtain ⟨fv, pv, rfl, ⟨a, cap, rfl, -⟩, ⟨a2, cap2, rfl, -⟩, -⟩ := hp
 obtain ⟨n1, hn1⟩ : ∃ n, n = p.fmts.length := ⟨_, rfl⟩
 obtain ⟨n2, hn2⟩ : ∃ n, n = p.pprs.length := ⟨_, rfl⟩
 rw [<- hn1, <- hn2] at HP ⊢
 clear hn1 hn2
 obtain ⟨mv, rfl, hm⟩ := hb
 have HM := Lib.hid hm
 clear hm
 obtain ⟨⟨r1, r2, r3⟩, hr⟩ : ∃ r, r = checkK p b := ⟨_, rfl⟩
 rw [<- hr]
 obtain ⟨ep, hep⟩ : ∃ ep, ep = errP p := ⟨_, rfl⟩
 obtain ⟨es, hes⟩ : ∃ es, es = spansErr 0 2000 b.wlo b.whi b.hlo b.hhi := ⟨_, rfl⟩
 obtain ⟨⟨m1, m2⟩, hmm⟩ : ∃ m, m = marksR 0 8 b.leaves b.marks := ⟨_, rfl⟩
 have HR : Hid ((r1, r2, r3) = if ep ≠ 0 then (0, 0, ep) else if inI 1 64 b.leaves = false then (1, 0, 7) else if inI 0 2 b.chain = false then (2, 0, 2) else if es ≠ 0 then (3, 0, es) else if m2 ≠ 0 then (4, m1, m2) else (0, 0, 0)) := Lib.hid (by
  rw [hr, checkK_is, <- hep, <- hes, <- hmm])
 have HEP := Lib.hid hep
 have HES := Lib.hid hes
 have HMM := Lib.hid hmm
 clear hr hep hes hmm
 dsimp only
 go_enter Tryz.func57, Tryz.ntmps57
 go_wp2_with fail
 have hb0 : Below w.heap.size w ((w.alloc (.cells #[.slice a n1 cap, .slice a2 n2 cap2, .int .i64 p.trim, .int .i64 p.sheets] 25)).alloc (.cells #[.int .i64 b.leaves, .int .i64 b.chain, .int .i64 b.wlo, .int .i64 b.whi, .int .i64 b.hlo, .int .i64 b.hhi, mv] 30)) := by exact (by repeat (first | exact Below.refl _ _ | assumption | (refine Below.alloc ?_ ?_ _; rotate_left; · (first | omega | (simp; done) | (simp; omega) | fail)) | (refine Below.setCell ?_ ?_ _; rotate_left; · (first | omega | (simp; done) | (simp; omega) | fail)) | refine Below.drew ?_ | fail))
 have b2 : ((w.alloc (.cells #[.slice a n1 cap, .slice a2 n2 cap2, .int .i64 p.trim, .int .i64 p.sheets] 25)).alloc (.cells #[.int .i64 b.leaves, .int .i64 b.chain, .int .i64 b.wlo, .int .i64 b.whi, .int .i64 b.hlo, .int .i64 b.hhi, mv] 30)).heap[w.heap.size + 1]? = some (.cells #[.int .i64 b.leaves, .int .i64 b.chain, .int .i64 b.wlo, .int .i64 b.whi, .int .i64 b.hlo, .int .i64 b.hhi, mv] 30) := (by repeat (first | exact heap_alloc_at _ _ _ (by (first | omega | (simp; done) | (simp; omega) | (simp at *; omega) | fail)) | assumption | rw [heap_alloc_past _ _ _ (by (first | omega | (simp; done) | (simp; omega) | (simp at *; omega) | fail))] | rw [heap_setCell_past _ _ _ _ (by (first | omega | (simp; done) | (simp; omega) | (simp at *; omega) | fail))] | fail))
 revert hb0 b2
 generalize ((w.alloc (.cells #[.slice a n1 cap, .slice a2 n2 cap2, .int .i64 p.trim, .int .i64 p.sheets] 25)).alloc (.cells #[.int .i64 b.leaves, .int .i64 b.chain, .int .i64 b.wlo, .int .i64 b.whi, .int .i64 b.hlo, .int .i64 b.hhi, mv] 30)) = w1
 intro hb0 b2
 refine (foldOpen_any p _ _ (HP.out.later hb0)).mono ?_
 rintro e w2 ⟨rfl, hb2⟩
 rw [<- HEP.out]
 have b2 := blk_later hb2 b2
 have hb3 := hb0.trans (hb2.mono hb0.size)
 have hz := blk_lt b2
 clear hb0 hb2
 by_cases h0 : ep = 0
 · have HO : Hid (openP p (.agg #[.slice a n1 cap, .slice a2 n2 cap2, .int .i64 p.trim, .int .i64 p.sheets]) = .agg #[.slice a n1 cap, .slice a2 n2 cap2, .int .i64 p.trim, .int .i64 p.sheets]) := Lib.hid (by unfold openP; rw [if_pos (HEP.out.symm.trans h0)])
   rw [HO.out]
   have HR1 : Hid ((r1, r2, r3) = if inI 1 64 b.leaves = false then (1, 0, 7) else if inI 0 2 b.chain = false then (2, 0, 2) else if es ≠ 0 then (3, 0, es) else if m2 ≠ 0 then (4, m1, m2) else (0, 0, 0)) := Lib.hid (by rw [HR.out, if_neg (by rw [h0]; decide)])
   clear HO HR HEP
   subst h0
   have b3 : (w2.alloc (.cells #[.slice a n1 cap, .slice a2 n2 cap2, .int .i64 p.trim, .int .i64 p.sheets] 122)).heap[w.heap.size + 1]? = some (.cells #[.int .i64 b.leaves, .int .i64 b.chain, .int .i64 b.wlo, .int .i64 b.whi, .int .i64 b.hlo, .int .i64 b.hhi, mv] 30) := (heap_alloc_past _ _ _ hz).trans b2
   have e0 := blk_cell b3 0
   have e1 := blk_cell b3 1
   have e2 := blk_cell b3 2
   have e3 := blk_cell b3 3
   have e4 := blk_cell b3 4
   have e5 := blk_cell b3 5
   have e6 := blk_cell b3 6
   go_wp2_with fail
   refine (within_one 1 64 b.leaves _ _ (by simp [World.cell?_alloc_at])).mono ?_
   rintro e w3 ⟨rfl, hw⟩
   have hbb : Below w2.heap.size w2 w3 := by rw [<- hw]; exact (by repeat (first | exact Below.refl _ _ | assumption | (refine Below.alloc ?_ ?_ _; rotate_left; · (first | omega | (simp; done) | (simp; omega) | fail)) | (refine Below.setCell ?_ ?_ _; rotate_left; · (first | omega | (simp; done) | (simp; omega) | fail)) | refine Below.drew ?_ | fail))
   clear hw e0 e1 e2 e3 e4 e5 e6 b3
   have b2 := blk_later hbb b2
   have hb3 := hb3.trans (hbb.mono hb3.size)
   have hz := blk_lt b2
   clear hbb
   cases h1 : inB 1 64 b.leaves with
   | false =>
     have HR2 : Hid (r1 = 1 /\ r2 = 0 /\ r3 = 7) := Lib.hid (by have := HR1.out; rw [inI_inB, h1] at this; simpa using this)
     clear HR1
     go_wp2_with fail
     go_ret3
     exact ⟨by rw [HR2.out.1, HR2.out.2.1, HR2.out.2.2]; rfl, hb3⟩
   | true =>
     have HR2 : Hid ((r1, r2, r3) = if inI 0 2 b.chain = false then (2, 0, 2) else if es ≠ 0 then (3, 0, es) else if m2 ≠ 0 then (4, m1, m2) else (0, 0, 0)) := Lib.hid (by rw [HR1.out, if_neg (by rw [inI_inB, h1]; decide)])
     clear HR1
     have e0 := blk_cell b2 0
     have e1 := blk_cell b2 1
     have e2 := blk_cell b2 2
     have e3 := blk_cell b2 3
     have e4 := blk_cell b2 4
     have e5 := blk_cell b2 5
     have e6 := blk_cell b2 6
     go_wp2_with fail
     refine (within_one 0 2 b.chain _ _ (by simp [World.cell?_alloc_at])).mono ?_
     rintro e w4 ⟨rfl, hw⟩
     have hbb : Below w3.heap.size w3 w4 := by rw [<- hw]; exact (by repeat (first | exact Below.refl _ _ | assumption | (refine Below.alloc ?_ ?_ _; rotate_left; · (first | omega | (simp; done) | (simp; omega) | fail)) | (refine Below.setCell ?_ ?_ _; rotate_left; · (first | omega | (simp; done) | (simp; omega) | fail)) | refine Below.drew ?_ | fail))
     clear hw e0 e1 e2 e3 e4 e5 e6
     have b2 := blk_later hbb b2
     have hb3 := hb3.trans (hbb.mono hb3.size)
     have hz := blk_lt b2
     clear hbb
     cases h2 : inB 0 2 b.chain with
     | false =>
       have HR2 : Hid (r1 = 2 /\ r2 = 0 /\ r3 = 2) := Lib.hid (by have := HR2.out; rw [inI_inB, h2] at this; simpa using this)
       go_wp2_with fail
       go_ret3
       exact ⟨by rw [HR2.out.1, HR2.out.2.1, HR2.out.2.2]; rfl, hb3⟩
     | true =>
       have HR3 : Hid ((r1, r2, r3) = if es ≠ 0 then (3, 0, es) else if m2 ≠ 0 then (4, m1, m2) else (0, 0, 0)) := Lib.hid (by rw [HR2.out, if_neg (by rw [inI_inB, h2]; decide)])
       clear HR2
       have e0 := blk_cell b2 0
       have e1 := blk_cell b2 1
       have e2 := blk_cell b2 2
       have e3 := blk_cell b2 3
       have e4 := blk_cell b2 4
       have e5 := blk_cell b2 5
       have e6 := blk_cell b2 6
       go_wp2_with fail
       refine (spans_two 0 2000 b.wlo b.whi b.hlo b.hhi _ _ (by simp [World.cell?_alloc_at]) (by simp [World.cell?_alloc_at]) (by simp [World.cell?_alloc_at]) (by simp [World.cell?_alloc_at])).mono ?_
       rintro e w5 ⟨rfl, hw⟩
       rw [<- HES.out]
       have hbb : Below w4.heap.size w4 w5 := ((Below.refl _ _).alloc (Nat.le_refl _) _).trans (hw.mono (by simp))
       clear hw e0 e1 e2 e3 e4 e5 e6
       have b2 := blk_later hbb b2
       have hb3 := hb3.trans (hbb.mono hb3.size)
       have hz := blk_lt b2
       clear hbb
       by_cases h3 : es = 0
       · have HR4 : Hid ((r1, r2, r3) = if m2 ≠ 0 then (4, m1, m2) else (0, 0, 0)) := Lib.hid (by rw [HR3.out, if_neg (by rw [h3]; decide)])
         clear HR3 HES
         subst h3
         go_wp2_with fail
         have hb3 := hb3.drew
         have d0 : w5.drew.cell? ⟨w.heap.size + 1, 0, none⟩ = some (.int .i64 b.leaves) := blk_cell b2 0
         have d6 : w5.drew.cell? ⟨w.heap.size + 1, 6, none⟩ = some mv := blk_cell b2 6
         refine wp_region_held_drew (S := fun u => u.cell? ⟨w.heap.size + 1, 0, none⟩ = some (.int .i64 b.leaves) /\ u.cell? ⟨w.heap.size + 1, 6, none⟩ = some mv) (by kernel_rfl) ?_ (fun hHeld => ?_)
         · (try dsimp only); go_keep
         refine wpAnyH_take (i := 0) (v := ?_) rfl (by kernel_rfl) (by kernel_rfl) (by kernel_rfl) (fun _ _ _ h => h) (Or.inl ⟨by rfl, ?_⟩) (by assumption) ?_
         rotate_left
         · (intro w hSw; (try dsimp only at hSw); go_simp; (try with_reducible rfl))
         (try simp only [Act.put, List.setIfInBounds_toArray, List.set_cons_zero, List.set_cons_succ])
         refine wpAnyH_take (i := 1) (v := ?_) rfl (by kernel_rfl) (by kernel_rfl) (by kernel_rfl) (fun _ _ _ h => h) (Or.inl ⟨by rfl, ?_⟩) (by assumption) ?_
         rotate_left
         · (intro w hSw; (try dsimp only at hSw); go_simp; (try with_reducible rfl))
         (try simp only [Act.put, List.setIfInBounds_toArray, List.set_cons_zero, List.set_cons_succ])
         refine wpAnyH_take (i := 2) (v := ?_) rfl (by kernel_rfl) (by kernel_rfl) (by kernel_rfl) (fun _ _ _ h => h) (Or.inl ⟨by rfl, ?_⟩) (by assumption) ?_
         rotate_left
         · (intro w hSw; (try dsimp only at hSw); go_simp; (try with_reducible rfl))
         (try simp only [Act.put, List.setIfInBounds_toArray, List.set_cons_zero, List.set_cons_succ])
         refine wpAnyH_take (i := 3) (v := ?_) rfl (by kernel_rfl) (by kernel_rfl) (by kernel_rfl) (fun _ _ _ h => h) (Or.inl ⟨by rfl, ?_⟩) (by assumption) ?_
         rotate_left
         · (intro w hSw; (try dsimp only at hSw); go_simp; (try with_reducible rfl))
         (try simp only [Act.put, List.setIfInBounds_toArray, List.set_cons_zero, List.set_cons_succ])
         refine wpAnyH_ready (rs := [4]) (by kernel_rfl) (by simp) ?_
         refine AllReadyH.cons rfl (fun K hK => ?_) AllReadyH.nil
         go_simp
         clear b2 hz
         revert hb3 d0 d6 hHeld
         generalize w5.drew = w6
         intro hb3 d0 d6 hHeld
         refine (markError_any b.leaves _).mono ?_
         rintro e w7 ⟨⟨n, rfl, hn⟩, hb⟩
         have hz3 := hb3.size
         have hb4 := hb3.trans (hb.mono hz3)
         have d0 := cell_later' hb d0
         have d6 := cell_later' hb d6
         clear hb
         go_simp
         refine hK.out _ _ ?_ (fun hNew => ?_)
         · (try dsimp only); go_keep
         clear hK K hHeld
         have hHeld := hNew
         clear hNew
         (try simp only [Act.put, List.setIfInBounds_toArray, List.set_cons_zero, List.set_cons_succ])
         refine wpAnyH_ready (rs := [5]) (by kernel_rfl) (by simp) ?_
         refine AllReadyH.cons rfl (fun K hK => ?_) AllReadyH.nil
         go_simp
         refine (listM_any 0 8 b.leaves b.marks mv n w.heap.size _ (HM.out.same fun k hk => hb4.block k hk) hb4.size hn (by decide)).mono ?_
         rintro e w8 ⟨rfl, ho⟩
         rw [<- HMM.out]
         have hb5 := hb4.trans (ho.mono hb4.size)
         have d0 := cell_later' ho d0
         have d6 := cell_later' ho d6
         clear ho hb4 hb3 hn
         dsimp only
         go_simp
         refine hK.out _ _ ?_ (fun hNew => ?_)
         · (try dsimp only); go_keep
         clear hK K hHeld
         have hHeld := hNew
         clear hNew
         (try simp only [Act.put, List.setIfInBounds_toArray, List.set_cons_zero, List.set_cons_succ])
         refine wpAnyH_take (i := 6) (v := ?_) rfl (by kernel_rfl) (by kernel_rfl) (by kernel_rfl) (fun _ _ _ h => h) (Or.inl ⟨by rfl, ?_⟩) (by assumption) ?_
         rotate_left
         · (intro w hSw; (try dsimp only at hSw); go_simp; (try with_reducible rfl))
         (try simp only [Act.put, List.setIfInBounds_toArray, List.set_cons_zero, List.set_cons_succ])
         refine wpAnyH_take (i := 7) (v := ?_) rfl (by kernel_rfl) (by kernel_rfl) (by kernel_rfl) (fun _ _ _ h => h) (Or.inl ⟨by rfl, ?_⟩) (by assumption) ?_
         rotate_left
         · (intro w hSw; (try dsimp only at hSw); go_simp; (try with_reducible rfl))
         (try simp only [Act.put, List.setIfInBounds_toArray, List.set_cons_zero, List.set_cons_succ])
         refine wpAnyH_take (i := 8) (v := ?_) rfl (by kernel_rfl) (by kernel_rfl) (by kernel_rfl) (fun _ _ _ h => h) (Or.inl ⟨by rfl, ?_⟩) (by assumption) ?_
         rotate_left
         · (intro w hSw; (try dsimp only at hSw); go_simp; (try with_reducible rfl))
         (try simp only [Act.put, List.setIfInBounds_toArray, List.set_cons_zero, List.set_cons_succ])
         refine wpAnyH_take (i := 9) (v := ?_) rfl (by kernel_rfl) (by kernel_rfl) (by kernel_rfl) (fun _ _ _ h => h) (Or.inl ⟨by rfl, ?_⟩) (by assumption) ?_
         rotate_left
         · (intro w hSw; (try dsimp only at hSw); go_simp; (try with_reducible rfl))
         (try simp only [Act.put, List.setIfInBounds_toArray, List.set_cons_zero, List.set_cons_succ])
         refine wpAnyH_take (i := 10) (v := ?_) rfl (by kernel_rfl) (by kernel_rfl) (by kernel_rfl) (fun _ _ _ h => h) (Or.inl ⟨by rfl, ?_⟩) (by assumption) ?_
         rotate_left
         · (intro w hSw; (try dsimp only at hSw); go_simp; (try with_reducible rfl))
         (try simp only [Act.put, List.setIfInBounds_toArray, List.set_cons_zero, List.set_cons_succ])
         refine wpAnyH_done (by kernel_rfl) ?_ _
         clear hHeld
         have hb3 := hb5
         clear hb5
         by_cases h4 : m2 = 0
         · have HR2 : Hid (r1 = 0 /\ r2 = 0 /\ r3 = 0) := Lib.hid (by have := HR4.out; rw [if_neg (by rw [h4]; decide)] at this; simpa using this)
           clear HR4 HMM
           subst h4
           go_wp2_with fail
           go_ret3
           exact ⟨by rw [HR2.out.1, HR2.out.2.1, HR2.out.2.2]; rfl, hb3⟩
         · have HR2 : Hid (r1 = 4 /\ r2 = m1 /\ r3 = m2) := Lib.hid (by have := HR4.out; rw [if_pos h4] at this; simpa using this)
           have h0b : (m2 != 0) = true := by simp [h4]
           clear h4 HR4 HMM
           go_wp2_with fail
           go_ret3
           exact ⟨by rw [HR2.out.1, HR2.out.2.1, HR2.out.2.2]; rfl, hb3⟩
       · have HR2 : Hid (r1 = 3 /\ r2 = 0 /\ r3 = es) := Lib.hid (by have := HR3.out; rw [if_pos h3] at this; simpa using this)
         have h0b : (es != 0) = true := by simp [h3]
         clear h3 HR3
         go_wp2_with fail
         go_ret3
         exact ⟨by rw [HR2.out.1, HR2.out.2.1, HR2.out.2.2]; rfl, hb3⟩
 · have HO : Hid (openP p (.agg #[.slice a n1 cap, .slice a2 n2 cap2, .int .i64 p.trim, .int .i64 p.sheets]) = .agg #[.slice none 0 0, .slice none 0 0, .int .i64 0, .int .i64 0]) := Lib.hid (by unfold openP; rw [if_neg (fun h => h0 (HEP.out.trans h))])
   rw [HO.out]
   have HR1 : Hid (r1 = 0 /\ r2 = 0 /\ r3 = ep) := Lib.hid (by have := HR.out; rw [if_pos h0] at this; simpa using this)
   have h0b : (ep != 0) = true := by simp [h0]
   clear h0 HR HEP HO
   go_wp2_with fail
   go_ret3
   exact ⟨by rw [HR1.out.1, HR1.out.2.1, HR1.out.2.2]; rfl, (by repeat (first | (refine Below.setCell ?_ ?_ _; rotate_left; · (first | omega | (simp; done) | (simp; omega) | fail)) | (refine Below.alloc ?_ ?_ _; rotate_left; · (first | omega | (simp; done) | (simp; omega) | fail)) | refine Below.drew ?_ | exact hb3 | fail))⟩
end
section
set_option linter.unusedSimpArgs false
set_option linter.unusedVariables false
open Go Go.RowKit Go.Sort Go.BigFrame
attribute [local go_sem] Oper.semAt_some putAll
def seenF (xs : List Fmt) (k : Nat) : List Bs := (xs.take k).map Fmt.name
def seenP (xs : List Ppr) (k : Nat) : List Bs := (xs.take k).map Ppr.name
theorem seenF_next {xs : List Fmt} {k : Nat} {x : Fmt} (h : xs[k]? = some x) : seenF xs (k + 1) = seenF xs k ++ [x.name] := by
 unfold seenF; rw [List.take_add_one, h]; simp
theorem seenP_next {xs : List Ppr} {k : Nat} {x : Ppr} (h : xs[k]? = some x) : seenP xs (k + 1) = seenP xs k ++ [x.name] := by
 unfold seenP; rw [List.take_add_one, h]; simp
theorem seenF_len {xs : List Fmt} {k : Nat} (h : k <= xs.length) : (seenF xs k).length = k := by unfold seenF; simp; omega
theorem seenP_len {xs : List Ppr} {k : Nat} (h : k <= xs.length) : (seenP xs k).length = k := by unfold seenP; simp; omega
theorem both2_is (a b c d lo hi x : Int) (hx : x = spansErr lo hi a b c d) (w : World) :
  Calls Tryz.prog 65 #[.agg #[.int .i64 a, .int .i64 b], .agg #[.int .i64 c, .int .i64 d], .int .i64 lo, .int .i64 hi] w fun e w' => e = .returned (.int .i64 x) /\ Below w.heap.size w w' := by
 subst hx; exact both_any a b c d lo hi w
theorem refCheck2_any (p : Prs) (v : Value) (w : World) (hp : PrsAt w.heap.size w v p) :
  Calls Tryz.prog 47 #[v] w fun e w' => e = .returned (.tuple #[.int .i64 ((checkP p).1 : Nat), .int .i64 ((checkP p).2.1 : Nat), .int .i64 (checkP p).2.2]) /\ Below w.heap.size w w' := by
 obtain ⟨fv, pv, rfl, hf, hq, hs1, hs2⟩ := hp
 have HF := Lib.hid hf
 have HQ := Lib.hid hq
 have HS1 := Lib.hid hs1
 have HS2 := Lib.hid hs2
 obtain ⟨a, cap, rfl, hfc⟩ := hf
 obtain ⟨a2, cap2, rfl, hqc⟩ := hq
 obtain ⟨n1, hn1⟩ : ∃ n, n = p.fmts.length := ⟨_, rfl⟩
 obtain ⟨n2, hn2⟩ : ∃ n, n = p.pprs.length := ⟨_, rfl⟩
 rw [<- hn1] at HF ⊢
 rw [<- hn2] at HQ ⊢
 have HN1 := Lib.hid hn1
 have HN2 := Lib.hid hn2
 have HFC := Lib.hid hfc
 have HQC := Lib.hid hqc
 clear hs1 hs2 hfc hqc hn1 hn2
 obtain ⟨⟨r1, r2, r3⟩, hr⟩ : ∃ r, r = checkP p := ⟨_, rfl⟩
 rw [<- hr]
 obtain ⟨⟨x1, x2⟩, hx⟩ : ∃ x, x = fmtsErr p.fmts := ⟨_, rfl⟩
 obtain ⟨⟨y1, y2⟩, hy⟩ : ∃ y, y = pprsErr p.pprs := ⟨_, rfl⟩
 have HR : Hid ((r1, r2, r3) = if x2 ≠ 0 then (1, x1, x2) else if y2 ≠ 0 then (2, y1, y2) else if (inI 0 60 p.trim && inI 1 4 p.sheets) = false then (3, 0, 7) else (0, 0, 0)) := Lib.hid (by
  rw [hr]; unfold checkP; rw [<- hx, <- hy])
 have HX1 : Hid ((x1, x2) = listR 1 6 Fmt.name fmtErr p.fmts) := Lib.hid hx
 have HY1 : Hid ((y1, y2) = listR 1 4 Ppr.name pprErr p.pprs) := Lib.hid hy
 clear hr hx hy
 dsimp only
 go_enter Tryz.func47, Tryz.ntmps47
 go_wp2_with fail
 refine (in2_any _ 1 6 _).mono ?_
 rintro e w1 ⟨rfl, hw⟩
 have hb0 : Below w.heap.size w w1 := by rw [hw]; exact (by repeat (first | exact Below.refl _ _ | assumption | (refine Below.alloc ?_ ?_ _; rotate_left; · (first | omega | (simp; done) | (simp; omega) | fail)) | (refine Below.setCell ?_ ?_ _; rotate_left; · (first | omega | (simp; done) | (simp; omega) | fail)) | refine Below.drew ?_ | fail))
 have b1 : w1.heap[w.heap.size]? = some (.cells #[.slice a n1 cap, .slice a2 n2 cap2, .int .i64 p.trim, .int .i64 p.sheets] 25) := by rw [hw]; exact (by repeat (first | exact heap_alloc_at _ _ _ (by (first | omega | (simp; done) | (simp; omega) | (simp at *; omega) | fail)) | assumption | rw [heap_alloc_past _ _ _ (by (first | omega | (simp; done) | (simp; omega) | (simp at *; omega) | fail))] | rw [heap_setCell_past _ _ _ _ (by (first | omega | (simp; done) | (simp; omega) | (simp at *; omega) | fail))] | fail))
 clear hw
 have HB0 := Lib.hid hb0
 have HBz := HB0
 have hz0 := hb0.size
 obtain ⟨ei, hi1, hi2, hi3, hi4⟩ := elemStr
 have HI := Lib.hid (And.intro hi1 (And.intro hi2 (And.intro hi3 hi4)))
 have HB1 := Lib.hid b1
 clear hi1 hi2 hi3 hi4 hb0
 cases hi : inI 1 6 n1 with
 | false =>
   have HX2 : Hid (r1 = 1 /\ r2 = 0 /\ r3 = 3) := Lib.hid (by
    have h1 : (x1, x2) = (0, 3) := by rw [HX1.out]; unfold listR; rw [<- HN1.out, if_pos hi]
    have h2 := HR.out
    simp at h1
    rw [h1.1, h1.2] at h2
    simpa using h2)
   clear hi
   go_wp2_with fail
   go_ret3
   exact ⟨by rw [(HX2).out.1, (HX2).out.2.1, (HX2).out.2.2]; rfl, HBz.out⟩
 | true =>
   have HX2 : Hid ((x1, x2) = firstE Fmt.name fmtErr [] 0 p.fmts) := Lib.hid (by rw [HX1.out]; unfold listR; rw [<- HN1.out, if_neg (by rw [hi]; decide)])
   have hle1 : n1 <= 6 := by simp only [inI, Bool.and_eq_true, decide_eq_true_eq] at hi; omega
   clear hi
   have HR0 : Hid (w1.ownsRow w1.heap.size 9 1 (.slice none 0 0) 0 []) := Lib.hid (World.ownsRow_nil _ _ _ _)
   have HBB : Hid (Below w1.heap.size w1 w1) := Lib.hid (Below.refl _ _)
   have c0 := blk_cell b1 0
   have c1 := blk_cell b1 1
   have c2 := blk_cell b1 2
   have c3 := blk_cell b1 3
   go_wp2_with fail
   go_loopw [5, 6] (fun v i wr => ∃ (k : Nat), k <= n1 /\ i = .int .i64 k /\ Hid (wr.ownsRow w1.heap.size 9 1 v k ((seenF p.fmts k).map S)) /\ Hid (Below w1.heap.size w1 wr) /\ Hid ((x1, x2) = firstE Fmt.name fmtErr (seenF p.fmts k) k (p.fmts.drop k))) (fun _ i _ => n1 - (intOf i).toNat)
   case atStart => exact ⟨0, by omega, rfl, (by have h := HR0.out; show World.ownsRow _ _ _ _ _ _ _; simpa [seenF] using h), HBB, HX2⟩
   case round =>
    clear HR0 HBB c0 c1 c2 c3
    obtain ⟨k, hk, rfl, HRo, HB, HZ⟩ := hrel
    have hb3 := blk_later HB.out HB1.out
    have hzr := HB.out.size
    have c0 := blk_cell hb3 0
    have c1 := blk_cell hb3 1
    have c2 := blk_cell hb3 2
    have c3 := blk_cell hb3 3
    by_cases hlt : k < n1
    · obtain ⟨x, hx⟩ : ∃ x, p.fmts[k]? = some x := ⟨_, List.getElem?_eq_getElem (by have := HN1.out; omega)⟩
      obtain ⟨b', off, rfl, hb', hc⟩ := HFC.out (fun h => by rw [h] at hx; simp at hx)
      have q0 : wr.cell? ⟨b', off + k * 2, none⟩ = some (S x.name) := cell_later' (HB0.out.trans (HB.out.mono hz0)) (by have := hc k x hx 0 _ rfl; simpa using this)
      have q1 : wr.cell? ⟨b', off + k * 2 + 1, none⟩ = some (S x.folds) := cell_later' (HB0.out.trans (HB.out.mono hz0)) (by have := hc k x hx 1 _ rfl; simpa using this)
      have HQ1 : Hid (w.cell? ⟨b', off + k * 2 + 1, none⟩ = some (S x.folds)) := Lib.hid (by have := hc k x hx 1 _ rfl; simpa using this)
      have HX := Lib.hid hx
      have HSx := Lib.hid (HS1.out x (List.mem_of_getElem? hx))
      have hln : (seenF p.fmts k).length = k := seenF_len (by have := HN1.out; omega)
      have HLN := Lib.hid hln
      obtain ⟨er, her⟩ : ∃ er, er = nmErr (seenF p.fmts k) x.name := ⟨_, rfl⟩
      have HER := Lib.hid her
      clear hx hc hln her
      go_wp2_with fail
      refine (refFresh_any x.name (seenF p.fmts k) u5 _ (strs_of_row (by rw [HLN.out]; exact HRo.out)) (by rw [HLN.out]; omega) HSx.out.1).mono ?_
      rintro e w6 ⟨rfl, hb6⟩
      rw [<- HER.out]
      have HB6 := Lib.hid (HB.out.trans (hb6.mono hzr))
      have HR6 := Lib.hid (row_later HRo.out hb6)
      have hb3 := blk_later hb6 hb3
      have q0 := cell_later' hb6 q0
      have q1 := cell_later' hb6 q1
      have hz6 := HB6.out.size
      clear c0 c1 c2 c3 hb6 HRo
      have c0 := blk_cell hb3 0
      have c1 := blk_cell hb3 1
      have c2 := blk_cell hb3 2
      have c3 := blk_cell hb3 3
      obtain ⟨hi1, hi2, hi3, hi4⟩ := HI.out
      go_wp2_with (at_builtin; refine wpList_append_own _ rfl _ _ 147 rfl w1.heap.size 9 ei _ 1 16 undStrs hi1 hi2 hi3 hi4 rfl (by decide) u5 k ((seenF p.fmts k).map S) rfl (HR6.out.alloc _) ⟨w6.heap.size, 0, none⟩ 1 1 [S x.name] rfl rfl ?c1 ?c2 ?c3 ?c4 ?c5 ?c6)
      case c1 => exact cells_new _ _ _
      case c2 => simp [Value.oneCell']
      case c3 => simp only [maxLen]; omega
      case c4 => omega
      case c5 => simp; omega
      case c6 =>
       rintro v' w7 hown hgrow -
       have HB7 := Lib.hid (HB6.out.trans ((((Below.refl _ w6).alloc (Nat.le_refl _) (.cells #[S x.name] 9)).mono hz6).trans (below_row (HR6.out.alloc _) (by simp; omega) hgrow)))
       have HO := Lib.hid hown
       have hb3 := blk_later HB7.out HB1.out
       have q1 : w7.cell? ⟨b', off + k * 2 + 1, none⟩ = some (S x.folds) := cell_later' (HB0.out.trans (HB7.out.mono hz0)) (HQ1.out)
       have hz7 := HB7.out.size
       clear hgrow hown hi1 hi2 hi3 hi4 HB6 HR6 c0 c1 c2 c3 HB
       have c0 := blk_cell hb3 0
       have c1 := blk_cell hb3 1
       have c2 := blk_cell hb3 2
       have c3 := blk_cell hb3 3
       by_cases h0 : er = 0
       · have HFE : Hid (fmtErr (seenF p.fmts k) x = fdsErr x.folds) := Lib.hid (by unfold fmtErr; rw [<- HER.out, if_pos h0])
         clear HER
         subst h0
         go_wp2_with fail
         refine (refFolds_any x.folds _ HSx.out.2).mono ?_
         rintro e w8 ⟨rfl, hb8⟩
         obtain ⟨ef, hef⟩ : ∃ ef, ef = fdsErr x.folds := ⟨_, rfl⟩
         rw [<- hef]
         have HEF : Hid (fmtErr (seenF p.fmts k) x = ef) := Lib.hid (HFE.out.trans hef.symm)
         have HB8 := Lib.hid (HB7.out.trans (hb8.mono hz7))
         have HR8 := Lib.hid (row_later HO.out hb8)
         clear hef HFE hb8 HO HB7 c0 c1 c2 c3
         by_cases h1 : ef = 0
         · have HZ2 : Hid ((x1, x2) = firstE Fmt.name fmtErr (seenF p.fmts (k + 1)) (k + 1) (p.fmts.drop (k + 1))) := Lib.hid (by rw [HZ.out, firstE_step HX.out (HEF.out.trans h1), seenF_next HX.out])
           clear HEF HZ
           subst h1
           go_wp2_with fail
           go_roundw
           case rel => exact ⟨k + 1, by omega, by go_num, (by
            have h := HR8.out
            rw [seenF_next HX.out, List.map_append]
            show World.ownsRow _ _ _ _ _ _ _
            simpa using h), HB8, HZ2⟩
           case measure => simp [intOf]; omega
         · have HXX : Hid (x1 = k /\ x2 = ef) := Lib.hid (by
            have h2 := HZ.out.trans (firstE_stop HX.out (fun h => h1 (HEF.out.symm.trans h)))
            rw [HEF.out] at h2
            simpa using h2)
           have HX2 : Hid (r1 = 1 /\ r2 = k /\ r3 = ef) := Lib.hid (by
            have h2 := HR.out
            rw [HXX.out.1, HXX.out.2, if_pos h1] at h2
            simpa using h2)
           have HBz := Lib.hid (HB0.out.trans (HB8.out.mono hz0))
           have h0b : (ef != 0) = true := by simp [h1]
           clear h1 HXX HEF
           go_wp2_with fail
           go_ret3
           exact ⟨by rw [(HX2).out.1, (HX2).out.2.1, (HX2).out.2.2]; rfl, HBz.out⟩
       · have HFE : Hid (fmtErr (seenF p.fmts k) x = er) := Lib.hid (by unfold fmtErr; rw [<- HER.out, if_neg h0])
         have HXX : Hid (x1 = k /\ x2 = er) := Lib.hid (by
          have h2 := HZ.out.trans (firstE_stop HX.out (fun h => h0 (HFE.out.symm.trans h)))
          rw [HFE.out] at h2
          simpa using h2)
         have HX2 : Hid (r1 = 1 /\ r2 = k /\ r3 = er) := Lib.hid (by
          have h2 := HR.out
          rw [HXX.out.1, HXX.out.2, if_pos h0] at h2
          simpa using h2)
         have HBz := Lib.hid (HB0.out.trans (HB7.out.mono hz0))
         have h0b : (er != 0) = true := by simp [h0]
         have h0c : (er == 0) = false := by simp [h0]
         clear h0 HXX HFE
         go_wp2_with fail
         go_ret3
         exact ⟨by rw [(HX2).out.1, (HX2).out.2.1, (HX2).out.2.2]; rfl, HBz.out⟩
    · have hkN : k = n1 := by omega
      have hx2 : x1 = 0 /\ x2 = 0 := by
       have h := HZ.out.trans (firstE_end (by have := HN1.out; omega))
       simpa using h
      have HRP : Hid ((r1, r2, r3) = if y2 ≠ 0 then (2, y1, y2) else if (inI 0 60 p.trim && inI 1 4 p.sheets) = false then (3, 0, 7) else (0, 0, 0)) := Lib.hid (by rw [HR.out, if_neg (by rw [hx2.2]; decide)])
      have HB0 := Lib.hid (HB0.out.trans (HB.out.mono hz0))
      have HB1 := Lib.hid hb3
      clear HZ HRo HR HX1 HX2 hx2 HFC HF HS1 hkN HB HBz
      clear hle1 hk
      go_wp2_with fail
      refine (in2_any _ 1 4 _).mono ?_
      rintro e wv ⟨rfl, hw⟩
      subst hw
      have HBv := HB0
      have HBz := HB0
      have hz9 := HBv.out.size
      have HB9 := HB1
      cases hi : inI 1 4 n2 with
      | false =>
        have HX2 : Hid (r1 = 2 /\ r2 = 0 /\ r3 = 3) := Lib.hid (by
         have h1 : (y1, y2) = (0, 3) := by rw [HY1.out]; unfold listR; rw [<- HN2.out, if_pos hi]
         have h2 := HRP.out
         simp at h1
         rw [h1.1, h1.2] at h2
         simpa using h2)
        clear hi
        go_wp2_with fail
        go_ret3
        exact ⟨by rw [(HX2).out.1, (HX2).out.2.1, (HX2).out.2.2]; rfl, HBz.out⟩
      | true =>
        have HX3 : Hid ((y1, y2) = firstE Ppr.name pprErr [] 0 p.pprs) := Lib.hid (by rw [HY1.out]; unfold listR; rw [<- HN2.out, if_neg (by rw [hi]; decide)])
        have hle1 : n2 <= 4 := by simp only [inI, Bool.and_eq_true, decide_eq_true_eq] at hi; omega
        clear hi
        have HR0 : Hid (wv.ownsRow wv.heap.size 9 1 (.slice none 0 0) 0 []) := Lib.hid (World.ownsRow_nil _ _ _ _)
        have HBB : Hid (Below wv.heap.size wv wv) := Lib.hid (Below.refl _ _)
        clear hzr b1 hz0
        go_wp2_with fail
        go_loopw [5, 8] (fun v i wr => ∃ (k : Nat), k <= n2 /\ i = .int .i64 k /\ Hid (wr.ownsRow wv.heap.size 9 1 v k ((seenP p.pprs k).map S)) /\ Hid (Below wv.heap.size wv wr) /\ Hid ((y1, y2) = firstE Ppr.name pprErr (seenP p.pprs k) k (p.pprs.drop k))) (fun _ i _ => n2 - (intOf i).toNat)
        case atStart => exact ⟨0, by omega, rfl, (by have h := HR0.out; show World.ownsRow _ _ _ _ _ _ _; simpa [seenP] using h), HBB, HX3⟩
        case round =>
         clear HR0 HBB c0 c1 c2 c3
         obtain ⟨k, hk, rfl, HRo, HB, HZ⟩ := hrel
         have hb3 := blk_later HB.out HB9.out
         have hzr := HB.out.size
         have c0 := blk_cell hb3 0
         have c1 := blk_cell hb3 1
         have c2 := blk_cell hb3 2
         have c3 := blk_cell hb3 3
         by_cases hlt : k < n2
         · obtain ⟨x, hx⟩ : ∃ x, p.pprs[k]? = some x := ⟨_, List.getElem?_eq_getElem (by have := HN2.out; omega)⟩
           obtain ⟨b', off, rfl, hb', hc⟩ := HQC.out (fun h => by rw [h] at hx; simp at hx)
           have q0 : wr.cell? ⟨b', off + k * 5, none⟩ = some (S x.name) := cell_later' (HBv.out.trans (HB.out.mono hz9)) (by have := hc k x hx 0 _ rfl; simpa using this)
           have HQ1 : Hid (w.cell? ⟨b', off + k * 5 + 1, none⟩ = some (.int .i64 x.wlo)) := Lib.hid (by have := hc k x hx 1 _ rfl; simpa using this)
           have HQ2 : Hid (w.cell? ⟨b', off + k * 5 + 2, none⟩ = some (.int .i64 x.whi)) := Lib.hid (by have := hc k x hx 2 _ rfl; simpa using this)
           have HQ3 : Hid (w.cell? ⟨b', off + k * 5 + 3, none⟩ = some (.int .i64 x.hlo)) := Lib.hid (by have := hc k x hx 3 _ rfl; simpa using this)
           have HQ4 : Hid (w.cell? ⟨b', off + k * 5 + 4, none⟩ = some (.int .i64 x.hhi)) := Lib.hid (by have := hc k x hx 4 _ rfl; simpa using this)
           have HX := Lib.hid hx
           have HSx := Lib.hid (HS2.out x (List.mem_of_getElem? hx))
           have hln : (seenP p.pprs k).length = k := seenP_len (by have := HN2.out; omega)
           have HLN := Lib.hid hln
           obtain ⟨er, her⟩ : ∃ er, er = nmErr (seenP p.pprs k) x.name := ⟨_, rfl⟩
           have HER := Lib.hid her
           clear hx hc hln her
           go_wp2_with fail
           refine (refFresh_any x.name (seenP p.pprs k) u5 _ (strs_of_row (by rw [HLN.out]; exact HRo.out)) (by rw [HLN.out]; omega) HSx.out).mono ?_
           rintro e w6 ⟨rfl, hb6⟩
           rw [<- HER.out]
           have HB6 := Lib.hid (HB.out.trans (hb6.mono hzr))
           have HR6 := Lib.hid (row_later HRo.out hb6)
           have hb3 := blk_later hb6 hb3
           have q0 := cell_later' hb6 q0
           have hz6 := HB6.out.size
           clear c0 c1 c2 c3 hb6 HRo
           have c0 := blk_cell hb3 0
           have c1 := blk_cell hb3 1
           have c2 := blk_cell hb3 2
           have c3 := blk_cell hb3 3
           obtain ⟨hi1, hi2, hi3, hi4⟩ := HI.out
           go_wp2_with (at_builtin; refine wpList_append_own _ rfl _ _ 147 rfl wv.heap.size 9 ei _ 1 16 undStrs hi1 hi2 hi3 hi4 rfl (by decide) u5 k ((seenP p.pprs k).map S) rfl (HR6.out.alloc _) ⟨w6.heap.size, 0, none⟩ 1 1 [S x.name] rfl rfl ?c1 ?c2 ?c3 ?c4 ?c5 ?c6)
           case c1 => exact cells_new _ _ _
           case c2 => simp [Value.oneCell']
           case c3 => simp only [maxLen]; omega
           case c4 => omega
           case c5 => simp; omega
           case c6 =>
            rintro v' w7 hown hgrow -
            have HB7 := Lib.hid (HB6.out.trans ((((Below.refl _ w6).alloc (Nat.le_refl _) (.cells #[S x.name] 9)).mono hz6).trans (below_row (HR6.out.alloc _) (by simp; omega) hgrow)))
            have HO := Lib.hid hown
            have hb3 := blk_later HB7.out HB9.out
            have q1 : w7.cell? ⟨b', off + k * 5 + 1, none⟩ = some (.int .i64 x.wlo) := cell_later' (HBv.out.trans (HB7.out.mono hz9)) (HQ1.out)
            have q2 : w7.cell? ⟨b', off + k * 5 + 2, none⟩ = some (.int .i64 x.whi) := cell_later' (HBv.out.trans (HB7.out.mono hz9)) (HQ2.out)
            have q3 : w7.cell? ⟨b', off + k * 5 + 3, none⟩ = some (.int .i64 x.hlo) := cell_later' (HBv.out.trans (HB7.out.mono hz9)) (HQ3.out)
            have q4 : w7.cell? ⟨b', off + k * 5 + 4, none⟩ = some (.int .i64 x.hhi) := cell_later' (HBv.out.trans (HB7.out.mono hz9)) (HQ4.out)
            have hz7 := HB7.out.size
            clear hgrow hown hi1 hi2 hi3 hi4 HB6 HR6 c0 c1 c2 c3 HB
            have c0 := blk_cell hb3 0
            have c1 := blk_cell hb3 1
            have c2 := blk_cell hb3 2
            have c3 := blk_cell hb3 3
            by_cases h0 : er = 0
            · obtain ⟨ef, hef⟩ : ∃ ef, ef = spansErr 1 2000 x.wlo x.whi x.hlo x.hhi := ⟨_, rfl⟩
              have HEF : Hid (pprErr (seenP p.pprs k) x = ef) := Lib.hid (by unfold pprErr; rw [<- HER.out, if_pos h0, hef])
              have HEV := Lib.hid hef
              clear HER hef
              subst h0
              go_wp2_with fail
              have r0 := cell_regrown c0
              have r1' := cell_regrown c1
              have s1 := cell_regrown q1
              have s2 := cell_regrown q2
              have s3 := cell_regrown q3
              have s4 := cell_regrown q4
              have cC : ∀ d os, Calls Tryz.prog 65 #[.agg #[.int .i64 x.wlo, .int .i64 x.whi], .agg #[.int .i64 x.hlo, .int .i64 x.hhi], .int .i64 1, .int .i64 2000] (grow (redrawn w7 d) os) (fun e w'' => e = .returned (.int .i64 ef) /\ ∃ p : Regrown, w'' = grow (redrawn w7 p.d) p.os) := fun d os => Calls.regrown_of (both2_is _ _ _ _ _ _ ef HEV.out _)
              clear c0 c1 c2 c3 q1 q2 q3 q4 q0
              refine wp_region_quiet_below (by kernel_rfl) (by kernel_rfl) ?_; (repeat (go_big_quiet_step (exact cC _ _))); refine wpQuiet_nil ?_; rintro w8 ⟨⟨d8, os8⟩, rfl⟩
              have hb8 := below_regrown w7 d8 os8
              clear r0 r1' s1 s2 s3 s4 cC HEV
              have HB8 := Lib.hid (HB7.out.trans (hb8.mono hz7))
              have HR8 := Lib.hid (row_later HO.out hb8)
              clear hb8 HO HB7
              generalize grow (redrawn w7 d8) os8 = w8 at *
              by_cases h1 : ef = 0
              · have HZ2 : Hid ((y1, y2) = firstE Ppr.name pprErr (seenP p.pprs (k + 1)) (k + 1) (p.pprs.drop (k + 1))) := Lib.hid (by rw [HZ.out, firstE_step HX.out (HEF.out.trans h1), seenP_next HX.out])
                clear HEF HZ
                subst h1
                go_wp2_with fail
                go_roundw
                case rel => exact ⟨k + 1, by omega, by go_num, (by
                 have h := HR8.out
                 rw [seenP_next HX.out, List.map_append]
                 show World.ownsRow _ _ _ _ _ _ _
                 simpa using h), HB8, HZ2⟩
                case measure => simp [intOf]; omega
              · have HXX : Hid (y1 = k /\ y2 = ef) := Lib.hid (by
                 have h2 := HZ.out.trans (firstE_stop HX.out (fun h => h1 (HEF.out.symm.trans h)))
                 rw [HEF.out] at h2
                 simpa using h2)
                have HX3 : Hid (r1 = 2 /\ r2 = k /\ r3 = ef) := Lib.hid (by
                 have h2 := HRP.out
                 rw [HXX.out.1, HXX.out.2, if_pos h1] at h2
                 simpa using h2)
                have HBz := Lib.hid (HBv.out.trans (HB8.out.mono hz9))
                have h0b : (ef != 0) = true := by simp [h1]
                clear h1 HXX HEF
                go_wp2_with fail
                go_ret3
                exact ⟨by rw [(HX3).out.1, (HX3).out.2.1, (HX3).out.2.2]; rfl, HBz.out⟩
            · have HFE : Hid (pprErr (seenP p.pprs k) x = er) := Lib.hid (by unfold pprErr; rw [<- HER.out, if_neg h0])
              have HXX : Hid (y1 = k /\ y2 = er) := Lib.hid (by
               have h2 := HZ.out.trans (firstE_stop HX.out (fun h => h0 (HFE.out.symm.trans h)))
               rw [HFE.out] at h2
               simpa using h2)
              have HX3 : Hid (r1 = 2 /\ r2 = k /\ r3 = er) := Lib.hid (by
               have h2 := HRP.out
               rw [HXX.out.1, HXX.out.2, if_pos h0] at h2
               simpa using h2)
              have HBz := Lib.hid (HBv.out.trans (HB7.out.mono hz9))
              have h0b : (er != 0) = true := by simp [h0]
              have h0c : (er == 0) = false := by simp [h0]
              clear h0 HXX HFE
              go_wp2_with fail
              go_ret3
              exact ⟨by rw [(HX3).out.1, (HX3).out.2.1, (HX3).out.2.2]; rfl, HBz.out⟩
         · have hy2 : y1 = 0 /\ y2 = 0 := by
            have h := HZ.out.trans (firstE_end (by have := HN2.out; omega))
            simpa using h
           have HRT : Hid ((r1, r2, r3) = if (inI 0 60 p.trim && inI 1 4 p.sheets) = false then (3, 0, 7) else (0, 0, 0)) := Lib.hid (by rw [HRP.out, if_neg (by rw [hy2.2]; decide)])
           have HBz := Lib.hid (HBv.out.trans (HB.out.mono hz9))
           clear HZ HRo HRP HY1 HX3 hy2 HQC HQ HS2 HB
           go_wp2_with fail
           refine (in2_any p.trim 0 60 _).mono ?_
           rintro e w9 ⟨rfl, hw⟩
           subst hw
           cases h1 : inI 0 60 p.trim with
           | false =>
             have HX2 : Hid (r1 = 3 /\ r2 = 0 /\ r3 = 7) := Lib.hid (by have := HRT.out; rw [h1] at this; simpa using this)
             clear HRT
             go_wp2_with fail
             go_ret3
             exact ⟨by rw [(HX2).out.1, (HX2).out.2.1, (HX2).out.2.2]; rfl, HBz.out⟩
           | true =>
             go_wp2_with fail
             refine (in2_any p.sheets 1 4 _).mono ?_
             rintro e w9 ⟨rfl, hw⟩
             subst hw
             cases h2 : inI 1 4 p.sheets with
             | false =>
               have HX2 : Hid (r1 = 3 /\ r2 = 0 /\ r3 = 7) := Lib.hid (by have := HRT.out; rw [h1, h2] at this; simpa using this)
               clear HRT
               go_wp2_with fail
               go_ret3
               exact ⟨by rw [(HX2).out.1, (HX2).out.2.1, (HX2).out.2.2]; rfl, HBz.out⟩
             | true =>
               have HX2 : Hid (r1 = 0 /\ r2 = 0 /\ r3 = 0) := Lib.hid (by have := HRT.out; rw [h1, h2] at this; simpa using this)
               clear HRT
               go_wp2_with fail
               go_ret3
               exact ⟨by rw [(HX2).out.1, (HX2).out.2.1, (HX2).out.2.2]; rfl, HBz.out⟩
end
section
set_option linter.unusedSimpArgs false
set_option linter.unusedVariables false
open Go Go.RowKit Go.Sort Go.BigFrame
theorem in2_is (n lo hi : Int) (x : Bool) (hx : x = inI lo hi n) (w : World) :
  Calls Tryz.prog 32 #[.int .i64 n, .int .i64 lo, .int .i64 hi] w fun e w' => e = .returned (.bool x) /\ Below w.heap.size w w' := by
 subst hx
 exact (in2_any n lo hi w).mono fun e w' ⟨h1, h2⟩ => ⟨h1, by rw [h2]; exact Below.refl _ _⟩
theorem refCheckBook2_any (p : Prs) (b : Bok) (vp vb : Value) (w : World) (hp : PrsAt w.heap.size w vp p) (hb : BokAt w.heap.size w vb b) :
  Calls Tryz.prog 28 #[vp, vb] w fun e w' => e = .returned (.tuple #[.int .i64 ((checkK p b).1 : Nat), .int .i64 ((checkK p b).2.1 : Nat), .int .i64 (checkK p b).2.2]) /\ Below w.heap.size w w' := by
 have HP := Lib.hid hp
 obtain ⟨fv, pv, rfl, ⟨a, cap, rfl, -⟩, ⟨a2, cap2, rfl, -⟩, -⟩ := hp
 obtain ⟨n1, hn1⟩ : ∃ n, n = p.fmts.length := ⟨_, rfl⟩
 obtain ⟨n2, hn2⟩ : ∃ n, n = p.pprs.length := ⟨_, rfl⟩
 rw [<- hn1, <- hn2] at HP ⊢
 clear hn1 hn2
 obtain ⟨mv, rfl, hm⟩ := hb
 obtain ⟨a3, cap3, rfl, hmc⟩ := hm
 obtain ⟨n3, hn3⟩ : ∃ n, n = b.marks.length := ⟨_, rfl⟩
 rw [<- hn3]
 have HN3 := Lib.hid hn3
 have HMC := Lib.hid hmc
 clear hmc hn3
 obtain ⟨⟨r1, r2, r3⟩, hr⟩ : ∃ r, r = checkK p b := ⟨_, rfl⟩
 rw [<- hr]
 obtain ⟨⟨c1, c2, ep⟩, hep⟩ : ∃ c, c = checkP p := ⟨_, rfl⟩
 obtain ⟨es, hes⟩ : ∃ es, es = spansErr 0 2000 b.wlo b.whi b.hlo b.hhi := ⟨_, rfl⟩
 obtain ⟨⟨m1, m2⟩, hmm⟩ : ∃ m, m = marksR 0 8 b.leaves b.marks := ⟨_, rfl⟩
 have HR : Hid ((r1, r2, r3) = if ep ≠ 0 then (0, 0, ep) else if inI 1 64 b.leaves = false then (1, 0, 7) else if inI 0 2 b.chain = false then (2, 0, 2) else if es ≠ 0 then (3, 0, es) else if m2 ≠ 0 then (4, m1, m2) else (0, 0, 0)) := Lib.hid (by
  rw [hr, checkK_is, show errP p = ep by unfold errP; rw [<- hep], <- hes, <- hmm])
 have HEP := Lib.hid hep
 have HES := Lib.hid hes
 have HMM := Lib.hid hmm
 clear hr hep hes hmm
 dsimp only
 go_enter Tryz.func28, Tryz.ntmps28
 go_wp2_with fail
 have hb0 : Below w.heap.size w ((w.alloc (.cells #[.slice a n1 cap, .slice a2 n2 cap2, .int .i64 p.trim, .int .i64 p.sheets] 25)).alloc (.cells #[.int .i64 b.leaves, .int .i64 b.chain, .int .i64 b.wlo, .int .i64 b.whi, .int .i64 b.hlo, .int .i64 b.hhi, .slice a3 n3 cap3] 30)) := by exact (by repeat (first | exact Below.refl _ _ | assumption | (refine Below.alloc ?_ ?_ _; rotate_left; · (first | omega | (simp; done) | (simp; omega) | fail)) | (refine Below.setCell ?_ ?_ _; rotate_left; · (first | omega | (simp; done) | (simp; omega) | fail)) | refine Below.drew ?_ | fail))
 have b2 : ((w.alloc (.cells #[.slice a n1 cap, .slice a2 n2 cap2, .int .i64 p.trim, .int .i64 p.sheets] 25)).alloc (.cells #[.int .i64 b.leaves, .int .i64 b.chain, .int .i64 b.wlo, .int .i64 b.whi, .int .i64 b.hlo, .int .i64 b.hhi, .slice a3 n3 cap3] 30)).heap[w.heap.size + 1]? = some (.cells #[.int .i64 b.leaves, .int .i64 b.chain, .int .i64 b.wlo, .int .i64 b.whi, .int .i64 b.hlo, .int .i64 b.hhi, .slice a3 n3 cap3] 30) := (by repeat (first | exact heap_alloc_at _ _ _ (by (first | omega | (simp; done) | (simp; omega) | (simp at *; omega) | fail)) | assumption | rw [heap_alloc_past _ _ _ (by (first | omega | (simp; done) | (simp; omega) | (simp at *; omega) | fail))] | rw [heap_setCell_past _ _ _ _ (by (first | omega | (simp; done) | (simp; omega) | (simp at *; omega) | fail))] | fail))
 revert hb0 b2
 generalize ((w.alloc (.cells #[.slice a n1 cap, .slice a2 n2 cap2, .int .i64 p.trim, .int .i64 p.sheets] 25)).alloc (.cells #[.int .i64 b.leaves, .int .i64 b.chain, .int .i64 b.wlo, .int .i64 b.whi, .int .i64 b.hlo, .int .i64 b.hhi, .slice a3 n3 cap3] 30)) = w1
 intro hb0 b2
 refine (refCheck2_any p _ _ (HP.out.later hb0)).mono ?_
 rintro e w2 ⟨rfl, hb2⟩
 rw [<- HEP.out]
 have b2 := blk_later hb2 b2
 have HB3 := Lib.hid (hb0.trans (hb2.mono hb0.size))
 clear hb0 hb2
 have HB2 := Lib.hid b2
 dsimp only
 by_cases h0 : ep = 0
 · have HR1 : Hid ((r1, r2, r3) = if inI 1 64 b.leaves = false then (1, 0, 7) else if inI 0 2 b.chain = false then (2, 0, 2) else if es ≠ 0 then (3, 0, es) else if m2 ≠ 0 then (4, m1, m2) else (0, 0, 0)) := Lib.hid (by rw [HR.out, if_neg (by rw [h0]; decide)])
   clear HR HEP
   subst h0
   have e0 := blk_cell b2 0
   have e1 := blk_cell b2 1
   have e2 := blk_cell b2 2
   have e3 := blk_cell b2 3
   have e4 := blk_cell b2 4
   have e5 := blk_cell b2 5
   have e6 := blk_cell b2 6
   go_wp2_with fail
   refine (in2_any b.leaves 1 64 _).mono ?_
   rintro e w3 ⟨rfl, hw⟩
   subst hw
   cases h1 : inI 1 64 b.leaves with
   | false =>
     have HR2 : Hid (r1 = 1 /\ r2 = 0 /\ r3 = 7) := Lib.hid (by have := HR1.out; rw [h1] at this; simpa using this)
     clear HR1
     go_wp2_with fail
     go_ret3
     exact ⟨by rw [HR2.out.1, HR2.out.2.1, HR2.out.2.2]; rfl, HB3.out⟩
   | true =>
     have HR2 : Hid ((r1, r2, r3) = if inI 0 2 b.chain = false then (2, 0, 2) else if es ≠ 0 then (3, 0, es) else if m2 ≠ 0 then (4, m1, m2) else (0, 0, 0)) := Lib.hid (by rw [HR1.out, if_neg (by rw [h1]; decide)])
     have hl : 1 <= b.leaves /\ b.leaves <= 64 := by simpa [inI] using h1
     clear HR1 h1
     go_wp2_with fail
     refine (in2_any b.chain 0 2 _).mono ?_
     rintro e w3 ⟨rfl, hw⟩
     subst hw
     cases h2 : inI 0 2 b.chain with
     | false =>
       have HR2 : Hid (r1 = 2 /\ r2 = 0 /\ r3 = 2) := Lib.hid (by have := HR2.out; rw [h2] at this; simpa using this)
       go_wp2_with fail
       go_ret3
       exact ⟨by rw [HR2.out.1, HR2.out.2.1, HR2.out.2.2]; rfl, HB3.out⟩
     | true =>
       have HR3 : Hid ((r1, r2, r3) = if es ≠ 0 then (3, 0, es) else if m2 ≠ 0 then (4, m1, m2) else (0, 0, 0)) := Lib.hid (by rw [HR2.out, if_neg (by rw [h2]; decide)])
       clear HR2 h2
       go_wp2_with fail
       refine (both2_is b.wlo b.whi b.hlo b.hhi 0 2000 es HES.out _).mono ?_
       rintro e w4 ⟨rfl, hb4⟩
       have b4 := blk_later hb4 HB2.out
       have HB3 := Lib.hid (HB3.out.trans (hb4.mono HB3.out.size))
       clear hb4 e0 e1 e2 e3 e4 e5 e6 HB2 b2
       by_cases h3 : es = 0
       · have HR4 : Hid ((r1, r2, r3) = if m2 ≠ 0 then (4, m1, m2) else (0, 0, 0)) := Lib.hid (by rw [HR3.out, if_neg (by rw [h3]; decide)])
         clear HR3 HES
         subst h3
         have e0 := blk_cell b4 0
         have e1 := blk_cell b4 1
         have e2 := blk_cell b4 2
         have e3 := blk_cell b4 3
         have e4 := blk_cell b4 4
         have e5 := blk_cell b4 5
         have e6 := blk_cell b4 6
         by_cases h8 : 8 < n3
         · have HR2 : Hid (r1 = 4 /\ r2 = 0 /\ r3 = 3) := Lib.hid (by
            have h9 : (m1, m2) = (0, 3) := by
             rw [HMM.out]; unfold marksR; rw [if_pos]
             rw [<- HN3.out]; unfold inI; rw [decide_eq_false (p := (n3 : Int) <= 8) (by omega)]; simp
            have := HR4.out
            simp at h9
            rw [h9.1, h9.2] at this
            simpa using this)
           clear HR4
           go_wp2_with fail
           go_ret3
           exact ⟨by rw [HR2.out.1, HR2.out.2.1, HR2.out.2.2]; rfl, HB3.out⟩
         · have HZ0 : Hid ((m1, m2) = marksErr b.leaves 0 b.marks) := Lib.hid (by
            rw [HMM.out]; unfold marksR; rw [if_neg]
            rw [<- HN3.out]; unfold inI; rw [decide_eq_true (p := (n3 : Int) <= 8) (by omega), decide_eq_true (p := (0 : Int) <= n3) (by omega)]; decide)
           have HB4 := Lib.hid b4
           clear HMM
           go_wp2_with fail
           clear e0 e1 e2 e3 e4 e5 e6 b4
           go_loopw [10] (fun q wr => ∃ (k : Nat), k <= n3 /\ q = .int .i64 k /\ Hid (Below w4.heap.size w4 wr) /\ Hid ((m1, m2) = marksErr b.leaves k (b.marks.drop k))) (fun q _ => n3 - (intOf q).toNat)
           case atStart => exact ⟨0, by omega, rfl, Lib.hid (Below.refl _ _), HZ0⟩
           case round =>
            obtain ⟨k, hk, rfl, HB, HZ⟩ := hrel
            have b5 := blk_later HB.out HB4.out
            have e0 := blk_cell b5 0
            have e1 := blk_cell b5 1
            have e2 := blk_cell b5 2
            have e3 := blk_cell b5 3
            have e4 := blk_cell b5 4
            have e5 := blk_cell b5 5
            have e6 := blk_cell b5 6
            have HBr := Lib.hid (HB3.out.trans (HB.out.mono HB3.out.size))
            by_cases hlt : k < n3
            · obtain ⟨x, hx⟩ : ∃ x, b.marks[k]? = some x := ⟨_, List.getElem?_eq_getElem (by have := HN3.out; omega)⟩
              obtain ⟨b', off, rfl, hb', hc⟩ := HMC.out (fun h => by rw [h] at hx; simp at hx)
              have q0 : wr.cell? ⟨b', off + k * 2, none⟩ = some (.int .i64 x.1) := cell_later' HBr.out (by have := hc k x hx 0 _ rfl; simpa using this)
              have HX := Lib.hid hx
              obtain ⟨ef, hef⟩ : ∃ ef, ef = inI 0 (b.leaves - 1) x.1 := ⟨_, rfl⟩
              have HEF := Lib.hid hef
              clear hx hc hef
              go_wp2_with fail
              have s0 := cell_regrown e0
              have s6 := cell_regrown e6
              have t0 := cell_regrown q0
              have cC : ∀ d os, Calls Tryz.prog 32 #[.int .i64 x.1, .int .i64 0, .int .i64 (b.leaves - 1)] (grow (redrawn wr d) os) (fun e w'' => e = .returned (.bool ef) /\ ∃ p : Regrown, w'' = grow (redrawn wr p.d) p.os) := fun d os => Calls.regrown_of (in2_is _ _ _ ef HEF.out _)
              clear e0 e1 e2 e3 e4 e5 e6 q0 b5
              refine wp_region_quiet_below (by kernel_rfl) (by kernel_rfl) ?_; (repeat (go_big_quiet_step (exact cC _ _))); refine wpQuiet_nil ?_; rintro w8 ⟨⟨d8, os8⟩, rfl⟩
              have hb8 := below_regrown wr d8 os8
              have HB8 := Lib.hid (HB.out.trans (hb8.mono HB.out.size))
              clear s0 s6 t0 cC hb8
              generalize grow (redrawn wr d8) os8 = w8 at *
              cases hf : ef with
              | false =>
                have HR2 : Hid (r1 = 4 /\ r2 = k /\ r3 = 4) := Lib.hid (by
                 have h9 : m1 = k /\ m2 = 4 := by
                  have h := HZ.out.trans (marksErr_stop HX.out (by rw [<- HEF.out, hf]))
                  simpa using h
                 have := HR4.out
                 rw [h9.1, h9.2] at this
                 simpa using this)
                have HB3 := Lib.hid (HB3.out.trans (HB8.out.mono HB3.out.size))
                clear HZ HR4
                go_wp2_with fail
                go_ret3
                exact ⟨by rw [HR2.out.1, HR2.out.2.1, HR2.out.2.2]; rfl, HB3.out⟩
              | true =>
                have HZ2 : Hid ((m1, m2) = marksErr b.leaves (k + 1) (b.marks.drop (k + 1))) := Lib.hid (HZ.out.trans (marksErr_step HX.out (by rw [<- HEF.out, hf])))
                clear HZ
                go_wp2_with fail
                go_roundw
                case rel => exact ⟨k + 1, by omega, by go_num, HB8, HZ2⟩
                case measure => simp [intOf]; omega
            · have HR2 : Hid (r1 = 0 /\ r2 = 0 /\ r3 = 0) := Lib.hid (by
               have h9 : m1 = 0 /\ m2 = 0 := by
                have h := HZ.out.trans (marksErr_end (by have := HN3.out; omega))
                simpa using h
               have := HR4.out
               rw [h9.1, h9.2] at this
               simpa using this)
              have HB3 := HBr
              clear HZ HR4
              go_wp2_with fail
              go_ret3
              exact ⟨by rw [HR2.out.1, HR2.out.2.1, HR2.out.2.2]; rfl, HB3.out⟩
       · have HR2 : Hid (r1 = 3 /\ r2 = 0 /\ r3 = es) := Lib.hid (by have := HR3.out; rw [if_pos h3] at this; simpa using this)
         have h0b : (es != 0) = true := by simp [h3]
         clear h3 HR3
         go_wp2_with fail
         go_ret3
         exact ⟨by rw [HR2.out.1, HR2.out.2.1, HR2.out.2.2]; rfl, HB3.out⟩
 · have HR2 : Hid (r1 = 0 /\ r2 = 0 /\ r3 = ep) := Lib.hid (by have := HR.out; rw [if_pos h0] at this; simpa using this)
   have h0b : (ep != 0) = true := by simp [h0]
   clear h0 HR HEP
   go_wp2_with fail
   go_ret3
   exact ⟨by rw [HR2.out.1, HR2.out.2.1, HR2.out.2.2]; rfl, HB3.out⟩
end
section
set_option linter.unusedSimpArgs false
set_option linter.unusedVariables false
open Go Go.RowKit Go.Sort Go.BigFrame
theorem refMake2_any (p : Prs) (m : Mkw) (vp : Value) (w : World) (hp : PrsAt w.heap.size w vp p) (he : errP p = 0) :
  Calls Tryz.prog 70 #[vp, mkwV m] w fun e w' => e = .returned (.int .i64 (mkwErr p m)) /\ Below w.heap.size w w' := by
 obtain ⟨⟨f1, f2⟩, ⟨f3, f4⟩, ⟨f5, f6⟩, hff⟩ := fine_press he
 have HP := Lib.hid hp
 have HE := Lib.hid he
 obtain ⟨fv, pv, rfl, ⟨a, cap, rfl, hfc⟩, ⟨a2, cap2, rfl, -⟩, -⟩ := hp
 obtain ⟨n1, hn1⟩ : ∃ n, n = p.fmts.length := ⟨_, rfl⟩
 obtain ⟨n2, hn2⟩ : ∃ n, n = p.pprs.length := ⟨_, rfl⟩
 have hz0 : ∃ z, z = mkwErr p m := ⟨_, rfl⟩
 obtain ⟨z, hz⟩ := hz0
 rw [<- hz]
 unfold mkwErr at hz
 rw [<- hn1, <- hn2] at hz
 rw [<- hn1] at f1 f2
 rw [<- hn2] at f3 f4
 obtain ⟨fm, pp, sh, hf⟩ := m
 dsimp only at hz ⊢
 rw [<- hn1, <- hn2]
 have HZ := Lib.hid hz
 have HN1 := Lib.hid hn1
 have HFC := Lib.hid hfc
 have HFF := Lib.hid hff
 have hn1v := hn1.symm
 have hn2v := hn2.symm
 clear hz hn1 hn2 hfc hff he
 rw [hn1v, hn2v] at HP
 clear hn1v hn2v
 go_enter Tryz.func70, Tryz.ntmps70
 go_wp2_with fail
 have hp0 : Below w.heap.size w ((w.alloc (.cells #[.slice a n1 cap, .slice a2 n2 cap2, .int .i64 p.trim, .int .i64 p.sheets] 25)).alloc (.cells #[.int .i64 fm, .int .i64 pp, .int .i64 sh, .bool hf] 50)) := by exact (by repeat (first | exact Below.refl _ _ | assumption | (refine Below.alloc ?_ ?_ _; rotate_left; · (first | omega | (simp; done) | (simp; omega) | fail)) | (refine Below.setCell ?_ ?_ _; rotate_left; · (first | omega | (simp; done) | (simp; omega) | fail)) | refine Below.drew ?_ | fail))
 have b1 : ((w.alloc (.cells #[.slice a n1 cap, .slice a2 n2 cap2, .int .i64 p.trim, .int .i64 p.sheets] 25)).alloc (.cells #[.int .i64 fm, .int .i64 pp, .int .i64 sh, .bool hf] 50)).heap[w.heap.size]? = some (.cells #[.slice a n1 cap, .slice a2 n2 cap2, .int .i64 p.trim, .int .i64 p.sheets] 25 (0, 0)) := by exact (by repeat (first | exact heap_alloc_at _ _ _ (by (first | omega | (simp; done) | (simp; omega) | (simp at *; omega) | fail)) | assumption | rw [heap_alloc_past _ _ _ (by (first | omega | (simp; done) | (simp; omega) | (simp at *; omega) | fail))] | rw [heap_setCell_past _ _ _ _ (by (first | omega | (simp; done) | (simp; omega) | (simp at *; omega) | fail))] | fail))
 have b2 : ((w.alloc (.cells #[.slice a n1 cap, .slice a2 n2 cap2, .int .i64 p.trim, .int .i64 p.sheets] 25)).alloc (.cells #[.int .i64 fm, .int .i64 pp, .int .i64 sh, .bool hf] 50)).heap[w.heap.size + 1]? = some (.cells #[.int .i64 fm, .int .i64 pp, .int .i64 sh, .bool hf] 50 (0, 0)) := by exact (by repeat (first | exact heap_alloc_at _ _ _ (by (first | omega | (simp; done) | (simp; omega) | (simp at *; omega) | fail)) | assumption | rw [heap_alloc_past _ _ _ (by (first | omega | (simp; done) | (simp; omega) | (simp at *; omega) | fail))] | rw [heap_setCell_past _ _ _ _ (by (first | omega | (simp; done) | (simp; omega) | (simp at *; omega) | fail))] | fail))
 refine (refCheck2_any p _ _ (HP.out.later hp0)).mono ?_
 rintro e w2 ⟨rfl, hb⟩
 obtain ⟨⟨y1, y2, y3⟩, hy⟩ : ∃ y, y = checkP p := ⟨_, rfl⟩
 rw [<- hy]
 have hy3 : y3 = 0 := by have := HE.out; unfold errP at this; rw [<- hy] at this; exact this
 subst hy3
 replace b1 := blk_later hb b1
 replace b2 := blk_later hb b2
 have HB := Lib.hid (hp0.trans (hb.mono hp0.size))
 clear hb hp0 hy
 have p0 := blk_cell b1 0
 have p1 := blk_cell b1 1
 have p2 := blk_cell b1 2
 have p3 := blk_cell b1 3
 have m0 := blk_cell b2 0
 have m1 := blk_cell b2 1
 have m2 := blk_cell b2 2
 have m3 := blk_cell b2 3
 obtain ⟨h1, hh⟩ : ∃ x, x = inI 0 (n1 - 1 : Int) fm := ⟨_, rfl⟩
 have Hh1 := Lib.hid hh
 clear hh
 go_wp2_with fail
 refine (in2_is fm 0 (n1 - 1 : Int) h1 Hh1.out _).mono ?_
 rintro e w3 ⟨rfl, hb⟩
 replace b1 := blk_later hb b1
 replace b2 := blk_later hb b2
 replace HB := Lib.hid (HB.out.trans (hb.mono HB.out.size))
 clear hb p0 p1 p2 p3 m0 m1 m2 m3
 have p0 := blk_cell b1 0
 have p1 := blk_cell b1 1
 have p2 := blk_cell b1 2
 have p3 := blk_cell b1 3
 have m0 := blk_cell b2 0
 have m1 := blk_cell b2 1
 have m2 := blk_cell b2 2
 have m3 := blk_cell b2 3
 cases h1 with
 | false =>
   have HF : Hid (z = 4) := Lib.hid (by rw [HZ.out, <- Hh1.out]; rfl)
   go_wp2_with fail
   go_ret
   exact ⟨by rw [(HF).out]; rfl, HB.out⟩
 | true =>
   have h1 : inI 0 (n1 - 1) fm = true := Hh1.out.symm
   obtain ⟨i, rfl⟩ : ∃ i : Nat, fm = i := ⟨fm.toNat, by simp only [inI, Bool.and_eq_true, decide_eq_true_eq] at h1; omega⟩
   have hi : i < n1 := by simp only [inI, Bool.and_eq_true, decide_eq_true_eq] at h1; omega
   have HZ2 : Hid (z = if inI 0 (n2 - 1) pp = false then 4 else if inI 1 p.sheets sh = false then 7 else if hf = true /\ (sh ≠ 1 ∨ ∀ f, p.fmts[i]? = some f -> f.folds.length = 1) then 2 else 0) := Lib.hid (by
    rw [HZ.out, h1]; simp)
   clear HZ h1 Hh1
   obtain ⟨h2, hh⟩ : ∃ x, x = inI 0 (n2 - 1 : Int) pp := ⟨_, rfl⟩
   have Hh2 := Lib.hid hh
   clear hh
   go_wp2_with fail
   refine (in2_is pp 0 (n2 - 1 : Int) h2 Hh2.out _).mono ?_
   rintro e w4 ⟨rfl, hb⟩
   replace b1 := blk_later hb b1
   replace b2 := blk_later hb b2
   replace HB := Lib.hid (HB.out.trans (hb.mono HB.out.size))
   clear hb p0 p1 p2 p3 m0 m1 m2 m3
   have p0 := blk_cell b1 0
   have p1 := blk_cell b1 1
   have p2 := blk_cell b1 2
   have p3 := blk_cell b1 3
   have m0 := blk_cell b2 0
   have m1 := blk_cell b2 1
   have m2 := blk_cell b2 2
   have m3 := blk_cell b2 3
   cases h2 with
   | false =>
     have HF : Hid (z = 4) := Lib.hid (by rw [HZ2.out, <- Hh2.out]; rfl)
     go_wp2_with fail
     go_ret
     exact ⟨by rw [(HF).out]; rfl, HB.out⟩
   | true =>
     have HZ3 : Hid (z = if inI 1 p.sheets sh = false then 7 else if hf = true /\ (sh ≠ 1 ∨ ∀ f, p.fmts[i]? = some f -> f.folds.length = 1) then 2 else 0) := Lib.hid (by
      rw [HZ2.out, <- Hh2.out]; simp)
     clear HZ2 Hh2
     obtain ⟨h3, hh⟩ : ∃ x, x = inI 1 p.sheets sh := ⟨_, rfl⟩
     have Hh3 := Lib.hid hh
     clear hh
     go_wp2_with fail
     refine (in2_is sh 1 p.sheets h3 Hh3.out _).mono ?_
     rintro e w5 ⟨rfl, hb⟩
     replace b1 := blk_later hb b1
     replace b2 := blk_later hb b2
     replace HB := Lib.hid (HB.out.trans (hb.mono HB.out.size))
     clear hb p0 p1 p2 p3 m0 m1 m2 m3
     have p0 := blk_cell b1 0
     have p1 := blk_cell b1 1
     have p2 := blk_cell b1 2
     have p3 := blk_cell b1 3
     have m0 := blk_cell b2 0
     have m1 := blk_cell b2 1
     have m2 := blk_cell b2 2
     have m3 := blk_cell b2 3
     cases h3 with
     | false =>
       have HF : Hid (z = 7) := Lib.hid (by rw [HZ3.out, <- Hh3.out]; rfl)
       go_wp2_with fail
       go_ret
       exact ⟨by rw [(HF).out]; rfl, HB.out⟩
     | true =>
       have HZ4 : Hid (z = if hf = true /\ (sh ≠ 1 ∨ ∀ f, p.fmts[i]? = some f -> f.folds.length = 1) then 2 else 0) := Lib.hid (by
        rw [HZ3.out, <- Hh3.out]; simp)
       clear HZ3 Hh3
       cases hf with
       | false =>
         have HF : Hid (z = 0) := Lib.hid (by rw [HZ4.out]; simp)
         go_wp2_with fail
         go_ret
         exact ⟨by rw [(HF).out]; rfl, HB.out⟩
       | true =>
         by_cases hs : sh = 1
         · subst hs
           obtain ⟨f, hfx⟩ : ∃ f, p.fmts[i]? = some f := ⟨_, List.getElem?_eq_getElem (by have := HN1.out; omega)⟩
           obtain ⟨b', off, rfl, hb', hc⟩ := HFC.out (fun h => by rw [h] at hfx; simp at hfx)
           have q1 : w5.cell? ⟨b', off + i * 2 + 1, none⟩ = some (S f.folds) := cell_later' HB.out (by have := hc i f hfx 1 _ rfl; simpa using this)
           have hl := fds_of_err (HFF.out f (List.mem_of_getElem? hfx))
           have HX := Lib.hid hfx
           have hzs : (⟨f.folds.toArray⟩ : ByteArray).size = f.folds.length := size_bytes f.folds
           obtain ⟨k, hk⟩ : ∃ k, k = f.folds.length := ⟨_, rfl⟩
           rw [<- hk] at hl hzs
           have HK := Lib.hid hk
           clear hc hfx hk
           obtain ⟨hl1, hl2, -⟩ := hl
           by_cases h5 : k = 1
           · have HF : Hid (z = 2) := Lib.hid (by
              rw [HZ4.out, if_pos]
              exact ⟨rfl, Or.inr fun f' hf' => by rw [HX.out] at hf'; cases hf'; rw [<- HK.out]; exact h5⟩)
             clear HZ4
             subst h5
             go_wp2_with fail
             go_ret
             exact ⟨by rw [(HF).out]; rfl, HB.out⟩
           · have HF : Hid (z = 0) := Lib.hid (by
              rw [HZ4.out, if_neg]
              rintro ⟨-, h | h⟩
              · exact h rfl
              · exact h5 (by rw [HK.out]; exact h f HX.out))
             have h5b : ((k : Int) == 1) = false := by simp; omega
             clear HZ4
             go_wp2_with fail
             go_ret
             exact ⟨by rw [(HF).out]; rfl, HB.out⟩
         · have HF : Hid (z = 2) := Lib.hid (by rw [HZ4.out, if_pos]; exact ⟨rfl, Or.inl hs⟩)
           have hsb : (sh != 1) = true := by simp [hs]
           clear HZ4 hs
           go_wp2_with fail
           go_ret
           exact ⟨by rw [(HF).out]; rfl, HB.out⟩
end
section
set_option linter.unusedSimpArgs false
set_option linter.unusedVariables false
open Go Go.RowKit Go.Sort Go.BigFrame
theorem elemMk : ∃ i, Tryz.prog.info? 50 = some i /\ i.zero = some (.agg #[.int .i64 0, .int .i64 0, .int .i64 0, .bool false]) /\ i.size = 4 /\ i.bytes = 32 := elemOf (by kernel_rfl)
theorem undMks : Tryz.prog.underlying 31 = some (.slice 50) := by kernel_rfl
abbrev mkC (m : Mkw) : List Value := [.int .i64 m.fmt, .int .i64 m.ppr, .int .i64 m.sheets, .bool m.half]
def mkCells (ms : List Mkw) : List Value := ms.flatMap mkC
def okM (p : Prs) (m : Mkw) : Bool := decide (mkwErr p m = 0)
def mkD (p : Prs) (f q s h : Nat) : List Mkw := (List.range h).flatMap fun (h : Nat) => [(⟨f, q, (s : Int) + 1, (h : Int) == 1⟩ : Mkw)].filter (okM p)
def mkC3 (p : Prs) (f q s : Nat) : List Mkw := (List.range s).flatMap fun s => mkD p f q s 2
def mkB (p : Prs) (f q : Nat) : List Mkw := (List.range q).flatMap fun q => mkC3 p f q p.sheets.toNat
def mkA (p : Prs) (f : Nat) : List Mkw := (List.range f).flatMap fun f => mkB p f p.pprs.length
def makesW (p : Prs) : List Mkw := mkA p p.fmts.length
theorem mkD_succ (p : Prs) (f q s h : Nat) : mkD p f q s (h + 1) = mkD p f q s h ++ [(⟨f, q, (s : Int) + 1, (h : Int) == 1⟩ : Mkw)].filter (okM p) := by simp [mkD, List.range_succ]
theorem mkC3_succ (p : Prs) (f q s : Nat) : mkC3 p f q (s + 1) = mkC3 p f q s ++ mkD p f q s 2 := by simp [mkC3, List.range_succ]
theorem mkB_succ (p : Prs) (f q : Nat) : mkB p f (q + 1) = mkB p f q ++ mkC3 p f q p.sheets.toNat := by simp [mkB, List.range_succ]
theorem mkA_succ (p : Prs) (f : Nat) : mkA p (f + 1) = mkA p f ++ mkB p f p.pprs.length := by simp [mkA, List.range_succ]
theorem flat_len_le {α : Type} (F : Nat -> List α) (c : Nat) (h : ∀ k, (F k).length <= c) (n : Nat) : ((List.range n).flatMap F).length <= n * c := by
 induction n with
 | zero => simp
 | succ n ih =>
   rw [List.range_succ, List.flatMap_append, List.length_append, Nat.succ_mul]
   have e : ([n].flatMap F).length = (F n).length := by simp
   rw [e]
   have := h n
   omega
theorem mkD_len (p : Prs) (f q s h : Nat) : (mkD p f q s h).length <= h * 1 := flat_len_le _ _ (fun _ => by
 refine Nat.le_trans (List.length_filter_le _ _) ?_
 simp) h
theorem mkC3_len (p : Prs) (f q s : Nat) : (mkC3 p f q s).length <= s * 2 := flat_len_le _ _ (fun k => mkD_len p f q k 2) s
theorem mkB_len (p : Prs) (f q : Nat) (hs : p.sheets.toNat <= 4) : (mkB p f q).length <= q * 8 := flat_len_le _ _ (fun k => Nat.le_trans (mkC3_len p f k _) (by omega)) q
theorem mkA_len (p : Prs) (f : Nat) (hs : p.sheets.toNat <= 4) (hq : p.pprs.length <= 4) : (mkA p f).length <= f * 32 := flat_len_le _ _ (fun k => Nat.le_trans (mkB_len p k _ hs) (by omega)) f
structure MkSt (w W : World) (cs : Array Value) (v : Value) (xs : List Mkw) : Prop where
 row : W.ownsRow (w.heap.size + 1) 50 4 v xs.length (mkCells xs)
 bel : Below w.heap.size w W
 box : W.heap[w.heap.size]? = some (.cells cs 25 (0, 0))
theorem MkSt.later {w W W' : World} {cs : Array Value} {v : Value} {xs : List Mkw} (h : MkSt w W cs v xs) (hb : Below W.heap.size W W') : MkSt w W' cs v xs :=
 ⟨row_later h.row hb, h.bel.trans (hb.mono h.bel.size), blk_later hb h.box⟩
theorem MkSt.add {w W W' : World} {cs : Array Value} {v v' : Value} {xs : List Mkw} {x : Mkw} (h : MkSt w W cs v xs)
  (hr : W'.ownsRow (w.heap.size + 1) 50 4 v' (xs.length + 1) (mkCells xs ++ mkC x)) (hg : W.grownBy W' v.ownBlock) : MkSt w W' cs v' (xs ++ [x]) := by
 have hbl : Below w.heap.size W W' := ((Below.refl _ W).mono h.bel.size).grown hg h.bel.size (fun k hk => by
  have := (h.row.lt k hk).1
  omega)
 refine ⟨?_, h.bel.trans hbl, (hg.block _ (blk_lt h.box) (fun e => by have := (h.row.lt _ e.symm).1; omega)).trans h.box⟩
 rw [List.length_append]
 simpa [mkCells] using hr
theorem refMakes2_any (p : Prs) (vp : Value) (w : World) (hp : PrsAt w.heap.size w vp p) (he : errP p = 0) :
  Calls Tryz.prog 36 #[vp] w fun e w' => (∃ v', e = .returned v' /\ w'.ownsRow w.heap.size 50 4 v' (makesW p).length (mkCells (makesW p))) /\ Below w.heap.size w w' := by
 obtain ⟨⟨f1, f2⟩, ⟨f3, f4⟩, ⟨f5, f6⟩, -⟩ := fine_press he
 have HP := Lib.hid hp
 have HE := Lib.hid he
 obtain ⟨fv, pv, rfl, ⟨a, cap, rfl, -⟩, ⟨a2, cap2, rfl, -⟩, -⟩ := hp
 obtain ⟨n1, hn1⟩ : ∃ n, n = p.fmts.length := ⟨_, rfl⟩
 obtain ⟨n2, hn2⟩ : ∃ n, n = p.pprs.length := ⟨_, rfl⟩
 obtain ⟨n3, hn3⟩ : ∃ n, n = p.sheets.toNat := ⟨_, rfl⟩
 obtain ⟨sh, hsh⟩ : ∃ s, s = p.sheets := ⟨_, rfl⟩
 have hs3 : sh = (n3 : Int) := by omega
 rw [<- hn1] at f1 f2
 rw [<- hn2] at f3 f4
 rw [<- hsh] at f5 f6
 rw [<- hn1, <- hn2, <- hsh] at HP ⊢
 have HN1 := Lib.hid hn1
 have HN2 := Lib.hid hn2
 have HN3 := Lib.hid hn3
 have HSH := Lib.hid hsh
 clear hn1 hn2 hn3 hsh he
 subst hs3
 obtain ⟨ei, hi1, hi2, hi3, hi4⟩ := elemMk
 have HI := Lib.hid (And.intro hi1 (And.intro hi2 (And.intro hi3 hi4)))
 clear hi1 hi2 hi3 hi4
 go_enter Tryz.func36, Tryz.ntmps36
 go_wp2_with fail
 have HS : Hid (MkSt w (w.alloc (.cells #[.slice a n1 cap, .slice a2 n2 cap2, .int .i64 p.trim, .int .i64 n3] 25)) #[.slice a n1 cap, .slice a2 n2 cap2, .int .i64 p.trim, .int .i64 n3] (.slice none 0 0) []) := Lib.hid ⟨World.ownsRow_nil _ _ _ _, (Below.refl _ w).alloc (Nat.le_refl _) _, World.alloc_heap_new _ _⟩
 go_loopw [3, 4] (fun v i wr => ∃ (f : Nat), f <= n1 /\ i = .int .i64 f /\ Hid (MkSt w wr #[.slice a n1 cap, .slice a2 n2 cap2, .int .i64 p.trim, .int .i64 n3] v (mkA p f))) (fun _ i _ => n1 - (intOf i).toNat)
 case atStart => exact ⟨0, by omega, rfl, HS⟩
 case round =>
  clear HS
  obtain ⟨f, hf, rfl, HS⟩ := hrel
  have c0 := blk_cell (HS).out.box 0
  have c1 := blk_cell (HS).out.box 1
  have c2 := blk_cell (HS).out.box 2
  have c3 := blk_cell (HS).out.box 3
  by_cases hlt : f < n1
  · go_wp2_with fail
    clear c0 c1 c2 c3
    go_loopw [3, 5] (fun v i wr => ∃ (q : Nat), q <= n2 /\ i = .int .i64 q /\ Hid (MkSt w wr #[.slice a n1 cap, .slice a2 n2 cap2, .int .i64 p.trim, .int .i64 n3] v (mkA p f ++ mkB p f q))) (fun _ i _ => n2 - (intOf i).toNat)
    case atStart => exact ⟨0, by omega, rfl, by have h := HS.out; show MkSt _ _ _ _ _; simpa [mkB] using h⟩
    case round =>
     clear HS
     obtain ⟨q, hq, rfl, HS⟩ := hrel
     have c0 := blk_cell (HS).out.box 0
     have c1 := blk_cell (HS).out.box 1
     have c2 := blk_cell (HS).out.box 2
     have c3 := blk_cell (HS).out.box 3
     by_cases hltq : q < n2
     · go_wp2_with fail
       clear c0 c1 c2 c3
       go_loopw [3, 6] (fun v i wr => ∃ (s : Nat), s <= n3 /\ i = .int .i64 ((s : Int) + 1) /\ Hid (MkSt w wr #[.slice a n1 cap, .slice a2 n2 cap2, .int .i64 p.trim, .int .i64 n3] v (mkA p f ++ mkB p f q ++ mkC3 p f q s))) (fun _ i _ => n3 + 1 - (intOf i).toNat)
       case atStart => exact ⟨0, by omega, by go_num, by have h := HS.out; show MkSt _ _ _ _ _; simpa [mkC3] using h⟩
       case round =>
        clear HS
        obtain ⟨s, hs, rfl, HS⟩ := hrel
        have c0 := blk_cell (HS).out.box 0
        have c1 := blk_cell (HS).out.box 1
        have c2 := blk_cell (HS).out.box 2
        have c3 := blk_cell (HS).out.box 3
        by_cases hlts : s < n3
        · have e9 : decide (((s : Int) + 1) <= (n3 : Int)) = true := decide_eq_true (by omega)
          go_wp2_with fail
          clear c0 c1 c2 c3
          go_loopw [3, 7] (fun v i wr => ∃ (h : Nat), h <= 2 /\ i = .int .i64 h /\ Hid (MkSt w wr #[.slice a n1 cap, .slice a2 n2 cap2, .int .i64 p.trim, .int .i64 n3] v (mkA p f ++ mkB p f q ++ mkC3 p f q s ++ mkD p f q s h))) (fun _ i _ => 2 - (intOf i).toNat)
          case atStart => exact ⟨0, by omega, rfl, by have h := HS.out; show MkSt _ _ _ _ _; simpa [mkD] using h⟩
          case round =>
           clear HS
           obtain ⟨h, hh, rfl, HS⟩ := hrel
           by_cases hlth : h < 2
           · have hl1 := mkA_len p f (by rw [<- HN3.out]; omega) (by rw [<- HN2.out]; omega)
             have hl2 := mkB_len p f q (by rw [<- HN3.out]; omega)
             have hl3 := mkC3_len p f q s
             have hl4 := mkD_len p f q s h
             have hxl : (mkA p f ++ mkB p f q ++ mkC3 p f q s ++ mkD p f q s h).length <= 1000 := by
              simp only [List.length_append]; omega
             clear hl1 hl2 hl3 hl4
             have hD := mkD_succ p f q s h
             have c0 := blk_cell (HS).out.box 0
             have c1 := blk_cell (HS).out.box 1
             have c2 := blk_cell (HS).out.box 2
             have c3 := blk_cell (HS).out.box 3
             have hz9 := blk_lt HS.out.box
             obtain ⟨B, hB⟩ : ∃ B, ((h : Int) == 1) = B := ⟨_, rfl⟩
             rw [hB] at hD
             have HDS : Hid (mkD p f q s (h + 1) = mkD p f q s h ++ [(⟨f, q, (s : Int) + 1, B⟩ : Mkw)].filter (okM p)) := Lib.hid hD
             clear hD
             obtain ⟨xs1, hxs1⟩ : ∃ xs1, xs1 = mkA p f ++ mkB p f q ++ mkC3 p f q s ++ mkD p f q s h := ⟨_, rfl⟩
             rw [<- hxs1] at HS hxl
             have HXS := Lib.hid hxs1
             clear hxs1
             have HS1 := Lib.hid (HS.out.later ((Below.refl _ _).alloc (Nat.le_refl _) (.cells #[.int .i64 f, .int .i64 q, .int .i64 ((s : Int) + 1), .bool B] 50)))
             have HBM : Hid ((wr.alloc (.cells #[.int .i64 f, .int .i64 q, .int .i64 ((s : Int) + 1), .bool B] 50)).heap[wr.heap.size]? = some (.cells #[.int .i64 f, .int .i64 q, .int .i64 ((s : Int) + 1), .bool B] 50 (0, 0))) := Lib.hid (World.alloc_heap_new _ _)
             clear HS
             go_wp2_with fail
             revert HS1 HBM
             generalize (wr.alloc (.cells #[.int .i64 f, .int .i64 q, .int .i64 ((s : Int) + 1), .bool B] 50)) = w1
             intro HS1 HBM
             refine (refMake2_any p ⟨f, q, (s : Int) + 1, B⟩ _ _ (HP.out.later HS1.out.bel) HE.out).mono ?_
             rintro e w2 ⟨rfl, hb⟩
             obtain ⟨z, hz⟩ : ∃ z, z = mkwErr p ⟨f, q, (s : Int) + 1, B⟩ := ⟨_, rfl⟩
             rw [<- hz]
             have HS2 := Lib.hid (HS1.out.later hb)
             have bm := blk_later hb HBM.out
             have q0 := blk_cell bm 0
             have q1 := blk_cell bm 1
             have q2 := blk_cell bm 2
             have q3 := blk_cell bm 3
             clear hb HS1 HBM bm c0 c1 c2 c3
             by_cases hz0 : z = 0
             · have HF : Hid (mkA p f ++ mkB p f q ++ mkC3 p f q s ++ mkD p f q s (h + 1) = xs1 ++ [(⟨f, q, (s : Int) + 1, B⟩ : Mkw)]) := Lib.hid (by
                rw [HDS.out, HXS.out, List.filter_cons_of_pos (by unfold okM; rw [<- hz, hz0]; rfl), List.filter_nil, List.append_assoc _ (mkD p f q s h)])
               have e0 : (z == 0) = true := by simp [hz0]
               clear hz hz0
               obtain ⟨hi1, hi2, hi3, hi4⟩ := HI.out
               have hz8 := blk_lt HS2.out.box
               go_wp2_with (at_builtin; refine wpList_append_own _ rfl _ _ 31 rfl (w.heap.size + 1) 50 ei _ 4 32 undMks hi1 hi2 hi3 hi4 rfl (by decide) _ xs1.length (mkCells xs1) rfl (HS2.out.row.alloc _) ⟨w2.heap.size, 0, none⟩ 1 1 (mkC ⟨f, q, (s : Int) + 1, B⟩) rfl rfl ?a1 ?b1 ?c1 ?d1 ?e1 ?f1)
               case a1 =>
                intro j u hju
                rw [add_offi]
                unfold World.cell?
                rw [World.alloc_heap_new]
                simpa using hju
               case b1 => intro u hu; simp at hu; rcases hu with rfl | rfl | rfl | rfl <;> rfl
               case c1 => simp only [maxLen]; omega
               case d1 => omega
               case e1 => (first | omega | (simp; omega))
               case f1 =>
                rintro v' w7 hown hgrow -
                have HS3 := HS2.out.later ((Below.refl _ w2).alloc (Nat.le_refl _) (.cells #[.int .i64 f, .int .i64 q, .int .i64 ((s : Int) + 1), .bool B] 50))
                have HS4 := Lib.hid (HS3.add (x := (⟨f, q, (s : Int) + 1, B⟩ : Mkw)) hown hgrow)
                clear hown hgrow HS3 hi1 hi2 hi3 hi4 q0 q1 q2 q3
                go_wp2_with fail
                go_roundw
                case rel => exact ⟨h + 1, by omega, by go_num, (by show MkSt w _ _ _ (mkA p f ++ mkB p f q ++ mkC3 p f q s ++ mkD p f q s (h + 1)); rw [HF.out]; exact HS4.out)⟩
                case measure => simp [intOf]; omega
             · have HF : Hid (mkA p f ++ mkB p f q ++ mkC3 p f q s ++ mkD p f q s (h + 1) = xs1) := Lib.hid (by
                rw [HDS.out, HXS.out, List.filter_cons_of_neg (by unfold okM; rw [<- hz]; simpa using hz0), List.filter_nil, List.append_nil])
               have e0 : (z == 0) = false := by simp [hz0]
               clear hz hz0
               go_wp2_with fail
               go_roundw
               case rel => exact ⟨h + 1, by omega, by go_num, (by show MkSt w _ _ _ (mkA p f ++ mkB p f q ++ mkC3 p f q s ++ mkD p f q s (h + 1)); rw [HF.out]; exact HS2.out)⟩
               case measure => simp [intOf]; omega
           · obtain rfl : h = 2 := by omega
             go_wp2_with fail
             go_roundw
             case rel => exact ⟨s + 1, by omega, by go_num, by have h := HS.out; show MkSt _ _ _ _ _; rw [mkC3_succ, <- List.append_assoc]; exact h⟩
             case measure => simp [intOf]; omega
        · obtain rfl : s = n3 := by omega
          have e9 : decide (((s : Int) + 1) <= (s : Int)) = false := decide_eq_false (by omega)
          go_wp2_with fail
          go_roundw
          case rel => exact ⟨q + 1, by omega, by go_num, by have h := HS.out; show MkSt _ _ _ _ _; rw [mkB_succ, <- List.append_assoc, <- HN3.out]; exact h⟩
          case measure => simp [intOf]; omega
     · obtain rfl : q = n2 := by omega
       go_wp2_with fail
       go_roundw
       case rel => exact ⟨f + 1, by omega, by go_num, by have h := HS.out; show MkSt _ _ _ _ _; rw [mkA_succ, <- HN2.out]; exact h⟩
       case measure => simp [intOf]; omega
  · obtain rfl : f = n1 := by omega
    go_wp2_with fail
    go_ret
    exact ⟨⟨_, rfl, by unfold makesW; rw [<- HN1.out]; exact row_mono HS.out.row (by omega)⟩, HS.out.bel⟩
end
section
set_option linter.unusedSimpArgs false
set_option linter.unusedVariables false
open Go Go.RowKit Go.Sort Go.BigFrame
theorem count_max : ∀ f ∈ allFolds, ∀ n ∈ [1, 2, 3, 4], 1 <= colsF f * rowsF f * n /\ colsF f * rowsF f * n <= 64 := by decide +kernel
theorem count_half : ∀ f ∈ allFolds, 2 <= f.length -> 2 <= colsF f * rowsF f /\ colsF f * rowsF f <= 64 := by decide +kernel
structure Fine (p : Prs) (m : Mkw) (f : Fmt) : Prop where
 len1 : 1 <= f.folds.length
 len4 : f.folds.length <= 4
 back : bytesF (fdsB f.folds) = f.folds
 sh1 : 1 <= m.sheets.toNat
 sh4 : m.sheets.toNat <= 4
 half : m.half = true -> m.sheets.toNat = 1 /\ 2 <= f.folds.length
theorem fine_at {p : Prs} {m : Mkw} (he : errP p = 0) (hm : mkwErr p m = 0) : 0 <= m.fmt /\ m.fmt.toNat < p.fmts.length /\ 0 <= m.ppr /\ m.ppr.toNat < p.pprs.length := by
 unfold mkwErr at hm
 split at hm
 · cases hm
 · rename_i h1
   have h1 : (inI 0 (p.fmts.length - 1) m.fmt && inI 0 (p.pprs.length - 1) m.ppr) = true := by simpa using h1
   simp only [inI, Bool.and_eq_true, decide_eq_true_eq] at h1
   omega
theorem fine_of {p : Prs} {m : Mkw} {f : Fmt} (he : errP p = 0) (hm : mkwErr p m = 0) (hf : p.fmts[m.fmt.toNat]? = some f) : Fine p m f := by
 obtain ⟨-, -, ⟨h5, h6⟩, hff⟩ := fine_press he
 obtain ⟨l1, l2, l3⟩ := fds_of_err (hff f (List.mem_of_getElem? hf))
 unfold mkwErr at hm
 split at hm
 · cases hm
 · split at hm
   · cases hm
   · rename_i h2
     split at hm
     · cases hm
     · rename_i h3
       have h2 : inI 1 p.sheets m.sheets = true := by simpa using h2
       simp only [inI, Bool.and_eq_true, decide_eq_true_eq] at h2
       refine ⟨l1, l2, bytes_back l3, by omega, by omega, fun hh => ?_⟩
       have hs : m.sheets = 1 := Classical.byContradiction fun h => h3 ⟨hh, Or.inl h⟩
       refine ⟨by omega, ?_⟩
       have : ¬ f.folds.length = 1 := fun h => h3 ⟨hh, Or.inr fun f' hf' => by rw [hf] at hf'; cases hf'; exact h⟩
       omega
abbrev leavesW (m : Mkw) (f : Fmt) : List Fl := leavesF (fdsB f.folds) m.sheets.toNat m.half
theorem Fine.mem {p : Prs} {m : Mkw} {f : Fmt} (h : Fine p m f) : fdsB f.folds ∈ allFolds /\ m.sheets.toNat ∈ [1, 2, 3, 4] := by
 have h1 := h.sh1
 have h2 := h.sh4
 refine ⟨allFolds_mem (by unfold fdsB; simpa using h.len1) (by unfold fdsB; simpa using h.len4), ?_⟩
 simp
 omega
theorem Fine.two {p : Prs} {m : Mkw} {f : Fmt} (h : Fine p m f) (hh : m.half = true) : m.sheets.toNat = 1 /\ 2 <= (fdsB f.folds).length := by
 have := h.half hh
 exact ⟨this.1, by unfold fdsB; simpa using this.2⟩
theorem Fine.count {p : Prs} {m : Mkw} {f : Fmt} (h : Fine p m f) : 1 <= (leavesW m f).length /\ (leavesW m f).length <= 64 := by
 obtain ⟨h1, h2⟩ := h.mem
 unfold leavesW
 cases hh : m.half with
 | false =>
   rw [leaves_count _ h1 _ h2]
   exact count_max _ h1 _ h2
 | true =>
   obtain ⟨h3, h4⟩ := h.two hh
   rw [h3]
   have a := leaves_count_half _ h1 h4
   have b := count_half _ h1 h4
   omega
theorem Fine.places {p : Prs} {m : Mkw} {f : Fmt} (h : Fine p m f) : placesB (leavesW m f) = true := by
 obtain ⟨h1, h2⟩ := h.mem
 unfold leavesW
 cases hh : m.half with
 | false => exact places_all _ h1 _ h2
 | true =>
   obtain ⟨h3, h4⟩ := h.two hh
   rw [h3]
   exact places_half _ h1 h4
theorem Fine.same {p : Prs} {m : Mkw} {f : Fmt} (h : Fine p m f) : leavesW m f = allR (fdsB f.folds) m.sheets.toNat m.half :=
 leaves_is (by unfold fdsB; simpa using h.len1) (by unfold fdsB; simpa using h.len4) h.sh1 h.sh4 (fun hh => h.two hh)
end
end Go.Proofs.YtpdhdgdbknnllaaGreatDoor
