/- The parts Fi, Ba, Gt of the proof, joined. It holds without conditions of its own. -/
import Derived.Test.YtpdhdgdbknnllaaGreatDoorFX8
import Derived.Test.YtpdhdgdbknnllaaGreatDoorFX10
import Derived.Test.YtpdhdgdbknnllaaGreatDoorFX3
import Derived.RangeFuncNested
import Derived.Shelf.RegionOpen
import Derived.OwnWalkIn
import Derived.TacticsInMore
import Derived.LoopNIn
import Derived.LoopIn
import Derived.Test.YtpdhdgdbknnllaaGreatDoorFX5
import Derived.Lib.QuietBelow
import Derived.StillTail
import Derived.StillTailTactics
import Derived.BigRegion
import Derived.Test.YtpdhdgdbknnllaaGreatDoorProg
set_option maxRecDepth 100000
set_option maxHeartbeats 20000000
namespace Go.Proofs.YtpdhdgdbknnllaaGreatDoor
section
set_option linter.unusedSimpArgs false
set_option linter.unusedVariables false
open Go Go.RowKit Go.Sort Go.BigFrame
theorem flat_split {α : Type} (F : Nat -> List α) {k n : Nat} (h : k < n) : ∃ rest, (List.range n).flatMap F = (List.range k).flatMap F ++ (F k ++ rest) := by
 obtain ⟨d, rfl⟩ : ∃ d, n = k + 1 + d := ⟨n - (k + 1), by omega⟩
 refine ⟨((List.range d).map (k + 1 + ·)).flatMap F, ?_⟩
 rw [List.range_add, List.flatMap_append, List.range_succ, List.flatMap_append]
 simp
abbrev mkPre (p : Prs) (f q s h : Nat) : List Mkw := mkA p f ++ mkB p f q ++ mkC3 p f q s ++ mkD p f q s h
theorem mk_split (p : Prs) {f q s h : Nat} (hf : f < p.fmts.length) (hq : q < p.pprs.length) (hs : s < p.sheets.toNat) (hh : h < 2) : ∃ rest, makesW p = mkPre p f q s h ++ ([(⟨f, q, (s : Int) + 1, (h : Int) == 1⟩ : Mkw)].filter (okM p) ++ rest) := by
 obtain ⟨r1, e1⟩ := flat_split (fun f => mkB p f p.pprs.length) hf
 obtain ⟨r2, e2⟩ := flat_split (fun q => mkC3 p f q p.sheets.toNat) hq
 obtain ⟨r3, e3⟩ := flat_split (fun s => mkD p f q s 2) hs
 obtain ⟨r4, e4⟩ := flat_split (fun (h : Nat) => [(⟨f, q, (s : Int) + 1, (h : Int) == 1⟩ : Mkw)].filter (okM p)) hh
 refine ⟨r4 ++ (r3 ++ (r2 ++ r1)), ?_⟩
 have a1 : makesW p = mkA p f ++ (mkB p f p.pprs.length ++ r1) := e1
 have a2 : mkB p f p.pprs.length = mkB p f q ++ (mkC3 p f q p.sheets.toNat ++ r2) := e2
 have a3 : mkC3 p f q p.sheets.toNat = mkC3 p f q s ++ (mkD p f q s 2 ++ r3) := e3
 have a4 : mkD p f q s 2 = mkD p f q s h ++ ([(⟨f, q, (s : Int) + 1, (h : Int) == 1⟩ : Mkw)].filter (okM p) ++ r4) := e4
 rw [a1, a2, a3, a4]
 simp only [mkPre, List.append_assoc]
theorem PrsAt.same {B B' : Nat} {w w' : World} {v : Value} {p : Prs} (h : PrsAt B w v p) (hs : ∀ k, k < B -> w'.heap[k]? = w.heap[k]?) (hB : B <= B') : PrsAt B' w' v p := by
 obtain ⟨fv, pv, rfl, h1, h2, h3⟩ := h
 exact ⟨fv, pv, rfl, (h1.same hs).mono hB, (h2.same hs).mono hB, h3⟩
structure MkIt (w₀ W : World) (pb B HK : Nat) (X : Nat -> Prop) : Prop where
 hs : W.heap[HK]? = some (.cells #[.bool false, .bool true] 4 (0, 0))
 x : X HK
 pr : ∀ j, (j = pb ∨ j < B) -> W.heap[j]? = w₀.heap[j]?
 sz : w₀.heap.size <= W.heap.size
theorem MkIt.kept {w₀ W W' : World} {pb B HK : Nat} {X : Nat -> Prop} (h : MkIt w₀ W pb B HK X) (hw₀ : ∀ j, (j = pb ∨ j < B) -> j < w₀.heap.size) (hk : Kept (fun k => k = pb ∨ k < B) X W W') : MkIt w₀ W' pb B HK X :=
 ⟨(hk.2 _ (blk_lt h.hs) (Or.inr h.x)).trans h.hs, h.x, fun j hj => (hk.2 j (by have := hw₀ j hj; have := h.sz; omega) (Or.inl hj)).trans (h.pr j hj), Nat.le_trans h.sz hk.1⟩
theorem makes_it (p : Prs) (fv pv : Value) (w₀ : World) (pb B : Nat) (hB : B <= w₀.heap.size) (hp : PrsAt B w₀ (.agg #[fv, pv, .int .i64 p.trim, .int .i64 p.sheets]) p) (he : errP p = 0)
  (hv : w₀.heap[pb]? = some (.cells #[fv, pv, .int .i64 p.trim, .int .i64 p.sheets] 122)) :
  ItC Tryz.prog 89 #[.pointer (some ⟨pb, 0, none⟩)] (fun m => #[mkwV m]) (makesW p) (fun k => k = pb ∨ k < B) w₀ := by
 intro l J Jx W hsz hpr hJ hJx hY h0
 obtain ⟨⟨f1, f2⟩, ⟨f3, f4⟩, ⟨f5, f6⟩, -⟩ := fine_press he
 have HPr := Lib.hid hp
 have HE := Lib.hid he
 obtain ⟨fv', pv', e, ⟨a, cap, rfl, -⟩, ⟨a2, cap2, rfl, -⟩, -⟩ := hp
 cases e
 obtain ⟨n1, hn1⟩ : ∃ n, n = p.fmts.length := ⟨_, rfl⟩
 obtain ⟨n2, hn2⟩ : ∃ n, n = p.pprs.length := ⟨_, rfl⟩
 obtain ⟨n3, hn3⟩ : ∃ n, n = p.sheets.toNat := ⟨_, rfl⟩
 obtain ⟨sh, hsh⟩ : ∃ s, s = p.sheets := ⟨_, rfl⟩
 have hs3 : sh = (n3 : Int) := by omega
 rw [<- hn1] at f1 f2 hv HPr
 rw [<- hn2] at f3 f4 hv HPr
 rw [<- hsh] at f5 f6 hv HPr
 have HN1 := Lib.hid hn1
 have HN2 := Lib.hid hn2
 have HN3 := Lib.hid hn3
 have HSH := Lib.hid hsh
 clear hn1 hn2 hn3 hsh he
 subst hs3
 refine (callsIn_wide (n := 10)).1 ?_
 refine callsIn_of_wp Tryz.func89 rfl trivial ?_ rfl
 simp only [Tryz.ntmps89, List.size_toArray, List.length_cons, List.length_nil, Nat.reduceAdd, Nat.reduceSub, Array.replicate_succ, Array.replicate_zero, List.push_toArray, List.append_toArray, List.nil_append, List.cons_append]
 have hvW := (hpr pb (Or.inl rfl)).trans hv
 have c0 := blk_cell hvW 0; have c1 := blk_cell hvW 1; have c2 := blk_cell hvW 2; have c3 := blk_cell hvW 3
 have hpw : ∀ j, (j = pb ∨ j < B) -> j < w₀.heap.size := fun j hj => by
  rcases hj with rfl | h
  · exact blk_lt hv
  · omega
 have HY := Lib.hid hY
 have HJ := Lib.hid hJ
 have HJx := Lib.hid hJx
 have HP := Lib.hid hpr
 have HV := Lib.hid hv
 have HPW := Lib.hid hpw
 have H0 : Hid (J (mkA p 0) (fun _ => False) W) := Lib.hid h0
 clear hY hJ hJx hpr hv hpw h0 hvW
 gi_wp2_with fail
 gi_loopw [13] (fun v wr => ∃ (f : Nat) (X : Nat -> Prop), f <= n1 /\ v = .int .i64 f /\ Hid (J (mkA p f) X wr) /\ w₀.heap.size <= wr.heap.size /\ Hid (∀ j, (j = pb ∨ j < B) -> wr.heap[j]? = w₀.heap[j]?)) (fun v _ => n1 - (intOf v).toNat)
 case atStart => exact ⟨0, _, by omega, rfl, H0, hsz, HP⟩
 case round =>
  obtain ⟨f, X, hf, rfl, hJk, hz, hpk⟩ := hrel
  clear c0 c1 c2 c3
  have hvw := (hpk.out pb (Or.inl rfl)).trans HV.out
  have c0 := blk_cell hvw 0; have c1 := blk_cell hvw 1; have c2 := blk_cell hvw 2; have c3 := blk_cell hvw 3
  by_cases hlt : f < n1
  · gi_wp2_with fail
    clear c0 c1 c2 c3 hvw
    gi_loopw [20] (fun v wr => ∃ (q : Nat) (X : Nat -> Prop), q <= n2 /\ v = .int .i64 q /\ Hid (J (mkA p f ++ mkB p f q) X wr) /\ w₀.heap.size <= wr.heap.size /\ Hid (∀ j, (j = pb ∨ j < B) -> wr.heap[j]? = w₀.heap[j]?)) (fun v _ => n2 - (intOf v).toNat)
    case atStart => exact ⟨0, X, by omega, rfl, (by have h := hJk.out; show J _ _ _; simpa [mkB] using h), hz, hpk⟩
    case round =>
     clear hJk hz hpk
     obtain ⟨q, X, hq, rfl, hJk, hz, hpk⟩ := hrel
     have hvw := (hpk.out pb (Or.inl rfl)).trans HV.out
     have c0 := blk_cell hvw 0; have c1 := blk_cell hvw 1; have c2 := blk_cell hvw 2; have c3 := blk_cell hvw 3
     by_cases hltq : q < n2
     · gi_wp2_with fail
       clear c0 c1 c2 c3 hvw
       gi_loopw [26] (fun v wr => ∃ (s : Nat) (X : Nat -> Prop), s <= n3 /\ v = .int .i64 s /\ Hid (J (mkA p f ++ mkB p f q ++ mkC3 p f q s) X wr) /\ w₀.heap.size <= wr.heap.size /\ Hid (∀ j, (j = pb ∨ j < B) -> wr.heap[j]? = w₀.heap[j]?)) (fun v _ => n3 - (intOf v).toNat)
       case atStart => exact ⟨0, X, by omega, rfl, (by have h := hJk.out; show J _ _ _; simpa [mkC3] using h), hz, hpk⟩
       case round =>
        clear hJk hz hpk
        obtain ⟨s, X, hs, rfl, hJk, hz, hpk⟩ := hrel
        by_cases hlts : s < n3
        · gi_wp2_with fail
          obtain ⟨w3, hw3⟩ : ∃ w3, w3 = wr := ⟨_, rfl⟩
          subst hw3
          have hb3 : Below w3.heap.size w3 (w3.alloc (.cells #[.bool false, .bool true] 4)) := (Below.refl _ _).alloc (Nat.le_refl _) _
          have HM0 : Hid (MkIt w₀ (w3.alloc (.cells #[.bool false, .bool true] 4)) pb B w3.heap.size (fun j => X j ∨ j = w3.heap.size)) := Lib.hid ⟨World.alloc_heap_new _ _, Or.inr rfl, fun j hj => (hb3.block j (by have := HPW.out j hj; omega)).trans (hpk.out j hj), by have := hb3.size; omega⟩
          have HJ0 : Hid (J (mkPre p f q s 0) (fun j => X j ∨ j = w3.heap.size) (w3.alloc (.cells #[.bool false, .bool true] 4))) := Lib.hid (by
           have h := HJ.out _ X (fun j => X j ∨ j = w3.heap.size) _ _ hJk.out (OnlyIn.of_below hb3) (fun j h => h.imp id (fun h => ⟨by omega, by simp; omega⟩))
           show J _ _ _
           simpa [mkPre, mkD] using h)
          clear hb3 hJk hpk
          gi_loopw [31] (fun v wi => ∃ (h : Nat) (X : Nat -> Prop), h <= 2 /\ v = .int .i64 h /\ Hid (J (mkPre p f q s h) X wi) /\ Hid (MkIt w₀ wi pb B w3.heap.size X)) (fun v _ => 2 - (intOf v).toNat)
          case atStart => exact ⟨0, _, by omega, rfl, HJ0, HM0⟩
          case round =>
           clear HM0 HJ0
           obtain ⟨h, X, hh, rfl, hJk, hM⟩ := hrel
           by_cases hlth : h < 2
           · obtain ⟨B2, hB2⟩ : ∃ B2, ((h : Int) == 1) = B2 := ⟨_, rfl⟩
             have ch : wr.cell? ⟨w3.heap.size, h, none⟩ = some (.bool B2) := by
              have h0 := blk_cell hM.out.hs h
              rw [h0, <- hB2]
              obtain rfl | rfl : h = 0 ∨ h = 1 := by omega
              · rfl
              · rfl
             have hvw := (hM.out.pr pb (Or.inl rfl)).trans HV.out
             have c0 := blk_cell hvw 0; have c1 := blk_cell hvw 1; have c2 := blk_cell hvw 2; have c3 := blk_cell hvw 3
             obtain ⟨rst, hspl⟩ := mk_split p (f := f) (q := q) (s := s) (h := h) (by have := HN1.out; omega) (by have := HN2.out; omega) (by have := HN3.out; omega) hlth
             have hD := mkD_succ p f q s h
             rw [hB2] at hspl hD
             have HSPL := Lib.hid hspl
             have HDS := Lib.hid hD
             have hpl := blk_lt hvw
             clear hspl hD hvw hB2
             gi_wp2_with fail
             have hz0 : ∃ z, z = mkwErr p (⟨f, q, (s : Int) + 1, B2⟩ : Mkw) := ⟨_, rfl⟩
             obtain ⟨z, hz⟩ := hz0
             refine ⟨trivial, (callsIn_wide.2 (makeError_any p (⟨f, q, (s : Int) + 1, B2⟩ : Mkw) _ _ ((HPr.out.same (w' := wr.alloc (.cells #[.int .i64 f, .int .i64 q, .int .i64 ((s : Int) + 1), .bool B2] 50)) (fun k hk => (((Below.refl _ _).alloc (Nat.le_refl _) _).block k (by have := HPW.out k (Or.inr hk); have := hM.out.sz; omega)).trans (hM.out.pr k (Or.inr hk))) (by have := hM.out.sz; simp; omega))) HE.out)).mono ?_⟩
             rintro e w4 ⟨rfl, hb4⟩
             rw [<- hz]
             have hb5 : Below wr.heap.size wr w4 := ((Below.refl _ _).alloc (Nat.le_refl _) _).trans (hb4.mono (by simp))
             have hm4 : w4.heap[wr.heap.size]? = some (.cells #[.int .i64 f, .int .i64 q, .int .i64 ((s : Int) + 1), .bool B2] 50 (0, 0)) := (hb4.block _ (by simp)).trans (World.alloc_heap_new _ _)
             have hM4 : Hid (MkIt w₀ w4 pb B w3.heap.size X) := Lib.hid ⟨(hb5.block _ (blk_lt hM.out.hs)).trans hM.out.hs, hM.out.x, fun j hj => (hb5.block j (by have := HPW.out j hj; have := hM.out.sz; omega)).trans (hM.out.pr j hj), by have := hM.out.sz; have := hb5.size; omega⟩
             have hJ4 : Hid (J (mkPre p f q s h) X w4) := Lib.hid (HJ.out _ X X _ _ hJk.out (OnlyIn.of_below hb5) (fun j h => Or.inl h))
             have d0 := blk_cell hm4 0; have d1 := blk_cell hm4 1; have d2 := blk_cell hm4 2; have d3 := blk_cell hm4 3
             have hs4 := blk_lt hm4
             have HZ := Lib.hid hz
             clear hz hb4 hb5 hm4 c0 c1 c2 c3 hpl ch hJk hM
             by_cases hz0 : z = 0
             · subst hz0
               obtain ⟨fn, tmps, assign, body, hy, hR⟩ := HY.out (mkPre p f q s h) (⟨f, q, (s : Int) + 1, B2⟩ : Mkw) rst X w4 (by rw [HSPL.out, List.filter_cons_of_pos (by unfold okM; rw [<- HZ.out]; rfl), List.filter_nil]; rfl) hJ4.out
               have HR := Lib.hid hR
               clear hR
               gi_wp2_with fail
               refine HR.out.mono ?_
               rintro e W' (⟨rfl, hJ', hk'⟩ | ⟨rfl, hJx', -⟩)
               · have M5 := Lib.hid (hM4.out.kept HPW.out hk')
                 have J5 := Lib.hid (show J (mkPre p f q s (h + 1)) X W' by
                  show J (_ ++ mkD p f q s (h + 1)) _ _
                  rw [HDS.out, List.filter_cons_of_pos (by unfold okM; rw [<- HZ.out]; rfl), List.filter_nil, <- List.append_assoc]
                  exact hJ')
                 clear hJ' hk' hy hM4 hJ4 d0 d1 d2 d3 hs4
                 gi_wp2_with fail
                 go_roundw
                 case rel => exact ⟨h + 1, X, by omega, by go_num, J5, M5⟩
                 case measure => simp [intOf]; omega
               · have Jx6 := Lib.hid hJx'
                 clear hJx' hy hM4 hJ4 d0 d1 d2 d3 hs4
                 gi_wp2_with fail
                 refine bodyPost_ret (results_none rfl _ _ _) rfl ?_
                 exact ⟨⟨_, rfl⟩, .inr ⟨_, _, Jx6.out⟩⟩
             · have hne : ((z : Int) == 0) = false := by simpa using hz0
               have J5 := Lib.hid (show J (mkPre p f q s (h + 1)) X w4 by
                show J (_ ++ mkD p f q s (h + 1)) _ _
                rw [HDS.out, List.filter_cons_of_neg (by unfold okM; rw [<- HZ.out]; simpa using hz0), List.filter_nil, List.append_nil]
                exact hJ4.out)
               clear hJ4
               gi_wp2_with fail
               refine ⟨fun _ h => (by cases h), ?_⟩
               gi_wp2_with fail
               go_roundw
               case rel => exact ⟨h + 1, X, by omega, by go_num, J5, hM4⟩
               case measure => simp [intOf]; omega
           · obtain rfl : h = 2 := by omega
             gi_wp2_with fail
             go_roundw
             case rel => exact ⟨s + 1, X, by omega, by go_num, (by have h := hJk.out; show J _ _ _; rw [mkC3_succ, <- List.append_assoc]; exact h), hM.out.sz, Lib.hid hM.out.pr⟩
             case measure => simp [intOf]; omega
        · obtain rfl : s = n3 := by omega
          gi_wp2_with fail
          go_roundw
          case rel => exact ⟨q + 1, X, by omega, by go_num, (by have h := hJk.out; show J _ _ _; rw [mkB_succ, <- List.append_assoc, <- HN3.out]; exact h), hz, hpk⟩
          case measure => simp [intOf]; omega
     · obtain rfl : q = n2 := by omega
       gi_wp2_with fail
       go_roundw
       case rel => exact ⟨f + 1, X, by omega, by go_num, (by have h := hJk.out; show J _ _ _; rw [mkA_succ, <- HN2.out]; exact h), hz, hpk⟩
       case measure => simp [intOf]; omega
  · obtain rfl : f = n1 := by omega
    have HU : Hid (mkA p f = makesW p) := Lib.hid (by unfold makesW; rw [<- HN1.out])
    gi_wp2_with fail
    go_end0
    exact ⟨⟨_, rfl⟩, .inl ⟨X, HU.out ▸ hJk.out⟩⟩
end
section
set_option linter.unusedSimpArgs false
set_option linter.unusedVariables false
open Go Go.RowKit Go.Sort Go.BigFrame
theorem bytesF_last {D : Fds} (h : 1 <= D.length) : ∃ k, (bytesF D).length = k + 1 /\ ∃ c : UInt8, ((c.toNat : Int) == 120) = lastF D /\ ∀ h : k < (⟨(bytesF D).toArray⟩ : ByteArray).size, (⟨(bytesF D).toArray⟩ : ByteArray)[k]'h = c := by
 have hne : D ≠ [] := fun e => by rw [e] at h; simp at h
 refine ⟨D.length - 1, by unfold bytesF; simp; omega, if lastF D then 120 else 121, by cases lastF D <;> rfl, ?_⟩
 intro h'
 have h0 : D.length - 1 < (bytesF D).length := by unfold bytesF; simp; omega
 have hg : (⟨(bytesF D).toArray⟩ : ByteArray)[D.length - 1]'h' = (bytesF D)[D.length - 1]'h0 := rfl
 rw [hg]
 have hm : (bytesF D)[D.length - 1]? = some (if lastF D then 120 else 121) := by
  unfold bytesF lastF
  rw [List.getElem?_map, List.getLastD_eq_getLast?, List.getLast?_eq_getElem?]
  rw [List.getElem?_eq_getElem (by omega)]
  simp
 rw [List.getElem?_eq_getElem h0] at hm
 exact Option.some.inj hm
end
section
set_option linter.unusedSimpArgs false
set_option linter.unusedVariables false
open Go Go.RowKit Go.Sort
section
variable {P : Program} {ops : Array Oper} {md : Region.Mode} {C : World -> Prop}
def HeadQ (P : Program) (md : Region.Mode) (ops : Array Oper) (C : World -> Prop) (n : Nat) (L : Array Bool -> Act -> Prop) : Nat -> Array Bool -> Act -> Prop
 | 0, s, a => L s a
 | f + 1, s, a => (∃ i, i ∈ Region.ready md ops s) /\ ∀ i ∈ Region.ready md ops s, i < n /\ qOp P ops C i (HeadQ P md ops C n L f (s.setIfInBounds i true)) a
theorem headQ_any {n g : Nat} {L : Array Bool -> Act -> Prop} {R : Exit -> Act -> World -> Prop} (hL : ∀ s a w, C w -> L s a -> wpAny P md ops R g s a w) :
  ∀ (f : Nat) (s : Array Bool) (a : Act) (w : World), C w -> HeadQ P md ops C n L f s a -> wpAny P md ops R (f + g) s a w := by
 intro f
 induction f with
 | zero => intro s a w hw h; simpa using hL s a w hw h
 | succ f ih =>
   intro s a w hw h
   have e : f + 1 + g = (f + g) + 1 := by omega
   rw [e]
   obtain ⟨⟨i0, h0⟩, h⟩ := h
   refine ⟨fun hn => ?_, fun i hi => wpOp_of_qOp hw (fun a' w' hw' hq => ih _ a' w' hw' hq) (h i hi).2⟩
   rw [hn] at h0
   cases h0
theorem unlisted_on {s : Array Bool} {i : Nat} (h1 : s.getD i true = false) (h2 : s.getD i false = true) : False := by
 rw [getD_both h1] at h2
 cases h2
def sinkP (md : Region.Mode) (ops : Array Oper) (p n : Nat) : Bool :=
 (List.range n).all fun i => decide (i < p) || (List.range (n + 1)).any fun j => decide (i < j) && Region.waitsFor md ops j i
theorem waits_on {s : Array Bool} {i j : Nat} (h : Region.waitsFor md ops j i = true) (hj : ∀ oj, ops[j]? = some oj -> ∀ e ∈ oj.after, Region.binds md e = true -> s.getD e.on false = true) (hi : s.getD i true = false) : False := by
 obtain ⟨oj, hoj, e, he, hb, hon⟩ := Region.waitsFor_spec h
 exact unlisted_on hi (hon ▸ hj oj hoj e he hb)
theorem tail_later {p n : Nat} {s : Array Bool} (hs : sinkP md ops p n = true) (hc : Region.chainB md ops n = true) (hn : n < ops.size) (inv : HeadInv md ops n s) :
  ∀ (d i : Nat), n - i <= d -> p <= i -> i < n -> s.getD i true = false -> ∀ t, n <= t -> t ∉ Region.ready md ops s := by
 intro d
 induction d with
 | zero => intro i hd _ hi; omega
 | succ d ih =>
   intro i hd hpi hi hun t ht hr
   obtain ⟨_, ot, hot, hall⟩ := mem_ready.1 hr
   have htz : t < ops.size := (Array.getElem?_eq_some_iff.1 hot).1
   have hat : ∀ oj, ops[t]? = some oj -> ∀ e ∈ oj.after, Region.binds md e = true -> s.getD e.on false = true := fun oj hoj => by
    rw [hot] at hoj
    cases hoj
    exact hall
   rcases Nat.lt_or_ge n t with hlt | hle
   · have h1 := List.all_eq_true.1 hc t (List.mem_range.2 htz)
     simp only [Bool.or_eq_true, decide_eq_true_eq] at h1
     rcases h1 with h1 | h1
     · omega
     · exact waits_on h1 hat (inv.tail (t - 1) (by omega) (by omega))
   · have e : t = n := by omega
     subst e
     have h1 := List.all_eq_true.1 hs i (List.mem_range.2 hi)
     simp only [Bool.or_eq_true, decide_eq_true_eq, List.any_eq_true, List.mem_range, Bool.and_eq_true] at h1
     rcases h1 with h1 | ⟨j, hj, hij, hw⟩
     · omega
     · rcases Nat.lt_or_ge j t with hjt | hjt
       · cases hl : s.getD j false with
         | true => exact waits_on hw (fun oj hoj => inv.closed j oj hoj hl) hun
         | false => exact ih j (by omega) (by omega) hjt (getD_in (by rw [inv.size]; omega) hl) t (Nat.le_refl _) hr
       · have e : j = t := by omega
         subst e
         exact waits_on hw hat hun
theorem headQ_first {p n i : Nat} {o : Oper} {v : Value} {L : Array Bool -> Act -> Prop} (ho : ops[i]? = some o) (hsel : ∀ (j : Nat) (o : Oper) cs b, ops[j]? = some o -> o.op ≠ .select cs b)
  (hs : sinkP md ops p n = true) (hc : Region.chainB md ops n = true) (hn : n < ops.size) (hpi : p <= i) (hin : i < n) (hend : ∀ s a, L s a -> ∀ j ∈ Region.ready md ops s, n <= j) :
  ∀ (f : Nat) (s : Array Bool) (a : Act), HeadInv md ops n s ->
    (∀ j oj, ops[j]? = some oj -> j ≠ i -> s.getD j true = false -> (∀ e ∈ oj.after, Region.binds md e = true -> e.on ≠ i) -> o.apart ops oj = true) ->
    i ∈ Region.ready md ops s -> YieldsIn P ops C o v a -> HeadQ P md ops C n L f (s.setIfInBounds i true) (a.put o.dst v) -> HeadQ P md ops C n L (f + 1) s a := by
 intro f
 induction f with
 | zero =>
   intro s a inv _ hi hy H
   refine ⟨⟨i, hi⟩, fun j hj => ?_⟩
   have hjn : j < n := Nat.lt_of_not_le fun hle => tail_later hs hc hn inv _ i (Nat.le_refl _) hpi hin (mem_ready.1 hi).1 j hle hj
   by_cases e : j = i
   · subst e
     exact ⟨hjn, hy.qOp ho H⟩
   · have := hend _ _ H j (ready_mono hj e)
     omega
 | succ f ih =>
   intro s a inv hfree hi hy H
   refine ⟨⟨i, hi⟩, fun j hj => ?_⟩
   have hjn : j < n := Nat.lt_of_not_le fun hle => tail_later hs hc hn inv _ i (Nat.le_refl _) hpi hin (mem_ready.1 hi).1 j hle hj
   refine ⟨hjn, ?_⟩
   by_cases e : j = i
   · subst e
     exact hy.qOp ho H
   · obtain ⟨hun, oj, hoj, hafter⟩ := mem_ready.1 hj
     have hno : ∀ e ∈ oj.after, Region.binds md e = true -> e.on ≠ i := fun e he hb q => unlisted_on (mem_ready.1 hi).1 (q ▸ hafter e he hb)
     have hq := qOp_put hoj (hfree j oj hoj e hun hno) (fun cs b => hsel i o cs b ho) (fun cs b => hsel j oj cs b hoj) hy (H.2 j (ready_mono hj e)).2
     refine qOp_mono (fun a' hk => ih _ a' (inv.set hj hjn) (fun k ok hk2 hki hun2 hno2 => hfree k ok hk2 hki ?_ hno2) (ready_mono hi (Ne.symm e)) hk.1 ?_) hq
     · by_cases q : j = k
       · subst q; exact hun
       · rwa [getD_set_ne true q] at hun2
     · rw [Array.setIfInBounds_comm _ _ e]
       exact hk.2
theorem headQ_lex {p n g : Nat} {K : Act -> Prop} (hsel : Region.noSelect ops = true) (hs : sinkP md ops p n = true) (hc : Region.chainB md ops n = true) (hn : n < ops.size) :
  ∀ (l : List Oper) (k : Nat) (s : Array Bool) (a : Act), (∀ j, j < l.length -> l[j]? = ops[k + j]?) -> p <= k -> k + l.length = n -> HeadInv md ops n s ->
    Region.lexHead md ops g l.length k s = true -> wpQuiet P ops C K l a -> HeadQ P md ops C n (fun s' a' => Region.seqB md ops g n s' = true /\ K a') l.length s a := by
 intro l
 induction l with
 | nil =>
   intro k s a _ _ hk _ hB h
   have e : k = n := by simpa using hk
   subst e
   exact ⟨by simpa [Region.lexHead] using hB, h⟩
 | cons o l ih =>
   intro k s a hl hpk hk inv hB h
   have ho : ops[k]? = some o := by simpa using (hl 0 (by simp)).symm
   simp only [List.length_cons] at hk
   simp only [List.length_cons, Region.lexHead, Bool.and_eq_true] at hB
   obtain ⟨⟨hr, hf⟩, hB⟩ := hB
   have hr : k ∈ Region.ready md ops s := by simpa using hr
   have hq : qOp P ops C k (wpQuiet P ops C K l) a := by
    unfold qOp
    simp only [ho]
    exact h
   obtain ⟨v, hy, hK⟩ := yieldsIn_of_qOp ho hq
   refine headQ_first ho (Region.noSelect_spec hsel) hs hc hn hpk (by omega) (fun _ _ hL => seqB_ready hL.1) l.length s a inv (Region.free_spec ho hf) hr hy
    (ih (k + 1) _ _ (fun j hj => ?_) (by omega) (by omega) (inv.set hr (by omega)) hB hK)
   have := hl (j + 1) (by simp only [List.length_cons]; omega)
   simpa [Nat.add_assoc, Nat.add_comm 1 j] using this
def leadV (o : Oper) (a : Act) : Value := match o.op with
 | .move x => a.eval x
 | _ => undef
def leadA : List Oper -> Act -> Act
 | [], a => a
 | o :: l, a => leadA l (a.put o.dst (leadV o a))
def leadS : Nat -> List Oper -> Array Bool -> Array Bool
 | _, [], s => s
 | k, _ :: l, s => leadS (k + 1) l (s.setIfInBounds k true)
def isMove (o : Oper) : Bool := o.guard.isNone && match o.op with
 | .move _ => true
 | _ => false
def leadB (md : Region.Mode) (ops : Array Oper) : Nat -> List Oper -> Array Bool -> Bool
 | _, [], _ => true
 | k, o :: l, s => isMove o && (Region.ready md ops s).contains k && Region.free md ops s k && leadB md ops (k + 1) l (s.setIfInBounds k true)
theorem move_yields {o : Oper} {a : Act} (h : isMove o = true) : Yields P ops o (leadV o a) a := by
 unfold isMove at h
 simp only [Bool.and_eq_true, Option.isNone_iff_eq_none] at h
 obtain ⟨hg, hm⟩ := h
 cases ho : o.op <;> simp only [ho] at hm <;> try (cases hm)
 rename_i x
 refine Or.inl ⟨by unfold Region.wanted; rw [hg], fun w => ?_⟩
 unfold leadV
 rw [ho]
 simp [execOp, ho, go_sem]
theorem lead_first {R : Exit -> Act -> World -> Prop} (hsel : Region.noSelect ops = true) (hR : ∀ c a b w, R (.panic c) a w -> R (.panic c) b w) :
  ∀ (l : List Oper) (k : Nat) (s : Array Bool) (a : Act) (f : Nat) (w : World), (∀ j, j < l.length -> l[j]? = ops[k + j]?) -> leadB md ops k l s = true ->
    wpAny P md ops R f (leadS k l s) (leadA l a) w -> wpAny P md ops R (l.length + f) s a w := by
 intro l
 induction l with
 | nil => intro k s a f w _ _ h; simpa [leadS, leadA] using h
 | cons o l ih =>
   intro k s a f w hl hB h
   have ho : ops[k]? = some o := by simpa using (hl 0 (by simp)).symm
   simp only [leadB, Bool.and_eq_true] at hB
   obtain ⟨⟨⟨hm, hr⟩, hf⟩, hB⟩ := hB
   have e : (o :: l).length + f = (l.length + f) + 1 := by simp only [List.length_cons]; omega
   rw [e]
   refine wpAny_first (v := leadV o a) ho (Region.noSelect_spec hsel) (fun c a w h => hR c _ _ w h) _ s a w (Region.free_spec ho hf) (by simpa using hr) (move_yields hm) ?_
   refine ih (k + 1) _ _ f w (fun j hj => ?_) hB h
   have := hl (j + 1) (by simp only [List.length_cons]; omega)
   simpa [Nat.add_assoc, Nat.add_comm 1 j] using this
theorem lead_inv {n : Nat} : ∀ (l : List Oper) (k : Nat) (s : Array Bool), k + l.length <= n -> leadB md ops k l s = true -> HeadInv md ops n s -> HeadInv md ops n (leadS k l s) := by
 intro l
 induction l with
 | nil => intro k s _ _ h; exact h
 | cons o l ih =>
   intro k s hk hB h
   simp only [List.length_cons] at hk
   simp only [leadB, Bool.and_eq_true] at hB
   obtain ⟨⟨⟨_, hr⟩, _⟩, hB⟩ := hB
   exact ih (k + 1) _ (by omega) hB (h.set (by simpa using hr) (by omega))
def tailB (ops : List Oper) (p n : Nat) : Bool :=
 Region.noSelect ops.toArray && decide (p <= n) && decide (n < ops.length) && sinkP .any ops.toArray p n && Region.chainB .any ops.toArray n && leadB .any ops.toArray 0 (ops.take p) (Array.replicate ops.length false) &&
  Region.lexHead .any ops.toArray (ops.length - n) (n - p) p (leadS 0 (ops.take p) (Array.replicate ops.length false))
theorem wp_region_lead_tail {id : Nat} {Q : Exit -> Act -> World -> Prop} {a : Act} {w : World} {l : List Oper} (p n : Nat) (hm : P.follows .mixedOrders = true) (hB : tailB l p n = true) (hR : ∀ c a b w, Q (.panic c) a w -> Q (.panic c) b w)
  (hC : C { w with drawn := w.drawn + 1 })
  (h : wpQuiet P l.toArray C (fun a' => ∀ w', C w' -> wpList P l.toArray Q (l.drop n) a' w') ((l.take n).drop p) (leadA (l.take p) a)) : (Code.region id l.toArray true).wp P Q a w := by
 simp only [tailB, Bool.and_eq_true, decide_eq_true_eq] at hB
 obtain ⟨⟨⟨⟨⟨⟨hsel, hpn⟩, hn⟩, hs⟩, hc⟩, hld⟩, hlex⟩ := hB
 have h0 : (l.take p).length = p := by simp; omega
 have h1 : ((l.take n).drop p).length = n - p := by simp; omega
 have h2 : (l.drop n).length = l.length - n := by simp
 have inv0 : HeadInv .any l.toArray n (Array.replicate l.length false) :=
  ⟨by simp, fun j oj _ hl => (by rw [getD_replicate_false] at hl; cases hl), fun t _ ht => getD_in (by simpa using ht) (getD_replicate_false _ _)⟩
 have inv := lead_inv (l.take p) 0 _ (by rw [h0]; omega) hld inv0
 have H := headQ_lex (md := .any) (g := l.length - n) hsel hs hc (by simpa using hn) ((l.take n).drop p) p _ (leadA (l.take p) a) (fun j hj => by
  rw [h1] at hj
  simp [List.getElem?_drop, show p + j < n by omega]) (Nat.le_refl _) (by rw [h1]; omega) inv (by rw [h1]; exact hlex) h
 refine wp_region_any hm ?_
 have := headQ_any (R := Q) (g := l.length - n) (fun s a' w' hw hL => by
  have := wpAny_of_seq (md := .any) (Q' := Q) (l.drop n) n s a' w' (fun j => by simp [List.getElem?_drop]) (by rw [h2]; exact hL.1) (hL.2 w' hw)
  rwa [h2] at this) _ _ _ _ hC H
 rw [h1] at this
 have := lead_first (R := Q) hsel hR (l.take p) 0 (Array.replicate l.length false) a _ _ (fun j hj => by rw [h0] at hj; simp [hj]) hld this
 rw [h0] at this
 have e : p + (n - p + (l.length - n)) = l.toArray.size := by simp; omega
 rw [e] at this
 simpa using this
theorem wp_region_below_tail {id : Nat} {Q : Exit -> Act -> World -> Prop} {a : Act} {w : World} {l : List Oper} (p n : Nat) (hm : P.follows .mixedOrders = true) (hB : tailB l p n = true)
  (h : ∀ R : Exit -> Act -> World -> Prop, (∀ a w, Q .normal a w -> R .normal a w) ->
   wpQuiet P l.toArray (fun w' => ∃ p : Regrown, w' = grow (redrawn w p.d) p.os) (fun a' => ∀ w', (∃ p : Regrown, w' = grow (redrawn w p.d) p.os) -> wpList P l.toArray R (l.drop n) a' w') ((l.take n).drop p) (leadA (l.take p) a)) : (Code.region id l.toArray true).wp P Q a w := by
 have := wp_region_lead_tail (Q := fun e a w => e = .normal /\ Q .normal a w) (id := id) (C := fun w' => ∃ p : Regrown, w' = grow (redrawn w p.d) p.os) p n hm hB (fun c a b w h => by cases h.1) ⟨⟨w.drawn + 1, #[]⟩, by rw [grow_empty]; rfl⟩ (h _ (fun a w h => ⟨rfl, h⟩))
 exact Code.wp_mono (fun e a w ⟨he, hq⟩ => by rw [he]; exact hq) this
end
end
end Go.Proofs.YtpdhdgdbknnllaaGreatDoor
