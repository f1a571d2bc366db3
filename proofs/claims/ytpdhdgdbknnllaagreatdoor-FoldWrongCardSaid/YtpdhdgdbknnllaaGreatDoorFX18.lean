/- The parts Fn of the proof, joined. It holds without conditions of its own. -/
import Derived.Test.YtpdhdgdbknnllaaGreatDoorFX17
import Derived.Test.YtpdhdgdbknnllaaGreatDoorFX2
import Derived.WalkMore
set_option maxRecDepth 100000
set_option maxHeartbeats 20000000
namespace Go.Proofs.YtpdhdgdbknnllaaGreatDoor
section
set_option linter.unusedSimpArgs false
set_option linter.unusedVariables false
open Go Go.RowKit Go.Sort Go.BigFrame
theorem ways_row {w₀ : World} {base : Nat} {p : Prs} {wv : Value} {zs : List (Mkw × Value)} (h : w₀.ownsRow base 83 14 wv zs.length (wyCells p zs)) :
  ∃ wa wc, wv = .slice wa zs.length wc /\ ∀ i z, zs[i]? = some z -> ∃ g, wa = some ⟨g, 0, none⟩ /\ wv.ownBlock = some g /\ ∀ c, c < 14 -> w₀.cell? ⟨g, i * 14 + c, none⟩ = (wayOf p z.1 z.2).toList[c]? := by
 rcases h.2 with ⟨rfl, h0⟩ | ⟨g, cap, cur, rfl, -, hg, -, -, -, htake⟩
 · exact ⟨none, 0, by rw [h0], fun i z hz => by have := (List.getElem?_eq_some_iff.1 hz).1; omega⟩
 · refine ⟨_, cap, rfl, fun i z hz => ⟨g, rfl, rfl, fun c hc => ?_⟩⟩
   have hlt := (List.getElem?_eq_some_iff.1 hz).1
   obtain ⟨-, he⟩ := row_at h hg
   rw [blk_cell hg, <- he _ (by omega), wy_at p zs i z hz c hc]
structure AgS (w₀ W : World) (sb nb B : Nat) : Prop where
 pr : ∀ j, (j = sb ∨ j = nb ∨ j < B) -> W.heap[j]? = w₀.heap[j]?
 sz : w₀.heap.size <= W.heap.size
theorem AgS.later {w₀ W W' : World} {sb nb B : Nat} (h : AgS w₀ W sb nb B) (hl : ∀ j, (j = sb ∨ j = nb ∨ j < B) -> j < w₀.heap.size) (hb : Below W.heap.size W W') : AgS w₀ W' sb nb B :=
 ⟨fun j hj => (hb.block j (by have := hl j hj; have := h.sz; omega)).trans (h.pr j hj), Nat.le_trans h.sz hb.size⟩
def okN (s : Nat) (x0 x1 x2 : Bool) : Nat -> Bool
 | 0 => true
 | 1 => !(s.testBit 0) || x0
 | 2 => (!(s.testBit 0) || x0) && (!(s.testBit 1) || x1)
 | _ => (!(s.testBit 0) || x0) && (!(s.testBit 1) || x1) && (!(s.testBit 2) || x2)
theorem take_keep {α : Type} {A : α -> Bool} {zs : List α} {k : Nat} {z : α} (h : zs[k]? = some z) : (A z = false -> (zs.take (k + 1)).filter A = (zs.take k).filter A) /\ (A z = true -> (zs.take (k + 1)).filter A = (zs.take k).filter A ++ [z] /\ ∃ rest, zs.filter A = (zs.take k).filter A ++ z :: rest) := by
 have e : zs.take (k + 1) = zs.take k ++ [z] := by rw [List.take_add_one, h]; rfl
 refine ⟨fun ha => by rw [e, List.filter_append]; simp [ha], fun ha => ⟨by rw [e, List.filter_append]; simp [ha], (zs.drop (k + 1)).filter A, ?_⟩⟩
 have e2 : zs = zs.take k ++ z :: zs.drop (k + 1) := by rw [<- drop_at h, List.take_append_drop]
 conv => lhs; rw [e2]
 rw [List.filter_append, List.filter_cons_of_pos ha]
theorem idy0 (x0 x1 x2 : Bool) (w : World) : (Instr.index 128 (.agg #[.bool x0, .bool x1, .bool x2]) (.int .i64 0)).run Tryz.prog w = .ok (.bool x0) w := by kernel_rfl
theorem idy1 (x0 x1 x2 : Bool) (w : World) : (Instr.index 128 (.agg #[.bool x0, .bool x1, .bool x2]) (.int .i64 1)).run Tryz.prog w = .ok (.bool x1) w := by kernel_rfl
theorem idy2 (x0 x1 x2 : Bool) (w : World) : (Instr.index 128 (.agg #[.bool x0, .bool x1, .bool x2]) (.int .i64 2)).run Tryz.prog w = .ok (.bool x2) w := by kernel_rfl
theorem okN_1 (s : Nat) (x0 x1 x2 : Bool) : okN s x0 x1 x2 1 = (okN s x0 x1 x2 0 && (!(s.testBit 0) || x0)) := by simp [okN]
theorem okN_2 (s : Nat) (x0 x1 x2 : Bool) : okN s x0 x1 x2 2 = (okN s x0 x1 x2 1 && (!(s.testBit 1) || x1)) := rfl
theorem okN_3 (s : Nat) (x0 x1 x2 : Bool) : okN s x0 x1 x2 3 = (okN s x0 x1 x2 2 && (!(s.testBit 2) || x2)) := rfl
theorem okN_no {s : Nat} {x0 x1 x2 : Bool} {i : Nat} (hi : i <= 3) (h : okN s x0 x1 x2 i = false) : okN s x0 x1 x2 3 = false := by
 obtain rfl | rfl | rfl | rfl : i = 0 ∨ i = 1 ∨ i = 2 ∨ i = 3 := by omega
 · cases h
 · rw [okN_3, okN_2, h]; simp
 · rw [okN_3, h]; simp
 · exact h
theorem agreeing_it (p : Prs) (b : Bok) (he : (checkK p b).2.2 = 0) (s : Nat) (hs : s < 2048) (mv wv : Value) (w₀ : World) (sb nb B : Nat) (hB : B <= w₀.heap.size) (zs : List (Mkw × Value)) (hzl : zs.length <= 1000) (hzs : ∀ z ∈ zs, z.1 ∈ waysW p b (makesW p))
  (hrow : w₀.ownsRow 0 83 14 wv zs.length (wyCells p zs)) (hown : ∀ g, wv.ownBlock = some g -> g < B) (hlv : ∀ z ∈ zs, ∃ g, LeavesAt w₀ z.2 (lvOf p z.1) g /\ g < B) (hmk : RowsAt 2 mrkV B w₀ mv b.marks)
  (hseen : w₀.heap[sb]? = some (.cells (seenC b mv wv) 72 (0, 0))) (hset : w₀.heap[nb]? = some (.cells #[.int .u64 s] 79 (0, 0))) :
  ItC Tryz.prog 60 #[.pointer (some ⟨sb, 0, none⟩), .pointer (some ⟨nb, 0, none⟩)] (fun z => #[.agg (wayOf p z.1 z.2)]) (zs.filter fun z => agreesP p b s z.1) (fun k => k = sb ∨ k = nb ∨ k < B) w₀ := by
 intro l J Jx W hsz hpr hJ hJx hY h0
 obtain ⟨hep, hbl, hm8, hmi⟩ := fine_bok he
 have HL64 := Lib.hid hbl
 have ht := (fine_papers hep).1
 have HWF := Lib.hid (fun z hz => way_fine he (hzs z hz))
 obtain ⟨wa, wc, rfl, hwy⟩ := ways_row hrow
 have HWY := Lib.hid hwy
 obtain ⟨ma, mcap, rfl, -⟩ := id hmk
 obtain ⟨N, hN⟩ : ∃ N, N = zs.length := ⟨_, rfl⟩
 rw [<- hN] at hzl hseen hown
 have HN := Lib.hid hN
 have hpw : ∀ j, (j = sb ∨ j = nb ∨ j < B) -> j < w₀.heap.size := fun j hj => by
  rcases hj with rfl | rfl | h
  · exact blk_lt hseen
  · exact blk_lt hset
  · omega
 have HPW := Lib.hid hpw
 have HSEEN := Lib.hid hseen
 have HSET := Lib.hid hset
 have HY := Lib.hid hY
 have HJ := Lib.hid hJ
 have HJx := Lib.hid hJx
 have HMK := Lib.hid hmk
 have HLV := Lib.hid hlv
 have HOWN := Lib.hid hown
 have HM8 := Lib.hid hm8
 have HMI := Lib.hid hmi
 have HTR := Lib.hid ht
 have HA0 : Hid (AgS w₀ W sb nb B) := Lib.hid ⟨hpr, hsz⟩
 have HHAS := Lib.hid (fun (k : Nat) (hk : k < 8) (W' : World) => SetHas_any s k hs (by omega) W')
 have HS := Lib.hid hs
 have H0 : Hid (J ((zs.take 0).filter fun z => agreesP p b s z.1) (fun _ => False) W) := Lib.hid h0
 refine (callsIn_wide (n := 10)).1 ?_
 refine callsIn_of_wp Tryz.func60 rfl trivial ?_ rfl
 simp only [Tryz.ntmps60, List.size_toArray, List.length_cons, List.length_nil, Nat.reduceAdd, Nat.reduceSub, Array.replicate_succ, Array.replicate_zero, List.push_toArray, List.append_toArray, List.nil_append, List.cons_append]
 have hvW := (hpr sb (Or.inl rfl)).trans hseen
 dsimp only [seenC] at hvW
 have q7 := blk_cell hvW 7
 clear hbl hY hJ hJx hpr hseen hset hpw h0 hvW hmk hlv hown hm8 hmi ht hN hrow hwy hzs hs hep
 gi_wp2_with fail
 refine wpIn_scope (wpIn_seq (wpIn_label ?_))
 gi_wp2_with fail
 clear q7
 gi_loopw [12] (fun v wr => ∃ (k : Nat) (X : Nat -> Prop), k <= N /\ v = .int .i64 k /\ Hid (J ((zs.take k).filter fun z => agreesP p b s z.1) X wr) /\ Hid (AgS w₀ wr sb nb B)) (fun v _ => N - (intOf v).toNat)
 case atStart => exact ⟨0, _, by omega, rfl, H0, HA0⟩
 case round =>
  clear H0 HA0
  obtain ⟨k, X, hk, rfl, hJk, hA⟩ := hrel
  by_cases hlt : k < N
  · obtain ⟨z, hz⟩ : ∃ z, zs[k]? = some z := ⟨_, List.getElem?_eq_getElem (by have := HN.out; omega)⟩
    obtain ⟨g, rfl, hgo, hgc⟩ := HWY.out k z hz
    have hgB := HOWN.out g (by rw [HN.out]; exact hgo)
    obtain ⟨D, co, ro, nm, qa, qb, qc, qd, F⟩ := HWF.out z (List.mem_of_getElem? hz)
    obtain ⟨gl, hl, hglB⟩ := HLV.out z (List.mem_of_getElem? hz)
    obtain ⟨m, lv⟩ := z
    dsimp only at hgc F hl
    have hl' := hl
    obtain ⟨k7, rest7, rfl, -⟩ := hl'
    obtain ⟨N7, hN7⟩ : ∃ n, n = (lvOf p m).length := ⟨_, rfl⟩
    rw [<- hN7] at hl hgc hz
    obtain ⟨bs, hbs⟩ : ∃ x, x = bytesF D := ⟨_, rfl⟩
    have HWV : Hid (wayOf p m (.slice (some ⟨gl, 0, none⟩) N7 (N7 + k7)) = wayC m bs co ro ⟨nm, qa, qb, qc, qd⟩ p.trim (.slice (some ⟨gl, 0, none⟩) N7 (N7 + k7))) := Lib.hid (by rw [wayOf, F.flds, <- hbs, show fdsB bs = D by rw [hbs, <- F.flds]; exact F.fds, F.cols, F.rows, F.ppr])
    have hgc : ∀ c, c < 14 -> w₀.cell? ⟨g, k * 14 + c, none⟩ = (wayC m bs co ro ⟨nm, qa, qb, qc, qd⟩ p.trim (.slice (some ⟨gl, 0, none⟩) N7 (N7 + k7))).toList[c]? := fun c hc => by rw [<- HWV.out]; exact hgc c hc
    have cy : ∀ c, c < 14 -> wr.cell? ⟨g, k * 14 + c, none⟩ = (wayC m bs co ro ⟨nm, qa, qb, qc, qd⟩ p.trim (.slice (some ⟨gl, 0, none⟩) N7 (N7 + k7))).toList[c]? := fun c hc => by
     rw [<- hgc c hc]
     exact World.cell?_of_block (hA.out.pr g (Or.inr (Or.inr hgB)))
    have y0 := cy 0 (by omega)
    have y1 := cy 1 (by omega)
    have y2 := cy 2 (by omega)
    have y3 := cy 3 (by omega)
    have y4 := cy 4 (by omega)
    have y5 := cy 5 (by omega)
    have y6 := cy 6 (by omega)
    have y7 := cy 7 (by omega)
    have y8 := cy 8 (by omega)
    have y9 := cy 9 (by omega)
    have y10 := cy 10 (by omega)
    have y11 := cy 11 (by omega)
    have y12 := cy 12 (by omega)
    have y13 := cy 13 (by omega)
    simp only [Nat.add_zero] at y0
    have hgw : g < wr.heap.size := by have := HPW.out g (Or.inr (Or.inr hgB)); have := hA.out.sz; omega
    have hsw := (hA.out.pr sb (Or.inl rfl)).trans HSEEN.out
    dsimp only [seenC] at hsw
    have c0 := blk_cell (hsw) 0
    have c1 := blk_cell (hsw) 1
    have c2 := blk_cell (hsw) 2
    have c3 := blk_cell (hsw) 3
    have c4 := blk_cell (hsw) 4
    have c5 := blk_cell (hsw) 5
    have c6 := blk_cell (hsw) 6
    have c7 := blk_cell (hsw) 7
    have lsw := blk_lt hsw
    have HF := Lib.hid F
    have HZ := Lib.hid hz
    have HL := Lib.hid hl
    have HBS := Lib.hid hbs
    have HN7 := Lib.hid hN7
    have HGL := Lib.hid hglB
    clear hsw cy hgc hgB hglB hgo F hz hl hbs hN7
    obtain ⟨⟨x0, x1, x2⟩, hx⟩ : ∃ x, x = plainB p b m := ⟨_, rfl⟩
    have hco1 : 1 <= co /\ co <= 16 := by have := HF.out.cop; simp [pows] at this; omega
    have hro1 : 1 <= ro /\ ro <= 16 := by have := HF.out.rop; simp [pows] at this; omega
    have HPL : Hid (∀ W, Calls Tryz.prog 61 #[.agg (seenC b (.slice ma b.marks.length mcap) (.slice (some ⟨g, 0, none⟩) N wc)), .agg (wayC m bs co ro ⟨nm, qa, qb, qc, qd⟩ p.trim (.slice (some ⟨gl, 0, none⟩) N7 (N7 + k7)))] W fun e w' => e = .returned (.agg #[.bool x0, .bool x1, .bool x2]) /\ Below W.heap.size W w') := Lib.hid (fun W => by
     have h := plain_any m D co ro nm qa qb qc qd p.trim (.slice (some ⟨gl, 0, none⟩) N7 (N7 + k7)) b (.slice ma b.marks.length mcap) (.slice (some ⟨g, 0, none⟩) N wc) W HF.out.len1 HF.out.len4 hco1.1 hco1.2 hro1.1 hro1.2 HF.out.small.1 HF.out.small.2.1 HF.out.small.2.2.1 HF.out.small.2.2.2 HTR.out.1 HTR.out.2
     rw [<- HBS.out] at h
     have e : plainB p b m = (chainB2 b (lastF D), meetB (sizesF qa qb qc qd co ro (lastF D) p.trim).1 (sizesF qa qb qc qd co ro (lastF D) p.trim).2.1 b.wlo b.whi, meetB (sizesF qa qb qc qd co ro (lastF D) p.trim).2.2.1 (sizesF qa qb qc qd co ro (lastF D) p.trim).2.2.2 b.hlo b.hhi) := by
      unfold plainB
      rw [HF.out.fds, HF.out.ppr, HF.out.cols, HF.out.rows]
      rfl
     rw [e] at hx
     simp only [Prod.mk.injEq] at hx
     obtain ⟨rfl, rfl, rfl⟩ := hx
     exact h)
    have HCM : Hid (∀ (sh : Nat) W, RowsAt 2 mrkV W.heap.size W (.slice ma b.marks.length mcap) b.marks -> LeavesAt W (.slice (some ⟨gl, 0, none⟩) N7 (N7 + k7)) (lvOf p m) gl -> Calls Tryz.prog 63 #[.agg (seenC b (.slice ma b.marks.length mcap) (.slice (some ⟨g, 0, none⟩) N wc)), .agg (wayC m bs co ro ⟨nm, qa, qb, qc, qd⟩ p.trim (.slice (some ⟨gl, 0, none⟩) N7 (N7 + k7))), .int .i64 sh, .int .u64 s] W fun e w' => e = .returned (.bool (sheetB p b s m sh)) /\ Below W.heap.size W w') := Lib.hid (fun sh W h1 h2 => by
     have h := canBeMarked_any b s sh co ro gl m bs ⟨nm, qa, qb, qc, qd⟩ p.trim (.slice ma b.marks.length mcap) (.slice (some ⟨g, 0, none⟩) N wc) (.slice (some ⟨gl, 0, none⟩) N7 (N7 + k7)) (lvOf p m) W h1 h2 HS.out HM8.out (by have := HF.out.num; have := HL64.out; omega) (fun x hx => by have := HMI.out x hx; have := HF.out.num; omega) HF.out.leaf HF.out.cop HF.out.rop
     have e : sheetB p b s m sh = (trueFrom (lvOf p m) co ro s sh 0 0 b.marks || trueFrom (lvOf p m) co ro s sh 1 0 b.marks) := by
      unfold sheetB
      rw [HF.out.fds, HF.out.cols, HF.out.rows]
     rw [e]
     exact h)
    obtain ⟨sn, hsn⟩ : ∃ n, n = m.sheets.toNat := ⟨_, rfl⟩
    have hsn4 : 1 <= sn /\ sn <= 4 := by have := HF.out.sh; omega
    have HSN : Hid (m.sheets = (sn : Int)) := Lib.hid (by have := HF.out.sh; omega)
    have HAG : Hid (agreesP p b s m = (okN s x0 x1 x2 3 && (List.range sn).all fun sh => sheetB p b s m sh)) := Lib.hid (by unfold agreesP; rw [<- hx, hsn]; rfl)
    clear hx hco1 hro1 hsn
    gi_wp2_with fail
    refine ⟨trivial, (callsIn_wide.2 (HPL.out _)).mono ?_⟩
    rintro e w4 ⟨rfl, hb4⟩
    have hb5 : Below wr.heap.size wr w4 := ((Below.refl _ _).alloc (Nat.le_refl _) _).trans (hb4.mono (by simp))
    have HBX : Hid (w4.heap[wr.heap.size]? = some (.cells (wayC m bs co ro ⟨nm, qa, qb, qc, qd⟩ p.trim (.slice (some ⟨gl, 0, none⟩) N7 (N7 + k7))) 83 (0, 0))) := Lib.hid ((hb4.block _ (by simp)).trans (World.alloc_heap_new _ _))
    have HA4 : Hid (AgS w₀ w4 sb nb B) := Lib.hid (hA.out.later HPW.out hb5)
    have HJ4 : Hid (J ((zs.take k).filter fun z => agreesP p b s z.1) X w4) := Lib.hid (HJ.out _ X X _ _ hJk.out (OnlyIn.of_below hb5) (fun j h => Or.inl h))
    clear hb4 hb5 hA hJk y0 y1 y2 y3 y4 y5 y6 y7 y8 y9 y10 y11 y12 y13 c0 c1 c2 c3 c4 c5 c6 c7 HPL lsw hgw
    gi_wp2_with fail
    gi_loopw [19] (fun v wi => ∃ (i : Nat), i <= 3 /\ v = .int .i64 i /\ Hid (Below w4.heap.size w4 wi) /\ Hid (okN s x0 x1 x2 i = true)) (fun v _ => 3 - (intOf v).toNat)
    case atStart => exact ⟨0, by omega, rfl, Lib.hid (Below.refl _ _), Lib.hid rfl⟩
    case round =>
     obtain ⟨i, hi, rfl, HBi, HOK⟩ := hrel
     by_cases hi3 : i < 3
     · obtain rfl | rfl | rfl : i = 0 ∨ i = 1 ∨ i = 2 := by omega
       · skip
         have a0 := blk_cell (((HA4.out.later HPW.out HBi.out).pr nb (Or.inr (Or.inl rfl))).trans HSET.out) 0
         have JI := HJ.out _ X X _ _ HJ4.out (OnlyIn.of_below HBi.out) (fun j h => Or.inl h)
         have HJI := Lib.hid JI
         clear JI
         obtain ⟨q, hq⟩ : ∃ q, q = x0 := ⟨_, rfl⟩
         have iy : ∀ w : World, (Instr.index 128 (.agg #[.bool x0, .bool x1, .bool x2]) (.int .i64 0)).run Tryz.prog w = .ok (.bool q) w := fun w => by rw [hq]; exact idy0 x0 x1 x2 w
         have HXQ := Lib.hid hq
         clear hq
         gi_wp2_with fail
         refine ⟨trivial, (callsIn_wide.2 (HHAS.out 0 (by omega) _)).mono ?_⟩
         rintro e w5 ⟨rfl, hw5⟩
         obtain rfl := hw5
         obtain ⟨t, ht⟩ : ∃ t, t = s.testBit 0 := ⟨_, rfl⟩
         rw [<- ht]
         have HT := Lib.hid ht
         clear ht a0
         cases t with
         | false =>
           have HOK2 : Hid (okN s x0 x1 x2 (0 + 1) = true) := Lib.hid (by rw [okN_1, HOK.out, <- HT.out]; rfl)
           clear HOK HT HJI
           gi_wp2_with fail
           go_roundw
           case rel => exact ⟨0 + 1, by omega, by go_num, HBi, HOK2⟩
           case measure => simp [intOf]
         | true =>
           cases q with
           | true =>
             have HOK2 : Hid (okN s x0 x1 x2 (0 + 1) = true) := Lib.hid (by rw [okN_1, HOK.out, <- HT.out, <- HXQ.out]; rfl)
             clear HOK HT HJI HXQ
             gi_wp2_with fail
             go_roundw
             case rel => exact ⟨0 + 1, by omega, by go_num, HBi, HOK2⟩
             case measure => simp [intOf]
           | false =>
             have HNO : Hid (agreesP p b s m = false) := Lib.hid (by rw [HAG.out, okN_no (i := 0 + 1) (by omega) (by rw [okN_1, HOK.out, <- HT.out, <- HXQ.out]; rfl)]; rfl)
             clear HOK HT HXQ
             gi_wp2_with fail
             go_roundw
             case rel => exact ⟨k + 1, X, by omega, by go_num, Lib.hid (by rw [(take_keep (A := fun z => agreesP p b s z.1) HZ.out).1 HNO.out]; exact HJI.out), Lib.hid (HA4.out.later HPW.out HBi.out)⟩
             case measure => simp [intOf]; omega
       · skip
         have a0 := blk_cell (((HA4.out.later HPW.out HBi.out).pr nb (Or.inr (Or.inl rfl))).trans HSET.out) 0
         have JI := HJ.out _ X X _ _ HJ4.out (OnlyIn.of_below HBi.out) (fun j h => Or.inl h)
         have HJI := Lib.hid JI
         clear JI
         obtain ⟨q, hq⟩ : ∃ q, q = x1 := ⟨_, rfl⟩
         have iy : ∀ w : World, (Instr.index 128 (.agg #[.bool x0, .bool x1, .bool x2]) (.int .i64 1)).run Tryz.prog w = .ok (.bool q) w := fun w => by rw [hq]; exact idy1 x0 x1 x2 w
         have HXQ := Lib.hid hq
         clear hq
         gi_wp2_with fail
         refine ⟨trivial, (callsIn_wide.2 (HHAS.out 1 (by omega) _)).mono ?_⟩
         rintro e w5 ⟨rfl, hw5⟩
         obtain rfl := hw5
         obtain ⟨t, ht⟩ : ∃ t, t = s.testBit 1 := ⟨_, rfl⟩
         rw [<- ht]
         have HT := Lib.hid ht
         clear ht a0
         cases t with
         | false =>
           have HOK2 : Hid (okN s x0 x1 x2 (1 + 1) = true) := Lib.hid (by rw [okN_2, HOK.out, <- HT.out]; rfl)
           clear HOK HT HJI
           gi_wp2_with fail
           go_roundw
           case rel => exact ⟨1 + 1, by omega, by go_num, HBi, HOK2⟩
           case measure => simp [intOf]
         | true =>
           cases q with
           | true =>
             have HOK2 : Hid (okN s x0 x1 x2 (1 + 1) = true) := Lib.hid (by rw [okN_2, HOK.out, <- HT.out, <- HXQ.out]; rfl)
             clear HOK HT HJI HXQ
             gi_wp2_with fail
             go_roundw
             case rel => exact ⟨1 + 1, by omega, by go_num, HBi, HOK2⟩
             case measure => simp [intOf]
           | false =>
             have HNO : Hid (agreesP p b s m = false) := Lib.hid (by rw [HAG.out, okN_no (i := 1 + 1) (by omega) (by rw [okN_2, HOK.out, <- HT.out, <- HXQ.out]; rfl)]; rfl)
             clear HOK HT HXQ
             gi_wp2_with fail
             go_roundw
             case rel => exact ⟨k + 1, X, by omega, by go_num, Lib.hid (by rw [(take_keep (A := fun z => agreesP p b s z.1) HZ.out).1 HNO.out]; exact HJI.out), Lib.hid (HA4.out.later HPW.out HBi.out)⟩
             case measure => simp [intOf]; omega
       · skip
         have a0 := blk_cell (((HA4.out.later HPW.out HBi.out).pr nb (Or.inr (Or.inl rfl))).trans HSET.out) 0
         have JI := HJ.out _ X X _ _ HJ4.out (OnlyIn.of_below HBi.out) (fun j h => Or.inl h)
         have HJI := Lib.hid JI
         clear JI
         obtain ⟨q, hq⟩ : ∃ q, q = x2 := ⟨_, rfl⟩
         have iy : ∀ w : World, (Instr.index 128 (.agg #[.bool x0, .bool x1, .bool x2]) (.int .i64 2)).run Tryz.prog w = .ok (.bool q) w := fun w => by rw [hq]; exact idy2 x0 x1 x2 w
         have HXQ := Lib.hid hq
         clear hq
         gi_wp2_with fail
         refine ⟨trivial, (callsIn_wide.2 (HHAS.out 2 (by omega) _)).mono ?_⟩
         rintro e w5 ⟨rfl, hw5⟩
         obtain rfl := hw5
         obtain ⟨t, ht⟩ : ∃ t, t = s.testBit 2 := ⟨_, rfl⟩
         rw [<- ht]
         have HT := Lib.hid ht
         clear ht a0
         cases t with
         | false =>
           have HOK2 : Hid (okN s x0 x1 x2 (2 + 1) = true) := Lib.hid (by rw [okN_3, HOK.out, <- HT.out]; rfl)
           clear HOK HT HJI
           gi_wp2_with fail
           go_roundw
           case rel => exact ⟨2 + 1, by omega, by go_num, HBi, HOK2⟩
           case measure => simp [intOf]
         | true =>
           cases q with
           | true =>
             have HOK2 : Hid (okN s x0 x1 x2 (2 + 1) = true) := Lib.hid (by rw [okN_3, HOK.out, <- HT.out, <- HXQ.out]; rfl)
             clear HOK HT HJI HXQ
             gi_wp2_with fail
             go_roundw
             case rel => exact ⟨2 + 1, by omega, by go_num, HBi, HOK2⟩
             case measure => simp [intOf]
           | false =>
             have HNO : Hid (agreesP p b s m = false) := Lib.hid (by rw [HAG.out, okN_no (i := 2 + 1) (by omega) (by rw [okN_3, HOK.out, <- HT.out, <- HXQ.out]; rfl)]; rfl)
             clear HOK HT HXQ
             gi_wp2_with fail
             go_roundw
             case rel => exact ⟨k + 1, X, by omega, by go_num, Lib.hid (by rw [(take_keep (A := fun z => agreesP p b s z.1) HZ.out).1 HNO.out]; exact HJI.out), Lib.hid (HA4.out.later HPW.out HBi.out)⟩
             case measure => simp [intOf]; omega
     · have hi4 : 3 <= i := by omega
       have HOK3 : Hid (okN s x0 x1 x2 3 = true) := Lib.hid (by have h := HOK.out; rwa [show i = 3 by omega] at h)
       clear hi hi3
       have m2 := blk_cell (blk_later HBi.out HBX.out) 2
       have lb2 := blk_lt (blk_later HBi.out HBX.out)
       gi_wp2_with fail
       clear m2 lb2 hi4
       gi_loopw [34] (fun v wj => ∃ (i : Nat), i <= sn /\ v = .int .i64 i /\ Hid (Below w4.heap.size w4 wj) /\ Hid (∀ sh, sh < i -> sheetB p b s m sh = true)) (fun v _ => sn - (intOf v).toNat)
       case atStart => exact ⟨0, by omega, rfl, HBi, Lib.hid (fun sh h => by omega)⟩
       case round =>
        clear HBi HOK
        obtain ⟨i, hi, rfl, HBi, HSH⟩ := hrel
        have HAi := Lib.hid (HA4.out.later HPW.out HBi.out)
        have JI := HJ.out _ X X _ _ HJ4.out (OnlyIn.of_below HBi.out) (fun j h => Or.inl h)
        have HJI := Lib.hid JI
        have hway := blk_later HBi.out HBX.out
        dsimp only [wayC] at hway
        have p0 := blk_cell (hway) 0
        have p1 := blk_cell (hway) 1
        have p2 := blk_cell (hway) 2
        have p3 := blk_cell (hway) 3
        have p4 := blk_cell (hway) 4
        have p5 := blk_cell (hway) 5
        have p6 := blk_cell (hway) 6
        have p7 := blk_cell (hway) 7
        have p8 := blk_cell (hway) 8
        have p9 := blk_cell (hway) 9
        have p10 := blk_cell (hway) 10
        have p11 := blk_cell (hway) 11
        have p12 := blk_cell (hway) 12
        have p13 := blk_cell (hway) 13
        have lway := blk_lt hway
        clear JI
        by_cases hlt2 : i < sn
        · have hm2 : (i : Int) < m.sheets := by rw [HSN.out]; omega
          have hsw := (HAi.out.pr sb (Or.inl rfl)).trans HSEEN.out
          dsimp only [seenC] at hsw
          have c0 := blk_cell (hsw) 0
          have c1 := blk_cell (hsw) 1
          have c2 := blk_cell (hsw) 2
          have c3 := blk_cell (hsw) 3
          have c4 := blk_cell (hsw) 4
          have c5 := blk_cell (hsw) 5
          have c6 := blk_cell (hsw) 6
          have c7 := blk_cell (hsw) 7
          have lsw := blk_lt hsw
          have a0 := blk_cell ((HAi.out.pr nb (Or.inr (Or.inl rfl))).trans HSET.out) 0
          clear hsw hway
          gi_wp2_with fail
          refine ⟨trivial, (callsIn_wide.2 (HCM.out i _ ((HMK.out.same (fun k hk => HAi.out.pr k (Or.inr (Or.inr hk)))).mono (by have := HAi.out.sz; omega)) (HL.out.same (HAi.out.pr gl (Or.inr (Or.inr HGL.out)))))).mono ?_⟩
          rintro e w6 ⟨rfl, hb6⟩
          obtain ⟨q, hq⟩ : ∃ q, q = sheetB p b s m i := ⟨_, rfl⟩
          rw [<- hq]
          have HQ := Lib.hid hq
          have HB6 := Lib.hid (HBi.out.trans (hb6.mono HBi.out.size))
          clear hq hb6 c0 c1 c2 c3 c4 c5 c6 c7 p0 p1 p2 p3 p4 p5 p6 p7 p8 p9 p10 p11 p12 p13 a0 lsw lway hm2
          cases q with
          | false =>
            have HNO : Hid (agreesP p b s m = false) := Lib.hid (by
             rw [HAG.out, Bool.and_eq_false_iff]
             refine Or.inr (List.all_eq_false.2 ⟨i, List.mem_range.2 hlt2, by rw [<- HQ.out]; simp⟩))
            have HJ6 := Lib.hid (HJ.out _ X X _ _ HJ4.out (OnlyIn.of_below HB6.out) (fun j h => Or.inl h))
            clear HJI HQ
            gi_wp2_with fail
            go_roundw
            case rel => exact ⟨k + 1, X, by omega, by go_num, Lib.hid (by rw [(take_keep (A := fun z => agreesP p b s z.1) HZ.out).1 HNO.out]; exact HJ6.out), Lib.hid (HA4.out.later HPW.out HB6.out)⟩
            case measure => simp [intOf]; omega
          | true =>
            have HSH2 : Hid (∀ sh, sh < i + 1 -> sheetB p b s m sh = true) := Lib.hid (fun sh h => by
             by_cases h2 : sh = i
             · rw [h2]; exact HQ.out.symm
             · exact HSH.out sh (by omega))
            clear HJI HQ HSH
            gi_wp2_with fail
            go_roundw
            case rel => exact ⟨i + 1, by omega, by go_num, HB6, HSH2⟩
            case measure => simp [intOf]; omega
        · obtain rfl : i = sn := by omega
          have hm2 : m.sheets <= (i : Int) := by rw [HSN.out]; omega
          have HYES : Hid (agreesP p b s m = true) := Lib.hid (by
           rw [HAG.out, HOK3.out, Bool.true_and, List.all_eq_true]
           exact fun sh h => HSH.out sh (List.mem_range.1 h))
          obtain ⟨hkeep, rest, hsp⟩ := (take_keep (A := fun z => agreesP p b s z.1) HZ.out).2 HYES.out
          obtain ⟨fn, tmps, assign, body, hy, hR⟩ := HY.out _ _ _ X wr hsp HJI.out
          have hy2 : Sem.run Tryz.prog (Instr.yield l #[.agg (wayC m bs co ro ⟨nm, qa, qb, qc, qd⟩ p.trim (.slice (some ⟨gl, 0, none⟩) N7 (N7 + k7)))]) wr = .ok (Next.round l fn tmps assign body) wr := by rw [<- HWV.out]; exact hy
          have HR := Lib.hid hR
          have HKE := Lib.hid hkeep
          clear hR hy hkeep hsp hway
          gi_wp2_with fail
          clear p0 p1 p2 p3 p4 p5 p6 p7 p8 p9 p10 p11 p12 p13 lway hy2 hm2
          refine HR.out.mono ?_
          rintro e W' (⟨rfl, hJ', hk'⟩ | ⟨rfl, hJx', -⟩)
          · have HJ7 : Hid (J ((zs.take (k + 1)).filter fun z => agreesP p b s z.1) X W') := Lib.hid (by rw [HKE.out]; exact hJ')
            have HA7 : Hid (AgS w₀ W' sb nb B) := Lib.hid ⟨fun j hj => (hk'.2 j (by have := HPW.out j hj; have := HAi.out.sz; omega) (Or.inl hj)).trans (HAi.out.pr j hj), Nat.le_trans HAi.out.sz hk'.1⟩
            clear hJ' hk' HR HJI HAi HBi
            gi_wp2_with fail
            go_roundw
            case rel => exact ⟨k + 1, X, by omega, by go_num, HJ7, HA7⟩
            case measure => simp [intOf]; omega
          · have Jx6 := Lib.hid hJx'
            clear hJx' HR HJI HAi HBi
            gi_wp2_with fail
            rw [Exit.noGoto_ret]
            gi_wp2_with fail
            refine bodyPost_ret (results_none rfl _ _ _) rfl ?_
            exact ⟨⟨_, rfl⟩, .inr ⟨_, _, Jx6.out⟩⟩
  · obtain rfl : k = N := by omega
    have HU : Hid ((zs.take k).filter (fun z => agreesP p b s z.1) = zs.filter fun z => agreesP p b s z.1) := Lib.hid (by rw [HN.out, List.take_length])
    gi_wp2_with fail
    rw [Exit.noGoto_normal]
    gi_wp2_with fail
    go_end0
    exact ⟨⟨_, rfl⟩, .inl ⟨X, HU.out ▸ hJk.out⟩⟩
end
end Go.Proofs.YtpdhdgdbknnllaaGreatDoor
