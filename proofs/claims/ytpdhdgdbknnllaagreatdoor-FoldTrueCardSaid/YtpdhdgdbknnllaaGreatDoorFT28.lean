/- The parts Fv, Fs, Fw, Fc, Fx, Fy, Fz, He, Hg, Hi, Hh, Hj, Ha, Hk, Hb of the proof, joined. It holds without conditions of its own. -/
import Derived.Test.YtpdhdgdbknnllaaGreatDoorFT27
import Derived.Test.YtpdhdgdbknnllaaGreatDoorFT24
import Derived.Test.YtpdhdgdbknnllaaGreatDoorFT4
import Derived.Test.YtpdhdgdbknnllaaGreatDoorFT15
import Derived.Test.YtpdhdgdbknnllaaGreatDoorFT3
import Derived.Test.YtpdhdgdbknnllaaGreatDoorFT26
import Derived.Test.YtpdhdgdbknnllaaGreatDoorFT16
import Derived.Test.YtpdhdgdbknnllaaGreatDoorFT9
import Derived.Test.YtpdhdgdbknnllaaGreatDoorFT10
import Derived.Deep.OwnRows
set_option maxRecDepth 100000
set_option maxHeartbeats 20000000
namespace Go.Proofs.YtpdhdgdbknnllaaGreatDoor
section
set_option linter.unusedSimpArgs false
set_option linter.unusedVariables false
open Go Go.RowKit Go.Sort Go.BigFrame
theorem SetList_any (s : Nat) (hs : s < 2048) (W : World) (t : TypeId) (hW : W.heap[0]? = some (.cells tabL.toArray t (0, 0))) :
  Calls Tryz.prog 73 #[.int .u64 s] W fun e w' => (∃ v, e = .returned v /\ IntsAt w' v ((idxV 11 s.testBit).map fun (n : Nat) => (n : Int))) /\ Below W.heap.size W w' := by
 have h := lists_all t hs
 unfold listOk at h
 split at h
 · rename_i h' he
   refine (eval_tab followsT (ys := [.int .u64 (s : Int)]) hW he).mono ?_
   rintro en W' ⟨x, e', rfl, hx, -, hb⟩
   have h0 := Nat.eq_of_beq_eq_true h
   subst h0
   rw [VR_lit.1 hx]
   have e : idxV 11 (Nat.testBit 0) = [] := by decide +kernel
   refine ⟨⟨_, rfl, none, 0, ?_, fun hne => ?_⟩, hb⟩
   · rw [e]; rfl
   · rw [e] at hne; exact absurd rfl hne
 · rename_i b n cap h' he
   split at h
   · rename_i cs ty hg
     simp only [Bool.and_eq_true] at h
     obtain ⟨⟨k3, k4⟩, k5⟩ := h
     have t3 : n = (idxV 11 s.testBit).length := Nat.eq_of_beq_eq_true k3
     have t4 : n <= cs.length := Nat.le_of_ble_eq_true k4
     have t5 : cs.take n = (intVs (idxV 11 s.testBit)).map .lit := sameC_ok _ _ k5
     refine (eval_tab followsT (ys := [.int .u64 (s : Int)]) hW he).mono ?_
     rintro en W' ⟨x, e', rfl, hx, hr, hb⟩
     obtain ⟨hd, rfl⟩ := VR_slc.1 hx
     obtain ⟨-, o, ho, l, rest, rfl, hl, hrest⟩ := hr.at_ b _ hg
     have hlen := VRs_len hl
     have hl1 : l.take n = intVs (idxV 11 s.testBit) := by
      refine VRs_lits_eq (e := e') ?_
      rw [<- t5]
      have key : ∀ (k : Nat) (cs : List V) (l : List Value), VRs e' cs l -> VRs e' (cs.take k) (l.take k) := fun k => by
       induction k with
       | zero => intro cs l h; exact VRs_nil.2 rfl
       | succ k ih =>
         intro cs l h
         cases cs with
         | nil => rw [VRs_nil.1 h]; exact VRs_nil.2 rfl
         | cons c cs =>
           obtain ⟨x, xs, rfl, h1, h2⟩ := VRs_cons.1 h
           exact VRs_cons.2 ⟨x, _, rfl, h1, ih _ _ h2⟩
      exact key _ _ _ hl
     refine ⟨⟨_, rfl, some ⟨e'.σ b, 0, none⟩, _, by rw [List.length_map, <- t3], fun _ => ⟨e'.σ b, rfl, blk_lt ho, fun i x hx => ?_⟩⟩, hb⟩
     rw [blk_cell ho, List.getElem?_toArray]
     obtain ⟨m, hm, rfl⟩ : ∃ m, (idxV 11 s.testBit)[i]? = some m /\ (m : Int) = x := by
      rw [List.getElem?_map, Option.map_eq_some_iff] at hx
      exact hx
     have hi : i < n := by rw [t3]; exact (List.getElem?_eq_some_iff.1 hm).1
     rw [List.getElem?_append_left (by omega), <- List.getElem?_take_of_lt hi, hl1]
     unfold intVs
     rw [List.getElem?_map, hm]
     rfl
   · cases h
 · cases h
end
section
set_option linter.unusedSimpArgs false
set_option linter.unusedVariables false
open Go Go.RowKit Go.Sort Go.BigFrame
attribute [local go_sem] Oper.semAt_some putAll
theorem Agree_bad (p : Prs) (b : Bok) (vp mv : Value) (w : World) (hp : PrsAt w.heap.size w vp p) (hb : RowsAt 2 mrkV w.heap.size w mv b.marks) (he : (checkK p b).2.2 ≠ 0) :
  Calls Tryz.prog 8 #[vp, .agg #[.int .i64 b.leaves, .int .i64 b.chain, .int .i64 b.wlo, .int .i64 b.whi, .int .i64 b.hlo, .int .i64 b.hhi, mv]] w fun e w' => e = .returned (.tuple #[.slice none 0 0, .int .i64 (checkK p b).2.2]) /\ Below w.heap.size w w' := by
 have HOC := Lib.hid (fun W (h1 : PrsAt W.heap.size W vp p) (h2 : RowsAt 2 mrkV W.heap.size W mv b.marks) => openCase_bad p b vp mv W h1 h2 he)
 have HP := Lib.hid hp
 have HM := Lib.hid hb
 obtain ⟨ek, hek⟩ : ∃ e, e = (checkK p b).2.2 := ⟨_, rfl⟩
 rw [<- hek] at he HOC ⊢
 have hne : (ek != 0) = true := by simp [he]
 obtain ⟨fv, pv, rfl, ⟨fa, fcap, rfl, -⟩, ⟨pa, pcap, rfl, -⟩, -⟩ := hp
 obtain ⟨ma, mcap, rfl, -⟩ := hb
 obtain ⟨n1, hn1⟩ : ∃ n, n = p.fmts.length := ⟨_, rfl⟩
 obtain ⟨n2, hn2⟩ : ∃ n, n = p.pprs.length := ⟨_, rfl⟩
 obtain ⟨n3, hn3⟩ : ∃ n, n = b.marks.length := ⟨_, rfl⟩
 rw [<- hn1, <- hn2] at HP HOC ⊢
 rw [<- hn3] at HM HOC ⊢
 clear he hek hn1 hn2 hn3
 go_enter Tryz.func8, Tryz.ntmps8
 go_wp2_with fail
 have hb0 : Below w.heap.size w ((w.alloc (.cells #[.slice fa n1 fcap, .slice pa n2 pcap, .int .i64 p.trim, .int .i64 p.sheets] 25)).alloc (.cells #[.int .i64 b.leaves, .int .i64 b.chain, .int .i64 b.wlo, .int .i64 b.whi, .int .i64 b.hlo, .int .i64 b.hhi, .slice ma n3 mcap] 30)) := by exact (by repeat (first | exact Below.refl _ _ | assumption | (refine Below.alloc ?_ ?_ _; rotate_left; · (first | omega | (simp; done) | (simp; omega) | fail)) | (refine Below.setCell ?_ ?_ _; rotate_left; · (first | omega | (simp; done) | (simp; omega) | fail)) | refine Below.drew ?_ | fail))
 revert hb0
 generalize ((w.alloc (.cells #[.slice fa n1 fcap, .slice pa n2 pcap, .int .i64 p.trim, .int .i64 p.sheets] 25)).alloc (.cells #[.int .i64 b.leaves, .int .i64 b.chain, .int .i64 b.wlo, .int .i64 b.whi, .int .i64 b.hlo, .int .i64 b.hhi, .slice ma n3 mcap] 30)) = w0
 intro hb0
 refine (HOC.out _ (HP.out.later hb0) (HM.out.later hb0)).mono ?_
 rintro e w1 ⟨rfl, hb1⟩
 have hb2 := hb0.trans (hb1.mono hb0.size)
 have hs1 := hb2.size
 clear hb0 hb1 HOC
 go_wp2_with fail
 go_ret2
 exact ⟨rfl, by exact (by repeat (first | (refine Below.setCell ?_ ?_ _; rotate_left; · (first | omega | (simp; done) | (simp; omega) | fail)) | (refine Below.alloc ?_ ?_ _; rotate_left; · (first | omega | (simp; done) | (simp; omega) | fail)) | refine Below.drew ?_ | exact hb2 | fail))⟩
end
section
set_option linter.unusedSimpArgs false
set_option linter.unusedVariables false
open Go Go.RowKit Go.Sort Go.BigFrame
attribute [local go_sem] Oper.semAt_some putAll
def bestW (p : Prs) (b : Bok) : Nat := bestTo (fun s => ((waysW p b (makesW p)).filter (agreesP p b s)) != []) (allS b) (allS b)
theorem wz_fst (ys : List Wz) : (ys.map wz).map (·.1) = ys.map (·.1) := by rw [List.map_map]; rfl
theorem filter_none {p : Prs} {b : Bok} {s : Nat} (ys : List Wz) : ((ys.filter fun y => agreesP p b s y.1) != []) = (((ys.map (·.1)).filter (agreesP p b s)) != []) := by
 rw [<- agree_take p b (agreesP p b s) ys]
 cases ys.filter fun y => agreesP p b s y.1 <;> rfl
theorem Wrong_good (p : Prs) (b : Bok) (vp mv : Value) (w : World) (t : TypeId) (hp : PrsAt w.heap.size w vp p) (hb : RowsAt 2 mrkV w.heap.size w mv b.marks) (he : (checkK p b).2.2 = 0) (hW : w.heap[0]? = some (.cells tabL.toArray t (0, 0))) :
  Calls Tryz.prog 14 #[vp, .agg #[.int .i64 b.leaves, .int .i64 b.chain, .int .i64 b.wlo, .int .i64 b.whi, .int .i64 b.hlo, .int .i64 b.hhi, mv]] w fun e w' =>
   ((waysW p b (makesW p) = [] /\ e = .returned (.tuple #[.slice none 0 0, .int .i64 9])) ∨ (waysW p b (makesW p) ≠ [] /\ ∃ v, e = .returned (.tuple #[v, .int .i64 0]) /\ IntsAt w' v ((idxV 11 (bestW p b).testBit).map fun (n : Nat) => (n : Int)))) /\ Below w.heap.size w w' := by
 obtain ⟨hee, hbl, hm8, -⟩ := fine_bok he
 have hlenM : (waysW p b (makesW p)).length <= 192 := by
  obtain ⟨-, ⟨f3, f4⟩, ⟨f5, f6⟩, -⟩ := fine_press hee
  obtain ⟨⟨f1, f2⟩, -⟩ := fine_press hee
  have h1 := mkA_len p p.fmts.length (by omega) (by omega)
  have h2 : (waysW p b (makesW p)).length <= (makesW p).length := List.length_filter_le _ _
  unfold makesW at h2 ⊢
  omega
 have HOC := Lib.hid (fun W (h1 : PrsAt W.heap.size W vp p) (h2 : RowsAt 2 mrkV W.heap.size W mv b.marks) => openCase_any p b vp mv W h1 h2 he)
 have HP := Lib.hid hp
 have HM := Lib.hid hb
 have HEK := Lib.hid he
 have HLM := Lib.hid hlenM
 have HW := Lib.hid hW
 obtain ⟨fv, pv, rfl, ⟨fa, fcap, rfl, -⟩, ⟨pa, pcap, rfl, -⟩, -⟩ := hp
 obtain ⟨ma, mcap, rfl, -⟩ := hb
 obtain ⟨n1, hn1⟩ : ∃ n, n = p.fmts.length := ⟨_, rfl⟩
 obtain ⟨n2, hn2⟩ : ∃ n, n = p.pprs.length := ⟨_, rfl⟩
 obtain ⟨n3, hn3⟩ : ∃ n, n = b.marks.length := ⟨_, rfl⟩
 have HN3 := Lib.hid hn3
 rw [<- hn1, <- hn2] at HP HOC ⊢
 rw [<- hn3] at HM HOC hm8 ⊢
 clear he hee hbl hlenM hn1 hn2 hn3 hW
 go_enter Tryz.func14, Tryz.ntmps14
 go_wp2_with fail
 have hb0 : Below w.heap.size w ((w.alloc (.cells #[.slice fa n1 fcap, .slice pa n2 pcap, .int .i64 p.trim, .int .i64 p.sheets] 25)).alloc (.cells #[.int .i64 b.leaves, .int .i64 b.chain, .int .i64 b.wlo, .int .i64 b.whi, .int .i64 b.hlo, .int .i64 b.hhi, .slice ma n3 mcap] 30)) := by exact (by repeat (first | exact Below.refl _ _ | assumption | (refine Below.alloc ?_ ?_ _; rotate_left; · (first | omega | (simp; done) | (simp; omega) | fail)) | (refine Below.setCell ?_ ?_ _; rotate_left; · (first | omega | (simp; done) | (simp; omega) | fail)) | refine Below.drew ?_ | fail))
 revert hb0
 generalize ((w.alloc (.cells #[.slice fa n1 fcap, .slice pa n2 pcap, .int .i64 p.trim, .int .i64 p.sheets] 25)).alloc (.cells #[.int .i64 b.leaves, .int .i64 b.chain, .int .i64 b.wlo, .int .i64 b.whi, .int .i64 b.hlo, .int .i64 b.hhi, .slice ma n3 mcap] 30)) = w0
 intro hb0
 refine (HOC.out _ (HP.out.later hb0) (HM.out.later hb0)).mono ?_
 rintro e w1 ⟨⟨wv, rfl, hwy⟩, hb1⟩
 have hb2 := hb0.trans (hb1.mono hb0.size)
 obtain ⟨zs, hz1, hz2, hz3⟩ := hwy
 obtain ⟨ys, rfl⟩ := wz_all zs (fun z hz => by
  obtain ⟨g, ⟨k, rest, e, -⟩, -⟩ := hz3 z hz
  exact ⟨_, _, _, e⟩)
 have hzl : (waysW p b (makesW p)).length = ys.length := by rw [<- hz1]; simp
 obtain ⟨va, vc, rfl⟩ : ∃ a c, wv = Value.slice a ys.length c := by
  rcases hz2.2 with ⟨rfl, h0⟩ | ⟨g, cap, cur, rfl, -⟩
  · exact ⟨_, _, by rw [<- hzl, h0]⟩
  · exact ⟨_, _, by rw [<- hzl]⟩
 have hsn : SnAt w1 p b (.slice ma n3 mcap) (.slice va ys.length vc) ys := ⟨by rw [<- wz_fst]; exact hz1, by rw [<- hzl]; exact row_mono (by rw [<- hzl] at hz2; exact hz2) (Nat.zero_le _), fun z hz => by
  obtain ⟨g, hl, -⟩ := hz3 z hz
  exact ⟨g, hl⟩, HM.out.later hb2, by have := HLM.out; omega⟩
 have HSN := Lib.hid hsn
 have HB2 := Lib.hid hb2
 have HZL := Lib.hid hzl
 have HZ1 := Lib.hid hz1
 have hs1 := hb2.size
 obtain ⟨vn, hvn⟩ : ∃ n, n = ys.length := ⟨_, rfl⟩
 have HVN := Lib.hid hvn
 rw [<- hvn] at HSN ⊢
 clear hz1 hz2 hz3 hb0 hb1 hb2 HOC hsn hzl hvn
 by_cases h0 : vn = 0
 · subst h0
   have he0 : waysW p b (makesW p) = [] := List.length_eq_zero_iff.1 (by rw [HZL.out, <- HVN.out])
   have HE0 := Lib.hid he0
   clear he0
   go_wp2_with fail
   go_ret2
   exact ⟨Or.inl ⟨HE0.out, rfl⟩, by exact (by repeat (first | (refine Below.setCell ?_ ?_ _; rotate_left; · (first | omega | (simp; done) | (simp; omega) | fail)) | (refine Below.alloc ?_ ?_ _; rotate_left; · (first | omega | (simp; done) | (simp; omega) | fail)) | refine Below.drew ?_ | exact HB2.out | fail))⟩
 · have hne : ((vn : Int) == 0) = false := by simp; omega
   have HNE : Hid (waysW p b (makesW p) ≠ []) := Lib.hid (fun h => h0 (by rw [HVN.out, <- HZL.out, h]; rfl))
   clear h0
   go_wp2_with fail
   have hba : Below w1.heap.size w1 (w1.alloc (.cells #[.int .i64 b.leaves, .int .i64 b.chain, .int .i64 b.wlo, .int .i64 b.whi, .int .i64 b.hlo, .int .i64 b.hhi, .slice ma n3 mcap, .slice va vn vc] 72)) := (Below.refl _ _).alloc (Nat.le_refl _) _
   have hbx : Below w.heap.size w (w1.alloc (.cells #[.int .i64 b.leaves, .int .i64 b.chain, .int .i64 b.wlo, .int .i64 b.whi, .int .i64 b.hlo, .int .i64 b.hhi, .slice ma n3 mcap, .slice va vn vc] 72)) := HB2.out.trans (hba.mono HB2.out.size)
   refine (wrong_any p b ma n3 mcap va vn vc ys _ (HSN.out.later hba) HEK.out hm8 (fun s W v w' => IntsAt w' v ((idxV 11 s.testBit).map fun (n : Nat) => (n : Int))) (fun s W hs hb => SetList_any s hs W t (blk_later (hbx.trans (hb.mono hbx.size)) HW.out))).mono ?_
   rintro e w3 ⟨⟨W, v, -, rfl, hr⟩, hb3⟩
   have hr2 : IntsAt w3 v ((idxV 11 (bestW p b).testBit).map fun (n : Nat) => (n : Int)) := by
    have e : bestTo (fun s => (ys.filter fun y => agreesP p b s y.1) != []) (2 ^ (3 + n3) - 1) (2 ^ (3 + n3) - 1) = bestW p b := by
     unfold bestW allS
     rw [<- HN3.out]
     congr 1
     funext s
     rw [filter_none, <- wz_fst, HZ1.out]
    rw [e] at hr
    exact hr
   have HR2 := Lib.hid hr2
   have HB3 := Lib.hid (hbx.trans (hb3.mono hbx.size))
   clear hr hr2 hb3 hba hbx
   go_wp2_with fail
   go_ret2
   exact ⟨Or.inr ⟨HNE.out, _, rfl, HR2.out⟩, HB3.out⟩
end
section
set_option linter.unusedSimpArgs false
set_option linter.unusedVariables false
structure Way where
 cols : Nat
 rows : Nat
 leaves : List Fl
 sheets : Nat
 ok : Nat -> Bool
end
section
set_option linter.unusedSimpArgs false
set_option linter.unusedVariables false
theorem best_inv (A : Nat -> Bool) (all : Nat) (ha : all < 2048) : ∀ k, k <= all -> (bestTo A all k = all ∨ (bestTo A all k < k /\ A (all - bestTo A all k) = true)) /\ (∀ s, s < k -> A (all - s) = true -> leV 11 (bestTo A all k).testBit s.testBit) /\ leV 11 (bestTo A all k).testBit all.testBit
 | 0, _ => ⟨Or.inl rfl, fun s h => by omega, leV_refl _ _⟩
 | k + 1, h => by
   obtain ⟨h1, h2, h3⟩ := best_inv A all ha k (by omega)
   have hle := bestTo_le A all k (by omega)
   have hai := ahead_is (s := k) (o := bestTo A all k) (by omega) (by omega)
   rw [bestTo_succ]
   by_cases hc : (aheadN k (bestTo A all k) && A (all - k)) = true
   · rw [if_pos hc]
     rw [Bool.and_eq_true] at hc
     have hlt := hai.1 hc.1
     refine ⟨Or.inr ⟨by omega, hc.2⟩, fun s hs hA => ?_, fun hx => h3 (ltV_trans hx hlt)⟩
     by_cases hsk : s = k
     · subst hsk; exact leV_refl _ _
     · exact fun hx => h2 s (by omega) hA (ltV_trans hx hlt)
   · rw [if_neg hc]
     refine ⟨h1.imp id fun ⟨a, b⟩ => ⟨by omega, b⟩, fun s hs hA hx => ?_, h3⟩
     by_cases hsk : s = k
     · subst hsk
       exact hc (by rw [Bool.and_eq_true]; exact ⟨hai.2 hx, hA⟩)
     · exact h2 s (by omega) hA hx
theorem true_from (ls : List Fl) (co ro s sh h : Nat) : ∀ (ms : List (Int × Bool)) (k : Nat), trueFrom ls co ro s sh h k ms = true ↔ ∀ j m, ms[j]? = some m -> s.testBit (3 + (k + j)) = true -> untrB ls co ro sh h m = false
 | [], k => ⟨fun _ j m hm => (by simp at hm), fun _ => rfl⟩
 | x :: ms, k => by
   unfold trueFrom
   by_cases hc : s.testBit (3 + k) = true /\ untrB ls co ro sh h x = true
   · rw [if_pos hc]
     refine ⟨fun hh => (by cases hh), fun hh => ?_⟩
     have := hh 0 x rfl hc.1
     rw [hc.2] at this
     cases this
   · rw [if_neg hc, true_from ls co ro s sh h ms (k + 1)]
     constructor
     · intro hh j m hm hs
       cases j with
       | zero =>
         simp only [List.getElem?_cons_zero, Option.some.injEq] at hm
         subst hm
         cases hu : untrB ls co ro sh h x with
         | false => rfl
         | true => exact absurd ⟨hs, hu⟩ hc
       | succ j => exact hh j m (by simpa using hm) (by rw [show k + 1 + j = k + (j + 1) by omega]; exact hs)
     · intro hh j m hm hs
       exact hh (j + 1) m (by simpa using hm) (by rw [show k + (j + 1) = k + 1 + j by omega]; exact hs)
end
section
set_option linter.unusedSimpArgs false
set_option linter.unusedVariables false
structure Wider (p p' : Prs) (b b' : Bok) : Prop where
 fmts : p'.fmts = p.fmts
 sheets : p'.sheets = p.sheets
 num : p'.pprs.length = p.pprs.length
 ppr : ∀ (i : Nat) (q : Ppr), p.pprs[i]? = some q -> ∃ q' : Ppr, p'.pprs[i]? = some q' /\ q'.wlo <= q.wlo /\ q.whi <= q'.whi /\ q'.hlo <= q.hlo /\ q.hhi <= q'.hhi
 trim : p.trim <= p'.trim
 leaves : b'.leaves = b.leaves
 chain : b'.chain = b.chain
 marks : b'.marks = b.marks
 wide : b'.wlo <= b.wlo /\ b.whi <= b'.whi
 high : b'.hlo <= b.hlo /\ b.hhi <= b'.hhi
theorem meet_wider {a b c d a' b' c' d' : Int} (h1 : a' <= a) (h2 : b <= b') (h3 : c' <= c) (h4 : d <= d') (h : meetB a b c d = true) : meetB a' b' c' d' = true := by
 unfold meetB at h ⊢
 rw [Bool.and_eq_true] at h ⊢
 exact ⟨decide_eq_true (by have := of_decide_eq_true h.1; omega), decide_eq_true (by have := of_decide_eq_true h.2; omega)⟩
theorem sizes_wider {a b c d a' b' c' d' co ro : Nat} {up : Bool} {tr tr' : Int} (h1 : a' <= a) (h2 : b <= b') (h3 : c' <= c) (h4 : d <= d') (h5 : tr <= tr') :
  (sizesF a' b' c' d' co ro up tr').1 <= (sizesF a b c d co ro up tr).1 /\ (sizesF a b c d co ro up tr).2.1 <= (sizesF a' b' c' d' co ro up tr').2.1 /\ (sizesF a' b' c' d' co ro up tr').2.2.1 <= (sizesF a b c d co ro up tr).2.2.1 /\ (sizesF a b c d co ro up tr).2.2.2 <= (sizesF a' b' c' d' co ro up tr').2.2.2 := by
 have k1 : ((a' / co : Nat) : Int) <= ((a / co : Nat) : Int) := Int.ofNat_le.2 (Nat.div_le_div_right h1)
 have k2 : ((b / co : Nat) : Int) <= ((b' / co : Nat) : Int) := Int.ofNat_le.2 (Nat.div_le_div_right h2)
 have k3 : ((c' / ro : Nat) : Int) <= ((c / ro : Nat) : Int) := Int.ofNat_le.2 (Nat.div_le_div_right h3)
 have k4 : ((d / ro : Nat) : Int) <= ((d' / ro : Nat) : Int) := Int.ofNat_le.2 (Nat.div_le_div_right h4)
 unfold sizesF
 cases up
 · simp only [Bool.false_eq_true, if_false]
   refine ⟨by omega, k4, by omega, k2⟩
 · simp only [if_true]
   refine ⟨by omega, k2, by omega, k4⟩
theorem Wider.flds {p p' : Prs} {b b' : Bok} (h : Wider p p' b b') (m : Mkw) : fldsOf p' m = fldsOf p m := by unfold fldsOf; rw [h.fmts]
theorem Wider.lv {p p' : Prs} {b b' : Bok} (h : Wider p p' b b') (m : Mkw) : lvOf p' m = lvOf p m := by unfold lvOf; rw [h.flds]
theorem Wider.err {p p' : Prs} {b b' : Bok} (h : Wider p p' b b') (m : Mkw) : mkwErr p' m = mkwErr p m := by unfold mkwErr; rw [h.fmts, h.num, h.sheets]
theorem Wider.makes {p p' : Prs} {b b' : Bok} (h : Wider p p' b b') : makesW p' = makesW p := by
 have e : okM p' = okM p := by funext m; unfold okM; rw [h.err]
 unfold makesW mkA mkB mkC3 mkD
 rw [h.fmts, h.num, h.sheets, e]
theorem Wider.ways {p p' : Prs} {b b' : Bok} (h : Wider p p' b b') : waysW p' b' (makesW p') = waysW p b (makesW p) := by
 unfold waysW waysP
 rw [h.makes, h.leaves]
 congr 1
 funext m
 rw [h.lv]
theorem Wider.agrees {p p' : Prs} {b b' : Bok} (h : Wider p p' b b') {m : Mkw} {q : Ppr} (hq : p.pprs[m.ppr.toNat]? = some q) {s : Nat} (k : agreesP p b s m = true) : agreesP p' b' s m = true := by
 obtain ⟨q', hq', w1, w2, w3, w4⟩ := h.ppr _ _ hq
 have e1 : pprOf p m = q := by unfold pprOf; rw [hq]
 have e2 : pprOf p' m = q' := by unfold pprOf; rw [hq']
 have hs := sizes_wider (a := q.wlo.toNat) (b := q.whi.toNat) (c := q.hlo.toNat) (d := q.hhi.toNat) (a' := q'.wlo.toNat) (b' := q'.whi.toNat) (c' := q'.hlo.toNat) (d' := q'.hhi.toNat) (co := colsF (fdsB (fldsOf p m))) (ro := rowsF (fdsB (fldsOf p m))) (up := lastF (fdsB (fldsOf p m))) (by omega) (by omega) (by omega) (by omega) h.trim
 obtain ⟨s1, s2, s3, s4⟩ := hs
 have p0 : (plainB p' b' m).1 = (plainB p b m).1 := by unfold plainB chainB2; rw [h.flds, h.chain]
 have p1 : (plainB p b m).2.1 = true -> (plainB p' b' m).2.1 = true := by
  unfold plainB
  rw [h.flds, e1, e2]
  exact meet_wider s1 s2 h.wide.1 h.wide.2
 have p2 : (plainB p b m).2.2 = true -> (plainB p' b' m).2.2 = true := by
  unfold plainB
  rw [h.flds, e1, e2]
  exact meet_wider s3 s4 h.high.1 h.high.2
 unfold agreesP at k ⊢
 simp only [Bool.and_eq_true, Bool.or_eq_true] at k ⊢
 obtain ⟨⟨⟨k0, k1⟩, k2⟩, k3⟩ := k
 refine ⟨⟨⟨?_, k1.imp id p1⟩, k2.imp id p2⟩, ?_⟩
 · rw [p0]; exact k0
 · have e : ∀ sh, sheetB p' b' s m sh = sheetB p b s m sh := fun sh => by unfold sheetB; rw [h.lv, h.flds, h.marks]
   simp only [e]
   exact k3
theorem way_ppr {p : Prs} {b : Bok} {m : Mkw} (he : (checkK p b).2.2 = 0) (hm : m ∈ waysW p b (makesW p)) : ∃ q, p.pprs[m.ppr.toNat]? = some q := by
 obtain ⟨h0, -, -, -⟩ := fine_bok he
 obtain ⟨hm1, -⟩ := List.mem_filter.1 hm
 obtain ⟨-, -, -, a4⟩ := fine_at h0 (makes_ok hm1)
 exact ⟨_, List.getElem?_eq_getElem a4⟩
theorem Wider.agree {p p' : Prs} {b b' : Bok} (h : Wider p p' b b') (he : (checkK p b).2.2 = 0) {m : Mkw} (hm : m ∈ agreeL p b) : m ∈ agreeL p' b' := by
 unfold agreeL at hm ⊢
 obtain ⟨h1, h2⟩ := List.mem_filter.1 hm
 obtain ⟨q, hq⟩ := way_ppr he h1
 refine List.mem_filter.2 ⟨by rw [h.ways]; exact h1, ?_⟩
 have : allS b' = allS b := by unfold allS; rw [h.marks]
 rw [this]
 exact h.agrees hq h2
theorem cnt_of_le {K : Nat} {u v : Nat -> Bool} (h : leV K u v) : cntV K u <= cntV K v := Nat.le_of_not_lt fun hl => h (Or.inl hl)
theorem allS_lt {p : Prs} {b : Bok} (he : (checkK p b).2.2 = 0) : allS b < 2048 := by
 obtain ⟨-, -, h8, -⟩ := fine_bok he
 unfold allS
 have := Nat.pow_le_pow_right (n := 2) (by decide) (show 3 + b.marks.length <= 11 by omega)
 omega
theorem Wider.best {p p' : Prs} {b b' : Bok} (h : Wider p p' b b') (he : (checkK p b).2.2 = 0) : (idxV 11 (bestW p' b').testBit).length <= (idxV 11 (bestW p b).testBit).length := by
 have ha : allS b' = allS b := by unfold allS; rw [h.marks]
 have hall := allS_lt he
 refine cnt_of_le (u := (bestW p' b').testBit) (v := (bestW p b).testBit) ?_
 obtain ⟨i1, -, -⟩ := best_inv (fun s => ((waysW p b (makesW p)).filter (agreesP p b s)) != []) (allS b) hall (allS b) (Nat.le_refl _)
 obtain ⟨-, j2, j3⟩ := best_inv (fun s => ((waysW p' b' (makesW p')).filter (agreesP p' b' s)) != []) (allS b') (by rw [ha]; exact hall) (allS b') (Nat.le_refl _)
 unfold bestW
 rcases i1 with i1 | ⟨i1, i2⟩
 · rw [i1, <- ha]
   exact j3
 · refine j2 _ (by rw [ha]; exact i1) ?_
   simp only [bne_iff_ne, ne_eq] at i2 ⊢
   obtain ⟨m, hm⟩ := List.exists_mem_of_ne_nil _ i2
   obtain ⟨h1, h2⟩ := List.mem_filter.1 hm
   obtain ⟨q, hq⟩ := way_ppr he h1
   refine List.ne_nil_of_mem (List.mem_filter.2 ⟨?_, ?_⟩ : m ∈ _)
   · rw [h.ways]; exact h1
   · rw [ha]; exact h.agrees hq h2
end
section
set_option linter.unusedSimpArgs false
set_option linter.unusedVariables false
def askB (p : Prs) (m : Mkw) (i j : Nat) : Bool := !decide (j = i) && (match (lvOf p m)[i]?, (lvOf p m)[j]? with
 | some x, some y => x.sheet == y.sheet
 | _, _ => false)
def mustL (p : Prs) (b : Bok) (i : Nat) : List Nat := (List.range b.leaves.toNat).filter fun j => (agreeL p b).all fun m => askB p m i j
def mayL (p : Prs) (b : Bok) (i : Nat) : List Nat := (List.range b.leaves.toNat).filter fun j => (agreeL p b).any fun m => askB p m i j
theorem must_len (p : Prs) (b : Bok) (i : Nat) : (mustL p b i).length <= b.leaves.toNat := by
 have := List.length_filter_le (fun j => (agreeL p b).all fun m => askB p m i j) (List.range b.leaves.toNat)
 rwa [List.length_range] at this
theorem may_len (p : Prs) (b : Bok) (i : Nat) : (mayL p b i).length <= b.leaves.toNat := by
 have := List.length_filter_le (fun j => (agreeL p b).any fun m => askB p m i j) (List.range b.leaves.toNat)
 rwa [List.length_range] at this
theorem agreeL_lenB {p : Prs} {b : Bok} (he : (checkK p b).2.2 = 0) : (agreeL p b).length <= 192 := by
 obtain ⟨hee, -, -, -⟩ := fine_bok he
 obtain ⟨-, ⟨f3, f4⟩, ⟨f5, f6⟩, -⟩ := fine_press hee
 obtain ⟨⟨f1, f2⟩, -⟩ := fine_press hee
 have h1 := mkA_len p p.fmts.length (by omega) (by omega)
 have h2 : (waysW p b (makesW p)).length <= (makesW p).length := List.length_filter_le _ _
 have h3 : (agreeL p b).length <= (waysW p b (makesW p)).length := List.length_filter_le _ _
 unfold makesW at h2 h3
 omega
end
section
set_option linter.unusedSimpArgs false
set_option linter.unusedVariables false
theorem told_agrees {p : Prs} {m : Mkw} (he : errP p = 0) (hm : mkwErr p m = 0) (hmk : m ∈ makesW p) (s v : Szs) (ch : Nat) (hv : Nat -> Nat) (hh : ∀ n, hv n <= 1) (js : List Nat) : m ∈ agreeL p (toldB p m s v ch hv 0 js) := by
 unfold agreeL waysW
 refine List.mem_filter.2 ⟨List.mem_filter.2 ⟨hmk, ?_⟩, ?_⟩
 · unfold waysP
   simp [toldB]
 · obtain ⟨h1, h2, h3, h4, h5, h6⟩ := told_sizes he hm s
   have s1 := span_in (n := v.a) (k := v.b) h1.1 h1.2
   have s2 := span_in (n := v.c) (k := v.d) h2.1 h2.2
   unfold agreesP
   simp only [Bool.and_eq_true, Bool.or_eq_true]
   refine ⟨⟨⟨Or.inr ?_, Or.inr ?_⟩, Or.inr ?_⟩, List.all_eq_true.2 fun sh _ => ?_⟩
   · unfold plainB chainB2
     dsimp only [toldB]
     by_cases hc : 0 < ch % 3
     · simp only [hc, if_true]
       cases lastF (fdsB (fldsOf p m)) <;> rfl
     · simp only [hc, if_false, if_true]
   · show meetB _ _ (loI (wideI p m s) v.a) (hiI (wideI p m s) v.b) = true
     unfold meetB
     rw [Bool.and_eq_true]
     exact ⟨decide_eq_true (Int.le_trans h3 s1.2.2.1), decide_eq_true (Int.le_trans s1.2.1 h4)⟩
   · show meetB _ _ (loI (highI p m s) v.c) (hiI (highI p m s) v.d) = true
     unfold meetB
     rw [Bool.and_eq_true]
     exact ⟨decide_eq_true (Int.le_trans h5 s2.2.2.1), decide_eq_true (Int.le_trans s2.2.1 h6)⟩
   · have key : trueFrom (lvOf p m) (colsF (fdsB (fldsOf p m))) (rowsF (fdsB (fldsOf p m))) (allS (toldB p m s v ch hv 0 js)) sh (hv sh) 0 (toldB p m s v ch hv 0 js).marks = true := (true_from _ _ _ _ _ _ _ _).2 fun j x hx _ => by
      obtain ⟨k, hk, rfl⟩ := told_mark hx
      unfold untrB tellM
      simp only [Int.toNat_natCast, Nat.zero_testBit, Bool.bne_false]
      split
      · rfl
      · rename_i l hl
        rw [hl]
        by_cases hs : l.sheet = sh
        · simp only [hs, decide_true, Bool.true_and, bne_self_eq_false]
        · simp [hs]
     unfold sheetB
     have := hh sh
     rcases (show hv sh = 0 ∨ hv sh = 1 by omega) with h0 | h0
     · rw [h0] at key; rw [key]; rfl
     · rw [h0] at key; rw [key, Bool.or_true]
theorem agree_best {p : Prs} {b : Bok} (he : (checkK p b).2.2 = 0) (h : agreeL p b ≠ []) : idxV 11 (bestW p b).testBit = [] := by
 have hall := allS_lt he
 obtain ⟨-, j2, -⟩ := best_inv (fun s => ((waysW p b (makesW p)).filter (agreesP p b s)) != []) (allS b) hall (allS b) (Nat.le_refl _)
 have h1 : 0 < allS b := by
  unfold allS
  have := Nat.pow_le_pow_right (n := 2) (by decide) (show 3 <= 3 + b.marks.length by omega)
  omega
 have h2 := j2 0 h1 (by simpa [agreeL] using h)
 have h3 : (idxV 11 (bestW p b).testBit).length <= (idxV 11 (0 : Nat).testBit).length := cnt_of_le (u := (bestW p b).testBit) (v := (0 : Nat).testBit) h2
 have h4 : (idxV 11 (0 : Nat).testBit) = [] := by decide
 rw [h4] at h3
 exact List.length_eq_zero_iff.1 (Nat.le_zero.1 h3)
theorem ask_mate {p : Prs} {m : Mkw} (he : errP p = 0) (hm : mkwErr p m = 0) {i j : Nat} (hj : j < (lvOf p m).length) : askB p m i j = true ↔ j ∈ matesF (lvOf p m) i := by
 obtain ⟨-, a2, -, -⟩ := fine_at he hm
 obtain ⟨f, hf⟩ : ∃ f, p.fmts[m.fmt.toNat]? = some f := ⟨_, List.getElem?_eq_getElem a2⟩
 have k := (fine_of he hm hf).places
 have e1 : fldsOf p m = f.folds := by unfold fldsOf; rw [hf]
 have e2 : lvOf p m = leavesW m f := by unfold lvOf; rw [e1]
 rw [e2] at hj ⊢
 unfold askB
 rw [mates_same k, e2]
 unfold matesR
 rw [List.mem_filter, List.mem_range]
 cases hx : (leavesW m f)[i]? <;> cases hy : (leavesW m f)[j]?
 · simp
 · simp
 · simp
 · rename_i a b
   simp only [hj, true_and, Bool.and_eq_true, Bool.not_eq_true', decide_eq_false_iff_not, beq_iff_eq, bne_iff_ne, ne_eq]
   exact ⟨fun ⟨h1, h2⟩ => ⟨h1, h2.symm⟩, fun ⟨h1, h2⟩ => ⟨h1, h2.symm⟩⟩
theorem must_mates {p : Prs} {b : Bok} {m : Mkw} (he : errP p = 0) (hm : mkwErr p m = 0) (hb : b.leaves = ((lvOf p m).length : Nat)) (h : m ∈ agreeL p b) {i j : Nat} (hj : j ∈ mustL p b i) : j ∈ matesF (lvOf p m) i := by
 unfold mustL at hj
 obtain ⟨h1, h2⟩ := List.mem_filter.1 hj
 rw [List.mem_range, hb, Int.toNat_natCast] at h1
 exact (ask_mate he hm h1).1 (List.all_eq_true.1 h2 m h)
theorem mates_may {p : Prs} {b : Bok} {m : Mkw} (he : errP p = 0) (hm : mkwErr p m = 0) (hb : b.leaves = ((lvOf p m).length : Nat)) (h : m ∈ agreeL p b) {i j : Nat} (hj : j ∈ matesF (lvOf p m) i) : j ∈ mayL p b i := by
 have h1 : j < (lvOf p m).length := by
  unfold matesF at hj
  exact List.mem_range.1 (List.mem_filter.1 hj).1
 unfold mayL
 refine List.mem_filter.2 ⟨by rw [List.mem_range, hb, Int.toNat_natCast]; exact h1, List.any_eq_true.2 ⟨m, h, (ask_mate he hm h1).2 hj⟩⟩
end
section
set_option linter.unusedSimpArgs false
set_option linter.unusedVariables false
open Go Go.RowKit Go.Sort Go.BigFrame
theorem where1_any (many : Nat) (A : Nat -> Bool) (g ab : Nat) (w : World) (hm : many <= 64)
  (hc : ∀ (n : Nat) (W : World), n < many -> Below w.heap.size w W -> Calls Tryz.prog 100 #[.int .i64 n, .pointer (some ⟨g, 0, none⟩), .pointer (some ⟨ab, 0, none⟩)] W fun e W' => e = .returned (.bool (A n)) /\ Below W.heap.size W W') :
  Calls Tryz.prog 99 #[.int .i64 many, .func (.func 100) #[] #[.pointer (some ⟨g, 0, none⟩), .pointer (some ⟨ab, 0, none⟩)]] w fun e w' => (∃ v, e = .returned v /\ w'.ownsRow w.heap.size 3 1 v ((List.range many).filter A).length (intVs ((List.range many).filter A))) /\ Below w.heap.size w w' := by
 have HC := Lib.hid hc
 obtain ⟨ei, hi1, hi2, hi3, hi4⟩ := elemInt
 have HI := Lib.hid (And.intro hi1 (And.intro hi2 (And.intro hi3 hi4)))
 clear hi1 hi2 hi3 hi4 hc
 go_enter Tryz.func99, Tryz.ntmps99
 go_wp2_with fail
 go_loopw [5, 8] (fun v j wr => ∃ (k : Nat), k <= many /\ j = .int .i64 k /\ Hid (wr.ownsRow w.heap.size 3 1 v ((List.range k).filter A).length (intVs ((List.range k).filter A))) /\ Hid (Below w.heap.size w wr)) (fun _ j _ => many - (intOf j).toNat)
 case atStart => exact ⟨0, by omega, rfl, World.ownsRow_nil _ _ _ _, Below.refl _ _⟩
 case round =>
  obtain ⟨k, hk, rfl, HR, HB⟩ := hrel
  have hz := HB.out.size
  by_cases hlt : k < many
  · go_wp2_with fail
    refine (HC.out k _ hlt HB.out).mono ?_
    rintro e w4 ⟨rfl, hb4⟩
    have HB4 := Lib.hid (HB.out.trans (hb4.mono hz))
    have HR4 := Lib.hid (row_later HR.out hb4)
    have hz4 := HB4.out.size
    obtain ⟨z, hzk⟩ : ∃ z, z = A k := ⟨_, rfl⟩
    rw [<- hzk]
    have HF := Lib.hid hzk
    clear hzk hb4 HB HR hz
    cases z with
    | false =>
      go_wp2_with fail
      go_roundw
      case rel => exact ⟨k + 1, by omega, by go_num, (by show World.ownsRow _ _ _ _ _ _ _; rw [range_filter_no HF.out.symm]; exact HR4.out), HB4⟩
      case measure => simp [intOf]; omega
    | true =>
      have hrl := range_filter_len A k
      obtain ⟨hi1, hi2, hi3, hi4⟩ := HI.out
      go_wp2_with (at_builtin; (refine wpList_append_own _ rfl _ _ 36 rfl w.heap.size 3 ei _ 1 8 undInts hi1 hi2 hi3 hi4 rfl (by decide) u5 ((List.range k).filter A).length (intVs ((List.range k).filter A)) rfl (HR4.out.alloc _) ⟨w4.heap.size, 0, none⟩ 1 1 [.int .i64 k] rfl rfl ?a1 ?b1 ?c1 ?d1 ?e1 ?f1))
      case a1 =>
       intro j u hju
       rw [add_offi]
       unfold World.cell?
       rw [World.alloc_heap_new]
       simpa using hju
      case b1 => simp [Value.oneCell']
      case c1 => simp only [maxLen]; omega
      case d1 => omega
      case e1 => (first | omega | (simp; omega))
      case f1 =>
       rintro v' w7 hown hgrow -
       have HB7 := Lib.hid (HB4.out.trans ((((Below.refl _ w4).alloc (Nat.le_refl _) (.cells #[.int .i64 k] 3)).mono hz4).trans (below_row (HR4.out.alloc _) (by simp; omega) hgrow)))
       have HO := Lib.hid hown
       clear hgrow hown hi1 hi2 hi3 hi4
       go_wp2_with fail
       go_roundw
       case rel => exact ⟨k + 1, by omega, by go_num, (by
        show World.ownsRow _ _ _ _ _ _ _
        rw [range_filter_yes HF.out.symm]
        have h := HO.out
        simpa [intVs] using h), HB7.out⟩
       case measure => simp [intOf]; omega
  · obtain rfl : k = many := by omega
    go_wp2_with fail
    go_ret
    exact ⟨⟨_, rfl, HR.out⟩, HB.out⟩
theorem where2_any (many : Nat) (A : Nat -> Bool) (g ab : Nat) (w : World) (hm : many <= 64)
  (hc : ∀ (n : Nat) (W : World), n < many -> Below w.heap.size w W -> Calls Tryz.prog 101 #[.int .i64 n, .pointer (some ⟨g, 0, none⟩)] W fun e W' => e = .returned (.bool (A n)) /\ Below W.heap.size W W') :
  Calls Tryz.prog 99 #[.int .i64 many, .func (.func 101) #[] #[.pointer (some ⟨g, 0, none⟩)]] w fun e w' => (∃ v, e = .returned v /\ w'.ownsRow w.heap.size 3 1 v ((List.range many).filter A).length (intVs ((List.range many).filter A))) /\ Below w.heap.size w w' := by
 have HC := Lib.hid hc
 obtain ⟨ei, hi1, hi2, hi3, hi4⟩ := elemInt
 have HI := Lib.hid (And.intro hi1 (And.intro hi2 (And.intro hi3 hi4)))
 clear hi1 hi2 hi3 hi4 hc
 go_enter Tryz.func99, Tryz.ntmps99
 go_wp2_with fail
 go_loopw [5, 8] (fun v j wr => ∃ (k : Nat), k <= many /\ j = .int .i64 k /\ Hid (wr.ownsRow w.heap.size 3 1 v ((List.range k).filter A).length (intVs ((List.range k).filter A))) /\ Hid (Below w.heap.size w wr)) (fun _ j _ => many - (intOf j).toNat)
 case atStart => exact ⟨0, by omega, rfl, World.ownsRow_nil _ _ _ _, Below.refl _ _⟩
 case round =>
  obtain ⟨k, hk, rfl, HR, HB⟩ := hrel
  have hz := HB.out.size
  by_cases hlt : k < many
  · go_wp2_with fail
    refine (HC.out k _ hlt HB.out).mono ?_
    rintro e w4 ⟨rfl, hb4⟩
    have HB4 := Lib.hid (HB.out.trans (hb4.mono hz))
    have HR4 := Lib.hid (row_later HR.out hb4)
    have hz4 := HB4.out.size
    obtain ⟨z, hzk⟩ : ∃ z, z = A k := ⟨_, rfl⟩
    rw [<- hzk]
    have HF := Lib.hid hzk
    clear hzk hb4 HB HR hz
    cases z with
    | false =>
      go_wp2_with fail
      go_roundw
      case rel => exact ⟨k + 1, by omega, by go_num, (by show World.ownsRow _ _ _ _ _ _ _; rw [range_filter_no HF.out.symm]; exact HR4.out), HB4⟩
      case measure => simp [intOf]; omega
    | true =>
      have hrl := range_filter_len A k
      obtain ⟨hi1, hi2, hi3, hi4⟩ := HI.out
      go_wp2_with (at_builtin; (refine wpList_append_own _ rfl _ _ 36 rfl w.heap.size 3 ei _ 1 8 undInts hi1 hi2 hi3 hi4 rfl (by decide) u5 ((List.range k).filter A).length (intVs ((List.range k).filter A)) rfl (HR4.out.alloc _) ⟨w4.heap.size, 0, none⟩ 1 1 [.int .i64 k] rfl rfl ?a1 ?b1 ?c1 ?d1 ?e1 ?f1))
      case a1 =>
       intro j u hju
       rw [add_offi]
       unfold World.cell?
       rw [World.alloc_heap_new]
       simpa using hju
      case b1 => simp [Value.oneCell']
      case c1 => simp only [maxLen]; omega
      case d1 => omega
      case e1 => (first | omega | (simp; omega))
      case f1 =>
       rintro v' w7 hown hgrow -
       have HB7 := Lib.hid (HB4.out.trans ((((Below.refl _ w4).alloc (Nat.le_refl _) (.cells #[.int .i64 k] 3)).mono hz4).trans (below_row (HR4.out.alloc _) (by simp; omega) hgrow)))
       have HO := Lib.hid hown
       clear hgrow hown hi1 hi2 hi3 hi4
       go_wp2_with fail
       go_roundw
       case rel => exact ⟨k + 1, by omega, by go_num, (by
        show World.ownsRow _ _ _ _ _ _ _
        rw [range_filter_yes HF.out.symm]
        have h := HO.out
        simpa [intVs] using h), HB7.out⟩
       case measure => simp [intOf]; omega
  · obtain rfl : k = many := by omega
    go_wp2_with fail
    go_ret
    exact ⟨⟨_, rfl, HR.out⟩, HB.out⟩
end
section
set_option linter.unusedSimpArgs false
set_option linter.unusedVariables false
open Go Go.RowKit
theorem rf_state {P : Program} {n : Nat} {α : Type} {g : Operand} {ps : Array Tmp} {assign body : Code} {Q : Exit -> Act -> World -> Prop} {a : Act} {w : World}
  {gf : Nat} {lb : Array Value} (hg : a.eval g = .func (.func gf) #[] lb) (eg : ∀ args w, (callFunc gf args).run P w = .ok (.enter gf args) w)
  {encs : α -> Array Value} {xs : List α} {Pr : Nat -> Prop} (hit : ItC P gf lb encs xs Pr w) (hps : ∀ x, (encs x).size = ps.size) (hPr : ∀ k, Pr k -> k < w.heap.size)
  (I : List α -> World -> Prop) (Xr : Nat -> Prop) (upd : α -> List (Nat × Value))
  (hXr : ∀ k, Xr k -> k < w.heap.size /\ ¬ Pr k)
  (hI : ∀ pre (X : Nat -> Prop) W W', I pre W -> OnlyIn X W W' -> (∀ k, X k -> w.heap.size <= k) -> I pre W') (hIs : ∀ pre W, I pre W -> w.heap.size <= W.heap.size)
  (h0 : I [] w)
  (hassign : ∀ (l : Nat) (x : α) (W : World) (K : Act -> World -> Prop), K { tmps := putAll a.tmps (upd x), defers := [] } W ->
   assign.wpIn (Fence.wide.inRound l) 9 P (Exit.then K (fun _ _ _ => False)) { tmps := (ps.zip (encs x)).foldl (fun t (p, v) => t.setIfInBounds p v) a.tmps, defers := [] } W)
  (hbody : ∀ (l : Nat) (pre : List α) (x : α) (rest : List α) (W : World), xs = pre ++ x :: rest -> I pre W ->
   body.wpIn (Fence.wide.inRound l) 9 P (fun e _ W' => e = .normal /\ OnlyIn Xr W W' /\ I (pre ++ [x]) W') { tmps := putAll a.tmps (upd x), defers := [] } W)
  (hdone : ∀ (D : Nat) (W : World), w.heap.size <= D -> I xs W -> W.heap[D]? = some (.deferred (some [])) -> Q .normal { a with defers := { target := .collected D, args := #[] } :: a.defers } W) :
  (Code.rangeFunc g ps assign body).wpIn Fence.wide n P Q a w := by
 refine rf_law0 hg eg hit hps hPr I (fun _ _ _ => False) (fun _ _ => False) (fun x => { tmps := putAll a.tmps (upd x), defers := [] }) (fun _ _ _ _ h => h.elim) ?_ ?_ h0 hassign ?_ hdone ?_
 · intro pre X W W' h1 ho hX
   exact ⟨hI pre X W W' h1 ho (fun k hk => (hX k hk).1), fun _ h => h.elim⟩
 · intro c pre X W W' h1
   exact h1.elim
 · intro l pre x rest W hsp h1
   refine wpIn_mono (hbody l pre x rest W hsp h1) ?_
   rintro e a' W' ⟨rfl, ho, hh⟩
   exact ⟨Turn.of ho hXr (fun k hk => Nat.lt_of_lt_of_le (hPr k hk) (hIs pre W h1)), hh⟩
 · intro D c pre W _ h1
   exact h1.elim
theorem drop_at7 {α : Type} {xs : List α} {k : Nat} {x : α} (hk : xs[k]? = some x) : xs.drop k = x :: xs.drop (k + 1) := by
 have hl := (List.getElem?_eq_some_iff.1 hk).1
 rw [List.drop_eq_getElem_cons hl]; congr 1; exact Option.some.inj ((List.getElem?_eq_getElem hl).symm.trans hk)
theorem itc_map {α β : Type} {P : Program} {gf : Nat} {lb : Array Value} {encs : α -> Array Value} {f : β -> α} {ys : List β} {Pr : Nat -> Prop} {w₀ : World} (h : ItC P gf lb encs (ys.map f) Pr w₀) : ItC P gf lb (fun y => encs (f y)) ys Pr w₀ := by
 intro l J Jx W hsz hpr hJ hJx hY h0
 have key := h l (fun pre X W => J (ys.take pre.length) X W) (fun pre X W => Jx (ys.take pre.length) X W) W hsz hpr (fun pre X X' W W' a b c => hJ _ _ _ _ _ a b c) (fun pre X X' W W' a b c => hJx _ _ _ _ _ a b c) ?_ (by simpa using h0)
 · refine key.mono ?_
   rintro e w' ⟨hv, h⟩
   refine ⟨hv, h.imp (fun ⟨X, k⟩ => ⟨X, ?_⟩) (fun ⟨pre, X, k⟩ => ⟨_, X, k⟩)⟩
   simpa using k
 · intro pre x rest X W1 hsp hj
   have hl : pre.length < ys.length := by
    have := congrArg List.length hsp
    simp only [List.length_map, List.length_append, List.length_cons] at this
    omega
   obtain ⟨y, hy⟩ : ∃ y, ys[pre.length]? = some y := ⟨_, List.getElem?_eq_getElem hl⟩
   have hfx : f y = x := by
    have h1 : (ys.map f)[pre.length]? = (pre ++ x :: rest)[pre.length]? := by rw [hsp]
    rw [List.getElem?_map, hy] at h1
    simpa using h1
   have h2 := hY (ys.take pre.length) y (ys.drop (pre.length + 1)) X W1 (by rw [<- drop_at7 hy, List.take_append_drop]) hj
   have e : ys.take (pre ++ [x]).length = ys.take pre.length ++ [y] := by
    rw [List.length_append, List.length_singleton, List.take_add_one, hy]; rfl
   rw [e, <- hfx]
   exact h2
end
section
set_option linter.unusedSimpArgs false
set_option linter.unusedVariables false
open Go Go.RowKit Go.Sort Go.BigFrame
attribute [local go_sem] Oper.semAt_some putAll
def cntN {α : Type} (H : α -> Nat -> Bool) (pre : List α) (n : Nat) : Nat := (pre.filter fun v => H v n).length
def cntL {α : Type} (H : α -> Nat -> Bool) (pre : List α) (x : α) (many k : Nat) : List Value := (List.range many).map fun n => Value.int .i64 ((if n < k then cntN H (pre ++ [x]) n else cntN H pre n : Nat) : Int)
def cntB {α : Type} (H : α -> Nat -> Bool) (pre : List α) (many : Nat) : List Value := (List.range many).map fun n => Value.int .i64 ((cntN H pre n : Nat) : Int)
theorem cnt_le {α : Type} (H : α -> Nat -> Bool) (pre : List α) (n : Nat) : cntN H pre n <= pre.length := List.length_filter_le _ _
theorem cntL_zero {α : Type} (H : α -> Nat -> Bool) (pre : List α) (x : α) (many : Nat) : cntL H pre x many 0 = cntB H pre many := by unfold cntL cntB; simp
theorem cntL_all {α : Type} (H : α -> Nat -> Bool) (pre : List α) (x : α) (many : Nat) : cntL H pre x many many = cntB H (pre ++ [x]) many := by
 unfold cntL cntB
 refine List.map_congr_left fun n hn => ?_
 rw [if_pos (List.mem_range.1 hn)]
theorem cntL_at {α : Type} {H : α -> Nat -> Bool} {pre : List α} {x : α} {many k : Nat} (h : k < many) : (cntL H pre x many k)[k]? = some (.int .i64 (cntN H pre k : Nat)) := by
 unfold cntL
 rw [List.getElem?_map, List.getElem?_range h]
 simp
theorem cntB_at {α : Type} {H : α -> Nat -> Bool} {pre : List α} {many k : Nat} (h : k < many) : (cntB H pre many)[k]? = some (.int .i64 (cntN H pre k : Nat)) := by
 unfold cntB
 rw [List.getElem?_map, List.getElem?_range h]
 rfl
theorem cnt_next {α : Type} {H : α -> Nat -> Bool} {pre : List α} {x : α} {k : Nat} : cntN H (pre ++ [x]) k = cntN H pre k + (if H x k then 1 else 0) := by
 unfold cntN
 rw [List.filter_append, List.length_append]
 cases h : H x k <;> simp [h]
theorem cntL_no {α : Type} {H : α -> Nat -> Bool} {pre : List α} {x : α} {many k : Nat} (h : H x k = false) : cntL H pre x many (k + 1) = cntL H pre x many k := by
 unfold cntL
 refine List.map_congr_left fun n hn => ?_
 by_cases e : n = k
 · subst e
   rw [if_pos (by omega), if_neg (by omega), cnt_next, h]
   rfl
 · by_cases e2 : n < k
   · rw [if_pos (by omega), if_pos e2]
   · rw [if_neg (by omega), if_neg e2]
theorem cntL_yes {α : Type} {H : α -> Nat -> Bool} {pre : List α} {x : α} {many k : Nat} (hk : k < many) (h : H x k = true) : (cntL H pre x many k).set k (.int .i64 ((cntN H pre k : Nat) + 1)) = cntL H pre x many (k + 1) := by
 refine List.ext_getElem? fun n => ?_
 unfold cntL
 rw [List.getElem?_set]
 by_cases e : k = n
 · subst e
   simp only [List.length_map, List.length_range, hk, if_true, List.getElem?_map, List.getElem?_range hk, Option.map_some]
   rw [if_pos (by omega), cnt_next, h]
   rfl
 · rw [if_neg e, List.getElem?_map, List.getElem?_map]
   by_cases hn : n < many
   · rw [List.getElem?_range hn, Option.map_some, Option.map_some]
     by_cases e2 : n < k
     · rw [if_pos e2, if_pos (by omega)]
     · rw [if_neg e2, if_neg (by omega)]
   · rw [List.getElem?_eq_none (by simp; omega), Option.map_none, Option.map_none]
theorem cnt_all {α : Type} (H : α -> Nat -> Bool) (vs : List α) (n : Nat) : decide (cntN H vs n = vs.length) = vs.all fun v => H v n := by
 unfold cntN
 rw [Bool.eq_iff_iff, decide_eq_true_iff, List.length_filter_eq_length_iff, List.all_eq_true]
theorem cnt_any {α : Type} (H : α -> Nat -> Bool) (vs : List α) (n : Nat) : decide (0 < cntN H vs n) = vs.any fun v => H v n := by
 unfold cntN
 rw [Bool.eq_iff_iff, decide_eq_true_iff, List.length_pos_iff, List.any_eq_true]
 constructor
 · intro h
   obtain ⟨x, hx⟩ := List.exists_mem_of_ne_nil _ h
   exact ⟨x, (List.mem_filter.1 hx).1, (List.mem_filter.1 hx).2⟩
 · rintro ⟨x, h1, h2⟩
   exact List.ne_nil_of_mem (List.mem_filter.2 ⟨h1, h2⟩)
theorem elemFn : ∃ i z, Tryz.prog.info? 135 = some i /\ i.zero = some z /\ i.size = 1 /\ i.bytes = 8 /\ z.cells.size = 1 := by
 have h : (Tryz.prog.info? 135).map (fun i => (i.zero.map (fun z => z.cells.size), i.size, i.bytes)) = some (some 1, 1, 8) := by kernel_rfl
 cases hi : Tryz.prog.info? 135 with
 | none => rw [hi] at h; cases h
 | some i =>
   rw [hi] at h
   simp only [Option.map_some, Option.some.injEq, Prod.mk.injEq] at h
   obtain ⟨h1, h2, h3⟩ := h
   cases hz : i.zero with
   | none => rw [hz] at h1; cases h1
   | some z =>
     rw [hz] at h1
     simp only [Option.map_some, Option.some.injEq] at h1
     exact ⟨i, z, rfl, hz, h2, h3, h1⟩
theorem sureAll_any (g ab gc many z n : Nat) (c : Int) (xs : List Value) (t : TypeId) (w : World) (h1 : w.heap[g]? = some (.cells #[.slice (some ⟨gc, 0, none⟩) many many] 36 (0, 0))) (h2 : w.heap[gc]? = some (.cells xs.toArray t (0, 0))) (hn : n < many)
  (hx : xs[n]? = some (.int .i64 z)) (h3 : w.heap[ab]? = some (.cells #[.int .i64 c] 3 (0, 0))) (A : Bool) (hA : ((z : Int) == c) = A) :
  Calls Tryz.prog 100 #[.int .i64 n, .pointer (some ⟨g, 0, none⟩), .pointer (some ⟨ab, 0, none⟩)] w fun e w' => e = .returned (.bool A) /\ Below w.heap.size w w' := by
 have c0 := blk_cell h1 0
 have c1 : w.cell? ⟨gc, n, none⟩ = some (.int .i64 z) := (blk_cell h2 n).trans (by simpa using hx)
 have c2 := blk_cell h3 0
 clear h1 h2 h3 hx
 go_enter Tryz.func100, Tryz.ntmps100
 go_wp2_with fail
 cases A with
 | true =>
   go_quiet (fail)
   go_wp2_with fail
   go_ret
   exact ⟨rfl, bdrewN (Below.refl _ _) _⟩
 | false =>
   go_quiet (fail)
   go_wp2_with fail
   go_ret
   exact ⟨rfl, bdrewN (Below.refl _ _) _⟩
theorem sureSome_any (g gc many z n : Nat) (xs : List Value) (t : TypeId) (w : World) (h1 : w.heap[g]? = some (.cells #[.slice (some ⟨gc, 0, none⟩) many many] 36 (0, 0))) (h2 : w.heap[gc]? = some (.cells xs.toArray t (0, 0))) (hn : n < many)
  (hx : xs[n]? = some (.int .i64 z)) :
  Calls Tryz.prog 101 #[.int .i64 n, .pointer (some ⟨g, 0, none⟩)] w fun e w' => e = .returned (.bool (decide (0 < z))) /\ Below w.heap.size w w' := by
 have c0 := blk_cell h1 0
 have c1 : w.cell? ⟨gc, n, none⟩ = some (.int .i64 z) := (blk_cell h2 n).trans (by simpa using hx)
 clear h1 h2 hx
 go_enter Tryz.func101, Tryz.ntmps101
 go_wp2_with fail
 go_ret
 exact ⟨by simp, Below.refl _ _⟩
end
section
set_option linter.unusedSimpArgs false
set_option linter.unusedVariables false
open Go Go.RowKit Go.Sort Go.BigFrame
structure VlS (w₀ W : World) (vb B : Nat) : Prop where
 pr : ∀ j, (j = vb ∨ j < B) -> W.heap[j]? = w₀.heap[j]?
 sz : w₀.heap.size <= W.heap.size
theorem values_it (vs : List Value) (a : Option Addr) (cap : Nat) (w₀ : World) (vb B : Nat) (hB : B <= w₀.heap.size) (hl : vs.length <= 1000) (hc : ∀ (i : Nat) v, vs[i]? = some v -> ∃ g, a = some ⟨g, 0, none⟩ /\ g < B /\ w₀.cell? ⟨g, i, none⟩ = some v)
  (hv : w₀.heap[vb]? = some (.cells #[.slice a vs.length cap] 134)) :
  ItC Tryz.prog 102 #[.pointer (some ⟨vb, 0, none⟩)] (fun v => #[v]) vs (fun k => k = vb ∨ k < B) w₀ := by
 intro l J Jx W hsz hpr hJ hJx hY h0
 obtain ⟨N, hN⟩ : ∃ N, N = vs.length := ⟨_, rfl⟩
 rw [<- hN] at hv hl
 have hpw : ∀ j, (j = vb ∨ j < B) -> j < w₀.heap.size := fun j hj => by
  rcases hj with rfl | h
  · exact blk_lt hv
  · omega
 have HN := Lib.hid hN
 have HY := Lib.hid hY
 have HPW := Lib.hid hpw
 have HC := Lib.hid hc
 have HA0 : Hid (VlS w₀ W vb B) := Lib.hid ⟨hpr, hsz⟩
 have H0 : Hid (J (vs.take 0) (fun _ => False) W) := Lib.hid h0
 have q0 := blk_cell ((hpr vb (Or.inl rfl)).trans hv) 0
 refine (callsIn_wide (n := 10)).1 ?_
 refine callsIn_of_wp Tryz.func102 rfl trivial ?_ rfl
 simp only [Tryz.ntmps102, List.size_toArray, List.length_cons, List.length_nil, Nat.reduceAdd, Nat.reduceSub, Array.replicate_succ, Array.replicate_zero, List.push_toArray, List.append_toArray, List.nil_append, List.cons_append]
 clear hY hJ hJx hpr hv hpw h0 hc hN
 gi_wp2_with fail
 clear q0
 gi_loopw [7] (fun v wr => ∃ (k : Nat) (X : Nat -> Prop), k <= N /\ v = .int .i64 k /\ Hid (J (vs.take k) X wr) /\ Hid (VlS w₀ wr vb B)) (fun v _ => N - (intOf v).toNat)
 case atStart => exact ⟨0, _, by omega, rfl, H0, HA0⟩
 case round =>
  clear H0 HA0
  obtain ⟨k, X, hk, rfl, hJk, hA⟩ := hrel
  by_cases hlt : k < N
  · obtain ⟨x, hx⟩ : ∃ x, vs[k]? = some x := ⟨_, List.getElem?_eq_getElem (by have := HN.out; omega)⟩
    obtain ⟨g, rfl, hgB, hgc⟩ := HC.out k x hx
    have c0 : wr.cell? ⟨g, k, none⟩ = some x := by rw [<- hgc]; exact World.cell?_of_block (hA.out.pr g (Or.inr hgB))
    have e1 : vs.take (k + 1) = vs.take k ++ [x] := by rw [List.take_add_one, hx]; rfl
    have e2 : vs = vs.take k ++ x :: vs.drop (k + 1) := by rw [<- drop_at hx, List.take_append_drop]
    obtain ⟨fn, tmps, assign, body, hy, hR⟩ := HY.out (vs.take k) x (vs.drop (k + 1)) X wr e2 hJk.out
    have HR := Lib.hid hR
    have HE := Lib.hid e1
    clear hR e1 e2 hgc hgB hx
    gi_wp2_with fail
    refine HR.out.mono ?_
    rintro e W' (⟨rfl, hJ', hk'⟩ | ⟨rfl, hJx', -⟩)
    · have J5 : Hid (J (vs.take (k + 1)) X W') := Lib.hid (by rw [HE.out]; exact hJ')
      have A5 : Hid (VlS w₀ W' vb B) := Lib.hid ⟨fun j hj => (hk'.2 j (by have := HPW.out j hj; have := hA.out.sz; omega) (Or.inl hj)).trans (hA.out.pr j hj), Nat.le_trans hA.out.sz hk'.1⟩
      clear hJ' hk' hy HR c0 hA hJk
      gi_wp2_with fail
      go_roundw
      case rel => exact ⟨k + 1, X, by omega, by go_num, J5, A5⟩
      case measure => simp [intOf]; omega
    · have Jx6 := Lib.hid hJx'
      clear hJx' hy HR c0 hA hJk
      gi_wp2_with fail
      refine bodyPost_ret (results_none rfl _ _ _) rfl ?_
      exact ⟨⟨_, rfl⟩, .inr ⟨_, _, Jx6.out⟩⟩
  · obtain rfl : k = N := by omega
    have HU : Hid (vs.take k = vs) := Lib.hid (by rw [HN.out, List.take_length])
    gi_wp2_with fail
    go_end0
    exact ⟨⟨_, rfl⟩, .inl ⟨X, HU.out ▸ hJk.out⟩⟩
end
section
set_option linter.unusedSimpArgs false
set_option linter.unusedVariables false
open Go Go.RowKit Go.Sort Go.BigFrame
attribute [local go_sem] Oper.semAt_some putAll
structure SuSt {α : Type} (w : World) (V many lb : Nat) (H : α -> Nat -> Bool) (pre : List α) (W : World) : Prop where
 num : W.heap[V]? = some (.cells #[.int .i64 many] 3 (0, 0))
 has : W.heap[V + 1]? = some (.cells #[.func (.func 69) #[] #[.pointer (some ⟨lb, 0, none⟩)]] 141 (0, 0))
 ask : W.heap[V + 2]? = some (.cells #[.int .i64 pre.length] 3 (0, 0))
 row : W.heap[V + 3]? = some (.cells (cntB H pre many).toArray 3 (0, 0))
 hav : W.heap[V + 4]? = some (.cells #[.slice (some ⟨V + 3, 0, none⟩) many many] 36 (0, 0))
 sz : V + 5 <= W.heap.size
 bel : Below V w W
theorem made_is {α : Type} (H : α -> Nat -> Bool) (many : Nat) : madeCells #[.int .i64 0] many = (cntB H [] many).toArray := by
 unfold madeCells cntB
 apply Array.ext
 · simp
 · intro i h1 h2
   simp [cntN, Nat.mod_one]
theorem SuSt.only {α : Type} {w : World} {V many lb : Nat} {H : α -> Nat -> Bool} {pre : List α} {W W' : World} {X : Nat -> Prop} (h : SuSt w V many lb H pre W) (ho : OnlyIn X W W') (hX : ∀ k, X k -> V + 5 <= k) : SuSt w V many lb H pre W' := by
 have hs := h.sz
 have key : ∀ k, V <= k -> k < V + 5 -> W'.heap[k]? = W.heap[k]? := fun k _ hk => ho.block k (by omega) (fun hx => by have := hX k hx; omega)
 exact ⟨(key _ (by omega) (by omega)).trans h.num, (key _ (by omega) (by omega)).trans h.has, (key _ (by omega) (by omega)).trans h.ask, (key _ (by omega) (by omega)).trans h.row, (key _ (by omega) (by omega)).trans h.hav, Nat.le_trans hs ho.size, ho.below h.bel (by omega) (fun k hk => by have := hX k hk; omega)⟩
theorem IntsAt.put {W : World} {v : Value} {xs : List Int} (h : IntsAt W v xs) {D : Nat} (hd : W.heap[D]? = some (.deferred (some []))) (o : Obj) : IntsAt (W.putObj D o) v xs := by
 obtain ⟨a, cap, e, hc⟩ := h
 refine ⟨a, cap, e, fun hne => ?_⟩
 obtain ⟨g, h1, h2, h3⟩ := hc hne
 have hg : g ≠ D := fun e => by
  obtain ⟨x, hx⟩ : ∃ x, xs[0]? = some x := ⟨_, List.getElem?_eq_getElem (by have := List.length_pos_iff.2 hne; omega)⟩
  have := h3 0 x hx
  subst e
  simp [World.cell?, hd] at this
 refine ⟨g, h1, by simpa using h2, fun i x hx => ?_⟩
 rw [<- h3 i x hx]
 exact World.cell?_of_block (World.putObj_heap_other hg)
theorem Sure_any {α : Type} (us : List α) (fv : α -> Value) (H : α -> Nat -> Bool) (many lb vb B : Nat) (a : Option Addr) (cap : Nat) (w : World) (hm : many <= 64) (hl : us.length <= 200) (hB : B <= w.heap.size)
  (hc : ∀ (i : Nat) v, (us.map fv)[i]? = some v -> ∃ g, a = some ⟨g, 0, none⟩ /\ g < B /\ w.cell? ⟨g, i, none⟩ = some v)
  (hv : w.heap[vb]? = some (.cells #[.slice a us.length cap] 134))
  (hh : ∀ u ∈ us, ∀ (n : Nat), n < many -> ∀ W, Below w.heap.size w W -> Calls Tryz.prog 69 #[fv u, .int .i64 n, .pointer (some ⟨lb, 0, none⟩)] W fun e W' => e = .returned (.bool (H u n)) /\ Below W.heap.size W W') :
  Calls Tryz.prog 67 #[.func (.func 102) #[] #[.pointer (some ⟨vb, 0, none⟩)], .int .i64 many, .func (.func 69) #[] #[.pointer (some ⟨lb, 0, none⟩)]] w fun e w' =>
   (∃ va vm, e = .returned (.tuple #[va, vm]) /\ IntsAt w' va (((List.range many).filter fun n => us.all fun u => H u n).map fun (n : Nat) => (n : Int)) /\ IntsAt w' vm (((List.range many).filter fun n => us.any fun u => H u n).map fun (n : Nat) => (n : Int))) /\ Below w.heap.size w w' := by
 obtain ⟨V, hV⟩ : ∃ V, V = w.heap.size := ⟨_, rfl⟩
 have hvb : vb < w.heap.size := blk_lt hv
 have HC := Lib.hid hc
 have HVB := Lib.hid hv
 have HH := Lib.hid hh
 have hmk := run_make_row' (P := Tryz.prog) 36 3 (.int .i64 0) 8 (by kernel_rfl) (by kernel_rfl) rfl .i64 .i64 many (by omega) (by omega)
 clear hc hv hh
 refine (callsIn_wide (n := 10)).1 ?_
 refine callsIn_of_wp_marks Tryz.func67 rfl trivial ?_ rfl
 simp only [Tryz.ntmps67, List.size_toArray, List.length_cons, List.length_nil, Nat.reduceAdd, Nat.reduceSub, Array.replicate_succ, Array.replicate_zero, List.push_toArray, List.append_toArray, List.nil_append, List.cons_append]
 gi_wp2_with fail
 obtain ⟨w5, hw5⟩ : ∃ w5, w5 = (((((w.alloc (.cells #[.int .i64 many] 3)).alloc (.cells #[.func (.func 69) #[] #[.pointer (some ⟨lb, 0, none⟩)]] 141)).alloc (.cells #[.int .i64 0] 3)).alloc (.cells (madeCells #[.int .i64 0] many) 3)).alloc (.cells #[.slice (some ⟨w.heap.size + 1 + 1 + 1, 0, none⟩) many many] 36)) := ⟨_, rfl⟩
 rw [<- hw5]
 have hb5 : Below w.heap.size w w5 := by rw [hw5]; exact (by repeat (first | exact Below.refl _ _ | assumption | (refine Below.alloc ?_ ?_ _; rotate_left; · (first | omega | (simp; done) | (simp; omega) | fail)) | (refine Below.setCell ?_ ?_ _; rotate_left; · (first | omega | (simp; done) | (simp; omega) | fail)) | refine Below.drew ?_ | fail))
 have hz5 : w5.heap.size = V + 5 := by rw [hw5, hV]; simp
 have h0 : SuSt w V many lb H [] w5 := by
  rw [made_is H many] at hw5
  rw [hw5, hV]
  refine ⟨(by repeat (first | exact heap_alloc_at _ _ _ (by (first | omega | (simp; done) | (simp; omega) | (simp at *; omega) | fail)) | assumption | rw [heap_alloc_past _ _ _ (by (first | omega | (simp; done) | (simp; omega) | (simp at *; omega) | fail))] | rw [heap_setCell_past _ _ _ _ (by (first | omega | (simp; done) | (simp; omega) | (simp at *; omega) | fail))] | fail)), (by repeat (first | exact heap_alloc_at _ _ _ (by (first | omega | (simp; done) | (simp; omega) | (simp at *; omega) | fail)) | assumption | rw [heap_alloc_past _ _ _ (by (first | omega | (simp; done) | (simp; omega) | (simp at *; omega) | fail))] | rw [heap_setCell_past _ _ _ _ (by (first | omega | (simp; done) | (simp; omega) | (simp at *; omega) | fail))] | fail)), (by repeat (first | exact heap_alloc_at _ _ _ (by (first | omega | (simp; done) | (simp; omega) | (simp at *; omega) | fail)) | assumption | rw [heap_alloc_past _ _ _ (by (first | omega | (simp; done) | (simp; omega) | (simp at *; omega) | fail))] | rw [heap_setCell_past _ _ _ _ (by (first | omega | (simp; done) | (simp; omega) | (simp at *; omega) | fail))] | fail)), (by repeat (first | exact heap_alloc_at _ _ _ (by (first | omega | (simp; done) | (simp; omega) | (simp at *; omega) | fail)) | assumption | rw [heap_alloc_past _ _ _ (by (first | omega | (simp; done) | (simp; omega) | (simp at *; omega) | fail))] | rw [heap_setCell_past _ _ _ _ (by (first | omega | (simp; done) | (simp; omega) | (simp at *; omega) | fail))] | fail)), (by repeat (first | exact heap_alloc_at _ _ _ (by (first | omega | (simp; done) | (simp; omega) | (simp at *; omega) | fail)) | assumption | rw [heap_alloc_past _ _ _ (by (first | omega | (simp; done) | (simp; omega) | (simp at *; omega) | fail))] | rw [heap_setCell_past _ _ _ _ (by (first | omega | (simp; done) | (simp; omega) | (simp at *; omega) | fail))] | fail)), by simp, by exact (by repeat (first | exact Below.refl _ _ | assumption | (refine Below.alloc ?_ ?_ _; rotate_left; · (first | omega | (simp; done) | (simp; omega) | fail)) | (refine Below.setCell ?_ ?_ _; rotate_left; · (first | omega | (simp; done) | (simp; omega) | fail)) | refine Below.drew ?_ | fail))⟩
 have H0 := Lib.hid h0
 have hit : ItC Tryz.prog 102 #[.pointer (some ⟨vb, 0, none⟩)] (fun u => #[fv u]) us (fun k => k = vb ∨ k < B) w5 := by
  have h := values_it (us.map fv) a cap w5 vb B (by omega) (by rw [List.length_map]; omega)
   (fun i v hi => by
    obtain ⟨g, h1, h2, h3⟩ := HC.out i v hi
    exact ⟨g, h1, h2, by rw [<- h3]; exact World.cell?_of_block (hb5.block g (by omega))⟩)
   (by rw [List.length_map]; exact blk_later hb5 HVB.out)
  exact itc_map (encs := fun v => #[v]) h
 simp only [<- hV]
 rw [<- hV] at hvb hB hb5
 have HV := Lib.hid hV
 have HB5 := Lib.hid hb5
 clear hV hw5 h0 hb5 hmk
 refine rf_state (gf := 102) (lb := #[.pointer (some ⟨vb, 0, none⟩)]) rfl (enters_of Tryz.func102 (by kernel_rfl) rfl)
  hit (fun _ => rfl) (fun j hj => by rcases hj with h | h <;> omega)
  (fun pre W => SuSt w V many lb H pre W) (fun k => k = V + 2 ∨ k = V + 3) (fun u => [(15, fv u), (10, fv u)])
  (fun k hk => ⟨by omega, fun h => by rcases h with h | h <;> omega⟩)
  (fun pre X W W' h ho hX => h.only ho (fun k hk => by have := hX k hk; omega)) (fun pre W h => by have := h.sz; omega) H0.out ?assign ?body ?done
 case assign =>
  intro l y W K' hK'
  gi_wp2_with fail
  exact hK'
 case body =>
  rintro l pre y rest W hsp hS
  have HS := Lib.hid hS
  have hy : y ∈ us := by rw [hsp]; simp
  have hpl : pre.length < 200 := by
   have := congrArg List.length hsp
   simp only [List.length_append, List.length_cons] at this
   omega
  have HY := Lib.hid hy
  have a0 := blk_cell hS.ask 0
  have f0 := blk_free hS.ask 0
  have m0 := blk_cell hS.num 0
  clear hS hsp hy hit
  gi_wp2_with fail
  obtain ⟨w6, hw6⟩ : ∃ w6, w6 = W.setCell ⟨V + 2, 0, none⟩ (.int .i64 ((pre.length : Int) + 1)) := ⟨_, rfl⟩
  have ho6 : OnlyIn (fun k => k = V + 2 ∨ k = V + 3) W w6 := by rw [hw6]; exact OnlyIn.setCell _ _ _ (Or.inl rfl)
  have ha6 : w6.heap[V + 2]? = some (.cells #[.int .i64 ((pre.length : Int) + 1)] 3 (0, 0)) := by rw [hw6]; exact blk_set1 HS.out.ask _
  have hr6 : w6.heap[V + 3]? = some (.cells (cntL H pre y many 0).toArray 3 (0, 0)) := by
   rw [hw6, heap_setCell_past _ _ _ _ (by simp), cntL_zero]
   exact HS.out.row
  rw [<- hw6]
  have HO6 := Lib.hid ho6
  have HA6 := Lib.hid ha6
  have HR6 := Lib.hid hr6
  clear hw6 ho6 ha6 hr6 a0 f0 m0
  gi_loopw [19] (fun j wr => ∃ (k : Nat), k <= many /\ j = .int .i64 k /\ Hid (OnlyIn (fun k => k = V + 2 ∨ k = V + 3) W wr) /\ Hid (wr.heap[V + 2]? = some (.cells #[.int .i64 ((pre.length : Int) + 1)] 3 (0, 0))) /\ Hid (wr.heap[V + 3]? = some (.cells (cntL H pre y many k).toArray 3 (0, 0)))) (fun j _ => many - (intOf j).toNat)
  case atStart => exact ⟨0, by omega, rfl, HO6, HA6, HR6⟩
  case round =>
   clear HO6 HA6 HR6
   obtain ⟨k, hk, rfl, HO, HA, HR⟩ := hrel
   have hszr := HO.out.size
   have hsz0 := HS.out.sz
   have hbr : Below V w wr := ⟨HO.out.os.trans HS.out.bel.os, HO.out.tape.trans HS.out.bel.tape, HO.out.output.trans HS.out.bel.output, by have := HS.out.bel.size; omega, fun j hj => (HO.out.block j (by omega) (fun h => by rcases h with h | h <;> omega)).trans (HS.out.bel.block j hj)⟩
   have HBR := Lib.hid hbr
   have g1 := (HO.out.block (V + 1) (by omega) (fun h => by rcases h with h | h <;> omega)).trans HS.out.has
   have g4 := (HO.out.block (V + 4) (by omega) (fun h => by rcases h with h | h <;> omega)).trans HS.out.hav
   have h0 := blk_cell g1 0
   have HG4 := Lib.hid g4
   clear g1 g4 hbr
   by_cases hlt : k < many
   · gi_wp2_with fail
     refine ⟨trivial, (CallsIn.inRound l (callsIn_wide.2 (HH.out y HY.out k hlt wr (by rw [<- HV.out]; exact HBR.out)))).mono ?_⟩
     rintro e w7 ⟨rfl, hb7⟩
     obtain ⟨z, hz⟩ : ∃ z, z = H y k := ⟨_, rfl⟩
     rw [<- hz]
     have HZ := Lib.hid hz
     have HO7 : Hid (OnlyIn (fun k => k = V + 2 ∨ k = V + 3) W w7) := Lib.hid (HO.out.trans (OnlyIn.of_below hb7))
     have HA7 := Lib.hid (blk_later hb7 HA.out)
     have HR7 := Lib.hid (blk_later hb7 HR.out)
     have HG7 := Lib.hid (blk_later hb7 HG4.out)
     clear hz hb7 HA HR HG4 HO HBR h0
     cases z with
     | false =>
       gi_wp2_with fail
       go_roundw
       case rel => exact ⟨k + 1, by omega, by go_num, HO7, HA7, by rw [cntL_no HZ.out.symm]; exact HR7⟩
       case measure => simp [intOf]; omega
     | true =>
       obtain ⟨c, hcn⟩ : ∃ c, c = cntN H pre k := ⟨_, rfl⟩
       have hcl : c <= pre.length := by rw [hcn]; exact cnt_le H pre k
       have q0 : w7.cell? ⟨V + 3, k, none⟩ = some (.int .i64 (c : Nat)) := (blk_cell HR7.out k).trans (by rw [hcn]; simpa using cntL_at hlt)
       have q1 := blk_free HR7.out k
       have q2 := blk_cell HG7.out 0
       have HCN := Lib.hid hcn
       clear hcn
       gi_wp2_with fail
       have ho8 : OnlyIn (fun k => k = V + 2 ∨ k = V + 3) W (w7.setCell ⟨V + 3, k, none⟩ (.int .i64 ((c : Int) + 1))) := HO7.out.trans (OnlyIn.setCell _ _ _ (Or.inr rfl))
       have hr8 : (w7.setCell ⟨V + 3, k, none⟩ (.int .i64 ((c : Int) + 1))).heap[V + 3]? = some (.cells (cntL H pre y many (k + 1)).toArray 3 (0, 0)) := by
        have h := blk_set HR7.out k (.int .i64 ((c : Int) + 1))
        rw [<- cntL_yes hlt HZ.out.symm, <- HCN.out]
        simpa using h
       go_roundw
       case rel => exact ⟨k + 1, by omega, by go_num, ho8, (heap_setCell_past _ _ _ _ (by simp)).trans HA7.out, hr8⟩
       case measure => simp [intOf]; omega
   · obtain rfl : k = many := by omega
     clear h0
     gi_wp2_with fail
     have hl9 : pre.length + 1 = (pre ++ [y]).length := by simp
     refine ⟨HO.out, ⟨?_, ?_, ?_, ?_, HG4.out, by omega, HBR.out⟩⟩
     · exact (HO.out.block V (by omega) (fun h => by rcases h with h | h <;> omega)).trans HS.out.num
     · exact (HO.out.block (V + 1) (by omega) (fun h => by rcases h with h | h <;> omega)).trans HS.out.has
     · rw [<- hl9]; exact HA.out
     · rw [<- cntL_all]; exact HR.out
 case done =>
  rintro D W hD hS hdef
  have HS := Lib.hid hS
  have HDF := Lib.hid hdef
  have m0 := blk_cell hS.num 0
  clear hS hdef hit
  gi_wp2_with fail
  have hDl := (Array.getElem?_eq_some_iff.1 HDF.out).1
  have hus : us.length <= 200 := hl
  have hA1 : ∀ (n : Nat) (W' : World), n < many -> Below W.heap.size W W' -> Calls Tryz.prog 100 #[.int .i64 n, .pointer (some ⟨V + 4, 0, none⟩), .pointer (some ⟨V + 2, 0, none⟩)] W' fun e W'' => e = .returned (.bool (us.all fun u => H u n)) /\ Below W'.heap.size W' W'' := fun n W' hn hb => by
   refine sureAll_any (V + 4) (V + 2) (V + 3) many (cntN H us n) n us.length (cntB H us many) 3 W' (blk_later hb HS.out.hav) (blk_later hb HS.out.row) hn (cntB_at hn) (blk_later hb HS.out.ask) _ ?_
   rw [<- cnt_all H us n]
   by_cases e : cntN H us n = us.length
   · rw [decide_eq_true e, e]; simp
   · rw [decide_eq_false e]; simp; omega
  have hA2 : ∀ (n : Nat) (W' : World), n < many -> Below W.heap.size W W' -> Calls Tryz.prog 101 #[.int .i64 n, .pointer (some ⟨V + 4, 0, none⟩)] W' fun e W'' => e = .returned (.bool (us.any fun u => H u n)) /\ Below W'.heap.size W' W'' := fun n W' hn hb => by
   rw [<- cnt_any H us n]
   exact sureSome_any (V + 4) (V + 3) many (cntN H us n) n (cntB H us many) 3 W' (blk_later hb HS.out.hav) (blk_later hb HS.out.row) hn (cntB_at hn)
  have HA2 := Lib.hid hA2
  refine ⟨trivial, (callsIn_wide.2 (where1_any many (fun n => us.all fun u => H u n) (V + 4) (V + 2) W hm hA1)).mono ?_⟩
  rintro e w8 ⟨⟨va, rfl, hra⟩, hb8⟩
  have HIA := Lib.hid (ints_of_row hra)
  have HB8 := Lib.hid hb8
  have m8 := blk_cell (blk_later hb8 HS.out.num) 0
  clear hA1 hA2 hra hb8 m0
  gi_wp2_with fail
  refine ⟨trivial, (callsIn_wide.2 (where2_any many (fun n => us.any fun u => H u n) (V + 4) 0 w8 hm (fun n W' hn hb => HA2.out n W' hn (HB8.out.trans (hb.mono HB8.out.size))))).mono ?_⟩
  rintro e w9 ⟨⟨vm, rfl, hrm⟩, hb9⟩
  have HIA9 := Lib.hid (HIA.out.later hb9)
  have HIM := Lib.hid (ints_of_row hrm)
  have HB9 := Lib.hid (HB8.out.trans (hb9.mono HB8.out.size))
  clear hrm hb9 m8 HIA HB8
  gi_wp2_with fail
  have hd9 := blk_later HB9.out HDF.out
  have hbl : Below V w w9 := HS.out.bel.trans (HB9.out.mono (by have := HS.out.sz; omega))
  refine leave_ret hd9 ⟨.tuple #[va, vm], by simp [results, Tryz.results67, go_sem], ⟨va, vm, rfl, HIA9.out.put hd9 _, HIM.out.put hd9 _⟩, ?_⟩
  exact ((⟨by rw [<- HV.out]; exact hbl, fun q hq => by cases hq⟩ : Held w [] w9).put (.deferred none) (D := D) (by rw [<- HV.out]; omega) (fun q hq => by cases hq)).below
end
section
set_option linter.unusedSimpArgs false
set_option linter.unusedVariables false
open Go Go.RowKit Go.Sort Go.BigFrame
theorem asks_any (m : Mkw) (s : Bs) (c r : Int) (q : Ppr) (tr : Int) (lv : Value) (ls : List Fl) (g i j lb : Nat) (x y : Fl) (w : World) (hl : LeavesAt w lv ls g) (hn : ls.length <= 1000) (hi : ls[i]? = some x) (hj : ls[j]? = some y)
  (hb : w.heap[lb]? = some (.cells #[.int .i64 i] 3)) :
  Calls Tryz.prog 69 #[.func (.func 66) #[.agg (wayC m s c r q tr lv)] #[], .int .i64 j, .pointer (some ⟨lb, 0, none⟩)] w fun e w' => e = .returned (.bool (!decide (j = i) && (x.sheet == y.sheet))) /\ Below w.heap.size w w' := by
 have HL := Lib.hid hl
 have HI := Lib.hid hi
 have HJ := Lib.hid hj
 have HN := Lib.hid hn
 have c0 := blk_cell hb 0
 clear hl hi hj hn hb
 by_cases hij : j = i
 · subst hij
   go_enter Tryz.func69, Tryz.ntmps69
   go_wp2_with fail
   go_ret
   exact ⟨by simp, Below.refl _ _⟩
 · have hne : ((j : Int) != (i : Int)) = true := by simp; omega
   go_enter Tryz.func69, Tryz.ntmps69
   go_wp2_with fail
   refine (together_any m s c r q tr lv ls g i j x y w HL.out HN.out HI.out HJ.out).mono ?_
   rintro e w2 ⟨rfl, hb⟩
   obtain ⟨z, hz⟩ : ∃ z, z = (x.sheet == y.sheet) := ⟨_, rfl⟩
   have hz2 : (!decide (j = i) && (x.sheet == y.sheet)) = z := by rw [<- hz, decide_eq_false hij]; rfl
   rw [<- hz]
   have HZ2 := Lib.hid hz2
   clear hz hz2 hne c0 hij
   go_wp2_with fail
   go_ret
   exact ⟨by rw [HZ2.out]; rfl, hb⟩
end
end Go.Proofs.YtpdhdgdbknnllaaGreatDoor
