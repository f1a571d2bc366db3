/- The parts Fv, Fs, Fw, Fc, Fx, Fy, Fz, Xa, Oc, Tm, Hu of the proof, joined. It holds without conditions of its own. -/
import Derived.Test.YtpdhdgdbknnllaaGreatDoorFX22
import Derived.Test.YtpdhdgdbknnllaaGreatDoorFX19
import Derived.Test.YtpdhdgdbknnllaaGreatDoorFX4
import Derived.Test.YtpdhdgdbknnllaaGreatDoorFX16
import Derived.Test.YtpdhdgdbknnllaaGreatDoorFX3
import Derived.Test.YtpdhdgdbknnllaaGreatDoorFX21
import Derived.Test.YtpdhdgdbknnllaaGreatDoorFX17
import Derived.Test.YtpdhdgdbknnllaaGreatDoorFX5
import Derived.Test.YtpdhdgdbknnllaaGreatDoorFX10
import Derived.Test.YtpdhdgdbknnllaaGreatDoorFX15
import Derived.BigQuiet
set_option maxRecDepth 100000
set_option maxHeartbeats 20000000
namespace Go.Proofs.YtpdhdgdbknnllaaGreatDoor
section
set_option linter.unusedSimpArgs false
set_option linter.unusedVariables false
open Go Go.RowKit Go.Sort Go.BigFrame
theorem SetList_any (s : Nat) (hs : s < 2048) (W : World) (t : TypeId) (hW : W.heap[0]? = some (.cells tabL.toArray t (0, 0))) :
  Calls Tryz.prog 73 #[.int .u64 s] W fun e w' => (∃ v, e = .returned v /\ IntsAt w' v ((idxV 11 s.testBit).map fun (n : Nat) => (n : Int))) /\ Below W.heap.size W w' := by
 have h := lists_all t hs
 unfold listOk at h
 split at h
 · rename_i h' he
   refine (eval_tab followsT (ys := [.int .u64 (s : Int)]) hW he).mono ?_
   rintro en W' ⟨x, e', rfl, hx, -, hb⟩
   have h0 := Nat.eq_of_beq_eq_true h
   subst h0
   rw [VR_lit.1 hx]
   have e : idxV 11 (Nat.testBit 0) = [] := by decide +kernel
   refine ⟨⟨_, rfl, none, 0, ?_, fun hne => ?_⟩, hb⟩
   · rw [e]; rfl
   · rw [e] at hne; exact absurd rfl hne
 · rename_i b n cap h' he
   split at h
   · rename_i cs ty hg
     simp only [Bool.and_eq_true] at h
     obtain ⟨⟨k3, k4⟩, k5⟩ := h
     have t3 : n = (idxV 11 s.testBit).length := Nat.eq_of_beq_eq_true k3
     have t4 : n <= cs.length := Nat.le_of_ble_eq_true k4
     have t5 : cs.take n = (intVs (idxV 11 s.testBit)).map .lit := sameC_ok _ _ k5
     refine (eval_tab followsT (ys := [.int .u64 (s : Int)]) hW he).mono ?_
     rintro en W' ⟨x, e', rfl, hx, hr, hb⟩
     obtain ⟨hd, rfl⟩ := VR_slc.1 hx
     obtain ⟨-, o, ho, l, rest, rfl, hl, hrest⟩ := hr.at_ b _ hg
     have hlen := VRs_len hl
     have hl1 : l.take n = intVs (idxV 11 s.testBit) := by
      refine VRs_lits_eq (e := e') ?_
      rw [<- t5]
      have key : ∀ (k : Nat) (cs : List V) (l : List Value), VRs e' cs l -> VRs e' (cs.take k) (l.take k) := fun k => by
       induction k with
       | zero => intro cs l h; exact VRs_nil.2 rfl
       | succ k ih =>
         intro cs l h
         cases cs with
         | nil => rw [VRs_nil.1 h]; exact VRs_nil.2 rfl
         | cons c cs =>
           obtain ⟨x, xs, rfl, h1, h2⟩ := VRs_cons.1 h
           exact VRs_cons.2 ⟨x, _, rfl, h1, ih _ _ h2⟩
      exact key _ _ _ hl
     refine ⟨⟨_, rfl, some ⟨e'.σ b, 0, none⟩, _, by rw [List.length_map, <- t3], fun _ => ⟨e'.σ b, rfl, blk_lt ho, fun i x hx => ?_⟩⟩, hb⟩
     rw [blk_cell ho, List.getElem?_toArray]
     obtain ⟨m, hm, rfl⟩ : ∃ m, (idxV 11 s.testBit)[i]? = some m /\ (m : Int) = x := by
      rw [List.getElem?_map, Option.map_eq_some_iff] at hx
      exact hx
     have hi : i < n := by rw [t3]; exact (List.getElem?_eq_some_iff.1 hm).1
     rw [List.getElem?_append_left (by omega), <- List.getElem?_take_of_lt hi, hl1]
     unfold intVs
     rw [List.getElem?_map, hm]
     rfl
   · cases h
 · cases h
end
section
set_option linter.unusedSimpArgs false
set_option linter.unusedVariables false
open Go Go.RowKit Go.Sort Go.BigFrame
attribute [local go_sem] Oper.semAt_some putAll
def bestW (p : Prs) (b : Bok) : Nat := bestTo (fun s => ((waysW p b (makesW p)).filter (agreesP p b s)) != []) (allS b) (allS b)
theorem wz_fst (ys : List Wz) : (ys.map wz).map (·.1) = ys.map (·.1) := by rw [List.map_map]; rfl
theorem filter_none {p : Prs} {b : Bok} {s : Nat} (ys : List Wz) : ((ys.filter fun y => agreesP p b s y.1) != []) = (((ys.map (·.1)).filter (agreesP p b s)) != []) := by
 rw [<- agree_take p b (agreesP p b s) ys]
 cases ys.filter fun y => agreesP p b s y.1 <;> rfl
theorem Wrong_good (p : Prs) (b : Bok) (vp mv : Value) (w : World) (t : TypeId) (hp : PrsAt w.heap.size w vp p) (hb : RowsAt 2 mrkV w.heap.size w mv b.marks) (he : (checkK p b).2.2 = 0) (hW : w.heap[0]? = some (.cells tabL.toArray t (0, 0))) :
  Calls Tryz.prog 14 #[vp, .agg #[.int .i64 b.leaves, .int .i64 b.chain, .int .i64 b.wlo, .int .i64 b.whi, .int .i64 b.hlo, .int .i64 b.hhi, mv]] w fun e w' =>
   ((waysW p b (makesW p) = [] /\ e = .returned (.tuple #[.slice none 0 0, .int .i64 9])) ∨ (waysW p b (makesW p) ≠ [] /\ ∃ v, e = .returned (.tuple #[v, .int .i64 0]) /\ IntsAt w' v ((idxV 11 (bestW p b).testBit).map fun (n : Nat) => (n : Int)))) /\ Below w.heap.size w w' := by
 obtain ⟨hee, hbl, hm8, -⟩ := fine_bok he
 have hlenM : (waysW p b (makesW p)).length <= 192 := by
  obtain ⟨-, ⟨f3, f4⟩, ⟨f5, f6⟩, -⟩ := fine_press hee
  obtain ⟨⟨f1, f2⟩, -⟩ := fine_press hee
  have h1 := mkA_len p p.fmts.length (by omega) (by omega)
  have h2 : (waysW p b (makesW p)).length <= (makesW p).length := List.length_filter_le _ _
  unfold makesW at h2 ⊢
  omega
 have HOC := Lib.hid (fun W (h1 : PrsAt W.heap.size W vp p) (h2 : RowsAt 2 mrkV W.heap.size W mv b.marks) => openCase_any p b vp mv W h1 h2 he)
 have HP := Lib.hid hp
 have HM := Lib.hid hb
 have HEK := Lib.hid he
 have HLM := Lib.hid hlenM
 have HW := Lib.hid hW
 obtain ⟨fv, pv, rfl, ⟨fa, fcap, rfl, -⟩, ⟨pa, pcap, rfl, -⟩, -⟩ := hp
 obtain ⟨ma, mcap, rfl, -⟩ := hb
 obtain ⟨n1, hn1⟩ : ∃ n, n = p.fmts.length := ⟨_, rfl⟩
 obtain ⟨n2, hn2⟩ : ∃ n, n = p.pprs.length := ⟨_, rfl⟩
 obtain ⟨n3, hn3⟩ : ∃ n, n = b.marks.length := ⟨_, rfl⟩
 have HN3 := Lib.hid hn3
 rw [<- hn1, <- hn2] at HP HOC ⊢
 rw [<- hn3] at HM HOC hm8 ⊢
 clear he hee hbl hlenM hn1 hn2 hn3 hW
 go_enter Tryz.func14, Tryz.ntmps14
 go_wp2_with fail
 have hb0 : Below w.heap.size w ((w.alloc (.cells #[.slice fa n1 fcap, .slice pa n2 pcap, .int .i64 p.trim, .int .i64 p.sheets] 25)).alloc (.cells #[.int .i64 b.leaves, .int .i64 b.chain, .int .i64 b.wlo, .int .i64 b.whi, .int .i64 b.hlo, .int .i64 b.hhi, .slice ma n3 mcap] 30)) := by exact (by repeat (first | exact Below.refl _ _ | assumption | (refine Below.alloc ?_ ?_ _; rotate_left; · (first | omega | (simp; done) | (simp; omega) | fail)) | (refine Below.setCell ?_ ?_ _; rotate_left; · (first | omega | (simp; done) | (simp; omega) | fail)) | refine Below.drew ?_ | fail))
 revert hb0
 generalize ((w.alloc (.cells #[.slice fa n1 fcap, .slice pa n2 pcap, .int .i64 p.trim, .int .i64 p.sheets] 25)).alloc (.cells #[.int .i64 b.leaves, .int .i64 b.chain, .int .i64 b.wlo, .int .i64 b.whi, .int .i64 b.hlo, .int .i64 b.hhi, .slice ma n3 mcap] 30)) = w0
 intro hb0
 refine (HOC.out _ (HP.out.later hb0) (HM.out.later hb0)).mono ?_
 rintro e w1 ⟨⟨wv, rfl, hwy⟩, hb1⟩
 have hb2 := hb0.trans (hb1.mono hb0.size)
 obtain ⟨zs, hz1, hz2, hz3⟩ := hwy
 obtain ⟨ys, rfl⟩ := wz_all zs (fun z hz => by
  obtain ⟨g, ⟨k, rest, e, -⟩, -⟩ := hz3 z hz
  exact ⟨_, _, _, e⟩)
 have hzl : (waysW p b (makesW p)).length = ys.length := by rw [<- hz1]; simp
 obtain ⟨va, vc, rfl⟩ : ∃ a c, wv = Value.slice a ys.length c := by
  rcases hz2.2 with ⟨rfl, h0⟩ | ⟨g, cap, cur, rfl, -⟩
  · exact ⟨_, _, by rw [<- hzl, h0]⟩
  · exact ⟨_, _, by rw [<- hzl]⟩
 have hsn : SnAt w1 p b (.slice ma n3 mcap) (.slice va ys.length vc) ys := ⟨by rw [<- wz_fst]; exact hz1, by rw [<- hzl]; exact row_mono (by rw [<- hzl] at hz2; exact hz2) (Nat.zero_le _), fun z hz => by
  obtain ⟨g, hl, -⟩ := hz3 z hz
  exact ⟨g, hl⟩, HM.out.later hb2, by have := HLM.out; omega⟩
 have HSN := Lib.hid hsn
 have HB2 := Lib.hid hb2
 have HZL := Lib.hid hzl
 have HZ1 := Lib.hid hz1
 have hs1 := hb2.size
 obtain ⟨vn, hvn⟩ : ∃ n, n = ys.length := ⟨_, rfl⟩
 have HVN := Lib.hid hvn
 rw [<- hvn] at HSN ⊢
 clear hz1 hz2 hz3 hb0 hb1 hb2 HOC hsn hzl hvn
 by_cases h0 : vn = 0
 · subst h0
   have he0 : waysW p b (makesW p) = [] := List.length_eq_zero_iff.1 (by rw [HZL.out, <- HVN.out])
   have HE0 := Lib.hid he0
   clear he0
   go_wp2_with fail
   go_ret2
   exact ⟨Or.inl ⟨HE0.out, rfl⟩, by exact (by repeat (first | (refine Below.setCell ?_ ?_ _; rotate_left; · (first | omega | (simp; done) | (simp; omega) | fail)) | (refine Below.alloc ?_ ?_ _; rotate_left; · (first | omega | (simp; done) | (simp; omega) | fail)) | refine Below.drew ?_ | exact HB2.out | fail))⟩
 · have hne : ((vn : Int) == 0) = false := by simp; omega
   have HNE : Hid (waysW p b (makesW p) ≠ []) := Lib.hid (fun h => h0 (by rw [HVN.out, <- HZL.out, h]; rfl))
   clear h0
   go_wp2_with fail
   have hba : Below w1.heap.size w1 (w1.alloc (.cells #[.int .i64 b.leaves, .int .i64 b.chain, .int .i64 b.wlo, .int .i64 b.whi, .int .i64 b.hlo, .int .i64 b.hhi, .slice ma n3 mcap, .slice va vn vc] 72)) := (Below.refl _ _).alloc (Nat.le_refl _) _
   have hbx : Below w.heap.size w (w1.alloc (.cells #[.int .i64 b.leaves, .int .i64 b.chain, .int .i64 b.wlo, .int .i64 b.whi, .int .i64 b.hlo, .int .i64 b.hhi, .slice ma n3 mcap, .slice va vn vc] 72)) := HB2.out.trans (hba.mono HB2.out.size)
   refine (wrong_any p b ma n3 mcap va vn vc ys _ (HSN.out.later hba) HEK.out hm8 (fun s W v w' => IntsAt w' v ((idxV 11 s.testBit).map fun (n : Nat) => (n : Int))) (fun s W hs hb => SetList_any s hs W t (blk_later (hbx.trans (hb.mono hbx.size)) HW.out))).mono ?_
   rintro e w3 ⟨⟨W, v, -, rfl, hr⟩, hb3⟩
   have hr2 : IntsAt w3 v ((idxV 11 (bestW p b).testBit).map fun (n : Nat) => (n : Int)) := by
    have e : bestTo (fun s => (ys.filter fun y => agreesP p b s y.1) != []) (2 ^ (3 + n3) - 1) (2 ^ (3 + n3) - 1) = bestW p b := by
     unfold bestW allS
     rw [<- HN3.out]
     congr 1
     funext s
     rw [filter_none, <- wz_fst, HZ1.out]
    rw [e] at hr
    exact hr
   have HR2 := Lib.hid hr2
   have HB3 := Lib.hid (hbx.trans (hb3.mono hbx.size))
   clear hr hr2 hb3 hba hbx
   go_wp2_with fail
   go_ret2
   exact ⟨Or.inr ⟨HNE.out, _, rfl, HR2.out⟩, HB3.out⟩
theorem Wrong_bad (p : Prs) (b : Bok) (vp mv : Value) (w : World) (hp : PrsAt w.heap.size w vp p) (hb : RowsAt 2 mrkV w.heap.size w mv b.marks) (he : (checkK p b).2.2 ≠ 0) :
  Calls Tryz.prog 14 #[vp, .agg #[.int .i64 b.leaves, .int .i64 b.chain, .int .i64 b.wlo, .int .i64 b.whi, .int .i64 b.hlo, .int .i64 b.hhi, mv]] w fun e w' => e = .returned (.tuple #[.slice none 0 0, .int .i64 (checkK p b).2.2]) /\ Below w.heap.size w w' := by
 have HOC := Lib.hid (fun W (h1 : PrsAt W.heap.size W vp p) (h2 : RowsAt 2 mrkV W.heap.size W mv b.marks) => openCase_bad p b vp mv W h1 h2 he)
 have HP := Lib.hid hp
 have HM := Lib.hid hb
 obtain ⟨ek, hek⟩ : ∃ e, e = (checkK p b).2.2 := ⟨_, rfl⟩
 rw [<- hek] at he HOC ⊢
 have hne : (ek != 0) = true := by simp [he]
 obtain ⟨fv, pv, rfl, ⟨fa, fcap, rfl, -⟩, ⟨pa, pcap, rfl, -⟩, -⟩ := hp
 obtain ⟨ma, mcap, rfl, -⟩ := hb
 obtain ⟨n1, hn1⟩ : ∃ n, n = p.fmts.length := ⟨_, rfl⟩
 obtain ⟨n2, hn2⟩ : ∃ n, n = p.pprs.length := ⟨_, rfl⟩
 obtain ⟨n3, hn3⟩ : ∃ n, n = b.marks.length := ⟨_, rfl⟩
 rw [<- hn1, <- hn2] at HP HOC ⊢
 rw [<- hn3] at HM HOC ⊢
 clear he hek hn1 hn2 hn3
 go_enter Tryz.func14, Tryz.ntmps14
 go_wp2_with fail
 have hb0 : Below w.heap.size w ((w.alloc (.cells #[.slice fa n1 fcap, .slice pa n2 pcap, .int .i64 p.trim, .int .i64 p.sheets] 25)).alloc (.cells #[.int .i64 b.leaves, .int .i64 b.chain, .int .i64 b.wlo, .int .i64 b.whi, .int .i64 b.hlo, .int .i64 b.hhi, .slice ma n3 mcap] 30)) := by exact (by repeat (first | exact Below.refl _ _ | assumption | (refine Below.alloc ?_ ?_ _; rotate_left; · (first | omega | (simp; done) | (simp; omega) | fail)) | (refine Below.setCell ?_ ?_ _; rotate_left; · (first | omega | (simp; done) | (simp; omega) | fail)) | refine Below.drew ?_ | fail))
 revert hb0
 generalize ((w.alloc (.cells #[.slice fa n1 fcap, .slice pa n2 pcap, .int .i64 p.trim, .int .i64 p.sheets] 25)).alloc (.cells #[.int .i64 b.leaves, .int .i64 b.chain, .int .i64 b.wlo, .int .i64 b.whi, .int .i64 b.hlo, .int .i64 b.hhi, .slice ma n3 mcap] 30)) = w0
 intro hb0
 refine (HOC.out _ (HP.out.later hb0) (HM.out.later hb0)).mono ?_
 rintro e w1 ⟨rfl, hb1⟩
 have hb2 := hb0.trans (hb1.mono hb0.size)
 have hs1 := hb2.size
 clear hb0 hb1 HOC
 go_wp2_with fail
 go_ret2
 exact ⟨rfl, by exact (by repeat (first | (refine Below.setCell ?_ ?_ _; rotate_left; · (first | omega | (simp; done) | (simp; omega) | fail)) | (refine Below.alloc ?_ ?_ _; rotate_left; · (first | omega | (simp; done) | (simp; omega) | fail)) | refine Below.drew ?_ | exact hb2 | fail))⟩
end
section
set_option linter.unusedSimpArgs false
set_option linter.unusedVariables false
structure Way where
 cols : Nat
 rows : Nat
 leaves : List Fl
 sheets : Nat
 ok : Nat -> Bool
end
section
set_option linter.unusedSimpArgs false
set_option linter.unusedVariables false
theorem best_inv (A : Nat -> Bool) (all : Nat) (ha : all < 2048) : ∀ k, k <= all -> (bestTo A all k = all ∨ (bestTo A all k < k /\ A (all - bestTo A all k) = true)) /\ (∀ s, s < k -> A (all - s) = true -> leV 11 (bestTo A all k).testBit s.testBit) /\ leV 11 (bestTo A all k).testBit all.testBit
 | 0, _ => ⟨Or.inl rfl, fun s h => by omega, leV_refl _ _⟩
 | k + 1, h => by
   obtain ⟨h1, h2, h3⟩ := best_inv A all ha k (by omega)
   have hle := bestTo_le A all k (by omega)
   have hai := ahead_is (s := k) (o := bestTo A all k) (by omega) (by omega)
   rw [bestTo_succ]
   by_cases hc : (aheadN k (bestTo A all k) && A (all - k)) = true
   · rw [if_pos hc]
     rw [Bool.and_eq_true] at hc
     have hlt := hai.1 hc.1
     refine ⟨Or.inr ⟨by omega, hc.2⟩, fun s hs hA => ?_, fun hx => h3 (ltV_trans hx hlt)⟩
     by_cases hsk : s = k
     · subst hsk; exact leV_refl _ _
     · exact fun hx => h2 s (by omega) hA (ltV_trans hx hlt)
   · rw [if_neg hc]
     refine ⟨h1.imp id fun ⟨a, b⟩ => ⟨by omega, b⟩, fun s hs hA hx => ?_, h3⟩
     by_cases hsk : s = k
     · subst hsk
       exact hc (by rw [Bool.and_eq_true]; exact ⟨hai.2 hx, hA⟩)
     · exact h2 s (by omega) hA hx
theorem true_from (ls : List Fl) (co ro s sh h : Nat) : ∀ (ms : List (Int × Bool)) (k : Nat), trueFrom ls co ro s sh h k ms = true ↔ ∀ j m, ms[j]? = some m -> s.testBit (3 + (k + j)) = true -> untrB ls co ro sh h m = false
 | [], k => ⟨fun _ j m hm => (by simp at hm), fun _ => rfl⟩
 | x :: ms, k => by
   unfold trueFrom
   by_cases hc : s.testBit (3 + k) = true /\ untrB ls co ro sh h x = true
   · rw [if_pos hc]
     refine ⟨fun hh => (by cases hh), fun hh => ?_⟩
     have := hh 0 x rfl hc.1
     rw [hc.2] at this
     cases this
   · rw [if_neg hc, true_from ls co ro s sh h ms (k + 1)]
     constructor
     · intro hh j m hm hs
       cases j with
       | zero =>
         simp only [List.getElem?_cons_zero, Option.some.injEq] at hm
         subst hm
         cases hu : untrB ls co ro sh h x with
         | false => rfl
         | true => exact absurd ⟨hs, hu⟩ hc
       | succ j => exact hh j m (by simpa using hm) (by rw [show k + 1 + j = k + (j + 1) by omega]; exact hs)
     · intro hh j m hm hs
       exact hh (j + 1) m (by simpa using hm) (by rw [show k + (j + 1) = k + 1 + j by omega]; exact hs)
end
section
set_option linter.unusedSimpArgs false
set_option linter.unusedVariables false
structure Wider (p p' : Prs) (b b' : Bok) : Prop where
 fmts : p'.fmts = p.fmts
 sheets : p'.sheets = p.sheets
 num : p'.pprs.length = p.pprs.length
 ppr : ∀ (i : Nat) (q : Ppr), p.pprs[i]? = some q -> ∃ q' : Ppr, p'.pprs[i]? = some q' /\ q'.wlo <= q.wlo /\ q.whi <= q'.whi /\ q'.hlo <= q.hlo /\ q.hhi <= q'.hhi
 trim : p.trim <= p'.trim
 leaves : b'.leaves = b.leaves
 chain : b'.chain = b.chain
 marks : b'.marks = b.marks
 wide : b'.wlo <= b.wlo /\ b.whi <= b'.whi
 high : b'.hlo <= b.hlo /\ b.hhi <= b'.hhi
theorem meet_wider {a b c d a' b' c' d' : Int} (h1 : a' <= a) (h2 : b <= b') (h3 : c' <= c) (h4 : d <= d') (h : meetB a b c d = true) : meetB a' b' c' d' = true := by
 unfold meetB at h ⊢
 rw [Bool.and_eq_true] at h ⊢
 exact ⟨decide_eq_true (by have := of_decide_eq_true h.1; omega), decide_eq_true (by have := of_decide_eq_true h.2; omega)⟩
theorem sizes_wider {a b c d a' b' c' d' co ro : Nat} {up : Bool} {tr tr' : Int} (h1 : a' <= a) (h2 : b <= b') (h3 : c' <= c) (h4 : d <= d') (h5 : tr <= tr') :
  (sizesF a' b' c' d' co ro up tr').1 <= (sizesF a b c d co ro up tr).1 /\ (sizesF a b c d co ro up tr).2.1 <= (sizesF a' b' c' d' co ro up tr').2.1 /\ (sizesF a' b' c' d' co ro up tr').2.2.1 <= (sizesF a b c d co ro up tr).2.2.1 /\ (sizesF a b c d co ro up tr).2.2.2 <= (sizesF a' b' c' d' co ro up tr').2.2.2 := by
 have k1 : ((a' / co : Nat) : Int) <= ((a / co : Nat) : Int) := Int.ofNat_le.2 (Nat.div_le_div_right h1)
 have k2 : ((b / co : Nat) : Int) <= ((b' / co : Nat) : Int) := Int.ofNat_le.2 (Nat.div_le_div_right h2)
 have k3 : ((c' / ro : Nat) : Int) <= ((c / ro : Nat) : Int) := Int.ofNat_le.2 (Nat.div_le_div_right h3)
 have k4 : ((d / ro : Nat) : Int) <= ((d' / ro : Nat) : Int) := Int.ofNat_le.2 (Nat.div_le_div_right h4)
 unfold sizesF
 cases up
 · simp only [Bool.false_eq_true, if_false]
   refine ⟨by omega, k4, by omega, k2⟩
 · simp only [if_true]
   refine ⟨by omega, k2, by omega, k4⟩
theorem Wider.flds {p p' : Prs} {b b' : Bok} (h : Wider p p' b b') (m : Mkw) : fldsOf p' m = fldsOf p m := by unfold fldsOf; rw [h.fmts]
theorem Wider.lv {p p' : Prs} {b b' : Bok} (h : Wider p p' b b') (m : Mkw) : lvOf p' m = lvOf p m := by unfold lvOf; rw [h.flds]
theorem Wider.err {p p' : Prs} {b b' : Bok} (h : Wider p p' b b') (m : Mkw) : mkwErr p' m = mkwErr p m := by unfold mkwErr; rw [h.fmts, h.num, h.sheets]
theorem Wider.makes {p p' : Prs} {b b' : Bok} (h : Wider p p' b b') : makesW p' = makesW p := by
 have e : okM p' = okM p := by funext m; unfold okM; rw [h.err]
 unfold makesW mkA mkB mkC3 mkD
 rw [h.fmts, h.num, h.sheets, e]
theorem Wider.ways {p p' : Prs} {b b' : Bok} (h : Wider p p' b b') : waysW p' b' (makesW p') = waysW p b (makesW p) := by
 unfold waysW waysP
 rw [h.makes, h.leaves]
 congr 1
 funext m
 rw [h.lv]
theorem Wider.agrees {p p' : Prs} {b b' : Bok} (h : Wider p p' b b') {m : Mkw} {q : Ppr} (hq : p.pprs[m.ppr.toNat]? = some q) {s : Nat} (k : agreesP p b s m = true) : agreesP p' b' s m = true := by
 obtain ⟨q', hq', w1, w2, w3, w4⟩ := h.ppr _ _ hq
 have e1 : pprOf p m = q := by unfold pprOf; rw [hq]
 have e2 : pprOf p' m = q' := by unfold pprOf; rw [hq']
 have hs := sizes_wider (a := q.wlo.toNat) (b := q.whi.toNat) (c := q.hlo.toNat) (d := q.hhi.toNat) (a' := q'.wlo.toNat) (b' := q'.whi.toNat) (c' := q'.hlo.toNat) (d' := q'.hhi.toNat) (co := colsF (fdsB (fldsOf p m))) (ro := rowsF (fdsB (fldsOf p m))) (up := lastF (fdsB (fldsOf p m))) (by omega) (by omega) (by omega) (by omega) h.trim
 obtain ⟨s1, s2, s3, s4⟩ := hs
 have p0 : (plainB p' b' m).1 = (plainB p b m).1 := by unfold plainB chainB2; rw [h.flds, h.chain]
 have p1 : (plainB p b m).2.1 = true -> (plainB p' b' m).2.1 = true := by
  unfold plainB
  rw [h.flds, e1, e2]
  exact meet_wider s1 s2 h.wide.1 h.wide.2
 have p2 : (plainB p b m).2.2 = true -> (plainB p' b' m).2.2 = true := by
  unfold plainB
  rw [h.flds, e1, e2]
  exact meet_wider s3 s4 h.high.1 h.high.2
 unfold agreesP at k ⊢
 simp only [Bool.and_eq_true, Bool.or_eq_true] at k ⊢
 obtain ⟨⟨⟨k0, k1⟩, k2⟩, k3⟩ := k
 refine ⟨⟨⟨?_, k1.imp id p1⟩, k2.imp id p2⟩, ?_⟩
 · rw [p0]; exact k0
 · have e : ∀ sh, sheetB p' b' s m sh = sheetB p b s m sh := fun sh => by unfold sheetB; rw [h.lv, h.flds, h.marks]
   simp only [e]
   exact k3
theorem way_ppr {p : Prs} {b : Bok} {m : Mkw} (he : (checkK p b).2.2 = 0) (hm : m ∈ waysW p b (makesW p)) : ∃ q, p.pprs[m.ppr.toNat]? = some q := by
 obtain ⟨h0, -, -, -⟩ := fine_bok he
 obtain ⟨hm1, -⟩ := List.mem_filter.1 hm
 obtain ⟨-, -, -, a4⟩ := fine_at h0 (makes_ok hm1)
 exact ⟨_, List.getElem?_eq_getElem a4⟩
theorem Wider.agree {p p' : Prs} {b b' : Bok} (h : Wider p p' b b') (he : (checkK p b).2.2 = 0) {m : Mkw} (hm : m ∈ agreeL p b) : m ∈ agreeL p' b' := by
 unfold agreeL at hm ⊢
 obtain ⟨h1, h2⟩ := List.mem_filter.1 hm
 obtain ⟨q, hq⟩ := way_ppr he h1
 refine List.mem_filter.2 ⟨by rw [h.ways]; exact h1, ?_⟩
 have : allS b' = allS b := by unfold allS; rw [h.marks]
 rw [this]
 exact h.agrees hq h2
theorem cnt_of_le {K : Nat} {u v : Nat -> Bool} (h : leV K u v) : cntV K u <= cntV K v := Nat.le_of_not_lt fun hl => h (Or.inl hl)
theorem allS_lt {p : Prs} {b : Bok} (he : (checkK p b).2.2 = 0) : allS b < 2048 := by
 obtain ⟨-, -, h8, -⟩ := fine_bok he
 unfold allS
 have := Nat.pow_le_pow_right (n := 2) (by decide) (show 3 + b.marks.length <= 11 by omega)
 omega
theorem Wider.best {p p' : Prs} {b b' : Bok} (h : Wider p p' b b') (he : (checkK p b).2.2 = 0) : (idxV 11 (bestW p' b').testBit).length <= (idxV 11 (bestW p b).testBit).length := by
 have ha : allS b' = allS b := by unfold allS; rw [h.marks]
 have hall := allS_lt he
 refine cnt_of_le (u := (bestW p' b').testBit) (v := (bestW p b).testBit) ?_
 obtain ⟨i1, -, -⟩ := best_inv (fun s => ((waysW p b (makesW p)).filter (agreesP p b s)) != []) (allS b) hall (allS b) (Nat.le_refl _)
 obtain ⟨-, j2, j3⟩ := best_inv (fun s => ((waysW p' b' (makesW p')).filter (agreesP p' b' s)) != []) (allS b') (by rw [ha]; exact hall) (allS b') (Nat.le_refl _)
 unfold bestW
 rcases i1 with i1 | ⟨i1, i2⟩
 · rw [i1, <- ha]
   exact j3
 · refine j2 _ (by rw [ha]; exact i1) ?_
   simp only [bne_iff_ne, ne_eq] at i2 ⊢
   obtain ⟨m, hm⟩ := List.exists_mem_of_ne_nil _ i2
   obtain ⟨h1, h2⟩ := List.mem_filter.1 hm
   obtain ⟨q, hq⟩ := way_ppr he h1
   refine List.ne_nil_of_mem (List.mem_filter.2 ⟨?_, ?_⟩ : m ∈ _)
   · rw [h.ways]; exact h1
   · rw [ha]; exact h.agrees hq h2
end
section
set_option linter.unusedSimpArgs false
set_option linter.unusedVariables false
def woM (t : Nat -> Bool) (ms : List (Int × Bool)) : List (Int × Bool) := (ms.zipIdx.filter fun q => !t (3 + q.2)).map (·.1)
def woB (b : Bok) (t : Nat -> Bool) : Bok :=
 { b with chain := if t 0 then 0 else b.chain, wlo := if t 1 then 0 else b.wlo, whi := if t 1 then 2000 else b.whi, hlo := if t 2 then 0 else b.hlo, hhi := if t 2 then 2000 else b.hhi, marks := woM t b.marks }
theorem wo_mem {t : Nat -> Bool} {ms : List (Int × Bool)} {x : Int × Bool} : x ∈ woM t ms ↔ ∃ j, ms[j]? = some x /\ t (3 + j) = false := by
 unfold woM
 rw [List.mem_map]
 constructor
 · rintro ⟨⟨y, j⟩, hq, rfl⟩
   obtain ⟨h1, h2⟩ := List.mem_filter.1 hq
   rw [List.mem_zipIdx_iff_getElem?] at h1
   exact ⟨j, h1, by simpa using h2⟩
 · rintro ⟨j, h1, h2⟩
   exact ⟨(x, j), List.mem_filter.2 ⟨List.mem_zipIdx_iff_getElem?.2 h1, by simp [h2]⟩, rfl⟩
theorem wo_len (t : Nat -> Bool) (ms : List (Int × Bool)) : (woM t ms).length <= ms.length := by
 unfold woM
 rw [List.length_map]
 exact Nat.le_trans (List.length_filter_le _ _) (by simp)
theorem wo_step (t : Nat -> Bool) (ms : List (Int × Bool)) (k : Nat) (x : Int × Bool) (h : ms[k]? = some x) : woM t (ms.take (k + 1)) = woM t (ms.take k) ++ (if t (3 + k) then [] else [x]) := by
 have hk : k < ms.length := (List.getElem?_eq_some_iff.1 h).1
 have e : ms.take (k + 1) = ms.take k ++ [x] := by rw [List.take_add_one, h]; rfl
 unfold woM
 rw [e, List.zipIdx_append, List.filter_append, List.map_append]
 congr 1
 have e2 : 0 + (ms.take k).length = k := by rw [List.length_take]; omega
 rw [e2, List.zipIdx_cons, List.zipIdx_nil]
 cases ht : t (3 + k) <;> simp [ht]
theorem all_bit (n i : Nat) : (2 ^ n - 1).testBit i = decide (i < n) := Nat.testBit_two_pow_sub_one n i
theorem wo_agrees {p : Prs} {b : Bok} {t : Nat -> Bool} {s : Nat} {m : Mkw} (he : errP p = 0) (hm : mkwErr p m = 0) (hs : ∀ i, s.testBit i = (decide (i < 3 + b.marks.length) && !t i)) : agreesP p (woB b t) (allS (woB b t)) m = agreesP p b s m := by
 obtain ⟨h1, h2, h3, h4, h5, h6⟩ := told_sizes he hm ⟨0, 0, 0, 0⟩
 have a0 : ∀ i, i < 3 -> (allS (woB b t)).testBit i = true := fun i hi => by unfold allS; rw [all_bit]; exact decide_eq_true (by omega)
 have s0 : ∀ i, i < 3 -> s.testBit i = !t i := fun i hi => by rw [hs i, decide_eq_true (by omega)]; simp
 have k0 : (!(allS (woB b t)).testBit 0 || (plainB p (woB b t) m).1) = (!(s.testBit 0) || (plainB p b m).1) := by
  rw [a0 0 (by omega), s0 0 (by omega)]
  unfold plainB chainB2 woB
  cases t 0 <;> simp
 have k1 : (!(allS (woB b t)).testBit 1 || (plainB p (woB b t) m).2.1) = (!(s.testBit 1) || (plainB p b m).2.1) := by
  rw [a0 1 (by omega), s0 1 (by omega)]
  unfold plainB woB
  dsimp only
  cases t 1
  · simp
  · simp only [if_true, Bool.not_true, Bool.false_or, Bool.not_false, Bool.true_or]
    unfold meetB
    rw [Bool.and_eq_true]
    exact ⟨decide_eq_true (by omega), decide_eq_true (by omega)⟩
 have k2 : (!(allS (woB b t)).testBit 2 || (plainB p (woB b t) m).2.2) = (!(s.testBit 2) || (plainB p b m).2.2) := by
  rw [a0 2 (by omega), s0 2 (by omega)]
  unfold plainB woB
  dsimp only
  cases t 2
  · simp
  · simp only [if_true, Bool.not_true, Bool.false_or, Bool.not_false, Bool.true_or]
    unfold meetB
    rw [Bool.and_eq_true]
    exact ⟨decide_eq_true (by omega), decide_eq_true (by omega)⟩
 have kf : ∀ (ls : List Fl) (co ro sh h : Nat), trueFrom ls co ro (allS (woB b t)) sh h 0 (woM t b.marks) = trueFrom ls co ro s sh h 0 b.marks := by
  intro ls co ro sh h
  rw [Bool.eq_iff_iff, true_from, true_from]
  constructor
  · intro H j x hx hb
    rw [Nat.zero_add, hs] at hb
    have hb2 : t (3 + j) = false := by simp at hb; exact hb.2
    obtain ⟨i, hi⟩ := List.getElem?_of_mem (wo_mem.2 ⟨j, hx, hb2⟩)
    refine H i x hi ?_
    have hlt : i < (woM t b.marks).length := (List.getElem?_eq_some_iff.1 hi).1
    unfold allS
    rw [all_bit]
    exact decide_eq_true (show 3 + (0 + i) < 3 + (woM t b.marks).length by omega)
  · intro H i x hx _
    obtain ⟨j, hj, ht⟩ := wo_mem.1 (List.mem_of_getElem? hx)
    refine H j x hj ?_
    have hlt : j < b.marks.length := (List.getElem?_eq_some_iff.1 hj).1
    rw [Nat.zero_add, hs, decide_eq_true (by omega), ht]
    rfl
 have k3 : (List.range m.sheets.toNat).all (fun sh => sheetB p (woB b t) (allS (woB b t)) m sh) = (List.range m.sheets.toNat).all fun sh => sheetB p b s m sh := by
  congr 1
  funext sh
  unfold sheetB
  show (trueFrom _ _ _ _ sh 0 0 (woM t b.marks) || trueFrom _ _ _ _ sh 1 0 (woM t b.marks)) = _
  rw [kf, kf]
 unfold agreesP
 rw [k0, k1, k2, k3]
theorem wo_agree {p : Prs} {b : Bok} {t : Nat -> Bool} {s : Nat} (he : errP p = 0) (hs : ∀ i, s.testBit i = (decide (i < 3 + b.marks.length) && !t i)) : agreeL p (woB b t) = (waysW p b (makesW p)).filter (agreesP p b s) := by
 unfold agreeL
 show (waysW p b (makesW p)).filter (agreesP p (woB b t) (allS (woB b t))) = _
 refine List.filter_congr fun m hm => ?_
 unfold waysW at hm
 exact wo_agrees he (makes_ok (List.mem_filter.1 hm).1) hs
theorem wo_fine {p : Prs} {b : Bok} {t : Nat -> Bool} (h : (checkK p b).2.2 = 0) : (checkK p (woB b t)).2.2 = 0 := by
 obtain ⟨-, -, h8, hx⟩ := fine_bok h
 obtain ⟨h1, h2, h3, h4, h5, h6⟩ := checkK_zero.1 h
 refine checkK_zero.2 ⟨h1, h2, ?_, ?_, ?_, marksErr_zero _ _ fun x hx2 => ?_⟩
 · show inI 0 2 (if t 0 then 0 else b.chain) = true
   cases t 0
   · exact h3
   · rfl
 · rw [spans_zero] at h4 ⊢
   unfold woB
   dsimp only
   cases t 1 <;> cases t 2 <;> simp only [if_true, Bool.false_eq_true, if_false] <;> omega
 · show inI 0 8 ((woM t b.marks).length : Int) = true
   have := wo_len t b.marks
   simp only [inI, Bool.and_eq_true, decide_eq_true_eq]
   omega
 · obtain ⟨j, hj, -⟩ := wo_mem.1 hx2
   have := hx x (List.mem_of_getElem? hj)
   show inI 0 (b.leaves - 1) x.1 = true
   simp only [inI, Bool.and_eq_true, decide_eq_true_eq]
   omega
theorem off_bit {n o : Nat} (ho : o < 2 ^ n) (i : Nat) : (2 ^ n - 1 - o).testBit i = (decide (i < n) && !o.testBit i) := by
 rw [Nat.sub_sub, Nat.add_comm 1 o]
 exact Nat.testBit_two_pow_sub_succ ho i
theorem wrong_few {p : Prs} {b : Bok} (he : (checkK p b).2.2 = 0) {o : Nat} (ho : o < 2 ^ (3 + b.marks.length)) {m : Mkw} (hm : m ∈ waysW p b (makesW p)) (ha : agreesP p b (allS b - o) m = true) : (idxV 11 (bestW p b).testBit).length <= (idxV 11 o.testBit).length := by
 have hall := allS_lt he
 obtain ⟨-, j2, j3⟩ := best_inv (fun s => ((waysW p b (makesW p)).filter (agreesP p b s)) != []) (allS b) hall (allS b) (Nat.le_refl _)
 refine cnt_of_le (u := (bestW p b).testBit) (v := o.testBit) ?_
 unfold bestW
 rcases (show o < allS b ∨ o = allS b by unfold allS; omega) with h | h
 · refine j2 o h ?_
   simp only [bne_iff_ne, ne_eq]
   exact List.ne_nil_of_mem (List.mem_filter.2 ⟨hm, ha⟩ : m ∈ _)
 · rw [h]
   exact j3
theorem agrees_none (p : Prs) (b : Bok) (m : Mkw) : agreesP p b 0 m = true := by
 unfold agreesP sheetB
 have kf : ∀ (ls : List Fl) (co ro sh h : Nat), trueFrom ls co ro 0 sh h 0 b.marks = true := fun ls co ro sh h => (true_from _ _ _ _ _ _ _ _).2 fun j x _ hb => by simp at hb
 simp [kf]
theorem wrong_agree {p : Prs} {b : Bok} (he : (checkK p b).2.2 = 0) (hw : waysW p b (makesW p) ≠ []) : bestW p b < 2 ^ (3 + b.marks.length) /\ (waysW p b (makesW p)).filter (agreesP p b (allS b - bestW p b)) ≠ [] := by
 have hall := allS_lt he
 obtain ⟨i1, -, -⟩ := best_inv (fun s => ((waysW p b (makesW p)).filter (agreesP p b s)) != []) (allS b) hall (allS b) (Nat.le_refl _)
 have h1 : 0 < 2 ^ (3 + b.marks.length) := Nat.two_pow_pos _
 unfold bestW
 rcases i1 with i1 | ⟨i1, i2⟩
 · rw [i1, Nat.sub_self]
   refine ⟨by unfold allS; omega, ?_⟩
   obtain ⟨m, hm⟩ := List.exists_mem_of_ne_nil _ hw
   exact List.ne_nil_of_mem (List.mem_filter.2 ⟨hm, agrees_none p b m⟩ : m ∈ _)
 · refine ⟨Nat.lt_of_lt_of_le i1 (by unfold allS; omega), by simpa using i2⟩
theorem wo_set {b : Bok} (h8 : b.marks.length <= 8) (u : Nat -> Bool) : ∃ o, o < 2 ^ (3 + b.marks.length) /\ ∀ i, o.testBit i = (decide (i < 3 + b.marks.length) && u i) := by
 obtain ⟨o, h1, h2⟩ := bits_of (3 + b.marks.length) u
 refine ⟨o, h1, fun i => ?_⟩
 by_cases hi : i < 3 + b.marks.length
 · rw [h2 i hi, decide_eq_true hi]; rfl
 · rw [decide_eq_false hi, Bool.false_and]
   exact Nat.testBit_lt_two_pow (Nat.lt_of_lt_of_le h1 (Nat.pow_le_pow_right (by decide) (by omega)))
theorem idx_filter {n : Nat} (hn : n <= 11) {u v : Nat -> Bool} (h : ∀ i, u i = (decide (i < n) && v i)) : idxV 11 u = (List.range n).filter v := by
 unfold idxV
 obtain ⟨k, hk⟩ : ∃ k, 11 = n + k := ⟨11 - n, by omega⟩
 rw [hk, List.range_add, List.filter_append]
 have h2 : ((List.range k).map (n + ·)).filter u = [] := List.filter_eq_nil_iff.2 fun x hx => by
  obtain ⟨j, -, rfl⟩ := List.mem_map.1 hx
  rw [h, decide_eq_false (by omega)]
  simp
 rw [h2, List.append_nil]
 exact List.filter_congr fun x hx => by rw [h, decide_eq_true (List.mem_range.1 hx)]; rfl
theorem wo_few {p : Prs} {b : Bok} (he : (checkK p b).2.2 = 0) (u : Nat -> Bool) {t : Nat -> Bool} (ht : ∀ i, i < 3 + b.marks.length -> t i = u i) (hk : agreeL p (woB b t) ≠ []) : (idxV 11 (bestW p b).testBit).length <= ((List.range (3 + b.marks.length)).filter u).length := by
 obtain ⟨hee, -, h8, -⟩ := fine_bok he
 obtain ⟨o, ho, hb⟩ := wo_set h8 u
 have hs : ∀ i, (allS b - o).testBit i = (decide (i < 3 + b.marks.length) && !t i) := fun i => by
  unfold allS
  rw [off_bit ho, hb]
  by_cases hi : i < 3 + b.marks.length
  · rw [ht i hi, decide_eq_true hi]; simp
  · rw [decide_eq_false hi]; simp
 rw [wo_agree hee hs] at hk
 obtain ⟨m, hm⟩ := List.exists_mem_of_ne_nil _ hk
 obtain ⟨h1, h2⟩ := List.mem_filter.1 hm
 rw [<- idx_filter (by omega) hb]
 exact wrong_few he ho h1 h2
theorem wo_some {p : Prs} {b : Bok} (he : (checkK p b).2.2 = 0) (hw : waysW p b (makesW p) ≠ []) {t : Nat -> Bool} (ht : ∀ i, i < 3 + b.marks.length -> t i = (bestW p b).testBit i) : agreeL p (woB b t) ≠ [] := by
 obtain ⟨hee, -, h8, -⟩ := fine_bok he
 obtain ⟨h1, h2⟩ := wrong_agree he hw
 have hs : ∀ i, (allS b - bestW p b).testBit i = (decide (i < 3 + b.marks.length) && !t i) := fun i => by
  unfold allS
  rw [off_bit h1]
  by_cases hi : i < 3 + b.marks.length
  · rw [ht i hi]
  · rw [decide_eq_false hi]; rfl
 rw [wo_agree hee hs]
 exact h2
theorem wo_none {p : Prs} {b : Bok} (he : errP p = 0) (h8 : b.marks.length <= 8) (hw : waysW p b (makesW p) = []) (t : Nat -> Bool) : agreeL p (woB b t) = [] := by
 obtain ⟨o, ho, hb⟩ := wo_set h8 (fun i => !t i)
 rw [wo_agree he hb, hw]
 rfl
theorem told_agreesW {p : Prs} {m : Mkw} (he : errP p = 0) (hm : mkwErr p m = 0) (s v : Szs) (ch : Nat) (hv : Nat -> Nat) (hh : ∀ n, hv n <= 1) (bits : Nat) (js : List Nat) (S : Nat) (hS : ∀ j, S.testBit (3 + j) = true -> bits.testBit j = false) : agreesP p (toldB p m s v ch hv bits js) S m = true := by
 obtain ⟨h1, h2, h3, h4, h5, h6⟩ := told_sizes he hm s
 have s1 := span_in (n := v.a) (k := v.b) h1.1 h1.2
 have s2 := span_in (n := v.c) (k := v.d) h2.1 h2.2
 unfold agreesP
 simp only [Bool.and_eq_true, Bool.or_eq_true]
 refine ⟨⟨⟨Or.inr ?_, Or.inr ?_⟩, Or.inr ?_⟩, List.all_eq_true.2 fun sh _ => ?_⟩
 · unfold plainB chainB2
   dsimp only [toldB]
   by_cases hc : 0 < ch % 3
   · simp only [hc, if_true]
     cases lastF (fdsB (fldsOf p m)) <;> rfl
   · simp only [hc, if_false, if_true]
 · show meetB _ _ (loI (wideI p m s) v.a) (hiI (wideI p m s) v.b) = true
   unfold meetB
   rw [Bool.and_eq_true]
   exact ⟨decide_eq_true (Int.le_trans h3 s1.2.2.1), decide_eq_true (Int.le_trans s1.2.1 h4)⟩
 · show meetB _ _ (loI (highI p m s) v.c) (hiI (highI p m s) v.d) = true
   unfold meetB
   rw [Bool.and_eq_true]
   exact ⟨decide_eq_true (Int.le_trans h5 s2.2.2.1), decide_eq_true (Int.le_trans s2.2.1 h6)⟩
 · have key : trueFrom (lvOf p m) (colsF (fdsB (fldsOf p m))) (rowsF (fdsB (fldsOf p m))) S sh (hv sh) 0 (toldB p m s v ch hv bits js).marks = true := (true_from _ _ _ _ _ _ _ _).2 fun j x hx hb => by
    obtain ⟨k, hk, rfl⟩ := told_mark hx
    rw [Nat.zero_add] at hb
    unfold untrB tellM
    simp only [Int.toNat_natCast, hS j hb, Bool.bne_false]
    split
    · rfl
    · rename_i l hl
      rw [hl]
      by_cases hs : l.sheet = sh
      · simp only [hs, decide_true, Bool.true_and, bne_self_eq_false]
      · simp [hs]
   unfold sheetB
   have := hh sh
   rcases (show hv sh = 0 ∨ hv sh = 1 by omega) with h0 | h0
   · rw [h0] at key; rw [key]; rfl
   · rw [h0] at key; rw [key, Bool.or_true]
theorem range_shift (L : Nat) (v : Nat -> Bool) : ((List.range (3 + L)).filter fun i => decide (3 <= i) && v (i - 3)).length = ((List.range L).filter v).length := by
 rw [List.range_add, List.filter_append, List.length_append, List.filter_map, List.length_map]
 have h1 : ((List.range 3).filter fun i => decide (3 <= i) && v (i - 3)) = [] := List.filter_eq_nil_iff.2 fun x hx => by
  have := List.mem_range.1 hx
  rw [decide_eq_false (by omega)]
  simp
 rw [h1, List.length_nil, Nat.zero_add]
 congr 1
 refine List.filter_congr fun x _ => ?_
 simp
theorem told_few {p : Prs} {m : Mkw} {c : Bok} {bits : Nat} (hec : (checkK p c).2.2 = 0) (hm : m ∈ waysW p c (makesW p)) (hA : ∀ S : Nat, (∀ j, S.testBit (3 + j) = true -> bits.testBit j = false) -> agreesP p c S m = true) : (idxV 11 (bestW p c).testBit).length <= ((List.range c.marks.length).filter bits.testBit).length := by
 obtain ⟨-, -, h8, -⟩ := fine_bok hec
 obtain ⟨o, ho, hb⟩ := wo_set h8 (fun i => decide (3 <= i) && bits.testBit (i - 3))
 rw [<- range_shift, <- idx_filter (by omega) hb]
 refine wrong_few hec ho hm (hA _ fun j hj => ?_)
 unfold allS at hj
 rw [off_bit ho, hb] at hj
 simp at hj
 exact hj.2.resolve_left (by have := hj.1; omega)
end
section
set_option linter.unusedSimpArgs false
set_option linter.unusedVariables false
open Go Go.RowKit
noncomputable def timesOk (ch : Nat) (x : Fds -> Nat) (f : Fds) : Bool := match evCall Tryz.prog 100000 0 80 [.lit (S (bytesF f)), .lit (.int .u8 ch)] h01 with
 | .ok (.lit (.int .i64 n), _) => decide (n = x f)
 | _ => false
theorem timesX_all : allFolds.all (timesOk 120 colsF) = true := by kernel_rfl
theorem timesY_all : allFolds.all (timesOk 121 rowsF) = true := by kernel_rfl
theorem times_of {ch : Nat} {x : Fds -> Nat} (ha : allFolds.all (timesOk ch x) = true) {f : Fds} (h1 : 1 <= f.length) (h2 : f.length <= 4) (W : World) :
  Calls Tryz.prog 80 #[S (bytesF f), .int .u8 ch] W fun en W' => en = .returned (.int .i64 (x f)) /\ Below W.heap.size W W' := by
 have hk := List.all_eq_true.1 ha f (allFolds_mem h1 h2)
 unfold timesOk at hk
 split at hk
 · rename_i n h' he
   have hn : n = x f := by simpa using hk
   subst hn
   refine (eval_lits followsT (ys := [S (bytesF f), .int .u8 ch]) (W := W) he).mono ?_
   rintro en W' ⟨v, e', rfl, hx, -, hb, -⟩
   rw [VR_lit.1 hx]
   exact ⟨rfl, hb⟩
 · cases hk
theorem refTimesX {f : Fds} (h1 : 1 <= f.length) (h2 : f.length <= 4) (W : World) :
 Calls Tryz.prog 80 #[S (bytesF f), .int .u8 120] W fun en W' => en = .returned (.int .i64 (colsF f)) /\ Below W.heap.size W W' := times_of timesX_all h1 h2 W
theorem refTimesY {f : Fds} (h1 : 1 <= f.length) (h2 : f.length <= 4) (W : World) :
 Calls Tryz.prog 80 #[S (bytesF f), .int .u8 121] W fun en W' => en = .returned (.int .i64 (rowsF f)) /\ Below W.heap.size W W' := times_of timesY_all h1 h2 W
end
section
set_option linter.unusedSimpArgs false
set_option linter.unusedVariables false
open Go Go.RowKit Go.Sort Go.BigFrame
theorem mk_at : ∀ (ms : List Mkw) (i : Nat) (m : Mkw), ms[i]? = some m -> ∀ c, c < 4 -> (mkCells ms)[i * 4 + c]? = (mkC m)[c]?
 | [], _, _, h, _, _ => by simp at h
 | y :: ys, 0, m, h, c, hc => by
   obtain rfl : y = m := by simpa using h
   unfold mkCells
   rw [List.flatMap_cons, List.getElem?_append_left (by simp; omega), Nat.zero_mul, Nat.zero_add]
 | y :: ys, i + 1, m, h, c, hc => by
   unfold mkCells
   rw [List.flatMap_cons, List.getElem?_append_right (by simp; omega)]
   have := mk_at ys i m (by simpa using h) c hc
   rw [<- this]
   unfold mkCells
   congr 1
   simp
   omega
theorem makesW_ne {p : Prs} (h1 : 1 <= p.fmts.length) (h2 : 1 <= p.pprs.length) (h3 : 1 <= p.sheets) : makesW p ≠ [] := by
 have : (⟨(0 : Nat), (0 : Nat), ((0 : Nat) : Int) + 1, ((0 : Nat) : Int) == 1⟩ : Mkw) ∈ makesW p := by
  unfold makesW mkA mkB mkC3 mkD
  simp only [List.mem_flatMap, List.mem_filter, List.mem_range]
  refine ⟨0, by omega, 0, by omega, 0, by omega, 0, by omega, List.mem_singleton.2 rfl, ?_⟩
  unfold okM mkwErr
  have e1 : inI 0 ((p.fmts.length : Int) - 1) 0 = true := by simp [inI]; omega
  have e2 : inI 0 ((p.pprs.length : Int) - 1) 0 = true := by simp [inI]; omega
  have e3 : inI 1 p.sheets 1 = true := by simp [inI]; omega
  simp [e1, e2, e3]
 intro e
 rw [e] at this
 cases this
theorem makesW_len {p : Prs} (h1 : p.fmts.length <= 6) (h2 : p.pprs.length <= 4) (h3 : p.sheets <= 4) : (makesW p).length <= 192 := by
 have := mkA_len p p.fmts.length (by omega) h2
 unfold makesW
 omega
end
section
set_option linter.unusedSimpArgs false
set_option linter.unusedVariables false
open Go Go.RowKit Go.Sort Go.BigFrame
theorem refSize_any (p : Prs) (m : Mkw) (f : Fmt) (W H : Nat) (vp : Value) (w : World) (hp : PrsAt w.heap.size w vp p) (he : errP p = 0) (hm : mkwErr p m = 0) (hf : p.fmts[m.fmt.toNat]? = some f) (hW : W <= 2000) (hH : H <= 2000) :
  Calls Tryz.prog 50 #[vp, mkwV m, .int .i64 W, .int .i64 H] w fun e w' => e = .returned (.tuple #[.int .i64 ((sizeN (lastF (fdsB f.folds)) (colsF (fdsB f.folds)) (rowsF (fdsB f.folds)) W H).1 : Nat), .int .i64 ((sizeN (lastF (fdsB f.folds)) (colsF (fdsB f.folds)) (rowsF (fdsB f.folds)) W H).2 : Nat)]) /\ Below w.heap.size w w' := by
 have FN := Lib.hid (fine_of he hm hf)
 obtain ⟨hfm0, hfm1, -, -⟩ := fine_at he hm
 obtain ⟨fv, pv, rfl, ⟨a, cap, rfl, hfc⟩, ⟨a2, cap2, rfl, -⟩, -⟩ := hp
 obtain ⟨n1, hn1⟩ : ∃ n, n = p.fmts.length := ⟨_, rfl⟩
 obtain ⟨n2, hn2⟩ : ∃ n, n = p.pprs.length := ⟨_, rfl⟩
 obtain ⟨b', off, rfl, hb', hc'⟩ := hfc (fun h => by rw [h] at hf; simp at hf)
 have q1 : w.cell? ⟨b', off + m.fmt.toNat * 2 + 1, none⟩ = some (S f.folds) := by have := hc' _ f hf 1 _ rfl; simpa using this
 rw [<- hn1] at hfm1
 rw [<- hn1, <- hn2]
 obtain ⟨D, hD⟩ : ∃ D, D = fdsB f.folds := ⟨_, rfl⟩
 have hDl : D.length = f.folds.length := by rw [hD]; unfold fdsB; simp
 have hback : bytesF D = f.folds := by rw [hD]; exact FN.out.back
 have hD1 : 1 <= D.length := by rw [hDl]; exact FN.out.len1
 have hD4 : D.length <= 4 := by rw [hDl]; exact FN.out.len4
 have hcr : (1 <= colsF D /\ colsF D <= 16) /\ (1 <= rowsF D /\ rowsF D <= 16) := by
  have h1 := pows_all D (allFolds_mem hD1 hD4)
  simp only [pows, List.mem_cons, List.not_mem_nil, or_false] at h1
  omega
 have HTX := Lib.hid (fun W => refTimesX hD1 hD4 W)
 have HTY := Lib.hid (fun W => refTimesY hD1 hD4 W)
 obtain ⟨kl, hkl, cl, hcl, hlast⟩ := bytesF_last hD1
 rw [hback] at HTX HTY hkl hlast
 rw [<- hD]
 have hzs : (⟨f.folds.toArray⟩ : ByteArray).size = kl + 1 := by rw [size_bytes, hkl]
 have hkl4 : kl < 4 := by omega
 obtain ⟨fm, pp, sh, hf7⟩ := m
 obtain ⟨fi, hfi⟩ : ∃ fi : Nat, fm = fi := ⟨fm.toNat, by dsimp only at hfm0; omega⟩
 subst hfi
 dsimp only [Int.toNat_natCast] at *
 obtain ⟨CO, hCO⟩ : ∃ c, c = colsF D := ⟨_, rfl⟩
 obtain ⟨RO, hRO⟩ : ∃ c, c = rowsF D := ⟨_, rfl⟩
 rw [<- hCO, <- hRO] at hcr ⊢
 rw [<- hCO] at HTX
 rw [<- hRO] at HTY
 obtain ⟨xa, hxa⟩ : ∃ n, n = W / CO := ⟨_, rfl⟩
 obtain ⟨xb, hxb⟩ : ∃ n, n = H / RO := ⟨_, rfl⟩
 have E1 := Lib.hid (wrap_div W CO xa hxa (by omega))
 have E2 := Lib.hid (wrap_div H RO xb hxb (by omega))
 unfold sizeN
 rw [<- hxa, <- hxb]
 obtain ⟨up, hup⟩ : ∃ u, u = lastF D := ⟨_, rfl⟩
 rw [<- hup] at hcl ⊢
 obtain ⟨bs, hbs⟩ : ∃ bs, bs = f.folds := ⟨_, rfl⟩
 rw [<- hbs] at HTX HTY hzs hlast q1
 clear hCO hRO hD hDl hback FN hc' hf he hm hfc hn1 hn2 hxa hxb hup hbs hkl
 obtain ⟨⟨hc1, hc2⟩, ⟨hr1, hr2⟩⟩ := hcr
 have hb3 : Below w.heap.size w ((w.alloc (.cells #[.slice (some ⟨b', off, none⟩) n1 cap, .slice a2 n2 cap2, .int .i64 p.trim, .int .i64 p.sheets] 25)).alloc (.cells #[.int .i64 fi, .int .i64 pp, .int .i64 sh, .bool hf7] 50)) := by exact (by repeat (first | exact Below.refl _ _ | assumption | (refine Below.alloc ?_ ?_ _; rotate_left; · (first | omega | (simp; done) | (simp; omega) | fail)) | (refine Below.setCell ?_ ?_ _; rotate_left; · (first | omega | (simp; done) | (simp; omega) | fail)) | refine Below.drew ?_ | fail))
 have q2 := cell_later' hb3 q1
 obtain ⟨w1, hw1⟩ : ∃ w1, w1 = ((w.alloc (.cells #[.slice (some ⟨b', off, none⟩) n1 cap, .slice a2 n2 cap2, .int .i64 p.trim, .int .i64 p.sheets] 25)).alloc (.cells #[.int .i64 fi, .int .i64 pp, .int .i64 sh, .bool hf7] 50)) := ⟨_, rfl⟩
 have HB3 := Lib.hid hb3
 go_enter Tryz.func50, Tryz.ntmps50
 go_upto_region 2 with fail
 rw [<- hw1] at HB3 ⊢
 have cA : ∀ d' os, Calls Tryz.prog 80 #[S bs, .int .u8 120] (grow (redrawn w1 d') os) (fun e w'' => e = .returned (.int .i64 CO) /\ ∃ p : Regrown, w'' = grow (redrawn w1 p.d) p.os) := fun d' os => Calls.regrown_of (HTX.out _)
 have cB : ∀ d' os, Calls Tryz.prog 80 #[S bs, .int .u8 121] (grow (redrawn w1 d') os) (fun e w'' => e = .returned (.int .i64 RO) /\ ∃ p : Regrown, w'' = grow (redrawn w1 p.d) p.os) := fun d' os => Calls.regrown_of (HTY.out _)
 clear hb3 q1 q2 hw1
 refine wp_region_quiet_below (by kernel_rfl) (by kernel_rfl) ?_; (repeat (go_big_quiet_step (with_reducible (first | exact cA _ _ | exact cB _ _)))); refine wpQuiet_nil ?_; rintro w6 ⟨⟨d6, os6⟩, rfl⟩
 have HB6 := Lib.hid (HB3.out.trans ((below_regrown w1 d6 os6).mono HB3.out.size))
 clear cA cB HB3
 dsimp only
 generalize grow (redrawn w1 d6) os6 = w6 at *
 rw [E1.out, E2.out]
 clear E1 E2
 cases up with
 | true =>
   go_wp2_with fail
   go_ret2
   exact ⟨rfl, HB6.out⟩
 | false =>
   go_wp2_with fail
   go_ret2
   exact ⟨rfl, HB6.out⟩
theorem among_any (lo hi : Int) (n : Nat) (w : World) (h0 : 0 <= lo) (h1 : lo <= hi) (h2 : hi <= 2000) :
  Calls Tryz.prog 51 #[.agg #[.int .i64 lo, .int .i64 hi], .int .i64 n] w fun e w' => e = .returned (.int .i64 (amongI lo hi n)) /\ Below w.heap.size w w' := by
 have hin := among_in h1 n
 obtain ⟨r, hr⟩ : ∃ r, r = (n : Int) % (hi - lo + 1) := ⟨_, rfl⟩
 have hr1 := Int.emod_nonneg (n : Int) (show hi - lo + 1 ≠ 0 by omega)
 have hr2 := Int.emod_lt_of_pos (n : Int) (show 0 < hi - lo + 1 by omega)
 rw [<- hr] at hr1 hr2
 have e : amongI lo hi n = lo + r := by unfold amongI; rw [hr]
 rw [e] at hin ⊢
 obtain ⟨w1, hw1⟩ : ∃ w1, w1 = w.alloc (.cells #[.int .i64 lo, .int .i64 hi] 27) := ⟨_, rfl⟩
 have hb1 : Below w.heap.size w w1 := by rw [hw1]; exact (by repeat (first | exact Below.refl _ _ | assumption | (refine Below.alloc ?_ ?_ _; rotate_left; · (first | omega | (simp; done) | (simp; omega) | fail)) | (refine Below.setCell ?_ ?_ _; rotate_left; · (first | omega | (simp; done) | (simp; omega) | fail)) | refine Below.drew ?_ | fail))
 have x1 : w1.heap[w.heap.size]? = some (.cells #[.int .i64 lo, .int .i64 hi] 27 (0, 0)) := by rw [hw1]; exact (by repeat (first | exact heap_alloc_at _ _ _ (by (first | omega | (simp; done) | (simp; omega) | (simp at *; omega) | fail)) | assumption | rw [heap_alloc_past _ _ _ (by (first | omega | (simp; done) | (simp; omega) | (simp at *; omega) | fail))] | rw [heap_setCell_past _ _ _ _ (by (first | omega | (simp; done) | (simp; omega) | (simp at *; omega) | fail))] | fail))
 have c0 := blk_cell x1 0
 have c1 := blk_cell x1 1
 have hne : (hi - lo + 1 == 0) = false := by simp; omega
 have hne2 : ¬ hi - lo + 1 = 0 := by omega
 have HB1 := Lib.hid hb1
 have hr' : (n : Int) % (hi - lo + 1) = r := hr.symm
 clear e hr hb1 x1
 go_enter Tryz.func51, Tryz.ntmps51
 go_wp2_with fail
 rw [<- hw1]
 clear hw1
 go_quiet (fail)
 go_wp2_with fail
 go_ret
 exact ⟨rfl, bdrewN HB1.out _⟩
theorem Made3_any (p : Prs) (vp : Value) (n : Nat) (w : World) (hp : PrsAt w.heap.size w vp p) (he : errP p = 0) (hn : n < 65536) :
  Calls Tryz.prog 48 #[vp, .int .i64 n] w fun e w' => (∃ m, e = .returned (mkwV m) /\ m ∈ makesW p) /\ Below w.heap.size w w' := by
 obtain ⟨⟨f1, f2⟩, ⟨f3, f4⟩, ⟨f5, f6⟩, -⟩ := fine_press he
 have hne := makesW_ne f1 f3 f5
 have hln := makesW_len f2 f4 f6
 have HP := Lib.hid hp
 have HE := Lib.hid he
 obtain ⟨fv, pv, rfl, ⟨a, cap, rfl, -⟩, ⟨a2, cap2, rfl, -⟩, -⟩ := hp
 obtain ⟨n1, hn1⟩ : ∃ n, n = p.fmts.length := ⟨_, rfl⟩
 obtain ⟨n2, hn2⟩ : ∃ n, n = p.pprs.length := ⟨_, rfl⟩
 rw [<- hn1, <- hn2] at HP ⊢
 clear hn1 hn2 he f1 f2 f3 f4 f5 f6
 obtain ⟨k, hk⟩ : ∃ k, (makesW p).length = k + 1 := ⟨(makesW p).length - 1, by cases h : makesW p with | nil => exact absurd h hne | cons _ _ => simp⟩
 rw [hk] at hln
 have HK := Lib.hid hk
 have hlt : n % (k + 1) < k + 1 := Nat.mod_lt _ (by omega)
 obtain ⟨m, hm⟩ : ∃ m, (makesW p)[n % (k + 1)]? = some m := ⟨_, List.getElem?_eq_getElem (by rw [hk]; exact hlt)⟩
 have HM := Lib.hid hm
 clear hk hm hne
 go_enter Tryz.func48, Tryz.ntmps48
 go_wp2_with fail
 have hp0 : Below w.heap.size w ((w.alloc (.cells #[.slice a n1 cap, .slice a2 n2 cap2, .int .i64 p.trim, .int .i64 p.sheets] 25)).alloc (.cells #[.int .i64 0, .int .i64 0, .int .i64 0, .bool false] 50)) := by exact (by repeat (first | exact Below.refl _ _ | assumption | (refine Below.alloc ?_ ?_ _; rotate_left; · (first | omega | (simp; done) | (simp; omega) | fail)) | (refine Below.setCell ?_ ?_ _; rotate_left; · (first | omega | (simp; done) | (simp; omega) | fail)) | refine Below.drew ?_ | fail))
 have bR : ((w.alloc (.cells #[.slice a n1 cap, .slice a2 n2 cap2, .int .i64 p.trim, .int .i64 p.sheets] 25)).alloc (.cells #[.int .i64 0, .int .i64 0, .int .i64 0, .bool false] 50)).heap[w.heap.size + 1]? = some (.cells #[.int .i64 0, .int .i64 0, .int .i64 0, .bool false] 50 (0, 0)) := by exact (by repeat (first | exact heap_alloc_at _ _ _ (by (first | omega | (simp; done) | (simp; omega) | (simp at *; omega) | fail)) | assumption | rw [heap_alloc_past _ _ _ (by (first | omega | (simp; done) | (simp; omega) | (simp at *; omega) | fail))] | rw [heap_setCell_past _ _ _ _ (by (first | omega | (simp; done) | (simp; omega) | (simp at *; omega) | fail))] | fail))
 refine (refMakes2_any p _ _ (HP.out.later hp0) HE.out).mono ?_
 rintro e w2 ⟨⟨v', rfl, hr⟩, hb⟩
 rw [HK.out] at hr
 have HR := Lib.hid hr
 rcases hr.2 with ⟨rfl, h0⟩ | ⟨g, cap', cur, rfl, hgb, hg, rest⟩
 · exact absurd h0 (by omega)
 have hc := HR.out.cells (g := g) (by simp [Value.ownBlock])
 have key : ∀ c u, c < 4 -> (mkC m)[c]? = some u -> w2.cell? ⟨g, n % (k + 1) * 4 + c, none⟩ = some u := fun c u hc4 hu => by
  have := hc (n % (k + 1) * 4 + c) u (by rw [mk_at _ _ _ HM.out c hc4]; exact hu)
  rwa [add_offi] at this
 have q0 : w2.cell? ⟨g, n % (k + 1) * 4, none⟩ = some (.int .i64 m.fmt) := key 0 _ (by omega) rfl
 have q1 := key 1 _ (by omega) rfl
 have q2 := key 2 _ (by omega) rfl
 have q3 := key 3 _ (by omega) rfl
 have bR := blk_later hb bR
 have d0 := blk_cell bR 0
 have d1 := blk_cell bR 1
 have d2 := blk_cell bR 2
 have d3 := blk_cell bR 3
 have z0 := blk_free bR 0
 have z1 := blk_free bR 1
 have z2 := blk_free bR 2
 have z3 := blk_free bR 3
 have hb2 := hp0.trans (hb.mono hp0.size)
 have hsz := blk_lt bR
 clear key hc rest hg hb hp0 hr hgb
 have i1 : (n : Int) % ((k : Int) + 1) < (k : Int) + 1 := Int.emod_lt_of_pos _ (by omega)
 have i2 : 0 <= (n : Int) % ((k : Int) + 1) := Int.emod_nonneg _ (by omega)
 go_wp2_with fail
 have hb3 : Below w.heap.size w ((((w2.setCell ⟨w.heap.size + 1, 0, none⟩ (.int .i64 m.fmt)).setCell ⟨w.heap.size + 1, 1, none⟩ (.int .i64 m.ppr)).setCell ⟨w.heap.size + 1, 2, none⟩ (.int .i64 m.sheets)).setCell ⟨w.heap.size + 1, 3, none⟩ (.bool m.half)) := by exact (by repeat (first | (refine Below.setCell ?_ ?_ _; rotate_left; · (first | omega | (simp; done) | (simp; omega) | fail)) | (refine Below.alloc ?_ ?_ _; rotate_left; · (first | omega | (simp; done) | (simp; omega) | fail)) | refine Below.drew ?_ | exact hb2 | fail))
 have c3 : ((((w2.setCell ⟨w.heap.size + 1, 0, none⟩ (.int .i64 m.fmt)).setCell ⟨w.heap.size + 1, 1, none⟩ (.int .i64 m.ppr)).setCell ⟨w.heap.size + 1, 2, none⟩ (.int .i64 m.sheets)).setCell ⟨w.heap.size + 1, 3, none⟩ (.bool m.half)).heap[w.heap.size + 1]? = some (.cells #[.int .i64 m.fmt, .int .i64 m.ppr, .int .i64 m.sheets, .bool m.half] 50 (0, 0)) := by
  simpa using blk_set (blk_set (blk_set (blk_set bR 0 (.int .i64 m.fmt)) 1 (.int .i64 m.ppr)) 2 (.int .i64 m.sheets)) 3 (.bool m.half)
 have e0 := blk_cell c3 0
 have e1 := blk_cell c3 1
 have e2 := blk_cell c3 2
 have e3 := blk_cell c3 3
 revert hb3 c3 e0 e1 e2 e3
 generalize ((((w2.setCell ⟨w.heap.size + 1, 0, none⟩ (.int .i64 m.fmt)).setCell ⟨w.heap.size + 1, 1, none⟩ (.int .i64 m.ppr)).setCell ⟨w.heap.size + 1, 2, none⟩ (.int .i64 m.sheets)).setCell ⟨w.heap.size + 1, 3, none⟩ (.bool m.half)) = w4
 intro hb3 c3 e0 e1 e2 e3
 exact bodyPost_ret (v := mkwV m) (by simp [results, Tryz.results48, go_sem, e0, e1, e2, e3]) rfl ⟨⟨m, rfl, List.mem_of_getElem? HM.out⟩, hb3⟩
end
end Go.Proofs.YtpdhdgdbknnllaaGreatDoor
