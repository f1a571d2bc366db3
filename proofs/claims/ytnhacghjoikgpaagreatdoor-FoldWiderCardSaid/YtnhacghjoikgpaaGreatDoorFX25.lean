/- The parts Fv, Fs, Fw, Fz, Hc of the proof, joined. It holds without conditions of its own. -/
import Derived.Test.YtnhacghjoikgpaaGreatDoorFX24
import Derived.Test.YtnhacghjoikgpaaGreatDoorFX21
import Derived.Test.YtnhacghjoikgpaaGreatDoorFX23
/- The list of a set of pieces, in memory. -/
namespace Go.Proofs.YtnhacghjoikgpaaGreatDoor
set_option linter.unusedSimpArgs false
set_option linter.unusedVariables false
open Go Go.RowKit Go.Sort Go.BigFrame

theorem SetList_any (s : Nat) (hs : s < 2048) (W : World) (t : TypeId) (hW : W.heap[0]? = some (.cells tabL.toArray t (0, 0))) :
    Calls Tryz.prog 73 #[.int .u64 s] W fun e w' => (∃ v, e = .returned v ∧ IntsAt w' v ((idxV 11 s.testBit).map fun (n : Nat) => (n : Int))) ∧ Below W.heap.size W w' := by
  have h := lists_all t hs
  unfold listOk at h
  split at h
  · rename_i h' he
    refine (eval_tab followsT (ys := [.int .u64 (s : Int)]) hW he).mono ?_
    rintro en W' ⟨x, e', rfl, hx, -, hb⟩
    have h0 := Nat.eq_of_beq_eq_true h
    subst h0
    rw [VR_lit.1 hx]
    have e : idxV 11 (Nat.testBit 0) = [] := by decide +kernel
    refine ⟨⟨_, rfl, none, 0, ?_, fun hne => ?_⟩, hb⟩
    · rw [e]; rfl
    · rw [e] at hne; exact absurd rfl hne
  · rename_i b n cap h' he
    split at h
    · rename_i cs ty hg
      simp only [Bool.and_eq_true] at h
      obtain ⟨⟨k3, k4⟩, k5⟩ := h
      have t3 : n = (idxV 11 s.testBit).length := Nat.eq_of_beq_eq_true k3
      have t4 : n ≤ cs.length := Nat.le_of_ble_eq_true k4
      have t5 : cs.take n = (intVs (idxV 11 s.testBit)).map .lit := sameC_ok _ _ k5
      refine (eval_tab followsT (ys := [.int .u64 (s : Int)]) hW he).mono ?_
      rintro en W' ⟨x, e', rfl, hx, hr, hb⟩
      obtain ⟨hd, rfl⟩ := VR_slc.1 hx
      obtain ⟨-, o, ho, l, rest, rfl, hl, hrest⟩ := hr.at_ b _ hg
      have hlen := VRs_len hl
      have hl1 : l.take n = intVs (idxV 11 s.testBit) := by
        refine VRs_lits_eq (e := e') ?_
        rw [← t5]
        have key : ∀ (k : Nat) (cs : List V) (l : List Value), VRs e' cs l → VRs e' (cs.take k) (l.take k) := fun k => by
          induction k with
          | zero => intro cs l h; exact VRs_nil.2 rfl
          | succ k ih =>
            intro cs l h
            cases cs with
            | nil => rw [VRs_nil.1 h]; exact VRs_nil.2 rfl
            | cons c cs =>
              obtain ⟨x, xs, rfl, h1, h2⟩ := VRs_cons.1 h
              exact VRs_cons.2 ⟨x, _, rfl, h1, ih _ _ h2⟩
        exact key _ _ _ hl
      refine ⟨⟨_, rfl, some ⟨e'.σ b, 0, none⟩, _, by rw [List.length_map, ← t3], fun _ => ⟨e'.σ b, rfl, blk_lt ho, fun i x hx => ?_⟩⟩, hb⟩
      rw [blk_cell ho, List.getElem?_toArray]
      obtain ⟨m, hm, rfl⟩ : ∃ m, (idxV 11 s.testBit)[i]? = some m ∧ (m : Int) = x := by
        rw [List.getElem?_map, Option.map_eq_some_iff] at hx
        exact hx
      have hi : i < n := by rw [t3]; exact (List.getElem?_eq_some_iff.1 hm).1
      rw [List.getElem?_append_left (by omega), ← List.getElem?_take_of_lt hi, hl1]
      unfold intVs
      rw [List.getElem?_map, hm]
      rfl
    · cases h
  · cases h
end Go.Proofs.YtnhacghjoikgpaaGreatDoor

/- Agree of a gathering with an error. -/
namespace Go.Proofs.YtnhacghjoikgpaaGreatDoor
set_option linter.unusedSimpArgs false
set_option linter.unusedVariables false
open Go Go.RowKit Go.Sort Go.BigFrame
attribute [local go_sem] Oper.semAt_some putAll

set_option maxRecDepth 100000 in
set_option maxHeartbeats 4000000 in
theorem Agree_bad (p : Prs) (b : Bok) (vp mv : Value) (w : World) (hp : PrsAt w.heap.size w vp p) (hb : RowsAt 2 mrkV w.heap.size w mv b.marks) (he : (checkK p b).2.2 ≠ 0) :
    Calls Tryz.prog 8 #[vp, .agg #[.int .i64 b.leaves, .int .i64 b.chain, .int .i64 b.wlo, .int .i64 b.whi, .int .i64 b.hlo, .int .i64 b.hhi, mv]] w fun e w' => e = .returned (.tuple #[.slice none 0 0, .int .i64 (checkK p b).2.2]) ∧ Below w.heap.size w w' := by
  have HOC := Lib.hid (fun W (h1 : PrsAt W.heap.size W vp p) (h2 : RowsAt 2 mrkV W.heap.size W mv b.marks) => openCase_bad p b vp mv W h1 h2 he)
  have HP := Lib.hid hp
  have HM := Lib.hid hb
  obtain ⟨ek, hek⟩ : ∃ e, e = (checkK p b).2.2 := ⟨_, rfl⟩
  rw [← hek] at he HOC ⊢
  have hne : (ek != 0) = true := by simp [he]
  obtain ⟨fv, pv, rfl, ⟨fa, fcap, rfl, -⟩, ⟨pa, pcap, rfl, -⟩, -⟩ := hp
  obtain ⟨ma, mcap, rfl, -⟩ := hb
  obtain ⟨n1, hn1⟩ : ∃ n, n = p.fmts.length := ⟨_, rfl⟩
  obtain ⟨n2, hn2⟩ : ∃ n, n = p.pprs.length := ⟨_, rfl⟩
  obtain ⟨n3, hn3⟩ : ∃ n, n = b.marks.length := ⟨_, rfl⟩
  rw [← hn1, ← hn2] at HP HOC ⊢
  rw [← hn3] at HM HOC ⊢
  clear he hek hn1 hn2 hn3
  go_enter Tryz.func8, Tryz.ntmps8
  go_wp2_with fail
  have hb0 : Below w.heap.size w ((w.alloc (.cells #[.slice fa n1 fcap, .slice pa n2 pcap, .int .i64 p.trim, .int .i64 p.sheets] 25)).alloc (.cells #[.int .i64 b.leaves, .int .i64 b.chain, .int .i64 b.wlo, .int .i64 b.whi, .int .i64 b.hlo, .int .i64 b.hhi, .slice ma n3 mcap] 30)) := by exact (by repeat (first | exact Below.refl _ _ | assumption | (refine Below.alloc ?_ ?_ _; rotate_left; · (first | omega | (simp; done) | (simp; omega) | fail)) | (refine Below.setCell ?_ ?_ _; rotate_left; · (first | omega | (simp; done) | (simp; omega) | fail)) | refine Below.drew ?_ | fail))
  revert hb0
  generalize ((w.alloc (.cells #[.slice fa n1 fcap, .slice pa n2 pcap, .int .i64 p.trim, .int .i64 p.sheets] 25)).alloc (.cells #[.int .i64 b.leaves, .int .i64 b.chain, .int .i64 b.wlo, .int .i64 b.whi, .int .i64 b.hlo, .int .i64 b.hhi, .slice ma n3 mcap] 30)) = w0
  intro hb0
  refine (HOC.out _ (HP.out.later hb0) (HM.out.later hb0)).mono ?_
  rintro e w1 ⟨rfl, hb1⟩
  have hb2 := hb0.trans (hb1.mono hb0.size)
  have hs1 := hb2.size
  clear hb0 hb1 HOC
  go_wp2_with fail
  go_ret2
  exact ⟨rfl, by exact (by repeat (first | (refine Below.setCell ?_ ?_ _; rotate_left; · (first | omega | (simp; done) | (simp; omega) | fail)) | (refine Below.alloc ?_ ?_ _; rotate_left; · (first | omega | (simp; done) | (simp; omega) | fail)) | refine Below.drew ?_ | exact hb2 | fail))⟩
end Go.Proofs.YtnhacghjoikgpaaGreatDoor

/- The fewest pieces of evidence that can be wrong: Wrong. -/
namespace Go.Proofs.YtnhacghjoikgpaaGreatDoor
set_option linter.unusedSimpArgs false
set_option linter.unusedVariables false
open Go Go.RowKit Go.Sort Go.BigFrame
attribute [local go_sem] Oper.semAt_some putAll

/-- The fewest pieces, as a set. -/
def bestW (p : Prs) (b : Bok) : Nat := bestTo (fun s => ((waysW p b (makesW p)).filter (agreesP p b s)) != []) (allS b) (allS b)
theorem wz_fst (ys : List Wz) : (ys.map wz).map (·.1) = ys.map (·.1) := by rw [List.map_map]; rfl
theorem filter_none {p : Prs} {b : Bok} {s : Nat} (ys : List Wz) : ((ys.filter fun y => agreesP p b s y.1) != []) = (((ys.map (·.1)).filter (agreesP p b s)) != []) := by
  rw [← agree_take p b (agreesP p b s) ys]
  cases ys.filter fun y => agreesP p b s y.1 <;> rfl
set_option maxRecDepth 100000 in
set_option maxHeartbeats 8000000 in
theorem Wrong_good (p : Prs) (b : Bok) (vp mv : Value) (w : World) (t : TypeId) (hp : PrsAt w.heap.size w vp p) (hb : RowsAt 2 mrkV w.heap.size w mv b.marks) (he : (checkK p b).2.2 = 0) (hW : w.heap[0]? = some (.cells tabL.toArray t (0, 0))) :
    Calls Tryz.prog 14 #[vp, .agg #[.int .i64 b.leaves, .int .i64 b.chain, .int .i64 b.wlo, .int .i64 b.whi, .int .i64 b.hlo, .int .i64 b.hhi, mv]] w fun e w' =>
      ((waysW p b (makesW p) = [] ∧ e = .returned (.tuple #[.slice none 0 0, .int .i64 9])) ∨ (waysW p b (makesW p) ≠ [] ∧ ∃ v, e = .returned (.tuple #[v, .int .i64 0]) ∧ IntsAt w' v ((idxV 11 (bestW p b).testBit).map fun (n : Nat) => (n : Int)))) ∧ Below w.heap.size w w' := by
  obtain ⟨hee, hbl, hm8, -⟩ := fine_bok he
  have hlenM : (waysW p b (makesW p)).length ≤ 192 := by
    obtain ⟨-, ⟨f3, f4⟩, ⟨f5, f6⟩, -⟩ := fine_press hee
    obtain ⟨⟨f1, f2⟩, -⟩ := fine_press hee
    have h1 := mkA_len p p.fmts.length (by omega) (by omega)
    have h2 : (waysW p b (makesW p)).length ≤ (makesW p).length := List.length_filter_le _ _
    unfold makesW at h2 ⊢
    omega
  have HOC := Lib.hid (fun W (h1 : PrsAt W.heap.size W vp p) (h2 : RowsAt 2 mrkV W.heap.size W mv b.marks) => openCase_any p b vp mv W h1 h2 he)
  have HP := Lib.hid hp
  have HM := Lib.hid hb
  have HEK := Lib.hid he
  have HLM := Lib.hid hlenM
  have HW := Lib.hid hW
  obtain ⟨fv, pv, rfl, ⟨fa, fcap, rfl, -⟩, ⟨pa, pcap, rfl, -⟩, -⟩ := hp
  obtain ⟨ma, mcap, rfl, -⟩ := hb
  obtain ⟨n1, hn1⟩ : ∃ n, n = p.fmts.length := ⟨_, rfl⟩
  obtain ⟨n2, hn2⟩ : ∃ n, n = p.pprs.length := ⟨_, rfl⟩
  obtain ⟨n3, hn3⟩ : ∃ n, n = b.marks.length := ⟨_, rfl⟩
  have HN3 := Lib.hid hn3
  rw [← hn1, ← hn2] at HP HOC ⊢
  rw [← hn3] at HM HOC hm8 ⊢
  clear he hee hbl hlenM hn1 hn2 hn3 hW
  go_enter Tryz.func14, Tryz.ntmps14
  go_wp2_with fail
  have hb0 : Below w.heap.size w ((w.alloc (.cells #[.slice fa n1 fcap, .slice pa n2 pcap, .int .i64 p.trim, .int .i64 p.sheets] 25)).alloc (.cells #[.int .i64 b.leaves, .int .i64 b.chain, .int .i64 b.wlo, .int .i64 b.whi, .int .i64 b.hlo, .int .i64 b.hhi, .slice ma n3 mcap] 30)) := by exact (by repeat (first | exact Below.refl _ _ | assumption | (refine Below.alloc ?_ ?_ _; rotate_left; · (first | omega | (simp; done) | (simp; omega) | fail)) | (refine Below.setCell ?_ ?_ _; rotate_left; · (first | omega | (simp; done) | (simp; omega) | fail)) | refine Below.drew ?_ | fail))
  revert hb0
  generalize ((w.alloc (.cells #[.slice fa n1 fcap, .slice pa n2 pcap, .int .i64 p.trim, .int .i64 p.sheets] 25)).alloc (.cells #[.int .i64 b.leaves, .int .i64 b.chain, .int .i64 b.wlo, .int .i64 b.whi, .int .i64 b.hlo, .int .i64 b.hhi, .slice ma n3 mcap] 30)) = w0
  intro hb0
  refine (HOC.out _ (HP.out.later hb0) (HM.out.later hb0)).mono ?_
  rintro e w1 ⟨⟨wv, rfl, hwy⟩, hb1⟩
  have hb2 := hb0.trans (hb1.mono hb0.size)
  obtain ⟨zs, hz1, hz2, hz3⟩ := hwy
  obtain ⟨ys, rfl⟩ := wz_all zs (fun z hz => by
    obtain ⟨g, ⟨k, rest, e, -⟩, -⟩ := hz3 z hz
    exact ⟨_, _, _, e⟩)
  have hzl : (waysW p b (makesW p)).length = ys.length := by rw [← hz1]; simp
  obtain ⟨va, vc, rfl⟩ : ∃ a c, wv = Value.slice a ys.length c := by
    rcases hz2.2 with ⟨rfl, h0⟩ | ⟨g, cap, cur, rfl, -⟩
    · exact ⟨_, _, by rw [← hzl, h0]⟩
    · exact ⟨_, _, by rw [← hzl]⟩
  have hsn : SnAt w1 p b (.slice ma n3 mcap) (.slice va ys.length vc) ys := ⟨by rw [← wz_fst]; exact hz1, by rw [← hzl]; exact row_mono (by rw [← hzl] at hz2; exact hz2) (Nat.zero_le _), fun z hz => by
      obtain ⟨g, hl, -⟩ := hz3 z hz
      exact ⟨g, hl⟩, HM.out.later hb2, by have := HLM.out; omega⟩
  have HSN := Lib.hid hsn
  have HB2 := Lib.hid hb2
  have HZL := Lib.hid hzl
  have HZ1 := Lib.hid hz1
  have hs1 := hb2.size
  obtain ⟨vn, hvn⟩ : ∃ n, n = ys.length := ⟨_, rfl⟩
  have HVN := Lib.hid hvn
  rw [← hvn] at HSN ⊢
  clear hz1 hz2 hz3 hb0 hb1 hb2 HOC hsn hzl hvn
  by_cases h0 : vn = 0
  · subst h0
    have he0 : waysW p b (makesW p) = [] := List.length_eq_zero_iff.1 (by rw [HZL.out, ← HVN.out])
    have HE0 := Lib.hid he0
    clear he0
    go_wp2_with fail
    go_ret2
    exact ⟨Or.inl ⟨HE0.out, rfl⟩, by exact (by repeat (first | (refine Below.setCell ?_ ?_ _; rotate_left; · (first | omega | (simp; done) | (simp; omega) | fail)) | (refine Below.alloc ?_ ?_ _; rotate_left; · (first | omega | (simp; done) | (simp; omega) | fail)) | refine Below.drew ?_ | exact HB2.out | fail))⟩
  · have hne : ((vn : Int) == 0) = false := by simp; omega
    have HNE : Hid (waysW p b (makesW p) ≠ []) := Lib.hid (fun h => h0 (by rw [HVN.out, ← HZL.out, h]; rfl))
    clear h0
    go_wp2_with fail
    have hba : Below w1.heap.size w1 (w1.alloc (.cells #[.int .i64 b.leaves, .int .i64 b.chain, .int .i64 b.wlo, .int .i64 b.whi, .int .i64 b.hlo, .int .i64 b.hhi, .slice ma n3 mcap, .slice va vn vc] 72)) := (Below.refl _ _).alloc (Nat.le_refl _) _
    have hbx : Below w.heap.size w (w1.alloc (.cells #[.int .i64 b.leaves, .int .i64 b.chain, .int .i64 b.wlo, .int .i64 b.whi, .int .i64 b.hlo, .int .i64 b.hhi, .slice ma n3 mcap, .slice va vn vc] 72)) := HB2.out.trans (hba.mono HB2.out.size)
    refine (wrong_any p b ma n3 mcap va vn vc ys _ (HSN.out.later hba) HEK.out hm8 (fun s W v w' => IntsAt w' v ((idxV 11 s.testBit).map fun (n : Nat) => (n : Int))) (fun s W hs hb => SetList_any s hs W t (blk_later (hbx.trans (hb.mono hbx.size)) HW.out))).mono ?_
    rintro e w3 ⟨⟨W, v, -, rfl, hr⟩, hb3⟩
    have hr2 : IntsAt w3 v ((idxV 11 (bestW p b).testBit).map fun (n : Nat) => (n : Int)) := by
      have e : bestTo (fun s => (ys.filter fun y => agreesP p b s y.1) != []) (2 ^ (3 + n3) - 1) (2 ^ (3 + n3) - 1) = bestW p b := by
        unfold bestW allS
        rw [← HN3.out]
        congr 1
        funext s
        rw [filter_none, ← wz_fst, HZ1.out]
      rw [e] at hr
      exact hr
    have HR2 := Lib.hid hr2
    have HB3 := Lib.hid (hbx.trans (hb3.mono hbx.size))
    clear hr hr2 hb3 hba hbx
    go_wp2_with fail
    go_ret2
    exact ⟨Or.inr ⟨HNE.out, _, rfl, HR2.out⟩, HB3.out⟩
set_option maxRecDepth 100000 in
set_option maxHeartbeats 4000000 in
theorem Wrong_bad (p : Prs) (b : Bok) (vp mv : Value) (w : World) (hp : PrsAt w.heap.size w vp p) (hb : RowsAt 2 mrkV w.heap.size w mv b.marks) (he : (checkK p b).2.2 ≠ 0) :
    Calls Tryz.prog 14 #[vp, .agg #[.int .i64 b.leaves, .int .i64 b.chain, .int .i64 b.wlo, .int .i64 b.whi, .int .i64 b.hlo, .int .i64 b.hhi, mv]] w fun e w' => e = .returned (.tuple #[.slice none 0 0, .int .i64 (checkK p b).2.2]) ∧ Below w.heap.size w w' := by
  have HOC := Lib.hid (fun W (h1 : PrsAt W.heap.size W vp p) (h2 : RowsAt 2 mrkV W.heap.size W mv b.marks) => openCase_bad p b vp mv W h1 h2 he)
  have HP := Lib.hid hp
  have HM := Lib.hid hb
  obtain ⟨ek, hek⟩ : ∃ e, e = (checkK p b).2.2 := ⟨_, rfl⟩
  rw [← hek] at he HOC ⊢
  have hne : (ek != 0) = true := by simp [he]
  obtain ⟨fv, pv, rfl, ⟨fa, fcap, rfl, -⟩, ⟨pa, pcap, rfl, -⟩, -⟩ := hp
  obtain ⟨ma, mcap, rfl, -⟩ := hb
  obtain ⟨n1, hn1⟩ : ∃ n, n = p.fmts.length := ⟨_, rfl⟩
  obtain ⟨n2, hn2⟩ : ∃ n, n = p.pprs.length := ⟨_, rfl⟩
  obtain ⟨n3, hn3⟩ : ∃ n, n = b.marks.length := ⟨_, rfl⟩
  rw [← hn1, ← hn2] at HP HOC ⊢
  rw [← hn3] at HM HOC ⊢
  clear he hek hn1 hn2 hn3
  go_enter Tryz.func14, Tryz.ntmps14
  go_wp2_with fail
  have hb0 : Below w.heap.size w ((w.alloc (.cells #[.slice fa n1 fcap, .slice pa n2 pcap, .int .i64 p.trim, .int .i64 p.sheets] 25)).alloc (.cells #[.int .i64 b.leaves, .int .i64 b.chain, .int .i64 b.wlo, .int .i64 b.whi, .int .i64 b.hlo, .int .i64 b.hhi, .slice ma n3 mcap] 30)) := by exact (by repeat (first | exact Below.refl _ _ | assumption | (refine Below.alloc ?_ ?_ _; rotate_left; · (first | omega | (simp; done) | (simp; omega) | fail)) | (refine Below.setCell ?_ ?_ _; rotate_left; · (first | omega | (simp; done) | (simp; omega) | fail)) | refine Below.drew ?_ | fail))
  revert hb0
  generalize ((w.alloc (.cells #[.slice fa n1 fcap, .slice pa n2 pcap, .int .i64 p.trim, .int .i64 p.sheets] 25)).alloc (.cells #[.int .i64 b.leaves, .int .i64 b.chain, .int .i64 b.wlo, .int .i64 b.whi, .int .i64 b.hlo, .int .i64 b.hhi, .slice ma n3 mcap] 30)) = w0
  intro hb0
  refine (HOC.out _ (HP.out.later hb0) (HM.out.later hb0)).mono ?_
  rintro e w1 ⟨rfl, hb1⟩
  have hb2 := hb0.trans (hb1.mono hb0.size)
  have hs1 := hb2.size
  clear hb0 hb1 HOC
  go_wp2_with fail
  go_ret2
  exact ⟨rfl, by exact (by repeat (first | (refine Below.setCell ?_ ?_ _; rotate_left; · (first | omega | (simp; done) | (simp; omega) | fail)) | (refine Below.alloc ?_ ?_ _; rotate_left; · (first | omega | (simp; done) | (simp; omega) | fail)) | refine Below.drew ?_ | exact hb2 | fail))⟩
end Go.Proofs.YtnhacghjoikgpaaGreatDoor

/- Plain: with a greater trim, wider papers and wider spans each way of making that agreed still does. -/
namespace Go.Proofs.YtnhacghjoikgpaaGreatDoor
set_option linter.unusedSimpArgs false
set_option linter.unusedVariables false

/-- A press and what is seen, wider. -/
structure Wider (p p' : Prs) (b b' : Bok) : Prop where
  fmts : p'.fmts = p.fmts
  sheets : p'.sheets = p.sheets
  num : p'.pprs.length = p.pprs.length
  ppr : ∀ (i : Nat) (q : Ppr), p.pprs[i]? = some q → ∃ q' : Ppr, p'.pprs[i]? = some q' ∧ q'.wlo ≤ q.wlo ∧ q.whi ≤ q'.whi ∧ q'.hlo ≤ q.hlo ∧ q.hhi ≤ q'.hhi
  trim : p.trim ≤ p'.trim
  leaves : b'.leaves = b.leaves
  chain : b'.chain = b.chain
  marks : b'.marks = b.marks
  wide : b'.wlo ≤ b.wlo ∧ b.whi ≤ b'.whi
  high : b'.hlo ≤ b.hlo ∧ b.hhi ≤ b'.hhi
theorem meet_wider {a b c d a' b' c' d' : Int} (h1 : a' ≤ a) (h2 : b ≤ b') (h3 : c' ≤ c) (h4 : d ≤ d') (h : meetB a b c d = true) : meetB a' b' c' d' = true := by
  unfold meetB at h ⊢
  rw [Bool.and_eq_true] at h ⊢
  exact ⟨decide_eq_true (by have := of_decide_eq_true h.1; omega), decide_eq_true (by have := of_decide_eq_true h.2; omega)⟩
theorem sizes_wider {a b c d a' b' c' d' co ro : Nat} {up : Bool} {tr tr' : Int} (h1 : a' ≤ a) (h2 : b ≤ b') (h3 : c' ≤ c) (h4 : d ≤ d') (h5 : tr ≤ tr') :
    (sizesF a' b' c' d' co ro up tr').1 ≤ (sizesF a b c d co ro up tr).1 ∧ (sizesF a b c d co ro up tr).2.1 ≤ (sizesF a' b' c' d' co ro up tr').2.1 ∧ (sizesF a' b' c' d' co ro up tr').2.2.1 ≤ (sizesF a b c d co ro up tr).2.2.1 ∧ (sizesF a b c d co ro up tr).2.2.2 ≤ (sizesF a' b' c' d' co ro up tr').2.2.2 := by
  have k1 : ((a' / co : Nat) : Int) ≤ ((a / co : Nat) : Int) := Int.ofNat_le.2 (Nat.div_le_div_right h1)
  have k2 : ((b / co : Nat) : Int) ≤ ((b' / co : Nat) : Int) := Int.ofNat_le.2 (Nat.div_le_div_right h2)
  have k3 : ((c' / ro : Nat) : Int) ≤ ((c / ro : Nat) : Int) := Int.ofNat_le.2 (Nat.div_le_div_right h3)
  have k4 : ((d / ro : Nat) : Int) ≤ ((d' / ro : Nat) : Int) := Int.ofNat_le.2 (Nat.div_le_div_right h4)
  unfold sizesF
  cases up
  · simp only [Bool.false_eq_true, if_false]
    refine ⟨by omega, k4, by omega, k2⟩
  · simp only [if_true]
    refine ⟨by omega, k2, by omega, k4⟩
theorem Wider.flds {p p' : Prs} {b b' : Bok} (h : Wider p p' b b') (m : Mkw) : fldsOf p' m = fldsOf p m := by unfold fldsOf; rw [h.fmts]
theorem Wider.lv {p p' : Prs} {b b' : Bok} (h : Wider p p' b b') (m : Mkw) : lvOf p' m = lvOf p m := by unfold lvOf; rw [h.flds]
theorem Wider.err {p p' : Prs} {b b' : Bok} (h : Wider p p' b b') (m : Mkw) : mkwErr p' m = mkwErr p m := by unfold mkwErr; rw [h.fmts, h.num, h.sheets]
theorem Wider.makes {p p' : Prs} {b b' : Bok} (h : Wider p p' b b') : makesW p' = makesW p := by
  have e : okM p' = okM p := by funext m; unfold okM; rw [h.err]
  unfold makesW mkA mkB mkC3 mkD
  rw [h.fmts, h.num, h.sheets, e]
theorem Wider.ways {p p' : Prs} {b b' : Bok} (h : Wider p p' b b') : waysW p' b' (makesW p') = waysW p b (makesW p) := by
  unfold waysW waysP
  rw [h.makes, h.leaves]
  congr 1
  funext m
  rw [h.lv]
/-- **Wider: what agreed still does.** -/
theorem Wider.agrees {p p' : Prs} {b b' : Bok} (h : Wider p p' b b') {m : Mkw} {q : Ppr} (hq : p.pprs[m.ppr.toNat]? = some q) {s : Nat} (k : agreesP p b s m = true) : agreesP p' b' s m = true := by
  obtain ⟨q', hq', w1, w2, w3, w4⟩ := h.ppr _ _ hq
  have e1 : pprOf p m = q := by unfold pprOf; rw [hq]
  have e2 : pprOf p' m = q' := by unfold pprOf; rw [hq']
  have hs := sizes_wider (a := q.wlo.toNat) (b := q.whi.toNat) (c := q.hlo.toNat) (d := q.hhi.toNat) (a' := q'.wlo.toNat) (b' := q'.whi.toNat) (c' := q'.hlo.toNat) (d' := q'.hhi.toNat) (co := colsF (fdsB (fldsOf p m))) (ro := rowsF (fdsB (fldsOf p m))) (up := lastF (fdsB (fldsOf p m))) (by omega) (by omega) (by omega) (by omega) h.trim
  obtain ⟨s1, s2, s3, s4⟩ := hs
  have p0 : (plainB p' b' m).1 = (plainB p b m).1 := by unfold plainB chainB2; rw [h.flds, h.chain]
  have p1 : (plainB p b m).2.1 = true → (plainB p' b' m).2.1 = true := by
    unfold plainB
    rw [h.flds, e1, e2]
    exact meet_wider s1 s2 h.wide.1 h.wide.2
  have p2 : (plainB p b m).2.2 = true → (plainB p' b' m).2.2 = true := by
    unfold plainB
    rw [h.flds, e1, e2]
    exact meet_wider s3 s4 h.high.1 h.high.2
  unfold agreesP at k ⊢
  simp only [Bool.and_eq_true, Bool.or_eq_true] at k ⊢
  obtain ⟨⟨⟨k0, k1⟩, k2⟩, k3⟩ := k
  refine ⟨⟨⟨?_, k1.imp id p1⟩, k2.imp id p2⟩, ?_⟩
  · rw [p0]; exact k0
  · have e : ∀ sh, sheetB p' b' s m sh = sheetB p b s m sh := fun sh => by unfold sheetB; rw [h.lv, h.flds, h.marks]
    simp only [e]
    exact k3
theorem way_ppr {p : Prs} {b : Bok} {m : Mkw} (he : (checkK p b).2.2 = 0) (hm : m ∈ waysW p b (makesW p)) : ∃ q, p.pprs[m.ppr.toNat]? = some q := by
  obtain ⟨h0, -, -, -⟩ := fine_bok he
  obtain ⟨hm1, -⟩ := List.mem_filter.1 hm
  obtain ⟨-, -, -, a4⟩ := fine_at h0 (makes_ok hm1)
  exact ⟨_, List.getElem?_eq_getElem a4⟩
theorem Wider.agree {p p' : Prs} {b b' : Bok} (h : Wider p p' b b') (he : (checkK p b).2.2 = 0) {m : Mkw} (hm : m ∈ agreeL p b) : m ∈ agreeL p' b' := by
  unfold agreeL at hm ⊢
  obtain ⟨h1, h2⟩ := List.mem_filter.1 hm
  obtain ⟨q, hq⟩ := way_ppr he h1
  refine List.mem_filter.2 ⟨by rw [h.ways]; exact h1, ?_⟩
  have : allS b' = allS b := by unfold allS; rw [h.marks]
  rw [this]
  exact h.agrees hq h2
theorem cnt_of_le {K : Nat} {u v : Nat → Bool} (h : leV K u v) : cntV K u ≤ cntV K v := Nat.le_of_not_lt fun hl => h (Or.inl hl)
theorem allS_lt {p : Prs} {b : Bok} (he : (checkK p b).2.2 = 0) : allS b < 2048 := by
  obtain ⟨-, -, h8, -⟩ := fine_bok he
  unfold allS
  have := Nat.pow_le_pow_right (n := 2) (by decide) (show 3 + b.marks.length ≤ 11 by omega)
  omega
/-- **Wider: Wrong names no more.** -/
theorem Wider.best {p p' : Prs} {b b' : Bok} (h : Wider p p' b b') (he : (checkK p b).2.2 = 0) : (idxV 11 (bestW p' b').testBit).length ≤ (idxV 11 (bestW p b).testBit).length := by
  have ha : allS b' = allS b := by unfold allS; rw [h.marks]
  have hall := allS_lt he
  refine cnt_of_le (u := (bestW p' b').testBit) (v := (bestW p b).testBit) ?_
  obtain ⟨i1, -, -⟩ := best_inv (fun s => ((waysW p b (makesW p)).filter (agreesP p b s)) != []) (allS b) hall (allS b) (Nat.le_refl _)
  obtain ⟨-, j2, j3⟩ := best_inv (fun s => ((waysW p' b' (makesW p')).filter (agreesP p' b' s)) != []) (allS b') (by rw [ha]; exact hall) (allS b') (Nat.le_refl _)
  unfold bestW
  rcases i1 with i1 | ⟨i1, i2⟩
  · rw [i1, ← ha]
    exact j3
  · refine j2 _ (by rw [ha]; exact i1) ?_
    simp only [bne_iff_ne, ne_eq] at i2 ⊢
    obtain ⟨m, hm⟩ := List.exists_mem_of_ne_nil _ i2
    obtain ⟨h1, h2⟩ := List.mem_filter.1 hm
    obtain ⟨q, hq⟩ := way_ppr he h1
    refine List.ne_nil_of_mem (List.mem_filter.2 ⟨?_, ?_⟩ : m ∈ _)
    · rw [h.ways]; exact h1
    · rw [ha]; exact h.agrees hq h2
end Go.Proofs.YtnhacghjoikgpaaGreatDoor

/- Plain: a press and what is seen, made wider. -/
namespace Go.Proofs.YtnhacghjoikgpaaGreatDoor
set_option linter.unusedSimpArgs false
set_option linter.unusedVariables false

def widenQ (n1 n2 : Nat) (q : Ppr) : Ppr := ⟨q.name, max 1 (q.wlo - n1), min 2000 (q.whi + n2), max 1 (q.hlo - n2), min 2000 (q.hhi + n1)⟩
def widenP (n0 n1 n2 : Nat) (p : Prs) : Prs := ⟨p.fmts, p.pprs.map (widenQ n1 n2), min 60 (p.trim + (n0 : Int) % 9), p.sheets⟩
def widenB (n3 : Nat) (b : Bok) : Bok := ⟨b.leaves, b.chain, max 0 (b.wlo - n3), min 2000 (b.whi + n3), max 0 (b.hlo - n3), min 2000 (b.hhi + n3), b.marks⟩
theorem spans_zero {lo hi a b c d : Int} : spansErr lo hi a b c d = 0 ↔ (lo ≤ a ∧ a ≤ hi) ∧ (lo ≤ b ∧ b ≤ hi) ∧ (lo ≤ c ∧ c ≤ hi) ∧ (lo ≤ d ∧ d ≤ hi) ∧ a ≤ b ∧ c ≤ d := by
  unfold spansErr
  constructor
  · intro h
    split at h
    · cases h
    · rename_i h5
      have h5 : (inI lo hi a && inI lo hi b && inI lo hi c && inI lo hi d) = true := Classical.byContradiction fun hn => h5 (by simpa using hn)
      split at h
      · cases h
      · rename_i h6
        simp only [inI, Bool.and_eq_true, decide_eq_true_eq] at h5
        omega
  · intro h
    have h5 : (inI lo hi a && inI lo hi b && inI lo hi c && inI lo hi d) = true := by
      simp only [inI, Bool.and_eq_true, decide_eq_true_eq]
      omega
    rw [if_neg (by rw [h5]; decide), if_neg (by omega)]
theorem widen_ppr {seen : List Bs} {q : Ppr} {n1 n2 : Nat} (h : pprErr seen q = 0) : pprErr seen (widenQ n1 n2 q) = 0 := by
  unfold pprErr at h ⊢
  split at h
  · rename_i h1
    have h1' : nmErr seen (widenQ n1 n2 q).name = 0 := h1
    rw [if_pos h1']
    have h2 := spans_zero.1 h
    exact spans_zero.2 (by simp only [widenQ]; omega)
  · rename_i h1; exact absurd h h1
theorem widen_first {n1 n2 : Nat} : ∀ (xs : List Ppr) (seen : List Bs) (i : Nat), (firstE Ppr.name pprErr seen i xs).2 = 0 → (firstE Ppr.name pprErr seen i (xs.map (widenQ n1 n2))).2 = 0
  | [], _, _, _ => rfl
  | x :: xs, seen, i, h => by
    rw [firstE] at h
    rw [List.map_cons, firstE]
    split at h
    · rename_i h1
      rw [if_pos (widen_ppr h1)]
      exact widen_first xs _ _ h
    · rename_i h1; exact absurd h h1
theorem checkP_zero {p : Prs} : errP p = 0 ↔ (fmtsErr p.fmts).2 = 0 ∧ (pprsErr p.pprs).2 = 0 ∧ (inI 0 60 p.trim && inI 1 4 p.sheets) = true := by
  unfold errP checkP
  constructor
  · intro h
    split at h
    · rename_i h1; exact absurd h h1
    · rename_i h1
      split at h
      · rename_i h2; exact absurd h h2
      · rename_i h2
        split at h
        · cases h
        · rename_i h3
          exact ⟨by simpa using h1, by simpa using h2, by simpa using h3⟩
  · rintro ⟨h1, h2, h3⟩
    rw [if_neg (by rw [h1]; decide), if_neg (by rw [h2]; decide), if_neg (by rw [h3]; decide)]
theorem widen_errP {p : Prs} {n0 n1 n2 : Nat} (h : errP p = 0) : errP (widenP n0 n1 n2 p) = 0 := by
  obtain ⟨h1, h2, h3⟩ := checkP_zero.1 h
  refine checkP_zero.2 ⟨h1, ?_, ?_⟩
  · unfold pprsErr at h2 ⊢
    show (if inI 1 4 ((p.pprs.map (widenQ n1 n2)).length : Nat) = false then (0, 3) else firstE Ppr.name pprErr [] 0 (p.pprs.map (widenQ n1 n2)) : Nat × Int).2 = 0
    rw [List.length_map]
    split at h2
    · cases h2
    · rename_i h4
      rw [if_neg h4]
      exact widen_first _ _ _ h2
  · simp only [inI, Bool.and_eq_true, decide_eq_true_eq] at h3 ⊢
    have e1 : (widenP n0 n1 n2 p).trim = min 60 (p.trim + (n0 : Int) % 9) := rfl
    have e2 : (widenP n0 n1 n2 p).sheets = p.sheets := rfl
    rw [e1, e2]
    omega
theorem checkK_zero {p : Prs} {b : Bok} : (checkK p b).2.2 = 0 ↔ errP p = 0 ∧ inI 1 64 b.leaves = true ∧ inI 0 2 b.chain = true ∧ spansErr 0 2000 b.wlo b.whi b.hlo b.hhi = 0 ∧ inI 0 8 b.marks.length = true ∧ (marksErr b.leaves 0 b.marks).2 = 0 := by
  unfold checkK
  constructor
  · intro h
    split at h
    · rename_i h1; exact absurd h h1
    · rename_i h1
      split at h
      · cases h
      · rename_i h2
        split at h
        · cases h
        · rename_i h3
          split at h
          · rename_i h4; exact absurd h h4
          · rename_i h4
            split at h
            · cases h
            · rename_i h5
              split at h
              · cases h
              · rename_i h6
                exact ⟨by simpa using h1, by simpa using h2, by simpa using h3, by simpa using h4, by simpa using h5, by simpa using h6⟩
  · rintro ⟨h1, h2, h3, h4, h5, h6⟩
    rw [if_neg (by rw [h1]; decide), if_neg (by rw [h2]; decide), if_neg (by rw [h3]; decide), if_neg (by rw [h4]; decide), if_neg (by rw [h5]; decide), if_neg (by rw [h6]; decide)]
theorem widen_err {p : Prs} {b : Bok} {n0 n1 n2 n3 : Nat} (h : (checkK p b).2.2 = 0) : (checkK (widenP n0 n1 n2 p) (widenB n3 b)).2.2 = 0 := by
  obtain ⟨h1, h2, h3, h4, h5, h6⟩ := checkK_zero.1 h
  have h7 := spans_zero.1 h4
  exact checkK_zero.2 ⟨widen_errP h1, h2, h3, spans_zero.2 (by simp only [widenB]; omega), h5, h6⟩
theorem widen_wider {p : Prs} {b : Bok} {n0 n1 n2 n3 : Nat} (h : (checkK p b).2.2 = 0) : Wider p (widenP n0 n1 n2 p) b (widenB n3 b) := by
  obtain ⟨h1, -, -, h4, -, -⟩ := checkK_zero.1 h
  have h7 := spans_zero.1 h4
  obtain ⟨ht, hq⟩ := fine_papers h1
  refine ⟨rfl, rfl, by simp [widenP], fun i q hi => ?_, by simp only [widenP]; omega, rfl, rfl, rfl, by simp only [widenB]; omega, by simp only [widenB]; omega⟩
  have k := hq q (List.mem_of_getElem? hi)
  refine ⟨widenQ n1 n2 q, by simp [widenP, List.getElem?_map, hi], ?_⟩
  simp only [widenQ]
  omega
/-- **What the statement asks of wider ones.** -/
theorem widen_agree {p : Prs} {b : Bok} {n0 n1 n2 n3 : Nat} (h : (checkK p b).2.2 = 0) : ∀ m ∈ agreeL p b, m ∈ agreeL (widenP n0 n1 n2 p) (widenB n3 b) := fun _ hm => (widen_wider h).agree h hm
theorem widen_best {p : Prs} {b : Bok} {n0 n1 n2 n3 : Nat} (h : (checkK p b).2.2 = 0) : (idxV 11 (bestW (widenP n0 n1 n2 p) (widenB n3 b)).testBit).length ≤ (idxV 11 (bestW p b).testBit).length := (widen_wider h).best h
theorem widen_ways {p : Prs} {b : Bok} {n0 n1 n2 n3 : Nat} (h : (checkK p b).2.2 = 0) : waysW (widenP n0 n1 n2 p) (widenB n3 b) (makesW (widenP n0 n1 n2 p)) = waysW p b (makesW p) := (widen_wider h).ways
theorem agreeL_len {p : Prs} {b : Bok} (he : (checkK p b).2.2 = 0) : (agreeL p b).length ≤ 192 := by
  obtain ⟨hee, -, -, -⟩ := fine_bok he
  obtain ⟨-, ⟨f3, f4⟩, ⟨f5, f6⟩, -⟩ := fine_press hee
  obtain ⟨⟨f1, f2⟩, -⟩ := fine_press hee
  have h1 := mkA_len p p.fmts.length (by omega) (by omega)
  have h2 : (waysW p b (makesW p)).length ≤ (makesW p).length := List.length_filter_le _ _
  have h3 : (agreeL p b).length ≤ (waysW p b (makesW p)).length := List.length_filter_le _ _
  unfold makesW at h2 h3
  omega
end Go.Proofs.YtnhacghjoikgpaaGreatDoor
