/- The parts Qk of the proof, joined. It holds without conditions of its own. -/
import Derived.Test.YtockagnnpeoggaaGreatDoorMT17
/- Contracts of package quire: what the changes of a gathering do at a number. -/
namespace Go.Proofs.YtockagnnpeoggaaGreatDoor
set_option linter.unusedSimpArgs false
set_option linter.unusedVariables false
open Go Go.RowKit Go.Sort Go.BigFrame

theorem fate_take {cs : List Chg} {k : Nat} {c : Chg} {n : Int} (hk : cs[k]? = some c) : fateF (cs.take (k + 1)) n = fateStep n (fateF (cs.take k) n) c := by
  unfold fateF
  rw [List.take_add_one, hk, List.foldl_append]; rfl

theorem ta_1_yes (v : Value) (w : World) : (Instr.typeAssert (.iface 167 v) 160 167 true).run Tryz.prog w = .ok (.tuple #[v, .bool true]) w := by kernel_rfl
theorem ta_1_2 (v : Value) (w : World) : (Instr.typeAssert (.iface 168 v) 160 167 true).run Tryz.prog w = .ok (.tuple #[.agg #[.int .i64 0], .bool false]) w := by kernel_rfl
theorem ta_1_3 (v : Value) (w : World) : (Instr.typeAssert (.iface 170 v) 160 167 true).run Tryz.prog w = .ok (.tuple #[.agg #[.int .i64 0], .bool false]) w := by kernel_rfl
theorem ta_1_nil (w : World) : (Instr.typeAssert .nilIface 160 167 true).run Tryz.prog w = .ok (.tuple #[.agg #[.int .i64 0], .bool false]) w := by kernel_rfl
theorem ta_2_yes (v : Value) (w : World) : (Instr.typeAssert (.iface 168 v) 160 168 true).run Tryz.prog w = .ok (.tuple #[v, .bool true]) w := by kernel_rfl
theorem ta_2_1 (v : Value) (w : World) : (Instr.typeAssert (.iface 167 v) 160 168 true).run Tryz.prog w = .ok (.tuple #[.agg #[.int .i64 0], .bool false]) w := by kernel_rfl
theorem ta_2_3 (v : Value) (w : World) : (Instr.typeAssert (.iface 170 v) 160 168 true).run Tryz.prog w = .ok (.tuple #[.agg #[.int .i64 0], .bool false]) w := by kernel_rfl
theorem ta_2_nil (w : World) : (Instr.typeAssert .nilIface 160 168 true).run Tryz.prog w = .ok (.tuple #[.agg #[.int .i64 0], .bool false]) w := by kernel_rfl
theorem ta_3_yes (v : Value) (w : World) : (Instr.typeAssert (.iface 170 v) 160 170 true).run Tryz.prog w = .ok (.tuple #[v, .bool true]) w := by kernel_rfl
theorem ta_3_1 (v : Value) (w : World) : (Instr.typeAssert (.iface 167 v) 160 170 true).run Tryz.prog w = .ok (.tuple #[.agg #[.int .i64 0, .int .i64 0], .bool false]) w := by kernel_rfl
theorem ta_3_2 (v : Value) (w : World) : (Instr.typeAssert (.iface 168 v) 160 170 true).run Tryz.prog w = .ok (.tuple #[.agg #[.int .i64 0, .int .i64 0], .bool false]) w := by kernel_rfl
theorem ta_3_nil (w : World) : (Instr.typeAssert .nilIface 160 170 true).run Tryz.prog w = .ok (.tuple #[.agg #[.int .i64 0, .int .i64 0], .bool false]) w := by kernel_rfl

set_option maxRecDepth 100000 in
set_option maxHeartbeats 400000 in
theorem fateAt_some (n cap : Nat) (num : Int) (cs : List Chg) (b off : Nat) (w : World) (hn : cs.length = n) (hn' : n ≤ 100) (hbl : b < w.heap.size)
    (hcs : ∀ i c, cs[i]? = some c → w.cell? ⟨b, off + i * 3, none⟩ = some (.int .i64 c.kind) ∧ w.cell? ⟨b, off + i * 3 + 1, none⟩ = some (.int .i64 c.pos) ∧ w.cell? ⟨b, off + i * 3 + 2, none⟩ = some (.int .i64 c.many)) :
    Calls Tryz.prog 99 #[.slice (some ⟨b, off, none⟩) n cap, .int .i64 num] w fun e w' => e = .returned (.agg #[.bool (fateF cs num).gone, .bool (fateF cs num).swapped, .int .i64 (fateF cs num).added]) ∧ Below w.heap.size w w' := by
  have HN := Lib.hid hn
  have HC := Lib.hid hcs
  clear hn hcs
  obtain ⟨w1, hw1⟩ : ∃ w1, w1 = (w.alloc (Obj.cells #[.bool false, .bool false, .int .i64 0] 146)).alloc (Obj.cells #[.bool false, .bool false, .int .i64 0] 146) := ⟨_, rfl⟩
  have hb1 : Below w.heap.size w w1 := by rw [hw1]; exact (by repeat (first | exact Below.refl _ _ | assumption | (refine Below.alloc ?_ ?_ _; rotate_left; · (first | omega | (simp; done) | (simp; omega) | (simp at *; omega) | fail)) | (refine Below.setCell ?_ ?_ _; rotate_left; · (first | omega | (simp; done) | (simp; omega) | (simp at *; omega) | fail)) | refine Below.drew ?_ | fail))
  have q0 : w1.heap[w.heap.size]? = some (.cells #[.bool false, .bool false, .int .i64 0] 146) := by rw [hw1]; exact (by repeat (first | exact heap_alloc_at _ _ _ (by (first | omega | (simp; done) | (simp; omega) | (simp at *; omega) | fail)) | assumption | rw [heap_alloc_past _ _ _ (by (first | omega | (simp; done) | (simp; omega) | (simp at *; omega) | fail))] | rw [heap_setCell_past _ _ _ _ (by (first | omega | (simp; done) | (simp; omega) | (simp at *; omega) | fail))] | fail))
  have q1 : w1.heap[w.heap.size + 1]? = some (.cells #[.bool false, .bool false, .int .i64 0] 146) := by rw [hw1]; exact (by repeat (first | exact heap_alloc_at _ _ _ (by (first | omega | (simp; done) | (simp; omega) | (simp at *; omega) | fail)) | assumption | rw [heap_alloc_past _ _ _ (by (first | omega | (simp; done) | (simp; omega) | (simp at *; omega) | fail))] | rw [heap_setCell_past _ _ _ _ (by (first | omega | (simp; done) | (simp; omega) | (simp at *; omega) | fail))] | fail))
  go_enter Tryz.func99, Tryz.ntmps99
  go_wp2_with fail
  rw [← hw1]
  clear hw1
  go_loopw [13] (fun i wr => ∃ (k : Nat) (f : Fate), k ≤ n ∧ i = .int .i64 k ∧ Below w.heap.size w wr ∧ Hid (wr.heap[w.heap.size]? = some (.cells #[.bool false, .bool false, .int .i64 0] 146)) ∧ Hid (wr.heap[w.heap.size + 1]? = some (.cells #[.bool f.gone, .bool f.swapped, .int .i64 f.added] 146)) ∧ Hid (f = fateF (cs.take k) num)) (fun i _ => n - (intOf i).toNat)
  case atStart => exact ⟨0, ⟨false, false, 0⟩, by omega, rfl, hb1, q0, q1, rfl⟩
  case round =>
    obtain ⟨k, ⟨fg, fs, fa⟩, hk, rfl, hb, HR, HF, hf⟩ := hrel
    dsimp only at HF
    clear q0 q1 hb1
    by_cases hlt : k < n
    · obtain ⟨⟨ck, cp, cm⟩, hc⟩ : ∃ c, cs[k]? = some c := ⟨cs[k]'(by rw [HN.out]; exact hlt), List.getElem?_eq_getElem _⟩
      have k0 := cell_later' hb (HC.out k _ hc).1
      have k1 := cell_later' hb (HC.out k _ hc).2.1
      have k2 := cell_later' hb (HC.out k _ hc).2.2
      dsimp only at k0 k1 k2
      have HS : Hid (fateF (cs.take (k + 1)) num = fateStep num ⟨fg, fs, fa⟩ ⟨ck, cp, cm⟩) := by show fateF _ _ = _; rw [fate_take hc, ← hf.out]
      clear hc hf
      by_cases hp : cp = num
      · subst hp
        have hne : (cp != cp) = false := by simp
        go_wp2_with fail
        refine (deedOf_any ⟨ck, cp, cm⟩ _).mono ?_
        rintro e w2 ⟨rfl, hb2⟩
        have hb3 := (hb.alloc hb.size _).trans (hb2.mono (by have := hb.size; simp; omega))
        have HR := Lib.hid (blk_later hb2 (by rw [heap_alloc_past _ _ _ (blk_lt HR.out)]; exact HR.out))
        have HF := Lib.hid (blk_later hb2 (by rw [heap_alloc_past _ _ _ (blk_lt HF.out)]; exact HF.out))
        have hz := blk_lt HF.out
        have f0 := blk_free HF.out 0; have f1 := blk_free HF.out 1; have f2 := blk_free HF.out 2
        have c0 := blk_cell HF.out 0; have c1 := blk_cell HF.out 1; have c2 := blk_cell HF.out 2
        clear hb2 k0 k1 k2 hb
        by_cases h1 : ck = 1
        · subst h1
          have hv : deedV ⟨1, cp, cm⟩ = .iface 167 (.agg #[.int .i64 cp]) := by simp [deedV]
          have HS : Hid (fateF (cs.take (k + 1)) cp = ⟨true, fs, fa⟩) := HS.out.trans (by simp [fateStep])
          have t0 := ta_1_yes
          rw [hv]; clear hv
          go_wp2_with fail
          go_roundw
          case rel => exact ⟨k + 1, ⟨true, fs, fa⟩, by omega, by go_num, (hb3.setCell (by simp) _).alloc (by have := hb3.size; simp; omega) _, (heap_alloc_past _ _ _ (by have := blk_lt HR.out; simp; omega)).trans ((heap_setCell_past _ _ _ _ (by simp)).trans HR.out), (heap_alloc_past _ _ _ (by simp; omega)).trans (blk_set HF.out 0 _), HS.out.symm⟩
          case measure => simp [intOf]; omega
        by_cases h2 : ck = 2
        · subst h2
          have hv : deedV ⟨2, cp, cm⟩ = .iface 168 (.agg #[.int .i64 cp]) := by simp [deedV]
          have HS : Hid (fateF (cs.take (k + 1)) cp = ⟨fg, true, fa⟩) := HS.out.trans (by simp [fateStep])
          have t0 := ta_1_2
          have t1 := ta_2_yes
          rw [hv]; clear hv
          go_wp2_with fail
          go_roundw
          case rel => exact ⟨k + 1, ⟨fg, true, fa⟩, by omega, by go_num, (hb3.setCell (by simp) _).alloc (by have := hb3.size; simp; omega) _, (heap_alloc_past _ _ _ (by have := blk_lt HR.out; simp; omega)).trans ((heap_setCell_past _ _ _ _ (by simp)).trans HR.out), (heap_alloc_past _ _ _ (by simp; omega)).trans (blk_set HF.out 1 _), HS.out.symm⟩
          case measure => simp [intOf]; omega
        by_cases h3 : ck = 3
        · subst h3
          have hv : deedV ⟨3, cp, cm⟩ = .iface 170 (.agg #[.int .i64 cp, .int .i64 cm]) := by simp [deedV]
          have HS : Hid (fateF (cs.take (k + 1)) cp = ⟨fg, fs, cm⟩) := HS.out.trans (by simp [fateStep])
          have t0 := ta_1_3
          have t1 := ta_2_3
          have t2 := ta_3_yes
          rw [hv]; clear hv
          go_wp2_with fail
          go_roundw
          case rel => exact ⟨k + 1, ⟨fg, fs, cm⟩, by omega, by go_num, (hb3.setCell (by simp) _).alloc (by have := hb3.size; simp; omega) _, (heap_alloc_past _ _ _ (by have := blk_lt HR.out; simp; omega)).trans ((heap_setCell_past _ _ _ _ (by simp)).trans HR.out), (heap_alloc_past _ _ _ (by simp; omega)).trans (blk_set HF.out 2 _), HS.out.symm⟩
          case measure => simp [intOf]; omega
        · have hv : deedV ⟨ck, cp, cm⟩ = .nilIface := by simp [deedV, h1, h2, h3]
          have HS : Hid (fateF (cs.take (k + 1)) cp = ⟨fg, fs, fa⟩) := HS.out.trans (by simp [fateStep, h1, h2, h3])
          have t0 := ta_1_nil
          have t1 := ta_2_nil
          have t2 := ta_3_nil
          rw [hv]; clear hv
          clear h1 h2 h3
          go_wp2_with fail
          go_roundw
          case rel => exact ⟨k + 1, ⟨fg, fs, fa⟩, by omega, by go_num, hb3, HR.out, HF.out, HS.out.symm⟩
          case measure => simp [intOf]; omega
      · have hne : (cp != num) = true := by simp [hp]
        have HS : Hid (fateF (cs.take (k + 1)) num = ⟨fg, fs, fa⟩) := HS.out.trans (by simp [fateStep, hp])
        clear hp
        go_wp2_with fail
        go_roundw
        case rel => exact ⟨k + 1, ⟨fg, fs, fa⟩, by omega, by go_num, hb.alloc hb.size _, (heap_alloc_past _ _ _ (blk_lt HR.out)).trans HR.out, (heap_alloc_past _ _ _ (blk_lt HF.out)).trans HF.out, HS.out.symm⟩
        case measure => simp [intOf]; omega
    · have HS : Hid (fateF cs num = ⟨fg, fs, fa⟩) := by
        have := hf.out
        rw [List.take_of_length_le (by rw [HN.out]; omega)] at this; exact this.symm
      have c0 := blk_cell HF.out 0; have c1 := blk_cell HF.out 1; have c2 := blk_cell HF.out 2
      have d0 := blk_cell HR.out 0; have d1 := blk_cell HR.out 1; have d2 := blk_cell HR.out 2
      have f0 := blk_free HR.out 0; have f1 := blk_free HR.out 1; have f2 := blk_free HR.out 2
      clear hf
      go_wp2_with fail
      exact bodyPost_ret (v := .agg #[.bool fg, .bool fs, .int .i64 fa]) (by simp [results, Tryz.results99, go_sem, d0, d1, d2]) rfl ⟨by rw [HS.out], (by repeat (first | exact Below.refl _ _ | assumption | (refine Below.alloc ?_ ?_ _; rotate_left; · (first | omega | (simp; done) | (simp; omega) | (simp at *; omega) | fail)) | (refine Below.setCell ?_ ?_ _; rotate_left; · (first | omega | (simp; done) | (simp; omega) | (simp at *; omega) | fail)) | refine Below.drew ?_ | fail))⟩

theorem fateAt_none (a : Option Addr) (cap : Nat) (num : Int) (w : World) :
    Calls Tryz.prog 99 #[.slice a 0 cap, .int .i64 num] w fun e w' => e = .returned (.agg #[.bool false, .bool false, .int .i64 0]) ∧ Below w.heap.size w w' := by
  go_enter Tryz.func99, Tryz.ntmps99
  go_wp2
  refine wp_loop_rounds 1 ?_
  rw [rounds_succ]
  go_wp2
  exact bodyPost_ret (v := .agg #[.bool false, .bool false, .int .i64 0]) (by simp [results, Tryz.results99, go_sem]) rfl ⟨rfl, (by repeat (first | exact Below.refl _ _ | assumption | (refine Below.alloc ?_ ?_ _; rotate_left; · (first | omega | (simp; done) | (simp; omega) | (simp at *; omega) | fail)) | (refine Below.setCell ?_ ?_ _; rotate_left; · (first | omega | (simp; done) | (simp; omega) | (simp at *; omega) | fail)) | refine Below.drew ?_ | fail))⟩

theorem fateAt_any (B : Nat) (num : Int) (cs : List Chg) (sv : Value) (w : World) (hcs : ChsAt B w sv cs) (hB : B ≤ w.heap.size) (hl : cs.length ≤ 100) :
    Calls Tryz.prog 99 #[sv, .int .i64 num] w fun e w' => e = .returned (.agg #[.bool (fateF cs num).gone, .bool (fateF cs num).swapped, .int .i64 (fateF cs num).added]) ∧ Below w.heap.size w w' := by
  obtain ⟨a, cap, rfl, hc⟩ := hcs
  cases cs with
  | nil => exact fateAt_none a cap num w
  | cons c cs =>
    obtain ⟨b, off, rfl, hb, hcell⟩ := hc (by simp)
    exact fateAt_some _ cap num (c :: cs) b off w rfl hl (by omega) hcell

theorem fate_added {cs : List Chg} {num : Int} (h : ∀ c ∈ cs, 0 ≤ c.many ∧ c.many ≤ 4) : 0 ≤ (fateF cs num).added ∧ (fateF cs num).added ≤ 4 := by
  unfold fateF
  have : ∀ (cs : List Chg) (f : Fate), (∀ c ∈ cs, 0 ≤ c.many ∧ c.many ≤ 4) → (0 ≤ f.added ∧ f.added ≤ 4) → 0 ≤ (cs.foldl (fateStep num) f).added ∧ (cs.foldl (fateStep num) f).added ≤ 4 := by
    intro cs
    induction cs with
    | nil => intro f _ h; exact h
    | cons c cs ih =>
      intro f hc hf
      refine ih _ (fun c h => hc c (List.mem_cons_of_mem _ h)) ?_
      have := hc c (List.mem_cons_self ..)
      unfold fateStep
      split
      · exact hf
      · split
        · exact hf
        · split
          · exact hf
          · split
            · exact this
            · exact hf
  exact this cs _ h ⟨by decide, by decide⟩

end Go.Proofs.YtockagnnpeoggaaGreatDoor
