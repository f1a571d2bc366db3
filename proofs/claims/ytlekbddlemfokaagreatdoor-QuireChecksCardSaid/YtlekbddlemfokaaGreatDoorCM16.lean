/- The parts Ci, Rc of the proof, joined. It holds without conditions of its own. -/
import Derived.Test.YtlekbddlemfokaaGreatDoorCM8
import Derived.Test.YtlekbddlemfokaaGreatDoorCM15
import Derived.Test.YtlekbddlemfokaaGreatDoorCM14
/- The reference: a letter, a digit, a name. -/
namespace Go.Proofs.YtlekbddlemfokaaGreatDoor
set_option linter.unusedSimpArgs false
set_option linter.unusedVariables false
open Go Go.RowKit Go.Sort Go.BigFrame

theorem small_is (c : Nat) : smallB c = inB 97 122 c := by
  unfold smallB inB
  congr 1 <;> (apply decide_eq_decide.2; omega)
theorem inner_is (c : Nat) : innerB c = (inB 48 57 c || !((c : Int) != 46)) := by
  unfold innerB inB
  congr 1
  · congr 1 <;> (apply decide_eq_decide.2; omega)
  · by_cases h : c = 46
    · subst h; rfl
    · have h1 : ((c : Int) != 46) = true := by simp; omega
      rw [h1]; simp [h]
set_option maxHeartbeats 400000 in
theorem refLetter_any (c : Int) (h0 : 0 ≤ c) (h1 : c < 256) (w : World) :
    Calls Tryz.prog 18 #[.int .u8 c] w fun e w' => e = .returned (.bool (inB 97 122 c)) ∧ w' = w := by
  cases h1 : decide (97 ≤ c) with
  | false =>
    have e : inB 97 122 c = false := by simp [inB, h1]
    rw [e]
    go_enter Tryz.func18, Tryz.ntmps18
    go_wp2_with fail
    go_ret
    exact ⟨rfl, rfl⟩
  | true =>
    have e : inB 97 122 c = decide (c ≤ 122) := by simp [inB, h1]
    rw [e]
    go_enter Tryz.func18, Tryz.ntmps18
    go_wp2_with fail
    go_ret
    exact ⟨rfl, rfl⟩
set_option maxHeartbeats 400000 in
theorem refDigit_any (c : Int) (h0 : 0 ≤ c) (h1 : c < 256) (w : World) :
    Calls Tryz.prog 19 #[.int .u8 c] w fun e w' => e = .returned (.bool (inB 48 57 c)) ∧ w' = w := by
  cases h1 : decide (48 ≤ c) with
  | false =>
    have e : inB 48 57 c = false := by simp [inB, h1]
    rw [e]
    go_enter Tryz.func19, Tryz.ntmps19
    go_wp2_with fail
    go_ret
    exact ⟨rfl, rfl⟩
  | true =>
    have e : inB 48 57 c = decide (c ≤ 57) := by simp [inB, h1]
    rw [e]
    go_enter Tryz.func19, Tryz.ntmps19
    go_wp2_with fail
    go_ret
    exact ⟨rfl, rfl⟩

set_option maxRecDepth 100000 in
set_option maxHeartbeats 800000 in
theorem refName_any (s : Bs) (w : World) (hs : s.length ≤ 9223372036854775807) :
    Calls Tryz.prog 7 #[S s] w fun e w' => e = .returned (.bool (nameB s)) ∧ Below w.heap.size w w' := by
  have hzs : (⟨s.toArray⟩ : ByteArray).size = s.length := size_bytes s
  by_cases h0 : s.length = 0
  · have HF : Hid (nameB s = false) := Lib.hid (by unfold nameB; rw [decide_eq_false (p := 1 ≤ s.length) (by omega)]; rfl)
    rw [h0] at hzs
    go_enter Tryz.func7, Tryz.ntmps7
    go_wp2_with fail
    go_ret
    exact ⟨by rw [HF.out]; rfl, Below.refl _ _⟩
  have d0 : ((s.length : Int) == 0) = false := by
    rw [beq_eq_false_iff_ne]
    omega
  by_cases h1 : 16 < s.length
  · have HF : Hid (nameB s = false) := Lib.hid (by unfold nameB; rw [decide_eq_false (p := s.length ≤ 16) (by omega)]; simp)
    have d1 : decide ((16 : Int) < (s.length : Int)) = true := decide_eq_true (by omega)
    go_enter Tryz.func7, Tryz.ntmps7
    go_wp2_with fail
    go_ret
    exact ⟨by rw [HF.out]; rfl, Below.refl _ _⟩
  have d1 : decide ((16 : Int) < (s.length : Int)) = false := decide_eq_false (by omega)
  have HF : Hid (nameB s = nameL 0 s) := Lib.hid (by unfold nameB; rw [decide_eq_true (p := 1 ≤ s.length) (by omega), decide_eq_true (p := s.length ≤ 16) (by omega)]; rfl)
  go_enter Tryz.func7, Tryz.ntmps7
  go_wp2_with fail
  go_loopw [3] (fun q wr => ∃ (k : Nat), k ≤ s.length ∧ q = .int .i64 k ∧ Hid (nameL 0 s = nameL k (s.drop k)) ∧ wr = w) (fun q _ => s.length - (intOf q).toNat)
  case atStart => exact ⟨0, by omega, rfl, rfl, rfl⟩
  case round =>
    obtain ⟨k, hk, rfl, hT, rfl⟩ := hrel
    by_cases hlt : k < s.length
    · obtain ⟨c, hc⟩ : ∃ c, s[k]? = some c := ⟨_, List.getElem?_eq_getElem hlt⟩
      have hb : ∀ h : k < (⟨s.toArray⟩ : ByteArray).size, (⟨s.toArray⟩ : ByteArray)[k]'h = c := fun h => by
        obtain ⟨hk, hc⟩ := List.getElem?_eq_some_iff.1 hc
        rw [← hc]; rfl
      have hstep : nameL 0 s = if smallB c.toNat || (decide (k ≠ 0) && innerB c.toNat) then nameL (k + 1) (s.drop (k + 1)) else false := by
        rw [hT.out, List.drop_eq_getElem?_toList_append, hc]
        rfl
      rw [small_is, inner_is] at hstep
      have hc0 : (0 : Int) ≤ (c.toNat : Int) ∧ (c.toNat : Int) < 256 := by have := c.toNat_lt; omega
      have HST := Lib.hid hstep
      clear hstep hT hc
      go_wp2_with fail
      refine (refLetter_any c.toNat hc0.1 hc0.2 _).mono ?_
      rintro e w1 ⟨rfl, rfl⟩
      cases h1 : inB 97 122 c.toNat with
      | true =>
        have HN : Hid (nameL 0 s = nameL (k + 1) (s.drop (k + 1))) := Lib.hid (by rw [HST.out, h1]; rfl)
        go_wp2_with fail
        go_roundw
        case rel => exact ⟨k + 1, by omega, by go_num, HN.out, trivial⟩
        case measure => simp [intOf]; omega
      | false =>
        by_cases hk0 : k = 0
        · subst hk0
          have HN : Hid (nameB s = false) := Lib.hid (by rw [HF.out, HST.out, h1]; rfl)
          go_wp2_with fail
          go_ret
          exact ⟨by rw [HN.out]; rfl, Below.refl _ _⟩
        · have e0 : ((k : Int) == 0) = false := by simp; omega
          go_wp2_with fail
          refine (refDigit_any c.toNat hc0.1 hc0.2 _).mono ?_
          rintro e w1 ⟨rfl, rfl⟩
          cases h2 : inB 48 57 c.toNat with
          | true =>
            have HN : Hid (nameL 0 s = nameL (k + 1) (s.drop (k + 1))) := Lib.hid (by rw [HST.out, h1, h2]; simp [hk0])
            go_wp2_with fail
            go_roundw
            case rel => exact ⟨k + 1, by omega, by go_num, HN.out, trivial⟩
            case measure => simp [intOf]; omega
          | false =>
            cases h3 : ((c.toNat : Int) != 46) with
            | false =>
              have HN : Hid (nameL 0 s = nameL (k + 1) (s.drop (k + 1))) := Lib.hid (by rw [HST.out, h1, h2, h3]; simp [hk0])
              go_wp2_with fail
              go_roundw
              case rel => exact ⟨k + 1, by omega, by go_num, HN.out, trivial⟩
              case measure => simp [intOf]; omega
            | true =>
              have HN : Hid (nameB s = false) := Lib.hid (by rw [HF.out, HST.out, h1, h2, h3]; simp)
              go_wp2_with fail
              go_ret
              exact ⟨by rw [HN.out]; rfl, Below.refl _ _⟩
    · have HN : Hid (nameB s = true) := Lib.hid (by rw [HF.out, hT.out, List.drop_of_length_le (by omega)]; rfl)
      go_wp2_with fail
      go_ret
      exact ⟨by rw [HN.out]; rfl, Below.refl _ _⟩
end Go.Proofs.YtlekbddlemfokaaGreatDoor

/- Contracts of the reader: a signature, a change. -/
namespace Go.Proofs.YtlekbddlemfokaaGreatDoor
set_option linter.unusedSimpArgs false
set_option linter.unusedVariables false
open Go Go.RowKit Go.Sort Go.BigFrame Go.Lib

theorem OnlyIn.setNew {X : Nat → Prop} {w W : World} (h : OnlyIn X w W) (p : Addr) (v : Value) (hp : w.heap.size ≤ p.block) : OnlyIn X w (W.setCell p v) := h.fresh (OnlyIn.setCell W p v hp)
theorem OnlyIn.alloc' {X : Nat → Prop} {w W : World} (h : OnlyIn X w W) (o : Obj) : OnlyIn X w (W.alloc o) := h.trans (OnlyIn.alloc X W o)
theorem OnlyIn.drew' {X : Nat → Prop} {w W : World} (h : OnlyIn X w W) : OnlyIn X w W.drew := h.trans (OnlyIn.drew X W)
def sigV (a : Int × Int) : Value := .agg #[.int .i64 a.1, .int .i64 a.2]

set_option maxHeartbeats 1000000 in
theorem sig_any (R : Nat) (s : Bs) (w : World) (hr : Rd w R s) :
    Calls Tryz.prog 75 #[.pointer (some ⟨R, 0, none⟩)] w (ReadPost R sigV (sigF s) w) := by
  have HR := Lib.hid hr
  have hR := blk_lt hr
  clear hr
  cases hs2 : skipF [50] s with
  | some u =>
    have hs3 : True := trivial
    go_enter Tryz.func75, Tryz.ntmps75
    go_wp2_with fail
    refine wp_loop_rounds 3 ?_
    rw [rounds_succ]
    go_wp2_with fail
    refine (Itoa_any 2 (by omega) (by omega) _).mono ?_
    rintro e w1 ⟨rfl, rfl⟩
    go_wp2_with fail
    refine (skip_yes R s (dec 2) u _ (by exact (by repeat (first | (refine (heap_setCell_past _ _ _ _ ?_).trans ?_; · (first | omega | (simp; done) | (simp; omega) | fail)) | (refine (heap_alloc_past _ _ _ ?_).trans ?_; · (first | omega | (simp; done) | (simp; omega) | fail)) | exact HR.out | fail))) hs2).mono ?_
    rintro e w1 ⟨rfl, hw1⟩
    have HB0 := Lib.hid (show w1.heap[w.heap.size]? = some (.cells #[.int .i64 0, .int .i64 0] 26) from hw1.block (by exact (by repeat (first | exact heap_alloc_at _ _ _ (by (first | omega | (simp; done) | (simp; omega) | fail)) | (refine (heap_alloc_past _ _ _ ?_).trans ?_; · (first | omega | (simp; done) | (simp; omega) | fail)) | fail))) (by omega))
    have b1 : w1.heap[w.heap.size + 1]? = some (.cells #[.int .i64 1, .int .i64 0] 26) := hw1.block (by exact (by repeat (first | exact heap_alloc_at _ _ _ (by (first | omega | (simp; done) | (simp; omega) | fail)) | (refine (heap_alloc_past _ _ _ ?_).trans ?_; · (first | omega | (simp; done) | (simp; omega) | fail)) | fail))) (by omega)
    have HR1' := Lib.hid hw1.rd
    have HO1' := Lib.hid (show OnlyIn (fun k => k = R) w w1 from OnlyIn.trans (by exact (by repeat (first | exact OnlyIn.refl _ _ | (refine OnlyIn.setNew ?_ _ _ ?_; rotate_left; · (first | omega | (simp; done) | (simp; omega) | fail)) | refine OnlyIn.alloc' ?_ _ | refine OnlyIn.drew' ?_ | fail))) hw1.only)
    have c0 := blk_cell b1 0; have c1 := blk_cell b1 1
    have f0 := blk_free b1 0; have f1 := blk_free b1 1
    have HB1' := Lib.hid b1
    clear b1 hw1
    go_wp2_with fail
    have HB0 := Lib.hid (show (w1.setCell ⟨w.heap.size + 1, 0, none⟩ (.int .i64 2)).heap[w.heap.size]? = some (.cells #[.int .i64 0, .int .i64 0] 26) from (by repeat (first | (refine (heap_setCell_past _ _ _ _ ?_).trans ?_; · (first | omega | (simp; done) | (simp; omega) | fail)) | (refine (heap_alloc_past _ _ _ ?_).trans ?_; · (first | omega | (simp; done) | (simp; omega) | fail)) | exact HB0.out | fail)))
    have HB1 := Lib.hid (show (w1.setCell ⟨w.heap.size + 1, 0, none⟩ (.int .i64 2)).heap[w.heap.size + 1]? = some (.cells #[.int .i64 2, .int .i64 0] 26) from blk_set HB1'.out 0 _)
    have HR1 := Lib.hid (show Rd (w1.setCell ⟨w.heap.size + 1, 0, none⟩ (.int .i64 2)) R u from (by repeat (first | (refine (heap_setCell_past _ _ _ _ ?_).trans ?_; · (first | omega | (simp; done) | (simp; omega) | fail)) | (refine (heap_alloc_past _ _ _ ?_).trans ?_; · (first | omega | (simp; done) | (simp; omega) | fail)) | exact HR1'.out | fail)))
    have HO1 := Lib.hid (show OnlyIn (fun k => k = R) w (w1.setCell ⟨w.heap.size + 1, 0, none⟩ (.int .i64 2)) from (by repeat (first | exact HO1'.out | (refine OnlyIn.setNew ?_ _ _ ?_; rotate_left; · (first | omega | (simp; done) | (simp; omega) | fail)) | refine OnlyIn.alloc' ?_ _ | refine OnlyIn.drew' ?_ | fail)))
    clear c0 c1 f0 f1 HB1' HR1' HO1'
    refine (letter_any R u _ HR1.out).mono ?_
    intro e w2 hp
    cases hl : letterF u with
    | none =>
      rw [hl] at hp
      obtain ⟨rfl, t', hw2⟩ := hp
      have hF : Hid (sigF s = none) := by show _ = _; simp [sigF, roundF, hl, hs2, hs3]
      have HO := Lib.hid (HO1.out.trans hw2.only)
      have HR2 := Lib.hid hw2.rd
      clear hw2
      go_wp2_with fail
      refine ⟨rfl, ?_⟩
      show ReadPost R _ (sigF s) _ _ _
      rw [hF.out]
      exact ⟨rfl, t', HR2.out, HO.out⟩
    | some p =>
      obtain ⟨n, t⟩ := p
      rw [hl] at hp
      obtain ⟨rfl, hw2⟩ := hp
      have hF : Hid (sigF s = some ((2, n), t)) := by show _ = _; simp [sigF, roundF, hl, hs2, hs3]
      have HO := Lib.hid (HO1.out.trans hw2.only)
      have HR2 := Lib.hid hw2.rd
      have H0 := Lib.hid (hw2.block HB0.out (by omega))
      have H1 := Lib.hid (hw2.block HB1.out (by omega))
      have z0 := blk_cell H0.out 0; have z1 := blk_cell H0.out 1
      have y0 := blk_free H0.out 0; have y1 := blk_free H0.out 1
      have c0 := blk_cell H1.out 0; have c1 := blk_cell H1.out 1
      have f0 := blk_free H1.out 0; have f1 := blk_free H1.out 1
      clear hw2 hl hs2 hs3
      go_wp2_with fail
      refine bodyPost_ret (v := .agg #[.int .i64 2, .int .i64 n]) (by simp [results, Tryz.results75, go_sem, z0, z1]) rfl ?_
      show ReadPost R _ (sigF s) _ _ _
      rw [hF.out]
      exact ⟨rfl, (by exact (by repeat (first | (refine (heap_setCell_past _ _ _ _ ?_).trans ?_; · (first | omega | (simp; done) | (simp; omega) | fail)) | (refine (heap_alloc_past _ _ _ ?_).trans ?_; · (first | omega | (simp; done) | (simp; omega) | fail)) | exact HR2.out | fail))), (by exact (by repeat (first | exact HO.out | (refine OnlyIn.setNew ?_ _ _ ?_; rotate_left; · (first | omega | (simp; done) | (simp; omega) | fail)) | refine OnlyIn.alloc' ?_ _ | refine OnlyIn.drew' ?_ | fail)))⟩
  | none =>
    cases hs3 : skipF [51] s with
    | some u =>
      go_enter Tryz.func75, Tryz.ntmps75
      go_wp2_with fail
      refine wp_loop_rounds 3 ?_
      rw [rounds_succ]
      go_wp2_with fail
      refine (Itoa_any 2 (by omega) (by omega) _).mono ?_
      rintro e w1 ⟨rfl, rfl⟩
      go_wp2_with fail
      refine (skip_no R s (dec 2) _ (by exact (by repeat (first | (refine (heap_setCell_past _ _ _ _ ?_).trans ?_; · (first | omega | (simp; done) | (simp; omega) | fail)) | (refine (heap_alloc_past _ _ _ ?_).trans ?_; · (first | omega | (simp; done) | (simp; omega) | fail)) | exact HR.out | fail))) hs2).mono ?_
      rintro e w1 ⟨rfl, hw1⟩
      have HB0 := Lib.hid (show w1.heap[w.heap.size]? = some (.cells #[.int .i64 0, .int .i64 0] 26) from hw1.block (by exact (by repeat (first | exact heap_alloc_at _ _ _ (by (first | omega | (simp; done) | (simp; omega) | fail)) | (refine (heap_alloc_past _ _ _ ?_).trans ?_; · (first | omega | (simp; done) | (simp; omega) | fail)) | fail))) (by omega))
      have b1 : w1.heap[w.heap.size + 1]? = some (.cells #[.int .i64 1, .int .i64 0] 26) := hw1.block (by exact (by repeat (first | exact heap_alloc_at _ _ _ (by (first | omega | (simp; done) | (simp; omega) | fail)) | (refine (heap_alloc_past _ _ _ ?_).trans ?_; · (first | omega | (simp; done) | (simp; omega) | fail)) | fail))) (by omega)
      have HR1' := Lib.hid hw1.rd
      have HO1' := Lib.hid (show OnlyIn (fun k => k = R) w w1 from OnlyIn.trans (by exact (by repeat (first | exact OnlyIn.refl _ _ | (refine OnlyIn.setNew ?_ _ _ ?_; rotate_left; · (first | omega | (simp; done) | (simp; omega) | fail)) | refine OnlyIn.alloc' ?_ _ | refine OnlyIn.drew' ?_ | fail))) hw1.only)
      have c0 := blk_cell b1 0; have c1 := blk_cell b1 1
      have f0 := blk_free b1 0; have f1 := blk_free b1 1
      have HB1' := Lib.hid b1
      clear b1 hw1
      go_wp2_with fail
      rw [rounds_succ]
      go_wp2_with fail
      refine (Itoa_any 3 (by omega) (by omega) _).mono ?_
      rintro e w1' ⟨rfl, rfl⟩
      go_wp2_with fail
      refine (skip_yes R s (dec 3) u _ HR1'.out hs3).mono ?_
      rintro e w3 ⟨rfl, hw3⟩
      have HB0 := Lib.hid (hw3.block HB0.out (by omega))
      have HB1' := Lib.hid (hw3.block HB1'.out (by omega))
      have HO1' := Lib.hid (HO1'.out.trans hw3.only)
      have HR1' := Lib.hid hw3.rd
      clear c0 c1 f0 f1 hw3
      have c0 := blk_cell HB1'.out 0; have c1 := blk_cell HB1'.out 1
      have f0 := blk_free HB1'.out 0; have f1 := blk_free HB1'.out 1
      go_wp2_with fail
      have HB0 := Lib.hid (show (w3.setCell ⟨w.heap.size + 1, 0, none⟩ (.int .i64 3)).heap[w.heap.size]? = some (.cells #[.int .i64 0, .int .i64 0] 26) from (by repeat (first | (refine (heap_setCell_past _ _ _ _ ?_).trans ?_; · (first | omega | (simp; done) | (simp; omega) | fail)) | (refine (heap_alloc_past _ _ _ ?_).trans ?_; · (first | omega | (simp; done) | (simp; omega) | fail)) | exact HB0.out | fail)))
      have HB1 := Lib.hid (show (w3.setCell ⟨w.heap.size + 1, 0, none⟩ (.int .i64 3)).heap[w.heap.size + 1]? = some (.cells #[.int .i64 3, .int .i64 0] 26) from blk_set HB1'.out 0 _)
      have HR1 := Lib.hid (show Rd (w3.setCell ⟨w.heap.size + 1, 0, none⟩ (.int .i64 3)) R u from (by repeat (first | (refine (heap_setCell_past _ _ _ _ ?_).trans ?_; · (first | omega | (simp; done) | (simp; omega) | fail)) | (refine (heap_alloc_past _ _ _ ?_).trans ?_; · (first | omega | (simp; done) | (simp; omega) | fail)) | exact HR1'.out | fail)))
      have HO1 := Lib.hid (show OnlyIn (fun k => k = R) w (w3.setCell ⟨w.heap.size + 1, 0, none⟩ (.int .i64 3)) from (by repeat (first | exact HO1'.out | (refine OnlyIn.setNew ?_ _ _ ?_; rotate_left; · (first | omega | (simp; done) | (simp; omega) | fail)) | refine OnlyIn.alloc' ?_ _ | refine OnlyIn.drew' ?_ | fail)))
      clear c0 c1 f0 f1 HB1' HR1' HO1'
      refine (letter_any R u _ HR1.out).mono ?_
      intro e w2 hp
      cases hl : letterF u with
      | none =>
        rw [hl] at hp
        obtain ⟨rfl, t', hw2⟩ := hp
        have hF : Hid (sigF s = none) := by show _ = _; simp [sigF, roundF, hl, hs2, hs3]
        have HO := Lib.hid (HO1.out.trans hw2.only)
        have HR2 := Lib.hid hw2.rd
        clear hw2
        go_wp2_with fail
        refine ⟨rfl, ?_⟩
        show ReadPost R _ (sigF s) _ _ _
        rw [hF.out]
        exact ⟨rfl, t', HR2.out, HO.out⟩
      | some p =>
        obtain ⟨n, t⟩ := p
        rw [hl] at hp
        obtain ⟨rfl, hw2⟩ := hp
        have hF : Hid (sigF s = some ((3, n), t)) := by show _ = _; simp [sigF, roundF, hl, hs2, hs3]
        have HO := Lib.hid (HO1.out.trans hw2.only)
        have HR2 := Lib.hid hw2.rd
        have H0 := Lib.hid (hw2.block HB0.out (by omega))
        have H1 := Lib.hid (hw2.block HB1.out (by omega))
        have z0 := blk_cell H0.out 0; have z1 := blk_cell H0.out 1
        have y0 := blk_free H0.out 0; have y1 := blk_free H0.out 1
        have c0 := blk_cell H1.out 0; have c1 := blk_cell H1.out 1
        have f0 := blk_free H1.out 0; have f1 := blk_free H1.out 1
        clear hw2 hl hs2 hs3
        go_wp2_with fail
        refine bodyPost_ret (v := .agg #[.int .i64 3, .int .i64 n]) (by simp [results, Tryz.results75, go_sem, z0, z1]) rfl ?_
        show ReadPost R _ (sigF s) _ _ _
        rw [hF.out]
        exact ⟨rfl, (by exact (by repeat (first | (refine (heap_setCell_past _ _ _ _ ?_).trans ?_; · (first | omega | (simp; done) | (simp; omega) | fail)) | (refine (heap_alloc_past _ _ _ ?_).trans ?_; · (first | omega | (simp; done) | (simp; omega) | fail)) | exact HR2.out | fail))), (by exact (by repeat (first | exact HO.out | (refine OnlyIn.setNew ?_ _ _ ?_; rotate_left; · (first | omega | (simp; done) | (simp; omega) | fail)) | refine OnlyIn.alloc' ?_ _ | refine OnlyIn.drew' ?_ | fail)))⟩
    | none =>
      go_enter Tryz.func75, Tryz.ntmps75
      go_wp2_with fail
      refine wp_loop_rounds 3 ?_
      rw [rounds_succ]
      go_wp2_with fail
      refine (Itoa_any 2 (by omega) (by omega) _).mono ?_
      rintro e w1 ⟨rfl, rfl⟩
      go_wp2_with fail
      refine (skip_no R s (dec 2) _ (by exact (by repeat (first | (refine (heap_setCell_past _ _ _ _ ?_).trans ?_; · (first | omega | (simp; done) | (simp; omega) | fail)) | (refine (heap_alloc_past _ _ _ ?_).trans ?_; · (first | omega | (simp; done) | (simp; omega) | fail)) | exact HR.out | fail))) hs2).mono ?_
      rintro e w1 ⟨rfl, hw1⟩
      have HB0 := Lib.hid (show w1.heap[w.heap.size]? = some (.cells #[.int .i64 0, .int .i64 0] 26) from hw1.block (by exact (by repeat (first | exact heap_alloc_at _ _ _ (by (first | omega | (simp; done) | (simp; omega) | fail)) | (refine (heap_alloc_past _ _ _ ?_).trans ?_; · (first | omega | (simp; done) | (simp; omega) | fail)) | fail))) (by omega))
      have b1 : w1.heap[w.heap.size + 1]? = some (.cells #[.int .i64 1, .int .i64 0] 26) := hw1.block (by exact (by repeat (first | exact heap_alloc_at _ _ _ (by (first | omega | (simp; done) | (simp; omega) | fail)) | (refine (heap_alloc_past _ _ _ ?_).trans ?_; · (first | omega | (simp; done) | (simp; omega) | fail)) | fail))) (by omega)
      have HR1' := Lib.hid hw1.rd
      have HO1' := Lib.hid (show OnlyIn (fun k => k = R) w w1 from OnlyIn.trans (by exact (by repeat (first | exact OnlyIn.refl _ _ | (refine OnlyIn.setNew ?_ _ _ ?_; rotate_left; · (first | omega | (simp; done) | (simp; omega) | fail)) | refine OnlyIn.alloc' ?_ _ | refine OnlyIn.drew' ?_ | fail))) hw1.only)
      have c0 := blk_cell b1 0; have c1 := blk_cell b1 1
      have f0 := blk_free b1 0; have f1 := blk_free b1 1
      have HB1' := Lib.hid b1
      clear b1 hw1
      go_wp2_with fail
      rw [rounds_succ]
      go_wp2_with fail
      refine (Itoa_any 3 (by omega) (by omega) _).mono ?_
      rintro e w1' ⟨rfl, rfl⟩
      go_wp2_with fail
      refine (skip_no R s (dec 3) _ HR1'.out hs3).mono ?_
      rintro e w3 ⟨rfl, hw3⟩
      have HB0 := Lib.hid (hw3.block HB0.out (by omega))
      have HB1 := Lib.hid (hw3.block HB1'.out (by omega))
      have HO1 := Lib.hid (HO1'.out.trans hw3.only)
      have HR1 := Lib.hid hw3.rd
      clear c0 c1 f0 f1 hw3 HB1' HO1' HR1'
      go_wp2_with fail
      rw [rounds_succ]
      go_wp2_with fail
      refine (letter_any R s _ HR1.out).mono ?_
      intro e w2 hp
      cases hl : letterF s with
      | none =>
        rw [hl] at hp
        obtain ⟨rfl, t', hw2⟩ := hp
        have hF : Hid (sigF s = none) := by show _ = _; simp [sigF, roundF, hl, hs2, hs3]
        have HO := Lib.hid (HO1.out.trans hw2.only)
        have HR2 := Lib.hid hw2.rd
        clear hw2
        go_wp2_with fail
        refine ⟨rfl, ?_⟩
        show ReadPost R _ (sigF s) _ _ _
        rw [hF.out]
        exact ⟨rfl, t', HR2.out, HO.out⟩
      | some p =>
        obtain ⟨n, t⟩ := p
        rw [hl] at hp
        obtain ⟨rfl, hw2⟩ := hp
        have hF : Hid (sigF s = some ((1, n), t)) := by show _ = _; simp [sigF, roundF, hl, hs2, hs3]
        have HO := Lib.hid (HO1.out.trans hw2.only)
        have HR2 := Lib.hid hw2.rd
        have H0 := Lib.hid (hw2.block HB0.out (by omega))
        have H1 := Lib.hid (hw2.block HB1.out (by omega))
        have z0 := blk_cell H0.out 0; have z1 := blk_cell H0.out 1
        have y0 := blk_free H0.out 0; have y1 := blk_free H0.out 1
        have c0 := blk_cell H1.out 0; have c1 := blk_cell H1.out 1
        have f0 := blk_free H1.out 0; have f1 := blk_free H1.out 1
        clear hw2 hl hs2 hs3
        go_wp2_with fail
        refine bodyPost_ret (v := .agg #[.int .i64 1, .int .i64 n]) (by simp [results, Tryz.results75, go_sem, z0, z1]) rfl ?_
        show ReadPost R _ (sigF s) _ _ _
        rw [hF.out]
        exact ⟨rfl, (by exact (by repeat (first | (refine (heap_setCell_past _ _ _ _ ?_).trans ?_; · (first | omega | (simp; done) | (simp; omega) | fail)) | (refine (heap_alloc_past _ _ _ ?_).trans ?_; · (first | omega | (simp; done) | (simp; omega) | fail)) | exact HR2.out | fail))), (by exact (by repeat (first | exact HO.out | (refine OnlyIn.setNew ?_ _ _ ?_; rotate_left; · (first | omega | (simp; done) | (simp; omega) | fail)) | refine OnlyIn.alloc' ?_ _ | refine OnlyIn.drew' ?_ | fail)))⟩

end Go.Proofs.YtlekbddlemfokaaGreatDoor
