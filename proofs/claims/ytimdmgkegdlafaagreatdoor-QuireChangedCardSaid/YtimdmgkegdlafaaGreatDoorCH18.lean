/- The parts Ra, Rb, Rc of the proof, joined. It holds without conditions of its own. -/
import Derived.Test.YtimdmgkegdlafaaGreatDoorCH7
import Derived.Test.YtimdmgkegdlafaaGreatDoorCH11
import Derived.Test.YtimdmgkegdlafaaGreatDoorCH3
import Derived.Lib.OthersKept
import Derived.WalkSmall
/- Contracts of the reader: a word, a digit, a number; and where it ends. -/
namespace Go.Proofs.YtimdmgkegdlafaaGreatDoor
set_option linter.unusedSimpArgs false
set_option linter.unusedVariables false
open Go Go.RowKit Go.Sort Go.BigFrame

/-- The reader lies in block R and has s yet to read. -/
def Rd (W : World) (R : Nat) (s : Bs) : Prop := W.heap[R]? = some (.cells #[S s] 109)
/-- Only the reader has turned; it has s yet to read. -/
structure Rw (R : Nat) (s : Bs) (w w' : World) : Prop where
  rd : Rd w' R s
  only : OnlyIn (fun k => k = R) w w'
theorem Rw.trans {R : Nat} {s t : Bs} {a b c : World} (h : Rw R s a b) (k : Rw R t b c) : Rw R t a c := ⟨k.rd, h.only.trans k.only⟩
theorem Rd.later {R : Nat} {s : Bs} {w w' : World} (h : Rd w R s) (hb : Below w.heap.size w w') : Rw R s w w' :=
  ⟨blk_later hb h, OnlyIn.of_below hb⟩
theorem Rw.block {R : Nat} {s : Bs} {w w' : World} (h : Rw R s w w') {k : Nat} {o : Obj} (hk : w.heap[k]? = some o) (hne : k ≠ R) : w'.heap[k]? = some o :=
  (h.only.block k (blk_lt hk) hne).trans hk
theorem Rw.size {R : Nat} {s : Bs} {w w' : World} (h : Rw R s w w') : w.heap.size ≤ w'.heap.size := h.only.size
theorem Rw.below {R : Nat} {s : Bs} {w w0 w' : World} (h : Rw R s w w') {B : Nat} (hb : Below B w0 w) (hB : B ≤ w.heap.size) (hR : B ≤ R) : Below B w0 w' :=
  h.only.below hb hB (fun _ e => by omega)

/-- How the reading ends where a text has not the form. -/
abbrev panicE : Ending := .panicked [{ v := .iface 25 (.int .i64 6), recovered := false }]
/-- What a reader hands back: what it read, or its end. -/
def ReadPost {α : Type} (R : Nat) (enc : α → Value) (r : Option (α × Bs)) (w : World) (e : Ending) (w' : World) : Prop := match r with
  | some (x, t) => e = .returned (enc x) ∧ Rw R t w w'
  | none => e = panicE ∧ ∃ t, Rw R t w w'

theorem hasPrefix_eq (s p : Bs) : Lib.hasPrefix s p = (skipF p s).isSome := by
  unfold Lib.hasPrefix skipF
  cases h : p.isPrefixOf s <;> simp_all

set_option maxHeartbeats 400000 in
theorem skip_yes (R : Nat) (s p t : Bs) (w : World) (hr : Rd w R s) (h : skipF p s = some t) :
    Calls Tryz.prog 58 #[.pointer (some ⟨R, 0, none⟩), S p] w fun e w' => e = .returned (.bool true) ∧ Rw R t w w' := by
  have e1 : Lib.hasPrefix s p = true := by rw [hasPrefix_eq, h]; rfl
  have e2 : Lib.trimPrefix s p = t := by
    unfold skipF at h; unfold Lib.trimPrefix; simp_all
  have c0 := blk_cell hr 0
  have f0 := blk_free hr 0
  have HR := Lib.hid hr
  have HE := Lib.hid e1
  have HF := Lib.hid e2
  clear hr h e1 e2
  go_enter Tryz.func58, Tryz.ntmps58
  go_wp2_with fail
  refine (Tryz.strings_CutPrefix _ _ _).mono ?_
  rintro e w1 ⟨rfl, rfl⟩
  simp only [HE.out, HF.out]
  go_wp2_with fail
  go_ret
  exact ⟨rfl, blk_set1 HR.out _, OnlyIn.setCell _ _ _ rfl⟩

set_option maxHeartbeats 400000 in
theorem skip_no (R : Nat) (s p : Bs) (w : World) (hr : Rd w R s) (h : skipF p s = none) :
    Calls Tryz.prog 58 #[.pointer (some ⟨R, 0, none⟩), S p] w fun e w' => e = .returned (.bool false) ∧ Rw R s w w' := by
  have e1 : Lib.hasPrefix s p = false := by rw [hasPrefix_eq, h]; rfl
  have e2 : Lib.trimPrefix s p = s := by
    unfold Lib.trimPrefix; simp [e1]
  have c0 := blk_cell hr 0
  have f0 := blk_free hr 0
  have HR := Lib.hid hr
  have HE := Lib.hid e1
  have HF := Lib.hid e2
  clear hr h e1 e2
  go_enter Tryz.func58, Tryz.ntmps58
  go_wp2_with fail
  refine (Tryz.strings_CutPrefix _ _ _).mono ?_
  rintro e w1 ⟨rfl, rfl⟩
  simp only [HE.out, HF.out]
  go_wp2_with fail
  go_ret
  exact ⟨rfl, blk_set1 HR.out _, OnlyIn.setCell _ _ _ rfl⟩

set_option maxHeartbeats 400000 in
theorem fail_any (v : Value) (w : World) : Calls Tryz.prog 57 #[v] w fun e w' => e = panicE ∧ w = w' := by
  go_enter Tryz.func57, Tryz.ntmps57
  go_wp2_with fail
  exact ⟨rfl, rfl, rfl⟩

set_option maxHeartbeats 400000 in
theorem must_no (R : Nat) (s p : Bs) (w : World) (hr : Rd w R s) (h : skipF p s = none) :
    Calls Tryz.prog 60 #[.pointer (some ⟨R, 0, none⟩), S p] w fun e w' => e = panicE ∧ Rw R s w w' := by
  go_enter Tryz.func60, Tryz.ntmps60
  go_wp2_with fail
  refine (skip_no R s p _ hr h).mono ?_
  rintro e w1 ⟨rfl, hw⟩
  go_wp2_with fail
  refine (fail_any _ _).mono ?_
  rintro e w2 ⟨rfl, rfl⟩
  go_wp2_with fail
  exact ⟨rfl, rfl, hw⟩
set_option maxHeartbeats 400000 in
theorem must_yes (R : Nat) (s p t : Bs) (w : World) (hr : Rd w R s) (h : skipF p s = some t) :
    Calls Tryz.prog 60 #[.pointer (some ⟨R, 0, none⟩), S p] w fun e w' => e = .returned (.tuple #[]) ∧ Rw R t w w' := by
  go_enter Tryz.func60, Tryz.ntmps60
  go_wp2_with fail
  refine (skip_yes R s p t _ hr h).mono ?_
  rintro e w1 ⟨rfl, hw⟩
  go_wp2_with fail
  go_end0
  exact ⟨rfl, hw⟩

theorem dec_one {k : Nat} (h : k < 10) : dec (k : Int) = [UInt8.ofNat (48 + k)] := by simp [dec, decN, h]
theorem skip_one (c d : UInt8) (s : Bs) : skipF [c] (d :: s) = if c = d then some s else none := by
  unfold skipF
  simp only [List.isPrefixOf]
  by_cases h : c = d <;> simp [h]
theorem skip_nil (c : UInt8) : skipF [c] [] = none := rfl
theorem digit_hit {s t : Bs} {n : Int} (h : digitF s = some (n, t)) : ∃ k : Nat, n = k ∧ k < 10 ∧ skipF (dec k) s = some t ∧ ∀ j : Nat, j < k → skipF (dec j) s = none := by
  cases s with
  | nil => cases h
  | cons c s =>
    simp only [digitF] at h
    split at h
    · rename_i hc
      simp only [Option.some.injEq, Prod.mk.injEq] at h
      obtain ⟨rfl, rfl⟩ := h
      refine ⟨c.toNat - 48, by omega, by omega, ?_, fun j hj => ?_⟩
      · rw [dec_one (by omega), skip_one, if_pos]
        rw [show 48 + (c.toNat - 48) = c.toNat by omega]; simp
      · rw [dec_one (by omega), skip_one, if_neg]
        intro e
        have := congrArg UInt8.toNat e
        simp only [UInt8.toNat_ofNat'] at this
        omega
    · cases h
theorem digit_miss {s : Bs} (h : digitF s = none) (j : Nat) (hj : j < 10) : skipF (dec j) s = none := by
  rw [dec_one hj]
  cases s with
  | nil => rfl
  | cons c s =>
    simp only [digitF] at h
    split at h
    · cases h
    · rename_i hc
      rw [skip_one, if_neg]
      intro e
      have := congrArg UInt8.toNat e
      simp only [UInt8.toNat_ofNat'] at this
      omega

set_option maxHeartbeats 400000 in
theorem digit_no (R : Nat) (s : Bs) (w : World) (hr : Rd w R s) (h : digitF s = none) :
    Calls Tryz.prog 89 #[.pointer (some ⟨R, 0, none⟩)] w fun e w' => e = .returned (.tuple #[.int .i64 0, .bool false]) ∧ Rw R s w w' := by
  have HR := Lib.hid hr
  have HD := Lib.hid h
  clear hr h
  go_enter Tryz.func89, Tryz.ntmps89
  go_wp2_with fail
  go_loopw [5] (fun i wr => ∃ k : Nat, k ≤ 10 ∧ i = .int .i64 k ∧ Hid (Rw R s w wr)) (fun i _ => 10 - (intOf i).toNat)
  case atStart => exact ⟨0, by omega, rfl, ⟨HR.out, OnlyIn.refl _ _⟩⟩
  case round =>
    obtain ⟨k, hk, rfl, hw⟩ := hrel
    by_cases hlt : k < 10
    · go_wp2_with fail
      refine (Itoa_any k (by omega) (by omega) _).mono ?_
      rintro e w1 ⟨rfl, rfl⟩
      go_wp2_with fail
      refine (skip_no R s (dec k) _ hw.out.rd (digit_miss HD.out k hlt)).mono ?_
      rintro e w1 ⟨rfl, hw1⟩
      have HW := Lib.hid (hw.out.trans hw1)
      clear hw1 hw
      go_wp2_with fail
      go_roundw
      case rel => exact ⟨k + 1, by omega, by go_num, HW⟩
      case measure => simp [intOf]; omega
    · go_wp2_with fail
      go_ret2
      exact ⟨rfl, hw.out⟩
set_option maxHeartbeats 400000 in
theorem digit_yes (R : Nat) (s t : Bs) (n : Int) (w : World) (hr : Rd w R s) (h : digitF s = some (n, t)) :
    Calls Tryz.prog 89 #[.pointer (some ⟨R, 0, none⟩)] w fun e w' => e = .returned (.tuple #[.int .i64 n, .bool true]) ∧ Rw R t w w' := by
  have HR := Lib.hid hr
  obtain ⟨m, rfl, hm, hh, hj⟩ := digit_hit h
  have HD := Lib.hid hj
  have HH := Lib.hid hh
  clear hr h hh hj
  go_enter Tryz.func89, Tryz.ntmps89
  go_wp2_with fail
  go_loopw [5] (fun i wr => ∃ k : Nat, k ≤ m ∧ i = .int .i64 k ∧ Hid (Rw R s w wr)) (fun i _ => 10 - (intOf i).toNat)
  case atStart => exact ⟨0, by omega, rfl, ⟨HR.out, OnlyIn.refl _ _⟩⟩
  case round =>
    obtain ⟨k, hk, rfl, hw⟩ := hrel
    by_cases hlt : k < m
    · go_wp2_with fail
      refine (Itoa_any k (by omega) (by omega) _).mono ?_
      rintro e w1 ⟨rfl, rfl⟩
      go_wp2_with fail
      refine (skip_no R s (dec k) _ hw.out.rd (HD.out k hlt)).mono ?_
      rintro e w1 ⟨rfl, hw1⟩
      have HW := Lib.hid (hw.out.trans hw1)
      clear hw1 hw
      go_wp2_with fail
      go_roundw
      case rel => exact ⟨k + 1, by omega, by go_num, HW⟩
      case measure => simp [intOf]; omega
    · obtain rfl : k = m := by omega
      go_wp2_with fail
      refine (Itoa_any k (by omega) (by omega) _).mono ?_
      rintro e w1 ⟨rfl, rfl⟩
      go_wp2_with fail
      refine (skip_yes R s (dec k) t _ hw.out.rd HH.out).mono ?_
      rintro e w1 ⟨rfl, hw1⟩
      have HW := Lib.hid (hw.out.trans hw1)
      clear hw1 hw
      go_wp2_with fail
      go_ret2
      exact ⟨rfl, HW.out⟩

set_option maxHeartbeats 1000000 in
theorem number_any (R : Nat) (s : Bs) (w : World) (hr : Rd w R s) :
    Calls Tryz.prog 61 #[.pointer (some ⟨R, 0, none⟩)] w (ReadPost R (fun n => .int .i64 n) (numberF s) w) := by
  have HR := Lib.hid hr
  clear hr
  cases hd : digitF s with
  | none =>
    have hn : numberF s = none := by simp [numberF, hd]
    rw [hn]
    have HD := Lib.hid hd
    clear hd hn
    go_enter Tryz.func61, Tryz.ntmps61
    go_wp2_with fail
    refine (digit_no R s _ HR.out HD.out).mono ?_
    rintro e w1 ⟨rfl, hw⟩
    have HW := Lib.hid hw
    clear hw
    go_wp2_with fail
    refine (fail_any _ _).mono ?_
    rintro e w2 ⟨rfl, rfl⟩
    go_wp2_with fail
    exact ⟨rfl, rfl, s, HW.out⟩
  | some p =>
    obtain ⟨n, t⟩ := p
    have hn : numberF s = numF 3 n t := by simp [numberF, hd]
    obtain ⟨-, hn0, hn9⟩ := digitF_len hd
    have HN := Lib.hid hn
    have HD := Lib.hid hd
    rw [hn]
    clear hd hn
    go_enter Tryz.func61, Tryz.ntmps61
    go_wp2_with fail
    refine (digit_yes R s t n _ HR.out HD.out).mono ?_
    rintro e w1 ⟨rfl, hw⟩
    have HW := Lib.hid hw
    clear hw
    go_wp2_with fail
    go_loopw [3] (fun v wr => ∃ (f : Nat) (m : Int) (u : Bs), f ≤ 3 ∧ (f = 3 → m ≤ 9) ∧ (f = 2 → 10 ≤ m ∨ m = 0) ∧ f ≥ 2 ∧ 0 ≤ m ∧ m ≤ 12 ∧ v = .int .i64 m ∧ Hid (numF 3 n t = numF f m u) ∧ Hid (Rw R u w wr)) (fun v _ => 100 - (intOf v).toNat)
    case atStart => exact ⟨3, n, t, by omega, fun _ => hn9, by omega, by omega, hn0, by omega, rfl, rfl, HW⟩
    case round =>
      obtain ⟨f, m, u, hf, hf3, hf2, hge, hm0, hm, rfl, HF, hw⟩ := hrel
      by_cases hz : m ≤ 0
      · have hF : numF f m u = some (m, u) := by
          obtain ⟨f', rfl⟩ : ∃ f', f = f' + 1 := ⟨f - 1, by omega⟩
          simp [numF, hz]
        have HF2 := Lib.hid (HF.out.trans hF)
        clear HF hF HN
        go_wp2_with fail
        go_ret
        show ReadPost R _ (numF 3 n t) _ _ _
        rw [HF2.out]
        exact ⟨rfl, hw.out⟩
      · obtain ⟨f', rfl⟩ : ∃ f', f = f' + 1 := ⟨f - 1, by omega⟩
        cases hd : digitF u with
        | none =>
          have hF : numF (f' + 1) m u = some (m, u) := by simp [numF, hz, hd]
          have HF2 := Lib.hid (HF.out.trans hF)
          have HD := Lib.hid hd
          clear HF hF hd HN
          go_wp2_with fail
          refine (digit_no R u _ hw.out.rd HD.out).mono ?_
          rintro e w2 ⟨rfl, hw2⟩
          have HW := Lib.hid (hw.out.trans hw2)
          clear hw2 hw
          go_wp2_with fail
          go_ret
          show ReadPost R _ (numF 3 n t) _ _ _
          rw [HF2.out]
          exact ⟨rfl, HW.out⟩
        | some p =>
          obtain ⟨d, u2⟩ := p
          obtain ⟨-, hd0, hd9⟩ := digitF_len hd
          have HD := Lib.hid hd
          by_cases hbig : 12 < 10 * m + d
          · have hF : numF (f' + 1) m u = none := by simp [numF, hz, hd, hbig]
            have HF2 := Lib.hid (HF.out.trans hF)
            clear HF hF hd HN
            go_wp2_with fail
            refine (digit_yes R u u2 d _ hw.out.rd HD.out).mono ?_
            rintro e w2 ⟨rfl, hw2⟩
            have HW := Lib.hid (hw.out.trans hw2)
            clear hw2 hw
            go_wp2_with fail
            refine (fail_any _ _).mono ?_
            rintro e w2 ⟨rfl, rfl⟩
            go_wp2_with fail
            refine ⟨rfl, ?_⟩
            show ReadPost R _ (numF 3 n t) _ _ _
            rw [HF2.out]
            exact ⟨rfl, u2, HW.out⟩
          · have hF : numF (f' + 1) m u = numF f' (10 * m + d) u2 := by simp [numF, hz, hd, hbig]
            have HF2 := Lib.hid (HF.out.trans hF)
            have hf'2 : f' = 2 := by
              rcases Nat.lt_or_ge f' 2 with h | h
              · have : f' + 1 = 2 := by omega
                have := hf2 this
                omega
              · omega
            subst hf'2
            clear HF hF hd HN
            go_wp2_with fail
            refine (digit_yes R u u2 d _ hw.out.rd HD.out).mono ?_
            rintro e w2 ⟨rfl, hw2⟩
            have HW := Lib.hid (hw.out.trans hw2)
            clear hw2 hw
            go_wp2_with fail
            go_roundw
            case rel => exact ⟨2, 10 * m + d, u2, by omega, by omega, by omega, by omega, by omega, by omega, rfl, HF2, HW⟩
            case measure => simp [intOf]; omega

end Go.Proofs.YtimdmgkegdlafaaGreatDoor

/- Contracts of the reader: a letter, a signature, a change. -/
namespace Go.Proofs.YtimdmgkegdlafaaGreatDoor
set_option linter.unusedSimpArgs false
set_option linter.unusedVariables false
open Go Go.RowKit Go.Sort Go.BigFrame Go.Lib

theorem letterAt_hit : ∀ {cs : List UInt8} {i n : Int} {s t : Bs}, letterAtF cs i s = some (n, t) → ∃ k : Nat, n = i + k ∧ k < cs.length ∧ skipF [cs.getD k 0] s = some t ∧ ∀ j, j < k → skipF [cs.getD j 0] s = none
  | [], _, _, _, _, h => by cases h
  | c :: cs, i, n, s, t, h => by
    simp only [letterAtF] at h
    split at h
    · rename_i u hu
      simp only [Option.some.injEq, Prod.mk.injEq] at h
      obtain ⟨rfl, rfl⟩ := h
      exact ⟨0, by omega, by simp, hu, fun j hj => by omega⟩
    · rename_i hu
      obtain ⟨k, h1, h2, h3, h4⟩ := letterAt_hit h
      refine ⟨k + 1, by omega, by simp; omega, h3, fun j hj => ?_⟩
      cases j with
      | zero => exact hu
      | succ j => exact h4 j (by omega)
theorem letterAt_miss : ∀ {cs : List UInt8} {i : Int} {s : Bs}, letterAtF cs i s = none → ∀ j, j < cs.length → skipF [cs.getD j 0] s = none
  | [], _, _, _, j, hj => by simp at hj
  | c :: cs, i, s, h, j, hj => by
    simp only [letterAtF] at h
    split at h
    · cases h
    · rename_i hu
      cases j with
      | zero => exact hu
      | succ j => exact letterAt_miss h j (by simpa using hj)

abbrev LB : ByteArray := ⟨#[65, 66, 67, 68, 69, 70, 71, 72, 73, 75, 76, 77, 78, 79, 80, 81, 82, 83, 84, 86, 88, 89, 90]⟩
theorem LB_at : ∀ k, (h : k < 23) → (LB[k]'h).toNat < 128 ∧ LB[k]'h = letterL.getD k 0 := by decide +kernel
theorem next_letter (w : World) (I k : Nat) (ty : TypeId) (hk : k < 23) (h : w.heap[I]? = some (.stringIter LB k)) :
    (Instr.next (.pointer (some ⟨I, 0, none⟩)) true ty).run Tryz.prog w = .ok (.tuple #[.bool true, .int .i64 k, .int .i32 (letterL.getD k 0).toNat]) (w.iterAt I LB (k + 1)) := by
  rw [run_next_ascii_at w I LB k ty h hk (LB_at k hk).1, (LB_at k hk).2]
theorem next_end (w : World) (I : Nat) (ty : TypeId) (h : w.heap[I]? = some (.stringIter LB 23)) :
    (Instr.next (.pointer (some ⟨I, 0, none⟩)) true ty).run Tryz.prog w = .ok (.tuple #[.bool false]) w :=
  run_next_end_at w I LB 23 ty h (by decide)
theorem OnlyIn.iterAt {X : Nat → Prop} (W : World) (k : Nat) (s : ByteArray) (pos : Nat) (h : X k) : OnlyIn X W (W.iterAt k s pos) :=
  ⟨rfl, rfl, rfl, by rw [iterAt_size]; exact Nat.le_refl _, fun i _ hx => iterAt_other W k i s pos (fun e => hx (e ▸ h))⟩

theorem OnlyIn.fresh {X : Nat → Prop} {w W W' : World} (h : OnlyIn X w W) (k : OnlyIn (fun j => w.heap.size ≤ j) W W') : OnlyIn X w W' :=
  ⟨k.os.trans h.os, k.tape.trans h.tape, k.output.trans h.output, Nat.le_trans h.size k.size, fun i hi hx => (k.block i (Nat.lt_of_lt_of_le hi h.size) (fun hj => by omega)).trans (h.block i hi hx)⟩
theorem enc_letter : ∀ k, k < 23 → Utf8.encode ((letterL.getD k 0).toNat : Int) = ⟨[letterL.getD k 0].toArray⟩ := by decide +kernel

/-- How the letters are gone through: at letter k, whose iterator has been moved on. -/
structure AtLetter (w wn : World) (R k : Nat) (s : Bs) : Prop where
  it : wn.heap[w.heap.size]? = some (.stringIter LB k)
  rd : Rd wn R s
  only : OnlyIn (fun j => j = R) w wn
theorem AtLetter.next {w wn : World} {R k : Nat} {s : Bs} (h : AtLetter w wn R k s) (hR : R < w.heap.size) : AtLetter w (wn.iterAt w.heap.size LB (k + 1)) R (k + 1) s :=
  ⟨iterAt_heap _ _ _ _ _ h.it, (iterAt_other _ _ _ _ _ (by omega)).trans h.rd, h.only.fresh (OnlyIn.iterAt _ _ _ _ (Nat.le_refl _))⟩
theorem AtLetter.skip {w wn w' : World} {R k : Nat} {s t : Bs} (h : AtLetter w wn R k s) (hR : R < w.heap.size) (hw : Rw R t wn w') : AtLetter w w' R k t :=
  ⟨hw.block h.it (by omega), hw.rd, h.only.trans hw.only⟩

set_option maxHeartbeats 1000000 in
theorem letter_any (R : Nat) (s : Bs) (w : World) (hr : Rd w R s) :
    Calls Tryz.prog 100 #[.pointer (some ⟨R, 0, none⟩)] w (ReadPost R (fun n => .int .i64 n) (letterF s) w) := by
  have HR := Lib.hid hr
  have hR := blk_lt hr
  clear hr
  have h0 : Hid (AtLetter w (w.iter LB 0) R 0 s) := ⟨World.iter_heap _ _ _, (heap_alloc_past _ _ _ hR).trans HR.out, OnlyIn.alloc _ _ _⟩
  cases hl : letterAtF letterL 0 s with
  | some p =>
    obtain ⟨n, t⟩ := p
    obtain ⟨m, hn, hm, hh, hj⟩ := letterAt_hit hl
    have hm23 : m < 23 := hm
    obtain rfl : n = m := by omega
    have hF : letterF s = some ((m : Int), t) := by simp [letterF, hl]
    rw [hF]
    have HH := Lib.hid hh
    have HJ := Lib.hid hj
    clear hh hj hl hF hn hm
    go_enter Tryz.func100, Tryz.ntmps100
    go_wp2_with fail
    go_loopw [3] (fun v wr => ∃ k : Nat, k ≤ m ∧ Hid (AtLetter w wr R k s)) (fun _ wr => 23 - wr.iterPos w.heap.size)
    case atStart => exact ⟨0, by omega, h0⟩
    case round =>
      obtain ⟨k, hk, hA⟩ := hrel
      by_cases hlt : k < m
      · skip
        obtain ⟨wn, hwn⟩ : ∃ wn, wn = wr.iterAt w.heap.size LB (k + 1) := ⟨_, rfl⟩
        obtain ⟨c, hc⟩ : ∃ c, c = letterL.getD k 0 := ⟨_, rfl⟩
        have hnx := fun ty => next_letter wr w.heap.size k ty (by omega) hA.out.it
        have he := enc_letter k (by omega)
        have HN := Lib.hid (iterPos_of hA.out.it)
        rw [← hwn, ← hc] at hnx
        rw [← hc] at he
        have HA := Lib.hid (hA.out.next hR)
        rw [← hwn] at HA
        have HC := Lib.hid hc
        clear hwn hA hc
        go_wp2_with fail
        refine (skip_no R s [c] _ HA.out.rd (by rw [HC.out]; exact HJ.out k hlt)).mono ?_
        rintro e w1 ⟨rfl, hw1⟩
        have HA1 := Lib.hid (HA.out.skip hR hw1)
        clear hw1 HA
        go_wp2_with fail
        go_roundw
        case rel => exact ⟨k + 1, by omega, HA1⟩
        case measure => rw [HN.out, iterPos_of HA1.out.it]; omega
      · obtain rfl : k = m := by omega
        obtain ⟨wn, hwn⟩ : ∃ wn, wn = wr.iterAt w.heap.size LB (k + 1) := ⟨_, rfl⟩
        obtain ⟨c, hc⟩ : ∃ c, c = letterL.getD k 0 := ⟨_, rfl⟩
        have hnx := fun ty => next_letter wr w.heap.size k ty (by omega) hA.out.it
        have he := enc_letter k (by omega)
        have HN := Lib.hid (iterPos_of hA.out.it)
        rw [← hwn, ← hc] at hnx
        rw [← hc] at he
        have HA := Lib.hid (hA.out.next hR)
        rw [← hwn] at HA
        have HC := Lib.hid hc
        clear hwn hA hc
        go_wp2_with fail
        refine (skip_yes R s [c] t _ HA.out.rd (by rw [HC.out]; exact HH.out)).mono ?_
        rintro e w1 ⟨rfl, hw1⟩
        have HA1 := Lib.hid (HA.out.skip hR hw1)
        clear hw1 HA
        go_wp2_with fail
        go_ret
        exact ⟨rfl, HA1.out.rd, HA1.out.only⟩
  | none =>
    have hj := letterAt_miss hl
    have HJ := Lib.hid hj
    clear hj
    have fin : ∀ (x : Bs → Prop), True := fun _ => trivial
    clear fin
    cases h1 : skipF [112, 105] s with
    | some t =>
      have hF : letterF s = some (23, t) := by simp [letterF, hl, h1]
      rw [hF]
      have H1 := Lib.hid h1
      clear hl h1 hF
      go_enter Tryz.func100, Tryz.ntmps100
      go_wp2_with fail
      go_loopw [3] (fun v wr => ∃ k : Nat, k ≤ 23 ∧ Hid (AtLetter w wr R k s)) (fun _ wr => 23 - wr.iterPos w.heap.size)
      case atStart => exact ⟨0, by omega, h0⟩
      case round =>
        obtain ⟨k, hk, hA⟩ := hrel
        by_cases hlt : k < 23
        · skip
          obtain ⟨wn, hwn⟩ : ∃ wn, wn = wr.iterAt w.heap.size LB (k + 1) := ⟨_, rfl⟩
          obtain ⟨c, hc⟩ : ∃ c, c = letterL.getD k 0 := ⟨_, rfl⟩
          have hnx := fun ty => next_letter wr w.heap.size k ty (by omega) hA.out.it
          have he := enc_letter k (by omega)
          have HN := Lib.hid (iterPos_of hA.out.it)
          rw [← hwn, ← hc] at hnx
          rw [← hc] at he
          have HA := Lib.hid (hA.out.next hR)
          rw [← hwn] at HA
          have HC := Lib.hid hc
          clear hwn hA hc
          go_wp2_with fail
          refine (skip_no R s [c] _ HA.out.rd (by rw [HC.out]; exact HJ.out k hlt)).mono ?_
          rintro e w1 ⟨rfl, hw1⟩
          have HA1 := Lib.hid (HA.out.skip hR hw1)
          clear hw1 HA
          go_wp2_with fail
          go_roundw
          case rel => exact ⟨k + 1, by omega, HA1⟩
          case measure => rw [HN.out, iterPos_of HA1.out.it]; omega
        · obtain rfl : k = 23 := by omega
          have hnx := fun ty => next_end wr w.heap.size ty hA.out.it
          go_wp2_with fail
          refine (skip_yes R s [112, 105] t _ hA.out.rd H1.out).mono ?_
          rintro e w1 ⟨rfl, hw1⟩
          have HA1 := Lib.hid (hA.out.skip hR hw1)
          clear hw1 hA hnx
          go_wp2_with fail
          go_ret
          exact ⟨rfl, HA1.out.rd, HA1.out.only⟩
    | none =>
      have HL := Lib.hid hl
      have H1 := Lib.hid h1
      clear hl h1
      go_enter Tryz.func100, Tryz.ntmps100
      go_wp2_with fail
      go_loopw [3] (fun v wr => ∃ k : Nat, k ≤ 23 ∧ Hid (AtLetter w wr R k s)) (fun _ wr => 23 - wr.iterPos w.heap.size)
      case atStart => exact ⟨0, by omega, h0⟩
      case round =>
        obtain ⟨k, hk, hA⟩ := hrel
        by_cases hlt : k < 23
        · skip
          obtain ⟨wn, hwn⟩ : ∃ wn, wn = wr.iterAt w.heap.size LB (k + 1) := ⟨_, rfl⟩
          obtain ⟨c, hc⟩ : ∃ c, c = letterL.getD k 0 := ⟨_, rfl⟩
          have hnx := fun ty => next_letter wr w.heap.size k ty (by omega) hA.out.it
          have he := enc_letter k (by omega)
          have HN := Lib.hid (iterPos_of hA.out.it)
          rw [← hwn, ← hc] at hnx
          rw [← hc] at he
          have HA := Lib.hid (hA.out.next hR)
          rw [← hwn] at HA
          have HC := Lib.hid hc
          clear hwn hA hc
          go_wp2_with fail
          refine (skip_no R s [c] _ HA.out.rd (by rw [HC.out]; exact HJ.out k hlt)).mono ?_
          rintro e w1 ⟨rfl, hw1⟩
          have HA1 := Lib.hid (HA.out.skip hR hw1)
          clear hw1 HA
          go_wp2_with fail
          go_roundw
          case rel => exact ⟨k + 1, by omega, HA1⟩
          case measure => rw [HN.out, iterPos_of HA1.out.it]; omega
        · obtain rfl : k = 23 := by omega
          have hnx := fun ty => next_end wr w.heap.size ty hA.out.it
          go_wp2_with fail
          refine (skip_no R s [112, 105] _ hA.out.rd H1.out).mono ?_
          rintro e w1 ⟨rfl, hw1⟩
          have HA1 := Lib.hid (hA.out.skip hR hw1)
          clear hw1 hA hnx
          cases h2 : skipF [99, 104, 105] s with
          | some t =>
            have H2 := Lib.hid h2
            clear h2
            go_wp2_with fail
            refine (must_yes R s [99, 104, 105] t _ HA1.out.rd H2.out).mono ?_
            rintro e w2 ⟨rfl, hw2⟩
            have HA2 := Lib.hid (HA1.out.skip hR hw2)
            clear hw2 HA1
            go_wp2_with fail
            go_ret
            have hF : letterF s = some (24, t) := by simp [letterF, HL.out, H1.out, H2.out]
            show ReadPost R _ (letterF s) _ _ _
            rw [hF]
            exact ⟨rfl, HA2.out.rd, HA2.out.only⟩
          | none =>
            have H2 := Lib.hid h2
            clear h2
            go_wp2_with fail
            refine (must_no R s [99, 104, 105] _ HA1.out.rd H2.out).mono ?_
            rintro e w2 ⟨rfl, hw2⟩
            have HA2 := Lib.hid (HA1.out.skip hR hw2)
            clear hw2 HA1
            go_wp2_with fail
            have hF : letterF s = none := by simp [letterF, HL.out, H1.out, H2.out]
            refine ⟨rfl, ?_⟩
            show ReadPost R _ (letterF s) _ _ _
            rw [hF]
            exact ⟨rfl, s, HA2.out.rd, HA2.out.only⟩

end Go.Proofs.YtimdmgkegdlafaaGreatDoor

/- Contracts of the reader: a signature, a change. -/
namespace Go.Proofs.YtimdmgkegdlafaaGreatDoor
set_option linter.unusedSimpArgs false
set_option linter.unusedVariables false
open Go Go.RowKit Go.Sort Go.BigFrame Go.Lib

theorem OnlyIn.setNew {X : Nat → Prop} {w W : World} (h : OnlyIn X w W) (p : Addr) (v : Value) (hp : w.heap.size ≤ p.block) : OnlyIn X w (W.setCell p v) := h.fresh (OnlyIn.setCell W p v hp)
theorem OnlyIn.alloc' {X : Nat → Prop} {w W : World} (h : OnlyIn X w W) (o : Obj) : OnlyIn X w (W.alloc o) := h.trans (OnlyIn.alloc X W o)
theorem OnlyIn.drew' {X : Nat → Prop} {w W : World} (h : OnlyIn X w W) : OnlyIn X w W.drew := h.trans (OnlyIn.drew X W)
def sigV (a : Int × Int) : Value := .agg #[.int .i64 a.1, .int .i64 a.2]

set_option maxHeartbeats 1000000 in
theorem sig_any (R : Nat) (s : Bs) (w : World) (hr : Rd w R s) :
    Calls Tryz.prog 80 #[.pointer (some ⟨R, 0, none⟩)] w (ReadPost R sigV (sigF s) w) := by
  have HR := Lib.hid hr
  have hR := blk_lt hr
  clear hr
  cases hs2 : skipF [50] s with
  | some u =>
    have hs3 : True := trivial
    go_enter Tryz.func80, Tryz.ntmps80
    go_wp2_with fail
    refine wp_loop_rounds 3 ?_
    rw [rounds_succ]
    go_wp2_with fail
    refine (Itoa_any 2 (by omega) (by omega) _).mono ?_
    rintro e w1 ⟨rfl, rfl⟩
    go_wp2_with fail
    refine (skip_yes R s (dec 2) u _ (by exact (by repeat (first | (refine (heap_setCell_past _ _ _ _ ?_).trans ?_; · (first | omega | (simp; done) | (simp; omega) | fail)) | (refine (heap_alloc_past _ _ _ ?_).trans ?_; · (first | omega | (simp; done) | (simp; omega) | fail)) | exact HR.out | fail))) hs2).mono ?_
    rintro e w1 ⟨rfl, hw1⟩
    have HB0 := Lib.hid (show w1.heap[w.heap.size]? = some (.cells #[.int .i64 0, .int .i64 0] 39) from hw1.block (by exact (by repeat (first | exact heap_alloc_at _ _ _ (by (first | omega | (simp; done) | (simp; omega) | fail)) | (refine (heap_alloc_past _ _ _ ?_).trans ?_; · (first | omega | (simp; done) | (simp; omega) | fail)) | fail))) (by omega))
    have b1 : w1.heap[w.heap.size + 1]? = some (.cells #[.int .i64 1, .int .i64 0] 39) := hw1.block (by exact (by repeat (first | exact heap_alloc_at _ _ _ (by (first | omega | (simp; done) | (simp; omega) | fail)) | (refine (heap_alloc_past _ _ _ ?_).trans ?_; · (first | omega | (simp; done) | (simp; omega) | fail)) | fail))) (by omega)
    have HR1' := Lib.hid hw1.rd
    have HO1' := Lib.hid (show OnlyIn (fun k => k = R) w w1 from OnlyIn.trans (by exact (by repeat (first | exact OnlyIn.refl _ _ | (refine OnlyIn.setNew ?_ _ _ ?_; rotate_left; · (first | omega | (simp; done) | (simp; omega) | fail)) | refine OnlyIn.alloc' ?_ _ | refine OnlyIn.drew' ?_ | fail))) hw1.only)
    have c0 := blk_cell b1 0; have c1 := blk_cell b1 1
    have f0 := blk_free b1 0; have f1 := blk_free b1 1
    have HB1' := Lib.hid b1
    clear b1 hw1
    go_wp2_with fail
    have HB0 := Lib.hid (show (w1.setCell ⟨w.heap.size + 1, 0, none⟩ (.int .i64 2)).heap[w.heap.size]? = some (.cells #[.int .i64 0, .int .i64 0] 39) from (by repeat (first | (refine (heap_setCell_past _ _ _ _ ?_).trans ?_; · (first | omega | (simp; done) | (simp; omega) | fail)) | (refine (heap_alloc_past _ _ _ ?_).trans ?_; · (first | omega | (simp; done) | (simp; omega) | fail)) | exact HB0.out | fail)))
    have HB1 := Lib.hid (show (w1.setCell ⟨w.heap.size + 1, 0, none⟩ (.int .i64 2)).heap[w.heap.size + 1]? = some (.cells #[.int .i64 2, .int .i64 0] 39) from blk_set HB1'.out 0 _)
    have HR1 := Lib.hid (show Rd (w1.setCell ⟨w.heap.size + 1, 0, none⟩ (.int .i64 2)) R u from (by repeat (first | (refine (heap_setCell_past _ _ _ _ ?_).trans ?_; · (first | omega | (simp; done) | (simp; omega) | fail)) | (refine (heap_alloc_past _ _ _ ?_).trans ?_; · (first | omega | (simp; done) | (simp; omega) | fail)) | exact HR1'.out | fail)))
    have HO1 := Lib.hid (show OnlyIn (fun k => k = R) w (w1.setCell ⟨w.heap.size + 1, 0, none⟩ (.int .i64 2)) from (by repeat (first | exact HO1'.out | (refine OnlyIn.setNew ?_ _ _ ?_; rotate_left; · (first | omega | (simp; done) | (simp; omega) | fail)) | refine OnlyIn.alloc' ?_ _ | refine OnlyIn.drew' ?_ | fail)))
    clear c0 c1 f0 f1 HB1' HR1' HO1'
    refine (letter_any R u _ HR1.out).mono ?_
    intro e w2 hp
    cases hl : letterF u with
    | none =>
      rw [hl] at hp
      obtain ⟨rfl, t', hw2⟩ := hp
      have hF : Hid (sigF s = none) := by show _ = _; simp [sigF, roundF, hl, hs2, hs3]
      have HO := Lib.hid (HO1.out.trans hw2.only)
      have HR2 := Lib.hid hw2.rd
      clear hw2
      go_wp2_with fail
      refine ⟨rfl, ?_⟩
      show ReadPost R _ (sigF s) _ _ _
      rw [hF.out]
      exact ⟨rfl, t', HR2.out, HO.out⟩
    | some p =>
      obtain ⟨n, t⟩ := p
      rw [hl] at hp
      obtain ⟨rfl, hw2⟩ := hp
      have hF : Hid (sigF s = some ((2, n), t)) := by show _ = _; simp [sigF, roundF, hl, hs2, hs3]
      have HO := Lib.hid (HO1.out.trans hw2.only)
      have HR2 := Lib.hid hw2.rd
      have H0 := Lib.hid (hw2.block HB0.out (by omega))
      have H1 := Lib.hid (hw2.block HB1.out (by omega))
      have z0 := blk_cell H0.out 0; have z1 := blk_cell H0.out 1
      have y0 := blk_free H0.out 0; have y1 := blk_free H0.out 1
      have c0 := blk_cell H1.out 0; have c1 := blk_cell H1.out 1
      have f0 := blk_free H1.out 0; have f1 := blk_free H1.out 1
      clear hw2 hl hs2 hs3
      go_wp2_with fail
      refine bodyPost_ret (v := .agg #[.int .i64 2, .int .i64 n]) (by simp [results, Tryz.results80, go_sem, z0, z1]) rfl ?_
      show ReadPost R _ (sigF s) _ _ _
      rw [hF.out]
      exact ⟨rfl, (by exact (by repeat (first | (refine (heap_setCell_past _ _ _ _ ?_).trans ?_; · (first | omega | (simp; done) | (simp; omega) | fail)) | (refine (heap_alloc_past _ _ _ ?_).trans ?_; · (first | omega | (simp; done) | (simp; omega) | fail)) | exact HR2.out | fail))), (by exact (by repeat (first | exact HO.out | (refine OnlyIn.setNew ?_ _ _ ?_; rotate_left; · (first | omega | (simp; done) | (simp; omega) | fail)) | refine OnlyIn.alloc' ?_ _ | refine OnlyIn.drew' ?_ | fail)))⟩
  | none =>
    cases hs3 : skipF [51] s with
    | some u =>
      go_enter Tryz.func80, Tryz.ntmps80
      go_wp2_with fail
      refine wp_loop_rounds 3 ?_
      rw [rounds_succ]
      go_wp2_with fail
      refine (Itoa_any 2 (by omega) (by omega) _).mono ?_
      rintro e w1 ⟨rfl, rfl⟩
      go_wp2_with fail
      refine (skip_no R s (dec 2) _ (by exact (by repeat (first | (refine (heap_setCell_past _ _ _ _ ?_).trans ?_; · (first | omega | (simp; done) | (simp; omega) | fail)) | (refine (heap_alloc_past _ _ _ ?_).trans ?_; · (first | omega | (simp; done) | (simp; omega) | fail)) | exact HR.out | fail))) hs2).mono ?_
      rintro e w1 ⟨rfl, hw1⟩
      have HB0 := Lib.hid (show w1.heap[w.heap.size]? = some (.cells #[.int .i64 0, .int .i64 0] 39) from hw1.block (by exact (by repeat (first | exact heap_alloc_at _ _ _ (by (first | omega | (simp; done) | (simp; omega) | fail)) | (refine (heap_alloc_past _ _ _ ?_).trans ?_; · (first | omega | (simp; done) | (simp; omega) | fail)) | fail))) (by omega))
      have b1 : w1.heap[w.heap.size + 1]? = some (.cells #[.int .i64 1, .int .i64 0] 39) := hw1.block (by exact (by repeat (first | exact heap_alloc_at _ _ _ (by (first | omega | (simp; done) | (simp; omega) | fail)) | (refine (heap_alloc_past _ _ _ ?_).trans ?_; · (first | omega | (simp; done) | (simp; omega) | fail)) | fail))) (by omega)
      have HR1' := Lib.hid hw1.rd
      have HO1' := Lib.hid (show OnlyIn (fun k => k = R) w w1 from OnlyIn.trans (by exact (by repeat (first | exact OnlyIn.refl _ _ | (refine OnlyIn.setNew ?_ _ _ ?_; rotate_left; · (first | omega | (simp; done) | (simp; omega) | fail)) | refine OnlyIn.alloc' ?_ _ | refine OnlyIn.drew' ?_ | fail))) hw1.only)
      have c0 := blk_cell b1 0; have c1 := blk_cell b1 1
      have f0 := blk_free b1 0; have f1 := blk_free b1 1
      have HB1' := Lib.hid b1
      clear b1 hw1
      go_wp2_with fail
      rw [rounds_succ]
      go_wp2_with fail
      refine (Itoa_any 3 (by omega) (by omega) _).mono ?_
      rintro e w1' ⟨rfl, rfl⟩
      go_wp2_with fail
      refine (skip_yes R s (dec 3) u _ HR1'.out hs3).mono ?_
      rintro e w3 ⟨rfl, hw3⟩
      have HB0 := Lib.hid (hw3.block HB0.out (by omega))
      have HB1' := Lib.hid (hw3.block HB1'.out (by omega))
      have HO1' := Lib.hid (HO1'.out.trans hw3.only)
      have HR1' := Lib.hid hw3.rd
      clear c0 c1 f0 f1 hw3
      have c0 := blk_cell HB1'.out 0; have c1 := blk_cell HB1'.out 1
      have f0 := blk_free HB1'.out 0; have f1 := blk_free HB1'.out 1
      go_wp2_with fail
      have HB0 := Lib.hid (show (w3.setCell ⟨w.heap.size + 1, 0, none⟩ (.int .i64 3)).heap[w.heap.size]? = some (.cells #[.int .i64 0, .int .i64 0] 39) from (by repeat (first | (refine (heap_setCell_past _ _ _ _ ?_).trans ?_; · (first | omega | (simp; done) | (simp; omega) | fail)) | (refine (heap_alloc_past _ _ _ ?_).trans ?_; · (first | omega | (simp; done) | (simp; omega) | fail)) | exact HB0.out | fail)))
      have HB1 := Lib.hid (show (w3.setCell ⟨w.heap.size + 1, 0, none⟩ (.int .i64 3)).heap[w.heap.size + 1]? = some (.cells #[.int .i64 3, .int .i64 0] 39) from blk_set HB1'.out 0 _)
      have HR1 := Lib.hid (show Rd (w3.setCell ⟨w.heap.size + 1, 0, none⟩ (.int .i64 3)) R u from (by repeat (first | (refine (heap_setCell_past _ _ _ _ ?_).trans ?_; · (first | omega | (simp; done) | (simp; omega) | fail)) | (refine (heap_alloc_past _ _ _ ?_).trans ?_; · (first | omega | (simp; done) | (simp; omega) | fail)) | exact HR1'.out | fail)))
      have HO1 := Lib.hid (show OnlyIn (fun k => k = R) w (w3.setCell ⟨w.heap.size + 1, 0, none⟩ (.int .i64 3)) from (by repeat (first | exact HO1'.out | (refine OnlyIn.setNew ?_ _ _ ?_; rotate_left; · (first | omega | (simp; done) | (simp; omega) | fail)) | refine OnlyIn.alloc' ?_ _ | refine OnlyIn.drew' ?_ | fail)))
      clear c0 c1 f0 f1 HB1' HR1' HO1'
      refine (letter_any R u _ HR1.out).mono ?_
      intro e w2 hp
      cases hl : letterF u with
      | none =>
        rw [hl] at hp
        obtain ⟨rfl, t', hw2⟩ := hp
        have hF : Hid (sigF s = none) := by show _ = _; simp [sigF, roundF, hl, hs2, hs3]
        have HO := Lib.hid (HO1.out.trans hw2.only)
        have HR2 := Lib.hid hw2.rd
        clear hw2
        go_wp2_with fail
        refine ⟨rfl, ?_⟩
        show ReadPost R _ (sigF s) _ _ _
        rw [hF.out]
        exact ⟨rfl, t', HR2.out, HO.out⟩
      | some p =>
        obtain ⟨n, t⟩ := p
        rw [hl] at hp
        obtain ⟨rfl, hw2⟩ := hp
        have hF : Hid (sigF s = some ((3, n), t)) := by show _ = _; simp [sigF, roundF, hl, hs2, hs3]
        have HO := Lib.hid (HO1.out.trans hw2.only)
        have HR2 := Lib.hid hw2.rd
        have H0 := Lib.hid (hw2.block HB0.out (by omega))
        have H1 := Lib.hid (hw2.block HB1.out (by omega))
        have z0 := blk_cell H0.out 0; have z1 := blk_cell H0.out 1
        have y0 := blk_free H0.out 0; have y1 := blk_free H0.out 1
        have c0 := blk_cell H1.out 0; have c1 := blk_cell H1.out 1
        have f0 := blk_free H1.out 0; have f1 := blk_free H1.out 1
        clear hw2 hl hs2 hs3
        go_wp2_with fail
        refine bodyPost_ret (v := .agg #[.int .i64 3, .int .i64 n]) (by simp [results, Tryz.results80, go_sem, z0, z1]) rfl ?_
        show ReadPost R _ (sigF s) _ _ _
        rw [hF.out]
        exact ⟨rfl, (by exact (by repeat (first | (refine (heap_setCell_past _ _ _ _ ?_).trans ?_; · (first | omega | (simp; done) | (simp; omega) | fail)) | (refine (heap_alloc_past _ _ _ ?_).trans ?_; · (first | omega | (simp; done) | (simp; omega) | fail)) | exact HR2.out | fail))), (by exact (by repeat (first | exact HO.out | (refine OnlyIn.setNew ?_ _ _ ?_; rotate_left; · (first | omega | (simp; done) | (simp; omega) | fail)) | refine OnlyIn.alloc' ?_ _ | refine OnlyIn.drew' ?_ | fail)))⟩
    | none =>
      go_enter Tryz.func80, Tryz.ntmps80
      go_wp2_with fail
      refine wp_loop_rounds 3 ?_
      rw [rounds_succ]
      go_wp2_with fail
      refine (Itoa_any 2 (by omega) (by omega) _).mono ?_
      rintro e w1 ⟨rfl, rfl⟩
      go_wp2_with fail
      refine (skip_no R s (dec 2) _ (by exact (by repeat (first | (refine (heap_setCell_past _ _ _ _ ?_).trans ?_; · (first | omega | (simp; done) | (simp; omega) | fail)) | (refine (heap_alloc_past _ _ _ ?_).trans ?_; · (first | omega | (simp; done) | (simp; omega) | fail)) | exact HR.out | fail))) hs2).mono ?_
      rintro e w1 ⟨rfl, hw1⟩
      have HB0 := Lib.hid (show w1.heap[w.heap.size]? = some (.cells #[.int .i64 0, .int .i64 0] 39) from hw1.block (by exact (by repeat (first | exact heap_alloc_at _ _ _ (by (first | omega | (simp; done) | (simp; omega) | fail)) | (refine (heap_alloc_past _ _ _ ?_).trans ?_; · (first | omega | (simp; done) | (simp; omega) | fail)) | fail))) (by omega))
      have b1 : w1.heap[w.heap.size + 1]? = some (.cells #[.int .i64 1, .int .i64 0] 39) := hw1.block (by exact (by repeat (first | exact heap_alloc_at _ _ _ (by (first | omega | (simp; done) | (simp; omega) | fail)) | (refine (heap_alloc_past _ _ _ ?_).trans ?_; · (first | omega | (simp; done) | (simp; omega) | fail)) | fail))) (by omega)
      have HR1' := Lib.hid hw1.rd
      have HO1' := Lib.hid (show OnlyIn (fun k => k = R) w w1 from OnlyIn.trans (by exact (by repeat (first | exact OnlyIn.refl _ _ | (refine OnlyIn.setNew ?_ _ _ ?_; rotate_left; · (first | omega | (simp; done) | (simp; omega) | fail)) | refine OnlyIn.alloc' ?_ _ | refine OnlyIn.drew' ?_ | fail))) hw1.only)
      have c0 := blk_cell b1 0; have c1 := blk_cell b1 1
      have f0 := blk_free b1 0; have f1 := blk_free b1 1
      have HB1' := Lib.hid b1
      clear b1 hw1
      go_wp2_with fail
      rw [rounds_succ]
      go_wp2_with fail
      refine (Itoa_any 3 (by omega) (by omega) _).mono ?_
      rintro e w1' ⟨rfl, rfl⟩
      go_wp2_with fail
      refine (skip_no R s (dec 3) _ HR1'.out hs3).mono ?_
      rintro e w3 ⟨rfl, hw3⟩
      have HB0 := Lib.hid (hw3.block HB0.out (by omega))
      have HB1 := Lib.hid (hw3.block HB1'.out (by omega))
      have HO1 := Lib.hid (HO1'.out.trans hw3.only)
      have HR1 := Lib.hid hw3.rd
      clear c0 c1 f0 f1 hw3 HB1' HO1' HR1'
      go_wp2_with fail
      rw [rounds_succ]
      go_wp2_with fail
      refine (letter_any R s _ HR1.out).mono ?_
      intro e w2 hp
      cases hl : letterF s with
      | none =>
        rw [hl] at hp
        obtain ⟨rfl, t', hw2⟩ := hp
        have hF : Hid (sigF s = none) := by show _ = _; simp [sigF, roundF, hl, hs2, hs3]
        have HO := Lib.hid (HO1.out.trans hw2.only)
        have HR2 := Lib.hid hw2.rd
        clear hw2
        go_wp2_with fail
        refine ⟨rfl, ?_⟩
        show ReadPost R _ (sigF s) _ _ _
        rw [hF.out]
        exact ⟨rfl, t', HR2.out, HO.out⟩
      | some p =>
        obtain ⟨n, t⟩ := p
        rw [hl] at hp
        obtain ⟨rfl, hw2⟩ := hp
        have hF : Hid (sigF s = some ((1, n), t)) := by show _ = _; simp [sigF, roundF, hl, hs2, hs3]
        have HO := Lib.hid (HO1.out.trans hw2.only)
        have HR2 := Lib.hid hw2.rd
        have H0 := Lib.hid (hw2.block HB0.out (by omega))
        have H1 := Lib.hid (hw2.block HB1.out (by omega))
        have z0 := blk_cell H0.out 0; have z1 := blk_cell H0.out 1
        have y0 := blk_free H0.out 0; have y1 := blk_free H0.out 1
        have c0 := blk_cell H1.out 0; have c1 := blk_cell H1.out 1
        have f0 := blk_free H1.out 0; have f1 := blk_free H1.out 1
        clear hw2 hl hs2 hs3
        go_wp2_with fail
        refine bodyPost_ret (v := .agg #[.int .i64 1, .int .i64 n]) (by simp [results, Tryz.results80, go_sem, z0, z1]) rfl ?_
        show ReadPost R _ (sigF s) _ _ _
        rw [hF.out]
        exact ⟨rfl, (by exact (by repeat (first | (refine (heap_setCell_past _ _ _ _ ?_).trans ?_; · (first | omega | (simp; done) | (simp; omega) | fail)) | (refine (heap_alloc_past _ _ _ ?_).trans ?_; · (first | omega | (simp; done) | (simp; omega) | fail)) | exact HR2.out | fail))), (by exact (by repeat (first | exact HO.out | (refine OnlyIn.setNew ?_ _ _ ?_; rotate_left; · (first | omega | (simp; done) | (simp; omega) | fail)) | refine OnlyIn.alloc' ?_ _ | refine OnlyIn.drew' ?_ | fail)))⟩

end Go.Proofs.YtimdmgkegdlafaaGreatDoor
