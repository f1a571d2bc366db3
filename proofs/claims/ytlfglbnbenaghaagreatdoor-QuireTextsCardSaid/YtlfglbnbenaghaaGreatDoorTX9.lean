/- The parts Ra, Rb, Rc, Re, Cw, Rj of the proof, joined. It holds without conditions of its own. -/
import Derived.Test.YtlfglbnbenaghaaGreatDoorTX3
import Derived.Test.YtlfglbnbenaghaaGreatDoorTX6
import Derived.Test.YtlfglbnbenaghaaGreatDoorTX1
import Derived.Lib.OthersKept
import Derived.WalkSmall
import Derived.Laws.CopyOwn
import Derived.OwnWalk
/- Contracts of the reader: a word, a digit, a number; and where it ends. -/
namespace Go.Proofs.YtlfglbnbenaghaaGreatDoor
set_option linter.unusedSimpArgs false
set_option linter.unusedVariables false
open Go Go.RowKit Go.Sort Go.BigFrame

/-- The reader lies in block R and has s yet to read. -/
def Rd (W : World) (R : Nat) (s : Bs) : Prop := W.heap[R]? = some (.cells #[S s] 109)
/-- Only the reader has turned; it has s yet to read. -/
structure Rw (R : Nat) (s : Bs) (w w' : World) : Prop where
  rd : Rd w' R s
  only : OnlyIn (fun k => k = R) w w'
theorem Rw.trans {R : Nat} {s t : Bs} {a b c : World} (h : Rw R s a b) (k : Rw R t b c) : Rw R t a c := ⟨k.rd, h.only.trans k.only⟩
theorem Rd.later {R : Nat} {s : Bs} {w w' : World} (h : Rd w R s) (hb : Below w.heap.size w w') : Rw R s w w' :=
  ⟨blk_later hb h, OnlyIn.of_below hb⟩
theorem Rw.block {R : Nat} {s : Bs} {w w' : World} (h : Rw R s w w') {k : Nat} {o : Obj} (hk : w.heap[k]? = some o) (hne : k ≠ R) : w'.heap[k]? = some o :=
  (h.only.block k (blk_lt hk) hne).trans hk
theorem Rw.size {R : Nat} {s : Bs} {w w' : World} (h : Rw R s w w') : w.heap.size ≤ w'.heap.size := h.only.size
theorem Rw.below {R : Nat} {s : Bs} {w w0 w' : World} (h : Rw R s w w') {B : Nat} (hb : Below B w0 w) (hB : B ≤ w.heap.size) (hR : B ≤ R) : Below B w0 w' :=
  h.only.below hb hB (fun _ e => by omega)

/-- How the reading ends where a text has not the form. -/
abbrev panicE : Ending := .panicked [{ v := .iface 25 (.int .i64 6), recovered := false }]
/-- What a reader hands back: what it read, or its end. -/
def ReadPost {α : Type} (R : Nat) (enc : α → Value) (r : Option (α × Bs)) (w : World) (e : Ending) (w' : World) : Prop := match r with
  | some (x, t) => e = .returned (enc x) ∧ Rw R t w w'
  | none => e = panicE ∧ ∃ t, Rw R t w w'

theorem hasPrefix_eq (s p : Bs) : Lib.hasPrefix s p = (skipF p s).isSome := by
  unfold Lib.hasPrefix skipF
  cases h : p.isPrefixOf s <;> simp_all

set_option maxHeartbeats 400000 in
theorem skip_yes (R : Nat) (s p t : Bs) (w : World) (hr : Rd w R s) (h : skipF p s = some t) :
    Calls Tryz.prog 58 #[.pointer (some ⟨R, 0, none⟩), S p] w fun e w' => e = .returned (.bool true) ∧ Rw R t w w' := by
  have e1 : Lib.hasPrefix s p = true := by rw [hasPrefix_eq, h]; rfl
  have e2 : Lib.trimPrefix s p = t := by
    unfold skipF at h; unfold Lib.trimPrefix; simp_all
  have c0 := blk_cell hr 0
  have f0 := blk_free hr 0
  have HR := Lib.hid hr
  have HE := Lib.hid e1
  have HF := Lib.hid e2
  clear hr h e1 e2
  go_enter Tryz.func58, Tryz.ntmps58
  go_wp2_with fail
  refine (Tryz.strings_CutPrefix _ _ _).mono ?_
  rintro e w1 ⟨rfl, rfl⟩
  simp only [HE.out, HF.out]
  go_wp2_with fail
  go_ret
  exact ⟨rfl, blk_set1 HR.out _, OnlyIn.setCell _ _ _ rfl⟩

set_option maxHeartbeats 400000 in
theorem skip_no (R : Nat) (s p : Bs) (w : World) (hr : Rd w R s) (h : skipF p s = none) :
    Calls Tryz.prog 58 #[.pointer (some ⟨R, 0, none⟩), S p] w fun e w' => e = .returned (.bool false) ∧ Rw R s w w' := by
  have e1 : Lib.hasPrefix s p = false := by rw [hasPrefix_eq, h]; rfl
  have e2 : Lib.trimPrefix s p = s := by
    unfold Lib.trimPrefix; simp [e1]
  have c0 := blk_cell hr 0
  have f0 := blk_free hr 0
  have HR := Lib.hid hr
  have HE := Lib.hid e1
  have HF := Lib.hid e2
  clear hr h e1 e2
  go_enter Tryz.func58, Tryz.ntmps58
  go_wp2_with fail
  refine (Tryz.strings_CutPrefix _ _ _).mono ?_
  rintro e w1 ⟨rfl, rfl⟩
  simp only [HE.out, HF.out]
  go_wp2_with fail
  go_ret
  exact ⟨rfl, blk_set1 HR.out _, OnlyIn.setCell _ _ _ rfl⟩

set_option maxHeartbeats 400000 in
theorem fail_any (v : Value) (w : World) : Calls Tryz.prog 57 #[v] w fun e w' => e = panicE ∧ w = w' := by
  go_enter Tryz.func57, Tryz.ntmps57
  go_wp2_with fail
  exact ⟨rfl, rfl, rfl⟩

set_option maxHeartbeats 400000 in
theorem must_no (R : Nat) (s p : Bs) (w : World) (hr : Rd w R s) (h : skipF p s = none) :
    Calls Tryz.prog 60 #[.pointer (some ⟨R, 0, none⟩), S p] w fun e w' => e = panicE ∧ Rw R s w w' := by
  go_enter Tryz.func60, Tryz.ntmps60
  go_wp2_with fail
  refine (skip_no R s p _ hr h).mono ?_
  rintro e w1 ⟨rfl, hw⟩
  go_wp2_with fail
  refine (fail_any _ _).mono ?_
  rintro e w2 ⟨rfl, rfl⟩
  go_wp2_with fail
  exact ⟨rfl, rfl, hw⟩
set_option maxHeartbeats 400000 in
theorem must_yes (R : Nat) (s p t : Bs) (w : World) (hr : Rd w R s) (h : skipF p s = some t) :
    Calls Tryz.prog 60 #[.pointer (some ⟨R, 0, none⟩), S p] w fun e w' => e = .returned (.tuple #[]) ∧ Rw R t w w' := by
  go_enter Tryz.func60, Tryz.ntmps60
  go_wp2_with fail
  refine (skip_yes R s p t _ hr h).mono ?_
  rintro e w1 ⟨rfl, hw⟩
  go_wp2_with fail
  go_end0
  exact ⟨rfl, hw⟩

theorem dec_one {k : Nat} (h : k < 10) : dec (k : Int) = [UInt8.ofNat (48 + k)] := by simp [dec, decN, h]
theorem skip_one (c d : UInt8) (s : Bs) : skipF [c] (d :: s) = if c = d then some s else none := by
  unfold skipF
  simp only [List.isPrefixOf]
  by_cases h : c = d <;> simp [h]
theorem skip_nil (c : UInt8) : skipF [c] [] = none := rfl
theorem digit_hit {s t : Bs} {n : Int} (h : digitF s = some (n, t)) : ∃ k : Nat, n = k ∧ k < 10 ∧ skipF (dec k) s = some t ∧ ∀ j : Nat, j < k → skipF (dec j) s = none := by
  cases s with
  | nil => cases h
  | cons c s =>
    simp only [digitF] at h
    split at h
    · rename_i hc
      simp only [Option.some.injEq, Prod.mk.injEq] at h
      obtain ⟨rfl, rfl⟩ := h
      refine ⟨c.toNat - 48, by omega, by omega, ?_, fun j hj => ?_⟩
      · rw [dec_one (by omega), skip_one, if_pos]
        rw [show 48 + (c.toNat - 48) = c.toNat by omega]; simp
      · rw [dec_one (by omega), skip_one, if_neg]
        intro e
        have := congrArg UInt8.toNat e
        simp only [UInt8.toNat_ofNat'] at this
        omega
    · cases h
theorem digit_miss {s : Bs} (h : digitF s = none) (j : Nat) (hj : j < 10) : skipF (dec j) s = none := by
  rw [dec_one hj]
  cases s with
  | nil => rfl
  | cons c s =>
    simp only [digitF] at h
    split at h
    · cases h
    · rename_i hc
      rw [skip_one, if_neg]
      intro e
      have := congrArg UInt8.toNat e
      simp only [UInt8.toNat_ofNat'] at this
      omega

set_option maxHeartbeats 400000 in
theorem digit_no (R : Nat) (s : Bs) (w : World) (hr : Rd w R s) (h : digitF s = none) :
    Calls Tryz.prog 89 #[.pointer (some ⟨R, 0, none⟩)] w fun e w' => e = .returned (.tuple #[.int .i64 0, .bool false]) ∧ Rw R s w w' := by
  have HR := Lib.hid hr
  have HD := Lib.hid h
  clear hr h
  go_enter Tryz.func89, Tryz.ntmps89
  go_wp2_with fail
  go_loopw [5] (fun i wr => ∃ k : Nat, k ≤ 10 ∧ i = .int .i64 k ∧ Hid (Rw R s w wr)) (fun i _ => 10 - (intOf i).toNat)
  case atStart => exact ⟨0, by omega, rfl, ⟨HR.out, OnlyIn.refl _ _⟩⟩
  case round =>
    obtain ⟨k, hk, rfl, hw⟩ := hrel
    by_cases hlt : k < 10
    · go_wp2_with fail
      refine (Itoa_any k (by omega) (by omega) _).mono ?_
      rintro e w1 ⟨rfl, rfl⟩
      go_wp2_with fail
      refine (skip_no R s (dec k) _ hw.out.rd (digit_miss HD.out k hlt)).mono ?_
      rintro e w1 ⟨rfl, hw1⟩
      have HW := Lib.hid (hw.out.trans hw1)
      clear hw1 hw
      go_wp2_with fail
      go_roundw
      case rel => exact ⟨k + 1, by omega, by go_num, HW⟩
      case measure => simp [intOf]; omega
    · go_wp2_with fail
      go_ret2
      exact ⟨rfl, hw.out⟩
set_option maxHeartbeats 400000 in
theorem digit_yes (R : Nat) (s t : Bs) (n : Int) (w : World) (hr : Rd w R s) (h : digitF s = some (n, t)) :
    Calls Tryz.prog 89 #[.pointer (some ⟨R, 0, none⟩)] w fun e w' => e = .returned (.tuple #[.int .i64 n, .bool true]) ∧ Rw R t w w' := by
  have HR := Lib.hid hr
  obtain ⟨m, rfl, hm, hh, hj⟩ := digit_hit h
  have HD := Lib.hid hj
  have HH := Lib.hid hh
  clear hr h hh hj
  go_enter Tryz.func89, Tryz.ntmps89
  go_wp2_with fail
  go_loopw [5] (fun i wr => ∃ k : Nat, k ≤ m ∧ i = .int .i64 k ∧ Hid (Rw R s w wr)) (fun i _ => 10 - (intOf i).toNat)
  case atStart => exact ⟨0, by omega, rfl, ⟨HR.out, OnlyIn.refl _ _⟩⟩
  case round =>
    obtain ⟨k, hk, rfl, hw⟩ := hrel
    by_cases hlt : k < m
    · go_wp2_with fail
      refine (Itoa_any k (by omega) (by omega) _).mono ?_
      rintro e w1 ⟨rfl, rfl⟩
      go_wp2_with fail
      refine (skip_no R s (dec k) _ hw.out.rd (HD.out k hlt)).mono ?_
      rintro e w1 ⟨rfl, hw1⟩
      have HW := Lib.hid (hw.out.trans hw1)
      clear hw1 hw
      go_wp2_with fail
      go_roundw
      case rel => exact ⟨k + 1, by omega, by go_num, HW⟩
      case measure => simp [intOf]; omega
    · obtain rfl : k = m := by omega
      go_wp2_with fail
      refine (Itoa_any k (by omega) (by omega) _).mono ?_
      rintro e w1 ⟨rfl, rfl⟩
      go_wp2_with fail
      refine (skip_yes R s (dec k) t _ hw.out.rd HH.out).mono ?_
      rintro e w1 ⟨rfl, hw1⟩
      have HW := Lib.hid (hw.out.trans hw1)
      clear hw1 hw
      go_wp2_with fail
      go_ret2
      exact ⟨rfl, HW.out⟩

set_option maxHeartbeats 1000000 in
theorem number_any (R : Nat) (s : Bs) (w : World) (hr : Rd w R s) :
    Calls Tryz.prog 61 #[.pointer (some ⟨R, 0, none⟩)] w (ReadPost R (fun n => .int .i64 n) (numberF s) w) := by
  have HR := Lib.hid hr
  clear hr
  cases hd : digitF s with
  | none =>
    have hn : numberF s = none := by simp [numberF, hd]
    rw [hn]
    have HD := Lib.hid hd
    clear hd hn
    go_enter Tryz.func61, Tryz.ntmps61
    go_wp2_with fail
    refine (digit_no R s _ HR.out HD.out).mono ?_
    rintro e w1 ⟨rfl, hw⟩
    have HW := Lib.hid hw
    clear hw
    go_wp2_with fail
    refine (fail_any _ _).mono ?_
    rintro e w2 ⟨rfl, rfl⟩
    go_wp2_with fail
    exact ⟨rfl, rfl, s, HW.out⟩
  | some p =>
    obtain ⟨n, t⟩ := p
    have hn : numberF s = numF 3 n t := by simp [numberF, hd]
    obtain ⟨-, hn0, hn9⟩ := digitF_len hd
    have HN := Lib.hid hn
    have HD := Lib.hid hd
    rw [hn]
    clear hd hn
    go_enter Tryz.func61, Tryz.ntmps61
    go_wp2_with fail
    refine (digit_yes R s t n _ HR.out HD.out).mono ?_
    rintro e w1 ⟨rfl, hw⟩
    have HW := Lib.hid hw
    clear hw
    go_wp2_with fail
    go_loopw [3] (fun v wr => ∃ (f : Nat) (m : Int) (u : Bs), f ≤ 3 ∧ (f = 3 → m ≤ 9) ∧ (f = 2 → 10 ≤ m ∨ m = 0) ∧ f ≥ 2 ∧ 0 ≤ m ∧ m ≤ 12 ∧ v = .int .i64 m ∧ Hid (numF 3 n t = numF f m u) ∧ Hid (Rw R u w wr)) (fun v _ => 100 - (intOf v).toNat)
    case atStart => exact ⟨3, n, t, by omega, fun _ => hn9, by omega, by omega, hn0, by omega, rfl, rfl, HW⟩
    case round =>
      obtain ⟨f, m, u, hf, hf3, hf2, hge, hm0, hm, rfl, HF, hw⟩ := hrel
      by_cases hz : m ≤ 0
      · have hF : numF f m u = some (m, u) := by
          obtain ⟨f', rfl⟩ : ∃ f', f = f' + 1 := ⟨f - 1, by omega⟩
          simp [numF, hz]
        have HF2 := Lib.hid (HF.out.trans hF)
        clear HF hF HN
        go_wp2_with fail
        go_ret
        show ReadPost R _ (numF 3 n t) _ _ _
        rw [HF2.out]
        exact ⟨rfl, hw.out⟩
      · obtain ⟨f', rfl⟩ : ∃ f', f = f' + 1 := ⟨f - 1, by omega⟩
        cases hd : digitF u with
        | none =>
          have hF : numF (f' + 1) m u = some (m, u) := by simp [numF, hz, hd]
          have HF2 := Lib.hid (HF.out.trans hF)
          have HD := Lib.hid hd
          clear HF hF hd HN
          go_wp2_with fail
          refine (digit_no R u _ hw.out.rd HD.out).mono ?_
          rintro e w2 ⟨rfl, hw2⟩
          have HW := Lib.hid (hw.out.trans hw2)
          clear hw2 hw
          go_wp2_with fail
          go_ret
          show ReadPost R _ (numF 3 n t) _ _ _
          rw [HF2.out]
          exact ⟨rfl, HW.out⟩
        | some p =>
          obtain ⟨d, u2⟩ := p
          obtain ⟨-, hd0, hd9⟩ := digitF_len hd
          have HD := Lib.hid hd
          by_cases hbig : 12 < 10 * m + d
          · have hF : numF (f' + 1) m u = none := by simp [numF, hz, hd, hbig]
            have HF2 := Lib.hid (HF.out.trans hF)
            clear HF hF hd HN
            go_wp2_with fail
            refine (digit_yes R u u2 d _ hw.out.rd HD.out).mono ?_
            rintro e w2 ⟨rfl, hw2⟩
            have HW := Lib.hid (hw.out.trans hw2)
            clear hw2 hw
            go_wp2_with fail
            refine (fail_any _ _).mono ?_
            rintro e w2 ⟨rfl, rfl⟩
            go_wp2_with fail
            refine ⟨rfl, ?_⟩
            show ReadPost R _ (numF 3 n t) _ _ _
            rw [HF2.out]
            exact ⟨rfl, u2, HW.out⟩
          · have hF : numF (f' + 1) m u = numF f' (10 * m + d) u2 := by simp [numF, hz, hd, hbig]
            have HF2 := Lib.hid (HF.out.trans hF)
            have hf'2 : f' = 2 := by
              rcases Nat.lt_or_ge f' 2 with h | h
              · have : f' + 1 = 2 := by omega
                have := hf2 this
                omega
              · omega
            subst hf'2
            clear HF hF hd HN
            go_wp2_with fail
            refine (digit_yes R u u2 d _ hw.out.rd HD.out).mono ?_
            rintro e w2 ⟨rfl, hw2⟩
            have HW := Lib.hid (hw.out.trans hw2)
            clear hw2 hw
            go_wp2_with fail
            go_roundw
            case rel => exact ⟨2, 10 * m + d, u2, by omega, by omega, by omega, by omega, by omega, by omega, rfl, HF2, HW⟩
            case measure => simp [intOf]; omega

end Go.Proofs.YtlfglbnbenaghaaGreatDoor

/- Contracts of the reader: a letter, a signature, a change. -/
namespace Go.Proofs.YtlfglbnbenaghaaGreatDoor
set_option linter.unusedSimpArgs false
set_option linter.unusedVariables false
open Go Go.RowKit Go.Sort Go.BigFrame Go.Lib

theorem letterAt_hit : ∀ {cs : List UInt8} {i n : Int} {s t : Bs}, letterAtF cs i s = some (n, t) → ∃ k : Nat, n = i + k ∧ k < cs.length ∧ skipF [cs.getD k 0] s = some t ∧ ∀ j, j < k → skipF [cs.getD j 0] s = none
  | [], _, _, _, _, h => by cases h
  | c :: cs, i, n, s, t, h => by
    simp only [letterAtF] at h
    split at h
    · rename_i u hu
      simp only [Option.some.injEq, Prod.mk.injEq] at h
      obtain ⟨rfl, rfl⟩ := h
      exact ⟨0, by omega, by simp, hu, fun j hj => by omega⟩
    · rename_i hu
      obtain ⟨k, h1, h2, h3, h4⟩ := letterAt_hit h
      refine ⟨k + 1, by omega, by simp; omega, h3, fun j hj => ?_⟩
      cases j with
      | zero => exact hu
      | succ j => exact h4 j (by omega)
theorem letterAt_miss : ∀ {cs : List UInt8} {i : Int} {s : Bs}, letterAtF cs i s = none → ∀ j, j < cs.length → skipF [cs.getD j 0] s = none
  | [], _, _, _, j, hj => by simp at hj
  | c :: cs, i, s, h, j, hj => by
    simp only [letterAtF] at h
    split at h
    · cases h
    · rename_i hu
      cases j with
      | zero => exact hu
      | succ j => exact letterAt_miss h j (by simpa using hj)

abbrev LB : ByteArray := ⟨#[65, 66, 67, 68, 69, 70, 71, 72, 73, 75, 76, 77, 78, 79, 80, 81, 82, 83, 84, 86, 88, 89, 90]⟩
theorem LB_at : ∀ k, (h : k < 23) → (LB[k]'h).toNat < 128 ∧ LB[k]'h = letterL.getD k 0 := by decide +kernel
theorem next_letter (w : World) (I k : Nat) (ty : TypeId) (hk : k < 23) (h : w.heap[I]? = some (.stringIter LB k)) :
    (Instr.next (.pointer (some ⟨I, 0, none⟩)) true ty).run Tryz.prog w = .ok (.tuple #[.bool true, .int .i64 k, .int .i32 (letterL.getD k 0).toNat]) (w.iterAt I LB (k + 1)) := by
  rw [run_next_ascii_at w I LB k ty h hk (LB_at k hk).1, (LB_at k hk).2]
theorem next_end (w : World) (I : Nat) (ty : TypeId) (h : w.heap[I]? = some (.stringIter LB 23)) :
    (Instr.next (.pointer (some ⟨I, 0, none⟩)) true ty).run Tryz.prog w = .ok (.tuple #[.bool false]) w :=
  run_next_end_at w I LB 23 ty h (by decide)
theorem OnlyIn.iterAt {X : Nat → Prop} (W : World) (k : Nat) (s : ByteArray) (pos : Nat) (h : X k) : OnlyIn X W (W.iterAt k s pos) :=
  ⟨rfl, rfl, rfl, by rw [iterAt_size]; exact Nat.le_refl _, fun i _ hx => iterAt_other W k i s pos (fun e => hx (e ▸ h))⟩

theorem OnlyIn.fresh {X : Nat → Prop} {w W W' : World} (h : OnlyIn X w W) (k : OnlyIn (fun j => w.heap.size ≤ j) W W') : OnlyIn X w W' :=
  ⟨k.os.trans h.os, k.tape.trans h.tape, k.output.trans h.output, Nat.le_trans h.size k.size, fun i hi hx => (k.block i (Nat.lt_of_lt_of_le hi h.size) (fun hj => by omega)).trans (h.block i hi hx)⟩
theorem enc_letter : ∀ k, k < 23 → Utf8.encode ((letterL.getD k 0).toNat : Int) = ⟨[letterL.getD k 0].toArray⟩ := by decide +kernel

/-- How the letters are gone through: at letter k, whose iterator has been moved on. -/
structure AtLetter (w wn : World) (R k : Nat) (s : Bs) : Prop where
  it : wn.heap[w.heap.size]? = some (.stringIter LB k)
  rd : Rd wn R s
  only : OnlyIn (fun j => j = R) w wn
theorem AtLetter.next {w wn : World} {R k : Nat} {s : Bs} (h : AtLetter w wn R k s) (hR : R < w.heap.size) : AtLetter w (wn.iterAt w.heap.size LB (k + 1)) R (k + 1) s :=
  ⟨iterAt_heap _ _ _ _ _ h.it, (iterAt_other _ _ _ _ _ (by omega)).trans h.rd, h.only.fresh (OnlyIn.iterAt _ _ _ _ (Nat.le_refl _))⟩
theorem AtLetter.skip {w wn w' : World} {R k : Nat} {s t : Bs} (h : AtLetter w wn R k s) (hR : R < w.heap.size) (hw : Rw R t wn w') : AtLetter w w' R k t :=
  ⟨hw.block h.it (by omega), hw.rd, h.only.trans hw.only⟩

set_option maxHeartbeats 1000000 in
theorem letter_any (R : Nat) (s : Bs) (w : World) (hr : Rd w R s) :
    Calls Tryz.prog 100 #[.pointer (some ⟨R, 0, none⟩)] w (ReadPost R (fun n => .int .i64 n) (letterF s) w) := by
  have HR := Lib.hid hr
  have hR := blk_lt hr
  clear hr
  have h0 : Hid (AtLetter w (w.iter LB 0) R 0 s) := ⟨World.iter_heap _ _ _, (heap_alloc_past _ _ _ hR).trans HR.out, OnlyIn.alloc _ _ _⟩
  cases hl : letterAtF letterL 0 s with
  | some p =>
    obtain ⟨n, t⟩ := p
    obtain ⟨m, hn, hm, hh, hj⟩ := letterAt_hit hl
    have hm23 : m < 23 := hm
    obtain rfl : n = m := by omega
    have hF : letterF s = some ((m : Int), t) := by simp [letterF, hl]
    rw [hF]
    have HH := Lib.hid hh
    have HJ := Lib.hid hj
    clear hh hj hl hF hn hm
    go_enter Tryz.func100, Tryz.ntmps100
    go_wp2_with fail
    go_loopw [3] (fun v wr => ∃ k : Nat, k ≤ m ∧ Hid (AtLetter w wr R k s)) (fun _ wr => 23 - wr.iterPos w.heap.size)
    case atStart => exact ⟨0, by omega, h0⟩
    case round =>
      obtain ⟨k, hk, hA⟩ := hrel
      by_cases hlt : k < m
      · skip
        obtain ⟨wn, hwn⟩ : ∃ wn, wn = wr.iterAt w.heap.size LB (k + 1) := ⟨_, rfl⟩
        obtain ⟨c, hc⟩ : ∃ c, c = letterL.getD k 0 := ⟨_, rfl⟩
        have hnx := fun ty => next_letter wr w.heap.size k ty (by omega) hA.out.it
        have he := enc_letter k (by omega)
        have HN := Lib.hid (iterPos_of hA.out.it)
        rw [← hwn, ← hc] at hnx
        rw [← hc] at he
        have HA := Lib.hid (hA.out.next hR)
        rw [← hwn] at HA
        have HC := Lib.hid hc
        clear hwn hA hc
        go_wp2_with fail
        refine (skip_no R s [c] _ HA.out.rd (by rw [HC.out]; exact HJ.out k hlt)).mono ?_
        rintro e w1 ⟨rfl, hw1⟩
        have HA1 := Lib.hid (HA.out.skip hR hw1)
        clear hw1 HA
        go_wp2_with fail
        go_roundw
        case rel => exact ⟨k + 1, by omega, HA1⟩
        case measure => rw [HN.out, iterPos_of HA1.out.it]; omega
      · obtain rfl : k = m := by omega
        obtain ⟨wn, hwn⟩ : ∃ wn, wn = wr.iterAt w.heap.size LB (k + 1) := ⟨_, rfl⟩
        obtain ⟨c, hc⟩ : ∃ c, c = letterL.getD k 0 := ⟨_, rfl⟩
        have hnx := fun ty => next_letter wr w.heap.size k ty (by omega) hA.out.it
        have he := enc_letter k (by omega)
        have HN := Lib.hid (iterPos_of hA.out.it)
        rw [← hwn, ← hc] at hnx
        rw [← hc] at he
        have HA := Lib.hid (hA.out.next hR)
        rw [← hwn] at HA
        have HC := Lib.hid hc
        clear hwn hA hc
        go_wp2_with fail
        refine (skip_yes R s [c] t _ HA.out.rd (by rw [HC.out]; exact HH.out)).mono ?_
        rintro e w1 ⟨rfl, hw1⟩
        have HA1 := Lib.hid (HA.out.skip hR hw1)
        clear hw1 HA
        go_wp2_with fail
        go_ret
        exact ⟨rfl, HA1.out.rd, HA1.out.only⟩
  | none =>
    have hj := letterAt_miss hl
    have HJ := Lib.hid hj
    clear hj
    have fin : ∀ (x : Bs → Prop), True := fun _ => trivial
    clear fin
    cases h1 : skipF [112, 105] s with
    | some t =>
      have hF : letterF s = some (23, t) := by simp [letterF, hl, h1]
      rw [hF]
      have H1 := Lib.hid h1
      clear hl h1 hF
      go_enter Tryz.func100, Tryz.ntmps100
      go_wp2_with fail
      go_loopw [3] (fun v wr => ∃ k : Nat, k ≤ 23 ∧ Hid (AtLetter w wr R k s)) (fun _ wr => 23 - wr.iterPos w.heap.size)
      case atStart => exact ⟨0, by omega, h0⟩
      case round =>
        obtain ⟨k, hk, hA⟩ := hrel
        by_cases hlt : k < 23
        · skip
          obtain ⟨wn, hwn⟩ : ∃ wn, wn = wr.iterAt w.heap.size LB (k + 1) := ⟨_, rfl⟩
          obtain ⟨c, hc⟩ : ∃ c, c = letterL.getD k 0 := ⟨_, rfl⟩
          have hnx := fun ty => next_letter wr w.heap.size k ty (by omega) hA.out.it
          have he := enc_letter k (by omega)
          have HN := Lib.hid (iterPos_of hA.out.it)
          rw [← hwn, ← hc] at hnx
          rw [← hc] at he
          have HA := Lib.hid (hA.out.next hR)
          rw [← hwn] at HA
          have HC := Lib.hid hc
          clear hwn hA hc
          go_wp2_with fail
          refine (skip_no R s [c] _ HA.out.rd (by rw [HC.out]; exact HJ.out k hlt)).mono ?_
          rintro e w1 ⟨rfl, hw1⟩
          have HA1 := Lib.hid (HA.out.skip hR hw1)
          clear hw1 HA
          go_wp2_with fail
          go_roundw
          case rel => exact ⟨k + 1, by omega, HA1⟩
          case measure => rw [HN.out, iterPos_of HA1.out.it]; omega
        · obtain rfl : k = 23 := by omega
          have hnx := fun ty => next_end wr w.heap.size ty hA.out.it
          go_wp2_with fail
          refine (skip_yes R s [112, 105] t _ hA.out.rd H1.out).mono ?_
          rintro e w1 ⟨rfl, hw1⟩
          have HA1 := Lib.hid (hA.out.skip hR hw1)
          clear hw1 hA hnx
          go_wp2_with fail
          go_ret
          exact ⟨rfl, HA1.out.rd, HA1.out.only⟩
    | none =>
      have HL := Lib.hid hl
      have H1 := Lib.hid h1
      clear hl h1
      go_enter Tryz.func100, Tryz.ntmps100
      go_wp2_with fail
      go_loopw [3] (fun v wr => ∃ k : Nat, k ≤ 23 ∧ Hid (AtLetter w wr R k s)) (fun _ wr => 23 - wr.iterPos w.heap.size)
      case atStart => exact ⟨0, by omega, h0⟩
      case round =>
        obtain ⟨k, hk, hA⟩ := hrel
        by_cases hlt : k < 23
        · skip
          obtain ⟨wn, hwn⟩ : ∃ wn, wn = wr.iterAt w.heap.size LB (k + 1) := ⟨_, rfl⟩
          obtain ⟨c, hc⟩ : ∃ c, c = letterL.getD k 0 := ⟨_, rfl⟩
          have hnx := fun ty => next_letter wr w.heap.size k ty (by omega) hA.out.it
          have he := enc_letter k (by omega)
          have HN := Lib.hid (iterPos_of hA.out.it)
          rw [← hwn, ← hc] at hnx
          rw [← hc] at he
          have HA := Lib.hid (hA.out.next hR)
          rw [← hwn] at HA
          have HC := Lib.hid hc
          clear hwn hA hc
          go_wp2_with fail
          refine (skip_no R s [c] _ HA.out.rd (by rw [HC.out]; exact HJ.out k hlt)).mono ?_
          rintro e w1 ⟨rfl, hw1⟩
          have HA1 := Lib.hid (HA.out.skip hR hw1)
          clear hw1 HA
          go_wp2_with fail
          go_roundw
          case rel => exact ⟨k + 1, by omega, HA1⟩
          case measure => rw [HN.out, iterPos_of HA1.out.it]; omega
        · obtain rfl : k = 23 := by omega
          have hnx := fun ty => next_end wr w.heap.size ty hA.out.it
          go_wp2_with fail
          refine (skip_no R s [112, 105] _ hA.out.rd H1.out).mono ?_
          rintro e w1 ⟨rfl, hw1⟩
          have HA1 := Lib.hid (hA.out.skip hR hw1)
          clear hw1 hA hnx
          cases h2 : skipF [99, 104, 105] s with
          | some t =>
            have H2 := Lib.hid h2
            clear h2
            go_wp2_with fail
            refine (must_yes R s [99, 104, 105] t _ HA1.out.rd H2.out).mono ?_
            rintro e w2 ⟨rfl, hw2⟩
            have HA2 := Lib.hid (HA1.out.skip hR hw2)
            clear hw2 HA1
            go_wp2_with fail
            go_ret
            have hF : letterF s = some (24, t) := by simp [letterF, HL.out, H1.out, H2.out]
            show ReadPost R _ (letterF s) _ _ _
            rw [hF]
            exact ⟨rfl, HA2.out.rd, HA2.out.only⟩
          | none =>
            have H2 := Lib.hid h2
            clear h2
            go_wp2_with fail
            refine (must_no R s [99, 104, 105] _ HA1.out.rd H2.out).mono ?_
            rintro e w2 ⟨rfl, hw2⟩
            have HA2 := Lib.hid (HA1.out.skip hR hw2)
            clear hw2 HA1
            go_wp2_with fail
            have hF : letterF s = none := by simp [letterF, HL.out, H1.out, H2.out]
            refine ⟨rfl, ?_⟩
            show ReadPost R _ (letterF s) _ _ _
            rw [hF]
            exact ⟨rfl, s, HA2.out.rd, HA2.out.only⟩

end Go.Proofs.YtlfglbnbenaghaaGreatDoor

/- Contracts of the reader: a signature, a change. -/
namespace Go.Proofs.YtlfglbnbenaghaaGreatDoor
set_option linter.unusedSimpArgs false
set_option linter.unusedVariables false
open Go Go.RowKit Go.Sort Go.BigFrame Go.Lib

theorem OnlyIn.setNew {X : Nat → Prop} {w W : World} (h : OnlyIn X w W) (p : Addr) (v : Value) (hp : w.heap.size ≤ p.block) : OnlyIn X w (W.setCell p v) := h.fresh (OnlyIn.setCell W p v hp)
theorem OnlyIn.alloc' {X : Nat → Prop} {w W : World} (h : OnlyIn X w W) (o : Obj) : OnlyIn X w (W.alloc o) := h.trans (OnlyIn.alloc X W o)
theorem OnlyIn.drew' {X : Nat → Prop} {w W : World} (h : OnlyIn X w W) : OnlyIn X w W.drew := h.trans (OnlyIn.drew X W)
def sigV (a : Int × Int) : Value := .agg #[.int .i64 a.1, .int .i64 a.2]

set_option maxHeartbeats 1000000 in
theorem sig_any (R : Nat) (s : Bs) (w : World) (hr : Rd w R s) :
    Calls Tryz.prog 80 #[.pointer (some ⟨R, 0, none⟩)] w (ReadPost R sigV (sigF s) w) := by
  have HR := Lib.hid hr
  have hR := blk_lt hr
  clear hr
  cases hs2 : skipF [50] s with
  | some u =>
    have hs3 : True := trivial
    go_enter Tryz.func80, Tryz.ntmps80
    go_wp2_with fail
    refine wp_loop_rounds 3 ?_
    rw [rounds_succ]
    go_wp2_with fail
    refine (Itoa_any 2 (by omega) (by omega) _).mono ?_
    rintro e w1 ⟨rfl, rfl⟩
    go_wp2_with fail
    refine (skip_yes R s (dec 2) u _ (by exact (by repeat (first | (refine (heap_setCell_past _ _ _ _ ?_).trans ?_; · (first | omega | (simp; done) | (simp; omega) | fail)) | (refine (heap_alloc_past _ _ _ ?_).trans ?_; · (first | omega | (simp; done) | (simp; omega) | fail)) | exact HR.out | fail))) hs2).mono ?_
    rintro e w1 ⟨rfl, hw1⟩
    have HB0 := Lib.hid (show w1.heap[w.heap.size]? = some (.cells #[.int .i64 0, .int .i64 0] 39) from hw1.block (by exact (by repeat (first | exact heap_alloc_at _ _ _ (by (first | omega | (simp; done) | (simp; omega) | fail)) | (refine (heap_alloc_past _ _ _ ?_).trans ?_; · (first | omega | (simp; done) | (simp; omega) | fail)) | fail))) (by omega))
    have b1 : w1.heap[w.heap.size + 1]? = some (.cells #[.int .i64 1, .int .i64 0] 39) := hw1.block (by exact (by repeat (first | exact heap_alloc_at _ _ _ (by (first | omega | (simp; done) | (simp; omega) | fail)) | (refine (heap_alloc_past _ _ _ ?_).trans ?_; · (first | omega | (simp; done) | (simp; omega) | fail)) | fail))) (by omega)
    have HR1' := Lib.hid hw1.rd
    have HO1' := Lib.hid (show OnlyIn (fun k => k = R) w w1 from OnlyIn.trans (by exact (by repeat (first | exact OnlyIn.refl _ _ | (refine OnlyIn.setNew ?_ _ _ ?_; rotate_left; · (first | omega | (simp; done) | (simp; omega) | fail)) | refine OnlyIn.alloc' ?_ _ | refine OnlyIn.drew' ?_ | fail))) hw1.only)
    have c0 := blk_cell b1 0; have c1 := blk_cell b1 1
    have f0 := blk_free b1 0; have f1 := blk_free b1 1
    have HB1' := Lib.hid b1
    clear b1 hw1
    go_wp2_with fail
    have HB0 := Lib.hid (show (w1.setCell ⟨w.heap.size + 1, 0, none⟩ (.int .i64 2)).heap[w.heap.size]? = some (.cells #[.int .i64 0, .int .i64 0] 39) from (by repeat (first | (refine (heap_setCell_past _ _ _ _ ?_).trans ?_; · (first | omega | (simp; done) | (simp; omega) | fail)) | (refine (heap_alloc_past _ _ _ ?_).trans ?_; · (first | omega | (simp; done) | (simp; omega) | fail)) | exact HB0.out | fail)))
    have HB1 := Lib.hid (show (w1.setCell ⟨w.heap.size + 1, 0, none⟩ (.int .i64 2)).heap[w.heap.size + 1]? = some (.cells #[.int .i64 2, .int .i64 0] 39) from blk_set HB1'.out 0 _)
    have HR1 := Lib.hid (show Rd (w1.setCell ⟨w.heap.size + 1, 0, none⟩ (.int .i64 2)) R u from (by repeat (first | (refine (heap_setCell_past _ _ _ _ ?_).trans ?_; · (first | omega | (simp; done) | (simp; omega) | fail)) | (refine (heap_alloc_past _ _ _ ?_).trans ?_; · (first | omega | (simp; done) | (simp; omega) | fail)) | exact HR1'.out | fail)))
    have HO1 := Lib.hid (show OnlyIn (fun k => k = R) w (w1.setCell ⟨w.heap.size + 1, 0, none⟩ (.int .i64 2)) from (by repeat (first | exact HO1'.out | (refine OnlyIn.setNew ?_ _ _ ?_; rotate_left; · (first | omega | (simp; done) | (simp; omega) | fail)) | refine OnlyIn.alloc' ?_ _ | refine OnlyIn.drew' ?_ | fail)))
    clear c0 c1 f0 f1 HB1' HR1' HO1'
    refine (letter_any R u _ HR1.out).mono ?_
    intro e w2 hp
    cases hl : letterF u with
    | none =>
      rw [hl] at hp
      obtain ⟨rfl, t', hw2⟩ := hp
      have hF : Hid (sigF s = none) := by show _ = _; simp [sigF, roundF, hl, hs2, hs3]
      have HO := Lib.hid (HO1.out.trans hw2.only)
      have HR2 := Lib.hid hw2.rd
      clear hw2
      go_wp2_with fail
      refine ⟨rfl, ?_⟩
      show ReadPost R _ (sigF s) _ _ _
      rw [hF.out]
      exact ⟨rfl, t', HR2.out, HO.out⟩
    | some p =>
      obtain ⟨n, t⟩ := p
      rw [hl] at hp
      obtain ⟨rfl, hw2⟩ := hp
      have hF : Hid (sigF s = some ((2, n), t)) := by show _ = _; simp [sigF, roundF, hl, hs2, hs3]
      have HO := Lib.hid (HO1.out.trans hw2.only)
      have HR2 := Lib.hid hw2.rd
      have H0 := Lib.hid (hw2.block HB0.out (by omega))
      have H1 := Lib.hid (hw2.block HB1.out (by omega))
      have z0 := blk_cell H0.out 0; have z1 := blk_cell H0.out 1
      have y0 := blk_free H0.out 0; have y1 := blk_free H0.out 1
      have c0 := blk_cell H1.out 0; have c1 := blk_cell H1.out 1
      have f0 := blk_free H1.out 0; have f1 := blk_free H1.out 1
      clear hw2 hl hs2 hs3
      go_wp2_with fail
      refine bodyPost_ret (v := .agg #[.int .i64 2, .int .i64 n]) (by simp [results, Tryz.results80, go_sem, z0, z1]) rfl ?_
      show ReadPost R _ (sigF s) _ _ _
      rw [hF.out]
      exact ⟨rfl, (by exact (by repeat (first | (refine (heap_setCell_past _ _ _ _ ?_).trans ?_; · (first | omega | (simp; done) | (simp; omega) | fail)) | (refine (heap_alloc_past _ _ _ ?_).trans ?_; · (first | omega | (simp; done) | (simp; omega) | fail)) | exact HR2.out | fail))), (by exact (by repeat (first | exact HO.out | (refine OnlyIn.setNew ?_ _ _ ?_; rotate_left; · (first | omega | (simp; done) | (simp; omega) | fail)) | refine OnlyIn.alloc' ?_ _ | refine OnlyIn.drew' ?_ | fail)))⟩
  | none =>
    cases hs3 : skipF [51] s with
    | some u =>
      go_enter Tryz.func80, Tryz.ntmps80
      go_wp2_with fail
      refine wp_loop_rounds 3 ?_
      rw [rounds_succ]
      go_wp2_with fail
      refine (Itoa_any 2 (by omega) (by omega) _).mono ?_
      rintro e w1 ⟨rfl, rfl⟩
      go_wp2_with fail
      refine (skip_no R s (dec 2) _ (by exact (by repeat (first | (refine (heap_setCell_past _ _ _ _ ?_).trans ?_; · (first | omega | (simp; done) | (simp; omega) | fail)) | (refine (heap_alloc_past _ _ _ ?_).trans ?_; · (first | omega | (simp; done) | (simp; omega) | fail)) | exact HR.out | fail))) hs2).mono ?_
      rintro e w1 ⟨rfl, hw1⟩
      have HB0 := Lib.hid (show w1.heap[w.heap.size]? = some (.cells #[.int .i64 0, .int .i64 0] 39) from hw1.block (by exact (by repeat (first | exact heap_alloc_at _ _ _ (by (first | omega | (simp; done) | (simp; omega) | fail)) | (refine (heap_alloc_past _ _ _ ?_).trans ?_; · (first | omega | (simp; done) | (simp; omega) | fail)) | fail))) (by omega))
      have b1 : w1.heap[w.heap.size + 1]? = some (.cells #[.int .i64 1, .int .i64 0] 39) := hw1.block (by exact (by repeat (first | exact heap_alloc_at _ _ _ (by (first | omega | (simp; done) | (simp; omega) | fail)) | (refine (heap_alloc_past _ _ _ ?_).trans ?_; · (first | omega | (simp; done) | (simp; omega) | fail)) | fail))) (by omega)
      have HR1' := Lib.hid hw1.rd
      have HO1' := Lib.hid (show OnlyIn (fun k => k = R) w w1 from OnlyIn.trans (by exact (by repeat (first | exact OnlyIn.refl _ _ | (refine OnlyIn.setNew ?_ _ _ ?_; rotate_left; · (first | omega | (simp; done) | (simp; omega) | fail)) | refine OnlyIn.alloc' ?_ _ | refine OnlyIn.drew' ?_ | fail))) hw1.only)
      have c0 := blk_cell b1 0; have c1 := blk_cell b1 1
      have f0 := blk_free b1 0; have f1 := blk_free b1 1
      have HB1' := Lib.hid b1
      clear b1 hw1
      go_wp2_with fail
      rw [rounds_succ]
      go_wp2_with fail
      refine (Itoa_any 3 (by omega) (by omega) _).mono ?_
      rintro e w1' ⟨rfl, rfl⟩
      go_wp2_with fail
      refine (skip_yes R s (dec 3) u _ HR1'.out hs3).mono ?_
      rintro e w3 ⟨rfl, hw3⟩
      have HB0 := Lib.hid (hw3.block HB0.out (by omega))
      have HB1' := Lib.hid (hw3.block HB1'.out (by omega))
      have HO1' := Lib.hid (HO1'.out.trans hw3.only)
      have HR1' := Lib.hid hw3.rd
      clear c0 c1 f0 f1 hw3
      have c0 := blk_cell HB1'.out 0; have c1 := blk_cell HB1'.out 1
      have f0 := blk_free HB1'.out 0; have f1 := blk_free HB1'.out 1
      go_wp2_with fail
      have HB0 := Lib.hid (show (w3.setCell ⟨w.heap.size + 1, 0, none⟩ (.int .i64 3)).heap[w.heap.size]? = some (.cells #[.int .i64 0, .int .i64 0] 39) from (by repeat (first | (refine (heap_setCell_past _ _ _ _ ?_).trans ?_; · (first | omega | (simp; done) | (simp; omega) | fail)) | (refine (heap_alloc_past _ _ _ ?_).trans ?_; · (first | omega | (simp; done) | (simp; omega) | fail)) | exact HB0.out | fail)))
      have HB1 := Lib.hid (show (w3.setCell ⟨w.heap.size + 1, 0, none⟩ (.int .i64 3)).heap[w.heap.size + 1]? = some (.cells #[.int .i64 3, .int .i64 0] 39) from blk_set HB1'.out 0 _)
      have HR1 := Lib.hid (show Rd (w3.setCell ⟨w.heap.size + 1, 0, none⟩ (.int .i64 3)) R u from (by repeat (first | (refine (heap_setCell_past _ _ _ _ ?_).trans ?_; · (first | omega | (simp; done) | (simp; omega) | fail)) | (refine (heap_alloc_past _ _ _ ?_).trans ?_; · (first | omega | (simp; done) | (simp; omega) | fail)) | exact HR1'.out | fail)))
      have HO1 := Lib.hid (show OnlyIn (fun k => k = R) w (w3.setCell ⟨w.heap.size + 1, 0, none⟩ (.int .i64 3)) from (by repeat (first | exact HO1'.out | (refine OnlyIn.setNew ?_ _ _ ?_; rotate_left; · (first | omega | (simp; done) | (simp; omega) | fail)) | refine OnlyIn.alloc' ?_ _ | refine OnlyIn.drew' ?_ | fail)))
      clear c0 c1 f0 f1 HB1' HR1' HO1'
      refine (letter_any R u _ HR1.out).mono ?_
      intro e w2 hp
      cases hl : letterF u with
      | none =>
        rw [hl] at hp
        obtain ⟨rfl, t', hw2⟩ := hp
        have hF : Hid (sigF s = none) := by show _ = _; simp [sigF, roundF, hl, hs2, hs3]
        have HO := Lib.hid (HO1.out.trans hw2.only)
        have HR2 := Lib.hid hw2.rd
        clear hw2
        go_wp2_with fail
        refine ⟨rfl, ?_⟩
        show ReadPost R _ (sigF s) _ _ _
        rw [hF.out]
        exact ⟨rfl, t', HR2.out, HO.out⟩
      | some p =>
        obtain ⟨n, t⟩ := p
        rw [hl] at hp
        obtain ⟨rfl, hw2⟩ := hp
        have hF : Hid (sigF s = some ((3, n), t)) := by show _ = _; simp [sigF, roundF, hl, hs2, hs3]
        have HO := Lib.hid (HO1.out.trans hw2.only)
        have HR2 := Lib.hid hw2.rd
        have H0 := Lib.hid (hw2.block HB0.out (by omega))
        have H1 := Lib.hid (hw2.block HB1.out (by omega))
        have z0 := blk_cell H0.out 0; have z1 := blk_cell H0.out 1
        have y0 := blk_free H0.out 0; have y1 := blk_free H0.out 1
        have c0 := blk_cell H1.out 0; have c1 := blk_cell H1.out 1
        have f0 := blk_free H1.out 0; have f1 := blk_free H1.out 1
        clear hw2 hl hs2 hs3
        go_wp2_with fail
        refine bodyPost_ret (v := .agg #[.int .i64 3, .int .i64 n]) (by simp [results, Tryz.results80, go_sem, z0, z1]) rfl ?_
        show ReadPost R _ (sigF s) _ _ _
        rw [hF.out]
        exact ⟨rfl, (by exact (by repeat (first | (refine (heap_setCell_past _ _ _ _ ?_).trans ?_; · (first | omega | (simp; done) | (simp; omega) | fail)) | (refine (heap_alloc_past _ _ _ ?_).trans ?_; · (first | omega | (simp; done) | (simp; omega) | fail)) | exact HR2.out | fail))), (by exact (by repeat (first | exact HO.out | (refine OnlyIn.setNew ?_ _ _ ?_; rotate_left; · (first | omega | (simp; done) | (simp; omega) | fail)) | refine OnlyIn.alloc' ?_ _ | refine OnlyIn.drew' ?_ | fail)))⟩
    | none =>
      go_enter Tryz.func80, Tryz.ntmps80
      go_wp2_with fail
      refine wp_loop_rounds 3 ?_
      rw [rounds_succ]
      go_wp2_with fail
      refine (Itoa_any 2 (by omega) (by omega) _).mono ?_
      rintro e w1 ⟨rfl, rfl⟩
      go_wp2_with fail
      refine (skip_no R s (dec 2) _ (by exact (by repeat (first | (refine (heap_setCell_past _ _ _ _ ?_).trans ?_; · (first | omega | (simp; done) | (simp; omega) | fail)) | (refine (heap_alloc_past _ _ _ ?_).trans ?_; · (first | omega | (simp; done) | (simp; omega) | fail)) | exact HR.out | fail))) hs2).mono ?_
      rintro e w1 ⟨rfl, hw1⟩
      have HB0 := Lib.hid (show w1.heap[w.heap.size]? = some (.cells #[.int .i64 0, .int .i64 0] 39) from hw1.block (by exact (by repeat (first | exact heap_alloc_at _ _ _ (by (first | omega | (simp; done) | (simp; omega) | fail)) | (refine (heap_alloc_past _ _ _ ?_).trans ?_; · (first | omega | (simp; done) | (simp; omega) | fail)) | fail))) (by omega))
      have b1 : w1.heap[w.heap.size + 1]? = some (.cells #[.int .i64 1, .int .i64 0] 39) := hw1.block (by exact (by repeat (first | exact heap_alloc_at _ _ _ (by (first | omega | (simp; done) | (simp; omega) | fail)) | (refine (heap_alloc_past _ _ _ ?_).trans ?_; · (first | omega | (simp; done) | (simp; omega) | fail)) | fail))) (by omega)
      have HR1' := Lib.hid hw1.rd
      have HO1' := Lib.hid (show OnlyIn (fun k => k = R) w w1 from OnlyIn.trans (by exact (by repeat (first | exact OnlyIn.refl _ _ | (refine OnlyIn.setNew ?_ _ _ ?_; rotate_left; · (first | omega | (simp; done) | (simp; omega) | fail)) | refine OnlyIn.alloc' ?_ _ | refine OnlyIn.drew' ?_ | fail))) hw1.only)
      have c0 := blk_cell b1 0; have c1 := blk_cell b1 1
      have f0 := blk_free b1 0; have f1 := blk_free b1 1
      have HB1' := Lib.hid b1
      clear b1 hw1
      go_wp2_with fail
      rw [rounds_succ]
      go_wp2_with fail
      refine (Itoa_any 3 (by omega) (by omega) _).mono ?_
      rintro e w1' ⟨rfl, rfl⟩
      go_wp2_with fail
      refine (skip_no R s (dec 3) _ HR1'.out hs3).mono ?_
      rintro e w3 ⟨rfl, hw3⟩
      have HB0 := Lib.hid (hw3.block HB0.out (by omega))
      have HB1 := Lib.hid (hw3.block HB1'.out (by omega))
      have HO1 := Lib.hid (HO1'.out.trans hw3.only)
      have HR1 := Lib.hid hw3.rd
      clear c0 c1 f0 f1 hw3 HB1' HO1' HR1'
      go_wp2_with fail
      rw [rounds_succ]
      go_wp2_with fail
      refine (letter_any R s _ HR1.out).mono ?_
      intro e w2 hp
      cases hl : letterF s with
      | none =>
        rw [hl] at hp
        obtain ⟨rfl, t', hw2⟩ := hp
        have hF : Hid (sigF s = none) := by show _ = _; simp [sigF, roundF, hl, hs2, hs3]
        have HO := Lib.hid (HO1.out.trans hw2.only)
        have HR2 := Lib.hid hw2.rd
        clear hw2
        go_wp2_with fail
        refine ⟨rfl, ?_⟩
        show ReadPost R _ (sigF s) _ _ _
        rw [hF.out]
        exact ⟨rfl, t', HR2.out, HO.out⟩
      | some p =>
        obtain ⟨n, t⟩ := p
        rw [hl] at hp
        obtain ⟨rfl, hw2⟩ := hp
        have hF : Hid (sigF s = some ((1, n), t)) := by show _ = _; simp [sigF, roundF, hl, hs2, hs3]
        have HO := Lib.hid (HO1.out.trans hw2.only)
        have HR2 := Lib.hid hw2.rd
        have H0 := Lib.hid (hw2.block HB0.out (by omega))
        have H1 := Lib.hid (hw2.block HB1.out (by omega))
        have z0 := blk_cell H0.out 0; have z1 := blk_cell H0.out 1
        have y0 := blk_free H0.out 0; have y1 := blk_free H0.out 1
        have c0 := blk_cell H1.out 0; have c1 := blk_cell H1.out 1
        have f0 := blk_free H1.out 0; have f1 := blk_free H1.out 1
        clear hw2 hl hs2 hs3
        go_wp2_with fail
        refine bodyPost_ret (v := .agg #[.int .i64 1, .int .i64 n]) (by simp [results, Tryz.results80, go_sem, z0, z1]) rfl ?_
        show ReadPost R _ (sigF s) _ _ _
        rw [hF.out]
        exact ⟨rfl, (by exact (by repeat (first | (refine (heap_setCell_past _ _ _ _ ?_).trans ?_; · (first | omega | (simp; done) | (simp; omega) | fail)) | (refine (heap_alloc_past _ _ _ ?_).trans ?_; · (first | omega | (simp; done) | (simp; omega) | fail)) | exact HR2.out | fail))), (by exact (by repeat (first | exact HO.out | (refine OnlyIn.setNew ?_ _ _ ?_; rotate_left; · (first | omega | (simp; done) | (simp; omega) | fail)) | refine OnlyIn.alloc' ?_ _ | refine OnlyIn.drew' ?_ | fail)))⟩

end Go.Proofs.YtlfglbnbenaghaaGreatDoor

/- Contracts of the reader: a change. -/
namespace Go.Proofs.YtlfglbnbenaghaaGreatDoor
set_option linter.unusedSimpArgs false
set_option linter.unusedVariables false
open Go Go.RowKit Go.Sort Go.BigFrame Go.Lib

/-- A reading function that holds two boxes: its result's and its variable's. -/
structure Bx (w W : World) (R : Nat) (s : Bs) (T : TypeId) (z c : Array Value) : Prop where
  b0 : W.heap[w.heap.size]? = some (.cells z T)
  b1 : W.heap[w.heap.size + 1]? = some (.cells c T)
  rd : Rd W R s
  only : OnlyIn (fun k => k = R) w W
  lt : R < w.heap.size
theorem Bx.call {w W W' : World} {R : Nat} {s t : Bs} {T : TypeId} {z c : Array Value} (h : Bx w W R s T z c) (k : Rw R t W W') : Bx w W' R t T z c :=
  ⟨k.block h.b0 (by have := h.lt; omega), k.block h.b1 (by have := h.lt; omega), k.rd, h.only.trans k.only, h.lt⟩
theorem Bx.same {w W W' : World} {R : Nat} {s : Bs} {T : TypeId} {z c : Array Value} (h : Bx w W R s T z c) (k : Below W.heap.size W W') : Bx w W' R s T z c :=
  ⟨blk_later k h.b0, blk_later k h.b1, blk_later k h.rd, h.only.trans (OnlyIn.of_below k), h.lt⟩
theorem Bx.set1 {w W : World} {R : Nat} {s : Bs} {T : TypeId} {z c : Array Value} (h : Bx w W R s T z c) (i : Nat) (v : Value) : Bx w (W.setCell ⟨w.heap.size + 1, i, none⟩ v) R s T z (c.setIfInBounds i v) :=
  ⟨(heap_setCell_past _ _ _ _ (by simp)).trans h.b0, blk_set h.b1 i v, (heap_setCell_past _ _ _ _ (by have := h.lt; simp; omega)).trans h.rd, h.only.setNew _ _ (by simp), h.lt⟩
theorem Bx.set0 {w W : World} {R : Nat} {s : Bs} {T : TypeId} {z c : Array Value} (h : Bx w W R s T z c) (i : Nat) (v : Value) : Bx w (W.setCell ⟨w.heap.size, i, none⟩ v) R s T (z.setIfInBounds i v) c :=
  ⟨blk_set h.b0 i v, (heap_setCell_past _ _ _ _ (by simp)).trans h.b1, (heap_setCell_past _ _ _ _ (by have := h.lt; simp; omega)).trans h.rd, h.only.setNew _ _ (by simp), h.lt⟩
theorem Bx.rw {w W : World} {R : Nat} {s : Bs} {T : TypeId} {z c : Array Value} (h : Bx w W R s T z c) : Rw R s w W := ⟨h.rd, h.only⟩
theorem Bx.cast {w W : World} {R : Nat} {s : Bs} {T : TypeId} {z z' c c' : Array Value} (h : Bx w W R s T z c) (hz : z = z') (hc : c = c') : Bx w W R s T z' c' := by subst hz; subst hc; exact h
theorem Bx.start {w : World} {R : Nat} {s : Bs} {T : TypeId} {z c : Array Value} (hr : Rd w R s) : Bx w ((w.alloc (.cells z T)).alloc (.cells c T)) R s T z c :=
  have hR := blk_lt hr
  ⟨(heap_alloc_past _ _ _ (by simp)).trans (heap_alloc_at _ _ _ rfl), heap_alloc_at _ _ _ (by simp), (heap_alloc_past _ _ _ (by simp; omega)).trans ((heap_alloc_past _ _ _ hR).trans hr), OnlyIn.trans (OnlyIn.alloc _ _ _) (OnlyIn.alloc _ _ _), hR⟩
/-- The end by a panic. -/
theorem ReadPost.fail {α : Type} {R : Nat} {enc : α → Value} {r : Option (α × Bs)} {w w' : World} {t : Bs} (hr : r = none) (h : Rw R t w w') : ReadPost R enc r w panicE w' := by subst hr; exact ⟨rfl, t, h⟩
theorem ReadPost.done {α : Type} {R : Nat} {enc : α → Value} {r : Option (α × Bs)} {w w' : World} {t : Bs} {x : α} {v : Value} (hr : r = some (x, t)) (hv : enc x = v) (h : Rw R t w w') : ReadPost R enc r w (.returned v) w' := by subst hr; exact ⟨by rw [hv], h⟩

def chgV (c : Chg) : Value := .agg #[.int .i64 c.kind, .int .i64 c.pos, .int .i64 c.many]

-- a store into a cell of the variable's box: the new world under a name
-- number_any has been met at u: its end by a panic
set_option maxHeartbeats 2000000 in
theorem change_any (R : Nat) (s : Bs) (w : World) (hr : Rd w R s) :
    Calls Tryz.prog 104 #[.pointer (some ⟨R, 0, none⟩)] w (ReadPost R chgV (changeF s) w) := by
  have HX := Lib.hid (Bx.start (T := 44) (z := #[.int .i64 0, .int .i64 0, .int .i64 0]) (c := #[.int .i64 0, .int .i64 0, .int .i64 0]) hr)
  clear hr
  cases hs : skipF [45] s with
  | some t =>
    go_enter Tryz.func104, Tryz.ntmps104
    go_wp2_with fail
    refine (skip_yes R s [45] t _ HX.out.rd hs).mono ?_
    rintro e w1 ⟨rfl, hw1⟩
    have HX := Lib.hid (HX.out.call hw1)
    clear hw1
    have c0 := blk_cell HX.out.b1 0; have c1 := blk_cell HX.out.b1 1; have c2 := blk_cell HX.out.b1 2
    have f0 := blk_free HX.out.b1 0; have f1 := blk_free HX.out.b1 1; have f2 := blk_free HX.out.b1 2
    have z0 := blk_cell HX.out.b0 0; have z1 := blk_cell HX.out.b0 1; have z2 := blk_cell HX.out.b0 2
    have y0 := blk_free HX.out.b0 0; have y1 := blk_free HX.out.b0 1; have y2 := blk_free HX.out.b0 2
    go_wp2_with fail
    clear c0 c1 c2 f0 f1 f2 z0 z1 z2 y0 y1 y2
    have HX := Lib.hid (HX.out.set1 0 (.int .i64 1))
    revert HX
    generalize w1.setCell ⟨w.heap.size + 1, 0, none⟩ (.int .i64 1) = w2
    intro HX
    refine (number_any R t _ HX.out.rd).mono ?_
    intro e w3 hp
    cases hl : numberF t with
    | none =>
      rw [hl] at hp
      have hF : changeF s = none := by simp [changeF, *]
      obtain ⟨rfl, t', hw⟩ := hp
      have HX := Lib.hid (HX.out.call hw)
      have HF := Lib.hid hF
      clear hw hl hF
      go_wp2_with fail
      exact ⟨rfl, ReadPost.fail HF.out HX.out.rw⟩
    | some p =>
      obtain ⟨n, u⟩ := p
      rw [hl] at hp
      obtain ⟨rfl, hw⟩ := hp
      have hF : Hid (changeF s = some (⟨1, n, 0⟩, u)) := by show _ = _; simp [changeF, *]
      have HX := Lib.hid (HX.out.call hw)
      clear hw hl
      have c0 := blk_cell HX.out.b1 0; have c1 := blk_cell HX.out.b1 1; have c2 := blk_cell HX.out.b1 2
      have f0 := blk_free HX.out.b1 0; have f1 := blk_free HX.out.b1 1; have f2 := blk_free HX.out.b1 2
      have z0 := blk_cell HX.out.b0 0; have z1 := blk_cell HX.out.b0 1; have z2 := blk_cell HX.out.b0 2
      have y0 := blk_free HX.out.b0 0; have y1 := blk_free HX.out.b0 1; have y2 := blk_free HX.out.b0 2
      go_wp2_with fail
      refine bodyPost_ret (v := .agg #[.int .i64 1, .int .i64 n, .int .i64 0]) (by simp [results, Tryz.results104, go_sem, z0, z1, z2]) rfl ?_
      exact ReadPost.done hF.out rfl ((((HX.out.set1 _ _).set0 0 _).set0 1 _).set0 2 _).rw
  | none =>
    cases hs2 : skipF [61] s with
    | some t =>
      go_enter Tryz.func104, Tryz.ntmps104
      go_wp2_with fail
      refine (skip_no R s [45] _ HX.out.rd hs).mono ?_
      rintro e w0 ⟨rfl, hw1⟩
      have HX := Lib.hid (HX.out.call hw1)
      clear hw1
      go_wp2_with fail
      refine (skip_yes R s [61] t _ HX.out.rd hs2).mono ?_
      rintro e w1 ⟨rfl, hw1⟩
      have HX := Lib.hid (HX.out.call hw1)
      clear hw1
      have c0 := blk_cell HX.out.b1 0; have c1 := blk_cell HX.out.b1 1; have c2 := blk_cell HX.out.b1 2
      have f0 := blk_free HX.out.b1 0; have f1 := blk_free HX.out.b1 1; have f2 := blk_free HX.out.b1 2
      have z0 := blk_cell HX.out.b0 0; have z1 := blk_cell HX.out.b0 1; have z2 := blk_cell HX.out.b0 2
      have y0 := blk_free HX.out.b0 0; have y1 := blk_free HX.out.b0 1; have y2 := blk_free HX.out.b0 2
      go_wp2_with fail
      clear c0 c1 c2 f0 f1 f2 z0 z1 z2 y0 y1 y2
      have HX := Lib.hid (HX.out.set1 0 (.int .i64 2))
      revert HX
      generalize w1.setCell ⟨w.heap.size + 1, 0, none⟩ (.int .i64 2) = w2
      intro HX
      refine (number_any R t _ HX.out.rd).mono ?_
      intro e w3 hp
      cases hl : numberF t with
      | none =>
        rw [hl] at hp
        have hF : changeF s = none := by simp [changeF, *]
        obtain ⟨rfl, t', hw⟩ := hp
        have HX := Lib.hid (HX.out.call hw)
        have HF := Lib.hid hF
        clear hw hl hF
        go_wp2_with fail
        exact ⟨rfl, ReadPost.fail HF.out HX.out.rw⟩
      | some p =>
        obtain ⟨n, u⟩ := p
        rw [hl] at hp
        obtain ⟨rfl, hw⟩ := hp
        have hF : Hid (changeF s = some (⟨2, n, 0⟩, u)) := by show _ = _; simp [changeF, *]
        have HX := Lib.hid (HX.out.call hw)
        clear hw hl
        have c0 := blk_cell HX.out.b1 0; have c1 := blk_cell HX.out.b1 1; have c2 := blk_cell HX.out.b1 2
        have f0 := blk_free HX.out.b1 0; have f1 := blk_free HX.out.b1 1; have f2 := blk_free HX.out.b1 2
        have z0 := blk_cell HX.out.b0 0; have z1 := blk_cell HX.out.b0 1; have z2 := blk_cell HX.out.b0 2
        have y0 := blk_free HX.out.b0 0; have y1 := blk_free HX.out.b0 1; have y2 := blk_free HX.out.b0 2
        go_wp2_with fail
        refine bodyPost_ret (v := .agg #[.int .i64 2, .int .i64 n, .int .i64 0]) (by simp [results, Tryz.results104, go_sem, z0, z1, z2]) rfl ?_
        exact ReadPost.done hF.out rfl ((((HX.out.set1 _ _).set0 0 _).set0 1 _).set0 2 _).rw
    | none =>
      go_enter Tryz.func104, Tryz.ntmps104
      go_wp2_with fail
      refine (skip_no R s [45] _ HX.out.rd hs).mono ?_
      rintro e w0 ⟨rfl, hw1⟩
      have HX := Lib.hid (HX.out.call hw1)
      clear hw1
      go_wp2_with fail
      refine (skip_no R s [61] _ HX.out.rd hs2).mono ?_
      rintro e w1 ⟨rfl, hw1⟩
      have HX := Lib.hid (HX.out.call hw1)
      clear hw1
      have c0 := blk_cell HX.out.b1 0; have c1 := blk_cell HX.out.b1 1; have c2 := blk_cell HX.out.b1 2
      have f0 := blk_free HX.out.b1 0; have f1 := blk_free HX.out.b1 1; have f2 := blk_free HX.out.b1 2
      have z0 := blk_cell HX.out.b0 0; have z1 := blk_cell HX.out.b0 1; have z2 := blk_cell HX.out.b0 2
      have y0 := blk_free HX.out.b0 0; have y1 := blk_free HX.out.b0 1; have y2 := blk_free HX.out.b0 2
      go_wp2_with fail
      clear c0 c1 c2 f0 f1 f2 z0 z1 z2 y0 y1 y2
      have HX := Lib.hid (HX.out.set1 0 (.int .i64 3))
      revert HX
      generalize w1.setCell ⟨w.heap.size + 1, 0, none⟩ (.int .i64 3) = w2
      intro HX
      refine (number_any R s _ HX.out.rd).mono ?_
      intro e w3 hp
      cases hl : numberF s with
      | none =>
        rw [hl] at hp
        have hF : changeF s = none := by simp [changeF, *]
        obtain ⟨rfl, t', hw⟩ := hp
        have HX := Lib.hid (HX.out.call hw)
        have HF := Lib.hid hF
        clear hw hl hF
        go_wp2_with fail
        exact ⟨rfl, ReadPost.fail HF.out HX.out.rw⟩
      | some p =>
        obtain ⟨n, t⟩ := p
        rw [hl] at hp
        obtain ⟨rfl, hw⟩ := hp
        have HX := Lib.hid (HX.out.call hw)
        have HL := Lib.hid hl
        clear hw hl
        have c0 := blk_cell HX.out.b1 0; have c1 := blk_cell HX.out.b1 1; have c2 := blk_cell HX.out.b1 2
        have f0 := blk_free HX.out.b1 0; have f1 := blk_free HX.out.b1 1; have f2 := blk_free HX.out.b1 2
        have z0 := blk_cell HX.out.b0 0; have z1 := blk_cell HX.out.b0 1; have z2 := blk_cell HX.out.b0 2
        have y0 := blk_free HX.out.b0 0; have y1 := blk_free HX.out.b0 1; have y2 := blk_free HX.out.b0 2
        go_wp2_with fail
        clear c0 c1 c2 f0 f1 f2 z0 z1 z2 y0 y1 y2
        have HX := Lib.hid (HX.out.set1 1 (.int .i64 n))
        revert HX
        generalize w3.setCell ⟨w.heap.size + 1, 1, none⟩ (.int .i64 n) = w4
        intro HX
        cases hs3 : skipF [43] t with
        | none =>
          have HF : Hid (changeF s = none) := by show _ = _; simp [changeF, *, HL.out]
          refine (must_no R t [43] _ HX.out.rd hs3).mono ?_
          rintro e w5 ⟨rfl, hw1⟩
          have HX := Lib.hid (HX.out.call hw1)
          clear hw1 hs3
          go_wp2_with fail
          exact ⟨rfl, ReadPost.fail HF.out HX.out.rw⟩
        | some u =>
          refine (must_yes R t [43] u _ HX.out.rd hs3).mono ?_
          rintro e w5 ⟨rfl, hw1⟩
          have HX := Lib.hid (HX.out.call hw1)
          clear hw1
          go_wp2_with fail
          refine (number_any R u _ HX.out.rd).mono ?_
          intro e w6 hp
          cases hl : numberF u with
          | none =>
            rw [hl] at hp
            have hF : changeF s = none := by simp [changeF, *, HL.out]
            obtain ⟨rfl, t', hw⟩ := hp
            have HX := Lib.hid (HX.out.call hw)
            have HF := Lib.hid hF
            clear hw hl hF
            go_wp2_with fail
            exact ⟨rfl, ReadPost.fail HF.out HX.out.rw⟩
          | some p =>
            obtain ⟨m, v⟩ := p
            rw [hl] at hp
            obtain ⟨rfl, hw⟩ := hp
            have HF : Hid (changeF s = some (⟨3, n, m⟩, v)) := by show _ = _; simp [changeF, *, HL.out]
            have HX := Lib.hid (HX.out.call hw)
            clear hw hl
            have c0 := blk_cell HX.out.b1 0; have c1 := blk_cell HX.out.b1 1; have c2 := blk_cell HX.out.b1 2
            have f0 := blk_free HX.out.b1 0; have f1 := blk_free HX.out.b1 1; have f2 := blk_free HX.out.b1 2
            have z0 := blk_cell HX.out.b0 0; have z1 := blk_cell HX.out.b0 1; have z2 := blk_cell HX.out.b0 2
            have y0 := blk_free HX.out.b0 0; have y1 := blk_free HX.out.b0 1; have y2 := blk_free HX.out.b0 2
            go_wp2_with fail
            refine bodyPost_ret (v := .agg #[.int .i64 3, .int .i64 n, .int .i64 m]) (by simp [results, Tryz.results104, go_sem, z0, z1, z2]) rfl ?_
            exact ReadPost.done HF.out rfl ((((HX.out.set1 _ _).set0 0 _).set0 1 _).set0 2 _).rw

end Go.Proofs.YtlfglbnbenaghaaGreatDoor

/- 'copy(dst, src)' of all elements of a slice, whatever their size, over a row that the call itself made. For any program. -/
namespace Go.Proofs.YtlfglbnbenaghaaGreatDoor
set_option linter.unusedSimpArgs false
set_option linter.unusedVariables false
open Go Go.RowKit

theorem wpList_copy_all {P : Program} {w : World} {ops : Array Oper} {rest : List Oper} {o : Oper} {a : Act} {Q : Exit → Act → World → Prop} (hgd : o.guard = none) (d s : Operand) (dT sT : TypeId)
    (ho : o.op = .call { callee := .builtin .copy, args := #[d, s], argTypes := #[dT, sT] }) (elem : TypeId) (size : Nat) (hu : P.underlying dT = some (.slice elem)) (hsz : (P.info? elem).map (·.size) = some size)
    (g n dCap : Nat) (ad : Addr) (sCap : Nat) (hd : a.eval d = .slice (some ⟨g, 0, none⟩) n dCap) (hs : a.eval s = .slice (some ad) n sCap)
    (cur : Array Value) (t : TypeId) (hg : w.heap[g]? = some (.cells cur t (0, 0))) (cs : List Value) (hn : cs.length = n * size)
    (hsrc : ∀ j v, cs[j]? = some v → w.cell? (ad.add j) = some v) (hfit : cs.length = cur.size) (h1 : ∀ v ∈ cs, v.oneCell' = true)
    (h : wpList P ops Q rest (a.put o.dst (goInt n)) (w.setRow g cs.toArray)) : wpList P ops Q (o :: rest) a w := by
  refine wpList_plain hgd fun K hK => ?_
  have hl := run_loadCells_list (P := P) w ad cs hsrc
  have hst := run_storeCells_at P g 0 t cs 0 cur w hg (by omega) h1
  have hrun : (Builtin.copy_ #[dT, sT] o.type #[.slice (some ⟨g, 0, none⟩) n dCap, .slice (some ad) n sCap]).run P w = .ok (goInt n) (w.setRow g cs.toArray) := by
    cases hq : P.info? elem with
    | none => simp [hq] at hsz
    | some i =>
      have hi : i.size = size := by simpa [hq] using hsz
      have hd0 : cur.toList.drop cs.length = [] := List.drop_of_length_le (by rw [hfit]; simp)
      simp only [Nat.zero_add, List.take_zero, List.nil_append, hd0, List.append_nil] at hst
      rw [hn] at hl
      simp [Builtin.copy_, run_underlying hu, Builtin.lenOf, Builtin.firstCells, sizeOf, typeInfo, hq, hi, hl, hst]
  unfold Oper.wp
  simp [execOp, ho, resolve, invoke, builtin, hd, hs, hrun, Result.andThen]
  exact hK _ _ h

end Go.Proofs.YtlfglbnbenaghaaGreatDoor

/- Contracts of the reader: the changes of a gathering. -/
namespace Go.Proofs.YtlfglbnbenaghaaGreatDoor
set_option linter.unusedSimpArgs false
set_option linter.unusedVariables false
open Go Go.RowKit Go.Sort Go.BigFrame

def chgCells (cs : List Chg) : List Value := cs.flatMap fun c => [.int .i64 c.kind, .int .i64 c.pos, .int .i64 c.many]
theorem chgCells_len (cs : List Chg) : (chgCells cs).length = cs.length * 3 := by
  unfold chgCells
  induction cs with
  | nil => rfl
  | cons c cs ih => simp only [List.flatMap_cons, List.length_append, List.length_cons, List.length_nil, ih]; omega
theorem chgCells_one (cs : List Chg) : ∀ v ∈ chgCells cs, v.oneCell' = true := by
  intro v hv
  obtain ⟨c, -, hc⟩ := List.mem_flatMap.1 hv
  simp only [List.mem_cons, List.not_mem_nil, or_false] at hc
  rcases hc with rfl | rfl | rfl <;> rfl
theorem chg_at : ∀ {cs : List Chg} {i : Nat} {c : Chg}, cs[i]? = some c → (chgCells cs)[i * 3]? = some (.int .i64 c.kind) ∧ (chgCells cs)[i * 3 + 1]? = some (.int .i64 c.pos) ∧ (chgCells cs)[i * 3 + 2]? = some (.int .i64 c.many)
  | [], _, _, h => by cases h
  | x :: xs, 0, c, h => by
    simp only [List.getElem?_cons_zero, Option.some.injEq] at h
    subst h
    exact ⟨rfl, rfl, rfl⟩
  | x :: xs, i + 1, c, h => by
    have h' := chg_at (cs := xs) (i := i) (c := c) (by simpa using h)
    have e : ∀ j, (chgCells (x :: xs))[(i + 1) * 3 + j]? = (chgCells xs)[i * 3 + j]? := fun j => by
      show ([_, _, _] ++ chgCells xs)[(i + 1) * 3 + j]? = _
      rw [List.getElem?_append_right (by simp; omega)]
      congr 1
      simp; omega
    have e0 := e 0
    simp only [Nat.add_zero] at e0
    rw [e0, e 1, e 2]
    exact h'
/-- A slice of changes in a new block. -/
def ChsIn (lo : Nat) (W : World) (v : Value) (cs : List Chg) : Prop :=
  ∃ (a : Option Addr) (cap : Nat), v = .slice a cs.length cap ∧ (cs ≠ [] → ∃ b, a = some ⟨b, 0, none⟩ ∧ lo ≤ b ∧ W.heap[b]? = some (.cells (chgCells cs).toArray 44))
theorem ChsIn.at_ {lo : Nat} {W : World} {v : Value} {cs : List Chg} (h : ChsIn lo W v cs) : ChsAt W.heap.size W v cs := by
  obtain ⟨a, cap, rfl, h⟩ := h
  refine ⟨a, cap, rfl, fun hne => ?_⟩
  obtain ⟨b, rfl, -, hc⟩ := h hne
  refine ⟨b, 0, rfl, blk_lt hc, fun i c hi => ?_⟩
  obtain ⟨h1, h2, h3⟩ := chg_at hi
  simp only [Nat.zero_add, blk_cell hc, List.getElem?_toArray]
  exact ⟨h1, h2, h3⟩
theorem ChsIn.only {lo : Nat} {W W' : World} {v : Value} {cs : List Chg} {X : Nat → Prop} (h : ChsIn lo W v cs) (ho : OnlyIn X W W') (hX : ∀ k, X k → k < lo) : ChsIn lo W' v cs := by
  obtain ⟨a, cap, rfl, h⟩ := h
  refine ⟨a, cap, rfl, fun hne => ?_⟩
  obtain ⟨b, rfl, hlo, hc⟩ := h hne
  exact ⟨b, rfl, hlo, (ho.block b (blk_lt hc) (fun hx => by have := hX _ hx; omega)).trans hc⟩
/-- A row of other elements has grown. -/
theorem ChsIn.grown {lo : Nat} {W W' : World} {v : Value} {cs : List Chg} {ow : Option Nat} (h : ChsIn lo W v cs) (hg : W.grownBy W' ow) (ho : ∀ g, ow = some g → ∃ c t f, W.heap[g]? = some (.cells c t f) ∧ t ≠ 44) : ChsIn lo W' v cs := by
  obtain ⟨a, cap, rfl, h⟩ := h
  refine ⟨a, cap, rfl, fun hne => ?_⟩
  obtain ⟨b, rfl, hlo, hc⟩ := h hne
  refine ⟨b, rfl, hlo, (hg.block b (blk_lt hc) (fun e => ?_)).trans hc⟩
  obtain ⟨c, t, f, h1, h2⟩ := ho b e.symm
  rw [hc] at h1
  simp only [Option.some.injEq, Obj.cells.injEq] at h1
  exact h2 h1.2.1.symm
theorem ChsIn.mono {lo lo' : Nat} {W : World} {v : Value} {cs : List Chg} (h : ChsIn lo W v cs) (hl : lo' ≤ lo) : ChsIn lo' W v cs := by
  obtain ⟨a, cap, rfl, h⟩ := h
  refine ⟨a, cap, rfl, fun hne => ?_⟩
  obtain ⟨b, rfl, hlo, hc⟩ := h hne
  exact ⟨b, rfl, Nat.le_trans hl hlo, hc⟩
/-- The array in which changes are gathered. -/
def foundA (cs : List Chg) : Array Value := (chgCells cs ++ List.replicate (12 - cs.length * 3) (Value.int .i64 0)).toArray
theorem foundA_snoc {cs : List Chg} {k : Nat} (hk : cs.length = k) (h : k < 4) (c : Chg) : (((foundA cs).setIfInBounds (k * 3) (.int .i64 c.kind)).setIfInBounds (k * 3 + 1) (.int .i64 c.pos)).setIfInBounds (k * 3 + 2) (.int .i64 c.many) = foundA (cs ++ [c]) := by
  subst hk
  rcases cs with _ | ⟨c1, _ | ⟨c2, _ | ⟨c3, _ | ⟨c4, cs⟩⟩⟩⟩
  · rfl
  · rfl
  · rfl
  · rfl
  · simp only [List.length_cons] at h; omega

/-- A reading function that holds one box. -/
structure Fx (w W : World) (R : Nat) (s : Bs) (T : TypeId) (c : Array Value) : Prop where
  b0 : W.heap[w.heap.size]? = some (.cells c T)
  rd : Rd W R s
  only : OnlyIn (fun k => k = R) w W
  lt : R < w.heap.size
theorem Fx.call {w W W' : World} {R : Nat} {s t : Bs} {T : TypeId} {c : Array Value} (h : Fx w W R s T c) (k : Rw R t W W') : Fx w W' R t T c :=
  ⟨k.block h.b0 (by have := h.lt; omega), k.rd, h.only.trans k.only, h.lt⟩
theorem Fx.same {w W W' : World} {R : Nat} {s : Bs} {T : TypeId} {c : Array Value} (h : Fx w W R s T c) (k : Below W.heap.size W W') : Fx w W' R s T c :=
  ⟨blk_later k h.b0, blk_later k h.rd, h.only.trans (OnlyIn.of_below k), h.lt⟩
theorem Fx.set0 {w W : World} {R : Nat} {s : Bs} {T : TypeId} {c : Array Value} (h : Fx w W R s T c) (i : Nat) (v : Value) : Fx w (W.setCell ⟨w.heap.size, i, none⟩ v) R s T (c.setIfInBounds i v) :=
  ⟨blk_set h.b0 i v, (heap_setCell_past _ _ _ _ (by have := h.lt; simp; omega)).trans h.rd, h.only.setNew _ _ (by simp), h.lt⟩
theorem Fx.rw {w W : World} {R : Nat} {s : Bs} {T : TypeId} {c : Array Value} (h : Fx w W R s T c) : Rw R s w W := ⟨h.rd, h.only⟩
theorem Fx.size {w W : World} {R : Nat} {s : Bs} {T : TypeId} {c : Array Value} (h : Fx w W R s T c) : w.heap.size < W.heap.size := blk_lt h.b0

def ChsPost (R : Nat) (r : Option (List Chg × Bs)) (w : World) (e : Ending) (w' : World) : Prop := match r with
  | some (cs, t) => (∃ v, e = .returned v ∧ ChsIn w.heap.size w' v cs) ∧ Rw R t w w'
  | none => e = panicE ∧ ∃ t, Rw R t w w'
theorem ChsPost.fail {R : Nat} {r : Option (List Chg × Bs)} {w w' : World} {t : Bs} (hr : r = none) (h : Rw R t w w') : ChsPost R r w panicE w' := by subst hr; exact ⟨rfl, t, h⟩
theorem ChsPost.done {R : Nat} {r : Option (List Chg × Bs)} {w w' : World} {t : Bs} {cs : List Chg} {v : Value} (hr : r = some (cs, t)) (hv : ChsIn w.heap.size w' v cs) (h : Rw R t w w') : ChsPost R r w (.returned v) w' := by subst hr; exact ⟨⟨v, rfl, hv⟩, h⟩

/-- What is yet to read at the head of a round, k changes being read. -/
def restF (cs : List Chg) (u : Bs) : Option (List Chg × Bs) := if cs = [] then (match changeF u with
    | none => none
    | some (c, v) => moreF 3 [c] v) else moreF (4 - cs.length) cs u

theorem elemChg : ∃ i, Tryz.prog.info? 44 = some i ∧ i.zero = some (.agg #[.int .i64 0, .int .i64 0, .int .i64 0]) ∧ i.size = 3 ∧ i.bytes = 24 := elemOf (by kernel_rfl)
theorem undChgs : Tryz.prog.underlying 40 = some (.slice 44) := by kernel_rfl
theorem sizeChg : (Tryz.prog.info? 44).map (·.size) = some 3 := by kernel_rfl

theorem add_off' (g j : Nat) : (⟨g, 0, none⟩ : Addr).add j = ⟨g, j, none⟩ := by unfold Addr.add; split <;> simp_all
theorem lenFound : Tryz.prog.arrayLen 158 = 4 := by kernel_rfl
theorem sliceFound (w : World) (b k : Nat) (h : k ≤ 4) : (Instr.sliceAt 158 (.pointer (some ⟨b, 0, none⟩)) none (some (.int .i64 k)) none).run Tryz.prog w = .ok (.slice (some ⟨b, 0, none⟩) k 4) w := by
  have hs : (sizeOf (Tryz.prog.elem 158)).run Tryz.prog w = .ok 3 w := by kernel_rfl
  rw [run_sliceAt_array_h w 158 ⟨b, 0, none⟩ (by kernel_rfl) .i64 k (by omega) (by rw [lenFound]; omega), hs]
  simp [Result.andThen, slicedAt, lenFound, add_off']
theorem OnlyIn.of_grown {W W' : World} (h : W.grownBy W' none) : Below W.heap.size W W' := ⟨h.os, h.tape, h.output, h.size, fun k hk => h.block k hk (by simp)⟩
theorem restF_snoc (cs : List Chg) (c : Chg) (v : Bs) : restF (cs ++ [c]) v = moreF (3 - cs.length) (cs ++ [c]) v := by
  unfold restF
  rw [if_neg (by simp)]
  congr 1
  simp
theorem foundA_size {cs : List Chg} {k : Nat} (hk : cs.length = k) (h : k ≤ 4) : (foundA cs).size = 12 := by
  unfold foundA
  simp only [List.size_toArray, List.length_append, chgCells_len, List.length_replicate]
  omega
set_option maxRecDepth 100000 in
set_option maxHeartbeats 4000000 in
theorem changes_any (R : Nat) (s : Bs) (w : World) (hr : Rd w R s) :
    Calls Tryz.prog 87 #[.pointer (some ⟨R, 0, none⟩)] w (ChsPost R (changesF s) w) := by
  have HR := Lib.hid hr
  have hR := blk_lt hr
  clear hr
  cases hs : skipF [40] s with
  | none =>
    have hF : Hid (changesF s = some ([], s)) := by show _ = _; simp [changesF, hs]
    have HS := Lib.hid hs
    clear hs
    go_enter Tryz.func87, Tryz.ntmps87
    go_wp2_with fail
    refine (skip_no R s [40] _ HR.out HS.out).mono ?_
    rintro e w1 ⟨rfl, hw1⟩
    have HW := Lib.hid hw1
    clear hw1
    go_wp2_with fail
    go_ret
    exact ChsPost.done hF.out ⟨none, 0, rfl, fun h => absurd rfl h⟩ HW.out
  | some t =>
    have hF : Hid (changesF s = restF [] t) := by show _ = _; simp [changesF, hs, restF]; rfl
    have HS := Lib.hid hs
    clear hs
    go_enter Tryz.func87, Tryz.ntmps87
    go_wp2_with fail
    refine (skip_yes R s [40] t _ HR.out HS.out).mono ?_
    rintro e w1 ⟨rfl, hw1⟩
    have hz1 := hw1.size
    have HW := Lib.hid hw1
    clear hw1
    go_wp2_with fail
    have HX := Lib.hid (show Fx w1 (w1.alloc (.cells (foundA []) 158)) R t 158 (foundA []) from
      ⟨heap_alloc_at _ _ _ rfl, (heap_alloc_past _ _ _ (blk_lt HW.out.rd)).trans HW.out.rd, OnlyIn.alloc _ _ _, blk_lt HW.out.rd⟩)
    have hR1 := blk_lt HW.out.rd
    go_loopw [4] (fun v wr => ∃ (k : Nat) (cs : List Chg) (u : Bs), k ≤ 4 ∧ v = .int .i64 k ∧ Hid (cs.length = k) ∧ Hid (changesF s = restF cs u) ∧ Hid (Fx w1 wr R u 158 (foundA cs))) (fun v _ => 5 - (intOf v).toNat)
    case atStart => exact ⟨0, [], t, by omega, rfl, rfl, hF, HX⟩
    case round =>
      clear HX hF
      obtain ⟨k, cs, u, hk, rfl, HK, hF, HX⟩ := hrel
      by_cases hk0 : k = 0
      · have hcs : cs = [] := List.eq_nil_of_length_eq_zero (HK.out.trans hk0)
        have hG : Hid (changesF s = match changeF u with
          | none => none
          | some (c, v) => moreF (3 - cs.length) (cs ++ [c]) v) := by show _ = _; rw [hF.out, restF, if_pos hcs, hcs]; rfl
        obtain ⟨u', hu⟩ : ∃ u', u' = u := ⟨_, rfl⟩
        rw [← hu] at hG HX
        have hb0 : ((k : Int) == 0) = true := by simp [hk0]
        have hb4 : ((k : Int) == 4) = false := by simp [hk0]
        have hlt : k < 4 := by omega
        clear hF hcs hu hk0 hk
        go_wp2_with fail
        -- the change at u' is read, and laid behind the others; hF : Hid (changesF s = match changeF u' with ..)
        refine (change_any R u' _ HX.out.rd).mono ?_
        intro e w3 hp
        cases hl : changeF u' with
        | none =>
          rw [hl] at hp
          obtain ⟨rfl, t', hw⟩ := hp
          have hF : Hid (changesF s = none) := by show _ = _; rw [hG.out, hl]
          have HX := Lib.hid (HX.out.call hw)
          clear hw hl hG
          go_wp2_with fail
          exact ⟨rfl, ChsPost.fail hF.out (HW.out.trans HX.out.rw)⟩
        | some p =>
          obtain ⟨⟨kd, ps, mn⟩, v⟩ := p
          rw [hl] at hp
          obtain ⟨rfl, hw⟩ := hp
          dsimp only [chgV]
          have hF : Hid (changesF s = restF (cs ++ [⟨kd, ps, mn⟩]) v) := by show _ = _; rw [hG.out, hl, restF_snoc]
          have HX := Lib.hid (HX.out.call hw)
          clear hw hl hG
          have hz := HX.out.size
          have c0 : w3.cell? ⟨w1.heap.size, k * 3, none⟩ = some ((foundA cs)[k * 3]'(by rw [foundA_size HK.out (by omega)]; omega)) := by rw [blk_cell HX.out.b0]; exact Array.getElem?_eq_getElem _
          have c1 : w3.cell? ⟨w1.heap.size, k * 3 + 1, none⟩ = some ((foundA cs)[k * 3 + 1]'(by rw [foundA_size HK.out (by omega)]; omega)) := by rw [blk_cell HX.out.b0]; exact Array.getElem?_eq_getElem _
          have c2 : w3.cell? ⟨w1.heap.size, k * 3 + 2, none⟩ = some ((foundA cs)[k * 3 + 2]'(by rw [foundA_size HK.out (by omega)]; omega)) := by rw [blk_cell HX.out.b0]; exact Array.getElem?_eq_getElem _
          have f0 := blk_free HX.out.b0 (k * 3)
          have f1 := blk_free HX.out.b0 (k * 3 + 1)
          have f2 := blk_free HX.out.b0 (k * 3 + 2)
          go_wp2_with fail
          go_roundw
          case rel =>
            refine ⟨k + 1, cs ++ [⟨kd, ps, mn⟩], v, by omega, by go_num, (by show _ = _; rw [List.length_append, HK.out]; rfl), hF, ?_⟩
            have h3 := ((HX.out.set0 (k * 3) (.int .i64 kd)).set0 (k * 3 + 1) (.int .i64 ps)).set0 (k * 3 + 2) (.int .i64 mn)
            rw [foundA_snoc HK.out hlt ⟨kd, ps, mn⟩] at h3
            exact h3.same (by exact (by repeat (first | exact Below.refl _ _ | assumption | (refine Below.alloc ?_ ?_ _; rotate_left; · (first | omega | (simp; done) | (simp; omega) | fail)) | (refine Below.setCell ?_ ?_ _; rotate_left; · (first | omega | (simp; done) | (simp; omega) | fail)) | refine Below.drew ?_ | fail)))
          case measure => simp [intOf]; omega
      · have hb0 : ((k : Int) == 0) = false := by simp [hk0]
        have hne : cs ≠ [] := fun e => hk0 (by rw [← HK.out, e]; rfl)
        have hF := Lib.hid (show changesF s = moreF (4 - cs.length) cs u by rw [hF.out, restF, if_neg hne])
        cases h1 : skipF [44] u with
        | some u' =>
          by_cases h4 : k = 4
          · have hb4 : ((k : Int) == 4) = true := by simp [h4]
            have hG : Hid (changesF s = none) := by show _ = _; rw [hF.out, HK.out, h4]; simp [moreF, h1]
            have H1 := Lib.hid h1
            clear hF h1 hk0 h4
            go_wp2_with fail
            refine (skip_yes R u [44] u' _ HX.out.rd H1.out).mono ?_
            rintro e w2 ⟨rfl, hw2⟩
            have HX := Lib.hid (HX.out.call hw2)
            clear hw2
            go_wp2_with fail
            refine (fail_any _ _).mono ?_
            rintro e w3 ⟨rfl, rfl⟩
            go_wp2_with fail
            exact ⟨rfl, ChsPost.fail hG.out (HW.out.trans HX.out.rw)⟩
          · have hb4 : ((k : Int) == 4) = false := by simp; omega
            have hlt : k < 4 := by omega
            have hG : Hid (changesF s = match changeF u' with
              | none => none
              | some (c, v) => moreF (3 - cs.length) (cs ++ [c]) v) := by
              show _ = _
              rw [hF.out, HK.out, show 4 - k = (3 - k) + 1 by omega]
              simp only [moreF, h1]
              cases changeF u' <;> rfl
            have H1 := Lib.hid h1
            clear hF h1 hk0 h4 hk
            go_wp2_with fail
            refine (skip_yes R u [44] u' _ HX.out.rd H1.out).mono ?_
            rintro e w2 ⟨rfl, hw2⟩
            have HX := Lib.hid (HX.out.call hw2)
            clear hw2
            go_wp2_with fail
            -- the change at u' is read, and laid behind the others; hF : Hid (changesF s = match changeF u' with ..)
            refine (change_any R u' _ HX.out.rd).mono ?_
            intro e w3 hp
            cases hl : changeF u' with
            | none =>
              rw [hl] at hp
              obtain ⟨rfl, t', hw⟩ := hp
              have hF : Hid (changesF s = none) := by show _ = _; rw [hG.out, hl]
              have HX := Lib.hid (HX.out.call hw)
              clear hw hl hG
              go_wp2_with fail
              exact ⟨rfl, ChsPost.fail hF.out (HW.out.trans HX.out.rw)⟩
            | some p =>
              obtain ⟨⟨kd, ps, mn⟩, v⟩ := p
              rw [hl] at hp
              obtain ⟨rfl, hw⟩ := hp
              dsimp only [chgV]
              have hF : Hid (changesF s = restF (cs ++ [⟨kd, ps, mn⟩]) v) := by show _ = _; rw [hG.out, hl, restF_snoc]
              have HX := Lib.hid (HX.out.call hw)
              clear hw hl hG
              have hz := HX.out.size
              have c0 : w3.cell? ⟨w1.heap.size, k * 3, none⟩ = some ((foundA cs)[k * 3]'(by rw [foundA_size HK.out (by omega)]; omega)) := by rw [blk_cell HX.out.b0]; exact Array.getElem?_eq_getElem _
              have c1 : w3.cell? ⟨w1.heap.size, k * 3 + 1, none⟩ = some ((foundA cs)[k * 3 + 1]'(by rw [foundA_size HK.out (by omega)]; omega)) := by rw [blk_cell HX.out.b0]; exact Array.getElem?_eq_getElem _
              have c2 : w3.cell? ⟨w1.heap.size, k * 3 + 2, none⟩ = some ((foundA cs)[k * 3 + 2]'(by rw [foundA_size HK.out (by omega)]; omega)) := by rw [blk_cell HX.out.b0]; exact Array.getElem?_eq_getElem _
              have f0 := blk_free HX.out.b0 (k * 3)
              have f1 := blk_free HX.out.b0 (k * 3 + 1)
              have f2 := blk_free HX.out.b0 (k * 3 + 2)
              go_wp2_with fail
              go_roundw
              case rel =>
                refine ⟨k + 1, cs ++ [⟨kd, ps, mn⟩], v, by omega, by go_num, (by show _ = _; rw [List.length_append, HK.out]; rfl), hF, ?_⟩
                have h3 := ((HX.out.set0 (k * 3) (.int .i64 kd)).set0 (k * 3 + 1) (.int .i64 ps)).set0 (k * 3 + 2) (.int .i64 mn)
                rw [foundA_snoc HK.out hlt ⟨kd, ps, mn⟩] at h3
                exact h3.same (by exact (by repeat (first | exact Below.refl _ _ | assumption | (refine Below.alloc ?_ ?_ _; rotate_left; · (first | omega | (simp; done) | (simp; omega) | fail)) | (refine Below.setCell ?_ ?_ _; rotate_left; · (first | omega | (simp; done) | (simp; omega) | fail)) | refine Below.drew ?_ | fail)))
              case measure => simp [intOf]; omega
        | none =>
          have H1 := Lib.hid h1
          cases h2 : skipF [41] u with
          | none =>
            have hG : Hid (changesF s = none) := by
              show _ = _; rw [hF.out]
              cases 4 - cs.length <;> simp [moreF, h1, h2]
            have H2 := Lib.hid h2
            clear hF h1 h2 hk0
            go_wp2_with fail
            refine (skip_no R u [44] _ HX.out.rd H1.out).mono ?_
            rintro e w2 ⟨rfl, hw2⟩
            have HX := Lib.hid (HX.out.call hw2)
            clear hw2
            go_wp2_with fail
            refine (must_no R u [41] _ HX.out.rd H2.out).mono ?_
            rintro e w3 ⟨rfl, hw2⟩
            have HX := Lib.hid (HX.out.call hw2)
            clear hw2
            go_wp2_with fail
            exact ⟨rfl, ChsPost.fail hG.out (HW.out.trans HX.out.rw)⟩
          | some v =>
            have hG : Hid (changesF s = some (cs, v)) := by
              show _ = _; rw [hF.out]
              cases 4 - cs.length <;> simp [moreF, h1, h2]
            have H2 := Lib.hid h2
            have hpos : 0 < k := by omega
            clear hF h1 h2 hk0
            go_wp2_with fail
            refine (skip_no R u [44] _ HX.out.rd H1.out).mono ?_
            rintro e w2 ⟨rfl, hw2⟩
            have HX := Lib.hid (HX.out.call hw2)
            clear hw2
            go_wp2_with fail
            refine (must_yes R u [41] v _ HX.out.rd H2.out).mono ?_
            rintro e w3 ⟨rfl, hw2⟩
            have HX := Lib.hid (HX.out.call hw2)
            clear hw2
            obtain ⟨ei, hi1, hi2, hi3, hi4⟩ := elemChg
            have hb24 : ei.bytes * k ≤ 281474976710656 := by rw [hi4]; omega
            have hz := HX.out.size
            clear hi4
            go_wp2_with (refine wpList_make_full _ rfl (.tmp 29) (.tmp 29) 40 rfl w3.heap.size 44 ei _ 3 undChgs hi1 hi2 hi3 .i64 .i64 _ _ k rfl rfl rfl rfl hb24 (by simp only [maxLen]; omega) (Nat.le_refl _) ?c6)
            case c6 =>
              intro w4 hown hgrow
              have HO := Lib.hid hown
              have HX := Lib.hid (HX.out.same (OnlyIn.of_grown hgrow))
              have hz4 := hgrow.size
              clear hown hgrow hb24 hi1 hi2 hi3
              have hsl := fun w p => sliceFound w p k hk
              obtain ⟨cur, hg, hcs⟩ : ∃ cur : Array Value, w4.heap[w3.heap.size]? = some (.cells cur 44) ∧ cur.size = k * 3 := by
                rcases HO.out.2 with ⟨he, -⟩ | ⟨g, cap, cur, he, hbg, hg, hnc, hcm, hcs, htake⟩
                · cases he
                · cases he
                  exact ⟨cur, hg, hcs⟩
              have HG := Lib.hid hg
              have HC := Lib.hid hcs
              clear hg hcs HO
              go_wp2_with (with_reducible refine wpList_copy_all rfl (.tmp 31) (.tmp 33) 40 40 rfl 44 3 undChgs sizeChg w3.heap.size k k ⟨w1.heap.size, 0, none⟩ 4 rfl rfl cur 44 HG.out (chgCells cs) ?d4 ?d5 ?d6 ?d7 ?d8)
              case d4 => rw [chgCells_len, HK.out]
              case d5 =>
                intro j u hu
                rw [add_off', blk_cell HX.out.b0]
                have hj := (List.getElem?_eq_some_iff.1 hu).1
                simp only [foundA, List.getElem?_toArray]
                rw [List.getElem?_append_left hj]
                exact hu
              case d6 => rw [HC.out, chgCells_len, HK.out]
              case d7 => exact chgCells_one cs
              have hb : OnlyIn (fun j => w1.heap.size ≤ j) w4 (w4.setRow w3.heap.size (chgCells cs).toArray) := ⟨rfl, rfl, rfl, by simp [World.setRow], fun j _ hj => setRow_other w4 w3.heap.size j _ (by omega)⟩
              have hn : (w4.setRow w3.heap.size (chgCells cs).toArray).heap[w3.heap.size]? = some (.cells (chgCells cs).toArray 44) := setRow_heap _ _ _ _ _ _ HG.out
              have hr : Rd (w4.setRow w3.heap.size (chgCells cs).toArray) R v := (setRow_other w4 w3.heap.size R _ (by omega)).trans HX.out.rd
              go_ret
              exact ChsPost.done hG.out ⟨some ⟨w3.heap.size, 0, none⟩, k, (by rw [HK.out]; rfl), fun _ => ⟨_, rfl, by omega, hn⟩⟩ (HW.out.trans ⟨hr, HX.out.only.fresh hb⟩)

end Go.Proofs.YtlfglbnbenaghaaGreatDoor
