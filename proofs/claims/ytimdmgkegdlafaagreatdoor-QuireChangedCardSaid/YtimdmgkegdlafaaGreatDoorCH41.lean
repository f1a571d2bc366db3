/- The parts Cx, Cy, Pl of the proof, joined. It holds without conditions of its own. -/
import Derived.Test.YtimdmgkegdlafaaGreatDoorCH26
import Derived.Test.YtimdmgkegdlafaaGreatDoorCH39
import Derived.Test.YtimdmgkegdlafaaGreatDoorCH40
import Derived.Test.YtimdmgkegdlafaaGreatDoorCH31
import Derived.Test.YtimdmgkegdlafaaGreatDoorCH24
/- The reference's begins and some. -/
namespace Go.Proofs.YtimdmgkegdlafaaGreatDoor
set_option linter.unusedSimpArgs false
set_option linter.unusedVariables false
open Go Go.RowKit Go.Sort Go.BigFrame Go.Shelf
attribute [local go_sem] Oper.semAt_some putAll

/-- What the search has found among the first signatures. -/
def bgS (s : Bs) (q : Nat) : Int × Int × Nat := match sigF s with
  | some (a, _) => if (a.1.toNat - 1) * 25 + a.2.toNat < q then (a.1, a.2, (sigT a.1 a.2).length) else (0, 0, 0)
  | none => (0, 0, 0)
theorem bgS_zero (s : Bs) : bgS s 0 = (0, 0, 0) := by
  unfold bgS
  split
  · rw [if_neg (by omega)]
  · rfl
theorem bgS_hit {s : Bs} {k n : Nat} (hk : k < 3) (hn : n < 25) (h2 : (sigT (k + 1) n).length ≤ s.length) (h3 : s.take (sigT (k + 1) n).length = sigT (k + 1) n) : bgS s (k * 25 + n + 1) = ((k : Int) + 1, (n : Int), (sigT (k + 1) n).length) := by
  have e : s = sigT (k + 1) n ++ s.drop (sigT (k + 1) n).length := by
    have h := (List.take_append_drop (sigT ((k : Int) + 1) n).length s).symm
    rwa [h3] at h
  have hs : sigB ((k : Int) + 1) n = true := by simp [sigB, inB]; omega
  unfold bgS
  rw [e, sigF_text hs]
  dsimp only
  rw [if_pos (by omega)]
theorem bgS_miss {s : Bs} {k n : Nat} (hk : k < 3) (hn : n < 25) (h : ¬ ((bgS s (k * 25 + n)).2.2 < (sigT (k + 1) n).length ∧ (sigT (k + 1) n).length ≤ s.length ∧ s.take (sigT (k + 1) n).length = sigT (k + 1) n)) : bgS s (k * 25 + n + 1) = bgS s (k * 25 + n) := by
  cases hq : sigF s with
  | none => unfold bgS; rw [hq]
  | some p =>
    obtain ⟨⟨r, l⟩, t⟩ := p
    have hs := (sigF_len hq).2
    have hb : 1 ≤ r ∧ r ≤ 3 ∧ 0 ≤ l ∧ l ≤ 24 := by simp [sigB, inB] at hs; omega
    have e := sigF_is hq
    unfold bgS at h ⊢
    rw [hq] at h ⊢
    dsimp only at h e ⊢
    by_cases h1 : (r.toNat - 1) * 25 + l.toNat < k * 25 + n
    · rw [if_pos h1, if_pos (by omega)]
    · by_cases h2 : (r.toNat - 1) * 25 + l.toNat = k * 25 + n
      · exfalso
        rw [if_neg h1] at h
        have hr : r = (k : Int) + 1 := by omega
        have hl : l = (n : Int) := by omega
        subst hr hl
        refine h ⟨sigT_pos _ _, ?_, ?_⟩
        · rw [e, List.length_append]; omega
        · rw [e, List.take_left]
      · rw [if_neg h1, if_neg (by omega)]
theorem bgS_all (s : Bs) : bgS s 75 = match sigF s with
    | some (a, _) => (a.1, a.2, (sigT a.1 a.2).length)
    | none => (0, 0, 0) := by
  unfold bgS
  split
  · rename_i a t h
    have hs := (sigF_len h).2
    have hb : 1 ≤ a.1 ∧ a.1 ≤ 3 ∧ 0 ≤ a.2 ∧ a.2 ≤ 24 := by simp [sigB, inB] at hs; omega
    rw [if_pos (by omega)]
  · rfl
/-- What the reference's begins returns. -/
def begR (s : Bs) : Value := match sigF s with
  | some (a, t) => .tuple #[.agg #[.int .i64 a.1, .int .i64 a.2], S t, .bool true]
  | none => .tuple #[.agg #[.int .i64 0, .int .i64 0], S s, .bool false]

structure BgW (w W : World) (s : Bs) (q m : Nat) : Prop where
  res : W.heap[w.heap.size]? = some (.cells #[.int .i64 0, .int .i64 0] 39)
  best : W.heap[w.heap.size + 1]? = some (.cells #[.int .i64 (bgS s q).1, .int .i64 (bgS s q).2.1] 39)
  many : m = (bgS s q).2.2
  below : Below w.heap.size w W
theorem BgW.later {w W W' : World} {s : Bs} {q m : Nat} (h : BgW w W s q m) (hb : Below W.heap.size W W') : BgW w W' s q m :=
  ⟨blk_later hb h.res, blk_later hb h.best, h.many, h.below.trans (hb.mono h.below.size)⟩
theorem BgW.same {w W : World} {s : Bs} {q q' m : Nat} (h : BgW w W s q m) (e : bgS s q' = bgS s q) : BgW w W s q' m :=
  ⟨h.res, by rw [e]; exact h.best, by rw [e]; exact h.many, h.below⟩
theorem BgW.set {w W : World} {s : Bs} {q q' m m' : Nat} {r l : Int} (h : BgW w W s q m) (e : bgS s q' = (r, l, m')) :
    BgW w ((W.setCell ⟨w.heap.size + 1, 0, none⟩ (.int .i64 r)).setCell ⟨w.heap.size + 1, 1, none⟩ (.int .i64 l)) s q' m' := by
  refine ⟨?_, ?_, by rw [e], ?_⟩
  · exact (heap_setCell_past _ _ _ _ (by simp)).trans ((heap_setCell_past _ _ _ _ (by simp)).trans h.res)
  · rw [e]
    exact blk_setRow h.best _ _
  · exact (h.below.setCell (by simp) _).setCell (by simp) _
theorem ext_take (s : Bs) (k : Nat) (hk : k ≤ s.length) : (⟨s.toArray⟩ : ByteArray).extract 0 k = ⟨(s.take k).toArray⟩ := by
  apply ByteArray.ext
  rw [ByteArray.data_extract]
  apply Array.toList_inj.1
  simp [List.extract_eq_drop_take']
theorem ext_drop (s : Bs) (k : Nat) (hk : k ≤ s.length) : (⟨s.toArray⟩ : ByteArray).extract k s.length = ⟨(s.drop k).toArray⟩ := by
  apply ByteArray.ext
  rw [ByteArray.data_extract]
  apply Array.toList_inj.1
  simp [List.extract_eq_drop_take']

set_option maxRecDepth 100000 in
set_option maxHeartbeats 3200000 in
theorem refBegins_any (s : Bs) (w : World) (hs : s.length ≤ 1048576) :
    Calls Tryz.prog 67 #[S s] w fun e w' => e = .returned (begR s) ∧ Below w.heap.size w w' := by
  have hzs : (⟨s.toArray⟩ : ByteArray).size = s.length := size_bytes s
  obtain ⟨N, hN⟩ : ∃ N, N = s.length := ⟨_, rfl⟩
  rw [← hN] at hs hzs
  have HN := Lib.hid hN
  clear hN
  go_enter Tryz.func67, Tryz.ntmps67
  go_wp2_with fail
  have HG : Hid (BgW w ((w.alloc (.cells #[.int .i64 0, .int .i64 0] 39)).alloc (.cells #[.int .i64 0, .int .i64 0] 39)) s 0 0) := Lib.hid ⟨by exact (by repeat (first | exact heap_alloc_at _ _ _ (by (first | omega | (simp; done) | (simp; omega) | fail)) | (refine (heap_alloc_past _ _ _ ?_).trans ?_; · (first | omega | (simp; done) | (simp; omega) | fail)) | fail)), by rw [bgS_zero]; exact (by repeat (first | exact heap_alloc_at _ _ _ (by (first | omega | (simp; done) | (simp; omega) | fail)) | (refine (heap_alloc_past _ _ _ ?_).trans ?_; · (first | omega | (simp; done) | (simp; omega) | fail)) | fail)), by rw [bgS_zero], by exact (by repeat (first | (refine Below.setCell ?_ ?_ _; rotate_left; · (first | omega | (simp; done) | (simp; omega) | fail)) | (refine Below.alloc ?_ ?_ _; rotate_left; · (first | omega | (simp; done) | (simp; omega) | fail)) | refine Below.drew ?_ | exact Below.refl _ _ | fail))⟩
  go_loopg [6, 7] 3 (fun g m r wr => ∃ (k M : Nat), k + g = 3 ∧ r = .int .i64 ((k : Int) + 1) ∧ m = .int .i64 M ∧ Hid (BgW w wr s (k * 25) M))
  case atStart => exact ⟨0, 0, rfl, rfl, rfl, HG⟩
  case round =>
    clear HG
    obtain ⟨k, M, hk, rfl, rfl, HG⟩ := hrel
    cases gk with
    | succ g =>
      have hk3 : k < 3 := by omega
      have d1 : decide (((k : Int) + 1) ≤ 3) = true := decide_eq_true (by omega)
      go_wp2_with fail
      go_loopg [6, 8] 25 (fun g2 m l wy => ∃ (n M : Nat), n + g2 = 25 ∧ l = .int .i64 n ∧ m = .int .i64 M ∧ Hid (BgW w wy s (k * 25 + n) M))
      case atStart => exact ⟨0, M, by omega, rfl, rfl, HG⟩
      case round =>
        clear HG
        obtain ⟨n, M, hn, rfl, rfl, HG⟩ := hrel
        cases gk with
        | succ g2 =>
          have hn25 : n < 25 := by omega
          have d2 : decide ((n : Int) ≤ 24) = true := decide_eq_true (by omega)
          have hsb : sigB ((k : Int) + 1) n = true := by simp [sigB, inB]; omega
          have HSB := Lib.hid hsb
          clear hsb
          go_wp2_with fail
          refine (refWritten_any _ _ HSB.out _).mono ?_
          rintro e w3 ⟨rfl, hb3⟩
          have HG := Lib.hid (HG.out.later hb3)
          clear hb3
          have hlen : (sigT ((k : Int) + 1) n).length ≤ 5 := sigT_len _ _
          have hpos := sigT_pos ((k : Int) + 1) n
          have hmm := HG.out.many
          obtain ⟨T, hT⟩ : ∃ T, T = sigT ((k : Int) + 1) n := ⟨_, rfl⟩
          have HT := Lib.hid hT
          rw [← hT] at hlen hpos ⊢
          obtain ⟨L, hL⟩ : ∃ L, L = T.length := ⟨_, rfl⟩
          have hzT : (⟨T.toArray⟩ : ByteArray).size = L := by rw [size_bytes, hL]
          rw [← hL] at hlen hpos
          have HL := Lib.hid hL
          have HM := Lib.hid hmm
          clear hT hL hmm
          by_cases c1 : M < L
          · have e1 : decide ((M : Int) < (L : Int)) = true := decide_eq_true (by omega)
            by_cases c2 : L ≤ N
            · have e2 : decide ((L : Int) ≤ (N : Int)) = true := decide_eq_true (by omega)
              have hex : (⟨s.toArray⟩ : ByteArray).extract 0 L = ⟨(s.take L).toArray⟩ := ext_take s L (by have := HN.out; omega)
              have i1 : (0 : Int) ≤ (L : Int) := by omega
              have i2 : (L : Int) ≤ (N : Int) := by omega
              by_cases c3 : s.take L = T
              · have HH := Lib.hid (bgS_hit (s := s) hk3 hn25 (by rw [← HT.out, ← HL.out, ← HN.out]; exact c2) (by rw [← HT.out, ← HL.out]; exact c3))
                rw [← HT.out, ← HL.out] at HH
                rw [c3] at hex
                have b0 := blk_cell HG.out.best 0
                have b1 := blk_cell HG.out.best 1
                have f0 := blk_free HG.out.best 0
                have f1 := blk_free HG.out.best 1
                clear c3
                go_wp2_with fail
                have HG2 := Lib.hid (HG.out.set HH.out)
                go_roundg g2
                case measure => omega
                case rel => exact ⟨n + 1, L, by omega, by go_num, by go_num, HG2⟩
              · have HMI := Lib.hid (bgS_miss (s := s) hk3 hn25 (fun h => c3 (by rw [HL.out, HT.out]; exact h.2.2)))
                have eb := bytes_no c3
                have eb2 : (s.take L == T) = false := by simp [c3]
                clear c3
                go_wp2_with fail
                have HG2 := Lib.hid (HG.out.same HMI.out)
                go_roundg g2
                case measure => omega
                case rel => exact ⟨n + 1, M, by omega, by go_num, rfl, HG2⟩
            · have HMI := Lib.hid (bgS_miss (s := s) hk3 hn25 (fun h => c2 (by rw [HL.out, HT.out, HN.out]; exact h.2.1)))
              have e2 : decide ((L : Int) ≤ (N : Int)) = false := decide_eq_false (by omega)
              go_wp2_with fail
              have HG2 := Lib.hid (HG.out.same HMI.out)
              go_roundg g2
              case measure => omega
              case rel => exact ⟨n + 1, M, by omega, by go_num, rfl, HG2⟩
          · have HMI := Lib.hid (bgS_miss (s := s) hk3 hn25 (fun h => c1 (by rw [HL.out, HT.out, HM.out]; exact h.1)))
            have e1 : decide ((M : Int) < (L : Int)) = false := decide_eq_false (by omega)
            go_wp2_with fail
            have HG2 := Lib.hid (HG.out.same HMI.out)
            go_roundg g2
            case measure => omega
            case rel => exact ⟨n + 1, M, by omega, by go_num, rfl, HG2⟩
        | zero =>
          have hn25 : n = 25 := by omega
          subst hn25
          go_wp2_with fail
          go_roundg g
          case measure => omega
          case rel => exact ⟨k + 1, M, by omega, by go_num, rfl, (by show BgW _ _ _ _ _; have h := HG.out; rwa [show (k + 1) * 25 = k * 25 + 25 by omega])⟩
    | zero =>
      have hk3 : k = 3 := by omega
      subst hk3
      have hA := bgS_all s
      have hmm := HG.out.many
      rw [show 3 * 25 = 75 from rfl, hA] at hmm
      have hbest := HG.out.best
      rw [show 3 * 25 = 75 from rfl, hA] at hbest
      have hres := HG.out.res
      have HB := Lib.hid HG.out.below
      clear hk HG hA
      have hXr : w.heap.size ≠ w.heap.size + 1 := by omega
      cases hq : sigF s with
      | some p =>
        obtain ⟨⟨r, l⟩, t⟩ := p
        rw [hq] at hmm hbest
        dsimp only at hmm hbest
        have hst := sigF_is hq
        dsimp only at hst
        have HR : Hid (begR s = .tuple #[.agg #[.int .i64 r, .int .i64 l], S t, .bool true]) := Lib.hid (by unfold begR; rw [hq])
        have hMN : M ≤ N := by have := HN.out; rw [hst, List.length_append] at this; omega
        have hMp : 0 < M := by rw [hmm]; exact sigT_pos _ _
        have hex : (⟨s.toArray⟩ : ByteArray).extract M N = ⟨t.toArray⟩ := by
          rw [HN.out, ext_drop s M (by have := HN.out; omega)]
          congr 2
          rw [hst, hmm, List.drop_left]
        have b0 := blk_cell hbest 0
        have b1 := blk_cell hbest 1
        have a0 := blk_cell hres 0
        have a1 := blk_cell hres 1
        have f0 := blk_free hres 0
        have f1 := blk_free hres 1
        have i1 : (M : Int) ≤ (N : Int) := by omega
        have d0 : decide ((0 : Int) < (M : Int)) = true := decide_eq_true (by omega)
        clear hmm hst hq
        go_wp2_with fail
        go_region
        go_wp2_with fail
        have hset := blk_drew (blk_setRow hres (.int .i64 r) (.int .i64 l))
        have z0 := blk_cell hset 0
        have z1 := blk_cell hset 1
        clear hset a0 a1 f0 f1 b0 b1
        exact bodyPost_ret (v := .tuple #[.agg #[.int .i64 r, .int .i64 l], S t, .bool true]) (by simp [results, Tryz.results67, go_sem, z0, z1]) rfl ⟨by rw [HR.out], ((HB.out.setCell (by simp) _).setCell (by simp) _).drew⟩
      | none =>
        rw [hq] at hmm hbest
        dsimp only at hmm hbest
        subst hmm
        have HR : Hid (begR s = .tuple #[.agg #[.int .i64 0, .int .i64 0], S s, .bool false]) := Lib.hid (by unfold begR; rw [hq])
        have hex : (⟨s.toArray⟩ : ByteArray).extract 0 N = ⟨s.toArray⟩ := by
          rw [HN.out, ext_drop s 0 (by omega)]
          rfl
        have b0 := blk_cell hbest 0
        have b1 := blk_cell hbest 1
        have a0 := blk_cell hres 0
        have a1 := blk_cell hres 1
        have f0 := blk_free hres 0
        have f1 := blk_free hres 1
        clear hq
        go_wp2_with fail
        go_region
        go_wp2_with fail
        have hset := blk_drew (blk_setRow hres (.int .i64 0) (.int .i64 0))
        have z0 := blk_cell hset 0
        have z1 := blk_cell hset 1
        clear hset a0 a1 f0 f1 b0 b1
        exact bodyPost_ret (v := .tuple #[.agg #[.int .i64 0, .int .i64 0], S s, .bool false]) (by simp [results, Tryz.results67, go_sem, z0, z1]) rfl ⟨by rw [HR.out], ((HB.out.setCell (by simp) _).setCell (by simp) _).drew⟩

end Go.Proofs.YtimdmgkegdlafaaGreatDoor

/- The reference's Leaf and Find. -/
namespace Go.Proofs.YtimdmgkegdlafaaGreatDoor
set_option linter.unusedSimpArgs false
set_option linter.unusedVariables false
open Go Go.RowKit Go.Sort Go.BigFrame Go.Shelf
attribute [local go_sem] Oper.semAt_some putAll

theorem getL_out {α : Type} {xs : List α} {n : Int} (h : inB 0 ((xs.length : Int) - 1) n = false) : getL xs n = none := by
  simp [inB] at h
  unfold getL
  split
  · rfl
  · exact List.getElem?_eq_none (by omega)


theorem placeF_find {b : Bk} (he : errF b = 0) {s : Bs} {q : Int × Int × Int × Int} (h : allF (leafNameF s) = some q) : placeF (textsF b) s = match (lvs b).findIdx? fun x => decide (nameQ b x = q) with
    | some i => (i : Int)
    | none => -1 := by
  cases hf : (lvs b).findIdx? fun x => decide (nameQ b x = q) with
  | some i =>
    rw [List.findIdx?_eq_some_iff_getElem] at hf
    obtain ⟨h1, h2, h3⟩ := hf
    have hx : (lvs b)[i]? = some (lvs b)[i] := List.getElem?_eq_getElem h1
    refine place_found ?_ ?_
    · rw [text_at hx, (place_find he h _ (List.mem_of_getElem? hx)).2 (by simpa using h2)]
    · intro j hj e
      have hjl : j < (lvs b).length := by omega
      have hy : (lvs b)[j]? = some (lvs b)[j] := List.getElem?_eq_getElem hjl
      rw [text_at hy] at e
      have := (place_find he h _ (List.mem_of_getElem? hy)).1 (Option.some.inj e)
      have h4 := h3 j hj
      simp [this] at h4
  | none =>
    refine place_none ?_
    intro j e
    obtain ⟨hjl, _⟩ := List.getElem?_eq_some_iff.1 e
    rw [texts_len] at hjl
    have hy : (lvs b)[j]? = some (lvs b)[j] := List.getElem?_eq_getElem hjl
    rw [text_at hy] at e
    have := (place_find he h _ (List.mem_of_getElem? hy)).1 (Option.some.inj e)
    rw [List.findIdx?_eq_none_iff] at hf
    have h4 := hf _ (List.mem_of_getElem? hy)
    simp [this] at h4

end Go.Proofs.YtimdmgkegdlafaaGreatDoor

/- One change of a gathering: what Find, Leaf, Mate and Differ then say. -/
namespace Go.Proofs.YtimdmgkegdlafaaGreatDoor
set_option linter.unusedSimpArgs false
set_option linter.unusedVariables false
open Go

theorem mid_at {α : Type} (P Q : List α) (x : α) (i : Nat) : (P ++ x :: Q)[i]? = if i < P.length then P[i]? else if i = P.length then some x else Q[i - P.length - 1]? := by
  split
  · rename_i h
    exact List.getElem?_append_left h
  · rename_i h
    rw [List.getElem?_append_right (by omega)]
    split
    · rename_i h2
      rw [h2, Nat.sub_self]
      rfl
    · rename_i h2
      rw [show i - P.length = (i - P.length - 1) + 1 by omega]
      rfl
theorem less_at {α : Type} {P Q : List α} {x z : α} {i : Nat} (hi : i ≠ P.length) (h : (P ++ x :: Q)[i]? = some z) : (P ++ Q)[if P.length < i then i - 1 else i]? = some z := by
  rw [mid_at] at h
  by_cases h1 : i < P.length
  · rw [if_pos h1] at h
    rw [if_neg (by omega), List.getElem?_append_left h1]
    exact h
  · rw [if_neg h1, if_neg hi] at h
    rw [if_pos (by omega), List.getElem?_append_right (by omega), show i - 1 - P.length = i - P.length - 1 by omega]
    exact h
theorem swap_at {α : Type} {P Q : List α} {x x' z : α} {i : Nat} (h : (P ++ x :: Q)[i]? = some z) : ∃ z', (P ++ x' :: Q)[i]? = some z' ∧ (z' = z ∨ (i = P.length ∧ z = x ∧ z' = x')) := by
  rw [mid_at] at h ⊢
  by_cases h1 : i < P.length
  · rw [if_pos h1] at h ⊢
    exact ⟨z, h, Or.inl rfl⟩
  · rw [if_neg h1] at h ⊢
    by_cases h2 : i = P.length
    · rw [if_pos h2] at h ⊢
      exact ⟨x', rfl, Or.inr ⟨h2, (Option.some.inj h).symm, rfl⟩⟩
    · rw [if_neg h2] at h ⊢
      exact ⟨z, h, Or.inl rfl⟩

/-- What is given: a valid book, one of its gatherings, and a number of it. -/
structure Chd (b : Bk) (k : Nat) (g : Gth) (n L : Nat) : Prop where
  ok : errF b = 0
  at_ : b.gs[k]? = some g
  leaves : g.leaves = (L : Int)
  one : 1 ≤ n
  most : n ≤ L
section
variable {b : Bk} {k : Nat} {g : Gth} {n L : Nat}
theorem Chd.gok (h : Chd b k g n L) : GOk g := (errF_zero h.ok).gs g (List.mem_of_getElem? h.at_)
theorem Chd.plainOk (h : Chd b k g n L) : errF (withC b k g []) = 0 := withC_ok h.ok h.at_ (by simp) rfl
theorem Chd.lessOk (h : Chd b k g n L) : errF (withC b k g [⟨1, n, 0⟩]) = 0 := withC_ok h.ok h.at_ (by simp) (one_ok 1 (Or.inl rfl) (by have := h.one; omega) (by have := h.most; have := h.leaves; omega))
theorem Chd.swapOk (h : Chd b k g n L) : errF (withC b k g [⟨2, n, 0⟩]) = 0 := withC_ok h.ok h.at_ (by simp) (one_ok 2 (Or.inr rfl) (by have := h.one; omega) (by have := h.most; have := h.leaves; omega))
theorem Chd.plain (h : Chd b k g n L) : lvs (withC b k g []) = befL b k n ++ (⟨k, n, 0, 0⟩ :: behL b k n L) := plain_lvs h.at_ h.leaves h.one h.most
theorem Chd.less (h : Chd b k g n L) : lvs (withC b k g [⟨1, n, 0⟩]) = befL b k n ++ behL b k n L := less_lvs h.at_ h.leaves h.one h.most
theorem Chd.swap (h : Chd b k g n L) : lvs (withC b k g [⟨2, n, 0⟩]) = befL b k n ++ (⟨k, n, 0, 1⟩ :: behL b k n L) := swap_lvs h.at_ h.leaves h.one h.most
theorem Chd.here (h : Chd b k g n L) : (lvs (withC b k g []))[(befL b k n).length]? = some ⟨k, n, 0, 0⟩ := by
  rw [h.plain, mid_at, if_neg (by omega), if_pos rfl]
theorem Chd.name (h : Chd b k g n L) : lfText b ⟨k, n, 0, 0⟩ = nameT g.round g.letter n 0 := by
  unfold lfText
  dsimp only
  rw [h.at_]
/-- Where the leaf is found. -/
theorem Chd.find (h : Chd b k g n L) : findR (withC b k g []) (nameT g.round g.letter n 0) = .tuple #[.int .i64 ((befL b k n).length : Int), .int .i64 0] := by
  rw [← h.name, ← withC_text h.at_ []]
  exact find_back h.plainOk h.here
/-- No other leaf has its name. -/
theorem Chd.other (h : Chd b k g n L) {z : Lf} (hz : z ∈ befL b k n ++ behL b k n L) : nameQ b z ≠ nameQ b ⟨k, n, 0, 0⟩ := by
  intro e
  obtain ⟨j, hj⟩ := List.mem_iff_getElem?.1 hz
  have hi : ∃ i, i ≠ (befL b k n).length ∧ (lvs (withC b k g []))[i]? = some z := by
    by_cases h1 : j < (befL b k n).length
    · refine ⟨j, by omega, ?_⟩
      rw [List.getElem?_append_left h1] at hj
      rw [h.plain, mid_at, if_pos h1]
      exact hj
    · refine ⟨j + 1, by omega, ?_⟩
      rw [List.getElem?_append_right (by omega)] at hj
      rw [h.plain, mid_at, if_neg (by omega), if_neg (by omega), show j + 1 - (befL b k n).length - 1 = j - (befL b k n).length by omega]
      exact hj
  obtain ⟨i, hne, hi⟩ := hi
  refine hne (name_inj h.plainOk hi h.here ?_)
  rw [withC_name h.at_, withC_name h.at_]
  exact e
theorem Chd.gone (h : Chd b k g n L) : findR (withC b k g [⟨1, n, 0⟩]) (nameT g.round g.letter n 0) = .tuple #[.int .i64 0, .int .i64 4] := by
  have hb := text_back h.plainOk (List.mem_of_getElem? h.here)
  rw [withC_text h.at_, withC_name h.at_, h.name] at hb
  unfold findR
  rw [hb]
  dsimp only
  have e : (lvs (withC b k g [⟨1, n, 0⟩])).findIdx? (fun x => decide (nameQ (withC b k g [⟨1, n, 0⟩]) x = nameQ b ⟨k, n, 0, 0⟩)) = none := by
    rw [List.findIdx?_eq_none_iff]
    intro z hz
    rw [h.less] at hz
    rw [withC_name h.at_]
    exact decide_eq_false (h.other hz)
  rw [e]
  rfl
/-- The leaves' texts. -/
theorem Chd.leafP (h : Chd b k g n L) {i : Nat} {z : Lf} (hz : (lvs (withC b k g []))[i]? = some z) : leafTR (withC b k g []) (getL (lvs (withC b k g [])) i) = .tuple #[S (lfText b z), .int .i64 0] := by
  rw [getL_nat, hz]
  unfold leafTR
  dsimp only
  rw [withC_text h.at_]
theorem Chd.leafL (h : Chd b k g n L) {i : Nat} {z : Lf} (hi : i ≠ (befL b k n).length) (hz : (lvs (withC b k g []))[i]? = some z) :
    leafTR (withC b k g [⟨1, n, 0⟩]) (getL (lvs (withC b k g [⟨1, n, 0⟩])) ((if (befL b k n).length < i then i - 1 else i : Nat) : Int)) = .tuple #[S (lfText b z), .int .i64 0] := by
  rw [h.plain] at hz
  rw [getL_nat, h.less, less_at hi hz]
  unfold leafTR
  dsimp only
  rw [withC_text h.at_]
theorem Chd.leafS (h : Chd b k g n L) {i : Nat} {z : Lf} (hz : (lvs (withC b k g []))[i]? = some z) : leafTR (withC b k g [⟨2, n, 0⟩]) (getL (lvs (withC b k g [⟨2, n, 0⟩])) i) = .tuple #[S (lfText b z), .int .i64 0] := by
  rw [h.plain] at hz
  obtain ⟨z', hz', e⟩ := swap_at (x' := (⟨k, n, 0, 1⟩ : Lf)) hz
  rw [getL_nat, h.swap, hz']
  unfold leafTR
  dsimp only
  rw [withC_text h.at_]
  rcases e with rfl | ⟨_, rfl, rfl⟩ <;> rfl
/-- The mate. -/
theorem Chd.mateNone (h : Chd b k g n L) (h1 : L = 1) : mateF (withC b k g []) ((befL b k n).length : Int) = none := by
  have hn := h.one
  have hm := h.most
  have hl := h.leaves
  unfold mateF
  rw [getL_nat, h.here]
  dsimp only
  rw [withC_turned h.at_, if_neg]
  rintro ⟨-, hne⟩
  refine hne ?_
  rw [hl]
  congr 1
  omega
theorem mem_own {k m : Nat} (h : m ≠ 0) : (⟨k, m, 0, 0⟩ : Lf) ∈ ownL k m := by
  unfold ownL
  rw [if_neg h]
  simp
theorem Chd.mateSome (h : Chd b k g n L) (h1 : L ≠ 1) : ∃ i, mateF (withC b k g []) ((befL b k n).length : Int) = some i ∧ i ≠ (befL b k n).length ∧ (lvs (withC b k g []))[i]? = some ⟨k, ((L + 1 - n : Nat) : Int), 0, 0⟩ := by
  have hn := h.one
  have hm := h.most
  have hl := h.leaves
  have hf := h.gok.folded
  have hev : L + 1 - n ≠ n := by
    simp only [foldedB, Bool.or_eq_true, Bool.and_eq_true, decide_eq_true_eq] at hf
    omega
  have hmem : (⟨k, ((L + 1 - n : Nat) : Int), 0, 0⟩ : Lf) ∈ lvs (withC b k g []) := by
    rw [h.plain]
    by_cases hlt : L + 1 - n < n
    · refine List.mem_append_left _ (List.mem_append_right _ ?_)
      exact List.mem_flatMap.2 ⟨L + 1 - n, List.mem_range.2 hlt, mem_own (by omega)⟩
    · refine List.mem_append_right _ (List.mem_cons_of_mem _ (List.mem_append_left _ ?_))
      exact List.mem_flatMap.2 ⟨L + 1 - n, List.mem_map.2 ⟨L + 1 - n - n - 1, List.mem_range.2 (by omega), by omega⟩, mem_own (by omega)⟩
  obtain ⟨i, hi⟩ := List.mem_iff_getElem?.1 hmem
  refine ⟨i, ?_, ?_, hi⟩
  · unfold mateF
    rw [getL_nat, h.here]
    dsimp only
    have e : turnedL (withC b k g []) ⟨k, n, 0, 0⟩ = ⟨k, ((L + 1 - n : Nat) : Int), 0, 0⟩ := by
      rw [withC_turned h.at_, hl]
      congr 1
      omega
    rw [e, if_pos ⟨rfl, fun h => by simp only [Lf.mk.injEq] at h; omega⟩]
    exact find_at (lvs_sorted _) hi
  · rintro rfl
    rw [h.here] at hi
    simp only [Option.some.injEq, Lf.mk.injEq] at hi
    omega
theorem Chd.notIn (h : Chd b k g n L) : (⟨k, n, 0, 0⟩ : Lf) ∉ befL b k n ++ behL b k n L := fun hm => h.other hm rfl
theorem Chd.mateLess (h : Chd b k g n L) {j : Nat} (hj : (lvs (withC b k g [⟨1, n, 0⟩]))[j]? = some ⟨k, ((L + 1 - n : Nat) : Int), 0, 0⟩) : mateF (withC b k g [⟨1, n, 0⟩]) (j : Int) = none := by
  have hm := h.most
  unfold mateF
  rw [getL_nat, hj]
  dsimp only
  split
  · rw [List.findIdx?_eq_none_iff]
    intro z hz
    rw [h.less] at hz
    refine decide_eq_false (fun e => h.notIn ?_)
    rw [withC_turned h.at_, h.leaves, show (L : Int) + 1 - ((L + 1 - n : Nat) : Int) = n by omega] at e
    rw [← e]
    exact hz
  · rfl
theorem Chd.mateSwap (h : Chd b k g n L) {j : Nat} (hj : (lvs (withC b k g [⟨2, n, 0⟩]))[j]? = some ⟨k, ((L + 1 - n : Nat) : Int), 0, 0⟩) : mateF (withC b k g [⟨2, n, 0⟩]) (j : Int) = none := by
  have hm := h.most
  unfold mateF
  rw [getL_nat, hj]
  dsimp only
  split
  · rw [List.findIdx?_eq_none_iff]
    intro z hz
    rw [h.swap] at hz
    refine decide_eq_false (fun e => ?_)
    rw [withC_turned h.at_, h.leaves, show (L : Int) + 1 - ((L + 1 - n : Nat) : Int) = n by omega] at e
    subst e
    rcases List.mem_append.1 hz with hz | hz
    · exact h.notIn (List.mem_append_left _ hz)
    · rcases List.mem_cons.1 hz with hz | hz
      · simp only [Lf.mk.injEq] at hz
        omega
      · exact h.notIn (List.mem_append_right _ hz)
  · rfl
/-- Where they differ. -/
theorem names_map {b : Bk} {k : Nat} {g : Gth} (hg : b.gs[k]? = some g) (cs : List Chg) : namesF (withC b k g cs) = (lvs (withC b k g cs)).map (nameQ b) := by
  unfold namesF
  exact List.map_congr_left fun x _ => withC_name hg cs x
theorem diffAt_self : ∀ (xs : List Quad) (i : Nat), diffAt i xs xs = none
  | [], _ => rfl
  | x :: xs, i => by
    simp only [diffAt, if_true]
    exact diffAt_self xs (i + 1)
theorem Chd.differS (h : Chd b k g n L) : diffAt 0 (namesF (withC b k g [])) (namesF (withC b k g [⟨2, n, 0⟩])) = none := by
  rw [names_map h.at_, names_map h.at_, h.plain, h.swap]
  simp only [List.map_append, List.map_cons]
  have e : nameQ b ⟨k, n, 0, 1⟩ = nameQ b ⟨k, n, 0, 0⟩ := rfl
  rw [e]
  exact diffAt_self _ _
theorem Chd.differL (h : Chd b k g n L) : diffAt 0 (namesF (withC b k g [])) (namesF (withC b k g [⟨1, n, 0⟩])) = some (befL b k n).length := by
  rw [names_map h.at_, names_map h.at_, h.plain, h.less]
  simp only [List.map_append, List.map_cons]
  rw [diffAt_app, List.length_map, Nat.zero_add]
  cases hq : behL b k n L with
  | nil => rfl
  | cons y ys =>
    have hne := h.other (z := y) (List.mem_append_right _ (by rw [hq]; simp))
    simp only [List.map_cons, diffAt]
    rw [if_neg (fun e => hne e.symm)]
end
end Go.Proofs.YtimdmgkegdlafaaGreatDoor
