/- The parts Cx of the proof, joined. It holds without conditions of its own. -/
import Derived.Test.YtimdmgkegdlafaaGreatDoorSH26
import Derived.Test.YtimdmgkegdlafaaGreatDoorSH42
import Derived.Test.YtimdmgkegdlafaaGreatDoorSH43
import Derived.Test.YtimdmgkegdlafaaGreatDoorSH32
/- The reference's begins and some. -/
namespace Go.Proofs.YtimdmgkegdlafaaGreatDoor
set_option linter.unusedSimpArgs false
set_option linter.unusedVariables false
open Go Go.RowKit Go.Sort Go.BigFrame Go.Shelf
attribute [local go_sem] Oper.semAt_some putAll

/-- What the search has found among the first signatures. -/
def bgS (s : Bs) (q : Nat) : Int × Int × Nat := match sigF s with
  | some (a, _) => if (a.1.toNat - 1) * 25 + a.2.toNat < q then (a.1, a.2, (sigT a.1 a.2).length) else (0, 0, 0)
  | none => (0, 0, 0)
theorem bgS_zero (s : Bs) : bgS s 0 = (0, 0, 0) := by
  unfold bgS
  split
  · rw [if_neg (by omega)]
  · rfl
theorem bgS_hit {s : Bs} {k n : Nat} (hk : k < 3) (hn : n < 25) (h2 : (sigT (k + 1) n).length ≤ s.length) (h3 : s.take (sigT (k + 1) n).length = sigT (k + 1) n) : bgS s (k * 25 + n + 1) = ((k : Int) + 1, (n : Int), (sigT (k + 1) n).length) := by
  have e : s = sigT (k + 1) n ++ s.drop (sigT (k + 1) n).length := by
    have h := (List.take_append_drop (sigT ((k : Int) + 1) n).length s).symm
    rwa [h3] at h
  have hs : sigB ((k : Int) + 1) n = true := by simp [sigB, inB]; omega
  unfold bgS
  rw [e, sigF_text hs]
  dsimp only
  rw [if_pos (by omega)]
theorem bgS_miss {s : Bs} {k n : Nat} (hk : k < 3) (hn : n < 25) (h : ¬ ((bgS s (k * 25 + n)).2.2 < (sigT (k + 1) n).length ∧ (sigT (k + 1) n).length ≤ s.length ∧ s.take (sigT (k + 1) n).length = sigT (k + 1) n)) : bgS s (k * 25 + n + 1) = bgS s (k * 25 + n) := by
  cases hq : sigF s with
  | none => unfold bgS; rw [hq]
  | some p =>
    obtain ⟨⟨r, l⟩, t⟩ := p
    have hs := (sigF_len hq).2
    have hb : 1 ≤ r ∧ r ≤ 3 ∧ 0 ≤ l ∧ l ≤ 24 := by simp [sigB, inB] at hs; omega
    have e := sigF_is hq
    unfold bgS at h ⊢
    rw [hq] at h ⊢
    dsimp only at h e ⊢
    by_cases h1 : (r.toNat - 1) * 25 + l.toNat < k * 25 + n
    · rw [if_pos h1, if_pos (by omega)]
    · by_cases h2 : (r.toNat - 1) * 25 + l.toNat = k * 25 + n
      · exfalso
        rw [if_neg h1] at h
        have hr : r = (k : Int) + 1 := by omega
        have hl : l = (n : Int) := by omega
        subst hr hl
        refine h ⟨sigT_pos _ _, ?_, ?_⟩
        · rw [e, List.length_append]; omega
        · rw [e, List.take_left]
      · rw [if_neg h1, if_neg (by omega)]
theorem bgS_all (s : Bs) : bgS s 75 = match sigF s with
    | some (a, _) => (a.1, a.2, (sigT a.1 a.2).length)
    | none => (0, 0, 0) := by
  unfold bgS
  split
  · rename_i a t h
    have hs := (sigF_len h).2
    have hb : 1 ≤ a.1 ∧ a.1 ≤ 3 ∧ 0 ≤ a.2 ∧ a.2 ≤ 24 := by simp [sigB, inB] at hs; omega
    rw [if_pos (by omega)]
  · rfl
/-- What the reference's begins returns. -/
def begR (s : Bs) : Value := match sigF s with
  | some (a, t) => .tuple #[.agg #[.int .i64 a.1, .int .i64 a.2], S t, .bool true]
  | none => .tuple #[.agg #[.int .i64 0, .int .i64 0], S s, .bool false]

structure BgW (w W : World) (s : Bs) (q m : Nat) : Prop where
  res : W.heap[w.heap.size]? = some (.cells #[.int .i64 0, .int .i64 0] 39)
  best : W.heap[w.heap.size + 1]? = some (.cells #[.int .i64 (bgS s q).1, .int .i64 (bgS s q).2.1] 39)
  many : m = (bgS s q).2.2
  below : Below w.heap.size w W
theorem BgW.later {w W W' : World} {s : Bs} {q m : Nat} (h : BgW w W s q m) (hb : Below W.heap.size W W') : BgW w W' s q m :=
  ⟨blk_later hb h.res, blk_later hb h.best, h.many, h.below.trans (hb.mono h.below.size)⟩
theorem BgW.same {w W : World} {s : Bs} {q q' m : Nat} (h : BgW w W s q m) (e : bgS s q' = bgS s q) : BgW w W s q' m :=
  ⟨h.res, by rw [e]; exact h.best, by rw [e]; exact h.many, h.below⟩
theorem BgW.set {w W : World} {s : Bs} {q q' m m' : Nat} {r l : Int} (h : BgW w W s q m) (e : bgS s q' = (r, l, m')) :
    BgW w ((W.setCell ⟨w.heap.size + 1, 0, none⟩ (.int .i64 r)).setCell ⟨w.heap.size + 1, 1, none⟩ (.int .i64 l)) s q' m' := by
  refine ⟨?_, ?_, by rw [e], ?_⟩
  · exact (heap_setCell_past _ _ _ _ (by simp)).trans ((heap_setCell_past _ _ _ _ (by simp)).trans h.res)
  · rw [e]
    exact blk_setRow h.best _ _
  · exact (h.below.setCell (by simp) _).setCell (by simp) _
theorem ext_take (s : Bs) (k : Nat) (hk : k ≤ s.length) : (⟨s.toArray⟩ : ByteArray).extract 0 k = ⟨(s.take k).toArray⟩ := by
  apply ByteArray.ext
  rw [ByteArray.data_extract]
  apply Array.toList_inj.1
  simp [List.extract_eq_drop_take']
theorem ext_drop (s : Bs) (k : Nat) (hk : k ≤ s.length) : (⟨s.toArray⟩ : ByteArray).extract k s.length = ⟨(s.drop k).toArray⟩ := by
  apply ByteArray.ext
  rw [ByteArray.data_extract]
  apply Array.toList_inj.1
  simp [List.extract_eq_drop_take']

set_option maxRecDepth 100000 in
set_option maxHeartbeats 3200000 in
theorem refBegins_any (s : Bs) (w : World) (hs : s.length ≤ 1048576) :
    Calls Tryz.prog 67 #[S s] w fun e w' => e = .returned (begR s) ∧ Below w.heap.size w w' := by
  have hzs : (⟨s.toArray⟩ : ByteArray).size = s.length := size_bytes s
  obtain ⟨N, hN⟩ : ∃ N, N = s.length := ⟨_, rfl⟩
  rw [← hN] at hs hzs
  have HN := Lib.hid hN
  clear hN
  go_enter Tryz.func67, Tryz.ntmps67
  go_wp2_with fail
  have HG : Hid (BgW w ((w.alloc (.cells #[.int .i64 0, .int .i64 0] 39)).alloc (.cells #[.int .i64 0, .int .i64 0] 39)) s 0 0) := Lib.hid ⟨by exact (by repeat (first | exact heap_alloc_at _ _ _ (by (first | omega | (simp; done) | (simp; omega) | fail)) | (refine (heap_alloc_past _ _ _ ?_).trans ?_; · (first | omega | (simp; done) | (simp; omega) | fail)) | fail)), by rw [bgS_zero]; exact (by repeat (first | exact heap_alloc_at _ _ _ (by (first | omega | (simp; done) | (simp; omega) | fail)) | (refine (heap_alloc_past _ _ _ ?_).trans ?_; · (first | omega | (simp; done) | (simp; omega) | fail)) | fail)), by rw [bgS_zero], by exact (by repeat (first | (refine Below.setCell ?_ ?_ _; rotate_left; · (first | omega | (simp; done) | (simp; omega) | fail)) | (refine Below.alloc ?_ ?_ _; rotate_left; · (first | omega | (simp; done) | (simp; omega) | fail)) | refine Below.drew ?_ | exact Below.refl _ _ | fail))⟩
  go_loopg [6, 7] 3 (fun g m r wr => ∃ (k M : Nat), k + g = 3 ∧ r = .int .i64 ((k : Int) + 1) ∧ m = .int .i64 M ∧ Hid (BgW w wr s (k * 25) M))
  case atStart => exact ⟨0, 0, rfl, rfl, rfl, HG⟩
  case round =>
    clear HG
    obtain ⟨k, M, hk, rfl, rfl, HG⟩ := hrel
    cases gk with
    | succ g =>
      have hk3 : k < 3 := by omega
      have d1 : decide (((k : Int) + 1) ≤ 3) = true := decide_eq_true (by omega)
      go_wp2_with fail
      go_loopg [6, 8] 25 (fun g2 m l wy => ∃ (n M : Nat), n + g2 = 25 ∧ l = .int .i64 n ∧ m = .int .i64 M ∧ Hid (BgW w wy s (k * 25 + n) M))
      case atStart => exact ⟨0, M, by omega, rfl, rfl, HG⟩
      case round =>
        clear HG
        obtain ⟨n, M, hn, rfl, rfl, HG⟩ := hrel
        cases gk with
        | succ g2 =>
          have hn25 : n < 25 := by omega
          have d2 : decide ((n : Int) ≤ 24) = true := decide_eq_true (by omega)
          have hsb : sigB ((k : Int) + 1) n = true := by simp [sigB, inB]; omega
          have HSB := Lib.hid hsb
          clear hsb
          go_wp2_with fail
          refine (refWritten_any _ _ HSB.out _).mono ?_
          rintro e w3 ⟨rfl, hb3⟩
          have HG := Lib.hid (HG.out.later hb3)
          clear hb3
          have hlen : (sigT ((k : Int) + 1) n).length ≤ 5 := sigT_len _ _
          have hpos := sigT_pos ((k : Int) + 1) n
          have hmm := HG.out.many
          obtain ⟨T, hT⟩ : ∃ T, T = sigT ((k : Int) + 1) n := ⟨_, rfl⟩
          have HT := Lib.hid hT
          rw [← hT] at hlen hpos ⊢
          obtain ⟨L, hL⟩ : ∃ L, L = T.length := ⟨_, rfl⟩
          have hzT : (⟨T.toArray⟩ : ByteArray).size = L := by rw [size_bytes, hL]
          rw [← hL] at hlen hpos
          have HL := Lib.hid hL
          have HM := Lib.hid hmm
          clear hT hL hmm
          by_cases c1 : M < L
          · have e1 : decide ((M : Int) < (L : Int)) = true := decide_eq_true (by omega)
            by_cases c2 : L ≤ N
            · have e2 : decide ((L : Int) ≤ (N : Int)) = true := decide_eq_true (by omega)
              have hex : (⟨s.toArray⟩ : ByteArray).extract 0 L = ⟨(s.take L).toArray⟩ := ext_take s L (by have := HN.out; omega)
              have i1 : (0 : Int) ≤ (L : Int) := by omega
              have i2 : (L : Int) ≤ (N : Int) := by omega
              by_cases c3 : s.take L = T
              · have HH := Lib.hid (bgS_hit (s := s) hk3 hn25 (by rw [← HT.out, ← HL.out, ← HN.out]; exact c2) (by rw [← HT.out, ← HL.out]; exact c3))
                rw [← HT.out, ← HL.out] at HH
                rw [c3] at hex
                have b0 := blk_cell HG.out.best 0
                have b1 := blk_cell HG.out.best 1
                have f0 := blk_free HG.out.best 0
                have f1 := blk_free HG.out.best 1
                clear c3
                go_wp2_with fail
                have HG2 := Lib.hid (HG.out.set HH.out)
                go_roundg g2
                case measure => omega
                case rel => exact ⟨n + 1, L, by omega, by go_num, by go_num, HG2⟩
              · have HMI := Lib.hid (bgS_miss (s := s) hk3 hn25 (fun h => c3 (by rw [HL.out, HT.out]; exact h.2.2)))
                have eb := bytes_no c3
                have eb2 : (s.take L == T) = false := by simp [c3]
                clear c3
                go_wp2_with fail
                have HG2 := Lib.hid (HG.out.same HMI.out)
                go_roundg g2
                case measure => omega
                case rel => exact ⟨n + 1, M, by omega, by go_num, rfl, HG2⟩
            · have HMI := Lib.hid (bgS_miss (s := s) hk3 hn25 (fun h => c2 (by rw [HL.out, HT.out, HN.out]; exact h.2.1)))
              have e2 : decide ((L : Int) ≤ (N : Int)) = false := decide_eq_false (by omega)
              go_wp2_with fail
              have HG2 := Lib.hid (HG.out.same HMI.out)
              go_roundg g2
              case measure => omega
              case rel => exact ⟨n + 1, M, by omega, by go_num, rfl, HG2⟩
          · have HMI := Lib.hid (bgS_miss (s := s) hk3 hn25 (fun h => c1 (by rw [HL.out, HT.out, HM.out]; exact h.1)))
            have e1 : decide ((M : Int) < (L : Int)) = false := decide_eq_false (by omega)
            go_wp2_with fail
            have HG2 := Lib.hid (HG.out.same HMI.out)
            go_roundg g2
            case measure => omega
            case rel => exact ⟨n + 1, M, by omega, by go_num, rfl, HG2⟩
        | zero =>
          have hn25 : n = 25 := by omega
          subst hn25
          go_wp2_with fail
          go_roundg g
          case measure => omega
          case rel => exact ⟨k + 1, M, by omega, by go_num, rfl, (by show BgW _ _ _ _ _; have h := HG.out; rwa [show (k + 1) * 25 = k * 25 + 25 by omega])⟩
    | zero =>
      have hk3 : k = 3 := by omega
      subst hk3
      have hA := bgS_all s
      have hmm := HG.out.many
      rw [show 3 * 25 = 75 from rfl, hA] at hmm
      have hbest := HG.out.best
      rw [show 3 * 25 = 75 from rfl, hA] at hbest
      have hres := HG.out.res
      have HB := Lib.hid HG.out.below
      clear hk HG hA
      have hXr : w.heap.size ≠ w.heap.size + 1 := by omega
      cases hq : sigF s with
      | some p =>
        obtain ⟨⟨r, l⟩, t⟩ := p
        rw [hq] at hmm hbest
        dsimp only at hmm hbest
        have hst := sigF_is hq
        dsimp only at hst
        have HR : Hid (begR s = .tuple #[.agg #[.int .i64 r, .int .i64 l], S t, .bool true]) := Lib.hid (by unfold begR; rw [hq])
        have hMN : M ≤ N := by have := HN.out; rw [hst, List.length_append] at this; omega
        have hMp : 0 < M := by rw [hmm]; exact sigT_pos _ _
        have hex : (⟨s.toArray⟩ : ByteArray).extract M N = ⟨t.toArray⟩ := by
          rw [HN.out, ext_drop s M (by have := HN.out; omega)]
          congr 2
          rw [hst, hmm, List.drop_left]
        have b0 := blk_cell hbest 0
        have b1 := blk_cell hbest 1
        have a0 := blk_cell hres 0
        have a1 := blk_cell hres 1
        have f0 := blk_free hres 0
        have f1 := blk_free hres 1
        have i1 : (M : Int) ≤ (N : Int) := by omega
        have d0 : decide ((0 : Int) < (M : Int)) = true := decide_eq_true (by omega)
        clear hmm hst hq
        go_wp2_with fail
        go_region
        go_wp2_with fail
        have hset := blk_drew (blk_setRow hres (.int .i64 r) (.int .i64 l))
        have z0 := blk_cell hset 0
        have z1 := blk_cell hset 1
        clear hset a0 a1 f0 f1 b0 b1
        exact bodyPost_ret (v := .tuple #[.agg #[.int .i64 r, .int .i64 l], S t, .bool true]) (by simp [results, Tryz.results67, go_sem, z0, z1]) rfl ⟨by rw [HR.out], ((HB.out.setCell (by simp) _).setCell (by simp) _).drew⟩
      | none =>
        rw [hq] at hmm hbest
        dsimp only at hmm hbest
        subst hmm
        have HR : Hid (begR s = .tuple #[.agg #[.int .i64 0, .int .i64 0], S s, .bool false]) := Lib.hid (by unfold begR; rw [hq])
        have hex : (⟨s.toArray⟩ : ByteArray).extract 0 N = ⟨s.toArray⟩ := by
          rw [HN.out, ext_drop s 0 (by omega)]
          rfl
        have b0 := blk_cell hbest 0
        have b1 := blk_cell hbest 1
        have a0 := blk_cell hres 0
        have a1 := blk_cell hres 1
        have f0 := blk_free hres 0
        have f1 := blk_free hres 1
        clear hq
        go_wp2_with fail
        go_region
        go_wp2_with fail
        have hset := blk_drew (blk_setRow hres (.int .i64 0) (.int .i64 0))
        have z0 := blk_cell hset 0
        have z1 := blk_cell hset 1
        clear hset a0 a1 f0 f1 b0 b1
        exact bodyPost_ret (v := .tuple #[.agg #[.int .i64 0, .int .i64 0], S s, .bool false]) (by simp [results, Tryz.results67, go_sem, z0, z1]) rfl ⟨by rw [HR.out], ((HB.out.setCell (by simp) _).setCell (by simp) _).drew⟩

end Go.Proofs.YtimdmgkegdlafaaGreatDoor
