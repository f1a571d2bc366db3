/- The parts Tl, Fi, Ha, Hk, Hb, Ba, Gt, To of the proof, joined. It holds without conditions of its own. -/
import Derived.Test.YtnhacghjoikgpaaGreatDoorFY10
import Derived.Test.YtnhacghjoikgpaaGreatDoorFY9
import Derived.Test.YtnhacghjoikgpaaGreatDoorFY8
import Derived.Test.YtnhacghjoikgpaaGreatDoorFY4
import Derived.RangeFuncNested
import Derived.Shelf.RegionOpen
import Derived.OwnWalkIn
import Derived.TacticsInMore
import Derived.LoopNIn
import Derived.LoopIn
import Derived.Deep.OwnRows
import Derived.Test.YtnhacghjoikgpaaGreatDoorFY5
import Derived.Lib.QuietBelow
import Derived.StillTail
import Derived.StillTailTactics
import Derived.BigRegion
import Derived.Test.YtnhacghjoikgpaaGreatDoorProg
/- The reference: all ways of making. -/
namespace Go.Proofs.YtnhacghjoikgpaaGreatDoor
set_option linter.unusedSimpArgs false
set_option linter.unusedVariables false
open Go Go.RowKit Go.Sort Go.BigFrame

theorem elemMk : ∃ i, Tryz.prog.info? 50 = some i ∧ i.zero = some (.agg #[.int .i64 0, .int .i64 0, .int .i64 0, .bool false]) ∧ i.size = 4 ∧ i.bytes = 32 := elemOf (by kernel_rfl)
theorem undMks : Tryz.prog.underlying 31 = some (.slice 50) := by kernel_rfl
abbrev mkC (m : Mkw) : List Value := [.int .i64 m.fmt, .int .i64 m.ppr, .int .i64 m.sheets, .bool m.half]
def mkCells (ms : List Mkw) : List Value := ms.flatMap mkC
def okM (p : Prs) (m : Mkw) : Bool := decide (mkwErr p m = 0)
/-- The ways of making of a number of sheets, and so on outwards. -/
def mkD (p : Prs) (f q s h : Nat) : List Mkw := (List.range h).flatMap fun (h : Nat) => [(⟨f, q, (s : Int) + 1, (h : Int) == 1⟩ : Mkw)].filter (okM p)
def mkC3 (p : Prs) (f q s : Nat) : List Mkw := (List.range s).flatMap fun s => mkD p f q s 2
def mkB (p : Prs) (f q : Nat) : List Mkw := (List.range q).flatMap fun q => mkC3 p f q p.sheets.toNat
def mkA (p : Prs) (f : Nat) : List Mkw := (List.range f).flatMap fun f => mkB p f p.pprs.length
def makesW (p : Prs) : List Mkw := mkA p p.fmts.length
theorem mkD_succ (p : Prs) (f q s h : Nat) : mkD p f q s (h + 1) = mkD p f q s h ++ [(⟨f, q, (s : Int) + 1, (h : Int) == 1⟩ : Mkw)].filter (okM p) := by simp [mkD, List.range_succ]
theorem mkC3_succ (p : Prs) (f q s : Nat) : mkC3 p f q (s + 1) = mkC3 p f q s ++ mkD p f q s 2 := by simp [mkC3, List.range_succ]
theorem mkB_succ (p : Prs) (f q : Nat) : mkB p f (q + 1) = mkB p f q ++ mkC3 p f q p.sheets.toNat := by simp [mkB, List.range_succ]
theorem mkA_succ (p : Prs) (f : Nat) : mkA p (f + 1) = mkA p f ++ mkB p f p.pprs.length := by simp [mkA, List.range_succ]
theorem flat_len_le {α : Type} (F : Nat → List α) (c : Nat) (h : ∀ k, (F k).length ≤ c) (n : Nat) : ((List.range n).flatMap F).length ≤ n * c := by
  induction n with
  | zero => simp
  | succ n ih =>
    rw [List.range_succ, List.flatMap_append, List.length_append, Nat.succ_mul]
    have e : ([n].flatMap F).length = (F n).length := by simp
    rw [e]
    have := h n
    omega
theorem mkD_len (p : Prs) (f q s h : Nat) : (mkD p f q s h).length ≤ h * 1 := flat_len_le _ _ (fun _ => by
  refine Nat.le_trans (List.length_filter_le _ _) ?_
  simp) h
theorem mkC3_len (p : Prs) (f q s : Nat) : (mkC3 p f q s).length ≤ s * 2 := flat_len_le _ _ (fun k => mkD_len p f q k 2) s
theorem mkB_len (p : Prs) (f q : Nat) (hs : p.sheets.toNat ≤ 4) : (mkB p f q).length ≤ q * 8 := flat_len_le _ _ (fun k => Nat.le_trans (mkC3_len p f k _) (by omega)) q
theorem mkA_len (p : Prs) (f : Nat) (hs : p.sheets.toNat ≤ 4) (hq : p.pprs.length ≤ 4) : (mkA p f).length ≤ f * 32 := flat_len_le _ _ (fun k => Nat.le_trans (mkB_len p k _ hs) (by omega)) f

/-- What lies in memory while the ways of making are gathered. -/
structure MkSt (w W : World) (cs : Array Value) (v : Value) (xs : List Mkw) : Prop where
  row : W.ownsRow (w.heap.size + 1) 50 4 v xs.length (mkCells xs)
  bel : Below w.heap.size w W
  box : W.heap[w.heap.size]? = some (.cells cs 25 (0, 0))
theorem MkSt.later {w W W' : World} {cs : Array Value} {v : Value} {xs : List Mkw} (h : MkSt w W cs v xs) (hb : Below W.heap.size W W') : MkSt w W' cs v xs :=
  ⟨row_later h.row hb, h.bel.trans (hb.mono h.bel.size), blk_later hb h.box⟩
theorem MkSt.add {w W W' : World} {cs : Array Value} {v v' : Value} {xs : List Mkw} {x : Mkw} (h : MkSt w W cs v xs)
    (hr : W'.ownsRow (w.heap.size + 1) 50 4 v' (xs.length + 1) (mkCells xs ++ mkC x)) (hg : W.grownBy W' v.ownBlock) : MkSt w W' cs v' (xs ++ [x]) := by
  have hbl : Below w.heap.size W W' := ((Below.refl _ W).mono h.bel.size).grown hg h.bel.size (fun k hk => by
    have := (h.row.lt k hk).1
    omega)
  refine ⟨?_, h.bel.trans hbl, (hg.block _ (blk_lt h.box) (fun e => by have := (h.row.lt _ e.symm).1; omega)).trans h.box⟩
  rw [List.length_append]
  simpa [mkCells] using hr

set_option maxRecDepth 100000 in
set_option maxHeartbeats 4000000 in
theorem refMakes2_any (p : Prs) (vp : Value) (w : World) (hp : PrsAt w.heap.size w vp p) (he : errP p = 0) :
    Calls Tryz.prog 36 #[vp] w fun e w' => (∃ v', e = .returned v' ∧ w'.ownsRow w.heap.size 50 4 v' (makesW p).length (mkCells (makesW p))) ∧ Below w.heap.size w w' := by
  obtain ⟨⟨f1, f2⟩, ⟨f3, f4⟩, ⟨f5, f6⟩, -⟩ := fine_press he
  have HP := Lib.hid hp
  have HE := Lib.hid he
  obtain ⟨fv, pv, rfl, ⟨a, cap, rfl, -⟩, ⟨a2, cap2, rfl, -⟩, -⟩ := hp
  obtain ⟨n1, hn1⟩ : ∃ n, n = p.fmts.length := ⟨_, rfl⟩
  obtain ⟨n2, hn2⟩ : ∃ n, n = p.pprs.length := ⟨_, rfl⟩
  obtain ⟨n3, hn3⟩ : ∃ n, n = p.sheets.toNat := ⟨_, rfl⟩
  obtain ⟨sh, hsh⟩ : ∃ s, s = p.sheets := ⟨_, rfl⟩
  have hs3 : sh = (n3 : Int) := by omega
  rw [← hn1] at f1 f2
  rw [← hn2] at f3 f4
  rw [← hsh] at f5 f6
  rw [← hn1, ← hn2, ← hsh] at HP ⊢
  have HN1 := Lib.hid hn1
  have HN2 := Lib.hid hn2
  have HN3 := Lib.hid hn3
  have HSH := Lib.hid hsh
  clear hn1 hn2 hn3 hsh he
  subst hs3
  obtain ⟨ei, hi1, hi2, hi3, hi4⟩ := elemMk
  have HI := Lib.hid (And.intro hi1 (And.intro hi2 (And.intro hi3 hi4)))
  clear hi1 hi2 hi3 hi4
  go_enter Tryz.func36, Tryz.ntmps36
  go_wp2_with fail
  have HS : Hid (MkSt w (w.alloc (.cells #[.slice a n1 cap, .slice a2 n2 cap2, .int .i64 p.trim, .int .i64 n3] 25)) #[.slice a n1 cap, .slice a2 n2 cap2, .int .i64 p.trim, .int .i64 n3] (.slice none 0 0) []) := Lib.hid ⟨World.ownsRow_nil _ _ _ _, (Below.refl _ w).alloc (Nat.le_refl _) _, World.alloc_heap_new _ _⟩
  go_loopw [3, 4] (fun v i wr => ∃ (f : Nat), f ≤ n1 ∧ i = .int .i64 f ∧ Hid (MkSt w wr #[.slice a n1 cap, .slice a2 n2 cap2, .int .i64 p.trim, .int .i64 n3] v (mkA p f))) (fun _ i _ => n1 - (intOf i).toNat)
  case atStart => exact ⟨0, by omega, rfl, HS⟩
  case round =>
    clear HS
    obtain ⟨f, hf, rfl, HS⟩ := hrel
    have c0 := blk_cell (HS).out.box 0
    have c1 := blk_cell (HS).out.box 1
    have c2 := blk_cell (HS).out.box 2
    have c3 := blk_cell (HS).out.box 3
    by_cases hlt : f < n1
    · go_wp2_with fail
      clear c0 c1 c2 c3
      go_loopw [3, 5] (fun v i wr => ∃ (q : Nat), q ≤ n2 ∧ i = .int .i64 q ∧ Hid (MkSt w wr #[.slice a n1 cap, .slice a2 n2 cap2, .int .i64 p.trim, .int .i64 n3] v (mkA p f ++ mkB p f q))) (fun _ i _ => n2 - (intOf i).toNat)
      case atStart => exact ⟨0, by omega, rfl, by have h := HS.out; show MkSt _ _ _ _ _; simpa [mkB] using h⟩
      case round =>
        clear HS
        obtain ⟨q, hq, rfl, HS⟩ := hrel
        have c0 := blk_cell (HS).out.box 0
        have c1 := blk_cell (HS).out.box 1
        have c2 := blk_cell (HS).out.box 2
        have c3 := blk_cell (HS).out.box 3
        by_cases hltq : q < n2
        · go_wp2_with fail
          clear c0 c1 c2 c3
          go_loopw [3, 6] (fun v i wr => ∃ (s : Nat), s ≤ n3 ∧ i = .int .i64 ((s : Int) + 1) ∧ Hid (MkSt w wr #[.slice a n1 cap, .slice a2 n2 cap2, .int .i64 p.trim, .int .i64 n3] v (mkA p f ++ mkB p f q ++ mkC3 p f q s))) (fun _ i _ => n3 + 1 - (intOf i).toNat)
          case atStart => exact ⟨0, by omega, by go_num, by have h := HS.out; show MkSt _ _ _ _ _; simpa [mkC3] using h⟩
          case round =>
            clear HS
            obtain ⟨s, hs, rfl, HS⟩ := hrel
            have c0 := blk_cell (HS).out.box 0
            have c1 := blk_cell (HS).out.box 1
            have c2 := blk_cell (HS).out.box 2
            have c3 := blk_cell (HS).out.box 3
            by_cases hlts : s < n3
            · have e9 : decide (((s : Int) + 1) ≤ (n3 : Int)) = true := decide_eq_true (by omega)
              go_wp2_with fail
              clear c0 c1 c2 c3
              go_loopw [3, 7] (fun v i wr => ∃ (h : Nat), h ≤ 2 ∧ i = .int .i64 h ∧ Hid (MkSt w wr #[.slice a n1 cap, .slice a2 n2 cap2, .int .i64 p.trim, .int .i64 n3] v (mkA p f ++ mkB p f q ++ mkC3 p f q s ++ mkD p f q s h))) (fun _ i _ => 2 - (intOf i).toNat)
              case atStart => exact ⟨0, by omega, rfl, by have h := HS.out; show MkSt _ _ _ _ _; simpa [mkD] using h⟩
              case round =>
                clear HS
                obtain ⟨h, hh, rfl, HS⟩ := hrel
                by_cases hlth : h < 2
                · have hl1 := mkA_len p f (by rw [← HN3.out]; omega) (by rw [← HN2.out]; omega)
                  have hl2 := mkB_len p f q (by rw [← HN3.out]; omega)
                  have hl3 := mkC3_len p f q s
                  have hl4 := mkD_len p f q s h
                  have hxl : (mkA p f ++ mkB p f q ++ mkC3 p f q s ++ mkD p f q s h).length ≤ 1000 := by
                    simp only [List.length_append]; omega
                  clear hl1 hl2 hl3 hl4
                  have hD := mkD_succ p f q s h
                  have c0 := blk_cell (HS).out.box 0
                  have c1 := blk_cell (HS).out.box 1
                  have c2 := blk_cell (HS).out.box 2
                  have c3 := blk_cell (HS).out.box 3
                  have hz9 := blk_lt HS.out.box
                  obtain ⟨B, hB⟩ : ∃ B, ((h : Int) == 1) = B := ⟨_, rfl⟩
                  rw [hB] at hD
                  have HDS : Hid (mkD p f q s (h + 1) = mkD p f q s h ++ [(⟨f, q, (s : Int) + 1, B⟩ : Mkw)].filter (okM p)) := Lib.hid hD
                  clear hD
                  obtain ⟨xs1, hxs1⟩ : ∃ xs1, xs1 = mkA p f ++ mkB p f q ++ mkC3 p f q s ++ mkD p f q s h := ⟨_, rfl⟩
                  rw [← hxs1] at HS hxl
                  have HXS := Lib.hid hxs1
                  clear hxs1
                  have HS1 := Lib.hid (HS.out.later ((Below.refl _ _).alloc (Nat.le_refl _) (.cells #[.int .i64 f, .int .i64 q, .int .i64 ((s : Int) + 1), .bool B] 50)))
                  have HBM : Hid ((wr.alloc (.cells #[.int .i64 f, .int .i64 q, .int .i64 ((s : Int) + 1), .bool B] 50)).heap[wr.heap.size]? = some (.cells #[.int .i64 f, .int .i64 q, .int .i64 ((s : Int) + 1), .bool B] 50 (0, 0))) := Lib.hid (World.alloc_heap_new _ _)
                  clear HS
                  go_wp2_with fail
                  revert HS1 HBM
                  generalize (wr.alloc (.cells #[.int .i64 f, .int .i64 q, .int .i64 ((s : Int) + 1), .bool B] 50)) = w1
                  intro HS1 HBM
                  refine (refMake2_any p ⟨f, q, (s : Int) + 1, B⟩ _ _ (HP.out.later HS1.out.bel) HE.out).mono ?_
                  rintro e w2 ⟨rfl, hb⟩
                  obtain ⟨z, hz⟩ : ∃ z, z = mkwErr p ⟨f, q, (s : Int) + 1, B⟩ := ⟨_, rfl⟩
                  rw [← hz]
                  have HS2 := Lib.hid (HS1.out.later hb)
                  have bm := blk_later hb HBM.out
                  have q0 := blk_cell bm 0
                  have q1 := blk_cell bm 1
                  have q2 := blk_cell bm 2
                  have q3 := blk_cell bm 3
                  clear hb HS1 HBM bm c0 c1 c2 c3
                  by_cases hz0 : z = 0
                  · have HF : Hid (mkA p f ++ mkB p f q ++ mkC3 p f q s ++ mkD p f q s (h + 1) = xs1 ++ [(⟨f, q, (s : Int) + 1, B⟩ : Mkw)]) := Lib.hid (by
                      rw [HDS.out, HXS.out, List.filter_cons_of_pos (by unfold okM; rw [← hz, hz0]; rfl), List.filter_nil, List.append_assoc _ (mkD p f q s h)])
                    have e0 : (z == 0) = true := by simp [hz0]
                    clear hz hz0
                    obtain ⟨hi1, hi2, hi3, hi4⟩ := HI.out
                    have hz8 := blk_lt HS2.out.box
                    go_wp2_with (at_builtin; refine wpList_append_own _ rfl _ _ 31 rfl (w.heap.size + 1) 50 ei _ 4 32 undMks hi1 hi2 hi3 hi4 rfl (by decide) _ xs1.length (mkCells xs1) rfl (HS2.out.row.alloc _) ⟨w2.heap.size, 0, none⟩ 1 1 (mkC ⟨f, q, (s : Int) + 1, B⟩) rfl rfl ?a1 ?b1 ?c1 ?d1 ?e1 ?f1)
                    case a1 =>
                      intro j u hju
                      rw [add_offi]
                      unfold World.cell?
                      rw [World.alloc_heap_new]
                      simpa using hju
                    case b1 => intro u hu; simp at hu; rcases hu with rfl | rfl | rfl | rfl <;> rfl
                    case c1 => simp only [maxLen]; omega
                    case d1 => omega
                    case e1 => (first | omega | (simp; omega))
                    case f1 =>
                      rintro v' w7 hown hgrow -
                      have HS3 := HS2.out.later ((Below.refl _ w2).alloc (Nat.le_refl _) (.cells #[.int .i64 f, .int .i64 q, .int .i64 ((s : Int) + 1), .bool B] 50))
                      have HS4 := Lib.hid (HS3.add (x := (⟨f, q, (s : Int) + 1, B⟩ : Mkw)) hown hgrow)
                      clear hown hgrow HS3 hi1 hi2 hi3 hi4 q0 q1 q2 q3
                      go_wp2_with fail
                      go_roundw
                      case rel => exact ⟨h + 1, by omega, by go_num, (by show MkSt w _ _ _ (mkA p f ++ mkB p f q ++ mkC3 p f q s ++ mkD p f q s (h + 1)); rw [HF.out]; exact HS4.out)⟩
                      case measure => simp [intOf]; omega
                  · have HF : Hid (mkA p f ++ mkB p f q ++ mkC3 p f q s ++ mkD p f q s (h + 1) = xs1) := Lib.hid (by
                      rw [HDS.out, HXS.out, List.filter_cons_of_neg (by unfold okM; rw [← hz]; simpa using hz0), List.filter_nil, List.append_nil])
                    have e0 : (z == 0) = false := by simp [hz0]
                    clear hz hz0
                    go_wp2_with fail
                    go_roundw
                    case rel => exact ⟨h + 1, by omega, by go_num, (by show MkSt w _ _ _ (mkA p f ++ mkB p f q ++ mkC3 p f q s ++ mkD p f q s (h + 1)); rw [HF.out]; exact HS2.out)⟩
                    case measure => simp [intOf]; omega
                · obtain rfl : h = 2 := by omega
                  go_wp2_with fail
                  go_roundw
                  case rel => exact ⟨s + 1, by omega, by go_num, by have h := HS.out; show MkSt _ _ _ _ _; rw [mkC3_succ, ← List.append_assoc]; exact h⟩
                  case measure => simp [intOf]; omega
            · obtain rfl : s = n3 := by omega
              have e9 : decide (((s : Int) + 1) ≤ (s : Int)) = false := decide_eq_false (by omega)
              go_wp2_with fail
              go_roundw
              case rel => exact ⟨q + 1, by omega, by go_num, by have h := HS.out; show MkSt _ _ _ _ _; rw [mkB_succ, ← List.append_assoc, ← HN3.out]; exact h⟩
              case measure => simp [intOf]; omega
        · obtain rfl : q = n2 := by omega
          go_wp2_with fail
          go_roundw
          case rel => exact ⟨f + 1, by omega, by go_num, by have h := HS.out; show MkSt _ _ _ _ _; rw [mkA_succ, ← HN2.out]; exact h⟩
          case measure => simp [intOf]; omega
    · obtain rfl : f = n1 := by omega
      go_wp2_with fail
      go_ret
      exact ⟨⟨_, rfl, by unfold makesW; rw [← HN1.out]; exact row_mono HS.out.row (by omega)⟩, HS.out.bel⟩
end Go.Proofs.YtnhacghjoikgpaaGreatDoor

/- The iterator over all ways of making of a press. -/
namespace Go.Proofs.YtnhacghjoikgpaaGreatDoor
set_option linter.unusedSimpArgs false
set_option linter.unusedVariables false
open Go Go.RowKit Go.Sort Go.BigFrame

theorem flat_split {α : Type} (F : Nat → List α) {k n : Nat} (h : k < n) : ∃ rest, (List.range n).flatMap F = (List.range k).flatMap F ++ (F k ++ rest) := by
  obtain ⟨d, rfl⟩ : ∃ d, n = k + 1 + d := ⟨n - (k + 1), by omega⟩
  refine ⟨((List.range d).map (k + 1 + ·)).flatMap F, ?_⟩
  rw [List.range_add, List.flatMap_append, List.range_succ, List.flatMap_append]
  simp
/-- What comes before, and what is still to come. -/
abbrev mkPre (p : Prs) (f q s h : Nat) : List Mkw := mkA p f ++ mkB p f q ++ mkC3 p f q s ++ mkD p f q s h
theorem mk_split (p : Prs) {f q s h : Nat} (hf : f < p.fmts.length) (hq : q < p.pprs.length) (hs : s < p.sheets.toNat) (hh : h < 2) : ∃ rest, makesW p = mkPre p f q s h ++ ([(⟨f, q, (s : Int) + 1, (h : Int) == 1⟩ : Mkw)].filter (okM p) ++ rest) := by
  obtain ⟨r1, e1⟩ := flat_split (fun f => mkB p f p.pprs.length) hf
  obtain ⟨r2, e2⟩ := flat_split (fun q => mkC3 p f q p.sheets.toNat) hq
  obtain ⟨r3, e3⟩ := flat_split (fun s => mkD p f q s 2) hs
  obtain ⟨r4, e4⟩ := flat_split (fun (h : Nat) => [(⟨f, q, (s : Int) + 1, (h : Int) == 1⟩ : Mkw)].filter (okM p)) hh
  refine ⟨r4 ++ (r3 ++ (r2 ++ r1)), ?_⟩
  have a1 : makesW p = mkA p f ++ (mkB p f p.pprs.length ++ r1) := e1
  have a2 : mkB p f p.pprs.length = mkB p f q ++ (mkC3 p f q p.sheets.toNat ++ r2) := e2
  have a3 : mkC3 p f q p.sheets.toNat = mkC3 p f q s ++ (mkD p f q s 2 ++ r3) := e3
  have a4 : mkD p f q s 2 = mkD p f q s h ++ ([(⟨f, q, (s : Int) + 1, (h : Int) == 1⟩ : Mkw)].filter (okM p) ++ r4) := e4
  rw [a1, a2, a3, a4]
  simp only [mkPre, List.append_assoc]
theorem PrsAt.same {B B' : Nat} {w w' : World} {v : Value} {p : Prs} (h : PrsAt B w v p) (hs : ∀ k, k < B → w'.heap[k]? = w.heap[k]?) (hB : B ≤ B') : PrsAt B' w' v p := by
  obtain ⟨fv, pv, rfl, h1, h2, h3⟩ := h
  exact ⟨fv, pv, rfl, (h1.same hs).mono hB, (h2.same hs).mono hB, h3⟩
/-- What lies in memory while the iterator is at a way of making. -/
structure MkIt (w₀ W : World) (pb B HK : Nat) (X : Nat → Prop) : Prop where
  hs : W.heap[HK]? = some (.cells #[.bool false, .bool true] 4 (0, 0))
  x : X HK
  pr : ∀ j, (j = pb ∨ j < B) → W.heap[j]? = w₀.heap[j]?
  sz : w₀.heap.size ≤ W.heap.size
theorem MkIt.kept {w₀ W W' : World} {pb B HK : Nat} {X : Nat → Prop} (h : MkIt w₀ W pb B HK X) (hw₀ : ∀ j, (j = pb ∨ j < B) → j < w₀.heap.size) (hk : Kept (fun k => k = pb ∨ k < B) X W W') : MkIt w₀ W' pb B HK X :=
  ⟨(hk.2 _ (blk_lt h.hs) (Or.inr h.x)).trans h.hs, h.x, fun j hj => (hk.2 j (by have := hw₀ j hj; have := h.sz; omega) (Or.inl hj)).trans (h.pr j hj), Nat.le_trans h.sz hk.1⟩

set_option maxRecDepth 100000 in
set_option maxHeartbeats 4000000 in
theorem makes_it (p : Prs) (fv pv : Value) (w₀ : World) (pb B : Nat) (hB : B ≤ w₀.heap.size) (hp : PrsAt B w₀ (.agg #[fv, pv, .int .i64 p.trim, .int .i64 p.sheets]) p) (he : errP p = 0)
    (hv : w₀.heap[pb]? = some (.cells #[fv, pv, .int .i64 p.trim, .int .i64 p.sheets] 122)) :
    ItC Tryz.prog 89 #[.pointer (some ⟨pb, 0, none⟩)] (fun m => #[mkwV m]) (makesW p) (fun k => k = pb ∨ k < B) w₀ := by
  intro l J Jx W hsz hpr hJ hJx hY h0
  obtain ⟨⟨f1, f2⟩, ⟨f3, f4⟩, ⟨f5, f6⟩, -⟩ := fine_press he
  have HPr := Lib.hid hp
  have HE := Lib.hid he
  obtain ⟨fv', pv', e, ⟨a, cap, rfl, -⟩, ⟨a2, cap2, rfl, -⟩, -⟩ := hp
  cases e
  obtain ⟨n1, hn1⟩ : ∃ n, n = p.fmts.length := ⟨_, rfl⟩
  obtain ⟨n2, hn2⟩ : ∃ n, n = p.pprs.length := ⟨_, rfl⟩
  obtain ⟨n3, hn3⟩ : ∃ n, n = p.sheets.toNat := ⟨_, rfl⟩
  obtain ⟨sh, hsh⟩ : ∃ s, s = p.sheets := ⟨_, rfl⟩
  have hs3 : sh = (n3 : Int) := by omega
  rw [← hn1] at f1 f2 hv HPr
  rw [← hn2] at f3 f4 hv HPr
  rw [← hsh] at f5 f6 hv HPr
  have HN1 := Lib.hid hn1
  have HN2 := Lib.hid hn2
  have HN3 := Lib.hid hn3
  have HSH := Lib.hid hsh
  clear hn1 hn2 hn3 hsh he
  subst hs3
  refine (callsIn_wide (n := 10)).1 ?_
  refine callsIn_of_wp Tryz.func89 rfl trivial ?_ rfl
  simp only [Tryz.ntmps89, List.size_toArray, List.length_cons, List.length_nil, Nat.reduceAdd, Nat.reduceSub, Array.replicate_succ, Array.replicate_zero, List.push_toArray, List.append_toArray, List.nil_append, List.cons_append]
  have hvW := (hpr pb (Or.inl rfl)).trans hv
  have c0 := blk_cell hvW 0; have c1 := blk_cell hvW 1; have c2 := blk_cell hvW 2; have c3 := blk_cell hvW 3
  have hpw : ∀ j, (j = pb ∨ j < B) → j < w₀.heap.size := fun j hj => by
    rcases hj with rfl | h
    · exact blk_lt hv
    · omega
  have HY := Lib.hid hY
  have HJ := Lib.hid hJ
  have HJx := Lib.hid hJx
  have HP := Lib.hid hpr
  have HV := Lib.hid hv
  have HPW := Lib.hid hpw
  have H0 : Hid (J (mkA p 0) (fun _ => False) W) := Lib.hid h0
  clear hY hJ hJx hpr hv hpw h0 hvW
  gi_wp2_with fail
  gi_loopw [13] (fun v wr => ∃ (f : Nat) (X : Nat → Prop), f ≤ n1 ∧ v = .int .i64 f ∧ Hid (J (mkA p f) X wr) ∧ w₀.heap.size ≤ wr.heap.size ∧ Hid (∀ j, (j = pb ∨ j < B) → wr.heap[j]? = w₀.heap[j]?)) (fun v _ => n1 - (intOf v).toNat)
  case atStart => exact ⟨0, _, by omega, rfl, H0, hsz, HP⟩
  case round =>
    obtain ⟨f, X, hf, rfl, hJk, hz, hpk⟩ := hrel
    clear c0 c1 c2 c3
    have hvw := (hpk.out pb (Or.inl rfl)).trans HV.out
    have c0 := blk_cell hvw 0; have c1 := blk_cell hvw 1; have c2 := blk_cell hvw 2; have c3 := blk_cell hvw 3
    by_cases hlt : f < n1
    · gi_wp2_with fail
      clear c0 c1 c2 c3 hvw
      gi_loopw [20] (fun v wr => ∃ (q : Nat) (X : Nat → Prop), q ≤ n2 ∧ v = .int .i64 q ∧ Hid (J (mkA p f ++ mkB p f q) X wr) ∧ w₀.heap.size ≤ wr.heap.size ∧ Hid (∀ j, (j = pb ∨ j < B) → wr.heap[j]? = w₀.heap[j]?)) (fun v _ => n2 - (intOf v).toNat)
      case atStart => exact ⟨0, X, by omega, rfl, (by have h := hJk.out; show J _ _ _; simpa [mkB] using h), hz, hpk⟩
      case round =>
        clear hJk hz hpk
        obtain ⟨q, X, hq, rfl, hJk, hz, hpk⟩ := hrel
        have hvw := (hpk.out pb (Or.inl rfl)).trans HV.out
        have c0 := blk_cell hvw 0; have c1 := blk_cell hvw 1; have c2 := blk_cell hvw 2; have c3 := blk_cell hvw 3
        by_cases hltq : q < n2
        · gi_wp2_with fail
          clear c0 c1 c2 c3 hvw
          gi_loopw [26] (fun v wr => ∃ (s : Nat) (X : Nat → Prop), s ≤ n3 ∧ v = .int .i64 s ∧ Hid (J (mkA p f ++ mkB p f q ++ mkC3 p f q s) X wr) ∧ w₀.heap.size ≤ wr.heap.size ∧ Hid (∀ j, (j = pb ∨ j < B) → wr.heap[j]? = w₀.heap[j]?)) (fun v _ => n3 - (intOf v).toNat)
          case atStart => exact ⟨0, X, by omega, rfl, (by have h := hJk.out; show J _ _ _; simpa [mkC3] using h), hz, hpk⟩
          case round =>
            clear hJk hz hpk
            obtain ⟨s, X, hs, rfl, hJk, hz, hpk⟩ := hrel
            by_cases hlts : s < n3
            · gi_wp2_with fail
              obtain ⟨w3, hw3⟩ : ∃ w3, w3 = wr := ⟨_, rfl⟩
              subst hw3
              have hb3 : Below w3.heap.size w3 (w3.alloc (.cells #[.bool false, .bool true] 4)) := (Below.refl _ _).alloc (Nat.le_refl _) _
              have HM0 : Hid (MkIt w₀ (w3.alloc (.cells #[.bool false, .bool true] 4)) pb B w3.heap.size (fun j => X j ∨ j = w3.heap.size)) := Lib.hid ⟨World.alloc_heap_new _ _, Or.inr rfl, fun j hj => (hb3.block j (by have := HPW.out j hj; omega)).trans (hpk.out j hj), by have := hb3.size; omega⟩
              have HJ0 : Hid (J (mkPre p f q s 0) (fun j => X j ∨ j = w3.heap.size) (w3.alloc (.cells #[.bool false, .bool true] 4))) := Lib.hid (by
                have h := HJ.out _ X (fun j => X j ∨ j = w3.heap.size) _ _ hJk.out (OnlyIn.of_below hb3) (fun j h => h.imp id (fun h => ⟨by omega, by simp; omega⟩))
                show J _ _ _
                simpa [mkPre, mkD] using h)
              clear hb3 hJk hpk
              gi_loopw [31] (fun v wi => ∃ (h : Nat) (X : Nat → Prop), h ≤ 2 ∧ v = .int .i64 h ∧ Hid (J (mkPre p f q s h) X wi) ∧ Hid (MkIt w₀ wi pb B w3.heap.size X)) (fun v _ => 2 - (intOf v).toNat)
              case atStart => exact ⟨0, _, by omega, rfl, HJ0, HM0⟩
              case round =>
                clear HM0 HJ0
                obtain ⟨h, X, hh, rfl, hJk, hM⟩ := hrel
                by_cases hlth : h < 2
                · obtain ⟨B2, hB2⟩ : ∃ B2, ((h : Int) == 1) = B2 := ⟨_, rfl⟩
                  have ch : wr.cell? ⟨w3.heap.size, h, none⟩ = some (.bool B2) := by
                    have h0 := blk_cell hM.out.hs h
                    rw [h0, ← hB2]
                    obtain rfl | rfl : h = 0 ∨ h = 1 := by omega
                    · rfl
                    · rfl
                  have hvw := (hM.out.pr pb (Or.inl rfl)).trans HV.out
                  have c0 := blk_cell hvw 0; have c1 := blk_cell hvw 1; have c2 := blk_cell hvw 2; have c3 := blk_cell hvw 3
                  obtain ⟨rst, hspl⟩ := mk_split p (f := f) (q := q) (s := s) (h := h) (by have := HN1.out; omega) (by have := HN2.out; omega) (by have := HN3.out; omega) hlth
                  have hD := mkD_succ p f q s h
                  rw [hB2] at hspl hD
                  have HSPL := Lib.hid hspl
                  have HDS := Lib.hid hD
                  have hpl := blk_lt hvw
                  clear hspl hD hvw hB2
                  gi_wp2_with fail
                  have hz0 : ∃ z, z = mkwErr p (⟨f, q, (s : Int) + 1, B2⟩ : Mkw) := ⟨_, rfl⟩
                  obtain ⟨z, hz⟩ := hz0
                  refine ⟨trivial, (callsIn_wide.2 (makeError_any p (⟨f, q, (s : Int) + 1, B2⟩ : Mkw) _ _ ((HPr.out.same (w' := wr.alloc (.cells #[.int .i64 f, .int .i64 q, .int .i64 ((s : Int) + 1), .bool B2] 50)) (fun k hk => (((Below.refl _ _).alloc (Nat.le_refl _) _).block k (by have := HPW.out k (Or.inr hk); have := hM.out.sz; omega)).trans (hM.out.pr k (Or.inr hk))) (by have := hM.out.sz; simp; omega))) HE.out)).mono ?_⟩
                  rintro e w4 ⟨rfl, hb4⟩
                  rw [← hz]
                  have hb5 : Below wr.heap.size wr w4 := ((Below.refl _ _).alloc (Nat.le_refl _) _).trans (hb4.mono (by simp))
                  have hm4 : w4.heap[wr.heap.size]? = some (.cells #[.int .i64 f, .int .i64 q, .int .i64 ((s : Int) + 1), .bool B2] 50 (0, 0)) := (hb4.block _ (by simp)).trans (World.alloc_heap_new _ _)
                  have hM4 : Hid (MkIt w₀ w4 pb B w3.heap.size X) := Lib.hid ⟨(hb5.block _ (blk_lt hM.out.hs)).trans hM.out.hs, hM.out.x, fun j hj => (hb5.block j (by have := HPW.out j hj; have := hM.out.sz; omega)).trans (hM.out.pr j hj), by have := hM.out.sz; have := hb5.size; omega⟩
                  have hJ4 : Hid (J (mkPre p f q s h) X w4) := Lib.hid (HJ.out _ X X _ _ hJk.out (OnlyIn.of_below hb5) (fun j h => Or.inl h))
                  have d0 := blk_cell hm4 0; have d1 := blk_cell hm4 1; have d2 := blk_cell hm4 2; have d3 := blk_cell hm4 3
                  have hs4 := blk_lt hm4
                  have HZ := Lib.hid hz
                  clear hz hb4 hb5 hm4 c0 c1 c2 c3 hpl ch hJk hM
                  by_cases hz0 : z = 0
                  · subst hz0
                    obtain ⟨fn, tmps, assign, body, hy, hR⟩ := HY.out (mkPre p f q s h) (⟨f, q, (s : Int) + 1, B2⟩ : Mkw) rst X w4 (by rw [HSPL.out, List.filter_cons_of_pos (by unfold okM; rw [← HZ.out]; rfl), List.filter_nil]; rfl) hJ4.out
                    have HR := Lib.hid hR
                    clear hR
                    gi_wp2_with fail
                    refine HR.out.mono ?_
                    rintro e W' (⟨rfl, hJ', hk'⟩ | ⟨rfl, hJx', -⟩)
                    · have M5 := Lib.hid (hM4.out.kept HPW.out hk')
                      have J5 := Lib.hid (show J (mkPre p f q s (h + 1)) X W' by
                        show J (_ ++ mkD p f q s (h + 1)) _ _
                        rw [HDS.out, List.filter_cons_of_pos (by unfold okM; rw [← HZ.out]; rfl), List.filter_nil, ← List.append_assoc]
                        exact hJ')
                      clear hJ' hk' hy hM4 hJ4 d0 d1 d2 d3 hs4
                      gi_wp2_with fail
                      go_roundw
                      case rel => exact ⟨h + 1, X, by omega, by go_num, J5, M5⟩
                      case measure => simp [intOf]; omega
                    · have Jx6 := Lib.hid hJx'
                      clear hJx' hy hM4 hJ4 d0 d1 d2 d3 hs4
                      gi_wp2_with fail
                      refine bodyPost_ret (results_none rfl _ _ _) rfl ?_
                      exact ⟨⟨_, rfl⟩, .inr ⟨_, _, Jx6.out⟩⟩
                  · have hne : ((z : Int) == 0) = false := by simpa using hz0
                    have J5 := Lib.hid (show J (mkPre p f q s (h + 1)) X w4 by
                      show J (_ ++ mkD p f q s (h + 1)) _ _
                      rw [HDS.out, List.filter_cons_of_neg (by unfold okM; rw [← HZ.out]; simpa using hz0), List.filter_nil, List.append_nil]
                      exact hJ4.out)
                    clear hJ4
                    gi_wp2_with fail
                    refine ⟨fun _ h => (by cases h), ?_⟩
                    gi_wp2_with fail
                    go_roundw
                    case rel => exact ⟨h + 1, X, by omega, by go_num, J5, hM4⟩
                    case measure => simp [intOf]; omega
                · obtain rfl : h = 2 := by omega
                  gi_wp2_with fail
                  go_roundw
                  case rel => exact ⟨s + 1, X, by omega, by go_num, (by have h := hJk.out; show J _ _ _; rw [mkC3_succ, ← List.append_assoc]; exact h), hM.out.sz, Lib.hid hM.out.pr⟩
                  case measure => simp [intOf]; omega
            · obtain rfl : s = n3 := by omega
              gi_wp2_with fail
              go_roundw
              case rel => exact ⟨q + 1, X, by omega, by go_num, (by have h := hJk.out; show J _ _ _; rw [mkB_succ, ← List.append_assoc, ← HN3.out]; exact h), hz, hpk⟩
              case measure => simp [intOf]; omega
        · obtain rfl : q = n2 := by omega
          gi_wp2_with fail
          go_roundw
          case rel => exact ⟨f + 1, X, by omega, by go_num, (by have h := hJk.out; show J _ _ _; rw [mkA_succ, ← HN2.out]; exact h), hz, hpk⟩
          case measure => simp [intOf]; omega
    · obtain rfl : f = n1 := by omega
      have HU : Hid (mkA p f = makesW p) := Lib.hid (by unfold makesW; rw [← HN1.out])
      gi_wp2_with fail
      go_end0
      exact ⟨⟨_, rfl⟩, .inl ⟨X, HU.out ▸ hJk.out⟩⟩
end Go.Proofs.YtnhacghjoikgpaaGreatDoor

/- The iterator over a slice of functions. -/
namespace Go.Proofs.YtnhacghjoikgpaaGreatDoor
set_option linter.unusedSimpArgs false
set_option linter.unusedVariables false
open Go Go.RowKit Go.Sort Go.BigFrame

/-- What the iterator reads is as it was. -/
structure VlS (w₀ W : World) (vb B : Nat) : Prop where
  pr : ∀ j, (j = vb ∨ j < B) → W.heap[j]? = w₀.heap[j]?
  sz : w₀.heap.size ≤ W.heap.size
set_option maxRecDepth 100000 in
set_option maxHeartbeats 4000000 in
theorem values_it (vs : List Value) (a : Option Addr) (cap : Nat) (w₀ : World) (vb B : Nat) (hB : B ≤ w₀.heap.size) (hl : vs.length ≤ 1000) (hc : ∀ (i : Nat) v, vs[i]? = some v → ∃ g, a = some ⟨g, 0, none⟩ ∧ g < B ∧ w₀.cell? ⟨g, i, none⟩ = some v)
    (hv : w₀.heap[vb]? = some (.cells #[.slice a vs.length cap] 134)) :
    ItC Tryz.prog 102 #[.pointer (some ⟨vb, 0, none⟩)] (fun v => #[v]) vs (fun k => k = vb ∨ k < B) w₀ := by
  intro l J Jx W hsz hpr hJ hJx hY h0
  obtain ⟨N, hN⟩ : ∃ N, N = vs.length := ⟨_, rfl⟩
  rw [← hN] at hv hl
  have hpw : ∀ j, (j = vb ∨ j < B) → j < w₀.heap.size := fun j hj => by
    rcases hj with rfl | h
    · exact blk_lt hv
    · omega
  have HN := Lib.hid hN
  have HY := Lib.hid hY
  have HPW := Lib.hid hpw
  have HC := Lib.hid hc
  have HA0 : Hid (VlS w₀ W vb B) := Lib.hid ⟨hpr, hsz⟩
  have H0 : Hid (J (vs.take 0) (fun _ => False) W) := Lib.hid h0
  have q0 := blk_cell ((hpr vb (Or.inl rfl)).trans hv) 0
  refine (callsIn_wide (n := 10)).1 ?_
  refine callsIn_of_wp Tryz.func102 rfl trivial ?_ rfl
  simp only [Tryz.ntmps102, List.size_toArray, List.length_cons, List.length_nil, Nat.reduceAdd, Nat.reduceSub, Array.replicate_succ, Array.replicate_zero, List.push_toArray, List.append_toArray, List.nil_append, List.cons_append]
  clear hY hJ hJx hpr hv hpw h0 hc hN
  gi_wp2_with fail
  clear q0
  gi_loopw [7] (fun v wr => ∃ (k : Nat) (X : Nat → Prop), k ≤ N ∧ v = .int .i64 k ∧ Hid (J (vs.take k) X wr) ∧ Hid (VlS w₀ wr vb B)) (fun v _ => N - (intOf v).toNat)
  case atStart => exact ⟨0, _, by omega, rfl, H0, HA0⟩
  case round =>
    clear H0 HA0
    obtain ⟨k, X, hk, rfl, hJk, hA⟩ := hrel
    by_cases hlt : k < N
    · obtain ⟨x, hx⟩ : ∃ x, vs[k]? = some x := ⟨_, List.getElem?_eq_getElem (by have := HN.out; omega)⟩
      obtain ⟨g, rfl, hgB, hgc⟩ := HC.out k x hx
      have c0 : wr.cell? ⟨g, k, none⟩ = some x := by rw [← hgc]; exact World.cell?_of_block (hA.out.pr g (Or.inr hgB))
      have e1 : vs.take (k + 1) = vs.take k ++ [x] := by rw [List.take_add_one, hx]; rfl
      have e2 : vs = vs.take k ++ x :: vs.drop (k + 1) := by rw [← drop_at hx, List.take_append_drop]
      obtain ⟨fn, tmps, assign, body, hy, hR⟩ := HY.out (vs.take k) x (vs.drop (k + 1)) X wr e2 hJk.out
      have HR := Lib.hid hR
      have HE := Lib.hid e1
      clear hR e1 e2 hgc hgB hx
      gi_wp2_with fail
      refine HR.out.mono ?_
      rintro e W' (⟨rfl, hJ', hk'⟩ | ⟨rfl, hJx', -⟩)
      · have J5 : Hid (J (vs.take (k + 1)) X W') := Lib.hid (by rw [HE.out]; exact hJ')
        have A5 : Hid (VlS w₀ W' vb B) := Lib.hid ⟨fun j hj => (hk'.2 j (by have := HPW.out j hj; have := hA.out.sz; omega) (Or.inl hj)).trans (hA.out.pr j hj), Nat.le_trans hA.out.sz hk'.1⟩
        clear hJ' hk' hy HR c0 hA hJk
        gi_wp2_with fail
        go_roundw
        case rel => exact ⟨k + 1, X, by omega, by go_num, J5, A5⟩
        case measure => simp [intOf]; omega
      · have Jx6 := Lib.hid hJx'
        clear hJx' hy HR c0 hA hJk
        gi_wp2_with fail
        refine bodyPost_ret (results_none rfl _ _ _) rfl ?_
        exact ⟨⟨_, rfl⟩, .inr ⟨_, _, Jx6.out⟩⟩
    · obtain rfl : k = N := by omega
      have HU : Hid (vs.take k = vs) := Lib.hid (by rw [HN.out, List.take_length])
      gi_wp2_with fail
      go_end0
      exact ⟨⟨_, rfl⟩, .inl ⟨X, HU.out ▸ hJk.out⟩⟩
end Go.Proofs.YtnhacghjoikgpaaGreatDoor

/- Sure: the numbers that all things have, and those that some thing has. -/
namespace Go.Proofs.YtnhacghjoikgpaaGreatDoor
set_option linter.unusedSimpArgs false
set_option linter.unusedVariables false
open Go Go.RowKit Go.Sort Go.BigFrame
attribute [local go_sem] Oper.semAt_some putAll

/-- What lies in memory while Sure goes through the things. -/
structure SuSt {α : Type} (w : World) (V many lb : Nat) (H : α → Nat → Bool) (pre : List α) (W : World) : Prop where
  num : W.heap[V]? = some (.cells #[.int .i64 many] 3 (0, 0))
  has : W.heap[V + 1]? = some (.cells #[.func (.func 69) #[] #[.pointer (some ⟨lb, 0, none⟩)]] 141 (0, 0))
  ask : W.heap[V + 2]? = some (.cells #[.int .i64 pre.length] 3 (0, 0))
  row : W.heap[V + 3]? = some (.cells (cntB H pre many).toArray 3 (0, 0))
  hav : W.heap[V + 4]? = some (.cells #[.slice (some ⟨V + 3, 0, none⟩) many many] 36 (0, 0))
  sz : V + 5 ≤ W.heap.size
  bel : Below V w W
theorem made_is {α : Type} (H : α → Nat → Bool) (many : Nat) : madeCells #[.int .i64 0] many = (cntB H [] many).toArray := by
  unfold madeCells cntB
  apply Array.ext
  · simp
  · intro i h1 h2
    simp [cntN, Nat.mod_one]
theorem SuSt.only {α : Type} {w : World} {V many lb : Nat} {H : α → Nat → Bool} {pre : List α} {W W' : World} {X : Nat → Prop} (h : SuSt w V many lb H pre W) (ho : OnlyIn X W W') (hX : ∀ k, X k → V + 5 ≤ k) : SuSt w V many lb H pre W' := by
  have hs := h.sz
  have key : ∀ k, V ≤ k → k < V + 5 → W'.heap[k]? = W.heap[k]? := fun k _ hk => ho.block k (by omega) (fun hx => by have := hX k hx; omega)
  exact ⟨(key _ (by omega) (by omega)).trans h.num, (key _ (by omega) (by omega)).trans h.has, (key _ (by omega) (by omega)).trans h.ask, (key _ (by omega) (by omega)).trans h.row, (key _ (by omega) (by omega)).trans h.hav, Nat.le_trans hs ho.size, ho.below h.bel (by omega) (fun k hk => by have := hX k hk; omega)⟩

theorem IntsAt.put {W : World} {v : Value} {xs : List Int} (h : IntsAt W v xs) {D : Nat} (hd : W.heap[D]? = some (.deferred (some []))) (o : Obj) : IntsAt (W.putObj D o) v xs := by
  obtain ⟨a, cap, e, hc⟩ := h
  refine ⟨a, cap, e, fun hne => ?_⟩
  obtain ⟨g, h1, h2, h3⟩ := hc hne
  have hg : g ≠ D := fun e => by
    obtain ⟨x, hx⟩ : ∃ x, xs[0]? = some x := ⟨_, List.getElem?_eq_getElem (by have := List.length_pos_iff.2 hne; omega)⟩
    have := h3 0 x hx
    subst e
    simp [World.cell?, hd] at this
  refine ⟨g, h1, by simpa using h2, fun i x hx => ?_⟩
  rw [← h3 i x hx]
  exact World.cell?_of_block (World.putObj_heap_other hg)
set_option maxRecDepth 100000 in
set_option maxHeartbeats 20000000 in
theorem Sure_any {α : Type} (us : List α) (fv : α → Value) (H : α → Nat → Bool) (many lb vb B : Nat) (a : Option Addr) (cap : Nat) (w : World) (hm : many ≤ 64) (hl : us.length ≤ 200) (hB : B ≤ w.heap.size)
    (hc : ∀ (i : Nat) v, (us.map fv)[i]? = some v → ∃ g, a = some ⟨g, 0, none⟩ ∧ g < B ∧ w.cell? ⟨g, i, none⟩ = some v)
    (hv : w.heap[vb]? = some (.cells #[.slice a us.length cap] 134))
    (hh : ∀ u ∈ us, ∀ (n : Nat), n < many → ∀ W, Below w.heap.size w W → Calls Tryz.prog 69 #[fv u, .int .i64 n, .pointer (some ⟨lb, 0, none⟩)] W fun e W' => e = .returned (.bool (H u n)) ∧ Below W.heap.size W W') :
    Calls Tryz.prog 67 #[.func (.func 102) #[] #[.pointer (some ⟨vb, 0, none⟩)], .int .i64 many, .func (.func 69) #[] #[.pointer (some ⟨lb, 0, none⟩)]] w fun e w' =>
      (∃ va vm, e = .returned (.tuple #[va, vm]) ∧ IntsAt w' va (((List.range many).filter fun n => us.all fun u => H u n).map fun (n : Nat) => (n : Int)) ∧ IntsAt w' vm (((List.range many).filter fun n => us.any fun u => H u n).map fun (n : Nat) => (n : Int))) ∧ Below w.heap.size w w' := by
  obtain ⟨V, hV⟩ : ∃ V, V = w.heap.size := ⟨_, rfl⟩
  have hvb : vb < w.heap.size := blk_lt hv
  have HC := Lib.hid hc
  have HVB := Lib.hid hv
  have HH := Lib.hid hh
  have hmk := run_make_row' (P := Tryz.prog) 36 3 (.int .i64 0) 8 (by kernel_rfl) (by kernel_rfl) rfl .i64 .i64 many (by omega) (by omega)
  clear hc hv hh
  refine (callsIn_wide (n := 10)).1 ?_
  refine callsIn_of_wp_marks Tryz.func67 rfl trivial ?_ rfl
  simp only [Tryz.ntmps67, List.size_toArray, List.length_cons, List.length_nil, Nat.reduceAdd, Nat.reduceSub, Array.replicate_succ, Array.replicate_zero, List.push_toArray, List.append_toArray, List.nil_append, List.cons_append]
  gi_wp2_with fail
  obtain ⟨w5, hw5⟩ : ∃ w5, w5 = (((((w.alloc (.cells #[.int .i64 many] 3)).alloc (.cells #[.func (.func 69) #[] #[.pointer (some ⟨lb, 0, none⟩)]] 141)).alloc (.cells #[.int .i64 0] 3)).alloc (.cells (madeCells #[.int .i64 0] many) 3)).alloc (.cells #[.slice (some ⟨w.heap.size + 1 + 1 + 1, 0, none⟩) many many] 36)) := ⟨_, rfl⟩
  rw [← hw5]
  have hb5 : Below w.heap.size w w5 := by rw [hw5]; exact (by repeat (first | exact Below.refl _ _ | assumption | (refine Below.alloc ?_ ?_ _; rotate_left; · (first | omega | (simp; done) | (simp; omega) | fail)) | (refine Below.setCell ?_ ?_ _; rotate_left; · (first | omega | (simp; done) | (simp; omega) | fail)) | refine Below.drew ?_ | fail))
  have hz5 : w5.heap.size = V + 5 := by rw [hw5, hV]; simp
  have h0 : SuSt w V many lb H [] w5 := by
    rw [made_is H many] at hw5
    rw [hw5, hV]
    refine ⟨(by repeat (first | exact heap_alloc_at _ _ _ (by (first | omega | (simp; done) | (simp; omega) | (simp at *; omega) | fail)) | assumption | rw [heap_alloc_past _ _ _ (by (first | omega | (simp; done) | (simp; omega) | (simp at *; omega) | fail))] | rw [heap_setCell_past _ _ _ _ (by (first | omega | (simp; done) | (simp; omega) | (simp at *; omega) | fail))] | fail)), (by repeat (first | exact heap_alloc_at _ _ _ (by (first | omega | (simp; done) | (simp; omega) | (simp at *; omega) | fail)) | assumption | rw [heap_alloc_past _ _ _ (by (first | omega | (simp; done) | (simp; omega) | (simp at *; omega) | fail))] | rw [heap_setCell_past _ _ _ _ (by (first | omega | (simp; done) | (simp; omega) | (simp at *; omega) | fail))] | fail)), (by repeat (first | exact heap_alloc_at _ _ _ (by (first | omega | (simp; done) | (simp; omega) | (simp at *; omega) | fail)) | assumption | rw [heap_alloc_past _ _ _ (by (first | omega | (simp; done) | (simp; omega) | (simp at *; omega) | fail))] | rw [heap_setCell_past _ _ _ _ (by (first | omega | (simp; done) | (simp; omega) | (simp at *; omega) | fail))] | fail)), (by repeat (first | exact heap_alloc_at _ _ _ (by (first | omega | (simp; done) | (simp; omega) | (simp at *; omega) | fail)) | assumption | rw [heap_alloc_past _ _ _ (by (first | omega | (simp; done) | (simp; omega) | (simp at *; omega) | fail))] | rw [heap_setCell_past _ _ _ _ (by (first | omega | (simp; done) | (simp; omega) | (simp at *; omega) | fail))] | fail)), (by repeat (first | exact heap_alloc_at _ _ _ (by (first | omega | (simp; done) | (simp; omega) | (simp at *; omega) | fail)) | assumption | rw [heap_alloc_past _ _ _ (by (first | omega | (simp; done) | (simp; omega) | (simp at *; omega) | fail))] | rw [heap_setCell_past _ _ _ _ (by (first | omega | (simp; done) | (simp; omega) | (simp at *; omega) | fail))] | fail)), by simp, by exact (by repeat (first | exact Below.refl _ _ | assumption | (refine Below.alloc ?_ ?_ _; rotate_left; · (first | omega | (simp; done) | (simp; omega) | fail)) | (refine Below.setCell ?_ ?_ _; rotate_left; · (first | omega | (simp; done) | (simp; omega) | fail)) | refine Below.drew ?_ | fail))⟩
  have H0 := Lib.hid h0
  have hit : ItC Tryz.prog 102 #[.pointer (some ⟨vb, 0, none⟩)] (fun u => #[fv u]) us (fun k => k = vb ∨ k < B) w5 := by
    have h := values_it (us.map fv) a cap w5 vb B (by omega) (by rw [List.length_map]; omega)
      (fun i v hi => by
        obtain ⟨g, h1, h2, h3⟩ := HC.out i v hi
        exact ⟨g, h1, h2, by rw [← h3]; exact World.cell?_of_block (hb5.block g (by omega))⟩)
      (by rw [List.length_map]; exact blk_later hb5 HVB.out)
    exact itc_map (encs := fun v => #[v]) h
  simp only [← hV]
  rw [← hV] at hvb hB hb5
  have HV := Lib.hid hV
  have HB5 := Lib.hid hb5
  clear hV hw5 h0 hb5 hmk
  refine rf_state (gf := 102) (lb := #[.pointer (some ⟨vb, 0, none⟩)]) rfl (enters_of Tryz.func102 (by kernel_rfl) rfl)
    hit (fun _ => rfl) (fun j hj => by rcases hj with h | h <;> omega)
    (fun pre W => SuSt w V many lb H pre W) (fun k => k = V + 2 ∨ k = V + 3) (fun u => [(15, fv u), (10, fv u)])
    (fun k hk => ⟨by omega, fun h => by rcases h with h | h <;> omega⟩)
    (fun pre X W W' h ho hX => h.only ho (fun k hk => by have := hX k hk; omega)) (fun pre W h => by have := h.sz; omega) H0.out ?assign ?body ?done
  case assign =>
    intro l y W K' hK'
    gi_wp2_with fail
    exact hK'
  case body =>
    rintro l pre y rest W hsp hS
    have HS := Lib.hid hS
    have hy : y ∈ us := by rw [hsp]; simp
    have hpl : pre.length < 200 := by
      have := congrArg List.length hsp
      simp only [List.length_append, List.length_cons] at this
      omega
    have HY := Lib.hid hy
    have a0 := blk_cell hS.ask 0
    have f0 := blk_free hS.ask 0
    have m0 := blk_cell hS.num 0
    clear hS hsp hy hit
    gi_wp2_with fail
    obtain ⟨w6, hw6⟩ : ∃ w6, w6 = W.setCell ⟨V + 2, 0, none⟩ (.int .i64 ((pre.length : Int) + 1)) := ⟨_, rfl⟩
    have ho6 : OnlyIn (fun k => k = V + 2 ∨ k = V + 3) W w6 := by rw [hw6]; exact OnlyIn.setCell _ _ _ (Or.inl rfl)
    have ha6 : w6.heap[V + 2]? = some (.cells #[.int .i64 ((pre.length : Int) + 1)] 3 (0, 0)) := by rw [hw6]; exact blk_set1 HS.out.ask _
    have hr6 : w6.heap[V + 3]? = some (.cells (cntL H pre y many 0).toArray 3 (0, 0)) := by
      rw [hw6, heap_setCell_past _ _ _ _ (by simp), cntL_zero]
      exact HS.out.row
    rw [← hw6]
    have HO6 := Lib.hid ho6
    have HA6 := Lib.hid ha6
    have HR6 := Lib.hid hr6
    clear hw6 ho6 ha6 hr6 a0 f0 m0
    gi_loopw [19] (fun j wr => ∃ (k : Nat), k ≤ many ∧ j = .int .i64 k ∧ Hid (OnlyIn (fun k => k = V + 2 ∨ k = V + 3) W wr) ∧ Hid (wr.heap[V + 2]? = some (.cells #[.int .i64 ((pre.length : Int) + 1)] 3 (0, 0))) ∧ Hid (wr.heap[V + 3]? = some (.cells (cntL H pre y many k).toArray 3 (0, 0)))) (fun j _ => many - (intOf j).toNat)
    case atStart => exact ⟨0, by omega, rfl, HO6, HA6, HR6⟩
    case round =>
      clear HO6 HA6 HR6
      obtain ⟨k, hk, rfl, HO, HA, HR⟩ := hrel
      have hszr := HO.out.size
      have hsz0 := HS.out.sz
      have hbr : Below V w wr := ⟨HO.out.os.trans HS.out.bel.os, HO.out.tape.trans HS.out.bel.tape, HO.out.output.trans HS.out.bel.output, by have := HS.out.bel.size; omega, fun j hj => (HO.out.block j (by omega) (fun h => by rcases h with h | h <;> omega)).trans (HS.out.bel.block j hj)⟩
      have HBR := Lib.hid hbr
      have g1 := (HO.out.block (V + 1) (by omega) (fun h => by rcases h with h | h <;> omega)).trans HS.out.has
      have g4 := (HO.out.block (V + 4) (by omega) (fun h => by rcases h with h | h <;> omega)).trans HS.out.hav
      have h0 := blk_cell g1 0
      have HG4 := Lib.hid g4
      clear g1 g4 hbr
      by_cases hlt : k < many
      · gi_wp2_with fail
        refine ⟨trivial, (CallsIn.inRound l (callsIn_wide.2 (HH.out y HY.out k hlt wr (by rw [← HV.out]; exact HBR.out)))).mono ?_⟩
        rintro e w7 ⟨rfl, hb7⟩
        obtain ⟨z, hz⟩ : ∃ z, z = H y k := ⟨_, rfl⟩
        rw [← hz]
        have HZ := Lib.hid hz
        have HO7 : Hid (OnlyIn (fun k => k = V + 2 ∨ k = V + 3) W w7) := Lib.hid (HO.out.trans (OnlyIn.of_below hb7))
        have HA7 := Lib.hid (blk_later hb7 HA.out)
        have HR7 := Lib.hid (blk_later hb7 HR.out)
        have HG7 := Lib.hid (blk_later hb7 HG4.out)
        clear hz hb7 HA HR HG4 HO HBR h0
        cases z with
        | false =>
          gi_wp2_with fail
          go_roundw
          case rel => exact ⟨k + 1, by omega, by go_num, HO7, HA7, by rw [cntL_no HZ.out.symm]; exact HR7⟩
          case measure => simp [intOf]; omega
        | true =>
          obtain ⟨c, hcn⟩ : ∃ c, c = cntN H pre k := ⟨_, rfl⟩
          have hcl : c ≤ pre.length := by rw [hcn]; exact cnt_le H pre k
          have q0 : w7.cell? ⟨V + 3, k, none⟩ = some (.int .i64 (c : Nat)) := (blk_cell HR7.out k).trans (by rw [hcn]; simpa using cntL_at hlt)
          have q1 := blk_free HR7.out k
          have q2 := blk_cell HG7.out 0
          have HCN := Lib.hid hcn
          clear hcn
          gi_wp2_with fail
          have ho8 : OnlyIn (fun k => k = V + 2 ∨ k = V + 3) W (w7.setCell ⟨V + 3, k, none⟩ (.int .i64 ((c : Int) + 1))) := HO7.out.trans (OnlyIn.setCell _ _ _ (Or.inr rfl))
          have hr8 : (w7.setCell ⟨V + 3, k, none⟩ (.int .i64 ((c : Int) + 1))).heap[V + 3]? = some (.cells (cntL H pre y many (k + 1)).toArray 3 (0, 0)) := by
            have h := blk_set HR7.out k (.int .i64 ((c : Int) + 1))
            rw [← cntL_yes hlt HZ.out.symm, ← HCN.out]
            simpa using h
          go_roundw
          case rel => exact ⟨k + 1, by omega, by go_num, ho8, (heap_setCell_past _ _ _ _ (by simp)).trans HA7.out, hr8⟩
          case measure => simp [intOf]; omega
      · obtain rfl : k = many := by omega
        clear h0
        gi_wp2_with fail
        have hl9 : pre.length + 1 = (pre ++ [y]).length := by simp
        refine ⟨HO.out, ⟨?_, ?_, ?_, ?_, HG4.out, by omega, HBR.out⟩⟩
        · exact (HO.out.block V (by omega) (fun h => by rcases h with h | h <;> omega)).trans HS.out.num
        · exact (HO.out.block (V + 1) (by omega) (fun h => by rcases h with h | h <;> omega)).trans HS.out.has
        · rw [← hl9]; exact HA.out
        · rw [← cntL_all]; exact HR.out
  case done =>
    rintro D W hD hS hdef
    have HS := Lib.hid hS
    have HDF := Lib.hid hdef
    have m0 := blk_cell hS.num 0
    clear hS hdef hit
    gi_wp2_with fail
    have hDl := (Array.getElem?_eq_some_iff.1 HDF.out).1
    have hus : us.length ≤ 200 := hl
    have hA1 : ∀ (n : Nat) (W' : World), n < many → Below W.heap.size W W' → Calls Tryz.prog 100 #[.int .i64 n, .pointer (some ⟨V + 4, 0, none⟩), .pointer (some ⟨V + 2, 0, none⟩)] W' fun e W'' => e = .returned (.bool (us.all fun u => H u n)) ∧ Below W'.heap.size W' W'' := fun n W' hn hb => by
      refine sureAll_any (V + 4) (V + 2) (V + 3) many (cntN H us n) n us.length (cntB H us many) 3 W' (blk_later hb HS.out.hav) (blk_later hb HS.out.row) hn (cntB_at hn) (blk_later hb HS.out.ask) _ ?_
      rw [← cnt_all H us n]
      by_cases e : cntN H us n = us.length
      · rw [decide_eq_true e, e]; simp
      · rw [decide_eq_false e]; simp; omega
    have hA2 : ∀ (n : Nat) (W' : World), n < many → Below W.heap.size W W' → Calls Tryz.prog 101 #[.int .i64 n, .pointer (some ⟨V + 4, 0, none⟩)] W' fun e W'' => e = .returned (.bool (us.any fun u => H u n)) ∧ Below W'.heap.size W' W'' := fun n W' hn hb => by
      rw [← cnt_any H us n]
      exact sureSome_any (V + 4) (V + 3) many (cntN H us n) n (cntB H us many) 3 W' (blk_later hb HS.out.hav) (blk_later hb HS.out.row) hn (cntB_at hn)
    have HA2 := Lib.hid hA2
    refine ⟨trivial, (callsIn_wide.2 (where1_any many (fun n => us.all fun u => H u n) (V + 4) (V + 2) W hm hA1)).mono ?_⟩
    rintro e w8 ⟨⟨va, rfl, hra⟩, hb8⟩
    have HIA := Lib.hid (ints_of_row hra)
    have HB8 := Lib.hid hb8
    have m8 := blk_cell (blk_later hb8 HS.out.num) 0
    clear hA1 hA2 hra hb8 m0
    gi_wp2_with fail
    refine ⟨trivial, (callsIn_wide.2 (where2_any many (fun n => us.any fun u => H u n) (V + 4) 0 w8 hm (fun n W' hn hb => HA2.out n W' hn (HB8.out.trans (hb.mono HB8.out.size))))).mono ?_⟩
    rintro e w9 ⟨⟨vm, rfl, hrm⟩, hb9⟩
    have HIA9 := Lib.hid (HIA.out.later hb9)
    have HIM := Lib.hid (ints_of_row hrm)
    have HB9 := Lib.hid (HB8.out.trans (hb9.mono HB8.out.size))
    clear hrm hb9 m8 HIA HB8
    gi_wp2_with fail
    have hd9 := blk_later HB9.out HDF.out
    have hbl : Below V w w9 := HS.out.bel.trans (HB9.out.mono (by have := HS.out.sz; omega))
    refine leave_ret hd9 ⟨.tuple #[va, vm], by simp [results, Tryz.results67, go_sem], ⟨va, vm, rfl, HIA9.out.put hd9 _, HIM.out.put hd9 _⟩, ?_⟩
    exact ((⟨by rw [← HV.out]; exact hbl, fun q hq => by cases hq⟩ : Held w [] w9).put (.deferred none) (D := D) (by rw [← HV.out]; omega) (fun q hq => by cases hq)).below
end Go.Proofs.YtnhacghjoikgpaaGreatDoor

/- Whether another leaf is of the sheet of one, as a way of making says. -/
namespace Go.Proofs.YtnhacghjoikgpaaGreatDoor
set_option linter.unusedSimpArgs false
set_option linter.unusedVariables false
open Go Go.RowKit Go.Sort Go.BigFrame

set_option maxRecDepth 100000 in
set_option maxHeartbeats 2000000 in
theorem asks_any (m : Mkw) (s : Bs) (c r : Int) (q : Ppr) (tr : Int) (lv : Value) (ls : List Fl) (g i j lb : Nat) (x y : Fl) (w : World) (hl : LeavesAt w lv ls g) (hn : ls.length ≤ 1000) (hi : ls[i]? = some x) (hj : ls[j]? = some y)
    (hb : w.heap[lb]? = some (.cells #[.int .i64 i] 3)) :
    Calls Tryz.prog 69 #[.func (.func 66) #[.agg (wayC m s c r q tr lv)] #[], .int .i64 j, .pointer (some ⟨lb, 0, none⟩)] w fun e w' => e = .returned (.bool (!decide (j = i) && (x.sheet == y.sheet))) ∧ Below w.heap.size w w' := by
  have HL := Lib.hid hl
  have HI := Lib.hid hi
  have HJ := Lib.hid hj
  have HN := Lib.hid hn
  have c0 := blk_cell hb 0
  clear hl hi hj hn hb
  by_cases hij : j = i
  · subst hij
    go_enter Tryz.func69, Tryz.ntmps69
    go_wp2_with fail
    go_ret
    exact ⟨by simp, Below.refl _ _⟩
  · have hne : ((j : Int) != (i : Int)) = true := by simp; omega
    go_enter Tryz.func69, Tryz.ntmps69
    go_wp2_with fail
    refine (together_any m s c r q tr lv ls g i j x y w HL.out HN.out HI.out HJ.out).mono ?_
    rintro e w2 ⟨rfl, hb⟩
    obtain ⟨z, hz⟩ : ∃ z, z = (x.sheet == y.sheet) := ⟨_, rfl⟩
    have hz2 : (!decide (j = i) && (x.sheet == y.sheet)) = z := by rw [← hz, decide_eq_false hij]; rfl
    rw [← hz]
    have HZ2 := Lib.hid hz2
    clear hz hz2 hne c0 hij
    go_wp2_with fail
    go_ret
    exact ⟨by rw [HZ2.out]; rfl, hb⟩
end Go.Proofs.YtnhacghjoikgpaaGreatDoor

/- The last fold, as a byte. -/
namespace Go.Proofs.YtnhacghjoikgpaaGreatDoor
set_option linter.unusedSimpArgs false
set_option linter.unusedVariables false
open Go Go.RowKit Go.Sort Go.BigFrame

theorem bytesF_last {D : Fds} (h : 1 ≤ D.length) : ∃ k, (bytesF D).length = k + 1 ∧ ∃ c : UInt8, ((c.toNat : Int) == 120) = lastF D ∧ ∀ h : k < (⟨(bytesF D).toArray⟩ : ByteArray).size, (⟨(bytesF D).toArray⟩ : ByteArray)[k]'h = c := by
  have hne : D ≠ [] := fun e => by rw [e] at h; simp at h
  refine ⟨D.length - 1, by unfold bytesF; simp; omega, if lastF D then 120 else 121, by cases lastF D <;> rfl, ?_⟩
  intro h'
  have h0 : D.length - 1 < (bytesF D).length := by unfold bytesF; simp; omega
  have hg : (⟨(bytesF D).toArray⟩ : ByteArray)[D.length - 1]'h' = (bytesF D)[D.length - 1]'h0 := rfl
  rw [hg]
  have hm : (bytesF D)[D.length - 1]? = some (if lastF D then 120 else 121) := by
    unfold bytesF lastF
    rw [List.getElem?_map, List.getLastD_eq_getLast?, List.getLast?_eq_getElem?]
    rw [List.getElem?_eq_getElem (by omega)]
    simp
  rw [List.getElem?_eq_getElem h0] at hm
  exact Option.some.inj hm
end Go.Proofs.YtnhacghjoikgpaaGreatDoor

/- A region that draws its order: its first operations only read, or call what makes blocks of its own; the others come behind them, one after the other. One walk serves all orders. -/
namespace Go.Proofs.YtnhacghjoikgpaaGreatDoor
set_option linter.unusedSimpArgs false
set_option linter.unusedVariables false
open Go Go.RowKit Go.Sort

section
variable {P : Program} {ops : Array Oper} {md : Region.Mode} {C : World → Prop}

/-- The head's operations in whatever order: each that may come up is of the head, and quiet; L is what holds behind them. -/
def HeadQ (P : Program) (md : Region.Mode) (ops : Array Oper) (C : World → Prop) (n : Nat) (L : Array Bool → Act → Prop) : Nat → Array Bool → Act → Prop
  | 0, s, a => L s a
  | f + 1, s, a => (∃ i, i ∈ Region.ready md ops s) ∧ ∀ i ∈ Region.ready md ops s, i < n ∧ qOp P ops C i (HeadQ P md ops C n L f (s.setIfInBounds i true)) a

theorem headQ_any {n g : Nat} {L : Array Bool → Act → Prop} {R : Exit → Act → World → Prop} (hL : ∀ s a w, C w → L s a → wpAny P md ops R g s a w) :
    ∀ (f : Nat) (s : Array Bool) (a : Act) (w : World), C w → HeadQ P md ops C n L f s a → wpAny P md ops R (f + g) s a w := by
  intro f
  induction f with
  | zero => intro s a w hw h; simpa using hL s a w hw h
  | succ f ih =>
    intro s a w hw h
    have e : f + 1 + g = (f + g) + 1 := by omega
    rw [e]
    obtain ⟨⟨i0, h0⟩, h⟩ := h
    refine ⟨fun hn => ?_, fun i hi => wpOp_of_qOp hw (fun a' w' hw' hq => ih _ a' w' hw' hq) (h i hi).2⟩
    rw [hn] at h0
    cases h0

theorem unlisted_on {s : Array Bool} {i : Nat} (h1 : s.getD i true = false) (h2 : s.getD i false = true) : False := by
  rw [getD_both h1] at h2
  cases h2

/-- Each operation of the head is waited for by one behind it that is no farther than n, unless it is one of the first p. -/
def sinkP (md : Region.Mode) (ops : Array Oper) (p n : Nat) : Bool :=
  (List.range n).all fun i => decide (i < p) || (List.range (n + 1)).any fun j => decide (i < j) && Region.waitsFor md ops j i

theorem waits_on {s : Array Bool} {i j : Nat} (h : Region.waitsFor md ops j i = true) (hj : ∀ oj, ops[j]? = some oj → ∀ e ∈ oj.after, Region.binds md e = true → s.getD e.on false = true) (hi : s.getD i true = false) : False := by
  obtain ⟨oj, hoj, e, he, hb, hon⟩ := Region.waitsFor_spec h
  exact unlisted_on hi (hon ▸ hj oj hoj e he hb)

theorem tail_later {p n : Nat} {s : Array Bool} (hs : sinkP md ops p n = true) (hc : Region.chainB md ops n = true) (hn : n < ops.size) (inv : HeadInv md ops n s) :
    ∀ (d i : Nat), n - i ≤ d → p ≤ i → i < n → s.getD i true = false → ∀ t, n ≤ t → t ∉ Region.ready md ops s := by
  intro d
  induction d with
  | zero => intro i hd _ hi; omega
  | succ d ih =>
    intro i hd hpi hi hun t ht hr
    obtain ⟨_, ot, hot, hall⟩ := mem_ready.1 hr
    have htz : t < ops.size := (Array.getElem?_eq_some_iff.1 hot).1
    have hat : ∀ oj, ops[t]? = some oj → ∀ e ∈ oj.after, Region.binds md e = true → s.getD e.on false = true := fun oj hoj => by
      rw [hot] at hoj
      cases hoj
      exact hall
    rcases Nat.lt_or_ge n t with hlt | hle
    · have h1 := List.all_eq_true.1 hc t (List.mem_range.2 htz)
      simp only [Bool.or_eq_true, decide_eq_true_eq] at h1
      rcases h1 with h1 | h1
      · omega
      · exact waits_on h1 hat (inv.tail (t - 1) (by omega) (by omega))
    · have e : t = n := by omega
      subst e
      have h1 := List.all_eq_true.1 hs i (List.mem_range.2 hi)
      simp only [Bool.or_eq_true, decide_eq_true_eq, List.any_eq_true, List.mem_range, Bool.and_eq_true] at h1
      rcases h1 with h1 | ⟨j, hj, hij, hw⟩
      · omega
      · rcases Nat.lt_or_ge j t with hjt | hjt
        · cases hl : s.getD j false with
          | true => exact waits_on hw (fun oj hoj => inv.closed j oj hoj hl) hun
          | false => exact ih j (by omega) (by omega) hjt (getD_in (by rw [inv.size]; omega) hl) t (Nat.le_refl _) hr
        · have e : j = t := by omega
          subst e
          exact waits_on hw hat hun

theorem headQ_first {p n i : Nat} {o : Oper} {v : Value} {L : Array Bool → Act → Prop} (ho : ops[i]? = some o) (hsel : ∀ (j : Nat) (o : Oper) cs b, ops[j]? = some o → o.op ≠ .select cs b)
    (hs : sinkP md ops p n = true) (hc : Region.chainB md ops n = true) (hn : n < ops.size) (hpi : p ≤ i) (hin : i < n) (hend : ∀ s a, L s a → ∀ j ∈ Region.ready md ops s, n ≤ j) :
    ∀ (f : Nat) (s : Array Bool) (a : Act), HeadInv md ops n s →
      (∀ j oj, ops[j]? = some oj → j ≠ i → s.getD j true = false → (∀ e ∈ oj.after, Region.binds md e = true → e.on ≠ i) → o.apart ops oj = true) →
      i ∈ Region.ready md ops s → YieldsIn P ops C o v a → HeadQ P md ops C n L f (s.setIfInBounds i true) (a.put o.dst v) → HeadQ P md ops C n L (f + 1) s a := by
  intro f
  induction f with
  | zero =>
    intro s a inv _ hi hy H
    refine ⟨⟨i, hi⟩, fun j hj => ?_⟩
    have hjn : j < n := Nat.lt_of_not_le fun hle => tail_later hs hc hn inv _ i (Nat.le_refl _) hpi hin (mem_ready.1 hi).1 j hle hj
    by_cases e : j = i
    · subst e
      exact ⟨hjn, hy.qOp ho H⟩
    · have := hend _ _ H j (ready_mono hj e)
      omega
  | succ f ih =>
    intro s a inv hfree hi hy H
    refine ⟨⟨i, hi⟩, fun j hj => ?_⟩
    have hjn : j < n := Nat.lt_of_not_le fun hle => tail_later hs hc hn inv _ i (Nat.le_refl _) hpi hin (mem_ready.1 hi).1 j hle hj
    refine ⟨hjn, ?_⟩
    by_cases e : j = i
    · subst e
      exact hy.qOp ho H
    · obtain ⟨hun, oj, hoj, hafter⟩ := mem_ready.1 hj
      have hno : ∀ e ∈ oj.after, Region.binds md e = true → e.on ≠ i := fun e he hb q => unlisted_on (mem_ready.1 hi).1 (q ▸ hafter e he hb)
      have hq := qOp_put hoj (hfree j oj hoj e hun hno) (fun cs b => hsel i o cs b ho) (fun cs b => hsel j oj cs b hoj) hy (H.2 j (ready_mono hj e)).2
      refine qOp_mono (fun a' hk => ih _ a' (inv.set hj hjn) (fun k ok hk2 hki hun2 hno2 => hfree k ok hk2 hki ?_ hno2) (ready_mono hi (Ne.symm e)) hk.1 ?_) hq
      · by_cases q : j = k
        · subst q; exact hun
        · rwa [getD_set_ne true q] at hun2
      · rw [Array.setIfInBounds_comm _ _ e]
        exact hk.2

theorem headQ_lex {p n g : Nat} {K : Act → Prop} (hsel : Region.noSelect ops = true) (hs : sinkP md ops p n = true) (hc : Region.chainB md ops n = true) (hn : n < ops.size) :
    ∀ (l : List Oper) (k : Nat) (s : Array Bool) (a : Act), (∀ j, j < l.length → l[j]? = ops[k + j]?) → p ≤ k → k + l.length = n → HeadInv md ops n s →
      Region.lexHead md ops g l.length k s = true → wpQuiet P ops C K l a → HeadQ P md ops C n (fun s' a' => Region.seqB md ops g n s' = true ∧ K a') l.length s a := by
  intro l
  induction l with
  | nil =>
    intro k s a _ _ hk _ hB h
    have e : k = n := by simpa using hk
    subst e
    exact ⟨by simpa [Region.lexHead] using hB, h⟩
  | cons o l ih =>
    intro k s a hl hpk hk inv hB h
    have ho : ops[k]? = some o := by simpa using (hl 0 (by simp)).symm
    simp only [List.length_cons] at hk
    simp only [List.length_cons, Region.lexHead, Bool.and_eq_true] at hB
    obtain ⟨⟨hr, hf⟩, hB⟩ := hB
    have hr : k ∈ Region.ready md ops s := by simpa using hr
    have hq : qOp P ops C k (wpQuiet P ops C K l) a := by
      unfold qOp
      simp only [ho]
      exact h
    obtain ⟨v, hy, hK⟩ := yieldsIn_of_qOp ho hq
    refine headQ_first ho (Region.noSelect_spec hsel) hs hc hn hpk (by omega) (fun _ _ hL => seqB_ready hL.1) l.length s a inv (Region.free_spec ho hf) hr hy
      (ih (k + 1) _ _ (fun j hj => ?_) (by omega) (by omega) (inv.set hr (by omega)) hB hK)
    have := hl (j + 1) (by simp only [List.length_cons]; omega)
    simpa [Nat.add_assoc, Nat.add_comm 1 j] using this

/-- The first operations, which only copy: what they leave. -/
def leadV (o : Oper) (a : Act) : Value := match o.op with
  | .move x => a.eval x
  | _ => undef
def leadA : List Oper → Act → Act
  | [], a => a
  | o :: l, a => leadA l (a.put o.dst (leadV o a))
def leadS : Nat → List Oper → Array Bool → Array Bool
  | _, [], s => s
  | k, _ :: l, s => leadS (k + 1) l (s.setIfInBounds k true)
def isMove (o : Oper) : Bool := o.guard.isNone && match o.op with
  | .move _ => true
  | _ => false
def leadB (md : Region.Mode) (ops : Array Oper) : Nat → List Oper → Array Bool → Bool
  | _, [], _ => true
  | k, o :: l, s => isMove o && (Region.ready md ops s).contains k && Region.free md ops s k && leadB md ops (k + 1) l (s.setIfInBounds k true)

theorem move_yields {o : Oper} {a : Act} (h : isMove o = true) : Yields P ops o (leadV o a) a := by
  unfold isMove at h
  simp only [Bool.and_eq_true, Option.isNone_iff_eq_none] at h
  obtain ⟨hg, hm⟩ := h
  cases ho : o.op <;> simp only [ho] at hm <;> try (cases hm)
  rename_i x
  refine Or.inl ⟨by unfold Region.wanted; rw [hg], fun w => ?_⟩
  unfold leadV
  rw [ho]
  simp [execOp, ho, go_sem]

theorem lead_first {R : Exit → Act → World → Prop} (hsel : Region.noSelect ops = true) (hR : ∀ c a b w, R (.panic c) a w → R (.panic c) b w) :
    ∀ (l : List Oper) (k : Nat) (s : Array Bool) (a : Act) (f : Nat) (w : World), (∀ j, j < l.length → l[j]? = ops[k + j]?) → leadB md ops k l s = true →
      wpAny P md ops R f (leadS k l s) (leadA l a) w → wpAny P md ops R (l.length + f) s a w := by
  intro l
  induction l with
  | nil => intro k s a f w _ _ h; simpa [leadS, leadA] using h
  | cons o l ih =>
    intro k s a f w hl hB h
    have ho : ops[k]? = some o := by simpa using (hl 0 (by simp)).symm
    simp only [leadB, Bool.and_eq_true] at hB
    obtain ⟨⟨⟨hm, hr⟩, hf⟩, hB⟩ := hB
    have e : (o :: l).length + f = (l.length + f) + 1 := by simp only [List.length_cons]; omega
    rw [e]
    refine wpAny_first (v := leadV o a) ho (Region.noSelect_spec hsel) (fun c a w h => hR c _ _ w h) _ s a w (Region.free_spec ho hf) (by simpa using hr) (move_yields hm) ?_
    refine ih (k + 1) _ _ f w (fun j hj => ?_) hB h
    have := hl (j + 1) (by simp only [List.length_cons]; omega)
    simpa [Nat.add_assoc, Nat.add_comm 1 j] using this

theorem lead_inv {n : Nat} : ∀ (l : List Oper) (k : Nat) (s : Array Bool), k + l.length ≤ n → leadB md ops k l s = true → HeadInv md ops n s → HeadInv md ops n (leadS k l s) := by
  intro l
  induction l with
  | nil => intro k s _ _ h; exact h
  | cons o l ih =>
    intro k s hk hB h
    simp only [List.length_cons] at hk
    simp only [leadB, Bool.and_eq_true] at hB
    obtain ⟨⟨⟨_, hr⟩, _⟩, hB⟩ := hB
    exact ih (k + 1) _ (by omega) hB (h.set (by simpa using hr) (by omega))

/-- What is asked of the operations' order: the first p only copy; those up to n only read, or call; the others come one after the other. -/
def tailB (ops : List Oper) (p n : Nat) : Bool :=
  Region.noSelect ops.toArray && decide (p ≤ n) && decide (n < ops.length) && sinkP .any ops.toArray p n && Region.chainB .any ops.toArray n && leadB .any ops.toArray 0 (ops.take p) (Array.replicate ops.length false) &&
    Region.lexHead .any ops.toArray (ops.length - n) (n - p) p (leadS 0 (ops.take p) (Array.replicate ops.length false))

theorem wp_region_lead_tail {id : Nat} {Q : Exit → Act → World → Prop} {a : Act} {w : World} {l : List Oper} (p n : Nat) (hm : P.follows .mixedOrders = true) (hB : tailB l p n = true) (hR : ∀ c a b w, Q (.panic c) a w → Q (.panic c) b w)
    (hC : C { w with drawn := w.drawn + 1 })
    (h : wpQuiet P l.toArray C (fun a' => ∀ w', C w' → wpList P l.toArray Q (l.drop n) a' w') ((l.take n).drop p) (leadA (l.take p) a)) : (Code.region id l.toArray true).wp P Q a w := by
  simp only [tailB, Bool.and_eq_true, decide_eq_true_eq] at hB
  obtain ⟨⟨⟨⟨⟨⟨hsel, hpn⟩, hn⟩, hs⟩, hc⟩, hld⟩, hlex⟩ := hB
  have h0 : (l.take p).length = p := by simp; omega
  have h1 : ((l.take n).drop p).length = n - p := by simp; omega
  have h2 : (l.drop n).length = l.length - n := by simp
  have inv0 : HeadInv .any l.toArray n (Array.replicate l.length false) :=
    ⟨by simp, fun j oj _ hl => (by rw [getD_replicate_false] at hl; cases hl), fun t _ ht => getD_in (by simpa using ht) (getD_replicate_false _ _)⟩
  have inv := lead_inv (l.take p) 0 _ (by rw [h0]; omega) hld inv0
  have H := headQ_lex (md := .any) (g := l.length - n) hsel hs hc (by simpa using hn) ((l.take n).drop p) p _ (leadA (l.take p) a) (fun j hj => by
    rw [h1] at hj
    simp [List.getElem?_drop, show p + j < n by omega]) (Nat.le_refl _) (by rw [h1]; omega) inv (by rw [h1]; exact hlex) h
  refine wp_region_any hm ?_
  have := headQ_any (R := Q) (g := l.length - n) (fun s a' w' hw hL => by
    have := wpAny_of_seq (md := .any) (Q' := Q) (l.drop n) n s a' w' (fun j => by simp [List.getElem?_drop]) (by rw [h2]; exact hL.1) (hL.2 w' hw)
    rwa [h2] at this) _ _ _ _ hC H
  rw [h1] at this
  have := lead_first (R := Q) hsel hR (l.take p) 0 (Array.replicate l.length false) a _ _ (fun j hj => by rw [h0] at hj; simp [hj]) hld this
  rw [h0] at this
  have e : p + (n - p + (l.length - n)) = l.toArray.size := by simp; omega
  rw [e] at this
  simpa using this

/-- The same, with what follows behind a variable: the operations of the tail do not panic. -/
theorem wp_region_below_tail {id : Nat} {Q : Exit → Act → World → Prop} {a : Act} {w : World} {l : List Oper} (p n : Nat) (hm : P.follows .mixedOrders = true) (hB : tailB l p n = true)
    (h : ∀ R : Exit → Act → World → Prop, (∀ a w, Q .normal a w → R .normal a w) →
      wpQuiet P l.toArray (fun w' => ∃ p : Regrown, w' = grow (redrawn w p.d) p.os) (fun a' => ∀ w', (∃ p : Regrown, w' = grow (redrawn w p.d) p.os) → wpList P l.toArray R (l.drop n) a' w') ((l.take n).drop p) (leadA (l.take p) a)) : (Code.region id l.toArray true).wp P Q a w := by
  have := wp_region_lead_tail (Q := fun e a w => e = .normal ∧ Q .normal a w) (id := id) (C := fun w' => ∃ p : Regrown, w' = grow (redrawn w p.d) p.os) p n hm hB (fun c a b w h => by cases h.1) ⟨⟨w.drawn + 1, #[]⟩, by rw [grow_empty]; rfl⟩ (h _ (fun a w h => ⟨rfl, h⟩))
  exact Code.wp_mono (fun e a w ⟨he, hq⟩ => by rw [he]; exact hq) this
end
end Go.Proofs.YtnhacghjoikgpaaGreatDoor

/- What is known of a way of making without an error: its folds, its sheets, its leaves. -/
namespace Go.Proofs.YtnhacghjoikgpaaGreatDoor
set_option linter.unusedSimpArgs false
set_option linter.unusedVariables false
open Go Go.RowKit Go.Sort Go.BigFrame

theorem count_max : ∀ f ∈ allFolds, ∀ n ∈ [1, 2, 3, 4], 1 ≤ colsF f * rowsF f * n ∧ colsF f * rowsF f * n ≤ 64 := by decide +kernel
theorem count_half : ∀ f ∈ allFolds, 2 ≤ f.length → 2 ≤ colsF f * rowsF f ∧ colsF f * rowsF f ≤ 64 := by decide +kernel
structure Fine (p : Prs) (m : Mkw) (f : Fmt) : Prop where
  len1 : 1 ≤ f.folds.length
  len4 : f.folds.length ≤ 4
  back : bytesF (fdsB f.folds) = f.folds
  sh1 : 1 ≤ m.sheets.toNat
  sh4 : m.sheets.toNat ≤ 4
  half : m.half = true → m.sheets.toNat = 1 ∧ 2 ≤ f.folds.length
theorem fine_at {p : Prs} {m : Mkw} (he : errP p = 0) (hm : mkwErr p m = 0) : 0 ≤ m.fmt ∧ m.fmt.toNat < p.fmts.length ∧ 0 ≤ m.ppr ∧ m.ppr.toNat < p.pprs.length := by
  unfold mkwErr at hm
  split at hm
  · cases hm
  · rename_i h1
    have h1 : (inI 0 (p.fmts.length - 1) m.fmt && inI 0 (p.pprs.length - 1) m.ppr) = true := by simpa using h1
    simp only [inI, Bool.and_eq_true, decide_eq_true_eq] at h1
    omega
theorem fine_of {p : Prs} {m : Mkw} {f : Fmt} (he : errP p = 0) (hm : mkwErr p m = 0) (hf : p.fmts[m.fmt.toNat]? = some f) : Fine p m f := by
  obtain ⟨-, -, ⟨h5, h6⟩, hff⟩ := fine_press he
  obtain ⟨l1, l2, l3⟩ := fds_of_err (hff f (List.mem_of_getElem? hf))
  unfold mkwErr at hm
  split at hm
  · cases hm
  · split at hm
    · cases hm
    · rename_i h2
      split at hm
      · cases hm
      · rename_i h3
        have h2 : inI 1 p.sheets m.sheets = true := by simpa using h2
        simp only [inI, Bool.and_eq_true, decide_eq_true_eq] at h2
        refine ⟨l1, l2, bytes_back l3, by omega, by omega, fun hh => ?_⟩
        have hs : m.sheets = 1 := Classical.byContradiction fun h => h3 ⟨hh, Or.inl h⟩
        refine ⟨by omega, ?_⟩
        have : ¬ f.folds.length = 1 := fun h => h3 ⟨hh, Or.inr fun f' hf' => by rw [hf] at hf'; cases hf'; exact h⟩
        omega
/-- The leaves of a way of making. -/
abbrev leavesW (m : Mkw) (f : Fmt) : List Fl := leavesF (fdsB f.folds) m.sheets.toNat m.half
theorem Fine.mem {p : Prs} {m : Mkw} {f : Fmt} (h : Fine p m f) : fdsB f.folds ∈ allFolds ∧ m.sheets.toNat ∈ [1, 2, 3, 4] := by
  have h1 := h.sh1
  have h2 := h.sh4
  refine ⟨allFolds_mem (by unfold fdsB; simpa using h.len1) (by unfold fdsB; simpa using h.len4), ?_⟩
  simp
  omega
theorem Fine.two {p : Prs} {m : Mkw} {f : Fmt} (h : Fine p m f) (hh : m.half = true) : m.sheets.toNat = 1 ∧ 2 ≤ (fdsB f.folds).length := by
  have := h.half hh
  exact ⟨this.1, by unfold fdsB; simpa using this.2⟩
theorem Fine.count {p : Prs} {m : Mkw} {f : Fmt} (h : Fine p m f) : 1 ≤ (leavesW m f).length ∧ (leavesW m f).length ≤ 64 := by
  obtain ⟨h1, h2⟩ := h.mem
  unfold leavesW
  cases hh : m.half with
  | false =>
    rw [leaves_count _ h1 _ h2]
    exact count_max _ h1 _ h2
  | true =>
    obtain ⟨h3, h4⟩ := h.two hh
    rw [h3]
    have a := leaves_count_half _ h1 h4
    have b := count_half _ h1 h4
    omega
theorem Fine.conj {p : Prs} {m : Mkw} {f : Fmt} (h : Fine p m f) : conjB (fdsB f.folds) (leavesW m f) = true := by
  obtain ⟨h1, h2⟩ := h.mem
  unfold leavesW
  cases hh : m.half with
  | false => exact conj_all _ h1 _ h2
  | true =>
    obtain ⟨h3, h4⟩ := h.two hh
    rw [h3]
    exact conj_half _ h1 h4
theorem Fine.places {p : Prs} {m : Mkw} {f : Fmt} (h : Fine p m f) : placesB (leavesW m f) = true := by
  obtain ⟨h1, h2⟩ := h.mem
  unfold leavesW
  cases hh : m.half with
  | false => exact places_all _ h1 _ h2
  | true =>
    obtain ⟨h3, h4⟩ := h.two hh
    rw [h3]
    exact places_half _ h1 h4
theorem Fine.same {p : Prs} {m : Mkw} {f : Fmt} (h : Fine p m f) : leavesW m f = allR (fdsB f.folds) m.sheets.toNat m.half :=
  leaves_is (by unfold fdsB; simpa using h.len1) (by unfold fdsB; simpa using h.len4) h.sh1 h.sh4 (fun hh => h.two hh)
/-- The conjugate of a leaf: another one of its sheet. -/
theorem conj_is {f : Fds} {l : List Fl} (h : conjB f l = true) {i : Nat} (hi : i < l.length) : ∃ a b, l[i]? = some a ∧ l[l.length - 1 - i]? = some b ∧ a.sheet = b.sheet ∧ (if lastF f then a.row = b.row ∧ (a.col = b.col + 1 ∨ b.col = a.col + 1) else a.col = b.col ∧ (a.row = b.row + 1 ∨ b.row = a.row + 1)) ∧ a.turned = b.turned ∧ a.inner ≠ b.inner := by
  have h1 := List.all_eq_true.1 h i (List.mem_range.2 hi)
  obtain ⟨a, ha⟩ : ∃ a, l[i]? = some a := ⟨_, List.getElem?_eq_getElem hi⟩
  obtain ⟨b, hb⟩ : ∃ b, l[l.length - 1 - i]? = some b := ⟨_, List.getElem?_eq_getElem (by omega)⟩
  rw [ha, hb] at h1
  refine ⟨a, b, ha, hb, ?_⟩
  cases hl : lastF f <;> simp [hl] at h1 ⊢ <;> obtain ⟨⟨⟨x1, x2⟩, x3⟩, x4⟩ := h1 <;> refine ⟨x1, ?_, x3, x4⟩ <;> simpa using x2
theorem conj_mate {f : Fds} {l : List Fl} (h : conjB f l = true) {i : Nat} (hi : i < l.length) : l.length - 1 - i ∈ matesF l i := by
  obtain ⟨a, b, ha, hb, h1, -, -, h4⟩ := conj_is h hi
  unfold matesF
  refine List.mem_filter.2 ⟨List.mem_range.2 (by omega), ?_⟩
  rw [ha, hb]
  have : b ≠ a := fun e => h4 (by rw [e])
  simp [h1, this]
/-- The last byte of folds. -/
theorem last_byte {s : Bs} (h : bytesF (fdsB s) = s) {M : Nat} (hM : s.length = M + 1) : s[M]? = some (if lastF (fdsB s) then 120 else 121) := by
  have e : lastF (fdsB s) = ((fdsB s)[M]?).getD false := by
    unfold lastF
    rw [List.getLastD_eq_getLast?, List.getLast?_eq_getElem?]
    have : (fdsB s).length = M + 1 := by unfold fdsB; simpa using hM
    rw [this]; rfl
  conv => lhs; rw [← h]
  unfold bytesF
  rw [List.getElem?_map]
  obtain ⟨b, hb⟩ : ∃ b, (fdsB s)[M]? = some b := ⟨_, List.getElem?_eq_getElem (by unfold fdsB; simp; omega)⟩
  rw [hb] at e ⊢
  simp only [Option.getD_some] at e
  rw [e]
  rfl
end Go.Proofs.YtnhacghjoikgpaaGreatDoor
