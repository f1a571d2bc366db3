/- The parts Tl, Tm, Tn, To of the proof, joined. It holds without conditions of its own. -/
import Derived.Test.YtielaaaeecfkoaaGreatDoorFL11
import Derived.Test.YtielaaaeecfkoaaGreatDoorFL9
/- The reference: all ways of making. -/
namespace Go.Proofs.YtielaaaeecfkoaaGreatDoor
set_option linter.unusedSimpArgs false
set_option linter.unusedVariables false
open Go Go.RowKit Go.Sort Go.BigFrame

theorem elemMk : ∃ i, Tryz.prog.info? 38 = some i ∧ i.zero = some (.agg #[.int .i64 0, .int .i64 0, .int .i64 0, .bool false]) ∧ i.size = 4 ∧ i.bytes = 32 := elemOf (by kernel_rfl)
theorem undMks : Tryz.prog.underlying 96 = some (.slice 38) := by kernel_rfl
abbrev mkC (m : Mkw) : List Value := [.int .i64 m.fmt, .int .i64 m.ppr, .int .i64 m.sheets, .bool m.half]
def mkCells (ms : List Mkw) : List Value := ms.flatMap mkC
def okM (p : Prs) (m : Mkw) : Bool := decide (mkwErr p m = 0)
/-- The ways of making of a number of sheets, and so on outwards. -/
def mkD (p : Prs) (f q s h : Nat) : List Mkw := (List.range h).flatMap fun (h : Nat) => [(⟨f, q, (s : Int) + 1, (h : Int) == 1⟩ : Mkw)].filter (okM p)
def mkC3 (p : Prs) (f q s : Nat) : List Mkw := (List.range s).flatMap fun s => mkD p f q s 2
def mkB (p : Prs) (f q : Nat) : List Mkw := (List.range q).flatMap fun q => mkC3 p f q p.sheets.toNat
def mkA (p : Prs) (f : Nat) : List Mkw := (List.range f).flatMap fun f => mkB p f p.pprs.length
def makesW (p : Prs) : List Mkw := mkA p p.fmts.length
theorem mkD_succ (p : Prs) (f q s h : Nat) : mkD p f q s (h + 1) = mkD p f q s h ++ [(⟨f, q, (s : Int) + 1, (h : Int) == 1⟩ : Mkw)].filter (okM p) := by simp [mkD, List.range_succ]
theorem mkC3_succ (p : Prs) (f q s : Nat) : mkC3 p f q (s + 1) = mkC3 p f q s ++ mkD p f q s 2 := by simp [mkC3, List.range_succ]
theorem mkB_succ (p : Prs) (f q : Nat) : mkB p f (q + 1) = mkB p f q ++ mkC3 p f q p.sheets.toNat := by simp [mkB, List.range_succ]
theorem mkA_succ (p : Prs) (f : Nat) : mkA p (f + 1) = mkA p f ++ mkB p f p.pprs.length := by simp [mkA, List.range_succ]
theorem flat_len_le {α : Type} (F : Nat → List α) (c : Nat) (h : ∀ k, (F k).length ≤ c) (n : Nat) : ((List.range n).flatMap F).length ≤ n * c := by
  induction n with
  | zero => simp
  | succ n ih =>
    rw [List.range_succ, List.flatMap_append, List.length_append, Nat.succ_mul]
    have e : ([n].flatMap F).length = (F n).length := by simp
    rw [e]
    have := h n
    omega
theorem mkD_len (p : Prs) (f q s h : Nat) : (mkD p f q s h).length ≤ h * 1 := flat_len_le _ _ (fun _ => by
  refine Nat.le_trans (List.length_filter_le _ _) ?_
  simp) h
theorem mkC3_len (p : Prs) (f q s : Nat) : (mkC3 p f q s).length ≤ s * 2 := flat_len_le _ _ (fun k => mkD_len p f q k 2) s
theorem mkB_len (p : Prs) (f q : Nat) (hs : p.sheets.toNat ≤ 4) : (mkB p f q).length ≤ q * 8 := flat_len_le _ _ (fun k => Nat.le_trans (mkC3_len p f k _) (by omega)) q
theorem mkA_len (p : Prs) (f : Nat) (hs : p.sheets.toNat ≤ 4) (hq : p.pprs.length ≤ 4) : (mkA p f).length ≤ f * 32 := flat_len_le _ _ (fun k => Nat.le_trans (mkB_len p k _ hs) (by omega)) f

/-- What lies in memory while the ways of making are gathered. -/
structure MkSt (w W : World) (cs : Array Value) (v : Value) (xs : List Mkw) : Prop where
  row : W.ownsRow (w.heap.size + 1) 38 4 v xs.length (mkCells xs)
  bel : Below w.heap.size w W
  box : W.heap[w.heap.size]? = some (.cells cs 25 (0, 0))
theorem MkSt.later {w W W' : World} {cs : Array Value} {v : Value} {xs : List Mkw} (h : MkSt w W cs v xs) (hb : Below W.heap.size W W') : MkSt w W' cs v xs :=
  ⟨row_later h.row hb, h.bel.trans (hb.mono h.bel.size), blk_later hb h.box⟩
theorem MkSt.add {w W W' : World} {cs : Array Value} {v v' : Value} {xs : List Mkw} {x : Mkw} (h : MkSt w W cs v xs)
    (hr : W'.ownsRow (w.heap.size + 1) 38 4 v' (xs.length + 1) (mkCells xs ++ mkC x)) (hg : W.grownBy W' v.ownBlock) : MkSt w W' cs v' (xs ++ [x]) := by
  have hbl : Below w.heap.size W W' := ((Below.refl _ W).mono h.bel.size).grown hg h.bel.size (fun k hk => by
    have := (h.row.lt k hk).1
    omega)
  refine ⟨?_, h.bel.trans hbl, (hg.block _ (blk_lt h.box) (fun e => by have := (h.row.lt _ e.symm).1; omega)).trans h.box⟩
  rw [List.length_append]
  simpa [mkCells] using hr

set_option maxRecDepth 100000 in
set_option maxHeartbeats 4000000 in
theorem refMakes2_any (p : Prs) (vp : Value) (w : World) (hp : PrsAt w.heap.size w vp p) (he : errP p = 0) :
    Calls Tryz.prog 60 #[vp] w fun e w' => (∃ v', e = .returned v' ∧ w'.ownsRow w.heap.size 38 4 v' (makesW p).length (mkCells (makesW p))) ∧ Below w.heap.size w w' := by
  obtain ⟨⟨f1, f2⟩, ⟨f3, f4⟩, ⟨f5, f6⟩, -⟩ := fine_press he
  have HP := Lib.hid hp
  have HE := Lib.hid he
  obtain ⟨fv, pv, rfl, ⟨a, cap, rfl, -⟩, ⟨a2, cap2, rfl, -⟩, -⟩ := hp
  obtain ⟨n1, hn1⟩ : ∃ n, n = p.fmts.length := ⟨_, rfl⟩
  obtain ⟨n2, hn2⟩ : ∃ n, n = p.pprs.length := ⟨_, rfl⟩
  obtain ⟨n3, hn3⟩ : ∃ n, n = p.sheets.toNat := ⟨_, rfl⟩
  obtain ⟨sh, hsh⟩ : ∃ s, s = p.sheets := ⟨_, rfl⟩
  have hs3 : sh = (n3 : Int) := by omega
  rw [← hn1] at f1 f2
  rw [← hn2] at f3 f4
  rw [← hsh] at f5 f6
  rw [← hn1, ← hn2, ← hsh] at HP ⊢
  have HN1 := Lib.hid hn1
  have HN2 := Lib.hid hn2
  have HN3 := Lib.hid hn3
  have HSH := Lib.hid hsh
  clear hn1 hn2 hn3 hsh he
  subst hs3
  obtain ⟨ei, hi1, hi2, hi3, hi4⟩ := elemMk
  have HI := Lib.hid (And.intro hi1 (And.intro hi2 (And.intro hi3 hi4)))
  clear hi1 hi2 hi3 hi4
  go_enter Tryz.func60, Tryz.ntmps60
  go_wp2_with fail
  have HS : Hid (MkSt w (w.alloc (.cells #[.slice a n1 cap, .slice a2 n2 cap2, .int .i64 p.trim, .int .i64 n3] 25)) #[.slice a n1 cap, .slice a2 n2 cap2, .int .i64 p.trim, .int .i64 n3] (.slice none 0 0) []) := Lib.hid ⟨World.ownsRow_nil _ _ _ _, (Below.refl _ w).alloc (Nat.le_refl _) _, World.alloc_heap_new _ _⟩
  go_loopw [3, 4] (fun v i wr => ∃ (f : Nat), f ≤ n1 ∧ i = .int .i64 f ∧ Hid (MkSt w wr #[.slice a n1 cap, .slice a2 n2 cap2, .int .i64 p.trim, .int .i64 n3] v (mkA p f))) (fun _ i _ => n1 - (intOf i).toNat)
  case atStart => exact ⟨0, by omega, rfl, HS⟩
  case round =>
    clear HS
    obtain ⟨f, hf, rfl, HS⟩ := hrel
    have c0 := blk_cell (HS).out.box 0
    have c1 := blk_cell (HS).out.box 1
    have c2 := blk_cell (HS).out.box 2
    have c3 := blk_cell (HS).out.box 3
    by_cases hlt : f < n1
    · go_wp2_with fail
      clear c0 c1 c2 c3
      go_loopw [3, 5] (fun v i wr => ∃ (q : Nat), q ≤ n2 ∧ i = .int .i64 q ∧ Hid (MkSt w wr #[.slice a n1 cap, .slice a2 n2 cap2, .int .i64 p.trim, .int .i64 n3] v (mkA p f ++ mkB p f q))) (fun _ i _ => n2 - (intOf i).toNat)
      case atStart => exact ⟨0, by omega, rfl, by have h := HS.out; show MkSt _ _ _ _ _; simpa [mkB] using h⟩
      case round =>
        clear HS
        obtain ⟨q, hq, rfl, HS⟩ := hrel
        have c0 := blk_cell (HS).out.box 0
        have c1 := blk_cell (HS).out.box 1
        have c2 := blk_cell (HS).out.box 2
        have c3 := blk_cell (HS).out.box 3
        by_cases hltq : q < n2
        · go_wp2_with fail
          clear c0 c1 c2 c3
          go_loopw [3, 6] (fun v i wr => ∃ (s : Nat), s ≤ n3 ∧ i = .int .i64 ((s : Int) + 1) ∧ Hid (MkSt w wr #[.slice a n1 cap, .slice a2 n2 cap2, .int .i64 p.trim, .int .i64 n3] v (mkA p f ++ mkB p f q ++ mkC3 p f q s))) (fun _ i _ => n3 + 1 - (intOf i).toNat)
          case atStart => exact ⟨0, by omega, by go_num, by have h := HS.out; show MkSt _ _ _ _ _; simpa [mkC3] using h⟩
          case round =>
            clear HS
            obtain ⟨s, hs, rfl, HS⟩ := hrel
            have c0 := blk_cell (HS).out.box 0
            have c1 := blk_cell (HS).out.box 1
            have c2 := blk_cell (HS).out.box 2
            have c3 := blk_cell (HS).out.box 3
            by_cases hlts : s < n3
            · have e9 : decide (((s : Int) + 1) ≤ (n3 : Int)) = true := decide_eq_true (by omega)
              go_wp2_with fail
              clear c0 c1 c2 c3
              go_loopw [3, 7] (fun v i wr => ∃ (h : Nat), h ≤ 2 ∧ i = .int .i64 h ∧ Hid (MkSt w wr #[.slice a n1 cap, .slice a2 n2 cap2, .int .i64 p.trim, .int .i64 n3] v (mkA p f ++ mkB p f q ++ mkC3 p f q s ++ mkD p f q s h))) (fun _ i _ => 2 - (intOf i).toNat)
              case atStart => exact ⟨0, by omega, rfl, by have h := HS.out; show MkSt _ _ _ _ _; simpa [mkD] using h⟩
              case round =>
                clear HS
                obtain ⟨h, hh, rfl, HS⟩ := hrel
                by_cases hlth : h < 2
                · have hl1 := mkA_len p f (by rw [← HN3.out]; omega) (by rw [← HN2.out]; omega)
                  have hl2 := mkB_len p f q (by rw [← HN3.out]; omega)
                  have hl3 := mkC3_len p f q s
                  have hl4 := mkD_len p f q s h
                  have hxl : (mkA p f ++ mkB p f q ++ mkC3 p f q s ++ mkD p f q s h).length ≤ 1000 := by
                    simp only [List.length_append]; omega
                  clear hl1 hl2 hl3 hl4
                  have hD := mkD_succ p f q s h
                  have c0 := blk_cell (HS).out.box 0
                  have c1 := blk_cell (HS).out.box 1
                  have c2 := blk_cell (HS).out.box 2
                  have c3 := blk_cell (HS).out.box 3
                  have hz9 := blk_lt HS.out.box
                  obtain ⟨B, hB⟩ : ∃ B, ((h : Int) == 1) = B := ⟨_, rfl⟩
                  rw [hB] at hD
                  have HDS : Hid (mkD p f q s (h + 1) = mkD p f q s h ++ [(⟨f, q, (s : Int) + 1, B⟩ : Mkw)].filter (okM p)) := Lib.hid hD
                  clear hD
                  obtain ⟨xs1, hxs1⟩ : ∃ xs1, xs1 = mkA p f ++ mkB p f q ++ mkC3 p f q s ++ mkD p f q s h := ⟨_, rfl⟩
                  rw [← hxs1] at HS hxl
                  have HXS := Lib.hid hxs1
                  clear hxs1
                  have HS1 := Lib.hid (HS.out.later ((Below.refl _ _).alloc (Nat.le_refl _) (.cells #[.int .i64 f, .int .i64 q, .int .i64 ((s : Int) + 1), .bool B] 38)))
                  have HBM : Hid ((wr.alloc (.cells #[.int .i64 f, .int .i64 q, .int .i64 ((s : Int) + 1), .bool B] 38)).heap[wr.heap.size]? = some (.cells #[.int .i64 f, .int .i64 q, .int .i64 ((s : Int) + 1), .bool B] 38 (0, 0))) := Lib.hid (World.alloc_heap_new _ _)
                  clear HS
                  go_wp2_with fail
                  revert HS1 HBM
                  generalize (wr.alloc (.cells #[.int .i64 f, .int .i64 q, .int .i64 ((s : Int) + 1), .bool B] 38)) = w1
                  intro HS1 HBM
                  refine (refMake2_any p ⟨f, q, (s : Int) + 1, B⟩ _ _ (HP.out.later HS1.out.bel) HE.out).mono ?_
                  rintro e w2 ⟨rfl, hb⟩
                  obtain ⟨z, hz⟩ : ∃ z, z = mkwErr p ⟨f, q, (s : Int) + 1, B⟩ := ⟨_, rfl⟩
                  rw [← hz]
                  have HS2 := Lib.hid (HS1.out.later hb)
                  have bm := blk_later hb HBM.out
                  have q0 := blk_cell bm 0
                  have q1 := blk_cell bm 1
                  have q2 := blk_cell bm 2
                  have q3 := blk_cell bm 3
                  clear hb HS1 HBM bm c0 c1 c2 c3
                  by_cases hz0 : z = 0
                  · have HF : Hid (mkA p f ++ mkB p f q ++ mkC3 p f q s ++ mkD p f q s (h + 1) = xs1 ++ [(⟨f, q, (s : Int) + 1, B⟩ : Mkw)]) := Lib.hid (by
                      rw [HDS.out, HXS.out, List.filter_cons_of_pos (by unfold okM; rw [← hz, hz0]; rfl), List.filter_nil, List.append_assoc _ (mkD p f q s h)])
                    have e0 : (z == 0) = true := by simp [hz0]
                    clear hz hz0
                    obtain ⟨hi1, hi2, hi3, hi4⟩ := HI.out
                    have hz8 := blk_lt HS2.out.box
                    go_wp2_with (at_builtin; refine wpList_append_own _ rfl _ _ 96 rfl (w.heap.size + 1) 38 ei _ 4 32 undMks hi1 hi2 hi3 hi4 rfl (by decide) _ xs1.length (mkCells xs1) rfl (HS2.out.row.alloc _) ⟨w2.heap.size, 0, none⟩ 1 1 (mkC ⟨f, q, (s : Int) + 1, B⟩) rfl rfl ?a1 ?b1 ?c1 ?d1 ?e1 ?f1)
                    case a1 =>
                      intro j u hju
                      rw [add_offi]
                      unfold World.cell?
                      rw [World.alloc_heap_new]
                      simpa using hju
                    case b1 => intro u hu; simp at hu; rcases hu with rfl | rfl | rfl | rfl <;> rfl
                    case c1 => simp only [maxLen]; omega
                    case d1 => omega
                    case e1 => (first | omega | (simp; omega))
                    case f1 =>
                      rintro v' w7 hown hgrow -
                      have HS3 := HS2.out.later ((Below.refl _ w2).alloc (Nat.le_refl _) (.cells #[.int .i64 f, .int .i64 q, .int .i64 ((s : Int) + 1), .bool B] 38))
                      have HS4 := Lib.hid (HS3.add (x := (⟨f, q, (s : Int) + 1, B⟩ : Mkw)) hown hgrow)
                      clear hown hgrow HS3 hi1 hi2 hi3 hi4 q0 q1 q2 q3
                      go_wp2_with fail
                      go_roundw
                      case rel => exact ⟨h + 1, by omega, by go_num, (by show MkSt w _ _ _ (mkA p f ++ mkB p f q ++ mkC3 p f q s ++ mkD p f q s (h + 1)); rw [HF.out]; exact HS4.out)⟩
                      case measure => simp [intOf]; omega
                  · have HF : Hid (mkA p f ++ mkB p f q ++ mkC3 p f q s ++ mkD p f q s (h + 1) = xs1) := Lib.hid (by
                      rw [HDS.out, HXS.out, List.filter_cons_of_neg (by unfold okM; rw [← hz]; simpa using hz0), List.filter_nil, List.append_nil])
                    have e0 : (z == 0) = false := by simp [hz0]
                    clear hz hz0
                    go_wp2_with fail
                    go_roundw
                    case rel => exact ⟨h + 1, by omega, by go_num, (by show MkSt w _ _ _ (mkA p f ++ mkB p f q ++ mkC3 p f q s ++ mkD p f q s (h + 1)); rw [HF.out]; exact HS2.out)⟩
                    case measure => simp [intOf]; omega
                · obtain rfl : h = 2 := by omega
                  go_wp2_with fail
                  go_roundw
                  case rel => exact ⟨s + 1, by omega, by go_num, by have h := HS.out; show MkSt _ _ _ _ _; rw [mkC3_succ, ← List.append_assoc]; exact h⟩
                  case measure => simp [intOf]; omega
            · obtain rfl : s = n3 := by omega
              have e9 : decide (((s : Int) + 1) ≤ (s : Int)) = false := decide_eq_false (by omega)
              go_wp2_with fail
              go_roundw
              case rel => exact ⟨q + 1, by omega, by go_num, by have h := HS.out; show MkSt _ _ _ _ _; rw [mkB_succ, ← List.append_assoc, ← HN3.out]; exact h⟩
              case measure => simp [intOf]; omega
        · obtain rfl : q = n2 := by omega
          go_wp2_with fail
          go_roundw
          case rel => exact ⟨f + 1, by omega, by go_num, by have h := HS.out; show MkSt _ _ _ _ _; rw [mkA_succ, ← HN2.out]; exact h⟩
          case measure => simp [intOf]; omega
    · obtain rfl : f = n1 := by omega
      go_wp2_with fail
      go_ret
      exact ⟨⟨_, rfl, by unfold makesW; rw [← HN1.out]; exact row_mono HS.out.row (by omega)⟩, HS.out.bel⟩
end Go.Proofs.YtielaaaeecfkoaaGreatDoor

/- The law's way of making, by a number. -/
namespace Go.Proofs.YtielaaaeecfkoaaGreatDoor
set_option linter.unusedSimpArgs false
set_option linter.unusedVariables false
open Go Go.RowKit Go.Sort Go.BigFrame

theorem mk_at : ∀ (ms : List Mkw) (i : Nat) (m : Mkw), ms[i]? = some m → ∀ c, c < 4 → (mkCells ms)[i * 4 + c]? = (mkC m)[c]?
  | [], _, _, h, _, _ => by simp at h
  | y :: ys, 0, m, h, c, hc => by
    obtain rfl : y = m := by simpa using h
    unfold mkCells
    rw [List.flatMap_cons, List.getElem?_append_left (by simp; omega), Nat.zero_mul, Nat.zero_add]
  | y :: ys, i + 1, m, h, c, hc => by
    unfold mkCells
    rw [List.flatMap_cons, List.getElem?_append_right (by simp; omega)]
    have := mk_at ys i m (by simpa using h) c hc
    rw [← this]
    unfold mkCells
    congr 1
    simp
    omega
theorem makesW_ok {p : Prs} {m : Mkw} (h : m ∈ makesW p) : mkwErr p m = 0 := by
  unfold makesW mkA mkB mkC3 mkD at h
  simp only [List.mem_flatMap, List.mem_filter] at h
  obtain ⟨_, -, _, -, _, -, _, -, -, h⟩ := h
  simpa [okM] using h
theorem makesW_ne {p : Prs} (h1 : 1 ≤ p.fmts.length) (h2 : 1 ≤ p.pprs.length) (h3 : 1 ≤ p.sheets) : makesW p ≠ [] := by
  have : (⟨(0 : Nat), (0 : Nat), ((0 : Nat) : Int) + 1, ((0 : Nat) : Int) == 1⟩ : Mkw) ∈ makesW p := by
    unfold makesW mkA mkB mkC3 mkD
    simp only [List.mem_flatMap, List.mem_filter, List.mem_range]
    refine ⟨0, by omega, 0, by omega, 0, by omega, 0, by omega, List.mem_singleton.2 rfl, ?_⟩
    unfold okM mkwErr
    have e1 : inI 0 ((p.fmts.length : Int) - 1) 0 = true := by simp [inI]; omega
    have e2 : inI 0 ((p.pprs.length : Int) - 1) 0 = true := by simp [inI]; omega
    have e3 : inI 1 p.sheets 1 = true := by simp [inI]; omega
    simp [e1, e2, e3]
  intro e
  rw [e] at this
  cases this
theorem makesW_len {p : Prs} (h1 : p.fmts.length ≤ 6) (h2 : p.pprs.length ≤ 4) (h3 : p.sheets ≤ 4) : (makesW p).length ≤ 192 := by
  have := mkA_len p p.fmts.length (by omega) h2
  unfold makesW
  omega

set_option maxRecDepth 100000 in
set_option maxHeartbeats 2000000 in
theorem Made2_any (p : Prs) (vp : Value) (n : Nat) (w : World) (hp : PrsAt w.heap.size w vp p) (he : errP p = 0) (hn : n < 65536) :
    Calls Tryz.prog 25 #[vp, .int .i64 n] w fun e w' => (∃ m, e = .returned (mkwV m) ∧ mkwErr p m = 0) ∧ Below w.heap.size w w' := by
  obtain ⟨⟨f1, f2⟩, ⟨f3, f4⟩, ⟨f5, f6⟩, -⟩ := fine_press he
  have hne := makesW_ne f1 f3 f5
  have hln := makesW_len f2 f4 f6
  have HP := Lib.hid hp
  have HE := Lib.hid he
  obtain ⟨fv, pv, rfl, ⟨a, cap, rfl, -⟩, ⟨a2, cap2, rfl, -⟩, -⟩ := hp
  obtain ⟨n1, hn1⟩ : ∃ n, n = p.fmts.length := ⟨_, rfl⟩
  obtain ⟨n2, hn2⟩ : ∃ n, n = p.pprs.length := ⟨_, rfl⟩
  rw [← hn1, ← hn2] at HP ⊢
  clear hn1 hn2 he f1 f2 f3 f4 f5 f6
  obtain ⟨k, hk⟩ : ∃ k, (makesW p).length = k + 1 := ⟨(makesW p).length - 1, by cases h : makesW p with | nil => exact absurd h hne | cons _ _ => simp⟩
  rw [hk] at hln
  have HK := Lib.hid hk
  have hlt : n % (k + 1) < k + 1 := Nat.mod_lt _ (by omega)
  obtain ⟨m, hm⟩ : ∃ m, (makesW p)[n % (k + 1)]? = some m := ⟨_, List.getElem?_eq_getElem (by rw [hk]; exact hlt)⟩
  have HM := Lib.hid hm
  clear hk hm hne
  go_enter Tryz.func25, Tryz.ntmps25
  go_wp2_with fail
  have hp0 : Below w.heap.size w ((w.alloc (.cells #[.slice a n1 cap, .slice a2 n2 cap2, .int .i64 p.trim, .int .i64 p.sheets] 25)).alloc (.cells #[.int .i64 0, .int .i64 0, .int .i64 0, .bool false] 38)) := by exact (by repeat (first | exact Below.refl _ _ | assumption | (refine Below.alloc ?_ ?_ _; rotate_left; · (first | omega | (simp; done) | (simp; omega) | fail)) | (refine Below.setCell ?_ ?_ _; rotate_left; · (first | omega | (simp; done) | (simp; omega) | fail)) | refine Below.drew ?_ | fail))
  have bR : ((w.alloc (.cells #[.slice a n1 cap, .slice a2 n2 cap2, .int .i64 p.trim, .int .i64 p.sheets] 25)).alloc (.cells #[.int .i64 0, .int .i64 0, .int .i64 0, .bool false] 38)).heap[w.heap.size + 1]? = some (.cells #[.int .i64 0, .int .i64 0, .int .i64 0, .bool false] 38 (0, 0)) := by exact (by repeat (first | exact heap_alloc_at _ _ _ (by (first | omega | (simp; done) | (simp; omega) | (simp at *; omega) | fail)) | assumption | rw [heap_alloc_past _ _ _ (by (first | omega | (simp; done) | (simp; omega) | (simp at *; omega) | fail))] | rw [heap_setCell_past _ _ _ _ (by (first | omega | (simp; done) | (simp; omega) | (simp at *; omega) | fail))] | fail))
  refine (refMakes2_any p _ _ (HP.out.later hp0) HE.out).mono ?_
  rintro e w2 ⟨⟨v', rfl, hr⟩, hb⟩
  rw [HK.out] at hr
  have HR := Lib.hid hr
  rcases hr.2 with ⟨rfl, h0⟩ | ⟨g, cap', cur, rfl, hgb, hg, rest⟩
  · exact absurd h0 (by omega)
  have hc := HR.out.cells (g := g) (by simp [Value.ownBlock])
  have key : ∀ c u, c < 4 → (mkC m)[c]? = some u → w2.cell? ⟨g, n % (k + 1) * 4 + c, none⟩ = some u := fun c u hc4 hu => by
    have := hc (n % (k + 1) * 4 + c) u (by rw [mk_at _ _ _ HM.out c hc4]; exact hu)
    rwa [add_offi] at this
  have q0 : w2.cell? ⟨g, n % (k + 1) * 4, none⟩ = some (.int .i64 m.fmt) := key 0 _ (by omega) rfl
  have q1 := key 1 _ (by omega) rfl
  have q2 := key 2 _ (by omega) rfl
  have q3 := key 3 _ (by omega) rfl
  have bR := blk_later hb bR
  have d0 := blk_cell bR 0
  have d1 := blk_cell bR 1
  have d2 := blk_cell bR 2
  have d3 := blk_cell bR 3
  have z0 := blk_free bR 0
  have z1 := blk_free bR 1
  have z2 := blk_free bR 2
  have z3 := blk_free bR 3
  have hb2 := hp0.trans (hb.mono hp0.size)
  have hsz := blk_lt bR
  clear key hc rest hg hb hp0 hr hgb
  have i1 : (n : Int) % ((k : Int) + 1) < (k : Int) + 1 := Int.emod_lt_of_pos _ (by omega)
  have i2 : 0 ≤ (n : Int) % ((k : Int) + 1) := Int.emod_nonneg _ (by omega)
  go_wp2_with fail
  have hb3 : Below w.heap.size w ((((w2.setCell ⟨w.heap.size + 1, 0, none⟩ (.int .i64 m.fmt)).setCell ⟨w.heap.size + 1, 1, none⟩ (.int .i64 m.ppr)).setCell ⟨w.heap.size + 1, 2, none⟩ (.int .i64 m.sheets)).setCell ⟨w.heap.size + 1, 3, none⟩ (.bool m.half)) := by exact (by repeat (first | (refine Below.setCell ?_ ?_ _; rotate_left; · (first | omega | (simp; done) | (simp; omega) | fail)) | (refine Below.alloc ?_ ?_ _; rotate_left; · (first | omega | (simp; done) | (simp; omega) | fail)) | refine Below.drew ?_ | exact hb2 | fail))
  have c3 : ((((w2.setCell ⟨w.heap.size + 1, 0, none⟩ (.int .i64 m.fmt)).setCell ⟨w.heap.size + 1, 1, none⟩ (.int .i64 m.ppr)).setCell ⟨w.heap.size + 1, 2, none⟩ (.int .i64 m.sheets)).setCell ⟨w.heap.size + 1, 3, none⟩ (.bool m.half)).heap[w.heap.size + 1]? = some (.cells #[.int .i64 m.fmt, .int .i64 m.ppr, .int .i64 m.sheets, .bool m.half] 38 (0, 0)) := by
    simpa using blk_set (blk_set (blk_set (blk_set bR 0 (.int .i64 m.fmt)) 1 (.int .i64 m.ppr)) 2 (.int .i64 m.sheets)) 3 (.bool m.half)
  have e0 := blk_cell c3 0
  have e1 := blk_cell c3 1
  have e2 := blk_cell c3 2
  have e3 := blk_cell c3 3
  revert hb3 c3 e0 e1 e2 e3
  generalize ((((w2.setCell ⟨w.heap.size + 1, 0, none⟩ (.int .i64 m.fmt)).setCell ⟨w.heap.size + 1, 1, none⟩ (.int .i64 m.ppr)).setCell ⟨w.heap.size + 1, 2, none⟩ (.int .i64 m.sheets)).setCell ⟨w.heap.size + 1, 3, none⟩ (.bool m.half)) = w4
  intro hb3 c3 e0 e1 e2 e3
  exact bodyPost_ret (v := mkwV m) (by simp [results, Tryz.results25, go_sem, e0, e1, e2, e3]) rfl ⟨⟨m, rfl, makesW_ok (List.mem_of_getElem? HM.out)⟩, hb3⟩
end Go.Proofs.YtielaaaeecfkoaaGreatDoor

/- The law's valid. -/
namespace Go.Proofs.YtielaaaeecfkoaaGreatDoor
set_option linter.unusedSimpArgs false
set_option linter.unusedVariables false
open Go Go.RowKit Go.Sort Go.BigFrame

set_option maxRecDepth 100000 in
set_option maxHeartbeats 1000000 in
theorem valid2_any (p : Prs) (vp : Value) (w : World) (hp : PrsAt w.heap.size w vp p) :
    Calls Tryz.prog 24 #[vp] w fun e w' => e = .returned (.bool (errP p == 0)) ∧ Below w.heap.size w w' := by
  have HP := Lib.hid hp
  obtain ⟨fv, pv, rfl, ⟨a, cap, rfl, -⟩, ⟨a2, cap2, rfl, -⟩, -⟩ := hp
  obtain ⟨n1, hn1⟩ : ∃ n, n = p.fmts.length := ⟨_, rfl⟩
  obtain ⟨n2, hn2⟩ : ∃ n, n = p.pprs.length := ⟨_, rfl⟩
  rw [← hn1, ← hn2] at HP ⊢
  clear hn1 hn2
  obtain ⟨z, hz⟩ : ∃ z, z = errP p := ⟨_, rfl⟩
  rw [← hz]
  have HZ := Lib.hid hz
  clear hz
  go_enter Tryz.func24, Tryz.ntmps24
  go_wp2_with fail
  have hp0 : Below w.heap.size w (w.alloc (.cells #[.slice a n1 cap, .slice a2 n2 cap2, .int .i64 p.trim, .int .i64 p.sheets] 25)) := by exact (by repeat (first | exact Below.refl _ _ | assumption | (refine Below.alloc ?_ ?_ _; rotate_left; · (first | omega | (simp; done) | (simp; omega) | fail)) | (refine Below.setCell ?_ ?_ _; rotate_left; · (first | omega | (simp; done) | (simp; omega) | fail)) | refine Below.drew ?_ | fail))
  refine (refCheck2_any p _ _ (HP.out.later hp0)).mono ?_
  rintro e w2 ⟨rfl, hb⟩
  rw [show (checkP p).2.2 = z from HZ.out.symm]
  have hb2 := hp0.trans (hb.mono hp0.size)
  clear hb hp0
  go_wp2_with fail
  go_ret
  exact ⟨rfl, hb2⟩
end Go.Proofs.YtielaaaeecfkoaaGreatDoor

/- What is known of a way of making without an error: its folds, its sheets, its leaves. -/
namespace Go.Proofs.YtielaaaeecfkoaaGreatDoor
set_option linter.unusedSimpArgs false
set_option linter.unusedVariables false
open Go Go.RowKit Go.Sort Go.BigFrame

theorem count_max : ∀ f ∈ allFolds, ∀ n ∈ [1, 2, 3, 4], 1 ≤ colsF f * rowsF f * n ∧ colsF f * rowsF f * n ≤ 64 := by decide +kernel
theorem count_half : ∀ f ∈ allFolds, 2 ≤ f.length → 2 ≤ colsF f * rowsF f ∧ colsF f * rowsF f ≤ 64 := by decide +kernel
structure Fine (p : Prs) (m : Mkw) (f : Fmt) : Prop where
  len1 : 1 ≤ f.folds.length
  len4 : f.folds.length ≤ 4
  back : bytesF (fdsB f.folds) = f.folds
  sh1 : 1 ≤ m.sheets.toNat
  sh4 : m.sheets.toNat ≤ 4
  half : m.half = true → m.sheets.toNat = 1 ∧ 2 ≤ f.folds.length
theorem fine_at {p : Prs} {m : Mkw} (he : errP p = 0) (hm : mkwErr p m = 0) : 0 ≤ m.fmt ∧ m.fmt.toNat < p.fmts.length ∧ 0 ≤ m.ppr ∧ m.ppr.toNat < p.pprs.length := by
  unfold mkwErr at hm
  split at hm
  · cases hm
  · rename_i h1
    have h1 : (inI 0 (p.fmts.length - 1) m.fmt && inI 0 (p.pprs.length - 1) m.ppr) = true := by simpa using h1
    simp only [inI, Bool.and_eq_true, decide_eq_true_eq] at h1
    omega
theorem fine_of {p : Prs} {m : Mkw} {f : Fmt} (he : errP p = 0) (hm : mkwErr p m = 0) (hf : p.fmts[m.fmt.toNat]? = some f) : Fine p m f := by
  obtain ⟨-, -, ⟨h5, h6⟩, hff⟩ := fine_press he
  obtain ⟨l1, l2, l3⟩ := fds_of_err (hff f (List.mem_of_getElem? hf))
  unfold mkwErr at hm
  split at hm
  · cases hm
  · split at hm
    · cases hm
    · rename_i h2
      split at hm
      · cases hm
      · rename_i h3
        have h2 : inI 1 p.sheets m.sheets = true := by simpa using h2
        simp only [inI, Bool.and_eq_true, decide_eq_true_eq] at h2
        refine ⟨l1, l2, bytes_back l3, by omega, by omega, fun hh => ?_⟩
        have hs : m.sheets = 1 := Classical.byContradiction fun h => h3 ⟨hh, Or.inl h⟩
        refine ⟨by omega, ?_⟩
        have : ¬ f.folds.length = 1 := fun h => h3 ⟨hh, Or.inr fun f' hf' => by rw [hf] at hf'; cases hf'; exact h⟩
        omega
/-- The leaves of a way of making. -/
abbrev leavesW (m : Mkw) (f : Fmt) : List Fl := leavesF (fdsB f.folds) m.sheets.toNat m.half
theorem Fine.mem {p : Prs} {m : Mkw} {f : Fmt} (h : Fine p m f) : fdsB f.folds ∈ allFolds ∧ m.sheets.toNat ∈ [1, 2, 3, 4] := by
  have h1 := h.sh1
  have h2 := h.sh4
  refine ⟨allFolds_mem (by unfold fdsB; simpa using h.len1) (by unfold fdsB; simpa using h.len4), ?_⟩
  simp
  omega
theorem Fine.two {p : Prs} {m : Mkw} {f : Fmt} (h : Fine p m f) (hh : m.half = true) : m.sheets.toNat = 1 ∧ 2 ≤ (fdsB f.folds).length := by
  have := h.half hh
  exact ⟨this.1, by unfold fdsB; simpa using this.2⟩
theorem Fine.count {p : Prs} {m : Mkw} {f : Fmt} (h : Fine p m f) : 1 ≤ (leavesW m f).length ∧ (leavesW m f).length ≤ 64 := by
  obtain ⟨h1, h2⟩ := h.mem
  unfold leavesW
  cases hh : m.half with
  | false =>
    rw [leaves_count _ h1 _ h2]
    exact count_max _ h1 _ h2
  | true =>
    obtain ⟨h3, h4⟩ := h.two hh
    rw [h3]
    have a := leaves_count_half _ h1 h4
    have b := count_half _ h1 h4
    omega
theorem Fine.conj {p : Prs} {m : Mkw} {f : Fmt} (h : Fine p m f) : conjB (fdsB f.folds) (leavesW m f) = true := by
  obtain ⟨h1, h2⟩ := h.mem
  unfold leavesW
  cases hh : m.half with
  | false => exact conj_all _ h1 _ h2
  | true =>
    obtain ⟨h3, h4⟩ := h.two hh
    rw [h3]
    exact conj_half _ h1 h4
theorem Fine.places {p : Prs} {m : Mkw} {f : Fmt} (h : Fine p m f) : placesB (leavesW m f) = true := by
  obtain ⟨h1, h2⟩ := h.mem
  unfold leavesW
  cases hh : m.half with
  | false => exact places_all _ h1 _ h2
  | true =>
    obtain ⟨h3, h4⟩ := h.two hh
    rw [h3]
    exact places_half _ h1 h4
theorem Fine.same {p : Prs} {m : Mkw} {f : Fmt} (h : Fine p m f) : leavesW m f = allR (fdsB f.folds) m.sheets.toNat m.half :=
  leaves_is (by unfold fdsB; simpa using h.len1) (by unfold fdsB; simpa using h.len4) h.sh1 h.sh4 (fun hh => h.two hh)
/-- The conjugate of a leaf: another one of its sheet. -/
theorem conj_is {f : Fds} {l : List Fl} (h : conjB f l = true) {i : Nat} (hi : i < l.length) : ∃ a b, l[i]? = some a ∧ l[l.length - 1 - i]? = some b ∧ a.sheet = b.sheet ∧ (if lastF f then a.row = b.row ∧ (a.col = b.col + 1 ∨ b.col = a.col + 1) else a.col = b.col ∧ (a.row = b.row + 1 ∨ b.row = a.row + 1)) ∧ a.turned = b.turned ∧ a.inner ≠ b.inner := by
  have h1 := List.all_eq_true.1 h i (List.mem_range.2 hi)
  obtain ⟨a, ha⟩ : ∃ a, l[i]? = some a := ⟨_, List.getElem?_eq_getElem hi⟩
  obtain ⟨b, hb⟩ : ∃ b, l[l.length - 1 - i]? = some b := ⟨_, List.getElem?_eq_getElem (by omega)⟩
  rw [ha, hb] at h1
  refine ⟨a, b, ha, hb, ?_⟩
  cases hl : lastF f <;> simp [hl] at h1 ⊢ <;> obtain ⟨⟨⟨x1, x2⟩, x3⟩, x4⟩ := h1 <;> refine ⟨x1, ?_, x3, x4⟩ <;> simpa using x2
theorem conj_mate {f : Fds} {l : List Fl} (h : conjB f l = true) {i : Nat} (hi : i < l.length) : l.length - 1 - i ∈ matesF l i := by
  obtain ⟨a, b, ha, hb, h1, -, -, h4⟩ := conj_is h hi
  unfold matesF
  refine List.mem_filter.2 ⟨List.mem_range.2 (by omega), ?_⟩
  rw [ha, hb]
  have : b ≠ a := fun e => h4 (by rw [e])
  simp [h1, this]
/-- The last byte of folds. -/
theorem last_byte {s : Bs} (h : bytesF (fdsB s) = s) {M : Nat} (hM : s.length = M + 1) : s[M]? = some (if lastF (fdsB s) then 120 else 121) := by
  have e : lastF (fdsB s) = ((fdsB s)[M]?).getD false := by
    unfold lastF
    rw [List.getLastD_eq_getLast?, List.getLast?_eq_getElem?]
    have : (fdsB s).length = M + 1 := by unfold fdsB; simpa using hM
    rw [this]; rfl
  conv => lhs; rw [← h]
  unfold bytesF
  rw [List.getElem?_map]
  obtain ⟨b, hb⟩ : ∃ b, (fdsB s)[M]? = some b := ⟨_, List.getElem?_eq_getElem (by unfold fdsB; simp; omega)⟩
  rw [hb] at e ⊢
  simp only [Option.getD_some] at e
  rw [e]
  rfl
end Go.Proofs.YtielaaaeecfkoaaGreatDoor
