/- The parts Tk, Tl, Tm, Tn, Hd, Ya of the proof, joined. It holds without conditions of its own. -/
import Derived.Test.YtnhacghjoikgpaaGreatDoorFX11
import Derived.Test.YtnhacghjoikgpaaGreatDoorFX9
import Derived.Test.YtnhacghjoikgpaaGreatDoorFX3
import Derived.Test.YtnhacghjoikgpaaGreatDoorFX4
/- The reference: the error of a way of making. -/
namespace Go.Proofs.YtnhacghjoikgpaaGreatDoor
set_option linter.unusedSimpArgs false
set_option linter.unusedVariables false
open Go Go.RowKit Go.Sort Go.BigFrame

set_option maxRecDepth 100000 in
set_option maxHeartbeats 1000000 in
theorem refMake2_any (p : Prs) (m : Mkw) (vp : Value) (w : World) (hp : PrsAt w.heap.size w vp p) (he : errP p = 0) :
    Calls Tryz.prog 70 #[vp, mkwV m] w fun e w' => e = .returned (.int .i64 (mkwErr p m)) ∧ Below w.heap.size w w' := by
  obtain ⟨⟨f1, f2⟩, ⟨f3, f4⟩, ⟨f5, f6⟩, hff⟩ := fine_press he
  have HP := Lib.hid hp
  have HE := Lib.hid he
  obtain ⟨fv, pv, rfl, ⟨a, cap, rfl, hfc⟩, ⟨a2, cap2, rfl, -⟩, -⟩ := hp
  obtain ⟨n1, hn1⟩ : ∃ n, n = p.fmts.length := ⟨_, rfl⟩
  obtain ⟨n2, hn2⟩ : ∃ n, n = p.pprs.length := ⟨_, rfl⟩
  have hz0 : ∃ z, z = mkwErr p m := ⟨_, rfl⟩
  obtain ⟨z, hz⟩ := hz0
  rw [← hz]
  unfold mkwErr at hz
  rw [← hn1, ← hn2] at hz
  rw [← hn1] at f1 f2
  rw [← hn2] at f3 f4
  obtain ⟨fm, pp, sh, hf⟩ := m
  dsimp only at hz ⊢
  rw [← hn1, ← hn2]
  have HZ := Lib.hid hz
  have HN1 := Lib.hid hn1
  have HFC := Lib.hid hfc
  have HFF := Lib.hid hff
  have hn1v := hn1.symm
  have hn2v := hn2.symm
  clear hz hn1 hn2 hfc hff he
  rw [hn1v, hn2v] at HP
  clear hn1v hn2v
  go_enter Tryz.func70, Tryz.ntmps70
  go_wp2_with fail
  have hp0 : Below w.heap.size w ((w.alloc (.cells #[.slice a n1 cap, .slice a2 n2 cap2, .int .i64 p.trim, .int .i64 p.sheets] 25)).alloc (.cells #[.int .i64 fm, .int .i64 pp, .int .i64 sh, .bool hf] 50)) := by exact (by repeat (first | exact Below.refl _ _ | assumption | (refine Below.alloc ?_ ?_ _; rotate_left; · (first | omega | (simp; done) | (simp; omega) | fail)) | (refine Below.setCell ?_ ?_ _; rotate_left; · (first | omega | (simp; done) | (simp; omega) | fail)) | refine Below.drew ?_ | fail))
  have b1 : ((w.alloc (.cells #[.slice a n1 cap, .slice a2 n2 cap2, .int .i64 p.trim, .int .i64 p.sheets] 25)).alloc (.cells #[.int .i64 fm, .int .i64 pp, .int .i64 sh, .bool hf] 50)).heap[w.heap.size]? = some (.cells #[.slice a n1 cap, .slice a2 n2 cap2, .int .i64 p.trim, .int .i64 p.sheets] 25 (0, 0)) := by exact (by repeat (first | exact heap_alloc_at _ _ _ (by (first | omega | (simp; done) | (simp; omega) | (simp at *; omega) | fail)) | assumption | rw [heap_alloc_past _ _ _ (by (first | omega | (simp; done) | (simp; omega) | (simp at *; omega) | fail))] | rw [heap_setCell_past _ _ _ _ (by (first | omega | (simp; done) | (simp; omega) | (simp at *; omega) | fail))] | fail))
  have b2 : ((w.alloc (.cells #[.slice a n1 cap, .slice a2 n2 cap2, .int .i64 p.trim, .int .i64 p.sheets] 25)).alloc (.cells #[.int .i64 fm, .int .i64 pp, .int .i64 sh, .bool hf] 50)).heap[w.heap.size + 1]? = some (.cells #[.int .i64 fm, .int .i64 pp, .int .i64 sh, .bool hf] 50 (0, 0)) := by exact (by repeat (first | exact heap_alloc_at _ _ _ (by (first | omega | (simp; done) | (simp; omega) | (simp at *; omega) | fail)) | assumption | rw [heap_alloc_past _ _ _ (by (first | omega | (simp; done) | (simp; omega) | (simp at *; omega) | fail))] | rw [heap_setCell_past _ _ _ _ (by (first | omega | (simp; done) | (simp; omega) | (simp at *; omega) | fail))] | fail))
  refine (refCheck2_any p _ _ (HP.out.later hp0)).mono ?_
  rintro e w2 ⟨rfl, hb⟩
  obtain ⟨⟨y1, y2, y3⟩, hy⟩ : ∃ y, y = checkP p := ⟨_, rfl⟩
  rw [← hy]
  have hy3 : y3 = 0 := by have := HE.out; unfold errP at this; rw [← hy] at this; exact this
  subst hy3
  replace b1 := blk_later hb b1
  replace b2 := blk_later hb b2
  have HB := Lib.hid (hp0.trans (hb.mono hp0.size))
  clear hb hp0 hy
  have p0 := blk_cell b1 0
  have p1 := blk_cell b1 1
  have p2 := blk_cell b1 2
  have p3 := blk_cell b1 3
  have m0 := blk_cell b2 0
  have m1 := blk_cell b2 1
  have m2 := blk_cell b2 2
  have m3 := blk_cell b2 3
  obtain ⟨h1, hh⟩ : ∃ x, x = inI 0 (n1 - 1 : Int) fm := ⟨_, rfl⟩
  have Hh1 := Lib.hid hh
  clear hh
  go_wp2_with fail
  refine (in2_is fm 0 (n1 - 1 : Int) h1 Hh1.out _).mono ?_
  rintro e w3 ⟨rfl, hb⟩
  replace b1 := blk_later hb b1
  replace b2 := blk_later hb b2
  replace HB := Lib.hid (HB.out.trans (hb.mono HB.out.size))
  clear hb p0 p1 p2 p3 m0 m1 m2 m3
  have p0 := blk_cell b1 0
  have p1 := blk_cell b1 1
  have p2 := blk_cell b1 2
  have p3 := blk_cell b1 3
  have m0 := blk_cell b2 0
  have m1 := blk_cell b2 1
  have m2 := blk_cell b2 2
  have m3 := blk_cell b2 3
  cases h1 with
  | false =>
    have HF : Hid (z = 4) := Lib.hid (by rw [HZ.out, ← Hh1.out]; rfl)
    go_wp2_with fail
    go_ret
    exact ⟨by rw [(HF).out]; rfl, HB.out⟩
  | true =>
    have h1 : inI 0 (n1 - 1) fm = true := Hh1.out.symm
    obtain ⟨i, rfl⟩ : ∃ i : Nat, fm = i := ⟨fm.toNat, by simp only [inI, Bool.and_eq_true, decide_eq_true_eq] at h1; omega⟩
    have hi : i < n1 := by simp only [inI, Bool.and_eq_true, decide_eq_true_eq] at h1; omega
    have HZ2 : Hid (z = if inI 0 (n2 - 1) pp = false then 4 else if inI 1 p.sheets sh = false then 7 else if hf = true ∧ (sh ≠ 1 ∨ ∀ f, p.fmts[i]? = some f → f.folds.length = 1) then 2 else 0) := Lib.hid (by
      rw [HZ.out, h1]; simp)
    clear HZ h1 Hh1
    obtain ⟨h2, hh⟩ : ∃ x, x = inI 0 (n2 - 1 : Int) pp := ⟨_, rfl⟩
    have Hh2 := Lib.hid hh
    clear hh
    go_wp2_with fail
    refine (in2_is pp 0 (n2 - 1 : Int) h2 Hh2.out _).mono ?_
    rintro e w4 ⟨rfl, hb⟩
    replace b1 := blk_later hb b1
    replace b2 := blk_later hb b2
    replace HB := Lib.hid (HB.out.trans (hb.mono HB.out.size))
    clear hb p0 p1 p2 p3 m0 m1 m2 m3
    have p0 := blk_cell b1 0
    have p1 := blk_cell b1 1
    have p2 := blk_cell b1 2
    have p3 := blk_cell b1 3
    have m0 := blk_cell b2 0
    have m1 := blk_cell b2 1
    have m2 := blk_cell b2 2
    have m3 := blk_cell b2 3
    cases h2 with
    | false =>
      have HF : Hid (z = 4) := Lib.hid (by rw [HZ2.out, ← Hh2.out]; rfl)
      go_wp2_with fail
      go_ret
      exact ⟨by rw [(HF).out]; rfl, HB.out⟩
    | true =>
      have HZ3 : Hid (z = if inI 1 p.sheets sh = false then 7 else if hf = true ∧ (sh ≠ 1 ∨ ∀ f, p.fmts[i]? = some f → f.folds.length = 1) then 2 else 0) := Lib.hid (by
        rw [HZ2.out, ← Hh2.out]; simp)
      clear HZ2 Hh2
      obtain ⟨h3, hh⟩ : ∃ x, x = inI 1 p.sheets sh := ⟨_, rfl⟩
      have Hh3 := Lib.hid hh
      clear hh
      go_wp2_with fail
      refine (in2_is sh 1 p.sheets h3 Hh3.out _).mono ?_
      rintro e w5 ⟨rfl, hb⟩
      replace b1 := blk_later hb b1
      replace b2 := blk_later hb b2
      replace HB := Lib.hid (HB.out.trans (hb.mono HB.out.size))
      clear hb p0 p1 p2 p3 m0 m1 m2 m3
      have p0 := blk_cell b1 0
      have p1 := blk_cell b1 1
      have p2 := blk_cell b1 2
      have p3 := blk_cell b1 3
      have m0 := blk_cell b2 0
      have m1 := blk_cell b2 1
      have m2 := blk_cell b2 2
      have m3 := blk_cell b2 3
      cases h3 with
      | false =>
        have HF : Hid (z = 7) := Lib.hid (by rw [HZ3.out, ← Hh3.out]; rfl)
        go_wp2_with fail
        go_ret
        exact ⟨by rw [(HF).out]; rfl, HB.out⟩
      | true =>
        have HZ4 : Hid (z = if hf = true ∧ (sh ≠ 1 ∨ ∀ f, p.fmts[i]? = some f → f.folds.length = 1) then 2 else 0) := Lib.hid (by
          rw [HZ3.out, ← Hh3.out]; simp)
        clear HZ3 Hh3
        cases hf with
        | false =>
          have HF : Hid (z = 0) := Lib.hid (by rw [HZ4.out]; simp)
          go_wp2_with fail
          go_ret
          exact ⟨by rw [(HF).out]; rfl, HB.out⟩
        | true =>
          by_cases hs : sh = 1
          · subst hs
            obtain ⟨f, hfx⟩ : ∃ f, p.fmts[i]? = some f := ⟨_, List.getElem?_eq_getElem (by have := HN1.out; omega)⟩
            obtain ⟨b', off, rfl, hb', hc⟩ := HFC.out (fun h => by rw [h] at hfx; simp at hfx)
            have q1 : w5.cell? ⟨b', off + i * 2 + 1, none⟩ = some (S f.folds) := cell_later' HB.out (by have := hc i f hfx 1 _ rfl; simpa using this)
            have hl := fds_of_err (HFF.out f (List.mem_of_getElem? hfx))
            have HX := Lib.hid hfx
            have hzs : (⟨f.folds.toArray⟩ : ByteArray).size = f.folds.length := size_bytes f.folds
            obtain ⟨k, hk⟩ : ∃ k, k = f.folds.length := ⟨_, rfl⟩
            rw [← hk] at hl hzs
            have HK := Lib.hid hk
            clear hc hfx hk
            obtain ⟨hl1, hl2, -⟩ := hl
            by_cases h5 : k = 1
            · have HF : Hid (z = 2) := Lib.hid (by
                rw [HZ4.out, if_pos]
                exact ⟨rfl, Or.inr fun f' hf' => by rw [HX.out] at hf'; cases hf'; rw [← HK.out]; exact h5⟩)
              clear HZ4
              subst h5
              go_wp2_with fail
              go_ret
              exact ⟨by rw [(HF).out]; rfl, HB.out⟩
            · have HF : Hid (z = 0) := Lib.hid (by
                rw [HZ4.out, if_neg]
                rintro ⟨-, h | h⟩
                · exact h rfl
                · exact h5 (by rw [HK.out]; exact h f HX.out))
              have h5b : ((k : Int) == 1) = false := by simp; omega
              clear HZ4
              go_wp2_with fail
              go_ret
              exact ⟨by rw [(HF).out]; rfl, HB.out⟩
          · have HF : Hid (z = 2) := Lib.hid (by rw [HZ4.out, if_pos]; exact ⟨rfl, Or.inl hs⟩)
            have hsb : (sh != 1) = true := by simp [hs]
            clear HZ4 hs
            go_wp2_with fail
            go_ret
            exact ⟨by rw [(HF).out]; rfl, HB.out⟩
end Go.Proofs.YtnhacghjoikgpaaGreatDoor

/- The reference: all ways of making. -/
namespace Go.Proofs.YtnhacghjoikgpaaGreatDoor
set_option linter.unusedSimpArgs false
set_option linter.unusedVariables false
open Go Go.RowKit Go.Sort Go.BigFrame

theorem elemMk : ∃ i, Tryz.prog.info? 50 = some i ∧ i.zero = some (.agg #[.int .i64 0, .int .i64 0, .int .i64 0, .bool false]) ∧ i.size = 4 ∧ i.bytes = 32 := elemOf (by kernel_rfl)
theorem undMks : Tryz.prog.underlying 31 = some (.slice 50) := by kernel_rfl
abbrev mkC (m : Mkw) : List Value := [.int .i64 m.fmt, .int .i64 m.ppr, .int .i64 m.sheets, .bool m.half]
def mkCells (ms : List Mkw) : List Value := ms.flatMap mkC
def okM (p : Prs) (m : Mkw) : Bool := decide (mkwErr p m = 0)
/-- The ways of making of a number of sheets, and so on outwards. -/
def mkD (p : Prs) (f q s h : Nat) : List Mkw := (List.range h).flatMap fun (h : Nat) => [(⟨f, q, (s : Int) + 1, (h : Int) == 1⟩ : Mkw)].filter (okM p)
def mkC3 (p : Prs) (f q s : Nat) : List Mkw := (List.range s).flatMap fun s => mkD p f q s 2
def mkB (p : Prs) (f q : Nat) : List Mkw := (List.range q).flatMap fun q => mkC3 p f q p.sheets.toNat
def mkA (p : Prs) (f : Nat) : List Mkw := (List.range f).flatMap fun f => mkB p f p.pprs.length
def makesW (p : Prs) : List Mkw := mkA p p.fmts.length
theorem mkD_succ (p : Prs) (f q s h : Nat) : mkD p f q s (h + 1) = mkD p f q s h ++ [(⟨f, q, (s : Int) + 1, (h : Int) == 1⟩ : Mkw)].filter (okM p) := by simp [mkD, List.range_succ]
theorem mkC3_succ (p : Prs) (f q s : Nat) : mkC3 p f q (s + 1) = mkC3 p f q s ++ mkD p f q s 2 := by simp [mkC3, List.range_succ]
theorem mkB_succ (p : Prs) (f q : Nat) : mkB p f (q + 1) = mkB p f q ++ mkC3 p f q p.sheets.toNat := by simp [mkB, List.range_succ]
theorem mkA_succ (p : Prs) (f : Nat) : mkA p (f + 1) = mkA p f ++ mkB p f p.pprs.length := by simp [mkA, List.range_succ]
theorem flat_len_le {α : Type} (F : Nat → List α) (c : Nat) (h : ∀ k, (F k).length ≤ c) (n : Nat) : ((List.range n).flatMap F).length ≤ n * c := by
  induction n with
  | zero => simp
  | succ n ih =>
    rw [List.range_succ, List.flatMap_append, List.length_append, Nat.succ_mul]
    have e : ([n].flatMap F).length = (F n).length := by simp
    rw [e]
    have := h n
    omega
theorem mkD_len (p : Prs) (f q s h : Nat) : (mkD p f q s h).length ≤ h * 1 := flat_len_le _ _ (fun _ => by
  refine Nat.le_trans (List.length_filter_le _ _) ?_
  simp) h
theorem mkC3_len (p : Prs) (f q s : Nat) : (mkC3 p f q s).length ≤ s * 2 := flat_len_le _ _ (fun k => mkD_len p f q k 2) s
theorem mkB_len (p : Prs) (f q : Nat) (hs : p.sheets.toNat ≤ 4) : (mkB p f q).length ≤ q * 8 := flat_len_le _ _ (fun k => Nat.le_trans (mkC3_len p f k _) (by omega)) q
theorem mkA_len (p : Prs) (f : Nat) (hs : p.sheets.toNat ≤ 4) (hq : p.pprs.length ≤ 4) : (mkA p f).length ≤ f * 32 := flat_len_le _ _ (fun k => Nat.le_trans (mkB_len p k _ hs) (by omega)) f

/-- What lies in memory while the ways of making are gathered. -/
structure MkSt (w W : World) (cs : Array Value) (v : Value) (xs : List Mkw) : Prop where
  row : W.ownsRow (w.heap.size + 1) 50 4 v xs.length (mkCells xs)
  bel : Below w.heap.size w W
  box : W.heap[w.heap.size]? = some (.cells cs 25 (0, 0))
theorem MkSt.later {w W W' : World} {cs : Array Value} {v : Value} {xs : List Mkw} (h : MkSt w W cs v xs) (hb : Below W.heap.size W W') : MkSt w W' cs v xs :=
  ⟨row_later h.row hb, h.bel.trans (hb.mono h.bel.size), blk_later hb h.box⟩
theorem MkSt.add {w W W' : World} {cs : Array Value} {v v' : Value} {xs : List Mkw} {x : Mkw} (h : MkSt w W cs v xs)
    (hr : W'.ownsRow (w.heap.size + 1) 50 4 v' (xs.length + 1) (mkCells xs ++ mkC x)) (hg : W.grownBy W' v.ownBlock) : MkSt w W' cs v' (xs ++ [x]) := by
  have hbl : Below w.heap.size W W' := ((Below.refl _ W).mono h.bel.size).grown hg h.bel.size (fun k hk => by
    have := (h.row.lt k hk).1
    omega)
  refine ⟨?_, h.bel.trans hbl, (hg.block _ (blk_lt h.box) (fun e => by have := (h.row.lt _ e.symm).1; omega)).trans h.box⟩
  rw [List.length_append]
  simpa [mkCells] using hr

set_option maxRecDepth 100000 in
set_option maxHeartbeats 4000000 in
theorem refMakes2_any (p : Prs) (vp : Value) (w : World) (hp : PrsAt w.heap.size w vp p) (he : errP p = 0) :
    Calls Tryz.prog 36 #[vp] w fun e w' => (∃ v', e = .returned v' ∧ w'.ownsRow w.heap.size 50 4 v' (makesW p).length (mkCells (makesW p))) ∧ Below w.heap.size w w' := by
  obtain ⟨⟨f1, f2⟩, ⟨f3, f4⟩, ⟨f5, f6⟩, -⟩ := fine_press he
  have HP := Lib.hid hp
  have HE := Lib.hid he
  obtain ⟨fv, pv, rfl, ⟨a, cap, rfl, -⟩, ⟨a2, cap2, rfl, -⟩, -⟩ := hp
  obtain ⟨n1, hn1⟩ : ∃ n, n = p.fmts.length := ⟨_, rfl⟩
  obtain ⟨n2, hn2⟩ : ∃ n, n = p.pprs.length := ⟨_, rfl⟩
  obtain ⟨n3, hn3⟩ : ∃ n, n = p.sheets.toNat := ⟨_, rfl⟩
  obtain ⟨sh, hsh⟩ : ∃ s, s = p.sheets := ⟨_, rfl⟩
  have hs3 : sh = (n3 : Int) := by omega
  rw [← hn1] at f1 f2
  rw [← hn2] at f3 f4
  rw [← hsh] at f5 f6
  rw [← hn1, ← hn2, ← hsh] at HP ⊢
  have HN1 := Lib.hid hn1
  have HN2 := Lib.hid hn2
  have HN3 := Lib.hid hn3
  have HSH := Lib.hid hsh
  clear hn1 hn2 hn3 hsh he
  subst hs3
  obtain ⟨ei, hi1, hi2, hi3, hi4⟩ := elemMk
  have HI := Lib.hid (And.intro hi1 (And.intro hi2 (And.intro hi3 hi4)))
  clear hi1 hi2 hi3 hi4
  go_enter Tryz.func36, Tryz.ntmps36
  go_wp2_with fail
  have HS : Hid (MkSt w (w.alloc (.cells #[.slice a n1 cap, .slice a2 n2 cap2, .int .i64 p.trim, .int .i64 n3] 25)) #[.slice a n1 cap, .slice a2 n2 cap2, .int .i64 p.trim, .int .i64 n3] (.slice none 0 0) []) := Lib.hid ⟨World.ownsRow_nil _ _ _ _, (Below.refl _ w).alloc (Nat.le_refl _) _, World.alloc_heap_new _ _⟩
  go_loopw [3, 4] (fun v i wr => ∃ (f : Nat), f ≤ n1 ∧ i = .int .i64 f ∧ Hid (MkSt w wr #[.slice a n1 cap, .slice a2 n2 cap2, .int .i64 p.trim, .int .i64 n3] v (mkA p f))) (fun _ i _ => n1 - (intOf i).toNat)
  case atStart => exact ⟨0, by omega, rfl, HS⟩
  case round =>
    clear HS
    obtain ⟨f, hf, rfl, HS⟩ := hrel
    have c0 := blk_cell (HS).out.box 0
    have c1 := blk_cell (HS).out.box 1
    have c2 := blk_cell (HS).out.box 2
    have c3 := blk_cell (HS).out.box 3
    by_cases hlt : f < n1
    · go_wp2_with fail
      clear c0 c1 c2 c3
      go_loopw [3, 5] (fun v i wr => ∃ (q : Nat), q ≤ n2 ∧ i = .int .i64 q ∧ Hid (MkSt w wr #[.slice a n1 cap, .slice a2 n2 cap2, .int .i64 p.trim, .int .i64 n3] v (mkA p f ++ mkB p f q))) (fun _ i _ => n2 - (intOf i).toNat)
      case atStart => exact ⟨0, by omega, rfl, by have h := HS.out; show MkSt _ _ _ _ _; simpa [mkB] using h⟩
      case round =>
        clear HS
        obtain ⟨q, hq, rfl, HS⟩ := hrel
        have c0 := blk_cell (HS).out.box 0
        have c1 := blk_cell (HS).out.box 1
        have c2 := blk_cell (HS).out.box 2
        have c3 := blk_cell (HS).out.box 3
        by_cases hltq : q < n2
        · go_wp2_with fail
          clear c0 c1 c2 c3
          go_loopw [3, 6] (fun v i wr => ∃ (s : Nat), s ≤ n3 ∧ i = .int .i64 ((s : Int) + 1) ∧ Hid (MkSt w wr #[.slice a n1 cap, .slice a2 n2 cap2, .int .i64 p.trim, .int .i64 n3] v (mkA p f ++ mkB p f q ++ mkC3 p f q s))) (fun _ i _ => n3 + 1 - (intOf i).toNat)
          case atStart => exact ⟨0, by omega, by go_num, by have h := HS.out; show MkSt _ _ _ _ _; simpa [mkC3] using h⟩
          case round =>
            clear HS
            obtain ⟨s, hs, rfl, HS⟩ := hrel
            have c0 := blk_cell (HS).out.box 0
            have c1 := blk_cell (HS).out.box 1
            have c2 := blk_cell (HS).out.box 2
            have c3 := blk_cell (HS).out.box 3
            by_cases hlts : s < n3
            · have e9 : decide (((s : Int) + 1) ≤ (n3 : Int)) = true := decide_eq_true (by omega)
              go_wp2_with fail
              clear c0 c1 c2 c3
              go_loopw [3, 7] (fun v i wr => ∃ (h : Nat), h ≤ 2 ∧ i = .int .i64 h ∧ Hid (MkSt w wr #[.slice a n1 cap, .slice a2 n2 cap2, .int .i64 p.trim, .int .i64 n3] v (mkA p f ++ mkB p f q ++ mkC3 p f q s ++ mkD p f q s h))) (fun _ i _ => 2 - (intOf i).toNat)
              case atStart => exact ⟨0, by omega, rfl, by have h := HS.out; show MkSt _ _ _ _ _; simpa [mkD] using h⟩
              case round =>
                clear HS
                obtain ⟨h, hh, rfl, HS⟩ := hrel
                by_cases hlth : h < 2
                · have hl1 := mkA_len p f (by rw [← HN3.out]; omega) (by rw [← HN2.out]; omega)
                  have hl2 := mkB_len p f q (by rw [← HN3.out]; omega)
                  have hl3 := mkC3_len p f q s
                  have hl4 := mkD_len p f q s h
                  have hxl : (mkA p f ++ mkB p f q ++ mkC3 p f q s ++ mkD p f q s h).length ≤ 1000 := by
                    simp only [List.length_append]; omega
                  clear hl1 hl2 hl3 hl4
                  have hD := mkD_succ p f q s h
                  have c0 := blk_cell (HS).out.box 0
                  have c1 := blk_cell (HS).out.box 1
                  have c2 := blk_cell (HS).out.box 2
                  have c3 := blk_cell (HS).out.box 3
                  have hz9 := blk_lt HS.out.box
                  obtain ⟨B, hB⟩ : ∃ B, ((h : Int) == 1) = B := ⟨_, rfl⟩
                  rw [hB] at hD
                  have HDS : Hid (mkD p f q s (h + 1) = mkD p f q s h ++ [(⟨f, q, (s : Int) + 1, B⟩ : Mkw)].filter (okM p)) := Lib.hid hD
                  clear hD
                  obtain ⟨xs1, hxs1⟩ : ∃ xs1, xs1 = mkA p f ++ mkB p f q ++ mkC3 p f q s ++ mkD p f q s h := ⟨_, rfl⟩
                  rw [← hxs1] at HS hxl
                  have HXS := Lib.hid hxs1
                  clear hxs1
                  have HS1 := Lib.hid (HS.out.later ((Below.refl _ _).alloc (Nat.le_refl _) (.cells #[.int .i64 f, .int .i64 q, .int .i64 ((s : Int) + 1), .bool B] 50)))
                  have HBM : Hid ((wr.alloc (.cells #[.int .i64 f, .int .i64 q, .int .i64 ((s : Int) + 1), .bool B] 50)).heap[wr.heap.size]? = some (.cells #[.int .i64 f, .int .i64 q, .int .i64 ((s : Int) + 1), .bool B] 50 (0, 0))) := Lib.hid (World.alloc_heap_new _ _)
                  clear HS
                  go_wp2_with fail
                  revert HS1 HBM
                  generalize (wr.alloc (.cells #[.int .i64 f, .int .i64 q, .int .i64 ((s : Int) + 1), .bool B] 50)) = w1
                  intro HS1 HBM
                  refine (refMake2_any p ⟨f, q, (s : Int) + 1, B⟩ _ _ (HP.out.later HS1.out.bel) HE.out).mono ?_
                  rintro e w2 ⟨rfl, hb⟩
                  obtain ⟨z, hz⟩ : ∃ z, z = mkwErr p ⟨f, q, (s : Int) + 1, B⟩ := ⟨_, rfl⟩
                  rw [← hz]
                  have HS2 := Lib.hid (HS1.out.later hb)
                  have bm := blk_later hb HBM.out
                  have q0 := blk_cell bm 0
                  have q1 := blk_cell bm 1
                  have q2 := blk_cell bm 2
                  have q3 := blk_cell bm 3
                  clear hb HS1 HBM bm c0 c1 c2 c3
                  by_cases hz0 : z = 0
                  · have HF : Hid (mkA p f ++ mkB p f q ++ mkC3 p f q s ++ mkD p f q s (h + 1) = xs1 ++ [(⟨f, q, (s : Int) + 1, B⟩ : Mkw)]) := Lib.hid (by
                      rw [HDS.out, HXS.out, List.filter_cons_of_pos (by unfold okM; rw [← hz, hz0]; rfl), List.filter_nil, List.append_assoc _ (mkD p f q s h)])
                    have e0 : (z == 0) = true := by simp [hz0]
                    clear hz hz0
                    obtain ⟨hi1, hi2, hi3, hi4⟩ := HI.out
                    have hz8 := blk_lt HS2.out.box
                    go_wp2_with (at_builtin; refine wpList_append_own _ rfl _ _ 31 rfl (w.heap.size + 1) 50 ei _ 4 32 undMks hi1 hi2 hi3 hi4 rfl (by decide) _ xs1.length (mkCells xs1) rfl (HS2.out.row.alloc _) ⟨w2.heap.size, 0, none⟩ 1 1 (mkC ⟨f, q, (s : Int) + 1, B⟩) rfl rfl ?a1 ?b1 ?c1 ?d1 ?e1 ?f1)
                    case a1 =>
                      intro j u hju
                      rw [add_offi]
                      unfold World.cell?
                      rw [World.alloc_heap_new]
                      simpa using hju
                    case b1 => intro u hu; simp at hu; rcases hu with rfl | rfl | rfl | rfl <;> rfl
                    case c1 => simp only [maxLen]; omega
                    case d1 => omega
                    case e1 => (first | omega | (simp; omega))
                    case f1 =>
                      rintro v' w7 hown hgrow -
                      have HS3 := HS2.out.later ((Below.refl _ w2).alloc (Nat.le_refl _) (.cells #[.int .i64 f, .int .i64 q, .int .i64 ((s : Int) + 1), .bool B] 50))
                      have HS4 := Lib.hid (HS3.add (x := (⟨f, q, (s : Int) + 1, B⟩ : Mkw)) hown hgrow)
                      clear hown hgrow HS3 hi1 hi2 hi3 hi4 q0 q1 q2 q3
                      go_wp2_with fail
                      go_roundw
                      case rel => exact ⟨h + 1, by omega, by go_num, (by show MkSt w _ _ _ (mkA p f ++ mkB p f q ++ mkC3 p f q s ++ mkD p f q s (h + 1)); rw [HF.out]; exact HS4.out)⟩
                      case measure => simp [intOf]; omega
                  · have HF : Hid (mkA p f ++ mkB p f q ++ mkC3 p f q s ++ mkD p f q s (h + 1) = xs1) := Lib.hid (by
                      rw [HDS.out, HXS.out, List.filter_cons_of_neg (by unfold okM; rw [← hz]; simpa using hz0), List.filter_nil, List.append_nil])
                    have e0 : (z == 0) = false := by simp [hz0]
                    clear hz hz0
                    go_wp2_with fail
                    go_roundw
                    case rel => exact ⟨h + 1, by omega, by go_num, (by show MkSt w _ _ _ (mkA p f ++ mkB p f q ++ mkC3 p f q s ++ mkD p f q s (h + 1)); rw [HF.out]; exact HS2.out)⟩
                    case measure => simp [intOf]; omega
                · obtain rfl : h = 2 := by omega
                  go_wp2_with fail
                  go_roundw
                  case rel => exact ⟨s + 1, by omega, by go_num, by have h := HS.out; show MkSt _ _ _ _ _; rw [mkC3_succ, ← List.append_assoc]; exact h⟩
                  case measure => simp [intOf]; omega
            · obtain rfl : s = n3 := by omega
              have e9 : decide (((s : Int) + 1) ≤ (s : Int)) = false := decide_eq_false (by omega)
              go_wp2_with fail
              go_roundw
              case rel => exact ⟨q + 1, by omega, by go_num, by have h := HS.out; show MkSt _ _ _ _ _; rw [mkB_succ, ← List.append_assoc, ← HN3.out]; exact h⟩
              case measure => simp [intOf]; omega
        · obtain rfl : q = n2 := by omega
          go_wp2_with fail
          go_roundw
          case rel => exact ⟨f + 1, by omega, by go_num, by have h := HS.out; show MkSt _ _ _ _ _; rw [mkA_succ, ← HN2.out]; exact h⟩
          case measure => simp [intOf]; omega
    · obtain rfl : f = n1 := by omega
      go_wp2_with fail
      go_ret
      exact ⟨⟨_, rfl, by unfold makesW; rw [← HN1.out]; exact row_mono HS.out.row (by omega)⟩, HS.out.bel⟩
end Go.Proofs.YtnhacghjoikgpaaGreatDoor

/- The law's way of making, by a number. -/
namespace Go.Proofs.YtnhacghjoikgpaaGreatDoor
set_option linter.unusedSimpArgs false
set_option linter.unusedVariables false
open Go Go.RowKit Go.Sort Go.BigFrame

theorem mk_at : ∀ (ms : List Mkw) (i : Nat) (m : Mkw), ms[i]? = some m → ∀ c, c < 4 → (mkCells ms)[i * 4 + c]? = (mkC m)[c]?
  | [], _, _, h, _, _ => by simp at h
  | y :: ys, 0, m, h, c, hc => by
    obtain rfl : y = m := by simpa using h
    unfold mkCells
    rw [List.flatMap_cons, List.getElem?_append_left (by simp; omega), Nat.zero_mul, Nat.zero_add]
  | y :: ys, i + 1, m, h, c, hc => by
    unfold mkCells
    rw [List.flatMap_cons, List.getElem?_append_right (by simp; omega)]
    have := mk_at ys i m (by simpa using h) c hc
    rw [← this]
    unfold mkCells
    congr 1
    simp
    omega
theorem makesW_ok {p : Prs} {m : Mkw} (h : m ∈ makesW p) : mkwErr p m = 0 := by
  unfold makesW mkA mkB mkC3 mkD at h
  simp only [List.mem_flatMap, List.mem_filter] at h
  obtain ⟨_, -, _, -, _, -, _, -, -, h⟩ := h
  simpa [okM] using h
theorem makesW_ne {p : Prs} (h1 : 1 ≤ p.fmts.length) (h2 : 1 ≤ p.pprs.length) (h3 : 1 ≤ p.sheets) : makesW p ≠ [] := by
  have : (⟨(0 : Nat), (0 : Nat), ((0 : Nat) : Int) + 1, ((0 : Nat) : Int) == 1⟩ : Mkw) ∈ makesW p := by
    unfold makesW mkA mkB mkC3 mkD
    simp only [List.mem_flatMap, List.mem_filter, List.mem_range]
    refine ⟨0, by omega, 0, by omega, 0, by omega, 0, by omega, List.mem_singleton.2 rfl, ?_⟩
    unfold okM mkwErr
    have e1 : inI 0 ((p.fmts.length : Int) - 1) 0 = true := by simp [inI]; omega
    have e2 : inI 0 ((p.pprs.length : Int) - 1) 0 = true := by simp [inI]; omega
    have e3 : inI 1 p.sheets 1 = true := by simp [inI]; omega
    simp [e1, e2, e3]
  intro e
  rw [e] at this
  cases this
theorem makesW_len {p : Prs} (h1 : p.fmts.length ≤ 6) (h2 : p.pprs.length ≤ 4) (h3 : p.sheets ≤ 4) : (makesW p).length ≤ 192 := by
  have := mkA_len p p.fmts.length (by omega) h2
  unfold makesW
  omega

set_option maxRecDepth 100000 in
set_option maxHeartbeats 2000000 in
theorem Made2_any (p : Prs) (vp : Value) (n : Nat) (w : World) (hp : PrsAt w.heap.size w vp p) (he : errP p = 0) (hn : n < 65536) :
    Calls Tryz.prog 48 #[vp, .int .i64 n] w fun e w' => (∃ m, e = .returned (mkwV m) ∧ mkwErr p m = 0) ∧ Below w.heap.size w w' := by
  obtain ⟨⟨f1, f2⟩, ⟨f3, f4⟩, ⟨f5, f6⟩, -⟩ := fine_press he
  have hne := makesW_ne f1 f3 f5
  have hln := makesW_len f2 f4 f6
  have HP := Lib.hid hp
  have HE := Lib.hid he
  obtain ⟨fv, pv, rfl, ⟨a, cap, rfl, -⟩, ⟨a2, cap2, rfl, -⟩, -⟩ := hp
  obtain ⟨n1, hn1⟩ : ∃ n, n = p.fmts.length := ⟨_, rfl⟩
  obtain ⟨n2, hn2⟩ : ∃ n, n = p.pprs.length := ⟨_, rfl⟩
  rw [← hn1, ← hn2] at HP ⊢
  clear hn1 hn2 he f1 f2 f3 f4 f5 f6
  obtain ⟨k, hk⟩ : ∃ k, (makesW p).length = k + 1 := ⟨(makesW p).length - 1, by cases h : makesW p with | nil => exact absurd h hne | cons _ _ => simp⟩
  rw [hk] at hln
  have HK := Lib.hid hk
  have hlt : n % (k + 1) < k + 1 := Nat.mod_lt _ (by omega)
  obtain ⟨m, hm⟩ : ∃ m, (makesW p)[n % (k + 1)]? = some m := ⟨_, List.getElem?_eq_getElem (by rw [hk]; exact hlt)⟩
  have HM := Lib.hid hm
  clear hk hm hne
  go_enter Tryz.func48, Tryz.ntmps48
  go_wp2_with fail
  have hp0 : Below w.heap.size w ((w.alloc (.cells #[.slice a n1 cap, .slice a2 n2 cap2, .int .i64 p.trim, .int .i64 p.sheets] 25)).alloc (.cells #[.int .i64 0, .int .i64 0, .int .i64 0, .bool false] 50)) := by exact (by repeat (first | exact Below.refl _ _ | assumption | (refine Below.alloc ?_ ?_ _; rotate_left; · (first | omega | (simp; done) | (simp; omega) | fail)) | (refine Below.setCell ?_ ?_ _; rotate_left; · (first | omega | (simp; done) | (simp; omega) | fail)) | refine Below.drew ?_ | fail))
  have bR : ((w.alloc (.cells #[.slice a n1 cap, .slice a2 n2 cap2, .int .i64 p.trim, .int .i64 p.sheets] 25)).alloc (.cells #[.int .i64 0, .int .i64 0, .int .i64 0, .bool false] 50)).heap[w.heap.size + 1]? = some (.cells #[.int .i64 0, .int .i64 0, .int .i64 0, .bool false] 50 (0, 0)) := by exact (by repeat (first | exact heap_alloc_at _ _ _ (by (first | omega | (simp; done) | (simp; omega) | (simp at *; omega) | fail)) | assumption | rw [heap_alloc_past _ _ _ (by (first | omega | (simp; done) | (simp; omega) | (simp at *; omega) | fail))] | rw [heap_setCell_past _ _ _ _ (by (first | omega | (simp; done) | (simp; omega) | (simp at *; omega) | fail))] | fail))
  refine (refMakes2_any p _ _ (HP.out.later hp0) HE.out).mono ?_
  rintro e w2 ⟨⟨v', rfl, hr⟩, hb⟩
  rw [HK.out] at hr
  have HR := Lib.hid hr
  rcases hr.2 with ⟨rfl, h0⟩ | ⟨g, cap', cur, rfl, hgb, hg, rest⟩
  · exact absurd h0 (by omega)
  have hc := HR.out.cells (g := g) (by simp [Value.ownBlock])
  have key : ∀ c u, c < 4 → (mkC m)[c]? = some u → w2.cell? ⟨g, n % (k + 1) * 4 + c, none⟩ = some u := fun c u hc4 hu => by
    have := hc (n % (k + 1) * 4 + c) u (by rw [mk_at _ _ _ HM.out c hc4]; exact hu)
    rwa [add_offi] at this
  have q0 : w2.cell? ⟨g, n % (k + 1) * 4, none⟩ = some (.int .i64 m.fmt) := key 0 _ (by omega) rfl
  have q1 := key 1 _ (by omega) rfl
  have q2 := key 2 _ (by omega) rfl
  have q3 := key 3 _ (by omega) rfl
  have bR := blk_later hb bR
  have d0 := blk_cell bR 0
  have d1 := blk_cell bR 1
  have d2 := blk_cell bR 2
  have d3 := blk_cell bR 3
  have z0 := blk_free bR 0
  have z1 := blk_free bR 1
  have z2 := blk_free bR 2
  have z3 := blk_free bR 3
  have hb2 := hp0.trans (hb.mono hp0.size)
  have hsz := blk_lt bR
  clear key hc rest hg hb hp0 hr hgb
  have i1 : (n : Int) % ((k : Int) + 1) < (k : Int) + 1 := Int.emod_lt_of_pos _ (by omega)
  have i2 : 0 ≤ (n : Int) % ((k : Int) + 1) := Int.emod_nonneg _ (by omega)
  go_wp2_with fail
  have hb3 : Below w.heap.size w ((((w2.setCell ⟨w.heap.size + 1, 0, none⟩ (.int .i64 m.fmt)).setCell ⟨w.heap.size + 1, 1, none⟩ (.int .i64 m.ppr)).setCell ⟨w.heap.size + 1, 2, none⟩ (.int .i64 m.sheets)).setCell ⟨w.heap.size + 1, 3, none⟩ (.bool m.half)) := by exact (by repeat (first | (refine Below.setCell ?_ ?_ _; rotate_left; · (first | omega | (simp; done) | (simp; omega) | fail)) | (refine Below.alloc ?_ ?_ _; rotate_left; · (first | omega | (simp; done) | (simp; omega) | fail)) | refine Below.drew ?_ | exact hb2 | fail))
  have c3 : ((((w2.setCell ⟨w.heap.size + 1, 0, none⟩ (.int .i64 m.fmt)).setCell ⟨w.heap.size + 1, 1, none⟩ (.int .i64 m.ppr)).setCell ⟨w.heap.size + 1, 2, none⟩ (.int .i64 m.sheets)).setCell ⟨w.heap.size + 1, 3, none⟩ (.bool m.half)).heap[w.heap.size + 1]? = some (.cells #[.int .i64 m.fmt, .int .i64 m.ppr, .int .i64 m.sheets, .bool m.half] 50 (0, 0)) := by
    simpa using blk_set (blk_set (blk_set (blk_set bR 0 (.int .i64 m.fmt)) 1 (.int .i64 m.ppr)) 2 (.int .i64 m.sheets)) 3 (.bool m.half)
  have e0 := blk_cell c3 0
  have e1 := blk_cell c3 1
  have e2 := blk_cell c3 2
  have e3 := blk_cell c3 3
  revert hb3 c3 e0 e1 e2 e3
  generalize ((((w2.setCell ⟨w.heap.size + 1, 0, none⟩ (.int .i64 m.fmt)).setCell ⟨w.heap.size + 1, 1, none⟩ (.int .i64 m.ppr)).setCell ⟨w.heap.size + 1, 2, none⟩ (.int .i64 m.sheets)).setCell ⟨w.heap.size + 1, 3, none⟩ (.bool m.half)) = w4
  intro hb3 c3 e0 e1 e2 e3
  exact bodyPost_ret (v := mkwV m) (by simp [results, Tryz.results48, go_sem, e0, e1, e2, e3]) rfl ⟨⟨m, rfl, makesW_ok (List.mem_of_getElem? HM.out)⟩, hb3⟩
end Go.Proofs.YtnhacghjoikgpaaGreatDoor

/- The law's valid. -/
namespace Go.Proofs.YtnhacghjoikgpaaGreatDoor
set_option linter.unusedSimpArgs false
set_option linter.unusedVariables false
open Go Go.RowKit Go.Sort Go.BigFrame

set_option maxRecDepth 100000 in
set_option maxHeartbeats 1000000 in
theorem valid2_any (p : Prs) (vp : Value) (w : World) (hp : PrsAt w.heap.size w vp p) :
    Calls Tryz.prog 17 #[vp] w fun e w' => e = .returned (.bool (errP p == 0)) ∧ Below w.heap.size w w' := by
  have HP := Lib.hid hp
  obtain ⟨fv, pv, rfl, ⟨a, cap, rfl, -⟩, ⟨a2, cap2, rfl, -⟩, -⟩ := hp
  obtain ⟨n1, hn1⟩ : ∃ n, n = p.fmts.length := ⟨_, rfl⟩
  obtain ⟨n2, hn2⟩ : ∃ n, n = p.pprs.length := ⟨_, rfl⟩
  rw [← hn1, ← hn2] at HP ⊢
  clear hn1 hn2
  obtain ⟨z, hz⟩ : ∃ z, z = errP p := ⟨_, rfl⟩
  rw [← hz]
  have HZ := Lib.hid hz
  clear hz
  go_enter Tryz.func17, Tryz.ntmps17
  go_wp2_with fail
  have hp0 : Below w.heap.size w (w.alloc (.cells #[.slice a n1 cap, .slice a2 n2 cap2, .int .i64 p.trim, .int .i64 p.sheets] 25)) := by exact (by repeat (first | exact Below.refl _ _ | assumption | (refine Below.alloc ?_ ?_ _; rotate_left; · (first | omega | (simp; done) | (simp; omega) | fail)) | (refine Below.setCell ?_ ?_ _; rotate_left; · (first | omega | (simp; done) | (simp; omega) | fail)) | refine Below.drew ?_ | fail))
  refine (refCheck2_any p _ _ (HP.out.later hp0)).mono ?_
  rintro e w2 ⟨rfl, hb⟩
  rw [show (checkP p).2.2 = z from HZ.out.symm]
  have hb2 := hp0.trans (hb.mono hp0.size)
  clear hb hp0
  go_wp2_with fail
  go_ret
  exact ⟨rfl, hb2⟩
end Go.Proofs.YtnhacghjoikgpaaGreatDoor

/- Rows that a call owns, as rows; the law's good, and whether a list has a way of making. -/
namespace Go.Proofs.YtnhacghjoikgpaaGreatDoor
set_option linter.unusedSimpArgs false
set_option linter.unusedVariables false
open Go Go.RowKit Go.Sort Go.BigFrame

theorem flat_atg {α : Type} {n : Nat} {enc : α → List Value} (hlen : ∀ x, (enc x).length = n) : ∀ (xs : List α) (i : Nat) (x : α), xs[i]? = some x → ∀ c, c < n → (xs.flatMap enc)[i * n + c]? = (enc x)[c]?
  | [], _, _, h, _, _ => by simp at h
  | y :: ys, 0, x, h, c, hc => by
    obtain rfl : y = x := by simpa using h
    rw [List.flatMap_cons, Nat.zero_mul, Nat.zero_add, List.getElem?_append_left (by rw [hlen]; exact hc)]
  | y :: ys, i + 1, x, h, c, hc => by
    rw [List.flatMap_cons, List.getElem?_append_right (by rw [hlen, Nat.succ_mul]; omega), hlen]
    have := flat_atg hlen ys i x (by simpa using h) c hc
    rw [← this]
    congr 1
    rw [Nat.succ_mul]
    omega
/-- A row that the call owns, as a row. -/
theorem rows_of_own {α : Type} {n : Nat} {enc : α → List Value} (hlen : ∀ x, (enc x).length = n) {W : World} {base : Nat} {v : Value} {e : TypeId} {xs : List α} (h : W.ownsRow base e n v xs.length (xs.flatMap enc)) : RowsAt n enc W.heap.size W v xs := by
  rcases h.2 with ⟨rfl, h0⟩ | ⟨g, cap, cur, rfl, hb, hg, rest⟩
  · exact ⟨none, 0, by rw [h0], fun hne => absurd (List.length_eq_zero_iff.1 h0) hne⟩
  · refine ⟨_, cap, rfl, fun _ => ⟨g, 0, rfl, blk_lt hg, fun i x hx j u hju => ?_⟩⟩
    have hc := h.cells (g := g) (by simp [Value.ownBlock])
    have hj : j < n := by rw [← hlen x]; exact (List.getElem?_eq_some_iff.1 hju).1
    have := hc (i * n + j) u (by rw [flat_atg hlen xs i x hx j hj]; exact hju)
    rw [add_offi] at this
    rw [Nat.zero_add]
    exact this

theorem row_formH {W : World} {base : Nat} {v : Value} {e : TypeId} {s n : Nat} {xs : List Value} (h : W.ownsRow base e s v n xs) (hn : 0 < n) : ∃ g cap, v = .slice (some ⟨g, 0, none⟩) n cap ∧ base ≤ g ∧ g < W.heap.size ∧ n ≤ cap ∧ cap ≤ maxLen := by
  rcases h.2 with ⟨-, h0⟩ | ⟨g, cap, cur, rfl, hb, hg, h1, h2, -⟩
  · omega
  · exact ⟨g, cap, rfl, hb, (Array.getElem?_eq_some_iff.1 hg).1, h1, h2⟩
set_option maxRecDepth 100000 in
set_option maxHeartbeats 1000000 in
theorem good2_any (p : Prs) (b : Bok) (vp vb : Value) (w : World) (hp : PrsAt w.heap.size w vp p) (hb : BokAt w.heap.size w vb b) :
    Calls Tryz.prog 22 #[vp, vb] w fun e w' => e = .returned (.bool ((checkK p b).2.2 == 0)) ∧ Below w.heap.size w w' := by
  have HP := Lib.hid hp
  have HK := Lib.hid hb
  obtain ⟨fv, pv, rfl, ⟨a, cap, rfl, -⟩, ⟨a2, cap2, rfl, -⟩, -⟩ := hp
  obtain ⟨mv, rfl, ⟨a3, cap3, rfl, -⟩⟩ := hb
  obtain ⟨n1, hn1⟩ : ∃ n, n = p.fmts.length := ⟨_, rfl⟩
  obtain ⟨n2, hn2⟩ : ∃ n, n = p.pprs.length := ⟨_, rfl⟩
  obtain ⟨n3, hn3⟩ : ∃ n, n = b.marks.length := ⟨_, rfl⟩
  rw [← hn1, ← hn2] at HP ⊢
  rw [← hn3] at HK ⊢
  clear hn1 hn2 hn3
  obtain ⟨z, hz⟩ : ∃ z, z = (checkK p b).2.2 := ⟨_, rfl⟩
  rw [← hz]
  have HZ := Lib.hid hz
  clear hz
  go_enter Tryz.func22, Tryz.ntmps22
  go_wp2_with fail
  have hp0 : Below w.heap.size w ((w.alloc (.cells #[.slice a n1 cap, .slice a2 n2 cap2, .int .i64 p.trim, .int .i64 p.sheets] 25)).alloc (.cells #[.int .i64 b.leaves, .int .i64 b.chain, .int .i64 b.wlo, .int .i64 b.whi, .int .i64 b.hlo, .int .i64 b.hhi, .slice a3 n3 cap3] 30)) := by exact (by repeat (first | exact Below.refl _ _ | assumption | (refine Below.alloc ?_ ?_ _; rotate_left; · (first | omega | (simp; done) | (simp; omega) | fail)) | (refine Below.setCell ?_ ?_ _; rotate_left; · (first | omega | (simp; done) | (simp; omega) | fail)) | refine Below.drew ?_ | fail))
  refine (refCheckBook2_any p b _ _ _ (HP.out.later hp0) (HK.out.later hp0)).mono ?_
  rintro e w2 ⟨rfl, hb⟩
  rw [show (checkK p b).2.2 = z from HZ.out.symm]
  have hb2 := hp0.trans (hb.mono hp0.size)
  clear hb hp0
  go_wp2_with fail
  go_ret
  exact ⟨rfl, hb2⟩
/-- The ways of making of a row. -/
theorem mk_cells {W : World} {B : Nat} {v : Value} {a : Option Addr} {n cap : Nat} {ms : List Mkw} {i : Nat} {m : Mkw} (h : RowsAt 4 mkC B W v ms) (hv : v = .slice a n cap) (hm : ms[i]? = some m) : ∃ g off, a = some ⟨g, off, none⟩ ∧
    W.cell? ⟨g, off + i * 4, none⟩ = some (.int .i64 m.fmt) ∧ W.cell? ⟨g, off + i * 4 + 1, none⟩ = some (.int .i64 m.ppr) ∧ W.cell? ⟨g, off + i * 4 + 2, none⟩ = some (.int .i64 m.sheets) ∧ W.cell? ⟨g, off + i * 4 + 3, none⟩ = some (.bool m.half) := by
  subst hv
  obtain ⟨a', cap', e, h⟩ := h
  cases e
  obtain ⟨g, off, rfl, -, hc⟩ := h (fun e => by rw [e] at hm; cases hm)
  exact ⟨g, off, rfl, by simpa using hc i m hm 0 _ rfl, by simpa using hc i m hm 1 _ rfl, by simpa using hc i m hm 2 _ rfl, by simpa using hc i m hm 3 _ rfl⟩
set_option maxRecDepth 100000 in
set_option maxHeartbeats 4000000 in
theorem one_any (ms : List Mkw) (v : Value) (m : Mkw) (B : Nat) (w : World) (hv : RowsAt 4 mkC B w v ms) (hB : B ≤ w.heap.size) (hl : ms.length ≤ 1000) :
    Calls Tryz.prog 20 #[v, mkwV m] w fun e w' => e = .returned (.bool (decide (m ∈ ms))) ∧ Below w.heap.size w w' := by
  have HV := Lib.hid hv
  obtain ⟨a, cap, rfl, -⟩ := hv
  obtain ⟨n, hn⟩ : ∃ n, n = ms.length := ⟨_, rfl⟩
  have HN := Lib.hid hn
  rw [← hn] at HV hl ⊢
  clear hn
  go_enter Tryz.func20, Tryz.ntmps20
  go_wp2_with fail
  obtain ⟨w1, hw1⟩ : ∃ w1, w1 = w.alloc (.cells #[.int .i64 m.fmt, .int .i64 m.ppr, .int .i64 m.sheets, .bool m.half] 50) := ⟨_, rfl⟩
  have hb1 : Below w.heap.size w w1 := by rw [hw1]; exact (by repeat (first | exact Below.refl _ _ | assumption | (refine Below.alloc ?_ ?_ _; rotate_left; · (first | omega | (simp; done) | (simp; omega) | fail)) | (refine Below.setCell ?_ ?_ _; rotate_left; · (first | omega | (simp; done) | (simp; omega) | fail)) | refine Below.drew ?_ | fail))
  have hx1 : w1.heap[w.heap.size]? = some (.cells #[.int .i64 m.fmt, .int .i64 m.ppr, .int .i64 m.sheets, .bool m.half] 50 (0, 0)) := by rw [hw1]; exact (by repeat (first | exact heap_alloc_at _ _ _ (by (first | omega | (simp; done) | (simp; omega) | (simp at *; omega) | fail)) | assumption | rw [heap_alloc_past _ _ _ (by (first | omega | (simp; done) | (simp; omega) | (simp at *; omega) | fail))] | rw [heap_setCell_past _ _ _ _ (by (first | omega | (simp; done) | (simp; omega) | (simp at *; omega) | fail))] | fail))
  rw [← hw1]
  have HB1 := Lib.hid hb1
  have HX1 := Lib.hid hx1
  clear hw1 hb1 hx1
  go_loopw [5] (fun q wr => ∃ (k : Nat), k ≤ n ∧ q = .int .i64 k ∧ Hid (m ∉ ms.take k) ∧ Hid (Below w1.heap.size w1 wr)) (fun q _ => n - (intOf q).toNat)
  case atStart => exact ⟨0, by omega, rfl, (by show m ∉ _; simp), Lib.hid (Below.refl _ _)⟩
  case round =>
    obtain ⟨k, hk, rfl, hT, HB⟩ := hrel
    have HBB := Lib.hid (HB1.out.trans (HB.out.mono HB1.out.size))
    by_cases hlt : k < n
    · obtain ⟨x, hx⟩ : ∃ x, ms[k]? = some x := ⟨_, List.getElem?_eq_getElem (by have := HN.out; omega)⟩
      obtain ⟨g, off, rfl, q0, q1, q2, q3⟩ := mk_cells (HV.out.same (w' := wr) (fun j hj => HBB.out.block j (by omega))) rfl hx
      have d0 := blk_cell (blk_later HB.out HX1.out) 0
      have d1 := blk_cell (blk_later HB.out HX1.out) 1
      have d2 := blk_cell (blk_later HB.out HX1.out) 2
      have d3 := blk_cell (blk_later HB.out HX1.out) 3
      have HX := Lib.hid hx
      clear hx
      have hcases : (¬ x.fmt = m.fmt) ∨ (x.fmt = m.fmt ∧ ((¬ x.ppr = m.ppr) ∨ (x.ppr = m.ppr ∧ ((¬ x.sheets = m.sheets) ∨ (x.sheets = m.sheets ∧ ((¬ x.half = m.half) ∨ x.half = m.half)))))) := by
        by_cases h1 : x.fmt = m.fmt
        · by_cases h2 : x.ppr = m.ppr
          · by_cases h3 : x.sheets = m.sheets
            · by_cases h4 : x.half = m.half
              · exact Or.inr ⟨h1, Or.inr ⟨h2, Or.inr ⟨h3, Or.inr h4⟩⟩⟩
              · exact Or.inr ⟨h1, Or.inr ⟨h2, Or.inr ⟨h3, Or.inl h4⟩⟩⟩
            · exact Or.inr ⟨h1, Or.inr ⟨h2, Or.inl h3⟩⟩
          · exact Or.inr ⟨h1, Or.inl h2⟩
        · exact Or.inl h1
      have HT3 := Lib.hid (fun (hne : ¬ x = m) => (by
        intro hmem
        rw [List.take_add_one, HX.out] at hmem
        simp only [Option.toList_some, List.mem_append, List.mem_singleton] at hmem
        rcases hmem with hmem | hmem
        · exact hT.out hmem
        · exact hne hmem.symm : m ∉ ms.take (k + 1)))
      obtain ⟨xa, xb, xc, xd⟩ := x
      obtain ⟨ma, mb, mc, md⟩ := m
      dsimp only at hcases q0 q1 q2 q3 d0 d1 d2 d3 ⊢
      clear hT
      rcases hcases with h1 | ⟨rfl, h1 | ⟨rfl, h1 | ⟨rfl, h1 | h1⟩⟩⟩
      · have hT2 := Lib.hid (HT3.out (fun e => h1 (by cases e; rfl)))
        clear HT3
        go_wp2_with fail
        go_quiet (fail)
        go_wp2_with fail
        go_roundw
        case rel => exact ⟨k + 1, by omega, by go_num, hT2, Lib.hid (bdrewN HB.out _)⟩
        case measure => simp [intOf]; omega
      · have hT2 := Lib.hid (HT3.out (fun e => h1 (by cases e; rfl)))
        clear HT3
        go_wp2_with fail
        go_quiet (fail)
        go_wp2_with fail
        go_roundw
        case rel => exact ⟨k + 1, by omega, by go_num, hT2, Lib.hid (bdrewN HB.out _)⟩
        case measure => simp [intOf]; omega
      · have hT2 := Lib.hid (HT3.out (fun e => h1 (by cases e; rfl)))
        clear HT3
        go_wp2_with fail
        go_quiet (fail)
        go_wp2_with fail
        go_roundw
        case rel => exact ⟨k + 1, by omega, by go_num, hT2, Lib.hid (bdrewN HB.out _)⟩
        case measure => simp [intOf]; omega
      · have hT2 := Lib.hid (HT3.out (fun e => h1 (by cases e; rfl)))
        clear HT3
        cases xd <;> cases md <;> first | exact absurd rfl h1 | skip
        · go_wp2_with fail
          go_quiet (fail)
          go_wp2_with fail
          go_roundw
          case rel => exact ⟨k + 1, by omega, by go_num, hT2, Lib.hid (bdrewN HB.out _)⟩
          case measure => simp [intOf]; omega
        · go_wp2_with fail
          go_quiet (fail)
          go_wp2_with fail
          go_roundw
          case rel => exact ⟨k + 1, by omega, by go_num, hT2, Lib.hid (bdrewN HB.out _)⟩
          case measure => simp [intOf]; omega
      · subst h1
        have HD : Hid (decide ((⟨xa, xb, xc, xd⟩ : Mkw) ∈ ms) = true) := Lib.hid (decide_eq_true (List.mem_of_getElem? HX.out))
        clear HT3
        go_wp2_with fail
        go_quiet (fail)
        go_wp2_with fail
        go_ret
        exact ⟨by rw [HD.out]; rfl, bdrewN HBB.out _⟩
    · have HD : Hid (decide (m ∈ ms) = false) := Lib.hid (decide_eq_false (by
        have h := hT.out
        rwa [List.take_of_length_le (by have := HN.out; omega)] at h))
      clear hT
      go_wp2_with fail
      go_ret
      exact ⟨by rw [HD.out]; rfl, HBB.out⟩
end Go.Proofs.YtnhacghjoikgpaaGreatDoor

/- awake_any2, worked out: pieces 0 to 3. -/
namespace Go.Proofs.YtnhacghjoikgpaaGreatDoor
set_option linter.unusedSimpArgs false
set_option linter.unusedVariables false
open Go Go.RowKit
noncomputable section
def yfA0 : Fr := ⟨.leaf, (Tryz.f16).ntmps, [], 1⟩
def yfH0 (t : TypeId) : H := h00 tab64 t
def yfA1 : Fr := (Fr.mk (Tr.node Tr.leaf (some (V.lit (Value.bool Bool.false))) Tr.leaf) 194 [] 1)
def yfH1 (t : TypeId) : H := ⟨40, 40, 40, .node Tr.leaf (some (.cells tab64 t)) Tr.leaf⟩
theorem yfP0 (t : TypeId) : evGc Tryz.prog 100000 (piece 0 (bodyOf Tryz.f16)) yfA0 (yfH0 t) [0] = .ok (.normal, yfA1, yfH1 t) := by kernel_rfl
def yfA2 : Fr := (Fr.mk (Tr.node (Tr.node Tr.leaf (some (V.ptr 45 0)) (Tr.node (Tr.node Tr.leaf none (Tr.node Tr.leaf (some (V.agg [(V.slc 41 0 3 3 Bool.false), (V.slc 44 0 1 1 Bool.false), (V.lit (Value.int IntKind.i64 (Int.ofNat 10))), (V.lit (Value.int IntKind.i64 (Int.ofNat 2)))])) Tr.leaf)) none Tr.leaf)) (some (V.lit (Value.bool Bool.false))) Tr.leaf) 194 [] 1)
def yfH2 (t : TypeId) : H := ⟨46, 40, 40, .node (Tr.node Tr.leaf none (Tr.node (Tr.node Tr.leaf none (Tr.node (Tr.node Tr.leaf (some (Ob.cells [(V.lit (Value.string (ByteArray.mk (Array.mk [(UInt8.ofNat 102), (UInt8.ofNat 111), (UInt8.ofNat 108), (UInt8.ofNat 105), (UInt8.ofNat 111)])))), (V.lit (Value.string (ByteArray.mk (Array.mk [(UInt8.ofNat 120)])))), (V.lit (Value.string (ByteArray.mk (Array.mk [(UInt8.ofNat 113), (UInt8.ofNat 117), (UInt8.ofNat 97), (UInt8.ofNat 114), (UInt8.ofNat 116), (UInt8.ofNat 111)])))), (V.lit (Value.string (ByteArray.mk (Array.mk [(UInt8.ofNat 120), (UInt8.ofNat 121)])))), (V.lit (Value.string (ByteArray.mk (Array.mk [(UInt8.ofNat 111), (UInt8.ofNat 99), (UInt8.ofNat 116), (UInt8.ofNat 97), (UInt8.ofNat 118), (UInt8.ofNat 111)])))), (V.lit (Value.string (ByteArray.mk (Array.mk [(UInt8.ofNat 120), (UInt8.ofNat 121), (UInt8.ofNat 120)]))))] 115)) Tr.leaf) none Tr.leaf)) none (Tr.node Tr.leaf none (Tr.node (Tr.node Tr.leaf (some (Ob.cells [(V.slc 41 0 3 3 Bool.false), (V.slc 44 0 1 1 Bool.false), (V.lit (Value.int IntKind.i64 (Int.ofNat 10))), (V.lit (Value.int IntKind.i64 (Int.ofNat 2)))] 25)) Tr.leaf) none Tr.leaf)))) (some (.cells tab64 t)) (Tr.node (Tr.node Tr.leaf none (Tr.node Tr.leaf none (Tr.node (Tr.node Tr.leaf (some (Ob.cells [(V.lit (Value.string (ByteArray.mk (Array.mk [(UInt8.ofNat 112), (UInt8.ofNat 111), (UInt8.ofNat 116)])))), (V.lit (Value.int IntKind.i64 (Int.ofNat 400))), (V.lit (Value.int IntKind.i64 (Int.ofNat 410))), (V.lit (Value.int IntKind.i64 (Int.ofNat 300))), (V.lit (Value.int IntKind.i64 (Int.ofNat 306)))] 67)) Tr.leaf) none Tr.leaf))) none Tr.leaf)⟩
theorem yfP1 (t : TypeId) : evGc Tryz.prog 100000 (piece 1 (bodyOf Tryz.f16)) yfA1 (yfH1 t) [0, 41, 44, 45] = .ok (.normal, yfA2, yfH2 t) := by kernel_rfl
def yfA3 : Fr := (Fr.mk (Tr.node (Tr.node (Tr.node (Tr.node (Tr.node (Tr.node Tr.leaf (some (V.lit (Value.int IntKind.i64 (Int.ofNat 0)))) Tr.leaf) none Tr.leaf) none Tr.leaf) (some (V.lit (Value.int IntKind.i64 (Int.ofNat 0)))) (Tr.node Tr.leaf none (Tr.node Tr.leaf (some (V.agg [(V.slc 41 0 3 3 Bool.false), (V.slc 44 0 1 1 Bool.false), (V.lit (Value.int IntKind.i64 (Int.ofNat 10))), (V.lit (Value.int IntKind.i64 (Int.ofNat 2)))])) Tr.leaf))) (some (V.ptr 45 0)) (Tr.node (Tr.node Tr.leaf none (Tr.node Tr.leaf (some (V.agg [(V.slc 41 0 3 3 Bool.false), (V.slc 44 0 1 1 Bool.false), (V.lit (Value.int IntKind.i64 (Int.ofNat 10))), (V.lit (Value.int IntKind.i64 (Int.ofNat 2)))])) Tr.leaf)) none (Tr.node Tr.leaf none (Tr.node Tr.leaf (some (V.tup [(V.slc 130 0 4 4 Bool.true), (V.lit (Value.int IntKind.i64 (Int.ofNat 0)))])) Tr.leaf)))) (some (V.lit (Value.bool Bool.false))) (Tr.node (Tr.node Tr.leaf none (Tr.node Tr.leaf none (Tr.node Tr.leaf (some (V.agg [(V.lit (Value.int IntKind.i64 (Int.ofNat 1))), (V.lit (Value.int IntKind.i64 (Int.ofNat 0))), (V.lit (Value.int IntKind.i64 (Int.ofNat 1))), (V.lit (Value.bool Bool.false))])) Tr.leaf))) (some (V.slc 130 0 4 4 Bool.true)) (Tr.node (Tr.node Tr.leaf none (Tr.node Tr.leaf (some (V.tup [(V.slc 130 0 4 4 Bool.true), (V.lit (Value.int IntKind.i64 (Int.ofNat 0)))])) Tr.leaf)) none (Tr.node Tr.leaf none (Tr.node Tr.leaf (some (V.slc 130 0 4 4 Bool.true)) Tr.leaf))))) 194 [] 1)
def yfH3 (t : TypeId) : H := ⟨132, 40, 40, .node (Tr.node Tr.leaf none (Tr.node (Tr.node Tr.leaf none (Tr.node (Tr.node Tr.leaf (some (Ob.cells [(V.lit (Value.string (ByteArray.mk (Array.mk [(UInt8.ofNat 102), (UInt8.ofNat 111), (UInt8.ofNat 108), (UInt8.ofNat 105), (UInt8.ofNat 111)])))), (V.lit (Value.string (ByteArray.mk (Array.mk [(UInt8.ofNat 120)])))), (V.lit (Value.string (ByteArray.mk (Array.mk [(UInt8.ofNat 113), (UInt8.ofNat 117), (UInt8.ofNat 97), (UInt8.ofNat 114), (UInt8.ofNat 116), (UInt8.ofNat 111)])))), (V.lit (Value.string (ByteArray.mk (Array.mk [(UInt8.ofNat 120), (UInt8.ofNat 121)])))), (V.lit (Value.string (ByteArray.mk (Array.mk [(UInt8.ofNat 111), (UInt8.ofNat 99), (UInt8.ofNat 116), (UInt8.ofNat 97), (UInt8.ofNat 118), (UInt8.ofNat 111)])))), (V.lit (Value.string (ByteArray.mk (Array.mk [(UInt8.ofNat 120), (UInt8.ofNat 121), (UInt8.ofNat 120)]))))] 115)) Tr.leaf) none Tr.leaf)) none (Tr.node Tr.leaf none (Tr.node (Tr.node Tr.leaf (some (Ob.cells [(V.slc 41 0 3 3 Bool.false), (V.slc 44 0 1 1 Bool.false), (V.lit (Value.int IntKind.i64 (Int.ofNat 10))), (V.lit (Value.int IntKind.i64 (Int.ofNat 2)))] 25)) Tr.leaf) none Tr.leaf)))) (some (.cells tab64 t)) (Tr.node (Tr.node Tr.leaf none (Tr.node Tr.leaf none (Tr.node (Tr.node Tr.leaf (some (Ob.cells [(V.lit (Value.string (ByteArray.mk (Array.mk [(UInt8.ofNat 112), (UInt8.ofNat 111), (UInt8.ofNat 116)])))), (V.lit (Value.int IntKind.i64 (Int.ofNat 400))), (V.lit (Value.int IntKind.i64 (Int.ofNat 410))), (V.lit (Value.int IntKind.i64 (Int.ofNat 300))), (V.lit (Value.int IntKind.i64 (Int.ofNat 306)))] 67)) Tr.leaf) none Tr.leaf))) none (Tr.node (Tr.node (Tr.node (Tr.node (Tr.node (Tr.node Tr.leaf (some (Ob.cells [(V.lit (Value.int IntKind.i64 (Int.ofNat 0))), (V.lit (Value.int IntKind.i64 (Int.ofNat 0))), (V.lit (Value.int IntKind.i64 (Int.ofNat 0))), (V.lit (Value.bool Bool.false)), (V.lit (Value.bool Bool.false)), (V.lit (Value.int IntKind.i64 (Int.ofNat 0))), (V.lit (Value.int IntKind.i64 (Int.ofNat 1))), (V.lit (Value.int IntKind.i64 (Int.ofNat 0))), (V.lit (Value.bool Bool.true)), (V.lit (Value.bool Bool.true)), (V.lit (Value.int IntKind.i64 (Int.ofNat 0))), (V.lit (Value.int IntKind.i64 (Int.ofNat 1))), (V.lit (Value.int IntKind.i64 (Int.ofNat 1))), (V.lit (Value.bool Bool.false)), (V.lit (Value.bool Bool.true)), (V.lit (Value.int IntKind.i64 (Int.ofNat 0))), (V.lit (Value.int IntKind.i64 (Int.ofNat 0))), (V.lit (Value.int IntKind.i64 (Int.ofNat 1))), (V.lit (Value.bool Bool.true)), (V.lit (Value.bool Bool.false))] 106)) Tr.leaf) none Tr.leaf) none Tr.leaf) none Tr.leaf) none Tr.leaf) none Tr.leaf))⟩
theorem yfP2 (t : TypeId) : evGc Tryz.prog 100000 (piece 2 (bodyOf Tryz.f16)) yfA2 (yfH2 t) [0, 41, 44, 45, 130] = .ok (.normal, yfA3, yfH3 t) := by kernel_rfl
def yfA4 : Fr := (Fr.mk (Tr.node (Tr.node (Tr.node (Tr.node (Tr.node (Tr.node Tr.leaf (some (V.lit (Value.int IntKind.i64 (Int.ofNat 0)))) Tr.leaf) none Tr.leaf) none Tr.leaf) (some (V.lit (Value.int IntKind.i64 (Int.ofNat 0)))) (Tr.node (Tr.node (Tr.node Tr.leaf (some (V.tup [(V.slc 234 0 4 4 Bool.true), (V.lit (Value.int IntKind.i64 (Int.ofNat 0)))])) Tr.leaf) none Tr.leaf) none (Tr.node Tr.leaf (some (V.agg [(V.slc 41 0 3 3 Bool.false), (V.slc 44 0 1 1 Bool.false), (V.lit (Value.int IntKind.i64 (Int.ofNat 10))), (V.lit (Value.int IntKind.i64 (Int.ofNat 2)))])) Tr.leaf))) (some (V.ptr 45 0)) (Tr.node (Tr.node (Tr.node (Tr.node Tr.leaf (some (V.agg [(V.slc 41 0 3 3 Bool.false), (V.slc 44 0 1 1 Bool.false), (V.lit (Value.int IntKind.i64 (Int.ofNat 10))), (V.lit (Value.int IntKind.i64 (Int.ofNat 2)))])) Tr.leaf) none Tr.leaf) none (Tr.node Tr.leaf (some (V.agg [(V.slc 41 0 3 3 Bool.false), (V.slc 44 0 1 1 Bool.false), (V.lit (Value.int IntKind.i64 (Int.ofNat 10))), (V.lit (Value.int IntKind.i64 (Int.ofNat 2)))])) Tr.leaf)) (some (V.lit (Value.int IntKind.i64 (Int.ofNat 0)))) (Tr.node (Tr.node (Tr.node Tr.leaf (some (V.lit (Value.int IntKind.i64 (Int.ofNat 0)))) Tr.leaf) none Tr.leaf) none (Tr.node Tr.leaf (some (V.tup [(V.slc 130 0 4 4 Bool.true), (V.lit (Value.int IntKind.i64 (Int.ofNat 0)))])) Tr.leaf)))) (some (V.lit (Value.bool Bool.false))) (Tr.node (Tr.node (Tr.node (Tr.node (Tr.node Tr.leaf (some (V.tup [(V.slc 234 0 4 4 Bool.true), (V.lit (Value.int IntKind.i64 (Int.ofNat 0)))])) Tr.leaf) none Tr.leaf) none Tr.leaf) (some (V.slc 234 0 4 4 Bool.true)) (Tr.node (Tr.node (Tr.node Tr.leaf (some (V.slc 234 0 4 4 Bool.true)) Tr.leaf) none Tr.leaf) none (Tr.node Tr.leaf (some (V.agg [(V.lit (Value.int IntKind.i64 (Int.ofNat 1))), (V.lit (Value.int IntKind.i64 (Int.ofNat 0))), (V.lit (Value.int IntKind.i64 (Int.ofNat 1))), (V.lit (Value.bool Bool.false))])) Tr.leaf))) (some (V.slc 130 0 4 4 Bool.true)) (Tr.node (Tr.node (Tr.node (Tr.node Tr.leaf (some (V.agg [(V.lit (Value.int IntKind.i64 (Int.ofNat 1))), (V.lit (Value.int IntKind.i64 (Int.ofNat 0))), (V.lit (Value.int IntKind.i64 (Int.ofNat 1))), (V.lit (Value.bool Bool.false))])) Tr.leaf) none Tr.leaf) none (Tr.node Tr.leaf (some (V.tup [(V.slc 130 0 4 4 Bool.true), (V.lit (Value.int IntKind.i64 (Int.ofNat 0)))])) Tr.leaf)) none (Tr.node Tr.leaf none (Tr.node Tr.leaf (some (V.slc 130 0 4 4 Bool.true)) Tr.leaf))))) 194 [] 1)
def yfH4 (t : TypeId) : H := ⟨235, 40, 40, .node (Tr.node Tr.leaf none (Tr.node (Tr.node Tr.leaf none (Tr.node (Tr.node Tr.leaf (some (Ob.cells [(V.lit (Value.string (ByteArray.mk (Array.mk [(UInt8.ofNat 102), (UInt8.ofNat 111), (UInt8.ofNat 108), (UInt8.ofNat 105), (UInt8.ofNat 111)])))), (V.lit (Value.string (ByteArray.mk (Array.mk [(UInt8.ofNat 120)])))), (V.lit (Value.string (ByteArray.mk (Array.mk [(UInt8.ofNat 113), (UInt8.ofNat 117), (UInt8.ofNat 97), (UInt8.ofNat 114), (UInt8.ofNat 116), (UInt8.ofNat 111)])))), (V.lit (Value.string (ByteArray.mk (Array.mk [(UInt8.ofNat 120), (UInt8.ofNat 121)])))), (V.lit (Value.string (ByteArray.mk (Array.mk [(UInt8.ofNat 111), (UInt8.ofNat 99), (UInt8.ofNat 116), (UInt8.ofNat 97), (UInt8.ofNat 118), (UInt8.ofNat 111)])))), (V.lit (Value.string (ByteArray.mk (Array.mk [(UInt8.ofNat 120), (UInt8.ofNat 121), (UInt8.ofNat 120)]))))] 115)) Tr.leaf) none Tr.leaf)) none (Tr.node Tr.leaf none (Tr.node (Tr.node Tr.leaf (some (Ob.cells [(V.slc 41 0 3 3 Bool.false), (V.slc 44 0 1 1 Bool.false), (V.lit (Value.int IntKind.i64 (Int.ofNat 10))), (V.lit (Value.int IntKind.i64 (Int.ofNat 2)))] 25)) Tr.leaf) none Tr.leaf)))) (some (.cells tab64 t)) (Tr.node (Tr.node Tr.leaf none (Tr.node Tr.leaf none (Tr.node (Tr.node Tr.leaf (some (Ob.cells [(V.lit (Value.string (ByteArray.mk (Array.mk [(UInt8.ofNat 112), (UInt8.ofNat 111), (UInt8.ofNat 116)])))), (V.lit (Value.int IntKind.i64 (Int.ofNat 400))), (V.lit (Value.int IntKind.i64 (Int.ofNat 410))), (V.lit (Value.int IntKind.i64 (Int.ofNat 300))), (V.lit (Value.int IntKind.i64 (Int.ofNat 306)))] 67)) Tr.leaf) none Tr.leaf))) none (Tr.node (Tr.node (Tr.node (Tr.node (Tr.node (Tr.node Tr.leaf (some (Ob.cells [(V.lit (Value.int IntKind.i64 (Int.ofNat 0))), (V.lit (Value.int IntKind.i64 (Int.ofNat 0))), (V.lit (Value.int IntKind.i64 (Int.ofNat 0))), (V.lit (Value.bool Bool.false)), (V.lit (Value.bool Bool.false)), (V.lit (Value.int IntKind.i64 (Int.ofNat 0))), (V.lit (Value.int IntKind.i64 (Int.ofNat 1))), (V.lit (Value.int IntKind.i64 (Int.ofNat 0))), (V.lit (Value.bool Bool.true)), (V.lit (Value.bool Bool.true)), (V.lit (Value.int IntKind.i64 (Int.ofNat 0))), (V.lit (Value.int IntKind.i64 (Int.ofNat 1))), (V.lit (Value.int IntKind.i64 (Int.ofNat 1))), (V.lit (Value.bool Bool.false)), (V.lit (Value.bool Bool.true)), (V.lit (Value.int IntKind.i64 (Int.ofNat 0))), (V.lit (Value.int IntKind.i64 (Int.ofNat 0))), (V.lit (Value.int IntKind.i64 (Int.ofNat 1))), (V.lit (Value.bool Bool.true)), (V.lit (Value.bool Bool.false))] 106)) Tr.leaf) none Tr.leaf) none Tr.leaf) none Tr.leaf) none (Tr.node (Tr.node Tr.leaf none (Tr.node Tr.leaf none (Tr.node Tr.leaf (some (Ob.cells [(V.lit (Value.int IntKind.i64 (Int.ofNat 2))), (V.lit (Value.int IntKind.i64 (Int.negSucc 2))), (V.lit (Value.int IntKind.i64 (Int.ofNat 7))), (V.lit (Value.int IntKind.i64 (Int.negSucc 5)))] 3)) Tr.leaf))) none Tr.leaf)) none Tr.leaf))⟩
theorem yfP3 (t : TypeId) : evGc Tryz.prog 100000 (piece 3 (bodyOf Tryz.f16)) yfA3 (yfH3 t) [0, 41, 44, 45, 130, 234] = .ok (.normal, yfA4, yfH4 t) := by kernel_rfl
end
end Go.Proofs.YtnhacghjoikgpaaGreatDoor
