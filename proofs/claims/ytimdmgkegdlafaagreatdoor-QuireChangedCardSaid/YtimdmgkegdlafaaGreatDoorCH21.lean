/- The parts Rn of the proof, joined. It holds without conditions of its own. -/
import Derived.Test.YtimdmgkegdlafaaGreatDoorCH20
import Derived.Deep.LoopGhost
/- Contract of package quire: the gatherings for which items stand. -/
namespace Go.Proofs.YtimdmgkegdlafaaGreatDoor
set_option linter.unusedSimpArgs false
set_option linter.unusedVariables false
open Go Go.RowKit Go.Sort Go.BigFrame

theorem elemGth : ∃ i, Tryz.prog.info? 42 = some i ∧ i.zero = some (.agg #[.int .i64 0, .int .i64 0, .int .i64 0, .slice none 0 0]) ∧ i.size = 4 ∧ i.bytes = 48 := elemOf (by kernel_rfl)
theorem undGths : Tryz.prog.underlying 22 = some (.slice 42) := by kernel_rfl
theorem cells_new' (W : World) (l : List Value) (t : TypeId) (b : Nat) (hb : b = W.heap.size) : ∀ j u, l[j]? = some u → (W.alloc (.cells ⟨l⟩ t)).cell? ((⟨b, 0, none⟩ : Addr).add j) = some u := by
  subst hb; exact cells_new W l t
/-- How gatherings are gathered. -/
structure Gat (Pc : Value → List Chg → Prop) (w wr : World) (v : Value) (zs : List (Gth × Value)) : Prop where
  row : wr.ownsRow w.heap.size 42 4 v zs.length (gtCells zs)
  chs : ∀ z ∈ zs, Pc z.2 z.1.chs
  below : Below w.heap.size w wr
theorem Gat.same {Pc : Value → List Chg → Prop} {w wr wr' : World} {v : Value} {zs : List (Gth × Value)} (h : Gat Pc w wr v zs) (hb : Below wr.heap.size wr wr') : Gat Pc w wr' v zs :=
  ⟨row_later h.row hb, h.chs, h.below.trans (hb.mono h.below.size)⟩
theorem Gat.add {Pc : Value → List Chg → Prop} {w wr wr' : World} {v v' : Value} {zs : List (Gth × Value)} {z : Gth × Value} (h : Gat Pc w wr v zs) (hz : Pc z.2 z.1.chs) (hr : wr'.ownsRow w.heap.size 42 4 v' (zs.length + 1) (gtCells zs ++ gtC z)) (hg : wr.grownBy wr' v.ownBlock) : Gat Pc w wr' v' (zs ++ [z]) :=
  ⟨by rw [List.length_append]; simpa [gtCells] using hr, fun y hy => by
    rcases List.mem_append.1 hy with hy | hy
    · exact h.chs y hy
    · simp only [List.mem_singleton] at hy; subst hy; exact hz, h.below.grown hg h.below.size (fun j ej => (h.row.lt j ej).1)⟩
theorem Gat.new {Pc : Value → List Chg → Prop} {w wr : World} {v : Value} {zs : List (Gth × Value)} (h : Gat Pc w wr v zs) (o : Obj) : Gat Pc w (wr.alloc o) v zs := h.same (by exact (by repeat (first | exact Below.refl _ _ | assumption | (refine Below.alloc ?_ ?_ _; rotate_left; · (first | omega | (simp; done) | (simp; omega) | fail)) | (refine Below.setCell ?_ ?_ _; rotate_left; · (first | omega | (simp; done) | (simp; omega) | fail)) | refine Below.drew ?_ | fail)))

theorem blk_grown {W W' : World} {ow : Option Nat} {b : Nat} {o : Obj} (h : W.heap[b]? = some o) (hg : W.grownBy W' ow) (ho : ∀ g, ow = some g → W.heap[g]? ≠ some o) : W'.heap[b]? = some o :=
  (hg.block b (blk_lt h) (fun e => ho b e.symm h)).trans h
theorem Gat.ne {Pc : Value → List Chg → Prop} {w wr : World} {v : Value} {zs : List (Gth × Value)} (h : Gat Pc w wr v zs) {c : Array Value} {t : TypeId} {f : Nat × Nat} (ht : t ≠ 42) : ∀ g, v.ownBlock = some g → wr.heap[g]? ≠ some (.cells c t f) := by
  intro g hg e
  rcases h.row.2 with ⟨rfl, -⟩ | ⟨g', cap, cur, rfl, hb, hgg, rest⟩
  · simp [Value.ownBlock] at hg
  · simp only [Value.ownBlock, Option.some.injEq] at hg
    subst hg
    rw [hgg] at e
    simp only [Option.some.injEq, Obj.cells.injEq] at e
    exact ht e.2.1.symm
theorem grown_set (w : World) (a : Addr) (u : Value) : w.grownBy (w.setCell a u) (some a.block) :=
  ⟨rfl, rfl, rfl, by simp [World.setCell], fun k _ hk => Below.heap_setCell w a u k (fun e => hk (by rw [e]))⟩
theorem Gat.set {Pc : Value → List Chg → Prop} {w wr : World} {v : Value} {zs : List (Gth × Value)} (h : Gat Pc w wr v zs) {b : Nat} {c : Array Value} {t : TypeId} {f : Nat × Nat} (hb : wr.heap[b]? = some (.cells c t f)) (ht : t ≠ 42) (hw : w.heap.size ≤ b) (i : Nat) (u : Value) : Gat Pc w (wr.setCell ⟨b, i, none⟩ u) v zs :=
  ⟨h.row.kept (grown_set wr ⟨b, i, none⟩ u) (.inr (fun e => h.ne ht b e hb)), h.chs, h.below.setCell hw _⟩
/-- The inner loop's state: the item's box, the signature's box, and what has been gathered. -/
structure Inn (Pc : Value → List Chg → Prop) (w wy : World) (BX bs : Nat) (xc : Array Value) (r l : Int) (v : Value) (zz : List (Gth × Value)) : Prop where
  gat : Gat Pc w wy v zz
  bx : wy.heap[BX]? = some (.cells xc 102)
  bs : wy.heap[bs]? = some (.cells #[.int .i64 r, .int .i64 l] 39)
theorem Inn.same {Pc : Value → List Chg → Prop} {w wy wy' : World} {BX bs : Nat} {xc : Array Value} {r l : Int} {v : Value} {zz : List (Gth × Value)} (h : Inn Pc w wy BX bs xc r l v zz) (hb : Below wy.heap.size wy wy') : Inn Pc w wy' BX bs xc r l v zz :=
  ⟨h.gat.same hb, blk_later hb h.bx, blk_later hb h.bs⟩
theorem Inn.add {Pc : Value → List Chg → Prop} {w wy wy' : World} {BX bs : Nat} {xc : Array Value} {r l : Int} {v v' : Value} {zz : List (Gth × Value)} {z : Gth × Value} (h : Inn Pc w wy BX bs xc r l v zz) (hz : Pc z.2 z.1.chs) (hr : wy'.ownsRow w.heap.size 42 4 v' (zz.length + 1) (gtCells zz ++ gtC z)) (hg : wy.grownBy wy' v.ownBlock) : Inn Pc w wy' BX bs xc r l v' (zz ++ [z]) :=
  ⟨h.gat.add hz hr hg, blk_grown h.bx hg (h.gat.ne (by decide)), blk_grown h.bs hg (h.gat.ne (by decide))⟩
theorem next_is (r l : Int) (w : World) (hl : 0 ≤ l ∧ l ≤ 100) (hr : 0 ≤ r ∧ r ≤ 100) :
    Calls Tryz.prog 75 #[.agg #[.int .i64 r, .int .i64 l]] w fun e w' => e = .returned (.agg #[.int .i64 (nextS r l).1, .int .i64 (nextS r l).2]) ∧ Below w.heap.size w w' := by
  refine (following_any r l w hl hr).mono fun e w' ⟨h1, h2⟩ => ⟨?_, h2⟩
  rw [h1]; unfold nextS; split <;> rfl
theorem gtC_one (z : Gth × Value) (h : ∃ a n c, z.2 = .slice a n c) : ∀ u ∈ gtC z, u.oneCell' = true := by
  obtain ⟨a, n, c, h⟩ := h
  intro u hu
  simp only [gtC, List.mem_cons, List.not_mem_nil, or_false] at hu
  rcases hu with rfl | rfl | rfl | rfl
  · rfl
  · rfl
  · rfl
  · rw [h]; rfl
theorem sig_bounds {r l : Int} (h : sigB r l = true) : 1 ≤ r ∧ r ≤ 3 ∧ 0 ≤ l ∧ l ≤ 24 := by
  simp only [sigB, inB, Bool.and_eq_true, decide_eq_true_eq] at h
  omega
set_option maxRecDepth 100000 in
set_option maxHeartbeats 8000000 in
theorem gatheringsOf_any (Pc : Value → List Chg → Prop) (hPn : Pc (.slice none 0 0) []) (hPs : ∀ v cs, Pc v cs → ∃ a cap, v = .slice a cs.length cap) (ys : List (Itm × Value)) (v : Value) (w : World) (hv : ItsAt w v ys) (hc : ∀ y ∈ ys, Pc y.2 y.1.chs) (hr : ∀ y ∈ ys, ItRead y.1) (hn : ys.length ≤ 1000) :
    Calls Tryz.prog 62 #[v] w fun e w' => (∃ v' zs, e = .returned v' ∧ zs.map (·.1) = gsOf (ys.map (·.1)) ∧ w'.ownsRow w.heap.size 42 4 v' zs.length (gtCells zs) ∧ ∀ z ∈ zs, Pc z.2 z.1.chs) ∧ Below w.heap.size w w' := by
  obtain ⟨a, cap, rfl, hcell⟩ := hv
  obtain ⟨n, hnn⟩ : ∃ n, n = ys.length := ⟨_, rfl⟩
  have HCE := Lib.hid hcell
  have HCH := Lib.hid hc
  have HRD := Lib.hid hr
  have HN := Lib.hid hnn
  have hn' : n ≤ 1000 := by omega
  rw [← hnn]
  have HPS := Lib.hid hPs
  clear hcell hc hr hnn hn hPs
  go_enter Tryz.func62, Tryz.ntmps62
  go_wp2
  go_step3
  go_wp2
  go_step3
  go_wp2
  go_loopg [3, 9] n (fun g v i wr => ∃ (k : Nat) (zs : List (Gth × Value)), k + g = n ∧ i = .int .i64 k ∧ zs.length ≤ k * 69 ∧ Hid (zs.map (·.1) = gsOf ((ys.take k).map (·.1))) ∧ Hid (Gat Pc w wr v zs))
  case atStart => exact ⟨0, [], by omega, rfl, by simp, rfl, World.ownsRow_nil _ _ _ _, fun z hz => (by cases hz), Below.refl _ _⟩
  case round =>
    obtain ⟨k, zs, hk, rfl, hzl, HZ, HG⟩ := hrel
    cases gk with
    | succ g =>
      have hlt : k < n := by omega
      obtain ⟨y, hy⟩ : ∃ y, ys[k]? = some y := ⟨_, List.getElem?_eq_getElem (by have := HN.out; omega)⟩
      have hym := List.mem_of_getElem? hy
      have hred := HRD.out y hym
      have hchs := HCH.out y hym
      obtain ⟨b, rfl, hbw, hcl⟩ := HCE.out (fun e => by rw [e] at hy; cases hy)
      obtain ⟨q0, q1, q2, q3, q4, q5, q6⟩ := hcl k y hy
      have hstep : Hid (gsOf ((ys.take (k + 1)).map (·.1)) = gsOf ((ys.take k).map (·.1)) ++ itmGs y.1) := by
        show _ = _
        rw [(take_split hy).2, List.map_append]
        simp [gsOf]
      obtain ⟨⟨kd, fr, fl, lr, ll, lv, chs⟩, cv⟩ := y
      dsimp only at hchs
      have HCC := Lib.hid hchs
      obtain ⟨ac, capc, rfl⟩ := HPS.out _ _ hchs
      dsimp only at q0 q1 q2 q3 q4 q5 q6
      have hcl' : ∀ i v, w.cell? ⟨b, i, none⟩ = some v → wr.cell? ⟨b, i, none⟩ = some v := fun i v h => (HG.out.below.cell (p := ⟨b, i, none⟩) hbw).trans h
      have q0 := hcl' _ _ q0
      have q1 := hcl' _ _ q1
      have q2 := hcl' _ _ q2
      have q3 := hcl' _ _ q3
      have q4 := hcl' _ _ q4
      have q5 := hcl' _ _ q5
      have q6 := hcl' _ _ q6
      obtain ⟨ei, hi1, hi2, hi3, hi4⟩ := elemGth
      have hz := HG.out.below.size
      have HRE := Lib.hid hred
      clear hcl hcl' hy hym hred
      rcases HRE.out.kind with ⟨hk0, -⟩ | ⟨hk1, -⟩
      · dsimp only at hk0
        subst hk0
        go_wp2_with (at_builtin; refine wpList_append_own _ rfl _ _ 22 rfl w.heap.size 42 ei _ 4 48 undGths hi1 hi2 hi3 hi4 rfl (by decide) u3 zs.length (gtCells zs) rfl ((HG.out.row.alloc _).alloc _) ⟨wr.heap.size + 1, 0, none⟩ 1 1 (gtC (⟨fr, fl, lv, chs⟩, .slice ac chs.length capc)) rfl rfl ?c1 ?c2 ?c3 ?c4 ?c5 ?c6)
        case c1 => intro j u h; exact h
        case c2 => exact gtC_one _ ⟨_, _, _, rfl⟩
        case c3 => simp only [maxLen]; omega
        case c4 => omega
        case c5 => omega
        case c6 =>
          rintro v' w' hown hgrow -
          have HG2 := Lib.hid (((HG.out.new _).new _).add (z := (⟨fr, fl, lv, chs⟩, .slice ac chs.length capc)) HCC.out hown hgrow)
          clear hown hgrow
          go_wp2_with fail
          go_roundg g
          case measure => omega
          case rel => exact ⟨k + 1, zs ++ [(⟨fr, fl, lv, chs⟩, .slice ac chs.length capc)], by omega, by go_num, (by rw [List.length_append, List.length_singleton]; omega), (by show _ = _; rw [hstep.out, List.map_append, HZ.out]; rfl), HG2⟩
      · dsimp only at hk1
        subst hk1
        have hb1 := sig_bounds HRE.out.first
        have hb2 := sig_bounds HRE.out.last
        obtain ⟨hfl, hll, hbeh, -⟩ : fl < 23 ∧ ll < 23 ∧ behindB lr ll fr fl = true ∧ chs = [] := by
          rcases HRE.out.kind with ⟨h, -⟩ | ⟨-, h⟩
          · exact absurd (show (1 : Int) = 0 from h) (by decide)
          · exact h
        dsimp only at hb1 hb2
        have hrk := rank_behind ⟨hb2.2.2.1, hll⟩ ⟨hb1.2.2.1, hfl⟩ hbeh
        obtain ⟨M, hM⟩ : ∃ M : Nat, M = (rankS lr ll - rankS fr fl).toNat := ⟨_, rfl⟩
        have hMb : (M : Int) = rankS lr ll - rankS fr fl := by omega
        have hM68 : M ≤ 68 := by unfold rankS at hMb; omega
        have hstep2 : Hid (gsOf ((ys.take (k + 1)).map (·.1)) = zs.map (·.1) ++ (runS M (fr, fl) (lr, ll)).map fun s => ⟨s.1, s.2, lv, []⟩) := by
          show _ = _
          rw [hstep.out, HZ.out, hM]
          simp [itmGs]
        clear hbeh hM hstep
        go_wp2_with fail
        obtain ⟨BX, hBX⟩ : ∃ BX, BX = wr.heap.size := ⟨_, rfl⟩
        obtain ⟨w1, hw1⟩ : ∃ w1, w1 = (wr.alloc (.cells #[.int .i64 1, .int .i64 fr, .int .i64 fl, .int .i64 lr, .int .i64 ll, .int .i64 lv, .slice ac chs.length capc] 102)).alloc (.cells #[.int .i64 fr, .int .i64 fl] 39) := ⟨_, rfl⟩
        have HS0 : Hid (Inn Pc w w1 BX (BX + 1) #[.int .i64 1, .int .i64 fr, .int .i64 fl, .int .i64 lr, .int .i64 ll, .int .i64 lv, .slice ac chs.length capc] fr fl u3 zs) := by
          show Inn _ _ _ _ _ _ _ _ _ _
          rw [hw1, hBX]
          exact ⟨(HG.out.new _).new _, (heap_alloc_past _ _ _ (by simp)).trans (heap_alloc_at _ _ _ rfl), heap_alloc_at _ _ _ (by simp)⟩
        have hBXs : w.heap.size ≤ BX := by omega
        rw [← hw1, ← hBX]
        clear hw1 hBX q0 q1 q2 q3 q4 q5 q6 hz
        go_loopg [3, 6] M (fun g2 v p wy => ∃ (zz : List (Gth × Value)) (r l : Int) (bs : Nat), p = .pointer (some ⟨bs, 0, none⟩) ∧ Hid (Inn Pc w wy BX bs #[.int .i64 1, .int .i64 fr, .int .i64 fl, .int .i64 lr, .int .i64 ll, .int .i64 lv, .slice ac chs.length capc] r l v zz) ∧
          1 ≤ r ∧ r ≤ 3 ∧ 0 ≤ l ∧ l < 23 ∧ (g2 : Int) = rankS lr ll - rankS r l ∧ zz.length + g2 ≤ zs.length + M ∧ Hid (zz.map (·.1) ++ (runS g2 (r, l) (lr, ll)).map (fun s => (⟨s.1, s.2, lv, []⟩ : Gth)) = gsOf ((ys.take (k + 1)).map (·.1))))
        case atStart => exact ⟨zs, fr, fl, BX + 1, rfl, HS0, by omega, by omega, by omega, by omega, hMb, by omega, hstep2.out.symm⟩
        case round =>
          obtain ⟨zz, r, l, bs, rfl, HS, r1, r2, l1, l2, hg2, hzz, HT⟩ := hrel
          clear HS0
          have x0 := blk_cell HS.out.bx 0; have x1 := blk_cell HS.out.bx 1; have x2 := blk_cell HS.out.bx 2; have x3 := blk_cell HS.out.bx 3; have x4 := blk_cell HS.out.bx 4; have x5 := blk_cell HS.out.bx 5; have x6 := blk_cell HS.out.bx 6
          have s0 := blk_cell HS.out.bs 0; have s1 := blk_cell HS.out.bs 1
          have hbs := blk_lt HS.out.bs
          have hbx := blk_lt HS.out.bx
          go_wp2_with (at_builtin; refine wpList_append_own _ rfl _ _ 22 rfl w.heap.size 42 ei _ 4 48 undGths hi1 hi2 hi3 hi4 rfl (by decide) _ zz.length (gtCells zz) rfl (HS.out.gat.row.alloc _) ⟨_, 0, none⟩ 1 1 (gtC (⟨r, l, lv, []⟩, .slice none 0 0)) rfl rfl ?c1 ?c2 ?c3 ?c4 ?c5 ?c6)
          case c1 => exact cells_new _ _ _
          case c2 => exact gtC_one _ ⟨_, _, _, rfl⟩
          case c3 => simp only [maxLen]; omega
          case c4 => omega
          case c5 => have := HS.out.gat.below.size; simp; omega
          case c6 =>
            rintro v' w' hown hgrow -
            have HS2 := Lib.hid ((HS.out.same (by exact (by repeat (first | exact Below.refl _ _ | assumption | (refine Below.alloc ?_ ?_ _; rotate_left; · (first | omega | (simp; done) | (simp; omega) | fail)) | (refine Below.setCell ?_ ?_ _; rotate_left; · (first | omega | (simp; done) | (simp; omega) | fail)) | refine Below.drew ?_ | fail)))).add (z := (⟨r, l, lv, []⟩, .slice none 0 0)) hPn hown hgrow)
            clear x0 x1 x2 x3 x4 x5 x6
            clear hown hgrow s0 s1 hbs hbx
            have x0 := blk_cell HS2.out.bx 0; have x1 := blk_cell HS2.out.bx 1; have x2 := blk_cell HS2.out.bx 2; have x3 := blk_cell HS2.out.bx 3; have x4 := blk_cell HS2.out.bx 4; have x5 := blk_cell HS2.out.bx 5; have x6 := blk_cell HS2.out.bx 6
            have s0 := blk_cell HS2.out.bs 0; have s1 := blk_cell HS2.out.bs 1
            cases gk with
            | zero =>
              obtain ⟨rfl, rfl⟩ := rank_inj (r := r) (l := l) (r' := lr) (l' := ll) ⟨l1, l2⟩ ⟨hb2.2.2.1, hll⟩ (by omega)
              go_wp2_with fail
              go_roundg g
              case measure => omega
              case rel =>
                refine ⟨k + 1, zz ++ [(⟨r, l, lv, []⟩, .slice none 0 0)], by omega, by go_num, (by rw [List.length_append, List.length_singleton]; omega), ?_, Lib.hid HS2.out.gat⟩
                show _ = _
                rw [← HT.out, List.map_append, runS_stop]
                rfl
            | succ g2 =>
              have hne : ¬ r = lr ∨ (r = lr ∧ ¬ l = ll) := by
                by_cases h : r = lr
                · refine Or.inr ⟨h, fun h' => ?_⟩
                  subst h h'
                  omega
                · exact Or.inl h
              have hrun : Hid (runS (g2 + 1) (r, l) (lr, ll) = (r, l) :: runS g2 (nextS r l) (lr, ll)) := by
                show _ = _
                simp only [runS]
                rw [if_neg]
                intro e
                simp only [Prod.mk.injEq] at e
                rcases hne with h | ⟨-, h⟩
                · exact h e.1
                · exact h e.2
              have hrn := rank_next (r := r) (l := l) l2
              have hnx := nextS_ok (r := r) (l := l) ⟨l1, l2⟩
              have hr3 : (nextS r l).1 ≤ 3 := by
                have : rankS (nextS r l).1 (nextS r l).2 ≤ rankS lr ll := by omega
                unfold rankS at this
                omega
              have hbs := blk_lt HS2.out.bs
              rcases hne with h | ⟨h, h'⟩
              · go_wp2_with fail
                refine (next_is r l _ (by omega) (by omega)).mono ?_
                rintro e w3 ⟨rfl, hb⟩
                have HS3 := Lib.hid (HS2.out.same (Below.trans (by exact (by repeat (first | exact Below.refl _ _ | assumption | (refine Below.alloc ?_ ?_ _; rotate_left; · (first | omega | (simp; done) | (simp; omega) | fail)) | (refine Below.setCell ?_ ?_ _; rotate_left; · (first | omega | (simp; done) | (simp; omega) | fail)) | refine Below.drew ?_ | fail))) (hb.mono (by simp))))
                have hq : w3.heap[w'.heap.size]? = some (.cells #[.int .i64 r, .int .i64 l] 39) := blk_later hb (heap_alloc_at _ _ _ rfl)
                have hxl := blk_lt HS2.out.bx
                have hwb := HS2.out.gat.below.size
                clear x0 x1 x2 x3 x4 x5 x6
                clear s0 s1 hb HS2
                have s0 := blk_cell hq 0; have s1 := blk_cell hq 1
                have y0 := blk_free hq 0; have y1 := blk_free hq 1
                have HQ := Lib.hid hq
                have hw' : w.heap.size ≤ w'.heap.size := by omega
                have hN1 : Hid (nextS r l = ((nextS r l).1, (nextS r l).2)) := by show _ = _; rfl
                obtain ⟨r', hr'⟩ : ∃ r', r' = (nextS r l).1 := ⟨_, rfl⟩
                obtain ⟨l', hl'⟩ : ∃ l', l' = (nextS r l).2 := ⟨_, rfl⟩
                rw [← hr', ← hl'] at hN1 hrn hnx ⊢
                rw [← hr'] at hr3
                clear hq hr' hl'
                go_wp2_with fail
                go_roundg g2
                case measure => omega
                case rel =>
                  refine ⟨zz ++ [(⟨r, l, lv, []⟩, .slice none 0 0)], r', l', w'.heap.size, rfl, ⟨((HS3.out.gat.set HQ.out (by decide) hw' _ _).set (by exact blk_set HQ.out 0 _) (by decide) hw' _ _), (by exact (by repeat (first | (refine (heap_setCell_past _ _ _ _ ?_).trans ?_; · (first | omega | (simp; done) | (simp; omega) | fail)) | (refine (heap_alloc_past _ _ _ ?_).trans ?_; · (first | omega | (simp; done) | (simp; omega) | fail)) | exact HS3.out.bx | fail))), blk_set2 HQ.out _ _⟩, by omega, by omega, by omega, by omega, by omega, (by rw [List.length_append, List.length_singleton]; omega), ?_⟩
                  show _ = _
                  rw [← HT.out, hrun.out, hN1.out, List.map_append, List.map_cons, List.append_assoc]
                  rfl
              · subst h
                go_wp2_with fail
                refine (next_is r l _ (by omega) (by omega)).mono ?_
                rintro e w3 ⟨rfl, hb⟩
                have HS3 := Lib.hid (HS2.out.same (Below.trans (by exact (by repeat (first | exact Below.refl _ _ | assumption | (refine Below.alloc ?_ ?_ _; rotate_left; · (first | omega | (simp; done) | (simp; omega) | fail)) | (refine Below.setCell ?_ ?_ _; rotate_left; · (first | omega | (simp; done) | (simp; omega) | fail)) | refine Below.drew ?_ | fail))) (hb.mono (by simp))))
                have hq : w3.heap[w'.heap.size]? = some (.cells #[.int .i64 r, .int .i64 l] 39) := blk_later hb (heap_alloc_at _ _ _ rfl)
                have hxl := blk_lt HS2.out.bx
                have hwb := HS2.out.gat.below.size
                clear x0 x1 x2 x3 x4 x5 x6
                clear s0 s1 hb HS2
                have s0 := blk_cell hq 0; have s1 := blk_cell hq 1
                have y0 := blk_free hq 0; have y1 := blk_free hq 1
                have HQ := Lib.hid hq
                have hw' : w.heap.size ≤ w'.heap.size := by omega
                have hN1 : Hid (nextS r l = ((nextS r l).1, (nextS r l).2)) := by show _ = _; rfl
                obtain ⟨r', hr'⟩ : ∃ r', r' = (nextS r l).1 := ⟨_, rfl⟩
                obtain ⟨l', hl'⟩ : ∃ l', l' = (nextS r l).2 := ⟨_, rfl⟩
                rw [← hr', ← hl'] at hN1 hrn hnx ⊢
                rw [← hr'] at hr3
                clear hq hr' hl'
                go_wp2_with fail
                go_roundg g2
                case measure => omega
                case rel =>
                  refine ⟨zz ++ [(⟨r, l, lv, []⟩, .slice none 0 0)], r', l', w'.heap.size, rfl, ⟨((HS3.out.gat.set HQ.out (by decide) hw' _ _).set (by exact blk_set HQ.out 0 _) (by decide) hw' _ _), (by exact (by repeat (first | (refine (heap_setCell_past _ _ _ _ ?_).trans ?_; · (first | omega | (simp; done) | (simp; omega) | fail)) | (refine (heap_alloc_past _ _ _ ?_).trans ?_; · (first | omega | (simp; done) | (simp; omega) | fail)) | exact HS3.out.bx | fail))), blk_set2 HQ.out _ _⟩, by omega, by omega, by omega, by omega, by omega, (by rw [List.length_append, List.length_singleton]; omega), ?_⟩
                  show _ = _
                  rw [← HT.out, hrun.out, hN1.out, List.map_append, List.map_cons, List.append_assoc]
                  rfl
    | zero =>
      obtain rfl : k = n := by omega
      have hF : Hid (gsOf (ys.map (·.1)) = zs.map (·.1)) := by show _ = _; rw [HZ.out, HN.out, List.take_length]
      have hlt : ¬ ((k : Int) < (k : Int)) := by omega
      go_wp2_with fail
      try rw [Exit.noGoto_ret]
      go_ret
      exact ⟨⟨_, zs, rfl, hF.out.symm, HG.out.row, HG.out.chs⟩, HG.out.below⟩

end Go.Proofs.YtimdmgkegdlafaaGreatDoor
