/- The parts Re, Cw, Ap, Me of the proof, joined. It holds without conditions of its own. -/
import Derived.Test.YtlekbddlemfokaaDoorKM4
import Derived.Laws.CopyOwn
import Derived.OwnWalk
import Derived.OwnWalkIn
import Derived.RangeFuncBox
import Derived.Test.YtlekbddlemfokaaDoorKM3
import Derived.Below
import Derived.Test.YtlekbddlemfokaaDoorKM1
/- Contracts of the reader: a change. -/
namespace Go.Proofs.YtlekbddlemfokaaDoor
set_option linter.unusedSimpArgs false
set_option linter.unusedVariables false
open Go Go.RowKit Go.Sort Go.BigFrame Go.Lib

/-- A reading function that holds two boxes: its result's and its variable's. -/
structure Bx (w W : World) (R : Nat) (s : Bs) (T : TypeId) (z c : Array Value) : Prop where
  b0 : W.heap[w.heap.size]? = some (.cells z T)
  b1 : W.heap[w.heap.size + 1]? = some (.cells c T)
  rd : Rd W R s
  only : OnlyIn (fun k => k = R) w W
  lt : R < w.heap.size
theorem Bx.call {w W W' : World} {R : Nat} {s t : Bs} {T : TypeId} {z c : Array Value} (h : Bx w W R s T z c) (k : Rw R t W W') : Bx w W' R t T z c :=
  ⟨k.block h.b0 (by have := h.lt; omega), k.block h.b1 (by have := h.lt; omega), k.rd, h.only.trans k.only, h.lt⟩
theorem Bx.same {w W W' : World} {R : Nat} {s : Bs} {T : TypeId} {z c : Array Value} (h : Bx w W R s T z c) (k : Below W.heap.size W W') : Bx w W' R s T z c :=
  ⟨blk_later k h.b0, blk_later k h.b1, blk_later k h.rd, h.only.trans (OnlyIn.of_below k), h.lt⟩
theorem Bx.set1 {w W : World} {R : Nat} {s : Bs} {T : TypeId} {z c : Array Value} (h : Bx w W R s T z c) (i : Nat) (v : Value) : Bx w (W.setCell ⟨w.heap.size + 1, i, none⟩ v) R s T z (c.setIfInBounds i v) :=
  ⟨(heap_setCell_past _ _ _ _ (by simp)).trans h.b0, blk_set h.b1 i v, (heap_setCell_past _ _ _ _ (by have := h.lt; simp; omega)).trans h.rd, h.only.setNew _ _ (by simp), h.lt⟩
theorem Bx.set0 {w W : World} {R : Nat} {s : Bs} {T : TypeId} {z c : Array Value} (h : Bx w W R s T z c) (i : Nat) (v : Value) : Bx w (W.setCell ⟨w.heap.size, i, none⟩ v) R s T (z.setIfInBounds i v) c :=
  ⟨blk_set h.b0 i v, (heap_setCell_past _ _ _ _ (by simp)).trans h.b1, (heap_setCell_past _ _ _ _ (by have := h.lt; simp; omega)).trans h.rd, h.only.setNew _ _ (by simp), h.lt⟩
theorem Bx.rw {w W : World} {R : Nat} {s : Bs} {T : TypeId} {z c : Array Value} (h : Bx w W R s T z c) : Rw R s w W := ⟨h.rd, h.only⟩
theorem Bx.cast {w W : World} {R : Nat} {s : Bs} {T : TypeId} {z z' c c' : Array Value} (h : Bx w W R s T z c) (hz : z = z') (hc : c = c') : Bx w W R s T z' c' := by subst hz; subst hc; exact h
theorem Bx.start {w : World} {R : Nat} {s : Bs} {T : TypeId} {z c : Array Value} (hr : Rd w R s) : Bx w ((w.alloc (.cells z T)).alloc (.cells c T)) R s T z c :=
  have hR := blk_lt hr
  ⟨(heap_alloc_past _ _ _ (by simp)).trans (heap_alloc_at _ _ _ rfl), heap_alloc_at _ _ _ (by simp), (heap_alloc_past _ _ _ (by simp; omega)).trans ((heap_alloc_past _ _ _ hR).trans hr), OnlyIn.trans (OnlyIn.alloc _ _ _) (OnlyIn.alloc _ _ _), hR⟩
/-- The end by a panic. -/
theorem ReadPost.fail {α : Type} {R : Nat} {enc : α → Value} {r : Option (α × Bs)} {w w' : World} {t : Bs} (hr : r = none) (h : Rw R t w w') : ReadPost R enc r w panicE w' := by subst hr; exact ⟨rfl, t, h⟩
theorem ReadPost.done {α : Type} {R : Nat} {enc : α → Value} {r : Option (α × Bs)} {w w' : World} {t : Bs} {x : α} {v : Value} (hr : r = some (x, t)) (hv : enc x = v) (h : Rw R t w w') : ReadPost R enc r w (.returned v) w' := by subst hr; exact ⟨by rw [hv], h⟩

def chgV (c : Chg) : Value := .agg #[.int .i64 c.kind, .int .i64 c.pos, .int .i64 c.many]

-- a store into a cell of the variable's box: the new world under a name
-- number_any has been met at u: its end by a panic
set_option maxHeartbeats 2000000 in
theorem change_any (R : Nat) (s : Bs) (w : World) (hr : Rd w R s) :
    Calls Tryd.prog 75 #[.pointer (some ⟨R, 0, none⟩)] w (ReadPost R chgV (changeF s) w) := by
  have HX := Lib.hid (Bx.start (T := 43) (z := #[.int .i64 0, .int .i64 0, .int .i64 0]) (c := #[.int .i64 0, .int .i64 0, .int .i64 0]) hr)
  clear hr
  cases hs : skipF [45] s with
  | some t =>
    go_enter Tryd.func75, Tryd.ntmps75
    go_wp2_with fail
    refine (skip_yes R s [45] t _ HX.out.rd hs).mono ?_
    rintro e w1 ⟨rfl, hw1⟩
    have HX := Lib.hid (HX.out.call hw1)
    clear hw1
    have c0 := blk_cell HX.out.b1 0; have c1 := blk_cell HX.out.b1 1; have c2 := blk_cell HX.out.b1 2
    have f0 := blk_free HX.out.b1 0; have f1 := blk_free HX.out.b1 1; have f2 := blk_free HX.out.b1 2
    have z0 := blk_cell HX.out.b0 0; have z1 := blk_cell HX.out.b0 1; have z2 := blk_cell HX.out.b0 2
    have y0 := blk_free HX.out.b0 0; have y1 := blk_free HX.out.b0 1; have y2 := blk_free HX.out.b0 2
    go_wp2_with fail
    clear c0 c1 c2 f0 f1 f2 z0 z1 z2 y0 y1 y2
    have HX := Lib.hid (HX.out.set1 0 (.int .i64 1))
    revert HX
    generalize w1.setCell ⟨w.heap.size + 1, 0, none⟩ (.int .i64 1) = w2
    intro HX
    refine (number_any R t _ HX.out.rd).mono ?_
    intro e w3 hp
    cases hl : numberF t with
    | none =>
      rw [hl] at hp
      have hF : changeF s = none := by simp [changeF, *]
      obtain ⟨rfl, t', hw⟩ := hp
      have HX := Lib.hid (HX.out.call hw)
      have HF := Lib.hid hF
      clear hw hl hF
      go_wp2_with fail
      exact ⟨rfl, ReadPost.fail HF.out HX.out.rw⟩
    | some p =>
      obtain ⟨n, u⟩ := p
      rw [hl] at hp
      obtain ⟨rfl, hw⟩ := hp
      have hF : Hid (changeF s = some (⟨1, n, 0⟩, u)) := by show _ = _; simp [changeF, *]
      have HX := Lib.hid (HX.out.call hw)
      clear hw hl
      have c0 := blk_cell HX.out.b1 0; have c1 := blk_cell HX.out.b1 1; have c2 := blk_cell HX.out.b1 2
      have f0 := blk_free HX.out.b1 0; have f1 := blk_free HX.out.b1 1; have f2 := blk_free HX.out.b1 2
      have z0 := blk_cell HX.out.b0 0; have z1 := blk_cell HX.out.b0 1; have z2 := blk_cell HX.out.b0 2
      have y0 := blk_free HX.out.b0 0; have y1 := blk_free HX.out.b0 1; have y2 := blk_free HX.out.b0 2
      go_wp2_with fail
      refine bodyPost_ret (v := .agg #[.int .i64 1, .int .i64 n, .int .i64 0]) (by simp [results, Tryd.results75, go_sem, z0, z1, z2]) rfl ?_
      exact ReadPost.done hF.out rfl ((((HX.out.set1 _ _).set0 0 _).set0 1 _).set0 2 _).rw
  | none =>
    cases hs2 : skipF [61] s with
    | some t =>
      go_enter Tryd.func75, Tryd.ntmps75
      go_wp2_with fail
      refine (skip_no R s [45] _ HX.out.rd hs).mono ?_
      rintro e w0 ⟨rfl, hw1⟩
      have HX := Lib.hid (HX.out.call hw1)
      clear hw1
      go_wp2_with fail
      refine (skip_yes R s [61] t _ HX.out.rd hs2).mono ?_
      rintro e w1 ⟨rfl, hw1⟩
      have HX := Lib.hid (HX.out.call hw1)
      clear hw1
      have c0 := blk_cell HX.out.b1 0; have c1 := blk_cell HX.out.b1 1; have c2 := blk_cell HX.out.b1 2
      have f0 := blk_free HX.out.b1 0; have f1 := blk_free HX.out.b1 1; have f2 := blk_free HX.out.b1 2
      have z0 := blk_cell HX.out.b0 0; have z1 := blk_cell HX.out.b0 1; have z2 := blk_cell HX.out.b0 2
      have y0 := blk_free HX.out.b0 0; have y1 := blk_free HX.out.b0 1; have y2 := blk_free HX.out.b0 2
      go_wp2_with fail
      clear c0 c1 c2 f0 f1 f2 z0 z1 z2 y0 y1 y2
      have HX := Lib.hid (HX.out.set1 0 (.int .i64 2))
      revert HX
      generalize w1.setCell ⟨w.heap.size + 1, 0, none⟩ (.int .i64 2) = w2
      intro HX
      refine (number_any R t _ HX.out.rd).mono ?_
      intro e w3 hp
      cases hl : numberF t with
      | none =>
        rw [hl] at hp
        have hF : changeF s = none := by simp [changeF, *]
        obtain ⟨rfl, t', hw⟩ := hp
        have HX := Lib.hid (HX.out.call hw)
        have HF := Lib.hid hF
        clear hw hl hF
        go_wp2_with fail
        exact ⟨rfl, ReadPost.fail HF.out HX.out.rw⟩
      | some p =>
        obtain ⟨n, u⟩ := p
        rw [hl] at hp
        obtain ⟨rfl, hw⟩ := hp
        have hF : Hid (changeF s = some (⟨2, n, 0⟩, u)) := by show _ = _; simp [changeF, *]
        have HX := Lib.hid (HX.out.call hw)
        clear hw hl
        have c0 := blk_cell HX.out.b1 0; have c1 := blk_cell HX.out.b1 1; have c2 := blk_cell HX.out.b1 2
        have f0 := blk_free HX.out.b1 0; have f1 := blk_free HX.out.b1 1; have f2 := blk_free HX.out.b1 2
        have z0 := blk_cell HX.out.b0 0; have z1 := blk_cell HX.out.b0 1; have z2 := blk_cell HX.out.b0 2
        have y0 := blk_free HX.out.b0 0; have y1 := blk_free HX.out.b0 1; have y2 := blk_free HX.out.b0 2
        go_wp2_with fail
        refine bodyPost_ret (v := .agg #[.int .i64 2, .int .i64 n, .int .i64 0]) (by simp [results, Tryd.results75, go_sem, z0, z1, z2]) rfl ?_
        exact ReadPost.done hF.out rfl ((((HX.out.set1 _ _).set0 0 _).set0 1 _).set0 2 _).rw
    | none =>
      go_enter Tryd.func75, Tryd.ntmps75
      go_wp2_with fail
      refine (skip_no R s [45] _ HX.out.rd hs).mono ?_
      rintro e w0 ⟨rfl, hw1⟩
      have HX := Lib.hid (HX.out.call hw1)
      clear hw1
      go_wp2_with fail
      refine (skip_no R s [61] _ HX.out.rd hs2).mono ?_
      rintro e w1 ⟨rfl, hw1⟩
      have HX := Lib.hid (HX.out.call hw1)
      clear hw1
      have c0 := blk_cell HX.out.b1 0; have c1 := blk_cell HX.out.b1 1; have c2 := blk_cell HX.out.b1 2
      have f0 := blk_free HX.out.b1 0; have f1 := blk_free HX.out.b1 1; have f2 := blk_free HX.out.b1 2
      have z0 := blk_cell HX.out.b0 0; have z1 := blk_cell HX.out.b0 1; have z2 := blk_cell HX.out.b0 2
      have y0 := blk_free HX.out.b0 0; have y1 := blk_free HX.out.b0 1; have y2 := blk_free HX.out.b0 2
      go_wp2_with fail
      clear c0 c1 c2 f0 f1 f2 z0 z1 z2 y0 y1 y2
      have HX := Lib.hid (HX.out.set1 0 (.int .i64 3))
      revert HX
      generalize w1.setCell ⟨w.heap.size + 1, 0, none⟩ (.int .i64 3) = w2
      intro HX
      refine (number_any R s _ HX.out.rd).mono ?_
      intro e w3 hp
      cases hl : numberF s with
      | none =>
        rw [hl] at hp
        have hF : changeF s = none := by simp [changeF, *]
        obtain ⟨rfl, t', hw⟩ := hp
        have HX := Lib.hid (HX.out.call hw)
        have HF := Lib.hid hF
        clear hw hl hF
        go_wp2_with fail
        exact ⟨rfl, ReadPost.fail HF.out HX.out.rw⟩
      | some p =>
        obtain ⟨n, t⟩ := p
        rw [hl] at hp
        obtain ⟨rfl, hw⟩ := hp
        have HX := Lib.hid (HX.out.call hw)
        have HL := Lib.hid hl
        clear hw hl
        have c0 := blk_cell HX.out.b1 0; have c1 := blk_cell HX.out.b1 1; have c2 := blk_cell HX.out.b1 2
        have f0 := blk_free HX.out.b1 0; have f1 := blk_free HX.out.b1 1; have f2 := blk_free HX.out.b1 2
        have z0 := blk_cell HX.out.b0 0; have z1 := blk_cell HX.out.b0 1; have z2 := blk_cell HX.out.b0 2
        have y0 := blk_free HX.out.b0 0; have y1 := blk_free HX.out.b0 1; have y2 := blk_free HX.out.b0 2
        go_wp2_with fail
        clear c0 c1 c2 f0 f1 f2 z0 z1 z2 y0 y1 y2
        have HX := Lib.hid (HX.out.set1 1 (.int .i64 n))
        revert HX
        generalize w3.setCell ⟨w.heap.size + 1, 1, none⟩ (.int .i64 n) = w4
        intro HX
        cases hs3 : skipF [43] t with
        | none =>
          have HF : Hid (changeF s = none) := by show _ = _; simp [changeF, *, HL.out]
          refine (must_no R t [43] _ HX.out.rd hs3).mono ?_
          rintro e w5 ⟨rfl, hw1⟩
          have HX := Lib.hid (HX.out.call hw1)
          clear hw1 hs3
          go_wp2_with fail
          exact ⟨rfl, ReadPost.fail HF.out HX.out.rw⟩
        | some u =>
          refine (must_yes R t [43] u _ HX.out.rd hs3).mono ?_
          rintro e w5 ⟨rfl, hw1⟩
          have HX := Lib.hid (HX.out.call hw1)
          clear hw1
          go_wp2_with fail
          refine (number_any R u _ HX.out.rd).mono ?_
          intro e w6 hp
          cases hl : numberF u with
          | none =>
            rw [hl] at hp
            have hF : changeF s = none := by simp [changeF, *, HL.out]
            obtain ⟨rfl, t', hw⟩ := hp
            have HX := Lib.hid (HX.out.call hw)
            have HF := Lib.hid hF
            clear hw hl hF
            go_wp2_with fail
            exact ⟨rfl, ReadPost.fail HF.out HX.out.rw⟩
          | some p =>
            obtain ⟨m, v⟩ := p
            rw [hl] at hp
            obtain ⟨rfl, hw⟩ := hp
            have HF : Hid (changeF s = some (⟨3, n, m⟩, v)) := by show _ = _; simp [changeF, *, HL.out]
            have HX := Lib.hid (HX.out.call hw)
            clear hw hl
            have c0 := blk_cell HX.out.b1 0; have c1 := blk_cell HX.out.b1 1; have c2 := blk_cell HX.out.b1 2
            have f0 := blk_free HX.out.b1 0; have f1 := blk_free HX.out.b1 1; have f2 := blk_free HX.out.b1 2
            have z0 := blk_cell HX.out.b0 0; have z1 := blk_cell HX.out.b0 1; have z2 := blk_cell HX.out.b0 2
            have y0 := blk_free HX.out.b0 0; have y1 := blk_free HX.out.b0 1; have y2 := blk_free HX.out.b0 2
            go_wp2_with fail
            refine bodyPost_ret (v := .agg #[.int .i64 3, .int .i64 n, .int .i64 m]) (by simp [results, Tryd.results75, go_sem, z0, z1, z2]) rfl ?_
            exact ReadPost.done HF.out rfl ((((HX.out.set1 _ _).set0 0 _).set0 1 _).set0 2 _).rw

end Go.Proofs.YtlekbddlemfokaaDoor

/- 'copy(dst, src)' of all elements of a slice, whatever their size, over a row that the call itself made. For any program. -/
namespace Go.Proofs.YtlekbddlemfokaaDoor
set_option linter.unusedSimpArgs false
set_option linter.unusedVariables false
open Go Go.RowKit

theorem wpList_copy_all {P : Program} {w : World} {ops : Array Oper} {rest : List Oper} {o : Oper} {a : Act} {Q : Exit → Act → World → Prop} (hgd : o.guard = none) (d s : Operand) (dT sT : TypeId)
    (ho : o.op = .call { callee := .builtin .copy, args := #[d, s], argTypes := #[dT, sT] }) (elem : TypeId) (size : Nat) (hu : P.underlying dT = some (.slice elem)) (hsz : (P.info? elem).map (·.size) = some size)
    (g n dCap : Nat) (ad : Addr) (sCap : Nat) (hd : a.eval d = .slice (some ⟨g, 0, none⟩) n dCap) (hs : a.eval s = .slice (some ad) n sCap)
    (cur : Array Value) (t : TypeId) (hg : w.heap[g]? = some (.cells cur t (0, 0))) (cs : List Value) (hn : cs.length = n * size)
    (hsrc : ∀ j v, cs[j]? = some v → w.cell? (ad.add j) = some v) (hfit : cs.length = cur.size) (h1 : ∀ v ∈ cs, v.oneCell' = true)
    (h : wpList P ops Q rest (a.put o.dst (goInt n)) (w.setRow g cs.toArray)) : wpList P ops Q (o :: rest) a w := by
  refine wpList_plain hgd fun K hK => ?_
  have hl := run_loadCells_list (P := P) w ad cs hsrc
  have hst := run_storeCells_at P g 0 t cs 0 cur w hg (by omega) h1
  have hrun : (Builtin.copy_ #[dT, sT] o.type #[.slice (some ⟨g, 0, none⟩) n dCap, .slice (some ad) n sCap]).run P w = .ok (goInt n) (w.setRow g cs.toArray) := by
    cases hq : P.info? elem with
    | none => simp [hq] at hsz
    | some i =>
      have hi : i.size = size := by simpa [hq] using hsz
      have hd0 : cur.toList.drop cs.length = [] := List.drop_of_length_le (by rw [hfit]; simp)
      simp only [Nat.zero_add, List.take_zero, List.nil_append, hd0, List.append_nil] at hst
      rw [hn] at hl
      simp [Builtin.copy_, run_underlying hu, Builtin.lenOf, Builtin.firstCells, sizeOf, typeInfo, hq, hi, hl, hst]
  unfold Oper.wp
  simp [execOp, ho, resolve, invoke, builtin, hd, hs, hrun, Result.andThen]
  exact hK _ _ h

end Go.Proofs.YtlekbddlemfokaaDoor

/- 'list = append(list, x)' in a round: the row is as before or new. For any program. -/
namespace Go.Proofs.YtlekbddlemfokaaDoor
set_option linter.unusedSimpArgs false
set_option linter.unusedVariables false
open Go Go.RowKit

theorem run_append_one {P : Program} (w : World) (base : Nat) (t ty e : TypeId) (i : TypeInfo) (z : Value) (size bytes : Nat) (ht : P.underlying t = some (.slice e)) (hi : P.info? e = some i) (hz : i.zero = some z)
    (hsize : i.size = size) (hby : i.bytes = bytes) (hzs : z.cells.size = size) (hsz : 0 < size)
    (v : Value) (n : Nat) (xs : List Value) (hown : w.ownsRow base e size v n xs)
    (a : Addr) (c : Nat) (news : List Value) (hl : news.length = size) (hnews : ∀ j u, news[j]? = some u → w.cell? (a.add j) = some u) (h1 : ∀ u ∈ news, u.oneCell' = true)
    (h63 : n + 1 ≤ maxLen) (hbytes : (n + 1) * bytes ≤ 140737488355328) (hbase : base ≤ w.heap.size) :
    ∃ g cap w', (Builtin.append_ #[t, t] ty #[v, .slice (some a) 1 c]).run P w = .ok (.slice (some ⟨g, 0, none⟩) (n + 1) cap) w' ∧ w'.ownsRow base e size (.slice (some ⟨g, 0, none⟩) (n + 1) cap) (n + 1) (xs ++ news) ∧ w.grownBy w' v.ownBlock ∧
      (v.ownBlock = some g ∨ w.heap.size ≤ g) := by
  have hl1 : news.length = 1 * size := by omega
  obtain ⟨v', w', hr, ho, hg, -⟩ := run_append_own (P := P) w base t ty e i z size bytes ht hi hz hsize hby hzs hsz v n xs hown a 1 c news hl1 hnews h1 h63 hbytes hbase
  obtain ⟨g, cap, rfl⟩ := ownsRow_succ ho
  refine ⟨g, cap, w', hr, ho, hg, ?_⟩
  rcases hown.2 with ⟨rfl, rfl⟩ | ⟨g0, cap0, cur, rfl, hbg, hg0, hnc, hcm, hcs, htake⟩
  · have hx : xs = [] := List.eq_nil_of_length_eq_zero (by simpa using hown.1)
    subst hx
    obtain ⟨v2, w2, hr2, ho2, -, -⟩ := run_append_own (P := P) w w.heap.size t ty e i z size bytes ht hi hz hsize hby hzs hsz (.slice none 0 0) 0 [] (World.ownsRow_nil w _ _ _) a 1 c news hl1 hnews h1 h63 hbytes (Nat.le_refl _)
    rw [hr] at hr2
    cases hr2
    rcases ho2.2 with ⟨h, -⟩ | ⟨g', cap', cur', h, hb', -⟩
    · cases h
    · cases h; exact Or.inr hb'
  · subst hsize
    by_cases hroom : n + 1 ≤ cap0
    · have hfit : n * i.size + news.length ≤ cur.size := by rw [hl1, hcs, ← Nat.add_mul]; exact Nat.mul_le_mul_right _ hroom
      have hr2 := run_append_room (P := P) w t ty e i ht hi g0 n cap0 cur hg0 a 1 c news hl1 hnews h1 hroom hfit
      rw [hr] at hr2
      cases hr2
      exact Or.inl rfl
    · have hcell : ∀ j u, xs[j]? = some u → w.cell? ((⟨g0, 0, none⟩ : Addr).add j) = some u := World.ownsRow.cells hown (by simp [Value.ownBlock])
      have hr2 := run_append_grow (P := P) w t ty e i z ht hi hz ⟨g0, 0, none⟩ n cap0 xs hown.1 hcell a 1 c news hl1 hnews (by omega) (by simp only [maxLen] at h63; omega) (growslice_fits (by omega) (by rw [hby]; exact hbytes))
      rw [hr] at hr2
      cases hr2
      exact Or.inr (Nat.le_refl _)

theorem wpListIn_append_one {F : Fence} {n : Nat} {P : Program} (w : World) {ops : Array Oper} {rest : List Oper} {o : Oper} {a : Act} {Q : Exit → Act → World → Prop}
    (hg : o.guard = none) (s x : Operand) (t : TypeId) (hop : o.op = Op.call { callee := Callee.builtin Builtin.append, args := #[s, x], argTypes := #[t, t] })
    (base : Nat) (e : TypeId) (i : TypeInfo) (z : Value) (size bytes : Nat) (h1 : P.underlying t = some (.slice e)) (h2 : P.info? e = some i) (h3 : i.zero = some z) (h4 : i.size = size) (h5 : i.bytes = bytes) (h6 : z.cells.size = size) (h7 : 0 < size)
    (v : Value) (k : Nat) (xs : List Value) (hs : a.eval s = v) (hown : w.ownsRow base e size v k xs) (ad : Addr) (c : Nat) (news : List Value) (hx : a.eval x = .slice (some ad) 1 c) (hn : news.length = size)
    (hc : ∀ j u, news[j]? = some u → w.cell? (ad.add j) = some u) (h1c : ∀ u ∈ news, u.oneCell' = true) (b1 : k + 1 ≤ maxLen) (b2 : (k + 1) * bytes ≤ 140737488355328) (b3 : base ≤ w.heap.size)
    (hK : ∀ g cap w', w'.ownsRow base e size (.slice (some ⟨g, 0, none⟩) (k + 1) cap) (k + 1) (xs ++ news) → w.grownBy w' v.ownBlock → (v.ownBlock = some g ∨ w.heap.size ≤ g) → wpListIn F n P ops Q rest (a.put o.dst (.slice (some ⟨g, 0, none⟩) (k + 1) cap)) w') :
    wpListIn F n P ops Q (o :: rest) a w := by
  refine wpListIn_plain hg fun K hK' => ?_
  obtain ⟨g, cap, w', hrun, r1, r2, r3⟩ := run_append_one (P := P) w base t o.type e i z size bytes h1 h2 h3 h4 h5 h6 h7 v k xs hown ad c news hn hc h1c b1 b2 b3
  unfold Oper.wpIn
  refine ⟨?_, ?_⟩
  · simp [Oper.about, hop, resolve, Target.leads, Sem.run_pure]
  · rw [Oper.semAt_plain F _ _ (by rw [hop]; intro c hc'; cases hc')]
    simp [execOp, hop, resolve, invoke, builtin, hs, hx, hrun, Result.andThen]
    exact hK' _ _ (hK g cap w' r1 r2 r3)

/-- A variable's box holds a slice of the call's own. -/
def ListAt (W : World) (base BL : Nat) (ty e : TypeId) (size k : Nat) (xs : List Value) : Prop := ∃ v, W.heap[BL]? = some (.cells #[v] ty) ∧ W.ownsRow base e size v k xs
/-- The row of that slice. -/
def OwL (BL : Nat) (ty : TypeId) (W : World) (j : Nat) : Prop := ∃ v, W.heap[BL]? = some (.cells #[v] ty) ∧ v.ownBlock = some j
theorem ListAt.own {W : World} {base BL : Nat} {ty e : TypeId} {size k : Nat} {xs : List Value} (h : ListAt W base BL ty e size k xs) {j : Nat} (hj : OwL BL ty W j) : base ≤ j ∧ ∃ c t f, W.heap[j]? = some (.cells c t f) := by
  obtain ⟨v, h1, h2⟩ := h
  obtain ⟨u, h3, h4⟩ := hj
  rw [h1] at h3
  simp only [Option.some.injEq, Obj.cells.injEq, Array.mk.injEq, List.cons.injEq, and_true] at h3
  subst h3
  refine ⟨(h2.lt j h4).1, ?_⟩
  rcases h2.2 with ⟨rfl, -⟩ | ⟨g, cap, cur, rfl, -, hg, -⟩
  · simp [Value.ownBlock] at h4
  · simp only [Value.ownBlock, Option.some.injEq] at h4
    subst h4
    exact ⟨_, _, _, hg⟩
theorem ListAt.only {W W' : World} {X : Nat → Prop} {hs base BL : Nat} {ty e : TypeId} {size k : Nat} {xs : List Value} (h : ListAt W base BL ty e size k xs) (ho : OnlyIn X W W') (hX : ∀ j, X j → hs ≤ j ∧ ¬ OwL BL ty W j) (hBL : BL < hs) :
    ListAt W' base BL ty e size k xs ∧ ∀ j, OwL BL ty W' j → OwL BL ty W j := by
  obtain ⟨v, h1, h2⟩ := h
  have h1' : W'.heap[BL]? = some (.cells #[v] ty) := (ho.block BL (Array.getElem?_eq_some_iff.1 h1).1 (fun hx => by have := (hX _ hx).1; omega)).trans h1
  refine ⟨⟨v, h1', h2.1, ?_⟩, fun j ⟨u, h3, h4⟩ => ?_⟩
  · rcases h2.2 with hn | ⟨g, cap, cur, rfl, hb, hg, rest⟩
    · exact .inl hn
    · refine .inr ⟨g, cap, cur, rfl, hb, ?_, rest⟩
      exact (ho.block g (Array.getElem?_eq_some_iff.1 hg).1 (fun hx => (hX _ hx).2 ⟨_, h1, by simp [Value.ownBlock]⟩)).trans hg
  · rw [h1'] at h3
    simp only [Option.some.injEq, Obj.cells.injEq, Array.mk.injEq, List.cons.injEq, and_true] at h3
    subst h3
    exact ⟨v, h1, h4⟩
/-- Behind 'list = append(list, x)'. -/
theorem list_step {W Wt w' : World} {hs base BL : Nat} {ty e : TypeId} {size k g cap : Nat} {v : Value} {xs ys : List Value} {Pr : Nat → Prop} (hL : W.heap[BL]? = some (.cells #[v] ty)) (hrow : W.ownsRow base e size v k xs) (_hty : ty ≠ e)
    (ho : OnlyIn (fun _ => False) W Wt) (hown : w'.ownsRow base e size (.slice (some ⟨g, 0, none⟩) (k + 1) cap) (k + 1) ys) (hgrow : Wt.grownBy w' v.ownBlock) (hg : v.ownBlock = some g ∨ Wt.heap.size ≤ g)
    (hBL : BL < hs) (hb : hs ≤ base) (hPr : ∀ j, Pr j → j ≠ BL ∧ j < base ∧ j < W.heap.size) :
    w'.heap[BL]? = some (.cells #[v] ty) ∧ ListAt (w'.setCell ⟨BL, 0, none⟩ (.slice (some ⟨g, 0, none⟩) (k + 1) cap)) base BL ty e size (k + 1) ys ∧
      Turn hs Pr (OwL BL ty) W (w'.setCell ⟨BL, 0, none⟩ (.slice (some ⟨g, 0, none⟩) (k + 1) cap)) ∧ OnlyIn (fun j => j = BL ∨ base ≤ j) W (w'.setCell ⟨BL, 0, none⟩ (.slice (some ⟨g, 0, none⟩) (k + 1) cap)) := by
  have hBlt : BL < W.heap.size := (Array.getElem?_eq_some_iff.1 hL).1
  have hLt : Wt.heap[BL]? = some (.cells #[v] ty) := (ho.block BL hBlt (fun h => h)).trans hL
  have hnr : some BL ≠ v.ownBlock := fun e' => by
    have h := (hrow.lt BL e'.symm).1; omega
  have hLw : w'.heap[BL]? = some (.cells #[v] ty) := (hgrow.block BL (Array.getElem?_eq_some_iff.1 hLt).1 hnr).trans hLt
  have hne : g ≠ BL := fun e' => by
    rcases hg with h | h
    · exact hnr (by rw [h, e'])
    · have := (Array.getElem?_eq_some_iff.1 hLt).1; omega
  have hL3 : (w'.setCell ⟨BL, 0, none⟩ (.slice (some ⟨g, 0, none⟩) (k + 1) cap)).heap[BL]? = some (.cells #[.slice (some ⟨g, 0, none⟩) (k + 1) cap] ty) := blk_set1 hLw _
  have hkeep : ∀ j, j < W.heap.size → j ≠ BL → some j ≠ v.ownBlock → (w'.setCell ⟨BL, 0, none⟩ (.slice (some ⟨g, 0, none⟩) (k + 1) cap)).heap[j]? = W.heap[j]? := fun j hj hjB hjv =>
    (heap_setCell_past w' ⟨BL, 0, none⟩ _ j hjB).trans ((hgrow.block j (Nat.lt_of_lt_of_le hj ho.size) hjv).trans (ho.block j hj (fun h => h)))
  have hsz : W.heap.size ≤ (w'.setCell ⟨BL, 0, none⟩ (.slice (some ⟨g, 0, none⟩) (k + 1) cap)).heap.size := by
    simp only [World.size_setCell]; exact Nat.le_trans ho.size hgrow.size
  refine ⟨hLw, ⟨_, hL3, hown.kept (grownBy_setCell' w' BL _) (.inr (by simp only [Value.ownBlock, ne_eq, Option.some.injEq]; exact hne))⟩, ⟨hsz, fun j hj => ?_, fun j h1 h2 h3 => ?_, fun j hj ⟨u, h3, h4⟩ => ?_⟩, ⟨?_, ?_, ?_, hsz, fun j hj hx => ?_⟩⟩
  · obtain ⟨a1, a2, a3⟩ := hPr j hj
    exact hkeep j a3 a1 (fun e' => by have := (hrow.lt j e'.symm).1; omega)
  · exact hkeep j h2 (by omega) (fun e' => h3 ⟨v, hL, e'.symm⟩)
  · rw [hL3] at h3
    simp only [Option.some.injEq, Obj.cells.injEq, Array.mk.injEq, List.cons.injEq, and_true] at h3
    subst h3
    simp only [Value.ownBlock, Option.some.injEq] at h4
    subst h4
    rcases hg with h | h
    · exact ⟨v, hL, h⟩
    · have := ho.size; omega
  · show w'.os = _; rw [hgrow.os, ho.os]
  · show w'.tape = _; rw [hgrow.tape, ho.tape]
  · show w'.output = _; rw [hgrow.output, ho.output]
  · exact hkeep j hj (fun e' => hx (Or.inl e')) (fun e' => hx (Or.inr (hrow.lt j e'.symm).1))

theorem cells_new (W : World) (l : List Value) (t : TypeId) : ∀ j u, l[j]? = some u → (W.alloc (.cells ⟨l⟩ t)).cell? ((⟨W.heap.size, 0, none⟩ : Addr).add j) = some u := by
  intro j u hu
  have hadd : (⟨W.heap.size, 0, none⟩ : Addr).add j = ⟨W.heap.size, j, none⟩ := by unfold Addr.add; split <;> simp_all
  rw [hadd, blk_cell (heap_alloc_at W _ _ rfl) j]
  simpa using hu
theorem row_mono {W : World} {base b' : Nat} {e : TypeId} {size k : Nat} {v : Value} {xs : List Value} (h : W.ownsRow base e size v k xs) (hb : b' ≤ base) : W.ownsRow b' e size v k xs :=
  ⟨h.1, h.2.imp id fun ⟨g, cap, cur, he, hb', rest⟩ => ⟨g, cap, cur, he, Nat.le_trans hb hb', rest⟩⟩
theorem elemOf {P : Program} {e : TypeId} {z : Value} {size bytes : Nat} (h : (P.info? e).map (fun i => (i.zero, i.size, i.bytes)) = some (some z, size, bytes)) : ∃ i, P.info? e = some i ∧ i.zero = some z ∧ i.size = size ∧ i.bytes = bytes := by
  cases hi : P.info? e with
  | none => rw [hi] at h; cases h
  | some i =>
    rw [hi] at h
    simp only [Option.map_some, Option.some.injEq, Prod.mk.injEq] at h
    exact ⟨i, rfl, h.1, h.2.1, h.2.2⟩
theorem grown_of_below {W W1 : World} (h : Below W.heap.size W W1) : W.grownBy W1 none := ⟨h.os, h.tape, h.output, h.size, fun k hk _ => h.block k hk⟩
theorem row_later {W W1 : World} {base : Nat} {e : TypeId} {size k : Nat} {v : Value} {xs : List Value} (h : W.ownsRow base e size v k xs) (hb : Below W.heap.size W W1) : W1.ownsRow base e size v k xs :=
  h.kept (grown_of_below hb) (by cases v.ownBlock <;> simp)
/-- A round that only calls and lays blocks. -/
theorem list_stay {W W1 : World} {hs base BL : Nat} {ty e : TypeId} {size k : Nat} {v : Value} {xs : List Value} {Pr : Nat → Prop} (hL : W.heap[BL]? = some (.cells #[v] ty)) (hrow : W.ownsRow base e size v k xs) (hb : Below W.heap.size W W1) (hPr : ∀ j, Pr j → j < W.heap.size) :
    Turn hs Pr (OwL BL ty) W W1 ∧ ListAt W1 base BL ty e size k xs := by
  have hL1 := blk_later hb hL
  refine ⟨⟨hb.size, fun j hj => hb.block j (hPr j hj), fun j _ hj _ => hb.block j hj, fun j _ ⟨u, h3, h4⟩ => ?_⟩, v, hL1, row_later hrow hb⟩
  rw [hL1] at h3
  simp only [Option.some.injEq, Obj.cells.injEq, Array.mk.injEq, List.cons.injEq, and_true] at h3
  subst h3
  exact ⟨v, hL, h4⟩
/-- THE STATEMENT, its body collecting in a slice that lies in a box. -/
theorem rf_list {P : Program} {n : Nat} {α : Type} {g : Operand} {ps : Array Tmp} {assign body : Code} {Q : Exit → Act → World → Prop} {a : Act} {w : World}
    {gf : Nat} {lb : Array Value} (hg : a.eval g = .func (.func gf) #[] lb) (eg : ∀ args w, (callFunc gf args).run P w = .ok (.enter gf args) w)
    {encs : α → Array Value} {xs : List α} {Pr : Nat → Prop} (hit : ItC P gf lb encs xs Pr w) (hps : ∀ x, (encs x).size = ps.size) (hPr : ∀ k, Pr k → k < w.heap.size)
    (w0 : World) (bs : List (Nat × Obj)) (BL : Nat) (ty e : TypeId) (size : Nat) (kf : List α → Nat) (xf : List α → List Value) (o : α → Obj) (upd : α → Nat → List (Nat × Value))
    (hbs : ∀ p ∈ bs, p.1 < w.heap.size) (h0 : Held w0 bs w) (hL0 : w.heap[BL]? = some (.cells #[.slice none 0 0] ty)) (hk0 : kf [] = 0) (hx0 : xf [] = [])
    (hassign : ∀ (l : Nat) (x : α) (W : World) (K : Act → World → Prop), K { tmps := putAll a.tmps (upd x W.heap.size), defers := [] } (W.alloc (o x)) →
      assign.wpIn (Fence.wide.inRound l) 9 P (Exit.then K (fun _ _ _ => False)) { tmps := (ps.zip (encs x)).foldl (fun t (p, v) => t.setIfInBounds p v) a.tmps, defers := [] } W)
    (hbody : ∀ (l : Nat) (pre : List α) (x : α) (rest : List α) (bx : Nat) (W : World) (v : Value), xs = pre ++ x :: rest → Held w0 bs W → W.heap[BL]? = some (.cells #[v] ty) → W.ownsRow w.heap.size e size v (kf pre) (xf pre) → W.heap[bx]? = some (o x) → w.heap.size ≤ bx → v.ownBlock ≠ some bx →
      body.wpIn (Fence.wide.inRound l) 9 P (fun e' _ W' => e' = .normal ∧ Turn w.heap.size Pr (OwL BL ty) W W' ∧ Held w0 bs W' ∧ ListAt W' w.heap.size BL ty e size (kf (pre ++ [x])) (xf (pre ++ [x]))) { tmps := putAll a.tmps (upd x bx), defers := [] } W)
    (hdone : ∀ (D : Nat) (W : World) (v : Value), w.heap.size ≤ D → Held w0 bs W → W.heap[BL]? = some (.cells #[v] ty) → W.ownsRow w.heap.size e size v (kf xs) (xf xs) → W.heap[D]? = some (.deferred (some [])) → Q .normal { a with defers := { target := .collected D, args := #[] } :: a.defers } W) :
    (Code.rangeFunc g ps assign body).wpIn Fence.wide n P Q a w := by
  have hBL : BL < w.heap.size := (Array.getElem?_eq_some_iff.1 hL0).1
  refine rf_law2 hg eg hit hps hPr (fun pre W => Held w0 bs W ∧ ListAt W w.heap.size BL ty e size (kf pre) (xf pre)) (fun _ _ _ => False) (OwL BL ty) o upd
    (fun pre W k h hk => (h.2.own hk).2) ?_ (fun _ _ _ _ _ h => h.elim) ⟨h0, _, hL0, by rw [hk0, hx0]; exact World.ownsRow_nil _ _ _ _⟩ hassign ?_ ?_ (fun _ _ _ _ _ h => h.elim)
  · rintro pre X W W' ⟨h1, h2⟩ ho hX
    obtain ⟨h3, h4⟩ := h2.only ho hX hBL
    exact ⟨⟨h1.only ho (hs := w.heap.size) (fun k h => (hX k h).1) h0.below.size hbs, h3⟩, h4⟩
  · rintro l pre x rest bx W hsp ⟨h1, v, h2, h3⟩ hbx hlb hnb
    refine wpIn_mono (hbody l pre x rest bx W v hsp h1 h2 h3 hbx hlb (fun e' => hnb ⟨v, h2, e'⟩)) ?_
    rintro e' a' W' ⟨rfl, q1, q2, q3⟩
    exact ⟨q1, q2, q3⟩
  · rintro D W hD ⟨h1, v, h2, h3⟩ hd
    exact hdone D W v hD h1 h2 h3 hd

end Go.Proofs.YtlekbddlemfokaaDoor

/- Where a book lies in memory: predicates on the cells below a block number, and that they stay. -/
namespace Go.Proofs.YtlekbddlemfokaaDoor
set_option linter.unusedSimpArgs false
set_option linter.unusedVariables false
open Go Go.RowKit

/-- A slice of changes. -/
def ChsAt (B : Nat) (w : World) (v : Value) (cs : List Chg) : Prop :=
  ∃ (a : Option Addr) (cap : Nat), v = .slice a cs.length cap ∧ (cs ≠ [] → ∃ b off, a = some ⟨b, off, none⟩ ∧ b < B ∧
    ∀ i c, cs[i]? = some c → w.cell? ⟨b, off + i * 3, none⟩ = some (.int .i64 c.kind) ∧ w.cell? ⟨b, off + i * 3 + 1, none⟩ = some (.int .i64 c.pos) ∧ w.cell? ⟨b, off + i * 3 + 2, none⟩ = some (.int .i64 c.many))
/-- A slice of gatherings. -/
def GsAt (B : Nat) (w : World) (v : Value) (gs : List Gth) : Prop :=
  ∃ (a : Option Addr) (cap : Nat), v = .slice a gs.length cap ∧ (gs ≠ [] → ∃ b off, a = some ⟨b, off, none⟩ ∧ b < B ∧
    ∀ i g, gs[i]? = some g → ∃ cv, ChsAt B w cv g.chs ∧ w.cell? ⟨b, off + i * 4, none⟩ = some (.int .i64 g.round) ∧ w.cell? ⟨b, off + i * 4 + 1, none⟩ = some (.int .i64 g.letter) ∧
      w.cell? ⟨b, off + i * 4 + 2, none⟩ = some (.int .i64 g.leaves) ∧ w.cell? ⟨b, off + i * 4 + 3, none⟩ = some cv)
/-- A book, as a value. -/
def BookAt (B : Nat) (w : World) (v : Value) (b : Bk) : Prop := ∃ sv, v = .agg #[.int .i64 b.signed, sv] ∧ GsAt B w sv b.gs

theorem cell_same {B : Nat} {w w' : World} (h : ∀ k, k < B → w'.heap[k]? = w.heap[k]?) {b : Nat} (hb : b < B) (i : Nat) : w'.cell? ⟨b, i, none⟩ = w.cell? ⟨b, i, none⟩ :=
  World.cell?_of_block (w := w) (h b hb)

theorem ChsAt.same {B : Nat} {w w' : World} {v : Value} {cs : List Chg} (h : ChsAt B w v cs) (hs : ∀ k, k < B → w'.heap[k]? = w.heap[k]?) : ChsAt B w' v cs := by
  obtain ⟨a, cap, rfl, h⟩ := h
  refine ⟨a, cap, rfl, fun hne => ?_⟩
  obtain ⟨b, off, rfl, hb, hc⟩ := h hne
  refine ⟨b, off, rfl, hb, fun i c hi => ?_⟩
  simp only [cell_same hs hb]
  exact hc i c hi
theorem ChsAt.mono {B B' : Nat} {w : World} {v : Value} {cs : List Chg} (h : ChsAt B w v cs) (hB : B ≤ B') : ChsAt B' w v cs := by
  obtain ⟨a, cap, rfl, h⟩ := h
  refine ⟨a, cap, rfl, fun hne => ?_⟩
  obtain ⟨b, off, rfl, hb, hc⟩ := h hne
  exact ⟨b, off, rfl, Nat.lt_of_lt_of_le hb hB, hc⟩
theorem GsAt.same {B : Nat} {w w' : World} {v : Value} {gs : List Gth} (h : GsAt B w v gs) (hs : ∀ k, k < B → w'.heap[k]? = w.heap[k]?) : GsAt B w' v gs := by
  obtain ⟨a, cap, rfl, h⟩ := h
  refine ⟨a, cap, rfl, fun hne => ?_⟩
  obtain ⟨b, off, rfl, hb, hc⟩ := h hne
  refine ⟨b, off, rfl, hb, fun i g hi => ?_⟩
  obtain ⟨cv, h1, h2⟩ := hc i g hi
  refine ⟨cv, h1.same hs, ?_⟩
  simp only [cell_same hs hb]
  exact h2
theorem GsAt.mono {B B' : Nat} {w : World} {v : Value} {gs : List Gth} (h : GsAt B w v gs) (hB : B ≤ B') : GsAt B' w v gs := by
  obtain ⟨a, cap, rfl, h⟩ := h
  refine ⟨a, cap, rfl, fun hne => ?_⟩
  obtain ⟨b, off, rfl, hb, hc⟩ := h hne
  refine ⟨b, off, rfl, Nat.lt_of_lt_of_le hb hB, fun i g hi => ?_⟩
  obtain ⟨cv, h1, h2⟩ := hc i g hi
  exact ⟨cv, h1.mono hB, h2⟩
theorem BookAt.same {B : Nat} {w w' : World} {v : Value} {b : Bk} (h : BookAt B w v b) (hs : ∀ k, k < B → w'.heap[k]? = w.heap[k]?) : BookAt B w' v b := by
  obtain ⟨sv, rfl, h⟩ := h
  exact ⟨sv, rfl, h.same hs⟩
theorem BookAt.mono {B B' : Nat} {w : World} {v : Value} {b : Bk} (h : BookAt B w v b) (hB : B ≤ B') : BookAt B' w v b := by
  obtain ⟨sv, rfl, h⟩ := h
  exact ⟨sv, rfl, h.mono hB⟩
theorem ChsAt.below {B C : Nat} {w w' : World} {v : Value} {cs : List Chg} (h : ChsAt B w v cs) (hb : Below C w w') (hC : B ≤ C) : ChsAt B w' v cs := h.same fun k hk => hb.block k (Nat.lt_of_lt_of_le hk hC)
theorem GsAt.below {B C : Nat} {w w' : World} {v : Value} {gs : List Gth} (h : GsAt B w v gs) (hb : Below C w w') (hC : B ≤ C) : GsAt B w' v gs := h.same fun k hk => hb.block k (Nat.lt_of_lt_of_le hk hC)
theorem BookAt.below {B C : Nat} {w w' : World} {v : Value} {b : Bk} (h : BookAt B w v b) (hb : Below C w w') (hC : B ≤ C) : BookAt B w' v b := h.same fun k hk => hb.block k (Nat.lt_of_lt_of_le hk hC)

end Go.Proofs.YtlekbddlemfokaaDoor
