/- The parts Re, Cw, Rj of the proof, joined. It holds without conditions of its own. -/
import Derived.Test.YtimdmgkegdlafaaGreatDoorCH18
import Derived.Laws.CopyOwn
import Derived.OwnWalk
import Derived.Test.YtimdmgkegdlafaaGreatDoorCH12
import Derived.Test.YtimdmgkegdlafaaGreatDoorCH1
/- Contracts of the reader: a change. -/
namespace Go.Proofs.YtimdmgkegdlafaaGreatDoor
set_option linter.unusedSimpArgs false
set_option linter.unusedVariables false
open Go Go.RowKit Go.Sort Go.BigFrame Go.Lib

/-- A reading function that holds two boxes: its result's and its variable's. -/
structure Bx (w W : World) (R : Nat) (s : Bs) (T : TypeId) (z c : Array Value) : Prop where
  b0 : W.heap[w.heap.size]? = some (.cells z T)
  b1 : W.heap[w.heap.size + 1]? = some (.cells c T)
  rd : Rd W R s
  only : OnlyIn (fun k => k = R) w W
  lt : R < w.heap.size
theorem Bx.call {w W W' : World} {R : Nat} {s t : Bs} {T : TypeId} {z c : Array Value} (h : Bx w W R s T z c) (k : Rw R t W W') : Bx w W' R t T z c :=
  ⟨k.block h.b0 (by have := h.lt; omega), k.block h.b1 (by have := h.lt; omega), k.rd, h.only.trans k.only, h.lt⟩
theorem Bx.same {w W W' : World} {R : Nat} {s : Bs} {T : TypeId} {z c : Array Value} (h : Bx w W R s T z c) (k : Below W.heap.size W W') : Bx w W' R s T z c :=
  ⟨blk_later k h.b0, blk_later k h.b1, blk_later k h.rd, h.only.trans (OnlyIn.of_below k), h.lt⟩
theorem Bx.set1 {w W : World} {R : Nat} {s : Bs} {T : TypeId} {z c : Array Value} (h : Bx w W R s T z c) (i : Nat) (v : Value) : Bx w (W.setCell ⟨w.heap.size + 1, i, none⟩ v) R s T z (c.setIfInBounds i v) :=
  ⟨(heap_setCell_past _ _ _ _ (by simp)).trans h.b0, blk_set h.b1 i v, (heap_setCell_past _ _ _ _ (by have := h.lt; simp; omega)).trans h.rd, h.only.setNew _ _ (by simp), h.lt⟩
theorem Bx.set0 {w W : World} {R : Nat} {s : Bs} {T : TypeId} {z c : Array Value} (h : Bx w W R s T z c) (i : Nat) (v : Value) : Bx w (W.setCell ⟨w.heap.size, i, none⟩ v) R s T (z.setIfInBounds i v) c :=
  ⟨blk_set h.b0 i v, (heap_setCell_past _ _ _ _ (by simp)).trans h.b1, (heap_setCell_past _ _ _ _ (by have := h.lt; simp; omega)).trans h.rd, h.only.setNew _ _ (by simp), h.lt⟩
theorem Bx.rw {w W : World} {R : Nat} {s : Bs} {T : TypeId} {z c : Array Value} (h : Bx w W R s T z c) : Rw R s w W := ⟨h.rd, h.only⟩
theorem Bx.cast {w W : World} {R : Nat} {s : Bs} {T : TypeId} {z z' c c' : Array Value} (h : Bx w W R s T z c) (hz : z = z') (hc : c = c') : Bx w W R s T z' c' := by subst hz; subst hc; exact h
theorem Bx.start {w : World} {R : Nat} {s : Bs} {T : TypeId} {z c : Array Value} (hr : Rd w R s) : Bx w ((w.alloc (.cells z T)).alloc (.cells c T)) R s T z c :=
  have hR := blk_lt hr
  ⟨(heap_alloc_past _ _ _ (by simp)).trans (heap_alloc_at _ _ _ rfl), heap_alloc_at _ _ _ (by simp), (heap_alloc_past _ _ _ (by simp; omega)).trans ((heap_alloc_past _ _ _ hR).trans hr), OnlyIn.trans (OnlyIn.alloc _ _ _) (OnlyIn.alloc _ _ _), hR⟩
/-- The end by a panic. -/
theorem ReadPost.fail {α : Type} {R : Nat} {enc : α → Value} {r : Option (α × Bs)} {w w' : World} {t : Bs} (hr : r = none) (h : Rw R t w w') : ReadPost R enc r w panicE w' := by subst hr; exact ⟨rfl, t, h⟩
theorem ReadPost.done {α : Type} {R : Nat} {enc : α → Value} {r : Option (α × Bs)} {w w' : World} {t : Bs} {x : α} {v : Value} (hr : r = some (x, t)) (hv : enc x = v) (h : Rw R t w w') : ReadPost R enc r w (.returned v) w' := by subst hr; exact ⟨by rw [hv], h⟩

def chgV (c : Chg) : Value := .agg #[.int .i64 c.kind, .int .i64 c.pos, .int .i64 c.many]

-- a store into a cell of the variable's box: the new world under a name
-- number_any has been met at u: its end by a panic
set_option maxHeartbeats 2000000 in
theorem change_any (R : Nat) (s : Bs) (w : World) (hr : Rd w R s) :
    Calls Tryz.prog 104 #[.pointer (some ⟨R, 0, none⟩)] w (ReadPost R chgV (changeF s) w) := by
  have HX := Lib.hid (Bx.start (T := 44) (z := #[.int .i64 0, .int .i64 0, .int .i64 0]) (c := #[.int .i64 0, .int .i64 0, .int .i64 0]) hr)
  clear hr
  cases hs : skipF [45] s with
  | some t =>
    go_enter Tryz.func104, Tryz.ntmps104
    go_wp2_with fail
    refine (skip_yes R s [45] t _ HX.out.rd hs).mono ?_
    rintro e w1 ⟨rfl, hw1⟩
    have HX := Lib.hid (HX.out.call hw1)
    clear hw1
    have c0 := blk_cell HX.out.b1 0; have c1 := blk_cell HX.out.b1 1; have c2 := blk_cell HX.out.b1 2
    have f0 := blk_free HX.out.b1 0; have f1 := blk_free HX.out.b1 1; have f2 := blk_free HX.out.b1 2
    have z0 := blk_cell HX.out.b0 0; have z1 := blk_cell HX.out.b0 1; have z2 := blk_cell HX.out.b0 2
    have y0 := blk_free HX.out.b0 0; have y1 := blk_free HX.out.b0 1; have y2 := blk_free HX.out.b0 2
    go_wp2_with fail
    clear c0 c1 c2 f0 f1 f2 z0 z1 z2 y0 y1 y2
    have HX := Lib.hid (HX.out.set1 0 (.int .i64 1))
    revert HX
    generalize w1.setCell ⟨w.heap.size + 1, 0, none⟩ (.int .i64 1) = w2
    intro HX
    refine (number_any R t _ HX.out.rd).mono ?_
    intro e w3 hp
    cases hl : numberF t with
    | none =>
      rw [hl] at hp
      have hF : changeF s = none := by simp [changeF, *]
      obtain ⟨rfl, t', hw⟩ := hp
      have HX := Lib.hid (HX.out.call hw)
      have HF := Lib.hid hF
      clear hw hl hF
      go_wp2_with fail
      exact ⟨rfl, ReadPost.fail HF.out HX.out.rw⟩
    | some p =>
      obtain ⟨n, u⟩ := p
      rw [hl] at hp
      obtain ⟨rfl, hw⟩ := hp
      have hF : Hid (changeF s = some (⟨1, n, 0⟩, u)) := by show _ = _; simp [changeF, *]
      have HX := Lib.hid (HX.out.call hw)
      clear hw hl
      have c0 := blk_cell HX.out.b1 0; have c1 := blk_cell HX.out.b1 1; have c2 := blk_cell HX.out.b1 2
      have f0 := blk_free HX.out.b1 0; have f1 := blk_free HX.out.b1 1; have f2 := blk_free HX.out.b1 2
      have z0 := blk_cell HX.out.b0 0; have z1 := blk_cell HX.out.b0 1; have z2 := blk_cell HX.out.b0 2
      have y0 := blk_free HX.out.b0 0; have y1 := blk_free HX.out.b0 1; have y2 := blk_free HX.out.b0 2
      go_wp2_with fail
      refine bodyPost_ret (v := .agg #[.int .i64 1, .int .i64 n, .int .i64 0]) (by simp [results, Tryz.results104, go_sem, z0, z1, z2]) rfl ?_
      exact ReadPost.done hF.out rfl ((((HX.out.set1 _ _).set0 0 _).set0 1 _).set0 2 _).rw
  | none =>
    cases hs2 : skipF [61] s with
    | some t =>
      go_enter Tryz.func104, Tryz.ntmps104
      go_wp2_with fail
      refine (skip_no R s [45] _ HX.out.rd hs).mono ?_
      rintro e w0 ⟨rfl, hw1⟩
      have HX := Lib.hid (HX.out.call hw1)
      clear hw1
      go_wp2_with fail
      refine (skip_yes R s [61] t _ HX.out.rd hs2).mono ?_
      rintro e w1 ⟨rfl, hw1⟩
      have HX := Lib.hid (HX.out.call hw1)
      clear hw1
      have c0 := blk_cell HX.out.b1 0; have c1 := blk_cell HX.out.b1 1; have c2 := blk_cell HX.out.b1 2
      have f0 := blk_free HX.out.b1 0; have f1 := blk_free HX.out.b1 1; have f2 := blk_free HX.out.b1 2
      have z0 := blk_cell HX.out.b0 0; have z1 := blk_cell HX.out.b0 1; have z2 := blk_cell HX.out.b0 2
      have y0 := blk_free HX.out.b0 0; have y1 := blk_free HX.out.b0 1; have y2 := blk_free HX.out.b0 2
      go_wp2_with fail
      clear c0 c1 c2 f0 f1 f2 z0 z1 z2 y0 y1 y2
      have HX := Lib.hid (HX.out.set1 0 (.int .i64 2))
      revert HX
      generalize w1.setCell ⟨w.heap.size + 1, 0, none⟩ (.int .i64 2) = w2
      intro HX
      refine (number_any R t _ HX.out.rd).mono ?_
      intro e w3 hp
      cases hl : numberF t with
      | none =>
        rw [hl] at hp
        have hF : changeF s = none := by simp [changeF, *]
        obtain ⟨rfl, t', hw⟩ := hp
        have HX := Lib.hid (HX.out.call hw)
        have HF := Lib.hid hF
        clear hw hl hF
        go_wp2_with fail
        exact ⟨rfl, ReadPost.fail HF.out HX.out.rw⟩
      | some p =>
        obtain ⟨n, u⟩ := p
        rw [hl] at hp
        obtain ⟨rfl, hw⟩ := hp
        have hF : Hid (changeF s = some (⟨2, n, 0⟩, u)) := by show _ = _; simp [changeF, *]
        have HX := Lib.hid (HX.out.call hw)
        clear hw hl
        have c0 := blk_cell HX.out.b1 0; have c1 := blk_cell HX.out.b1 1; have c2 := blk_cell HX.out.b1 2
        have f0 := blk_free HX.out.b1 0; have f1 := blk_free HX.out.b1 1; have f2 := blk_free HX.out.b1 2
        have z0 := blk_cell HX.out.b0 0; have z1 := blk_cell HX.out.b0 1; have z2 := blk_cell HX.out.b0 2
        have y0 := blk_free HX.out.b0 0; have y1 := blk_free HX.out.b0 1; have y2 := blk_free HX.out.b0 2
        go_wp2_with fail
        refine bodyPost_ret (v := .agg #[.int .i64 2, .int .i64 n, .int .i64 0]) (by simp [results, Tryz.results104, go_sem, z0, z1, z2]) rfl ?_
        exact ReadPost.done hF.out rfl ((((HX.out.set1 _ _).set0 0 _).set0 1 _).set0 2 _).rw
    | none =>
      go_enter Tryz.func104, Tryz.ntmps104
      go_wp2_with fail
      refine (skip_no R s [45] _ HX.out.rd hs).mono ?_
      rintro e w0 ⟨rfl, hw1⟩
      have HX := Lib.hid (HX.out.call hw1)
      clear hw1
      go_wp2_with fail
      refine (skip_no R s [61] _ HX.out.rd hs2).mono ?_
      rintro e w1 ⟨rfl, hw1⟩
      have HX := Lib.hid (HX.out.call hw1)
      clear hw1
      have c0 := blk_cell HX.out.b1 0; have c1 := blk_cell HX.out.b1 1; have c2 := blk_cell HX.out.b1 2
      have f0 := blk_free HX.out.b1 0; have f1 := blk_free HX.out.b1 1; have f2 := blk_free HX.out.b1 2
      have z0 := blk_cell HX.out.b0 0; have z1 := blk_cell HX.out.b0 1; have z2 := blk_cell HX.out.b0 2
      have y0 := blk_free HX.out.b0 0; have y1 := blk_free HX.out.b0 1; have y2 := blk_free HX.out.b0 2
      go_wp2_with fail
      clear c0 c1 c2 f0 f1 f2 z0 z1 z2 y0 y1 y2
      have HX := Lib.hid (HX.out.set1 0 (.int .i64 3))
      revert HX
      generalize w1.setCell ⟨w.heap.size + 1, 0, none⟩ (.int .i64 3) = w2
      intro HX
      refine (number_any R s _ HX.out.rd).mono ?_
      intro e w3 hp
      cases hl : numberF s with
      | none =>
        rw [hl] at hp
        have hF : changeF s = none := by simp [changeF, *]
        obtain ⟨rfl, t', hw⟩ := hp
        have HX := Lib.hid (HX.out.call hw)
        have HF := Lib.hid hF
        clear hw hl hF
        go_wp2_with fail
        exact ⟨rfl, ReadPost.fail HF.out HX.out.rw⟩
      | some p =>
        obtain ⟨n, t⟩ := p
        rw [hl] at hp
        obtain ⟨rfl, hw⟩ := hp
        have HX := Lib.hid (HX.out.call hw)
        have HL := Lib.hid hl
        clear hw hl
        have c0 := blk_cell HX.out.b1 0; have c1 := blk_cell HX.out.b1 1; have c2 := blk_cell HX.out.b1 2
        have f0 := blk_free HX.out.b1 0; have f1 := blk_free HX.out.b1 1; have f2 := blk_free HX.out.b1 2
        have z0 := blk_cell HX.out.b0 0; have z1 := blk_cell HX.out.b0 1; have z2 := blk_cell HX.out.b0 2
        have y0 := blk_free HX.out.b0 0; have y1 := blk_free HX.out.b0 1; have y2 := blk_free HX.out.b0 2
        go_wp2_with fail
        clear c0 c1 c2 f0 f1 f2 z0 z1 z2 y0 y1 y2
        have HX := Lib.hid (HX.out.set1 1 (.int .i64 n))
        revert HX
        generalize w3.setCell ⟨w.heap.size + 1, 1, none⟩ (.int .i64 n) = w4
        intro HX
        cases hs3 : skipF [43] t with
        | none =>
          have HF : Hid (changeF s = none) := by show _ = _; simp [changeF, *, HL.out]
          refine (must_no R t [43] _ HX.out.rd hs3).mono ?_
          rintro e w5 ⟨rfl, hw1⟩
          have HX := Lib.hid (HX.out.call hw1)
          clear hw1 hs3
          go_wp2_with fail
          exact ⟨rfl, ReadPost.fail HF.out HX.out.rw⟩
        | some u =>
          refine (must_yes R t [43] u _ HX.out.rd hs3).mono ?_
          rintro e w5 ⟨rfl, hw1⟩
          have HX := Lib.hid (HX.out.call hw1)
          clear hw1
          go_wp2_with fail
          refine (number_any R u _ HX.out.rd).mono ?_
          intro e w6 hp
          cases hl : numberF u with
          | none =>
            rw [hl] at hp
            have hF : changeF s = none := by simp [changeF, *, HL.out]
            obtain ⟨rfl, t', hw⟩ := hp
            have HX := Lib.hid (HX.out.call hw)
            have HF := Lib.hid hF
            clear hw hl hF
            go_wp2_with fail
            exact ⟨rfl, ReadPost.fail HF.out HX.out.rw⟩
          | some p =>
            obtain ⟨m, v⟩ := p
            rw [hl] at hp
            obtain ⟨rfl, hw⟩ := hp
            have HF : Hid (changeF s = some (⟨3, n, m⟩, v)) := by show _ = _; simp [changeF, *, HL.out]
            have HX := Lib.hid (HX.out.call hw)
            clear hw hl
            have c0 := blk_cell HX.out.b1 0; have c1 := blk_cell HX.out.b1 1; have c2 := blk_cell HX.out.b1 2
            have f0 := blk_free HX.out.b1 0; have f1 := blk_free HX.out.b1 1; have f2 := blk_free HX.out.b1 2
            have z0 := blk_cell HX.out.b0 0; have z1 := blk_cell HX.out.b0 1; have z2 := blk_cell HX.out.b0 2
            have y0 := blk_free HX.out.b0 0; have y1 := blk_free HX.out.b0 1; have y2 := blk_free HX.out.b0 2
            go_wp2_with fail
            refine bodyPost_ret (v := .agg #[.int .i64 3, .int .i64 n, .int .i64 m]) (by simp [results, Tryz.results104, go_sem, z0, z1, z2]) rfl ?_
            exact ReadPost.done HF.out rfl ((((HX.out.set1 _ _).set0 0 _).set0 1 _).set0 2 _).rw

end Go.Proofs.YtimdmgkegdlafaaGreatDoor

/- 'copy(dst, src)' of all elements of a slice, whatever their size, over a row that the call itself made. For any program. -/
namespace Go.Proofs.YtimdmgkegdlafaaGreatDoor
set_option linter.unusedSimpArgs false
set_option linter.unusedVariables false
open Go Go.RowKit

theorem wpList_copy_all {P : Program} {w : World} {ops : Array Oper} {rest : List Oper} {o : Oper} {a : Act} {Q : Exit → Act → World → Prop} (hgd : o.guard = none) (d s : Operand) (dT sT : TypeId)
    (ho : o.op = .call { callee := .builtin .copy, args := #[d, s], argTypes := #[dT, sT] }) (elem : TypeId) (size : Nat) (hu : P.underlying dT = some (.slice elem)) (hsz : (P.info? elem).map (·.size) = some size)
    (g n dCap : Nat) (ad : Addr) (sCap : Nat) (hd : a.eval d = .slice (some ⟨g, 0, none⟩) n dCap) (hs : a.eval s = .slice (some ad) n sCap)
    (cur : Array Value) (t : TypeId) (hg : w.heap[g]? = some (.cells cur t (0, 0))) (cs : List Value) (hn : cs.length = n * size)
    (hsrc : ∀ j v, cs[j]? = some v → w.cell? (ad.add j) = some v) (hfit : cs.length = cur.size) (h1 : ∀ v ∈ cs, v.oneCell' = true)
    (h : wpList P ops Q rest (a.put o.dst (goInt n)) (w.setRow g cs.toArray)) : wpList P ops Q (o :: rest) a w := by
  refine wpList_plain hgd fun K hK => ?_
  have hl := run_loadCells_list (P := P) w ad cs hsrc
  have hst := run_storeCells_at P g 0 t cs 0 cur w hg (by omega) h1
  have hrun : (Builtin.copy_ #[dT, sT] o.type #[.slice (some ⟨g, 0, none⟩) n dCap, .slice (some ad) n sCap]).run P w = .ok (goInt n) (w.setRow g cs.toArray) := by
    cases hq : P.info? elem with
    | none => simp [hq] at hsz
    | some i =>
      have hi : i.size = size := by simpa [hq] using hsz
      have hd0 : cur.toList.drop cs.length = [] := List.drop_of_length_le (by rw [hfit]; simp)
      simp only [Nat.zero_add, List.take_zero, List.nil_append, hd0, List.append_nil] at hst
      rw [hn] at hl
      simp [Builtin.copy_, run_underlying hu, Builtin.lenOf, Builtin.firstCells, sizeOf, typeInfo, hq, hi, hl, hst]
  unfold Oper.wp
  simp [execOp, ho, resolve, invoke, builtin, hd, hs, hrun, Result.andThen]
  exact hK _ _ h

end Go.Proofs.YtimdmgkegdlafaaGreatDoor

/- Contracts of the reader: the changes of a gathering. -/
namespace Go.Proofs.YtimdmgkegdlafaaGreatDoor
set_option linter.unusedSimpArgs false
set_option linter.unusedVariables false
open Go Go.RowKit Go.Sort Go.BigFrame

def chgCells (cs : List Chg) : List Value := cs.flatMap fun c => [.int .i64 c.kind, .int .i64 c.pos, .int .i64 c.many]
theorem chgCells_len (cs : List Chg) : (chgCells cs).length = cs.length * 3 := by
  unfold chgCells
  induction cs with
  | nil => rfl
  | cons c cs ih => simp only [List.flatMap_cons, List.length_append, List.length_cons, List.length_nil, ih]; omega
theorem chgCells_one (cs : List Chg) : ∀ v ∈ chgCells cs, v.oneCell' = true := by
  intro v hv
  obtain ⟨c, -, hc⟩ := List.mem_flatMap.1 hv
  simp only [List.mem_cons, List.not_mem_nil, or_false] at hc
  rcases hc with rfl | rfl | rfl <;> rfl
theorem chg_at : ∀ {cs : List Chg} {i : Nat} {c : Chg}, cs[i]? = some c → (chgCells cs)[i * 3]? = some (.int .i64 c.kind) ∧ (chgCells cs)[i * 3 + 1]? = some (.int .i64 c.pos) ∧ (chgCells cs)[i * 3 + 2]? = some (.int .i64 c.many)
  | [], _, _, h => by cases h
  | x :: xs, 0, c, h => by
    simp only [List.getElem?_cons_zero, Option.some.injEq] at h
    subst h
    exact ⟨rfl, rfl, rfl⟩
  | x :: xs, i + 1, c, h => by
    have h' := chg_at (cs := xs) (i := i) (c := c) (by simpa using h)
    have e : ∀ j, (chgCells (x :: xs))[(i + 1) * 3 + j]? = (chgCells xs)[i * 3 + j]? := fun j => by
      show ([_, _, _] ++ chgCells xs)[(i + 1) * 3 + j]? = _
      rw [List.getElem?_append_right (by simp; omega)]
      congr 1
      simp; omega
    have e0 := e 0
    simp only [Nat.add_zero] at e0
    rw [e0, e 1, e 2]
    exact h'
/-- A slice of changes in a new block. -/
def ChsIn (lo : Nat) (W : World) (v : Value) (cs : List Chg) : Prop :=
  ∃ (a : Option Addr) (cap : Nat), v = .slice a cs.length cap ∧ (cs ≠ [] → ∃ b, a = some ⟨b, 0, none⟩ ∧ lo ≤ b ∧ W.heap[b]? = some (.cells (chgCells cs).toArray 44))
theorem ChsIn.at_ {lo : Nat} {W : World} {v : Value} {cs : List Chg} (h : ChsIn lo W v cs) : ChsAt W.heap.size W v cs := by
  obtain ⟨a, cap, rfl, h⟩ := h
  refine ⟨a, cap, rfl, fun hne => ?_⟩
  obtain ⟨b, rfl, -, hc⟩ := h hne
  refine ⟨b, 0, rfl, blk_lt hc, fun i c hi => ?_⟩
  obtain ⟨h1, h2, h3⟩ := chg_at hi
  simp only [Nat.zero_add, blk_cell hc, List.getElem?_toArray]
  exact ⟨h1, h2, h3⟩
theorem ChsIn.only {lo : Nat} {W W' : World} {v : Value} {cs : List Chg} {X : Nat → Prop} (h : ChsIn lo W v cs) (ho : OnlyIn X W W') (hX : ∀ k, X k → k < lo) : ChsIn lo W' v cs := by
  obtain ⟨a, cap, rfl, h⟩ := h
  refine ⟨a, cap, rfl, fun hne => ?_⟩
  obtain ⟨b, rfl, hlo, hc⟩ := h hne
  exact ⟨b, rfl, hlo, (ho.block b (blk_lt hc) (fun hx => by have := hX _ hx; omega)).trans hc⟩
/-- A row of other elements has grown. -/
theorem ChsIn.grown {lo : Nat} {W W' : World} {v : Value} {cs : List Chg} {ow : Option Nat} (h : ChsIn lo W v cs) (hg : W.grownBy W' ow) (ho : ∀ g, ow = some g → ∃ c t f, W.heap[g]? = some (.cells c t f) ∧ t ≠ 44) : ChsIn lo W' v cs := by
  obtain ⟨a, cap, rfl, h⟩ := h
  refine ⟨a, cap, rfl, fun hne => ?_⟩
  obtain ⟨b, rfl, hlo, hc⟩ := h hne
  refine ⟨b, rfl, hlo, (hg.block b (blk_lt hc) (fun e => ?_)).trans hc⟩
  obtain ⟨c, t, f, h1, h2⟩ := ho b e.symm
  rw [hc] at h1
  simp only [Option.some.injEq, Obj.cells.injEq] at h1
  exact h2 h1.2.1.symm
theorem ChsIn.mono {lo lo' : Nat} {W : World} {v : Value} {cs : List Chg} (h : ChsIn lo W v cs) (hl : lo' ≤ lo) : ChsIn lo' W v cs := by
  obtain ⟨a, cap, rfl, h⟩ := h
  refine ⟨a, cap, rfl, fun hne => ?_⟩
  obtain ⟨b, rfl, hlo, hc⟩ := h hne
  exact ⟨b, rfl, Nat.le_trans hl hlo, hc⟩
/-- The array in which changes are gathered. -/
def foundA (cs : List Chg) : Array Value := (chgCells cs ++ List.replicate (12 - cs.length * 3) (Value.int .i64 0)).toArray
theorem foundA_snoc {cs : List Chg} {k : Nat} (hk : cs.length = k) (h : k < 4) (c : Chg) : (((foundA cs).setIfInBounds (k * 3) (.int .i64 c.kind)).setIfInBounds (k * 3 + 1) (.int .i64 c.pos)).setIfInBounds (k * 3 + 2) (.int .i64 c.many) = foundA (cs ++ [c]) := by
  subst hk
  rcases cs with _ | ⟨c1, _ | ⟨c2, _ | ⟨c3, _ | ⟨c4, cs⟩⟩⟩⟩
  · rfl
  · rfl
  · rfl
  · rfl
  · simp only [List.length_cons] at h; omega

/-- A reading function that holds one box. -/
structure Fx (w W : World) (R : Nat) (s : Bs) (T : TypeId) (c : Array Value) : Prop where
  b0 : W.heap[w.heap.size]? = some (.cells c T)
  rd : Rd W R s
  only : OnlyIn (fun k => k = R) w W
  lt : R < w.heap.size
theorem Fx.call {w W W' : World} {R : Nat} {s t : Bs} {T : TypeId} {c : Array Value} (h : Fx w W R s T c) (k : Rw R t W W') : Fx w W' R t T c :=
  ⟨k.block h.b0 (by have := h.lt; omega), k.rd, h.only.trans k.only, h.lt⟩
theorem Fx.same {w W W' : World} {R : Nat} {s : Bs} {T : TypeId} {c : Array Value} (h : Fx w W R s T c) (k : Below W.heap.size W W') : Fx w W' R s T c :=
  ⟨blk_later k h.b0, blk_later k h.rd, h.only.trans (OnlyIn.of_below k), h.lt⟩
theorem Fx.set0 {w W : World} {R : Nat} {s : Bs} {T : TypeId} {c : Array Value} (h : Fx w W R s T c) (i : Nat) (v : Value) : Fx w (W.setCell ⟨w.heap.size, i, none⟩ v) R s T (c.setIfInBounds i v) :=
  ⟨blk_set h.b0 i v, (heap_setCell_past _ _ _ _ (by have := h.lt; simp; omega)).trans h.rd, h.only.setNew _ _ (by simp), h.lt⟩
theorem Fx.rw {w W : World} {R : Nat} {s : Bs} {T : TypeId} {c : Array Value} (h : Fx w W R s T c) : Rw R s w W := ⟨h.rd, h.only⟩
theorem Fx.size {w W : World} {R : Nat} {s : Bs} {T : TypeId} {c : Array Value} (h : Fx w W R s T c) : w.heap.size < W.heap.size := blk_lt h.b0

def ChsPost (R : Nat) (r : Option (List Chg × Bs)) (w : World) (e : Ending) (w' : World) : Prop := match r with
  | some (cs, t) => (∃ v, e = .returned v ∧ ChsIn w.heap.size w' v cs) ∧ Rw R t w w'
  | none => e = panicE ∧ ∃ t, Rw R t w w'
theorem ChsPost.fail {R : Nat} {r : Option (List Chg × Bs)} {w w' : World} {t : Bs} (hr : r = none) (h : Rw R t w w') : ChsPost R r w panicE w' := by subst hr; exact ⟨rfl, t, h⟩
theorem ChsPost.done {R : Nat} {r : Option (List Chg × Bs)} {w w' : World} {t : Bs} {cs : List Chg} {v : Value} (hr : r = some (cs, t)) (hv : ChsIn w.heap.size w' v cs) (h : Rw R t w w') : ChsPost R r w (.returned v) w' := by subst hr; exact ⟨⟨v, rfl, hv⟩, h⟩

/-- What is yet to read at the head of a round, k changes being read. -/
def restF (cs : List Chg) (u : Bs) : Option (List Chg × Bs) := if cs = [] then (match changeF u with
    | none => none
    | some (c, v) => moreF 3 [c] v) else moreF (4 - cs.length) cs u

theorem elemChg : ∃ i, Tryz.prog.info? 44 = some i ∧ i.zero = some (.agg #[.int .i64 0, .int .i64 0, .int .i64 0]) ∧ i.size = 3 ∧ i.bytes = 24 := elemOf (by kernel_rfl)
theorem undChgs : Tryz.prog.underlying 40 = some (.slice 44) := by kernel_rfl
theorem sizeChg : (Tryz.prog.info? 44).map (·.size) = some 3 := by kernel_rfl

theorem add_off' (g j : Nat) : (⟨g, 0, none⟩ : Addr).add j = ⟨g, j, none⟩ := by unfold Addr.add; split <;> simp_all
theorem lenFound : Tryz.prog.arrayLen 158 = 4 := by kernel_rfl
theorem sliceFound (w : World) (b k : Nat) (h : k ≤ 4) : (Instr.sliceAt 158 (.pointer (some ⟨b, 0, none⟩)) none (some (.int .i64 k)) none).run Tryz.prog w = .ok (.slice (some ⟨b, 0, none⟩) k 4) w := by
  have hs : (sizeOf (Tryz.prog.elem 158)).run Tryz.prog w = .ok 3 w := by kernel_rfl
  rw [run_sliceAt_array_h w 158 ⟨b, 0, none⟩ (by kernel_rfl) .i64 k (by omega) (by rw [lenFound]; omega), hs]
  simp [Result.andThen, slicedAt, lenFound, add_off']
theorem OnlyIn.of_grown {W W' : World} (h : W.grownBy W' none) : Below W.heap.size W W' := ⟨h.os, h.tape, h.output, h.size, fun k hk => h.block k hk (by simp)⟩
theorem restF_snoc (cs : List Chg) (c : Chg) (v : Bs) : restF (cs ++ [c]) v = moreF (3 - cs.length) (cs ++ [c]) v := by
  unfold restF
  rw [if_neg (by simp)]
  congr 1
  simp
theorem foundA_size {cs : List Chg} {k : Nat} (hk : cs.length = k) (h : k ≤ 4) : (foundA cs).size = 12 := by
  unfold foundA
  simp only [List.size_toArray, List.length_append, chgCells_len, List.length_replicate]
  omega
set_option maxRecDepth 100000 in
set_option maxHeartbeats 4000000 in
theorem changes_any (R : Nat) (s : Bs) (w : World) (hr : Rd w R s) :
    Calls Tryz.prog 87 #[.pointer (some ⟨R, 0, none⟩)] w (ChsPost R (changesF s) w) := by
  have HR := Lib.hid hr
  have hR := blk_lt hr
  clear hr
  cases hs : skipF [40] s with
  | none =>
    have hF : Hid (changesF s = some ([], s)) := by show _ = _; simp [changesF, hs]
    have HS := Lib.hid hs
    clear hs
    go_enter Tryz.func87, Tryz.ntmps87
    go_wp2_with fail
    refine (skip_no R s [40] _ HR.out HS.out).mono ?_
    rintro e w1 ⟨rfl, hw1⟩
    have HW := Lib.hid hw1
    clear hw1
    go_wp2_with fail
    go_ret
    exact ChsPost.done hF.out ⟨none, 0, rfl, fun h => absurd rfl h⟩ HW.out
  | some t =>
    have hF : Hid (changesF s = restF [] t) := by show _ = _; simp [changesF, hs, restF]; rfl
    have HS := Lib.hid hs
    clear hs
    go_enter Tryz.func87, Tryz.ntmps87
    go_wp2_with fail
    refine (skip_yes R s [40] t _ HR.out HS.out).mono ?_
    rintro e w1 ⟨rfl, hw1⟩
    have hz1 := hw1.size
    have HW := Lib.hid hw1
    clear hw1
    go_wp2_with fail
    have HX := Lib.hid (show Fx w1 (w1.alloc (.cells (foundA []) 158)) R t 158 (foundA []) from
      ⟨heap_alloc_at _ _ _ rfl, (heap_alloc_past _ _ _ (blk_lt HW.out.rd)).trans HW.out.rd, OnlyIn.alloc _ _ _, blk_lt HW.out.rd⟩)
    have hR1 := blk_lt HW.out.rd
    go_loopw [4] (fun v wr => ∃ (k : Nat) (cs : List Chg) (u : Bs), k ≤ 4 ∧ v = .int .i64 k ∧ Hid (cs.length = k) ∧ Hid (changesF s = restF cs u) ∧ Hid (Fx w1 wr R u 158 (foundA cs))) (fun v _ => 5 - (intOf v).toNat)
    case atStart => exact ⟨0, [], t, by omega, rfl, rfl, hF, HX⟩
    case round =>
      clear HX hF
      obtain ⟨k, cs, u, hk, rfl, HK, hF, HX⟩ := hrel
      by_cases hk0 : k = 0
      · have hcs : cs = [] := List.eq_nil_of_length_eq_zero (HK.out.trans hk0)
        have hG : Hid (changesF s = match changeF u with
          | none => none
          | some (c, v) => moreF (3 - cs.length) (cs ++ [c]) v) := by show _ = _; rw [hF.out, restF, if_pos hcs, hcs]; rfl
        obtain ⟨u', hu⟩ : ∃ u', u' = u := ⟨_, rfl⟩
        rw [← hu] at hG HX
        have hb0 : ((k : Int) == 0) = true := by simp [hk0]
        have hb4 : ((k : Int) == 4) = false := by simp [hk0]
        have hlt : k < 4 := by omega
        clear hF hcs hu hk0 hk
        go_wp2_with fail
        -- the change at u' is read, and laid behind the others; hF : Hid (changesF s = match changeF u' with ..)
        refine (change_any R u' _ HX.out.rd).mono ?_
        intro e w3 hp
        cases hl : changeF u' with
        | none =>
          rw [hl] at hp
          obtain ⟨rfl, t', hw⟩ := hp
          have hF : Hid (changesF s = none) := by show _ = _; rw [hG.out, hl]
          have HX := Lib.hid (HX.out.call hw)
          clear hw hl hG
          go_wp2_with fail
          exact ⟨rfl, ChsPost.fail hF.out (HW.out.trans HX.out.rw)⟩
        | some p =>
          obtain ⟨⟨kd, ps, mn⟩, v⟩ := p
          rw [hl] at hp
          obtain ⟨rfl, hw⟩ := hp
          dsimp only [chgV]
          have hF : Hid (changesF s = restF (cs ++ [⟨kd, ps, mn⟩]) v) := by show _ = _; rw [hG.out, hl, restF_snoc]
          have HX := Lib.hid (HX.out.call hw)
          clear hw hl hG
          have hz := HX.out.size
          have c0 : w3.cell? ⟨w1.heap.size, k * 3, none⟩ = some ((foundA cs)[k * 3]'(by rw [foundA_size HK.out (by omega)]; omega)) := by rw [blk_cell HX.out.b0]; exact Array.getElem?_eq_getElem _
          have c1 : w3.cell? ⟨w1.heap.size, k * 3 + 1, none⟩ = some ((foundA cs)[k * 3 + 1]'(by rw [foundA_size HK.out (by omega)]; omega)) := by rw [blk_cell HX.out.b0]; exact Array.getElem?_eq_getElem _
          have c2 : w3.cell? ⟨w1.heap.size, k * 3 + 2, none⟩ = some ((foundA cs)[k * 3 + 2]'(by rw [foundA_size HK.out (by omega)]; omega)) := by rw [blk_cell HX.out.b0]; exact Array.getElem?_eq_getElem _
          have f0 := blk_free HX.out.b0 (k * 3)
          have f1 := blk_free HX.out.b0 (k * 3 + 1)
          have f2 := blk_free HX.out.b0 (k * 3 + 2)
          go_wp2_with fail
          go_roundw
          case rel =>
            refine ⟨k + 1, cs ++ [⟨kd, ps, mn⟩], v, by omega, by go_num, (by show _ = _; rw [List.length_append, HK.out]; rfl), hF, ?_⟩
            have h3 := ((HX.out.set0 (k * 3) (.int .i64 kd)).set0 (k * 3 + 1) (.int .i64 ps)).set0 (k * 3 + 2) (.int .i64 mn)
            rw [foundA_snoc HK.out hlt ⟨kd, ps, mn⟩] at h3
            exact h3.same (by exact (by repeat (first | exact Below.refl _ _ | assumption | (refine Below.alloc ?_ ?_ _; rotate_left; · (first | omega | (simp; done) | (simp; omega) | fail)) | (refine Below.setCell ?_ ?_ _; rotate_left; · (first | omega | (simp; done) | (simp; omega) | fail)) | refine Below.drew ?_ | fail)))
          case measure => simp [intOf]; omega
      · have hb0 : ((k : Int) == 0) = false := by simp [hk0]
        have hne : cs ≠ [] := fun e => hk0 (by rw [← HK.out, e]; rfl)
        have hF := Lib.hid (show changesF s = moreF (4 - cs.length) cs u by rw [hF.out, restF, if_neg hne])
        cases h1 : skipF [44] u with
        | some u' =>
          by_cases h4 : k = 4
          · have hb4 : ((k : Int) == 4) = true := by simp [h4]
            have hG : Hid (changesF s = none) := by show _ = _; rw [hF.out, HK.out, h4]; simp [moreF, h1]
            have H1 := Lib.hid h1
            clear hF h1 hk0 h4
            go_wp2_with fail
            refine (skip_yes R u [44] u' _ HX.out.rd H1.out).mono ?_
            rintro e w2 ⟨rfl, hw2⟩
            have HX := Lib.hid (HX.out.call hw2)
            clear hw2
            go_wp2_with fail
            refine (fail_any _ _).mono ?_
            rintro e w3 ⟨rfl, rfl⟩
            go_wp2_with fail
            exact ⟨rfl, ChsPost.fail hG.out (HW.out.trans HX.out.rw)⟩
          · have hb4 : ((k : Int) == 4) = false := by simp; omega
            have hlt : k < 4 := by omega
            have hG : Hid (changesF s = match changeF u' with
              | none => none
              | some (c, v) => moreF (3 - cs.length) (cs ++ [c]) v) := by
              show _ = _
              rw [hF.out, HK.out, show 4 - k = (3 - k) + 1 by omega]
              simp only [moreF, h1]
              cases changeF u' <;> rfl
            have H1 := Lib.hid h1
            clear hF h1 hk0 h4 hk
            go_wp2_with fail
            refine (skip_yes R u [44] u' _ HX.out.rd H1.out).mono ?_
            rintro e w2 ⟨rfl, hw2⟩
            have HX := Lib.hid (HX.out.call hw2)
            clear hw2
            go_wp2_with fail
            -- the change at u' is read, and laid behind the others; hF : Hid (changesF s = match changeF u' with ..)
            refine (change_any R u' _ HX.out.rd).mono ?_
            intro e w3 hp
            cases hl : changeF u' with
            | none =>
              rw [hl] at hp
              obtain ⟨rfl, t', hw⟩ := hp
              have hF : Hid (changesF s = none) := by show _ = _; rw [hG.out, hl]
              have HX := Lib.hid (HX.out.call hw)
              clear hw hl hG
              go_wp2_with fail
              exact ⟨rfl, ChsPost.fail hF.out (HW.out.trans HX.out.rw)⟩
            | some p =>
              obtain ⟨⟨kd, ps, mn⟩, v⟩ := p
              rw [hl] at hp
              obtain ⟨rfl, hw⟩ := hp
              dsimp only [chgV]
              have hF : Hid (changesF s = restF (cs ++ [⟨kd, ps, mn⟩]) v) := by show _ = _; rw [hG.out, hl, restF_snoc]
              have HX := Lib.hid (HX.out.call hw)
              clear hw hl hG
              have hz := HX.out.size
              have c0 : w3.cell? ⟨w1.heap.size, k * 3, none⟩ = some ((foundA cs)[k * 3]'(by rw [foundA_size HK.out (by omega)]; omega)) := by rw [blk_cell HX.out.b0]; exact Array.getElem?_eq_getElem _
              have c1 : w3.cell? ⟨w1.heap.size, k * 3 + 1, none⟩ = some ((foundA cs)[k * 3 + 1]'(by rw [foundA_size HK.out (by omega)]; omega)) := by rw [blk_cell HX.out.b0]; exact Array.getElem?_eq_getElem _
              have c2 : w3.cell? ⟨w1.heap.size, k * 3 + 2, none⟩ = some ((foundA cs)[k * 3 + 2]'(by rw [foundA_size HK.out (by omega)]; omega)) := by rw [blk_cell HX.out.b0]; exact Array.getElem?_eq_getElem _
              have f0 := blk_free HX.out.b0 (k * 3)
              have f1 := blk_free HX.out.b0 (k * 3 + 1)
              have f2 := blk_free HX.out.b0 (k * 3 + 2)
              go_wp2_with fail
              go_roundw
              case rel =>
                refine ⟨k + 1, cs ++ [⟨kd, ps, mn⟩], v, by omega, by go_num, (by show _ = _; rw [List.length_append, HK.out]; rfl), hF, ?_⟩
                have h3 := ((HX.out.set0 (k * 3) (.int .i64 kd)).set0 (k * 3 + 1) (.int .i64 ps)).set0 (k * 3 + 2) (.int .i64 mn)
                rw [foundA_snoc HK.out hlt ⟨kd, ps, mn⟩] at h3
                exact h3.same (by exact (by repeat (first | exact Below.refl _ _ | assumption | (refine Below.alloc ?_ ?_ _; rotate_left; · (first | omega | (simp; done) | (simp; omega) | fail)) | (refine Below.setCell ?_ ?_ _; rotate_left; · (first | omega | (simp; done) | (simp; omega) | fail)) | refine Below.drew ?_ | fail)))
              case measure => simp [intOf]; omega
        | none =>
          have H1 := Lib.hid h1
          cases h2 : skipF [41] u with
          | none =>
            have hG : Hid (changesF s = none) := by
              show _ = _; rw [hF.out]
              cases 4 - cs.length <;> simp [moreF, h1, h2]
            have H2 := Lib.hid h2
            clear hF h1 h2 hk0
            go_wp2_with fail
            refine (skip_no R u [44] _ HX.out.rd H1.out).mono ?_
            rintro e w2 ⟨rfl, hw2⟩
            have HX := Lib.hid (HX.out.call hw2)
            clear hw2
            go_wp2_with fail
            refine (must_no R u [41] _ HX.out.rd H2.out).mono ?_
            rintro e w3 ⟨rfl, hw2⟩
            have HX := Lib.hid (HX.out.call hw2)
            clear hw2
            go_wp2_with fail
            exact ⟨rfl, ChsPost.fail hG.out (HW.out.trans HX.out.rw)⟩
          | some v =>
            have hG : Hid (changesF s = some (cs, v)) := by
              show _ = _; rw [hF.out]
              cases 4 - cs.length <;> simp [moreF, h1, h2]
            have H2 := Lib.hid h2
            have hpos : 0 < k := by omega
            clear hF h1 h2 hk0
            go_wp2_with fail
            refine (skip_no R u [44] _ HX.out.rd H1.out).mono ?_
            rintro e w2 ⟨rfl, hw2⟩
            have HX := Lib.hid (HX.out.call hw2)
            clear hw2
            go_wp2_with fail
            refine (must_yes R u [41] v _ HX.out.rd H2.out).mono ?_
            rintro e w3 ⟨rfl, hw2⟩
            have HX := Lib.hid (HX.out.call hw2)
            clear hw2
            obtain ⟨ei, hi1, hi2, hi3, hi4⟩ := elemChg
            have hb24 : ei.bytes * k ≤ 281474976710656 := by rw [hi4]; omega
            have hz := HX.out.size
            clear hi4
            go_wp2_with (refine wpList_make_full _ rfl (.tmp 29) (.tmp 29) 40 rfl w3.heap.size 44 ei _ 3 undChgs hi1 hi2 hi3 .i64 .i64 _ _ k rfl rfl rfl rfl hb24 (by simp only [maxLen]; omega) (Nat.le_refl _) ?c6)
            case c6 =>
              intro w4 hown hgrow
              have HO := Lib.hid hown
              have HX := Lib.hid (HX.out.same (OnlyIn.of_grown hgrow))
              have hz4 := hgrow.size
              clear hown hgrow hb24 hi1 hi2 hi3
              have hsl := fun w p => sliceFound w p k hk
              obtain ⟨cur, hg, hcs⟩ : ∃ cur : Array Value, w4.heap[w3.heap.size]? = some (.cells cur 44) ∧ cur.size = k * 3 := by
                rcases HO.out.2 with ⟨he, -⟩ | ⟨g, cap, cur, he, hbg, hg, hnc, hcm, hcs, htake⟩
                · cases he
                · cases he
                  exact ⟨cur, hg, hcs⟩
              have HG := Lib.hid hg
              have HC := Lib.hid hcs
              clear hg hcs HO
              go_wp2_with (with_reducible refine wpList_copy_all rfl (.tmp 31) (.tmp 33) 40 40 rfl 44 3 undChgs sizeChg w3.heap.size k k ⟨w1.heap.size, 0, none⟩ 4 rfl rfl cur 44 HG.out (chgCells cs) ?d4 ?d5 ?d6 ?d7 ?d8)
              case d4 => rw [chgCells_len, HK.out]
              case d5 =>
                intro j u hu
                rw [add_off', blk_cell HX.out.b0]
                have hj := (List.getElem?_eq_some_iff.1 hu).1
                simp only [foundA, List.getElem?_toArray]
                rw [List.getElem?_append_left hj]
                exact hu
              case d6 => rw [HC.out, chgCells_len, HK.out]
              case d7 => exact chgCells_one cs
              have hb : OnlyIn (fun j => w1.heap.size ≤ j) w4 (w4.setRow w3.heap.size (chgCells cs).toArray) := ⟨rfl, rfl, rfl, by simp [World.setRow], fun j _ hj => setRow_other w4 w3.heap.size j _ (by omega)⟩
              have hn : (w4.setRow w3.heap.size (chgCells cs).toArray).heap[w3.heap.size]? = some (.cells (chgCells cs).toArray 44) := setRow_heap _ _ _ _ _ _ HG.out
              have hr : Rd (w4.setRow w3.heap.size (chgCells cs).toArray) R v := (setRow_other w4 w3.heap.size R _ (by omega)).trans HX.out.rd
              go_ret
              exact ChsPost.done hG.out ⟨some ⟨w3.heap.size, 0, none⟩, k, (by rw [HK.out]; rfl), fun _ => ⟨_, rfl, by omega, hn⟩⟩ (HW.out.trans ⟨hr, HX.out.only.fresh hb⟩)

end Go.Proofs.YtimdmgkegdlafaaGreatDoor
