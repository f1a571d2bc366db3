/- The parts Rj of the proof, joined. It holds without conditions of its own. -/
import Derived.Test.YtlekbddlemfokaaDoorKM5
/- Contracts of the reader: the changes of a gathering. -/
namespace Go.Proofs.YtlekbddlemfokaaDoor
set_option linter.unusedSimpArgs false
set_option linter.unusedVariables false
open Go Go.RowKit Go.Sort Go.BigFrame

def chgCells (cs : List Chg) : List Value := cs.flatMap fun c => [.int .i64 c.kind, .int .i64 c.pos, .int .i64 c.many]
theorem chgCells_len (cs : List Chg) : (chgCells cs).length = cs.length * 3 := by
  unfold chgCells
  induction cs with
  | nil => rfl
  | cons c cs ih => simp only [List.flatMap_cons, List.length_append, List.length_cons, List.length_nil, ih]; omega
theorem chgCells_one (cs : List Chg) : ∀ v ∈ chgCells cs, v.oneCell' = true := by
  intro v hv
  obtain ⟨c, -, hc⟩ := List.mem_flatMap.1 hv
  simp only [List.mem_cons, List.not_mem_nil, or_false] at hc
  rcases hc with rfl | rfl | rfl <;> rfl
theorem chg_at : ∀ {cs : List Chg} {i : Nat} {c : Chg}, cs[i]? = some c → (chgCells cs)[i * 3]? = some (.int .i64 c.kind) ∧ (chgCells cs)[i * 3 + 1]? = some (.int .i64 c.pos) ∧ (chgCells cs)[i * 3 + 2]? = some (.int .i64 c.many)
  | [], _, _, h => by cases h
  | x :: xs, 0, c, h => by
    simp only [List.getElem?_cons_zero, Option.some.injEq] at h
    subst h
    exact ⟨rfl, rfl, rfl⟩
  | x :: xs, i + 1, c, h => by
    have h' := chg_at (cs := xs) (i := i) (c := c) (by simpa using h)
    have e : ∀ j, (chgCells (x :: xs))[(i + 1) * 3 + j]? = (chgCells xs)[i * 3 + j]? := fun j => by
      show ([_, _, _] ++ chgCells xs)[(i + 1) * 3 + j]? = _
      rw [List.getElem?_append_right (by simp; omega)]
      congr 1
      simp; omega
    have e0 := e 0
    simp only [Nat.add_zero] at e0
    rw [e0, e 1, e 2]
    exact h'
/-- A slice of changes in a new block. -/
def ChsIn (lo : Nat) (W : World) (v : Value) (cs : List Chg) : Prop :=
  ∃ (a : Option Addr) (cap : Nat), v = .slice a cs.length cap ∧ (cs ≠ [] → ∃ b, a = some ⟨b, 0, none⟩ ∧ lo ≤ b ∧ W.heap[b]? = some (.cells (chgCells cs).toArray 43))
theorem ChsIn.at_ {lo : Nat} {W : World} {v : Value} {cs : List Chg} (h : ChsIn lo W v cs) : ChsAt W.heap.size W v cs := by
  obtain ⟨a, cap, rfl, h⟩ := h
  refine ⟨a, cap, rfl, fun hne => ?_⟩
  obtain ⟨b, rfl, -, hc⟩ := h hne
  refine ⟨b, 0, rfl, blk_lt hc, fun i c hi => ?_⟩
  obtain ⟨h1, h2, h3⟩ := chg_at hi
  simp only [Nat.zero_add, blk_cell hc, List.getElem?_toArray]
  exact ⟨h1, h2, h3⟩
theorem ChsIn.only {lo : Nat} {W W' : World} {v : Value} {cs : List Chg} {X : Nat → Prop} (h : ChsIn lo W v cs) (ho : OnlyIn X W W') (hX : ∀ k, X k → k < lo) : ChsIn lo W' v cs := by
  obtain ⟨a, cap, rfl, h⟩ := h
  refine ⟨a, cap, rfl, fun hne => ?_⟩
  obtain ⟨b, rfl, hlo, hc⟩ := h hne
  exact ⟨b, rfl, hlo, (ho.block b (blk_lt hc) (fun hx => by have := hX _ hx; omega)).trans hc⟩
/-- A row of other elements has grown. -/
theorem ChsIn.grown {lo : Nat} {W W' : World} {v : Value} {cs : List Chg} {ow : Option Nat} (h : ChsIn lo W v cs) (hg : W.grownBy W' ow) (ho : ∀ g, ow = some g → ∃ c t f, W.heap[g]? = some (.cells c t f) ∧ t ≠ 43) : ChsIn lo W' v cs := by
  obtain ⟨a, cap, rfl, h⟩ := h
  refine ⟨a, cap, rfl, fun hne => ?_⟩
  obtain ⟨b, rfl, hlo, hc⟩ := h hne
  refine ⟨b, rfl, hlo, (hg.block b (blk_lt hc) (fun e => ?_)).trans hc⟩
  obtain ⟨c, t, f, h1, h2⟩ := ho b e.symm
  rw [hc] at h1
  simp only [Option.some.injEq, Obj.cells.injEq] at h1
  exact h2 h1.2.1.symm
theorem ChsIn.mono {lo lo' : Nat} {W : World} {v : Value} {cs : List Chg} (h : ChsIn lo W v cs) (hl : lo' ≤ lo) : ChsIn lo' W v cs := by
  obtain ⟨a, cap, rfl, h⟩ := h
  refine ⟨a, cap, rfl, fun hne => ?_⟩
  obtain ⟨b, rfl, hlo, hc⟩ := h hne
  exact ⟨b, rfl, Nat.le_trans hl hlo, hc⟩
/-- The array in which changes are gathered. -/
def foundA (cs : List Chg) : Array Value := (chgCells cs ++ List.replicate (12 - cs.length * 3) (Value.int .i64 0)).toArray
theorem foundA_snoc {cs : List Chg} {k : Nat} (hk : cs.length = k) (h : k < 4) (c : Chg) : (((foundA cs).setIfInBounds (k * 3) (.int .i64 c.kind)).setIfInBounds (k * 3 + 1) (.int .i64 c.pos)).setIfInBounds (k * 3 + 2) (.int .i64 c.many) = foundA (cs ++ [c]) := by
  subst hk
  rcases cs with _ | ⟨c1, _ | ⟨c2, _ | ⟨c3, _ | ⟨c4, cs⟩⟩⟩⟩
  · rfl
  · rfl
  · rfl
  · rfl
  · simp only [List.length_cons] at h; omega

/-- A reading function that holds one box. -/
structure Fx (w W : World) (R : Nat) (s : Bs) (T : TypeId) (c : Array Value) : Prop where
  b0 : W.heap[w.heap.size]? = some (.cells c T)
  rd : Rd W R s
  only : OnlyIn (fun k => k = R) w W
  lt : R < w.heap.size
theorem Fx.call {w W W' : World} {R : Nat} {s t : Bs} {T : TypeId} {c : Array Value} (h : Fx w W R s T c) (k : Rw R t W W') : Fx w W' R t T c :=
  ⟨k.block h.b0 (by have := h.lt; omega), k.rd, h.only.trans k.only, h.lt⟩
theorem Fx.same {w W W' : World} {R : Nat} {s : Bs} {T : TypeId} {c : Array Value} (h : Fx w W R s T c) (k : Below W.heap.size W W') : Fx w W' R s T c :=
  ⟨blk_later k h.b0, blk_later k h.rd, h.only.trans (OnlyIn.of_below k), h.lt⟩
theorem Fx.set0 {w W : World} {R : Nat} {s : Bs} {T : TypeId} {c : Array Value} (h : Fx w W R s T c) (i : Nat) (v : Value) : Fx w (W.setCell ⟨w.heap.size, i, none⟩ v) R s T (c.setIfInBounds i v) :=
  ⟨blk_set h.b0 i v, (heap_setCell_past _ _ _ _ (by have := h.lt; simp; omega)).trans h.rd, h.only.setNew _ _ (by simp), h.lt⟩
theorem Fx.rw {w W : World} {R : Nat} {s : Bs} {T : TypeId} {c : Array Value} (h : Fx w W R s T c) : Rw R s w W := ⟨h.rd, h.only⟩
theorem Fx.size {w W : World} {R : Nat} {s : Bs} {T : TypeId} {c : Array Value} (h : Fx w W R s T c) : w.heap.size < W.heap.size := blk_lt h.b0

def ChsPost (R : Nat) (r : Option (List Chg × Bs)) (w : World) (e : Ending) (w' : World) : Prop := match r with
  | some (cs, t) => (∃ v, e = .returned v ∧ ChsIn w.heap.size w' v cs) ∧ Rw R t w w'
  | none => e = panicE ∧ ∃ t, Rw R t w w'
theorem ChsPost.fail {R : Nat} {r : Option (List Chg × Bs)} {w w' : World} {t : Bs} (hr : r = none) (h : Rw R t w w') : ChsPost R r w panicE w' := by subst hr; exact ⟨rfl, t, h⟩
theorem ChsPost.done {R : Nat} {r : Option (List Chg × Bs)} {w w' : World} {t : Bs} {cs : List Chg} {v : Value} (hr : r = some (cs, t)) (hv : ChsIn w.heap.size w' v cs) (h : Rw R t w w') : ChsPost R r w (.returned v) w' := by subst hr; exact ⟨⟨v, rfl, hv⟩, h⟩

/-- What is yet to read at the head of a round, k changes being read. -/
def restF (cs : List Chg) (u : Bs) : Option (List Chg × Bs) := if cs = [] then (match changeF u with
    | none => none
    | some (c, v) => moreF 3 [c] v) else moreF (4 - cs.length) cs u

theorem elemChg : ∃ i, Tryd.prog.info? 43 = some i ∧ i.zero = some (.agg #[.int .i64 0, .int .i64 0, .int .i64 0]) ∧ i.size = 3 ∧ i.bytes = 24 := elemOf (by kernel_rfl)
theorem undChgs : Tryd.prog.underlying 37 = some (.slice 43) := by kernel_rfl
theorem sizeChg : (Tryd.prog.info? 43).map (·.size) = some 3 := by kernel_rfl

theorem add_off' (g j : Nat) : (⟨g, 0, none⟩ : Addr).add j = ⟨g, j, none⟩ := by unfold Addr.add; split <;> simp_all
theorem lenFound : Tryd.prog.arrayLen 129 = 4 := by kernel_rfl
theorem sliceFound (w : World) (b k : Nat) (h : k ≤ 4) : (Instr.sliceAt 129 (.pointer (some ⟨b, 0, none⟩)) none (some (.int .i64 k)) none).run Tryd.prog w = .ok (.slice (some ⟨b, 0, none⟩) k 4) w := by
  have hs : (sizeOf (Tryd.prog.elem 129)).run Tryd.prog w = .ok 3 w := by kernel_rfl
  rw [run_sliceAt_array_h w 129 ⟨b, 0, none⟩ (by kernel_rfl) .i64 k (by omega) (by rw [lenFound]; omega), hs]
  simp [Result.andThen, slicedAt, lenFound, add_off']
theorem OnlyIn.of_grown {W W' : World} (h : W.grownBy W' none) : Below W.heap.size W W' := ⟨h.os, h.tape, h.output, h.size, fun k hk => h.block k hk (by simp)⟩
theorem restF_snoc (cs : List Chg) (c : Chg) (v : Bs) : restF (cs ++ [c]) v = moreF (3 - cs.length) (cs ++ [c]) v := by
  unfold restF
  rw [if_neg (by simp)]
  congr 1
  simp
theorem foundA_size {cs : List Chg} {k : Nat} (hk : cs.length = k) (h : k ≤ 4) : (foundA cs).size = 12 := by
  unfold foundA
  simp only [List.size_toArray, List.length_append, chgCells_len, List.length_replicate]
  omega
set_option maxRecDepth 100000 in
set_option maxHeartbeats 4000000 in
theorem changes_any (R : Nat) (s : Bs) (w : World) (hr : Rd w R s) :
    Calls Tryd.prog 60 #[.pointer (some ⟨R, 0, none⟩)] w (ChsPost R (changesF s) w) := by
  have HR := Lib.hid hr
  have hR := blk_lt hr
  clear hr
  cases hs : skipF [40] s with
  | none =>
    have hF : Hid (changesF s = some ([], s)) := by show _ = _; simp [changesF, hs]
    have HS := Lib.hid hs
    clear hs
    go_enter Tryd.func60, Tryd.ntmps60
    go_wp2_with fail
    refine (skip_no R s [40] _ HR.out HS.out).mono ?_
    rintro e w1 ⟨rfl, hw1⟩
    have HW := Lib.hid hw1
    clear hw1
    go_wp2_with fail
    go_ret
    exact ChsPost.done hF.out ⟨none, 0, rfl, fun h => absurd rfl h⟩ HW.out
  | some t =>
    have hF : Hid (changesF s = restF [] t) := by show _ = _; simp [changesF, hs, restF]; rfl
    have HS := Lib.hid hs
    clear hs
    go_enter Tryd.func60, Tryd.ntmps60
    go_wp2_with fail
    refine (skip_yes R s [40] t _ HR.out HS.out).mono ?_
    rintro e w1 ⟨rfl, hw1⟩
    have hz1 := hw1.size
    have HW := Lib.hid hw1
    clear hw1
    go_wp2_with fail
    have HX := Lib.hid (show Fx w1 (w1.alloc (.cells (foundA []) 129)) R t 129 (foundA []) from
      ⟨heap_alloc_at _ _ _ rfl, (heap_alloc_past _ _ _ (blk_lt HW.out.rd)).trans HW.out.rd, OnlyIn.alloc _ _ _, blk_lt HW.out.rd⟩)
    have hR1 := blk_lt HW.out.rd
    go_loopw [4] (fun v wr => ∃ (k : Nat) (cs : List Chg) (u : Bs), k ≤ 4 ∧ v = .int .i64 k ∧ Hid (cs.length = k) ∧ Hid (changesF s = restF cs u) ∧ Hid (Fx w1 wr R u 129 (foundA cs))) (fun v _ => 5 - (intOf v).toNat)
    case atStart => exact ⟨0, [], t, by omega, rfl, rfl, hF, HX⟩
    case round =>
      clear HX hF
      obtain ⟨k, cs, u, hk, rfl, HK, hF, HX⟩ := hrel
      by_cases hk0 : k = 0
      · have hcs : cs = [] := List.eq_nil_of_length_eq_zero (HK.out.trans hk0)
        have hG : Hid (changesF s = match changeF u with
          | none => none
          | some (c, v) => moreF (3 - cs.length) (cs ++ [c]) v) := by show _ = _; rw [hF.out, restF, if_pos hcs, hcs]; rfl
        obtain ⟨u', hu⟩ : ∃ u', u' = u := ⟨_, rfl⟩
        rw [← hu] at hG HX
        have hb0 : ((k : Int) == 0) = true := by simp [hk0]
        have hb4 : ((k : Int) == 4) = false := by simp [hk0]
        have hlt : k < 4 := by omega
        clear hF hcs hu hk0 hk
        go_wp2_with fail
        -- the change at u' is read, and laid behind the others; hF : Hid (changesF s = match changeF u' with ..)
        refine (change_any R u' _ HX.out.rd).mono ?_
        intro e w3 hp
        cases hl : changeF u' with
        | none =>
          rw [hl] at hp
          obtain ⟨rfl, t', hw⟩ := hp
          have hF : Hid (changesF s = none) := by show _ = _; rw [hG.out, hl]
          have HX := Lib.hid (HX.out.call hw)
          clear hw hl hG
          go_wp2_with fail
          exact ⟨rfl, ChsPost.fail hF.out (HW.out.trans HX.out.rw)⟩
        | some p =>
          obtain ⟨⟨kd, ps, mn⟩, v⟩ := p
          rw [hl] at hp
          obtain ⟨rfl, hw⟩ := hp
          dsimp only [chgV]
          have hF : Hid (changesF s = restF (cs ++ [⟨kd, ps, mn⟩]) v) := by show _ = _; rw [hG.out, hl, restF_snoc]
          have HX := Lib.hid (HX.out.call hw)
          clear hw hl hG
          have hz := HX.out.size
          have c0 : w3.cell? ⟨w1.heap.size, k * 3, none⟩ = some ((foundA cs)[k * 3]'(by rw [foundA_size HK.out (by omega)]; omega)) := by rw [blk_cell HX.out.b0]; exact Array.getElem?_eq_getElem _
          have c1 : w3.cell? ⟨w1.heap.size, k * 3 + 1, none⟩ = some ((foundA cs)[k * 3 + 1]'(by rw [foundA_size HK.out (by omega)]; omega)) := by rw [blk_cell HX.out.b0]; exact Array.getElem?_eq_getElem _
          have c2 : w3.cell? ⟨w1.heap.size, k * 3 + 2, none⟩ = some ((foundA cs)[k * 3 + 2]'(by rw [foundA_size HK.out (by omega)]; omega)) := by rw [blk_cell HX.out.b0]; exact Array.getElem?_eq_getElem _
          have f0 := blk_free HX.out.b0 (k * 3)
          have f1 := blk_free HX.out.b0 (k * 3 + 1)
          have f2 := blk_free HX.out.b0 (k * 3 + 2)
          go_wp2_with fail
          go_roundw
          case rel =>
            refine ⟨k + 1, cs ++ [⟨kd, ps, mn⟩], v, by omega, by go_num, (by show _ = _; rw [List.length_append, HK.out]; rfl), hF, ?_⟩
            have h3 := ((HX.out.set0 (k * 3) (.int .i64 kd)).set0 (k * 3 + 1) (.int .i64 ps)).set0 (k * 3 + 2) (.int .i64 mn)
            rw [foundA_snoc HK.out hlt ⟨kd, ps, mn⟩] at h3
            exact h3.same (by exact (by repeat (first | exact Below.refl _ _ | assumption | (refine Below.alloc ?_ ?_ _; rotate_left; · (first | omega | (simp; done) | (simp; omega) | fail)) | (refine Below.setCell ?_ ?_ _; rotate_left; · (first | omega | (simp; done) | (simp; omega) | fail)) | refine Below.drew ?_ | fail)))
          case measure => simp [intOf]; omega
      · have hb0 : ((k : Int) == 0) = false := by simp [hk0]
        have hne : cs ≠ [] := fun e => hk0 (by rw [← HK.out, e]; rfl)
        have hF := Lib.hid (show changesF s = moreF (4 - cs.length) cs u by rw [hF.out, restF, if_neg hne])
        cases h1 : skipF [44] u with
        | some u' =>
          by_cases h4 : k = 4
          · have hb4 : ((k : Int) == 4) = true := by simp [h4]
            have hG : Hid (changesF s = none) := by show _ = _; rw [hF.out, HK.out, h4]; simp [moreF, h1]
            have H1 := Lib.hid h1
            clear hF h1 hk0 h4
            go_wp2_with fail
            refine (skip_yes R u [44] u' _ HX.out.rd H1.out).mono ?_
            rintro e w2 ⟨rfl, hw2⟩
            have HX := Lib.hid (HX.out.call hw2)
            clear hw2
            go_wp2_with fail
            refine (fail_any _ _).mono ?_
            rintro e w3 ⟨rfl, rfl⟩
            go_wp2_with fail
            exact ⟨rfl, ChsPost.fail hG.out (HW.out.trans HX.out.rw)⟩
          · have hb4 : ((k : Int) == 4) = false := by simp; omega
            have hlt : k < 4 := by omega
            have hG : Hid (changesF s = match changeF u' with
              | none => none
              | some (c, v) => moreF (3 - cs.length) (cs ++ [c]) v) := by
              show _ = _
              rw [hF.out, HK.out, show 4 - k = (3 - k) + 1 by omega]
              simp only [moreF, h1]
              cases changeF u' <;> rfl
            have H1 := Lib.hid h1
            clear hF h1 hk0 h4 hk
            go_wp2_with fail
            refine (skip_yes R u [44] u' _ HX.out.rd H1.out).mono ?_
            rintro e w2 ⟨rfl, hw2⟩
            have HX := Lib.hid (HX.out.call hw2)
            clear hw2
            go_wp2_with fail
            -- the change at u' is read, and laid behind the others; hF : Hid (changesF s = match changeF u' with ..)
            refine (change_any R u' _ HX.out.rd).mono ?_
            intro e w3 hp
            cases hl : changeF u' with
            | none =>
              rw [hl] at hp
              obtain ⟨rfl, t', hw⟩ := hp
              have hF : Hid (changesF s = none) := by show _ = _; rw [hG.out, hl]
              have HX := Lib.hid (HX.out.call hw)
              clear hw hl hG
              go_wp2_with fail
              exact ⟨rfl, ChsPost.fail hF.out (HW.out.trans HX.out.rw)⟩
            | some p =>
              obtain ⟨⟨kd, ps, mn⟩, v⟩ := p
              rw [hl] at hp
              obtain ⟨rfl, hw⟩ := hp
              dsimp only [chgV]
              have hF : Hid (changesF s = restF (cs ++ [⟨kd, ps, mn⟩]) v) := by show _ = _; rw [hG.out, hl, restF_snoc]
              have HX := Lib.hid (HX.out.call hw)
              clear hw hl hG
              have hz := HX.out.size
              have c0 : w3.cell? ⟨w1.heap.size, k * 3, none⟩ = some ((foundA cs)[k * 3]'(by rw [foundA_size HK.out (by omega)]; omega)) := by rw [blk_cell HX.out.b0]; exact Array.getElem?_eq_getElem _
              have c1 : w3.cell? ⟨w1.heap.size, k * 3 + 1, none⟩ = some ((foundA cs)[k * 3 + 1]'(by rw [foundA_size HK.out (by omega)]; omega)) := by rw [blk_cell HX.out.b0]; exact Array.getElem?_eq_getElem _
              have c2 : w3.cell? ⟨w1.heap.size, k * 3 + 2, none⟩ = some ((foundA cs)[k * 3 + 2]'(by rw [foundA_size HK.out (by omega)]; omega)) := by rw [blk_cell HX.out.b0]; exact Array.getElem?_eq_getElem _
              have f0 := blk_free HX.out.b0 (k * 3)
              have f1 := blk_free HX.out.b0 (k * 3 + 1)
              have f2 := blk_free HX.out.b0 (k * 3 + 2)
              go_wp2_with fail
              go_roundw
              case rel =>
                refine ⟨k + 1, cs ++ [⟨kd, ps, mn⟩], v, by omega, by go_num, (by show _ = _; rw [List.length_append, HK.out]; rfl), hF, ?_⟩
                have h3 := ((HX.out.set0 (k * 3) (.int .i64 kd)).set0 (k * 3 + 1) (.int .i64 ps)).set0 (k * 3 + 2) (.int .i64 mn)
                rw [foundA_snoc HK.out hlt ⟨kd, ps, mn⟩] at h3
                exact h3.same (by exact (by repeat (first | exact Below.refl _ _ | assumption | (refine Below.alloc ?_ ?_ _; rotate_left; · (first | omega | (simp; done) | (simp; omega) | fail)) | (refine Below.setCell ?_ ?_ _; rotate_left; · (first | omega | (simp; done) | (simp; omega) | fail)) | refine Below.drew ?_ | fail)))
              case measure => simp [intOf]; omega
        | none =>
          have H1 := Lib.hid h1
          cases h2 : skipF [41] u with
          | none =>
            have hG : Hid (changesF s = none) := by
              show _ = _; rw [hF.out]
              cases 4 - cs.length <;> simp [moreF, h1, h2]
            have H2 := Lib.hid h2
            clear hF h1 h2 hk0
            go_wp2_with fail
            refine (skip_no R u [44] _ HX.out.rd H1.out).mono ?_
            rintro e w2 ⟨rfl, hw2⟩
            have HX := Lib.hid (HX.out.call hw2)
            clear hw2
            go_wp2_with fail
            refine (must_no R u [41] _ HX.out.rd H2.out).mono ?_
            rintro e w3 ⟨rfl, hw2⟩
            have HX := Lib.hid (HX.out.call hw2)
            clear hw2
            go_wp2_with fail
            exact ⟨rfl, ChsPost.fail hG.out (HW.out.trans HX.out.rw)⟩
          | some v =>
            have hG : Hid (changesF s = some (cs, v)) := by
              show _ = _; rw [hF.out]
              cases 4 - cs.length <;> simp [moreF, h1, h2]
            have H2 := Lib.hid h2
            have hpos : 0 < k := by omega
            clear hF h1 h2 hk0
            go_wp2_with fail
            refine (skip_no R u [44] _ HX.out.rd H1.out).mono ?_
            rintro e w2 ⟨rfl, hw2⟩
            have HX := Lib.hid (HX.out.call hw2)
            clear hw2
            go_wp2_with fail
            refine (must_yes R u [41] v _ HX.out.rd H2.out).mono ?_
            rintro e w3 ⟨rfl, hw2⟩
            have HX := Lib.hid (HX.out.call hw2)
            clear hw2
            obtain ⟨ei, hi1, hi2, hi3, hi4⟩ := elemChg
            have hb24 : ei.bytes * k ≤ 281474976710656 := by rw [hi4]; omega
            have hz := HX.out.size
            clear hi4
            go_wp2_with (refine wpList_make_full _ rfl (.tmp 29) (.tmp 29) 37 rfl w3.heap.size 43 ei _ 3 undChgs hi1 hi2 hi3 .i64 .i64 _ _ k rfl rfl rfl rfl hb24 (by simp only [maxLen]; omega) (Nat.le_refl _) ?c6)
            case c6 =>
              intro w4 hown hgrow
              have HO := Lib.hid hown
              have HX := Lib.hid (HX.out.same (OnlyIn.of_grown hgrow))
              have hz4 := hgrow.size
              clear hown hgrow hb24 hi1 hi2 hi3
              have hsl := fun w p => sliceFound w p k hk
              obtain ⟨cur, hg, hcs⟩ : ∃ cur : Array Value, w4.heap[w3.heap.size]? = some (.cells cur 43) ∧ cur.size = k * 3 := by
                rcases HO.out.2 with ⟨he, -⟩ | ⟨g, cap, cur, he, hbg, hg, hnc, hcm, hcs, htake⟩
                · cases he
                · cases he
                  exact ⟨cur, hg, hcs⟩
              have HG := Lib.hid hg
              have HC := Lib.hid hcs
              clear hg hcs HO
              go_wp2_with (with_reducible refine wpList_copy_all rfl (.tmp 31) (.tmp 33) 37 37 rfl 43 3 undChgs sizeChg w3.heap.size k k ⟨w1.heap.size, 0, none⟩ 4 rfl rfl cur 43 HG.out (chgCells cs) ?d4 ?d5 ?d6 ?d7 ?d8)
              case d4 => rw [chgCells_len, HK.out]
              case d5 =>
                intro j u hu
                rw [add_off', blk_cell HX.out.b0]
                have hj := (List.getElem?_eq_some_iff.1 hu).1
                simp only [foundA, List.getElem?_toArray]
                rw [List.getElem?_append_left hj]
                exact hu
              case d6 => rw [HC.out, chgCells_len, HK.out]
              case d7 => exact chgCells_one cs
              have hb : OnlyIn (fun j => w1.heap.size ≤ j) w4 (w4.setRow w3.heap.size (chgCells cs).toArray) := ⟨rfl, rfl, rfl, by simp [World.setRow], fun j _ hj => setRow_other w4 w3.heap.size j _ (by omega)⟩
              have hn : (w4.setRow w3.heap.size (chgCells cs).toArray).heap[w3.heap.size]? = some (.cells (chgCells cs).toArray 43) := setRow_heap _ _ _ _ _ _ HG.out
              have hr : Rd (w4.setRow w3.heap.size (chgCells cs).toArray) R v := (setRow_other w4 w3.heap.size R _ (by omega)).trans HX.out.rd
              go_ret
              exact ChsPost.done hG.out ⟨some ⟨w3.heap.size, 0, none⟩, k, (by rw [HK.out]; rfl), fun _ => ⟨_, rfl, by omega, hn⟩⟩ (HW.out.trans ⟨hr, HX.out.only.fresh hb⟩)

end Go.Proofs.YtlekbddlemfokaaDoor
