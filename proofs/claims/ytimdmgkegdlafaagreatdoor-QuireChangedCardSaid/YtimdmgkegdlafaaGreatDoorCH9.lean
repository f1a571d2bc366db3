/- The parts Qj, Qk of the proof, joined. It holds without conditions of its own. -/
import Derived.Test.YtimdmgkegdlafaaGreatDoorCH8
/- Contracts of package quire: which leaves are signed; how a leaf's name is written, and whether some book has it. -/
namespace Go.Proofs.YtimdmgkegdlafaaGreatDoor
set_option linter.unusedSimpArgs false
set_option linter.unusedVariables false
open Go Go.RowKit Go.Sort Go.BigFrame

def signedB (b : Bk) (x : Lf) (g : Gth) : Bool := decide (g.letter < 23) && (x.kind != 2) && decide (x.num ≤ b.signed)

set_option maxRecDepth 100000 in
set_option maxHeartbeats 400000 in
theorem signed_any (b : Bk) (v : Value) (x : Lf) (g : Gth) (w : World) (hb : BookAt w.heap.size w v b) (hg : b.gs[x.gat]? = some g) :
    Calls Tryz.prog 72 #[v, .agg #[.int .i64 x.gat, .int .i64 x.num, .int .i64 x.plus, .int .i64 x.kind]] w fun e w' => e = .returned (.bool (signedB b x g)) ∧ Below w.heap.size w w' := by
  obtain ⟨i, num, plus, kind⟩ := x
  obtain ⟨sv, rfl, a, cap, rfl, hc⟩ := hb
  have hil : i < b.gs.length := (List.getElem?_eq_some_iff.1 hg).1
  obtain ⟨b', off, rfl, hb', hcell⟩ := hc (fun e => by rw [e] at hil; simp at hil)
  obtain ⟨cv, _, k0, k1, _, _⟩ := hcell i g hg
  dsimp only at hg ⊢
  clear hc hcell hg
  have hd : (i : Int) < (b.gs.length : Int) := by omega
  cases hL : decide (g.letter < 23)
  · have HR : Hid (signedB b ⟨i, num, plus, kind⟩ g = false) := by show signedB _ _ _ = _; simp [signedB, hL]
    go_enter Tryz.func72, Tryz.ntmps72
    go_wp2_with fail
    refine (lettered_is g.round g.letter false hL _).mono ?_
    rintro e w1 ⟨rfl, hb⟩
    have hb1 := (((Below.refl w.heap.size w).alloc (Nat.le_refl _) _).alloc (by simp) _).trans (hb.mono (by simp; omega))
    clear hb k0 k1
    go_wp2_with fail
    go_ret
    exact ⟨by rw [HR.out]; rfl, hb1⟩
  · cases hK : (kind != 2)
    · have HR : Hid (signedB b ⟨i, num, plus, kind⟩ g = false) := by show signedB _ _ _ = _; simp only [signedB, hL, hK]; rfl
      go_enter Tryz.func72, Tryz.ntmps72
      go_wp2_with fail
      refine (lettered_is g.round g.letter true hL _).mono ?_
      rintro e w1 ⟨rfl, hb⟩
      have hb1 := (((Below.refl w.heap.size w).alloc (Nat.le_refl _) _).alloc (by simp) _).trans (hb.mono (by simp; omega))
      have p2 : w1.heap[w.heap.size + 1]? = some (.cells #[.int .i64 i, .int .i64 num, .int .i64 plus, .int .i64 kind] 89) := blk_later hb (by repeat (first | exact heap_alloc_at _ _ _ (by (first | omega | (simp; done) | (simp; omega) | (simp at *; omega) | fail)) | assumption | rw [heap_alloc_past _ _ _ (by (first | omega | (simp; done) | (simp; omega) | (simp at *; omega) | fail))] | rw [heap_setCell_past _ _ _ _ (by (first | omega | (simp; done) | (simp; omega) | (simp at *; omega) | fail))] | fail))
      have l0 := blk_cell p2 0; have l1 := blk_cell p2 1; have l2 := blk_cell p2 2; have l3 := blk_cell p2 3
      clear hb k0 k1 p2
      go_wp2_with fail
      go_ret
      exact ⟨by rw [HR.out]; rfl, hb1⟩
    · have HR : Hid (signedB b ⟨i, num, plus, kind⟩ g = decide (num ≤ b.signed)) := by show signedB _ _ _ = _; simp only [signedB, hL, hK]; rfl
      go_enter Tryz.func72, Tryz.ntmps72
      go_wp2_with fail
      refine (lettered_is g.round g.letter true hL _).mono ?_
      rintro e w1 ⟨rfl, hb⟩
      have hb1 := (((Below.refl w.heap.size w).alloc (Nat.le_refl _) _).alloc (by simp) _).trans (hb.mono (by simp; omega))
      have p1 : w1.heap[w.heap.size]? = some (.cells #[.int .i64 b.signed, .slice (some ⟨b', off, none⟩) b.gs.length cap] 57) := blk_later hb (by repeat (first | exact heap_alloc_at _ _ _ (by (first | omega | (simp; done) | (simp; omega) | (simp at *; omega) | fail)) | assumption | rw [heap_alloc_past _ _ _ (by (first | omega | (simp; done) | (simp; omega) | (simp at *; omega) | fail))] | rw [heap_setCell_past _ _ _ _ (by (first | omega | (simp; done) | (simp; omega) | (simp at *; omega) | fail))] | fail))
      have p2 : w1.heap[w.heap.size + 1]? = some (.cells #[.int .i64 i, .int .i64 num, .int .i64 plus, .int .i64 kind] 89) := blk_later hb (by repeat (first | exact heap_alloc_at _ _ _ (by (first | omega | (simp; done) | (simp; omega) | (simp at *; omega) | fail)) | assumption | rw [heap_alloc_past _ _ _ (by (first | omega | (simp; done) | (simp; omega) | (simp at *; omega) | fail))] | rw [heap_setCell_past _ _ _ _ (by (first | omega | (simp; done) | (simp; omega) | (simp at *; omega) | fail))] | fail))
      have l0 := blk_cell p2 0; have l1 := blk_cell p2 1; have l2 := blk_cell p2 2; have l3 := blk_cell p2 3
      have v0 := blk_cell p1 0; have v1 := blk_cell p1 1
      clear hb k0 k1 p2 p1
      go_wp2_with fail
      go_ret
      exact ⟨by rw [HR.out]; rfl, hb1⟩


set_option maxRecDepth 100000 in
set_option maxHeartbeats 400000 in
theorem possible_any (r l n p : Int) (w : World) :
    Calls Tryz.prog 81 #[.agg #[.int .i64 r, .int .i64 l, .int .i64 n, .int .i64 p]] w fun e w' => e = .returned (.bool (possibleB n p)) ∧ Below w.heap.size w w' := by
  unfold possibleB
  by_cases h0 : n = 0
  · subst h0
    by_cases h1 : p = 0
    · subst h1
      go_enter Tryz.func81, Tryz.ntmps81
      go_wp2_with fail
      go_ret
      exact ⟨rfl, (by repeat (first | exact Below.refl _ _ | assumption | (refine Below.alloc ?_ ?_ _; rotate_left; · (first | omega | (simp; done) | (simp; omega) | (simp at *; omega) | fail)) | (refine Below.setCell ?_ ?_ _; rotate_left; · (first | omega | (simp; done) | (simp; omega) | (simp at *; omega) | fail)) | refine Below.drew ?_ | fail))⟩
    · have hpb : (p == 0) = false := by simp [h1]
      have hr : (!(decide ((0 : Int) = 0) && decide (p = 0)) && inB 0 12 0 && inB 0 4 p) = inB 0 4 p := by simp [h1, inB]
      rw [hr]; clear hr h1
      go_enter Tryz.func81, Tryz.ntmps81
      go_wp2_with fail
      refine (within_one _ _ 0 _ _ (by simp [World.cell?_alloc_at])).mono ?_
      rintro e w' ⟨rfl, rfl⟩
      have h12 : inB 0 12 0 = true := by decide
      go_wp2_with fail
      refine (within_one _ _ p _ _ (by simp [World.cell?_alloc_at])).mono ?_
      rintro e w' ⟨rfl, rfl⟩
      go_wp2_with fail
      go_ret
      exact ⟨rfl, (by repeat (first | exact Below.refl _ _ | assumption | (refine Below.alloc ?_ ?_ _; rotate_left; · (first | omega | (simp; done) | (simp; omega) | (simp at *; omega) | fail)) | (refine Below.setCell ?_ ?_ _; rotate_left; · (first | omega | (simp; done) | (simp; omega) | (simp at *; omega) | fail)) | refine Below.drew ?_ | fail))⟩
  · have hnb : (n == 0) = false := by simp [h0]
    have hr : (!(decide (n = 0) && decide (p = 0)) && inB 0 12 n && inB 0 4 p) = (inB 0 12 n && inB 0 4 p) := by simp [h0]
    rw [hr]; clear hr h0
    cases h12 : inB 0 12 n
    · go_enter Tryz.func81, Tryz.ntmps81
      go_wp2_with fail
      refine (within_one _ _ n _ _ (by simp [World.cell?_alloc_at])).mono ?_
      rintro e w' ⟨rfl, rfl⟩
      rw [h12]
      go_wp2_with fail
      go_ret
      exact ⟨rfl, (by repeat (first | exact Below.refl _ _ | assumption | (refine Below.alloc ?_ ?_ _; rotate_left; · (first | omega | (simp; done) | (simp; omega) | (simp at *; omega) | fail)) | (refine Below.setCell ?_ ?_ _; rotate_left; · (first | omega | (simp; done) | (simp; omega) | (simp at *; omega) | fail)) | refine Below.drew ?_ | fail))⟩
    · go_enter Tryz.func81, Tryz.ntmps81
      go_wp2_with fail
      refine (within_one _ _ n _ _ (by simp [World.cell?_alloc_at])).mono ?_
      rintro e w' ⟨rfl, rfl⟩
      rw [h12]
      go_wp2_with fail
      refine (within_one _ _ p _ _ (by simp [World.cell?_alloc_at])).mono ?_
      rintro e w' ⟨rfl, rfl⟩
      go_wp2_with fail
      go_ret
      exact ⟨rfl, (by repeat (first | exact Below.refl _ _ | assumption | (refine Below.alloc ?_ ?_ _; rotate_left; · (first | omega | (simp; done) | (simp; omega) | (simp at *; omega) | fail)) | (refine Below.setCell ?_ ?_ _; rotate_left; · (first | omega | (simp; done) | (simp; omega) | (simp at *; omega) | fail)) | refine Below.drew ?_ | fail))⟩

set_option maxRecDepth 100000 in
set_option maxHeartbeats 400000 in
theorem nameText_any (r l n p : Int) (hs : sigB r l = true) (hn : 0 ≤ n ∧ n < 100) (hp : 0 ≤ p ∧ p < 100) (w : World) :
    Calls Tryz.prog 47 #[.agg #[.int .i64 r, .int .i64 l, .int .i64 n, .int .i64 p]] w fun e w' => e = .returned (S (nameT r l n p)) ∧ Below w.heap.size w w' := by
  obtain ⟨n0, n1⟩ := hn
  obtain ⟨p0, p1⟩ := hp
  have z1 := sigT_len r l
  have z2 := dec_len n
  have z3 := dec_len p
  have zs : (⟨(sigT r l).toArray⟩ : ByteArray).size ≤ 5 := by rw [size_bytes]; exact z1
  have zn : (⟨(dec n).toArray⟩ : ByteArray).size ≤ 2 := by rw [size_bytes]; exact z2
  have zp : (⟨(dec p).toArray⟩ : ByteArray).size ≤ 2 := by rw [size_bytes]; exact z3
  have HS := Lib.hid hs
  clear hs z1 z2 z3
  obtain ⟨w1, hw1⟩ : ∃ w1, w1 = w.alloc (Obj.cells #[.int .i64 r, .int .i64 l, .int .i64 n, .int .i64 p] 91) := ⟨_, rfl⟩
  have hb1 : Below w.heap.size w w1 := by rw [hw1]; exact (by repeat (first | exact Below.refl _ _ | assumption | (refine Below.alloc ?_ ?_ _; rotate_left; · (first | omega | (simp; done) | (simp; omega) | (simp at *; omega) | fail)) | (refine Below.setCell ?_ ?_ _; rotate_left; · (first | omega | (simp; done) | (simp; omega) | (simp at *; omega) | fail)) | refine Below.drew ?_ | fail))
  have q1 : w1.heap[w.heap.size]? = some (.cells #[.int .i64 r, .int .i64 l, .int .i64 n, .int .i64 p] 91) := by rw [hw1]; exact (by repeat (first | exact heap_alloc_at _ _ _ (by (first | omega | (simp; done) | (simp; omega) | (simp at *; omega) | fail)) | assumption | rw [heap_alloc_past _ _ _ (by (first | omega | (simp; done) | (simp; omega) | (simp at *; omega) | fail))] | rw [heap_setCell_past _ _ _ _ (by (first | omega | (simp; done) | (simp; omega) | (simp at *; omega) | fail))] | fail))
  go_enter Tryz.func47, Tryz.ntmps47
  go_wp2_with fail
  rw [← hw1]
  clear hw1
  have c0 := blk_cell q1 0; have c1 := blk_cell q1 1; have c2 := blk_cell q1 2; have c3 := blk_cell q1 3
  have HQ := Lib.hid q1
  clear q1
  have r0 := cell_regrown c0
  have r1 := cell_regrown c1
  have r2 := cell_regrown c2
  have cS : ∀ d os, Calls Tryz.prog 76 #[.agg #[.int .i64 r, .int .i64 l]] (grow (redrawn w1 d) os) (fun e w'' => e = .returned (S (sigT r l)) ∧ ∃ p : Regrown, w'' = grow (redrawn w1 p.d) p.os) := fun d os => Calls.regrown_of (sigText_any r l HS.out _)
  have cI : ∀ d os, Calls Tryz.prog 50 #[.int .i64 n] (grow (redrawn w1 d) os) (fun e w'' => e = .returned (S (dec n)) ∧ ∃ p : Regrown, w'' = grow (redrawn w1 p.d) p.os) := fun d os => Calls.regrown_of ((Itoa_any n n0 n1 _).mono fun e w' ⟨h1, h2⟩ => ⟨h1, h2 ▸ Below.refl _ _⟩)
  refine wp_region_quiet_below (by kernel_rfl) (by kernel_rfl) ?_; (repeat (go_big_quiet_step (first | exact cS _ _ | exact cI _ _))); refine wpQuiet_nil ?_; rintro w3 ⟨⟨d3, os3⟩, rfl⟩
  have hb13 := below_regrown w1 d3 os3
  have HQ := Lib.hid (blk_later hb13 HQ.out)
  have hb3 := hb1.trans (hb13.mono hb1.size)
  clear cS cI r0 r1 r2 c0 c1 c2 c3 hb13 hb1
  revert HQ hb3
  generalize grow (redrawn w1 d3) os3 = w3
  intro HQ hb3
  rw [cat_bytes]
  have zc : (⟨(sigT r l ++ dec n).toArray⟩ : ByteArray).size ≤ 7 := by rw [size_bytes] at *; simp; omega
  have c0 := blk_cell HQ.out 0; have c1 := blk_cell HQ.out 1; have c2 := blk_cell HQ.out 2; have c3 := blk_cell HQ.out 3
  by_cases hp : 0 < p
  · have zq : (⟨#[43]⟩ : ByteArray).size ≤ 1 := by decide
    have zt : ((⟨#[43]⟩ : ByteArray) ++ ⟨(dec p).toArray⟩).size ≤ 3 := by rw [ByteArray.size_append]; omega
    have HR : Hid (nameT r l n p = sigT r l ++ dec n ++ ([43] ++ dec p)) := by show nameT _ _ _ _ = _; simp [nameT, hp]
    go_wp2_with fail
    refine (Itoa_any p p0 p1 _).mono ?_
    rintro e w4 ⟨rfl, rfl⟩
    go_wp2_with fail
    go_ret
    exact ⟨ret_S (by rw [HR.out, show (⟨#[43]⟩ : ByteArray) = ⟨[43].toArray⟩ from rfl, cat_bytes, cat_bytes]), hb3⟩
  · have HR : Hid (nameT r l n p = sigT r l ++ dec n) := by show nameT _ _ _ _ = _; simp [nameT, hp]
    go_wp2_with fail
    go_ret
    exact ⟨ret_S (by rw [HR.out]), hb3⟩

end Go.Proofs.YtimdmgkegdlafaaGreatDoor

/- Contracts of package quire: what the changes of a gathering do at a number. -/
namespace Go.Proofs.YtimdmgkegdlafaaGreatDoor
set_option linter.unusedSimpArgs false
set_option linter.unusedVariables false
open Go Go.RowKit Go.Sort Go.BigFrame

theorem fate_take {cs : List Chg} {k : Nat} {c : Chg} {n : Int} (hk : cs[k]? = some c) : fateF (cs.take (k + 1)) n = fateStep n (fateF (cs.take k) n) c := by
  unfold fateF
  rw [List.take_add_one, hk, List.foldl_append]; rfl

theorem ta_1_yes (v : Value) (w : World) : (Instr.typeAssert (.iface 161 v) 147 161 true).run Tryz.prog w = .ok (.tuple #[v, .bool true]) w := by kernel_rfl
theorem ta_1_2 (v : Value) (w : World) : (Instr.typeAssert (.iface 162 v) 147 161 true).run Tryz.prog w = .ok (.tuple #[.agg #[.int .i64 0], .bool false]) w := by kernel_rfl
theorem ta_1_3 (v : Value) (w : World) : (Instr.typeAssert (.iface 164 v) 147 161 true).run Tryz.prog w = .ok (.tuple #[.agg #[.int .i64 0], .bool false]) w := by kernel_rfl
theorem ta_1_nil (w : World) : (Instr.typeAssert .nilIface 147 161 true).run Tryz.prog w = .ok (.tuple #[.agg #[.int .i64 0], .bool false]) w := by kernel_rfl
theorem ta_2_yes (v : Value) (w : World) : (Instr.typeAssert (.iface 162 v) 147 162 true).run Tryz.prog w = .ok (.tuple #[v, .bool true]) w := by kernel_rfl
theorem ta_2_1 (v : Value) (w : World) : (Instr.typeAssert (.iface 161 v) 147 162 true).run Tryz.prog w = .ok (.tuple #[.agg #[.int .i64 0], .bool false]) w := by kernel_rfl
theorem ta_2_3 (v : Value) (w : World) : (Instr.typeAssert (.iface 164 v) 147 162 true).run Tryz.prog w = .ok (.tuple #[.agg #[.int .i64 0], .bool false]) w := by kernel_rfl
theorem ta_2_nil (w : World) : (Instr.typeAssert .nilIface 147 162 true).run Tryz.prog w = .ok (.tuple #[.agg #[.int .i64 0], .bool false]) w := by kernel_rfl
theorem ta_3_yes (v : Value) (w : World) : (Instr.typeAssert (.iface 164 v) 147 164 true).run Tryz.prog w = .ok (.tuple #[v, .bool true]) w := by kernel_rfl
theorem ta_3_1 (v : Value) (w : World) : (Instr.typeAssert (.iface 161 v) 147 164 true).run Tryz.prog w = .ok (.tuple #[.agg #[.int .i64 0, .int .i64 0], .bool false]) w := by kernel_rfl
theorem ta_3_2 (v : Value) (w : World) : (Instr.typeAssert (.iface 162 v) 147 164 true).run Tryz.prog w = .ok (.tuple #[.agg #[.int .i64 0, .int .i64 0], .bool false]) w := by kernel_rfl
theorem ta_3_nil (w : World) : (Instr.typeAssert .nilIface 147 164 true).run Tryz.prog w = .ok (.tuple #[.agg #[.int .i64 0, .int .i64 0], .bool false]) w := by kernel_rfl

set_option maxRecDepth 100000 in
set_option maxHeartbeats 400000 in
theorem fateAt_some (n cap : Nat) (num : Int) (cs : List Chg) (b off : Nat) (w : World) (hn : cs.length = n) (hn' : n ≤ 100) (hbl : b < w.heap.size)
    (hcs : ∀ i c, cs[i]? = some c → w.cell? ⟨b, off + i * 3, none⟩ = some (.int .i64 c.kind) ∧ w.cell? ⟨b, off + i * 3 + 1, none⟩ = some (.int .i64 c.pos) ∧ w.cell? ⟨b, off + i * 3 + 2, none⟩ = some (.int .i64 c.many)) :
    Calls Tryz.prog 99 #[.slice (some ⟨b, off, none⟩) n cap, .int .i64 num] w fun e w' => e = .returned (.agg #[.bool (fateF cs num).gone, .bool (fateF cs num).swapped, .int .i64 (fateF cs num).added]) ∧ Below w.heap.size w w' := by
  have HN := Lib.hid hn
  have HC := Lib.hid hcs
  clear hn hcs
  obtain ⟨w1, hw1⟩ : ∃ w1, w1 = (w.alloc (Obj.cells #[.bool false, .bool false, .int .i64 0] 154)).alloc (Obj.cells #[.bool false, .bool false, .int .i64 0] 154) := ⟨_, rfl⟩
  have hb1 : Below w.heap.size w w1 := by rw [hw1]; exact (by repeat (first | exact Below.refl _ _ | assumption | (refine Below.alloc ?_ ?_ _; rotate_left; · (first | omega | (simp; done) | (simp; omega) | (simp at *; omega) | fail)) | (refine Below.setCell ?_ ?_ _; rotate_left; · (first | omega | (simp; done) | (simp; omega) | (simp at *; omega) | fail)) | refine Below.drew ?_ | fail))
  have q0 : w1.heap[w.heap.size]? = some (.cells #[.bool false, .bool false, .int .i64 0] 154) := by rw [hw1]; exact (by repeat (first | exact heap_alloc_at _ _ _ (by (first | omega | (simp; done) | (simp; omega) | (simp at *; omega) | fail)) | assumption | rw [heap_alloc_past _ _ _ (by (first | omega | (simp; done) | (simp; omega) | (simp at *; omega) | fail))] | rw [heap_setCell_past _ _ _ _ (by (first | omega | (simp; done) | (simp; omega) | (simp at *; omega) | fail))] | fail))
  have q1 : w1.heap[w.heap.size + 1]? = some (.cells #[.bool false, .bool false, .int .i64 0] 154) := by rw [hw1]; exact (by repeat (first | exact heap_alloc_at _ _ _ (by (first | omega | (simp; done) | (simp; omega) | (simp at *; omega) | fail)) | assumption | rw [heap_alloc_past _ _ _ (by (first | omega | (simp; done) | (simp; omega) | (simp at *; omega) | fail))] | rw [heap_setCell_past _ _ _ _ (by (first | omega | (simp; done) | (simp; omega) | (simp at *; omega) | fail))] | fail))
  go_enter Tryz.func99, Tryz.ntmps99
  go_wp2_with fail
  rw [← hw1]
  clear hw1
  go_loopw [13] (fun i wr => ∃ (k : Nat) (f : Fate), k ≤ n ∧ i = .int .i64 k ∧ Below w.heap.size w wr ∧ Hid (wr.heap[w.heap.size]? = some (.cells #[.bool false, .bool false, .int .i64 0] 154)) ∧ Hid (wr.heap[w.heap.size + 1]? = some (.cells #[.bool f.gone, .bool f.swapped, .int .i64 f.added] 154)) ∧ Hid (f = fateF (cs.take k) num)) (fun i _ => n - (intOf i).toNat)
  case atStart => exact ⟨0, ⟨false, false, 0⟩, by omega, rfl, hb1, q0, q1, rfl⟩
  case round =>
    obtain ⟨k, ⟨fg, fs, fa⟩, hk, rfl, hb, HR, HF, hf⟩ := hrel
    dsimp only at HF
    clear q0 q1 hb1
    by_cases hlt : k < n
    · obtain ⟨⟨ck, cp, cm⟩, hc⟩ : ∃ c, cs[k]? = some c := ⟨cs[k]'(by rw [HN.out]; exact hlt), List.getElem?_eq_getElem _⟩
      have k0 := cell_later' hb (HC.out k _ hc).1
      have k1 := cell_later' hb (HC.out k _ hc).2.1
      have k2 := cell_later' hb (HC.out k _ hc).2.2
      dsimp only at k0 k1 k2
      have HS : Hid (fateF (cs.take (k + 1)) num = fateStep num ⟨fg, fs, fa⟩ ⟨ck, cp, cm⟩) := by show fateF _ _ = _; rw [fate_take hc, ← hf.out]
      clear hc hf
      by_cases hp : cp = num
      · subst hp
        have hne : (cp != cp) = false := by simp
        go_wp2_with fail
        refine (deedOf_any ⟨ck, cp, cm⟩ _).mono ?_
        rintro e w2 ⟨rfl, hb2⟩
        have hb3 := (hb.alloc hb.size _).trans (hb2.mono (by have := hb.size; simp; omega))
        have HR := Lib.hid (blk_later hb2 (by rw [heap_alloc_past _ _ _ (blk_lt HR.out)]; exact HR.out))
        have HF := Lib.hid (blk_later hb2 (by rw [heap_alloc_past _ _ _ (blk_lt HF.out)]; exact HF.out))
        have hz := blk_lt HF.out
        have f0 := blk_free HF.out 0; have f1 := blk_free HF.out 1; have f2 := blk_free HF.out 2
        have c0 := blk_cell HF.out 0; have c1 := blk_cell HF.out 1; have c2 := blk_cell HF.out 2
        clear hb2 k0 k1 k2 hb
        by_cases h1 : ck = 1
        · subst h1
          have hv : deedV ⟨1, cp, cm⟩ = .iface 161 (.agg #[.int .i64 cp]) := by simp [deedV]
          have HS : Hid (fateF (cs.take (k + 1)) cp = ⟨true, fs, fa⟩) := HS.out.trans (by simp [fateStep])
          have t0 := ta_1_yes
          rw [hv]; clear hv
          go_wp2_with fail
          go_roundw
          case rel => exact ⟨k + 1, ⟨true, fs, fa⟩, by omega, by go_num, (hb3.setCell (by simp) _).alloc (by have := hb3.size; simp; omega) _, (heap_alloc_past _ _ _ (by have := blk_lt HR.out; simp; omega)).trans ((heap_setCell_past _ _ _ _ (by simp)).trans HR.out), (heap_alloc_past _ _ _ (by simp; omega)).trans (blk_set HF.out 0 _), HS.out.symm⟩
          case measure => simp [intOf]; omega
        by_cases h2 : ck = 2
        · subst h2
          have hv : deedV ⟨2, cp, cm⟩ = .iface 162 (.agg #[.int .i64 cp]) := by simp [deedV]
          have HS : Hid (fateF (cs.take (k + 1)) cp = ⟨fg, true, fa⟩) := HS.out.trans (by simp [fateStep])
          have t0 := ta_1_2
          have t1 := ta_2_yes
          rw [hv]; clear hv
          go_wp2_with fail
          go_roundw
          case rel => exact ⟨k + 1, ⟨fg, true, fa⟩, by omega, by go_num, (hb3.setCell (by simp) _).alloc (by have := hb3.size; simp; omega) _, (heap_alloc_past _ _ _ (by have := blk_lt HR.out; simp; omega)).trans ((heap_setCell_past _ _ _ _ (by simp)).trans HR.out), (heap_alloc_past _ _ _ (by simp; omega)).trans (blk_set HF.out 1 _), HS.out.symm⟩
          case measure => simp [intOf]; omega
        by_cases h3 : ck = 3
        · subst h3
          have hv : deedV ⟨3, cp, cm⟩ = .iface 164 (.agg #[.int .i64 cp, .int .i64 cm]) := by simp [deedV]
          have HS : Hid (fateF (cs.take (k + 1)) cp = ⟨fg, fs, cm⟩) := HS.out.trans (by simp [fateStep])
          have t0 := ta_1_3
          have t1 := ta_2_3
          have t2 := ta_3_yes
          rw [hv]; clear hv
          go_wp2_with fail
          go_roundw
          case rel => exact ⟨k + 1, ⟨fg, fs, cm⟩, by omega, by go_num, (hb3.setCell (by simp) _).alloc (by have := hb3.size; simp; omega) _, (heap_alloc_past _ _ _ (by have := blk_lt HR.out; simp; omega)).trans ((heap_setCell_past _ _ _ _ (by simp)).trans HR.out), (heap_alloc_past _ _ _ (by simp; omega)).trans (blk_set HF.out 2 _), HS.out.symm⟩
          case measure => simp [intOf]; omega
        · have hv : deedV ⟨ck, cp, cm⟩ = .nilIface := by simp [deedV, h1, h2, h3]
          have HS : Hid (fateF (cs.take (k + 1)) cp = ⟨fg, fs, fa⟩) := HS.out.trans (by simp [fateStep, h1, h2, h3])
          have t0 := ta_1_nil
          have t1 := ta_2_nil
          have t2 := ta_3_nil
          rw [hv]; clear hv
          clear h1 h2 h3
          go_wp2_with fail
          go_roundw
          case rel => exact ⟨k + 1, ⟨fg, fs, fa⟩, by omega, by go_num, hb3, HR.out, HF.out, HS.out.symm⟩
          case measure => simp [intOf]; omega
      · have hne : (cp != num) = true := by simp [hp]
        have HS : Hid (fateF (cs.take (k + 1)) num = ⟨fg, fs, fa⟩) := HS.out.trans (by simp [fateStep, hp])
        clear hp
        go_wp2_with fail
        go_roundw
        case rel => exact ⟨k + 1, ⟨fg, fs, fa⟩, by omega, by go_num, hb.alloc hb.size _, (heap_alloc_past _ _ _ (blk_lt HR.out)).trans HR.out, (heap_alloc_past _ _ _ (blk_lt HF.out)).trans HF.out, HS.out.symm⟩
        case measure => simp [intOf]; omega
    · have HS : Hid (fateF cs num = ⟨fg, fs, fa⟩) := by
        have := hf.out
        rw [List.take_of_length_le (by rw [HN.out]; omega)] at this; exact this.symm
      have c0 := blk_cell HF.out 0; have c1 := blk_cell HF.out 1; have c2 := blk_cell HF.out 2
      have d0 := blk_cell HR.out 0; have d1 := blk_cell HR.out 1; have d2 := blk_cell HR.out 2
      have f0 := blk_free HR.out 0; have f1 := blk_free HR.out 1; have f2 := blk_free HR.out 2
      clear hf
      go_wp2_with fail
      exact bodyPost_ret (v := .agg #[.bool fg, .bool fs, .int .i64 fa]) (by simp [results, Tryz.results99, go_sem, d0, d1, d2]) rfl ⟨by rw [HS.out], (by repeat (first | exact Below.refl _ _ | assumption | (refine Below.alloc ?_ ?_ _; rotate_left; · (first | omega | (simp; done) | (simp; omega) | (simp at *; omega) | fail)) | (refine Below.setCell ?_ ?_ _; rotate_left; · (first | omega | (simp; done) | (simp; omega) | (simp at *; omega) | fail)) | refine Below.drew ?_ | fail))⟩

theorem fateAt_none (a : Option Addr) (cap : Nat) (num : Int) (w : World) :
    Calls Tryz.prog 99 #[.slice a 0 cap, .int .i64 num] w fun e w' => e = .returned (.agg #[.bool false, .bool false, .int .i64 0]) ∧ Below w.heap.size w w' := by
  go_enter Tryz.func99, Tryz.ntmps99
  go_wp2
  refine wp_loop_rounds 1 ?_
  rw [rounds_succ]
  go_wp2
  exact bodyPost_ret (v := .agg #[.bool false, .bool false, .int .i64 0]) (by simp [results, Tryz.results99, go_sem]) rfl ⟨rfl, (by repeat (first | exact Below.refl _ _ | assumption | (refine Below.alloc ?_ ?_ _; rotate_left; · (first | omega | (simp; done) | (simp; omega) | (simp at *; omega) | fail)) | (refine Below.setCell ?_ ?_ _; rotate_left; · (first | omega | (simp; done) | (simp; omega) | (simp at *; omega) | fail)) | refine Below.drew ?_ | fail))⟩

theorem fateAt_any (B : Nat) (num : Int) (cs : List Chg) (sv : Value) (w : World) (hcs : ChsAt B w sv cs) (hB : B ≤ w.heap.size) (hl : cs.length ≤ 100) :
    Calls Tryz.prog 99 #[sv, .int .i64 num] w fun e w' => e = .returned (.agg #[.bool (fateF cs num).gone, .bool (fateF cs num).swapped, .int .i64 (fateF cs num).added]) ∧ Below w.heap.size w w' := by
  obtain ⟨a, cap, rfl, hc⟩ := hcs
  cases cs with
  | nil => exact fateAt_none a cap num w
  | cons c cs =>
    obtain ⟨b, off, rfl, hb, hcell⟩ := hc (by simp)
    exact fateAt_some _ cap num (c :: cs) b off w rfl hl (by omega) hcell

theorem fate_added {cs : List Chg} {num : Int} (h : ∀ c ∈ cs, 0 ≤ c.many ∧ c.many ≤ 4) : 0 ≤ (fateF cs num).added ∧ (fateF cs num).added ≤ 4 := by
  unfold fateF
  have : ∀ (cs : List Chg) (f : Fate), (∀ c ∈ cs, 0 ≤ c.many ∧ c.many ≤ 4) → (0 ≤ f.added ∧ f.added ≤ 4) → 0 ≤ (cs.foldl (fateStep num) f).added ∧ (cs.foldl (fateStep num) f).added ≤ 4 := by
    intro cs
    induction cs with
    | nil => intro f _ h; exact h
    | cons c cs ih =>
      intro f hc hf
      refine ih _ (fun c h => hc c (List.mem_cons_of_mem _ h)) ?_
      have := hc c (List.mem_cons_self ..)
      unfold fateStep
      split
      · exact hf
      · split
        · exact hf
        · split
          · exact hf
          · split
            · exact this
            · exact hf
  exact this cs _ h ⟨by decide, by decide⟩

end Go.Proofs.YtimdmgkegdlafaaGreatDoor
