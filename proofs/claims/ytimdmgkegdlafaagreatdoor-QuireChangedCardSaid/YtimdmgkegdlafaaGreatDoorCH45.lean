/- The parts Ae of the proof, joined. It holds without conditions of its own. -/
import Derived.Test.YtimdmgkegdlafaaGreatDoorCH42
import Derived.Test.YtimdmgkegdlafaaGreatDoorCH38
import Derived.Test.YtimdmgkegdlafaaGreatDoorCH31
import Derived.Test.YtimdmgkegdlafaaGreatDoorCH43
import Derived.Test.YtimdmgkegdlafaaGreatDoorCH44
/- Awake: the examples of the document, called by every law. -/
namespace Go.Proofs.YtimdmgkegdlafaaGreatDoor
set_option linter.unusedSimpArgs false
set_option linter.unusedVariables false
open Go Go.RowKit Go.Sort Go.BigFrame Go.Shelf
attribute [local go_sem] Oper.semAt_some putAll

theorem IntsAt.of_row {W : World} {base : Nat} {v : Value} {e : TypeId} {xs : List Nat} (h : W.ownsRow base e 1 v xs.length (intVs xs)) : IntsAt W v (xs.map fun n : Nat => (n : Int)) := by
  rcases h.2 with ⟨rfl, h0⟩ | ⟨g, cap, cur, rfl, hb, hg, rest⟩
  · exact ⟨none, 0, by rw [List.length_map, h0], fun hne => absurd (List.length_eq_zero_iff.1 h0) (fun e => hne (by rw [e]; rfl))⟩
  · refine ⟨_, cap, by rw [List.length_map], fun _ => ⟨g, rfl, blk_lt hg, fun i x hx => ?_⟩⟩
    have hc := h.cells (g := g) (by simp [Value.ownBlock])
    have := hc i (.int .i64 x) (by rw [intVs, List.getElem?_map]; rw [List.getElem?_map] at hx; cases hq : xs[i]? with
      | none => rw [hq] at hx; cases hx
      | some q => rw [hq] at hx; cases hx; rfl)
    cases i with
    | zero => simpa [Addr.add] using this
    | succ i => simpa [Addr.add] using this

theorem IntsAt.later {W W' : World} {v : Value} {xs : List Int} (h : IntsAt W v xs) (hb : Below W.heap.size W W') : IntsAt W' v xs := by
  obtain ⟨a, cap, rfl, h⟩ := h
  refine ⟨a, cap, rfl, fun hne => ?_⟩
  obtain ⟨g, rfl, hg, hc⟩ := h hne
  exact ⟨g, rfl, Nat.lt_of_lt_of_le hg hb.size, fun i x hx => (hb.cell (p := ⟨g, i, none⟩) hg).trans (hc i x hx)⟩
theorem ints_alloc (W : World) (e : TypeId) (xs : List Int) : IntsAt (W.alloc (.cells (xs.map (Value.int .i64)).toArray e)) (.slice (some ⟨W.heap.size, 0, none⟩) xs.length xs.length) xs := by
  refine ⟨_, _, rfl, fun _ => ⟨W.heap.size, rfl, by simp, fun i x hx => ?_⟩⟩
  have h1 : (W.alloc (.cells (xs.map (Value.int .i64)).toArray e)).heap[W.heap.size]? = some (.cells (xs.map (Value.int .i64)).toArray e) := World.alloc_heap_new _ _
  unfold World.cell?
  rw [h1]
  simp [hx]

theorem SameR.self {b : Bk} {e : Ending} (h : SameR b b e) : e = .returned (.bool true) := by
  obtain ⟨B, rfl, h⟩ := h
  rw [h.2 rfl]

/-- What the operations of Awake's last region wait for, and its orders, piece by piece. -/
def awPre : List Nat := [0, 1, 2, 4, 12, 20, 36, 64, 192, 320, 576, 1024, 3072, 5120, 9216, 16384, 49152, 81920, 147456, 262144, 786432, 1310720, 2359296, 4194304, 12582912, 20971520, 37748736, 67108864, 201326592, 335544320, 603979776, 1073741824, 3221225472, 5368709120, 9663676416, 17179869184, 51539607552, 85899345920, 154618822656, 274877906944, 824633720832, 1374389534720, 2473901162496, 4398046511104, 13194139533312, 21990232555520, 39582418599936, 70368744177664, 70368744177664, 492581209243648, 633318697598976, 1688849860263936, 2251799813685248, 6755399441055744, 11258999068426240, 20266198323167232, 36028797018963968, 108086391056891904, 180143985094819840, 324259173170675712, 576460752303423488, 1729382256910270464, 2882303761517117440, 5188146770730811392, 9223372036854775808, 9223372036854775808, 64563604257983430656, 83010348331692982272, 221360928884514619392, 295147905179352825856, 885443715538058477568, 1475739525896764129280, 2656331146614175432704, 4722366482869645213696, 4722366482869645213696, 33056565380087516495872, 42501298345826806923264, 94447329657392904273920, 151115727451828646838272, 453347182355485940514816, 755578637259143234191360, 1360041547066457821544448, 2417851639229258349412352, 7253554917687775048237056, 14507109835375550096474112, 19342813113834066795298816, 58028439341502200385896448, 96714065569170333976494080, 309485009821345068724781055]
def awSegs : List (List (List Nat)) := [[[0, 1, 2, 3, 4, 5, 6, 7, 8, 9, 10, 11, 12, 13, 14, 15, 16, 17, 18, 19, 20, 21, 22, 23, 24, 25, 26, 27, 28, 29, 30, 31, 32, 33, 34, 35, 36, 37, 38, 39, 40, 41, 42, 43, 44, 45, 46]], [[47, 48], [48, 47]], [[49, 50, 51, 52, 53, 54, 55, 56, 57, 58, 59, 60, 61, 62, 63]], [[64, 65], [65, 64]], [[66, 67, 68, 69, 70, 71, 72]], [[73, 74], [74, 73]], [[75, 76, 77, 78, 79, 80, 81, 82, 83, 84, 85, 86, 87, 88]]]
/-- What the last region of Awake leaves. -/
def AwEnd (w15 : World) (a0 a' : Act) (w' : World) : Prop := Below w15.heap.size w15 w' ∧ ∃ ts, a' = { tmps := ts, defers := [] } ∧ ts[0]? = some (.bool true)

/-- What the region of Differ leaves. -/
def AwCut (w9 : World) (bv : Value) (a0 a' : Act) (w' : World) : Prop :=
  ∃ u, Below w9.heap.size w9 w' ∧ a' = { tmps := putAll a0.tmps [(65, bv), (66, u), (67, .tuple #[.int .i64 33, .int .i64 0]), (64, .tuple #[.int .i64 33, .int .i64 0]), (68, .int .i64 33), (69, .int .i64 0), (18, .int .i64 33), (19, .int .i64 0)], defers := [] }

set_option maxRecDepth 100000 in
set_option maxHeartbeats 4000000 in
theorem Awake_any (w : World) :
    Calls Tryz.prog 12 #[] w fun e w' => e = .returned (.bool true) ∧ Below w.heap.size w w' := by
  go_enter Tryz.func12, Tryz.ntmps12
  go_wp2_with fail
  refine (lawBook_0 _).mono ?_
  rintro e w1 ⟨⟨v, rfl, hbk⟩, hb0⟩
  have hbk' := hbk
  obtain ⟨sv, rfl, hgs⟩ := hbk'
  obtain ⟨a, cap, rfl, -⟩ := hgs
  have HBK : Hid (BookAt w1.heap.size w1 (.agg #[.int .i64 4, .slice a 6 cap]) (exBook 0)) := Lib.hid hbk
  have HO1 := Lib.hid hb0
  have HW1 := Lib.hid (Below.refl w1.heap.size w1)
  have hz1 := HO1.out.size
  clear hbk hb0
  have e1 : (exBook 0).signed = 4 := rfl
  have e2 : (exBook 0).gs.length = 6 := rfl
  rw [e1, e2]
  clear e1 e2
  have HXA : Hid ((w1.alloc (.cells #[.int .i64 4, .slice a 6 cap] 24)).heap[w1.heap.size]? = some (.cells #[.int .i64 4, .slice a 6 cap] 24)) := Lib.hid (by exact (by repeat (first | exact heap_alloc_at _ _ _ (by (first | omega | (simp; done) | (simp; omega) | fail)) | (refine (heap_alloc_past _ _ _ ?_).trans ?_; · (first | omega | (simp; done) | (simp; omega) | fail)) | fail)))
  go_wp2_with fail
  refine (Write_good (exBook 0) _ _ (HBK.out.below (B := w1.heap.size) (C := w1.heap.size) (by exact (by repeat (first | (refine Below.setCell ?_ ?_ _; rotate_left; · (first | omega | (simp; done) | (simp; omega) | fail)) | (refine Below.alloc ?_ ?_ _; rotate_left; · (first | omega | (simp; done) | (simp; omega) | fail)) | refine Below.drew ?_ | exact HW1.out | fail))) (Nat.le_refl _) |>.mono (by have := HW1.out.size; simp; try omega)) ex_err0).mono ?_
  rintro e w2 ⟨rfl, hb⟩
  rw [ex_write]
  have HX2 : Hid (w2.heap[w1.heap.size]? = some (.cells #[.int .i64 4, .slice a 6 cap] 24)) := Lib.hid (blk_later hb HXA.out)
  have HW2 := Lib.hid (Below.trans (show Below w1.heap.size w1 _ by exact (by repeat (first | (refine Below.setCell ?_ ?_ _; rotate_left; · (first | omega | (simp; done) | (simp; omega) | fail)) | (refine Below.alloc ?_ ?_ _; rotate_left; · (first | omega | (simp; done) | (simp; omega) | fail)) | refine Below.drew ?_ | exact HW1.out | fail))) (hb.mono (by have := HW1.out.size; simp; try omega)))
  have HO2 := Lib.hid (Below.trans (show Below w.heap.size w _ by exact (by repeat (first | (refine Below.setCell ?_ ?_ _; rotate_left; · (first | omega | (simp; done) | (simp; omega) | fail)) | (refine Below.alloc ?_ ?_ _; rotate_left; · (first | omega | (simp; done) | (simp; omega) | fail)) | refine Below.drew ?_ | exact HO1.out | fail))) (hb.mono (by have := HO1.out.size; simp; try omega)))
  have hs2 := HW2.out.size
  have hl2 := blk_lt HX2.out
  clear hb
  try clear c0 c1
  have c0 := blk_cell HX2.out 0; have c1 := blk_cell HX2.out 1
  go_wp2_with fail
  refine (Read_any exText _ (by decide)).mono ?_
  rintro e w3 ⟨⟨rv, rfl, hrd⟩, hb⟩
  rw [ex_read] at hrd
  have hrd' := hrd.at_
  obtain ⟨rs, rfl, hrg⟩ := hrd'
  obtain ⟨ra, rcap, rfl, -⟩ := hrg
  have HRD3 : Hid (BookAt w3.heap.size w3 (.agg #[.int .i64 4, .slice ra 6 rcap]) (exBook 0)) := Lib.hid hrd.at_
  clear hrd
  change Hid _ at HRD3
  have e1 : (exBook 0).signed = 4 := rfl
  have e2 : (exBook 0).gs.length = 6 := rfl
  rw [ex_read]
  dsimp only
  rw [e1, e2]
  clear e1 e2
  have HX3 : Hid (w3.heap[w1.heap.size]? = some (.cells #[.int .i64 4, .slice a 6 cap] 24)) := Lib.hid (blk_later hb (by exact (by repeat (first | (refine (heap_setCell_past _ _ _ _ ?_).trans ?_; · (first | omega | (simp; done) | (simp; omega) | fail)) | (refine (heap_alloc_past _ _ _ ?_).trans ?_; · (first | omega | (simp; done) | (simp; omega) | fail)) | exact HX2.out | fail))))
  have HW3 := Lib.hid (Below.trans (show Below w1.heap.size w1 _ by exact (by repeat (first | (refine Below.setCell ?_ ?_ _; rotate_left; · (first | omega | (simp; done) | (simp; omega) | fail)) | (refine Below.alloc ?_ ?_ _; rotate_left; · (first | omega | (simp; done) | (simp; omega) | fail)) | refine Below.drew ?_ | exact HW2.out | fail))) (hb.mono (by have := HW2.out.size; simp; try omega)))
  have HO3 := Lib.hid (Below.trans (show Below w.heap.size w _ by exact (by repeat (first | (refine Below.setCell ?_ ?_ _; rotate_left; · (first | omega | (simp; done) | (simp; omega) | fail)) | (refine Below.alloc ?_ ?_ _; rotate_left; · (first | omega | (simp; done) | (simp; omega) | fail)) | refine Below.drew ?_ | exact HO2.out | fail))) (hb.mono (by have := HO2.out.size; simp; try omega)))
  have hs3 := HW3.out.size
  have hl3 := blk_lt HX3.out
  clear hb
  try clear c0 c1
  have c0 := blk_cell HX3.out 0; have c1 := blk_cell HX3.out 1
  go_wp2_with fail
  have HQ3 := Lib.hid (Below.refl w3.heap.size w3)
  have HY3 : Hid ((w3.alloc (.cells #[.int .i64 4, .slice ra 6 rcap] 24)).heap[w3.heap.size]? = some (.cells #[.int .i64 4, .slice ra 6 rcap] 24)) := Lib.hid (by exact (by repeat (first | exact heap_alloc_at _ _ _ (by (first | omega | (simp; done) | (simp; omega) | fail)) | (refine (heap_alloc_past _ _ _ ?_).trans ?_; · (first | omega | (simp; done) | (simp; omega) | fail)) | fail)))
  refine (Leaf_good (exBook 0) _ 28 _ (HBK.out.below (B := w1.heap.size) (C := w1.heap.size) (by exact (by repeat (first | (refine Below.setCell ?_ ?_ _; rotate_left; · (first | omega | (simp; done) | (simp; omega) | fail)) | (refine Below.alloc ?_ ?_ _; rotate_left; · (first | omega | (simp; done) | (simp; omega) | fail)) | refine Below.drew ?_ | exact HW3.out | fail))) (Nat.le_refl _) |>.mono (by have := HW3.out.size; simp; try omega)) ex_err0).mono ?_
  rintro e w4 ⟨rfl, hb⟩
  rw [ex_leaf]
  have HX4 : Hid (w4.heap[w1.heap.size]? = some (.cells #[.int .i64 4, .slice a 6 cap] 24)) := Lib.hid (blk_later hb (by exact (by repeat (first | (refine (heap_setCell_past _ _ _ _ ?_).trans ?_; · (first | omega | (simp; done) | (simp; omega) | fail)) | (refine (heap_alloc_past _ _ _ ?_).trans ?_; · (first | omega | (simp; done) | (simp; omega) | fail)) | exact HX3.out | fail))))
  have HW4 := Lib.hid (Below.trans (show Below w1.heap.size w1 _ by exact (by repeat (first | (refine Below.setCell ?_ ?_ _; rotate_left; · (first | omega | (simp; done) | (simp; omega) | fail)) | (refine Below.alloc ?_ ?_ _; rotate_left; · (first | omega | (simp; done) | (simp; omega) | fail)) | refine Below.drew ?_ | exact HW3.out | fail))) (hb.mono (by have := HW3.out.size; simp; try omega)))
  have HO4 := Lib.hid (Below.trans (show Below w.heap.size w _ by exact (by repeat (first | (refine Below.setCell ?_ ?_ _; rotate_left; · (first | omega | (simp; done) | (simp; omega) | fail)) | (refine Below.alloc ?_ ?_ _; rotate_left; · (first | omega | (simp; done) | (simp; omega) | fail)) | refine Below.drew ?_ | exact HO3.out | fail))) (hb.mono (by have := HO3.out.size; simp; try omega)))
  have hs4 := HW4.out.size
  have hl4 := blk_lt HX4.out
  have HY4 := Lib.hid (blk_later hb HY3.out)
  have HQ4 := Lib.hid (Below.trans (show Below w3.heap.size w3 _ by exact (by repeat (first | (refine Below.setCell ?_ ?_ _; rotate_left; · (first | omega | (simp; done) | (simp; omega) | fail)) | (refine Below.alloc ?_ ?_ _; rotate_left; · (first | omega | (simp; done) | (simp; omega) | fail)) | refine Below.drew ?_ | exact HQ3.out | fail))) (hb.mono (by have := HQ3.out.size; simp; try omega)))
  have hq4 := HQ4.out.size
  clear hb
  try clear c0 c1
  have c0 := blk_cell HX4.out 0; have c1 := blk_cell HX4.out 1
  go_wp2_with fail
  refine (Find_good (exBook 0) _ [68, 56, 43, 49] _ (HBK.out.below (B := w1.heap.size) (C := w1.heap.size) (by exact (by repeat (first | (refine Below.setCell ?_ ?_ _; rotate_left; · (first | omega | (simp; done) | (simp; omega) | fail)) | (refine Below.alloc ?_ ?_ _; rotate_left; · (first | omega | (simp; done) | (simp; omega) | fail)) | refine Below.drew ?_ | exact HW4.out | fail))) (Nat.le_refl _) |>.mono (by have := HW4.out.size; simp; try omega)) ex_err0).mono ?_
  rintro e w5 ⟨rfl, hb⟩
  rw [ex_find]
  have HX5 : Hid (w5.heap[w1.heap.size]? = some (.cells #[.int .i64 4, .slice a 6 cap] 24)) := Lib.hid (blk_later hb (by exact (by repeat (first | (refine (heap_setCell_past _ _ _ _ ?_).trans ?_; · (first | omega | (simp; done) | (simp; omega) | fail)) | (refine (heap_alloc_past _ _ _ ?_).trans ?_; · (first | omega | (simp; done) | (simp; omega) | fail)) | exact HX4.out | fail))))
  have HW5 := Lib.hid (Below.trans (show Below w1.heap.size w1 _ by exact (by repeat (first | (refine Below.setCell ?_ ?_ _; rotate_left; · (first | omega | (simp; done) | (simp; omega) | fail)) | (refine Below.alloc ?_ ?_ _; rotate_left; · (first | omega | (simp; done) | (simp; omega) | fail)) | refine Below.drew ?_ | exact HW4.out | fail))) (hb.mono (by have := HW4.out.size; simp; try omega)))
  have HO5 := Lib.hid (Below.trans (show Below w.heap.size w _ by exact (by repeat (first | (refine Below.setCell ?_ ?_ _; rotate_left; · (first | omega | (simp; done) | (simp; omega) | fail)) | (refine Below.alloc ?_ ?_ _; rotate_left; · (first | omega | (simp; done) | (simp; omega) | fail)) | refine Below.drew ?_ | exact HO4.out | fail))) (hb.mono (by have := HO4.out.size; simp; try omega)))
  have hs5 := HW5.out.size
  have hl5 := blk_lt HX5.out
  have HY5 := Lib.hid (blk_later hb HY4.out)
  have HQ5 := Lib.hid (Below.trans (show Below w3.heap.size w3 _ by exact (by repeat (first | (refine Below.setCell ?_ ?_ _; rotate_left; · (first | omega | (simp; done) | (simp; omega) | fail)) | (refine Below.alloc ?_ ?_ _; rotate_left; · (first | omega | (simp; done) | (simp; omega) | fail)) | refine Below.drew ?_ | exact HQ4.out | fail))) (hb.mono (by have := HQ4.out.size; simp; try omega)))
  have hq5 := HQ5.out.size
  clear hb
  try clear c0 c1
  have c0 := blk_cell HX5.out 0; have c1 := blk_cell HX5.out 1
  go_wp2_with fail
  refine (Find_good (exBook 0) _ [68, 51] _ (HBK.out.below (B := w1.heap.size) (C := w1.heap.size) (by exact (by repeat (first | (refine Below.setCell ?_ ?_ _; rotate_left; · (first | omega | (simp; done) | (simp; omega) | fail)) | (refine Below.alloc ?_ ?_ _; rotate_left; · (first | omega | (simp; done) | (simp; omega) | fail)) | refine Below.drew ?_ | exact HW5.out | fail))) (Nat.le_refl _) |>.mono (by have := HW5.out.size; simp; try omega)) ex_err0).mono ?_
  rintro e w6 ⟨rfl, hb⟩
  rw [ex_lost]
  have HX6 : Hid (w6.heap[w1.heap.size]? = some (.cells #[.int .i64 4, .slice a 6 cap] 24)) := Lib.hid (blk_later hb (by exact (by repeat (first | (refine (heap_setCell_past _ _ _ _ ?_).trans ?_; · (first | omega | (simp; done) | (simp; omega) | fail)) | (refine (heap_alloc_past _ _ _ ?_).trans ?_; · (first | omega | (simp; done) | (simp; omega) | fail)) | exact HX5.out | fail))))
  have HW6 := Lib.hid (Below.trans (show Below w1.heap.size w1 _ by exact (by repeat (first | (refine Below.setCell ?_ ?_ _; rotate_left; · (first | omega | (simp; done) | (simp; omega) | fail)) | (refine Below.alloc ?_ ?_ _; rotate_left; · (first | omega | (simp; done) | (simp; omega) | fail)) | refine Below.drew ?_ | exact HW5.out | fail))) (hb.mono (by have := HW5.out.size; simp; try omega)))
  have HO6 := Lib.hid (Below.trans (show Below w.heap.size w _ by exact (by repeat (first | (refine Below.setCell ?_ ?_ _; rotate_left; · (first | omega | (simp; done) | (simp; omega) | fail)) | (refine Below.alloc ?_ ?_ _; rotate_left; · (first | omega | (simp; done) | (simp; omega) | fail)) | refine Below.drew ?_ | exact HO5.out | fail))) (hb.mono (by have := HO5.out.size; simp; try omega)))
  have hs6 := HW6.out.size
  have hl6 := blk_lt HX6.out
  have HY6 := Lib.hid (blk_later hb HY5.out)
  have HQ6 := Lib.hid (Below.trans (show Below w3.heap.size w3 _ by exact (by repeat (first | (refine Below.setCell ?_ ?_ _; rotate_left; · (first | omega | (simp; done) | (simp; omega) | fail)) | (refine Below.alloc ?_ ?_ _; rotate_left; · (first | omega | (simp; done) | (simp; omega) | fail)) | refine Below.drew ?_ | exact HQ5.out | fail))) (hb.mono (by have := HQ5.out.size; simp; try omega)))
  have hq6 := HQ6.out.size
  clear hb
  try clear c0 c1
  have c0 := blk_cell HX6.out 0; have c1 := blk_cell HX6.out 1
  go_wp2_with fail
  refine (Mate_good (exBook 0) _ 32 _ (HBK.out.below (B := w1.heap.size) (C := w1.heap.size) (by exact (by repeat (first | (refine Below.setCell ?_ ?_ _; rotate_left; · (first | omega | (simp; done) | (simp; omega) | fail)) | (refine Below.alloc ?_ ?_ _; rotate_left; · (first | omega | (simp; done) | (simp; omega) | fail)) | refine Below.drew ?_ | exact HW6.out | fail))) (Nat.le_refl _) |>.mono (by have := HW6.out.size; simp; try omega)) ex_err0).mono ?_
  rintro e w7 ⟨rfl, hb⟩
  rw [ex_mate]
  have HX7 : Hid (w7.heap[w1.heap.size]? = some (.cells #[.int .i64 4, .slice a 6 cap] 24)) := Lib.hid (blk_later hb (by exact (by repeat (first | (refine (heap_setCell_past _ _ _ _ ?_).trans ?_; · (first | omega | (simp; done) | (simp; omega) | fail)) | (refine (heap_alloc_past _ _ _ ?_).trans ?_; · (first | omega | (simp; done) | (simp; omega) | fail)) | exact HX6.out | fail))))
  have HW7 := Lib.hid (Below.trans (show Below w1.heap.size w1 _ by exact (by repeat (first | (refine Below.setCell ?_ ?_ _; rotate_left; · (first | omega | (simp; done) | (simp; omega) | fail)) | (refine Below.alloc ?_ ?_ _; rotate_left; · (first | omega | (simp; done) | (simp; omega) | fail)) | refine Below.drew ?_ | exact HW6.out | fail))) (hb.mono (by have := HW6.out.size; simp; try omega)))
  have HO7 := Lib.hid (Below.trans (show Below w.heap.size w _ by exact (by repeat (first | (refine Below.setCell ?_ ?_ _; rotate_left; · (first | omega | (simp; done) | (simp; omega) | fail)) | (refine Below.alloc ?_ ?_ _; rotate_left; · (first | omega | (simp; done) | (simp; omega) | fail)) | refine Below.drew ?_ | exact HO6.out | fail))) (hb.mono (by have := HO6.out.size; simp; try omega)))
  have hs7 := HW7.out.size
  have hl7 := blk_lt HX7.out
  have HY7 := Lib.hid (blk_later hb HY6.out)
  have HQ7 := Lib.hid (Below.trans (show Below w3.heap.size w3 _ by exact (by repeat (first | (refine Below.setCell ?_ ?_ _; rotate_left; · (first | omega | (simp; done) | (simp; omega) | fail)) | (refine Below.alloc ?_ ?_ _; rotate_left; · (first | omega | (simp; done) | (simp; omega) | fail)) | refine Below.drew ?_ | exact HQ6.out | fail))) (hb.mono (by have := HQ6.out.size; simp; try omega)))
  have hq7 := HQ7.out.size
  clear hb
  try clear c0 c1
  have c0 := blk_cell HX7.out 0; have c1 := blk_cell HX7.out 1
  go_wp2_with fail
  refine (Mate_good (exBook 0) _ 34 _ (HBK.out.below (B := w1.heap.size) (C := w1.heap.size) (by exact (by repeat (first | (refine Below.setCell ?_ ?_ _; rotate_left; · (first | omega | (simp; done) | (simp; omega) | fail)) | (refine Below.alloc ?_ ?_ _; rotate_left; · (first | omega | (simp; done) | (simp; omega) | fail)) | refine Below.drew ?_ | exact HW7.out | fail))) (Nat.le_refl _) |>.mono (by have := HW7.out.size; simp; try omega)) ex_err0).mono ?_
  rintro e w8 ⟨rfl, hb⟩
  rw [ex_single]
  have HX8 : Hid (w8.heap[w1.heap.size]? = some (.cells #[.int .i64 4, .slice a 6 cap] 24)) := Lib.hid (blk_later hb (by exact (by repeat (first | (refine (heap_setCell_past _ _ _ _ ?_).trans ?_; · (first | omega | (simp; done) | (simp; omega) | fail)) | (refine (heap_alloc_past _ _ _ ?_).trans ?_; · (first | omega | (simp; done) | (simp; omega) | fail)) | exact HX7.out | fail))))
  have HW8 := Lib.hid (Below.trans (show Below w1.heap.size w1 _ by exact (by repeat (first | (refine Below.setCell ?_ ?_ _; rotate_left; · (first | omega | (simp; done) | (simp; omega) | fail)) | (refine Below.alloc ?_ ?_ _; rotate_left; · (first | omega | (simp; done) | (simp; omega) | fail)) | refine Below.drew ?_ | exact HW7.out | fail))) (hb.mono (by have := HW7.out.size; simp; try omega)))
  have HO8 := Lib.hid (Below.trans (show Below w.heap.size w _ by exact (by repeat (first | (refine Below.setCell ?_ ?_ _; rotate_left; · (first | omega | (simp; done) | (simp; omega) | fail)) | (refine Below.alloc ?_ ?_ _; rotate_left; · (first | omega | (simp; done) | (simp; omega) | fail)) | refine Below.drew ?_ | exact HO7.out | fail))) (hb.mono (by have := HO7.out.size; simp; try omega)))
  have hs8 := HW8.out.size
  have hl8 := blk_lt HX8.out
  have HY8 := Lib.hid (blk_later hb HY7.out)
  have HQ8 := Lib.hid (Below.trans (show Below w3.heap.size w3 _ by exact (by repeat (first | (refine Below.setCell ?_ ?_ _; rotate_left; · (first | omega | (simp; done) | (simp; omega) | fail)) | (refine Below.alloc ?_ ?_ _; rotate_left; · (first | omega | (simp; done) | (simp; omega) | fail)) | refine Below.drew ?_ | exact HQ7.out | fail))) (hb.mono (by have := HQ7.out.size; simp; try omega)))
  have hq8 := HQ8.out.size
  clear hb
  try clear c0 c1
  have c0 := blk_cell HX8.out 0; have c1 := blk_cell HX8.out 1
  go_wp2_with fail
  refine (Signs_good (exBook 0) _ _ (HBK.out.below (B := w1.heap.size) (C := w1.heap.size) (by exact (by repeat (first | (refine Below.setCell ?_ ?_ _; rotate_left; · (first | omega | (simp; done) | (simp; omega) | fail)) | (refine Below.alloc ?_ ?_ _; rotate_left; · (first | omega | (simp; done) | (simp; omega) | fail)) | refine Below.drew ?_ | exact HW8.out | fail))) (Nat.le_refl _) |>.mono (by have := HW8.out.size; simp; try omega)) ex_err0).mono ?_
  rintro e w9 ⟨⟨sgv, rfl, hsg⟩, hb⟩
  have HSG9 := Lib.hid (IntsAt.of_row hsg)
  clear hsg
  have HX9 : Hid (w9.heap[w1.heap.size]? = some (.cells #[.int .i64 4, .slice a 6 cap] 24)) := Lib.hid (blk_later hb (by exact (by repeat (first | (refine (heap_setCell_past _ _ _ _ ?_).trans ?_; · (first | omega | (simp; done) | (simp; omega) | fail)) | (refine (heap_alloc_past _ _ _ ?_).trans ?_; · (first | omega | (simp; done) | (simp; omega) | fail)) | exact HX8.out | fail))))
  have HW9 := Lib.hid (Below.trans (show Below w1.heap.size w1 _ by exact (by repeat (first | (refine Below.setCell ?_ ?_ _; rotate_left; · (first | omega | (simp; done) | (simp; omega) | fail)) | (refine Below.alloc ?_ ?_ _; rotate_left; · (first | omega | (simp; done) | (simp; omega) | fail)) | refine Below.drew ?_ | exact HW8.out | fail))) (hb.mono (by have := HW8.out.size; simp; try omega)))
  have HO9 := Lib.hid (Below.trans (show Below w.heap.size w _ by exact (by repeat (first | (refine Below.setCell ?_ ?_ _; rotate_left; · (first | omega | (simp; done) | (simp; omega) | fail)) | (refine Below.alloc ?_ ?_ _; rotate_left; · (first | omega | (simp; done) | (simp; omega) | fail)) | refine Below.drew ?_ | exact HO8.out | fail))) (hb.mono (by have := HO8.out.size; simp; try omega)))
  have hs9 := HW9.out.size
  have hl9 := blk_lt HX9.out
  have HY9 := Lib.hid (blk_later hb HY8.out)
  have HQ9 := Lib.hid (Below.trans (show Below w3.heap.size w3 _ by exact (by repeat (first | (refine Below.setCell ?_ ?_ _; rotate_left; · (first | omega | (simp; done) | (simp; omega) | fail)) | (refine Below.alloc ?_ ?_ _; rotate_left; · (first | omega | (simp; done) | (simp; omega) | fail)) | refine Below.drew ?_ | exact HQ8.out | fail))) (hb.mono (by have := HQ8.out.size; simp; try omega)))
  have hq9 := HQ9.out.size
  clear hb
  try clear c0 c1
  have c0 := blk_cell HX9.out 0; have c1 := blk_cell HX9.out 1
  go_wp2_with fail
  refine wp_cut (AwCut w9 (.agg #[.int .i64 4, .slice a 6 cap])) ?_ ?_
  · refine wpIn_region_orders (by kernel_rfl) [[0, 1, 2, 3, 4, 5, 6, 7], [0, 1, 2, 3, 4, 6, 5, 7], [0, 1, 2, 3, 5, 4, 6, 7], [1, 0, 2, 3, 4, 5, 6, 7], [1, 0, 2, 3, 4, 6, 5, 7], [1, 0, 2, 3, 5, 4, 6, 7]] (by kernel_rfl) ?_
    simp only [List.forall_mem_cons]
    refine ⟨?_, ?_, ?_, ?_, ?_, ?_, fun _ h => by cases h⟩
    all_goals
      simp only [List.filterMap_cons, List.filterMap_nil, List.getElem?_toArray, List.getElem?_cons_zero, List.getElem?_cons_succ]
      change wpListIn _ _ _ _ _ [_, _, _, _, _, _, _, _] _ _
      gi_wp2_with fail
      refine ⟨trivial, ?_⟩
      refine (callsIn_wide.2 (lawBook_1 _)).mono ?_
      rintro e w10 ⟨⟨v1, rfl, hbk1⟩, hb⟩
      have HB1 := Lib.hid hbk1
      have HX10 : Hid (w10.heap[w1.heap.size]? = some (.cells #[.int .i64 4, .slice a 6 cap] 24)) := Lib.hid (blk_later hb HX9.out)
      have HN10 : Hid (Below w9.heap.size w9 w10) := Lib.hid (Below.trans (show Below w9.heap.size w9 _ by exact (by repeat (first | (refine Below.setCell ?_ ?_ _; rotate_left; · (first | omega | (simp; done) | (simp; omega) | fail)) | (refine Below.alloc ?_ ?_ _; rotate_left; · (first | omega | (simp; done) | (simp; omega) | fail)) | refine Below.drew ?_ | exact Below.refl _ _ | fail))) (hb.mono (by simp)))
      have hw10 := HN10.out.size
      clear hb hbk1 c0 c1
      have c0 := blk_cell HX10.out 0; have c1 := blk_cell HX10.out 1
      gi_wp2_with fail
      refine ⟨trivial, ?_⟩
      refine (callsIn_wide.2 (Differ_good (exBook 0) (exBook 1) _ v1 _ ((HBK.out.below (B := w1.heap.size) (C := w1.heap.size) (HW9.out.trans (HN10.out.mono hs9)) (Nat.le_refl _)).mono (by omega)) HB1.out ex_err0 ex_err1)).mono ?_
      rintro e w11 ⟨rfl, hb⟩
      rw [ex_differ]
      have HN11 : Hid (Below w9.heap.size w9 w11) := Lib.hid (HN10.out.trans (hb.mono (by omega)))
      clear hb
      gi_wp2_with fail
      exact Cut.mk ⟨v1, HN11.out, by simp only [putAll, List.foldl_cons, List.foldl_nil, List.setIfInBounds_toArray, List.set_cons_succ, List.set_cons_zero]⟩
  · rintro a' w11 ⟨v1, hb, rfl⟩
    have HX11 : Hid (w11.heap[w1.heap.size]? = some (.cells #[.int .i64 4, .slice a 6 cap] 24)) := Lib.hid (blk_later hb HX9.out)
    have HY11 := Lib.hid (blk_later hb HY9.out)
    have HW11 : Hid (Below w1.heap.size w1 w11) := Lib.hid (HW9.out.trans (hb.mono hs9))
    have HO11 : Hid (Below w.heap.size w w11) := Lib.hid (HO9.out.trans (hb.mono HO9.out.size))
    have HQ11 : Hid (Below w3.heap.size w3 w11) := Lib.hid (HQ9.out.trans (hb.mono hq9))
    have hm11 := blk_lt HY11.out
    have hl11 := blk_lt HX11.out
    have HN11 := Lib.hid hb
    clear hb c0 c1
    simp only [putAll, List.foldl_cons, List.foldl_nil, List.setIfInBounds_toArray, List.set_cons_succ, List.set_cons_zero]
    go_wp2_with fail
    refine (lawSig_any 1 22 _).mono ?_
    rintro e w12 ⟨rfl, hb⟩
    have HX12 : Hid (w12.heap[w1.heap.size]? = some (.cells #[.int .i64 4, .slice a 6 cap] 24)) := Lib.hid (blk_later hb (by exact (by repeat (first | (refine (heap_setCell_past _ _ _ _ ?_).trans ?_; · (first | omega | (simp; done) | (simp; omega) | fail)) | (refine (heap_alloc_past _ _ _ ?_).trans ?_; · (first | omega | (simp; done) | (simp; omega) | fail)) | exact HX11.out | fail))))
    have HW12 := Lib.hid (Below.trans (show Below w1.heap.size w1 _ by exact (by repeat (first | (refine Below.setCell ?_ ?_ _; rotate_left; · (first | omega | (simp; done) | (simp; omega) | fail)) | (refine Below.alloc ?_ ?_ _; rotate_left; · (first | omega | (simp; done) | (simp; omega) | fail)) | refine Below.drew ?_ | exact HW11.out | fail))) (hb.mono (by have := HW11.out.size; simp; try omega)))
    have HO12 := Lib.hid (Below.trans (show Below w.heap.size w _ by exact (by repeat (first | (refine Below.setCell ?_ ?_ _; rotate_left; · (first | omega | (simp; done) | (simp; omega) | fail)) | (refine Below.alloc ?_ ?_ _; rotate_left; · (first | omega | (simp; done) | (simp; omega) | fail)) | refine Below.drew ?_ | exact HO11.out | fail))) (hb.mono (by have := HO11.out.size; simp; try omega)))
    have hs12 := HW12.out.size
    have hl12 := blk_lt HX12.out
    have HY12 : Hid (w12.heap[w3.heap.size]? = some (.cells #[.int .i64 4, .slice ra 6 rcap] 24)) := Lib.hid (blk_later hb (by exact (by repeat (first | (refine (heap_setCell_past _ _ _ _ ?_).trans ?_; · (first | omega | (simp; done) | (simp; omega) | fail)) | (refine (heap_alloc_past _ _ _ ?_).trans ?_; · (first | omega | (simp; done) | (simp; omega) | fail)) | exact HY11.out | fail))))
    have hm12 := blk_lt HY12.out
    have HQ12 := Lib.hid (Below.trans (show Below w3.heap.size w3 _ by exact (by repeat (first | (refine Below.setCell ?_ ?_ _; rotate_left; · (first | omega | (simp; done) | (simp; omega) | fail)) | (refine Below.alloc ?_ ?_ _; rotate_left; · (first | omega | (simp; done) | (simp; omega) | fail)) | refine Below.drew ?_ | exact HQ11.out | fail))) (hb.mono (by have := HQ11.out.size; simp; try omega)))
    have hq12 := HQ12.out.size
    have HN12 := Lib.hid (Below.trans (show Below w9.heap.size w9 _ by exact (by repeat (first | (refine Below.setCell ?_ ?_ _; rotate_left; · (first | omega | (simp; done) | (simp; omega) | fail)) | (refine Below.alloc ?_ ?_ _; rotate_left; · (first | omega | (simp; done) | (simp; omega) | fail)) | refine Below.drew ?_ | exact HN11.out | fail))) (hb.mono (by have := HN11.out.size; simp; try omega)))
    have hn12 := HN12.out.size
    clear hb
    go_wp2_with fail
    refine (Next_letter 1 22 _ (by decide) (by decide) 2 0 (by decide) true (by decide) (.tuple #[.agg #[.int .i64 2, .int .i64 0], .int .i64 0]) rfl).mono ?_
    rintro e w13 ⟨rfl, hb⟩
    have HX13 : Hid (w13.heap[w1.heap.size]? = some (.cells #[.int .i64 4, .slice a 6 cap] 24)) := Lib.hid (blk_later hb (by exact (by repeat (first | (refine (heap_setCell_past _ _ _ _ ?_).trans ?_; · (first | omega | (simp; done) | (simp; omega) | fail)) | (refine (heap_alloc_past _ _ _ ?_).trans ?_; · (first | omega | (simp; done) | (simp; omega) | fail)) | exact HX12.out | fail))))
    have HW13 := Lib.hid (Below.trans (show Below w1.heap.size w1 _ by exact (by repeat (first | (refine Below.setCell ?_ ?_ _; rotate_left; · (first | omega | (simp; done) | (simp; omega) | fail)) | (refine Below.alloc ?_ ?_ _; rotate_left; · (first | omega | (simp; done) | (simp; omega) | fail)) | refine Below.drew ?_ | exact HW12.out | fail))) (hb.mono (by have := HW12.out.size; simp; try omega)))
    have HO13 := Lib.hid (Below.trans (show Below w.heap.size w _ by exact (by repeat (first | (refine Below.setCell ?_ ?_ _; rotate_left; · (first | omega | (simp; done) | (simp; omega) | fail)) | (refine Below.alloc ?_ ?_ _; rotate_left; · (first | omega | (simp; done) | (simp; omega) | fail)) | refine Below.drew ?_ | exact HO12.out | fail))) (hb.mono (by have := HO12.out.size; simp; try omega)))
    have hs13 := HW13.out.size
    have hl13 := blk_lt HX13.out
    have HY13 : Hid (w13.heap[w3.heap.size]? = some (.cells #[.int .i64 4, .slice ra 6 rcap] 24)) := Lib.hid (blk_later hb (by exact (by repeat (first | (refine (heap_setCell_past _ _ _ _ ?_).trans ?_; · (first | omega | (simp; done) | (simp; omega) | fail)) | (refine (heap_alloc_past _ _ _ ?_).trans ?_; · (first | omega | (simp; done) | (simp; omega) | fail)) | exact HY12.out | fail))))
    have hm13 := blk_lt HY13.out
    have HQ13 := Lib.hid (Below.trans (show Below w3.heap.size w3 _ by exact (by repeat (first | (refine Below.setCell ?_ ?_ _; rotate_left; · (first | omega | (simp; done) | (simp; omega) | fail)) | (refine Below.alloc ?_ ?_ _; rotate_left; · (first | omega | (simp; done) | (simp; omega) | fail)) | refine Below.drew ?_ | exact HQ12.out | fail))) (hb.mono (by have := HQ12.out.size; simp; try omega)))
    have hq13 := HQ13.out.size
    have HN13 := Lib.hid (Below.trans (show Below w9.heap.size w9 _ by exact (by repeat (first | (refine Below.setCell ?_ ?_ _; rotate_left; · (first | omega | (simp; done) | (simp; omega) | fail)) | (refine Below.alloc ?_ ?_ _; rotate_left; · (first | omega | (simp; done) | (simp; omega) | fail)) | refine Below.drew ?_ | exact HN12.out | fail))) (hb.mono (by have := HN12.out.size; simp; try omega)))
    have hn13 := HN13.out.size
    have HZ13 : Hid ((w13.alloc (.cells #[.int .i64 2, .int .i64 0] 39)).heap[w13.heap.size]? = some (.cells #[.int .i64 2, .int .i64 0] 39)) := Lib.hid (by exact (by repeat (first | exact heap_alloc_at _ _ _ (by (first | omega | (simp; done) | (simp; omega) | fail)) | (refine (heap_alloc_past _ _ _ ?_).trans ?_; · (first | omega | (simp; done) | (simp; omega) | fail)) | fail)))
    clear hb
    go_wp2_with fail
    refine (lawSig_any 2 9 _).mono ?_
    rintro e w14 ⟨rfl, hb⟩
    have HX14 : Hid (w14.heap[w1.heap.size]? = some (.cells #[.int .i64 4, .slice a 6 cap] 24)) := Lib.hid (blk_later hb (by exact (by repeat (first | (refine (heap_setCell_past _ _ _ _ ?_).trans ?_; · (first | omega | (simp; done) | (simp; omega) | fail)) | (refine (heap_alloc_past _ _ _ ?_).trans ?_; · (first | omega | (simp; done) | (simp; omega) | fail)) | exact HX13.out | fail))))
    have HW14 := Lib.hid (Below.trans (show Below w1.heap.size w1 _ by exact (by repeat (first | (refine Below.setCell ?_ ?_ _; rotate_left; · (first | omega | (simp; done) | (simp; omega) | fail)) | (refine Below.alloc ?_ ?_ _; rotate_left; · (first | omega | (simp; done) | (simp; omega) | fail)) | refine Below.drew ?_ | exact HW13.out | fail))) (hb.mono (by have := HW13.out.size; simp; try omega)))
    have HO14 := Lib.hid (Below.trans (show Below w.heap.size w _ by exact (by repeat (first | (refine Below.setCell ?_ ?_ _; rotate_left; · (first | omega | (simp; done) | (simp; omega) | fail)) | (refine Below.alloc ?_ ?_ _; rotate_left; · (first | omega | (simp; done) | (simp; omega) | fail)) | refine Below.drew ?_ | exact HO13.out | fail))) (hb.mono (by have := HO13.out.size; simp; try omega)))
    have hs14 := HW14.out.size
    have hl14 := blk_lt HX14.out
    have HY14 : Hid (w14.heap[w3.heap.size]? = some (.cells #[.int .i64 4, .slice ra 6 rcap] 24)) := Lib.hid (blk_later hb (by exact (by repeat (first | (refine (heap_setCell_past _ _ _ _ ?_).trans ?_; · (first | omega | (simp; done) | (simp; omega) | fail)) | (refine (heap_alloc_past _ _ _ ?_).trans ?_; · (first | omega | (simp; done) | (simp; omega) | fail)) | exact HY13.out | fail))))
    have hm14 := blk_lt HY14.out
    have HQ14 := Lib.hid (Below.trans (show Below w3.heap.size w3 _ by exact (by repeat (first | (refine Below.setCell ?_ ?_ _; rotate_left; · (first | omega | (simp; done) | (simp; omega) | fail)) | (refine Below.alloc ?_ ?_ _; rotate_left; · (first | omega | (simp; done) | (simp; omega) | fail)) | refine Below.drew ?_ | exact HQ13.out | fail))) (hb.mono (by have := HQ13.out.size; simp; try omega)))
    have hq14 := HQ14.out.size
    have HN14 := Lib.hid (Below.trans (show Below w9.heap.size w9 _ by exact (by repeat (first | (refine Below.setCell ?_ ?_ _; rotate_left; · (first | omega | (simp; done) | (simp; omega) | fail)) | (refine Below.alloc ?_ ?_ _; rotate_left; · (first | omega | (simp; done) | (simp; omega) | fail)) | refine Below.drew ?_ | exact HN13.out | fail))) (hb.mono (by have := HN13.out.size; simp; try omega)))
    have hn14 := HN14.out.size
    have HZ14 := Lib.hid (blk_later hb HZ13.out)
    clear hb
    go_wp2_with fail
    refine (Sig_good 2 9 _ (by decide)).mono ?_
    rintro e w15 ⟨rfl, hb⟩
    have HX15 : Hid (w15.heap[w1.heap.size]? = some (.cells #[.int .i64 4, .slice a 6 cap] 24)) := Lib.hid (blk_later hb (by exact (by repeat (first | (refine (heap_setCell_past _ _ _ _ ?_).trans ?_; · (first | omega | (simp; done) | (simp; omega) | fail)) | (refine (heap_alloc_past _ _ _ ?_).trans ?_; · (first | omega | (simp; done) | (simp; omega) | fail)) | exact HX14.out | fail))))
    have HW15 := Lib.hid (Below.trans (show Below w1.heap.size w1 _ by exact (by repeat (first | (refine Below.setCell ?_ ?_ _; rotate_left; · (first | omega | (simp; done) | (simp; omega) | fail)) | (refine Below.alloc ?_ ?_ _; rotate_left; · (first | omega | (simp; done) | (simp; omega) | fail)) | refine Below.drew ?_ | exact HW14.out | fail))) (hb.mono (by have := HW14.out.size; simp; try omega)))
    have HO15 := Lib.hid (Below.trans (show Below w.heap.size w _ by exact (by repeat (first | (refine Below.setCell ?_ ?_ _; rotate_left; · (first | omega | (simp; done) | (simp; omega) | fail)) | (refine Below.alloc ?_ ?_ _; rotate_left; · (first | omega | (simp; done) | (simp; omega) | fail)) | refine Below.drew ?_ | exact HO14.out | fail))) (hb.mono (by have := HO14.out.size; simp; try omega)))
    have hs15 := HW15.out.size
    have hl15 := blk_lt HX15.out
    have HY15 : Hid (w15.heap[w3.heap.size]? = some (.cells #[.int .i64 4, .slice ra 6 rcap] 24)) := Lib.hid (blk_later hb (by exact (by repeat (first | (refine (heap_setCell_past _ _ _ _ ?_).trans ?_; · (first | omega | (simp; done) | (simp; omega) | fail)) | (refine (heap_alloc_past _ _ _ ?_).trans ?_; · (first | omega | (simp; done) | (simp; omega) | fail)) | exact HY14.out | fail))))
    have hm15 := blk_lt HY15.out
    have HQ15 := Lib.hid (Below.trans (show Below w3.heap.size w3 _ by exact (by repeat (first | (refine Below.setCell ?_ ?_ _; rotate_left; · (first | omega | (simp; done) | (simp; omega) | fail)) | (refine Below.alloc ?_ ?_ _; rotate_left; · (first | omega | (simp; done) | (simp; omega) | fail)) | refine Below.drew ?_ | exact HQ14.out | fail))) (hb.mono (by have := HQ14.out.size; simp; try omega)))
    have hq15 := HQ15.out.size
    have HN15 := Lib.hid (Below.trans (show Below w9.heap.size w9 _ by exact (by repeat (first | (refine Below.setCell ?_ ?_ _; rotate_left; · (first | omega | (simp; done) | (simp; omega) | fail)) | (refine Below.alloc ?_ ?_ _; rotate_left; · (first | omega | (simp; done) | (simp; omega) | fail)) | refine Below.drew ?_ | exact HN14.out | fail))) (hb.mono (by have := HN14.out.size; simp; try omega)))
    have hn15 := HN15.out.size
    have HZ15 := Lib.hid (blk_later hb HZ14.out)
    clear hb
    have es : sigT 2 9 = [50, 75] := by decide
    rw [es]
    clear es
    have c0 := blk_cell HX15.out 0; have c1 := blk_cell HX15.out 1
    have d0 := blk_cell HY15.out 0; have d1 := blk_cell HY15.out 1
    go_wp2_with fail
    -- the last region draws its order, at three places
    refine wp_cut (AwEnd w15) ?_ ?_
    · refine wpIn_region_segs (by kernel_rfl) awPre 89 awSegs (by kernel_rfl) (by kernel_rfl) (by kernel_rfl) ?_
      unfold awSegs
      have HD15 := Lib.hid (Below.refl w15.heap.size w15)
      refine wpSegs_one ?_
      simp only [List.filterMap_cons, List.filterMap_nil, List.getElem?_toArray, List.getElem?_cons_zero, List.getElem?_cons_succ]
      gi_wp2_with fail
      refine Cut.mk ?_
      refine wpSegs_two (fun a0 w0 a' w' => a' = { tmps := putAll a0.tmps [(127, .agg #[.int .i64 4, .slice ra 6 rcap]), (128, .agg #[.int .i64 4, .slice a 6 cap])], defers := [] } ∧ w' = w0) ?_ ?_ ?_
      iterate 2
        · simp only [List.filterMap_cons, List.filterMap_nil, List.getElem?_toArray, List.getElem?_cons_zero, List.getElem?_cons_succ]
          gi_wp2_with fail
          first | exact Cut.mk trivial | exact Cut.mk ⟨by simp only [putAll, List.foldl_cons, List.foldl_nil, List.setIfInBounds_toArray, List.set_cons_succ, List.set_cons_zero], rfl⟩
      rintro a' w' ⟨rfl, rfl⟩
      simp only [putAll, List.foldl_cons, List.foldl_nil, List.setIfInBounds_toArray, List.set_cons_succ, List.set_cons_zero]
      refine wpSegs_one ?_
      simp only [List.filterMap_cons, List.filterMap_nil, List.getElem?_toArray, List.getElem?_cons_zero, List.getElem?_cons_succ]
      gi_wp2_with fail
      refine ⟨trivial, ?_⟩
      refine (callsIn_wide.2 (Same_any (exBook 0) (exBook 0) _ _ _ ((HRD3.out.below (B := w3.heap.size) (C := w3.heap.size) (show Below _ _ (World.drew w15) by exact (by repeat (first | (refine Below.setCell ?_ ?_ _; rotate_left; · (first | omega | (simp; done) | (simp; omega) | fail)) | (refine Below.alloc ?_ ?_ _; rotate_left; · (first | omega | (simp; done) | (simp; omega) | fail)) | refine Below.drew ?_ | exact HQ15.out | fail))) (Nat.le_refl _)).mono (by simp; omega)) ((HBK.out.below (B := w1.heap.size) (C := w1.heap.size) (show Below _ _ (World.drew w15) by exact (by repeat (first | (refine Below.setCell ?_ ?_ _; rotate_left; · (first | omega | (simp; done) | (simp; omega) | fail)) | (refine Below.alloc ?_ ?_ _; rotate_left; · (first | omega | (simp; done) | (simp; omega) | fail)) | refine Below.drew ?_ | exact HW15.out | fail))) (Nat.le_refl _)).mono (by simp; omega)) (by decide) (by decide))).mono ?_
      rintro e w16 ⟨he, hb⟩
      have he' := he.self
      subst he'
      clear he
      have HD16 := Lib.hid (Below.trans (show Below w15.heap.size w15 _ by exact (by repeat (first | (refine Below.setCell ?_ ?_ _; rotate_left; · (first | omega | (simp; done) | (simp; omega) | fail)) | (refine Below.alloc ?_ ?_ _; rotate_left; · (first | omega | (simp; done) | (simp; omega) | fail)) | refine Below.drew ?_ | exact HD15.out | fail))) (hb.mono (by simp)))
      clear hb c0 c1 d0 d1
      have hs16 := HD16.out.size
      gi_wp2_with fail
      refine Cut.mk ?_
      refine wpSegs_two (fun a0 w0 a' w' => a' = { tmps := putAll a0.tmps [(144, sgv), (145, .slice (some ⟨w0.heap.size, 0, none⟩) 15 15)], defers := [] } ∧ w' = w0.alloc (.cells (([2, 3, 4, 5, 10, 11, 12, 13, 18, 19, 20, 21, 26, 27, 28] : List Int).map (Value.int .i64)).toArray 3)) ?_ ?_ ?_
      iterate 2
        · simp only [List.filterMap_cons, List.filterMap_nil, List.getElem?_toArray, List.getElem?_cons_zero, List.getElem?_cons_succ]
          gi_wp2_with fail
          first | exact Cut.mk trivial | exact Cut.mk ⟨by simp only [putAll, List.foldl_cons, List.foldl_nil, List.setIfInBounds_toArray, List.set_cons_succ, List.set_cons_zero], rfl⟩
      rintro a' w' ⟨rfl, rfl⟩
      simp only [putAll, List.foldl_cons, List.foldl_nil, List.setIfInBounds_toArray, List.set_cons_succ, List.set_cons_zero]
      refine wpSegs_one ?_
      simp only [List.filterMap_cons, List.filterMap_nil, List.getElem?_toArray, List.getElem?_cons_zero, List.getElem?_cons_succ]
      gi_wp2_with fail
      refine ⟨trivial, ?_⟩
      refine (callsIn_wide.2 (Ints_any _ _ _ _ _ (HSG9.out.later (HN15.out.trans ((show Below w15.heap.size w15 _ by exact (by repeat (first | (refine Below.setCell ?_ ?_ _; rotate_left; · (first | omega | (simp; done) | (simp; omega) | fail)) | (refine Below.alloc ?_ ?_ _; rotate_left; · (first | omega | (simp; done) | (simp; omega) | fail)) | refine Below.drew ?_ | exact HD16.out | fail))).mono HN15.out.size))) (ints_alloc w16 3 [2, 3, 4, 5, 10, 11, 12, 13, 18, 19, 20, 21, 26, 27, 28]) (by rw [ex_signs]; decide) (by decide))).mono ?_
      rintro e w17 ⟨rfl, hb⟩
      rw [show decide (((signsF (exBook 0)).map fun n : Nat => (n : Int)) = [2, 3, 4, 5, 10, 11, 12, 13, 18, 19, 20, 21, 26, 27, 28]) = true from by rw [ex_signs]; decide]
      have HD17 := Lib.hid (Below.trans (show Below w15.heap.size w15 _ by exact (by repeat (first | (refine Below.setCell ?_ ?_ _; rotate_left; · (first | omega | (simp; done) | (simp; omega) | fail)) | (refine Below.alloc ?_ ?_ _; rotate_left; · (first | omega | (simp; done) | (simp; omega) | fail)) | refine Below.drew ?_ | exact HD16.out | fail))) (hb.mono (by simp; omega)))
      clear hb
      have hs17 := HD17.out.size
      have HZ17 := Lib.hid ((HD17.out.block _ (blk_lt HZ15.out)).trans HZ15.out)
      gi_wp2_with fail
      refine Cut.mk ?_
      refine wpSegs_two (fun a0 w0 a' w' => Below w0.heap.size w0 w' ∧ a' = { tmps := putAll a0.tmps [(153, .agg #[.int .i64 2, .int .i64 0]), (154, .agg #[.int .i64 2, .int .i64 0])], defers := [] }) ?_ ?_ ?_
      · simp only [List.filterMap_cons, List.filterMap_nil, List.getElem?_toArray, List.getElem?_cons_zero, List.getElem?_cons_succ]
        have c0 := blk_cell HZ17.out 0; have c1 := blk_cell HZ17.out 1
        gi_wp2_with fail
        refine ⟨trivial, ?_⟩
        refine (callsIn_wide.2 (lawSig_any 2 0 _)).mono ?_
        rintro e w18 ⟨rfl, hb⟩
        gi_wp2_with fail
        first | exact Cut.mk trivial | exact Cut.mk ⟨hb, by simp only [putAll, List.foldl_cons, List.foldl_nil, List.setIfInBounds_toArray, List.set_cons_succ, List.set_cons_zero]⟩
      · simp only [List.filterMap_cons, List.filterMap_nil, List.getElem?_toArray, List.getElem?_cons_zero, List.getElem?_cons_succ]
        gi_wp2_with fail
        refine ⟨trivial, ?_⟩
        refine (callsIn_wide.2 (lawSig_any 2 0 _)).mono ?_
        rintro e w18 ⟨rfl, hb⟩
        have HZ18 := blk_later hb HZ17.out
        have c0 := blk_cell HZ18 0; have c1 := blk_cell HZ18 1
        gi_wp2_with fail
        first | exact Cut.mk trivial | exact Cut.mk ⟨hb, by simp only [putAll, List.foldl_cons, List.foldl_nil, List.setIfInBounds_toArray, List.set_cons_succ, List.set_cons_zero]⟩
      rintro a' w18 ⟨hb, rfl⟩
      simp only [putAll, List.foldl_cons, List.foldl_nil, List.setIfInBounds_toArray, List.set_cons_succ, List.set_cons_zero]
      have HD18 := Lib.hid (HD17.out.trans (hb.mono hs17))
      clear hb
      have hs18 := HD18.out.size
      refine wpSegs_one ?_
      simp only [List.filterMap_cons, List.filterMap_nil, List.getElem?_toArray, List.getElem?_cons_zero, List.getElem?_cons_succ]
      gi_wp2_with fail
      refine ⟨trivial, ?_⟩
      refine (callsIn_wide.2 (Name_any [97, 46, 57] _ (by decide))).mono ?_
      rintro e w19 ⟨rfl, hb⟩
      rw [ex_name]
      have HD19 := Lib.hid (HD18.out.trans (hb.mono hs18))
      clear hb
      have hs19 := HD19.out.size
      gi_wp2_with fail
      refine ⟨trivial, ?_⟩
      refine (callsIn_wide.2 (Name_any [57, 97] _ (by decide))).mono ?_
      rintro e w20 ⟨rfl, hb⟩
      rw [ex_noname]
      have HD20 := Lib.hid (HD19.out.trans (hb.mono hs19))
      clear hb
      gi_wp2_with fail
      exact Cut.mk ⟨rfl, Cut.mk ⟨HD20.out, _, rfl, rfl⟩⟩
    · rintro a' w16 ⟨hb, ts, rfl, h0⟩
      have HO16 := HO15.out.trans (hb.mono HO15.out.size)
      clear hb
      go_wp2_with fail
      exact bodyPost_ret (v := .bool true) (by simp [results, Tryz.results12, go_sem, h0]) rfl ⟨rfl, HO16⟩

end Go.Proofs.YtimdmgkegdlafaaGreatDoor
