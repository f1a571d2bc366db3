/- The parts Ga, Gb of the proof, joined. It holds without conditions of its own. -/
import Derived.Test.YtlfglbnbenaghaaGreatDoorTX16
import Derived.Test.YtlfglbnbenaghaaGreatDoorTX14
/- The reference's item: a gathering as it is written alone. -/
namespace Go.Proofs.YtlfglbnbenaghaaGreatDoor
set_option linter.unusedSimpArgs false
set_option linter.unusedVariables false
open Go Go.RowKit Go.Sort Go.BigFrame Go.Shelf
attribute [local go_sem] Oper.semAt_some putAll

theorem ChsAt.get {B : Nat} {w : World} {a : Option Addr} {n cap : Nat} {cs : List Chg} (h : ChsAt B w (.slice a n cap) cs) {i : Nat} {c : Chg} (hi : cs[i]? = some c) :
    ∃ b off, a = some ⟨b, off, none⟩ ∧ b < B ∧ w.cell? ⟨b, off + i * 3, none⟩ = some (.int .i64 c.kind) ∧ w.cell? ⟨b, off + i * 3 + 1, none⟩ = some (.int .i64 c.pos) ∧ w.cell? ⟨b, off + i * 3 + 2, none⟩ = some (.int .i64 c.many) := by
  obtain ⟨a', cap', e, h⟩ := h
  cases e
  obtain ⟨b, off, h1, h2, h3⟩ := h (fun e => by rw [e] at hi; cases hi)
  exact ⟨b, off, h1, h2, h3 i c hi⟩
theorem joinB_snoc (s : UInt8) : ∀ (xs : List Bs) (y : Bs), xs ≠ [] → joinB s (xs ++ [y]) = joinB s xs ++ s :: y
  | [], _, h => absurd rfl h
  | [x], y, _ => rfl
  | x :: z :: xs, y, _ => by
    have ih := joinB_snoc s (z :: xs) y (by simp)
    show x ++ s :: joinB s (z :: xs ++ [y]) = _
    rw [ih]
    simp [joinB]
/-- The changes without the bracket behind them. -/
def preT (cs : List Chg) : Bs := if cs = [] then [] else 40 :: joinB 44 (cs.map chT)
theorem preT_snoc (cs : List Chg) (c : Chg) : preT (cs ++ [c]) = preT cs ++ (if cs = [] then 40 else 44) :: chT c := by
  unfold preT
  rw [if_neg (by simp)]
  by_cases h : cs = []
  · subst h; rfl
  · rw [if_neg h, if_neg h, List.map_append, List.map_singleton, joinB_snoc 44 _ _ (by simpa using h)]
    simp
theorem chsT_pre (cs : List Chg) : chsT cs = preT cs ++ if cs = [] then [] else [41] := by
  unfold chsT preT
  by_cases h : cs = []
  · simp [h]
  · simp [h]
theorem preT_len : ∀ (cs : List Chg), (preT cs).length ≤ cs.length * 6 := by
  intro cs
  induction cs using snoc_rec with
  | nil => simp [preT]
  | snoc cs c ih =>
    have := chT_len c
    rw [preT_snoc]
    simp
    omega
/-- A gathering as it is written alone. -/
def gthT (g : Gth) : Bs := sigT g.round g.letter ++ dec g.leaves ++ chsT g.chs

set_option maxRecDepth 100000 in
set_option maxHeartbeats 3200000 in
theorem refItem_any (g : Gth) (ca : Option Addr) (ccap : Nat) (w : World) (hc : ChsAt w.heap.size w (.slice ca g.chs.length ccap) g.chs) (hok : GOk g) :
    Calls Tryz.prog 55 #[.agg #[.int .i64 g.round, .int .i64 g.letter, .int .i64 g.leaves, .slice ca g.chs.length ccap]] w fun e w' => e = .returned (S (gthT g)) ∧ Below w.heap.size w w' := by
  have HC := Lib.hid hc
  have HOK := Lib.hid hok
  have hlv := hok.leaves
  have hfew := hok.few
  clear hc hok
  obtain ⟨n, hn⟩ : ∃ n, n = g.chs.length := ⟨_, rfl⟩
  rw [← hn] at HC hfew ⊢
  have HN := Lib.hid hn
  clear hn
  have zs : (⟨(sigT g.round g.letter).toArray⟩ : ByteArray).size ≤ 5 := by rw [size_bytes]; exact sigT_len _ _
  have zl : (⟨(dec g.leaves).toArray⟩ : ByteArray).size ≤ 2 := by rw [size_bytes]; exact dec_len _
  go_enter Tryz.func55, Tryz.ntmps55
  go_wp2_with fail
  obtain ⟨w1, hw1⟩ : ∃ w1, w1 = w.alloc (.cells #[.int .i64 g.round, .int .i64 g.letter, .int .i64 g.leaves, .slice ca n ccap] 42) := ⟨_, rfl⟩
  have HB0 : Hid (Below w.heap.size w w1) := Lib.hid (by rw [hw1]; exact (Below.refl _ _).alloc (Nat.le_refl _) _)
  have HX : Hid (w1.heap[w.heap.size]? = some (.cells #[.int .i64 g.round, .int .i64 g.letter, .int .i64 g.leaves, .slice ca n ccap] 42)) := Lib.hid (by rw [hw1]; exact World.alloc_heap_new _ _)
  have HC1 := Lib.hid ((HC.out.below HB0.out (Nat.le_refl _)).mono HB0.out.size)
  rw [← hw1]
  clear hw1
  have q0 := blk_cell HX.out 0; have q1 := blk_cell HX.out 1; have q2 := blk_cell HX.out 2; have q3 := blk_cell HX.out 3
  have r0 := cell_regrown q0
  have r1 := cell_regrown q1
  have r2 := cell_regrown q2
  clear q0 q1 q2 q3
  have cW : ∀ d os, Calls Tryz.prog 15 #[.agg #[.int .i64 g.round, .int .i64 g.letter]] (grow (redrawn w1 d) os) (fun e w'' => e = .returned (S (sigT g.round g.letter)) ∧ ∃ p : Regrown, w'' = grow (redrawn w1 p.d) p.os) := fun d os => Calls.regrown_of (refWritten_any _ _ HOK.out.sig _)
  have cD : ∀ d os, Calls Tryz.prog 16 #[.int .i64 g.leaves] (grow (redrawn w1 d) os) (fun e w'' => e = .returned (S (dec g.leaves)) ∧ ∃ p : Regrown, w'' = grow (redrawn w1 p.d) p.os) := fun d os => Calls.regrown_of (refDig_any _ (by omega) (by omega) _)
  refine wp_region_quiet_below (by kernel_rfl) (by kernel_rfl) ?_; (repeat (go_big_quiet_step (first | exact cW _ _ | exact cD _ _))); refine wpQuiet_nil ?_; rintro w2 ⟨⟨d2, os2⟩, rfl⟩
  have HX2 := Lib.hid (blk_later (below_regrown w1 d2 os2) HX.out)
  have HC2 := Lib.hid ((HC1.out.below (below_regrown w1 d2 os2) (Nat.le_refl _)).mono (below_regrown w1 d2 os2).size)
  have HB2 := Lib.hid (HB0.out.trans ((below_regrown w1 d2 os2).mono HB0.out.size))
  clear r0 r1 r2 cW cD HX HC1 HB0
  revert HX2 HC2 HB2
  generalize grow (redrawn w1 d2) os2 = w2
  intro HX2 HC2 HB2
  obtain ⟨O1, hO1⟩ : ∃ O1, O1 = sigT g.round g.letter ++ dec g.leaves := ⟨_, rfl⟩
  have hcat : ((⟨(sigT g.round g.letter).toArray⟩ : ByteArray) ++ ⟨(dec g.leaves).toArray⟩) = ⟨O1.toArray⟩ := by rw [hO1]; exact cat_bytes _ _
  have hO1l : O1.length ≤ 7 := by
    have h1 := sigT_len g.round g.letter
    have h2 := dec_len g.leaves
    rw [hO1, List.length_append]
    omega
  have HO1 := Lib.hid hO1
  clear hO1
  go_wp2_with fail
  rw [hcat]
  clear hcat zs zl
  have HB : Hid (Below w2.heap.size w2 w2) := Lib.hid (Below.refl _ _)
  go_loopw [3, 4] (fun o i wr => ∃ (k : Nat) (O : Bs), k ≤ n ∧ o = S O ∧ i = .int .i64 k ∧ Hid (O = O1 ++ preT (g.chs.take k)) ∧ Hid (Below w2.heap.size w2 wr)) (fun _ i _ => n - (intOf i).toNat)
  case atStart => exact ⟨0, O1, by omega, rfl, rfl, Lib.hid (by simp [preT]), HB⟩
  case round =>
    clear HB
    obtain ⟨k, O, hk, rfl, rfl, HO, HB⟩ := hrel
    have hz := HB.out.size
    have hOl : O.length ≤ 40 := by
      have := preT_len (g.chs.take k)
      rw [HO.out, List.length_append]
      rw [List.length_take] at this
      omega
    have zO : (⟨O.toArray⟩ : ByteArray).size ≤ 40 := by rw [size_bytes]; exact hOl
    have hX := blk_later HB.out HX2.out
    have q0 := blk_cell hX 0; have q1 := blk_cell hX 1; have q2 := blk_cell hX 2; have q3 := blk_cell hX 3
    clear hX
    by_cases hlt : k < n
    · obtain ⟨c, hcc⟩ : ∃ c, g.chs[k]? = some c := ⟨_, List.getElem?_eq_getElem (by have := HN.out; omega)⟩
      obtain ⟨b, off, rfl, hb, x0, x1, x2⟩ := (HC2.out.below HB.out (Nat.le_refl _)).get hcc
      obtain ⟨hck, hp0, hp1, hm0, hm1⟩ := HOK.out.ch (List.mem_of_getElem? hcc)
      have HCK := Lib.hid hck
      have hsn := preT_snoc (g.chs.take k) c
      rw [show g.chs.take k ++ [c] = g.chs.take (k + 1) by rw [List.take_add_one, hcc]; rfl] at hsn
      have d1 : ((k : Int) < n) := by omega
      clear hck hcc
      by_cases hk0 : k = 0
      · have e0 : ((k : Int) == 0) = true := by simp [hk0]
        rw [if_pos (by rw [hk0]; rfl)] at hsn
        have HSN := Lib.hid hsn
        clear hsn hk0
        have z0 : (⟨[40].toArray⟩ : ByteArray).size ≤ 1 := by decide
        have z1 : (⟨[45].toArray⟩ : ByteArray).size ≤ 1 := by decide
        have z2 : (⟨[61].toArray⟩ : ByteArray).size ≤ 1 := by decide
        have z3 : (⟨[43].toArray⟩ : ByteArray).size ≤ 1 := by decide
        have zd : (⟨(dec c.pos).toArray⟩ : ByteArray).size ≤ 2 := by rw [size_bytes]; exact dec_len _
        have ze : (⟨(dec c.many).toArray⟩ : ByteArray).size ≤ 2 := by rw [size_bytes]; exact dec_len _
        obtain ⟨P0, hP0⟩ : ∃ Z, Z = O ++ [40] := ⟨_, rfl⟩
        have t0 : ((⟨(O).toArray⟩ : ByteArray) ++ ⟨([40]).toArray⟩) = ⟨(P0).toArray⟩ := by rw [hP0]; exact cat_bytes _ _
        have y0 : (⟨(P0).toArray⟩ : ByteArray).size ≤ 41 := by rw [← t0, ByteArray.size_append]; omega
        have HP0 := Lib.hid hP0
        clear hP0
        rcases HCK.out with k1 | k2 | k3
        · have e1 : (c.kind == 1) = true := by simp [k1]
          have HT : Hid (chT c = 45 :: dec c.pos) := Lib.hid (by unfold chT; rw [if_pos k1])
          clear k1
          obtain ⟨P1, hP1⟩ : ∃ Z, Z = P0 ++ [45] := ⟨_, rfl⟩
          have t1 : ((⟨(P0).toArray⟩ : ByteArray) ++ ⟨([45]).toArray⟩) = ⟨(P1).toArray⟩ := by rw [hP1]; exact cat_bytes _ _
          have y1 : (⟨(P1).toArray⟩ : ByteArray).size ≤ 42 := by rw [← t1, ByteArray.size_append]; omega
          have HP1 := Lib.hid hP1
          clear hP1
          obtain ⟨Q, hQ⟩ : ∃ Z, Z = P1 ++ dec c.pos := ⟨_, rfl⟩
          have t2 : ((⟨(P1).toArray⟩ : ByteArray) ++ ⟨(dec c.pos).toArray⟩) = ⟨(Q).toArray⟩ := by rw [hQ]; exact cat_bytes _ _
          have y2 : (⟨(Q).toArray⟩ : ByteArray).size ≤ 44 := by rw [← t2, ByteArray.size_append]; omega
          have HQ := Lib.hid hQ
          clear hQ
          go_wp2_with fail
          refine (refDig_any c.pos hp0 (by omega) _).mono ?_
          rintro e w4 ⟨rfl, hb4⟩
          have HB := Lib.hid (HB.out.trans (((Below.refl _ wr).alloc (Nat.le_refl _) (.cells #[.int .i64 c.kind, .int .i64 c.pos, .int .i64 c.many] 44)).mono hz |>.trans (hb4.mono (by simp; omega))))
          clear hb4
          go_wp2_with fail
          go_roundw
          case rel => exact ⟨k + 1, Q, by omega, (by first | rfl | trivial), by go_num, Lib.hid (by rw [HSN.out, HQ.out, HP1.out, HP0.out, HO.out, HT.out]; simp), HB⟩
          case measure => simp [intOf]; omega
        · have e1 : (c.kind == 1) = false := by simp [k2]
          have e2 : (c.kind == 2) = true := by simp [k2]
          have HT : Hid (chT c = 61 :: dec c.pos) := Lib.hid (by unfold chT; rw [if_neg (by omega), if_pos k2])
          clear k2
          obtain ⟨P1, hP1⟩ : ∃ Z, Z = P0 ++ [61] := ⟨_, rfl⟩
          have t1 : ((⟨(P0).toArray⟩ : ByteArray) ++ ⟨([61]).toArray⟩) = ⟨(P1).toArray⟩ := by rw [hP1]; exact cat_bytes _ _
          have y1 : (⟨(P1).toArray⟩ : ByteArray).size ≤ 42 := by rw [← t1, ByteArray.size_append]; omega
          have HP1 := Lib.hid hP1
          clear hP1
          obtain ⟨Q, hQ⟩ : ∃ Z, Z = P1 ++ dec c.pos := ⟨_, rfl⟩
          have t2 : ((⟨(P1).toArray⟩ : ByteArray) ++ ⟨(dec c.pos).toArray⟩) = ⟨(Q).toArray⟩ := by rw [hQ]; exact cat_bytes _ _
          have y2 : (⟨(Q).toArray⟩ : ByteArray).size ≤ 44 := by rw [← t2, ByteArray.size_append]; omega
          have HQ := Lib.hid hQ
          clear hQ
          go_wp2_with fail
          refine (refDig_any c.pos hp0 (by omega) _).mono ?_
          rintro e w4 ⟨rfl, hb4⟩
          have HB := Lib.hid (HB.out.trans (((Below.refl _ wr).alloc (Nat.le_refl _) (.cells #[.int .i64 c.kind, .int .i64 c.pos, .int .i64 c.many] 44)).mono hz |>.trans (hb4.mono (by simp; omega))))
          clear hb4
          go_wp2_with fail
          go_roundw
          case rel => exact ⟨k + 1, Q, by omega, (by first | rfl | trivial), by go_num, Lib.hid (by rw [HSN.out, HQ.out, HP1.out, HP0.out, HO.out, HT.out]; simp), HB⟩
          case measure => simp [intOf]; omega
        · have e1 : (c.kind == 1) = false := by simp [k3]
          have e2 : (c.kind == 2) = false := by simp [k3]
          have e3 : (c.kind == 3) = true := by simp [k3]
          have HT : Hid (chT c = dec c.pos ++ 43 :: dec c.many) := Lib.hid (by unfold chT; rw [if_neg (by omega), if_neg (by omega)])
          clear k3
          have y3 : ((⟨P0.toArray⟩ : ByteArray) ++ ⟨(dec c.pos).toArray⟩).size ≤ 43 := by rw [ByteArray.size_append]; omega
          have y4 : (((⟨P0.toArray⟩ : ByteArray) ++ ⟨(dec c.pos).toArray⟩) ++ ⟨#[43]⟩).size ≤ 44 := by rw [ByteArray.size_append]; omega
          go_wp2_with fail
          obtain ⟨w3, hw3⟩ : ∃ w3, w3 = wr.alloc (.cells #[.int .i64 c.kind, .int .i64 c.pos, .int .i64 c.many] 44) := ⟨_, rfl⟩
          have HB := Lib.hid (HB.out.trans (show Below w2.heap.size wr w3 by rw [hw3]; exact ((Below.refl _ wr).alloc (Nat.le_refl _) _).mono hz))
          have hY : w3.heap[wr.heap.size]? = some (.cells #[.int .i64 c.kind, .int .i64 c.pos, .int .i64 c.many] 44) := by rw [hw3]; exact World.alloc_heap_new _ _
          have hz3 := HB.out.size
          rw [← hw3]
          have p0 := blk_cell hY 0; have p1 := blk_cell hY 1; have p2 := blk_cell hY 2
          have s1 := cell_regrown p1
          have s2 := cell_regrown p2
          clear hw3 hY p0 p1 p2 q0 q1 q2 q3 x0 x1 x2 t0 z0 z1 z2
          have cP : ∀ d os, Calls Tryz.prog 16 #[.int .i64 c.pos] (grow (redrawn w3 d) os) (fun e w'' => e = .returned (S (dec c.pos)) ∧ ∃ p : Regrown, w'' = grow (redrawn w3 p.d) p.os) := fun d os => Calls.regrown_of (refDig_any _ (by omega) (by omega) _)
          have cM : ∀ d os, Calls Tryz.prog 16 #[.int .i64 c.many] (grow (redrawn w3 d) os) (fun e w'' => e = .returned (S (dec c.many)) ∧ ∃ p : Regrown, w'' = grow (redrawn w3 p.d) p.os) := fun d os => Calls.regrown_of (refDig_any _ (by omega) (by omega) _)
          refine wp_region_quiet_below (by kernel_rfl) (by kernel_rfl) ?_; (repeat (go_big_quiet_step (first | with_reducible exact cP _ _ | with_reducible exact cM _ _))); refine wpQuiet_nil ?_; rintro w6 ⟨⟨d6, os6⟩, rfl⟩
          have HB := Lib.hid (HB.out.trans ((below_regrown w3 d6 os6).mono hz3))
          clear s1 s2 cP cM
          go_wp2_with fail
          go_roundw
          case rel => exact ⟨k + 1, P0 ++ chT c, by omega, congrArg Value.string (by rw [HT.out, cat_bytes, show (⟨#[43]⟩ : ByteArray) = ⟨[43].toArray⟩ from rfl, cat_bytes, cat_bytes]; simp), by go_num, Lib.hid (by rw [HSN.out, HP0.out, HO.out]; simp), HB⟩
          case measure => simp [intOf]; omega
      · have e0 : ((k : Int) == 0) = false := by simp [hk0]
        have hne : g.chs.take k ≠ [] := fun h => by
          have h1 := congrArg List.length h
          have h2 := HN.out
          rw [List.length_take, List.length_nil] at h1
          omega
        rw [if_neg hne] at hsn
        clear hne
        have HSN := Lib.hid hsn
        clear hsn hk0
        have z0 : (⟨[44].toArray⟩ : ByteArray).size ≤ 1 := by decide
        have z1 : (⟨[45].toArray⟩ : ByteArray).size ≤ 1 := by decide
        have z2 : (⟨[61].toArray⟩ : ByteArray).size ≤ 1 := by decide
        have z3 : (⟨[43].toArray⟩ : ByteArray).size ≤ 1 := by decide
        have zd : (⟨(dec c.pos).toArray⟩ : ByteArray).size ≤ 2 := by rw [size_bytes]; exact dec_len _
        have ze : (⟨(dec c.many).toArray⟩ : ByteArray).size ≤ 2 := by rw [size_bytes]; exact dec_len _
        obtain ⟨P0, hP0⟩ : ∃ Z, Z = O ++ [44] := ⟨_, rfl⟩
        have t0 : ((⟨(O).toArray⟩ : ByteArray) ++ ⟨([44]).toArray⟩) = ⟨(P0).toArray⟩ := by rw [hP0]; exact cat_bytes _ _
        have y0 : (⟨(P0).toArray⟩ : ByteArray).size ≤ 41 := by rw [← t0, ByteArray.size_append]; omega
        have HP0 := Lib.hid hP0
        clear hP0
        rcases HCK.out with k1 | k2 | k3
        · have e1 : (c.kind == 1) = true := by simp [k1]
          have HT : Hid (chT c = 45 :: dec c.pos) := Lib.hid (by unfold chT; rw [if_pos k1])
          clear k1
          obtain ⟨P1, hP1⟩ : ∃ Z, Z = P0 ++ [45] := ⟨_, rfl⟩
          have t1 : ((⟨(P0).toArray⟩ : ByteArray) ++ ⟨([45]).toArray⟩) = ⟨(P1).toArray⟩ := by rw [hP1]; exact cat_bytes _ _
          have y1 : (⟨(P1).toArray⟩ : ByteArray).size ≤ 42 := by rw [← t1, ByteArray.size_append]; omega
          have HP1 := Lib.hid hP1
          clear hP1
          obtain ⟨Q, hQ⟩ : ∃ Z, Z = P1 ++ dec c.pos := ⟨_, rfl⟩
          have t2 : ((⟨(P1).toArray⟩ : ByteArray) ++ ⟨(dec c.pos).toArray⟩) = ⟨(Q).toArray⟩ := by rw [hQ]; exact cat_bytes _ _
          have y2 : (⟨(Q).toArray⟩ : ByteArray).size ≤ 44 := by rw [← t2, ByteArray.size_append]; omega
          have HQ := Lib.hid hQ
          clear hQ
          go_wp2_with fail
          refine (refDig_any c.pos hp0 (by omega) _).mono ?_
          rintro e w4 ⟨rfl, hb4⟩
          have HB := Lib.hid (HB.out.trans (((Below.refl _ wr).alloc (Nat.le_refl _) (.cells #[.int .i64 c.kind, .int .i64 c.pos, .int .i64 c.many] 44)).mono hz |>.trans (hb4.mono (by simp; omega))))
          clear hb4
          go_wp2_with fail
          go_roundw
          case rel => exact ⟨k + 1, Q, by omega, (by first | rfl | trivial), by go_num, Lib.hid (by rw [HSN.out, HQ.out, HP1.out, HP0.out, HO.out, HT.out]; simp), HB⟩
          case measure => simp [intOf]; omega
        · have e1 : (c.kind == 1) = false := by simp [k2]
          have e2 : (c.kind == 2) = true := by simp [k2]
          have HT : Hid (chT c = 61 :: dec c.pos) := Lib.hid (by unfold chT; rw [if_neg (by omega), if_pos k2])
          clear k2
          obtain ⟨P1, hP1⟩ : ∃ Z, Z = P0 ++ [61] := ⟨_, rfl⟩
          have t1 : ((⟨(P0).toArray⟩ : ByteArray) ++ ⟨([61]).toArray⟩) = ⟨(P1).toArray⟩ := by rw [hP1]; exact cat_bytes _ _
          have y1 : (⟨(P1).toArray⟩ : ByteArray).size ≤ 42 := by rw [← t1, ByteArray.size_append]; omega
          have HP1 := Lib.hid hP1
          clear hP1
          obtain ⟨Q, hQ⟩ : ∃ Z, Z = P1 ++ dec c.pos := ⟨_, rfl⟩
          have t2 : ((⟨(P1).toArray⟩ : ByteArray) ++ ⟨(dec c.pos).toArray⟩) = ⟨(Q).toArray⟩ := by rw [hQ]; exact cat_bytes _ _
          have y2 : (⟨(Q).toArray⟩ : ByteArray).size ≤ 44 := by rw [← t2, ByteArray.size_append]; omega
          have HQ := Lib.hid hQ
          clear hQ
          go_wp2_with fail
          refine (refDig_any c.pos hp0 (by omega) _).mono ?_
          rintro e w4 ⟨rfl, hb4⟩
          have HB := Lib.hid (HB.out.trans (((Below.refl _ wr).alloc (Nat.le_refl _) (.cells #[.int .i64 c.kind, .int .i64 c.pos, .int .i64 c.many] 44)).mono hz |>.trans (hb4.mono (by simp; omega))))
          clear hb4
          go_wp2_with fail
          go_roundw
          case rel => exact ⟨k + 1, Q, by omega, (by first | rfl | trivial), by go_num, Lib.hid (by rw [HSN.out, HQ.out, HP1.out, HP0.out, HO.out, HT.out]; simp), HB⟩
          case measure => simp [intOf]; omega
        · have e1 : (c.kind == 1) = false := by simp [k3]
          have e2 : (c.kind == 2) = false := by simp [k3]
          have e3 : (c.kind == 3) = true := by simp [k3]
          have HT : Hid (chT c = dec c.pos ++ 43 :: dec c.many) := Lib.hid (by unfold chT; rw [if_neg (by omega), if_neg (by omega)])
          clear k3
          have y3 : ((⟨P0.toArray⟩ : ByteArray) ++ ⟨(dec c.pos).toArray⟩).size ≤ 43 := by rw [ByteArray.size_append]; omega
          have y4 : (((⟨P0.toArray⟩ : ByteArray) ++ ⟨(dec c.pos).toArray⟩) ++ ⟨#[43]⟩).size ≤ 44 := by rw [ByteArray.size_append]; omega
          go_wp2_with fail
          obtain ⟨w3, hw3⟩ : ∃ w3, w3 = wr.alloc (.cells #[.int .i64 c.kind, .int .i64 c.pos, .int .i64 c.many] 44) := ⟨_, rfl⟩
          have HB := Lib.hid (HB.out.trans (show Below w2.heap.size wr w3 by rw [hw3]; exact ((Below.refl _ wr).alloc (Nat.le_refl _) _).mono hz))
          have hY : w3.heap[wr.heap.size]? = some (.cells #[.int .i64 c.kind, .int .i64 c.pos, .int .i64 c.many] 44) := by rw [hw3]; exact World.alloc_heap_new _ _
          have hz3 := HB.out.size
          rw [← hw3]
          have p0 := blk_cell hY 0; have p1 := blk_cell hY 1; have p2 := blk_cell hY 2
          have s1 := cell_regrown p1
          have s2 := cell_regrown p2
          clear hw3 hY p0 p1 p2 q0 q1 q2 q3 x0 x1 x2 t0 z0 z1 z2
          have cP : ∀ d os, Calls Tryz.prog 16 #[.int .i64 c.pos] (grow (redrawn w3 d) os) (fun e w'' => e = .returned (S (dec c.pos)) ∧ ∃ p : Regrown, w'' = grow (redrawn w3 p.d) p.os) := fun d os => Calls.regrown_of (refDig_any _ (by omega) (by omega) _)
          have cM : ∀ d os, Calls Tryz.prog 16 #[.int .i64 c.many] (grow (redrawn w3 d) os) (fun e w'' => e = .returned (S (dec c.many)) ∧ ∃ p : Regrown, w'' = grow (redrawn w3 p.d) p.os) := fun d os => Calls.regrown_of (refDig_any _ (by omega) (by omega) _)
          refine wp_region_quiet_below (by kernel_rfl) (by kernel_rfl) ?_; (repeat (go_big_quiet_step (first | with_reducible exact cP _ _ | with_reducible exact cM _ _))); refine wpQuiet_nil ?_; rintro w6 ⟨⟨d6, os6⟩, rfl⟩
          have HB := Lib.hid (HB.out.trans ((below_regrown w3 d6 os6).mono hz3))
          clear s1 s2 cP cM
          go_wp2_with fail
          go_roundw
          case rel => exact ⟨k + 1, P0 ++ chT c, by omega, congrArg Value.string (by rw [HT.out, cat_bytes, show (⟨#[43]⟩ : ByteArray) = ⟨[43].toArray⟩ from rfl, cat_bytes, cat_bytes]; simp), by go_num, Lib.hid (by rw [HSN.out, HP0.out, HO.out]; simp), HB⟩
          case measure => simp [intOf]; omega
    · have hkn : k = n := by omega
      have htk : g.chs.take k = g.chs := List.take_of_length_le (by have := HN.out; omega)
      rw [htk] at HO
      have z1 : (⟨[41].toArray⟩ : ByteArray).size ≤ 1 := by decide
      have HBB := Lib.hid (HB2.out.trans (HB.out.mono HB2.out.size))
      by_cases hn0 : n = 0
      · have e0 : decide ((0 : Int) < (n : Int)) = false := decide_eq_false (by omega)
        have HV : Hid (O = gthT g) := Lib.hid (by
          have hc0 : g.chs = [] := List.length_eq_zero_iff.1 (by have := HN.out; omega)
          rw [HO.out, HO1.out]
          unfold gthT
          rw [chsT_pre, if_pos hc0, List.append_nil])
        go_wp2_with fail
        go_ret
        exact ⟨by rw [← HV.out]; rfl, HBB.out⟩
      · have e0 : decide ((0 : Int) < (n : Int)) = true := decide_eq_true (by omega)
        obtain ⟨P0, hP0⟩ : ∃ Z, Z = O ++ [41] := ⟨_, rfl⟩
        have t0 : ((⟨(O).toArray⟩ : ByteArray) ++ ⟨([41]).toArray⟩) = ⟨(P0).toArray⟩ := by rw [hP0]; exact cat_bytes _ _
        have y0 : (⟨(P0).toArray⟩ : ByteArray).size ≤ 41 := by rw [← t0, ByteArray.size_append]; omega
        have HP0 := Lib.hid hP0
        clear hP0
        have HV : Hid (P0 = gthT g) := Lib.hid (by
          have hc0 : g.chs ≠ [] := fun h => hn0 (by have := HN.out; rw [h] at this; exact this)
          rw [HP0.out, HO.out, HO1.out]
          unfold gthT
          rw [chsT_pre, if_neg hc0]
          simp)
        go_wp2_with fail
        go_ret
        exact ⟨by rw [← HV.out]; rfl, HBB.out⟩
end Go.Proofs.YtlfglbnbenaghaaGreatDoor

/- The reference's follows. -/
namespace Go.Proofs.YtlfglbnbenaghaaGreatDoor
set_option linter.unusedSimpArgs false
set_option linter.unusedVariables false
open Go Go.RowKit Go.Sort Go.BigFrame Go.Shelf
attribute [local go_sem] Oper.semAt_some putAll

/-- Whether a gathering can be in an item with the one before it. -/
def follB (g h : Gth) : Bool := decide (0 ≤ rankF g.round g.letter) && (rankF h.round h.letter == rankF g.round g.letter + 1) && (g.leaves == h.leaves) && (((g.chs.length : Nat) : Int) == 0) && (((h.chs.length : Nat) : Int) == 0)

set_option maxRecDepth 100000 in
set_option maxHeartbeats 1600000 in
theorem refFollows_any (g h : Gth) (ca cb : Option Addr) (ccap dcap : Nat) (w : World) (hg : GOk g) (hh : GOk h) :
    Calls Tryz.prog 54 #[.agg #[.int .i64 g.round, .int .i64 g.letter, .int .i64 g.leaves, .slice ca g.chs.length ccap], .agg #[.int .i64 h.round, .int .i64 h.letter, .int .i64 h.leaves, .slice cb h.chs.length dcap]] w fun e w' => e = .returned (.bool (follB g h)) ∧ Below w.heap.size w w' := by
  have hG := hg.sig
  have hH := hh.sig
  have hb : 1 ≤ g.round ∧ g.round ≤ 3 ∧ 0 ≤ g.letter ∧ g.letter ≤ 24 := by simp [sigB, inB] at hG; omega
  obtain ⟨Q, hQ⟩ : ∃ Q, Q = rankF g.round g.letter := ⟨_, rfl⟩
  obtain ⟨R, hR⟩ : ∃ R, R = rankF h.round h.letter := ⟨_, rfl⟩
  obtain ⟨n, hn⟩ : ∃ n, n = g.chs.length := ⟨_, rfl⟩
  obtain ⟨m, hm⟩ : ∃ m, m = h.chs.length := ⟨_, rfl⟩
  have HV : Hid (follB g h = (decide (0 ≤ Q) && (R == Q + 1) && (g.leaves == h.leaves) && ((n : Int) == 0) && ((m : Int) == 0))) := Lib.hid (by unfold follB; rw [← hQ, ← hR, ← hn, ← hm])
  have hQb : -1 ≤ Q ∧ Q ≤ 100 := by rw [hQ]; unfold rankF; split <;> omega
  have w1' : IntKind.i64.wrap (Q + 1) = Q + 1 := IntWalk.i64_in _ (by omega)
  have HQ := Lib.hid hQ
  have HR := Lib.hid hR
  have HG := Lib.hid hG
  have HH := Lib.hid hH
  rw [← hn, ← hm]
  clear hQ hR hn hm hG hH hb hg hh
  go_enter Tryz.func54, Tryz.ntmps54
  go_wp2_with fail
  obtain ⟨w1, hw1⟩ : ∃ w1, w1 = (w.alloc (.cells #[.int .i64 g.round, .int .i64 g.letter, .int .i64 g.leaves, .slice ca n ccap] 42)).alloc (.cells #[.int .i64 h.round, .int .i64 h.letter, .int .i64 h.leaves, .slice cb m dcap] 42) := ⟨_, rfl⟩
  have HB0 : Hid (Below w.heap.size w w1) := Lib.hid (by rw [hw1]; exact (by repeat (first | (refine Below.setCell ?_ ?_ _; rotate_left; · (first | omega | (simp; done) | (simp; omega) | fail)) | (refine Below.alloc ?_ ?_ _; rotate_left; · (first | omega | (simp; done) | (simp; omega) | fail)) | refine Below.drew ?_ | exact Below.refl _ _ | fail)))
  have HX : w1.heap[w.heap.size]? = some (.cells #[.int .i64 g.round, .int .i64 g.letter, .int .i64 g.leaves, .slice ca n ccap] 42) := by rw [hw1]; exact (by repeat (first | exact heap_alloc_at _ _ _ (by (first | omega | (simp; done) | (simp; omega) | fail)) | (refine (heap_alloc_past _ _ _ ?_).trans ?_; · (first | omega | (simp; done) | (simp; omega) | fail)) | fail))
  have HY : w1.heap[w.heap.size + 1]? = some (.cells #[.int .i64 h.round, .int .i64 h.letter, .int .i64 h.leaves, .slice cb m dcap] 42) := by rw [hw1]; exact (by repeat (first | exact heap_alloc_at _ _ _ (by (first | omega | (simp; done) | (simp; omega) | fail)) | (refine (heap_alloc_past _ _ _ ?_).trans ?_; · (first | omega | (simp; done) | (simp; omega) | fail)) | fail))
  rw [← hw1]
  clear hw1
  have q0 := blk_cell HX 0; have q1 := blk_cell HX 1; have q2 := blk_cell HX 2; have q3 := blk_cell HX 3
  have p0 := blk_cell HY 0; have p1 := blk_cell HY 1; have p2 := blk_cell HY 2; have p3 := blk_cell HY 3
  have r0 := cell_regrown q0
  have r1 := cell_regrown q1
  have r2 := cell_regrown q2
  have r3 := cell_regrown q3
  have s0 := cell_regrown p0
  have s1 := cell_regrown p1
  have s2 := cell_regrown p2
  have s3 := cell_regrown p3
  clear q0 q1 q2 q3 p0 p1 p2 p3 HX HY
  have cG : ∀ d os, Calls Tryz.prog 68 #[.agg #[.int .i64 g.round, .int .i64 g.letter]] (grow (redrawn w1 d) os) (fun e w'' => e = .returned (.int .i64 Q) ∧ ∃ p : Regrown, w'' = grow (redrawn w1 p.d) p.os) := fun d os => Calls.regrown_of (by have h := refRank_any g.round g.letter (grow (redrawn w1 d) os) HG.out; rwa [← HQ.out] at h)
  have cH : ∀ d os, Calls Tryz.prog 68 #[.agg #[.int .i64 h.round, .int .i64 h.letter]] (grow (redrawn w1 d) os) (fun e w'' => e = .returned (.int .i64 R) ∧ ∃ p : Regrown, w'' = grow (redrawn w1 p.d) p.os) := fun d os => Calls.regrown_of (by have h := refRank_any h.round h.letter (grow (redrawn w1 d) os) HH.out; rwa [← HR.out] at h)
  cases e1 : decide (0 ≤ Q) with
  | false => 
    go_wp2_with fail
    refine wp_region_quiet_below (by kernel_rfl) (by kernel_rfl) ?_; (repeat (go_big_quiet_step (first | with_reducible exact cG _ _ | with_reducible exact cH _ _))); refine wpQuiet_nil ?_; rintro w6 ⟨⟨d6, os6⟩, rfl⟩
    have HB := Lib.hid (HB0.out.trans ((below_regrown w1 d6 os6).mono HB0.out.size))
    clear r0 r1 r2 r3 s0 s1 s2 s3 cG cH
    go_wp2_with fail
    go_ret
    exact ⟨by rw [HV.out, e1]; rfl, HB.out⟩
  | true =>
    cases e2 : (R == Q + 1) with
    | false =>
      go_wp2_with fail
      refine wp_region_quiet_below (by kernel_rfl) (by kernel_rfl) ?_; (repeat (go_big_quiet_step (first | with_reducible exact cG _ _ | with_reducible exact cH _ _))); refine wpQuiet_nil ?_; rintro w6 ⟨⟨d6, os6⟩, rfl⟩
      have HB := Lib.hid (HB0.out.trans ((below_regrown w1 d6 os6).mono HB0.out.size))
      clear r0 r1 r2 r3 s0 s1 s2 s3 cG cH
      go_wp2_with fail
      go_ret
      exact ⟨by rw [HV.out, e1, e2]; rfl, HB.out⟩
    | true =>
      cases e3 : (g.leaves == h.leaves) with
      | false =>
        go_wp2_with fail
        refine wp_region_quiet_below (by kernel_rfl) (by kernel_rfl) ?_; (repeat (go_big_quiet_step (first | with_reducible exact cG _ _ | with_reducible exact cH _ _))); refine wpQuiet_nil ?_; rintro w6 ⟨⟨d6, os6⟩, rfl⟩
        have HB := Lib.hid (HB0.out.trans ((below_regrown w1 d6 os6).mono HB0.out.size))
        clear r0 r1 r2 r3 s0 s1 s2 s3 cG cH
        go_wp2_with fail
        go_ret
        exact ⟨by rw [HV.out, e1, e2, e3]; rfl, HB.out⟩
      | true =>
        cases e4 : ((n : Int) == 0) with
        | false =>
          go_wp2_with fail
          refine wp_region_quiet_below (by kernel_rfl) (by kernel_rfl) ?_; (repeat (go_big_quiet_step (first | with_reducible exact cG _ _ | with_reducible exact cH _ _))); refine wpQuiet_nil ?_; rintro w6 ⟨⟨d6, os6⟩, rfl⟩
          have HB := Lib.hid (HB0.out.trans ((below_regrown w1 d6 os6).mono HB0.out.size))
          clear r0 r1 r2 r3 s0 s1 s2 s3 cG cH
          go_wp2_with fail
          go_ret
          exact ⟨by rw [HV.out, e1, e2, e3, e4]; rfl, HB.out⟩
        | true =>
          go_wp2_with fail
          refine wp_region_quiet_below (by kernel_rfl) (by kernel_rfl) ?_; (repeat (go_big_quiet_step (first | with_reducible exact cG _ _ | with_reducible exact cH _ _))); refine wpQuiet_nil ?_; rintro w6 ⟨⟨d6, os6⟩, rfl⟩
          have HB := Lib.hid (HB0.out.trans ((below_regrown w1 d6 os6).mono HB0.out.size))
          clear r0 r1 r2 r3 s0 s1 s2 s3 cG cH
          go_wp2_with fail
          go_ret
          exact ⟨by rw [HV.out, e1, e2, e3, e4]; rfl, HB.out⟩
end Go.Proofs.YtlfglbnbenaghaaGreatDoor
