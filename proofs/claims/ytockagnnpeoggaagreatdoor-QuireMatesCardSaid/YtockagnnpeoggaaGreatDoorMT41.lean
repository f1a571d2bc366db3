/- The parts Wc of the proof, joined. It holds without conditions of its own. -/
import Derived.Test.YtockagnnpeoggaaGreatDoorMT40
import Derived.Test.YtockagnnpeoggaaGreatDoorMT15
/- How an item of a formula is written; whether it takes one more gathering. -/
namespace Go.Proofs.YtockagnnpeoggaaGreatDoor
set_option linter.unusedSimpArgs false
set_option linter.unusedVariables false
open Go Go.RowKit Go.Sort Go.BigFrame

/-- An item that a formula of a book has. -/
structure ItOk (x : Itm) : Prop where
  first : sigB x.fr x.fl = true
  last : sigB x.lr x.ll = true
  leaves : 0 ≤ x.leaves ∧ x.leaves < 100
  few : x.chs.length ≤ 4
  chs : ∀ c ∈ x.chs, ChOk c

def itmV' (x : Itm) (cv : Value) : Value := .agg #[.int .i64 x.kind, .int .i64 x.fr, .int .i64 x.fl, .int .i64 x.lr, .int .i64 x.ll, .int .i64 x.leaves, cv]
set_option maxRecDepth 100000 in
set_option maxHeartbeats 2000000 in
theorem itemText_any (x : Itm) (cv : Value) (w : World) (hx : ItOk x) (hc : ChsAt w.heap.size w cv x.chs) :
    Calls Tryz.prog 85 #[itmV' x cv] w fun e w' => e = .returned (S (itmT x)) ∧ Below w.heap.size w w' := by
  obtain ⟨kd, fr, fl, lr, ll, lv, chs⟩ := x
  have HC := Lib.hid hc
  obtain ⟨a, cap, rfl, -⟩ := hc
  dsimp only at HC
  obtain ⟨h1, h2, ⟨l0, l1⟩, hf, hch⟩ := hx
  dsimp only at h1 h2 l0 l1 hf hch
  have H1 := Lib.hid h1
  have H2 := Lib.hid h2
  have HCH := Lib.hid hch
  have hf' : chs.length ≤ 100 := by omega
  have z1 : (⟨(sigT fr fl).toArray⟩ : ByteArray).size ≤ 5 := by rw [size_bytes]; exact sigT_len fr fl
  have z2 : (⟨(sigT lr ll).toArray⟩ : ByteArray).size ≤ 5 := by rw [size_bytes]; exact sigT_len lr ll
  have z3 : (⟨(dec lv).toArray⟩ : ByteArray).size ≤ 2 := by rw [size_bytes]; exact dec_len lv
  have z4 : (⟨(chsT chs).toArray⟩ : ByteArray).size ≤ 26 := by rw [size_bytes]; exact chsT_len hf
  have zd : (⟨#[45]⟩ : ByteArray).size ≤ 1 := by decide
  obtain ⟨w1, hw1⟩ : ∃ w1, w1 = w.alloc (.cells #[.int .i64 kd, .int .i64 fr, .int .i64 fl, .int .i64 lr, .int .i64 ll, .int .i64 lv, .slice a chs.length cap] 131) := ⟨_, rfl⟩
  have hb1 : Below w.heap.size w w1 := by rw [hw1]; exact (by repeat (first | exact Below.refl _ _ | assumption | (refine Below.alloc ?_ ?_ _; rotate_left; · (first | omega | (simp; done) | (simp; omega) | fail)) | (refine Below.setCell ?_ ?_ _; rotate_left; · (first | omega | (simp; done) | (simp; omega) | fail)) | refine Below.drew ?_ | fail))
  have q1 : w1.heap[w.heap.size]? = some (.cells #[.int .i64 kd, .int .i64 fr, .int .i64 fl, .int .i64 lr, .int .i64 ll, .int .i64 lv, .slice a chs.length cap] 131) := by rw [hw1]; exact (by repeat (first | exact heap_alloc_at _ _ _ (by (first | omega | (simp; done) | (simp; omega) | fail)) | (refine (heap_alloc_past _ _ _ ?_).trans ?_; · (first | omega | (simp; done) | (simp; omega) | fail)) | fail))
  have HB := Lib.hid hb1
  have HQ := Lib.hid q1
  unfold itmV'
  dsimp only
  clear h1 h2 hch hf
  go_enter Tryz.func85, Tryz.ntmps85
  go_wp2_with fail
  rw [← hw1]
  clear hw1 hb1
  have c0 := blk_cell q1 0; have c1 := blk_cell q1 1; have c2 := blk_cell q1 2; have c3 := blk_cell q1 3; have c4 := blk_cell q1 4; have c5 := blk_cell q1 5; have c6 := blk_cell q1 6
  clear q1
  have hz1 := HB.out.size
  refine (sigText_any fr fl H1.out _).mono ?_
  rintro e w2 ⟨rfl, hb2⟩
  have HB2 := Lib.hid (HB.out.trans (hb2.mono hz1))
  have HQ2 := Lib.hid (blk_later hb2 HQ.out)
  have hz2 := HB2.out.size
  clear hb2 c0 c1 c2 c3 c4 c5 c6
  have c0 := blk_cell HQ2.out 0; have c1 := blk_cell HQ2.out 1; have c2 := blk_cell HQ2.out 2; have c3 := blk_cell HQ2.out 3; have c4 := blk_cell HQ2.out 4; have c5 := blk_cell HQ2.out 5; have c6 := blk_cell HQ2.out 6
  by_cases hk : kd = 1
  · have HR : Hid (itmT ⟨kd, fr, fl, lr, ll, lv, chs⟩ = (sigT fr fl ++ ([45] ++ sigT lr ll)) ++ dec lv ++ chsT chs) := by show _ = _; simp [itmT, hk]
    have hkb : (kd == 1) = true := by simp [hk]
    clear hk
    go_wp2_with fail
    refine (sigText_any lr ll H2.out _).mono ?_
    rintro e w4 ⟨rfl, hb4⟩
    have HBW := Lib.hid (HB2.out.trans (hb4.mono hz2))
    have HQW := Lib.hid (blk_later hb4 HQ2.out)
    have zt : ((⟨#[45]⟩ : ByteArray) ++ ⟨(sigT lr ll).toArray⟩).size ≤ 6 := by rw [ByteArray.size_append]; omega
    clear hb4 c0 c1 c2 c3 c4 c5 c6
    go_wp2_with fail
    rw [show (⟨#[45]⟩ : ByteArray) = ⟨[45].toArray⟩ from rfl, cat_bytes, cat_bytes]
    have zA : (⟨(sigT fr fl ++ ([45] ++ sigT lr ll)).toArray⟩ : ByteArray).size ≤ 11 := by rw [size_bytes] at *; simp at *; omega
    obtain ⟨tx, htx⟩ : ∃ tx, tx = sigT fr fl ++ ([45] ++ sigT lr ll) := ⟨_, rfl⟩
    have HR := Lib.hid (htx ▸ HR.out)
    rw [← htx] at zA ⊢
    clear htx
    -- the text so far is A; the world W; HBW : Below .. w W; HQW : the item's box
    have hzW := HBW.out.size
    have c0 := blk_cell HQW.out 0; have c1 := blk_cell HQW.out 1; have c2 := blk_cell HQW.out 2; have c3 := blk_cell HQW.out 3; have c4 := blk_cell HQW.out 4; have c5 := blk_cell HQW.out 5; have c6 := blk_cell HQW.out 6
    have r5 := cell_regrown c5
    have r6 := cell_regrown c6
    have cI : ∀ d os, Calls Tryz.prog 77 #[.int .i64 lv] (grow (redrawn w4 d) os) (fun e w'' => e = .returned (S (dec lv)) ∧ ∃ p : Regrown, w'' = grow (redrawn w4 p.d) p.os) := fun d os => Calls.regrown_of ((Itoa_any lv l0 l1 _).mono fun e w' ⟨h1, h2⟩ => ⟨h1, h2 ▸ Below.refl _ _⟩)
    have cC : ∀ d os, Calls Tryz.prog 107 #[.slice a chs.length cap] (grow (redrawn w4 d) os) (fun e w'' => e = .returned (S (chsT chs)) ∧ ∃ p : Regrown, w'' = grow (redrawn w4 p.d) p.os) := fun d os => Calls.regrown_of (changesText_any w.heap.size chs _ _ (Nat.le_trans hzW (below_regrown w4 d os).size) (HC.out.below (HBW.out.trans ((below_regrown w4 d os).mono hzW)) (Nat.le_refl _)) hf' HCH.out)
    have zB : ((⟨(tx).toArray⟩ : ByteArray) ++ ⟨(dec lv).toArray⟩).size ≤ 13 := by rw [ByteArray.size_append]; omega
    refine wp_region_quiet_below (by kernel_rfl) (by kernel_rfl) ?_; (repeat (go_big_quiet_step (first | exact cI _ _ | exact cC _ _))); refine wpQuiet_nil ?_; rintro w3 ⟨⟨d3, os3⟩, rfl⟩
    have hb13 := below_regrown w4 d3 os3
    have hb3 := HBW.out.trans (hb13.mono hzW)
    clear cI cC r5 r6 c0 c1 c2 c3 c4 c5 c6 hb13
    go_wp2_with fail
    go_ret
    exact ⟨ret_S (by rw [HR.out, cat_bytes, cat_bytes]), hb3⟩
  · have HR : Hid (itmT ⟨kd, fr, fl, lr, ll, lv, chs⟩ = sigT fr fl ++ dec lv ++ chsT chs) := by show _ = _; simp [itmT, hk]
    have hkb : (kd == 1) = false := by simp [hk]
    clear hk
    have HBW := HB2
    have HQW := HQ2
    go_wp2_with fail
    clear c0 c1 c2 c3 c4 c5 c6
    have zA := z1
    -- the text so far is A; the world W; HBW : Below .. w W; HQW : the item's box
    have hzW := HBW.out.size
    have c0 := blk_cell HQW.out 0; have c1 := blk_cell HQW.out 1; have c2 := blk_cell HQW.out 2; have c3 := blk_cell HQW.out 3; have c4 := blk_cell HQW.out 4; have c5 := blk_cell HQW.out 5; have c6 := blk_cell HQW.out 6
    have r5 := cell_regrown c5
    have r6 := cell_regrown c6
    have cI : ∀ d os, Calls Tryz.prog 77 #[.int .i64 lv] (grow (redrawn w2 d) os) (fun e w'' => e = .returned (S (dec lv)) ∧ ∃ p : Regrown, w'' = grow (redrawn w2 p.d) p.os) := fun d os => Calls.regrown_of ((Itoa_any lv l0 l1 _).mono fun e w' ⟨h1, h2⟩ => ⟨h1, h2 ▸ Below.refl _ _⟩)
    have cC : ∀ d os, Calls Tryz.prog 107 #[.slice a chs.length cap] (grow (redrawn w2 d) os) (fun e w'' => e = .returned (S (chsT chs)) ∧ ∃ p : Regrown, w'' = grow (redrawn w2 p.d) p.os) := fun d os => Calls.regrown_of (changesText_any w.heap.size chs _ _ (Nat.le_trans hzW (below_regrown w2 d os).size) (HC.out.below (HBW.out.trans ((below_regrown w2 d os).mono hzW)) (Nat.le_refl _)) hf' HCH.out)
    have zB : ((⟨((sigT fr fl)).toArray⟩ : ByteArray) ++ ⟨(dec lv).toArray⟩).size ≤ 13 := by rw [ByteArray.size_append]; omega
    refine wp_region_quiet_below (by kernel_rfl) (by kernel_rfl) ?_; (repeat (go_big_quiet_step (first | exact cI _ _ | exact cC _ _))); refine wpQuiet_nil ?_; rintro w3 ⟨⟨d3, os3⟩, rfl⟩
    have hb13 := below_regrown w2 d3 os3
    have hb3 := HBW.out.trans (hb13.mono hzW)
    clear cI cC r5 r6 c0 c1 c2 c3 c4 c5 c6 hb13
    go_wp2_with fail
    go_ret
    exact ⟨ret_S (by rw [HR.out, cat_bytes, cat_bytes]), hb3⟩

end Go.Proofs.YtockagnnpeoggaaGreatDoor
