/- The parts Cq, Ax, Rr of the proof, joined. It holds without conditions of its own. -/
import Derived.Test.YtimdmgkegdlafaaGreatDoorCH31
import Derived.Test.YtimdmgkegdlafaaGreatDoorCH20
import Derived.Test.YtimdmgkegdlafaaGreatDoorCH22
import Derived.Test.YtimdmgkegdlafaaGreatDoorCH6
/- The reference's Called. -/
namespace Go.Proofs.YtimdmgkegdlafaaGreatDoor
set_option linter.unusedSimpArgs false
set_option linter.unusedVariables false
open Go Go.RowKit Go.Sort Go.BigFrame Go.Shelf
attribute [local go_sem] Oper.semAt_some putAll

theorem refDig_any (n : Int) (h0 : 0 ≤ n) (h1 : n < 100) (w : World) :
    Calls Tryz.prog 16 #[.int .i64 n] w fun e w' => e = .returned (S (dec n)) ∧ Below w.heap.size w w' := by
  obtain ⟨k, rfl⟩ := Int.eq_ofNat_of_zero_le h0
  have h := refDigits_any k (by omega) w
  have e : digN k = dec (k : Int) := digN_dec3 (r := (k : Int)) h0 h1
  rw [e] at h
  exact h

end Go.Proofs.YtimdmgkegdlafaaGreatDoor

/- The book of the examples, as plain Lean and in memory. -/
namespace Go.Proofs.YtimdmgkegdlafaaGreatDoor
set_option linter.unusedSimpArgs false
set_option linter.unusedVariables false
open Go Go.RowKit Go.Sort Go.BigFrame

/-- The changes of the examples' gathering D. -/
def exChs (k : Nat) : List Chg := [⟨1, 3, 0⟩, ⟨2, 5, 0⟩, ⟨3, 8, 1⟩].take (3 - k)
/-- The book of the examples, and the same without the last k changes. -/
def exBook (k : Nat) : Bk := ⟨4, [⟨1, 23, 2, []⟩, ⟨1, 0, 8, []⟩, ⟨1, 1, 8, []⟩, ⟨1, 2, 8, []⟩, ⟨1, 3, 8, exChs k⟩, ⟨1, 24, 1, []⟩]⟩

/-- The cells of the gatherings. -/
def exCells (sv : Value) : Array Value :=
  #[.int .i64 1, .int .i64 23, .int .i64 2, .slice none 0 0, .int .i64 1, .int .i64 0, .int .i64 8, .slice none 0 0, .int .i64 1, .int .i64 1, .int .i64 8, .slice none 0 0,
    .int .i64 1, .int .i64 2, .int .i64 8, .slice none 0 0, .int .i64 1, .int .i64 3, .int .i64 8, sv, .int .i64 1, .int .i64 24, .int .i64 1, .slice none 0 0]
def exChCells : Array Value := #[.int .i64 1, .int .i64 3, .int .i64 0, .int .i64 2, .int .i64 5, .int .i64 0, .int .i64 3, .int .i64 8, .int .i64 1]

theorem exChs_nil {B : Nat} {w : World} : ChsAt B w (.slice none 0 0) [] := ⟨none, 0, rfl, fun h => absurd rfl h⟩
theorem exChs_at {w : World} {C k : Nat} (hk : k ≤ 1) {e : TypeId} (h : w.heap[C]? = some (.cells exChCells e)) (hC : C < w.heap.size) :
    ChsAt w.heap.size w (.slice (some ⟨C, 0, none⟩) (3 - k) 3) (exChs k) := by
  refine ⟨some ⟨C, 0, none⟩, 3, by obtain rfl | rfl : k = 0 ∨ k = 1 := by omega
                                   all_goals rfl, fun _ => ⟨C, 0, rfl, hC, fun i c hc => ?_⟩⟩
  have hh : ∀ j v, exChCells[j]? = some v → w.cell? ⟨C, j, none⟩ = some v := fun j v hv => by simp [World.cell?, h, hv]
  obtain rfl | rfl : k = 0 ∨ k = 1 := by omega
  · rcases i with _ | _ | _ | i
    · cases hc; exact ⟨hh _ _ rfl, hh _ _ rfl, hh _ _ rfl⟩
    · cases hc; exact ⟨hh _ _ rfl, hh _ _ rfl, hh _ _ rfl⟩
    · cases hc; exact ⟨hh _ _ rfl, hh _ _ rfl, hh _ _ rfl⟩
    · simp [exChs] at hc
  · rcases i with _ | _ | i
    · cases hc; exact ⟨hh _ _ rfl, hh _ _ rfl, hh _ _ rfl⟩
    · cases hc; exact ⟨hh _ _ rfl, hh _ _ rfl, hh _ _ rfl⟩
    · simp [exChs] at hc

theorem exBook_at {w : World} {C G k : Nat} (hk : k ≤ 1) {e f : TypeId} (h : w.heap[C]? = some (.cells exChCells e)) (hC : C < w.heap.size)
    (hg : w.heap[G]? = some (.cells (exCells (.slice (some ⟨C, 0, none⟩) (3 - k) 3)) f)) (hG : G < w.heap.size) :
    BookAt w.heap.size w (.agg #[.int .i64 4, .slice (some ⟨G, 0, none⟩) 6 6]) (exBook k) := by
  refine ⟨_, rfl, some ⟨G, 0, none⟩, 6, rfl, fun _ => ⟨G, 0, rfl, hG, fun i g hi => ?_⟩⟩
  have hh : ∀ j v, (exCells (.slice (some ⟨C, 0, none⟩) (3 - k) 3))[j]? = some v → w.cell? ⟨G, j, none⟩ = some v := fun j v hv => by simp [World.cell?, hg, hv]
  rcases i with _ | _ | _ | _ | _ | _ | i
  · cases hi; exact ⟨_, exChs_nil, hh _ _ rfl, hh _ _ rfl, hh _ _ rfl, hh _ _ rfl⟩
  · cases hi; exact ⟨_, exChs_nil, hh _ _ rfl, hh _ _ rfl, hh _ _ rfl, hh _ _ rfl⟩
  · cases hi; exact ⟨_, exChs_nil, hh _ _ rfl, hh _ _ rfl, hh _ _ rfl, hh _ _ rfl⟩
  · cases hi; exact ⟨_, exChs_nil, hh _ _ rfl, hh _ _ rfl, hh _ _ rfl, hh _ _ rfl⟩
  · cases hi; exact ⟨_, exChs_at hk h hC, hh _ _ rfl, hh _ _ rfl, hh _ _ rfl, hh _ _ rfl⟩
  · cases hi; exact ⟨_, exChs_nil, hh _ _ rfl, hh _ _ rfl, hh _ _ rfl, hh _ _ rfl⟩
  · simp [exBook] at hi

end Go.Proofs.YtimdmgkegdlafaaGreatDoor

/- Contract of Read. -/
namespace Go.Proofs.YtimdmgkegdlafaaGreatDoor
set_option linter.unusedSimpArgs false
set_option linter.unusedVariables false
open Go Go.RowKit Go.Sort Go.BigFrame

/-- What Read hands back. -/
def ReadR (r : Bk × Int) (w : World) (e : Ending) (w' : World) : Prop :=
  (∃ v, e = .returned (.tuple #[v, .int .i64 r.2]) ∧ BookIn w.heap.size w' v r.1) ∧ Below w.heap.size w w'

theorem BookIn.none (lo : Nat) (W : World) : BookIn lo W (.agg #[.int .i64 0, .slice none 0 0]) ⟨0, []⟩ := ⟨_, rfl, [], rfl, World.ownsRow_nil _ _ _ _, fun z hz => (by cases hz)⟩
theorem checkR_eq' (b : Bk) : checkR b = .tuple #[.int .i64 (checkF b).1, .int .i64 (checkF b).2.1, .int .i64 (errF b)] := rfl
theorem BookIn.only {lo : Nat} {W W' : World} {v : Value} {b : Bk} {X : Nat → Prop} (h : BookIn lo W v b) (ho : OnlyIn X W W') (hX : ∀ k, X k → k < lo) : BookIn lo W' v b := by
  obtain ⟨sv, he, hg⟩ := h
  exact ⟨sv, he, hg.only ho hX⟩
theorem BookIn.mono {lo lo' : Nat} {W : World} {v : Value} {b : Bk} (h : BookIn lo W v b) (hl : lo' ≤ lo) : BookIn lo' W v b := by
  obtain ⟨sv, he, hg⟩ := h
  exact ⟨sv, he, hg.mono hl⟩
theorem BookIn.shape {lo : Nat} {W : World} {v : Value} {b : Bk} (h : BookIn lo W v b) : ∃ a n c, v = .agg #[.int .i64 b.signed, .slice a n c] := by
  obtain ⟨sv, rfl, zs, -, hrow, -⟩ := h
  rcases hrow.2 with ⟨rfl, -⟩ | ⟨g', cap, cur, rfl, -⟩
  · exact ⟨_, _, _, rfl⟩
  · exact ⟨_, _, _, rfl⟩

set_option maxRecDepth 100000 in
set_option maxHeartbeats 4000000 in
theorem Read_any (s : Bs) (w : World) (hs : s.length ≤ 9223372036854775807) :
    Calls Tryz.prog 9 #[S s] w (ReadR (readF s) w) := by
  by_cases h1 : 1000 < s.length
  · have hF : Hid (readF s = (⟨0, []⟩, 3)) := by show _ = _; simp [readF, h1]
    have hz : (1000 : Int) < (s.length : Int) := by omega
    go_enter Tryz.func9, Tryz.ntmps9
    go_wp2_with fail
    refine bodyPost_ret (v := .tuple #[.agg #[.int .i64 0, .slice none 0 0], .int .i64 3]) (by simp [results, Tryz.results9, go_sem]) rfl ?_
    rw [hF.out]
    exact ⟨⟨_, rfl, BookIn.none _ _⟩, (by repeat (first | exact Below.refl _ _ | assumption | (refine Below.alloc ?_ ?_ _; rotate_left; · (first | omega | (simp; done) | (simp; omega) | fail)) | (refine Below.setCell ?_ ?_ _; rotate_left; · (first | omega | (simp; done) | (simp; omega) | fail)) | refine Below.drew ?_ | fail))⟩
  · have hz : ¬ (1000 : Int) < (s.length : Int) := by omega
    have hsl : s.length ≤ 1000 := by omega
    obtain ⟨w1, hw1⟩ : ∃ w1, w1 = w.alloc (.cells #[.int .i64 0, .slice none 0 0] 24) := ⟨_, rfl⟩
    have p1 : w1.heap[w.heap.size]? = some (.cells #[.int .i64 0, .slice none 0 0] 24) := by rw [hw1]; exact (by repeat (first | exact heap_alloc_at _ _ _ (by (first | omega | (simp; done) | (simp; omega) | fail)) | (refine (heap_alloc_past _ _ _ ?_).trans ?_; · (first | omega | (simp; done) | (simp; omega) | fail)) | fail))
    have hb1 : Below w.heap.size w w1 := by rw [hw1]; exact (by repeat (first | exact Below.refl _ _ | assumption | (refine Below.alloc ?_ ?_ _; rotate_left; · (first | omega | (simp; done) | (simp; omega) | fail)) | (refine Below.setCell ?_ ?_ _; rotate_left; · (first | omega | (simp; done) | (simp; omega) | fail)) | refine Below.drew ?_ | fail))
    have HP := Lib.hid p1
    have HB := Lib.hid hb1
    have hz1 := blk_lt p1
    have HR : Hid (readF s = match allF (bookF s) with | none => (⟨0, []⟩, 6) | some b => if errF b = 0 then (b, 0) else (⟨0, []⟩, 6)) := by show _ = _; unfold readF; rw [if_neg h1]; cases allF (bookF s) <;> rfl
    go_enter Tryz.func9, Tryz.ntmps9
    go_wp2_with fail
    rw [← hw1]
    clear hw1 p1 hb1 h1
    refine (parseB_any s _ hsl).mono ?_
    intro e w2 hp
    cases hl : allF (bookF s) with
    | none =>
      rw [hl] at hp
      obtain ⟨rfl, hb⟩ := hp
      have hF : Hid (readF s = (⟨0, []⟩, 6)) := by show _ = _; rw [HR.out, hl]
      have HP2 := Lib.hid (blk_later hb HP.out)
      have HB2 := Lib.hid (HB.out.trans (hb.mono (by omega)))
      have c0 := blk_cell HP2.out 0; have c1 := blk_cell HP2.out 1
      have f0 := blk_free HP2.out 0; have f1 := blk_free HP2.out 1
      have hz2 := blk_lt HP2.out
      clear hb hl
      go_wp2_with fail
      refine bodyPost_ret (v := .tuple #[.agg #[.int .i64 0, .slice none 0 0], .int .i64 6]) (by simp [results, Tryz.results9, go_sem, c0, c1, hz2, World.cell?_alloc_past]) rfl ?_
      rw [hF.out]
      exact ⟨⟨_, rfl, BookIn.none _ _⟩, (by repeat (first | (refine Below.setCell ?_ ?_ _; rotate_left; · (first | omega | (simp; done) | (simp; omega) | fail)) | (refine Below.alloc ?_ ?_ _; rotate_left; · (first | omega | (simp; done) | (simp; omega) | fail)) | refine Below.drew ?_ | exact HB2.out | fail))⟩
    | some b =>
      rw [hl] at hp
      obtain ⟨⟨v, rfl, hv⟩, hb⟩ := hp
      have HV := Lib.hid hv
      obtain ⟨a, n, c, rfl⟩ := hv.shape
      have HR2 : Hid (readF s = if errF b = 0 then (b, 0) else (⟨0, []⟩, 6)) := by show _ = _; rw [HR.out, hl]
      have HP2 := Lib.hid (blk_later hb HP.out)
      have HB2 := Lib.hid (HB.out.trans (hb.mono (by omega)))
      have hz2 := blk_lt HP2.out
      clear hb hl hv
      go_wp2_with fail
      have HA := Lib.hid (HV.out.only (OnlyIn.alloc (fun _ => False) w2 (.cells #[.int .i64 b.signed, .slice a n c] 24)) (fun _ h => h.elim)).at_
      refine (Check_any b _ _ HA.out).mono ?_
      rintro e w3 ⟨rfl, hb⟩
      rw [checkR_eq']
      have HB3 := Lib.hid (Below.trans (show Below w.heap.size w (w2.alloc (.cells #[.int .i64 b.signed, .slice a n c] 24)) from (by repeat (first | (refine Below.setCell ?_ ?_ _; rotate_left; · (first | omega | (simp; done) | (simp; omega) | fail)) | (refine Below.alloc ?_ ?_ _; rotate_left; · (first | omega | (simp; done) | (simp; omega) | fail)) | refine Below.drew ?_ | exact HB2.out | fail))) (hb.mono (by simp; omega)))
      have HP3 := Lib.hid (blk_later hb (show (w2.alloc (.cells #[.int .i64 b.signed, .slice a n c] 24)).heap[w.heap.size]? = _ from (by repeat (first | (refine (heap_setCell_past _ _ _ _ ?_).trans ?_; · (first | omega | (simp; done) | (simp; omega) | fail)) | (refine (heap_alloc_past _ _ _ ?_).trans ?_; · (first | omega | (simp; done) | (simp; omega) | fail)) | exact HP2.out | fail))))
      have hq := blk_later hb (show (w2.alloc (.cells #[.int .i64 b.signed, .slice a n c] 24)).heap[w2.heap.size]? = some (.cells #[.int .i64 b.signed, .slice a n c] 24) from (by repeat (first | exact heap_alloc_at _ _ _ (by (first | omega | (simp; done) | (simp; omega) | fail)) | (refine (heap_alloc_past _ _ _ ?_).trans ?_; · (first | omega | (simp; done) | (simp; omega) | fail)) | fail)))
      have HV3 := Lib.hid ((HV.out.only (OnlyIn.alloc (fun _ => False) w2 (.cells #[.int .i64 b.signed, .slice a n c] 24)) (fun _ h => h.elim)).only (OnlyIn.of_below (X := fun _ => False) hb) (fun _ h => h.elim))
      have c0 := blk_cell HP3.out 0; have c1 := blk_cell HP3.out 1
      have f0 := blk_free HP3.out 0; have f1 := blk_free HP3.out 1
      have q0 := blk_cell hq 0; have q1 := blk_cell hq 1
      have hz3 := blk_lt HP3.out
      have HQ := Lib.hid hq
      clear hb hq
      by_cases he : errF b = 0
      · have hF : Hid (readF s = (b, 0)) := by show _ = _; rw [HR2.out, if_pos he]
        go_wp2_with fail
        refine bodyPost_ret (v := .tuple #[.agg #[.int .i64 b.signed, .slice a n c], .int .i64 0]) (by simp [results, Tryz.results9, go_sem, c0, c1]) rfl ?_
        rw [hF.out]
        refine ⟨⟨_, rfl, ?_⟩, (by repeat (first | (refine Below.setCell ?_ ?_ _; rotate_left; · (first | omega | (simp; done) | (simp; omega) | fail)) | (refine Below.alloc ?_ ?_ _; rotate_left; · (first | omega | (simp; done) | (simp; omega) | fail)) | refine Below.drew ?_ | exact HB3.out | fail))⟩
        exact ((HV3.out.only ((OnlyIn.setCell (X := fun k => k = w.heap.size) w3 ⟨w.heap.size, 0, none⟩ (.int .i64 b.signed) rfl).trans (OnlyIn.setCell _ ⟨w.heap.size, 1, none⟩ (.slice a n c) rfl)) (fun k h => by omega)).mono (by omega))
      · have hne : (errF b != 0) = true := by simp [he]
        have hF : Hid (readF s = (⟨0, []⟩, 6)) := by show _ = _; rw [HR2.out, if_neg he]
        clear he
        go_wp2_with fail
        refine bodyPost_ret (v := .tuple #[.agg #[.int .i64 0, .slice none 0 0], .int .i64 6]) (by simp [results, Tryz.results9, go_sem, c0, c1]) rfl ?_
        rw [hF.out]
        exact ⟨⟨_, rfl, BookIn.none _ _⟩, (by repeat (first | (refine Below.setCell ?_ ?_ _; rotate_left; · (first | omega | (simp; done) | (simp; omega) | fail)) | (refine Below.alloc ?_ ?_ _; rotate_left; · (first | omega | (simp; done) | (simp; omega) | fail)) | refine Below.drew ?_ | exact HB3.out | fail))⟩

end Go.Proofs.YtimdmgkegdlafaaGreatDoor
