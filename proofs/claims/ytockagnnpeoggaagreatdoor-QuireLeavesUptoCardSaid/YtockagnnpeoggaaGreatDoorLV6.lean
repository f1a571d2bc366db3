/- The parts Qg, Shelf, Hs of the proof, joined. It holds without conditions of its own. -/
import Derived.Test.YtockagnnpeoggaaGreatDoorLV5
import Derived.Shelf.Strings.Builder1
import Derived.Shelf.Strings.Builder2
import Derived.Shelf.Strings.OnBuilder
import Derived.Shelf.Small.Wraps
import Derived.Shelf.Strconv.Itoa0
import Derived.Shelf.Strconv.Itoa1
import Derived.Shelf.LaysM
import Derived.Shelf.Strconv.Itoa2
import Derived.Shelf.Strconv.Itoa3
import Derived.Shelf.Strings.Prefix
import Derived.Test.YtockagnnpeoggaaGreatDoorProg
import Derived.Test.YtockagnnpeoggaaGreatDoorLV2
import Derived.Deep.RegionWith
import Derived.BigRegion
import Derived.Lib.QuietBelow
import Derived.StillTailTactics
/- Contracts of package quire: the gatherings of a book; Check; open. -/
namespace Go.Proofs.YtockagnnpeoggaaGreatDoor
set_option linter.unusedSimpArgs false
set_option linter.unusedVariables false
open Go Go.RowKit Go.Sort Go.BigFrame

/-- ONE GATHERING: its error; without one it is taken among those that were met. -/
theorem check_any (i : Int) (g : Gth) (cv : Value) (bE b : Nat) (seen : List (Int × Int)) (last : Int × Int) (w : World) (hE : EarlierAt w bE b seen last) (B : Nat) (hBE : B ≤ bE) (hBb : B ≤ b) (hch : ChsAt B w cv g.chs) :
    Calls Tryz.prog 94 #[.pointer (some ⟨bE, 0, none⟩), .int .i64 i, .agg #[.int .i64 g.round, .int .i64 g.letter, .int .i64 g.leaves, cv]] w fun e w' => e = .returned (.int .i64 (gthErr seen last g)) ∧ OnlyIn (Ebs bE b) w w' ∧ (gthErr seen last g = 0 → EarlierAt w' bE b (seen ++ [(g.round, g.letter)]) (lastOf last g)) := by
  have hch' := hch
  obtain ⟨a, cap, hcv, hcell⟩ := hch
  have bad : ∀ v : Int, v ≠ 0 → gthErr seen last g = v → Calls Tryz.prog 94 #[.pointer (some ⟨bE, 0, none⟩), .int .i64 i, .agg #[.int .i64 g.round, .int .i64 g.letter, .int .i64 g.leaves, cv]] w (fun e w' => e = .returned (.int .i64 v) ∧ Below w.heap.size w w') →
      Calls Tryz.prog 94 #[.pointer (some ⟨bE, 0, none⟩), .int .i64 i, .agg #[.int .i64 g.round, .int .i64 g.letter, .int .i64 g.leaves, cv]] w fun e w' => e = .returned (.int .i64 (gthErr seen last g)) ∧ OnlyIn (Ebs bE b) w w' ∧ (gthErr seen last g = 0 → EarlierAt w' bE b (seen ++ [(g.round, g.letter)]) (lastOf last g)) := fun v hv he h => by
    rw [he]; exact h.mono fun e w' ⟨h1, h2⟩ => ⟨h1, OnlyIn.of_below h2, fun h0 => absurd h0 hv⟩
  cases hs : sigB g.round g.letter
  · exact bad 7 (by decide) (by simp [gthErr, hs]) (check_sig i g cv a _ cap hcv bE w hs)
  by_cases hm : (g.round, g.letter) ∈ seen
  · exact bad 5 (by decide) (by simp [gthErr, hs, hm]) (check_twice i g cv a _ cap hcv bE b seen last w hE hs hm)
  by_cases hl : g.letter < 23
  · have hd : decide (g.letter < 23) = true := decide_eq_true hl
    have hlo : lastOf last g = (g.round, g.letter) := by simp [lastOf, hl]
    cases hbh : behindB g.round g.letter last.1 last.2
    · exact bad 2 (by decide) (by simp [gthErr, hs, hm, hl, hbh]) (check_order i g cv a _ cap hcv bE b seen last w hE hs hm hd hbh)
    cases hf : foldedB g.leaves
    · exact bad 7 (by decide) (by simp [gthErr, hs, hm, hbh, hf]) (check_foldL i g cv a _ cap hcv bE b seen last w hE hs hm hd hbh hf)
    by_cases h4 : 4 < g.chs.length
    · exact bad 3 (by decide) (by simp [gthErr, hs, hm, hbh, hf, h4]) (check_longL i g cv a _ cap hcv bE b seen last w hE hs hm hd hbh hf h4)
    have he : gthErr seen last g = (chsErr g.leaves none 0 g.chs).2 := by simp [gthErr, hs, hm, hbh, hf, h4]
    rw [he, hlo]
    exact (check_okL i g cv a _ cap hcv bE b seen last w hE hs hm hd hbh hf rfl (by omega) B hBE hBb hch').mono fun e w' ⟨h1, h2, h3⟩ => ⟨h1, h2, fun _ => h3⟩
  · have hd : decide (g.letter < 23) = false := decide_eq_false hl
    have hlo : lastOf last g = last := by simp [lastOf, hl]
    cases hf : foldedB g.leaves
    · exact bad 7 (by decide) (by simp [gthErr, hs, hm, hl, hf]) (check_foldN i g cv a _ cap hcv bE b seen last w hE hs hm hd hf)
    by_cases h4 : 4 < g.chs.length
    · exact bad 3 (by decide) (by simp [gthErr, hs, hm, hl, hf, h4]) (check_longN i g cv a _ cap hcv bE b seen last w hE hs hm hd hf h4)
    have he : gthErr seen last g = (chsErr g.leaves none 0 g.chs).2 := by simp [gthErr, hs, hm, hl, hf, h4]
    rw [he, hlo]
    exact (check_okN i g cv a _ cap hcv bE b seen last w hE hs hm hd hf rfl (by omega) B hBE hBb hch').mono fun e w' ⟨h1, h2, h3⟩ => ⟨h1, h2, fun _ => h3⟩

theorem gsErr_step {gs : List Gth} {seen : List (Int × Int)} {last : Int × Int} {k : Nat} {g : Gth} (hk : gs[k]? = some g) (h0 : gthErr seen last g = 0) :
    gsErr seen last k (gs.drop k) = gsErr (seen ++ [(g.round, g.letter)]) (lastOf last g) (k + 1) (gs.drop (k + 1)) := by
  have hl := (List.getElem?_eq_some_iff.1 hk).1
  have e : gs.drop k = g :: gs.drop (k + 1) := by
    rw [List.drop_eq_getElem_cons hl]; congr 1; exact Option.some.inj ((List.getElem?_eq_getElem hl).symm.trans hk)
  rw [e, gsErr, if_pos h0]
theorem gsErr_stop {gs : List Gth} {seen : List (Int × Int)} {last : Int × Int} {k : Nat} {g : Gth} (hk : gs[k]? = some g) (h0 : gthErr seen last g ≠ 0) :
    gsErr seen last k (gs.drop k) = (k, gthErr seen last g) := by
  have hl := (List.getElem?_eq_some_iff.1 hk).1
  have e : gs.drop k = g :: gs.drop (k + 1) := by
    rw [List.drop_eq_getElem_cons hl]; congr 1; exact Option.some.inj ((List.getElem?_eq_getElem hl).symm.trans hk)
  rw [e, gsErr, if_neg h0]

/-- The cells of the k-th gathering, in a later world. -/
theorem gs_cells {B : Nat} {w wr : World} {b' off : Nat} {gs : List Gth} {X : Nat → Prop} (hb : b' < B) (hB : B ≤ w.heap.size) (ho : OnlyIn X w wr) (hX : ∀ k, X k → B ≤ k)
    (hcell : ∀ i g, gs[i]? = some g → ∃ cv, ChsAt B w cv g.chs ∧ w.cell? ⟨b', off + i * 4, none⟩ = some (.int .i64 g.round) ∧ w.cell? ⟨b', off + i * 4 + 1, none⟩ = some (.int .i64 g.letter) ∧
      w.cell? ⟨b', off + i * 4 + 2, none⟩ = some (.int .i64 g.leaves) ∧ w.cell? ⟨b', off + i * 4 + 3, none⟩ = some cv) {i : Nat} {g : Gth} (hi : gs[i]? = some g) :
    ∃ a n cap, ChsAt B wr (.slice a n cap) g.chs ∧ wr.cell? ⟨b', off + i * 4, none⟩ = some (.int .i64 g.round) ∧ wr.cell? ⟨b', off + i * 4 + 1, none⟩ = some (.int .i64 g.letter) ∧
      wr.cell? ⟨b', off + i * 4 + 2, none⟩ = some (.int .i64 g.leaves) ∧ wr.cell? ⟨b', off + i * 4 + 3, none⟩ = some (.slice a n cap) := by
  have hs : ∀ k, k < B → wr.heap[k]? = w.heap[k]? := fun k hk => ho.block k (by omega) (fun h => by have := hX k h; omega)
  obtain ⟨cv, h1, h2, h3, h4, h5⟩ := hcell i g hi
  have h1' := h1
  obtain ⟨a, cap, rfl, _⟩ := h1'
  exact ⟨a, _, cap, h1.same hs, (cell_same hs hb _).trans h2, (cell_same hs hb _).trans h3, (cell_same hs hb _).trans h4, (cell_same hs hb _).trans h5⟩

set_option maxRecDepth 100000 in
set_option maxHeartbeats 400000 in
theorem firstErrorG_some (n cap : Nat) (gs : List Gth) (b' off bE b : Nat) (w : World) (hn : gs.length = n) (hn' : n ≤ 100) (hE : EarlierAt w bE b [] (0, 0)) (B : Nat) (hBE : B ≤ bE) (hBb : B ≤ b) (hb' : b' < B)
    (hcell : ∀ i g, gs[i]? = some g → ∃ cv, ChsAt B w cv g.chs ∧ w.cell? ⟨b', off + i * 4, none⟩ = some (.int .i64 g.round) ∧ w.cell? ⟨b', off + i * 4 + 1, none⟩ = some (.int .i64 g.letter) ∧
      w.cell? ⟨b', off + i * 4 + 2, none⟩ = some (.int .i64 g.leaves) ∧ w.cell? ⟨b', off + i * 4 + 3, none⟩ = some cv) :
    Calls Tryz.prog 93 #[.slice (some ⟨b', off, none⟩) n cap, .func (.func 94) #[.pointer (some ⟨bE, 0, none⟩)] #[]] w fun e w' => e = .returned (.tuple #[.int .i64 (gsErr [] (0, 0) 0 gs).1, .int .i64 (gsErr [] (0, 0) 0 gs).2]) ∧ OnlyIn (Ebs bE b) w w' := by
  have HN := Lib.hid hn
  have HC := Lib.hid hcell
  have HE := Lib.hid hE
  clear hn hcell hE
  have hBw : B ≤ w.heap.size := by have := HE.out.map.lt; omega
  go_enter Tryz.func93, Tryz.ntmps93
  go_wp2
  go_loopw [11] (fun i wr => ∃ (k : Nat) (seen : List (Int × Int)) (last : Int × Int), k ≤ n ∧ i = .int .i64 k ∧ OnlyIn (Ebs bE b) w wr ∧ Hid (EarlierAt wr bE b seen last) ∧ Hid (gsErr [] (0, 0) 0 gs = gsErr seen last k (gs.drop k))) (fun i _ => n - (intOf i).toNat)
  case atStart => exact ⟨0, [], (0, 0), by omega, rfl, OnlyIn.refl _ _, HE, rfl⟩
  case round =>
    obtain ⟨k, seen, last, hk, rfl, ho, hEr, hh⟩ := hrel
    by_cases hlt : k < n
    · obtain ⟨g, hg⟩ : ∃ g, gs[k]? = some g := ⟨gs[k]'(by rw [HN.out]; exact hlt), List.getElem?_eq_getElem _⟩
      obtain ⟨a, m, cc, q0, q1, q2, q3, q4⟩ := gs_cells hb' hBw ho (fun k h => by rcases h with rfl | rfl <;> assumption) HC.out hg
      have HG := Lib.hid hg
      have hba : Below wr.heap.size wr (wr.alloc (Obj.cells #[.int .i64 g.round, .int .i64 g.letter, .int .i64 g.leaves, .slice a m cc] 57)) := (Below.refl _ _).alloc (Nat.le_refl _) _
      have hC := check_any k g (.slice a m cc) bE b seen last _ (hEr.out.below hba) B hBE hBb (q0.below hba (by have := ho.size; omega))
      have HCc := Lib.hid hC
      have HO := Lib.hid (ho.trans (OnlyIn.of_below hba))
      clear hC hba hg q0
      go_wp2_with fail
      refine HCc.out.mono ?_
      rintro e w1 ⟨rfl, ho1, hE1⟩
      have ho2 := HO.out.trans ho1
      clear HO HCc ho1
      obtain ⟨er, her⟩ : ∃ er, er = gthErr seen last g := ⟨_, rfl⟩
      rw [← her] at hE1 ⊢
      have HE1 := Lib.hid hE1
      have HR := Lib.hid her
      clear her hE1 q1 q2 q3 q4 ho hEr
      by_cases h0 : er = 0
      · subst h0
        go_wp2_with fail
        go_roundw
        case rel => exact ⟨k + 1, _, _, by omega, by go_num, ho2, HE1.out trivial, hh.out.trans (gsErr_step HG.out HR.out.symm)⟩
        case measure => simp [intOf]; omega
      · have h0b : (er != 0) = true := by simp [h0]
        have HF : Hid (gsErr [] (0, 0) 0 gs = (k, er)) := by
          have := hh.out.trans (gsErr_stop HG.out (fun h => h0 (HR.out.trans h)))
          rw [← HR.out] at this; exact this
        clear h0 HR hh HE1
        go_wp2_with fail
        go_ret2
        exact ⟨by rw [HF.out]; rfl, ho2⟩
    · have HF : Hid (gsErr [] (0, 0) 0 gs = (0, 0)) := by
        have := hh.out
        rw [List.drop_of_length_le (by rw [HN.out]; omega)] at this; exact this
      go_wp2_with fail
      go_ret2
      exact ⟨by rw [HF.out]; rfl, ho⟩

theorem EarlierAt.start (w : World) (m : Nat) (hm : w.heap.size = m) : EarlierAt ((w.alloc (.map #[] 0)).alloc (.cells #[.map (some m), .int .i64 0, .int .i64 0] 139)) (m + 1) m [] (0, 0) := by
  subst hm
  have hz : (w.alloc (.map #[] 0)).heap.size = w.heap.size + 1 := by simp
  have hn := World.alloc_heap_new (w.alloc (.map #[] 0)) (.cells #[.map (some w.heap.size), .int .i64 0, .int .i64 0] 139)
  rw [hz] at hn
  refine ⟨?_, ?_, ?_, ?_, ?_, ?_, by omega⟩
  · rw [World.cell?_alloc_at _ _ _ _ hz.symm]; rfl
  · rw [World.cell?_alloc_at _ _ _ _ hz.symm]; rfl
  · rw [World.cell?_alloc_at _ _ _ _ hz.symm]; rfl
  · simp only [World.frozen?, hn]; rfl
  · simp only [World.frozen?, hn]; rfl
  · exact (SigMap.made w).keep (Below.heap_alloc _ _ _ (by simp))

/-- A book as Check hands back of it: part, index, error. -/
def checkR (b : Bk) : Value := .tuple #[.int .i64 (checkF b).1, .int .i64 (checkF b).2.1, .int .i64 (checkF b).2.2]

set_option maxRecDepth 100000 in
set_option maxHeartbeats 400000 in
theorem Check_signed (s : Int) (a : Option Addr) (n cap : Nat) (w : World) (h : inB 0 12 s = false) :
    Calls Tryz.prog 60 #[.agg #[.int .i64 s, .slice a n cap]] w fun e w' => e = .returned (.tuple #[.int .i64 1, .int .i64 0, .int .i64 7]) ∧ Below w.heap.size w w' := by
  go_enter Tryz.func60, Tryz.ntmps60
  go_wp2_with fail
  refine (within_one _ _ s _ _ (by simp [World.cell?_alloc_at])).mono ?_
  rintro e w1 ⟨rfl, rfl⟩
  rw [h]
  go_wp2_with fail
  go_ret3
  exact ⟨rfl, (by repeat (first | exact Below.refl _ _ | assumption | (refine Below.alloc ?_ ?_ _; rotate_left; · (first | omega | (simp; done) | (simp; omega) | (simp at *; omega) | fail)) | (refine Below.setCell ?_ ?_ _; rotate_left; · (first | omega | (simp; done) | (simp; omega) | (simp at *; omega) | fail)) | refine Below.drew ?_ | fail))⟩

set_option maxRecDepth 100000 in
set_option maxHeartbeats 400000 in
theorem Check_long (s : Int) (a : Option Addr) (n cap : Nat) (w : World) (h : inB 0 12 s = true) (hn : inB 1 30 n = false) :
    Calls Tryz.prog 60 #[.agg #[.int .i64 s, .slice a n cap]] w fun e w' => e = .returned (.tuple #[.int .i64 1, .int .i64 0, .int .i64 3]) ∧ Below w.heap.size w w' := by
  go_enter Tryz.func60, Tryz.ntmps60
  go_wp2_with fail
  refine (within_one _ _ s _ _ (by simp [World.cell?_alloc_at])).mono ?_
  rintro e w1 ⟨rfl, rfl⟩
  rw [h]
  go_wp2_with fail
  refine (within_one _ _ n _ _ (by simp [World.cell?_alloc_at])).mono ?_
  rintro e w1 ⟨rfl, rfl⟩
  rw [hn]
  go_wp2_with fail
  go_ret3
  exact ⟨rfl, (by repeat (first | exact Below.refl _ _ | assumption | (refine Below.alloc ?_ ?_ _; rotate_left; · (first | omega | (simp; done) | (simp; omega) | (simp at *; omega) | fail)) | (refine Below.setCell ?_ ?_ _; rotate_left; · (first | omega | (simp; done) | (simp; omega) | (simp at *; omega) | fail)) | refine Below.drew ?_ | fail))⟩

set_option maxRecDepth 100000 in
set_option maxHeartbeats 400000 in
theorem Check_rest (s : Int) (gs : List Gth) (sv : Value) (a : Option Addr) (n cap : Nat) (hsv : sv = .slice a n cap) (w : World) (hg : GsAt w.heap.size w sv gs) (h : inB 0 12 s = true) (hn : inB 1 30 n = true) :
    Calls Tryz.prog 60 #[.agg #[.int .i64 s, sv]] w fun e w' => e = .returned (checkR ⟨s, gs⟩) ∧ Below w.heap.size w w' := by
  subst hsv
  have HG := Lib.hid hg
  clear hg
  have hmm := @run_makeMap Tryz.prog
  have hmf : ∀ (fn : Fn) (first cap : Array Value) (w : World), (Instr.makeFunc fn first cap).run Tryz.prog w = .ok (.func fn first cap) w := fun _ _ _ _ => rfl
  go_enter Tryz.func60, Tryz.ntmps60
  go_wp2_with fail
  refine (within_one _ _ s _ _ (by simp [World.cell?_alloc_at])).mono ?_
  rintro e w1 ⟨rfl, rfl⟩
  rw [h]
  go_wp2_with fail
  refine (within_one _ _ n _ _ (by simp [World.cell?_alloc_at])).mono ?_
  rintro e w1 ⟨rfl, rfl⟩
  rw [hn]
  go_wp2_with fail
  clear hmm hmf
  have hE := EarlierAt.start (((w.alloc (Obj.cells #[.int .i64 s, .slice a n cap] 24)).alloc (Obj.cells #[.int .i64 s] 3)).alloc (Obj.cells #[.int .i64 n] 3)) (w.heap.size + 1 + 1 + 1) (by simp)
  have hbb : Below w.heap.size w (((((w.alloc (Obj.cells #[.int .i64 s, .slice a n cap] 24)).alloc (Obj.cells #[.int .i64 s] 3)).alloc (Obj.cells #[.int .i64 n] 3)).alloc (Obj.map #[] 0)).alloc (Obj.cells #[.map (some (w.heap.size + 1 + 1 + 1)), .int .i64 0, .int .i64 0] 139)) := (by repeat (first | exact Below.refl _ _ | assumption | (refine Below.alloc ?_ ?_ _; rotate_left; · (first | omega | (simp; done) | (simp; omega) | (simp at *; omega) | fail)) | (refine Below.setCell ?_ ?_ _; rotate_left; · (first | omega | (simp; done) | (simp; omega) | (simp at *; omega) | fail)) | refine Below.drew ?_ | fail))
  revert hE hbb
  generalize ((((w.alloc (Obj.cells #[.int .i64 s, .slice a n cap] 24)).alloc (Obj.cells #[.int .i64 s] 3)).alloc (Obj.cells #[.int .i64 n] 3)).alloc (Obj.map #[] 0)).alloc (Obj.cells #[.map (some (w.heap.size + 1 + 1 + 1)), .int .i64 0, .int .i64 0] 139) = w5
  intro hE hbb
  have hg := HG.out.below hbb (Nat.le_refl _)
  have hle : 1 ≤ n ∧ n ≤ 30 := by simp [inB] at hn; omega
  obtain ⟨a', cap', hav, hcell⟩ := hg
  simp only [Value.slice.injEq] at hav
  obtain ⟨rfl, hlen, rfl⟩ := hav
  obtain ⟨b', off, rfl, hb', hcell⟩ := hcell (fun e => by rw [e] at hlen; simp at hlen; omega)
  refine (firstErrorG_some n cap gs b' off _ _ _ hlen.symm (by omega) hE w.heap.size (by omega) (by omega) hb' hcell).mono ?_
  rintro e w6 ⟨rfl, ho⟩
  have hb6 : Below w.heap.size w w6 := ho.below hbb hbb.size (fun k h => by rcases h with rfl | rfl <;> omega)
  have HR : Hid (checkR ⟨s, gs⟩ = if (gsErr [] (0, 0) 0 gs).2 = 0 then .tuple #[.int .i64 0, .int .i64 0, .int .i64 0] else .tuple #[.int .i64 2, .int .i64 (gsErr [] (0, 0) 0 gs).1, .int .i64 (gsErr [] (0, 0) 0 gs).2]) := by
    show checkR _ = _
    have h1 : inB 1 30 (gs.length : Int) = true := by rw [← hlen]; exact hn
    unfold checkR checkF
    simp only [h, h1]
    by_cases h0 : (gsErr [] (0, 0) 0 gs).2 = 0 <;> simp [h0]
  clear ho hbb hE hcell HG hlen hn h hle hb'
  generalize gsErr [] (0, 0) 0 gs = r at HR ⊢
  obtain ⟨ri, re⟩ := r
  dsimp only at HR ⊢
  by_cases h0 : re = 0
  · subst h0
    have HR : Hid (checkR ⟨s, gs⟩ = .tuple #[.int .i64 0, .int .i64 0, .int .i64 0]) := HR.out.trans (if_pos rfl)
    go_wp2_with fail
    go_ret3
    exact ⟨by rw [HR.out]; rfl, hb6⟩
  · have h0b : (re != 0) = true := by simp [h0]
    have HR : Hid (checkR ⟨s, gs⟩ = .tuple #[.int .i64 2, .int .i64 ri, .int .i64 re]) := HR.out.trans (if_neg h0)
    clear h0
    go_wp2_with fail
    go_ret3
    exact ⟨by rw [HR.out]; rfl, hb6⟩

/-- CHECK, of any book. -/
theorem Check_any (b : Bk) (v : Value) (w : World) (hb : BookAt w.heap.size w v b) :
    Calls Tryz.prog 60 #[v] w fun e w' => e = .returned (checkR b) ∧ Below w.heap.size w w' := by
  obtain ⟨s, gs⟩ := b
  obtain ⟨sv, rfl, hg⟩ := hb
  have hg' := hg
  obtain ⟨a, cap, rfl, _⟩ := hg'
  cases h : inB 0 12 s
  · have e : checkR ⟨s, gs⟩ = .tuple #[.int .i64 1, .int .i64 0, .int .i64 7] := by simp [checkR, checkF, h]
    rw [e]; exact Check_signed s a _ cap w h
  · cases hn : inB 1 30 (gs.length : Int)
    · have e : checkR ⟨s, gs⟩ = .tuple #[.int .i64 1, .int .i64 0, .int .i64 3] := by simp [checkR, checkF, h, hn]
      rw [e]; exact Check_long s a _ cap w h hn
    · exact Check_rest s gs _ a _ cap rfl w hg h hn

end Go.Proofs.YtockagnnpeoggaaGreatDoor

/-
  DERIVED: THE SHELF's CONTRACTS AT THIS DUMP, IN PLAIN WORDS (tools/lay-plain.mjs out of 'TryzShelf.lean', which tools/lay-shelf.mjs wrote): THE SAME DECLARATIONS UNDER THE SAME NAMES: 'import', 'namespace', 'open', 'def', 'theorem' AND NOTHING ELSE: no command of the shelf's: FOR A HAND-IN. Each laying: the table of numbers ('.._ren') and one theorem, a field a fact of the dump's own or the kernel's comparison; each contract: ONE APPLICATION.
-/
namespace Go.Proofs
open Go.Shelf
def Tryz.lays156_ren : Go.Shelf.Ren := ⟨fun | 156 => 119 | 165 => 126 | 166 => 127 | 169 => 128 | 240 => 134 | 241 => 135 | 276 => 138 | 277 => 139 | n => n, fun | 31 => 84 | 9 => 9 | 3 => 3 | 4 => 4 | 0 => 0 | 20 => 20 | 72 => 184 | 76 => 188 | 70 => 182 | 37 => 49 | 75 => 187 | 127 => 197 | 164 => 199 | 5 => 5 | 80 => 94 | n => n, fun | n => n⟩
theorem Tryz.lays156 : Go.Proofs.Lays.n156 Tryz.prog Tryz.lays156_ren := {
  mixed := by kernel_rfl
  f156 := Tryz.func119.trans (congrArg some (by kernel_rfl))
  f165 := Tryz.func126.trans (congrArg some (by kernel_rfl))
  f166 := Tryz.func127.trans (congrArg some (by kernel_rfl))
  f169 := Tryz.func128.trans (congrArg some (by kernel_rfl))
  f240 := Tryz.func134.trans (congrArg some (by kernel_rfl))
  f241 := Tryz.func135.trans (congrArg some (by kernel_rfl))
  f276 := Tryz.func138.trans (congrArg some (by kernel_rfl))
  f277 := Tryz.func139.trans (congrArg some (by kernel_rfl))
  t0 := Tryz.underlying0
  a0 := Tryz.isAgg0
  z0 := Tryz.sizeOf0
  v0 := Tryz.zeroValue0
  t3 := Tryz.underlying3
  a3 := Tryz.isAgg3
  z3 := Tryz.sizeOf3
  v3 := Tryz.zeroValue3
  t4 := Tryz.underlying4
  a4 := Tryz.isAgg4
  z4 := Tryz.sizeOf4
  v4 := Tryz.zeroValue4
  t9 := Tryz.underlying9
  a9 := Tryz.isAgg9
  z9 := Tryz.sizeOf9
  v9 := Tryz.zeroValue9
  t20 := Tryz.underlying20
  a20 := Tryz.isAgg20
  z20 := Tryz.sizeOf20
  v20 := Tryz.zeroValue20
  t31 := Tryz.underlying84
  a31 := Tryz.isAgg84
  z31 := Tryz.sizeOf84
  v31 := Tryz.zeroValue84
  t37 := Tryz.underlying49
  a37 := Tryz.isAgg49
  z37 := Tryz.sizeOf49
  v37 := Tryz.zeroValue49
  t70 := Tryz.underlying182
  a70 := Tryz.isAgg182
  z70 := Tryz.sizeOf182
  v70 := Tryz.zeroValue182
  t72 := Tryz.underlying184
  a72 := Tryz.isAgg184
  z72 := Tryz.sizeOf184
  v72 := Tryz.zeroValue184
  t75 := Tryz.underlying187
  a75 := Tryz.isAgg187
  z75 := Tryz.sizeOf187
  v75 := Tryz.zeroValue187
  t76 := Tryz.underlying188
  a76 := Tryz.isAgg188
  z76 := Tryz.sizeOf188
  v76 := Tryz.zeroValue188
  t127 := Tryz.underlying197
  a127 := Tryz.isAgg197
  z127 := Tryz.sizeOf197
  v127 := Tryz.zeroValue197
  t164 := Tryz.underlying199
  a164 := Tryz.isAgg199
  z164 := Tryz.sizeOf199
  v164 := Tryz.zeroValue199 }
theorem Tryz.Builder_Extra_156 : Builder.Extra Tryz.prog Tryz.lays156_ren := {
  sizeBuilder := by kernel_rfl
  liesBuilder := by kernel_rfl
  t5 := Tryz.underlying5
  a5 := Tryz.isAgg5
  z5 := Tryz.sizeOf5
  v5 := Tryz.zeroValue5
  infoByte := by kernel_rfl
  cellsByte := by kernel_rfl
  sizeByte := by kernel_rfl
  neB5 := by decide }
open Go.RowKit in
/-- No element: the empty string; the world is as it was. (Whatever the slice's address and capacity: a nil slice too.) (LAID: no walk: one application.) -/
theorem Tryz.strings_Join_none (a : Option Addr) (c : Nat) (sep : ByteArray) (w : World) :
    Calls Tryz.prog 119 #[.slice a 0 c, .string sep] w fun e w' => e = .returned (.string ⟨#[]⟩) ∧ w' = w := Any.strings_Join_none Tryz.lays156 Tryz.Builder_Extra_156 a c sep w
open Go.RowKit in
/-- strings.Join: "Join concatenates the elements of its first argument to create a single string. The separator string sep is placed between elements in the resulting string.": HOWEVER MANY ELEMENTS. Below the heap's end the world is as it was. (LAID: no walk: one application.) -/
theorem Tryz.strings_Join (bk o c : Nat) (xs : List ByteArray) (sep : ByteArray) (w : World) (hcells : ∀ (j : Nat) x, xs[j]? = some x → w.cell? ⟨bk, o + j, none⟩ = some (.string x)) (hbk : bk < w.heap.size) (hN : xs.length ≤ 140737488355328) (hcap : xs.length ≤ c) (hlen : (Lib.join (xs.map (·.data.toList)) sep.data.toList).length ≤ 140737488355328) :
    Calls Tryz.prog 119 #[.slice (some ⟨bk, o, none⟩) xs.length c, .string sep] w fun e w' => e = .returned (.string ⟨(Lib.join (xs.map (·.data.toList)) sep.data.toList).toArray⟩) ∧ Below w.heap.size w w' := Any.strings_Join Tryz.lays156 Tryz.Builder_Extra_156 bk o c xs sep w hcells hbk hN hcap hlen
def Tryz.lays103_ren : Go.Shelf.Ren := ⟨fun | 103 => 106 | 210 => 118 | 206 => 125 | n => n, fun | 9 => 9 | 4 => 4 | 24 => 151 | 3 => 3 | n => n, fun | n => n⟩
theorem Tryz.lays103 : Go.Proofs.Lays.n103 Tryz.prog Tryz.lays103_ren := {
  mixed := by kernel_rfl
  f103 := Tryz.func106.trans (congrArg some (by kernel_rfl))
  f206 := Tryz.func125.trans (congrArg some (by kernel_rfl))
  f210 := Tryz.func118.trans (congrArg some (by kernel_rfl))
  t3 := Tryz.underlying3
  a3 := Tryz.isAgg3
  z3 := Tryz.sizeOf3
  v3 := Tryz.zeroValue3
  t4 := Tryz.underlying4
  a4 := Tryz.isAgg4
  z4 := Tryz.sizeOf4
  v4 := Tryz.zeroValue4
  t9 := Tryz.underlying9
  a9 := Tryz.isAgg9
  z9 := Tryz.sizeOf9
  v9 := Tryz.zeroValue9
  t24 := Tryz.underlying151
  a24 := Tryz.isAgg151
  z24 := Tryz.sizeOf151
  v24 := Tryz.zeroValue151 }
open Go.RowKit in
/-- strings.CutPrefix: "CutPrefix returns s without the provided leading prefix string and reports whether it found the prefix. If s doesn't start with prefix, CutPrefix returns s, false. If prefix is the empty string, CutPrefix returns s, true.": IT RETURNS '(Lib.trimPrefix s p, Lib.hasPrefix s p)'; the world is as it was. (LAID: no walk: one application.) -/
theorem Tryz.strings_CutPrefix (s p : ByteArray) (w : World) :
    Calls Tryz.prog 106 #[.string s, .string p] w fun e w' => e = .returned (.tuple #[.string ⟨(Lib.trimPrefix s.data.toList p.data.toList).toArray⟩, .bool (Lib.hasPrefix s.data.toList p.data.toList)]) ∧ w' = w := Any.strings_CutPrefix Tryz.lays103 s p w
def Tryz.lays171_ren : Go.Shelf.Ren := ⟨fun | 171 => 77 | 243 => 103 | 246 => 117 | 283 => 121 | 284 => 122 | 285 => 123 | 286 => 124 | 129 => 130 | 317 => 129 | 318 => 131 | 319 => 132 | 320 => 133 | 337 => 136 | 338 => 137 | n => n, fun | 3 => 3 | 9 => 9 | 2 => 2 | 4 => 4 | 171 => 175 | 0 => 0 | 53 => 176 | 37 => 49 | 5 => 5 | 173 => 179 | 212 => 192 | 51 => 193 | 20 => 20 | 213 => 194 | 46 => 195 | 232 => 202 | 233 => 203 | n => n, fun | 17 => 0 | 18 => 1 | 19 => 2 | n => n⟩
theorem Tryz.lays171 : Go.Proofs.Lays.n171 Tryz.prog Tryz.lays171_ren := {
  mixed := by kernel_rfl
  f129 := Tryz.func130.trans (congrArg some (by kernel_rfl))
  f171 := Tryz.func77.trans (congrArg some (by kernel_rfl))
  f243 := Tryz.func103.trans (congrArg some (by kernel_rfl))
  f246 := Tryz.func117.trans (congrArg some (by kernel_rfl))
  f283 := Tryz.func121.trans (congrArg some (by kernel_rfl))
  f284 := Tryz.func122.trans (congrArg some (by kernel_rfl))
  f285 := Tryz.func123.trans (congrArg some (by kernel_rfl))
  f286 := Tryz.func124.trans (congrArg some (by kernel_rfl))
  f317 := Tryz.func129.trans (congrArg some (by kernel_rfl))
  f318 := Tryz.func131.trans (congrArg some (by kernel_rfl))
  f319 := Tryz.func132.trans (congrArg some (by kernel_rfl))
  f320 := Tryz.func133.trans (congrArg some (by kernel_rfl))
  f337 := Tryz.func136.trans (congrArg some (by kernel_rfl))
  f338 := Tryz.func137.trans (congrArg some (by kernel_rfl))
  t0 := Tryz.underlying0
  a0 := Tryz.isAgg0
  z0 := Tryz.sizeOf0
  v0 := Tryz.zeroValue0
  t2 := Tryz.underlying2
  a2 := Tryz.isAgg2
  z2 := Tryz.sizeOf2
  v2 := Tryz.zeroValue2
  t3 := Tryz.underlying3
  a3 := Tryz.isAgg3
  z3 := Tryz.sizeOf3
  v3 := Tryz.zeroValue3
  t4 := Tryz.underlying4
  a4 := Tryz.isAgg4
  z4 := Tryz.sizeOf4
  v4 := Tryz.zeroValue4
  t5 := Tryz.underlying5
  a5 := Tryz.isAgg5
  z5 := Tryz.sizeOf5
  v5 := Tryz.zeroValue5
  t9 := Tryz.underlying9
  a9 := Tryz.isAgg9
  z9 := Tryz.sizeOf9
  v9 := Tryz.zeroValue9
  t20 := Tryz.underlying20
  a20 := Tryz.isAgg20
  z20 := Tryz.sizeOf20
  v20 := Tryz.zeroValue20
  t37 := Tryz.underlying49
  a37 := Tryz.isAgg49
  z37 := Tryz.sizeOf49
  v37 := Tryz.zeroValue49
  t46 := Tryz.underlying195
  a46 := Tryz.isAgg195
  z46 := Tryz.sizeOf195
  v46 := Tryz.zeroValue195
  t51 := Tryz.underlying193
  a51 := Tryz.isAgg193
  z51 := Tryz.sizeOf193
  v51 := Tryz.zeroValue193
  t53 := Tryz.underlying176
  a53 := Tryz.isAgg176
  z53 := Tryz.sizeOf176
  v53 := Tryz.zeroValue176
  t171 := Tryz.underlying175
  a171 := Tryz.isAgg175
  z171 := Tryz.sizeOf175
  v171 := Tryz.zeroValue175
  t173 := Tryz.underlying179
  a173 := Tryz.isAgg179
  z173 := Tryz.sizeOf179
  v173 := Tryz.zeroValue179
  t212 := Tryz.underlying192
  a212 := Tryz.isAgg192
  z212 := Tryz.sizeOf192
  v212 := Tryz.zeroValue192
  t213 := Tryz.underlying194
  a213 := Tryz.isAgg194
  z213 := Tryz.sizeOf194
  t232 := Tryz.underlying202
  a232 := Tryz.isAgg202
  z232 := Tryz.sizeOf202
  v232 := Tryz.zeroValue202
  t233 := Tryz.underlying203
  a233 := Tryz.isAgg203
  z233 := Tryz.sizeOf203
  v233 := Tryz.zeroValue203
  g17 := by kernel_rfl
  g18 := by kernel_rfl
  g19 := by kernel_rfl }
open Go.RowKit Go.Sort Go.Lib in
/-- THE ROAD WITHOUT THE TABLE: 0 <= i < 100: NO PREMISE ON THE WORLD, AND THE WORLD IS AS IT WAS: a row that keeps its argument in that range need list no table ('laid = []'). (LAID: no walk: one application.) -/
theorem Tryz.strconv_Itoa_small (i : Nat) (hi : i < 100) (w : World) :
    Calls Tryz.prog 77 #[.int .i64 i] w fun e w' => e = .returned (.string ⟨(Lib.decDigits i).toArray⟩) ∧ w' = w := Any.strconv_Itoa_small Tryz.lays171 i hi w
end Go.Proofs

/- Strings by their bytes; how numbers and signatures are written. -/
namespace Go.Proofs.YtockagnnpeoggaaGreatDoor
set_option linter.unusedSimpArgs false
set_option linter.unusedVariables false
open Go Go.RowKit Go.Sort Go.BigFrame

/-- A string by its bytes. -/
abbrev S (l : List UInt8) : Value := .string ⟨l.toArray⟩

theorem cat_bytes (a b : List UInt8) : (⟨a.toArray⟩ : ByteArray) ++ ⟨b.toArray⟩ = ⟨(a ++ b).toArray⟩ := by
  apply ByteArray.ext; simp
theorem size_bytes (a : List UInt8) : (⟨a.toArray⟩ : ByteArray).size = a.length := by simp [ByteArray.size]
theorem decN_eq : ∀ i, i < 100 → Lib.decDigits i = decN i := by decide +kernel
theorem decN_len (n : Nat) : (decN n).length ≤ 2 := by unfold decN; split <;> simp
theorem dec_len (n : Int) : (dec n).length ≤ 2 := decN_len _
theorem letterT_len (l : Int) : (letterT l).length ≤ 3 := by unfold letterT; split <;> (try split) <;> simp
theorem sigT_len (r l : Int) : (sigT r l).length ≤ 5 := by
  unfold sigT; have := dec_len r; have := letterT_len l; split <;> simp <;> omega

theorem Itoa_any (n : Int) (h0 : 0 ≤ n) (h1 : n < 100) (w : World) :
    Calls Tryz.prog 77 #[.int .i64 n] w fun e w' => e = .returned (S (dec n)) ∧ w = w' := by
  obtain ⟨k, rfl⟩ := Int.eq_ofNat_of_zero_le h0
  have hk : k < 100 := by omega
  unfold dec
  rw [Int.toNat_natCast, ← decN_eq k hk]
  exact (Tryz.strconv_Itoa_small k hk w).mono fun e w' ⟨h1, h2⟩ => ⟨h1, h2.symm⟩

theorem letter_cut : ∀ k, k < 23 → (ByteArray.mk #[65, 66, 67, 68, 69, 70, 71, 72, 73, 75, 76, 77, 78, 79, 80, 81, 82, 83, 84, 86, 88, 89, 90]).extract k (k + 1) = ⟨[letterL.getD k 0].toArray⟩ := by decide +kernel

set_option maxHeartbeats 400000 in
theorem letterText_any (l : Int) (h0 : 0 ≤ l) (h1 : l ≤ 24) (w : World) :
    Calls Tryz.prog 102 #[.int .i64 l] w fun e w' => e = .returned (S (letterT l)) ∧ w = w' := by
  by_cases h23 : l = 23
  · subst h23
    go_enter Tryz.func102, Tryz.ntmps102
    go_wp2
    go_ret
    exact ⟨rfl, rfl⟩
  by_cases h24 : l = 24
  · subst h24
    go_enter Tryz.func102, Tryz.ntmps102
    go_wp2
    go_ret
    exact ⟨rfl, rfl⟩
  have e : letterT l = [letterL.getD l.toNat 0] := by simp [letterT, h23, h24]
  have b23 : (l == 23) = false := by simp [h23]
  have b24 : (l == 24) = false := by simp [h24]
  have hl : l < 23 := by omega
  rw [e]
  clear e h23 h24 h1
  obtain ⟨k, rfl⟩ := Int.eq_ofNat_of_zero_le h0
  rw [Int.toNat_natCast]
  have hk : k < 23 := by omega
  have hc := Lib.hid (letter_cut k hk)
  go_enter Tryz.func102, Tryz.ntmps102
  go_wp2
  go_ret
  exact ⟨congrArg (fun b => Ending.returned (Value.string b)) hc.out, rfl⟩

theorem ret_S {a : ByteArray} {l : List UInt8} (h : a = ⟨l.toArray⟩) : Ending.returned (.string a) = .returned (S l) := by rw [h]

set_option maxHeartbeats 400000 in
theorem sigText_any (r l : Int) (hs : sigB r l = true) (w : World) :
    Calls Tryz.prog 74 #[.agg #[.int .i64 r, .int .i64 l]] w fun e w' => e = .returned (S (sigT r l)) ∧ Below w.heap.size w w' := by
  have hb : 1 ≤ r ∧ r ≤ 3 ∧ 0 ≤ l ∧ l ≤ 24 := by simp [sigB, inB] at hs; omega
  obtain ⟨r1, r2, l1, l2⟩ := hb
  clear hs
  have z1 := letterT_len l
  have z2 := dec_len r
  have zl : (⟨(letterT l).toArray⟩ : ByteArray).size ≤ 3 := by rw [size_bytes]; exact z1
  have zr : (⟨(dec r).toArray⟩ : ByteArray).size ≤ 2 := by rw [size_bytes]; exact z2
  by_cases h : 1 < r
  · have e : sigT r l = dec r ++ letterT l := by simp [sigT, h]
    have HE := Lib.hid e
    clear e
    go_enter Tryz.func74, Tryz.ntmps74
    go_wp2_with fail
    refine (letterText_any l l1 l2 _).mono ?_
    rintro e w1 ⟨rfl, rfl⟩
    go_wp2_with fail
    refine (Itoa_any r (by omega) (by omega) _).mono ?_
    rintro e w1 ⟨rfl, rfl⟩
    go_wp2_with fail
    go_ret
    exact ⟨ret_S (by rw [HE.out]; exact cat_bytes _ _), (by repeat (first | exact Below.refl _ _ | assumption | (refine Below.alloc ?_ ?_ _; rotate_left; · (first | omega | (simp; done) | (simp; omega) | (simp at *; omega) | fail)) | (refine Below.setCell ?_ ?_ _; rotate_left; · (first | omega | (simp; done) | (simp; omega) | (simp at *; omega) | fail)) | refine Below.drew ?_ | fail))⟩
  · have e : sigT r l = letterT l := by simp [sigT, h]
    rw [e]
    go_enter Tryz.func74, Tryz.ntmps74
    go_wp2_with fail
    refine (letterText_any l l1 l2 _).mono ?_
    rintro e w1 ⟨rfl, rfl⟩
    go_wp2_with fail
    go_ret
    exact ⟨rfl, (by repeat (first | exact Below.refl _ _ | assumption | (refine Below.alloc ?_ ?_ _; rotate_left; · (first | omega | (simp; done) | (simp; omega) | (simp at *; omega) | fail)) | (refine Below.setCell ?_ ?_ _; rotate_left; · (first | omega | (simp; done) | (simp; omega) | (simp at *; omega) | fail)) | refine Below.drew ?_ | fail))⟩


end Go.Proofs.YtockagnnpeoggaaGreatDoor
