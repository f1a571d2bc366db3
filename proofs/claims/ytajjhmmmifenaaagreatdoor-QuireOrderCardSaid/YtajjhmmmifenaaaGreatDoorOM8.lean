/- The parts Qg, Ca, Cc of the proof, joined. It holds without conditions of its own. -/
import Derived.Test.YtajjhmmmifenaaaGreatDoorOM7
import Derived.Test.YtajjhmmmifenaaaGreatDoorOM1
/- Contracts of package quire: the gatherings of a book; Check; open. -/
namespace Go.Proofs.YtajjhmmmifenaaaGreatDoor
set_option linter.unusedSimpArgs false
set_option linter.unusedVariables false
open Go Go.RowKit Go.Sort Go.BigFrame

/-- ONE GATHERING: its error; without one it is taken among those that were met. -/
theorem check_any (i : Int) (g : Gth) (cv : Value) (bE b : Nat) (seen : List (Int × Int)) (last : Int × Int) (w : World) (hE : EarlierAt w bE b seen last) (B : Nat) (hBE : B ≤ bE) (hBb : B ≤ b) (hch : ChsAt B w cv g.chs) :
    Calls Tryz.prog 88 #[.pointer (some ⟨bE, 0, none⟩), .int .i64 i, .agg #[.int .i64 g.round, .int .i64 g.letter, .int .i64 g.leaves, cv]] w fun e w' => e = .returned (.int .i64 (gthErr seen last g)) ∧ OnlyIn (Ebs bE b) w w' ∧ (gthErr seen last g = 0 → EarlierAt w' bE b (seen ++ [(g.round, g.letter)]) (lastOf last g)) := by
  have hch' := hch
  obtain ⟨a, cap, hcv, hcell⟩ := hch
  have bad : ∀ v : Int, v ≠ 0 → gthErr seen last g = v → Calls Tryz.prog 88 #[.pointer (some ⟨bE, 0, none⟩), .int .i64 i, .agg #[.int .i64 g.round, .int .i64 g.letter, .int .i64 g.leaves, cv]] w (fun e w' => e = .returned (.int .i64 v) ∧ Below w.heap.size w w') →
      Calls Tryz.prog 88 #[.pointer (some ⟨bE, 0, none⟩), .int .i64 i, .agg #[.int .i64 g.round, .int .i64 g.letter, .int .i64 g.leaves, cv]] w fun e w' => e = .returned (.int .i64 (gthErr seen last g)) ∧ OnlyIn (Ebs bE b) w w' ∧ (gthErr seen last g = 0 → EarlierAt w' bE b (seen ++ [(g.round, g.letter)]) (lastOf last g)) := fun v hv he h => by
    rw [he]; exact h.mono fun e w' ⟨h1, h2⟩ => ⟨h1, OnlyIn.of_below h2, fun h0 => absurd h0 hv⟩
  cases hs : sigB g.round g.letter
  · exact bad 7 (by decide) (by simp [gthErr, hs]) (check_sig i g cv a _ cap hcv bE w hs)
  by_cases hm : (g.round, g.letter) ∈ seen
  · exact bad 5 (by decide) (by simp [gthErr, hs, hm]) (check_twice i g cv a _ cap hcv bE b seen last w hE hs hm)
  by_cases hl : g.letter < 23
  · have hd : decide (g.letter < 23) = true := decide_eq_true hl
    have hlo : lastOf last g = (g.round, g.letter) := by simp [lastOf, hl]
    cases hbh : behindB g.round g.letter last.1 last.2
    · exact bad 2 (by decide) (by simp [gthErr, hs, hm, hl, hbh]) (check_order i g cv a _ cap hcv bE b seen last w hE hs hm hd hbh)
    cases hf : foldedB g.leaves
    · exact bad 7 (by decide) (by simp [gthErr, hs, hm, hbh, hf]) (check_foldL i g cv a _ cap hcv bE b seen last w hE hs hm hd hbh hf)
    by_cases h4 : 4 < g.chs.length
    · exact bad 3 (by decide) (by simp [gthErr, hs, hm, hbh, hf, h4]) (check_longL i g cv a _ cap hcv bE b seen last w hE hs hm hd hbh hf h4)
    have he : gthErr seen last g = (chsErr g.leaves none 0 g.chs).2 := by simp [gthErr, hs, hm, hbh, hf, h4]
    rw [he, hlo]
    exact (check_okL i g cv a _ cap hcv bE b seen last w hE hs hm hd hbh hf rfl (by omega) B hBE hBb hch').mono fun e w' ⟨h1, h2, h3⟩ => ⟨h1, h2, fun _ => h3⟩
  · have hd : decide (g.letter < 23) = false := decide_eq_false hl
    have hlo : lastOf last g = last := by simp [lastOf, hl]
    cases hf : foldedB g.leaves
    · exact bad 7 (by decide) (by simp [gthErr, hs, hm, hl, hf]) (check_foldN i g cv a _ cap hcv bE b seen last w hE hs hm hd hf)
    by_cases h4 : 4 < g.chs.length
    · exact bad 3 (by decide) (by simp [gthErr, hs, hm, hl, hf, h4]) (check_longN i g cv a _ cap hcv bE b seen last w hE hs hm hd hf h4)
    have he : gthErr seen last g = (chsErr g.leaves none 0 g.chs).2 := by simp [gthErr, hs, hm, hl, hf, h4]
    rw [he, hlo]
    exact (check_okN i g cv a _ cap hcv bE b seen last w hE hs hm hd hf rfl (by omega) B hBE hBb hch').mono fun e w' ⟨h1, h2, h3⟩ => ⟨h1, h2, fun _ => h3⟩

theorem gsErr_step {gs : List Gth} {seen : List (Int × Int)} {last : Int × Int} {k : Nat} {g : Gth} (hk : gs[k]? = some g) (h0 : gthErr seen last g = 0) :
    gsErr seen last k (gs.drop k) = gsErr (seen ++ [(g.round, g.letter)]) (lastOf last g) (k + 1) (gs.drop (k + 1)) := by
  have hl := (List.getElem?_eq_some_iff.1 hk).1
  have e : gs.drop k = g :: gs.drop (k + 1) := by
    rw [List.drop_eq_getElem_cons hl]; congr 1; exact Option.some.inj ((List.getElem?_eq_getElem hl).symm.trans hk)
  rw [e, gsErr, if_pos h0]
theorem gsErr_stop {gs : List Gth} {seen : List (Int × Int)} {last : Int × Int} {k : Nat} {g : Gth} (hk : gs[k]? = some g) (h0 : gthErr seen last g ≠ 0) :
    gsErr seen last k (gs.drop k) = (k, gthErr seen last g) := by
  have hl := (List.getElem?_eq_some_iff.1 hk).1
  have e : gs.drop k = g :: gs.drop (k + 1) := by
    rw [List.drop_eq_getElem_cons hl]; congr 1; exact Option.some.inj ((List.getElem?_eq_getElem hl).symm.trans hk)
  rw [e, gsErr, if_neg h0]

/-- The cells of the k-th gathering, in a later world. -/
theorem gs_cells {B : Nat} {w wr : World} {b' off : Nat} {gs : List Gth} {X : Nat → Prop} (hb : b' < B) (hB : B ≤ w.heap.size) (ho : OnlyIn X w wr) (hX : ∀ k, X k → B ≤ k)
    (hcell : ∀ i g, gs[i]? = some g → ∃ cv, ChsAt B w cv g.chs ∧ w.cell? ⟨b', off + i * 4, none⟩ = some (.int .i64 g.round) ∧ w.cell? ⟨b', off + i * 4 + 1, none⟩ = some (.int .i64 g.letter) ∧
      w.cell? ⟨b', off + i * 4 + 2, none⟩ = some (.int .i64 g.leaves) ∧ w.cell? ⟨b', off + i * 4 + 3, none⟩ = some cv) {i : Nat} {g : Gth} (hi : gs[i]? = some g) :
    ∃ a n cap, ChsAt B wr (.slice a n cap) g.chs ∧ wr.cell? ⟨b', off + i * 4, none⟩ = some (.int .i64 g.round) ∧ wr.cell? ⟨b', off + i * 4 + 1, none⟩ = some (.int .i64 g.letter) ∧
      wr.cell? ⟨b', off + i * 4 + 2, none⟩ = some (.int .i64 g.leaves) ∧ wr.cell? ⟨b', off + i * 4 + 3, none⟩ = some (.slice a n cap) := by
  have hs : ∀ k, k < B → wr.heap[k]? = w.heap[k]? := fun k hk => ho.block k (by omega) (fun h => by have := hX k h; omega)
  obtain ⟨cv, h1, h2, h3, h4, h5⟩ := hcell i g hi
  have h1' := h1
  obtain ⟨a, cap, rfl, _⟩ := h1'
  exact ⟨a, _, cap, h1.same hs, (cell_same hs hb _).trans h2, (cell_same hs hb _).trans h3, (cell_same hs hb _).trans h4, (cell_same hs hb _).trans h5⟩

set_option maxRecDepth 100000 in
set_option maxHeartbeats 400000 in
theorem firstErrorG_some (n cap : Nat) (gs : List Gth) (b' off bE b : Nat) (w : World) (hn : gs.length = n) (hn' : n ≤ 100) (hE : EarlierAt w bE b [] (0, 0)) (B : Nat) (hBE : B ≤ bE) (hBb : B ≤ b) (hb' : b' < B)
    (hcell : ∀ i g, gs[i]? = some g → ∃ cv, ChsAt B w cv g.chs ∧ w.cell? ⟨b', off + i * 4, none⟩ = some (.int .i64 g.round) ∧ w.cell? ⟨b', off + i * 4 + 1, none⟩ = some (.int .i64 g.letter) ∧
      w.cell? ⟨b', off + i * 4 + 2, none⟩ = some (.int .i64 g.leaves) ∧ w.cell? ⟨b', off + i * 4 + 3, none⟩ = some cv) :
    Calls Tryz.prog 87 #[.slice (some ⟨b', off, none⟩) n cap, .func (.func 88) #[.pointer (some ⟨bE, 0, none⟩)] #[]] w fun e w' => e = .returned (.tuple #[.int .i64 (gsErr [] (0, 0) 0 gs).1, .int .i64 (gsErr [] (0, 0) 0 gs).2]) ∧ OnlyIn (Ebs bE b) w w' := by
  have HN := Lib.hid hn
  have HC := Lib.hid hcell
  have HE := Lib.hid hE
  clear hn hcell hE
  have hBw : B ≤ w.heap.size := by have := HE.out.map.lt; omega
  go_enter Tryz.func87, Tryz.ntmps87
  go_wp2
  go_loopw [11] (fun i wr => ∃ (k : Nat) (seen : List (Int × Int)) (last : Int × Int), k ≤ n ∧ i = .int .i64 k ∧ OnlyIn (Ebs bE b) w wr ∧ Hid (EarlierAt wr bE b seen last) ∧ Hid (gsErr [] (0, 0) 0 gs = gsErr seen last k (gs.drop k))) (fun i _ => n - (intOf i).toNat)
  case atStart => exact ⟨0, [], (0, 0), by omega, rfl, OnlyIn.refl _ _, HE, rfl⟩
  case round =>
    obtain ⟨k, seen, last, hk, rfl, ho, hEr, hh⟩ := hrel
    by_cases hlt : k < n
    · obtain ⟨g, hg⟩ : ∃ g, gs[k]? = some g := ⟨gs[k]'(by rw [HN.out]; exact hlt), List.getElem?_eq_getElem _⟩
      obtain ⟨a, m, cc, q0, q1, q2, q3, q4⟩ := gs_cells hb' hBw ho (fun k h => by rcases h with rfl | rfl <;> assumption) HC.out hg
      have HG := Lib.hid hg
      have hba : Below wr.heap.size wr (wr.alloc (Obj.cells #[.int .i64 g.round, .int .i64 g.letter, .int .i64 g.leaves, .slice a m cc] 59)) := (Below.refl _ _).alloc (Nat.le_refl _) _
      have hC := check_any k g (.slice a m cc) bE b seen last _ (hEr.out.below hba) B hBE hBb (q0.below hba (by have := ho.size; omega))
      have HCc := Lib.hid hC
      have HO := Lib.hid (ho.trans (OnlyIn.of_below hba))
      clear hC hba hg q0
      go_wp2_with fail
      refine HCc.out.mono ?_
      rintro e w1 ⟨rfl, ho1, hE1⟩
      have ho2 := HO.out.trans ho1
      clear HO HCc ho1
      obtain ⟨er, her⟩ : ∃ er, er = gthErr seen last g := ⟨_, rfl⟩
      rw [← her] at hE1 ⊢
      have HE1 := Lib.hid hE1
      have HR := Lib.hid her
      clear her hE1 q1 q2 q3 q4 ho hEr
      by_cases h0 : er = 0
      · subst h0
        go_wp2_with fail
        go_roundw
        case rel => exact ⟨k + 1, _, _, by omega, by go_num, ho2, HE1.out trivial, hh.out.trans (gsErr_step HG.out HR.out.symm)⟩
        case measure => simp [intOf]; omega
      · have h0b : (er != 0) = true := by simp [h0]
        have HF : Hid (gsErr [] (0, 0) 0 gs = (k, er)) := by
          have := hh.out.trans (gsErr_stop HG.out (fun h => h0 (HR.out.trans h)))
          rw [← HR.out] at this; exact this
        clear h0 HR hh HE1
        go_wp2_with fail
        go_ret2
        exact ⟨by rw [HF.out]; rfl, ho2⟩
    · have HF : Hid (gsErr [] (0, 0) 0 gs = (0, 0)) := by
        have := hh.out
        rw [List.drop_of_length_le (by rw [HN.out]; omega)] at this; exact this
      go_wp2_with fail
      go_ret2
      exact ⟨by rw [HF.out]; rfl, ho⟩

theorem EarlierAt.start (w : World) (m : Nat) (hm : w.heap.size = m) : EarlierAt ((w.alloc (.map #[] 0)).alloc (.cells #[.map (some m), .int .i64 0, .int .i64 0] 132)) (m + 1) m [] (0, 0) := by
  subst hm
  have hz : (w.alloc (.map #[] 0)).heap.size = w.heap.size + 1 := by simp
  have hn := World.alloc_heap_new (w.alloc (.map #[] 0)) (.cells #[.map (some w.heap.size), .int .i64 0, .int .i64 0] 132)
  rw [hz] at hn
  refine ⟨?_, ?_, ?_, ?_, ?_, ?_, by omega⟩
  · rw [World.cell?_alloc_at _ _ _ _ hz.symm]; rfl
  · rw [World.cell?_alloc_at _ _ _ _ hz.symm]; rfl
  · rw [World.cell?_alloc_at _ _ _ _ hz.symm]; rfl
  · simp only [World.frozen?, hn]; rfl
  · simp only [World.frozen?, hn]; rfl
  · exact (SigMap.made w).keep (Below.heap_alloc _ _ _ (by simp))

/-- A book as Check hands back of it: part, index, error. -/
def checkR (b : Bk) : Value := .tuple #[.int .i64 (checkF b).1, .int .i64 (checkF b).2.1, .int .i64 (checkF b).2.2]

set_option maxRecDepth 100000 in
set_option maxHeartbeats 400000 in
theorem Check_signed (s : Int) (a : Option Addr) (n cap : Nat) (w : World) (h : inB 0 12 s = false) :
    Calls Tryz.prog 47 #[.agg #[.int .i64 s, .slice a n cap]] w fun e w' => e = .returned (.tuple #[.int .i64 1, .int .i64 0, .int .i64 7]) ∧ Below w.heap.size w w' := by
  go_enter Tryz.func47, Tryz.ntmps47
  go_wp2_with fail
  refine (within_one _ _ s _ _ (by simp [World.cell?_alloc_at])).mono ?_
  rintro e w1 ⟨rfl, rfl⟩
  rw [h]
  go_wp2_with fail
  go_ret3
  exact ⟨rfl, (by repeat (first | exact Below.refl _ _ | assumption | (refine Below.alloc ?_ ?_ _; rotate_left; · (first | omega | (simp; done) | (simp; omega) | (simp at *; omega) | fail)) | (refine Below.setCell ?_ ?_ _; rotate_left; · (first | omega | (simp; done) | (simp; omega) | (simp at *; omega) | fail)) | refine Below.drew ?_ | fail))⟩

set_option maxRecDepth 100000 in
set_option maxHeartbeats 400000 in
theorem Check_long (s : Int) (a : Option Addr) (n cap : Nat) (w : World) (h : inB 0 12 s = true) (hn : inB 1 30 n = false) :
    Calls Tryz.prog 47 #[.agg #[.int .i64 s, .slice a n cap]] w fun e w' => e = .returned (.tuple #[.int .i64 1, .int .i64 0, .int .i64 3]) ∧ Below w.heap.size w w' := by
  go_enter Tryz.func47, Tryz.ntmps47
  go_wp2_with fail
  refine (within_one _ _ s _ _ (by simp [World.cell?_alloc_at])).mono ?_
  rintro e w1 ⟨rfl, rfl⟩
  rw [h]
  go_wp2_with fail
  refine (within_one _ _ n _ _ (by simp [World.cell?_alloc_at])).mono ?_
  rintro e w1 ⟨rfl, rfl⟩
  rw [hn]
  go_wp2_with fail
  go_ret3
  exact ⟨rfl, (by repeat (first | exact Below.refl _ _ | assumption | (refine Below.alloc ?_ ?_ _; rotate_left; · (first | omega | (simp; done) | (simp; omega) | (simp at *; omega) | fail)) | (refine Below.setCell ?_ ?_ _; rotate_left; · (first | omega | (simp; done) | (simp; omega) | (simp at *; omega) | fail)) | refine Below.drew ?_ | fail))⟩

set_option maxRecDepth 100000 in
set_option maxHeartbeats 400000 in
theorem Check_rest (s : Int) (gs : List Gth) (sv : Value) (a : Option Addr) (n cap : Nat) (hsv : sv = .slice a n cap) (w : World) (hg : GsAt w.heap.size w sv gs) (h : inB 0 12 s = true) (hn : inB 1 30 n = true) :
    Calls Tryz.prog 47 #[.agg #[.int .i64 s, sv]] w fun e w' => e = .returned (checkR ⟨s, gs⟩) ∧ Below w.heap.size w w' := by
  subst hsv
  have HG := Lib.hid hg
  clear hg
  have hmm := @run_makeMap Tryz.prog
  have hmf : ∀ (fn : Fn) (first cap : Array Value) (w : World), (Instr.makeFunc fn first cap).run Tryz.prog w = .ok (.func fn first cap) w := fun _ _ _ _ => rfl
  go_enter Tryz.func47, Tryz.ntmps47
  go_wp2_with fail
  refine (within_one _ _ s _ _ (by simp [World.cell?_alloc_at])).mono ?_
  rintro e w1 ⟨rfl, rfl⟩
  rw [h]
  go_wp2_with fail
  refine (within_one _ _ n _ _ (by simp [World.cell?_alloc_at])).mono ?_
  rintro e w1 ⟨rfl, rfl⟩
  rw [hn]
  go_wp2_with fail
  clear hmm hmf
  have hE := EarlierAt.start (((w.alloc (Obj.cells #[.int .i64 s, .slice a n cap] 24)).alloc (Obj.cells #[.int .i64 s] 3)).alloc (Obj.cells #[.int .i64 n] 3)) (w.heap.size + 1 + 1 + 1) (by simp)
  have hbb : Below w.heap.size w (((((w.alloc (Obj.cells #[.int .i64 s, .slice a n cap] 24)).alloc (Obj.cells #[.int .i64 s] 3)).alloc (Obj.cells #[.int .i64 n] 3)).alloc (Obj.map #[] 0)).alloc (Obj.cells #[.map (some (w.heap.size + 1 + 1 + 1)), .int .i64 0, .int .i64 0] 132)) := (by repeat (first | exact Below.refl _ _ | assumption | (refine Below.alloc ?_ ?_ _; rotate_left; · (first | omega | (simp; done) | (simp; omega) | (simp at *; omega) | fail)) | (refine Below.setCell ?_ ?_ _; rotate_left; · (first | omega | (simp; done) | (simp; omega) | (simp at *; omega) | fail)) | refine Below.drew ?_ | fail))
  revert hE hbb
  generalize ((((w.alloc (Obj.cells #[.int .i64 s, .slice a n cap] 24)).alloc (Obj.cells #[.int .i64 s] 3)).alloc (Obj.cells #[.int .i64 n] 3)).alloc (Obj.map #[] 0)).alloc (Obj.cells #[.map (some (w.heap.size + 1 + 1 + 1)), .int .i64 0, .int .i64 0] 132) = w5
  intro hE hbb
  have hg := HG.out.below hbb (Nat.le_refl _)
  have hle : 1 ≤ n ∧ n ≤ 30 := by simp [inB] at hn; omega
  obtain ⟨a', cap', hav, hcell⟩ := hg
  simp only [Value.slice.injEq] at hav
  obtain ⟨rfl, hlen, rfl⟩ := hav
  obtain ⟨b', off, rfl, hb', hcell⟩ := hcell (fun e => by rw [e] at hlen; simp at hlen; omega)
  refine (firstErrorG_some n cap gs b' off _ _ _ hlen.symm (by omega) hE w.heap.size (by omega) (by omega) hb' hcell).mono ?_
  rintro e w6 ⟨rfl, ho⟩
  have hb6 : Below w.heap.size w w6 := ho.below hbb hbb.size (fun k h => by rcases h with rfl | rfl <;> omega)
  have HR : Hid (checkR ⟨s, gs⟩ = if (gsErr [] (0, 0) 0 gs).2 = 0 then .tuple #[.int .i64 0, .int .i64 0, .int .i64 0] else .tuple #[.int .i64 2, .int .i64 (gsErr [] (0, 0) 0 gs).1, .int .i64 (gsErr [] (0, 0) 0 gs).2]) := by
    show checkR _ = _
    have h1 : inB 1 30 (gs.length : Int) = true := by rw [← hlen]; exact hn
    unfold checkR checkF
    simp only [h, h1]
    by_cases h0 : (gsErr [] (0, 0) 0 gs).2 = 0 <;> simp [h0]
  clear ho hbb hE hcell HG hlen hn h hle hb'
  generalize gsErr [] (0, 0) 0 gs = r at HR ⊢
  obtain ⟨ri, re⟩ := r
  dsimp only at HR ⊢
  by_cases h0 : re = 0
  · subst h0
    have HR : Hid (checkR ⟨s, gs⟩ = .tuple #[.int .i64 0, .int .i64 0, .int .i64 0]) := HR.out.trans (if_pos rfl)
    go_wp2_with fail
    go_ret3
    exact ⟨by rw [HR.out]; rfl, hb6⟩
  · have h0b : (re != 0) = true := by simp [h0]
    have HR : Hid (checkR ⟨s, gs⟩ = .tuple #[.int .i64 2, .int .i64 ri, .int .i64 re]) := HR.out.trans (if_neg h0)
    clear h0
    go_wp2_with fail
    go_ret3
    exact ⟨by rw [HR.out]; rfl, hb6⟩

/-- CHECK, of any book. -/
theorem Check_any (b : Bk) (v : Value) (w : World) (hb : BookAt w.heap.size w v b) :
    Calls Tryz.prog 47 #[v] w fun e w' => e = .returned (checkR b) ∧ Below w.heap.size w w' := by
  obtain ⟨s, gs⟩ := b
  obtain ⟨sv, rfl, hg⟩ := hb
  have hg' := hg
  obtain ⟨a, cap, rfl, _⟩ := hg'
  cases h : inB 0 12 s
  · have e : checkR ⟨s, gs⟩ = .tuple #[.int .i64 1, .int .i64 0, .int .i64 7] := by simp [checkR, checkF, h]
    rw [e]; exact Check_signed s a _ cap w h
  · cases hn : inB 1 30 (gs.length : Int)
    · have e : checkR ⟨s, gs⟩ = .tuple #[.int .i64 1, .int .i64 0, .int .i64 3] := by simp [checkR, checkF, h, hn]
      rw [e]; exact Check_long s a _ cap w h hn
    · exact Check_rest s gs _ a _ cap rfl w hg h hn

end Go.Proofs.YtajjhmmmifenaaaGreatDoor

/- The reference's small functions: in, signature, rank. -/
namespace Go.Proofs.YtajjhmmmifenaaaGreatDoor
set_option linter.unusedSimpArgs false
set_option linter.unusedVariables false
open Go Go.RowKit Go.Sort Go.BigFrame

set_option maxHeartbeats 400000 in
theorem refIn_any (n lo hi : Int) (w : World) :
    Calls Tryz.prog 62 #[.int .i64 n, .int .i64 lo, .int .i64 hi] w fun e w' => e = .returned (.bool (inB lo hi n)) ∧ Below w.heap.size w w' := by
  cases h1 : decide (lo ≤ n) with
  | false =>
    have e : inB lo hi n = false := by simp [inB, h1]
    rw [e]
    go_enter Tryz.func62, Tryz.ntmps62
    go_wp2_with fail
    go_ret
    exact ⟨rfl, Below.refl _ _⟩
  | true =>
    cases h2 : decide (n ≤ hi) with
    | false =>
      have e : inB lo hi n = false := by simp [inB, h1, h2]
      rw [e]
      go_enter Tryz.func62, Tryz.ntmps62
      go_wp2_with fail
      go_ret
      exact ⟨rfl, Below.refl _ _⟩
    | true =>
      have e : inB lo hi n = true := by simp [inB, h1, h2]
      rw [e]
      go_enter Tryz.func62, Tryz.ntmps62
      go_wp2_with fail
      go_ret
      exact ⟨rfl, Below.refl _ _⟩

set_option maxHeartbeats 400000 in
theorem refSignature_any (r l : Int) (w : World) :
    Calls Tryz.prog 107 #[.agg #[.int .i64 r, .int .i64 l]] w fun e w' => e = .returned (.bool (sigB r l)) ∧ Below w.heap.size w w' := by
  unfold sigB
  cases h1 : inB 1 3 r with
  | false =>
    have H1 := Lib.hid h1
    clear h1
    go_enter Tryz.func107, Tryz.ntmps107
    go_wp2_with fail
    refine (refIn_any r 1 3 _).mono ?_
    rintro e w1 ⟨rfl, hb⟩
    rw [H1.out]
    have hb1 := ((Below.refl w.heap.size w).alloc (Nat.le_refl _) _).trans (hb.mono (by simp))
    clear hb
    go_wp2_with fail
    go_ret
    exact ⟨rfl, hb1⟩
  | true =>
    have H1 := Lib.hid h1
    clear h1
    go_enter Tryz.func107, Tryz.ntmps107
    go_wp2_with fail
    refine (refIn_any r 1 3 _).mono ?_
    rintro e w1 ⟨rfl, hb⟩
    rw [H1.out]
    have k1 : w1.cell? ⟨w.heap.size, 1, none⟩ = some (.int .i64 l) := cell_later' hb (by simp [World.cell?_alloc_at])
    have hb1 := ((Below.refl w.heap.size w).alloc (Nat.le_refl _) _).trans (hb.mono (by simp))
    clear hb
    go_wp2_with fail
    refine (refIn_any l 0 24 _).mono ?_
    rintro e w2 ⟨rfl, hb⟩
    have hb2 := hb1.trans (hb.mono hb1.size)
    clear hb
    go_wp2_with fail
    go_ret
    exact ⟨rfl, hb2⟩

/-- The place of a lettered signature among all of them. -/
def rankF (r l : Int) : Int := if 23 ≤ l then -1 else (r - 1) * 23 + l
set_option maxHeartbeats 400000 in
theorem refRank_any (r l : Int) (w : World) (h : sigB r l = true) :
    Calls Tryz.prog 69 #[.agg #[.int .i64 r, .int .i64 l]] w fun e w' => e = .returned (.int .i64 (rankF r l)) ∧ Below w.heap.size w w' := by
  have hb : 1 ≤ r ∧ r ≤ 3 ∧ 0 ≤ l ∧ l ≤ 24 := by simp [sigB, inB] at h; omega
  clear h
  by_cases hl : 23 ≤ l
  · have e : rankF r l = -1 := if_pos hl
    rw [e]
    have hd : decide (23 ≤ l) = true := decide_eq_true hl
    clear hl e
    go_enter Tryz.func69, Tryz.ntmps69
    go_wp2_with fail
    go_ret
    exact ⟨rfl, (by repeat (first | (refine Below.setCell ?_ ?_ _; rotate_left; · (first | omega | (simp; done) | (simp; omega) | fail)) | (refine Below.alloc ?_ ?_ _; rotate_left; · (first | omega | (simp; done) | (simp; omega) | fail)) | refine Below.drew ?_ | exact Below.refl _ _ | fail))⟩
  · have e : rankF r l = (r - 1) * 23 + l := if_neg hl
    rw [e]
    have hd : decide (23 ≤ l) = false := decide_eq_false hl
    have w1 : IntKind.i64.wrap (r - 1) = r - 1 := IntWalk.i64_in _ (by omega)
    have w2 : IntKind.i64.wrap ((r - 1) * 23) = (r - 1) * 23 := IntWalk.i64_in _ (by omega)
    have w3 : IntKind.i64.wrap ((r - 1) * 23 + l) = (r - 1) * 23 + l := IntWalk.i64_in _ (by omega)
    clear hl e
    go_enter Tryz.func69, Tryz.ntmps69
    go_wp2_with fail
    go_ret
    exact ⟨rfl, (by repeat (first | (refine Below.setCell ?_ ?_ _; rotate_left; · (first | omega | (simp; done) | (simp; omega) | fail)) | (refine Below.alloc ?_ ?_ _; rotate_left; · (first | omega | (simp; done) | (simp; omega) | fail)) | refine Below.drew ?_ | exact Below.refl _ _ | fail))⟩

end Go.Proofs.YtajjhmmmifenaaaGreatDoor

/- The reference's error of a gathering, as plain Lean, and that it is the one of the program. -/
namespace Go.Proofs.YtajjhmmmifenaaaGreatDoor
set_option linter.unusedSimpArgs false
set_option linter.unusedVariables false

/-- The error of change i. -/
def refCh (leaves : Int) (prev : Option Chg) (c : Chg) : Int :=
  if inB 1 3 c.kind = false then 6
  else if (inB (if c.kind = 3 then 0 else 1) leaves c.pos && (if c.kind = 3 then inB 1 4 c.many else decide (c.many = 0))) = false then 7
  else match prev with
    | none => 0
    | some p => if c.pos < p.pos ∨ (c.pos = p.pos ∧ (c.kind ≠ 3 ∨ p.kind = 3)) then 2 else 0
theorem refCh_is (leaves : Int) (prev : Option Chg) (c : Chg) : refCh leaves prev c = chErr leaves prev c := by
  have hk : inB 1 3 c.kind = kindB c := by
    unfold inB kindB
    by_cases h1 : c.kind = 1
    · simp [h1]
    · by_cases h2 : c.kind = 2
      · simp [h2]
      · by_cases h3 : c.kind = 3
        · simp [h3]
        · have : ¬ (1 ≤ c.kind ∧ c.kind ≤ 3) := by omega
          simp [h1, h2, h3]; omega
  have hr : (inB (if c.kind = 3 then 0 else 1) leaves c.pos && (if c.kind = 3 then inB 1 4 c.many else decide (c.many = 0))) = rangeB c leaves := by
    unfold rangeB; split <;> rfl
  unfold refCh chErr
  rw [hk, hr]
  cases prev with
  | none => rfl
  | some p =>
    simp only []
    by_cases h1 : kindB c = false
    · simp [h1]
    · by_cases h2 : rangeB c leaves = false
      · simp [h2]
      · simp only [h1, h2, if_false]
        have : (c.pos < p.pos ∨ (c.pos = p.pos ∧ (c.kind ≠ 3 ∨ p.kind = 3))) ↔ orderB p c = false := by
          unfold orderB
          by_cases e : c.pos = p.pos
          · by_cases k : c.kind = 3 <;> by_cases q : p.kind = 3 <;> simp [e, k, q]
          · simp [e]; omega
        by_cases h3 : orderB p c = false
        · simp [h3, this]
        · simp [h3, this]

/-- The place of a lettered signature among all of them. -/
def rankG (g : Gth) : Int := if 23 ≤ g.letter then -1 else (g.round - 1) * 23 + g.letter
def ranksMax (gs : List Gth) : Int := gs.foldl (fun m g => max m (rankG g)) (-1)
/-- The error of a gathering behind others. -/
def refGth (before : List Gth) (g : Gth) : Int :=
  if sigB g.round g.letter = false then 7
  else if before.any (fun h => decide (h.round = g.round ∧ h.letter = g.letter)) then 5
  else if 0 ≤ rankG g ∧ rankG g < ranksMax before then 2
  else if g.leaves ≠ 1 ∧ (inB 2 12 g.leaves = false ∨ g.leaves % 2 = 1) then 7
  else if 4 < g.chs.length then 3
  else (chsErr g.leaves none 0 g.chs).2

def sigOf (g : Gth) : Int × Int := (g.round, g.letter)
def lastG (gs : List Gth) : Int × Int := gs.foldl lastOf (0, 0)
/-- What is so of gatherings that have no error: the last lettered one is the greatest. -/
structure OkG (gs : List Gth) : Prop where
  sig : ∀ g ∈ gs, sigB g.round g.letter = true
  last : (ranksMax gs = -1 ∧ lastG gs = (0, 0)) ∨ (0 ≤ ranksMax gs ∧ lastG gs ∈ gs.map sigOf ∧ (lastG gs).2 < 23 ∧ ranksMax gs = ((lastG gs).1 - 1) * 23 + (lastG gs).2)
theorem sigB_is {r l : Int} (h : sigB r l = true) : 1 ≤ r ∧ r ≤ 3 ∧ 0 ≤ l ∧ l ≤ 24 := by simp [sigB, inB] at h; omega
theorem okG_nil : OkG [] := ⟨fun _ h => (by cases h), Or.inl ⟨rfl, rfl⟩⟩

theorem rank_iff {before : List Gth} (h : OkG before) (g : Gth) (hs : sigB g.round g.letter = true) (hm : sigOf g ∉ before.map sigOf) :
    (0 ≤ rankG g ∧ rankG g < ranksMax before) ↔ (g.letter < 23 ∧ behindB g.round g.letter (lastG before).1 (lastG before).2 = false) := by
  have hb := sigB_is hs
  unfold rankG behindB
  rcases h.last with ⟨h1, h2⟩ | ⟨h1, h2, h3, h4⟩
  · rw [h1, h2]
    by_cases hl : 23 ≤ g.letter
    · rw [if_pos hl]; omega
    · rw [if_neg hl, if_neg (by show ¬ g.round = 0; omega), decide_eq_false_iff_not]
      show (_ ∧ _) ↔ (_ ∧ ¬ (0 : Int) < g.round)
      omega
  · have hne : ¬ (g.round = (lastG before).1 ∧ g.letter = (lastG before).2) := fun ⟨e1, e2⟩ => hm (by
      have : sigOf g = lastG before := by unfold sigOf; rw [e1, e2]
      rw [this]; exact h2)
    obtain ⟨q, hq, hqe⟩ := List.mem_map.1 h2
    have hqb := sigB_is (h.sig q hq)
    have e1 : q.round = (lastG before).1 := by rw [← hqe]; rfl
    have e2 : q.letter = (lastG before).2 := by rw [← hqe]; rfl
    rw [h4]
    by_cases hl : 23 ≤ g.letter
    · rw [if_pos hl]; omega
    · rw [if_neg hl]
      by_cases e : g.round = (lastG before).1
      · rw [if_pos e, decide_eq_false_iff_not]
        omega
      · rw [if_neg e, decide_eq_false_iff_not]
        omega

theorem leaves_iff (n : Int) : (n ≠ 1 ∧ (inB 2 12 n = false ∨ n % 2 = 1)) ↔ foldedB n = false := by
  unfold foldedB inB
  by_cases h1 : n = 1
  · simp [h1]
  · simp only [h1, decide_false, Bool.false_or, Bool.and_eq_false_iff, decide_eq_false_iff_not, ne_eq, not_false_eq_true, true_and]
    omega

theorem refGth_is {before : List Gth} (h : OkG before) (g : Gth) : refGth before g = gthErr (before.map sigOf) (lastG before) g := by
  unfold refGth gthErr
  by_cases hs : sigB g.round g.letter = false
  · rw [if_pos hs, if_pos hs]
  rw [if_neg hs, if_neg hs]
  have hs' : sigB g.round g.letter = true := by simpa using hs
  have hm : (before.any (fun h => decide (h.round = g.round ∧ h.letter = g.letter)) = true) ↔ (g.round, g.letter) ∈ before.map sigOf := by
    simp only [List.any_eq_true, decide_eq_true_eq, List.mem_map, sigOf, Prod.mk.injEq]
  by_cases hm' : (g.round, g.letter) ∈ before.map sigOf
  · rw [if_pos (hm.2 hm'), if_pos hm']
  rw [if_neg (fun e => hm' (hm.1 e)), if_neg hm']
  have hr := rank_iff h g hs' hm'
  by_cases hr' : g.letter < 23 ∧ behindB g.round g.letter (lastG before).1 (lastG before).2 = false
  · rw [if_pos hr', if_pos (hr.2 hr')]
  rw [if_neg hr', if_neg (fun e => hr' (hr.1 e))]
  have hl := leaves_iff g.leaves
  by_cases hl' : foldedB g.leaves = false
  · rw [if_pos hl', if_pos (hl.2 hl')]
  rw [if_neg hl', if_neg (fun e => hl' (hl.1 e))]

theorem ranksMax_snoc (gs : List Gth) (g : Gth) : ranksMax (gs ++ [g]) = max (ranksMax gs) (rankG g) := by simp [ranksMax]
theorem lastG_snoc (gs : List Gth) (g : Gth) : lastG (gs ++ [g]) = lastOf (lastG gs) g := by simp [lastG]
theorem okG_snoc {before : List Gth} (h : OkG before) (g : Gth) (h0 : refGth before g = 0) : OkG (before ++ [g]) := by
  unfold refGth at h0
  by_cases hs : sigB g.round g.letter = false
  · rw [if_pos hs] at h0; cases h0
  rw [if_neg hs] at h0
  have hs' : sigB g.round g.letter = true := by simpa using hs
  split at h0
  · cases h0
  split at h0
  · cases h0
  rename_i hr
  have hb := sigB_is hs'
  refine ⟨fun q hq => ?_, ?_⟩
  · rcases List.mem_append.1 hq with hq | hq
    · exact h.sig q hq
    · rw [List.mem_singleton] at hq; rw [hq]; exact hs'
  · rw [ranksMax_snoc, lastG_snoc]
    unfold lastOf
    by_cases hl : g.letter < 23
    · rw [if_pos hl]
      have e : rankG g = (g.round - 1) * 23 + g.letter := if_neg (by omega)
      have hmx : ¬ rankG g < ranksMax before := fun hh => hr ⟨by rw [e]; omega, hh⟩
      refine Or.inr ⟨?_, ?_, hl, ?_⟩
      · rw [e]; omega
      · simp [sigOf]
      · show max _ _ = (g.round - 1) * 23 + g.letter
        omega
    · rw [if_neg hl]
      have e : rankG g = -1 := if_pos (by omega)
      rw [e]
      rcases h.last with ⟨h1, h2⟩ | ⟨h1, h2, h3, h4⟩
      · exact Or.inl ⟨by rw [h1]; rfl, h2⟩
      · exact Or.inr ⟨by omega, by rw [List.map_append]; exact List.mem_append_left _ h2, h3, by omega⟩

/-- The first gathering with an error, behind others. -/
def refGs : List Gth → Nat → List Gth → Nat × Int
  | _, _, [] => (0, 0)
  | before, i, g :: gs => if refGth before g = 0 then refGs (before ++ [g]) (i + 1) gs else (i, refGth before g)
theorem refGs_is : ∀ (gs : List Gth) (before : List Gth) (i : Nat), OkG before → refGs before i gs = gsErr (before.map sigOf) (lastG before) i gs
  | [], _, _, _ => rfl
  | g :: gs, before, i, h => by
    unfold refGs gsErr
    rw [← refGth_is h g]
    by_cases h0 : refGth before g = 0
    · rw [if_pos h0, if_pos h0, refGs_is gs _ _ (okG_snoc h g h0), List.map_append, lastG_snoc]
      rfl
    · rw [if_neg h0, if_neg h0]
end Go.Proofs.YtajjhmmmifenaaaGreatDoor
