/- The parts Qg, Ca, Db, Dc, Pa, Pf of the proof, joined. It holds without conditions of its own. -/
import Derived.Test.YtockagnnpeoggaaGreatDoorMT7
import Derived.Test.YtockagnnpeoggaaGreatDoorMT1
/- Contracts of package quire: the gatherings of a book; Check; open. -/
namespace Go.Proofs.YtockagnnpeoggaaGreatDoor
set_option linter.unusedSimpArgs false
set_option linter.unusedVariables false
open Go Go.RowKit Go.Sort Go.BigFrame

/-- ONE GATHERING: its error; without one it is taken among those that were met. -/
theorem check_any (i : Int) (g : Gth) (cv : Value) (bE b : Nat) (seen : List (Int × Int)) (last : Int × Int) (w : World) (hE : EarlierAt w bE b seen last) (B : Nat) (hBE : B ≤ bE) (hBb : B ≤ b) (hch : ChsAt B w cv g.chs) :
    Calls Tryz.prog 94 #[.pointer (some ⟨bE, 0, none⟩), .int .i64 i, .agg #[.int .i64 g.round, .int .i64 g.letter, .int .i64 g.leaves, cv]] w fun e w' => e = .returned (.int .i64 (gthErr seen last g)) ∧ OnlyIn (Ebs bE b) w w' ∧ (gthErr seen last g = 0 → EarlierAt w' bE b (seen ++ [(g.round, g.letter)]) (lastOf last g)) := by
  have hch' := hch
  obtain ⟨a, cap, hcv, hcell⟩ := hch
  have bad : ∀ v : Int, v ≠ 0 → gthErr seen last g = v → Calls Tryz.prog 94 #[.pointer (some ⟨bE, 0, none⟩), .int .i64 i, .agg #[.int .i64 g.round, .int .i64 g.letter, .int .i64 g.leaves, cv]] w (fun e w' => e = .returned (.int .i64 v) ∧ Below w.heap.size w w') →
      Calls Tryz.prog 94 #[.pointer (some ⟨bE, 0, none⟩), .int .i64 i, .agg #[.int .i64 g.round, .int .i64 g.letter, .int .i64 g.leaves, cv]] w fun e w' => e = .returned (.int .i64 (gthErr seen last g)) ∧ OnlyIn (Ebs bE b) w w' ∧ (gthErr seen last g = 0 → EarlierAt w' bE b (seen ++ [(g.round, g.letter)]) (lastOf last g)) := fun v hv he h => by
    rw [he]; exact h.mono fun e w' ⟨h1, h2⟩ => ⟨h1, OnlyIn.of_below h2, fun h0 => absurd h0 hv⟩
  cases hs : sigB g.round g.letter
  · exact bad 7 (by decide) (by simp [gthErr, hs]) (check_sig i g cv a _ cap hcv bE w hs)
  by_cases hm : (g.round, g.letter) ∈ seen
  · exact bad 5 (by decide) (by simp [gthErr, hs, hm]) (check_twice i g cv a _ cap hcv bE b seen last w hE hs hm)
  by_cases hl : g.letter < 23
  · have hd : decide (g.letter < 23) = true := decide_eq_true hl
    have hlo : lastOf last g = (g.round, g.letter) := by simp [lastOf, hl]
    cases hbh : behindB g.round g.letter last.1 last.2
    · exact bad 2 (by decide) (by simp [gthErr, hs, hm, hl, hbh]) (check_order i g cv a _ cap hcv bE b seen last w hE hs hm hd hbh)
    cases hf : foldedB g.leaves
    · exact bad 7 (by decide) (by simp [gthErr, hs, hm, hbh, hf]) (check_foldL i g cv a _ cap hcv bE b seen last w hE hs hm hd hbh hf)
    by_cases h4 : 4 < g.chs.length
    · exact bad 3 (by decide) (by simp [gthErr, hs, hm, hbh, hf, h4]) (check_longL i g cv a _ cap hcv bE b seen last w hE hs hm hd hbh hf h4)
    have he : gthErr seen last g = (chsErr g.leaves none 0 g.chs).2 := by simp [gthErr, hs, hm, hbh, hf, h4]
    rw [he, hlo]
    exact (check_okL i g cv a _ cap hcv bE b seen last w hE hs hm hd hbh hf rfl (by omega) B hBE hBb hch').mono fun e w' ⟨h1, h2, h3⟩ => ⟨h1, h2, fun _ => h3⟩
  · have hd : decide (g.letter < 23) = false := decide_eq_false hl
    have hlo : lastOf last g = last := by simp [lastOf, hl]
    cases hf : foldedB g.leaves
    · exact bad 7 (by decide) (by simp [gthErr, hs, hm, hl, hf]) (check_foldN i g cv a _ cap hcv bE b seen last w hE hs hm hd hf)
    by_cases h4 : 4 < g.chs.length
    · exact bad 3 (by decide) (by simp [gthErr, hs, hm, hl, hf, h4]) (check_longN i g cv a _ cap hcv bE b seen last w hE hs hm hd hf h4)
    have he : gthErr seen last g = (chsErr g.leaves none 0 g.chs).2 := by simp [gthErr, hs, hm, hl, hf, h4]
    rw [he, hlo]
    exact (check_okN i g cv a _ cap hcv bE b seen last w hE hs hm hd hf rfl (by omega) B hBE hBb hch').mono fun e w' ⟨h1, h2, h3⟩ => ⟨h1, h2, fun _ => h3⟩

theorem gsErr_step {gs : List Gth} {seen : List (Int × Int)} {last : Int × Int} {k : Nat} {g : Gth} (hk : gs[k]? = some g) (h0 : gthErr seen last g = 0) :
    gsErr seen last k (gs.drop k) = gsErr (seen ++ [(g.round, g.letter)]) (lastOf last g) (k + 1) (gs.drop (k + 1)) := by
  have hl := (List.getElem?_eq_some_iff.1 hk).1
  have e : gs.drop k = g :: gs.drop (k + 1) := by
    rw [List.drop_eq_getElem_cons hl]; congr 1; exact Option.some.inj ((List.getElem?_eq_getElem hl).symm.trans hk)
  rw [e, gsErr, if_pos h0]
theorem gsErr_stop {gs : List Gth} {seen : List (Int × Int)} {last : Int × Int} {k : Nat} {g : Gth} (hk : gs[k]? = some g) (h0 : gthErr seen last g ≠ 0) :
    gsErr seen last k (gs.drop k) = (k, gthErr seen last g) := by
  have hl := (List.getElem?_eq_some_iff.1 hk).1
  have e : gs.drop k = g :: gs.drop (k + 1) := by
    rw [List.drop_eq_getElem_cons hl]; congr 1; exact Option.some.inj ((List.getElem?_eq_getElem hl).symm.trans hk)
  rw [e, gsErr, if_neg h0]

/-- The cells of the k-th gathering, in a later world. -/
theorem gs_cells {B : Nat} {w wr : World} {b' off : Nat} {gs : List Gth} {X : Nat → Prop} (hb : b' < B) (hB : B ≤ w.heap.size) (ho : OnlyIn X w wr) (hX : ∀ k, X k → B ≤ k)
    (hcell : ∀ i g, gs[i]? = some g → ∃ cv, ChsAt B w cv g.chs ∧ w.cell? ⟨b', off + i * 4, none⟩ = some (.int .i64 g.round) ∧ w.cell? ⟨b', off + i * 4 + 1, none⟩ = some (.int .i64 g.letter) ∧
      w.cell? ⟨b', off + i * 4 + 2, none⟩ = some (.int .i64 g.leaves) ∧ w.cell? ⟨b', off + i * 4 + 3, none⟩ = some cv) {i : Nat} {g : Gth} (hi : gs[i]? = some g) :
    ∃ a n cap, ChsAt B wr (.slice a n cap) g.chs ∧ wr.cell? ⟨b', off + i * 4, none⟩ = some (.int .i64 g.round) ∧ wr.cell? ⟨b', off + i * 4 + 1, none⟩ = some (.int .i64 g.letter) ∧
      wr.cell? ⟨b', off + i * 4 + 2, none⟩ = some (.int .i64 g.leaves) ∧ wr.cell? ⟨b', off + i * 4 + 3, none⟩ = some (.slice a n cap) := by
  have hs : ∀ k, k < B → wr.heap[k]? = w.heap[k]? := fun k hk => ho.block k (by omega) (fun h => by have := hX k h; omega)
  obtain ⟨cv, h1, h2, h3, h4, h5⟩ := hcell i g hi
  have h1' := h1
  obtain ⟨a, cap, rfl, _⟩ := h1'
  exact ⟨a, _, cap, h1.same hs, (cell_same hs hb _).trans h2, (cell_same hs hb _).trans h3, (cell_same hs hb _).trans h4, (cell_same hs hb _).trans h5⟩

set_option maxRecDepth 100000 in
set_option maxHeartbeats 400000 in
theorem firstErrorG_some (n cap : Nat) (gs : List Gth) (b' off bE b : Nat) (w : World) (hn : gs.length = n) (hn' : n ≤ 100) (hE : EarlierAt w bE b [] (0, 0)) (B : Nat) (hBE : B ≤ bE) (hBb : B ≤ b) (hb' : b' < B)
    (hcell : ∀ i g, gs[i]? = some g → ∃ cv, ChsAt B w cv g.chs ∧ w.cell? ⟨b', off + i * 4, none⟩ = some (.int .i64 g.round) ∧ w.cell? ⟨b', off + i * 4 + 1, none⟩ = some (.int .i64 g.letter) ∧
      w.cell? ⟨b', off + i * 4 + 2, none⟩ = some (.int .i64 g.leaves) ∧ w.cell? ⟨b', off + i * 4 + 3, none⟩ = some cv) :
    Calls Tryz.prog 93 #[.slice (some ⟨b', off, none⟩) n cap, .func (.func 94) #[.pointer (some ⟨bE, 0, none⟩)] #[]] w fun e w' => e = .returned (.tuple #[.int .i64 (gsErr [] (0, 0) 0 gs).1, .int .i64 (gsErr [] (0, 0) 0 gs).2]) ∧ OnlyIn (Ebs bE b) w w' := by
  have HN := Lib.hid hn
  have HC := Lib.hid hcell
  have HE := Lib.hid hE
  clear hn hcell hE
  have hBw : B ≤ w.heap.size := by have := HE.out.map.lt; omega
  go_enter Tryz.func93, Tryz.ntmps93
  go_wp2
  go_loopw [11] (fun i wr => ∃ (k : Nat) (seen : List (Int × Int)) (last : Int × Int), k ≤ n ∧ i = .int .i64 k ∧ OnlyIn (Ebs bE b) w wr ∧ Hid (EarlierAt wr bE b seen last) ∧ Hid (gsErr [] (0, 0) 0 gs = gsErr seen last k (gs.drop k))) (fun i _ => n - (intOf i).toNat)
  case atStart => exact ⟨0, [], (0, 0), by omega, rfl, OnlyIn.refl _ _, HE, rfl⟩
  case round =>
    obtain ⟨k, seen, last, hk, rfl, ho, hEr, hh⟩ := hrel
    by_cases hlt : k < n
    · obtain ⟨g, hg⟩ : ∃ g, gs[k]? = some g := ⟨gs[k]'(by rw [HN.out]; exact hlt), List.getElem?_eq_getElem _⟩
      obtain ⟨a, m, cc, q0, q1, q2, q3, q4⟩ := gs_cells hb' hBw ho (fun k h => by rcases h with rfl | rfl <;> assumption) HC.out hg
      have HG := Lib.hid hg
      have hba : Below wr.heap.size wr (wr.alloc (Obj.cells #[.int .i64 g.round, .int .i64 g.letter, .int .i64 g.leaves, .slice a m cc] 57)) := (Below.refl _ _).alloc (Nat.le_refl _) _
      have hC := check_any k g (.slice a m cc) bE b seen last _ (hEr.out.below hba) B hBE hBb (q0.below hba (by have := ho.size; omega))
      have HCc := Lib.hid hC
      have HO := Lib.hid (ho.trans (OnlyIn.of_below hba))
      clear hC hba hg q0
      go_wp2_with fail
      refine HCc.out.mono ?_
      rintro e w1 ⟨rfl, ho1, hE1⟩
      have ho2 := HO.out.trans ho1
      clear HO HCc ho1
      obtain ⟨er, her⟩ : ∃ er, er = gthErr seen last g := ⟨_, rfl⟩
      rw [← her] at hE1 ⊢
      have HE1 := Lib.hid hE1
      have HR := Lib.hid her
      clear her hE1 q1 q2 q3 q4 ho hEr
      by_cases h0 : er = 0
      · subst h0
        go_wp2_with fail
        go_roundw
        case rel => exact ⟨k + 1, _, _, by omega, by go_num, ho2, HE1.out trivial, hh.out.trans (gsErr_step HG.out HR.out.symm)⟩
        case measure => simp [intOf]; omega
      · have h0b : (er != 0) = true := by simp [h0]
        have HF : Hid (gsErr [] (0, 0) 0 gs = (k, er)) := by
          have := hh.out.trans (gsErr_stop HG.out (fun h => h0 (HR.out.trans h)))
          rw [← HR.out] at this; exact this
        clear h0 HR hh HE1
        go_wp2_with fail
        go_ret2
        exact ⟨by rw [HF.out]; rfl, ho2⟩
    · have HF : Hid (gsErr [] (0, 0) 0 gs = (0, 0)) := by
        have := hh.out
        rw [List.drop_of_length_le (by rw [HN.out]; omega)] at this; exact this
      go_wp2_with fail
      go_ret2
      exact ⟨by rw [HF.out]; rfl, ho⟩

theorem EarlierAt.start (w : World) (m : Nat) (hm : w.heap.size = m) : EarlierAt ((w.alloc (.map #[] 0)).alloc (.cells #[.map (some m), .int .i64 0, .int .i64 0] 139)) (m + 1) m [] (0, 0) := by
  subst hm
  have hz : (w.alloc (.map #[] 0)).heap.size = w.heap.size + 1 := by simp
  have hn := World.alloc_heap_new (w.alloc (.map #[] 0)) (.cells #[.map (some w.heap.size), .int .i64 0, .int .i64 0] 139)
  rw [hz] at hn
  refine ⟨?_, ?_, ?_, ?_, ?_, ?_, by omega⟩
  · rw [World.cell?_alloc_at _ _ _ _ hz.symm]; rfl
  · rw [World.cell?_alloc_at _ _ _ _ hz.symm]; rfl
  · rw [World.cell?_alloc_at _ _ _ _ hz.symm]; rfl
  · simp only [World.frozen?, hn]; rfl
  · simp only [World.frozen?, hn]; rfl
  · exact (SigMap.made w).keep (Below.heap_alloc _ _ _ (by simp))

/-- A book as Check hands back of it: part, index, error. -/
def checkR (b : Bk) : Value := .tuple #[.int .i64 (checkF b).1, .int .i64 (checkF b).2.1, .int .i64 (checkF b).2.2]

set_option maxRecDepth 100000 in
set_option maxHeartbeats 400000 in
theorem Check_signed (s : Int) (a : Option Addr) (n cap : Nat) (w : World) (h : inB 0 12 s = false) :
    Calls Tryz.prog 60 #[.agg #[.int .i64 s, .slice a n cap]] w fun e w' => e = .returned (.tuple #[.int .i64 1, .int .i64 0, .int .i64 7]) ∧ Below w.heap.size w w' := by
  go_enter Tryz.func60, Tryz.ntmps60
  go_wp2_with fail
  refine (within_one _ _ s _ _ (by simp [World.cell?_alloc_at])).mono ?_
  rintro e w1 ⟨rfl, rfl⟩
  rw [h]
  go_wp2_with fail
  go_ret3
  exact ⟨rfl, (by repeat (first | exact Below.refl _ _ | assumption | (refine Below.alloc ?_ ?_ _; rotate_left; · (first | omega | (simp; done) | (simp; omega) | (simp at *; omega) | fail)) | (refine Below.setCell ?_ ?_ _; rotate_left; · (first | omega | (simp; done) | (simp; omega) | (simp at *; omega) | fail)) | refine Below.drew ?_ | fail))⟩

set_option maxRecDepth 100000 in
set_option maxHeartbeats 400000 in
theorem Check_long (s : Int) (a : Option Addr) (n cap : Nat) (w : World) (h : inB 0 12 s = true) (hn : inB 1 30 n = false) :
    Calls Tryz.prog 60 #[.agg #[.int .i64 s, .slice a n cap]] w fun e w' => e = .returned (.tuple #[.int .i64 1, .int .i64 0, .int .i64 3]) ∧ Below w.heap.size w w' := by
  go_enter Tryz.func60, Tryz.ntmps60
  go_wp2_with fail
  refine (within_one _ _ s _ _ (by simp [World.cell?_alloc_at])).mono ?_
  rintro e w1 ⟨rfl, rfl⟩
  rw [h]
  go_wp2_with fail
  refine (within_one _ _ n _ _ (by simp [World.cell?_alloc_at])).mono ?_
  rintro e w1 ⟨rfl, rfl⟩
  rw [hn]
  go_wp2_with fail
  go_ret3
  exact ⟨rfl, (by repeat (first | exact Below.refl _ _ | assumption | (refine Below.alloc ?_ ?_ _; rotate_left; · (first | omega | (simp; done) | (simp; omega) | (simp at *; omega) | fail)) | (refine Below.setCell ?_ ?_ _; rotate_left; · (first | omega | (simp; done) | (simp; omega) | (simp at *; omega) | fail)) | refine Below.drew ?_ | fail))⟩

set_option maxRecDepth 100000 in
set_option maxHeartbeats 400000 in
theorem Check_rest (s : Int) (gs : List Gth) (sv : Value) (a : Option Addr) (n cap : Nat) (hsv : sv = .slice a n cap) (w : World) (hg : GsAt w.heap.size w sv gs) (h : inB 0 12 s = true) (hn : inB 1 30 n = true) :
    Calls Tryz.prog 60 #[.agg #[.int .i64 s, sv]] w fun e w' => e = .returned (checkR ⟨s, gs⟩) ∧ Below w.heap.size w w' := by
  subst hsv
  have HG := Lib.hid hg
  clear hg
  have hmm := @run_makeMap Tryz.prog
  have hmf : ∀ (fn : Fn) (first cap : Array Value) (w : World), (Instr.makeFunc fn first cap).run Tryz.prog w = .ok (.func fn first cap) w := fun _ _ _ _ => rfl
  go_enter Tryz.func60, Tryz.ntmps60
  go_wp2_with fail
  refine (within_one _ _ s _ _ (by simp [World.cell?_alloc_at])).mono ?_
  rintro e w1 ⟨rfl, rfl⟩
  rw [h]
  go_wp2_with fail
  refine (within_one _ _ n _ _ (by simp [World.cell?_alloc_at])).mono ?_
  rintro e w1 ⟨rfl, rfl⟩
  rw [hn]
  go_wp2_with fail
  clear hmm hmf
  have hE := EarlierAt.start (((w.alloc (Obj.cells #[.int .i64 s, .slice a n cap] 24)).alloc (Obj.cells #[.int .i64 s] 3)).alloc (Obj.cells #[.int .i64 n] 3)) (w.heap.size + 1 + 1 + 1) (by simp)
  have hbb : Below w.heap.size w (((((w.alloc (Obj.cells #[.int .i64 s, .slice a n cap] 24)).alloc (Obj.cells #[.int .i64 s] 3)).alloc (Obj.cells #[.int .i64 n] 3)).alloc (Obj.map #[] 0)).alloc (Obj.cells #[.map (some (w.heap.size + 1 + 1 + 1)), .int .i64 0, .int .i64 0] 139)) := (by repeat (first | exact Below.refl _ _ | assumption | (refine Below.alloc ?_ ?_ _; rotate_left; · (first | omega | (simp; done) | (simp; omega) | (simp at *; omega) | fail)) | (refine Below.setCell ?_ ?_ _; rotate_left; · (first | omega | (simp; done) | (simp; omega) | (simp at *; omega) | fail)) | refine Below.drew ?_ | fail))
  revert hE hbb
  generalize ((((w.alloc (Obj.cells #[.int .i64 s, .slice a n cap] 24)).alloc (Obj.cells #[.int .i64 s] 3)).alloc (Obj.cells #[.int .i64 n] 3)).alloc (Obj.map #[] 0)).alloc (Obj.cells #[.map (some (w.heap.size + 1 + 1 + 1)), .int .i64 0, .int .i64 0] 139) = w5
  intro hE hbb
  have hg := HG.out.below hbb (Nat.le_refl _)
  have hle : 1 ≤ n ∧ n ≤ 30 := by simp [inB] at hn; omega
  obtain ⟨a', cap', hav, hcell⟩ := hg
  simp only [Value.slice.injEq] at hav
  obtain ⟨rfl, hlen, rfl⟩ := hav
  obtain ⟨b', off, rfl, hb', hcell⟩ := hcell (fun e => by rw [e] at hlen; simp at hlen; omega)
  refine (firstErrorG_some n cap gs b' off _ _ _ hlen.symm (by omega) hE w.heap.size (by omega) (by omega) hb' hcell).mono ?_
  rintro e w6 ⟨rfl, ho⟩
  have hb6 : Below w.heap.size w w6 := ho.below hbb hbb.size (fun k h => by rcases h with rfl | rfl <;> omega)
  have HR : Hid (checkR ⟨s, gs⟩ = if (gsErr [] (0, 0) 0 gs).2 = 0 then .tuple #[.int .i64 0, .int .i64 0, .int .i64 0] else .tuple #[.int .i64 2, .int .i64 (gsErr [] (0, 0) 0 gs).1, .int .i64 (gsErr [] (0, 0) 0 gs).2]) := by
    show checkR _ = _
    have h1 : inB 1 30 (gs.length : Int) = true := by rw [← hlen]; exact hn
    unfold checkR checkF
    simp only [h, h1]
    by_cases h0 : (gsErr [] (0, 0) 0 gs).2 = 0 <;> simp [h0]
  clear ho hbb hE hcell HG hlen hn h hle hb'
  generalize gsErr [] (0, 0) 0 gs = r at HR ⊢
  obtain ⟨ri, re⟩ := r
  dsimp only at HR ⊢
  by_cases h0 : re = 0
  · subst h0
    have HR : Hid (checkR ⟨s, gs⟩ = .tuple #[.int .i64 0, .int .i64 0, .int .i64 0]) := HR.out.trans (if_pos rfl)
    go_wp2_with fail
    go_ret3
    exact ⟨by rw [HR.out]; rfl, hb6⟩
  · have h0b : (re != 0) = true := by simp [h0]
    have HR : Hid (checkR ⟨s, gs⟩ = .tuple #[.int .i64 2, .int .i64 ri, .int .i64 re]) := HR.out.trans (if_neg h0)
    clear h0
    go_wp2_with fail
    go_ret3
    exact ⟨by rw [HR.out]; rfl, hb6⟩

/-- CHECK, of any book. -/
theorem Check_any (b : Bk) (v : Value) (w : World) (hb : BookAt w.heap.size w v b) :
    Calls Tryz.prog 60 #[v] w fun e w' => e = .returned (checkR b) ∧ Below w.heap.size w w' := by
  obtain ⟨s, gs⟩ := b
  obtain ⟨sv, rfl, hg⟩ := hb
  have hg' := hg
  obtain ⟨a, cap, rfl, _⟩ := hg'
  cases h : inB 0 12 s
  · have e : checkR ⟨s, gs⟩ = .tuple #[.int .i64 1, .int .i64 0, .int .i64 7] := by simp [checkR, checkF, h]
    rw [e]; exact Check_signed s a _ cap w h
  · cases hn : inB 1 30 (gs.length : Int)
    · have e : checkR ⟨s, gs⟩ = .tuple #[.int .i64 1, .int .i64 0, .int .i64 3] := by simp [checkR, checkF, h, hn]
      rw [e]; exact Check_long s a _ cap w h hn
    · exact Check_rest s gs _ a _ cap rfl w hg h hn

end Go.Proofs.YtockagnnpeoggaaGreatDoor

/- The reference's small functions: in, signature, rank. -/
namespace Go.Proofs.YtockagnnpeoggaaGreatDoor
set_option linter.unusedSimpArgs false
set_option linter.unusedVariables false
open Go Go.RowKit Go.Sort Go.BigFrame

set_option maxHeartbeats 400000 in
theorem refIn_any (n lo hi : Int) (w : World) :
    Calls Tryz.prog 36 #[.int .i64 n, .int .i64 lo, .int .i64 hi] w fun e w' => e = .returned (.bool (inB lo hi n)) ∧ Below w.heap.size w w' := by
  cases h1 : decide (lo ≤ n) with
  | false =>
    have e : inB lo hi n = false := by simp [inB, h1]
    rw [e]
    go_enter Tryz.func36, Tryz.ntmps36
    go_wp2_with fail
    go_ret
    exact ⟨rfl, Below.refl _ _⟩
  | true =>
    cases h2 : decide (n ≤ hi) with
    | false =>
      have e : inB lo hi n = false := by simp [inB, h1, h2]
      rw [e]
      go_enter Tryz.func36, Tryz.ntmps36
      go_wp2_with fail
      go_ret
      exact ⟨rfl, Below.refl _ _⟩
    | true =>
      have e : inB lo hi n = true := by simp [inB, h1, h2]
      rw [e]
      go_enter Tryz.func36, Tryz.ntmps36
      go_wp2_with fail
      go_ret
      exact ⟨rfl, Below.refl _ _⟩

set_option maxHeartbeats 400000 in
theorem refSignature_any (r l : Int) (w : World) :
    Calls Tryz.prog 100 #[.agg #[.int .i64 r, .int .i64 l]] w fun e w' => e = .returned (.bool (sigB r l)) ∧ Below w.heap.size w w' := by
  unfold sigB
  cases h1 : inB 1 3 r with
  | false =>
    have H1 := Lib.hid h1
    clear h1
    go_enter Tryz.func100, Tryz.ntmps100
    go_wp2_with fail
    refine (refIn_any r 1 3 _).mono ?_
    rintro e w1 ⟨rfl, hb⟩
    rw [H1.out]
    have hb1 := ((Below.refl w.heap.size w).alloc (Nat.le_refl _) _).trans (hb.mono (by simp))
    clear hb
    go_wp2_with fail
    go_ret
    exact ⟨rfl, hb1⟩
  | true =>
    have H1 := Lib.hid h1
    clear h1
    go_enter Tryz.func100, Tryz.ntmps100
    go_wp2_with fail
    refine (refIn_any r 1 3 _).mono ?_
    rintro e w1 ⟨rfl, hb⟩
    rw [H1.out]
    have k1 : w1.cell? ⟨w.heap.size, 1, none⟩ = some (.int .i64 l) := cell_later' hb (by simp [World.cell?_alloc_at])
    have hb1 := ((Below.refl w.heap.size w).alloc (Nat.le_refl _) _).trans (hb.mono (by simp))
    clear hb
    go_wp2_with fail
    refine (refIn_any l 0 24 _).mono ?_
    rintro e w2 ⟨rfl, hb⟩
    have hb2 := hb1.trans (hb.mono hb1.size)
    clear hb
    go_wp2_with fail
    go_ret
    exact ⟨rfl, hb2⟩

/-- The place of a lettered signature among all of them. -/
def rankF (r l : Int) : Int := if 23 ≤ l then -1 else (r - 1) * 23 + l
set_option maxHeartbeats 400000 in
theorem refRank_any (r l : Int) (w : World) (h : sigB r l = true) :
    Calls Tryz.prog 39 #[.agg #[.int .i64 r, .int .i64 l]] w fun e w' => e = .returned (.int .i64 (rankF r l)) ∧ Below w.heap.size w w' := by
  have hb : 1 ≤ r ∧ r ≤ 3 ∧ 0 ≤ l ∧ l ≤ 24 := by simp [sigB, inB] at h; omega
  clear h
  by_cases hl : 23 ≤ l
  · have e : rankF r l = -1 := if_pos hl
    rw [e]
    have hd : decide (23 ≤ l) = true := decide_eq_true hl
    clear hl e
    go_enter Tryz.func39, Tryz.ntmps39
    go_wp2_with fail
    go_ret
    exact ⟨rfl, (by repeat (first | (refine Below.setCell ?_ ?_ _; rotate_left; · (first | omega | (simp; done) | (simp; omega) | fail)) | (refine Below.alloc ?_ ?_ _; rotate_left; · (first | omega | (simp; done) | (simp; omega) | fail)) | refine Below.drew ?_ | exact Below.refl _ _ | fail))⟩
  · have e : rankF r l = (r - 1) * 23 + l := if_neg hl
    rw [e]
    have hd : decide (23 ≤ l) = false := decide_eq_false hl
    have w1 : IntKind.i64.wrap (r - 1) = r - 1 := IntWalk.i64_in _ (by omega)
    have w2 : IntKind.i64.wrap ((r - 1) * 23) = (r - 1) * 23 := IntWalk.i64_in _ (by omega)
    have w3 : IntKind.i64.wrap ((r - 1) * 23 + l) = (r - 1) * 23 + l := IntWalk.i64_in _ (by omega)
    clear hl e
    go_enter Tryz.func39, Tryz.ntmps39
    go_wp2_with fail
    go_ret
    exact ⟨rfl, (by repeat (first | (refine Below.setCell ?_ ?_ _; rotate_left; · (first | omega | (simp; done) | (simp; omega) | fail)) | (refine Below.alloc ?_ ?_ _; rotate_left; · (first | omega | (simp; done) | (simp; omega) | fail)) | refine Below.drew ?_ | exact Below.refl _ _ | fail))⟩

end Go.Proofs.YtockagnnpeoggaaGreatDoor

/- What the changes of a gathering do at a number; the leaves of a gathering and of a book, as plain Lean. -/
namespace Go.Proofs.YtockagnnpeoggaaGreatDoor
set_option linter.unusedSimpArgs false
set_option linter.unusedVariables false

structure Fate where
  gone : Bool
  swapped : Bool
  added : Int
def fateStep (n : Int) (f : Fate) (c : Chg) : Fate :=
  if c.pos ≠ n then f else if c.kind = 1 then { f with gone := true } else if c.kind = 2 then { f with swapped := true } else if c.kind = 3 then { f with added := c.many } else f
def fateF (cs : List Chg) (n : Int) : Fate := cs.foldl (fateStep n) ⟨false, false, 0⟩

/-- A leaf: its gathering, Number, Plus and Kind. -/
structure Lf where
  gat : Nat
  num : Int
  plus : Int
  kind : Int
deriving DecidableEq

/-- The leaves of a gathering at one number, by what the changes do there. -/
def lvsNum (i : Nat) (k : Nat) (f : Fate) : List Lf :=
  (if 0 < k ∧ f.gone = false then [⟨i, k, 0, if f.swapped then 1 else 0⟩] else []) ++ (List.range f.added.toNat).map fun j => ⟨i, k, (j : Int) + 1, 2⟩
/-- The leaves of a gathering. -/
def lvsG (i : Nat) (g : Gth) : List Lf := (List.range (g.leaves + 1).toNat).flatMap fun k => lvsNum i k (fateF g.chs k)
/-- The leaves of a book. -/
def lvsFrom (i : Nat) : List Gth → List Lf
  | [] => []
  | g :: gs => lvsG i g ++ lvsFrom (i + 1) gs
def lvs (b : Bk) : List Lf := lvsFrom 0 b.gs

end Go.Proofs.YtockagnnpeoggaaGreatDoor

/- What a book without an error is like: bounds of all its numbers. -/
namespace Go.Proofs.YtockagnnpeoggaaGreatDoor
set_option linter.unusedSimpArgs false
set_option linter.unusedVariables false

theorem inB_iff {lo hi x : Int} : inB lo hi x = true ↔ lo ≤ x ∧ x ≤ hi := by simp [inB]
theorem gsErr_zero : ∀ {gs : List Gth} {seen : List (Int × Int)} {last : Int × Int} {i : Nat}, (gsErr seen last i gs).2 = 0 → ∀ g ∈ gs, ∃ seen last, gthErr seen last g = 0
  | [], _, _, _, _, g, hg => by cases hg
  | x :: xs, seen, last, i, h, g, hg => by
    unfold gsErr at h
    by_cases h0 : gthErr seen last x = 0
    · rw [if_pos h0] at h
      rcases List.mem_cons.1 hg with rfl | hg
      · exact ⟨seen, last, h0⟩
      · exact gsErr_zero h g hg
    · rw [if_neg h0] at h; exact absurd h h0
theorem chsErr_zero : ∀ {cs : List Chg} {l : Int} {p : Option Chg} {i : Nat}, (chsErr l p i cs).2 = 0 → ∀ c ∈ cs, kindB c = true ∧ rangeB c l = true
  | [], _, _, _, _, c, hc => by cases hc
  | x :: xs, l, p, i, h, c, hc => by
    unfold chsErr at h
    by_cases h0 : chErr l p x = 0
    · rw [if_pos h0] at h
      rcases List.mem_cons.1 hc with rfl | hc
      · unfold chErr at h0
        by_cases hk : kindB c = false
        · rw [if_pos hk] at h0; omega
        · rw [if_neg hk] at h0
          by_cases hr : rangeB c l = false
          · rw [if_pos hr] at h0; omega
          · exact ⟨by simpa using hk, by simpa using hr⟩
      · exact chsErr_zero h c hc
    · rw [if_neg h0] at h; exact absurd h h0

/-- A gathering without an error. -/
structure GOk (g : Gth) : Prop where
  sig : sigB g.round g.letter = true
  folded : foldedB g.leaves = true
  few : g.chs.length ≤ 4
  chs : (chsErr g.leaves none 0 g.chs).2 = 0
theorem gthErr_zero {seen : List (Int × Int)} {last : Int × Int} {g : Gth} (h : gthErr seen last g = 0) : GOk g := by
  unfold gthErr at h
  by_cases h1 : sigB g.round g.letter = false
  · rw [if_pos h1] at h; omega
  rw [if_neg h1] at h
  by_cases h2 : (g.round, g.letter) ∈ seen
  · rw [if_pos h2] at h; omega
  rw [if_neg h2] at h
  by_cases h3 : g.letter < 23 ∧ behindB g.round g.letter last.1 last.2 = false
  · rw [if_pos h3] at h; omega
  rw [if_neg h3] at h
  by_cases h4 : foldedB g.leaves = false
  · rw [if_pos h4] at h; omega
  rw [if_neg h4] at h
  by_cases h5 : 4 < g.chs.length
  · rw [if_pos h5] at h; omega
  rw [if_neg h5] at h
  exact ⟨by simpa using h1, by simpa using h4, by omega, h⟩
theorem GOk.leaves {g : Gth} (h : GOk g) : 1 ≤ g.leaves ∧ g.leaves ≤ 12 := by
  have := h.folded
  simp only [foldedB, Bool.or_eq_true, Bool.and_eq_true, decide_eq_true_eq, inB_iff] at this
  omega
theorem GOk.round {g : Gth} (h : GOk g) : 1 ≤ g.round ∧ g.round ≤ 3 := by
  have := h.sig
  simp only [sigB, Bool.and_eq_true, inB_iff] at this
  omega
theorem GOk.letter {g : Gth} (h : GOk g) : 0 ≤ g.letter ∧ g.letter ≤ 24 := by
  have := h.sig
  simp only [sigB, Bool.and_eq_true, inB_iff] at this
  omega
theorem GOk.ch {g : Gth} (h : GOk g) {c : Chg} (hc : c ∈ g.chs) : (c.kind = 1 ∨ c.kind = 2 ∨ c.kind = 3) ∧ 0 ≤ c.pos ∧ c.pos ≤ g.leaves ∧ 0 ≤ c.many ∧ c.many ≤ 4 := by
  obtain ⟨hk, hr⟩ := chsErr_zero h.chs c hc
  simp only [kindB, Bool.or_eq_true, decide_eq_true_eq] at hk
  unfold rangeB at hr
  split at hr <;> simp only [Bool.and_eq_true, inB_iff, decide_eq_true_eq] at hr <;> refine ⟨by omega, by omega, by omega, by omega, by omega⟩

def errF (b : Bk) : Int := (checkF b).2.2
structure BOk (b : Bk) : Prop where
  signed : 0 ≤ b.signed ∧ b.signed ≤ 12
  len : 1 ≤ b.gs.length ∧ b.gs.length ≤ 30
  gs : ∀ g ∈ b.gs, GOk g
theorem errF_zero {b : Bk} (h : errF b = 0) : BOk b := by
  unfold errF checkF at h
  by_cases h1 : inB 0 12 b.signed = false
  · rw [if_pos h1] at h; simp at h
  rw [if_neg h1] at h
  by_cases h2 : inB 1 30 b.gs.length = false
  · rw [if_pos h2] at h; simp at h
  rw [if_neg h2] at h
  have h1' := inB_iff.1 (show inB 0 12 b.signed = true by simpa using h1)
  have h2' := inB_iff.1 (show inB 1 30 b.gs.length = true by simpa using h2)
  by_cases h3 : (gsErr [] (0, 0) 0 b.gs).2 = 0
  · exact ⟨h1', by omega, fun g hg => by obtain ⟨s, l, hz⟩ := gsErr_zero h3 g hg; exact gthErr_zero hz⟩
  · rw [if_neg h3] at h; exact absurd h h3

theorem lvsFrom_app : ∀ (xs ys : List Gth) (i : Nat), lvsFrom i (xs ++ ys) = lvsFrom i xs ++ lvsFrom (i + xs.length) ys
  | [], ys, i => by simp [lvsFrom]
  | x :: xs, ys, i => by
    simp only [List.cons_append, lvsFrom, lvsFrom_app xs ys (i + 1), List.append_assoc, List.length_cons]
    rw [show i + 1 + xs.length = i + (xs.length + 1) by omega]
theorem take_split {α : Type} {xs : List α} {k : Nat} {x : α} (h : xs[k]? = some x) : xs = xs.take k ++ x :: xs.drop (k + 1) ∧ xs.take (k + 1) = xs.take k ++ [x] := by
  obtain ⟨hk, rfl⟩ := List.getElem?_eq_some_iff.1 h
  exact ⟨by simp, by simp⟩
theorem lvsFrom_take {gs : List Gth} {k : Nat} {g : Gth} (h : gs[k]? = some g) : lvsFrom 0 (gs.take (k + 1)) = lvsFrom 0 (gs.take k) ++ lvsG k g := by
  have hk := (List.getElem?_eq_some_iff.1 h).1
  rw [(take_split h).2, lvsFrom_app]
  simp [lvsFrom, Nat.min_eq_left (Nat.le_of_lt hk)]
theorem lvs_split {gs : List Gth} {k : Nat} {g : Gth} (h : gs[k]? = some g) : ∃ rest, lvsFrom 0 gs = lvsFrom 0 (gs.take k) ++ (lvsG k g ++ rest) := by
  have hk := (List.getElem?_eq_some_iff.1 h).1
  refine ⟨lvsFrom (k + 1) (gs.drop (k + 1)), ?_⟩
  conv => lhs; rw [(take_split h).1]
  rw [lvsFrom_app]
  simp [lvsFrom, Nat.min_eq_left (Nat.le_of_lt hk)]
theorem lvsNum_mem {i k : Nat} {f : Fate} {x : Lf} (h : x ∈ lvsNum i k f) : x.gat = i ∧ x.num = k ∧ 0 ≤ x.plus ∧ (x.plus = 0 ∨ x.plus ≤ f.added) ∧ 0 ≤ x.kind ∧ x.kind ≤ 2 := by
  simp only [lvsNum, List.mem_append, List.mem_map, List.mem_range] at h
  rcases h with h | ⟨j, hj, rfl⟩
  · split at h
    · simp only [List.mem_singleton] at h
      subst h
      refine ⟨rfl, rfl, by simp, by simp, ?_, ?_⟩ <;> dsimp only <;> split <;> omega
    · cases h
  · exact ⟨rfl, rfl, by dsimp only; omega, by dsimp only; omega, by dsimp only; omega, by dsimp only; omega⟩
theorem lvsG_mem {i : Nat} {g : Gth} {x : Lf} (h : x ∈ lvsG i g) : x.gat = i ∧ 0 ≤ x.num ∧ x.num ≤ g.leaves ∧ 0 ≤ x.plus ∧ (x.plus = 0 ∨ ∃ n, x.plus ≤ (fateF g.chs n).added) := by
  simp only [lvsG, List.mem_flatMap, List.mem_range] at h
  obtain ⟨k, hk, h⟩ := h
  obtain ⟨h1, h2, h3, h4, -⟩ := lvsNum_mem h
  exact ⟨h1, by omega, by omega, h3, h4.imp id fun h => ⟨_, h⟩⟩
theorem lvsFrom_mem : ∀ {gs : List Gth} {i : Nat} {x : Lf}, x ∈ lvsFrom i gs → ∃ g, i ≤ x.gat ∧ gs[x.gat - i]? = some g ∧ x ∈ lvsG x.gat g
  | [], _, _, h => by cases h
  | g :: gs, i, x, h => by
    simp only [lvsFrom, List.mem_append] at h
    rcases h with h | h
    · have hx := (lvsG_mem h).1
      exact ⟨g, by omega, by rw [hx]; simp, by rw [hx]; exact h⟩
    · obtain ⟨g', h1, h2, h3⟩ := lvsFrom_mem h
      refine ⟨g', by omega, ?_, h3⟩
      rw [show x.gat - i = (x.gat - (i + 1)) + 1 by omega]
      simpa using h2
theorem lvs_mem {b : Bk} {x : Lf} (h : x ∈ lvs b) : ∃ g, b.gs[x.gat]? = some g ∧ x ∈ lvsG x.gat g := by
  obtain ⟨g, -, h2, h3⟩ := lvsFrom_mem h
  exact ⟨g, by simpa using h2, h3⟩
theorem lvsNum_len {i k : Nat} {f : Fate} : (lvsNum i k f).length ≤ 1 + f.added.toNat := by
  simp only [lvsNum, List.length_append, List.length_map, List.length_range]
  split <;> simp
theorem flatMap_len {α β : Type} {f : α → List β} {n : Nat} : ∀ {xs : List α}, (∀ x ∈ xs, (f x).length ≤ n) → (xs.flatMap f).length ≤ xs.length * n
  | [], _ => by simp
  | x :: xs, h => by
    have h1 := h x (by simp)
    have h2 := flatMap_len (xs := xs) fun y hy => h y (by simp [hy])
    simp only [List.flatMap_cons, List.length_append, List.length_cons, Nat.add_mul]
    omega
end Go.Proofs.YtockagnnpeoggaaGreatDoor

/- Plain facts of the leaves of a book: their order, mates, signed leaves. Nothing of the program. -/
namespace Go.Proofs.YtockagnnpeoggaaGreatDoor
set_option linter.unusedSimpArgs false
set_option linter.unusedVariables false

/-- The order of leaves: by gathering, Number, Plus. -/
def ltL (x y : Lf) : Prop := x.gat < y.gat ∨ (x.gat = y.gat ∧ (x.num < y.num ∨ (x.num = y.num ∧ x.plus < y.plus)))
theorem ltL_irr (x : Lf) : ¬ ltL x x := by unfold ltL; omega
theorem lvsNum_sorted (i k : Nat) (f : Fate) : (lvsNum i k f).Pairwise ltL := by
  unfold lvsNum
  rw [List.pairwise_append]
  refine ⟨?_, ?_, ?_⟩
  · split
    · exact List.pairwise_singleton _ _
    · exact List.Pairwise.nil
  · rw [List.pairwise_map]
    exact List.pairwise_lt_range.imp fun {a b} h => Or.inr ⟨rfl, Or.inr ⟨rfl, by dsimp only; omega⟩⟩
  · intro x hx y hy
    simp only [List.mem_map, List.mem_range] at hy
    obtain ⟨j, _, rfl⟩ := hy
    split at hx
    · simp only [List.mem_singleton] at hx
      subst hx
      exact Or.inr ⟨rfl, Or.inr ⟨rfl, by dsimp only; omega⟩⟩
    · cases hx
theorem lvsG_sorted (i : Nat) (g : Gth) : (lvsG i g).Pairwise ltL := by
  unfold lvsG
  rw [List.pairwise_flatMap]
  refine ⟨fun k _ => lvsNum_sorted _ _ _, List.pairwise_lt_range.imp fun {a b} h x hx y hy => ?_⟩
  obtain ⟨h1, h2, _⟩ := lvsNum_mem hx
  obtain ⟨h3, h4, _⟩ := lvsNum_mem hy
  exact Or.inr ⟨by rw [h1, h3], Or.inl (by rw [h2, h4]; omega)⟩
theorem lvsFrom_sorted : ∀ (gs : List Gth) (i : Nat), (lvsFrom i gs).Pairwise ltL
  | [], _ => List.Pairwise.nil
  | g :: gs, i => by
    unfold lvsFrom
    rw [List.pairwise_append]
    refine ⟨lvsG_sorted i g, lvsFrom_sorted gs (i + 1), fun x hx y hy => ?_⟩
    obtain ⟨g', h, _, _⟩ := lvsFrom_mem hy
    have := (lvsG_mem hx).1
    exact Or.inl (by omega)
theorem lvs_sorted (b : Bk) : (lvs b).Pairwise ltL := lvsFrom_sorted _ _
theorem sorted_lt {xs : List Lf} (h : xs.Pairwise ltL) {i j : Nat} {x y : Lf} (hi : xs[i]? = some x) (hj : xs[j]? = some y) (hij : i < j) : ltL x y := by
  obtain ⟨h1, rfl⟩ := List.getElem?_eq_some_iff.1 hi
  obtain ⟨h2, rfl⟩ := List.getElem?_eq_some_iff.1 hj
  exact List.pairwise_iff_getElem.1 h i j h1 h2 hij
theorem sorted_inj {xs : List Lf} (h : xs.Pairwise ltL) {i j : Nat} {x : Lf} (hi : xs[i]? = some x) (hj : xs[j]? = some x) : i = j := by
  rcases Nat.lt_trichotomy i j with h1 | h1 | h1
  · exact absurd (sorted_lt h hi hj h1) (ltL_irr x)
  · exact h1
  · exact absurd (sorted_lt h hj hi h1) (ltL_irr x)
theorem find_at {xs : List Lf} (h : xs.Pairwise ltL) {i : Nat} {x : Lf} (hi : xs[i]? = some x) : xs.findIdx? (fun y => decide (y = x)) = some i := by
  rw [List.findIdx?_eq_some_iff_getElem]
  obtain ⟨h1, h2⟩ := List.getElem?_eq_some_iff.1 hi
  refine ⟨h1, by simp [h2], fun j hj => ?_⟩
  have hjl : j < xs.length := by omega
  have hne : xs[j] ≠ x := fun e => by
    have := sorted_inj h (List.getElem?_eq_some_iff.2 ⟨hjl, e⟩) hi
    omega
  simp [hne]
theorem find_some {xs : List Lf} {x : Lf} {k : Nat} (h : xs.findIdx? (fun y => decide (y = x)) = some k) : xs[k]? = some x := by
  rw [List.findIdx?_eq_some_iff_getElem] at h
  obtain ⟨h1, h2, _⟩ := h
  rw [List.getElem?_eq_getElem h1]
  simpa using h2
theorem find_mem {xs : List Lf} {x : Lf} (h : x ∈ xs) : ∃ k, xs.findIdx? (fun y => decide (y = x)) = some k := by
  cases hf : xs.findIdx? (fun y => decide (y = x)) with
  | some k => exact ⟨k, rfl⟩
  | none =>
    rw [List.findIdx?_eq_none_iff] at hf
    have := hf x h
    simp at this

/-- The leaves of a gathering that nothing was changed of. -/
theorem lvsNum_plain (i k : Nat) : lvsNum i k (fateF [] k) = if 0 < k then [⟨i, k, 0, 0⟩] else [] := by
  unfold lvsNum fateF
  simp
theorem lvsG_plain {i : Nat} {g : Gth} (h : g.chs = []) {x : Lf} : x ∈ lvsG i g ↔ x.gat = i ∧ 1 ≤ x.num ∧ x.num ≤ g.leaves ∧ x.plus = 0 ∧ x.kind = 0 := by
  unfold lvsG
  rw [h]
  simp only [List.mem_flatMap, List.mem_range, lvsNum_plain]
  constructor
  · rintro ⟨k, hk, hx⟩
    split at hx
    · simp only [List.mem_singleton] at hx
      subst hx
      exact ⟨rfl, by dsimp only; omega, by dsimp only; omega, rfl, rfl⟩
    · cases hx
  · rintro ⟨h1, h2, h3, h4, h5⟩
    refine ⟨x.num.toNat, by omega, ?_⟩
    rw [if_pos (by omega), List.mem_singleton]
    obtain ⟨a, b, c, d⟩ := x
    dsimp only at *
    subst h1 h4 h5
    congr 1
    omega
theorem mem_lvsFrom : ∀ {gs : List Gth} {i k : Nat} {g : Gth} {x : Lf}, gs[k]? = some g → x ∈ lvsG (i + k) g → x ∈ lvsFrom i gs
  | [], _, _, _, _, h, _ => by cases h
  | g :: gs, i, 0, g', x, h, hx => by
    simp only [List.getElem?_cons_zero, Option.some.injEq] at h
    subst h
    unfold lvsFrom
    exact List.mem_append_left _ hx
  | g :: gs, i, k + 1, g', x, h, hx => by
    unfold lvsFrom
    refine List.mem_append_right _ (mem_lvsFrom (k := k) (by simpa using h) ?_)
    rwa [show i + 1 + k = i + (k + 1) by omega]
theorem mem_lvs {b : Bk} {k : Nat} {g : Gth} {x : Lf} (h : b.gs[k]? = some g) (hx : x ∈ lvsG k g) : x ∈ lvs b := mem_lvsFrom h (by rwa [Nat.zero_add])
end Go.Proofs.YtockagnnpeoggaaGreatDoor

/- How many leaves a book has. Nothing of the program. -/
namespace Go.Proofs.YtockagnnpeoggaaGreatDoor
set_option linter.unusedSimpArgs false
set_option linter.unusedVariables false

theorem snoc_rec {α : Type} {motive : List α → Prop} (nil : motive []) (snoc : ∀ xs x, motive xs → motive (xs ++ [x])) (xs : List α) : motive xs := by
  have h : ∀ ys : List α, motive ys.reverse := fun ys => by
    induction ys with
    | nil => exact nil
    | cons y ys ih => rw [List.reverse_cons]; exact snoc _ _ ih
  rw [← List.reverse_reverse xs]
  exact h _
def sumR (f : Nat → Int) : Nat → Int
  | 0 => 0
  | n + 1 => sumR f n + f n
theorem sumR_congr {f g : Nat → Int} : ∀ {n : Nat}, (∀ k, k < n → f k = g k) → sumR f n = sumR g n
  | 0, _ => rfl
  | n + 1, h => by
    unfold sumR
    rw [sumR_congr fun k hk => h k (by omega), h n (by omega)]
theorem sumR_one {f g : Nat → Int} {p : Nat} : ∀ {n : Nat}, p < n → (∀ k, k < n → k ≠ p → f k = g k) → sumR f n = sumR g n + (f p - g p)
  | 0, h, _ => by omega
  | n + 1, hp, h => by
    unfold sumR
    by_cases e : p = n
    · subst e
      rw [sumR_congr (f := f) (g := g) fun k hk => h k (by omega) (by omega)]
      omega
    · rw [sumR_one (p := p) (n := n) (by omega) fun k hk hne => h k (by omega) hne, h n (by omega) (fun e' => e e'.symm)]
      omega
theorem flat_len {α : Type} (f : Nat → List α) : ∀ n : Nat, (((List.range n).flatMap f).length : Int) = sumR (fun k => (f k).length) n
  | 0 => by simp [sumR]
  | n + 1 => by
    rw [List.range_succ, List.flatMap_append, List.length_append]
    unfold sumR
    rw [← flat_len f n]
    simp
/-- How many leaves are at a number. -/
def cntF (k : Nat) (f : Fate) : Int := (if 0 < k ∧ f.gone = false then 1 else 0) + f.added
theorem cnt_is {i k : Nat} {f : Fate} (h : 0 ≤ f.added) : ((lvsNum i k f).length : Int) = cntF k f := by
  unfold lvsNum cntF
  rw [List.length_append, List.length_map, List.length_range]
  split <;> simp <;> omega
/-- Changes in their order. -/
def ltC (b c : Chg) : Prop := b.pos < c.pos ∨ (b.pos = c.pos ∧ c.kind = 3 ∧ b.kind ≠ 3)
theorem ltC_trans {a b c : Chg} (h1 : ltC a b) (h2 : ltC b c) : ltC a c := by unfold ltC at *; omega
theorem order_lt {b c : Chg} (h : orderB b c = true) : ltC b c := by
  unfold orderB at h
  unfold ltC
  split at h
  · simp only [Bool.and_eq_true, decide_eq_true_eq] at h
    omega
  · simp only [decide_eq_true_eq] at h
    omega
theorem chs_sorted : ∀ (cs : List Chg) (l : Int) (p : Option Chg) (i : Nat), (chsErr l p i cs).2 = 0 → cs.Pairwise ltC ∧ ∀ q, p = some q → ∀ c ∈ cs, ltC q c
  | [], _, _, _, _ => ⟨List.Pairwise.nil, fun _ _ _ h => by cases h⟩
  | x :: xs, l, p, i, h => by
    unfold chsErr at h
    by_cases h0 : chErr l p x = 0
    · rw [if_pos h0] at h
      obtain ⟨h1, h2⟩ := chs_sorted xs l (some x) (i + 1) h
      refine ⟨List.pairwise_cons.2 ⟨fun c hc => h2 x rfl c hc, h1⟩, fun q hq c hc => ?_⟩
      subst hq
      have hqx : ltC q x := by
        unfold chErr at h0
        by_cases hk : kindB x = false
        · rw [if_pos hk] at h0; omega
        rw [if_neg hk] at h0
        by_cases hr : rangeB x l = false
        · rw [if_pos hr] at h0; omega
        rw [if_neg hr] at h0
        dsimp only at h0
        by_cases ho : orderB q x = false
        · rw [if_pos ho] at h0; omega
        · exact order_lt (by simpa using ho)
      rcases List.mem_cons.1 hc with rfl | hc
      · exact hqx
      · exact ltC_trans hqx (h2 x rfl c hc)
    · rw [if_neg h0] at h; exact absurd h h0
/-- What a change adds to the leaves. -/
def addF (c : Chg) : Int := if c.kind = 1 then c.many - 1 else c.many
def sumC (cs : List Chg) : Int := (cs.map addF).sum
theorem fate_snoc (cs : List Chg) (c : Chg) (n : Int) : fateF (cs ++ [c]) n = fateStep n (fateF cs n) c := by unfold fateF; rw [List.foldl_append]; rfl
theorem fate_none : ∀ (cs : List Chg) (n : Int), (∀ c ∈ cs, c.pos ≠ n) → fateF cs n = ⟨false, false, 0⟩ := by
  intro cs
  induction cs using snoc_rec with
  | nil => intro n _; rfl
  | snoc cs c ih =>
    intro n h
    rw [fate_snoc, ih n fun x hx => h x (by simp [hx])]
    unfold fateStep
    rw [if_pos (h c (by simp))]
theorem fate_zero : ∀ (cs : List Chg) (n : Int), (∀ c ∈ cs, c.pos = n → c.kind ≠ 3) → (fateF cs n).added = 0 := by
  intro cs
  induction cs using snoc_rec with
  | nil => intro n _; rfl
  | snoc cs c ih =>
    intro n h
    have h1 := ih n fun x hx => h x (by simp [hx])
    rw [fate_snoc]
    unfold fateStep
    split
    · exact h1
    · rename_i hp
      have hk := h c (by simp) (by omega)
      split
      · exact h1
      · split
        · exact h1
        · first | exact h1 | (rw [if_neg hk]; exact h1)
theorem cnt_sum (n : Nat) : ∀ (cs : List Chg), cs.Pairwise ltC → (∀ c ∈ cs, (c.kind = 1 ∨ c.kind = 2 ∨ c.kind = 3) ∧ 0 ≤ c.pos ∧ c.pos ≤ n ∧ (c.kind ≠ 3 → 1 ≤ c.pos ∧ c.many = 0)) → sumR (fun k => cntF k (fateF cs k)) (n + 1) = n + sumC cs := by
  intro cs
  induction cs using snoc_rec with
  | nil =>
    intro _ _
    have : ∀ m : Nat, sumR (fun k => cntF k (fateF [] k)) (m + 1) = m := fun m => by
      induction m with
      | zero => simp [sumR, cntF, fateF]
      | succ m ih =>
        unfold sumR
        rw [ih]
        simp [cntF, fateF]
    rw [this n]
    simp [sumC]
  | snoc cs c ih =>
    intro hp hc
    rw [List.pairwise_append] at hp
    obtain ⟨hp1, -, hp2⟩ := hp
    obtain ⟨hk, h0, h1, h2⟩ := hc c (by simp)
    have hi := ih hp1 fun x hx => hc x (by simp [hx])
    have hlt : ∀ x ∈ cs, ltC x c := fun x hx => hp2 x hx c (by simp)
    have e1 : sumC (cs ++ [c]) = sumC cs + addF c := by simp [sumC]
    rw [e1, sumR_one (g := fun k => cntF k (fateF cs k)) (p := c.pos.toNat) (by omega) (fun k hkn hne => by
      try dsimp only
      rw [fate_snoc]
      unfold fateStep
      rw [if_pos (by omega)]), hi]
    try dsimp only
    rw [show ((c.pos.toNat : Nat) : Int) = c.pos by omega, fate_snoc]
    unfold fateStep
    rw [if_neg (by omega)]
    by_cases k1 : c.kind = 1
    · have hf := fate_none cs c.pos fun x hx e => by have := hlt x hx; unfold ltC at this; omega
      have h3 := h2 (by omega)
      rw [hf, if_pos k1]
      unfold cntF addF
      rw [if_pos k1]
      have : 0 < c.pos.toNat := by omega
      simp [this]
      omega
    by_cases k2 : c.kind = 2
    · have h3 := h2 (by omega)
      rw [if_neg k1, if_pos k2]
      unfold cntF addF
      rw [if_neg k1]
      dsimp only
      omega
    · have k3 : c.kind = 3 := by omega
      have hz := fate_zero cs c.pos fun x hx e => by have := hlt x hx; unfold ltC at this; omega
      rw [if_neg k1, if_neg k2, if_pos k3]
      unfold cntF addF
      rw [if_neg k1]
      dsimp only
      omega
theorem chs_facts {g : Gth} (h : GOk g) : g.chs.Pairwise ltC ∧ ∀ c ∈ g.chs, (c.kind = 1 ∨ c.kind = 2 ∨ c.kind = 3) ∧ 0 ≤ c.pos ∧ c.pos ≤ g.leaves.toNat ∧ (c.kind ≠ 3 → 1 ≤ c.pos ∧ c.many = 0) := by
  refine ⟨(chs_sorted _ _ _ _ h.chs).1, fun c hc => ?_⟩
  have hl := h.leaves
  obtain ⟨h1, h2, h3, h4, h5⟩ := h.ch hc
  refine ⟨h1, h2, by omega, fun hk => ?_⟩
  obtain ⟨_, hr⟩ := chsErr_zero h.chs c hc
  unfold rangeB at hr
  rw [if_neg hk] at hr
  simp only [Bool.and_eq_true, inB_iff, decide_eq_true_eq] at hr
  omega
theorem added_nonneg : ∀ (cs : List Chg) (n : Int), (∀ c ∈ cs, 0 ≤ c.many) → 0 ≤ (fateF cs n).added := by
  intro cs
  induction cs using snoc_rec with
  | nil => intro n _; simp [fateF]
  | snoc cs c ih =>
    intro n h
    have h1 := ih n fun x hx => h x (by simp [hx])
    rw [fate_snoc]
    unfold fateStep
    split
    · exact h1
    · split
      · exact h1
      · split
        · exact h1
        · split
          · exact h c (by simp)
          · exact h1
/-- HOW MANY LEAVES A GATHERING HAS. -/
theorem lvsG_count {i : Nat} {g : Gth} (h : GOk g) : ((lvsG i g).length : Int) = g.leaves + sumC g.chs := by
  have hl := h.leaves
  obtain ⟨h1, h2⟩ := chs_facts h
  have e : (g.leaves + 1).toNat = g.leaves.toNat + 1 := by omega
  unfold lvsG
  rw [e, flat_len, sumR_congr (g := fun k => cntF k (fateF g.chs k)) fun k _ => cnt_is (added_nonneg _ _ fun c hc => (h.ch hc).2.2.2.1), cnt_sum _ _ h1 h2]
  omega
def sumG (gs : List Gth) : Int := (gs.map fun g => g.leaves + sumC g.chs).sum
theorem lvsFrom_count : ∀ (gs : List Gth) (i : Nat), (∀ g ∈ gs, GOk g) → ((lvsFrom i gs).length : Int) = sumG gs
  | [], _, _ => rfl
  | g :: gs, i, h => by
    unfold lvsFrom sumG
    rw [List.length_append, List.map_cons, List.sum_cons]
    have h1 := lvsG_count (i := i) (h g (by simp))
    have h2 := lvsFrom_count gs (i + 1) fun x hx => h x (by simp [hx])
    unfold sumG at h2
    omega
end Go.Proofs.YtockagnnpeoggaaGreatDoor
