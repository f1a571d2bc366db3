/- The parts Wg of the proof, joined. It holds without conditions of its own. -/
import Derived.Test.YtockagnnpeoggaaGreatDoorMT43
import Derived.Test.YtockagnnpeoggaaGreatDoorMT16
/- Contracts of formula and Write. -/
namespace Go.Proofs.YtockagnnpeoggaaGreatDoor
set_option linter.unusedSimpArgs false
set_option linter.unusedVariables false
open Go Go.RowKit Go.Sort Go.BigFrame

theorem itmT_len {x : Itm} (h : ItOk x) : (itmT x).length ≤ 39 := by
  have h1 := sigT_len x.fr x.fl
  have h2 := sigT_len x.lr x.ll
  have h3 := dec_len x.leaves
  have h4 := chsT_len h.few
  unfold itmT
  split <;> simp only [List.length_append, List.length_cons] <;> omega
/-- The text of some items, one behind the other. -/
def itmsT (xs : List Itm) : Bs := xs.flatMap fun x => itmT x ++ [32]
theorem itmsT_len {xs : List Itm} (h : ∀ x ∈ xs, ItOk x) : (itmsT xs).length ≤ xs.length * 40 := by
  unfold itmsT
  refine flatMap_len fun x hx => ?_
  have := itmT_len (h x hx)
  simp only [List.length_append, List.length_singleton]
  omega
theorem itmsT_take {xs : List Itm} {k : Nat} {x : Itm} (h : xs[k]? = some x) : itmsT (xs.take (k + 1)) = itmsT (xs.take k) ++ (itmT x ++ [32]) := by
  unfold itmsT
  rw [(take_split h).2]
  simp

set_option maxRecDepth 100000 in
set_option maxHeartbeats 4000000 in
theorem formula_any (sg : Int) (ys : List (Itm × Value)) (v : Value) (w : World) (hs : 0 ≤ sg ∧ sg < 100) (hv : ItsAt w v ys) (hc : ∀ y ∈ ys, ChsAt w.heap.size w y.2 y.1.chs) (ho : ∀ y ∈ ys, ItOk y.1) (hn : ys.length ≤ 100) :
    Calls Tryz.prog 55 #[.int .i64 sg, v] w fun e w' => e = .returned (S (formulaT sg (ys.map (·.1)))) ∧ Below w.heap.size w w' := by
  obtain ⟨a, cap, rfl, hcell⟩ := hv
  obtain ⟨n, hnn⟩ : ∃ n, n = ys.length := ⟨_, rfl⟩
  have HCE := Lib.hid hcell
  have HCH := Lib.hid hc
  have HO := Lib.hid ho
  have HN := Lib.hid hnn
  have hn' : n ≤ 100 := by omega
  rw [← hnn]
  have zsp : (⟨#[32]⟩ : ByteArray).size ≤ 1 := by decide
  have zdo : (⟨#[36]⟩ : ByteArray).size ≤ 1 := by decide
  have zsg : (⟨(dec sg).toArray⟩ : ByteArray).size ≤ 2 := by rw [size_bytes]; exact dec_len sg
  clear hcell hc ho hnn hn
  go_enter Tryz.func55, Tryz.ntmps55
  go_wp2_with fail
  go_loopw [5, 10] (fun t i wr => ∃ (k : Nat) (tx : Bs), k ≤ n ∧ i = .int .i64 k ∧ t = S tx ∧ Hid (tx = itmsT ((ys.take k).map (·.1))) ∧ Hid (Below w.heap.size w wr)) (fun _ i _ => n - (intOf i).toNat)
  case atStart => exact ⟨0, [], by omega, rfl, rfl, rfl, Below.refl _ _⟩
  case round =>
    obtain ⟨k, tx, hk, rfl, rfl, HT, HB⟩ := hrel
    have htl : tx.length ≤ 4000 := by
      rw [HT.out]
      have := itmsT_len (xs := (ys.take k).map (·.1)) fun x hx => by
        obtain ⟨y, hy, rfl⟩ := List.mem_map.1 hx
        exact HO.out y (List.mem_of_mem_take hy)
      simp only [List.length_map, List.length_take] at this
      omega
    have ztx : (⟨tx.toArray⟩ : ByteArray).size ≤ 4000 := by rw [size_bytes]; exact htl
    have hz := HB.out.size
    by_cases hlt : k < n
    · obtain ⟨y, hy⟩ : ∃ y, ys[k]? = some y := ⟨_, List.getElem?_eq_getElem (by have := HN.out; omega)⟩
      have hym := List.mem_of_getElem? hy
      have hyo := HO.out y hym
      have hyc := HCH.out y hym
      obtain ⟨b, rfl, hbw, hcl⟩ := HCE.out (fun e => by rw [e] at hy; cases hy)
      obtain ⟨q0, q1, q2, q3, q4, q5, q6⟩ := hcl k y hy
      have hst : Hid (itmsT ((ys.take (k + 1)).map (·.1)) = tx ++ (itmT y.1 ++ [32])) := by
        show _ = _
        rw [HT.out, List.map_take, List.map_take]
        exact itmsT_take (by rw [List.getElem?_map, hy]; rfl)
      have hcl' : ∀ i v, w.cell? ⟨b, i, none⟩ = some v → wr.cell? ⟨b, i, none⟩ = some v := fun i v h => (HB.out.cell (p := ⟨b, i, none⟩) hbw).trans h
      have q0 := hcl' _ _ q0
      have q1 := hcl' _ _ q1
      have q2 := hcl' _ _ q2
      have q3 := hcl' _ _ q3
      have q4 := hcl' _ _ q4
      have q5 := hcl' _ _ q5
      have q6 := hcl' _ _ q6
      obtain ⟨x, xv⟩ := y
      dsimp only at hyc hyo q0 q1 q2 q3 q4 q5 q6
      have HYC := Lib.hid hyc
      have HYO := Lib.hid hyo
      obtain ⟨xa, xcap, rfl, -⟩ := hyc
      have zit : (⟨(itmT x).toArray⟩ : ByteArray).size ≤ 39 := by rw [size_bytes]; exact itmT_len hyo
      have zis : ((⟨(itmT x).toArray⟩ : ByteArray) ++ ⟨#[32]⟩).size ≤ 40 := by rw [ByteArray.size_append]; omega
      clear hcl hcl' hy hym hyo htl HT
      go_wp2_with fail
      refine (itemText_any x (.slice xa x.chs.length xcap) _ HYO.out (((HYC.out.same (fun j hj => HB.out.block j hj)).mono hz).below (C := wr.heap.size) (by exact (by repeat (first | exact Below.refl _ _ | assumption | (refine Below.alloc ?_ ?_ _; rotate_left; · (first | omega | (simp; done) | (simp; omega) | fail)) | (refine Below.setCell ?_ ?_ _; rotate_left; · (first | omega | (simp; done) | (simp; omega) | fail)) | refine Below.drew ?_ | fail))) (Nat.le_refl _) |>.mono (by simp))).mono ?_
      rintro e w2 ⟨rfl, hb⟩
      have HB2 := Lib.hid (HB.out.trans (Below.trans (by exact (by repeat (first | exact Below.refl _ _ | assumption | (refine Below.alloc ?_ ?_ _; rotate_left; · (first | omega | (simp; done) | (simp; omega) | fail)) | (refine Below.setCell ?_ ?_ _; rotate_left; · (first | omega | (simp; done) | (simp; omega) | fail)) | refine Below.drew ?_ | fail))) (hb.mono (by simp; omega))))
      clear hb q0 q1 q2 q3 q4 q5 q6 HB
      go_wp2_with fail
      rw [show (⟨#[32]⟩ : ByteArray) = ⟨[32].toArray⟩ from rfl, cat_bytes, cat_bytes]
      go_roundw
      case rel => exact ⟨k + 1, _, by omega, by go_num, rfl, hst.out.symm, HB2⟩
      case measure => simp [intOf]; omega
    · obtain rfl : k = n := by omega
      have hF : Hid (formulaT sg (ys.map (·.1)) = (tx ++ [36]) ++ dec sg) := by
        show _ = _
        rw [HT.out, HN.out, List.take_length]
        simp [formulaT, itmsT]
      have ztd : ((⟨tx.toArray⟩ : ByteArray) ++ ⟨#[36]⟩).size ≤ 4001 := by rw [ByteArray.size_append]; omega
      clear htl HT
      go_wp2_with fail
      refine (Itoa_any sg hs.1 hs.2 _).mono ?_
      rintro e w2 ⟨rfl, rfl⟩
      go_wp2_with fail
      go_ret
      exact ⟨ret_S (by rw [hF.out, show (⟨#[36]⟩ : ByteArray) = ⟨[36].toArray⟩ from rfl, cat_bytes, cat_bytes]), HB.out⟩

end Go.Proofs.YtockagnnpeoggaaGreatDoor
