/- The parts Cf, Pc, Lx, Ck, Cm, Cn, Pb of the proof, joined. It holds without conditions of its own. -/
import Derived.Test.YtimdmgkegdlafaaGreatDoorCH29
import Derived.Test.YtimdmgkegdlafaaGreatDoorCH20
import Derived.Test.YtimdmgkegdlafaaGreatDoorCH12
import Derived.Test.YtimdmgkegdlafaaGreatDoorCH2
import Derived.Test.YtimdmgkegdlafaaGreatDoorCH15
import Derived.BigRegion
import Derived.Test.YtimdmgkegdlafaaGreatDoorCH27
import Derived.Test.YtimdmgkegdlafaaGreatDoorCH16
/- The reference's Check: it answers as the program's. -/
namespace Go.Proofs.YtimdmgkegdlafaaGreatDoor
set_option linter.unusedSimpArgs false
set_option linter.unusedVariables false
open Go Go.RowKit Go.Sort Go.BigFrame

theorem refGs_step {gs : List Gth} {k : Nat} {g : Gth} (hk : gs[k]? = some g) (h0 : refGth (gs.take k) g = 0) : refGs (gs.take k) k (gs.drop k) = refGs (gs.take (k + 1)) (k + 1) (gs.drop (k + 1)) := by
  have hl := (List.getElem?_eq_some_iff.1 hk).1
  have e : gs.drop k = g :: gs.drop (k + 1) := by
    rw [List.drop_eq_getElem_cons hl]; congr 1; exact Option.some.inj ((List.getElem?_eq_getElem hl).symm.trans hk)
  rw [e, refGs, if_pos h0, List.take_add_one, hk]
  rfl
theorem refGs_stop {gs : List Gth} {k : Nat} {g : Gth} (hk : gs[k]? = some g) (h0 : refGth (gs.take k) g ≠ 0) : refGs (gs.take k) k (gs.drop k) = (k, refGth (gs.take k) g) := by
  have hl := (List.getElem?_eq_some_iff.1 hk).1
  have e : gs.drop k = g :: gs.drop (k + 1) := by
    rw [List.drop_eq_getElem_cons hl]; congr 1; exact Option.some.inj ((List.getElem?_eq_getElem hl).symm.trans hk)
  rw [e, refGs, if_neg h0]
theorem okG_take {gs : List Gth} {k : Nat} {g : Gth} (hk : gs[k]? = some g) (h : OkG (gs.take k)) (h0 : refGth (gs.take k) g = 0) : OkG (gs.take (k + 1)) := by
  rw [List.take_add_one, hk]
  exact okG_snoc h g h0

set_option maxRecDepth 100000 in
set_option maxHeartbeats 800000 in
/-- CHECK, AS THE REFERENCE HAS IT. -/
theorem refCheck_any (b : Bk) (v : Value) (w : World) (hb : BookAt w.heap.size w v b) :
    Calls Tryz.prog 25 #[v] w fun e w' => e = .returned (checkR b) ∧ Below w.heap.size w w' := by
  obtain ⟨sv, rfl, hgs⟩ := hb
  have HG := Lib.hid hgs
  obtain ⟨a, cap, rfl, -⟩ := hgs
  cases h1 : inB 0 12 b.signed with
  | false =>
    have HV : Hid (checkR b = .tuple #[.int .i64 1, .int .i64 0, .int .i64 7]) := Lib.hid (by simp [checkR, checkF, h1])
    have H1 := Lib.hid h1
    clear h1
    go_enter Tryz.func25, Tryz.ntmps25
    go_wp2_with fail
    refine (refIn_any b.signed 0 12 _).mono ?_
    rintro e w1 ⟨rfl, hb1⟩
    rw [H1.out]
    have hb0 : Below w.heap.size w w1 := Below.trans (by exact (by repeat (first | (refine Below.setCell ?_ ?_ _; rotate_left; · (first | omega | (simp; done) | (simp; omega) | fail)) | (refine Below.alloc ?_ ?_ _; rotate_left; · (first | omega | (simp; done) | (simp; omega) | fail)) | refine Below.drew ?_ | exact Below.refl _ _ | fail))) (hb1.mono (by simp; try omega))
    clear hb1
    go_wp2_with fail
    go_ret3
    exact ⟨by rw [HV.out]; rfl, hb0⟩
  | true =>
  have H1 := Lib.hid h1
  cases h2 : inB 1 30 b.gs.length with
  | false =>
    have HV : Hid (checkR b = .tuple #[.int .i64 1, .int .i64 0, .int .i64 3]) := Lib.hid (by simp [checkR, checkF, h1, h2])
    have H2 := Lib.hid h2
    clear h1 h2
    go_enter Tryz.func25, Tryz.ntmps25
    go_wp2_with fail
    refine (refIn_any b.signed 0 12 _).mono ?_
    rintro e w1 ⟨rfl, hb1⟩
    rw [H1.out]
    have k1 : w1.cell? ⟨w.heap.size, 1, none⟩ = some (.slice a b.gs.length cap) := cell_later' hb1 (by simp [World.cell?_alloc_at])
    have hb0 : Below w.heap.size w w1 := Below.trans (by exact (by repeat (first | (refine Below.setCell ?_ ?_ _; rotate_left; · (first | omega | (simp; done) | (simp; omega) | fail)) | (refine Below.alloc ?_ ?_ _; rotate_left; · (first | omega | (simp; done) | (simp; omega) | fail)) | refine Below.drew ?_ | exact Below.refl _ _ | fail))) (hb1.mono (by simp; try omega))
    clear hb1
    go_wp2_with fail
    refine (refIn_any b.gs.length 1 30 _).mono ?_
    rintro e w2 ⟨rfl, hb2⟩
    rw [H2.out]
    have hb0 := hb0.trans (hb2.mono hb0.size)
    clear hb2
    go_wp2_with fail
    go_ret3
    exact ⟨by rw [HV.out]; rfl, hb0⟩
  | true =>
    have hlen : 1 ≤ b.gs.length ∧ b.gs.length ≤ 30 := by simp [inB] at h2; omega
    have HV : Hid (checkR b = if (refGs [] 0 b.gs).2 = 0 then .tuple #[.int .i64 0, .int .i64 0, .int .i64 0] else .tuple #[.int .i64 2, .int .i64 (refGs [] 0 b.gs).1, .int .i64 (refGs [] 0 b.gs).2]) := Lib.hid (by
      rw [refGs_is b.gs [] 0 okG_nil]
      show checkR b = if (gsErr [] (0, 0) 0 b.gs).2 = 0 then _ else _
      unfold checkR checkF
      rw [if_neg (by rw [h1]; decide), if_neg (by rw [h2]; decide)]
      split <;> rfl)
    have H2 := Lib.hid h2
    clear h1 h2
    go_enter Tryz.func25, Tryz.ntmps25
    go_wp2_with fail
    refine (refIn_any b.signed 0 12 _).mono ?_
    rintro e w1 ⟨rfl, hb1⟩
    rw [H1.out]
    have k0 : w1.cell? ⟨w.heap.size, 0, none⟩ = some (.int .i64 b.signed) := cell_later' hb1 (by simp [World.cell?_alloc_at])
    have k1 : w1.cell? ⟨w.heap.size, 1, none⟩ = some (.slice a b.gs.length cap) := cell_later' hb1 (by simp [World.cell?_alloc_at])
    have hb0 : Below w.heap.size w w1 := Below.trans (by exact (by repeat (first | (refine Below.setCell ?_ ?_ _; rotate_left; · (first | omega | (simp; done) | (simp; omega) | fail)) | (refine Below.alloc ?_ ?_ _; rotate_left; · (first | omega | (simp; done) | (simp; omega) | fail)) | refine Below.drew ?_ | exact Below.refl _ _ | fail))) (hb1.mono (by simp; try omega))
    clear hb1
    go_wp2_with fail
    refine (refIn_any b.gs.length 1 30 _).mono ?_
    rintro e w2 ⟨rfl, hb2⟩
    rw [H2.out]
    have k0 := cell_later' hb2 k0
    have k1 := cell_later' hb2 k1
    have HB2 := Lib.hid (hb0.trans (hb2.mono hb0.size))
    clear hb2 hb0
    go_wp2_with fail
    go_loopw [5] (fun q wr => ∃ (j : Nat), j ≤ b.gs.length ∧ q = .int .i64 j ∧ Hid (refGs [] 0 b.gs = refGs (b.gs.take j) j (b.gs.drop j)) ∧ Hid (OkG (b.gs.take j)) ∧ Below w2.heap.size w2 wr) (fun q _ => b.gs.length - (intOf q).toNat)
    case atStart => exact ⟨0, by omega, rfl, rfl, okG_nil, Below.refl _ _⟩
    case round =>
      obtain ⟨j, hj, rfl, hT, hO, hbr⟩ := hrel
      have k0 := cell_later' hbr k0
      have k1 := cell_later' hbr k1
      have hb0 := HB2.out.trans (hbr.mono HB2.out.size)
      by_cases hlt : j < b.gs.length
      · obtain ⟨g, hg⟩ : ∃ g, b.gs[j]? = some g := ⟨_, List.getElem?_eq_getElem hlt⟩
        have HGJ := Lib.hid hg
        have hca := refGathering_any b.signed b.gs a _ cap j g _ ((HG.out.below hb0 (Nat.le_refl _)).mono hb0.size) hg (by omega) hO.out.sig
        have HCA := Lib.hid hca
        clear hca hg
        go_wp2_with fail
        refine HCA.out.mono ?_
        rintro e w7 ⟨rfl, hb7⟩
        have HB7 := Lib.hid (hbr.trans (hb7.mono hbr.size))
        have HB8 := Lib.hid (hb0.trans (hb7.mono hb0.size))
        clear hb7 HCA k0 k1 hb0 hbr
        obtain ⟨er, her⟩ : ∃ er, er = refGth (b.gs.take j) g := ⟨_, rfl⟩
        rw [← her]
        have HER := Lib.hid her
        clear her
        by_cases h0 : er = 0
        · subst h0
          go_wp2_with fail
          go_roundw
          case rel => exact ⟨j + 1, by omega, by go_num, hT.out.trans (refGs_step HGJ.out HER.out.symm), okG_take HGJ.out hO.out HER.out.symm, HB7.out⟩
          case measure => simp [intOf]; omega
        · have e0 : (er != 0) = true := by simp [h0]
          have HV4 := Lib.hid (hT.out.trans (refGs_stop HGJ.out (fun h => h0 (HER.out.trans h))))
          have HV5 : Hid (checkR b = .tuple #[.int .i64 2, .int .i64 j, .int .i64 er]) := Lib.hid (by
            rw [HV.out, HV4.out, ← HER.out]
            exact if_neg h0)
          clear h0 HV HV4 hT
          go_wp2_with fail
          go_ret3
          exact ⟨by rw [HV5.out]; rfl, HB8.out⟩
      · have HV5 : Hid (checkR b = .tuple #[.int .i64 0, .int .i64 0, .int .i64 0]) := Lib.hid (by
          rw [HV.out, hT.out, List.drop_of_length_le (by omega)]
          rfl)
        clear HV hT
        go_wp2_with fail
        go_ret3
        exact ⟨by rw [HV5.out]; rfl, hb0⟩
end Go.Proofs.YtimdmgkegdlafaaGreatDoor

/- A list of leaves in memory. -/
namespace Go.Proofs.YtimdmgkegdlafaaGreatDoor
set_option linter.unusedSimpArgs false
set_option linter.unusedVariables false
open Go Go.RowKit Go.Sort Go.BigFrame Go.Shelf

/-- A slice of leaves. -/
def LfsAt (W : World) (v : Value) (xs : List Lf) : Prop :=
  ∃ (a : Option Addr) (cap : Nat), v = .slice a xs.length cap ∧ (xs ≠ [] → ∃ g, a = some ⟨g, 0, none⟩ ∧ g < W.heap.size ∧ ∀ i x, xs[i]? = some x → W.cell? ⟨g, i * 4, none⟩ = some (.int .i64 x.gat) ∧ W.cell? ⟨g, i * 4 + 1, none⟩ = some (.int .i64 x.num) ∧
    W.cell? ⟨g, i * 4 + 2, none⟩ = some (.int .i64 x.plus) ∧ W.cell? ⟨g, i * 4 + 3, none⟩ = some (.int .i64 x.kind))
theorem LfsAt.of_row {W : World} {base : Nat} {v : Value} {e : TypeId} {xs : List Lf} (h : W.ownsRow base e 4 v xs.length (lfCells xs)) : LfsAt W v xs := by
  rcases h.2 with ⟨rfl, h0⟩ | ⟨g, cap, cur, rfl, hb, hg, rest⟩
  · exact ⟨none, 0, by rw [h0], fun hne => absurd (List.length_eq_zero_iff.1 h0) hne⟩
  · refine ⟨_, cap, rfl, fun _ => ⟨g, rfl, blk_lt hg, fun i x hx => ?_⟩⟩
    have hcl := h.cells (g := g) (by simp [Value.ownBlock])
    have hf := flat_at (f := fun x : Lf => [Value.int .i64 x.gat, .int .i64 x.num, .int .i64 x.plus, .int .i64 x.kind]) (n := 4) (fun _ => rfl) hx
    have q : ∀ j u, j < 4 → ([Value.int .i64 x.gat, .int .i64 x.num, .int .i64 x.plus, .int .i64 x.kind])[j]? = some u → W.cell? ⟨g, i * 4 + j, none⟩ = some u := fun j u hj hu => by
      have := hcl _ _ ((hf j hj).trans hu)
      rwa [add_off'] at this
    exact ⟨q 0 _ (by omega) rfl, q 1 _ (by omega) rfl, q 2 _ (by omega) rfl, q 3 _ (by omega) rfl⟩
theorem LfsAt.later {W W' : World} {v : Value} {xs : List Lf} (h : LfsAt W v xs) (hb : Below W.heap.size W W') : LfsAt W' v xs := by
  obtain ⟨a, cap, rfl, h⟩ := h
  refine ⟨a, cap, rfl, fun hne => ?_⟩
  obtain ⟨g, rfl, hg, hc⟩ := h hne
  refine ⟨g, rfl, Nat.lt_of_lt_of_le hg hb.size, fun i x hx => ?_⟩
  obtain ⟨h0, h1, h2, h3⟩ := hc i x hx
  have hq : ∀ j u, W.cell? ⟨g, j, none⟩ = some u → W'.cell? ⟨g, j, none⟩ = some u := fun j u hu => (hb.cell (p := ⟨g, j, none⟩) hg).trans hu
  exact ⟨hq _ _ h0, hq _ _ h1, hq _ _ h2, hq _ _ h3⟩
theorem LfsAt.get {W : World} {a : Option Addr} {n cap : Nat} {xs : List Lf} (h : LfsAt W (.slice a n cap) xs) {i : Nat} {x : Lf} (hx : xs[i]? = some x) : ∃ g, a = some ⟨g, 0, none⟩ ∧ g < W.heap.size ∧ W.cell? ⟨g, i * 4, none⟩ = some (.int .i64 x.gat) ∧ W.cell? ⟨g, i * 4 + 1, none⟩ = some (.int .i64 x.num) ∧
    W.cell? ⟨g, i * 4 + 2, none⟩ = some (.int .i64 x.plus) ∧ W.cell? ⟨g, i * 4 + 3, none⟩ = some (.int .i64 x.kind) := by
  obtain ⟨a', cap', e, hc⟩ := h
  cases e
  obtain ⟨g, h1, h2, h3⟩ := hc (fun e => by rw [e] at hx; cases hx)
  exact ⟨g, h1, h2, h3 i x hx⟩
/-- How many leaves a book has, at most. -/
theorem lvs_few {b : Bk} (hok : BOk b) : (lvs b).length ≤ 1950 := by
  have h1 : ∀ (gs : List Gth) (i : Nat), (∀ g ∈ gs, GOk g) → (lvsFrom i gs).length ≤ gs.length * 65 := by
    intro gs
    induction gs with
    | nil => intro i _; simp [lvsFrom]
    | cons g gs ih =>
      intro i h
      have h2 := ih (i + 1) (fun x hx => h x (by simp [hx]))
      have hg := h g (by simp)
      have hl := hg.leaves
      have h3 : (lvsG i g).length ≤ 13 * 5 := by
        unfold lvsG
        refine Nat.le_trans (flatMap_len (n := 5) fun k _ => ?_) (by rw [List.length_range]; omega)
        have := lvsNum_len (i := i) (k := k) (f := fateF g.chs k)
        have := fate_added (cs := g.chs) (num := k) fun c hc => ⟨(hg.ch hc).2.2.2.1, (hg.ch hc).2.2.2.2⟩
        omega
      simp only [lvsFrom, List.length_append, List.length_cons]
      omega
  have := h1 b.gs 0 hok.gs
  have := hok.len
  show (lvsFrom 0 b.gs).length ≤ _
  omega
end Go.Proofs.YtimdmgkegdlafaaGreatDoor

/- What the laws of books share: a valid book, and its box. -/
namespace Go.Proofs.YtimdmgkegdlafaaGreatDoor
set_option linter.unusedSimpArgs false
set_option linter.unusedVariables false
open Go Go.RowKit Go.Sort Go.BigFrame Go.Shelf
attribute [local go_sem] Oper.semAt_some putAll

set_option maxRecDepth 100000 in
set_option maxHeartbeats 400000 in
theorem valid_any (b : Bk) (v : Value) (w : World) (hb : BookAt w.heap.size w v b) :
    Calls Tryz.prog 13 #[v] w fun e w' => e = .returned (.bool (errF b == 0)) ∧ Below w.heap.size w w' := by
  have HB := Lib.hid hb
  obtain ⟨sv, rfl, hgs⟩ := hb
  obtain ⟨a, cap, rfl, -⟩ := hgs
  have HR : Hid (checkR b = .tuple #[.int .i64 (checkF b).1, .int .i64 (checkF b).2.1, .int .i64 (errF b)]) := Lib.hid rfl
  go_enter Tryz.func13, Tryz.ntmps13
  go_wp2_with fail
  refine (refCheck_any b _ _ ((HB.out.below (by exact (by repeat (first | (refine Below.setCell ?_ ?_ _; rotate_left; · (first | omega | (simp; done) | (simp; omega) | fail)) | (refine Below.alloc ?_ ?_ _; rotate_left; · (first | omega | (simp; done) | (simp; omega) | fail)) | refine Below.drew ?_ | exact Below.refl _ _ | fail))) (Nat.le_refl _)).mono (by simp; try omega))).mono ?_
  rintro e w1 ⟨rfl, hb1⟩
  rw [HR.out]
  have hb0 : Below w.heap.size w w1 := Below.trans (by exact (by repeat (first | (refine Below.setCell ?_ ?_ _; rotate_left; · (first | omega | (simp; done) | (simp; omega) | fail)) | (refine Below.alloc ?_ ?_ _; rotate_left; · (first | omega | (simp; done) | (simp; omega) | fail)) | refine Below.drew ?_ | exact Below.refl _ _ | fail))) (hb1.mono (by simp; try omega))
  clear hb1
  go_wp2_with fail
  go_ret
  exact ⟨rfl, hb0⟩

/-- A book in its box. -/
structure BkBox (w W : World) (X : Nat) (b : Bk) (a : Option Addr) (cap : Nat) : Prop where
  box : W.heap[X]? = some (.cells #[.int .i64 b.signed, .slice a b.gs.length cap] 24)
  book : BookAt W.heap.size W (.agg #[.int .i64 b.signed, .slice a b.gs.length cap]) b
  below : Below w.heap.size w W
theorem BkBox.later {w W W' : World} {X : Nat} {b : Bk} {a : Option Addr} {cap : Nat} (h : BkBox w W X b a cap) (hb : Below W.heap.size W W') : BkBox w W' X b a cap :=
  ⟨blk_later hb h.box, (h.book.below hb (Nat.le_refl _)).mono hb.size, h.below.trans (hb.mono h.below.size)⟩
theorem BkBox.start {w : World} {b : Bk} {a : Option Addr} {cap : Nat} (h : BookAt w.heap.size w (.agg #[.int .i64 b.signed, .slice a b.gs.length cap]) b) : BkBox w (w.alloc (.cells #[.int .i64 b.signed, .slice a b.gs.length cap] 24)) w.heap.size b a cap :=
  ⟨World.alloc_heap_new _ _, (h.below ((Below.refl _ w).alloc (Nat.le_refl _) _) (Nat.le_refl _)).mono (by simp), (Below.refl _ w).alloc (Nat.le_refl _) _⟩
theorem BkBox.gth {w W : World} {X : Nat} {b : Bk} {a : Option Addr} {cap : Nat} (h : BkBox w W X b a cap) {i : Nat} {g : Gth} (hg : b.gs[i]? = some g) :
    ∃ bb off, a = some ⟨bb, off, none⟩ ∧ bb < W.heap.size ∧ ∃ ca ccap, ChsAt W.heap.size W (.slice ca g.chs.length ccap) g.chs ∧ W.cell? ⟨bb, off + i * 4, none⟩ = some (.int .i64 g.round) ∧ W.cell? ⟨bb, off + i * 4 + 1, none⟩ = some (.int .i64 g.letter) ∧
      W.cell? ⟨bb, off + i * 4 + 2, none⟩ = some (.int .i64 g.leaves) ∧ W.cell? ⟨bb, off + i * 4 + 3, none⟩ = some (.slice ca g.chs.length ccap) := by
  obtain ⟨sv, e, hgs⟩ := h.book
  have : sv = .slice a b.gs.length cap := by
    simp only [Value.agg.injEq, Array.mk.injEq, List.cons.injEq, true_and, and_true] at e
    exact e.symm
  subst this
  exact hgs.get hg
theorem cell_al {W : World} {b i : Nat} {v : Value} (h : W.cell? ⟨b, i, none⟩ = some v) (hb : b < W.heap.size) (o : Obj) : (W.alloc o).cell? ⟨b, i, none⟩ = some v := by
  rw [← h]; exact World.cell?_of_block (heap_alloc_past _ _ _ (by omega))
theorem cell_al2 {W : World} {b i : Nat} {v : Value} (h : W.cell? ⟨b, i, none⟩ = some v) (hb : b < W.heap.size) (o o' : Obj) : ((W.alloc o).alloc o').cell? ⟨b, i, none⟩ = some v :=
  cell_al (cell_al h hb o) (by simp; omega) o'
end Go.Proofs.YtimdmgkegdlafaaGreatDoor

/- The reference's list of all leaves: what its loops keep. (The walk itself is yet to be written.) -/
namespace Go.Proofs.YtimdmgkegdlafaaGreatDoor
set_option linter.unusedSimpArgs false
set_option linter.unusedVariables false
open Go Go.RowKit Go.Sort Go.BigFrame Go.Shelf

theorem ty_ne1 : (24 : TypeId) ≠ 89 := by decide
theorem ty_ne2 : (42 : TypeId) ≠ 89 := by decide
/-- A block of another type stays when a row of leaves grows. -/
theorem grown_block {W W' : World} {base : Nat} {v : Value} {n k : Nat} {xs : List Value} {c : Array Value} {t : TypeId} {f : Nat × Nat} (hr : W.ownsRow base 89 4 v n xs) (hg : W.grownBy W' v.ownBlock) (hk : W.heap[k]? = some (.cells c t f)) (ht : t ≠ 89) : W'.heap[k]? = some (.cells c t f) := by
  rw [← hk]
  refine hg.block k (Array.getElem?_eq_some_iff.1 hk).1 fun e => ?_
  rcases hr.2 with ⟨rfl, _⟩ | ⟨g, cap, cur, rfl, _, h, _⟩
  · simp [Value.ownBlock] at e
  · simp only [Value.ownBlock, Option.some.injEq] at e
    subst e
    rw [hk] at h
    simp only [Option.some.injEq, Obj.cells.injEq] at h
    exact ht h.2.1
/-- What is kept while the leaves are gathered: the book's box, and the row. -/
structure Al (w W : World) (b : Bk) (a : Option Addr) (cap : Nat) (v : Value) (xs : List Lf) : Prop where
  box : W.heap[w.heap.size]? = some (.cells #[.int .i64 b.signed, .slice a b.gs.length cap] 24)
  gs : GsAt w.heap.size W (.slice a b.gs.length cap) b.gs
  row : W.ownsRow (w.heap.size + 1) 89 4 v xs.length (lfCells xs)
  below : Below w.heap.size w W
theorem Al.later {w W W' : World} {b : Bk} {a : Option Addr} {cap : Nat} {v : Value} {xs : List Lf} (h : Al w W b a cap v xs) (hb : Below W.heap.size W W') : Al w W' b a cap v xs :=
  ⟨blk_later hb h.box, h.gs.below hb h.below.size, row_later h.row hb, h.below.trans (hb.mono h.below.size)⟩
/-- One more leaf. -/
theorem Al.add {w W W' : World} {b : Bk} {a : Option Addr} {cap : Nat} {v v' : Value} {xs : List Lf} {x : Lf} (h : Al w W b a cap v xs)
    (hr : W'.ownsRow (w.heap.size + 1) 89 4 v' (xs.length + 1) (lfCells xs ++ [.int .i64 x.gat, .int .i64 x.num, .int .i64 x.plus, .int .i64 x.kind])) (hg : W.grownBy W' v.ownBlock) : Al w W' b a cap v' (xs ++ [x]) := by
  have hbl : Below w.heap.size W W' := ((Below.refl _ W).mono h.below.size).grown hg h.below.size (fun k hk => by
    have := (h.row.lt k hk).1
    omega)
  refine ⟨grown_block h.row hg h.box ty_ne1, h.gs.below hbl (Nat.le_refl _), ?_, h.below.trans hbl⟩
  rw [List.length_append]
  simpa [lfCells] using hr
end Go.Proofs.YtimdmgkegdlafaaGreatDoor

/- The reference's list of all leaves: it is lvs. -/
namespace Go.Proofs.YtimdmgkegdlafaaGreatDoor
set_option linter.unusedSimpArgs false
set_option linter.unusedVariables false
open Go Go.RowKit Go.Sort Go.BigFrame Go.Shelf

theorem cells_at (W : World) (l : List Value) (t : TypeId) (n : Nat) (hn : n = W.heap.size) : ∀ j u, l[j]? = some u → (W.alloc (.cells l.toArray t)).cell? ((⟨n, 0, none⟩ : Addr).add j) = some u := by
  subst hn
  intro j u h
  rw [add_off']
  unfold World.cell?
  rw [World.alloc_heap_new]
  simpa using h

end Go.Proofs.YtimdmgkegdlafaaGreatDoor

/- The reference's Leaves. -/
namespace Go.Proofs.YtimdmgkegdlafaaGreatDoor
set_option linter.unusedSimpArgs false
set_option linter.unusedVariables false
open Go Go.RowKit Go.Sort Go.BigFrame Go.Shelf
attribute [local go_sem] Oper.semAt_some putAll

end Go.Proofs.YtimdmgkegdlafaaGreatDoor

/- Plain facts of mates. -/
namespace Go.Proofs.YtimdmgkegdlafaaGreatDoor
set_option linter.unusedSimpArgs false
set_option linter.unusedVariables false

theorem turned_is {b : Bk} {x : Lf} {g : Gth} (hg : b.gs[x.gat]? = some g) : turnedL b x = ⟨x.gat, g.leaves + 1 - x.num, x.plus, x.kind⟩ := by unfold turnedL; rw [hg]
theorem turned_back {b : Bk} {x : Lf} {g : Gth} (hg : b.gs[x.gat]? = some g) : turnedL b (turnedL b x) = x := by
  rw [turned_is hg, turned_is (by exact hg)]
  obtain ⟨a, n, p, k⟩ := x
  dsimp only
  congr 1
  omega
theorem getL_nat {α : Type} (xs : List α) (i : Nat) : getL xs (i : Int) = xs[i]? := by
  unfold getL
  rw [if_neg (by omega), Int.toNat_natCast]
/-- What is so of a leaf that has a mate. -/
structure MateOk (b : Bk) (i k : Nat) (x y : Lf) (g : Gth) : Prop where
  at_ : (lvs b)[k]? = some y
  gat : y.gat = x.gat
  num : y.num + x.num = g.leaves + 1
  kx : x.kind = 0
  ky : y.kind = 0
  ne : k ≠ i
  back : mateF b k = some i
theorem mate_ok {b : Bk} {i k : Nat} {x : Lf} {g : Gth} (hx : (lvs b)[i]? = some x) (hg : b.gs[x.gat]? = some g) (h : mateF b i = some k) : ∃ y, MateOk b i k x y g := by
  unfold mateF at h
  rw [getL_nat, hx] at h
  dsimp only at h
  split at h
  · rename_i hc
    have hk := find_some h
    have ht := turned_is hg
    refine ⟨turnedL b x, hk, by rw [ht], by rw [ht]; dsimp only; omega, hc.1, by rw [ht]; exact hc.1, fun e => ?_, ?_⟩
    · subst e
      rw [hx] at hk
      exact hc.2 (Option.some.inj hk).symm
    · unfold mateF
      rw [getL_nat, hk]
      dsimp only
      rw [turned_back hg, if_pos ⟨by rw [ht]; exact hc.1, fun e => hc.2 e.symm⟩]
      exact find_at (lvs_sorted b) hx
  · cases h
theorem mate_none {b : Bk} (hok : BOk b) {i : Nat} {x : Lf} {g : Gth} (hx : (lvs b)[i]? = some x) (hg : b.gs[x.gat]? = some g) (h : mateF b i = none) : g.chs ≠ [] ∨ g.leaves = 1 := by
  by_cases hc : g.chs = []
  · refine Or.inr ?_
    have hf := (hok.gs g (List.mem_of_getElem? hg)).folded
    obtain ⟨g', hg', hm⟩ := lvs_mem (List.mem_of_getElem? hx)
    rw [hg] at hg'
    cases hg'
    rw [lvsG_plain hc] at hm
    by_cases h1 : g.leaves = 1
    · exact h1
    exfalso
    have he : g.leaves % 2 = 0 := by
      simp only [foldedB, Bool.or_eq_true, Bool.and_eq_true, decide_eq_true_eq] at hf
      omega
    have ht := turned_is hg
    have hy : turnedL b x ∈ lvs b := mem_lvs hg (by
      rw [lvsG_plain hc, ht]
      exact ⟨rfl, by dsimp only; omega, by dsimp only; omega, hm.2.2.2.1, hm.2.2.2.2⟩)
    obtain ⟨k, hk⟩ := find_mem hy
    unfold mateF at h
    rw [getL_nat, hx] at h
    dsimp only at h
    rw [if_pos ⟨hm.2.2.2.2, fun e => by
      have e' := congrArg Lf.num (ht.symm.trans e)
      dsimp only at e'
      omega⟩, hk] at h
    cases h
  · exact Or.inl hc
end Go.Proofs.YtimdmgkegdlafaaGreatDoor
