/- The parts Wb, Wc of the proof, joined. It holds without conditions of its own. -/
import Derived.Test.YtimdmgkegdlafaaGreatDoorCH26
import Derived.Test.YtimdmgkegdlafaaGreatDoorCH20
/- How the changes of a gathering are written. -/
namespace Go.Proofs.YtimdmgkegdlafaaGreatDoor
set_option linter.unusedSimpArgs false
set_option linter.unusedVariables false
open Go Go.RowKit Go.Sort Go.BigFrame

theorem join_eq (s : UInt8) : ∀ xs : List (List UInt8), Lib.join xs [s] = joinB s xs
  | [] => rfl
  | [x] => by simp [Lib.join, List.intercalate, joinB]
  | x :: y :: xs => by
    have ih := join_eq s (y :: xs)
    simp only [Lib.join, List.intercalate] at ih ⊢
    simp [joinB, ← ih]
theorem elemStr : ∃ i, Tryz.prog.info? 9 = some i ∧ i.zero = some (.string ⟨#[]⟩) ∧ i.size = 1 ∧ i.bytes = 16 := elemOf (by kernel_rfl)
theorem undStrs : Tryz.prog.underlying 68 = some (.slice 9) := by kernel_rfl
/-- A change that a book can have. -/
def ChOk (c : Chg) : Prop := (c.kind = 1 ∨ c.kind = 2 ∨ c.kind = 3) ∧ 0 ≤ c.pos ∧ c.pos < 100 ∧ 0 ≤ c.many ∧ c.many < 100

theorem inv1 (v : Value) (w : World) : (invoke (.fn (.method "duodecimo/quire.text") #[]) #[.iface 161 v]).run Tryz.prog w = .ok (.enter 139 #[v]) w := by kernel_rfl
theorem inv2 (v : Value) (w : World) : (invoke (.fn (.method "duodecimo/quire.text") #[]) #[.iface 162 v]).run Tryz.prog w = .ok (.enter 140 #[v]) w := by kernel_rfl
theorem inv3 (v : Value) (w : World) : (invoke (.fn (.method "duodecimo/quire.text") #[]) #[.iface 164 v]).run Tryz.prog w = .ok (.enter 141 #[v]) w := by kernel_rfl

set_option maxRecDepth 100000 in
set_option maxHeartbeats 1000000 in
theorem changesText_any (B : Nat) (cs : List Chg) (v : Value) (w : World) (hB : B ≤ w.heap.size) (hcs : ChsAt B w v cs) (hl : cs.length ≤ 100) (hok : ∀ c ∈ cs, ChOk c) :
    Calls Tryz.prog 82 #[v] w fun e w' => e = .returned (S (chsT cs)) ∧ Below w.heap.size w w' := by
  obtain ⟨a, cap, rfl, hc⟩ := hcs
  cases hcs : cs with
  | nil =>
    subst hcs
    go_enter Tryz.func82, Tryz.ntmps82
    go_wp2_with fail
    go_ret
    exact ⟨rfl, (by repeat (first | (refine Below.setCell ?_ ?_ _; rotate_left; · (first | omega | (simp; done) | (simp; omega) | fail)) | (refine Below.alloc ?_ ?_ _; rotate_left; · (first | omega | (simp; done) | (simp; omega) | fail)) | refine Below.drew ?_ | exact Below.refl _ _ | fail))⟩
  | cons c0 cs0 =>
    rw [← hcs]
    have hne : cs ≠ [] := by rw [hcs]; simp
    obtain ⟨b, off, rfl, hbB, hcell⟩ := hc hne
    obtain ⟨n, hn⟩ : ∃ n, n = cs.length := ⟨_, rfl⟩
    have hn1 : 1 ≤ n := by rw [hn, hcs]; simp
    have hnl : n ≤ 100 := by omega
    have hN0 : ((n : Int) == 0) = false := by simp; omega
    have HC := Lib.hid hcell
    have HO := Lib.hid hok
    have HN := Lib.hid hn
    have HT : Hid (chsT cs = 40 :: joinB 44 (cs.map chT) ++ [41]) := by show _ = _; simp [chsT, hne]
    rw [← hn]
    clear hcell hok hn hc hl hne hcs
    go_enter Tryz.func82, Tryz.ntmps82
    go_wp2_with fail
    go_loopw [3, 11] (fun v i wr => ∃ k : Nat, k ≤ n ∧ i = .int .i64 k ∧ Hid (wr.ownsRow w.heap.size 9 1 v k ((cs.take k).map fun c => S (chT c))) ∧ Hid (Below w.heap.size w wr)) (fun _ i _ => n - (intOf i).toNat)
    case atStart => exact ⟨0, by omega, rfl, World.ownsRow_nil _ _ _ _, Below.refl _ _⟩
    case round =>
      obtain ⟨k, hk, rfl, hR, hbr⟩ := hrel
      by_cases hlt : k < n
      · obtain ⟨c, hc⟩ : ∃ c, cs[k]? = some c := ⟨_, List.getElem?_eq_getElem (by have := HN.out; omega)⟩
        obtain ⟨k0, k1, k2⟩ := HC.out k c hc
        have hcell : ∀ i v, w.cell? ⟨b, i, none⟩ = some v → wr.cell? ⟨b, i, none⟩ = some v := fun i v h => (hbr.out.cell (p := ⟨b, i, none⟩) (show b < w.heap.size by omega)).trans h
        have q0 := hcell _ _ k0
        have q1 := hcell _ _ k1
        have q2 := hcell _ _ k2
        have HCC := Lib.hid hc
        obtain ⟨hk', p0, p1, m0, m1⟩ := HO.out c (List.mem_of_getElem? hc)
        have hz := hbr.out.size
        clear hcell k0 k1 k2 hc
        go_wp2_with fail
        refine (deedOf_any c _).mono ?_
        rintro e w1 ⟨rfl, hb1⟩
        have hb2 : Below w.heap.size w w1 := hbr.out.trans (Below.trans (by exact (by repeat (first | (refine Below.setCell ?_ ?_ _; rotate_left; · (first | omega | (simp; done) | (simp; omega) | fail)) | (refine Below.alloc ?_ ?_ _; rotate_left; · (first | omega | (simp; done) | (simp; omega) | fail)) | refine Below.drew ?_ | exact Below.refl _ _ | fail))) (hb1.mono (by simp; omega)))
        have hR2 := Lib.hid (row_later hR.out (Below.trans (by exact (by repeat (first | (refine Below.setCell ?_ ?_ _; rotate_left; · (first | omega | (simp; done) | (simp; omega) | fail)) | (refine Below.alloc ?_ ?_ _; rotate_left; · (first | omega | (simp; done) | (simp; omega) | fail)) | refine Below.drew ?_ | exact Below.refl _ _ | fail))) (hb1.mono (by simp))))
        have HB2 := Lib.hid hb2
        have hz2 := hb2.size
        clear hb1 hb2 hR hbr q0 q1 q2
        rcases hk' with h1 | h1 | h1
        · have e1 : deedV c = .iface 161 (.agg #[.int .i64 c.pos]) := by simp [deedV, h1]
          have e2 : Hid (chT c = 45 :: dec c.pos) := by show _ = _; simp [chT, h1]
          rw [e1]
          clear e1 h1
          go_wp2_with fail
          refine (takenText_any c.pos ⟨p0, p1⟩ _).mono ?_
          rintro e w2 ⟨rfl, hb2⟩
          rw [← e2.out]
          have hb3 : Below w.heap.size w w2 := HB2.out.trans (hb2.mono hz2)
          have hR3 := Lib.hid (row_later hR2.out hb2)
          have HB3 := Lib.hid hb3
          have hz3 := hb3.size
          obtain ⟨ei, hi1, hi2, hi3, hi4⟩ := elemStr
          clear hb2 hb3 HB2 hR2 e2
          go_wp2_with (at_builtin; refine wpList_append_own _ rfl _ _ 68 rfl w.heap.size 9 ei _ 1 16 undStrs hi1 hi2 hi3 hi4 rfl (by decide) u3 k ((cs.take k).map fun c => S (chT c)) rfl (hR3.out.alloc _) ⟨w2.heap.size, 0, none⟩ 1 1 [S (chT c)] rfl rfl ?c1 ?c2 ?c3 ?c4 ?c5 ?c6)
          case c1 => exact cells_new _ _ _
          case c2 => simp [Value.oneCell']
          case c3 => simp only [maxLen]; omega
          case c4 => omega
          case c5 => simp; omega
          case c6 =>
            rintro v' w' hown hgrow -
            have hb4 : Below w.heap.size w w' := HB3.out.trans (((Below.refl w.heap.size w2).alloc hz3 _).grown hgrow (by simp; omega) (fun j ej => (hR3.out.lt j ej).1))
            have HB4 := Lib.hid hb4
            have HW := Lib.hid hown
            clear hgrow hb4 hown
            go_wp2_with fail
            go_roundw
            case rel => exact ⟨k + 1, by omega, by go_num, by rw [(take_split HCC.out).2, List.map_append, List.map_take]; exact HW, HB4⟩
            case measure => simp [intOf]; omega
        · have e1 : deedV c = .iface 162 (.agg #[.int .i64 c.pos]) := by simp [deedV, h1]
          have e2 : Hid (chT c = 61 :: dec c.pos) := by show _ = _; simp [chT, h1]
          rw [e1]
          clear e1 h1
          go_wp2_with fail
          refine (cancelledText_any c.pos ⟨p0, p1⟩ _).mono ?_
          rintro e w2 ⟨rfl, hb2⟩
          rw [← e2.out]
          have hb3 : Below w.heap.size w w2 := HB2.out.trans (hb2.mono hz2)
          have hR3 := Lib.hid (row_later hR2.out hb2)
          have HB3 := Lib.hid hb3
          have hz3 := hb3.size
          obtain ⟨ei, hi1, hi2, hi3, hi4⟩ := elemStr
          clear hb2 hb3 HB2 hR2 e2
          go_wp2_with (at_builtin; refine wpList_append_own _ rfl _ _ 68 rfl w.heap.size 9 ei _ 1 16 undStrs hi1 hi2 hi3 hi4 rfl (by decide) u3 k ((cs.take k).map fun c => S (chT c)) rfl (hR3.out.alloc _) ⟨w2.heap.size, 0, none⟩ 1 1 [S (chT c)] rfl rfl ?c1 ?c2 ?c3 ?c4 ?c5 ?c6)
          case c1 => exact cells_new _ _ _
          case c2 => simp [Value.oneCell']
          case c3 => simp only [maxLen]; omega
          case c4 => omega
          case c5 => simp; omega
          case c6 =>
            rintro v' w' hown hgrow -
            have hb4 : Below w.heap.size w w' := HB3.out.trans (((Below.refl w.heap.size w2).alloc hz3 _).grown hgrow (by simp; omega) (fun j ej => (hR3.out.lt j ej).1))
            have HB4 := Lib.hid hb4
            have HW := Lib.hid hown
            clear hgrow hb4 hown
            go_wp2_with fail
            go_roundw
            case rel => exact ⟨k + 1, by omega, by go_num, by rw [(take_split HCC.out).2, List.map_append, List.map_take]; exact HW, HB4⟩
            case measure => simp [intOf]; omega
        · have e1 : deedV c = .iface 164 (.agg #[.int .i64 c.pos, .int .i64 c.many]) := by simp [deedV, h1]
          have e2 : Hid (chT c = dec c.pos ++ 43 :: dec c.many) := by show _ = _; simp [chT, h1]
          rw [e1]
          clear e1 h1
          go_wp2_with fail
          refine (putInText_any c.pos c.many ⟨p0, p1⟩ ⟨m0, m1⟩ _).mono ?_
          rintro e w2 ⟨rfl, hb2⟩
          rw [← e2.out]
          have hb3 : Below w.heap.size w w2 := HB2.out.trans (hb2.mono hz2)
          have hR3 := Lib.hid (row_later hR2.out hb2)
          have HB3 := Lib.hid hb3
          have hz3 := hb3.size
          obtain ⟨ei, hi1, hi2, hi3, hi4⟩ := elemStr
          clear hb2 hb3 HB2 hR2 e2
          go_wp2_with (at_builtin; refine wpList_append_own _ rfl _ _ 68 rfl w.heap.size 9 ei _ 1 16 undStrs hi1 hi2 hi3 hi4 rfl (by decide) u3 k ((cs.take k).map fun c => S (chT c)) rfl (hR3.out.alloc _) ⟨w2.heap.size, 0, none⟩ 1 1 [S (chT c)] rfl rfl ?c1 ?c2 ?c3 ?c4 ?c5 ?c6)
          case c1 => exact cells_new _ _ _
          case c2 => simp [Value.oneCell']
          case c3 => simp only [maxLen]; omega
          case c4 => omega
          case c5 => simp; omega
          case c6 =>
            rintro v' w' hown hgrow -
            have hb4 : Below w.heap.size w w' := HB3.out.trans (((Below.refl w.heap.size w2).alloc hz3 _).grown hgrow (by simp; omega) (fun j ej => (hR3.out.lt j ej).1))
            have HB4 := Lib.hid hb4
            have HW := Lib.hid hown
            clear hgrow hb4 hown
            go_wp2_with fail
            go_roundw
            case rel => exact ⟨k + 1, by omega, by go_num, by rw [(take_split HCC.out).2, List.map_append, List.map_take]; exact HW, HB4⟩
            case measure => simp [intOf]; omega
      · obtain rfl : k = n := by omega
        have HR := hR
        obtain ⟨g, capg, rfl, hgl, hcap, hcl⟩ : ∃ g capg, u3 = .slice (some ⟨g, 0, none⟩) k capg ∧ g < wr.heap.size ∧ k ≤ capg ∧ ∀ j c, cs[j]? = some c → wr.cell? ⟨g, 0 + j, none⟩ = some (S (chT c)) := by
          rcases hR.out.2 with ⟨-, h0⟩ | ⟨g, cap, cur, rfl, hbg, hg, hnc, hrest⟩
          · omega
          · refine ⟨g, cap, rfl, blk_lt hg, hnc, fun j c hj => ?_⟩
            have hc := hR.out.cells (g := g) (by simp [Value.ownBlock])
            have := hc j (S (chT c)) (by rw [List.getElem?_map, List.take_of_length_le (by have := HN.out; omega), hj]; rfl)
            rw [add_off'] at this
            rwa [Nat.zero_add]
        have HCL := Lib.hid hcl
        have HBR := hbr
        have hzr := hbr.out.size
        have e1 : Hid ((cs.map fun c => (⟨(chT c).toArray⟩ : ByteArray)).length = k) := by show _ = _; rw [List.length_map, ← HN.out]
        have hj : Hid (Lib.join ((cs.map fun c => (⟨(chT c).toArray⟩ : ByteArray)).map (·.data.toList)) (⟨#[44]⟩ : ByteArray).data.toList = joinB 44 (cs.map chT)) := by
          show _ = _
          rw [List.map_map, show ((fun b : ByteArray => b.data.toList) ∘ fun c => (⟨(chT c).toArray⟩ : ByteArray)) = chT from rfl]
          exact join_eq 44 _
        have hlen : Hid ((joinB 44 (cs.map chT)).length ≤ 1000) := by
          show _ ≤ _
          have := joinB_len (s := 44) (n := 5) (xs := cs.map chT) fun x hx => by
            obtain ⟨c, -, rfl⟩ := List.mem_map.1 hx
            exact chT_len c
          simp only [List.length_map, ← HN.out] at this
          omega
        clear hcl hR hbr
        go_wp2_with fail
        have hJ := Tryz.strings_Join g 0 capg (cs.map fun c => (⟨(chT c).toArray⟩ : ByteArray)) ⟨#[44]⟩ wr (fun j x hx => by
            rw [List.getElem?_map] at hx
            cases hc : cs[j]? with
            | none => rw [hc] at hx; cases hx
            | some c =>
              rw [hc] at hx
              simp only [Option.map_some, Option.some.injEq] at hx
              rw [← hx]
              exact HCL.out j c hc) hgl (by rw [e1.out]; omega) (by rw [e1.out]; exact hcap) (by rw [hj.out]; exact Nat.le_trans hlen.out (by decide))
        rw [e1.out, hj.out] at hJ
        refine hJ.mono ?_
        rintro e w2 ⟨rfl, hb2⟩
        have HB2 := Lib.hid (HBR.out.trans (hb2.mono hzr))
        have zj : (⟨(joinB 44 (cs.map chT)).toArray⟩ : ByteArray).size ≤ 1000 := by rw [size_bytes]; exact hlen.out
        have zq : (⟨#[40]⟩ : ByteArray).size ≤ 1 := by decide
        have zr : (⟨#[41]⟩ : ByteArray).size ≤ 1 := by decide
        have zt : ((⟨#[40]⟩ : ByteArray) ++ ⟨(joinB 44 (cs.map chT)).toArray⟩).size ≤ 1001 := by rw [ByteArray.size_append]; omega
        clear hJ hb2
        go_wp2_with fail
        go_ret
        exact ⟨ret_S (by rw [HT.out, show (⟨#[40]⟩ : ByteArray) = ⟨[40].toArray⟩ from rfl, show (⟨#[41]⟩ : ByteArray) = ⟨[41].toArray⟩ from rfl, cat_bytes, cat_bytes]; rfl), HB2.out⟩

end Go.Proofs.YtimdmgkegdlafaaGreatDoor

/- How an item of a formula is written; whether it takes one more gathering. -/
namespace Go.Proofs.YtimdmgkegdlafaaGreatDoor
set_option linter.unusedSimpArgs false
set_option linter.unusedVariables false
open Go Go.RowKit Go.Sort Go.BigFrame

/-- An item that a formula of a book has. -/
structure ItOk (x : Itm) : Prop where
  first : sigB x.fr x.fl = true
  last : sigB x.lr x.ll = true
  leaves : 0 ≤ x.leaves ∧ x.leaves < 100
  few : x.chs.length ≤ 4
  chs : ∀ c ∈ x.chs, ChOk c

def itmV' (x : Itm) (cv : Value) : Value := .agg #[.int .i64 x.kind, .int .i64 x.fr, .int .i64 x.fl, .int .i64 x.lr, .int .i64 x.ll, .int .i64 x.leaves, cv]
set_option maxRecDepth 100000 in
set_option maxHeartbeats 2000000 in
theorem itemText_any (x : Itm) (cv : Value) (w : World) (hx : ItOk x) (hc : ChsAt w.heap.size w cv x.chs) :
    Calls Tryz.prog 49 #[itmV' x cv] w fun e w' => e = .returned (S (itmT x)) ∧ Below w.heap.size w w' := by
  obtain ⟨kd, fr, fl, lr, ll, lv, chs⟩ := x
  have HC := Lib.hid hc
  obtain ⟨a, cap, rfl, -⟩ := hc
  dsimp only at HC
  obtain ⟨h1, h2, ⟨l0, l1⟩, hf, hch⟩ := hx
  dsimp only at h1 h2 l0 l1 hf hch
  have H1 := Lib.hid h1
  have H2 := Lib.hid h2
  have HCH := Lib.hid hch
  have hf' : chs.length ≤ 100 := by omega
  have z1 : (⟨(sigT fr fl).toArray⟩ : ByteArray).size ≤ 5 := by rw [size_bytes]; exact sigT_len fr fl
  have z2 : (⟨(sigT lr ll).toArray⟩ : ByteArray).size ≤ 5 := by rw [size_bytes]; exact sigT_len lr ll
  have z3 : (⟨(dec lv).toArray⟩ : ByteArray).size ≤ 2 := by rw [size_bytes]; exact dec_len lv
  have z4 : (⟨(chsT chs).toArray⟩ : ByteArray).size ≤ 26 := by rw [size_bytes]; exact chsT_len hf
  have zd : (⟨#[45]⟩ : ByteArray).size ≤ 1 := by decide
  obtain ⟨w1, hw1⟩ : ∃ w1, w1 = w.alloc (.cells #[.int .i64 kd, .int .i64 fr, .int .i64 fl, .int .i64 lr, .int .i64 ll, .int .i64 lv, .slice a chs.length cap] 102) := ⟨_, rfl⟩
  have hb1 : Below w.heap.size w w1 := by rw [hw1]; exact (by repeat (first | exact Below.refl _ _ | assumption | (refine Below.alloc ?_ ?_ _; rotate_left; · (first | omega | (simp; done) | (simp; omega) | fail)) | (refine Below.setCell ?_ ?_ _; rotate_left; · (first | omega | (simp; done) | (simp; omega) | fail)) | refine Below.drew ?_ | fail))
  have q1 : w1.heap[w.heap.size]? = some (.cells #[.int .i64 kd, .int .i64 fr, .int .i64 fl, .int .i64 lr, .int .i64 ll, .int .i64 lv, .slice a chs.length cap] 102) := by rw [hw1]; exact (by repeat (first | exact heap_alloc_at _ _ _ (by (first | omega | (simp; done) | (simp; omega) | fail)) | (refine (heap_alloc_past _ _ _ ?_).trans ?_; · (first | omega | (simp; done) | (simp; omega) | fail)) | fail))
  have HB := Lib.hid hb1
  have HQ := Lib.hid q1
  unfold itmV'
  dsimp only
  clear h1 h2 hch hf
  go_enter Tryz.func49, Tryz.ntmps49
  go_wp2_with fail
  rw [← hw1]
  clear hw1 hb1
  have c0 := blk_cell q1 0; have c1 := blk_cell q1 1; have c2 := blk_cell q1 2; have c3 := blk_cell q1 3; have c4 := blk_cell q1 4; have c5 := blk_cell q1 5; have c6 := blk_cell q1 6
  clear q1
  have hz1 := HB.out.size
  refine (sigText_any fr fl H1.out _).mono ?_
  rintro e w2 ⟨rfl, hb2⟩
  have HB2 := Lib.hid (HB.out.trans (hb2.mono hz1))
  have HQ2 := Lib.hid (blk_later hb2 HQ.out)
  have hz2 := HB2.out.size
  clear hb2 c0 c1 c2 c3 c4 c5 c6
  have c0 := blk_cell HQ2.out 0; have c1 := blk_cell HQ2.out 1; have c2 := blk_cell HQ2.out 2; have c3 := blk_cell HQ2.out 3; have c4 := blk_cell HQ2.out 4; have c5 := blk_cell HQ2.out 5; have c6 := blk_cell HQ2.out 6
  by_cases hk : kd = 1
  · have HR : Hid (itmT ⟨kd, fr, fl, lr, ll, lv, chs⟩ = (sigT fr fl ++ ([45] ++ sigT lr ll)) ++ dec lv ++ chsT chs) := by show _ = _; simp [itmT, hk]
    have hkb : (kd == 1) = true := by simp [hk]
    clear hk
    go_wp2_with fail
    refine (sigText_any lr ll H2.out _).mono ?_
    rintro e w4 ⟨rfl, hb4⟩
    have HBW := Lib.hid (HB2.out.trans (hb4.mono hz2))
    have HQW := Lib.hid (blk_later hb4 HQ2.out)
    have zt : ((⟨#[45]⟩ : ByteArray) ++ ⟨(sigT lr ll).toArray⟩).size ≤ 6 := by rw [ByteArray.size_append]; omega
    clear hb4 c0 c1 c2 c3 c4 c5 c6
    go_wp2_with fail
    rw [show (⟨#[45]⟩ : ByteArray) = ⟨[45].toArray⟩ from rfl, cat_bytes, cat_bytes]
    have zA : (⟨(sigT fr fl ++ ([45] ++ sigT lr ll)).toArray⟩ : ByteArray).size ≤ 11 := by rw [size_bytes] at *; simp at *; omega
    obtain ⟨tx, htx⟩ : ∃ tx, tx = sigT fr fl ++ ([45] ++ sigT lr ll) := ⟨_, rfl⟩
    have HR := Lib.hid (htx ▸ HR.out)
    rw [← htx] at zA ⊢
    clear htx
    -- the text so far is A; the world W; HBW : Below .. w W; HQW : the item's box
    have hzW := HBW.out.size
    have c0 := blk_cell HQW.out 0; have c1 := blk_cell HQW.out 1; have c2 := blk_cell HQW.out 2; have c3 := blk_cell HQW.out 3; have c4 := blk_cell HQW.out 4; have c5 := blk_cell HQW.out 5; have c6 := blk_cell HQW.out 6
    have r5 := cell_regrown c5
    have r6 := cell_regrown c6
    have cI : ∀ d os, Calls Tryz.prog 50 #[.int .i64 lv] (grow (redrawn w4 d) os) (fun e w'' => e = .returned (S (dec lv)) ∧ ∃ p : Regrown, w'' = grow (redrawn w4 p.d) p.os) := fun d os => Calls.regrown_of ((Itoa_any lv l0 l1 _).mono fun e w' ⟨h1, h2⟩ => ⟨h1, h2 ▸ Below.refl _ _⟩)
    have cC : ∀ d os, Calls Tryz.prog 82 #[.slice a chs.length cap] (grow (redrawn w4 d) os) (fun e w'' => e = .returned (S (chsT chs)) ∧ ∃ p : Regrown, w'' = grow (redrawn w4 p.d) p.os) := fun d os => Calls.regrown_of (changesText_any w.heap.size chs _ _ (Nat.le_trans hzW (below_regrown w4 d os).size) (HC.out.below (HBW.out.trans ((below_regrown w4 d os).mono hzW)) (Nat.le_refl _)) hf' HCH.out)
    have zB : ((⟨(tx).toArray⟩ : ByteArray) ++ ⟨(dec lv).toArray⟩).size ≤ 13 := by rw [ByteArray.size_append]; omega
    refine wp_region_quiet_below (by kernel_rfl) (by kernel_rfl) ?_; (repeat (go_big_quiet_step (first | exact cI _ _ | exact cC _ _))); refine wpQuiet_nil ?_; rintro w3 ⟨⟨d3, os3⟩, rfl⟩
    have hb13 := below_regrown w4 d3 os3
    have hb3 := HBW.out.trans (hb13.mono hzW)
    clear cI cC r5 r6 c0 c1 c2 c3 c4 c5 c6 hb13
    go_wp2_with fail
    go_ret
    exact ⟨ret_S (by rw [HR.out, cat_bytes, cat_bytes]), hb3⟩
  · have HR : Hid (itmT ⟨kd, fr, fl, lr, ll, lv, chs⟩ = sigT fr fl ++ dec lv ++ chsT chs) := by show _ = _; simp [itmT, hk]
    have hkb : (kd == 1) = false := by simp [hk]
    clear hk
    have HBW := HB2
    have HQW := HQ2
    go_wp2_with fail
    clear c0 c1 c2 c3 c4 c5 c6
    have zA := z1
    -- the text so far is A; the world W; HBW : Below .. w W; HQW : the item's box
    have hzW := HBW.out.size
    have c0 := blk_cell HQW.out 0; have c1 := blk_cell HQW.out 1; have c2 := blk_cell HQW.out 2; have c3 := blk_cell HQW.out 3; have c4 := blk_cell HQW.out 4; have c5 := blk_cell HQW.out 5; have c6 := blk_cell HQW.out 6
    have r5 := cell_regrown c5
    have r6 := cell_regrown c6
    have cI : ∀ d os, Calls Tryz.prog 50 #[.int .i64 lv] (grow (redrawn w2 d) os) (fun e w'' => e = .returned (S (dec lv)) ∧ ∃ p : Regrown, w'' = grow (redrawn w2 p.d) p.os) := fun d os => Calls.regrown_of ((Itoa_any lv l0 l1 _).mono fun e w' ⟨h1, h2⟩ => ⟨h1, h2 ▸ Below.refl _ _⟩)
    have cC : ∀ d os, Calls Tryz.prog 82 #[.slice a chs.length cap] (grow (redrawn w2 d) os) (fun e w'' => e = .returned (S (chsT chs)) ∧ ∃ p : Regrown, w'' = grow (redrawn w2 p.d) p.os) := fun d os => Calls.regrown_of (changesText_any w.heap.size chs _ _ (Nat.le_trans hzW (below_regrown w2 d os).size) (HC.out.below (HBW.out.trans ((below_regrown w2 d os).mono hzW)) (Nat.le_refl _)) hf' HCH.out)
    have zB : ((⟨((sigT fr fl)).toArray⟩ : ByteArray) ++ ⟨(dec lv).toArray⟩).size ≤ 13 := by rw [ByteArray.size_append]; omega
    refine wp_region_quiet_below (by kernel_rfl) (by kernel_rfl) ?_; (repeat (go_big_quiet_step (first | exact cI _ _ | exact cC _ _))); refine wpQuiet_nil ?_; rintro w3 ⟨⟨d3, os3⟩, rfl⟩
    have hb13 := below_regrown w2 d3 os3
    have hb3 := HBW.out.trans (hb13.mono hzW)
    clear cI cC r5 r6 c0 c1 c2 c3 c4 c5 c6 hb13
    go_wp2_with fail
    go_ret
    exact ⟨ret_S (by rw [HR.out, cat_bytes, cat_bytes]), hb3⟩

end Go.Proofs.YtimdmgkegdlafaaGreatDoor
