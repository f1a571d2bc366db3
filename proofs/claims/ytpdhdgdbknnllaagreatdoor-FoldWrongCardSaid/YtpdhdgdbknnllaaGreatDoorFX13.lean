/- The parts Tj, Ud, Ue, Kfu, Kfz, Kfq of the proof, joined. It holds without conditions of its own. -/
import Derived.Test.YtpdhdgdbknnllaaGreatDoorFX12
import Derived.Deep.RegionHeld3
import Derived.Test.YtpdhdgdbknnllaaGreatDoorFX11
import Derived.Deep.Cut
import Derived.Test.YtpdhdgdbknnllaaGreatDoorFX4
set_option maxRecDepth 100000
set_option maxHeartbeats 20000000
namespace Go.Proofs.YtpdhdgdbknnllaaGreatDoor
section
set_option linter.unusedSimpArgs false
set_option linter.unusedVariables false
open Go Go.RowKit Go.Sort Go.BigFrame
def U16sAt (W : World) (v : Value) (xs : List Nat) : Prop :=
 ∃ (a : Option Addr) (cap : Nat), v = .slice a xs.length cap /\ (∀ x ∈ xs, x < 65536) /\ (xs ≠ [] -> ∃ b off, a = some ⟨b, off, none⟩ /\ b < W.heap.size /\ ∀ (i x : Nat), xs[i]? = some x -> W.cell? ⟨b, off + i, none⟩ = some (.int .u16 (x : Int)))
theorem U16sAt.later {W W' : World} {v : Value} {xs : List Nat} (h : U16sAt W v xs) (hb : Below W.heap.size W W') : U16sAt W' v xs := by
 obtain ⟨a, cap, e, h0, hc⟩ := h
 refine ⟨a, cap, e, h0, fun hne => ?_⟩
 obtain ⟨b, off, h1, h2, h3⟩ := hc hne
 exact ⟨b, off, h1, Nat.lt_of_lt_of_le h2 hb.size, fun i x hx => cell_later' hb (h3 i x hx)⟩
def turnN (xs : List Nat) (n : Nat) : Nat := if xs.length = 0 then 0 else xs.getD (n % xs.length) 0
theorem turnN_lt {W : World} {v : Value} {xs : List Nat} (h : U16sAt W v xs) (n : Nat) : turnN xs n < 65536 := by
 obtain ⟨a, cap, -, h0, -⟩ := h
 unfold turnN
 split
 · omega
 · rename_i hne
   have hlt : n % xs.length < xs.length := Nat.mod_lt _ (by omega)
   rw [List.getD_eq_getElem?_getD, List.getElem?_eq_getElem hlt]
   exact h0 _ (List.getElem_mem hlt)
theorem turn_any (xs : List Nat) (v : Value) (n : Nat) (w : World) (hv : U16sAt w v xs) :
  Calls Tryz.prog 49 #[v, .int .i64 n] w fun e w' => e = .returned (.int .i64 (turnN xs n)) /\ w' = w := by
 have HV := Lib.hid hv
 obtain ⟨a, cap, rfl, hx16, hc⟩ := hv
 have HX16 := Lib.hid hx16
 have HC := Lib.hid hc
 obtain ⟨N, hN⟩ : ∃ N, N = xs.length := ⟨_, rfl⟩
 rw [<- hN]
 have HN := Lib.hid hN
 clear hc hN hx16
 by_cases h0 : N = 0
 · have HT : Hid (turnN xs n = 0) := Lib.hid (by unfold turnN; rw [if_pos (by rw [<- HN.out]; exact h0)])
   subst h0
   go_enter Tryz.func49, Tryz.ntmps49
   go_wp2_with fail
   go_ret
   exact ⟨by rw [HT.out]; rfl, rfl⟩
 · have hlt : n % N < N := Nat.mod_lt _ (by omega)
   obtain ⟨x, hx⟩ : ∃ x, xs[n % N]? = some x := ⟨_, List.getElem?_eq_getElem (by rw [<- HN.out]; exact hlt)⟩
   have HT : Hid (turnN xs n = x) := Lib.hid (by unfold turnN; rw [if_neg (by rw [<- HN.out]; exact h0), <- HN.out, List.getD_eq_getElem?_getD, hx]; rfl)
   obtain ⟨b, off, rfl, hb, hcc⟩ := HC.out (fun e => by rw [e] at hx; cases hx)
   have q0 := hcc _ _ hx
   have e0 : ((N : Int) == 0) = false := by simp; omega
   have e1 : (n : Int) % (N : Int) = ((n % N : Nat) : Int) := (Int.natCast_emod _ _).symm
   obtain ⟨j, hj⟩ : ∃ j, j = n % N := ⟨_, rfl⟩
   rw [<- hj] at hlt q0 e1
   have h16 : x < 65536 := HX16.out x (List.mem_of_getElem? hx)
   clear hx hcc hj
   go_enter Tryz.func49, Tryz.ntmps49
   go_wp2_with fail
   go_ret
   exact ⟨by rw [HT.out]; rfl, rfl⟩
def halvesN (xs : List Nat) (n : Nat) : List Nat := (List.range n).map fun i => turnN xs i % 2
theorem halvesN_succ (xs : List Nat) (n : Nat) : halvesN xs (n + 1) = halvesN xs n ++ [turnN xs n % 2] := by simp [halvesN, List.range_succ]
theorem halvesN_len (xs : List Nat) (n : Nat) : (halvesN xs n).length = n := by simp [halvesN]
theorem halves_any (m : Mkw) (xs : List Nat) (v : Value) (w : World) (hv : U16sAt w v xs) (h0 : 1 <= m.sheets) (h4 : m.sheets <= 4) :
  Calls Tryz.prog 83 #[mkwV m, v] w fun e w' => (∃ v', e = .returned v' /\ w'.ownsRow w.heap.size 3 1 v' (halvesN xs m.sheets.toNat).length (intVs (halvesN xs m.sheets.toNat))) /\ Below w.heap.size w w' := by
 have HV := Lib.hid hv
 obtain ⟨S', hS⟩ : ∃ s, s = m.sheets.toNat := ⟨_, rfl⟩
 have hms : m.sheets = (S' : Int) := by omega
 have HMS := Lib.hid hms
 rw [<- hS]
 have hS4 : S' <= 4 := by omega
 obtain ⟨ei, hi1, hi2, hi3, hi4⟩ := elemInt
 have HI := Lib.hid (And.intro hi1 (And.intro hi2 (And.intro hi3 hi4)))
 clear hi1 hi2 hi3 hi4 hms hS h0 h4
 obtain ⟨a, cap, rfl, -, -⟩ := hv
 obtain ⟨N, hN⟩ : ∃ N, N = xs.length := ⟨_, rfl⟩
 rw [<- hN] at HV ⊢
 have HN := Lib.hid hN
 clear hN
 have hb0 : Below w.heap.size w (w.alloc (.cells #[.int .i64 m.fmt, .int .i64 m.ppr, .int .i64 m.sheets, .bool m.half] 50)) := (Below.refl _ _).alloc (Nat.le_refl _) _
 have hc1 : (w.alloc (.cells #[.int .i64 m.fmt, .int .i64 m.ppr, .int .i64 m.sheets, .bool m.half] 50)).heap[w.heap.size]? = some (.cells #[.int .i64 m.fmt, .int .i64 m.ppr, .int .i64 m.sheets, .bool m.half] 50 (0, 0)) := World.alloc_heap_new _ _
 go_enter Tryz.func83, Tryz.ntmps83
 go_wp2_with fail
 revert hb0 hc1
 generalize (w.alloc (.cells #[.int .i64 m.fmt, .int .i64 m.ppr, .int .i64 m.sheets, .bool m.half] 50)) = w1
 intro hb0 hc1
 have HV1 := Lib.hid (HV.out.later hb0)
 have hs9 : w.heap.size <= w1.heap.size := hb0.size
 go_loopw [5, 6] (fun v j wr => ∃ (k : Nat), k <= S' /\ j = .int .i64 k /\ Hid (wr.ownsRow w1.heap.size 3 1 v (halvesN xs k).length (intVs (halvesN xs k))) /\ Hid (Below w1.heap.size w1 wr)) (fun _ j _ => S' - (intOf j).toNat)
 case atStart => exact ⟨0, by omega, rfl, World.ownsRow_nil _ _ _ _, Below.refl _ _⟩
 case round =>
  obtain ⟨k, hk, rfl, HR, HB⟩ := hrel
  have hz := HB.out.size
  have bw := blk_later HB.out hc1
  have t2 := blk_cell bw 2
  rw [HMS.out] at t2
  by_cases hlt : k < S'
  · go_wp2_with fail
    refine (turn_any xs _ k _ (HV1.out.later HB.out)).mono ?_
    rintro e w9 ⟨rfl, h9⟩
    obtain rfl := h9.symm
    clear h9
    have hlen := halvesN_len xs k
    obtain ⟨T, hT⟩ : ∃ T, T = turnN xs k := ⟨_, rfl⟩
    have hTl : T < 65536 := by rw [hT]; exact turnN_lt HV.out k
    rw [<- hT]
    have HT := Lib.hid hT
    have em : (T : Int) % 2 = ((T % 2 : Nat) : Int) := (Int.natCast_emod _ _).symm
    obtain ⟨h, hh⟩ : ∃ h, h = T % 2 := ⟨_, rfl⟩
    rw [<- hh] at em
    have HH := Lib.hid hh
    clear hT hh
    obtain ⟨hi1, hi2, hi3, hi4⟩ := HI.out
    go_wp2_with (at_builtin; (refine wpList_append_own _ rfl _ _ 36 rfl w1.heap.size 3 ei _ 1 8 undInts hi1 hi2 hi3 hi4 rfl (by decide) u5 (halvesN xs k).length (intVs (halvesN xs k)) rfl (HR.out.alloc _) ⟨wr.heap.size, 0, none⟩ 1 1 [.int .i64 h] rfl rfl ?a1 ?b1 ?c1 ?d1 ?e1 ?f1))
    case a1 =>
     intro j u hju
     rw [add_offi]
     unfold World.cell?
     rw [World.alloc_heap_new]
     simpa using hju
    case b1 => simp [Value.oneCell']
    case c1 => simp only [maxLen]; omega
    case d1 => omega
    case e1 => (first | omega | (simp; omega))
    case f1 =>
     rintro v' w7 hown hgrow -
     have HB7 := Lib.hid (HB.out.trans ((((Below.refl _ wr).alloc (Nat.le_refl _) (.cells #[.int .i64 h] 3)).mono hz).trans (below_row (HR.out.alloc _) (by simp; omega) hgrow)))
     have HO := Lib.hid hown
     clear hgrow hown hi1 hi2 hi3 hi4 t2
     go_wp2_with fail
     go_roundw
     case rel => exact ⟨k + 1, by omega, by go_num, (by
      show World.ownsRow _ _ _ _ _ _ _
      rw [halvesN_succ]
      have h := HO.out
      rw [<- HT.out, <- HH.out]
      simpa [intVs, halvesN_len] using h), HB7.out⟩
     case measure => simp [intOf]; omega
  · obtain rfl : k = S' := by omega
    go_wp2_with fail
    go_ret
    exact ⟨⟨_, rfl, row_mono HR.out (by omega)⟩, (by exact Below.trans hb0 (HB.out.mono (by omega)))⟩
end
section
set_option linter.unusedSimpArgs false
set_option linter.unusedVariables false
open Go Go.ChangeShapes Go.WideShapes Go.ChangeAt Go.RowKit
section
variable {H : Type} {enc : TypeId × Value -> H} {w : World} {base : Nat} {spare : Nat -> Bool} {held : Bool} {fuel : Nat} {x : DataW H × List MemPlace}
theorem kfu_u16 {cs : List Value} (h : DataW.trod enc Tryz.prog w base spare held fuel 47 cs = some x) : ∃ n : Nat, n < 65536 /\ cs = [.int .u16 n] := by
 obtain ⟨n, e, _, hw⟩ := DataW.trod_int Tryz.underlying47 h
 subst e
 simp only [Lit.wf, Bool.and_eq_true, decide_eq_true_eq] at hw
 have h1 : IntKind.u16.min = 0 := by decide
 have h2 : IntKind.u16.max = 65535 := by decide
 rw [h1, h2] at hw
 exact ⟨n.toNat, by omega, by rw [show ((n.toNat : Nat) : Int) = n by omega]⟩
end
end
section
set_option linter.unusedSimpArgs false
set_option linter.unusedVariables false
open Go Go.ChangeShapes Go.WideShapes Go.ChangeAt Go.RowKit
theorem kfz_cellsPast : Tryz.prog.cellsOf 46 = 4 := by kernel_rfl
theorem kfz_cellsU16s : Tryz.prog.cellsOf 44 = 1 := by kernel_rfl
theorem kfz_cellsU16 : Tryz.prog.cellsOf 47 = 1 := by kernel_rfl
section
variable {H : Type} {enc : TypeId × Value -> H} {w : World} {base : Nat} {spare : Nat -> Bool} {held : Bool} {fuel : Nat} {x : DataW H × List MemPlace}
theorem kfz_u16s {cs : List Value} (h : DataW.trod enc Tryz.prog w base spare held fuel 44 cs = some x) : ∃ (v : Value) (xs : List Nat), cs = [v] /\ U16sAt w v xs := by
 obtain ⟨v, zs, e, ⟨a, cap, e2, hc⟩, hz⟩ := kf_rows (α := Nat) (n := 1) (en := fun n => [.int .u16 (n : Int)]) Tryz.underlying44 kfz_cellsU16 (by decide) (fun n => n < 65536) (fun n l y hy => by
  obtain ⟨m, h1, h2⟩ := kfu_u16 hy
  exact ⟨m, h2, h1⟩) h
 refine ⟨v, zs, e, a, cap, e2, hz, fun hne => ?_⟩
 obtain ⟨b, off, ha, hb, hc⟩ := hc hne
 refine ⟨b, off, ha, hb, fun i y hi => ?_⟩
 have := hc i y hi 0 _ rfl
 simpa using this
end
end
section
set_option linter.unusedSimpArgs false
set_option linter.unusedVariables false
open Go Go.ChangeShapes Go.WideShapes Go.ChangeAt Go.RowKit
theorem kfq_cells : Tryz.prog.cellsOf 62 = 5 := by kernel_rfl
section
variable {H : Type} {enc : TypeId × Value -> H} {w : World} {base : Nat} {spare : Nat -> Bool} {held : Bool} {fuel : Nat} {x : DataW H × List MemPlace}
theorem kfq_past {cs : List Value} (h : DataW.trod enc Tryz.prog w base spare held fuel 46 cs = some x) :
  ∃ (v0 v1 v2 v3 : Value) (x0 x1 x2 x3 : List Nat), cs = [v0, v1, v2, v3] /\ U16sAt w v0 x0 /\ U16sAt w v1 x1 /\ U16sAt w v2 x2 /\ U16sAt w v3 x3 := by
 obtain ⟨xs, n, _, _, hl, hlen, hf⟩ := DataW.trod_struct Tryz.underlying46 h
 rw [kfz_cellsPast] at hl
 obtain ⟨a, b, c, d, rfl⟩ := len4 hl
 match xs, hlen with
 | [y0, y1, y2, y3], _ =>
   obtain ⟨w0, x0, e0, h0⟩ := kfz_u16s (by simpa using hf 0 _ rfl)
   obtain ⟨w1, x1, e1, h1⟩ := kfz_u16s (by simpa using hf 1 _ rfl)
   obtain ⟨w2, x2, e2, h2⟩ := kfz_u16s (by simpa using hf 2 _ rfl)
   obtain ⟨w3, x3, e3, h3⟩ := kfz_u16s (by simpa using hf 3 _ rfl)
   simp [kfz_cellsU16s] at e0 e1 e2 e3
   subst e0 e1 e2 e3
   exact ⟨_, _, _, _, _, _, _, _, rfl, h0, h1, h2, h3⟩
theorem doubt_in {v : Value} {b0 : Nat} (hv : Value.okWide Tryz.prog w .any b0 62 v) (h : DataW.trod enc Tryz.prog w base spare held fuel 62 v.cells.toList = some x) :
  ∃ (v0 v1 v2 v3 : Value) (x0 x1 x2 x3 : List Nat) (n : Nat), v = .agg #[v0, v1, v2, v3, .int .u16 n] /\ n < 65536 /\ U16sAt w v0 x0 /\ U16sAt w v1 x1 /\ U16sAt w v2 x2 /\ U16sAt w v3 x3 := by
 simp only [Value.okWide, Tryz.underlying62] at hv
 obtain ⟨cs, rfl, -, -⟩ := hv
 obtain ⟨xs, n, _, _, hl, hlen, hf⟩ := DataW.trod_struct Tryz.underlying62 h
 rw [kfq_cells] at hl
 obtain ⟨a, b, c, d, e, hcs⟩ := len5 hl
 have hcs' : cs = #[a, b, c, d, e] := by
  have e' : cs.toList = [a, b, c, d, e] := hcs
  rw [<- Array.toArray_toList (xs := cs), e']
 subst hcs'
 match xs, hlen with
 | [y0, y1], _ =>
   obtain ⟨w0, w1, w2, w3, x0, x1, x2, x3, e0, h0, h1, h2, h3⟩ := kfq_past (by simpa using hf 0 _ rfl)
   obtain ⟨m, hm, e1⟩ := kfu_u16 (by simpa using hf 1 _ rfl)
   simp [kfz_cellsPast, kfz_cellsU16, Value.cells] at e0 e1
   obtain ⟨rfl, rfl, rfl, rfl⟩ := e0
   subst e1
   exact ⟨_, _, _, _, _, _, _, _, m, rfl, hm, h0, h1, h2, h3⟩
end
end
end Go.Proofs.YtpdhdgdbknnllaaGreatDoor
