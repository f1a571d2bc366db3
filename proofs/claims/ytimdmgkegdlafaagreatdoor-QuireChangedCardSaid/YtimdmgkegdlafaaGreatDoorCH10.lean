/- The parts Ql of the proof, joined. It holds without conditions of its own. -/
import Derived.Test.YtimdmgkegdlafaaGreatDoorCH9
import Derived.RangeFuncNested
import Derived.Shelf.Abstract
import Derived.Shelf.RegionOpen
import Derived.OwnWalkIn
import Derived.TacticsInMore
import Derived.LoopNIn
import Derived.LoopIn
/- The iterator over the leaves of one gathering. -/
namespace Go.Proofs.YtimdmgkegdlafaaGreatDoor
set_option linter.unusedSimpArgs false
set_option linter.unusedVariables false
open Go Go.RowKit Go.Sort Go.BigFrame Go.Shelf
attribute [local go_sem] Oper.semAt_some

/-- A leaf as a value. -/
abbrev lfV (x : Lf) : Value := .agg #[.int .i64 x.gat, .int .i64 x.num, .int .i64 x.plus, .int .i64 x.kind]

set_option maxHeartbeats 400000 in
theorem leavesOf_any (i : Nat) (g : Gth) (a : Option Addr) (n cap : Nat) (w : World) :
    Calls Tryz.prog 78 #[.int .i64 i, .agg #[.int .i64 g.round, .int .i64 g.letter, .int .i64 g.leaves, .slice a n cap]] w fun e w' =>
      e = .returned (.func (.func 98) #[] #[.pointer (some ⟨w.heap.size + 1, 0, none⟩), .pointer (some ⟨w.heap.size, 0, none⟩)]) ∧
      (w.alloc (.cells #[.int .i64 i] 3)).alloc (.cells #[.int .i64 g.round, .int .i64 g.letter, .int .i64 g.leaves, .slice a n cap] 42) = w' := by
  have hmf : ∀ (fn : Fn) (first cap : Array Value) (w : World), (Instr.makeFunc fn first cap).run Tryz.prog w = .ok (.func fn first cap) w := fun _ _ _ _ => rfl
  go_enter Tryz.func78, Tryz.ntmps78
  go_wp2
  go_ret
  exact ⟨rfl, rfl⟩

theorem range_split {m n : Nat} (h : m < n) : ∃ rest, List.range n = List.range m ++ m :: rest := by
  induction n with
  | zero => omega
  | succ n ih =>
    rw [List.range_succ]
    by_cases e : m = n
    · subst e; exact ⟨[], by simp⟩
    · obtain ⟨rest, hr⟩ := ih (by omega)
      exact ⟨rest ++ [n], by rw [hr]; simp⟩
/-- The leaves at the first numbers. -/
def uptoG (i : Nat) (g : Gth) (k : Nat) : List Lf := (List.range k).flatMap fun k => lvsNum i k (fateF g.chs k)
theorem uptoG_succ (i : Nat) (g : Gth) (k : Nat) : uptoG i g (k + 1) = uptoG i g k ++ lvsNum i k (fateF g.chs k) := by
  simp [uptoG, List.range_succ]
theorem uptoG_split {i : Nat} {g : Gth} {k : Nat} (h : k < (g.leaves + 1).toNat) : ∃ rest, lvsG i g = uptoG i g k ++ (lvsNum i k (fateF g.chs k) ++ rest) := by
  obtain ⟨rest, hr⟩ := range_split h
  exact ⟨rest.flatMap fun k => lvsNum i k (fateF g.chs k), by simp [lvsG, uptoG, hr]⟩
/-- A new leaf that was put in. -/
abbrev putL (i k : Nat) (j : Nat) : Lf := ⟨i, k, (j : Int) + 1, 2⟩
theorem puts_split {i k m : Nat} {n : Nat} (h : m < n) : ∃ rest, (List.range n).map (putL i k) = (List.range m).map (putL i k) ++ putL i k m :: rest := by
  obtain ⟨rest, hr⟩ := range_split h
  exact ⟨rest.map (putL i k), by simp [hr]⟩
theorem puts_succ (i k m : Nat) : (List.range (m + 1)).map (putL i k) = (List.range m).map (putL i k) ++ [putL i k m] := by simp [List.range_succ]

/-- What lies in memory while the iterator is at a number: its two variables, and what it reads. -/
structure AtNum (w₀ W : World) (B5 B6 B : Nat) (gb ib : Nat) (fg fs : Bool) (fa : Int) (i k : Nat) (p kk : Int) (X : Nat → Prop) : Prop where
  b5 : W.heap[B5]? = some (.cells #[.bool fg, .bool fs, .int .i64 fa] 154)
  b6 : W.heap[B6]? = some (.cells #[.int .i64 i, .int .i64 k, .int .i64 p, .int .i64 kk] 89)
  x5 : X B5
  x6 : X B6
  pr : ∀ j, (j = gb ∨ j = ib ∨ j < B) → W.heap[j]? = w₀.heap[j]?
  sz : w₀.heap.size ≤ W.heap.size
theorem AtNum.set {w₀ W : World} {B5 B6 B gb ib : Nat} {fg fs : Bool} {fa : Int} {i k : Nat} {p kk : Int} {X : Nat → Prop} (h : AtNum w₀ W B5 B6 B gb ib fg fs fa i k p kk X) (h56 : B5 ≠ B6) (hlt : ∀ j, (j = gb ∨ j = ib ∨ j < B) → j < B6) (kk' : Int) :
    AtNum w₀ (W.setCell ⟨B6, 3, none⟩ (.int .i64 kk')) B5 B6 B gb ib fg fs fa i k p kk' X :=
  ⟨(heap_setCell_past _ _ _ _ h56).trans h.b5, blk_set h.b6 3 _, h.x5, h.x6, fun j hj => (heap_setCell_past _ _ _ _ (by have := hlt j hj; simp; omega)).trans (h.pr j hj), by simp; exact h.sz⟩
theorem AtNum.plus {w₀ W : World} {B5 B6 B gb ib : Nat} {fg fs : Bool} {fa : Int} {i k : Nat} {p kk : Int} {X : Nat → Prop} (h : AtNum w₀ W B5 B6 B gb ib fg fs fa i k p kk X) (h56 : B5 ≠ B6) (hlt : ∀ j, (j = gb ∨ j = ib ∨ j < B) → j < B6) (p' : Int) :
    AtNum w₀ (W.setCell ⟨B6, 2, none⟩ (.int .i64 p')) B5 B6 B gb ib fg fs fa i k p' kk X :=
  ⟨(heap_setCell_past _ _ _ _ h56).trans h.b5, blk_set h.b6 2 _, h.x5, h.x6, fun j hj => (heap_setCell_past _ _ _ _ (by have := hlt j hj; simp; omega)).trans (h.pr j hj), by simp; exact h.sz⟩
theorem AtNum.kept {w₀ W W' : World} {B5 B6 B gb ib : Nat} {fg fs : Bool} {fa : Int} {i k : Nat} {p kk : Int} {X : Nat → Prop} (h : AtNum w₀ W B5 B6 B gb ib fg fs fa i k p kk X) (hw₀ : ∀ j, (j = gb ∨ j = ib ∨ j < B) → j < w₀.heap.size) (hk : Kept (fun k => k = gb ∨ k = ib ∨ k < B) X W W') :
    AtNum w₀ W' B5 B6 B gb ib fg fs fa i k p kk X :=
  ⟨(hk.2 _ (blk_lt h.b5) (Or.inr h.x5)).trans h.b5, (hk.2 _ (blk_lt h.b6) (Or.inr h.x6)).trans h.b6, h.x5, h.x6, fun j hj => (hk.2 j (by have := hw₀ j hj; have := h.sz; omega) (Or.inl hj)).trans (h.pr j hj), Nat.le_trans h.sz hk.1⟩

set_option maxRecDepth 100000 in
set_option maxHeartbeats 1000000 in
theorem leavesOf_it (i : Nat) (g : Gth) (a : Option Addr) (n cap : Nat) (w₀ : World) (gb ib B : Nat) (hB : B ≤ w₀.heap.size) (hch : ChsAt B w₀ (.slice a n cap) g.chs) (hcl : g.chs.length ≤ 100) (hm : ∀ c ∈ g.chs, 0 ≤ c.many ∧ c.many ≤ 4) (hL : 0 ≤ g.leaves ∧ g.leaves ≤ 12)
    (hg : w₀.heap[gb]? = some (.cells #[.int .i64 g.round, .int .i64 g.letter, .int .i64 g.leaves, .slice a n cap] 42)) (hi : w₀.heap[ib]? = some (.cells #[.int .i64 i] 3)) :
    ItC Tryz.prog 98 #[.pointer (some ⟨gb, 0, none⟩), .pointer (some ⟨ib, 0, none⟩)] (fun x => #[lfV x]) (lvsG i g) (fun k => k = gb ∨ k = ib ∨ k < B) w₀ := by
  intro l J Jx W hsz hpr hJ hJx hY h0
  refine (callsIn_wide (n := 10)).1 ?_
  refine callsIn_of_wp Tryz.func98 rfl trivial ?_ rfl
  simp only [Tryz.ntmps98, List.size_toArray, List.length_cons, List.length_nil, Nat.reduceAdd, Nat.reduceSub, Array.replicate_succ, Array.replicate_zero, List.push_toArray, List.append_toArray, List.nil_append, List.cons_append]
  have hgW := (hpr gb (Or.inl rfl)).trans hg
  have c0 := blk_cell hgW 0; have c1 := blk_cell hgW 1; have c2 := blk_cell hgW 2; have c3 := blk_cell hgW 3
  have hpw : ∀ j, (j = gb ∨ j = ib ∨ j < B) → j < w₀.heap.size := fun j hj => by
    rcases hj with rfl | rfl | h
    · exact blk_lt hg
    · exact blk_lt hi
    · omega
  have HY := Lib.hid hY
  have HJ := Lib.hid hJ
  have HJx := Lib.hid hJx
  have HP := Lib.hid hpr
  have HI := Lib.hid hi
  have HG := Lib.hid hg
  have HCH := Lib.hid hch
  have HM := Lib.hid hm
  have HPW := Lib.hid hpw
  have H0 := Lib.hid h0
  obtain ⟨hL0, hL1⟩ := hL
  clear hY hJ hJx hpr hi hg hch hm hpw h0 hgW
  gi_wp2_with fail
  gi_loopw [11] (fun v wr => ∃ (k : Nat) (X : Nat → Prop), (k : Int) ≤ g.leaves + 1 ∧ v = .int .i64 k ∧ Hid (J (uptoG i g k) X wr) ∧ w₀.heap.size ≤ wr.heap.size ∧ Hid (∀ j, (j = gb ∨ j = ib ∨ j < B) → wr.heap[j]? = w₀.heap[j]?)) (fun v _ => (g.leaves + 1 - intOf v).toNat)
  case atStart => exact ⟨0, _, by omega, rfl, H0, hsz, HP⟩
  case round =>
    obtain ⟨k, X, hk, rfl, hJk, hz, hpk⟩ := hrel
    obtain ⟨wo, rfl⟩ : ∃ wo : World, wo = wr := ⟨_, rfl⟩
    clear c0 c1 c2 c3
    by_cases hlt : (k : Int) < g.leaves + 1
    · have hgw := (hpk.out gb (Or.inl rfl)).trans HG.out
      have hiw := (hpk.out ib (Or.inr (Or.inl rfl))).trans HI.out
      have c0 := blk_cell hgw 0; have c1 := blk_cell hgw 1; have c2 := blk_cell hgw 2; have c3 := blk_cell hgw 3
      have hC := fateAt_any B k g.chs _ wo (HCH.out.same fun j hj => hpk.out j (Or.inr (Or.inr hj))) (by omega) hcl
      have HCc := Lib.hid hC
      have HGW := Lib.hid hgw
      have HIW := Lib.hid hiw
      clear hC hgw hiw
      gi_wp2_with fail
      refine ⟨trivial, ?_⟩
      refine (callsIn_wide.2 HCc.out).mono ?_
      rintro e w1 ⟨rfl, hb1⟩
      have hadd := fate_added (num := (k : Int)) HM.out
      obtain ⟨fg, fs, fa, hf⟩ : ∃ fg fs fa, fateF g.chs k = ⟨fg, fs, fa⟩ := ⟨_, _, _, rfl⟩
      rw [hf] at hadd ⊢
      dsimp only at hadd ⊢
      obtain ⟨N, rfl⟩ := Int.eq_ofNat_of_zero_le hadd.1
      have HF := Lib.hid hf
      have hN : N ≤ 4 := by omega
      have i0 := blk_cell (blk_later hb1 HIW.out) 0
      have hiblt := blk_lt (blk_later hb1 HIW.out)
      have hsz1 := hb1.size
      obtain ⟨B5, hB5⟩ : ∃ B5, B5 = w1.heap.size := ⟨_, rfl⟩
      obtain ⟨B6, hB6⟩ : ∃ B6, B6 = w1.heap.size + 1 := ⟨_, rfl⟩
      have h56 : B5 ≠ B6 := by omega
      have hlt6 : ∀ j, (j = gb ∨ j = ib ∨ j < B) → j < B6 := fun j hj => by have := HPW.out j hj; omega
      have mk : ∀ kk : Int, Hid (AtNum w₀ ((w1.alloc (.cells #[.bool fg, .bool fs, .int .i64 N] 154)).alloc (.cells #[.int .i64 i, .int .i64 k, .int .i64 0, .int .i64 kk] 89)) B5 B6 B gb ib fg fs N i k 0 kk (fun j => X j ∨ j = B5 ∨ j = B6)) ∧
          Hid (J (uptoG i g k) (fun j => X j ∨ j = B5 ∨ j = B6) ((w1.alloc (.cells #[.bool fg, .bool fs, .int .i64 N] 154)).alloc (.cells #[.int .i64 i, .int .i64 k, .int .i64 0, .int .i64 kk] 89))) := fun kk => by
        subst hB5 hB6
        refine ⟨⟨?_, ?_, Or.inr (Or.inl rfl), Or.inr (Or.inr rfl), fun j hj => ?_, ?_⟩, ?_⟩
        · rw [heap_alloc_past _ _ _ (by simp)]; exact heap_alloc_at _ _ _ rfl
        · exact heap_alloc_at _ _ _ (by simp)
        · have := HPW.out j hj
          rw [heap_alloc_past _ _ _ (by simp; omega), heap_alloc_past _ _ _ (by omega), hb1.block j (by omega)]; exact hpk.out j hj
        · simp; omega
        · refine HJ.out _ X _ _ _ hJk.out (OnlyIn.of_below ((hb1.alloc (by omega) _).alloc (by simp; omega) _)) (fun j h => ?_)
          rcases h with h | h | h
          · exact Or.inl h
          · exact Or.inr ⟨by omega, by simp; omega⟩
          · exact Or.inr ⟨by omega, by simp; omega⟩
      obtain ⟨rst, hspl⟩ := uptoG_split (i := i) (g := g) (k := k) (by omega)
      rw [HF.out] at hspl
      have HSP := Lib.hid hspl
      clear hspl hf HCc hb1 hadd c0 c1 c2 c3
      subst hB5 hB6
      have noLeaf : (k = 0 ∨ fg = true) → lvsNum i k ⟨fg, fs, N⟩ = (List.range N).map (putL i k) := fun hno => by
        have : ¬ (0 < k ∧ fg = false) := by rintro ⟨h1, h2⟩; rcases hno with h | h; omega; rw [h] at h2; cases h2
        simp [lvsNum, this]
      by_cases hk0 : (k : Int) ≤ 0
      · -- number 0: no leaf of its own
        have e0 := noLeaf (Or.inl (by omega))
        obtain ⟨pre4, hpre4⟩ : ∃ pre4, pre4 = uptoG i g k := ⟨_, rfl⟩
        have P4 : Hid (pre4 ++ (List.range N).map (putL i k) = uptoG i g (k + 1)) := by show _ = _; rw [uptoG_succ, HF.out, e0, hpre4]
        have S4 : Hid (∃ rest, lvsG i g = pre4 ++ ((List.range N).map (putL i k) ++ rest)) := ⟨rst, by rw [HSP.out, e0, hpre4]⟩
        have A4 := (mk 2).1
        have J4 := (mk 2).2
        rw [← hpre4] at J4
        clear mk hpre4 e0 HSP noLeaf
        cases fs
        ·
          gi_wp2_with fail
          refine ⟨fun _ h => (by cases h), ?_⟩
          gi_wp2_with fail
          -- the leaves that are put in behind the number: W4, A4, J4, P4 (how much has come), S4 (what is still to come)
          gi_loopw [40] (fun v wr => ∃ (m : Nat) (X : Nat → Prop), m ≤ N ∧ v = .int .i64 m ∧ Hid (J (pre4 ++ (List.range m).map (putL i k)) X wr) ∧ Hid (AtNum w₀ wr w1.heap.size (w1.heap.size + 1) B gb ib fg false N i k m 2 X)) (fun v _ => N - (intOf v).toNat)
          case atStart => exact ⟨0, _, by omega, rfl, (List.append_nil pre4).symm ▸ J4, A4⟩
          case round =>
            obtain ⟨m, Xm, hm, rfl, Jm, Am⟩ := hrel
            clear A4 J4
            by_cases hmN : m < N
            · have A5 := Am.out.plus h56 hlt6 ((m : Int) + 1)
              have J5 := HJ.out _ _ Xm _ _ Jm.out (OnlyIn.setCell wr ⟨w1.heap.size + 1, 2, none⟩ (.int .i64 ((m : Int) + 1)) Am.out.x6) (fun j h => Or.inl h)
              obtain ⟨rest, hsp⟩ := S4.out
              obtain ⟨rest2, hpu⟩ := puts_split (i := i) (k := k) hmN
              obtain ⟨fn, tmps, assign, body, hy, hR⟩ := HY.out (pre4 ++ (List.range m).map (putL i k)) (putL i k m) (rest2 ++ rest) Xm _ (by rw [hsp, hpu]; simp) J5
              have HR := Lib.hid hR
              have A5 := Lib.hid A5
              have d0 := blk_cell Am.out.b6 0; have d1 := blk_cell Am.out.b6 1; have d2 := blk_cell Am.out.b6 2; have d3 := blk_cell Am.out.b6 3
              have e0 := blk_free Am.out.b6 0; have e1 := blk_free Am.out.b6 1; have e2 := blk_free Am.out.b6 2; have e3 := blk_free Am.out.b6 3
              have hAs := blk_later (Below.refl _ _) A5.out.b6
              have a0 := blk_cell hAs 0; have a1 := blk_cell hAs 1; have a2 := blk_cell hAs 2; have a3 := blk_cell hAs 3
              clear hR J5 hsp hpu hAs
              gi_wp2_with fail
              refine HR.out.mono ?_
              rintro e W' (⟨rfl, hJ', hk'⟩ | ⟨rfl, hJx', -⟩)
              · have A6 := Lib.hid (A5.out.kept HPW.out hk')
                have J6 := Lib.hid (show J (pre4 ++ (List.range (m + 1)).map (putL i k)) Xm W' by rw [puts_succ, ← List.append_assoc]; exact hJ')
                clear hJ' hk' hy d0 d1 d2 d3 e0 e1 e2 e3 a0 a1 a2 a3
                gi_wp2_with fail
                go_roundw
                case rel => exact ⟨m + 1, Xm, by omega, by go_num, J6, A6⟩
                case measure => simp [intOf]; omega
              · have Jx6 := Lib.hid hJx'
                clear hJx' hy d0 d1 d2 d3 e0 e1 e2 e3 a0 a1 a2 a3
                gi_wp2_with fail
                refine bodyPost_ret (results_none rfl _ _ _) rfl ?_
                exact ⟨⟨_, rfl⟩, .inr ⟨_, _, Jx6.out⟩⟩
            · obtain rfl : m = N := by omega
              gi_wp2_with fail
              go_roundw
              case rel => exact ⟨k + 1, Xm, by omega, by go_num, by rw [← P4.out]; exact Jm, Am.out.sz, Am.out.pr⟩
              case measure => simp [intOf]; omega
        ·
          gi_wp2_with fail
          refine ⟨fun _ h => (by cases h), ?_⟩
          gi_wp2_with fail
          -- the leaves that are put in behind the number: W4, A4, J4, P4 (how much has come), S4 (what is still to come)
          gi_loopw [40] (fun v wr => ∃ (m : Nat) (X : Nat → Prop), m ≤ N ∧ v = .int .i64 m ∧ Hid (J (pre4 ++ (List.range m).map (putL i k)) X wr) ∧ Hid (AtNum w₀ wr w1.heap.size (w1.heap.size + 1) B gb ib fg true N i k m 2 X)) (fun v _ => N - (intOf v).toNat)
          case atStart => exact ⟨0, _, by omega, rfl, (List.append_nil pre4).symm ▸ J4, A4⟩
          case round =>
            obtain ⟨m, Xm, hm, rfl, Jm, Am⟩ := hrel
            clear A4 J4
            by_cases hmN : m < N
            · have A5 := Am.out.plus h56 hlt6 ((m : Int) + 1)
              have J5 := HJ.out _ _ Xm _ _ Jm.out (OnlyIn.setCell wr ⟨w1.heap.size + 1, 2, none⟩ (.int .i64 ((m : Int) + 1)) Am.out.x6) (fun j h => Or.inl h)
              obtain ⟨rest, hsp⟩ := S4.out
              obtain ⟨rest2, hpu⟩ := puts_split (i := i) (k := k) hmN
              obtain ⟨fn, tmps, assign, body, hy, hR⟩ := HY.out (pre4 ++ (List.range m).map (putL i k)) (putL i k m) (rest2 ++ rest) Xm _ (by rw [hsp, hpu]; simp) J5
              have HR := Lib.hid hR
              have A5 := Lib.hid A5
              have d0 := blk_cell Am.out.b6 0; have d1 := blk_cell Am.out.b6 1; have d2 := blk_cell Am.out.b6 2; have d3 := blk_cell Am.out.b6 3
              have e0 := blk_free Am.out.b6 0; have e1 := blk_free Am.out.b6 1; have e2 := blk_free Am.out.b6 2; have e3 := blk_free Am.out.b6 3
              have hAs := blk_later (Below.refl _ _) A5.out.b6
              have a0 := blk_cell hAs 0; have a1 := blk_cell hAs 1; have a2 := blk_cell hAs 2; have a3 := blk_cell hAs 3
              clear hR J5 hsp hpu hAs
              gi_wp2_with fail
              refine HR.out.mono ?_
              rintro e W' (⟨rfl, hJ', hk'⟩ | ⟨rfl, hJx', -⟩)
              · have A6 := Lib.hid (A5.out.kept HPW.out hk')
                have J6 := Lib.hid (show J (pre4 ++ (List.range (m + 1)).map (putL i k)) Xm W' by rw [puts_succ, ← List.append_assoc]; exact hJ')
                clear hJ' hk' hy d0 d1 d2 d3 e0 e1 e2 e3 a0 a1 a2 a3
                gi_wp2_with fail
                go_roundw
                case rel => exact ⟨m + 1, Xm, by omega, by go_num, J6, A6⟩
                case measure => simp [intOf]; omega
              · have Jx6 := Lib.hid hJx'
                clear hJx' hy d0 d1 d2 d3 e0 e1 e2 e3 a0 a1 a2 a3
                gi_wp2_with fail
                refine bodyPost_ret (results_none rfl _ _ _) rfl ?_
                exact ⟨⟨_, rfl⟩, .inr ⟨_, _, Jx6.out⟩⟩
            · obtain rfl : m = N := by omega
              gi_wp2_with fail
              go_roundw
              case rel => exact ⟨k + 1, Xm, by omega, by go_num, by rw [← P4.out]; exact Jm, Am.out.sz, Am.out.pr⟩
              case measure => simp [intOf]; omega
      have hkp : (0 : Int) < k := by omega
      clear hk0
      cases fg
      · -- the leaf of this number
        cases fs
        ·
          have e0 : lvsNum i k ⟨false, false, N⟩ = ⟨i, k, 0, 0⟩ :: (List.range N).map (putL i k) := by
            have : 0 < k := by omega
            simp [lvsNum, this]
          obtain ⟨A1, J1⟩ := mk 0
          clear mk noLeaf
          obtain ⟨pre4, hpre4⟩ : ∃ pre4, pre4 = uptoG i g k ++ [⟨i, k, 0, 0⟩] := ⟨_, rfl⟩
          have P4 : Hid (pre4 ++ (List.range N).map (putL i k) = uptoG i g (k + 1)) := by show _ = _; rw [uptoG_succ, HF.out, e0, hpre4]; simp
          have S4 : Hid (∃ rest, lvsG i g = pre4 ++ ((List.range N).map (putL i k) ++ rest)) := ⟨rst, by rw [HSP.out, e0, hpre4]; simp⟩
          obtain ⟨fn, tmps, assign, body, hy, hR⟩ := HY.out (uptoG i g k) ⟨i, k, 0, 0⟩ ((List.range N).map (putL i k) ++ rst) _ _ (by rw [HSP.out, e0]; rfl) J1.out
          have HR := Lib.hid hR
          rw [← hpre4] at HR
          clear hR HSP e0 hpre4 J1
          gi_wp2_with fail
          refine HR.out.mono ?_
          rintro e W' (⟨rfl, hJ', hk'⟩ | ⟨rfl, hJx', -⟩)
          · have A2 := A1.out.kept HPW.out hk'
            have A4 := Lib.hid (A2.set h56 hlt6 2)
            have J4 := Lib.hid (HJ.out _ _ _ _ _ hJ' (OnlyIn.setCell W' ⟨w1.heap.size + 1, 3, none⟩ (.int .i64 2) A2.x6) (fun j h => Or.inl h))
            have d0 := blk_cell A2.b6 0; have d1 := blk_cell A2.b6 1; have d2 := blk_cell A2.b6 2; have d3 := blk_cell A2.b6 3
            have e0 := blk_free A2.b6 0; have e1 := blk_free A2.b6 1; have e2 := blk_free A2.b6 2; have e3 := blk_free A2.b6 3
            have a0 := blk_cell A2.b5 0; have a1 := blk_cell A2.b5 1; have a2 := blk_cell A2.b5 2
            clear hJ' hk' hy A2 A1 HR
            gi_wp2_with fail
            -- the leaves that are put in behind the number: W4, A4, J4, P4 (how much has come), S4 (what is still to come)
            gi_loopw [40] (fun v wr => ∃ (m : Nat) (X : Nat → Prop), m ≤ N ∧ v = .int .i64 m ∧ Hid (J (pre4 ++ (List.range m).map (putL i k)) X wr) ∧ Hid (AtNum w₀ wr w1.heap.size (w1.heap.size + 1) B gb ib false false N i k m 2 X)) (fun v _ => N - (intOf v).toNat)
            case atStart => exact ⟨0, _, by omega, rfl, (List.append_nil pre4).symm ▸ J4, A4⟩
            case round =>
              obtain ⟨m, Xm, hm, rfl, Jm, Am⟩ := hrel
              clear A4 J4
              by_cases hmN : m < N
              · have A5 := Am.out.plus h56 hlt6 ((m : Int) + 1)
                have J5 := HJ.out _ _ Xm _ _ Jm.out (OnlyIn.setCell wr ⟨w1.heap.size + 1, 2, none⟩ (.int .i64 ((m : Int) + 1)) Am.out.x6) (fun j h => Or.inl h)
                obtain ⟨rest, hsp⟩ := S4.out
                obtain ⟨rest2, hpu⟩ := puts_split (i := i) (k := k) hmN
                obtain ⟨fn, tmps, assign, body, hy, hR⟩ := HY.out (pre4 ++ (List.range m).map (putL i k)) (putL i k m) (rest2 ++ rest) Xm _ (by rw [hsp, hpu]; simp) J5
                have HR := Lib.hid hR
                have A5 := Lib.hid A5
                have d0 := blk_cell Am.out.b6 0; have d1 := blk_cell Am.out.b6 1; have d2 := blk_cell Am.out.b6 2; have d3 := blk_cell Am.out.b6 3
                have e0 := blk_free Am.out.b6 0; have e1 := blk_free Am.out.b6 1; have e2 := blk_free Am.out.b6 2; have e3 := blk_free Am.out.b6 3
                have hAs := blk_later (Below.refl _ _) A5.out.b6
                have a0 := blk_cell hAs 0; have a1 := blk_cell hAs 1; have a2 := blk_cell hAs 2; have a3 := blk_cell hAs 3
                clear hR J5 hsp hpu hAs
                gi_wp2_with fail
                refine HR.out.mono ?_
                rintro e W' (⟨rfl, hJ', hk'⟩ | ⟨rfl, hJx', -⟩)
                · have A6 := Lib.hid (A5.out.kept HPW.out hk')
                  have J6 := Lib.hid (show J (pre4 ++ (List.range (m + 1)).map (putL i k)) Xm W' by rw [puts_succ, ← List.append_assoc]; exact hJ')
                  clear hJ' hk' hy d0 d1 d2 d3 e0 e1 e2 e3 a0 a1 a2 a3
                  gi_wp2_with fail
                  go_roundw
                  case rel => exact ⟨m + 1, Xm, by omega, by go_num, J6, A6⟩
                  case measure => simp [intOf]; omega
                · have Jx6 := Lib.hid hJx'
                  clear hJx' hy d0 d1 d2 d3 e0 e1 e2 e3 a0 a1 a2 a3
                  gi_wp2_with fail
                  refine bodyPost_ret (results_none rfl _ _ _) rfl ?_
                  exact ⟨⟨_, rfl⟩, .inr ⟨_, _, Jx6.out⟩⟩
              · obtain rfl : m = N := by omega
                gi_wp2_with fail
                go_roundw
                case rel => exact ⟨k + 1, Xm, by omega, by go_num, by rw [← P4.out]; exact Jm, Am.out.sz, Am.out.pr⟩
                case measure => simp [intOf]; omega
          · have Jx6 := Lib.hid hJx'
            clear hJx' hy HR A1
            gi_wp2_with fail
            refine bodyPost_ret (results_none rfl _ _ _) rfl ?_
            exact ⟨⟨_, rfl⟩, .inr ⟨_, _, Jx6.out⟩⟩
        ·
          have e0 : lvsNum i k ⟨false, true, N⟩ = ⟨i, k, 0, 1⟩ :: (List.range N).map (putL i k) := by
            have : 0 < k := by omega
            simp [lvsNum, this]
          obtain ⟨A1, J1⟩ := mk 1
          clear mk noLeaf
          obtain ⟨pre4, hpre4⟩ : ∃ pre4, pre4 = uptoG i g k ++ [⟨i, k, 0, 1⟩] := ⟨_, rfl⟩
          have P4 : Hid (pre4 ++ (List.range N).map (putL i k) = uptoG i g (k + 1)) := by show _ = _; rw [uptoG_succ, HF.out, e0, hpre4]; simp
          have S4 : Hid (∃ rest, lvsG i g = pre4 ++ ((List.range N).map (putL i k) ++ rest)) := ⟨rst, by rw [HSP.out, e0, hpre4]; simp⟩
          obtain ⟨fn, tmps, assign, body, hy, hR⟩ := HY.out (uptoG i g k) ⟨i, k, 0, 1⟩ ((List.range N).map (putL i k) ++ rst) _ _ (by rw [HSP.out, e0]; rfl) J1.out
          have HR := Lib.hid hR
          rw [← hpre4] at HR
          clear hR HSP e0 hpre4 J1
          gi_wp2_with fail
          refine HR.out.mono ?_
          rintro e W' (⟨rfl, hJ', hk'⟩ | ⟨rfl, hJx', -⟩)
          · have A2 := A1.out.kept HPW.out hk'
            have A4 := Lib.hid (A2.set h56 hlt6 2)
            have J4 := Lib.hid (HJ.out _ _ _ _ _ hJ' (OnlyIn.setCell W' ⟨w1.heap.size + 1, 3, none⟩ (.int .i64 2) A2.x6) (fun j h => Or.inl h))
            have d0 := blk_cell A2.b6 0; have d1 := blk_cell A2.b6 1; have d2 := blk_cell A2.b6 2; have d3 := blk_cell A2.b6 3
            have e0 := blk_free A2.b6 0; have e1 := blk_free A2.b6 1; have e2 := blk_free A2.b6 2; have e3 := blk_free A2.b6 3
            have a0 := blk_cell A2.b5 0; have a1 := blk_cell A2.b5 1; have a2 := blk_cell A2.b5 2
            clear hJ' hk' hy A2 A1 HR
            gi_wp2_with fail
            -- the leaves that are put in behind the number: W4, A4, J4, P4 (how much has come), S4 (what is still to come)
            gi_loopw [40] (fun v wr => ∃ (m : Nat) (X : Nat → Prop), m ≤ N ∧ v = .int .i64 m ∧ Hid (J (pre4 ++ (List.range m).map (putL i k)) X wr) ∧ Hid (AtNum w₀ wr w1.heap.size (w1.heap.size + 1) B gb ib false true N i k m 2 X)) (fun v _ => N - (intOf v).toNat)
            case atStart => exact ⟨0, _, by omega, rfl, (List.append_nil pre4).symm ▸ J4, A4⟩
            case round =>
              obtain ⟨m, Xm, hm, rfl, Jm, Am⟩ := hrel
              clear A4 J4
              by_cases hmN : m < N
              · have A5 := Am.out.plus h56 hlt6 ((m : Int) + 1)
                have J5 := HJ.out _ _ Xm _ _ Jm.out (OnlyIn.setCell wr ⟨w1.heap.size + 1, 2, none⟩ (.int .i64 ((m : Int) + 1)) Am.out.x6) (fun j h => Or.inl h)
                obtain ⟨rest, hsp⟩ := S4.out
                obtain ⟨rest2, hpu⟩ := puts_split (i := i) (k := k) hmN
                obtain ⟨fn, tmps, assign, body, hy, hR⟩ := HY.out (pre4 ++ (List.range m).map (putL i k)) (putL i k m) (rest2 ++ rest) Xm _ (by rw [hsp, hpu]; simp) J5
                have HR := Lib.hid hR
                have A5 := Lib.hid A5
                have d0 := blk_cell Am.out.b6 0; have d1 := blk_cell Am.out.b6 1; have d2 := blk_cell Am.out.b6 2; have d3 := blk_cell Am.out.b6 3
                have e0 := blk_free Am.out.b6 0; have e1 := blk_free Am.out.b6 1; have e2 := blk_free Am.out.b6 2; have e3 := blk_free Am.out.b6 3
                have hAs := blk_later (Below.refl _ _) A5.out.b6
                have a0 := blk_cell hAs 0; have a1 := blk_cell hAs 1; have a2 := blk_cell hAs 2; have a3 := blk_cell hAs 3
                clear hR J5 hsp hpu hAs
                gi_wp2_with fail
                refine HR.out.mono ?_
                rintro e W' (⟨rfl, hJ', hk'⟩ | ⟨rfl, hJx', -⟩)
                · have A6 := Lib.hid (A5.out.kept HPW.out hk')
                  have J6 := Lib.hid (show J (pre4 ++ (List.range (m + 1)).map (putL i k)) Xm W' by rw [puts_succ, ← List.append_assoc]; exact hJ')
                  clear hJ' hk' hy d0 d1 d2 d3 e0 e1 e2 e3 a0 a1 a2 a3
                  gi_wp2_with fail
                  go_roundw
                  case rel => exact ⟨m + 1, Xm, by omega, by go_num, J6, A6⟩
                  case measure => simp [intOf]; omega
                · have Jx6 := Lib.hid hJx'
                  clear hJx' hy d0 d1 d2 d3 e0 e1 e2 e3 a0 a1 a2 a3
                  gi_wp2_with fail
                  refine bodyPost_ret (results_none rfl _ _ _) rfl ?_
                  exact ⟨⟨_, rfl⟩, .inr ⟨_, _, Jx6.out⟩⟩
              · obtain rfl : m = N := by omega
                gi_wp2_with fail
                go_roundw
                case rel => exact ⟨k + 1, Xm, by omega, by go_num, by rw [← P4.out]; exact Jm, Am.out.sz, Am.out.pr⟩
                case measure => simp [intOf]; omega
          · have Jx6 := Lib.hid hJx'
            clear hJx' hy HR A1
            gi_wp2_with fail
            refine bodyPost_ret (results_none rfl _ _ _) rfl ?_
            exact ⟨⟨_, rfl⟩, .inr ⟨_, _, Jx6.out⟩⟩
      · have e0 := noLeaf (Or.inr rfl)
        obtain ⟨pre4, hpre4⟩ : ∃ pre4, pre4 = uptoG i g k := ⟨_, rfl⟩
        have P4 : Hid (pre4 ++ (List.range N).map (putL i k) = uptoG i g (k + 1)) := by show _ = _; rw [uptoG_succ, HF.out, e0, hpre4]
        have S4 : Hid (∃ rest, lvsG i g = pre4 ++ ((List.range N).map (putL i k) ++ rest)) := ⟨rst, by rw [HSP.out, e0, hpre4]⟩
        have A4 := (mk 2).1
        have J4 := (mk 2).2
        rw [← hpre4] at J4
        clear mk hpre4 e0 HSP noLeaf
        cases fs
        ·
          gi_wp2_with fail
          refine ⟨fun _ h => (by cases h), ?_⟩
          gi_wp2_with fail
          -- the leaves that are put in behind the number: W4, A4, J4, P4 (how much has come), S4 (what is still to come)
          gi_loopw [40] (fun v wr => ∃ (m : Nat) (X : Nat → Prop), m ≤ N ∧ v = .int .i64 m ∧ Hid (J (pre4 ++ (List.range m).map (putL i k)) X wr) ∧ Hid (AtNum w₀ wr w1.heap.size (w1.heap.size + 1) B gb ib true false N i k m 2 X)) (fun v _ => N - (intOf v).toNat)
          case atStart => exact ⟨0, _, by omega, rfl, (List.append_nil pre4).symm ▸ J4, A4⟩
          case round =>
            obtain ⟨m, Xm, hm, rfl, Jm, Am⟩ := hrel
            clear A4 J4
            by_cases hmN : m < N
            · have A5 := Am.out.plus h56 hlt6 ((m : Int) + 1)
              have J5 := HJ.out _ _ Xm _ _ Jm.out (OnlyIn.setCell wr ⟨w1.heap.size + 1, 2, none⟩ (.int .i64 ((m : Int) + 1)) Am.out.x6) (fun j h => Or.inl h)
              obtain ⟨rest, hsp⟩ := S4.out
              obtain ⟨rest2, hpu⟩ := puts_split (i := i) (k := k) hmN
              obtain ⟨fn, tmps, assign, body, hy, hR⟩ := HY.out (pre4 ++ (List.range m).map (putL i k)) (putL i k m) (rest2 ++ rest) Xm _ (by rw [hsp, hpu]; simp) J5
              have HR := Lib.hid hR
              have A5 := Lib.hid A5
              have d0 := blk_cell Am.out.b6 0; have d1 := blk_cell Am.out.b6 1; have d2 := blk_cell Am.out.b6 2; have d3 := blk_cell Am.out.b6 3
              have e0 := blk_free Am.out.b6 0; have e1 := blk_free Am.out.b6 1; have e2 := blk_free Am.out.b6 2; have e3 := blk_free Am.out.b6 3
              have hAs := blk_later (Below.refl _ _) A5.out.b6
              have a0 := blk_cell hAs 0; have a1 := blk_cell hAs 1; have a2 := blk_cell hAs 2; have a3 := blk_cell hAs 3
              clear hR J5 hsp hpu hAs
              gi_wp2_with fail
              refine HR.out.mono ?_
              rintro e W' (⟨rfl, hJ', hk'⟩ | ⟨rfl, hJx', -⟩)
              · have A6 := Lib.hid (A5.out.kept HPW.out hk')
                have J6 := Lib.hid (show J (pre4 ++ (List.range (m + 1)).map (putL i k)) Xm W' by rw [puts_succ, ← List.append_assoc]; exact hJ')
                clear hJ' hk' hy d0 d1 d2 d3 e0 e1 e2 e3 a0 a1 a2 a3
                gi_wp2_with fail
                go_roundw
                case rel => exact ⟨m + 1, Xm, by omega, by go_num, J6, A6⟩
                case measure => simp [intOf]; omega
              · have Jx6 := Lib.hid hJx'
                clear hJx' hy d0 d1 d2 d3 e0 e1 e2 e3 a0 a1 a2 a3
                gi_wp2_with fail
                refine bodyPost_ret (results_none rfl _ _ _) rfl ?_
                exact ⟨⟨_, rfl⟩, .inr ⟨_, _, Jx6.out⟩⟩
            · obtain rfl : m = N := by omega
              gi_wp2_with fail
              go_roundw
              case rel => exact ⟨k + 1, Xm, by omega, by go_num, by rw [← P4.out]; exact Jm, Am.out.sz, Am.out.pr⟩
              case measure => simp [intOf]; omega
        ·
          gi_wp2_with fail
          refine ⟨fun _ h => (by cases h), ?_⟩
          gi_wp2_with fail
          -- the leaves that are put in behind the number: W4, A4, J4, P4 (how much has come), S4 (what is still to come)
          gi_loopw [40] (fun v wr => ∃ (m : Nat) (X : Nat → Prop), m ≤ N ∧ v = .int .i64 m ∧ Hid (J (pre4 ++ (List.range m).map (putL i k)) X wr) ∧ Hid (AtNum w₀ wr w1.heap.size (w1.heap.size + 1) B gb ib true true N i k m 2 X)) (fun v _ => N - (intOf v).toNat)
          case atStart => exact ⟨0, _, by omega, rfl, (List.append_nil pre4).symm ▸ J4, A4⟩
          case round =>
            obtain ⟨m, Xm, hm, rfl, Jm, Am⟩ := hrel
            clear A4 J4
            by_cases hmN : m < N
            · have A5 := Am.out.plus h56 hlt6 ((m : Int) + 1)
              have J5 := HJ.out _ _ Xm _ _ Jm.out (OnlyIn.setCell wr ⟨w1.heap.size + 1, 2, none⟩ (.int .i64 ((m : Int) + 1)) Am.out.x6) (fun j h => Or.inl h)
              obtain ⟨rest, hsp⟩ := S4.out
              obtain ⟨rest2, hpu⟩ := puts_split (i := i) (k := k) hmN
              obtain ⟨fn, tmps, assign, body, hy, hR⟩ := HY.out (pre4 ++ (List.range m).map (putL i k)) (putL i k m) (rest2 ++ rest) Xm _ (by rw [hsp, hpu]; simp) J5
              have HR := Lib.hid hR
              have A5 := Lib.hid A5
              have d0 := blk_cell Am.out.b6 0; have d1 := blk_cell Am.out.b6 1; have d2 := blk_cell Am.out.b6 2; have d3 := blk_cell Am.out.b6 3
              have e0 := blk_free Am.out.b6 0; have e1 := blk_free Am.out.b6 1; have e2 := blk_free Am.out.b6 2; have e3 := blk_free Am.out.b6 3
              have hAs := blk_later (Below.refl _ _) A5.out.b6
              have a0 := blk_cell hAs 0; have a1 := blk_cell hAs 1; have a2 := blk_cell hAs 2; have a3 := blk_cell hAs 3
              clear hR J5 hsp hpu hAs
              gi_wp2_with fail
              refine HR.out.mono ?_
              rintro e W' (⟨rfl, hJ', hk'⟩ | ⟨rfl, hJx', -⟩)
              · have A6 := Lib.hid (A5.out.kept HPW.out hk')
                have J6 := Lib.hid (show J (pre4 ++ (List.range (m + 1)).map (putL i k)) Xm W' by rw [puts_succ, ← List.append_assoc]; exact hJ')
                clear hJ' hk' hy d0 d1 d2 d3 e0 e1 e2 e3 a0 a1 a2 a3
                gi_wp2_with fail
                go_roundw
                case rel => exact ⟨m + 1, Xm, by omega, by go_num, J6, A6⟩
                case measure => simp [intOf]; omega
              · have Jx6 := Lib.hid hJx'
                clear hJx' hy d0 d1 d2 d3 e0 e1 e2 e3 a0 a1 a2 a3
                gi_wp2_with fail
                refine bodyPost_ret (results_none rfl _ _ _) rfl ?_
                exact ⟨⟨_, rfl⟩, .inr ⟨_, _, Jx6.out⟩⟩
            · obtain rfl : m = N := by omega
              gi_wp2_with fail
              go_roundw
              case rel => exact ⟨k + 1, Xm, by omega, by go_num, by rw [← P4.out]; exact Jm, Am.out.sz, Am.out.pr⟩
              case measure => simp [intOf]; omega
    · obtain ⟨N, hN⟩ := Int.eq_ofNat_of_zero_le (show (0 : Int) ≤ g.leaves + 1 by omega)
      have HU : Hid (uptoG i g k = lvsG i g) := by
        have : k = (g.leaves + 1).toNat := by omega
        show _ = _
        rw [this]; rfl
      clear hN
      gi_wp2_with fail
      go_end0
      exact ⟨⟨_, rfl⟩, .inl ⟨X, HU.out ▸ hJk.out⟩⟩

end Go.Proofs.YtimdmgkegdlafaaGreatDoor
