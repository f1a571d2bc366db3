/- The parts Uz, Od, Uh, Uj, Uk, Um, Un, Us of the proof, joined. It holds without conditions of its own. -/
import Derived.Test.YtpdhdgdbknnllaaGreatDoorFX9
import Derived.Test.YtpdhdgdbknnllaaGreatDoorFX24
import Derived.Test.YtpdhdgdbknnllaaGreatDoorFX10
import Derived.Test.YtpdhdgdbknnllaaGreatDoorFX13
import Derived.DeepKeys3
import Derived.Maps.Keyed
import Derived.Test.YtpdhdgdbknnllaaGreatDoorFX14
import Derived.Deep.Cut
set_option maxRecDepth 100000
set_option maxHeartbeats 20000000
namespace Go.Proofs.YtpdhdgdbknnllaaGreatDoor
section
set_option linter.unusedSimpArgs false
set_option linter.unusedVariables false
open Go Go.RowKit Go.Sort Go.BigFrame
theorem elemFl : ∃ i, Tryz.prog.info? 106 = some i /\ i.zero = some (.agg #[.int .i64 0, .int .i64 0, .int .i64 0, .bool false, .bool false]) /\ i.size = 5 /\ i.bytes = 32 := elemOf (by kernel_rfl)
theorem undFls : Tryz.prog.underlying 81 = some (.slice 106) := by kernel_rfl
def flCells (ls : List Fl) : List Value := ls.flatMap flV
theorem flCells_append (a b : List Fl) : flCells (a ++ b) = flCells a ++ flCells b := by unfold flCells; rw [List.flatMap_append]
theorem flCells_len (a : List Fl) : (flCells a).length = a.length * 5 := by
 unfold flCells
 induction a with
 | nil => rfl
 | cons x xs ih => simp only [List.flatMap_cons, List.length_append, ih, List.length_cons, List.length_nil]; omega
theorem flCells_one {a : List Fl} : ∀ u ∈ flCells a, u.oneCell' = true := by
 intro u hu
 unfold flCells at hu
 obtain ⟨x, -, hx⟩ := List.mem_flatMap.1 hu
 simp at hx
 rcases hx with rfl | rfl | rfl | rfl | rfl <;> rfl
theorem flCells_take (a : List Fl) (k : Nat) (hk : k <= a.length) : (flCells a).take (k * 5) = flCells (a.take k) := by
 have h : flCells a = flCells (a.take k) ++ flCells (a.drop k) := by rw [<- flCells_append, List.take_append_drop]
 have hl : (flCells (a.take k)).length = k * 5 := by rw [flCells_len, List.length_take]; omega
 rw [h, <- hl, List.take_left']
 rfl
theorem flCells_drop (a : List Fl) (k : Nat) (hk : k <= a.length) : (flCells a).drop (k * 5) = flCells (a.drop k) := by
 have h : flCells a = flCells (a.take k) ++ flCells (a.drop k) := by rw [<- flCells_append, List.take_append_drop]
 have hl : (flCells (a.take k)).length = k * 5 := by rw [flCells_len, List.length_take]; omega
 rw [h, <- hl, List.drop_left']
 rfl
theorem leaves_of_row {W : World} {base : Nat} {v : Value} {ls : List Fl} (h : W.ownsRow base 106 5 v ls.length (flCells ls)) (hne : 1 <= ls.length) : ∃ g, LeavesAt W v ls g /\ base <= g := by
 rcases h.2 with ⟨-, h0⟩ | ⟨g, cap, cur, rfl, hb, hg, h1, h2, h3, h4⟩
 · omega
 · refine ⟨g, ⟨cap - ls.length, cur.toList.drop (ls.length * 5), ?_, ?_, ?_⟩, hb⟩
   · congr 1; omega
   · rw [hg]
     have e : ls.flatMap flV ++ cur.toList.drop (ls.length * 5) = cur.toList := by
      have : ls.flatMap flV = cur.toList.take (ls.length * 5) := h4.symm
      rw [this, List.take_append_drop]
     rw [e]
   · rw [List.length_drop, Array.length_toList, h3, Nat.sub_mul]
def firstR (f : Fds) (L : List Ln) (n : Nat) : List Fl := (List.range n).flatMap fun s => (ownR f L s).take ((ownR f L s).length / 2)
def secondR (f : Fds) (L : List Ln) : Nat -> List Fl
 | 0 => []
 | s + 1 => (ownR f L s).drop ((ownR f L s).length / 2) ++ secondR f L s
theorem firstR_succ (f : Fds) (L : List Ln) (s : Nat) : firstR f L (s + 1) = firstR f L s ++ (ownR f L s).take ((ownR f L s).length / 2) := by simp [firstR, List.range_succ]
theorem ownR_len (f : Fds) (L : List Ln) (s : Nat) : (ownR f L s).length = L.length := by simp [ownR]
theorem allR_is (f : Fds) (n : Nat) (half : Bool) : allR f n half = firstR f (pileR f half) n ++ secondR f (pileR f half) n := by
 unfold allR
 have key : ∀ n, (List.range n).foldl (fun (st : List Fl × List Fl) s => (st.1 ++ (ownR f (pileR f half) s).take ((ownR f (pileR f half) s).length / 2), (ownR f (pileR f half) s).drop ((ownR f (pileR f half) s).length / 2) ++ st.2)) ([], []) = (firstR f (pileR f half) n, secondR f (pileR f half) n) := by
  intro n
  induction n with
  | zero => rfl
  | succ n ih => rw [List.range_succ, List.foldl_append, ih, firstR_succ]; rfl
 simp only [key]
theorem firstR_len (f : Fds) (L : List Ln) (n : Nat) : (firstR f L n).length = n * (L.length / 2) := by
 induction n with
 | zero => simp [firstR]
 | succ n ih => rw [firstR_succ, List.length_append, ih, List.length_take, ownR_len, Nat.succ_mul]; omega
theorem secondR_len (f : Fds) (L : List Ln) (n : Nat) : (secondR f L n).length = n * (L.length - L.length / 2) := by
 induction n with
 | zero => simp [secondR]
 | succ n ih => rw [secondR, List.length_append, ih, List.length_drop, ownR_len, Nat.succ_mul]; omega
theorem ownR_next {f : Fds} {L : List Ln} {s i : Nat} {x : Ln} (h : L[i]? = some x) : ownR f (L.take (i + 1)) s = ownR f (L.take i) s ++ [⟨s, x.col, x.row, (x.x + x.y) % 2 == 1, (if lastF f then x.y else x.x) % 2 == 1⟩] := by
 unfold ownR
 rw [List.take_add_one, h]
 simp
theorem pile_len : ∀ f ∈ allFolds, 2 <= (pileR f false).length /\ (pileR f false).length <= 16 := by decide +kernel
theorem pile_lenh : ∀ f ∈ allFolds, 2 <= f.length -> 2 <= (pileR f true).length /\ (pileR f true).length <= 16 := by decide +kernel
theorem pile_small : ∀ f ∈ allFolds, (pileR f false).all (fun l => decide (l.col < 100) && decide (l.row < 100) && decide (l.x < 100) && decide (l.y < 100)) = true := by decide +kernel
theorem pile_smallh : ∀ f ∈ allFolds, 2 <= f.length -> (pileR f true).all (fun l => decide (l.col < 100) && decide (l.row < 100) && decide (l.x < 100) && decide (l.y < 100)) = true := by decide +kernel
theorem flat_atn : ∀ (ls : List Ln) (rest : List Value) (i : Nat) (x : Ln), ls[i]? = some x -> ∀ c, c < 4 -> (ls.flatMap lnV ++ rest)[i * 4 + c]? = (lnV x)[c]?
 | [], _, _, _, h, _, _ => by simp at h
 | y :: ys, rest, 0, x, h, c, hc => by
   obtain rfl : y = x := by simpa using h
   rw [List.flatMap_cons, List.append_assoc, List.getElem?_append_left (by simp; omega), Nat.zero_mul, Nat.zero_add]
 | y :: ys, rest, i + 1, x, h, c, hc => by
   rw [List.flatMap_cons, List.append_assoc, List.getElem?_append_right (by simp; omega)]
   have := flat_atn ys rest i x (by simpa using h) c hc
   rw [<- this]
   congr 1
   simp
   omega
theorem ln_cells {w : World} {v : Value} {ls : List Ln} {g i : Nat} {x : Ln} (h : LnsAt w v ls g) (hi : ls[i]? = some x) :
  w.cell? ⟨g, i * 4, none⟩ = some (.int .i64 x.col) /\ w.cell? ⟨g, i * 4 + 1, none⟩ = some (.int .i64 x.row) /\ w.cell? ⟨g, i * 4 + 2, none⟩ = some (.int .i64 x.x) /\ w.cell? ⟨g, i * 4 + 3, none⟩ = some (.int .i64 x.y) := by
 obtain ⟨k, rest, -, hg, -⟩ := h
 have key : ∀ c, c < 4 -> w.cell? ⟨g, i * 4 + c, none⟩ = (lnV x)[c]? := fun c hc => by
  rw [blk_cell hg, List.getElem?_toArray]
  exact flat_atn ls rest i x hi c hc
 exact ⟨key 0 (by omega), key 1 (by omega), key 2 (by omega), key 3 (by omega)⟩
theorem LnsAt.later {w w' : World} {v : Value} {ls : List Ln} {g : Nat} (h : LnsAt w v ls g) (hb : Below w.heap.size w w') : LnsAt w' v ls g := by
 obtain ⟨k, rest, h1, h2, h3⟩ := h
 exact ⟨k, rest, h1, blk_later hb h2, h3⟩
structure AlSt (w0 W : World) (lv : Value) (L : List Ln) (g B : Nat) (mc : Array Value) (fv sv : Value) (F S : List Fl) : Prop where
 frow : W.ownsRow B 106 5 fv F.length (flCells F)
 srow : W.ownsRow B 106 5 sv S.length (flCells S)
 apart : ∀ k, fv.ownBlock = some k -> sv.ownBlock ≠ some k
 pile : LnsAt W lv L g
 box : W.heap[w0.heap.size + 1]? = some (.cells mc 50 (0, 0))
 bel : Below w0.heap.size w0 W
 gB : g < B
 bB : w0.heap.size + 1 < B
theorem AlSt.later {w0 W W' : World} {lv : Value} {L : List Ln} {g B : Nat} {mc : Array Value} {fv sv : Value} {F S : List Fl} (h : AlSt w0 W lv L g B mc fv sv F S) (hb : Below W.heap.size W W') : AlSt w0 W' lv L g B mc fv sv F S :=
 ⟨row_later h.frow hb, row_later h.srow hb, h.apart, h.pile.later hb, blk_later hb h.box, h.bel.trans (hb.mono h.bel.size), h.gB, h.bB⟩
theorem AlSt.first {w0 W W' : World} {lv : Value} {L : List Ln} {g B : Nat} {mc : Array Value} {fv sv v' : Value} {F S X : List Fl} {n : Nat} (h : AlSt w0 W lv L g B mc fv sv F S)
  (hr : W'.ownsRow B 106 5 v' n (flCells F ++ flCells X)) (hn : n = F.length + X.length) (hg : W.grownBy W' fv.ownBlock) (ho : v'.ownBlock = fv.ownBlock ∨ v'.ownBlock = some W.heap.size) : AlSt w0 W' lv L g B mc v' sv (F ++ X) S := by
 have hbl : Below w0.heap.size W W' := ((Below.refl _ W).mono h.bel.size).grown hg h.bel.size (fun k hk => by
  have := (h.frow.lt k hk).1
  have := h.bB
  omega)
 obtain ⟨k7, rest7, e1, e2, e3⟩ := h.pile
 refine ⟨?_, h.srow.kept hg ?_, ?_, ⟨k7, rest7, e1, ?_, e3⟩, ?_, h.bel.trans hbl, h.gB, h.bB⟩
 · rw [flCells_append, List.length_append, <- hn]; exact hr
 · cases hs : sv.ownBlock with
   | none => exact Or.inl rfl
   | some k => exact Or.inr fun e => h.apart k e.symm hs
 · intro k hk hs
   rcases ho with ho | ho
   · exact h.apart k (ho ▸ hk) hs
   · rw [ho] at hk
     cases hk
     have := (h.srow.lt _ hs).2
     omega
 · exact (hg.block _ (blk_lt e2) (fun e => by have := (h.frow.lt _ e.symm).1; have := h.gB; omega)).trans e2
 · exact (hg.block _ (blk_lt h.box) (fun e => by have := (h.frow.lt _ e.symm).1; have := h.bB; omega)).trans h.box
theorem AlSt.second {w0 W W' : World} {lv : Value} {L : List Ln} {g B : Nat} {mc : Array Value} {fv sv v' : Value} {F S X : List Fl} (h : AlSt w0 W lv L g B mc fv sv F S)
  (hr : W'.ownsRow W.heap.size 106 5 v' X.length (flCells X)) (hB : B <= W.heap.size) (hb : Below W.heap.size W W') : AlSt w0 W' lv L g B mc fv v' F X := by
 have h' := h.later hb
 refine ⟨h'.frow, row_mono hr hB, ?_, h'.pile, h'.box, h'.bel, h.gB, h.bB⟩
 intro k hk hs
 have h1 := (hr.lt _ hs).1
 have h2 := (h.frow.lt _ hk).2
 omega
theorem row_formK {W : World} {base : Nat} {v : Value} {e : TypeId} {s n : Nat} {xs : List Value} (h : W.ownsRow base e s v n xs) (hn : 0 < n) : ∃ g cap, v = .slice (some ⟨g, 0, none⟩) n cap /\ base <= g /\ g < W.heap.size /\ n <= cap /\ cap <= maxLen := by
 rcases h.2 with ⟨-, h0⟩ | ⟨g, cap, cur, rfl, hb, hg, h1, h2, -⟩
 · omega
 · exact ⟨g, cap, rfl, hb, (Array.getElem?_eq_some_iff.1 hg).1, h1, h2⟩
theorem row_from {W : World} {base g n cap : Nat} {e : TypeId} {xs : List Value} (h : W.ownsRow base e 5 (.slice (some ⟨g, 0, none⟩) n cap) n xs) (k : Nat) : ∀ j u, (xs.drop (k * 5))[j]? = some u -> W.cell? ((⟨g, k * 5, none⟩ : Addr).add j) = some u := by
 intro j u hju
 rw [List.getElem?_drop] at hju
 have := h.cells (g := g) rfl (k * 5 + j) u hju
 rw [add_offi] at this
 have e : (⟨g, k * 5, none⟩ : Addr).add j = ⟨g, k * 5 + j, none⟩ := by unfold Addr.add; split <;> simp_all
 rw [e]
 exact this
end
section
set_option linter.unusedSimpArgs false
set_option linter.unusedVariables false
open Go Go.RowKit Go.Sort Go.BigFrame Go.Maps Go.WideMaps
theorem plKeyed : Keyed Tryz.prog 182 := Keyed.of_law (deep_law (m := 2) (by omega) (by kernel_rfl) (by kernel_rfl) (by kernel_rfl))
abbrev plV (s c r : Nat) : Value := .agg #[.int .i64 (s : Int), .int .i64 (c : Int), .int .i64 (r : Int)]
theorem int_wf {n : Nat} (h : n < 1000) : (Lit.int .i64 (n : Int)).wf = true := by
 have h1 : IntKind.i64.min = -9223372036854775808 := by decide
 have h2 : IntKind.i64.max = 9223372036854775807 := by decide
 simp only [Lit.wf, Bool.and_eq_true, decide_eq_true_eq]
 rw [h1, h2]
 omega
theorem int_lits {d n : Nat} (h : n < 1000) : Tryz.prog.keyLits (d + 1) 3 [.int .i64 (n : Int)] = some [.int .i64 (n : Int)] := by
 unfold Program.keyLits
 rw [Tryz.underlying3]
 simp [int_wf h]
theorem pl_key {s c r : Nat} (hs : s < 1000) (hc : c < 1000) (hr : r < 1000) : ∃ l, keyOf Tryz.prog 182 (plV s c r) = some l := by
 unfold keyOf
 rw [Tryz.underlying182]
 simp only
 have h1 : (Tryz.prog.keyType 182 && Value.formed Tryz.prog 182 (plV s c r)) = true := by
  rw [show Tryz.prog.keyType 182 = true by kernel_rfl, Bool.true_and]
  kernel_rfl
 rw [if_pos h1]
 obtain ⟨k, hk⟩ : ∃ k, Tryz.prog.types.size = k + 1 := ⟨Tryz.prog.types.size - 1, by kernel_rfl⟩
 rw [hk]
 unfold Program.keyLits
 rw [Tryz.underlying182]
 simp [Value.cells, show Tryz.prog.cellsOf 3 = 1 by kernel_rfl, show Tryz.prog.cellsOf 182 = 3 by kernel_rfl, int_lits hs, int_lits hc, int_lits hr]
abbrev Pl := Nat × Nat × Nat
abbrev plW (q : Pl) : Value := plV q.1 q.2.1 q.2.2
def plOk (q : Pl) : Prop := q.1 < 1000 /\ q.2.1 < 1000 /\ q.2.2 < 1000
theorem plW_inj {q r : Pl} (h : plW q = plW r) : q = r := by
 obtain ⟨a, b, c⟩ := q
 obtain ⟨d, e, f⟩ := r
 simp [plW, plV] at h
 obtain ⟨h1, h2, h3⟩ := h
 simp only [Prod.mk.injEq]
 omega
def PlMap (w : World) (b : Nat) (ks : List (Pl × Int)) : Prop :=
 ∃ es clock, w.heap[b]? = some (.map es clock) /\ es.toList.map (fun e => (e.key, e.val)) = ks.map (fun q => (plW q.1, Value.int .i64 q.2)) /\ ∀ k ∈ ks, plOk k.1
theorem PlMap.made (w : World) : PlMap (w.alloc (.map #[] 0)) w.heap.size [] := ⟨#[], 0, World.alloc_heap_new w _, rfl, by simp⟩
theorem PlMap.keep {w w' : World} {b : Nat} {ks : List (Pl × Int)} (h : PlMap w b ks) (hs : w'.heap[b]? = w.heap[b]?) : PlMap w' b ks := by
 obtain ⟨es, clock, hb, r⟩ := h
 exact ⟨es, clock, hs.trans hb, r⟩
theorem PlMap.lt {w : World} {b : Nat} {ks : List (Pl × Int)} (h : PlMap w b ks) : b < w.heap.size := by
 obtain ⟨es, clock, hb, r⟩ := h
 exact (Array.getElem?_eq_some_iff.1 hb).1
theorem zeroIntU (w : World) : (zeroValue 3).run Tryz.prog w = .ok (.int .i64 0) w := by kernel_rfl
theorem pl_entry {es : Array MapEntry} {ks : List (Pl × Int)} (hk : es.toList.map (fun e => (e.key, e.val)) = ks.map (fun q => (plW q.1, Value.int .i64 q.2))) {e : MapEntry} (he : e ∈ es.toList) : ∃ k ∈ ks, plW k.1 = e.key /\ Value.int .i64 k.2 = e.val := by
 have : (e.key, e.val) ∈ es.toList.map (fun e => (e.key, e.val)) := List.mem_map.2 ⟨e, he, rfl⟩
 rw [hk] at this
 obtain ⟨k, h1, h2⟩ := List.mem_map.1 this
 obtain ⟨h3, h4⟩ := Prod.mk.inj h2
 exact ⟨k, h1, h3, h4⟩
theorem pl_keys {es : Array MapEntry} {ks : List (Pl × Int)} (hk : es.toList.map (fun e => (e.key, e.val)) = ks.map (fun q => (plW q.1, Value.int .i64 q.2))) (hs : ∀ k ∈ ks, plOk k.1) :
  ∀ e ∈ es.toList, ∃ l, keyOf Tryz.prog 182 e.key = some l := fun e he => by
 obtain ⟨k, h1, h2, -⟩ := pl_entry hk he
 rw [<- h2]
 obtain ⟨a, b, c⟩ := hs k h1
 exact pl_key a b c
def plGet (ks : List (Pl × Int)) (q : Pl) : Int := match ks.find? (fun k => k.1 == q) with
 | some k => k.2
 | none => 0
theorem PlMap.look {w : World} {b : Nat} {ks : List (Pl × Int)} (h : PlMap w b ks) (hu : (ks.map (·.1)).Nodup) {q : Pl} (hq : plOk q) :
  (Instr.lookup 179 (.map (some b)) (plW q) false).run Tryz.prog w = .ok (.int .i64 (plGet ks q)) w := by
 obtain ⟨es, clock, hb, hk, hsig⟩ := h
 obtain ⟨kl, hkl⟩ := pl_key hq.1 hq.2.1 hq.2.2
 have hck := plKeyed.check w es.isEmpty hkl
 rcases plKeyed.find w hkl es.toList (pl_keys hk hsig) with ⟨hf, hne⟩ | ⟨j, e, hf, hj, he⟩
 · have hg : plGet ks q = 0 := by
    unfold plGet
    rw [List.find?_eq_none.2]
    intro k hkk hkq
    have hkq : k.1 = q := by simpa using hkq
    have : (plW k.1, Value.int .i64 k.2) ∈ es.toList.map (fun e => (e.key, e.val)) := by rw [hk]; exact List.mem_map.2 ⟨k, hkk, rfl⟩
    obtain ⟨e, he, e1⟩ := List.mem_map.1 this
    exact hne e he (by rw [(Prod.mk.inj e1).1, hkq])
   rw [hg]
   simp [Instr.lookup, run_underlying Tryz.underlying179, MapKept.run_getObj_map hb, hck, hf, zeroIntU, Result.andThen]
 · have hem : e ∈ es.toList := List.mem_of_getElem? hj
   obtain ⟨k, h1, h2, h3⟩ := pl_entry hk hem
   have hkq : k.1 = q := plW_inj (h2.trans he)
   have hg : plGet ks q = k.2 := by
    unfold plGet
    cases hfd : ks.find? (fun k => k.1 == q) with
    | none =>
      have := List.find?_eq_none.1 hfd k h1
      simp [hkq] at this
    | some k' =>
      have m1 := List.mem_of_find?_eq_some hfd
      have m2 : k'.1 = q := by simpa using List.find?_some hfd
      have : k' = k := by
       obtain ⟨i, hi⟩ := List.mem_iff_getElem?.1 m1
       obtain ⟨i2, hi2⟩ := List.mem_iff_getElem?.1 h1
       have e1 : (ks.map (·.1))[i]? = some q := by rw [List.getElem?_map, hi]; simp [m2]
       have e2 : (ks.map (·.1))[i2]? = some q := by rw [List.getElem?_map, hi2]; simp [hkq]
       obtain ⟨l1, g1⟩ := List.getElem?_eq_some_iff.1 e1
       obtain ⟨l2, g2⟩ := List.getElem?_eq_some_iff.1 e2
       have : i = i2 := by
        have hp := List.pairwise_iff_getElem.1 hu
        rcases Nat.lt_trichotomy i i2 with h | h | h
        · exact absurd (g1.trans g2.symm) (hp i i2 l1 l2 h)
        · exact h
        · exact absurd (g2.trans g1.symm) (hp i2 i l2 l1 h)
       subst this
       rw [hi] at hi2
       exact Option.some.inj hi2
      show k'.2 = k.2
      rw [this]
   rw [hg]
   simp [Instr.lookup, run_underlying Tryz.underlying179, MapKept.run_getObj_map hb, hck, hf, <- h3, Result.andThen]
theorem PlMap.put {w : World} {b : Nat} {ks : List (Pl × Int)} (h : PlMap w b ks) {q : Pl} {n : Int} (hq : plOk q) (hn : q ∉ ks.map (·.1)) :
  ∃ o, (Instr.mapUpdate 179 (.map (some b)) (plW q) (.int .i64 n)).run Tryz.prog w = .ok () (w.putObj b o) /\ (∀ w', w'.heap[b]? = some o -> PlMap w' b (ks ++ [(q, n)])) := by
 obtain ⟨es, clock, hb, hk, hsig⟩ := h
 obtain ⟨kl, hkl⟩ := pl_key hq.1 hq.2.1 hq.2.2
 have hck := plKeyed.check w false hkl
 rcases plKeyed.find w hkl es.toList (pl_keys hk hsig) with ⟨hf, hne⟩ | ⟨j, e, hf, hj, he⟩
 · refine ⟨.map (es.push { key := plW q, val := .int .i64 n, born := clock }) (clock + 1), ?_, fun w' hw' => ⟨_, _, hw', ?_, ?_⟩⟩
   · simp [Instr.mapUpdate, run_underlying Tryz.underlying179, MapKept.run_getObj_map hb, hck, hf, MapKept.run_setObj_map _ hb, Result.andThen, World.putObj]
   · simp [hk]
   · intro k hk
     simp only [List.mem_append, List.mem_singleton] at hk
     rcases hk with hk | rfl
     · exact hsig k hk
     · exact hq
 · exfalso
   obtain ⟨k, h1, h2, -⟩ := pl_entry hk (List.mem_of_getElem? hj)
   exact hn (List.mem_map.2 ⟨k, h1, plW_inj (h2.trans he)⟩)
end
end Go.Proofs.YtpdhdgdbknnllaaGreatDoor
