/- The parts Id, Kfo, Kfn, Vz, Fa of the proof, joined. It holds without conditions of its own. -/
import Derived.Test.YtpdhdgdbknnllaaGreatDoorFX3
set_option maxRecDepth 100000
set_option maxHeartbeats 20000000
namespace Go.Proofs.YtpdhdgdbknnllaaGreatDoor
section
set_option linter.unusedSimpArgs false
set_option linter.unusedVariables false
open Go Go.RowKit Go.Sort Go.BigFrame
def RowsAt {α : Type} (n : Nat) (enc : α -> List Value) (B : Nat) (w : World) (v : Value) (xs : List α) : Prop :=
 ∃ (a : Option Addr) (cap : Nat), v = .slice a xs.length cap /\ (xs ≠ [] -> ∃ b off, a = some ⟨b, off, none⟩ /\ b < B /\
   ∀ i x, xs[i]? = some x -> ∀ j u, (enc x)[j]? = some u -> w.cell? ⟨b, off + i * n + j, none⟩ = some u)
theorem cell_samei {B : Nat} {w w' : World} (h : ∀ k, k < B -> w'.heap[k]? = w.heap[k]?) {b : Nat} (hb : b < B) (i : Nat) : w'.cell? ⟨b, i, none⟩ = w.cell? ⟨b, i, none⟩ :=
 World.cell?_of_block (w := w) (h b hb)
theorem RowsAt.same {α : Type} {n : Nat} {enc : α -> List Value} {B : Nat} {w w' : World} {v : Value} {xs : List α} (h : RowsAt n enc B w v xs) (hs : ∀ k, k < B -> w'.heap[k]? = w.heap[k]?) : RowsAt n enc B w' v xs := by
 obtain ⟨a, cap, rfl, h⟩ := h
 refine ⟨a, cap, rfl, fun hne => ?_⟩
 obtain ⟨b, off, rfl, hb, hc⟩ := h hne
 exact ⟨b, off, rfl, hb, fun i x hi j u hu => (cell_samei hs hb _).trans (hc i x hi j u hu)⟩
theorem RowsAt.mono {α : Type} {n : Nat} {enc : α -> List Value} {B B' : Nat} {w : World} {v : Value} {xs : List α} (h : RowsAt n enc B w v xs) (hB : B <= B') : RowsAt n enc B' w v xs := by
 obtain ⟨a, cap, rfl, h⟩ := h
 refine ⟨a, cap, rfl, fun hne => ?_⟩
 obtain ⟨b, off, rfl, hb, hc⟩ := h hne
 exact ⟨b, off, rfl, Nat.lt_of_lt_of_le hb hB, hc⟩
theorem RowsAt.later {α : Type} {n : Nat} {enc : α -> List Value} {w w' : World} {v : Value} {xs : List α} (h : RowsAt n enc w.heap.size w v xs) (hb : Below w.heap.size w w') : RowsAt n enc w'.heap.size w' v xs :=
 (h.same fun k hk => hb.block k hk).mono hb.size
abbrev fmtV (f : Fmt) : List Value := [S f.name, S f.folds]
abbrev pprV (p : Ppr) : List Value := [S p.name, .int .i64 p.wlo, .int .i64 p.whi, .int .i64 p.hlo, .int .i64 p.hhi]
abbrev mrkV (m : Int × Bool) : List Value := [.int .i64 m.1, .bool m.2]
def smallS (s : Bs) : Prop := s.length <= 9223372036854775807
def PrsAt (B : Nat) (w : World) (v : Value) (p : Prs) : Prop :=
 ∃ fv pv, v = .agg #[fv, pv, .int .i64 p.trim, .int .i64 p.sheets] /\ RowsAt 2 fmtV B w fv p.fmts /\ RowsAt 5 pprV B w pv p.pprs /\ (∀ f ∈ p.fmts, smallS f.name /\ smallS f.folds) /\ ∀ q ∈ p.pprs, smallS q.name
def BokAt (B : Nat) (w : World) (v : Value) (b : Bok) : Prop :=
 ∃ mv, v = .agg #[.int .i64 b.leaves, .int .i64 b.chain, .int .i64 b.wlo, .int .i64 b.whi, .int .i64 b.hlo, .int .i64 b.hhi, mv] /\ RowsAt 2 mrkV B w mv b.marks
theorem PrsAt.later {w w' : World} {v : Value} {p : Prs} (h : PrsAt w.heap.size w v p) (hb : Below w.heap.size w w') : PrsAt w'.heap.size w' v p := by
 obtain ⟨fv, pv, rfl, h1, h2, h3⟩ := h
 exact ⟨fv, pv, rfl, h1.later hb, h2.later hb, h3⟩
theorem BokAt.later {w w' : World} {v : Value} {b : Bok} (h : BokAt w.heap.size w v b) (hb : Below w.heap.size w w') : BokAt w'.heap.size w' v b := by
 obtain ⟨mv, rfl, h1⟩ := h
 exact ⟨mv, rfl, h1.later hb⟩
theorem inI_inB (lo hi n : Int) : inI lo hi n = inB lo hi n := rfl
theorem place_mem {xs : List Bs} {y : Bs} : 0 <= placeF xs y ↔ y ∈ xs := by
 constructor
 · intro h
   refine Classical.byContradiction fun hn => ?_
   rw [place_none (fun j hj => hn (List.mem_of_getElem? hj))] at h
   omega
 · intro h
   unfold placeF
   split
   · omega
   · rename_i he
     exfalso
     have key : ∀ (xs : List Bs) (k : Nat), y ∈ xs -> placeN y xs k ≠ none := by
      intro xs
      induction xs with
      | nil => intro k h; cases h
      | cons x xs ih =>
        intro k h
        unfold placeN
        split
        · simp
        · rename_i hx
          rcases List.mem_cons.1 h with rfl | h
          · exact absurd rfl hx
          · exact ih _ h
     exact key xs 0 h he
theorem refFresh_any (s : Bs) (xs : List Bs) (v : Value) (w : World) (hv : StrsAt w v xs) (hl : xs.length < 1000000) (hs : s.length <= 9223372036854775807) :
  Calls Tryz.prog 78 #[S s, v] w fun e w' => e = .returned (.int .i64 (nmErr xs s)) /\ Below w.heap.size w w' := by
 have HV := Lib.hid hv
 obtain ⟨a, cap, rfl, -⟩ := hv
 have HL := Lib.hid hl
 have HS := Lib.hid hs
 obtain ⟨p, hp⟩ : ∃ p, p = placeF xs s := ⟨_, rfl⟩
 have HP := Lib.hid hp
 have hm : (0 <= p) ↔ s ∈ xs := by rw [hp]; exact place_mem
 clear hl hs hp
 have key : ∀ x y : Bool, nameB s = x -> decide (s ∈ xs) = y -> nmErr xs s = if x = false then 6 else if y = true then 5 else 0 := by
  rintro x y rfl rfl
  unfold nmErr
  simp
 cases hx : nameB s <;> cases hy : decide (s ∈ xs)
 all_goals
  have HF := Lib.hid (key _ _ hx hy)
  have HX := Lib.hid hx
  first
   | (have hp0 : p < 0 := by have := of_decide_eq_false hy; rw [<- hm] at this; omega)
   | (have hp0 : 0 <= p := hm.2 (of_decide_eq_true hy))
  clear hm key hx hy
  go_enter Tryz.func78, Tryz.ntmps78
  go_wp2_with fail
  refine (Place_any xs _ s _ HV.out HL.out).mono ?_
  rintro e w1 ⟨rfl, hb1⟩
  rw [<- HP.out]
  go_wp2_with fail
  refine (refName_any s _ HS.out).mono ?_
  rintro e w2 ⟨rfl, hb2⟩
  rw [HX.out]
  have hb3 := hb1.trans (hb2.mono hb1.size)
  go_wp2_with fail
  go_ret
  exact ⟨by rw [HF.out]; rfl, hb3⟩
end
section
set_option linter.unusedSimpArgs false
set_option linter.unusedVariables false
open Go Go.ChangeShapes Go.WideShapes Go.ChangeAt Go.RowKit
theorem kf_cellsStr : Tryz.prog.cellsOf 9 = 1 := by kernel_rfl
theorem kf_cellsBool : Tryz.prog.cellsOf 4 = 1 := by kernel_rfl
theorem kf_cellsSpan : Tryz.prog.cellsOf 27 = 2 := by kernel_rfl
theorem kf_cellsFmt : Tryz.prog.cellsOf 115 = 2 := by kernel_rfl
theorem kf_cellsPpr : Tryz.prog.cellsOf 67 = 5 := by kernel_rfl
theorem kf_cellsMrk : Tryz.prog.cellsOf 58 = 2 := by kernel_rfl
theorem kf_cellsPrs : Tryz.prog.cellsOf 25 = 4 := by kernel_rfl
theorem kf_cellsBok : Tryz.prog.cellsOf 30 = 7 := by kernel_rfl
theorem kf_cellsFmts : Tryz.prog.cellsOf 22 = 1 := by kernel_rfl
theorem kf_cellsPprs : Tryz.prog.cellsOf 23 = 1 := by kernel_rfl
theorem kf_cellsMrks : Tryz.prog.cellsOf 28 = 1 := by kernel_rfl
theorem len5 {l : List Value} (h : l.length = 5) : ∃ a b c d e, l = [a, b, c, d, e] := by match l, h with | [a, b, c, d, e], _ => exact ⟨a, b, c, d, e, rfl⟩
theorem len7 {l : List Value} (h : l.length = 7) : ∃ a b c d e f g, l = [a, b, c, d, e, f, g] := by match l, h with | [a, b, c, d, e, f, g], _ => exact ⟨a, b, c, d, e, f, g, rfl⟩
section
variable {H : Type} {enc : TypeId × Value -> H} {w : World} {base : Nat} {spare : Nat -> Bool} {held : Bool} {fuel : Nat} {x : DataW H × List MemPlace}
theorem kf_str {cs : List Value} (h : DataW.trod enc Tryz.prog w base spare held fuel 9 cs = some x) : ∃ s : Bs, cs = [S s] /\ smallS s := by
 obtain ⟨s, e, _, hs⟩ := DataW.trod_string Tryz.underlying9 h
 subst e
 exact ⟨s.data.toList, rfl, hs⟩
theorem kf_span {cs : List Value} (h : DataW.trod enc Tryz.prog w base spare held fuel 27 cs = some x) : ∃ a b, cs = [.int .i64 a, .int .i64 b] := by
 obtain ⟨y0, y1, n, _, hl, h0, h1⟩ := trod_struct2 Tryz.underlying27 h
 rw [kf_cellsSpan] at hl
 obtain ⟨a, b, rfl⟩ := len2 hl
 obtain ⟨r, e0, _, _⟩ := DataW.trod_int Tryz.underlying3 h0
 obtain ⟨l, e1, _, _⟩ := DataW.trod_int Tryz.underlying3 h1
 simp [kx_cellsInt] at e0 e1
 subst e0 e1
 exact ⟨r, l, rfl⟩
theorem kf_fmt {cs : List Value} (h : DataW.trod enc Tryz.prog w base spare held fuel 115 cs = some x) : ∃ f : Fmt, cs = fmtV f /\ smallS f.name /\ smallS f.folds := by
 obtain ⟨y0, y1, n, _, hl, h0, h1⟩ := trod_struct2 Tryz.underlying115 h
 rw [kf_cellsFmt] at hl
 obtain ⟨a, b, rfl⟩ := len2 hl
 obtain ⟨s, e0, hs⟩ := kf_str h0
 obtain ⟨t, e1, ht⟩ := kf_str h1
 simp [kf_cellsStr] at e0 e1
 subst e0 e1
 exact ⟨⟨s, t⟩, rfl, hs, ht⟩
theorem kf_ppr {cs : List Value} (h : DataW.trod enc Tryz.prog w base spare held fuel 67 cs = some x) : ∃ p : Ppr, cs = pprV p /\ smallS p.name := by
 obtain ⟨xs, n, _, _, hl, hlen, hf⟩ := DataW.trod_struct Tryz.underlying67 h
 rw [kf_cellsPpr] at hl
 obtain ⟨a, b, c, d, e, rfl⟩ := len5 hl
 match xs, hlen with
 | [y0, y1, y2], _ =>
   obtain ⟨s, e0, hs⟩ := kf_str (by simpa using hf 0 _ rfl)
   obtain ⟨r, l, e1⟩ := kf_span (by simpa using hf 1 _ rfl)
   obtain ⟨r', l', e2⟩ := kf_span (by simpa using hf 2 _ rfl)
   simp [kf_cellsStr, kf_cellsSpan] at e0 e1 e2
   obtain ⟨rfl, rfl⟩ := e1
   obtain ⟨rfl, rfl⟩ := e2
   subst e0
   exact ⟨⟨s, r, l, r', l'⟩, rfl, hs⟩
theorem kf_mrk {cs : List Value} (h : DataW.trod enc Tryz.prog w base spare held fuel 58 cs = some x) : ∃ m : Int × Bool, cs = mrkV m := by
 obtain ⟨y0, y1, n, _, hl, h0, h1⟩ := trod_struct2 Tryz.underlying58 h
 rw [kf_cellsMrk] at hl
 obtain ⟨a, b, rfl⟩ := len2 hl
 obtain ⟨r, e0, _, _⟩ := DataW.trod_int Tryz.underlying3 h0
 obtain ⟨l, e1, _⟩ := DataW.trod_bool Tryz.underlying4 h1
 simp [kx_cellsInt, kf_cellsBool] at e0 e1
 subst e0 e1
 exact ⟨(r, l), rfl⟩
theorem kf_rows {t e : TypeId} {cs : List Value} {α : Type} {n : Nat} {en : α -> List Value} (ht : Tryz.prog.underlying t = some (.slice e)) (hn : Tryz.prog.cellsOf e = n) (h0 : 0 < n) (Q : α -> Prop)
  (hR : ∀ (n : Nat) (l : List Value) (y : DataW H × List MemPlace), DataW.trod enc Tryz.prog w base spare held n e l = some y -> ∃ z, l = en z /\ Q z)
  (h : DataW.trod enc Tryz.prog w base spare held fuel t cs = some x) : ∃ (v : Value) (zs : List α), cs = [v] /\ RowsAt n en w.heap.size w v zs /\ ∀ z ∈ zs, Q z := by
 obtain ⟨a, cap, zs, e1, hz⟩ := kx_slice (α := { z : α // Q z }) ht (by omega) (fun z l => l = en z.1) (fun n l y hy => by
  obtain ⟨z, h1, h2⟩ := hR n l y hy
  exact ⟨⟨z, h2⟩, h1⟩) h
 refine ⟨.slice a zs.length cap, zs.map (·.1), e1, ⟨a, cap, by rw [List.length_map], fun hne => ?_⟩, fun z hz2 => ?_⟩
 · obtain ⟨b, off, ha, hb, hc⟩ := hz (fun h => hne (by rw [h]; rfl))
   refine ⟨b, off, ha, hb, fun i y hi j u hu => ?_⟩
   rw [List.getElem?_map, Option.map_eq_some_iff] at hi
   obtain ⟨z, hz1, rfl⟩ := hi
   obtain ⟨l, _, rfl, h3⟩ := hc i z hz1
   rw [hn] at h3
   exact h3 j u hu
 · obtain ⟨z', -, rfl⟩ := List.mem_map.1 hz2
   exact z'.2
theorem press_in {v : Value} {b0 : Nat} (hv : Value.okWide Tryz.prog w .any b0 25 v) (h : DataW.trod enc Tryz.prog w base spare held fuel 25 v.cells.toList = some x) : ∃ p : Prs, PrsAt w.heap.size w v p := by
 simp only [Value.okWide, Tryz.underlying25] at hv
 obtain ⟨cs, rfl, -, -⟩ := hv
 obtain ⟨xs, n, _, _, hl, hlen, hf⟩ := DataW.trod_struct Tryz.underlying25 h
 rw [kf_cellsPrs] at hl
 obtain ⟨a, b, c, d, hcs⟩ := len4 hl
 have hcs' : cs = #[a, b, c, d] := by
  have e' : cs.toList = [a, b, c, d] := hcs
  rw [<- Array.toArray_toList (xs := cs), e']
 subst hcs'
 match xs, hlen with
 | [y0, y1, y2, y3], _ =>
   obtain ⟨fv, fs, e0, hfs, hs1⟩ := kf_rows (α := Fmt) (en := fmtV) Tryz.underlying22 kf_cellsFmt (by decide) (fun f => smallS f.name /\ smallS f.folds) (fun n l y hy => kf_fmt hy) (by simpa using hf 0 _ rfl)
   obtain ⟨pv, ps, e1, hps, hs2⟩ := kf_rows (α := Ppr) (en := pprV) Tryz.underlying23 kf_cellsPpr (by decide) (fun p => smallS p.name) (fun n l y hy => kf_ppr hy) (by simpa using hf 1 _ rfl)
   obtain ⟨r, e2, _, _⟩ := DataW.trod_int Tryz.underlying3 (by simpa using hf 2 _ rfl)
   obtain ⟨s, e3, _, _⟩ := DataW.trod_int Tryz.underlying3 (by simpa using hf 3 _ rfl)
   simp [kf_cellsFmts, kf_cellsPprs, kx_cellsInt, Value.cells] at e0 e1 e2 e3
   subst e0 e1 e2 e3
   exact ⟨⟨fs, ps, r, s⟩, _, _, rfl, hfs, hps, hs1, hs2⟩
theorem bok_in {v : Value} {b0 : Nat} (hv : Value.okWide Tryz.prog w .any b0 30 v) (h : DataW.trod enc Tryz.prog w base spare held fuel 30 v.cells.toList = some x) : ∃ b : Bok, BokAt w.heap.size w v b := by
 simp only [Value.okWide, Tryz.underlying30] at hv
 obtain ⟨cs, rfl, -, -⟩ := hv
 obtain ⟨xs, n, _, _, hl, hlen, hf⟩ := DataW.trod_struct Tryz.underlying30 h
 rw [kf_cellsBok] at hl
 obtain ⟨a, b, c, d, e, f, g, hcs⟩ := len7 hl
 have hcs' : cs = #[a, b, c, d, e, f, g] := by
  have e' : cs.toList = [a, b, c, d, e, f, g] := hcs
  rw [<- Array.toArray_toList (xs := cs), e']
 subst hcs'
 match xs, hlen with
 | [y0, y1, y2, y3, y4], _ =>
   obtain ⟨r, e0, _, _⟩ := DataW.trod_int Tryz.underlying3 (by simpa using hf 0 _ rfl)
   obtain ⟨s, e1, _, _⟩ := DataW.trod_int Tryz.underlying3 (by simpa using hf 1 _ rfl)
   obtain ⟨t1, t2, e2⟩ := kf_span (by simpa using hf 2 _ rfl)
   obtain ⟨u1, u2, e3⟩ := kf_span (by simpa using hf 3 _ rfl)
   obtain ⟨mv, ms, e4, hms, -⟩ := kf_rows (α := Int × Bool) (en := mrkV) Tryz.underlying28 kf_cellsMrk (by decide) (fun _ => True) (fun n l y hy => by
    obtain ⟨m, hm⟩ := kf_mrk hy
    exact ⟨m, hm, trivial⟩) (by simpa using hf 4 _ rfl)
   simp [kf_cellsSpan, kf_cellsMrks, kx_cellsInt, Value.cells] at e0 e1 e2 e3 e4
   obtain ⟨rfl, rfl⟩ := e2
   obtain ⟨rfl, rfl⟩ := e3
   subst e0 e1 e4
   exact ⟨⟨r, s, t1, t2, u1, u2, ms⟩, _, rfl, hms⟩
end
end
section
set_option linter.unusedSimpArgs false
set_option linter.unusedVariables false
open Go Go.RowKit
noncomputable section
def SegS (P : Program) (e0 : Env) (h0 : H) (W : World) (c : Code) (a : Fr) (h : H) (x : X) (a' : Fr) (h' : H) : Prop :=
 ∀ (e : Env) (w : World) (act : Act), Rel P e h w -> FrR e a act -> Step h0 e0 W h e w ->
   ∀ Q : Exit -> Act -> World -> Prop, (∀ e' act' w', Rel P e' h' w' -> FrR e' a' act' -> Step h0 e0 W h' e' w' -> Q x.out act' w') -> c.wpIn (fence e none) 9 P Q act w
section
variable {P : Program} {e e0 : Env} {w W : World} {v : V} {h h0 h1 h2 h' : H} {a a1 a2 a' : Fr} {x : X} {c c1 c2 : Code}
theorem Seg.start (k : Seg P c a h x a' h') : SegS P e0 h0 W c a h x a' h' := fun e w act re fr s Q hQ => k e w act re fr Q fun e' act' w' r' fr' s' => hQ e' act' w' r' fr' (s.trans s')
def e01 : Env := ⟨id, fun _ => 0, fun _ => False⟩
def h01 : H := ⟨40, 40, 40, .leaf⟩
theorem rel_start0 {P : Program} {W : World} : Rel P e01 h01 W := by
 have no : ∀ b o, h01.get b = some o -> False := fun b o k => by
  change (Tr.leaf : Tr Ob).get b = _ at k
  rw [Tr.get_leaf] at k
  cases k
 exact ⟨fun b hb => hb.elim, fun b hb => hb.elim, fun b o k => (no b o k).elim, fun b c o o' k _ _ => (no b o k).elim⟩
end
end
end
section
set_option linter.unusedSimpArgs false
set_option linter.unusedVariables false
structure Fl where
 sheet : Nat
 col : Nat
 row : Nat
 inner : Bool
 turned : Bool
deriving DecidableEq
abbrev Fds := List Bool
def colsF (f : Fds) : Nat := 2 ^ (f.filter fun b => b).length
def rowsF (f : Fds) : Nat := 2 ^ (f.filter fun b => !b).length
def overF (heads : Bool) (p : List Fl) : List Fl := p.reverse.map fun l => { l with inner := !l.inner, turned := l.turned != heads }
def bedF (x heads : Bool) (b : Nat × Nat × (Nat -> Nat -> List Fl)) : Nat × Nat × (Nat -> Nat -> List Fl) :=
 (if x then b.1 / 2 else b.1, if x then b.2.1 else b.2.1 / 2, fun c r => if c < (if x then b.1 / 2 else b.1) /\ r < (if x then b.2.1 else b.2.1 / 2) then b.2.2 c r ++ overF heads (if x then b.2.2 (b.1 - 1 - c) r else b.2.2 c (b.2.1 - 1 - r)) else b.2.2 c r)
def lastF (f : Fds) : Bool := f.getLastD false
def sheetF (f : Fds) : List Fl := (f.foldl (fun b x => bedF x (x != lastF f) b) (colsF f, rowsF f, fun c r => [⟨0, c, r, false, false⟩])).2.2 0 0
def ofSheetF (l : List Fl) (s : Nat) : List Fl := l.map fun x => { x with sheet := s }
def gatherF (l : List Fl) (n : Nat) : List Fl := ((List.range n).flatMap fun s => ofSheetF (l.take (l.length / 2)) s) ++ (List.range n).flatMap fun k => ofSheetF (l.drop (l.length / 2)) (n - 1 - k)
def madeF (f : Fds) (half : Bool) : Fds := if half then f.drop 1 else f
def leavesF (f : Fds) (n : Nat) (half : Bool) : List Fl := gatherF (sheetF (madeF f half)) n
structure Ln where
 col : Nat
 row : Nat
 x : Nat
 y : Nat
deriving DecidableEq
def turnedR (x : Bool) (p : List Ln) : List Ln := p.reverse.map fun l => if x then { l with x := l.x + 1 } else { l with y := l.y + 1 }
def foldR (x : Bool) (ps : List (List (List Ln))) : List (List (List Ln)) :=
 let rows := ps.length
 let cols := (ps.headD []).length
 (List.range (if x then rows else rows / 2)).map fun r => (List.range (if x then cols / 2 else cols)).map fun c =>
  ((ps.getD r []).getD c []) ++ turnedR x (if x then (ps.getD r []).getD (cols - 1 - c) [] else (ps.getD (rows - 1 - r) []).getD c [])
def pileR (f : Fds) (half : Bool) : List Ln :=
 let rows := if half /\ f.headD false = false then rowsF f / 2 else rowsF f
 let cols := if half /\ f.headD false = true then colsF f / 2 else colsF f
 (((if half then f.drop 1 else f).foldl (fun ps x => foldR x ps) ((List.range rows).map fun r => (List.range cols).map fun c => [⟨c, r, 0, 0⟩])).headD []).headD []
def ownR (f : Fds) (l : List Ln) (s : Nat) : List Fl := l.map fun a => ⟨s, a.col, a.row, (a.x + a.y) % 2 == 1, (if lastF f then a.y else a.x) % 2 == 1⟩
def allR (f : Fds) (n : Nat) (half : Bool) : List Fl :=
 let l := pileR f half
 let st := (List.range n).foldl (fun (st : List Fl × List Fl) s => (st.1 ++ (ownR f l s).take ((ownR f l s).length / 2), (ownR f l s).drop ((ownR f l s).length / 2) ++ st.2)) ([], [])
 st.1 ++ st.2
def foldsOf : Nat -> List Fds
 | 0 => [[]]
 | n + 1 => (foldsOf n).flatMap fun f => [true :: f, false :: f]
def allFolds : List Fds := foldsOf 1 ++ foldsOf 2 ++ foldsOf 3 ++ foldsOf 4
theorem foldsOf_mem : ∀ (n : Nat) (f : Fds), f.length = n -> f ∈ foldsOf n
 | 0, [], _ => by simp [foldsOf]
 | n + 1, b :: f, h => by
   have ih := foldsOf_mem n f (by simpa using h)
   unfold foldsOf
   exact List.mem_flatMap.2 ⟨f, ih, by cases b <;> simp⟩
theorem allFolds_mem {f : Fds} (h1 : 1 <= f.length) (h2 : f.length <= 4) : f ∈ allFolds := by
 unfold allFolds
 have h : f.length = 1 ∨ f.length = 2 ∨ f.length = 3 ∨ f.length = 4 := by omega
 rcases h with h | h | h | h <;> simp [foldsOf_mem _ _ h]
theorem leaves_all : ∀ f ∈ allFolds, ∀ n ∈ [1, 2, 3, 4], leavesF f n false = allR f n false := by decide +kernel
theorem leaves_half : ∀ f ∈ allFolds, 2 <= f.length -> leavesF f 1 true = allR f 1 true := by decide +kernel
theorem leaves_is {f : Fds} {n : Nat} {half : Bool} (h1 : 1 <= f.length) (h2 : f.length <= 4) (h3 : 1 <= n) (h4 : n <= 4) (h5 : half = true -> n = 1 /\ 2 <= f.length) : leavesF f n half = allR f n half := by
 have hf := allFolds_mem h1 h2
 cases half with
 | false => exact leaves_all f hf n (by simp; omega)
 | true =>
   obtain ⟨rfl, h6⟩ := h5 rfl
   exact leaves_half f hf h6
theorem leaves_count : ∀ f ∈ allFolds, ∀ n ∈ [1, 2, 3, 4], (leavesF f n false).length = colsF f * rowsF f * n := by decide +kernel
theorem leaves_count_half : ∀ f ∈ allFolds, 2 <= f.length -> (leavesF f 1 true).length * 2 = colsF f * rowsF f := by decide +kernel
def placesB (l : List Fl) : Bool := (List.range l.length).all fun i => (List.range i).all fun k => match l[i]?, l[k]? with
 | some a, some b => !(a.sheet == b.sheet && a.col == b.col && a.row == b.row)
 | _, _ => false
theorem places_all : ∀ f ∈ allFolds, ∀ n ∈ [1, 2, 3, 4], placesB (leavesF f n false) = true := by decide +kernel
theorem places_half : ∀ f ∈ allFolds, 2 <= f.length -> placesB (leavesF f 1 true) = true := by decide +kernel
def insideB (f : Fds) (n : Nat) (l : List Fl) : Bool := l.all fun a => decide (a.col < colsF f) && decide (a.row < rowsF f) && decide (a.sheet < n)
theorem inside_all : ∀ f ∈ allFolds, ∀ n ∈ [1, 2, 3, 4], insideB f n (leavesF f n false) = true := by decide +kernel
theorem inside_half : ∀ f ∈ allFolds, 2 <= f.length -> insideB (madeF f true) 1 (leavesF f 1 true) = true := by decide +kernel
def matesF (l : List Fl) (k : Nat) : List Nat := (List.range l.length).filter fun i => match l[i]?, l[k]? with
 | some a, some b => a != b && a.sheet == b.sheet
 | _, _ => false
end
end Go.Proofs.YtpdhdgdbknnllaaGreatDoor
