/- The parts Ka, Da, Me, Kx of the proof, joined. It holds without conditions of its own. -/
import Derived.Test.YtimdmgkegdlafaaGreatDoorRows
import Derived.WalkKit
import Derived.ProofKit
import Derived.LaidMore
import Derived.OpenShut
import Derived.Stop.Joined
import Derived.Carry
import Derived.SevenTiedAt
import Derived.Below
import Derived.ChangeSame
/- What the statements' frames share: the knob, and that the listed variables can stand as they are laid. -/
namespace Go.Proofs.YtimdmgkegdlafaaGreatDoor
set_option linter.unusedSimpArgs false
set_option linter.unusedVariables false
open Go.ChangeShapes Go.WideShapes Go.ChangeAt Go.RowKit

theorem own : ownKnob Tryz.prog.godebug = none := by kernel_rfl
abbrev laidVs {H : Type} : List (String × DataW H) := [("math/bits.deBruijn32tab", Rows.laid_math_bits_deBruijn32tab), ("math/bits.deBruijn64tab", Rows.laid_math_bits_deBruijn64tab), ("internal/strconv.uint64pow10", Rows.laid_internal_strconv_uint64pow10)]
theorem door_met (os : Os) (args : Array Value) : laidMetH Tryz.prog laidVs ((World.doorLaid Tryz.prog 400 os).forCall (fun _ _ => 0) ⟨#[], args, []⟩).memory :=
  laidMetH_of_parts3 (fuel := 8) (laidMet_of_run' 8 (by kernel_rfl) (by kernel_rfl)) (by kernel_rfl) (by kernel_rfl)

section
variable {H : Type} {enc : TypeId × Value → H} {P : Program}
/-- All arguments read behind the call as they did, if nothing that was there has turned. -/
theorem trodAll_below (hl : laidOutB P = true) {W W' : World} (hb : Below W.heap.size W W') :
    ∀ {ts : List TypeId} {vs : List Value} {ds : List (DataW H)} {ps : List MemPlace}, (ts.all fun t => P.readableRec t && decide (t < P.types.size)) = true →
      DataW.TrodAll enc P W 0 (fun _ => true) true ts vs ds ps → (∀ x ∈ ps, x.block < W.heap.size) → DataW.TrodAll enc P W' 0 (fun b => decide (b < W.heap.size)) true ts vs ds ps
  | [], [], [], _, _, h, _ => h
  | _ :: _, _ :: _, _ :: _, _, ha, h, hlt => by
    obtain ⟨p, q, h1, h2, rfl⟩ := h
    simp only [List.all_cons, Bool.and_eq_true, decide_eq_true_eq] at ha
    exact ⟨p, q, Below.trod hl ha.1.1 ha.1.2 h1 hb (fun x hx => hlt x (by simp [hx])), trodAll_below hl hb ha.2 h2 (fun x hx => hlt x (by simp [hx])), rfl⟩
  | [], _ :: _, _, _, _, h, _ => h.elim
  | [], [], _ :: _, _, _, h, _ => h.elim
  | _ :: _, [], _, _, _, h, _ => h.elim
  | _ :: _, _ :: _, [], _, _, h, _ => h.elim

/-- A law that returned true and turned nothing that was there keeps its statement. -/
theorem law_post {f : Func} {s : ChangeSpec} {W W' : World} {args : Array Value} {ds : List (DataW H)} {before : List MemPlace} {tb : TypeId} (hl : laidOutB P = true)
    (hW : DataW.Whole enc P f.params.toList s.vars false W args.toList ds [] before) (hv : s.vars = []) (hfn : s.fn H (ds ++ []) = { results := [.lit (.bool true)], args := ds, vars := [] })
    (hr : f.resultTypes = #[tb]) (ht : P.underlying tb = some .bool) (ha : (f.params.toList.all fun t => P.readableRec t && decide (t < P.types.size)) = true) (hb : Below W.heap.size W W') :
    s.post enc P f false true false false W args (.bool true) W' := by
  have hlt : ∀ x ∈ before, x.block < W.heap.size := fun x hx => by simpa using hW.lt x hx
  have hW' := hW
  obtain ⟨p, q, hA, hV, rfl, hfz, hnd⟩ := hW
  rw [hv] at hV
  obtain ⟨-, rfl⟩ := trodVars_none hV
  simp only [List.append_nil] at hlt hW'
  refine ⟨ds, [], p, [], p, [], hW', ?_, ?_, ?_, hb.frame _, fun h => by cases h⟩
  · rw [hr, hfn]
    exact trodAll_mk1 (shut_bool ht _)
  · rw [hfn]
    exact trodAll_below hl hb ha hA hlt
  · rw [hv, hfn]
    rfl
end
end Go.Proofs.YtimdmgkegdlafaaGreatDoor

/- The data of layer 1 as plain Lean, and what a Go function says of it. Nothing of the program. -/
namespace Go.Proofs.YtimdmgkegdlafaaGreatDoor
set_option linter.unusedSimpArgs false
set_option linter.unusedVariables false

structure Chg where
  kind : Int
  pos : Int
  many : Int
structure Gth where
  round : Int
  letter : Int
  leaves : Int
  chs : List Chg
structure Bk where
  signed : Int
  gs : List Gth

def inB (lo hi x : Int) : Bool := decide (lo ≤ x) && decide (x ≤ hi)
def sigB (r l : Int) : Bool := inB 1 3 r && inB 0 24 l
def behindB (r l r' l' : Int) : Bool := if r = r' then decide (l' < l) else decide (r' < r)
def foldedB (n : Int) : Bool := decide (n = 1) || (decide (n % 2 = 0) && inB 2 12 n)
def rangeB (c : Chg) (leaves : Int) : Bool := if c.kind = 3 then inB 0 leaves c.pos && inB 1 4 c.many else inB 1 leaves c.pos && decide (c.many = 0)
def orderB (b c : Chg) : Bool := if c.pos = b.pos then decide (c.kind = 3) && decide (b.kind ≠ 3) else decide (b.pos < c.pos)
def kindB (c : Chg) : Bool := decide (c.kind = 1) || decide (c.kind = 2) || decide (c.kind = 3)
/-- The error of the change behind another one (none: it is the first). -/
def chErr (leaves : Int) (prev : Option Chg) (c : Chg) : Int :=
  if kindB c = false then 6 else if rangeB c leaves = false then 7 else match prev with
    | none => 0
    | some p => if orderB p c = false then 2 else 0
/-- The first change with an error: its index and its error. -/
def chsErr (leaves : Int) : Option Chg → Nat → List Chg → Nat × Int
  | _, _, [] => (0, 0)
  | prev, i, c :: cs => if chErr leaves prev c = 0 then chsErr leaves (some c) (i + 1) cs else (i, chErr leaves prev c)
/-- The error of a gathering behind some signatures, the last lettered one of which is given. -/
def gthErr (seen : List (Int × Int)) (last : Int × Int) (g : Gth) : Int :=
  if sigB g.round g.letter = false then 7
  else if (g.round, g.letter) ∈ seen then 5
  else if g.letter < 23 ∧ behindB g.round g.letter last.1 last.2 = false then 2
  else if foldedB g.leaves = false then 7
  else if 4 < g.chs.length then 3
  else (chsErr g.leaves none 0 g.chs).2
def lastOf (last : Int × Int) (g : Gth) : Int × Int := if g.letter < 23 then (g.round, g.letter) else last
def gsErr : List (Int × Int) → Int × Int → Nat → List Gth → Nat × Int
  | _, _, _, [] => (0, 0)
  | seen, last, i, g :: gs => if gthErr seen last g = 0 then gsErr (seen ++ [(g.round, g.letter)]) (lastOf last g) (i + 1) gs else (i, gthErr seen last g)
/-- Check: part, index, error. -/
def checkF (b : Bk) : Nat × Nat × Int :=
  if inB 0 12 b.signed = false then (1, 0, 7)
  else if inB 1 30 b.gs.length = false then (1, 0, 3)
  else if (gsErr [] (0, 0) 0 b.gs).2 = 0 then (0, 0, 0) else (2, (gsErr [] (0, 0) 0 b.gs).1, (gsErr [] (0, 0) 0 b.gs).2)

/-- The letters of signatures, and how signatures and numbers below a hundred are written. -/
def letterL : List UInt8 := [65, 66, 67, 68, 69, 70, 71, 72, 73, 75, 76, 77, 78, 79, 80, 81, 82, 83, 84, 86, 88, 89, 90]
def letterT (l : Int) : List UInt8 := if l = 23 then [112, 105] else if l = 24 then [99, 104, 105] else [letterL.getD l.toNat 0]
def decN (n : Nat) : List UInt8 := if n < 10 then [UInt8.ofNat (48 + n)] else [UInt8.ofNat (48 + n / 10), UInt8.ofNat (48 + n % 10)]
def dec (n : Int) : List UInt8 := decN n.toNat
def sigT (r l : Int) : List UInt8 := (if 1 < r then dec r else []) ++ letterT l
/-- How a leaf is written. -/
def nameT (r l n p : Int) : List UInt8 := sigT r l ++ dec n ++ if 0 < p then 43 :: dec p else []
/-- Whether some book has a leaf with this number and Plus. -/
def possibleB (n p : Int) : Bool := !(decide (n = 0) && decide (p = 0)) && inB 0 12 n && inB 0 4 p

end Go.Proofs.YtimdmgkegdlafaaGreatDoor

/- Where a book lies in memory: predicates on the cells below a block number, and that they stay. -/
namespace Go.Proofs.YtimdmgkegdlafaaGreatDoor
set_option linter.unusedSimpArgs false
set_option linter.unusedVariables false
open Go Go.RowKit

/-- A slice of changes. -/
def ChsAt (B : Nat) (w : World) (v : Value) (cs : List Chg) : Prop :=
  ∃ (a : Option Addr) (cap : Nat), v = .slice a cs.length cap ∧ (cs ≠ [] → ∃ b off, a = some ⟨b, off, none⟩ ∧ b < B ∧
    ∀ i c, cs[i]? = some c → w.cell? ⟨b, off + i * 3, none⟩ = some (.int .i64 c.kind) ∧ w.cell? ⟨b, off + i * 3 + 1, none⟩ = some (.int .i64 c.pos) ∧ w.cell? ⟨b, off + i * 3 + 2, none⟩ = some (.int .i64 c.many))
/-- A slice of gatherings. -/
def GsAt (B : Nat) (w : World) (v : Value) (gs : List Gth) : Prop :=
  ∃ (a : Option Addr) (cap : Nat), v = .slice a gs.length cap ∧ (gs ≠ [] → ∃ b off, a = some ⟨b, off, none⟩ ∧ b < B ∧
    ∀ i g, gs[i]? = some g → ∃ cv, ChsAt B w cv g.chs ∧ w.cell? ⟨b, off + i * 4, none⟩ = some (.int .i64 g.round) ∧ w.cell? ⟨b, off + i * 4 + 1, none⟩ = some (.int .i64 g.letter) ∧
      w.cell? ⟨b, off + i * 4 + 2, none⟩ = some (.int .i64 g.leaves) ∧ w.cell? ⟨b, off + i * 4 + 3, none⟩ = some cv)
/-- A book, as a value. -/
def BookAt (B : Nat) (w : World) (v : Value) (b : Bk) : Prop := ∃ sv, v = .agg #[.int .i64 b.signed, sv] ∧ GsAt B w sv b.gs

theorem cell_same {B : Nat} {w w' : World} (h : ∀ k, k < B → w'.heap[k]? = w.heap[k]?) {b : Nat} (hb : b < B) (i : Nat) : w'.cell? ⟨b, i, none⟩ = w.cell? ⟨b, i, none⟩ :=
  World.cell?_of_block (w := w) (h b hb)

theorem ChsAt.same {B : Nat} {w w' : World} {v : Value} {cs : List Chg} (h : ChsAt B w v cs) (hs : ∀ k, k < B → w'.heap[k]? = w.heap[k]?) : ChsAt B w' v cs := by
  obtain ⟨a, cap, rfl, h⟩ := h
  refine ⟨a, cap, rfl, fun hne => ?_⟩
  obtain ⟨b, off, rfl, hb, hc⟩ := h hne
  refine ⟨b, off, rfl, hb, fun i c hi => ?_⟩
  simp only [cell_same hs hb]
  exact hc i c hi
theorem ChsAt.mono {B B' : Nat} {w : World} {v : Value} {cs : List Chg} (h : ChsAt B w v cs) (hB : B ≤ B') : ChsAt B' w v cs := by
  obtain ⟨a, cap, rfl, h⟩ := h
  refine ⟨a, cap, rfl, fun hne => ?_⟩
  obtain ⟨b, off, rfl, hb, hc⟩ := h hne
  exact ⟨b, off, rfl, Nat.lt_of_lt_of_le hb hB, hc⟩
theorem GsAt.same {B : Nat} {w w' : World} {v : Value} {gs : List Gth} (h : GsAt B w v gs) (hs : ∀ k, k < B → w'.heap[k]? = w.heap[k]?) : GsAt B w' v gs := by
  obtain ⟨a, cap, rfl, h⟩ := h
  refine ⟨a, cap, rfl, fun hne => ?_⟩
  obtain ⟨b, off, rfl, hb, hc⟩ := h hne
  refine ⟨b, off, rfl, hb, fun i g hi => ?_⟩
  obtain ⟨cv, h1, h2⟩ := hc i g hi
  refine ⟨cv, h1.same hs, ?_⟩
  simp only [cell_same hs hb]
  exact h2
theorem GsAt.mono {B B' : Nat} {w : World} {v : Value} {gs : List Gth} (h : GsAt B w v gs) (hB : B ≤ B') : GsAt B' w v gs := by
  obtain ⟨a, cap, rfl, h⟩ := h
  refine ⟨a, cap, rfl, fun hne => ?_⟩
  obtain ⟨b, off, rfl, hb, hc⟩ := h hne
  refine ⟨b, off, rfl, Nat.lt_of_lt_of_le hb hB, fun i g hi => ?_⟩
  obtain ⟨cv, h1, h2⟩ := hc i g hi
  exact ⟨cv, h1.mono hB, h2⟩
theorem BookAt.same {B : Nat} {w w' : World} {v : Value} {b : Bk} (h : BookAt B w v b) (hs : ∀ k, k < B → w'.heap[k]? = w.heap[k]?) : BookAt B w' v b := by
  obtain ⟨sv, rfl, h⟩ := h
  exact ⟨sv, rfl, h.same hs⟩
theorem BookAt.mono {B B' : Nat} {w : World} {v : Value} {b : Bk} (h : BookAt B w v b) (hB : B ≤ B') : BookAt B' w v b := by
  obtain ⟨sv, rfl, h⟩ := h
  exact ⟨sv, rfl, h.mono hB⟩
theorem ChsAt.below {B C : Nat} {w w' : World} {v : Value} {cs : List Chg} (h : ChsAt B w v cs) (hb : Below C w w') (hC : B ≤ C) : ChsAt B w' v cs := h.same fun k hk => hb.block k (Nat.lt_of_lt_of_le hk hC)
theorem GsAt.below {B C : Nat} {w w' : World} {v : Value} {gs : List Gth} (h : GsAt B w v gs) (hb : Below C w w') (hC : B ≤ C) : GsAt B w' v gs := h.same fun k hk => hb.block k (Nat.lt_of_lt_of_le hk hC)
theorem BookAt.below {B C : Nat} {w w' : World} {v : Value} {b : Bk} (h : BookAt B w v b) (hb : Below C w w') (hC : B ≤ C) : BookAt B w' v b := h.same fun k hk => hb.block k (Nat.lt_of_lt_of_le hk hC)

end Go.Proofs.YtimdmgkegdlafaaGreatDoor

/- From the statement's data to a book in memory. -/
namespace Go.Proofs.YtimdmgkegdlafaaGreatDoor
set_option linter.unusedSimpArgs false
set_option linter.unusedVariables false
open Go Go.ChangeShapes Go.WideShapes Go.ChangeAt Go.RowKit

theorem kx_cellsInt : Tryz.prog.cellsOf 3 = 1 := by kernel_rfl
theorem kx_cellsSig : Tryz.prog.cellsOf 39 = 2 := by kernel_rfl
theorem kx_cellsChg : Tryz.prog.cellsOf 44 = 3 := by kernel_rfl
theorem kx_cellsGth : Tryz.prog.cellsOf 42 = 4 := by kernel_rfl
theorem kx_cellsBk : Tryz.prog.cellsOf 24 = 2 := by kernel_rfl
theorem kx_cellsChgs : Tryz.prog.cellsOf 40 = 1 := by kernel_rfl
theorem kx_cellsGths : Tryz.prog.cellsOf 22 = 1 := by kernel_rfl

section
variable {H : Type} {enc : TypeId × Value → H} {w : World} {base : Nat} {spare : Nat → Bool} {held : Bool} {fuel : Nat} {x : DataW H × List MemPlace}
theorem len1 {l : List Value} (h : l.length = 1) : ∃ a, l = [a] := by match l, h with | [a], _ => exact ⟨a, rfl⟩
theorem len2 {l : List Value} (h : l.length = 2) : ∃ a b, l = [a, b] := by match l, h with | [a, b], _ => exact ⟨a, b, rfl⟩
theorem len3 {l : List Value} (h : l.length = 3) : ∃ a b c, l = [a, b, c] := by match l, h with | [a, b, c], _ => exact ⟨a, b, c, rfl⟩
theorem len4 {l : List Value} (h : l.length = 4) : ∃ a b c d, l = [a, b, c, d] := by match l, h with | [a, b, c, d], _ => exact ⟨a, b, c, d, rfl⟩

theorem choose_list {α : Type} (Q : Nat → α → Prop) : ∀ len, (∀ i, i < len → ∃ z, Q i z) → ∃ zs : List α, zs.length = len ∧ ∀ i z, zs[i]? = some z → Q i z
  | 0, _ => ⟨[], rfl, fun i z hz => by simp at hz⟩
  | m + 1, h => by
    obtain ⟨zs, h1, h2⟩ := choose_list Q m (fun i hi => h i (by omega))
    obtain ⟨z, hz⟩ := h m (by omega)
    refine ⟨zs ++ [z], by simp [h1], fun i y hy => ?_⟩
    by_cases hi : i < zs.length
    · rw [List.getElem?_append_left hi] at hy
      exact h2 i y hy
    · have hi2 := (List.getElem?_eq_some_iff.1 hy).1
      simp at hi2
      have him : i = m := by omega
      subst him
      rw [List.getElem?_append_right (by omega), h1] at hy
      simp at hy
      subst hy
      exact hz
theorem kx_sig {cs : List Value} (h : DataW.trod enc Tryz.prog w base spare held fuel 39 cs = some x) : ∃ r l, cs = [.int .i64 r, .int .i64 l] := by
  obtain ⟨y0, y1, n, _, hl, h0, h1⟩ := trod_struct2 Tryz.underlying39 h
  rw [kx_cellsSig] at hl
  obtain ⟨a, b, rfl⟩ := len2 hl
  obtain ⟨r, e0, _, _⟩ := DataW.trod_int Tryz.underlying3 h0
  obtain ⟨l, e1, _, _⟩ := DataW.trod_int Tryz.underlying3 h1
  simp [kx_cellsInt] at e0 e1
  subst e0 e1
  exact ⟨r, l, rfl⟩
theorem kx_chg {cs : List Value} (h : DataW.trod enc Tryz.prog w base spare held fuel 44 cs = some x) : ∃ c : Chg, cs = [.int .i64 c.kind, .int .i64 c.pos, .int .i64 c.many] := by
  obtain ⟨xs, n, _, _, hl, hlen, hf⟩ := DataW.trod_struct Tryz.underlying44 h
  rw [kx_cellsChg] at hl
  obtain ⟨a, b, c, rfl⟩ := len3 hl
  match xs, hlen with
  | [y0, y1, y2], _ =>
    obtain ⟨k, e0, _, _⟩ := DataW.trod_int Tryz.underlying3 (by simpa using hf 0 _ rfl)
    obtain ⟨p, e1, _, _⟩ := DataW.trod_int Tryz.underlying3 (by simpa using hf 1 _ rfl)
    obtain ⟨m, e2, _, _⟩ := DataW.trod_int Tryz.underlying3 (by simpa using hf 2 _ rfl)
    simp [kx_cellsInt] at e0 e1 e2
    subst e0 e1 e2
    exact ⟨⟨k, p, m⟩, rfl⟩
/-- Of each element of a slice: what is so of its cells. -/
theorem kx_slice {t e : TypeId} {cs : List Value} {α : Type} (ht : Tryz.prog.underlying t = some (.slice e)) (hc : 0 < Tryz.prog.cellsOf e) (R : α → List Value → Prop)
    (hR : ∀ (n : Nat) (l : List Value) (y : DataW H × List MemPlace), DataW.trod enc Tryz.prog w base spare held n e l = some y → ∃ z, R z l)
    (h : DataW.trod enc Tryz.prog w base spare held fuel t cs = some x) :
    ∃ (a : Option Addr) (cap : Nat) (zs : List α), cs = [.slice a zs.length cap] ∧ (zs ≠ [] → ∃ b off, a = some ⟨b, off, none⟩ ∧ b < w.heap.size ∧ ∀ i z, zs[i]? = some z → ∃ l, l.length = Tryz.prog.cellsOf e ∧ R z l ∧ ∀ j u, l[j]? = some u → w.cell? ⟨b, off + i * Tryz.prog.cellsOf e + j, none⟩ = some u) := by
  rcases DataW.trod_slice ht h with ⟨rfl, _⟩ | ⟨a, len, cap, elems, rest, n, _, rfl, _, _, _, _, hlen, hel, _, _⟩
  · exact ⟨none, 0, [], rfl, fun h => absurd rfl h⟩
  · have each : ∀ i, i < len → ∃ z l, l.length = Tryz.prog.cellsOf e ∧ R z l ∧ ∀ j u, l[j]? = some u → w.cell? ((a.add (i * Tryz.prog.cellsOf e)).add j) = some u := by
      intro i hi
      have h1 := hel i hi
      rw [List.getElem?_eq_getElem (by omega), Option.bind_eq_some_iff] at h1
      obtain ⟨l, h2, h3⟩ := h1
      obtain ⟨z, hz⟩ := hR _ _ _ h3
      obtain ⟨_, h4, h5⟩ := World.cells?_some h2
      refine ⟨z, l, h4, hz, fun j u hu => ?_⟩
      rw [h5 j (by have := (List.getElem?_eq_some_iff.1 hu).1; omega)]
      exact hu
    have all := choose_list (fun i z => ∃ l, l.length = Tryz.prog.cellsOf e ∧ R z l ∧ ∀ j u, l[j]? = some u → w.cell? ((a.add (i * Tryz.prog.cellsOf e)).add j) = some u) len each
    obtain ⟨zs, hzl, hz⟩ := all
    refine ⟨some a, cap, zs, by rw [hzl], fun hne => ?_⟩
    obtain ⟨z0, h0⟩ : ∃ z, zs[0]? = some z := by
      cases zs with
      | nil => exact absurd rfl hne
      | cons z _ => exact ⟨z, rfl⟩
    obtain ⟨l0, hl0, _, hc0⟩ := hz 0 z0 h0
    obtain ⟨u0, hu0⟩ : ∃ u, l0[0]? = some u := ⟨_, List.getElem?_eq_getElem (by omega)⟩
    have hc0 := hc0 0 u0 hu0
    have hspot : a.spot = none := by
      have := World.cell?_spot hc0
      simpa [Addr.add] using this
    obtain ⟨b, off, sp⟩ := a
    dsimp only at hspot
    subst hspot
    have hadd : ∀ (m j : Nat), ((⟨b, off, none⟩ : Addr).add m).add j = ⟨b, off + m + j, none⟩ := fun m j => by
      unfold Addr.add
      split <;> split <;> simp_all
    refine ⟨b, off, rfl, ?_, fun i z hi => ?_⟩
    · rw [hadd] at hc0
      unfold World.cell? at hc0
      cases ho : w.heap[b]? with
      | none => simp [ho] at hc0
      | some o => exact (Array.getElem?_eq_some_iff.1 ho).1
    · obtain ⟨l, h1, h2, h3⟩ := hz i z hi
      exact ⟨l, h1, h2, fun j u hu => by rw [← hadd]; exact h3 j u hu⟩
theorem kx_chgs {cs : List Value} (h : DataW.trod enc Tryz.prog w base spare held fuel 40 cs = some x) : ∃ v chs, cs = [v] ∧ ChsAt w.heap.size w v chs := by
  obtain ⟨a, cap, zs, rfl, hz⟩ := kx_slice (α := Chg) Tryz.underlying40 (by rw [kx_cellsChg]; decide) (fun c l => l = [.int .i64 c.kind, .int .i64 c.pos, .int .i64 c.many]) (fun n l y hy => kx_chg hy) h
  refine ⟨_, zs, rfl, a, cap, rfl, fun hne => ?_⟩
  obtain ⟨b, off, ha, hb, hc⟩ := hz hne
  refine ⟨b, off, ha, hb, fun i c hi => ?_⟩
  obtain ⟨l, _, rfl, h3⟩ := hc i c hi
  rw [kx_cellsChg] at h3
  exact ⟨h3 0 _ rfl, h3 1 _ rfl, h3 2 _ rfl⟩
theorem kx_gth {cs : List Value} (h : DataW.trod enc Tryz.prog w base spare held fuel 42 cs = some x) : ∃ (g : Gth) (cv : Value), cs = [.int .i64 g.round, .int .i64 g.letter, .int .i64 g.leaves, cv] ∧ ChsAt w.heap.size w cv g.chs := by
  obtain ⟨xs, n, _, _, hl, hlen, hf⟩ := DataW.trod_struct Tryz.underlying42 h
  rw [kx_cellsGth] at hl
  obtain ⟨a, b, c, d, rfl⟩ := len4 hl
  match xs, hlen with
  | [y0, y1, y2], _ =>
    obtain ⟨r, l, e0⟩ := kx_sig (by simpa using hf 0 _ rfl)
    obtain ⟨v, e1, _, _⟩ := DataW.trod_int Tryz.underlying3 (by simpa using hf 1 _ rfl)
    obtain ⟨cv, chs, e2, hc⟩ := kx_chgs (by simpa using hf 2 _ rfl)
    simp [kx_cellsInt, kx_cellsSig, kx_cellsChgs] at e0 e1 e2
    obtain ⟨rfl, rfl⟩ := e0
    subst e1 e2
    exact ⟨⟨r, l, v, chs⟩, _, rfl, hc⟩
set_option maxRecDepth 100000 in
theorem kx_book {cs : List Value} (h : DataW.trod enc Tryz.prog w base spare held fuel 24 cs = some x) : ∃ (b : Bk) (gv : Value), cs = [.int .i64 b.signed, gv] ∧ GsAt w.heap.size w gv b.gs := by
  obtain ⟨y0, y1, n, _, hl, h0, h1⟩ := trod_struct2 Tryz.underlying24 h
  rw [kx_cellsBk] at hl
  obtain ⟨a, b, rfl⟩ := len2 hl
  obtain ⟨s, e0, _, _⟩ := DataW.trod_int Tryz.underlying3 h0
  obtain ⟨ga, cap, zs, e1, hz⟩ := kx_slice (α := Gth) Tryz.underlying22 (by rw [kx_cellsGth]; decide) (fun g l => ∃ cv, l = [.int .i64 g.round, .int .i64 g.letter, .int .i64 g.leaves, cv] ∧ ChsAt w.heap.size w cv g.chs) (fun n l y hy => kx_gth hy) h1
  simp [kx_cellsInt, kx_cellsGths] at e0 e1
  subst e0 e1
  refine ⟨⟨s, zs⟩, _, rfl, ga, cap, rfl, fun hne => ?_⟩
  obtain ⟨b, off, ha, hb, hc⟩ := hz hne
  refine ⟨b, off, ha, hb, fun i g hi => ?_⟩
  obtain ⟨l, _, ⟨cv, rfl, hcv⟩, h3⟩ := hc i g hi
  rw [kx_cellsGth] at h3
  exact ⟨cv, hcv, h3 0 _ rfl, h3 1 _ rfl, h3 2 _ rfl, h3 3 _ rfl⟩
set_option maxRecDepth 100000 in
/-- A book that is handed in lies in memory. -/
theorem book_in {v : Value} {b0 : Nat} (hv : Value.okWide Tryz.prog w .any b0 24 v) (h : DataW.trod enc Tryz.prog w base spare held fuel 24 v.cells.toList = some x) : ∃ b : Bk, BookAt w.heap.size w v b := by
  simp only [Value.okWide, Tryz.underlying24] at hv
  obtain ⟨cs, rfl, -, -⟩ := hv
  obtain ⟨b, gv, e, hg⟩ := kx_book h
  have : cs = #[.int .i64 b.signed, gv] := by
    have e' : cs.toList = [.int .i64 b.signed, gv] := e
    rw [← Array.toArray_toList (xs := cs), e']
  exact ⟨b, gv, by rw [this], hg⟩
set_option maxRecDepth 100000 in
theorem book_cap {v : Value} (h : DataW.trod enc Tryz.prog w base spare held fuel 24 v.cells.toList = some x) : ∀ s a n cap, v = .agg #[.int .i64 s, .slice a n cap] → n ≤ cap ∧ cap ≤ 9223372036854775807 := by
  rintro s a n cap rfl
  obtain ⟨y0, y1, k, _, hl, h0, h1⟩ := trod_struct2 Tryz.underlying24 h
  simp only [Value.cells, kx_cellsGths] at h1
  rcases DataW.trod_slice Tryz.underlying22 h1 with ⟨e, _⟩ | ⟨a', len, cap', elems, rest, m, _, e, _, _, h2, h3, _, _, _, _⟩
  · simp at e
    omega
  · simp at e
    obtain ⟨_, rfl, rfl⟩ := e
    exact ⟨h2, h3⟩
set_option maxRecDepth 100000 in
theorem sig_in {v : Value} {b0 : Nat} (hv : Value.okWide Tryz.prog w .any b0 39 v) (h : DataW.trod enc Tryz.prog w base spare held fuel 39 v.cells.toList = some x) : ∃ r l, v = .agg #[.int .i64 r, .int .i64 l] := by
  simp only [Value.okWide, Tryz.underlying39] at hv
  obtain ⟨cs, rfl, -, -⟩ := hv
  obtain ⟨r, l, e⟩ := kx_sig h
  have : cs = #[.int .i64 r, .int .i64 l] := by
    have e' : cs.toList = [.int .i64 r, .int .i64 l] := e
    rw [← Array.toArray_toList (xs := cs), e']
  exact ⟨r, l, by rw [this]⟩
set_option maxRecDepth 100000 in
theorem string_in {v : Value} {b0 : Nat} (hv : Value.okWide Tryz.prog w .any b0 9 v) (h : DataW.trod enc Tryz.prog w base spare held fuel 9 v.cells.toList = some x) : ∃ s : List UInt8, v = .string ⟨s.toArray⟩ ∧ s.length ≤ 9223372036854775807 := by
  obtain ⟨s, rfl⟩ := okWide_string Tryz.underlying9 hv
  obtain ⟨s', e, _, hs⟩ := DataW.trod_string Tryz.underlying9 h
  simp [Value.cells] at e
  subst e
  refine ⟨s.data.toList, rfl, ?_⟩
  have h1 : s.data.toList.length = s.size := rfl
  rw [h1]
  exact hs
set_option maxRecDepth 100000 in
theorem string_in2 {v : Value} {b0 : Nat} (hv : Value.okWide Tryz.prog w .any b0 9 v) (h : DataW.trod enc Tryz.prog w base spare held fuel 9 v.cells.toList = some x) : ∃ s : List UInt8, v = .string ⟨s.toArray⟩ ∧ s.length ≤ 9223372036854775807 ∧ x.1 = .lit (.string s) := by
  obtain ⟨s, rfl⟩ := okWide_string Tryz.underlying9 hv
  obtain ⟨s', e, hx, hs⟩ := DataW.trod_string Tryz.underlying9 h
  simp [Value.cells] at e
  subst e
  refine ⟨s.data.toList, rfl, ?_, by rw [hx]⟩
  have h1 : s.data.toList.length = s.size := rfl
  rw [h1]
  exact hs
/-- What the bound gives of one datum. -/
theorem upto_part {H : Type} {d : DataW H} : ∀ {l : List (DataW H)}, d ∈ l → Rows.uptoBulk d ≤ Rows.uptoBulkAll l
  | [], h => by cases h
  | x :: r, h => by
    simp only [Rows.uptoBulkAll]
    rcases List.mem_cons.1 h with rfl | h
    · omega
    · have := upto_part h
      omega
set_option maxRecDepth 100000 in
theorem upto_string {H : Type} {l : List (DataW H)} {d : DataW H} {s : List UInt8} (hk : Rows.uptoSmall H l = true) (hm : d ∈ l) (hd : d = .lit (.string s)) : s.length ≤ 1048576 := by
  have h : Rows.uptoBulkAll l ≤ 1048576 := of_decide_eq_true hk
  have h2 := upto_part hm
  subst hd
  simp only [Rows.uptoBulk] at h2
  omega
set_option maxRecDepth 100000 in
theorem int_in {v : Value} {b0 : Nat} (hv : Value.okWide Tryz.prog w .any b0 3 v) (h : DataW.trod enc Tryz.prog w base spare held fuel 3 v.cells.toList = some x) : ∃ n : Int, v = .int .i64 n ∧ -9223372036854775808 ≤ n ∧ n ≤ 9223372036854775807 := by
  obtain ⟨n, rfl⟩ := okWide_int Tryz.underlying3 hv
  obtain ⟨n', e, _, hw⟩ := DataW.trod_int Tryz.underlying3 h
  simp [Value.cells] at e
  subst e
  simp only [Lit.wf, Bool.and_eq_true, decide_eq_true_eq] at hw
  have h1 : IntKind.i64.min = -9223372036854775808 := by decide
  have h2 : IntKind.i64.max = 9223372036854775807 := by decide
  rw [h1, h2] at hw
  exact ⟨n, rfl, by omega, by omega⟩
set_option maxRecDepth 100000 in
theorem u8x2_in {v : Value} {b0 : Nat} (hv : Value.okWide Tryz.prog w .any b0 37 v) (h : DataW.trod enc Tryz.prog w base spare held fuel 37 v.cells.toList = some x) : ∃ n m : Nat, v = .agg #[.int .u8 n, .int .u8 m] ∧ n < 256 ∧ m < 256 := by
  have hc : Tryz.prog.cellsOf 37 = 2 := by kernel_rfl
  have hc1 : Tryz.prog.cellsOf 5 = 1 := by kernel_rfl
  simp only [Value.okWide, Tryz.underlying37] at hv
  obtain ⟨cs, rfl, hl, -⟩ := hv
  obtain ⟨xs, k, _, _, _, hlen, hf⟩ := DataW.trod_array Tryz.underlying37 h
  rw [hc] at hl
  have hl' : cs.toList.length = 2 := by simpa using hl
  obtain ⟨a, b, hab⟩ := len2 hl'
  have hcs : cs = #[a, b] := by rw [← Array.toArray_toList (xs := cs), hab]
  subst hcs
  match xs, hlen with
  | [y0, y1], _ =>
    obtain ⟨n, e0, _, w0⟩ := DataW.trod_int Tryz.underlying5 (by simpa using hf 0 (by omega))
    obtain ⟨m, e1, _, w1⟩ := DataW.trod_int Tryz.underlying5 (by simpa using hf 1 (by omega))
    simp [hc1, Value.cells] at e0 e1
    subst e0 e1
    simp only [Lit.wf, Bool.and_eq_true, decide_eq_true_eq] at w0 w1
    have h1 : IntKind.u8.min = 0 := by decide
    have h2 : IntKind.u8.max = 255 := by decide
    rw [h1, h2] at w0 w1
    exact ⟨n.toNat, m.toNat, by rw [show ((n.toNat : Nat) : Int) = n by omega, show ((m.toNat : Nat) : Int) = m by omega], by omega, by omega⟩
end
end Go.Proofs.YtimdmgkegdlafaaGreatDoor
