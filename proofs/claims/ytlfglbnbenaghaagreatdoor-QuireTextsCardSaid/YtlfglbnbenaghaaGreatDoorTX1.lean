/- The parts Ka, Da, Me, Kx, Db, Dc, Pa, Da2, Ea of the proof, joined. It holds without conditions of its own. -/
import Derived.Test.YtlfglbnbenaghaaGreatDoorRows
import Derived.WalkKit
import Derived.ProofKit
import Derived.LaidMore
import Derived.OpenShut
import Derived.Stop.Joined
import Derived.Carry
import Derived.SevenTiedAt
import Derived.Below
import Derived.ChangeSame
/- What the statements' frames share: the knob, and that the listed variables can stand as they are laid. -/
namespace Go.Proofs.YtlfglbnbenaghaaGreatDoor
set_option linter.unusedSimpArgs false
set_option linter.unusedVariables false
open Go.ChangeShapes Go.WideShapes Go.ChangeAt Go.RowKit

theorem own : ownKnob Tryz.prog.godebug = none := by kernel_rfl
abbrev laidVs {H : Type} : List (String × DataW H) := [("math/bits.deBruijn32tab", Rows.laid_math_bits_deBruijn32tab), ("math/bits.deBruijn64tab", Rows.laid_math_bits_deBruijn64tab), ("internal/strconv.uint64pow10", Rows.laid_internal_strconv_uint64pow10)]
theorem door_met (os : Os) (args : Array Value) : laidMetH Tryz.prog laidVs ((World.doorLaid Tryz.prog 400 os).forCall (fun _ _ => 0) ⟨#[], args, []⟩).memory :=
  laidMetH_of_parts3 (fuel := 8) (laidMet_of_run' 8 (by kernel_rfl) (by kernel_rfl)) (by kernel_rfl) (by kernel_rfl)

section
variable {H : Type} {enc : TypeId × Value → H} {P : Program}
/-- All arguments read behind the call as they did, if nothing that was there has turned. -/
theorem trodAll_below (hl : laidOutB P = true) {W W' : World} (hb : Below W.heap.size W W') :
    ∀ {ts : List TypeId} {vs : List Value} {ds : List (DataW H)} {ps : List MemPlace}, (ts.all fun t => P.readableRec t && decide (t < P.types.size)) = true →
      DataW.TrodAll enc P W 0 (fun _ => true) true ts vs ds ps → (∀ x ∈ ps, x.block < W.heap.size) → DataW.TrodAll enc P W' 0 (fun b => decide (b < W.heap.size)) true ts vs ds ps
  | [], [], [], _, _, h, _ => h
  | _ :: _, _ :: _, _ :: _, _, ha, h, hlt => by
    obtain ⟨p, q, h1, h2, rfl⟩ := h
    simp only [List.all_cons, Bool.and_eq_true, decide_eq_true_eq] at ha
    exact ⟨p, q, Below.trod hl ha.1.1 ha.1.2 h1 hb (fun x hx => hlt x (by simp [hx])), trodAll_below hl hb ha.2 h2 (fun x hx => hlt x (by simp [hx])), rfl⟩
  | [], _ :: _, _, _, _, h, _ => h.elim
  | [], [], _ :: _, _, _, h, _ => h.elim
  | _ :: _, [], _, _, _, h, _ => h.elim
  | _ :: _, _ :: _, [], _, _, h, _ => h.elim

/-- A law that returned true and turned nothing that was there keeps its statement. -/
theorem law_post {f : Func} {s : ChangeSpec} {W W' : World} {args : Array Value} {ds : List (DataW H)} {before : List MemPlace} {tb : TypeId} (hl : laidOutB P = true)
    (hW : DataW.Whole enc P f.params.toList s.vars false W args.toList ds [] before) (hv : s.vars = []) (hfn : s.fn H (ds ++ []) = { results := [.lit (.bool true)], args := ds, vars := [] })
    (hr : f.resultTypes = #[tb]) (ht : P.underlying tb = some .bool) (ha : (f.params.toList.all fun t => P.readableRec t && decide (t < P.types.size)) = true) (hb : Below W.heap.size W W') :
    s.post enc P f false true false false W args (.bool true) W' := by
  have hlt : ∀ x ∈ before, x.block < W.heap.size := fun x hx => by simpa using hW.lt x hx
  have hW' := hW
  obtain ⟨p, q, hA, hV, rfl, hfz, hnd⟩ := hW
  rw [hv] at hV
  obtain ⟨-, rfl⟩ := trodVars_none hV
  simp only [List.append_nil] at hlt hW'
  refine ⟨ds, [], p, [], p, [], hW', ?_, ?_, ?_, hb.frame _, fun h => by cases h⟩
  · rw [hr, hfn]
    exact trodAll_mk1 (shut_bool ht _)
  · rw [hfn]
    exact trodAll_below hl hb ha hA hlt
  · rw [hv, hfn]
    rfl
end
end Go.Proofs.YtlfglbnbenaghaaGreatDoor

/- The data of layer 1 as plain Lean, and what a Go function says of it. Nothing of the program. -/
namespace Go.Proofs.YtlfglbnbenaghaaGreatDoor
set_option linter.unusedSimpArgs false
set_option linter.unusedVariables false

structure Chg where
  kind : Int
  pos : Int
  many : Int
structure Gth where
  round : Int
  letter : Int
  leaves : Int
  chs : List Chg
structure Bk where
  signed : Int
  gs : List Gth

def inB (lo hi x : Int) : Bool := decide (lo ≤ x) && decide (x ≤ hi)
def sigB (r l : Int) : Bool := inB 1 3 r && inB 0 24 l
def behindB (r l r' l' : Int) : Bool := if r = r' then decide (l' < l) else decide (r' < r)
def foldedB (n : Int) : Bool := decide (n = 1) || (decide (n % 2 = 0) && inB 2 12 n)
def rangeB (c : Chg) (leaves : Int) : Bool := if c.kind = 3 then inB 0 leaves c.pos && inB 1 4 c.many else inB 1 leaves c.pos && decide (c.many = 0)
def orderB (b c : Chg) : Bool := if c.pos = b.pos then decide (c.kind = 3) && decide (b.kind ≠ 3) else decide (b.pos < c.pos)
def kindB (c : Chg) : Bool := decide (c.kind = 1) || decide (c.kind = 2) || decide (c.kind = 3)
/-- The error of the change behind another one (none: it is the first). -/
def chErr (leaves : Int) (prev : Option Chg) (c : Chg) : Int :=
  if kindB c = false then 6 else if rangeB c leaves = false then 7 else match prev with
    | none => 0
    | some p => if orderB p c = false then 2 else 0
/-- The first change with an error: its index and its error. -/
def chsErr (leaves : Int) : Option Chg → Nat → List Chg → Nat × Int
  | _, _, [] => (0, 0)
  | prev, i, c :: cs => if chErr leaves prev c = 0 then chsErr leaves (some c) (i + 1) cs else (i, chErr leaves prev c)
/-- The error of a gathering behind some signatures, the last lettered one of which is given. -/
def gthErr (seen : List (Int × Int)) (last : Int × Int) (g : Gth) : Int :=
  if sigB g.round g.letter = false then 7
  else if (g.round, g.letter) ∈ seen then 5
  else if g.letter < 23 ∧ behindB g.round g.letter last.1 last.2 = false then 2
  else if foldedB g.leaves = false then 7
  else if 4 < g.chs.length then 3
  else (chsErr g.leaves none 0 g.chs).2
def lastOf (last : Int × Int) (g : Gth) : Int × Int := if g.letter < 23 then (g.round, g.letter) else last
def gsErr : List (Int × Int) → Int × Int → Nat → List Gth → Nat × Int
  | _, _, _, [] => (0, 0)
  | seen, last, i, g :: gs => if gthErr seen last g = 0 then gsErr (seen ++ [(g.round, g.letter)]) (lastOf last g) (i + 1) gs else (i, gthErr seen last g)
/-- Check: part, index, error. -/
def checkF (b : Bk) : Nat × Nat × Int :=
  if inB 0 12 b.signed = false then (1, 0, 7)
  else if inB 1 30 b.gs.length = false then (1, 0, 3)
  else if (gsErr [] (0, 0) 0 b.gs).2 = 0 then (0, 0, 0) else (2, (gsErr [] (0, 0) 0 b.gs).1, (gsErr [] (0, 0) 0 b.gs).2)

/-- The letters of signatures, and how signatures and numbers below a hundred are written. -/
def letterL : List UInt8 := [65, 66, 67, 68, 69, 70, 71, 72, 73, 75, 76, 77, 78, 79, 80, 81, 82, 83, 84, 86, 88, 89, 90]
def letterT (l : Int) : List UInt8 := if l = 23 then [112, 105] else if l = 24 then [99, 104, 105] else [letterL.getD l.toNat 0]
def decN (n : Nat) : List UInt8 := if n < 10 then [UInt8.ofNat (48 + n)] else [UInt8.ofNat (48 + n / 10), UInt8.ofNat (48 + n % 10)]
def dec (n : Int) : List UInt8 := decN n.toNat
def sigT (r l : Int) : List UInt8 := (if 1 < r then dec r else []) ++ letterT l
/-- How a leaf is written. -/
def nameT (r l n p : Int) : List UInt8 := sigT r l ++ dec n ++ if 0 < p then 43 :: dec p else []
/-- Whether some book has a leaf with this number and Plus. -/
def possibleB (n p : Int) : Bool := !(decide (n = 0) && decide (p = 0)) && inB 0 12 n && inB 0 4 p

end Go.Proofs.YtlfglbnbenaghaaGreatDoor

/- Where a book lies in memory: predicates on the cells below a block number, and that they stay. -/
namespace Go.Proofs.YtlfglbnbenaghaaGreatDoor
set_option linter.unusedSimpArgs false
set_option linter.unusedVariables false
open Go Go.RowKit

/-- A slice of changes. -/
def ChsAt (B : Nat) (w : World) (v : Value) (cs : List Chg) : Prop :=
  ∃ (a : Option Addr) (cap : Nat), v = .slice a cs.length cap ∧ (cs ≠ [] → ∃ b off, a = some ⟨b, off, none⟩ ∧ b < B ∧
    ∀ i c, cs[i]? = some c → w.cell? ⟨b, off + i * 3, none⟩ = some (.int .i64 c.kind) ∧ w.cell? ⟨b, off + i * 3 + 1, none⟩ = some (.int .i64 c.pos) ∧ w.cell? ⟨b, off + i * 3 + 2, none⟩ = some (.int .i64 c.many))
/-- A slice of gatherings. -/
def GsAt (B : Nat) (w : World) (v : Value) (gs : List Gth) : Prop :=
  ∃ (a : Option Addr) (cap : Nat), v = .slice a gs.length cap ∧ (gs ≠ [] → ∃ b off, a = some ⟨b, off, none⟩ ∧ b < B ∧
    ∀ i g, gs[i]? = some g → ∃ cv, ChsAt B w cv g.chs ∧ w.cell? ⟨b, off + i * 4, none⟩ = some (.int .i64 g.round) ∧ w.cell? ⟨b, off + i * 4 + 1, none⟩ = some (.int .i64 g.letter) ∧
      w.cell? ⟨b, off + i * 4 + 2, none⟩ = some (.int .i64 g.leaves) ∧ w.cell? ⟨b, off + i * 4 + 3, none⟩ = some cv)
/-- A book, as a value. -/
def BookAt (B : Nat) (w : World) (v : Value) (b : Bk) : Prop := ∃ sv, v = .agg #[.int .i64 b.signed, sv] ∧ GsAt B w sv b.gs

theorem cell_same {B : Nat} {w w' : World} (h : ∀ k, k < B → w'.heap[k]? = w.heap[k]?) {b : Nat} (hb : b < B) (i : Nat) : w'.cell? ⟨b, i, none⟩ = w.cell? ⟨b, i, none⟩ :=
  World.cell?_of_block (w := w) (h b hb)

theorem ChsAt.same {B : Nat} {w w' : World} {v : Value} {cs : List Chg} (h : ChsAt B w v cs) (hs : ∀ k, k < B → w'.heap[k]? = w.heap[k]?) : ChsAt B w' v cs := by
  obtain ⟨a, cap, rfl, h⟩ := h
  refine ⟨a, cap, rfl, fun hne => ?_⟩
  obtain ⟨b, off, rfl, hb, hc⟩ := h hne
  refine ⟨b, off, rfl, hb, fun i c hi => ?_⟩
  simp only [cell_same hs hb]
  exact hc i c hi
theorem ChsAt.mono {B B' : Nat} {w : World} {v : Value} {cs : List Chg} (h : ChsAt B w v cs) (hB : B ≤ B') : ChsAt B' w v cs := by
  obtain ⟨a, cap, rfl, h⟩ := h
  refine ⟨a, cap, rfl, fun hne => ?_⟩
  obtain ⟨b, off, rfl, hb, hc⟩ := h hne
  exact ⟨b, off, rfl, Nat.lt_of_lt_of_le hb hB, hc⟩
theorem GsAt.same {B : Nat} {w w' : World} {v : Value} {gs : List Gth} (h : GsAt B w v gs) (hs : ∀ k, k < B → w'.heap[k]? = w.heap[k]?) : GsAt B w' v gs := by
  obtain ⟨a, cap, rfl, h⟩ := h
  refine ⟨a, cap, rfl, fun hne => ?_⟩
  obtain ⟨b, off, rfl, hb, hc⟩ := h hne
  refine ⟨b, off, rfl, hb, fun i g hi => ?_⟩
  obtain ⟨cv, h1, h2⟩ := hc i g hi
  refine ⟨cv, h1.same hs, ?_⟩
  simp only [cell_same hs hb]
  exact h2
theorem GsAt.mono {B B' : Nat} {w : World} {v : Value} {gs : List Gth} (h : GsAt B w v gs) (hB : B ≤ B') : GsAt B' w v gs := by
  obtain ⟨a, cap, rfl, h⟩ := h
  refine ⟨a, cap, rfl, fun hne => ?_⟩
  obtain ⟨b, off, rfl, hb, hc⟩ := h hne
  refine ⟨b, off, rfl, Nat.lt_of_lt_of_le hb hB, fun i g hi => ?_⟩
  obtain ⟨cv, h1, h2⟩ := hc i g hi
  exact ⟨cv, h1.mono hB, h2⟩
theorem BookAt.same {B : Nat} {w w' : World} {v : Value} {b : Bk} (h : BookAt B w v b) (hs : ∀ k, k < B → w'.heap[k]? = w.heap[k]?) : BookAt B w' v b := by
  obtain ⟨sv, rfl, h⟩ := h
  exact ⟨sv, rfl, h.same hs⟩
theorem BookAt.mono {B B' : Nat} {w : World} {v : Value} {b : Bk} (h : BookAt B w v b) (hB : B ≤ B') : BookAt B' w v b := by
  obtain ⟨sv, rfl, h⟩ := h
  exact ⟨sv, rfl, h.mono hB⟩
theorem ChsAt.below {B C : Nat} {w w' : World} {v : Value} {cs : List Chg} (h : ChsAt B w v cs) (hb : Below C w w') (hC : B ≤ C) : ChsAt B w' v cs := h.same fun k hk => hb.block k (Nat.lt_of_lt_of_le hk hC)
theorem GsAt.below {B C : Nat} {w w' : World} {v : Value} {gs : List Gth} (h : GsAt B w v gs) (hb : Below C w w') (hC : B ≤ C) : GsAt B w' v gs := h.same fun k hk => hb.block k (Nat.lt_of_lt_of_le hk hC)
theorem BookAt.below {B C : Nat} {w w' : World} {v : Value} {b : Bk} (h : BookAt B w v b) (hb : Below C w w') (hC : B ≤ C) : BookAt B w' v b := h.same fun k hk => hb.block k (Nat.lt_of_lt_of_le hk hC)

end Go.Proofs.YtlfglbnbenaghaaGreatDoor

/- From the statement's data to a book in memory. -/
namespace Go.Proofs.YtlfglbnbenaghaaGreatDoor
set_option linter.unusedSimpArgs false
set_option linter.unusedVariables false
open Go Go.ChangeShapes Go.WideShapes Go.ChangeAt Go.RowKit

theorem kx_cellsInt : Tryz.prog.cellsOf 3 = 1 := by kernel_rfl
theorem kx_cellsSig : Tryz.prog.cellsOf 39 = 2 := by kernel_rfl
theorem kx_cellsChg : Tryz.prog.cellsOf 44 = 3 := by kernel_rfl
theorem kx_cellsGth : Tryz.prog.cellsOf 42 = 4 := by kernel_rfl
theorem kx_cellsBk : Tryz.prog.cellsOf 24 = 2 := by kernel_rfl
theorem kx_cellsChgs : Tryz.prog.cellsOf 40 = 1 := by kernel_rfl
theorem kx_cellsGths : Tryz.prog.cellsOf 22 = 1 := by kernel_rfl

section
variable {H : Type} {enc : TypeId × Value → H} {w : World} {base : Nat} {spare : Nat → Bool} {held : Bool} {fuel : Nat} {x : DataW H × List MemPlace}
theorem len1 {l : List Value} (h : l.length = 1) : ∃ a, l = [a] := by match l, h with | [a], _ => exact ⟨a, rfl⟩
theorem len2 {l : List Value} (h : l.length = 2) : ∃ a b, l = [a, b] := by match l, h with | [a, b], _ => exact ⟨a, b, rfl⟩
theorem len3 {l : List Value} (h : l.length = 3) : ∃ a b c, l = [a, b, c] := by match l, h with | [a, b, c], _ => exact ⟨a, b, c, rfl⟩
theorem len4 {l : List Value} (h : l.length = 4) : ∃ a b c d, l = [a, b, c, d] := by match l, h with | [a, b, c, d], _ => exact ⟨a, b, c, d, rfl⟩

theorem choose_list {α : Type} (Q : Nat → α → Prop) : ∀ len, (∀ i, i < len → ∃ z, Q i z) → ∃ zs : List α, zs.length = len ∧ ∀ i z, zs[i]? = some z → Q i z
  | 0, _ => ⟨[], rfl, fun i z hz => by simp at hz⟩
  | m + 1, h => by
    obtain ⟨zs, h1, h2⟩ := choose_list Q m (fun i hi => h i (by omega))
    obtain ⟨z, hz⟩ := h m (by omega)
    refine ⟨zs ++ [z], by simp [h1], fun i y hy => ?_⟩
    by_cases hi : i < zs.length
    · rw [List.getElem?_append_left hi] at hy
      exact h2 i y hy
    · have hi2 := (List.getElem?_eq_some_iff.1 hy).1
      simp at hi2
      have him : i = m := by omega
      subst him
      rw [List.getElem?_append_right (by omega), h1] at hy
      simp at hy
      subst hy
      exact hz
theorem kx_sig {cs : List Value} (h : DataW.trod enc Tryz.prog w base spare held fuel 39 cs = some x) : ∃ r l, cs = [.int .i64 r, .int .i64 l] := by
  obtain ⟨y0, y1, n, _, hl, h0, h1⟩ := trod_struct2 Tryz.underlying39 h
  rw [kx_cellsSig] at hl
  obtain ⟨a, b, rfl⟩ := len2 hl
  obtain ⟨r, e0, _, _⟩ := DataW.trod_int Tryz.underlying3 h0
  obtain ⟨l, e1, _, _⟩ := DataW.trod_int Tryz.underlying3 h1
  simp [kx_cellsInt] at e0 e1
  subst e0 e1
  exact ⟨r, l, rfl⟩
theorem kx_chg {cs : List Value} (h : DataW.trod enc Tryz.prog w base spare held fuel 44 cs = some x) : ∃ c : Chg, cs = [.int .i64 c.kind, .int .i64 c.pos, .int .i64 c.many] := by
  obtain ⟨xs, n, _, _, hl, hlen, hf⟩ := DataW.trod_struct Tryz.underlying44 h
  rw [kx_cellsChg] at hl
  obtain ⟨a, b, c, rfl⟩ := len3 hl
  match xs, hlen with
  | [y0, y1, y2], _ =>
    obtain ⟨k, e0, _, _⟩ := DataW.trod_int Tryz.underlying3 (by simpa using hf 0 _ rfl)
    obtain ⟨p, e1, _, _⟩ := DataW.trod_int Tryz.underlying3 (by simpa using hf 1 _ rfl)
    obtain ⟨m, e2, _, _⟩ := DataW.trod_int Tryz.underlying3 (by simpa using hf 2 _ rfl)
    simp [kx_cellsInt] at e0 e1 e2
    subst e0 e1 e2
    exact ⟨⟨k, p, m⟩, rfl⟩
/-- Of each element of a slice: what is so of its cells. -/
theorem kx_slice {t e : TypeId} {cs : List Value} {α : Type} (ht : Tryz.prog.underlying t = some (.slice e)) (hc : 0 < Tryz.prog.cellsOf e) (R : α → List Value → Prop)
    (hR : ∀ (n : Nat) (l : List Value) (y : DataW H × List MemPlace), DataW.trod enc Tryz.prog w base spare held n e l = some y → ∃ z, R z l)
    (h : DataW.trod enc Tryz.prog w base spare held fuel t cs = some x) :
    ∃ (a : Option Addr) (cap : Nat) (zs : List α), cs = [.slice a zs.length cap] ∧ (zs ≠ [] → ∃ b off, a = some ⟨b, off, none⟩ ∧ b < w.heap.size ∧ ∀ i z, zs[i]? = some z → ∃ l, l.length = Tryz.prog.cellsOf e ∧ R z l ∧ ∀ j u, l[j]? = some u → w.cell? ⟨b, off + i * Tryz.prog.cellsOf e + j, none⟩ = some u) := by
  rcases DataW.trod_slice ht h with ⟨rfl, _⟩ | ⟨a, len, cap, elems, rest, n, _, rfl, _, _, _, _, hlen, hel, _, _⟩
  · exact ⟨none, 0, [], rfl, fun h => absurd rfl h⟩
  · have each : ∀ i, i < len → ∃ z l, l.length = Tryz.prog.cellsOf e ∧ R z l ∧ ∀ j u, l[j]? = some u → w.cell? ((a.add (i * Tryz.prog.cellsOf e)).add j) = some u := by
      intro i hi
      have h1 := hel i hi
      rw [List.getElem?_eq_getElem (by omega), Option.bind_eq_some_iff] at h1
      obtain ⟨l, h2, h3⟩ := h1
      obtain ⟨z, hz⟩ := hR _ _ _ h3
      obtain ⟨_, h4, h5⟩ := World.cells?_some h2
      refine ⟨z, l, h4, hz, fun j u hu => ?_⟩
      rw [h5 j (by have := (List.getElem?_eq_some_iff.1 hu).1; omega)]
      exact hu
    have all := choose_list (fun i z => ∃ l, l.length = Tryz.prog.cellsOf e ∧ R z l ∧ ∀ j u, l[j]? = some u → w.cell? ((a.add (i * Tryz.prog.cellsOf e)).add j) = some u) len each
    obtain ⟨zs, hzl, hz⟩ := all
    refine ⟨some a, cap, zs, by rw [hzl], fun hne => ?_⟩
    obtain ⟨z0, h0⟩ : ∃ z, zs[0]? = some z := by
      cases zs with
      | nil => exact absurd rfl hne
      | cons z _ => exact ⟨z, rfl⟩
    obtain ⟨l0, hl0, _, hc0⟩ := hz 0 z0 h0
    obtain ⟨u0, hu0⟩ : ∃ u, l0[0]? = some u := ⟨_, List.getElem?_eq_getElem (by omega)⟩
    have hc0 := hc0 0 u0 hu0
    have hspot : a.spot = none := by
      have := World.cell?_spot hc0
      simpa [Addr.add] using this
    obtain ⟨b, off, sp⟩ := a
    dsimp only at hspot
    subst hspot
    have hadd : ∀ (m j : Nat), ((⟨b, off, none⟩ : Addr).add m).add j = ⟨b, off + m + j, none⟩ := fun m j => by
      unfold Addr.add
      split <;> split <;> simp_all
    refine ⟨b, off, rfl, ?_, fun i z hi => ?_⟩
    · rw [hadd] at hc0
      unfold World.cell? at hc0
      cases ho : w.heap[b]? with
      | none => simp [ho] at hc0
      | some o => exact (Array.getElem?_eq_some_iff.1 ho).1
    · obtain ⟨l, h1, h2, h3⟩ := hz i z hi
      exact ⟨l, h1, h2, fun j u hu => by rw [← hadd]; exact h3 j u hu⟩
theorem kx_chgs {cs : List Value} (h : DataW.trod enc Tryz.prog w base spare held fuel 40 cs = some x) : ∃ v chs, cs = [v] ∧ ChsAt w.heap.size w v chs := by
  obtain ⟨a, cap, zs, rfl, hz⟩ := kx_slice (α := Chg) Tryz.underlying40 (by rw [kx_cellsChg]; decide) (fun c l => l = [.int .i64 c.kind, .int .i64 c.pos, .int .i64 c.many]) (fun n l y hy => kx_chg hy) h
  refine ⟨_, zs, rfl, a, cap, rfl, fun hne => ?_⟩
  obtain ⟨b, off, ha, hb, hc⟩ := hz hne
  refine ⟨b, off, ha, hb, fun i c hi => ?_⟩
  obtain ⟨l, _, rfl, h3⟩ := hc i c hi
  rw [kx_cellsChg] at h3
  exact ⟨h3 0 _ rfl, h3 1 _ rfl, h3 2 _ rfl⟩
theorem kx_gth {cs : List Value} (h : DataW.trod enc Tryz.prog w base spare held fuel 42 cs = some x) : ∃ (g : Gth) (cv : Value), cs = [.int .i64 g.round, .int .i64 g.letter, .int .i64 g.leaves, cv] ∧ ChsAt w.heap.size w cv g.chs := by
  obtain ⟨xs, n, _, _, hl, hlen, hf⟩ := DataW.trod_struct Tryz.underlying42 h
  rw [kx_cellsGth] at hl
  obtain ⟨a, b, c, d, rfl⟩ := len4 hl
  match xs, hlen with
  | [y0, y1, y2], _ =>
    obtain ⟨r, l, e0⟩ := kx_sig (by simpa using hf 0 _ rfl)
    obtain ⟨v, e1, _, _⟩ := DataW.trod_int Tryz.underlying3 (by simpa using hf 1 _ rfl)
    obtain ⟨cv, chs, e2, hc⟩ := kx_chgs (by simpa using hf 2 _ rfl)
    simp [kx_cellsInt, kx_cellsSig, kx_cellsChgs] at e0 e1 e2
    obtain ⟨rfl, rfl⟩ := e0
    subst e1 e2
    exact ⟨⟨r, l, v, chs⟩, _, rfl, hc⟩
set_option maxRecDepth 100000 in
theorem kx_book {cs : List Value} (h : DataW.trod enc Tryz.prog w base spare held fuel 24 cs = some x) : ∃ (b : Bk) (gv : Value), cs = [.int .i64 b.signed, gv] ∧ GsAt w.heap.size w gv b.gs := by
  obtain ⟨y0, y1, n, _, hl, h0, h1⟩ := trod_struct2 Tryz.underlying24 h
  rw [kx_cellsBk] at hl
  obtain ⟨a, b, rfl⟩ := len2 hl
  obtain ⟨s, e0, _, _⟩ := DataW.trod_int Tryz.underlying3 h0
  obtain ⟨ga, cap, zs, e1, hz⟩ := kx_slice (α := Gth) Tryz.underlying22 (by rw [kx_cellsGth]; decide) (fun g l => ∃ cv, l = [.int .i64 g.round, .int .i64 g.letter, .int .i64 g.leaves, cv] ∧ ChsAt w.heap.size w cv g.chs) (fun n l y hy => kx_gth hy) h1
  simp [kx_cellsInt, kx_cellsGths] at e0 e1
  subst e0 e1
  refine ⟨⟨s, zs⟩, _, rfl, ga, cap, rfl, fun hne => ?_⟩
  obtain ⟨b, off, ha, hb, hc⟩ := hz hne
  refine ⟨b, off, ha, hb, fun i g hi => ?_⟩
  obtain ⟨l, _, ⟨cv, rfl, hcv⟩, h3⟩ := hc i g hi
  rw [kx_cellsGth] at h3
  exact ⟨cv, hcv, h3 0 _ rfl, h3 1 _ rfl, h3 2 _ rfl, h3 3 _ rfl⟩
set_option maxRecDepth 100000 in
/-- A book that is handed in lies in memory. -/
theorem book_in {v : Value} {b0 : Nat} (hv : Value.okWide Tryz.prog w .any b0 24 v) (h : DataW.trod enc Tryz.prog w base spare held fuel 24 v.cells.toList = some x) : ∃ b : Bk, BookAt w.heap.size w v b := by
  simp only [Value.okWide, Tryz.underlying24] at hv
  obtain ⟨cs, rfl, -, -⟩ := hv
  obtain ⟨b, gv, e, hg⟩ := kx_book h
  have : cs = #[.int .i64 b.signed, gv] := by
    have e' : cs.toList = [.int .i64 b.signed, gv] := e
    rw [← Array.toArray_toList (xs := cs), e']
  exact ⟨b, gv, by rw [this], hg⟩
set_option maxRecDepth 100000 in
theorem book_cap {v : Value} (h : DataW.trod enc Tryz.prog w base spare held fuel 24 v.cells.toList = some x) : ∀ s a n cap, v = .agg #[.int .i64 s, .slice a n cap] → n ≤ cap ∧ cap ≤ 9223372036854775807 := by
  rintro s a n cap rfl
  obtain ⟨y0, y1, k, _, hl, h0, h1⟩ := trod_struct2 Tryz.underlying24 h
  simp only [Value.cells, kx_cellsGths] at h1
  rcases DataW.trod_slice Tryz.underlying22 h1 with ⟨e, _⟩ | ⟨a', len, cap', elems, rest, m, _, e, _, _, h2, h3, _, _, _, _⟩
  · simp at e
    omega
  · simp at e
    obtain ⟨_, rfl, rfl⟩ := e
    exact ⟨h2, h3⟩
set_option maxRecDepth 100000 in
theorem sig_in {v : Value} {b0 : Nat} (hv : Value.okWide Tryz.prog w .any b0 39 v) (h : DataW.trod enc Tryz.prog w base spare held fuel 39 v.cells.toList = some x) : ∃ r l, v = .agg #[.int .i64 r, .int .i64 l] := by
  simp only [Value.okWide, Tryz.underlying39] at hv
  obtain ⟨cs, rfl, -, -⟩ := hv
  obtain ⟨r, l, e⟩ := kx_sig h
  have : cs = #[.int .i64 r, .int .i64 l] := by
    have e' : cs.toList = [.int .i64 r, .int .i64 l] := e
    rw [← Array.toArray_toList (xs := cs), e']
  exact ⟨r, l, by rw [this]⟩
set_option maxRecDepth 100000 in
theorem string_in {v : Value} {b0 : Nat} (hv : Value.okWide Tryz.prog w .any b0 9 v) (h : DataW.trod enc Tryz.prog w base spare held fuel 9 v.cells.toList = some x) : ∃ s : List UInt8, v = .string ⟨s.toArray⟩ ∧ s.length ≤ 9223372036854775807 := by
  obtain ⟨s, rfl⟩ := okWide_string Tryz.underlying9 hv
  obtain ⟨s', e, _, hs⟩ := DataW.trod_string Tryz.underlying9 h
  simp [Value.cells] at e
  subst e
  refine ⟨s.data.toList, rfl, ?_⟩
  have h1 : s.data.toList.length = s.size := rfl
  rw [h1]
  exact hs
set_option maxRecDepth 100000 in
theorem string_in2 {v : Value} {b0 : Nat} (hv : Value.okWide Tryz.prog w .any b0 9 v) (h : DataW.trod enc Tryz.prog w base spare held fuel 9 v.cells.toList = some x) : ∃ s : List UInt8, v = .string ⟨s.toArray⟩ ∧ s.length ≤ 9223372036854775807 ∧ x.1 = .lit (.string s) := by
  obtain ⟨s, rfl⟩ := okWide_string Tryz.underlying9 hv
  obtain ⟨s', e, hx, hs⟩ := DataW.trod_string Tryz.underlying9 h
  simp [Value.cells] at e
  subst e
  refine ⟨s.data.toList, rfl, ?_, by rw [hx]⟩
  have h1 : s.data.toList.length = s.size := rfl
  rw [h1]
  exact hs
/-- What the bound gives of one datum. -/
theorem upto_part {H : Type} {d : DataW H} : ∀ {l : List (DataW H)}, d ∈ l → Rows.uptoBulk d ≤ Rows.uptoBulkAll l
  | [], h => by cases h
  | x :: r, h => by
    simp only [Rows.uptoBulkAll]
    rcases List.mem_cons.1 h with rfl | h
    · omega
    · have := upto_part h
      omega
set_option maxRecDepth 100000 in
theorem upto_string {H : Type} {l : List (DataW H)} {d : DataW H} {s : List UInt8} (hk : Rows.uptoSmall H l = true) (hm : d ∈ l) (hd : d = .lit (.string s)) : s.length ≤ 1048576 := by
  have h : Rows.uptoBulkAll l ≤ 1048576 := of_decide_eq_true hk
  have h2 := upto_part hm
  subst hd
  simp only [Rows.uptoBulk] at h2
  omega
set_option maxRecDepth 100000 in
theorem int_in {v : Value} {b0 : Nat} (hv : Value.okWide Tryz.prog w .any b0 3 v) (h : DataW.trod enc Tryz.prog w base spare held fuel 3 v.cells.toList = some x) : ∃ n : Int, v = .int .i64 n ∧ -9223372036854775808 ≤ n ∧ n ≤ 9223372036854775807 := by
  obtain ⟨n, rfl⟩ := okWide_int Tryz.underlying3 hv
  obtain ⟨n', e, _, hw⟩ := DataW.trod_int Tryz.underlying3 h
  simp [Value.cells] at e
  subst e
  simp only [Lit.wf, Bool.and_eq_true, decide_eq_true_eq] at hw
  have h1 : IntKind.i64.min = -9223372036854775808 := by decide
  have h2 : IntKind.i64.max = 9223372036854775807 := by decide
  rw [h1, h2] at hw
  exact ⟨n, rfl, by omega, by omega⟩
set_option maxRecDepth 100000 in
theorem u8x2_in {v : Value} {b0 : Nat} (hv : Value.okWide Tryz.prog w .any b0 37 v) (h : DataW.trod enc Tryz.prog w base spare held fuel 37 v.cells.toList = some x) : ∃ n m : Nat, v = .agg #[.int .u8 n, .int .u8 m] ∧ n < 256 ∧ m < 256 := by
  have hc : Tryz.prog.cellsOf 37 = 2 := by kernel_rfl
  have hc1 : Tryz.prog.cellsOf 5 = 1 := by kernel_rfl
  simp only [Value.okWide, Tryz.underlying37] at hv
  obtain ⟨cs, rfl, hl, -⟩ := hv
  obtain ⟨xs, k, _, _, _, hlen, hf⟩ := DataW.trod_array Tryz.underlying37 h
  rw [hc] at hl
  have hl' : cs.toList.length = 2 := by simpa using hl
  obtain ⟨a, b, hab⟩ := len2 hl'
  have hcs : cs = #[a, b] := by rw [← Array.toArray_toList (xs := cs), hab]
  subst hcs
  match xs, hlen with
  | [y0, y1], _ =>
    obtain ⟨n, e0, _, w0⟩ := DataW.trod_int Tryz.underlying5 (by simpa using hf 0 (by omega))
    obtain ⟨m, e1, _, w1⟩ := DataW.trod_int Tryz.underlying5 (by simpa using hf 1 (by omega))
    simp [hc1, Value.cells] at e0 e1
    subst e0 e1
    simp only [Lit.wf, Bool.and_eq_true, decide_eq_true_eq] at w0 w1
    have h1 : IntKind.u8.min = 0 := by decide
    have h2 : IntKind.u8.max = 255 := by decide
    rw [h1, h2] at w0 w1
    exact ⟨n.toNat, m.toNat, by rw [show ((n.toNat : Nat) : Int) = n by omega, show ((m.toNat : Nat) : Int) = m by omega], by omega, by omega⟩
end
end Go.Proofs.YtlfglbnbenaghaaGreatDoor

/- What the changes of a gathering do at a number; the leaves of a gathering and of a book, as plain Lean. -/
namespace Go.Proofs.YtlfglbnbenaghaaGreatDoor
set_option linter.unusedSimpArgs false
set_option linter.unusedVariables false

structure Fate where
  gone : Bool
  swapped : Bool
  added : Int
def fateStep (n : Int) (f : Fate) (c : Chg) : Fate :=
  if c.pos ≠ n then f else if c.kind = 1 then { f with gone := true } else if c.kind = 2 then { f with swapped := true } else if c.kind = 3 then { f with added := c.many } else f
def fateF (cs : List Chg) (n : Int) : Fate := cs.foldl (fateStep n) ⟨false, false, 0⟩

/-- A leaf: its gathering, Number, Plus and Kind. -/
structure Lf where
  gat : Nat
  num : Int
  plus : Int
  kind : Int
deriving DecidableEq

/-- The leaves of a gathering at one number, by what the changes do there. -/
def lvsNum (i : Nat) (k : Nat) (f : Fate) : List Lf :=
  (if 0 < k ∧ f.gone = false then [⟨i, k, 0, if f.swapped then 1 else 0⟩] else []) ++ (List.range f.added.toNat).map fun j => ⟨i, k, (j : Int) + 1, 2⟩
/-- The leaves of a gathering. -/
def lvsG (i : Nat) (g : Gth) : List Lf := (List.range (g.leaves + 1).toNat).flatMap fun k => lvsNum i k (fateF g.chs k)
/-- The leaves of a book. -/
def lvsFrom (i : Nat) : List Gth → List Lf
  | [] => []
  | g :: gs => lvsG i g ++ lvsFrom (i + 1) gs
def lvs (b : Bk) : List Lf := lvsFrom 0 b.gs

end Go.Proofs.YtlfglbnbenaghaaGreatDoor

/- What a book without an error is like: bounds of all its numbers. -/
namespace Go.Proofs.YtlfglbnbenaghaaGreatDoor
set_option linter.unusedSimpArgs false
set_option linter.unusedVariables false

theorem inB_iff {lo hi x : Int} : inB lo hi x = true ↔ lo ≤ x ∧ x ≤ hi := by simp [inB]
theorem gsErr_zero : ∀ {gs : List Gth} {seen : List (Int × Int)} {last : Int × Int} {i : Nat}, (gsErr seen last i gs).2 = 0 → ∀ g ∈ gs, ∃ seen last, gthErr seen last g = 0
  | [], _, _, _, _, g, hg => by cases hg
  | x :: xs, seen, last, i, h, g, hg => by
    unfold gsErr at h
    by_cases h0 : gthErr seen last x = 0
    · rw [if_pos h0] at h
      rcases List.mem_cons.1 hg with rfl | hg
      · exact ⟨seen, last, h0⟩
      · exact gsErr_zero h g hg
    · rw [if_neg h0] at h; exact absurd h h0
theorem chsErr_zero : ∀ {cs : List Chg} {l : Int} {p : Option Chg} {i : Nat}, (chsErr l p i cs).2 = 0 → ∀ c ∈ cs, kindB c = true ∧ rangeB c l = true
  | [], _, _, _, _, c, hc => by cases hc
  | x :: xs, l, p, i, h, c, hc => by
    unfold chsErr at h
    by_cases h0 : chErr l p x = 0
    · rw [if_pos h0] at h
      rcases List.mem_cons.1 hc with rfl | hc
      · unfold chErr at h0
        by_cases hk : kindB c = false
        · rw [if_pos hk] at h0; omega
        · rw [if_neg hk] at h0
          by_cases hr : rangeB c l = false
          · rw [if_pos hr] at h0; omega
          · exact ⟨by simpa using hk, by simpa using hr⟩
      · exact chsErr_zero h c hc
    · rw [if_neg h0] at h; exact absurd h h0

/-- A gathering without an error. -/
structure GOk (g : Gth) : Prop where
  sig : sigB g.round g.letter = true
  folded : foldedB g.leaves = true
  few : g.chs.length ≤ 4
  chs : (chsErr g.leaves none 0 g.chs).2 = 0
theorem gthErr_zero {seen : List (Int × Int)} {last : Int × Int} {g : Gth} (h : gthErr seen last g = 0) : GOk g := by
  unfold gthErr at h
  by_cases h1 : sigB g.round g.letter = false
  · rw [if_pos h1] at h; omega
  rw [if_neg h1] at h
  by_cases h2 : (g.round, g.letter) ∈ seen
  · rw [if_pos h2] at h; omega
  rw [if_neg h2] at h
  by_cases h3 : g.letter < 23 ∧ behindB g.round g.letter last.1 last.2 = false
  · rw [if_pos h3] at h; omega
  rw [if_neg h3] at h
  by_cases h4 : foldedB g.leaves = false
  · rw [if_pos h4] at h; omega
  rw [if_neg h4] at h
  by_cases h5 : 4 < g.chs.length
  · rw [if_pos h5] at h; omega
  rw [if_neg h5] at h
  exact ⟨by simpa using h1, by simpa using h4, by omega, h⟩
theorem GOk.leaves {g : Gth} (h : GOk g) : 1 ≤ g.leaves ∧ g.leaves ≤ 12 := by
  have := h.folded
  simp only [foldedB, Bool.or_eq_true, Bool.and_eq_true, decide_eq_true_eq, inB_iff] at this
  omega
theorem GOk.round {g : Gth} (h : GOk g) : 1 ≤ g.round ∧ g.round ≤ 3 := by
  have := h.sig
  simp only [sigB, Bool.and_eq_true, inB_iff] at this
  omega
theorem GOk.letter {g : Gth} (h : GOk g) : 0 ≤ g.letter ∧ g.letter ≤ 24 := by
  have := h.sig
  simp only [sigB, Bool.and_eq_true, inB_iff] at this
  omega
theorem GOk.ch {g : Gth} (h : GOk g) {c : Chg} (hc : c ∈ g.chs) : (c.kind = 1 ∨ c.kind = 2 ∨ c.kind = 3) ∧ 0 ≤ c.pos ∧ c.pos ≤ g.leaves ∧ 0 ≤ c.many ∧ c.many ≤ 4 := by
  obtain ⟨hk, hr⟩ := chsErr_zero h.chs c hc
  simp only [kindB, Bool.or_eq_true, decide_eq_true_eq] at hk
  unfold rangeB at hr
  split at hr <;> simp only [Bool.and_eq_true, inB_iff, decide_eq_true_eq] at hr <;> refine ⟨by omega, by omega, by omega, by omega, by omega⟩

def errF (b : Bk) : Int := (checkF b).2.2
structure BOk (b : Bk) : Prop where
  signed : 0 ≤ b.signed ∧ b.signed ≤ 12
  len : 1 ≤ b.gs.length ∧ b.gs.length ≤ 30
  gs : ∀ g ∈ b.gs, GOk g
theorem errF_zero {b : Bk} (h : errF b = 0) : BOk b := by
  unfold errF checkF at h
  by_cases h1 : inB 0 12 b.signed = false
  · rw [if_pos h1] at h; simp at h
  rw [if_neg h1] at h
  by_cases h2 : inB 1 30 b.gs.length = false
  · rw [if_pos h2] at h; simp at h
  rw [if_neg h2] at h
  have h1' := inB_iff.1 (show inB 0 12 b.signed = true by simpa using h1)
  have h2' := inB_iff.1 (show inB 1 30 b.gs.length = true by simpa using h2)
  by_cases h3 : (gsErr [] (0, 0) 0 b.gs).2 = 0
  · exact ⟨h1', by omega, fun g hg => by obtain ⟨s, l, hz⟩ := gsErr_zero h3 g hg; exact gthErr_zero hz⟩
  · rw [if_neg h3] at h; exact absurd h h3

theorem lvsFrom_app : ∀ (xs ys : List Gth) (i : Nat), lvsFrom i (xs ++ ys) = lvsFrom i xs ++ lvsFrom (i + xs.length) ys
  | [], ys, i => by simp [lvsFrom]
  | x :: xs, ys, i => by
    simp only [List.cons_append, lvsFrom, lvsFrom_app xs ys (i + 1), List.append_assoc, List.length_cons]
    rw [show i + 1 + xs.length = i + (xs.length + 1) by omega]
theorem take_split {α : Type} {xs : List α} {k : Nat} {x : α} (h : xs[k]? = some x) : xs = xs.take k ++ x :: xs.drop (k + 1) ∧ xs.take (k + 1) = xs.take k ++ [x] := by
  obtain ⟨hk, rfl⟩ := List.getElem?_eq_some_iff.1 h
  exact ⟨by simp, by simp⟩
theorem lvsFrom_take {gs : List Gth} {k : Nat} {g : Gth} (h : gs[k]? = some g) : lvsFrom 0 (gs.take (k + 1)) = lvsFrom 0 (gs.take k) ++ lvsG k g := by
  have hk := (List.getElem?_eq_some_iff.1 h).1
  rw [(take_split h).2, lvsFrom_app]
  simp [lvsFrom, Nat.min_eq_left (Nat.le_of_lt hk)]
theorem lvs_split {gs : List Gth} {k : Nat} {g : Gth} (h : gs[k]? = some g) : ∃ rest, lvsFrom 0 gs = lvsFrom 0 (gs.take k) ++ (lvsG k g ++ rest) := by
  have hk := (List.getElem?_eq_some_iff.1 h).1
  refine ⟨lvsFrom (k + 1) (gs.drop (k + 1)), ?_⟩
  conv => lhs; rw [(take_split h).1]
  rw [lvsFrom_app]
  simp [lvsFrom, Nat.min_eq_left (Nat.le_of_lt hk)]
theorem lvsNum_mem {i k : Nat} {f : Fate} {x : Lf} (h : x ∈ lvsNum i k f) : x.gat = i ∧ x.num = k ∧ 0 ≤ x.plus ∧ (x.plus = 0 ∨ x.plus ≤ f.added) ∧ 0 ≤ x.kind ∧ x.kind ≤ 2 := by
  simp only [lvsNum, List.mem_append, List.mem_map, List.mem_range] at h
  rcases h with h | ⟨j, hj, rfl⟩
  · split at h
    · simp only [List.mem_singleton] at h
      subst h
      refine ⟨rfl, rfl, by simp, by simp, ?_, ?_⟩ <;> dsimp only <;> split <;> omega
    · cases h
  · exact ⟨rfl, rfl, by dsimp only; omega, by dsimp only; omega, by dsimp only; omega, by dsimp only; omega⟩
theorem lvsG_mem {i : Nat} {g : Gth} {x : Lf} (h : x ∈ lvsG i g) : x.gat = i ∧ 0 ≤ x.num ∧ x.num ≤ g.leaves ∧ 0 ≤ x.plus ∧ (x.plus = 0 ∨ ∃ n, x.plus ≤ (fateF g.chs n).added) := by
  simp only [lvsG, List.mem_flatMap, List.mem_range] at h
  obtain ⟨k, hk, h⟩ := h
  obtain ⟨h1, h2, h3, h4, -⟩ := lvsNum_mem h
  exact ⟨h1, by omega, by omega, h3, h4.imp id fun h => ⟨_, h⟩⟩
theorem lvsFrom_mem : ∀ {gs : List Gth} {i : Nat} {x : Lf}, x ∈ lvsFrom i gs → ∃ g, i ≤ x.gat ∧ gs[x.gat - i]? = some g ∧ x ∈ lvsG x.gat g
  | [], _, _, h => by cases h
  | g :: gs, i, x, h => by
    simp only [lvsFrom, List.mem_append] at h
    rcases h with h | h
    · have hx := (lvsG_mem h).1
      exact ⟨g, by omega, by rw [hx]; simp, by rw [hx]; exact h⟩
    · obtain ⟨g', h1, h2, h3⟩ := lvsFrom_mem h
      refine ⟨g', by omega, ?_, h3⟩
      rw [show x.gat - i = (x.gat - (i + 1)) + 1 by omega]
      simpa using h2
theorem lvs_mem {b : Bk} {x : Lf} (h : x ∈ lvs b) : ∃ g, b.gs[x.gat]? = some g ∧ x ∈ lvsG x.gat g := by
  obtain ⟨g, -, h2, h3⟩ := lvsFrom_mem h
  exact ⟨g, by simpa using h2, h3⟩
theorem lvsNum_len {i k : Nat} {f : Fate} : (lvsNum i k f).length ≤ 1 + f.added.toNat := by
  simp only [lvsNum, List.length_append, List.length_map, List.length_range]
  split <;> simp
theorem flatMap_len {α β : Type} {f : α → List β} {n : Nat} : ∀ {xs : List α}, (∀ x ∈ xs, (f x).length ≤ n) → (xs.flatMap f).length ≤ xs.length * n
  | [], _ => by simp
  | x :: xs, h => by
    have h1 := h x (by simp)
    have h2 := flatMap_len (xs := xs) fun y hy => h y (by simp [hy])
    simp only [List.flatMap_cons, List.length_append, List.length_cons, Nat.add_mul]
    omega
end Go.Proofs.YtlfglbnbenaghaaGreatDoor

/- Plain facts of the leaves of a book: their order, mates, signed leaves. Nothing of the program. -/
namespace Go.Proofs.YtlfglbnbenaghaaGreatDoor
set_option linter.unusedSimpArgs false
set_option linter.unusedVariables false

/-- The order of leaves: by gathering, Number, Plus. -/
def ltL (x y : Lf) : Prop := x.gat < y.gat ∨ (x.gat = y.gat ∧ (x.num < y.num ∨ (x.num = y.num ∧ x.plus < y.plus)))
theorem ltL_irr (x : Lf) : ¬ ltL x x := by unfold ltL; omega
theorem lvsNum_sorted (i k : Nat) (f : Fate) : (lvsNum i k f).Pairwise ltL := by
  unfold lvsNum
  rw [List.pairwise_append]
  refine ⟨?_, ?_, ?_⟩
  · split
    · exact List.pairwise_singleton _ _
    · exact List.Pairwise.nil
  · rw [List.pairwise_map]
    exact List.pairwise_lt_range.imp fun {a b} h => Or.inr ⟨rfl, Or.inr ⟨rfl, by dsimp only; omega⟩⟩
  · intro x hx y hy
    simp only [List.mem_map, List.mem_range] at hy
    obtain ⟨j, _, rfl⟩ := hy
    split at hx
    · simp only [List.mem_singleton] at hx
      subst hx
      exact Or.inr ⟨rfl, Or.inr ⟨rfl, by dsimp only; omega⟩⟩
    · cases hx
theorem lvsG_sorted (i : Nat) (g : Gth) : (lvsG i g).Pairwise ltL := by
  unfold lvsG
  rw [List.pairwise_flatMap]
  refine ⟨fun k _ => lvsNum_sorted _ _ _, List.pairwise_lt_range.imp fun {a b} h x hx y hy => ?_⟩
  obtain ⟨h1, h2, _⟩ := lvsNum_mem hx
  obtain ⟨h3, h4, _⟩ := lvsNum_mem hy
  exact Or.inr ⟨by rw [h1, h3], Or.inl (by rw [h2, h4]; omega)⟩
theorem lvsFrom_sorted : ∀ (gs : List Gth) (i : Nat), (lvsFrom i gs).Pairwise ltL
  | [], _ => List.Pairwise.nil
  | g :: gs, i => by
    unfold lvsFrom
    rw [List.pairwise_append]
    refine ⟨lvsG_sorted i g, lvsFrom_sorted gs (i + 1), fun x hx y hy => ?_⟩
    obtain ⟨g', h, _, _⟩ := lvsFrom_mem hy
    have := (lvsG_mem hx).1
    exact Or.inl (by omega)
theorem lvs_sorted (b : Bk) : (lvs b).Pairwise ltL := lvsFrom_sorted _ _
theorem sorted_lt {xs : List Lf} (h : xs.Pairwise ltL) {i j : Nat} {x y : Lf} (hi : xs[i]? = some x) (hj : xs[j]? = some y) (hij : i < j) : ltL x y := by
  obtain ⟨h1, rfl⟩ := List.getElem?_eq_some_iff.1 hi
  obtain ⟨h2, rfl⟩ := List.getElem?_eq_some_iff.1 hj
  exact List.pairwise_iff_getElem.1 h i j h1 h2 hij
theorem sorted_inj {xs : List Lf} (h : xs.Pairwise ltL) {i j : Nat} {x : Lf} (hi : xs[i]? = some x) (hj : xs[j]? = some x) : i = j := by
  rcases Nat.lt_trichotomy i j with h1 | h1 | h1
  · exact absurd (sorted_lt h hi hj h1) (ltL_irr x)
  · exact h1
  · exact absurd (sorted_lt h hj hi h1) (ltL_irr x)
theorem find_at {xs : List Lf} (h : xs.Pairwise ltL) {i : Nat} {x : Lf} (hi : xs[i]? = some x) : xs.findIdx? (fun y => decide (y = x)) = some i := by
  rw [List.findIdx?_eq_some_iff_getElem]
  obtain ⟨h1, h2⟩ := List.getElem?_eq_some_iff.1 hi
  refine ⟨h1, by simp [h2], fun j hj => ?_⟩
  have hjl : j < xs.length := by omega
  have hne : xs[j] ≠ x := fun e => by
    have := sorted_inj h (List.getElem?_eq_some_iff.2 ⟨hjl, e⟩) hi
    omega
  simp [hne]
theorem find_some {xs : List Lf} {x : Lf} {k : Nat} (h : xs.findIdx? (fun y => decide (y = x)) = some k) : xs[k]? = some x := by
  rw [List.findIdx?_eq_some_iff_getElem] at h
  obtain ⟨h1, h2, _⟩ := h
  rw [List.getElem?_eq_getElem h1]
  simpa using h2
theorem find_mem {xs : List Lf} {x : Lf} (h : x ∈ xs) : ∃ k, xs.findIdx? (fun y => decide (y = x)) = some k := by
  cases hf : xs.findIdx? (fun y => decide (y = x)) with
  | some k => exact ⟨k, rfl⟩
  | none =>
    rw [List.findIdx?_eq_none_iff] at hf
    have := hf x h
    simp at this

/-- The leaves of a gathering that nothing was changed of. -/
theorem lvsNum_plain (i k : Nat) : lvsNum i k (fateF [] k) = if 0 < k then [⟨i, k, 0, 0⟩] else [] := by
  unfold lvsNum fateF
  simp
theorem lvsG_plain {i : Nat} {g : Gth} (h : g.chs = []) {x : Lf} : x ∈ lvsG i g ↔ x.gat = i ∧ 1 ≤ x.num ∧ x.num ≤ g.leaves ∧ x.plus = 0 ∧ x.kind = 0 := by
  unfold lvsG
  rw [h]
  simp only [List.mem_flatMap, List.mem_range, lvsNum_plain]
  constructor
  · rintro ⟨k, hk, hx⟩
    split at hx
    · simp only [List.mem_singleton] at hx
      subst hx
      exact ⟨rfl, by dsimp only; omega, by dsimp only; omega, rfl, rfl⟩
    · cases hx
  · rintro ⟨h1, h2, h3, h4, h5⟩
    refine ⟨x.num.toNat, by omega, ?_⟩
    rw [if_pos (by omega), List.mem_singleton]
    obtain ⟨a, b, c, d⟩ := x
    dsimp only at *
    subst h1 h4 h5
    congr 1
    omega
theorem mem_lvsFrom : ∀ {gs : List Gth} {i k : Nat} {g : Gth} {x : Lf}, gs[k]? = some g → x ∈ lvsG (i + k) g → x ∈ lvsFrom i gs
  | [], _, _, _, _, h, _ => by cases h
  | g :: gs, i, 0, g', x, h, hx => by
    simp only [List.getElem?_cons_zero, Option.some.injEq] at h
    subst h
    unfold lvsFrom
    exact List.mem_append_left _ hx
  | g :: gs, i, k + 1, g', x, h, hx => by
    unfold lvsFrom
    refine List.mem_append_right _ (mem_lvsFrom (k := k) (by simpa using h) ?_)
    rwa [show i + 1 + k = i + (k + 1) by omega]
theorem mem_lvs {b : Bk} {k : Nat} {g : Gth} {x : Lf} (h : b.gs[k]? = some g) (hx : x ∈ lvsG k g) : x ∈ lvs b := mem_lvsFrom h (by rwa [Nat.zero_add])
end Go.Proofs.YtlfglbnbenaghaaGreatDoor

/- How changes, items and books are written, as plain Lean. -/
namespace Go.Proofs.YtlfglbnbenaghaaGreatDoor
set_option linter.unusedSimpArgs false
set_option linter.unusedVariables false

/-- How a change is written. -/
def chT (c : Chg) : List UInt8 := if c.kind = 1 then 45 :: dec c.pos else if c.kind = 2 then 61 :: dec c.pos else dec c.pos ++ 43 :: dec c.many
/-- Words with a byte between each two. -/
def joinB (s : UInt8) : List (List UInt8) → List UInt8
  | [] => []
  | [x] => x
  | x :: y :: xs => x ++ s :: joinB s (y :: xs)
def chsT (cs : List Chg) : List UInt8 := if cs = [] then [] else 40 :: joinB 44 (cs.map chT) ++ [41]

/-- An item of a formula: one gathering, or all from the first signature to the last. -/
structure Itm where
  kind : Int
  fr : Int
  fl : Int
  lr : Int
  ll : Int
  leaves : Int
  chs : List Chg
def itmT (x : Itm) : List UInt8 := (if x.kind = 1 then sigT x.fr x.fl ++ 45 :: sigT x.lr x.ll else sigT x.fr x.fl) ++ dec x.leaves ++ chsT x.chs
def formulaT (signed : Int) (xs : List Itm) : List UInt8 := (xs.flatMap fun x => itmT x ++ [32]) ++ 36 :: dec signed
/-- The signature behind a lettered one (of a place among all of them). -/
def nextS (r l : Int) : Int × Int := if l < 22 then (r, l + 1) else (r + 1, 0)
def takesB (x : Itm) (g : Gth) : Bool := decide (x.chs.length = 0) && decide (g.chs.length = 0) && decide (x.leaves = g.leaves) && decide (x.ll < 23) && decide (nextS x.lr x.ll = (g.round, g.letter))
def itm1 (g : Gth) : Itm := ⟨0, g.round, g.letter, g.round, g.letter, g.leaves, g.chs⟩
/-- One more gathering behind items. -/
def itmStep (xs : List Itm) (g : Gth) : List Itm := match xs.getLast? with
  | some x => if takesB x g then xs.dropLast ++ [{ x with kind := 1, lr := g.round, ll := g.letter }] else xs ++ [itm1 g]
  | none => [itm1 g]
def itmsOf (gs : List Gth) : List Itm := gs.foldl itmStep []
def writeF (b : Bk) : List UInt8 := formulaT b.signed (itmsOf b.gs)

theorem chT_len (c : Chg) : (chT c).length ≤ 5 := by
  have h1 := show (dec c.pos).length ≤ 2 by unfold dec decN; split <;> simp
  have h2 := show (dec c.many).length ≤ 2 by unfold dec decN; split <;> simp
  unfold chT
  split
  · simp; omega
  · split <;> simp <;> omega
theorem joinB_len {s : UInt8} {n : Nat} : ∀ {xs : List (List UInt8)}, (∀ x ∈ xs, x.length ≤ n) → (joinB s xs).length ≤ xs.length * (n + 1)
  | [], _ => by simp [joinB]
  | [x], h => by have := h x (by simp); simp [joinB]; omega
  | x :: y :: xs, h => by
    have h1 := h x (by simp)
    have h2 := joinB_len (s := s) (n := n) (xs := y :: xs) fun z hz => h z (List.mem_cons_of_mem _ hz)
    simp only [joinB, List.length_append, List.length_cons, Nat.add_mul] at *
    omega
theorem chsT_len {cs : List Chg} (h : cs.length ≤ 4) : (chsT cs).length ≤ 26 := by
  unfold chsT
  split
  · simp
  · have := joinB_len (s := 44) (n := 5) (xs := cs.map chT) fun x hx => by
      obtain ⟨c, -, rfl⟩ := List.mem_map.1 hx
      exact chT_len c
    simp only [List.length_map] at this
    simp
    omega

end Go.Proofs.YtlfglbnbenaghaaGreatDoor

/- The readers of formulas and leaves, as plain Lean. -/
namespace Go.Proofs.YtlfglbnbenaghaaGreatDoor
set_option linter.unusedSimpArgs false
set_option linter.unusedVariables false

abbrev Bs := List UInt8

/-- A word is read if it comes next. -/
def skipF (w s : Bs) : Option Bs := if w.isPrefixOf s then some (s.drop w.length) else none
def digitF : Bs → Option (Int × Bs)
  | c :: t => if 48 ≤ c.toNat ∧ c.toNat ≤ 57 then some ((c.toNat : Int) - 48, t) else none
  | [] => none
/-- The digits behind one that is not a zero: none of the numbers may be above 12. -/
def numF : Nat → Int → Bs → Option (Int × Bs)
  | 0, n, s => some (n, s)
  | f + 1, n, s => if n ≤ 0 then some (n, s) else match digitF s with
    | none => some (n, s)
    | some (d, t) => if 12 < 10 * n + d then none else numF f (10 * n + d) t
def numberF (s : Bs) : Option (Int × Bs) := match digitF s with
  | none => none
  | some (n, t) => numF 3 n t
def roundF (s : Bs) : Int × Bs := match skipF [50] s with
  | some t => (2, t)
  | none => match skipF [51] s with
    | some t => (3, t)
    | none => (1, s)
def letterAtF : List UInt8 → Int → Bs → Option (Int × Bs)
  | [], _, _ => none
  | c :: cs, i, s => match skipF [c] s with
    | some t => some (i, t)
    | none => letterAtF cs (i + 1) s
def letterF (s : Bs) : Option (Int × Bs) := match letterAtF letterL 0 s with
  | some r => some r
  | none => match skipF [112, 105] s with
    | some t => some (23, t)
    | none => match skipF [99, 104, 105] s with
      | some t => some (24, t)
      | none => none
def sigF (s : Bs) : Option ((Int × Int) × Bs) := match letterF (roundF s).2 with
  | some (l, t) => some (((roundF s).1, l), t)
  | none => none
def changeF (s : Bs) : Option (Chg × Bs) := match skipF [45] s with
  | some t => match numberF t with
    | some (n, u) => some (⟨1, n, 0⟩, u)
    | none => none
  | none => match skipF [61] s with
    | some t => match numberF t with
      | some (n, u) => some (⟨2, n, 0⟩, u)
      | none => none
    | none => match numberF s with
      | none => none
      | some (n, t) => match skipF [43] t with
        | none => none
        | some u => match numberF u with
          | none => none
          | some (m, v) => some (⟨3, n, m⟩, v)
/-- The changes behind the first one; f: how many there may be yet. -/
def moreF : Nat → List Chg → Bs → Option (List Chg × Bs)
  | 0, cs, s => match skipF [44] s with
    | some _ => none
    | none => match skipF [41] s with
      | some u => some (cs, u)
      | none => none
  | f + 1, cs, s => match skipF [44] s with
    | some t => match changeF t with
      | some (c, u) => moreF f (cs ++ [c]) u
      | none => none
    | none => match skipF [41] s with
      | some u => some (cs, u)
      | none => none
def changesF (s : Bs) : Option (List Chg × Bs) := match skipF [40] s with
  | none => some ([], s)
  | some t => match changeF t with
    | none => none
    | some (c, u) => moreF 3 [c] u
def itemF (s : Bs) : Option (Itm × Bs) := match sigF s with
  | none => none
  | some (a, t) => match skipF [45] t with
    | none => match numberF t with
      | none => none
      | some (n, u) => match changesF u with
        | none => none
        | some (cs, v) => some (⟨0, a.1, a.2, a.1, a.2, n, cs⟩, v)
    | some t => match sigF t with
      | none => none
      | some (z, u) => if a.2 < 23 ∧ z.2 < 23 ∧ behindB z.1 z.2 a.1 a.2 = true then match numberF u with
          | none => none
          | some (n, v) => some (⟨1, a.1, a.2, z.1, z.2, n, []⟩, v)
        else none
def itemsF : Nat → Bs → Option (List Itm × Bs)
  | 0, _ => none
  | f + 1, s => match skipF [36] s with
    | some t => some ([], t)
    | none => match itemF s with
      | none => none
      | some (x, t) => match skipF [32] t with
        | none => none
        | some u => match itemsF f u with
          | none => none
          | some (xs, v) => some (x :: xs, v)
/-- The signatures from one to another one. -/
def runS : Nat → Int × Int → Int × Int → List (Int × Int)
  | 0, s, _ => [s]
  | n + 1, s, l => if s = l then [s] else s :: runS n (nextS s.1 s.2) l
def rankS (r l : Int) : Int := (r - 1) * 23 + l
def itmGs (x : Itm) : List Gth := if x.kind = 0 then [⟨x.fr, x.fl, x.leaves, x.chs⟩] else (runS (rankS x.lr x.ll - rankS x.fr x.fl).toNat (x.fr, x.fl) (x.lr, x.ll)).map fun s => ⟨s.1, s.2, x.leaves, []⟩
def gsOf (xs : List Itm) : List Gth := xs.flatMap itmGs
def bookF (s : Bs) : Option (Bk × Bs) := match itemsF (s.length + 1) s with
  | none => none
  | some (xs, t) => match numberF t with
    | none => none
    | some (n, u) => some (⟨n, gsOf xs⟩, u)
/-- All of a text. -/
def allF {α : Type} (r : Option (α × Bs)) : Option α := match r with
  | some (x, []) => some x
  | _ => none
def readF (s : Bs) : Bk × Int := if 1000 < s.length then (⟨0, []⟩, 3) else match allF (bookF s) with
  | none => (⟨0, []⟩, 6)
  | some b => if errF b = 0 then (b, 0) else (⟨0, []⟩, 6)

/-- The name of a leaf. -/
def plusF (s : Bs) : Option (Int × Bs) := match skipF [43] s with
  | none => some (0, s)
  | some t => match numberF t with
    | none => none
    | some (p, u) => if p = 0 then none else some (p, u)
def leafNameF (s : Bs) : Option ((Int × Int × Int × Int) × Bs) := match sigF s with
  | none => none
  | some (a, t) => match numberF t with
    | none => none
    | some (n, u) => match plusF u with
      | none => none
      | some (p, v) => if possibleB n p = true then some ((a.1, a.2, n, p), v) else none

theorem skipF_len {w s t : Bs} (h : skipF w s = some t) : t.length + w.length = s.length := by
  unfold skipF at h
  split at h
  · rename_i hp
    have := (List.isPrefixOf_iff_prefix.1 hp).length_le
    cases h
    simp only [List.length_drop]
    omega
  · cases h
theorem digitF_len {s t : Bs} {n : Int} (h : digitF s = some (n, t)) : t.length + 1 = s.length ∧ 0 ≤ n ∧ n ≤ 9 := by
  cases s with
  | nil => cases h
  | cons c s =>
    simp only [digitF] at h
    split at h
    · simp only [Option.some.injEq, Prod.mk.injEq] at h
      obtain ⟨rfl, rfl⟩ := h
      refine ⟨rfl, by omega, by omega⟩
    · cases h
theorem numF_len : ∀ {f : Nat} {n m : Int} {s t : Bs}, numF f n s = some (m, t) → 0 ≤ n ∧ n ≤ 12 → t.length ≤ s.length ∧ 0 ≤ m ∧ m ≤ 12
  | 0, n, m, s, t, h, hn => by
    simp only [numF, Option.some.injEq, Prod.mk.injEq] at h
    obtain ⟨rfl, rfl⟩ := h
    exact ⟨Nat.le_refl _, hn⟩
  | f + 1, n, m, s, t, h, hn => by
    simp only [numF] at h
    split at h
    · simp only [Option.some.injEq, Prod.mk.injEq] at h
      obtain ⟨rfl, rfl⟩ := h
      exact ⟨Nat.le_refl _, hn⟩
    · split at h
      · simp only [Option.some.injEq, Prod.mk.injEq] at h
        obtain ⟨rfl, rfl⟩ := h
        exact ⟨Nat.le_refl _, hn⟩
      · rename_i d u hd
        split at h
        · cases h
        · have := digitF_len hd
          have := numF_len h (by omega)
          omega
theorem numberF_len {s t : Bs} {n : Int} (h : numberF s = some (n, t)) : t.length < s.length ∧ 0 ≤ n ∧ n ≤ 12 := by
  unfold numberF at h
  split at h
  · cases h
  · rename_i d u hd
    have := digitF_len hd
    have := numF_len h (by omega)
    omega
theorem roundF_len {s : Bs} : (roundF s).2.length ≤ s.length ∧ 1 ≤ (roundF s).1 ∧ (roundF s).1 ≤ 3 := by
  unfold roundF
  split
  · rename_i t h
    have := skipF_len h
    simp only [List.length_cons, List.length_nil] at this
    exact ⟨by simp; omega, by simp, by simp⟩
  · split
    · rename_i t h
      have := skipF_len h
      simp only [List.length_cons, List.length_nil] at this
      exact ⟨by simp; omega, by simp, by simp⟩
    · exact ⟨by simp, by simp, by simp⟩
theorem letterAtF_len : ∀ {cs : List UInt8} {i n : Int} {s t : Bs}, letterAtF cs i s = some (n, t) → t.length < s.length ∧ i ≤ n ∧ n < i + cs.length
  | [], _, _, _, _, h => by cases h
  | c :: cs, i, n, s, t, h => by
    simp only [letterAtF] at h
    split at h
    · rename_i u hu
      have := skipF_len hu
      simp only [Option.some.injEq, Prod.mk.injEq] at h
      obtain ⟨rfl, rfl⟩ := h
      simp only [List.length_cons, List.length_nil] at this ⊢
      omega
    · have := letterAtF_len h
      simp only [List.length_cons] at this ⊢
      omega
theorem letterF_len {s t : Bs} {n : Int} (h : letterF s = some (n, t)) : t.length < s.length ∧ 0 ≤ n ∧ n ≤ 24 := by
  unfold letterF at h
  split at h
  · rename_i r hr
    cases h
    have := letterAtF_len hr
    have e : letterL.length = 23 := rfl
    omega
  · split at h
    · rename_i u hu
      have := skipF_len hu
      simp only [Option.some.injEq, Prod.mk.injEq] at h
      obtain ⟨rfl, rfl⟩ := h
      simp only [List.length_cons, List.length_nil] at this
      omega
    · split at h
      · rename_i u hu
        have := skipF_len hu
        simp only [Option.some.injEq, Prod.mk.injEq] at h
        obtain ⟨rfl, rfl⟩ := h
        simp only [List.length_cons, List.length_nil] at this
        omega
      · cases h
theorem sigF_len {s t : Bs} {a : Int × Int} (h : sigF s = some (a, t)) : t.length < s.length ∧ sigB a.1 a.2 = true := by
  unfold sigF at h
  split at h
  · rename_i l u hu
    simp only [Option.some.injEq, Prod.mk.injEq] at h
    obtain ⟨rfl, rfl⟩ := h
    have h1 := letterF_len hu
    have h2 := roundF_len (s := s)
    refine ⟨by omega, ?_⟩
    simp only [sigB, inB, Bool.and_eq_true, decide_eq_true_eq]
    omega
  · cases h
/-- A change that is read: its numbers are at most 12. -/
def ChRead (c : Chg) : Prop := (c.kind = 1 ∨ c.kind = 2 ∨ c.kind = 3) ∧ 0 ≤ c.pos ∧ c.pos ≤ 12 ∧ 0 ≤ c.many ∧ c.many ≤ 12
theorem changeF_len {s t : Bs} {c : Chg} (h : changeF s = some (c, t)) : t.length < s.length ∧ ChRead c := by
  unfold changeF at h
  split at h
  · rename_i u hu
    have := skipF_len hu
    split at h
    · rename_i n v hn
      have := numberF_len hn
      simp only [Option.some.injEq, Prod.mk.injEq] at h
      obtain ⟨rfl, rfl⟩ := h
      simp only [List.length_cons, List.length_nil] at *
      exact ⟨by omega, Or.inl rfl, this.2.1, this.2.2, by simp, by simp⟩
    · cases h
  · split at h
    · rename_i u hu
      have := skipF_len hu
      split at h
      · rename_i n v hn
        have := numberF_len hn
        simp only [Option.some.injEq, Prod.mk.injEq] at h
        obtain ⟨rfl, rfl⟩ := h
        simp only [List.length_cons, List.length_nil] at *
        exact ⟨by omega, Or.inr (Or.inl rfl), this.2.1, this.2.2, by simp, by simp⟩
      · cases h
    · split at h
      · cases h
      · rename_i n v hn
        have h1 := numberF_len hn
        split at h
        · cases h
        · rename_i u hu
          have h2 := skipF_len hu
          split at h
          · cases h
          · rename_i m x hm
            have h3 := numberF_len hm
            simp only [Option.some.injEq, Prod.mk.injEq] at h
            obtain ⟨rfl, rfl⟩ := h
            simp only [List.length_cons, List.length_nil] at *
            exact ⟨by omega, Or.inr (Or.inr rfl), h1.2.1, h1.2.2, h3.2.1, h3.2.2⟩
theorem moreF_len : ∀ {f : Nat} {cs ds : List Chg} {s t : Bs}, moreF f cs s = some (ds, t) → (∀ c ∈ cs, ChRead c) → t.length < s.length ∧ (∀ c ∈ ds, ChRead c) ∧ ds.length ≤ cs.length + f ∧ cs.length ≤ ds.length
  | 0, cs, ds, s, t, h, hc => by
    simp only [moreF] at h
    split at h
    · cases h
    · split at h
      · rename_i u hu
        have := skipF_len hu
        simp only [Option.some.injEq, Prod.mk.injEq] at h
        obtain ⟨rfl, rfl⟩ := h
        simp only [List.length_cons, List.length_nil] at this
        exact ⟨by omega, hc, by omega, by omega⟩
      · cases h
  | f + 1, cs, ds, s, t, h, hc => by
    simp only [moreF] at h
    split at h
    · rename_i u hu
      have := skipF_len hu
      split at h
      · rename_i c v hv
        have h1 := changeF_len hv
        obtain ⟨h2, h3, h4, h5⟩ := moreF_len h (fun c' hc' => by
          rcases List.mem_append.1 hc' with h | h
          · exact hc _ h
          · simp only [List.mem_singleton] at h; subst h; exact h1.2)
        simp only [List.length_append, List.length_cons, List.length_nil] at *
        exact ⟨by omega, h3, by omega, by omega⟩
      · cases h
    · split at h
      · rename_i u hu
        have := skipF_len hu
        simp only [Option.some.injEq, Prod.mk.injEq] at h
        obtain ⟨rfl, rfl⟩ := h
        simp only [List.length_cons, List.length_nil] at this
        exact ⟨by omega, hc, by omega, by omega⟩
      · cases h
theorem changesF_len {s t : Bs} {cs : List Chg} (h : changesF s = some (cs, t)) : t.length ≤ s.length ∧ (∀ c ∈ cs, ChRead c) ∧ cs.length ≤ 4 := by
  unfold changesF at h
  split at h
  · simp only [Option.some.injEq, Prod.mk.injEq] at h
    obtain ⟨rfl, rfl⟩ := h
    exact ⟨Nat.le_refl _, (fun c hc => by cases hc), by simp⟩
  · rename_i u hu
    have := skipF_len hu
    split at h
    · cases h
    · rename_i c v hv
      have h1 := changeF_len hv
      obtain ⟨h2, h3, h4, -⟩ := moreF_len h (fun c' hc' => by simp only [List.mem_singleton] at hc'; subst hc'; exact h1.2)
      simp only [List.length_cons, List.length_nil] at *
      exact ⟨by omega, h3, by omega⟩
/-- An item that is read. -/
structure ItRead (x : Itm) : Prop where
  first : sigB x.fr x.fl = true
  last : sigB x.lr x.ll = true
  leaves : 0 ≤ x.leaves ∧ x.leaves ≤ 12
  few : x.chs.length ≤ 4
  chs : ∀ c ∈ x.chs, ChRead c
  kind : (x.kind = 0 ∧ x.fr = x.lr ∧ x.fl = x.ll) ∨ (x.kind = 1 ∧ x.fl < 23 ∧ x.ll < 23 ∧ behindB x.lr x.ll x.fr x.fl = true ∧ x.chs = [])
theorem itemF_len {s t : Bs} {x : Itm} (h : itemF s = some (x, t)) : t.length < s.length ∧ ItRead x := by
  unfold itemF at h
  split at h
  · cases h
  · rename_i a u hu
    have h1 := sigF_len hu
    split at h
    · split at h
      · cases h
      · rename_i n v hv
        have h2 := numberF_len hv
        split at h
        · cases h
        · rename_i cs y hy
          have h3 := changesF_len hy
          simp only [Option.some.injEq, Prod.mk.injEq] at h
          obtain ⟨rfl, rfl⟩ := h
          exact ⟨by omega, h1.2, h1.2, h2.2, h3.2.2, h3.2.1, Or.inl ⟨rfl, rfl, rfl⟩⟩
    · rename_i u2 hu2
      have := skipF_len hu2
      split at h
      · cases h
      · rename_i z v hv
        have h2 := sigF_len hv
        split at h
        · rename_i hc
          split at h
          · cases h
          · rename_i n y hy
            have h3 := numberF_len hy
            simp only [Option.some.injEq, Prod.mk.injEq] at h
            obtain ⟨rfl, rfl⟩ := h
            exact ⟨by omega, h1.2, h2.2, h3.2, by simp, (fun c hc => by cases hc), Or.inr ⟨rfl, hc.1, hc.2.1, hc.2.2, rfl⟩⟩
        · cases h
theorem itemsF_more : ∀ {f : Nat} {s : Bs} (g : Nat), s.length < f → itemsF (f + g) s = itemsF f s
  | 0, _, _, h => by omega
  | f + 1, s, g, h => by
    rw [show f + 1 + g = (f + g) + 1 by omega]
    simp only [itemsF]
    split
    · rfl
    · split
      · rfl
      · rename_i x t hx
        have h1 := itemF_len hx
        split
        · rfl
        · rename_i u hu
          have h2 := skipF_len hu
          rw [itemsF_more g (by omega)]
/-- What is left to read behind some items. -/
theorem itemsF_step {f : Nat} {s t u : Bs} {x : Itm} (h0 : skipF [36] s = none) (hx : itemF s = some (x, t)) (hu : skipF [32] t = some u) : itemsF (f + 1) s = (itemsF f u).map fun r => (x :: r.1, r.2) := by
  simp only [itemsF, h0, hx, hu]
  cases itemsF f u <;> rfl

end Go.Proofs.YtlfglbnbenaghaaGreatDoor
