/- The parts Ka, Da of the proof, joined. It holds without conditions of its own. -/
import Derived.Test.YtlekbddlemfokaaDoorRows
import Derived.WalkKit
import Derived.ProofKit
import Derived.LaidMore
import Derived.OpenShut
import Derived.Stop.Joined
import Derived.Carry
import Derived.SevenTiedAt
/- What the statements' frames share: the knob, and that the listed variables can stand as they are laid. -/
namespace Go.Proofs.YtlekbddlemfokaaDoor
set_option linter.unusedSimpArgs false
set_option linter.unusedVariables false
open Go.ChangeShapes Go.WideShapes Go.ChangeAt Go.RowKit

theorem own : ownKnob Tryd.prog.godebug = none := by kernel_rfl
abbrev laidVs {H : Type} : List (String × DataW H) := [("math/bits.deBruijn32tab", Rows.laid_math_bits_deBruijn32tab), ("math/bits.deBruijn64tab", Rows.laid_math_bits_deBruijn64tab), ("internal/strconv.uint64pow10", Rows.laid_internal_strconv_uint64pow10)]
theorem door_met (os : Os) (args : Array Value) : laidMetH Tryd.prog laidVs ((World.doorLaid Tryd.prog 400 os).forCall (fun _ _ => 0) ⟨#[], args, []⟩).memory :=
  laidMetH_of_parts3 (fuel := 8) (laidMet_of_run' 8 (by kernel_rfl) (by kernel_rfl)) (by kernel_rfl) (by kernel_rfl)

section
variable {H : Type} {enc : TypeId × Value → H} {P : Program}
/-- All arguments read behind the call as they did, if nothing that was there has turned. -/
theorem trodAll_below (hl : laidOutB P = true) {W W' : World} (hb : Below W.heap.size W W') :
    ∀ {ts : List TypeId} {vs : List Value} {ds : List (DataW H)} {ps : List MemPlace}, (ts.all fun t => P.readableRec t && decide (t < P.types.size)) = true →
      DataW.TrodAll enc P W 0 (fun _ => true) true ts vs ds ps → (∀ x ∈ ps, x.block < W.heap.size) → DataW.TrodAll enc P W' 0 (fun b => decide (b < W.heap.size)) true ts vs ds ps
  | [], [], [], _, _, h, _ => h
  | _ :: _, _ :: _, _ :: _, _, ha, h, hlt => by
    obtain ⟨p, q, h1, h2, rfl⟩ := h
    simp only [List.all_cons, Bool.and_eq_true, decide_eq_true_eq] at ha
    exact ⟨p, q, Below.trod hl ha.1.1 ha.1.2 h1 hb (fun x hx => hlt x (by simp [hx])), trodAll_below hl hb ha.2 h2 (fun x hx => hlt x (by simp [hx])), rfl⟩
  | [], _ :: _, _, _, _, h, _ => h.elim
  | [], [], _ :: _, _, _, h, _ => h.elim
  | _ :: _, [], _, _, _, h, _ => h.elim
  | _ :: _, _ :: _, [], _, _, h, _ => h.elim

/-- A law that returned true and turned nothing that was there keeps its statement. -/
theorem law_post {f : Func} {s : ChangeSpec} {W W' : World} {args : Array Value} {ds : List (DataW H)} {before : List MemPlace} {tb : TypeId} (hl : laidOutB P = true)
    (hW : DataW.Whole enc P f.params.toList s.vars false W args.toList ds [] before) (hv : s.vars = []) (hfn : s.fn H (ds ++ []) = { results := [.lit (.bool true)], args := ds, vars := [] })
    (hr : f.resultTypes = #[tb]) (ht : P.underlying tb = some .bool) (ha : (f.params.toList.all fun t => P.readableRec t && decide (t < P.types.size)) = true) (hb : Below W.heap.size W W') :
    s.post enc P f false true false false W args (.bool true) W' := by
  have hlt : ∀ x ∈ before, x.block < W.heap.size := fun x hx => by simpa using hW.lt x hx
  have hW' := hW
  obtain ⟨p, q, hA, hV, rfl, hfz, hnd⟩ := hW
  rw [hv] at hV
  obtain ⟨-, rfl⟩ := trodVars_none hV
  simp only [List.append_nil] at hlt hW'
  refine ⟨ds, [], p, [], p, [], hW', ?_, ?_, ?_, hb.frame _, fun h => by cases h⟩
  · rw [hr, hfn]
    exact trodAll_mk1 (shut_bool ht _)
  · rw [hfn]
    exact trodAll_below hl hb ha hA hlt
  · rw [hv, hfn]
    rfl
end
end Go.Proofs.YtlekbddlemfokaaDoor

/- The data of layer 1 as plain Lean, and what a Go function says of it. Nothing of the program. -/
namespace Go.Proofs.YtlekbddlemfokaaDoor
set_option linter.unusedSimpArgs false
set_option linter.unusedVariables false

structure Chg where
  kind : Int
  pos : Int
  many : Int
structure Gth where
  round : Int
  letter : Int
  leaves : Int
  chs : List Chg
structure Bk where
  signed : Int
  gs : List Gth

def inB (lo hi x : Int) : Bool := decide (lo ≤ x) && decide (x ≤ hi)
def sigB (r l : Int) : Bool := inB 1 3 r && inB 0 24 l
def behindB (r l r' l' : Int) : Bool := if r = r' then decide (l' < l) else decide (r' < r)
def foldedB (n : Int) : Bool := decide (n = 1) || (decide (n % 2 = 0) && inB 2 12 n)
def rangeB (c : Chg) (leaves : Int) : Bool := if c.kind = 3 then inB 0 leaves c.pos && inB 1 4 c.many else inB 1 leaves c.pos && decide (c.many = 0)
def orderB (b c : Chg) : Bool := if c.pos = b.pos then decide (c.kind = 3) && decide (b.kind ≠ 3) else decide (b.pos < c.pos)
def kindB (c : Chg) : Bool := decide (c.kind = 1) || decide (c.kind = 2) || decide (c.kind = 3)
/-- The error of the change behind another one (none: it is the first). -/
def chErr (leaves : Int) (prev : Option Chg) (c : Chg) : Int :=
  if kindB c = false then 6 else if rangeB c leaves = false then 7 else match prev with
    | none => 0
    | some p => if orderB p c = false then 2 else 0
/-- The first change with an error: its index and its error. -/
def chsErr (leaves : Int) : Option Chg → Nat → List Chg → Nat × Int
  | _, _, [] => (0, 0)
  | prev, i, c :: cs => if chErr leaves prev c = 0 then chsErr leaves (some c) (i + 1) cs else (i, chErr leaves prev c)
/-- The error of a gathering behind some signatures, the last lettered one of which is given. -/
def gthErr (seen : List (Int × Int)) (last : Int × Int) (g : Gth) : Int :=
  if sigB g.round g.letter = false then 7
  else if (g.round, g.letter) ∈ seen then 5
  else if g.letter < 23 ∧ behindB g.round g.letter last.1 last.2 = false then 2
  else if foldedB g.leaves = false then 7
  else if 4 < g.chs.length then 3
  else (chsErr g.leaves none 0 g.chs).2
def lastOf (last : Int × Int) (g : Gth) : Int × Int := if g.letter < 23 then (g.round, g.letter) else last
def gsErr : List (Int × Int) → Int × Int → Nat → List Gth → Nat × Int
  | _, _, _, [] => (0, 0)
  | seen, last, i, g :: gs => if gthErr seen last g = 0 then gsErr (seen ++ [(g.round, g.letter)]) (lastOf last g) (i + 1) gs else (i, gthErr seen last g)
/-- Check: part, index, error. -/
def checkF (b : Bk) : Nat × Nat × Int :=
  if inB 0 12 b.signed = false then (1, 0, 7)
  else if inB 1 30 b.gs.length = false then (1, 0, 3)
  else if (gsErr [] (0, 0) 0 b.gs).2 = 0 then (0, 0, 0) else (2, (gsErr [] (0, 0) 0 b.gs).1, (gsErr [] (0, 0) 0 b.gs).2)

/-- The letters of signatures, and how signatures and numbers below a hundred are written. -/
def letterL : List UInt8 := [65, 66, 67, 68, 69, 70, 71, 72, 73, 75, 76, 77, 78, 79, 80, 81, 82, 83, 84, 86, 88, 89, 90]
def letterT (l : Int) : List UInt8 := if l = 23 then [112, 105] else if l = 24 then [99, 104, 105] else [letterL.getD l.toNat 0]
def decN (n : Nat) : List UInt8 := if n < 10 then [UInt8.ofNat (48 + n)] else [UInt8.ofNat (48 + n / 10), UInt8.ofNat (48 + n % 10)]
def dec (n : Int) : List UInt8 := decN n.toNat
def sigT (r l : Int) : List UInt8 := (if 1 < r then dec r else []) ++ letterT l
/-- How a leaf is written. -/
def nameT (r l n p : Int) : List UInt8 := sigT r l ++ dec n ++ if 0 < p then 43 :: dec p else []
/-- Whether some book has a leaf with this number and Plus. -/
def possibleB (n p : Int) : Bool := !(decide (n = 0) && decide (p = 0)) && inB 0 12 n && inB 0 4 p

end Go.Proofs.YtlekbddlemfokaaDoor
