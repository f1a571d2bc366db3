/- The parts Ka, Va, Vb, Vc, Vd, Ve, Vf, Vg, Vh, Vi of the proof, joined. It holds without conditions of its own. -/
import Derived.Test.YtpdhdgdbknnllaaGreatDoorRows
import Derived.WalkKit
import Derived.ProofKit
import Derived.LaidMore
import Derived.OpenShut
import Derived.Stop.Joined
import Derived.Carry
import Derived.SevenTiedAt
import GoSem.Dispatch
import GoSem.Machine.Return
import Derived.Orders
import Derived.CallsIn
import Derived.Below
import Derived.Deep.Draws
import Derived.IntWalk
set_option maxRecDepth 100000
set_option maxHeartbeats 20000000
namespace Go.Proofs.YtpdhdgdbknnllaaGreatDoor
section
set_option linter.unusedSimpArgs false
set_option linter.unusedVariables false
open Go.ChangeShapes Go.WideShapes Go.ChangeAt Go.RowKit
theorem own : ownKnob Tryz.prog.godebug = none := by kernel_rfl
abbrev laidVs {H : Type} : List (String × DataW H) := [("math/bits.deBruijn64tab", Rows.laid_math_bits_deBruijn64tab)]
theorem door_met (os : Os) (args : Array Value) : laidMetH Tryz.prog laidVs ((World.doorLaid Tryz.prog 400 os).forCall (fun _ _ => 0) ⟨#[], args, []⟩).memory :=
 laidMetH_of_parts3 (fuel := 8) (laidMet_of_run' 8 (by kernel_rfl) (by kernel_rfl)) (by kernel_rfl) (by kernel_rfl)
section
variable {H : Type} {enc : TypeId × Value -> H} {P : Program}
theorem trodAll_below (hl : laidOutB P = true) {W W' : World} (hb : Below W.heap.size W W') :
  ∀ {ts : List TypeId} {vs : List Value} {ds : List (DataW H)} {ps : List MemPlace}, (ts.all fun t => P.readableRec t && decide (t < P.types.size)) = true ->
    DataW.TrodAll enc P W 0 (fun _ => true) true ts vs ds ps -> (∀ x ∈ ps, x.block < W.heap.size) -> DataW.TrodAll enc P W' 0 (fun b => decide (b < W.heap.size)) true ts vs ds ps
 | [], [], [], _, _, h, _ => h
 | _ :: _, _ :: _, _ :: _, _, ha, h, hlt => by
   obtain ⟨p, q, h1, h2, rfl⟩ := h
   simp only [List.all_cons, Bool.and_eq_true, decide_eq_true_eq] at ha
   exact ⟨p, q, Below.trod hl ha.1.1 ha.1.2 h1 hb (fun x hx => hlt x (by simp [hx])), trodAll_below hl hb ha.2 h2 (fun x hx => hlt x (by simp [hx])), rfl⟩
 | [], _ :: _, _, _, _, h, _ => h.elim
 | [], [], _ :: _, _, _, h, _ => h.elim
 | _ :: _, [], _, _, _, h, _ => h.elim
 | _ :: _, _ :: _, [], _, _, h, _ => h.elim
theorem law_post {f : Func} {s : ChangeSpec} {W W' : World} {args : Array Value} {ds : List (DataW H)} {before : List MemPlace} {tb : TypeId} (hl : laidOutB P = true)
  (hW : DataW.Whole enc P f.params.toList s.vars false W args.toList ds [] before) (hv : s.vars = []) (hfn : s.fn H (ds ++ []) = { results := [.lit (.bool true)], args := ds, vars := [] })
  (hr : f.resultTypes = #[tb]) (ht : P.underlying tb = some .bool) (ha : (f.params.toList.all fun t => P.readableRec t && decide (t < P.types.size)) = true) (hb : Below W.heap.size W W') :
  s.post enc P f false true false false W args (.bool true) W' := by
 have hlt : ∀ x ∈ before, x.block < W.heap.size := fun x hx => by simpa using hW.lt x hx
 have hW' := hW
 obtain ⟨p, q, hA, hV, rfl, hfz, hnd⟩ := hW
 rw [hv] at hV
 obtain ⟨-, rfl⟩ := trodVars_none hV
 simp only [List.append_nil] at hlt hW'
 refine ⟨ds, [], p, [], p, [], hW', ?_, ?_, ?_, hb.frame _, fun h => by cases h⟩
 · rw [hr, hfn]
   exact trodAll_mk1 (shut_bool ht _)
 · rw [hfn]
   exact trodAll_below hl hb ha hA hlt
 · rw [hv, hfn]
   rfl
end
end
section
set_option linter.unusedSimpArgs false
set_option linter.unusedVariables false
open Go
noncomputable section
inductive Tr (α : Type) where
 | leaf
 | node (l : Tr α) (v : Option α) (r : Tr α)
namespace Tr
variable {α : Type}
def br {β : Type} (b : Bool) (x y : β) : β := @Bool.rec (fun _ => β) y x b
def pathF (f : Nat) : Nat -> List Bool :=
 @Nat.rec (fun _ => Nat -> List Bool) (fun _ => []) (fun _ ih n => br (Nat.beq n 0) [] (Nat.beq (Nat.mod n 2) 1 :: ih (Nat.div (Nat.pred n) 2))) f
def path (n : Nat) : List Bool := pathF (Nat.succ n) n
def getP (p : List Bool) : Tr α -> Option α :=
 @List.rec Bool (fun _ => Tr α -> Option α) (fun t => @Tr.rec α (fun _ => Option α) none (fun _ v _ _ _ => v) t)
  (fun b _ ih t => @Tr.rec α (fun _ => Option α) none (fun l _ r _ _ => br b (ih l) (ih r)) t) p
def get (t : Tr α) (n : Nat) : Option α := getP (path n) t
def setK {β : Type} (x : Option α) (p : List Bool) : Tr α -> (Tr α -> β) -> β :=
 @List.rec Bool (fun _ => Tr α -> (Tr α -> β) -> β) (fun t k => @Tr.rec α (fun _ => β) (k (.node .leaf x .leaf)) (fun l _ r _ _ => k (.node l x r)) t)
  (fun b _ ih t k => @Tr.rec α (fun _ => β) (br b (ih .leaf fun t' => k (.node t' none .leaf)) (ih .leaf fun t' => k (.node .leaf none t')))
   (fun l v r _ _ => br b (ih l fun t' => k (.node t' v r)) (ih r fun t' => k (.node l v t'))) t) p
def set (t : Tr α) (n : Nat) (x : Option α) : Tr α := setK x (path n) t id
def ofList : List α -> Nat -> Tr α -> Tr α
 | [], _, t => t
 | x :: xs, i, t => setK (some x) (path i) t fun t' => ofList xs (i + 1) t'
end Tr
inductive V where
 | lit (v : Value)
 | ptr (b off : Nat)
 | slc (b off len cap : Nat) (hid : Bool)
 | map (b : Nat)
 | fn (f : FuncId) (first captured : List V)
 | yld (l : Nat)
 | agg (cs : List V)
 | tup (vs : List V)
 | any
inductive Ob where
 | cells (c : List V) (elem : TypeId)
 | map (es : List (Value × V × Nat)) (clock : Nat)
 | siter (s : ByteArray) (pos : Nat)
 | miter (m clk : Nat)
 | mat (m clk stamp : Nat)
 | loop (st : LoopState) (pend : Option Code) (t : Tr V) (sz : Nat) (params : List Tmp) (assign body : Code) (dfr : Nat)
 | dfr (opn : Bool)
abbrev E (α : Type) := Except String α
def eb {α β : Type} (x : E α) (f : α -> E β) : E β := @Except.rec String α (fun _ => E β) (fun e => .error e) f x
def eo {α β : Type} (x : Option α) (e : String) (f : α -> E β) : E β := @Option.rec α (fun _ => E β) (.error e) f x
def ec {β : Type} (c : Bool) (e : String) (f : E β) : E β := @Bool.rec (fun _ => E β) (.error e) f c
structure H where
 n : Nat
 p : Nat
 x : Nat
 m : Tr Ob
def fNat {β : Type} (n : Nat) (k : Nat -> β) : β := @Nat.rec (fun _ => β) (k 0) (fun m _ => k (Nat.succ m)) n
def fInt {β : Type} (n : Int) (k : Int -> β) : β := @Int.rec (fun _ => β) (fun m => fNat m fun m => k (.ofNat m)) (fun m => fNat m fun m => k (.negSucc m)) n
def fBool {β : Type} (b : Bool) (k : Bool -> β) : β := @Bool.rec (fun _ => β) (k false) (k true) b
def fVal {β : Type} (v : Value) (k : Value -> β) : β :=
 match v with
 | .int q n => fInt n fun n => k (.int q n)
 | .bool b => fBool b fun b => k (.bool b)
 | v => k v
def fV {β : Type} (v : V) (k : V -> β) : β :=
 match v with
 | .lit v => fVal v fun v => k (.lit v)
 | .ptr b off => fNat b fun b => fNat off fun off => k (.ptr b off)
 | .slc b off len cap hid => fNat b fun b => fNat off fun off => fNat len fun len => fNat cap fun cap => fBool hid fun hid => k (.slc b off len cap hid)
 | .map b => fNat b fun b => k (.map b)
 | .agg cs => fVs cs fun cs => k (.agg cs)
 | .tup cs => fVs cs fun cs => k (.tup cs)
 | .yld l => fNat l fun l => k (.yld l)
 | .fn f x y => k (.fn f x y)
 | .any => k .any
 where fVs {β : Type} (l : List V) (k : List V -> β) : β :=
 match l with
 | [] => k []
 | .lit v :: r => fVal v fun v => fVs r fun r => k (.lit v :: r)
 | .ptr b off :: r => fNat b fun b => fNat off fun off => fVs r fun r => k (.ptr b off :: r)
 | .slc b off len cap hid :: r => fNat b fun b => fNat off fun off => fNat len fun len => fNat cap fun cap => fBool hid fun hid => fVs r fun r => k (.slc b off len cap hid :: r)
 | v :: r => fVs r fun r => k (v :: r)
def H.get (h : H) (b : Nat) : Option Ob := h.m.get b
def H.set (h : H) (b : Nat) (o : Option Ob) : E H := @H.rec (fun _ => E H) (fun n p x m => ec (or (Nat.ble p b) (Nat.beq b x)) "protected" (Tr.setK o (Tr.path b) m fun m => .ok ⟨n, p, x, m⟩)) h
def H.newK {β : Type} (h : H) (o : Ob) (k : Nat -> H -> β) : β := @H.rec (fun _ => β) (fun n p x m => fNat n fun n => Tr.setK (some o) (Tr.path n) m fun m => k n ⟨Nat.succ n, p, x, m⟩) h
structure Fr where
 t : Tr V
 sz : Nat
 df : List Nat
 gl : Nat
def uV : V := .lit undef
def Fr.put (a : Fr) (d : Option Tmp) (v : V) : Fr :=
 match d with
 | none => a
 | some d => Tr.br (Nat.blt d a.sz) ⟨a.t.set d (some v), a.sz, a.df, a.gl⟩ a
def Fr.putK {β : Type} (a : Fr) (d : Option Tmp) (v : V) (k : Fr -> β) : β :=
 @Fr.rec (fun _ => β) (fun t sz df gl => @Option.rec Tmp (fun _ => β) (k ⟨t, sz, df, gl⟩)
  (fun d => Tr.br (Nat.blt d sz) (fV v fun v => Tr.setK (some v) (Tr.path d) t fun t => k ⟨t, sz, df, gl⟩) (k ⟨t, sz, df, gl⟩)) d) a
def ofV : Value -> V
 | .agg cs => .agg (cs.toList.map .lit)
 | v => .lit v
def V.cells : V -> List V
 | .agg cs => cs
 | .lit (.agg cs) => cs.toList.map .lit
 | v => [v]
def lits : List V -> Option (List Value)
 | [] => some []
 | .lit v :: r => match lits r with | some l => some (v :: l) | none => none
 | _ :: _ => none
def V.plain : V -> Option Value
 | .lit v => some v
 | .agg cs => match lits cs with | some l => some (.agg l.toArray) | none => none
 | _ => none
def V.scalar : V -> Bool
 | .agg _ => false
 | .tup _ => false
 | .lit (.agg _) => false
 | .lit (.tuple _) => false
 | _ => true
def plains : List V -> Option (List Value)
 | [] => some []
 | v :: r => match v.plain, plains r with | some x, some l => some (x :: l) | _, _ => none
def knV : V -> E V
 | .any => .error "unknown"
 | v => .ok v
def gotV (x : Option V) : E V := @Option.rec V (fun _ => E V) (.ok uV) knV x
def evTab (x : Operand) : Fr -> E V := @Operand.rec (fun _ => Fr -> E V) (fun i a => gotV (a.t.get i)) (fun v _ => .ok (ofV v)) (fun g a => ec (Nat.blt g a.gl) "variable" (.ok (.ptr g 0))) (fun f _ => .ok (.fn f [] [])) x
def ev (a : Fr) (x : Operand) : E V := evTab x a
def evs (a : Fr) : List Operand -> E (List V)
 | [] => .ok []
 | x :: xs => eb (ev a x) fun v => eb (evs a xs) fun vs => .ok (v :: vs)
def prun (P : Program) {α : Type} : Sem α -> Option α
 | .pure a => some a
 | .program k => prun P (k P)
 | .mark _ k => prun P k
 | _ => none
section ops
variable (P : Program)
def isAggT (t : TypeId) : Option Bool :=
 match P.underlying t with
 | some (.struct _) => some true
 | some (.array _ _) => some true
 | some _ => some false
 | none => none
def sizeT (t : TypeId) : Option Nat := match P.info? t with | some i => some i.size | none => none
def bytesT (t : TypeId) : Option Nat := match P.info? t with | some i => some i.bytes | none => none
def zeroT (t : TypeId) : Option V := match P.info? t with | some i => (match i.zero with | some z => some (ofV z) | none => none) | none => none
def takeN (c : List V) (off n : Nat) : Option (List V) := let r := (c.drop off).take n; if Nat.beq r.length n then some r else none
def over : List V -> Nat -> List V -> Option (List V)
 | c, 0, [] => some c
 | _ :: c, 0, v :: vs => match over c 0 vs with | some r => some (v :: r) | none => none
 | x :: c, i + 1, vs => match over c i vs with | some r => some (x :: r) | none => none
 | [], _, _ => none
def partT (t : TypeId) (cs : List V) (off : Nat) : E V :=
 eo (isAggT P t) "type" fun
  | true => eo (sizeT P t) "size" fun s => .ok (.agg ((cs.drop off).take s))
  | false => eo cs[off]? "part" fun v => .ok v
def opLoad (t : TypeId) (h : H) : V -> E V
 | .ptr b off => match h.get b with
   | some (.cells c _) => eo (isAggT P t) "type" fun
     | true => eo (sizeT P t) "size" fun s => eo (takeN c off s) "load cells" fun r => .ok (.agg r)
     | false => eo c[off]? "load cell" fun v => .ok v
   | _ => .error "load block"
 | _ => .error "load address"
def opStoreAt (h : H) (b off : Nat) (vs : List V) : E H :=
 match h.get b with
 | some (.cells c e) => ec (vs.all V.scalar) "scalar" (fV.fVs vs fun vs => eo (over c off vs) "store cells" fun c' => h.set b (some (.cells c' e)))
 | _ => .error "store block"
def opStore (t : TypeId) (h : H) (a v : V) : E H :=
 match a with
 | .ptr b off => eo (sizeT P t) "size" fun s => ec (Nat.beq v.cells.length s) "store size" (opStoreAt h b off v.cells)
 | _ => .error "store address"
def scalars (vs : List V) : Bool := vs.all V.scalar
def opNew (h : H) (elem : TypeId) (cs : List V) : E (Nat × H) := ec (scalars cs) "scalar" (fV.fVs cs fun cs => h.newK (.cells cs elem) fun b h' => .ok (b, h'))
def fillT (place : Nat -> Option (Nat × Nat)) : List V -> List (Nat × V) -> E (List V)
 | cs, [] => .ok cs
 | cs, (i, v) :: rest => eo (place i) "place" fun (off, size) => ec (Nat.beq v.cells.length size) "parts size" (eo (over cs off v.cells) "part" fun cs' => fillT place cs' rest)
def fieldsOf (t : TypeId) : E (List Field) := match P.underlying t with | some (.struct fs) => .ok fs.toList | _ => .error "struct"
def placesT : List Field -> Option (List (Nat × Nat))
 | [] => some []
 | f :: fs => match sizeT P f.type, placesT fs with
   | some s, some l => some ((f.offset, s) :: l)
   | _, _ => none
def placesOf (t : TypeId) : Option (List (Nat × Nat)) :=
 match P.underlying t with
 | some (.struct fs) => placesT P fs.toList
 | _ => none
def opBuild (t : TypeId) (parts : List (Nat × V)) : E V :=
 eo (zeroT P t) "zero" fun z =>
  match P.underlying t with
  | some (.struct _) => eo (placesOf P t) "places" fun pl => eb (fillT (fun i => pl[i]?) z.cells parts) fun cs => .ok (.agg cs)
  | some (.array _ e) => eo (sizeT P e) "size" fun s => eb (fillT (fun i => some (i * s, s)) z.cells parts) fun cs => .ok (.agg cs)
  | _ => .error "build"
def repeatC : Nat -> List V -> List V
 | 0, _ => []
 | n + 1, z => z ++ repeatC n z
def opBuildSlice (t : TypeId) (len : Nat) (parts : List (Nat × V)) (h : H) : E (V × H) :=
 match P.underlying t with
 | some (.slice e) => eo (sizeT P e) "size" fun s => eo (zeroT P e) "zero" fun z => ec (Nat.blt (len * s) 100000 && Nat.blt 0 s && Nat.beq z.cells.length s) "large" (eb (fillT (fun i => some (i * s, s)) (repeatC len z.cells) parts) fun cs =>
  eb (opNew h e cs) fun (b, h') => .ok (.slc b 0 len len false, h'))
 | _ => .error "buildSlice"
def asN : V -> E Nat
 | .lit (.int .i64 n) => if n < 0 then .error "negative" else .ok n.toNat
 | _ => .error "int"
def opMakeSlice (t : TypeId) (l c : V) (h : H) : E (V × H) :=
 match P.underlying t with
 | some (.slice e) => eb (asN l) fun l => eb (asN c) fun c => eo (sizeT P e) "size" fun s => eo (bytesT P e) "bytes" fun by_ => eo (zeroT P e) "zero" fun z =>
  ec (Nat.ble l c && Nat.blt (c * by_) 1000000 && Nat.blt c 1000000 && Nat.blt 0 s && Nat.beq z.cells.length s) "large" (eb (opNew h e (repeatC c z.cells)) fun (b, h') => .ok (.slc b 0 l c false, h'))
 | _ => .error "makeSlice"
def opFieldAddr (s : TypeId) (f : Nat) : V -> E V
 | .ptr b off => eb (fieldsOf P s) fun fs => eo fs[f]? "field" fun f => eo (sizeT P f.type) "size" fun z => ec (Nat.blt 0 z) "no cells" (.ok (.ptr b (off + f.offset)))
 | _ => .error "fieldAddr"
def opField (s : TypeId) (f : Nat) : V -> E V
 | .agg cs => eb (fieldsOf P s) fun fs => eo fs[f]? "field" fun f => partT P f.type cs f.offset
 | _ => .error "field"
def idx : V -> E Nat
 | .lit (.int _ n) => if n < 0 then .error "index below 0" else .ok n.toNat
 | _ => .error "index"
def opIndexAddr (t : TypeId) (x i : V) : E V :=
 eb (idx i) fun i =>
  match P.underlying t, x with
  | some (.array n e), .ptr b off => eo (sizeT P e) "size" fun s => ec (Nat.blt i n) "bound" (.ok (.ptr b (off + i * s)))
  | some (.slice e), .slc b off len _ _ => eo (sizeT P e) "size" fun s => ec (Nat.blt i len) "bound" (.ok (.ptr b (off + i * s)))
  | _, _ => .error "indexAddr"
def opIndex (t : TypeId) (x i : V) : E V :=
 match P.underlying t, x with
 | some (.array n e), .agg cs => eb (idx i) fun i => eo (sizeT P e) "size" fun s => ec (Nat.blt i n) "bound" (partT P e cs (i * s))
 | _, .lit s => match i.plain with
   | some i => eo (prun P (Instr.index t s i)) "index" fun v => .ok (.lit v)
   | none => .error "index"
 | _, _ => .error "index"
def bound (y : Nat) : Option V -> Nat -> E Nat
 | none, d => .ok d
 | some v, _ => eb (idx v) fun i => ec (Nat.ble i y) "slice bound" (.ok i)
def plainO : Option V -> Option (Option Value)
 | none => some none
 | some v => match v.plain with | some x => some (some x) | none => none
def opSliceS (t : TypeId) (s : Value) (lo hi mx : Option V) : E V :=
 match mx with
 | some _ => .error "slice"
 | none => eo (plainO lo) "low" fun lo => eo (plainO hi) "high" fun hi => eo (prun P (Instr.slice t s lo hi none)) "slice" fun v => .ok (.lit v)
def opSliceL (e : TypeId) (b off len cap : Nat) (hid : Bool) (lo hi mx : Option V) : E V :=
 eb (bound cap mx cap) fun m => eb (bound m hi len) fun h => eb (bound h lo 0) fun l => eo (sizeT P e) "size" fun s =>
  match mx with
  | some _ => .ok (.slc b (Tr.br (Nat.beq m l) off (off + l * s)) (h - l) (m - l) false)
  | none => ec (and (or (not (and (Nat.beq m l) hid)) (Nat.beq l 0)) (Nat.ble l m)) "slice its end" (.ok (.slc b (Tr.br (Nat.beq m l) off (off + l * s)) (h - l) (m - l) hid))
def opSliceA (e : TypeId) (n b off : Nat) (lo hi mx : Option V) : E V :=
 eb (bound n mx n) fun m => eb (bound m hi n) fun h => eb (bound h lo 0) fun l => eo (sizeT P e) "size" fun s =>
  .ok (.slc b (Tr.br (Nat.beq m l) off (off + l * s)) (h - l) (m - l) false)
def opSlice (t : TypeId) (x : V) (lo hi mx : Option V) : E V :=
 ec (or mx.isNone hi.isSome) "max without high" (
 match P.underlying t, x with
 | some (.slice e), .slc b off len cap hid => opSliceL P e b off len cap hid lo hi mx
 | some (.array n e), .ptr b off => opSliceA P e n b off lo hi mx
 | some .string, .lit s => opSliceS P t s lo hi mx
 | some (.slice _), .lit s => opSliceS P t s lo hi mx
 | _, _ => .error "slice")
def findK (em : Bool) (kt : TypeId) (k : Value) (es : List (Value × V × Nat)) : Option (Option Nat) :=
 match prun P (do Instr.checkKey em 10000 kt k; Instr.findKey kt k (es.map fun e => { key := e.1, val := undef, born := e.2.2 })) with
 | some (some r) => some (some r.1)
 | some none => some none
 | none => none
def opLookup (t : TypeId) (x i : V) (ok : Bool) (h : H) : E V :=
 match P.underlying t with
 | some (.map kt e) => eo i.plain "key" fun k => eo (zeroT P e) "zero" fun z =>
   eb (match x with
    | .map b => (match h.get b with | some (.map es _) => .ok es | _ => .error "lookup block")
    | .lit (.map none) => .ok []
    | _ => .error "lookup map") fun es =>
   eo (findK P es.isEmpty kt k es) "findKey" fun
    | some j => eo es[j]? "entry" fun e => .ok (if ok then .tup [e.2.1, .lit (.bool true)] else e.2.1)
    | none => .ok (if ok then .tup [z, .lit (.bool false)] else z)
 | _ => .error "lookup type"
def setNth {α : Type} : List α -> Nat -> α -> List α
 | [], _, _ => []
 | _ :: l, 0, y => y :: l
 | x :: l, i + 1, y => x :: setNth l i y
def opMapUpdate (t : TypeId) (x k v : V) (h : H) : E H :=
 match P.underlying t, x with
 | some (.map kt _), .map b => eo k.plain "key" fun k =>
   match h.get b with
   | some (.map es clock) => eo (findK P false kt k es) "findKey" fun
     | some j => eo es[j]? "entry" fun e => ec (Instr.sameBits 10000 e.1 k) "key" (h.set b (some (.map (setNth es j (k, v, e.2.2)) clock)))
     | none => h.set b (some (.map (es ++ [(k, v, clock)]) (clock + 1)))
   | _ => .error "mapUpdate block"
 | _, _ => .error "mapUpdate"
def opRange (t : TypeId) (x : V) (h : H) : E (V × H) :=
 match P.underlying t, x with
 | some .string, .lit (.string s) => h.newK (.siter s 0) fun b h' => .ok (.ptr b 0, h')
 | some (.map _ _), .map b => match h.get b with
   | some (.map _ clock) => h.newK (.miter b clock) fun i h' => .ok (.ptr i 0, h')
   | _ => .error "range block"
 | _, _ => .error "range"
def opNext (it : V) (isString : Bool) (h : H) : E (V × H) :=
 match it, isString with
 | .ptr b 0, true => match h.get b with
   | some (.siter s pos) => if Nat.blt pos s.size then (let r := Utf8.decode s pos; eb (h.set b (some (.siter s (pos + r.2)))) fun h' => .ok (.tup [.lit (.bool true), .lit (goInt pos), .lit (.int .i32 r.1)], h'))
     else .ok (.tup [.lit (.bool false)], h)
   | _ => .error "next block"
 | _, _ => .error "next"
def findB (s : Nat) : List (Value × V × Nat) -> Option (Value × V × Nat)
 | [] => none
 | q :: es => match Nat.beq q.2.2 s with | true => some q | false => findB s es
def opEntry (it : V) (h : H) : E V :=
 match it with
 | .ptr b 0 => match h.get b with
   | some (.mat m clk s) => match h.get m with
     | some (.map es c) => ec (Nat.beq c clk) "entry" (eo (findB s es) "entry" fun q => .ok (.tup [.lit q.1, q.2.1]))
     | _ => .error "entry map"
   | _ => .error "entry block"
 | _ => .error "entry"
def opExtract (x : V) (i : Nat) : E V :=
 match x with
 | .tup vs => eo vs[i]? "extract" fun v => .ok v
 | _ => .error "extract"
def lenV : V -> E Nat
 | .lit (.slice none 0 0) => .ok 0
 | .slc _ _ len _ _ => .ok len
 | .lit (.string s) => .ok s.size
 | _ => .error "len"
def firstCellsT (h : H) (s n : Nat) : V -> E (List V)
 | .slc b off _ _ _ => match h.get b with
   | some (.cells c _) => eo (takeN c off (n * s)) "cells" fun r => .ok r
   | _ => .error "block"
 | .lit (.slice none 0 0) => ec (Nat.beq n 0) "nil" (.ok [])
 | .lit (.string b) => .ok ((b.data.toList.take n).map fun x => .lit (.int .u8 x.toNat))
 | _ => .error "cells"
def opAppend (ats : List TypeId) (args : List V) (h : H) : E (V × H) :=
 match ats, args with
 | [t, t'], [s, x] =>
   match P.underlying t with
   | some (.slice e) =>
     ec (match P.underlying t' with | some (.int _) => false | some _ => true | none => false) "append of make" (
     eo (sizeT P e) "size" fun sz => eo (bytesT P e) "bytes" fun by_ => eo (zeroT P e) "zero" fun z => eb (lenV x) fun n => ec (Nat.blt 0 sz && Nat.beq z.cells.length sz) "size" (
     match s with
     | .lit (.slice none 0 0) => if Nat.beq n 0 then .ok (s, h) else ec (Nat.blt (n * (by_ + 1)) 1000000) "large" (eb (firstCellsT h sz n x) fun new => eb (opNew h e new) fun (b, h') => .ok (.slc b 0 n n true, h'))
     | .slc b off len cap hid =>
       let need := len + n
       if Nat.ble need cap then eb (firstCellsT h sz n x) fun new => eb (opStoreAt h b (off + len * sz) new) fun h' => .ok (.slc b off need cap hid, h')
       else ec (Nat.blt (need * (by_ + 1)) 1000000) "large" (eb (firstCellsT h sz len s) fun old => eb (firstCellsT h sz n x) fun new =>
        if hid then
         match h.get b with
         | some (.cells c e') => ec (and (and (Nat.beq off 0) (Nat.beq c.length (cap * sz))) (and (Nat.beq e' e) (Nat.beq new.length (n * sz)))) "append not from the start" (eb (h.set b none) fun h1 => eb (opNew h1 e (old ++ new)) fun (nb, h') => .ok (.slc nb 0 need need true, h'))
         | _ => .error "append block"
        else eb (opNew h e (old ++ new)) fun (nb, h') => .ok (.slc nb 0 need need true, h'))
     | _ => .error "append slice"))
   | _ => .error "append type"
 | _, _ => .error "append"
def opCopy (ats : List TypeId) (args : List V) (h : H) : E (V × H) :=
 match ats, args with
 | t :: _, [d, x] =>
   match P.underlying t with
   | some (.slice e) => eo (sizeT P e) "size" fun sz => eb (lenV d) fun dl => eb (lenV x) fun xl => let n := Nat.min xl dl
     eb (firstCellsT h sz n x) fun cs =>
     match d with
     | .slc b off _ _ _ => eb (opStoreAt h b off cs) fun h' => .ok (.lit (goInt n), h')
     | _ => .error "copy"
   | _ => .error "copy type"
 | _, _ => .error "copy"
def opLen (ats : List TypeId) (args : List V) (h : H) : E V :=
 match ats, args with
 | [t], [x] =>
   match x with
   | .slc _ _ n _ _ => (match P.underlying t with | some (.slice _) => .ok (.lit (goInt n)) | _ => .error "len")
   | .map b => (match P.underlying t, h.get b with | some (.map _ _), some (.map es _) => .ok (.lit (goInt es.length)) | _, _ => .error "len map")
   | .lit v => eo (prun P (Builtin.len_ #[t] 0 #[v])) "len" fun r => .ok (.lit r)
   | _ => .error "len"
 | _, _ => .error "len"
def pure? : Sem Value -> Option Value
 | .pure v => some v
 | _ => none
def intBin (op : BinOp) (k : IntKind) (m : Int) (k' : IntKind) (n : Int) : Option Value :=
 match op with
 | .shl => pure? (Op.shift op k m k' n)
 | .shr => pure? (Op.shift op k m k' n)
 | .add => if k = k' then pure? (Op.intArith op k m n) else none
 | .sub => if k = k' then pure? (Op.intArith op k m n) else none
 | .mul => if k = k' then pure? (Op.intArith op k m n) else none
 | .quo => if k = k' then pure? (Op.intDiv op k m n) else none
 | .rem => if k = k' then pure? (Op.intDiv op k m n) else none
 | .and => if k = k' then pure? (Op.intBits op k m n) else none
 | .or => if k = k' then pure? (Op.intBits op k m n) else none
 | .xor => if k = k' then pure? (Op.intBits op k m n) else none
 | .andNot => if k = k' then pure? (Op.intBits op k m n) else none
 | op => if k = k' then pure? (Op.intCmp op m n) else none
def litBin (op : BinOp) (t : TypeId) (x y : Operand) (a b : Value) : Option Value :=
 match a, b with
 | .int k m, .int k' n => intBin op k m k' n
 | a, b => prun P (do eqGuard op t x y a b; binOp op t a b)
def cmpNil (op : BinOp) (t : TypeId) (a b : V) : Option Bool :=
 match op, P.underlying t, a, b with
 | .eql, some (.slice _), .slc _ _ _ _ _, .lit (.slice none _ _) => some false
 | .neq, some (.slice _), .slc _ _ _ _ _, .lit (.slice none _ _) => some true
 | .eql, some (.pointer _), .ptr _ _, .lit (.pointer none) => some false
 | .neq, some (.pointer _), .ptr _ _, .lit (.pointer none) => some true
 | _, _, _, _ => none
def opBin (op : BinOp) (t : TypeId) (x y : Operand) (a b : V) : E V :=
 match a.plain with
 | some a => eo b.plain "binOp" fun b => eo (litBin P op t x y a b) "binOp" fun v => .ok (.lit v)
 | none => eo (cmpNil P op t a b) "binOp of an address" fun v => .ok (.lit (.bool v))
def kV (h : H) (x : E V) : E (V × H) := eb x fun r => .ok (r, h)
def kU (x : E H) : E (V × H) := eb x fun h' => .ok (uV, h')
def kPtr (x : E (Nat × H)) : E (V × H) := eb x fun r => .ok (.ptr r.1 0, r.2)
def kPick (a : Fr) (x y : Operand) : V -> E V
 | .lit (.bool true) => ev a x
 | .lit (.bool false) => ev a y
 | _ => .error "pick"
def kNil : V -> E V
 | .ptr b off => .ok (.ptr b off)
 | .slc b off len cap hid => .ok (.slc b off len cap hid)
 | .map b => .ok (.map b)
 | .fn f x y => .ok (.fn f x y)
 | .yld l => .ok (.yld l)
 | _ => .error "nilCheck"
def pMove (a : Fr) (h : H) (x : Operand) : E (V × H) := kV h (ev a x)
def pPick (a : Fr) (h : H) (c x y : Operand) : E (V × H) := kV h (eb (ev a c) (kPick a x y))
def pAlloc (h : H) (elem : TypeId) : E (V × H) := eo (zeroT P elem) "zero" fun z => kPtr (opNew h elem z.cells)
def pBox (a : Fr) (h : H) (elem : TypeId) (x : Operand) : E (V × H) := eb (ev a x) fun x => kPtr (opNew h elem x.cells)
def pBuild (a : Fr) (h : H) (t : TypeId) (parts : Array (Nat × Operand)) : E (V × H) := eb (evs a (parts.toList.map (·.2))) fun vs => kV h (opBuild P t ((parts.toList.map (·.1)).zip vs))
def pBuildSlice (a : Fr) (h : H) (t : TypeId) (len : Nat) (parts : Array (Nat × Operand)) : E (V × H) := eb (evs a (parts.toList.map (·.2))) fun vs => opBuildSlice P t len ((parts.toList.map (·.1)).zip vs) h
def pLoad (a : Fr) (h : H) (t : TypeId) (x : Operand) : E (V × H) := eb (ev a x) fun x => kV h (opLoad P t h x)
def pStore (a : Fr) (h : H) (t : TypeId) (x y : Operand) : E (V × H) := eb (ev a x) fun x => eb (ev a y) fun y => kU (opStore P t h x y)
def pNil (a : Fr) (h : H) (x : Operand) : E (V × H) := kV h (eb (ev a x) kNil)
def pBin (a : Fr) (h : H) (op : BinOp) (t : TypeId) (x y : Operand) : E (V × H) := eb (ev a x) fun p => eb (ev a y) fun q => kV h (opBin P op t x y p q)
def pUn (a : Fr) (h : H) (op : UnOp) (x : Operand) : E (V × H) := eb (ev a x) fun x => eo x.plain "unOp" fun x => eo (prun P (Op.unary op x)) "unOp" fun r => .ok (.lit r, h)
def pConvert (a : Fr) (h : H) (s d : TypeId) (x : Operand) : E (V × H) := eb (ev a x) fun x => eo x.plain "convert" fun x => eo (prun P (convert s d x)) "convert" fun r => .ok (.lit r, h)
def pFunc (a : Fr) (h : H) (fn : Fn) (first cap : Array Operand) : E (V × H) :=
 match fn with
 | .func f => eb (evs a first.toList) fun fs => eb (evs a cap.toList) fun cs => .ok (.fn f fs cs, h)
 | _ => .error "a function of another kind"
def pMap (a : Fr) (h : H) (t : TypeId) (r : Option Operand) : E (V × H) :=
 match r with
 | none => h.newK (.map [] 0) fun b h' => .ok (.map b, h')
 | some x => eb (ev a x) fun x => eb (idx x) fun _ => (match P.underlying t with | some (.map _ _) => h.newK (.map [] 0) fun b h' => .ok (.map b, h') | _ => .error "makeMap")
def pMakeSlice (a : Fr) (h : H) (t : TypeId) (l c : Operand) : E (V × H) := eb (ev a l) fun l => eb (ev a c) fun c => opMakeSlice P t l c h
def evo (a : Fr) : Option Operand -> E (Option V)
 | none => .ok none
 | some x => eb (ev a x) fun v => .ok (some v)
def pSlice (a : Fr) (h : H) (t : TypeId) (x : Operand) (lo hi mx : Option Operand) : E (V × H) := eb (ev a x) fun x => eb (evo a lo) fun lo => eb (evo a hi) fun hi => eb (evo a mx) fun mx => kV h (opSlice P t x lo hi mx)
def pFieldAddr (a : Fr) (h : H) (s : TypeId) (x : Operand) (f : Nat) : E (V × H) := eb (ev a x) fun x => kV h (opFieldAddr P s f x)
def pField (a : Fr) (h : H) (s : TypeId) (x : Operand) (f : Nat) : E (V × H) := eb (ev a x) fun x => kV h (opField P s f x)
def pIndexAddr (a : Fr) (h : H) (t : TypeId) (x i : Operand) : E (V × H) := eb (ev a x) fun x => eb (ev a i) fun i => kV h (opIndexAddr P t x i)
def pIndex (a : Fr) (h : H) (t : TypeId) (x i : Operand) : E (V × H) := eb (ev a x) fun x => eb (ev a i) fun i => kV h (opIndex P t x i)
def pLookup (a : Fr) (h : H) (t : TypeId) (x i : Operand) (ok : Bool) : E (V × H) := eb (ev a x) fun x => eb (ev a i) fun i => kV h (opLookup P t x i ok h)
def pUpdate (a : Fr) (h : H) (t : TypeId) (m k x : Operand) : E (V × H) := eb (ev a m) fun m => eb (ev a k) fun k => eb (ev a x) fun x => kU (opMapUpdate P t m k x h)
def pRange (a : Fr) (h : H) (t : TypeId) (x : Operand) : E (V × H) := eb (ev a x) fun x => opRange P t x h
def pNext (a : Fr) (h : H) (it : Operand) (s : Bool) : E (V × H) := eb (ev a it) fun it => opNext it s h
def pEntry (a : Fr) (h : H) (it : Operand) : E (V × H) := kV h (eb (ev a it) fun it => opEntry it h)
def pExtract (a : Fr) (h : H) (x : Operand) (i : Nat) : E (V × H) := kV h (eb (ev a x) fun x => opExtract x i)
def clearC (n : Nat) (z : List V) : List V := (List.range (n * z.length)).map fun i => (z[i % z.length]?).getD uV
def opClear (ats : List TypeId) (args : List V) (h : H) : E (V × H) :=
 match ats, args with
 | [t], [x] =>
   match P.underlying t, x with
   | some (.slice e), .slc b off n _ _ => eo (zeroT P e) "zero" fun z => (match n with
     | 0 => .ok (.tup [], h)
     | n + 1 => eb (opStoreAt h b off (clearC (n + 1) z.cells)) fun h' => .ok (.tup [], h'))
   | some (.slice _), .lit (.slice none 0 0) => .ok (.tup [], h)
   | _, _ => .error "clear"
 | _, _ => .error "clear"
def opBuiltin (b : Builtin) (ats : List TypeId) (args : List V) (h : H) : E (V × H) :=
 match b with
 | .append => opAppend P ats args h
 | .copy => opCopy P ats args h
 | .clear => opClear P ats args h
 | .len => eb (opLen P ats args h) fun r => .ok (r, h)
 | .min => eo (plains args) "min" fun l => eo (prun P (Builtin.min_ ats.toArray 0 l.toArray)) "min" fun r => .ok (.lit r, h)
 | .max => eo (plains args) "max" fun l => eo (prun P (Builtin.max_ ats.toArray 0 l.toArray)) "max" fun r => .ok (.lit r, h)
 | _ => .error "another builtin"
end ops
def bare : V -> Bool
 | .lit _ => true
 | .agg cs => (lits cs).isSome
 | .tup vs => (plains vs).isSome
 | _ => false
def plainT (P : Program) (f : Nat) : TypeId -> Bool :=
 @Nat.rec (fun _ => TypeId -> Bool) (fun _ => false) (fun _ ih t => match P.underlying t with
  | some .bool => true
  | some (.int _) => true
  | some .string => true
  | some (.struct fs) => fs.toList.all fun f => ih f.type
  | some (.array _ e) => ih e
  | some (.tuple ts) => ts.toList.all ih
  | _ => false) f
inductive X where
 | normal
 | exit (id : Nat)
 | ret
def X.code : X -> Option Code
 | .normal => none
 | .exit id => some (.exit id)
 | .ret => some .ret
def wantedT (ops : Array Oper) (a : Fr) (o : Oper) : Bool :=
 match o.guard with
 | none => true
 | some (j, want) => match (ops[j]?).bind (·.dst) with
   | none => false
   | some d => match a.t.get d with | some (.lit (.bool b)) => b == want | _ => false
def guardOk (ops : Array Oper) (a : Fr) (o : Oper) : Bool :=
 match o.guard with
 | none => true
 | some (j, _) => match (ops[j]?).bind (·.dst) with
   | none => true
   | some d => match a.t.get d with | some .any => false | _ => true
def resultT (P : Program) (a : Fr) (h : H) : ResultVar -> E V
 | .tmp t => ev a (.tmp t)
 | .cell x t => eb (ev a (.tmp x)) fun x => opLoad P t h x
def resultsT (P : Program) (a : Fr) (h : H) : List ResultVar -> E (List V)
 | [] => .ok []
 | r :: rs => eb (resultT P a h r) fun v => eb (resultsT P a h rs) fun vs => .ok (v :: vs)
def packT : List V -> V
 | [v] => v
 | vs => .tup vs
def takeMarks (h : H) : List Nat -> E H
 | [] => .ok h
 | d :: ds => match h.get d with
   | some (.dfr true) => eb (h.set d (some (.dfr false))) fun h' => takeMarks h' ds
   | _ => .error "mark"
def putArgs : List Tmp -> List V -> Fr -> Fr
 | t :: ts, v :: vs, a => putArgs ts vs (a.put (some t) v)
 | _, _, a => a
abbrev Run := Option Nat -> Code -> Fr -> H -> E (X × Fr × H)
def callW (P : Program) (go : Run) (gl : Nat) (fid : FuncId) (args : List V) (h : H) : E (V × H) :=
 eo P.funcs[fid]? "function" fun fn => ec (not (fn.name == "runtime.NumGoroutine")) "name" (eo fn.body fn.name fun c =>
  fNat (Nat.max fn.ntmps args.length) fun sz => fNat gl fun gl => eb (go none c ⟨Tr.ofList args 0 .leaf, sz, [], gl⟩ h) fun (e, a, h1) =>
   match e with
   | .exit _ => .error "exit from a function"
   | _ => eb (takeMarks h1 a.df) fun h2 => eb (resultsT P a h2 fn.results.toList) fun vs => .ok (packT vs, h2))
def roundEnd (b2 : X) (h3 : H) (l : Nat) : E (V × H) :=
 match h3.get l with
 | some (.loop _ _ t3 s3 q3 as3 bd3 d3) => eb (h3.set l (some (.loop (match b2 with | .normal => .ready | _ => .done) b2.code t3 s3 q3 as3 bd3 d3))) fun h4 =>
   .ok (.lit (.bool (match b2 with | .normal => true | _ => false)), h4)
 | _ => .error "loop"
def roundW (go : Run) (gl : Nat) (l : Nat) (args : List V) (h : H) : E (V × H) :=
 match h.get l with
 | some (.loop _ _ t sz qs asg bd _) => ec (Nat.beq args.length qs.length) "arguments" (
   eb (go (some l) asg (putArgs qs args ⟨t, sz, [], gl⟩) h) fun (e, a1, h1) => match e with
    | .normal => (match h1.get l with
      | some (.loop .ready p2 t2 s2 q2 as2 bd2 d2) => eb (h1.set l (some (.loop .busy p2 t2 s2 q2 as2 bd2 d2))) fun h2 =>
        eb (go (some l) bd a1 h2) fun (e2, _, h3) => roundEnd e2 h3 l
      | _ => .error "the loop is not ready")
    | _ => .error "assignment")
 | _ => .error "yield no loop"
def calleeW (P : Program) (go : Run) (gl : Nat) (args : List V) (h : H) : V -> E (V × H)
 | .fn fid first cap => callW P go gl fid (first ++ args ++ cap) h
 | .yld l => roundW go gl l args h
 | _ => .error "call of what"
def callOpW (P : Program) (go : Run) (a : Fr) (c : Call) (h : H) : E (V × H) := eb (evs a c.args.toList) fun args => match c.callee with
 | .builtin b => opBuiltin P b c.argTypes.toList args h
 | .value g => eb (ev a g) (calleeW P go a.gl args h)
 | .invoke _ _ => .error "invoke"
def badOp : E (V × H) := .error "an operation of another kind"
abbrev OpW := Program -> Run -> Fr -> H -> E (V × H)
def opTab (o : Op) : OpW :=
 @Op.rec (fun _ => OpW) (fun x P go a h => pMove a h x) (fun x P go a h => pMove a h x) (fun c x y P go a h => pPick a h c x y) (fun t P go a h => pAlloc P h t) (fun t x P go a h => pBox a h t x) (fun t ps P go a h => pBuild P a h t ps) (fun t n ps P go a h => pBuildSlice P a h t n ps) (fun t m k x P go a h => pUpdate P a h t m k x) (fun t x P go a h => pLoad P a h t x) (fun t x y P go a h => pStore P a h t x y) (fun _ _ _ _ _ => badOp) (fun _ _ _ _ _ => badOp) (fun x P go a h => pNil a h x) (fun op t x y _ P go a h => pBin P a h op t x y) (fun op _ x P go a h => pUn P a h op x) (fun s d x P go a h => pConvert P a h s d x) (fun _ _ _ _ _ _ => badOp) (fun _ _ _ _ _ _ => badOp) (fun f x y P go a h => pFunc a h f x y) (fun t r P go a h => pMap P a h t r) (fun _ _ _ _ _ _ => badOp) (fun t l c P go a h => pMakeSlice P a h t l c) (fun t x lo hi mx P go a h => pSlice P a h t x lo hi mx) (fun s x f P go a h => pFieldAddr P a h s x f) (fun s x f P go a h => pField P a h s x f) (fun t x i P go a h => pIndexAddr P a h t x i) (fun t x i P go a h => pIndex P a h t x i) (fun t x i ok P go a h => pLookup P a h t x i ok) (fun t m k x P go a h => pUpdate P a h t m k x) (fun _ _ _ _ _ _ _ => badOp) (fun _ _ _ _ _ _ _ _ => badOp) (fun t x P go a h => pRange P a h t x) (fun it s P go a h => pNext a h it s) (fun it P go a h => pEntry a h it) (fun _ _ _ _ _ _ _ _ => badOp) (fun x i P go a h => pExtract a h x i) (fun c P go a h => callOpW P go a c h) (fun _ _ _ _ _ => badOp) (fun _ _ _ _ _ => badOp) (fun _ _ _ _ _ => badOp) (fun _ _ _ _ _ _ => badOp) (fun _ _ _ _ _ _ _ => badOp) (fun _ _ _ _ _ _ => badOp) o
def opW (P : Program) (go : Run) (a : Fr) (o : Op) (h : H) : E (V × H) := opTab o P go a h
abbrev OpsW := Fr -> H -> E (Fr × H)
def runW (dst : Option Tmp) (a : Fr) (k : OpsW) (r : E (V × H)) : E (Fr × H) := @Except.rec String (V × H) (fun _ => E (Fr × H)) (fun e => .error e) (fun s => @Prod.rec _ _ (fun _ => E (Fr × H)) (fun v h' => a.putK dst v fun a' => k a' h') s) r
def guardedW (P : Program) (go : Run) (ops : Array Oper) (o : Oper) (k : OpsW) (a : Fr) (h : H) : E (Fr × H) :=
 ec (guardOk ops a o) "guard" (
  match wantedT ops a o with
  | true => runW o.dst a k (opW P go a o.op h)
  | false => a.putK o.dst uV fun a' => k a' h)
def stepW (P : Program) (go : Run) (ops : Array Oper) (o : Oper) (k : OpsW) (a : Fr) (h : H) : E (Fr × H) :=
 @Option.rec (Nat × Bool) (fun _ => E (Fr × H)) (runW o.dst a k (opTab o.op P go a h)) (fun _ => guardedW P go ops o k a h) o.guard
def opsW (P : Program) (go : Run) (ops : Array Oper) (l : List Oper) : OpsW :=
 @List.rec Oper (fun _ => OpsW) (fun a h => .ok (a, h)) (fun o _ ih a h => stepW P go ops o ih a h) l
def rangeW (P : Program) (go : Run) (r : Option Nat) (g : V) (ps : Array Tmp) (assign body : Code) (a : Fr) (h : H) : E (X × Fr × H) :=
 eb (match r with
  | some l => (match h.get l with | some (.loop _ _ _ _ _ _ _ d) => .ok (d, [], h) | _ => .error "round")
  | none => h.newK (.dfr true) fun b h' => .ok (b, [b], h')) fun (d, mk, h1) =>
 match g with
 | .fn fid first cap => h1.newK (.loop .ready none a.t a.sz ps.toList assign body d) fun l h2 => eb (callW P go a.gl fid (first ++ [.yld l] ++ cap) h2) fun (_, h3) =>
   match h3.get l with
   | some (.loop .busy _ _ _ _ _ _ _) => .error "busy"
   | some (.loop _ pend t sz qs asg bd d) => eb (h3.set l (some (.loop .exhausted pend t sz qs asg bd d))) fun h4 =>
    match pend with
    | none => .ok (.normal, ⟨a.t, a.sz, mk ++ a.df, a.gl⟩, h4)
    | some c => go r c ⟨a.t, a.sz, mk ++ a.df, a.gl⟩ h4
   | _ => .error "loop"
 | _ => .error "range over what"
def depN (ops : Array Oper) (f : Nat) : Nat -> Nat -> Bool :=
 @Nat.rec (fun _ => Nat -> Nat -> Bool) (fun _ _ => false) (fun _ ih i j => match ops[i]? with
  | none => false
  | some o => o.after.toList.any fun e => and (Region.binds .any e) (or (Nat.beq e.on j) (ih e.on j))) f
def dep (ops : Array Oper) (i j : Nat) : Bool := depN ops 30 i j
def ordered (ops : Array Oper) (i j : Nat) : Bool := or (dep ops i j) (dep ops j i)
def tmpsOk (ops : Array Oper) : Bool :=
 (List.range ops.size).all fun i => match ops[i]? with
  | none => false
  | some o => and (o.after.toList.all fun e => or (not (Region.binds .any e)) (Nat.blt e.on i)) ((List.range ops.size).all fun j => match ops[j]? with
    | none => false
    | some q => match q.dst with
      | none => true
      | some d => or (Nat.beq i j) (or (and (not ((Oper.looksAt ops o).contains d)) (not (o.dst == some d))) (match Nat.blt j i with | true => dep ops i j | false => dep ops j i)))
def storeAt (a : Fr) (o : Oper) : Option Nat :=
 match o.op with
 | .store _ x _ => match ev a x with | .ok (.ptr b _) => some b | _ => none
 | _ => none
structure Ef where
 i : Nat
 prot : Bool
 h : H
def lowH (ops : Array Oper) (i : Nat) (h0 : H) : List Ef -> H
 | [] => h0
 | e :: es => match dep ops i e.i with | true => e.h | false => lowH ops i h0 es
def without : List Nat -> Tr Ob -> Tr Ob
 | [], m => m
 | b :: bs, m => Tr.setK none (Tr.path b) m (without bs)
def shown (ops : Array Oper) (st : List (Nat × Nat)) (nq i : Nat) (h : H) : H :=
 ⟨nq, nq, nq, without ((st.filter fun q => not (ordered ops i q.1)).map (·.2)) h.m⟩
def apartAll (ops : Array Oper) (st : List (Nat × Nat)) (i : Nat) (h : H) : Bool := (st.filter fun q => not (ordered ops i q.1)).all fun q => match h.get q.2 with | some _ => true | none => false
def stores (a : Fr) : List Oper -> Nat -> List (Nat × Nat)
 | [], _ => []
 | o :: os, i => match storeAt a o with
   | some b => (i, b) :: stores a os (i + 1)
   | none => stores a os (i + 1)
def isFnCall : Op -> Bool
 | .call c => match c.callee with | .builtin _ => false | _ => true
 | _ => false
def isAppend : Op -> Bool
 | .call c => match c.callee with | .builtin .append => true | _ => false
 | _ => false
def isStoreOp : Op -> Bool
 | .store _ _ _ => true
 | _ => false
def hintOf (a : Fr) (o : Oper) : Option Nat :=
 match o.op with
 | .store _ _ _ => storeAt a o
 | .call c => match isAppend o.op, c.args.toList with
   | true, x :: _ => (match ev a x with | .ok (.slc b _ _ _ _) => some b | _ => none)
   | _, _ => none
 | _ => none
def knownAt (i : Nat) : List (Nat × Nat) -> Option Nat
 | [] => none
 | q :: st => match Nat.beq q.1 i with | true => some q.2 | false => knownAt i st
def quietR (nq : Nat) : E (V × H) -> Option V
 | .ok (v, g) => match or (Nat.beq g.n nq) (bare v) with | true => some v | false => none
 | .error _ => none
def isCall : Op -> Bool
 | .call _ => true
 | _ => false
def isEffect : Op -> Bool
 | .store _ _ _ => true
 | .alloc _ => true
 | .box _ _ => true
 | .buildSlice _ _ _ => true
 | .makeMap _ _ => true
 | .makeSlice _ _ _ => true
 | .mapUpdate _ _ _ _ => true
 | .insert _ _ _ _ => true
 | .range _ _ => true
 | .next _ _ => true
 | _ => false
def quietW (P : Program) (go : Run) (a : Fr) (o : Oper) (nq : Nat) (g : H) : Option (V × Bool) :=
 match isEffect o.op with
 | true => none
 | false => match isCall o.op with
   | true => match plainT P 20 o.type with
     | true => match quietR nq (opW P go a o.op g) with | some v => some (v, true) | none => none
     | false => none
   | false => match quietR nq (opW P go a o.op ⟨nq, nq, nq, .leaf⟩) with
     | some v => some (v, false)
     | none => match quietR nq (opW P go a o.op g) with | some v => some (v, true) | none => none
def H.has (h : H) (b : Nat) : Bool := @Option.rec Ob (fun _ => Bool) false (fun _ => true) (h.get b)
def oneOf (h : H) : Option Nat -> Nat
 | none => h.n
 | some b => Tr.br (and (h.has b) (or (Nat.ble h.p b) (Nat.beq b h.x))) b h.n
def effectW (P : Program) (go : Run) (a : Fr) (o : Oper) (h : H) (x : Option Nat) : E (V × Bool × H) :=
 match opW P go a o.op ⟨h.n, h.n, oneOf h x, h.m⟩ with
 | .ok (v, h') => .ok (v, true, ⟨h'.n, h.p, h.x, h'.m⟩)
 | .error _ => eb (opW P go a o.op h) fun r => .ok (r.1, false, r.2)
def hintsW (P : Program) (go : Run) (ops : Array Oper) : List Oper -> Nat -> Fr -> H -> List (Nat × Nat)
 | [], _, _, _ => []
 | o :: rest, i, a, h =>
   match wantedT ops a o with
   | false => a.putK o.dst uV fun a' => hintsW P go ops rest (i + 1) a' h
   | true => match isFnCall o.op with
     | true => []
     | false => match opW P go a o.op h with
       | .error _ => []
       | .ok (v, h') => a.putK o.dst v fun a' => match hintOf a o with
         | some b => (i, b) :: hintsW P go ops rest (i + 1) a' h'
         | none => hintsW P go ops rest (i + 1) a' h'
def stW (P : Program) (go : Run) (ops : Array Oper) (a : Fr) (h : H) : List (Nat × Nat) :=
 match ops.toList.any fun o => or (isAppend o.op) (isStoreOp o.op) with
 | true => hintsW P go ops ops.toList 0 a h ++ stores a ops.toList 0
 | false => stores a ops.toList 0
def isMake : Op -> Bool
 | .alloc _ => true
 | .box _ _ => true
 | .buildSlice _ _ _ => true
 | .makeMap _ _ => true
 | .makeSlice _ _ _ => true
 | _ => false
structure Mk where
 i : Nat
 b : Nat
 v : V
 o : Ob
def isConstO : Operand -> Bool
 | .const _ => true
 | _ => false
def makerW (P : Program) (go : Run) (a : Fr) (late : Bool) (o : Oper) (b : Nat) : Option (V × Ob) :=
 match and (isMake o.op) (or (and late (o.op.operands.toList.all isConstO)) (and o.guard.isNone (o.after.toList.all fun e => not (Region.binds .any e)))) with
 | false => none
 | true => match evs a o.op.operands.toList with
   | .error _ => none
   | .ok vs => match vs.all bare with
     | false => none
     | true => match opW P go a o.op ⟨b, b, b, .leaf⟩ with
       | .error _ => none
       | .ok (v, h') => match Nat.beq h'.n (b + 1), h'.get b with
         | true, some ob => some (v, ob)
         | _, _ => none
def makersW (P : Program) (go : Run) (a : Fr) (late : Bool) : List Oper -> Nat -> Nat -> List Mk
 | [], _, _ => []
 | o :: rest, i, b => match makerW P go a late o b with
   | some r => ⟨i, b, r.1, r.2⟩ :: makersW P go a late rest (i + 1) (b + 1)
   | none => makersW P go a late rest (i + 1) b
def lookM (i : Nat) : List Mk -> Option Mk
 | [] => none
 | q :: mk => match Nat.beq q.i i with | true => some q | false => lookM i mk
def freeM (ops : Array Oper) (es : List Ef) (mk : List Mk) : List Mk := mk.filter fun q => es.all fun e => not (dep ops e.i q.i)
def usedM (ops : Array Oper) (i : Nat) (l : List Mk) : List Mk := l.filter fun q => dep ops i q.i
def addM : List Mk -> Tr Ob -> Tr Ob
 | [], m => m
 | q :: l, m => Tr.setK (some q.o) (Tr.path q.b) m (addM l)
def withM (l : List Mk) (h : H) : H := ⟨h.n, h.p, h.x, addM l h.m⟩
def besideM (ops : Array Oper) (i : Nat) (prot : Bool) (fr : List Mk) (rq : List Nat) (h : H) : Bool :=
 and (fr.all fun q => or (dep ops i q.i) (and prot (not (h.has q.b))))
  (rq.all fun r => or (dep ops i r) (fr.all fun q => not (and (dep ops i q.i) (dep ops r q.i))))
def drawW (P : Program) (go : Run) (ops : Array Oper) (st : List (Nat × Nat)) (mk : List Mk) (nq : Nat) (h0 : H) : List Oper -> Nat -> List Nat -> List Ef -> Fr -> H -> E (Fr × H)
 | [], _, _, _, a, h => .ok (a, h)
 | o :: rest, i, rq, es, a, h =>
   match lookM i mk with
   | some q => ec (and (guardOk ops a o) (wantedT ops a o)) "a maker that is not wanted" (a.putK o.dst q.v fun a' => drawW P go ops st mk nq h0 rest (i + 1) rq es a' h)
   | none => ec (guardOk ops a o) "guard" (match wantedT ops a o with
     | false => a.putK o.dst uV fun a' => drawW P go ops st mk nq h0 rest (i + 1) rq es a' h
     | true => match quietW P go a o nq (withM (usedM ops i (freeM ops es mk)) (shown ops st nq i (lowH ops i h0 es))) with
       | some (v, r) => ec (or (not r) (and (es.all fun e => or (dep ops i e.i) e.prot) (apartAll ops st i (lowH ops i h0 es)))) "a reader beside an effect" (
        a.putK o.dst v fun a' => drawW P go ops st mk nq h0 rest (i + 1) (match r with | true => i :: rq | false => rq) es a' h)
       | none => eb (effectW P go a o (withM (usedM ops i (freeM ops es mk)) h) (knownAt i st)) fun r =>
        ec (and (Nat.ble r.2.2.n nq) (and (es.all fun e => dep ops i e.i) (or r.2.1 (rq.all fun j => dep ops i j)))) "an effect beside others" (
        ec (besideM ops i r.2.1 (freeM ops es mk) rq (withM (usedM ops i (freeM ops es mk)) h)) "an effect beside makers" (
        a.putK o.dst r.1 fun a' => drawW P go ops st mk nq h0 rest (i + 1) rq (⟨i, r.2.1, r.2.2⟩ :: es) a' r.2.2)))
def drawnW (P : Program) (go : Run) (ops : Array Oper) (mk : List Mk) (a : Fr) (h : H) : E (X × Fr × H) :=
 ec (and (tmpsOk ops) (Nat.ble mk.length 4096)) "temporaries" (fNat (h.n + mk.length) fun n => fNat (h.n + 8192) fun nq => eb (drawW P go ops (stW P go ops a h) mk nq ⟨n, h.p, h.x, h.m⟩ ops.toList 0 [] [] a ⟨n, h.p, h.x, h.m⟩) fun s => .ok (.normal, s.1, s.2))
abbrev RegW := Program -> Run -> Array Oper -> Fr -> H -> E (X × Fr × H)
def regF : RegW := fun P go ops a h => @Except.rec String (Fr × H) (fun _ => E (X × Fr × H)) (fun e => .error e) (fun s => .ok (.normal, s.1, s.2)) (opsW P go ops ops.toList a h)
def regT : RegW := fun P go ops a h => match drawnW P go ops (makersW P go a true ops.toList 0 h.n) a h with
    | .ok s => .ok s
    | .error _ => drawnW P go ops (makersW P go a false ops.toList 0 h.n) a h
def regionW (P : Program) (go : Run) (ops : Array Oper) (draw : Bool) (a : Fr) (h : H) : E (X × Fr × H) := @Bool.rec (fun _ => RegW) regF regT draw P go ops a h
def seqW (go : Run) (r : Option Nat) (y : Code) (s : X × Fr × H) : E (X × Fr × H) :=
 match s.1 with
 | .normal => go r y s.2.1 s.2.2
 | _ => .ok s
def condW (go : Run) (r : Option Nat) (x y : Code) (a : Fr) (h : H) : V -> E (X × Fr × H)
 | .lit (.bool true) => go r x a h
 | .lit (.bool false) => go r y a h
 | _ => .error "cond"
def blockW (id : Nat) (s : X × Fr × H) : E (X × Fr × H) :=
 match s.1 with
 | .exit id' => .ok (Tr.br (Nat.beq id' id) .normal (.exit id'), s.2.1, s.2.2)
 | _ => .ok s
def valEq : Value -> Value -> Bool
 | .int k m, .int k' n => and (decide (k = k')) (decide (m = n))
 | .bool x, .bool y => or (and x y) (and (not x) (not y))
 | .string x, .string y => decide (x.data.toList = y.data.toList)
 | .tuple a, .tuple b => and (Nat.beq a.size 0) (Nat.beq b.size 0)
 | .slice none a b, .slice none c d => and (decide (a = c)) (decide (b = d))
 | .pointer none, .pointer none => true
 | .map none, .map none => true
 | _, _ => false
mutual
def vEq : V -> V -> Bool
 | .lit a, w => match w with | .lit b => valEq a b | _ => false
 | .ptr b o, w => match w with | .ptr b' o' => and (Nat.beq b b') (Nat.beq o o') | _ => false
 | .slc b o n c hid, w => match w with | .slc b' o' n' c' hid' => and (and (Nat.beq b b') (Nat.beq o o')) (and (and (Nat.beq n n') (Nat.beq c c')) (or (and hid hid') (and (not hid) (not hid')))) | _ => false
 | .map b, w => match w with | .map b' => Nat.beq b b' | _ => false
 | .yld b, w => match w with | .yld b' => Nat.beq b b' | _ => false
 | .fn f a c, w => match w with | .fn f' a' c' => and (Nat.beq f f') (and (vEqs a a') (vEqs c c')) | _ => false
 | .agg cs, w => match w with | .agg ds => vEqs cs ds | _ => false
 | .tup cs, w => match w with | .tup ds => vEqs cs ds | _ => false
 | .any, _ => false
def vEqs : List V -> List V -> Bool
 | [], w => match w with | [] => true | _ => false
 | v :: vs, w => match w with | u :: us => and (vEq v u) (vEqs vs us) | [] => false
end
def dstsC : Code -> List Tmp
 | .seq x y => dstsC x ++ dstsC y
 | .cond _ x y => dstsC x ++ dstsC y
 | .block _ x => dstsC x
 | .loop x => dstsC x
 | .scope x => dstsC x
 | .region _ ops _ => ops.toList.filterMap (·.dst)
 | .rangeFunc _ ps asg bd => ps.toList ++ (dstsC asg ++ dstsC bd)
 | _ => []
def forgetT : List Tmp -> Tr V -> Tr V
 | [], t => t
 | d :: ds, t => Tr.setK (some .any) (Tr.path d) t (forgetT ds)
def natsEq : List Nat -> List Nat -> Bool
 | [], w => match w with | [] => true | _ => false
 | x :: xs, w => match w with | y :: ys => and (Nat.beq x y) (natsEq xs ys) | [] => false
def leqT (n : Nat) (t t0 : Tr V) : Bool :=
 (List.range n).all fun i => match t0.get i with | some .any => true | x => vEq ((t.get i).getD uV) (x.getD uV)
def leqF (a a0 : Fr) : Bool := and (and (Nat.beq a.sz a0.sz) (natsEq a.df a0.df)) (leqT a0.sz a.t a0.t)
def refineT (es : List Fr) : List Tmp -> Tr V -> Tr V
 | [], t => t
 | d :: ds, t => match es with
   | [] => t
   | a :: rest => let v := (a.t.get d).getD uV
     match and (bare v) (rest.all fun b => vEq v ((b.t.get d).getD uV)) with
     | true => Tr.setK (some v) (Tr.path d) t (refineT es ds)
     | false => refineT es ds t
def xEq : X -> X -> Bool
 | .normal, .normal => true
 | .exit i, .exit j => Nat.beq i j
 | .ret, .ret => true
 | _, _ => false
def nextOf : List Oper -> Option (Option Tmp × Operand × List Oper)
 | ⟨dst, .next it false, _, _, _, none⟩ :: post => some (dst, it, post)
 | _ :: _ => none
 | [] => none
structure Mr where
 it : Operand
 b : Nat
 m : Nat
 es : List (Value × V × Nat)
 clk : Nat
 dst : Option Tmp
 ops : Array Oper
 post : List Oper
 y : Code
def mapAt (a : Fr) (h : H) : Code -> Option Mr
 | .seq (.region _ ops false) y => match nextOf ops.toList with
   | some (dst, it, post) => match ev a it with
     | .ok (.ptr b 0) => match h.get b with
       | some (.miter m clk) => match h.get m with
         | some (.map es c) => (match Nat.beq c clk with | true => some ⟨it, b, m, es, clk, dst, ops, post, y⟩ | false => none)
         | _ => none
       | _ => none
     | _ => none
   | none => none
 | _ => none
def bornOk (clk : Nat) : List (Value × V × Nat) -> Bool
 | [] => true
 | q :: es => and (Nat.blt q.2.2 clk) (and (es.all fun r => not (Nat.beq q.2.2 r.2.2)) (bornOk clk es))
def roundM (P : Program) (go : Run) (r : Option Nat) (q : Mr) (a : Fr) (v : V) (h : H) : E (X × Fr × H) :=
 a.putK q.dst v fun a1 => eb (opsW P go q.ops q.post a1 h) fun s => go r q.y s.1 s.2
def roundsM (P : Program) (go : Run) (r : Option Nat) (q : Mr) (a : Fr) (h : H) : List (Value × V × Nat) -> E (List (X × Fr))
 | [] => .ok []
 | e :: es => Tr.setK (some (.mat q.m q.clk e.2.2)) (Tr.path q.b) h.m fun m => eb (roundM P go r q a (.tup [.lit (.bool true), .lit e.1, e.2.1]) ⟨h.n, h.p, h.x, m⟩) fun s => ec (leqF s.2.1 a) "a round that writes" (eb (roundsM P go r q a h es) fun l => .ok ((s.1, s.2.1) :: l))
def isOut : X × Fr -> Bool
 | (.normal, _) => false
 | _ => true
def isAt (b : Nat) : E V -> Bool
 | .ok (.ptr b' 0) => Nat.beq b' b
 | _ => false
def mapW (P : Program) (go : Run) (r : Option Nat) (x : Code) (a : Fr) (h : H) (q : Mr) : E (X × Fr × H) :=
 ec (and (bornOk q.clk q.es) (or (Nat.ble h.p q.b) (Nat.beq q.b h.x))) "entries" (
 Tr.setK none (Tr.path q.b) h.m fun m => fNat h.n fun n =>
 let a0 : Fr := ⟨forgetT (dstsC x) a.t, a.sz, a.df, a.gl⟩
 ec (isAt q.b (ev a0 q.it)) "iterator" (
 eb (roundsM P go r q a0 ⟨n, n, n, m⟩ q.es) fun l =>
 match l.filter isOut with
 | [] => eb (roundM P go r q a0 (.tup [.lit (.bool false)]) ⟨n, h.p, h.x, m⟩) fun s => match s.1 with
   | .normal => .error "a range that goes on"
   | _ => .ok s
 | s :: rest => ec (rest.all fun t => xEq s.1 t.1) "ends" (.ok (s.1, ⟨refineT (s.2 :: rest.map (·.2)) (dstsC x) a0.t, a0.sz, a0.df, a0.gl⟩, ⟨n, h.p, h.x, m⟩))))
def loopW (P : Program) (go : Run) (r : Option Nat) (x : Code) (a : Fr) (h : H) : E (X × Fr × H) :=
 match mapAt a h x with
 | none => eb (go r x a h) (seqW go r (.loop x))
 | some q => mapW P go r x a h q
abbrev CodeW := Program -> Run -> Option Nat -> Fr -> H -> E (X × Fr × H)
def codeTab (c : Code) : CodeW :=
 match c with
 | .skip => fun _ _ _ a h => .ok (.normal, a, h)
 | .label _ => fun _ _ _ a h => .ok (.normal, a, h)
 | .exit id => fun _ _ _ a h => .ok (.exit id, a, h)
 | .ret => fun _ _ _ a h => .ok (.ret, a, h)
 | .seq x y => fun _ go r a h => eb (go r x a h) (seqW go r y)
 | .cond t x y => fun _ go r a h => eb (ev a t) (condW go r x y a h)
 | .block id x => fun _ go r a h => eb (go r x a h) (blockW id)
 | .loop x => fun P go r a h => loopW P go r x a h
 | .region _ ops d => fun P go _ a h => regionW P go ops d a h
 | .rangeFunc g ps assign body => fun P go r a h => eb (ev a g) fun g => rangeW P go r g ps assign body a h
 | .scope x => fun _ go r a h => go r x a h
 | _ => fun _ _ _ _ _ => .error "code of another kind"
def codeW (P : Program) (go : Run) (r : Option Nat) (c : Code) (a : Fr) (h : H) : E (X × Fr × H) := codeTab c P go r a h
def evCode (P : Program) (f : Nat) : Run := Nat.rec (motive := fun _ => Run) (fun _ _ _ _ => .error "fuel") (fun _ go => codeW P go) f
def evCall (P : Program) (f : Nat) (gl : Nat) (fid : FuncId) (args : List V) (h : H) : E (V × H) := callW P (evCode P f) gl fid args h
end
end
section
set_option linter.unusedSimpArgs false
set_option linter.unusedVariables false
open Go
namespace Tr
variable {α : Type}
def vDec : List Bool -> Nat
 | [] => 0
 | true :: p => 2 * vDec p + 1
 | false :: p => 2 * vDec p + 2
theorem pathF_dec : ∀ (f n : Nat), n < f -> vDec (pathF f n) = n
 | f + 1, n, h => by
   show vDec (br (Nat.beq n 0) [] (Nat.beq (Nat.mod n 2) 1 :: pathF f (Nat.div (Nat.pred n) 2))) = n
   cases n with
   | zero => rfl
   | succ n =>
     have h0 : Nat.beq (n + 1) 0 = false := rfl
     rw [h0]
     show vDec (Nat.beq ((n + 1) % 2) 1 :: pathF f (n / 2)) = n + 1
     have ih := pathF_dec f (n / 2) (by omega)
     cases hb : Nat.beq ((n + 1) % 2) 1 with
     | true =>
       have := Nat.eq_of_beq_eq_true hb
       show 2 * vDec (pathF f (n / 2)) + 1 = n + 1
       rw [ih]
       omega
     | false =>
       have := Nat.ne_of_beq_eq_false hb
       show 2 * vDec (pathF f (n / 2)) + 2 = n + 1
       rw [ih]
       omega
theorem path_inj {n m : Nat} (h : path n = path m) : n = m := by
 have h1 := pathF_dec (Nat.succ n) n (Nat.lt_succ_self n)
 have h2 := pathF_dec (Nat.succ m) m (Nat.lt_succ_self m)
 unfold path at h
 rw [<- h1, h, h2]
def setP (x : Option α) : List Bool -> Tr α -> Tr α
 | [], .leaf => .node .leaf x .leaf
 | [], .node l _ r => .node l x r
 | true :: p, .leaf => .node (setP x p .leaf) none .leaf
 | false :: p, .leaf => .node .leaf none (setP x p .leaf)
 | true :: p, .node l v r => .node (setP x p l) v r
 | false :: p, .node l v r => .node l v (setP x p r)
theorem setK_eq {β : Type} (x : Option α) : ∀ (p : List Bool) (t : Tr α) (k : Tr α -> β), setK x p t k = k (setP x p t)
 | [], .leaf, k => rfl
 | [], .node l v r, k => rfl
 | true :: p, .leaf, k => setK_eq x p .leaf _
 | false :: p, .leaf, k => setK_eq x p .leaf _
 | true :: p, .node l v r, k => setK_eq x p l _
 | false :: p, .node l v r, k => setK_eq x p r _
theorem getP_setP_same (x : Option α) : ∀ (p : List Bool) (t : Tr α), getP p (setP x p t) = x
 | [], .leaf => rfl
 | [], .node _ _ _ => rfl
 | true :: p, .leaf => getP_setP_same x p .leaf
 | false :: p, .leaf => getP_setP_same x p .leaf
 | true :: p, .node l _ _ => getP_setP_same x p l
 | false :: p, .node _ _ r => getP_setP_same x p r
theorem getP_leaf : ∀ p : List Bool, getP p (.leaf : Tr α) = none
 | [] => rfl
 | _ :: _ => rfl
theorem getP_setP_other (x : Option α) : ∀ (p q : List Bool) (t : Tr α), p ≠ q -> getP p (setP x q t) = getP p t
 | [], [], _, h => absurd rfl h
 | [], true :: q, .leaf, _ => rfl
 | [], false :: q, .leaf, _ => rfl
 | [], true :: q, .node _ _ _, _ => rfl
 | [], false :: q, .node _ _ _, _ => rfl
 | true :: p, [], .leaf, _ => getP_leaf p
 | false :: p, [], .leaf, _ => getP_leaf p
 | true :: p, [], .node _ _ _, _ => rfl
 | false :: p, [], .node _ _ _, _ => rfl
 | true :: p, true :: q, .leaf, h => (getP_setP_other x p q .leaf (fun e => h (by rw [e]))).trans (getP_leaf p)
 | false :: p, false :: q, .leaf, h => (getP_setP_other x p q .leaf (fun e => h (by rw [e]))).trans (getP_leaf p)
 | true :: p, false :: q, .leaf, _ => getP_leaf p
 | false :: p, true :: q, .leaf, _ => getP_leaf p
 | true :: p, true :: q, .node l _ _, h => getP_setP_other x p q l (fun e => h (by rw [e]))
 | false :: p, false :: q, .node _ _ r, h => getP_setP_other x p q r (fun e => h (by rw [e]))
 | true :: p, false :: q, .node _ _ _, _ => rfl
 | false :: p, true :: q, .node _ _ _, _ => rfl
theorem get_set_same (t : Tr α) (n : Nat) (x : Option α) : (setP x (path n) t).get n = x := getP_setP_same x _ t
theorem get_set_other (t : Tr α) {n m : Nat} (x : Option α) (h : m ≠ n) : (setP x (path n) t).get m = t.get m := getP_setP_other x _ _ t fun e => h (path_inj e)
theorem get_leaf (n : Nat) : (leaf : Tr α).get n = none := getP_leaf _
theorem ofList_get : ∀ (l : List α) (i : Nat) (t : Tr α) (n : Nat), (ofList l i t).get n = if h : i <= n /\ n < i + l.length then some (l[n - i]'(by omega)) else t.get n
 | [], i, t, n => by simp [ofList]; omega
 | x :: xs, i, t, n => by
   unfold ofList
   rw [setK_eq, ofList_get xs (i + 1)]
   by_cases h1 : n = i
   · subst h1
     rw [dif_neg (by omega), get_set_same, dif_pos (by simp)]
     simp
   · rw [get_set_other _ _ h1]
     by_cases h2 : i + 1 <= n /\ n < i + 1 + xs.length
     · rw [dif_pos h2, dif_pos (by simp; omega)]
       congr 1
       have : n - i = (n - (i + 1)) + 1 := by omega
       simp [this]
     · rw [dif_neg h2, dif_neg (by simp; omega)]
end Tr
theorem fNat_eq {β : Type} (n : Nat) (k : Nat -> β) : fNat n k = k n := by cases n <;> rfl
theorem fInt_eq {β : Type} (n : Int) (k : Int -> β) : fInt n k = k n := by
 cases n with
 | ofNat m => exact fNat_eq m fun m => k (.ofNat m)
 | negSucc m => exact fNat_eq m fun m => k (.negSucc m)
theorem fBool_eq {β : Type} (b : Bool) (k : Bool -> β) : fBool b k = k b := by cases b <;> rfl
theorem fVal_eq {β : Type} (v : Value) (k : Value -> β) : fVal v k = k v := by
 cases v with
 | int q n => exact fInt_eq n fun n => k (.int q n)
 | bool b => exact fBool_eq b fun b => k (.bool b)
 | _ => rfl
theorem fVs_eq {β : Type} : ∀ (l : List V) (k : List V -> β), fV.fVs l k = k l
 | [], k => by unfold fV.fVs; rfl
 | v :: r, k => by
   cases v <;> unfold fV.fVs <;> simp only [fVal_eq, fNat_eq, fBool_eq, fVs_eq r]
theorem fV_eq {β : Type} (v : V) (k : V -> β) : fV v k = k v := by
 cases v <;> unfold fV <;> simp only [fVal_eq, fNat_eq, fBool_eq, fVs_eq]
theorem eb_ok {α β : Type} {x : E α} {f : α -> E β} {r : β} (h : eb x f = .ok r) : ∃ a, x = .ok a /\ f a = .ok r := by
 cases x with
 | ok a => exact ⟨a, rfl, h⟩
 | error e => cases h
theorem eo_ok {α β : Type} {x : Option α} {e : String} {f : α -> E β} {r : β} (h : eo x e f = .ok r) : ∃ a, x = some a /\ f a = .ok r := by
 cases x with
 | some a => exact ⟨a, rfl, h⟩
 | none => cases h
theorem ec_ok {β : Type} {c : Bool} {e : String} {f : E β} {r : β} (h : ec c e f = .ok r) : c = true /\ f = .ok r := by
 cases c with
 | true => exact ⟨rfl, h⟩
 | false => cases h
def free (h : H) (b : Nat) : Prop := h.p <= b ∨ b = h.x
theorem set_ok {h h' : H} {b : Nat} {o : Option Ob} (k : h.set b o = .ok h') : free h b /\ h' = ⟨h.n, h.p, h.x, Tr.setP o (Tr.path b) h.m⟩ := by
 obtain ⟨hn, hp, hx, hm⟩ := h
 change ec (or (Nat.ble hp b) (Nat.beq b hx)) "protected" (Tr.setK o (Tr.path b) hm fun m => (.ok (⟨hn, hp, hx, m⟩ : H) : E H)) = _ at k
 obtain ⟨k1, k2⟩ := ec_ok k
 rw [Tr.setK_eq] at k2
 refine ⟨?_, (Except.ok.inj k2).symm⟩
 rcases Bool.or_eq_true_iff.1 k1 with k1 | k1
 · exact .inl (Nat.le_of_ble_eq_true k1)
 · exact .inr (Nat.eq_of_beq_eq_true k1)
noncomputable def H.with (h : H) (o : Ob) : H := ⟨h.n + 1, h.p, h.x, Tr.setP (some o) (Tr.path h.n) h.m⟩
theorem newK_eq {β : Type} (h : H) (o : Ob) (k : Nat -> H -> β) : h.newK o k = k h.n (h.with o) := by
 obtain ⟨hn, hp, hx, hm⟩ := h
 change (fNat hn fun n => Tr.setK (some o) (Tr.path n) hm fun m => k n (⟨Nat.succ n, hp, hx, m⟩ : H)) = _
 rw [fNat_eq, Tr.setK_eq]
 rfl
structure Env where
 σ : Nat -> Nat
 κ : Nat -> Nat
 dom : Nat -> Prop
mutual
def VR (e : Env) : V -> Value -> Prop
 | .lit v, x => x = v
 | .ptr b off, x => e.dom b /\ x = .pointer (some ⟨e.σ b, off, none⟩)
 | .slc b off len cap hid, x => e.dom b /\ x = .slice (some ⟨e.σ b, off, none⟩) len (cap + if hid then e.κ b else 0)
 | .map b, x => e.dom b /\ x = .map (some (e.σ b))
 | .fn f a c, x => ∃ l m : List Value, x = .func (.func f) l.toArray m.toArray /\ VRs e a l /\ VRs e c m
 | .yld b, x => e.dom b /\ x = .func (.yield (e.σ b)) #[] #[]
 | .agg cs, x => ∃ l : List Value, x = .agg l.toArray /\ VRs e cs l
 | .tup cs, x => ∃ l : List Value, x = .tuple l.toArray /\ VRs e cs l
 | .any, _ => False
def VRs (e : Env) : List V -> List Value -> Prop
 | [], l => l = []
 | v :: vs, l => ∃ x xs, l = x :: xs /\ VR e v x /\ VRs e vs xs
end
structure Le (e e' : Env) : Prop where
 dom : ∀ b, e.dom b -> e'.dom b
 σ : ∀ b, e.dom b -> e'.σ b = e.σ b
 κ : ∀ b, e.dom b -> e'.κ b = e.κ b
theorem Le.refl (e : Env) : Le e e := ⟨fun _ h => h, fun _ _ => rfl, fun _ _ => rfl⟩
theorem Le.trans {a b c : Env} (h : Le a b) (k : Le b c) : Le a c := ⟨fun i hi => k.dom i (h.dom i hi), fun i hi => (k.σ i (h.dom i hi)).trans (h.σ i hi), fun i hi => (k.κ i (h.dom i hi)).trans (h.κ i hi)⟩
mutual
theorem VR.mono {e e' : Env} (h : Le e e') : ∀ (v : V) (x : Value), VR e v x -> VR e' v x
 | .lit v, x, k => by unfold VR at *; exact k
 | .ptr b off, x, k => by unfold VR at *; exact ⟨h.dom b k.1, by rw [h.σ b k.1]; exact k.2⟩
 | .slc b off len cap hid, x, k => by unfold VR at *; exact ⟨h.dom b k.1, by rw [h.σ b k.1, h.κ b k.1]; exact k.2⟩
 | .map b, x, k => by unfold VR at *; exact ⟨h.dom b k.1, by rw [h.σ b k.1]; exact k.2⟩
 | .fn f a c, x, k => by
   unfold VR at *
   obtain ⟨l, m, k1, k2, k3⟩ := k
   exact ⟨l, m, k1, VRs.mono h a l k2, VRs.mono h c m k3⟩
 | .yld b, x, k => by unfold VR at *; exact ⟨h.dom b k.1, by rw [h.σ b k.1]; exact k.2⟩
 | .agg cs, x, k => by
   unfold VR at *
   obtain ⟨l, k1, k2⟩ := k
   exact ⟨l, k1, VRs.mono h cs l k2⟩
 | .tup cs, x, k => by
   unfold VR at *
   obtain ⟨l, k1, k2⟩ := k
   exact ⟨l, k1, VRs.mono h cs l k2⟩
 | .any, x, k => by unfold VR at k; exact k.elim
theorem VRs.mono {e e' : Env} (h : Le e e') : ∀ (vs : List V) (l : List Value), VRs e vs l -> VRs e' vs l
 | [], l, k => by unfold VRs at *; exact k
 | v :: vs, l, k => by
   unfold VRs at *
   obtain ⟨x, xs, k1, k2, k3⟩ := k
   exact ⟨x, xs, k1, VR.mono h v x k2, VRs.mono h vs xs k3⟩
end
section
variable {e : Env}
theorem VR_lit {v x : Value} : VR e (.lit v) x ↔ x = v := by unfold VR; rfl
theorem VR_ptr {b off : Nat} {x : Value} : VR e (.ptr b off) x ↔ e.dom b /\ x = .pointer (some ⟨e.σ b, off, none⟩) := by conv => lhs; unfold VR
theorem VR_slc {b off len cap : Nat} {hid : Bool} {x : Value} : VR e (.slc b off len cap hid) x ↔ e.dom b /\ x = .slice (some ⟨e.σ b, off, none⟩) len (cap + if hid then e.κ b else 0) := by conv => lhs; unfold VR
theorem VR_map {b : Nat} {x : Value} : VR e (.map b) x ↔ e.dom b /\ x = .map (some (e.σ b)) := by conv => lhs; unfold VR
theorem VR_fn {f : FuncId} {a c : List V} {x : Value} : VR e (.fn f a c) x ↔ ∃ l m : List Value, x = .func (.func f) l.toArray m.toArray /\ VRs e a l /\ VRs e c m := by conv => lhs; unfold VR
theorem VR_yld {b : Nat} {x : Value} : VR e (.yld b) x ↔ e.dom b /\ x = .func (.yield (e.σ b)) #[] #[] := by conv => lhs; unfold VR
theorem VR_agg {cs : List V} {x : Value} : VR e (.agg cs) x ↔ ∃ l : List Value, x = .agg l.toArray /\ VRs e cs l := by conv => lhs; unfold VR
theorem VR_tup {cs : List V} {x : Value} : VR e (.tup cs) x ↔ ∃ l : List Value, x = .tuple l.toArray /\ VRs e cs l := by conv => lhs; unfold VR
theorem VR_any {x : Value} (h : VR e .any x) : False := by unfold VR at h; exact h
theorem VRs_nil {l : List Value} : VRs e [] l ↔ l = [] := by unfold VRs; rfl
theorem VRs_cons {v : V} {vs : List V} {l : List Value} : VRs e (v :: vs) l ↔ ∃ x xs, l = x :: xs /\ VR e v x /\ VRs e vs xs := by conv => lhs; unfold VRs
theorem VRs_len : ∀ {vs : List V} {l : List Value}, VRs e vs l -> l.length = vs.length
 | [], l, h => by rw [VRs_nil.1 h]; rfl
 | v :: vs, l, h => by
   obtain ⟨x, xs, rfl, -, h2⟩ := VRs_cons.1 h
   simp [VRs_len h2]
theorem VRs_get : ∀ {vs : List V} {l : List Value} {i : Nat} {v : V}, VRs e vs l -> vs[i]? = some v -> ∃ x, l[i]? = some x /\ VR e v x
 | u :: vs, l, 0, v, h, hi => by
   obtain ⟨x, xs, rfl, h1, h2⟩ := VRs_cons.1 h
   simp only [List.getElem?_cons_zero, Option.some.injEq] at hi
   subst hi
   exact ⟨x, rfl, h1⟩
 | u :: vs, l, i + 1, v, h, hi => by
   obtain ⟨x, xs, rfl, h1, h2⟩ := VRs_cons.1 h
   obtain ⟨y, h3, h4⟩ := VRs_get h2 (i := i) (v := v) (by simpa using hi)
   exact ⟨y, by simpa using h3, h4⟩
theorem VRs_append : ∀ {vs us : List V} {l m : List Value}, VRs e vs l -> VRs e us m -> VRs e (vs ++ us) (l ++ m)
 | [], us, l, m, h, k => by rw [VRs_nil.1 h]; exact k
 | v :: vs, us, l, m, h, k => by
   obtain ⟨x, xs, rfl, h1, h2⟩ := VRs_cons.1 h
   exact VRs_cons.2 ⟨x, xs ++ m, rfl, h1, VRs_append h2 k⟩
theorem VRs_take : ∀ {vs : List V} {l : List Value} (n : Nat), VRs e vs l -> VRs e (vs.take n) (l.take n)
 | _, _, 0, _ => by simp [VRs_nil]
 | [], l, n + 1, h => by rw [VRs_nil.1 h]; simp [VRs_nil]
 | v :: vs, l, n + 1, h => by
   obtain ⟨x, xs, rfl, h1, h2⟩ := VRs_cons.1 h
   exact VRs_cons.2 ⟨x, xs.take n, rfl, h1, VRs_take n h2⟩
theorem VRs_drop : ∀ {vs : List V} {l : List Value} (n : Nat), VRs e vs l -> VRs e (vs.drop n) (l.drop n)
 | _, _, 0, h => h
 | [], l, n + 1, h => by rw [VRs_nil.1 h]; simp [VRs_nil]
 | v :: vs, l, n + 1, h => by
   obtain ⟨x, xs, rfl, h1, h2⟩ := VRs_cons.1 h
   exact VRs_drop n h2
theorem VRs_lits : ∀ (l : List Value), VRs e (l.map .lit) l
 | [] => VRs_nil.2 rfl
 | x :: l => VRs_cons.2 ⟨x, l, rfl, VR_lit.2 rfl, VRs_lits l⟩
theorem VR_ofV (v : Value) : VR e (ofV v) v := by
 cases v <;> first | exact VR_lit.2 rfl | (unfold ofV; exact VR_agg.2 ⟨_, by simp, VRs_lits _⟩)
theorem lits_VRs : ∀ {vs : List V} {l m : List Value}, lits vs = some l -> VRs e vs m -> m = l
 | [], l, m, h, k => by cases h; exact VRs_nil.1 k
 | v :: vs, l, m, h, k => by
   obtain ⟨x, xs, rfl, k1, k2⟩ := VRs_cons.1 k
   cases v <;> simp only [lits] at h <;> try (cases h; done)
   rename_i u
   cases hl : lits vs with
   | none => rw [hl] at h; cases h
   | some l' =>
     rw [hl] at h
     cases h
     rw [lits_VRs hl k2, VR_lit.1 k1]
theorem plain_VR {v : V} {u x : Value} (h : v.plain = some u) (k : VR e v x) : x = u := by
 cases v <;> simp only [V.plain] at h <;> try (cases h; done)
 · cases h; exact VR_lit.1 k
 · rename_i cs
   obtain ⟨l, rfl, k2⟩ := VR_agg.1 k
   cases hl : lits cs with
   | none => rw [hl] at h; cases h
   | some m =>
     rw [hl] at h
     cases h
     rw [lits_VRs hl k2]
theorem plains_VRs : ∀ {vs : List V} {l m : List Value}, plains vs = some l -> VRs e vs m -> m = l
 | [], l, m, h, k => by cases h; exact VRs_nil.1 k
 | v :: vs, l, m, h, k => by
   obtain ⟨x, xs, rfl, k1, k2⟩ := VRs_cons.1 k
   unfold plains at h
   cases hv : v.plain with
   | none => rw [hv] at h; cases h
   | some u =>
     cases hl : plains vs with
     | none => rw [hv, hl] at h; cases h
     | some l' =>
       rw [hv, hl] at h
       cases h
       rw [plains_VRs hl k2, plain_VR hv k1]
theorem uniq_cons {v : V} {vs : List V} {l m : List Value} (h : VRs e (v :: vs) l) (k : VRs e (v :: vs) m) (h1 : ∀ x y, VR e v x -> VR e v y -> x = y) (h2 : ∀ l m, VRs e vs l -> VRs e vs m -> l = m) : l = m := by
 obtain ⟨x, xs, rfl, a1, a2⟩ := VRs_cons.1 h
 obtain ⟨y, ys, rfl, b1, b2⟩ := VRs_cons.1 k
 rw [h1 x y a1 b1, h2 xs ys a2 b2]
mutual
theorem VR_uniq : ∀ (v : V) (x y : Value), VR e v x -> VR e v y -> x = y
 | .lit v, x, y, h, k => by rw [VR_lit.1 h, VR_lit.1 k]
 | .ptr b off, x, y, h, k => by rw [(VR_ptr.1 h).2, (VR_ptr.1 k).2]
 | .slc b off len cap hid, x, y, h, k => by rw [(VR_slc.1 h).2, (VR_slc.1 k).2]
 | .map b, x, y, h, k => by rw [(VR_map.1 h).2, (VR_map.1 k).2]
 | .fn f a c, x, y, h, k => by
   obtain ⟨l, m, rfl, a1, a2⟩ := VR_fn.1 h
   obtain ⟨l', m', rfl, b1, b2⟩ := VR_fn.1 k
   rw [VRs_uniq a l l' a1 b1, VRs_uniq c m m' a2 b2]
 | .yld b, x, y, h, k => by rw [(VR_yld.1 h).2, (VR_yld.1 k).2]
 | .agg cs, x, y, h, k => by
   obtain ⟨l, rfl, a1⟩ := VR_agg.1 h
   obtain ⟨l', rfl, b1⟩ := VR_agg.1 k
   rw [VRs_uniq cs l l' a1 b1]
 | .tup cs, x, y, h, k => by
   obtain ⟨l, rfl, a1⟩ := VR_tup.1 h
   obtain ⟨l', rfl, b1⟩ := VR_tup.1 k
   rw [VRs_uniq cs l l' a1 b1]
 | .any, x, y, h, k => (VR_any h).elim
theorem VRs_uniq : ∀ (vs : List V) (l m : List Value), VRs e vs l -> VRs e vs m -> l = m
 | [], l, m, h, k => by rw [VRs_nil.1 h, VRs_nil.1 k]
 | v :: vs, l, m, h, k => uniq_cons h k (VR_uniq v) (VRs_uniq vs)
end
theorem lits_self : ∀ {vs : List V} {l : List Value}, lits vs = some l -> VRs e vs l
 | [], l, h => by cases h; exact VRs_nil.2 rfl
 | v :: vs, l, h => by
   cases v <;> simp only [lits] at h <;> try (cases h; done)
   cases hl : lits vs with
   | none => rw [hl] at h; cases h
   | some l' =>
     rw [hl] at h
     cases h
     exact VRs_cons.2 ⟨_, _, rfl, VR_lit.2 rfl, lits_self hl⟩
theorem plain_self {v : V} {u : Value} (h : v.plain = some u) : VR e v u := by
 cases v <;> simp only [V.plain] at h <;> try (cases h; done)
 · cases h; exact VR_lit.2 rfl
 · rename_i cs
   cases hl : lits cs with
   | none => rw [hl] at h; cases h
   | some m =>
     rw [hl] at h
     cases h
     exact VR_agg.2 ⟨m, rfl, lits_self hl⟩
theorem plains_self : ∀ {vs : List V} {l : List Value}, plains vs = some l -> VRs e vs l
 | [], l, h => by cases h; exact VRs_nil.2 rfl
 | v :: vs, l, h => by
   unfold plains at h
   cases hv : v.plain with
   | none => rw [hv] at h; cases h
   | some u =>
     cases hl : plains vs with
     | none => rw [hv, hl] at h; cases h
     | some l' =>
       rw [hv, hl] at h
       cases h
       exact VRs_cons.2 ⟨_, _, rfl, plain_self hv, plains_self hl⟩
theorem bare_VR {e' : Env} {v : V} {x : Value} (h : bare v = true) (k : VR e v x) : VR e' v x := by
 cases v <;> simp only [bare] at h <;> try (cases h; done)
 · exact VR_lit.2 (VR_lit.1 k)
 · obtain ⟨l, rfl, k2⟩ := VR_agg.1 k
   obtain ⟨m, hm⟩ := Option.isSome_iff_exists.1 h
   rw [lits_VRs hm k2]
   exact VR_agg.2 ⟨m, rfl, lits_self hm⟩
 · obtain ⟨l, rfl, k2⟩ := VR_tup.1 k
   obtain ⟨m, hm⟩ := Option.isSome_iff_exists.1 h
   rw [plains_VRs hm k2]
   exact VR_tup.2 ⟨m, rfl, plains_self hm⟩
end
def TR (e : Env) (v : V) (x : Value) : Prop := v = .any ∨ VR e v x
theorem TR.mono {e e' : Env} (h : Le e e') {v : V} {x : Value} (k : TR e v x) : TR e' v x := k.imp_right (VR.mono h v x)
theorem knV_ok {v u : V} (h : knV v = .ok u) : u = v /\ v ≠ .any := by
 cases v <;> first | (cases h; exact ⟨rfl, fun h => by cases h⟩) | cases h
theorem gotV_eq (x : Option V) : gotV x = knV (x.getD uV) := by cases x <;> rfl
theorem TR.got {e : Env} {q : Option V} {u : V} {x : Value} (k : TR e (q.getD uV) x) (h : gotV q = .ok u) : VR e u x := by
 rw [gotV_eq] at h
 obtain ⟨rfl, h2⟩ := knV_ok h
 exact k.resolve_left h2
end
section
set_option linter.unusedSimpArgs false
set_option linter.unusedVariables false
open Go Go.RowKit
def EsR (e : Env) : List (Value × V × Nat) -> List MapEntry -> Prop
 | [], l => l = []
 | q :: es, l => ∃ x l', l = { key := q.1, val := x, born := q.2.2 } :: l' /\ VR e q.2.1 x /\ EsR e es l'
def ObR (P : Program) (e : Env) (b : Nat) : Ob -> Obj -> Prop
 | .cells c elem, o => ∃ l rest : List Value, o = .cells (l ++ rest).toArray elem (0, 0) /\ VRs e c l /\ ∀ s, sizeT P elem = some s -> rest.length = e.κ b * s
 | .map es clock, o => ∃ l : List MapEntry, o = .map l.toArray clock /\ EsR e es l
 | .siter s pos, o => o = .stringIter s pos
 | .miter m clk, o => o = .mapIter (some (e.σ m)) clk #[] clk /\ e.dom m
 | .mat m clk s, o => ∃ seen : Array Nat, o = .mapIter (some (e.σ m)) clk seen clk /\ seen.back? = some s /\ e.dom m
 | .loop st pend t sz ps asg bd d, o => ∃ (fn : FuncId) (tm : Array Value), o = .loop { state := st, pending := pend, fn := fn, tmps := tm, params := ps.toArray, assign := asg, body := bd, defers := e.σ d } /\ e.dom d /\ tm.size = sz /\ ∀ i, TR e ((t.get i).getD uV) (tm.getD i undef)
 | .dfr true, o => o = .deferred (some [])
 | .dfr false, o => o = .deferred none
theorem EsR.mono {e e' : Env} (h : Le e e') : ∀ (es : List (Value × V × Nat)) (l : List MapEntry), EsR e es l -> EsR e' es l
 | [], _, k => k
 | q :: es, l, ⟨x, l', k1, k2, k3⟩ => ⟨x, l', k1, k2.mono h, EsR.mono h es l' k3⟩
theorem ObR.mono {P : Program} {e e' : Env} {b : Nat} (h : Le e e') (hb : e.dom b) : ∀ {o : Ob} {x : Obj}, ObR P e b o x -> ObR P e' b o x
 | .cells c elem, x, ⟨l, rest, k1, k2, k3⟩ => ⟨l, rest, k1, k2.mono h, fun s hs => by rw [k3 s hs, h.κ b hb]⟩
 | .map es clock, x, ⟨l, k1, k2⟩ => ⟨l, k1, k2.mono h⟩
 | .siter s pos, x, k => k
 | .miter m clk, x, ⟨k1, k2⟩ => ⟨by rw [h.σ m k2]; exact k1, h.dom m k2⟩
 | .mat m clk s, x, ⟨seen, k1, k3, k2⟩ => ⟨seen, by rw [h.σ m k2]; exact k1, k3, h.dom m k2⟩
 | .loop st pend t sz ps asg bd d, x, ⟨fn, tm, k1, k2, k3, k4⟩ => ⟨fn, tm, by rw [h.σ d k2]; exact k1, h.dom d k2, k3, fun i => (k4 i).mono h⟩
 | .dfr true, x, k => k
 | .dfr false, x, k => k
structure Rel (P : Program) (e : Env) (h : H) (w : World) : Prop where
 lt : ∀ b, e.dom b -> b < h.n
 old : ∀ b, e.dom b -> e.σ b < w.heap.size
 at_ : ∀ b o, h.get b = some o -> e.dom b /\ ∃ x, w.heap[e.σ b]? = some x /\ ObR P e b o x
 inj : ∀ b c o o', h.get b = some o -> h.get c = some o' -> e.σ b = e.σ c -> b = c
structure Step (h : H) (e : Env) (w : World) (h' : H) (e' : Env) (w' : World) : Prop where
 le : Le e e'
 n : h.n <= h'.n
 p : h'.p = h.p
 x : h'.x = h.x
 new : ∀ b, e'.dom b -> e.dom b ∨ (h.n <= b /\ b < h'.n)
 img : ∀ b, e'.dom b -> ¬ e.dom b -> w.heap.size <= e'.σ b ∨ ∃ c, e.dom c /\ free h c /\ e'.σ b = e.σ c
 os : w'.os = w.os
 tape : w'.tape = w.tape
 output : w'.output = w.output
 size : w.heap.size <= w'.heap.size
 keep : ∀ k, k < w.heap.size -> (∀ c, e.dom c -> free h c -> e.σ c ≠ k) -> w'.heap[k]? = w.heap[k]?
theorem Step.refl (h : H) (e : Env) (w : World) : Step h e w h e w :=
 ⟨Le.refl e, Nat.le_refl _, rfl, rfl, fun _ hb => .inl hb, fun _ hb hn => absurd hb hn, rfl, rfl, rfl, Nat.le_refl _, fun _ _ _ => rfl⟩
theorem Step.trans {h0 h1 h2 : H} {e0 e1 e2 : Env} {w0 w1 w2 : World} (a : Step h0 e0 w0 h1 e1 w1) (b : Step h1 e1 w1 h2 e2 w2) : Step h0 e0 w0 h2 e2 w2 := by
 have fr : ∀ c, free h1 c -> free h0 c := fun c hc => by unfold free at *; rw [<- a.p, <- a.x]; exact hc
 refine ⟨a.le.trans b.le, Nat.le_trans a.n b.n, b.p.trans a.p, b.x.trans a.x, fun i hi => ?_, fun i hi hn => ?_, b.os.trans a.os, b.tape.trans a.tape, b.output.trans a.output, Nat.le_trans a.size b.size, fun k hk hc => ?_⟩
 · rcases b.new i hi with h | h
   · rcases a.new i h with h | h
     · exact .inl h
     · exact .inr ⟨h.1, Nat.lt_of_lt_of_le h.2 b.n⟩
   · exact .inr ⟨Nat.le_trans a.n h.1, h.2⟩
 · by_cases h1 : e1.dom i
   · rw [b.le.σ i h1]
     exact a.img i h1 hn
   · rcases b.img i hi h1 with h | ⟨c, c1, c2, c3⟩
     · exact .inl (Nat.le_trans a.size h)
     · by_cases h0 : e0.dom c
       · exact .inr ⟨c, h0, fr c c2, by rw [c3, a.le.σ c h0]⟩
       · rcases a.img c c1 h0 with h | ⟨d, d1, d2, d3⟩
         · exact .inl (by rw [c3]; exact h)
         · exact .inr ⟨d, d1, d2, by rw [c3, d3]⟩
 · rw [b.keep k (Nat.lt_of_lt_of_le hk a.size) fun c c1 c2 => ?_, a.keep k hk hc]
   by_cases h0 : e0.dom c
   · rw [a.le.σ c h0]
     exact hc c h0 (fr c c2)
   · rcases a.img c c1 h0 with h | ⟨d, d1, d2, d3⟩
     · omega
     · rw [d3]
       exact hc d d1 d2
theorem Rel.drew {P : Program} {e : Env} {h : H} {w : World} (r : Rel P e h w) : Rel P e h w.drew := ⟨r.lt, r.old, r.at_, r.inj⟩
theorem Step.drew (h : H) (e : Env) (w : World) : Step h e w h e w.drew :=
 ⟨Le.refl e, Nat.le_refl _, rfl, rfl, fun _ hb => .inl hb, fun _ hb hn => absurd hb hn, rfl, rfl, rfl, Nat.le_refl _, fun _ _ _ => rfl⟩
theorem get_set_same (h : H) (b n p x : Nat) (o : Option Ob) : (⟨n, p, x, Tr.setP o (Tr.path b) h.m⟩ : H).get b = o := Tr.get_set_same _ _ _
theorem get_set_other (h : H) {b c : Nat} (n p x : Nat) (o : Option Ob) (hc : c ≠ b) : (⟨n, p, x, Tr.setP o (Tr.path b) h.m⟩ : H).get c = h.get c := Tr.get_set_other _ _ hc
def Env.more (e : Env) (n r k : Nat) : Env := ⟨fun b => if b = n then r else e.σ b, fun b => if b = n then k else e.κ b, fun b => b = n ∨ e.dom b⟩
theorem Env.le_more {e : Env} {n r k : Nat} (hn : ¬ e.dom n) : Le e (e.more n r k) := by
 have : ∀ b, e.dom b -> b ≠ n := fun b hb he => hn (he ▸ hb)
 exact ⟨fun b hb => .inr hb, fun b hb => by simp [Env.more, this b hb], fun b hb => by simp [Env.more, this b hb]⟩
theorem rel_new {P : Program} {e : Env} {h : H} {w : World} {o : Ob} {x : Obj} (k : Nat) (r : Rel P e h w) (ho : ObR P (e.more h.n w.heap.size k) h.n o x) :
  Rel P (e.more h.n w.heap.size k) (h.with o) (w.alloc x) /\ Step h e w (h.with o) (e.more h.n w.heap.size k) (w.alloc x) /\ (e.more h.n w.heap.size k).dom h.n /\ (e.more h.n w.heap.size k).σ h.n = w.heap.size /\ (e.more h.n w.heap.size k).κ h.n = k := by
 have hn : ¬ e.dom h.n := fun hd => by have := r.lt _ hd; omega
 have hle : Le e (e.more h.n w.heap.size k) := Env.le_more hn
 have hs : (e.more h.n w.heap.size k).σ h.n = w.heap.size := by simp [Env.more]
 have hk : (e.more h.n w.heap.size k).κ h.n = k := by simp [Env.more]
 refine ⟨⟨fun b hb => ?_, fun b hb => ?_, fun b o' hb => ?_, fun b c o1 o2 h1 h2 he => ?_⟩, ⟨hle, Nat.le_succ _, rfl, rfl, fun b hb => ?_, fun b hb hnb => ?_, rfl, rfl, rfl, by simp, fun i hi _ => ?_⟩, .inl rfl, hs, hk⟩
 · rcases hb with rfl | hb
   · exact Nat.lt_succ_self _
   · exact Nat.lt_succ_of_lt (r.lt b hb)
 · rcases hb with rfl | hb
   · rw [hs]; simp
   · rw [hle.σ b hb]; have := r.old b hb; simp; omega
 · by_cases hbn : b = h.n
   · subst hbn
     unfold H.with at hb
     rw [get_set_same] at hb
     cases hb
     refine ⟨.inl rfl, x, ?_, ho⟩
     rw [hs]
     show (w.heap.push x)[w.heap.size]? = some x
     simp
   · unfold H.with at hb
     rw [get_set_other _ _ _ _ _ hbn] at hb
     obtain ⟨h1, y, h2, h3⟩ := r.at_ b o' hb
     refine ⟨.inr h1, y, ?_, h3.mono hle h1⟩
     rw [hle.σ b h1, Below.heap_alloc w x _ (r.old b h1)]
     exact h2
 · unfold H.with at h1 h2
   by_cases hb : b = h.n
   · by_cases hc : c = h.n
     · rw [hb, hc]
     · exfalso
       rw [get_set_other _ _ _ _ _ hc] at h2
       have := (r.at_ c o2 h2).1
       rw [hb, hs, hle.σ c this] at he
       have := r.old c this
       omega
   · rw [get_set_other _ _ _ _ _ hb] at h1
     have hb' := (r.at_ b o1 h1).1
     by_cases hc : c = h.n
     · exfalso
       rw [hc, hs, hle.σ b hb'] at he
       have := r.old b hb'
       omega
     · rw [get_set_other _ _ _ _ _ hc] at h2
       have hc' := (r.at_ c o2 h2).1
       rw [hle.σ b hb', hle.σ c hc'] at he
       exact r.inj b c o1 o2 h1 h2 he
 · rcases hb with rfl | hb
   · exact .inr ⟨Nat.le_refl _, Nat.lt_succ_self _⟩
   · exact .inl hb
 · rcases hb with rfl | hb
   · exact .inl (by rw [hs]; exact Nat.le_refl _)
   · exact absurd hb hnb
 · exact Below.heap_alloc w x i hi
theorem rel_set {P : Program} {e : Env} {h : H} {w w' : World} {b : Nat} {o o' : Ob} {x : Obj} (r : Rel P e h w) (hf : free h b) (hb : h.get b = some o) (hx : ObR P e b o' x)
  (hat : w'.heap[e.σ b]? = some x) (hoth : ∀ k, k ≠ e.σ b -> w'.heap[k]? = w.heap[k]?) (hsz : w'.heap.size = w.heap.size) (h1 : w'.os = w.os) (h2 : w'.tape = w.tape) (h3 : w'.output = w.output) :
  Rel P e ⟨h.n, h.p, h.x, Tr.setP (some o') (Tr.path b) h.m⟩ w' /\ Step h e w ⟨h.n, h.p, h.x, Tr.setP (some o') (Tr.path b) h.m⟩ e w' := by
 have hd := (r.at_ b o hb).1
 refine ⟨⟨r.lt, fun c hc => by rw [hsz]; exact r.old c hc, fun c q hc => ?_, fun c d q1 q2 hc hd' he => ?_⟩, ⟨Le.refl e, Nat.le_refl _, rfl, rfl, fun _ hb => .inl hb, fun _ hb hn => absurd hb hn, h1, h2, h3, by omega, fun k hk hc => hoth k fun e' => hc b hd hf e'.symm⟩⟩
 · by_cases hcb : c = b
   · subst hcb
     rw [get_set_same] at hc
     cases hc
     exact ⟨hd, x, hat, hx⟩
   · rw [get_set_other _ _ _ _ _ hcb] at hc
     obtain ⟨c1, y, c2, c3⟩ := r.at_ c q hc
     refine ⟨c1, y, ?_, c3⟩
     rw [hoth _ fun e' => hcb (r.inj c b q o hc hb e')]
     exact c2
 · have key : ∀ c q, (⟨h.n, h.p, h.x, Tr.setP (some o') (Tr.path b) h.m⟩ : H).get c = some q -> ∃ q', h.get c = some q' := fun c q hc => by
    by_cases hcb : c = b
    · exact ⟨o, hcb ▸ hb⟩
    · rw [get_set_other _ _ _ _ _ hcb] at hc
      exact ⟨q, hc⟩
   obtain ⟨a1, k1⟩ := key c q1 hc
   obtain ⟨a2, k2⟩ := key d q2 hd'
   exact r.inj c d a1 a2 k1 k2 he
theorem rel_drop {P : Program} {e : Env} {h : H} {w : World} {b : Nat} (r : Rel P e h w) : Rel P e ⟨h.n, h.p, h.x, Tr.setP none (Tr.path b) h.m⟩ w := by
 have key : ∀ c q, (⟨h.n, h.p, h.x, Tr.setP none (Tr.path b) h.m⟩ : H).get c = some q -> h.get c = some q := fun c q hc => by
  by_cases hcb : c = b
  · subst hcb
    rw [get_set_same] at hc
    cases hc
  · rw [get_set_other _ _ _ _ _ hcb] at hc
    exact hc
 exact ⟨r.lt, r.old, fun c q hc => r.at_ c q (key c q hc), fun c d q1 q2 hc hd he => r.inj c d q1 q2 (key c q1 hc) (key d q2 hd) he⟩
theorem step_drop (h : H) (e : Env) (w : World) (b : Nat) : Step h e w ⟨h.n, h.p, h.x, Tr.setP none (Tr.path b) h.m⟩ e w :=
 ⟨Le.refl e, Nat.le_refl _, rfl, rfl, fun _ hb => .inl hb, fun _ hb hn => absurd hb hn, rfl, rfl, rfl, Nat.le_refl _, fun _ _ _ => rfl⟩
theorem Rel.less {P : Program} {e : Env} {h g : H} {w : World} (r : Rel P e h w) (hn : h.n <= g.n) (hg : ∀ b o, g.get b = some o -> h.get b = some o) : Rel P e g w :=
 ⟨fun b hb => Nat.lt_of_lt_of_le (r.lt b hb) hn, r.old, fun b o hb => r.at_ b o (hg b o hb), fun b c o o' hb hc => r.inj b c o o' (hg b o hb) (hg c o' hc)⟩
structure Got (P : Program) (h : H) (e : Env) (w : World) (h' : H) (v : V) (x : Value) (w' : World) : Prop where
 get : ∃ e', Rel P e' h' w' /\ Step h e w h' e' w' /\ VR e' v x
theorem Got.same {P : Program} {h : H} {e : Env} {w : World} {v : V} {x : Value} (r : Rel P e h w) (k : VR e v x) : Got P h e w h v x w := ⟨e, r, Step.refl h e w, k⟩
end
section
set_option linter.unusedSimpArgs false
set_option linter.unusedVariables false
open Go Go.RowKit
theorem prun_ok (P : Program) {α : Type} (w : World) : ∀ (m : Sem α) (a : α), prun P m = some a -> m.run P w = .ok a w
 | .pure x, a, h => by cases h; rfl
 | .program k, a, h => prun_ok P w (k P) a h
 | .mark m k, a, h => prun_ok P w k a h
 | .load .., _, h => by cases h
 | .store .., _, h => by cases h
 | .new .., _, h => by cases h
 | .shape .., _, h => by cases h
 | .freeze .., _, h => by cases h
 | .frozen .., _, h => by cases h
 | .getObj .., _, h => by cases h
 | .setObj .., _, h => by cases h
 | .choose .., _, h => by cases h
 | .sys .., _, h => by cases h
 | .halt .., _, h => by cases h
section
variable {P : Program} {w : World} {e : Env}
theorem run_und {t : TypeId} {d : TypeDesc} (h : P.underlying t = some d) : (underlying t).run P w = .ok d w := by
 unfold underlying; simp [h]
theorem run_size {t : TypeId} {s : Nat} (h : sizeT P t = some s) : (sizeOf t).run P w = .ok s w := by
 unfold sizeT at h
 cases hi : P.info? t with
 | none => rw [hi] at h; cases h
 | some i => rw [hi] at h; cases h; unfold sizeOf typeInfo; simp [hi]
theorem run_bytes {t : TypeId} {s : Nat} (h : bytesT P t = some s) : ∃ i, (typeInfo t).run P w = .ok i w /\ i.bytes = s := by
 unfold bytesT at h
 cases hi : P.info? t with
 | none => rw [hi] at h; cases h
 | some i => rw [hi] at h; cases h; exact ⟨i, by unfold typeInfo; simp [hi], rfl⟩
theorem run_zero {t : TypeId} {z : V} (h : zeroT P t = some z) : ∃ x, (∀ w : World, (zeroValue t).run P w = .ok x w) /\ z = ofV x := by
 unfold zeroT at h
 cases hi : P.info? t with
 | none => rw [hi] at h; cases h
 | some i =>
   rw [hi] at h
   cases hz : i.zero with
   | none => simp only [hz] at h; cases h
   | some x =>
     simp only [hz] at h
     cases h
     exact ⟨x, fun w => by unfold zeroValue typeInfo; simp [hi, hz], rfl⟩
theorem run_isAgg {t : TypeId} {b : Bool} (h : isAggT P t = some b) : (isAgg t).run P w = .ok b w := by
 unfold isAggT at h
 unfold isAgg
 cases hu : P.underlying t with
 | none => rw [hu] at h; cases h
 | some d =>
   rw [hu] at h
   simp only [Sem.run_bind, run_und hu, Result.andThen_ok]
   cases d <;> simp only [Option.some.injEq] at h <;> subst h <;> rfl
theorem cells_VR {v : V} {x : Value} (h : VR e v x) : VRs e v.cells x.cells.toList := by
 cases v with
 | lit u =>
   rw [VR_lit.1 h]
   cases u <;> first | exact VRs_lits _ | exact VRs_cons.2 ⟨_, _, rfl, VR_lit.2 rfl, VRs_nil.2 rfl⟩
 | agg cs =>
   obtain ⟨l, rfl, k⟩ := VR_agg.1 h
   exact k
 | ptr b off => rw [(VR_ptr.1 h).2]; exact VRs_cons.2 ⟨_, _, rfl, VR_ptr.2 ⟨(VR_ptr.1 h).1, rfl⟩, VRs_nil.2 rfl⟩
 | slc b off len cap hid => rw [(VR_slc.1 h).2]; exact VRs_cons.2 ⟨_, _, rfl, VR_slc.2 ⟨(VR_slc.1 h).1, rfl⟩, VRs_nil.2 rfl⟩
 | map b => rw [(VR_map.1 h).2]; exact VRs_cons.2 ⟨_, _, rfl, VR_map.2 ⟨(VR_map.1 h).1, rfl⟩, VRs_nil.2 rfl⟩
 | yld b => rw [(VR_yld.1 h).2]; exact VRs_cons.2 ⟨_, _, rfl, VR_yld.2 ⟨(VR_yld.1 h).1, rfl⟩, VRs_nil.2 rfl⟩
 | fn f a c =>
   obtain ⟨l, m, rfl, k⟩ := VR_fn.1 h
   exact VRs_cons.2 ⟨_, _, rfl, VR_fn.2 ⟨l, m, rfl, k⟩, VRs_nil.2 rfl⟩
 | tup cs =>
   obtain ⟨l, rfl, k⟩ := VR_tup.1 h
   exact VRs_cons.2 ⟨_, _, rfl, VR_tup.2 ⟨l, rfl, k⟩, VRs_nil.2 rfl⟩
 | any => exact (VR_any h).elim
theorem scalar_one {v : V} {x : Value} (h : v.scalar = true) (k : VR e v x) : x.oneCell' = true := by
 cases v with
 | lit u => rw [VR_lit.1 k]; cases u <;> first | rfl | (cases h)
 | agg cs => cases h
 | tup cs => cases h
 | ptr b off => rw [(VR_ptr.1 k).2]; rfl
 | slc b off len cap hid => rw [(VR_slc.1 k).2]; rfl
 | map b => rw [(VR_map.1 k).2]; rfl
 | yld b => rw [(VR_yld.1 k).2]; rfl
 | fn f a c =>
   obtain ⟨l, m, rfl, -⟩ := VR_fn.1 k
   rfl
 | any => exact (VR_any k).elim
theorem scalars_one : ∀ {vs : List V} {l : List Value}, vs.all V.scalar = true -> VRs e vs l -> ∀ x ∈ l, x.oneCell' = true
 | [], l, _, k, x, hx => by rw [VRs_nil.1 k] at hx; cases hx
 | v :: vs, l, h, k, x, hx => by
   obtain ⟨y, ys, rfl, k1, k2⟩ := VRs_cons.1 k
   rw [List.all_cons, Bool.and_eq_true] at h
   rcases List.mem_cons.1 hx with rfl | hx
   · exact scalar_one h.1 k1
   · exact scalars_one h.2 k2 x hx
def lay {α : Type} : List α -> Nat -> List α -> List α
 | l, _, [] => l
 | l, i, v :: vs => lay (l.set i v) (i + 1) vs
theorem lay_cons {α : Type} (y : α) : ∀ (vs : List α) (l : List α) (i : Nat), lay (y :: l) (i + 1) vs = y :: lay l i vs
 | [], l, i => rfl
 | v :: vs, l, i => by show lay ((y :: l).set (i + 1) v) (i + 1 + 1) vs = y :: lay (l.set i v) (i + 1) vs; rw [List.set_cons_succ]; exact lay_cons y vs _ _
theorem over_lay : ∀ (c : List V) (i : Nat) (vs c' : List V), over c i vs = some c' -> c' = lay c i vs /\ i + vs.length <= c.length
 | c, 0, [], c', h => by
   unfold over at h
   cases h
   exact ⟨rfl, Nat.zero_le _⟩
 | [], 0, v :: vs, c', h => by simp [over] at h
 | x :: c, 0, v :: vs, c', h => by
   unfold over at h
   cases ho : over c 0 vs with
   | none => rw [ho] at h; cases h
   | some r =>
     rw [ho] at h
     cases h
     obtain ⟨h1, h2⟩ := over_lay c 0 vs r ho
     refine ⟨?_, by simp; omega⟩
     show v :: r = lay ((x :: c).set 0 v) 1 vs
     rw [List.set_cons_zero, lay_cons, h1]
 | [], i + 1, vs, c', h => by cases vs <;> simp [over] at h
 | x :: c, i + 1, vs, c', h => by
   have h' : (match over c i vs with | some r => some (x :: r) | none => none) = some c' := by
    cases vs <;> (unfold over at h; exact h)
   cases ho : over c i vs with
   | none => rw [ho] at h'; cases h'
   | some r =>
     rw [ho] at h'
     cases h'
     obtain ⟨h1, h2⟩ := over_lay c i vs r ho
     exact ⟨by rw [lay_cons, h1], by simp; omega⟩
theorem VRs_set : ∀ {vs : List V} {l : List Value} (i : Nat) {v : V} {x : Value}, VRs e vs l -> VR e v x -> VRs e (vs.set i v) (l.set i x)
 | [], l, i, v, x, h, k => by rw [VRs_nil.1 h]; exact VRs_nil.2 rfl
 | u :: vs, l, 0, v, x, h, k => by
   obtain ⟨y, ys, rfl, h1, h2⟩ := VRs_cons.1 h
   exact VRs_cons.2 ⟨x, ys, rfl, k, h2⟩
 | u :: vs, l, i + 1, v, x, h, k => by
   obtain ⟨y, ys, rfl, h1, h2⟩ := VRs_cons.1 h
   exact VRs_cons.2 ⟨y, ys.set i x, rfl, h1, VRs_set i h2 k⟩
theorem VRs_lay : ∀ {us : List V} {m : List Value} (vs : List V) (l : List Value) (i : Nat), VRs e vs l -> VRs e us m -> VRs e (lay vs i us) (lay l i m)
 | [], m, vs, l, i, h, k => by rw [VRs_nil.1 k]; exact h
 | u :: us, m, vs, l, i, h, k => by
   obtain ⟨y, ys, rfl, k1, k2⟩ := VRs_cons.1 k
   exact VRs_lay _ _ (i + 1) (VRs_set i h k1) k2
theorem add_at (k off i : Nat) : (⟨k, off, none⟩ : Addr).add i = ⟨k, off + i, none⟩ := by
 unfold Addr.add
 split
 · next h => rw [h]; rfl
 · rfl
theorem cell_of {k j : Nat} {l : List Value} {t : TypeId} {f : Nat × Nat} (h : w.heap[k]? = some (.cells l.toArray t f)) : w.cell? ⟨k, j, none⟩ = l[j]? := by
 simp [World.cell?, h]
theorem loadFrom_run {k off : Nat} {l : List Value} {t : TypeId} {f : Nat × Nat} (h : w.heap[k]? = some (.cells l.toArray t f)) : ∀ (n i : Nat) (acc : Array Value), off + i + n <= l.length ->
  (loadCellsFrom ⟨k, off, none⟩ i n acc).run P w = .ok (acc ++ ((l.drop (off + i)).take n).toArray) w
 | 0, i, acc, _ => by simp [loadCellsFrom]
 | n + 1, i, acc, hl => by
   have hx : l[off + i]? = some (l[off + i]'(by omega)) := List.getElem?_eq_getElem (by omega)
   simp only [loadCellsFrom, Sem.run_bind, run_load, add_at, cell_of h, hx, Result.andThen_ok]
   rw [loadFrom_run h n (i + 1) _ (by omega)]
   congr 1
   rw [List.drop_eq_getElem_cons (i := off + i) (by omega), List.take_succ_cons, Array.push_eq_append, Array.append_assoc]
   congr 1
   simp [Nat.add_assoc]
theorem load_run {k off n : Nat} {l : List Value} {t : TypeId} {f : Nat × Nat} (h : w.heap[k]? = some (.cells l.toArray t f)) (hl : off + n <= l.length) :
  (loadCells ⟨k, off, none⟩ n).run P w = .ok ((l.drop off).take n).toArray w := by
 unfold loadCells
 rw [loadFrom_run h n 0 #[] (by omega)]
 simp
structure One (k : Nat) (w w' : World) : Prop where
 oth : ∀ j, j ≠ k -> w'.heap[j]? = w.heap[j]?
 size : w'.heap.size = w.heap.size
 os : w'.os = w.os
 tape : w'.tape = w.tape
 output : w'.output = w.output
theorem setCell_one (k j : Nat) (v : Value) : One k w (w.setCell ⟨k, j, none⟩ v) :=
 ⟨fun i hi => Below.heap_setCell w ⟨k, j, none⟩ v i hi, by simp [World.setCell], rfl, rfl, rfl⟩
theorem setCell_at {k j : Nat} {l : List Value} {t : TypeId} {f : Nat × Nat} (h : w.heap[k]? = some (.cells l.toArray t f)) (v : Value) : (w.setCell ⟨k, j, none⟩ v).heap[k]? = some (.cells (l.set j v).toArray t f) := by
 simp [World.setCell, Array.getElem?_modify, h]
theorem storeCells_run {k off : Nat} {t : TypeId} {rest : List Value} : ∀ (vs : List Value) (i : Nat) (w : World) (l : List Value), w.heap[k]? = some (.cells (l ++ rest).toArray t (0, 0)) -> off + i + vs.length <= l.length -> (∀ x ∈ vs, x.oneCell' = true) ->
  ∃ w', (storeCells ⟨k, off, none⟩ vs i).run P w = .ok () w' /\ w'.heap[k]? = some (.cells (lay l (off + i) vs ++ rest).toArray t (0, 0)) /\ One k w w'
 | [], i, w, l, h, _, _ => ⟨w, rfl, h, fun _ _ => rfl, rfl, rfl, rfl, rfl⟩
 | v :: vs, i, w, l, h, hl, hv => by
   simp only [List.length_cons] at hl
   have hc : w.cell? ⟨k, off + i, none⟩ = some ((l ++ rest)[off + i]'(by simp; omega)) := by rw [cell_of h]; exact List.getElem?_eq_getElem (by simp; omega)
   have hfz : w.frozen? ⟨k, off + i, none⟩ = false := by simp [World.frozen?, h]
   have h1 := setCell_at (j := off + i) h v
   rw [List.set_append_left _ _ (by omega)] at h1
   obtain ⟨w', r1, r2, r3⟩ := storeCells_run (off := off) vs (i + 1) (w.setCell ⟨k, off + i, none⟩ v) (l.set (off + i) v) h1 (by simp; omega) (fun x hx => hv x (List.mem_cons_of_mem _ hx))
   have o1 := setCell_one (w := w) k (off + i) v
   refine ⟨w', ?_, r2, ⟨fun j hj => (r3.oth j hj).trans (o1.oth j hj), r3.size.trans o1.size, r3.os.trans o1.os, r3.tape.trans o1.tape, r3.output.trans o1.output⟩⟩
   simp only [storeCells, Sem.run_bind, add_at, run_store P w _ v _ (hv v (by simp)), hc, hfz, Bool.false_eq_true, if_false, Result.andThen_ok]
   exact r1
theorem takeN_some {c : List V} {off n : Nat} {r : List V} (h : takeN c off n = some r) : r = (c.drop off).take n /\ (n = 0 ∨ off + n <= c.length) := by
 unfold takeN at h
 simp only at h
 split at h
 · next hb =>
   cases h
   have := Nat.eq_of_beq_eq_true hb
   simp at this
   exact ⟨rfl, by omega⟩
 · cases h
theorem part_run {t : TypeId} {cs : List V} {off : Nat} {v : V} {l : List Value} (h : partT P t cs off = .ok v) (k : VRs e cs l) : ∃ x, (part t l.toArray off).run P w = .ok x w /\ VR e v x := by
 unfold partT at h
 obtain ⟨b, hb, h⟩ := eo_ok h
 unfold part
 simp only [Sem.run_bind, run_isAgg hb, Result.andThen_ok]
 cases b with
 | true =>
   simp only at h
   obtain ⟨s, hs, h⟩ := eo_ok h
   cases h
   simp only [if_true, Sem.run_bind, run_size hs, Result.andThen_ok, Sem.run_pure]
   refine ⟨_, rfl, VR_agg.2 ⟨(l.drop off).take s, ?_, VRs_take _ (VRs_drop _ k)⟩⟩
   congr 1
   simp [List.extract_eq_take_drop]
 | false =>
   simp only at h
   obtain ⟨u, hu, h⟩ := eo_ok h
   cases h
   obtain ⟨x, h1, h2⟩ := VRs_get k hu
   refine ⟨x, ?_, h2⟩
   simp [h1]
end
end
section
set_option linter.unusedSimpArgs false
set_option linter.unusedVariables false
open Go Go.RowKit
def OpsR (e : Env) (a : Fr) (ρ : Operand -> Value) (xs : List Operand) : Prop := ∀ x ∈ xs, ∀ v, ev a x = .ok v -> VR e v (ρ x)
theorem OpsR.evs {e : Env} {a : Fr} {ρ : Operand -> Value} : ∀ {xs : List Operand} {vs : List V}, OpsR e a ρ xs -> evs a xs = .ok vs -> VRs e vs (xs.map ρ)
 | [], vs, _, h => by cases h; exact VRs_nil.2 rfl
 | x :: xs, vs, k, h => by
   unfold Go.Proofs.YtpdhdgdbknnllaaGreatDoor.evs at h
   obtain ⟨v, h1, h⟩ := eb_ok h
   obtain ⟨us, h2, h⟩ := eb_ok h
   cases h
   exact VRs_cons.2 ⟨_, _, rfl, k x (by simp) v h1, OpsR.evs (fun y hy => k y (List.mem_cons_of_mem _ hy)) h2⟩
structure Does (P : Program) (s : Sem Value) (h : H) (e : Env) (w : World) (h' : H) (v : V) : Prop where
 get : ∃ x w', s.run P w = .ok x w' /\ Got P h e w h' v x w'
section
variable {P : Program} {e : Env} {h h' : H} {w : World} {v : V}
theorem kV_ok {r : E V} (k : kV h r = .ok (v, h')) : r = .ok v /\ h' = h := by
 unfold kV at k
 obtain ⟨u, h1, h2⟩ := eb_ok k
 cases h2
 exact ⟨h1, rfl⟩
theorem Does.pure {s : Sem Value} {x : Value} (r : Rel P e h w) (hs : s.run P w = .ok x w) (hv : VR e v x) : Does P s h e w h v := ⟨x, w, hs, Got.same r hv⟩
theorem block_at {b : Nat} {c : List V} {t : TypeId} (r : Rel P e h w) (hb : h.get b = some (.cells c t)) : e.dom b /\ ∃ l rest : List Value, w.heap[e.σ b]? = some (.cells (l ++ rest).toArray t (0, 0)) /\ VRs e c l /\ ∀ s, sizeT P t = some s -> rest.length = e.κ b * s := by
 obtain ⟨h1, x, h2, l, rest, rfl, h3, h4⟩ := r.at_ b _ hb
 exact ⟨h1, l, rest, h2, h3, h4⟩
theorem loads_ok {t : TypeId} {a : V} {y : Value} (r : Rel P e h w) (hy : VR e a y) (k : opLoad P t h a = .ok v) : ∃ x, (Instr.loadAt t y).run P w = .ok x w /\ VR e v x := by
 cases a <;> simp only [opLoad] at k <;> try (cases k; done)
 rename_i b off
 obtain ⟨-, rfl⟩ := VR_ptr.1 hy
 cases hb : h.get b with
 | none => rw [hb] at k; cases k
 | some o =>
   rw [hb] at k
   cases o <;> simp only at k <;> try (cases k; done)
   rename_i c el
   obtain ⟨-, l, rest, h2, h3, -⟩ := block_at r hb
   obtain ⟨ag, ha, k⟩ := eo_ok k
   have hl := VRs_len h3
   cases ag with
   | true =>
     simp only at k
     obtain ⟨s, hs, k⟩ := eo_ok k
     obtain ⟨q, hq, k⟩ := eo_ok k
     cases k
     obtain ⟨rfl, hlen⟩ := takeN_some hq
     have hV := VRs_take s (VRs_drop off h3)
     refine ⟨.agg ((l.drop off).take s).toArray, ?_, VR_agg.2 ⟨_, rfl, hV⟩⟩
     simp only [Instr.loadAt, Instr.sureAddr, loadVar, Sem.run_bind, Sem.run_pure, Result.andThen_ok, run_isAgg ha, if_true, run_size hs]
     rcases hlen with rfl | hlen
     · simp [loadCells, loadCellsFrom]
     · rw [load_run h2 (by simp; omega)]
       simp only [Result.andThen_ok, Sem.run_pure]
       rw [List.drop_append_of_le_length (by omega), List.take_append_of_le_length (by simp; omega)]
   | false =>
     simp only at k
     obtain ⟨q, hq, k⟩ := eo_ok k
     cases k
     obtain ⟨x, hx, hv⟩ := VRs_get h3 hq
     refine ⟨x, ?_, hv⟩
     have hlt := (List.getElem?_eq_some_iff.1 hx).1
     simp only [Instr.loadAt, Instr.sureAddr, loadVar, Sem.run_bind, Sem.run_pure, Result.andThen_ok, run_isAgg ha, Bool.false_eq_true, if_false, run_load, cell_of h2, List.getElem?_append_left hlt, hx]
theorem load_ok {t : TypeId} {a : V} {y : Value} (r : Rel P e h w) (hy : VR e a y) (k : opLoad P t h a = .ok v) : Does P (Instr.loadAt t y) h e w h v := by
 obtain ⟨x, h1, h2⟩ := loads_ok r hy k
 exact Does.pure r h1 h2
theorem storeAt_ok {b off : Nat} {vs : List V} {xs : List Value} (r : Rel P e h w) (hx : VRs e vs xs) (k : opStoreAt h b off vs = .ok h') :
  ∃ w', (storeCells ⟨e.σ b, off, none⟩ xs).run P w = .ok () w' /\ Rel P e h' w' /\ Step h e w h' e w' := by
 unfold opStoreAt at k
 cases hb : h.get b with
 | none => rw [hb] at k; cases k
 | some o =>
   rw [hb] at k
   cases o <;> simp only at k <;> try (cases k; done)
   rename_i c el
   obtain ⟨hd, l, rest, h2, h3, h4⟩ := block_at r hb
   obtain ⟨hsc, k⟩ := ec_ok k
   rw [fVs_eq] at k
   obtain ⟨c', hc', k⟩ := eo_ok k
   obtain ⟨rfl, hlen⟩ := over_lay c off vs c' hc'
   obtain ⟨hf, rfl⟩ := set_ok k
   have hl := VRs_len h3
   have hxl := VRs_len hx
   obtain ⟨w', r1, r2, r3⟩ := storeCells_run (P := P) (off := off) xs 0 w l h2 (by omega) (scalars_one hsc hx)
   obtain ⟨g1, g2⟩ := rel_set (o' := .cells (lay c off vs) el) r hf hb ⟨_, rest, rfl, VRs_lay c l off h3 hx, h4⟩ r2 r3.oth r3.size r3.os r3.tape r3.output
   exact ⟨w', r1, g1, g2⟩
theorem store_ok {t : TypeId} {a u : V} {y x : Value} (r : Rel P e h w) (hy : VR e a y) (hx : VR e u x) (k : opStore P t h a u = .ok h') :
  ∃ w', (Instr.storeAt t y x).run P w = .ok () w' /\ Rel P e h' w' /\ Step h e w h' e w' := by
 cases a <;> simp only [opStore] at k <;> try (cases k; done)
 rename_i b off
 obtain ⟨-, rfl⟩ := VR_ptr.1 hy
 obtain ⟨s, hs, k⟩ := eo_ok k
 obtain ⟨hl, k⟩ := ec_ok k
 have hc := cells_VR hx
 obtain ⟨w', r1, r2, r3⟩ := storeAt_ok r hc k
 refine ⟨w', ?_, r2, r3⟩
 have hsz : ¬ x.cells.size ≠ s := by
  have h1 := VRs_len hc
  have h2 := Nat.eq_of_beq_eq_true hl
  rw [<- Array.length_toList]
  omega
 simp only [Instr.storeAt, Instr.sureAddr, storeVar, Sem.run_bind, Sem.run_pure, Result.andThen_ok, run_size hs, if_neg hsz]
 exact r1
theorem new_ok {el : TypeId} {cs : List V} {l : List Value} {b : Nat} (r : Rel P e h w) (hl : VRs e cs l) (k : opNew h el cs = .ok (b, h')) :
  ∃ e', (newRow el l.toArray).run P w = .ok ⟨e'.σ b, 0, none⟩ (w.alloc (.cells l.toArray el)) /\ Rel P e' h' (w.alloc (.cells l.toArray el)) /\ Step h e w h' e' (w.alloc (.cells l.toArray el)) /\ e'.dom b /\ e'.κ b = 0 := by
 unfold opNew at k
 obtain ⟨-, k⟩ := ec_ok k
 rw [fVs_eq, newK_eq] at k
 cases k
 have hn : ¬ e.dom h.n := fun hd => by have := r.lt _ hd; omega
 obtain ⟨g1, g2, g3, g4, g5⟩ := rel_new (o := .cells cs el) (x := .cells l.toArray el) 0 r ⟨l, [], by simp, hl.mono (Env.le_more hn), fun s _ => by simp [Env.more]⟩
 exact ⟨_, by simp [newRow, g4], g1, g2, g3, g5⟩
theorem ptr_ok {el : TypeId} {cs : List V} {l : List Value} {s : Sem Value} (r : Rel P e h w) (hl : VRs e cs l) (hs : ∀ a w', (newRow el l.toArray).run P w = .ok a w' -> s.run P w = .ok (.pointer (some a)) w') (k : kPtr (opNew h el cs) = .ok (v, h')) : Does P s h e w h' v := by
 unfold kPtr at k
 obtain ⟨⟨b, h1⟩, k1, k2⟩ := eb_ok k
 cases k2
 obtain ⟨e', g1, g2, g3, g4, -⟩ := new_ok r hl k1
 exact ⟨_, _, hs _ _ g1, e', g2, g3, VR_ptr.2 ⟨g4, rfl⟩⟩
theorem alloc_ok {el : TypeId} (r : Rel P e h w) (k : pAlloc P h el = .ok (v, h')) : Does P (Instr.alloc el true (.tuple #[])) h e w h' v := by
 unfold pAlloc at k
 obtain ⟨z, hz, k⟩ := eo_ok k
 obtain ⟨x, hx, rfl⟩ := run_zero hz
 refine ptr_ok r (cells_VR (VR_ofV x)) (fun a w' hr => ?_) k
 simp only [Instr.alloc, Sem.run_bind, hx, Result.andThen_ok, newVar]
 rw [show x.cells = x.cells.toList.toArray by simp, hr]
 rfl
theorem box_ok {el : TypeId} {u : V} {x : Value} (r : Rel P e h w) (hx : VR e u x) (k : kPtr (opNew h el u.cells) = .ok (v, h')) : Does P (Instr.box el x) h e w h' v := by
 refine ptr_ok r (cells_VR hx) (fun a w' hr => ?_) k
 simp only [Instr.box, Sem.run_bind, newVar]
 rw [show x.cells = x.cells.toList.toArray by simp, hr]
 rfl
theorem fold_lay (off : Nat) : ∀ (l : List Value) (i : Nat) (cs : Array Value), (l.zipIdx i).foldl (fun cs (q : Value × Nat) => cs.setIfInBounds (off + q.2) q.1) cs = (lay cs.toList (off + i) l).toArray
 | [], i, cs => by simp [lay]
 | x :: l, i, cs => by
   rw [List.zipIdx_cons, List.foldl_cons, fold_lay off l (i + 1)]
   simp [lay, Nat.add_assoc]
theorem fill_ok {place : Nat -> Option (Nat × Nat)} {pl : Nat -> Option (Nat × Nat)} (hp : ∀ i q, place i = some q -> pl i = some q) : ∀ (ps : List (Nat × V)) (qs : List (Nat × Value)) (cs cs' : List V) (l : List Value), VRs e (ps.map (·.2)) (qs.map (·.2)) -> ps.map (·.1) = qs.map (·.1) -> VRs e cs l -> fillT place cs ps = .ok cs' ->
  ∃ l', Instr.fill pl l.toArray qs = some l'.toArray /\ VRs e cs' l'
 | [], [], cs, cs', l, _, _, h3, k => by cases k; exact ⟨l, rfl, h3⟩
 | [], q :: qs, cs, cs', l, _, h2, _, _ => by simp at h2
 | p :: ps, [], cs, cs', l, _, h2, _, _ => by simp at h2
 | (i, v) :: ps, (j, x) :: qs, cs, cs', l, h1, h2, h3, k => by
   obtain ⟨y, ys, h4, h5, h6⟩ := VRs_cons.1 h1
   simp only [List.map_cons, List.cons.injEq] at h4 h2
   obtain ⟨rfl, h4⟩ := h4
   obtain ⟨rfl, h2⟩ := h2
   unfold fillT at k
   obtain ⟨⟨off, size⟩, hpl, k⟩ := eo_ok k
   simp only at k
   obtain ⟨hsz, k⟩ := ec_ok k
   obtain ⟨c2, hc2, k⟩ := eo_ok k
   obtain ⟨rfl, hlen⟩ := over_lay _ _ _ _ hc2
   have hc : VRs e v.cells x.cells.toList := cells_VR h5
   have hcl := VRs_len hc
   have hll := VRs_len h3
   have hsz' := Nat.eq_of_beq_eq_true hsz
   obtain ⟨l', g1, g2⟩ := fill_ok hp ps qs _ cs' (lay l off x.cells.toList) (h4 ▸ h6) h2 (VRs_lay _ _ _ h3 hc) k
   refine ⟨l', ?_, g2⟩
   unfold Instr.fill
   rw [hp i _ hpl]
   simp only
   rw [if_neg (by
    rw [Bool.or_eq_true]
    rintro (h | h)
    · have := of_decide_eq_true h
      rw [<- Array.length_toList] at this
      omega
    · have := of_decide_eq_true h
      rw [<- Array.length_toList] at this
      simp at this
      rw [Array.length_toList] at hcl
      omega)]
   have hf := fold_lay off x.cells.toList 0 l.toArray
   rw [<- g1, <- Array.foldl_toList, Array.toList_zipIdx]
   exact congrArg (fun q => Instr.fill pl q qs) hf
end
end
section
set_option linter.unusedSimpArgs false
set_option linter.unusedVariables false
open Go Go.RowKit
section
variable {P : Program} {e : Env} {h h' : H} {w : World} {v : V}
theorem places_run : ∀ (fs : List Field) (pl : List (Nat × Nat)), placesT P fs = some pl -> ∀ w, (fs.mapM (m := Sem) fun f => do pure (f.offset, <- sizeOf f.type)).run P w = .ok pl w
 | [], pl, h, w => by cases h; rfl
 | f :: fs, pl, h, w => by
   unfold placesT at h
   cases hs : sizeT P f.type with
   | none => rw [hs] at h; cases h
   | some s =>
     cases hl : placesT P fs with
     | none => rw [hs, hl] at h; cases h
     | some l =>
       rw [hs, hl] at h
       cases h
       have ih := places_run fs l hl w
       simp only [List.mapM_cons, Sem.run_bind, run_size hs, Result.andThen_ok, Sem.run_pure]
       rw [ih]
       rfl
theorem parts_split {a : Fr} {ρ : Operand -> Value} {parts : Array (Nat × Operand)} {vs : List V} (hv : VRs e vs ((parts.toList.map (·.2)).map ρ)) :
  VRs e (((parts.toList.map (·.1)).zip vs).map (·.2)) (((parts.map fun (i, x) => (i, ρ x)).toList).map (·.2)) /\ ((parts.toList.map (·.1)).zip vs).map (·.1) = ((parts.map fun (i, x) => (i, ρ x)).toList).map (·.1) := by
 have hl := VRs_len hv
 simp at hl
 refine ⟨?_, ?_⟩
 · rw [List.map_snd_zip (by simp; omega)]
   simpa [List.map_map, Function.comp_def] using hv
 · rw [List.map_fst_zip (by simp; omega)]
   simp [List.map_map, Function.comp_def]
theorem build_ok {t : TypeId} {ps : List (Nat × V)} {qs : Array (Nat × Value)} (r : Rel P e h w) (h1 : VRs e (ps.map (·.2)) (qs.toList.map (·.2))) (h2 : ps.map (·.1) = qs.toList.map (·.1)) (k : opBuild P t ps = .ok v) : Does P (Instr.build t qs) h e w h v := by
 unfold opBuild at k
 obtain ⟨z, hz, k⟩ := eo_ok k
 obtain ⟨x, hx, rfl⟩ := run_zero hz
 have hc : VRs e (ofV x).cells x.cells.toList := cells_VR (VR_ofV x)
 cases hu : P.underlying t with
 | none => rw [hu] at k; cases k
 | some d =>
   rw [hu] at k
   cases d <;> simp only at k <;> try (cases k; done)
   · rename_i n el
     obtain ⟨s, hs, k⟩ := eo_ok k
     obtain ⟨cs, hf, k⟩ := eb_ok k
     cases k
     obtain ⟨l', g1, g2⟩ := fill_ok (pl := fun i => some (i * s, s)) (fun _ _ hq => hq) ps qs.toList _ cs _ h1 h2 hc hf
     refine Does.pure r (x := .agg l'.toArray) ?_ (VR_agg.2 ⟨_, rfl, g2⟩)
     simp only [Array.toArray_toList] at g1
     simp only [Instr.build, Sem.run_bind, hx, Result.andThen_ok, run_und hu, run_size hs, g1, Sem.run_pure]
   · rename_i fs
     obtain ⟨pl, hp, k⟩ := eo_ok k
     obtain ⟨cs, hf, k⟩ := eb_ok k
     cases k
     unfold placesOf at hp
     rw [hu] at hp
     obtain ⟨l', g1, g2⟩ := fill_ok (pl := fun i => pl.toArray[i]?) (fun i q hq => by simpa using hq) ps qs.toList _ cs _ h1 h2 hc hf
     refine Does.pure r (x := .agg l'.toArray) ?_ (VR_agg.2 ⟨_, rfl, g2⟩)
     simp only [Array.toArray_toList] at g1
     have hm := places_run _ _ hp w
     simp only [Instr.build, Sem.run_bind, hx, Result.andThen_ok, run_und hu, Array.mapM_eq_mapM_toList, Sem.run_map, hm, g1, Sem.run_pure]
def repL : Nat -> List Value -> List Value
 | 0, _ => []
 | n + 1, z => z ++ repL n z
theorem repL_VR {zs : List V} {z : List Value} (hz : VRs e zs z) : ∀ n, VRs e (repeatC n zs) (repL n z)
 | 0 => VRs_nil.2 rfl
 | n + 1 => VRs_append hz (repL_VR hz n)
theorem repL_len (z : List Value) : ∀ n, (repL n z).length = n * z.length
 | 0 => by simp [repL]
 | n + 1 => by simp [repL, repL_len z n, Nat.succ_mul]; omega
theorem repL_get (z : List Value) : ∀ (n i : Nat), i < n * z.length -> (repL n z)[i]? = z[i % z.length]?
 | 0, i, h => by simp at h
 | n + 1, i, h => by
   unfold repL
   by_cases hi : i < z.length
   · rw [List.getElem?_append_left hi, Nat.mod_eq_of_lt hi]
   · rw [List.getElem?_append_right (by omega), repL_get z n _ (by rw [Nat.add_one_mul] at h; omega), <- Nat.mod_eq_sub_mod (by omega)]
theorem zeros_eq (zero : Array Value) (n s : Nat) (hs : zero.size = s) : (Array.range (n * s)).map (zero[· % zero.size]!) = (repL n zero.toList).toArray := by
 apply Array.ext_getElem?
 intro i
 by_cases hi : i < n * s
 · have h0 : 0 < s := by
    rcases Nat.eq_zero_or_pos s with h | h
    · subst h; simp at hi
    · exact h
   have hm : i % zero.size < zero.size := Nat.mod_lt _ (by omega)
   rw [show (repL n zero.toList).toArray[i]? = (repL n zero.toList)[i]? by simp, repL_get _ _ _ (by simpa [hs] using hi)]
   simp only [Array.getElem?_map, Array.getElem?_range, if_pos hi, Option.map_some, Array.length_toList, Array.getElem?_toList]
   rw [getElem!_pos zero _ hm, Array.getElem?_eq_getElem hm]
 · rw [Array.getElem?_eq_none (by simpa using hi), Array.getElem?_eq_none (by simp [repL_len, hs]; omega)]
theorem buildSlice_ok {t : TypeId} {len : Nat} {ps : List (Nat × V)} {qs : Array (Nat × Value)} (r : Rel P e h w) (h1 : VRs e (ps.map (·.2)) (qs.toList.map (·.2))) (h2 : ps.map (·.1) = qs.toList.map (·.1)) (k : opBuildSlice P t len ps h = .ok (v, h')) : Does P (Instr.buildSlice t len qs) h e w h' v := by
 unfold opBuildSlice at k
 cases hu : P.underlying t with
 | none => rw [hu] at k; cases k
 | some d =>
   rw [hu] at k
   cases d <;> simp only at k <;> try (cases k; done)
   rename_i el
   obtain ⟨s, hs, k⟩ := eo_ok k
   obtain ⟨z, hz, k⟩ := eo_ok k
   obtain ⟨hb, k⟩ := ec_ok k
   obtain ⟨cs, hf, k⟩ := eb_ok k
   obtain ⟨⟨b, h2'⟩, hn, k⟩ := eb_ok k
   cases k
   obtain ⟨x, hx, rfl⟩ := run_zero hz
   have hc : VRs e (ofV x).cells x.cells.toList := cells_VR (VR_ofV x)
   simp only [Bool.and_eq_true] at hb
   have b1 : len * s < 100000 := Nat.lt_of_succ_le (Nat.le_of_ble_eq_true hb.1.1)
   have b2 : 0 < s := Nat.lt_of_succ_le (Nat.le_of_ble_eq_true hb.1.2)
   have b3 := Nat.eq_of_beq_eq_true hb.2
   have b4 := VRs_len hc
   obtain ⟨l', g1, g2⟩ := fill_ok (pl := fun i => some (i * s, s)) (fun _ _ hq => hq) ps qs.toList _ cs _ h1 h2 (repL_VR hc len) hf
   obtain ⟨e', f1, f2, f3, f4, f5⟩ := new_ok r g2 hn
   refine ⟨_, _, ?_, e', f2, f3, VR_slc.2 ⟨f4, rfl⟩⟩
   have hzs : x.cells.size = s := by rw [<- Array.length_toList]; omega
   simp only [Instr.buildSlice, Sem.run_bind, run_und hu, Result.andThen_ok, run_size hs]
   by_cases h0 : len * s = 0
   · have hl0 : len = 0 := by
      rcases Nat.mul_eq_zero.1 h0 with h | h
      · exact h
      · omega
     subst hl0
     simp only [Nat.zero_mul, repL] at g1 ⊢
     have e0 : (Array.map (fun i : Nat => (#[] : Array Value)[i % (#[] : Array Value).size]!) (Array.range 0)) = ([] : List Value).toArray := by simp
     rw [if_neg (by omega)]
     simp only [if_true, Sem.run_pure, Result.andThen_ok, Sem.run_bind]
     rw [e0, g1]
     simp only [Sem.run_bind, f1, Result.andThen_ok, Sem.run_pure]
     rfl
   · rw [if_neg (by omega), if_neg h0]
     simp only [Sem.run_bind, hx, Result.andThen_ok, Sem.run_pure, zeros_eq _ len s hzs, g1, f1]
     simp
theorem asN_ok {u : V} {x : Value} {n : Nat} (k : asN u = .ok n) (hx : VR e u x) : x = .int .i64 n := by
 unfold asN at k
 split at k
 · rename_i m
   split at k
   · cases k
   · cases k
     rw [VR_lit.1 hx]
     congr 1
     omega
 · cases k
theorem idx_ok {u : V} {x : Value} {n : Nat} (k : idx u = .ok n) (hx : VR e u x) : ∃ q : IntKind, x = .int q n := by
 unfold idx at k
 split at k
 · rename_i q m
   split at k
   · cases k
   · cases k
     rw [VR_lit.1 hx]
     refine ⟨q, ?_⟩
     congr 1
     omega
 · cases k
theorem makeSlice_ok {t : TypeId} {a c : V} {y z : Value} (r : Rel P e h w) (hy : VR e a y) (hz' : VR e c z) (k : opMakeSlice P t a c h = .ok (v, h')) : Does P (Instr.makeSlice t y z) h e w h' v := by
 unfold opMakeSlice at k
 cases hu : P.underlying t with
 | none => rw [hu] at k; cases k
 | some d =>
   rw [hu] at k
   cases d <;> simp only at k <;> try (cases k; done)
   rename_i el
   obtain ⟨l, hl, k⟩ := eb_ok k
   obtain ⟨m, hm, k⟩ := eb_ok k
   obtain ⟨s, hs, k⟩ := eo_ok k
   obtain ⟨by_, hby, k⟩ := eo_ok k
   obtain ⟨q, hq, k⟩ := eo_ok k
   obtain ⟨hb, k⟩ := ec_ok k
   obtain ⟨⟨b, h2'⟩, hn, k⟩ := eb_ok k
   cases k
   obtain ⟨x, hx, rfl⟩ := run_zero hq
   have hc : VRs e (ofV x).cells x.cells.toList := cells_VR (VR_ofV x)
   simp only [Bool.and_eq_true] at hb
   have b1 : l <= m := Nat.le_of_ble_eq_true hb.1.1.1.1
   have b2 : m * by_ < 1000000 := Nat.lt_of_succ_le (Nat.le_of_ble_eq_true hb.1.1.1.2)
   have b3 : m < 1000000 := Nat.lt_of_succ_le (Nat.le_of_ble_eq_true hb.1.1.2)
   have b4 : 0 < s := Nat.lt_of_succ_le (Nat.le_of_ble_eq_true hb.1.2)
   have b5 := Nat.eq_of_beq_eq_true hb.2
   have b6 := VRs_len hc
   have hzs : x.cells.size = s := by rw [<- Array.length_toList]; omega
   obtain ⟨e', f1, f2, f3, f4, f5⟩ := new_ok r (repL_VR hc m) hn
   refine ⟨_, _, ?_, e', f2, f3, VR_slc.2 ⟨f4, rfl⟩⟩
   obtain ⟨i, hi, rfl⟩ := run_bytes (w := w) hby
   rw [asN_ok hl hy, asN_ok hm hz']
   have w1 : IntKind.i64.wrap (l : Int) = l := IntWalk.i64_in _ ⟨by omega, by omega⟩
   have w2 : IntKind.i64.wrap (m : Int) = m := IntWalk.i64_in _ ⟨by omega, by omega⟩
   have hge : ¬ ((m : Int) < 0) := by omega
   have hle : ¬ ((i.bytes : Int) * (m : Int) > 2 ^ 48) := by
    have h9 : ((i.bytes : Int) * (m : Int)) = ((m * i.bytes : Nat) : Int) := by push_cast; exact Int.mul_comm _ _
    rw [h9]
    omega
   have hl0 : ¬ ((l : Int) < 0) := by omega
   have hlm : ¬ ((l : Int) > (m : Int)) := by omega
   simp only [Instr.makeSlice, Sem.run_bind, run_und hu, Result.andThen_ok, asInt, asIntOf, Sem.run_pure, hi, w1, w2, hge, hle, hl0, hlm, decide_false, Bool.or_false, Bool.false_eq_true, if_false, run_askRoom, Int.toNat_natCast, run_size hs]
   by_cases h0 : m * s = 0
   · have hm0 : m = 0 := by
      rcases Nat.mul_eq_zero.1 h0 with h | h
      · exact h
      · omega
     subst hm0
     simp only [repL] at f1 f2 f3
     simp only [Nat.zero_mul, if_true, Sem.run_pure, Result.andThen_ok, Sem.run_bind]
     have : (Array.map (fun i : Nat => (#[] : Array Value)[i % (#[] : Array Value).size]!) (Array.range 0)) = ([] : List Value).toArray := by simp
     rw [this, f1]
     rfl
   · rw [if_neg h0]
     simp only [Sem.run_bind, hx, Result.andThen_ok, Sem.run_pure, zeros_eq _ m s hzs, f1]
     simp
end
end
section
set_option linter.unusedSimpArgs false
set_option linter.unusedVariables false
open Go Go.RowKit
section
variable {P : Program} {e : Env} {h h' : H} {w : World} {v : V}
theorem fields_ok {t : TypeId} {fs : List Field} (k : fieldsOf P t = .ok fs) : ∃ d : Array Field, P.underlying t = some (.struct d) /\ d.toList = fs := by
 unfold fieldsOf at k
 split at k
 · rename_i d hu
   cases k
   exact ⟨d, hu, rfl⟩
 · cases k
theorem fieldAddr_ok {s : TypeId} {f : Nat} {a : V} {y : Value} (r : Rel P e h w) (hy : VR e a y) (k : opFieldAddr P s f a = .ok v) : Does P (Instr.fieldAt s y f) h e w h v := by
 cases a <;> simp only [opFieldAddr] at k <;> try (cases k; done)
 rename_i b off
 obtain ⟨hd, rfl⟩ := VR_ptr.1 hy
 obtain ⟨fs, hfs, k⟩ := eb_ok k
 obtain ⟨d, hu, rfl⟩ := fields_ok hfs
 obtain ⟨fl, hfl, k⟩ := eo_ok k
 obtain ⟨z, hz, k⟩ := eo_ok k
 obtain ⟨h0, k⟩ := ec_ok k
 cases k
 refine Does.pure r (x := .pointer (some ⟨e.σ b, off + fl.offset, none⟩)) ?_ (VR_ptr.2 ⟨hd, rfl⟩)
 have hz0 : ¬ z = 0 := by have := Nat.lt_of_succ_le (Nat.le_of_ble_eq_true h0); omega
 have hfl' : d[f]? = some fl := by simpa using hfl
 simp only [Instr.fieldAt, Sem.run_bind, run_und hu, Result.andThen_ok, hfl', Instr.sureAddr, Sem.run_pure, fieldPlace, run_size hz, if_neg hz0, add_at]
theorem field_ok {s : TypeId} {f : Nat} {a : V} {y : Value} (r : Rel P e h w) (hy : VR e a y) (k : opField P s f a = .ok v) : Does P (Instr.field s y f) h e w h v := by
 cases a <;> simp only [opField] at k <;> try (cases k; done)
 rename_i cs
 obtain ⟨l, rfl, hl⟩ := VR_agg.1 hy
 obtain ⟨fs, hfs, k⟩ := eb_ok k
 obtain ⟨d, hu, rfl⟩ := fields_ok hfs
 obtain ⟨fl, hfl, k⟩ := eo_ok k
 obtain ⟨x, hx, hv⟩ := part_run (w := w) k hl
 refine Does.pure r ?_ hv
 have hfl' : d[f]? = some fl := by simpa using hfl
 simp only [Instr.field, Sem.run_bind, run_und hu, Result.andThen_ok, hfl', asAgg, Sem.run_pure]
 exact hx
theorem indexAddr_ok {t : TypeId} {a i : V} {y z : Value} (r : Rel P e h w) (hy : VR e a y) (hz : VR e i z) (k : opIndexAddr P t a i = .ok v) : Does P (Instr.indexAt t y z) h e w h v := by
 unfold opIndexAddr at k
 obtain ⟨n, hn, k⟩ := eb_ok k
 obtain ⟨q, rfl⟩ := idx_ok hn hz
 have hc : ∀ m : Nat, Nat.blt n m = true -> (0 : Int) <= (n : Int) /\ (n : Int) < (m : Int) := fun m hb => by
  have hlt : n < m := Nat.lt_of_succ_le (Nat.le_of_ble_eq_true hb)
  exact ⟨by omega, by omega⟩
 cases hu : P.underlying t with
 | none => rw [hu] at k; simp only at k; cases k
 | some d =>
   rw [hu] at k
   cases d with
   | slice el =>
     cases a with
     | slc b off len cap hid =>
       simp only at k
       obtain ⟨hd, rfl⟩ := VR_slc.1 hy
       obtain ⟨s, hs, k⟩ := eo_ok k
       obtain ⟨hb, k⟩ := ec_ok k
       cases k
       refine Does.pure r (x := .pointer (some ⟨e.σ b, off + n * s, none⟩)) ?_ (VR_ptr.2 ⟨hd, rfl⟩)
       simp only [Instr.indexAt, asIntOf, Sem.run_bind, Sem.run_pure, Result.andThen_ok, run_und hu, if_pos (hc _ hb), run_size hs, Int.toNat_natCast, add_at]
     | _ => simp only at k; cases k
   | array m el =>
     cases a with
     | ptr b off =>
       simp only at k
       obtain ⟨hd, rfl⟩ := VR_ptr.1 hy
       obtain ⟨s, hs, k⟩ := eo_ok k
       obtain ⟨hb, k⟩ := ec_ok k
       cases k
       refine Does.pure r (x := .pointer (some ⟨e.σ b, off + n * s, none⟩)) ?_ (VR_ptr.2 ⟨hd, rfl⟩)
       simp only [Instr.indexAt, asIntOf, Sem.run_bind, Sem.run_pure, Result.andThen_ok, run_und hu, Instr.sureAddr, if_pos (hc _ hb), run_size hs, Int.toNat_natCast, add_at]
     | _ => simp only at k; cases k
   | _ => cases a <;> simp only at k <;> cases k
theorem index_ok {t : TypeId} {a i : V} {y z : Value} (r : Rel P e h w) (hy : VR e a y) (hz : VR e i z) (k : opIndex P t a i = .ok v) : Does P (Instr.index t y z) h e w h v := by
 unfold opIndex at k
 have lit : ∀ s, a = .lit s -> (match i.plain with | some i => eo (prun P (Instr.index t s i)) "index" fun v => (.ok (.lit v) : E V) | none => .error "index") = .ok v -> Does P (Instr.index t y z) h e w h v := fun s hs kk => by
  clear k
  subst hs
  cases hi : i.plain with
  | none => rw [hi] at kk; cases kk
  | some u =>
    rw [hi] at kk
    obtain ⟨x, hx, kk⟩ := eo_ok kk
    cases kk
    rw [VR_lit.1 hy, plain_VR hi hz]
    exact Does.pure r (prun_ok P w _ _ hx) (VR_lit.2 rfl)
 cases a with
 | lit s =>
   refine lit s rfl ?_
   cases hu : P.underlying t with
   | none => rw [hu] at k; exact k
   | some d => rw [hu] at k; cases d <;> exact k
 | agg cs =>
   cases hu : P.underlying t with
   | none => rw [hu] at k; simp only at k; cases k
   | some d =>
     rw [hu] at k
     cases d <;> simp only at k <;> try (cases k; done)
     rename_i m el
     obtain ⟨n, hn, k⟩ := eb_ok k
     obtain ⟨q, rfl⟩ := idx_ok hn hz
     obtain ⟨s, hs, k⟩ := eo_ok k
     obtain ⟨hb, k⟩ := ec_ok k
     have hlt : n < m := Nat.lt_of_succ_le (Nat.le_of_ble_eq_true hb)
     obtain ⟨l, rfl, hl⟩ := VR_agg.1 hy
     obtain ⟨x, hx, hv⟩ := part_run (w := w) k hl
     refine Does.pure r ?_ hv
     have hc : (0 : Int) <= (n : Int) /\ (n : Int) < (m : Int) := ⟨by omega, by omega⟩
     simp only [Instr.index, asIntOf, Sem.run_bind, Sem.run_pure, Result.andThen_ok, run_und hu, if_pos hc, run_size hs, Int.toNat_natCast]
     exact hx
 | _ => cases hu : P.underlying t <;> rw [hu] at k <;> simp only at k <;> (try (cases k; done)) <;> (rename_i d; cases d <;> simp only at k <;> cases k)
def VRo (e : Env) : Option V -> Option Value -> Prop
 | none, x => x = none
 | some v, x => ∃ y, x = some y /\ VR e v y
theorem bound_run {y y' : Nat} {v : V} {x : Value} {d i : Nat} {code : BoundsCode} (hy : y <= y') (k : bound y (some v) d = .ok i) (hx : VR e v x) : (Instr.sliceBound x y' code).run P w = .ok i w /\ i <= y := by
 unfold bound at k
 obtain ⟨n, hn, k⟩ := eb_ok k
 obtain ⟨hb, k⟩ := ec_ok k
 cases k
 obtain ⟨q, rfl⟩ := idx_ok hn hx
 have hle := Nat.le_of_ble_eq_true hb
 refine ⟨?_, hle⟩
 have hc : (0 : Int) <= (i : Int) /\ (i : Int) <= (y' : Int) := ⟨by omega, by omega⟩
 simp only [Instr.sliceBound, asIntOf, Sem.run_bind, Sem.run_pure, Result.andThen_ok, if_pos hc, Int.toNat_natCast]
theorem bounds_run {isSlice : Bool} {len cap cap' : Nat} {lo hi mx : Option V} {lo' hi' mx' : Option Value} {m hh l : Nat} (hcap : cap <= cap') (h1 : VRo e lo lo') (h2 : VRo e hi hi') (h3 : VRo e mx mx')
  (k1 : bound cap mx cap = .ok m) (k2 : bound m hi len = .ok hh) (k3 : bound hh lo 0 = .ok l) (hmh : mx = none ∨ hi ≠ none) (hll : lo = none -> l = 0) :
  (Instr.sliceBounds isSlice len cap' lo' hi' mx').run P w = .ok (l, hh, if mx = none then cap' else m) w /\ l <= hh /\ (hi ≠ none -> hh <= m) /\ m <= cap := by
 have hcm : m <= cap := by
  cases mx with
  | none => cases k1; exact Nat.le_refl _
  | some u =>
    obtain ⟨y, hy', hy⟩ := h3
    exact (bound_run (P := P) (w := w) (code := .slice3B) (Nat.le_refl _) k1 hy).2
 have hmm : m <= if mx = none then cap' else m := by split <;> omega
 have hhm : hi ≠ none -> hh <= m := fun hne => by
  cases hi with
  | none => exact absurd rfl hne
  | some u =>
    obtain ⟨y, hy', hy⟩ := h2
    exact (bound_run (P := P) (w := w) (code := .slice3B) (Nat.le_refl _) k2 hy).2
 have hlh : l <= hh := by
  cases lo with
  | none => rw [hll rfl]; exact Nat.zero_le _
  | some u =>
    obtain ⟨y, hy', hy⟩ := h1
    exact (bound_run (P := P) (w := w) (code := .slice3B) (Nat.le_refl _) k3 hy).2
 refine ⟨?_, hlh, hhm, hcm⟩
 have L : ∀ code : BoundsCode, (match lo' with | some v => Instr.sliceBound v hh code | none => pure 0 : Sem Nat).run P w = .ok l w := fun code => by
  cases lo with
  | none => have h1' : lo' = none := h1; subst h1'; rw [hll rfl]; rfl
  | some u =>
    obtain ⟨y, rfl, hy⟩ := h1
    exact (bound_run (P := P) (w := w) (code := code) (Nat.le_refl _) k3 hy).1
 cases mx with
 | none =>
   have h3' : mx' = none := h3
   subst h3'
   cases hi with
   | none =>
     have h2' : hi' = none := h2
     subst h2'
     cases k2
     cases lo' with
     | none => have := L .sliceB; simp only at this; cases this; rfl
     | some y => have := L .sliceB; simp only at this; simp only [Instr.sliceBounds, Sem.run_bind, Sem.run_pure, Result.andThen_ok, Option.isSome_none, Bool.false_eq_true, if_false, this, if_true]
   | some u =>
     obtain ⟨z, rfl, hz⟩ := h2
     have H := fun code => (bound_run (P := P) (w := w) (code := code) hmm k2 hz).1
     simp only [if_true] at H
     cases lo' with
     | none => have := L .sliceB; simp only at this; cases this; simp only [Instr.sliceBounds, Sem.run_bind, Sem.run_pure, Result.andThen_ok, H, if_true]
     | some y => have := L .sliceB; simp only at this; simp only [Instr.sliceBounds, Sem.run_bind, Sem.run_pure, Result.andThen_ok, H, Option.isSome_none, Bool.false_eq_true, if_false, this, if_true]
 | some q =>
   obtain ⟨z, rfl, hz⟩ := h3
   have M := fun code => (bound_run (P := P) (w := w) (code := code) hcap k1 hz).1
   cases hi with
   | none => exact absurd rfl (hmh.resolve_left (by simp))
   | some u =>
     obtain ⟨z', rfl, hz'⟩ := h2
     have H := fun code => (bound_run (P := P) (w := w) (code := code) (Nat.le_refl _) k2 hz').1
     cases lo' with
     | none => have := L .slice3C; simp only at this; cases this; simp [Instr.sliceBounds, M, H]
     | some y => have := L .slice3C; simp only at this; simp [Instr.sliceBounds, M, H, this]
end
end
section
set_option linter.unusedSimpArgs false
set_option linter.unusedVariables false
open Go Go.RowKit
section
variable {P : Program} {e : Env} {h h' : H} {w : World} {v : V}
theorem bound_none {y d i : Nat} (k : bound y none d = .ok i) : i = d := by cases k; rfl
theorem beq_ne {m l : Nat} (h : m ≠ l) : Nat.beq m l = false := by cases hb : Nat.beq m l with | false => rfl | true => exact absurd (Nat.eq_of_beq_eq_true hb) h
theorem plainO_ok {o : Option V} {o' : Option Value} {q : Option Value} (k : plainO o = some q) (h : VRo e o o') : o' = q := by
 cases o with
 | none => cases k; exact h
 | some u =>
   obtain ⟨z, rfl, hz⟩ := h
   simp only [plainO] at k
   cases hp : u.plain with
   | none => rw [hp] at k; cases k
   | some x => rw [hp] at k; cases k; rw [plain_VR hp hz]
theorem sliceS_ok {t : TypeId} {s : Value} {lo hi mx : Option V} {lo' hi' mx' : Option Value} (r : Rel P e h w) (h1 : VRo e lo lo') (h2 : VRo e hi hi') (h3 : VRo e mx mx') (k : opSliceS P t s lo hi mx = .ok v) : mx' = none /\ Does P (Instr.slice t s lo' hi' none) h e w h v := by
 unfold opSliceS at k
 cases mx with
 | some _ => cases k
 | none =>
   simp only at k
   obtain ⟨l2, g1, k⟩ := eo_ok k
   obtain ⟨i2, g2, k⟩ := eo_ok k
   obtain ⟨x, hx, k⟩ := eo_ok k
   cases k
   rw [plainO_ok g1 h1, plainO_ok g2 h2]
   exact ⟨h3, Does.pure r (prun_ok P w _ _ hx) (VR_lit.2 rfl)⟩
theorem slice_ok {t : TypeId} {a : V} {y : Value} {lo hi mx : Option V} {lo' hi' mx' : Option Value} (r : Rel P e h w) (hy : VR e a y) (h1 : VRo e lo lo') (h2 : VRo e hi hi') (h3 : VRo e mx mx')
  (k : opSlice P t a lo hi mx = .ok v) : Does P (Instr.sliceAt t y lo' hi' mx') h e w h v := by
 unfold opSlice at k
 obtain ⟨hmx, k⟩ := ec_ok k
 have hmh : mx = none ∨ hi ≠ none := by
  rcases Bool.or_eq_true_iff.1 hmx with h | h
  · exact .inl (by simpa using h)
  · exact .inr (by intro e; rw [e] at h; cases h)
 cases hu : P.underlying t with
 | none => rw [hu] at k; cases a <;> simp only at k <;> cases k
 | some d =>
   rw [hu] at k
   cases d with
   | string =>
     cases a with
     | lit s =>
       simp only at k
       obtain ⟨rfl, x, w', g1, g2⟩ := sliceS_ok r h1 h2 h3 k
       rw [VR_lit.1 hy]
       exact ⟨x, w', by simp only [Instr.sliceAt, Sem.run_bind, run_und hu, Result.andThen_ok]; exact g1, g2⟩
     | _ => simp only at k; cases k
   | slice el =>
     cases a with
     | lit s =>
       simp only at k
       obtain ⟨rfl, x, w', g1, g2⟩ := sliceS_ok r h1 h2 h3 k
       rw [VR_lit.1 hy]
       exact ⟨x, w', by simp only [Instr.sliceAt, Sem.run_bind, run_und hu, Result.andThen_ok]; exact g1, g2⟩
     | slc b off len cap hid =>
       simp only [opSliceL] at k
       obtain ⟨hd, rfl⟩ := VR_slc.1 hy
       obtain ⟨m, k1, k⟩ := eb_ok k
       obtain ⟨hh, k2, k⟩ := eb_ok k
       obtain ⟨l, k3, k⟩ := eb_ok k
       obtain ⟨s, hs, k⟩ := eo_ok k
       obtain ⟨q1, q2, q3, q4⟩ := bounds_run (P := P) (w := w) (isSlice := true) (cap' := cap + if hid then e.κ b else 0) (by omega) h1 h2 h3 k1 k2 k3 hmh (fun hl => by subst hl; exact bound_none k3)
       cases mx with
       | some u =>
         simp only at k
         cases k
         refine Does.pure r (x := .slice (some ⟨e.σ b, Tr.br (Nat.beq m l) off (off + l * s), none⟩) (hh - l) (m - l + if false then e.κ b else 0)) ?_ (VR_slc.2 ⟨hd, rfl⟩)
         simp only [Instr.sliceAt, Instr.slice, Sem.run_bind, run_und hu, Result.andThen_ok, q1, run_size hs, Sem.run_pure, Option.map_some, add_at]
         simp only [reduceCtorEq, if_false, Bool.false_eq_true, Nat.add_zero]
         by_cases hml : m = l
         · subst hml; simp [Tr.br]
         · rw [if_neg hml, beq_ne hml]
           rfl
       | none =>
         simp only at k
         obtain ⟨hc, k⟩ := ec_ok k
         cases k
         have hm := bound_none k1
         subst hm
         refine Does.pure r (x := .slice (some ⟨e.σ b, Tr.br (Nat.beq m l) off (off + l * s), none⟩) (hh - l) (m - l + if hid then e.κ b else 0)) ?_ (VR_slc.2 ⟨hd, rfl⟩)
         rw [Bool.and_eq_true] at hc
         have hlm : l <= m := Nat.le_of_ble_eq_true hc.2
         simp only [Instr.sliceAt, Instr.slice, Sem.run_bind, run_und hu, Result.andThen_ok, q1, run_size hs, Sem.run_pure, Option.map_some, add_at, if_true]
         by_cases hml : m = l
         · subst hml
           rw [show Nat.beq m m = true from Nat.beq_refl m] at hc ⊢
           rcases Bool.or_eq_true_iff.1 hc.1 with h | h
           · have : hid = false := by cases hid <;> simp_all
             subst this
             simp [Tr.br]
           · have := Nat.eq_of_beq_eq_true h
             subst this
             simp only [Nat.zero_mul, Nat.add_zero, ite_self, Tr.br]
             congr 2 <;> omega
         · have hne : ¬ ((m + if hid = true then e.κ b else 0) = l) := by split <;> omega
           rw [if_neg hne, beq_ne hml]
           show Result.ok (Value.slice _ _ _) w = Result.ok (Value.slice _ _ _) w
           congr 2 <;> omega
     | _ => simp only at k; cases k
   | array n el =>
     cases a with
     | ptr b off =>
       simp only [opSliceA] at k
       obtain ⟨hd, rfl⟩ := VR_ptr.1 hy
       obtain ⟨m, k1, k⟩ := eb_ok k
       obtain ⟨hh, k2, k⟩ := eb_ok k
       obtain ⟨l, k3, k⟩ := eb_ok k
       obtain ⟨s, hs, k⟩ := eo_ok k
       cases k
       obtain ⟨q1, q2, q3, q4⟩ := bounds_run (P := P) (w := w) (isSlice := false) (cap' := n) (Nat.le_refl _) h1 h2 h3 k1 k2 k3 hmh (fun hl => by subst hl; exact bound_none k3)
       have hm : (if mx = none then n else m) = m := by
        split
        · next hn => subst hn; exact (bound_none k1).symm
        · rfl
       rw [hm] at q1
       refine Does.pure r (x := .slice (some ⟨e.σ b, Tr.br (Nat.beq m l) off (off + l * s), none⟩) (hh - l) (m - l + if false then e.κ b else 0)) ?_ (VR_slc.2 ⟨hd, rfl⟩)
       simp only [Instr.sliceAt, Instr.sureAddr, Sem.run_bind, run_und hu, Result.andThen_ok, Sem.run_pure, q1, run_size hs, add_at]
       simp only [Bool.false_eq_true, if_false, Nat.add_zero]
       by_cases hml : m = l
       · subst hml; simp [Tr.br]
       · rw [if_neg hml, beq_ne hml]
         rfl
     | _ => simp only at k; cases k
   | _ => cases a <;> simp only at k <;> cases k
theorem prun_bind {α β : Type} (f : α -> Sem β) (b : β) : ∀ (m : Sem α), prun P (m.bind f) = some b -> ∃ a, prun P m = some a /\ prun P (f a) = some b
 | .pure a, h => ⟨a, rfl, h⟩
 | .program k, h => prun_bind f b (k P) h
 | .mark _ k, h => prun_bind f b k h
 | .load .., h => by cases h
 | .store .., h => by cases h
 | .new .., h => by cases h
 | .shape .., h => by cases h
 | .freeze .., h => by cases h
 | .frozen .., h => by cases h
 | .getObj .., h => by cases h
 | .setObj .., h => by cases h
 | .choose .., h => by cases h
 | .sys .., h => by cases h
 | .halt .., h => by cases h
def dummy (es : List (Value × V × Nat)) : List MapEntry := es.map fun q => { key := q.1, val := undef, born := q.2.2 }
theorem findNow_ok {kind : TypeDesc} {k : Value} : ∀ (es : List (Value × V × Nat)) (l : List MapEntry) (i : Nat), EsR e es l -> match Instr.findNow kind k (dummy es) i with
  | none => Instr.findNow kind k l i = none
  | some none => Instr.findNow kind k l i = some none
  | some (some (j, _)) => i <= j /\ ∃ q x, es[j - i]? = some q /\ VR e q.2.1 x /\ l[j - i]? = some { key := q.1, val := x, born := q.2.2 } /\ Instr.findNow kind k l i = some (some (j, x))
 | [], l, i, h => by rw [show l = [] from h]; simp [dummy, Instr.findNow]
 | q :: es, l, i, ⟨x, l', h1, h2, h3⟩ => by
   subst h1
   have ih := findNow_ok (kind := kind) (k := k) es l' (i + 1) h3
   simp only [dummy, List.map_cons, Instr.findNow] at ih ⊢
   cases hs : Instr.sameNow kind k q.1 with
   | none => simp
   | some b =>
     cases b with
     | true => exact ⟨Nat.le_refl _, q, x, by simp, h2, by simp, by simp⟩
     | false =>
       simp only
       generalize Instr.findNow kind k (List.map (fun q => ({ key := q.1, val := undef, born := q.2.2 } : MapEntry)) es) (i + 1) = F at ih ⊢
       match F, ih with
       | none, ih => exact ih
       | some none, ih => exact ih
       | some (some (j, _)), ⟨g1, q', x', g2, g3, g4, g5⟩ =>
         refine ⟨by omega, q', x', ?_, g3, ?_, g5⟩
         · rw [show j - i = (j - (i + 1)) + 1 by omega]; simpa using g2
         · rw [show j - i = (j - (i + 1)) + 1 by omega]; simpa using g4
theorem findAsking_ok {kt : TypeId} {k : Value} : ∀ (es : List (Value × V × Nat)) (l : List MapEntry) (i : Nat) (res : Option (Nat × Value)), EsR e es l -> prun P (Instr.findAsking kt k (dummy es) i) = some res ->
  match res with
  | none => (Instr.findAsking kt k l i).run P w = .ok none w
  | some (j, _) => i <= j /\ ∃ q x, es[j - i]? = some q /\ VR e q.2.1 x /\ l[j - i]? = some { key := q.1, val := x, born := q.2.2 } /\ (Instr.findAsking kt k l i).run P w = .ok (some (j, x)) w
 | [], l, i, res, h, hp => by
   rw [show l = [] from h]
   cases hp
   rfl
 | q :: es, l, i, res, ⟨x, l', h1, h2, h3⟩, hp => by
   subst h1
   have hp : prun P ((Op.equal kt k q.1).bind fun b => if b = true then pure (some (i, undef)) else Instr.findAsking kt k (dummy es) (i + 1)) = some res := hp
   obtain ⟨b, g1, g2⟩ := prun_bind _ _ _ hp
   have hr := prun_ok P w _ _ g1
   have hrun : ∀ R, (if b = true then pure (some (i, x)) else Instr.findAsking kt k l' (i + 1) : Sem (Option (Nat × Value))).run P w = R -> (Instr.findAsking kt k ({ key := q.1, val := x, born := q.2.2 } :: l') i).run P w = R := fun R hR => by
    unfold Instr.findAsking
    simp only [Sem.run_bind, hr, Result.andThen_ok]
    exact hR
   cases b with
   | true =>
     cases g2
     exact ⟨Nat.le_refl _, q, x, by simp, h2, by simp, hrun _ rfl⟩
   | false =>
     have ih := findAsking_ok es l' (i + 1) res h3 g2
     match res, ih with
     | none, ih => exact hrun _ ih
     | some (j, _), ⟨f1, q', x', f2, f3, f4, f5⟩ =>
       refine ⟨by omega, q', x', ?_, f3, ?_, hrun _ f5⟩
       · rw [show j - i = (j - (i + 1)) + 1 by omega]; simpa using f2
       · rw [show j - i = (j - (i + 1)) + 1 by omega]; simpa using f4
theorem findK_ok {em : Bool} {kt : TypeId} {k : Value} {es : List (Value × V × Nat)} {l : List MapEntry} {res : Option Nat} (h : EsR e es l) (hk : findK P em kt k es = some res) :
  (Instr.checkKey em 10000 kt k).run P w = .ok () w /\ match res with
  | none => (Instr.findKey kt k l).run P w = .ok none w
  | some j => ∃ q x, es[j]? = some q /\ VR e q.2.1 x /\ l[j]? = some { key := q.1, val := x, born := q.2.2 } /\ (Instr.findKey kt k l).run P w = .ok (some (j, x)) w := by
 unfold findK at hk
 have key : ∀ r, prun P ((Instr.checkKey em 10000 kt k).bind fun _ => Instr.findKey kt k (dummy es)) = some r -> (Instr.checkKey em 10000 kt k).run P w = .ok () w /\ prun P (Instr.findKey kt k (dummy es)) = some r := fun r hr => by
  obtain ⟨a, g1, g2⟩ := prun_bind _ _ _ hr
  exact ⟨prun_ok P w _ _ g1, g2⟩
 have fk : ∀ r, prun P (Instr.findKey kt k (dummy es)) = some r -> match r with
   | none => (Instr.findKey kt k l).run P w = .ok none w
   | some (j, _) => ∃ q x, es[j]? = some q /\ VR e q.2.1 x /\ l[j]? = some { key := q.1, val := x, born := q.2.2 } /\ (Instr.findKey kt k l).run P w = .ok (some (j, x)) w := fun r hr => by
  have hr : prun P ((underlying kt).bind fun d => match Instr.findNow d k (dummy es) 0 with | some r => pure r | none => Instr.findAsking kt k (dummy es) 0) = some r := hr
  obtain ⟨d, g1, g2⟩ := prun_bind _ _ _ hr
  have hd := prun_ok P w _ _ g1
  have hn := findNow_ok (kind := d) (k := k) es l 0 h
  have hrun : ∀ R, (match Instr.findNow d k l 0 with | some r => pure r | none => Instr.findAsking kt k l 0 : Sem (Option (Nat × Value))).run P w = R -> (Instr.findKey kt k l).run P w = R := fun R hR => by
   unfold Instr.findKey
   simp only [Sem.run_bind, hd, Result.andThen_ok]
   exact hR
  generalize hF : Instr.findNow d k (dummy es) 0 = F at hn g2
  match F, hn, g2 with
  | none, hn, g2 =>
    have := findAsking_ok (w := w) es l 0 r h g2
    match r, this with
    | none, this => exact hrun _ (by rw [hn]; exact this)
    | some (j, _), ⟨_, q, x, f2, f3, f4, f5⟩ => exact ⟨q, x, by simpa using f2, f3, by simpa using f4, hrun _ (by rw [hn]; exact f5)⟩
  | some none, hn, g2 =>
    cases g2
    exact hrun _ (by rw [hn]; rfl)
  | some (some (j, y)), ⟨_, q, x, f2, f3, f4, f5⟩, g2 =>
    cases g2
    exact ⟨q, x, by simpa using f2, f3, by simpa using f4, hrun _ (by rw [f5]; rfl)⟩
 split at hk
 · rename_i r hr
   cases hk
   obtain ⟨a1, a2⟩ := key _ hr
   exact ⟨a1, fk _ a2⟩
 · rename_i hr
   cases hk
   obtain ⟨a1, a2⟩ := key _ hr
   exact ⟨a1, fk _ a2⟩
 · cases hk
end
end
section
set_option linter.unusedSimpArgs false
set_option linter.unusedVariables false
open Go Go.RowKit
section
variable {P : Program} {e : Env} {h h' : H} {w : World} {v : V}
theorem map_at {b : Nat} {es : List (Value × V × Nat)} {c : Nat} (r : Rel P e h w) (hb : h.get b = some (.map es c)) : e.dom b /\ ∃ l : List MapEntry, w.heap[e.σ b]? = some (.map l.toArray c) /\ EsR e es l := by
 obtain ⟨h1, x, h2, l, rfl, h3⟩ := r.at_ b _ hb
 exact ⟨h1, l, h2, h3⟩
theorem EsR_len : ∀ {es : List (Value × V × Nat)} {l : List MapEntry}, EsR e es l -> l.length = es.length
 | [], l, h => by rw [show l = [] from h]; rfl
 | q :: es, l, ⟨x, l', h1, _, h3⟩ => by rw [h1]; simp [EsR_len h3]
theorem getObj_run {r : Nat} {o : Obj} (h : w.heap[r]? = some o) (hc : ∀ c t f, o ≠ .cells c t f) : (getObj r).run P w = .ok o w := by
 simp only [getObj, Sem.run, h]
 try (cases o <;> first | rfl | exact absurd rfl (hc _ _ _))
theorem setObj_run {r : Nat} {o o' : Obj} (h : w.heap[r]? = some o) (hc : ∀ c t f, o ≠ .cells c t f) : (setObj r o').run P w = .ok () { w with heap := w.heap.setIfInBounds r o' } := by
 simp only [setObj, Sem.run, h]
 try (cases o <;> first | rfl | exact absurd rfl (hc _ _ _))
theorem turn_ok {b : Nat} {o o' : Ob} {x x' : Obj} (r : Rel P e h w) (hb : h.get b = some o) (hx : w.heap[e.σ b]? = some x) (hc : ∀ c t f, x ≠ .cells c t f) (ho : ObR P e b o' x') (k : h.set b (some o') = .ok h') :
  (setObj (e.σ b) x').run P w = .ok () { w with heap := w.heap.setIfInBounds (e.σ b) x' } /\ Rel P e h' { w with heap := w.heap.setIfInBounds (e.σ b) x' } /\ Step h e w h' e { w with heap := w.heap.setIfInBounds (e.σ b) x' } := by
 obtain ⟨hf, rfl⟩ := set_ok k
 have hlt := r.old b (r.at_ b o hb).1
 refine ⟨setObj_run hx hc, rel_set r hf hb ho (w' := { w with heap := w.heap.setIfInBounds (e.σ b) x' }) ?_ (fun i hi => ?_) (by simp) rfl rfl rfl⟩
 · simp [hlt]
 · show (w.heap.setIfInBounds (e.σ b) x')[i]? = _
   rw [Array.getElem?_setIfInBounds_ne (Ne.symm hi)]
theorem lookup_ok {t : TypeId} {a i : V} {ok : Bool} {y z : Value} (r : Rel P e h w) (hy : VR e a y) (hz : VR e i z) (k : opLookup P t a i ok h = .ok v) : Does P (Instr.lookup t y z ok) h e w h v := by
 unfold opLookup at k
 cases hu : P.underlying t with
 | none => rw [hu] at k; cases k
 | some d =>
   rw [hu] at k
   cases d with
   | map kt el =>
     simp only at k
     obtain ⟨q, hq, k⟩ := eo_ok k
     obtain ⟨zv, hzv, k⟩ := eo_ok k
     obtain ⟨es, hes, k⟩ := eb_ok k
     obtain ⟨res, hres, k⟩ := eo_ok k
     obtain ⟨x0, hx0, rfl⟩ := run_zero hzv
     have hk := plain_VR hq hz
     subst hk
     have tail : ∀ l : List MapEntry, EsR e es l -> ∃ x, VR e v x /\ (do
       Instr.checkKey l.toArray.isEmpty 10000 kt z
       let (v, ok') <- match <- Instr.findKey kt z l.toArray.toList with
        | some (_, v) => pure (v, true)
        | none => pure (<- zeroValue el, false)
       pure (if ok then Value.tuple #[v, .bool ok'] else v) : Sem Value).run P w = .ok x w := fun l hE => by
      obtain ⟨hck, g2⟩ := findK_ok (w := w) hE hres
      have hemp : l.toArray.isEmpty = es.isEmpty := by
       have := EsR_len hE
       cases l <;> cases es <;> simp_all
      cases res with
      | none =>
        simp only at k g2
        cases k
        cases ok with
        | true => exact ⟨_, VR_tup.2 ⟨[x0, .bool false], rfl, VRs_cons.2 ⟨_, _, rfl, VR_ofV x0, VRs_cons.2 ⟨_, _, rfl, VR_lit.2 rfl, VRs_nil.2 rfl⟩⟩⟩, by simp [hemp, hck, g2, hx0]⟩
        | false => exact ⟨_, VR_ofV x0, by simp [hemp, hck, g2, hx0]⟩
      | some j =>
        simp only at k
        obtain ⟨q', x, f1, f2, f3, f4⟩ := g2
        obtain ⟨q2, hq2, k⟩ := eo_ok k
        rw [f1] at hq2
        cases hq2
        cases k
        cases ok with
        | true => exact ⟨_, VR_tup.2 ⟨[x, .bool true], rfl, VRs_cons.2 ⟨_, _, rfl, f2, VRs_cons.2 ⟨_, _, rfl, VR_lit.2 rfl, VRs_nil.2 rfl⟩⟩⟩, by simp [hemp, hck, f4]⟩
        | false => exact ⟨_, f2, by simp [hemp, hck, f4]⟩
     split at hes
     · rename_i b
       obtain ⟨hd, rfl⟩ := VR_map.1 hy
       split at hes
       · rename_i es' c hb
         cases hes
         obtain ⟨-, l, h2, h3⟩ := map_at r hb
         obtain ⟨x, g1, g2⟩ := tail l h3
         refine Does.pure r (x := x) ?_ g1
         unfold Instr.lookup
         simp only [Sem.run_bind, run_und hu, Result.andThen_ok, getObj_run h2 (fun _ _ _ => by simp), Sem.run_pure]
         simp only [Sem.run_bind] at g2
         exact g2
       · cases hes
     · cases hes
       have hy' := VR_lit.1 hy
       subst hy'
       obtain ⟨x, g1, g2⟩ := tail [] rfl
       refine Does.pure r (x := x) ?_ g1
       unfold Instr.lookup
       simp only [Sem.run_bind, run_und hu, Result.andThen_ok, Sem.run_pure]
       simp only [Sem.run_bind] at g2
       exact g2
     · cases hes
   | _ => simp only at k; cases k
theorem EsR_set : ∀ {es : List (Value × V × Nat)} {l : List MapEntry} (j : Nat) {q : Value × V × Nat} {x : Value}, EsR e es l -> VR e q.2.1 x -> EsR e (setNth es j q) (l.set j { key := q.1, val := x, born := q.2.2 })
 | [], l, j, q, x, h, _ => by rw [show l = [] from h]; rfl
 | p :: es, l, 0, q, x, ⟨y, l', h1, h2, h3⟩, k => by rw [h1]; exact ⟨x, l', rfl, k, h3⟩
 | p :: es, l, j + 1, q, x, ⟨y, l', h1, h2, h3⟩, k => by rw [h1]; exact ⟨y, l'.set j _, rfl, h2, EsR_set j h3 k⟩
theorem EsR_push : ∀ {es : List (Value × V × Nat)} {l : List MapEntry} {q : Value × V × Nat} {x : Value}, EsR e es l -> VR e q.2.1 x -> EsR e (es ++ [q]) (l ++ [{ key := q.1, val := x, born := q.2.2 }])
 | [], l, q, x, h, k => by rw [show l = [] from h]; exact ⟨x, [], rfl, k, rfl⟩
 | p :: es, l, q, x, ⟨y, l', h1, h2, h3⟩, k => by rw [h1]; exact ⟨y, _, rfl, h2, EsR_push h3 k⟩
theorem update_ok {t : TypeId} {a c u : V} {y z x : Value} (r : Rel P e h w) (hy : VR e a y) (hz : VR e c z) (hx : VR e u x) (k : opMapUpdate P t a c u h = .ok h') :
  ∃ w', (Instr.mapUpdate t y z x).run P w = .ok () w' /\ Rel P e h' w' /\ Step h e w h' e w' := by
 unfold opMapUpdate at k
 cases hu : P.underlying t with
 | none => rw [hu] at k; simp only at k; cases k
 | some d =>
   rw [hu] at k
   cases d with
   | map kt el =>
     cases a with
     | map b =>
       simp only at k
       obtain ⟨hd, rfl⟩ := VR_map.1 hy
       obtain ⟨q, hq, k⟩ := eo_ok k
       have hk := plain_VR hq hz
       subst hk
       cases hb : h.get b with
       | none => rw [hb] at k; cases k
       | some o =>
         rw [hb] at k
         cases o <;> simp only at k <;> try (cases k; done)
         rename_i es clock
         obtain ⟨-, l, h2, hE⟩ := map_at r hb
         obtain ⟨res, hres, k⟩ := eo_ok k
         obtain ⟨hck, g2⟩ := findK_ok (w := w) hE hres
         cases res with
         | none =>
           simp only at k g2
           obtain ⟨f1, f2, f3⟩ := turn_ok (o' := .map (es ++ [(z, u, clock)]) (clock + 1)) (x' := .map (l ++ [({ key := z, val := x, born := clock } : MapEntry)]).toArray (clock + 1)) r hb h2 (fun _ _ _ => by simp) ⟨_, rfl, EsR_push (q := (z, u, clock)) hE hx⟩ k
           refine ⟨_, ?_, f2, f3⟩
           simp only [Instr.mapUpdate, Sem.run_bind, run_und hu, Result.andThen_ok, getObj_run h2 (fun _ _ _ => by simp), hck, List.toList_toArray, g2]
           simpa using f1
         | some j =>
           simp only at k
           obtain ⟨q', x', e1, e2, e3, e4⟩ := g2
           obtain ⟨q2, hq2, k⟩ := eo_ok k
           rw [e1] at hq2
           cases hq2
           obtain ⟨hsb, k⟩ := ec_ok k
           obtain ⟨f1, f2, f3⟩ := turn_ok (o' := .map (setNth es j (z, u, q'.2.2)) clock) (x' := .map (l.set j { key := z, val := x, born := q'.2.2 }).toArray clock) r hb h2 (fun _ _ _ => by simp) ⟨_, rfl, EsR_set (q := (z, u, q'.2.2)) j hE hx⟩ k
           refine ⟨_, ?_, f2, f3⟩
           have hjl := (List.getElem?_eq_some_iff.1 e3).1
           have hm : (l.toArray.modify j fun e => { e with key := z, val := x }) = (l.set j { key := z, val := x, born := q'.2.2 }).toArray := by
            apply Array.ext_getElem?
            intro i
            rw [Array.getElem?_modify]
            by_cases hij : j = i
            · subst hij
              simp only [if_true, List.getElem?_toArray, e3, Option.map_some, List.getElem?_set_self hjl]
            · simp [hij]
           simp only [Instr.mapUpdate, Sem.run_bind, run_und hu, Result.andThen_ok, getObj_run h2 (fun _ _ _ => by simp), hck, List.toList_toArray, e4, Instr.keyThatStays]
           have he3 : l.toArray[j]? = some { key := q'.1, val := x', born := q'.2.2 } := by simpa using e3
           simp only [he3, Option.map_some, Option.getD_some, hsb, if_true, Sem.run_pure, Result.andThen_ok, hm]
           exact f1
     | _ => simp only at k; cases k
   | _ => cases a <;> simp only at k <;> cases k
end
end
end Go.Proofs.YtpdhdgdbknnllaaGreatDoor
