/- The parts Shelf, Hs, Rf, Rg, Db, Dc, Da2, Ea of the proof, joined. It holds without conditions of its own. -/
import Derived.Shelf.Strings.Builder1
import Derived.Shelf.Strings.Builder2
import Derived.Shelf.Strings.OnBuilder
import Derived.Shelf.Small.Wraps
import Derived.Shelf.Strconv.Itoa0
import Derived.Shelf.Strconv.Itoa1
import Derived.Shelf.LaysM
import Derived.Shelf.Strconv.Itoa2
import Derived.Shelf.Strconv.Itoa3
import Derived.Shelf.Strings.Prefix
import Derived.Test.YtlekbddlemfokaaDoorProg
import Derived.Test.YtlekbddlemfokaaDoorM1
import Derived.Deep.RegionWith
import Derived.BigRegion
import Derived.Lib.QuietBelow
import Derived.StillTailTactics
import Derived.RangeFuncCalls
import Derived.RangeFuncBound
import Derived.RangeFuncLeaves
import Derived.RangeFuncRecord
import Derived.Below
/-
  DERIVED: THE SHELF's CONTRACTS AT THIS DUMP, IN PLAIN WORDS (tools/lay-plain.mjs out of 'TrydShelf.lean', which tools/lay-shelf.mjs wrote): THE SAME DECLARATIONS UNDER THE SAME NAMES: 'import', 'namespace', 'open', 'def', 'theorem' AND NOTHING ELSE: no command of the shelf's: FOR A HAND-IN. Each laying: the table of numbers ('.._ren') and one theorem, a field a fact of the dump's own or the kernel's comparison; each contract: ONE APPLICATION.
-/
namespace Go.Proofs
open Go.Shelf
def Tryd.lays156_ren : Go.Shelf.Ren := ⟨fun | 156 => 76 | 165 => 79 | 166 => 80 | 169 => 81 | 240 => 86 | 241 => 87 | 276 => 93 | 277 => 94 | n => n, fun | 31 => 32 | 9 => 9 | 3 => 3 | 4 => 4 | 0 => 0 | 20 => 20 | 72 => 142 | 76 => 146 | 70 => 139 | 37 => 140 | 75 => 145 | 127 => 154 | 164 => 162 | 5 => 5 | 80 => 71 | n => n, fun | n => n⟩
theorem Tryd.lays156 : Go.Proofs.Lays.n156 Tryd.prog Tryd.lays156_ren := {
  mixed := by kernel_rfl
  f156 := Tryd.func76.trans (congrArg some (by kernel_rfl))
  f165 := Tryd.func79.trans (congrArg some (by kernel_rfl))
  f166 := Tryd.func80.trans (congrArg some (by kernel_rfl))
  f169 := Tryd.func81.trans (congrArg some (by kernel_rfl))
  f240 := Tryd.func86.trans (congrArg some (by kernel_rfl))
  f241 := Tryd.func87.trans (congrArg some (by kernel_rfl))
  f276 := Tryd.func93.trans (congrArg some (by kernel_rfl))
  f277 := Tryd.func94.trans (congrArg some (by kernel_rfl))
  t0 := Tryd.underlying0
  a0 := Tryd.isAgg0
  z0 := Tryd.sizeOf0
  v0 := Tryd.zeroValue0
  t3 := Tryd.underlying3
  a3 := Tryd.isAgg3
  z3 := Tryd.sizeOf3
  v3 := Tryd.zeroValue3
  t4 := Tryd.underlying4
  a4 := Tryd.isAgg4
  z4 := Tryd.sizeOf4
  v4 := Tryd.zeroValue4
  t9 := Tryd.underlying9
  a9 := Tryd.isAgg9
  z9 := Tryd.sizeOf9
  v9 := Tryd.zeroValue9
  t20 := Tryd.underlying20
  a20 := Tryd.isAgg20
  z20 := Tryd.sizeOf20
  v20 := Tryd.zeroValue20
  t31 := Tryd.underlying32
  a31 := Tryd.isAgg32
  z31 := Tryd.sizeOf32
  v31 := Tryd.zeroValue32
  t37 := Tryd.underlying140
  a37 := Tryd.isAgg140
  z37 := Tryd.sizeOf140
  v37 := Tryd.zeroValue140
  t70 := Tryd.underlying139
  a70 := Tryd.isAgg139
  z70 := Tryd.sizeOf139
  v70 := Tryd.zeroValue139
  t72 := Tryd.underlying142
  a72 := Tryd.isAgg142
  z72 := Tryd.sizeOf142
  v72 := Tryd.zeroValue142
  t75 := Tryd.underlying145
  a75 := Tryd.isAgg145
  z75 := Tryd.sizeOf145
  v75 := Tryd.zeroValue145
  t76 := Tryd.underlying146
  a76 := Tryd.isAgg146
  z76 := Tryd.sizeOf146
  v76 := Tryd.zeroValue146
  t127 := Tryd.underlying154
  a127 := Tryd.isAgg154
  z127 := Tryd.sizeOf154
  v127 := Tryd.zeroValue154
  t164 := Tryd.underlying162
  a164 := Tryd.isAgg162
  z164 := Tryd.sizeOf162
  v164 := Tryd.zeroValue162 }
theorem Tryd.Builder_Extra_156 : Builder.Extra Tryd.prog Tryd.lays156_ren := {
  sizeBuilder := by kernel_rfl
  liesBuilder := by kernel_rfl
  t5 := Tryd.underlying5
  a5 := Tryd.isAgg5
  z5 := Tryd.sizeOf5
  v5 := Tryd.zeroValue5
  infoByte := by kernel_rfl
  cellsByte := by kernel_rfl
  sizeByte := by kernel_rfl
  neB5 := by decide }
open Go.RowKit in
/-- No element: the empty string; the world is as it was. (Whatever the slice's address and capacity: a nil slice too.) (LAID: no walk: one application.) -/
theorem Tryd.strings_Join_none (a : Option Addr) (c : Nat) (sep : ByteArray) (w : World) :
    Calls Tryd.prog 76 #[.slice a 0 c, .string sep] w fun e w' => e = .returned (.string ⟨#[]⟩) ∧ w' = w := Any.strings_Join_none Tryd.lays156 Tryd.Builder_Extra_156 a c sep w
open Go.RowKit in
/-- strings.Join: "Join concatenates the elements of its first argument to create a single string. The separator string sep is placed between elements in the resulting string.": HOWEVER MANY ELEMENTS. Below the heap's end the world is as it was. (LAID: no walk: one application.) -/
theorem Tryd.strings_Join (bk o c : Nat) (xs : List ByteArray) (sep : ByteArray) (w : World) (hcells : ∀ (j : Nat) x, xs[j]? = some x → w.cell? ⟨bk, o + j, none⟩ = some (.string x)) (hbk : bk < w.heap.size) (hN : xs.length ≤ 140737488355328) (hcap : xs.length ≤ c) (hlen : (Lib.join (xs.map (·.data.toList)) sep.data.toList).length ≤ 140737488355328) :
    Calls Tryd.prog 76 #[.slice (some ⟨bk, o, none⟩) xs.length c, .string sep] w fun e w' => e = .returned (.string ⟨(Lib.join (xs.map (·.data.toList)) sep.data.toList).toArray⟩) ∧ Below w.heap.size w w' := Any.strings_Join Tryd.lays156 Tryd.Builder_Extra_156 bk o c xs sep w hcells hbk hN hcap hlen
def Tryd.lays103_ren : Go.Shelf.Ren := ⟨fun | 103 => 59 | 210 => 74 | 206 => 78 | n => n, fun | 9 => 9 | 4 => 4 | 24 => 110 | 3 => 3 | n => n, fun | n => n⟩
theorem Tryd.lays103 : Go.Proofs.Lays.n103 Tryd.prog Tryd.lays103_ren := {
  mixed := by kernel_rfl
  f103 := Tryd.func59.trans (congrArg some (by kernel_rfl))
  f206 := Tryd.func78.trans (congrArg some (by kernel_rfl))
  f210 := Tryd.func74.trans (congrArg some (by kernel_rfl))
  t3 := Tryd.underlying3
  a3 := Tryd.isAgg3
  z3 := Tryd.sizeOf3
  v3 := Tryd.zeroValue3
  t4 := Tryd.underlying4
  a4 := Tryd.isAgg4
  z4 := Tryd.sizeOf4
  v4 := Tryd.zeroValue4
  t9 := Tryd.underlying9
  a9 := Tryd.isAgg9
  z9 := Tryd.sizeOf9
  v9 := Tryd.zeroValue9
  t24 := Tryd.underlying110
  a24 := Tryd.isAgg110
  z24 := Tryd.sizeOf110
  v24 := Tryd.zeroValue110 }
open Go.RowKit in
/-- strings.CutPrefix: "CutPrefix returns s without the provided leading prefix string and reports whether it found the prefix. If s doesn't start with prefix, CutPrefix returns s, false. If prefix is the empty string, CutPrefix returns s, true.": IT RETURNS '(Lib.trimPrefix s p, Lib.hasPrefix s p)'; the world is as it was. (LAID: no walk: one application.) -/
theorem Tryd.strings_CutPrefix (s p : ByteArray) (w : World) :
    Calls Tryd.prog 59 #[.string s, .string p] w fun e w' => e = .returned (.tuple #[.string ⟨(Lib.trimPrefix s.data.toList p.data.toList).toArray⟩, .bool (Lib.hasPrefix s.data.toList p.data.toList)]) ∧ w' = w := Any.strings_CutPrefix Tryd.lays103 s p w
def Tryd.lays171_ren : Go.Shelf.Ren := ⟨fun | 171 => 50 | 243 => 70 | 246 => 77 | 283 => 82 | 284 => 83 | 285 => 84 | 286 => 85 | 129 => 89 | 317 => 88 | 318 => 90 | 319 => 91 | 320 => 92 | 337 => 95 | 338 => 96 | n => n, fun | 3 => 3 | 9 => 9 | 2 => 2 | 4 => 4 | 171 => 148 | 0 => 0 | 53 => 149 | 37 => 140 | 5 => 5 | 173 => 152 | 212 => 157 | 51 => 158 | 20 => 20 | 213 => 159 | 46 => 160 | 232 => 166 | 233 => 167 | n => n, fun | 17 => 0 | 18 => 2 | 19 => 3 | n => n⟩
theorem Tryd.lays171 : Go.Proofs.Lays.n171 Tryd.prog Tryd.lays171_ren := {
  mixed := by kernel_rfl
  f129 := Tryd.func89.trans (congrArg some (by kernel_rfl))
  f171 := Tryd.func50.trans (congrArg some (by kernel_rfl))
  f243 := Tryd.func70.trans (congrArg some (by kernel_rfl))
  f246 := Tryd.func77.trans (congrArg some (by kernel_rfl))
  f283 := Tryd.func82.trans (congrArg some (by kernel_rfl))
  f284 := Tryd.func83.trans (congrArg some (by kernel_rfl))
  f285 := Tryd.func84.trans (congrArg some (by kernel_rfl))
  f286 := Tryd.func85.trans (congrArg some (by kernel_rfl))
  f317 := Tryd.func88.trans (congrArg some (by kernel_rfl))
  f318 := Tryd.func90.trans (congrArg some (by kernel_rfl))
  f319 := Tryd.func91.trans (congrArg some (by kernel_rfl))
  f320 := Tryd.func92.trans (congrArg some (by kernel_rfl))
  f337 := Tryd.func95.trans (congrArg some (by kernel_rfl))
  f338 := Tryd.func96.trans (congrArg some (by kernel_rfl))
  t0 := Tryd.underlying0
  a0 := Tryd.isAgg0
  z0 := Tryd.sizeOf0
  v0 := Tryd.zeroValue0
  t2 := Tryd.underlying2
  a2 := Tryd.isAgg2
  z2 := Tryd.sizeOf2
  v2 := Tryd.zeroValue2
  t3 := Tryd.underlying3
  a3 := Tryd.isAgg3
  z3 := Tryd.sizeOf3
  v3 := Tryd.zeroValue3
  t4 := Tryd.underlying4
  a4 := Tryd.isAgg4
  z4 := Tryd.sizeOf4
  v4 := Tryd.zeroValue4
  t5 := Tryd.underlying5
  a5 := Tryd.isAgg5
  z5 := Tryd.sizeOf5
  v5 := Tryd.zeroValue5
  t9 := Tryd.underlying9
  a9 := Tryd.isAgg9
  z9 := Tryd.sizeOf9
  v9 := Tryd.zeroValue9
  t20 := Tryd.underlying20
  a20 := Tryd.isAgg20
  z20 := Tryd.sizeOf20
  v20 := Tryd.zeroValue20
  t37 := Tryd.underlying140
  a37 := Tryd.isAgg140
  z37 := Tryd.sizeOf140
  v37 := Tryd.zeroValue140
  t46 := Tryd.underlying160
  a46 := Tryd.isAgg160
  z46 := Tryd.sizeOf160
  v46 := Tryd.zeroValue160
  t51 := Tryd.underlying158
  a51 := Tryd.isAgg158
  z51 := Tryd.sizeOf158
  v51 := Tryd.zeroValue158
  t53 := Tryd.underlying149
  a53 := Tryd.isAgg149
  z53 := Tryd.sizeOf149
  v53 := Tryd.zeroValue149
  t171 := Tryd.underlying148
  a171 := Tryd.isAgg148
  z171 := Tryd.sizeOf148
  v171 := Tryd.zeroValue148
  t173 := Tryd.underlying152
  a173 := Tryd.isAgg152
  z173 := Tryd.sizeOf152
  v173 := Tryd.zeroValue152
  t212 := Tryd.underlying157
  a212 := Tryd.isAgg157
  z212 := Tryd.sizeOf157
  v212 := Tryd.zeroValue157
  t213 := Tryd.underlying159
  a213 := Tryd.isAgg159
  z213 := Tryd.sizeOf159
  t232 := Tryd.underlying166
  a232 := Tryd.isAgg166
  z232 := Tryd.sizeOf166
  v232 := Tryd.zeroValue166
  t233 := Tryd.underlying167
  a233 := Tryd.isAgg167
  z233 := Tryd.sizeOf167
  v233 := Tryd.zeroValue167
  g17 := by kernel_rfl
  g18 := by kernel_rfl
  g19 := by kernel_rfl }
open Go.RowKit Go.Sort Go.Lib in
/-- THE ROAD WITHOUT THE TABLE: 0 <= i < 100: NO PREMISE ON THE WORLD, AND THE WORLD IS AS IT WAS: a row that keeps its argument in that range need list no table ('laid = []'). (LAID: no walk: one application.) -/
theorem Tryd.strconv_Itoa_small (i : Nat) (hi : i < 100) (w : World) :
    Calls Tryd.prog 50 #[.int .i64 i] w fun e w' => e = .returned (.string ⟨(Lib.decDigits i).toArray⟩) ∧ w' = w := Any.strconv_Itoa_small Tryd.lays171 i hi w
end Go.Proofs

/- Strings by their bytes; how numbers and signatures are written. -/
namespace Go.Proofs.YtlekbddlemfokaaDoor
set_option linter.unusedSimpArgs false
set_option linter.unusedVariables false
open Go Go.RowKit Go.Sort Go.BigFrame

/-- A string by its bytes. -/
abbrev S (l : List UInt8) : Value := .string ⟨l.toArray⟩

theorem cat_bytes (a b : List UInt8) : (⟨a.toArray⟩ : ByteArray) ++ ⟨b.toArray⟩ = ⟨(a ++ b).toArray⟩ := by
  apply ByteArray.ext; simp
theorem size_bytes (a : List UInt8) : (⟨a.toArray⟩ : ByteArray).size = a.length := by simp [ByteArray.size]
theorem decN_eq : ∀ i, i < 100 → Lib.decDigits i = decN i := by decide +kernel
theorem decN_len (n : Nat) : (decN n).length ≤ 2 := by unfold decN; split <;> simp
theorem dec_len (n : Int) : (dec n).length ≤ 2 := decN_len _
theorem letterT_len (l : Int) : (letterT l).length ≤ 3 := by unfold letterT; split <;> (try split) <;> simp
theorem sigT_len (r l : Int) : (sigT r l).length ≤ 5 := by
  unfold sigT; have := dec_len r; have := letterT_len l; split <;> simp <;> omega

theorem Itoa_any (n : Int) (h0 : 0 ≤ n) (h1 : n < 100) (w : World) :
    Calls Tryd.prog 50 #[.int .i64 n] w fun e w' => e = .returned (S (dec n)) ∧ w = w' := by
  obtain ⟨k, rfl⟩ := Int.eq_ofNat_of_zero_le h0
  have hk : k < 100 := by omega
  unfold dec
  rw [Int.toNat_natCast, ← decN_eq k hk]
  exact (Tryd.strconv_Itoa_small k hk w).mono fun e w' ⟨h1, h2⟩ => ⟨h1, h2.symm⟩

theorem letter_cut : ∀ k, k < 23 → (ByteArray.mk #[65, 66, 67, 68, 69, 70, 71, 72, 73, 75, 76, 77, 78, 79, 80, 81, 82, 83, 84, 86, 88, 89, 90]).extract k (k + 1) = ⟨[letterL.getD k 0].toArray⟩ := by decide +kernel

set_option maxHeartbeats 400000 in
theorem letterText_any (l : Int) (h0 : 0 ≤ l) (h1 : l ≤ 24) (w : World) :
    Calls Tryd.prog 57 #[.int .i64 l] w fun e w' => e = .returned (S (letterT l)) ∧ w = w' := by
  by_cases h23 : l = 23
  · subst h23
    go_enter Tryd.func57, Tryd.ntmps57
    go_wp2
    go_ret
    exact ⟨rfl, rfl⟩
  by_cases h24 : l = 24
  · subst h24
    go_enter Tryd.func57, Tryd.ntmps57
    go_wp2
    go_ret
    exact ⟨rfl, rfl⟩
  have e : letterT l = [letterL.getD l.toNat 0] := by simp [letterT, h23, h24]
  have b23 : (l == 23) = false := by simp [h23]
  have b24 : (l == 24) = false := by simp [h24]
  have hl : l < 23 := by omega
  rw [e]
  clear e h23 h24 h1
  obtain ⟨k, rfl⟩ := Int.eq_ofNat_of_zero_le h0
  rw [Int.toNat_natCast]
  have hk : k < 23 := by omega
  have hc := Lib.hid (letter_cut k hk)
  go_enter Tryd.func57, Tryd.ntmps57
  go_wp2
  go_ret
  exact ⟨congrArg (fun b => Ending.returned (Value.string b)) hc.out, rfl⟩

theorem ret_S {a : ByteArray} {l : List UInt8} (h : a = ⟨l.toArray⟩) : Ending.returned (.string a) = .returned (S l) := by rw [h]

set_option maxHeartbeats 400000 in
theorem sigText_any (r l : Int) (hs : sigB r l = true) (w : World) :
    Calls Tryd.prog 32 #[.agg #[.int .i64 r, .int .i64 l]] w fun e w' => e = .returned (S (sigT r l)) ∧ Below w.heap.size w w' := by
  have hb : 1 ≤ r ∧ r ≤ 3 ∧ 0 ≤ l ∧ l ≤ 24 := by simp [sigB, inB] at hs; omega
  obtain ⟨r1, r2, l1, l2⟩ := hb
  clear hs
  have z1 := letterT_len l
  have z2 := dec_len r
  have zl : (⟨(letterT l).toArray⟩ : ByteArray).size ≤ 3 := by rw [size_bytes]; exact z1
  have zr : (⟨(dec r).toArray⟩ : ByteArray).size ≤ 2 := by rw [size_bytes]; exact z2
  by_cases h : 1 < r
  · have e : sigT r l = dec r ++ letterT l := by simp [sigT, h]
    have HE := Lib.hid e
    clear e
    go_enter Tryd.func32, Tryd.ntmps32
    go_wp2_with fail
    refine (letterText_any l l1 l2 _).mono ?_
    rintro e w1 ⟨rfl, rfl⟩
    go_wp2_with fail
    refine (Itoa_any r (by omega) (by omega) _).mono ?_
    rintro e w1 ⟨rfl, rfl⟩
    go_wp2_with fail
    go_ret
    exact ⟨ret_S (by rw [HE.out]; exact cat_bytes _ _), (by repeat (first | exact Below.refl _ _ | assumption | (refine Below.alloc ?_ ?_ _; rotate_left; · (first | omega | (simp; done) | (simp; omega) | (simp at *; omega) | fail)) | (refine Below.setCell ?_ ?_ _; rotate_left; · (first | omega | (simp; done) | (simp; omega) | (simp at *; omega) | fail)) | refine Below.drew ?_ | fail))⟩
  · have e : sigT r l = letterT l := by simp [sigT, h]
    rw [e]
    go_enter Tryd.func32, Tryd.ntmps32
    go_wp2_with fail
    refine (letterText_any l l1 l2 _).mono ?_
    rintro e w1 ⟨rfl, rfl⟩
    go_wp2_with fail
    go_ret
    exact ⟨rfl, (by repeat (first | exact Below.refl _ _ | assumption | (refine Below.alloc ?_ ?_ _; rotate_left; · (first | omega | (simp; done) | (simp; omega) | (simp at *; omega) | fail)) | (refine Below.setCell ?_ ?_ _; rotate_left; · (first | omega | (simp; done) | (simp; omega) | (simp at *; omega) | fail)) | refine Below.drew ?_ | fail))⟩


end Go.Proofs.YtlekbddlemfokaaDoor

/- A statement that ranges over a function, for iterators that keep state of their own in memory: the iterator owns a set X of blocks that the rounds leave alone; the caller owns the blocks that Ow names. For any program, at the wide fence. -/
namespace Go.Proofs.YtlekbddlemfokaaDoor
set_option linter.unusedSimpArgs false
set_option linter.unusedVariables false
open Go Go.RowKit

/-- From W to W' no block of W turns but those in X. -/
structure OnlyIn (X : Nat → Prop) (W W' : World) : Prop where
  os : W'.os = W.os
  tape : W'.tape = W.tape
  output : W'.output = W.output
  size : W.heap.size ≤ W'.heap.size
  block : ∀ k, k < W.heap.size → ¬ X k → W'.heap[k]? = W.heap[k]?

theorem OnlyIn.refl (X : Nat → Prop) (W : World) : OnlyIn X W W := ⟨rfl, rfl, rfl, Nat.le_refl _, fun _ _ _ => rfl⟩
theorem OnlyIn.trans {X : Nat → Prop} {A B C : World} (h : OnlyIn X A B) (k : OnlyIn X B C) : OnlyIn X A C :=
  ⟨k.os.trans h.os, k.tape.trans h.tape, k.output.trans h.output, Nat.le_trans h.size k.size, fun i hi hx => (k.block i (Nat.lt_of_lt_of_le hi h.size) hx).trans (h.block i hi hx)⟩
theorem OnlyIn.mono {X Y : Nat → Prop} {A B : World} (h : OnlyIn X A B) (hxy : ∀ k, X k → Y k) : OnlyIn Y A B :=
  ⟨h.os, h.tape, h.output, h.size, fun i hi hy => h.block i hi (fun hx => hy (hxy i hx))⟩
theorem OnlyIn.alloc (X : Nat → Prop) (W : World) (o : Obj) : OnlyIn X W (W.alloc o) :=
  ⟨rfl, rfl, rfl, by simp, fun k hk _ => Below.heap_alloc W o k hk⟩
theorem OnlyIn.setCell {X : Nat → Prop} (W : World) (p : Addr) (v : Value) (hp : X p.block) : OnlyIn X W (W.setCell p v) :=
  ⟨rfl, rfl, rfl, by simp [World.setCell], fun k _ hx => Below.heap_setCell W p v k (fun e => hx (e ▸ hp))⟩
theorem OnlyIn.putObj {X : Nat → Prop} (W : World) (l : Nat) (o : Obj) (hl : X l) : OnlyIn X W (W.putObj l o) :=
  ⟨rfl, rfl, rfl, by simp, fun _ _ hx => World.putObj_heap_other (fun e => hx (e ▸ hl))⟩
theorem OnlyIn.drew (X : Nat → Prop) (W : World) : OnlyIn X W W.drew := ⟨rfl, rfl, rfl, Nat.le_refl _, fun _ _ _ => rfl⟩
/-- What a call that leaves all that was there does. -/
theorem OnlyIn.of_below {X : Nat → Prop} {W W' : World} (h : Below W.heap.size W W') : OnlyIn X W W' :=
  ⟨h.os, h.tape, h.output, h.size, fun k hk _ => h.block k hk⟩
theorem OnlyIn.below {X : Nat → Prop} {B : Nat} {A W W' : World} (h : OnlyIn X W W') (hb : Below B A W) (hB : B ≤ W.heap.size) (hx : ∀ k, X k → B ≤ k) : Below B A W' :=
  hb.trans ⟨h.os, h.tape, h.output, h.size, fun k hk => h.block k (Nat.lt_of_lt_of_le hk hB) (fun hxk => by have := hx k hxk; omega)⟩

/-- The invariant allows whatever the iterator does: it turns blocks of its own and lays new ones. -/
def Abide {α : Type} (J : List α → (Nat → Prop) → World → Prop) : Prop :=
  ∀ pre (X X' : Nat → Prop) W W', J pre X W → OnlyIn X W W' → (∀ k, X' k → X k ∨ (W.heap.size ≤ k ∧ k < W'.heap.size)) → J pre X' W'

/-- What a round leaves as it was: the data that the iterator reads, and its own blocks. -/
def Kept (Pr X : Nat → Prop) (W W' : World) : Prop := W.heap.size ≤ W'.heap.size ∧ ∀ k, k < W.heap.size → (Pr k ∨ X k) → W'.heap[k]? = W.heap[k]?

/-- THE ITERATOR's CONTRACT: it yields xs, one after the other, or stops when a round says so. -/
def ItC {α : Type} (P : Program) (gf : Nat) (lb : Array Value) (encs : α → Array Value) (xs : List α) (Pr : Nat → Prop) (w₀ : World) : Prop :=
  ∀ (l : Nat) (J Jx : List α → (Nat → Prop) → World → Prop) (W : World), w₀.heap.size ≤ W.heap.size → (∀ k, Pr k → W.heap[k]? = w₀.heap[k]?) → Abide J → Abide Jx →
    (∀ pre x rest X W1, xs = pre ++ x :: rest → J pre X W1 → YieldAt Fence.wide 9 P l (encs x) W1 fun e W' =>
      (e = .returned (.bool true) ∧ J (pre ++ [x]) X W' ∧ Kept Pr X W1 W') ∨ (e = .returned (.bool false) ∧ Jx (pre ++ [x]) X W' ∧ Kept Pr X W1 W')) →
    J [] (fun _ => False) W →
    Calls P gf (#[.func (.yield l) #[] #[]] ++ lb) W fun e W' => (∃ v, e = .returned v) ∧ ((∃ X, J xs X W') ∨ (∃ pre X, Jx pre X W'))

/-- What a round of the caller's does to the world. -/
structure Turn (hs : Nat) (Pr : Nat → Prop) (Ow : World → Nat → Prop) (W W' : World) : Prop where
  size : W.heap.size ≤ W'.heap.size
  prot : ∀ k, Pr k → W'.heap[k]? = W.heap[k]?
  keeps : ∀ k, hs ≤ k → k < W.heap.size → ¬ Ow W k → W'.heap[k]? = W.heap[k]?
  owns : ∀ k, k < W.heap.size → Ow W' k → Ow W k

theorem Turn.trans {hs : Nat} {Pr : Nat → Prop} {Ow : World → Nat → Prop} {A B C : World} (h : Turn hs Pr Ow A B) (k : Turn hs Pr Ow B C) : Turn hs Pr Ow A C :=
  ⟨Nat.le_trans h.size k.size, fun i hi => (k.prot i hi).trans (h.prot i hi),
   fun i hs' hi ho => (k.keeps i hs' (Nat.lt_of_lt_of_le hi h.size) (fun hb => ho (h.owns i hi hb))).trans (h.keeps i hs' hi ho),
   fun i hi ho => h.owns i hi (k.owns i (Nat.lt_of_lt_of_le hi h.size) ho)⟩

def rfPost {α : Type} (hs : Nat) (Pr : Nat → Prop) (Ow : World → Nat → Prop) (I : List α → World → Prop) (Ix : Code → List α → World → Prop) (xs : List α) (W : World) : Exit → Act → World → Prop
  | .normal, _, W' => Turn hs Pr Ow W W' ∧ I xs W'
  | .ret, _, W' => Turn hs Pr Ow W W' ∧ Ix .ret xs W'
  | .exit id, _, W' => Turn hs Pr Ow W W' ∧ Ix (.exit id) xs W'
  | .goto t, _, W' => Turn hs Pr Ow W W' ∧ Ix (.goto t) xs W'
  | .panic _, _, _ => False
  | .outgrown, _, _ => False

theorem loop_not_cells {W : World} {l : Nat} {r : Loop} (h : W.heap[l]? = some (.loop r)) : ¬ ∃ c t f, W.heap[l]? = some (.cells c t f) := by
  rintro ⟨c, t, f, e⟩; rw [h] at e; cases e

/-- THE STATEMENT. -/
theorem rf_law {P : Program} {n : Nat} {α : Type} {g : Operand} {ps : Array Tmp} {assign body : Code} {Q : Exit → Act → World → Prop} {a : Act} {w : World}
    {gf : Nat} {lb : Array Value} (hg : a.eval g = .func (.func gf) #[] lb) (eg : ∀ args w, (callFunc gf args).run P w = .ok (.enter gf args) w)
    {encs : α → Array Value} {xs : List α} {Pr : Nat → Prop} (hit : ItC P gf lb encs xs Pr w) (hps : ∀ x, (encs x).size = ps.size) (hPr : ∀ k, Pr k → k < w.heap.size)
    (I : List α → World → Prop) (Ix : Code → List α → World → Prop) (Ow : World → Nat → Prop) (o : α → Obj) (a₁ : α → Nat → Act)
    (hOwc : ∀ pre W k, I pre W → Ow W k → ∃ c t f, W.heap[k]? = some (.cells c t f))
    (hI : ∀ pre (X : Nat → Prop) W W', I pre W → OnlyIn X W W' → (∀ k, X k → w.heap.size ≤ k ∧ ¬ Ow W k) → I pre W' ∧ ∀ k, Ow W' k → Ow W k)
    (hIx : ∀ c pre (X : Nat → Prop) W W', Ix c pre W → OnlyIn X W W' → (∀ k, X k → w.heap.size ≤ k) → Ix c pre W')
    (h0 : I [] w)
    (hassign : ∀ (l : Nat) (x : α) (W : World) (K : Act → World → Prop), K (a₁ x W.heap.size) (W.alloc (o x)) →
      assign.wpIn (Fence.wide.inRound l) 9 P (Exit.then K (fun _ _ _ => False)) { tmps := (ps.zip (encs x)).foldl (fun t (p, v) => t.setIfInBounds p v) a.tmps, defers := [] } W)
    (hbody : ∀ (l : Nat) (pre : List α) (x : α) (rest : List α) (bx : Nat) (W : World), xs = pre ++ x :: rest → I pre W → W.heap[bx]? = some (o x) → w.heap.size ≤ bx → ¬ Ow W bx →
      body.wpIn (Fence.wide.inRound l) 9 P (rfPost w.heap.size Pr Ow I Ix (pre ++ [x]) W) (a₁ x bx) W)
    (hdone : ∀ (D : Nat) (W : World), w.heap.size ≤ D → I xs W → W.heap[D]? = some (.deferred (some [])) → Q .normal { a with defers := { target := .collected D, args := #[] } :: a.defers } W)
    (hstop : ∀ (D : Nat) (c : Code) (pre : List α) (W : World), w.heap.size ≤ D → Ix c pre W → W.heap[D]? = some (.deferred (some [])) → c.wpIn Fence.wide n P Q { a with defers := { target := .collected D, args := #[] } :: a.defers } W) :
    (Code.rangeFunc g ps assign body).wpIn Fence.wide n P Q a w := by
  refine wpIn_rangeFunc ?_
  intro fn hfn
  obtain ⟨rec, hrec⟩ : ∃ rec : LoopState → Option Code → Loop, rec = fun st pe => { state := st, pending := pe, fn, tmps := a.tmps, params := ps, assign, body, defers := w.heap.size } := ⟨_, rfl⟩
  obtain ⟨W1, hW1⟩ : ∃ W1, (w.alloc (.deferred (some []))).alloc (.loop (rec .ready none)) = W1 := ⟨_, rfl⟩
  have hz1 : W1.heap.size = w.heap.size + 2 := by rw [← hW1]; simp
  have hL1 : W1.heap[w.heap.size + 1]? = some (.loop (rec .ready none)) := by
    rw [← hW1]; have := World.alloc_heap_new (w.alloc (.deferred (some []))) (.loop (rec .ready none)); rwa [World.size_alloc] at this
  have hK1 : W1.heap[w.heap.size]? = some (.deferred (some [])) := by
    rw [← hW1]; exact (Below.heap_alloc _ _ _ (by simp)).trans (World.alloc_heap_new w _)
  have hO1 : OnlyIn (fun _ => False) w W1 := by rw [← hW1]; exact (OnlyIn.alloc _ w _).trans (OnlyIn.alloc _ _ _)
  have hI1 : I [] W1 := (hI [] _ w W1 h0 hO1 (fun _ h => h.elim)).1
  refine ⟨w.heap.size + 1, [{ target := .collected w.heap.size, args := #[] }], W1, { target := .fn (.func gf) lb, args := #[.func (.yield (w.heap.size + 1)) #[] #[]] }, W1, gf,
    #[.func (.yield (w.heap.size + 1)) #[] #[]] ++ lb, W1, ?_, ?_, ?_, ?_, fun h => by simp [Fence.wide] at h, ?_⟩
  · rw [← hW1, hrec]; exact run_enterLoop_outer _ _ _ _ _
  · simp only [resolve, hg]
    simp [go_sem]
  · intro f' _; trivial
  · simp [invoke, go_sem, eg]
  refine callsIn_wide.2 ((hit (w.heap.size + 1)
      (fun pre X W => I pre W ∧ W.heap[w.heap.size + 1]? = some (.loop (rec .ready none)) ∧ W.heap[w.heap.size]? = some (.deferred (some [])) ∧ ∀ k, X k → w.heap.size + 2 ≤ k ∧ k < W.heap.size ∧ ¬ Ow W k)
      (fun pre X W => ∃ c, Ix c pre W ∧ W.heap[w.heap.size + 1]? = some (.loop (rec .done (some c))) ∧ W.heap[w.heap.size]? = some (.deferred (some [])) ∧ ∀ k, X k → w.heap.size + 2 ≤ k ∧ k < W.heap.size)
      W1 (by omega) (fun k hk => hO1.block k (hPr k hk) (fun h => h)) ?_ ?_ ?_ ⟨hI1, hL1, hK1, fun _ h => h.elim⟩).mono ?_)
  · -- J abides
    rintro pre X X' W W' ⟨hi, hl, hk, hx⟩ ho hx'
    have hlt : w.heap.size + 1 < W.heap.size := (Array.getElem?_eq_some_iff.1 hl).1
    obtain ⟨hi', how⟩ := hI pre X W W' hi ho (fun k h => ⟨by have := (hx k h).1; omega, (hx k h).2.2⟩)
    refine ⟨hi', (ho.block _ hlt (fun h => by have := (hx _ h).1; omega)).trans hl, (ho.block _ (by omega) (fun h => by have := (hx _ h).1; omega)).trans hk, fun k h => ?_⟩
    rcases hx' k h with h1 | ⟨h1, h2⟩
    · obtain ⟨a1, a2, a3⟩ := hx k h1
      exact ⟨a1, Nat.lt_of_lt_of_le a2 ho.size, fun h => a3 (how k h)⟩
    · refine ⟨by omega, h2, fun h => ?_⟩
      obtain ⟨c, t, f, e⟩ := hOwc pre W k hi (how k h)
      have := (Array.getElem?_eq_some_iff.1 e).1
      omega
  · rintro pre X X' W W' ⟨c, hi, hl, hk, hx⟩ ho hx'
    have hlt : w.heap.size + 1 < W.heap.size := (Array.getElem?_eq_some_iff.1 hl).1
    refine ⟨c, hIx c pre X W W' hi ho (fun k h => by have := (hx k h).1; omega), (ho.block _ hlt (fun h => by have := (hx _ h).1; omega)).trans hl, (ho.block _ (by omega) (fun h => by have := (hx _ h).1; omega)).trans hk, fun k h => ?_⟩
    rcases hx' k h with h1 | ⟨h1, h2⟩
    · obtain ⟨a1, a2⟩ := hx k h1
      exact ⟨a1, Nat.lt_of_lt_of_le a2 ho.size⟩
    · exact ⟨by omega, h2⟩
  · -- one round
    rintro pre x rest X W hxs ⟨hi, hl, hk, hx⟩
    have hlt : w.heap.size + 1 < W.heap.size := (Array.getElem?_eq_some_iff.1 hl).1
    have hy := run_yield (P := P) (args := encs x) hl (by rw [hrec]; exact hps x)
    rw [hrec] at hy
    refine ⟨fn, _, assign, body, hy, roundIn_of_wpIn hfn (hassign _ x W _ ?_)⟩
    clear hy
    obtain ⟨Wa, hWa⟩ : ∃ Wa, W.alloc (o x) = Wa := ⟨_, rfl⟩
    rw [hWa]
    have hza : Wa.heap.size = W.heap.size + 1 := by rw [← hWa]; simp
    have hla : Wa.heap[w.heap.size + 1]? = some (.loop (rec .ready none)) := by rw [← hWa]; exact (Below.heap_alloc _ _ _ hlt).trans hl
    refine ⟨_, run_beginRound hla (by rw [hrec]), ?_⟩
    obtain ⟨W2, hW2⟩ : ∃ W2, Wa.putObj (w.heap.size + 1) (.loop { rec .ready none with state := .busy }) = W2 := ⟨_, rfl⟩
    rw [hW2]
    have hz2 : W2.heap.size = W.heap.size + 1 := by rw [← hW2]; simp [hza]
    have hl2 : W2.heap[w.heap.size + 1]? = some (.loop { rec .ready none with state := .busy }) := by rw [← hW2]; exact World.putObj_heap_same (by omega)
    have hk2 : W2.heap[w.heap.size]? = some (.deferred (some [])) := by rw [← hW2]; exact (World.putObj_heap_other (by omega)).trans (by rw [← hWa]; exact (Below.heap_alloc _ _ _ (by omega)).trans hk)
    have hbx2 : W2.heap[W.heap.size]? = some (o x) := by rw [← hW2]; exact (World.putObj_heap_other (by omega)).trans (by rw [← hWa]; exact World.alloc_heap_new W _)
    have ho2 : OnlyIn (fun k => k = w.heap.size + 1) W W2 := by
      rw [← hW2]; refine OnlyIn.trans ?_ (OnlyIn.putObj Wa _ _ rfl); rw [← hWa]; exact OnlyIn.alloc _ W _
    obtain ⟨hi2, how2⟩ := hI pre _ W W2 hi ho2 (fun k e => ⟨by omega, fun h => by subst e; exact loop_not_cells hl (hOwc pre W _ hi h)⟩)
    refine wpIn_mono (hbody _ pre x rest W.heap.size W2 hxs hi2 hbx2 (by omega) (fun h => ?_)) ?_
    · obtain ⟨c, t, f, e⟩ := hOwc pre W _ hi (how2 _ h)
      have := (Array.getElem?_eq_some_iff.1 e).1
      omega
    have nL : ¬ Ow W2 (w.heap.size + 1) := fun h => loop_not_cells hl (hOwc pre W _ hi (how2 _ h))
    have nD : ¬ Ow W2 w.heap.size := fun h => by
      obtain ⟨c, t, f, e⟩ := hOwc pre W _ hi (how2 _ h); rw [hk] at e; cases e
    have fin : ∀ (jump : Option Code) (W3 : World), Turn w.heap.size Pr Ow W2 W3 →
        (Instr.endRound (w.heap.size + 1) jump).run P W3 = .ok (.bool jump.isNone) (W3.putObj (w.heap.size + 1) (.loop (rec (if jump.isNone then .ready else .done) jump))) ∧
        W3.heap[w.heap.size + 1]? = some (.loop { rec .ready none with state := .busy }) ∧
        (W3.putObj (w.heap.size + 1) (.loop (rec (if jump.isNone then .ready else .done) jump))).heap[w.heap.size + 1]? = some (.loop (rec (if jump.isNone then .ready else .done) jump)) ∧
        (W3.putObj (w.heap.size + 1) (.loop (rec (if jump.isNone then .ready else .done) jump))).heap[w.heap.size]? = some (.deferred (some [])) := fun jump W3 ht => by
      have hl3 := (ht.keeps _ (by omega) (by omega) nL).trans hl2
      have := run_endRound (P := P) jump hl3
      rw [hrec] at this ⊢
      exact ⟨this, by rw [hrec] at hl3; exact hl3, World.putObj_heap_same (Array.getElem?_eq_some_iff.1 hl3).1, (World.putObj_heap_other (by omega)).trans ((ht.keeps _ (by omega) (by omega) nD).trans hk2)⟩
    have kept3 : ∀ (W3 : World) (o : Obj), Turn w.heap.size Pr Ow W2 W3 → Kept Pr X W (W3.putObj (w.heap.size + 1) o) := fun W3 o ht => by
      have hsz := ht.size
      refine ⟨by simp; omega, fun k hkW h => ?_⟩
      rcases h with h | h
      · have hkw := hPr k h
        exact (World.putObj_heap_other (by omega)).trans ((ht.prot k h).trans (ho2.block k hkW (by omega)))
      · obtain ⟨a1, a2, a3'⟩ := hx k h
        exact (World.putObj_heap_other (by omega)).trans ((ht.keeps k (by omega) (by omega) (fun h => a3' (how2 k h))).trans (ho2.block k hkW (by omega)))
    have leaves : ∀ (c : Code) (W3 : World), Turn w.heap.size Pr Ow W2 W3 → Ix c (pre ++ [x]) W3 → ∃ v w', (Instr.endRound (w.heap.size + 1) (some c)).run P W3 = .ok v w' ∧
        (((Ending.returned v : Ending) = .returned (.bool true) ∧ (I (pre ++ [x]) w' ∧ w'.heap[w.heap.size + 1]? = some (.loop (rec .ready none)) ∧ w'.heap[w.heap.size]? = some (.deferred (some [])) ∧ ∀ k, X k → w.heap.size + 2 ≤ k ∧ k < w'.heap.size ∧ ¬ Ow w' k) ∧ Kept Pr X W w') ∨
          ((Ending.returned v : Ending) = .returned (.bool false) ∧ (∃ c, Ix c (pre ++ [x]) w' ∧ w'.heap[w.heap.size + 1]? = some (.loop (rec .done (some c))) ∧ w'.heap[w.heap.size]? = some (.deferred (some [])) ∧ (∀ k, X k → w.heap.size + 2 ≤ k ∧ k < w'.heap.size)) ∧ Kept Pr X W w')) := fun c W3 ht hc => by
      obtain ⟨hr, hl3, hl4, hk4⟩ := fin (some c) W3 ht
      refine ⟨_, _, hr, .inr ⟨rfl, ⟨c, hIx c _ _ W3 _ hc (OnlyIn.putObj (X := fun k => k = w.heap.size + 1) W3 _ _ rfl) (fun k e => by omega), hl4, hk4, fun k h => ?_⟩, kept3 W3 _ ht⟩⟩
      have := hx k h
      have := ht.size
      exact ⟨by omega, by simp; omega⟩
    rintro e a3 W3 hp
    cases e with
    | normal =>
      obtain ⟨ht, hi3⟩ := hp
      obtain ⟨hr, hl3, hl4, hk4⟩ := fin none W3 ht
      obtain ⟨hi4, how4⟩ := hI _ _ W3 (W3.putObj (w.heap.size + 1) (.loop (rec (if (none : Option Code).isNone then .ready else .done) none))) hi3 (OnlyIn.putObj (X := fun k => k = w.heap.size + 1) W3 _ _ rfl) (fun k e => ⟨by omega, fun h => by subst e; exact loop_not_cells hl3 (hOwc _ W3 _ hi3 h)⟩)
      have hsz := ht.size
      refine ⟨_, _, hr, .inl ⟨rfl, ⟨hi4, hl4, hk4, fun k h => ?_⟩, kept3 W3 _ ht⟩⟩
      obtain ⟨a1, a2, a3'⟩ := hx k h
      exact ⟨a1, by simp; omega, fun h4 => a3' (how2 k (ht.owns k (by omega) (how4 k h4)))⟩
    | ret => exact leaves .ret W3 hp.1 hp.2
    | exit id => exact leaves (.exit id) W3 hp.1 hp.2
    | goto t => exact leaves (.goto t) W3 hp.1 hp.2
    | panic ch => exact hp.elim
    | outgrown => exact hp.elim
  · -- behind the iterator
    rintro e W2 ⟨⟨v, rfl⟩, (⟨X, hi, hl, hk, hx⟩ | ⟨pre, X, c, hi, hl, hk, hx⟩)⟩
    · refine ⟨none, _, by have := run_endLoop (P := P) hl (by rw [hrec]; simp); rw [hrec] at this; exact this, ?_⟩
      exact hdone _ _ (Nat.le_refl _) (hI _ _ W2 _ hi (OnlyIn.putObj (X := fun k => k = w.heap.size + 1) W2 _ _ rfl) (fun k e => ⟨by omega, fun h => by subst e; exact loop_not_cells hl (hOwc _ W2 _ hi h)⟩)).1 ((World.putObj_heap_other (by omega)).trans hk)
    · refine ⟨some c, _, by have := run_endLoop (P := P) hl (by rw [hrec]; simp); rw [hrec] at this; exact this, ?_⟩
      exact hstop _ c pre _ (Nat.le_refl _) (hIx c _ _ W2 _ hi (OnlyIn.putObj (X := fun k => k = w.heap.size + 1) W2 _ _ rfl) (fun k e => by omega)) ((World.putObj_heap_other (by omega)).trans hk)

/-- How the body of a round may be left, where the invariant names the iterator's blocks. -/
def rfPostX {α : Type} (Pr X : Nat → Prop) (I : List α → (Nat → Prop) → World → Prop) (Ix : Code → List α → (Nat → Prop) → World → Prop) (xs : List α) (W : World) : Exit → Act → World → Prop
  | .normal, _, W' => Kept Pr X W W' ∧ I xs X W'
  | .ret, _, W' => Kept Pr X W W' ∧ Ix .ret xs X W'
  | .exit id, _, W' => Kept Pr X W W' ∧ Ix (.exit id) xs X W'
  | .goto t, _, W' => Kept Pr X W W' ∧ Ix (.goto t) xs X W'
  | .panic _, _, _ => False
  | .outgrown, _, _ => False

/-- THE STATEMENT, its invariant naming the blocks that are not the caller's (a caller that is an iterator itself wants that). -/
theorem rf_gen {P : Program} {n : Nat} {α : Type} {g : Operand} {ps : Array Tmp} {assign body : Code} {Q : Exit → Act → World → Prop} {a : Act} {w : World}
    {gf : Nat} {lb : Array Value} (hg : a.eval g = .func (.func gf) #[] lb) (eg : ∀ args w, (callFunc gf args).run P w = .ok (.enter gf args) w)
    {encs : α → Array Value} {xs : List α} {Pr : Nat → Prop} (hit : ItC P gf lb encs xs Pr w) (hps : ∀ x, (encs x).size = ps.size) (hPr : ∀ k, Pr k → k < w.heap.size)
    (I : List α → (Nat → Prop) → World → Prop) (Ix : Code → List α → (Nat → Prop) → World → Prop) (o : α → Obj) (a₁ : α → Nat → Act)
    (hI : Abide I) (hIx : ∀ c, Abide (Ix c)) (h0 : I [] (fun _ => False) w)
    (hassign : ∀ (l : Nat) (x : α) (W : World) (K : Act → World → Prop), K (a₁ x W.heap.size) (W.alloc (o x)) →
      assign.wpIn (Fence.wide.inRound l) 9 P (Exit.then K (fun _ _ _ => False)) { tmps := (ps.zip (encs x)).foldl (fun t (p, v) => t.setIfInBounds p v) a.tmps, defers := [] } W)
    (hbody : ∀ (l : Nat) (pre : List α) (x : α) (rest : List α) (bx : Nat) (X : Nat → Prop) (W : World), xs = pre ++ x :: rest → I pre X W → W.heap[bx]? = some (o x) → ¬ X bx → w.heap.size ≤ bx →
      body.wpIn (Fence.wide.inRound l) 9 P (rfPostX Pr X I Ix (pre ++ [x]) W) (a₁ x bx) W)
    (hdone : ∀ (D : Nat) (X : Nat → Prop) (W : World), w.heap.size ≤ D → X D → I xs X W → W.heap[D]? = some (.deferred (some [])) → Q .normal { a with defers := { target := .collected D, args := #[] } :: a.defers } W)
    (hstop : ∀ (D : Nat) (c : Code) (pre : List α) (X : Nat → Prop) (W : World), w.heap.size ≤ D → X D → Ix c pre X W → W.heap[D]? = some (.deferred (some [])) → c.wpIn Fence.wide n P Q { a with defers := { target := .collected D, args := #[] } :: a.defers } W) :
    (Code.rangeFunc g ps assign body).wpIn Fence.wide n P Q a w := by
  refine wpIn_rangeFunc ?_
  intro fn hfn
  obtain ⟨rec, hrec⟩ : ∃ rec : LoopState → Option Code → Loop, rec = fun st pe => { state := st, pending := pe, fn, tmps := a.tmps, params := ps, assign, body, defers := w.heap.size } := ⟨_, rfl⟩
  obtain ⟨W1, hW1⟩ : ∃ W1, (w.alloc (.deferred (some []))).alloc (.loop (rec .ready none)) = W1 := ⟨_, rfl⟩
  have hz1 : W1.heap.size = w.heap.size + 2 := by rw [← hW1]; simp
  have hL1 : W1.heap[w.heap.size + 1]? = some (.loop (rec .ready none)) := by
    rw [← hW1]; have := World.alloc_heap_new (w.alloc (.deferred (some []))) (.loop (rec .ready none)); rwa [World.size_alloc] at this
  have hK1 : W1.heap[w.heap.size]? = some (.deferred (some [])) := by
    rw [← hW1]; exact (Below.heap_alloc _ _ _ (by simp)).trans (World.alloc_heap_new w _)
  have hO1 : OnlyIn (fun _ => False) w W1 := by rw [← hW1]; exact (OnlyIn.alloc _ w _).trans (OnlyIn.alloc _ _ _)
  have hI1 : I [] (fun k => k = w.heap.size ∨ k = w.heap.size + 1) W1 := hI [] _ _ w W1 h0 hO1 (fun k h => Or.inr (by omega))
  refine ⟨w.heap.size + 1, [{ target := .collected w.heap.size, args := #[] }], W1, { target := .fn (.func gf) lb, args := #[.func (.yield (w.heap.size + 1)) #[] #[]] }, W1, gf,
    #[.func (.yield (w.heap.size + 1)) #[] #[]] ++ lb, W1, ?_, ?_, ?_, ?_, fun h => by simp [Fence.wide] at h, ?_⟩
  · rw [← hW1, hrec]; exact run_enterLoop_outer _ _ _ _ _
  · simp only [resolve, hg]
    simp [go_sem]
  · intro f' _; trivial
  · simp [invoke, go_sem, eg]
  refine callsIn_wide.2 ((hit (w.heap.size + 1)
      (fun pre X W => ∃ Xc : Nat → Prop, (∀ k, X k → Xc k) ∧ I pre Xc W ∧ W.heap[w.heap.size + 1]? = some (.loop (rec .ready none)) ∧ W.heap[w.heap.size]? = some (.deferred (some [])) ∧ Xc w.heap.size ∧ Xc (w.heap.size + 1) ∧ ¬ X w.heap.size ∧ ¬ X (w.heap.size + 1) ∧ ∀ k, Xc k → k < W.heap.size)
      (fun pre X W => ∃ (Xc : Nat → Prop) (c : Code), (∀ k, X k → Xc k) ∧ Ix c pre Xc W ∧ W.heap[w.heap.size + 1]? = some (.loop (rec .done (some c))) ∧ W.heap[w.heap.size]? = some (.deferred (some [])) ∧ Xc w.heap.size ∧ Xc (w.heap.size + 1) ∧ ¬ X w.heap.size ∧ ¬ X (w.heap.size + 1))
      W1 (by omega) (fun k hk => hO1.block k (hPr k hk) (fun h => h)) ?_ ?_ ?_ ⟨_, fun _ h => h.elim, hI1, hL1, hK1, Or.inl rfl, Or.inr rfl, fun h => h, fun h => h, fun k h => by omega⟩).mono ?_)
  · -- J abides
    rintro pre X X' W W' ⟨Xc, hs, hi, hl, hk, hd1, hd2, hn1, hn2, hb⟩ ho hx'
    have hlt : w.heap.size + 1 < W.heap.size := (Array.getElem?_eq_some_iff.1 hl).1
    refine ⟨fun k => Xc k ∨ X' k, fun k h => Or.inr h, hI pre Xc _ W W' hi (ho.mono hs) (fun k h => ?_), (ho.block _ hlt hn2).trans hl, (ho.block _ (by omega) hn1).trans hk, Or.inl hd1, Or.inl hd2, fun h => ?_, fun h => ?_, fun k h => ?_⟩
    · rcases h with h | h
      · exact Or.inl h
      · rcases hx' k h with h | h
        · exact Or.inl (hs k h)
        · exact Or.inr h
    · rcases hx' _ h with h | h
      · exact hn1 h
      · omega
    · rcases hx' _ h with h | h
      · exact hn2 h
      · omega
    · rcases h with h | h
      · exact Nat.lt_of_lt_of_le (hb k h) ho.size
      · rcases hx' k h with h | h
        · exact Nat.lt_of_lt_of_le (hb k (hs k h)) ho.size
        · exact h.2
  · rintro pre X X' W W' ⟨Xc, c, hs, hi, hl, hk, hd1, hd2, hn1, hn2⟩ ho hx'
    have hlt : w.heap.size + 1 < W.heap.size := (Array.getElem?_eq_some_iff.1 hl).1
    refine ⟨fun k => Xc k ∨ X' k, c, fun k h => Or.inr h, hIx c pre Xc _ W W' hi (ho.mono hs) (fun k h => ?_), (ho.block _ hlt hn2).trans hl, (ho.block _ (by omega) hn1).trans hk, Or.inl hd1, Or.inl hd2, fun h => ?_, fun h => ?_⟩
    · rcases h with h | h
      · exact Or.inl h
      · rcases hx' k h with h | h
        · exact Or.inl (hs k h)
        · exact Or.inr h
    · rcases hx' _ h with h | h
      · exact hn1 h
      · omega
    · rcases hx' _ h with h | h
      · exact hn2 h
      · omega
  · -- one round
    rintro pre x rest X W hxs ⟨Xc, hs, hi, hl, hk, hd1, hd2, hn1, hn2, hb⟩
    have hlt : w.heap.size + 1 < W.heap.size := (Array.getElem?_eq_some_iff.1 hl).1
    have hy := run_yield (P := P) (args := encs x) hl (by rw [hrec]; exact hps x)
    rw [hrec] at hy
    refine ⟨fn, _, assign, body, hy, roundIn_of_wpIn hfn (hassign _ x W _ ?_)⟩
    clear hy
    obtain ⟨Wa, hWa⟩ : ∃ Wa, W.alloc (o x) = Wa := ⟨_, rfl⟩
    rw [hWa]
    have hza : Wa.heap.size = W.heap.size + 1 := by rw [← hWa]; simp
    have hla : Wa.heap[w.heap.size + 1]? = some (.loop (rec .ready none)) := by rw [← hWa]; exact (Below.heap_alloc _ _ _ hlt).trans hl
    refine ⟨_, run_beginRound hla (by rw [hrec]), ?_⟩
    obtain ⟨W2, hW2⟩ : ∃ W2, Wa.putObj (w.heap.size + 1) (.loop { rec .ready none with state := .busy }) = W2 := ⟨_, rfl⟩
    rw [hW2]
    have hz2 : W2.heap.size = W.heap.size + 1 := by rw [← hW2]; simp [hza]
    have hl2 : W2.heap[w.heap.size + 1]? = some (.loop { rec .ready none with state := .busy }) := by rw [← hW2]; exact World.putObj_heap_same (by omega)
    have hk2 : W2.heap[w.heap.size]? = some (.deferred (some [])) := by rw [← hW2]; exact (World.putObj_heap_other (by omega)).trans (by rw [← hWa]; exact (Below.heap_alloc _ _ _ (by omega)).trans hk)
    have hbx2 : W2.heap[W.heap.size]? = some (o x) := by rw [← hW2]; exact (World.putObj_heap_other (by omega)).trans (by rw [← hWa]; exact World.alloc_heap_new W _)
    have ho2 : OnlyIn (fun k => k = w.heap.size + 1) W W2 := by
      rw [← hW2]; refine OnlyIn.trans ?_ (OnlyIn.putObj Wa _ _ rfl); rw [← hWa]; exact OnlyIn.alloc _ W _
    have hi2 : I pre Xc W2 := hI pre Xc Xc W W2 hi (ho2.mono (fun k e => by subst e; exact hd2)) (fun k h => Or.inl h)
    refine wpIn_mono (hbody _ pre x rest W.heap.size Xc W2 hxs hi2 hbx2 (fun h => by have := hb _ h; omega) (by omega)) ?_
    have fin : ∀ (jump : Option Code) (W3 : World), Kept Pr Xc W2 W3 →
        (Instr.endRound (w.heap.size + 1) jump).run P W3 = .ok (.bool jump.isNone) (W3.putObj (w.heap.size + 1) (.loop (rec (if jump.isNone then .ready else .done) jump))) ∧
        W3.heap[w.heap.size + 1]? = some (.loop { rec .ready none with state := .busy }) ∧
        (W3.putObj (w.heap.size + 1) (.loop (rec (if jump.isNone then .ready else .done) jump))).heap[w.heap.size + 1]? = some (.loop (rec (if jump.isNone then .ready else .done) jump)) ∧
        (W3.putObj (w.heap.size + 1) (.loop (rec (if jump.isNone then .ready else .done) jump))).heap[w.heap.size]? = some (.deferred (some [])) := fun jump W3 ht => by
      have hl3 := (ht.2 _ (by omega) (Or.inr hd2)).trans hl2
      have := run_endRound (P := P) jump hl3
      rw [hrec] at this ⊢
      exact ⟨this, by rw [hrec] at hl3; exact hl3, World.putObj_heap_same (Array.getElem?_eq_some_iff.1 hl3).1, (World.putObj_heap_other (by omega)).trans ((ht.2 _ (by omega) (Or.inr hd1)).trans hk2)⟩
    have kept3 : ∀ (W3 : World) (o : Obj), Kept Pr Xc W2 W3 → Kept Pr X W (W3.putObj (w.heap.size + 1) o) := fun W3 o ht => by
      have hsz := ht.1
      refine ⟨by simp; omega, fun k hkW h => ?_⟩
      have hkL : k ≠ w.heap.size + 1 := by
        rcases h with h | h
        · have := hPr k h; omega
        · exact fun e => hn2 (e ▸ h)
      exact (World.putObj_heap_other hkL).trans ((ht.2 k (by omega) (h.imp id (hs k))).trans (ho2.block k hkW hkL))
    have leaves : ∀ (c : Code) (W3 : World), Kept Pr Xc W2 W3 → Ix c (pre ++ [x]) Xc W3 → ∃ v w', (Instr.endRound (w.heap.size + 1) (some c)).run P W3 = .ok v w' ∧
        (((Ending.returned v : Ending) = .returned (.bool true) ∧ (∃ Xc : Nat → Prop, (∀ k, X k → Xc k) ∧ I (pre ++ [x]) Xc w' ∧ w'.heap[w.heap.size + 1]? = some (.loop (rec .ready none)) ∧ w'.heap[w.heap.size]? = some (.deferred (some [])) ∧ Xc w.heap.size ∧ Xc (w.heap.size + 1) ∧ ¬ X w.heap.size ∧ ¬ X (w.heap.size + 1) ∧ ∀ k, Xc k → k < w'.heap.size) ∧ Kept Pr X W w') ∨
          ((Ending.returned v : Ending) = .returned (.bool false) ∧ (∃ (Xc : Nat → Prop) (c : Code), (∀ k, X k → Xc k) ∧ Ix c (pre ++ [x]) Xc w' ∧ w'.heap[w.heap.size + 1]? = some (.loop (rec .done (some c))) ∧ w'.heap[w.heap.size]? = some (.deferred (some [])) ∧ Xc w.heap.size ∧ Xc (w.heap.size + 1) ∧ ¬ X w.heap.size ∧ ¬ X (w.heap.size + 1)) ∧ Kept Pr X W w')) := fun c W3 ht hc => by
      obtain ⟨hr, hl3, hl4, hk4⟩ := fin (some c) W3 ht
      exact ⟨_, _, hr, .inr ⟨rfl, ⟨Xc, c, hs, hIx c _ Xc Xc W3 _ hc (OnlyIn.putObj W3 _ _ hd2) (fun k h => Or.inl h), hl4, hk4, hd1, hd2, hn1, hn2⟩, kept3 W3 _ ht⟩⟩
    rintro e a3 W3 hp
    cases e with
    | normal =>
      obtain ⟨ht, hi3⟩ := hp
      obtain ⟨hr, hl3, hl4, hk4⟩ := fin none W3 ht
      have hsz := ht.1
      exact ⟨_, _, hr, .inl ⟨rfl, ⟨Xc, hs, hI _ Xc Xc W3 _ hi3 (OnlyIn.putObj W3 _ _ hd2) (fun k h => Or.inl h), hl4, hk4, hd1, hd2, hn1, hn2, fun k h => by have := hb k h; simp; omega⟩, kept3 W3 _ ht⟩⟩
    | ret => exact leaves .ret W3 hp.1 hp.2
    | exit id => exact leaves (.exit id) W3 hp.1 hp.2
    | goto t => exact leaves (.goto t) W3 hp.1 hp.2
    | panic ch => exact hp.elim
    | outgrown => exact hp.elim
  · -- behind the iterator
    rintro e W2 ⟨⟨v, rfl⟩, (⟨X, Xc, hs, hi, hl, hk, hd1, hd2, hn1, hn2, hb⟩ | ⟨pre, X, Xc, c, hs, hi, hl, hk, hd1, hd2, hn1, hn2⟩)⟩
    · refine ⟨none, _, by have := run_endLoop (P := P) hl (by rw [hrec]; simp); rw [hrec] at this; exact this, ?_⟩
      exact hdone _ Xc _ (Nat.le_refl _) hd1 (hI _ Xc Xc W2 _ hi (OnlyIn.putObj W2 _ _ hd2) (fun k h => Or.inl h)) ((World.putObj_heap_other (by omega)).trans hk)
    · refine ⟨some c, _, by have := run_endLoop (P := P) hl (by rw [hrec]; simp); rw [hrec] at this; exact this, ?_⟩
      exact hstop _ c pre Xc _ (Nat.le_refl _) hd1 (hIx c _ Xc Xc W2 _ hi (OnlyIn.putObj W2 _ _ hd2) (fun k h => Or.inl h)) ((World.putObj_heap_other (by omega)).trans hk)

/-- Behind a loop of such statements the frame bears a mark for each of them: they are taken back, one after the other. -/
def markOf (D : Nat) : Deferred := { target := .collected D, args := #[] }
theorem leaves_marks {n : Nat} {P : Program} {fn : Func} {tmps : Array Value} {R : Ending → World → Prop} : ∀ (Ds : List Nat) (W : World), Ds.Nodup → (∀ D ∈ Ds, W.heap[D]? = some (.deferred (some []))) →
    (∀ W', OnlyIn (fun k => k ∈ Ds) W W' → W'.heap.size = W.heap.size → LeavesInM Fence.wide n P fn tmps R [] .returning W') → LeavesInM Fence.wide n P fn tmps R (Ds.map markOf) .returning W
  | [], W, _, _, h => h W (OnlyIn.refl _ _) rfl
  | D :: Ds, W, hn, hd, h => by
    obtain ⟨hD, hn⟩ := List.nodup_cons.1 hn
    refine ⟨by simp, .inl ⟨D, _, rfl, run_takeDeferred (hd D (by simp)), ?_⟩⟩
    refine leaves_marks Ds _ hn (fun D' hD' => ?_) (fun W' ho hz => ?_)
    · exact (World.putObj_heap_other (k := D') (r := D) (fun e => hD (e ▸ hD'))).trans (hd D' (by simp [hD']))
    · refine h W' ((OnlyIn.putObj (X := fun k => k ∈ D :: Ds) W D _ (by simp)).trans (ho.mono fun k hk => by simp [hk])) (by simpa using hz)

/-- A round's contract goes into whatever round. -/
theorem roundIn_any {n m l' : Nat} {P : Program} {l : Nat} {f : FuncId} {tmps : Array Value} {assign body : Code} {w : World} {R : Ending → World → Prop} (h : RoundIn Fence.wide n P l f tmps assign body w R) : RoundIn (Fence.wide.inRound l') m P l f tmps assign body w R :=
  ⟨h.1, fun c cs _ => h.2 c cs (room_wide _)⟩

/-- What a caller keeps: all that lay at its start, and some blocks of its own. -/
structure Held (w0 : World) (bs : List (Nat × Obj)) (W : World) : Prop where
  below : Below w0.heap.size w0 W
  at_ : ∀ p ∈ bs, W.heap[p.1]? = some p.2
theorem Held.only {w0 W W' : World} {bs : List (Nat × Obj)} {X : Nat → Prop} (h : Held w0 bs W) (ho : OnlyIn X W W') {hs : Nat} (hX : ∀ k, X k → hs ≤ k) (h0 : w0.heap.size ≤ hs) (hb : ∀ p ∈ bs, p.1 < hs) : Held w0 bs W' := by
  refine ⟨ho.below h.below h.below.size (fun k hk => Nat.le_trans h0 (hX k hk)), fun p hp => ?_⟩
  have hlt : p.1 < W.heap.size := (Array.getElem?_eq_some_iff.1 (h.at_ p hp)).1
  exact (ho.block p.1 hlt (fun hx => by have := hX _ hx; have := hb p hp; omega)).trans (h.at_ p hp)
theorem Held.below' {w0 W W' : World} {bs : List (Nat × Obj)} (h : Held w0 bs W) (hb : Below W.heap.size W W') : Held w0 bs W' :=
  h.only (OnlyIn.of_below (X := fun _ => False) hb) (hs := max w0.heap.size (bs.foldr (fun p m => max (p.1 + 1) m) 0)) (fun _ h => h.elim) (by omega) (fun p hp => by
    have : ∀ (bs : List (Nat × Obj)), p ∈ bs → p.1 < bs.foldr (fun p m => max (p.1 + 1) m) 0 := fun bs => by
      induction bs with
      | nil => intro h; cases h
      | cons q bs ih =>
        intro h
        rcases List.mem_cons.1 h with rfl | h
        · simp only [List.foldr_cons]; omega
        · have := ih h; simp only [List.foldr_cons]; omega
    have := this bs hp
    omega)
theorem Turn.refl (hs : Nat) (Pr : Nat → Prop) (Ow : World → Nat → Prop) (W : World) : Turn hs Pr Ow W W := ⟨Nat.le_refl _, fun _ _ => rfl, fun _ _ _ _ => rfl, fun _ _ h => h⟩
/-- A round that turns boxes of the caller's ahead of the statement, and lays blocks. -/
theorem Turn.of {hs : Nat} {Pr : Nat → Prop} {X : Nat → Prop} {W W' : World} (h : OnlyIn X W W') (hX : ∀ k, X k → k < hs ∧ ¬ Pr k) (hPr : ∀ k, Pr k → k < W.heap.size) : Turn hs Pr (fun _ _ => False) W W' :=
  ⟨h.size, fun k hk => h.block k (hPr k hk) (fun hx => (hX k hx).2 hk), fun k hk hk' _ => h.block k hk' (fun hx => by have := (hX k hx).1; omega), fun _ _ h => h.elim⟩

end Go.Proofs.YtlekbddlemfokaaDoor

/- More on the statement that ranges over a function: what a caller keeps; how it leaves. For any program. -/
namespace Go.Proofs.YtlekbddlemfokaaDoor
set_option linter.unusedSimpArgs false
set_option linter.unusedVariables false
open Go Go.RowKit

theorem Held.get {w0 W : World} {bs : List (Nat × Obj)} (h : Held w0 bs W) (i : Nat) {k : Nat} {o : Obj} (hi : bs[i]? = some (k, o)) : W.heap[k]? = some o := h.at_ (k, o) (List.mem_of_getElem? hi)
/-- The frame bears one mark: it is taken back. -/
theorem leave_ret {n : Nat} {P : Program} {fn : Func} {tmps : Array Value} {R : Ending → World → Prop} {D : Nat} {W : World} (hD : W.heap[D]? = some (.deferred (some [])))
    (h : ∃ v, (results fn tmps).run P (W.putObj D (.deferred none)) = .ok v (W.putObj D (.deferred none)) ∧ R (.returned v) (W.putObj D (.deferred none))) :
    bodyPostM Fence.wide n P fn R .ret ⟨tmps, [{ target := .collected D, args := #[] }]⟩ W := by
  refine ⟨by simp, .inl ⟨_, _, rfl, run_takeDeferred hD, ?_⟩⟩
  exact h
theorem leave_end {n : Nat} {P : Program} {fn : Func} {tmps : Array Value} {R : Ending → World → Prop} {D : Nat} {W : World} (hD : W.heap[D]? = some (.deferred (some [])))
    (h : ∃ v, (results fn tmps).run P (W.putObj D (.deferred none)) = .ok v (W.putObj D (.deferred none)) ∧ R (.returned v) (W.putObj D (.deferred none))) :
    bodyPostM Fence.wide n P fn R .normal ⟨tmps, [{ target := .collected D, args := #[] }]⟩ W := leave_ret hD h
theorem Held.put {w0 W : World} {bs : List (Nat × Obj)} (h : Held w0 bs W) {D : Nat} (o : Obj) (h0 : w0.heap.size ≤ D) (hb : ∀ p ∈ bs, p.1 < D) : Held w0 bs (W.putObj D o) :=
  h.only (OnlyIn.putObj (X := fun k => k = D) W D o rfl) (hs := D) (fun _ h => by omega) h0 hb
/-- All four cells, or both, or all three. -/
theorem blk_set4 {W : World} {k : Nat} {a b c d : Value} {t : TypeId} {f : Nat × Nat} (h : W.heap[k]? = some (.cells #[a, b, c, d] t f)) (a' b' c' d' : Value) :
    ((((W.setCell ⟨k, 0, none⟩ a').setCell ⟨k, 1, none⟩ b').setCell ⟨k, 2, none⟩ c').setCell ⟨k, 3, none⟩ d').heap[k]? = some (.cells #[a', b', c', d'] t f) := by
  have := blk_set (blk_set (blk_set (blk_set h 0 a') 1 b') 2 c') 3 d'
  simpa using this
theorem blk_set3 {W : World} {k : Nat} {a b c : Value} {t : TypeId} {f : Nat × Nat} (h : W.heap[k]? = some (.cells #[a, b, c] t f)) (a' b' c' : Value) :
    (((W.setCell ⟨k, 0, none⟩ a').setCell ⟨k, 1, none⟩ b').setCell ⟨k, 2, none⟩ c').heap[k]? = some (.cells #[a', b', c'] t f) := by
  have := blk_set (blk_set (blk_set h 0 a') 1 b') 2 c'
  simpa using this
theorem blk_set2 {W : World} {k : Nat} {a b : Value} {t : TypeId} {f : Nat × Nat} (h : W.heap[k]? = some (.cells #[a, b] t f)) (a' b' : Value) :
    ((W.setCell ⟨k, 0, none⟩ a').setCell ⟨k, 1, none⟩ b').heap[k]? = some (.cells #[a', b'] t f) := by
  have := blk_set (blk_set h 0 a') 1 b'
  simpa using this
theorem blk_set1 {W : World} {k : Nat} {a : Value} {t : TypeId} {f : Nat × Nat} (h : W.heap[k]? = some (.cells #[a] t f)) (a' : Value) :
    (W.setCell ⟨k, 0, none⟩ a').heap[k]? = some (.cells #[a'] t f) := by
  have := blk_set h 0 a'
  simpa using this

/-- The frame with some slots written. -/
def putAll (tmps : Array Value) (us : List (Nat × Value)) : Array Value := us.foldl (fun t p => t.setIfInBounds p.1 p.2) tmps

/-- THE STATEMENT, the round's frame by the slots that its assignment writes. -/
theorem rf_law2 {P : Program} {n : Nat} {α : Type} {g : Operand} {ps : Array Tmp} {assign body : Code} {Q : Exit → Act → World → Prop} {a : Act} {w : World}
    {gf : Nat} {lb : Array Value} (hg : a.eval g = .func (.func gf) #[] lb) (eg : ∀ args w, (callFunc gf args).run P w = .ok (.enter gf args) w)
    {encs : α → Array Value} {xs : List α} {Pr : Nat → Prop} (hit : ItC P gf lb encs xs Pr w) (hps : ∀ x, (encs x).size = ps.size) (hPr : ∀ k, Pr k → k < w.heap.size)
    (I : List α → World → Prop) (Ix : Code → List α → World → Prop) (Ow : World → Nat → Prop) (o : α → Obj) (upd : α → Nat → List (Nat × Value))
    (hOwc : ∀ pre W k, I pre W → Ow W k → ∃ c t f, W.heap[k]? = some (.cells c t f))
    (hI : ∀ pre (X : Nat → Prop) W W', I pre W → OnlyIn X W W' → (∀ k, X k → w.heap.size ≤ k ∧ ¬ Ow W k) → I pre W' ∧ ∀ k, Ow W' k → Ow W k)
    (hIx : ∀ c pre (X : Nat → Prop) W W', Ix c pre W → OnlyIn X W W' → (∀ k, X k → w.heap.size ≤ k) → Ix c pre W')
    (h0 : I [] w)
    (hassign : ∀ (l : Nat) (x : α) (W : World) (K : Act → World → Prop), K { tmps := putAll a.tmps (upd x W.heap.size), defers := [] } (W.alloc (o x)) →
      assign.wpIn (Fence.wide.inRound l) 9 P (Exit.then K (fun _ _ _ => False)) { tmps := (ps.zip (encs x)).foldl (fun t (p, v) => t.setIfInBounds p v) a.tmps, defers := [] } W)
    (hbody : ∀ (l : Nat) (pre : List α) (x : α) (rest : List α) (bx : Nat) (W : World), xs = pre ++ x :: rest → I pre W → W.heap[bx]? = some (o x) → w.heap.size ≤ bx → ¬ Ow W bx →
      body.wpIn (Fence.wide.inRound l) 9 P (rfPost w.heap.size Pr Ow I Ix (pre ++ [x]) W) { tmps := putAll a.tmps (upd x bx), defers := [] } W)
    (hdone : ∀ (D : Nat) (W : World), w.heap.size ≤ D → I xs W → W.heap[D]? = some (.deferred (some [])) → Q .normal { a with defers := { target := .collected D, args := #[] } :: a.defers } W)
    (hstop : ∀ (D : Nat) (c : Code) (pre : List α) (W : World), w.heap.size ≤ D → Ix c pre W → W.heap[D]? = some (.deferred (some [])) → c.wpIn Fence.wide n P Q { a with defers := { target := .collected D, args := #[] } :: a.defers } W) :
    (Code.rangeFunc g ps assign body).wpIn Fence.wide n P Q a w :=
  rf_law hg eg hit hps hPr I Ix Ow o (fun x bx => { tmps := putAll a.tmps (upd x bx), defers := [] }) hOwc hI hIx h0 hassign hbody hdone hstop

end Go.Proofs.YtlekbddlemfokaaDoor

/- What the changes of a gathering do at a number; the leaves of a gathering and of a book, as plain Lean. -/
namespace Go.Proofs.YtlekbddlemfokaaDoor
set_option linter.unusedSimpArgs false
set_option linter.unusedVariables false

structure Fate where
  gone : Bool
  swapped : Bool
  added : Int
def fateStep (n : Int) (f : Fate) (c : Chg) : Fate :=
  if c.pos ≠ n then f else if c.kind = 1 then { f with gone := true } else if c.kind = 2 then { f with swapped := true } else if c.kind = 3 then { f with added := c.many } else f
def fateF (cs : List Chg) (n : Int) : Fate := cs.foldl (fateStep n) ⟨false, false, 0⟩

/-- A leaf: its gathering, Number, Plus and Kind. -/
structure Lf where
  gat : Nat
  num : Int
  plus : Int
  kind : Int
deriving DecidableEq

/-- The leaves of a gathering at one number, by what the changes do there. -/
def lvsNum (i : Nat) (k : Nat) (f : Fate) : List Lf :=
  (if 0 < k ∧ f.gone = false then [⟨i, k, 0, if f.swapped then 1 else 0⟩] else []) ++ (List.range f.added.toNat).map fun j => ⟨i, k, (j : Int) + 1, 2⟩
/-- The leaves of a gathering. -/
def lvsG (i : Nat) (g : Gth) : List Lf := (List.range (g.leaves + 1).toNat).flatMap fun k => lvsNum i k (fateF g.chs k)
/-- The leaves of a book. -/
def lvsFrom (i : Nat) : List Gth → List Lf
  | [] => []
  | g :: gs => lvsG i g ++ lvsFrom (i + 1) gs
def lvs (b : Bk) : List Lf := lvsFrom 0 b.gs

end Go.Proofs.YtlekbddlemfokaaDoor

/- What a book without an error is like: bounds of all its numbers. -/
namespace Go.Proofs.YtlekbddlemfokaaDoor
set_option linter.unusedSimpArgs false
set_option linter.unusedVariables false

theorem inB_iff {lo hi x : Int} : inB lo hi x = true ↔ lo ≤ x ∧ x ≤ hi := by simp [inB]
theorem gsErr_zero : ∀ {gs : List Gth} {seen : List (Int × Int)} {last : Int × Int} {i : Nat}, (gsErr seen last i gs).2 = 0 → ∀ g ∈ gs, ∃ seen last, gthErr seen last g = 0
  | [], _, _, _, _, g, hg => by cases hg
  | x :: xs, seen, last, i, h, g, hg => by
    unfold gsErr at h
    by_cases h0 : gthErr seen last x = 0
    · rw [if_pos h0] at h
      rcases List.mem_cons.1 hg with rfl | hg
      · exact ⟨seen, last, h0⟩
      · exact gsErr_zero h g hg
    · rw [if_neg h0] at h; exact absurd h h0
theorem chsErr_zero : ∀ {cs : List Chg} {l : Int} {p : Option Chg} {i : Nat}, (chsErr l p i cs).2 = 0 → ∀ c ∈ cs, kindB c = true ∧ rangeB c l = true
  | [], _, _, _, _, c, hc => by cases hc
  | x :: xs, l, p, i, h, c, hc => by
    unfold chsErr at h
    by_cases h0 : chErr l p x = 0
    · rw [if_pos h0] at h
      rcases List.mem_cons.1 hc with rfl | hc
      · unfold chErr at h0
        by_cases hk : kindB c = false
        · rw [if_pos hk] at h0; omega
        · rw [if_neg hk] at h0
          by_cases hr : rangeB c l = false
          · rw [if_pos hr] at h0; omega
          · exact ⟨by simpa using hk, by simpa using hr⟩
      · exact chsErr_zero h c hc
    · rw [if_neg h0] at h; exact absurd h h0

/-- A gathering without an error. -/
structure GOk (g : Gth) : Prop where
  sig : sigB g.round g.letter = true
  folded : foldedB g.leaves = true
  few : g.chs.length ≤ 4
  chs : (chsErr g.leaves none 0 g.chs).2 = 0
theorem gthErr_zero {seen : List (Int × Int)} {last : Int × Int} {g : Gth} (h : gthErr seen last g = 0) : GOk g := by
  unfold gthErr at h
  by_cases h1 : sigB g.round g.letter = false
  · rw [if_pos h1] at h; omega
  rw [if_neg h1] at h
  by_cases h2 : (g.round, g.letter) ∈ seen
  · rw [if_pos h2] at h; omega
  rw [if_neg h2] at h
  by_cases h3 : g.letter < 23 ∧ behindB g.round g.letter last.1 last.2 = false
  · rw [if_pos h3] at h; omega
  rw [if_neg h3] at h
  by_cases h4 : foldedB g.leaves = false
  · rw [if_pos h4] at h; omega
  rw [if_neg h4] at h
  by_cases h5 : 4 < g.chs.length
  · rw [if_pos h5] at h; omega
  rw [if_neg h5] at h
  exact ⟨by simpa using h1, by simpa using h4, by omega, h⟩
theorem GOk.leaves {g : Gth} (h : GOk g) : 1 ≤ g.leaves ∧ g.leaves ≤ 12 := by
  have := h.folded
  simp only [foldedB, Bool.or_eq_true, Bool.and_eq_true, decide_eq_true_eq, inB_iff] at this
  omega
theorem GOk.round {g : Gth} (h : GOk g) : 1 ≤ g.round ∧ g.round ≤ 3 := by
  have := h.sig
  simp only [sigB, Bool.and_eq_true, inB_iff] at this
  omega
theorem GOk.letter {g : Gth} (h : GOk g) : 0 ≤ g.letter ∧ g.letter ≤ 24 := by
  have := h.sig
  simp only [sigB, Bool.and_eq_true, inB_iff] at this
  omega
theorem GOk.ch {g : Gth} (h : GOk g) {c : Chg} (hc : c ∈ g.chs) : (c.kind = 1 ∨ c.kind = 2 ∨ c.kind = 3) ∧ 0 ≤ c.pos ∧ c.pos ≤ g.leaves ∧ 0 ≤ c.many ∧ c.many ≤ 4 := by
  obtain ⟨hk, hr⟩ := chsErr_zero h.chs c hc
  simp only [kindB, Bool.or_eq_true, decide_eq_true_eq] at hk
  unfold rangeB at hr
  split at hr <;> simp only [Bool.and_eq_true, inB_iff, decide_eq_true_eq] at hr <;> refine ⟨by omega, by omega, by omega, by omega, by omega⟩

def errF (b : Bk) : Int := (checkF b).2.2
structure BOk (b : Bk) : Prop where
  signed : 0 ≤ b.signed ∧ b.signed ≤ 12
  len : 1 ≤ b.gs.length ∧ b.gs.length ≤ 30
  gs : ∀ g ∈ b.gs, GOk g
theorem errF_zero {b : Bk} (h : errF b = 0) : BOk b := by
  unfold errF checkF at h
  by_cases h1 : inB 0 12 b.signed = false
  · rw [if_pos h1] at h; simp at h
  rw [if_neg h1] at h
  by_cases h2 : inB 1 30 b.gs.length = false
  · rw [if_pos h2] at h; simp at h
  rw [if_neg h2] at h
  have h1' := inB_iff.1 (show inB 0 12 b.signed = true by simpa using h1)
  have h2' := inB_iff.1 (show inB 1 30 b.gs.length = true by simpa using h2)
  by_cases h3 : (gsErr [] (0, 0) 0 b.gs).2 = 0
  · exact ⟨h1', by omega, fun g hg => by obtain ⟨s, l, hz⟩ := gsErr_zero h3 g hg; exact gthErr_zero hz⟩
  · rw [if_neg h3] at h; exact absurd h h3

theorem lvsFrom_app : ∀ (xs ys : List Gth) (i : Nat), lvsFrom i (xs ++ ys) = lvsFrom i xs ++ lvsFrom (i + xs.length) ys
  | [], ys, i => by simp [lvsFrom]
  | x :: xs, ys, i => by
    simp only [List.cons_append, lvsFrom, lvsFrom_app xs ys (i + 1), List.append_assoc, List.length_cons]
    rw [show i + 1 + xs.length = i + (xs.length + 1) by omega]
theorem take_split {α : Type} {xs : List α} {k : Nat} {x : α} (h : xs[k]? = some x) : xs = xs.take k ++ x :: xs.drop (k + 1) ∧ xs.take (k + 1) = xs.take k ++ [x] := by
  obtain ⟨hk, rfl⟩ := List.getElem?_eq_some_iff.1 h
  exact ⟨by simp, by simp⟩
theorem lvsFrom_take {gs : List Gth} {k : Nat} {g : Gth} (h : gs[k]? = some g) : lvsFrom 0 (gs.take (k + 1)) = lvsFrom 0 (gs.take k) ++ lvsG k g := by
  have hk := (List.getElem?_eq_some_iff.1 h).1
  rw [(take_split h).2, lvsFrom_app]
  simp [lvsFrom, Nat.min_eq_left (Nat.le_of_lt hk)]
theorem lvs_split {gs : List Gth} {k : Nat} {g : Gth} (h : gs[k]? = some g) : ∃ rest, lvsFrom 0 gs = lvsFrom 0 (gs.take k) ++ (lvsG k g ++ rest) := by
  have hk := (List.getElem?_eq_some_iff.1 h).1
  refine ⟨lvsFrom (k + 1) (gs.drop (k + 1)), ?_⟩
  conv => lhs; rw [(take_split h).1]
  rw [lvsFrom_app]
  simp [lvsFrom, Nat.min_eq_left (Nat.le_of_lt hk)]
theorem lvsNum_mem {i k : Nat} {f : Fate} {x : Lf} (h : x ∈ lvsNum i k f) : x.gat = i ∧ x.num = k ∧ 0 ≤ x.plus ∧ (x.plus = 0 ∨ x.plus ≤ f.added) ∧ 0 ≤ x.kind ∧ x.kind ≤ 2 := by
  simp only [lvsNum, List.mem_append, List.mem_map, List.mem_range] at h
  rcases h with h | ⟨j, hj, rfl⟩
  · split at h
    · simp only [List.mem_singleton] at h
      subst h
      refine ⟨rfl, rfl, by simp, by simp, ?_, ?_⟩ <;> dsimp only <;> split <;> omega
    · cases h
  · exact ⟨rfl, rfl, by dsimp only; omega, by dsimp only; omega, by dsimp only; omega, by dsimp only; omega⟩
theorem lvsG_mem {i : Nat} {g : Gth} {x : Lf} (h : x ∈ lvsG i g) : x.gat = i ∧ 0 ≤ x.num ∧ x.num ≤ g.leaves ∧ 0 ≤ x.plus ∧ (x.plus = 0 ∨ ∃ n, x.plus ≤ (fateF g.chs n).added) := by
  simp only [lvsG, List.mem_flatMap, List.mem_range] at h
  obtain ⟨k, hk, h⟩ := h
  obtain ⟨h1, h2, h3, h4, -⟩ := lvsNum_mem h
  exact ⟨h1, by omega, by omega, h3, h4.imp id fun h => ⟨_, h⟩⟩
theorem lvsFrom_mem : ∀ {gs : List Gth} {i : Nat} {x : Lf}, x ∈ lvsFrom i gs → ∃ g, i ≤ x.gat ∧ gs[x.gat - i]? = some g ∧ x ∈ lvsG x.gat g
  | [], _, _, h => by cases h
  | g :: gs, i, x, h => by
    simp only [lvsFrom, List.mem_append] at h
    rcases h with h | h
    · have hx := (lvsG_mem h).1
      exact ⟨g, by omega, by rw [hx]; simp, by rw [hx]; exact h⟩
    · obtain ⟨g', h1, h2, h3⟩ := lvsFrom_mem h
      refine ⟨g', by omega, ?_, h3⟩
      rw [show x.gat - i = (x.gat - (i + 1)) + 1 by omega]
      simpa using h2
theorem lvs_mem {b : Bk} {x : Lf} (h : x ∈ lvs b) : ∃ g, b.gs[x.gat]? = some g ∧ x ∈ lvsG x.gat g := by
  obtain ⟨g, -, h2, h3⟩ := lvsFrom_mem h
  exact ⟨g, by simpa using h2, h3⟩
theorem lvsNum_len {i k : Nat} {f : Fate} : (lvsNum i k f).length ≤ 1 + f.added.toNat := by
  simp only [lvsNum, List.length_append, List.length_map, List.length_range]
  split <;> simp
theorem flatMap_len {α β : Type} {f : α → List β} {n : Nat} : ∀ {xs : List α}, (∀ x ∈ xs, (f x).length ≤ n) → (xs.flatMap f).length ≤ xs.length * n
  | [], _ => by simp
  | x :: xs, h => by
    have h1 := h x (by simp)
    have h2 := flatMap_len (xs := xs) fun y hy => h y (by simp [hy])
    simp only [List.flatMap_cons, List.length_append, List.length_cons, Nat.add_mul]
    omega
end Go.Proofs.YtlekbddlemfokaaDoor

/- How changes, items and books are written, as plain Lean. -/
namespace Go.Proofs.YtlekbddlemfokaaDoor
set_option linter.unusedSimpArgs false
set_option linter.unusedVariables false

/-- How a change is written. -/
def chT (c : Chg) : List UInt8 := if c.kind = 1 then 45 :: dec c.pos else if c.kind = 2 then 61 :: dec c.pos else dec c.pos ++ 43 :: dec c.many
/-- Words with a byte between each two. -/
def joinB (s : UInt8) : List (List UInt8) → List UInt8
  | [] => []
  | [x] => x
  | x :: y :: xs => x ++ s :: joinB s (y :: xs)
def chsT (cs : List Chg) : List UInt8 := if cs = [] then [] else 40 :: joinB 44 (cs.map chT) ++ [41]

/-- An item of a formula: one gathering, or all from the first signature to the last. -/
structure Itm where
  kind : Int
  fr : Int
  fl : Int
  lr : Int
  ll : Int
  leaves : Int
  chs : List Chg
def itmT (x : Itm) : List UInt8 := (if x.kind = 1 then sigT x.fr x.fl ++ 45 :: sigT x.lr x.ll else sigT x.fr x.fl) ++ dec x.leaves ++ chsT x.chs
def formulaT (signed : Int) (xs : List Itm) : List UInt8 := (xs.flatMap fun x => itmT x ++ [32]) ++ 36 :: dec signed
/-- The signature behind a lettered one (of a place among all of them). -/
def nextS (r l : Int) : Int × Int := if l < 22 then (r, l + 1) else (r + 1, 0)
def takesB (x : Itm) (g : Gth) : Bool := decide (x.chs.length = 0) && decide (g.chs.length = 0) && decide (x.leaves = g.leaves) && decide (x.ll < 23) && decide (nextS x.lr x.ll = (g.round, g.letter))
def itm1 (g : Gth) : Itm := ⟨0, g.round, g.letter, g.round, g.letter, g.leaves, g.chs⟩
/-- One more gathering behind items. -/
def itmStep (xs : List Itm) (g : Gth) : List Itm := match xs.getLast? with
  | some x => if takesB x g then xs.dropLast ++ [{ x with kind := 1, lr := g.round, ll := g.letter }] else xs ++ [itm1 g]
  | none => [itm1 g]
def itmsOf (gs : List Gth) : List Itm := gs.foldl itmStep []
def writeF (b : Bk) : List UInt8 := formulaT b.signed (itmsOf b.gs)

theorem chT_len (c : Chg) : (chT c).length ≤ 5 := by
  have h1 := show (dec c.pos).length ≤ 2 by unfold dec decN; split <;> simp
  have h2 := show (dec c.many).length ≤ 2 by unfold dec decN; split <;> simp
  unfold chT
  split
  · simp; omega
  · split <;> simp <;> omega
theorem joinB_len {s : UInt8} {n : Nat} : ∀ {xs : List (List UInt8)}, (∀ x ∈ xs, x.length ≤ n) → (joinB s xs).length ≤ xs.length * (n + 1)
  | [], _ => by simp [joinB]
  | [x], h => by have := h x (by simp); simp [joinB]; omega
  | x :: y :: xs, h => by
    have h1 := h x (by simp)
    have h2 := joinB_len (s := s) (n := n) (xs := y :: xs) fun z hz => h z (List.mem_cons_of_mem _ hz)
    simp only [joinB, List.length_append, List.length_cons, Nat.add_mul] at *
    omega
theorem chsT_len {cs : List Chg} (h : cs.length ≤ 4) : (chsT cs).length ≤ 26 := by
  unfold chsT
  split
  · simp
  · have := joinB_len (s := 44) (n := 5) (xs := cs.map chT) fun x hx => by
      obtain ⟨c, -, rfl⟩ := List.mem_map.1 hx
      exact chT_len c
    simp only [List.length_map] at this
    simp
    omega

end Go.Proofs.YtlekbddlemfokaaDoor

/- The readers of formulas and leaves, as plain Lean. -/
namespace Go.Proofs.YtlekbddlemfokaaDoor
set_option linter.unusedSimpArgs false
set_option linter.unusedVariables false

abbrev Bs := List UInt8

/-- A word is read if it comes next. -/
def skipF (w s : Bs) : Option Bs := if w.isPrefixOf s then some (s.drop w.length) else none
def digitF : Bs → Option (Int × Bs)
  | c :: t => if 48 ≤ c.toNat ∧ c.toNat ≤ 57 then some ((c.toNat : Int) - 48, t) else none
  | [] => none
/-- The digits behind one that is not a zero: none of the numbers may be above 12. -/
def numF : Nat → Int → Bs → Option (Int × Bs)
  | 0, n, s => some (n, s)
  | f + 1, n, s => if n ≤ 0 then some (n, s) else match digitF s with
    | none => some (n, s)
    | some (d, t) => if 12 < 10 * n + d then none else numF f (10 * n + d) t
def numberF (s : Bs) : Option (Int × Bs) := match digitF s with
  | none => none
  | some (n, t) => numF 3 n t
def roundF (s : Bs) : Int × Bs := match skipF [50] s with
  | some t => (2, t)
  | none => match skipF [51] s with
    | some t => (3, t)
    | none => (1, s)
def letterAtF : List UInt8 → Int → Bs → Option (Int × Bs)
  | [], _, _ => none
  | c :: cs, i, s => match skipF [c] s with
    | some t => some (i, t)
    | none => letterAtF cs (i + 1) s
def letterF (s : Bs) : Option (Int × Bs) := match letterAtF letterL 0 s with
  | some r => some r
  | none => match skipF [112, 105] s with
    | some t => some (23, t)
    | none => match skipF [99, 104, 105] s with
      | some t => some (24, t)
      | none => none
def sigF (s : Bs) : Option ((Int × Int) × Bs) := match letterF (roundF s).2 with
  | some (l, t) => some (((roundF s).1, l), t)
  | none => none
def changeF (s : Bs) : Option (Chg × Bs) := match skipF [45] s with
  | some t => match numberF t with
    | some (n, u) => some (⟨1, n, 0⟩, u)
    | none => none
  | none => match skipF [61] s with
    | some t => match numberF t with
      | some (n, u) => some (⟨2, n, 0⟩, u)
      | none => none
    | none => match numberF s with
      | none => none
      | some (n, t) => match skipF [43] t with
        | none => none
        | some u => match numberF u with
          | none => none
          | some (m, v) => some (⟨3, n, m⟩, v)
/-- The changes behind the first one; f: how many there may be yet. -/
def moreF : Nat → List Chg → Bs → Option (List Chg × Bs)
  | 0, cs, s => match skipF [44] s with
    | some _ => none
    | none => match skipF [41] s with
      | some u => some (cs, u)
      | none => none
  | f + 1, cs, s => match skipF [44] s with
    | some t => match changeF t with
      | some (c, u) => moreF f (cs ++ [c]) u
      | none => none
    | none => match skipF [41] s with
      | some u => some (cs, u)
      | none => none
def changesF (s : Bs) : Option (List Chg × Bs) := match skipF [40] s with
  | none => some ([], s)
  | some t => match changeF t with
    | none => none
    | some (c, u) => moreF 3 [c] u
def itemF (s : Bs) : Option (Itm × Bs) := match sigF s with
  | none => none
  | some (a, t) => match skipF [45] t with
    | none => match numberF t with
      | none => none
      | some (n, u) => match changesF u with
        | none => none
        | some (cs, v) => some (⟨0, a.1, a.2, a.1, a.2, n, cs⟩, v)
    | some t => match sigF t with
      | none => none
      | some (z, u) => if a.2 < 23 ∧ z.2 < 23 ∧ behindB z.1 z.2 a.1 a.2 = true then match numberF u with
          | none => none
          | some (n, v) => some (⟨1, a.1, a.2, z.1, z.2, n, []⟩, v)
        else none
def itemsF : Nat → Bs → Option (List Itm × Bs)
  | 0, _ => none
  | f + 1, s => match skipF [36] s with
    | some t => some ([], t)
    | none => match itemF s with
      | none => none
      | some (x, t) => match skipF [32] t with
        | none => none
        | some u => match itemsF f u with
          | none => none
          | some (xs, v) => some (x :: xs, v)
/-- The signatures from one to another one. -/
def runS : Nat → Int × Int → Int × Int → List (Int × Int)
  | 0, s, _ => [s]
  | n + 1, s, l => if s = l then [s] else s :: runS n (nextS s.1 s.2) l
def rankS (r l : Int) : Int := (r - 1) * 23 + l
def itmGs (x : Itm) : List Gth := if x.kind = 0 then [⟨x.fr, x.fl, x.leaves, x.chs⟩] else (runS (rankS x.lr x.ll - rankS x.fr x.fl).toNat (x.fr, x.fl) (x.lr, x.ll)).map fun s => ⟨s.1, s.2, x.leaves, []⟩
def gsOf (xs : List Itm) : List Gth := xs.flatMap itmGs
def bookF (s : Bs) : Option (Bk × Bs) := match itemsF (s.length + 1) s with
  | none => none
  | some (xs, t) => match numberF t with
    | none => none
    | some (n, u) => some (⟨n, gsOf xs⟩, u)
/-- All of a text. -/
def allF {α : Type} (r : Option (α × Bs)) : Option α := match r with
  | some (x, []) => some x
  | _ => none
def readF (s : Bs) : Bk × Int := if 1000 < s.length then (⟨0, []⟩, 3) else match allF (bookF s) with
  | none => (⟨0, []⟩, 6)
  | some b => if errF b = 0 then (b, 0) else (⟨0, []⟩, 6)

/-- The name of a leaf. -/
def plusF (s : Bs) : Option (Int × Bs) := match skipF [43] s with
  | none => some (0, s)
  | some t => match numberF t with
    | none => none
    | some (p, u) => if p = 0 then none else some (p, u)
def leafNameF (s : Bs) : Option ((Int × Int × Int × Int) × Bs) := match sigF s with
  | none => none
  | some (a, t) => match numberF t with
    | none => none
    | some (n, u) => match plusF u with
      | none => none
      | some (p, v) => if possibleB n p = true then some ((a.1, a.2, n, p), v) else none

theorem skipF_len {w s t : Bs} (h : skipF w s = some t) : t.length + w.length = s.length := by
  unfold skipF at h
  split at h
  · rename_i hp
    have := (List.isPrefixOf_iff_prefix.1 hp).length_le
    cases h
    simp only [List.length_drop]
    omega
  · cases h
theorem digitF_len {s t : Bs} {n : Int} (h : digitF s = some (n, t)) : t.length + 1 = s.length ∧ 0 ≤ n ∧ n ≤ 9 := by
  cases s with
  | nil => cases h
  | cons c s =>
    simp only [digitF] at h
    split at h
    · simp only [Option.some.injEq, Prod.mk.injEq] at h
      obtain ⟨rfl, rfl⟩ := h
      refine ⟨rfl, by omega, by omega⟩
    · cases h
theorem numF_len : ∀ {f : Nat} {n m : Int} {s t : Bs}, numF f n s = some (m, t) → 0 ≤ n ∧ n ≤ 12 → t.length ≤ s.length ∧ 0 ≤ m ∧ m ≤ 12
  | 0, n, m, s, t, h, hn => by
    simp only [numF, Option.some.injEq, Prod.mk.injEq] at h
    obtain ⟨rfl, rfl⟩ := h
    exact ⟨Nat.le_refl _, hn⟩
  | f + 1, n, m, s, t, h, hn => by
    simp only [numF] at h
    split at h
    · simp only [Option.some.injEq, Prod.mk.injEq] at h
      obtain ⟨rfl, rfl⟩ := h
      exact ⟨Nat.le_refl _, hn⟩
    · split at h
      · simp only [Option.some.injEq, Prod.mk.injEq] at h
        obtain ⟨rfl, rfl⟩ := h
        exact ⟨Nat.le_refl _, hn⟩
      · rename_i d u hd
        split at h
        · cases h
        · have := digitF_len hd
          have := numF_len h (by omega)
          omega
theorem numberF_len {s t : Bs} {n : Int} (h : numberF s = some (n, t)) : t.length < s.length ∧ 0 ≤ n ∧ n ≤ 12 := by
  unfold numberF at h
  split at h
  · cases h
  · rename_i d u hd
    have := digitF_len hd
    have := numF_len h (by omega)
    omega
theorem roundF_len {s : Bs} : (roundF s).2.length ≤ s.length ∧ 1 ≤ (roundF s).1 ∧ (roundF s).1 ≤ 3 := by
  unfold roundF
  split
  · rename_i t h
    have := skipF_len h
    simp only [List.length_cons, List.length_nil] at this
    exact ⟨by simp; omega, by simp, by simp⟩
  · split
    · rename_i t h
      have := skipF_len h
      simp only [List.length_cons, List.length_nil] at this
      exact ⟨by simp; omega, by simp, by simp⟩
    · exact ⟨by simp, by simp, by simp⟩
theorem letterAtF_len : ∀ {cs : List UInt8} {i n : Int} {s t : Bs}, letterAtF cs i s = some (n, t) → t.length < s.length ∧ i ≤ n ∧ n < i + cs.length
  | [], _, _, _, _, h => by cases h
  | c :: cs, i, n, s, t, h => by
    simp only [letterAtF] at h
    split at h
    · rename_i u hu
      have := skipF_len hu
      simp only [Option.some.injEq, Prod.mk.injEq] at h
      obtain ⟨rfl, rfl⟩ := h
      simp only [List.length_cons, List.length_nil] at this ⊢
      omega
    · have := letterAtF_len h
      simp only [List.length_cons] at this ⊢
      omega
theorem letterF_len {s t : Bs} {n : Int} (h : letterF s = some (n, t)) : t.length < s.length ∧ 0 ≤ n ∧ n ≤ 24 := by
  unfold letterF at h
  split at h
  · rename_i r hr
    cases h
    have := letterAtF_len hr
    have e : letterL.length = 23 := rfl
    omega
  · split at h
    · rename_i u hu
      have := skipF_len hu
      simp only [Option.some.injEq, Prod.mk.injEq] at h
      obtain ⟨rfl, rfl⟩ := h
      simp only [List.length_cons, List.length_nil] at this
      omega
    · split at h
      · rename_i u hu
        have := skipF_len hu
        simp only [Option.some.injEq, Prod.mk.injEq] at h
        obtain ⟨rfl, rfl⟩ := h
        simp only [List.length_cons, List.length_nil] at this
        omega
      · cases h
theorem sigF_len {s t : Bs} {a : Int × Int} (h : sigF s = some (a, t)) : t.length < s.length ∧ sigB a.1 a.2 = true := by
  unfold sigF at h
  split at h
  · rename_i l u hu
    simp only [Option.some.injEq, Prod.mk.injEq] at h
    obtain ⟨rfl, rfl⟩ := h
    have h1 := letterF_len hu
    have h2 := roundF_len (s := s)
    refine ⟨by omega, ?_⟩
    simp only [sigB, inB, Bool.and_eq_true, decide_eq_true_eq]
    omega
  · cases h
/-- A change that is read: its numbers are at most 12. -/
def ChRead (c : Chg) : Prop := (c.kind = 1 ∨ c.kind = 2 ∨ c.kind = 3) ∧ 0 ≤ c.pos ∧ c.pos ≤ 12 ∧ 0 ≤ c.many ∧ c.many ≤ 12
theorem changeF_len {s t : Bs} {c : Chg} (h : changeF s = some (c, t)) : t.length < s.length ∧ ChRead c := by
  unfold changeF at h
  split at h
  · rename_i u hu
    have := skipF_len hu
    split at h
    · rename_i n v hn
      have := numberF_len hn
      simp only [Option.some.injEq, Prod.mk.injEq] at h
      obtain ⟨rfl, rfl⟩ := h
      simp only [List.length_cons, List.length_nil] at *
      exact ⟨by omega, Or.inl rfl, this.2.1, this.2.2, by simp, by simp⟩
    · cases h
  · split at h
    · rename_i u hu
      have := skipF_len hu
      split at h
      · rename_i n v hn
        have := numberF_len hn
        simp only [Option.some.injEq, Prod.mk.injEq] at h
        obtain ⟨rfl, rfl⟩ := h
        simp only [List.length_cons, List.length_nil] at *
        exact ⟨by omega, Or.inr (Or.inl rfl), this.2.1, this.2.2, by simp, by simp⟩
      · cases h
    · split at h
      · cases h
      · rename_i n v hn
        have h1 := numberF_len hn
        split at h
        · cases h
        · rename_i u hu
          have h2 := skipF_len hu
          split at h
          · cases h
          · rename_i m x hm
            have h3 := numberF_len hm
            simp only [Option.some.injEq, Prod.mk.injEq] at h
            obtain ⟨rfl, rfl⟩ := h
            simp only [List.length_cons, List.length_nil] at *
            exact ⟨by omega, Or.inr (Or.inr rfl), h1.2.1, h1.2.2, h3.2.1, h3.2.2⟩
theorem moreF_len : ∀ {f : Nat} {cs ds : List Chg} {s t : Bs}, moreF f cs s = some (ds, t) → (∀ c ∈ cs, ChRead c) → t.length < s.length ∧ (∀ c ∈ ds, ChRead c) ∧ ds.length ≤ cs.length + f ∧ cs.length ≤ ds.length
  | 0, cs, ds, s, t, h, hc => by
    simp only [moreF] at h
    split at h
    · cases h
    · split at h
      · rename_i u hu
        have := skipF_len hu
        simp only [Option.some.injEq, Prod.mk.injEq] at h
        obtain ⟨rfl, rfl⟩ := h
        simp only [List.length_cons, List.length_nil] at this
        exact ⟨by omega, hc, by omega, by omega⟩
      · cases h
  | f + 1, cs, ds, s, t, h, hc => by
    simp only [moreF] at h
    split at h
    · rename_i u hu
      have := skipF_len hu
      split at h
      · rename_i c v hv
        have h1 := changeF_len hv
        obtain ⟨h2, h3, h4, h5⟩ := moreF_len h (fun c' hc' => by
          rcases List.mem_append.1 hc' with h | h
          · exact hc _ h
          · simp only [List.mem_singleton] at h; subst h; exact h1.2)
        simp only [List.length_append, List.length_cons, List.length_nil] at *
        exact ⟨by omega, h3, by omega, by omega⟩
      · cases h
    · split at h
      · rename_i u hu
        have := skipF_len hu
        simp only [Option.some.injEq, Prod.mk.injEq] at h
        obtain ⟨rfl, rfl⟩ := h
        simp only [List.length_cons, List.length_nil] at this
        exact ⟨by omega, hc, by omega, by omega⟩
      · cases h
theorem changesF_len {s t : Bs} {cs : List Chg} (h : changesF s = some (cs, t)) : t.length ≤ s.length ∧ (∀ c ∈ cs, ChRead c) ∧ cs.length ≤ 4 := by
  unfold changesF at h
  split at h
  · simp only [Option.some.injEq, Prod.mk.injEq] at h
    obtain ⟨rfl, rfl⟩ := h
    exact ⟨Nat.le_refl _, (fun c hc => by cases hc), by simp⟩
  · rename_i u hu
    have := skipF_len hu
    split at h
    · cases h
    · rename_i c v hv
      have h1 := changeF_len hv
      obtain ⟨h2, h3, h4, -⟩ := moreF_len h (fun c' hc' => by simp only [List.mem_singleton] at hc'; subst hc'; exact h1.2)
      simp only [List.length_cons, List.length_nil] at *
      exact ⟨by omega, h3, by omega⟩
/-- An item that is read. -/
structure ItRead (x : Itm) : Prop where
  first : sigB x.fr x.fl = true
  last : sigB x.lr x.ll = true
  leaves : 0 ≤ x.leaves ∧ x.leaves ≤ 12
  few : x.chs.length ≤ 4
  chs : ∀ c ∈ x.chs, ChRead c
  kind : (x.kind = 0 ∧ x.fr = x.lr ∧ x.fl = x.ll) ∨ (x.kind = 1 ∧ x.fl < 23 ∧ x.ll < 23 ∧ behindB x.lr x.ll x.fr x.fl = true ∧ x.chs = [])
theorem itemF_len {s t : Bs} {x : Itm} (h : itemF s = some (x, t)) : t.length < s.length ∧ ItRead x := by
  unfold itemF at h
  split at h
  · cases h
  · rename_i a u hu
    have h1 := sigF_len hu
    split at h
    · split at h
      · cases h
      · rename_i n v hv
        have h2 := numberF_len hv
        split at h
        · cases h
        · rename_i cs y hy
          have h3 := changesF_len hy
          simp only [Option.some.injEq, Prod.mk.injEq] at h
          obtain ⟨rfl, rfl⟩ := h
          exact ⟨by omega, h1.2, h1.2, h2.2, h3.2.2, h3.2.1, Or.inl ⟨rfl, rfl, rfl⟩⟩
    · rename_i u2 hu2
      have := skipF_len hu2
      split at h
      · cases h
      · rename_i z v hv
        have h2 := sigF_len hv
        split at h
        · rename_i hc
          split at h
          · cases h
          · rename_i n y hy
            have h3 := numberF_len hy
            simp only [Option.some.injEq, Prod.mk.injEq] at h
            obtain ⟨rfl, rfl⟩ := h
            exact ⟨by omega, h1.2, h2.2, h3.2, by simp, (fun c hc => by cases hc), Or.inr ⟨rfl, hc.1, hc.2.1, hc.2.2, rfl⟩⟩
        · cases h
theorem itemsF_more : ∀ {f : Nat} {s : Bs} (g : Nat), s.length < f → itemsF (f + g) s = itemsF f s
  | 0, _, _, h => by omega
  | f + 1, s, g, h => by
    rw [show f + 1 + g = (f + g) + 1 by omega]
    simp only [itemsF]
    split
    · rfl
    · split
      · rfl
      · rename_i x t hx
        have h1 := itemF_len hx
        split
        · rfl
        · rename_i u hu
          have h2 := skipF_len hu
          rw [itemsF_more g (by omega)]
/-- What is left to read behind some items. -/
theorem itemsF_step {f : Nat} {s t u : Bs} {x : Itm} (h0 : skipF [36] s = none) (hx : itemF s = some (x, t)) (hu : skipF [32] t = some u) : itemsF (f + 1) s = (itemsF f u).map fun r => (x :: r.1, r.2) := by
  simp only [itemsF, h0, hx, hu]
  cases itemsF f u <;> rfl

end Go.Proofs.YtlekbddlemfokaaDoor
