/- The parts Shelf, Hs, Qh of the proof, joined. It holds without conditions of its own. -/
import Derived.Shelf.Strings.Builder1
import Derived.Shelf.Strings.Builder2
import Derived.Shelf.Strings.OnBuilder
import Derived.Shelf.Small.Wraps
import Derived.Shelf.Strconv.Itoa0
import Derived.Shelf.Strconv.Itoa1
import Derived.Shelf.LaysM
import Derived.Shelf.Strconv.Itoa2
import Derived.Shelf.Strconv.Itoa3
import Derived.Shelf.Strings.Prefix
import Derived.Test.YtimdmgkegdlafaaGreatDoorProg
import Derived.Test.YtimdmgkegdlafaaGreatDoorCH3
import Derived.Deep.RegionWith
import Derived.BigRegion
import Derived.Lib.QuietBelow
import Derived.StillTailTactics
import Derived.Test.YtimdmgkegdlafaaGreatDoorCH6
/-
  DERIVED: THE SHELF's CONTRACTS AT THIS DUMP, IN PLAIN WORDS (tools/lay-plain.mjs out of 'TryzShelf.lean', which tools/lay-shelf.mjs wrote): THE SAME DECLARATIONS UNDER THE SAME NAMES: 'import', 'namespace', 'open', 'def', 'theorem' AND NOTHING ELSE: no command of the shelf's: FOR A HAND-IN. Each laying: the table of numbers ('.._ren') and one theorem, a field a fact of the dump's own or the kernel's comparison; each contract: ONE APPLICATION.
-/
namespace Go.Proofs
open Go.Shelf
def Tryz.lays156_ren : Go.Shelf.Ren := ⟨fun | 156 => 101 | 165 => 105 | 166 => 106 | 169 => 107 | 240 => 113 | 241 => 114 | 276 => 120 | 277 => 121 | n => n, fun | 31 => 68 | 9 => 9 | 3 => 3 | 4 => 4 | 0 => 0 | 20 => 20 | 72 => 167 | 76 => 171 | 70 => 165 | 37 => 34 | 75 => 170 | 127 => 180 | 164 => 188 | 5 => 5 | 80 => 98 | n => n, fun | n => n⟩
theorem Tryz.lays156 : Go.Proofs.Lays.n156 Tryz.prog Tryz.lays156_ren := {
  mixed := by kernel_rfl
  f156 := Tryz.func101.trans (congrArg some (by kernel_rfl))
  f165 := Tryz.func105.trans (congrArg some (by kernel_rfl))
  f166 := Tryz.func106.trans (congrArg some (by kernel_rfl))
  f169 := Tryz.func107.trans (congrArg some (by kernel_rfl))
  f240 := Tryz.func113.trans (congrArg some (by kernel_rfl))
  f241 := Tryz.func114.trans (congrArg some (by kernel_rfl))
  f276 := Tryz.func120.trans (congrArg some (by kernel_rfl))
  f277 := Tryz.func121.trans (congrArg some (by kernel_rfl))
  t0 := Tryz.underlying0
  a0 := Tryz.isAgg0
  z0 := Tryz.sizeOf0
  v0 := Tryz.zeroValue0
  t3 := Tryz.underlying3
  a3 := Tryz.isAgg3
  z3 := Tryz.sizeOf3
  v3 := Tryz.zeroValue3
  t4 := Tryz.underlying4
  a4 := Tryz.isAgg4
  z4 := Tryz.sizeOf4
  v4 := Tryz.zeroValue4
  t9 := Tryz.underlying9
  a9 := Tryz.isAgg9
  z9 := Tryz.sizeOf9
  v9 := Tryz.zeroValue9
  t20 := Tryz.underlying20
  a20 := Tryz.isAgg20
  z20 := Tryz.sizeOf20
  v20 := Tryz.zeroValue20
  t31 := Tryz.underlying68
  a31 := Tryz.isAgg68
  z31 := Tryz.sizeOf68
  v31 := Tryz.zeroValue68
  t37 := Tryz.underlying34
  a37 := Tryz.isAgg34
  z37 := Tryz.sizeOf34
  v37 := Tryz.zeroValue34
  t70 := Tryz.underlying165
  a70 := Tryz.isAgg165
  z70 := Tryz.sizeOf165
  v70 := Tryz.zeroValue165
  t72 := Tryz.underlying167
  a72 := Tryz.isAgg167
  z72 := Tryz.sizeOf167
  v72 := Tryz.zeroValue167
  t75 := Tryz.underlying170
  a75 := Tryz.isAgg170
  z75 := Tryz.sizeOf170
  v75 := Tryz.zeroValue170
  t76 := Tryz.underlying171
  a76 := Tryz.isAgg171
  z76 := Tryz.sizeOf171
  v76 := Tryz.zeroValue171
  t127 := Tryz.underlying180
  a127 := Tryz.isAgg180
  z127 := Tryz.sizeOf180
  v127 := Tryz.zeroValue180
  t164 := Tryz.underlying188
  a164 := Tryz.isAgg188
  z164 := Tryz.sizeOf188
  v164 := Tryz.zeroValue188 }
theorem Tryz.Builder_Extra_156 : Builder.Extra Tryz.prog Tryz.lays156_ren := {
  sizeBuilder := by kernel_rfl
  liesBuilder := by kernel_rfl
  t5 := Tryz.underlying5
  a5 := Tryz.isAgg5
  z5 := Tryz.sizeOf5
  v5 := Tryz.zeroValue5
  infoByte := by kernel_rfl
  cellsByte := by kernel_rfl
  sizeByte := by kernel_rfl
  neB5 := by decide }
open Go.RowKit in
/-- No element: the empty string; the world is as it was. (Whatever the slice's address and capacity: a nil slice too.) (LAID: no walk: one application.) -/
theorem Tryz.strings_Join_none (a : Option Addr) (c : Nat) (sep : ByteArray) (w : World) :
    Calls Tryz.prog 101 #[.slice a 0 c, .string sep] w fun e w' => e = .returned (.string ⟨#[]⟩) ∧ w' = w := Any.strings_Join_none Tryz.lays156 Tryz.Builder_Extra_156 a c sep w
open Go.RowKit in
/-- strings.Join: "Join concatenates the elements of its first argument to create a single string. The separator string sep is placed between elements in the resulting string.": HOWEVER MANY ELEMENTS. Below the heap's end the world is as it was. (LAID: no walk: one application.) -/
theorem Tryz.strings_Join (bk o c : Nat) (xs : List ByteArray) (sep : ByteArray) (w : World) (hcells : ∀ (j : Nat) x, xs[j]? = some x → w.cell? ⟨bk, o + j, none⟩ = some (.string x)) (hbk : bk < w.heap.size) (hN : xs.length ≤ 140737488355328) (hcap : xs.length ≤ c) (hlen : (Lib.join (xs.map (·.data.toList)) sep.data.toList).length ≤ 140737488355328) :
    Calls Tryz.prog 101 #[.slice (some ⟨bk, o, none⟩) xs.length c, .string sep] w fun e w' => e = .returned (.string ⟨(Lib.join (xs.map (·.data.toList)) sep.data.toList).toArray⟩) ∧ Below w.heap.size w w' := Any.strings_Join Tryz.lays156 Tryz.Builder_Extra_156 bk o c xs sep w hcells hbk hN hcap hlen
def Tryz.lays103_ren : Go.Shelf.Ren := ⟨fun | 103 => 86 | 210 => 103 | 206 => 112 | n => n, fun | 9 => 9 | 4 => 4 | 24 => 137 | 3 => 3 | n => n, fun | n => n⟩
theorem Tryz.lays103 : Go.Proofs.Lays.n103 Tryz.prog Tryz.lays103_ren := {
  mixed := by kernel_rfl
  f103 := Tryz.func86.trans (congrArg some (by kernel_rfl))
  f206 := Tryz.func112.trans (congrArg some (by kernel_rfl))
  f210 := Tryz.func103.trans (congrArg some (by kernel_rfl))
  t3 := Tryz.underlying3
  a3 := Tryz.isAgg3
  z3 := Tryz.sizeOf3
  v3 := Tryz.zeroValue3
  t4 := Tryz.underlying4
  a4 := Tryz.isAgg4
  z4 := Tryz.sizeOf4
  v4 := Tryz.zeroValue4
  t9 := Tryz.underlying9
  a9 := Tryz.isAgg9
  z9 := Tryz.sizeOf9
  v9 := Tryz.zeroValue9
  t24 := Tryz.underlying137
  a24 := Tryz.isAgg137
  z24 := Tryz.sizeOf137
  v24 := Tryz.zeroValue137 }
open Go.RowKit in
/-- strings.CutPrefix: "CutPrefix returns s without the provided leading prefix string and reports whether it found the prefix. If s doesn't start with prefix, CutPrefix returns s, false. If prefix is the empty string, CutPrefix returns s, true.": IT RETURNS '(Lib.trimPrefix s p, Lib.hasPrefix s p)'; the world is as it was. (LAID: no walk: one application.) -/
theorem Tryz.strings_CutPrefix (s p : ByteArray) (w : World) :
    Calls Tryz.prog 86 #[.string s, .string p] w fun e w' => e = .returned (.tuple #[.string ⟨(Lib.trimPrefix s.data.toList p.data.toList).toArray⟩, .bool (Lib.hasPrefix s.data.toList p.data.toList)]) ∧ w' = w := Any.strings_CutPrefix Tryz.lays103 s p w
def Tryz.lays171_ren : Go.Shelf.Ren := ⟨fun | 171 => 50 | 243 => 83 | 246 => 102 | 283 => 108 | 284 => 109 | 285 => 110 | 286 => 111 | 129 => 116 | 317 => 115 | 318 => 117 | 319 => 118 | 320 => 119 | 337 => 122 | 338 => 123 | n => n, fun | 3 => 3 | 9 => 9 | 2 => 2 | 4 => 4 | 171 => 173 | 0 => 0 | 53 => 174 | 37 => 34 | 5 => 5 | 173 => 177 | 212 => 183 | 51 => 184 | 20 => 20 | 213 => 185 | 46 => 186 | 232 => 192 | 233 => 193 | n => n, fun | 17 => 0 | 18 => 2 | 19 => 3 | n => n⟩
theorem Tryz.lays171 : Go.Proofs.Lays.n171 Tryz.prog Tryz.lays171_ren := {
  mixed := by kernel_rfl
  f129 := Tryz.func116.trans (congrArg some (by kernel_rfl))
  f171 := Tryz.func50.trans (congrArg some (by kernel_rfl))
  f243 := Tryz.func83.trans (congrArg some (by kernel_rfl))
  f246 := Tryz.func102.trans (congrArg some (by kernel_rfl))
  f283 := Tryz.func108.trans (congrArg some (by kernel_rfl))
  f284 := Tryz.func109.trans (congrArg some (by kernel_rfl))
  f285 := Tryz.func110.trans (congrArg some (by kernel_rfl))
  f286 := Tryz.func111.trans (congrArg some (by kernel_rfl))
  f317 := Tryz.func115.trans (congrArg some (by kernel_rfl))
  f318 := Tryz.func117.trans (congrArg some (by kernel_rfl))
  f319 := Tryz.func118.trans (congrArg some (by kernel_rfl))
  f320 := Tryz.func119.trans (congrArg some (by kernel_rfl))
  f337 := Tryz.func122.trans (congrArg some (by kernel_rfl))
  f338 := Tryz.func123.trans (congrArg some (by kernel_rfl))
  t0 := Tryz.underlying0
  a0 := Tryz.isAgg0
  z0 := Tryz.sizeOf0
  v0 := Tryz.zeroValue0
  t2 := Tryz.underlying2
  a2 := Tryz.isAgg2
  z2 := Tryz.sizeOf2
  v2 := Tryz.zeroValue2
  t3 := Tryz.underlying3
  a3 := Tryz.isAgg3
  z3 := Tryz.sizeOf3
  v3 := Tryz.zeroValue3
  t4 := Tryz.underlying4
  a4 := Tryz.isAgg4
  z4 := Tryz.sizeOf4
  v4 := Tryz.zeroValue4
  t5 := Tryz.underlying5
  a5 := Tryz.isAgg5
  z5 := Tryz.sizeOf5
  v5 := Tryz.zeroValue5
  t9 := Tryz.underlying9
  a9 := Tryz.isAgg9
  z9 := Tryz.sizeOf9
  v9 := Tryz.zeroValue9
  t20 := Tryz.underlying20
  a20 := Tryz.isAgg20
  z20 := Tryz.sizeOf20
  v20 := Tryz.zeroValue20
  t37 := Tryz.underlying34
  a37 := Tryz.isAgg34
  z37 := Tryz.sizeOf34
  v37 := Tryz.zeroValue34
  t46 := Tryz.underlying186
  a46 := Tryz.isAgg186
  z46 := Tryz.sizeOf186
  v46 := Tryz.zeroValue186
  t51 := Tryz.underlying184
  a51 := Tryz.isAgg184
  z51 := Tryz.sizeOf184
  v51 := Tryz.zeroValue184
  t53 := Tryz.underlying174
  a53 := Tryz.isAgg174
  z53 := Tryz.sizeOf174
  v53 := Tryz.zeroValue174
  t171 := Tryz.underlying173
  a171 := Tryz.isAgg173
  z171 := Tryz.sizeOf173
  v171 := Tryz.zeroValue173
  t173 := Tryz.underlying177
  a173 := Tryz.isAgg177
  z173 := Tryz.sizeOf177
  v173 := Tryz.zeroValue177
  t212 := Tryz.underlying183
  a212 := Tryz.isAgg183
  z212 := Tryz.sizeOf183
  v212 := Tryz.zeroValue183
  t213 := Tryz.underlying185
  a213 := Tryz.isAgg185
  z213 := Tryz.sizeOf185
  t232 := Tryz.underlying192
  a232 := Tryz.isAgg192
  z232 := Tryz.sizeOf192
  v232 := Tryz.zeroValue192
  t233 := Tryz.underlying193
  a233 := Tryz.isAgg193
  z233 := Tryz.sizeOf193
  v233 := Tryz.zeroValue193
  g17 := by kernel_rfl
  g18 := by kernel_rfl
  g19 := by kernel_rfl }
open Go.RowKit Go.Sort Go.Lib in
/-- THE ROAD WITHOUT THE TABLE: 0 <= i < 100: NO PREMISE ON THE WORLD, AND THE WORLD IS AS IT WAS: a row that keeps its argument in that range need list no table ('laid = []'). (LAID: no walk: one application.) -/
theorem Tryz.strconv_Itoa_small (i : Nat) (hi : i < 100) (w : World) :
    Calls Tryz.prog 50 #[.int .i64 i] w fun e w' => e = .returned (.string ⟨(Lib.decDigits i).toArray⟩) ∧ w' = w := Any.strconv_Itoa_small Tryz.lays171 i hi w
end Go.Proofs

/- Strings by their bytes; how numbers and signatures are written. -/
namespace Go.Proofs.YtimdmgkegdlafaaGreatDoor
set_option linter.unusedSimpArgs false
set_option linter.unusedVariables false
open Go Go.RowKit Go.Sort Go.BigFrame

/-- A string by its bytes. -/
abbrev S (l : List UInt8) : Value := .string ⟨l.toArray⟩

theorem cat_bytes (a b : List UInt8) : (⟨a.toArray⟩ : ByteArray) ++ ⟨b.toArray⟩ = ⟨(a ++ b).toArray⟩ := by
  apply ByteArray.ext; simp
theorem size_bytes (a : List UInt8) : (⟨a.toArray⟩ : ByteArray).size = a.length := by simp [ByteArray.size]
theorem decN_eq : ∀ i, i < 100 → Lib.decDigits i = decN i := by decide +kernel
theorem decN_len (n : Nat) : (decN n).length ≤ 2 := by unfold decN; split <;> simp
theorem dec_len (n : Int) : (dec n).length ≤ 2 := decN_len _
theorem letterT_len (l : Int) : (letterT l).length ≤ 3 := by unfold letterT; split <;> (try split) <;> simp
theorem sigT_len (r l : Int) : (sigT r l).length ≤ 5 := by
  unfold sigT; have := dec_len r; have := letterT_len l; split <;> simp <;> omega

theorem Itoa_any (n : Int) (h0 : 0 ≤ n) (h1 : n < 100) (w : World) :
    Calls Tryz.prog 50 #[.int .i64 n] w fun e w' => e = .returned (S (dec n)) ∧ w = w' := by
  obtain ⟨k, rfl⟩ := Int.eq_ofNat_of_zero_le h0
  have hk : k < 100 := by omega
  unfold dec
  rw [Int.toNat_natCast, ← decN_eq k hk]
  exact (Tryz.strconv_Itoa_small k hk w).mono fun e w' ⟨h1, h2⟩ => ⟨h1, h2.symm⟩

theorem letter_cut : ∀ k, k < 23 → (ByteArray.mk #[65, 66, 67, 68, 69, 70, 71, 72, 73, 75, 76, 77, 78, 79, 80, 81, 82, 83, 84, 86, 88, 89, 90]).extract k (k + 1) = ⟨[letterL.getD k 0].toArray⟩ := by decide +kernel

set_option maxHeartbeats 400000 in
theorem letterText_any (l : Int) (h0 : 0 ≤ l) (h1 : l ≤ 24) (w : World) :
    Calls Tryz.prog 97 #[.int .i64 l] w fun e w' => e = .returned (S (letterT l)) ∧ w = w' := by
  by_cases h23 : l = 23
  · subst h23
    go_enter Tryz.func97, Tryz.ntmps97
    go_wp2
    go_ret
    exact ⟨rfl, rfl⟩
  by_cases h24 : l = 24
  · subst h24
    go_enter Tryz.func97, Tryz.ntmps97
    go_wp2
    go_ret
    exact ⟨rfl, rfl⟩
  have e : letterT l = [letterL.getD l.toNat 0] := by simp [letterT, h23, h24]
  have b23 : (l == 23) = false := by simp [h23]
  have b24 : (l == 24) = false := by simp [h24]
  have hl : l < 23 := by omega
  rw [e]
  clear e h23 h24 h1
  obtain ⟨k, rfl⟩ := Int.eq_ofNat_of_zero_le h0
  rw [Int.toNat_natCast]
  have hk : k < 23 := by omega
  have hc := Lib.hid (letter_cut k hk)
  go_enter Tryz.func97, Tryz.ntmps97
  go_wp2
  go_ret
  exact ⟨congrArg (fun b => Ending.returned (Value.string b)) hc.out, rfl⟩

theorem ret_S {a : ByteArray} {l : List UInt8} (h : a = ⟨l.toArray⟩) : Ending.returned (.string a) = .returned (S l) := by rw [h]

set_option maxHeartbeats 400000 in
theorem sigText_any (r l : Int) (hs : sigB r l = true) (w : World) :
    Calls Tryz.prog 76 #[.agg #[.int .i64 r, .int .i64 l]] w fun e w' => e = .returned (S (sigT r l)) ∧ Below w.heap.size w w' := by
  have hb : 1 ≤ r ∧ r ≤ 3 ∧ 0 ≤ l ∧ l ≤ 24 := by simp [sigB, inB] at hs; omega
  obtain ⟨r1, r2, l1, l2⟩ := hb
  clear hs
  have z1 := letterT_len l
  have z2 := dec_len r
  have zl : (⟨(letterT l).toArray⟩ : ByteArray).size ≤ 3 := by rw [size_bytes]; exact z1
  have zr : (⟨(dec r).toArray⟩ : ByteArray).size ≤ 2 := by rw [size_bytes]; exact z2
  by_cases h : 1 < r
  · have e : sigT r l = dec r ++ letterT l := by simp [sigT, h]
    have HE := Lib.hid e
    clear e
    go_enter Tryz.func76, Tryz.ntmps76
    go_wp2_with fail
    refine (letterText_any l l1 l2 _).mono ?_
    rintro e w1 ⟨rfl, rfl⟩
    go_wp2_with fail
    refine (Itoa_any r (by omega) (by omega) _).mono ?_
    rintro e w1 ⟨rfl, rfl⟩
    go_wp2_with fail
    go_ret
    exact ⟨ret_S (by rw [HE.out]; exact cat_bytes _ _), (by repeat (first | exact Below.refl _ _ | assumption | (refine Below.alloc ?_ ?_ _; rotate_left; · (first | omega | (simp; done) | (simp; omega) | (simp at *; omega) | fail)) | (refine Below.setCell ?_ ?_ _; rotate_left; · (first | omega | (simp; done) | (simp; omega) | (simp at *; omega) | fail)) | refine Below.drew ?_ | fail))⟩
  · have e : sigT r l = letterT l := by simp [sigT, h]
    rw [e]
    go_enter Tryz.func76, Tryz.ntmps76
    go_wp2_with fail
    refine (letterText_any l l1 l2 _).mono ?_
    rintro e w1 ⟨rfl, rfl⟩
    go_wp2_with fail
    go_ret
    exact ⟨rfl, (by repeat (first | exact Below.refl _ _ | assumption | (refine Below.alloc ?_ ?_ _; rotate_left; · (first | omega | (simp; done) | (simp; omega) | (simp at *; omega) | fail)) | (refine Below.setCell ?_ ?_ _; rotate_left; · (first | omega | (simp; done) | (simp; omega) | (simp at *; omega) | fail)) | refine Below.drew ?_ | fail))⟩


end Go.Proofs.YtimdmgkegdlafaaGreatDoor

/- Contracts of package quire: how signatures and leaves are written. -/
namespace Go.Proofs.YtimdmgkegdlafaaGreatDoor
set_option linter.unusedSimpArgs false
set_option linter.unusedVariables false
open Go Go.RowKit Go.Sort Go.BigFrame

set_option maxHeartbeats 400000 in
theorem Sig_bad (r l : Int) (w : World) (h : sigB r l = false) :
    Calls Tryz.prog 37 #[.agg #[.int .i64 r, .int .i64 l]] w fun e w' => e = .returned (.tuple #[S [], .int .i64 7]) ∧ Below w.heap.size w w' := by
  go_enter Tryz.func37, Tryz.ntmps37
  go_wp2_with fail
  refine (isSig_any r l _).mono ?_
  rintro e w1 ⟨rfl, hb⟩
  rw [h]
  have hb1 := ((Below.refl w.heap.size w).alloc (Nat.le_refl _) _).trans (hb.mono (by simp))
  clear hb h
  go_wp2_with fail
  go_ret2
  exact ⟨rfl, hb1⟩
set_option maxHeartbeats 400000 in
theorem Sig_good (r l : Int) (w : World) (h : sigB r l = true) :
    Calls Tryz.prog 37 #[.agg #[.int .i64 r, .int .i64 l]] w fun e w' => e = .returned (.tuple #[S (sigT r l), .int .i64 0]) ∧ Below w.heap.size w w' := by
  have HS := Lib.hid h
  go_enter Tryz.func37, Tryz.ntmps37
  go_wp2_with fail
  refine (isSig_any r l _).mono ?_
  rintro e w1 ⟨rfl, hb⟩
  rw [h]
  have k0 : w1.cell? ⟨w.heap.size, 0, none⟩ = some (.int .i64 r) := cell_later' hb (by simp [World.cell?_alloc_at])
  have k1 : w1.cell? ⟨w.heap.size, 1, none⟩ = some (.int .i64 l) := cell_later' hb (by simp [World.cell?_alloc_at])
  have hb1 := ((Below.refl w.heap.size w).alloc (Nat.le_refl _) _).trans (hb.mono (by simp))
  clear hb h
  go_wp2_with fail
  refine (sigText_any r l HS.out _).mono ?_
  rintro e w2 ⟨rfl, hb⟩
  have hb2 := hb1.trans (hb.mono hb1.size)
  clear hb
  go_wp2_with fail
  go_ret2
  exact ⟨rfl, hb2⟩

/-- What Next hands back of a signature: the next one and an error. -/
def nextF (r l : Int) : Int × Int × Int :=
  if sigB r l = false then (0, 0, 7) else if ¬ l < 23 then (0, 0, 2) else if l < 22 then (r, l + 1, 0) else if r < 3 then (r + 1, 0, 0) else (0, 0, 4)

set_option maxHeartbeats 400000 in
theorem Next_bad (r l : Int) (w : World) (h : sigB r l = false) :
    Calls Tryz.prog 35 #[.agg #[.int .i64 r, .int .i64 l]] w fun e w' => e = .returned (.tuple #[.agg #[.int .i64 0, .int .i64 0], .int .i64 7]) ∧ Below w.heap.size w w' := by
  go_enter Tryz.func35, Tryz.ntmps35
  go_wp2_with fail
  refine (isSig_any r l _).mono ?_
  rintro e w1 ⟨rfl, hb⟩
  rw [h]
  have hb1 := (((Below.refl w.heap.size w).alloc (Nat.le_refl _) _).alloc (by simp) _).trans (hb.mono (by simp; omega))
  have b2 : w1.heap[w.heap.size + 1]? = some (.cells #[.int .i64 0, .int .i64 0] 39) := blk_later hb (by repeat (first | exact heap_alloc_at _ _ _ (by (first | omega | (simp; done) | (simp; omega) | (simp at *; omega) | fail)) | assumption | rw [heap_alloc_past _ _ _ (by (first | omega | (simp; done) | (simp; omega) | (simp at *; omega) | fail))] | rw [heap_setCell_past _ _ _ _ (by (first | omega | (simp; done) | (simp; omega) | (simp at *; omega) | fail))] | fail))
  have c0 := blk_cell b2 0
  have c1 := blk_cell b2 1
  have f0 := blk_free b2 0
  have f1 := blk_free b2 1
  clear hb h b2
  go_wp2_with fail
  exact bodyPost_ret (v := .tuple #[.agg #[.int .i64 0, .int .i64 0], .int .i64 7]) (by simp [results, Tryz.results35, go_sem, c0, c1]) rfl ⟨rfl, (by repeat (first | exact Below.refl _ _ | assumption | (refine Below.alloc ?_ ?_ _; rotate_left; · (first | omega | (simp; done) | (simp; omega) | (simp at *; omega) | fail)) | (refine Below.setCell ?_ ?_ _; rotate_left; · (first | omega | (simp; done) | (simp; omega) | (simp at *; omega) | fail)) | refine Below.drew ?_ | fail))⟩

set_option maxHeartbeats 400000 in
theorem Next_plain (r l : Int) (w : World) (h : sigB r l = true) (hl : ¬ l < 23) :
    Calls Tryz.prog 35 #[.agg #[.int .i64 r, .int .i64 l]] w fun e w' => e = .returned (.tuple #[.agg #[.int .i64 0, .int .i64 0], .int .i64 2]) ∧ Below w.heap.size w w' := by
  have hd : decide (l < 23) = false := decide_eq_false hl
  clear hl
  go_enter Tryz.func35, Tryz.ntmps35
  go_wp2_with fail
  refine (isSig_any r l _).mono ?_
  rintro e w1 ⟨rfl, hb⟩
  rw [h]
  have hb1 := (((Below.refl w.heap.size w).alloc (Nat.le_refl _) _).alloc (by simp) _).trans (hb.mono (by simp; omega))
  have b1 : w1.heap[w.heap.size]? = some (.cells #[.int .i64 r, .int .i64 l] 39) := blk_later hb (by repeat (first | exact heap_alloc_at _ _ _ (by (first | omega | (simp; done) | (simp; omega) | (simp at *; omega) | fail)) | assumption | rw [heap_alloc_past _ _ _ (by (first | omega | (simp; done) | (simp; omega) | (simp at *; omega) | fail))] | rw [heap_setCell_past _ _ _ _ (by (first | omega | (simp; done) | (simp; omega) | (simp at *; omega) | fail))] | fail))
  have b2 : w1.heap[w.heap.size + 1]? = some (.cells #[.int .i64 0, .int .i64 0] 39) := blk_later hb (by repeat (first | exact heap_alloc_at _ _ _ (by (first | omega | (simp; done) | (simp; omega) | (simp at *; omega) | fail)) | assumption | rw [heap_alloc_past _ _ _ (by (first | omega | (simp; done) | (simp; omega) | (simp at *; omega) | fail))] | rw [heap_setCell_past _ _ _ _ (by (first | omega | (simp; done) | (simp; omega) | (simp at *; omega) | fail))] | fail))
  have d0 := blk_cell b1 0
  have d1 := blk_cell b1 1
  have HB := Lib.hid b2
  clear hb h b2 b1
  go_wp2_with fail
  refine (lettered_is r l false hd _).mono ?_
  rintro e w2 ⟨rfl, hb⟩
  have b2 := blk_later hb HB.out
  have c0 := blk_cell b2 0
  have c1 := blk_cell b2 1
  have f0 := blk_free b2 0
  have f1 := blk_free b2 1
  have hb2 := hb1.trans (hb.mono hb1.size)
  clear hb hb1 b2 HB d0 d1
  go_wp2_with fail
  exact bodyPost_ret (v := .tuple #[.agg #[.int .i64 0, .int .i64 0], .int .i64 2]) (by simp [results, Tryz.results35, go_sem, c0, c1]) rfl ⟨rfl, (by repeat (first | exact Below.refl _ _ | assumption | (refine Below.alloc ?_ ?_ _; rotate_left; · (first | omega | (simp; done) | (simp; omega) | (simp at *; omega) | fail)) | (refine Below.setCell ?_ ?_ _; rotate_left; · (first | omega | (simp; done) | (simp; omega) | (simp at *; omega) | fail)) | refine Below.drew ?_ | fail))⟩

/-- The signature behind a lettered one; behind the last one it is none. -/
def behindF (r l : Int) : Int × Int := if l < 22 then (r, l + 1) else (r + 1, 0)

theorem following_is (r l : Int) (w : World) (hl : 0 ≤ l ∧ l ≤ 100) (hr : 0 ≤ r ∧ r ≤ 100) :
    Calls Tryz.prog 75 #[.agg #[.int .i64 r, .int .i64 l]] w fun e w' => e = .returned (.agg #[.int .i64 (behindF r l).1, .int .i64 (behindF r l).2]) ∧ Below w.heap.size w w' := by
  refine (following_any r l w hl hr).mono fun e w' ⟨h1, h2⟩ => ⟨?_, h2⟩
  rw [h1]; unfold behindF; split <;> rfl

set_option maxHeartbeats 400000 in
theorem Next_letter (r l : Int) (w : World) (h : sigB r l = true) (hl : l < 23) (r' l' : Int) (hF : behindF r l = (r', l')) (x : Bool) (hx : sigB r' l' = x) (v : Value) (hv : v = if x then .tuple #[.agg #[.int .i64 r', .int .i64 l'], .int .i64 0] else .tuple #[.agg #[.int .i64 0, .int .i64 0], .int .i64 4]) :
    Calls Tryz.prog 35 #[.agg #[.int .i64 r, .int .i64 l]] w fun e w' => e = .returned v ∧ Below w.heap.size w w' := by
  have hd : decide (l < 23) = true := decide_eq_true hl
  have hb' : 1 ≤ r ∧ r ≤ 3 ∧ 0 ≤ l ∧ l ≤ 24 := by simp [sigB, inB] at h; omega
  have HV := Lib.hid hv
  have HF := Lib.hid hF
  have HX := Lib.hid hx
  clear hl hv hF hx
  go_enter Tryz.func35, Tryz.ntmps35
  go_wp2_with fail
  refine (isSig_any r l _).mono ?_
  rintro e w1 ⟨rfl, hb⟩
  rw [h]
  have hb1 := (((Below.refl w.heap.size w).alloc (Nat.le_refl _) _).alloc (by simp) _).trans (hb.mono (by simp; omega))
  have b1 : w1.heap[w.heap.size]? = some (.cells #[.int .i64 r, .int .i64 l] 39) := blk_later hb (by repeat (first | exact heap_alloc_at _ _ _ (by (first | omega | (simp; done) | (simp; omega) | (simp at *; omega) | fail)) | assumption | rw [heap_alloc_past _ _ _ (by (first | omega | (simp; done) | (simp; omega) | (simp at *; omega) | fail))] | rw [heap_setCell_past _ _ _ _ (by (first | omega | (simp; done) | (simp; omega) | (simp at *; omega) | fail))] | fail))
  have b2 : w1.heap[w.heap.size + 1]? = some (.cells #[.int .i64 0, .int .i64 0] 39) := blk_later hb (by repeat (first | exact heap_alloc_at _ _ _ (by (first | omega | (simp; done) | (simp; omega) | (simp at *; omega) | fail)) | assumption | rw [heap_alloc_past _ _ _ (by (first | omega | (simp; done) | (simp; omega) | (simp at *; omega) | fail))] | rw [heap_setCell_past _ _ _ _ (by (first | omega | (simp; done) | (simp; omega) | (simp at *; omega) | fail))] | fail))
  have d0 := blk_cell b1 0
  have d1 := blk_cell b1 1
  have HB := Lib.hid b2
  have HA := Lib.hid b1
  clear hb h b2 b1
  go_wp2_with fail
  refine (lettered_is r l true hd _).mono ?_
  rintro e w2 ⟨rfl, hb⟩
  have HA := Lib.hid (blk_later hb HA.out)
  have HB := Lib.hid (blk_later hb HB.out)
  have d0 := blk_cell HA.out 0
  have d1 := blk_cell HA.out 1
  have hb2 := hb1.trans (hb.mono hb1.size)
  clear hb hb1 hd
  go_wp2_with fail
  refine (following_is r l _ (by omega) (by omega)).mono ?_
  rintro e w3 ⟨rfl, hb⟩
  rw [HF.out]
  have HB := Lib.hid (blk_later hb HB.out)
  have hb3 := hb2.trans (hb.mono hb2.size)
  have hlt := blk_lt HB.out
  clear hb hb2 d0 d1 HA hb'
  go_wp2_with fail
  refine (isSig_any r' l' _).mono ?_
  rintro e w4 ⟨rfl, hb⟩
  rw [HX.out]
  have b3 : w4.heap[w3.heap.size]? = some (.cells #[.int .i64 r', .int .i64 l'] 39) := blk_later hb (by repeat (first | exact heap_alloc_at _ _ _ (by (first | omega | (simp; done) | (simp; omega) | (simp at *; omega) | fail)) | assumption | rw [heap_alloc_past _ _ _ (by (first | omega | (simp; done) | (simp; omega) | (simp at *; omega) | fail))] | rw [heap_setCell_past _ _ _ _ (by (first | omega | (simp; done) | (simp; omega) | (simp at *; omega) | fail))] | fail))
  have b2 : w4.heap[w.heap.size + 1]? = some (.cells #[.int .i64 0, .int .i64 0] 39) := blk_later hb (by rw [heap_alloc_past _ _ _ hlt]; exact HB.out)
  have c0 := blk_cell b2 0
  have c1 := blk_cell b2 1
  have f0 := blk_free b2 0
  have f1 := blk_free b2 1
  have d0 := blk_cell b3 0
  have d1 := blk_cell b3 1
  have hb4 := (hb3.alloc hb3.size _).trans (hb.mono (by have := hb3.size; simp; omega))
  clear hb hb3 b2 b3 HB
  cases x
  · go_wp2_with fail
    exact bodyPost_ret (v := .tuple #[.agg #[.int .i64 0, .int .i64 0], .int .i64 4]) (by simp [results, Tryz.results35, go_sem, c0, c1]) rfl ⟨by rw [HV.out]; rfl, (by repeat (first | exact Below.refl _ _ | assumption | (refine Below.alloc ?_ ?_ _; rotate_left; · (first | omega | (simp; done) | (simp; omega) | (simp at *; omega) | fail)) | (refine Below.setCell ?_ ?_ _; rotate_left; · (first | omega | (simp; done) | (simp; omega) | (simp at *; omega) | fail)) | refine Below.drew ?_ | fail))⟩
  · go_wp2_with fail
    exact bodyPost_ret (v := .tuple #[.agg #[.int .i64 r', .int .i64 l'], .int .i64 0]) (by simp [results, Tryz.results35, go_sem, c0, c1]) rfl ⟨by rw [HV.out]; rfl, (by repeat (first | exact Below.refl _ _ | assumption | (refine Below.alloc ?_ ?_ _; rotate_left; · (first | omega | (simp; done) | (simp; omega) | (simp at *; omega) | fail)) | (refine Below.setCell ?_ ?_ _; rotate_left; · (first | omega | (simp; done) | (simp; omega) | (simp at *; omega) | fail)) | refine Below.drew ?_ | fail))⟩

end Go.Proofs.YtimdmgkegdlafaaGreatDoor
