/- The parts Jb, Jc, Jd of the proof, joined. It holds without conditions of its own. -/
import Derived.Test.YtciaofnkjgjeiacGreatDoorSM3
/- The machine is sound: what it comes to holds of the model. -/
namespace Go.Proofs.YtciaofnkjgjeiacGreatDoor
set_option linter.unusedSimpArgs false
set_option linter.unusedVariables false
open Go Go.RowKit

/-- A loop, at the beginning of a round. -/
def LoopAt (F : Fence) (n : Nat) (P : Program) (c : Code) (Q : Exit → Act → World → Prop) (a : Act) (w : World) : Prop :=
  ∀ (b : Frame) (k : List Item) (cs : List Frame), b.roundOf = F.round → F.fn b.fn → F.room (cs.length + 1 + n) →
    ∃ e a' w', Q e a' w' ∧ ArrivesIn (Machine.fenced P F) P (lone (b.atR a (.code c :: .inLoop c :: k)) cs w) b k cs e a' w'
section
variable {F : Fence} {n : Nat} {P : Program} {c : Code} {Q : Exit → Act → World → Prop} {a : Act} {w : World}
theorem loopAt_loop (h : LoopAt F n P c Q a w) : (Code.loop c).wpIn F n P Q a w := by
  intro b k cs hro hb hr
  obtain ⟨e, a', w', hq, harr⟩ := h b k cs hro hb hr
  exact ⟨e, a', w', hq, .of_steps (.one (fenced_calm hb hr rfl) stepR_loop) harr⟩
theorem loopAt_round (h : c.wpIn F n P (Exit.then (LoopAt F n P c Q) Q) a w) : LoopAt F n P c Q a w := by
  intro b k cs hro hb hr
  obtain ⟨e, a₁, w₁, hq, harr⟩ := h b (.inLoop c :: k) cs hro hb hr
  cases e with
  | normal =>
    obtain ⟨e₂, a₂, w₂, hq₂, harr₂⟩ := hq b k cs hro hb hr
    exact ⟨e₂, a₂, w₂, hq₂, .of_steps (StepsIn.trans harr (.one (fenced_calm hb hr rfl) stepR_inLoop)) harr₂⟩
  | exit id => exact ⟨_, a₁, w₁, hq, .pass (x := .inLoop c) rfl (fun _ _ => .inl (by simp)) harr⟩
  | goto l => exact ⟨_, a₁, w₁, hq, .pass (x := .inLoop c) rfl (fun _ _ => .inl (by simp)) harr⟩
  | ret => exact ⟨_, a₁, w₁, hq, .pass (x := .inLoop c) rfl (fun _ _ => .inl (by simp)) harr⟩
  | panic ch => exact ⟨_, a₁, w₁, hq, .pass (x := .inLoop c) rfl (fun _ _ => .inl (by simp)) harr⟩
  | outgrown => exact ⟨_, a₁, w₁, hq, .pass (x := .inLoop c) rfl (fun _ _ => .inl (by simp)) harr⟩
end

def upto (s n : Nat) : Array Bool := ((List.range s).map fun i => Nat.blt i n).toArray
theorem upto_get {s n i : Nat} {d : Bool} : (upto s n).getD i d = if i < s then decide (i < n) else d := by
  unfold upto
  rw [Array.getD_eq_getD_getElem?, List.getElem?_toArray, List.getElem?_map]
  by_cases h : i < s
  · rw [List.getElem?_range h, if_pos h]
    show Nat.blt i n = _
    by_cases h2 : i < n
    · rw [decide_eq_true h2]; exact Nat.ble_eq_true_of_le h2
    · rw [decide_eq_false h2]; exact Bool.eq_false_iff.2 fun h3 => h2 (Nat.le_of_ble_eq_true h3)
  · rw [List.getElem?_eq_none (by simpa using h), if_neg h]; rfl
theorem upto_size {s n : Nat} : (upto s n).size = s := by simp [upto]
theorem upto_set {s n : Nat} : (upto s n).setIfInBounds n true = upto s (n + 1) := by
  refine Array.ext_getElem? fun i => ?_
  have key : ∀ (l : Array Bool) (i : Nat), i < l.size → l[i]? = some (l.getD i false) := fun l i h => by
    rw [Array.getD_eq_getD_getElem?, Array.getElem?_eq_getElem h]; rfl
  by_cases hi : i < s
  · rw [key _ i (by simp [upto_size]; exact hi), key _ i (by simp [upto_size]; exact hi), upto_get, if_pos hi]
    by_cases hn : i = n
    · subst hn
      rw [Array.getD_eq_getD_getElem?, Array.getElem?_setIfInBounds_self_of_lt (by rw [upto_size]; exact hi)]
      simp
    · rw [Array.getD_eq_getD_getElem?, Array.getElem?_setIfInBounds_ne (Ne.symm hn), ← Array.getD_eq_getD_getElem?, upto_get, if_pos hi]
      congr 1
      have : i < n ↔ i < n + 1 := by omega
      exact decide_eq_decide.2 this
  · rw [Array.getElem?_eq_none (by simp [upto_size]; omega), Array.getElem?_eq_none (by simp [upto_size]; omega)]
theorem fNats_eq {β : Type} : ∀ (l : List Nat) (k : List Nat → β), fNats l k = k l
  | [], k => rfl
  | x :: l, k => by
    show fNat x (fun x => fNats l fun r => k (x :: r)) = _
    rw [fNat_eq, fNats_eq l]
/-- An operation waits for another one, itself or through others. -/
inductive DepR (ops : Array Oper) : Nat → Nat → Prop
  | one {m : Nat} {o : Oper} {ed : Edge} : ops[m]? = some o → ed ∈ o.after → Region.binds .any ed = true → DepR ops m ed.on
  | far {m i : Nat} {o : Oper} {ed : Edge} : ops[m]? = some o → ed ∈ o.after → Region.binds .any ed = true → DepR ops ed.on i → DepR ops m i
theorem DepR.step {ops : Array Oper} {m i : Nat} (h : DepR ops m i) : ∃ o, ops[m]? = some o ∧ ∃ ed ∈ o.after, Region.binds .any ed = true ∧ (ed.on = i ∨ DepR ops ed.on i) := by
  cases h with
  | one h1 h2 h3 => exact ⟨_, h1, _, h2, h3, Or.inl rfl⟩
  | far h1 h2 h3 h4 => exact ⟨_, h1, _, h2, h3, Or.inr h4⟩
theorem DepR.down {ops : Array Oper} {S : Nat → Prop} (hd : Down ops S) {m i : Nat} (h : DepR ops m i) : S m → S i := by
  induction h with
  | one h1 h2 h3 => exact fun hm => hd _ _ hm h1 _ h2 h3
  | far h1 h2 h3 _ ih => exact fun hm => ih (hd _ _ hm h1 _ h2 h3)
theorem DepR.lt {ops : Array Oper} (he : Early ops) {m i : Nat} (h : DepR ops m i) : i < m := by
  induction h with
  | one h1 h2 h3 => exact he _ _ h1 _ h2 h3
  | far h1 h2 h3 _ ih => have := he _ _ h1 _ h2 h3; omega
theorem reachAt_ok (k : Nat) (acc : List Nat) (i : Nat) : ∀ l : List Edge, (reachAt k acc l).testBit i = true → ∃ e ∈ l, Region.binds .any e = true ∧ (e.on = i ∨ (acc.getD (k - 1 - e.on) 0).testBit i = true)
  | [], h => by
    change Nat.testBit 0 i = true at h
    simp at h
  | e :: l, h => by
    change Nat.testBit (match Region.binds .any e with | true => (Nat.shiftLeft 1 e.on ||| acc.getD (k - 1 - e.on) 0) ||| reachAt k acc l | false => reachAt k acc l) i = true at h
    have tail : (reachAt k acc l).testBit i = true → ∃ e' ∈ e :: l, Region.binds .any e' = true ∧ (e'.on = i ∨ (acc.getD (k - 1 - e'.on) 0).testBit i = true) := fun h => by
      obtain ⟨e', h1, h2⟩ := reachAt_ok k acc i l h
      exact ⟨e', List.mem_cons_of_mem _ h1, h2⟩
    cases hb : Region.binds .any e with
    | false => rw [hb] at h; exact tail h
    | true =>
      rw [hb] at h
      change Nat.testBit ((Nat.shiftLeft 1 e.on ||| acc.getD (k - 1 - e.on) 0) ||| reachAt k acc l) i = true at h
      rw [Nat.testBit_or, Nat.testBit_or, Bool.or_eq_true, Bool.or_eq_true] at h
      rcases h with (h | h) | h
      · refine ⟨e, List.mem_cons_self, hb, Or.inl ?_⟩
        change Nat.testBit (1 <<< e.on) i = true at h
        rw [Nat.testBit_shiftLeft, Bool.and_eq_true] at h
        have h1 : e.on ≤ i := by simpa using h.1
        have h2 : i - e.on = 0 := by
          have h2 := h.2
          cases hq : i - e.on with
          | zero => rfl
          | succ q => rw [hq] at h2; simp [Nat.testBit_succ] at h2
        omega
      · exact ⟨e, List.mem_cons_self, hb, Or.inr h⟩
      · exact tail h
theorem reachGo_ok {ops : Array Oper} (he : Early ops) : ∀ (rest : List Oper) (k : Nat) (acc : List Nat), rest = ops.toList.drop k → acc.length = k → k ≤ ops.size → (∀ m, m < k → ∀ i, (acc.getD (k - 1 - m) 0).testBit i = true → DepR ops m i) →
    ∀ m, m < ops.size → ∀ i, ((reachGo rest k acc).getD (ops.size - 1 - m) 0).testBit i = true → DepR ops m i
  | [], k, acc, hr, hl, hk, hacc => by
    have h1 : ops.size ≤ k := by
      have := congrArg List.length hr
      simp at this; omega
    have : k = ops.size := by omega
    subst this
    exact hacc
  | o :: rest, k, acc, hr, hl, hk, hacc => by
    have hlt : k < ops.size := by
      have := congrArg List.length hr
      simp at this; omega
    have ho : ops[k]? = some o := by
      have := congrArg (·[0]?) hr
      simp [Array.getElem?_toList] at this
      exact this.symm
    unfold reachGo
    rw [fNat_eq]
    refine reachGo_ok he rest (k + 1) _ ?_ (by simp [hl]) (by omega) fun m hm i hi => ?_
    · have := congrArg List.tail hr
      simpa [List.tail_drop] using this
    · by_cases hmk : m = k
      · subst hmk
        rw [show m + 1 - 1 - m = 0 by omega] at hi
        obtain ⟨e, h1, h2, h3⟩ := reachAt_ok _ _ _ _ hi
        have hmem : e ∈ o.after := by simpa using h1
        rcases h3 with h3 | h3
        · exact h3 ▸ DepR.one ho hmem h2
        · exact DepR.far ho hmem h2 (hacc _ (he _ _ ho _ hmem h2) _ h3)
      · refine hacc m (by omega) i ?_
        rw [show k + 1 - 1 - m = (k - 1 - m) + 1 by omega] at hi
        simpa using hi
theorem msk_bit {n c i : Nat} (h1 : n ≤ i) (h2 : i < c) : (msk n c).testBit i = true := by
  change Nat.testBit ((2 ^ (c - n) - 1) <<< n) i = true
  rw [Nat.testBit_shiftLeft, Nat.testBit_two_pow_sub_one]
  simp; omega
theorem seg_spec {ops : Array Oper} {n c : Nat} (hs : shapeOk ops = true) (h : segOk (reachL ops) ops.size n c = true) : Early ops ∧ (∀ m, m < ops.size → c ≤ m → ∀ i, n ≤ i → i < c → DepR ops m i) ∧ ∀ (m : Nat) (o : Oper) (g : Nat) (b : Bool), ops[m]? = some o → o.guard = some (g, b) → g < m := by
  unfold shapeOk at hs
  rw [Bool.and_eq_true, List.all_eq_true] at hs
  have hE := tmps_early hs.1
  refine ⟨hE, fun m hm hc i h1 h2 => ?_, fun m o g b ho hg => ?_⟩
  · unfold segOk at h
    rw [List.all_eq_true] at h
    have := h m (List.mem_range.2 hm)
    rw [Bool.or_eq_true] at this
    rcases this with h3 | h3
    · have := Nat.le_of_ble_eq_true h3; omega
    · have h4 := Nat.eq_of_beq_eq_true h3
      have h5 : (((reachL ops).getD (ops.size - 1 - m) 0) &&& (msk n c)).testBit i = true := by
        have h6 : ((reachL ops).getD (ops.size - 1 - m) 0) &&& (msk n c) = msk n c := h4
        rw [h6]; exact msk_bit h1 h2
      rw [Nat.testBit_and, Bool.and_eq_true] at h5
      exact reachGo_ok hE ops.toList 0 [] (by simp) rfl (by omega) (fun m hm => by omega) m hm i h5.1
  · have hm : m < ops.size := (Array.getElem?_eq_some_iff.1 ho).1
    have := hs.2 m (List.mem_range.2 hm)
    rw [ho] at this
    simp only [hg] at this
    exact Nat.le_of_ble_eq_true this
/-- But one operation can come next. -/
theorem one_ready {ops : Array Oper} {n i : Nat} (hs : shapeOk ops = true) (hc : segOk (reachL ops) ops.size n (n + 1) = true) (hi : i ∈ Region.ready .any ops (upto ops.size n)) : i = n := by
  obtain ⟨hE, hd, -⟩ := seg_spec hs hc
  obtain ⟨h1, o, ho, h2⟩ := mem_ready.1 hi
  have hlt : i < ops.size := (Array.getElem?_eq_some_iff.1 ho).1
  rw [upto_get, if_pos hlt] at h1
  have hge : n ≤ i := by simpa using h1
  rcases Nat.lt_or_eq_of_le hge with hgt | he
  · exfalso
    obtain ⟨o', ho', ed, he1, he2, he3⟩ := (hd i hlt hgt n (Nat.le_refl _) (by omega)).step
    rw [ho] at ho'
    cases ho'
    have h3 := h2 ed he1 he2
    rw [upto_get] at h3
    split at h3
    · have h4 : ed.on < n := by simpa using h3
      rcases he3 with he3 | he3
      · omega
      · have := he3.lt hE; omega
    · cases h3
  · exact he.symm
theorem some_ready {ops : Array Oper} {n : Nat} (hs : shapeOk ops = true) (hn : n < ops.size) : n ∈ Region.ready .any ops (upto ops.size n) := by
  have hE : Early ops := by
    unfold shapeOk at hs
    rw [Bool.and_eq_true] at hs
    exact tmps_early hs.1
  refine mem_ready.2 ⟨by rw [upto_get, if_pos hn]; simp, ops[n], Array.getElem?_eq_getElem hn, fun ed h1 h2 => ?_⟩
  have := hE n _ (Array.getElem?_eq_getElem hn) ed h1 h2
  rw [upto_get, if_pos (by omega)]
  exact decide_eq_true this
theorem none_ready {ops : Array Oper} : Region.ready .any ops (upto ops.size ops.size) = [] := by
  rw [List.eq_nil_iff_forall_not_mem]
  intro i hi
  obtain ⟨h1, o, ho, -⟩ := mem_ready.1 hi
  have hlt : i < ops.size := (Array.getElem?_eq_some_iff.1 ho).1
  rw [upto_get, if_pos hlt, decide_eq_true hlt] at h1
  cases h1
/-- Flags of a part of a region, all ahead of it done, none behind it. -/
def emb (n c s : Nat) (l : Array Bool) : Array Bool := ((List.range s).map fun i => if i < n then true else if i < c then l.getD (i - n) false else false).toArray
theorem emb_get {n c s i : Nat} {d : Bool} {l : Array Bool} : (emb n c s l).getD i d = if i < s then (if i < n then true else if i < c then l.getD (i - n) false else false) else d := by
  unfold emb
  rw [Array.getD_eq_getD_getElem?, List.getElem?_toArray, List.getElem?_map]
  by_cases h : i < s
  · rw [List.getElem?_range h, if_pos h]; rfl
  · rw [List.getElem?_eq_none (by simpa using h), if_neg h]; rfl
theorem emb_size {n c s : Nat} {l : Array Bool} : (emb n c s l).size = s := by simp [emb]
theorem arr_ext {l m : Array Bool} (h : l.size = m.size) (hg : ∀ i, i < l.size → l.getD i false = m.getD i false) : l = m := by
  refine Array.ext h fun i h1 h2 => ?_
  have := hg i h1
  rw [Array.getD_eq_getD_getElem?, Array.getD_eq_getD_getElem?, Array.getElem?_eq_getElem h1, Array.getElem?_eq_getElem h2] at this
  exact this
theorem rep_false {k i : Nat} : (Array.replicate k false).getD i false = false := by
  rw [Array.getD_eq_getD_getElem?, Array.getElem?_replicate]; split <;> rfl
theorem emb_none {n c s k : Nat} : emb n c s (Array.replicate k false) = upto s n := by
  refine arr_ext (by rw [emb_size, upto_size]) fun i hi => ?_
  rw [emb_size] at hi
  rw [emb_get, upto_get, if_pos hi, if_pos hi, rep_false]
  by_cases h : i < n
  · rw [if_pos h, decide_eq_true h]
  · rw [if_neg h, decide_eq_false h]; split <;> rfl
theorem emb_all {n c s : Nat} {l : Array Bool} (hn : n ≤ c) (ha : ∀ j, j < c - n → l.getD j false = true) : emb n c s l = upto s c := by
  refine arr_ext (by rw [emb_size, upto_size]) fun i hi => ?_
  rw [emb_size] at hi
  rw [emb_get, upto_get, if_pos hi, if_pos hi]
  by_cases h : i < n
  · rw [if_pos h, decide_eq_true (by omega)]
  · rw [if_neg h]
    by_cases h2 : i < c
    · rw [if_pos h2, ha _ (by omega), decide_eq_true h2]
    · rw [if_neg h2, decide_eq_false h2]
theorem emb_set {n c s j : Nat} {l : Array Bool} (hl : l.size = c - n) (hj : j < c - n) (hc : c ≤ s) : (emb n c s l).setIfInBounds (n + j) true = emb n c s (l.setIfInBounds j true) := by
  refine arr_ext (by rw [Array.size_setIfInBounds, emb_size, emb_size]) fun i hi => ?_
  rw [Array.size_setIfInBounds, emb_size] at hi
  by_cases h : i = n + j
  · subst h
    rw [Array.getD_eq_getD_getElem?, Array.getElem?_setIfInBounds_self_of_lt (by rw [emb_size]; exact hi), emb_get, if_pos hi, if_neg (by omega), if_pos (by omega), show n + j - n = j by omega, Array.getD_eq_getD_getElem?, Array.getElem?_setIfInBounds_self_of_lt (by omega)]
  · rw [getD_set_ne false (fun h' => h h'.symm), emb_get, emb_get, if_pos hi, if_pos hi]
    by_cases h1 : i < n
    · rw [if_pos h1, if_pos h1]
    · rw [if_neg h1, if_neg h1]
      by_cases h2 : i < c
      · rw [if_pos h2, if_pos h2, getD_set_ne false (by omega)]
      · rw [if_neg h2, if_neg h2]
theorem sub_get {ops : Array Oper} {n c j : Nat} (hj : n + j < c) : (sub ops n c)[j]? = (ops[n + j]?).map (shiftO n) := by
  unfold sub
  rw [List.getElem?_toArray, List.getElem?_map, List.getElem?_drop, List.getElem?_take, if_pos hj, Array.getElem?_toList]
theorem sub_size {ops : Array Oper} {n c : Nat} (hc : c ≤ ops.size) : (sub ops n c).size = c - n := by simp [sub]; omega
theorem shift_mem {n : Nat} {o : Oper} {ed : Edge} (h : ed ∈ (shiftO n o).after) : ∃ ed' ∈ o.after, n ≤ ed'.on ∧ ed.on = ed'.on - n ∧ Region.binds .any ed = Region.binds .any ed' := by
  unfold shiftO at h
  simp only [List.mem_toArray, List.mem_filterMap] at h
  obtain ⟨ed', h1, h2⟩ := h
  cases hb : Nat.blt ed'.on n with
  | true => rw [hb] at h2; cases h2
  | false =>
    rw [hb] at h2
    cases h2
    refine ⟨ed', by simpa using h1, ?_, rfl, rfl⟩
    refine Nat.le_of_not_lt fun hlt => ?_
    have : Nat.blt ed'.on n = true := Nat.ble_eq_true_of_le hlt
    rw [this] at hb; cases hb
theorem mem_shift {n : Nat} {o : Oper} {ed : Edge} (h : ed ∈ o.after) (hn : n ≤ ed.on) : ({ ed with on := ed.on - n } : Edge) ∈ (shiftO n o).after := by
  unfold shiftO
  simp only [List.mem_toArray, List.mem_filterMap]
  refine ⟨ed, by simpa using h, ?_⟩
  have : Nat.blt ed.on n = false := by
    cases hb : Nat.blt ed.on n with
    | false => rfl
    | true => have := Nat.le_of_ble_eq_true hb; omega
  rw [this]; rfl
theorem upon_then {F : Fence} {n : Nat} {P : Program} {o : Oper} {a : Act} {next K : Act → World → Prop} {Q : Exit → Act → World → Prop} {r : Result Next} (h : o.uponIn F n P a next (Exit.then K Q) r) : o.uponIn F n P a next Q r := by
  cases r with
  | ok x w' => cases x <;> exact h
  | halt x w' => cases x <;> exact h
theorem guards_in {ops : Array Oper} {n c : Nat} (h : guardsIn ops n c = true) {i g : Nat} {o : Oper} {b : Bool} (h1 : n ≤ i) (h2 : i < c) (ho : ops[i]? = some o) (hg : o.guard = some (g, b)) : n ≤ g := by
  unfold guardsIn at h
  rw [List.all_eq_true] at h
  have := h i (List.mem_range.2 h2)
  rw [Bool.or_eq_true] at this
  rcases this with h3 | h3
  · have := Nat.le_of_ble_eq_true h3; omega
  · rw [ho] at h3
    simp only [hg] at h3
    exact Nat.le_of_ble_eq_true h3
theorem op_seg {F : Fence} {nn : Nat} {P : Program} {ops : Array Oper} {n c j : Nat} {K K' Kc : Act → World → Prop} {Q : Exit → Act → World → Prop} {a : Act} {w : World} (hgl : ∀ (m : Nat) (o : Oper) (g : Nat) (b : Bool), ops[m]? = some o → o.guard = some (g, b) → g < m) (hgi : guardsIn ops n c = true) (hj : n + j < c) (hK : ∀ a w, K a w → K' a w)
    (h : wpOpIn F nn P (sub ops n c) (Exit.then Kc Q) j K a w) : wpOpIn F nn P ops Q (n + j) K' a w := by
  refine wpOpIn_mono hK ?_
  unfold wpOpIn at h ⊢
  rw [sub_get hj] at h
  cases ho : ops[n + j]? with
  | none => rw [ho] at h; exact h
  | some o =>
    rw [ho] at h
    simp only [Option.map_some] at h ⊢
    have hw : Region.wanted (shiftO n o) (yielded (sub ops n c) a.tmps) = Region.wanted o (yielded ops a.tmps) := by
      unfold Region.wanted shiftO
      cases hg : o.guard with
      | none => rfl
      | some q =>
        obtain ⟨g, b⟩ := q
        have hgj := hgl _ o g b ho hg
        have hgn := guards_in hgi (by omega) hj ho hg
        have e : yielded (sub ops n c) a.tmps (Nat.sub g n) = yielded ops a.tmps g := by
          unfold yielded
          rw [sub_get (show n + Nat.sub g n < c by have : Nat.sub g n = g - n := rfl; omega), show n + Nat.sub g n = g by have : Nat.sub g n = g - n := rfl; omega]
          cases ops[g]? with
          | none => rfl
          | some q => rfl
        simp only
        rw [e]
    rw [hw] at h
    split
    · next hq =>
      rw [if_pos hq] at h
      exact ⟨h.1, upon_then h.2⟩
    · next hq =>
      rw [if_neg hq] at h
      exact h
theorem any_seg {F : Fence} {nn : Nat} {P : Program} {ops : Array Oper} {n c fb : Nat} {Kc : Act → World → Prop} {Q : Exit → Act → World → Prop} (hs : shapeOk ops = true) (hseg : segOk (reachL ops) ops.size n c = true) (hgi : guardsIn ops n c = true) (hn : n < c) (hc : c ≤ ops.size)
    (hK : ∀ a w, Kc a w → ∀ f, fb ≤ f → wpAnyIn F nn P .any ops Q f (upto ops.size c) a w) : ∀ (fa : Nat) (l : Array Bool) (a : Act) (w : World), l.size = c - n → Down (sub ops n c) (fun j => l.getD j false = true) → wpAnyIn F nn P .any (sub ops n c) (Exit.then Kc Q) fa l a w → wpAnyIn F nn P .any ops Q (fa + fb) (emb n c ops.size l) a w := fun fa => by
  obtain ⟨hE, hd, hgl⟩ := seg_spec hs hseg
  have hps : (sub ops n c).size = c - n := sub_size hc
  have hEp : Early (sub ops n c) := fun i o ho ed h1 h2 => by
    have hi : i < c - n := by have := (Array.getElem?_eq_some_iff.1 ho).1; rw [hps] at this; exact this
    rw [sub_get (by omega)] at ho
    obtain ⟨o', ho', rfl⟩ := Option.map_eq_some_iff.1 ho
    obtain ⟨ed', g1, g2, g3, g4⟩ := shift_mem h1
    have := hE _ _ ho' ed' g1 (g4 ▸ h2)
    omega
  have fin : ∀ (l : Array Bool) (a : Act) (w : World) (f : Nat), l.size = c - n → Region.ready .any (sub ops n c) l = [] → Kc a w → fb ≤ f → wpAnyIn F nn P .any ops Q f (emb n c ops.size l) a w := fun l a w f hl hr hk hf => by
    have hall := all_of_ready hEp (by rw [hl, hps]) hr (c - n) (by rw [hps]; exact Nat.le_refl _)
    rw [emb_all (by omega) hall]
    exact hK a w hk f hf
  induction fa with
  | zero => exact fun l a w hl hdn h => fin l a w _ hl h.1 h.2 (by omega)
  | succ fa ih =>
    intro l a w hl hdn h
    by_cases hr : Region.ready .any (sub ops n c) l = []
    · exact fin l a w _ hl hr (h.1 hr) (by omega)
    · rw [show fa + 1 + fb = (fa + fb) + 1 by omega]
      obtain ⟨j0, hj0⟩ := List.exists_mem_of_ne_nil _ hr
      obtain ⟨u1, o0, u2, -⟩ := mem_ready.1 hj0
      have hj0c : j0 < c - n := by have := (Array.getElem?_eq_some_iff.1 u2).1; rw [hps] at this; exact this
      have hund : l.getD j0 false = false := by
        rw [Array.getD_eq_getD_getElem?, Array.getElem?_eq_getElem (by omega)] at u1 ⊢
        exact u1
      have hpend : (emb n c ops.size l).getD (n + j0) false = false := by
        rw [emb_get, if_pos (by omega), if_neg (by omega), if_pos (by omega), show n + j0 - n = j0 by omega, hund]
      have hdown : Down ops (fun j => (emb n c ops.size l).getD j false = true) := fun j o hj ho ed h1 h2 => by
        change (emb n c ops.size l).getD j false = true at hj
        show (emb n c ops.size l).getD ed.on false = true
        have hlt : j < ops.size := (Array.getElem?_eq_some_iff.1 ho).1
        have hed := hE j o ho ed h1 h2
        rw [emb_get, if_pos hlt] at hj
        rw [emb_get, if_pos (by omega)]
        by_cases hen : ed.on < n
        · rw [if_pos hen]
        · rw [if_neg hen]
          rw [if_neg (by omega)] at hj
          by_cases hjc : j < c
          · rw [if_pos hjc] at hj
            rw [if_pos (by omega)]
            have hsj : (sub ops n c)[j - n]? = some (shiftO n o) := by
              rw [sub_get (by omega), show n + (j - n) = j by omega, ho]; rfl
            exact hdn (j - n) _ hj hsj _ (mem_shift h1 (by omega)) h2
          · rw [if_neg hjc] at hj; cases hj
      have small : ∀ j, j ∈ Region.ready .any ops (emb n c ops.size l) → ∃ q, j = n + q ∧ q < c - n ∧ q ∈ Region.ready .any (sub ops n c) l := fun j hj => by
        obtain ⟨v1, o, v2, v3⟩ := mem_ready.1 hj
        have hlt : j < ops.size := (Array.getElem?_eq_some_iff.1 v2).1
        have hjn : n ≤ j := by
          refine Nat.le_of_not_lt fun hjn => ?_
          rw [emb_get, if_pos hlt, if_pos hjn] at v1
          cases v1
        by_cases hjc : j < c
        · refine ⟨j - n, by omega, by omega, mem_ready.2 ⟨?_, shiftO n o, by rw [sub_get (by omega), show n + (j - n) = j by omega, v2]; rfl, fun ed h1 h2 => ?_⟩⟩
          · rw [emb_get, if_pos hlt, if_neg (by omega), if_pos hjc] at v1
            rw [Array.getD_eq_getD_getElem?, Array.getElem?_eq_getElem (by omega)] at v1 ⊢
            exact v1
          · obtain ⟨ed', g1, g2, g3, g4⟩ := shift_mem h1
            have hed := hE j o v2 ed' g1 (g4 ▸ h2)
            have := v3 ed' g1 (g4 ▸ h2)
            rw [emb_get, if_pos (by omega), if_neg (by omega), if_pos (by omega), ← g3] at this
            exact this
        · exfalso
          obtain ⟨o', ho', ed, he1, he2, he3⟩ := (hd j hlt (by omega) (n + j0) (by omega) (by omega)).step
          rw [v2] at ho'
          cases ho'
          have h3 := v3 ed he1 he2
          have hed := hE j o v2 ed he1 he2
          have h3' : (emb n c ops.size l).getD ed.on false = true := by
            rw [emb_get, if_pos (by omega)] at h3 ⊢; exact h3
          have hS0 : (emb n c ops.size l).getD (n + j0) false = true := by
            rcases he3 with he3 | he3
            · rw [← he3]; exact h3'
            · exact he3.down hdown h3'
          rw [hpend] at hS0
          cases hS0
      refine ⟨fun he => ?_, fun j hj => ?_⟩
      · exfalso
        have hall := all_of_ready hE (by rw [emb_size]) he ops.size (Nat.le_refl _) (n + j0) (by omega)
        rw [hpend] at hall
        cases hall
      · obtain ⟨q, rfl, hqc, hj2⟩ := small j hj
        refine op_seg hgl hgi (by omega) (fun a' w' hk => ?_) (h.2 q hj2)
        rw [emb_set hl hqc hc]
        refine ih _ a' w' (by rw [Array.size_setIfInBounds]; exact hl) (fun m o hm ho ed h1 h2 => ?_) hk
        obtain ⟨z1, oj, z2, z3⟩ := mem_ready.1 hj2
        have hset : ∀ i, (l.setIfInBounds q true).getD i false = true ↔ (i = q ∨ l.getD i false = true) := fun i => by
          by_cases hi : q = i
          · subst hi
            rw [Array.getD_eq_getD_getElem?, Array.getElem?_setIfInBounds_self_of_lt (by omega)]
            simp
          · rw [getD_set_ne false hi]
            exact ⟨.inr, fun h => h.resolve_left fun h => hi h.symm⟩
        rcases (hset m).1 hm with rfl | hm
        · rw [z2] at ho
          cases ho
          have := z3 ed h1 h2
          refine (hset _).2 (.inr ?_)
          have hz := hEp _ _ z2 ed h1 h2
          rw [Array.getD_eq_getD_getElem?, Array.getElem?_eq_getElem (by omega)] at this ⊢
          exact this
        · exact (hset _).2 (.inr (hdn m o hm ho ed h1 h2))
def ROk (e : Env) (r : Option Nat) : Prop := ∀ l, r = some l → e.dom l
def RV (VQ : Value → World → Prop) : Ending → World → Prop := fun en w => ∃ x, en = .returned x ∧ VQ x w
mutual
/-- What a piece of code has to come to, as the stack asks. -/
def KR (P : Program) (W : World) (y : Value) (e : Env) : K → (Exit → Act → World → Prop) → Prop
  | .top, _ => False
  | .seq r c k, Q => ROk e r ∧ ∃ Q', KR P W y e k Q' ∧ Q = Exit.then (c.wpIn (fence e r) 9 P Q') Q'
  | .blk id k, Q => ∃ Q', KR P W y e k Q' ∧ Q = Exit.inBlock id Q'
  | .loop r c k, Q => ROk e r ∧ ∃ Q', KR P W y e k Q' ∧ Q = Exit.then (LoopAt (fence e r) 9 P c Q') Q'
  | .scp k, Q => ∃ Q', KR P W y e k Q' ∧ Q = Exit.noGoto Q'
  | .fin fid k, Q => ∃ fn VQ, P.funcs[fid]? = some fn ∧ KV P W y e k VQ ∧ Q = bodyPostM Fence.wide 9 P fn (RV VQ)
  | .asg l bd k, Q => e.dom l ∧ ∃ VQ, KV P W y e k VQ ∧ Q = Exit.then (fun a₁ w₁ => ∃ w₂, (Instr.beginRound (e.σ l)).run P w₁ = .ok () w₂ ∧ bd.wpIn (fence e (some l)) 8 P (roundPost P (e.σ l) (RV VQ)) a₁ w₂) (fun _ _ _ => False)
  | .bdy l k, Q => e.dom l ∧ ∃ VQ, KV P W y e k VQ ∧ Q = roundPost P (e.σ l) (RV VQ)
  | .ops _ _ _ _ _ _, _ => False
  | .drw _ _ _ _ _ _, _ => False
  | .rng _ _ _ _, _ => False
/-- What a value has to come to. -/
def KV (P : Program) (W : World) (y : Value) (e : Env) : K → (Value → World → Prop) → Prop
  | .top, VQ => ∀ w', Below W.heap.size W w' → VQ y w'
  | .ops r ops n dst a k, VQ => ROk e r ∧ ∃ act Q', FrR e a act ∧ KR P W y e k Q' ∧ VQ = fun x w => wpOpsIn (fence e r) 9 P ops Q' (List.range' n (ops.size - n)) (act.put dst x) w
  | .drw r ops n dst a k, VQ => shapeOk ops = true ∧ ROk e r ∧ ∃ act Q', FrR e a act ∧ KR P W y e k Q' ∧ VQ = fun x w => ∀ f, ops.size - n ≤ f → wpAnyIn (fence e r) 9 P .any ops Q' f (upto ops.size n) (act.put dst x) w
  | .rng r l a k, VQ => ROk e r ∧ e.dom l ∧ ∃ act Q', FrR e a act ∧ KR P W y e k Q' ∧ VQ = fun x w => rangePost (fence e r) 9 P (e.σ l) Q' act (.returned x) w
  | .seq _ _ _, _ => False
  | .blk _ _, _ => False
  | .loop _ _ _, _ => False
  | .scp _, _ => False
  | .fin _ _, _ => False
  | .asg _ _ _, _ => False
  | .bdy _ _, _ => False
end
section
variable {P : Program} {W : World} {y : Value} {e e' : Env}
theorem ROk.mono (h : Le e e') {r : Option Nat} (k : ROk e r) : ROk e' r := fun l hl => h.dom l (k l hl)
mutual
theorem KR_mono (h : Le e e') : ∀ (k : K) (Q : Exit → Act → World → Prop), KR P W y e k Q → KR P W y e' k Q
  | .top, _, q => by unfold KR at q; exact q.elim
  | .seq r c k, Q, q => by
    unfold KR at q ⊢
    obtain ⟨q1, Q', q2, q3⟩ := q
    exact ⟨q1.mono h, Q', KR_mono h k Q' q2, by rw [fence_le h q1]; exact q3⟩
  | .blk id k, Q, q => by
    unfold KR at q ⊢
    obtain ⟨Q', q2, q3⟩ := q
    exact ⟨Q', KR_mono h k Q' q2, q3⟩
  | .loop r c k, Q, q => by
    unfold KR at q ⊢
    obtain ⟨q1, Q', q2, q3⟩ := q
    exact ⟨q1.mono h, Q', KR_mono h k Q' q2, by rw [fence_le h q1]; exact q3⟩
  | .scp k, Q, q => by
    unfold KR at q ⊢
    obtain ⟨Q', q2, q3⟩ := q
    exact ⟨Q', KR_mono h k Q' q2, q3⟩
  | .fin fid k, Q, q => by
    unfold KR at q ⊢
    obtain ⟨fn, VQ, q1, q2, q3⟩ := q
    exact ⟨fn, VQ, q1, KV_mono h k VQ q2, q3⟩
  | .asg l bd k, Q, q => by
    unfold KR at q ⊢
    obtain ⟨q1, VQ, q2, q3⟩ := q
    exact ⟨h.dom l q1, VQ, KV_mono h k VQ q2, by rw [h.σ l q1, fence_le h (fun l' hl' => by cases hl'; exact q1)]; exact q3⟩
  | .bdy l k, Q, q => by
    unfold KR at q ⊢
    obtain ⟨q1, VQ, q2, q3⟩ := q
    exact ⟨h.dom l q1, VQ, KV_mono h k VQ q2, by rw [h.σ l q1]; exact q3⟩
  | .ops _ _ _ _ _ _, _, q => by unfold KR at q; exact q.elim
  | .drw _ _ _ _ _ _, _, q => by unfold KR at q; exact q.elim
  | .rng _ _ _ _, _, q => by unfold KR at q; exact q.elim
theorem KV_mono (h : Le e e') : ∀ (k : K) (VQ : Value → World → Prop), KV P W y e k VQ → KV P W y e' k VQ
  | .top, _, q => by unfold KV at q ⊢; exact q
  | .ops r ops n dst a k, VQ, q => by
    unfold KV at q ⊢
    obtain ⟨q1, act, Q', q2, q3, q4⟩ := q
    exact ⟨q1.mono h, act, Q', q2.mono h, KR_mono h k Q' q3, by rw [fence_le h q1]; exact q4⟩
  | .drw r ops n dst a k, VQ, q => by
    unfold KV at q ⊢
    obtain ⟨hsh, q1, act, Q', q2, q3, q4⟩ := q
    exact ⟨hsh, q1.mono h, act, Q', q2.mono h, KR_mono h k Q' q3, by rw [fence_le h q1]; exact q4⟩
  | .rng r l a k, VQ, q => by
    unfold KV at q ⊢
    obtain ⟨q1, q0, act, Q', q2, q3, q4⟩ := q
    exact ⟨q1.mono h, h.dom l q0, act, Q', q2.mono h, KR_mono h k Q' q3, by rw [fence_le h q1, h.σ l q0]; exact q4⟩
  | .seq _ _ _, _, q => by unfold KV at q; exact q.elim
  | .blk _ _, _, q => by unfold KV at q; exact q.elim
  | .loop _ _ _, _, q => by unfold KV at q; exact q.elim
  | .scp _, _, q => by unfold KV at q; exact q.elim
  | .fin _ _, _, q => by unfold KV at q; exact q.elim
  | .asg _ _ _, _, q => by unfold KV at q; exact q.elim
  | .bdy _ _, _, q => by unfold KV at q; exact q.elim
end
end
/-- What a state of the machine stands for. -/
def Good (P : Program) (e0 : Env) (h0 : H) (W : World) (y : Value) (s : St) : Prop :=
  match s.m with
  | .run r c a => ∀ e w act Q, Rel P e s.h w → FrR e a act → Step h0 e0 W s.h e w → ROk e r → KR P W y e s.k Q → c.wpIn (fence e r) 9 P Q act w
  | .out x a => ∀ e w act Q, Rel P e s.h w → FrR e a act → Step h0 e0 W s.h e w → KR P W y e s.k Q → Q x.out act w
  | .opr r ops n a => ∀ e w act Q, Rel P e s.h w → FrR e a act → Step h0 e0 W s.h e w → ROk e r → KR P W y e s.k Q → wpOpsIn (fence e r) 9 P ops Q (List.range' n (ops.size - n)) act w
  | .drb r ops n a => shapeOk ops = true → ∀ e w act Q, Rel P e s.h w → FrR e a act → Step h0 e0 W s.h e w → ROk e r → KR P W y e s.k Q → ∀ f, ops.size - n ≤ f → wpAnyIn (fence e r) 9 P .any ops Q f (upto ops.size n) act w
  | .val v => ∀ e w x VQ, Rel P e s.h w → Step h0 e0 W s.h e w → VR e v x → KV P W y e s.k VQ → VQ x w
section
variable {P : Program} {e0 : Env} {h0 : H} {W : World} {y : Value} {F : Nat} {into : List FuncId}
theorem enter_good {gl fid : Nat} {vs : List V} {k : K} {h : H} {s : St} (k1 : enterM P gl fid vs k h = .ok s) (hs : Good P e0 h0 W y s) {e : Env} {w : World} {xs : List Value} (re : Rel P e h w) (st : Step h0 e0 W h e w) (hv : VRs e vs xs) (hg : ∀ g, g < gl → e.dom g ∧ e.σ g = g)
    {VQ : Value → World → Prop} (hk : KV P W y e k VQ) : Calls P fid xs.toArray w (RV VQ) ∧ ∃ fn, P.funcs[fid]? = some fn ∧ (fn.name == "runtime.NumGoroutine") = false ∧ fn.body.isNone = false := by
  unfold enterM at k1
  obtain ⟨fn, hfn, k1⟩ := eo_ok k1
  obtain ⟨hnm, k1⟩ := ec_ok k1
  obtain ⟨c, hc, k1⟩ := eo_ok k1
  simp only [fNat_eq] at k1
  cases k1
  refine ⟨?_, fn, hfn, by simpa using hnm, by rw [hc]; rfl⟩
  refine (callsIn_wide (n := 9)).1 (callsIn_of_wp_marks hfn hc trivial ?_ rfl)
  exact hs e w _ _ re (ofList_fr hv fn.ntmps gl hg) st (fun _ h => by cases h) (by unfold KR; exact ⟨fn, VQ, hfn, hk, rfl⟩)
theorem atom_good (hm : P.follows .mixedOrders = true) {r : Option Nat} {c : Code} {a : Fr} {k : K} {h : H} {s : St} (k1 : atomM P F r c a k h = .ok s) (hs : Good P e0 h0 W y s) : Good P e0 h0 W y ⟨.run r c a, k, h⟩ := fun e w act Q re fr st hr hk => by
  unfold atomM at k1
  obtain ⟨⟨x, a', h'⟩, k2, k3⟩ := eb_ok k1
  cases k3
  exact evCode_ok hm F r c a h x a' h' k2 e w act re fr hr Q fun e' act' w' r' fr' s' => hs e' w' act' Q r' fr' (st.trans s') (KR_mono s'.le _ _ hk)
theorem range_good (hm : P.follows .mixedOrders = true) {r : Option Nat} {g : Operand} {ps : Array Tmp} {asg bd : Code} {a : Fr} {k : K} {h : H} {s : St} {gv : V} (hgv : ev a g = .ok gv) (k1 : rangeM P F into r (.rangeFunc g ps asg bd) ps asg bd a k h gv = .ok s) (hs : Good P e0 h0 W y s) : Good P e0 h0 W y ⟨.run r (.rangeFunc g ps asg bd) a, k, h⟩ := by
  unfold rangeM at k1
  cases gv with
  | fn fid first cap =>
    simp only at k1
    cases hi : hasN fid into with
    | false => rw [hi] at k1; exact atom_good hm k1 hs
    | true =>
      rw [hi] at k1
      obtain ⟨⟨d, mk, h1⟩, kb, k2⟩ := eb_ok k1
      intro e w act Q re fr st hr hk
      change Rel P e h w at re
      change Step h0 e0 W h e w at st
      change KR P W y e k Q at hk
      obtain ⟨e1, w1, r1, s1, hd1, hm1, hrun⟩ := blk_ok re kb
      simp only [newK_eq] at k2
      have fr1 : FrR e1 a act := fr.mono s1.le
      obtain ⟨lf, mc, hev, q1, q2⟩ := VR_fn.1 (fr1.ev g _ hgv)
      refine wpIn_rangeFunc fun fn hfn => ?_
      obtain ⟨e2, g1, r2, s2, hdl⟩ := newObj_ok (o := .loop .ready none a.t a.sz ps.toList asg bd d) (x := .loop { state := .ready, pending := none, fn := fn, tmps := act.tmps, params := ps, assign := asg, body := bd, defers := e1.σ d }) r1
        (fun e' le => ⟨fn, act.tmps, by rw [le.σ d hd1], le.dom d hd1, fr.size, fun i => (fr1.tmp i).mono le⟩)
      have fr3 : FrR e2 ⟨a.t, a.sz, mk ++ a.df, a.gl⟩ { act with defers := (mk.map fun i => { target := .collected (e1.σ i), args := #[] }) ++ act.defers } := by
        have fra := fr1.mono s2.le
        refine ⟨fra.size, fra.tmp, ?_, fun i hi => ?_, fra.glob⟩
        · show _ ++ act.defers = _
          rw [fra.df, List.map_append]
          congr 1
          refine List.map_congr_left fun i hi => ?_
          rw [s2.le.σ i (hm1 i hi)]
        · rcases List.mem_append.1 hi with hi | hi
          · exact s2.le.dom i (hm1 i hi)
          · exact fra.dom i hi
      have le02 := s1.le.trans s2.le
      obtain ⟨c1, fn', c2, c3, c4⟩ := enter_good (xs := lf ++ [Value.func (.yield (e2.σ h1.n)) #[] #[]] ++ mc) k2 hs r2 ((st.trans s1).trans s2) (VRs_append (VRs_append (q1.mono s2.le) (VRs_cons.2 ⟨_, _, rfl, VR_yld.2 ⟨hdl, rfl⟩, VRs_nil.2 rfl⟩)) (q2.mono s2.le)) (fr1.mono s2.le).glob
        (VQ := fun x w => rangePost (fence e2 r) 9 P (e2.σ h1.n) Q { act with defers := (mk.map fun i => { target := .collected (e1.σ i), args := #[] }) ++ act.defers } (.returned x) w)
        (by unfold KV; exact ⟨ROk.mono le02 hr, hdl, _, Q, fr3, KR_mono le02 _ _ hk, rfl⟩)
      refine ⟨e2.σ h1.n, mk.map fun i => { target := .collected (e1.σ i), args := #[] }, w1.alloc (.loop { state := .ready, pending := none, fn := fn, tmps := act.tmps, params := ps, assign := asg, body := bd, defers := e1.σ d }), { target := .fn (.func fid) mc.toArray, args := lf.toArray ++ #[Value.func (.yield (e2.σ h1.n)) #[] #[]] }, w1.alloc (.loop { state := .ready, pending := none, fn := fn, tmps := act.tmps, params := ps, assign := asg, body := bd, defers := e1.σ d }), fid, (lf ++ [Value.func (.yield (e2.σ h1.n)) #[] #[]] ++ mc).toArray, w1.alloc (.loop { state := .ready, pending := none, fn := fn, tmps := act.tmps, params := ps, assign := asg, body := bd, defers := e1.σ d }), ?_, ?_, fun f' _ => fence_fn e r f', ?_, fun hd => (by rw [fence_depth] at hd; cases hd), ?_⟩
      · rw [enterLoop_run hrun]
        simp only [Sem.run_bind, Result.andThen_ok, g1, Sem.run_pure]
      · simp only [resolve, rangeCall, hev, Deferred.ofValue, Sem.run_pure]
        simp [Act.eval]
      · simp only [invoke]
        rw [enter_run c2 c3 c4]
        simp
      · refine fence_calls (Calls.mono c1 ?_)
        rintro en w3 ⟨x, rfl, hx⟩
        rw [fence_le le02 hr] at hx
        exact hx
  | _ => cases k1
theorem run_good (hm : P.follows .mixedOrders = true) {r : Option Nat} {c : Code} {a : Fr} {k : K} {h : H} {s : St} (k1 : runM P F into r c a k h = .ok s) (hs : Good P e0 h0 W y s) : Good P e0 h0 W y ⟨.run r c a, k, h⟩ := by
  unfold runM at k1
  cases c with
  | seq c1 c2 =>
    cases k1
    exact fun e w act Q re fr st hr hk => wpIn_seq (hs e w act _ re fr st hr (by unfold KR; exact ⟨hr, Q, hk, rfl⟩))
  | cond t c1 c2 =>
    obtain ⟨v, hv, k2⟩ := eb_ok k1
    intro e w act Q re fr st hr hk
    have hx := fr.ev t v hv
    split at k2
    · cases k2
      exact wpIn_cond (t := true) (VR_lit.1 hx) (hs e w act Q re fr st hr hk)
    · cases k2
      exact wpIn_cond (t := false) (VR_lit.1 hx) (hs e w act Q re fr st hr hk)
    · cases k2
  | block id c1 =>
    cases k1
    exact fun e w act Q re fr st hr hk => wpIn_block (hs e w act _ re fr st hr (by unfold KR; exact ⟨Q, hk, rfl⟩))
  | loop c1 =>
    simp only at k1
    split at k1
    · cases k1
      exact fun e w act Q re fr st hr hk => loopAt_loop (loopAt_round (hs e w act _ re fr st hr (by unfold KR; exact ⟨hr, Q, hk, rfl⟩)))
    · exact atom_good hm k1 hs
  | scope c1 =>
    cases k1
    exact fun e w act Q re fr st hr hk => wpIn_scope (hs e w act _ re fr st hr (by unfold KR; exact ⟨Q, hk, rfl⟩))
  | region id ops d =>
    cases d with
    | false =>
      cases k1
      exact fun e w act Q re fr st hr hk => wpIn_region (by rw [List.range_eq_range']; exact hs e w act Q re fr st hr hk)
    | true =>
      simp only at k1
      split at k1
      · exact atom_good hm k1 hs
      · obtain ⟨hsh, k1⟩ := ec_ok k1
        cases k1
        intro e w act Q re fr st hr hk
        change Rel P e h w at re
        change Step h0 e0 W h e w at st
        change KR P W y e k Q at hk
        refine wpIn_region_any hm ?_
        have := hs hsh e w.drew act Q re.drew fr (st.trans (Step.drew h e w)) hr hk ops.size (by omega)
        rw [show upto ops.size 0 = Array.replicate ops.size false from by
          refine arr_ext (by rw [upto_size]; simp) fun i hi => ?_
          rw [upto_size] at hi
          rw [upto_get, if_pos hi, rep_false, decide_eq_false (by omega)]] at this
        exact this
  | rangeFunc g ps asg bd =>
    obtain ⟨v, hv, k2⟩ := eb_ok k1
    exact range_good hm hv k2 hs
  | _ => exact atom_good hm k1 hs
end
end Go.Proofs.YtciaofnkjgjeiacGreatDoor

/- The machine is sound: all its steps; where it starts and ends. -/
namespace Go.Proofs.YtciaofnkjgjeiacGreatDoor
set_option linter.unusedSimpArgs false
set_option linter.unusedVariables false
open Go Go.RowKit

section
variable {P : Program} {e0 : Env} {h0 : H} {W : World} {y : Value} {F : Nat} {into : List FuncId}
theorem bdy_good {x : X} {a : Fr} {l : Nat} {k : K} {h h4 : H} {v : V} (k1 : roundEnd x h l = .ok (v, h4)) (hs : Good P e0 h0 W y ⟨.val v, k, h4⟩) : Good P e0 h0 W y ⟨.out x a, .bdy l k, h⟩ := by
  intro e w act Q re fr st hk
  change Rel P e h w at re
  change Step h0 e0 W h e w at st
  change KR P W y e (.bdy l k) Q at hk
  unfold KR at hk
  obtain ⟨hdl, VQ, hk2, rfl⟩ := hk
  unfold roundEnd at k1
  cases hb3 : h.get l with
  | none => rw [hb3] at k1; cases k1
  | some o3 =>
    rw [hb3] at k1
    cases o3 <;> try (cases k1; done)
    rename_i st4 p4 t4 s4 q4 as4 bd4 d4
    obtain ⟨h5, hs4, k1⟩ := eb_ok k1
    cases k1
    obtain ⟨fn4, tm4, hl4, hdl4, hdd4, hts4, htm4⟩ := loop_at re hb3
    have fin : ∀ (st5 : LoopState) (p5 : Option Code), h.set l (some (.loop st5 p5 t4 s4 q4 as4 bd4 d4)) = .ok h4 → (st5 = if p5.isNone then .ready else .done) → Good P e0 h0 W y ⟨.val (.lit (.bool p5.isNone)), k, h4⟩ → ∃ v5 w5, (Instr.endRound (e.σ l) p5).run P w = .ok v5 w5 ∧ RV VQ (.returned v5) w5 := fun st5 p5 hs5 hst hs' => by
      obtain ⟨g1, g2, g3⟩ := turn_ok (o' := .loop st5 p5 t4 s4 q4 as4 bd4 d4) (x' := .loop { state := st5, pending := p5, fn := fn4, tmps := tm4, params := q4.toArray, assign := as4, body := bd4, defers := e.σ d4 }) re hb3 hl4 (fun _ _ _ => by simp) ⟨fn4, tm4, rfl, hdd4, hts4, htm4⟩ hs5
      refine ⟨.bool p5.isNone, { w with heap := w.heap.setIfInBounds (e.σ l) (.loop { state := st5, pending := p5, fn := fn4, tmps := tm4, params := q4.toArray, assign := as4, body := bd4, defers := e.σ d4 }) }, ?_, _, rfl, hs' e _ _ VQ g2 (st.trans g3) (VR_lit.2 rfl) hk2⟩
      subst hst
      simp only [Instr.endRound, Sem.run_bind, getLoop_run hl4, Result.andThen_ok, g1, Sem.run_pure]
    cases x with
    | normal => exact fin .ready none hs4 rfl hs
    | ret => exact fin .done (some .ret) hs4 rfl hs
    | exit id => exact fin .done (some (.exit id)) hs4 rfl hs
theorem fin_good {x : X} {a : Fr} {fid : Nat} {fn : Func} {k : K} {h h2 : H} {us : List V} (hfn : P.funcs[fid]? = some fn) (hx : ∀ id, x ≠ .exit id) (hm : takeMarks h a.df = .ok h2) (hus : resultsT P a h2 fn.results.toList = .ok us) (hs : Good P e0 h0 W y ⟨.val (packT us), k, h2⟩) : Good P e0 h0 W y ⟨.out x a, .fin fid k, h⟩ := by
  intro e w act Q re fr st hk
  change Rel P e h w at re
  change Step h0 e0 W h e w at st
  change KR P W y e (.fin fid k) Q at hk
  unfold KR at hk
  obtain ⟨fn', VQ, hfn', hk2, rfl⟩ := hk
  rw [hfn] at hfn'
  cases hfn'
  have key := marks_ok (fn := fn) (tmps := act.tmps) (R := RV VQ) a.df h w h2 re hm fun w2 r2 s2 => by
    obtain ⟨z, g1, g2⟩ := pack_ok r2 fr hus
    exact ⟨z, g1, z, rfl, hs e w2 z VQ r2 (st.trans s2) g2 hk2⟩
  rw [← fr.df] at key
  cases x with
  | normal => exact key
  | ret => exact key
  | exit id => exact absurd rfl (hx id)
theorem asg_good {a : Fr} {l : Nat} {bd : Code} {k : K} {h h2 : H} {p2 : Option Code} {t2 : Tr V} {s2 : Nat} {q2 : List Tmp} {as2 bd2 : Code} {d2 : Nat} (hb1 : h.get l = some (.loop .ready p2 t2 s2 q2 as2 bd2 d2)) (hs2 : h.set l (some (.loop .busy p2 t2 s2 q2 as2 bd2 d2)) = .ok h2)
    (hs : Good P e0 h0 W y ⟨.run (some l) bd a, .bdy l k, h2⟩) : Good P e0 h0 W y ⟨.out .normal a, .asg l bd k, h⟩ := by
  intro e w act Q re fr st hk
  change Rel P e h w at re
  change Step h0 e0 W h e w at st
  change KR P W y e (.asg l bd k) Q at hk
  unfold KR at hk
  obtain ⟨hdl, VQ, hk2, rfl⟩ := hk
  obtain ⟨fn2, tm2, hl2, hdl2, hdd2, hts2, htm2⟩ := loop_at re hb1
  obtain ⟨f1, f2, f3⟩ := turn_ok (o' := .loop .busy p2 t2 s2 q2 as2 bd2 d2) (x' := .loop { state := .busy, pending := p2, fn := fn2, tmps := tm2, params := q2.toArray, assign := as2, body := bd2, defers := e.σ d2 }) re hb1 hl2 (fun _ _ _ => by simp) ⟨fn2, tm2, rfl, hdd2, hts2, htm2⟩ hs2
  refine ⟨{ w with heap := w.heap.setIfInBounds (e.σ l) (.loop { state := .busy, pending := p2, fn := fn2, tmps := tm2, params := q2.toArray, assign := as2, body := bd2, defers := e.σ d2 }) }, ?_, ?_⟩
  · simp only [Instr.beginRound, Sem.run_bind, getLoop_run hl2, Result.andThen_ok, f1, Sem.run_pure]
  · exact wpIn_any (n := 9) rfl (hs e _ act _ f2 fr (st.trans f3) (fun q hq => by cases hq; exact hdl) (by unfold KR; exact ⟨hdl, VQ, hk2, rfl⟩))
theorem out_good {x : X} {a : Fr} {k : K} {h : H} {s : St} (k1 : outM P x a k h = .ok s) (hs : Good P e0 h0 W y s) : Good P e0 h0 W y ⟨.out x a, k, h⟩ := by
  unfold outM at k1
  cases k with
  | seq r c k =>
    intro e w act Q re fr st hk
    change KR P W y e (.seq r c k) Q at hk
    unfold KR at hk
    obtain ⟨hr, Q', hk2, rfl⟩ := hk
    cases x with
    | normal => cases k1; exact hs e w act Q' re fr st hr hk2
    | exit id => cases k1; exact hs e w act Q' re fr st hk2
    | ret => cases k1; exact hs e w act Q' re fr st hk2
  | blk id k =>
    intro e w act Q re fr st hk
    change KR P W y e (.blk id k) Q at hk
    unfold KR at hk
    obtain ⟨Q', hk2, rfl⟩ := hk
    cases x with
    | normal => cases k1; exact hs e w act Q' re fr st hk2
    | ret => cases k1; exact hs e w act Q' re fr st hk2
    | exit i =>
      simp only at k1
      show if i = id then Q' .normal act w else Q' (.exit i) act w
      by_cases hid : i = id
      · have hb : Nat.beq i id = true := by rw [hid]; exact Nat.beq_refl _
        rw [hb, br_true] at k1
        cases k1
        rw [if_pos hid]
        exact hs e w act Q' re fr st hk2
      · have hb : Nat.beq i id = false := Bool.eq_false_iff.2 fun h => hid (Nat.eq_of_beq_eq_true h)
        rw [hb, br_false] at k1
        cases k1
        rw [if_neg hid]
        exact hs e w act Q' re fr st hk2
  | loop r c k =>
    intro e w act Q re fr st hk
    have hk0 := hk
    change KR P W y e (.loop r c k) Q at hk
    unfold KR at hk
    obtain ⟨hr, Q', hk2, rfl⟩ := hk
    cases x with
    | normal => cases k1; exact loopAt_round (hs e w act _ re fr st hr hk0)
    | exit id => cases k1; exact hs e w act Q' re fr st hk2
    | ret => cases k1; exact hs e w act Q' re fr st hk2
  | scp k =>
    cases k1
    intro e w act Q re fr st hk
    change KR P W y e (.scp k) Q at hk
    unfold KR at hk
    obtain ⟨Q', hk2, rfl⟩ := hk
    have := hs e w act Q' re fr st hk2
    cases x <;> exact this
  | fin fid k =>
    obtain ⟨fn, hfn, k1⟩ := eo_ok k1
    have go : (∀ id, x ≠ .exit id) → eb (takeMarks h a.df) (fun h2 => eb (resultsT P a h2 fn.results.toList) fun vs => fV (packT vs) fun v => (.ok ⟨.val v, k, h2⟩ : E St)) = .ok s → Good P e0 h0 W y ⟨.out x a, .fin fid k, h⟩ := fun hx k2 => by
      obtain ⟨h2, hm, k2⟩ := eb_ok k2
      obtain ⟨us, hus, k2⟩ := eb_ok k2
      rw [fV_eq] at k2
      cases k2
      exact fin_good hfn hx hm hus hs
    cases x with
    | normal => exact go (fun _ h => by cases h) k1
    | ret => exact go (fun _ h => by cases h) k1
    | exit id => cases k1
  | asg l bd k =>
    cases x with
    | normal =>
      simp only at k1
      split at k1
      · rename_i hb
        obtain ⟨h2, hs2, k2⟩ := eb_ok k1
        cases k2
        exact asg_good hb hs2 hs
      · cases k1
    | exit id => cases k1
    | ret => cases k1
  | bdy l k =>
    obtain ⟨⟨v, h4⟩, k2, k3⟩ := eb_ok k1
    cases k3
    exact bdy_good k2 hs
  | top => cases k1
  | ops _ _ _ _ _ _ => cases k1
  | drw _ _ _ _ _ _ => cases k1
  | rng _ _ _ _ => cases k1
theorem endL_ok {l : Nat} {h h4 : H} {pend : Option Code} {e : Env} {w : World} (re : Rel P e h w) (k : endL l h = .ok (pend, h4)) : ∃ w4, (Instr.endLoop (e.σ l)).run P w = .ok pend w4 ∧ Rel P e h4 w4 ∧ Step h e w h4 e w4 := by
  unfold endL at k
  cases hb : h.get l with
  | none => rw [hb] at k; cases k
  | some o =>
    rw [hb] at k
    cases o with
    | loop st pd t sz qs asg bd d =>
      obtain ⟨fn, tm, hl, hdl, hdd, hts, htm⟩ := loop_at re hb
      have hst : st ≠ .busy := fun hs => by subst hs; cases k
      have k2 : eb (h.set l (some (.loop .exhausted pd t sz qs asg bd d))) (fun h4 => (.ok (pd, h4) : E (Option Code × H))) = .ok (pend, h4) := by
        rw [← k]
        cases st <;> first | rfl | exact absurd rfl hst
      obtain ⟨h5, hs4, k3⟩ := eb_ok k2
      cases k3
      obtain ⟨f1, f2, f3⟩ := turn_ok (o' := .loop .exhausted pend t sz qs asg bd d) (x' := .loop { state := .exhausted, pending := pend, fn := fn, tmps := tm, params := qs.toArray, assign := asg, body := bd, defers := e.σ d }) re hb hl (fun _ _ _ => by simp) ⟨fn, tm, rfl, hdd, hts, htm⟩ hs4
      refine ⟨{ w with heap := w.heap.setIfInBounds (e.σ l) (.loop { state := .exhausted, pending := pend, fn := fn, tmps := tm, params := qs.toArray, assign := asg, body := bd, defers := e.σ d }) }, ?_, f2, f3⟩
      have hb2 : (st == LoopState.busy) = false := by cases st <;> first | rfl | exact absurd rfl hst
      simp only [Instr.endLoop, Sem.run_bind, getLoop_run hl, Result.andThen_ok, hb2, Bool.false_eq_true, if_false, f1, Sem.run_pure]
    | _ => cases k
theorem val_good {v : V} {k : K} {h : H} {s : St} (k1 : valM v k h = .ok s) (hs : Good P e0 h0 W y s) : Good P e0 h0 W y ⟨.val v, k, h⟩ := by
  unfold valM at k1
  cases k with
  | ops r ops n dst a k =>
    simp only [putK_eq] at k1
    cases k1
    intro e w x VQ re st hv hk
    change KV P W y e (.ops r ops n dst a k) VQ at hk
    unfold KV at hk
    obtain ⟨hr, act, Q', fr, hk2, rfl⟩ := hk
    exact hs e w _ Q' re (fr.put dst hv) st hr hk2
  | drw r ops n dst a k =>
    simp only [putK_eq] at k1
    cases k1
    intro e w x VQ re st hv hk
    change KV P W y e (.drw r ops n dst a k) VQ at hk
    unfold KV at hk
    obtain ⟨hsh, hr, act, Q', fr, hk2, rfl⟩ := hk
    exact hs hsh e w _ Q' re (fr.put dst hv) st hr hk2
  | rng r l a k =>
    obtain ⟨⟨pend, h4⟩, k2, k3⟩ := eb_ok k1
    intro e w x VQ re st hv hk
    change Rel P e h w at re
    change Step h0 e0 W h e w at st
    change KV P W y e (.rng r l a k) VQ at hk
    unfold KV at hk
    obtain ⟨hr, hdl, act, Q', fr, hk2, rfl⟩ := hk
    obtain ⟨w4, f1, f2, f3⟩ := endL_ok re k2
    refine ⟨pend, w4, f1, ?_⟩
    cases pend with
    | none => cases k3; exact hs e w4 act Q' f2 fr (st.trans f3) hk2
    | some c => cases k3; exact hs e w4 act Q' f2 fr (st.trans f3) hr hk2
  | _ => cases k1
theorem goes_spec {a : Fr} {o : Op} {g : V} {vs : List V} (k : goesM into a o = some (g, vs)) : ∃ f args ats, o = .call { callee := .value f, args := args, argTypes := ats } ∧ ev a f = .ok g ∧ evs a args.toList = .ok vs ∧ ((∃ fid first cap, g = .fn fid first cap) ∨ ∃ l, g = .yld l) := by
  unfold goesM at k
  split at k
  · rename_i c
    obtain ⟨callee, args, ats⟩ := c
    cases callee with
    | value f =>
      simp only at k
      split at k
      · rename_i fid first cap vs' h1 h2
        cases hi : hasN fid into with
        | true => rw [hi] at k; cases k; exact ⟨f, args, ats, rfl, h1, h2, .inl ⟨_, _, _, rfl⟩⟩
        | false => rw [hi] at k; cases k
      · rename_i l vs' h1 h2
        cases k
        exact ⟨f, args, ats, rfl, h1, h2, .inr ⟨_, rfl⟩⟩
      · cases k
    | _ => cases k
  · cases k
theorem opr_good (hm : P.follows .mixedOrders = true) {r : Option Nat} {ops : Array Oper} {n : Nat} {a : Fr} {k : K} {h : H} {s : St} (k1 : oprM P F into r ops n a k h = .ok s) (hs : Good P e0 h0 W y s) : Good P e0 h0 W y ⟨.opr r ops n a, k, h⟩ := by
  intro e w act Q re fr st hr hk
  change Rel P e h w at re
  change Step h0 e0 W h e w at st
  change KR P W y e k Q at hk
  unfold oprM at k1
  cases ho : ops[n]? with
  | none =>
    rw [ho] at k1
    cases k1
    have hle : ops.size ≤ n := Array.getElem?_eq_none_iff.1 ho
    rw [Nat.sub_eq_zero_of_le hle]
    exact hs e w act Q re fr st hk
  | some o =>
    rw [ho] at k1
    obtain ⟨hgk, k1⟩ := ec_ok k1
    have hlt : n < ops.size := (Array.getElem?_eq_some_iff.1 ho).1
    rw [show ops.size - n = (ops.size - (n + 1)) + 1 by omega, List.range'_succ]
    unfold wpOpsIn
    rw [ho]
    simp only
    have hw : Region.wanted o (yielded ops act.tmps) = wantedT ops a o := wanted_ok fr.size (fun j want d _ _ => fr.tmp d) hgk
    rw [hw]
    cases hwt : wantedT ops a o with
    | false =>
      rw [hwt] at k1
      simp only [putK_eq] at k1
      cases k1
      simp only [Bool.false_eq_true, if_false]
      exact ⟨fun f _ => fence_fn e r f, hs e w _ Q re (fr.put o.dst uV_ok) st hr hk⟩
    | true =>
      rw [hwt] at k1
      simp only at k1
      simp only [if_true]
      have plain : ∀ {s' : St}, eb (opW P (evCode P F) a o.op h) (fun s => a.putK o.dst s.1 fun a' => (.ok ⟨.opr r ops (n + 1) a', k, s.2⟩ : E St)) = .ok s' → Good P e0 h0 W y s' → o.wpIn (fence e r) 9 P act w (wpOpsIn (fence e r) 9 P ops Q (List.range' (n + 1) (ops.size - (n + 1)))) Q := fun {s'} k2 hs' => by
        obtain ⟨⟨v, h1⟩, ho1, k3⟩ := eb_ok k2
        rw [putK_eq] at k3
        cases k3
        refine op_ok (evCode_ok hm F) re (fr.ops _) fr.glob ho1 fun x w' hx => ?_
        obtain ⟨e1, r1, s1, hv⟩ := hx
        have := hs' e1 w' _ Q r1 ((fr.mono s1.le).put o.dst hv) (st.trans s1) (ROk.mono s1.le hr) (KR_mono s1.le _ _ hk)
        rw [fence_le s1.le hr] at this
        exact this
      cases hg : goesM into a o.op with
      | none => rw [hg] at k1; exact plain k1 hs
      | some q =>
        obtain ⟨g, vs⟩ := q
        rw [hg] at k1
        obtain ⟨dst, op, ty, pos, after, guard⟩ := o
        obtain ⟨f, args, ats, hop, hgv, hvs, hkind⟩ := goes_spec hg
        change op = _ at hop
        subst hop
        have hops := fr.ops (Op.call { callee := .value f, args := args, argTypes := ats }).operands.toList
        have hv : VRs e vs (args.toList.map act.eval) := OpsR.evs (fun x hx => hops x (by simp [Op.operands, Call.operands]; exact .inr (by simpa using hx))) hvs
        have hf := fr.ev f g hgv
        have e3 : (execOp act.eval { dst := dst, op := .call { callee := .value f, args := args, argTypes := ats }, type := ty, pos := pos, after := after, guard := guard }) = (do let d ← Deferred.ofValue (act.eval f) (args.map act.eval); invoke d.target d.args) := rfl
        refine ⟨fun f' _ => fence_fn e r f', ?_⟩
        rw [Oper.semAt_eq _ _ _ (fun c hc => by cases hc)]
        rcases hkind with ⟨fid, first, cap, rfl⟩ | ⟨l, rfl⟩
        · simp only at k1
          obtain ⟨lf, mc, e1, q1, q2⟩ := VR_fn.1 hf
          obtain ⟨c1, fn, c2, c3, c4⟩ := enter_good (xs := lf ++ args.toList.map act.eval ++ mc) k1 hs re st (VRs_append (VRs_append q1 hv) q2) fr.glob
            (VQ := fun x w => wpOpsIn (fence e r) 9 P ops Q (List.range' (n + 1) (ops.size - (n + 1))) (act.put dst x) w) (by unfold KV; exact ⟨hr, act, Q, fr, hk, rfl⟩)
          have e2 : (execOp act.eval { dst := dst, op := .call { callee := .value f, args := args, argTypes := ats }, type := ty, pos := pos, after := after, guard := guard }).run P w = .ok (.enter fid (lf ++ args.toList.map act.eval ++ mc).toArray) w := by
            rw [e3, e1]
            simp only [Sem.run_bind, Deferred.ofValue, Sem.run_pure, Result.andThen_ok, invoke]
            rw [enter_run c2 c3 c4, arr_eq]
            simp
          rw [e2]
          refine ⟨fun hd => (by rw [fence_depth] at hd; cases hd), fence_calls (Calls.mono c1 ?_)⟩
          rintro en w' ⟨x, rfl, hx⟩
          exact hx
        · simp only at k1
          have e1 := (VR_yld.1 hf).2
          have hdl := (VR_yld.1 hf).1
          cases hb : h.get l with
          | none => rw [hb] at k1; cases k1
          | some ob =>
            rw [hb] at k1
            cases ob <;> try (cases k1; done)
            rename_i st1 pend t sz qs asg bd d
            simp only at k1
            obtain ⟨hlen, k1⟩ := ec_ok k1
            cases k1
            obtain ⟨fn, tm, hl, hdl', hdd, hts, htm⟩ := loop_at re hb
            have hlen' := Nat.eq_of_beq_eq_true hlen
            have hxl := VRs_len hv
            have q1 : (Instr.yield (e.σ l) (args.toList.map act.eval).toArray).run P w = .ok (.round (e.σ l) fn ((qs.zip (args.toList.map act.eval)).foldl (fun t q => t.setIfInBounds q.1 q.2) tm) asg bd) w := by
              have hne : ¬ (args.toList.map act.eval).toArray.size ≠ qs.toArray.size := by simp at hxl ⊢; omega
              simp only [Instr.yield, Sem.run_bind, getLoop_run hl, Result.andThen_ok, if_neg hne, Sem.run_pure]
              congr 2
              rw [← Array.foldl_toList]
              simp
            have e2 : (execOp act.eval { dst := dst, op := .call { callee := .value f, args := args, argTypes := ats }, type := ty, pos := pos, after := after, guard := guard }).run P w = .ok (.round (e.σ l) fn ((qs.zip (args.toList.map act.eval)).foldl (fun t q => t.setIfInBounds q.1 q.2) tm) asg bd) w := by
              rw [e3, e1]
              simp only [Sem.run_bind, Deferred.ofValue, Sem.run_pure, Result.andThen_ok, invoke]
              rw [arr_eq, Array.empty_append]
              exact q1
            rw [e2]
            have fr0 : FrR e ⟨t, sz, [], a.gl⟩ ⟨tm, []⟩ := ⟨hts, htm, rfl, fun d hd => (by cases hd), fr.glob⟩
            have fr1 := putArgs_ok (qs := qs) (vs := vs) (by omega) hv fr0
            have hfe : fence e (some l) = (fence e r).inRound (e.σ l) := by cases r <;> rfl
            refine ⟨fun hd => (by rw [fence_depth] at hd; cases hd), RoundIn.mono (R := RV fun x w => wpOpsIn (fence e r) 9 P ops Q (List.range' (n + 1) (ops.size - (n + 1))) (act.put dst x) w) (roundIn_of_wpIn (n := 8) (fence_fn e r fn) ?_) ?_⟩
            · rw [← hfe]
              exact wpIn_any (n := 9) rfl (hs e w _ _ re fr1 st (fun q hq => by cases hq; exact hdl) (by unfold KR; exact ⟨hdl, _, by unfold KV; exact ⟨hr, act, Q, fr, hk, rfl⟩, rfl⟩))
            · rintro en w' ⟨x, rfl, hx⟩
              exact hx
theorem drb_good (hm : P.follows .mixedOrders = true) {r : Option Nat} {ops : Array Oper} {n : Nat} {a : Fr} {k : K} {h : H} {s : St} (k1 : drbM P F into r ops n a k h = .ok s) (hs : Good P e0 h0 W y s) : Good P e0 h0 W y ⟨.drb r ops n a, k, h⟩ := by
  intro hsh e w act Q re fr st hr hk
  change Rel P e h w at re
  change Step h0 e0 W h e w at st
  change KR P W y e k Q at hk
  unfold drbM at k1
  cases ho : ops[n]? with
  | none =>
    rw [ho] at k1
    cases k1
    have hle : ops.size ≤ n := Array.getElem?_eq_none_iff.1 ho
    intro f hf
    have hup : upto ops.size n = upto ops.size ops.size := by
      refine arr_ext (by rw [upto_size, upto_size]) fun i hi => ?_
      rw [upto_size] at hi
      rw [upto_get, upto_get, if_pos hi, if_pos hi, decide_eq_true hi, decide_eq_true (by omega : i < n)]
    rw [hup]
    have hq := hs e w act Q re fr st hk
    cases f with
    | zero => exact ⟨none_ready, hq⟩
    | succ f => exact ⟨fun _ => hq, fun i hi => by rw [none_ready] at hi; cases hi⟩
  | some o =>
    rw [ho] at k1
    simp only [fNat_eq, fNats_eq] at k1
    obtain ⟨hseg, k1⟩ := ec_ok k1
    generalize segEnd ops (reachL ops) ops.size n ops.size (n + 1) = c at hseg k1
    have hlt : n < ops.size := (Array.getElem?_eq_some_iff.1 ho).1
    obtain hbc | hbc : Nat.beq c (n + 1) = false ∨ Nat.beq c (n + 1) = true := by cases Nat.beq c (n + 1) <;> simp
    · rw [hbc] at k1
      simp only at k1
      obtain ⟨hgc, k1⟩ := ec_ok k1
      rw [Bool.and_eq_true, Bool.and_eq_true] at hgc
      obtain ⟨hgi, hc1, hc2⟩ := hgc
      have hc : c ≤ ops.size := Nat.le_of_ble_eq_true hc1
      have hn : n < c := Nat.le_of_ble_eq_true hc2
      obtain ⟨⟨x, a', h'⟩, k2, k3⟩ := eb_ok k1
      cases x with
      | normal =>
        cases k3
        intro fu hfu
        have h1 := draw_wp2 (evCode_ok hm F) k2 re fr hr (Exit.then (fun act' w' => ∀ f, ops.size - c ≤ f → wpAnyIn (fence e r) 9 P .any ops Q f (upto ops.size c) act' w') Q) fun e' act' w' r' fr' s' => by
          intro f hf
          have := hs hsh e' w' act' Q r' fr' (st.trans s') (ROk.mono s'.le hr) (KR_mono s'.le _ _ hk) f hf
          rw [fence_le s'.le hr] at this
          exact this
        rw [sub_size hc] at h1
        have := any_seg (fb := fu - (c - n)) hsh hseg hgi hn hc (fun a w hK f hf => hK f (by omega)) (c - n) _ _ _ (by simp) (fun j o hj => (none_listed hj).elim) h1
        rw [emb_none, show c - n + (fu - (c - n)) = fu by omega] at this
        exact this
      | exit id => cases k3
      | ret => cases k3
    obtain rfl : c = n + 1 := Nat.eq_of_beq_eq_true hbc
    rw [hbc] at k1
    simp only at k1
    obtain ⟨hgk, k1⟩ := ec_ok k1
    intro fu hfu
    obtain ⟨fu, rfl⟩ : ∃ f', fu = f' + 1 := ⟨fu - 1, by omega⟩
    refine ⟨fun he => (by have := some_ready hsh hlt; rw [he] at this; cases this), fun i hi => ?_⟩
    have hin := one_ready hsh hseg hi
    subst hin
    rw [upto_set]
    unfold wpOpIn
    rw [ho]
    simp only
    have hw : Region.wanted o (yielded ops act.tmps) = wantedT ops a o := wanted_ok fr.size (fun j want d _ _ => fr.tmp d) hgk
    rw [hw]
    cases hwt : wantedT ops a o with
    | false =>
      rw [hwt] at k1
      simp only [putK_eq] at k1
      cases k1
      simp only [Bool.false_eq_true, if_false]
      exact ⟨fun f _ => fence_fn e r f, hs hsh e w _ Q re (fr.put o.dst uV_ok) st hr hk fu (by omega)⟩
    | true =>
      rw [hwt] at k1
      simp only at k1
      simp only [if_true]
      have plain : ∀ {s' : St}, eb (opW P (evCode P F) a o.op h) (fun s => a.putK o.dst s.1 fun a' => (.ok ⟨.drb r ops (i + 1) a', k, s.2⟩ : E St)) = .ok s' → Good P e0 h0 W y s' → o.wpIn (fence e r) 9 P act w (wpAnyIn (fence e r) 9 P .any ops Q fu (upto ops.size (i + 1))) Q := fun {s'} k2 hs' => by
        obtain ⟨⟨v, h1⟩, ho1, k3⟩ := eb_ok k2
        rw [putK_eq] at k3
        cases k3
        refine op_ok (evCode_ok hm F) re (fr.ops _) fr.glob ho1 fun x w' hx => ?_
        obtain ⟨e1, r1, s1, hv⟩ := hx
        have := hs' hsh e1 w' _ Q r1 ((fr.mono s1.le).put o.dst hv) (st.trans s1) (ROk.mono s1.le hr) (KR_mono s1.le _ _ hk) fu (by omega)
        rw [fence_le s1.le hr] at this
        exact this
      cases hg : goesM into a o.op with
      | none => rw [hg] at k1; exact plain k1 hs
      | some q =>
        obtain ⟨g, vs⟩ := q
        rw [hg] at k1
        obtain ⟨dst, op, ty, pos, after, guard⟩ := o
        obtain ⟨f, args, ats, hop, hgv, hvs, hkind⟩ := goes_spec hg
        change op = _ at hop
        subst hop
        have hops := fr.ops (Op.call { callee := .value f, args := args, argTypes := ats }).operands.toList
        have hv : VRs e vs (args.toList.map act.eval) := OpsR.evs (fun x hx => hops x (by simp [Op.operands, Call.operands]; exact .inr (by simpa using hx))) hvs
        have hf := fr.ev f g hgv
        have e3 : (execOp act.eval { dst := dst, op := .call { callee := .value f, args := args, argTypes := ats }, type := ty, pos := pos, after := after, guard := guard }) = (do let d ← Deferred.ofValue (act.eval f) (args.map act.eval); invoke d.target d.args) := rfl
        refine ⟨fun f' _ => fence_fn e r f', ?_⟩
        rw [Oper.semAt_eq _ _ _ (fun c hc => by cases hc)]
        rcases hkind with ⟨fid, first, cap, rfl⟩ | ⟨l, rfl⟩
        · simp only at k1
          obtain ⟨lf, mc, e1, q1, q2⟩ := VR_fn.1 hf
          obtain ⟨c1, fn, c2, c3, c4⟩ := enter_good (xs := lf ++ args.toList.map act.eval ++ mc) k1 hs re st (VRs_append (VRs_append q1 hv) q2) fr.glob
            (VQ := fun x w => ∀ f', ops.size - (i + 1) ≤ f' → wpAnyIn (fence e r) 9 P .any ops Q f' (upto ops.size (i + 1)) (act.put dst x) w) (by unfold KV; exact ⟨hsh, hr, act, Q, fr, hk, rfl⟩)
          have e2 : (execOp act.eval { dst := dst, op := .call { callee := .value f, args := args, argTypes := ats }, type := ty, pos := pos, after := after, guard := guard }).run P w = .ok (.enter fid (lf ++ args.toList.map act.eval ++ mc).toArray) w := by
            rw [e3, e1]
            simp only [Sem.run_bind, Deferred.ofValue, Sem.run_pure, Result.andThen_ok, invoke]
            rw [enter_run c2 c3 c4, arr_eq]
            simp
          rw [e2]
          refine ⟨fun hd => (by rw [fence_depth] at hd; cases hd), fence_calls (Calls.mono c1 ?_)⟩
          rintro en w' ⟨x, rfl, hx⟩
          exact hx fu (by omega)
        · simp only at k1
          have e1 := (VR_yld.1 hf).2
          have hdl := (VR_yld.1 hf).1
          cases hb : h.get l with
          | none => rw [hb] at k1; cases k1
          | some ob =>
            rw [hb] at k1
            cases ob <;> try (cases k1; done)
            rename_i st1 pend t sz qs asg bd d
            simp only at k1
            obtain ⟨hlen, k1⟩ := ec_ok k1
            cases k1
            obtain ⟨fn, tm, hl, hdl', hdd, hts, htm⟩ := loop_at re hb
            have hlen' := Nat.eq_of_beq_eq_true hlen
            have hxl := VRs_len hv
            have q1 : (Instr.yield (e.σ l) (args.toList.map act.eval).toArray).run P w = .ok (.round (e.σ l) fn ((qs.zip (args.toList.map act.eval)).foldl (fun t q => t.setIfInBounds q.1 q.2) tm) asg bd) w := by
              have hne : ¬ (args.toList.map act.eval).toArray.size ≠ qs.toArray.size := by simp at hxl ⊢; omega
              simp only [Instr.yield, Sem.run_bind, getLoop_run hl, Result.andThen_ok, if_neg hne, Sem.run_pure]
              congr 2
              rw [← Array.foldl_toList]
              simp
            have e2 : (execOp act.eval { dst := dst, op := .call { callee := .value f, args := args, argTypes := ats }, type := ty, pos := pos, after := after, guard := guard }).run P w = .ok (.round (e.σ l) fn ((qs.zip (args.toList.map act.eval)).foldl (fun t q => t.setIfInBounds q.1 q.2) tm) asg bd) w := by
              rw [e3, e1]
              simp only [Sem.run_bind, Deferred.ofValue, Sem.run_pure, Result.andThen_ok, invoke]
              rw [arr_eq, Array.empty_append]
              exact q1
            rw [e2]
            have fr0 : FrR e ⟨t, sz, [], a.gl⟩ ⟨tm, []⟩ := ⟨hts, htm, rfl, fun d hd => (by cases hd), fr.glob⟩
            have fr1 := putArgs_ok (qs := qs) (vs := vs) (by omega) hv fr0
            have hfe : fence e (some l) = (fence e r).inRound (e.σ l) := by cases r <;> rfl
            refine ⟨fun hd => (by rw [fence_depth] at hd; cases hd), RoundIn.mono (R := RV fun x w => ∀ f', ops.size - (i + 1) ≤ f' → wpAnyIn (fence e r) 9 P .any ops Q f' (upto ops.size (i + 1)) (act.put dst x) w) (roundIn_of_wpIn (n := 8) (fence_fn e r fn) ?_) ?_⟩
            · rw [← hfe]
              exact wpIn_any (n := 9) rfl (hs e w _ _ re fr1 st (fun q hq => by cases hq; exact hdl) (by unfold KR; exact ⟨hdl, _, by unfold KV; exact ⟨hsh, hr, act, Q, fr, hk, rfl⟩, rfl⟩))
            · rintro en w' ⟨x, rfl, hx⟩
              exact hx fu (by omega)
theorem step_good (hm : P.follows .mixedOrders = true) {s s' : St} (k : stepM P F into s = .ok s') (hs : Good P e0 h0 W y s') : Good P e0 h0 W y s := by
  obtain ⟨m, k0, h⟩ := s
  cases m with
  | run r c a => exact run_good hm k hs
  | out x a => exact out_good k hs
  | opr r ops n a => exact opr_good hm k hs
  | drb r ops n a => exact drb_good hm k hs
  | val v => exact val_good k hs
theorem steps_good (hm : P.follows .mixedOrders = true) : ∀ (n : Nat) (s s' : St), stepsM P F into n s = .ok s' → Good P e0 h0 W y s' → Good P e0 h0 W y s
  | 0, s, s', k, hs => by cases k; exact hs
  | n + 1, s, s', k, hs => by
    change @Except.rec String St (fun _ => E St) (fun e => .error e) (fun s' => stepsM P F into n s') (stepM P F into s) = _ at k
    cases h1 : stepM P F into s with
    | error m => rw [h1] at k; cases k
    | ok s1 =>
      rw [h1] at k
      exact step_good hm h1 (steps_good hm n s1 s' k hs)
/-- Names that are no longer needed are forgotten. -/
theorem gc_good {m : Mo} {k : K} {h : H} {keep : List Nat} (hs : Good P e0 h0 W y ⟨m, k, gcH keep h⟩) : Good P e0 h0 W y ⟨m, k, h⟩ := by
  cases m with
  | run r c a => exact fun e w act Q re fr st hr hk => hs e w act Q (re.less (Nat.le_refl _) (gcH_get keep h)) fr (st.gc keep) hr hk
  | out x a => exact fun e w act Q re fr st hk => hs e w act Q (re.less (Nat.le_refl _) (gcH_get keep h)) fr (st.gc keep) hk
  | opr r ops n a => exact fun e w act Q re fr st hr hk => hs e w act Q (re.less (Nat.le_refl _) (gcH_get keep h)) fr (st.gc keep) hr hk
  | drb r ops n a => exact fun hsh e w act Q re fr st hr hk => hs hsh e w act Q (re.less (Nat.le_refl _) (gcH_get keep h)) fr (st.gc keep) hr hk
  | val v => exact fun e w x VQ re st hv hk => hs e w x VQ (re.less (Nat.le_refl _) (gcH_get keep h)) (st.gc keep) hv hk
/-- Where it ends. -/
theorem top_good {h : H} (hp : h0.p = h0.n) (hx : h0.x = h0.n) (hr : Rel P e0 h0 W) : Good P e0 h0 W y ⟨.val (.lit y), .top, h⟩ := fun e w x VQ re st hv hk => by
  change KV P W y e .top VQ at hk
  unfold KV at hk
  rw [VR_lit.1 hv]
  have hk2 := VKept.of (P := P) st hr hp hx
  exact hk w ⟨hk2.os, hk2.tape, hk2.output, hk2.size, fun k hk' => hk2.keep k hk'⟩
end
end Go.Proofs.YtciaofnkjgjeiacGreatDoor

/- The machine in pieces: each piece ends in a state that is written down, what is no longer needed is forgotten; calls of functions that were worked out before; the whole call. -/
namespace Go.Proofs.YtciaofnkjgjeiacGreatDoor
set_option linter.unusedSimpArgs false
set_option linter.unusedVariables false
open Go Go.RowKit

noncomputable section
/-- The code at a place of a function. -/
def cAt : List Nat → Code → Code
  | [], c => c
  | 0 :: p, .seq x _ => cAt p x
  | 1 :: p, .seq _ y => cAt p y
  | 0 :: p, .cond _ x _ => cAt p x
  | 1 :: p, .cond _ _ y => cAt p y
  | 0 :: p, .block _ x => cAt p x
  | 0 :: p, .loop x => cAt p x
  | 0 :: p, .scope x => cAt p x
  | 0 :: p, .rangeFunc _ _ x _ => cAt p x
  | 1 :: p, .rangeFunc _ _ _ y => cAt p y
  | _, c => c
def cF (f : Func) (p : List Nat) : Code := cAt p (bodyOf f)
/-- Is it at a call of a function, or at the end? -/
def atCall (stop : Nat) (s : St) : Bool :=
  match s.m with
  | .opr _ ops n _ => (match ops[n]? with
    | some o => (match o.op with
      | .call c => (match c.callee with
        | .value (.func f) => Nat.beq f stop
        | _ => false)
      | _ => false)
    | none => false)
  | .val _ => (match s.k with
    | .top => true
    | _ => false)
  | _ => false
/-- Two to the n steps. -/
def stepsS (P : Program) (F : Nat) (into : List FuncId) (stop : Nat) (n : Nat) : St → E St :=
  @Nat.rec (fun _ => St → E St) (fun s => @Bool.rec (fun _ => E St) (stepM P F into s) (.ok s) (atCall stop s)) (fun _ ih s => @Except.rec String St (fun _ => E St) (fun e => .error e) (fun s' => ih s') (ih s)) n
def stepsG (P : Program) (F : Nat) (into : List FuncId) (stop : Nat) (n : Nat) (keep : List Nat) (s : St) : E St := eb (stepsS P F into stop n s) fun s => .ok ⟨s.m, s.k, gcH keep s.h⟩
section
variable {P : Program} {e0 : Env} {h0 : H} {W : World} {y : Value} {F : Nat} {into : List FuncId} {stop : Nat}
theorem stepsS_good (hm : P.follows .mixedOrders = true) : ∀ (n : Nat) (s s' : St), stepsS P F into stop n s = .ok s' → Good P e0 h0 W y s' → Good P e0 h0 W y s
  | 0, s, s', k, hs => by
    change @Bool.rec (fun _ => E St) (stepM P F into s) (.ok s) (atCall stop s) = _ at k
    cases ha : atCall stop s with
    | true => rw [ha] at k; cases k; exact hs
    | false => rw [ha] at k; exact step_good hm k hs
  | n + 1, s, s', k, hs => by
    change @Except.rec String St (fun _ => E St) (fun e => .error e) (fun s' => stepsS P F into stop n s') (stepsS P F into stop n s) = _ at k
    cases h1 : stepsS P F into stop n s with
    | error m => rw [h1] at k; cases k
    | ok s1 =>
      rw [h1] at k
      exact stepsS_good hm n s s1 h1 (stepsS_good hm n s1 s' k hs)
theorem piece_good (hm : P.follows .mixedOrders = true) {n : Nat} {keep : List Nat} {s s' : St} (k : stepsG P F into stop n keep s = .ok s') (hs : Good P e0 h0 W y s') : Good P e0 h0 W y s := by
  unfold stepsG at k
  obtain ⟨s1, k1, k2⟩ := eb_ok k
  cases k2
  exact stepsS_good hm n s s1 k1 (gc_good hs)
/-- A call of a function without arguments that was worked out before. -/
theorem known_good {r : Option Nat} {ops : Array Oper} {n : Nat} {a : Fr} {k : K} {h : H} {fid : Nat} {fn : Func} {z : Value} {o : Oper} (ho : ops[n]? = some o) (hop : o.op = .call { callee := .value (.func fid), args := #[], argTypes := #[] }) (hwt : wantedT ops a o = true) (hgk : guardOk ops a o = true)
    (hfn : P.funcs[fid]? = some fn) (hnm : (fn.name == "runtime.NumGoroutine") = false) (hb : fn.body.isNone = false)
    (hc : ∀ w, VKept W w → Calls P fid #[] w fun en w' => en = .returned z ∧ Below w.heap.size w w') (hp : h0.p = h0.n) (hx : h0.x = h0.n) (hlt : Rel P e0 h0 W)
    (hs : Good P e0 h0 W y ⟨.opr r ops (n + 1) (a.put o.dst (.lit z)), k, h⟩) : Good P e0 h0 W y ⟨.opr r ops n a, k, h⟩ := by
  intro e w act Q re fr st hr hk
  change Rel P e h w at re
  change Step h0 e0 W h e w at st
  change KR P W y e k Q at hk
  have hl : n < ops.size := (Array.getElem?_eq_some_iff.1 ho).1
  rw [show ops.size - n = (ops.size - (n + 1)) + 1 by omega, List.range'_succ]
  unfold wpOpsIn
  rw [ho]
  simp only
  rw [wanted_ok fr.size (fun j want d _ _ => fr.tmp d) hgk, hwt]
  simp only [if_true]
  have hk0 : VKept W w := VKept.of st hlt hp hx
  refine ⟨fun f _ => fence_fn e r f, ?_⟩
  obtain ⟨dst, op, ty, pos, after, guard⟩ := o
  change op = _ at hop
  subst hop
  rw [Oper.semAt_eq _ _ _ (fun c hc => by cases hc)]
  have e2 : (execOp act.eval ⟨dst, .call { callee := .value (.func fid), args := #[], argTypes := #[] }, ty, pos, after, guard⟩).run P w = .ok (.enter fid #[]) w := by
    have e3 : (execOp act.eval ⟨dst, .call { callee := .value (.func fid), args := #[], argTypes := #[] }, ty, pos, after, guard⟩) = (do let d ← Deferred.ofValue (act.eval (.func fid)) ((#[] : Array Operand).map act.eval); invoke d.target d.args) := rfl
    rw [e3]
    simp only [Array.map_empty, Sem.run_bind, Act.eval, Deferred.ofValue, Sem.run_pure, Result.andThen_ok, invoke]
    rw [enter_run hfn hnm hb]
    rfl
  rw [e2]
  refine ⟨fun hd => (by rw [fence_depth] at hd; cases hd), fence_calls (Calls.mono (hc w hk0) ?_)⟩
  rintro en w2 ⟨rfl, hbel⟩
  have hk2 : VKept w w2 := ⟨hbel.size, hbel.block, hbel.os, hbel.tape, hbel.output⟩
  exact hs e w2 _ Q (hk2.rel re) (fr.put dst (VR_lit.2 rfl)) (st.trans (hk2.step h e)) hr hk
/-- The whole call. -/
theorem whole_ok {f : FuncId} {fn : Func} {c : Code} {gl : Nat} (hfn : P.funcs[f]? = some fn) (hc : fn.body = some c) (hr : Rel P e0 h0 W) (hg : ∀ g, g < gl → e0.dom g ∧ e0.σ g = g)
    (hs : Good P e0 h0 W y ⟨.run none c ⟨.leaf, fn.ntmps, [], gl⟩, .fin f .top, h0⟩) : Calls P f #[] W fun en W' => en = .returned y ∧ Below W.heap.size W W' := by
  refine (callsIn_wide (n := 9)).1 (callsIn_of_wp_marks hfn hc trivial ?_ rfl)
  have fr0 := ofList_fr (e := e0) (vs := []) (xs := []) (VRs_nil.2 rfl) fn.ntmps gl hg
  have hmax : Nat.max fn.ntmps ([] : List V).length = fn.ntmps := Nat.max_eq_left (Nat.zero_le _)
  rw [hmax] at fr0
  have := hs e0 W _ (bodyPostM Fence.wide 9 P fn (RV fun x w => x = y ∧ Below W.heap.size W w)) hr fr0 (Step.refl _ _ _) (fun _ h => by cases h) (by unfold KR; exact ⟨fn, _, hfn, by unfold KV; exact fun w' hb => ⟨rfl, hb⟩, rfl⟩)
  refine wpIn_mono this fun en a w hq => ?_
  have hR : RV (fun x w => x = y ∧ Below W.heap.size W w) = fun en W' => en = .returned y ∧ Below W.heap.size W W' := by
    funext en W'
    refine propext ⟨?_, ?_⟩
    · rintro ⟨x, rfl, rfl, hb⟩; exact ⟨rfl, hb⟩
    · rintro ⟨rfl, hb⟩; exact ⟨_, rfl, rfl, hb⟩
  rw [hR] at hq
  exact hq
end
end
end Go.Proofs.YtciaofnkjgjeiacGreatDoor
