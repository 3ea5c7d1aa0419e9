/-
  Maps with whole numbers as keys whose values are read as themselves: plain laws over any list of entries. Nothing of the program.
-/
import Derived.Test.YtabckkepkennhaaKit2
import Derived.Test.YtabckkepkennhaaGpF
import Derived.Maps.RangeWalk
import Derived.Maps.Ext
namespace Go.Proofs.Ytabckkepkennhaa.Nm
open Go.RowKit Kt Gf Go.Maps Go.ChangeMaps
set_option linter.unusedVariables false
set_option linter.unusedSectionVars false
set_option maxRecDepth 20000

section
variable {α : Type} (key : α → Int)
def put : List α → α → List α
  | [], x => [x]
  | y :: l, x => if key x < key y then x :: y :: l else if key x = key y then x :: l else y :: put l x
def atX : List α → Int → Option α
  | [], _ => none
  | y :: l, k => if key y = k then some y else atX l k
def Srt (l : List α) : Prop := l.Pairwise (fun p q => key p < key q)
variable {key}
theorem atX_mem {l : List α} {k : Int} {o : α} (h : atX key l k = some o) : o ∈ l ∧ key o = k := by
  induction l with
  | nil => cases h
  | cons y l ih =>
    rw [atX] at h
    split at h
    · rename_i he
      cases h
      exact ⟨by simp, he⟩
    · obtain ⟨h1, h2⟩ := ih h
      exact ⟨by simp [h1], h2⟩
theorem mem_at {l : List α} (hs : Srt key l) {x : α} (h : x ∈ l) : atX key l (key x) = some x := by
  induction l with
  | nil => cases h
  | cons y l ih =>
    obtain ⟨h1, h2⟩ := List.pairwise_cons.1 hs
    rw [atX]
    rcases List.mem_cons.1 h with rfl | h
    · rw [if_pos rfl]
    · rw [if_neg (by have := h1 x h; omega)]
      exact ih h2 h
theorem mem_put {l : List α} {x y : α} (h : y ∈ put key l x) : y = x ∨ y ∈ l := by
  induction l with
  | nil => simp [put] at h; exact .inl h
  | cons q l ih =>
    rw [put] at h
    split at h
    · rcases List.mem_cons.1 h with h | h
      · exact .inl h
      · exact .inr h
    · split at h
      · rcases List.mem_cons.1 h with h | h
        · exact .inl h
        · exact .inr (by simp [h])
      · rcases List.mem_cons.1 h with h | h
        · exact .inr (by simp [h])
        · rcases ih h with h | h
          · exact .inl h
          · exact .inr (by simp [h])
theorem srt_put {l : List α} (hs : Srt key l) (x : α) : Srt key (put key l x) := by
  induction l with
  | nil => simp [put, Srt]
  | cons q l ih =>
    obtain ⟨h1, h2⟩ := List.pairwise_cons.1 hs
    rw [put]
    split
    · rename_i h
      refine List.pairwise_cons.2 ⟨fun p hp => ?_, hs⟩
      rcases List.mem_cons.1 hp with rfl | hp
      · exact h
      · have := h1 p hp; omega
    · split
      · rename_i h3 h4
        exact List.pairwise_cons.2 ⟨fun p hp => by have := h1 p hp; omega, h2⟩
      · rename_i h3 h4
        refine List.pairwise_cons.2 ⟨fun p hp => ?_, ih h2⟩
        rcases mem_put hp with rfl | hp
        · omega
        · exact h1 p hp
theorem at_put {l : List α} (x : α) (k : Int) : atX key (put key l x) k = if key x = k then some x else atX key l k := by
  induction l with
  | nil => simp [put, atX]
  | cons q l ih =>
    rw [put]
    split
    · rw [atX]
    · split
      · rename_i h3 h4
        rw [atX, atX]
        by_cases hk : key x = k
        · rw [if_pos hk, if_pos hk]
        · rw [if_neg hk, if_neg hk, if_neg (by omega)]
      · rename_i h3 h4
        rw [atX, ih, atX]
        by_cases hk : key x = k
        · rw [if_neg (by omega), if_pos hk, if_pos hk]
        · rw [if_neg hk, if_neg hk]
theorem at_lt {l : List α} {k : Int} (h : ∀ p ∈ l, k < key p) : atX key l k = none := by
  induction l with
  | nil => rfl
  | cons q l ih => rw [atX, if_neg (by have := h q (by simp); omega)]; exact ih (fun p hp => h p (by simp [hp]))
theorem len_put {l : List α} (hs : Srt key l) (x : α) : (put key l x).length = if (atX key l (key x)).isSome then l.length else l.length + 1 := by
  induction l with
  | nil => simp [put, atX]
  | cons q l ih =>
    obtain ⟨h1, h2⟩ := List.pairwise_cons.1 hs
    rw [put, atX]
    split
    · rename_i h
      rw [if_neg (by omega : ¬ key q = key x), at_lt (fun p hp => by have := h1 p hp; omega)]
      simp
    · split
      · rename_i h3 h4
        rw [if_pos h4.symm]
        simp
      · rename_i h3 h4
        have e : (if key q = key x then some q else atX key l (key x)) = atX key l (key x) := if_neg (fun e => h4 e.symm)
        rw [e, List.length_cons, ih h2]
        split <;> simp
theorem len_put_le (l : List α) (x : α) : (put key l x).length ≤ l.length + 1 := by
  induction l with
  | nil => simp [put]
  | cons q l ih =>
    rw [put]
    split
    · simp
    · split
      · simp
      · simp only [List.length_cons]; omega
theorem map_put {β : Type} {kb : β → Int} (f : α → β) (hf : ∀ a, kb (f a) = key a) (l : List α) (x : α) : (put key l x).map f = put kb (l.map f) (f x) := by
  induction l with
  | nil => rfl
  | cons q l ih =>
    rw [put, List.map_cons, put, hf, hf]
    split
    · rfl
    · split
      · rfl
      · rw [List.map_cons, ih]
theorem map_at {β : Type} {kb : β → Int} (f : α → β) (hf : ∀ a, kb (f a) = key a) (l : List α) (k : Int) : atX kb (l.map f) k = (atX key l k).map f := by
  induction l with
  | nil => rfl
  | cons q l ih =>
    rw [List.map_cons, atX, atX, hf]
    split
    · rfl
    · exact ih
theorem map_srt {β : Type} {kb : β → Int} (f : α → β) (hf : ∀ a, kb (f a) = key a) {l : List α} (h : Srt key l) : Srt kb (l.map f) := by
  unfold Srt
  rw [List.pairwise_map]
  exact List.Pairwise.imp (fun {a b} h => by rw [hf, hf]; exact h) h

variable (key) (val : α → Value)
/-- How a value reads: as itself. -/
def vE (v : Value) : Option (DataW Value × List MemPlace) := some (.held v, [])
theorem vE_mk (v : Value) : vE v = some (.held v, []) := rfl
theorem vE_is {v u : Value} {ps : List MemPlace} (h : vE v = some (.held u, ps)) : v = u := by
  simp only [vE, Option.some.injEq, Prod.mk.injEq, DataW.held.injEq] at h
  exact h.1
def kL (k : Int) : Lit := .int .i64 k
def eD (p : α) : Lit × DataW Value := (kL (key p), .held (val p))
def Dm (l : List α) : DataW Value := .map (l.map (eD key val))
theorem kL_inj {a b : Int} (h : kL a = kL b) : a = b := by simpa only [kL, Lit.int.injEq, true_and] using h
theorem kL_key (a : Int) : WideAt.IsKeyLit (kL a) := trivial
theorem kL_same (a b : Int) : (kL a).sameKey (kL b) = decide (a = b) := by
  by_cases h : a = b
  · subst h; rw [WideAt.sameKey_self (kL_key a)]; simp
  · rw [sameKey_ne (fun e => h (kL_inj e))]; simp [h]
theorem kL_before (a b : Int) : (kL a).before (kL b) = decide (a < b) := by
  simp only [kL, Lit.before]
variable {key val}
theorem insert_put (l : List α) (hs : Srt key l) (x : α) : putKey (kL (key x)) (.held (val x)) (l.map (eD key val)) = (put key l x).map (eD key val) := by
  unfold putKey
  induction l with
  | nil => simp [put, DataW.insert, eD]
  | cons q l ih =>
    obtain ⟨h1, h2⟩ := List.pairwise_cons.1 hs
    have e1 : notKey (kL (key x)) (eD key val q) = !decide (key q = key x) := by simp only [notKey, eD, kL_same]
    have hall : ∀ (hle : key x ≤ key q), (l.map (eD key val)).filter (notKey (kL (key x))) = l.map (eD key val) := fun hle => by
      refine List.filter_eq_self.2 (fun p hp => ?_)
      obtain ⟨u, hu, rfl⟩ := List.mem_map.1 hp
      have := h1 u hu
      simp only [notKey, eD, kL_same]
      simp; omega
    rw [List.map_cons, List.filter_cons, e1, put]
    by_cases ha : key x = key q
    · rw [if_neg (by simp [ha]), if_neg (by omega), if_pos ha, hall (by omega)]
      cases l with
      | nil => rfl
      | cons p l =>
        have := h1 p (by simp)
        simp only [List.map_cons, DataW.insert, eD, kL_before]
        rw [if_pos (by simp; omega)]
    · rw [if_pos (by simp; omega)]
      by_cases hk : key x < key q
      · rw [if_pos hk, hall (by omega)]
        simp only [DataW.insert, eD, kL_before, List.map_cons]
        rw [if_pos (by simpa using hk)]
      · rw [if_neg hk, if_neg ha]
        simp only [DataW.insert, eD, kL_before]
        rw [if_neg (by simpa using hk)]
        simp only [List.map_cons, eD]
        rw [← ih h2]
theorem Dm_put {l : List α} (hs : Srt key l) (x : α) : (Dm key val l).put (kL (key x)) (.held (val x)) = Dm key val (put key l x) := by
  unfold Dm; rw [DataW.put_eq, insert_put l hs]
theorem Dm_has (l : List α) (k : Int) : Maps.has (Dm key val l) (kL k) = (atX key l k).isSome := by
  unfold Dm
  rw [Maps.has_eq]
  induction l with
  | nil => simp [atX]
  | cons q l ih =>
    rw [List.map_cons, List.any_cons, ih, atX]
    simp only [eD, kL_same]
    by_cases h : key q = k <;> simp [h]
theorem Dm_at (l : List α) (k : Int) (z : DataW Value) : (Dm key val l).atKey (kL k) z = match atX key l k with | none => z | some v => .held (val v) := by
  unfold Dm
  induction l with
  | nil => simp [atX, DataW.atKey]
  | cons q l ih =>
    simp only [DataW.atKey, List.map_cons, List.find?_cons] at ih ⊢
    simp only [eD, kL_same, atX]
    by_cases h : key q = k
    · simp [h]
    · simp only [h, decide_false, if_false]
      exact ih
theorem Dm_size (l : List α) : Maps.size (Dm key val l) = l.length := by unfold Dm; rw [Maps.size_eq]; simp
variable (P : Program) (tk : TypeId) (key) (val)
/-- Block b is a map that has this. -/
def Mw (w : World) (b : Nat) (l : List α) : Prop := w.ownsMap P tk vE b l.length (Dm key val l)
variable {P} {tk} {key} {val}
theorem hkey (hu : P.underlying tk = some (.int .i64)) {k : Int} (h : (Lit.int .i64 k).wf = true) : keyOf P tk (.int .i64 k) = some (kL k) := keyOf_int_mk hu h
theorem tight {w : World} {b n : Nat} {l : List α} (h : w.ownsMap P tk vE b n (Dm key val l)) : Mw key val P tk w b l := by
  obtain ⟨es, clock, hb, F, hs, hD⟩ := h
  have h1 := congrArg Maps.size hD
  rw [Dm_size] at h1
  simp only [Maps.size, Go.length_sorted, List.length_map, Array.length_toList] at h1
  exact ⟨es, clock, hb, F, by omega, hD⟩
theorem Mw.fr {w w' : World} {Q : Nat → Prop} {b : Nat} {l : List α} (h : Mw key val P tk w b l) (hf : Fr Q w w') (hq : ¬ Q b) : Mw key val P tk w' b l := by
  have hlt := h.lt
  obtain ⟨es, clock, hb, r⟩ := h
  exact ⟨es, clock, (hf.heap hlt hq).trans hb, r⟩
theorem Mw.below {w w' : World} {b : Nat} {l : List α} (h : Mw key val P tk w b l) (hb : Below w.heap.size w w') : Mw key val P tk w' b l := h.fr (Q := fun _ => False) (Fr.ofBelow hb) (fun x => x)
theorem Mw.made (w : World) : Mw key val P tk (w.alloc (.map #[] 0)) w.heap.size [] := World.ownsMap_made w _ _ _
/-- A map's block has no cells. -/
theorem Mw.cell {w : World} {b : Nat} {l : List α} (h : Mw key val P tk w b l) {a : Addr} {v : Value} (hc : w.cell? a = some v) : a.block ≠ b := by
  obtain ⟨es, clock, hb, r⟩ := h
  rintro rfl
  simp only [World.cell?, hb] at hc
  cases hc
theorem Mw.len {tm te : TypeId} (hm : P.underlying tm = some (.map tk te)) {w : World} {b : Nat} {l : List α} (h : Mw key val P tk w b l) (ty : TypeId) : (Builtin.len_ #[tm] ty #[.map (some b)]).run P w = .ok (.int .i64 (l.length : Int)) w := by
  have h1 := World.ownsMap.len h hm ty
  rw [Dm_size] at h1
  exact h1
theorem fr_turned {w w' : World} {b : Nat} (h : w.mapTurned w' b) : Fr (fun k => k = b) w w' := by
  have h := h.grown
  exact ⟨h.os, h.tape, h.output, h.size, fun k hk hn => h.block k hk (fun e => hn (Option.some.inj e))⟩
/-- 'x, has := m[k]'. -/
theorem look2 (hu : P.underlying tk = some (.int .i64)) {tm te : TypeId} (hm : P.underlying tm = some (.map tk te)) {z : Value} {W : World} (hz : (zeroValue te).run P W = .ok z W) {b : Nat} {l : List α} (h : Mw key val P tk W b l) {k : Int} (hk : (Lit.int .i64 k).wf = true) :
    (Instr.lookup tm (.map (some b)) (.int .i64 k) true).run P W = .ok (.tuple #[match atX key l k with | none => z | some v => val v, .bool (atX key l k).isSome]) W := by
  obtain ⟨v, ps, hrun, hv⟩ := World.ownsMap.look_ok h (int_keyed hu) hm hz (vE_mk _) (hkey hu hk)
  rw [Dm_at] at hv
  rw [Dm_has] at hrun
  cases ha : atX key l k with
  | none => rw [ha] at hv hrun; rw [hrun, vE_is hv]
  | some u => rw [ha] at hv hrun; rw [hrun, vE_is hv]
/-- 'm[k]'. -/
theorem look1 (hu : P.underlying tk = some (.int .i64)) {tm te : TypeId} (hm : P.underlying tm = some (.map tk te)) {z : Value} {W : World} (hz : (zeroValue te).run P W = .ok z W) {b : Nat} {l : List α} (h : Mw key val P tk W b l) {k : Int} (hk : (Lit.int .i64 k).wf = true) :
    (Instr.lookup tm (.map (some b)) (.int .i64 k) false).run P W = .ok (match atX key l k with | none => z | some v => val v) W := by
  obtain ⟨v, ps, hrun, hv⟩ := World.ownsMap.lookup h (int_keyed hu) hm hz (vE_mk _) (hkey hu hk)
  rw [Dm_at] at hv
  cases ha : atX key l k with
  | none => rw [ha] at hv; rw [hrun, vE_is hv]
  | some u => rw [ha] at hv; rw [hrun, vE_is hv]
/-- 'm[k] = x'. -/
theorem store1 (hu : P.underlying tk = some (.int .i64)) {tm te : TypeId} (hm : P.underlying tm = some (.map tk te)) {W : World} {b : Nat} {l : List α} (h : Mw key val P tk W b l) (hs : Srt key l) (hl : l.length ≤ 1000000000) (x : α) (hk : (Lit.int .i64 (key x)).wf = true) :
    ∃ W', (Instr.mapUpdate tm (.map (some b)) (.int .i64 (key x)) (val x)).run P W = .ok () W' ∧ Mw key val P tk W' b (put key l x) ∧ Fr (fun k => k = b) W W' := by
  obtain ⟨w5, hrun, hown5, hturn⟩ := World.ownsMap.store h (int_keyed hu) hm (by unfold maxLen; omega) (hkey hu hk) (vE_mk (val x))
  rw [Dm_put hs] at hown5
  exact ⟨w5, hrun, tight hown5, fr_turned hturn⟩
end

/-- A map from numbers to numbers: what it has, at most n entries. -/
def Mc (w : World) (b n : Nat) (c : Int → Int) : Prop := ∃ l : List (Int × Int), Mw Prod.fst (fun x : Int × Int => Value.int .i64 x.2) Try.prog 3 w b l ∧ Srt Prod.fst l ∧ l.length ≤ n ∧ ∀ k, c k = match atX Prod.fst l k with | none => 0 | some x => x.2
theorem zeroI (w : World) : (zeroValue 3).run Try.prog w = .ok (.int .i64 0) w := by kernel_rfl
theorem Mc.made (w : World) : Mc (w.alloc (.map #[] 0)) w.heap.size 0 (fun _ => 0) := ⟨[], Mw.made w, List.Pairwise.nil, by simp, fun k => rfl⟩
theorem Mc.fr {w w' : World} {Q : Nat → Prop} {b n : Nat} {c : Int → Int} (h : Mc w b n c) (hf : Fr Q w w') (hq : ¬ Q b) : Mc w' b n c := by
  obtain ⟨l, h1, h2⟩ := h
  exact ⟨l, h1.fr hf hq, h2⟩
theorem Mc.below {w w' : World} {b n : Nat} {c : Int → Int} (h : Mc w b n c) (hb : Below w.heap.size w w') : Mc w' b n c := h.fr (Q := fun _ => False) (Fr.ofBelow hb) (fun x => x)
theorem Mc.lt {w : World} {b n : Nat} {c : Int → Int} (h : Mc w b n c) : b < w.heap.size := by
  obtain ⟨l, h1, h2⟩ := h
  exact h1.lt
/-- A block of cells is not a map's. -/
theorem Mc.ne {w : World} {b n o : Nat} {c : Int → Int} {cs : Array Value} {t : TypeId} (h : Mc w b n c) (ho : w.heap[o]? = some (.cells cs t (0, 0))) : o ≠ b := by
  obtain ⟨l, ⟨es, clock, hb, r⟩, -⟩ := h
  rintro rfl
  rw [hb] at ho
  cases ho
theorem Mc.look {w : World} {b n : Nat} {c : Int → Int} (h : Mc w b n c) {k : Int} (hk : (Lit.int .i64 k).wf = true) : (Instr.lookup 51 (.map (some b)) (.int .i64 k) false).run Try.prog w = .ok (.int .i64 (c k)) w := by
  obtain ⟨l, h1, h2, h3, h4⟩ := h
  have := look1 Try.underlying3 Try.underlying51 (zeroI w) h1 hk
  rw [this, h4 k]
  cases atX Prod.fst l k <;> rfl
theorem Mc.store {w : World} {b n : Nat} {c : Int → Int} (h : Mc w b n c) (hn : n ≤ 1000000000) (k v : Int) (hk : (Lit.int .i64 k).wf = true) : ∃ w', (Instr.mapUpdate 51 (.map (some b)) (.int .i64 k) (.int .i64 v)).run Try.prog w = .ok () w' ∧ Mc w' b (n + 1) (fun x => if x = k then v else c x) ∧ Fr (fun q => q = b) w w' := by
  obtain ⟨l, h1, h2, h3, h4⟩ := h
  obtain ⟨w', g1, g2, g3⟩ := store1 Try.underlying3 Try.underlying51 h1 h2 (by omega) (k, v) hk
  refine ⟨w', g1, ⟨_, g2, srt_put h2 _, Nat.le_trans (len_put_le _ _) (by omega), fun x => ?_⟩, g3⟩
  rw [at_put]
  by_cases hx : x = k
  · subst hx; simp
  · show (if x = k then v else c x) = _
    rw [if_neg hx, if_neg (fun e => hx e.symm), h4 x]
end Go.Proofs.Ytabckkepkennhaa.Nm
