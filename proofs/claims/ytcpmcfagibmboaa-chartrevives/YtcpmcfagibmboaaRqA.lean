/-
  NtM ChMp ChCp ChLd2, joined by mrg.py.
-/
import Derived.Test.YtcpmcfagibmboaaKit2
import Derived.Test.YtcpmcfagibmboaaGpF
import Derived.Maps.RangeWalk
import Derived.Maps.Ext
import Derived.Test.YtcpmcfagibmboaaChLd
import Derived.Test.YtcpmcfagibmboaaChLc
import Derived.Sort.QuietIn
import Derived.Deep.QuietTactic

namespace Go.Proofs.Ytcpmcfagibmboaa.Nm
open Go.RowKit Kt Gf Go.Maps Go.ChangeMaps
set_option linter.unusedVariables false
set_option linter.unusedSectionVars false
set_option maxRecDepth 20000

section
variable {α : Type} (key : α → Int)
def put : List α → α → List α
  | [], x => [x]
  | y :: l, x => if key x < key y then x :: y :: l else if key x = key y then x :: l else y :: put l x
def atX : List α → Int → Option α
  | [], _ => none
  | y :: l, k => if key y = k then some y else atX l k
def Srt (l : List α) : Prop := l.Pairwise (fun p q => key p < key q)
variable {key}
theorem atX_mem {l : List α} {k : Int} {o : α} (h : atX key l k = some o) : o ∈ l ∧ key o = k := by
  induction l with
  | nil => cases h
  | cons y l ih =>
    rw [atX] at h
    split at h
    · rename_i he
      cases h
      exact ⟨by simp, he⟩
    · obtain ⟨h1, h2⟩ := ih h
      exact ⟨by simp [h1], h2⟩
theorem mem_at {l : List α} (hs : Srt key l) {x : α} (h : x ∈ l) : atX key l (key x) = some x := by
  induction l with
  | nil => cases h
  | cons y l ih =>
    obtain ⟨h1, h2⟩ := List.pairwise_cons.1 hs
    rw [atX]
    rcases List.mem_cons.1 h with rfl | h
    · rw [if_pos rfl]
    · rw [if_neg (by have := h1 x h; omega)]
      exact ih h2 h
theorem mem_put {l : List α} {x y : α} (h : y ∈ put key l x) : y = x ∨ y ∈ l := by
  induction l with
  | nil => simp [put] at h; exact .inl h
  | cons q l ih =>
    rw [put] at h
    split at h
    · rcases List.mem_cons.1 h with h | h
      · exact .inl h
      · exact .inr h
    · split at h
      · rcases List.mem_cons.1 h with h | h
        · exact .inl h
        · exact .inr (by simp [h])
      · rcases List.mem_cons.1 h with h | h
        · exact .inr (by simp [h])
        · rcases ih h with h | h
          · exact .inl h
          · exact .inr (by simp [h])
theorem srt_put {l : List α} (hs : Srt key l) (x : α) : Srt key (put key l x) := by
  induction l with
  | nil => simp [put, Srt]
  | cons q l ih =>
    obtain ⟨h1, h2⟩ := List.pairwise_cons.1 hs
    rw [put]
    split
    · rename_i h
      refine List.pairwise_cons.2 ⟨fun p hp => ?_, hs⟩
      rcases List.mem_cons.1 hp with rfl | hp
      · exact h
      · have := h1 p hp; omega
    · split
      · rename_i h3 h4
        exact List.pairwise_cons.2 ⟨fun p hp => by have := h1 p hp; omega, h2⟩
      · rename_i h3 h4
        refine List.pairwise_cons.2 ⟨fun p hp => ?_, ih h2⟩
        rcases mem_put hp with rfl | hp
        · omega
        · exact h1 p hp
theorem at_put {l : List α} (x : α) (k : Int) : atX key (put key l x) k = if key x = k then some x else atX key l k := by
  induction l with
  | nil => simp [put, atX]
  | cons q l ih =>
    rw [put]
    split
    · rw [atX]
    · split
      · rename_i h3 h4
        rw [atX, atX]
        by_cases hk : key x = k
        · rw [if_pos hk, if_pos hk]
        · rw [if_neg hk, if_neg hk, if_neg (by omega)]
      · rename_i h3 h4
        rw [atX, ih, atX]
        by_cases hk : key x = k
        · rw [if_neg (by omega), if_pos hk, if_pos hk]
        · rw [if_neg hk, if_neg hk]
theorem at_lt {l : List α} {k : Int} (h : ∀ p ∈ l, k < key p) : atX key l k = none := by
  induction l with
  | nil => rfl
  | cons q l ih => rw [atX, if_neg (by have := h q (by simp); omega)]; exact ih (fun p hp => h p (by simp [hp]))
theorem len_put {l : List α} (hs : Srt key l) (x : α) : (put key l x).length = if (atX key l (key x)).isSome then l.length else l.length + 1 := by
  induction l with
  | nil => simp [put, atX]
  | cons q l ih =>
    obtain ⟨h1, h2⟩ := List.pairwise_cons.1 hs
    rw [put, atX]
    split
    · rename_i h
      rw [if_neg (by omega : ¬ key q = key x), at_lt (fun p hp => by have := h1 p hp; omega)]
      simp
    · split
      · rename_i h3 h4
        rw [if_pos h4.symm]
        simp
      · rename_i h3 h4
        have e : (if key q = key x then some q else atX key l (key x)) = atX key l (key x) := if_neg (fun e => h4 e.symm)
        rw [e, List.length_cons, ih h2]
        split <;> simp
theorem len_put_le (l : List α) (x : α) : (put key l x).length ≤ l.length + 1 := by
  induction l with
  | nil => simp [put]
  | cons q l ih =>
    rw [put]
    split
    · simp
    · split
      · simp
      · simp only [List.length_cons]; omega
theorem map_put {β : Type} {kb : β → Int} (f : α → β) (hf : ∀ a, kb (f a) = key a) (l : List α) (x : α) : (put key l x).map f = put kb (l.map f) (f x) := by
  induction l with
  | nil => rfl
  | cons q l ih =>
    rw [put, List.map_cons, put, hf, hf]
    split
    · rfl
    · split
      · rfl
      · rw [List.map_cons, ih]
theorem map_at {β : Type} {kb : β → Int} (f : α → β) (hf : ∀ a, kb (f a) = key a) (l : List α) (k : Int) : atX kb (l.map f) k = (atX key l k).map f := by
  induction l with
  | nil => rfl
  | cons q l ih =>
    rw [List.map_cons, atX, atX, hf]
    split
    · rfl
    · exact ih
theorem map_srt {β : Type} {kb : β → Int} (f : α → β) (hf : ∀ a, kb (f a) = key a) {l : List α} (h : Srt key l) : Srt kb (l.map f) := by
  unfold Srt
  rw [List.pairwise_map]
  exact List.Pairwise.imp (fun {a b} h => by rw [hf, hf]; exact h) h

variable (key) (val : α → Value)
/-- How a value reads: as itself. -/
def vE (v : Value) : Option (DataW Value × List MemPlace) := some (.held v, [])
theorem vE_mk (v : Value) : vE v = some (.held v, []) := rfl
theorem vE_is {v u : Value} {ps : List MemPlace} (h : vE v = some (.held u, ps)) : v = u := by
  simp only [vE, Option.some.injEq, Prod.mk.injEq, DataW.held.injEq] at h
  exact h.1
def kL (k : Int) : Lit := .int .i64 k
def eD (p : α) : Lit × DataW Value := (kL (key p), .held (val p))
def Dm (l : List α) : DataW Value := .map (l.map (eD key val))
theorem kL_inj {a b : Int} (h : kL a = kL b) : a = b := by simpa only [kL, Lit.int.injEq, true_and] using h
theorem kL_key (a : Int) : WideAt.IsKeyLit (kL a) := trivial
theorem kL_same (a b : Int) : (kL a).sameKey (kL b) = decide (a = b) := by
  by_cases h : a = b
  · subst h; rw [WideAt.sameKey_self (kL_key a)]; simp
  · rw [sameKey_ne (fun e => h (kL_inj e))]; simp [h]
theorem kL_before (a b : Int) : (kL a).before (kL b) = decide (a < b) := by
  simp only [kL, Lit.before]
variable {key val}
theorem insert_put (l : List α) (hs : Srt key l) (x : α) : putKey (kL (key x)) (.held (val x)) (l.map (eD key val)) = (put key l x).map (eD key val) := by
  unfold putKey
  induction l with
  | nil => simp [put, DataW.insert, eD]
  | cons q l ih =>
    obtain ⟨h1, h2⟩ := List.pairwise_cons.1 hs
    have e1 : notKey (kL (key x)) (eD key val q) = !decide (key q = key x) := by simp only [notKey, eD, kL_same]
    have hall : ∀ (hle : key x ≤ key q), (l.map (eD key val)).filter (notKey (kL (key x))) = l.map (eD key val) := fun hle => by
      refine List.filter_eq_self.2 (fun p hp => ?_)
      obtain ⟨u, hu, rfl⟩ := List.mem_map.1 hp
      have := h1 u hu
      simp only [notKey, eD, kL_same]
      simp; omega
    rw [List.map_cons, List.filter_cons, e1, put]
    by_cases ha : key x = key q
    · rw [if_neg (by simp [ha]), if_neg (by omega), if_pos ha, hall (by omega)]
      cases l with
      | nil => rfl
      | cons p l =>
        have := h1 p (by simp)
        simp only [List.map_cons, DataW.insert, eD, kL_before]
        rw [if_pos (by simp; omega)]
    · rw [if_pos (by simp; omega)]
      by_cases hk : key x < key q
      · rw [if_pos hk, hall (by omega)]
        simp only [DataW.insert, eD, kL_before, List.map_cons]
        rw [if_pos (by simpa using hk)]
      · rw [if_neg hk, if_neg ha]
        simp only [DataW.insert, eD, kL_before]
        rw [if_neg (by simpa using hk)]
        simp only [List.map_cons, eD]
        rw [← ih h2]
theorem Dm_put {l : List α} (hs : Srt key l) (x : α) : (Dm key val l).put (kL (key x)) (.held (val x)) = Dm key val (put key l x) := by
  unfold Dm; rw [DataW.put_eq, insert_put l hs]
theorem Dm_has (l : List α) (k : Int) : Maps.has (Dm key val l) (kL k) = (atX key l k).isSome := by
  unfold Dm
  rw [Maps.has_eq]
  induction l with
  | nil => simp [atX]
  | cons q l ih =>
    rw [List.map_cons, List.any_cons, ih, atX]
    simp only [eD, kL_same]
    by_cases h : key q = k <;> simp [h]
theorem Dm_at (l : List α) (k : Int) (z : DataW Value) : (Dm key val l).atKey (kL k) z = match atX key l k with | none => z | some v => .held (val v) := by
  unfold Dm
  induction l with
  | nil => simp [atX, DataW.atKey]
  | cons q l ih =>
    simp only [DataW.atKey, List.map_cons, List.find?_cons] at ih ⊢
    simp only [eD, kL_same, atX]
    by_cases h : key q = k
    · simp [h]
    · simp only [h, decide_false, if_false]
      exact ih
theorem Dm_size (l : List α) : Maps.size (Dm key val l) = l.length := by unfold Dm; rw [Maps.size_eq]; simp
variable (P : Program) (tk : TypeId) (key) (val)
/-- Block b is a map that has this. -/
def Mw (w : World) (b : Nat) (l : List α) : Prop := w.ownsMap P tk vE b l.length (Dm key val l)
variable {P} {tk} {key} {val}
theorem hkey (hu : P.underlying tk = some (.int .i64)) {k : Int} (h : (Lit.int .i64 k).wf = true) : keyOf P tk (.int .i64 k) = some (kL k) := keyOf_int_mk hu h
theorem tight {w : World} {b n : Nat} {l : List α} (h : w.ownsMap P tk vE b n (Dm key val l)) : Mw key val P tk w b l := by
  obtain ⟨es, clock, hb, F, hs, hD⟩ := h
  have h1 := congrArg Maps.size hD
  rw [Dm_size] at h1
  simp only [Maps.size, Go.length_sorted, List.length_map, Array.length_toList] at h1
  exact ⟨es, clock, hb, F, by omega, hD⟩
theorem Mw.fr {w w' : World} {Q : Nat → Prop} {b : Nat} {l : List α} (h : Mw key val P tk w b l) (hf : Fr Q w w') (hq : ¬ Q b) : Mw key val P tk w' b l := by
  have hlt := h.lt
  obtain ⟨es, clock, hb, r⟩ := h
  exact ⟨es, clock, (hf.heap hlt hq).trans hb, r⟩
theorem Mw.below {w w' : World} {b : Nat} {l : List α} (h : Mw key val P tk w b l) (hb : Below w.heap.size w w') : Mw key val P tk w' b l := h.fr (Q := fun _ => False) (Fr.ofBelow hb) (fun x => x)
theorem Mw.made (w : World) : Mw key val P tk (w.alloc (.map #[] 0)) w.heap.size [] := World.ownsMap_made w _ _ _
/-- A map's block has no cells. -/
theorem Mw.cell {w : World} {b : Nat} {l : List α} (h : Mw key val P tk w b l) {a : Addr} {v : Value} (hc : w.cell? a = some v) : a.block ≠ b := by
  obtain ⟨es, clock, hb, r⟩ := h
  rintro rfl
  simp only [World.cell?, hb] at hc
  cases hc
theorem Mw.len {tm te : TypeId} (hm : P.underlying tm = some (.map tk te)) {w : World} {b : Nat} {l : List α} (h : Mw key val P tk w b l) (ty : TypeId) : (Builtin.len_ #[tm] ty #[.map (some b)]).run P w = .ok (.int .i64 (l.length : Int)) w := by
  have h1 := World.ownsMap.len h hm ty
  rw [Dm_size] at h1
  exact h1
theorem fr_turned {w w' : World} {b : Nat} (h : w.mapTurned w' b) : Fr (fun k => k = b) w w' := by
  have h := h.grown
  exact ⟨h.os, h.tape, h.output, h.size, fun k hk hn => h.block k hk (fun e => hn (Option.some.inj e))⟩
/-- 'x, has := m[k]'. -/
theorem look2 (hu : P.underlying tk = some (.int .i64)) {tm te : TypeId} (hm : P.underlying tm = some (.map tk te)) {z : Value} {W : World} (hz : (zeroValue te).run P W = .ok z W) {b : Nat} {l : List α} (h : Mw key val P tk W b l) {k : Int} (hk : (Lit.int .i64 k).wf = true) :
    (Instr.lookup tm (.map (some b)) (.int .i64 k) true).run P W = .ok (.tuple #[match atX key l k with | none => z | some v => val v, .bool (atX key l k).isSome]) W := by
  obtain ⟨v, ps, hrun, hv⟩ := World.ownsMap.look_ok h (int_keyed hu) hm hz (vE_mk _) (hkey hu hk)
  rw [Dm_at] at hv
  rw [Dm_has] at hrun
  cases ha : atX key l k with
  | none => rw [ha] at hv hrun; rw [hrun, vE_is hv]
  | some u => rw [ha] at hv hrun; rw [hrun, vE_is hv]
/-- 'm[k]'. -/
theorem look1 (hu : P.underlying tk = some (.int .i64)) {tm te : TypeId} (hm : P.underlying tm = some (.map tk te)) {z : Value} {W : World} (hz : (zeroValue te).run P W = .ok z W) {b : Nat} {l : List α} (h : Mw key val P tk W b l) {k : Int} (hk : (Lit.int .i64 k).wf = true) :
    (Instr.lookup tm (.map (some b)) (.int .i64 k) false).run P W = .ok (match atX key l k with | none => z | some v => val v) W := by
  obtain ⟨v, ps, hrun, hv⟩ := World.ownsMap.lookup h (int_keyed hu) hm hz (vE_mk _) (hkey hu hk)
  rw [Dm_at] at hv
  cases ha : atX key l k with
  | none => rw [ha] at hv; rw [hrun, vE_is hv]
  | some u => rw [ha] at hv; rw [hrun, vE_is hv]
/-- 'm[k] = x'. -/
theorem store1 (hu : P.underlying tk = some (.int .i64)) {tm te : TypeId} (hm : P.underlying tm = some (.map tk te)) {W : World} {b : Nat} {l : List α} (h : Mw key val P tk W b l) (hs : Srt key l) (hl : l.length ≤ 1000000000) (x : α) (hk : (Lit.int .i64 (key x)).wf = true) :
    ∃ W', (Instr.mapUpdate tm (.map (some b)) (.int .i64 (key x)) (val x)).run P W = .ok () W' ∧ Mw key val P tk W' b (put key l x) ∧ Fr (fun k => k = b) W W' := by
  obtain ⟨w5, hrun, hown5, hturn⟩ := World.ownsMap.store h (int_keyed hu) hm (by unfold maxLen; omega) (hkey hu hk) (vE_mk (val x))
  rw [Dm_put hs] at hown5
  exact ⟨w5, hrun, tight hown5, fr_turned hturn⟩
end

/-- A map from numbers to numbers: what it has, at most n entries. -/
def Mc (w : World) (b n : Nat) (c : Int → Int) : Prop := ∃ l : List (Int × Int), Mw Prod.fst (fun x : Int × Int => Value.int .i64 x.2) Try.prog 3 w b l ∧ Srt Prod.fst l ∧ l.length ≤ n ∧ ∀ k, c k = match atX Prod.fst l k with | none => 0 | some x => x.2
theorem zeroI (w : World) : (zeroValue 3).run Try.prog w = .ok (.int .i64 0) w := by kernel_rfl
theorem Mc.made (w : World) : Mc (w.alloc (.map #[] 0)) w.heap.size 0 (fun _ => 0) := ⟨[], Mw.made w, List.Pairwise.nil, by simp, fun k => rfl⟩
theorem Mc.fr {w w' : World} {Q : Nat → Prop} {b n : Nat} {c : Int → Int} (h : Mc w b n c) (hf : Fr Q w w') (hq : ¬ Q b) : Mc w' b n c := by
  obtain ⟨l, h1, h2⟩ := h
  exact ⟨l, h1.fr hf hq, h2⟩
theorem Mc.below {w w' : World} {b n : Nat} {c : Int → Int} (h : Mc w b n c) (hb : Below w.heap.size w w') : Mc w' b n c := h.fr (Q := fun _ => False) (Fr.ofBelow hb) (fun x => x)
theorem Mc.lt {w : World} {b n : Nat} {c : Int → Int} (h : Mc w b n c) : b < w.heap.size := by
  obtain ⟨l, h1, h2⟩ := h
  exact h1.lt
/-- A block of cells is not a map's. -/
theorem Mc.ne {w : World} {b n o : Nat} {c : Int → Int} {cs : Array Value} {t : TypeId} (h : Mc w b n c) (ho : w.heap[o]? = some (.cells cs t (0, 0))) : o ≠ b := by
  obtain ⟨l, ⟨es, clock, hb, r⟩, -⟩ := h
  rintro rfl
  rw [hb] at ho
  cases ho
theorem Mc.look {w : World} {b n : Nat} {c : Int → Int} (h : Mc w b n c) {k : Int} (hk : (Lit.int .i64 k).wf = true) : (Instr.lookup 86 (.map (some b)) (.int .i64 k) false).run Try.prog w = .ok (.int .i64 (c k)) w := by
  obtain ⟨l, h1, h2, h3, h4⟩ := h
  have := look1 Try.underlying3 Try.underlying86 (zeroI w) h1 hk
  rw [this, h4 k]
  cases atX Prod.fst l k <;> rfl
theorem Mc.store {w : World} {b n : Nat} {c : Int → Int} (h : Mc w b n c) (hn : n ≤ 1000000000) (k v : Int) (hk : (Lit.int .i64 k).wf = true) : ∃ w', (Instr.mapUpdate 86 (.map (some b)) (.int .i64 k) (.int .i64 v)).run Try.prog w = .ok () w' ∧ Mc w' b (n + 1) (fun x => if x = k then v else c x) ∧ Fr (fun q => q = b) w w' := by
  obtain ⟨l, h1, h2, h3, h4⟩ := h
  obtain ⟨w', g1, g2, g3⟩ := store1 Try.underlying3 Try.underlying86 h1 h2 (by omega) (k, v) hk
  refine ⟨w', g1, ⟨_, g2, srt_put h2 _, Nat.le_trans (len_put_le _ _) (by omega), fun x => ?_⟩, g3⟩
  rw [at_put]
  by_cases hx : x = k
  · subst hx; simp
  · show (if x = k then v else c x) = _
    rw [if_neg hx, if_neg (fun e => hx e.symm), h4 x]
end Go.Proofs.Ytcpmcfagibmboaa.Nm

namespace Go.Proofs.Ytcpmcfagibmboaa.Mp
open Go.RowKit
open Go.Proofs.Ytcpmcfagibmboaa.Nm
set_option linter.unusedVariables false
set_option linter.unusedSimpArgs false

/-- A client and its greatest number. -/
abbrev Dd := Int × Int
abbrev kD (x : Dd) : Int := x.1
def lastN (l : List Dd) (c : Int) : Int := match atX kD l c with | some x => x.2 | none => 0
/-- A move that was done is noted. -/
def noteN (l : List Dd) (c n : Int) : List Dd := if c < 1 ∨ n < 1 ∨ (lastN l c = 0 ∧ 64 ≤ l.length) then l else put kD l (c, n)
def okD (l : List Dd) : Prop := Srt kD l ∧ (∀ x ∈ l, 1 ≤ x.1 ∧ 1 ≤ x.2) ∧ l.length ≤ 64
theorem okD_nil : okD [] := ⟨List.Pairwise.nil, by simp, by simp⟩
theorem lastN_zero {l : List Dd} (h : okD l) (c : Int) : lastN l c = 0 ↔ atX kD l c = none := by
  unfold lastN
  cases hx : atX kD l c with
  | none => simp
  | some x =>
    have := h.2.1 x (atX_mem hx).1
    simp; omega
theorem noteN_ok {l : List Dd} (h : okD l) (c n : Int) : okD (noteN l c n) := by
  unfold noteN
  split
  · exact h
  · rename_i hc
    refine ⟨srt_put h.1 _, fun x hx => ?_, ?_⟩
    · rcases mem_put hx with rfl | hx
      · simp only; omega
      · exact h.2.1 x hx
    · rw [len_put h.1]
      have h3 := h.2.2
      split
      · exact h3
      · rename_i h4
        have : lastN l c = 0 := (lastN_zero h c).2 (by simpa using h4)
        omega
def notes (L : List Dd) (a : List Dd) : List Dd := L.foldl (fun a x => noteN a x.1 x.2) a
theorem notes_ok (L : List Dd) : ∀ a, okD a → okD (notes L a) := by
  induction L with
  | nil => intro a h; exact h
  | cons x L ih => intro a h; exact ih _ (noteN_ok h _ _)
theorem put_last : ∀ (l : List Dd) (x : Dd), (∀ y ∈ l, y.1 < x.1) → put kD l x = l ++ [x]
  | [], x, _ => rfl
  | y :: l, x, h => by
    have h1 := h y (by simp)
    rw [put, if_neg (by show ¬ x.1 < y.1; omega), if_neg (by show ¬ x.1 = y.1; omega), put_last l x (fun z hz => h z (by simp [hz]))]
    rfl
theorem notes_app : ∀ (L a : List Dd), okD (a ++ L) → notes L a = a ++ L
  | [], a, _ => by simp [notes]
  | x :: L, a, h => by
    have hx := h.2.1 x (by simp)
    have hlen := h.2.2
    rw [List.length_append, List.length_cons] at hlen
    have hlt : ∀ y ∈ a, y.1 < x.1 := fun y hy => (List.pairwise_append.1 h.1).2.2 y hy x (by simp)
    have hnone : atX kD a x.1 = none := by
      cases hq : atX kD a x.1 with
      | none => rfl
      | some y => obtain ⟨h1, h2⟩ := atX_mem hq; have := hlt y h1; have : y.1 = x.1 := h2; omega
    have e : noteN a x.1 x.2 = a ++ [x] := by
      unfold noteN
      rw [if_neg (by omega)]
      exact put_last a x hlt
    show notes L (noteN a x.1 x.2) = _
    rw [e, notes_app L (a ++ [x]) (by simpa using h)]
    simp
theorem notes_iff (L : List Dd) : notes L [] = L ↔ okD L := ⟨fun h => by have := notes_ok L [] okD_nil; rwa [h] at this, fun h => by simpa using notes_app L [] (by simpa using h)⟩

def n2 (x : Dd) : List Int := [x.1, x.2]
def prs : List Int → List Dd
  | a :: b :: r => (a, b) :: prs r
  | _ => []
theorem prs_flat : ∀ (l : List Dd), prs (l.flatMap n2) = l
  | [] => rfl
  | p :: l => by obtain ⟨a, b⟩ := p; simp [n2, prs, prs_flat l]
theorem flat_prs : ∀ (R : List Int), R.length % 2 = 0 → (prs R).flatMap n2 = R
  | [], _ => rfl
  | [_], h => by simp at h
  | a :: b :: r, h => by
    have := flat_prs r (by simp at h; omega)
    simp [prs, n2] at this ⊢
    exact this
theorem prs_len : ∀ (R : List Int), (prs R).length = R.length / 2
  | [] => rfl
  | [_] => by simp [prs]
  | a :: b :: r => by
    have := prs_len r
    simp [prs]
    omega
theorem flat2_len : ∀ (l : List Dd), (l.flatMap n2).length = 2 * l.length
  | [] => rfl
  | x :: l => by simp only [List.flatMap_cons, List.length_append, flat2_len l, n2, List.length_cons, List.length_nil]; omega
theorem prs_snoc : ∀ (k : Nat) (R : List Int) (a b : Int), R[2 * k]? = some a → R[2 * k + 1]? = some b → prs (R.take (2 * (k + 1))) = prs (R.take (2 * k)) ++ [(a, b)]
  | 0, R, a, b, h1, h2 => by
    match R with
    | [] => simp at h1
    | [x] => simp at h2
    | x :: y :: r =>
      simp at h1 h2
      subst h1 h2
      simp [prs]
  | k + 1, R, a, b, h1, h2 => by
    match R with
    | [] => simp at h1
    | [x] => have := (List.getElem?_eq_some_iff.1 h1).1; simp at this
    | x :: y :: r =>
      have g1 : r[2 * k]? = some a := by rw [← h1, show 2 * (k + 1) = 2 * k + 1 + 1 by omega]; simp
      have g2 : r[2 * k + 1]? = some b := by rw [← h2, show 2 * (k + 1) + 1 = 2 * k + 1 + 1 + 1 by omega]; simp
      have := prs_snoc k r a b g1 g2
      rw [show 2 * (k + 1 + 1) = 2 * (k + 1) + 1 + 1 by omega, show (x :: y :: r).take (2 * (k + 1)) = x :: y :: r.take (2 * k) by rw [show 2 * (k + 1) = 2 * k + 1 + 1 by omega]; rfl]
      simp only [List.take_succ_cons, prs, List.cons_append]
      rw [this]
end Go.Proofs.Ytcpmcfagibmboaa.Mp

namespace Go.Proofs.Ytcpmcfagibmboaa.Cl
open Go.RowKit Pl Ct Cu La Mp Gf
open Go.Proofs.Ytcpmcfagibmboaa.Nm
set_option linter.unusedVariables false
set_option linter.unusedSimpArgs false

/-- A text is that of these clients. -/
def GoodD (bs : List UInt8) (D : List Dd) : Prop := Nums bs (D.flatMap n2) ∧ okD D
theorem GoodD.inj {bs : List UInt8} {D E : List Dd} (h : GoodD bs D) (g : GoodD bs E) : E = D := by
  have h1 := h.1.inj g.1
  have h2 := congrArg prs h1
  rwa [prs_flat, prs_flat] at h2
def okS (l : List Dd) : Prop := Srt kD l ∧ ∀ x ∈ l, 1 ≤ x.1 ∧ 1 ≤ x.2
def lastK : List Dd → Int
  | [] => 0
  | [x] => x.1
  | _ :: l => lastK l
theorem lastK_snoc : ∀ (l : List Dd) (x : Dd), lastK (l ++ [x]) = x.1
  | [], x => rfl
  | [y], x => rfl
  | y :: z :: l, x => by
    show lastK ((z :: l) ++ [x]) = _
    exact lastK_snoc (z :: l) x
theorem okS_le : ∀ (l : List Dd), Srt kD l → ∀ y ∈ l, y.1 ≤ lastK l
  | [x], _, y, hy => by
    have e : y = x := by simpa using hy
    rw [e]
    exact Int.le_refl _
  | x :: z :: l, h, y, hy => by
    obtain ⟨h1, h2⟩ := List.pairwise_cons.1 h
    show y.1 ≤ lastK (z :: l)
    have hz := okS_le (z :: l) h2 z (by simp)
    rcases List.mem_cons.1 hy with rfl | hy
    · have h3 : y.1 < z.1 := h1 z (by simp)
      omega
    · exact okS_le (z :: l) h2 y hy
theorem lastK_mem : ∀ (l : List Dd), l ≠ [] → ∃ y ∈ l, y.1 = lastK l
  | [], h => absurd rfl h
  | [x], _ => ⟨x, by simp, rfl⟩
  | x :: z :: l, _ => by
    obtain ⟨y, hy, e⟩ := lastK_mem (z :: l) (by simp)
    exact ⟨y, List.mem_cons_of_mem _ hy, e⟩
theorem lastK_nn {l : List Dd} (h : okS l) : 0 ≤ lastK l := by
  cases l with
  | nil => exact Int.le_refl _
  | cons x l =>
    obtain ⟨y, hy, e⟩ := lastK_mem (x :: l) (by simp)
    have := h.2 y hy
    omega
theorem okS_snoc {l : List Dd} (h : okS l) (x : Dd) : okS (l ++ [x]) ↔ lastK l < x.1 ∧ 1 ≤ x.2 := by
  constructor
  · rintro ⟨h1, h2⟩
    have hx := h2 x (by simp)
    refine ⟨?_, hx.2⟩
    cases l with
    | nil => show 0 < x.1; omega
    | cons y l =>
      obtain ⟨z, hz, e⟩ := lastK_mem (y :: l) (by simp)
      have : z.1 < x.1 := (List.pairwise_append.1 h1).2.2 z hz x (by simp)
      omega
  · rintro ⟨h1, h2⟩
    have h0 := lastK_nn h
    refine ⟨List.pairwise_append.2 ⟨h.1, List.pairwise_singleton _ _, fun y hy z hz => ?_⟩, fun y hy => ?_⟩
    · obtain rfl : z = x := by simpa using hz
      have := okS_le l h.1 y hy
      show y.1 < z.1
      omega
    · rcases List.mem_append.1 hy with hy | hy
      · exact h.2 y hy
      · obtain rfl : y = x := by simpa using hy
        omega
theorem okS_nil : okS [] := ⟨List.Pairwise.nil, by simp⟩
theorem okS_pre {a b : List Dd} (h : okS (a ++ b)) : okS a := ⟨(List.pairwise_append.1 h.1).1, fun x hx => h.2 x (by simp [hx])⟩
theorem put_snoc {l : List Dd} (h : okS l) {x : Dd} (hx : lastK l < x.1) : put kD l x = l ++ [x] := put_last l x (fun y hy => by have := okS_le l h.1 y hy; omega)
/-- A pair that does not rise: no clients' text. -/
theorem badD_at {bs : List UInt8} {L : List Int} (h : Nums bs L) {k : Nat} {a b : Int} (ha : L[2 * k]? = some a) (hb : L[2 * k + 1]? = some b) (hk : okS (prs (L.take (2 * k)))) (hbad : ¬ (lastK (prs (L.take (2 * k))) < a ∧ 1 ≤ b)) : ¬ ∃ D, GoodD bs D := by
  rintro ⟨D, g⟩
  have e := h.inj g.1
  apply hbad
  have hs : okS (prs (L.take (2 * (k + 1)))) := by
    have hD : okS D := ⟨g.2.1, g.2.2.1⟩
    rw [← e]
    have : prs ((D.flatMap n2).take (2 * (k + 1))) = D.take (k + 1) := by
      rw [← prs_flat (D.take (k + 1))]
      congr 1
      have hl : ((D.take (k + 1)).flatMap n2).length = 2 * (D.take (k + 1)).length := flat2_len _
      have hsp : D.flatMap n2 = (D.take (k + 1)).flatMap n2 ++ (D.drop (k + 1)).flatMap n2 := by rw [← List.flatMap_append, List.take_append_drop]
      rw [hsp]
      have hlen : (D.take (k + 1)).length = k + 1 := by
        rw [List.length_take]
        have hlt := (List.getElem?_eq_some_iff.1 hb).1
        rw [← e, flat2_len] at hlt
        omega
      rw [show 2 * (k + 1) = ((D.take (k + 1)).flatMap n2).length by omega, List.take_left']
      rfl
    rw [this]
    have : D = D.take (k + 1) ++ D.drop (k + 1) := (List.take_append_drop _ _).symm
    rw [this] at hD
    exact okS_pre hD
  rw [prs_snoc k L a b ha hb] at hs
  exact (okS_snoc hk (a, b)).1 hs
theorem badD_odd {bs : List UInt8} {L : List Int} (h : Nums bs L) (ho : L.length % 2 ≠ 0) : ¬ ∃ D, GoodD bs D := by
  rintro ⟨D, g⟩
  have e := h.inj g.1
  have := flat2_len D
  rw [e] at this
  omega
theorem badD_long {bs : List UInt8} {L : List Int} (h : Nums bs L) (ho : 128 < L.length) : ¬ ∃ D, GoodD bs D := by
  rintro ⟨D, g⟩
  have e := h.inj g.1
  have := flat2_len D
  have h3 := g.2.2.2
  rw [e] at this
  omega
theorem goodD_of {bs : List UInt8} {L : List Int} (h : Nums bs L) (h2 : L.length % 2 = 0) (hs : okS (prs L)) (hl : L.length ≤ 128) : GoodD bs (prs L) := by
  refine ⟨?_, hs.1, hs.2, ?_⟩
  · rw [flat_prs L h2]; exact h
  · rw [prs_len]; omega

/-- Block b is a map that has these clients. -/
def Md (w : World) (b : Nat) (D : List Dd) : Prop := Mw kD (fun x : Dd => Value.int .i64 x.2) Try.prog 3 w b D
theorem Md.made (w : World) : Md (w.alloc (.map #[] 0)) w.heap.size [] := Mw.made w
theorem Md.fr {w w' : World} {Q : Nat → Prop} {b : Nat} {D : List Dd} (h : Md w b D) (hf : Fr Q w w') (hq : ¬ Q b) : Md w' b D := Mw.fr h hf hq
theorem Md.below {w w' : World} {b : Nat} {D : List Dd} (h : Md w b D) (hb : Below w.heap.size w w') : Md w' b D := Mw.below h hb
theorem Md.lt {w : World} {b : Nat} {D : List Dd} (h : Md w b D) : b < w.heap.size := (show Mw kD (fun x : Dd => Value.int .i64 x.2) Try.prog 3 w b D from h).lt
theorem Md.look {w : World} {b : Nat} {D : List Dd} (h : Md w b D) {k : Int} (hk : (Lit.int .i64 k).wf = true) : (Instr.lookup 86 (.map (some b)) (.int .i64 k) false).run Try.prog w = .ok (.int .i64 (lastN D k)) w := by
  have := look1 Try.underlying3 Try.underlying86 (zeroI w) h hk
  rw [this]
  unfold lastN
  cases atX kD D k <;> rfl
theorem Md.store {w : World} {b : Nat} {D : List Dd} (h : Md w b D) (hs : Srt kD D) (hl : D.length ≤ 1000000000) (x : Dd) (hk : (Lit.int .i64 x.1).wf = true) : ∃ w', (Instr.mapUpdate 86 (.map (some b)) (.int .i64 x.1) (.int .i64 x.2)).run Try.prog w = .ok () w' ∧ Md w' b (put kD D x) ∧ Fr (fun q => q = b) w w' :=
  store1 Try.underlying3 Try.underlying86 h hs hl x hk
end Go.Proofs.Ytcpmcfagibmboaa.Cl

namespace Go.Proofs.Ytcpmcfagibmboaa.Lc2
open Go.RowKit Go.Shelf Kt Gf Gk Li
open Lc (grown_of_below')
set_option linter.unusedVariables false
set_option linter.unusedSimpArgs false
set_option maxRecDepth 20000
attribute [local go_sem] Oper.semAt_some

theorem chunk_any (w : World) (a : Option Addr) (m c : Nat) : Calls Try.prog 37 #[.slice a m c, .int .i64 2] w fun e w' => e = .returned (.func (.func 58) #[] #[.pointer (some ⟨w.heap.size, 0, none⟩), .pointer (some ⟨w.heap.size + 1, 0, none⟩)]) ∧ w' = (w.alloc (.cells #[.slice a m c] 66)).alloc (.cells #[.int .i64 2] 3) := by
  have c0 : ((w.alloc (.cells #[.slice a m c] 66)).alloc (.cells #[.int .i64 2] 3)).cell? ⟨w.heap.size + 1, 0, none⟩ = some (.int .i64 2) := (Bx.new1 w _ _ _).cell 0 _ rfl
  go_enter Try.func37, Try.ntmps37
  go_wp2
  go_ret
  exact ⟨rfl, rfl⟩

/-- What is told of a row of m numbers at b, off: the k-th two. -/
def arC (b off m : Nat) (k : Nat) : Array Value := #[.slice (some ⟨b, off + 2 * k, none⟩) (min 2 (m - 2 * k)) (min 2 (m - 2 * k))]

set_option maxRecDepth 100000 in
set_option maxHeartbeats 4000000 in
theorem chunk_seq (n : Nat) (hn : 1 ≤ n) (Q : Nat → Prop) (sb nb : Nat) {w : World} {a : Option Addr} {b off m c : Nat} (hs : Bx w sb #[.slice a m c] 66) (hnb : Bx w nb #[.int .i64 2] 3)
    (hQs : ¬ Q sb) (hQn : ¬ Q nb) (hm : m ≤ c) (hm2 : m ≤ 1000000) (hc : c ≤ 9223372036854775807) (ha : 0 < m → a = some ⟨b, off, none⟩) :
    SeqZ Try.prog n 58 #[.pointer (some ⟨sb, 0, none⟩), .pointer (some ⟨nb, 0, none⟩)] (arC b off m) Q (List.range ((m + 1) / 2)) w := fun lp J Z W hW hlp hlW hJ hZ hY h0 => by
  have hsW := hs.bel hW
  have hnW := hnb.bel hW
  have HNE : Hid (¬ Q sb ∧ sb ≠ lp ∧ ¬ Q nb ∧ nb ≠ lp) := mkH ⟨hQs, by have := hs.lt; omega, hQn, by have := hnb.lt; omega⟩
  have HJ0 := mkH (h0 W.heap.size (Nat.le_refl _))
  have HS0 := mkH hsW
  have HN0 := mkH hnW
  have HB : Hid (∀ q, q = sb ∨ q = nb → q < W.heap.size) := mkH (fun q h => by rcases h with rfl | rfl; exact hsW.lt; exact hnW.lt)
  clear hs hnb hsW hnW hQs hQn h0
  refine callsIn_of_wp Try.func58 rfl trivial ?_ rfl
  simp only [Try.ntmps58, List.size_toArray, List.length_cons, List.length_nil, Nat.reduceAdd, Nat.reduceSub, Array.replicate_succ, Array.replicate_zero, List.push_toArray, List.append_toArray, List.nil_append, List.cons_append]
  gi_wp2_with fail
  gi_loopw [4] (fun i wr => ∃ k j : Nat, j = 2 * k ∧ k ≤ (m + 1) / 2 ∧ i = .int .i64 (j : Int) ∧ Hid (J W.heap.size k wr) ∧ Hid (Bx wr sb #[.slice a m c] 66) ∧ Hid (Bx wr nb #[.int .i64 2] 3) ∧ W.heap.size ≤ wr.heap.size) (fun i _ => m + 2 - (intOf i).toNat)
  case atStart => exact ⟨0, 0, rfl, Nat.zero_le _, rfl, HJ0, HS0, HN0, Nat.le_refl _⟩
  case round =>
    obtain ⟨k, j, hj, hk, rfl, HJ, HS, HN, hmw⟩ := hrel
    clear HJ0 HS0 HN0
    have c0 : wr.cell? ⟨sb, 0, none⟩ = some (.slice a m c) := HS.out.cell 0 _ rfl
    have c1 : wr.cell? ⟨nb, 0, none⟩ = some (.int .i64 2) := HN.out.cell 0 _ rfl
    rcases Nat.lt_or_ge j m with hkl | hkl
    · obtain rfl := ha (by omega)
      have hk1 : (j : Int) < (m : Int) := by omega
      have hk3 : (j : Int) ≤ (m : Int) := by omega
      have hk4 : (0 : Int) ≤ (j : Int) := by omega
      have hk2 : k < (m + 1) / 2 := by omega
      have HJK := mkH hj
      clear hj
      gi_wp2_with fail
      gi_quiet (fail)
      obtain ⟨q, hq, hqi⟩ : ∃ q : Nat, q = min 2 (m - j) ∧ min (2 : Int) ((m - j : Nat) : Int) = (q : Int) := ⟨min 2 (m - j), rfl, by omega⟩
      rw [hqi]
      obtain ⟨W5, hW5⟩ : ∃ W5, W5 = wr.drewN nq := ⟨_, rfl⟩
      rw [← hW5]
      have hb5 : Below wr.heap.size wr W5 := by rw [hW5]; exact below_drewN (Below.refl _ _) _
      have hJ5 : J W.heap.size k W5 := hJ _ k wr W5 none HJ.out (grown_of_below' hb5) (fun r e => by cases e)
      have hx : (List.range ((m + 1) / 2))[k]? = some k := by rw [List.getElem?_range hk2]
      obtain ⟨fn, tmps, assign, body, hy, hR⟩ := hY _ k k W5 (Nat.le_refl _) (Nat.le_trans hmw hb5.size) hJ5 hx
      have hs5 := HS.out.bel hb5
      have hn5 := HN.out.bel hb5
      have c0 : W5.cell? ⟨sb, 0, none⟩ = some (.slice (some ⟨b, off, none⟩) m c) := hs5.cell 0 _ rfl
      have c1 : W5.cell? ⟨nb, 0, none⟩ = some (.int .i64 2) := hn5.cell 0 _ rfl
      have HS5 := mkH hs5
      have HN5 := mkH hn5
      have hm5 : W.heap.size ≤ W5.heap.size := Nat.le_trans hmw hb5.size
      simp only [arC] at hy
      rw [← HJK.out, ← hq] at hy
      have hq1 : 0 < q := by omega
      have hq3 : q ≤ 2 := by omega
      have hjq : j + q ≤ m := by omega
      have hji : (j : Int) + (q : Int) ≤ (m : Int) := by omega
      have hjc : (j : Int) + (q : Int) ≤ (c : Int) := by omega
      have HQ := mkH hq
      clear hb5 hJ5 hx hs5 hn5 hqi hq hW5 HJ HS HN hmw
      gi_wp2_with fail
      refine hR.mono ?_
      rintro e W3 (⟨rfl, hJ3, hk3⟩ | ⟨rfl, hZ3⟩)
      · have hS3 : Bx W3 sb #[.slice (some ⟨b, off, none⟩) m c] 66 := (hk3.block sb (HB.out sb (.inl rfl)) HS5.out.lt (fun h => h.elim HNE.out.1 HNE.out.2.1)).trans HS5.out
        have hN3 : Bx W3 nb #[.int .i64 2] 3 := (hk3.block nb (HB.out nb (.inr rfl)) HN5.out.lt (fun h => h.elim HNE.out.2.2.1 HNE.out.2.2.2)).trans HN5.out
        have HS3 := mkH hS3
        have HN3 := mkH hN3
        have HJ3 := mkH hJ3
        have hm3 : W.heap.size ≤ W3.heap.size := Nat.le_trans hm5 hk3.size
        have c2 : W3.cell? ⟨nb, 0, none⟩ = some (.int .i64 2) := hN3.cell 0 _ rfl
        clear hJ3 hk3 hy hR c0 c1 hS3 hN3 HS5 HN5
        gi_wp2
        go_roundw
        case rel => exact ⟨k + 1, j + 2, by have := HJK.out; omega, by omega, by go_num, HJ3, HS3, HN3, hm3⟩
        case measure => simp [intOf]; omega
      · have HZ3 := mkH hZ3
        clear hZ3 hy hR c0 c1
        gi_wp2
        refine bodyPost_ret (v := .tuple #[]) (results_none rfl _ _ _) rfl ?_
        exact ⟨⟨_, rfl⟩, W.heap.size, Nat.le_refl _, .inr ⟨k + 1, by rw [List.length_range]; omega, HZ3.out⟩⟩
    · have hk1 : ¬ (j : Int) < (m : Int) := by omega
      obtain rfl : k = (m + 1) / 2 := by omega
      gi_wp2
      refine bodyPost_end (results_none rfl _ _ _) rfl ?_
      exact ⟨⟨_, rfl⟩, W.heap.size, Nat.le_refl _, .inl (by first | exact HJ.out | (rw [List.length_range]; exact HJ.out))⟩
end Go.Proofs.Ytcpmcfagibmboaa.Lc2
