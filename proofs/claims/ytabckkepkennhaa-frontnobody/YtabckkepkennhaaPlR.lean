/-
  Lists of ranges that lie in memory: as they are read, as the call owns them, as they are appended.
-/
import Derived.Test.YtabckkepkennhaaPlP
import Derived.Test.YtabckkepkennhaaKit2
namespace Go.Proofs.Ytabckkepkennhaa.Pr
open Go.RowKit Pl Kt
set_option linter.unusedVariables false

/-- Ranges as cells. -/
def E (l : List Rg) : List Value := l.flatMap fun r => [Value.int .i64 r.1, Value.int .i64 r.2]
theorem E_nil : E [] = [] := rfl
theorem E_cons (r : Rg) (l : List Rg) : E (r :: l) = Value.int .i64 r.1 :: Value.int .i64 r.2 :: E l := rfl
theorem E_append (a b : List Rg) : E (a ++ b) = E a ++ E b := by simp [E]
theorem E_length (l : List Rg) : (E l).length = l.length * 2 := by
  induction l with
  | nil => rfl
  | cons r t ih => rw [E_cons, List.length_cons, List.length_cons, ih, List.length_cons]; omega
theorem E_one (l : List Rg) : ∀ u ∈ E l, u.oneCell' = true := by
  induction l with
  | nil => intro u hu; cases hu
  | cons r t ih =>
    intro u hu
    rw [E_cons] at hu
    rcases List.mem_cons.1 hu with rfl | hu
    · rfl
    · rcases List.mem_cons.1 hu with rfl | hu
      · rfl
      · exact ih u hu
theorem E_at0 (l : List Rg) : ∀ (i : Nat) (r : Rg), l[i]? = some r → (E l)[i * 2]? = some (.int .i64 r.1) := by
  induction l with
  | nil => intro i r h; cases h
  | cons x t ih =>
    intro i r h
    cases i with
    | zero => simp at h; subst h; rfl
    | succ i => rw [E_cons, show (i + 1) * 2 = i * 2 + 1 + 1 by omega, List.getElem?_cons_succ, List.getElem?_cons_succ]; exact ih i r (by simpa using h)
theorem E_at1 (l : List Rg) : ∀ (i : Nat) (r : Rg), l[i]? = some r → (E l)[i * 2 + 1]? = some (.int .i64 r.2) := by
  induction l with
  | nil => intro i r h; cases h
  | cons x t ih =>
    intro i r h
    cases i with
    | zero => simp at h; subst h; rfl
    | succ i => rw [E_cons, show (i + 1) * 2 + 1 = i * 2 + 1 + 1 + 1 by omega, List.getElem?_cons_succ, List.getElem?_cons_succ]; exact ih i r (by simpa using h)
/-- Each cell is a range's Lo or its Hi. -/
theorem E_get (l : List Rg) (j : Nat) (u : Value) (h : (E l)[j]? = some u) : ∃ i r, l[i]? = some r ∧ ((j = i * 2 ∧ u = .int .i64 r.1) ∨ (j = i * 2 + 1 ∧ u = .int .i64 r.2)) := by
  have hj : j < (E l).length := by
    rcases Nat.lt_or_ge j (E l).length with h1 | h1
    · exact h1
    · rw [List.getElem?_eq_none h1] at h; cases h
  rw [E_length] at hj
  obtain ⟨r, hr⟩ : ∃ r, l[j / 2]? = some r := ⟨l[j / 2]'(by omega), List.getElem?_eq_getElem _⟩
  rcases Nat.mod_two_eq_zero_or_one j with h0 | h0
  · have e : j = j / 2 * 2 := by omega
    rw [e, E_at0 l _ r hr] at h
    exact ⟨j / 2, r, hr, .inl ⟨e, by injection h with h; exact h.symm⟩⟩
  · have e : j = j / 2 * 2 + 1 := by omega
    rw [e, E_at1 l _ r hr] at h
    exact ⟨j / 2, r, hr, .inr ⟨e, by injection h with h; exact h.symm⟩⟩

/-- A slice of ranges, as it is read. -/
def Rw (w : World) (ao : Option Addr) (l : List Rg) : Prop :=
  0 < l.length → ∃ b off, ao = some ⟨b, off, none⟩ ∧ ∀ i r, l[i]? = some r → w.cell? ⟨b, off + i * 2, none⟩ = some (.int .i64 r.1) ∧ w.cell? ⟨b, off + i * 2 + 1, none⟩ = some (.int .i64 r.2)
theorem Rw.nil (w : World) (ao : Option Addr) : Rw w ao [] := fun h => by simp at h
theorem some_of {α : Type} {l : List α} {i : Nat} (h : i < l.length) : ∃ r, l[i]? = some r := ⟨l[i], List.getElem?_eq_getElem h⟩
theorem Rw.block {w : World} {b off : Nat} {l : List Rg} (h : Rw w (some ⟨b, off, none⟩) l) (hl : 0 < l.length) : b < w.heap.size := by
  obtain ⟨b', off', e, hc⟩ := h hl
  injection e with e
  injection e with e1 e2
  subst e1 e2
  obtain ⟨r, hr⟩ := some_of hl
  exact World.block_lt_of_cell? w _ (hc 0 r hr).1
theorem Rw.below {w w' : World} {ao : Option Addr} {l : List Rg} (h : Rw w ao l) (hb : Below w.heap.size w w') : Rw w' ao l := by
  intro hl
  obtain ⟨b, off, e, hc⟩ := h hl
  refine ⟨b, off, e, fun i r hr => ?_⟩
  have hB := World.block_lt_of_cell? w _ (hc i r hr).1
  rw [hb.cell (p := ⟨b, off + i * 2, none⟩) hB, hb.cell (p := ⟨b, off + i * 2 + 1, none⟩) hB]
  exact hc i r hr
/-- The first of them. -/
theorem Rw.take {w : World} {ao : Option Addr} {l : List Rg} (h : Rw w ao l) (k : Nat) : Rw w ao (l.take k) := by
  intro hl
  rw [List.length_take] at hl
  obtain ⟨b, off, e, hc⟩ := h (by omega)
  exact ⟨b, off, e, fun i r hr => hc i r (by rw [List.getElem?_take] at hr; split at hr; exact hr; cases hr)⟩
theorem Rw.src {P : Program} {w : World} {tx e' : TypeId} (hk : P.underlying tx = some (.slice e')) {ao : Option Addr} {l : List Rg} (h : Rw w ao l) (c : Nat) :
    Src P 2 tx (.slice ao l.length c) l.length (E l) w := by
  by_cases h0 : 0 < l.length
  · obtain ⟨b, off, rfl, hc⟩ := h h0
    refine Src.ofSlice w hk _ _ c _ (E_length l) (fun j u hj => ?_) (E_one l)
    obtain ⟨i, r, hr, hu⟩ := E_get l j u hj
    have : (⟨b, off, none⟩ : Addr).add j = ⟨b, off + j, none⟩ := by unfold Addr.add; split <;> simp_all
    rw [this]
    rcases hu with ⟨rfl, rfl⟩ | ⟨rfl, rfl⟩
    · exact (hc i r hr).1
    · exact (hc i r hr).2
  · have e : l = [] := List.eq_nil_of_length_eq_zero (by omega)
    subst e
    cases ao with
    | none => exact Src.ofNil w hk c
    | some a => exact Src.ofSlice w hk a 0 c [] (by simp) (fun j u hj => by simp at hj) (fun u hu => by cases hu)

/-- A row that the call owns. -/
def Ow (w : World) (base : Nat) (v : Value) (l : List Rg) : Prop := w.ownsRow base 29 2 v l.length (E l)
theorem Ow.form {w : World} {base : Nat} {v : Value} {l : List Rg} (h : Ow w base v l) : ∃ ao cap, v = .slice ao l.length cap ∧ l.length ≤ cap ∧ cap ≤ 9223372036854775807 := by
  rcases h.2 with ⟨e1, e2⟩ | ⟨g, c, cur, e1, _, _, e2, hc, _⟩
  · exact ⟨none, 0, by rw [e1, e2], by omega, by omega⟩
  · exact ⟨_, c, e1, e2, by unfold maxLen at hc; omega⟩
theorem Ow.rw {w : World} {base : Nat} {ao : Option Addr} {n cap : Nat} {l : List Rg} (h : Ow w base (.slice ao n cap) l) : Rw w ao l := by
  intro hl
  rcases h.2 with ⟨e1, e2⟩ | ⟨g, c, cur, e1, _⟩
  · omega
  · simp only [Value.slice.injEq] at e1
    obtain ⟨rfl, rfl, rfl⟩ := e1
    refine ⟨g, 0, rfl, fun i r hr => ?_⟩
    have hi : i < l.length := by
      rcases Nat.lt_or_ge i l.length with h1 | h1
      · exact h1
      · rw [List.getElem?_eq_none h1] at hr; cases hr
    have h0 := World.ownsRow.cellAt h (i * 2) (by omega)
    have h1 := World.ownsRow.cellAt h (i * 2 + 1) (by omega)
    rw [E_at0 l i r hr] at h0
    rw [E_at1 l i r hr] at h1
    rw [Nat.zero_add]
    exact ⟨h0, h1⟩
theorem Ow.nil (w : World) (base : Nat) : Ow w base (.slice none 0 0) [] := World.ownsRow_nil _ _ _ _
/-- Who else lays blocks, or draws, leaves it. -/
theorem Ow.below {w w' : World} {base : Nat} {v : Value} {l : List Rg} (h : Ow w base v l) (hb : Below w.heap.size w w') : Ow w' base v l := by
  refine ⟨h.1, ?_⟩
  rcases h.2 with ⟨e1, e2⟩ | ⟨g, c, cur, e1, h2, h3, h4⟩
  · exact .inl ⟨e1, e2⟩
  · have hg : g < w.heap.size := by
      rcases Nat.lt_or_ge g w.heap.size with h1 | h1
      · exact h1
      · rw [Array.getElem?_eq_none h1] at h3; cases h3
    exact .inr ⟨g, c, cur, e1, h2, (hb.block g hg).trans h3, h4⟩

/-- What is told of a slice of ranges that came in. -/
def IsRg (w : World) (a : Option Addr) (len cap : Nat) (l : List Rg) : Prop :=
  (a = none ∧ len = 0 ∧ cap = 0 ∧ l = []) ∨
  ∃ x, a = some x ∧ len ≤ cap ∧ cap ≤ maxLen ∧ l.length = len ∧ ∀ i r, l[i]? = some r → w.cell? (x.add (i * 2)) = some (.int .i64 r.1) ∧ w.cell? (x.add (i * 2 + 1)) = some (.int .i64 r.2)
theorem isRg_of {w : World} {x : Addr} {len cap : Nat} (V0 V1 : Nat → Value) (hl : len ≤ cap) (hm : cap ≤ maxLen)
    (h : ∀ i, i < len → ∃ a b : Int, w.cell? (x.add (i * 2)) = some (.int .i64 a) ∧ w.cell? (x.add (i * 2 + 1)) = some (.int .i64 b)) : ∃ zs, IsRg w (some x) len cap zs := by
  have hh : ∀ i : Nat, ∃ r : Rg, i < len → w.cell? (x.add (i * 2)) = some (.int .i64 r.1) ∧ w.cell? (x.add (i * 2 + 1)) = some (.int .i64 r.2) := by
    intro i
    by_cases hi : i < len
    · obtain ⟨a, b, h1, h2⟩ := h i hi
      exact ⟨(a, b), fun _ => ⟨h1, h2⟩⟩
    · exact ⟨(0, 0), fun h => absurd h hi⟩
  let f : Nat → Rg := fun i => Classical.choose (hh i)
  have hf : ∀ i, i < len → _ := fun i => Classical.choose_spec (hh i)
  refine ⟨(List.range len).map f, .inr ⟨x, rfl, hl, hm, by simp, fun i r hr => ?_⟩⟩
  rw [List.getElem?_map] at hr
  rcases Nat.lt_or_ge i len with h1 | h1
  · rw [List.getElem?_range h1] at hr
    simp at hr
    subst hr
    exact hf i h1
  · rw [List.getElem?_eq_none (by simpa using h1)] at hr; cases hr
theorem IsRg.rw {w : World} {a : Option Addr} {len cap : Nat} {l : List Rg} (h : IsRg w a len cap l) : len = l.length ∧ len ≤ cap ∧ cap ≤ 9223372036854775807 ∧ Rw w a l := by
  rcases h with ⟨rfl, rfl, rfl, rfl⟩ | ⟨x, rfl, hl, hm, hz, hc⟩
  · exact ⟨rfl, Nat.le_refl _, by omega, Rw.nil _ _⟩
  · refine ⟨hz.symm, hl, by unfold maxLen at hm; omega, fun h0 => ?_⟩
    obtain ⟨b, off, spot⟩ := x
    obtain ⟨r0, hr0⟩ := some_of h0
    have hspot : spot = none := by simpa [Addr.add] using World.cell?_spot (hc 0 r0 hr0).1
    subst hspot
    refine ⟨b, off, rfl, fun i r hr => ?_⟩
    have hp : ∀ j, (⟨b, off, none⟩ : Addr).add j = ⟨b, off + j, none⟩ := fun j => by unfold Addr.add; split <;> simp_all
    have := hc i r hr
    rw [hp, hp] at this
    rw [Nat.add_assoc]
    exact this
end Go.Proofs.Ytabckkepkennhaa.Pr
