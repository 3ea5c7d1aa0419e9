/-
  The contracts of the lists of numbers that are written: addList[int], Nums.
-/
import Derived.Test.YtcpmcfagibmboaaReads2
import Derived.Test.YtcpmcfagibmboaaKit2
namespace Go.Proofs.Ytcpmcfagibmboaa.Ad
open Go.RowKit Kt Pl Rd Wr Fw
set_option linter.unusedVariables false

/-- A slice of numbers, as it is read. -/
def RowI (w : World) (ao : Option Addr) (l : List Int) : Prop :=
  0 < l.length → ∃ b off, ao = some ⟨b, off, none⟩ ∧ ∀ i, i < l.length → w.cell? ⟨b, off + i, none⟩ = some (.int .i64 (l.getD i 0))

theorem RowI.below {w w' : World} {ao : Option Addr} {l : List Int} (h : RowI w ao l) (hb : Below w.heap.size w w') : RowI w' ao l := by
  intro hl
  obtain ⟨b, off, e, hc⟩ := h hl
  refine ⟨b, off, e, fun i hi => ?_⟩
  have h1 := hc i hi
  rw [hb.cell (p := ⟨b, off + i, none⟩) (World.block_lt_of_cell? w _ h1)]
  exact h1

theorem RowI.own {w : World} {base e n : Nat} {ao : Option Addr} {cap : Nat} {l : List Nat} (h : w.ownsRow base e 1 (.slice ao n cap) n (I l)) : n = l.length ∧ n ≤ cap ∧ RowI w ao (l.map fun (n : Nat) => (n : Int)) := by
  have hn : n = l.length := by have := h.1; rw [I_length] at this; omega
  subst hn
  refine ⟨rfl, ?_, fun hl => ?_⟩
  · rcases h.2 with ⟨e1, e2⟩ | ⟨g, c, cur, e1, _, _, e2, _⟩
    · simp [e2]
    · simp only [Value.slice.injEq] at e1; omega
  · simp only [List.length_map] at hl ⊢
    rcases h.2 with ⟨e1, e2⟩ | ⟨g, c, cur, e1, _, hg, _, _, _, ht⟩
    · omega
    · simp only [Value.slice.injEq] at e1
      obtain ⟨rfl, _, rfl⟩ := e1
      refine ⟨g, 0, rfl, fun i hi => ?_⟩
      have := World.ownsRow.cellAt h i (by omega)
      rw [Nat.zero_add, this]
      simp [I, List.getD, List.getElem?_eq_getElem hi]

/-- A number that may be written. -/
def okN (x : Int) : Prop := 0 ≤ x ∧ x ≤ 4611686018427387904
def eI (x : Int) : List UInt8 := enc x.toNat

/-- What has been written of a list behind k items. -/
def pre {α : Type} (e : α → List UInt8) (l : List α) (k : Nat) : List UInt8 := enc l.length ++ (l.take k).flatMap e
theorem pre_zero {α : Type} (e : α → List UInt8) (l : List α) : pre e l 0 = enc l.length := by simp [pre]
theorem pre_all {α : Type} (e : α → List UInt8) (l : List α) : pre e l l.length = encList e l := by simp [pre, encList]
theorem pre_succ {α : Type} (e : α → List UInt8) (l : List α) (k : Nat) (x : α) (h : l[k]? = some x) : pre e l (k + 1) = pre e l k ++ e x := by
  obtain ⟨hk, rfl⟩ := List.getElem?_eq_some_iff.1 h
  unfold pre
  rw [List.take_succ_eq_append_getElem hk, List.flatMap_append]
  simp

theorem pre_len {l : List Int} {k : Nat} (hk : k ≤ l.length) (hl : l.length ≤ 1024) (hok : ∀ i x, i < k → l[i]? = some x → okN x) : (pre eI l k).length ≤ 9 + 9 * k := by
  induction k with
  | zero => rw [pre_zero]; have := enc_len9 (n := l.length) (by omega); omega
  | succ k ih =>
    have h1 : l[k]? = some l[k] := List.getElem?_eq_getElem (by omega)
    rw [pre_succ _ _ _ _ h1, List.length_append]
    have h2 := ih (by omega) (fun i x hi => hok i x (by omega))
    have h3 := hok k _ (by omega) h1
    have h4 : (eI l[k]).length ≤ 9 := enc_len9 (by have := h3.2; have := h3.1; omega)
    omega

theorem own_cat {w : World} {base e m : Nat} {v : Value} {bs p q : List UInt8} (h : w.ownsRow base e 1 v (m + p.length + q.length) (U (bs ++ p ++ q))) : w.ownsRow base e 1 v (m + (p ++ q).length) (U (bs ++ (p ++ q))) := by
  rw [List.length_append, ← List.append_assoc, ← Nat.add_assoc]; exact h
end Go.Proofs.Ytcpmcfagibmboaa.Ad
