/-
  The contracts of the lists of texts that are written: addList[string], Texts.
-/
import Derived.Test.YtcpmcfagibmboaaAddI
import Derived.Test.YtcpmcfagibmboaaKit2
namespace Go.Proofs.Ytcpmcfagibmboaa.At
open Go.RowKit Kt Pl Rd Wr Fw
open Ad (pre pre_zero pre_all pre_succ own_cat)
set_option linter.unusedVariables false

/-- A slice of texts, as it is read. -/
def RowT (w : World) (ao : Option Addr) (l : List (List UInt8)) : Prop :=
  0 < l.length → ∃ b off, ao = some ⟨b, off, none⟩ ∧ ∀ i, i < l.length → w.cell? ⟨b, off + i, none⟩ = some (.string (S (l.getD i [])))

theorem RowT.below {w w' : World} {ao : Option Addr} {l : List (List UInt8)} (h : RowT w ao l) (hb : Below w.heap.size w w') : RowT w' ao l := by
  intro hl
  obtain ⟨b, off, e, hc⟩ := h hl
  refine ⟨b, off, e, fun i hi => ?_⟩
  have h1 := hc i hi
  rw [hb.cell (p := ⟨b, off + i, none⟩) (World.block_lt_of_cell? w _ h1)]
  exact h1

theorem RowT.own {w : World} {base e n : Nat} {ao : Option Addr} {cap : Nat} {l : List (List UInt8)} (h : w.ownsRow base e 1 (.slice ao n cap) n (T l)) : n = l.length ∧ n ≤ cap ∧ RowT w ao l := by
  have hn : n = l.length := by have := h.1; rw [T_length] at this; omega
  subst hn
  refine ⟨rfl, ?_, fun hl => ?_⟩
  · rcases h.2 with ⟨e1, e2⟩ | ⟨g, c, cur, e1, _, _, e2, _⟩
    · simp [e2]
    · simp only [Value.slice.injEq] at e1; omega
  · rcases h.2 with ⟨e1, e2⟩ | ⟨g, c, cur, e1, _, hg, _, _, _, ht⟩
    · omega
    · simp only [Value.slice.injEq] at e1
      obtain ⟨rfl, _, rfl⟩ := e1
      refine ⟨g, 0, rfl, fun i hi => ?_⟩
      have := World.ownsRow.cellAt h i (by omega)
      rw [Nat.zero_add, this]
      simp [T, List.getD, List.getElem?_eq_getElem hi]

/-- A text that may be written. -/
def okT (x : List UInt8) : Prop := x.length ≤ 4096

theorem pre_len {l : List (List UInt8)} {k : Nat} (hk : k ≤ l.length) (hl : l.length ≤ 1024) (hok : ∀ i x, i < k → l[i]? = some x → okT x) : (pre encText l k).length ≤ 9 + 4105 * k := by
  induction k with
  | zero => rw [pre_zero]; have := enc_len9 (n := l.length) (by omega); omega
  | succ k ih =>
    have h1 : l[k]? = some l[k] := List.getElem?_eq_getElem (by omega)
    rw [pre_succ _ _ _ _ h1, List.length_append]
    have h2 := ih (by omega) (fun i x hi => hok i x (by omega))
    have h3 := hok k _ (by omega) h1
    have h4 : (encText l[k]).length ≤ 4105 := by unfold encText; rw [List.length_append]; unfold okT at h3; have := enc_len9 (n := l[k].length) (by omega); omega
    omega

theorem own_cat {w : World} {base e m : Nat} {v : Value} {bs p q : List UInt8} (h : w.ownsRow base e 1 v (m + p.length + q.length) (U (bs ++ p ++ q))) : w.ownsRow base e 1 v (m + (p ++ q).length) (U (bs ++ (p ++ q))) := by
  rw [List.length_append, ← List.append_assoc, ← Nat.add_assoc]; exact h
end Go.Proofs.Ytcpmcfagibmboaa.At
