/-
  More laws that serve every walk of this seat: one new value appended; numbers and strings as cells.
-/
import Derived.Test.YtabckkepkennhaaKit
namespace Go.Proofs.Ytabckkepkennhaa.Kt
open Go.RowKit
set_option linter.unusedVariables false

/-- One new value of one cell, laid in a block of its own. -/
theorem src_val {P : Program} {tx e' T : TypeId} (hk : P.underlying tx = some (.slice e')) (w : World) (u : Value) (h1 : u.oneCell' = true) :
    Src P 1 tx (.slice (some ⟨w.heap.size, 0, none⟩) 1 1) 1 [u] (w.alloc (.cells #[u] T)) := by
  refine Src.ofSlice _ hk _ _ 1 _ (by simp) (fun j x hj => ?_) (fun x hx => by rw [List.mem_singleton.1 hx]; exact h1)
  have hl : j = 0 := by
    rcases Nat.eq_zero_or_pos j with h | h
    · exact h
    · rw [List.getElem?_eq_none (by simp; omega)] at hj; cases hj
  subst hl
  simp at hj
  subst hj
  exact cell_one_new _ _ _ 0 _ rfl

theorem own_cap {w : World} {base e size n cap : Nat} {ao : Option Addr} {xs : List Value} (h : w.ownsRow base e size (.slice ao n cap) n xs) : cap ≤ 9223372036854775807 := by
  rcases h.2 with ⟨e1, e2⟩ | ⟨g, c, cur, e1, _, _, _, hc, _⟩
  · simp only [Value.slice.injEq] at e1; omega
  · simp only [Value.slice.injEq] at e1; unfold maxLen at hc; omega

/-- Numbers as cells. -/
def I (l : List Nat) : List Value := l.map fun (n : Nat) => Value.int .i64 (n : Int)
theorem I_length (l : List Nat) : (I l).length = l.length := by simp [I]
theorem I_append (a b : List Nat) : I (a ++ b) = I a ++ I b := by simp [I]
/-- Strings as cells. -/
def T (l : List (List UInt8)) : List Value := l.map fun s => Value.string (S s)
theorem T_length (l : List (List UInt8)) : (T l).length = l.length := by simp [T]
theorem T_append (a b : List (List UInt8)) : T (a ++ b) = T a ++ T b := by simp [T]
end Go.Proofs.Ytabckkepkennhaa.Kt
