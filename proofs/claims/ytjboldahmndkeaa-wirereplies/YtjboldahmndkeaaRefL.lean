/-
  The contracts of racewayref01.Nums and of octet.Nums, told alike.
-/
import Derived.Test.YtjboldahmndkeaaRef
namespace Go.Proofs.Ytjboldahmndkeaa.Rf
open Go.RowKit Kt Pl Rd Wr Fw Ad
set_option linter.unusedVariables false

/-- What a list of numbers is written as behind bs: bytes and an error. -/
def OutN (bs : List UInt8) (l : List Int) (r : List UInt8) (er : Nat) : Prop :=
  (1024 < l.length ∧ r = [] ∧ er = 3) ∨ (l.length ≤ 1024 ∧ (∀ x ∈ l, okN x) ∧ r = bs ++ encList eI l ∧ er = 0) ∨ (l.length ≤ 1024 ∧ (¬ ∀ x ∈ l, okN x) ∧ r = [] ∧ er = 2)

theorem outN_ex (bs : List UInt8) (l : List Int) : ∃ r er, OutN bs l r er := by
  by_cases h : 1024 < l.length
  · exact ⟨_, _, .inl ⟨h, rfl, rfl⟩⟩
  · by_cases h2 : ∀ x ∈ l, okN x
    · exact ⟨_, _, .inr (.inl ⟨by omega, h2, rfl, rfl⟩)⟩
    · exact ⟨_, _, .inr (.inr ⟨by omega, h2, rfl, rfl⟩)⟩

/-- The answer of a writer: bytes and an error. -/
def Gives (r : List UInt8) (er : Nat) (w0 : World) (e : Ending) (w' : World) : Prop :=
  ∃ a c, e = .returned (.tuple #[.slice a r.length c, .int .i64 (er : Int)]) ∧ Row w' a r ∧ Below w0.heap.size w0 w'

theorem gives_nil {er : Nat} {w0 w' : World} (h : Below w0.heap.size w0 w') : Gives [] er w0 (.returned (.tuple #[.slice none 0 0, .int .i64 (er : Int)])) w' := ⟨none, 0, rfl, Row.nil _ _, h⟩
theorem gives_own {w0 w' : World} {base e : Nat} {v : Value} {p q : List UInt8} (h : w'.ownsRow base e 1 v (p.length + q.length) (U (p ++ q))) (hb : Below w0.heap.size w0 w') :
    Gives (p ++ q) 0 w0 (.returned (.tuple #[v, .int .i64 0])) w' := by
  obtain ⟨a, c, rfl⟩ := own_form h
  rw [← List.length_append] at h ⊢
  exact ⟨a, c, rfl, (Row.own h).2.2, hb⟩
end Go.Proofs.Ytjboldahmndkeaa.Rf
