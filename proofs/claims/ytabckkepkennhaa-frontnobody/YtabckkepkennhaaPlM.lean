/-
  Meet, of place and of the document's answer; two ranges compared.
-/
import Derived.Test.YtabckkepkennhaaPlW
import Derived.Shelf.SlicesE.Equal
namespace Go.Proofs.Ytabckkepkennhaa.Pw
open Go.RowKit Pl
set_option linter.unusedVariables false

theorem meet_none (a b c d : Int) (h : ¬ (may (a, b) = true ∧ may (c, d) = true ∧ a < d ∧ c < b)) : meet (a, b) (c, d) = (0, 0) := by
  unfold meet; rw [if_neg h]
theorem meet_some (a b c d : Int) (h : may (a, b) = true ∧ may (c, d) = true ∧ a < d ∧ c < b) : meet (a, b) (c, d) = (max a c, min b d) := by
  unfold meet; rw [if_pos h]

theorem eqlR (a b c d : Int) (w : World) : Sem.run Try.prog (binOp .eql 29 (.agg #[.int .i64 a, .int .i64 b]) (.agg #[.int .i64 c, .int .i64 d])) w = .ok (.bool (decide (a = c ∧ b = d))) w := by
  have u3 := Try.underlying3
  have a3 := Try.isAgg3
  have z3 := Try.sizeOf3
  have hS : Try.prog.underlying 29 = some (.struct (Try.prog.fieldsOf 29)) := by kernel_rfl
  have hp : Try.prog.stoodInHeld 29 = false := by kernel_rfl
  rw [run_eql_struct, show (10000 : Nat) = 9999 + 1 from rfl, run_equalIn_agg w 9999 29 _ _ hS hp]
  simp only [Program.fieldsOf, Try.underlying29]
  go_simp
  by_cases h1 : a = c <;> by_cases h2 : b = d <;> simp [h1, h2]
theorem guardR (op : BinOp) (x y : Operand) (a b c d : Int) (w : World) : Sem.run Try.prog (eqGuard op 29 x y (.agg #[.int .i64 a, .int .i64 b]) (.agg #[.int .i64 c, .int .i64 d])) w = .ok () w :=
  run_eqGuard_agg w op 29 x y _ _ (by kernel_rfl)

theorem neqR (a b c d : Int) (w : World) : Sem.run Try.prog (binOp .neq 29 (.agg #[.int .i64 a, .int .i64 b]) (.agg #[.int .i64 c, .int .i64 d])) w = .ok (.bool (!decide (a = c ∧ b = d))) w := by
  have h := eqlR a b c d w
  rw [run_eql_struct] at h
  rw [run_neq_struct]
  revert h
  generalize (Op.equalIn 10000 29 (.agg #[.int .i64 a, .int .i64 b]) (.agg #[.int .i64 c, .int .i64 d])).run Try.prog w = r
  intro h
  cases r with
  | ok b w' => simp only [Result.andThen_ok] at h ⊢; injection h with h1 h2; injection h1 with h1; rw [h1, h2]
  | halt x w' => simp [Result.andThen] at h
end Go.Proofs.Ytabckkepkennhaa.Pw
