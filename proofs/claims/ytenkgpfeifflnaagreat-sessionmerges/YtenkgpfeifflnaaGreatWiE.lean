/-
  Check, of wire.
-/
import Derived.Test.YtenkgpfeifflnaaGreatWiD
namespace Go.Proofs.YtenkgpfeifflnaaGreat.We
open Go.RowKit Kt Pl Wi Wk Wc Wd
open At (RowT)
set_option linter.unusedVariables false
set_option maxRecDepth 20000

theorem eqlR (a b c d : Int) (w : World) : Sem.run Tryz.prog (binOp .eql 95 (.agg #[.int .i64 a, .int .i64 b]) (.agg #[.int .i64 c, .int .i64 d])) w = .ok (.bool (decide (a = c ∧ b = d))) w := by
  have u3 := Tryz.underlying3
  have a3 := Tryz.isAgg3
  have z3 := Tryz.sizeOf3
  have hS : Tryz.prog.underlying 95 = some (.struct (Tryz.prog.fieldsOf 95)) := by kernel_rfl
  have hp : Tryz.prog.stoodInHeld 95 = false := by kernel_rfl
  rw [run_eql_struct, show (10000 : Nat) = 9999 + 1 from rfl, run_equalIn_agg w 9999 95 _ _ hS hp]
  simp only [Program.fieldsOf, Tryz.underlying95]
  go_simp
  by_cases h1 : a = c <;> by_cases h2 : b = d <;> simp [h1, h2]
theorem guardR (op : BinOp) (x y : Operand) (a b c d : Int) (w : World) : Sem.run Tryz.prog (eqGuard op 95 x y (.agg #[.int .i64 a, .int .i64 b]) (.agg #[.int .i64 c, .int .i64 d])) w = .ok () w :=
  run_eqGuard_agg w op 95 x y _ _ (by kernel_rfl)
theorem neqR (a b c d : Int) (w : World) : Sem.run Tryz.prog (binOp .neq 95 (.agg #[.int .i64 a, .int .i64 b]) (.agg #[.int .i64 c, .int .i64 d])) w = .ok (.bool (!decide (a = c ∧ b = d))) w := by
  have h := eqlR a b c d w
  rw [run_eql_struct] at h
  rw [run_neq_struct]
  revert h
  generalize (Op.equalIn 10000 95 (.agg #[.int .i64 a, .int .i64 b]) (.agg #[.int .i64 c, .int .i64 d])).run Tryz.prog w = r
  intro h
  cases r with
  | ok b w' => simp only [Result.andThen_ok] at h ⊢; injection h with h1 h2; injection h1 with h1; rw [h1, h2]
  | halt x w' => simp [Result.andThen] at h

theorem Cv_size (c : Cm) (d : Value) : (Cv c d).size = 19 := rfl
theorem Cv_at (c : Cm) (d : Value) : (Cv c d)[0]? = some (.int .i64 c.kind) ∧ (Cv c d)[1]? = some (.int .i64 c.client) ∧ (Cv c d)[2]? = some (.int .i64 c.num) ∧ (Cv c d)[3]? = some (.int .i64 c.time) ∧ (Cv c d)[4]? = some (.int .i64 c.queue) ∧
    (Cv c d)[5]? = some (.string (S c.group)) ∧ (Cv c d)[6]? = some (.string (S c.body)) ∧ (Cv c d)[7]? = some (.string (S c.token)) ∧ (Cv c d)[8]? = some (.string (S c.attempt)) ∧ (Cv c d)[9]? = some (.int .i64 c.max) ∧ (Cv c d)[10]? = some (.int .i64 c.secs) ∧
    (Cv c d)[11]? = some (.int .i64 c.rc.q) ∧ (Cv c d)[12]? = some (.string (S c.rc.g)) ∧ (Cv c d)[13]? = some (.int .i64 c.rc.s) ∧ (Cv c d)[14]? = some (.int .i64 c.rc.c) ∧ (Cv c d)[15]? = some (.int .i64 c.lo) ∧ (Cv c d)[16]? = some (.int .i64 c.hi) ∧ (Cv c d)[17]? = some (.int .i64 c.to) ∧ (Cv c d)[18]? = some d :=
  ⟨rfl, rfl, rfl, rfl, rfl, rfl, rfl, rfl, rfl, rfl, rfl, rfl, rfl, rfl, rfl, rfl, rfl, rfl, rfl⟩

theorem right_cases (c : Cm) : rightC c = ([c.kind].all (upToB 10) && ([c.client, c.num, c.time, c.queue, c.max, c.secs, c.to].all (upToB 1099511627776) && (rcB c.rc && (decide (c.lo = 0 ∧ c.hi = 0) || mayB c.lo c.hi)))) := by
  simp [rightC, numB, Bool.decide_and]

theorem short_cases (c : Cm) : shortC c = ([c.group, c.token, c.attempt, c.rc.g].all (fitB 32) && ([c.body].all (fitB 128) && dataB c.data)) := by
  simp [shortC]
end Go.Proofs.YtenkgpfeifflnaaGreat.We
