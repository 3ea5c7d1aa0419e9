/-
  SameReply of the document: a reply is the same as itself.
-/
import Derived.Test.YtjboldahmndkeaaWiA
import Derived.Test.YtjboldahmndkeaaWiN
import Derived.Test.YtjboldahmndkeaaWiR
namespace Go.Proofs.Ytjboldahmndkeaa.Wsr
open Go.RowKit Kt Pl Wi Wk We Wa Wn Wx
open At (RowT)
set_option linter.unusedVariables false
set_option linter.unusedSimpArgs false
set_option maxRecDepth 20000

theorem eqlG (g : Gt) (w : World) : Sem.run Try.prog (binOp .eql 73 (.agg (Gv g)) (.agg (Gv g))) w = .ok (.bool true) w := by
  have u3 := Try.underlying3
  have a3 := Try.isAgg3
  have z3 := Try.sizeOf3
  have u9 := Try.underlying9
  have a9 := Try.isAgg9
  have z9 := Try.sizeOf9
  have u23 := Try.underlying23
  have a23 := Try.isAgg23
  have z23 := Try.sizeOf23
  have hS : Try.prog.underlying 73 = some (.struct (Try.prog.fieldsOf 73)) := by kernel_rfl
  have hp : Try.prog.stoodInHeld 73 = false := by kernel_rfl
  have hS2 : Try.prog.underlying 23 = some (.struct (Try.prog.fieldsOf 23)) := by kernel_rfl
  have hp2 : Try.prog.stoodInHeld 23 = false := by kernel_rfl
  have hin : Sem.run Try.prog (Op.equalIn 9999 23 (.agg #[.int .i64 g.rc.q, .string (S g.rc.g), .int .i64 g.rc.s, .int .i64 g.rc.c]) (.agg #[.int .i64 g.rc.q, .string (S g.rc.g), .int .i64 g.rc.s, .int .i64 g.rc.c])) w = .ok true w := by
    rw [show (9999 : Nat) = 9998 + 1 from rfl, run_equalIn_agg w 9998 23 _ _ hS2 hp2]
    simp only [Program.fieldsOf, Try.underlying23]
    go_simp
  unfold Gv gC
  rw [run_eql_struct, show (10000 : Nat) = 9999 + 1 from rfl, run_equalIn_agg w 9999 73 _ _ hS hp]
  simp only [Program.fieldsOf, Try.underlying73]
  go_simp
theorem guardG (op : BinOp) (x y : Operand) (a b : Array Value) (w : World) : Sem.run Try.prog (eqGuard op 73 x y (.agg a) (.agg b)) w = .ok () w :=
  run_eqGuard_agg w op 73 x y _ _ (by kernel_rfl)
theorem neqG (g : Gt) (w : World) : Sem.run Try.prog (binOp .neq 73 (.agg (Gv g)) (.agg (Gv g))) w = .ok (.bool false) w := by
  have h := eqlG g w
  rw [run_eql_struct] at h
  rw [run_neq_struct]
  revert h
  generalize (Op.equalIn 10000 73 (.agg (Gv g)) (.agg (Gv g))).run Try.prog w = r
  intro h
  cases r with
  | ok b w' => simp only [Result.andThen_ok] at h ⊢; injection h with h1 h2; injection h1 with h1; rw [h1, h2]; rfl
  | halt x w' => simp [Result.andThen] at h
end Go.Proofs.Ytjboldahmndkeaa.Wsr
