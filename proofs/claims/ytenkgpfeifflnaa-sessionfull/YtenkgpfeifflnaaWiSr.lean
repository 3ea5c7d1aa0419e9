/-
  SameReply of the document: a reply is the same as itself.
-/
import Derived.Test.YtenkgpfeifflnaaWiA
import Derived.Test.YtenkgpfeifflnaaWiN
import Derived.Test.YtenkgpfeifflnaaWiR
namespace Go.Proofs.Ytenkgpfeifflnaa.Wsr
open Go.RowKit Kt Pl Wi Wk We Wa Wn Wx
open At (RowT)
set_option linter.unusedVariables false
set_option linter.unusedSimpArgs false
set_option maxRecDepth 20000

theorem eqlG (g : Gt) (w : World) : Sem.run Try.prog (binOp .eql 52 (.agg (Gv g)) (.agg (Gv g))) w = .ok (.bool true) w := by
  have u3 := Try.underlying3
  have a3 := Try.isAgg3
  have z3 := Try.sizeOf3
  have u9 := Try.underlying9
  have a9 := Try.isAgg9
  have z9 := Try.sizeOf9
  have u23 := Try.underlying50
  have a23 := Try.isAgg50
  have z23 := Try.sizeOf50
  have hS : Try.prog.underlying 52 = some (.struct (Try.prog.fieldsOf 52)) := by kernel_rfl
  have hp : Try.prog.stoodInHeld 52 = false := by kernel_rfl
  have hS2 : Try.prog.underlying 50 = some (.struct (Try.prog.fieldsOf 50)) := by kernel_rfl
  have hp2 : Try.prog.stoodInHeld 50 = false := by kernel_rfl
  have hin : Sem.run Try.prog (Op.equalIn 9999 50 (.agg #[.int .i64 g.rc.q, .string (S g.rc.g), .int .i64 g.rc.s, .int .i64 g.rc.c]) (.agg #[.int .i64 g.rc.q, .string (S g.rc.g), .int .i64 g.rc.s, .int .i64 g.rc.c])) w = .ok true w := by
    rw [show (9999 : Nat) = 9998 + 1 from rfl, run_equalIn_agg w 9998 50 _ _ hS2 hp2]
    simp only [Program.fieldsOf, Try.underlying50]
    go_simp
  unfold Gv gC
  rw [run_eql_struct, show (10000 : Nat) = 9999 + 1 from rfl, run_equalIn_agg w 9999 52 _ _ hS hp]
  simp only [Program.fieldsOf, Try.underlying52]
  go_simp
theorem guardG (op : BinOp) (x y : Operand) (a b : Array Value) (w : World) : Sem.run Try.prog (eqGuard op 52 x y (.agg a) (.agg b)) w = .ok () w :=
  run_eqGuard_agg w op 52 x y _ _ (by kernel_rfl)
theorem neqG (g : Gt) (w : World) : Sem.run Try.prog (binOp .neq 52 (.agg (Gv g)) (.agg (Gv g))) w = .ok (.bool false) w := by
  have h := eqlG g w
  rw [run_eql_struct] at h
  rw [run_neq_struct]
  revert h
  generalize (Op.equalIn 10000 52 (.agg (Gv g)) (.agg (Gv g))).run Try.prog w = r
  intro h
  cases r with
  | ok b w' => simp only [Result.andThen_ok] at h ⊢; injection h with h1 h2; injection h1 with h1; rw [h1, h2]; rfl
  | halt x w' => simp [Result.andThen] at h
end Go.Proofs.Ytenkgpfeifflnaa.Wsr
