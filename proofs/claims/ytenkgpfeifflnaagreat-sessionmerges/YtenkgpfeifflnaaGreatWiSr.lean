/-
  SameReply of the document: a reply is the same as itself.
-/
import Derived.Test.YtenkgpfeifflnaaGreatWiA
import Derived.Test.YtenkgpfeifflnaaGreatWiN
import Derived.Test.YtenkgpfeifflnaaGreatWiR
namespace Go.Proofs.YtenkgpfeifflnaaGreat.Wsr
open Go.RowKit Kt Pl Wi Wk We Wa Wn Wx
open At (RowT)
set_option linter.unusedVariables false
set_option linter.unusedSimpArgs false
set_option maxRecDepth 20000

theorem eqlG (g : Gt) (w : World) : Sem.run Tryz.prog (binOp .eql 43 (.agg (Gv g)) (.agg (Gv g))) w = .ok (.bool true) w := by
  have u3 := Tryz.underlying3
  have a3 := Tryz.isAgg3
  have z3 := Tryz.sizeOf3
  have u9 := Tryz.underlying9
  have a9 := Tryz.isAgg9
  have z9 := Tryz.sizeOf9
  have u23 := Tryz.underlying41
  have a23 := Tryz.isAgg41
  have z23 := Tryz.sizeOf41
  have hS : Tryz.prog.underlying 43 = some (.struct (Tryz.prog.fieldsOf 43)) := by kernel_rfl
  have hp : Tryz.prog.stoodInHeld 43 = false := by kernel_rfl
  have hS2 : Tryz.prog.underlying 41 = some (.struct (Tryz.prog.fieldsOf 41)) := by kernel_rfl
  have hp2 : Tryz.prog.stoodInHeld 41 = false := by kernel_rfl
  have hin : Sem.run Tryz.prog (Op.equalIn 9999 41 (.agg #[.int .i64 g.rc.q, .string (S g.rc.g), .int .i64 g.rc.s, .int .i64 g.rc.c]) (.agg #[.int .i64 g.rc.q, .string (S g.rc.g), .int .i64 g.rc.s, .int .i64 g.rc.c])) w = .ok true w := by
    rw [show (9999 : Nat) = 9998 + 1 from rfl, run_equalIn_agg w 9998 41 _ _ hS2 hp2]
    simp only [Program.fieldsOf, Tryz.underlying41]
    go_simp
  unfold Gv gC
  rw [run_eql_struct, show (10000 : Nat) = 9999 + 1 from rfl, run_equalIn_agg w 9999 43 _ _ hS hp]
  simp only [Program.fieldsOf, Tryz.underlying43]
  go_simp
theorem guardG (op : BinOp) (x y : Operand) (a b : Array Value) (w : World) : Sem.run Tryz.prog (eqGuard op 43 x y (.agg a) (.agg b)) w = .ok () w :=
  run_eqGuard_agg w op 43 x y _ _ (by kernel_rfl)
theorem neqG (g : Gt) (w : World) : Sem.run Tryz.prog (binOp .neq 43 (.agg (Gv g)) (.agg (Gv g))) w = .ok (.bool false) w := by
  have h := eqlG g w
  rw [run_eql_struct] at h
  rw [run_neq_struct]
  revert h
  generalize (Op.equalIn 10000 43 (.agg (Gv g)) (.agg (Gv g))).run Tryz.prog w = r
  intro h
  cases r with
  | ok b w' => simp only [Result.andThen_ok] at h ⊢; injection h with h1 h2; injection h1 with h1; rw [h1, h2]; rfl
  | halt x w' => simp [Result.andThen] at h
end Go.Proofs.YtenkgpfeifflnaaGreat.Wsr
