/-
  Find: the library's search by a function that asks for a place.
-/
import Derived.Test.YtabckkepkennhaaPlF
import Derived.Test.YtabckkepkennhaaPlSh
import Derived.Lib.SliceRun
namespace Go.Proofs.Ytabckkepkennhaa.Pg
open Go.RowKit Pl Pw Pr Pf Go.Shelf Go.Lib
open Kt hiding mkH
set_option linter.unusedVariables false
set_option maxRecDepth 20000

/-- A range's two cells. -/
def encR (x : Rg) : List Value := [.int .i64 x.1, .int .i64 x.2]

theorem idx_fnd (l : List Rg) (p : Int) (d : Rg) : ∀ k : Nat, Lib.idxByFrom (fun _ y => inn y p) d l k = fnd l p k := by
  induction l with
  | nil => intro k; rfl
  | cons r t ih =>
    intro k
    rw [Lib.idxByFrom, fnd, ih]
end Go.Proofs.Ytabckkepkennhaa.Pg
