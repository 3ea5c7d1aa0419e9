/-
  The walk of PlaceOf.
-/
import Derived.Test.YtiinhfkpfklgjabPlO
namespace Go.Proofs.Ytiinhfkpfklgjab.Pof
open Go.RowKit Pl Pw Po
set_option linter.unusedVariables false
set_option maxRecDepth 20000

theorem gr_drewN (w : World) (q : Nat) : Gr w (w.drewN q) := ⟨⟨rfl, rfl, rfl, Nat.le_refl _, fun _ _ => rfl⟩, Nat.le_add_right _ _⟩
end Go.Proofs.Ytiinhfkpfklgjab.Pof
