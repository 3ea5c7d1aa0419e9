/-
  Same, of wire: a walk.
-/
import Derived.Test.YtjboldahmndkeaaWiN
import Derived.Test.YtjboldahmndkeaaWiF
import Derived.Deep.Cut
namespace Go.Proofs.Ytjboldahmndkeaa.Wn
open Go.RowKit Kt Pl Wi Wk We Wf
open At (RowT)
set_option linter.unusedVariables false
set_option linter.unusedSimpArgs false
set_option maxRecDepth 20000

/-- What a comparison hands back. -/
def Tells (w : World) (b : Bool) (e : Ending) (w' : World) : Prop := e = .returned (.bool b) ∧ Gr w w'
end Go.Proofs.Ytjboldahmndkeaa.Wn
