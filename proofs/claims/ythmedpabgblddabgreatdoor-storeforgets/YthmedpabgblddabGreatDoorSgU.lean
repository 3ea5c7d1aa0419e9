/-
  The contract of Drop.
-/
import Derived.Test.YthmedpabgblddabGreatDoorSgO
namespace Go.Proofs.YthmedpabgblddabGreatDoor.Su
open Go.RowKit Kt Cs Cf Cv Dk Dp Da Db Dc Dd De Sq Sr Sa Sb Sc Se So Pl
set_option linter.unusedVariables false
set_option maxRecDepth 20000
end Go.Proofs.YthmedpabgblddabGreatDoor.Su
