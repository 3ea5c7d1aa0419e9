/-
  The contracts of readCount and ReadText.
-/
import Derived.Test.YtcpmcfagibmboaaFew
import Derived.Test.YtcpmcfagibmboaaTexts
namespace Go.Proofs.Ytcpmcfagibmboaa.Rd
open Go.RowKit Kt Pl Wr Fw
set_option linter.unusedVariables false

/-- What ReadText hands back. -/
def ansT (r : List UInt8 × Nat × Nat) : Ending := .returned (.tuple #[.string (S r.1), .int .i64 (r.2.1 : Int), .int .i64 (r.2.2 : Int)])
end Go.Proofs.Ytcpmcfagibmboaa.Rd
