/-
  What is told of a reply that came in.
-/
import Derived.Test.YtenkgpfeifflnaaGreatWiA
namespace Go.Proofs.YtenkgpfeifflnaaGreat.Wfr
open Go.RowKit Kt Pl Wi Wk Wa
open At (RowT)
set_option linter.unusedVariables false

/-- What is told of a reply that came in. -/
structure RpIn (w : World) (r : Rp) (ga : Option Addr) (gc : Nat) (da : Option Addr) (dc : Nat) (ra : Option Addr) (rc : Nat) : Prop where
  mem : RpM w r ga da ra
  g1 : r.got.length ≤ 9223372036854775807
  d1 : r.data.length ≤ 9223372036854775807
  a1 : r.about.length ≤ rc
  a2 : rc ≤ 9223372036854775807
  t : ∀ g ∈ r.got, g.body.length ≤ 9223372036854775807 ∧ g.rc.g.length ≤ 9223372036854775807
end Go.Proofs.YtenkgpfeifflnaaGreat.Wfr
