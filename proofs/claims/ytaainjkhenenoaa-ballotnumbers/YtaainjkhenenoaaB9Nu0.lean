/-
  BallotNumbers: the walk.
-/
import Derived.Test.YtaainjkhenenoaaB9W
import Derived.Test.YtaainjkhenenoaaB9F
namespace Go.Proofs.Ytaainjkhenenoaa.Bnu
open Go.RowKit Kt Dk Bp Bm Br Bs Bg Bn Bw Bf Go.Maps
set_option linter.unusedVariables false
set_option maxRecDepth 20000

set_option maxHeartbeats 4000000 in
theorem numbers_walk (w : World) (a b : Int) (ha : a ≤ 9223372036854775807) :
    Calls Try.prog 3 #[.int .i64 a, .int .i64 b] w fun e w' => e = .returned (.bool true) ∧ Below w.heap.size w w' := by
  go_enter Try.func3, Try.ntmps3
  go_wp2_with fail
  refine (make_any w a b).mono ?_
  rintro e w1 ⟨rfl, hw⟩
  have hw := hw.symm
  subst hw
  go_wp2_with fail
  refine (rmake_any w a b).mono ?_
  rintro e w1 ⟨rfl, hw⟩
  have hw := hw.symm
  subst hw
  generalize mkV a b = v1
  generalize mkE a b = e1
  go_wp2_with fail
  refine (next_any w a b ha).mono ?_
  rintro e w1 ⟨rfl, hw⟩
  have hw := hw.symm
  subst hw
  go_wp2_with fail
  refine (rnext_any w a b ha).mono ?_
  rintro e w1 ⟨rfl, hw⟩
  have hw := hw.symm
  subst hw
  generalize nxV a b = v2
  generalize nxE a b = e2
  go_wp2_with fail
  refine (round_any w a ha).mono ?_
  rintro e w1 ⟨rfl, hw⟩
  have hw := hw.symm
  subst hw
  go_wp2_with fail
  refine (rround_any w a ha).mono ?_
  rintro e w1 ⟨rfl, hw⟩
  have hw := hw.symm
  subst hw
  generalize rdV a = v3
  go_wp2_with fail
  refine (node_any w a ha).mono ?_
  rintro e w1 ⟨rfl, hw⟩
  have hw := hw.symm
  subst hw
  go_wp2_with fail
  refine (rnode_any w a ha).mono ?_
  rintro e w1 ⟨rfl, hw⟩
  have hw := hw.symm
  subst hw
  generalize ndV a = v4
  go_wp2_with fail
  refine (quorum_any w a ha).mono ?_
  rintro e w1 ⟨rfl, hw⟩
  have hw := hw.symm
  subst hw
  go_wp2_with fail
  refine (rquorum_any w a ha).mono ?_
  rintro e w1 ⟨rfl, hw⟩
  have hw := hw.symm
  subst hw
  generalize quo a = v5
  go_wp2_with fail
  refine (works_any _).mono ?_
  rintro e w1 ⟨rfl, hb1⟩
  go_wp2
  go_ret
  exact ⟨rfl, hb1⟩
end Go.Proofs.Ytaainjkhenenoaa.Bnu
