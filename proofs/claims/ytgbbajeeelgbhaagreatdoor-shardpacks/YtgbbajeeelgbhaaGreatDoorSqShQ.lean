/-
  A list of texts taken apart.
-/
import Derived.Test.YtgbbajeeelgbhaaGreatDoorSqShP
import Derived.Test.YtgbbajeeelgbhaaGreatDoorSqAH
namespace Go.Proofs.YtgbbajeeelgbhaaGreatDoor.Hq
open Go.RowKit Kt Gf Gp Gr Gk Gs
set_option linter.unusedVariables false
set_option linter.unusedSimpArgs false
set_option maxRecDepth 20000

theorem szT : (Tryz.prog.info? 9).map (·.size) = some 1 := by rfl

set_option maxHeartbeats 1000000 in
theorem apart_any (w : World) (ao : Option Addr) (len cap n : Nat) (hn : n ≤ len) (hc : len ≤ cap) (hcap : cap ≤ 9223372036854775807) :
    Calls Tryz.prog 64 #[.slice ao len cap, .int .i64 (n : Int)] w fun e w' => e = .returned (.tuple #[.slice ao n n, .slice (ad ao len n 1) (len - n) (len - n)]) ∧ Below w.heap.size w w' := by
  have h1 := fun W : World => run_hm (P := Tryz.prog) W Tryz.underlying33 szT ao len cap n n (Nat.le_refl _) (by omega)
  have h2 := fun W : World => run_lhm (P := Tryz.prog) W Tryz.underlying33 szT ao len cap n len len hn (Nat.le_refl _) hc
  generalize ad ao len n 1 = aq at h2 ⊢
  go_enter Tryz.func64, Tryz.ntmps64
  go_wp2_with fail
  go_region
  all_goals go_wp2
  all_goals go_ret2
  all_goals exact ⟨rfl, ⟨rfl, rfl, rfl, Nat.le_refl _, fun _ _ => rfl⟩⟩
end Go.Proofs.YtgbbajeeelgbhaaGreatDoor.Hq
