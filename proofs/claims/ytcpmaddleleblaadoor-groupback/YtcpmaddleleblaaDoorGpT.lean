/-
  The document's SameKept.
-/
import Derived.Test.YtcpmaddleleblaaDoorGpG
namespace Go.Proofs.YtcpmaddleleblaaDoor.Gt
open Go.RowKit Kt Gf Gp Gr Gk Ga Gb Gg
set_option linter.unusedVariables false
set_option linter.unusedSimpArgs false
set_option maxRecDepth 20000

theorem strEqq (a b : ByteArray) (h : a = b) : (a.toList == b.toList) = true := by rw [h]; simp

set_option maxHeartbeats 4000000 in
theorem sameKept_eq (w : World) (l : List K) (a b : Option Addr) (c d : Nat) (ha : Ls w l a c) (hb : Ls w l b d) (hl : l.length ≤ 1000000000) :
    Calls Tryd.prog 13 #[.slice a l.length c, .slice b l.length d] w fun e w' => e = .returned (.bool true) ∧ Below w.heap.size w w' := by
  have HA := mkH ha.r
  have HB := mkH hb.r
  clear ha hb
  go_enter Tryd.func13, Tryd.ntmps13
  go_wp2_with fail
  go_loopw [5] (fun i WW => ∃ j : Nat, j ≤ l.length ∧ i = .int .i64 (j : Int) ∧ Hid (Below w.heap.size w WW)) (fun i _ => l.length - (intOf i).toNat)
  case atStart => exact ⟨0, Nat.zero_le _, rfl, Below.refl _ _⟩
  case round =>
    obtain ⟨j, hj, rfl, HW⟩ := hrel
    rcases Nat.lt_or_ge j l.length with hjl | hjl
    · obtain ⟨x, hx⟩ := some_of hjl
      obtain ⟨b1, off1, rfl, z0, z1, z2, z3, z4, z5⟩ := atK (HA.out.below HW.out) hx
      obtain ⟨b2, off2, rfl, y0, y1, y2, y3, y4, y5⟩ := atK (HB.out.below HW.out) hx
      obtain ⟨x0, x1, x2, x3, x4, x5⟩ := x
      simp only at z0 z1 z2 z3 z4 z5 y0 y1 y2 y3 y4 y5
      have jz : (j : Int) < (l.length : Int) := by omega
      clear hx
      go_wp2_with fail
      go_region
      all_goals
        go_wp2
        go_roundw
        case rel => exact ⟨j + 1, by omega, by go_num, by first | exact HW | exact mkH HW.out.drew⟩
        case measure => simp [intOf]; omega
    · obtain rfl : j = l.length := by omega
      go_wp2
      go_ret
      exact ⟨rfl, HW⟩
end Go.Proofs.YtcpmaddleleblaaDoor.Gt
