/-
  The contracts of All and of 'works'.
-/
import Derived.Test.YthmedpabgblddabGreatDoorCrcG
import Derived.Lib.SlBytesConst
namespace Go.Proofs.YthmedpabgblddabGreatDoor.Ck
open Go.RowKit Kt Cs Cw Cf Cn Cg
set_option linter.unusedVariables false

theorem neq_func {P : Program} (w : World) (t : TypeId) (ps rs : Array TypeId) (b : Bool) (f : Fn) (x y : Array Value) (h : P.underlying t = some (.func ps rs b)) : (binOp .neq t (.func f x y) .nilFunc).run P w = .ok (.bool true) w := by
  have h1 : ∀ d, (Op.equalIn (d + 1) t (.func f x y) .nilFunc).run P w = .ok false w := fun d => by simp [Op.equalIn, run_underlying h]
  have h2 : (Op.equal t (.func f x y) .nilFunc).run P w = .ok false w := h1 9999
  simp only [binOp]
  simp [h2]

theorem cell_new_atF (W : World) (cs : Array Value) (t : TypeId) (fr : Nat × Nat) (j : Nat) (v : Value) (h : cs[j]? = some v) : (W.alloc (.cells cs t fr)).cell? ⟨W.heap.size, j, none⟩ = some v := by
  have h1 := heap_alloc_new W (.cells cs t fr)
  simp only [World.cell?, h1]; exact h
theorem row_newF (W : World) (cs : Array Value) (t : TypeId) (fr : Nat × Nat) (bs : List UInt8) (h : cs = (U bs).toArray) : Row (W.alloc (.cells cs t fr)) (some ⟨W.heap.size, 0, none⟩) bs := by
  intro _
  refine ⟨_, 0, rfl, fun i hi => ?_⟩
  rw [Nat.zero_add]
  refine cell_new_atF W cs t fr i _ ?_
  rw [h]
  have := U_at bs i hi
  simpa using this

set_option maxHeartbeats 1000000 in
set_option maxRecDepth 20000 in
theorem all_any (w : World) (ao : Option Addr) (cap : Nat) (bs : List UInt8) (hr : Row w ao bs) (hl : bs.length ≤ 1000000) :
    Calls Tryz.prog 60 #[.slice ao bs.length cap] w fun e W' => ∃ Bx a2 c2, e = .returned (.func (.func 77) #[] #[.pointer (some ⟨Bx, 0, none⟩)]) ∧ w.heap.size ≤ Bx ∧ W'.heap[Bx]? = some (.cells #[.slice a2 bs.length c2] 30) ∧ Row W' a2 bs ∧ bs.length ≤ c2 ∧ c2 ≤ 9223372036854775807 ∧ Below w.heap.size w W' := by
  go_enter Tryz.func60, Tryz.ntmps60
  go_wp2_with fail
  refine (clone_any w ao cap bs hr (by omega)).mono ?_
  rintro e w1 ⟨v1, rfl, hown1, hb1⟩
  obtain ⟨a2, c2, rfl, -, hc2, hr2⟩ := own_row hown1
  have hcm := own_cap hown1
  clear hown1
  go_wp2
  go_ret
  exact ⟨_, a2, c2, rfl, hb1.size, heap_alloc_new _ _, hr2.below ((Below.refl _ w1).alloc (Nat.le_refl _) _), hc2, hcm, hb1.alloc hb1.size _⟩

theorem sum9 : Cp.sum [49, 50, 51, 52, 53, 54, 55, 56, 57] = 3421780262 := by decide +kernel
theorem frameA : Cp.frame [97] = [1, 0, 0, 0, 121, 184, 248, 153, 67, 190, 183, 232, 97] := by decide +kernel
theorem gendA : gend ([1, 0, 0, 0, 121, 184, 248, 153, 67, 190, 183, 232, 97] ++ [7]) = 13 := by decide +kernel
theorem goodA : goodE ([1, 0, 0, 0, 121, 184, 248, 153, 67, 190, 183, 232, 97] ++ [7]) = 4 := by decide +kernel
end Go.Proofs.YthmedpabgblddabGreatDoor.Ck
