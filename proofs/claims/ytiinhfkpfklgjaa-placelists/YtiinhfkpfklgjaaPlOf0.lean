/-
  The walk of PlaceOf.
-/
import Derived.Test.YtiinhfkpfklgjaaPlO
namespace Go.Proofs.Ytiinhfkpfklgjaa.Pof
open Go.RowKit Pl Pw Po
set_option linter.unusedVariables false
set_option maxRecDepth 20000

theorem gr_drewN (w : World) (q : Nat) : Gr w (w.drewN q) := ⟨⟨rfl, rfl, rfl, Nat.le_refl _, fun _ _ => rfl⟩, Nat.le_add_right _ _⟩

set_option maxHeartbeats 1000000 in
theorem placeOf (w : World) (s : ByteArray) (hs : s.size ≤ 9223372036854775807) :
    Calls Try.prog 3 #[.string s] w fun e w' => e = .returned (.bool true) ∧ Below w.heap.size w w' := by
  obtain ⟨t, ht, ht2⟩ : ∃ t : ByteArray, s.extract 0 (min s.size 3000) = t ∧ t.size ≤ 3000 := ⟨_, rfl, by rw [ByteArray.size_extract]; omega⟩
  have hm : min (s.size : Int) 3000 = ((min s.size 3000 : Nat) : Int) := by omega
  have hm1 : (0 : Int) ≤ ((min s.size 3000 : Nat) : Int) := by omega
  have hm2 : ((min s.size 3000 : Nat) : Int) ≤ (s.size : Int) := by omega
  have hm3 : min s.size 3000 ≤ s.size := by omega
  generalize min s.size 3000 = m at ht hm hm1 hm2 hm3
  have h1 := fun W => of_any W t (by omega)
  have h2 := fun W => rof_any W t (by omega)
  have hl := ofP_lt t.data.toList
  generalize ofP t.data.toList = X at h1 h2 hl
  have hl2 : (X : Int) < 65536 := by omega
  have hl3 : (0 : Int) ≤ (X : Int) := by omega
  clear hl
  go_enter Try.func3, Try.ntmps3
  go_wp2_with fail
  refine (h1 _).mono ?_
  rintro e w1 ⟨rfl, rfl⟩
  go_wp2_with fail
  refine (h2 _).mono ?_
  rintro e w2 ⟨rfl, q, rfl⟩
  go_wp2_with fail
  refine (works_any _).mono ?_
  rintro e w3 ⟨rfl, hg⟩
  go_wp2
  go_ret
  exact ⟨rfl, ((gr_drewN _ _).trans hg).below⟩
end Go.Proofs.Ytiinhfkpfklgjaa.Pof
