/-
  works: the chapter's example.
-/
import Derived.Test.YtaainjkhenenoaaB9G
import Derived.Test.YtaainjkhenenoaaB9N
namespace Go.Proofs.Ytaainjkhenenoaa.Bw
open Go.RowKit Kt Dk Bp Bm Br Bs Bg Bn Go.Maps
set_option linter.unusedVariables false
set_option maxRecDepth 20000

theorem two {ys : List X} {p q : Int × Int × List UInt8} (h : ys.map p3 = [p, q]) : ∃ y z, ys = [y, z] ∧ p3 y = p ∧ p3 z = q := by
  match ys, h with
  | [y, z], h => simp at h; exact ⟨y, z, rfl, h.1, h.2⟩

set_option maxHeartbeats 4000000 in
theorem works_any (w : World) : Calls Try.prog 19 #[] w fun e w' => e = .returned (.bool true) ∧ Below w.heap.size w w' := by
  go_enter Try.func19, Try.ntmps19
  go_wp2_with fail
  refine (make_any w 1 2).mono ?_
  rintro e w1 ⟨rfl, hw⟩
  have hw := hw.symm
  subst hw
  have e1 : mkV 1 2 = 10 := by decide
  have e2 : mkE 1 2 = 0 := by decide
  rw [e1, e2]
  clear e1 e2
  go_wp2_with fail
  refine (next_any w 10 1 (by omega)).mono ?_
  rintro e w1 ⟨rfl, hw⟩
  have hw := hw.symm
  subst hw
  have e1 : nxV 10 1 = 17 := by decide
  have e2 : nxE 10 1 = 0 := by decide
  rw [e1, e2]
  clear e1 e2
  go_wp2_with fail
  generalize hA : (w.alloc (Obj.cells #[Value.int IntKind.i64 0, Value.int IntKind.i64 3, Value.slice none 0 0] 38)) = wA
  have sA : wA.heap.size = w.heap.size + 1 := by rw [← hA]; simp
  have bA : Below w.heap.size w wA := by rw [← hA]; exact (Below.refl _ w).alloc (Nat.le_refl _) _
  have rA : RX wA (some ⟨w.heap.size, 0, none⟩) [⟨0, 3, [], none, 0⟩] := by
    refine ⟨?_, fun x hx => ?_⟩
    · rw [← hA]; exact RowS.new vC_len w _ _ [⟨0, 3, [], none, 0⟩] rfl
    · simp only [List.mem_singleton] at hx
      subst hx
      exact ⟨Row.nil _ _, by decide, Nat.le_refl _, by decide⟩
  rw [← sA]
  generalize hB : (wA.alloc (Obj.cells #[Value.int IntKind.i64 0, Value.int IntKind.i64 5, Value.slice none 0 0, Value.int IntKind.i64 1, Value.int IntKind.i64 2, Value.slice none 0 0] 38)) = wB
  have sB : wB.heap.size = wA.heap.size + 1 := by rw [← hB]; simp
  have bB : Below wA.heap.size wA wB := by rw [← hB]; exact (Below.refl _ wA).alloc (Nat.le_refl _) _
  have rB : RX wB (some ⟨wA.heap.size, 0, none⟩) [⟨0, 5, [], none, 0⟩, ⟨1, 2, [], none, 0⟩] := by
    refine ⟨?_, fun x hx => ?_⟩
    · rw [← hB]; exact RowS.new vC_len wA _ _ [⟨0, 5, [], none, 0⟩, ⟨1, 2, [], none, 0⟩] rfl
    · simp only [List.mem_cons, List.not_mem_nil, or_false] at hx
      rcases hx with rfl | rfl <;> exact ⟨Row.nil _ _, by decide, Nat.le_refl _, by decide⟩
  rw [← sB]
  generalize hC : (wB.alloc (Obj.cells #[Value.slice (some { block := w.heap.size, off := 0 }) 1 1, Value.slice (some { block := wA.heap.size, off := 0 }) 2 2] 30)) = wC
  have bC : Below wB.heap.size wB wC := by rw [← hC]; exact (Below.refl _ wB).alloc (Nat.le_refl _) _
  have rC : RL wC (some ⟨wB.heap.size, 0, none⟩) [⟨some ⟨w.heap.size, 0, none⟩, [⟨0, 3, [], none, 0⟩], 1⟩, ⟨some ⟨wA.heap.size, 0, none⟩, [⟨0, 5, [], none, 0⟩, ⟨1, 2, [], none, 0⟩], 2⟩] := by
    refine ⟨?_, fun x hx => ?_⟩
    · rw [← hC]; exact RowS.new lC_len wB _ _ [⟨some ⟨w.heap.size, 0, none⟩, [⟨0, 3, [], none, 0⟩], 1⟩, ⟨some ⟨wA.heap.size, 0, none⟩, [⟨0, 5, [], none, 0⟩, ⟨1, 2, [], none, 0⟩], 2⟩] rfl
    · simp only [List.mem_cons, List.not_mem_nil, or_false] at hx
      rcases hx with rfl | rfl
      · exact (rA.below bB).below bC
      · exact rB.below bC
  have sC : w.heap.size ≤ wC.heap.size := by have := bC.size; omega
  have HBC : Hid (Below w.heap.size w wC) := (bA.trans (bB.mono (by omega))).trans (bC.mono (by omega))
  clear hA hB hC bA bB bC rA rB
  refine (merge_any wC (some ⟨wB.heap.size, 0, none⟩) 2 [⟨some ⟨w.heap.size, 0, none⟩, [⟨0, 3, [], none, 0⟩], 1⟩, ⟨some ⟨wA.heap.size, 0, none⟩, [⟨0, 5, [], none, 0⟩, ⟨1, 2, [], none, 0⟩], 2⟩] rC (by simp [flat]) (by simp) (by simp) (by decide) (fun x hx => ?_)).mono ?_
  · simp only [flat, List.flatMap_cons, List.flatMap_nil, List.append_nil, List.cons_append, List.nil_append, List.mem_cons, List.not_mem_nil, or_false] at hx
    rcases hx with rfl | rfl | rfl <;> decide
  rintro e w4 ⟨ra, rc, ys, rfl, hp, ho, -, hb⟩
  obtain ⟨y, z, rfl, e1, -⟩ := two (p := (0, 5, [])) (q := (1, 2, [])) (hp.trans rfl)
  have hB4 : Hid (Below w.heap.size w w4) := HBC.out.trans (hb.mono sC)
  obtain ⟨rb, rfl⟩ : ∃ rb, ra = some ⟨rb, 0, none⟩ := by
    rcases ho.2 with ⟨e, h0⟩ | ⟨g, cap, cur, e, -⟩
    · simp at h0
    · simp only [Value.slice.injEq] at e
      exact ⟨g, e.1⟩
  have hyb : y.b = 5 := by simp only [p3, Prod.mk.injEq] at e1; exact e1.2.1
  have hc : w4.cell? ⟨rb, 1, none⟩ = some (.int .i64 5) := by
    have := World.ownsRow.cellAt ho 1 (by simp)
    rw [this, ← hyb]
    rfl
  clear ho hp hb e1 hyb rC
  go_wp2_with fail
  refine (quorum_any w4 5 (by omega)).mono ?_
  rintro e w1 ⟨rfl, hw⟩
  have hw := hw.symm
  subst hw
  have e1 : quo 5 = 3 := by decide
  rw [e1]
  clear e1
  go_wp2
  go_ret
  exact ⟨rfl, hB4.out⟩
end Go.Proofs.Ytaainjkhenenoaa.Bw
