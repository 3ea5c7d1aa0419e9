/-
  The contracts of New, Len, Copy, Sum, Of, Token and 'works'.
-/
import Derived.Test.YtcpmaddleleblaaDoorDgF
import Derived.Test.YtcpmaddleleblaaDoorDgQ
import Derived.Lib.SlBytesConst
namespace Go.Proofs.YtcpmaddleleblaaDoor.Dg
open Go.RowKit Kt Dk Dw Ds Dt De Df
set_option linter.unusedVariables false
set_option maxRecDepth 20000

theorem hs_made {w : World} {b : Nat} {all : List UInt8} (h : Hs w b all) : w.cell? ⟨b, 0, none⟩ = some (.bool true) := by obtain ⟨_, _, h⟩ := h; exact hMade h
theorem hs_size {w : World} {b : Nat} {all : List UInt8} (h : Hs w b all) : w.cell? ⟨b, 73, none⟩ = some (.int .i64 (all.length : Int)) := by obtain ⟨_, _, h⟩ := h; exact hSize h
theorem hs_lt {w : World} {b : Nat} {all : List UInt8} (h : Hs w b all) : b < w.heap.size := by obtain ⟨_, _, h⟩ := h; exact hLt h
theorem hs_block {w w' : World} {b : Nat} {all : List UInt8} (h : Hs w b all) (e : w'.heap[b]? = w.heap[b]?) : Hs w' b all := by
  obtain ⟨blk, h1, h2, h3, h4⟩ := h
  exact ⟨blk, h1, h2, h3, by rw [e]; exact h4⟩
theorem hs_below {w w' : World} {b B : Nat} {all : List UInt8} (h : Hs w b all) (hb : Below B w w') (hB : b < B) : Hs w' b all := hs_block h (hb.block b hB)
theorem hs_only {w w' : World} {b c : Nat} {all : List UInt8} (h : Hs w b all) (hb : Only c w w') (hc : b ≠ c) : Hs w' b all := hs_block h (hb.heap (hs_lt h) hc)

theorem wpList_build {P : Program} {w : World} {ops : Array Oper} {rest : List Oper} {o : Oper} {a : Act} {Q : Exit → Act → World → Prop} (hgd : o.guard = none) (ty : TypeId) (ps : Array (Nat × Operand)) (ho : o.op = .build ty ps) (parts : Array (Nat × Value)) (hp : (ps.map fun p => (p.1, a.eval p.2)) = parts) (v : Value) (hr : (Instr.build ty parts).run P w = .ok v w)
    (h : wpList P ops Q rest (a.put o.dst v) w) : wpList P ops Q (o :: rest) a w := by
  refine wpList_plain hgd fun _ hK => ?_
  unfold Oper.wp execOp
  simp only [ho]
  rw [show (ps.map fun x => (x.1, a.eval x.2)) = parts from hp]
  simp only [Sem.run_bind, Sem.run_pure, hr, Result.andThen_ok]
  exact hK _ _ h
theorem build_new (W : World) : (Instr.build 146 #[(0, .bool true), (1, .agg #[.int .u32 1779033703, .int .u32 3144134277, .int .u32 1013904242, .int .u32 2773480762, .int .u32 1359893119, .int .u32 2600822924, .int .u32 528734635, .int .u32 1541459225])]).run Tryd.prog W = .ok (.agg (hc Dp.init.list (List.replicate 64 0) 0)) W := by kernel_rfl

set_option maxHeartbeats 2000000 in
theorem new_any (w : World) : Calls Tryd.prog 86 #[] w fun e w' => e = .returned (.pointer (some ⟨w.heap.size, 0, none⟩)) ∧ Hs w' w.heap.size [] ∧ Below w.heap.size w w' := by
  go_enter Tryd.func86, Tryd.ntmps86
  have hbn := build_new
  generalize hC : hc Dp.init.list (List.replicate 64 0) 0 = C at hbn
  have HC : Hid (hc Dp.init.list (List.replicate 64 0) 0 = C) := hC
  clear hC
  go_wp2_with (refine wpList_build rfl 146 #[(0, .const (.bool true)), (1, .tmp 1)] rfl #[(0, .bool true), (1, .agg #[.int .u32 1779033703, .int .u32 3144134277, .int .u32 1013904242, .int .u32 2773480762, .int .u32 1359893119, .int .u32 2600822924, .int .u32 528734635, .int .u32 1541459225])] (by simp [Act.eval]) (.agg C) (hbn _) ?_)
  go_ret
  refine ⟨rfl, ⟨List.replicate 64 0, rfl, rfl, rfl, ?_⟩, (Below.refl _ w).alloc (Nat.le_refl _) _⟩
  show _ = some (Obj.cells (hc Dp.init.list (List.replicate 64 0) 0) 146 (0, 0))
  rw [HC.out]
  exact heap_alloc_new _ _
end Go.Proofs.YtcpmaddleleblaaDoor.Dg
