/-
  The contracts of New, Len, Copy, Sum, Of, Token and 'works'.
-/
import Derived.Test.YtnnhimoihbdopaaDoorDgF
import Derived.Test.YtnnhimoihbdopaaDoorDgQ
import Derived.Lib.SlBytesConst
namespace Go.Proofs.YtnnhimoihbdopaaDoor.Dg
open Go.RowKit Kt Dk Dw Ds Dt De Df
set_option linter.unusedVariables false
set_option maxRecDepth 20000

theorem hs_made {w : World} {b : Nat} {all : List UInt8} (h : Hs w b all) : w.cell? ⟨b, 0, none⟩ = some (.bool true) := by obtain ⟨_, _, h⟩ := h; exact hMade h
theorem hs_size {w : World} {b : Nat} {all : List UInt8} (h : Hs w b all) : w.cell? ⟨b, 73, none⟩ = some (.int .i64 (all.length : Int)) := by obtain ⟨_, _, h⟩ := h; exact hSize h
theorem hs_lt {w : World} {b : Nat} {all : List UInt8} (h : Hs w b all) : b < w.heap.size := by obtain ⟨_, _, h⟩ := h; exact hLt h
theorem hs_block {w w' : World} {b : Nat} {all : List UInt8} (h : Hs w b all) (e : w'.heap[b]? = w.heap[b]?) : Hs w' b all := by
  obtain ⟨blk, h1, h2, h3, h4⟩ := h
  exact ⟨blk, h1, h2, h3, by rw [e]; exact h4⟩
theorem hs_below {w w' : World} {b B : Nat} {all : List UInt8} (h : Hs w b all) (hb : Below B w w') (hB : b < B) : Hs w' b all := hs_block h (hb.block b hB)
theorem hs_only {w w' : World} {b c : Nat} {all : List UInt8} (h : Hs w b all) (hb : Only c w w') (hc : b ≠ c) : Hs w' b all := hs_block h (hb.heap (hs_lt h) hc)

theorem wpList_build {P : Program} {w : World} {ops : Array Oper} {rest : List Oper} {o : Oper} {a : Act} {Q : Exit → Act → World → Prop} (hgd : o.guard = none) (ty : TypeId) (ps : Array (Nat × Operand)) (ho : o.op = .build ty ps) (parts : Array (Nat × Value)) (hp : (ps.map fun p => (p.1, a.eval p.2)) = parts) (v : Value) (hr : (Instr.build ty parts).run P w = .ok v w)
    (h : wpList P ops Q rest (a.put o.dst v) w) : wpList P ops Q (o :: rest) a w := by
  refine wpList_plain hgd fun _ hK => ?_
  unfold Oper.wp execOp
  simp only [ho]
  rw [show (ps.map fun x => (x.1, a.eval x.2)) = parts from hp]
  simp only [Sem.run_bind, Sem.run_pure, hr, Result.andThen_ok]
  exact hK _ _ h
theorem build_new (W : World) : (Instr.build 42 #[(0, .bool true), (1, .agg #[.int .u32 1779033703, .int .u32 3144134277, .int .u32 1013904242, .int .u32 2773480762, .int .u32 1359893119, .int .u32 2600822924, .int .u32 528734635, .int .u32 1541459225])]).run Tryd.prog W = .ok (.agg (hc Dp.init.list (List.replicate 64 0) 0)) W := by kernel_rfl

set_option maxHeartbeats 2000000 in
theorem new_any (w : World) : Calls Tryd.prog 15 #[] w fun e w' => e = .returned (.pointer (some ⟨w.heap.size, 0, none⟩)) ∧ Hs w' w.heap.size [] ∧ Below w.heap.size w w' := by
  go_enter Tryd.func15, Tryd.ntmps15
  have hbn := build_new
  generalize hC : hc Dp.init.list (List.replicate 64 0) 0 = C at hbn
  have HC : Hid (hc Dp.init.list (List.replicate 64 0) 0 = C) := hC
  clear hC
  go_wp2_with (refine wpList_build rfl 42 #[(0, .const (.bool true)), (1, .tmp 1)] rfl #[(0, .bool true), (1, .agg #[.int .u32 1779033703, .int .u32 3144134277, .int .u32 1013904242, .int .u32 2773480762, .int .u32 1359893119, .int .u32 2600822924, .int .u32 528734635, .int .u32 1541459225])] (by simp [Act.eval]) (.agg C) (hbn _) ?_)
  go_ret
  refine ⟨rfl, ⟨List.replicate 64 0, rfl, rfl, rfl, ?_⟩, (Below.refl _ w).alloc (Nat.le_refl _) _⟩
  show _ = some (Obj.cells (hc Dp.init.list (List.replicate 64 0) 0) 42 (0, 0))
  rw [HC.out]
  exact heap_alloc_new _ _

theorem len_any (w : World) (b : Nat) (all : List UInt8) (h : Hs w b all) : Calls Tryd.prog 18 #[.pointer (some ⟨b, 0, none⟩)] w fun e w' => e = .returned (.int .i64 (all.length : Int)) ∧ w' = w := by
  have h1 := hs_made h
  have h2 := hs_size h
  go_enter Tryd.func18, Tryd.ntmps18
  go_wp2_with fail
  refine (isMade_any w b h1).mono ?_
  rintro e w1 ⟨rfl, hw⟩
  have hw2 := hw.symm
  subst hw2
  go_wp2
  go_ret
  exact ⟨rfl, rfl⟩

theorem copy_any (w : World) (b : Nat) (all : List UInt8) (h : Hs w b all) : Calls Tryd.prog 19 #[.pointer (some ⟨b, 0, none⟩)] w fun e w' => e = .returned (.pointer (some ⟨w.heap.size, 0, none⟩)) ∧ Hs w' w.heap.size all ∧ Below w.heap.size w w' := by
  have h1 := hs_made h
  obtain ⟨blk, hb1, hb2, hb3, hb4⟩ := h
  have hsz := hc_size (n := all.length) hb2 hb3
  have hone := hc_one (n := all.length) hb2 hb3
  obtain ⟨C, hC⟩ : ∃ C : List Value, C = (hc (Dp.blks Dp.init all (all.length / 64)).list blk all.length).toList := ⟨_, rfl⟩
  have hCa : hc (Dp.blks Dp.init all (all.length / 64)).list blk all.length = C.toArray := by rw [hC]
  rw [← hC] at hone
  have hCl : C.length = 74 := by rw [hC]; simpa using hsz
  have hi : (Tryd.prog.info? 42).map (·.size) = some C.length := by rw [hCl]; kernel_rfl
  have HX : Hid (∀ w' : World, w'.heap[w.heap.size]? = some (.cells C.toArray 42 (0, 0)) → Hs w' w.heap.size all) := fun w' h => ⟨blk, hb1, hb2, hb3, by rw [h, hCa]⟩
  rw [hCa] at hb4
  have HI := mkH hi
  have HL := mkH hCl
  clear hCa hC hb1 hb2 hb3 hsz hi hCl
  go_enter Tryd.func19, Tryd.ntmps19
  go_wp2_with fail
  refine (isMade_any w b h1).mono ?_
  rintro e w1 ⟨rfl, hw⟩
  have hw2 := hw.symm
  subst hw2
  go_wp2_with (first
    | (refine wpList_load_agg rfl 42 (.tmp 8) rfl _ Tryd.underlying42 rfl b 0 rfl C HI.out ?hc ?_; (case hc => intro j v hv; rw [Nat.zero_add, cell_of_row _ _ _ _ _ _ hb4]; simpa using hv))
    | (refine wpList_alloc_agg rfl 42 rfl 74 (by kernel_rfl) ?_; intro Z hZ)
    | (refine wpList_store_new rfl 42 (.tmp 3) (.tmp 9) rfl w Z rfl C rfl HI.out (by rw [hZ, HL.out]) hone ?_))
  go_ret
  exact ⟨rfl, HX.out _ (heap_alloc_new _ _), (Below.refl _ w).alloc (Nat.le_refl _) _⟩
end Go.Proofs.YtnnhimoihbdopaaDoor.Dg
