/-
  The contracts of fresh, pieces, Append, Sync, Read, Cut, Swap, Restart, Kept, Copy.
-/
import Derived.Test.YthmedpabgblddabGreatDoorDiA
namespace Go.Proofs.YthmedpabgblddabGreatDoor.Db
open Go.RowKit Kt Dk Dp Da
set_option linter.unusedVariables false
set_option linter.unusedSectionVars false
set_option maxRecDepth 20000

section
variable {P : Program} {w : World} {ops : Array Oper} {rest : List Oper} {o : Oper} {a : Act} {Q : Exit → Act → World → Prop}
theorem wpList_copy (hgd : o.guard = none) (s x : Operand) (t tx : TypeId) (ho : o.op = .call { callee := .builtin .copy, args := #[s, x], argTypes := #[t, tx] })
    (sv xv v' : Value) (w' : World) (hs : a.eval s = sv) (hx : a.eval x = xv) (hr : (Builtin.copy_ #[t, tx] o.type #[sv, xv]).run P w = .ok v' w')
    (h : wpList P ops Q rest (a.put o.dst v') w') : wpList P ops Q (o :: rest) a w := by
  refine wpList_plain hgd fun _ hK => ?_
  unfold Oper.wp execOp
  simp only [ho, resolve, invoke, builtin, Sem.run_bind, Sem.run_pure, Result.andThen_ok, List.map_toArray, List.map_cons, List.map_nil, hs, hx, hr]
  exact hK _ _ h
/-- 'append' onto a disk's bytes. -/
theorem wpList_append_ow (hgd : o.guard = none) (s x : Operand) (t tx : TypeId) (ho : o.op = .call { callee := .builtin .append, args := #[s, x], argTypes := #[t, tx] })
    (F : Nat → Prop) (D e : Nat) (z : Value) (ht : P.underlying t = some (.slice e)) (hinfo : (P.info? e).map (fun i => (i.zero, i.size, i.bytes)) = some (some z, 1, 1)) (hzs : z.cells.size = 1)
    (v : Value) (bs : List UInt8) (hs : a.eval s = v) (hown : Ow w F D e v bs) (xv : Value) (news : List UInt8) (hx : a.eval x = xv) (hsrc : Src P 1 tx xv news.length (U news) w) (hlen : bs.length + news.length ≤ 4194304) (hD : D < w.heap.size)
    (h : ∀ v' w', Fr (fun k => F k ∧ k ≠ D) w w' → Ow w' (fun k => F k ∨ (w.heap.size ≤ k ∧ k < w'.heap.size)) D e v' (bs ++ news) → wpList P ops Q rest (a.put o.dst v') w') : wpList P ops Q (o :: rest) a w := by
  refine wpList_plain hgd fun _ hK => ?_
  obtain ⟨v', w', hr, h2, h3⟩ := run_append_ow (P := P) w F D t tx o.type e z ht hinfo hzs v bs hown xv news hsrc hlen hD
  unfold Oper.wp execOp
  simp only [ho, resolve, invoke, builtin, Sem.run_bind, Sem.run_pure, Result.andThen_ok, List.map_toArray, List.map_cons, List.map_nil, hs, hx, hr]
  exact hK _ _ (h v' w' h2 h3)
end

theorem run_copy_fresh (w : World) (ao : Option Addr) (cap : Nat) (bs : List UInt8) (hr : Row w ao bs) (C : Array Value) (hC : C.size = bs.length) (ty : TypeId) :
    (Builtin.copy_ #[30, 30] ty #[.slice (some ⟨w.heap.size, 0, none⟩) bs.length bs.length, .slice ao bs.length cap]).run Tryz.prog (w.alloc (.cells C 5)) = .ok (.int .i64 (bs.length : Int)) (w.alloc (.cells (U bs).toArray 5)) := by
  have hr2 := hr.below ((Below.refl w.heap.size w).alloc (Nat.le_refl _) (.cells C 5))
  by_cases h0 : 0 < bs.length
  · obtain ⟨b2, o2, rfl, hc⟩ := hr2 h0
    have := run_copy_row Tryz.prog (w.alloc (.cells C 5)) 30 30 ty 5 w.heap.size 0 bs.length bs.length ⟨b2, o2, none⟩ bs.length cap C 5 (U bs) Tryz.underlying30 size5 (heap_alloc_new _ _) (by rw [U_length]; exact (Nat.min_self _).symm) (fun j v hv => by
      obtain ⟨hj, rfl⟩ := U_get _ _ _ hv
      rw [Addr.add_lit, hc j hj]) (by rw [U_length]; omega) (U_one _)
    rw [this, World.setRow_alloc_new]
    have e : (C.toList.take 0 ++ U bs ++ C.toList.drop (0 + (U bs).length)).toArray = (U bs).toArray := by
      rw [List.drop_eq_nil_of_le (by rw [U_length]; simp; omega)]; simp
    rw [e, U_length]
    rfl
  · have e : bs = [] := List.eq_nil_of_length_eq_zero (by omega)
    subst e
    have hC0 : C = #[] := by simpa using hC
    subst hC0
    obtain ⟨i, hi, hz, hs, hby⟩ := info_parts info5
    cases ao with
    | none => simp [Builtin.copy_, run_underlying Tryz.underlying30, Builtin.lenOf, Builtin.firstCells, sizeOf, typeInfo, hi, storeCells, U, goInt]
    | some a =>
      have hl := run_loadCells_list (P := Tryz.prog) (w.alloc (.cells #[] 5)) a [] (fun j v hj => by simp at hj)
      simp only [List.length_nil] at hl
      simp [Builtin.copy_, run_underlying Tryz.underlying30, Builtin.lenOf, Builtin.firstCells, sizeOf, typeInfo, hi, storeCells, U, goInt, hl]

set_option maxHeartbeats 400000 in
theorem fresh_any (w : World) (ao : Option Addr) (cap : Nat) (bs : List UInt8) (hr : Row w ao bs) (hn : bs.length ≤ 4194304) :
    Calls Tryz.prog 67 #[.slice ao bs.length cap] w fun e w' => e = .returned (.slice (some ⟨w.heap.size, 0, none⟩) bs.length bs.length) ∧ w' = w.alloc (.cells (U bs).toArray 5) := by
  have hmk := run_make_row' (P := Tryz.prog) 30 5 (.int .u8 0) 1 Tryz.underlying30 info5 rfl .i64 .i64 bs.length (by omega) (by omega) w
  have hms : (madeCells #[Value.int .u8 0] bs.length).size = bs.length := by simp [madeCells]
  have hcp := run_copy_fresh w ao cap bs hr _ hms
  generalize madeCells #[Value.int .u8 0] bs.length = C at hmk hcp
  generalize w.alloc (.cells (U bs).toArray 5) = wE at hcp ⊢
  generalize bs.length = n at *
  clear hms hr
  go_enter Tryz.func67, Tryz.ntmps67
  go_wp2_with (at_builtin; refine wpList_copy rfl (.tmp 7) (.tmp 8) 30 30 rfl _ _ _ _ rfl rfl (hcp _) ?_)
  go_ret
  exact ⟨rfl, rfl⟩

/-- .. as an owned row. -/
theorem fresh_own (w : World) (bs : List UInt8) (hn : bs.length ≤ 4194304) : (w.alloc (.cells (U bs).toArray 5)).ownsRow w.heap.size 5 1 (.slice (some ⟨w.heap.size, 0, none⟩) bs.length bs.length) bs.length (U bs) := by
  refine ⟨by rw [U_length]; omega, .inr ⟨w.heap.size, bs.length, _, rfl, Nat.le_refl _, heap_alloc_new _ _, Nat.le_refl _, by unfold maxLen; omega, by simp [U_length], ?_⟩⟩
  rw [Nat.mul_one, List.take_of_length_le (by simp [U_length])]

theorem run_cut3l {w : World} {F : Nat → Prop} {D : Nat} {ao : Option Addr} {l cap : Nat} {bs : List UInt8} (h : Ow w F D 5 (.slice ao l cap) bs) (n : Nat) (hn : n ≤ bs.length) (W : World) :
    (Instr.slice 30 (.slice ao l cap) (some (.int .i64 (n : Int))) (some (.int .i64 (bs.length : Int))) (some (.int .i64 (bs.length : Int)))).run Tryz.prog W = .ok (.slice (if bs.length = n then ao else ao.map (fun x => x.add n)) (bs.length - n) (bs.length - n)) W := by
  obtain ⟨a2, c2, he, hl, hc, -, hao⟩ := h.form
  simp only [Value.slice.injEq] at he
  obtain ⟨rfl, rfl, rfl⟩ := he
  have b1 : ∀ c, (Instr.sliceBound (.int .i64 (bs.length : Int)) cap c).run Tryz.prog W = .ok bs.length W := fun c => by simp [Instr.sliceBound, asIntOf, hl]
  have b2 : ∀ c, (Instr.sliceBound (.int .i64 (bs.length : Int)) bs.length c).run Tryz.prog W = .ok bs.length W := fun c => by simp [Instr.sliceBound, asIntOf]
  have b3 : ∀ c, (Instr.sliceBound (.int .i64 (n : Int)) bs.length c).run Tryz.prog W = .ok n W := fun c => by simp [Instr.sliceBound, asIntOf, hn]
  obtain ⟨i, hi, hz, hs, hby⟩ := info_parts info5
  have hsz : (sizeOf 5).run Tryz.prog W = .ok 1 W := by simp [sizeOf, typeInfo, hi, hs]
  simp only [Instr.slice, Sem.run_bind, run_underlying Tryz.underlying30, Instr.sliceBounds, Result.andThen_ok, b1, b2, b3, Sem.run_pure, hsz, Nat.mul_one]

/-- What is not kept, as a slice. -/
def loose (ao : Option Addr) (n k : Nat) : Option Addr := if n = k then ao else ao.map (fun x => x.add k)

set_option maxHeartbeats 1000000 in
theorem pieces_any {w : World} {F : Nat → Prop} {D : Nat} {down : Bool} {bs : List UInt8} {n : Nat} {ao : Option Addr} {l cap : Nat} (h : Raw w F D down bs n (.slice ao l cap)) (hn : n ≤ bs.length) :
    Calls Tryz.prog 45 #[.pointer (some ⟨D, 0, none⟩)] w fun e w' => e = .returned (.tuple #[.slice ao n n, .slice (loose ao bs.length n) (bs.length - n) (bs.length - n)]) ∧ ∃ q, w' = w.drewN q := by
  obtain ⟨a2, c2', hv, -⟩ := h.row.form
  simp only [Value.slice.injEq] at hv
  obtain ⟨rfl, rfl, rfl⟩ := hv
  have c2 := h.c2
  have c3 := h.c3
  have k1 := run_cut3 h.row n hn
  have k2 := run_cut3l h.row n hn
  have hlen := h.len
  have e : (if bs.length = n then ao else ao.map (fun x => x.add n)) = loose ao bs.length n := rfl
  rw [e] at k2
  clear e
  generalize loose ao bs.length n = lo at k2 ⊢
  obtain ⟨m, hm⟩ : ∃ m, bs.length - n = m := ⟨_, rfl⟩
  rw [hm] at k2 ⊢
  clear hm
  generalize bs.length = N at *
  clear h
  go_enter Tryz.func45, Tryz.ntmps45
  go_wp2_with fail
  go_quiet (fail)
  go_wp2
  go_ret2
  exact ⟨rfl, _, rfl⟩
end Go.Proofs.YthmedpabgblddabGreatDoor.Db
