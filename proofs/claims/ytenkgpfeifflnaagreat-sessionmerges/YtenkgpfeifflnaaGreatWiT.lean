/-
  Stores into a block that is known, and what lies in a result's block.
-/
import Derived.Test.YtenkgpfeifflnaaGreatWiB
namespace Go.Proofs.YtenkgpfeifflnaaGreat.Wk
open Go.RowKit Kt Pl Wi Wx
open At (RowT)
set_option linter.unusedVariables false

theorem Bx.set {w : World} {b : Nat} {cs : Array Value} {t : TypeId} (h : Bx w b cs t) (k : Nat) (v : Value) : Bx (w.setCell ⟨b, k, none⟩ v) b (cs.setIfInBounds k v) t := heap_setCell_same w b k cs t v h
theorem Bx.frozen {w : World} {b : Nat} {cs : Array Value} {t : TypeId} (h : Bx w b cs t) (k : Nat) : w.frozen? ⟨b, k, none⟩ = false := frozen_of_row w b k cs t h
theorem Bx.other {w : World} {b : Nat} {cs : Array Value} {t : TypeId} (h : Bx w b cs t) {p : Addr} (hp : p.block ≠ b) (v : Value) : Bx (w.setCell p v) b cs t := (heap_setCell_other w p b v (fun e => hp e.symm)).trans h
theorem Bx.row {w : World} {b : Nat} {cs old : Array Value} {t : TypeId} (h : Bx w b old t) (hs : old.size = cs.size) : Bx (w.setRow b cs) b cs t := setRow_heap w b old cs t (0, 0) h
theorem Bx.rowOther {w : World} {b g : Nat} {cs : Array Value} {t : TypeId} (h : Bx w b cs t) (hg : g ≠ b) (ds : Array Value) : Bx (w.setRow g ds) b cs t := (setRow_other w g b ds (fun e => hg e.symm)).trans h

theorem RowT.setCell {w : World} {ao : Option Addr} {l : List Bs} (h : RowT w ao l) {p : Addr} (hp : ∀ a, ao = some a → a.block ≠ p.block) (v : Value) : RowT (w.setCell p v) ao l := by
  intro hl
  obtain ⟨b, off, rfl, hc⟩ := h hl
  refine ⟨b, off, rfl, fun i hi => ?_⟩
  rw [World.cell?_setCell_other _ _ _ _ (fun e => hp _ rfl (by rw [e]))]
  exact hc i hi
theorem RowT.setRow {w : World} {ao : Option Addr} {l : List Bs} (h : RowT w ao l) {g : Nat} (hp : ∀ a, ao = some a → a.block ≠ g) (cs : Array Value) : RowT (w.setRow g cs) ao l := by
  intro hl
  obtain ⟨b, off, rfl, hc⟩ := h hl
  refine ⟨b, off, rfl, fun i hi => ?_⟩
  rw [World.cell?_of_block (w := w) (a := ⟨b, off + i, none⟩) (setRow_other w g b cs (hp _ rfl))]
  exact hc i hi
theorem below_setRow {B g : Nat} {a w : World} (h : Below B a w) (hg : B ≤ g) (cs : Array Value) : Below B a (w.setRow g cs) :=
  ⟨h.os, h.tape, h.output, by rw [setRow_size]; exact h.size, fun k hk => (setRow_other w g k cs (by omega)).trans (h.block k hk)⟩

section
variable {P : Program} {w : World} {ops : Array Oper} {rest : List Oper} {o : Oper} {a : Act} {Q : Exit → Act → World → Prop}
theorem run_st {ty : TypeId} {x y : Operand} {b : Nat} {cs old : Array Value} {t : TypeId} (ho : o.op = .store ty x y) (hx : a.eval x = .pointer (some ⟨b, 0, none⟩)) (hy : a.eval y = .agg cs) (hg : Bx w b old t) (hi : (P.info? ty).map (·.size) = some cs.size) (hold : old.size = cs.size) (h1 : cs.all (fun x => x.oneCell') = true) :
    (execOp a.eval o).run P w = .ok .skip (w.setRow b cs) ∨ (execOp a.eval o).run P w = .ok (.value undef) (w.setRow b cs) := by
  have hr := run_storeVar_row (P := P) w b t ty old cs hg hi hold h1
  unfold execOp
  simp only [ho, Instr.storeAt, Instr.sureAddr, hx, hy, Sem.run_bind, Sem.run_pure, Result.andThen_ok, hr]
  simp
theorem wpList_st (hgd : o.guard = none) {ty : TypeId} {x y : Operand} {b : Nat} {cs old : Array Value} {t : TypeId} (ho : o.op = .store ty x y) (hx : a.eval x = .pointer (some ⟨b, 0, none⟩)) (hy : a.eval y = .agg cs) (hg : Bx w b old t) (hi : (P.info? ty).map (·.size) = some cs.size) (hold : old.size = cs.size) (h1 : cs.all (fun x => x.oneCell') = true)
    (h : wpList P ops Q rest (a.put o.dst undef) (w.setRow b cs)) : wpList P ops Q (o :: rest) a w := by
  refine wpList_plain hgd fun _ hK => ?_
  unfold Oper.wp
  rcases run_st (P := P) ho hx hy hg hi hold h1 with e | e <;> rw [e] <;> exact hK _ _ h
theorem results_cell {fn : Func} {p : Tmp} {ty : TypeId} (h : fn.results = #[.cell p ty]) (tmps : Array Value) (P : Program) (w : World) :
    (results fn tmps).run P w = ((asAddr (tmps.getD p undef)).run P w).andThen fun a w₁ => (loadVar ty a).run P w₁ := by
  simp only [results, h]
  simp [Sem.run_bind, Result.andThen]
theorem ret_bx {fn : Func} {R : Ending → World → Prop} (p : Tmp) (ty : TypeId) (h : fn.results = #[.cell p ty]) (b : Nat) (hp : a.tmps.getD p undef = .pointer (some ⟨b, 0, none⟩)) {v : Value} (hl : (loadVar ty ⟨b, 0, none⟩).run P w = .ok v w) (hdf : a.defers = []) (hR : R (.returned v) w) : bodyPost P fn R .ret a w := by
  refine bodyPost_ret (v := v) ?_ hdf hR
  rw [results_cell h, hp]
  simp [asAddr, Result.andThen, hl]
end
end Go.Proofs.YtenkgpfeifflnaaGreat.Wk
