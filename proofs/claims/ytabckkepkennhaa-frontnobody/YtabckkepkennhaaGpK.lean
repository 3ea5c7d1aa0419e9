/-
  Blocks that hold one struct: what is read of them, stored into them; a struct stored whole; results that lie in a block. Nothing of the program.
-/
import Derived.Test.YtabckkepkennhaaGpF
namespace Go.Proofs.Ytabckkepkennhaa.Gk
open Go.RowKit Kt Gf
set_option linter.unusedVariables false
set_option linter.unusedSimpArgs false
set_option maxRecDepth 20000

def Bx (w : World) (b : Nat) (cs : Array Value) (t : TypeId) : Prop := w.heap[b]? = some (.cells cs t (0, 0))
theorem Bx.new (w : World) (cs : Array Value) (t : TypeId) : Bx (w.alloc (.cells cs t)) w.heap.size cs t := heap_alloc_new _ _
theorem Bx.alloc {w : World} {b : Nat} {cs : Array Value} {t : TypeId} (h : Bx w b cs t) (o : Obj) : Bx (w.alloc o) b cs t := by
  unfold Bx at *; rw [Below.heap_alloc _ _ _ (block_lt h)]; exact h
theorem Bx.new1 (w : World) (o : Obj) (cs : Array Value) (t : TypeId) : Bx ((w.alloc o).alloc (.cells cs t)) (w.heap.size + 1) cs t := by
  have h := Bx.new (w.alloc o) cs t
  rwa [show (w.alloc o).heap.size = w.heap.size + 1 by simp] at h
theorem Bx.new2 (w : World) (o o' : Obj) (cs : Array Value) (t : TypeId) : Bx (((w.alloc o).alloc o').alloc (.cells cs t)) (w.heap.size + 1 + 1) cs t := by
  have h := Bx.new ((w.alloc o).alloc o') cs t
  rwa [show ((w.alloc o).alloc o').heap.size = w.heap.size + 1 + 1 by simp] at h
theorem Bx.new3 (w : World) (o o' o'' : Obj) (cs : Array Value) (t : TypeId) : Bx ((((w.alloc o).alloc o').alloc o'').alloc (.cells cs t)) (w.heap.size + 1 + 1 + 1) cs t := by
  have h := Bx.new (((w.alloc o).alloc o').alloc o'') cs t
  rwa [show (((w.alloc o).alloc o').alloc o'').heap.size = w.heap.size + 1 + 1 + 1 by simp] at h
theorem Bx.lt {w : World} {b : Nat} {cs : Array Value} {t : TypeId} (h : Bx w b cs t) : b < w.heap.size := block_lt h
theorem Bx.below {w w' : World} {b B : Nat} {cs : Array Value} {t : TypeId} (h : Bx w b cs t) (hg : Below B w w') (hb : b < B) : Bx w' b cs t := by
  unfold Bx; rw [hg.block b hb]; exact h
theorem Bx.bel {w w' : World} {b : Nat} {cs : Array Value} {t : TypeId} (h : Bx w b cs t) (hg : Below w.heap.size w w') : Bx w' b cs t := h.below hg h.lt
theorem Bx.fr {w w' : World} {Q : Nat → Prop} {b : Nat} {cs : Array Value} {t : TypeId} (h : Bx w b cs t) (hg : Fr Q w w') (hb : ¬ Q b) : Bx w' b cs t := by
  unfold Bx; rw [hg.heap h.lt hb]; exact h
theorem Bx.cell {w : World} {b : Nat} {cs : Array Value} {t : TypeId} (h : Bx w b cs t) (k : Nat) (v : Value) (hv : cs[k]? = some v) : w.cell? ⟨b, k, none⟩ = some v := by
  rw [cell_of_row _ _ _ _ _ _ h]; exact hv
theorem Bx.frozen {w : World} {b : Nat} {cs : Array Value} {t : TypeId} (h : Bx w b cs t) (k : Nat) : w.frozen? ⟨b, k, none⟩ = false := frozen_of_row w b k cs t h
theorem Bx.set {w : World} {b : Nat} {cs : Array Value} {t : TypeId} (h : Bx w b cs t) (k : Nat) (v : Value) : Bx (w.setCell ⟨b, k, none⟩ v) b (cs.setIfInBounds k v) t := heap_setCell_same w b k cs t v h
theorem Bx.s0 {w : World} {b : Nat} {a0 a1 a2 a3 : Value} {t : TypeId} (h : Bx w b #[a0, a1, a2, a3] t) (v : Value) : Bx (w.setCell ⟨b, 0, none⟩ v) b #[v, a1, a2, a3] t := h.set 0 v
theorem Bx.s1 {w : World} {b : Nat} {a0 a1 a2 a3 : Value} {t : TypeId} (h : Bx w b #[a0, a1, a2, a3] t) (v : Value) : Bx (w.setCell ⟨b, 1, none⟩ v) b #[a0, v, a2, a3] t := h.set 1 v
theorem Bx.s2 {w : World} {b : Nat} {a0 a1 a2 a3 : Value} {t : TypeId} (h : Bx w b #[a0, a1, a2, a3] t) (v : Value) : Bx (w.setCell ⟨b, 2, none⟩ v) b #[a0, a1, v, a3] t := h.set 2 v
theorem Bx.s3 {w : World} {b : Nat} {a0 a1 a2 a3 : Value} {t : TypeId} (h : Bx w b #[a0, a1, a2, a3] t) (v : Value) : Bx (w.setCell ⟨b, 3, none⟩ v) b #[a0, a1, a2, v] t := h.set 3 v
/-- The four cells of a block, and that none is frozen. -/
theorem Bx.four {w : World} {b : Nat} {a0 a1 a2 a3 : Value} {t : TypeId} (h : Bx w b #[a0, a1, a2, a3] t) : w.cell? ⟨b, 0, none⟩ = some a0 ∧ w.cell? ⟨b, 1, none⟩ = some a1 ∧ w.cell? ⟨b, 2, none⟩ = some a2 ∧ w.cell? ⟨b, 3, none⟩ = some a3 ∧ w.frozen? ⟨b, 0, none⟩ = false ∧ w.frozen? ⟨b, 1, none⟩ = false ∧ w.frozen? ⟨b, 2, none⟩ = false ∧ w.frozen? ⟨b, 3, none⟩ = false :=
  ⟨h.cell 0 _ rfl, h.cell 1 _ rfl, h.cell 2 _ rfl, h.cell 3 _ rfl, h.frozen 0, h.frozen 1, h.frozen 2, h.frozen 3⟩
theorem Bx.other {w : World} {b : Nat} {cs : Array Value} {t : TypeId} (h : Bx w b cs t) {p : Addr} (hp : p.block ≠ b) (v : Value) : Bx (w.setCell p v) b cs t := (heap_setCell_other w p b v (fun e => hp e.symm)).trans h
theorem Bx.row {w : World} {b : Nat} {cs old : Array Value} {t : TypeId} (h : Bx w b old t) : Bx (w.setRow b cs) b cs t := setRow_heap w b old cs t (0, 0) h
theorem Bx.rowOther {w : World} {b g : Nat} {cs : Array Value} {t : TypeId} (h : Bx w b cs t) (hg : g ≠ b) (ds : Array Value) : Bx (w.setRow g ds) b cs t := (setRow_other w g b ds (fun e => hg e.symm)).trans h
theorem Bx.frset {w : World} {b : Nat} {cs : Array Value} {t : TypeId} (h : Bx w b cs t) (k : Nat) (v : Value) : Fr (fun x => x = b) w (w.setCell ⟨b, k, none⟩ v) := by
  rw [setCell_eq_setRow w b k _ _ (0, 0) _ h]
  exact (Fr.refl (fun x => x = b) w).setRow (b := b) (.inl rfl) _
theorem Bx.frrow {w : World} {b : Nat} (cs : Array Value) : Fr (fun x => x = b) w (w.setRow b cs) := (Fr.refl (fun x => x = b) w).setRow (b := b) (.inl rfl) _
theorem below_setRow {B g : Nat} {a w : World} (h : Below B a w) (hg : B ≤ g) (cs : Array Value) : Below B a (w.setRow g cs) :=
  ⟨h.os, h.tape, h.output, by rw [setRow_size]; exact h.size, fun k hk => (setRow_other w g k cs (by omega)).trans (h.block k hk)⟩
theorem below_fr {B : Nat} {Q : Nat → Prop} {a w w' : World} (h : Below B a w) (hf : Fr Q w w') (hq : ∀ k, Q k → B ≤ k) (hB : B ≤ a.heap.size) : Below B a w' :=
  h.trans (hf.below hq (Nat.le_trans hB h.size))

/-- A row and a block of another kind lie apart. -/
theorem own_ne {w : World} {base e size n t O k : Nat} {v : Value} {xs : List Value} {cs : Array Value} (h : w.ownsRow base e size v n xs) (hB : Bx w O cs t) (hk : v.ownBlock = some k) (hne : e ≠ t) : k ≠ O := by
  rintro rfl
  rcases h.2 with ⟨rfl, -⟩ | ⟨g, cap, cur, rfl, -, hg, -⟩
  · simp [Value.ownBlock] at hk
  · simp only [Value.ownBlock, Option.some.injEq] at hk
    subst hk
    unfold Bx at hB
    rw [hg] at hB
    simp only [Option.some.injEq, Obj.cells.injEq] at hB
    exact hne hB.2.1

section
variable {P : Program} {w : World} {ops : Array Oper} {rest : List Oper} {o : Oper} {a : Act} {Q : Exit → Act → World → Prop}
theorem run_st {ty : TypeId} {x y : Operand} {b : Nat} {cs old : Array Value} {t : TypeId} (ho : o.op = .store ty x y) (hx : a.eval x = .pointer (some ⟨b, 0, none⟩)) (hy : a.eval y = .agg cs) (hg : Bx w b old t) (hi : (P.info? ty).map (·.size) = some cs.size) (hold : old.size = cs.size) (h1 : cs.all (fun x => x.oneCell') = true) :
    (execOp a.eval o).run P w = .ok .skip (w.setRow b cs) ∨ (execOp a.eval o).run P w = .ok (.value undef) (w.setRow b cs) := by
  have hr := run_storeVar_row (P := P) w b t ty old cs hg hi hold h1
  unfold execOp
  simp only [ho, Instr.storeAt, Instr.sureAddr, hx, hy, Sem.run_bind, Sem.run_pure, Result.andThen_ok, hr]
  simp
theorem wpList_st (hgd : o.guard = none) {ty : TypeId} {x y : Operand} {b : Nat} {cs old : Array Value} {t : TypeId} (ho : o.op = .store ty x y) (hx : a.eval x = .pointer (some ⟨b, 0, none⟩)) (hy : a.eval y = .agg cs) (hg : Bx w b old t) (hi : (P.info? ty).map (·.size) = some cs.size) (hold : old.size = cs.size) (h1 : cs.all (fun x => x.oneCell') = true)
    (h : wpList P ops Q rest (a.put o.dst undef) (w.setRow b cs)) : wpList P ops Q (o :: rest) a w := by
  refine wpList_plain hgd fun _ hK => ?_
  unfold Oper.wp
  rcases run_st (P := P) ho hx hy hg hi hold h1 with e | e <;> rw [e] <;> exact hK _ _ h
theorem atSt {K : Act → World → Prop} {E : Prop} (ty : TypeId) (x y : Operand) (hop : o.op = Op.store ty x y) (h : if Region.wanted o (yielded ops a.tmps) = true then Oper.wp P o a w K Q else E) : if Region.wanted o (yielded ops a.tmps) = true then Oper.wp P o a w K Q else E := h
/-- A struct stored whole, as one step of a region that draws its order. -/
theorem step_st {K : Act → World → Prop} {E : Prop} (hg : o.guard = none) (ty : TypeId) (x y : Operand) (ho : o.op = .store ty x y) (b : Nat) (cs old : Array Value) (t : TypeId) (hx : a.eval x = .pointer (some ⟨b, 0, none⟩)) (hy : a.eval y = .agg cs) (hB : Bx w b old t) (hi : (P.info? ty).map (·.size) = some cs.size) (hold : old.size = cs.size) (h1 : cs.all (fun x => x.oneCell') = true)
    (hK : K (a.put o.dst undef) (w.setRow b cs)) : if Region.wanted o (yielded ops a.tmps) = true then Oper.wp P o a w K Q else E := by
  have hw : Region.wanted o (yielded ops a.tmps) = true := by simp [Region.wanted, hg]
  rw [if_pos hw]
  unfold Oper.wp
  rcases run_st (P := P) ho hx hy hB hi hold h1 with e | e <;> rw [e] <;> exact hK
theorem run_ld {ty : TypeId} {x : Operand} {p : Addr} {v : Value} (ho : o.op = .load ty x) (hx : a.eval x = .pointer (some p)) (h : (loadVar ty p).run P w = .ok v w) : (execOp a.eval o).run P w = .ok (.value v) w := by
  unfold execOp
  simp only [ho, Instr.loadAt, Instr.sureAddr, hx, Sem.run_bind, Sem.run_pure, Result.andThen_ok, h]
theorem wpList_ld {ty : TypeId} {x : Operand} {p : Addr} {v : Value} (hgd : o.guard = none) (ho : o.op = .load ty x) (hx : a.eval x = .pointer (some p)) (h : (loadVar ty p).run P w = .ok v w)
    (hk : wpList P ops Q rest (a.put o.dst v) w) : wpList P ops Q (o :: rest) a w := by
  refine wpList_plain hgd fun _ hK => ?_
  unfold Oper.wp
  rw [run_ld ho hx h]
  exact hK _ _ hk
theorem res_c {fn : Func} {p : Tmp} {t : TypeId} (h : fn.results = #[.cell p t]) (tmps : Array Value) (P : Program) (w : World) {b : Addr} {x : Value}
    (hp : tmps.getD p undef = .pointer (some b)) (hx : (loadVar t b).run P w = .ok x w) : (results fn tmps).run P w = .ok x w := by
  have hp' : tmps[p]?.getD undef = .pointer (some b) := by simpa using hp
  simp only [results, h]
  simp [Sem.run_bind, Result.andThen, hp', asAddr, hx]
theorem res_ct {fn : Func} {p q : Tmp} {t : TypeId} (h : fn.results = #[.cell p t, .tmp q]) (tmps : Array Value) (P : Program) (w : World) {b : Addr} {x y : Value}
    (hp : tmps.getD p undef = .pointer (some b)) (hq : tmps.getD q undef = y) (hx : (loadVar t b).run P w = .ok x w) :
    (results fn tmps).run P w = .ok (.tuple #[x, y]) w := by
  have hp' : tmps[p]?.getD undef = .pointer (some b) := by simpa using hp
  have hq' : tmps[q]?.getD undef = y := by simpa using hq
  simp only [results, h]
  simp [Sem.run_bind, Result.andThen, hp', hq', asAddr, hx]
theorem res_ctt {fn : Func} {p q r : Tmp} {t : TypeId} (h : fn.results = #[.cell p t, .tmp q, .tmp r]) (tmps : Array Value) (P : Program) (w : World) {b : Addr} {x y z : Value}
    (hp : tmps.getD p undef = .pointer (some b)) (hq : tmps.getD q undef = y) (hr : tmps.getD r undef = z) (hx : (loadVar t b).run P w = .ok x w) :
    (results fn tmps).run P w = .ok (.tuple #[x, y, z]) w := by
  have hp' : tmps[p]?.getD undef = .pointer (some b) := by simpa using hp
  have hq' : tmps[q]?.getD undef = y := by simpa using hq
  have hr' : tmps[r]?.getD undef = z := by simpa using hr
  simp only [results, h]
  simp [Sem.run_bind, Result.andThen, hp', hq', hr', asAddr, hx]
end
/-- A block of four cells into which all four are stored. -/
theorem Bx.sAll {w : World} {b : Nat} {a0 a1 a2 a3 v0 v1 v2 v3 : Value} {t : TypeId} (h : Bx w b #[a0, a1, a2, a3] t) :
    Bx ((((w.setCell ⟨b, 0, none⟩ v0).setCell ⟨b, 1, none⟩ v1).setCell ⟨b, 2, none⟩ v2).setCell ⟨b, 3, none⟩ v3) b #[v0, v1, v2, v3] t ∧
    Fr (fun x => x = b) w ((((w.setCell ⟨b, 0, none⟩ v0).setCell ⟨b, 1, none⟩ v1).setCell ⟨b, 2, none⟩ v2).setCell ⟨b, 3, none⟩ v3) :=
  ⟨(((h.s0 v0).s1 v1).s2 v2).s3 v3, (((h.frset 0 v0).trans ((h.s0 v0).frset 1 v1) (fun i hi => .inl hi)).trans (((h.s0 v0).s1 v1).frset 2 v2) (fun i hi => .inl hi)).trans ((((h.s0 v0).s1 v1).s2 v2).frset 3 v3) (fun i hi => .inl hi)⟩
end Go.Proofs.Ytabckkepkennhaa.Gk
