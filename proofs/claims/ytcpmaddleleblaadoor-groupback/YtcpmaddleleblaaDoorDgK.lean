/-
  Laws that serve the walks of digest: a whole array or struct loaded, stored, made, indexed; 'clear' and 'copy' into a block; what a Hash's cells are. Nothing of the program.
-/
import Derived.Test.YtcpmaddleleblaaDoorDgP
import Derived.Test.YtcpmaddleleblaaDoorKit2
import Derived.Deep.WholeRow
import Derived.Lib.SliceRun
namespace Go.Proofs.YtcpmaddleleblaaDoor.Dk
open Go.RowKit Kt
set_option linter.unusedVariables false
set_option linter.unusedSectionVars false
set_option linter.unusedSimpArgs false

/-- Of the old blocks only b has turned. -/
def Only (b : Nat) (w w' : World) : Prop := w.grownBy w' (some b)
theorem Only.refl (b : Nat) (w : World) : Only b w w := ⟨rfl, rfl, rfl, Nat.le_refl _, fun _ _ _ => rfl⟩
theorem Only.trans {b : Nat} {w w1 w2 : World} (h : Only b w w1) (k : Only b w1 w2) : Only b w w2 :=
  ⟨k.os.trans h.os, k.tape.trans h.tape, k.output.trans h.output, Nat.le_trans h.size k.size, fun i hi hne => (k.block i (Nat.lt_of_lt_of_le hi h.size) hne).trans (h.block i hi hne)⟩
theorem Only.ofBelow {b : Nat} {w w' : World} (h : Below w.heap.size w w') : Only b w w' := ⟨h.os, h.tape, h.output, h.size, fun k hk _ => h.block k hk⟩
theorem Only.setRow {b : Nat} {w w' : World} (h : Only b w w') (cs : Array Value) : Only b w (w'.setRow b cs) :=
  h.trans ⟨rfl, rfl, rfl, by simp, fun k _ hk => setRow_other w' b k cs (fun e => hk (by rw [e]))⟩
theorem Only.drewN {b : Nat} {w w' : World} (h : Only b w w') (n : Nat) : Only b w (w'.drewN n) := h.trans ⟨rfl, rfl, rfl, Nat.le_refl _, fun _ _ _ => rfl⟩
theorem Only.alloc {b : Nat} {w w' : World} (h : Only b w w') (o : Obj) : Only b w (w'.alloc o) := h.trans ⟨rfl, rfl, rfl, by simp, fun k hk _ => Below.heap_alloc w' o k hk⟩
/-- A block that is new since w may turn as well. -/
theorem Only.new {b g : Nat} {w w1 w2 : World} (h : Only b w w1) (k : Only g w1 w2) (hg : w.heap.size ≤ g) : Only b w w2 :=
  ⟨k.os.trans h.os, k.tape.trans h.tape, k.output.trans h.output, Nat.le_trans h.size k.size, fun i hi hne => (k.block i (Nat.lt_of_lt_of_le hi h.size) (by simp; omega)).trans (h.block i hi hne)⟩
theorem Only.heap {b : Nat} {w w' : World} (h : Only b w w') {k : Nat} (hk : k < w.heap.size) (hne : k ≠ b) : w'.heap[k]? = w.heap[k]? := h.block k hk (by simpa using hne)
theorem Only.below {b B : Nat} {w w' : World} (h : Only b w w') (hb : B ≤ b) (hs : B ≤ w.heap.size) : Below B w w' :=
  ⟨h.os, h.tape, h.output, h.size, fun k hk => h.heap (by omega) (by omega)⟩
theorem below_drewN {B : Nat} {a w : World} (h : Below B a w) (n : Nat) : Below B a (w.drewN n) := ⟨h.os, h.tape, h.output, h.size, h.block⟩
theorem below_setRow {B g : Nat} {a w : World} (h : Below B a w) (hg : B ≤ g) (cs : Array Value) : Below B a (w.setRow g cs) :=
  ⟨h.os, h.tape, h.output, by rw [setRow_size]; exact h.size, fun k hk => (setRow_other w g k cs (by omega)).trans (h.block k hk)⟩

theorem cell_other (w : World) {g k a : Nat} (v : Value) (h : ¬ k = a) : (w.setCell ⟨g, k, none⟩ v).cell? ⟨g, a, none⟩ = w.cell? ⟨g, a, none⟩ :=
  World.cell?_setCell_other _ _ _ _ (fun e => h (by injection e))

theorem block_lt {w : World} {b : Nat} {o : Obj} (h : w.heap[b]? = some o) : b < w.heap.size := (Array.getElem?_eq_some_iff.1 h).1

section
variable {P : Program} {w : World} {ops : Array Oper} {rest : List Oper} {o : Oper} {a : Act} {Q : Exit → Act → World → Prop}

theorem run_isAgg {t : TypeId} {d : TypeDesc} (hu : P.underlying t = some d) (hd : (match d with | .struct _ | .array _ _ => true | _ => false) = true) (w : World) : (isAgg t).run P w = .ok true w := by
  unfold isAgg
  rw [Sem.run_bind, run_underlying hu w]
  cases d <;> simp_all

theorem run_load_agg (ty : TypeId) (d : TypeDesc) (hu : P.underlying ty = some d) (hd : (match d with | .struct _ | .array _ _ => true | _ => false) = true) (b off : Nat) (cs : List Value) (hi : (P.info? ty).map (·.size) = some cs.length)
    (hc : ∀ j v, cs[j]? = some v → w.cell? ⟨b, off + j, none⟩ = some v) : (loadVar ty ⟨b, off, none⟩).run P w = .ok (.agg cs.toArray) w := by
  have hl := run_loadCells_list (P := P) w ⟨b, off, none⟩ cs (fun j v hv => by rw [Addr.add_lit]; exact hc j v hv)
  have hag := run_isAgg (P := P) hu hd w
  cases hq : P.info? ty with
  | none => simp [hq] at hi
  | some i =>
    have hs : i.size = cs.length := by simpa [hq] using hi
    simp [loadVar, Sem.run_bind, hag, sizeOf, typeInfo, hq, hs, hl]

/-- A whole array or struct, out of cells that lie in a row. -/
theorem wpList_load_agg (hgd : o.guard = none) (ty : TypeId) (x : Operand) (ho : o.op = .load ty x) (d : TypeDesc) (hu : P.underlying ty = some d) (hd : (match d with | .struct _ | .array _ _ => true | _ => false) = true)
    (b off : Nat) (hx : a.eval x = .pointer (some ⟨b, off, none⟩)) (cs : List Value) (hi : (P.info? ty).map (·.size) = some cs.length) (hc : ∀ j v, cs[j]? = some v → w.cell? ⟨b, off + j, none⟩ = some v)
    (h : wpList P ops Q rest (a.put o.dst (.agg cs.toArray)) w) : wpList P ops Q (o :: rest) a w := by
  refine wpList_plain hgd fun _ hK => ?_
  have hr := run_load_agg (P := P) (w := w) ty d hu hd b off cs hi hc
  unfold Oper.wp execOp
  simp only [ho, Instr.loadAt, Instr.sureAddr, hx, Sem.run_bind, Sem.run_pure, Result.andThen_ok, hr]
  exact hK _ _ h

/-- A whole block, stored. -/
theorem wpList_store_agg (hgd : o.guard = none) (ty : TypeId) (x y : Operand) (ho : o.op = .store ty x y) (b : Nat) (hx : a.eval x = .pointer (some ⟨b, 0, none⟩)) (cs : List Value) (hy : a.eval y = .agg cs.toArray)
    (t : TypeId) (old : Array Value) (hg : w.heap[b]? = some (.cells old t (0, 0))) (hi : (P.info? ty).map (·.size) = some cs.length) (hold : old.size = cs.length) (h1 : ∀ v ∈ cs, v.oneCell' = true)
    (h : wpList P ops Q rest (a.put o.dst undef) (w.setRow b cs.toArray)) : wpList P ops Q (o :: rest) a w := by
  refine wpList_plain hgd fun _ hK => ?_
  have hr := run_storeVar_row (P := P) w b t ty old cs.toArray hg (by simpa using hi) (by simpa using hold) (by simpa using h1)
  unfold Oper.wp execOp
  simp only [ho, Instr.storeAt, Instr.sureAddr, hx, hy, Sem.run_bind, Sem.run_pure, Result.andThen_ok, hr]
  exact hK _ _ h

theorem wpList_store_new (hgd : o.guard = none) (ty : TypeId) (x y : Operand) (ho : o.op = .store ty x y) (W : World) (Z : Array Value) (hx : a.eval x = .pointer (some ⟨W.heap.size, 0, none⟩)) (cs : List Value) (hy : a.eval y = .agg cs.toArray)
    (hi : (P.info? ty).map (·.size) = some cs.length) (hold : Z.size = cs.length) (h1 : ∀ v ∈ cs, v.oneCell' = true)
    (h : wpList P ops Q rest (a.put o.dst undef) (W.alloc (.cells cs.toArray ty))) : wpList P ops Q (o :: rest) a (W.alloc (.cells Z ty)) := by
  refine wpList_store_agg hgd ty x y ho W.heap.size hx cs hy ty Z (heap_alloc_last W _) hi hold h1 ?_
  rw [World.setRow_alloc_new]
  exact h

/-- A new variable of an array or a struct: n cells of whatever. -/
theorem wpList_alloc_agg (hgd : o.guard = none) (ty : TypeId) (ho : o.op = .alloc ty) (n : Nat) (hi : ((P.info? ty).bind (·.zero)).map (fun z => z.cells.size) = some n)
    (h : ∀ Z : Array Value, Z.size = n → wpList P ops Q rest (a.put o.dst (.pointer (some ⟨w.heap.size, 0, none⟩))) (w.alloc (.cells Z ty))) : wpList P ops Q (o :: rest) a w := by
  refine wpList_plain hgd fun _ hK => ?_
  obtain ⟨z, hz0, hn⟩ := Option.map_eq_some_iff.1 hi
  have hz : ∀ w, (zeroValue ty).run P w = .ok z w := by
    intro w
    cases hq : P.info? ty with
    | none => simp [hq] at hz0
    | some i =>
      have : i.zero = some z := by simpa [hq] using hz0
      simp [zeroValue, typeInfo, hq, this]
  unfold Oper.wp execOp
  simp only [ho, Instr.alloc, Sem.run_bind, Sem.run_pure, Result.andThen_ok, hz, newVar, newRow, newObj]
  exact hK _ _ (h z.cells hn)

/-- An element of an array that is held as a value. -/
theorem wpList_index_agg (hgd : o.guard = none) (ty e : TypeId) (x y : Operand) (ho : o.op = .index ty x y) (n : Nat) (hu : P.underlying ty = some (.array n e)) (d : TypeDesc) (hue : P.underlying e = some d) (hd : (match d with | .struct _ | .array _ _ => true | _ => false) = false) (hi : (P.info? e).map (·.size) = some 1)
    (cs : List Value) (k : Nat) (hx : a.eval x = .agg cs.toArray) (hy : a.eval y = .int .i64 k) (hk : k < n) (v : Value) (hv : cs[k]? = some v)
    (h : wpList P ops Q rest (a.put o.dst v) w) : wpList P ops Q (o :: rest) a w := by
  refine wpList_plain hgd fun _ hK => ?_
  have hag : (isAgg e).run P w = .ok false w := by
    unfold isAgg
    rw [Sem.run_bind, run_underlying hue w]
    cases d <;> simp_all
  have hkz : ((k : Nat) : Int) < (n : Int) := by omega
  have hr : (Instr.index ty (.agg cs.toArray) (.int .i64 k)).run P w = .ok v w := by
    cases hq : P.info? e with
    | none => simp [hq] at hi
    | some i =>
      have hs : i.size = 1 := by simpa [hq] using hi
      simp [Instr.index, asIntOf, run_underlying hu, sizeOf, typeInfo, hq, hs, part, hag, hk, hv]
  unfold Oper.wp execOp
  simp only [ho, hx, hy, Sem.run_bind, Sem.run_pure, Result.andThen_ok, hr]
  exact hK _ _ h

/-- What lies in a block, cells of it put in another's place. -/
def splice (C : Array Value) (o : Nat) (vs : List Value) : Array Value := (C.toList.take o ++ vs ++ C.toList.drop (o + vs.length)).toArray
theorem splice_size {C : Array Value} {o : Nat} {vs : List Value} (h : o + vs.length ≤ C.size) : (splice C o vs).size = C.size := by
  simp [splice]; omega
theorem splice_nil (C : Array Value) (o : Nat) : splice C o [] = C := by simp [splice]

/-- 'clear' of a part of a block, or of nothing. -/
theorem run_clear_any (t e ty : TypeId) (z : Value) (ht : P.underlying t = some (.slice e)) (hv : ∀ w, (zeroValue e).run P w = .ok z w) (hz : z.cells = #[z]) (h1 : z.oneCell' = true) (ad : Addr) (b off n c : Nat)
    (had : n = 0 ∨ ad = ⟨b, off, none⟩) (C : Array Value) (T : TypeId) (hg : w.heap[b]? = some (.cells C T (0, 0))) (hn : off + n ≤ C.size) :
    (Builtin.clear_ #[t] ty #[.slice (some ad) n c]).run P w = .ok (.tuple #[]) (w.setRow b (splice C off (List.replicate n z))) := by
  by_cases h0 : n = 0
  · subst h0
    rw [List.replicate_zero, splice_nil, setRow_self w b C T (0, 0) hg]
    simp [Builtin.clear_, run_underlying ht]
  · obtain rfl : ad = ⟨b, off, none⟩ := by rcases had with h | h; exact absurd h h0; exact h
    have hzc : (Builtin.zeroCells z.cells n).toList = List.replicate n z := by
      rw [hz]
      simp [Builtin.zeroCells]
      apply List.ext_getElem
      · simp
      · intro i h1 h2
        simp [Nat.mod_one]
    have hst := run_storeCells_at P b off T (List.replicate n z) 0 C w hg (by simpa using hn) (by intro v hv'; rw [List.eq_of_mem_replicate hv']; exact h1)
    simp only [Nat.add_zero] at hst
    obtain ⟨m, rfl⟩ : ∃ m, n = m + 1 := ⟨n - 1, by omega⟩
    have hst' : (storeCells ⟨b, off, none⟩ (List.replicate (m + 1) z)).run P w = .ok () (w.setRow b (splice C off (List.replicate (m + 1) z))) := hst
    clear hst
    generalize splice C off (List.replicate (m + 1) z) = C' at hst' ⊢
    simp [Builtin.clear_, run_underlying ht, hv, hzc, hst']

/-- 'copy' of bytes into a block. -/
theorem run_copy_any (dT sT ty elem : TypeId) (b off dLen dCap : Nat) (ao : Option Addr) (sCap : Nat) (bs : List UInt8) (hr : Row w ao bs)
    (hu : P.underlying dT = some (.slice elem)) (hs : (P.info? elem).map (·.size) = some 1) (C : Array Value) (T : TypeId) (hg : w.heap[b]? = some (.cells C T (0, 0))) (hn : off + dLen ≤ C.size) (h0 : 0 < bs.length) :
    (Builtin.copy_ #[dT, sT] ty #[.slice (some ⟨b, off, none⟩) dLen dCap, .slice ao bs.length sCap]).run P w = .ok (.int .i64 ((min bs.length dLen : Nat) : Int)) (w.setRow b (splice C off (U (bs.take dLen)))) := by
  obtain ⟨b2, o2, rfl, hc⟩ := hr h0
  have hl : (U (bs.take dLen)).length = min bs.length dLen := by simp [U_length, Nat.min_comm]
  have := run_copy_row P w dT sT ty elem b off dLen dCap ⟨b2, o2, none⟩ bs.length sCap C T (U (bs.take dLen)) hu hs hg hl (fun j v hv => by
    obtain ⟨hj, rfl⟩ := U_get _ _ _ hv
    rw [Addr.add_lit, hc j (by simp at hj; omega)]
    have : j < dLen := by simp at hj; omega
    simp [List.getD, this]) (by rw [hl]; omega) (U_one _)
  rw [this]
  unfold splice
  rw [hl]
  rfl
end

theorem run_bound {P : Program} (w : World) (l n : Nat) (c : BoundsCode) (hl : l ≤ n) : (Instr.sliceBound (.int .i64 (l : Int)) n c).run P w = .ok l w := by
  have h : ((l : Nat) : Int) ≤ (n : Int) := by omega
  simp [Instr.sliceBound, asIntOf, h, hl]
/-- 'a[l:]' of an array in a block. -/
theorem run_arr_low {P : Program} (w : World) (t e n : Nat) (hu : P.underlying t = some (.array n e)) (hi : (P.info? e).map (·.size) = some 1) (b off l : Nat) (i : Int) (hil : i = (l : Int)) (hl : l < n) :
    (Instr.sliceAt t (.pointer (some ⟨b, off, none⟩)) (some (.int .i64 i)) none none).run P w = .ok (.slice (some ⟨b, off + l, none⟩) (n - l) (n - l)) w := by
  subst hil
  have hb := run_bound (P := P) w l n .sliceB (by omega)
  cases hq : P.info? e with
  | none => simp [hq] at hi
  | some i =>
    have hs : i.size = 1 := by simpa [hq] using hi
    have hne : ¬ n = l := by omega
    simp [Instr.sliceAt, run_underlying hu, Instr.sureAddr, Instr.sliceBounds, sizeOf, typeInfo, hq, hs, hb, hne, Addr.add_lit]
/-- 'a[l:]' where nothing is left. -/
theorem run_arr_end {P : Program} (w : World) (t e n : Nat) (hu : P.underlying t = some (.array n e)) (hi : (P.info? e).map (·.size) = some 1) (b off : Nat) (i : Int) (hil : i = (n : Int)) :
    (Instr.sliceAt t (.pointer (some ⟨b, off, none⟩)) (some (.int .i64 i)) none none).run P w = .ok (.slice (some ⟨b, off, none⟩) 0 0) w := by
  subst hil
  have hb := run_bound (P := P) w n n .sliceB (by omega)
  cases hq : P.info? e with
  | none => simp [hq] at hi
  | some i =>
    have hs : i.size = 1 := by simpa [hq] using hi
    simp [Instr.sliceAt, run_underlying hu, Instr.sureAddr, Instr.sliceBounds, sizeOf, typeInfo, hq, hs, hb]
/-- 'a[:]'. -/
theorem run_arr_all {P : Program} (w : World) (t e n : Nat) (hu : P.underlying t = some (.array n e)) (hi : (P.info? e).map (·.size) = some 1) (hn : 0 < n) (b off : Nat) :
    (Instr.sliceAt t (.pointer (some ⟨b, off, none⟩)) none none none).run P w = .ok (.slice (some ⟨b, off, none⟩) n n) w := by
  cases hq : P.info? e with
  | none => simp [hq] at hi
  | some i =>
    have hs : i.size = 1 := by simpa [hq] using hi
    simp [Instr.sliceAt, run_underlying hu, Instr.sureAddr, Instr.sliceBounds, sizeOf, typeInfo, hq, hs, Addr.add_lit]
/-- 'a[:h]'. -/
theorem run_arr_high {P : Program} (w : World) (t e n : Nat) (hu : P.underlying t = some (.array n e)) (hi : (P.info? e).map (·.size) = some 1) (hn : 0 < n) (b off h : Nat) (i : Int) (hih : i = (h : Int)) (hh : h ≤ n) :
    (Instr.sliceAt t (.pointer (some ⟨b, off, none⟩)) none (some (.int .i64 i)) none).run P w = .ok (.slice (some ⟨b, off, none⟩) h n) w := by
  subst hih
  have hb := run_bound (P := P) w h n .sliceAlen hh
  cases hq : P.info? e with
  | none => simp [hq] at hi
  | some i =>
    have hs : i.size = 1 := by simpa [hq] using hi
    simp [Instr.sliceAt, run_underlying hu, Instr.sureAddr, Instr.sliceBounds, sizeOf, typeInfo, hq, hs, hb, Addr.add_lit]

/-- A result that lies in memory, handed back. -/
theorem results_cell {fn : Func} {p : Tmp} {ty : TypeId} (h : fn.results = #[.cell p ty]) (tmps : Array Value) (P : Program) (w : World) :
    (results fn tmps).run P w = ((asAddr (tmps.getD p undef)).run P w).andThen fun a w₁ => (loadVar ty a).run P w₁ := by
  simp only [results, h]
  simp [Sem.run_bind, Result.andThen]
theorem ret_cell {P : Program} {fn : Func} {R : Ending → World → Prop} {a : Act} {w : World} (p : Tmp) (ty : TypeId) (h : fn.results = #[.cell p ty]) (b : Nat) (hp : a.tmps.getD p undef = .pointer (some ⟨b, 0, none⟩)) (d : TypeDesc) (hu : P.underlying ty = some d) (hd : (match d with | .struct _ | .array _ _ => true | _ => false) = true)
    (cs : List Value) (hi : (P.info? ty).map (·.size) = some cs.length) (T : TypeId) (fr : Nat × Nat) (hg : w.heap[b]? = some (.cells cs.toArray T fr)) (hdf : a.defers = []) (hR : R (.returned (.agg cs.toArray)) w) : bodyPost P fn R .ret a w := by
  refine bodyPost_ret (v := .agg cs.toArray) ?_ hdf hR
  rw [results_cell h, hp]
  have := run_load_agg (P := P) (w := w) ty d hu hd b 0 cs hi (fun j v hv => by rw [cell_of_row _ _ _ _ _ _ hg]; simpa using hv)
  simp [asAddr, Result.andThen, this]

/-- An element of an array that is held as a value, as a rule. -/
theorem run_index_agg {P : Program} (ty e : TypeId) (n : Nat) (hu : P.underlying ty = some (.array n e)) (d : TypeDesc) (hue : P.underlying e = some d) (hd : (match d with | .struct _ | .array _ _ => true | _ => false) = false) (hi : (P.info? e).map (·.size) = some 1)
    (cs : List Value) (k : Nat) (hk : k < n) (v : Value) (hv : cs[k]? = some v) (w : World) : (Instr.index ty (.agg cs.toArray) (.int .i64 k)).run P w = .ok v w := by
  have hag : (isAgg e).run P w = .ok false w := by
    unfold isAgg
    rw [Sem.run_bind, run_underlying hue w]
    cases d <;> simp_all
  have hkz : ((k : Nat) : Int) < (n : Int) := by omega
  cases hq : P.info? e with
  | none => simp [hq] at hi
  | some i =>
    have hs : i.size = 1 := by simpa [hq] using hi
    simp [Instr.index, asIntOf, run_underlying hu, sizeOf, typeInfo, hq, hs, part, hag, hk, hv]

/-- Words as cells. -/
def W32 (l : List Nat) : List Value := l.map fun (n : Nat) => Value.int .u32 (n : Int)
theorem W32_length (l : List Nat) : (W32 l).length = l.length := by simp [W32]
theorem W32_append (l r : List Nat) : W32 (l ++ r) = W32 l ++ W32 r := by simp [W32]
theorem W32_one (l : List Nat) : ∀ v ∈ W32 l, v.oneCell' = true := by
  intro v hv
  obtain ⟨_, _, rfl⟩ := List.mem_map.1 hv
  rfl
theorem W32_at (l : List Nat) (j : Nat) (h : j < l.length) : (W32 l)[j]? = some (.int .u32 ((l.getD j 0 : Nat) : Int)) := by
  simp [W32, List.getD, List.getElem?_eq_getElem h]
theorem W32_get (l : List Nat) (j : Nat) (v : Value) (h : (W32 l)[j]? = some v) : j < l.length ∧ v = .int .u32 ((l.getD j 0 : Nat) : Int) := by
  rcases Nat.lt_or_ge j l.length with hl | hl
  · rw [W32_at l j hl] at h; exact ⟨hl, (Option.some.inj h).symm⟩
  · rw [List.getElem?_eq_none (by simpa [W32] using hl)] at h; cases h

/-- A Hash's cells: it was made, its words, its block, its size. -/
def hc (l : List Nat) (blk : List UInt8) (n : Nat) : Array Value := (Value.bool true :: (W32 l ++ (U blk ++ [Value.int .i64 (n : Int)]))).toArray
theorem hc_toList (l : List Nat) (blk : List UInt8) (n : Nat) : (hc l blk n).toList = Value.bool true :: (W32 l ++ (U blk ++ [Value.int .i64 (n : Int)])) := rfl
section
variable {l : List Nat} {blk : List UInt8} {n : Nat} (hl : l.length = 8) (hb : blk.length = 64)
include hl hb
theorem hc_size : (hc l blk n).size = 74 := by simp [hc, W32, U, hl, hb]
theorem hc_made : (hc l blk n)[0]? = some (.bool true) := rfl
theorem hc_word (j : Nat) (h : j < 8) : (hc l blk n)[1 + j]? = some (.int .u32 ((l.getD j 0 : Nat) : Int)) := by
  have h1 : j < (W32 l).length := by rw [W32_length]; omega
  have := W32_at l j (by omega)
  simp only [hc, List.getElem?_toArray, Nat.add_comm 1 j, List.getElem?_cons_succ]
  rw [List.getElem?_append_left h1, this]
theorem hc_byte (j : Nat) (h : j < 64) : (hc l blk n)[9 + j]? = some (.int .u8 ((blk.getD j 0).toNat : Int)) := by
  have h1 : (W32 l).length = 8 := by rw [W32_length]; exact hl
  have h2 : j < (U blk).length := by rw [U_length]; omega
  have := U_at blk j (by omega)
  simp only [hc, List.getElem?_toArray, show 9 + j = (8 + j) + 1 by omega, List.getElem?_cons_succ]
  rw [List.getElem?_append_right (by omega), h1, Nat.add_sub_cancel_left, List.getElem?_append_left h2, this]
theorem hc_n : (hc l blk n)[73]? = some (.int .i64 (n : Int)) := by
  have h1 : (W32 l).length = 8 := by rw [W32_length]; exact hl
  have h2 : (U blk).length = 64 := by rw [U_length]; exact hb
  simp only [hc, List.getElem?_toArray, show 73 = 72 + 1 by rfl, List.getElem?_cons_succ]
  rw [List.getElem?_append_right (by omega), h1, List.getElem?_append_right (by omega), h2]
  rfl
theorem hc_set_n (m : Nat) : (hc l blk n).setIfInBounds 73 (.int .i64 (m : Int)) = hc l blk m := by
  have h1 : (W32 l).length = 8 := by rw [W32_length]; exact hl
  have h2 : (U blk).length = 64 := by rw [U_length]; exact hb
  apply Array.toList_inj.1
  rw [Array.toList_setIfInBounds, hc_toList, hc_toList, List.set_cons_succ, List.set_append_right _ _ (by omega), h1, List.set_append_right _ _ (by omega), h2]
  rfl
theorem hc_set_word (j : Nat) (h : j < 8) (x : Nat) : (hc l blk n).setIfInBounds (1 + j) (.int .u32 (x : Int)) = hc (l.set j x) blk n := by
  have h1 : (W32 l).length = 8 := by rw [W32_length]; exact hl
  apply Array.toList_inj.1
  rw [Array.toList_setIfInBounds, hc_toList, hc_toList, Nat.add_comm 1 j, List.set_cons_succ, List.set_append_left _ _ (by omega)]
  simp [W32, List.map_set]
theorem hc_splice (r : Nat) (new : List UInt8) (h : r + new.length ≤ 64) : splice (hc l blk n) (9 + r) (U new) = hc l (blk.take r ++ new ++ blk.drop (r + new.length)) n := by
  have h1 : (W32 l).length = 8 := by rw [W32_length]; exact hl
  have h2 : (U blk).length = 64 := by rw [U_length]; exact hb
  have e1 : (hc l blk n).toList = (Value.bool true :: W32 l) ++ (U blk ++ [Value.int .i64 (n : Int)]) := rfl
  have h9 : (Value.bool true :: W32 l).length = 9 := by simp [h1]
  unfold splice
  rw [e1, U_length, List.take_append, List.take_of_length_le (by omega), List.drop_append, List.drop_eq_nil_of_le (by omega), h9, Nat.add_sub_cancel_left, show 9 + r + new.length - 9 = r + new.length by omega,
    List.take_append_of_le_length (by omega), List.drop_append_of_le_length (by omega)]
  simp [hc, U]
theorem hc_set_byte (j : Nat) (h : j < 64) (c : UInt8) : (hc l blk n).setIfInBounds (9 + j) (.int .u8 (c.toNat : Int)) = hc l (blk.set j c) n := by
  have h1 : (W32 l).length = 8 := by rw [W32_length]; exact hl
  have h2 : (U blk).length = 64 := by rw [U_length]; exact hb
  apply Array.toList_inj.1
  rw [Array.toList_setIfInBounds, hc_toList, hc_toList, show 9 + j = (8 + j) + 1 by omega, List.set_cons_succ, List.set_append_right _ _ (by omega), h1, Nat.add_sub_cancel_left, List.set_append_left _ _ (by omega)]
  simp [U, List.map_set]
theorem hc_one : ∀ v ∈ (hc l blk n).toList, v.oneCell' = true := by
  intro v hv
  rw [hc_toList] at hv
  simp only [List.mem_cons, List.mem_append, List.not_mem_nil, or_false] at hv
  rcases hv with rfl | hv | hv | rfl
  · rfl
  · exact W32_one _ _ hv
  · exact U_one _ _ hv
  · rfl
end

/-- Block b is a Hash with these words, this block and this size. -/
def H (w : World) (b : Nat) (l : List Nat) (blk : List UInt8) (n : Nat) (T : TypeId) : Prop := l.length = 8 ∧ blk.length = 64 ∧ w.heap[b]? = some (.cells (hc l blk n) T (0, 0))
end Go.Proofs.YtcpmaddleleblaaDoor.Dk
