/-
  An asker's plain state, and its cells, alone and inside of a client; parts of blocks that are loaded and stored. Nothing of the program's ways.
-/
import Derived.Test.YtabckkepkennhaaRows
import Derived.Test.YtabckkepkennhaaKit2
import Derived.Test.YtabckkepkennhaaKitS
import Derived.Test.YtabckkepkennhaaGpK
import Derived.Test.YtabckkepkennhaaNtM
import Derived.Test.YtabckkepkennhaaNtR
import Derived.Deep.MidRow
namespace Go.Proofs.Ytabckkepkennhaa.Fp
open Go.RowKit Kt Gf Gk
set_option linter.unusedVariables false
set_option linter.unusedSimpArgs false
set_option maxRecDepth 20000

/-- A command without data. -/
structure Cm where
  k : Int
  client : Int
  num : Int
  time : Int
  queue : Int
  group : ByteArray
  body : ByteArray
  token : ByteArray
  attempt : ByteArray
  mx : Int
  secs : Int
  rq : Int
  rg : ByteArray
  rs : Int
  rc : Int
  lo : Int
  hi : Int
  tt : Int
def Cm.none : Cm := ⟨0, 0, 0, 0, 0, .empty, .empty, .empty, .empty, 0, 0, 0, .empty, 0, 0, 0, 0, 0⟩
def cV (c : Cm) : Array Value := #[.int .i64 c.k, .int .i64 c.client, .int .i64 c.num, .int .i64 c.time, .int .i64 c.queue, .string c.group, .string c.body, .string c.token, .string c.attempt, .int .i64 c.mx, .int .i64 c.secs, .int .i64 c.rq, .string c.rg, .int .i64 c.rs, .int .i64 c.rc, .int .i64 c.lo, .int .i64 c.hi, .int .i64 c.tt, .slice none 0 0]
theorem cV_one (c : Cm) : (cV c).all (fun x => x.oneCell') = true := by unfold cV; rw [List.all_toArray]; rfl
/-- An asker. -/
structure As where
  id : Int
  nodes : Int
  retry : Int
  group : Int
  c : Cm
  asks : Bool
  sent : Bool
  waited : Int
/-- What a client has beside its asker. -/
structure Kl where
  x27 : Value
  x28 : Value
  x29 : Value
  x30 : Value
  x31 : Value
  x32 : Value
  x33 : Value
  x34 : Value
  x35 : Value
  x36 : Value
  x37 : Value
  x38 : Value
  x39 : Value
def Xa (a : As) (m : Value) : Array Value := #[.int .i64 a.id, .int .i64 a.nodes, .int .i64 a.retry, .int .i64 a.group, .int .i64 a.c.k, .int .i64 a.c.client, .int .i64 a.c.num, .int .i64 a.c.time, .int .i64 a.c.queue, .string a.c.group, .string a.c.body, .string a.c.token, .string a.c.attempt, .int .i64 a.c.mx, .int .i64 a.c.secs, .int .i64 a.c.rq, .string a.c.rg, .int .i64 a.c.rs, .int .i64 a.c.rc, .int .i64 a.c.lo, .int .i64 a.c.hi, .int .i64 a.c.tt, .slice none 0 0, .bool a.asks, .bool a.sent, .int .i64 a.waited, m]
def Xc (k : Kl) (a : As) (m : Value) : Array Value := #[.int .i64 a.id, .int .i64 a.nodes, .int .i64 a.retry, .int .i64 a.group, .int .i64 a.c.k, .int .i64 a.c.client, .int .i64 a.c.num, .int .i64 a.c.time, .int .i64 a.c.queue, .string a.c.group, .string a.c.body, .string a.c.token, .string a.c.attempt, .int .i64 a.c.mx, .int .i64 a.c.secs, .int .i64 a.c.rq, .string a.c.rg, .int .i64 a.c.rs, .int .i64 a.c.rc, .int .i64 a.c.lo, .int .i64 a.c.hi, .int .i64 a.c.tt, .slice none 0 0, .bool a.asks, .bool a.sent, .int .i64 a.waited, m, k.x27, k.x28, k.x29, k.x30, k.x31, k.x32, k.x33, k.x34, k.x35, k.x36, k.x37, k.x38, k.x39]

theorem cell_other {W : World} {p a : Addr} (h : a.block ≠ p.block) (v : Value) : (W.setCell p v).cell? a = W.cell? a := World.cell?_of_block (w := W) (a := a) (heap_setCell_other W p a.block v h)
theorem run_isAgg {P : Program} {t : TypeId} {d : TypeDesc} (hu : P.underlying t = some d) (hd : (match d with | .struct _ | .array _ _ => true | _ => false) = true) (w : World) : (isAgg t).run P w = .ok true w := by
  unfold isAgg
  rw [Sem.run_bind, run_underlying hu w]
  cases d <;> simp_all
theorem run_load_agg {P : Program} {w : World} (ty : TypeId) (d : TypeDesc) (hu : P.underlying ty = some d) (hd : (match d with | .struct _ | .array _ _ => true | _ => false) = true) (b off : Nat) (cs : List Value) (hi : (P.info? ty).map (·.size) = some cs.length)
    (hc : ∀ j v, cs[j]? = some v → w.cell? ⟨b, off + j, none⟩ = some v) : (loadVar ty ⟨b, off, none⟩).run P w = .ok (.agg cs.toArray) w := by
  have hl := run_loadCells_list (P := P) w ⟨b, off, none⟩ cs (fun j v hv => by rw [show (⟨b, off, none⟩ : Addr).add j = ⟨b, off + j, none⟩ from Addr.add_mid b off j]; exact hc j v hv)
  have hag := run_isAgg (P := P) hu hd w
  cases hq : P.info? ty with
  | none => simp [hq] at hi
  | some i =>
    have hs : i.size = cs.length := by simpa [hq] using hi
    simp [loadVar, Sem.run_bind, hag, sizeOf, typeInfo, hq, hs, hl]
/-- A block that is loaded whole. -/
theorem load_bx {P : Program} {w : World} {b : Nat} {cs : Array Value} {t : TypeId} (h : Bx w b cs t) {ty : TypeId} {d : TypeDesc} (hu : P.underlying ty = some d) (hd : (match d with | .struct _ | .array _ _ => true | _ => false) = true) (hi : (P.info? ty).map (·.size) = some cs.size) :
    (loadVar ty ⟨b, 0, none⟩).run P w = .ok (.agg cs) w := by
  have := run_load_agg (P := P) (w := w) ty d hu hd b 0 cs.toList (by simpa using hi) (fun j v hv => by rw [Nat.zero_add]; exact h.cell j v (by simpa using hv))
  simpa using this
/-- A part of a block. -/
theorem load_part {P : Program} {w : World} {b : Nat} {cs : Array Value} {t : TypeId} (h : Bx w b cs t) {ty : TypeId} {d : TypeDesc} (hu : P.underlying ty = some d) (hd : (match d with | .struct _ | .array _ _ => true | _ => false) = true) (off : Nat) (ds : Array Value)
    (hi : (P.info? ty).map (·.size) = some ds.size) (hc : ∀ j v, ds.toList[j]? = some v → cs[off + j]? = some v) :
    (loadVar ty ⟨b, off, none⟩).run P w = .ok (.agg ds) w := by
  have := run_load_agg (P := P) (w := w) ty d hu hd b off ds.toList (by simpa using hi) (fun j v hv => h.cell _ v (hc j v hv))
  simpa using this
theorem run_stp {P : Program} {w : World} {b : Nat} {cs cs' : Array Value} {t : TypeId} (h : Bx w b cs t) {ty : TypeId} (off : Nat) (ds : Array Value)
    (hi : (P.info? ty).map (·.size) = some ds.size) (hl : off + ds.size ≤ cs.size) (h1 : ds.all (fun x => x.oneCell') = true) (he : (cs.toList.take off ++ ds.toList ++ cs.toList.drop (off + ds.size)).toArray = cs') :
    (storeVar ty ⟨b, off, none⟩ (.agg ds)).run P w = .ok () (w.setRow b cs') := by
  have := run_storeCells_at (P := P) b off t ds.toList 0 cs w h (by simpa using hl) (fun v hv => (Array.all_eq_true_iff_forall_mem.1 h1) v (by simpa using hv))
  simp only [Nat.add_zero] at this
  cases hq : P.info? ty with
  | none => simp [hq] at hi
  | some i =>
    have hs : ds.size = i.size := by simp [hq] at hi; omega
    rw [show ds.toList.length = ds.size from by simp, he] at this
    simp [storeVar, sizeOf, typeInfo, hq, Value.cells, hs, this]
section
variable {P : Program} {w : World} {ops : Array Oper} {rest : List Oper} {o : Oper} {a : Act} {Q : Exit → Act → World → Prop}
/-- A struct stored into a part of a block. -/
theorem wpList_stp (hgd : o.guard = none) {ty : TypeId} {x y : Operand} {b : Nat} {cs cs' ds : Array Value} {t : TypeId} (ho : o.op = .store ty x y) (off : Nat) (hx : a.eval x = .pointer (some ⟨b, off, none⟩)) (hy : a.eval y = .agg ds) (hg : Bx w b cs t) (hi : (P.info? ty).map (·.size) = some ds.size) (hl : off + ds.size ≤ cs.size) (h1 : ds.all (fun x => x.oneCell') = true)
    (he : (cs.toList.take off ++ ds.toList ++ cs.toList.drop (off + ds.size)).toArray = cs')
    (h : wpList P ops Q rest (a.put o.dst undef) (w.setRow b cs')) : wpList P ops Q (o :: rest) a w := by
  refine wpList_plain hgd fun _ hK => ?_
  have hr := run_stp (P := P) hg (ty := ty) off ds hi hl h1 he
  unfold Oper.wp execOp
  simp only [ho, hx, hy, Instr.storeAt, Instr.sureAddr, Sem.run_bind, Sem.run_pure, Result.andThen_ok, hr]
  exact hK _ _ h
end
section
variable {P : Program} {w : World} {ops : Array Oper} {rest : List Oper} {o : Oper} {a : Act} {Q : Exit → Act → World → Prop}
/-- A struct loaded by an operation that is wanted. -/
theorem wpList_ldw (hw : Region.wanted o (yielded ops a.tmps) = true) {ty : TypeId} {x : Operand} {p : Addr} {v : Value} (ho : o.op = .load ty x) (hx : a.eval x = .pointer (some p)) (h : (loadVar ty p).run P w = .ok v w)
    (hk : wpList P ops Q rest (a.put o.dst v) w) : wpList P ops Q (o :: rest) a w := by
  refine wpList_step fun K hK => ?_
  rw [if_pos hw]
  unfold Oper.wp
  rw [Gk.run_ld ho hx h]
  exact hK _ _ hk
end
section
variable {P : Program} {w : World} {ops : Array Oper} {rest : List Oper} {o : Oper} {a : Act} {Q : Exit → Act → World → Prop}
/-- An array's place. -/
theorem wpList_ix (hgd : o.guard = none) {ty : TypeId} {x y : Operand} (ho : o.op = .index ty x y) {v : Value} (hr : (execOp a.eval o).run P w = .ok (.value v) w)
    (hk : wpList P ops Q rest (a.put o.dst v) w) : wpList P ops Q (o :: rest) a w := by
  refine wpList_plain hgd fun _ hK => ?_
  unfold Oper.wp
  rw [hr]
  exact hK _ _ hk
end
theorem Bx.setTo {w : World} {b : Nat} {cs cs' : Array Value} {t : TypeId} (h : Bx w b cs t) (k : Nat) (v : Value) (he : cs.setIfInBounds k v = cs') : Bx (w.setCell ⟨b, k, none⟩ v) b cs' t := he ▸ Gk.Bx.set h k v
theorem neq_map {P : Program} (w : World) (t k e : TypeId) (mo : Option Nat) (h : P.underlying t = some (.map k e)) : (binOp .neq t (.map mo) (.map none)).run P w = .ok (.bool mo.isSome) w := by
  have h1 : ∀ d, (Op.equalIn (d + 1) t (.map mo) (.map none)).run P w = .ok mo.isNone w := fun d => by cases mo <;> simp [Op.equalIn, run_underlying h]
  have h2 : (Op.equal t (.map mo) (.map none)).run P w = .ok mo.isNone w := h1 9999
  simp only [binOp]
  cases mo <;> simp [h2]
end Go.Proofs.Ytabckkepkennhaa.Fp
