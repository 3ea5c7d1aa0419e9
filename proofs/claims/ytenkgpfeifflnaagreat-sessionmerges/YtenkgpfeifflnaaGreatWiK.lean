/-
  What serves every walk of layer wire: worlds that only grow, rows of numbers and of texts, the cells of a command and of a receipt.
-/
import Derived.Test.YtenkgpfeifflnaaGreatRows
import Derived.Test.YtenkgpfeifflnaaGreatAddT
import Derived.Test.YtenkgpfeifflnaaGreatListsT
import Derived.Test.YtenkgpfeifflnaaGreatWiP
import Derived.Below
import Derived.Laws.StructEq
import Derived.Deep.QuietTactic
import Derived.Sort.Grow
import Derived.Shelf.SlSortCmp.QuietGrown
namespace Go.Proofs.YtenkgpfeifflnaaGreat.Wk
open Go.RowKit Kt Pl Wi Go.Sort
open At (RowT)
set_option linter.unusedVariables false

/-- What a call leaves that only lays blocks of its own, and may draw. -/
structure Gr (w w' : World) : Prop where
  below : Below w.heap.size w w'
  drawn : w.drawn ≤ w'.drawn
theorem Gr.refl (w : World) : Gr w w := ⟨Below.refl _ _, Nat.le_refl _⟩
theorem Gr.trans {a b c : World} (h : Gr a b) (k : Gr b c) : Gr a c := ⟨h.below.trans (k.below.mono h.below.size), Nat.le_trans h.drawn k.drawn⟩
theorem Gr.alloc {a w : World} (h : Gr a w) (o : Obj) : Gr a (w.alloc o) := ⟨h.below.alloc h.below.size o, h.drawn⟩
theorem Gr.drew {a w : World} (h : Gr a w) : Gr a w.drew := ⟨h.below.drew, Nat.le_succ_of_le h.drawn⟩
theorem Gr.drewN {a w : World} (h : Gr a w) (q : Nat) : Gr a (w.drewN q) := h.trans ⟨⟨rfl, rfl, rfl, Nat.le_refl _, fun _ _ => rfl⟩, Nat.le_add_right _ _⟩
theorem Gr.setCell {a w : World} (h : Gr a w) {p : Addr} (hp : a.heap.size ≤ p.block) (u : Value) : Gr a (w.setCell p u) := ⟨h.below.setCell hp u, h.drawn⟩
theorem Gr.grown {w w' : World} (h : Gr w w') : ∃ q os, w' = Go.Sort.grow (w.drewN q) os := by
  refine ⟨w'.drawn - w.drawn, w'.heap.extract w.heap.size w'.heap.size, ?_⟩
  obtain ⟨hp, tp, dr, os, out⟩ := w'
  have e1 := h.below.os; have e2 := h.below.tape; have e3 := h.below.output; have e4 := h.drawn; have e5 := h.below.size; have e6 := h.below.block
  simp only at e1 e2 e3 e4 e5 e6 ⊢
  subst e1 e2 e3
  simp only [Go.Sort.grow, World.drewN]
  congr 1
  · apply Array.ext'
    rw [Array.toList_append, Array.toList_extract]
    have : w.heap.toList = hp.toList.take w.heap.size := by
      apply List.ext_getElem?
      intro i
      rw [List.getElem?_take, Array.getElem?_toList]
      by_cases hi : i < w.heap.size
      · rw [if_pos hi, Array.getElem?_toList, e6 i hi]
      · rw [if_neg hi, Array.getElem?_eq_none (by omega)]
    rw [this, List.extract_eq_take_drop]
    rw [List.take_of_length_le (l := List.drop _ _) (by simp), List.take_append_drop]
  · omega
theorem gr_grow (w : World) (n : Nat) (os : Array Obj) : Gr w (grow (w.drewN n) os) := by
  refine ⟨⟨rfl, rfl, rfl, by simp [grow, World.drewN], fun k hk => ?_⟩, Nat.le_add_right _ _⟩
  show (w.heap ++ os)[k]? = _
  rw [Array.getElem?_append_left hk]
theorem quietly {P : Program} {f : FuncId} {args : Array Value} {w : World} {n : Nat} {os : Array Obj} {v : Value} (h : Calls P f args (grow (w.drewN n) os) fun e w' => e = .returned v ∧ Gr (grow (w.drewN n) os) w') :
    Calls P f args (grow (w.drewN n) os) fun e w'' => e = .returned v ∧ ∃ p : GrownBy, w'' = grow (w.drewN p.n) p.os :=
  Calls.grown_of (h.mono fun _ _ ⟨he, hg⟩ => ⟨he, hg.grown⟩)

/-- A block that holds these cells. -/
def Bx (w : World) (b : Nat) (cs : Array Value) (t : TypeId) : Prop := w.heap[b]? = some (.cells cs t (0, 0))
theorem Bx.new (w : World) (cs : Array Value) (t : TypeId) : Bx (w.alloc (.cells cs t)) w.heap.size cs t := heap_alloc_new _ _
theorem Bx.lt {w : World} {b : Nat} {cs : Array Value} {t : TypeId} (h : Bx w b cs t) : b < w.heap.size := by
  rcases Nat.lt_or_ge b w.heap.size with h1 | h1
  · exact h1
  · unfold Bx at h; rw [Array.getElem?_eq_none h1] at h; cases h
theorem Bx.below {w w' : World} {b B : Nat} {cs : Array Value} {t : TypeId} (h : Bx w b cs t) (hg : Below B w w') (hb : b < B) : Bx w' b cs t := by
  unfold Bx; rw [hg.block b hb]; exact h
theorem Bx.gr {w w' : World} {b : Nat} {cs : Array Value} {t : TypeId} (h : Bx w b cs t) (hg : Gr w w') : Bx w' b cs t := h.below hg.below h.lt
theorem Bx.drew {w : World} {b : Nat} {cs : Array Value} {t : TypeId} (h : Bx w b cs t) : Bx w.drew b cs t := h
theorem Bx.alloc {w : World} {b : Nat} {cs : Array Value} {t : TypeId} (h : Bx w b cs t) (o : Obj) : Bx (w.alloc o) b cs t := h.gr ((Gr.refl w).alloc o)
theorem Bx.cell {w : World} {b : Nat} {cs : Array Value} {t : TypeId} (h : Bx w b cs t) (k : Nat) : w.cell? ⟨b, k, none⟩ = cs[k]? := by
  simp only [World.cell?]; rw [show w.heap[b]? = _ from h]; rfl
theorem Bx.grown {w : World} {b : Nat} {cs : Array Value} {t : TypeId} (h : Bx w b cs t) (k n : Nat) (os : Array Obj) : (grow (w.drewN n) os).cell? ⟨b, k, none⟩ = cs[k]? := (h.gr (gr_grow w n os)).cell k

theorem run_isAgg {P : Program} {t : TypeId} {d : TypeDesc} (hu : P.underlying t = some d) (hd : (match d with | .struct _ | .array _ _ => true | _ => false) = true) (w : World) : (isAgg t).run P w = .ok true w := by
  unfold isAgg
  rw [Sem.run_bind, run_underlying hu w]
  cases d <;> simp_all
theorem run_load_agg {P : Program} {w : World} (ty : TypeId) (d : TypeDesc) (hu : P.underlying ty = some d) (hd : (match d with | .struct _ | .array _ _ => true | _ => false) = true) (b off : Nat) (cs : List Value) (hi : (P.info? ty).map (·.size) = some cs.length)
    (hc : ∀ j v, cs[j]? = some v → w.cell? ⟨b, off + j, none⟩ = some v) : (loadVar ty ⟨b, off, none⟩).run P w = .ok (.agg cs.toArray) w := by
  have hl := run_loadCells_list (P := P) w ⟨b, off, none⟩ cs (fun j v hv => by rw [Addr.add_lit]; exact hc j v hv)
  have hag := run_isAgg (P := P) hu hd w
  cases hq : P.info? ty with
  | none => simp [hq] at hi
  | some i =>
    have hs : i.size = cs.length := by simpa [hq] using hi
    simp [loadVar, Sem.run_bind, hag, sizeOf, typeInfo, hq, hs, hl]
/-- A block that is loaded whole. -/
theorem load_bx {P : Program} {w : World} {b : Nat} {cs : Array Value} {t : TypeId} (h : Bx w b cs t) {ty : TypeId} {d : TypeDesc} (hu : P.underlying ty = some d) (hd : (match d with | .struct _ | .array _ _ => true | _ => false) = true) (hi : (P.info? ty).map (·.size) = some cs.size) :
    (loadVar ty ⟨b, 0, none⟩).run P w = .ok (.agg cs) w := by
  have := run_load_agg (P := P) (w := w) ty d hu hd b 0 cs.toList (by simpa using hi) (fun j v hv => by rw [Nat.zero_add, h.cell]; simpa using hv)
  simpa using this

/-- A slice of numbers, as it is read. -/
def RowI (w : World) (ao : Option Addr) (l : List Int) : Prop :=
  0 < l.length → ∃ b off, ao = some ⟨b, off, none⟩ ∧ ∀ i, i < l.length → w.cell? ⟨b, off + i, none⟩ = some (.int .i64 (l.getD i 0))
def I (l : List Int) : List Value := l.map fun n => Value.int .i64 n
theorem cell_new (w : World) (cs : Array Value) (T : TypeId) (i : Nat) : (w.alloc (.cells cs T)).cell? ⟨w.heap.size, i, none⟩ = cs[i]? := (Bx.new w cs T).cell i
theorem RowI.new (w : World) (l : List Int) (T : TypeId) : RowI (w.alloc (.cells (I l).toArray T)) (some ⟨w.heap.size, 0, none⟩) l := by
  intro _
  refine ⟨_, _, rfl, fun i hi => ?_⟩
  rw [cell_new, Nat.zero_add]
  simp [I, List.getD, List.getElem?_eq_getElem hi]
theorem RowI.at (w : World) (l : List Int) (T : TypeId) (b : Nat) (hb : b = w.heap.size) : RowI (w.alloc (.cells (I l).toArray T)) (some ⟨b, 0, none⟩) l := hb ▸ RowI.new w l T
theorem RowI.below {w w' : World} {ao : Option Addr} {l : List Int} (h : RowI w ao l) (hb : Below w.heap.size w w') : RowI w' ao l := by
  intro hl
  obtain ⟨b, off, e, hc⟩ := h hl
  refine ⟨b, off, e, fun i hi => ?_⟩
  have h1 := hc i hi
  rw [hb.cell (p := ⟨b, off + i, none⟩) (World.block_lt_of_cell? w _ h1)]
  exact h1
theorem RowI.gr {w w' : World} {ao : Option Addr} {l : List Int} (h : RowI w ao l) (hb : Gr w w') : RowI w' ao l := h.below hb.below
theorem RowT.new (w : World) (l : List Bs) (T' : TypeId) : RowT (w.alloc (.cells (T l).toArray T')) (some ⟨w.heap.size, 0, none⟩) l := by
  intro _
  refine ⟨_, _, rfl, fun i hi => ?_⟩
  rw [cell_new, Nat.zero_add]
  simp [T, List.getD, List.getElem?_eq_getElem hi]
theorem RowT.at (w : World) (l : List Bs) (T' : TypeId) (b : Nat) (hb : b = w.heap.size) : RowT (w.alloc (.cells (T l).toArray T')) (some ⟨b, 0, none⟩) l := hb ▸ RowT.new w l T'
theorem RowT.gr {w w' : World} {ao : Option Addr} {l : List Bs} (h : RowT w ao l) (hb : Gr w w') : RowT w' ao l := h.below hb.below

theorem ret_bool {a b : Bool} (h : a = b) : Ending.returned (.bool a) = .returned (.bool b) := by rw [h]
theorem all_take {α : Type} (p : α → Bool) (l : List α) (k : Nat) (x : α) (hx : l[k]? = some x) : (l.take (k + 1)).all p = ((l.take k).all p && p x) := by
  rw [List.take_add_one, hx, List.all_append]; simp
theorem all_false {α : Type} {p : α → Bool} {l : List α} {k : Nat} {x : α} (hx : l[k]? = some x) (h : p x = false) : l.all p = false := by
  rw [Bool.eq_false_iff, ne_eq, List.all_eq_true]
  intro hh
  rw [hh x (List.mem_of_getElem? hx)] at h
  cases h
theorem getD_of {α : Type} {l : List α} {k : Nat} {x d : α} (hx : l[k]? = some x) : l.getD k d = x := by simp [List.getD, hx]

/- A receipt's and a command's cells. -/
def Rv (r : Rcp) : Array Value := #[.int .i64 r.q, .string (S r.g), .int .i64 r.s, .int .i64 r.c]
def Cv (c : Cm) (d : Value) : Array Value := #[.int .i64 c.kind, .int .i64 c.client, .int .i64 c.num, .int .i64 c.time, .int .i64 c.queue,
  .string (S c.group), .string (S c.body), .string (S c.token), .string (S c.attempt), .int .i64 c.max, .int .i64 c.secs,
  .int .i64 c.rc.q, .string (S c.rc.g), .int .i64 c.rc.s, .int .i64 c.rc.c, .int .i64 c.lo, .int .i64 c.hi, .int .i64 c.to, d]
theorem S_len (s : Bs) : (S s).size = s.length := rfl
end Go.Proofs.YtenkgpfeifflnaaGreat.Wk
