/-
  WiK WiA QuA, joined by mrg.py.
-/
import Derived.Test.YtgbbajeeelgbhaaGreatDoorRows
import Derived.Test.YtgbbajeeelgbhaaGreatDoorSqAF
import Derived.Below
import Derived.Laws.StructEq
import Derived.Deep.QuietTactic
import Derived.Sort.Grow
import Derived.Shelf.SlSortCmp.QuietGrown
import Derived.Test.YtgbbajeeelgbhaaGreatDoorSqAC
import Derived.Test.YtgbbajeeelgbhaaGreatDoorSqAD

namespace Go.Proofs.YtgbbajeeelgbhaaGreatDoor.Wk
open Go.RowKit Kt Pl Wi Go.Sort
open At (RowT)
set_option linter.unusedVariables false

/-- What a call leaves that only lays blocks of its own, and may draw. -/
structure Gr (w w' : World) : Prop where
  below : Below w.heap.size w w'
  drawn : w.drawn ≤ w'.drawn
theorem Gr.refl (w : World) : Gr w w := ⟨Below.refl _ _, Nat.le_refl _⟩
theorem Gr.trans {a b c : World} (h : Gr a b) (k : Gr b c) : Gr a c := ⟨h.below.trans (k.below.mono h.below.size), Nat.le_trans h.drawn k.drawn⟩
theorem Gr.alloc {a w : World} (h : Gr a w) (o : Obj) : Gr a (w.alloc o) := ⟨h.below.alloc h.below.size o, h.drawn⟩
theorem Gr.drew {a w : World} (h : Gr a w) : Gr a w.drew := ⟨h.below.drew, Nat.le_succ_of_le h.drawn⟩
theorem Gr.drewN {a w : World} (h : Gr a w) (q : Nat) : Gr a (w.drewN q) := h.trans ⟨⟨rfl, rfl, rfl, Nat.le_refl _, fun _ _ => rfl⟩, Nat.le_add_right _ _⟩
theorem Gr.setCell {a w : World} (h : Gr a w) {p : Addr} (hp : a.heap.size ≤ p.block) (u : Value) : Gr a (w.setCell p u) := ⟨h.below.setCell hp u, h.drawn⟩
theorem Gr.grown {w w' : World} (h : Gr w w') : ∃ q os, w' = Go.Sort.grow (w.drewN q) os := by
  refine ⟨w'.drawn - w.drawn, w'.heap.extract w.heap.size w'.heap.size, ?_⟩
  obtain ⟨hp, tp, dr, os, out⟩ := w'
  have e1 := h.below.os; have e2 := h.below.tape; have e3 := h.below.output; have e4 := h.drawn; have e5 := h.below.size; have e6 := h.below.block
  simp only at e1 e2 e3 e4 e5 e6 ⊢
  subst e1 e2 e3
  simp only [Go.Sort.grow, World.drewN]
  congr 1
  · apply Array.ext'
    rw [Array.toList_append, Array.toList_extract]
    have : w.heap.toList = hp.toList.take w.heap.size := by
      apply List.ext_getElem?
      intro i
      rw [List.getElem?_take, Array.getElem?_toList]
      by_cases hi : i < w.heap.size
      · rw [if_pos hi, Array.getElem?_toList, e6 i hi]
      · rw [if_neg hi, Array.getElem?_eq_none (by omega)]
    rw [this, List.extract_eq_take_drop]
    rw [List.take_of_length_le (l := List.drop _ _) (by simp), List.take_append_drop]
  · omega
theorem gr_grow (w : World) (n : Nat) (os : Array Obj) : Gr w (grow (w.drewN n) os) := by
  refine ⟨⟨rfl, rfl, rfl, by simp [grow, World.drewN], fun k hk => ?_⟩, Nat.le_add_right _ _⟩
  show (w.heap ++ os)[k]? = _
  rw [Array.getElem?_append_left hk]
theorem quietly {P : Program} {f : FuncId} {args : Array Value} {w : World} {n : Nat} {os : Array Obj} {v : Value} (h : Calls P f args (grow (w.drewN n) os) fun e w' => e = .returned v ∧ Gr (grow (w.drewN n) os) w') :
    Calls P f args (grow (w.drewN n) os) fun e w'' => e = .returned v ∧ ∃ p : GrownBy, w'' = grow (w.drewN p.n) p.os :=
  Calls.grown_of (h.mono fun _ _ ⟨he, hg⟩ => ⟨he, hg.grown⟩)

/-- A block that holds these cells. -/
def Bx (w : World) (b : Nat) (cs : Array Value) (t : TypeId) : Prop := w.heap[b]? = some (.cells cs t (0, 0))
theorem Bx.new (w : World) (cs : Array Value) (t : TypeId) : Bx (w.alloc (.cells cs t)) w.heap.size cs t := heap_alloc_new _ _
theorem Bx.lt {w : World} {b : Nat} {cs : Array Value} {t : TypeId} (h : Bx w b cs t) : b < w.heap.size := by
  rcases Nat.lt_or_ge b w.heap.size with h1 | h1
  · exact h1
  · unfold Bx at h; rw [Array.getElem?_eq_none h1] at h; cases h
theorem Bx.below {w w' : World} {b B : Nat} {cs : Array Value} {t : TypeId} (h : Bx w b cs t) (hg : Below B w w') (hb : b < B) : Bx w' b cs t := by
  unfold Bx; rw [hg.block b hb]; exact h
theorem Bx.gr {w w' : World} {b : Nat} {cs : Array Value} {t : TypeId} (h : Bx w b cs t) (hg : Gr w w') : Bx w' b cs t := h.below hg.below h.lt
theorem Bx.drew {w : World} {b : Nat} {cs : Array Value} {t : TypeId} (h : Bx w b cs t) : Bx w.drew b cs t := h
theorem Bx.alloc {w : World} {b : Nat} {cs : Array Value} {t : TypeId} (h : Bx w b cs t) (o : Obj) : Bx (w.alloc o) b cs t := h.gr ((Gr.refl w).alloc o)
theorem Bx.cell {w : World} {b : Nat} {cs : Array Value} {t : TypeId} (h : Bx w b cs t) (k : Nat) : w.cell? ⟨b, k, none⟩ = cs[k]? := by
  simp only [World.cell?]; rw [show w.heap[b]? = _ from h]; rfl
theorem Bx.grown {w : World} {b : Nat} {cs : Array Value} {t : TypeId} (h : Bx w b cs t) (k n : Nat) (os : Array Obj) : (grow (w.drewN n) os).cell? ⟨b, k, none⟩ = cs[k]? := (h.gr (gr_grow w n os)).cell k

theorem run_isAgg {P : Program} {t : TypeId} {d : TypeDesc} (hu : P.underlying t = some d) (hd : (match d with | .struct _ | .array _ _ => true | _ => false) = true) (w : World) : (isAgg t).run P w = .ok true w := by
  unfold isAgg
  rw [Sem.run_bind, run_underlying hu w]
  cases d <;> simp_all
theorem run_load_agg {P : Program} {w : World} (ty : TypeId) (d : TypeDesc) (hu : P.underlying ty = some d) (hd : (match d with | .struct _ | .array _ _ => true | _ => false) = true) (b off : Nat) (cs : List Value) (hi : (P.info? ty).map (·.size) = some cs.length)
    (hc : ∀ j v, cs[j]? = some v → w.cell? ⟨b, off + j, none⟩ = some v) : (loadVar ty ⟨b, off, none⟩).run P w = .ok (.agg cs.toArray) w := by
  have hl := run_loadCells_list (P := P) w ⟨b, off, none⟩ cs (fun j v hv => by rw [Addr.add_lit]; exact hc j v hv)
  have hag := run_isAgg (P := P) hu hd w
  cases hq : P.info? ty with
  | none => simp [hq] at hi
  | some i =>
    have hs : i.size = cs.length := by simpa [hq] using hi
    simp [loadVar, Sem.run_bind, hag, sizeOf, typeInfo, hq, hs, hl]
/-- A block that is loaded whole. -/
theorem load_bx {P : Program} {w : World} {b : Nat} {cs : Array Value} {t : TypeId} (h : Bx w b cs t) {ty : TypeId} {d : TypeDesc} (hu : P.underlying ty = some d) (hd : (match d with | .struct _ | .array _ _ => true | _ => false) = true) (hi : (P.info? ty).map (·.size) = some cs.size) :
    (loadVar ty ⟨b, 0, none⟩).run P w = .ok (.agg cs) w := by
  have := run_load_agg (P := P) (w := w) ty d hu hd b 0 cs.toList (by simpa using hi) (fun j v hv => by rw [Nat.zero_add, h.cell]; simpa using hv)
  simpa using this

/-- A slice of numbers, as it is read. -/
def RowI (w : World) (ao : Option Addr) (l : List Int) : Prop :=
  0 < l.length → ∃ b off, ao = some ⟨b, off, none⟩ ∧ ∀ i, i < l.length → w.cell? ⟨b, off + i, none⟩ = some (.int .i64 (l.getD i 0))
def I (l : List Int) : List Value := l.map fun n => Value.int .i64 n
theorem cell_new (w : World) (cs : Array Value) (T : TypeId) (i : Nat) : (w.alloc (.cells cs T)).cell? ⟨w.heap.size, i, none⟩ = cs[i]? := (Bx.new w cs T).cell i
theorem RowI.new (w : World) (l : List Int) (T : TypeId) : RowI (w.alloc (.cells (I l).toArray T)) (some ⟨w.heap.size, 0, none⟩) l := by
  intro _
  refine ⟨_, _, rfl, fun i hi => ?_⟩
  rw [cell_new, Nat.zero_add]
  simp [I, List.getD, List.getElem?_eq_getElem hi]
theorem RowI.at (w : World) (l : List Int) (T : TypeId) (b : Nat) (hb : b = w.heap.size) : RowI (w.alloc (.cells (I l).toArray T)) (some ⟨b, 0, none⟩) l := hb ▸ RowI.new w l T
theorem RowI.below {w w' : World} {ao : Option Addr} {l : List Int} (h : RowI w ao l) (hb : Below w.heap.size w w') : RowI w' ao l := by
  intro hl
  obtain ⟨b, off, e, hc⟩ := h hl
  refine ⟨b, off, e, fun i hi => ?_⟩
  have h1 := hc i hi
  rw [hb.cell (p := ⟨b, off + i, none⟩) (World.block_lt_of_cell? w _ h1)]
  exact h1
theorem RowI.gr {w w' : World} {ao : Option Addr} {l : List Int} (h : RowI w ao l) (hb : Gr w w') : RowI w' ao l := h.below hb.below
theorem RowT.new (w : World) (l : List Bs) (T' : TypeId) : RowT (w.alloc (.cells (T l).toArray T')) (some ⟨w.heap.size, 0, none⟩) l := by
  intro _
  refine ⟨_, _, rfl, fun i hi => ?_⟩
  rw [cell_new, Nat.zero_add]
  simp [T, List.getD, List.getElem?_eq_getElem hi]
theorem RowT.at (w : World) (l : List Bs) (T' : TypeId) (b : Nat) (hb : b = w.heap.size) : RowT (w.alloc (.cells (T l).toArray T')) (some ⟨b, 0, none⟩) l := hb ▸ RowT.new w l T'
theorem RowT.gr {w w' : World} {ao : Option Addr} {l : List Bs} (h : RowT w ao l) (hb : Gr w w') : RowT w' ao l := h.below hb.below

theorem ret_bool {a b : Bool} (h : a = b) : Ending.returned (.bool a) = .returned (.bool b) := by rw [h]
theorem all_take {α : Type} (p : α → Bool) (l : List α) (k : Nat) (x : α) (hx : l[k]? = some x) : (l.take (k + 1)).all p = ((l.take k).all p && p x) := by
  rw [List.take_add_one, hx, List.all_append]; simp
theorem all_false {α : Type} {p : α → Bool} {l : List α} {k : Nat} {x : α} (hx : l[k]? = some x) (h : p x = false) : l.all p = false := by
  rw [Bool.eq_false_iff, ne_eq, List.all_eq_true]
  intro hh
  rw [hh x (List.mem_of_getElem? hx)] at h
  cases h
theorem getD_of {α : Type} {l : List α} {k : Nat} {x d : α} (hx : l[k]? = some x) : l.getD k d = x := by simp [List.getD, hx]

/- A receipt's and a command's cells. -/
def Rv (r : Rcp) : Array Value := #[.int .i64 r.q, .string (S r.g), .int .i64 r.s, .int .i64 r.c]
def Cv (c : Cm) (d : Value) : Array Value := #[.int .i64 c.kind, .int .i64 c.client, .int .i64 c.num, .int .i64 c.time, .int .i64 c.queue,
  .string (S c.group), .string (S c.body), .string (S c.token), .string (S c.attempt), .int .i64 c.max, .int .i64 c.secs,
  .int .i64 c.rc.q, .string (S c.rc.g), .int .i64 c.rc.s, .int .i64 c.rc.c, .int .i64 c.lo, .int .i64 c.hi, .int .i64 c.to, d]
theorem S_len (s : Bs) : (S s).size = s.length := rfl
end Go.Proofs.YtgbbajeeelgbhaaGreatDoor.Wk

namespace Go.Proofs.YtgbbajeeelgbhaaGreatDoor.Wa
open Go.RowKit Kt Pl Wi Wk
open At (RowT)
set_option linter.unusedVariables false
set_option maxRecDepth 20000

theorem some_of {α : Type} {l : List α} {i : Nat} (h : i < l.length) : ∃ r, l[i]? = some r := ⟨l[i], List.getElem?_eq_getElem h⟩
theorem lt_of {α : Type} {l : List α} {i : Nat} {x : α} (h : l[i]? = some x) : i < l.length := by
  rcases Nat.lt_or_ge i l.length with h1 | h1
  · exact h1
  · rw [List.getElem?_eq_none h1] at h; cases h

section
variable {α : Type} (n : Nat) (cs : α → List Value)
def Fl (l : List α) : List Value := l.flatMap cs
variable {n} {cs} (hn : ∀ x, (cs x).length = n)
include hn
theorem Fl_length (l : List α) : (Fl cs l).length = l.length * n := by
  induction l with
  | nil => simp [Fl]
  | cons r t ih =>
    have e : Fl cs (r :: t) = cs r ++ Fl cs t := rfl
    rw [e, List.length_append, hn, ih, List.length_cons, Nat.add_mul]; omega
theorem Fl_at (l : List α) : ∀ (i : Nat) (x : α), l[i]? = some x → ∀ j, j < n → (Fl cs l)[i * n + j]? = (cs x)[j]? := by
  induction l with
  | nil => intro i r h; cases h
  | cons r t ih =>
    intro i x h j hj
    have e : Fl cs (r :: t) = cs r ++ Fl cs t := rfl
    cases i with
    | zero =>
      simp at h; subst h
      rw [e, Nat.zero_mul, Nat.zero_add, List.getElem?_append_left (by rw [hn]; exact hj)]
    | succ i =>
      rw [e, List.getElem?_append_right (by rw [hn, Nat.add_mul]; omega), hn, show (i + 1) * n + j - n = i * n + j by rw [Nat.add_mul]; omega]
      exact ih i x (by simpa using h) j hj
omit hn in
theorem Fl_one (h1 : ∀ x, ∀ u ∈ cs x, u.oneCell' = true) (l : List α) : ∀ u ∈ Fl cs l, u.oneCell' = true := by
  intro u hu
  obtain ⟨x, -, h⟩ := List.mem_flatMap.1 hu
  exact h1 x u h
omit hn in
theorem Fl_append (a b : List α) : Fl cs (a ++ b) = Fl cs a ++ Fl cs b := by simp [Fl]
omit hn in
theorem Fl_single (x : α) : Fl cs [x] = cs x := by simp [Fl]

omit hn in
variable (n cs) in
/-- A slice of structs, as it is read. -/
def RowS (w : World) (ao : Option Addr) (l : List α) : Prop :=
  0 < l.length → ∃ b off, ao = some ⟨b, off, none⟩ ∧ ∀ i x, l[i]? = some x → ∀ j v, (cs x)[j]? = some v → w.cell? ⟨b, off + i * n + j, none⟩ = some v
omit hn
theorem RowS.nil (w : World) (ao : Option Addr) : RowS n cs w ao [] := fun h => by simp at h
theorem RowS.below {w w' : World} {ao : Option Addr} {l : List α} (h : RowS n cs w ao l) (hb : Below w.heap.size w w') : RowS n cs w' ao l := by
  intro hl
  obtain ⟨b, off, e, hc⟩ := h hl
  refine ⟨b, off, e, fun i x hx j v hv => ?_⟩
  have h1 := hc i x hx j v hv
  rw [hb.cell (p := ⟨b, off + i * n + j, none⟩) (World.block_lt_of_cell? w _ h1)]
  exact h1
theorem RowS.gr {w w' : World} {ao : Option Addr} {l : List α} (h : RowS n cs w ao l) (hb : Gr w w') : RowS n cs w' ao l := h.below hb.below
theorem RowS.take {w : World} {ao : Option Addr} {l : List α} (h : RowS n cs w ao l) (k : Nat) : RowS n cs w ao (l.take k) := by
  intro hl
  rw [List.length_take] at hl
  obtain ⟨b, off, e, hc⟩ := h (by omega)
  exact ⟨b, off, e, fun i r hr => hc i r (by rw [List.getElem?_take] at hr; split at hr; exact hr; cases hr)⟩
theorem RowS.block {w : World} {ao : Option Addr} {l : List α} (h : RowS n cs w ao l) (hl : 0 < l.length) (h0 : ∀ x, 0 < (cs x).length) : ∀ a, ao = some a → a.block < w.heap.size := by
  obtain ⟨b, off, rfl, hc⟩ := h hl
  intro a ha
  injection ha with ha
  subst ha
  obtain ⟨x, hx⟩ := some_of hl
  obtain ⟨v, hv⟩ := some_of (h0 x)
  exact World.block_lt_of_cell? w ⟨b, off + 0 * n + 0, none⟩ (hc 0 x hx 0 v hv)
theorem RowS.setRow {w : World} {ao : Option Addr} {l : List α} (h : RowS n cs w ao l) {g : Nat} (hp : ∀ a, ao = some a → a.block ≠ g) (ds : Array Value) : RowS n cs (w.setRow g ds) ao l := by
  intro hl
  obtain ⟨b, off, rfl, hc⟩ := h hl
  refine ⟨b, off, rfl, fun i x hx j v hv => ?_⟩
  rw [World.cell?_of_block (w := w) (a := ⟨b, off + i * n + j, none⟩) (setRow_other w g b ds (hp _ rfl))]
  exact hc i x hx j v hv
theorem RowS.setCell {w : World} {ao : Option Addr} {l : List α} (h : RowS n cs w ao l) {p : Addr} (hp : ∀ a, ao = some a → a.block ≠ p.block) (v : Value) : RowS n cs (w.setCell p v) ao l := by
  intro hl
  obtain ⟨b, off, rfl, hc⟩ := h hl
  refine ⟨b, off, rfl, fun i x hx j u hu => ?_⟩
  rw [World.cell?_of_block (w := w) (a := ⟨b, off + i * n + j, none⟩) (heap_setCell_other w p b v (hp _ rfl))]
  exact hc i x hx j u hu
include hn
theorem RowS.src (h1 : ∀ x, ∀ u ∈ cs x, u.oneCell' = true) (hpos : 0 < n) {P : Program} {w : World} {tx e' : TypeId} (hk : P.underlying tx = some (.slice e')) {ao : Option Addr} {l : List α} (h : RowS n cs w ao l) (c : Nat) :
    Src P n tx (.slice ao l.length c) l.length (Fl cs l) w := by
  by_cases h0 : 0 < l.length
  · obtain ⟨b, off, rfl, hc⟩ := h h0
    refine Src.ofSlice w hk _ _ c _ (Fl_length hn l) (fun j u hj => ?_) (Fl_one h1 l)
    have hj1 : j < l.length * n := by have := lt_of hj; rwa [Fl_length hn] at this
    have hq : j / n < l.length := Nat.div_lt_of_lt_mul (by rw [Nat.mul_comm]; exact hj1)
    obtain ⟨x, hx⟩ := some_of hq
    have e : j = j / n * n + j % n := by have := Nat.div_add_mod j n; rw [Nat.mul_comm] at this; exact this.symm
    have hm : j % n < n := Nat.mod_lt _ hpos
    rw [e, Fl_at hn l _ x hx _ hm] at hj
    rw [Addr.add_lit, e, ← Nat.add_assoc]
    exact hc _ x hx _ u hj
  · have e : l = [] := List.eq_nil_of_length_eq_zero (by omega)
    subst e
    cases ao with
    | none => exact Src.ofNil w hk c
    | some a => exact Src.ofSlice w hk a 0 c [] (by simp) (fun j u hj => by simp at hj) (fun u hu => by cases hu)
/-- A row that the call owns, as it is read. -/
theorem RowS.own {w : World} {base m cap : Nat} {e : TypeId} {ao : Option Addr} {l : List α} (h : w.ownsRow base e n (.slice ao m cap) l.length (Fl cs l)) : RowS n cs w ao l := by
  intro hl
  rcases h.2 with ⟨e1, e2⟩ | ⟨g, c, cur, e1, _⟩
  · omega
  · simp only [Value.slice.injEq] at e1
    obtain ⟨rfl, rfl, rfl⟩ := e1
    refine ⟨g, 0, rfl, fun i x hx j v hv => ?_⟩
    have hi := lt_of hx
    have hj : j < n := by have := lt_of hv; rwa [hn] at this
    have hb : i * n + j < l.length * n := by
      have : (i + 1) * n ≤ l.length * n := Nat.mul_le_mul_right n hi
      rw [Nat.add_mul] at this; omega
    have h0 := World.ownsRow.cellAt h (i * n + j) hb
    rw [Fl_at hn l i x hx j hj, hv] at h0
    rw [Nat.zero_add]
    exact h0
end

/-- The cells of a delivery. -/
def gC (g : Gt) : List Value := [.int .i64 g.rc.q, .string (S g.rc.g), .int .i64 g.rc.s, .int .i64 g.rc.c, .string (S g.body), .int .i64 g.sent]
def Gv (g : Gt) : Array Value := (gC g).toArray
def rC (r : Int × Int) : List Value := [.int .i64 r.1, .int .i64 r.2]
theorem gC_len (g : Gt) : (gC g).length = 6 := rfl
theorem rC_len (r : Int × Int) : (rC r).length = 2 := rfl
theorem gC_one (g : Gt) : ∀ u ∈ gC g, u.oneCell' = true := by
  intro u hu
  simp only [gC, List.mem_cons, List.not_mem_nil, or_false] at hu
  rcases hu with rfl | rfl | rfl | rfl | rfl | rfl <;> rfl
theorem rC_one (r : Int × Int) : ∀ u ∈ rC r, u.oneCell' = true := by
  intro u hu
  simp only [rC, List.mem_cons, List.not_mem_nil, or_false] at hu
  rcases hu with rfl | rfl <;> rfl
abbrev RowG := RowS 6 gC
abbrev RowR := RowS 2 rC
/-- A reply's cells. -/
def Pv (r : Rp) (ga : Option Addr) (gc : Nat) (da : Option Addr) (dc : Nat) (ra : Option Addr) (rc : Nat) : Array Value :=
  #[.int .i64 r.err, .int .i64 r.seq, .int .i64 r.n, .slice ga r.got.length gc, .slice da r.data.length dc, .slice ra r.about.length rc]
/-- What of a reply lies in memory. -/
structure RpM (w : World) (r : Rp) (ga da ra : Option Addr) : Prop where
  got : RowG w ga r.got
  data : RowT w da r.data
  about : RowR w ra r.about
theorem RpM.below {w w' : World} {r : Rp} {ga da ra : Option Addr} (h : RpM w r ga da ra) (hb : Below w.heap.size w w') : RpM w' r ga da ra := ⟨h.got.below hb, h.data.below hb, h.about.below hb⟩
theorem RpM.gr {w w' : World} {r : Rp} {ga da ra : Option Addr} (h : RpM w r ga da ra) (hb : Gr w w') : RpM w' r ga da ra := h.below hb.below
/-- Lists that a walk can count. -/
def Cnt (r : Rp) : Prop := r.got.length ≤ 1000000000 ∧ r.data.length ≤ 1000000 ∧ r.about.length ≤ 1000000000
theorem Pv_one (r : Rp) (ga : Option Addr) (gc : Nat) (da : Option Addr) (dc : Nat) (ra : Option Addr) (rc : Nat) : (Pv r ga gc da dc ra rc).all (fun x => x.oneCell') = true := by unfold Pv; rw [List.all_toArray]; rfl
theorem infoP : (Tryz.prog.info? 46).map (·.size) = some 6 := by kernel_rfl
theorem infoG : (Tryz.prog.info? 155).map (·.size) = some 6 := by kernel_rfl
theorem infoR : (Tryz.prog.info? 37).map (·.size) = some 2 := by kernel_rfl
theorem load_pv {w : World} {b : Nat} {r : Rp} {ga : Option Addr} {gc : Nat} {da : Option Addr} {dc : Nat} {ra : Option Addr} {rc : Nat} (h : Bx w b (Pv r ga gc da dc ra rc) 46) : (loadVar 46 ⟨b, 0, none⟩).run Tryz.prog w = .ok (.agg (Pv r ga gc da dc ra rc)) w :=
  load_bx h Tryz.underlying46 rfl infoP
theorem load_gv {w : World} {b : Nat} {g : Gt} (h : Bx w b (Gv g) 155) : (loadVar 155 ⟨b, 0, none⟩).run Tryz.prog w = .ok (.agg (Gv g)) w :=
  load_bx h Tryz.underlying155 rfl infoG
/-- One of a row is loaded. -/
theorem load_got {w : World} {b off i : Nat} {g : Gt} (h : ∀ j v, (gC g)[j]? = some v → w.cell? ⟨b, off + i * 6 + j, none⟩ = some v) : (loadVar 155 ⟨b, off + i * 6, none⟩).run Tryz.prog w = .ok (.agg (Gv g)) w :=
  run_load_agg 155 _ Tryz.underlying155 rfl b (off + i * 6) (gC g) infoG h
theorem load_rng {w : World} {b off i : Nat} {r : Int × Int} (h : ∀ j v, (rC r)[j]? = some v → w.cell? ⟨b, off + i * 2 + j, none⟩ = some v) : (loadVar 37 ⟨b, off + i * 2, none⟩).run Tryz.prog w = .ok (.agg (rC r).toArray) w :=
  run_load_agg 37 _ Tryz.underlying37 rfl b (off + i * 2) (rC r) infoR h
end Go.Proofs.YtgbbajeeelgbhaaGreatDoor.Wa

namespace Go.Proofs.YtgbbajeeelgbhaaGreatDoor.Qa
open Go.RowKit Kt Gf Gk Gp Qm
open Gr (RowS Fl Gl Go' gC)
open Pl (Rg)
open Pr (Rw)
open Wi (Rp)
open Wa (Pv RpM)
set_option linter.unusedVariables false
set_option linter.unusedSectionVars false
set_option linter.unusedSimpArgs false
set_option maxRecDepth 20000

/-- What a queue is like. -/
structure Cf where
  vis : Int
  keep : Int
  max : Int
  dead : Int
def cfC (c : Cf) : List Value := [.int .i64 c.vis, .int .i64 c.keep, .int .i64 c.max, .int .i64 c.dead]
theorem cfC_len (c : Cf) : (cfC c).length = 4 := rfl
theorem cfC_one (c : Cf) : ∀ u ∈ cfC c, u.oneCell' = true := by intro u hu; simp [cfC] at hu; rcases hu with rfl | rfl | rfl | rfl <;> rfl
abbrev RowQ := RowS 4 cfC
theorem rowS_fr {α : Type} {n : Nat} {cs : α → List Value} {w w' : World} {Q : Nat → Prop} {ao : Option Addr} {l : List α} (h : RowS n cs w ao l) (hf : Fr Q w w') (hq : ∀ a v, w.cell? a = some v → (∃ a', ao = some a' ∧ a'.block = a.block) → ¬ Q a.block) : RowS n cs w' ao l := by
  intro hl
  obtain ⟨b, off, e, hc⟩ := h hl
  refine ⟨b, off, e, fun i x hx j v hv => ?_⟩
  have h1 := hc i x hx j v hv
  have hlt := World.block_lt_of_cell? w _ h1
  rw [World.cell?_of_block (w := w) (a := ⟨b, off + i * n + j, none⟩) (hf.heap hlt (hq _ _ h1 ⟨_, e, rfl⟩))]
  exact h1
theorem rw_fr {w w' : World} {Q : Nat → Prop} {ao : Option Addr} {l : List Rg} (h : Rw w ao l) (hf : Fr Q w w') (hq : ∀ a v, w.cell? a = some v → (∃ a', ao = some a' ∧ a'.block = a.block) → ¬ Q a.block) : Rw w' ao l := by
  intro hl
  obtain ⟨b, off, e, hc⟩ := h hl
  refine ⟨b, off, e, fun i r hr => ?_⟩
  obtain ⟨h1, h2⟩ := hc i r hr
  have hlt := World.block_lt_of_cell? w _ h1
  have hh := hf.heap hlt (hq _ _ h1 ⟨_, e, rfl⟩)
  rw [World.cell?_of_block (w := w) (a := ⟨b, off + i * 2, none⟩) hh, World.cell?_of_block (w := w) (a := ⟨b, off + i * 2 + 1, none⟩) hh]
  exact ⟨h1, h2⟩
/-- The block that a slice lies in is of that type. -/
def Ty (w : World) (t : TypeId) (ao : Option Addr) : Prop := ∀ a, ao = some a → ∃ cs fl, w.heap[a.block]? = some (.cells cs t fl)
theorem Ty.none (w : World) (t : TypeId) : Ty w t none := fun a h => by cases h
theorem Ty.lt {w : World} {t : TypeId} {ao : Option Addr} (h : Ty w t ao) : ∀ a, ao = some a → a.block < w.heap.size := fun a e => by
  obtain ⟨cs, fl, h1⟩ := h a e
  exact block_lt h1
theorem Ty.fr {w w' : World} {Q : Nat → Prop} {t : TypeId} {ao : Option Addr} (h : Ty w t ao) (hf : Fr Q w w') (hq : ∀ a, ao = some a → ¬ Q a.block) : Ty w' t ao := fun a e => by
  obtain ⟨cs, fl, h1⟩ := h a e
  exact ⟨cs, fl, (hf.heap (block_lt h1) (hq a e)).trans h1⟩
theorem Ty.below {w w' : World} {t : TypeId} {ao : Option Addr} (h : Ty w t ao) (hb : Below w.heap.size w w') : Ty w' t ao := h.fr (Q := fun _ => False) (Fr.ofBelow hb) (fun _ _ x => x)
theorem Ty.nmap {w : World} {t : TypeId} {ao : Option Addr} {b : Nat} {xs : List X} (h : Ty w t ao) (hm : Mg w b xs) : ∀ a, ao = some a → ¬ a.block = b := fun a e hb => by
  obtain ⟨cs, fl, h1⟩ := h a e
  obtain ⟨⟨D, ⟨es, clock, hb2, r⟩, hD⟩, -, -⟩ := hm
  rw [← hb, h1] at hb2
  cases hb2
theorem Ty.nbx {w : World} {t t' : TypeId} {ao : Option Addr} {b : Nat} {ds : Array Value} (h : Ty w t ao) (hm : Bx w b ds t') (ht : t ≠ t') : ∀ a, ao = some a → ¬ a.block = b := fun a e hb => by
  obtain ⟨cs, fl, h1⟩ := h a e
  unfold Bx at hm
  rw [← hb, h1] at hm
  simp only [Option.some.injEq, Obj.cells.injEq] at hm
  exact ht hm.2.1
theorem Ty.own {w : World} {base n size cap : Nat} {e : TypeId} {ao : Option Addr} {m : Nat} {ys : List Value} (h : w.ownsRow base e size (.slice ao m cap) n ys) : Ty w e ao := fun a ha => by
  subst ha
  rcases h.2 with ⟨e1, -⟩ | ⟨g, c, cur, e1, -, hg, -⟩
  · cases e1
  · cases e1
    exact ⟨cur, _, hg⟩
/-- A group's lists, in blocks of their own types. -/
structure Gy (w : World) (g : G) (ka : Option Addr) (kc : Nat) (ma : Option Addr) (mc : Nat) : Prop where
  gl : Gl w g ka kc ma mc
  tk : Ty w 195 ka
  tm : Ty w 198 ma
theorem Gy.fr {w w' : World} {Q : Nat → Prop} {g : G} {ka ma : Option Addr} {kc mc : Nat} (h : Gy w g ka kc ma mc) (hf : Fr Q w w') (h1 : ∀ a, ka = some a → ¬ Q a.block) (h2 : ∀ a, ma = some a → ¬ Q a.block) : Gy w' g ka kc ma mc :=
  ⟨⟨rowS_fr h.gl.k hf (fun a v hc ⟨a', e, hb⟩ => hb ▸ h1 a' e), rowS_fr h.gl.m hf (fun a v hc ⟨a', e, hb⟩ => hb ▸ h2 a' e), h.gl.kl, h.gl.ml, h.gl.kb, h.gl.mb⟩, h.tk.fr hf h1, h.tm.fr hf h2⟩
theorem Gy.below {w w' : World} {g : G} {ka ma : Option Addr} {kc mc : Nat} (h : Gy w g ka kc ma mc) (hb : Below w.heap.size w w') : Gy w' g ka kc ma mc := h.fr (Q := fun _ => False) (Fr.ofBelow hb) (fun _ _ x => x) (fun _ _ x => x)
theorem Gy.map {w w' : World} {b : Nat} {xs : List X} {g : G} {ka ma : Option Addr} {kc mc : Nat} (h : Gy w g ka kc ma mc) (hf : Fr (fun k => k = b) w w') (hm : Mg w b xs) : Gy w' g ka kc ma mc := h.fr hf (h.tk.nmap hm) (h.tm.nmap hm)
theorem Gy.bx {w w' : World} {b : Nat} {g : G} {ka ma : Option Addr} {kc mc : Nat} {ds : Array Value} {t : TypeId} (h : Gy w g ka kc ma mc) (hf : Fr (fun k => k = b) w w') (hm : Bx w b ds t) (h1 : 195 ≠ t) (h2 : 198 ≠ t) : Gy w' g ka kc ma mc := h.fr hf (h.tk.nbx hm h1) (h.tm.nbx hm h2)
theorem Gy.own {B : Nat} {w : World} {g : G} {ka ma : Option Addr} {kc mc : Nat} (h : Go' B w g ka kc ma mc) : Gy w g ka kc ma mc := ⟨h.gl, Ty.own h.k, Ty.own h.m⟩

/-- What a group may be, here. -/
def Ok (g : G) : Prop := OkG g ∧ g.kept.length ≤ 100000 ∧ g.marks.length ≤ 100000
/-- Block Xb is an engine, its groups' map block Mb. -/
structure Ex (w : World) (Xb Mb : Nat) (cf : List Cf) (sv : List Rg) (xs : List X) (qa : Option Addr) (qc : Nat) (sa : Option Addr) (sc : Nat) : Prop where
  bx : Bx w Xb #[.slice qa cf.length qc, .slice sa sv.length sc, .map (some Mb)] 161
  cq : RowQ w qa cf
  sr : Rw w sa sv
  tq : Ty w 89 qa
  ts : Ty w 37 sa
  m : Mg w Mb xs
  g : ∀ x ∈ xs, Gy w x.p.g x.ka x.kc x.ma x.mc ∧ Ok x.p.g ∧ 0 ≤ x.p.q ∧ x.p.q < (cf.length : Int)
  n0 : 0 < cf.length
  n6 : cf.length ≤ 6
  ql : cf.length ≤ qc ∧ qc ≤ 9223372036854775807
  sl : sv.length ≤ sc ∧ sc ≤ 9223372036854775807
section
variable {w w' : World} {Xb Mb : Nat} {cf : List Cf} {sv : List Rg} {xs : List X} {qa : Option Addr} {qc : Nat} {sa : Option Addr} {sc : Nat}
/-- Nothing of an engine turns. -/
theorem Ex.frQ {Q : Nat → Prop} (h : Ex w Xb Mb cf sv xs qa qc sa sc) (hf : Fr Q w w') (h1 : ¬ Q Xb) (h2 : ¬ Q Mb) (h3 : ∀ a, qa = some a → ¬ Q a.block) (h4 : ∀ a, sa = some a → ¬ Q a.block) (h5 : ∀ x ∈ xs, (∀ a, x.ka = some a → ¬ Q a.block) ∧ (∀ a, x.ma = some a → ¬ Q a.block)) : Ex w' Xb Mb cf sv xs qa qc sa sc :=
  ⟨h.bx.fr hf h1, rowS_fr h.cq hf (fun a v hc ⟨a', e, hb⟩ => hb ▸ h3 a' e), rw_fr h.sr hf (fun a v hc ⟨a', e, hb⟩ => hb ▸ h4 a' e), h.tq.fr hf h3, h.ts.fr hf h4, h.m.fr hf h2, fun x hx => by
    obtain ⟨g1, g2⟩ := h.g x hx
    exact ⟨g1.fr hf (h5 x hx).1 (h5 x hx).2, g2⟩, h.n0, h.n6, h.ql, h.sl⟩
theorem Ex.below (h : Ex w Xb Mb cf sv xs qa qc sa sc) (hb : Below w.heap.size w w') : Ex w' Xb Mb cf sv xs qa qc sa sc :=
  h.frQ (Q := fun _ => False) (Fr.ofBelow hb) (fun x => x) (fun x => x) (fun _ _ x => x) (fun _ _ x => x) (fun _ _ => ⟨fun _ _ x => x, fun _ _ x => x⟩)
/-- .. where a block of another type turns. -/
theorem Ex.other {b : Nat} {ds : Array Value} {t : TypeId} (h : Ex w Xb Mb cf sv xs qa qc sa sc) (hf : Fr (fun k => k = b) w w') (hB : Bx w b ds t) (h0 : 161 ≠ t) (h1 : 195 ≠ t) (h2 : 198 ≠ t) (h3 : 89 ≠ t) (h4 : 37 ≠ t) : Ex w' Xb Mb cf sv xs qa qc sa sc := by
  refine h.frQ hf (fun e => ?_) (fun e => ?_) (h.tq.nbx hB h3) (h.ts.nbx hB h4) (fun x hx => ⟨(h.g x hx).1.tk.nbx hB h1, (h.g x hx).1.tm.nbx hB h2⟩)
  · have h9 := h.bx
    unfold Bx at h9 hB
    rw [e, hB] at h9
    simp only [Option.some.injEq, Obj.cells.injEq] at h9
    exact h0 h9.2.1.symm
  · obtain ⟨⟨D, ⟨es, clock, hb2, r⟩, hD⟩, -, -⟩ := h.m
    unfold Bx at hB
    rw [e, hB] at hb2
    cases hb2
/-- A group is put: its lists lie in what there is then. -/
theorem Ex.step {x : X} (h : Ex w Xb Mb cf sv xs qa qc sa sc) (hf : Fr (fun k => k = Mb) w w') (hm : Mg w' Mb (Qm.put X.p xs x))
    (h1 : Gy w' x.p.g x.ka x.kc x.ma x.mc) (h2 : Ok x.p.g) (h3 : 0 ≤ x.p.q ∧ x.p.q < (cf.length : Int)) : Ex w' Xb Mb cf sv (Qm.put X.p xs x) qa qc sa sc := by
  have hb := h.m.bare
  refine ⟨h.bx.fr hf (hb ⟨Xb, 0, none⟩ _ (h.bx.cell 0 _ rfl)), rowS_fr h.cq hf (fun a v hc _ => hb a v hc), rw_fr h.sr hf (fun a v hc _ => hb a v hc), h.tq.fr hf (h.tq.nmap h.m), h.ts.fr hf (h.ts.nmap h.m), hm, fun y hy => ?_, h.n0, h.n6, h.ql, h.sl⟩
  rcases mem_put hy with rfl | hy
  · exact ⟨h1, h2, h3⟩
  · obtain ⟨q1, q2⟩ := h.g y hy
    exact ⟨q1.map hf h.m, q2⟩
end
theorem own_map {w : World} {base e size n b k : Nat} {v : Value} {ys : List Value} {xs : List X} (h : w.ownsRow base e size v n ys) (hm : Mg w b xs) (hk : v.ownBlock = some k) : k ≠ b := by
  obtain ⟨⟨D, ⟨es, clock, hb, r⟩, hD⟩, h1, h2⟩ := hm
  rintro rfl
  rcases h.2 with ⟨rfl, -⟩ | ⟨g, cap, cur, rfl, -, hg, -⟩
  · simp [Value.ownBlock] at hk
  · simp only [Value.ownBlock, Option.some.injEq] at hk
    subst hk
    rw [hg] at hb
    cases hb
/-- A group that the call owns stays so, where a map turns, and where a block of groups does. -/
theorem own_gmap {B : Nat} {w w' : World} {b : Nat} {g : G} {ka ma : Option Addr} {kc mc : Nat} {xs : List X} (h : Go' B w g ka kc ma mc) (hf : Fr (fun k => k = b) w w') (hm : Mg w b xs) : Go' B w' g ka kc ma mc :=
  ⟨Gr.own_fr h.k hf (fun k hk hk2 => own_map h.k hm hk hk2), Gr.own_fr h.m hf (fun k hk hk2 => own_map h.m hm hk hk2)⟩
theorem own_gbx {B : Nat} {w w' : World} {b : Nat} {g : G} {ka ma : Option Addr} {kc mc : Nat} {cs : Array Value} {t : TypeId} (h : Go' B w g ka kc ma mc) (hf : Fr (fun k => k = b) w w') (hb : Bx w b cs t) (h1 : 195 ≠ t) (h2 : 198 ≠ t) : Go' B w' g ka kc ma mc :=
  ⟨Gr.own_fr h.k hf (fun k hk hk2 => own_ne h.k hb hk h1 hk2), Gr.own_fr h.m hf (fun k hk hk2 => own_ne h.m hb hk h2 hk2)⟩

theorem isMade_yes {w : World} {Xb : Nat} {qa : Option Addr} {n qc : Nat} {v u : Value} (h : Bx w Xb #[.slice qa n qc, v, u] 161) (hn : 0 < n) : Calls Tryz.prog 104 #[.pointer (some ⟨Xb, 0, none⟩)] w fun e w' => e = .returned (.bool true) ∧ w' = w := by
  have c0 : w.cell? ⟨Xb, 0, none⟩ = some (.slice qa n qc) := h.cell 0 _ rfl
  have hn' : (0 : Int) < (n : Int) := by omega
  clear h
  go_enter Tryz.func104, Tryz.ntmps104
  go_wp2
  go_ret
  exact ⟨rfl, rfl⟩
theorem isMade_nil (w : World) : Calls Tryz.prog 104 #[.pointer none] w fun e w' => e = .returned (.bool false) ∧ w' = w := by
  go_enter Tryz.func104, Tryz.ntmps104
  go_wp2
  go_ret
  exact ⟨rfl, rfl⟩
theorem isMade_zero {w : World} {Xb : Nat} {v u : Value} (h : Bx w Xb #[.slice none 0 0, v, u] 161) : Calls Tryz.prog 104 #[.pointer (some ⟨Xb, 0, none⟩)] w fun e w' => e = .returned (.bool false) ∧ w' = w := by
  have c0 : w.cell? ⟨Xb, 0, none⟩ = some (.slice none 0 0) := h.cell 0 _ rfl
  clear h
  go_enter Tryz.func104, Tryz.ntmps104
  go_wp2
  go_ret
  exact ⟨rfl, rfl⟩

theorem hasQueue_any {w : World} {Xb : Nat} {qa : Option Addr} {n qc : Nat} {v u : Value} (h : Bx w Xb #[.slice qa n qc, v, u] 161) (q : Int) : Calls Tryz.prog 181 #[.pointer (some ⟨Xb, 0, none⟩), .int .i64 q] w fun e w' => e = .returned (.bool (decide (0 ≤ q ∧ q < (n : Int)))) ∧ w' = w := by
  have c0 : w.cell? ⟨Xb, 0, none⟩ = some (.slice qa n qc) := h.cell 0 _ rfl
  clear h
  have h : decide (0 ≤ q ∧ q < (n : Int)) = (if (0 : Int) ≤ q then decide (q < (n : Int)) else false) := by
    by_cases h : (0 : Int) ≤ q <;> simp [h]
  rw [h]
  clear h
  by_cases h1 : (0 : Int) ≤ q
  · rw [if_pos h1]
    go_enter Tryz.func181, Tryz.ntmps181
    go_wp2
    go_ret
    exact ⟨rfl, rfl⟩
  · rw [if_neg h1]
    go_enter Tryz.func181, Tryz.ntmps181
    go_wp2
    go_ret
    exact ⟨rfl, rfl⟩

def isT (n : Int) : Prop := 0 ≤ n ∧ n ≤ 1099511627776
instance (n : Int) : Decidable (isT n) := by unfold isT; infer_instance
theorem isTime_any (w : World) (n : Int) : Calls Tryz.prog 222 #[.int .i64 n] w fun e w' => e = .returned (.bool (decide (isT n))) ∧ w' = w := by
  have h : decide (isT n) = (if (0 : Int) ≤ n then decide (n ≤ 1099511627776) else false) := by
    unfold isT
    by_cases h : (0 : Int) ≤ n <;> simp [h]
  rw [h]
  clear h
  by_cases h1 : (0 : Int) ≤ n
  · rw [if_pos h1]
    go_enter Tryz.func222, Tryz.ntmps222
    go_wp2
    go_ret
    exact ⟨rfl, rfl⟩
  · rw [if_neg h1]
    go_enter Tryz.func222, Tryz.ntmps222
    go_wp2
    go_ret
    exact ⟨rfl, rfl⟩

theorem isBatch_any (w : World) (n : Int) : Calls Tryz.prog 269 #[.int .i64 n] w fun e w' => e = .returned (.bool (decide (1 ≤ n ∧ n ≤ 10))) ∧ w' = w := by
  have h : decide (1 ≤ n ∧ n ≤ 10) = (if (1 : Int) ≤ n then decide (n ≤ 10) else false) := by
    by_cases h : (1 : Int) ≤ n <;> simp [h]
  rw [h]
  clear h
  by_cases h1 : (1 : Int) ≤ n
  · rw [if_pos h1]
    go_enter Tryz.func269, Tryz.ntmps269
    go_wp2
    go_ret
    exact ⟨rfl, rfl⟩
  · rw [if_neg h1]
    go_enter Tryz.func269, Tryz.ntmps269
    go_wp2
    go_ret
    exact ⟨rfl, rfl⟩

/-- A struct stored whole into a block that was just made. -/
theorem wpList_stn {P : Program} {w : World} {ops : Array Oper} {rest : List Oper} {o : Oper} {a : Act} {Q : Exit → Act → World → Prop} (hgd : o.guard = none) {ty : TypeId} {x y : Operand} {cs zs : Array Value} {t : TypeId} (ho : o.op = .store ty x y) (hx : a.eval x = .pointer (some ⟨w.heap.size, 0, none⟩)) (hy : a.eval y = .agg cs) (hi : (P.info? ty).map (·.size) = some cs.size) (hold : zs.size = cs.size) (h1 : cs.all (fun x => x.oneCell') = true)
    (h : ∀ W, Bx W w.heap.size cs t → Below w.heap.size w W → wpList P ops Q rest (a.put o.dst undef) W) : wpList P ops Q (o :: rest) a (w.alloc (.cells zs t)) :=
  wpList_st hgd ho hx hy (Bx.new w zs t) hi hold h1 (h _ (Bx.new w zs t).row (below_setRow ((Below.refl _ _).alloc (Nat.le_refl _) _) (Nat.le_refl _) _))

/-- A reply that tells an error alone. -/
def rpE (e : Int) : Rp := ⟨e, 0, 0, [], [], []⟩
/-- .. a number alone. -/
def rpS (s : Int) : Rp := ⟨0, s, 0, [], [], []⟩
theorem refusal_any (w : World) (er : Int) : Calls Tryz.prog 221 #[.int .i64 er] w fun e w' => e = .returned (.agg (Pv (rpE er) none 0 none 0 none 0)) ∧ Below w.heap.size w w' := by
  have hB := Bx.new w #[.int .i64 er, .int .i64 0, .int .i64 0, .slice none 0 0, .slice none 0 0, .slice none 0 0] 46
  have hB' : Wk.Bx (w.alloc (.cells #[.int .i64 er, .int .i64 0, .int .i64 0, .slice none 0 0, .slice none 0 0, .slice none 0 0] 46)) w.heap.size (Pv (rpE er) none 0 none 0 none 0) 46 := hB
  go_enter Tryz.func221, Tryz.ntmps221
  go_wp2
  refine bodyPost_ret (res_c rfl _ _ _ rfl (Wa.load_pv hB')) rfl ⟨rfl, (Below.refl _ w).alloc (Nat.le_refl _) _⟩
end Go.Proofs.YtgbbajeeelgbhaaGreatDoor.Qa
