/-
  Rows of structs: as they are read, as the call owns them; the cells of a delivery, of a range and of a reply.
-/
import Derived.Test.YtenkgpfeifflnaaGreatWiK
namespace Go.Proofs.YtenkgpfeifflnaaGreat.Wa
open Go.RowKit Kt Pl Wi Wk
open At (RowT)
set_option linter.unusedVariables false
set_option maxRecDepth 20000

theorem some_of {α : Type} {l : List α} {i : Nat} (h : i < l.length) : ∃ r, l[i]? = some r := ⟨l[i], List.getElem?_eq_getElem h⟩
theorem lt_of {α : Type} {l : List α} {i : Nat} {x : α} (h : l[i]? = some x) : i < l.length := by
  rcases Nat.lt_or_ge i l.length with h1 | h1
  · exact h1
  · rw [List.getElem?_eq_none h1] at h; cases h

section
variable {α : Type} (n : Nat) (cs : α → List Value)
def Fl (l : List α) : List Value := l.flatMap cs
variable {n} {cs} (hn : ∀ x, (cs x).length = n)
include hn
theorem Fl_length (l : List α) : (Fl cs l).length = l.length * n := by
  induction l with
  | nil => simp [Fl]
  | cons r t ih =>
    have e : Fl cs (r :: t) = cs r ++ Fl cs t := rfl
    rw [e, List.length_append, hn, ih, List.length_cons, Nat.add_mul]; omega
theorem Fl_at (l : List α) : ∀ (i : Nat) (x : α), l[i]? = some x → ∀ j, j < n → (Fl cs l)[i * n + j]? = (cs x)[j]? := by
  induction l with
  | nil => intro i r h; cases h
  | cons r t ih =>
    intro i x h j hj
    have e : Fl cs (r :: t) = cs r ++ Fl cs t := rfl
    cases i with
    | zero =>
      simp at h; subst h
      rw [e, Nat.zero_mul, Nat.zero_add, List.getElem?_append_left (by rw [hn]; exact hj)]
    | succ i =>
      rw [e, List.getElem?_append_right (by rw [hn, Nat.add_mul]; omega), hn, show (i + 1) * n + j - n = i * n + j by rw [Nat.add_mul]; omega]
      exact ih i x (by simpa using h) j hj
omit hn in
theorem Fl_one (h1 : ∀ x, ∀ u ∈ cs x, u.oneCell' = true) (l : List α) : ∀ u ∈ Fl cs l, u.oneCell' = true := by
  intro u hu
  obtain ⟨x, -, h⟩ := List.mem_flatMap.1 hu
  exact h1 x u h
omit hn in
theorem Fl_append (a b : List α) : Fl cs (a ++ b) = Fl cs a ++ Fl cs b := by simp [Fl]
omit hn in
theorem Fl_single (x : α) : Fl cs [x] = cs x := by simp [Fl]

omit hn in
variable (n cs) in
/-- A slice of structs, as it is read. -/
def RowS (w : World) (ao : Option Addr) (l : List α) : Prop :=
  0 < l.length → ∃ b off, ao = some ⟨b, off, none⟩ ∧ ∀ i x, l[i]? = some x → ∀ j v, (cs x)[j]? = some v → w.cell? ⟨b, off + i * n + j, none⟩ = some v
omit hn
theorem RowS.nil (w : World) (ao : Option Addr) : RowS n cs w ao [] := fun h => by simp at h
theorem RowS.below {w w' : World} {ao : Option Addr} {l : List α} (h : RowS n cs w ao l) (hb : Below w.heap.size w w') : RowS n cs w' ao l := by
  intro hl
  obtain ⟨b, off, e, hc⟩ := h hl
  refine ⟨b, off, e, fun i x hx j v hv => ?_⟩
  have h1 := hc i x hx j v hv
  rw [hb.cell (p := ⟨b, off + i * n + j, none⟩) (World.block_lt_of_cell? w _ h1)]
  exact h1
theorem RowS.gr {w w' : World} {ao : Option Addr} {l : List α} (h : RowS n cs w ao l) (hb : Gr w w') : RowS n cs w' ao l := h.below hb.below
theorem RowS.take {w : World} {ao : Option Addr} {l : List α} (h : RowS n cs w ao l) (k : Nat) : RowS n cs w ao (l.take k) := by
  intro hl
  rw [List.length_take] at hl
  obtain ⟨b, off, e, hc⟩ := h (by omega)
  exact ⟨b, off, e, fun i r hr => hc i r (by rw [List.getElem?_take] at hr; split at hr; exact hr; cases hr)⟩
theorem RowS.block {w : World} {ao : Option Addr} {l : List α} (h : RowS n cs w ao l) (hl : 0 < l.length) (h0 : ∀ x, 0 < (cs x).length) : ∀ a, ao = some a → a.block < w.heap.size := by
  obtain ⟨b, off, rfl, hc⟩ := h hl
  intro a ha
  injection ha with ha
  subst ha
  obtain ⟨x, hx⟩ := some_of hl
  obtain ⟨v, hv⟩ := some_of (h0 x)
  exact World.block_lt_of_cell? w ⟨b, off + 0 * n + 0, none⟩ (hc 0 x hx 0 v hv)
theorem RowS.setRow {w : World} {ao : Option Addr} {l : List α} (h : RowS n cs w ao l) {g : Nat} (hp : ∀ a, ao = some a → a.block ≠ g) (ds : Array Value) : RowS n cs (w.setRow g ds) ao l := by
  intro hl
  obtain ⟨b, off, rfl, hc⟩ := h hl
  refine ⟨b, off, rfl, fun i x hx j v hv => ?_⟩
  rw [World.cell?_of_block (w := w) (a := ⟨b, off + i * n + j, none⟩) (setRow_other w g b ds (hp _ rfl))]
  exact hc i x hx j v hv
theorem RowS.setCell {w : World} {ao : Option Addr} {l : List α} (h : RowS n cs w ao l) {p : Addr} (hp : ∀ a, ao = some a → a.block ≠ p.block) (v : Value) : RowS n cs (w.setCell p v) ao l := by
  intro hl
  obtain ⟨b, off, rfl, hc⟩ := h hl
  refine ⟨b, off, rfl, fun i x hx j u hu => ?_⟩
  rw [World.cell?_of_block (w := w) (a := ⟨b, off + i * n + j, none⟩) (heap_setCell_other w p b v (hp _ rfl))]
  exact hc i x hx j u hu
include hn
theorem RowS.src (h1 : ∀ x, ∀ u ∈ cs x, u.oneCell' = true) (hpos : 0 < n) {P : Program} {w : World} {tx e' : TypeId} (hk : P.underlying tx = some (.slice e')) {ao : Option Addr} {l : List α} (h : RowS n cs w ao l) (c : Nat) :
    Src P n tx (.slice ao l.length c) l.length (Fl cs l) w := by
  by_cases h0 : 0 < l.length
  · obtain ⟨b, off, rfl, hc⟩ := h h0
    refine Src.ofSlice w hk _ _ c _ (Fl_length hn l) (fun j u hj => ?_) (Fl_one h1 l)
    have hj1 : j < l.length * n := by have := lt_of hj; rwa [Fl_length hn] at this
    have hq : j / n < l.length := Nat.div_lt_of_lt_mul (by rw [Nat.mul_comm]; exact hj1)
    obtain ⟨x, hx⟩ := some_of hq
    have e : j = j / n * n + j % n := by have := Nat.div_add_mod j n; rw [Nat.mul_comm] at this; exact this.symm
    have hm : j % n < n := Nat.mod_lt _ hpos
    rw [e, Fl_at hn l _ x hx _ hm] at hj
    rw [Addr.add_lit, e, ← Nat.add_assoc]
    exact hc _ x hx _ u hj
  · have e : l = [] := List.eq_nil_of_length_eq_zero (by omega)
    subst e
    cases ao with
    | none => exact Src.ofNil w hk c
    | some a => exact Src.ofSlice w hk a 0 c [] (by simp) (fun j u hj => by simp at hj) (fun u hu => by cases hu)
/-- A row that the call owns, as it is read. -/
theorem RowS.own {w : World} {base m cap : Nat} {e : TypeId} {ao : Option Addr} {l : List α} (h : w.ownsRow base e n (.slice ao m cap) l.length (Fl cs l)) : RowS n cs w ao l := by
  intro hl
  rcases h.2 with ⟨e1, e2⟩ | ⟨g, c, cur, e1, _⟩
  · omega
  · simp only [Value.slice.injEq] at e1
    obtain ⟨rfl, rfl, rfl⟩ := e1
    refine ⟨g, 0, rfl, fun i x hx j v hv => ?_⟩
    have hi := lt_of hx
    have hj : j < n := by have := lt_of hv; rwa [hn] at this
    have hb : i * n + j < l.length * n := by
      have : (i + 1) * n ≤ l.length * n := Nat.mul_le_mul_right n hi
      rw [Nat.add_mul] at this; omega
    have h0 := World.ownsRow.cellAt h (i * n + j) hb
    rw [Fl_at hn l i x hx j hj, hv] at h0
    rw [Nat.zero_add]
    exact h0
end

/-- The cells of a delivery. -/
def gC (g : Gt) : List Value := [.int .i64 g.rc.q, .string (S g.rc.g), .int .i64 g.rc.s, .int .i64 g.rc.c, .string (S g.body), .int .i64 g.sent]
def Gv (g : Gt) : Array Value := (gC g).toArray
def rC (r : Int × Int) : List Value := [.int .i64 r.1, .int .i64 r.2]
theorem gC_len (g : Gt) : (gC g).length = 6 := rfl
theorem rC_len (r : Int × Int) : (rC r).length = 2 := rfl
theorem gC_one (g : Gt) : ∀ u ∈ gC g, u.oneCell' = true := by
  intro u hu
  simp only [gC, List.mem_cons, List.not_mem_nil, or_false] at hu
  rcases hu with rfl | rfl | rfl | rfl | rfl | rfl <;> rfl
theorem rC_one (r : Int × Int) : ∀ u ∈ rC r, u.oneCell' = true := by
  intro u hu
  simp only [rC, List.mem_cons, List.not_mem_nil, or_false] at hu
  rcases hu with rfl | rfl <;> rfl
abbrev RowG := RowS 6 gC
abbrev RowR := RowS 2 rC
/-- A reply's cells. -/
def Pv (r : Rp) (ga : Option Addr) (gc : Nat) (da : Option Addr) (dc : Nat) (ra : Option Addr) (rc : Nat) : Array Value :=
  #[.int .i64 r.err, .int .i64 r.seq, .int .i64 r.n, .slice ga r.got.length gc, .slice da r.data.length dc, .slice ra r.about.length rc]
/-- What of a reply lies in memory. -/
structure RpM (w : World) (r : Rp) (ga da ra : Option Addr) : Prop where
  got : RowG w ga r.got
  data : RowT w da r.data
  about : RowR w ra r.about
theorem RpM.below {w w' : World} {r : Rp} {ga da ra : Option Addr} (h : RpM w r ga da ra) (hb : Below w.heap.size w w') : RpM w' r ga da ra := ⟨h.got.below hb, h.data.below hb, h.about.below hb⟩
theorem RpM.gr {w w' : World} {r : Rp} {ga da ra : Option Addr} (h : RpM w r ga da ra) (hb : Gr w w') : RpM w' r ga da ra := h.below hb.below
/-- Lists that a walk can count. -/
def Cnt (r : Rp) : Prop := r.got.length ≤ 1000000000 ∧ r.data.length ≤ 1000000 ∧ r.about.length ≤ 1000000000
theorem Pv_one (r : Rp) (ga : Option Addr) (gc : Nat) (da : Option Addr) (dc : Nat) (ra : Option Addr) (rc : Nat) : (Pv r ga gc da dc ra rc).all (fun x => x.oneCell') = true := by unfold Pv; rw [List.all_toArray]; rfl
theorem infoP : (Tryz.prog.info? 34).map (·.size) = some 6 := by kernel_rfl
theorem infoG : (Tryz.prog.info? 43).map (·.size) = some 6 := by kernel_rfl
theorem infoR : (Tryz.prog.info? 95).map (·.size) = some 2 := by kernel_rfl
theorem load_pv {w : World} {b : Nat} {r : Rp} {ga : Option Addr} {gc : Nat} {da : Option Addr} {dc : Nat} {ra : Option Addr} {rc : Nat} (h : Bx w b (Pv r ga gc da dc ra rc) 34) : (loadVar 34 ⟨b, 0, none⟩).run Tryz.prog w = .ok (.agg (Pv r ga gc da dc ra rc)) w :=
  load_bx h Tryz.underlying34 rfl infoP
theorem load_gv {w : World} {b : Nat} {g : Gt} (h : Bx w b (Gv g) 43) : (loadVar 43 ⟨b, 0, none⟩).run Tryz.prog w = .ok (.agg (Gv g)) w :=
  load_bx h Tryz.underlying43 rfl infoG
/-- One of a row is loaded. -/
theorem load_got {w : World} {b off i : Nat} {g : Gt} (h : ∀ j v, (gC g)[j]? = some v → w.cell? ⟨b, off + i * 6 + j, none⟩ = some v) : (loadVar 43 ⟨b, off + i * 6, none⟩).run Tryz.prog w = .ok (.agg (Gv g)) w :=
  run_load_agg 43 _ Tryz.underlying43 rfl b (off + i * 6) (gC g) infoG h
theorem load_rng {w : World} {b off i : Nat} {r : Int × Int} (h : ∀ j v, (rC r)[j]? = some v → w.cell? ⟨b, off + i * 2 + j, none⟩ = some v) : (loadVar 95 ⟨b, off + i * 2, none⟩).run Tryz.prog w = .ok (.agg (rC r).toArray) w :=
  run_load_agg 95 _ Tryz.underlying95 rfl b (off + i * 2) (rC r) infoR h
end Go.Proofs.YtenkgpfeifflnaaGreat.Wa
