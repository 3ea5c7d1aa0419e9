/-
  GpR GpK, joined by mrg.py.
-/
import Derived.Test.YtgbbajeeelgbhaaGreatDoorRows
import Derived.Test.YtgbbajeeelgbhaaGreatDoorSqAA

namespace Go.Proofs.YtgbbajeeelgbhaaGreatDoor.Gr
open Go.RowKit Kt Gf Gp
set_option linter.unusedVariables false
set_option linter.unusedSimpArgs false
set_option maxRecDepth 20000

theorem some_of {α : Type} {l : List α} {i : Nat} (h : i < l.length) : ∃ r, l[i]? = some r := ⟨l[i], List.getElem?_eq_getElem h⟩
theorem lt_of {α : Type} {l : List α} {i : Nat} {x : α} (h : l[i]? = some x) : i < l.length := by
  rcases Nat.lt_or_ge i l.length with h1 | h1
  · exact h1
  · rw [List.getElem?_eq_none h1] at h; cases h

section
variable {α : Type} (n : Nat) (cs : α → List Value)
def Fl (l : List α) : List Value := l.flatMap cs
variable {n} {cs} (hn : ∀ x, (cs x).length = n)
include hn
theorem Fl_length (l : List α) : (Fl cs l).length = l.length * n := by
  induction l with
  | nil => simp [Fl]
  | cons r t ih =>
    have e : Fl cs (r :: t) = cs r ++ Fl cs t := rfl
    rw [e, List.length_append, hn, ih, List.length_cons, Nat.add_mul]; omega
theorem Fl_at (l : List α) : ∀ (i : Nat) (x : α), l[i]? = some x → ∀ j, j < n → (Fl cs l)[i * n + j]? = (cs x)[j]? := by
  induction l with
  | nil => intro i r h; cases h
  | cons r t ih =>
    intro i x h j hj
    have e : Fl cs (r :: t) = cs r ++ Fl cs t := rfl
    cases i with
    | zero =>
      simp at h; subst h
      rw [e, Nat.zero_mul, Nat.zero_add, List.getElem?_append_left (by rw [hn]; exact hj)]
    | succ i =>
      rw [e, List.getElem?_append_right (by rw [hn, Nat.add_mul]; omega), hn, show (i + 1) * n + j - n = i * n + j by rw [Nat.add_mul]; omega]
      exact ih i x (by simpa using h) j hj
omit hn in
theorem Fl_one (h1 : ∀ x, ∀ u ∈ cs x, u.oneCell' = true) (l : List α) : ∀ u ∈ Fl cs l, u.oneCell' = true := by
  intro u hu
  obtain ⟨x, -, h⟩ := List.mem_flatMap.1 hu
  exact h1 x u h
omit hn in
theorem Fl_append (a b : List α) : Fl cs (a ++ b) = Fl cs a ++ Fl cs b := by simp [Fl]
omit hn in
theorem Fl_single (x : α) : Fl cs [x] = cs x := by simp [Fl]

omit hn in
variable (n cs) in
/-- A slice of structs, as it is read. -/
def RowS (w : World) (ao : Option Addr) (l : List α) : Prop :=
  0 < l.length → ∃ b off, ao = some ⟨b, off, none⟩ ∧ ∀ i x, l[i]? = some x → ∀ j v, (cs x)[j]? = some v → w.cell? ⟨b, off + i * n + j, none⟩ = some v
omit hn
theorem RowS.nil (w : World) (ao : Option Addr) : RowS n cs w ao [] := fun h => by simp at h
theorem RowS.below {w w' : World} {ao : Option Addr} {l : List α} (h : RowS n cs w ao l) (hb : Below w.heap.size w w') : RowS n cs w' ao l := by
  intro hl
  obtain ⟨b, off, e, hc⟩ := h hl
  refine ⟨b, off, e, fun i x hx j v hv => ?_⟩
  have h1 := hc i x hx j v hv
  rw [hb.cell (p := ⟨b, off + i * n + j, none⟩) (World.block_lt_of_cell? w _ h1)]
  exact h1
theorem RowS.take {w : World} {ao : Option Addr} {l : List α} (h : RowS n cs w ao l) (k : Nat) : RowS n cs w ao (l.take k) := by
  intro hl
  rw [List.length_take] at hl
  obtain ⟨b, off, e, hc⟩ := h (by omega)
  exact ⟨b, off, e, fun i r hr => hc i r (by rw [List.getElem?_take] at hr; split at hr; exact hr; cases hr)⟩
theorem RowS.block {w : World} {ao : Option Addr} {l : List α} (h : RowS n cs w ao l) (hl : 0 < l.length) (h0 : ∀ x, 0 < (cs x).length) : ∀ a, ao = some a → a.block < w.heap.size := by
  obtain ⟨b, off, rfl, hc⟩ := h hl
  intro a ha
  injection ha with ha
  subst ha
  obtain ⟨x, hx⟩ := some_of hl
  obtain ⟨v, hv⟩ := some_of (h0 x)
  exact World.block_lt_of_cell? w ⟨b, off + 0 * n + 0, none⟩ (hc 0 x hx 0 v hv)
theorem RowS.setRow {w : World} {ao : Option Addr} {l : List α} (h : RowS n cs w ao l) {g : Nat} (hp : ∀ a, ao = some a → a.block ≠ g) (ds : Array Value) : RowS n cs (w.setRow g ds) ao l := by
  intro hl
  obtain ⟨b, off, rfl, hc⟩ := h hl
  refine ⟨b, off, rfl, fun i x hx j v hv => ?_⟩
  rw [World.cell?_of_block (w := w) (a := ⟨b, off + i * n + j, none⟩) (setRow_other w g b ds (hp _ rfl))]
  exact hc i x hx j v hv
theorem RowS.setCell {w : World} {ao : Option Addr} {l : List α} (h : RowS n cs w ao l) {p : Addr} (hp : ∀ a, ao = some a → a.block ≠ p.block) (v : Value) : RowS n cs (w.setCell p v) ao l := by
  intro hl
  obtain ⟨b, off, rfl, hc⟩ := h hl
  refine ⟨b, off, rfl, fun i x hx j u hu => ?_⟩
  rw [World.cell?_of_block (w := w) (a := ⟨b, off + i * n + j, none⟩) (heap_setCell_other w p b v (hp _ rfl))]
  exact hc i x hx j u hu
include hn
theorem RowS.src (h1 : ∀ x, ∀ u ∈ cs x, u.oneCell' = true) (hpos : 0 < n) {P : Program} {w : World} {tx e' : TypeId} (hk : P.underlying tx = some (.slice e')) {ao : Option Addr} {l : List α} (h : RowS n cs w ao l) (c : Nat) :
    Src P n tx (.slice ao l.length c) l.length (Fl cs l) w := by
  by_cases h0 : 0 < l.length
  · obtain ⟨b, off, rfl, hc⟩ := h h0
    refine Src.ofSlice w hk _ _ c _ (Fl_length hn l) (fun j u hj => ?_) (Fl_one h1 l)
    have hj1 : j < l.length * n := by have := lt_of hj; rwa [Fl_length hn] at this
    have hq : j / n < l.length := Nat.div_lt_of_lt_mul (by rw [Nat.mul_comm]; exact hj1)
    obtain ⟨x, hx⟩ := some_of hq
    have e : j = j / n * n + j % n := by have := Nat.div_add_mod j n; rw [Nat.mul_comm] at this; exact this.symm
    have hm : j % n < n := Nat.mod_lt _ hpos
    rw [e, Fl_at hn l _ x hx _ hm] at hj
    rw [Addr.add_lit, e, ← Nat.add_assoc]
    exact hc _ x hx _ u hj
  · have e : l = [] := List.eq_nil_of_length_eq_zero (by omega)
    subst e
    cases ao with
    | none => exact Src.ofNil w hk c
    | some a => exact Src.ofSlice w hk a 0 c [] (by simp) (fun j u hj => by simp at hj) (fun u hu => by cases hu)
/-- A row that the call owns, as it is read. -/
theorem RowS.own {w : World} {base m cap : Nat} {e : TypeId} {ao : Option Addr} {l : List α} (h : w.ownsRow base e n (.slice ao m cap) l.length (Fl cs l)) : RowS n cs w ao l := by
  intro hl
  rcases h.2 with ⟨e1, e2⟩ | ⟨g, c, cur, e1, _⟩
  · omega
  · simp only [Value.slice.injEq] at e1
    obtain ⟨rfl, rfl, rfl⟩ := e1
    refine ⟨g, 0, rfl, fun i x hx j v hv => ?_⟩
    have hi := lt_of hx
    have hj : j < n := by have := lt_of hv; rwa [hn] at this
    have hb : i * n + j < l.length * n := by
      have : (i + 1) * n ≤ l.length * n := Nat.mul_le_mul_right n hi
      rw [Nat.add_mul] at this; omega
    have h0 := World.ownsRow.cellAt h (i * n + j) hb
    rw [Fl_at hn l i x hx j hj, hv] at h0
    rw [Nat.zero_add]
    exact h0
end

theorem own_below {w w' : World} {base e size n : Nat} {v : Value} {xs : List Value} (h : w.ownsRow base e size v n xs) (hb : Below w.heap.size w w') : w'.ownsRow base e size v n xs := by
  refine ⟨h.1, ?_⟩
  rcases h.2 with h1 | ⟨g, cap, cur, e1, e2, e3, e4⟩
  · exact .inl h1
  · have hlt : g < w.heap.size := (Array.getElem?_eq_some_iff.1 e3).1
    exact .inr ⟨g, cap, cur, e1, e2, by rw [hb.block g hlt]; exact e3, e4⟩
theorem own_fr {w w' : World} {Q : Nat → Prop} {base e size n : Nat} {v : Value} {xs : List Value} (h : w.ownsRow base e size v n xs) (hf : Fr Q w w') (hq : ∀ k, v.ownBlock = some k → ¬ Q k) : w'.ownsRow base e size v n xs := by
  refine ⟨h.1, ?_⟩
  rcases h.2 with h1 | ⟨g, cap, cur, e1, e2, e3, e4⟩
  · exact .inl h1
  · have hlt : g < w.heap.size := (Array.getElem?_eq_some_iff.1 e3).1
    exact .inr ⟨g, cap, cur, e1, e2, by rw [hf.heap hlt (hq g (by rw [e1]; rfl))]; exact e3, e4⟩
theorem own_mono {w : World} {B B' e size n : Nat} {v : Value} {xs : List Value} (h : w.ownsRow B e size v n xs) (hB : B' ≤ B) : w.ownsRow B' e size v n xs := by
  refine ⟨h.1, ?_⟩
  rcases h.2 with h1 | ⟨g, cap, cur, e1, e2, e3⟩
  · exact .inl h1
  · exact .inr ⟨g, cap, cur, e1, by omega, e3⟩
/-- Two rows of different kinds lie apart. -/
theorem own_kinds {w : World} {b1 b2 s1 s2 n1 n2 e1 e2 : Nat} {v1 v2 : Value} {x1 x2 : List Value} (h1 : w.ownsRow b1 e1 s1 v1 n1 x1) (h2 : w.ownsRow b2 e2 s2 v2 n2 x2) (hne : e1 ≠ e2) : ∀ k, v1.ownBlock = some k → v2.ownBlock ≠ some k := fun k hk hk2 => by
  rcases h1.2 with ⟨rfl, -⟩ | ⟨g, cap, cur, rfl, -, hg, -⟩
  · simp [Value.ownBlock] at hk
  · rcases h2.2 with ⟨rfl, -⟩ | ⟨g2, cap2, cur2, rfl, -, hg2, -⟩
    · simp [Value.ownBlock] at hk2
    · simp only [Value.ownBlock, Option.some.injEq] at hk hk2
      subst hk
      subst hk2
      rw [hg] at hg2
      simp only [Option.some.injEq, Obj.cells.injEq] at hg2
      exact hne hg2.2.1
theorem cell_new_at (W : World) (cs : Array Value) (t : TypeId) (j : Nat) (v : Value) (h : cs[j]? = some v) : (W.alloc (.cells cs t)).cell? ⟨W.heap.size, j, none⟩ = some v := by
  have h1 := heap_alloc_new W (.cells cs t)
  simp only [World.cell?, h1]; exact h
section
variable {α : Type} {n : Nat} {cs : α → List Value} (hn : ∀ x, (cs x).length = n)
include hn
/-- One new struct, laid in a block of its own. -/
theorem src_new {P : Program} (h1 : ∀ x, ∀ u ∈ cs x, u.oneCell' = true) (hpos : 0 < n) {tx e' : TypeId} (hk : P.underlying tx = some (.slice e')) (w : World) (x : α) (t : TypeId) :
    Src P n tx (.slice (some ⟨w.heap.size, 0, none⟩) 1 1) 1 (Fl cs [x]) (w.alloc (.cells (cs x).toArray t)) := by
  have hr : RowS n cs (w.alloc (.cells (cs x).toArray t)) (some ⟨w.heap.size, 0, none⟩) [x] := by
    intro _
    refine ⟨w.heap.size, 0, rfl, fun i y hy j v hv => ?_⟩
    have hi := lt_of hy
    simp at hi
    subst hi
    simp at hy
    subst hy
    simp only [Nat.zero_mul, Nat.zero_add]
    exact cell_new_at w _ t j v (by simpa using hv)
  exact hr.src hn h1 hpos hk 1
/-- New structs, laid in a block of their own. -/
theorem RowS.new (W : World) (ds : Array Value) (t : TypeId) (l : List α) (h : ds = (Fl cs l).toArray) : RowS n cs (W.alloc (.cells ds t)) (some ⟨W.heap.size, 0, none⟩) l := by
  intro _
  refine ⟨W.heap.size, 0, rfl, fun i x hx j v hv => ?_⟩
  have hj : j < n := by have := lt_of hv; rwa [hn] at this
  rw [Nat.zero_add]
  refine cell_new_at W ds t _ v ?_
  rw [h, List.getElem?_toArray, Fl_at hn l i x hx j hj, hv]
end


def kC (m : K) : List Value := [.int .i64 m.seq, .int .i64 m.sent, .int .i64 m.cnt, .int .i64 m.till, .int .i64 m.frm, .string m.body]
theorem kC_len (m : K) : (kC m).length = 6 := rfl
theorem kC_one (m : K) : ∀ u ∈ kC m, u.oneCell' = true := by intro u hu; simp [kC] at hu; rcases hu with rfl | rfl | rfl | rfl | rfl | rfl <;> rfl
def mC (m : M) : List Value := [.string m.tok, .int .i64 m.seq, .int .i64 m.ti]
theorem mC_len (m : M) : (mC m).length = 3 := rfl
theorem mC_one (m : M) : ∀ u ∈ mC m, u.oneCell' = true := by intro u hu; simp [mC] at hu; rcases hu with rfl | rfl | rfl <;> rfl
abbrev RowK := RowS 6 kC
abbrev RowM := RowS 3 mC
abbrev Fk (l : List K) : List Value := Fl kC l
abbrev Fm (l : List M) : List Value := Fl mC l
theorem infoK : (Tryz.prog.info? 195).map (fun i => (i.zero, i.size, i.bytes)) = some (some (.agg #[.int .i64 0, .int .i64 0, .int .i64 0, .int .i64 0, .int .i64 0, .string ByteArray.empty]), 6, 56) := by kernel_rfl
theorem infoM : (Tryz.prog.info? 198).map (fun i => (i.zero, i.size, i.bytes)) = some (some (.agg #[.string ByteArray.empty, .int .i64 0, .int .i64 0]), 3, 32) := by kernel_rfl
theorem srcK {w : World} {ao : Option Addr} {l : List K} (h : RowK w ao l) (c : Nat) : Src Tryz.prog 6 123 (.slice ao l.length c) l.length (Fk l) w := RowS.src kC_len kC_one (by decide) Tryz.underlying123 h c
theorem srcM {w : World} {ao : Option Addr} {l : List M} (h : RowM w ao l) (c : Nat) : Src Tryz.prog 3 124 (.slice ao l.length c) l.length (Fm l) w := RowS.src mC_len mC_one (by decide) Tryz.underlying124 h c
theorem newK (w : World) (x : K) (t : TypeId) : Src Tryz.prog 6 123 (.slice (some ⟨w.heap.size, 0, none⟩) 1 1) 1 (Fk [x]) (w.alloc (.cells (kC x).toArray t)) := src_new kC_len kC_one (by decide) Tryz.underlying123 w x t
theorem newM (w : World) (x : M) (t : TypeId) : Src Tryz.prog 3 124 (.slice (some ⟨w.heap.size, 0, none⟩) 1 1) 1 (Fm [x]) (w.alloc (.cells (mC x).toArray t)) := src_new mC_len mC_one (by decide) Tryz.underlying124 w x t
/-- A message at a place. -/
theorem atK {w : World} {ao : Option Addr} {l : List K} (h : RowK w ao l) {i : Nat} {x : K} (hx : l[i]? = some x) : ∃ b off, ao = some ⟨b, off, none⟩ ∧
    w.cell? ⟨b, off + i * 6, none⟩ = some (.int .i64 x.seq) ∧ w.cell? ⟨b, off + i * 6 + 1, none⟩ = some (.int .i64 x.sent) ∧ w.cell? ⟨b, off + i * 6 + 2, none⟩ = some (.int .i64 x.cnt) ∧
    w.cell? ⟨b, off + i * 6 + 3, none⟩ = some (.int .i64 x.till) ∧ w.cell? ⟨b, off + i * 6 + 4, none⟩ = some (.int .i64 x.frm) ∧ w.cell? ⟨b, off + i * 6 + 5, none⟩ = some (.string x.body) := by
  have hi := lt_of hx
  obtain ⟨b, off, e, hc⟩ := h (by omega)
  exact ⟨b, off, e, hc i _ hx 0 _ rfl, hc i _ hx 1 _ rfl, hc i _ hx 2 _ rfl, hc i _ hx 3 _ rfl, hc i _ hx 4 _ rfl, hc i _ hx 5 _ rfl⟩
theorem atM {w : World} {ao : Option Addr} {l : List M} (h : RowM w ao l) {i : Nat} {x : M} (hx : l[i]? = some x) : ∃ b off, ao = some ⟨b, off, none⟩ ∧
    w.cell? ⟨b, off + i * 3, none⟩ = some (.string x.tok) ∧ w.cell? ⟨b, off + i * 3 + 1, none⟩ = some (.int .i64 x.seq) ∧ w.cell? ⟨b, off + i * 3 + 2, none⟩ = some (.int .i64 x.ti) := by
  have hi := lt_of hx
  obtain ⟨b, off, e, hc⟩ := h (by omega)
  exact ⟨b, off, e, hc i _ hx 0 _ rfl, hc i _ hx 1 _ rfl, hc i _ hx 2 _ rfl⟩

/-- A group's cells, and the group as a value. -/
def gC (g : G) (ka : Option Addr) (kc : Nat) (ma : Option Addr) (mc : Nat) : Array Value := #[.int .i64 g.next, .slice ka g.kept.length kc, .slice ma g.marks.length mc, .string g.att]
/-- Where a group's lists lie: as they are read. -/
structure Gl (w : World) (g : G) (ka : Option Addr) (kc : Nat) (ma : Option Addr) (mc : Nat) : Prop where
  k : RowK w ka g.kept
  m : RowM w ma g.marks
  kl : g.kept.length ≤ kc
  ml : g.marks.length ≤ mc
  kb : kc ≤ 9223372036854775807
  mb : mc ≤ 9223372036854775807
theorem Gl.below {w w' : World} {g : G} {ka ma : Option Addr} {kc mc : Nat} (h : Gl w g ka kc ma mc) (hb : Below w.heap.size w w') : Gl w' g ka kc ma mc := ⟨h.k.below hb, h.m.below hb, h.kl, h.ml, h.kb, h.mb⟩
/-- .. as the call owns them. -/
structure Go' (B : Nat) (w : World) (g : G) (ka : Option Addr) (kc : Nat) (ma : Option Addr) (mc : Nat) : Prop where
  k : w.ownsRow B 195 6 (.slice ka g.kept.length kc) g.kept.length (Fk g.kept)
  m : w.ownsRow B 198 3 (.slice ma g.marks.length mc) g.marks.length (Fm g.marks)
theorem own_le {w : World} {base e size n cap : Nat} {ao : Option Addr} {xs : List Value} (h : w.ownsRow base e size (.slice ao n cap) n xs) : n ≤ cap := by
  rcases h.2 with ⟨e1, e2⟩ | ⟨g, c, cur, e1, _, _, e2, _⟩
  · simp only [Value.slice.injEq] at e1; omega
  · simp only [Value.slice.injEq] at e1; omega
theorem Go'.gl {B : Nat} {w : World} {g : G} {ka ma : Option Addr} {kc mc : Nat} (h : Go' B w g ka kc ma mc) : Gl w g ka kc ma mc :=
  ⟨RowS.own kC_len h.k, RowS.own mC_len h.m, own_le h.k, own_le h.m, own_cap h.k, own_cap h.m⟩
theorem Go'.below {B : Nat} {w w' : World} {g : G} {ka ma : Option Addr} {kc mc : Nat} (h : Go' B w g ka kc ma mc) (hb : Below w.heap.size w w') : Go' B w' g ka kc ma mc := ⟨own_below h.k hb, own_below h.m hb⟩
theorem Go'.mono {B B' : Nat} {w : World} {g : G} {ka ma : Option Addr} {kc mc : Nat} (h : Go' B w g ka kc ma mc) (hB : B' ≤ B) : Go' B' w g ka kc ma mc := ⟨own_mono h.k hB, own_mono h.m hB⟩

theorem eql_nil {P : Program} (w : World) (t e : TypeId) (a : Option Addr) (l c : Nat) (h : P.underlying t = some (.slice e)) : (binOp .eql t (.slice a l c) (.slice none 0 0)).run P w = .ok (.bool a.isNone) w := by
  have h1 : ∀ d, (Op.equalIn (d + 1) t (.slice a l c) (.slice none 0 0)).run P w = .ok a.isNone w := fun d => by cases a <;> simp [Op.equalIn, run_underlying h]
  have h2 : (Op.equal t (.slice a l c) (.slice none 0 0)).run P w = .ok a.isNone w := h1 9999
  simp only [binOp]
  simp [h2]


set_option maxHeartbeats 400000 in
theorem cloneK_any (w : World) (ao : Option Addr) (cap : Nat) (l : List K) (hr : RowK w ao l) (hl : l.length ≤ 1000000000) :
    Calls Tryz.prog 112 #[.slice ao l.length cap] w fun e w' => ∃ a' c', e = .returned (.slice a' l.length c') ∧ w'.ownsRow w.heap.size 195 6 (.slice a' l.length c') l.length (Fk l) ∧ Below w.heap.size w w' := by
  cases ao with
  | none =>
    have h0 : l = [] := by
      rcases Nat.eq_zero_or_pos l.length with h | h
      · exact List.eq_nil_of_length_eq_zero h
      · obtain ⟨b, off, e, _⟩ := hr h; cases e
    subst h0
    have hq := eql_nil (P := Tryz.prog) w 123 195 none 0 cap Tryz.underlying123
    simp only [Option.isNone] at hq
    go_enter Tryz.func112, Tryz.ntmps112
    go_wp2
    go_ret
    exact ⟨none, 0, rfl, by simpa [Fl] using World.ownsRow_nil w _ _ _, Below.refl _ _⟩
  | some a =>
    have hq := eql_nil (P := Tryz.prog) w 123 195 (some a) l.length cap Tryz.underlying123
    simp only [Option.isNone] at hq
    have hbz : l.length * 56 ≤ 140737488355328 := by omega
    have HS := mkH (srcK (hr.below ((Below.refl w.heap.size w).alloc (Nat.le_refl _) (.cells #[] 195))) cap)
    clear hr
    go_enter Tryz.func112, Tryz.ntmps112
    go_wp2_with (at_builtin; refine (wpList_append_own_src _ rfl (.tmp 5) (.tmp 6) 123 123 rfl w.heap.size 195 _ 6 56 Tryz.underlying123 infoK rfl (by decide) _ 0 [] rfl (World.ownsRow_made w #[] 0 (Nat.le_refl _) (Nat.zero_le _) rfl) _ l.length (Fk l) rfl HS.out ?h632 ?hby2 ?hbs2 ?_))
    case h632 => unfold maxLen; omega
    case hby2 => omega
    case hbs2 => simp
    intro v2 w2 hown2 hgrow2
    have hbel := below_own (World.ownsRow_made (e := 195) (size := 6) w #[] 0 (Nat.le_refl _) (Nat.zero_le _) rfl) hgrow2 ((Below.refl w.heap.size w).alloc (Nat.le_refl _) (.cells #[] 195)) (by simp)
    have hown3 : w2.ownsRow w.heap.size 195 6 v2 l.length (Fk l) := by simpa using hown2
    clear hown2 hgrow2 HS
    obtain ⟨a', c', rfl⟩ := own_form hown3
    go_wp2
    go_ret
    exact ⟨a', c', rfl, hown3, hbel⟩

set_option maxHeartbeats 400000 in
theorem cloneM_any (w : World) (ao : Option Addr) (cap : Nat) (l : List M) (hr : RowM w ao l) (hl : l.length ≤ 1000000000) :
    Calls Tryz.prog 113 #[.slice ao l.length cap] w fun e w' => ∃ a' c', e = .returned (.slice a' l.length c') ∧ w'.ownsRow w.heap.size 198 3 (.slice a' l.length c') l.length (Fm l) ∧ Below w.heap.size w w' := by
  cases ao with
  | none =>
    have h0 : l = [] := by
      rcases Nat.eq_zero_or_pos l.length with h | h
      · exact List.eq_nil_of_length_eq_zero h
      · obtain ⟨b, off, e, _⟩ := hr h; cases e
    subst h0
    have hq := eql_nil (P := Tryz.prog) w 124 198 none 0 cap Tryz.underlying124
    simp only [Option.isNone] at hq
    go_enter Tryz.func113, Tryz.ntmps113
    go_wp2
    go_ret
    exact ⟨none, 0, rfl, by simpa [Fl] using World.ownsRow_nil w _ _ _, Below.refl _ _⟩
  | some a =>
    have hq := eql_nil (P := Tryz.prog) w 124 198 (some a) l.length cap Tryz.underlying124
    simp only [Option.isNone] at hq
    have hbz : l.length * 32 ≤ 140737488355328 := by omega
    have HS := mkH (srcM (hr.below ((Below.refl w.heap.size w).alloc (Nat.le_refl _) (.cells #[] 198))) cap)
    clear hr
    go_enter Tryz.func113, Tryz.ntmps113
    go_wp2_with (at_builtin; refine (wpList_append_own_src _ rfl (.tmp 5) (.tmp 6) 124 124 rfl w.heap.size 198 _ 3 32 Tryz.underlying124 infoM rfl (by decide) _ 0 [] rfl (World.ownsRow_made w #[] 0 (Nat.le_refl _) (Nat.zero_le _) rfl) _ l.length (Fm l) rfl HS.out ?h632 ?hby2 ?hbs2 ?_))
    case h632 => unfold maxLen; omega
    case hby2 => omega
    case hbs2 => simp
    intro v2 w2 hown2 hgrow2
    have hbel := below_own (World.ownsRow_made (e := 198) (size := 3) w #[] 0 (Nat.le_refl _) (Nat.zero_le _) rfl) hgrow2 ((Below.refl w.heap.size w).alloc (Nat.le_refl _) (.cells #[] 198)) (by simp)
    have hown3 : w2.ownsRow w.heap.size 198 3 v2 l.length (Fm l) := by simpa using hown2
    clear hown2 hgrow2 HS
    obtain ⟨a', c', rfl⟩ := own_form hown3
    go_wp2
    go_ret
    exact ⟨a', c', rfl, hown3, hbel⟩
end Go.Proofs.YtgbbajeeelgbhaaGreatDoor.Gr

namespace Go.Proofs.YtgbbajeeelgbhaaGreatDoor.Gk
open Go.RowKit Kt Gf
set_option linter.unusedVariables false
set_option linter.unusedSimpArgs false
set_option maxRecDepth 20000

def Bx (w : World) (b : Nat) (cs : Array Value) (t : TypeId) : Prop := w.heap[b]? = some (.cells cs t (0, 0))
theorem Bx.new (w : World) (cs : Array Value) (t : TypeId) : Bx (w.alloc (.cells cs t)) w.heap.size cs t := heap_alloc_new _ _
theorem Bx.alloc {w : World} {b : Nat} {cs : Array Value} {t : TypeId} (h : Bx w b cs t) (o : Obj) : Bx (w.alloc o) b cs t := by
  unfold Bx at *; rw [Below.heap_alloc _ _ _ (block_lt h)]; exact h
theorem Bx.new1 (w : World) (o : Obj) (cs : Array Value) (t : TypeId) : Bx ((w.alloc o).alloc (.cells cs t)) (w.heap.size + 1) cs t := by
  have h := Bx.new (w.alloc o) cs t
  rwa [show (w.alloc o).heap.size = w.heap.size + 1 by simp] at h
theorem Bx.new2 (w : World) (o o' : Obj) (cs : Array Value) (t : TypeId) : Bx (((w.alloc o).alloc o').alloc (.cells cs t)) (w.heap.size + 1 + 1) cs t := by
  have h := Bx.new ((w.alloc o).alloc o') cs t
  rwa [show ((w.alloc o).alloc o').heap.size = w.heap.size + 1 + 1 by simp] at h
theorem Bx.new3 (w : World) (o o' o'' : Obj) (cs : Array Value) (t : TypeId) : Bx ((((w.alloc o).alloc o').alloc o'').alloc (.cells cs t)) (w.heap.size + 1 + 1 + 1) cs t := by
  have h := Bx.new (((w.alloc o).alloc o').alloc o'') cs t
  rwa [show (((w.alloc o).alloc o').alloc o'').heap.size = w.heap.size + 1 + 1 + 1 by simp] at h
theorem Bx.lt {w : World} {b : Nat} {cs : Array Value} {t : TypeId} (h : Bx w b cs t) : b < w.heap.size := block_lt h
theorem Bx.below {w w' : World} {b B : Nat} {cs : Array Value} {t : TypeId} (h : Bx w b cs t) (hg : Below B w w') (hb : b < B) : Bx w' b cs t := by
  unfold Bx; rw [hg.block b hb]; exact h
theorem Bx.bel {w w' : World} {b : Nat} {cs : Array Value} {t : TypeId} (h : Bx w b cs t) (hg : Below w.heap.size w w') : Bx w' b cs t := h.below hg h.lt
theorem Bx.fr {w w' : World} {Q : Nat → Prop} {b : Nat} {cs : Array Value} {t : TypeId} (h : Bx w b cs t) (hg : Fr Q w w') (hb : ¬ Q b) : Bx w' b cs t := by
  unfold Bx; rw [hg.heap h.lt hb]; exact h
theorem Bx.cell {w : World} {b : Nat} {cs : Array Value} {t : TypeId} (h : Bx w b cs t) (k : Nat) (v : Value) (hv : cs[k]? = some v) : w.cell? ⟨b, k, none⟩ = some v := by
  rw [cell_of_row _ _ _ _ _ _ h]; exact hv
theorem Bx.frozen {w : World} {b : Nat} {cs : Array Value} {t : TypeId} (h : Bx w b cs t) (k : Nat) : w.frozen? ⟨b, k, none⟩ = false := frozen_of_row w b k cs t h
theorem Bx.set {w : World} {b : Nat} {cs : Array Value} {t : TypeId} (h : Bx w b cs t) (k : Nat) (v : Value) : Bx (w.setCell ⟨b, k, none⟩ v) b (cs.setIfInBounds k v) t := heap_setCell_same w b k cs t v h
theorem Bx.s0 {w : World} {b : Nat} {a0 a1 a2 a3 : Value} {t : TypeId} (h : Bx w b #[a0, a1, a2, a3] t) (v : Value) : Bx (w.setCell ⟨b, 0, none⟩ v) b #[v, a1, a2, a3] t := h.set 0 v
theorem Bx.s1 {w : World} {b : Nat} {a0 a1 a2 a3 : Value} {t : TypeId} (h : Bx w b #[a0, a1, a2, a3] t) (v : Value) : Bx (w.setCell ⟨b, 1, none⟩ v) b #[a0, v, a2, a3] t := h.set 1 v
theorem Bx.s2 {w : World} {b : Nat} {a0 a1 a2 a3 : Value} {t : TypeId} (h : Bx w b #[a0, a1, a2, a3] t) (v : Value) : Bx (w.setCell ⟨b, 2, none⟩ v) b #[a0, a1, v, a3] t := h.set 2 v
theorem Bx.s3 {w : World} {b : Nat} {a0 a1 a2 a3 : Value} {t : TypeId} (h : Bx w b #[a0, a1, a2, a3] t) (v : Value) : Bx (w.setCell ⟨b, 3, none⟩ v) b #[a0, a1, a2, v] t := h.set 3 v
/-- The four cells of a block, and that none is frozen. -/
theorem Bx.four {w : World} {b : Nat} {a0 a1 a2 a3 : Value} {t : TypeId} (h : Bx w b #[a0, a1, a2, a3] t) : w.cell? ⟨b, 0, none⟩ = some a0 ∧ w.cell? ⟨b, 1, none⟩ = some a1 ∧ w.cell? ⟨b, 2, none⟩ = some a2 ∧ w.cell? ⟨b, 3, none⟩ = some a3 ∧ w.frozen? ⟨b, 0, none⟩ = false ∧ w.frozen? ⟨b, 1, none⟩ = false ∧ w.frozen? ⟨b, 2, none⟩ = false ∧ w.frozen? ⟨b, 3, none⟩ = false :=
  ⟨h.cell 0 _ rfl, h.cell 1 _ rfl, h.cell 2 _ rfl, h.cell 3 _ rfl, h.frozen 0, h.frozen 1, h.frozen 2, h.frozen 3⟩
theorem Bx.other {w : World} {b : Nat} {cs : Array Value} {t : TypeId} (h : Bx w b cs t) {p : Addr} (hp : p.block ≠ b) (v : Value) : Bx (w.setCell p v) b cs t := (heap_setCell_other w p b v (fun e => hp e.symm)).trans h
theorem Bx.row {w : World} {b : Nat} {cs old : Array Value} {t : TypeId} (h : Bx w b old t) : Bx (w.setRow b cs) b cs t := setRow_heap w b old cs t (0, 0) h
theorem Bx.rowOther {w : World} {b g : Nat} {cs : Array Value} {t : TypeId} (h : Bx w b cs t) (hg : g ≠ b) (ds : Array Value) : Bx (w.setRow g ds) b cs t := (setRow_other w g b ds (fun e => hg e.symm)).trans h
theorem Bx.frset {w : World} {b : Nat} {cs : Array Value} {t : TypeId} (h : Bx w b cs t) (k : Nat) (v : Value) : Fr (fun x => x = b) w (w.setCell ⟨b, k, none⟩ v) := by
  rw [setCell_eq_setRow w b k _ _ (0, 0) _ h]
  exact (Fr.refl (fun x => x = b) w).setRow (b := b) (.inl rfl) _
theorem Bx.frrow {w : World} {b : Nat} (cs : Array Value) : Fr (fun x => x = b) w (w.setRow b cs) := (Fr.refl (fun x => x = b) w).setRow (b := b) (.inl rfl) _
theorem below_setRow {B g : Nat} {a w : World} (h : Below B a w) (hg : B ≤ g) (cs : Array Value) : Below B a (w.setRow g cs) :=
  ⟨h.os, h.tape, h.output, by rw [setRow_size]; exact h.size, fun k hk => (setRow_other w g k cs (by omega)).trans (h.block k hk)⟩
theorem below_fr {B : Nat} {Q : Nat → Prop} {a w w' : World} (h : Below B a w) (hf : Fr Q w w') (hq : ∀ k, Q k → B ≤ k) (hB : B ≤ a.heap.size) : Below B a w' :=
  h.trans (hf.below hq (Nat.le_trans hB h.size))

/-- A row and a block of another kind lie apart. -/
theorem own_ne {w : World} {base e size n t O k : Nat} {v : Value} {xs : List Value} {cs : Array Value} (h : w.ownsRow base e size v n xs) (hB : Bx w O cs t) (hk : v.ownBlock = some k) (hne : e ≠ t) : k ≠ O := by
  rintro rfl
  rcases h.2 with ⟨rfl, -⟩ | ⟨g, cap, cur, rfl, -, hg, -⟩
  · simp [Value.ownBlock] at hk
  · simp only [Value.ownBlock, Option.some.injEq] at hk
    subst hk
    unfold Bx at hB
    rw [hg] at hB
    simp only [Option.some.injEq, Obj.cells.injEq] at hB
    exact hne hB.2.1

section
variable {P : Program} {w : World} {ops : Array Oper} {rest : List Oper} {o : Oper} {a : Act} {Q : Exit → Act → World → Prop}
theorem run_st {ty : TypeId} {x y : Operand} {b : Nat} {cs old : Array Value} {t : TypeId} (ho : o.op = .store ty x y) (hx : a.eval x = .pointer (some ⟨b, 0, none⟩)) (hy : a.eval y = .agg cs) (hg : Bx w b old t) (hi : (P.info? ty).map (·.size) = some cs.size) (hold : old.size = cs.size) (h1 : cs.all (fun x => x.oneCell') = true) :
    (execOp a.eval o).run P w = .ok .skip (w.setRow b cs) ∨ (execOp a.eval o).run P w = .ok (.value undef) (w.setRow b cs) := by
  have hr := run_storeVar_row (P := P) w b t ty old cs hg hi hold h1
  unfold execOp
  simp only [ho, Instr.storeAt, Instr.sureAddr, hx, hy, Sem.run_bind, Sem.run_pure, Result.andThen_ok, hr]
  simp
theorem wpList_st (hgd : o.guard = none) {ty : TypeId} {x y : Operand} {b : Nat} {cs old : Array Value} {t : TypeId} (ho : o.op = .store ty x y) (hx : a.eval x = .pointer (some ⟨b, 0, none⟩)) (hy : a.eval y = .agg cs) (hg : Bx w b old t) (hi : (P.info? ty).map (·.size) = some cs.size) (hold : old.size = cs.size) (h1 : cs.all (fun x => x.oneCell') = true)
    (h : wpList P ops Q rest (a.put o.dst undef) (w.setRow b cs)) : wpList P ops Q (o :: rest) a w := by
  refine wpList_plain hgd fun _ hK => ?_
  unfold Oper.wp
  rcases run_st (P := P) ho hx hy hg hi hold h1 with e | e <;> rw [e] <;> exact hK _ _ h
theorem atSt {K : Act → World → Prop} {E : Prop} (ty : TypeId) (x y : Operand) (hop : o.op = Op.store ty x y) (h : if Region.wanted o (yielded ops a.tmps) = true then Oper.wp P o a w K Q else E) : if Region.wanted o (yielded ops a.tmps) = true then Oper.wp P o a w K Q else E := h
/-- A struct stored whole, as one step of a region that draws its order. -/
theorem step_st {K : Act → World → Prop} {E : Prop} (hg : o.guard = none) (ty : TypeId) (x y : Operand) (ho : o.op = .store ty x y) (b : Nat) (cs old : Array Value) (t : TypeId) (hx : a.eval x = .pointer (some ⟨b, 0, none⟩)) (hy : a.eval y = .agg cs) (hB : Bx w b old t) (hi : (P.info? ty).map (·.size) = some cs.size) (hold : old.size = cs.size) (h1 : cs.all (fun x => x.oneCell') = true)
    (hK : K (a.put o.dst undef) (w.setRow b cs)) : if Region.wanted o (yielded ops a.tmps) = true then Oper.wp P o a w K Q else E := by
  have hw : Region.wanted o (yielded ops a.tmps) = true := by simp [Region.wanted, hg]
  rw [if_pos hw]
  unfold Oper.wp
  rcases run_st (P := P) ho hx hy hB hi hold h1 with e | e <;> rw [e] <;> exact hK
theorem run_ld {ty : TypeId} {x : Operand} {p : Addr} {v : Value} (ho : o.op = .load ty x) (hx : a.eval x = .pointer (some p)) (h : (loadVar ty p).run P w = .ok v w) : (execOp a.eval o).run P w = .ok (.value v) w := by
  unfold execOp
  simp only [ho, Instr.loadAt, Instr.sureAddr, hx, Sem.run_bind, Sem.run_pure, Result.andThen_ok, h]
theorem wpList_ld {ty : TypeId} {x : Operand} {p : Addr} {v : Value} (hgd : o.guard = none) (ho : o.op = .load ty x) (hx : a.eval x = .pointer (some p)) (h : (loadVar ty p).run P w = .ok v w)
    (hk : wpList P ops Q rest (a.put o.dst v) w) : wpList P ops Q (o :: rest) a w := by
  refine wpList_plain hgd fun _ hK => ?_
  unfold Oper.wp
  rw [run_ld ho hx h]
  exact hK _ _ hk
theorem res_c {fn : Func} {p : Tmp} {t : TypeId} (h : fn.results = #[.cell p t]) (tmps : Array Value) (P : Program) (w : World) {b : Addr} {x : Value}
    (hp : tmps.getD p undef = .pointer (some b)) (hx : (loadVar t b).run P w = .ok x w) : (results fn tmps).run P w = .ok x w := by
  have hp' : tmps[p]?.getD undef = .pointer (some b) := by simpa using hp
  simp only [results, h]
  simp [Sem.run_bind, Result.andThen, hp', asAddr, hx]
theorem res_ct {fn : Func} {p q : Tmp} {t : TypeId} (h : fn.results = #[.cell p t, .tmp q]) (tmps : Array Value) (P : Program) (w : World) {b : Addr} {x y : Value}
    (hp : tmps.getD p undef = .pointer (some b)) (hq : tmps.getD q undef = y) (hx : (loadVar t b).run P w = .ok x w) :
    (results fn tmps).run P w = .ok (.tuple #[x, y]) w := by
  have hp' : tmps[p]?.getD undef = .pointer (some b) := by simpa using hp
  have hq' : tmps[q]?.getD undef = y := by simpa using hq
  simp only [results, h]
  simp [Sem.run_bind, Result.andThen, hp', hq', asAddr, hx]
theorem res_ctt {fn : Func} {p q r : Tmp} {t : TypeId} (h : fn.results = #[.cell p t, .tmp q, .tmp r]) (tmps : Array Value) (P : Program) (w : World) {b : Addr} {x y z : Value}
    (hp : tmps.getD p undef = .pointer (some b)) (hq : tmps.getD q undef = y) (hr : tmps.getD r undef = z) (hx : (loadVar t b).run P w = .ok x w) :
    (results fn tmps).run P w = .ok (.tuple #[x, y, z]) w := by
  have hp' : tmps[p]?.getD undef = .pointer (some b) := by simpa using hp
  have hq' : tmps[q]?.getD undef = y := by simpa using hq
  have hr' : tmps[r]?.getD undef = z := by simpa using hr
  simp only [results, h]
  simp [Sem.run_bind, Result.andThen, hp', hq', hr', asAddr, hx]
end
/-- A block of four cells into which all four are stored. -/
theorem Bx.sAll {w : World} {b : Nat} {a0 a1 a2 a3 v0 v1 v2 v3 : Value} {t : TypeId} (h : Bx w b #[a0, a1, a2, a3] t) :
    Bx ((((w.setCell ⟨b, 0, none⟩ v0).setCell ⟨b, 1, none⟩ v1).setCell ⟨b, 2, none⟩ v2).setCell ⟨b, 3, none⟩ v3) b #[v0, v1, v2, v3] t ∧
    Fr (fun x => x = b) w ((((w.setCell ⟨b, 0, none⟩ v0).setCell ⟨b, 1, none⟩ v1).setCell ⟨b, 2, none⟩ v2).setCell ⟨b, 3, none⟩ v3) :=
  ⟨(((h.s0 v0).s1 v1).s2 v2).s3 v3, (((h.frset 0 v0).trans ((h.s0 v0).frset 1 v1) (fun i hi => .inl hi)).trans (((h.s0 v0).s1 v1).frset 2 v2) (fun i hi => .inl hi)).trans ((((h.s0 v0).s1 v1).s2 v2).frset 3 v3) (fun i hi => .inl hi)⟩
end Go.Proofs.YtgbbajeeelgbhaaGreatDoor.Gk
