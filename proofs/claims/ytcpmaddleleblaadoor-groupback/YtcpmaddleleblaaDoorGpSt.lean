/-
  Stories: acts that come in, and a group with its time and what it delivered, in one block.
-/
import Derived.Test.YtcpmaddleleblaaDoorGpG
import Derived.Test.YtcpmaddleleblaaDoorGpM
import Derived.Test.YtcpmaddleleblaaDoorGpJ
import Derived.Carry
namespace Go.Proofs.YtcpmaddleleblaaDoor.Gst
open Go.RowKit Kt Gf Gp Gr Gk Ga Gs Gb Gg Gm
set_option linter.unusedVariables false
set_option linter.unusedSimpArgs false
set_option maxRecDepth 20000

/-- What is done. -/
structure A where
  kind : Int
  n : Int
  secs : Int
  wait : Int
  body : ByteArray
  token : ByteArray
def aC (a : A) : List Value := [.int .i64 a.kind, .int .i64 a.n, .int .i64 a.secs, .int .i64 a.wait, .string a.body, .string a.token]
theorem aC_len (a : A) : (aC a).length = 6 := rfl
abbrev RowA := RowS 6 aC
theorem atA {w : World} {ao : Option Addr} {l : List A} (h : RowA w ao l) {i : Nat} {x : A} (hx : l[i]? = some x) : ∃ b off, ao = some ⟨b, off, none⟩ ∧
    w.cell? ⟨b, off + i * 6, none⟩ = some (.int .i64 x.kind) ∧ w.cell? ⟨b, off + i * 6 + 1, none⟩ = some (.int .i64 x.n) ∧ w.cell? ⟨b, off + i * 6 + 2, none⟩ = some (.int .i64 x.secs) ∧
    w.cell? ⟨b, off + i * 6 + 3, none⟩ = some (.int .i64 x.wait) ∧ w.cell? ⟨b, off + i * 6 + 4, none⟩ = some (.string x.body) ∧ w.cell? ⟨b, off + i * 6 + 5, none⟩ = some (.string x.token) := by
  have hi := lt_of hx
  obtain ⟨b, off, e, hc⟩ := h (by omega)
  exact ⟨b, off, e, hc i _ hx 0 _ rfl, hc i _ hx 1 _ rfl, hc i _ hx 2 _ rfl, hc i _ hx 3 _ rfl, hc i _ hx 4 _ rfl, hc i _ hx 5 _ rfl⟩

/-- A story's cells. -/
def sC (g : G) (ka : Option Addr) (kc : Nat) (ma : Option Addr) (mc : Nat) (now : Int) (n : Nat) (ga : Option Addr) (gc : Nat) (b6 b7 : Nat) : Array Value :=
  #[.int .i64 g.next, .slice ka g.kept.length kc, .slice ma g.marks.length mc, .string g.att, .int .i64 now, .slice ga n gc, .map (some b6), .map (some b7)]
/-- No row of messages, and none of tokens, lies in a story's block. -/
theorem rowK_off {W : World} {B : Nat} {x0 x3 x4 : Value} {k1 k2 k5 : Option Addr} {n1 n2 n5 c1 c2 c5 : Nat} {v6 v7 : Value} {t : TypeId} {ao : Option Addr} {l : List K} (h : RowK W ao l) (hl : 0 < l.length)
    (hB : Bx W B #[x0, .slice k1 n1 c1, .slice k2 n2 c2, x3, x4, .slice k5 n5 c5, v6, v7] t) : ∀ a, ao = some a → a.block ≠ B := by
  obtain ⟨b, off, rfl, hc⟩ := h hl
  rintro a ha rfl
  cases ha
  obtain ⟨x, hx⟩ := some_of hl
  have e : ∀ j v, (kC x)[j]? = some v → (#[x0, Value.slice k1 n1 c1, .slice k2 n2 c2, x3, x4, .slice k5 n5 c5, v6, v7] : Array Value)[off + j]? = some v := fun j v hv => by
    have := hc 0 x hx j v hv
    rw [cell_of_row _ _ _ _ _ _ hB] at this
    simpa using this
  have e0 := e 0 _ rfl
  have e1 := e 1 _ rfl
  have e2 := e 2 _ rfl
  match off with
  | 0 => simp at e1
  | 1 => simp at e0
  | 2 => simp at e0
  | 3 => simp at e2
  | 4 => simp at e1
  | 5 => simp at e0
  | 6 => simp at e2
  | 7 => simp at e1
  | n + 8 => simp at e0
theorem rowM_off {W : World} {B : Nat} {x0 x3 x4 : Value} {k1 k2 k5 : Option Addr} {n1 n2 n5 c1 c2 c5 : Nat} {v6 v7 : Value} {t : TypeId} {ao : Option Addr} {l : List M} (h : RowM W ao l) (hl : 0 < l.length)
    (hB : Bx W B #[x0, .slice k1 n1 c1, .slice k2 n2 c2, x3, x4, .slice k5 n5 c5, v6, v7] t) : ∀ a, ao = some a → a.block ≠ B := by
  obtain ⟨b, off, rfl, hc⟩ := h hl
  rintro a ha rfl
  cases ha
  obtain ⟨x, hx⟩ := some_of hl
  have e : ∀ j v, (mC x)[j]? = some v → (#[x0, Value.slice k1 n1 c1, .slice k2 n2 c2, x3, x4, .slice k5 n5 c5, v6, v7] : Array Value)[off + j]? = some v := fun j v hv => by
    have := hc 0 x hx j v hv
    rw [cell_of_row _ _ _ _ _ _ hB] at this
    simpa using this
  have e0 := e 0 _ rfl
  have e1 := e 1 _ rfl
  have e2 := e 2 _ rfl
  match off with
  | 0 => simp at e1
  | 1 => simp at e0
  | 2 => simp at e0
  | 3 => simp at e2
  | 4 => simp at e1
  | 5 => simp at e0
  | 6 => simp at e2
  | 7 => simp at e1
  | n + 8 => simp at e0
theorem Gl.off {W W' : World} {B : Nat} {x0 x3 x4 : Value} {k1 k2 k5 : Option Addr} {n1 n2 n5 c1 c2 c5 : Nat} {v6 v7 : Value} {t : TypeId} {g : G} {ka ma : Option Addr} {kc mc : Nat} (h : Gl W g ka kc ma mc)
    (hB : Bx W B #[x0, .slice k1 n1 c1, .slice k2 n2 c2, x3, x4, .slice k5 n5 c5, v6, v7] t) (hF : Fr (fun x => x = B) W W') : Gl W' g ka kc ma mc := by
  refine ⟨?_, ?_, h.kl, h.ml, h.kb, h.mb⟩
  · intro hl
    exact Gj.RowS.fr h.k hF (fun a ha => rowK_off h.k hl hB a ha) hl
  · intro hl
    exact Gj.RowS.fr h.m hF (fun a ha => rowM_off h.m hl hB a ha) hl

/-- Block B is a story. -/
structure Sy (w0 W : World) (B : Nat) (g : G) (now : Int) (got : List K) (ka : Option Addr) (kc : Nat) (ma : Option Addr) (mc : Nat) (ga : Option Addr) (gc : Nat) (b6 b7 : Nat) : Prop where
  b : Bx W B #[.int .i64 g.next, .slice ka g.kept.length kc, .slice ma g.marks.length mc, .string g.att, .int .i64 now, .slice ga got.length gc, .map (some b6), .map (some b7)] 56
  l : Gl W g ka kc ma mc
  o : W.ownsRow w0.heap.size 61 6 (.slice ga got.length gc) got.length (Fk got)
  bl : Below w0.heap.size w0 W
  bb : w0.heap.size ≤ B
variable {w0 W W' : World} {B : Nat} {g : G} {now : Int} {got : List K} {ka : Option Addr} {kc : Nat} {ma : Option Addr} {mc : Nat} {ga : Option Addr} {gc : Nat} {b6 b7 : Nat}
theorem Sy.below (h : Sy w0 W B g now got ka kc ma mc ga gc b6 b7) (hb : Below W.heap.size W W') : Sy w0 W' B g now got ka kc ma mc ga gc b6 b7 :=
  ⟨h.b.bel hb, h.l.below hb, own_below h.o hb, h.bl.trans (hb.mono h.bl.size), h.bb⟩
theorem Sy.cells (h : Sy w0 W B g now got ka kc ma mc ga gc b6 b7) : W.cell? ⟨B, 0, none⟩ = some (.int .i64 g.next) ∧ W.cell? ⟨B, 1, none⟩ = some (.slice ka g.kept.length kc) ∧ W.cell? ⟨B, 2, none⟩ = some (.slice ma g.marks.length mc) ∧ W.cell? ⟨B, 3, none⟩ = some (.string g.att) ∧ W.cell? ⟨B, 4, none⟩ = some (.int .i64 now) ∧ W.cell? ⟨B, 5, none⟩ = some (.slice ga got.length gc) ∧ W.cell? ⟨B, 6, none⟩ = some (.map (some b6)) ∧ W.cell? ⟨B, 7, none⟩ = some (.map (some b7)) :=
  ⟨h.b.cell 0 _ rfl, h.b.cell 1 _ rfl, h.b.cell 2 _ rfl, h.b.cell 3 _ rfl, h.b.cell 4 _ rfl, h.b.cell 5 _ rfl, h.b.cell 6 _ rfl, h.b.cell 7 _ rfl⟩
theorem Sy.frz (h : Sy w0 W B g now got ka kc ma mc ga gc b6 b7) : W.frozen? ⟨B, 0, none⟩ = false ∧ W.frozen? ⟨B, 1, none⟩ = false ∧ W.frozen? ⟨B, 2, none⟩ = false ∧ W.frozen? ⟨B, 3, none⟩ = false ∧ W.frozen? ⟨B, 4, none⟩ = false ∧ W.frozen? ⟨B, 5, none⟩ = false :=
  ⟨h.b.frozen 0, h.b.frozen 1, h.b.frozen 2, h.b.frozen 3, h.b.frozen 4, h.b.frozen 5⟩
theorem Sy.setNow (h : Sy w0 W B g now got ka kc ma mc ga gc b6 b7) (now2 : Int) : Sy w0 (W.setCell ⟨B, 4, none⟩ (.int .i64 now2)) B g now2 got ka kc ma mc ga gc b6 b7 ∧ Fr (fun x => x = B) W (W.setCell ⟨B, 4, none⟩ (.int .i64 now2)) := by
  have hF := h.b.frset 4 (.int .i64 now2)
  refine ⟨⟨h.b.set 4 (.int .i64 now2), Gl.off h.l h.b hF, own_fr h.o hF (fun k hk e => own_ne h.o h.b hk (by decide) e), below_fr h.bl hF (fun k hk => by have := h.bb; omega) (Nat.le_refl _), h.bb⟩, hF⟩
theorem Sy.setG (h : Sy w0 W B g now got ka kc ma mc ga gc b6 b7) {g2 : G} {ka2 ma2 : Option Addr} {kc2 mc2 : Nat} (hl : Gl W g2 ka2 kc2 ma2 mc2) :
    Sy w0 ((((W.setCell ⟨B, 0, none⟩ (.int .i64 g2.next)).setCell ⟨B, 1, none⟩ (.slice ka2 g2.kept.length kc2)).setCell ⟨B, 2, none⟩ (.slice ma2 g2.marks.length mc2)).setCell ⟨B, 3, none⟩ (.string g2.att)) B g2 now got ka2 kc2 ma2 mc2 ga gc b6 b7 ∧
    Fr (fun x => x = B) W ((((W.setCell ⟨B, 0, none⟩ (.int .i64 g2.next)).setCell ⟨B, 1, none⟩ (.slice ka2 g2.kept.length kc2)).setCell ⟨B, 2, none⟩ (.slice ma2 g2.marks.length mc2)).setCell ⟨B, 3, none⟩ (.string g2.att)) := by
  have b0 : Bx _ B #[.int .i64 g2.next, .slice ka g.kept.length kc, .slice ma g.marks.length mc, .string g.att, .int .i64 now, .slice ga got.length gc, .map (some b6), .map (some b7)] 56 := h.b.set 0 (.int .i64 g2.next)
  have b1 : Bx _ B #[.int .i64 g2.next, .slice ka2 g2.kept.length kc2, .slice ma g.marks.length mc, .string g.att, .int .i64 now, .slice ga got.length gc, .map (some b6), .map (some b7)] 56 := b0.set 1 (.slice ka2 g2.kept.length kc2)
  have b2 : Bx _ B #[.int .i64 g2.next, .slice ka2 g2.kept.length kc2, .slice ma2 g2.marks.length mc2, .string g.att, .int .i64 now, .slice ga got.length gc, .map (some b6), .map (some b7)] 56 := b1.set 2 (.slice ma2 g2.marks.length mc2)
  have hF := (((h.b.frset 0 (.int .i64 g2.next)).trans (b0.frset 1 (.slice ka2 g2.kept.length kc2)) (fun i hi => .inl hi)).trans (b1.frset 2 (.slice ma2 g2.marks.length mc2)) (fun i hi => .inl hi)).trans (b2.frset 3 (.string g2.att)) (fun i hi => .inl hi)
  refine ⟨⟨b2.set 3 (.string g2.att), Gl.off hl h.b hF, own_fr h.o hF (fun k hk e => own_ne h.o h.b hk (by decide) e), below_fr h.bl hF (fun k hk => by have := h.bb; omega) (Nat.le_refl _), h.bb⟩, hF⟩
/-- A block of another kind, and rows, behind such a store. -/
theorem Sy.bx (h : Sy w0 W B g now got ka kc ma mc ga gc b6 b7) (hF : Fr (fun x => x = B) W W') {b : Nat} {cs : Array Value} {t : TypeId} (hb : Bx W b cs t) (hne : b ≠ B) : Bx W' b cs t := hb.fr hF hne

theorem below_drew (W : World) : Below W.heap.size W W.drew := ⟨rfl, rfl, rfl, Nat.le_refl _, fun _ _ => rfl⟩
/-- What was delivered is put behind what was delivered so far, and the group is another one. -/
theorem Sy.take {W2 : World} (h : Sy w0 W B g now got ka kc ma mc ga gc b6 b7) {g2 : G} {ka2 ma2 : Option Addr} {kc2 mc2 Bs : Nat} (hgo : Go' Bs W g2 ka2 kc2 ma2 mc2) (hlt : ∀ k, (Value.slice ga got.length gc).ownBlock = some k → k < Bs)
    (hgr : W.grownBy W2 (Value.slice ga got.length gc).ownBlock) {L : List K} {ga2 : Option Addr} {gc2 : Nat} (ho : W2.ownsRow w0.heap.size 61 6 (.slice ga2 L.length gc2) L.length (Fk L)) :
    Bx W2 B #[.int .i64 g.next, .slice ka g.kept.length kc, .slice ma g.marks.length mc, .string g.att, .int .i64 now, .slice ga got.length gc, .map (some b6), .map (some b7)] 56 ∧
    Sy w0 (((((W2.setCell ⟨B, 0, none⟩ (.int .i64 g2.next)).setCell ⟨B, 1, none⟩ (.slice ka2 g2.kept.length kc2)).setCell ⟨B, 2, none⟩ (.slice ma2 g2.marks.length mc2)).setCell ⟨B, 3, none⟩ (.string g2.att)).setCell ⟨B, 5, none⟩ (.slice ga2 L.length gc2)) B g2 now L ka2 kc2 ma2 mc2 ga2 gc2 b6 b7 := by
  have hf := fr_grown hgr
  have hB : Bx W2 B #[.int .i64 g.next, .slice ka g.kept.length kc, .slice ma g.marks.length mc, .string g.att, .int .i64 now, .slice ga got.length gc, .map (some b6), .map (some b7)] 56 := h.b.fr hf (fun hk => own_ne h.o h.b hk (by decide) rfl)
  have b0 : Bx _ B #[.int .i64 g2.next, .slice ka g.kept.length kc, .slice ma g.marks.length mc, .string g.att, .int .i64 now, .slice ga got.length gc, .map (some b6), .map (some b7)] 56 := hB.set 0 (.int .i64 g2.next)
  have b1 : Bx _ B #[.int .i64 g2.next, .slice ka2 g2.kept.length kc2, .slice ma g.marks.length mc, .string g.att, .int .i64 now, .slice ga got.length gc, .map (some b6), .map (some b7)] 56 := b0.set 1 (.slice ka2 g2.kept.length kc2)
  have b2 : Bx _ B #[.int .i64 g2.next, .slice ka2 g2.kept.length kc2, .slice ma2 g2.marks.length mc2, .string g.att, .int .i64 now, .slice ga got.length gc, .map (some b6), .map (some b7)] 56 := b1.set 2 (.slice ma2 g2.marks.length mc2)
  have b3 : Bx _ B #[.int .i64 g2.next, .slice ka2 g2.kept.length kc2, .slice ma2 g2.marks.length mc2, .string g2.att, .int .i64 now, .slice ga got.length gc, .map (some b6), .map (some b7)] 56 := b2.set 3 (.string g2.att)
  have hF := ((((hB.frset 0 (.int .i64 g2.next)).trans (b0.frset 1 (.slice ka2 g2.kept.length kc2)) (fun i hi => .inl hi)).trans (b1.frset 2 (.slice ma2 g2.marks.length mc2)) (fun i hi => .inl hi)).trans (b2.frset 3 (.string g2.att)) (fun i hi => .inl hi)).trans (b3.frset 5 (.slice ga2 L.length gc2)) (fun i hi => .inl hi)
  have gk := own_fr hgo.k hf (fun k hk hk2 => by have h1 := hlt k hk2; have h2 := (hgo.k.lt k hk).1; omega)
  have gm := own_fr hgo.m hf (fun k hk hk2 => by have h1 := hlt k hk2; have h2 := (hgo.m.lt k hk).1; omega)
  have hl : Gl W2 g2 ka2 kc2 ma2 mc2 := Go'.gl (B := Bs) ⟨gk, gm⟩
  have hbl := below_fr h.bl hf (fun k hk => (h.o.lt k hk).1) (Nat.le_refl _)
  exact ⟨hB, b3.set 5 (.slice ga2 L.length gc2), Gl.off hl hB hF, own_fr ho hF (fun k hk e => own_ne ho hB hk (by decide) e), below_fr hbl hF (fun k hk => by have := h.bb; omega) (Nat.le_refl _), h.bb⟩

/-- Rows of messages and tokens lie in no block that holds a group. -/
theorem rowK_off4 {W : World} {B : Nat} {x0 x3 : Value} {k1 k2 : Option Addr} {n1 n2 c1 c2 : Nat} {t : TypeId} {ao : Option Addr} {l : List K} (h : RowK W ao l) (hl : 0 < l.length)
    (hB : Bx W B #[x0, .slice k1 n1 c1, .slice k2 n2 c2, x3] t) : ∀ a, ao = some a → a.block ≠ B := by
  obtain ⟨b, off, rfl, hc⟩ := h hl
  rintro a ha rfl
  cases ha
  obtain ⟨x, hx⟩ := some_of hl
  have e : ∀ j v, (kC x)[j]? = some v → (#[x0, Value.slice k1 n1 c1, .slice k2 n2 c2, x3] : Array Value)[off + j]? = some v := fun j v hv => by
    have := hc 0 x hx j v hv
    rw [cell_of_row _ _ _ _ _ _ hB] at this
    simpa using this
  have e0 := e 0 _ rfl
  have e1 := e 1 _ rfl
  match off with
  | 0 => simp at e1
  | 1 => simp at e0
  | 2 => simp at e0
  | 3 => simp at e1
  | n + 4 => simp at e0
theorem rowM_off4 {W : World} {B : Nat} {x0 x3 : Value} {k1 k2 : Option Addr} {n1 n2 c1 c2 : Nat} {t : TypeId} {ao : Option Addr} {l : List M} (h : RowM W ao l) (hl : 0 < l.length)
    (hB : Bx W B #[x0, .slice k1 n1 c1, .slice k2 n2 c2, x3] t) : ∀ a, ao = some a → a.block ≠ B := by
  obtain ⟨b, off, rfl, hc⟩ := h hl
  rintro a ha rfl
  cases ha
  obtain ⟨x, hx⟩ := some_of hl
  have e : ∀ j v, (mC x)[j]? = some v → (#[x0, Value.slice k1 n1 c1, .slice k2 n2 c2, x3] : Array Value)[off + j]? = some v := fun j v hv => by
    have := hc 0 x hx j v hv
    rw [cell_of_row _ _ _ _ _ _ hB] at this
    simpa using this
  have e0 := e 0 _ rfl
  have e1 := e 1 _ rfl
  match off with
  | 0 => simp at e1
  | 1 => simp at e0
  | 2 => simp at e0
  | 3 => simp at e1
  | n + 4 => simp at e0
theorem glFr {W W' : World} {B : Nat} {x0 x3 : Value} {k1 k2 : Option Addr} {n1 n2 c1 c2 : Nat} {t : TypeId} {g : G} {ka ma : Option Addr} {kc mc : Nat} (h : Gl W g ka kc ma mc)
    (hB : Bx W B #[x0, .slice k1 n1 c1, .slice k2 n2 c2, x3] t) (hF : Fr (fun x => x = B) W W') : Gl W' g ka kc ma mc := by
  refine ⟨?_, ?_, h.kl, h.ml, h.kb, h.mb⟩
  · intro hl
    exact Gj.RowS.fr h.k hF (fun a ha => rowK_off4 h.k hl hB a ha) hl
  · intro hl
    exact Gj.RowS.fr h.m hF (fun a ha => rowM_off4 h.m hl hB a ha) hl
theorem goFr {W W' : World} {B Bs : Nat} {cs : Array Value} {g : G} {ka ma : Option Addr} {kc mc : Nat} (h : Go' Bs W g ka kc ma mc)
    (hB : Bx W B cs 25) (hF : Fr (fun x => x = B) W W') : Go' Bs W' g ka kc ma mc :=
  ⟨own_fr h.k hF (fun k hk e => own_ne h.k hB hk (by decide) e), own_fr h.m hF (fun k hk e => own_ne h.m hB hk (by decide) e)⟩
theorem lsFr {W W' : World} {B : Nat} {x0 x3 : Value} {k1 k2 : Option Addr} {n1 n2 c1 c2 : Nat} {t : TypeId} {l : List K} {a : Option Addr} {c : Nat} (h : Ls W l a c)
    (hB : Bx W B #[x0, .slice k1 n1 c1, .slice k2 n2 c2, x3] t) (hF : Fr (fun x => x = B) W W') : Ls W' l a c :=
  ⟨fun hl => Gj.RowS.fr h.r hF (fun a ha => rowK_off4 h.r hl hB a ha) hl, h.l, h.b⟩
/-- Rows that were there ahead of a block are not in it. -/
theorem glNew {W0 W W' : World} {g : G} {ka ma : Option Addr} {kc mc : Nat} (h : Gl W g ka kc ma mc) (h0 : Gl W0 g ka kc ma mc) (hF : Fr (fun x => x = W0.heap.size) W W') : Gl W' g ka kc ma mc := by
  refine ⟨?_, ?_, h.kl, h.ml, h.kb, h.mb⟩
  · intro hl
    exact Gj.RowS.fr h.k hF (fun a ha => Nat.ne_of_lt (h0.k.block hl (fun x => by rw [kC_len]; decide) a ha)) hl
  · intro hl
    exact Gj.RowS.fr h.m hF (fun a ha => Nat.ne_of_lt (h0.m.block hl (fun x => by rw [mC_len]; decide) a ha)) hl
/-- A story beside a block that turns. -/
theorem syFr {X : Nat} (h : Sy w0 W B g now got ka kc ma mc ga gc b6 b7) (hF : Fr (fun x => x = X) W W') (hX : X ≠ B) (hO : (Value.slice ga got.length gc).ownBlock ≠ some X) (hl : Gl W' g ka kc ma mc) (hw : w0.heap.size ≤ X) : Sy w0 W' B g now got ka kc ma mc ga gc b6 b7 :=
  ⟨h.b.fr hF (Ne.symm hX), hl, own_fr h.o hF (fun k hk e => hO (by rw [hk, e])), below_fr h.bl hF (fun k hk => by omega) (Nat.le_refl _), h.bb⟩

theorem bx_ne {W : World} {a b : Nat} {cs ds : Array Value} {t u : TypeId} (ha : Bx W a cs t) (hb : Bx W b ds u) (h : t ≠ u) : a ≠ b := by
  rintro rfl
  unfold Bx at ha hb
  rw [ha] at hb
  simp only [Option.some.injEq, Obj.cells.injEq] at hb
  exact h hb.2.1
theorem step_append {P : Program} {ops : Array Oper} {o : Oper} {a : Act} {w : World} {K : Act → World → Prop} {Q : Exit → Act → World → Prop} {E : Prop}
    (hg : o.guard = none) (s x : Operand) (t tx : TypeId) (hop : o.op = Op.call { callee := Callee.builtin Builtin.append, args := #[s, x], argTypes := #[t, tx] })
    (base : Nat) (e : TypeId) (z : Value) (size bytes : Nat) (ht : P.underlying t = some (.slice e)) (hinfo : (P.info? e).map (fun i => (i.zero, i.size, i.bytes)) = some (some z, size, bytes))
    (hzs : z.cells.size = size) (hsz : 0 < size)
    (v : Value) (n : Nat) (xs : List Value) (hs : a.eval s = v) (hown : w.ownsRow base e size v n xs)
    (xv : Value) (m : Nat) (news : List Value) (hx : a.eval x = xv) (hsrc : Src P size tx xv m news w)
    (h63 : n + m ≤ maxLen) (hbytes : (n + m) * bytes ≤ 140737488355328) (hbase : base ≤ w.heap.size)
    (hK : ∀ v' w', w'.ownsRow base e size v' (n + m) (xs ++ news) → w.grownBy w' v.ownBlock → K (a.put o.dst v') w') :
    if Region.wanted o (yielded ops a.tmps) = true then Oper.wp P o a w K Q else E := by
  obtain ⟨i, hi, hz, hsize, hby⟩ := info_parts hinfo
  have hw : Region.wanted o (yielded ops a.tmps) = true := by simp [Region.wanted, hg]
  rw [if_pos hw]
  obtain ⟨v', w', hr, h2, h3⟩ := run_append_own_src (P := P) w base t tx o.type e i z size bytes ht hi hz hsize hby hzs hsz v n xs hown xv m news hsrc h63 hbytes hbase
  unfold Oper.wp
  simp [execOp, hop, resolve, invoke, builtin, hs, hx, hr, Result.andThen]
  exact hK v' w' h2 h3

theorem wrap_in {x y : Int} (e : x = y) (h1 : -9223372036854775808 ≤ y) (h2 : y ≤ 9223372036854775807) : IntKind.i64.wrap x = y := by
  subst e
  rw [IntKind.wrap_i64]
  omega
theorem mk_map (W : World) : (Instr.makeMap 54 none).run Tryd.prog W = .ok (.map (some W.heap.size)) (W.alloc (.map #[] 0)) := run_makeMap ..

set_option maxHeartbeats 1000000 in
theorem begin_any (w : World) : Calls Tryd.prog 22 #[] w fun e w' => ∃ B b6 b7, e = .returned (.pointer (some ⟨B, 0, none⟩)) ∧ Sy w w' B ⟨1, [], [], ⟨#[]⟩⟩ 0 [] none 0 none 0 none 0 b6 b7 ∧ w'.heap[b6]? = some (.map #[] 0) ∧ w'.heap[b7]? = some (.map #[] 0) ∧ b6 ≠ b7 ∧ w.heap.size ≤ b6 ∧ w.heap.size ≤ b7 := by
  have hmk := mk_map
  go_enter Tryd.func22, Tryd.ntmps22
  go_wp2_with fail
  refine (Fresh_any w).mono ?_
  rintro e w1 ⟨rfl, hb1⟩
  simp only [gC, List.length_nil]
  go_wp2
  go_ret
  have hs := hb1.size
  have ha : Below w.heap.size w (((w1.alloc (.map #[] 0)).alloc (.map #[] 0)).alloc (.cells #[Value.int .i64 1, .slice none 0 0, .slice none 0 0, .string ⟨#[]⟩, .int .i64 0, .slice none 0 0, .map (some w1.heap.size), .map (some (w1.heap.size + 1))] 56)) :=
    ((hb1.alloc hs _).alloc (by simp; omega) _).alloc (by simp; omega) _
  refine ⟨w1.heap.size + 1 + 1, w1.heap.size, w1.heap.size + 1, rfl, ⟨Bx.new2 w1 _ _ _ _, ⟨RowS.nil _ _, RowS.nil _ _, Nat.le_refl _, Nat.le_refl _, by omega, by omega⟩, by simpa [Fl] using World.ownsRow_nil _ _ _ _, ha, by omega⟩, ?_, ?_, by omega, hs, by omega⟩
  · exact (Below.heap_alloc _ _ _ (by simp; omega)).trans ((Below.heap_alloc _ _ _ (by simp)).trans (heap_alloc_new w1 _))
  · refine (Below.heap_alloc _ _ _ (by simp)).trans ?_
    have := heap_alloc_new (w1.alloc (.map #[] 0)) (.map #[] 0)
    rwa [show (w1.alloc (.map #[] 0)).heap.size = w1.heap.size + 1 by simp] at this
end Go.Proofs.YtcpmaddleleblaaDoor.Gst
