/-
  What the law's 'all' collects: the function that is handed on.
-/
import Derived.Test.YthmedpabgblddabGreatDoorSgI
import Derived.BigQuiet
namespace Go.Proofs.YthmedpabgblddabGreatDoor.Sk
open Go.RowKit Kt Cs Cf Cv Dk Dp Da Db Dc Dd De Sq Sr Sa Sb Sc Se Sf Pl
set_option linter.unusedVariables false
set_option maxRecDepth 20000

theorem row_fr {w w' : World} {Q : Nat → Prop} {ao : Option Addr} {bs : List UInt8} (h : Row w ao bs) (hf : Fr Q w w') (hq : 0 < bs.length → ∀ b off, ao = some ⟨b, off, none⟩ → ¬ Q b) : Row w' ao bs := fun h0 => by
  obtain ⟨b, off, e, hc⟩ := h h0
  refine ⟨b, off, e, fun i hi => ?_⟩
  have hl := World.block_lt_of_cell? w _ (hc i hi)
  rw [← hc i hi]
  exact World.cell?_of_block (w := w) (hf.heap (k := b) hl (hq h0 b off e))
/-- A row of slices of bytes, of the loop's own, from lo on. -/
structure Ol (lo : Nat) (W : World) (v : Value) (l : List Bx) : Prop where
  own : W.ownsRow lo 30 1 v l.length (Bv l)
  ok : ∀ x ∈ l, Row W x.ao x.bs ∧ ∀ b off, x.ao = some ⟨b, off, none⟩ → 0 < x.bs.length → lo ≤ b ∧ v.ownBlock ≠ some b
theorem bok_lt {W : World} {x : Bx} (hx : Row W x.ao x.bs) : ∀ b off, x.ao = some ⟨b, off, none⟩ → 0 < x.bs.length → b < W.heap.size := fun b off e h0 => by
  obtain ⟨b', off', e', hc⟩ := hx h0
  rw [e] at e'
  simp only [Option.some.injEq, Addr.mk.injEq] at e'
  obtain ⟨rfl, rfl, -⟩ := e'
  exact World.block_lt_of_cell? W _ (hc 0 h0)
theorem Ol.fr {lo : Nat} {W W' : World} {v : Value} {l : List Bx} {Q : Nat → Prop} (h : Ol lo W v l) (hf : Fr Q W W') (hq : ∀ k, Q k → k < lo) : Ol lo W' v l :=
  ⟨own_keeps h.own (fun g hg => hf.heap (own_blk h.own hg).1 (fun x => by have := hq g x; have := (own_blk h.own hg).2; omega)),
   fun x hx => ⟨row_fr (h.ok x hx).1 hf (fun h0 b off e y => by have := hq b y; have := ((h.ok x hx).2 b off e h0).1; omega), (h.ok x hx).2⟩⟩
theorem Ol.below {lo : Nat} {W W' : World} {v : Value} {l : List Bx} (h : Ol lo W v l) (hb : Below W.heap.size W W') : Ol lo W' v l := h.fr (Q := fun _ => False) (Fr.ofBelow hb) (fun _ x => x.elim)
theorem Ol.nil (lo : Nat) (W : World) : Ol lo W (.slice none 0 0) [] := ⟨by simpa [Bv] using World.ownsRow_nil W lo 30 1, fun x hx => by simp at hx⟩
/-- One slice more is appended: it was laid since lo, and lies apart from the row. -/
theorem Ol.snoc {lo : Nat} {W W' : World} {a : Option Addr} {k c : Nat} {v' : Value} {l : List Bx} {x : Bx} (h : Ol lo W (.slice a k c) l) (hx : Row W x.ao x.bs) (hlo : ∀ b off, x.ao = some ⟨b, off, none⟩ → 0 < x.bs.length → lo ≤ b ∧ (Value.slice a k c).ownBlock ≠ some b)
    (hown : W'.ownsRow lo 30 1 v' (l.length + 1) (Bv l ++ [.slice x.ao x.bs.length x.cap])) (hf : Fr (fun q => (Value.slice a k c).ownBlock = some q) W W') (hb : v'.ownBlock = (Value.slice a k c).ownBlock ∨ ∃ q, v'.ownBlock = some q ∧ W.heap.size ≤ q) : Ol lo W' v' (l ++ [x]) := by
  have hnew : ∀ y : Bx, Row W y.ao y.bs → (∀ b off, y.ao = some ⟨b, off, none⟩ → 0 < y.bs.length → lo ≤ b ∧ (Value.slice a k c).ownBlock ≠ some b) → Row W' y.ao y.bs ∧ ∀ b off, y.ao = some ⟨b, off, none⟩ → 0 < y.bs.length → lo ≤ b ∧ v'.ownBlock ≠ some b := fun y hy hl =>
    ⟨row_fr hy hf (fun h0 b off e => (hl b off e h0).2), fun b off e h0 => ⟨(hl b off e h0).1, fun hbb => by
      have hlt := bok_lt hy b off e h0
      rcases hb with z | ⟨q, z, hq⟩
      · rw [hbb] at z; exact (hl b off e h0).2 z.symm
      · rw [hbb] at z; cases z; omega⟩⟩
  refine ⟨by rw [Bv_snoc, List.length_append]; exact hown, fun y hy => ?_⟩
  rcases List.mem_append.1 hy with hy | hy
  · exact hnew y (h.ok y hy).1 (h.ok y hy).2
  · simp only [List.mem_singleton] at hy
    subst hy
    exact hnew y hx hlo
end Go.Proofs.YthmedpabgblddabGreatDoor.Sk
