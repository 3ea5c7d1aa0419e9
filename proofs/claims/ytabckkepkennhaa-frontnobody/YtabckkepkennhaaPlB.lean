/-
  A range that lies in a block of its own.
-/
import Derived.Test.YtabckkepkennhaaPlW
namespace Go.Proofs.Ytabckkepkennhaa.Pb
open Go.RowKit Pl Pw
set_option linter.unusedVariables false

/-- A range that lies in a block of its own. -/
def Bx (w : World) (b : Nat) (lo hi : Int) : Prop := w.heap[b]? = some (.cells #[.int .i64 lo, .int .i64 hi] 29 (0, 0))
theorem Bx.new (w : World) (lo hi : Int) : Bx (w.alloc (.cells #[.int .i64 lo, .int .i64 hi] 29)) w.heap.size lo hi := heap_alloc_new _ _
theorem Bx.new1 (w : World) (o : Obj) (lo hi : Int) : Bx ((w.alloc o).alloc (.cells #[.int .i64 lo, .int .i64 hi] 29)) (w.heap.size + 1) lo hi := by
  have h := Bx.new (w.alloc o) lo hi
  rwa [show (w.alloc o).heap.size = w.heap.size + 1 by simp] at h
theorem Bx.lt {w : World} {b : Nat} {lo hi : Int} (h : Bx w b lo hi) : b < w.heap.size := by
  rcases Nat.lt_or_ge b w.heap.size with h1 | h1
  · exact h1
  · unfold Bx at h; rw [Array.getElem?_eq_none h1] at h; cases h
theorem Bx.below {w w' : World} {b B : Nat} {lo hi : Int} (h : Bx w b lo hi) (hg : Below B w w') (hb : b < B) : Bx w' b lo hi := by
  unfold Bx; rw [hg.block b hb]; exact h
theorem Bx.gr {w w' : World} {b : Nat} {lo hi : Int} (h : Bx w b lo hi) (hg : Gr w w') : Bx w' b lo hi := h.below hg.below h.lt
theorem Bx.alloc {w : World} {b : Nat} {lo hi : Int} (h : Bx w b lo hi) (o : Obj) : Bx (w.alloc o) b lo hi := h.gr ((Gr.refl w).alloc o)
theorem Bx.c0 {w : World} {b : Nat} {lo hi : Int} (h : Bx w b lo hi) : w.cell? ⟨b, 0, none⟩ = some (.int .i64 lo) := by
  simp only [World.cell?]; rw [show w.heap[b]? = _ from h]; rfl
theorem Bx.c1 {w : World} {b : Nat} {lo hi : Int} (h : Bx w b lo hi) : w.cell? ⟨b, 1, none⟩ = some (.int .i64 hi) := by
  simp only [World.cell?]; rw [show w.heap[b]? = _ from h]; rfl
end Go.Proofs.Ytabckkepkennhaa.Pb
