/-
  The small functions of place and of the document's answer: May, In, Split, Meet, each by what it answers.
-/
import Derived.Test.YtabckkepkennhaaRows
import Derived.Test.YtabckkepkennhaaPlP
import Derived.WalkKit
import Derived.Below
import Derived.Laws.StructEq
import Derived.Deep.QuietTactic
import Derived.Sort.Grow
namespace Go.Proofs.Ytabckkepkennhaa.Pw
open Go.RowKit Pl
set_option linter.unusedVariables false

theorem mkH {p : Prop} (h : p) : Hid p := h

/-- A range as a value. -/
def R (r : Rg) : Value := .agg #[.int .i64 r.1, .int .i64 r.2]

theorem may_cases (lo hi : Int) : (¬ 0 ≤ lo ∧ may (lo, hi) = false) ∨ (0 ≤ lo ∧ ¬ lo < hi ∧ may (lo, hi) = false) ∨ (0 ≤ lo ∧ lo < hi ∧ ¬ hi ≤ 65536 ∧ may (lo, hi) = false) ∨ (0 ≤ lo ∧ lo < hi ∧ hi ≤ 65536 ∧ may (lo, hi) = true) := by
  have e : may (lo, hi) = decide (0 ≤ lo ∧ lo < hi ∧ hi ≤ 65536) := rfl
  rw [e]
  by_cases h1 : 0 ≤ lo <;> by_cases h2 : lo < hi <;> by_cases h3 : hi ≤ 65536 <;> simp [h1, h2, h3]

/-- What a call leaves that only lays blocks of its own, and may draw. -/
structure Gr (w w' : World) : Prop where
  below : Below w.heap.size w w'
  drawn : w.drawn ≤ w'.drawn
theorem Gr.refl (w : World) : Gr w w := ⟨Below.refl _ _, Nat.le_refl _⟩
theorem Gr.trans {a b c : World} (h : Gr a b) (k : Gr b c) : Gr a c := ⟨h.below.trans (k.below.mono h.below.size), Nat.le_trans h.drawn k.drawn⟩
theorem Gr.alloc {a w : World} (h : Gr a w) (o : Obj) : Gr a (w.alloc o) := ⟨h.below.alloc h.below.size o, h.drawn⟩
theorem Gr.drew {a w : World} (h : Gr a w) : Gr a w.drew := ⟨h.below.drew, Nat.le_succ_of_le h.drawn⟩
theorem Gr.setCell {a w : World} (h : Gr a w) {p : Addr} (hp : a.heap.size ≤ p.block) (u : Value) : Gr a (w.setCell p u) := ⟨h.below.setCell hp u, h.drawn⟩
theorem Gr.grown {w w' : World} (h : Gr w w') : ∃ q os, w' = Go.Sort.grow (w.drewN q) os := by
  refine ⟨w'.drawn - w.drawn, w'.heap.extract w.heap.size w'.heap.size, ?_⟩
  obtain ⟨hp, tp, dr, os, out⟩ := w'
  have e1 := h.below.os; have e2 := h.below.tape; have e3 := h.below.output; have e4 := h.drawn; have e5 := h.below.size; have e6 := h.below.block
  simp only at e1 e2 e3 e4 e5 e6 ⊢
  subst e1 e2 e3
  simp only [Go.Sort.grow, World.drewN]
  congr 1
  · apply Array.ext'
    rw [Array.toList_append, Array.toList_extract]
    have : w.heap.toList = hp.toList.take w.heap.size := by
      apply List.ext_getElem?
      intro i
      rw [List.getElem?_take, Array.getElem?_toList]
      by_cases hi : i < w.heap.size
      · rw [if_pos hi, Array.getElem?_toList, e6 i hi]
      · rw [if_neg hi, Array.getElem?_eq_none (by omega)]
    rw [this, List.extract_eq_take_drop]
    rw [List.take_of_length_le (l := List.drop _ _) (by simp), List.take_append_drop]
  · omega

def splitOk (r : Rg) (at' : Int) : Bool := may r && decide (r.1 < at' ∧ at' < r.2)
def splitV (r : Rg) (p : Int) : Value :=
  .tuple (if splitOk r p then #[R (r.1, p), R (p, r.2), .int .i64 0] else #[R (0, 0), R (0, 0), .int .i64 2])

theorem may_any (w : World) (lo hi : Int) :
    Calls Try.prog 64 #[.agg #[.int .i64 lo, .int .i64 hi]] w fun e w' => e = .returned (.bool (may (lo, hi))) ∧ w' = w.alloc (.cells #[.int .i64 lo, .int .i64 hi] 29) := by
  rcases may_cases lo hi with ⟨h1, h⟩ | ⟨h1, h2, h⟩ | ⟨h1, h2, h3, h⟩ | ⟨h1, h2, h3, h⟩
  all_goals
    rw [h]
    clear h
    go_enter Try.func64, Try.ntmps64
    go_wp2
    go_ret
    exact ⟨rfl, rfl⟩

theorem in_any (w : World) (lo hi p : Int) :
    Calls Try.prog 67 #[.agg #[.int .i64 lo, .int .i64 hi], .int .i64 p] w fun e w' => e = .returned (.bool (inn (lo, hi) p)) ∧ Gr w w' := by
  have hm := fun W => may_any W lo hi
  have e : inn (lo, hi) p = decide (may (lo, hi) = true ∧ lo ≤ p ∧ p < hi) := rfl
  rw [e]
  clear e
  generalize may (lo, hi) = m at hm ⊢
  cases m
  · go_enter Try.func67, Try.ntmps67
    go_wp2_with (go_at_call 64; refine (hm _).mono ?_; rintro e w' ⟨rfl, rfl⟩)
    go_ret
    exact ⟨by simp, ((Gr.refl w).alloc _).alloc _⟩
  · by_cases h1 : lo ≤ p <;> by_cases h2 : p < hi
    all_goals
      go_enter Try.func67, Try.ntmps67
      go_wp2_with (go_at_call 64; refine (hm _).mono ?_; rintro e w' ⟨rfl, rfl⟩)
      go_ret
      exact ⟨by simp [h1, h2], ((Gr.refl w).alloc _).alloc _⟩
end Go.Proofs.Ytabckkepkennhaa.Pw
