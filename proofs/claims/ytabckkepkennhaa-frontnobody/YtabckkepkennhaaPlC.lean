/-
  Cut, of place and of the document's answer.
-/
import Derived.Test.YtabckkepkennhaaPlA
import Derived.Test.YtabckkepkennhaaPlB
namespace Go.Proofs.Ytabckkepkennhaa.Pc
open Go.RowKit Pl Pw Pr Pf Pa Pb
open Kt hiding mkH
open Kv
set_option linter.unusedVariables false
set_option maxRecDepth 20000

theorem cut1_none (x r : Rg) (h : meet x r = (0, 0)) : cut1 r x = real [x] := by
  by_cases hx : may x = true
  · rw [cut1_free r x hx h]; simp [real, hx]
  · unfold cut1; rw [if_neg hx]; simp [real, hx]
theorem cut1_some (x r g : Rg) (h : meet x r = g) (hg : ¬ (g.1 = 0 ∧ g.2 = 0)) : cut1 r x = real [(x.1, g.1), (g.2, x.2)] := by
  unfold meet at h
  by_cases hc : may x = true ∧ may r = true ∧ x.1 < r.2 ∧ r.1 < x.2
  · rw [if_pos hc] at h
    have hx := (may_iff x).1 hc.1
    have hr := (may_iff r).1 hc.2.1
    have h3 := hc.2.2
    subst h
    unfold cut1
    rw [if_pos hc.1, if_pos ⟨hc.2.1, h3⟩]
    have e1 : may (x.1, max x.1 r.1) = decide (x.1 < r.1) := by
      rw [Bool.eq_iff_iff, may_iff, decide_eq_true_eq]; dsimp only; omega
    have e2 : may (min x.2 r.2, x.2) = decide (r.2 < x.2) := by
      rw [Bool.eq_iff_iff, may_iff, decide_eq_true_eq]; dsimp only; omega
    unfold real
    rw [List.filter_cons, List.filter_cons, List.filter_nil]
    dsimp only
    rw [e1, e2]
    by_cases k1 : x.1 < r.1 <;> by_cases k2 : r.2 < x.2
    · rw [show max x.1 r.1 = r.1 by omega, show min x.2 r.2 = r.2 by omega]; simp [k1, k2]
    · rw [show max x.1 r.1 = r.1 by omega]; simp [k1, k2]
    · rw [show min x.2 r.2 = r.2 by omega]; simp [k1, k2]
    · simp [k1, k2]
  · rw [if_neg hc] at h
    subst h
    exact absurd ⟨rfl, rfl⟩ hg
theorem cut_snoc {l : List Rg} {k : Nat} {x : Rg} (r : Rg) (h : l[k]? = some x) : cut (l.take (k + 1)) r = cut (l.take k) r ++ cut1 r x := by
  unfold cut
  rw [List.take_add_one, h, List.flatMap_append]
  simp
theorem cut1_len (r x : Rg) : (cut1 r x).length ≤ 2 := by
  unfold cut1
  split
  · split
    · rw [List.length_append]; split <;> split <;> simp
    · simp
  · simp
theorem cut_len (l : List Rg) (r : Rg) : (cut l r).length ≤ 2 * l.length := by
  induction l with
  | nil => simp [cut]
  | cons x t ih =>
    have := cut1_len r x
    unfold cut at ih ⊢
    rw [List.flatMap_cons, List.length_append, List.length_cons]
    omega
theorem Ow.mono {w : World} {base base' : Nat} {v : Value} {l : List Rg} (h : Ow w base' v l) (hb : base ≤ base') : Ow w base v l := by
  refine ⟨h.1, ?_⟩
  rcases h.2 with h1 | ⟨g, c, cur, e1, h2, h3⟩
  · exact .inl h1
  · exact .inr ⟨g, c, cur, e1, Nat.le_trans hb h2, h3⟩
theorem meet_form (x r : Rg) : ∃ g1 g2, meet x r = (g1, g2) := ⟨_, _, rfl⟩
end Go.Proofs.Ytabckkepkennhaa.Pc
