/-
  Lists that cover all, in plain words: parted further, less one, with one twice.
-/
import Derived.Test.YtiinhfkpfklgjabPlQ
namespace Go.Proofs.Ytiinhfkpfklgjab.Px
open Go.RowKit Pl Pw Pv Pq
set_option linter.unusedVariables false

theorem cov_start : Cov [(0, 65536)] := by
  refine ⟨by decide, fun p h1 h2 => ?_⟩
  rw [cnt_cons, if_pos]
  · rfl
  · rw [inn_iff]; exact ⟨⟨by decide, by decide, by decide⟩, h1, h2⟩
theorem at_form {l : List Rg} {k : Nat} {r : Rg} (h : l[k]? = some r) : ∃ A B, l = A ++ r :: B ∧ A.length = k := by
  obtain ⟨hk, e⟩ := List.getElem?_eq_some_iff.1 h
  refine ⟨l.take k, l.drop (k + 1), ?_, by rw [List.length_take]; omega⟩
  rw [← e, List.getElem_cons_drop hk, List.take_append_drop]
theorem cnt_mid (A B : List Rg) (r : Rg) (p : Int) : cnt (A ++ r :: B) p = cnt (A ++ B) p + (if inn r p then 1 else 0) := by
  rw [cnt_append, cnt_append, cnt_cons]; omega
theorem all_mid (A B : List Rg) (r : Rg) : (A ++ r :: B).all may = true ↔ (A ++ B).all may = true ∧ may r = true := by
  simp only [List.all_append, List.all_cons, Bool.and_eq_true]
  constructor
  · rintro ⟨h1, h2, h3⟩; exact ⟨⟨h1, h3⟩, h2⟩
  · rintro ⟨⟨h1, h3⟩, h2⟩; exact ⟨h1, h2, h3⟩
theorem fnd_spec (l : List Rg) (p : Int) : ∀ k : Nat, fnd l p k < 0 ∨ ∃ (j : Nat) (r : Rg), fnd l p k = ((k + j : Nat) : Int) ∧ l[j]? = some r ∧ inn r p = true := by
  induction l with
  | nil => intro k; left; show (-1 : Int) < 0; omega
  | cons x t ih =>
    intro k
    unfold fnd
    by_cases hx : inn x p = true
    · rw [if_pos hx]; exact .inr ⟨0, x, by simp, rfl, hx⟩
    · rw [if_neg hx]
      rcases ih (k + 1) with h | ⟨j, r, h1, h2, h3⟩
      · exact .inl h
      · exact .inr ⟨j + 1, r, by rw [h1]; congr 1; omega, by simpa using h2, h3⟩
theorem cov_neg {l : List Rg} (h : Cov l) (p : Int) (hF : fnd l p 0 < 0) : ¬ (0 ≤ p ∧ p < 65536) := by
  rintro ⟨h1, h2⟩
  have h3 := h.2 p h1 h2
  have h4 := (fnd_neg l p 0).1 hF
  have h5 := (cnt_has l p).2 (by omega)
  rw [h4] at h5
  cases h5
theorem cov_split {l : List Rg} {k : Nat} {lo hi p : Int} (h : Cov l) (hk : l[k]? = some (lo, hi)) (hs : splitOk (lo, hi) p = true) : Cov (l.set k (lo, p) ++ [(p, hi)]) := by
  obtain ⟨A, B, rfl, rfl⟩ := at_form hk
  have hs2 : (0 ≤ lo ∧ lo < hi ∧ hi ≤ 65536) ∧ lo < p ∧ p < hi := by
    unfold splitOk at hs
    rw [Bool.and_eq_true, may_iff, decide_eq_true_eq] at hs
    exact hs
  have e : (A ++ (lo, hi) :: B).set A.length (lo, p) = A ++ (lo, p) :: B := by simp
  rw [e]
  have ha := (all_mid A B (lo, hi)).1 h.1
  have m1 : may (lo, p) = true := by rw [may_iff]; dsimp only; omega
  have m2 : may (p, hi) = true := by rw [may_iff]; dsimp only; omega
  refine ⟨?_, fun q h1 h2 => ?_⟩
  · rw [List.all_append, Bool.and_eq_true]
    exact ⟨(all_mid A B (lo, p)).2 ⟨ha.1, m1⟩, by simp [m2]⟩
  · have h3 := h.2 q h1 h2
    rw [cnt_mid] at h3
    rw [cnt_append, cnt_mid, cnt_cons]
    have e0 : cnt [] q = 0 := rfl
    rw [e0]
    have d0 : inn (lo, hi) q = true ↔ lo ≤ q ∧ q < hi := by rw [inn_iff]; dsimp only; omega
    have d1 : inn (lo, p) q = true ↔ lo ≤ q ∧ q < p := by rw [inn_iff]; dsimp only; omega
    have d2 : inn (p, hi) q = true ↔ p ≤ q ∧ q < hi := by rw [inn_iff]; dsimp only; omega
    by_cases c0 : lo ≤ q ∧ q < hi
    · rw [if_pos (d0.2 c0)] at h3
      by_cases c1 : q < p
      · rw [if_pos (d1.2 ⟨c0.1, c1⟩), if_neg (fun h => by have := d2.1 h; omega)]; omega
      · rw [if_neg (fun h => c1 (d1.1 h).2), if_pos (d2.2 ⟨by omega, c0.2⟩)]; omega
    · rw [if_neg (fun h => c0 (d0.1 h))] at h3
      rw [if_neg (fun h => by have := d1.1 h; omega), if_neg (fun h => by have := d2.1 h; omega)]; omega
theorem less_form {l : List Rg} {k : Nat} {r : Rg} (h : l[k]? = some r) : ∃ A B, l = A ++ r :: B ∧ l.take k ++ l.drop (k + 1) = A ++ B := by
  obtain ⟨A, B, rfl, rfl⟩ := at_form h
  refine ⟨A, B, rfl, ?_⟩
  rw [List.take_left' rfl, List.drop_append, List.drop_eq_nil_of_le (by omega), show A.length + 1 - A.length = 1 by omega]
  rfl
theorem cov_at {A B : List Rg} {r : Rg} (h : Cov (A ++ r :: B)) : ∃ q : Int, 0 ≤ q ∧ q < 65536 ∧ inn r q = true := by
  have hm := ((all_mid A B r).1 h.1).2
  have := (may_iff r).1 hm
  exact ⟨r.1, by omega, by omega, by rw [inn_iff]; omega⟩
theorem cov_less {l : List Rg} {k : Nat} {r : Rg} (h : Cov l) (hk : l[k]? = some r) : cov (l.take k ++ l.drop (k + 1)) = false ∧ cov (l.take k ++ l.drop (k + 1) ++ [r, r]) = false ∧ cov (l.take k ++ l.drop (k + 1) ++ [r]) = true := by
  obtain ⟨A, B, rfl, e⟩ := less_form hk
  rw [e]
  obtain ⟨q, h1, h2, h3⟩ := cov_at h
  have h4 := h.2 q h1 h2
  rw [cnt_mid, if_pos h3] at h4
  refine ⟨?_, ?_, ?_⟩
  · rw [← Bool.not_eq_true, cov_iff]; intro hc; have := hc.2 q h1 h2; omega
  · rw [← Bool.not_eq_true, cov_iff]; intro hc; have := hc.2 q h1 h2
    rw [cnt_append, cnt_cons, cnt_cons, if_pos h3] at this; omega
  · rw [cov_iff]
    refine h.perm ?_
    refine (List.perm_middle).trans ?_
    exact (List.perm_append_comm (l₁ := [r]) (l₂ := A ++ B))
end Go.Proofs.Ytiinhfkpfklgjab.Px
