/-
  Counting places: covering all, place by place; the document's bounds, and what it puts together.
-/
import Derived.Test.YtabckkepkennhaaPlV
namespace Go.Proofs.Ytabckkepkennhaa.Pq
open Pl Pv
set_option linter.unusedVariables false

/-- How many have a place. -/
def cnt (l : List Rg) (p : Int) : Nat := l.countP (inn · p)
theorem cnt_cons (r : Rg) (l : List Rg) (p : Int) : cnt (r :: l) p = cnt l p + (if inn r p then 1 else 0) := by
  unfold cnt; rw [List.countP_cons]
theorem cnt_append (a b : List Rg) (p : Int) : cnt (a ++ b) p = cnt a p + cnt b p := by unfold cnt; rw [List.countP_append]
theorem cnt_has (l : List Rg) (p : Int) : has l p = true ↔ 1 ≤ cnt l p := by
  unfold cnt
  rw [has_iff, Nat.succ_le_iff, List.countP_pos_iff]

/-- A sum over the first places. -/
def S (f : Int → Nat) : Nat → Nat
  | 0 => 0
  | n + 1 => S f n + f n
theorem S_add (f g : Int → Nat) (n : Nat) : S (fun p => f p + g p) n = S f n + S g n := by
  induction n with
  | zero => rfl
  | succ n ih => simp only [S, ih]; omega
theorem S_one (r : Rg) (h : may r = true) : ∀ n : Nat, (S (fun p => if inn r p then 1 else 0) n : Int) = max 0 (min (n : Int) r.2 - r.1) := by
  have hr := (may_iff r).1 h
  intro n
  induction n with
  | zero => simp only [S]; omega
  | succ n ih =>
    simp only [S]
    rw [Int.natCast_add, ih]
    by_cases hi : inn r (n : Int) = true
    · rw [if_pos hi]
      have := (inn_iff r n).1 hi
      omega
    · rw [if_neg hi]
      have : ¬ (r.1 ≤ (n : Int) ∧ (n : Int) < r.2) := fun hh => hi ((inn_iff r n).2 ⟨hr, hh⟩)
      omega
theorem S_total (l : List Rg) (h : l.all may = true) : (S (cnt l) 65536 : Int) = total l := by
  induction l with
  | nil =>
    have : ∀ n, S (cnt []) n = 0 := by intro n; induction n with | zero => rfl | succ n ih => simp [S, ih, cnt]
    rw [this]; simp [total]
  | cons r t ih =>
    rw [List.all_cons, Bool.and_eq_true] at h
    have e : S (cnt (r :: t)) 65536 = S (cnt t) 65536 + S (fun p => if inn r p then 1 else 0) 65536 := by
      rw [← S_add]
      congr 1
      funext p
      exact cnt_cons r t p
    have hr := (may_iff r).1 h.1
    have h1 := S_one r h.1 65536
    rw [e, Int.natCast_add, ih h.2, h1, total_cons]
    omega
theorem S_all_one (f : Int → Nat) (n : Nat) (h : ∀ i : Nat, i < n → f i = 1) : S f n = n := by
  induction n with
  | zero => rfl
  | succ n ih => simp only [S, ih (fun i hi => h i (by omega)), h n (by omega)]
theorem S_ge (f : Int → Nat) (n : Nat) (h : ∀ i : Nat, i < n → 1 ≤ f i) : n ≤ S f n := by
  induction n with
  | zero => exact Nat.zero_le _
  | succ n ih =>
    have h1 := ih (fun i hi => h i (by omega))
    have h2 := h n (by omega)
    simp only [S]
    omega
theorem S_tight (f : Int → Nat) (n : Nat) (h : ∀ i : Nat, i < n → 1 ≤ f i) (hs : S f n ≤ n) : ∀ i : Nat, i < n → f i = 1 := by
  induction n with
  | zero => intro i hi; omega
  | succ n ih =>
    intro i hi
    have h1 := S_ge f n (fun i hi => h i (by omega))
    have h2 := h n (by omega)
    simp only [S] at hs
    rcases Nat.lt_or_ge i n with hl | hl
    · exact ih (fun i hi => h i (by omega)) (by omega) i hl
    · have : i = n := by omega
      subst this
      omega

/-- All may be, and each place is in just one. -/
def Cov (l : List Rg) : Prop := l.all may = true ∧ ∀ p : Int, 0 ≤ p → p < 65536 → cnt l p = 1
theorem cov_iff (l : List Rg) : cov l = true ↔ Cov l := by
  unfold cov
  rw [Bool.and_eq_true, Bool.and_eq_true, decide_eq_true_eq, decide_eq_true_eq]
  constructor
  · rintro ⟨⟨h1, h2⟩, h3⟩
    refine ⟨h1, fun p hp0 hp1 => ?_⟩
    have h4 := S_total l h1
    have h5 : ∀ i : Nat, i < 65536 → 1 ≤ cnt l i := fun i hi => by
      rw [← cnt_has, ← (join_canon l).2, h3, has_cons, (inn_iff (0, 65536) i).2 (by dsimp only; omega)]
      rfl
    have h6 := S_tight (cnt l) 65536 h5 (by omega) p.toNat (by omega)
    rwa [Int.toNat_of_nonneg hp0] at h6
  · rintro ⟨h1, h2⟩
    have h3 := S_all_one (cnt l) 65536 (fun i hi => h2 i (by omega) (by omega))
    have h4 := S_total l h1
    refine ⟨⟨h1, by omega⟩, ?_⟩
    refine (join_unique l [(0, 65536)] ⟨fun x hx => by rw [List.mem_singleton.1 hx]; decide, by simp⟩ fun p => ?_).symm
    rw [has_cons, has_nil, Bool.or_false, Bool.eq_iff_iff, cnt_has, inn_iff]
    dsimp only
    constructor
    · intro hh; rw [h2 p (by omega) (by omega)]; exact Nat.le_refl _
    · intro hh
      rw [← cnt_has, has_iff] at hh
      obtain ⟨x, hx, hpx⟩ := hh
      have := (inn_iff x p).1 hpx
      omega
theorem Cov.perm {a b : List Rg} (h : Cov a) (hp : a.Perm b) : Cov b := by
  refine ⟨?_, fun p h0 h1 => ?_⟩
  · have h1 := h.1
    rw [List.all_eq_true] at h1 ⊢
    exact fun x hx => h1 x (hp.mem_iff.2 hx)
  · have := h.2 p h0 h1
    unfold cnt at this ⊢
    rw [← hp.countP_eq]; exact this
end Go.Proofs.Ytabckkepkennhaa.Pq
