/-
  A move from bound to bound: the same as ours.
-/
import Derived.Test.YtcpmcfagibmboaaChP
import Derived.Test.YtcpmcfagibmboaaPlQ2
namespace Go.Proofs.Ytcpmcfagibmboaa.Cq
open Pl Pv Pq Cp
set_option linter.unusedSectionVars false
set_option linter.unusedVariables false

/-- Who serves a place behind the move. -/
def tgt (ps : List Pc) (r : Rg) (tg : Int) (q : Int) : Int := if inn r q then tg else ofL ps q
/-- Behind so many bounds. -/
def rga (ps : List Pc) (r : Rg) (tg : Int) (b : List Int) : Nat → List Pc
  | 0 => []
  | k + 1 => pu (rga ps r tg b k) (b.getD k 0, b.getD (k + 1) 0) (tgt ps r tg (b.getD k 0))
def chg (ps : List Pc) (r : Rg) (tg : Int) (b : List Int) : Nat → Bool
  | 0 => false
  | k + 1 => chg ps r tg b k || decide (¬ tgt ps r tg (b.getD k 0) = ofL ps (b.getD k 0))
theorem chg_iff (ps : List Pc) (r : Rg) (tg : Int) (b : List Int) (k : Nat) : chg ps r tg b k = true ↔ ∃ j, j < k ∧ ¬ tgt ps r tg (b.getD j 0) = ofL ps (b.getD j 0) := by
  induction k with
  | zero => simp [chg]
  | succ k ih =>
    rw [chg, Bool.or_eq_true, ih, decide_eq_true_eq]
    constructor
    · rintro (⟨j, h1, h2⟩ | h)
      · exact ⟨j, by omega, h2⟩
      · exact ⟨k, by omega, h⟩
    · rintro ⟨j, h1, h2⟩
      by_cases h : j = k
      · subst h; exact .inr h2
      · exact .inl ⟨j, by omega, h2⟩

theorem ofL_same {ps : List Pc} {q y : Int} (h : ∀ x ∈ ps, inn (rg x) q = inn (rg x) y) : ofL ps q = ofL ps y := by
  induction ps with
  | nil => rfl
  | cons x t ih =>
    rw [ofL, ofL, h x (List.mem_cons_self ..), ih (fun z hz => h z (List.mem_cons_of_mem _ hz))]
theorem last_in : ∀ (ps : List Pc) (a s b : Int), Gd a s ps b → a < b → ∃ x ∈ ps, x.2.1 = b
  | [], a, s, b, h, hl => by have h : a = b := h; omega
  | x :: t, a, s, b, h, hl => by
    by_cases hx : x.2.1 = b
    · exact ⟨x, List.mem_cons_self .., hx⟩
    · have := gd_le _ _ _ _ h.2.2.2.2
      obtain ⟨y, hy, he⟩ := last_in t _ _ _ h.2.2.2.2 (by omega)
      exact ⟨y, List.mem_cons_of_mem _ hy, he⟩

section
variable {ps : List Pc} {r : Rg} {tg : Int} {b : List Int} (hB : IsB (r :: ps.map rg) b) (hg : Gd 0 0 ps 65536) (hr : may r = true) (ht : 1 ≤ tg ∧ tg ≤ 6)
include hB
theorem tgt_same {x q : Int} (hx : x ≤ q) (hn : ∀ y ∈ b, y ≤ q → y ≤ x) : tgt ps r tg q = tgt ps r tg x ∧ ofL ps q = ofL ps x := by
  have h1 : ofL ps q = ofL ps x := ofL_same fun z hz => same_in hB hx hn (rg z) (List.mem_cons_of_mem _ (List.mem_map.2 ⟨z, hz, rfl⟩))
  have h2 := same_in hB hx hn r (List.mem_cons_self ..)
  exact ⟨by unfold tgt; rw [h1, h2], h1⟩
include hg
theorem has_last : (65536 : Int) ∈ b := by
  obtain ⟨x, hx, he⟩ := last_in ps 0 0 65536 hg (by omega)
  have hm : may (rg x) = true := by
    have := (cnt_of ps 0 0 65536 hg (Int.le_refl _) (Int.le_refl _)).1
    rw [List.all_eq_true] at this
    exact this _ (List.mem_map.2 ⟨x, hx, rfl⟩)
  have := (hB.ends (rg x) (List.mem_cons_of_mem _ (List.mem_map.2 ⟨x, hx, rfl⟩)) hm).2
  rw [← he]; exact this
theorem last_at : 2 ≤ b.length ∧ b.getD (b.length - 1) 0 = 65536 := by
  obtain ⟨h0, h1⟩ := head_zero hB
  obtain ⟨i, hi⟩ := List.getElem?_of_mem (has_last hB hg)
  have hil : i < b.length := by
    rcases Nat.lt_or_ge i b.length with h | h
    · exact h
    · rw [List.getElem?_eq_none h] at hi; cases hi
  have e : b.getD i 0 = 65536 := by simp [List.getD, hi]
  have hi1 : i + 1 = b.length := by
    rcases Nat.lt_or_ge (i + 1) b.length with h | h
    · exfalso
      have h2 := (next_bound hB h).1
      have h3 := hB.low (b.getD (i + 1) 0) (by rw [getD_at h]; exact List.getElem_mem h)
      omega
    · omega
  refine ⟨?_, by rw [show b.length - 1 = i by omega]; exact e⟩
  rcases Nat.lt_or_ge 1 b.length with h | h
  · omega
  · have : i = 0 := by omega
    subst this
    omega
include hr ht
theorem rga_inv : ∀ k, k < b.length → Gd 0 0 (rga ps r tg b k) (b.getD k 0) ∧ ∀ q, ofL (rga ps r tg b k) q = if 0 ≤ q ∧ q < b.getD k 0 then tgt ps r tg q else 0
  | 0, hk => by
    obtain ⟨h0, h1⟩ := head_zero hB
    refine ⟨h1.symm, fun q => ?_⟩
    rw [h1, if_neg (by omega)]; rfl
  | k + 1, hk => by
    obtain ⟨g, o⟩ := rga_inv k (by omega)
    obtain ⟨h1, h2⟩ := next_bound hB hk
    have hl0 := hB.low (b.getD k 0) (by rw [getD_at (by omega)]; exact List.getElem_mem (by omega))
    have hl1 := hB.low (b.getD (k + 1) 0) (by rw [getD_at hk]; exact List.getElem_mem hk)
    have hs : 1 ≤ tgt ps r tg (b.getD k 0) ∧ tgt ps r tg (b.getD k 0) ≤ 6 := by
      unfold tgt
      split
      · exact ht
      · exact ofL_in ps 0 0 65536 hg (Int.le_refl _) (Int.le_refl _) _ hl0.1 (by omega)
    obtain ⟨g1, o1⟩ := pu_ok (rga ps r tg b k) (b.getD k 0) (b.getD (k + 1) 0) _ g hl0.1 h1 hl1.2 hs
    refine ⟨g1, fun q => ?_⟩
    show ofL (pu (rga ps r tg b k) _ _) q = _
    rw [o1, o]
    by_cases hq : b.getD k 0 ≤ q ∧ q < b.getD (k + 1) 0
    · rw [if_pos hq, if_pos (by omega)]
      exact ((tgt_same hB hq.1 (fun y hy hyq => h2 y hy (by omega))).1).symm
    · rw [if_neg hq]
      by_cases hq2 : 0 ≤ q ∧ q < b.getD k 0
      · rw [if_pos hq2, if_pos (by omega)]
      · rw [if_neg hq2, if_neg (by omega)]
theorem rga_end : rga ps r tg b (b.length - 1) = mv r tg [] ps := by
  obtain ⟨h0, h1⟩ := last_at hB hg
  obtain ⟨g, o⟩ := rga_inv hB hg hr ht (b.length - 1) (by omega)
  obtain ⟨g2, o2⟩ := mv_all r tg hr ht ps hg
  rw [h1] at g o
  refine gd_eq _ _ 0 0 0 65536 g g2 (Int.le_refl _) (Int.le_refl _) fun q => ?_
  rw [o, o2]
  by_cases hq : 0 ≤ q ∧ q < 65536
  · rw [if_pos hq]; rfl
  · rw [if_neg hq]
    have hn : ¬ inn r q = true := by rw [inn_iff]; have := (may_iff r).1 hr; omega
    rw [if_neg hn, ofL_out _ _ _ _ hg q (by omega)]
theorem chg_end : chg ps r tg b (b.length - 1) = decide (¬ mv r tg [] ps = ps) := by
  obtain ⟨h0, h1⟩ := last_at hB hg
  obtain ⟨g2, o2⟩ := mv_all r tg hr ht ps hg
  rw [Bool.eq_iff_iff, chg_iff, decide_eq_true_eq]
  constructor
  · rintro ⟨j, hj, hne⟩ e
    apply hne
    have := o2 (b.getD j 0)
    rw [e] at this
    exact this.symm
  · intro hne
    apply Classical.byContradiction
    intro hall
    apply hne
    refine gd_eq _ _ 0 0 0 65536 g2 hg (Int.le_refl _) (Int.le_refl _) fun q => ?_
    rw [o2]
    show tgt ps r tg q = ofL ps q
    by_cases hq : 0 ≤ q ∧ q < 65536
    · obtain ⟨x, hx, hxq, hm⟩ := greatest b q 0 hB.zero hq.1
      obtain ⟨e1, e2⟩ := tgt_same (tg := tg) hB hxq hm
      obtain ⟨j, hj⟩ := List.getElem?_of_mem hx
      have hjl : j < b.length := by
        rcases Nat.lt_or_ge j b.length with h | h
        · exact h
        · rw [List.getElem?_eq_none h] at hj; cases hj
      have ej : b.getD j 0 = x := by simp [List.getD, hj]
      have hjn : j ≠ b.length - 1 := by rintro rfl; omega
      rw [e1, e2, ← ej]
      apply Classical.byContradiction
      intro hh
      exact hall ⟨j, by omega, hh⟩
    · have hn : ¬ inn r q = true := by rw [inn_iff]; have := (may_iff r).1 hr; omega
      unfold tgt
      rw [if_neg hn]
end
end Go.Proofs.Ytcpmcfagibmboaa.Cq
