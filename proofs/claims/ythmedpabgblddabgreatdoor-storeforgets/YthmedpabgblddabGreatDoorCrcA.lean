/-
  Frames one behind the other: what a walk over them tells, place by place; where they end. Nothing of the program but the chain of frames (CrcG).
-/
import Derived.Test.YthmedpabgblddabGreatDoorCrcK
import Derived.Test.YthmedpabgblddabGreatDoorCrcM
namespace Go.Proofs.YthmedpabgblddabGreatDoor.Ca
open Go.RowKit Kt Cs Cw Cf Cn Cg
set_option linter.unusedVariables false

/-- The frames of bodies. -/
def fcat (l : List (List UInt8)) : List UInt8 := (l.map Cp.frame).flatten
theorem fcat_snoc (l : List (List UInt8)) (x : List UInt8) : fcat (l ++ [x]) = fcat l ++ Cp.frame x := by simp [fcat]
theorem fcat_cons (l : List (List UInt8)) (x : List UInt8) : fcat (x :: l) = Cp.frame x ++ fcat l := by simp [fcat]
def off (l : List (List UInt8)) (i : Nat) : Nat := (fcat (l.take i)).length
theorem off_zero (l : List (List UInt8)) : off l 0 = 0 := rfl
theorem off_all (l : List (List UInt8)) : off l l.length = (fcat l).length := by simp [off]
theorem fcat_split (l : List (List UInt8)) (i : Nat) : fcat l = fcat (l.take i) ++ fcat (l.drop i) := by
  unfold fcat
  rw [← List.flatten_append, ← List.map_append, List.take_append_drop]
theorem drop_off (l : List (List UInt8)) (t : List UInt8) (i : Nat) : (fcat l ++ t).drop (off l i) = fcat (l.drop i) ++ t := by
  rw [fcat_split l i, List.append_assoc]
  exact List.drop_left
theorem drop_cons {l : List (List UInt8)} {i : Nat} (h : i < l.length) : l.drop i = l.getD i [] :: l.drop (i + 1) := by
  rw [List.drop_eq_getElem_cons h]; simp [List.getD, List.getElem?_eq_getElem h]
theorem fd_off {l : List (List UInt8)} (hl : ∀ x ∈ l, x.length ≤ 65536) (t : List UInt8) {i : Nat} (h : i < l.length) : Cp.fd ((fcat l ++ t).drop (off l i)) = (0, (l.getD i []).length) := by
  rw [drop_off, drop_cons h, fcat_cons, List.append_assoc]
  refine Cp.fd_frame ?_ _
  have : l.getD i [] = l[i] := by simp [List.getD, List.getElem?_eq_getElem h]
  rw [this]; exact hl _ (List.getElem_mem h)
theorem off_succ {l : List (List UInt8)} {i : Nat} (h : i < l.length) : off l (i + 1) = off l i + 12 + (l.getD i []).length := by
  unfold off
  rw [List.take_add_one, List.getElem?_eq_getElem h]
  simp only [Option.toList_some]
  rw [fcat_snoc, List.length_append, Cp.frame_len]
  simp [List.getD, List.getElem?_eq_getElem h]; omega
theorem body_off {l : List (List UInt8)} (t : List UInt8) {i : Nat} (h : i < l.length) : ((fcat l ++ t).drop (off l i + 12)).take (l.getD i []).length = l.getD i [] := by
  rw [← List.drop_drop, drop_off, drop_cons h, fcat_cons, List.append_assoc]
  generalize l.getD i [] = x
  have e : Cp.frame x ++ (fcat (l.drop (i + 1)) ++ t) = (Cp.put x.length ++ Cp.put (Cp.sum (Cp.put x.length)) ++ Cp.put (Cp.sum x)) ++ (x ++ (fcat (l.drop (i + 1)) ++ t)) := by simp [Cp.frame]
  have h12 : (Cp.put x.length ++ Cp.put (Cp.sum (Cp.put x.length)) ++ Cp.put (Cp.sum x)).length = 12 := by simp [Cp.put_len]
  rw [e]
  have := List.drop_left (l₁ := Cp.put x.length ++ Cp.put (Cp.sum (Cp.put x.length)) ++ Cp.put (Cp.sum x)) (l₂ := x ++ (fcat (l.drop (i + 1)) ++ t))
  rw [h12] at this
  rw [this, List.take_left]

section
variable {w0 : World} {l : List (List UInt8)} {t : List UInt8}
/-- What the chain tells at each place of the frames. -/
theorem chain_at (hl : ∀ x ∈ l, x.length ≤ 65536) : ∀ {xs : List (El w0)} {j e : Nat}, Chain (fcat l ++ t) (off l j) xs e → ∀ i x, xs[i]? = some x → j + i < l.length → x.pl = off l (j + i) ∧ x.bs = l.getD (j + i) []
  | [], j, e, h, i, x, hx, hi => by simp at hx
  | y :: xs, j, e, h, i, x, hx, hi => by
    have hj : j < l.length := by omega
    have hf := fd_off hl t hj
    obtain ⟨h1, h2, h3, h4⟩ := h
    rw [hf] at h3 h4
    cases i with
    | zero =>
      simp at hx
      subst hx
      exact ⟨h1, h3.trans (body_off t hj)⟩
    | succ i =>
      simp only at h4
      rw [← off_succ hj] at h4
      have := chain_at hl h4 i x (by simpa using hx) (by omega)
      rw [show j + (i + 1) = j + 1 + i by omega]
      exact this
theorem chain_all (hl : ∀ x ∈ l, x.length ≤ 65536) : ∀ {xs : List (El w0)} {j e : Nat}, Chain (fcat l ++ t) (off l j) xs e → (Cp.fd ((fcat l ++ t).drop e)).1 ≠ 0 → l.length ≤ j + xs.length
  | [], j, e, h, hne => by
    have h : off l j = e := h
    subst h
    rcases Nat.lt_or_ge j l.length with hj | hj
    · rw [fd_off hl t hj] at hne; exact (hne rfl).elim
    · simp; omega
  | y :: xs, j, e, h, hne => by
    rcases Nat.lt_or_ge j l.length with hj | hj
    · obtain ⟨h1, h2, h3, h4⟩ := h
      rw [fd_off hl t hj] at h4
      simp only at h4
      rw [← off_succ hj] at h4
      have := chain_all hl h4 hne
      simp only [List.length_cons]; omega
    · omega
theorem chain_most (hl : ∀ x ∈ l, x.length ≤ 65536) (ht : t = []) : ∀ {xs : List (El w0)} {j e : Nat}, Chain (fcat l ++ t) (off l j) xs e → j ≤ l.length → j + xs.length ≤ l.length
  | [], j, e, h, hj => by simpa using hj
  | y :: xs, j, e, h, hj => by
    rcases Nat.lt_or_ge j l.length with hj | hj2
    · obtain ⟨h1, h2, h3, h4⟩ := h
      rw [fd_off hl t hj] at h4
      simp only at h4
      rw [← off_succ hj] at h4
      have := chain_most hl ht h4 (by omega)
      simp only [List.length_cons]; omega
    · have hjl : j = l.length := by omega
      have h2 := h.2.1
      subst hjl
      rw [drop_off, List.drop_length, ht] at h2
      exact absurd h2 (by decide)
end
theorem ends_ge (bs : List UInt8) : ∀ f k, k ≤ ends bs f k
  | 0, k => Nat.le_refl _
  | f + 1, k => by
    rw [ends]
    split
    · exact Nat.le_trans (by omega) (ends_ge bs f _)
    · exact Nat.le_refl _
theorem ends_off {l : List (List UInt8)} (hl : ∀ x ∈ l, x.length ≤ 65536) (t : List UInt8) : ∀ n f j, l.length = j + n → n ≤ f → off l l.length ≤ ends (fcat l ++ t) f (off l j)
  | 0, f, j, h, _ => by rw [h]; exact ends_ge _ _ _
  | n + 1, f, j, h, hf => by
    obtain ⟨g, rfl⟩ : ∃ g, f = g + 1 := ⟨f - 1, by omega⟩
    have hj : j < l.length := by omega
    rw [ends, fd_off hl t hj]
    simp only [if_true]
    rw [← off_succ hj]
    exact ends_off hl t n g (j + 1) (by omega) (by omega)
theorem gend_ge {l : List (List UInt8)} (hl : ∀ x ∈ l, x.length ≤ 65536) (t : List UInt8) : (fcat l).length ≤ gend (fcat l ++ t) := by
  have hlen : l.length ≤ (fcat l).length := by
    induction l with
    | nil => simp
    | cons x l ih => rw [fcat_cons, List.length_append, Cp.frame_len, List.length_cons]; have := ih (fun y hy => hl y (List.mem_cons_of_mem _ hy)); omega
  have := ends_off hl t l.length ((fcat l ++ t).length + 1) 0 (by omega) (by rw [List.length_append]; omega)
  rw [off_zero, off_all] at this
  exact this
end Go.Proofs.YthmedpabgblddabGreatDoor.Ca
