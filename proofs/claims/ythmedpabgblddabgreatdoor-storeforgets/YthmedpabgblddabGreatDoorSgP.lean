/-
  A log as plain lists: its segments, what is kept of each, what a crash and a restart leave. Nothing of the program but the chain of frames.
-/
import Derived.Test.YthmedpabgblddabGreatDoorCrcA
import Derived.Test.YthmedpabgblddabGreatDoorDiP
import Derived.Test.YthmedpabgblddabGreatDoorPlain
namespace Go.Proofs.YthmedpabgblddabGreatDoor.Sp
open Go.RowKit Kt Cs Cw Cf Cn Cg Ca Dp
set_option linter.unusedVariables false

theorem fcat_app (a b : List (List UInt8)) : fcat (a ++ b) = fcat a ++ fcat b := by simp [fcat]
theorem fcat_nil : fcat [] = [] := rfl

/-- One byte turned in a frame, something behind, and cut anywhere: no body is told. -/
theorem fd_turned_cut {x : List UInt8} (hl : x.length ≤ 65536) {j : Nat} {y : UInt8} (hj : j < 12 + x.length) (hy : (Cp.frame x).getD j 0 ≠ y) (rest : List UInt8) (m : Nat) :
    (Cp.fd (((Cp.frame x).set j y ++ rest).take m)).1 ≠ 0 := by
  by_cases h12 : m < 12
  · rw [Cp.fd_short (by rw [List.length_take]; omega)]; decide
  obtain ⟨k, rfl⟩ : ∃ k, m = 4 + (4 + (4 + k)) := ⟨m - 12, by omega⟩
  have hn : Cp.word (Cp.put x.length) = x.length := Cp.word_put' (by omega)
  have p4 : ∀ n, (Cp.put n).length = 4 := fun _ => rfl
  have t4 : ∀ (A X : List UInt8) (i : Nat), A.length = 4 → (A ++ X).take (4 + i) = A ++ X.take i := fun A X i hA => by
    have := List.take_length_add_append (l₁ := A) (l₂ := X) i
    rwa [hA] at this
  unfold Cp.frame at hy ⊢
  by_cases h1 : j < 4
  · rw [Cp.getD_left (by rw [p4]; omega)] at hy
    rw [Cp.set_left (by rw [p4]; omega), List.append_assoc, List.append_assoc, List.append_assoc, t4 _ _ _ (by rw [List.length_set]; rfl), t4 _ _ _ rfl, t4 _ _ _ rfl, Cp.fdABC _ (by rw [List.length_set]; rfl) rfl rfl, if_pos]
    · decide
    · rw [Cp.word_put' (Cp.sum_lt _)]
      exact Cp.sum_set (by rw [p4]; omega) hy
  · rw [Cp.getD_right (by rw [p4]; omega), p4] at hy
    rw [Cp.set_right (by rw [p4]; omega), p4]
    by_cases h2 : j < 8
    · rw [Cp.getD_left (by rw [p4]; omega)] at hy
      rw [Cp.set_left (by rw [p4]; omega), List.append_assoc, List.append_assoc, List.append_assoc, t4 _ _ _ rfl, t4 _ _ _ (by rw [List.length_set]; rfl), t4 _ _ _ rfl, Cp.fdABC _ rfl (by rw [List.length_set]; rfl) rfl, if_pos]
      · decide
      · intro h
        apply Cp.word_set (p4 _) (by omega) hy
        rw [← h, Cp.word_put' (Cp.sum_lt _)]
    · rw [Cp.getD_right (by rw [p4]; omega), p4] at hy
      rw [Cp.set_right (by rw [p4]; omega), p4]
      by_cases h3 : j < 12
      · rw [Cp.getD_left (by rw [p4]; omega)] at hy
        rw [Cp.set_left (by rw [p4]; omega), List.append_assoc, List.append_assoc, List.append_assoc, t4 _ _ _ rfl, t4 _ _ _ rfl, t4 _ _ _ (by rw [List.length_set]; rfl), Cp.fdABC _ rfl rfl (by rw [List.length_set]; rfl), if_neg (by rw [Cp.word_put' (Cp.sum_lt _)]; simp), hn, if_neg (by omega)]
        by_cases h4 : ((x ++ rest).take k).length < x.length
        · rw [if_pos h4]; decide
        · rw [if_neg h4, if_pos]
          · decide
          · intro h
            apply Cp.word_set (p4 _) (by omega) hy
            rw [← h, Cp.word_put' (Cp.sum_lt _)]
            congr 1
            rw [List.length_take, List.length_append] at h4
            rw [List.take_take, Nat.min_eq_left (by omega), List.take_left]
      · rw [Cp.getD_right (by rw [p4]; omega), p4] at hy
        rw [Cp.set_right (by rw [p4]; omega), p4, List.append_assoc, List.append_assoc, List.append_assoc, t4 _ _ _ rfl, t4 _ _ _ rfl, t4 _ _ _ rfl, Cp.fdABC _ rfl rfl rfl, if_neg (by rw [Cp.word_put' (Cp.sum_lt _)]; simp), hn, if_neg (by omega)]
        by_cases h4 : ((x.set (j - 4 - 4 - 4) y ++ rest).take k).length < x.length
        · rw [if_pos h4]; decide
        · rw [if_neg h4, if_pos]
          · decide
          · rw [List.length_take, List.length_append, List.length_set] at h4
            have e : ((x.set (j - 4 - 4 - 4) y ++ rest).take k).take x.length = x.set (j - 4 - 4 - 4) y := by
              rw [List.take_take, Nat.min_eq_left (by omega)]
              exact List.take_left' (by simp)
            rw [e, Cp.word_put' (Cp.sum_lt _)]
            exact Cp.sum_set (by omega) hy

theorem turn_none {l : List UInt8} {f : Int} (h : ¬ (0 ≤ f ∧ f.toNat / 8 < l.length)) : turn l f = l := by unfold turn; rw [if_neg h]
theorem tb_ne (c : UInt8) {m : Nat} (h : m < 8) : c ≠ tb c m := by
  intro e
  unfold tb at e
  have h1 := congrArg (fun z => c ^^^ z) e
  simp only [UInt8.xor_self] at h1
  rw [← UInt8.xor_assoc, UInt8.xor_self, UInt8.zero_xor] at h1
  have h2 := congrArg UInt8.toNat h1
  have h3 : 2 ^ m < 2 ^ 8 := Nat.pow_lt_pow_right (by omega) h
  have h4 := Nat.two_pow_pos m
  simp only [UInt8.toNat_ofNat'] at h2
  simp at h2
  omega
theorem frame_pos (x : List UInt8) : (Cp.frame x).length = 12 + x.length := Cp.frame_len x

/-- What a crash leaves of frames: some of them whole, and behind them nothing that is one. -/
theorem torn : ∀ (l : List (List UInt8)), (∀ x ∈ l, x.length ≤ 65536) → ∀ (m : Nat) (f : Int), ∃ (j : Nat) (tail : List UInt8), j ≤ l.length ∧ turn ((fcat l).take m) f = fcat (l.take j) ++ tail ∧ (Cp.fd tail).1 ≠ 0
  | [], _, m, f => ⟨0, [], Nat.le_refl _, by rw [turn_none (by simp [fcat])]; simp [fcat], by decide⟩
  | x :: l, hl, m, f => by
    have hx := hl x (by simp)
    have hl' : ∀ y ∈ l, y.length ≤ 65536 := fun y hy => hl y (by simp [hy])
    have hn := frame_pos x
    rw [fcat_cons]
    by_cases hm : m < 12 + x.length
    · refine ⟨0, turn ((Cp.frame x ++ fcat l).take m) f, by simp, by simp [fcat], ?_⟩
      by_cases ht : 0 ≤ f ∧ f.toNat / 8 < ((Cp.frame x ++ fcat l).take m).length
      · have h2 := ht.2
        rw [List.length_take, List.length_append, hn] at h2
        unfold turn
        rw [if_pos ht]
        have e : ((Cp.frame x ++ fcat l).take m).getD (f.toNat / 8) 0 = (Cp.frame x).getD (f.toNat / 8) 0 := by
          have h3 : f.toNat / 8 < (Cp.frame x).length := by omega
          simp only [List.getD, List.getElem?_take, show f.toNat / 8 < m by omega, if_true, List.getElem?_append_left h3]
        rw [e]
        have h5 := fd_turned_cut hx (j := f.toNat / 8) (y := tb ((Cp.frame x).getD (f.toNat / 8) 0) (f.toNat % 8)) (by omega) (tb_ne _ (by omega)) (fcat l) m
        rw [← List.set_append_left _ _ (by omega), List.take_set] at h5
        exact h5
      · rw [turn_none ht, List.take_append_of_le_length (by omega), Cp.fd_frame_cut hx (by omega)]; decide
    · have e1 : (Cp.frame x ++ fcat l).take m = Cp.frame x ++ (fcat l).take (m - (12 + x.length)) := by
        rw [List.take_append, hn, List.take_of_length_le (by omega)]
      rw [e1]
      by_cases ht : 0 ≤ f ∧ f.toNat / 8 < 12 + x.length
      · refine ⟨0, turn (Cp.frame x ++ (fcat l).take (m - (12 + x.length))) f, by simp, by simp [fcat], ?_⟩
        unfold turn
        rw [if_pos ⟨ht.1, by rw [List.length_append]; omega⟩, Cp.getD_left (by omega), List.set_append_left _ _ (by omega)]
        have h5 := fd_turned_cut hx (j := f.toNat / 8) (y := tb ((Cp.frame x).getD (f.toNat / 8) 0) (f.toNat % 8)) (by omega) (tb_ne _ (by omega)) ((fcat l).take (m - (12 + x.length))) (((Cp.frame x) ++ (fcat l).take (m - (12 + x.length))).length)
        rwa [List.take_of_length_le (by simp)] at h5
      · obtain ⟨j, tail, hj, he, ht2⟩ := torn l hl' (m - (12 + x.length)) (f - 8 * ((12 + x.length : Nat) : Int))
        refine ⟨j + 1, tail, by simp; omega, ?_, ht2⟩
        rw [List.take_succ_cons, fcat_cons, List.append_assoc, ← he]
        have hq : f.toNat / 8 < 12 + x.length ∨ 12 + x.length ≤ f.toNat / 8 := by omega
        unfold turn
        by_cases h0 : 0 ≤ f
        · have hge : 12 + x.length ≤ f.toNat / 8 := by omega
          have g1 : (f - 8 * ((12 + x.length : Nat) : Int)).toNat / 8 = f.toNat / 8 - (12 + x.length) := by omega
          have g2 : (f - 8 * ((12 + x.length : Nat) : Int)).toNat % 8 = f.toNat % 8 := by omega
          have g3 : 0 ≤ f - 8 * ((12 + x.length : Nat) : Int) := by omega
          rw [g1, g2]
          by_cases h5 : f.toNat / 8 < (Cp.frame x ++ (fcat l).take (m - (12 + x.length))).length
          · have h6 : f.toNat / 8 - (12 + x.length) < ((fcat l).take (m - (12 + x.length))).length := by rw [List.length_append, hn] at h5; omega
            rw [if_pos ⟨h0, h5⟩, if_pos ⟨g3, h6⟩, List.set_append_right _ _ (by omega), Cp.getD_right (by omega), hn]
          · have h6 : ¬ f.toNat / 8 - (12 + x.length) < ((fcat l).take (m - (12 + x.length))).length := by rw [List.length_append, hn] at h5; omega
            rw [if_neg (fun h => h5 h.2), if_neg (fun h => h6 h.2)]
        · rw [if_neg (fun h => h0 h.1), if_neg (fun h => by have := h.1; omega)]

/-- What is told of bytes that are frames, and behind them nothing that is one. -/
theorem chain_eq {w0 : World} {l : List (List UInt8)} {t : List UInt8} (hl : ∀ x ∈ l, x.length ≤ 65536) (ht : (Cp.fd t).1 ≠ 0) : ∀ {xs : List (El w0)} {j e : Nat}, j ≤ l.length → Chain (fcat l ++ t) (off l j) xs e → (Cp.fd ((fcat l ++ t).drop e)).1 ≠ 0 →
    xs.map (fun x => (x.pl, x.bs)) = ((l.drop j).zipIdx j).map (fun p => (off l p.2, p.1)) ∧ e = (fcat l).length
  | [], j, e, hj, h, hne => by
    have h : off l j = e := h
    rcases Nat.lt_or_ge j l.length with h1 | h1
    · rw [← h, fd_off hl t h1] at hne
      exact (hne rfl).elim
    · have hj2 : j = l.length := by omega
      subst hj2
      exact ⟨by simp, by rw [← h, off_all]⟩
  | x :: xs, j, e, hj, h, hne => by
    rcases Nat.lt_or_ge j l.length with h1 | h1
    · have hfd := fd_off hl t h1
      obtain ⟨hp, h0, hb, hc⟩ := h
      rw [hfd] at hb hc
      have hs := off_succ h1
      simp only at hb hc
      rw [← hs] at hc
      obtain ⟨h2, h3⟩ := chain_eq hl ht (j := j + 1) (by omega) hc hne
      refine ⟨?_, h3⟩
      rw [body_off t h1] at hb
      rw [List.map_cons, h2, hp, hb, drop_cons h1]
      rfl
    · have hj2 : j = l.length := by omega
      subst hj2
      have h0 := h.2.1
      have e1 : (fcat l ++ t).drop (off l l.length) = t := by rw [off_all]; exact List.drop_left
      rw [e1] at h0
      exact (ht h0).elim
theorem gend_eq {l : List (List UInt8)} {t : List UInt8} (hl : ∀ x ∈ l, x.length ≤ 65536) (ht : (Cp.fd t).1 ≠ 0) : gend (fcat l ++ t) = (fcat l).length := by
  have h1 : ∀ n f j, l.length = j + n → n < f → ends (fcat l ++ t) f (off l j) = (fcat l).length := by
    intro n
    induction n with
    | zero =>
      intro f j hj hf
      obtain ⟨g, rfl⟩ : ∃ g, f = g + 1 := ⟨f - 1, by omega⟩
      have hj2 : j = l.length := by omega
      subst hj2
      have e1 : (fcat l ++ t).drop (off l l.length) = t := by rw [off_all]; exact List.drop_left
      rw [ends, e1, if_neg ht, off_all]
    | succ n ih =>
      intro f j hj hf
      obtain ⟨g, rfl⟩ : ∃ g, f = g + 1 := ⟨f - 1, by omega⟩
      have h1 : j < l.length := by omega
      rw [ends, fd_off hl t h1, if_pos rfl]
      have hs := off_succ h1
      simp only
      rw [← hs]
      exact ih g (j + 1) (by omega) (by omega)
  have hlen : l.length ≤ (fcat l).length := by
    have : ∀ l : List (List UInt8), l.length ≤ (fcat l).length := fun l => by
      induction l with
      | nil => simp
      | cons x l ih => rw [fcat_cons, List.length_append, frame_pos, List.length_cons]; omega
    exact this l
  have := h1 l.length ((fcat l ++ t).length + 1) 0 (by omega) (by rw [List.length_append]; omega)
  rwa [off_zero] at this
end Go.Proofs.YthmedpabgblddabGreatDoor.Sp
