/-
  Frames over lists of bytes: what is framed is told; cut it is short; one turned byte is told by a sum. Nothing of the program.
-/
import Derived.Test.YthmedpabgblddabGreatDoorCrcP
namespace Go.Proofs.YthmedpabgblddabGreatDoor.Cp
set_option linter.unusedVariables false

theorem word_app {A X : List UInt8} (h : A.length = 4) : word (A ++ X) = word A := by
  obtain ⟨a, b, c, d, r, rfl⟩ := four (b := A) (by omega)
  rfl
theorem fdABC {A B C : List UInt8} (D : List UInt8) (hA : A.length = 4) (hB : B.length = 4) (hC : C.length = 4) :
    fd (A ++ (B ++ (C ++ D))) = if sum A ≠ word B then (6, 0) else if 65536 < word A then (3, 0) else if D.length < word A then (4, 0) else if sum (D.take (word A)) ≠ word C then (6, 0) else (0, word A) := by
  have hl : (A ++ (B ++ (C ++ D))).length = 12 + D.length := by simp [hA, hB, hC]; omega
  have h4 : (A ++ (B ++ (C ++ D))).take 4 = A := by rw [← hA]; exact List.take_left
  have d4 : (A ++ (B ++ (C ++ D))).drop 4 = B ++ (C ++ D) := by rw [← hA]; exact List.drop_left
  have d8 : (A ++ (B ++ (C ++ D))).drop 8 = C ++ D := by
    rw [show 8 = 4 + 4 by rfl, ← List.drop_drop, d4, ← hB]; exact List.drop_left
  have d12 : (A ++ (B ++ (C ++ D))).drop 12 = D := by
    rw [show 12 = 8 + 4 by rfl, ← List.drop_drop, d8, ← hC]; exact List.drop_left
  have hw := word_app (X := B ++ (C ++ D)) hA
  by_cases h1 : sum A = word B
  · rw [if_neg (fun k => k h1)]
    by_cases h2 : 65536 < word A
    · rw [if_pos h2, fd_long (by omega) (by rw [h4, d4, word_app hB]; exact h1) (by rw [hw]; exact h2)]
    · rw [if_neg h2]
      by_cases h3 : D.length < word A
      · rw [if_pos h3, fd_cut (by omega) (by rw [h4, d4, word_app hB]; exact h1) (by rw [hw]; omega) (by rw [hw]; omega)]
      · rw [if_neg h3]
        by_cases h5 : sum (D.take (word A)) = word C
        · rw [if_neg (fun k => k h5), fd_ok (by omega) (by rw [h4, d4, word_app hB]; exact h1) (by rw [hw]; omega) (by rw [hw]; omega) (by rw [hw, d12, d8, word_app hC]; exact h5), hw]
        · rw [if_pos h5, fd_sum2 (by omega) (by rw [h4, d4, word_app hB]; exact h1) (by rw [hw]; omega) (by rw [hw]; omega) (by rw [hw, d12, d8, word_app hC]; exact h5)]
  · rw [if_pos h1, fd_sum1 (by omega) (by rw [h4, d4, word_app hB]; exact h1)]
theorem word_put' {n : Nat} (h : n < 2 ^ 32) : word (put n) = n := by
  have := word_put h []
  rwa [List.append_nil] at this
/-- What is framed is told. -/
theorem fd_frame {body : List UInt8} (hl : body.length ≤ 65536) (rest : List UInt8) : fd (frame body ++ rest) = (0, body.length) := by
  have e : frame body ++ rest = put body.length ++ (put (sum (put body.length)) ++ (put (sum body) ++ (body ++ rest))) := by simp [frame]
  have hn : word (put body.length) = body.length := word_put' (by omega)
  rw [e, fdABC _ rfl rfl rfl, if_neg (by rw [word_put' (sum_lt _)]; simp), hn, if_neg (by omega), if_neg (by simp), if_neg (by rw [List.take_left, word_put' (sum_lt _)]; simp)]
/-- Cut anywhere it is short. -/
theorem fd_frame_cut {body : List UInt8} (hl : body.length ≤ 65536) {k : Nat} (hk : k < (frame body).length) : fd ((frame body).take k) = (4, 0) := by
  rw [frame_len] at hk
  by_cases h12 : k < 12
  · exact fd_short (by rw [List.length_take]; omega)
  · have e : (frame body).take k = put body.length ++ (put (sum (put body.length)) ++ (put (sum body) ++ body.take (k - 12))) := by
      obtain ⟨j, rfl⟩ : ∃ j, k = 4 + (4 + (4 + j)) := ⟨k - 12, by omega⟩
      unfold frame
      have t : ∀ (n : Nat) (X : List UInt8) (i : Nat), (put n ++ X).take (4 + i) = put n ++ X.take i := fun n X i => by
        have := List.take_length_add_append (l₁ := put n) (l₂ := X) i
        rwa [put_len] at this
      rw [t, t, t]
      congr 4
      omega
    have hn : word (put body.length) = body.length := word_put' (by omega)
    rw [e, fdABC _ rfl rfl rfl, if_neg (by rw [word_put' (sum_lt _)]; simp), hn, if_neg (by omega), if_pos (by rw [List.length_take]; omega)]

theorem sum_set {l : List UInt8} {j : Nat} {y : UInt8} (hj : j < l.length) (hy : l.getD j 0 ≠ y) : sum (l.set j y) ≠ sum l := by
  have e1 : l.set j y = l.take j ++ y :: l.drop (j + 1) := by rw [List.set_eq_take_append_cons_drop, if_pos hj]
  have e2 : l = l.take j ++ l.getD j 0 :: l.drop (j + 1) := by
    have h1 : l.getD j 0 = l[j] := by simp [List.getD, List.getElem?_eq_getElem hj]
    rw [h1, List.getElem_cons_drop]; simp
  rw [e1]
  conv => rhs; rw [e2]
  exact sum_one _ _ _ _ (fun h => hy h.symm)
theorem word_set {l : List UInt8} {j : Nat} {y : UInt8} (hl : l.length = 4) (hj : j < 4) (hy : l.getD j 0 ≠ y) : word (l.set j y) ≠ word l := by
  intro h
  have := word_inj (by rw [List.length_set]; omega) (by omega) h
  rw [List.take_of_length_le (by rw [List.length_set]; omega), List.take_of_length_le (by omega)] at this
  apply hy
  have h2 : (l.set j y).getD j 0 = l.getD j 0 := congrArg (fun l => l.getD j 0) this
  rw [← h2]
  simp [List.getD, show j < l.length by omega]
theorem set_left {A B : List UInt8} {j : Nat} {y : UInt8} (h : j < A.length) : (A ++ B).set j y = A.set j y ++ B := List.set_append_left j y h
theorem set_right {A B : List UInt8} {j : Nat} {y : UInt8} (h : A.length ≤ j) : (A ++ B).set j y = A ++ B.set (j - A.length) y := List.set_append_right j y h
theorem getD_left {A B : List UInt8} {j : Nat} (h : j < A.length) : (A ++ B).getD j 0 = A.getD j 0 := by simp [List.getD, List.getElem?_append_left h]
theorem getD_right {A B : List UInt8} {j : Nat} (h : A.length ≤ j) : (A ++ B).getD j 0 = B.getD (j - A.length) 0 := by simp [List.getD, List.getElem?_append_right h]
/-- One byte turned anywhere is told by a sum. -/
theorem fd_turned {body : List UInt8} (hl : body.length ≤ 65536) {j : Nat} {y : UInt8} (hj : j < 12 + body.length) (hy : (frame body).getD j 0 ≠ y) : fd ((frame body).set j y) = (6, 0) := by
  have hn : word (put body.length) = body.length := word_put' (by omega)
  have p4 : ∀ n, (put n).length = 4 := fun _ => rfl
  unfold frame at hy ⊢
  by_cases h1 : j < 4
  · rw [getD_left (by rw [p4]; omega)] at hy
    rw [set_left (by rw [p4]; omega), fdABC _ (by rw [List.length_set]; rfl) rfl rfl, if_pos]
    rw [word_put' (sum_lt _)]
    exact sum_set (by rw [p4]; omega) hy
  · rw [getD_right (by rw [p4]; omega), p4] at hy
    rw [set_right (by rw [p4]; omega), p4]
    by_cases h2 : j < 8
    · rw [getD_left (by rw [p4]; omega)] at hy
      rw [set_left (by rw [p4]; omega), fdABC _ rfl (by rw [List.length_set]; rfl) rfl, if_pos]
      intro h
      apply word_set (p4 _) (by omega) hy
      rw [← h, word_put' (sum_lt _)]
    · rw [getD_right (by rw [p4]; omega), p4] at hy
      rw [set_right (by rw [p4]; omega), p4]
      by_cases h3 : j < 12
      · rw [getD_left (by rw [p4]; omega)] at hy
        rw [set_left (by rw [p4]; omega), fdABC _ rfl rfl (by rw [List.length_set]; rfl), if_neg (by rw [word_put' (sum_lt _)]; simp), hn, if_neg (by omega), if_neg (by omega), if_pos]
        intro h
        apply word_set (p4 _) (by omega) hy
        rw [← h, List.take_length, word_put' (sum_lt _)]
      · rw [getD_right (by rw [p4]; omega), p4] at hy
        rw [set_right (by rw [p4]; omega), p4, fdABC _ rfl rfl rfl, if_neg (by rw [word_put' (sum_lt _)]; simp), hn, if_neg (by omega), if_neg (by rw [List.length_set]; omega), if_pos]
        rw [List.take_of_length_le (by rw [List.length_set]; omega), word_put' (sum_lt _)]
        exact sum_set (by omega) hy
/-- A byte with one bit turned. -/
def flip (c : UInt8) (m : Nat) : UInt8 := UInt8.ofNat (c.toNat ^^^ 2 ^ m)
theorem flip_toNat (c : UInt8) {m : Nat} (h : m < 8) : (flip c m).toNat = c.toNat ^^^ 2 ^ m := by
  have h1 : 2 ^ m < 2 ^ 8 := Nat.pow_lt_pow_right (by omega) h
  have h2 : c.toNat ^^^ 2 ^ m < 2 ^ 8 := Nat.xor_lt_two_pow (u8_lt c) h1
  unfold flip
  simp only [UInt8.toNat_ofNat']
  omega
theorem flip_ne (c : UInt8) {m : Nat} (h : m < 8) : c ≠ flip c m := by
  intro e
  have h1 := congrArg UInt8.toNat e
  rw [flip_toNat c h] at h1
  have h2 : c.toNat ^^^ 0 = c.toNat ^^^ 2 ^ m := by rw [Nat.xor_zero]; exact h1
  have h3 := xor_cancel_l h2
  have := Nat.two_pow_pos m
  omega
end Go.Proofs.YthmedpabgblddabGreatDoor.Cp
