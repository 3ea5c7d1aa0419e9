/-
  The plain mathematics of layer octet: the bytes of a number ('enc'), what bytes are read as ('rd'), and that the two are each other's inverse. No Go text, no program.
-/
namespace Go.Proofs.YtcpmcfagibmboabGreat.Pl

/-- A number's bytes. -/
def enc (n : Nat) : List UInt8 := if h : n < 128 then [UInt8.ofNat n] else UInt8.ofNat (n % 128 + 128) :: enc (n / 128)
termination_by n
decreasing_by omega

theorem enc_lt {n : Nat} (h : n < 128) : enc n = [UInt8.ofNat n] := by rw [enc]; simp [h]
theorem enc_ge {n : Nat} (h : 128 ≤ n) : enc n = UInt8.ofNat (n % 128 + 128) :: enc (n / 128) := by
  rw [enc]; simp [show ¬ n < 128 by omega]

/-- The rounds that a read has left, the place, what was summed so far: the answer: number, size, error. -/
def rd (bs : List UInt8) : Nat → Nat → Nat → Nat × Nat × Nat
  | 0, _, _ => (0, 0, 5)
  | r + 1, i, n =>
    if i = bs.length then (0, 0, 4)
    else if 4611686018427387904 < n + (bs.getD i 0).toNat % 128 * 2 ^ (7 * i) ∨ ((bs.getD i 0).toNat = 0 ∧ 0 < i) then (0, 0, 5)
    else if (bs.getD i 0).toNat < 128 then (n + (bs.getD i 0).toNat % 128 * 2 ^ (7 * i), i + 1, 0)
    else rd bs r (i + 1) (n + (bs.getD i 0).toNat % 128 * 2 ^ (7 * i))

def readNum (bs : List UInt8) : Nat × Nat × Nat := rd bs 9 0 0

theorem toNat_ofNat {n : Nat} (h : n < 256) : (UInt8.ofNat n).toNat = n := by
  simp [UInt8.toNat_ofNat']; omega

theorem enc_len_pos (n : Nat) : 0 < (enc n).length := by
  rw [enc]; split <;> simp

theorem enc_len_le : ∀ (k n : Nat), n < 2 ^ (7 * k) → 0 < k → (enc n).length ≤ k
  | 0, _, _, hk => by omega
  | 1, n, h, _ => by rw [enc_lt (by simpa using h)]; simp
  | k + 2, n, h, _ => by
    by_cases h1 : n < 128
    · rw [enc_lt h1]; simp
    · rw [enc_ge (by omega)]
      have := enc_len_le (k + 1) (n / 128) (by
        rw [Nat.div_lt_iff_lt_mul (by omega)]
        have e : 2 ^ (7 * (k + 2)) = 2 ^ (7 * (k + 1)) * 128 := by rw [show 7 * (k + 2) = 7 * (k + 1) + 7 by omega, Nat.pow_add]
        omega) (by omega)
      simp; omega

theorem enc_len9 {n : Nat} (h : n ≤ 4611686018427387904) : (enc n).length ≤ 9 :=
  enc_len_le 9 n (by simp; omega) (by omega)

theorem getD_mid (pre : List UInt8) (c : UInt8) (rest : List UInt8) : (pre ++ c :: rest).getD pre.length 0 = c := by
  simp [List.getD]

/-- What is written is read, whatever stands ahead (already read) and behind. -/
theorem rd_enc : ∀ (r n i acc : Nat) (pre rest : List UInt8), pre.length = i → (enc n).length ≤ r → acc + n * 2 ^ (7 * i) ≤ 4611686018427387904 → (n = 0 → i = 0) →
    rd (pre ++ enc n ++ rest) r i acc = (acc + n * 2 ^ (7 * i), i + (enc n).length, 0)
  | 0, n, _, _, _, _, _, h, _, _ => by have := enc_len_pos n; omega
  | r + 1, n, i, acc, pre, rest, hp, hl, hb, hz => by
    have hpow : 0 < 2 ^ (7 * i) := Nat.pow_pos (by omega)
    by_cases h : n < 128
    · rw [enc_lt h, List.append_assoc, rd]
      simp only [List.singleton_append]
      have hg : (pre ++ UInt8.ofNat n :: rest).getD i 0 = UInt8.ofNat n := by rw [← hp]; exact getD_mid _ _ _
      rw [hg, toNat_ofNat (by omega), Nat.mod_eq_of_lt h]
      rw [if_neg (by simp; omega), if_neg (by rintro (h1 | ⟨h1, h2⟩) <;> omega), if_pos h]
      simp
    · have hge : 128 ≤ n := by omega
      have hlen : (enc (n / 128)).length ≤ r := by rw [enc_ge hge] at hl; simp at hl; omega
      rw [enc_ge hge]
      have hc : (UInt8.ofNat (n % 128 + 128)).toNat = n % 128 + 128 := toNat_ofNat (by omega)
      generalize hcc : UInt8.ofNat (n % 128 + 128) = c at *
      have e0 : pre ++ c :: enc (n / 128) ++ rest = (pre ++ [c]) ++ enc (n / 128) ++ rest := by simp
      have e1 : pre ++ c :: enc (n / 128) ++ rest = pre ++ c :: (enc (n / 128) ++ rest) := by simp
      have hg : (pre ++ c :: enc (n / 128) ++ rest).getD i 0 = c := by rw [e1, ← hp]; exact getD_mid _ _ _
      rw [rd, hg, hc]
      have hm : (n % 128 + 128) % 128 = n % 128 := by omega
      rw [hm]
      have e2 : 2 ^ (7 * (i + 1)) = 2 ^ (7 * i) * 128 := by rw [show 7 * (i + 1) = 7 * i + 7 by omega, Nat.pow_add]
      have hdm : n % 128 * 2 ^ (7 * i) + n / 128 * (2 ^ (7 * i) * 128) = n * 2 ^ (7 * i) := by
        have h3 := Nat.div_add_mod n 128
        have : (128 * (n / 128) + n % 128) * 2 ^ (7 * i) = n * 2 ^ (7 * i) := by rw [h3]
        rw [← this, Nat.add_mul, Nat.mul_comm 128 (n / 128), Nat.mul_assoc, Nat.mul_comm 128 (2 ^ (7 * i))]
        omega
      have hle : n % 128 * 2 ^ (7 * i) ≤ n * 2 ^ (7 * i) := by omega
      rw [if_neg (by simp; omega), if_neg (by rintro (h1 | ⟨h1, h2⟩) <;> omega), if_neg (by omega), e0]
      have := rd_enc r (n / 128) (i + 1) (acc + n % 128 * 2 ^ (7 * i)) (pre ++ [c]) rest (by simp [hp]) hlen (by rw [e2]; omega) (by omega)
      rw [this, e2]
      refine Prod.ext ?_ (Prod.ext ?_ rfl)
      · simp only; omega
      · simp; omega

theorem readNum_enc {n : Nat} (h : n ≤ 4611686018427387904) (rest : List UInt8) : readNum (enc n ++ rest) = (n, (enc n).length, 0) := by
  have := rd_enc 9 n 0 0 [] rest rfl (enc_len9 h) (by simpa using h) (by simp)
  simpa [readNum] using this

/-- Cut anywhere it is short. -/
theorem rd_cut : ∀ (r n i acc k : Nat) (pre : List UInt8), pre.length = i → k < (enc n).length → (enc n).length ≤ r → acc + n * 2 ^ (7 * i) ≤ 4611686018427387904 → (n = 0 → i = 0) →
    rd (pre ++ (enc n).take k) r i acc = (0, 0, 4)
  | 0, n, _, _, _, _, _, _, h, _, _ => by have := enc_len_pos n; omega
  | r + 1, n, i, acc, 0, pre, hp, _, _, _, _ => by
    rw [rd]; simp [hp]
  | r + 1, n, i, acc, k + 1, pre, hp, hk, hl, hb, hz => by
    have hpow : 0 < 2 ^ (7 * i) := Nat.pow_pos (by omega)
    have hge : 128 ≤ n := by
      by_cases h : n < 128
      · rw [enc_lt h] at hk; simp at hk
      · omega
    rw [enc_ge hge] at hk hl ⊢
    simp only [List.length_cons] at hk hl
    have hc : (UInt8.ofNat (n % 128 + 128)).toNat = n % 128 + 128 := toNat_ofNat (by omega)
    generalize hcc : UInt8.ofNat (n % 128 + 128) = c at *
    rw [List.take_succ_cons]
    have e0 : pre ++ c :: (enc (n / 128)).take k = (pre ++ [c]) ++ (enc (n / 128)).take k := by simp
    have hg : (pre ++ c :: (enc (n / 128)).take k).getD i 0 = c := by rw [← hp]; exact getD_mid _ _ _
    rw [rd, hg, hc]
    have hm : (n % 128 + 128) % 128 = n % 128 := by omega
    rw [hm]
    have e2 : 2 ^ (7 * (i + 1)) = 2 ^ (7 * i) * 128 := by rw [show 7 * (i + 1) = 7 * i + 7 by omega, Nat.pow_add]
    have hdm : n % 128 * 2 ^ (7 * i) + n / 128 * (2 ^ (7 * i) * 128) = n * 2 ^ (7 * i) := by
      have h3 := Nat.div_add_mod n 128
      have : (128 * (n / 128) + n % 128) * 2 ^ (7 * i) = n * 2 ^ (7 * i) := by rw [h3]
      rw [← this, Nat.add_mul, Nat.mul_comm 128 (n / 128), Nat.mul_assoc, Nat.mul_comm 128 (2 ^ (7 * i))]
      omega
    rw [if_neg (by simp; omega), if_neg (by rintro (h1 | ⟨h1, h2⟩) <;> omega), if_neg (by omega), e0]
    exact rd_cut r (n / 128) (i + 1) _ k (pre ++ [c]) (by simp [hp]) (by omega) (by omega) (by rw [e2]; omega) (by omega)

theorem readNum_cut {n k : Nat} (h : n ≤ 4611686018427387904) (hk : k < (enc n).length) : readNum ((enc n).take k) = (0, 0, 4) := by
  have := rd_cut 9 n 0 0 k [] rfl hk (enc_len9 h) (by simpa using h) (by simp)
  simpa [readNum] using this
end Go.Proofs.YtcpmcfagibmboabGreat.Pl
