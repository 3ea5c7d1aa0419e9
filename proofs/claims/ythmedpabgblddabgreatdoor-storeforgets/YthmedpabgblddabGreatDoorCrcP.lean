/-
  The sum of bytes (CRC-32) over plain numbers: bit by bit, by a table of sixteen words, and that one turned bit changes it. Frames over lists of bytes. Nothing of the program.
-/
import Derived.KernelRfl
namespace Go.Proofs.YthmedpabgblddabGreatDoor.Cp
set_option linter.unusedVariables false

/-- The word that is taken by exclusive or. -/
def poly : Nat := 0xedb88320
/-- One bit goes out. -/
def z (r : Nat) : Nat := (r / 2) ^^^ (if r % 2 = 1 then poly else 0)
def z4 (r : Nat) : Nat := z (z (z (z r)))
def z8 (r : Nat) : Nat := z4 (z4 r)
/-- One byte. -/
def byte (r : Nat) (x : UInt8) : Nat := z8 (r ^^^ x.toNat)
def run (r : Nat) (bs : List UInt8) : Nat := bs.foldl byte r
def sum (bs : List UInt8) : Nat := run 4294967295 bs ^^^ 4294967295

theorem poly_lt : poly < 2 ^ 32 := by decide
theorem xor_lt {a b : Nat} (h : a < 2 ^ 32) (k : b < 2 ^ 32) : a ^^^ b < 2 ^ 32 := Nat.xor_lt_two_pow h k
theorem z_lt {r : Nat} (h : r < 2 ^ 32) : z r < 2 ^ 32 := by
  unfold z
  refine xor_lt (by omega) ?_
  split
  · exact poly_lt
  · decide
theorem z4_lt {r : Nat} (h : r < 2 ^ 32) : z4 r < 2 ^ 32 := z_lt (z_lt (z_lt (z_lt h)))
theorem z8_lt {r : Nat} (h : r < 2 ^ 32) : z8 r < 2 ^ 32 := z4_lt (z4_lt h)
theorem u8_lt (x : UInt8) : x.toNat < 256 := x.toNat_lt
theorem byte_lt {r : Nat} (h : r < 2 ^ 32) (x : UInt8) : byte r x < 2 ^ 32 := z8_lt (xor_lt h (by have := u8_lt x; omega))
theorem run_lt {r : Nat} (h : r < 2 ^ 32) (bs : List UInt8) : run r bs < 2 ^ 32 := by
  induction bs generalizing r with
  | nil => exact h
  | cons x bs ih => exact ih (byte_lt h x)
theorem sum_lt (bs : List UInt8) : sum bs < 2 ^ 32 := xor_lt (run_lt (by decide) bs) (by decide)
theorem run_append (r : Nat) (a b : List UInt8) : run r (a ++ b) = run (run r a) b := by simp [run, List.foldl_append]
theorem run_cons (r : Nat) (x : UInt8) (b : List UInt8) : run r (x :: b) = run (byte r x) b := rfl

theorem xor_half (a b : Nat) : (a ^^^ b) / 2 = (a / 2) ^^^ (b / 2) := by
  have := @Nat.shiftRight_xor_distrib 1 a b
  simpa [Nat.shiftRight_succ] using this
theorem xor_odd (a b : Nat) : (a ^^^ b) % 2 = (a % 2 + b % 2) % 2 := by
  have h := Nat.xor_mod_two_pow (a := a) (b := b) (n := 1)
  simp only [Nat.pow_one] at h
  rw [h]
  rcases Nat.mod_two_eq_zero_or_one a with h1 | h1 <;> rcases Nat.mod_two_eq_zero_or_one b with h2 | h2 <;> rw [h1, h2] <;> decide
theorem z_xor (a b : Nat) : z (a ^^^ b) = z a ^^^ z b := by
  unfold z
  rw [xor_half, xor_odd]
  rcases Nat.mod_two_eq_zero_or_one a with h | h <;> rcases Nat.mod_two_eq_zero_or_one b with k | k <;> simp [h, k]
  · rw [Nat.xor_assoc]
  · rw [Nat.xor_assoc, Nat.xor_assoc, Nat.xor_comm poly]
  · rw [Nat.xor_assoc, ← Nat.xor_assoc poly, Nat.xor_comm poly, Nat.xor_assoc, Nat.xor_self, Nat.xor_zero]
theorem z4_xor (a b : Nat) : z4 (a ^^^ b) = z4 a ^^^ z4 b := by simp only [z4, z_xor]
theorem z_even (q : Nat) : z (2 * q) = q := by
  unfold z
  have h1 : 2 * q / 2 = q := by omega
  have h2 : 2 * q % 2 = 0 := by omega
  rw [h1, h2]; simp

/-- The table. -/
def tab : List Int := [0, 498536548, 997073096, 651767980, 1994146192, 1802195444, 1303535960, 1342533948, 3988292384, 4027552580, 3604390888, 3412177804, 2607071920, 2262029012, 2685067896, 3183342108]
theorem tab_z4 : ∀ j : Fin 16, tab.getD j.val 0 = ((z4 j.val : Nat) : Int) := by decide
theorem split16 (r : Nat) : r = (16 * (r / 16)) ^^^ (r % 16) := by
  have h := Nat.two_pow_add_eq_or_of_lt (i := 4) (b := r % 16) (by omega) (r / 16)
  have h2 : (2 ^ 4 * (r / 16)) ^^^ (r % 16) = (2 ^ 4 * (r / 16)) ||| (r % 16) := by
    apply Nat.eq_of_testBit_eq
    intro i
    simp only [Nat.testBit_xor, Nat.testBit_or]
    rcases Nat.lt_or_ge i 4 with hi | hi
    · have : (2 ^ 4 * (r / 16)).testBit i = false := by
        rw [Nat.testBit_two_pow_mul]; simp; omega
      rw [this]; simp
    · have : (r % 16).testBit i = false := by
        apply Nat.testBit_lt_two_pow
        have : 2 ^ 4 ≤ 2 ^ i := Nat.pow_le_pow_right (by decide) hi
        omega
      rw [this]; simp
  rw [show (16 : Nat) * (r / 16) = 2 ^ 4 * (r / 16) by rfl, h2, ← h]
  omega
theorem z4_16 (q : Nat) : z4 (16 * q) = q := by
  unfold z4
  rw [show 16 * q = 2 * (8 * q) by omega, z_even, show 8 * q = 2 * (4 * q) by omega, z_even, show 4 * q = 2 * (2 * q) by omega, z_even, z_even]
/-- Four bits at once, by the table. -/
theorem z4_tab (r : Nat) : z4 r = (r / 16) ^^^ (tab.getD (r % 16) 0).toNat := by
  have h := tab_z4 ⟨r % 16, by omega⟩
  simp only at h
  rw [h, Int.toNat_natCast]
  conv => lhs; rw [split16 r]
  rw [z4_xor, z4_16]

/-- The document's way, bit by bit: with the byte's bits k and up still to come. -/
def bit (r x k : Nat) : Nat := (r / 2) ^^^ (if (r ^^^ (x / 2 ^ k)) % 2 = 1 then poly else 0)
theorem bit_lt {r : Nat} (h : r < 2 ^ 32) (x k : Nat) : bit r x k < 2 ^ 32 := by
  unfold bit
  refine xor_lt (by omega) ?_
  split
  · exact poly_lt
  · decide
theorem bit_z (r x k : Nat) : bit r x k ^^^ (x / 2 ^ (k + 1)) = z (r ^^^ (x / 2 ^ k)) := by
  unfold bit z
  rw [xor_half, Nat.pow_succ, ← Nat.div_div_eq_div_mul, Nat.xor_assoc, Nat.xor_assoc]
  congr 1
  exact Nat.xor_comm _ _
def zs : Nat → Nat → Nat
  | 0, r => r
  | k + 1, r => z (zs k r)
def bits : Nat → Nat → Nat → Nat
  | 0, r, _ => r
  | k + 1, r, x => bit (bits k r x) x k
theorem bits_zs (k r x : Nat) : bits k r x ^^^ (x / 2 ^ k) = zs k (r ^^^ x) := by
  induction k with
  | zero => simp [bits, zs]
  | succ k ih => rw [bits, bit_z, ih, zs]
theorem bits_lt {r : Nat} (h : r < 2 ^ 32) (k x : Nat) : bits k r x < 2 ^ 32 := by
  cases k with
  | zero => exact h
  | succ k => exact bit_lt (bits_lt h k x) x k
theorem bits8 (r : Nat) (x : UInt8) : bits 8 r x.toNat = byte r x := by
  have h := bits_zs 8 r x.toNat
  have h0 : x.toNat / 2 ^ 8 = 0 := by have := u8_lt x; omega
  rw [h0, Nat.xor_zero] at h
  rw [h]; rfl

theorem xor_cancel_r {a b c : Nat} (h : a ^^^ c = b ^^^ c) : a = b := by
  have := congrArg (· ^^^ c) h
  simpa [Nat.xor_assoc] using this
/-- One turned bit. -/
theorem z_inj {a b : Nat} (ha : a < 2 ^ 32) (hb : b < 2 ^ 32) (h : z a = z b) : a = b := by
  unfold z at h
  have top : ∀ q : Nat, q < 2 ^ 31 → ∀ p : Nat, p < 2 ^ 31 → q ^^^ poly = p → False := by
    intro q hq p hp e
    have h1 : (q ^^^ poly).testBit 31 = true := by
      rw [Nat.testBit_xor, Nat.testBit_lt_two_pow hq]; decide
    rw [e, Nat.testBit_lt_two_pow hp] at h1
    cases h1
  rcases Nat.mod_two_eq_zero_or_one a with ha2 | ha2 <;> rcases Nat.mod_two_eq_zero_or_one b with hb2 | hb2 <;> simp [ha2, hb2] at h
  · omega
  · exact (top (b / 2) (by omega) (a / 2) (by omega) h.symm).elim
  · exact (top (a / 2) (by omega) (b / 2) (by omega) h).elim
  · have := xor_cancel_r h; omega
theorem z4_inj {a b : Nat} (ha : a < 2 ^ 32) (hb : b < 2 ^ 32) (h : z4 a = z4 b) : a = b :=
  z_inj ha hb (z_inj (z_lt ha) (z_lt hb) (z_inj (z_lt (z_lt ha)) (z_lt (z_lt hb)) (z_inj (z_lt (z_lt (z_lt ha))) (z_lt (z_lt (z_lt hb))) h)))
theorem z8_inj {a b : Nat} (ha : a < 2 ^ 32) (hb : b < 2 ^ 32) (h : z8 a = z8 b) : a = b := z4_inj ha hb (z4_inj (z4_lt ha) (z4_lt hb) h)
theorem xor_cancel_l {a b c : Nat} (h : c ^^^ a = c ^^^ b) : a = b := by
  rw [Nat.xor_comm c a, Nat.xor_comm c b] at h
  exact xor_cancel_r h
theorem byte_inj_r {a b : Nat} (ha : a < 2 ^ 32) (hb : b < 2 ^ 32) (x : UInt8) (h : byte a x = byte b x) : a = b := by
  have hx := u8_lt x
  exact xor_cancel_r (z8_inj (xor_lt ha (by omega)) (xor_lt hb (by omega)) h)
theorem byte_inj_x {a : Nat} (ha : a < 2 ^ 32) (x y : UInt8) (h : byte a x = byte a y) : x = y := by
  have hx := u8_lt x
  have hy := u8_lt y
  exact UInt8.toNat_inj.1 (xor_cancel_l (z8_inj (xor_lt ha (by omega)) (xor_lt ha (by omega)) h))
theorem run_inj {a b : Nat} (ha : a < 2 ^ 32) (hb : b < 2 ^ 32) (bs : List UInt8) (h : run a bs = run b bs) : a = b := by
  induction bs generalizing a b with
  | nil => exact h
  | cons x bs ih => exact byte_inj_r ha hb x (ih (byte_lt ha x) (byte_lt hb x) h)
/-- Two lists of bytes that differ at one place have two sums. -/
theorem sum_one (p q : List UInt8) (x y : UInt8) (hne : x ≠ y) : sum (p ++ x :: q) ≠ sum (p ++ y :: q) := by
  intro h
  have h1 := xor_cancel_r h
  rw [run_append, run_append, run_cons, run_cons] at h1
  have hp := run_lt (r := 4294967295) (by decide) p
  exact hne (byte_inj_x hp x y (run_inj (byte_lt hp x) (byte_lt hp y) q h1))

/-- A number's four bytes, the lowest first. -/
def put (n : Nat) : List UInt8 := [UInt8.ofNat (n % 256), UInt8.ofNat (n / 256 % 256), UInt8.ofNat (n / 65536 % 256), UInt8.ofNat (n / 16777216 % 256)]
theorem put_len (n : Nat) : (put n).length = 4 := rfl
/-- The number that four bytes are. -/
def word (b : List UInt8) : Nat := (b.getD 0 0).toNat + (b.getD 1 0).toNat * 256 + (b.getD 2 0).toNat * 65536 + (b.getD 3 0).toNat * 16777216
theorem ofNat_mod (n : Nat) : (UInt8.ofNat (n % 256)).toNat = n % 256 := by simp [UInt8.toNat_ofNat']
theorem word_lt (b : List UInt8) : word b < 2 ^ 32 := by
  unfold word
  have h0 := u8_lt (b.getD 0 0)
  have h1 := u8_lt (b.getD 1 0)
  have h2 := u8_lt (b.getD 2 0)
  have h3 := u8_lt (b.getD 3 0)
  omega
theorem word_put {n : Nat} (h : n < 2 ^ 32) (r : List UInt8) : word (put n ++ r) = n := by
  simp only [word, put, List.cons_append, List.nil_append, List.getD_cons_zero, List.getD_cons_succ, ofNat_mod]
  omega
set_option maxRecDepth 20000 in
theorem put_word (a b c d : UInt8) (r : List UInt8) : put (word (a :: b :: c :: d :: r)) = [a, b, c, d] := by
  have h0 := u8_lt a
  have h1 := u8_lt b
  have h2 := u8_lt c
  have h3 := u8_lt d
  simp only [put, word, List.getD_cons_zero, List.getD_cons_succ]
  have e : ∀ (x : UInt8) (n : Nat), n = x.toNat → UInt8.ofNat n = x := by intro x n h; subst h; simp
  rw [e a _ (by omega), e b _ (by omega), e c _ (by omega), e d _ (by omega)]
theorem four {b : List UInt8} (hb : 4 ≤ b.length) : ∃ b0 b1 b2 b3 br, b = b0 :: b1 :: b2 :: b3 :: br := by
  rcases b with _ | ⟨b0, _ | ⟨b1, _ | ⟨b2, _ | ⟨b3, br⟩⟩⟩⟩
  · simp at hb
  · simp at hb
  · simp at hb
  · simp at hb
  · exact ⟨b0, b1, b2, b3, br, rfl⟩
theorem take4 (a b c d : UInt8) (r : List UInt8) : (a :: b :: c :: d :: r).take 4 = [a, b, c, d] := rfl
theorem word_inj {b c : List UInt8} (hb : 4 ≤ b.length) (hc : 4 ≤ c.length) (h : word b = word c) : b.take 4 = c.take 4 := by
  obtain ⟨b0, b1, b2, b3, br, rfl⟩ := four hb
  obtain ⟨c0, c1, c2, c3, cr, rfl⟩ := four hc
  have h1 := put_word b0 b1 b2 b3 br
  rw [h, put_word] at h1
  rw [take4, take4]
  exact h1.symm
theorem word_take (b : List UInt8) (k : Nat) (h : 4 ≤ k) : word (b.take k) = word b := by
  unfold word
  have e : ∀ i, i < 4 → (b.take k).getD i 0 = b.getD i 0 := by
    intro i hi
    simp [List.getD, show i < k by omega]
  rw [e 0 (by omega), e 1 (by omega), e 2 (by omega), e 3 (by omega)]

/-- A body's frame. -/
def frame (body : List UInt8) : List UInt8 := put body.length ++ (put (sum (put body.length)) ++ (put (sum body) ++ body))
theorem frame_len (body : List UInt8) : (frame body).length = 12 + body.length := by simp [frame, put_len]; omega

/-- What stands at the beginning of bytes: an error and 0, or 0 and the body's length. -/
def fd (r : List UInt8) : Nat × Nat :=
  if r.length < 12 then (4, 0) else
  if sum (r.take 4) ≠ word (r.drop 4) then (6, 0) else
  if 65536 < word r then (3, 0) else
  if r.length < 12 + word r then (4, 0) else
  if sum ((r.drop 12).take (word r)) ≠ word (r.drop 8) then (6, 0) else (0, word r)
theorem fd_short {r : List UInt8} (h : r.length < 12) : fd r = (4, 0) := by simp [fd, h]
theorem fd_sum1 {r : List UInt8} (h : 12 ≤ r.length) (h1 : sum (r.take 4) ≠ word (r.drop 4)) : fd r = (6, 0) := by
  simp only [fd, if_neg (show ¬ r.length < 12 by omega), if_pos h1]
theorem fd_long {r : List UInt8} (h : 12 ≤ r.length) (h1 : sum (r.take 4) = word (r.drop 4)) (h2 : 65536 < word r) : fd r = (3, 0) := by
  simp only [fd, if_neg (show ¬ r.length < 12 by omega), if_neg (show ¬ (sum (r.take 4) ≠ word (r.drop 4)) from fun k => k h1), if_pos h2]
theorem fd_cut {r : List UInt8} (h : 12 ≤ r.length) (h1 : sum (r.take 4) = word (r.drop 4)) (h2 : word r ≤ 65536) (h3 : r.length < 12 + word r) : fd r = (4, 0) := by
  simp only [fd, if_neg (show ¬ r.length < 12 by omega), if_neg (show ¬ (sum (r.take 4) ≠ word (r.drop 4)) from fun k => k h1), if_neg (show ¬ 65536 < word r by omega), if_pos h3]
theorem fd_sum2 {r : List UInt8} (h : 12 ≤ r.length) (h1 : sum (r.take 4) = word (r.drop 4)) (h2 : word r ≤ 65536) (h3 : 12 + word r ≤ r.length) (h4 : sum ((r.drop 12).take (word r)) ≠ word (r.drop 8)) : fd r = (6, 0) := by
  simp only [fd, if_neg (show ¬ r.length < 12 by omega), if_neg (show ¬ (sum (r.take 4) ≠ word (r.drop 4)) from fun k => k h1), if_neg (show ¬ 65536 < word r by omega), if_neg (show ¬ r.length < 12 + word r by omega), if_pos h4]
theorem fd_ok {r : List UInt8} (h : 12 ≤ r.length) (h1 : sum (r.take 4) = word (r.drop 4)) (h2 : word r ≤ 65536) (h3 : 12 + word r ≤ r.length) (h4 : sum ((r.drop 12).take (word r)) = word (r.drop 8)) : fd r = (0, word r) := by
  simp only [fd, if_neg (show ¬ r.length < 12 by omega), if_neg (show ¬ (sum (r.take 4) ≠ word (r.drop 4)) from fun k => k h1), if_neg (show ¬ 65536 < word r by omega), if_neg (show ¬ r.length < 12 + word r by omega), if_neg (show ¬ (sum ((r.drop 12).take (word r)) ≠ word (r.drop 8)) from fun k => k h4)]
/-- Where it is told, it has a length. -/
theorem fd_some {r : List UInt8} (h : (fd r).1 = 0) : 12 + (fd r).2 ≤ r.length ∧ (fd r).2 ≤ 65536 := by
  by_cases h0 : r.length < 12
  · rw [fd_short h0] at h; cases h
  by_cases h1 : sum (r.take 4) = word (r.drop 4)
  · by_cases h2 : 65536 < word r
    · rw [fd_long (by omega) h1 h2] at h; cases h
    by_cases h3 : r.length < 12 + word r
    · rw [fd_cut (by omega) h1 (by omega) h3] at h; cases h
    by_cases h4 : sum ((r.drop 12).take (word r)) = word (r.drop 8)
    · rw [fd_ok (by omega) h1 (by omega) (by omega) h4]; simp only; omega
    · rw [fd_sum2 (by omega) h1 (by omega) (by omega) h4] at h; cases h
  · rw [fd_sum1 (by omega) h1] at h; cases h
end Go.Proofs.YthmedpabgblddabGreatDoor.Cp
