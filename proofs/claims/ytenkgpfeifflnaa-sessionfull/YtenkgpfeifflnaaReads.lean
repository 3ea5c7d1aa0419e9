/-
  The contracts of the functions that read numbers: ReadNum; and of 'few'.
-/
import Derived.Test.YtenkgpfeifflnaaRows
import Derived.Test.YtenkgpfeifflnaaPlain
import Derived.Test.YtenkgpfeifflnaaKit
namespace Go.Proofs.Ytenkgpfeifflnaa.Rd
open Go.RowKit Kt Pl
set_option linter.unusedVariables false

/-- The answer of a read, as the call hands it back. -/
def ans (r : Nat × Nat × Nat) : Ending := .returned (.tuple #[.int .i64 (r.1 : Int), .int .i64 (r.2.1 : Int), .int .i64 (r.2.2 : Int)])

/-- What the byte c at place k adds. -/
def dg (c k : Nat) : Nat := c % 128 * 2 ^ (7 * k)

theorem dg_int (c k : Nat) : ((c : Int) % 128 * 2 ^ (k * 7)) = ((dg c k : Nat) : Int) := by
  unfold dg; rw [Nat.mul_comm 7 k]; push_cast; rfl

theorem pow_le9 {k : Nat} (h : k ≤ 8) : 2 ^ (7 * k) ≤ 72057594037927936 :=
  Nat.le_trans (Nat.pow_le_pow_right (by omega) (show 7 * k ≤ 56 by omega)) (by decide)

theorem dg_bd {c k q : Nat} (hk : k < 9) (hq : q < 2 ^ (7 * k)) : q + dg c k < 2 ^ (7 * (k + 1)) ∧ q + dg c k ≤ 9223372036854775807 := by
  have h1 := pow_le9 (k := k) (by omega)
  have e2 : 2 ^ (7 * (k + 1)) = 2 ^ (7 * k) * 128 := by rw [show 7 * (k + 1) = 7 * k + 7 by omega, Nat.pow_add]
  have h2 : dg c k ≤ 127 * 2 ^ (7 * k) := Nat.mul_le_mul_right _ (by omega)
  rw [e2]; omega

section
variable {bs : List UInt8} {k q c : Nat}
theorem rd_step (hk : k < 9) : rd bs (9 - k) k q = if k = bs.length then (0, 0, 4)
    else if 4611686018427387904 < q + dg (bs.getD k 0).toNat k ∨ ((bs.getD k 0).toNat = 0 ∧ 0 < k) then (0, 0, 5)
    else if (bs.getD k 0).toNat < 128 then (q + dg (bs.getD k 0).toNat k, k + 1, 0)
    else rd bs (9 - (k + 1)) (k + 1) (q + dg (bs.getD k 0).toNat k) := by
  rw [show 9 - k = (9 - (k + 1)) + 1 by omega, rd]; rfl
theorem rd_last : rd bs (9 - 9) 9 q = (0, 0, 5) := rfl
theorem rd_short (hk : bs.length < 9) : rd bs (9 - bs.length) bs.length q = (0, 0, 4) := by rw [rd_step hk, if_pos rfl]
theorem rd_form (hk : k < 9) (hl : k < bs.length) (hc : (bs.getD k 0).toNat = c) (h : 4611686018427387904 < q + dg c k ∨ (c = 0 ∧ 0 < k)) : rd bs (9 - k) k q = (0, 0, 5) := by
  rw [rd_step hk, if_neg (by omega), hc, if_pos h]
theorem rd_ok (hk : k < 9) (hl : k < bs.length) (hc : (bs.getD k 0).toNat = c) (h : ¬ (4611686018427387904 < q + dg c k ∨ (c = 0 ∧ 0 < k))) (h2 : c < 128) : rd bs (9 - k) k q = (q + dg c k, k + 1, 0) := by
  rw [rd_step hk, if_neg (by omega), hc, if_neg h, if_pos h2]
theorem rd_next (hk : k < 9) (hl : k < bs.length) (hc : (bs.getD k 0).toNat = c) (h : ¬ (4611686018427387904 < q + dg c k ∨ (c = 0 ∧ 0 < k))) (h2 : 128 ≤ c) : rd bs (9 - k) k q = rd bs (9 - (k + 1)) (k + 1) (q + dg c k) := by
  rw [rd_step hk, if_neg (by omega), hc, if_neg h, if_neg (by omega)]
end

theorem ans_mk {r : Nat × Nat × Nat} {a b c : Int} (h1 : a = r.1) (h2 : b = r.2.1) (h3 : c = r.2.2) : Ending.returned (.tuple #[.int .i64 a, .int .i64 b, .int .i64 c]) = ans r := by
  subst h1 h2 h3; rfl
end Go.Proofs.Ytenkgpfeifflnaa.Rd
