/-
  The contracts of the functions that read numbers: ReadNum; and of 'few'.
-/
import Derived.Test.YtcpmcfagibmboabGreatRows
import Derived.Test.YtcpmcfagibmboabGreatPlain
import Derived.Test.YtcpmcfagibmboabGreatKit
namespace Go.Proofs.YtcpmcfagibmboabGreat.Rd
open Go.RowKit Kt Pl
set_option linter.unusedVariables false

/-- The answer of a read, as the call hands it back. -/
def ans (r : Nat × Nat × Nat) : Ending := .returned (.tuple #[.int .i64 (r.1 : Int), .int .i64 (r.2.1 : Int), .int .i64 (r.2.2 : Int)])

/-- What the byte c at place k adds. -/
def dg (c k : Nat) : Nat := c % 128 * 2 ^ (7 * k)

theorem dg_int (c k : Nat) : ((c : Int) % 128 * 2 ^ (k * 7)) = ((dg c k : Nat) : Int) := by
  unfold dg; rw [Nat.mul_comm 7 k]; push_cast; rfl

theorem pow_le9 {k : Nat} (h : k ≤ 8) : 2 ^ (7 * k) ≤ 72057594037927936 :=
  Nat.le_trans (Nat.pow_le_pow_right (by omega) (show 7 * k ≤ 56 by omega)) (by decide)

theorem dg_bd {c k q : Nat} (hk : k < 9) (hq : q < 2 ^ (7 * k)) : q + dg c k < 2 ^ (7 * (k + 1)) ∧ q + dg c k ≤ 9223372036854775807 := by
  have h1 := pow_le9 (k := k) (by omega)
  have e2 : 2 ^ (7 * (k + 1)) = 2 ^ (7 * k) * 128 := by rw [show 7 * (k + 1) = 7 * k + 7 by omega, Nat.pow_add]
  have h2 : dg c k ≤ 127 * 2 ^ (7 * k) := Nat.mul_le_mul_right _ (by omega)
  rw [e2]; omega

section
variable {bs : List UInt8} {k q c : Nat}
theorem rd_step (hk : k < 9) : rd bs (9 - k) k q = if k = bs.length then (0, 0, 4)
    else if 4611686018427387904 < q + dg (bs.getD k 0).toNat k ∨ ((bs.getD k 0).toNat = 0 ∧ 0 < k) then (0, 0, 5)
    else if (bs.getD k 0).toNat < 128 then (q + dg (bs.getD k 0).toNat k, k + 1, 0)
    else rd bs (9 - (k + 1)) (k + 1) (q + dg (bs.getD k 0).toNat k) := by
  rw [show 9 - k = (9 - (k + 1)) + 1 by omega, rd]; rfl
theorem rd_last : rd bs (9 - 9) 9 q = (0, 0, 5) := rfl
theorem rd_short (hk : bs.length < 9) : rd bs (9 - bs.length) bs.length q = (0, 0, 4) := by rw [rd_step hk, if_pos rfl]
theorem rd_form (hk : k < 9) (hl : k < bs.length) (hc : (bs.getD k 0).toNat = c) (h : 4611686018427387904 < q + dg c k ∨ (c = 0 ∧ 0 < k)) : rd bs (9 - k) k q = (0, 0, 5) := by
  rw [rd_step hk, if_neg (by omega), hc, if_pos h]
theorem rd_ok (hk : k < 9) (hl : k < bs.length) (hc : (bs.getD k 0).toNat = c) (h : ¬ (4611686018427387904 < q + dg c k ∨ (c = 0 ∧ 0 < k))) (h2 : c < 128) : rd bs (9 - k) k q = (q + dg c k, k + 1, 0) := by
  rw [rd_step hk, if_neg (by omega), hc, if_neg h, if_pos h2]
theorem rd_next (hk : k < 9) (hl : k < bs.length) (hc : (bs.getD k 0).toNat = c) (h : ¬ (4611686018427387904 < q + dg c k ∨ (c = 0 ∧ 0 < k))) (h2 : 128 ≤ c) : rd bs (9 - k) k q = rd bs (9 - (k + 1)) (k + 1) (q + dg c k) := by
  rw [rd_step hk, if_neg (by omega), hc, if_neg h, if_neg (by omega)]
end

theorem ans_mk {r : Nat × Nat × Nat} {a b c : Int} (h1 : a = r.1) (h2 : b = r.2.1) (h3 : c = r.2.2) : Ending.returned (.tuple #[.int .i64 a, .int .i64 b, .int .i64 c]) = ans r := by
  subst h1 h2 h3; rfl

set_option maxHeartbeats 1000000 in
set_option maxRecDepth 20000 in
theorem readNum_any (w : World) (ao : Option Addr) (cap : Nat) (bs : List UInt8) (hr : Row w ao bs) (hlen : bs.length ≤ 1000000000) :
    Calls Tryz.prog 80 #[.slice ao bs.length cap] w fun e w' => e = ans (readNum bs) ∧ w' = w := by
  go_enter Tryz.func80, Tryz.ntmps80
  go_wp2
  go_loop [2, 5, 6] (fun n i0 i => ∃ (k q : Nat), k ≤ 9 ∧ k ≤ bs.length ∧ i = .int .i64 k ∧ n = .int .i64 q ∧ Hid (q < 2 ^ (7 * k)) ∧ Hid (rd bs (9 - k) k q = readNum bs)) (fun _ _ i => 9 - (intOf i).toNat)
  case atStart => exact ⟨0, 0, by omega, by omega, rfl, rfl, by simp [Hid], by simp [Hid, readNum]⟩
  case round =>
    obtain ⟨k, q, hk, hkl, rfl, rfl, hq, hrd⟩ := hrel
    by_cases h9 : k = 9
    · subst h9
      have HE : Hid (readNum bs = (0, 0, 5)) := hrd.out.symm.trans rd_last
      clear hrd hq
      go_wp2
      go_ret3
      exact ⟨by rw [HE.out]; rfl, rfl⟩
    · have hk9 : k < 9 := by omega
      by_cases hs : k = bs.length
      · have HE : Hid (readNum bs = (0, 0, 4)) := by rw [← hrd.out, hs]; exact rd_short (by omega)
        have t0 : ((k : Int) == (bs.length : Int)) = true := by simp [hs]
        clear hrd hq hs h9
        go_wp2
        go_ret3
        exact ⟨by rw [HE.out]; rfl, rfl⟩
      · have hl : k < bs.length := by omega
        obtain ⟨b, off, rfl, hc⟩ := hr (by omega)
        obtain ⟨c, hcc⟩ : ∃ c, (bs.getD k 0).toNat = c := ⟨_, rfl⟩
        have hck : w.cell? ⟨b, off + k, none⟩ = some (.int .u8 (c : Int)) := by rw [hc k hl, hcc]
        have hc256 : c < 256 := by rw [← hcc]; exact UInt8.toNat_lt _
        have hbd := dg_bd (c := c) hk9 hq.out
        have hdi := dg_int c k
        have t0 : ((k : Int) == (bs.length : Int)) = false := by simp; omega
        have HB : Hid (q + dg c k < 2 ^ (7 * (k + 1))) := hbd.1
        have b1 : (q : Int) + (c : Int) % 128 * 2 ^ (k * 7) ≤ 9223372036854775807 := by rw [hdi]; have := hbd.2; omega
        have b0 : 0 ≤ (c : Int) % 128 * 2 ^ (k * 7) := by rw [hdi]; omega
        have HC : Hid ((bs.getD k 0).toNat = c) := hcc
        have HD : Hid ((c : Int) % 128 * 2 ^ (k * 7) = ((dg c k : Nat) : Int)) := hdi
        clear hcc hbd hdi hr hc h9 hs
        by_cases h1 : 4611686018427387904 < q + dg c k ∨ (c = 0 ∧ 0 < k)
        · have HE : Hid (readNum bs = (0, 0, 5)) := by rw [← hrd.out]; exact rd_form hk9 hl HC.out h1
          clear hrd
          by_cases hbig : 4611686018427387904 < q + dg c k
          · have t1 : decide ((4611686018427387904 : Int) < (q : Int) + (c : Int) % 128 * 2 ^ (k * 7)) = true := by rw [HD.out]; simp; omega
            clear h1 hbig
            go_wp2
            go_ret3
            exact ⟨by rw [HE.out]; rfl, rfl⟩
          · have t1 : decide ((4611686018427387904 : Int) < (q : Int) + (c : Int) % 128 * 2 ^ (k * 7)) = false := by rw [HD.out]; simp; omega
            have t2 : ((c : Int) == 0) = true := by simp; omega
            have t3 : 0 < k := by omega
            clear h1 hbig
            go_wp2
            go_ret3
            exact ⟨by rw [HE.out]; rfl, rfl⟩
        · have t1 : decide ((4611686018427387904 : Int) < (q : Int) + (c : Int) % 128 * 2 ^ (k * 7)) = false := by rw [HD.out]; simp; omega
          have hz : (((c : Int) == 0) = true ∧ ¬ 0 < k) ∨ ((c : Int) == 0) = false := by
            by_cases hc0 : c = 0
            · left; exact ⟨by simp; omega, by omega⟩
            · right; simp; omega
          by_cases h2 : c < 128
          · have HE : Hid (readNum bs = (q + dg c k, k + 1, 0)) := by rw [← hrd.out]; exact rd_ok hk9 hl HC.out h1 h2
            clear h1 hrd
            rcases hz with ⟨t2, t3⟩ | t2
            all_goals
              go_wp2
              go_ret3
              exact ⟨ans_mk (by rw [HE.out, HD.out]; simp) (by rw [HE.out]; simp) (by rw [HE.out]; rfl), rfl⟩
          · have HE : Hid (rd bs (9 - (k + 1)) (k + 1) (q + dg c k) = readNum bs) := by rw [← hrd.out]; exact (rd_next hk9 hl HC.out h1 (by omega)).symm
            clear h1 hrd
            rcases hz with ⟨t2, t3⟩ | t2
            · exfalso; simp at t2; omega
            · go_wp2
              go_round
              case rel => exact ⟨k + 1, q + dg c k, by omega, by omega, by go_num, by rw [HD.out]; go_num, HB, HE⟩
              case measure => simp [intOf]; omega
end Go.Proofs.YtcpmcfagibmboabGreat.Rd
