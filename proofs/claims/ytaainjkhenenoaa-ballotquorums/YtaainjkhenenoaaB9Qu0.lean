/-
  BallotQuorums: the walk.
-/
import Derived.Test.YtaainjkhenenoaaB9W
import Derived.Laws.BitsAllLaws
import Derived.Laws.ShiftsVarLaws
namespace Go.Proofs.Ytaainjkhenenoaa.Bqu
open Go.RowKit Kt Dk Bp Bm Br Bs Bg Bn Bw Go.Maps
set_option linter.unusedVariables false
set_option maxRecDepth 20000

set_option maxHeartbeats 4000000 in
theorem quorums_walk (w : World) (n a b : Int) (hn1 : -9223372036854775808 ≤ n) (hn2 : n ≤ 9223372036854775807) (ha0 : 0 ≤ a) (ha : a ≤ 255) (hb0 : 0 ≤ b) (hb : b ≤ 255) :
    Calls Try.prog 8 #[.int .i64 n, .int .u8 a, .int .u8 b] w fun e w' => e = .returned (.bool true) ∧ Below w.heap.size w w' := by
  have hr : -4 ≤ n.tmod 5 ∧ n.tmod 5 ≤ 4 := by
    rcases Int.le_total 0 n with h | h
    · have := Int.tmod_nonneg 5 h
      have := Int.tmod_lt_of_pos n (show (0 : Int) < 5 by decide)
      omega
    · have h1 := Int.tmod_nonneg 5 (show 0 ≤ -n by omega)
      have h2 := Int.tmod_lt_of_pos (-n) (show (0 : Int) < 5 by decide)
      rw [Int.neg_tmod] at h1 h2
      omega
  obtain ⟨r, hr1⟩ : ∃ r, n.tmod 5 = r := ⟨_, rfl⟩
  rw [hr1] at hr
  have e1 : wrap64 (r + 5) = r + 5 := by unfold wrap64; omega
  have hr2 : (r + 5).tmod 5 = (r + 5) % 5 := by rw [Int.tmod_eq_emod_of_nonneg (by omega)]
  obtain ⟨m, hm, hm1, hm5⟩ : ∃ m : Nat, wrap64 (1 + (wrap64 (n.tmod 5 + 5)).tmod 5) = (m : Int) ∧ 1 ≤ m ∧ m ≤ 5 := by
    rw [hr1, e1, hr2]
    refine ⟨(1 + (r + 5) % 5).toNat, ?_, by omega, by omega⟩
    unfold wrap64
    omega
  clear hr1 hr e1 hr2
  go_enter Try.func8, Try.ntmps8
  go_wp2_with fail
  rw [hm]
  clear hm
  refine (quorum_any w m (by omega)).mono ?_
  rintro e w1 ⟨rfl, hw⟩
  have hw := hw.symm
  subst hw
  obtain ⟨q, hq, hq2⟩ : ∃ q : Nat, quo (m : Int) = (q : Int) ∧ q = m / 2 + 1 := ⟨m / 2 + 1, by unfold quo; rw [if_neg (by omega)]; omega, rfl⟩
  have hq3 : q ≤ m := by omega
  have hq4 : 2 * q ≤ m + 2 := by omega
  have hq5 : m < 2 * q := by omega
  have hq6 : 1 ≤ q := by omega
  rw [hq]
  clear hq hq2
  go_wp2_with fail
  go_loopw [8, 9, 10, 20] (fun x y z i wr => ∃ (X Y Z j : Nat), x = .int .i64 (X : Int) ∧ y = .int .i64 (Y : Int) ∧ z = .int .i64 (Z : Int) ∧ i = .int .i64 (j : Int) ∧ j ≤ m ∧ X ≤ j ∧ Y ≤ j ∧ Z ≤ j ∧ X + Y ≤ j + Z ∧ wr = w) (fun _ _ _ i _ => m - (intOf i).toNat)
  case atStart => exact ⟨0, 0, 0, 0, rfl, rfl, rfl, rfl, by omega, by omega, by omega, by omega, by omega, rfl⟩
  case round =>
    obtain ⟨X, Y, Z, j, rfl, rfl, rfl, rfl, hj, h1, h2, h3, h4, rfl⟩ := hrel
    rcases Nat.lt_or_ge j m with hjl | hjl
    · go_wp2
      all_goals refine ⟨?_, by simp [intOf]; omega⟩
      all_goals first
        | exact ⟨X + 1, Y + 1, Z + 1, j + 1, rfl, rfl, rfl, rfl, by omega, by omega, by omega, by omega, by omega, trivial⟩
        | exact ⟨X + 1, Y, Z, j + 1, rfl, rfl, rfl, rfl, by omega, by omega, by omega, by omega, by omega, trivial⟩
        | exact ⟨X, Y + 1, Z, j + 1, rfl, rfl, rfl, rfl, by omega, by omega, by omega, by omega, by omega, trivial⟩
        | exact ⟨X, Y, Z, j + 1, rfl, rfl, rfl, rfl, by omega, by omega, by omega, by omega, by omega, trivial⟩
    · have hje : j = m := by omega
      subst hje
      have hc : (X : Int) < (q : Int) ∨ (¬ (X : Int) < (q : Int) ∧ (Y : Int) < (q : Int)) ∨ (¬ (X : Int) < (q : Int) ∧ ¬ (Y : Int) < (q : Int) ∧ 0 < Z) := by omega
      rcases hc with h5 | ⟨h5, h6⟩ | ⟨h5, h6, h7⟩
      all_goals go_wp2_with fail
      all_goals refine (works_any _).mono ?_
      all_goals rintro e w1 ⟨rfl, hb1⟩
      all_goals go_wp2
      all_goals go_ret
      all_goals exact ⟨rfl, hb1⟩
end Go.Proofs.Ytaainjkhenenoaa.Bqu
