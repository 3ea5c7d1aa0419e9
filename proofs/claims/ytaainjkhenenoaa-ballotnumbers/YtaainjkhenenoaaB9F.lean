/-
  The document's ballots and quorums.
-/
import Derived.Test.YtaainjkhenenoaaB9N
namespace Go.Proofs.Ytaainjkhenenoaa.Bf
open Go.RowKit Kt Bn
set_option linter.unusedVariables false
set_option maxRecDepth 20000

theorem rmake_any (w : World) (r n : Int) : Calls Try.prog 10 #[.int .i64 r, .int .i64 n] w fun e w' => e = .returned (.tuple #[.int .i64 (mkV r n), .int .i64 (mkE r n)]) ∧ w' = w := by
  have hno : ¬ (1 ≤ r ∧ r ≤ 68719476736 ∧ 0 ≤ n ∧ n < 5) → 0 = mkV r n ∧ 2 = mkE r n := fun h => ⟨(if_neg h).symm, (if_neg h).symm⟩
  have hyes : (1 ≤ r ∧ r ≤ 68719476736 ∧ 0 ≤ n ∧ n < 5) → 8 * r + n = mkV r n ∧ 0 = mkE r n := fun h => ⟨(if_pos h).symm, (if_pos h).symm⟩
  have HNO := mkH hno
  have HYES := mkH hyes
  clear hno hyes
  go_enter Try.func10, Try.ntmps10
  by_cases h1 : r < 1
  · go_wp2
    go_ret2
    have := HNO.out (by omega)
    exact ⟨ret2 this.1 this.2, rfl⟩
  · by_cases h2 : 68719476736 < r
    · go_wp2
      go_ret2
      have := HNO.out (by omega)
      exact ⟨ret2 this.1 this.2, rfl⟩
    · by_cases h3 : n < 0
      · go_wp2
        go_ret2
        have := HNO.out (by omega)
        exact ⟨ret2 this.1 this.2, rfl⟩
      · by_cases h4 : 4 < n
        · go_wp2
          go_ret2
          have := HNO.out (by omega)
          exact ⟨ret2 this.1 this.2, rfl⟩
        · go_wp2
          go_ret2
          have := HYES.out (by omega)
          exact ⟨ret2 this.1 this.2, rfl⟩

theorem ris_any (w : World) (b : Int) (hb : b ≤ 9223372036854775807) : Calls Try.prog 32 #[.int .i64 b] w fun e w' => e = .returned (.bool (isB b)) ∧ w' = w := by
  have HNO : Hid (¬ (8 ≤ b ∧ b / 8 ≤ 68719476736 ∧ b % 8 < 5) → false = isB b) := fun h => by unfold isB; symm; rw [decide_eq_false_iff_not]; exact h
  have HYES : Hid ((8 ≤ b ∧ b / 8 ≤ 68719476736 ∧ b % 8 < 5) → true = isB b) := fun h => by unfold isB; symm; rw [decide_eq_true_iff]; exact h
  go_enter Try.func32, Try.ntmps32
  by_cases h1 : 8 ≤ b
  · have h0 : 0 ≤ b := by omega
    by_cases h2 : b ≤ 549755813892
    · by_cases h3 : b % 8 ≤ 4
      · go_wp2
        go_ret
        exact ⟨retB (HYES.out (by omega)), rfl⟩
      · go_wp2
        go_ret
        exact ⟨retB (HNO.out (by omega)), rfl⟩
    · go_wp2
      go_ret
      exact ⟨retB (HNO.out (by omega)), rfl⟩
  · go_wp2
    go_ret
    exact ⟨retB (HNO.out (by omega)), rfl⟩

theorem rround_any (w : World) (b : Int) (hb : b ≤ 9223372036854775807) : Calls Try.prog 14 #[.int .i64 b] w fun e w' => e = .returned (.int .i64 (rdV b)) ∧ w' = w := by
  go_enter Try.func14, Try.ntmps14
  go_wp2_with fail
  refine (ris_any w b hb).mono ?_
  rintro e w1 ⟨rfl, hw⟩
  have hw := hw.symm
  subst hw
  cases hi : isB b
  · have HV : Hid (0 = rdV b) := by show _ = _; unfold rdV; rw [hi]; rfl
    clear hi
    go_wp2
    go_ret
    exact ⟨ret1 HV.out, rfl⟩
  · have HV : Hid ((b - b % 8) / 8 = rdV b) := by show _ = _; unfold rdV; rw [hi, if_pos rfl]; omega
    have h0 := isB_pos hi
    have h1 : 0 ≤ b - b % 8 := by omega
    clear hi
    go_wp2
    go_ret
    exact ⟨ret1 HV.out, rfl⟩

theorem rnode_any (w : World) (b : Int) (hb : b ≤ 9223372036854775807) : Calls Try.prog 16 #[.int .i64 b] w fun e w' => e = .returned (.int .i64 (ndV b)) ∧ w' = w := by
  go_enter Try.func16, Try.ntmps16
  go_wp2_with fail
  refine (ris_any w b hb).mono ?_
  rintro e w1 ⟨rfl, hw⟩
  have hw := hw.symm
  subst hw
  cases hi : isB b
  · have HV : Hid (-1 = ndV b) := by show _ = _; unfold ndV; rw [hi]; rfl
    clear hi
    go_wp2
    go_ret
    exact ⟨ret1 HV.out, rfl⟩
  · have HV : Hid (b % 8 = ndV b) := by show _ = _; unfold ndV; rw [hi]; rfl
    have h0 := isB_pos hi
    clear hi
    go_wp2
    go_ret
    exact ⟨ret1 HV.out, rfl⟩

theorem rquorum_any (w : World) (n : Int) (h : n ≤ 9223372036854775807) : Calls Try.prog 18 #[.int .i64 n] w fun e w' => e = .returned (.int .i64 (quo n)) ∧ w' = w := by
  go_enter Try.func18, Try.ntmps18
  by_cases h1 : n < 1
  · go_wp2
    go_ret
    exact ⟨ret1 (if_pos h1).symm, rfl⟩
  · have HV : Hid ((n - n % 2) / 2 + 1 = quo n) := by show _ = _; unfold quo; rw [if_neg h1]; omega
    have h2 : 0 ≤ n - n % 2 := by omega
    go_wp2
    go_ret
    exact ⟨ret1 HV.out, rfl⟩

theorem rnext_any (w : World) (b n : Int) (hb : b ≤ 9223372036854775807) : Calls Try.prog 12 #[.int .i64 b, .int .i64 n] w fun e w' => e = .returned (.tuple #[.int .i64 (nxV b n), .int .i64 (nxE b n)]) ∧ w' = w := by
  have HNO : Hid (b < 0 ∨ n < 0 ∨ 4 < n ∨ 549755813888 + n ≤ b → 0 = nxV b n ∧ 2 = nxE b n) := fun h => by
    unfold nxV nxE
    by_cases h1 : b < 0
    · rw [if_pos h1, if_pos h1]; exact ⟨rfl, rfl⟩
    · rw [if_neg h1, if_neg h1]
      have : ¬ (1 ≤ nx b n ∧ nx b n ≤ 68719476736 ∧ 0 ≤ n ∧ n < 5) := by
        unfold nx
        split <;> omega
      exact ⟨(if_neg this).symm, (if_neg this).symm⟩
  have HYES : Hid (∀ x, 0 ≤ b → 0 ≤ n → n ≤ 4 → b < 549755813888 + n → x = 8 * nx b n + n → x = nxV b n ∧ 0 = nxE b n) := fun x h1 h2 h3 h4 h5 => by
    unfold nxV nxE
    rw [if_neg (by omega), if_neg (by omega)]
    have : 1 ≤ nx b n ∧ nx b n ≤ 68719476736 ∧ 0 ≤ n ∧ n < 5 := by
      unfold nx
      split <;> omega
    exact ⟨h5.trans (if_pos this).symm, (if_pos this).symm⟩
  go_enter Try.func12, Try.ntmps12
  by_cases h1 : b < 0
  · go_wp2
    go_ret2
    have := HNO.out (by omega)
    exact ⟨ret2 this.1 this.2, rfl⟩
  · by_cases h2 : n < 0
    · go_wp2
      go_ret2
      have := HNO.out (by omega)
      exact ⟨ret2 this.1 this.2, rfl⟩
    · by_cases h3 : 4 < n
      · go_wp2
        go_ret2
        have := HNO.out (by omega)
        exact ⟨ret2 this.1 this.2, rfl⟩
      · by_cases h4 : 549755813888 + n ≤ b
        · go_wp2
          go_ret2
          have := HNO.out (by omega)
          exact ⟨ret2 this.1 this.2, rfl⟩
        · by_cases h5 : b - b % 8 + n ≤ b
          · have h6 : ¬ (b - b % 8 + n + 8 < 8) := by omega
            go_wp2
            go_ret2
            have := HYES.out (b - b % 8 + n + 8) (by omega) (by omega) (by omega) (by omega) (by unfold nx; split <;> omega)
            exact ⟨ret2 this.1 this.2, rfl⟩
          · by_cases h6 : b - b % 8 + n < 8
            · go_wp2
              go_ret2
              have := HYES.out (8 + n) (by omega) (by omega) (by omega) (by omega) (by unfold nx; split <;> omega)
              exact ⟨ret2 this.1 this.2, rfl⟩
            · go_wp2
              go_ret2
              have := HYES.out (b - b % 8 + n) (by omega) (by omega) (by omega) (by omega) (by unfold nx; split <;> omega)
              exact ⟨ret2 this.1 this.2, rfl⟩
end Go.Proofs.Ytaainjkhenenoaa.Bf
