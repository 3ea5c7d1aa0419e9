/-
  Ballots and quorums: the walks of the small functions.
-/
import Derived.Test.YtaainjkhenenoaaRows
import Derived.Test.YtaainjkhenenoaaKit2
import Derived.Deep.RegionHeld3
import Derived.BigQuiet
namespace Go.Proofs.Ytaainjkhenenoaa.Bn
open Go.RowKit Kt
set_option linter.unusedVariables false
set_option maxRecDepth 20000

def mayB (n : Int) : Bool := decide (0 ≤ n) && decide (n < 5)
def mkV (r n : Int) : Int := if 1 ≤ r ∧ r ≤ 68719476736 ∧ 0 ≤ n ∧ n < 5 then 8 * r + n else 0
def mkE (r n : Int) : Int := if 1 ≤ r ∧ r ≤ 68719476736 ∧ 0 ≤ n ∧ n < 5 then 0 else 2
def isB (b : Int) : Bool := decide (8 ≤ b ∧ b / 8 ≤ 68719476736 ∧ b % 8 < 5)
def quo (n : Int) : Int := if n < 1 then 0 else n / 2 + 1
theorem ret2 {a b x y : Int} (h1 : a = x) (h2 : b = y) : Ending.returned (Value.tuple #[.int .i64 a, .int .i64 b]) = .returned (.tuple #[.int .i64 x, .int .i64 y]) := by rw [h1, h2]
theorem ret1 {a x : Int} (h1 : a = x) : Ending.returned (Value.int .i64 a) = .returned (.int .i64 x) := by rw [h1]
theorem retB {a x : Bool} (h1 : a = x) : Ending.returned (Value.bool a) = .returned (.bool x) := by rw [h1]

theorem mayVote_any (w : World) (n : Int) : Calls Try.prog 30 #[.int .i64 n] w fun e w' => e = .returned (.bool (mayB n)) ∧ w' = w := by
  go_enter Try.func30, Try.ntmps30
  by_cases h0 : 0 ≤ n
  · by_cases h5 : n < 5
    · go_wp2
      go_ret
      exact ⟨retB (by simp [mayB, h0, h5]), rfl⟩
    · go_wp2
      go_ret
      exact ⟨retB (by simp [mayB]; omega), rfl⟩
  · go_wp2
    go_ret
    exact ⟨retB (by simp [mayB]; omega), rfl⟩

theorem make_any (w : World) (r n : Int) : Calls Try.prog 9 #[.int .i64 r, .int .i64 n] w fun e w' => e = .returned (.tuple #[.int .i64 (mkV r n), .int .i64 (mkE r n)]) ∧ w' = w := by
  have hno : ¬ (1 ≤ r ∧ r ≤ 68719476736 ∧ 0 ≤ n ∧ n < 5) → 0 = mkV r n ∧ 2 = mkE r n := fun h => ⟨(if_neg h).symm, (if_neg h).symm⟩
  have hyes : (1 ≤ r ∧ r ≤ 68719476736 ∧ 0 ≤ n ∧ n < 5) → 8 * r + n = mkV r n ∧ 0 = mkE r n := fun h => ⟨(if_pos h).symm, (if_pos h).symm⟩
  have HNO := mkH hno
  have HYES := mkH hyes
  clear hno hyes
  go_enter Try.func9, Try.ntmps9
  by_cases h1 : r < 1
  · go_wp2
    go_ret2
    have := HNO.out (by omega)
    exact ⟨ret2 this.1 this.2, rfl⟩
  · by_cases h2 : 68719476736 < r
    · go_wp2
      go_ret2
      have := HNO.out (by omega)
      exact ⟨ret2 this.1 this.2, rfl⟩
    · go_wp2_with fail
      refine (mayVote_any w n).mono ?_
      rintro e w1 ⟨rfl, hw⟩
      have hw := hw.symm
      subst hw
      cases hm : mayB n
      · have hn : ¬ (0 ≤ n ∧ n < 5) := fun h => by simp [mayB, h] at hm
        have HN := mkH hn
        clear hn hm
        go_wp2
        go_ret2
        have := HNO.out (fun h => HN.out h.2.2)
        exact ⟨ret2 this.1 this.2, rfl⟩
      · have hn : 0 ≤ n ∧ n < 5 := by simpa [mayB] using hm
        obtain ⟨hn0, hn5⟩ := hn
        clear hm
        go_wp2
        go_ret2
        have := HYES.out ⟨by omega, by omega, hn0, hn5⟩
        exact ⟨ret2 this.1 this.2, rfl⟩

theorem quorum_any (w : World) (n : Int) (h : n ≤ 9223372036854775807) : Calls Try.prog 17 #[.int .i64 n] w fun e w' => e = .returned (.int .i64 (quo n)) ∧ w' = w := by
  go_enter Try.func17, Try.ntmps17
  by_cases h1 : n < 1
  · go_wp2
    go_ret
    exact ⟨ret1 (if_pos h1).symm, rfl⟩
  · have hv : n / 2 + 1 = quo n := (if_neg h1).symm
    have HV := mkH hv
    clear hv
    go_wp2
    go_ret
    exact ⟨ret1 HV.out, rfl⟩

/-- The least ballot of a node above a number, if there is one. -/
def nx (b n : Int) : Int := max (if n ≤ b % 8 then b / 8 + 1 else b / 8) 1
def nxV (b n : Int) : Int := if b < 0 then 0 else mkV (nx b n) n
def nxE (b n : Int) : Int := if b < 0 then 2 else mkE (nx b n) n
theorem next_any (w : World) (b n : Int) (hb : b ≤ 9223372036854775807) : Calls Try.prog 11 #[.int .i64 b, .int .i64 n] w fun e w' => e = .returned (.tuple #[.int .i64 (nxV b n), .int .i64 (nxE b n)]) ∧ w' = w := by
  by_cases h1 : b < 0
  · have HV : Hid (0 = nxV b n ∧ 2 = nxE b n) := ⟨(if_pos h1).symm, (if_pos h1).symm⟩
    go_enter Try.func11, Try.ntmps11
    go_wp2
    go_ret2
    exact ⟨ret2 HV.out.1 HV.out.2, rfl⟩
  · have HV : Hid (mkV (nx b n) n = nxV b n ∧ mkE (nx b n) n = nxE b n) := ⟨(if_neg h1).symm, (if_neg h1).symm⟩
    by_cases h2 : n ≤ b % 8
    · have hx : nx b n = b / 8 + 1 := by unfold nx; rw [if_pos h2]; omega
      rw [hx] at HV
      clear hx
      have hm : ¬ (b / 8 + 1 < 1) := by omega
      go_enter Try.func11, Try.ntmps11
      go_wp2_with fail
      refine (make_any w (b / 8 + 1) n).mono ?_
      rintro e w1 ⟨rfl, hw⟩
      have hw := hw.symm
      subst hw
      go_wp2
      go_ret2
      exact ⟨ret2 HV.out.1 HV.out.2, rfl⟩
    · by_cases h3 : b / 8 < 1
      · have hx : nx b n = 1 := by unfold nx; rw [if_neg h2]; omega
        rw [hx] at HV
        clear hx
        go_enter Try.func11, Try.ntmps11
        go_wp2_with fail
        refine (make_any w 1 n).mono ?_
        rintro e w1 ⟨rfl, hw⟩
        have hw := hw.symm
        subst hw
        go_wp2
        go_ret2
        exact ⟨ret2 HV.out.1 HV.out.2, rfl⟩
      · have hx : nx b n = b / 8 := by unfold nx; rw [if_neg h2]; omega
        rw [hx] at HV
        clear hx
        go_enter Try.func11, Try.ntmps11
        go_wp2_with fail
        refine (make_any w (b / 8) n).mono ?_
        rintro e w1 ⟨rfl, hw⟩
        have hw := hw.symm
        subst hw
        go_wp2
        go_ret2
        exact ⟨ret2 HV.out.1 HV.out.2, rfl⟩

theorem isBallot_any (w : World) (b : Int) (hb : b ≤ 9223372036854775807) : Calls Try.prog 31 #[.int .i64 b] w fun e w' => e = .returned (.bool (isB b)) ∧ w' = w := by
  by_cases h1 : 8 ≤ b
  · by_cases h2 : b / 8 ≤ 68719476736
    · have HV : Hid (mayB (b % 8) = isB b) := by
        show _ = _
        unfold mayB isB
        have : 0 ≤ b % 8 := by omega
        simp [h1, h2, this]
      have h0 : 0 ≤ b := by omega
      go_enter Try.func31, Try.ntmps31
      go_wp2_with fail
      refine (mayVote_any w (b % 8)).mono ?_
      rintro e w1 ⟨rfl, hw⟩
      have hw := hw.symm
      subst hw
      go_wp2
      go_ret
      exact ⟨retB HV.out, rfl⟩
    · have HV : Hid (false = isB b) := by
        show _ = _
        unfold isB
        symm
        rw [decide_eq_false_iff_not]
        omega
      have h0 : 0 ≤ b := by omega
      go_enter Try.func31, Try.ntmps31
      go_wp2
      go_ret
      exact ⟨retB HV.out, rfl⟩
  · have HV : Hid (false = isB b) := by
      show _ = _
      unfold isB
      symm
      rw [decide_eq_false_iff_not]
      omega
    go_enter Try.func31, Try.ntmps31
    go_wp2
    go_ret
    exact ⟨retB HV.out, rfl⟩

def rdV (b : Int) : Int := if isB b then b / 8 else 0
def ndV (b : Int) : Int := if isB b then b % 8 else -1
theorem isB_pos {b : Int} (h : isB b = true) : 8 ≤ b := by unfold isB at h; rw [decide_eq_true_iff] at h; exact h.1
theorem round_any (w : World) (b : Int) (hb : b ≤ 9223372036854775807) : Calls Try.prog 13 #[.int .i64 b] w fun e w' => e = .returned (.int .i64 (rdV b)) ∧ w' = w := by
  go_enter Try.func13, Try.ntmps13
  go_wp2_with fail
  refine (isBallot_any w b hb).mono ?_
  rintro e w1 ⟨rfl, hw⟩
  have hw := hw.symm
  subst hw
  cases hi : isB b
  · have HV : Hid (0 = rdV b) := by show _ = _; unfold rdV; rw [hi]; rfl
    clear hi
    go_wp2
    go_ret
    exact ⟨ret1 HV.out, rfl⟩
  · have HV : Hid (b / 8 = rdV b) := by show _ = _; unfold rdV; rw [hi]; rfl
    have h0 := isB_pos hi
    clear hi
    go_wp2
    go_ret
    exact ⟨ret1 HV.out, rfl⟩

theorem node_any (w : World) (b : Int) (hb : b ≤ 9223372036854775807) : Calls Try.prog 15 #[.int .i64 b] w fun e w' => e = .returned (.int .i64 (ndV b)) ∧ w' = w := by
  go_enter Try.func15, Try.ntmps15
  go_wp2_with fail
  refine (isBallot_any w b hb).mono ?_
  rintro e w1 ⟨rfl, hw⟩
  have hw := hw.symm
  subst hw
  cases hi : isB b
  · have HV : Hid (-1 = ndV b) := by show _ = _; unfold ndV; rw [hi]; rfl
    clear hi
    go_wp2
    go_ret
    exact ⟨ret1 HV.out, rfl⟩
  · have HV : Hid (b % 8 = ndV b) := by show _ = _; unfold ndV; rw [hi]; rfl
    have h0 := isB_pos hi
    clear hi
    go_wp2
    go_ret
    exact ⟨ret1 HV.out, rfl⟩
end Go.Proofs.Ytaainjkhenenoaa.Bn
