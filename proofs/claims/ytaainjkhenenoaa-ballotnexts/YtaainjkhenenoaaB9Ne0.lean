/-
  BallotNexts: the walk.
-/
import Derived.Test.YtaainjkhenenoaaB9W
namespace Go.Proofs.Ytaainjkhenenoaa.Bne
open Go.RowKit Kt Dk Bp Bm Br Bs Bg Bn Bw Go.Maps
set_option linter.unusedVariables false
set_option maxRecDepth 20000

theorem next_facts (b n : Int) (h1 : -9223372036854775808 ≤ b) (h2 : b ≤ 9223372036854775807) :
    (nxV b n = 0 ∧ nxE b n = 2) ∨ (nxE b n = 0 ∧ b < nxV b n ∧ nxV b n ≤ 549755813892 ∧ ndV (nxV b n) = n ∧ 0 ≤ b ∧ 1 ≤ rdV (nxV b n) ∧ rdV (nxV b n) ≤ 68719476736 ∧ (mkE (rdV (nxV b n) - 1) n ≠ 0 ∨ mkE (rdV (nxV b n) - 1) n = 0 ∧ mkV (rdV (nxV b n) - 1) n ≤ b)) := by
  unfold nxV nxE
  by_cases hb : b < 0
  · rw [if_pos hb, if_pos hb]; exact .inl ⟨rfl, rfl⟩
  · rw [if_neg hb, if_neg hb]
    obtain ⟨r, hr⟩ : ∃ r, nx b n = r := ⟨_, rfl⟩
    have hr2 : r = max (if n ≤ b % 8 then b / 8 + 1 else b / 8) 1 := by rw [← hr]; rfl
    rw [hr]
    by_cases hm : 1 ≤ r ∧ r ≤ 68719476736 ∧ 0 ≤ n ∧ n < 5
    · have e1 : mkV r n = 8 * r + n := if_pos hm
      have e2 : mkE r n = 0 := if_pos hm
      have e3 : isB (8 * r + n) = true := by unfold isB; rw [decide_eq_true_iff]; omega
      have e4 : rdV (8 * r + n) = r := by unfold rdV; rw [if_pos e3]; omega
      have e5 : ndV (8 * r + n) = n := by unfold ndV; rw [if_pos e3]; omega
      rw [e1, e2, e4, e5]
      refine .inr ⟨rfl, ?_, by omega, rfl, by omega, by omega, by omega, ?_⟩
      · split at hr2 <;> omega
      · by_cases hk : 1 ≤ r - 1 ∧ r - 1 ≤ 68719476736 ∧ 0 ≤ n ∧ n < 5
        · have e6 : mkV (r - 1) n = 8 * (r - 1) + n := if_pos hk
          have e7 : mkE (r - 1) n = 0 := if_pos hk
          rw [e6, e7]
          refine .inr ⟨rfl, ?_⟩
          split at hr2 <;> omega
        · have e7 : mkE (r - 1) n = 2 := if_neg hk
          rw [e7]
          exact .inl (by decide)
    · exact .inl ⟨if_neg hm, if_neg hm⟩

set_option maxHeartbeats 4000000 in
theorem nexts_walk (w : World) (b n : Int) (h1 : -9223372036854775808 ≤ b) (h2 : b ≤ 9223372036854775807) :
    Calls Try.prog 7 #[.int .i64 b, .int .i64 n] w fun e w' => e = .returned (.bool true) ∧ Below w.heap.size w w' := by
  have hf := next_facts b n h1 h2
  go_enter Try.func7, Try.ntmps7
  go_wp2_with fail
  refine (next_any w b n h2).mono ?_
  rintro e w1 ⟨rfl, hw⟩
  have hw := hw.symm
  subst hw
  generalize nxV b n = v at *
  generalize nxE b n = e at *
  rcases hf with ⟨rfl, rfl⟩ | ⟨rfl, f1, f2, f3, f4, f5, f6, f7⟩
  · go_wp2_with fail
    refine (works_any _).mono ?_
    rintro e w1 ⟨rfl, hb1⟩
    go_wp2
    go_ret
    exact ⟨rfl, hb1⟩
  · go_wp2_with fail
    refine (node_any _ v (by omega)).mono ?_
    rintro e w1 ⟨rfl, hw⟩
    have hw := hw.symm
    subst hw
    rw [f3]
    clear f3
    go_wp2_with fail
    refine (round_any _ v (by omega)).mono ?_
    rintro e w1 ⟨rfl, hw⟩
    have hw := hw.symm
    subst hw
    generalize rdV v = r at *
    have HF7 := mkH f7
    clear f7
    go_wp2_with fail
    refine (make_any _ (r - 1) n).mono ?_
    rintro e w1 ⟨rfl, hw⟩
    have hw := hw.symm
    subst hw
    have f7 := HF7.out
    clear HF7
    generalize mkV (r - 1) n = v2 at *
    generalize mkE (r - 1) n = e2 at *
    rcases f7 with f8 | ⟨rfl, f8⟩
    · go_wp2_with fail
      refine (works_any _).mono ?_
      rintro e w1 ⟨rfl, hb1⟩
      go_wp2
      go_ret
      exact ⟨rfl, hb1⟩
    · go_wp2_with fail
      refine (works_any _).mono ?_
      rintro e w1 ⟨rfl, hb1⟩
      go_wp2
      go_ret
      exact ⟨rfl, hb1⟩
end Go.Proofs.Ytaainjkhenenoaa.Bne
