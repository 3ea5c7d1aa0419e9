/-
  BallotBack: the walk.
-/
import Derived.Test.YtaainjkhenenoaaB9W
namespace Go.Proofs.Ytaainjkhenenoaa.Bba
open Go.RowKit Kt Dk Bp Bm Br Bs Bg Bn Bw Go.Maps
set_option linter.unusedVariables false
set_option maxRecDepth 20000

theorem make_facts (r n : Int) : (mkV r n = 0 ∧ mkE r n = 2) ∨ (mkE r n = 0 ∧ mkV r n = 8 * r + n ∧ 0 ≤ n ∧ n < 5 ∧ 1 ≤ r ∧ r ≤ 68719476736 ∧ rdV (mkV r n) = r ∧ ndV (mkV r n) = n) := by
  by_cases hm : 1 ≤ r ∧ r ≤ 68719476736 ∧ 0 ≤ n ∧ n < 5
  · have e1 : mkV r n = 8 * r + n := if_pos hm
    have e2 : mkE r n = 0 := if_pos hm
    have e3 : isB (8 * r + n) = true := by unfold isB; rw [decide_eq_true_iff]; omega
    have e4 : rdV (8 * r + n) = r := by unfold rdV; rw [if_pos e3]; omega
    have e5 : ndV (8 * r + n) = n := by unfold ndV; rw [if_pos e3]; omega
    rw [e1, e2, e4, e5]
    exact .inr ⟨rfl, rfl, by omega, by omega, by omega, by omega, rfl, rfl⟩
  · exact .inl ⟨if_neg hm, if_neg hm⟩

set_option maxHeartbeats 4000000 in
theorem back_walk (w : World) (r n p q : Int) :
    Calls Try.prog 6 #[.int .i64 r, .int .i64 n, .agg #[.int .i64 p, .int .i64 q]] w fun e w' => e = .returned (.bool true) ∧ Below w.heap.size w w' := by
  have hf := make_facts r n
  have hg := make_facts p q
  have hbw : Below w.heap.size w (w.alloc (.cells #[.int .i64 p, .int .i64 q] 49)) := (Below.refl _ w).alloc (Nat.le_refl _) _
  have hsz : w.heap.size ≤ (w.alloc (.cells #[.int .i64 p, .int .i64 q] 49)).heap.size := by simp
  have d0 : (w.alloc (.cells #[.int .i64 p, .int .i64 q] 49)).cell? ⟨w.heap.size, 0, none⟩ = some (.int .i64 p) := cell_new_at w _ _ 0 _ rfl
  have d1 : (w.alloc (.cells #[.int .i64 p, .int .i64 q] 49)).cell? ⟨w.heap.size, 1, none⟩ = some (.int .i64 q) := cell_new_at w _ _ 1 _ rfl
  have HF := mkH hf
  have HG := mkH hg
  have HB := mkH hbw
  clear hf hg hbw
  go_enter Try.func6, Try.ntmps6
  go_wp2_with fail
  generalize w.alloc (.cells #[.int .i64 p, .int .i64 q] 49) = wb at *
  refine (make_any wb r n).mono ?_
  rintro e w1 ⟨rfl, hw⟩
  have hw := hw.symm
  subst hw
  have hf := HF.out
  clear HF
  generalize mkV r n = v at *
  generalize mkE r n = e at *
  rcases hf with ⟨rfl, rfl⟩ | ⟨rfl, hv, f1, f2, f3, f4, f5, f6⟩
  · go_wp2_with fail
    refine (works_any _).mono ?_
    rintro e w1 ⟨rfl, hb1⟩
    go_wp2
    go_ret
    exact ⟨rfl, HB.out.trans (hb1.mono hsz)⟩
  · have hv1 : 1 ≤ v := by omega
    have hv2 : v ≤ 9223372036854775807 := by omega
    have HVV := mkH hv
    clear hv
    go_wp2_with fail
    refine (round_any _ v (by omega)).mono ?_
    rintro e w1 ⟨rfl, hw⟩
    have hw := hw.symm
    subst hw
    rw [f5]
    clear f5
    go_wp2_with fail
    refine (node_any _ v (by omega)).mono ?_
    rintro e w1 ⟨rfl, hw⟩
    have hw := hw.symm
    subst hw
    rw [f6]
    clear f6
    go_wp2_with fail
    refine (make_any _ p q).mono ?_
    rintro e w1 ⟨rfl, hw⟩
    have hw := hw.symm
    subst hw
    have hg := HG.out
    clear HG
    generalize mkV p q = v2 at *
    generalize mkE p q = e2 at *
    rcases hg with ⟨rfl, rfl⟩ | ⟨rfl, hv', g1, g2, g3, g4, g5, g6⟩
    · go_wp2_with fail
      refine (works_any _).mono ?_
      rintro e w1 ⟨rfl, hb1⟩
      go_wp2
      go_ret
      exact ⟨rfl, HB.out.trans (hb1.mono hsz)⟩
    · clear g5 g6
      have hv := HVV.out
      clear HVV
      have hc : (r = p ∧ n = q ∧ v = v2) ∨ (r = p ∧ ¬ n = q ∧ ¬ v = v2) ∨ (r < p ∧ v < v2) ∨ (p < r ∧ v2 < v) := by omega
      clear hv hv'
      rcases hc with ⟨rfl, rfl, rfl⟩ | ⟨rfl, h7, h8⟩ | ⟨h7, h8⟩ | ⟨h7, h8⟩
      · go_wp2_with fail
        refine (works_any _).mono ?_
        rintro e w1 ⟨rfl, hb1⟩
        go_wp2
        go_ret
        exact ⟨rfl, HB.out.trans (hb1.mono hsz)⟩
      · have h13 : (v == v2) = false := by simp [h8]
        have h14 : (n == q) = false := by simp [h7]
        go_wp2_with fail
        refine (works_any _).mono ?_
        rintro e w1 ⟨rfl, hb1⟩
        go_wp2
        go_ret
        exact ⟨rfl, HB.out.trans (hb1.mono hsz)⟩
      · have h9 : ¬ r = p := by omega
        have h10 : ¬ v = v2 := by omega
        have h13 : (v == v2) = false := by simp [h10]
        have h14 : (r == p) = false := by simp [h9]
        go_wp2_with fail
        refine (works_any _).mono ?_
        rintro e w1 ⟨rfl, hb1⟩
        go_wp2
        go_ret
        exact ⟨rfl, HB.out.trans (hb1.mono hsz)⟩
      · have h9 : ¬ r = p := by omega
        have h10 : ¬ v = v2 := by omega
        have h13 : (v == v2) = false := by simp [h10]
        have h14 : (r == p) = false := by simp [h9]
        have h11 : ¬ r < p := by omega
        have h12 : ¬ v < v2 := by omega
        go_wp2_with fail
        refine (works_any _).mono ?_
        rintro e w1 ⟨rfl, hb1⟩
        go_wp2
        go_ret
        exact ⟨rfl, HB.out.trans (hb1.mono hsz)⟩
end Go.Proofs.Ytaainjkhenenoaa.Bba
