/-
  The walk of CrcLong: a body is framed up to the limit, and refused behind it.
-/
import Derived.Test.YtjmhgifdkmglhaaDoorCrcX
namespace Go.Proofs.YtjmhgifdkmglhaaDoor.Cb
open Go.RowKit Kt Cs Cw Cf Cn Cg Ck
set_option linter.unusedVariables false

theorem U_rep (n : Nat) : U (List.replicate n 0) = List.replicate n (.int .u8 0) := by simp [U]

set_option maxHeartbeats 1000000 in
set_option maxRecDepth 20000 in
theorem long_walk (w : World) (hT : Tb w) (n : Int) (c : Int) (hc : (Lit.int .u8 c).wf = true) :
    Calls Tryd.prog 6 #[.int .i64 n, .int .u8 c] w fun e w' => e = .returned (.bool true) ∧ Below w.heap.size w w' := by
  have hT0 := hT.size
  obtain ⟨m1, m2, k, hk, hkk⟩ := mod_name n 6 (by omega)
  have e0 : ((6 : Nat) : Int) = 6 := rfl
  rw [e0] at m1 m2 hkk
  obtain ⟨cb, rfl⟩ : ∃ cb : UInt8, c = (cb.toNat : Int) := by
    have hb := bounds_u8 hc
    refine ⟨UInt8.ofNat c.toNat, ?_⟩
    have : (UInt8.ofNat c.toNat).toNat = c.toNat := by simp [UInt8.toNat_ofNat']; omega
    rw [this]; omega
  obtain ⟨i0, hi, hz0, hz1, hz2⟩ := info_parts info5
  obtain ⟨N, hN⟩ : ∃ N : Nat, (65536 : Int) + (k : Int) - 3 = (N : Int) := ⟨65533 + k, by omega⟩
  have hNl : N ≤ 65538 := by omega
  obtain ⟨w1, hrun, hown1, hgrow1⟩ := run_make_full (P := Tryd.prog) w w.heap.size 22 5 i0 (.int .u8 0) 1 Tryd.underlying22 hi hz0 hz1 .i64 .i64 N (by rw [hz2]; omega) (by unfold maxLen; omega) (Nat.le_refl _)
  rw [show (Value.int .u8 0).cells = #[.int .u8 0] from rfl, toList_madeCells_one, Nat.mul_one, ← U_rep] at hown1
  have hb1 := (Below.refl w.heap.size w).grown hgrow1 (Nat.le_refl _) (by intro k hk; cases hk)
  clear hi hz0 hz1 hz2 hc
  go_enter Tryd.func6, Tryd.ntmps6
  go_wp2
  try rw [hN]
  clear hN hkk m1 m2 e0 hrun hgrow1
  go_loopw [6] (fun ct wr => ∃ (j : Nat) (L : List UInt8), ct = .int .i64 j ∧ j ≤ N + 997 ∧ L.length = N ∧ wr.ownsRow w.heap.size 5 1 (.slice (some ⟨w.heap.size, 0, none⟩) N N) N (U L) ∧ Below w.heap.size w wr) (fun ct _ => N + 997 - (intOf ct).toNat)
  case atStart => exact ⟨0, List.replicate N 0, rfl, by omega, by simp, hown1, hb1⟩
  case round =>
    obtain ⟨j, L, rfl, hj, hL, hown, hB⟩ := hrel
    by_cases hjN : j < N
    · have t0 : decide ((j : Int) < (N : Int)) = true := by simp; omega
      have hcell : wr.cell? ⟨w.heap.size, j, none⟩ = some (.int .u8 ((L.getD j 0).toNat : Int)) := by
        have := hown.cellAt j (by omega)
        rw [U_at L j (by omega)] at this
        exact this
      have hfz := hown.frozenAt j
      have hst := hown.stored j (.int .u8 (cb.toNat : Int))
      rw [U_set] at hst
      have hb2 := hB.grown hst.2 hB.size (by intro k hk; cases hk; exact Nat.le_refl _)
      have hown2 := hst.1
      have hj1 : (j : Int) < (N : Int) := by omega
      clear hown hst hB hown1 hb1
      go_wp2
      go_roundw
      case rel => exact ⟨j + 997, L.set j cb, by go_num, by omega, by rw [List.length_set]; exact hL, hown2, hb2⟩
      case measure => simp [intOf]; omega
    · have t0 : decide ((j : Int) < (N : Int)) = false := by simp; omega
      subst hL
      have hr := (Row.own hown).2.2
      clear hown hown1 hb1
      by_cases h6 : L.length ≤ 65536
      · go_wp2_with fail
        refine (frame_ok wr (some ⟨w.heap.size, 0, none⟩) L.length L (hT.below hB hT0) hr h6).mono ?_
        rintro e w2 ⟨v2, rfl, hown2, hb2⟩
        obtain ⟨a2, c2, rfl, hn2, hc2, hr2⟩ := own_row hown2
        have hr := hr.below hb2
        have hb2 := hB.trans (hb2.mono hB.size)
        clear hown2 hB
        go_wp2_with fail
        refine (refFrame_ok w2 (some ⟨w.heap.size, 0, none⟩) L.length L hr h6).mono ?_
        rintro e w3 ⟨v3, rfl, hown3, hb3⟩
        obtain ⟨a3, c3, rfl, -, hc3, hr3⟩ := own_row hown3
        have hr2 := hr2.below hb3
        have hb3 := hb2.trans (hb3.mono hb2.size)
        clear hown3 hb2 hr hn2
        generalize Cp.frame L = f at *
        have hs1 := run_string (P := Tryd.prog) Tryd.underlying22 Tryd.underlying5 Tryd.underlying9 hr2 c2
        have hs2 := run_string (P := Tryd.prog) Tryd.underlying22 Tryd.underlying5 Tryd.underlying9 hr3 c3
        go_wp2_with fail
        refine (works_any w3 (hT.below hb3 hT0)).mono ?_
        rintro e w4 ⟨rfl, hb4⟩
        go_wp2
        go_ret
        exact ⟨rfl, hb3.trans (hb4.mono hb3.size)⟩
      · go_wp2_with fail
        refine (frame_long wr _ _ _ (by omega)).mono ?_
        rintro e w2 ⟨rfl, rfl⟩
        go_wp2_with fail
        refine (refFrame_long w2 _ _ _ (by omega)).mono ?_
        rintro e w3 ⟨rfl, rfl⟩
        have hs1 := run_string (P := Tryd.prog) Tryd.underlying22 Tryd.underlying5 Tryd.underlying9 (Row.nil w3 none) 0
        simp only [List.length_nil] at hs1
        go_wp2_with fail
        refine (works_any w3 (hT.below hB hT0)).mono ?_
        rintro e w4 ⟨rfl, hb4⟩
        go_wp2
        go_ret
        exact ⟨rfl, hB.trans (hb4.mono hB.size)⟩
end Go.Proofs.YtjmhgifdkmglhaaDoor.Cb
