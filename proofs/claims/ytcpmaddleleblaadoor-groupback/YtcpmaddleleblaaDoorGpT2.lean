/-
  The document's Same of groups that are the same.
-/
import Derived.Test.YtcpmaddleleblaaDoorGpT
namespace Go.Proofs.YtcpmaddleleblaaDoor.Gt2
open Go.RowKit Kt Gf Gp Gr Gk Ga Gb Gg Gt
set_option linter.unusedVariables false
set_option linter.unusedSimpArgs false
set_option maxRecDepth 20000

set_option maxHeartbeats 4000000 in
theorem rsame_eq (w : World) (g : G) (ka : Option Addr) (kc : Nat) (ma : Option Addr) (mc : Nat) (ka2 : Option Addr) (kc2 : Nat) (ma2 : Option Addr) (mc2 : Nat) (h : Gl w g ka kc ma mc) (h2 : Gl w g ka2 kc2 ma2 mc2) (hk : g.kept.length ≤ 1000000000) (hm : g.marks.length ≤ 1000000000) :
    Calls Tryd.prog 12 #[.agg (gC g ka kc ma mc), .agg (gC g ka2 kc2 ma2 mc2)] w fun e w' => e = .returned (.bool true) ∧ Below w.heap.size w w' := by
  obtain ⟨nx, kp, mk, at'⟩ := g
  simp only [gC] at *
  have HL := mkH h
  have HL2 := mkH h2
  clear h h2
  have HB1 := mkH ((Bx.new w #[Value.int .i64 nx, .slice ka kp.length kc, .slice ma mk.length mc, .string at'] 25).alloc (.cells #[Value.int .i64 nx, .slice ka2 kp.length kc2, .slice ma2 mk.length mc2, .string at'] 25))
  have HB2 := mkH (Bx.new1 w (.cells #[Value.int .i64 nx, .slice ka kp.length kc, .slice ma mk.length mc, .string at'] 25) #[Value.int .i64 nx, .slice ka2 kp.length kc2, .slice ma2 mk.length mc2, .string at'] 25)
  have H0 : Hid (Below w.heap.size w ((w.alloc (.cells #[Value.int .i64 nx, .slice ka kp.length kc, .slice ma mk.length mc, .string at'] 25)).alloc (.cells #[Value.int .i64 nx, .slice ka2 kp.length kc2, .slice ma2 mk.length mc2, .string at'] 25))) := ((Below.refl _ w).alloc (Nat.le_refl _) _).alloc (by simp) _
  have hq : (at'.toList == at'.toList) = true := by simp
  have hq2 : (at'.toList != at'.toList) = false := by simp
  go_enter Tryd.func12, Tryd.ntmps12
  go_wp2_with fail
  generalize (w.alloc (.cells #[Value.int .i64 nx, .slice ka kp.length kc, .slice ma mk.length mc, .string at'] 25)).alloc (.cells #[Value.int .i64 nx, .slice ka2 kp.length kc2, .slice ma2 mk.length mc2, .string at'] 25) = w0 at *
  have HSK := mkH (sameKept_eq w0 kp ka ka2 kc kc2 ⟨HL.out.k.below H0.out, HL.out.kl, HL.out.kb⟩ ⟨HL2.out.k.below H0.out, HL2.out.kl, HL2.out.kb⟩ hk)
  refine HSK.out.mono ?_
  rintro e w1 ⟨rfl, hb1⟩
  have HC1 := mkH (HB1.out.bel hb1)
  have HC2 := mkH (HB2.out.bel hb1)
  have H1 : Hid (Below w.heap.size w w1) := H0.out.trans (hb1.mono H0.out.size)
  obtain ⟨d0, d1, d2, d3, -⟩ := HC1.out.four
  obtain ⟨e0, e1, e2, e3, -⟩ := HC2.out.four
  clear hb1 HSK HB1 HB2 H0
  go_wp2_with fail
  clear d0 d1 d2 d3 e0 e1 e2 e3
  go_loopw [5] (fun i WW => ∃ j : Nat, j ≤ mk.length ∧ i = .int .i64 (j : Int) ∧ Hid (Below w1.heap.size w1 WW)) (fun i _ => mk.length - (intOf i).toNat)
  case atStart => exact ⟨0, Nat.zero_le _, rfl, Below.refl _ _⟩
  case round =>
    obtain ⟨j, hj, rfl, HW⟩ := hrel
    obtain ⟨d0, d1, d2, d3, -⟩ := (HC1.out.bel HW.out).four
    obtain ⟨e0, e1, e2, e3, -⟩ := (HC2.out.bel HW.out).four
    rcases Nat.lt_or_ge j mk.length with hjl | hjl
    · obtain ⟨x, hx⟩ := some_of hjl
      obtain ⟨b1, off1, rfl, z0, z1, z2⟩ := atM ((HL.out.m.below H1.out).below HW.out) hx
      obtain ⟨b2, off2, rfl, y0, y1, y2⟩ := atM ((HL2.out.m.below H1.out).below HW.out) hx
      obtain ⟨x0, x1, x2⟩ := x
      simp only at z0 z1 z2 y0 y1 y2
      have jz : (j : Int) < (mk.length : Int) := by omega
      clear hx
      go_wp2_with fail
      go_region
      all_goals
        go_wp2
        go_roundw
        case rel => exact ⟨j + 1, by omega, by go_num, by first | exact HW | exact mkH HW.out.drew⟩
        case measure => simp [intOf]; omega
    · obtain rfl : j = mk.length := by omega
      go_wp2
      go_ret
      exact ⟨rfl, H1.out.trans (HW.out.mono H1.out.size)⟩
end Go.Proofs.YtcpmaddleleblaaDoor.Gt2
