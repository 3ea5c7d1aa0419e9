/-
  Same of groups that are the same.
-/
import Derived.Test.YtcpmaddleleblaaDoorGpG
namespace Go.Proofs.YtcpmaddleleblaaDoor.Gsm
open Go.RowKit Kt Gf Gp Gr Gk Ga Gb Gg
set_option linter.unusedVariables false
set_option linter.unusedSimpArgs false
set_option maxRecDepth 20000

set_option maxHeartbeats 4000000 in
theorem sameK_eq (w : World) (l : List K) (a b : Option Addr) (c d : Nat) (ha : RowK w a l) (hb : RowK w b l) (hl : l.length ≤ 1000000000) :
    Calls Tryd.prog 52 #[.slice a l.length c, .slice b l.length d] w fun e w' => e = .returned (.bool true) ∧ Below w.heap.size w w' := by
  have HA := mkH ha
  have HB := mkH hb
  clear ha hb
  go_enter Tryd.func52, Tryd.ntmps52
  go_wp2_with fail
  go_loopw [5, 6, 14] (fun _ _ i WW => ∃ j : Nat, j ≤ l.length ∧ i = .int .i64 (j : Int) ∧ Hid (Below w.heap.size w WW)) (fun _ _ i _ => l.length - (intOf i).toNat)
  case atStart => exact ⟨0, Nat.zero_le _, rfl, Below.refl _ _⟩
  case round =>
    obtain ⟨j, hj, rfl, HW⟩ := hrel
    rcases Nat.lt_or_ge j l.length with hjl | hjl
    · obtain ⟨x, hx⟩ := some_of hjl
      obtain ⟨b1, off1, rfl, z0, z1, z2, z3, z4, z5⟩ := atK (HA.out.below HW.out) hx
      have hsw := HW.out.size
      obtain ⟨x0, x1, x2, x3, x4, x5⟩ := x
      have hal : Below wr.heap.size wr (wr.alloc (.cells #[Value.int .i64 x0, .int .i64 x1, .int .i64 x2, .int .i64 x3, .int .i64 x4, .string x5] 61)) := (Below.refl _ wr).alloc (Nat.le_refl _) _
      have HWA : Hid (Below w.heap.size w (wr.alloc (.cells #[Value.int .i64 x0, .int .i64 x1, .int .i64 x2, .int .i64 x3, .int .i64 x4, .string x5] 61))) := HW.out.trans (hal.mono hsw)
      obtain ⟨b2, off2, rfl, y0, y1, y2, y3, y4, y5⟩ := atK (HB.out.below HWA.out) hx
      have hBx := Bx.new wr #[Value.int .i64 x0, .int .i64 x1, .int .i64 x2, .int .i64 x3, .int .i64 x4, .string x5] 61
      simp only at z0 z1 z2 z3 z4 z5 y0 y1 y2 y3 y4 y5
      have jz : (j : Int) < (l.length : Int) := by omega
      have u0 := hBx.cell 0 _ rfl; have u1 := hBx.cell 1 _ rfl; have u2 := hBx.cell 2 _ rfl; have u3 := hBx.cell 3 _ rfl; have u4 := hBx.cell 4 _ rfl; have u5 := hBx.cell 5 _ rfl
      go_upto_region 6 with fail
      generalize wr.alloc (.cells #[Value.int .i64 x0, .int .i64 x1, .int .i64 x2, .int .i64 x3, .int .i64 x4, .string x5] 61) = W0 at *
      obtain ⟨B5, hB5⟩ : ∃ B, wr.heap.size = B := ⟨_, rfl⟩
      rw [hB5] at u0 u1 u2 u3 u4 u5 ⊢
      clear hB5 hBx hal hx z0 z1 z2 z3 z4 z5
      go_region
      all_goals
        go_wp2
        go_roundw
        case rel => exact ⟨j + 1, by omega, by go_num, by first | exact HWA | exact mkH HWA.out.drew⟩
        case measure => simp [intOf]; omega
    · obtain rfl : j = l.length := by omega
      go_wp2
      go_ret
      exact ⟨rfl, HW⟩

set_option maxHeartbeats 4000000 in
theorem sameM_eq (w : World) (l : List M) (a b : Option Addr) (c d : Nat) (ha : RowM w a l) (hb : RowM w b l) (hl : l.length ≤ 1000000000) :
    Calls Tryd.prog 53 #[.slice a l.length c, .slice b l.length d] w fun e w' => e = .returned (.bool true) ∧ Below w.heap.size w w' := by
  have HA := mkH ha
  have HB := mkH hb
  clear ha hb
  go_enter Tryd.func53, Tryd.ntmps53
  go_wp2_with fail
  go_loopw [5, 6, 14] (fun _ _ i WW => ∃ j : Nat, j ≤ l.length ∧ i = .int .i64 (j : Int) ∧ Hid (Below w.heap.size w WW)) (fun _ _ i _ => l.length - (intOf i).toNat)
  case atStart => exact ⟨0, Nat.zero_le _, rfl, Below.refl _ _⟩
  case round =>
    obtain ⟨j, hj, rfl, HW⟩ := hrel
    rcases Nat.lt_or_ge j l.length with hjl | hjl
    · obtain ⟨x, hx⟩ := some_of hjl
      obtain ⟨b1, off1, rfl, z0, z1, z2⟩ := atM (HA.out.below HW.out) hx
      have hsw := HW.out.size
      obtain ⟨x0, x1, x2⟩ := x
      have hal : Below wr.heap.size wr (wr.alloc (.cells #[Value.string x0, .int .i64 x1, .int .i64 x2] 70)) := (Below.refl _ wr).alloc (Nat.le_refl _) _
      have HWA : Hid (Below w.heap.size w (wr.alloc (.cells #[Value.string x0, .int .i64 x1, .int .i64 x2] 70))) := HW.out.trans (hal.mono hsw)
      obtain ⟨b2, off2, rfl, y0, y1, y2⟩ := atM (HB.out.below HWA.out) hx
      have hBx := Bx.new wr #[Value.string x0, .int .i64 x1, .int .i64 x2] 70
      simp only at z0 z1 z2 y0 y1 y2
      have jz : (j : Int) < (l.length : Int) := by omega
      have u0 := hBx.cell 0 _ rfl; have u1 := hBx.cell 1 _ rfl; have u2 := hBx.cell 2 _ rfl
      go_upto_region 6 with fail
      generalize wr.alloc (.cells #[Value.string x0, .int .i64 x1, .int .i64 x2] 70) = W0 at *
      obtain ⟨B5, hB5⟩ : ∃ B, wr.heap.size = B := ⟨_, rfl⟩
      rw [hB5] at u0 u1 u2 ⊢
      clear hB5 hBx hal hx z0 z1 z2
      go_region
      all_goals
        go_wp2
        go_roundw
        case rel => exact ⟨j + 1, by omega, by go_num, by first | exact HWA | exact mkH HWA.out.drew⟩
        case measure => simp [intOf]; omega
    · obtain rfl : j = l.length := by omega
      go_wp2
      go_ret
      exact ⟨rfl, HW⟩

set_option maxHeartbeats 4000000 in
theorem Same_eq (w : World) (g : G) (ka : Option Addr) (kc : Nat) (ma : Option Addr) (mc : Nat) (ka2 : Option Addr) (kc2 : Nat) (ma2 : Option Addr) (mc2 : Nat) (h : Gl w g ka kc ma mc) (h2 : Gl w g ka2 kc2 ma2 mc2) (hk : g.kept.length ≤ 1000000000) (hm : g.marks.length ≤ 1000000000) :
    Calls Tryd.prog 21 #[.agg (gC g ka kc ma mc), .agg (gC g ka2 kc2 ma2 mc2)] w fun e w' => e = .returned (.bool true) ∧ Below w.heap.size w w' := by
  obtain ⟨nx, kp, mk, at'⟩ := g
  simp only [gC] at *
  have HL := mkH h
  have HL2 := mkH h2
  clear h h2
  have HB1 := mkH ((Bx.new w #[Value.int .i64 nx, .slice ka kp.length kc, .slice ma mk.length mc, .string at'] 25).alloc (.cells #[Value.int .i64 nx, .slice ka2 kp.length kc2, .slice ma2 mk.length mc2, .string at'] 25))
  have HB2 := mkH (Bx.new1 w (.cells #[Value.int .i64 nx, .slice ka kp.length kc, .slice ma mk.length mc, .string at'] 25) #[Value.int .i64 nx, .slice ka2 kp.length kc2, .slice ma2 mk.length mc2, .string at'] 25)
  have H0 : Hid (Below w.heap.size w ((w.alloc (.cells #[Value.int .i64 nx, .slice ka kp.length kc, .slice ma mk.length mc, .string at'] 25)).alloc (.cells #[Value.int .i64 nx, .slice ka2 kp.length kc2, .slice ma2 mk.length mc2, .string at'] 25))) := ((Below.refl _ w).alloc (Nat.le_refl _) _).alloc (by simp) _
  go_enter Tryd.func21, Tryd.ntmps21
  go_wp2_with fail
  generalize (w.alloc (.cells #[Value.int .i64 nx, .slice ka kp.length kc, .slice ma mk.length mc, .string at'] 25)).alloc (.cells #[Value.int .i64 nx, .slice ka2 kp.length kc2, .slice ma2 mk.length mc2, .string at'] 25) = w0 at *
  refine (sameK_eq w0 kp ka ka2 kc kc2 (HL.out.k.below H0.out) (HL2.out.k.below H0.out) hk).mono ?_
  rintro e w1 ⟨rfl, hb1⟩
  have HC1 := mkH (HB1.out.bel hb1)
  have HC2 := mkH (HB2.out.bel hb1)
  have H1 : Hid (Below w.heap.size w w1) := H0.out.trans (hb1.mono H0.out.size)
  obtain ⟨d0, d1, d2, d3, -⟩ := HC1.out.four
  obtain ⟨e0, e1, e2, e3, -⟩ := HC2.out.four
  clear hb1 HB1 HB2 H0
  go_wp2_with fail
  refine (sameM_eq w1 mk ma ma2 mc mc2 (HL.out.m.below H1.out) (HL2.out.m.below H1.out) hm).mono ?_
  rintro e w2 ⟨rfl, hb2⟩
  go_wp2
  go_ret
  exact ⟨rfl, H1.out.trans (hb2.mono H1.out.size)⟩
end Go.Proofs.YtcpmaddleleblaaDoor.Gsm
