/-
  The walk of ChartMoves.
-/
import Derived.Test.YtcpmcfagibmboaaChJ
namespace Go.Proofs.Ytcpmcfagibmboaa.Cm
open Go.RowKit Pl Pw Pr Pf Pv Cp Ca Cb Cc Cd Ce Cf Cg Cw Ch Gf Gk
open Cr hiding some_of
open Kt hiding mkH
open Kv
set_option linter.unusedVariables false
set_option linter.unusedSimpArgs false
set_option maxRecDepth 20000

set_option maxHeartbeats 8000000 in
theorem moves_walk (w : World) (e : Int) (ao : Option Addr) (cap : Nat) (l : List Pc) (h : RdP w ao cap l) (r1 r2 tg : Int) :
    Calls Try.prog 3 #[.agg #[.int .i64 e, .slice ao l.length cap], .agg #[.int .i64 r1, .int .i64 r2], .int .i64 tg] w fun x w' => x = .returned (.bool true) ∧ Below w.heap.size w w' := by
  obtain ⟨W2, hW2⟩ : ∃ W2, W2 = (w.alloc (.cells #[.int .i64 e, .slice ao l.length cap] 24)).alloc (.cells #[.int .i64 r1, .int .i64 r2] 26) := ⟨_, rfl⟩
  have b0 : Bx W2 w.heap.size #[.int .i64 e, .slice ao l.length cap] 24 := by rw [hW2]; exact (Bx.new w _ _).alloc _
  have b1 : Bx W2 (w.heap.size + 1) #[.int .i64 r1, .int .i64 r2] 26 := by rw [hW2]; exact Bx.new1 w _ _ _
  have hB : Below w.heap.size w W2 := by rw [hW2]; exact ((Below.refl _ w).alloc (Nat.le_refl _) _).alloc (by simp) _
  have hz : W2.heap.size = w.heap.size + 2 := by rw [hW2]; simp
  have HF := mkH (few_any W2 e ao cap l (h.below hB))
  obtain ⟨c0, c1, -, -⟩ := two_load (P := Try.prog) b0
  have HB0 := mkH b0
  have HB1 := mkH b1
  have HBW := mkH hB
  have HZ := mkH hz
  have HW := mkH hW2
  clear b0 b1 hB hz hW2 h
  go_enter Try.func3, Try.ntmps3
  go_wp2_with fail
  rw [show (w.alloc (.cells #[.int .i64 e, .slice ao l.length cap] 24)).alloc (.cells #[.int .i64 r1, .int .i64 r2] 26) = W2 from HW.out.symm]
  clear HW
  refine HF.out.mono ?_
  rintro x w3 ⟨a1, k1, rfl, ho1, hb3⟩
  have hll : (l.take 30).length ≤ 30 := by rw [List.length_take]; omega
  have htt : (l.take 30).take 30 = l.take 30 := List.take_of_length_le hll
  generalize l.take 30 = ll at *
  have D0 := HB0.out.bel hb3
  have D1 := HB1.out.bel hb3
  have s1 := D0.set 0 (.int .i64 e)
  have s2 := s1.set 1 (.slice a1 ll.length k1)
  have hf := (D0.frset 0 (.int .i64 e)).trans (s1.frset 1 (.slice a1 ll.length k1)) (fun i hi => .inl hi)
  have HX := mkH s2
  have HO1 : Hid (OwP ((w3.setCell ⟨w.heap.size, 0, none⟩ (.int .i64 e)).setCell ⟨w.heap.size, 1, none⟩ (.slice a1 ll.length k1)) W2.heap.size a1 k1 ll) := mkH ⟨own_fr ho1.o hf (fun k hk hq => own_ne ho1.o D0 hk (by decide) hq)⟩
  have HY := mkH ((D1.other (p := ⟨w.heap.size, 0, none⟩) (by simp) (.int .i64 e)).other (p := ⟨w.heap.size, 1, none⟩) (by simp) (.slice a1 ll.length k1))
  have HBV : Hid (Below w.heap.size w ((w3.setCell ⟨w.heap.size, 0, none⟩ (.int .i64 e)).setCell ⟨w.heap.size, 1, none⟩ (.slice a1 ll.length k1))) := mkH (((HBW.out.trans (hb3.mono HBW.out.size)).setCell (Nat.le_refl _) _).setCell (Nat.le_refl _) _)
  have hzz : w.heap.size + 2 ≤ ((w3.setCell ⟨w.heap.size, 0, none⟩ (.int .i64 e)).setCell ⟨w.heap.size, 1, none⟩ (.slice a1 ll.length k1)).heap.size := by
    have := hf.size; have := hb3.size; have := HZ.out; omega
  obtain ⟨g0, g1, g2, g3⟩ := two_load (P := Try.prog) D0
  clear D0 D1 s1 s2 hf ho1 hb3 HB0 HB1 HBW HF c0 c1
  obtain ⟨x0, x1, -, -⟩ := two_load (P := Try.prog) HX.out
  go_wp2_with fail
  generalize (w3.setCell ⟨w.heap.size, 0, none⟩ (.int .i64 e)).setCell ⟨w.heap.size, 1, none⟩ (.slice a1 ll.length k1) = W4 at *
  clear g0 g1 g2 g3 x0 x1
  have HO9 := mkH (HO1.out.mono (show w.heap.size ≤ W2.heap.size by have := HZ.out; omega))
  clear HO1
  have HF2 := few_any W4 e a1 k1 ll HO9.out.rd
  rw [htt] at HF2
  have HF2 := mkH HF2
  clear htt HZ w3 W2
  refine HF2.out.mono ?_
  rintro x w5 ⟨a7, k7, rfl, ho7, hb5⟩
  have hal5 : Below w5.heap.size w5 (w5.alloc (.cells #[.int .i64 e, .slice a7 ll.length k7] 24)) := (Below.refl _ w5).alloc (Nat.le_refl _) _
  have X7 : Hid (Bx (w5.alloc (.cells #[.int .i64 e, .slice a7 ll.length k7] 24)) w5.heap.size #[.int .i64 e, .slice a7 ll.length k7] 24) := mkH (Bx.new _ _ _)
  have X3 := mkH ((HX.out.bel hb5).bel hal5)
  have X4 := mkH ((HY.out.bel hb5).bel hal5)
  have O1 := mkH ((HO9.out.below hb5).below hal5)
  have O7 := mkH ((ho7.below hal5).mono (show w.heap.size ≤ W4.heap.size by omega))
  have BW := mkH ((HBV.out.trans (hb5.mono HBV.out.size)).trans (hal5.mono (Nat.le_trans HBV.out.size hb5.size)))
  clear ho7 hb5 hal5 HX HY HO9 HBV HF2 hzz
  obtain ⟨x0, x1, -, -⟩ := two_load (P := Try.prog) X3.out
  obtain ⟨y0, y1, -, -⟩ := two_load (P := Try.prog) X4.out
  obtain ⟨q, hq⟩ : ∃ q, q = mvE e ll (r1, r2) tg := ⟨_, rfl⟩
  go_wp2_with fail
  generalize w5.heap.size = B7 at *
  generalize w5.alloc (.cells #[.int .i64 e, .slice a7 ll.length k7] 24) = W6 at *
  have HM := move_any W6 e a1 k1 ll O1.out.rd (by omega) r1 r2 tg
  rw [← hq] at HM
  have HM := mkH HM
  have HQ := mkH hq
  clear hq
  refine HM.out.mono ?_
  rintro x w7 ⟨a8, k8, rfl, ho8, hb7⟩
  have hal7 : Below w7.heap.size w7 (w7.alloc (.cells #[.int .i64 q.1, .slice a8 q.2.1.length k8] 24)) := (Below.refl _ w7).alloc (Nat.le_refl _) _
  have X8 : Hid (Bx (w7.alloc (.cells #[.int .i64 q.1, .slice a8 q.2.1.length k8] 24)) w7.heap.size #[.int .i64 q.1, .slice a8 q.2.1.length k8] 24) := mkH (Bx.new _ _ _)
  have X3 := mkH ((X3.out.bel hb7).bel hal7)
  have X4 := mkH ((X4.out.bel hb7).bel hal7)
  have X7 := mkH ((X7.out.bel hb7).bel hal7)
  have O1 := mkH ((O1.out.below hb7).below hal7)
  have O7 := mkH ((O7.out.below hb7).below hal7)
  have O8 := mkH ((ho8.below hal7).mono BW.out.size)
  have BW := mkH ((BW.out.trans (hb7.mono BW.out.size)).trans (hal7.mono (Nat.le_trans BW.out.size hb7.size)))
  clear ho8 hb7 hal7 x0 x1 y0 y1 HM
  obtain ⟨x0, x1, -, -⟩ := two_load (P := Try.prog) X3.out
  obtain ⟨y0, y1, -, -⟩ := two_load (P := Try.prog) X4.out
  go_wp2_with fail
  generalize w7.heap.size = B8 at *
  generalize w7.alloc (.cells #[.int .i64 q.1, .slice a8 q.2.1.length k8] 24) = W8 at *
  have HM := Cj.rmove_any W8 e a1 k1 ll O1.out.rd (by omega) r1 r2 tg
  rw [← HQ.out] at HM
  have HM := mkH HM
  refine HM.out.mono ?_
  rintro x w9 ⟨a10, k10, rfl, ho10, hb9⟩
  have hal9 : Below w9.heap.size w9 (w9.alloc (.cells #[.int .i64 q.1, .slice a10 q.2.1.length k10] 24)) := (Below.refl _ w9).alloc (Nat.le_refl _) _
  have X10 : Hid (Bx (w9.alloc (.cells #[.int .i64 q.1, .slice a10 q.2.1.length k10] 24)) w9.heap.size #[.int .i64 q.1, .slice a10 q.2.1.length k10] 24) := mkH (Bx.new _ _ _)
  have X3 := mkH ((X3.out.bel hb9).bel hal9)
  have X7 := mkH ((X7.out.bel hb9).bel hal9)
  have X8 := mkH ((X8.out.bel hb9).bel hal9)
  have O1 := mkH ((O1.out.below hb9).below hal9)
  have O7 := mkH ((O7.out.below hb9).below hal9)
  have O8 := mkH ((O8.out.below hb9).below hal9)
  have O10 := mkH ((ho10.below hal9).mono BW.out.size)
  have BW := mkH ((BW.out.trans (hb9.mono BW.out.size)).trans (hal9.mono (Nat.le_trans BW.out.size hb9.size)))
  clear ho10 hb9 hal9 x0 x1 y0 y1 HM X4 HQ
  go_wp2_with fail
  generalize w9.heap.size = B10 at *
  generalize w9.alloc (.cells #[.int .i64 q.1, .slice a10 q.2.1.length k10] 24) = W0 at *
  obtain ⟨qe, ql, qr⟩ := q
  simp only at X8 X10 O8 O10
  have HC : Hid (∀ W, Below W0.heap.size W0 W → W.cell? ⟨w.heap.size, 0, none⟩ = some (.int .i64 e) ∧ W.cell? ⟨w.heap.size, 1, none⟩ = some (.slice a1 ll.length k1) ∧ W.cell? ⟨B7, 0, none⟩ = some (.int .i64 e) ∧ W.cell? ⟨B7, 1, none⟩ = some (.slice a7 ll.length k7) ∧ W.cell? ⟨B8, 0, none⟩ = some (.int .i64 qe) ∧ W.cell? ⟨B8, 1, none⟩ = some (.slice a8 ql.length k8) ∧ W.cell? ⟨B10, 0, none⟩ = some (.int .i64 qe) ∧ W.cell? ⟨B10, 1, none⟩ = some (.slice a10 ql.length k10)) := mkH (fun W hb =>
    ⟨(X3.out.bel hb).cell 0 _ rfl, (X3.out.bel hb).cell 1 _ rfl, (X7.out.bel hb).cell 0 _ rfl, (X7.out.bel hb).cell 1 _ rfl, (X8.out.bel hb).cell 0 _ rfl, (X8.out.bel hb).cell 1 _ rfl, (X10.out.bel hb).cell 0 _ rfl, (X10.out.bel hb).cell 1 _ rfl⟩)
  have H1 : Hid (∀ W, Below W0.heap.size W0 W → Calls Try.prog 10 #[.agg #[.int .i64 qe, .slice a8 ql.length k8], .agg #[.int .i64 qe, .slice a10 ql.length k10]] W fun z w' => z = .returned (.bool true) ∧ Below W0.heap.size W0 w') :=
    mkH (fun W hb => (rsame_any W qe qe a8 a10 k8 k10 ql ql (O8.out.rd.below hb) (O10.out.rd.below hb)).mono (fun z w' ⟨h1, h2⟩ => ⟨by rw [h1, decide_eq_true ⟨rfl, rfl⟩], hb.trans (h2.mono hb.size)⟩))
  have H2 : Hid (∀ W, Below W0.heap.size W0 W → Calls Try.prog 10 #[.agg #[.int .i64 e, .slice a1 ll.length k1], .agg #[.int .i64 e, .slice a7 ll.length k7]] W fun z w' => z = .returned (.bool true) ∧ Below W0.heap.size W0 w') :=
    mkH (fun W hb => (rsame_any W e e a1 a7 k1 k7 ll ll (O1.out.rd.below hb) (O7.out.rd.below hb)).mono (fun z w' ⟨h1, h2⟩ => ⟨by rw [h1, decide_eq_true ⟨rfl, rfl⟩], hb.trans (h2.mono hb.size)⟩))
  have H3 : Hid (∀ W, Below W0.heap.size W0 W → Calls Try.prog 11 #[.agg #[.int .i64 e, .slice a1 ll.length k1], .agg #[.int .i64 e, .slice a7 ll.length k7]] W fun z w' => z = .returned (.bool true) ∧ Below W0.heap.size W0 w') :=
    mkH (fun W hb => (same_any W e e a1 a7 k1 k7 ll ll (O1.out.rd.below hb) (O7.out.rd.below hb)).mono (fun z w' ⟨h1, h2⟩ => ⟨by rw [h1, decide_eq_true ⟨rfl, rfl⟩], hb.trans (h2.below.mono hb.size)⟩))
  obtain ⟨dd, hdd⟩ : ∃ dd, dd = decide (qe = e ∧ ql = ll) := ⟨_, rfl⟩
  have H4 : Hid (∀ W, Below W0.heap.size W0 W → Calls Try.prog 11 #[.agg #[.int .i64 qe, .slice a8 ql.length k8], .agg #[.int .i64 e, .slice a1 ll.length k1]] W fun z w' => z = .returned (.bool dd) ∧ Below W0.heap.size W0 w') :=
    mkH (fun W hb => (same_any W qe e a8 a1 k8 k1 ql ll (O8.out.rd.below hb) (O1.out.rd.below hb)).mono (fun z w' ⟨h1, h2⟩ => ⟨by rw [h1, hdd], hb.trans (h2.below.mono hb.size)⟩))
  have H5 : Hid (∀ W, Below W0.heap.size W0 W → Calls Try.prog 10 #[.agg #[.int .i64 qe, .slice a8 ql.length k8], .agg #[.int .i64 e, .slice a1 ll.length k1]] W fun z w' => z = .returned (.bool dd) ∧ Below W0.heap.size W0 w') :=
    mkH (fun W hb => (rsame_any W qe e a8 a1 k8 k1 ql ll (O8.out.rd.below hb) (O1.out.rd.below hb)).mono (fun z w' ⟨h1, h2⟩ => ⟨by rw [h1, hdd], hb.trans (h2.mono hb.size)⟩))
  have H6 : Hid (∀ W, Below W0.heap.size W0 W → Calls Try.prog 12 #[] W fun z w' => z = .returned (.bool true) ∧ Below W0.heap.size W0 w') :=
    mkH (fun W hb => (works_any W).mono (fun z w' ⟨h1, h2⟩ => ⟨h1, hb.trans (h2.mono hb.size)⟩))
  obtain ⟨c0, c1, c2, c3, c4, c5, c6, c7⟩ := HC.out W0 (Below.refl _ _)
  clear hdd X3 X7 X8 X10 O1 O7 O8 O10 hll
  go_region_held3 (fun W => W.cell? ⟨w.heap.size, 0, none⟩ = some (.int .i64 e) ∧ W.cell? ⟨w.heap.size, 1, none⟩ = some (.slice a1 ll.length k1) ∧ W.cell? ⟨B7, 0, none⟩ = some (.int .i64 e) ∧ W.cell? ⟨B7, 1, none⟩ = some (.slice a7 ll.length k7) ∧ W.cell? ⟨B8, 0, none⟩ = some (.int .i64 qe) ∧ W.cell? ⟨B8, 1, none⟩ = some (.slice a8 ql.length k8) ∧ W.cell? ⟨B10, 0, none⟩ = some (.int .i64 qe) ∧ W.cell? ⟨B10, 1, none⟩ = some (.slice a10 ql.length k10)) (first | go_keep | exact hkeep) (first
    | (go_at_call 12; refine (H6.out _ (by (repeat (first | exact hbX | exact Below.refl _ _ | refine Below.drew ?_ | refine Gf.below_drewN ?_ _)))).mono ?_; rintro z w11 ⟨rfl, hbX⟩; have hkeep := (by exact HC.out w11 hbX))
    | (go_at_call 10; with_reducible refine (H1.out _ (by (repeat (first | exact hbX | exact Below.refl _ _ | refine Below.drew ?_ | refine Gf.below_drewN ?_ _)))).mono ?_; rintro z w11 ⟨rfl, hbX⟩; have hkeep := (by exact HC.out w11 hbX))
    | (go_at_call 10; with_reducible refine (H2.out _ (by (repeat (first | exact hbX | exact Below.refl _ _ | refine Below.drew ?_ | refine Gf.below_drewN ?_ _)))).mono ?_; rintro z w11 ⟨rfl, hbX⟩; have hkeep := (by exact HC.out w11 hbX))
    | (go_at_call 10; with_reducible refine (H5.out _ (by (repeat (first | exact hbX | exact Below.refl _ _ | refine Below.drew ?_ | refine Gf.below_drewN ?_ _)))).mono ?_; rintro z w11 ⟨rfl, hbX⟩; have hkeep := (by exact HC.out w11 hbX))
    | (go_at_call 11; with_reducible refine (H3.out _ (by (repeat (first | exact hbX | exact Below.refl _ _ | refine Below.drew ?_ | refine Gf.below_drewN ?_ _)))).mono ?_; rintro z w11 ⟨rfl, hbX⟩; have hkeep := (by exact HC.out w11 hbX))
    | (go_at_call 11; with_reducible refine (H4.out _ (by (repeat (first | exact hbX | exact Below.refl _ _ | refine Below.drew ?_ | refine Gf.below_drewN ?_ _)))).mono ?_; rintro z w11 ⟨rfl, hbX⟩; have hkeep := (by exact HC.out w11 hbX)))
  all_goals
    go_wp2
    go_ret
    exact ⟨by first | rfl | simp, BW.out.trans (hbX.mono BW.out.size)⟩
end Go.Proofs.Ytcpmcfagibmboaa.Cm
