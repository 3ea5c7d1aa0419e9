/-
  The walk of GroupSends.
-/
import Derived.Test.YtbemindfmghjdaaDoorGpX
import Derived.Test.YtbemindfmghjdaaDoorGpRs
import Derived.Test.YtbemindfmghjdaaDoorGpQ
import Derived.Test.YtbemindfmghjdaaDoorGpT2
import Derived.Test.YtbemindfmghjdaaDoorGpSm
import Derived.Test.YtbemindfmghjdaaDoorGpW
namespace Go.Proofs.YtbemindfmghjdaaDoor.Gsd
open Go.RowKit Kt Gf Gp Gr Gk Ga Gs Gb Gg Gm Gn Gx
set_option linter.unusedVariables false
set_option linter.unusedSimpArgs false
set_option maxRecDepth 20000

theorem gl_nil (w : World) : Gl w ⟨1, [], [], ⟨#[]⟩⟩ none 0 none 0 := by
  exact ⟨RowS.nil w none, RowS.nil w none, by decide, by decide, by decide, by decide⟩

set_option maxHeartbeats 8000000 in
theorem send_walk (w : World) (g : G) (ka : Option Addr) (kc : Nat) (ma : Option Addr) (mc : Nat) (h : Gl w g ka kc ma mc) (a : Q) (hT : Dt.Tb w) :
    Calls Tryd.prog 3 #[.agg (gC g ka kc ma mc), .agg (qC a)] w fun e w' => e = .returned (.bool true) ∧ Below w.heap.size w w' := by
  have HL := mkH h
  clear h
  obtain ⟨n1, k1, m1, t1, hfg, hok1, hk1, hm1⟩ := few_g g
  obtain ⟨c0, c1, c2, c3, c4, c5, c6, hfq, e0, e1, e2, e3, e4, e5, e6⟩ := few_q a
  have HFG := mkH hfg
  have HFQ := mkH hfq
  have HOK := mkH hok1
  clear hfg hfq hok1
  obtain ⟨nx, kp, mk, at'⟩ := g
  obtain ⟨b0, b1, b2, b3, b4, b5, b6⟩ := a
  simp only [gC, qC]
  have HA : Hid (Below w.heap.size w ((w.alloc (.cells #[Value.int .i64 nx, .slice ka kp.length kc, .slice ma mk.length mc, .string at'] 25)).alloc (.cells #[Value.int .i64 b0, .int .i64 b1, .int .i64 b2, .int .i64 b3, .int .i64 b4, .string b5, .string b6] 27))) := ((Below.refl _ w).alloc (Nat.le_refl _) _).alloc (by simp) _
  have HB3 := mkH ((Bx.new w #[Value.int .i64 nx, .slice ka kp.length kc, .slice ma mk.length mc, .string at'] 25).alloc (.cells #[Value.int .i64 b0, .int .i64 b1, .int .i64 b2, .int .i64 b3, .int .i64 b4, .string b5, .string b6] 27))
  have HB4 := mkH (Bx.new1 w (.cells #[Value.int .i64 nx, .slice ka kp.length kc, .slice ma mk.length mc, .string at'] 25) #[Value.int .i64 b0, .int .i64 b1, .int .i64 b2, .int .i64 b3, .int .i64 b4, .string b5, .string b6] 27)
  go_enter Tryd.func3, Tryd.ntmps3
  go_upto_region 1 with fail
  generalize (w.alloc (.cells #[Value.int .i64 nx, .slice ka kp.length kc, .slice ma mk.length mc, .string at'] 25)).alloc (.cells #[Value.int .i64 b0, .int .i64 b1, .int .i64 b2, .int .i64 b3, .int .i64 b4, .string b5, .string b6] 27) = w0 at *
  obtain ⟨B4, hB4⟩ : ∃ B, w.heap.size + 1 = B := ⟨_, rfl⟩
  rw [hB4] at HB4 ⊢
  have r1 : w.heap.size < B4 := by omega
  have n34 : ¬ w.heap.size = B4 := by omega
  have n43 : ¬ B4 = w.heap.size := by omega
  clear hB4
  have hFW := Few_any w0.drew ⟨nx, kp, mk, at'⟩ ka kc ma mc ((HL.out.below HA.out).below (below_drew w0))
  rw [HFG.out] at hFW
  simp only [gC] at hFW
  have HFW := mkH hFW
  clear hFW
  have HFQ2 : Hid (∀ W, Calls Tryd.prog 9 #[.agg #[Value.int .i64 b0, .int .i64 b1, .int .i64 b2, .int .i64 b3, .int .i64 b4, .string b5, .string b6]] W fun e w' => e = .returned (.agg #[Value.int .i64 c0, .int .i64 c1, .int .i64 c2, .int .i64 c3, .int .i64 c4, .string c5, .string c6]) ∧ Below W.heap.size W w') := fun W => by
    have := few_any W ⟨b0, b1, b2, b3, b4, b5, b6⟩
    rw [HFQ.out] at this
    exact this
  obtain ⟨y0, y1, y2, y3, -⟩ := HB3.out.four
  obtain ⟨x0, x1, x2, x3, x4, x5, x6⟩ := seven HB4.out
  go_cut [2] (fun v3 WW => v3 = .pointer (some ⟨w.heap.size, 0, none⟩) ∧ ∃ ka1 kc1 ma1 mc1, Gin WW w.heap.size ⟨n1, k1, m1, t1⟩ ka1 kc1 ma1 mc1 ∧ Bx WW B4 #[Value.int .i64 c0, .int .i64 c1, .int .i64 c2, .int .i64 c3, .int .i64 c4, .string c5, .string c6] 27 ∧ Below w.heap.size w WW)
  case first =>
    go_region_with (first
      | (go_at_call 8; refine HFW.out.mono ?_; rintro e w1 ⟨ka1, kc1, ma1, mc1, rfl, hg1, hb1⟩; have hb1' : Below w0.heap.size w0 w1 := (below_drew w0).trans hb1; have HG1 := mkH hg1; have HC3 := mkH (HB3.out.bel hb1'); have HC4 := mkH (HB4.out.bel hb1'); obtain ⟨x0, x1, x2, x3, x4, x5, x6⟩ := seven HC4.out; have HBB := mkH hb1'; clear hg1 hb1 hb1')
      | (go_at_call 9; refine (HFQ2.out _).mono ?_; rintro e w2 ⟨rfl, hb2⟩; have HG2 := mkH (Go'.below HG1.out hb2); have HD3 := mkH (HC3.out.bel hb2); have HD4 := mkH (HC4.out.bel hb2); obtain ⟨f0, f1, f2, f3, v0, v1, v2, v3⟩ := HD3.out.four; obtain ⟨x0, x1, x2, x3, x4, x5, x6⟩ := seven HD4.out; obtain ⟨u0, u1, u2, u3, u4, u5, u6⟩ := frz7 HD4.out; have HB2 : Hid (Below w.heap.size w w2) := (HA.out.trans (HBB.out.mono HA.out.size)).trans (hb2.mono (Nat.le_trans HA.out.size HBB.out.size)); clear hb2))
    all_goals
      go_wp2_with fail
      go_meet
      case rel =>
        obtain ⟨p1, q1⟩ := HD3.out.sAll (v0 := .int .i64 n1) (v1 := .slice ka1 k1.length kc1) (v2 := .slice ma1 m1.length mc1) (v3 := .string t1)
        have p4 := HD4.out.fr q1 n43
        obtain ⟨p2, q2⟩ := sAll7 p4 (v0 := .int .i64 c0) (v1 := .int .i64 c1) (v2 := .int .i64 c2) (v3 := .int .i64 c3) (v4 := .int .i64 c4) (v5 := .string c5) (v6 := .string c6)
        have p3 := p1.fr q2 n34
        have hlt : ∀ k, w0.drew.heap.size ≤ k → k ≠ w.heap.size ∧ k ≠ B4 := fun k hk => by
          have h1 := HB4.out.lt
          have h2 : w0.heap.size ≤ k := hk
          omega
        have k2 := own_fr (own_fr HG2.out.k q1 (fun k hk e => (hlt k (HG2.out.k.lt k hk).1).1 e)) q2 (fun k hk e => (hlt k (HG2.out.k.lt k hk).1).2 e)
        have l2 := own_fr (own_fr HG2.out.m q1 (fun k hk e => (hlt k (HG2.out.m.lt k hk).1).1 e)) q2 (fun k hk e => (hlt k (HG2.out.m.lt k hk).1).2 e)
        exact ⟨rfl, ka1, kc1, ma1, mc1, ⟨p3, Go'.gl (B := w0.drew.heap.size) ⟨k2, l2⟩⟩, p2, below_fr (below_fr HB2.out q1 (fun k hk => by omega) (Nat.le_refl _)) q2 (fun k hk => by omega) (Nat.le_refl _)⟩
  case rest =>
    obtain ⟨rfl, ka1, kc1, ma1, mc1, hgin, hq4, hbw⟩ := hcut
    have HG := mkH hgin
    have HQ := mkH hq4
    have HB := mkH hbw
    clear hgin hq4 hbw HFW HFQ2 HB3 HB4 HA HL y0 y1 y2 y3 x0 x1 x2 x3 x4 x5 x6
    obtain ⟨y0, y1, y2, y3, -⟩ := HG.out.b.four
    obtain ⟨x0, x1, x2, x3, x4, x5, x6⟩ := seven HQ.out
    have s0 : Sm c0 := ⟨e0.1, by omega⟩
    have s2 : Sm c2 := ⟨e2.1, by omega⟩
    have hff : fewG ⟨n1, k1, m1, t1⟩ = ⟨n1, k1, m1, t1⟩ := by rw [← HFG.out, few_few]
    have hFW := Few_any wc ⟨n1, k1, m1, t1⟩ ka1 kc1 ma1 mc1 HG.out.l
    rw [hff] at hFW
    simp only [gC] at hFW
    have HFW := mkH hFW
    clear hFW hff
    go_wp2_with fail
    refine HFW.out.mono ?_
    rintro e w2 ⟨ka2, kc2, ma2, mc2, rfl, hg2, hb2⟩
    have hal : Below w2.heap.size w2 (w2.alloc (.cells #[Value.int .i64 n1, .slice ka2 k1.length kc2, .slice ma2 m1.length mc2, .string t1] 25)) := (Below.refl _ w2).alloc (Nat.le_refl _) _
    have hb2a : Below wc.heap.size wc (w2.alloc (.cells #[Value.int .i64 n1, .slice ka2 k1.length kc2, .slice ma2 m1.length mc2, .string t1] 25)) := hb2.trans (hal.mono hb2.size)
    have HW := mkH (Gin.mk (g := ⟨n1, k1, m1, t1⟩) (Bx.new w2 #[Value.int .i64 n1, .slice ka2 k1.length kc2, .slice ma2 m1.length mc2, .string t1] 25) (hg2.gl.below hal))
    have HG2 := mkH (HG.out.below hb2a)
    have HQ2 := mkH (HQ.out.bel hb2a)
    have HB2 : Hid (Below w.heap.size w (w2.alloc (.cells #[Value.int .i64 n1, .slice ka2 k1.length kc2, .slice ma2 m1.length mc2, .string t1] 25))) := HB.out.trans (hb2a.mono HB.out.size)
    clear hg2 hb2 hal hb2a HFW y0 y1 y2 y3 x0 x1 x2 x3 x4 x5 x6 HG HQ HB
    obtain ⟨y0, y1, y2, y3, -⟩ := HG2.out.b.four
    obtain ⟨x0, x1, x2, x3, x4, x5, x6⟩ := seven HQ2.out
    obtain ⟨T, hTk⟩ : ∃ T, Gd.tkn c6 c5 = T := ⟨_, rfl⟩
    obtain ⟨h4, hh4⟩ : ∃ x, sendG ⟨n1, k1, m1, t1⟩ c0 c1 c5 T = x := ⟨_, rfl⟩
    obtain ⟨sn, hsn⟩ : ∃ x, sendN ⟨n1, k1, m1, t1⟩ T = x := ⟨_, rfl⟩
    obtain ⟨se, hse⟩ : ∃ x, sendE ⟨n1, k1, m1, t1⟩ T = x := ⟨_, rfl⟩
    have hTw : ∀ W, Below w.heap.size w W → Dt.Tb W := fun W hW => hT.below hW hT.size
    have hSd : ∀ W ka kc ma mc, Gl W ⟨n1, k1, m1, t1⟩ ka kc ma mc → Below w.heap.size w W → Calls Tryd.prog 10 #[.agg (gC ⟨n1, k1, m1, t1⟩ ka kc ma mc), .int .i64 c0, .int .i64 c1, .string c5, .string c6] W fun e w' => ∃ ka' kc' ma' mc', e = .returned (.tuple #[.agg (gC h4 ka' kc' ma' mc'), .int .i64 sn, .int .i64 se]) ∧ Go' W.heap.size w' h4 ka' kc' ma' mc' ∧ Below W.heap.size W w' := fun W ka kc ma mc hl hW => by
      rw [← hh4, ← hsn, ← hse]
      by_cases htk : c6 = ⟨#[]⟩
      · exact Gd.Send_emp W _ ka kc ma mc hl (by show k1.length ≤ _; omega) (by show m1.length ≤ _; omega) HOK.out.1 c0 c1 c5 c6 htk (hTw W hW) (by omega) T hTk
      · exact Gd.Send_tok W _ ka kc ma mc hl (by show k1.length ≤ _; omega) (by show m1.length ≤ _; omega) HOK.out.1 c0 c1 c5 c6 htk T hTk
    have hRd : ∀ W ka kc ma mc, Gl W ⟨n1, k1, m1, t1⟩ ka kc ma mc → Calls Tryd.prog 11 #[.agg (gC ⟨n1, k1, m1, t1⟩ ka kc ma mc), .int .i64 c0, .int .i64 c1, .string c5, .string c6] W fun e w' => ∃ ka' kc' ma' mc', e = .returned (.tuple #[.agg (gC h4 ka' kc' ma' mc'), .int .i64 sn, .int .i64 se]) ∧ Go' W.heap.size w' h4 ka' kc' ma' mc' ∧ Below W.heap.size W w' := fun W ka kc ma mc hl => by
      rw [← hh4, ← hsn, ← hse]
      by_cases htk : c6 = ⟨#[]⟩
      · exact Grs.RSend_emp W _ ka kc ma mc hl (by show k1.length ≤ _; omega) (by show m1.length ≤ _; omega) HOK.out.1 c0 c1 c5 c6 htk (by omega) T hTk
      · exact Grs.RSend_tok W _ ka kc ma mc hl (by show k1.length ≤ _; omega) (by show m1.length ≤ _; omega) HOK.out.1 c0 c1 c5 c6 htk T hTk
    have hl4 : h4.kept.length ≤ 21 ∧ h4.marks.length ≤ 51 := by
      rw [← hh4]; unfold sendG
      split
      · exact ⟨by show k1.length ≤ _; omega, by show m1.length ≤ _; omega⟩
      · split
        · exact ⟨by show k1.length ≤ _; omega, by show m1.length ≤ _; omega⟩
        · simp; omega
    have hse2 : se = 0 ∨ se = 7 := by
      rw [← hse]; unfold sendE
      split
      · exact .inl rfl
      · split
        · exact .inr rfl
        · exact .inl rfl
    clear hTk hh4 hsn hse hTw
    obtain ⟨n4, k4, m4, t4⟩ := h4
    simp only [gC] at hSd hRd
    simp only at hl4
    obtain ⟨hk4, hm4⟩ := hl4
    have HSD := mkH (hSd _ _ _ _ _ HG2.out.l HB2.out)
    have HRD := mkH hRd
    clear hSd hRd
    go_wp2_with fail
    refine HSD.out.mono ?_
    rintro e w4 ⟨ka4, kc4, ma4, mc4, rfl, hg4, hb4⟩
    have hal : Below w4.heap.size w4 (w4.alloc (.cells #[Value.int .i64 n4, .slice ka4 k4.length kc4, .slice ma4 m4.length mc4, .string t4] 25)) := (Below.refl _ w4).alloc (Nat.le_refl _) _
    have hb4a : Below (w2.alloc (.cells #[Value.int .i64 n1, .slice ka2 k1.length kc2, .slice ma2 m1.length mc2, .string t1] 25)).heap.size (w2.alloc (.cells #[Value.int .i64 n1, .slice ka2 k1.length kc2, .slice ma2 m1.length mc2, .string t1] 25)) (w4.alloc (.cells #[Value.int .i64 n4, .slice ka4 k4.length kc4, .slice ma4 m4.length mc4, .string t4] 25)) := hb4.trans (hal.mono hb4.size)
    have HX4 := mkH (Gin.mk (g := ⟨n4, k4, m4, t4⟩) (Bx.new w4 #[Value.int .i64 n4, .slice ka4 k4.length kc4, .slice ma4 m4.length mc4, .string t4] 25) (hg4.gl.below hal))
    have HG4 := mkH (HG2.out.below hb4a)
    have HW4 := mkH (HW.out.below hb4a)
    have HQ4 := mkH (HQ2.out.bel hb4a)
    have HB4 : Hid (Below w.heap.size w (w4.alloc (.cells #[Value.int .i64 n4, .slice ka4 k4.length kc4, .slice ma4 m4.length mc4, .string t4] 25))) := HB2.out.trans (hb4a.mono HB2.out.size)
    clear hg4 hb4 hal hb4a HSD y0 y1 y2 y3 x0 x1 x2 x3 x4 x5 x6 HG2 HW HQ2 HB2
    obtain ⟨y0, y1, y2, y3, -⟩ := HG4.out.b.four
    obtain ⟨x0, x1, x2, x3, x4, x5, x6⟩ := seven HQ4.out
    have HSD := mkH (HRD.out _ _ _ _ _ HG4.out.l)
    clear HRD
    go_wp2_with fail
    refine HSD.out.mono ?_
    rintro e w6 ⟨ka6, kc6, ma6, mc6, rfl, hg6, hb6⟩
    have hal : Below w6.heap.size w6 (w6.alloc (.cells #[Value.int .i64 n4, .slice ka6 k4.length kc6, .slice ma6 m4.length mc6, .string t4] 25)) := (Below.refl _ w6).alloc (Nat.le_refl _) _
    have hb6a : Below (w4.alloc (.cells #[Value.int .i64 n4, .slice ka4 k4.length kc4, .slice ma4 m4.length mc4, .string t4] 25)).heap.size (w4.alloc (.cells #[Value.int .i64 n4, .slice ka4 k4.length kc4, .slice ma4 m4.length mc4, .string t4] 25)) (w6.alloc (.cells #[Value.int .i64 n4, .slice ka6 k4.length kc6, .slice ma6 m4.length mc6, .string t4] 25)) := hb6.trans (hal.mono hb6.size)
    have HY6 := mkH (Gin.mk (g := ⟨n4, k4, m4, t4⟩) (Bx.new w6 #[Value.int .i64 n4, .slice ka6 k4.length kc6, .slice ma6 m4.length mc6, .string t4] 25) (hg6.gl.below hal))
    have HX6 := mkH (HX4.out.below hb6a)
    have HG6 := mkH (HG4.out.below hb6a)
    have HW6 := mkH (HW4.out.below hb6a)
    have HQ6 := mkH (HQ4.out.bel hb6a)
    have HB6 : Hid (Below w.heap.size w (w6.alloc (.cells #[Value.int .i64 n4, .slice ka6 k4.length kc6, .slice ma6 m4.length mc6, .string t4] 25))) := HB4.out.trans (hb6a.mono HB4.out.size)
    clear hg6 hb6 hal hb6a HSD y0 y1 y2 y3 x0 x1 x2 x3 x4 x5 x6 HX4 HG4 HW4 HQ4 HB4
    go_upto_region 5 with fail
    generalize w6.alloc (.cells #[Value.int .i64 n4, .slice ka6 k4.length kc6, .slice ma6 m4.length mc6, .string t4] 25) = W6 at *
    obtain ⟨B9, hB9⟩ : ∃ B, w6.heap.size = B := ⟨_, rfl⟩
    obtain ⟨B6, hB6⟩ : ∃ B, w4.heap.size = B := ⟨_, rfl⟩
    obtain ⟨B5, hB5⟩ : ∃ B, w2.heap.size = B := ⟨_, rfl⟩
    rw [hB9] at HY6
    rw [hB6] at HX6
    rw [hB5] at HW6
    rw [hB9, hB6, hB5]
    clear hB9 hB6 hB5
    have HKD : Hid (∀ W, Below W6.heap.size W6 W → W.cell? ⟨B6, 0, none⟩ = some (.int .i64 n4) ∧ W.cell? ⟨B6, 1, none⟩ = some (.slice ka4 k4.length kc4) ∧ W.cell? ⟨B6, 2, none⟩ = some (.slice ma4 m4.length mc4) ∧ W.cell? ⟨B6, 3, none⟩ = some (.string t4) ∧ W.cell? ⟨B9, 0, none⟩ = some (.int .i64 n4) ∧ W.cell? ⟨B9, 1, none⟩ = some (.slice ka6 k4.length kc6) ∧ W.cell? ⟨B9, 2, none⟩ = some (.slice ma6 m4.length mc6) ∧ W.cell? ⟨B9, 3, none⟩ = some (.string t4) ∧ W.cell? ⟨w.heap.size, 0, none⟩ = some (.int .i64 n1) ∧ W.cell? ⟨w.heap.size, 1, none⟩ = some (.slice ka1 k1.length kc1) ∧ W.cell? ⟨w.heap.size, 2, none⟩ = some (.slice ma1 m1.length mc1) ∧ W.cell? ⟨w.heap.size, 3, none⟩ = some (.string t1) ∧ W.cell? ⟨B5, 0, none⟩ = some (.int .i64 n1) ∧ W.cell? ⟨B5, 1, none⟩ = some (.slice ka2 k1.length kc2) ∧ W.cell? ⟨B5, 2, none⟩ = some (.slice ma2 m1.length mc2) ∧ W.cell? ⟨B5, 3, none⟩ = some (.string t1) ∧ W.cell? ⟨B4, 0, none⟩ = some (.int .i64 c0) ∧ W.cell? ⟨B4, 2, none⟩ = some (.int .i64 c2)) := fun W hW => by
      obtain ⟨i0, i1, i2, i3, -⟩ := (HX6.out.b.bel hW).four
      obtain ⟨j0, j1, j2, j3, -⟩ := (HY6.out.b.bel hW).four
      obtain ⟨l0, l1, l2, l3, -⟩ := (HG6.out.b.bel hW).four
      obtain ⟨o0, o1, o2, o3, -⟩ := (HW6.out.b.bel hW).four
      obtain ⟨p0, p1, p2, p3, p4, p5, p6⟩ := seven (HQ6.out.bel hW)
      exact ⟨i0, i1, i2, i3, j0, j1, j2, j3, l0, l1, l2, l3, o0, o1, o2, o3, p0, p2⟩
    have HS1 : Hid (∀ W, Below W6.heap.size W6 W → Calls Tryd.prog 12 #[.agg #[Value.int .i64 n4, .slice ka4 k4.length kc4, .slice ma4 m4.length mc4, .string t4], .agg #[Value.int .i64 n4, .slice ka6 k4.length kc6, .slice ma6 m4.length mc6, .string t4]] W fun e w' => e = .returned (.bool true) ∧ Below W.heap.size W w') := fun W hW =>
      Gt2.rsame_eq W ⟨n4, k4, m4, t4⟩ ka4 kc4 ma4 mc4 ka6 kc6 ma6 mc6 (HX6.out.l.below hW) (HY6.out.l.below hW) (by show k4.length ≤ _; omega) (by show m4.length ≤ _; omega)
    have HS7 : Hid (∀ W, Below W6.heap.size W6 W → Calls Tryd.prog 12 #[.agg #[Value.int .i64 n1, .slice ka1 k1.length kc1, .slice ma1 m1.length mc1, .string t1], .agg #[Value.int .i64 n1, .slice ka2 k1.length kc2, .slice ma2 m1.length mc2, .string t1]] W fun e w' => e = .returned (.bool true) ∧ Below W.heap.size W w') := fun W hW =>
      Gt2.rsame_eq W ⟨n1, k1, m1, t1⟩ ka1 kc1 ma1 mc1 ka2 kc2 ma2 mc2 (HG6.out.l.below hW) (HW6.out.l.below hW) (by show k1.length ≤ _; omega) (by show m1.length ≤ _; omega)
    obtain ⟨h7, hh7⟩ : ∃ x, expire ⟨n1, k1, m1, t1⟩ c0 c2 = x := ⟨_, rfl⟩
    have hl7 : h7.kept.length ≤ 20 ∧ h7.marks.length ≤ 50 := by
      rw [← hh7]; unfold expire
      exact ⟨Nat.le_trans (List.length_filter_le _ _) hk1, Nat.le_trans (List.length_filter_le _ _) hm1⟩
    have hEX : ∀ W, Below W6.heap.size W6 W → Calls Tryd.prog 13 #[.agg #[Value.int .i64 n1, .slice ka1 k1.length kc1, .slice ma1 m1.length mc1, .string t1], .int .i64 c0, .int .i64 c2] W fun e w' => ∃ ka' kc' ma' mc', e = .returned (.agg (gC h7 ka' kc' ma' mc')) ∧ Go' W.heap.size w' h7 ka' kc' ma' mc' ∧ Below W.heap.size W w' := fun W hW => by
      have := Expire_any W ⟨n1, k1, m1, t1⟩ ka1 kc1 ma1 mc1 (HG6.out.l.below hW) (by show k1.length ≤ _; omega) (by show m1.length ≤ _; omega) HOK.out c0 c2 s0
      rw [hh7] at this
      exact this
    have hRX : ∀ W, Below W6.heap.size W6 W → Calls Tryd.prog 14 #[.agg #[Value.int .i64 n1, .slice ka1 k1.length kc1, .slice ma1 m1.length mc1, .string t1], .int .i64 c0, .int .i64 c2] W fun e w' => ∃ ka' kc' ma' mc', e = .returned (.agg (gC h7 ka' kc' ma' mc')) ∧ Go' W.heap.size w' h7 ka' kc' ma' mc' ∧ Below W.heap.size W w' := fun W hW => by
      have := Gq.rexpire_any W ⟨n1, k1, m1, t1⟩ ka1 kc1 ma1 mc1 (HG6.out.l.below hW) (by show k1.length ≤ _; omega) (by show m1.length ≤ _; omega) HOK.out c0 c2 s0
      rw [hh7] at this
      exact this
    obtain ⟨n7, k7, m7, t7⟩ := h7
    simp only [gC] at hEX hRX
    simp only at hl7
    obtain ⟨hk7, hm7⟩ := hl7
    have HEX := mkH hEX
    have HRX := mkH hRX
    have HS4 : Hid (∀ W ka kc ma mc ka' kc' ma' mc', Gl W ⟨n7, k7, m7, t7⟩ ka kc ma mc → Gl W ⟨n7, k7, m7, t7⟩ ka' kc' ma' mc' → Calls Tryd.prog 12 #[.agg #[Value.int .i64 n7, .slice ka k7.length kc, .slice ma m7.length mc, .string t7], .agg #[Value.int .i64 n7, .slice ka' k7.length kc', .slice ma' m7.length mc', .string t7]] W fun e w' => e = .returned (.bool true) ∧ Below W.heap.size W w') := fun W ka kc ma mc ka' kc' ma' mc' a b =>
      Gt2.rsame_eq W ⟨n7, k7, m7, t7⟩ ka kc ma mc ka' kc' ma' mc' a b (by show k7.length ≤ _; omega) (by show m7.length ≤ _; omega)
    obtain ⟨fl, hfl⟩ : ∃ x, flying ⟨n1, k1, m1, t1⟩ c0 = x := ⟨_, rfl⟩
    have HFL : Hid (∀ W, Below W6.heap.size W6 W → Calls Tryd.prog 15 #[.agg #[Value.int .i64 n1, .slice ka1 k1.length kc1, .slice ma1 m1.length mc1, .string t1], .int .i64 c0] W fun e w' => e = .returned (.bool fl) ∧ Below W.heap.size W w') := fun W hW => by
      have := Flying_any W ⟨n1, k1, m1, t1⟩ ka1 kc1 ma1 mc1 (HG6.out.l.below hW) (by show k1.length ≤ _; omega) c0
      rw [hfl] at this
      exact this
    have HRF : Hid (∀ W, Below W6.heap.size W6 W → Calls Tryd.prog 16 #[.agg #[Value.int .i64 n1, .slice ka1 k1.length kc1, .slice ma1 m1.length mc1, .string t1], .int .i64 c0] W fun e w' => e = .returned (.bool fl) ∧ Below W.heap.size W w') := fun W hW => by
      have := Gu.rflying_any W ⟨n1, k1, m1, t1⟩ ka1 kc1 ma1 mc1 (HG6.out.l.below hW) (by show k1.length ≤ _; omega) c0
      rw [hfl] at this
      exact this
    have HFR : Hid (∀ W, Calls Tryd.prog 18 #[] W fun e w' => e = .returned (.agg #[Value.int .i64 1, .slice none 0 0, .slice none 0 0, .string ⟨#[]⟩]) ∧ Below W.heap.size W w') := fun W => Fresh_any W
    have HS9 : Hid (∀ W, Calls Tryd.prog 17 #[.agg #[Value.int .i64 1, .slice none 0 0, .slice none 0 0, .string ⟨#[]⟩], .agg #[Value.int .i64 1, .slice none 0 0, .slice none 0 0, .string ⟨#[]⟩]] W fun e w' => e = .returned (.bool true) ∧ Below W.heap.size W w') := fun W =>
      Gsm.Same_eq W ⟨1, [], [], ⟨#[]⟩⟩ none 0 none 0 none 0 none 0 (gl_nil W) (gl_nil W) (by decide) (by decide)
    have HWK : Hid (∀ W, Calls Tryd.prog 19 #[] W fun e w' => e = .returned (.bool true) ∧ Below W.heap.size W w') := fun W => Gw.works_any W
    have hcur0 : Below W6.heap.size W6 W6.drew := below_drewN (Below.refl _ _) 1
    have st1 : True := trivial
    clear hh7 hfl hEX hRX HX6 HY6 HW6 HG6 HQ6
    go_wp2_with fail
    go_region_held3 (fun W => W.cell? ⟨B6, 0, none⟩ = some (.int .i64 n4) ∧ W.cell? ⟨B6, 1, none⟩ = some (.slice ka4 k4.length kc4) ∧ W.cell? ⟨B6, 2, none⟩ = some (.slice ma4 m4.length mc4) ∧ W.cell? ⟨B6, 3, none⟩ = some (.string t4) ∧ W.cell? ⟨B9, 0, none⟩ = some (.int .i64 n4) ∧ W.cell? ⟨B9, 1, none⟩ = some (.slice ka6 k4.length kc6) ∧ W.cell? ⟨B9, 2, none⟩ = some (.slice ma6 m4.length mc6) ∧ W.cell? ⟨B9, 3, none⟩ = some (.string t4) ∧ W.cell? ⟨w.heap.size, 0, none⟩ = some (.int .i64 n1) ∧ W.cell? ⟨w.heap.size, 1, none⟩ = some (.slice ka1 k1.length kc1) ∧ W.cell? ⟨w.heap.size, 2, none⟩ = some (.slice ma1 m1.length mc1) ∧ W.cell? ⟨w.heap.size, 3, none⟩ = some (.string t1) ∧ W.cell? ⟨B5, 0, none⟩ = some (.int .i64 n1) ∧ W.cell? ⟨B5, 1, none⟩ = some (.slice ka2 k1.length kc2) ∧ W.cell? ⟨B5, 2, none⟩ = some (.slice ma2 m1.length mc2) ∧ W.cell? ⟨B5, 3, none⟩ = some (.string t1) ∧ W.cell? ⟨B4, 0, none⟩ = some (.int .i64 c0) ∧ W.cell? ⟨B4, 2, none⟩ = some (.int .i64 c2)) (first | exact hkeep10 | exact hkeep9 | exact hkeep8 | exact hkeep7 | exact hkeep6 | exact hkeep5 | exact hkeep4 | exact hkeep3 | exact hkeep2 | exact hkeep1 | exact HKD.out _ hcur0) (first
      | (have hq := st1; clear hq; go_at_call 12; refine (HS1.out _ hcur0).mono ?_; rintro e x1 ⟨rfl, hb1⟩; have hcur1 := hcur0.trans (hb1.mono hcur0.size); have hkeep1 := HKD.out _ hcur1; clear st1)
      | (have hq := hcur6; clear hq; go_at_call 12; refine (HS7.out _ hcur6).mono ?_; rintro e x7 ⟨rfl, hb7⟩; have hcur7 := hcur6.trans (hb7.mono hcur6.size); have hkeep7 := HKD.out _ hcur7)
      | (have hq := hcur3; clear hq; go_at_call 12; refine (HS4.out _ _ _ _ _ _ _ _ _ hl2 hl3).mono ?_; rintro e x4 ⟨rfl, hb4⟩; have hcur4 := hcur3.trans (hb4.mono hcur3.size); have hkeep4 := HKD.out _ hcur4)
      | (go_at_call 13; refine (HEX.out _ hcur1).mono ?_; rintro e x2 ⟨a2, d2, a3, d3, rfl, hg2, hb2⟩; have hl2 := hg2.gl; have hcur2 := hcur1.trans (hb2.mono hcur1.size); have hkeep2 := HKD.out _ hcur2)
      | (go_at_call 14; refine (HRX.out _ hcur2).mono ?_; rintro e x3 ⟨a4, d4, a5, d5, rfl, hg3, hb3⟩; have hl2 := hl2.below hb3; have hl3 := hg3.gl; have hcur3 := hcur2.trans (hb3.mono hcur2.size); have hkeep3 := HKD.out _ hcur3)
      | (go_at_call 15; refine (HFL.out _ hcur4).mono ?_; rintro e x5 ⟨rfl, hb5⟩; have hcur5 := hcur4.trans (hb5.mono hcur4.size); have hkeep5 := HKD.out _ hcur5)
      | (go_at_call 16; refine (HRF.out _ hcur5).mono ?_; rintro e x6 ⟨rfl, hb6⟩; have hcur6 := hcur5.trans (hb6.mono hcur5.size); have hkeep6 := HKD.out _ hcur6)
      | (go_at_call 18; refine (HFR.out _).mono ?_; rintro e x8 ⟨rfl, hb8⟩; have hcur8 := hcur7.trans (hb8.mono hcur7.size); have hkeep8 := HKD.out _ hcur8)
      | (go_at_call 17; refine (HS9.out _).mono ?_; rintro e x9 ⟨rfl, hb9⟩; have hcur9 := hcur8.trans (hb9.mono hcur8.size); have hkeep9 := HKD.out _ hcur9)
      | (go_at_call 19; refine (HWK.out _).mono ?_; rintro e x10 ⟨rfl, hb10⟩; have hcur10 := hcur9.trans (hb10.mono hcur9.size); have hkeep10 := HKD.out _ hcur10))
    go_wp2
    go_ret
    exact ⟨rfl, HB6.out.trans (hcur10.mono HB6.out.size)⟩
end Go.Proofs.YtbemindfmghjdaaDoor.Gsd
