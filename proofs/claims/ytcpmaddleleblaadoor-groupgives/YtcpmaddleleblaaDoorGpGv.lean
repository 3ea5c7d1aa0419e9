/-
  The walk of GroupGives.
-/
import Derived.Test.YtcpmaddleleblaaDoorGpX
import Derived.Test.YtcpmaddleleblaaDoorGpY
import Derived.Test.YtcpmaddleleblaaDoorGpRv
import Derived.Test.YtcpmaddleleblaaDoorGpRa
import Derived.Test.YtcpmaddleleblaaDoorGpT2
import Derived.Test.YtcpmaddleleblaaDoorGpW
import Derived.Test.YtcpmaddleleblaaDoorRgG
namespace Go.Proofs.YtcpmaddleleblaaDoor.Ggv
open Go.RowKit Kt Gf Gp Gr Gk Ga Gs Gb Gg Gm Gn Gx
set_option linter.unusedVariables false
set_option linter.unusedSimpArgs false
set_option maxRecDepth 20000

theorem drew_below (W : World) : Below W.heap.size W W.drew := ⟨rfl, rfl, rfl, Nat.le_refl _, fun _ _ => rfl⟩
theorem again_le (g : G) (now : Int) (mx : Nat) (att : ByteArray) : (again g now mx att).length ≤ g.kept.length := by
  unfold again
  split
  · simp
  · rw [List.length_take]; exact Nat.le_trans (Nat.min_le_right _ _) (List.length_filter_le _ _)

set_option maxHeartbeats 8000000 in
theorem give_walk (w : World) (g : G) (ka : Option Addr) (kc : Nat) (ma : Option Addr) (mc : Nat) (h : Gl w g ka kc ma mc) (a : Q) :
    Calls Tryd.prog 3 #[.agg (gC g ka kc ma mc), .agg (qC a)] w fun e w' => e = .returned (.bool true) ∧ Below w.heap.size w w' := by
  have HL := mkH h
  clear h
  obtain ⟨n1, k1, m1, t1, hfg, hok1, hk1, hm1⟩ := few_g g
  obtain ⟨c0, c1, c2, c3, c4, c5, c6, hfq, e0, e1, e2, e3, e4, e5, e6⟩ := few_q a
  have HFG := mkH hfg
  have HFQ := mkH hfq
  have HOK := mkH hok1
  clear hfg hfq hok1
  obtain ⟨nx, kp, mk, at'⟩ := g
  obtain ⟨b0, b1, b2, b3, b4, b5, b6⟩ := a
  simp only [gC, qC]
  have HA : Hid (Below w.heap.size w ((w.alloc (.cells #[Value.int .i64 nx, .slice ka kp.length kc, .slice ma mk.length mc, .string at'] 25)).alloc (.cells #[Value.int .i64 b0, .int .i64 b1, .int .i64 b2, .int .i64 b3, .int .i64 b4, .string b5, .string b6] 27))) := ((Below.refl _ w).alloc (Nat.le_refl _) _).alloc (by simp) _
  have HB3 := mkH ((Bx.new w #[Value.int .i64 nx, .slice ka kp.length kc, .slice ma mk.length mc, .string at'] 25).alloc (.cells #[Value.int .i64 b0, .int .i64 b1, .int .i64 b2, .int .i64 b3, .int .i64 b4, .string b5, .string b6] 27))
  have HB4 := mkH (Bx.new1 w (.cells #[Value.int .i64 nx, .slice ka kp.length kc, .slice ma mk.length mc, .string at'] 25) #[Value.int .i64 b0, .int .i64 b1, .int .i64 b2, .int .i64 b3, .int .i64 b4, .string b5, .string b6] 27)
  go_enter Tryd.func3, Tryd.ntmps3
  go_upto_region 1 with fail
  generalize (w.alloc (.cells #[Value.int .i64 nx, .slice ka kp.length kc, .slice ma mk.length mc, .string at'] 25)).alloc (.cells #[Value.int .i64 b0, .int .i64 b1, .int .i64 b2, .int .i64 b3, .int .i64 b4, .string b5, .string b6] 27) = w0 at *
  obtain ⟨B4, hB4⟩ : ∃ B, w.heap.size + 1 = B := ⟨_, rfl⟩
  rw [hB4] at HB4 ⊢
  have r1 : w.heap.size < B4 := by omega
  have n34 : ¬ w.heap.size = B4 := by omega
  have n43 : ¬ B4 = w.heap.size := by omega
  clear hB4
  have hFW := Few_any w0.drew ⟨nx, kp, mk, at'⟩ ka kc ma mc ((HL.out.below HA.out).below (below_drew w0))
  rw [HFG.out] at hFW
  simp only [gC] at hFW
  have HFW := mkH hFW
  clear hFW
  have HFQ2 : Hid (∀ W, Calls Tryd.prog 9 #[.agg #[Value.int .i64 b0, .int .i64 b1, .int .i64 b2, .int .i64 b3, .int .i64 b4, .string b5, .string b6]] W fun e w' => e = .returned (.agg #[Value.int .i64 c0, .int .i64 c1, .int .i64 c2, .int .i64 c3, .int .i64 c4, .string c5, .string c6]) ∧ Below W.heap.size W w') := fun W => by
    have := few_any W ⟨b0, b1, b2, b3, b4, b5, b6⟩
    rw [HFQ.out] at this
    exact this
  obtain ⟨y0, y1, y2, y3, -⟩ := HB3.out.four
  obtain ⟨x0, x1, x2, x3, x4, x5, x6⟩ := seven HB4.out
  go_cut [2] (fun v3 WW => v3 = .pointer (some ⟨w.heap.size, 0, none⟩) ∧ ∃ ka1 kc1 ma1 mc1, Gin WW w.heap.size ⟨n1, k1, m1, t1⟩ ka1 kc1 ma1 mc1 ∧ Bx WW B4 #[Value.int .i64 c0, .int .i64 c1, .int .i64 c2, .int .i64 c3, .int .i64 c4, .string c5, .string c6] 27 ∧ Below w.heap.size w WW)
  case first =>
    go_region_with (first
      | (go_at_call 8; refine HFW.out.mono ?_; rintro e w1 ⟨ka1, kc1, ma1, mc1, rfl, hg1, hb1⟩; have hb1' : Below w0.heap.size w0 w1 := (below_drew w0).trans hb1; have HG1 := mkH hg1; have HC3 := mkH (HB3.out.bel hb1'); have HC4 := mkH (HB4.out.bel hb1'); obtain ⟨x0, x1, x2, x3, x4, x5, x6⟩ := seven HC4.out; have HBB := mkH hb1'; clear hg1 hb1 hb1')
      | (go_at_call 9; refine (HFQ2.out _).mono ?_; rintro e w2 ⟨rfl, hb2⟩; have HG2 := mkH (Go'.below HG1.out hb2); have HD3 := mkH (HC3.out.bel hb2); have HD4 := mkH (HC4.out.bel hb2); obtain ⟨f0, f1, f2, f3, v0, v1, v2, v3⟩ := HD3.out.four; obtain ⟨x0, x1, x2, x3, x4, x5, x6⟩ := seven HD4.out; obtain ⟨u0, u1, u2, u3, u4, u5, u6⟩ := frz7 HD4.out; have HB2 : Hid (Below w.heap.size w w2) := (HA.out.trans (HBB.out.mono HA.out.size)).trans (hb2.mono (Nat.le_trans HA.out.size HBB.out.size)); clear hb2))
    all_goals
      go_wp2_with fail
      go_meet
      case rel =>
        obtain ⟨p1, q1⟩ := HD3.out.sAll (v0 := .int .i64 n1) (v1 := .slice ka1 k1.length kc1) (v2 := .slice ma1 m1.length mc1) (v3 := .string t1)
        have p4 := HD4.out.fr q1 n43
        obtain ⟨p2, q2⟩ := sAll7 p4 (v0 := .int .i64 c0) (v1 := .int .i64 c1) (v2 := .int .i64 c2) (v3 := .int .i64 c3) (v4 := .int .i64 c4) (v5 := .string c5) (v6 := .string c6)
        have p3 := p1.fr q2 n34
        have hlt : ∀ k, w0.drew.heap.size ≤ k → k ≠ w.heap.size ∧ k ≠ B4 := fun k hk => by
          have h1 := HB4.out.lt
          have h2 : w0.heap.size ≤ k := hk
          omega
        have k2 := own_fr (own_fr HG2.out.k q1 (fun k hk e => (hlt k (HG2.out.k.lt k hk).1).1 e)) q2 (fun k hk e => (hlt k (HG2.out.k.lt k hk).1).2 e)
        have l2 := own_fr (own_fr HG2.out.m q1 (fun k hk e => (hlt k (HG2.out.m.lt k hk).1).1 e)) q2 (fun k hk e => (hlt k (HG2.out.m.lt k hk).1).2 e)
        exact ⟨rfl, ka1, kc1, ma1, mc1, ⟨p3, Go'.gl (B := w0.drew.heap.size) ⟨k2, l2⟩⟩, p2, below_fr (below_fr HB2.out q1 (fun k hk => by omega) (Nat.le_refl _)) q2 (fun k hk => by omega) (Nat.le_refl _)⟩
  case rest =>
    obtain ⟨rfl, ka1, kc1, ma1, mc1, hgin, hq4, hbw⟩ := hcut
    have HG := mkH hgin
    have HQ := mkH hq4
    have HB := mkH hbw
    clear hgin hq4 hbw HFW HFQ2 HB3 HB4 HA HL y0 y1 y2 y3 x0 x1 x2 x3 x4 x5 x6
    obtain ⟨y0, y1, y2, y3, -⟩ := HG.out.b.four
    obtain ⟨x0, x1, x2, x3, x4, x5, x6⟩ := seven HQ.out
    have s0 : Sm c0 := ⟨e0.1, by omega⟩
    have s2 : Sm c2 := ⟨e2.1, by omega⟩
    have hff : fewG ⟨n1, k1, m1, t1⟩ = ⟨n1, k1, m1, t1⟩ := by rw [← HFG.out, few_few]
    have hFW := Few_any wc ⟨n1, k1, m1, t1⟩ ka1 kc1 ma1 mc1 HG.out.l
    rw [hff] at hFW
    simp only [gC] at hFW
    have HFW := mkH hFW
    clear hFW hff
    go_wp2_with fail
    refine HFW.out.mono ?_
    rintro e w2 ⟨ka2, kc2, ma2, mc2, rfl, hg2, hb2⟩
    have hal : Below w2.heap.size w2 (w2.alloc (.cells #[Value.int .i64 n1, .slice ka2 k1.length kc2, .slice ma2 m1.length mc2, .string t1] 25)) := (Below.refl _ w2).alloc (Nat.le_refl _) _
    have hb2a : Below wc.heap.size wc (w2.alloc (.cells #[Value.int .i64 n1, .slice ka2 k1.length kc2, .slice ma2 m1.length mc2, .string t1] 25)) := hb2.trans (hal.mono hb2.size)
    have HW := mkH (Gin.mk (g := ⟨n1, k1, m1, t1⟩) (Bx.new w2 #[Value.int .i64 n1, .slice ka2 k1.length kc2, .slice ma2 m1.length mc2, .string t1] 25) (hg2.gl.below hal))
    have HG2 := mkH (HG.out.below hb2a)
    have HQ2 := mkH (HQ.out.bel hb2a)
    have HB2 : Hid (Below w.heap.size w (w2.alloc (.cells #[Value.int .i64 n1, .slice ka2 k1.length kc2, .slice ma2 m1.length mc2, .string t1] 25))) := HB.out.trans (hb2a.mono HB.out.size)
    clear hg2 hb2 hal hb2a HFW y0 y1 y2 y3 x0 x1 x2 x3 x4 x5 x6 HG HQ HB
    obtain ⟨y0, y1, y2, y3, -⟩ := HG2.out.b.four
    obtain ⟨x0, x1, x2, x3, x4, x5, x6⟩ := seven HQ2.out
    obtain ⟨h4, hh4⟩ : ∃ x, rcvG ⟨n1, k1, m1, t1⟩ c0 c1 c2 c3 c4 = x := ⟨_, rfl⟩
    obtain ⟨gt, hgt⟩ : ∃ x, rcvGot ⟨n1, k1, m1, t1⟩ c0 c1 c2 c3 c4 = x := ⟨_, rfl⟩
    obtain ⟨dd, hdd⟩ : ∃ x, rcvDead ⟨n1, k1, m1, t1⟩ c0 c1 c2 c3 c4 = x := ⟨_, rfl⟩
    have hln := Gy.rcvG_len ⟨n1, k1, m1, t1⟩ c0 c1 c2 c3 c4
    rw [hh4, hgt, hdd] at hln
    simp only at hln
    obtain ⟨hk4, hgl4, hdl4, hm4, -, -⟩ := hln
    have hRa := Receive_any (w2.alloc (.cells #[Value.int .i64 n1, .slice ka2 k1.length kc2, .slice ma2 m1.length mc2, .string t1] 25)) ⟨n1, k1, m1, t1⟩ ka1 kc1 ma1 mc1 HG2.out.l (by show k1.length ≤ _; omega) (by show m1.length ≤ _; omega) HOK.out c0 c1 c2 c3 c4 s0 s2 h4 gt dd hh4 hgt hdd
    have hRb : ∀ W ka kc ma mc, Gl W ⟨n1, k1, m1, t1⟩ ka kc ma mc → _ := fun W ka kc ma mc hl => Grv.rreceive_any W ⟨n1, k1, m1, t1⟩ ka kc ma mc hl (by show k1.length ≤ _; omega) (by show m1.length ≤ _; omega) HOK.out c0 c1 c2 c3 c4 s0 s2 h4 gt dd hh4 hgt hdd
    clear hh4 hgt hdd
    obtain ⟨n4, k4, m4, t4⟩ := h4
    simp only [gC] at hRa hRb
    simp only at hk4 hm4
    have hml4 : m4.length ≤ 50 := by rw [hm4]; exact hm1
    clear hm4
    have HSD := mkH hRa
    have HRD := mkH hRb
    clear hRa hRb
    go_wp2_with fail
    refine HSD.out.mono ?_
    rintro e w4 ⟨ka4, kc4, ma4, mc4, a1g, c1g, a1d, c1d, rfl, hg4, hga4, hda4, hb4⟩
    have hal : Below w4.heap.size w4 (w4.alloc (.cells #[Value.int .i64 n4, .slice ka4 k4.length kc4, .slice ma4 m4.length mc4, .string t4] 25)) := (Below.refl _ w4).alloc (Nat.le_refl _) _
    have hb4a : Below (w2.alloc (.cells #[Value.int .i64 n1, .slice ka2 k1.length kc2, .slice ma2 m1.length mc2, .string t1] 25)).heap.size (w2.alloc (.cells #[Value.int .i64 n1, .slice ka2 k1.length kc2, .slice ma2 m1.length mc2, .string t1] 25)) (w4.alloc (.cells #[Value.int .i64 n4, .slice ka4 k4.length kc4, .slice ma4 m4.length mc4, .string t4] 25)) := hb4.trans (hal.mono hb4.size)
    have HX4 := mkH (Gin.mk (g := ⟨n4, k4, m4, t4⟩) (Bx.new w4 #[Value.int .i64 n4, .slice ka4 k4.length kc4, .slice ma4 m4.length mc4, .string t4] 25) (hg4.below hal))
    have HGa4 := mkH (hga4.below hal)
    have HDa4 := mkH (hda4.below hal)
    have HG4 := mkH (HG2.out.below hb4a)
    have HW4 := mkH (HW.out.below hb4a)
    have HQ4 := mkH (HQ2.out.bel hb4a)
    have HB4 : Hid (Below w.heap.size w (w4.alloc (.cells #[Value.int .i64 n4, .slice ka4 k4.length kc4, .slice ma4 m4.length mc4, .string t4] 25))) := HB2.out.trans (hb4a.mono HB2.out.size)
    clear hg4 hga4 hda4 hb4 hal hb4a HSD y0 y1 y2 y3 x0 x1 x2 x3 x4 x5 x6 HG2 HW HQ2 HB2
    obtain ⟨y0, y1, y2, y3, -⟩ := HG4.out.b.four
    obtain ⟨x0, x1, x2, x3, x4, x5, x6⟩ := seven HQ4.out
    have HSD := mkH (HRD.out _ _ _ _ _ HG4.out.l)
    clear HRD
    go_wp2_with fail
    refine HSD.out.mono ?_
    rintro e w6 ⟨ka6, kc6, ma6, mc6, a2g, c2g, a2d, c2d, rfl, hg6, hgb6, hdb6, hb6⟩
    have hal : Below w6.heap.size w6 (w6.alloc (.cells #[Value.int .i64 n4, .slice ka6 k4.length kc6, .slice ma6 m4.length mc6, .string t4] 25)) := (Below.refl _ w6).alloc (Nat.le_refl _) _
    have hb6a : Below (w4.alloc (.cells #[Value.int .i64 n4, .slice ka4 k4.length kc4, .slice ma4 m4.length mc4, .string t4] 25)).heap.size (w4.alloc (.cells #[Value.int .i64 n4, .slice ka4 k4.length kc4, .slice ma4 m4.length mc4, .string t4] 25)) (w6.alloc (.cells #[Value.int .i64 n4, .slice ka6 k4.length kc6, .slice ma6 m4.length mc6, .string t4] 25)) := hb6.trans (hal.mono hb6.size)
    have HY6 := mkH (Gin.mk (g := ⟨n4, k4, m4, t4⟩) (Bx.new w6 #[Value.int .i64 n4, .slice ka6 k4.length kc6, .slice ma6 m4.length mc6, .string t4] 25) (hg6.below hal))
    have HGb := mkH (hgb6.below hal)
    have HDb := mkH (hdb6.below hal)
    have HGa := mkH (HGa4.out.below hb6a)
    have HDa := mkH (HDa4.out.below hb6a)
    have HX6 := mkH (HX4.out.below hb6a)
    have HG6 := mkH (HG4.out.below hb6a)
    have HW6 := mkH (HW4.out.below hb6a)
    have HQ6 := mkH (HQ4.out.bel hb6a)
    have HBW : Hid (Below w.heap.size w (w6.alloc (.cells #[Value.int .i64 n4, .slice ka6 k4.length kc6, .slice ma6 m4.length mc6, .string t4] 25))) := HB4.out.trans (hb6a.mono HB4.out.size)
    clear hg6 hgb6 hdb6 hb6 hal hb6a HSD y0 y1 y2 y3 x0 x1 x2 x3 x4 x5 x6 HX4 HG4 HW4 HQ4 HB4 HGa4 HDa4
    go_upto_region 5 with fail
    generalize w6.alloc (.cells #[Value.int .i64 n4, .slice ka6 k4.length kc6, .slice ma6 m4.length mc6, .string t4] 25) = W6 at *
    obtain ⟨B9, hB9⟩ : ∃ B, w6.heap.size = B := ⟨_, rfl⟩
    obtain ⟨B6, hB6⟩ : ∃ B, w4.heap.size = B := ⟨_, rfl⟩
    obtain ⟨B5, hB5⟩ : ∃ B, w2.heap.size = B := ⟨_, rfl⟩
    rw [hB9] at HY6
    rw [hB6] at HX6
    rw [hB5] at HW6
    rw [hB9, hB6, hB5]
    clear hB9 hB6 hB5
    have hmx : Tryd.prog.follows .mixedOrders = true := by kernel_rfl
    have HKD : Hid (∀ W, Below W6.heap.size W6 W → W.cell? ⟨B6, 0, none⟩ = some (.int .i64 n4) ∧ W.cell? ⟨B6, 1, none⟩ = some (.slice ka4 k4.length kc4) ∧ W.cell? ⟨B6, 2, none⟩ = some (.slice ma4 m4.length mc4) ∧ W.cell? ⟨B6, 3, none⟩ = some (.string t4) ∧ W.cell? ⟨B9, 0, none⟩ = some (.int .i64 n4) ∧ W.cell? ⟨B9, 1, none⟩ = some (.slice ka6 k4.length kc6) ∧ W.cell? ⟨B9, 2, none⟩ = some (.slice ma6 m4.length mc6) ∧ W.cell? ⟨B9, 3, none⟩ = some (.string t4) ∧ W.cell? ⟨w.heap.size, 0, none⟩ = some (.int .i64 n1) ∧ W.cell? ⟨w.heap.size, 1, none⟩ = some (.slice ka1 k1.length kc1) ∧ W.cell? ⟨w.heap.size, 2, none⟩ = some (.slice ma1 m1.length mc1) ∧ W.cell? ⟨w.heap.size, 3, none⟩ = some (.string t1) ∧ W.cell? ⟨B5, 0, none⟩ = some (.int .i64 n1) ∧ W.cell? ⟨B5, 1, none⟩ = some (.slice ka2 k1.length kc2) ∧ W.cell? ⟨B5, 2, none⟩ = some (.slice ma2 m1.length mc2) ∧ W.cell? ⟨B5, 3, none⟩ = some (.string t1) ∧ W.cell? ⟨B4, 0, none⟩ = some (.int .i64 c0) ∧ W.cell? ⟨B4, 1, none⟩ = some (.int .i64 c1) ∧ W.cell? ⟨B4, 6, none⟩ = some (.string c6)) := fun W hW => by
      obtain ⟨i0, i1, i2, i3, -⟩ := (HX6.out.b.bel hW).four
      obtain ⟨j0, j1, j2, j3, -⟩ := (HY6.out.b.bel hW).four
      obtain ⟨l0, l1, l2, l3, -⟩ := (HG6.out.b.bel hW).four
      obtain ⟨o0, o1, o2, o3, -⟩ := (HW6.out.b.bel hW).four
      obtain ⟨p0, p1, p2, p3, p4, p5, p6⟩ := seven (HQ6.out.bel hW)
      exact ⟨i0, i1, i2, i3, j0, j1, j2, j3, l0, l1, l2, l3, o0, o1, o2, o3, p0, p1, p6⟩
    have HS1 : Hid (∀ W, Below W6.heap.size W6 W → Calls Tryd.prog 12 #[.agg #[Value.int .i64 n4, .slice ka4 k4.length kc4, .slice ma4 m4.length mc4, .string t4], .agg #[Value.int .i64 n4, .slice ka6 k4.length kc6, .slice ma6 m4.length mc6, .string t4]] W fun e w' => e = .returned (.bool true) ∧ Below W.heap.size W w') := fun W hW =>
      Gt2.rsame_eq W ⟨n4, k4, m4, t4⟩ ka4 kc4 ma4 mc4 ka6 kc6 ma6 mc6 (HX6.out.l.below hW) (HY6.out.l.below hW) (by show k4.length ≤ _; omega) (by show m4.length ≤ _; omega)
    have HS7 : Hid (∀ W, Below W6.heap.size W6 W → Calls Tryd.prog 12 #[.agg #[Value.int .i64 n1, .slice ka1 k1.length kc1, .slice ma1 m1.length mc1, .string t1], .agg #[Value.int .i64 n1, .slice ka2 k1.length kc2, .slice ma2 m1.length mc2, .string t1]] W fun e w' => e = .returned (.bool true) ∧ Below W.heap.size W w') := fun W hW =>
      Gt2.rsame_eq W ⟨n1, k1, m1, t1⟩ ka1 kc1 ma1 mc1 ka2 kc2 ma2 mc2 (HG6.out.l.below hW) (HW6.out.l.below hW) (by show k1.length ≤ _; omega) (by show m1.length ≤ _; omega)
    obtain ⟨l1, hl1⟩ : ∃ x, again ⟨n1, k1, m1, t1⟩ c0 c1.toNat c6 = x := ⟨_, rfl⟩
    obtain ⟨l2, hl2⟩ : ∃ x, again ⟨n4, k4, m4, t4⟩ c0 c1.toNat t1 = x := ⟨_, rfl⟩
    have hl1l : l1.length ≤ 20 := by rw [← hl1]; exact Nat.le_trans (again_le _ _ _ _) hk1
    have hl2l : l2.length ≤ 20 := by rw [← hl2]; exact Nat.le_trans (again_le _ _ _ _) (by show k4.length ≤ _; omega)
    have HAa : Hid (∀ W, Below W6.heap.size W6 W → Calls Tryd.prog 14 #[.agg #[Value.int .i64 n1, .slice ka1 k1.length kc1, .slice ma1 m1.length mc1, .string t1], .int .i64 c0, .int .i64 c1, .string c6] W fun e w' => ∃ a c, e = .returned (.slice a l1.length c) ∧ Ls w' l1 a c ∧ Below W.heap.size W w') := fun W hW =>
      Gh.Again_any W ⟨n1, k1, m1, t1⟩ ka1 kc1 ma1 mc1 (HG6.out.l.below hW) (by show k1.length ≤ _; omega) c0 c1 c6 l1 hl1
    have HAb : Hid (∀ W, Below W6.heap.size W6 W → Calls Tryd.prog 15 #[.agg #[Value.int .i64 n1, .slice ka1 k1.length kc1, .slice ma1 m1.length mc1, .string t1], .int .i64 c0, .int .i64 c1, .string c6] W fun e w' => ∃ a c, e = .returned (.slice a l1.length c) ∧ Ls w' l1 a c ∧ Below W.heap.size W w') := fun W hW =>
      Gra.ragain_any W ⟨n1, k1, m1, t1⟩ ka1 kc1 ma1 mc1 (HG6.out.l.below hW) (by show k1.length ≤ _; omega) c0 c1 c6 l1 hl1
    have HAc : Hid (∀ W, Below W6.heap.size W6 W → Calls Tryd.prog 14 #[.agg #[Value.int .i64 n4, .slice ka4 k4.length kc4, .slice ma4 m4.length mc4, .string t4], .int .i64 c0, .int .i64 c1, .string t1] W fun e w' => ∃ a c, e = .returned (.slice a l2.length c) ∧ Ls w' l2 a c ∧ Below W.heap.size W w') := fun W hW =>
      Gh.Again_any W ⟨n4, k4, m4, t4⟩ ka4 kc4 ma4 mc4 (HX6.out.l.below hW) (by show k4.length ≤ _; omega) c0 c1 t1 l2 hl2
    have HAd : Hid (∀ W, Below W6.heap.size W6 W → Calls Tryd.prog 15 #[.agg #[Value.int .i64 n4, .slice ka6 k4.length kc6, .slice ma6 m4.length mc6, .string t4], .int .i64 c0, .int .i64 c1, .string t1] W fun e w' => ∃ a c, e = .returned (.slice a l2.length c) ∧ Ls w' l2 a c ∧ Below W.heap.size W w') := fun W hW =>
      Gra.ragain_any W ⟨n4, k4, m4, t4⟩ ka6 kc6 ma6 mc6 (HY6.out.l.below hW) (by show k4.length ≤ _; omega) c0 c1 t1 l2 hl2
    clear hl1 hl2 HX6 HY6 HG6 HW6 HQ6
    refine wp_region_held_drew (S := fun W => W.cell? ⟨B6, 0, none⟩ = some (.int .i64 n4) ∧ W.cell? ⟨B6, 1, none⟩ = some (.slice ka4 k4.length kc4) ∧ W.cell? ⟨B6, 2, none⟩ = some (.slice ma4 m4.length mc4) ∧ W.cell? ⟨B6, 3, none⟩ = some (.string t4) ∧ W.cell? ⟨B9, 0, none⟩ = some (.int .i64 n4) ∧ W.cell? ⟨B9, 1, none⟩ = some (.slice ka6 k4.length kc6) ∧ W.cell? ⟨B9, 2, none⟩ = some (.slice ma6 m4.length mc6) ∧ W.cell? ⟨B9, 3, none⟩ = some (.string t4) ∧ W.cell? ⟨w.heap.size, 0, none⟩ = some (.int .i64 n1) ∧ W.cell? ⟨w.heap.size, 1, none⟩ = some (.slice ka1 k1.length kc1) ∧ W.cell? ⟨w.heap.size, 2, none⟩ = some (.slice ma1 m1.length mc1) ∧ W.cell? ⟨w.heap.size, 3, none⟩ = some (.string t1) ∧ W.cell? ⟨B5, 0, none⟩ = some (.int .i64 n1) ∧ W.cell? ⟨B5, 1, none⟩ = some (.slice ka2 k1.length kc2) ∧ W.cell? ⟨B5, 2, none⟩ = some (.slice ma2 m1.length mc2) ∧ W.cell? ⟨B5, 3, none⟩ = some (.string t1) ∧ W.cell? ⟨B4, 0, none⟩ = some (.int .i64 c0) ∧ W.cell? ⟨B4, 1, none⟩ = some (.int .i64 c1) ∧ W.cell? ⟨B4, 6, none⟩ = some (.string c6)) hmx ?_ (fun hHeld => ?_)
    · exact HKD.out _ (drew_below _)
    have HB0 : Hid (Below W6.heap.size W6 W6.drew) := drew_below _
    generalize W6.drew = V0 at *
    refine wpAnyH_take (i := 0) (oi := { dst := some 50, op := _, type := _, pos := _, after := _, guard := _ }) (v := ?_) rfl (by kernel_rfl) (by kernel_rfl) (by kernel_rfl) (fun _ _ _ h => h) (Or.inl ⟨by rfl, ?_⟩) (by assumption) ?_
    rotate_left
    · (intro W hSw; (try dsimp only at hSw); go_simp; try (with_reducible rfl))
    try simp only [Act.put, List.setIfInBounds_toArray, List.set_cons_zero, List.set_cons_succ]
    refine wpAnyH_take (i := 1) (oi := { dst := some 51, op := _, type := _, pos := _, after := _, guard := _ }) (v := ?_) rfl (by kernel_rfl) (by kernel_rfl) (by kernel_rfl) (fun _ _ _ h => h) (Or.inl ⟨by rfl, ?_⟩) (by assumption) ?_
    rotate_left
    · (intro W hSw; (try dsimp only at hSw); go_simp; try (with_reducible rfl))
    try simp only [Act.put, List.setIfInBounds_toArray, List.set_cons_zero, List.set_cons_succ]
    refine wpAnyH_ready (rs := [2]) (by kernel_rfl) (by simp) ?_
    refine (AllReadyH.cons (o := { dst := some 52, op := _, type := _, pos := _, after := _, guard := _ }) rfl (fun K hK => ?_) AllReadyH.nil)
    go_simp
    refine (HS1.out V0 HB0.out).mono ?_
    rintro e1 V1 ⟨rfl, hb'⟩
    have HB1 : Hid (Below W6.heap.size W6 V1) := HB0.out.trans (hb'.mono HB0.out.size)
    clear hb'
    go_wp2_with fail
    refine hK.out _ _ ?_ (fun hHeld => ?_)
    · exact HKD.out V1 HB1.out
    clear hK K
    try simp only [Act.put, List.setIfInBounds_toArray, List.set_cons_zero, List.set_cons_succ]
    refine wpAnyH_take (i := 3) (oi := { dst := some 53, op := _, type := _, pos := _, after := _, guard := _ }) (v := ?_) rfl (by kernel_rfl) (by kernel_rfl) (by kernel_rfl) (fun _ _ _ h => h) (Or.inl ⟨by rfl, ?_⟩) (by assumption) ?_
    rotate_left
    · (intro W hSw; (try dsimp only at hSw); go_simp; try (with_reducible rfl))
    try simp only [Act.put, List.setIfInBounds_toArray, List.set_cons_zero, List.set_cons_succ]
    refine wpAnyH_take (i := 4) (oi := { dst := some 54, op := _, type := _, pos := _, after := _, guard := _ }) (v := ?_) rfl (by kernel_rfl) (by kernel_rfl) (by kernel_rfl) (fun _ _ _ h => h) (Or.inl ⟨by rfl, ?_⟩) (by assumption) ?_
    rotate_left
    · (intro W hSw; (try dsimp only at hSw); go_simp; try (with_reducible rfl))
    try simp only [Act.put, List.setIfInBounds_toArray, List.set_cons_zero, List.set_cons_succ]
    refine wpAnyH_take (i := 5) (oi := { dst := some 55, op := _, type := _, pos := _, after := _, guard := _ }) (v := ?_) rfl (by kernel_rfl) (by kernel_rfl) (by kernel_rfl) (fun _ _ _ h => h) (Or.inl ⟨by rfl, ?_⟩) (by assumption) ?_
    rotate_left
    · (intro W hSw; (try dsimp only at hSw); go_simp; try (with_reducible rfl))
    try simp only [Act.put, List.setIfInBounds_toArray, List.set_cons_zero, List.set_cons_succ]
    refine wpAnyH_ready (rs := [6]) (by kernel_rfl) (by simp) ?_
    refine (AllReadyH.cons (o := { dst := some 56, op := _, type := _, pos := _, after := _, guard := _ }) rfl (fun K hK => ?_) AllReadyH.nil)
    go_simp
    refine (Gt.sameKept_eq V1 gt a1g a2g c1g c2g (HGa.out.below HB1.out) (HGb.out.below HB1.out) (by omega)).mono ?_
    rintro e1 V2 ⟨rfl, hb'⟩
    have HB2 : Hid (Below W6.heap.size W6 V2) := HB1.out.trans (hb'.mono HB1.out.size)
    clear hb'
    go_wp2_with fail
    refine hK.out _ _ ?_ (fun hHeld => ?_)
    · exact HKD.out V2 HB2.out
    clear hK K
    try simp only [Act.put, List.setIfInBounds_toArray, List.set_cons_zero, List.set_cons_succ]
    refine wpAnyH_take (i := 7) (oi := { dst := some 57, op := _, type := _, pos := _, after := _, guard := _ }) (v := ?_) rfl (by kernel_rfl) (by kernel_rfl) (by kernel_rfl) (fun _ _ _ h => h) (Or.inl ⟨by rfl, ?_⟩) (by assumption) ?_
    rotate_left
    · (intro W hSw; (try dsimp only at hSw); go_simp; try (with_reducible rfl))
    try simp only [Act.put, List.setIfInBounds_toArray, List.set_cons_zero, List.set_cons_succ]
    refine wpAnyH_take (i := 8) (oi := { dst := some 58, op := _, type := _, pos := _, after := _, guard := _ }) (v := ?_) rfl (by kernel_rfl) (by kernel_rfl) (by kernel_rfl) (fun _ _ _ h => h) (Or.inl ⟨by rfl, ?_⟩) (by assumption) ?_
    rotate_left
    · (intro W hSw; (try dsimp only at hSw); go_simp; try (with_reducible rfl))
    try simp only [Act.put, List.setIfInBounds_toArray, List.set_cons_zero, List.set_cons_succ]
    refine wpAnyH_take (i := 9) (oi := { dst := some 59, op := _, type := _, pos := _, after := _, guard := _ }) (v := ?_) rfl (by kernel_rfl) (by kernel_rfl) (by kernel_rfl) (fun _ _ _ h => h) (Or.inl ⟨by rfl, ?_⟩) (by assumption) ?_
    rotate_left
    · (intro W hSw; (try dsimp only at hSw); go_simp; try (with_reducible rfl))
    try simp only [Act.put, List.setIfInBounds_toArray, List.set_cons_zero, List.set_cons_succ]
    refine wpAnyH_take (i := 10) (oi := { dst := some 60, op := _, type := _, pos := _, after := _, guard := _ }) (v := ?_) rfl (by kernel_rfl) (by kernel_rfl) (by kernel_rfl) (fun _ _ _ h => h) (Or.inl ⟨by rfl, ?_⟩) (by assumption) ?_
    rotate_left
    · (intro W hSw; (try dsimp only at hSw); go_simp; try (with_reducible rfl))
    try simp only [Act.put, List.setIfInBounds_toArray, List.set_cons_zero, List.set_cons_succ]
    refine wpAnyH_ready (rs := [11]) (by kernel_rfl) (by simp) ?_
    refine (AllReadyH.cons (o := { dst := some 61, op := _, type := _, pos := _, after := _, guard := _ }) rfl (fun K hK => ?_) AllReadyH.nil)
    go_simp
    refine (Gt.sameKept_eq V2 dd a1d a2d c1d c2d (HDa.out.below HB2.out) (HDb.out.below HB2.out) (by omega)).mono ?_
    rintro e1 V3 ⟨rfl, hb'⟩
    have HB3 : Hid (Below W6.heap.size W6 V3) := HB2.out.trans (hb'.mono HB2.out.size)
    clear hb'
    go_wp2_with fail
    refine hK.out _ _ ?_ (fun hHeld => ?_)
    · exact HKD.out V3 HB3.out
    clear hK K
    try simp only [Act.put, List.setIfInBounds_toArray, List.set_cons_zero, List.set_cons_succ]
    refine wpAnyH_take (i := 12) (oi := { dst := some 62, op := _, type := _, pos := _, after := _, guard := _ }) (v := ?_) rfl (by kernel_rfl) (by kernel_rfl) (by kernel_rfl) (fun _ _ _ h => h) (Or.inl ⟨by rfl, ?_⟩) (by assumption) ?_
    rotate_left
    · (intro W hSw; (try dsimp only at hSw); go_simp; try (with_reducible rfl))
    try simp only [Act.put, List.setIfInBounds_toArray, List.set_cons_zero, List.set_cons_succ]
    refine wpAnyH_take (i := 13) (oi := { dst := some 63, op := _, type := _, pos := _, after := _, guard := _ }) (v := ?_) rfl (by kernel_rfl) (by kernel_rfl) (by kernel_rfl) (fun _ _ _ h => h) (Or.inl ⟨by rfl, ?_⟩) (by assumption) ?_
    rotate_left
    · (intro W hSw; (try dsimp only at hSw); go_simp; try (with_reducible rfl))
    try simp only [Act.put, List.setIfInBounds_toArray, List.set_cons_zero, List.set_cons_succ]
    refine wpAnyH_take (i := 14) (oi := { dst := some 64, op := _, type := _, pos := _, after := _, guard := _ }) (v := ?_) rfl (by kernel_rfl) (by kernel_rfl) (by kernel_rfl) (fun _ _ _ h => h) (Or.inl ⟨by rfl, ?_⟩) (by assumption) ?_
    rotate_left
    · (intro W hSw; (try dsimp only at hSw); go_simp; try (with_reducible rfl))
    try simp only [Act.put, List.setIfInBounds_toArray, List.set_cons_zero, List.set_cons_succ]
    refine wpAnyH_take (i := 15) (oi := { dst := some 65, op := _, type := _, pos := _, after := _, guard := _ }) (v := ?_) rfl (by kernel_rfl) (by kernel_rfl) (by kernel_rfl) (fun _ _ _ h => h) (Or.inl ⟨by rfl, ?_⟩) (by assumption) ?_
    rotate_left
    · (intro W hSw; (try dsimp only at hSw); go_simp; try (with_reducible rfl))
    try simp only [Act.put, List.setIfInBounds_toArray, List.set_cons_zero, List.set_cons_succ]
    refine wpAnyH_take (i := 16) (oi := { dst := some 66, op := _, type := _, pos := _, after := _, guard := _ }) (v := ?_) rfl (by kernel_rfl) (by kernel_rfl) (by kernel_rfl) (fun _ _ _ h => h) (Or.inl ⟨by rfl, ?_⟩) (by assumption) ?_
    rotate_left
    · (intro W hSw; (try dsimp only at hSw); go_simp; try (with_reducible rfl))
    try simp only [Act.put, List.setIfInBounds_toArray, List.set_cons_zero, List.set_cons_succ]
    refine wpAnyH_take (i := 17) (oi := { dst := some 67, op := _, type := _, pos := _, after := _, guard := _ }) (v := ?_) rfl (by kernel_rfl) (by kernel_rfl) (by kernel_rfl) (fun _ _ _ h => h) (Or.inl ⟨by rfl, ?_⟩) (by assumption) ?_
    rotate_left
    · (intro W hSw; (try dsimp only at hSw); go_simp; try (with_reducible rfl))
    try simp only [Act.put, List.setIfInBounds_toArray, List.set_cons_zero, List.set_cons_succ]
    refine wpAnyH_take (i := 18) (oi := { dst := some 68, op := _, type := _, pos := _, after := _, guard := _ }) (v := ?_) rfl (by kernel_rfl) (by kernel_rfl) (by kernel_rfl) (fun _ _ _ h => h) (Or.inl ⟨by rfl, ?_⟩) (by assumption) ?_
    rotate_left
    · (intro W hSw; (try dsimp only at hSw); go_simp; try (with_reducible rfl))
    try simp only [Act.put, List.setIfInBounds_toArray, List.set_cons_zero, List.set_cons_succ]
    refine wpAnyH_take (i := 19) (oi := { dst := some 69, op := _, type := _, pos := _, after := _, guard := _ }) (v := ?_) rfl (by kernel_rfl) (by kernel_rfl) (by kernel_rfl) (fun _ _ _ h => h) (Or.inl ⟨by rfl, ?_⟩) (by assumption) ?_
    rotate_left
    · (intro W hSw; (try dsimp only at hSw); go_simp; try (with_reducible rfl))
    try simp only [Act.put, List.setIfInBounds_toArray, List.set_cons_zero, List.set_cons_succ]
    refine wpAnyH_take (i := 20) (oi := { dst := some 70, op := _, type := _, pos := _, after := _, guard := _ }) (v := ?_) rfl (by kernel_rfl) (by kernel_rfl) (by kernel_rfl) (fun _ _ _ h => h) (Or.inl ⟨by rfl, ?_⟩) (by assumption) ?_
    rotate_left
    · (intro W hSw; (try dsimp only at hSw); go_simp; try (with_reducible rfl))
    try simp only [Act.put, List.setIfInBounds_toArray, List.set_cons_zero, List.set_cons_succ]
    refine wpAnyH_take (i := 22) (oi := { dst := some 72, op := _, type := _, pos := _, after := _, guard := _ }) (v := ?_) rfl (by kernel_rfl) (by kernel_rfl) (by kernel_rfl) (fun _ _ _ h => h) (Or.inl ⟨by rfl, ?_⟩) (by assumption) ?_
    rotate_left
    · (intro W hSw; (try dsimp only at hSw); go_simp; try (with_reducible rfl))
    try simp only [Act.put, List.setIfInBounds_toArray, List.set_cons_zero, List.set_cons_succ]
    refine wpAnyH_take (i := 23) (oi := { dst := some 73, op := _, type := _, pos := _, after := _, guard := _ }) (v := ?_) rfl (by kernel_rfl) (by kernel_rfl) (by kernel_rfl) (fun _ _ _ h => h) (Or.inl ⟨by rfl, ?_⟩) (by assumption) ?_
    rotate_left
    · (intro W hSw; (try dsimp only at hSw); go_simp; try (with_reducible rfl))
    try simp only [Act.put, List.setIfInBounds_toArray, List.set_cons_zero, List.set_cons_succ]
    refine wpAnyH_take (i := 24) (oi := { dst := some 74, op := _, type := _, pos := _, after := _, guard := _ }) (v := ?_) rfl (by kernel_rfl) (by kernel_rfl) (by kernel_rfl) (fun _ _ _ h => h) (Or.inl ⟨by rfl, ?_⟩) (by assumption) ?_
    rotate_left
    · (intro W hSw; (try dsimp only at hSw); go_simp; try (with_reducible rfl))
    try simp only [Act.put, List.setIfInBounds_toArray, List.set_cons_zero, List.set_cons_succ]
    refine wpAnyH_take (i := 25) (oi := { dst := some 75, op := _, type := _, pos := _, after := _, guard := _ }) (v := ?_) rfl (by kernel_rfl) (by kernel_rfl) (by kernel_rfl) (fun _ _ _ h => h) (Or.inl ⟨by rfl, ?_⟩) (by assumption) ?_
    rotate_left
    · (intro W hSw; (try dsimp only at hSw); go_simp; try (with_reducible rfl))
    try simp only [Act.put, List.setIfInBounds_toArray, List.set_cons_zero, List.set_cons_succ]
    refine wpAnyH_take (i := 26) (oi := { dst := some 76, op := _, type := _, pos := _, after := _, guard := _ }) (v := ?_) rfl (by kernel_rfl) (by kernel_rfl) (by kernel_rfl) (fun _ _ _ h => h) (Or.inl ⟨by rfl, ?_⟩) (by assumption) ?_
    rotate_left
    · (intro W hSw; (try dsimp only at hSw); go_simp; try (with_reducible rfl))
    try simp only [Act.put, List.setIfInBounds_toArray, List.set_cons_zero, List.set_cons_succ]
    refine wpAnyH_take (i := 27) (oi := { dst := some 77, op := _, type := _, pos := _, after := _, guard := _ }) (v := ?_) rfl (by kernel_rfl) (by kernel_rfl) (by kernel_rfl) (fun _ _ _ h => h) (Or.inl ⟨by rfl, ?_⟩) (by assumption) ?_
    rotate_left
    · (intro W hSw; (try dsimp only at hSw); go_simp; try (with_reducible rfl))
    try simp only [Act.put, List.setIfInBounds_toArray, List.set_cons_zero, List.set_cons_succ]
    refine wpAnyH_take (i := 28) (oi := { dst := some 78, op := _, type := _, pos := _, after := _, guard := _ }) (v := ?_) rfl (by kernel_rfl) (by kernel_rfl) (by kernel_rfl) (fun _ _ _ h => h) (Or.inl ⟨by rfl, ?_⟩) (by assumption) ?_
    rotate_left
    · (intro W hSw; (try dsimp only at hSw); go_simp; try (with_reducible rfl))
    try simp only [Act.put, List.setIfInBounds_toArray, List.set_cons_zero, List.set_cons_succ]
    refine wpAnyH_ready (rs := [21]) (by kernel_rfl) (by simp) ?_
    refine (AllReadyH.cons (o := { dst := some 71, op := _, type := _, pos := _, after := _, guard := _ }) rfl (fun K hK => ?_) AllReadyH.nil)
    go_simp
    refine (HAa.out V3 HB3.out).mono ?_
    rintro e1 V4 ⟨aa, ca, rfl, hla, hb'⟩
    have HB4 : Hid (Below W6.heap.size W6 V4) := HB3.out.trans (hb'.mono HB3.out.size)
    have HLa4 := mkH hla
    clear hla
    clear hb'
    go_wp2_with fail
    refine hK.out _ _ ?_ (fun hHeld => ?_)
    · exact HKD.out V4 HB4.out
    clear hK K
    try simp only [Act.put, List.setIfInBounds_toArray, List.set_cons_zero, List.set_cons_succ]
    refine wpAnyH_ready (rs := [29]) (by kernel_rfl) (by simp) ?_
    refine (AllReadyH.cons (o := { dst := some 79, op := _, type := _, pos := _, after := _, guard := _ }) rfl (fun K hK => ?_) AllReadyH.nil)
    go_simp
    refine (HAb.out V4 HB4.out).mono ?_
    rintro e1 V5 ⟨ab, cb, rfl, hlb, hb'⟩
    have HB5 : Hid (Below W6.heap.size W6 V5) := HB4.out.trans (hb'.mono HB4.out.size)
    have HLa5 := mkH (HLa4.out.below hb')
    have HLb5 := mkH hlb
    clear hlb
    clear hb'
    go_wp2_with fail
    refine hK.out _ _ ?_ (fun hHeld => ?_)
    · exact HKD.out V5 HB5.out
    clear hK K
    try simp only [Act.put, List.setIfInBounds_toArray, List.set_cons_zero, List.set_cons_succ]
    refine wpAnyH_ready (rs := [30]) (by kernel_rfl) (by simp) ?_
    refine (AllReadyH.cons (o := { dst := some 80, op := _, type := _, pos := _, after := _, guard := _ }) rfl (fun K hK => ?_) AllReadyH.nil)
    go_simp
    refine (Gt.sameKept_eq V5 l1 aa ab ca cb HLa5.out HLb5.out (by omega)).mono ?_
    rintro e1 V6 ⟨rfl, hb'⟩
    have HB6 : Hid (Below W6.heap.size W6 V6) := HB5.out.trans (hb'.mono HB5.out.size)
    have HLa6 := mkH (HLa5.out.below hb')
    have HLb6 := mkH (HLb5.out.below hb')
    clear hb'
    go_wp2_with fail
    refine hK.out _ _ ?_ (fun hHeld => ?_)
    · exact HKD.out V6 HB6.out
    clear hK K
    try simp only [Act.put, List.setIfInBounds_toArray, List.set_cons_zero, List.set_cons_succ]
    refine wpAnyH_take (i := 31) (oi := { dst := some 81, op := _, type := _, pos := _, after := _, guard := _ }) (v := ?_) rfl (by kernel_rfl) (by kernel_rfl) (by kernel_rfl) (fun _ _ _ h => h) (Or.inl ⟨by rfl, ?_⟩) (by assumption) ?_
    rotate_left
    · (intro W hSw; (try dsimp only at hSw); go_simp; try (with_reducible rfl))
    try simp only [Act.put, List.setIfInBounds_toArray, List.set_cons_zero, List.set_cons_succ]
    refine wpAnyH_take (i := 32) (oi := { dst := some 82, op := _, type := _, pos := _, after := _, guard := _ }) (v := ?_) rfl (by kernel_rfl) (by kernel_rfl) (by kernel_rfl) (fun _ _ _ h => h) (Or.inl ⟨by rfl, ?_⟩) (by assumption) ?_
    rotate_left
    · (intro W hSw; (try dsimp only at hSw); go_simp; try (with_reducible rfl))
    try simp only [Act.put, List.setIfInBounds_toArray, List.set_cons_zero, List.set_cons_succ]
    refine wpAnyH_take (i := 33) (oi := { dst := some 83, op := _, type := _, pos := _, after := _, guard := _ }) (v := ?_) rfl (by kernel_rfl) (by kernel_rfl) (by kernel_rfl) (fun _ _ _ h => h) (Or.inl ⟨by rfl, ?_⟩) (by assumption) ?_
    rotate_left
    · (intro W hSw; (try dsimp only at hSw); go_simp; try (with_reducible rfl))
    try simp only [Act.put, List.setIfInBounds_toArray, List.set_cons_zero, List.set_cons_succ]
    refine wpAnyH_take (i := 34) (oi := { dst := some 84, op := _, type := _, pos := _, after := _, guard := _ }) (v := ?_) rfl (by kernel_rfl) (by kernel_rfl) (by kernel_rfl) (fun _ _ _ h => h) (Or.inl ⟨by rfl, ?_⟩) (by assumption) ?_
    rotate_left
    · (intro W hSw; (try dsimp only at hSw); go_simp; try (with_reducible rfl))
    try simp only [Act.put, List.setIfInBounds_toArray, List.set_cons_zero, List.set_cons_succ]
    refine wpAnyH_take (i := 35) (oi := { dst := some 85, op := _, type := _, pos := _, after := _, guard := _ }) (v := ?_) rfl (by kernel_rfl) (by kernel_rfl) (by kernel_rfl) (fun _ _ _ h => h) (Or.inl ⟨by rfl, ?_⟩) (by assumption) ?_
    rotate_left
    · (intro W hSw; (try dsimp only at hSw); go_simp; try (with_reducible rfl))
    try simp only [Act.put, List.setIfInBounds_toArray, List.set_cons_zero, List.set_cons_succ]
    refine wpAnyH_take (i := 36) (oi := { dst := some 86, op := _, type := _, pos := _, after := _, guard := _ }) (v := ?_) rfl (by kernel_rfl) (by kernel_rfl) (by kernel_rfl) (fun _ _ _ h => h) (Or.inl ⟨by rfl, ?_⟩) (by assumption) ?_
    rotate_left
    · (intro W hSw; (try dsimp only at hSw); go_simp; try (with_reducible rfl))
    try simp only [Act.put, List.setIfInBounds_toArray, List.set_cons_zero, List.set_cons_succ]
    refine wpAnyH_take (i := 37) (oi := { dst := some 87, op := _, type := _, pos := _, after := _, guard := _ }) (v := ?_) rfl (by kernel_rfl) (by kernel_rfl) (by kernel_rfl) (fun _ _ _ h => h) (Or.inl ⟨by rfl, ?_⟩) (by assumption) ?_
    rotate_left
    · (intro W hSw; (try dsimp only at hSw); go_simp; try (with_reducible rfl))
    try simp only [Act.put, List.setIfInBounds_toArray, List.set_cons_zero, List.set_cons_succ]
    refine wpAnyH_take (i := 38) (oi := { dst := some 88, op := _, type := _, pos := _, after := _, guard := _ }) (v := ?_) rfl (by kernel_rfl) (by kernel_rfl) (by kernel_rfl) (fun _ _ _ h => h) (Or.inl ⟨by rfl, ?_⟩) (by assumption) ?_
    rotate_left
    · (intro W hSw; (try dsimp only at hSw); go_simp; try (with_reducible rfl))
    try simp only [Act.put, List.setIfInBounds_toArray, List.set_cons_zero, List.set_cons_succ]
    refine wpAnyH_take (i := 39) (oi := { dst := some 89, op := _, type := _, pos := _, after := _, guard := _ }) (v := ?_) rfl (by kernel_rfl) (by kernel_rfl) (by kernel_rfl) (fun _ _ _ h => h) (Or.inl ⟨by rfl, ?_⟩) (by assumption) ?_
    rotate_left
    · (intro W hSw; (try dsimp only at hSw); go_simp; try (with_reducible rfl))
    try simp only [Act.put, List.setIfInBounds_toArray, List.set_cons_zero, List.set_cons_succ]
    refine wpAnyH_take (i := 41) (oi := { dst := some 91, op := _, type := _, pos := _, after := _, guard := _ }) (v := ?_) rfl (by kernel_rfl) (by kernel_rfl) (by kernel_rfl) (fun _ _ _ h => h) (Or.inl ⟨by rfl, ?_⟩) (by assumption) ?_
    rotate_left
    · (intro W hSw; (try dsimp only at hSw); go_simp; try (with_reducible rfl))
    try simp only [Act.put, List.setIfInBounds_toArray, List.set_cons_zero, List.set_cons_succ]
    refine wpAnyH_take (i := 42) (oi := { dst := some 92, op := _, type := _, pos := _, after := _, guard := _ }) (v := ?_) rfl (by kernel_rfl) (by kernel_rfl) (by kernel_rfl) (fun _ _ _ h => h) (Or.inl ⟨by rfl, ?_⟩) (by assumption) ?_
    rotate_left
    · (intro W hSw; (try dsimp only at hSw); go_simp; try (with_reducible rfl))
    try simp only [Act.put, List.setIfInBounds_toArray, List.set_cons_zero, List.set_cons_succ]
    refine wpAnyH_take (i := 43) (oi := { dst := some 93, op := _, type := _, pos := _, after := _, guard := _ }) (v := ?_) rfl (by kernel_rfl) (by kernel_rfl) (by kernel_rfl) (fun _ _ _ h => h) (Or.inl ⟨by rfl, ?_⟩) (by assumption) ?_
    rotate_left
    · (intro W hSw; (try dsimp only at hSw); go_simp; try (with_reducible rfl))
    try simp only [Act.put, List.setIfInBounds_toArray, List.set_cons_zero, List.set_cons_succ]
    refine wpAnyH_take (i := 44) (oi := { dst := some 94, op := _, type := _, pos := _, after := _, guard := _ }) (v := ?_) rfl (by kernel_rfl) (by kernel_rfl) (by kernel_rfl) (fun _ _ _ h => h) (Or.inl ⟨by rfl, ?_⟩) (by assumption) ?_
    rotate_left
    · (intro W hSw; (try dsimp only at hSw); go_simp; try (with_reducible rfl))
    try simp only [Act.put, List.setIfInBounds_toArray, List.set_cons_zero, List.set_cons_succ]
    refine wpAnyH_take (i := 45) (oi := { dst := some 95, op := _, type := _, pos := _, after := _, guard := _ }) (v := ?_) rfl (by kernel_rfl) (by kernel_rfl) (by kernel_rfl) (fun _ _ _ h => h) (Or.inl ⟨by rfl, ?_⟩) (by assumption) ?_
    rotate_left
    · (intro W hSw; (try dsimp only at hSw); go_simp; try (with_reducible rfl))
    try simp only [Act.put, List.setIfInBounds_toArray, List.set_cons_zero, List.set_cons_succ]
    refine wpAnyH_take (i := 46) (oi := { dst := some 96, op := _, type := _, pos := _, after := _, guard := _ }) (v := ?_) rfl (by kernel_rfl) (by kernel_rfl) (by kernel_rfl) (fun _ _ _ h => h) (Or.inl ⟨by rfl, ?_⟩) (by assumption) ?_
    rotate_left
    · (intro W hSw; (try dsimp only at hSw); go_simp; try (with_reducible rfl))
    try simp only [Act.put, List.setIfInBounds_toArray, List.set_cons_zero, List.set_cons_succ]
    refine wpAnyH_take (i := 47) (oi := { dst := some 97, op := _, type := _, pos := _, after := _, guard := _ }) (v := ?_) rfl (by kernel_rfl) (by kernel_rfl) (by kernel_rfl) (fun _ _ _ h => h) (Or.inl ⟨by rfl, ?_⟩) (by assumption) ?_
    rotate_left
    · (intro W hSw; (try dsimp only at hSw); go_simp; try (with_reducible rfl))
    try simp only [Act.put, List.setIfInBounds_toArray, List.set_cons_zero, List.set_cons_succ]
    refine wpAnyH_ready (rs := [40]) (by kernel_rfl) (by simp) ?_
    refine (AllReadyH.cons (o := { dst := some 90, op := _, type := _, pos := _, after := _, guard := _ }) rfl (fun K hK => ?_) AllReadyH.nil)
    go_simp
    refine (HAc.out V6 HB6.out).mono ?_
    rintro e1 V7 ⟨ac, cc, rfl, hlc, hb'⟩
    have HB7 : Hid (Below W6.heap.size W6 V7) := HB6.out.trans (hb'.mono HB6.out.size)
    have HLc7 := mkH hlc
    clear hlc
    clear hb'
    go_wp2_with fail
    refine hK.out _ _ ?_ (fun hHeld => ?_)
    · exact HKD.out V7 HB7.out
    clear hK K
    try simp only [Act.put, List.setIfInBounds_toArray, List.set_cons_zero, List.set_cons_succ]
    refine wpAnyH_ready (rs := [48]) (by kernel_rfl) (by simp) ?_
    refine (AllReadyH.cons (o := { dst := some 98, op := _, type := _, pos := _, after := _, guard := _ }) rfl (fun K hK => ?_) AllReadyH.nil)
    go_simp
    refine (HAd.out V7 HB7.out).mono ?_
    rintro e1 V8 ⟨ad, cd, rfl, hld, hb'⟩
    have HB8 : Hid (Below W6.heap.size W6 V8) := HB7.out.trans (hb'.mono HB7.out.size)
    have HLc8 := mkH (HLc7.out.below hb')
    have HLd8 := mkH hld
    clear hld
    clear hb'
    go_wp2_with fail
    refine hK.out _ _ ?_ (fun hHeld => ?_)
    · exact HKD.out V8 HB8.out
    clear hK K
    try simp only [Act.put, List.setIfInBounds_toArray, List.set_cons_zero, List.set_cons_succ]
    refine wpAnyH_ready (rs := [49]) (by kernel_rfl) (by simp) ?_
    refine (AllReadyH.cons (o := { dst := some 99, op := _, type := _, pos := _, after := _, guard := _ }) rfl (fun K hK => ?_) AllReadyH.nil)
    go_simp
    refine (Gt.sameKept_eq V8 l2 ac ad cc cd HLc8.out HLd8.out (by omega)).mono ?_
    rintro e1 V9 ⟨rfl, hb'⟩
    have HB9 : Hid (Below W6.heap.size W6 V9) := HB8.out.trans (hb'.mono HB8.out.size)
    have HLc9 := mkH (HLc8.out.below hb')
    have HLd9 := mkH (HLd8.out.below hb')
    clear hb'
    go_wp2_with fail
    refine hK.out _ _ ?_ (fun hHeld => ?_)
    · exact HKD.out V9 HB9.out
    clear hK K
    try simp only [Act.put, List.setIfInBounds_toArray, List.set_cons_zero, List.set_cons_succ]
    refine wpAnyH_take (i := 50) (oi := { dst := some 100, op := _, type := _, pos := _, after := _, guard := _ }) (v := ?_) rfl (by kernel_rfl) (by kernel_rfl) (by kernel_rfl) (fun _ _ _ h => h) (Or.inl ⟨by rfl, ?_⟩) (by assumption) ?_
    rotate_left
    · (intro W hSw; (try dsimp only at hSw); go_simp; try (with_reducible rfl))
    try simp only [Act.put, List.setIfInBounds_toArray, List.set_cons_zero, List.set_cons_succ]
    refine wpAnyH_take (i := 51) (oi := { dst := some 101, op := _, type := _, pos := _, after := _, guard := _ }) (v := ?_) rfl (by kernel_rfl) (by kernel_rfl) (by kernel_rfl) (fun _ _ _ h => h) (Or.inl ⟨by rfl, ?_⟩) (by assumption) ?_
    rotate_left
    · (intro W hSw; (try dsimp only at hSw); go_simp; try (with_reducible rfl))
    try simp only [Act.put, List.setIfInBounds_toArray, List.set_cons_zero, List.set_cons_succ]
    refine wpAnyH_take (i := 52) (oi := { dst := some 102, op := _, type := _, pos := _, after := _, guard := _ }) (v := ?_) rfl (by kernel_rfl) (by kernel_rfl) (by kernel_rfl) (fun _ _ _ h => h) (Or.inl ⟨by rfl, ?_⟩) (by assumption) ?_
    rotate_left
    · (intro W hSw; (try dsimp only at hSw); go_simp; try (with_reducible rfl))
    try simp only [Act.put, List.setIfInBounds_toArray, List.set_cons_zero, List.set_cons_succ]
    refine wpAnyH_take (i := 53) (oi := { dst := some 103, op := _, type := _, pos := _, after := _, guard := _ }) (v := ?_) rfl (by kernel_rfl) (by kernel_rfl) (by kernel_rfl) (fun _ _ _ h => h) (Or.inl ⟨by rfl, ?_⟩) (by assumption) ?_
    rotate_left
    · (intro W hSw; (try dsimp only at hSw); go_simp; try (with_reducible rfl))
    try simp only [Act.put, List.setIfInBounds_toArray, List.set_cons_zero, List.set_cons_succ]
    refine wpAnyH_ready (rs := [54]) (by kernel_rfl) (by simp) ?_
    refine (AllReadyH.cons (o := { dst := some 104, op := _, type := _, pos := _, after := _, guard := _ }) rfl (fun K hK => ?_) AllReadyH.nil)
    go_simp
    refine (HS7.out V9 HB9.out).mono ?_
    rintro e1 V10 ⟨rfl, hb'⟩
    have HB10 : Hid (Below W6.heap.size W6 V10) := HB9.out.trans (hb'.mono HB9.out.size)
    clear hb'
    go_wp2_with fail
    refine hK.out _ _ ?_ (fun hHeld => ?_)
    · exact HKD.out V10 HB10.out
    clear hK K
    try simp only [Act.put, List.setIfInBounds_toArray, List.set_cons_zero, List.set_cons_succ]
    refine wpAnyH_take (i := 55) (oi := { dst := some 105, op := _, type := _, pos := _, after := _, guard := _ }) (v := ?_) rfl (by kernel_rfl) (by kernel_rfl) (by kernel_rfl) (fun _ _ _ h => h) (Or.inl ⟨by rfl, ?_⟩) (by assumption) ?_
    rotate_left
    · (intro W hSw; (try dsimp only at hSw); go_simp; try (with_reducible rfl))
    try simp only [Act.put, List.setIfInBounds_toArray, List.set_cons_zero, List.set_cons_succ]
    refine wpAnyH_take (i := 56) (oi := { dst := some 106, op := _, type := _, pos := _, after := _, guard := _ }) (v := ?_) rfl (by kernel_rfl) (by kernel_rfl) (by kernel_rfl) (fun _ _ _ h => h) (Or.inl ⟨by rfl, ?_⟩) (by assumption) ?_
    rotate_left
    · (intro W hSw; (try dsimp only at hSw); go_simp; try (with_reducible rfl))
    try simp only [Act.put, List.setIfInBounds_toArray, List.set_cons_zero, List.set_cons_succ]
    refine wpAnyH_ready (rs := [57]) (by kernel_rfl) (by simp) ?_
    refine (AllReadyH.cons (o := { dst := some 107, op := _, type := _, pos := _, after := _, guard := _ }) rfl (fun K hK => ?_) AllReadyH.nil)
    go_simp
    refine (Gw.works_any V10).mono ?_
    rintro e1 V11 ⟨rfl, hb'⟩
    have HB11 : Hid (Below W6.heap.size W6 V11) := HB10.out.trans (hb'.mono HB10.out.size)
    clear hb'
    go_wp2_with fail
    refine hK.out _ _ ?_ (fun hHeld => ?_)
    · exact HKD.out V11 HB11.out
    clear hK K
    try simp only [Act.put, List.setIfInBounds_toArray, List.set_cons_zero, List.set_cons_succ]
    refine wpAnyH_take (i := 58) (oi := { dst := some 108, op := _, type := _, pos := _, after := _, guard := _ }) (v := ?_) rfl (by kernel_rfl) (by kernel_rfl) (by kernel_rfl) (fun _ _ _ h => h) (Or.inl ⟨by rfl, ?_⟩) (by assumption) ?_
    rotate_left
    · (intro W hSw; (try dsimp only at hSw); go_simp; try (with_reducible rfl))
    try simp only [Act.put, List.setIfInBounds_toArray, List.set_cons_zero, List.set_cons_succ]
    refine wpAnyH_take (i := 59) (oi := { dst := some 4, op := _, type := _, pos := _, after := _, guard := _ }) (v := ?_) rfl (by kernel_rfl) (by kernel_rfl) (by kernel_rfl) (fun _ _ _ h => h) (Or.inl ⟨by rfl, ?_⟩) (by assumption) ?_
    rotate_left
    · (intro W hSw; (try dsimp only at hSw); go_simp; try (with_reducible rfl))
    try simp only [Act.put, List.setIfInBounds_toArray, List.set_cons_zero, List.set_cons_succ]
    refine wpAnyH_done (by kernel_rfl) ?_ _
    go_wp2
    go_ret
    exact ⟨rfl, HBW.out.trans (HB11.out.mono HBW.out.size)⟩
end Go.Proofs.YtcpmaddleleblaaDoor.Ggv
