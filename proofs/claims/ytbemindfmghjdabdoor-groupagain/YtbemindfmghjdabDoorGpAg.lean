/-
  The walk of GroupAgain.
-/
import Derived.Test.YtbemindfmghjdabDoorGpX
import Derived.Test.YtbemindfmghjdabDoorGpY
import Derived.Test.YtbemindfmghjdabDoorGpH
import Derived.Test.YtbemindfmghjdabDoorGpT
import Derived.Test.YtbemindfmghjdabDoorGpW
namespace Go.Proofs.YtbemindfmghjdabDoor.Gag
open Go.RowKit Kt Gf Gp Gr Gk Ga Gs Gb Gg Gm Gn Gx Gh Gt
set_option linter.unusedVariables false
set_option linter.unusedSimpArgs false
set_option maxRecDepth 20000

set_option maxHeartbeats 8000000 in
theorem again_walk (w : World) (g : G) (ka : Option Addr) (kc : Nat) (ma : Option Addr) (mc : Nat) (h : Gl w g ka kc ma mc) (a : Q) (wait : Int) :
    Calls Tryd.prog 4 #[.agg (gC g ka kc ma mc), .agg (qC a), .int .i64 wait] w fun e w' => e = .returned (.bool true) ∧ Below w.heap.size w w' := by
  have HL := mkH h
  clear h
  obtain ⟨n1, k1, m1, t1, hfg, hok1, hk1, hm1⟩ := few_g g
  obtain ⟨c0, c1, c2, c3, c4, c5, c6, hfq, e0, e1, e2, e3, e4, e5, e6⟩ := few_q a
  have HFG := mkH hfg
  have HFQ := mkH hfq
  have HOK := mkH hok1
  clear hfg hfq hok1
  obtain ⟨nx, kp, mk, at'⟩ := g
  obtain ⟨b0, b1, b2, b3, b4, b5, b6⟩ := a
  simp only [gC, qC]
  have HA : Hid (Below w.heap.size w ((w.alloc (.cells #[Value.int .i64 nx, .slice ka kp.length kc, .slice ma mk.length mc, .string at'] 30)).alloc (.cells #[Value.int .i64 b0, .int .i64 b1, .int .i64 b2, .int .i64 b3, .int .i64 b4, .string b5, .string b6] 45))) := ((Below.refl _ w).alloc (Nat.le_refl _) _).alloc (by simp) _
  have HB3 := mkH ((Bx.new w #[Value.int .i64 nx, .slice ka kp.length kc, .slice ma mk.length mc, .string at'] 30).alloc (.cells #[Value.int .i64 b0, .int .i64 b1, .int .i64 b2, .int .i64 b3, .int .i64 b4, .string b5, .string b6] 45))
  have HB4 := mkH (Bx.new1 w (.cells #[Value.int .i64 nx, .slice ka kp.length kc, .slice ma mk.length mc, .string at'] 30) #[Value.int .i64 b0, .int .i64 b1, .int .i64 b2, .int .i64 b3, .int .i64 b4, .string b5, .string b6] 45)
  go_enter Tryd.func4, Tryd.ntmps4
  go_upto_region 1 with fail
  generalize (w.alloc (.cells #[Value.int .i64 nx, .slice ka kp.length kc, .slice ma mk.length mc, .string at'] 30)).alloc (.cells #[Value.int .i64 b0, .int .i64 b1, .int .i64 b2, .int .i64 b3, .int .i64 b4, .string b5, .string b6] 45) = w0 at *
  obtain ⟨B4, hB4⟩ : ∃ B, w.heap.size + 1 = B := ⟨_, rfl⟩
  rw [hB4] at HB4 ⊢
  have r1 : w.heap.size < B4 := by omega
  have n34 : ¬ w.heap.size = B4 := by omega
  have n43 : ¬ B4 = w.heap.size := by omega
  clear hB4
  have hFW := Few_any w0.drew ⟨nx, kp, mk, at'⟩ ka kc ma mc ((HL.out.below HA.out).below (below_drew w0))
  rw [HFG.out] at hFW
  simp only [gC] at hFW
  have HFW := mkH hFW
  clear hFW
  have HFQ2 : Hid (∀ W, Calls Tryd.prog 12 #[.agg #[Value.int .i64 b0, .int .i64 b1, .int .i64 b2, .int .i64 b3, .int .i64 b4, .string b5, .string b6]] W fun e w' => e = .returned (.agg #[Value.int .i64 c0, .int .i64 c1, .int .i64 c2, .int .i64 c3, .int .i64 c4, .string c5, .string c6]) ∧ Below W.heap.size W w') := fun W => by
    have := few_any W ⟨b0, b1, b2, b3, b4, b5, b6⟩
    rw [HFQ.out] at this
    exact this
  obtain ⟨y0, y1, y2, y3, -⟩ := HB3.out.four
  obtain ⟨x0, x1, x2, x3, x4, x5, x6⟩ := seven HB4.out
  go_cut [3] (fun v3 WW => v3 = .pointer (some ⟨w.heap.size, 0, none⟩) ∧ ∃ ka1 kc1 ma1 mc1, Gin WW w.heap.size ⟨n1, k1, m1, t1⟩ ka1 kc1 ma1 mc1 ∧ Bx WW B4 #[Value.int .i64 c0, .int .i64 c1, .int .i64 c2, .int .i64 c3, .int .i64 c4, .string c5, .string c6] 45 ∧ Below w.heap.size w WW)
  case first =>
    go_region_with (first
      | (go_at_call 11; refine HFW.out.mono ?_; rintro e w1 ⟨ka1, kc1, ma1, mc1, rfl, hg1, hb1⟩; have hb1' : Below w0.heap.size w0 w1 := (below_drew w0).trans hb1; have HG1 := mkH hg1; have HC3 := mkH (HB3.out.bel hb1'); have HC4 := mkH (HB4.out.bel hb1'); obtain ⟨x0, x1, x2, x3, x4, x5, x6⟩ := seven HC4.out; have HBB := mkH hb1'; clear hg1 hb1 hb1')
      | (go_at_call 12; refine (HFQ2.out _).mono ?_; rintro e w2 ⟨rfl, hb2⟩; have HG2 := mkH (Go'.below HG1.out hb2); have HD3 := mkH (HC3.out.bel hb2); have HD4 := mkH (HC4.out.bel hb2); obtain ⟨f0, f1, f2, f3, v0, v1, v2, v3⟩ := HD3.out.four; obtain ⟨x0, x1, x2, x3, x4, x5, x6⟩ := seven HD4.out; obtain ⟨u0, u1, u2, u3, u4, u5, u6⟩ := frz7 HD4.out; have HB2 : Hid (Below w.heap.size w w2) := (HA.out.trans (HBB.out.mono HA.out.size)).trans (hb2.mono (Nat.le_trans HA.out.size HBB.out.size)); clear hb2))
    all_goals
      go_wp2_with fail
      go_meet
      case rel =>
        obtain ⟨p1, q1⟩ := HD3.out.sAll (v0 := .int .i64 n1) (v1 := .slice ka1 k1.length kc1) (v2 := .slice ma1 m1.length mc1) (v3 := .string t1)
        have p4 := HD4.out.fr q1 n43
        obtain ⟨p2, q2⟩ := sAll7 p4 (v0 := .int .i64 c0) (v1 := .int .i64 c1) (v2 := .int .i64 c2) (v3 := .int .i64 c3) (v4 := .int .i64 c4) (v5 := .string c5) (v6 := .string c6)
        have p3 := p1.fr q2 n34
        have hlt : ∀ k, w0.drew.heap.size ≤ k → k ≠ w.heap.size ∧ k ≠ B4 := fun k hk => by
          have h1 := HB4.out.lt
          have h2 : w0.heap.size ≤ k := hk
          omega
        have k2 := own_fr (own_fr HG2.out.k q1 (fun k hk e => (hlt k (HG2.out.k.lt k hk).1).1 e)) q2 (fun k hk e => (hlt k (HG2.out.k.lt k hk).1).2 e)
        have l2 := own_fr (own_fr HG2.out.m q1 (fun k hk e => (hlt k (HG2.out.m.lt k hk).1).1 e)) q2 (fun k hk e => (hlt k (HG2.out.m.lt k hk).1).2 e)
        exact ⟨rfl, ka1, kc1, ma1, mc1, ⟨p3, Go'.gl (B := w0.drew.heap.size) ⟨k2, l2⟩⟩, p2, below_fr (below_fr HB2.out q1 (fun k hk => by omega) (Nat.le_refl _)) q2 (fun k hk => by omega) (Nat.le_refl _)⟩
  case rest =>
    obtain ⟨rfl, ka1, kc1, ma1, mc1, hgin, hq4, hbw⟩ := hcut
    have HG := mkH hgin
    have HQ := mkH hq4
    have HB := mkH hbw
    clear hgin hq4 hbw HFW HFQ2 HB3 HB4 HA HL y0 y1 y2 y3 x0 x1 x2 x3 x4 x5 x6
    obtain ⟨y0, y1, y2, y3, -⟩ := HG.out.b.four
    obtain ⟨x0, x1, x2, x3, x4, x5, x6⟩ := seven HQ.out
    have s0 : Sm c0 := ⟨e0.1, by omega⟩
    have s2 : Sm c2 := ⟨e2.1, by omega⟩
    obtain ⟨h2, hh2⟩ : ∃ x, rcvG ⟨n1, k1, m1, t1⟩ c0 c1 c2 0 0 = x := ⟨_, rfl⟩
    obtain ⟨got, hgot⟩ : ∃ x, rcvGot ⟨n1, k1, m1, t1⟩ c0 c1 c2 0 0 = x := ⟨_, rfl⟩
    obtain ⟨dd, hdd⟩ : ∃ x, rcvDead ⟨n1, k1, m1, t1⟩ c0 c1 c2 0 0 = x := ⟨_, rfl⟩
    have hln := Gy.rcvG_len ⟨n1, k1, m1, t1⟩ c0 c1 c2 0 0
    rw [hh2, hgot, hdd] at hln
    simp only at hln
    have hRc := Receive_any wc ⟨n1, k1, m1, t1⟩ ka1 kc1 ma1 mc1 HG.out.l (by show k1.length ≤ _; omega) (by show m1.length ≤ _; omega) HOK.out c0 c1 c2 0 0 s0 s2 h2 got dd hh2 hgot hdd
    have HAG : Hid (got ≠ [] → ∀ later, c0 ≤ later → (c2 ≤ later - c0 → againL later 100 h2.kept = []) ∧ (later - c0 < c2 → againL later 100 h2.kept = got)) := fun hne later hla => by
      have := Gy.again_ok ⟨n1, k1, m1, t1⟩ c0 c1 c2 later (by rw [hgot]; exact hne) hla
      rw [hh2, hgot] at this
      exact ⟨this.1, fun hs => this.2 hs (by show k1.length ≤ 100; omega)⟩
    obtain ⟨n2, k2, m2, t2⟩ := h2
    simp only [gC] at hRc
    simp only at hln
    have HR := mkH hRc
    obtain ⟨hkl, hgl, -⟩ := hln
    clear hRc hh2 hgot hdd
    go_wp2_with fail
    refine HR.out.mono ?_
    rintro e w2 ⟨ka2, kc2, ma2, mc2, ga, gc, da, dc, rfl, hg2, hl2, hd2, hb2⟩
    have hal : Below w2.heap.size w2 (w2.alloc (.cells #[Value.int .i64 n2, .slice ka2 k2.length kc2, .slice ma2 m2.length mc2, .string t2] 30)) := (Below.refl _ w2).alloc (Nat.le_refl _) _
    have hb2a : Below wc.heap.size wc (w2.alloc (.cells #[Value.int .i64 n2, .slice ka2 k2.length kc2, .slice ma2 m2.length mc2, .string t2] 30)) := hb2.trans (hal.mono hb2.size)
    have HO := mkH (Bx.new w2 #[Value.int .i64 n2, .slice ka2 k2.length kc2, .slice ma2 m2.length mc2, .string t2] 30)
    have HG2 := mkH (hg2.below hal)
    have HL2 := mkH (hl2.below hal)
    have HQ2 := mkH (HQ.out.bel hb2a)
    have HB2 : Hid (Below w.heap.size w (w2.alloc (.cells #[Value.int .i64 n2, .slice ka2 k2.length kc2, .slice ma2 m2.length mc2, .string t2] 30))) := HB.out.trans (hb2a.mono HB.out.size)
    rcases Nat.eq_zero_or_pos got.length with hz | hz
    · have hz2 : got = [] := List.eq_nil_of_length_eq_zero hz
      subst hz2
      simp only [List.length_nil]
      clear hg2 hl2 hd2 hb2 hb2a hal HR
      go_wp2_with fail
      refine (Gw.works_any _).mono ?_
      rintro e w3 ⟨rfl, hb3⟩
      go_wp2
      go_ret
      exact ⟨rfl, HB2.out.trans (hb3.mono HB2.out.size)⟩
    · have hz1 : ¬ (got.length : Int) = 0 := by omega
      have hz3 : ((got.length : Int) == 0) = false := by simpa using hz1
      have HNE : Hid (got ≠ []) := fun e => by rw [e] at hz; simp at hz
      have hal3 : Below w2.heap.size w2 (w2.alloc (.cells #[Value.int .i64 n2, .slice ka2 k2.length kc2, .slice ma2 m2.length mc2, .string ⟨#[109, 101]⟩] 30)) := (Below.refl _ w2).alloc (Nat.le_refl _) _
      have hb3a : Below wc.heap.size wc (w2.alloc (.cells #[Value.int .i64 n2, .slice ka2 k2.length kc2, .slice ma2 m2.length mc2, .string ⟨#[109, 101]⟩] 30)) := hb2.trans (hal3.mono hb2.size)
      have hB3 : Bx (w2.alloc (.cells #[Value.int .i64 n2, .slice ka2 k2.length kc2, .slice ma2 m2.length mc2, .string ⟨#[109, 101]⟩] 30)) w2.heap.size #[Value.int .i64 n2, .slice ka2 k2.length kc2, .slice ma2 m2.length mc2, .string ⟨#[109, 101]⟩] 30 := Bx.new w2 _ _
      have hg3 : Gl (w2.alloc (.cells #[Value.int .i64 n2, .slice ka2 k2.length kc2, .slice ma2 m2.length mc2, .string ⟨#[109, 101]⟩] 30)) ⟨n2, k2, m2, ⟨#[109, 101]⟩⟩ ka2 kc2 ma2 mc2 := by have := hg2.below hal3; exact ⟨this.k, this.m, this.kl, this.ml, this.kb, this.mb⟩
      have hl3 := hl2.below hal3
      have hq3 := HQ.out.bel hb3a
      have hb3 : Below w.heap.size w (w2.alloc (.cells #[Value.int .i64 n2, .slice ka2 k2.length kc2, .slice ma2 m2.length mc2, .string ⟨#[109, 101]⟩] 30)) := HB.out.trans (hb3a.mono HB.out.size)
      clear hg2 hl2 hd2 hb2 hb2a hal hal3 hb3a HR y0 y1 y2 y3 x0 x1 x2 x3 x4 x5 x6 HO HG2 HL2 HQ2 HB2
      go_upto_region 6 with fail
      have HB3 := mkH hB3
      have HG3 := mkH hg3
      have HL3 := mkH hl3
      have HQ3 := mkH hq3
      have HBl3 := mkH hb3
      have hlt3 : w2.heap.size < (w2.alloc (.cells #[Value.int .i64 n2, .slice ka2 k2.length kc2, .slice ma2 m2.length mc2, .string ⟨#[109, 101]⟩] 30)).heap.size := by simp
      clear hB3 hg3 hl3 hq3 hb3
      generalize w2.alloc (.cells #[Value.int .i64 n2, .slice ka2 k2.length kc2, .slice ma2 m2.length mc2, .string ⟨#[109, 101]⟩] 30) = W3 at *
      obtain ⟨B7, hB7⟩ : ∃ B, w2.heap.size = B := ⟨_, rfl⟩
      rw [hB7] at HB3 ⊢
      clear hB7 hlt3 HQ HB HG
      obtain ⟨x0, x1, x2, x3, x4, x5, x6⟩ := seven HQ3.out
      have hsm := smal_bd wait 100 (by decide)
      obtain ⟨sw, hsw⟩ : ∃ x, smal wait 100 = x := ⟨_, rfl⟩
      have HSM : Hid (∀ W, Calls Tryd.prog 6 #[.int .i64 wait, .int .i64 100] W fun e w' => e = .returned (.int .i64 sw) ∧ w' = W) := fun W => by rw [← hsw]; exact small_any W wait 100 (by decide) (by decide)
      rw [hsw] at hsm
      have bA : -9223372036854775808 ≤ c0 + sw := by omega
      have bB : c0 + sw ≤ 9223372036854775807 := by omega
      clear hsw
      have hmx : Tryd.prog.follows .mixedOrders = true := by kernel_rfl
      go_quiet ((go_at_call 6; exact Calls.quiet_of_same (HSM.out _)))
      have hbd : Below W3.heap.size W3 (W3.drewN nq) := ⟨rfl, rfl, rfl, Nat.le_refl _, fun _ _ => rfl⟩
      have HB4' := mkH (HB3.out.bel hbd)
      have HG4 := mkH (HG3.out.below hbd)
      have HL4 := mkH (HL3.out.below hbd)
      have HQ4 := mkH (HQ3.out.bel hbd)
      have HBl4 : Hid (Below w.heap.size w (W3.drewN nq)) := HBl3.out.trans (hbd.mono HBl3.out.size)
      clear hbd HB3 HG3 HL3 HQ3 HBl3 x0 x1 x2 x3 x4 x5 x6 HSM
      generalize W3.drewN nq = W4 at *
      obtain ⟨la, hla⟩ : ∃ x, c0 + sw = x := ⟨_, rfl⟩
      rw [hla] at bA bB ⊢
      have hl0 : c0 ≤ la := by omega
      have hl1 : la - c0 ≤ 9223372036854775807 := by omega
      have hl2 : -9223372036854775808 ≤ la - c0 := by omega
      clear hla hsm
      obtain ⟨l1, hl1e⟩ : ∃ x, again ⟨n2, k2, m2, ⟨#[109, 101]⟩⟩ la (100 : Int).toNat ⟨#[109, 101]⟩ = x := ⟨_, rfl⟩
      have hl1q : l1 = againL la 100 k2 := by
        rw [← hl1e]; unfold again
        rw [if_neg (by rintro (h | h); exact absurd h (by decide); exact h rfl)]
        rfl
      have hyou : again ⟨n2, k2, m2, ⟨#[109, 101]⟩⟩ la (100 : Int).toNat ⟨#[121, 111, 117]⟩ = [] := by unfold again; rw [if_pos (.inr (show (⟨#[121, 111, 117]⟩ : ByteArray) ≠ ⟨#[109, 101]⟩ by decide))]
      have hemp : again ⟨n2, k2, m2, ⟨#[109, 101]⟩⟩ la (100 : Int).toNat ⟨#[]⟩ = [] := by unfold again; rw [if_pos (.inl rfl)]
      have hA := HAG.out HNE.out la hl0
      rw [← hl1q] at hA
      have HA2 := mkH hA
      clear hA hl1q HAG
      have hk100 : k2.length ≤ 100000000 := by omega
      have hag1 := Again_any W4 ⟨n2, k2, m2, ⟨#[109, 101]⟩⟩ ka2 kc2 ma2 mc2 HG4.out hk100 la 100 ⟨#[109, 101]⟩ l1 hl1e
      simp only [gC] at hag1
      have HAG1 := mkH hag1
      have HY := mkH hyou
      have HE := mkH hemp
      have HLe := mkH hl1e
      obtain ⟨f0, f1, f2, f3, -⟩ := HB4'.out.four
      clear hag1 hyou hemp hl1e
      go_wp2_with fail
      refine HAG1.out.mono ?_
      rintro e w5 ⟨a5, d5, rfl, hs5, hb5⟩
      have HS5 := mkH hs5
      have HB5 := mkH (HB4'.out.bel hb5)
      have HG5 := mkH (HG4.out.below hb5)
      have HL5 := mkH (HL4.out.below hb5)
      have HQ5 := mkH (HQ4.out.bel hb5)
      have HBl5 : Hid (Below w.heap.size w w5) := HBl4.out.trans (hb5.mono HBl4.out.size)
      clear hs5 hb5 HB4' HG4 HL4 HQ4 HBl4 f0 f1 f2 f3 HAG1
      obtain ⟨f0, f1, f2, f3, -⟩ := HB5.out.four
      have hag2 := Again_any w5 ⟨n2, k2, m2, ⟨#[109, 101]⟩⟩ ka2 kc2 ma2 mc2 HG5.out hk100 la 100 ⟨#[121, 111, 117]⟩ [] HY.out
      simp only [gC] at hag2
      have HAG2 := mkH hag2
      clear hag2
      go_wp2_with fail
      refine HAG2.out.mono ?_
      rintro e w6 ⟨a6, d6, rfl, hs6, hb6⟩
      have HS6 := mkH (HS5.out.below hb6)
      have HB6 := mkH (HB5.out.bel hb6)
      have HG6 := mkH (HG5.out.below hb6)
      have HL6 := mkH (HL5.out.below hb6)
      have HQ6 := mkH (HQ5.out.bel hb6)
      have HBl6 : Hid (Below w.heap.size w w6) := HBl5.out.trans (hb6.mono HBl5.out.size)
      clear hs6 hb6 HS5 HB5 HG5 HL5 HQ5 HBl5 f0 f1 f2 f3 HAG2
      simp only [List.length_nil]
      obtain ⟨f0, f1, f2, f3, -⟩ := HB6.out.four
      have hag3 := Again_any w6 ⟨n2, k2, m2, ⟨#[109, 101]⟩⟩ ka2 kc2 ma2 mc2 HG6.out hk100 la 100 ⟨#[]⟩ [] HE.out
      simp only [gC] at hag3
      have HAG3 := mkH hag3
      clear hag3
      go_wp2_with fail
      refine HAG3.out.mono ?_
      rintro e w7 ⟨a7, d7, rfl, hs7, hb7⟩
      have HS7 := mkH (HS6.out.below hb7)
      have HL7 := mkH (HL6.out.below hb7)
      have HQ7 := mkH (HQ6.out.bel hb7)
      have HBl7 : Hid (Below w.heap.size w w7) := HBl6.out.trans (hb7.mono HBl6.out.size)
      clear hs7 hb7 HS6 HB6 HG6 HL6 HQ6 HBl6 f0 f1 f2 f3 HAG3
      simp only [List.length_nil]
      obtain ⟨x0, x1, x2, x3, x4, x5, x6⟩ := seven HQ7.out
      by_cases hsec : c2 ≤ la - c0
      · have hl1n : l1 = [] := HA2.out.1 hsec
        subst hl1n
        simp only [List.length_nil]
        have t5 : decide (c2 ≤ la - c0) = true := by simpa using hsec
        go_wp2_with fail
        refine (Gw.works_any _).mono ?_
        rintro e w8 ⟨rfl, hb8⟩
        go_wp2
        go_ret
        exact ⟨rfl, HBl7.out.trans (hb8.mono HBl7.out.size)⟩
      · have hl1n : l1 = got := HA2.out.2 (by omega)
        subst hl1n
        have t5 : decide (c2 ≤ la - c0) = false := by simpa using hsec
        have HSK := mkH (sameKept_eq w7 l1 a5 ga d5 gc HS7.out HL7.out (by omega))
        go_wp2_with fail
        refine HSK.out.mono ?_
        rintro e w8 ⟨rfl, hb8⟩
        have HBl8 : Hid (Below w.heap.size w w8) := HBl7.out.trans (hb8.mono HBl7.out.size)
        clear hb8 HSK
        go_wp2_with fail
        refine (Gw.works_any _).mono ?_
        rintro e w9 ⟨rfl, hb9⟩
        go_wp2
        go_ret
        exact ⟨rfl, HBl8.out.trans (hb9.mono HBl8.out.size)⟩
end Go.Proofs.YtbemindfmghjdabDoor.Gag
