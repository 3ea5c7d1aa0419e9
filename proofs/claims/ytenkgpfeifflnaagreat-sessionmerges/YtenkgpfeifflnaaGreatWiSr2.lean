/-
  SameReply of the document, and Same of ranges: of one and the same.
-/
import Derived.Test.YtenkgpfeifflnaaGreatWiSr
import Derived.Test.YtenkgpfeifflnaaGreatWiA3
namespace Go.Proofs.YtenkgpfeifflnaaGreat.Wsr
open Go.RowKit Kt Pl Wi Wk We Wa Wn Wx
open At (RowT)
set_option linter.unusedVariables false
set_option linter.unusedSimpArgs false
set_option maxRecDepth 20000

set_option maxHeartbeats 4000000 in
theorem rsameR_self (w : World) (ao bo : Option Addr) (acap bcap : Nat) (l : List (Int × Int)) (ha : RowR w ao l) (hb : RowR w bo l) (hlen : l.length ≤ 1000000000) :
    Calls Tryz.prog 37 #[.slice ao l.length acap, .slice bo l.length bcap] w fun e w' => e = .returned (.bool true) ∧ Gr w w' := by
  have HA := mkH ha
  have HB := mkH hb
  clear ha hb
  go_enter Tryz.func37, Tryz.ntmps37
  go_wp2
  go_loopw [5] (fun i wr => ∃ k : Nat, k ≤ l.length ∧ i = .int .i64 k ∧ Hid (Gr w wr)) (fun i _ => l.length - (intOf i).toNat)
  case atStart => exact ⟨0, Nat.zero_le _, rfl, mkH (Gr.refl w)⟩
  case round =>
    obtain ⟨k, hk, rfl, HG⟩ := hrel
    by_cases hlt : k < l.length
    · obtain ⟨b, off, hao, hc1⟩ := RowS.gr HA.out HG.out (by omega)
      obtain ⟨b2, off2, hbo, hc2⟩ := RowS.gr HB.out HG.out (by omega)
      obtain ⟨x, hx⟩ := some_of hlt
      have HL1 : Hid (∀ W, Gr wr W → (loadVar 95 ⟨b, off + k * 2, none⟩).run Tryz.prog W = .ok (.agg #[.int .i64 x.1, .int .i64 x.2]) W) := mkH (fun W h => by
        obtain ⟨b', off', e, hc⟩ := RowS.gr (RowS.gr HA.out HG.out) h (by omega)
        rw [hao] at e; injection e with e; injection e with e1 e2; subst e1 e2
        exact load_rng (hc k x hx))
      have HL2 : Hid (∀ W, Gr wr W → (loadVar 95 ⟨b2, off2 + k * 2, none⟩).run Tryz.prog W = .ok (.agg #[.int .i64 x.1, .int .i64 x.2]) W) := mkH (fun W h => by
        obtain ⟨b', off', e, hc⟩ := RowS.gr (RowS.gr HB.out HG.out) h (by omega)
        rw [hbo] at e; injection e with e; injection e with e1 e2; subst e1 e2
        exact load_rng (hc k x hx))
      subst hao hbo
      have e1 := neqR x.1 x.2 x.1 x.2
      have g1 := guardR
      clear hc1 hc2 hx
      go_wp2_with fail
      refine wp_region_quiet (C := fun w' => Gr wr w') (by kernel_rfl) (by kernel_rfl) ((Gr.refl wr).drew) ?_
      refine wpQuiet_step (fun K hK => ?_)
      go_simp
      refine ⟨_, fun _ _ => rfl, hK _ ?_⟩
      clear hK K
      refine wpQuiet_step (fun K hK => ?_)
      go_simp
      refine ⟨_, fun _ _ => rfl, hK _ ?_⟩
      clear hK K
      refine wpQuiet_step (fun K hK => ?_)
      go_simp
      refine ⟨_, fun _ _ => rfl, hK _ ?_⟩
      clear hK K
      refine q_yield (v := .agg #[.int .i64 x.1, .int .i64 x.2]) rfl (fun W hC => run_ld rfl rfl (HL1.out W hC)) ?_
      refine wpQuiet_step (fun K hK => ?_)
      go_simp
      refine ⟨_, fun _ _ => rfl, hK _ ?_⟩
      clear hK K
      refine wpQuiet_step (fun K hK => ?_)
      go_simp
      refine ⟨_, fun _ _ => rfl, hK _ ?_⟩
      clear hK K
      refine wpQuiet_step (fun K hK => ?_)
      go_simp
      refine ⟨_, fun _ _ => rfl, hK _ ?_⟩
      clear hK K
      refine q_yield (v := .agg #[.int .i64 x.1, .int .i64 x.2]) rfl (fun W hC => run_ld rfl rfl (HL2.out W hC)) ?_
      refine wpQuiet_step (fun K hK => ?_)
      go_simp
      refine ⟨_, fun _ _ => rfl, hK _ ?_⟩
      clear hK K
      refine wpQuiet_nil ?_
      intro w9 hw9
      have HW := mkH (HG.out.trans hw9)
      clear hw9
      go_wp2
      go_roundw
      case rel => exact ⟨k + 1, by omega, by go_num, HW⟩
      case measure => simp [intOf]; omega
    · go_wp2
      go_ret
      exact ⟨rfl, HG.out⟩

set_option maxHeartbeats 8000000 in
theorem rsameReply_self (w : World) (r : Rp) (ga : Option Addr) (gc : Nat) (da : Option Addr) (dc : Nat) (ra : Option Addr) (rc : Nat) (ga2 : Option Addr) (gc2 : Nat) (da2 : Option Addr) (dc2 : Nat) (ra2 : Option Addr) (rc2 : Nat) (h1 : RpM w r ga da ra) (h2 : RpM w r ga2 da2 ra2) (hc : Cnt r) :
    Calls Tryz.prog 15 #[.agg (Pv r ga gc da dc ra rc), .agg (Pv r ga2 gc2 da2 dc2 ra2 rc2)] w fun e w' => e = .returned (.bool true) ∧ Gr w w' := by
  have HG0 := mkH (((Gr.refl w).alloc (.cells (Pv r ga gc da dc ra rc) 34)).alloc (.cells (Pv r ga2 gc2 da2 dc2 ra2 rc2) 34))
  have hB := (Bx.new w (Pv r ga gc da dc ra rc) 34).alloc (.cells (Pv r ga2 gc2 da2 dc2 ra2 rc2) 34)
  have hC : Bx ((w.alloc (.cells (Pv r ga gc da dc ra rc) 34)).alloc (.cells (Pv r ga2 gc2 da2 dc2 ra2 rc2) 34)) (w.heap.size + 1) (Pv r ga2 gc2 da2 dc2 ra2 rc2) 34 := by have := Bx.new (w.alloc (.cells (Pv r ga gc da dc ra rc) 34)) (Pv r ga2 gc2 da2 dc2 ra2 rc2) 34; simpa using this
  obtain ⟨k0, k1, k2, k3, k4, k5⟩ := Pv_at r ga gc da dc ra rc
  obtain ⟨m0, m1, m2, m3, m4, m5⟩ := Pv_at r ga2 gc2 da2 dc2 ra2 rc2
  generalize Pv r ga gc da dc ra rc = C at *
  generalize Pv r ga2 gc2 da2 dc2 ra2 rc2 = D at *
  have HM1 := mkH (h1.gr HG0.out)
  have HM2 := mkH (h2.gr HG0.out)
  have HT := mkH (fun W (q1 : RowT W da r.data) (q2 : RowT W da2 r.data) => sameTexts_any W da da2 dc dc2 r.data r.data q1 q2 hc.2.1 hc.2.1)
  have HRs := mkH (fun W q1 q2 => rsameR_self W ra ra2 rc rc2 r.about q1 q2 hc.2.2)
  have hc1 := hc.1
  clear h1 h2 hc
  obtain ⟨W0, hW0⟩ : ∃ W0, W0 = (w.alloc (.cells C 34)).alloc (.cells D 34) := ⟨_, rfl⟩
  have HBC := mkH (hW0 ▸ hB)
  have HBD := mkH (hW0 ▸ hC)
  have hq1 : ∀ k, W0.cell? ⟨w.heap.size, k, none⟩ = C[k]? := HBC.out.cell
  have hq2 : ∀ k, W0.cell? ⟨w.heap.size + 1, k, none⟩ = D[k]? := HBD.out.cell
  rw [← hW0] at HM1 HM2 HG0
  have HW0 := mkH hW0
  clear hB hC hW0
  go_enter Tryz.func15, Tryz.ntmps15
  go_wp2_with fail
  rw [← HW0.out]
  clear HW0
  refine (HT.out W0 HM1.out.data HM2.out.data).mono ?_
  rintro e W1 ⟨rfl, hg1⟩
  rw [decide_true]
  have HBC1 := mkH (HBC.out.gr hg1)
  have HBD1 := mkH (HBD.out.gr hg1)
  have hq3 : ∀ k, W1.cell? ⟨w.heap.size, k, none⟩ = C[k]? := HBC1.out.cell
  have hq4 : ∀ k, W1.cell? ⟨w.heap.size + 1, k, none⟩ = D[k]? := HBD1.out.cell
  have HM3 := mkH (HM1.out.gr hg1)
  have HM4 := mkH (HM2.out.gr hg1)
  have HG1 := mkH (HG0.out.trans hg1)
  clear hg1 HT HBC HBD HM1 HM2 HG0 hq1 hq2
  go_wp2_with fail
  refine (HRs.out W1 HM3.out.about HM4.out.about).mono ?_
  rintro e W2 ⟨rfl, hg2⟩
  have HBC2 := mkH (HBC1.out.gr hg2)
  have HBD2 := mkH (HBD1.out.gr hg2)
  have HM5 := mkH (HM3.out.gr hg2)
  have HM6 := mkH (HM4.out.gr hg2)
  have HG2 := mkH (HG1.out.trans hg2)
  clear hg2 HRs HBC1 HBD1 HM3 HM4 HG1 hq3 hq4
  go_wp2
  go_loopw [5] (fun i wr => ∃ k : Nat, k ≤ r.got.length ∧ i = .int .i64 k ∧ Hid (Gr W2 wr)) (fun i _ => r.got.length - (intOf i).toNat)
  case atStart => exact ⟨0, Nat.zero_le _, rfl, mkH (Gr.refl W2)⟩
  case round =>
    obtain ⟨k, hk, rfl, HG⟩ := hrel
    have hq5 : ∀ k, wr.cell? ⟨w.heap.size, k, none⟩ = C[k]? := (HBC2.out.gr HG.out).cell
    have hq6 : ∀ k, wr.cell? ⟨w.heap.size + 1, k, none⟩ = D[k]? := (HBD2.out.gr HG.out).cell
    by_cases hlt : k < r.got.length
    · obtain ⟨b, off, hao, hc1⟩ := RowS.gr HM5.out.got HG.out (by omega)
      obtain ⟨b2, off2, hbo, hc2⟩ := RowS.gr HM6.out.got HG.out (by omega)
      obtain ⟨x, hx⟩ := some_of hlt
      have HL1 : Hid (∀ W, Gr wr W → (loadVar 43 ⟨b, off + k * 6, none⟩).run Tryz.prog W = .ok (.agg (Gv x)) W) := mkH (fun W h => by
        obtain ⟨b', off', e, hc⟩ := RowS.gr (RowS.gr HM5.out.got HG.out) h (by omega)
        rw [hao] at e; injection e with e; injection e with e1 e2; subst e1 e2
        exact load_got (hc k x hx))
      have HL2 : Hid (∀ W, Gr wr W → (loadVar 43 ⟨b2, off2 + k * 6, none⟩).run Tryz.prog W = .ok (.agg (Gv x)) W) := mkH (fun W h => by
        obtain ⟨b', off', e, hc⟩ := RowS.gr (RowS.gr HM6.out.got HG.out) h (by omega)
        rw [hbo] at e; injection e with e; injection e with e1 e2; subst e1 e2
        exact load_got (hc k x hx))
      have HNE := neqG x
      have hgd := guardG
      subst hao hbo
      have hcl : ∀ W, Gr wr W → W.cell? ⟨w.heap.size, 3, none⟩ = some (.slice (some ⟨b, off, none⟩) r.got.length gc) := fun W h => (((HBC2.out.gr HG.out).gr h).cell 3).trans k3
      have hdl : ∀ W, Gr wr W → W.cell? ⟨w.heap.size + 1, 3, none⟩ = some (.slice (some ⟨b2, off2, none⟩) r.got.length gc2) := fun W h => (((HBD2.out.gr HG.out).gr h).cell 3).trans m3
      have HF1 : Hid (∀ W, Gr wr W → (loadVar 31 ⟨w.heap.size, 3, none⟩).run Tryz.prog W = .ok (.slice (some ⟨b, off, none⟩) r.got.length gc) W) := mkH (fun W h => by have hc := hcl W h; clear HNE hgd hq5 hq6; go_simp)
      have HF2 : Hid (∀ W, Gr wr W → (loadVar 31 ⟨w.heap.size + 1, 3, none⟩).run Tryz.prog W = .ok (.slice (some ⟨b2, off2, none⟩) r.got.length gc2) W) := mkH (fun W h => by have hc := hdl W h; clear HNE hgd hq5 hq6; go_simp)
      clear hc1 hc2 hx hcl hdl
      go_wp2_with fail
      refine wp_region_quiet (C := fun w' => Gr wr w') (by kernel_rfl) (by kernel_rfl) ((Gr.refl wr).drew) ?_
      refine wpQuiet_step (fun K hK => ?_)
      go_simp
      refine ⟨_, fun _ _ => rfl, hK _ ?_⟩
      clear hK K
      refine q_yield (v := .slice (some ⟨b, off, none⟩) r.got.length gc) rfl (fun W hC => run_ld rfl rfl (HF1.out W hC)) ?_
      refine wpQuiet_step (fun K hK => ?_)
      go_simp
      refine ⟨_, fun _ _ => rfl, hK _ ?_⟩
      clear hK K
      refine wpQuiet_step (fun K hK => ?_)
      go_simp
      refine ⟨_, fun _ _ => rfl, hK _ ?_⟩
      clear hK K
      refine q_yield (v := .agg (Gv x)) rfl (fun W hC => run_ld rfl rfl (HL1.out W hC)) ?_
      refine wpQuiet_step (fun K hK => ?_)
      go_simp
      refine ⟨_, fun _ _ => rfl, hK _ ?_⟩
      clear hK K
      refine q_yield (v := .slice (some ⟨b2, off2, none⟩) r.got.length gc2) rfl (fun W hC => run_ld rfl rfl (HF2.out W hC)) ?_
      refine wpQuiet_step (fun K hK => ?_)
      go_simp
      refine ⟨_, fun _ _ => rfl, hK _ ?_⟩
      clear hK K
      refine wpQuiet_step (fun K hK => ?_)
      go_simp
      refine ⟨_, fun _ _ => rfl, hK _ ?_⟩
      clear hK K
      refine q_yield (v := .agg (Gv x)) rfl (fun W hC => run_ld rfl rfl (HL2.out W hC)) ?_
      refine wpQuiet_step (fun K hK => ?_)
      go_simp
      refine ⟨_, fun _ _ => rfl, hK _ ?_⟩
      clear hK K
      refine wpQuiet_nil ?_
      intro w9 hw9
      have HW := mkH (HG.out.trans hw9)
      clear hw9
      go_wp2
      go_roundw
      case rel => exact ⟨k + 1, by omega, by go_num, HW⟩
      case measure => simp [intOf]; omega
    · go_wp2
      go_ret
      exact ⟨rfl, HG2.out.trans HG.out⟩
end Go.Proofs.YtenkgpfeifflnaaGreat.Wsr
