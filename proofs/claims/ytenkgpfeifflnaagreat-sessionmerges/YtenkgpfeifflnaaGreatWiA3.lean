/-
  checkReply of wire.
-/
import Derived.Test.YtenkgpfeifflnaaGreatWiA2
import Derived.Test.YtenkgpfeifflnaaGreatWiF
namespace Go.Proofs.YtenkgpfeifflnaaGreat.Wa
open Go.RowKit Kt Pl Wi Wk Wc Wd We Wx Wy Wf
open At (RowT)
set_option linter.unusedVariables false
set_option linter.unusedSimpArgs false
set_option maxRecDepth 20000

theorem rightR_all (r : Rp) : rightR r = ([r.err].all (upToB 255) && ([r.seq, r.n].all (upToB 1099511627776) && (r.got.all rightG && r.about.all fun x => mayB x.1 x.2))) := by simp [rightR, numB]

theorem shortR_all (r : Rp) : shortR r = (decide (r.got.length ≤ 1024) && (r.got.all shortG && (dataB r.data && decide (r.about.length ≤ 1024)))) := by simp [shortR, Bool.and_assoc]

theorem Pv_at (r : Rp) (ga : Option Addr) (gc : Nat) (da : Option Addr) (dc : Nat) (ra : Option Addr) (rc : Nat) : (Pv r ga gc da dc ra rc)[0]? = some (.int .i64 r.err) ∧ (Pv r ga gc da dc ra rc)[1]? = some (.int .i64 r.seq) ∧ (Pv r ga gc da dc ra rc)[2]? = some (.int .i64 r.n) ∧
    (Pv r ga gc da dc ra rc)[3]? = some (.slice ga r.got.length gc) ∧ (Pv r ga gc da dc ra rc)[4]? = some (.slice da r.data.length dc) ∧ (Pv r ga gc da dc ra rc)[5]? = some (.slice ra r.about.length rc) := ⟨rfl, rfl, rfl, rfl, rfl, rfl⟩

set_option maxHeartbeats 2000000 in
theorem rightReply_any (w : World) (r : Rp) (ga : Option Addr) (gc : Nat) (da : Option Addr) (dc : Nat) (ra : Option Addr) (rc : Nat) (hm : RpM w r ga da ra) (hc : Cnt r) :
    Calls Tryz.prog 100 #[.agg (Pv r ga gc da dc ra rc)] w fun e w' => e = .returned (.bool (rightR r)) ∧ Gr w w' := by
  obtain ⟨k0, k1, k2, k3, k4, k5⟩ := Pv_at r ga gc da dc ra rc
  have hB := Bx.new w (Pv r ga gc da dc ra rc) 34
  have HG0 := mkH ((Gr.refl w).alloc (.cells (Pv r ga gc da dc ra rc) 34))
  have HM := mkH hm
  have HE := mkH (rightR_all r)
  have H3 := mkH (fun W h => eachGr_any rightG rightGot_any W ga gc r.got h hc.1)
  have H4 := mkH (fun W h => eachR_any (fun x => mayB x.1 x.2) mayG_any W ra rc r.about h hc.2.2)
  have HB := mkH hB
  clear hB hm k4
  generalize Pv r ga gc da dc ra rc = C at *
  generalize hb1 : [r.err].all (upToB 255) = b1 at HE
  generalize hb2 : [r.seq, r.n].all (upToB 1099511627776) = b2 at HE
  generalize hb3 : r.got.all rightG = b3 at *
  generalize hb4 : (r.about.all fun x => mayB x.1 x.2) = b4 at *
  have HB1 := mkH hb1
  have HB2 := mkH hb2
  clear hb1 hb2 hb3 hb4 hc
  go_enter Tryz.func100, Tryz.ntmps100
  go_wp2_with fail
  refine (upTo_at _ _ 1 1 [r.err] rfl ?hr (by omega) 255).mono ?_
  case hr => exact RowI.at _ [r.err] 3 _ (by simp)
  rintro e w1 ⟨rfl, rfl⟩
  rw [HB1.out]
  have HG1 := mkH ((HG0.out.alloc (.cells #[.int .i64 r.err] 3)).alloc (.cells #[.int .i64 255] 3))
  cases b1
  · go_wp2
    go_ret
    exact ⟨ret_bool HE.out.symm, HG1.out⟩
  go_wp2_with fail
  refine (upTo_at _ _ 2 2 [r.seq, r.n] rfl ?hr (by omega) 1099511627776).mono ?_
  case hr => exact RowI.at _ [r.seq, r.n] 3 _ (by simp)
  rintro e w1 ⟨rfl, rfl⟩
  rw [HB2.out]
  have HG2 := mkH ((HG1.out.alloc (.cells #[.int .i64 r.seq, .int .i64 r.n] 3)).alloc (.cells #[.int .i64 1099511627776] 3))
  cases b2
  · go_wp2
    go_ret
    exact ⟨ret_bool HE.out.symm, HG2.out⟩
  go_wp2_with fail
  refine (H3.out _ (HM.out.gr HG2.out).got).mono ?_
  rintro e w3 ⟨rfl, hg3⟩
  have hg3' := (((((Gr.refl (w.alloc (.cells C 34))).alloc _).alloc _).alloc _).alloc _).trans hg3
  have hB3 := HB.out.gr hg3'
  have hc5 : w3.cell? ⟨w.heap.size, 5, none⟩ = some (.slice ra r.about.length rc) := (hB3.cell 5).trans k5
  have HG3 := mkH (HG2.out.trans hg3)
  clear hg3 hg3' hB3 HG0 HG1 HG2
  cases b3
  · go_wp2
    go_ret
    exact ⟨ret_bool HE.out.symm, HG3.out⟩
  go_wp2_with fail
  refine (H4.out _ (HM.out.gr HG3.out).about).mono ?_
  rintro e w4 ⟨rfl, hg4⟩
  have HG4 := mkH (HG3.out.trans hg4)
  clear hg4
  go_wp2
  go_ret
  exact ⟨ret_bool (by rw [HE.out]; simp), HG4.out⟩

set_option maxHeartbeats 2000000 in
theorem shortReply_any (w : World) (r : Rp) (ga : Option Addr) (gc : Nat) (da : Option Addr) (dc : Nat) (ra : Option Addr) (rc : Nat) (hm : RpM w r ga da ra) (hc : Cnt r) :
    Calls Tryz.prog 101 #[.agg (Pv r ga gc da dc ra rc)] w fun e w' => e = .returned (.bool (shortR r)) ∧ Gr w w' := by
  obtain ⟨k0, k1, k2, k3, k4, k5⟩ := Pv_at r ga gc da dc ra rc
  have hB := Bx.new w (Pv r ga gc da dc ra rc) 34
  have HG0 := mkH ((Gr.refl w).alloc (.cells (Pv r ga gc da dc ra rc) 34))
  have HM := mkH hm
  have HE := mkH (shortR_all r)
  have H3 := mkH (fun W h => eachGs_any shortG shortGot_any W ga gc r.got h hc.1)
  have H4 := mkH (fun W h => shortData_any W da dc r.data h hc.2.1)
  have HB := mkH hB
  have hc1 := hc.1
  have hc5 := hc.2.2
  clear hB hm k0 k1 k2
  generalize Pv r ga gc da dc ra rc = C at *
  generalize hb3 : r.got.all shortG = b3 at *
  generalize hb4 : dataB r.data = b4 at *
  clear hb3 hb4 hc
  by_cases hl : r.got.length ≤ 1024
  rotate_left
  · have HF : Hid (shortR r = false) := mkH (by rw [HE.out]; simp [hl])
    have c1 : ¬ (r.got.length : Int) ≤ 1024 := by omega
    clear hl HE
    go_enter Tryz.func101, Tryz.ntmps101
    go_wp2
    go_ret
    exact ⟨ret_bool HF.out.symm, HG0.out⟩
  have HF : Hid (shortR r = (b3 && (b4 && decide (r.about.length ≤ 1024)))) := mkH (by rw [HE.out]; simp [hl])
  have c1 : (r.got.length : Int) ≤ 1024 := by omega
  clear hl HE
  go_enter Tryz.func101, Tryz.ntmps101
  go_wp2_with fail
  refine (H3.out _ (HM.out.gr HG0.out).got).mono ?_
  rintro e w3 ⟨rfl, hg3⟩
  have HB3 := mkH (HB.out.gr hg3)
  have k43 : w3.cell? ⟨w.heap.size, 4, none⟩ = some (.slice da r.data.length dc) := (HB3.out.cell 4).trans k4
  have HG3 := mkH (HG0.out.trans hg3)
  clear hg3 HG0 HB
  cases b3
  · go_wp2
    go_ret
    exact ⟨ret_bool HF.out.symm, HG3.out⟩
  go_wp2_with fail
  refine (H4.out _ (HM.out.gr HG3.out).data).mono ?_
  rintro e w4 ⟨rfl, hg4⟩
  have k54 : w4.cell? ⟨w.heap.size, 5, none⟩ = some (.slice ra r.about.length rc) := ((HB3.out.gr hg4).cell 5).trans k5
  have HG4 := mkH (HG3.out.trans hg4)
  clear hg4 k43 HB3
  cases b4
  · go_wp2
    go_ret
    exact ⟨ret_bool HF.out.symm, HG4.out⟩
  go_wp2
  go_ret
  exact ⟨ret_bool (by rw [HF.out]; simp; omega), HG4.out⟩

set_option maxHeartbeats 4000000 in
theorem checkReply_any (w : World) (r : Rp) (ga : Option Addr) (gc : Nat) (da : Option Addr) (dc : Nat) (ra : Option Addr) (rc : Nat) (hm : RpM w r ga da ra) (hc : Cnt r) :
    Calls Tryz.prog 79 #[.agg (Pv r ga gc da dc ra rc)] w fun e w' => e = .returned (.int .i64 (checkR r : Int)) ∧ Gr w w' := by
  have HG0 := mkH ((Gr.refl w).alloc (.cells (Pv r ga gc da dc ra rc) 34))
  have HR := mkH (RpM.gr hm HG0.out)
  have HB := mkH (Bx.new w (Pv r ga gc da dc ra rc) 34)
  clear hm
  have H1 := mkH (fun W h => rightReply_any W r ga gc da dc ra rc h hc)
  have H2 := mkH (fun W h => shortReply_any W r ga gc da dc ra rc h hc)
  have H3 := fun W => judge_any W (rightR r) (shortR r)
  have HE : Hid (checkR r = judge (rightR r) (shortR r)) := mkH rfl
  have hld : ∀ W b, Bx W b (Pv r ga gc da dc ra rc) 34 → _ := fun W b h => load_pv h
  have HL := mkH hld
  clear hld
  generalize rightR r = b1 at H1 H3 HE
  generalize shortR r = b2 at H2 H3 HE
  generalize judge b1 b2 = j at H3 HE
  generalize Pv r ga gc da dc ra rc = C at *
  go_enter Tryz.func79, Tryz.ntmps79
  go_wp2_with fail
  generalize w.alloc (.cells C 34) = W0 at *
  generalize w.heap.size = B at *
  refine wp_region_quiet (C := fun w' => Gr W0 w') (by kernel_rfl) (by kernel_rfl) ((Gr.refl W0).drew) ?_
  refine q_yield (v := .agg C) rfl (fun w hC => run_ld rfl rfl (HL.out _ _ (HB.out.gr hC))) ?_
  refine wpQuiet_step (fun K hK => ?_)
  go_simp
  refine ⟨_, fun w hw => ((H1.out w (RpM.gr HR.out hw)).mono fun _ _ ⟨he, hg⟩ => ⟨he, hw.trans hg⟩), hK _ ?_⟩
  clear hK K
  refine q_yield (v := .agg C) rfl (fun w hC => run_ld rfl rfl (HL.out _ _ (HB.out.gr hC))) ?_
  refine wpQuiet_step (fun K hK => ?_)
  go_simp
  refine ⟨_, fun w hw => ((H2.out w (RpM.gr HR.out hw)).mono fun _ _ ⟨he, hg⟩ => ⟨he, hw.trans hg⟩), hK _ ?_⟩
  clear hK K
  refine wpQuiet_step (fun K hK => ?_)
  go_simp
  refine ⟨_, fun w hw => ((H3 w).mono fun _ _ ⟨he, hg⟩ => ⟨he, hg ▸ hw⟩), hK _ ?_⟩
  clear hK K
  refine wpQuiet_step (fun K hK => ?_)
  go_simp
  refine ⟨_, fun _ _ => rfl, hK _ ?_⟩
  clear hK K
  refine wpQuiet_nil ?_
  intro w2 hw2
  have HW := mkH (HG0.out.trans hw2)
  clear hw2
  go_wp2
  go_ret
  exact ⟨by rw [HE.out]; rfl, HW.out⟩
end Go.Proofs.YtenkgpfeifflnaaGreat.Wa
