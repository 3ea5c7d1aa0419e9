/-
  The walk of WireCmds.
-/
import Derived.Test.YtjboldahmndkeaaWiO
import Derived.Test.YtjboldahmndkeaaWiRC
namespace Go.Proofs.Ytjboldahmndkeaa.Wc0
open Go.RowKit Kt Pl Wi Wk Ww Wx We Wf Wy Wb Wfw Wo Wz Wrc Wg
open At (RowT okT)
set_option linter.unusedVariables false
set_option linter.unusedSimpArgs false
set_option maxRecDepth 20000

theorem run_cv {P : Program} {o : Oper} {a : Act} {src dst : TypeId} {x : Operand} {u v : Value} {w : World} (ho : o.op = .convert src dst x) (hx : a.eval x = u) (h : (convert src dst u).run P w = .ok v w) : (execOp a.eval o).run P w = .ok (.value v) w := by
  unfold execOp
  simp only [ho, hx, Sem.run_bind, Sem.run_pure, Result.andThen_ok, h, Sem.run_map]
  try rfl

/-- What few leaves in the law's own variable. -/
theorem few_len (c : Cm) : (fewC c).data.length ≤ 1000000 := by have := dataC_len c.data; unfold fewC; simp only; omega
theorem str_conv {w : World} {v : Value} {bs : Bs} (h : RV bs v w) : ∀ W, Bl w W → (convert 30 9 v).run Try.prog W = .ok (.string (S bs)) W := by
  obtain ⟨ao, cap, rfl, hr⟩ := h
  intro W hb
  exact run_string (P := Try.prog) Try.underlying30 Try.underlying5 Try.underlying9 (hr.below hb) cap
theorem Wt.rv {w : World} {base : Nat} {v : Value} {bs : Bs} (h : Wt w base v bs) : RV bs v w := by
  obtain ⟨ao, cap, rfl, hr, -, -⟩ := Wt.row h
  exact ⟨ao, cap, rfl, hr⟩
theorem bl_down {w w' : World} {base : Nat} (h : Below base w w') (hb : w.heap.size ≤ base) : Bl w w' := ⟨h.os, h.tape, h.output, h.size, fun k hk => h.block k (by omega)⟩

set_option maxHeartbeats 16000000 in
theorem wireCmds (w : World) (c : Cm) (ao : Option Addr) (cap : Nat) (hr : RowT w ao c.data) (hfit : Fit63 c) :
    Calls Try.prog 3 #[.agg (Cv c (.slice ao c.data.length cap))] w fun e w' => e = .returned (.bool true) ∧ Below w.heap.size w w' := by
  have HG0 := mkH ((Gr.refl w).alloc (.cells (Cv c (.slice ao c.data.length cap)) 28))
  have HB0 := mkH (Bx.new w (Cv c (.slice ao c.data.length cap)) 28)
  have HL0 := mkH (load_cm HB0.out)
  have H1 := few_any (w.alloc (.cells (Cv c (.slice ao c.data.length cap)) 28)) c ao cap (RowT.gr hr HG0.out) hfit
  have hsz0 : (w.alloc (.cells (Cv c (.slice ao c.data.length cap)) 28)).heap.size = w.heap.size + 1 := by simp
  have HSZ := mkH hsz0
  have HCS : Hid ((Cv c (.slice ao c.data.length cap)).size = 19) := mkH rfl
  clear hr hfit hsz0
  generalize Cv c (.slice ao c.data.length cap) = C at *
  have hlen := few_len c
  generalize fewC c = c1 at *
  clear c
  go_enter Try.func3, Try.ntmps3
  go_wp2_with (refine wpList_ld (ty := 28) (x := .tmp 1) rfl rfl rfl HL0.out ?_)
  refine H1.mono ?_
  rintro e w1 ⟨ao1, cap1, rfl, hr1, hl1, hb1⟩
  have hB1 := HB0.out.below hb1 HB0.out.lt
  obtain ⟨C1, hC1⟩ : ∃ C1, C1 = Cv c1 (.slice ao1 c1.data.length cap1) := ⟨_, rfl⟩
  rw [← hC1]
  have hone : C1.all (fun x => x.oneCell') = true := hC1 ▸ Cv_one c1 ao1 c1.data.length cap1
  have hs19 : C1.size = 19 := by rw [hC1]; rfl
  have HINFO : Hid ((Try.prog.info? 28).map (·.size) = some C1.size) := mkH (by rw [hs19]; exact infoC)
  have HSIZE : Hid (C.size = C1.size) := mkH (HCS.out.trans hs19.symm)
  have HONE := mkH hone
  have HB1 := mkH hB1
  have hb2 := Bx.row hB1 (cs := C1) HSIZE.out
  have hr2 : RowT (w1.setRow w.heap.size C1) ao1 c1.data := Wk.RowT.setRow hr1 (fun a ha => by have := hl1 a ha; have := HSZ.out; omega) C1
  have hg2 : Bl w (w1.setRow w.heap.size C1) := below_setRow (HG0.out.below.trans (hb1.mono (by rw [HSZ.out]; omega))) (Nat.le_refl _) C1
  have HB2 := mkH hb2
  have HR2 := mkH hr2
  have HG2 := mkH hg2
  clear H1 hr1 hl1 hb1 hB1 hone hs19 hb2 hr2 hg2 HG0 HB0 HL0 HSZ HCS
  have hld : ∀ W b, Bx W b C1 28 → (loadVar 28 ⟨b, 0, none⟩).run Try.prog W = .ok (.agg C1) W := fun W b h => by rw [hC1] at h ⊢; exact load_cm h
  have HL := mkH (fun W => hld W w.heap.size)
  have HCE := mkH hC1
  clear hC1 hld
  by_cases hck : checkC c1 = 0
  · have HCK := mkH hck
    clear hck
    go_wp2_with (first | (refine wpList_st rfl (ty := 28) (x := .tmp 1) (y := .tmp 8) rfl rfl rfl HB1.out HINFO.out HSIZE.out HONE.out ?_) | (refine wpList_ld (ty := 28) (x := .tmp 1) rfl rfl rfl (HL.out _ HB2.out) ?_))
    generalize hW2 : w1.setRow w.heap.size C1 = W2 at *
    clear hW2 HB1
    have H2 := cmd_ok W2 c1 ao1 cap1 HR2.out hlen HCK.out
    rw [← HCE.out] at H2
    refine H2.mono ?_
    rintro e w3 ⟨v3, rfl, hw3, hb3⟩
    have HV3 := mkH (Wt.rv hw3)
    have HB3 := mkH (HB2.out.below hb3 HB2.out.lt)
    have HR3 := mkH (HR2.out.below hb3)
    have HG3 := mkH (HG2.out.trans hb3)
    clear H2 hw3 hb3 HB2 HR2 HG2
    go_wp2_with (refine wpList_ld (ty := 28) (x := .tmp 1) rfl rfl rfl (HL.out _ HB3.out) ?_)
    have H3 := rcmd_ok w3 c1 ao1 cap1 HR3.out hlen HCK.out
    rw [← HCE.out] at H3
    refine H3.mono ?_
    rintro e W3 ⟨v4, rfl, hv4, hb4⟩
    have HV1 := mkH (str_conv (HV3.out.bl hb4))
    have HV2 := mkH (str_conv hv4)
    have HB1 : Hid (∀ W, Bl W3 W → Bx W w.heap.size C1 28) := mkH (fun W h => Bx.bl (Bx.bl HB3.out hb4) h)
    have HC1 : Hid (∀ W, Bl W3 W → Calls Try.prog 11 #[.agg C1] W fun e w' => e = .returned (.int .i64 0) ∧ Bl W w') := mkH (fun W h => by
      have := check_any W c1 ao1 cap1 ((HR3.out.below hb4).below h) hlen
      rw [← HCE.out, HCK.out] at this
      exact this.mono fun _ _ ⟨he, hg⟩ => ⟨he, hg.below⟩)
    have HC2 : Hid (∀ W, Bl W3 W → Calls Try.prog 12 #[.agg C1] W fun e w' => e = .returned (.int .i64 0) ∧ Bl W w') := mkH (fun W h => by
      have := rcheck_any W c1 ao1 cap1 ((HR3.out.below hb4).below h) hlen
      rw [← HCE.out, HCK.out] at this
      exact this.mono fun _ _ ⟨he, hg⟩ => ⟨he, hg.below⟩)
    have HWk : Hid (∀ W, Bl W3 W → Calls Try.prog 13 #[] W fun e w' => e = .returned (.bool true) ∧ Bl W w') := mkH (fun W h => works_any W)
    have HGG := mkH (HG3.out.trans hb4)
    clear H3 hv4 hb4 HV3 HB3 HR3 HG3
    go_wp2_with fail
    refine wp_region_quiet (C := fun w' => Bl W3 w') (by kernel_rfl) (by kernel_rfl) ((Gr.refl W3).drew).below ?_
    refine q_yield (v := .agg C1) rfl (fun w hC => run_ld rfl rfl (HL.out _ (HB1.out _ hC))) ?_
    refine wpQuiet_step (fun K hK => ?_)
    go_simp
    refine ⟨_, fun w hw => ((HC1.out w hw).mono fun _ _ ⟨he, hg⟩ => ⟨he, Bl.trans hw hg⟩), hK _ ?_⟩
    clear hK K
    refine q_yield (v := .agg C1) rfl (fun w hC => run_ld rfl rfl (HL.out _ (HB1.out _ hC))) ?_
    refine wpQuiet_step (fun K hK => ?_)
    go_simp
    refine ⟨_, fun w hw => ((HC2.out w hw).mono fun _ _ ⟨he, hg⟩ => ⟨he, Bl.trans hw hg⟩), hK _ ?_⟩
    clear hK K
    refine wpQuiet_step (fun K hK => ?_)
    go_simp
    refine ⟨_, fun _ _ => rfl, hK _ ?_⟩
    clear hK K
    refine wpQuiet_step (fun K hK => ?_)
    go_simp
    refine ⟨_, fun _ _ => rfl, hK _ ?_⟩
    clear hK K
    refine wpQuiet_step (fun K hK => ?_)
    go_simp
    refine ⟨_, fun _ _ => rfl, hK _ ?_⟩
    clear hK K
    refine q_yield rfl (fun w hC => run_cv rfl rfl (HV1.out _ hC)) ?_
    refine wpQuiet_step (fun K hK => ?_)
    go_simp
    refine ⟨_, fun _ _ => rfl, hK _ ?_⟩
    clear hK K
    refine q_yield rfl (fun w hC => run_cv rfl rfl (HV2.out _ hC)) ?_
    refine wpQuiet_step (fun K hK => ?_)
    go_simp
    refine ⟨_, fun _ _ => rfl, hK _ ?_⟩
    clear hK K
    refine wpQuiet_step (fun K hK => ?_)
    go_simp
    refine ⟨_, fun _ _ => rfl, hK _ ?_⟩
    clear hK K
    refine wpQuiet_step (fun K hK => ?_)
    go_simp
    refine ⟨_, fun _ _ => rfl, hK _ ?_⟩
    clear hK K
    refine wpQuiet_step (fun K hK => ?_)
    go_simp
    refine ⟨_, fun _ _ => rfl, hK _ ?_⟩
    clear hK K
    refine wpQuiet_step (fun K hK => ?_)
    go_simp
    refine ⟨_, fun _ _ => rfl, hK _ ?_⟩
    clear hK K
    refine wpQuiet_step (fun K hK => ?_)
    go_simp
    refine ⟨_, fun _ _ => rfl, hK _ ?_⟩
    clear hK K
    refine wpQuiet_step (fun K hK => ?_)
    go_simp
    refine ⟨_, fun _ _ => rfl, hK _ ?_⟩
    clear hK K
    refine wpQuiet_step (fun K hK => ?_)
    go_simp
    refine ⟨_, fun _ _ => rfl, hK _ ?_⟩
    clear hK K
    refine wpQuiet_step (fun K hK => ?_)
    go_simp
    refine ⟨_, fun w hw => ((HWk.out w hw).mono fun _ _ ⟨he, hg⟩ => ⟨he, Bl.trans hw hg⟩), hK _ ?_⟩
    clear hK K
    refine wpQuiet_step (fun K hK => ?_)
    go_simp
    refine ⟨_, fun _ _ => rfl, hK _ ?_⟩
    clear hK K
    refine wpQuiet_step (fun K hK => ?_)
    go_simp
    refine ⟨_, fun _ _ => rfl, hK _ ?_⟩
    clear hK K
    refine wpQuiet_nil ?_
    intro w9 hw9
    have HW := mkH (HGG.out.trans hw9)
    clear hw9
    go_wp2
    go_ret
    exact ⟨rfl, HW.out⟩
  · have HCK := mkH hck
    have HJ : Hid (((checkC c1 : Nat) : Int) = ((checkC c1 : Nat) : Int)) := mkH rfl
    go_wp2_with (first | (refine wpList_st rfl (ty := 28) (x := .tmp 1) (y := .tmp 8) rfl rfl rfl HB1.out HINFO.out HSIZE.out HONE.out ?_) | (refine wpList_ld (ty := 28) (x := .tmp 1) rfl rfl rfl (HL.out _ HB2.out) ?_))
    generalize hW2 : w1.setRow w.heap.size C1 = W2 at *
    clear hW2 HB1
    have H2 := cmd_bad W2 c1 ao1 cap1 HR2.out hlen HCK.out
    rw [← HCE.out] at H2
    refine H2.mono ?_
    rintro e w3 ⟨rfl, hb3⟩
    have HB3 := mkH (HB2.out.below hb3 HB2.out.lt)
    have HR3 := mkH (HR2.out.below hb3)
    have HG3 := mkH (HG2.out.trans hb3)
    clear H2 hb3 HB2 HR2 HG2
    go_wp2_with (refine wpList_ld (ty := 28) (x := .tmp 1) rfl rfl rfl (HL.out _ HB3.out) ?_)
    have H3 := rcmd_bad w3 c1 ao1 cap1 HR3.out hlen HCK.out
    rw [← HCE.out] at H3
    refine H3.mono ?_
    rintro e W3 ⟨rfl, hb4⟩
    have HV1 := mkH (str_conv (RV.none W3))
    have HV2 := HV1
    have HB1 : Hid (∀ W, Bl W3 W → Bx W w.heap.size C1 28) := mkH (fun W h => Bx.bl (Bx.bl HB3.out hb4) h)
    have HC1 : Hid (∀ W, Bl W3 W → Calls Try.prog 11 #[.agg C1] W fun e w' => e = .returned (.int .i64 (checkC c1 : Int)) ∧ Bl W w') := mkH (fun W h => by
      have := check_any W c1 ao1 cap1 ((HR3.out.below hb4).below h) hlen
      rw [← HCE.out] at this
      exact this.mono fun _ _ ⟨he, hg⟩ => ⟨he, hg.below⟩)
    have HC2 : Hid (∀ W, Bl W3 W → Calls Try.prog 12 #[.agg C1] W fun e w' => e = .returned (.int .i64 (checkC c1 : Int)) ∧ Bl W w') := mkH (fun W h => by
      have := rcheck_any W c1 ao1 cap1 ((HR3.out.below hb4).below h) hlen
      rw [← HCE.out] at this
      exact this.mono fun _ _ ⟨he, hg⟩ => ⟨he, hg.below⟩)
    have HWk : Hid (∀ W, Bl W3 W → Calls Try.prog 13 #[] W fun e w' => e = .returned (.bool true) ∧ Bl W w') := mkH (fun W h => works_any W)
    have HGG := mkH (HG3.out.trans hb4)
    clear H3 hb4 HB3 HR3 HG3 hck HCK HJ
    generalize checkC c1 = j at *
    go_wp2_with fail
    refine wp_region_quiet (C := fun w' => Bl W3 w') (by kernel_rfl) (by kernel_rfl) ((Gr.refl W3).drew).below ?_
    refine q_yield (v := .agg C1) rfl (fun w hC => run_ld rfl rfl (HL.out _ (HB1.out _ hC))) ?_
    refine wpQuiet_step (fun K hK => ?_)
    go_simp
    refine ⟨_, fun w hw => ((HC1.out w hw).mono fun _ _ ⟨he, hg⟩ => ⟨he, Bl.trans hw hg⟩), hK _ ?_⟩
    clear hK K
    refine q_yield (v := .agg C1) rfl (fun w hC => run_ld rfl rfl (HL.out _ (HB1.out _ hC))) ?_
    refine wpQuiet_step (fun K hK => ?_)
    go_simp
    refine ⟨_, fun w hw => ((HC2.out w hw).mono fun _ _ ⟨he, hg⟩ => ⟨he, Bl.trans hw hg⟩), hK _ ?_⟩
    clear hK K
    refine wpQuiet_step (fun K hK => ?_)
    go_simp
    refine ⟨_, fun _ _ => rfl, hK _ ?_⟩
    clear hK K
    refine wpQuiet_step (fun K hK => ?_)
    go_simp
    refine ⟨_, fun _ _ => rfl, hK _ ?_⟩
    clear hK K
    refine wpQuiet_step (fun K hK => ?_)
    go_simp
    refine ⟨_, fun _ _ => rfl, hK _ ?_⟩
    clear hK K
    refine q_yield rfl (fun w hC => run_cv rfl rfl (HV1.out _ hC)) ?_
    refine wpQuiet_step (fun K hK => ?_)
    go_simp
    refine ⟨_, fun _ _ => rfl, hK _ ?_⟩
    clear hK K
    refine q_yield rfl (fun w hC => run_cv rfl rfl (HV2.out _ hC)) ?_
    refine wpQuiet_step (fun K hK => ?_)
    go_simp
    refine ⟨_, fun _ _ => rfl, hK _ ?_⟩
    clear hK K
    refine wpQuiet_step (fun K hK => ?_)
    go_simp
    refine ⟨_, fun _ _ => rfl, hK _ ?_⟩
    clear hK K
    refine wpQuiet_step (fun K hK => ?_)
    go_simp
    refine ⟨_, fun _ _ => rfl, hK _ ?_⟩
    clear hK K
    refine wpQuiet_step (fun K hK => ?_)
    go_simp
    refine ⟨_, fun _ _ => rfl, hK _ ?_⟩
    clear hK K
    refine wpQuiet_step (fun K hK => ?_)
    go_simp
    refine ⟨_, fun _ _ => rfl, hK _ ?_⟩
    clear hK K
    refine wpQuiet_step (fun K hK => ?_)
    go_simp
    refine ⟨_, fun _ _ => rfl, hK _ ?_⟩
    clear hK K
    refine wpQuiet_step (fun K hK => ?_)
    go_simp
    refine ⟨_, fun _ _ => rfl, hK _ ?_⟩
    clear hK K
    refine wpQuiet_step (fun K hK => ?_)
    go_simp
    refine ⟨_, fun _ _ => rfl, hK _ ?_⟩
    clear hK K
    refine wpQuiet_step (fun K hK => ?_)
    go_simp
    refine ⟨_, fun w hw => ((HWk.out w hw).mono fun _ _ ⟨he, hg⟩ => ⟨he, Bl.trans hw hg⟩), hK _ ?_⟩
    clear hK K
    refine wpQuiet_step (fun K hK => ?_)
    go_simp
    refine ⟨_, fun _ _ => rfl, hK _ ?_⟩
    clear hK K
    refine wpQuiet_step (fun K hK => ?_)
    go_simp
    refine ⟨_, fun _ _ => rfl, hK _ ?_⟩
    clear hK K
    refine wpQuiet_nil ?_
    intro w9 hw9
    have HW := mkH (HGG.out.trans hw9)
    clear hw9
    go_wp2
    go_ret
    exact ⟨rfl, HW.out⟩
end Go.Proofs.Ytjboldahmndkeaa.Wc0
