/-
  Check, of wire: the whole.
-/
import Derived.Test.YtjboldahmndkeaaWiE
import Derived.Test.YtjboldahmndkeaaWiR
namespace Go.Proofs.Ytjboldahmndkeaa.Wf
open Go.RowKit Kt Pl Wi Wk Wc Wd We Wx
open At (RowT)
set_option linter.unusedVariables false
set_option maxRecDepth 20000

theorem infoC : (Try.prog.info? 28).map (·.size) = some 19 := by kernel_rfl
theorem load_cm {w : World} {b : Nat} {c : Cm} {d : Value} (h : Bx w b (Cv c d) 28) : (loadVar 28 ⟨b, 0, none⟩).run Try.prog w = .ok (.agg (Cv c d)) w :=
  load_bx h Try.underlying28 rfl infoC

set_option maxHeartbeats 4000000 in
theorem check_any (w : World) (c : Cm) (ao : Option Addr) (cap : Nat) (hr : RowT w ao c.data) (hlen : c.data.length ≤ 1000000) :
    Calls Try.prog 11 #[.agg (Cv c (.slice ao c.data.length cap))] w fun e w' => e = .returned (.int .i64 (checkC c : Int)) ∧ Gr w w' := by
  have HG0 := mkH ((Gr.refl w).alloc (.cells (Cv c (.slice ao c.data.length cap)) 28))
  have HR := mkH (RowT.gr hr HG0.out)
  have HB := mkH (Bx.new w (Cv c (.slice ao c.data.length cap)) 28)
  clear hr
  have H1 := fun W => rightCmd_any W c (.slice ao c.data.length cap)
  have H2 := fun W hr => shortCmd_any W c ao cap hr hlen
  have H3 := fun W => judge_any W (rightC c) (shortC c)
  have HE : Hid (checkC c = judge (rightC c) (shortC c)) := mkH rfl
  have hld : ∀ W b, Bx W b (Cv c (.slice ao c.data.length cap)) 28 → _ := fun W b h => load_cm h
  have HL := mkH hld
  clear hld
  generalize rightC c = b1 at H1 H3 HE
  generalize shortC c = b2 at H2 H3 HE
  generalize judge b1 b2 = j at H3 HE
  generalize Cv c (.slice ao c.data.length cap) = C at *
  go_enter Try.func11, Try.ntmps11
  go_wp2_with fail
  generalize w.alloc (.cells C 28) = W0 at *
  generalize w.heap.size = B at *
  refine wp_region_quiet (C := fun w' => Gr W0 w') (by kernel_rfl) (by kernel_rfl) ((Gr.refl W0).drew) ?_
  refine q_yield (v := .agg C) rfl (fun w hC => run_ld rfl rfl (HL.out _ _ (HB.out.gr hC))) ?_
  refine wpQuiet_step (fun K hK => ?_)
  go_simp
  refine ⟨_, fun w hw => ((H1 w).mono fun _ _ ⟨he, hg⟩ => ⟨he, hw.trans hg⟩), hK _ ?_⟩
  clear hK K
  refine q_yield (v := .agg C) rfl (fun w hC => run_ld rfl rfl (HL.out _ _ (HB.out.gr hC))) ?_
  refine wpQuiet_step (fun K hK => ?_)
  go_simp
  refine ⟨_, fun w hw => ((H2 w (RowT.gr HR.out hw)).mono fun _ _ ⟨he, hg⟩ => ⟨he, hw.trans hg⟩), hK _ ?_⟩
  clear hK K
  refine wpQuiet_step (fun K hK => ?_)
  go_simp
  refine ⟨_, fun w hw => ((H3 w).mono fun _ _ ⟨he, hg⟩ => ⟨he, hg ▸ hw⟩), hK _ ?_⟩
  clear hK K
  refine wpQuiet_step (fun K hK => ?_)
  go_simp
  refine ⟨_, fun _ _ => rfl, hK _ ?_⟩
  clear hK K
  refine wpQuiet_nil ?_
  intro w2 hw2
  have HW := mkH (HG0.out.trans hw2)
  clear hw2
  go_wp2
  go_ret
  exact ⟨by rw [HE.out]; rfl, HW.out⟩
end Go.Proofs.Ytjboldahmndkeaa.Wf
