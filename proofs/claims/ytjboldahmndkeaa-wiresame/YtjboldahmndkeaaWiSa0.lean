/-
  The walk of WireSame.
-/
import Derived.Test.YtjboldahmndkeaaWiBk0
namespace Go.Proofs.Ytjboldahmndkeaa.Wsa
open Go.RowKit Kt Pl Wi Wk Ww Wx We Wf Wy Wb Wfw Wo Wz Wrc Wg Wc0 Wq Wu Wn
open At (RowT okT)
set_option linter.unusedVariables false
set_option linter.unusedSimpArgs false
set_option maxRecDepth 20000

section
variable {P : Program} {md : Region.Mode} {ops : Array Oper} {Q : Exit → Act → World → Prop} {S : World → Prop}
/-- Two operations may come. -/
theorem wpAnyH_two {i j fuel : Nat} {listed : Array Bool} {a : Act} {w : World} (hr : Region.ready md ops listed = [i, j])
    (h1 : wpOp P ops Q i (fun a' w' => S w' ∧ wpAnyH P md ops Q S fuel (listed.setIfInBounds i true) a' w') a w)
    (h2 : wpOp P ops Q j (fun a' w' => S w' ∧ wpAnyH P md ops Q S fuel (listed.setIfInBounds j true) a' w') a w) : wpAnyH P md ops Q S (fuel + 1) listed a w := by
  refine ⟨fun h0 => ?_, fun k hk => ?_⟩
  · rw [hr] at h0; cases h0
  · rw [hr] at hk
    simp only [List.mem_cons, List.not_mem_nil, or_false] at hk
    rcases hk with rfl | rfl
    · exact h1
    · exact h2
end
theorem startC2 {P : Program} {id : Nat} {ops : Array Oper} {b : Bool} {Q : Exit → Act → World → Prop} {a : Act} {w : World} {zs ys : Array Value} {u v : TypeId}
    (h : ∀ W0, Bx W0 w.heap.size zs u → Bx W0 (w.heap.size + 1) ys v → Gr w W0 → W0.heap.size = w.heap.size + 2 → (Code.region id ops b).wp P Q a W0) : (Code.region id ops b).wp P Q a ((w.alloc (.cells zs u)).alloc (.cells ys v)) :=
  h _ ((Bx.new w zs u).alloc _) (by have := Bx.new (w.alloc (.cells zs u)) ys v; simpa using this) (((Gr.refl w).alloc _).alloc _) (by simp)

set_option maxHeartbeats 16000000 in
theorem wireSame (w : World) (c d : Cm) (ao bo : Option Addr) (cap dap : Nat) (hr : RowT w ao c.data) (hfit : Fit63 c) (hs : RowT w bo d.data) (hfid : Fit63 d) :
    Calls Try.prog 5 #[.agg (Cv c (.slice ao c.data.length cap)), .agg (Cv d (.slice bo d.data.length dap))] w fun e w' => e = .returned (.bool true) ∧ Below w.heap.size w w' := by
  have HCS : Hid ((Cv c (.slice ao c.data.length cap)).size = 19) := mkH rfl
  have HDS : Hid ((Cv d (.slice bo d.data.length dap)).size = 19) := mkH rfl
  have HLC := mkH (fun W b (h : Bx W b (Cv c (.slice ao c.data.length cap)) 28) => load_cm h)
  have HLD := mkH (fun W b (h : Bx W b (Cv d (.slice bo d.data.length dap)) 28) => load_cm h)
  have HF := mkH (fun W (h : RowT W ao c.data) => few_any W c ao cap h hfit)
  have HG := mkH (fun W (h : RowT W bo d.data) => few_any W d bo dap h hfid)
  have HR0 := mkH hr
  have HS0 := mkH hs
  have hlen := few_len c
  have hled := few_len d
  clear hr hs hfit hfid
  generalize Cv c (.slice ao c.data.length cap) = C at *
  generalize Cv d (.slice bo d.data.length dap) = D at *
  go_enter Try.func5, Try.ntmps5
  go_wp2_with fail
  refine startC2 (fun W0 hB hE hG hsz => ?_)
  have HB0 := mkH (hB.gr (Gr.refl W0).drew)
  have HE0 := mkH (hE.gr (Gr.refl W0).drew)
  have HG0 := mkH (hG.trans (Gr.refl W0).drew)
  have hsz0 : W0.drew.heap.size = w.heap.size + 2 := hsz
  have HR1 := mkH (RowT.gr HR0.out HG0.out)
  have HS1 := mkH (RowT.gr HS0.out HG0.out)
  have HBLW : Hid (Bl w W0.drew) := mkH HG0.out.below
  clear hB hE hG hsz HR0 HS0 HG0
  have HSZ0 := mkH hsz0
  clear hsz0
  refine wp_region_held_drew (S := fun _ => True) (by kernel_rfl) trivial (fun _ => ?_)
  generalize W0.drew = W1 at *
  clear W0
  generalize hb2 : w.heap.size = b2 at *
  have HBQ := mkH hb2
  clear hb2
  generalize fewC c = c1 at *
  generalize fewC d = d1 at *
  have step0 : (loadVar 28 ⟨b2, 0, none⟩).run Try.prog W1 = .ok (.agg C) W1 := HLC.out _ _ HB0.out
  have step2 : ∀ W, Bl W1 W → (loadVar 28 ⟨b2 + 1, 0, none⟩).run Try.prog W = .ok (.agg D) W := fun W h => HLD.out _ _ (Bx.bl HE0.out h)
  have HL0 := mkH step0
  have HL2 := mkH step2
  clear step0 step2
  refine wpAnyH_two (i := 0) (j := 2) (by kernel_rfl) ?_ ?_
  · refine op_value (o := { dst := some 5, op := _, type := _, pos := _, after := _, guard := _ }) rfl rfl (run_ld rfl rfl HL0.out) ⟨trivial, ?_⟩
    simp only [Act.put, List.setIfInBounds_toArray, List.set_cons_zero, List.set_cons_succ]
    refine wpAnyH_two (i := 1) (j := 2) (by kernel_rfl) ?_ ?_
    · refine op_call (o := { dst := some 6, op := _, type := _, pos := _, after := _, guard := _ }) rfl rfl (f := 8) (args := #[.agg C]) (by go_simp) ((HF.out _ HR1.out).mono ?_)
      rintro e W2 ⟨ao1, cap1, rfl, hr2, hl2, hb2⟩
      refine ⟨_, rfl, trivial, ?_⟩
      simp only [Act.put, List.setIfInBounds_toArray, List.set_cons_zero, List.set_cons_succ]
      have HR2 := mkH hr2
      have HN2 := mkH hl2
      have HB2 := mkH hb2
      clear hr2 hl2 hb2
      refine wpAnyH_one (i := 2) (by kernel_rfl) ?_
      refine op_value (o := { dst := some 7, op := _, type := _, pos := _, after := _, guard := _ }) rfl rfl (run_ld rfl rfl (HL2.out _ HB2.out)) ⟨trivial, ?_⟩
      simp only [Act.put, List.setIfInBounds_toArray, List.set_cons_zero, List.set_cons_succ]
      refine wpAnyH_one (i := 3) (by kernel_rfl) ?_
      refine op_call (o := { dst := some 8, op := _, type := _, pos := _, after := _, guard := _ }) rfl rfl (f := 8) (args := #[.agg D]) (by go_simp) ((HG.out _ (HS1.out.below HB2.out)).mono ?_)
      rintro e W3 ⟨ao2, cap2, rfl, hr3, hl3, hb3⟩
      refine ⟨_, rfl, trivial, ?_⟩
      simp only [Act.put, List.setIfInBounds_toArray, List.set_cons_zero, List.set_cons_succ]
      have hs2 := HB2.out.size
      have hz := HSZ0.out
      have HX3 := mkH (Bx.bl HB0.out (Bl.trans HB2.out hb3))
      have HY3 := mkH (Bx.bl HE0.out (Bl.trans HB2.out hb3))
      have HR3 := mkH (HR2.out.below hb3)
      have HW3 := mkH (Bl.trans HBLW.out (Bl.trans HB2.out hb3))
      have hn2 := HN2.out
      have hone1 := Cv_one c1 ao1 c1.data.length cap1
      have hone2 := Cv_one d1 ao2 d1.data.length cap2
      obtain ⟨C1, hC1⟩ : ∃ C1, C1 = Cv c1 (.slice ao1 c1.data.length cap1) := ⟨_, rfl⟩
      obtain ⟨D1, hD1⟩ : ∃ D1, D1 = Cv d1 (.slice ao2 d1.data.length cap2) := ⟨_, rfl⟩
      have hsC : C1.size = 19 := by rw [hC1]; rfl
      have hsD : D1.size = 19 := by rw [hD1]; rfl
      rw [← hC1] at hone1
      rw [← hD1] at hone2
      have hiC : (Try.prog.info? 28).map (·.size) = some C1.size := by rw [hsC]; exact infoC
      have hiD : (Try.prog.info? 28).map (·.size) = some D1.size := by rw [hsD]; exact infoC
      rw [← hC1, ← hD1]
      have hX4 := HX3.out.row (cs := C1) (HCS.out.trans hsC.symm)
      have hY4 := HY3.out.rowOther (g := b2) (by omega) C1
      have hX5 := hX4.rowOther (g := b2 + 1) (by omega) D1
      have hY5 := hY4.row (cs := D1) (HDS.out.trans hsD.symm)
      refine wpAnyH_one (i := 4) (by kernel_rfl) (op_both (o := { dst := none, op := _, type := _, pos := _, after := _, guard := _ }) rfl rfl (w' := W3.setRow b2 C1) (run_st (P := Try.prog) rfl rfl rfl HX3.out hiC (HCS.out.trans hsC.symm) hone1) ⟨trivial, ?_⟩)
      simp only [Act.put]
      refine wpAnyH_one (i := 5) (by kernel_rfl) (op_both (o := { dst := none, op := _, type := _, pos := _, after := _, guard := _ }) rfl rfl (w' := (W3.setRow b2 C1).setRow (b2 + 1) D1) (run_st (P := Try.prog) rfl rfl rfl hY4 hiD (HDS.out.trans hsD.symm) hone2) ⟨trivial, ?_⟩)
      simp only [Act.put]
      refine wpAnyH_done (by kernel_rfl) ?_ _
      have HR4 := mkH (Wk.RowT.setRow (Wk.RowT.setRow HR3.out (g := b2) (fun a ha => by have := hn2 a ha; omega) C1) (g := b2 + 1) (fun a ha => by have := hn2 a ha; omega) D1)
      have HS4 := mkH (Wk.RowT.setRow (Wk.RowT.setRow hr3 (g := b2) (fun a ha => by have := hl3 a ha; omega) C1) (g := b2 + 1) (fun a ha => by have := hl3 a ha; omega) D1)
      have HX := mkH hX5
      have HY := mkH hY5
      have hbq := HBQ.out
      have HW4 : Hid (Bl w ((W3.setRow b2 C1).setRow (b2 + 1) D1)) := mkH (below_setRow (B := w.heap.size) (g := b2 + 1) (below_setRow (B := w.heap.size) (g := b2) HW3.out (by omega) C1) (by omega) D1)
      clear hX4 hY4 hX5 hY5 HX3 HY3 HR3 HW3 hr3 hl3 hb3 hone1 hone2 hn2 hz hs2 HR2 HN2 HB2 HF HG HR1 HS1 HBLW HL0 HL2 HB0 HE0 HLC HLD hbq HSZ0 hiC hiD hsC hsD HCS HDS
      generalize (W3.setRow b2 C1).setRow (b2 + 1) D1 = W4 at *
      have HLX : Hid (∀ W, Bl W4 W → (loadVar 28 ⟨b2, 0, none⟩).run Try.prog W = .ok (.agg C1) W) := mkH (fun W h => by have := Bx.bl HX.out h; rw [hC1] at this ⊢; exact load_cm this)
      have HLY : Hid (∀ W, Bl W4 W → (loadVar 28 ⟨b2 + 1, 0, none⟩).run Try.prog W = .ok (.agg D1) W) := mkH (fun W h => by have := Bx.bl HY.out h; rw [hD1] at this ⊢; exact load_cm this)
      have H17 : Hid (∀ W, Bl W4 W → Calls Try.prog 17 #[.agg C1, .agg D1] W fun e w' => e = .returned (.bool (sameC c1 d1)) ∧ Bl W w') := mkH (fun W h => by
        have := same_any W c1 d1 ao1 ao2 cap1 cap2 (HR4.out.below h) (HS4.out.below h) hlen hled
        rw [← hC1, ← hD1] at this
        exact this.mono fun _ _ ⟨he, hg⟩ => ⟨he, hg.below⟩)
      have H18 : Hid (∀ W, Bl W4 W → Calls Try.prog 18 #[.agg C1, .agg D1] W fun e w' => e = .returned (.bool (sameC c1 d1)) ∧ Bl W w') := mkH (fun W h => by
        have := rsame_any W c1 d1 ao1 ao2 cap1 cap2 (HR4.out.below h) (HS4.out.below h) hlen hled
        rw [← hC1, ← hD1] at this
        exact this.mono fun _ _ ⟨he, hg⟩ => ⟨he, hg.below⟩)
      have H19 : Hid (∀ W, Bl W4 W → Calls Try.prog 17 #[.agg C1, .agg C1] W fun e w' => e = .returned (.bool true) ∧ Bl W w') := mkH (fun W h => by
        have := same_any W c1 c1 ao1 ao1 cap1 cap1 (HR4.out.below h) (HR4.out.below h) hlen hlen
        rw [← hC1, sameC_self] at this
        exact this.mono fun _ _ ⟨he, hg⟩ => ⟨he, hg.below⟩)
      have HWk : Hid (∀ W, Bl W4 W → Calls Try.prog 13 #[] W fun e w' => e = .returned (.bool true) ∧ Bl W w') := mkH (fun W h => works_any W)
      clear HX HY HR4 HS4 hC1 hD1 hlen hled
      generalize sameC c1 d1 = sb at *
      go_wp2_with fail
      refine wp_region_quiet (C := fun w' => Bl W4 w') (by kernel_rfl) (by kernel_rfl) ((Gr.refl W4).drew).below ?_
      refine q_yield (v := .agg C1) rfl (fun w hC => run_ld rfl rfl (HLX.out _ hC)) ?_
      refine q_yield (v := .agg D1) rfl (fun w hC => run_ld rfl rfl (HLY.out _ hC)) ?_
      refine wpQuiet_step (fun K hK => ?_)
      go_simp
      refine ⟨_, fun w hw => ((H17.out w hw).mono fun _ _ ⟨he, hg⟩ => ⟨he, Bl.trans hw hg⟩), hK _ ?_⟩
      clear hK K
      refine q_yield (v := .agg C1) rfl (fun w hC => run_ld rfl rfl (HLX.out _ hC)) ?_
      refine q_yield (v := .agg D1) rfl (fun w hC => run_ld rfl rfl (HLY.out _ hC)) ?_
      refine wpQuiet_step (fun K hK => ?_)
      go_simp
      refine ⟨_, fun w hw => ((H18.out w hw).mono fun _ _ ⟨he, hg⟩ => ⟨he, Bl.trans hw hg⟩), hK _ ?_⟩
      clear hK K
      refine wpQuiet_step (fun K hK => ?_)
      go_simp
      refine ⟨_, fun _ _ => rfl, hK _ ?_⟩
      clear hK K
      refine wpQuiet_step (fun K hK => ?_)
      go_simp
      refine ⟨_, fun _ _ => rfl, hK _ ?_⟩
      clear hK K
      refine q_yield (v := .agg C1) rfl (fun w hC => run_ld rfl rfl (HLX.out _ hC)) ?_
      refine q_yield (v := .agg C1) rfl (fun w hC => run_ld rfl rfl (HLX.out _ hC)) ?_
      refine wpQuiet_step (fun K hK => ?_)
      go_simp
      refine ⟨_, fun w hw => ((H19.out w hw).mono fun _ _ ⟨he, hg⟩ => ⟨he, Bl.trans hw hg⟩), hK _ ?_⟩
      clear hK K
      refine wpQuiet_step (fun K hK => ?_)
      go_simp
      refine ⟨_, fun _ _ => rfl, hK _ ?_⟩
      clear hK K
      refine wpQuiet_step (fun K hK => ?_)
      go_simp
      refine ⟨_, fun _ _ => rfl, hK _ ?_⟩
      clear hK K
      refine wpQuiet_step (fun K hK => ?_)
      go_simp
      refine ⟨_, fun w hw => ((HWk.out w hw).mono fun _ _ ⟨he, hg⟩ => ⟨he, Bl.trans hw hg⟩), hK _ ?_⟩
      clear hK K
      refine wpQuiet_step (fun K hK => ?_)
      go_simp
      refine ⟨_, fun _ _ => rfl, hK _ ?_⟩
      clear hK K
      refine wpQuiet_step (fun K hK => ?_)
      go_simp
      refine ⟨_, fun _ _ => rfl, hK _ ?_⟩
      clear hK K
      refine wpQuiet_nil ?_
      intro w9 hw9
      have HW := mkH (Bl.trans HW4.out hw9)
      clear hw9
      go_wp2
      go_ret
      exact ⟨rfl, HW.out⟩
    · refine op_value (o := { dst := some 7, op := _, type := _, pos := _, after := _, guard := _ }) rfl rfl (run_ld rfl rfl (HL2.out _ (Below.refl _ _))) ⟨trivial, ?_⟩
      simp only [Act.put, List.setIfInBounds_toArray, List.set_cons_zero, List.set_cons_succ]
      refine wpAnyH_one (i := 1) (by kernel_rfl) ?_
      refine op_call (o := { dst := some 6, op := _, type := _, pos := _, after := _, guard := _ }) rfl rfl (f := 8) (args := #[.agg C]) (by go_simp) ((HF.out _ HR1.out).mono ?_)
      rintro e W2 ⟨ao1, cap1, rfl, hr2, hl2, hb2⟩
      refine ⟨_, rfl, trivial, ?_⟩
      simp only [Act.put, List.setIfInBounds_toArray, List.set_cons_zero, List.set_cons_succ]
      have HR2 := mkH hr2
      have HN2 := mkH hl2
      have HB2 := mkH hb2
      clear hr2 hl2 hb2
      refine wpAnyH_one (i := 3) (by kernel_rfl) ?_
      refine op_call (o := { dst := some 8, op := _, type := _, pos := _, after := _, guard := _ }) rfl rfl (f := 8) (args := #[.agg D]) (by go_simp) ((HG.out _ (HS1.out.below HB2.out)).mono ?_)
      rintro e W3 ⟨ao2, cap2, rfl, hr3, hl3, hb3⟩
      refine ⟨_, rfl, trivial, ?_⟩
      simp only [Act.put, List.setIfInBounds_toArray, List.set_cons_zero, List.set_cons_succ]
      have hs2 := HB2.out.size
      have hz := HSZ0.out
      have HX3 := mkH (Bx.bl HB0.out (Bl.trans HB2.out hb3))
      have HY3 := mkH (Bx.bl HE0.out (Bl.trans HB2.out hb3))
      have HR3 := mkH (HR2.out.below hb3)
      have HW3 := mkH (Bl.trans HBLW.out (Bl.trans HB2.out hb3))
      have hn2 := HN2.out
      have hone1 := Cv_one c1 ao1 c1.data.length cap1
      have hone2 := Cv_one d1 ao2 d1.data.length cap2
      obtain ⟨C1, hC1⟩ : ∃ C1, C1 = Cv c1 (.slice ao1 c1.data.length cap1) := ⟨_, rfl⟩
      obtain ⟨D1, hD1⟩ : ∃ D1, D1 = Cv d1 (.slice ao2 d1.data.length cap2) := ⟨_, rfl⟩
      have hsC : C1.size = 19 := by rw [hC1]; rfl
      have hsD : D1.size = 19 := by rw [hD1]; rfl
      rw [← hC1] at hone1
      rw [← hD1] at hone2
      have hiC : (Try.prog.info? 28).map (·.size) = some C1.size := by rw [hsC]; exact infoC
      have hiD : (Try.prog.info? 28).map (·.size) = some D1.size := by rw [hsD]; exact infoC
      rw [← hC1, ← hD1]
      have hX4 := HX3.out.row (cs := C1) (HCS.out.trans hsC.symm)
      have hY4 := HY3.out.rowOther (g := b2) (by omega) C1
      have hX5 := hX4.rowOther (g := b2 + 1) (by omega) D1
      have hY5 := hY4.row (cs := D1) (HDS.out.trans hsD.symm)
      refine wpAnyH_one (i := 4) (by kernel_rfl) (op_both (o := { dst := none, op := _, type := _, pos := _, after := _, guard := _ }) rfl rfl (w' := W3.setRow b2 C1) (run_st (P := Try.prog) rfl rfl rfl HX3.out hiC (HCS.out.trans hsC.symm) hone1) ⟨trivial, ?_⟩)
      simp only [Act.put]
      refine wpAnyH_one (i := 5) (by kernel_rfl) (op_both (o := { dst := none, op := _, type := _, pos := _, after := _, guard := _ }) rfl rfl (w' := (W3.setRow b2 C1).setRow (b2 + 1) D1) (run_st (P := Try.prog) rfl rfl rfl hY4 hiD (HDS.out.trans hsD.symm) hone2) ⟨trivial, ?_⟩)
      simp only [Act.put]
      refine wpAnyH_done (by kernel_rfl) ?_ _
      have HR4 := mkH (Wk.RowT.setRow (Wk.RowT.setRow HR3.out (g := b2) (fun a ha => by have := hn2 a ha; omega) C1) (g := b2 + 1) (fun a ha => by have := hn2 a ha; omega) D1)
      have HS4 := mkH (Wk.RowT.setRow (Wk.RowT.setRow hr3 (g := b2) (fun a ha => by have := hl3 a ha; omega) C1) (g := b2 + 1) (fun a ha => by have := hl3 a ha; omega) D1)
      have HX := mkH hX5
      have HY := mkH hY5
      have hbq := HBQ.out
      have HW4 : Hid (Bl w ((W3.setRow b2 C1).setRow (b2 + 1) D1)) := mkH (below_setRow (B := w.heap.size) (g := b2 + 1) (below_setRow (B := w.heap.size) (g := b2) HW3.out (by omega) C1) (by omega) D1)
      clear hX4 hY4 hX5 hY5 HX3 HY3 HR3 HW3 hr3 hl3 hb3 hone1 hone2 hn2 hz hs2 HR2 HN2 HB2 HF HG HR1 HS1 HBLW HL0 HL2 HB0 HE0 HLC HLD hbq HSZ0 hiC hiD hsC hsD HCS HDS
      generalize (W3.setRow b2 C1).setRow (b2 + 1) D1 = W4 at *
      have HLX : Hid (∀ W, Bl W4 W → (loadVar 28 ⟨b2, 0, none⟩).run Try.prog W = .ok (.agg C1) W) := mkH (fun W h => by have := Bx.bl HX.out h; rw [hC1] at this ⊢; exact load_cm this)
      have HLY : Hid (∀ W, Bl W4 W → (loadVar 28 ⟨b2 + 1, 0, none⟩).run Try.prog W = .ok (.agg D1) W) := mkH (fun W h => by have := Bx.bl HY.out h; rw [hD1] at this ⊢; exact load_cm this)
      have H17 : Hid (∀ W, Bl W4 W → Calls Try.prog 17 #[.agg C1, .agg D1] W fun e w' => e = .returned (.bool (sameC c1 d1)) ∧ Bl W w') := mkH (fun W h => by
        have := same_any W c1 d1 ao1 ao2 cap1 cap2 (HR4.out.below h) (HS4.out.below h) hlen hled
        rw [← hC1, ← hD1] at this
        exact this.mono fun _ _ ⟨he, hg⟩ => ⟨he, hg.below⟩)
      have H18 : Hid (∀ W, Bl W4 W → Calls Try.prog 18 #[.agg C1, .agg D1] W fun e w' => e = .returned (.bool (sameC c1 d1)) ∧ Bl W w') := mkH (fun W h => by
        have := rsame_any W c1 d1 ao1 ao2 cap1 cap2 (HR4.out.below h) (HS4.out.below h) hlen hled
        rw [← hC1, ← hD1] at this
        exact this.mono fun _ _ ⟨he, hg⟩ => ⟨he, hg.below⟩)
      have H19 : Hid (∀ W, Bl W4 W → Calls Try.prog 17 #[.agg C1, .agg C1] W fun e w' => e = .returned (.bool true) ∧ Bl W w') := mkH (fun W h => by
        have := same_any W c1 c1 ao1 ao1 cap1 cap1 (HR4.out.below h) (HR4.out.below h) hlen hlen
        rw [← hC1, sameC_self] at this
        exact this.mono fun _ _ ⟨he, hg⟩ => ⟨he, hg.below⟩)
      have HWk : Hid (∀ W, Bl W4 W → Calls Try.prog 13 #[] W fun e w' => e = .returned (.bool true) ∧ Bl W w') := mkH (fun W h => works_any W)
      clear HX HY HR4 HS4 hC1 hD1 hlen hled
      generalize sameC c1 d1 = sb at *
      go_wp2_with fail
      refine wp_region_quiet (C := fun w' => Bl W4 w') (by kernel_rfl) (by kernel_rfl) ((Gr.refl W4).drew).below ?_
      refine q_yield (v := .agg C1) rfl (fun w hC => run_ld rfl rfl (HLX.out _ hC)) ?_
      refine q_yield (v := .agg D1) rfl (fun w hC => run_ld rfl rfl (HLY.out _ hC)) ?_
      refine wpQuiet_step (fun K hK => ?_)
      go_simp
      refine ⟨_, fun w hw => ((H17.out w hw).mono fun _ _ ⟨he, hg⟩ => ⟨he, Bl.trans hw hg⟩), hK _ ?_⟩
      clear hK K
      refine q_yield (v := .agg C1) rfl (fun w hC => run_ld rfl rfl (HLX.out _ hC)) ?_
      refine q_yield (v := .agg D1) rfl (fun w hC => run_ld rfl rfl (HLY.out _ hC)) ?_
      refine wpQuiet_step (fun K hK => ?_)
      go_simp
      refine ⟨_, fun w hw => ((H18.out w hw).mono fun _ _ ⟨he, hg⟩ => ⟨he, Bl.trans hw hg⟩), hK _ ?_⟩
      clear hK K
      refine wpQuiet_step (fun K hK => ?_)
      go_simp
      refine ⟨_, fun _ _ => rfl, hK _ ?_⟩
      clear hK K
      refine wpQuiet_step (fun K hK => ?_)
      go_simp
      refine ⟨_, fun _ _ => rfl, hK _ ?_⟩
      clear hK K
      refine q_yield (v := .agg C1) rfl (fun w hC => run_ld rfl rfl (HLX.out _ hC)) ?_
      refine q_yield (v := .agg C1) rfl (fun w hC => run_ld rfl rfl (HLX.out _ hC)) ?_
      refine wpQuiet_step (fun K hK => ?_)
      go_simp
      refine ⟨_, fun w hw => ((H19.out w hw).mono fun _ _ ⟨he, hg⟩ => ⟨he, Bl.trans hw hg⟩), hK _ ?_⟩
      clear hK K
      refine wpQuiet_step (fun K hK => ?_)
      go_simp
      refine ⟨_, fun _ _ => rfl, hK _ ?_⟩
      clear hK K
      refine wpQuiet_step (fun K hK => ?_)
      go_simp
      refine ⟨_, fun _ _ => rfl, hK _ ?_⟩
      clear hK K
      refine wpQuiet_step (fun K hK => ?_)
      go_simp
      refine ⟨_, fun w hw => ((HWk.out w hw).mono fun _ _ ⟨he, hg⟩ => ⟨he, Bl.trans hw hg⟩), hK _ ?_⟩
      clear hK K
      refine wpQuiet_step (fun K hK => ?_)
      go_simp
      refine ⟨_, fun _ _ => rfl, hK _ ?_⟩
      clear hK K
      refine wpQuiet_step (fun K hK => ?_)
      go_simp
      refine ⟨_, fun _ _ => rfl, hK _ ?_⟩
      clear hK K
      refine wpQuiet_nil ?_
      intro w9 hw9
      have HW := mkH (Bl.trans HW4.out hw9)
      clear hw9
      go_wp2
      go_ret
      exact ⟨rfl, HW.out⟩
  · refine op_value (o := { dst := some 7, op := _, type := _, pos := _, after := _, guard := _ }) rfl rfl (run_ld rfl rfl (HL2.out _ (Below.refl _ _))) ⟨trivial, ?_⟩
    simp only [Act.put, List.setIfInBounds_toArray, List.set_cons_zero, List.set_cons_succ]
    refine wpAnyH_one (i := 0) (by kernel_rfl) ?_
    refine op_value (o := { dst := some 5, op := _, type := _, pos := _, after := _, guard := _ }) rfl rfl (run_ld rfl rfl HL0.out) ⟨trivial, ?_⟩
    simp only [Act.put, List.setIfInBounds_toArray, List.set_cons_zero, List.set_cons_succ]
    refine wpAnyH_one (i := 1) (by kernel_rfl) ?_
    refine op_call (o := { dst := some 6, op := _, type := _, pos := _, after := _, guard := _ }) rfl rfl (f := 8) (args := #[.agg C]) (by go_simp) ((HF.out _ HR1.out).mono ?_)
    rintro e W2 ⟨ao1, cap1, rfl, hr2, hl2, hb2⟩
    refine ⟨_, rfl, trivial, ?_⟩
    simp only [Act.put, List.setIfInBounds_toArray, List.set_cons_zero, List.set_cons_succ]
    have HR2 := mkH hr2
    have HN2 := mkH hl2
    have HB2 := mkH hb2
    clear hr2 hl2 hb2
    refine wpAnyH_one (i := 3) (by kernel_rfl) ?_
    refine op_call (o := { dst := some 8, op := _, type := _, pos := _, after := _, guard := _ }) rfl rfl (f := 8) (args := #[.agg D]) (by go_simp) ((HG.out _ (HS1.out.below HB2.out)).mono ?_)
    rintro e W3 ⟨ao2, cap2, rfl, hr3, hl3, hb3⟩
    refine ⟨_, rfl, trivial, ?_⟩
    simp only [Act.put, List.setIfInBounds_toArray, List.set_cons_zero, List.set_cons_succ]
    have hs2 := HB2.out.size
    have hz := HSZ0.out
    have HX3 := mkH (Bx.bl HB0.out (Bl.trans HB2.out hb3))
    have HY3 := mkH (Bx.bl HE0.out (Bl.trans HB2.out hb3))
    have HR3 := mkH (HR2.out.below hb3)
    have HW3 := mkH (Bl.trans HBLW.out (Bl.trans HB2.out hb3))
    have hn2 := HN2.out
    have hone1 := Cv_one c1 ao1 c1.data.length cap1
    have hone2 := Cv_one d1 ao2 d1.data.length cap2
    obtain ⟨C1, hC1⟩ : ∃ C1, C1 = Cv c1 (.slice ao1 c1.data.length cap1) := ⟨_, rfl⟩
    obtain ⟨D1, hD1⟩ : ∃ D1, D1 = Cv d1 (.slice ao2 d1.data.length cap2) := ⟨_, rfl⟩
    have hsC : C1.size = 19 := by rw [hC1]; rfl
    have hsD : D1.size = 19 := by rw [hD1]; rfl
    rw [← hC1] at hone1
    rw [← hD1] at hone2
    have hiC : (Try.prog.info? 28).map (·.size) = some C1.size := by rw [hsC]; exact infoC
    have hiD : (Try.prog.info? 28).map (·.size) = some D1.size := by rw [hsD]; exact infoC
    rw [← hC1, ← hD1]
    have hX4 := HX3.out.row (cs := C1) (HCS.out.trans hsC.symm)
    have hY4 := HY3.out.rowOther (g := b2) (by omega) C1
    have hX5 := hX4.rowOther (g := b2 + 1) (by omega) D1
    have hY5 := hY4.row (cs := D1) (HDS.out.trans hsD.symm)
    refine wpAnyH_one (i := 4) (by kernel_rfl) (op_both (o := { dst := none, op := _, type := _, pos := _, after := _, guard := _ }) rfl rfl (w' := W3.setRow b2 C1) (run_st (P := Try.prog) rfl rfl rfl HX3.out hiC (HCS.out.trans hsC.symm) hone1) ⟨trivial, ?_⟩)
    simp only [Act.put]
    refine wpAnyH_one (i := 5) (by kernel_rfl) (op_both (o := { dst := none, op := _, type := _, pos := _, after := _, guard := _ }) rfl rfl (w' := (W3.setRow b2 C1).setRow (b2 + 1) D1) (run_st (P := Try.prog) rfl rfl rfl hY4 hiD (HDS.out.trans hsD.symm) hone2) ⟨trivial, ?_⟩)
    simp only [Act.put]
    refine wpAnyH_done (by kernel_rfl) ?_ _
    have HR4 := mkH (Wk.RowT.setRow (Wk.RowT.setRow HR3.out (g := b2) (fun a ha => by have := hn2 a ha; omega) C1) (g := b2 + 1) (fun a ha => by have := hn2 a ha; omega) D1)
    have HS4 := mkH (Wk.RowT.setRow (Wk.RowT.setRow hr3 (g := b2) (fun a ha => by have := hl3 a ha; omega) C1) (g := b2 + 1) (fun a ha => by have := hl3 a ha; omega) D1)
    have HX := mkH hX5
    have HY := mkH hY5
    have hbq := HBQ.out
    have HW4 : Hid (Bl w ((W3.setRow b2 C1).setRow (b2 + 1) D1)) := mkH (below_setRow (B := w.heap.size) (g := b2 + 1) (below_setRow (B := w.heap.size) (g := b2) HW3.out (by omega) C1) (by omega) D1)
    clear hX4 hY4 hX5 hY5 HX3 HY3 HR3 HW3 hr3 hl3 hb3 hone1 hone2 hn2 hz hs2 HR2 HN2 HB2 HF HG HR1 HS1 HBLW HL0 HL2 HB0 HE0 HLC HLD hbq HSZ0 hiC hiD hsC hsD HCS HDS
    generalize (W3.setRow b2 C1).setRow (b2 + 1) D1 = W4 at *
    have HLX : Hid (∀ W, Bl W4 W → (loadVar 28 ⟨b2, 0, none⟩).run Try.prog W = .ok (.agg C1) W) := mkH (fun W h => by have := Bx.bl HX.out h; rw [hC1] at this ⊢; exact load_cm this)
    have HLY : Hid (∀ W, Bl W4 W → (loadVar 28 ⟨b2 + 1, 0, none⟩).run Try.prog W = .ok (.agg D1) W) := mkH (fun W h => by have := Bx.bl HY.out h; rw [hD1] at this ⊢; exact load_cm this)
    have H17 : Hid (∀ W, Bl W4 W → Calls Try.prog 17 #[.agg C1, .agg D1] W fun e w' => e = .returned (.bool (sameC c1 d1)) ∧ Bl W w') := mkH (fun W h => by
      have := same_any W c1 d1 ao1 ao2 cap1 cap2 (HR4.out.below h) (HS4.out.below h) hlen hled
      rw [← hC1, ← hD1] at this
      exact this.mono fun _ _ ⟨he, hg⟩ => ⟨he, hg.below⟩)
    have H18 : Hid (∀ W, Bl W4 W → Calls Try.prog 18 #[.agg C1, .agg D1] W fun e w' => e = .returned (.bool (sameC c1 d1)) ∧ Bl W w') := mkH (fun W h => by
      have := rsame_any W c1 d1 ao1 ao2 cap1 cap2 (HR4.out.below h) (HS4.out.below h) hlen hled
      rw [← hC1, ← hD1] at this
      exact this.mono fun _ _ ⟨he, hg⟩ => ⟨he, hg.below⟩)
    have H19 : Hid (∀ W, Bl W4 W → Calls Try.prog 17 #[.agg C1, .agg C1] W fun e w' => e = .returned (.bool true) ∧ Bl W w') := mkH (fun W h => by
      have := same_any W c1 c1 ao1 ao1 cap1 cap1 (HR4.out.below h) (HR4.out.below h) hlen hlen
      rw [← hC1, sameC_self] at this
      exact this.mono fun _ _ ⟨he, hg⟩ => ⟨he, hg.below⟩)
    have HWk : Hid (∀ W, Bl W4 W → Calls Try.prog 13 #[] W fun e w' => e = .returned (.bool true) ∧ Bl W w') := mkH (fun W h => works_any W)
    clear HX HY HR4 HS4 hC1 hD1 hlen hled
    generalize sameC c1 d1 = sb at *
    go_wp2_with fail
    refine wp_region_quiet (C := fun w' => Bl W4 w') (by kernel_rfl) (by kernel_rfl) ((Gr.refl W4).drew).below ?_
    refine q_yield (v := .agg C1) rfl (fun w hC => run_ld rfl rfl (HLX.out _ hC)) ?_
    refine q_yield (v := .agg D1) rfl (fun w hC => run_ld rfl rfl (HLY.out _ hC)) ?_
    refine wpQuiet_step (fun K hK => ?_)
    go_simp
    refine ⟨_, fun w hw => ((H17.out w hw).mono fun _ _ ⟨he, hg⟩ => ⟨he, Bl.trans hw hg⟩), hK _ ?_⟩
    clear hK K
    refine q_yield (v := .agg C1) rfl (fun w hC => run_ld rfl rfl (HLX.out _ hC)) ?_
    refine q_yield (v := .agg D1) rfl (fun w hC => run_ld rfl rfl (HLY.out _ hC)) ?_
    refine wpQuiet_step (fun K hK => ?_)
    go_simp
    refine ⟨_, fun w hw => ((H18.out w hw).mono fun _ _ ⟨he, hg⟩ => ⟨he, Bl.trans hw hg⟩), hK _ ?_⟩
    clear hK K
    refine wpQuiet_step (fun K hK => ?_)
    go_simp
    refine ⟨_, fun _ _ => rfl, hK _ ?_⟩
    clear hK K
    refine wpQuiet_step (fun K hK => ?_)
    go_simp
    refine ⟨_, fun _ _ => rfl, hK _ ?_⟩
    clear hK K
    refine q_yield (v := .agg C1) rfl (fun w hC => run_ld rfl rfl (HLX.out _ hC)) ?_
    refine q_yield (v := .agg C1) rfl (fun w hC => run_ld rfl rfl (HLX.out _ hC)) ?_
    refine wpQuiet_step (fun K hK => ?_)
    go_simp
    refine ⟨_, fun w hw => ((H19.out w hw).mono fun _ _ ⟨he, hg⟩ => ⟨he, Bl.trans hw hg⟩), hK _ ?_⟩
    clear hK K
    refine wpQuiet_step (fun K hK => ?_)
    go_simp
    refine ⟨_, fun _ _ => rfl, hK _ ?_⟩
    clear hK K
    refine wpQuiet_step (fun K hK => ?_)
    go_simp
    refine ⟨_, fun _ _ => rfl, hK _ ?_⟩
    clear hK K
    refine wpQuiet_step (fun K hK => ?_)
    go_simp
    refine ⟨_, fun w hw => ((HWk.out w hw).mono fun _ _ ⟨he, hg⟩ => ⟨he, Bl.trans hw hg⟩), hK _ ?_⟩
    clear hK K
    refine wpQuiet_step (fun K hK => ?_)
    go_simp
    refine ⟨_, fun _ _ => rfl, hK _ ?_⟩
    clear hK K
    refine wpQuiet_step (fun K hK => ?_)
    go_simp
    refine ⟨_, fun _ _ => rfl, hK _ ?_⟩
    clear hK K
    refine wpQuiet_nil ?_
    intro w9 hw9
    have HW := mkH (Bl.trans HW4.out hw9)
    clear hw9
    go_wp2
    go_ret
    exact ⟨rfl, HW.out⟩
end Go.Proofs.Ytjboldahmndkeaa.Wsa
