/-
  The walk of WireBack.
-/
import Derived.Test.YtjboldahmndkeaaWiU3
import Derived.Test.YtjboldahmndkeaaWiN2
import Derived.Test.YtjboldahmndkeaaWiC0
namespace Go.Proofs.Ytjboldahmndkeaa.Wbk
open Go.RowKit Kt Pl Wi Wk Ww Wx We Wf Wy Wb Wfw Wo Wz Wrc Wg Wc0 Wq Wu Wn
open At (RowT okT)
set_option linter.unusedVariables false
set_option linter.unusedSimpArgs false
set_option maxRecDepth 20000

section
variable {P : Program} {w : World} {ops : Array Oper} {rest : List Oper} {o : Oper} {a : Act} {Q : Exit → Act → World → Prop}
/-- A struct goes into a variable made just now. -/
theorem wpList_stn (hgd : o.guard = none) {ty : TypeId} {x y : Operand} {cs zs : Array Value} {t : TypeId} (ho : o.op = .store ty x y) (hx : a.eval x = .pointer (some ⟨w.heap.size, 0, none⟩)) (hy : a.eval y = .agg cs) (hi : (P.info? ty).map (·.size) = some cs.size) (hold : zs.size = cs.size) (h1 : cs.all (fun x => x.oneCell') = true)
    (h : ∀ W, Bx W w.heap.size cs t → Below w.heap.size w W → wpList P ops Q rest (a.put o.dst undef) W) : wpList P ops Q (o :: rest) a (w.alloc (.cells zs t)) :=
  wpList_st hgd ho hx hy (Bx.new w zs t) hi hold h1 (h _ ((Bx.new w zs t).row hold) (below_setRow ((Below.refl _ _).alloc (Nat.le_refl _) _) (Nat.le_refl _) _))
theorem wpList_ldw {ty : TypeId} {x : Operand} {p : Addr} {v : Value} (hw : Region.wanted o (yielded ops a.tmps) = true) (ho : o.op = .load ty x) (hx : a.eval x = .pointer (some p)) (h : (loadVar ty p).run P w = .ok v w)
    (hk : wpList P ops Q rest (a.put o.dst v) w) : wpList P ops Q (o :: rest) a w := by
  refine wpList_step fun _ hK => ?_
  rw [if_pos hw]
  unfold Oper.wp
  rw [run_ld ho hx h]
  exact hK _ _ hk
end
theorem enc_cm_len {c : Cm} (hck : checkC c = 0) : (encCm c).length ≤ 100000000 := by
  obtain ⟨q1, q2, q3, q4, hrc, hrg, hdl, hdt⟩ := cm_parts hck
  have l1 := flat_len _ q1
  have l2 := flatT_len _ q2
  have l3 := flat_len _ q3
  have l4 := flat_len _ q4
  have l5 : (encRcp c.rc).length ≤ 5000 := by
    simp only [rcB, Bool.and_eq_true] at hrc
    have a1 := num_ok hrc.1
    have a2 := num_ok hrc.2.1
    have a3 := num_ok hrc.2.2
    have b1 : (encN c.rc.q).length ≤ 9 := enc_len9 (by omega)
    have b2 : (encN c.rc.s).length ≤ 9 := enc_len9 (by omega)
    have b3 : (encN c.rc.c).length ≤ 9 := enc_len9 (by omega)
    have b4 := enc_len9 (n := c.rc.g.length) (by omega)
    simp only [encRcp, encText, List.length_append]
    omega
  have l6 : (encList encText c.data).length ≤ 9 + 4105 * 1024 := by
    unfold encList
    rw [List.length_append]
    have h1 := flatT_len _ hdt
    have h2 := enc_len9 (n := c.data.length) (by omega)
    omega
  rw [← cm_bytes]
  simp only [List.length_append, List.length_nil] at *
  simp only [List.length_cons, List.length_nil] at *
  omega
theorem enc_cm_pos (c : Cm) : 0 < (encCm c).length := by
  have := enc_len_pos c.kind.toNat
  unfold encCm encN
  simp only [List.length_append]
  omega
theorem mod_name (cut : Int) (n : Nat) (h : 0 < n) : -(n : Int) < cut.tmod (n : Int) ∧ cut.tmod (n : Int) < (n : Int) ∧ ∃ i : Nat, i < n ∧ (cut.tmod (n : Int) + (n : Int)) % (n : Int) = (i : Int) := by
  have t1 : (0 : Int) < (n : Int) := by omega
  refine ⟨Int.lt_tmod_of_pos _ t1, Int.tmod_lt_of_pos _ t1, ((cut.tmod (n : Int) + (n : Int)) % (n : Int)).toNat, ?_, (Int.toNat_of_nonneg (Int.emod_nonneg _ (by omega))).symm⟩
  have := Int.emod_lt_of_pos (cut.tmod (n : Int) + (n : Int)) t1
  have := Int.emod_nonneg (cut.tmod (n : Int) + (n : Int)) (show (n : Int) ≠ 0 by omega)
  omega
theorem byte_of {a : Int} (h : (Lit.int .u8 a).wf = true) : ∃ t : UInt8, a = (t.toNat : Int) := by
  have h2 : 0 ≤ a ∧ a ≤ 255 := by
    simp only [Lit.wf, Bool.and_eq_true, decide_eq_true_eq] at h
    have e1 : IntKind.u8.min = 0 := by decide
    have e2 : IntKind.u8.max = 255 := by decide
    omega
  refine ⟨UInt8.ofNat a.toNat, ?_⟩
  simp only [UInt8.toNat_ofNat']
  omega

set_option maxHeartbeats 16000000 in
theorem wireBack (w : World) (c : Cm) (ao : Option Addr) (cap : Nat) (hr : RowT w ao c.data) (hfit : Fit63 c) (cut : Int) (tb : UInt8) :
    Calls Try.prog 6 #[.agg (Cv c (.slice ao c.data.length cap)), .int .i64 cut, .int .u8 (tb.toNat : Int)] w fun e w' => e = .returned (.bool true) ∧ Below w.heap.size w w' := by
  have HG0 := mkH ((Gr.refl w).alloc (.cells (Cv c (.slice ao c.data.length cap)) 28))
  have HB0 := mkH (Bx.new w (Cv c (.slice ao c.data.length cap)) 28)
  have HL0 := mkH (load_cm HB0.out)
  have H1 := few_any (w.alloc (.cells (Cv c (.slice ao c.data.length cap)) 28)) c ao cap (RowT.gr hr HG0.out) hfit
  have hsz0 : (w.alloc (.cells (Cv c (.slice ao c.data.length cap)) 28)).heap.size = w.heap.size + 1 := by simp
  have HSZ := mkH hsz0
  have HCS : Hid ((Cv c (.slice ao c.data.length cap)).size = 19) := mkH rfl
  clear hr hfit hsz0
  generalize Cv c (.slice ao c.data.length cap) = C at *
  have hlen := few_len c
  generalize fewC c = c1 at *
  clear c
  go_enter Try.func6, Try.ntmps6
  go_wp2_with (refine wpList_ld (ty := 28) (x := .tmp 3) rfl rfl rfl HL0.out ?_)
  refine H1.mono ?_
  rintro e w1 ⟨ao1, cap1, rfl, hr1, hl1, hb1⟩
  have hB1 := HB0.out.below hb1 HB0.out.lt
  obtain ⟨C1, hC1⟩ : ∃ C1, C1 = Cv c1 (.slice ao1 c1.data.length cap1) := ⟨_, rfl⟩
  rw [← hC1]
  have hone : C1.all (fun x => x.oneCell') = true := hC1 ▸ Cv_one c1 ao1 c1.data.length cap1
  have hs19 : C1.size = 19 := by rw [hC1]; rfl
  have HINFO : Hid ((Try.prog.info? 28).map (·.size) = some C1.size) := mkH (by rw [hs19]; exact infoC)
  have HSIZE : Hid (C.size = C1.size) := mkH (HCS.out.trans hs19.symm)
  have HONE := mkH hone
  have HB1 := mkH hB1
  have hb2 := Bx.row hB1 (cs := C1) HSIZE.out
  have hr2 : RowT (w1.setRow w.heap.size C1) ao1 c1.data := Wk.RowT.setRow hr1 (fun a ha => by have := hl1 a ha; have := HSZ.out; omega) C1
  have hg2 : Bl w (w1.setRow w.heap.size C1) := below_setRow (HG0.out.below.trans (hb1.mono (by rw [HSZ.out]; omega))) (Nat.le_refl _) C1
  have HB2 := mkH hb2
  have HR2 := mkH hr2
  have HG2 := mkH hg2
  clear H1 hr1 hl1 hb1 hB1 hone hs19 hb2 hr2 hg2 HG0 HB0 HL0 HSZ HCS
  have hld : ∀ W b, Bx W b C1 28 → (loadVar 28 ⟨b, 0, none⟩).run Try.prog W = .ok (.agg C1) W := fun W b h => by rw [hC1] at h ⊢; exact load_cm h
  have HL := mkH (fun W => hld W w.heap.size)
  have HCE := mkH hC1
  clear hC1 hld
  generalize hb3 : w.heap.size = b3 at *
  have HB3E := mkH hb3
  clear hb3
  by_cases hck : checkC c1 = 0
  rotate_left
  · have tck : ((checkC c1 : Int) == 0) = false := by simp; omega
    have tcs : ((checkC c1 : Int) == (checkC c1 : Int)) = true := by simp
    have HCK := mkH hck
    clear hck
    go_wp2_with (first | (refine wpList_st rfl (ty := 28) (x := .tmp 3) (y := .tmp 17) rfl rfl rfl HB1.out HINFO.out HSIZE.out HONE.out ?_) | (refine wpList_ld (ty := 28) (x := .tmp 3) rfl rfl rfl (HL.out _ HB2.out) ?_))
    generalize hW2 : w1.setRow b3 C1 = W2 at *
    clear hW2 HB1
    have H2 := cmd_bad W2 c1 ao1 cap1 HR2.out hlen HCK.out
    rw [← HCE.out] at H2
    refine H2.mono ?_
    rintro e w3 ⟨rfl, hb3⟩
    have HB3 := mkH (Bx.bl HB2.out hb3)
    have HR3 := mkH (HR2.out.below hb3)
    have HG3 := mkH (Bl.trans HG2.out hb3)
    clear H2 hb3 HB2 HR2 HG2
    have H3 := check_any w3 c1 ao1 cap1 HR3.out hlen
    rw [← HCE.out] at H3
    go_wp2_with (refine wpList_ldw (ty := 28) (x := .tmp 3) (by rfl) rfl rfl (HL.out _ HB3.out) ?_)
    refine H3.mono ?_
    rintro e w4 ⟨rfl, hg4⟩
    have HG4 := mkH (Bl.trans HG3.out hg4.below)
    clear H3 HB3 HR3 hg4
    go_wp2_with fail
    refine (works_any _).mono ?_
    rintro e w5 ⟨rfl, hb5⟩
    have HG5 := mkH (Bl.trans HG4.out hb5)
    clear hb5 HG4 HG3
    go_wp2
    go_ret
    exact ⟨rfl, HG5.out⟩
  have HCK := mkH hck
  have hle := enc_cm_len hck
  have hpos := enc_cm_pos c1
  obtain ⟨hw1, hw2, hw3⟩ := whole_fits (check := checkC) (fits_cm hck) hck
  have HW1 : Hid (readCm (encCm c1) = .ok c1) := mkH hw1
  have HW2 : Hid (∀ k, k < (encCm c1).length → readCm ((encCm c1).take k) = .error 4) := mkH hw2
  have HW3 : Hid (∀ t, readCm (encCm c1 ++ [t]) = .error 5) := mkH hw3
  clear hck hw1 hw2 hw3
  go_wp2_with (first | (refine wpList_st rfl (ty := 28) (x := .tmp 3) (y := .tmp 17) rfl rfl rfl HB1.out HINFO.out HSIZE.out HONE.out ?_) | (refine wpList_ld (ty := 28) (x := .tmp 3) rfl rfl rfl (HL.out _ HB2.out) ?_))
  generalize hW2 : w1.setRow b3 C1 = W2 at *
  clear hW2 HB1
  have H2 := cmd_ok W2 c1 ao1 cap1 HR2.out hlen HCK.out
  rw [← HCE.out] at H2
  refine H2.mono ?_
  rintro e w3 ⟨v3, rfl, hw3, hb3⟩
  obtain ⟨a3, cap3, rfl, hr3, hc3, hc63⟩ := Wt.row hw3
  generalize encCm c1 = E at *
  have HV3 := mkH hr3
  have HB3 := mkH (Bx.bl HB2.out hb3)
  have HR3 := mkH (HR2.out.below hb3)
  have HG3 := mkH (Bl.trans HG2.out hb3)
  clear H2 hw3 hr3 hb3 HB2 HR2 HG2
  have H3 := readCmd_any w3 a3 cap3 E HV3.out (by omega) hc3 hc63
  go_wp2_with fail
  refine H3.mono ?_
  rintro e w4 ⟨hb4, hc4⟩
  have HV4 := mkH (HV3.out.below hb4)
  have HB4 := mkH (Bx.bl HB3.out hb4)
  have HR4 := mkH (HR3.out.below hb4)
  have HG4 := mkH (Bl.trans HG3.out hb4)
  clear H3 hb4 HV3 HB3 HR3 HG3
  rcases hc4 with ⟨c4, ao4, cap4, hp4, rfl, hr4, -, hl4⟩ | ⟨er, hp4, her, rfl⟩
  rotate_left
  · rw [HW1.out] at hp4; cases hp4
  obtain rfl : c4 = c1 := by rw [HW1.out] at hp4; cases hp4; rfl
  have HR5 := mkH hr4
  have HONE4 := mkH (Cv_one c4 ao4 c4.data.length cap4)
  clear hp4 hr4
  go_wp2_with (first
    | (refine wpList_stn rfl rfl rfl rfl infoC rfl HONE4.out ?_; intro W5 hB5 hb5; have HB5 := mkH hB5; have HE5 := mkH hb5; have HC5 := mkH (Bx.bl HB4.out hb5); clear hB5 hb5)
    | (refine wpList_ldw (ty := 28) (x := .tmp 3) (by rfl) rfl rfl (HL.out _ HC5.out) ?_)
    | (refine wpList_ldw (ty := 28) (x := .tmp 9) (by rfl) rfl rfl (load_cm HB5.out) ?_))
  have HV5 := mkH (HV4.out.below HE5.out)
  have HG5 := mkH (Bl.trans HG4.out HE5.out)
  have HR6 := mkH (HR4.out.below HE5.out)
  have HR7 := mkH (HR5.out.below HE5.out)
  clear HV4 HG4 HR4 HR5 HE5
  have H5 := same_any W5 c4 c4 ao1 ao4 cap1 cap4 HR6.out HR7.out hlen hlen
  rw [← HCE.out, sameC_self] at H5
  refine H5.mono ?_
  rintro e W6 ⟨rfl, hg6⟩
  have HV6 := mkH (HV5.out.below hg6.below)
  have HG6 := mkH (Bl.trans HG5.out hg6.below)
  have HR8 := mkH (RowT.gr HR6.out hg6)
  have HR9 := mkH (RowT.gr HR7.out hg6)
  have HB6 := mkH (HB5.out.gr hg6)
  have HC6 := mkH (HC5.out.gr hg6)
  clear H5 hg6 HV5 HG5 HR6 HR7 HB5 HC5
  go_wp2_with (first
    | (refine wpList_ldw (ty := 28) (x := .tmp 3) (by rfl) rfl rfl (HL.out _ HC6.out) ?_)
    | (refine wpList_ldw (ty := 28) (x := .tmp 9) (by rfl) rfl rfl (load_cm HB6.out) ?_))
  have H6 := rsame_any W6 c4 c4 ao1 ao4 cap1 cap4 HR8.out HR9.out hlen hlen
  rw [← HCE.out, sameC_self] at H6
  refine H6.mono ?_
  rintro e W7 ⟨rfl, hg7⟩
  have HV7 := mkH (HV6.out.below hg7.below)
  have HG7 := mkH (Bl.trans HG6.out hg7.below)
  clear H6 hg7 HV6 HG6 HR8 HR9 HB6 HC6 HL HCE HB4
  obtain ⟨c1', c2', i, hil, hi⟩ := mod_name cut E.length hpos
  have t1 : (0 : Int) < (E.length : Int) := by omega
  have hli : (E.take i).length = i := by rw [List.length_take]; omega
  have H7 := readCmd_any W7 a3 cap3 (E.take i) (Fw.Row_take HV7.out i) (by omega) (by omega) hc63
  rw [hli] at H7
  have hii : (i : Int) < (E.length : Int) := by omega
  clear hli
  go_wp2_with fail
  refine H7.mono ?_
  rintro e W8 ⟨hb8, hc8⟩
  have HV8 := mkH (HV7.out.below hb8)
  have HG8 := mkH (Bl.trans HG7.out hb8)
  clear H7 hb8 HV7 HG7
  rcases hc8 with ⟨c8, ao8, cap8, hp8, -⟩ | ⟨er, hp8, -, rfl⟩
  · rw [HW2.out i hil] at hp8; cases hp8
  obtain rfl : er = 4 := by rw [HW2.out i hil] at hp8; cases hp8; rfl
  clear hp8
  have HZ1 := mkH Zc_one
  have HZI := mkH infoZ
  go_wp2_with (first
    | (refine wpList_stn (x := .tmp 12) rfl rfl rfl rfl HZI.out rfl HZ1.out ?_; intro W9 hB9 hb9; have HB9 := mkH hB9; have HV9 := mkH (HV8.out.below hb9); have HG9 := mkH (Bl.trans HG8.out hb9); clear hB9 hb9)
    | (at_builtin; refine wpList_append_own_src _ rfl (.tmp 74) (.tmp 75) 30 30 rfl W9.heap.size 5 (.int .u8 0) 1 1 Try.underlying30 info5 rfl (by decide) _ 0 [] rfl (World.ownsRow_made W9 #[] 0 (Nat.le_refl _) (Nat.zero_le _) rfl) _ E.length (U E) rfl (Row.src (P := Try.prog) Try.underlying30 (HV9.out.below ((Below.refl W9.heap.size W9).alloc (Nat.le_refl _) (.cells #[] 5))) cap3) (by unfold maxLen; omega) (by omega) (by simp) ?_; intro v10 W10 hown10 hgrow10; have HB10 := mkH (below_own (World.ownsRow_made (e := 5) (size := 1) W9 #[] 0 (Nat.le_refl _) (Nat.zero_le _) rfl) hgrow10 ((Below.refl W9.heap.size W9).alloc (Nat.le_refl _) (.cells #[] 5)) (by simp)); have hs10 := HB10.out.size; rw [List.nil_append, Nat.zero_add] at hown10; have HOW10 := mkH hown10; clear hown10 hgrow10)
    | (at_builtin; refine wpList_append_own_src _ rfl (.tmp 76) (.tmp 78) 30 30 rfl W9.heap.size 5 (.int .u8 0) 1 1 Try.underlying30 info5 rfl (by decide) _ E.length (U E) rfl (HOW10.out.alloc _) _ 1 (U [tb]) rfl (src_one Try.underlying30 _ _ _ rfl) (by unfold maxLen; omega) (by omega) (by simp; omega) ?_; intro v11 W11 hown11 hgrow11; have HOW11 := mkH hown11; have HGW11 := mkH hgrow11; clear hown11 hgrow11))
  have hb11 := below_own (HOW10.out.alloc _) HGW11.out (HB10.out.alloc hs10 _) (by simp; omega)
  have how := HOW11.out
  rw [← U_append] at how
  have hl11 : (E ++ [tb]).length = E.length + 1 := by simp
  rw [← hl11] at how
  obtain ⟨a11, cap11, rfl⟩ := own_form how
  obtain ⟨-, hc11, hr11⟩ := Row.own how
  have hc611 := own_cap how
  have HB11 := mkH (Bx.bl HB9.out hb11)
  have HG11 := mkH (Bl.trans HG9.out hb11)
  have H11 := readCmd_any W11 a11 cap11 (E ++ [tb]) hr11 (by omega) hc11 hc611
  clear hb11 how hr11 HOW10 HOW11 HGW11 HB10 hs10 HB9 HG9 HV9 HV8 HG8
  refine H11.mono ?_
  rintro e W12 ⟨hb12, hc12⟩
  have HB12 := mkH (Bx.bl HB11.out hb12)
  have HG12 := mkH (Bl.trans HG11.out hb12)
  clear H11 hb12 HB11 HG11
  rcases hc12 with ⟨c8, ao8, cap8, hp8, -⟩ | ⟨er, hp8, -, rfl⟩
  · rw [HW3.out tb] at hp8; cases hp8
  obtain rfl : er = 5 := by rw [HW3.out tb] at hp8; cases hp8; rfl
  clear hp8 HW1 HW2 HW3
  have HLZ : Hid (∀ W b, Bx W b Zc 28 → (loadVar 28 ⟨b, 0, none⟩).run Try.prog W = .ok (.agg Zc) W) := mkH (fun W b h => load_bx h Try.underlying28 rfl infoZ)
  go_wp2_with (first
    | (refine wpList_stn (x := .tmp 14) rfl rfl rfl rfl HZI.out rfl HZ1.out ?_; intro W13 hB13 hb13; have HD13 := mkH hB13; have HB13 := mkH (Bx.bl HB12.out hb13); have HG13 := mkH (Bl.trans HG12.out hb13); clear hB13 hb13)
    | (refine wpList_ldw (ty := 28) (x := .tmp 12) (by rfl) rfl rfl (HLZ.out _ _ HB13.out) ?_)
    | (refine wpList_ldw (ty := 28) (x := .tmp 14) (by rfl) rfl rfl (HLZ.out _ _ HD13.out) ?_))
  have HS : ∀ W, Calls Try.prog 17 #[.agg Zc, .agg Zc] W fun e w' => e = .returned (.bool true) ∧ Gr W w' := fun W => by
    have := same_any W Cm.none Cm.none none none 0 0 (fun h => by simp [Cm.none] at h) (fun h => by simp [Cm.none] at h) (by simp [Cm.none]) (by simp [Cm.none])
    rw [sameC_self] at this
    exact this
  refine (HS _).mono ?_
  rintro e W14 ⟨rfl, hg14⟩
  have HD14 := mkH (HD13.out.gr hg14)
  have HG14 := mkH (Bl.trans HG13.out hg14.below)
  clear hg14 HD13 HG13 HB13
  go_wp2_with (refine wpList_ldw (ty := 28) (x := .tmp 14) (by rfl) rfl rfl (HLZ.out _ _ HD14.out) ?_)
  refine (HS _).mono ?_
  rintro e W15 ⟨rfl, hg15⟩
  have HG15 := mkH (Bl.trans HG14.out hg15.below)
  clear hg15 HD14 HG14 HS
  go_wp2_with fail
  refine (works_any _).mono ?_
  rintro e W16 ⟨rfl, hb16⟩
  have HG16 := mkH (Bl.trans HG15.out hb16)
  clear hb16 HG15
  go_wp2
  go_ret
  exact ⟨rfl, HG16.out⟩
end Go.Proofs.Ytjboldahmndkeaa.Wbk
