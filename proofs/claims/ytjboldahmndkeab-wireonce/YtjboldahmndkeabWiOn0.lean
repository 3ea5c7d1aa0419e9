/-
  The walk of WireOnce.
-/
import Derived.Test.YtjboldahmndkeabWiUR
import Derived.Test.YtjboldahmndkeabWiV2
namespace Go.Proofs.Ytjboldahmndkeab.Won
open Go.RowKit Kt Pl Wi Wk Ww Wx We Wf Wy Wo Wu Wa Wq Wv
open Wu2 (readRpd_any RdR)
open At (RowT okT)
set_option linter.unusedVariables false
set_option linter.unusedSimpArgs false
set_option maxRecDepth 20000

/-- What the law asks of a command that was read. -/
theorem cm_same {bs : Bs} {c : Cm} (h : readCm bs = .ok c) : bs = encCm c ∧ checkC c = 0 := whole_once (fun _ _ _ h => cm_once h) h
theorem rp_same {bs : Bs} {r : Rp} (h : readRp bs = .ok r) : bs = encRp r ∧ checkR r = 0 := whole_once (fun _ _ _ h => rp_once h) h
theorem conv_any {W : World} {ao : Option Addr} {bs : Bs} (h : Row W ao bs) (cap : Nat) : (convert 22 9 (.slice ao bs.length cap)).run Try.prog W = .ok (.string (S bs)) W :=
  run_string (P := Try.prog) Try.underlying22 Try.underlying5 Try.underlying9 h cap

theorem Bl2 {a b c : World} (h : Below a.heap.size a b) (k : Below b.heap.size b c) : Below a.heap.size a c := h.trans (k.mono h.size)

set_option maxHeartbeats 16000000 in
/-- The walk, past the first cut. -/
theorem once_any (w : World) (ao : Option Addr) (cap : Nat) (bs bh : Bs) (hbh : bs.take 4000 = bh) (hr : Row w ao bs) (hcap : bs.length ≤ cap) (hc63 : cap ≤ 9223372036854775807) :
    Calls Try.prog 3 #[.slice ao bs.length cap] w fun e w' => e = .returned (.bool true) ∧ Below w.heap.size w w' := by
  have hl : bh.length ≤ 4000 := by rw [← hbh, List.length_take]; omega
  have hcc : bh.length ≤ cap := by have : bh.length ≤ bs.length := by rw [← hbh, List.length_take]; omega
                                   omega
  have HV : Hid (Row w ao bh) := mkH (hbh ▸ Fw.Row_take hr 4000)
  have hmn : (if (4000 : Int) < (bs.length : Int) then (4000 : Int) else (bs.length : Int)) = (bh.length : Int) := by rw [← hbh, List.length_take]; split <;> omega
  have hle : (bh.length : Int) ≤ (cap : Int) := by omega
  have hge : (0 : Int) ≤ (bh.length : Int) := by omega
  clear hbh hr
  have H1 := readCmd_any w ao cap bh HV.out (by omega) hcc hc63
  go_enter Try.func3, Try.ntmps3
  go_wp2_with fail
  refine H1.mono ?_
  rintro e W1 ⟨hb1, hc1⟩
  have HV1 := mkH (HV.out.below hb1)
  have HG1 : Hid (Below w.heap.size w W1) := mkH hb1
  clear H1 hb1 HV
  rcases hc1 with ⟨c1, ao1, cap1, hp1, rfl, hr1, -, hl1⟩ | ⟨er, hp1, her, rfl⟩
  rotate_left
  · have te : ((er : Int) == 0) = false := by simp; omega
    have HZ1 := mkH Wu.Zc_one
    have HZI := mkH Wu.infoZ
    clear her hp1
    go_wp2_with (refine wpList_stn (x := .tmp 3) (y := .tmp 19) rfl rfl rfl rfl HZI.out rfl HZ1.out ?_; intro WW hB2 hG2; have HVV := mkH (HV1.out.below hG2.below); have HGG := mkH (Bl2 HG1.out hG2.below); clear hB2 hG2)
    have H5 := readRpd_any WW ao cap bh HVV.out (by omega) hcc hc63
    go_wp2_with fail
    refine H5.mono ?_
    rintro e W5 ⟨hb5, hc5⟩
    have HV5 := mkH (HVV.out.below hb5)
    have HG5 := mkH (Bl2 HGG.out hb5)
    clear H5 hb5 HVV HGG
    rcases hc5 with ⟨r5, ga, gc, da, dc, ra, rc, hp5, rfl, hm5, -, -, -, hcn⟩ | ⟨er5, hp5, her5, rfl⟩
    rotate_left
    · have te5 : ((er5 : Int) == 0) = false := by simp; omega
      have HZ1 := mkH Wu2.Zc_one
      have HZI := mkH Wu2.infoZ
      clear her5 hp5
      go_wp2_with (refine wpList_stn (x := .tmp 7) (y := .tmp 45) rfl rfl rfl rfl HZI.out rfl HZ1.out ?_; intro W6 hB6 hG6; have HG6 := mkH (Bl2 HG5.out hG6.below); clear hB6 hG6)
      refine (works_any _).mono ?_
      rintro e W7 ⟨rfl, hb7⟩
      have HG7 := mkH (Bl2 HG6.out hb7)
      clear hb7 HG6
      go_wp2
      go_ret
      exact ⟨rfl, HG7.out⟩
    obtain ⟨hbs5, hck5⟩ := rp_same hp5
    have HBS5 := mkH hbs5
    have HCK5 := mkH hck5
    have HM5 := mkH hm5
    have HCN := mkH hcn
    have HP1 := mkH (Pv_one r5 ga gc da dc ra rc)
    have HPI : Hid ((Try.prog.info? 39).map (·.size) = some (Pv r5 ga gc da dc ra rc).size) := mkH infoP
    clear hp5 hbs5 hck5 hm5 hcn
    go_wp2_with (first
      | (refine wpList_stn (x := .tmp 7) (y := .tmp 45) rfl rfl rfl rfl HPI.out rfl HP1.out ?_; intro W6 hB6 hG6; have HB6 := mkH hB6; have HM6 := mkH (HM5.out.gr hG6); have HV6 := mkH (HV5.out.below hG6.below); have HG6 := mkH (Bl2 HG5.out hG6.below); clear hB6 hG6)
      | (refine wpList_ld (ty := 39) (x := .tmp 7) rfl rfl rfl (load_pv HB6.out) ?_))
    have H7 := reply_ok W6 r5 ga gc da dc ra rc HM6.out HCN.out HCK5.out
    refine H7.mono ?_
    rintro e W7 ⟨v7, rfl, hw7, hb7⟩
    rw [← HBS5.out] at hw7
    obtain ⟨a7, cap7, rfl, hr7, -, -⟩ := Wt.row hw7
    have HV7 := mkH (HV6.out.below hb7)
    have HG7 := mkH (Bl2 HG6.out hb7)
    have cv1 := conv_any hr7 cap7
    have cv2 := conv_any HV7.out cap
    clear H7 hw7 hb7 hr7 HV6 HG6 HM6 HB6 HM5 HV5 HG5
    go_wp2_with fail
    refine (works_any _).mono ?_
    rintro e W8 ⟨rfl, hb8⟩
    have HG8 := mkH (Bl2 HG7.out hb8)
    clear hb8 HG7 cv1 cv2
    go_wp2
    go_ret
    exact ⟨rfl, HG8.out⟩
  obtain ⟨hbs1, hck1⟩ := cm_same hp1
  have HBS1 := mkH hbs1
  have HCK1 := mkH hck1
  have HR1 := mkH hr1
  have HC1 := mkH (Wfw.Cv_one c1 ao1 c1.data.length cap1)
  have HCI : Hid ((Try.prog.info? 29).map (·.size) = some (Cv c1 (.slice ao1 c1.data.length cap1)).size) := mkH infoC
  have hl1' : c1.data.length ≤ 1000000 := by omega
  clear hp1 hbs1 hck1 hr1
  go_wp2_with (first
    | (refine wpList_stn (x := .tmp 3) (y := .tmp 19) rfl rfl rfl rfl HCI.out rfl HC1.out ?_; intro W2 hB2 hG2; have HB2 := mkH hB2; have HR2 := mkH (RowT.gr HR1.out hG2); have HV2 := mkH (HV1.out.below hG2.below); have HG2 := mkH (Bl2 HG1.out hG2.below); clear hB2 hG2)
    | (refine wpList_ld (ty := 29) (x := .tmp 3) rfl rfl rfl (load_cm HB2.out) ?_))
  have H3 := cmd_ok W2 c1 ao1 cap1 HR2.out hl1' HCK1.out
  refine H3.mono ?_
  rintro e W3 ⟨v3, rfl, hw3, hb3⟩
  rw [← HBS1.out] at hw3
  obtain ⟨a3, cap3, rfl, hr3, -, -⟩ := Wt.row hw3
  have HV3 := mkH (HV2.out.below hb3)
  have HG3 := mkH (Bl2 HG2.out hb3)
  have HB3 := mkH (HB2.out.below hb3 HB2.out.lt)
  have HR3 := mkH (HR2.out.below hb3)
  have cv1 := conv_any hr3 cap3
  have cv2 := conv_any HV3.out cap
  clear H3 hw3 hb3 hr3 HV2 HG2 HB2 HR2 HR1 HV1 HG1
  have H4 := check_any W3 c1 ao1 cap1 HR3.out hl1'
  rw [HCK1.out] at H4
  go_wp2_with (refine wpList_ldw (ty := 29) (x := .tmp 3) (by rfl) rfl rfl (load_cm HB3.out) ?_)
  refine H4.mono ?_
  rintro e WW ⟨rfl, hg4⟩
  have HVV := mkH (HV3.out.below hg4.below)
  have HGG := mkH (Bl2 HG3.out hg4.below)
  clear H4 hg4 cv1 cv2 HV3 HG3 HB3 HR3 HCK1 HBS1
  have H5 := readRpd_any WW ao cap bh HVV.out (by omega) hcc hc63
  go_wp2_with fail
  refine H5.mono ?_
  rintro e W5 ⟨hb5, hc5⟩
  have HV5 := mkH (HVV.out.below hb5)
  have HG5 := mkH (Bl2 HGG.out hb5)
  clear H5 hb5 HVV HGG
  rcases hc5 with ⟨r5, ga, gc, da, dc, ra, rc, hp5, rfl, hm5, -, -, -, hcn⟩ | ⟨er5, hp5, her5, rfl⟩
  rotate_left
  · have te5 : ((er5 : Int) == 0) = false := by simp; omega
    have HZ1 := mkH Wu2.Zc_one
    have HZI := mkH Wu2.infoZ
    clear her5 hp5
    go_wp2_with (refine wpList_stn (x := .tmp 7) (y := .tmp 45) rfl rfl rfl rfl HZI.out rfl HZ1.out ?_; intro W6 hB6 hG6; have HG6 := mkH (Bl2 HG5.out hG6.below); clear hB6 hG6)
    refine (works_any _).mono ?_
    rintro e W7 ⟨rfl, hb7⟩
    have HG7 := mkH (Bl2 HG6.out hb7)
    clear hb7 HG6
    go_wp2
    go_ret
    exact ⟨rfl, HG7.out⟩
  obtain ⟨hbs5, hck5⟩ := rp_same hp5
  have HBS5 := mkH hbs5
  have HCK5 := mkH hck5
  have HM5 := mkH hm5
  have HCN := mkH hcn
  have HP1 := mkH (Pv_one r5 ga gc da dc ra rc)
  have HPI : Hid ((Try.prog.info? 39).map (·.size) = some (Pv r5 ga gc da dc ra rc).size) := mkH infoP
  clear hp5 hbs5 hck5 hm5 hcn
  go_wp2_with (first
    | (refine wpList_stn (x := .tmp 7) (y := .tmp 45) rfl rfl rfl rfl HPI.out rfl HP1.out ?_; intro W6 hB6 hG6; have HB6 := mkH hB6; have HM6 := mkH (HM5.out.gr hG6); have HV6 := mkH (HV5.out.below hG6.below); have HG6 := mkH (Bl2 HG5.out hG6.below); clear hB6 hG6)
    | (refine wpList_ld (ty := 39) (x := .tmp 7) rfl rfl rfl (load_pv HB6.out) ?_))
  have H7 := reply_ok W6 r5 ga gc da dc ra rc HM6.out HCN.out HCK5.out
  refine H7.mono ?_
  rintro e W7 ⟨v7, rfl, hw7, hb7⟩
  rw [← HBS5.out] at hw7
  obtain ⟨a7, cap7, rfl, hr7, -, -⟩ := Wt.row hw7
  have HV7 := mkH (HV6.out.below hb7)
  have HG7 := mkH (Bl2 HG6.out hb7)
  have cv1 := conv_any hr7 cap7
  have cv2 := conv_any HV7.out cap
  clear H7 hw7 hb7 hr7 HV6 HG6 HM6 HB6 HM5 HV5 HG5
  go_wp2_with fail
  refine (works_any _).mono ?_
  rintro e W8 ⟨rfl, hb8⟩
  have HG8 := mkH (Bl2 HG7.out hb8)
  clear hb8 HG7 cv1 cv2
  go_wp2
  go_ret
  exact ⟨rfl, HG8.out⟩
end Go.Proofs.Ytjboldahmndkeab.Won
