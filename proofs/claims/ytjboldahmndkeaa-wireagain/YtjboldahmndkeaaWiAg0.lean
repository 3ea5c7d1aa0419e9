/-
  The walk of WireAgain.
-/
import Derived.Test.YtjboldahmndkeaaWiFr
import Derived.Test.YtjboldahmndkeaaWiO
import Derived.Test.YtjboldahmndkeaaWiV2
import Derived.Test.YtjboldahmndkeaaWiUR
import Derived.Test.YtjboldahmndkeaaWiSr2
namespace Go.Proofs.Ytjboldahmndkeaa.Wag
open Go.RowKit Kt Pl Wi Wk Ww Wx We Wf Wb Wa Wfw Wo Wfr
open Wy (wpList_ld)
open Wv (reply_ok reply_bad rp_len)
open Wu2 (readRpd_any RdR Zc Zc_one infoZ)
open Wsr (rsameReply_self)
open At (RowT okT)
set_option linter.unusedVariables false
set_option linter.unusedSimpArgs false
set_option maxRecDepth 20000

theorem few_cnt (r : Rp) : Cnt (fewR r) := by
  refine ⟨?_, ?_, ?_⟩
  · simp only [fewR, List.length_map, List.length_take]; omega
  · have := dataC_len r.data; simp only [fewR]; omega
  · simp only [fewR, List.length_take]; omega
theorem Bl2 {a b c : World} (h : Below a.heap.size a b) (k : Below b.heap.size b c) : Below a.heap.size a c := h.trans (k.mono h.size)
theorem bx2 {w w' : World} {b : Nat} {cs : Array Value} {t : TypeId} (h : Bx w b cs t) (hg : Below w.heap.size w w') : Bx w' b cs t := h.below hg h.lt
theorem conv_any {W : World} {ao : Option Addr} {bs : Bs} (h : Row W ao bs) (cap : Nat) : (convert 30 9 (.slice ao bs.length cap)).run Try.prog W = .ok (.string (S bs)) W :=
  run_string (P := Try.prog) Try.underlying30 Try.underlying5 Try.underlying9 h cap
theorem enc_rp_pos (r : Rp) : 0 < (encRp r).length := by
  have := enc_len_pos r.err.toNat
  unfold encRp encN
  simp only [List.length_append]
  omega
theorem mod_name (cut : Int) (n : Nat) (h : 0 < n) : -(n : Int) < cut.tmod (n : Int) ∧ cut.tmod (n : Int) < (n : Int) ∧ ∃ i : Nat, i < n ∧ (cut.tmod (n : Int) + (n : Int)) % (n : Int) = (i : Int) := by
  have t1 : (0 : Int) < (n : Int) := by omega
  refine ⟨Int.lt_tmod_of_pos _ t1, Int.tmod_lt_of_pos _ t1, ((cut.tmod (n : Int) + (n : Int)) % (n : Int)).toNat, ?_, (Int.toNat_of_nonneg (Int.emod_nonneg _ (by omega))).symm⟩
  have := Int.emod_lt_of_pos (cut.tmod (n : Int) + (n : Int)) t1
  have := Int.emod_nonneg (cut.tmod (n : Int) + (n : Int)) (show (n : Int) ≠ 0 by omega)
  omega

set_option maxHeartbeats 16000000 in
theorem wireAgain (w : World) (r : Rp) (ga : Option Addr) (gc : Nat) (da : Option Addr) (dc : Nat) (ra : Option Addr) (rc : Nat) (hin : RpIn w r ga gc da dc ra rc) (cut : Int) :
    Calls Try.prog 7 #[.agg (Pv r ga gc da dc ra rc), .int .i64 cut] w fun e w' => e = .returned (.bool true) ∧ Below w.heap.size w w' := by
  have HG0 := mkH ((Gr.refl w).alloc (.cells (Pv r ga gc da dc ra rc) 43))
  have HB0 := mkH (Bx.new w (Pv r ga gc da dc ra rc) 43)
  have HL0 := mkH (load_pv HB0.out)
  have H1 := fewer_any (w.alloc (.cells (Pv r ga gc da dc ra rc) 43)) r ga gc da dc ra rc { hin with mem := hin.mem.gr HG0.out }
  have hsz0 : (w.alloc (.cells (Pv r ga gc da dc ra rc) 43)).heap.size = w.heap.size + 1 := by simp
  have HSZ := mkH hsz0
  have HCS : Hid ((Pv r ga gc da dc ra rc).size = 6) := mkH rfl
  clear hin hsz0
  generalize Pv r ga gc da dc ra rc = C at *
  have hcnt := few_cnt r
  generalize fewR r = r1 at *
  clear r
  go_enter Try.func7, Try.ntmps7
  go_wp2_with (refine wpList_ld (ty := 43) (x := .tmp 2) rfl rfl rfl HL0.out ?_)
  refine H1.mono ?_
  rintro e w1 ⟨g1, gc1, d1, dc1, a1, ac1, rfl, hm1, ⟨f1, f2, f3⟩, hb1⟩
  have hB1 := HB0.out.below hb1 HB0.out.lt
  obtain ⟨C1, hC1⟩ : ∃ C1, C1 = Pv r1 g1 gc1 d1 dc1 a1 ac1 := ⟨_, rfl⟩
  rw [← hC1]
  have hone : C1.all (fun x => x.oneCell') = true := hC1 ▸ Pv_one r1 g1 gc1 d1 dc1 a1 ac1
  have hs6 : C1.size = 6 := by rw [hC1]; rfl
  have HINFO : Hid ((Try.prog.info? 43).map (·.size) = some C1.size) := mkH (by rw [hs6]; exact infoP)
  have HSIZE : Hid (C.size = C1.size) := mkH (HCS.out.trans hs6.symm)
  have HONE := mkH hone
  have HB1 := mkH hB1
  have hb2 := Bx.row hB1 (cs := C1) HSIZE.out
  have hr2 : RpM (w1.setRow w.heap.size C1) r1 g1 d1 a1 := ⟨RowS.setRow hm1.got (fun a ha => by have := f1 a ha; have := HSZ.out; omega) C1, Wk.RowT.setRow hm1.data (fun a ha => by have := f2 a ha; have := HSZ.out; omega) C1, RowS.setRow hm1.about (fun a ha => by have := f3 a ha; have := HSZ.out; omega) C1⟩
  have hg2 : Below w.heap.size w (w1.setRow w.heap.size C1) := below_setRow (HG0.out.below.trans (hb1.mono (by rw [HSZ.out]; omega))) (Nat.le_refl _) C1
  have HB2 := mkH hb2
  have HR2 := mkH hr2
  have HG2 := mkH hg2
  clear H1 hm1 f1 f2 f3 hb1 hB1 hone hs6 hb2 hr2 hg2 HG0 HB0 HL0 HSZ HCS
  have hld : ∀ W b, Bx W b C1 43 → (loadVar 43 ⟨b, 0, none⟩).run Try.prog W = .ok (.agg C1) W := fun W b h => by rw [hC1] at h ⊢; exact load_pv h
  have HL := mkH (fun W => hld W w.heap.size)
  have HCE := mkH hC1
  clear hC1 hld
  generalize hb3 : w.heap.size = b3 at *
  have HB3E := mkH hb3
  clear hb3
  by_cases hck : checkR r1 = 0
  rotate_left
  · have tck : ((checkR r1 : Int) == 0) = false := by simp; omega
    have HCK := mkH hck
    clear hck
    go_wp2_with (first | (refine wpList_st rfl (ty := 43) (x := .tmp 2) (y := .tmp 13) rfl rfl rfl HB1.out HINFO.out HSIZE.out HONE.out ?_) | (refine wpList_ld (ty := 43) (x := .tmp 2) rfl rfl rfl (HL.out _ HB2.out) ?_))
    generalize hW2 : w1.setRow b3 C1 = W2 at *
    clear hW2 HB1
    have H2 := reply_bad W2 r1 g1 gc1 d1 dc1 a1 ac1 HR2.out hcnt HCK.out
    rw [← HCE.out] at H2
    refine H2.mono ?_
    rintro e w3 ⟨rfl, hb3⟩
    have hlt2 := HB2.out.lt
    have HGL := mkH (HG2.out.trans (hb3.mono (Nat.le_of_lt hlt2)))
    have HSL : Hid (b3 ≤ w3.heap.size) := mkH (by have := hb3.size; omega)
    clear H2 hb3 HB2 HR2 HG2 HCK
    generalize checkR r1 = j at *
    go_wp2_with fail
    refine (works_any _).mono ?_
    rintro e w9 ⟨rfl, hb9⟩
    have HG9 := mkH (HGL.out.trans (hb9.mono HSL.out))
    clear hb9 HGL HSL
    go_wp2
    go_ret
    exact ⟨rfl, HB3E.out ▸ HG9.out⟩
  · have HCK := mkH hck
    have hle := rp_len hck
    have hpos := enc_rp_pos r1
    obtain ⟨hw1, hw2, -⟩ := whole_fits (check := checkR) (fits_rp hck) hck
    have HW1 : Hid (readRp (encRp r1) = .ok r1) := mkH hw1
    have HW2 : Hid (∀ k, k < (encRp r1).length → readRp ((encRp r1).take k) = .error 4) := mkH hw2
    clear hck hw1 hw2
    go_wp2_with (first | (refine wpList_st rfl (ty := 43) (x := .tmp 2) (y := .tmp 13) rfl rfl rfl HB1.out HINFO.out HSIZE.out HONE.out ?_) | (refine wpList_ld (ty := 43) (x := .tmp 2) rfl rfl rfl (HL.out _ HB2.out) ?_))
    generalize hW2 : w1.setRow b3 C1 = W2 at *
    clear hW2 HB1
    have H2 := reply_ok W2 r1 g1 gc1 d1 dc1 a1 ac1 HR2.out hcnt HCK.out
    rw [← HCE.out] at H2
    refine H2.mono ?_
    rintro e w3 ⟨v3, rfl, hw3, hb3⟩
    obtain ⟨o3, cap3, rfl, hr3, hc3, hc63⟩ := Wt.row hw3
    generalize encRp r1 = E at *
    have HV3 := mkH hr3
    have HB3 := mkH (bx2 HB2.out hb3)
    have HR3 := mkH (HR2.out.below hb3)
    have hlt2 := HB2.out.lt
    have HG3 := mkH (HG2.out.trans (hb3.mono (Nat.le_of_lt hlt2)))
    have hlt3 := HB3.out.lt
    clear H2 hw3 hr3 hb3 HB2 HR2 HG2 hlt2
    have H3 := readRpd_any w3 o3 cap3 E HV3.out (by omega) hc3 hc63
    go_wp2_with fail
    refine H3.mono ?_
    rintro e w4 ⟨hb4, hc4⟩
    have HV4 := mkH (HV3.out.below hb4)
    have HB4 := mkH (bx2 HB3.out hb4)
    have HR4 := mkH (HR3.out.below hb4)
    have HG4 := mkH (HG3.out.trans (hb4.mono (Nat.le_of_lt hlt3)))
    have hlt4 := HB4.out.lt
    clear H3 hb4 HV3 HB3 HR3 HG3 hlt3
    rcases hc4 with ⟨c4, g4, gc4, d4, dc4, a4, ac4, hp4, rfl, hm4, -, -, -, -⟩ | ⟨er, hp4, her, rfl⟩
    rotate_left
    · rw [HW1.out] at hp4; cases hp4
    rw [HW1.out] at hp4
    injection hp4 with hp4
    subst hp4
    have HR5 := mkH hm4
    have HONE4 := mkH (Pv_one r1 g4 gc4 d4 dc4 a4 ac4)
    clear hm4
    go_wp2_with (first
      | (refine wpList_stn (x := .tmp 7) rfl rfl rfl rfl infoP rfl HONE4.out ?_; intro W5 hB5 hb5; have HB5 := mkH hB5; have HE5 := mkH hb5; have HC5 := mkH (bx2 HB4.out hb5.below); clear hB5 hb5)
      | (refine wpList_ldw (ty := 43) (x := .tmp 2) (by rfl) rfl rfl (HL.out _ HC5.out) ?_)
      | (refine wpList_ldw (ty := 43) (x := .tmp 7) (by rfl) rfl rfl (load_pv HB5.out) ?_))
    have HV5 := mkH (HV4.out.below HE5.out.below)
    have HG5 := mkH (HG4.out.trans (HE5.out.below.mono (Nat.le_of_lt hlt4)))
    have HR6 := mkH (HR4.out.gr HE5.out)
    have HR7 := mkH (HR5.out.gr HE5.out)
    have hlt5 : b3 ≤ W5.heap.size := by have := HE5.out.below.size; omega
    clear HV4 HG4 HR4 HR5 HE5 hlt4
    have H5 := rsameReply_self W5 r1 g1 gc1 d1 dc1 a1 ac1 g4 gc4 d4 dc4 a4 ac4 HR6.out HR7.out hcnt
    rw [← HCE.out] at H5
    refine H5.mono ?_
    rintro e W6 ⟨rfl, hg6⟩
    have HV6 := mkH (HV5.out.below hg6.below)
    have HG6 := mkH (HG5.out.trans (hg6.below.mono hlt5))
    have hlt6 : b3 ≤ W6.heap.size := by have := hg6.below.size; omega
    clear H5 hg6 HV5 HG5 HR6 HR7 HB5 HC5 HL HCE HB4 hlt5
    obtain ⟨c1', c2', i, hil, hi⟩ := mod_name cut E.length hpos
    have t1 : (0 : Int) < (E.length : Int) := by omega
    have hli : (E.take i).length = i := by rw [List.length_take]; omega
    have H7 := readRpd_any W6 o3 cap3 (E.take i) (Fw.Row_take HV6.out i) (by omega) (by omega) hc63
    rw [hli] at H7
    have hii : (i : Int) < (E.length : Int) := by omega
    clear hli
    go_wp2_with fail
    refine H7.mono ?_
    rintro e W8 ⟨hb8, hc8⟩
    have HG8 := mkH (HG6.out.trans (hb8.mono hlt6))
    have hlt8 : b3 ≤ W8.heap.size := by have := hb8.size; omega
    clear H7 hb8 HV6 HG6 hlt6
    rcases hc8 with ⟨c8, g8, gc8, d8, dc8, a8, ac8, hp8, -⟩ | ⟨er, hp8, -, rfl⟩
    · rw [HW2.out i hil] at hp8; cases hp8
    obtain rfl : er = 4 := by rw [HW2.out i hil] at hp8; cases hp8; rfl
    clear hp8 HW1 HW2
    have HZ1 := mkH Zc_one
    have HZI := mkH infoZ
    have HLZ : Hid (∀ W b, Bx W b Zc 43 → (loadVar 43 ⟨b, 0, none⟩).run Try.prog W = .ok (.agg Zc) W) := mkH (fun W b h => load_bx h Try.underlying43 rfl infoZ)
    go_wp2_with (first
      | (refine wpList_stn (x := .tmp 10) rfl rfl rfl rfl HZI.out rfl HZ1.out ?_; intro W9 hB9 hb9; have HB9 := mkH hB9; have HG9 := mkH (HG8.out.trans (hb9.below.mono hlt8)); have hlt9 : b3 ≤ W9.heap.size := (by have := hb9.below.size; omega); clear hB9 hb9)
      | (refine wpList_ldw (ty := 43) (x := .tmp 10) (by rfl) rfl rfl (HLZ.out _ _ HB9.out) ?_))
    have HS : ∀ W, Calls Try.prog 21 #[.agg Zc, .agg Zc] W fun e w' => e = .returned (.bool true) ∧ Gr W w' := fun W =>
      rsameReply_self W Rp.none none 0 none 0 none 0 none 0 none 0 none 0 ⟨RowS.nil _ _, RowT.nil _ _, RowS.nil _ _⟩ ⟨RowS.nil _ _, RowT.nil _ _, RowS.nil _ _⟩ (by simp [Cnt, Rp.none])
    refine (HS _).mono ?_
    rintro e W10 ⟨rfl, hg10⟩
    have HGL := mkH (HG9.out.trans (hg10.below.mono hlt9))
    have HSL : Hid (b3 ≤ W10.heap.size) := mkH (by have := hg10.below.size; omega)
    clear hg10 HG9 HB9 HS HG8 hlt8 hlt9
    go_wp2_with fail
    refine (works_any _).mono ?_
    rintro e w9 ⟨rfl, hb9⟩
    have HG9 := mkH (HGL.out.trans (hb9.mono HSL.out))
    clear hb9 HGL HSL
    go_wp2
    go_ret
    exact ⟨rfl, HB3E.out ▸ HG9.out⟩
end Go.Proofs.Ytjboldahmndkeaa.Wag
