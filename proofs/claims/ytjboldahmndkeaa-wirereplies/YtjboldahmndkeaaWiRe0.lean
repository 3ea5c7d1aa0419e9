/-
  The walk of WireReplies.
-/
import Derived.Test.YtjboldahmndkeaaWiFr
import Derived.Test.YtjboldahmndkeaaWiO
import Derived.Test.YtjboldahmndkeaaWiRR
namespace Go.Proofs.Ytjboldahmndkeaa.Wre
open Go.RowKit Kt Pl Wi Wk Ww Wx We Wf Wb Wa Wfw Wo Wfr
open Wy (wpList_ld)
open Wz (RV RV.bl RV.none)
open Wv (reply_ok reply_bad rp_len)
open Wrr (rreply_ok rreply_bad)
open At (RowT okT)
set_option linter.unusedVariables false
set_option linter.unusedSimpArgs false
set_option maxRecDepth 20000

theorem few_cnt (r : Rp) : Cnt (fewR r) := by
  refine ⟨?_, ?_, ?_⟩
  · simp only [fewR, List.length_map, List.length_take]; omega
  · have := dataC_len r.data; simp only [fewR]; omega
  · simp only [fewR, List.length_take]; omega
theorem Bl2 {a b c : World} (h : Below a.heap.size a b) (k : Below b.heap.size b c) : Below a.heap.size a c := h.trans (k.mono h.size)
theorem bx2 {w w' : World} {b : Nat} {cs : Array Value} {t : TypeId} (h : Bx w b cs t) (hg : Below w.heap.size w w') : Bx w' b cs t := h.below hg h.lt
theorem conv_any {W : World} {ao : Option Addr} {bs : Bs} (h : Row W ao bs) (cap : Nat) : (convert 30 9 (.slice ao bs.length cap)).run Try.prog W = .ok (.string (S bs)) W :=
  run_string (P := Try.prog) Try.underlying30 Try.underlying5 Try.underlying9 h cap

set_option maxHeartbeats 16000000 in
theorem wireReplies (w : World) (r : Rp) (ga : Option Addr) (gc : Nat) (da : Option Addr) (dc : Nat) (ra : Option Addr) (rc : Nat) (hin : RpIn w r ga gc da dc ra rc) :
    Calls Try.prog 4 #[.agg (Pv r ga gc da dc ra rc)] w fun e w' => e = .returned (.bool true) ∧ Below w.heap.size w w' := by
  have HG0 := mkH ((Gr.refl w).alloc (.cells (Pv r ga gc da dc ra rc) 43))
  have HB0 := mkH (Bx.new w (Pv r ga gc da dc ra rc) 43)
  have HL0 := mkH (load_pv HB0.out)
  have H1 := fewer_any (w.alloc (.cells (Pv r ga gc da dc ra rc) 43)) r ga gc da dc ra rc { hin with mem := hin.mem.gr HG0.out }
  have hsz0 : (w.alloc (.cells (Pv r ga gc da dc ra rc) 43)).heap.size = w.heap.size + 1 := by simp
  have HSZ := mkH hsz0
  have HCS : Hid ((Pv r ga gc da dc ra rc).size = 6) := mkH rfl
  clear hin hsz0
  generalize Pv r ga gc da dc ra rc = C at *
  have hcnt := few_cnt r
  generalize fewR r = r1 at *
  clear r
  go_enter Try.func4, Try.ntmps4
  go_wp2_with (refine wpList_ld (ty := 43) (x := .tmp 1) rfl rfl rfl HL0.out ?_)
  refine H1.mono ?_
  rintro e w1 ⟨g1, gc1, d1, dc1, a1, ac1, rfl, hm1, ⟨f1, f2, f3⟩, hb1⟩
  have hB1 := HB0.out.below hb1 HB0.out.lt
  obtain ⟨C1, hC1⟩ : ∃ C1, C1 = Pv r1 g1 gc1 d1 dc1 a1 ac1 := ⟨_, rfl⟩
  rw [← hC1]
  have hone : C1.all (fun x => x.oneCell') = true := hC1 ▸ Pv_one r1 g1 gc1 d1 dc1 a1 ac1
  have hs6 : C1.size = 6 := by rw [hC1]; rfl
  have HINFO : Hid ((Try.prog.info? 43).map (·.size) = some C1.size) := mkH (by rw [hs6]; exact infoP)
  have HSIZE : Hid (C.size = C1.size) := mkH (HCS.out.trans hs6.symm)
  have HONE := mkH hone
  have HB1 := mkH hB1
  have hb2 := Bx.row hB1 (cs := C1) HSIZE.out
  have hr2 : RpM (w1.setRow w.heap.size C1) r1 g1 d1 a1 := ⟨RowS.setRow hm1.got (fun a ha => by have := f1 a ha; have := HSZ.out; omega) C1, Wk.RowT.setRow hm1.data (fun a ha => by have := f2 a ha; have := HSZ.out; omega) C1, RowS.setRow hm1.about (fun a ha => by have := f3 a ha; have := HSZ.out; omega) C1⟩
  have hg2 : Below w.heap.size w (w1.setRow w.heap.size C1) := below_setRow (HG0.out.below.trans (hb1.mono (by rw [HSZ.out]; omega))) (Nat.le_refl _) C1
  have HB2 := mkH hb2
  have HR2 := mkH hr2
  have HG2 := mkH hg2
  clear H1 hm1 f1 f2 f3 hb1 hB1 hone hs6 hb2 hr2 hg2 HG0 HB0 HL0 HSZ HCS
  have hld : ∀ W b, Bx W b C1 43 → (loadVar 43 ⟨b, 0, none⟩).run Try.prog W = .ok (.agg C1) W := fun W b h => by rw [hC1] at h ⊢; exact load_pv h
  have HL := mkH (fun W => hld W w.heap.size)
  have HCE := mkH hC1
  clear hC1 hld
  generalize hb3 : w.heap.size = b3 at *
  have HB3E := mkH hb3
  clear hb3
  by_cases hck : checkR r1 = 0
  · have HCK := mkH hck
    clear hck
    go_wp2_with (first | (refine wpList_st rfl (ty := 43) (x := .tmp 1) (y := .tmp 8) rfl rfl rfl HB1.out HINFO.out HSIZE.out HONE.out ?_) | (refine wpList_ld (ty := 43) (x := .tmp 1) rfl rfl rfl (HL.out _ HB2.out) ?_))
    generalize hW2 : w1.setRow b3 C1 = W2 at *
    clear hW2 HB1
    have H2 := reply_ok W2 r1 g1 gc1 d1 dc1 a1 ac1 HR2.out hcnt HCK.out
    rw [← HCE.out] at H2
    refine H2.mono ?_
    rintro e w3 ⟨v3, rfl, hw3, hb3⟩
    obtain ⟨o3, cap3, rfl, hr3, -, -⟩ := Wt.row hw3
    have HV3 := mkH hr3
    have HB3 := mkH (bx2 HB2.out hb3)
    have HR3 := mkH (HR2.out.below hb3)
    have hlt2 := HB2.out.lt
    have HG3 := mkH (HG2.out.trans (hb3.mono (Nat.le_of_lt hlt2)))
    clear H2 hw3 hr3 hb3 HB2 HR2 HG2
    go_wp2_with (refine wpList_ld (ty := 43) (x := .tmp 1) rfl rfl rfl (HL.out _ HB3.out) ?_)
    have H3 := rreply_ok w3 r1 g1 gc1 d1 dc1 a1 ac1 HR3.out hcnt HCK.out
    rw [← HCE.out] at H3
    refine H3.mono ?_
    rintro e W4 ⟨v4, rfl, ⟨o4, cap4, rfl, hr4⟩, hb4⟩
    have hb4' : Below w3.heap.size w3 W4 := hb4
    have cv1 := conv_any (HV3.out.below hb4') cap3
    have cv2 := conv_any hr4 cap4
    have hlt3 := HB3.out.lt
    have HGL := mkH (HG3.out.trans (hb4'.mono (Nat.le_of_lt hlt3)))
    have HSL : Hid (b3 ≤ W4.heap.size) := mkH (by have := hb4'.size; omega)
    clear H3 hr4 hb4 hb4' HV3 HB3 HR3 HG3
    generalize encRp r1 = E at *
    go_wp2_with fail
    refine (works_any _).mono ?_
    rintro e w9 ⟨rfl, hb9⟩
    have HG9 := mkH (HGL.out.trans (hb9.mono HSL.out))
    clear hb9 HGL HSL
    go_wp2
    go_ret
    exact ⟨rfl, HB3E.out ▸ HG9.out⟩
  · have HCK := mkH hck
    clear hck
    go_wp2_with (first | (refine wpList_st rfl (ty := 43) (x := .tmp 1) (y := .tmp 8) rfl rfl rfl HB1.out HINFO.out HSIZE.out HONE.out ?_) | (refine wpList_ld (ty := 43) (x := .tmp 1) rfl rfl rfl (HL.out _ HB2.out) ?_))
    generalize hW2 : w1.setRow b3 C1 = W2 at *
    clear hW2 HB1
    have H2 := reply_bad W2 r1 g1 gc1 d1 dc1 a1 ac1 HR2.out hcnt HCK.out
    rw [← HCE.out] at H2
    refine H2.mono ?_
    rintro e w3 ⟨rfl, hb3⟩
    have HB3 := mkH (bx2 HB2.out hb3)
    have HR3 := mkH (HR2.out.below hb3)
    have hlt2 := HB2.out.lt
    have HG3 := mkH (HG2.out.trans (hb3.mono (Nat.le_of_lt hlt2)))
    clear H2 hb3 HB2 HR2 HG2
    go_wp2_with (refine wpList_ld (ty := 43) (x := .tmp 1) rfl rfl rfl (HL.out _ HB3.out) ?_)
    have H3 := rreply_bad w3 r1 g1 gc1 d1 dc1 a1 ac1 HR3.out hcnt HCK.out
    rw [← HCE.out] at H3
    refine H3.mono ?_
    rintro e W4 ⟨rfl, hb4⟩
    have hb4' : Below w3.heap.size w3 W4 := hb4
    have cv1 : (convert 30 9 (.slice none 0 0)).run Try.prog W4 = .ok (.string (S [])) W4 := conv_any (Row.nil _ _) 0
    have tj : ((checkR r1 : Int) == (checkR r1 : Int)) = true := by simp
    have hlt3 := HB3.out.lt
    have HGL := mkH (HG3.out.trans (hb4'.mono (Nat.le_of_lt hlt3)))
    have HSL : Hid (b3 ≤ W4.heap.size) := mkH (by have := hb4'.size; omega)
    clear H3 hb4 hb4' HB3 HR3 HG3 HCK
    generalize checkR r1 = j at *
    go_wp2_with fail
    refine (works_any _).mono ?_
    rintro e w9 ⟨rfl, hb9⟩
    have HG9 := mkH (HGL.out.trans (hb9.mono HSL.out))
    clear hb9 HGL HSL
    go_wp2
    go_ret
    exact ⟨rfl, HB3E.out ▸ HG9.out⟩
end Go.Proofs.Ytjboldahmndkeaa.Wre
