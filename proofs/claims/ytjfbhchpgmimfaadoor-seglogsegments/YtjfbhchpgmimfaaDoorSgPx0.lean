/-
  SeglogPrefix.
-/
import Derived.Test.YtjfbhchpgmimfaaDoorSgDr0
namespace Go.Proofs.YtjfbhchpgmimfaaDoor.Spx
open Go.RowKit Kt Cs Cf Cv Ck Ca Dk Dp Da Db Dc Dd De Sq Sr Sa Sb Sc Se Sf Sk Sm St Su Sv Pl Sx Sy Sdr
set_option linter.unusedVariables false
set_option maxRecDepth 20000

/-- What a crash and a restart leave. -/
theorem cr_is {N : Nat} {h : H} (hi : Inv N h) (hd : h.dn = none) (k f : Int) (hk : 0 ≤ k) :
    crE h k = 0 ∧ rsE (crH h k f) = 0 ∧ (all (es (rst (crH h k f)))).length ≤ (all (es h)).length ∧ all (es (rst (crH h k f))) = (all (es h)).take (all (es (rst (crH h k f)))).length ∧
      (0 < (all (es (rst (crH h k f)))).length → nb (rst (crH h k f)) = nb h) ∧ ns h - nb h ≤ (all (es (rst (crH h k f)))).length ∧ ns (rst (crH h k f)) = nn (rst (crH h k f)) := by
  have e0 : crH h k f = { h with dn := some (k, f) } := by simp [crH, hd, crs, show ¬ k < 0 by omega]
  have e1 : rst (crH h k f) = ⟨h.per, rs h.per (k, f) h.segs, top (rs h.per (k, f) h.segs), none⟩ := by rw [e0]; rfl
  obtain ⟨u1, u2, u3, u4⟩ := up_is hd
  obtain ⟨v1, v2, v3, v4⟩ := up_is (rst_up (crH h k f))
  obtain ⟨i1, i2, i3, i4, i5⟩ := rs_ok h.per (k, f) hi.ch hi.fits
  have i6 := rs_safe h.per h.safe (k, f) hi.ch hi.fits hi.kept hi.hi
  rw [v1, v2, v3, v4, u1, u2, u4, e1]
  refine ⟨by simp [crE, hd]; omega, by rw [e0]; simp [rsE], i5.length_le, (List.prefix_iff_eq_take.1 i5), fun h0 => i4 (fun x => by simp [x, all] at h0), i6, rfl⟩
theorem keep_is (x m : Int) (hm : 0 < m) (h9 : m ≤ 1000) : ∃ p : Nat, p < m ∧ (wrap64 (x.tmod m + m)).tmod m = (p : Int) := by
  have h1 := Int.tmod_lt_of_pos x hm
  have h2 : -m < x.tmod m := by
    have := Int.lt_tmod_of_pos x hm
    omega
  have h3 := Int.tmod_lt_of_pos (x.tmod m + m) hm
  have h4 := Int.tmod_nonneg m (show 0 ≤ x.tmod m + m by omega)
  have e1 : wrap64 (x.tmod m + m) = x.tmod m + m := by unfold wrap64; omega
  rw [e1]
  exact ⟨((x.tmod m + m).tmod m).toNat, by omega, by omega⟩
set_option maxHeartbeats 4000000 in
theorem prefix_any (w : World) (hT : Tb w) (per : Int) (ao : Option Addr) (cap : Nat) (l : List Ac) (t0 t1 : Int) (ht1 : t1 ≤ 9223372036854775807) (hr : RowA w ao l) (hl : l.length ≤ cap) (hc : cap ≤ 9223372036854775807) :
    Calls Tryd.prog 5 #[.int .i64 per, .slice ao l.length cap, .agg #[.int .i64 t0, .int .i64 t1]] w fun e w' => e = .returned (.bool true) ∧ Below w.heap.size w w' := by
  have hp := fun W (x : Below w.heap.size w W) => plays_any W (hT.below x hT.size) per ao cap l (hr.below x) hl hc
  have HT := mkH hT
  have HP := mkH hp
  clear hp hT hr
  go_enter Tryd.func5, Tryd.ntmps5
  go_wp2_with fail
  obtain ⟨b0, hb0⟩ : ∃ b, w.heap.size = b := ⟨_, rfl⟩
  obtain ⟨wa, hwa⟩ : ∃ wa, w.alloc (.cells #[.int .i64 t0, .int .i64 t1] 62) = wa := ⟨_, rfl⟩
  have hba : Below w.heap.size w wa := by rw [← hwa]; exact below_alloc _ _
  have hca : wa.heap[b0]? = some (.cells #[.int .i64 t0, .int .i64 t1] 62 (0, 0)) := by rw [← hwa, ← hb0]; exact heap_alloc_new _ _
  have hlta := block_lt hca
  rw [hwa, hb0]
  have HCA := mkH hca
  have HBA0 := mkH hba
  have HP2 := mkH (HP.out wa hba)
  clear hba hca hwa HP
  refine HP2.out.mono ?_
  rintro e w1 ⟨B, h, rfl, hd, hi, h1⟩
  have HD := mkH hd
  have HI := mkH hi
  have H1 := mkH h1
  clear hd hi h1 HP2
  go_wp2_with fail
  refine (all_ln H1.out HI.out (by omega)).mono ?_
  rintro e w2 ⟨aw, cw, lw, rfl, ho, hm, hb, h2⟩
  have H2 := mkH (H1.out.more hb)
  obtain ⟨G2, hG2⟩ : ∃ G : Nat → Prop, G = (fun k => k < wa.heap.size ∨ (w1.heap.size ≤ k ∧ k < w2.heap.size)) := ⟨_, rfl⟩
  rw [← hG2] at H2
  have HG2 := mkH hG2
  have HO := mkH ho
  have HM := mkH hm
  have HBw := h2.toBelow (fun k hk => hk)
  have c2 : w2.heap[b0]? = some (.cells #[.int .i64 t0, .int .i64 t1] 62 (0, 0)) := (HBw.block b0 hlta).trans HCA.out
  have k0 := cell_of_row _ _ 0 _ _ _ c2
  have k1 := cell_of_row _ _ 1 _ _ _ c2
  have hsa0 := HBA0.out.size
  have HB := mkH (HBA0.out.trans (HBw.mono hsa0))
  have hs2 := HB.out.size
  obtain ⟨kw, hkw⟩ : ∃ k, (all (es h)).length = k := ⟨_, rfl⟩
  have HKW := mkH hkw
  rw [hkw]
  obtain ⟨kp, hkp, hkpe⟩ := keep_is t0 60 (by omega) (by omega)
  obtain ⟨hcE, hrE, hcl, hct, hcb, hcs, hcn⟩ := cr_is HI.out HD.out kp t1 (by omega)
  obtain ⟨h', hh'⟩ : ∃ h', rst (crH h kp t1) = h' := ⟨_, rfl⟩
  rw [hh'] at hcl hct hcb hcs hcn
  have HI' : Hid (Inv 50 h') := by rw [← hh']; exact inv_rs (inv_cr HI.out kp t1)
  have HH' := mkH hh'
  obtain ⟨ba, hba⟩ : ∃ k, nb h = k := ⟨_, rfl⟩
  obtain ⟨sa, hsa⟩ : ∃ k, ns h = k := ⟨_, rfl⟩
  obtain ⟨ba', hba'⟩ : ∃ k, nb h' = k := ⟨_, rfl⟩
  obtain ⟨en', hen'⟩ : ∃ k, nn h' = k := ⟨_, rfl⟩
  obtain ⟨kn, hkn⟩ : ∃ k, (all (es h')).length = k := ⟨_, rfl⟩
  rw [hkn, hkw] at hcl
  rw [hkn] at hct hcb hcs
  rw [hba, hba'] at hcb
  rw [hba, hsa] at hcs
  rw [hen'] at hcn
  have hlo : ba ≤ sa ∧ sa ≤ 50 := by
    obtain ⟨-, u2, -, u4⟩ := up_is HD.out
    rw [← hba, ← hsa, u2, u4]
    exact ⟨HI.out.lo, Nat.le_trans HI.out.hi HI.out.top⟩
  have hk50 : kw ≤ 50 := by
    have := Inv.n50 HI.out
    rw [← (up_is HD.out).1, hkw] at this
    exact this
  have HBA := mkH hba
  have HSA := mkH hsa
  have HBA' := mkH hba'
  have HEN' := mkH hen'
  have HSA' := mkH hcn
  have HKN := mkH hkn
  have HCT := mkH hct
  have HCE := mkH hcE
  have HRE := mkH hrE
  have hcb2 : kn = 0 ∨ (0 < kn ∧ ba' = ba) := by
    by_cases x : kn = 0
    · exact .inl x
    · exact .inr ⟨by omega, hcb (by omega)⟩
  clear hba hsa hba' hen' hkn hcn hct hkw hh' hcE hrE hcb ho hm hb h2 hG2 H1 HBw c2 hsa0
  go_wp2_with fail
  refine (base_ln H2.out HI.out.p1).mono ?_
  rintro e w' ⟨rfl, hw⟩
  have hw2 := hw.symm
  subst hw2
  clear hw
  rw [HBA.out]
  go_wp2_with fail
  refine (safe_ln H2.out HI.out.p1).mono ?_
  rintro e w' ⟨rfl, hw⟩
  have hw2 := hw.symm
  subst hw2
  clear hw
  rw [HSA.out]
  go_wp2_with fail
  refine (crash_ln H2.out HI.out kp t1 ht1).mono ?_
  rintro e w3 ⟨rfl, h3⟩
  rw [HCE.out]
  have H3 := mkH h3
  clear h3
  go_wp2_with fail
  refine (restart_ln H3.out (inv_cr HI.out kp t1) (by omega)).mono ?_
  rintro e w4 ⟨rfl, h4⟩
  rw [HRE.out]
  rw [HH'.out] at h4
  have H4 := mkH h4
  have HOk := mkH (Ol.keep HO.out h4.fr (fun k k1 k2 x => x (by rw [HG2.out]; exact .inr ⟨k1, k2⟩)))
  have HB4 := mkH (HB.out.trans (h4.toBelow (fun k hk => by rw [HG2.out]; exact .inl (by omega))))
  have hs4 := HB4.out.size
  clear h4 H3 H2 HO
  go_wp2_with fail
  refine (all_ln H4.out HI'.out (by omega)).mono ?_
  rintro e w5 ⟨an, cn, ln, rfl, ho, hm, hb, h5⟩
  have H5 := mkH h5
  have hcap := Ol.cap HOk.out
  rw [HKW.out] at hcap
  have HB5 := mkH (HB4.out.trans (hb.mono hs4))
  have hs5 := HB5.out.size
  have hrw := Ol.rr (HOk.out.below hb)
  have hrn := Ol.rr ho
  rw [HM.out] at hrw
  rw [hm] at hrn
  have htk := Rr.take hrw kn
  rw [← HCT.out] at htk
  have hal : ∀ c', Calls Tryd.prog 16 #[.slice an kn cn, .slice aw kn c'] w5 fun e w' => e = .returned (.bool true) ∧ Below w5.heap.size w5 w' := fun c' => by
    have := alike_any w5 an aw cn c' _ hrn htk (by rw [HKN.out]; omega)
    rw [HKN.out] at this
    exact this
  have HAL := mkH hal
  rw [HKN.out]
  clear ho hm hb h5 H4 HOk hal hrw hrn htk HB4
  go_wp2_with fail
  refine (HAL.out _).mono ?_
  rintro e w6 ⟨rfl, hb6⟩
  have H6 := mkH (H5.out.below hb6)
  have HB6 := mkH (HB5.out.trans (hb6.mono hs5))
  have hs6 := HB6.out.size
  clear hb6 H5 HAL
  have hge : ((sa : Int) - (ba : Int)) ≤ (kn : Int) := by omega
  rcases hcb2 with hk0 | ⟨hk0, hbb⟩
  · subst hk0
    by_cases hw0 : kw = 0
    · subst hw0
      go_wp2_with fail
      refine (safe_ln H6.out HI'.out.p1).mono ?_
      rintro e w' ⟨rfl, hw⟩
      have hw2 := hw.symm
      subst hw2
      clear hw
      rw [HSA'.out]
      go_wp2_with fail
      refine (len_ln H6.out HI'.out.p1).mono ?_
      rintro e w' ⟨rfl, hw⟩
      have hw2 := hw.symm
      subst hw2
      clear hw
      rw [HEN'.out]
      go_wp2_with fail
      refine (Sw.works_any _ H6.out.tbw).mono ?_
      rintro e w7 ⟨rfl, hb7⟩
      have HB7 := mkH (HB6.out.trans (hb7.mono hs6))
      clear hb7
      go_wp2_with fail
      go_ret
      exact ⟨rfl, HB7.out⟩
    · have hw1 : 0 < kw := by omega
      go_wp2_with fail
      refine (safe_ln H6.out HI'.out.p1).mono ?_
      rintro e w' ⟨rfl, hw⟩
      have hw2 := hw.symm
      subst hw2
      clear hw
      rw [HSA'.out]
      go_wp2_with fail
      refine (len_ln H6.out HI'.out.p1).mono ?_
      rintro e w' ⟨rfl, hw⟩
      have hw2 := hw.symm
      subst hw2
      clear hw
      rw [HEN'.out]
      go_wp2_with fail
      refine (Sw.works_any _ H6.out.tbw).mono ?_
      rintro e w7 ⟨rfl, hb7⟩
      have HB7 := mkH (HB6.out.trans (hb7.mono hs6))
      clear hb7
      go_wp2_with fail
      go_ret
      exact ⟨rfl, HB7.out⟩
  · have hw1 : 0 < kw := by omega
    go_wp2_with fail
    refine (base_ln H6.out HI'.out.p1).mono ?_
    rintro e w' ⟨rfl, hw⟩
    have hw2 := hw.symm
    subst hw2
    clear hw
    rw [HBA'.out]
    go_wp2_with fail
    refine (safe_ln H6.out HI'.out.p1).mono ?_
    rintro e w' ⟨rfl, hw⟩
    have hw2 := hw.symm
    subst hw2
    clear hw
    rw [HSA'.out]
    go_wp2_with fail
    refine (len_ln H6.out HI'.out.p1).mono ?_
    rintro e w' ⟨rfl, hw⟩
    have hw2 := hw.symm
    subst hw2
    clear hw
    rw [HEN'.out]
    go_wp2_with fail
    refine (Sw.works_any _ H6.out.tbw).mono ?_
    rintro e w7 ⟨rfl, hb7⟩
    have HB7 := mkH (HB6.out.trans (hb7.mono hs6))
    clear hb7
    go_wp2_with fail
    go_ret
    exact ⟨rfl, HB7.out⟩
end Go.Proofs.YtjfbhchpgmimfaaDoor.Spx
