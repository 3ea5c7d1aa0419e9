/-
  SeglogDrops.
-/
import Derived.Test.YtjfbhchpgmimfaaDoorSgY
namespace Go.Proofs.YtjfbhchpgmimfaaDoor.Sdr
open Go.RowKit Kt Cs Cf Cv Ck Ca Dk Dp Da Db Dc Dd De Sq Sr Sa Sb Sc Se Sf Sk Sm St Su Sv Pl Sx Sy
set_option linter.unusedVariables false
set_option maxRecDepth 20000

theorem up_is {h : H} (hd : h.dn = none) : es h = h.segs ∧ nb h = bas h.segs ∧ nn h = top h.segs ∧ ns h = h.safe := by simp [es, nb, nn, ns, hd]
/-- What Drop leaves. -/
theorem dr_is {N : Nat} {h : H} (hi : Inv N h) (hd : h.dn = none) (n : Int) :
    (drH h n).dn = none ∧ drE h n = (if n ≤ (ns h : Int) then 0 else 2) ∧ nn (drH h n) = nn h ∧ nb h ≤ nb (drH h n) ∧ ((nb (drH h n) : Int) ≤ n ∨ nb (drH h n) = nb h) ∧
      (all (es (drH h n))).length ≤ (all (es h)).length ∧ all (es (drH h n)) = (all (es h)).drop ((all (es h)).length - (all (es (drH h n))).length) ∧ ((ns h : Int) < n → all (es (drH h n)) = all (es h)) := by
  have e0 : drH h n = dro h n := by simp [drH, hd]
  have e1 : (dro h n).dn = none := by unfold dro; split <;> exact hd
  obtain ⟨u1, u2, u3, u4⟩ := up_is hd
  obtain ⟨v1, v2, v3, v4⟩ := up_is e1
  rw [e0, u1, u2, u3, u4, v1, v2, v3]
  have e2 : drE h n = if n ≤ (h.safe : Int) then 0 else 2 := by
    unfold drE; rw [hd]
    by_cases x : (h.safe : Int) < n
    · simp [x]
    · simp [x, show n ≤ (h.safe : Int) by omega]
  refine ⟨e1, e2, ?_⟩
  by_cases x : (h.safe : Int) < n
  · have e4 : dro h n = h := by unfold dro; rw [if_pos x]
    rw [e4]
    exact ⟨rfl, Nat.le_refl _, .inr rfl, Nat.le_refl _, by simp, fun _ => rfl⟩
  · have e4 : (dro h n).segs = h.segs.drop (gone h n) := by unfold dro; rw [if_neg x]
    rw [e4]
    have ha : all h.segs = all (h.segs.take (gone h n)) ++ all (h.segs.drop (gone h n)) := by rw [← all_app, List.take_append_drop]
    have hlen := congrArg List.length ha
    rw [List.length_append] at hlen
    have hdr : all (h.segs.drop (gone h n)) = (all h.segs).drop ((all h.segs).length - (all (h.segs.drop (gone h n))).length) := by
      rw [hlen, Nat.add_sub_cancel]
      conv => rhs; rw [ha]
      rw [List.drop_left]
    rcases gone_lt hi (n := n) (by omega) with g | ⟨g1, g2⟩
    · rw [g]
      exact ⟨rfl, Nat.le_refl _, .inr rfl, Nat.le_refl _, by simp, fun y => absurd y x⟩
    · rw [top_drop g1, bas_drop hi.ch g1]
      exact ⟨rfl, by omega, .inl g2, by omega, hdr, fun y => absurd y x⟩
theorem Ol.keep {lo : Nat} {W W' : World} {v : Value} {l : List Bx} {Q : Nat → Prop} (h : Ol lo W v l) (hf : Fr Q W W') (hq : ∀ k, lo ≤ k → k < W.heap.size → ¬ Q k) : Ol lo W' v l :=
  ⟨own_keeps h.own (fun g hg => hf.heap (own_blk h.own hg).1 (hq g (own_blk h.own hg).2 (own_blk h.own hg).1)),
   fun x hx => ⟨row_fr (h.ok x hx).1 hf (fun h0 b off e => hq b ((h.ok x hx).2 b off e h0).1 (bok_lt (h.ok x hx).1 b off e h0)), (h.ok x hx).2⟩⟩
theorem Rr.low {w : World} {ao : Option Addr} {l : List (List UInt8)} (h : Rr w ao l) (k : Nat) : Rr w (ao.map (fun x => x.add k)) (l.drop k) := fun h0 => by
  rw [List.length_drop] at h0
  obtain ⟨b, off, e, hc⟩ := h (by omega)
  subst e
  refine ⟨b, off + k, by simp [Addr.add], fun i bs hi => ?_⟩
  rw [Nat.add_assoc]
  exact hc (k + i) bs (by rw [List.getElem?_drop] at hi; exact hi)
theorem Ol.cap {lo : Nat} {w : World} {a : Option Addr} {n c : Nat} {l : List Bx} (h : Ol lo w (.slice a n c) l) : n ≤ c := by
  have h1 := h.own
  rcases h1.2 with ⟨e, x⟩ | ⟨g, c', cur, e, e2, e3, e4, e5⟩
  · simp only [Value.slice.injEq] at e; omega
  · simp only [Value.slice.injEq] at e; omega
theorem Inv.n50 {h : H} (hi : Inv 50 h) : (all h.segs).length ≤ 50 := by have := top_all0 hi.ch; have := hi.top; omega
set_option maxHeartbeats 4000000 in
theorem drops_any (w : World) (hT : Tb w) (per : Int) (ao : Option Addr) (cap : Nat) (l : List Ac) (n : Int) (hr : RowA w ao l) (hl : l.length ≤ cap) (hc : cap ≤ 9223372036854775807) :
    Calls Tryd.prog 7 #[.int .i64 per, .slice ao l.length cap, .int .i64 n] w fun e w' => e = .returned (.bool true) ∧ Below w.heap.size w w' := by
  have hp := plays_any w hT per ao cap l hr hl hc
  have HT := mkH hT
  have HP := mkH hp
  clear hp hT hr
  go_enter Tryd.func7, Tryd.ntmps7
  go_wp2_with fail
  refine HP.out.mono ?_
  rintro e w1 ⟨B, h, rfl, hd, hi, h1⟩
  have HD := mkH hd
  have HI := mkH hi
  have H1 := mkH h1
  clear hd hi h1 HP
  go_wp2_with fail
  refine (all_ln H1.out HI.out (by omega)).mono ?_
  rintro e w2 ⟨aw, cw, lw, rfl, ho, hm, hb, h2⟩
  have H2 := mkH (H1.out.more hb)
  obtain ⟨G2, hG2⟩ : ∃ G : Nat → Prop, G = (fun k => k < w.heap.size ∨ (w1.heap.size ≤ k ∧ k < w2.heap.size)) := ⟨_, rfl⟩
  rw [← hG2] at H2
  have HG2 := mkH hG2
  have HO := mkH ho
  have HM := mkH hm
  have HB := mkH (h2.toBelow (fun k hk => hk))
  obtain ⟨kw, hkw⟩ : ∃ k, (all (es h)).length = k := ⟨_, rfl⟩
  have HKW := mkH hkw
  have HO := mkH ho
  rw [hkw]
  clear ho hm hb h2 hkw hG2 H1
  obtain ⟨hdn, hde, hdn2, hdb, hdb2, hdl, hdd, hdx⟩ := dr_is HI.out HD.out n
  have HDD := mkH hdd
  have HDX := mkH hdx
  obtain ⟨ba, hba⟩ : ∃ k, nb h = k := ⟨_, rfl⟩
  obtain ⟨sa, hsa⟩ : ∃ k, ns h = k := ⟨_, rfl⟩
  obtain ⟨en, hen⟩ : ∃ k, nn h = k := ⟨_, rfl⟩
  obtain ⟨ba', hba'⟩ : ∃ k, nb (drH h n) = k := ⟨_, rfl⟩
  obtain ⟨kn, hkn⟩ : ∃ k, (all (es (drH h n))).length = k := ⟨_, rfl⟩
  rw [hsa] at hde
  rw [hen] at hdn2
  rw [hba, hba'] at hdb hdb2
  rw [hkn, HKW.out] at hdl
  have HEN := mkH hen
  have HBA := mkH hba
  have HSA := mkH hsa
  have HEN' := mkH hdn2
  have HBA' := mkH hba'
  have HKN := mkH hkn
  have HDN := mkH hdn
  have hk50 : kw ≤ 50 := by
    have := Inv.n50 HI.out
    rw [← (up_is HD.out).1, HKW.out] at this
    exact this
  clear hdd hdx hba hsa hen hba' hkn hdn hdn2
  go_wp2_with fail
  refine (base_ln H2.out HI.out.p1).mono ?_
  rintro e w' ⟨rfl, rfl⟩
  rw [HBA.out]
  go_wp2_with fail
  refine (safe_ln H2.out HI.out.p1).mono ?_
  rintro e w' ⟨rfl, rfl⟩
  rw [HSA.out]
  go_wp2_with fail
  refine (len_ln H2.out HI.out.p1).mono ?_
  rintro e w' ⟨rfl, rfl⟩
  rw [HEN.out]
  go_wp2_with fail
  refine (drop_ln H2.out HI.out (by omega) n).mono ?_
  rintro e w3 ⟨rfl, h3⟩
  by_cases hns : n ≤ (sa : Int)
  · rw [if_pos hns] at hde
    rw [hde]
    clear hde
    have H3 := mkH h3
    have HOk := mkH (Ol.keep HO.out h3.fr (fun k k1 k2 x => x (by rw [HG2.out]; exact .inr ⟨k1, k2⟩)))
    have HB3 := mkH (HB.out.trans (h3.toBelow (fun k hk => by rw [HG2.out]; exact .inl hk)))
    clear h3 H2 HO
    go_wp2_with fail
    refine (all_ln H3.out (inv_dr HI.out n) (by omega)).mono ?_
    rintro e w4 ⟨an, cn, ln, rfl, ho, hm, hb, h4⟩
    have H4 := mkH h4
    have hcap := Ol.cap HOk.out
    rw [HKW.out] at hcap
    have hs3 := HB3.out.size
    have HB4 := mkH (HB3.out.trans (hb.mono hs3))
    have hs4 := HB4.out.size
    have hrw := Ol.rr (HOk.out.below hb)
    have hrn := Ol.rr ho
    rw [HM.out] at hrw
    rw [hm] at hrn
    have hlow := Rr.low hrw ((all (es h)).length - (all (es (drH h n))).length)
    rw [← HDD.out, HKN.out, HKW.out] at hlow
    have hal : ∀ a' k' c', k' = kn → Rr w4 a' (all (es (drH h n))) → Calls Tryd.prog 16 #[.slice an kn cn, .slice a' k' c'] w4 fun e w' => e = .returned (.bool true) ∧ Below w4.heap.size w4 w' := fun a' k' c' e x => by
      have := alike_any w4 an a' cn c' _ hrn x (by rw [HKN.out]; omega)
      rw [HKN.out] at this
      rw [e]
      exact this
    have HAL := mkH hal
    have HLOW := mkH hlow
    have hnil : cw = kw - kn → Rr w4 aw (all (es (drH h n))) := fun x y => by rw [HKN.out] at y; omega
    have HNIL := mkH hnil
    have HRW := mkH hrw
    rw [HKN.out]
    clear ho hm hb h4 H3 HOk hal hlow hrw hrn HB3 hnil
    go_wp2_with fail
    refine (len_ln H4.out (inv_dr HI.out n).p1).mono ?_
    rintro e w' ⟨rfl, hw⟩
    have hw2 := hw.symm
    subst hw2
    clear hw
    rw [HEN'.out]
    go_wp2_with fail
    refine (base_ln H4.out (inv_dr HI.out n).p1).mono ?_
    rintro e w' ⟨rfl, hw⟩
    have hw2 := hw.symm
    subst hw2
    clear hw
    rw [HBA'.out]
    by_cases hcw : cw = kw - kn
    · have hn := HNIL.out hcw
      go_wp2_with fail
      refine (HAL.out _ _ _ (by omega) (HNIL.out (by omega))).mono ?_
      rintro e w5 ⟨rfl, hb5⟩
      have H5 := mkH (H4.out.below hb5)
      have HB5 := mkH (HB4.out.trans (hb5.mono hs4))
      have hs5 := HB5.out.size
      clear hb5 H4 HAL HLOW HNIL HRW
      by_cases hbn : (ba' : Int) ≤ n
      · go_wp2_with fail
        refine (base_ln H5.out (inv_dr HI.out n).p1).mono ?_
        rintro e w' ⟨rfl, hw⟩
        have hw2 := hw.symm
        subst hw2
        clear hw
        rw [HBA'.out]
        go_wp2_with fail
        refine (Sw.works_any _ H5.out.tbw).mono ?_
        rintro e w6 ⟨rfl, hb6⟩
        have HB6 := mkH (HB5.out.trans (hb6.mono hs5))
        clear hb6
        go_wp2_with fail
        go_ret
        exact ⟨rfl, HB6.out⟩
      · have hbb : ba' = ba := by omega
        go_wp2_with fail
        refine (base_ln H5.out (inv_dr HI.out n).p1).mono ?_
        rintro e w' ⟨rfl, hw⟩
        have hw2 := hw.symm
        subst hw2
        clear hw
        rw [HBA'.out]
        go_wp2_with fail
        refine (base_ln H5.out (inv_dr HI.out n).p1).mono ?_
        rintro e w' ⟨rfl, hw⟩
        have hw2 := hw.symm
        subst hw2
        clear hw
        rw [HBA'.out]
        go_wp2_with fail
        refine (Sw.works_any _ H5.out.tbw).mono ?_
        rintro e w6 ⟨rfl, hb6⟩
        have HB6 := mkH (HB5.out.trans (hb6.mono hs5))
        clear hb6
        go_wp2_with fail
        go_ret
        exact ⟨rfl, HB6.out⟩
    · go_wp2_with fail
      refine (HAL.out _ _ _ (by omega) HLOW.out).mono ?_
      rintro e w5 ⟨rfl, hb5⟩
      have H5 := mkH (H4.out.below hb5)
      have HB5 := mkH (HB4.out.trans (hb5.mono hs4))
      have hs5 := HB5.out.size
      clear hb5 H4 HAL HLOW HNIL HRW
      by_cases hbn : (ba' : Int) ≤ n
      · go_wp2_with fail
        refine (base_ln H5.out (inv_dr HI.out n).p1).mono ?_
        rintro e w' ⟨rfl, hw⟩
        have hw2 := hw.symm
        subst hw2
        clear hw
        rw [HBA'.out]
        go_wp2_with fail
        refine (Sw.works_any _ H5.out.tbw).mono ?_
        rintro e w6 ⟨rfl, hb6⟩
        have HB6 := mkH (HB5.out.trans (hb6.mono hs5))
        clear hb6
        go_wp2_with fail
        go_ret
        exact ⟨rfl, HB6.out⟩
      · have hbb : ba' = ba := by omega
        go_wp2_with fail
        refine (base_ln H5.out (inv_dr HI.out n).p1).mono ?_
        rintro e w' ⟨rfl, hw⟩
        have hw2 := hw.symm
        subst hw2
        clear hw
        rw [HBA'.out]
        go_wp2_with fail
        refine (base_ln H5.out (inv_dr HI.out n).p1).mono ?_
        rintro e w' ⟨rfl, hw⟩
        have hw2 := hw.symm
        subst hw2
        clear hw
        rw [HBA'.out]
        go_wp2_with fail
        refine (Sw.works_any _ H5.out.tbw).mono ?_
        rintro e w6 ⟨rfl, hb6⟩
        have HB6 := mkH (HB5.out.trans (hb6.mono hs5))
        clear hb6
        go_wp2_with fail
        go_ret
        exact ⟨rfl, HB6.out⟩
  · rw [if_neg hns] at hde
    rw [hde]
    have hkk : kn = kw := by rw [← HKN.out, ← HKW.out, HDX.out (by rw [HSA.out]; omega)]
    have hns2 : (sa : Int) < n := by omega
    clear hde
    have H3 := mkH h3
    have HOk := mkH (Ol.keep HO.out h3.fr (fun k k1 k2 x => x (by rw [HG2.out]; exact .inr ⟨k1, k2⟩)))
    have HB3 := mkH (HB.out.trans (h3.toBelow (fun k hk => by rw [HG2.out]; exact .inl hk)))
    clear h3 H2 HO
    go_wp2_with fail
    refine (all_ln H3.out (inv_dr HI.out n) (by omega)).mono ?_
    rintro e w4 ⟨an, cn, ln, rfl, ho, hm, hb, h4⟩
    have H4 := mkH h4
    have hcap := Ol.cap HOk.out
    rw [HKW.out] at hcap
    have hs3 := HB3.out.size
    have HB4 := mkH (HB3.out.trans (hb.mono hs3))
    have hs4 := HB4.out.size
    have hrw := Ol.rr (HOk.out.below hb)
    have hrn := Ol.rr ho
    rw [HM.out] at hrw
    rw [hm] at hrn
    have hlow := Rr.low hrw ((all (es h)).length - (all (es (drH h n))).length)
    rw [← HDD.out, HKN.out, HKW.out] at hlow
    have hal : ∀ a' k' c', k' = kn → Rr w4 a' (all (es (drH h n))) → Calls Tryd.prog 16 #[.slice an kn cn, .slice a' k' c'] w4 fun e w' => e = .returned (.bool true) ∧ Below w4.heap.size w4 w' := fun a' k' c' e x => by
      have := alike_any w4 an a' cn c' _ hrn x (by rw [HKN.out]; omega)
      rw [HKN.out] at this
      rw [e]
      exact this
    have HAL := mkH hal
    have HLOW := mkH hlow
    have hnil : cw = kw - kn → Rr w4 aw (all (es (drH h n))) := fun x y => by rw [HKN.out] at y; omega
    have HNIL := mkH hnil
    have HRW := mkH hrw
    rw [HKN.out]
    clear ho hm hb h4 H3 HOk hal hlow hrw hrn HB3 hnil
    go_wp2_with fail
    refine (len_ln H4.out (inv_dr HI.out n).p1).mono ?_
    rintro e w' ⟨rfl, hw⟩
    have hw2 := hw.symm
    subst hw2
    clear hw
    rw [HEN'.out]
    go_wp2_with fail
    refine (base_ln H4.out (inv_dr HI.out n).p1).mono ?_
    rintro e w' ⟨rfl, hw⟩
    have hw2 := hw.symm
    subst hw2
    clear hw
    rw [HBA'.out]
    go_wp2_with fail
    have ht := HAL.out aw kn cw rfl (by rw [HDX.out (by rw [HSA.out]; omega)]; exact HRW.out)
    rw [hkk] at ht
    refine ht.mono ?_
    clear ht
    rintro e w5 ⟨rfl, hb5⟩
    have H5 := mkH (H4.out.below hb5)
    have HB5 := mkH (HB4.out.trans (hb5.mono hs4))
    have hs5 := HB5.out.size
    clear hb5 H4 HAL HLOW HNIL HRW
    by_cases hbn : (ba' : Int) ≤ n
    · go_wp2_with fail
      refine (base_ln H5.out (inv_dr HI.out n).p1).mono ?_
      rintro e w' ⟨rfl, hw⟩
      have hw2 := hw.symm
      subst hw2
      clear hw
      rw [HBA'.out]
      go_wp2_with fail
      refine (Sw.works_any _ H5.out.tbw).mono ?_
      rintro e w6 ⟨rfl, hb6⟩
      have HB6 := mkH (HB5.out.trans (hb6.mono hs5))
      clear hb6
      go_wp2_with fail
      go_ret
      exact ⟨rfl, HB6.out⟩
    · have hbb : ba' = ba := by omega
      go_wp2_with fail
      refine (base_ln H5.out (inv_dr HI.out n).p1).mono ?_
      rintro e w' ⟨rfl, hw⟩
      have hw2 := hw.symm
      subst hw2
      clear hw
      rw [HBA'.out]
      go_wp2_with fail
      refine (base_ln H5.out (inv_dr HI.out n).p1).mono ?_
      rintro e w' ⟨rfl, hw⟩
      have hw2 := hw.symm
      subst hw2
      clear hw
      rw [HBA'.out]
      go_wp2_with fail
      refine (Sw.works_any _ H5.out.tbw).mono ?_
      rintro e w6 ⟨rfl, hb6⟩
      have HB6 := mkH (HB5.out.trans (hb6.mono hs5))
      clear hb6
      go_wp2_with fail
      go_ret
      exact ⟨rfl, HB6.out⟩
end Go.Proofs.YtjfbhchpgmimfaaDoor.Sdr
