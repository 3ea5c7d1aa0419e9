/-
  SeglogSynced.
-/
import Derived.Test.YtjfbhchpgmimfaaDoorSgPx0
namespace Go.Proofs.YtjfbhchpgmimfaaDoor.Ssy
open Go.RowKit Kt Cs Cf Cv Ck Ca Dk Dp Da Db Dc Dd De Sq Sr Sa Sb Sc Se Sf Sk Sm St Su Sv Pl Sx Sy Sdr Spx
set_option linter.unusedVariables false
set_option maxRecDepth 20000

/-- The records that were synced are there, and safe. -/
def Kp (base en : Nat) (was : List (List UInt8)) (h : H) : Prop :=
  (en = 0 ∧ was = []) ∨ ∃ s r, h.segs = s :: r ∧ s.kept ≠ none ∧ s.first = base ∧ en ≤ h.safe ∧ was <+: all h.segs ∧ was.length = en - base
theorem kp_new {N : Nat} {h : H} (hi : Inv N h) (hd : h.dn = none) : Kp (nb (syH h)) (nn (syH h)) (all (es (syH h))) (syH h) := by
  have hd2 : (syH h).dn = none := by simp [syH, hd, syn]
  obtain ⟨u1, u2, u3, u4⟩ := up_is hd2
  have hi2 := inv_sy hi
  have e : syH h = syn h := by simp [syH, hd]
  rw [u1, u2, u3]
  have ht := top_all0 hi2.ch
  cases hs : h.segs with
  | nil => exact .inl (by rw [e]; simp [syn, hs, top, all])
  | cons s r =>
    refine .inr ⟨syg s, r.map syg, by rw [e]; simp [syn, hs], by simp [syg], by rw [e]; simp [syn, hs, bas], ?_, List.prefix_rfl, by omega⟩
    rw [e]
    simp only [syn]
    rw [top_map _ _ syg_ok]
    exact Nat.le_refl _
theorem kp_ap {b en : Nat} {was : List (List UInt8)} {h : H} (hk : Kp b en was h) (r : List UInt8) : Kp b en was (apH h r) := by
  rcases hk with x | ⟨s, t, e, h1, h2, h3, h4, h5⟩
  · exact .inl x
  · unfold apH
    split
    · exact .inr ⟨s, t, e, h1, h2, h3, h4, h5⟩
    · obtain ⟨i, z, hz⟩ := snoc_of (show h.segs ≠ [] by rw [e]; simp)
      rw [app_snoc r hz]
      split
      · split
        · exact .inr ⟨s, t, e, h1, h2, h3, h4, h5⟩
        · exact .inr ⟨s, t ++ [⟨top h.segs, [r], none⟩], by simp [e], h1, h2, h3, h4.trans (by simp only [all_app]; exact List.prefix_append _ _), h5⟩
      · have hp : was <+: all (i ++ [⟨z.first, z.recs ++ [r], z.kept⟩]) := by
          refine h4.trans ?_
          rw [hz, all_snoc, all_snoc]
          simp only [← List.append_assoc]
          exact List.prefix_append _ _
        cases i with
        | nil =>
          rw [hz] at e
          simp only [List.nil_append, List.cons.injEq] at e
          obtain ⟨rfl, -⟩ := e
          exact .inr ⟨_, _, rfl, h1, h2, h3, hp, h5⟩
        | cons y i =>
          rw [hz] at e
          simp only [List.cons_append, List.cons.injEq] at e
          obtain ⟨rfl, -⟩ := e
          exact .inr ⟨_, _, rfl, h1, h2, h3, hp, h5⟩
theorem kp_cr {N b en : Nat} {was : List (List UInt8)} {h : H} (hk : Kp b en was h) (hi : Inv N h) (hd : h.dn = none) (k f : Int) (h0 : 0 ≤ k) : Kp b en was (rst (crH h k f)) := by
  rcases hk with x | ⟨s, t, e, h1, h2, h3, h4, h5⟩
  · exact .inl x
  · have e0 : crH h k f = { h with dn := some (k, f) } := by simp [crH, hd, crs, show ¬ k < 0 by omega]
    have e1 : rst (crH h k f) = ⟨h.per, rs h.per (k, f) h.segs, top (rs h.per (k, f) h.segs), none⟩ := by rw [e0]; rfl
    obtain ⟨i1, i2, i3, i4, i5⟩ := rs_ok h.per (k, f) hi.ch hi.fits
    have i6 := rs_safe h.per h.safe (k, f) hi.ch hi.fits hi.kept hi.hi
    have hb : bas h.segs = b := by rw [e]; exact h2
    have hlo := hi.lo
    rw [e1]
    obtain ⟨s', t', e', hs1, hs2⟩ : ∃ s' t', rs h.per (k, f) h.segs = s' :: t' ∧ s'.kept ≠ none ∧ s'.first = s.first := by
      have hf := hi.fits s (by rw [e]; simp)
      obtain ⟨k1, k2, k3, k4⟩ := left_is hf (k, f)
      have hkn : 1 ≤ kn s := by
        cases hh : s.kept with
        | none => exact absurd hh h1
        | some q => simp only [kn, hh]; omega
      rw [e, rs, if_neg (show lj s (k, f) ≠ 0 by omega)]
      split
      · exact ⟨_, _, rfl, by simp [lft], rfl⟩
      · exact ⟨_, _, rfl, by simp [lft], rfl⟩
    have hne : rs h.per (k, f) h.segs ≠ [] := by rw [e']; simp
    have hbb := i4 hne
    have ht := top_all0 i1
    refine .inr ⟨s', t', e', hs1, hs2.trans h2, ?_, ?_, h5⟩
    · show en ≤ top (rs h.per (k, f) h.segs)
      omega
    · show was <+: all (rs h.per (k, f) h.segs)
      exact List.prefix_of_prefix_length_le h4 i5 (by omega)
theorem kp_num {N b en : Nat} {was : List (List UInt8)} {h : H} (hk : Kp b en was h) (hi : Inv N h) (hd : h.dn = none) : (apE h = 0 ∧ ∃ n : Nat, apN h = (n : Int) ∧ en ≤ n ∧ n ≤ N) ∨ (apE h = 7 ∧ apN h = 0) := by
  have e1 : apE h = appErr h := by simp [apE, hd]
  have e2 : apN h = appNum h := by simp [apN, hd]
  rw [e1, e2]
  unfold appNum
  by_cases x : appErr h = 0
  · refine .inl ⟨x, top h.segs, by rw [if_pos x], ?_, hi.top⟩
    have := hi.hi
    rcases hk with ⟨y, -⟩ | ⟨s, t, e, h1, h2, h3, h4, h5⟩ <;> omega
  · refine .inr ⟨?_, by rw [if_neg x]⟩
    unfold appErr at x ⊢
    split at x
    · split; rfl; contradiction
    · exact absurd rfl x
theorem kp_all {b en : Nat} {was : List (List UInt8)} {h : H} (hk : Kp b en was h) (hd : h.dn = none) : was.length ≤ (all (es h)).length ∧ (all (es h)).take was.length = was := by
  rw [(up_is hd).1]
  rcases hk with ⟨-, rfl⟩ | ⟨s, t, e, h1, h2, h3, h4, h5⟩
  · simp
  · exact ⟨h4.length_le, (List.prefix_iff_eq_take.1 h4).symm⟩
theorem ap_up {h : H} (hd : h.dn = none) (r : List UInt8) : (apH h r).dn = none := by
  have e : apH h r = app h r := by simp [apH, hd]
  rw [e]
  unfold app
  split
  · exact hd
  · split
    · split <;> exact hd
    · exact hd
theorem run_high (W : World) (ao : Option Addr) (n c k : Nat) (hk : k ≤ c) : (Instr.slice 30 (.slice ao n c) none (some (.int .i64 (k : Int))) none).run Tryd.prog W = .ok (.slice ao k c) W := by
  have b1 : ∀ x, (Instr.sliceBound (.int .i64 (k : Int)) c x).run Tryd.prog W = .ok k W := fun x => by simp [Instr.sliceBound, asIntOf, hk]
  obtain ⟨i, hi, hz, hs, hby⟩ := info_parts info5
  have hsz : (sizeOf 5).run Tryd.prog W = .ok i.size W := by simp [sizeOf, typeInfo, hi]
  have e : (if c = 0 then ao else Option.map (fun x => x.add (0 * i.size)) ao) = ao := by
    cases ao with
    | none => split <;> rfl
    | some a =>
      split
      · rfl
      · obtain ⟨b, o, sp⟩ := a
        cases sp <;> simp [Addr.add]
  simp only [Instr.slice, Sem.run_bind, run_underlying Tryd.underlying30, Instr.sliceBounds, Result.andThen_ok, b1, Sem.run_pure, hsz]
  rw [e]
  rfl
set_option maxHeartbeats 4000000 in
theorem synced_any (w : World) (hT : Tb w) (per : Int) (ao : Option Addr) (cap : Nat) (l : List Ac) (co : Option Addr) (ccap : Nat) (cl : List Ac) (hr : RowA w ao l) (hl : l.length ≤ cap) (hc : cap ≤ 9223372036854775807) (hcr : RowA w co cl) (hcl : cl.length ≤ ccap) (hcc : ccap ≤ 9223372036854775807) :
    Calls Tryd.prog 6 #[.int .i64 per, .slice ao l.length cap, .slice co cl.length ccap] w fun e w' => e = .returned (.bool true) ∧ Below w.heap.size w w' := by
  have hp := plays_any w hT per ao cap l hr hl hc
  have HT := mkH hT
  have HP := mkH hp
  have HCR := mkH hcr
  clear hp hT hr hcr
  go_enter Tryd.func6, Tryd.ntmps6
  go_wp2_with fail
  refine HP.out.mono ?_
  rintro e w1 ⟨B, h0, rfl, hd, hi, h1⟩
  have hd2 : (syH h0).dn = none := by simp [syH, hd, syn]
  have hi2 := inv_sy hi
  have he : syE h0 = 0 := by simp [syE, hd]
  have hkp := kp_new hi hd
  have hsf : ns (syH h0) = nn (syH h0) := by
    obtain ⟨u1, u2, u3, u4⟩ := up_is hd2
    rw [u3, u4]
    simp only [syH, hd, Option.isSome_none, Bool.false_eq_true, if_false, syn]
    exact (top_map _ _ syg_ok).symm
  obtain ⟨h, hh⟩ : ∃ h, syH h0 = h := ⟨_, rfl⟩
  rw [hh] at hd2 hi2 hsf hkp
  obtain ⟨en, hen⟩ : ∃ k, nn h = k := ⟨_, rfl⟩
  obtain ⟨ba, hba⟩ : ∃ k, nb h = k := ⟨_, rfl⟩
  obtain ⟨was, hwas⟩ : ∃ k, all (es h) = k := ⟨_, rfl⟩
  obtain ⟨kw, hkw⟩ : ∃ k, was.length = k := ⟨_, rfl⟩
  rw [hen, hba, hwas] at hkp
  rw [hen] at hsf
  have hk50 : kw ≤ 50 := by
    have := Inv.n50 hi2
    rw [← (up_is hd2).1, hwas, hkw] at this
    exact this
  have hen50 : en ≤ 50 := by have := hi2.top; rw [← (up_is hd2).2.2.1, hen] at this; exact this
  have hsy := sync_ln h1 hi
  rw [hh, he] at hsy
  have HSY := mkH hsy
  have HD := mkH hd2
  have HI := mkH hi2
  have HSF := mkH hsf
  have HEN := mkH hen
  have HKP := mkH hkp
  have HWAS := mkH hwas
  have HKW := mkH hkw
  clear hd hi h1 HP hd2 hi2 he hsf hsy hh hen hkp hwas hba hkw
  go_wp2_with fail
  refine HSY.out.mono ?_
  rintro e w2 ⟨rfl, h2⟩
  have H2 := mkH h2
  clear h2 HSY
  go_wp2_with fail
  refine (all_ln H2.out HI.out (by omega)).mono ?_
  rintro e w3 ⟨aw, cw, lw, rfl, ho, hm, hb, h3⟩
  have H3 := mkH (H2.out.more hb)
  obtain ⟨G, hG⟩ : ∃ G : Nat → Prop, G = (fun k => k < w.heap.size ∨ (w2.heap.size ≤ k ∧ k < w3.heap.size)) := ⟨_, rfl⟩
  rw [← hG] at H3
  rw [HWAS.out] at hm ho ⊢
  rw [HKW.out] at ho ⊢
  have HG := mkH hG
  have HO := mkH ho
  have HM := mkH hm
  have HB := mkH (h3.toBelow (fun k hk => hk))
  have hs3 := HB.out.size
  clear ho hm hb h3 hG H2
  go_wp2_with fail
  refine (len_ln H3.out HI.out.p1).mono ?_
  rintro e w' ⟨rfl, hw⟩
  have hw2 := hw.symm
  subst hw2
  clear hw
  rw [HEN.out]
  go_wp2_with fail
  refine (safe_ln H3.out HI.out.p1).mono ?_
  rintro e w' ⟨rfl, hw⟩
  have hw2 := hw.symm
  subst hw2
  clear hw
  rw [HSF.out]
  go_wp2_with fail
  go_loopw [11] (fun i W => ∃ j : Nat, j ≤ cl.length ∧ j ≤ 12 ∧ i = .int .i64 j ∧ ∃ h, Hid (Ln w3 G W B h ∧ h.dn = none ∧ Inv (50 + j) h ∧ Kp ba en was h)) (fun i _ => 12 - (intOf i).toNat)
  case atStart => exact ⟨0, by omega, by omega, rfl, h, ⟨H3.out, HD.out, HI.out, HKP.out⟩⟩
  case round =>
    clear H3 HD HI HKP HSF HEN HWAS
    obtain ⟨j, hj, hj60, rfl, h, HD⟩ := hrel
    have HBW := mkH (HB.out.trans (HD.out.1.toBelow (b := w.heap.size) (fun k hk => by rw [HG.out]; exact .inl hk)))
    by_cases hj1 : j = cl.length ∨ j = 12
    · have hj0 : (j = cl.length ∧ decide ((j : Int) < (cl.length : Int)) = false) ∨ (j = 12 ∧ j < cl.length) := by
        rcases hj1 with h | h
        · exact .inl ⟨h, by simp; omega⟩
        · by_cases h2 : j = cl.length
          · exact .inl ⟨h2, by simp; omega⟩
          · exact .inr ⟨h, by omega⟩
      clear hj1
      rcases hj0 with ⟨h1, h2⟩ | ⟨h1, h2⟩
      · clear h2
        subst h1
        go_wp2_with fail
        refine (Sw.works_any _ HD.out.1.tbw).mono ?_
        rintro e w6 ⟨rfl, hb6⟩
        have HB6 := mkH (HBW.out.trans (hb6.mono HBW.out.size))
        clear hb6
        go_wp2_with fail
        go_ret
        exact ⟨rfl, HB6.out⟩
      · subst h1
        go_wp2_with fail
        refine (Sw.works_any _ HD.out.1.tbw).mono ?_
        rintro e w6 ⟨rfl, hb6⟩
        have HB6 := mkH (HBW.out.trans (hb6.mono HBW.out.size))
        clear hb6
        go_wp2_with fail
        go_ret
        exact ⟨rfl, HB6.out⟩
    · have hjl : j < cl.length := by omega
      have hj6 : j < 12 := by omega
      obtain ⟨b, off, ⟨kd, n, fl, xa, xc, xb⟩, rfl, ⟨hrow, hxl, hxc, hxf⟩, c0, c1, c2, c3⟩ := HCR.out.at j hjl
      simp only at hrow hxl hxc hxf c0 c1 c2 c3
      obtain ⟨m, hm1, hm2, hm3, hm4⟩ := min_len xb 300
      have hm2 : (if (300 : Int) < (xb.length : Int) then (300 : Int) else (xb.length : Int)) = (m : Int) := hm2
      have hcl2 : ∀ W, Below w.heap.size w W → W.cell? ⟨b, off + j * 4 + 1, none⟩ = some (.int .i64 n) ∧ W.cell? ⟨b, off + j * 4 + 2, none⟩ = some (.int .i64 fl) ∧ W.cell? ⟨b, off + j * 4 + 3, none⟩ = some (.slice xa xb.length xc) := fun W x =>
        ⟨(x.cell (p := ⟨b, off + j * 4 + 1, none⟩) (World.block_lt_of_cell? w _ c1)).trans c1, (x.cell (p := ⟨b, off + j * 4 + 2, none⟩) (World.block_lt_of_cell? w _ c2)).trans c2, (x.cell (p := ⟨b, off + j * 4 + 3, none⟩) (World.block_lt_of_cell? w _ c3)).trans c3⟩
      have HCL := mkH hcl2
      have hap := fun q => append_ln (HD.out.1.below (below_drewN (Below.refl _ _) q)) HD.out.2.2.1 (by omega) xa xc (xb.take 300) (Row_take (hrow.below (HBW.out.trans (below_drewN (Below.refl _ _) q))) 300) (by rw [hm1]; omega)
      rw [hm1] at hap
      have HAP := mkH hap
      have H5D := mkH (ap_up HD.out.2.1 (xb.take 300))
      have H5I : Hid (Inv (50 + (j + 1)) (apH h (xb.take 300))) := inv_ap HD.out.2.2.1 (by omega) (by rw [hm1]; omega)
      have H5K := mkH (kp_ap HD.out.2.2.2 (xb.take 300))
      have hend : ∀ W h', Ln w3 G W B h' → h'.dn = none → Inv (50 + (j + 1)) h' → Kp ba en was h' → ∃ i : Nat, i ≤ cl.length ∧ i ≤ 12 ∧ Value.int .i64 ((j : Int) + 1) = .int .i64 (i : Int) ∧ ∃ h, Hid (Ln w3 G W B h ∧ h.dn = none ∧ Inv (50 + i) h ∧ Kp ba en was h) := fun W h' x1 x2 x3 x4 => ⟨j + 1, by omega, by omega, by go_num, h', ⟨x1, x2, x3, x4⟩⟩
      have HEND := mkH hend
      have hnum := kp_num HD.out.2.2.2 HD.out.2.2.1 HD.out.2.1
      have HNUM := mkH hnum
      clear c0 c1 c2 c3
      have k3 := (hcl2 wr HBW.out).2.2
      have sl := fun W => run_high W xa xb.length xc m (by omega)
      clear hj1 hrow hm1 hap hend HD HBW hcl2 hnum
      go_wp2_with fail
      go_quiet (fail)
      go_wp2_with fail
      refine (HAP.out _).mono ?_
      rintro e w5 ⟨rfl, h5⟩
      have H5 := mkH h5
      obtain ⟨k1, k2, -⟩ := HCL.out w5 (HB.out.trans (h5.toBelow (b := w.heap.size) (fun k hk => by rw [HG.out]; exact .inl hk)))
      have hck : ∀ W h', Ln w3 G W B h' → W.cell? ⟨b, off + j * 4 + 1, none⟩ = some (.int .i64 n) ∧ W.cell? ⟨b, off + j * 4 + 2, none⟩ = some (.int .i64 fl) := fun W h' x => by
        obtain ⟨k1, k2, -⟩ := HCL.out W (HB.out.trans (x.toBelow (b := w.heap.size) (fun k hk => by rw [HG.out]; exact .inl hk)))
        exact ⟨k1, k2⟩
      have HCK := mkH hck
      clear h5 HAP k3 sl hm2 hck
      rcases HNUM.out with ⟨hE, N, hN, hN1, hN2⟩ | ⟨hE, hN⟩
      · rw [hE, hN]
        clear hE hN HNUM
        by_cases hn0 : 0 ≤ n
        · have hcE : crE (apH h (xb.take 300)) n = 0 := by
            simp only [crE, H5D.out, Option.isSome_none, Bool.false_eq_true, if_false]
            rw [if_neg (by omega)]
          have hrE : rsE (crH (apH h (xb.take 300)) n fl) = 0 := (cr_is H5I.out H5D.out n fl hn0).2.1
          go_wp2_with fail
          have HD5 := mkH (H5.out.below (below_drewN (Below.refl _ _) 1))
          go_region_held3 (fun w' => w'.cell? ⟨b, off + j * 4 + 1, none⟩ = some (.int .i64 n) ∧ w'.cell? ⟨b, off + j * 4 + 2, none⟩ = some (.int .i64 fl)) (first | exact ⟨k1, k2⟩ | exact hkeep | exact hkeep2) (first
            | (go_at_call 13; refine (crash_ln HD5.out H5I.out n fl hxf).mono ?_; rintro e wc ⟨rfl, hc1⟩; rw [hcE]; have hkeep := HCK.out _ _ hc1)
            | (go_at_call 31; refine (restart_ln hc1 (inv_cr H5I.out n fl) (by omega)).mono ?_; rintro e wd ⟨rfl, hc2⟩; rw [hrE]; have hkeep2 := HCK.out _ _ hc2))
          clear hkeep hkeep2 hc1 HD5
          have HX := mkH hc2
          have HDX := mkH (rst_up (crH (apH h (xb.take 300)) n fl))
          have HIX := mkH (inv_rs (inv_cr H5I.out n fl))
          have HKX := mkH (kp_cr H5K.out H5I.out H5D.out n fl hn0)
          clear hc2 H5 H5D H5I H5K hcE hrE
          go_wp2_with fail
          refine (all_ln HX.out HIX.out (by omega)).mono ?_
          rintro e w6 ⟨an, cn, ln, rfl, ho, hm, hb, h6⟩
          obtain ⟨hle, htk⟩ := kp_all HKX.out HDX.out
          obtain ⟨kn, hkn⟩ : ∃ k, (all (es (rst (crH (apH h (xb.take 300)) n fl)))).length = k := ⟨_, rfl⟩
          have hkn2 : kn ≤ 100 := by
            have h1 := HIX.out.top
            have h2 := top_all0 HIX.out.ch
            rw [(up_is HDX.out).1] at hkn
            omega
          rw [hkn, HKW.out] at hle
          have hrn := Ol.rr ho
          rw [hm] at hrn
          have hrk := Rr.take hrn kw
          rw [HKW.out] at htk
          rw [htk] at hrk
          have hrw := Ol.rr ((Ol.keep HO.out HX.out.fr (fun k k1 k2 x => x (by rw [HG.out]; exact .inr ⟨k1, k2⟩))).below hb)
          rw [HM.out] at hrw
          have hcp := Ol.cap ho
          have hal : ∀ c', Calls Tryd.prog 16 #[.slice an kw c', .slice aw kw cw] w6 fun e w' => e = .returned (.bool true) ∧ Below w6.heap.size w6 w' := fun c' => by
            have := alike_any w6 an aw c' cw _ hrk hrw (by rw [HKW.out]; omega)
            rw [HKW.out] at this
            exact this
          rw [hkn] at hcp
          have HAL := mkH hal
          have H6 := mkH h6
          rw [hkn]
          clear ho hm hb h6 hrn hrk hrw htk hal hkn HX
          go_wp2_with fail
          refine (HAL.out _).mono ?_
          rintro e w7 ⟨rfl, hb7⟩
          have H7 := mkH (H6.out.below hb7)
          clear hb7 H6 HAL
          go_wp2_with fail
          exact ⟨HEND.out _ _ H7.out HDX.out HIX.out HKX.out, by simp [intOf]; omega⟩
        · have hn1 : n < 0 := by omega
          have hn2 : decide (0 ≤ n) = false := by simp; omega
          have hn3 : decide (n < 0) = true := by simp; omega
          go_wp2_with fail
          refine wp_region_quiet_lit (by kernel_rfl) (by kernel_rfl) ?_
          iterate 7 quiet_step (fail)
          try simp only [hn2, hn3]
          repeat first | go_big_quiet_skip | quiet_step (fail)
          refine wpQuiet_nil ?_
          intro _ hw'
          obtain ⟨nq, hw''⟩ := hw'
          subst hw''
          go_wp2_with fail
          have HX := mkH (H5.out.below (below_drewN (Below.refl _ _) nq))
          have HDX := H5D
          have HIX := H5I
          have HKX := H5K
          clear H5 H5D H5I H5K
          refine (all_ln HX.out HIX.out (by omega)).mono ?_
          rintro e w6 ⟨an, cn, ln, rfl, ho, hm, hb, h6⟩
          obtain ⟨hle, htk⟩ := kp_all HKX.out HDX.out
          obtain ⟨kn, hkn⟩ : ∃ k, (all (es (apH h (xb.take 300)))).length = k := ⟨_, rfl⟩
          have hkn2 : kn ≤ 100 := by
            have h1 := HIX.out.top
            have h2 := top_all0 HIX.out.ch
            rw [(up_is HDX.out).1] at hkn
            omega
          rw [hkn, HKW.out] at hle
          have hrn := Ol.rr ho
          rw [hm] at hrn
          have hrk := Rr.take hrn kw
          rw [HKW.out] at htk
          rw [htk] at hrk
          have hrw := Ol.rr ((Ol.keep HO.out HX.out.fr (fun k k1 k2 x => x (by rw [HG.out]; exact .inr ⟨k1, k2⟩))).below hb)
          rw [HM.out] at hrw
          have hcp := Ol.cap ho
          have hal : ∀ c', Calls Tryd.prog 16 #[.slice an kw c', .slice aw kw cw] w6 fun e w' => e = .returned (.bool true) ∧ Below w6.heap.size w6 w' := fun c' => by
            have := alike_any w6 an aw c' cw _ hrk hrw (by rw [HKW.out]; omega)
            rw [HKW.out] at this
            exact this
          rw [hkn] at hcp
          have HAL := mkH hal
          have H6 := mkH h6
          rw [hkn]
          clear ho hm hb h6 hrn hrk hrw htk hal hkn HX
          go_wp2_with fail
          refine (HAL.out _).mono ?_
          rintro e w7 ⟨rfl, hb7⟩
          have H7 := mkH (H6.out.below hb7)
          clear hb7 H6 HAL
          go_wp2_with fail
          exact ⟨HEND.out _ _ H7.out HDX.out HIX.out HKX.out, by simp [intOf]; omega⟩
      · rw [hE, hN]
        clear hE hN HNUM
        by_cases hn0 : 0 ≤ n
        · have hcE : crE (apH h (xb.take 300)) n = 0 := by
            simp only [crE, H5D.out, Option.isSome_none, Bool.false_eq_true, if_false]
            rw [if_neg (by omega)]
          have hrE : rsE (crH (apH h (xb.take 300)) n fl) = 0 := (cr_is H5I.out H5D.out n fl hn0).2.1
          go_wp2_with fail
          have HD5 := mkH (H5.out.below (below_drewN (Below.refl _ _) 1))
          go_region_held3 (fun w' => w'.cell? ⟨b, off + j * 4 + 1, none⟩ = some (.int .i64 n) ∧ w'.cell? ⟨b, off + j * 4 + 2, none⟩ = some (.int .i64 fl)) (first | exact ⟨k1, k2⟩ | exact hkeep | exact hkeep2) (first
            | (go_at_call 13; refine (crash_ln HD5.out H5I.out n fl hxf).mono ?_; rintro e wc ⟨rfl, hc1⟩; rw [hcE]; have hkeep := HCK.out _ _ hc1)
            | (go_at_call 31; refine (restart_ln hc1 (inv_cr H5I.out n fl) (by omega)).mono ?_; rintro e wd ⟨rfl, hc2⟩; rw [hrE]; have hkeep2 := HCK.out _ _ hc2))
          clear hkeep hkeep2 hc1 HD5
          have HX := mkH hc2
          have HDX := mkH (rst_up (crH (apH h (xb.take 300)) n fl))
          have HIX := mkH (inv_rs (inv_cr H5I.out n fl))
          have HKX := mkH (kp_cr H5K.out H5I.out H5D.out n fl hn0)
          clear hc2 H5 H5D H5I H5K hcE hrE
          go_wp2_with fail
          refine (all_ln HX.out HIX.out (by omega)).mono ?_
          rintro e w6 ⟨an, cn, ln, rfl, ho, hm, hb, h6⟩
          obtain ⟨hle, htk⟩ := kp_all HKX.out HDX.out
          obtain ⟨kn, hkn⟩ : ∃ k, (all (es (rst (crH (apH h (xb.take 300)) n fl)))).length = k := ⟨_, rfl⟩
          have hkn2 : kn ≤ 100 := by
            have h1 := HIX.out.top
            have h2 := top_all0 HIX.out.ch
            rw [(up_is HDX.out).1] at hkn
            omega
          rw [hkn, HKW.out] at hle
          have hrn := Ol.rr ho
          rw [hm] at hrn
          have hrk := Rr.take hrn kw
          rw [HKW.out] at htk
          rw [htk] at hrk
          have hrw := Ol.rr ((Ol.keep HO.out HX.out.fr (fun k k1 k2 x => x (by rw [HG.out]; exact .inr ⟨k1, k2⟩))).below hb)
          rw [HM.out] at hrw
          have hcp := Ol.cap ho
          have hal : ∀ c', Calls Tryd.prog 16 #[.slice an kw c', .slice aw kw cw] w6 fun e w' => e = .returned (.bool true) ∧ Below w6.heap.size w6 w' := fun c' => by
            have := alike_any w6 an aw c' cw _ hrk hrw (by rw [HKW.out]; omega)
            rw [HKW.out] at this
            exact this
          rw [hkn] at hcp
          have HAL := mkH hal
          have H6 := mkH h6
          rw [hkn]
          clear ho hm hb h6 hrn hrk hrw htk hal hkn HX
          go_wp2_with fail
          refine (HAL.out _).mono ?_
          rintro e w7 ⟨rfl, hb7⟩
          have H7 := mkH (H6.out.below hb7)
          clear hb7 H6 HAL
          go_wp2_with fail
          exact ⟨HEND.out _ _ H7.out HDX.out HIX.out HKX.out, by simp [intOf]; omega⟩
        · have hn1 : n < 0 := by omega
          have hn2 : decide (0 ≤ n) = false := by simp; omega
          have hn3 : decide (n < 0) = true := by simp; omega
          go_wp2_with fail
          refine wp_region_quiet_lit (by kernel_rfl) (by kernel_rfl) ?_
          iterate 7 quiet_step (fail)
          try simp only [hn2, hn3]
          repeat first | go_big_quiet_skip | quiet_step (fail)
          refine wpQuiet_nil ?_
          intro _ hw'
          obtain ⟨nq, hw''⟩ := hw'
          subst hw''
          go_wp2_with fail
          have HX := mkH (H5.out.below (below_drewN (Below.refl _ _) nq))
          have HDX := H5D
          have HIX := H5I
          have HKX := H5K
          clear H5 H5D H5I H5K
          refine (all_ln HX.out HIX.out (by omega)).mono ?_
          rintro e w6 ⟨an, cn, ln, rfl, ho, hm, hb, h6⟩
          obtain ⟨hle, htk⟩ := kp_all HKX.out HDX.out
          obtain ⟨kn, hkn⟩ : ∃ k, (all (es (apH h (xb.take 300)))).length = k := ⟨_, rfl⟩
          have hkn2 : kn ≤ 100 := by
            have h1 := HIX.out.top
            have h2 := top_all0 HIX.out.ch
            rw [(up_is HDX.out).1] at hkn
            omega
          rw [hkn, HKW.out] at hle
          have hrn := Ol.rr ho
          rw [hm] at hrn
          have hrk := Rr.take hrn kw
          rw [HKW.out] at htk
          rw [htk] at hrk
          have hrw := Ol.rr ((Ol.keep HO.out HX.out.fr (fun k k1 k2 x => x (by rw [HG.out]; exact .inr ⟨k1, k2⟩))).below hb)
          rw [HM.out] at hrw
          have hcp := Ol.cap ho
          have hal : ∀ c', Calls Tryd.prog 16 #[.slice an kw c', .slice aw kw cw] w6 fun e w' => e = .returned (.bool true) ∧ Below w6.heap.size w6 w' := fun c' => by
            have := alike_any w6 an aw c' cw _ hrk hrw (by rw [HKW.out]; omega)
            rw [HKW.out] at this
            exact this
          rw [hkn] at hcp
          have HAL := mkH hal
          have H6 := mkH h6
          rw [hkn]
          clear ho hm hb h6 hrn hrk hrw htk hal hkn HX
          go_wp2_with fail
          refine (HAL.out _).mono ?_
          rintro e w7 ⟨rfl, hb7⟩
          have H7 := mkH (H6.out.below hb7)
          clear hb7 H6 HAL
          go_wp2_with fail
          exact ⟨HEND.out _ _ H7.out HDX.out HIX.out HKX.out, by simp [intOf]; omega⟩
end Go.Proofs.YtjfbhchpgmimfaaDoor.Ssy
