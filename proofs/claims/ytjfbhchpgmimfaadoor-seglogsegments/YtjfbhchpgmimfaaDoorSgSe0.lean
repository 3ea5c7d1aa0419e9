/-
  SeglogSegments.
-/
import Derived.Test.YtjfbhchpgmimfaaDoorSgSy0
import Derived.Test.YtjfbhchpgmimfaaDoorSgRw
namespace Go.Proofs.YtjfbhchpgmimfaaDoor.Sse
open Go.RowKit Kt Cs Cf Cv Ck Ca Dk Dp Da Db Dc Dd De Sq Sr Sa Sb Sc Se Sf Sk Sm St Su Sv Pl Sx Sy Sdr Spx Ssy Co
set_option linter.unusedVariables false
set_option maxRecDepth 20000

theorem all_ap {h : H} (r : List UInt8) (hf : h.segs.length < 256) : all (app h r).segs = all h.segs ++ [r] := by
  by_cases h0 : h.segs = []
  · rw [app_nil r h0, h0]; simp [all]
  · obtain ⟨i, z, hz⟩ := snoc_of h0
    rw [app_snoc r hz]
    split
    · rw [if_neg (by omega), all_app]; simp [all]
    · simp only [hz, all_snoc, List.append_assoc]
/-- One record more. -/
theorem seg_step {j per : Nat} {h : H} (hi : Inv j h) (hd : h.dn = none) (hp : h.per = per) (ha : (all h.segs).length = j) (hb : bas h.segs = 0) (hl : h.segs.length ≤ j) (hj : j ≤ 60) (r : List UInt8) :
    (apH h r).segs.length = j / per + 1 ∧ all (apH h r).segs = all h.segs ++ [r] ∧ bas (apH h r).segs = 0 ∧ (apH h r).safe = h.safe ∧ (apH h r).per = per ∧ apE h = 0 ∧ apN h = (j : Int) := by
  have e0 : apH h r = app h r := by simp [apH, hd]
  have e1 : apE h = appErr h := by simp [apE, hd]
  have e2 : apN h = appNum h := by simp [apN, hd]
  have hf : ¬ (isFull h = true ∧ h.segs.length = 256) := by omega
  have e3 := appErr_0 hi hf
  have ht := top_all0 hi.ch
  obtain ⟨t1, t2⟩ := top_app hi r hf
  have hpp := hi.p1
  rw [e0, e1, e2, e3]
  refine ⟨?_, all_ap r (by omega), by omega, ?_, ?_, rfl, by unfold appNum; rw [if_pos e3]; omega⟩
  · by_cases h0 : h.segs = []
    · have : j = 0 := by rw [← ha, h0]; rfl
      rw [app_nil r h0, this]; simp
    · obtain ⟨i, z, hz⟩ := snoc_of h0
      have hch := hi.ch
      rw [hz] at hch ha
      have h1 := all_len hch
      have h2 := Chn.last hch
      rw [app_snoc r hz]
      rw [hp] at h1 h2 ⊢
      have hpp : 1 ≤ per := by omega
      split
      · rename_i x
        rw [if_neg (by omega)]
        simp only [hz, List.length_append, List.length_singleton]
        have : j = (i.length + 1) * per := by rw [Nat.add_mul]; omega
        rw [this, Nat.mul_div_cancel _ (by omega)]
      · rename_i x
        simp only [List.length_append, List.length_singleton]
        have : j / per = i.length := by
          rw [← ha, h1, Nat.mul_comm, Nat.mul_add_div (by omega), Nat.div_eq_of_lt (by omega)]; omega
        omega
  · unfold app; split
    · rfl
    · split
      · split <;> rfl
      · rfl
  · unfold app; split
    · exact hp
    · split
      · split <;> exact hp
      · exact hp
/-- The log behind j records. -/
structure Sj (p : Nat) (ps : List Part) (j : Nat) (h : H) : Prop where
  inv : Inv j h
  up : h.dn = none
  per : h.per = p
  all : all h.segs = (ps.take j).map (fun x => x.bs.take 200)
  bas : bas h.segs = 0
  safe : h.safe = 0
  len : h.segs.length ≤ j
theorem Sj.cnt {p : Nat} {ps : List Part} {j : Nat} {h : H} (x : Sj p ps j h) (hj : j ≤ ps.length) : (Sq.all h.segs).length = j := by rw [x.all]; simp; omega
theorem Sj.step {p : Nat} {ps : List Part} {j : Nat} {h : H} (x : Sj p ps j h) (hj : j < ps.length) (h60 : j < 60) {q : Part} (hq : ps[j]? = some q) :
    Sj p ps (j + 1) (apH h (q.bs.take 200)) ∧ (apH h (q.bs.take 200)).segs.length = j / p + 1 ∧ apE h = 0 ∧ apN h = (j : Int) ∧ nn (apH h (q.bs.take 200)) = j + 1 ∧ ns (apH h (q.bs.take 200)) = 0 ∧ nb (apH h (q.bs.take 200)) = 0 := by
  obtain ⟨s1, s2, s3, s4, s5, s6, s7⟩ := seg_step x.inv x.up x.per (x.cnt (by omega)) x.bas x.len (by omega) (q.bs.take 200)
  have hu := ap_up x.up (q.bs.take 200)
  have hi := inv_ap x.inv (by omega) (r := q.bs.take 200) (by rw [List.length_take]; omega)
  obtain ⟨u1, u2, u3, u4⟩ := up_is hu
  have ht := top_all0 hi.ch
  have hp := x.inv.p1
  rw [x.per] at hp
  have hdv : j / p ≤ j := Nat.div_le_self _ _
  rw [s2, List.length_append, x.cnt (by omega), s3] at ht
  simp only [List.length_singleton] at ht
  refine ⟨⟨hi, hu, s5, ?_, s3, by rw [s4]; exact x.safe, by omega⟩, s1, s6, s7, by rw [u3]; omega, by rw [u4, s4]; exact x.safe, by rw [u2]; exact s3⟩
  have e : ps.take (j + 1) = ps.take j ++ [q] := by rw [List.take_add_one, hq]; rfl
  rw [s2, x.all, e]
  simp
theorem RowB.at {w : World} {ao : Option Addr} {ps : List Part} (h : RowB w ao ps) (j : Nat) (hj : j < ps.length) : ∃ b off xa xc xb, ao = some ⟨b, off, none⟩ ∧ ps[j]? = some ⟨xa, xc, xb⟩ ∧ xb.length ≤ xc ∧ xc ≤ 9223372036854775807 ∧ ∀ W, Below w.heap.size w W → W.cell? ⟨b, off + j, none⟩ = some (.slice xa xb.length xc) ∧ Row W xa xb := by
  obtain ⟨b, off, e, hc⟩ := h (by omega)
  obtain ⟨h1, h2, h3, h4⟩ := hc j ps[j] (List.getElem?_eq_getElem hj)
  exact ⟨b, off, ps[j].ao, ps[j].cap, ps[j].bs, e, List.getElem?_eq_getElem hj, h3, h4, fun W x => ⟨(x.cell (p := ⟨b, off + j, none⟩) (World.block_lt_of_cell? w _ h1)).trans h1, h2.below x⟩⟩
set_option maxHeartbeats 4000000 in
theorem segments_walk (w : World) (hT : Tb w) (per : Int) (ao : Option Addr) (cap : Nat) (ps : List Part) (hr : RowB w ao ps) (hl : ps.length ≤ cap) (hc : cap ≤ 9223372036854775807) :
    Calls Tryd.prog 8 #[.int .i64 per, .slice ao ps.length cap] w fun e w' => e = .returned (.bool true) ∧ Below w.heap.size w w' := by
  obtain ⟨p, hp1, hp9, hp⟩ := per_is per 7 (by omega) (by omega)
  have hn := new_ln w hT p hp1 (by omega)
  obtain ⟨B, hB⟩ : ∃ B, w.heap.size = B := ⟨_, rfl⟩
  rw [hB] at hn
  have HN := mkH hn
  have HT := mkH hT
  have HR := mkH hr
  clear hn hT hr
  go_enter Tryd.func8, Tryd.ntmps8
  go_wp2_with fail
  rw [hp]
  refine HN.out.mono ?_
  rintro e w1 ⟨rfl, h1⟩
  have H1 := mkH h1
  clear h1 HN hp
  go_wp2_with fail
  have HJ0 : Hid (Sj p ps 0 ⟨p, [], 0, none⟩) := ⟨inv_new hp1 (by omega), rfl, rfl, rfl, rfl, rfl, Nat.le_refl _⟩
  have hbw : ∀ W h', Ln w (fun k => k < B) W B h' → Below w.heap.size w W := fun W h' x => x.toBelow (fun k hk => by rw [← hB]; exact hk)
  have HBW := mkH hbw
  clear hbw
  go_loopw [7] (fun i W => ∃ j : Nat, j ≤ ps.length ∧ j ≤ 60 ∧ i = .int .i64 j ∧ ∃ h, Hid (Ln w (fun k => k < B) W B h ∧ Sj p ps j h)) (fun i _ => 60 - (intOf i).toNat)
  case atStart => exact ⟨0, by omega, by omega, rfl, _, ⟨H1.out, HJ0.out⟩⟩
  case round =>
    clear H1 HJ0
    obtain ⟨j, hj, hj60, rfl, h, HD⟩ := hrel
    by_cases hj1 : j = ps.length ∨ j = 60
    · have hj0 : (j = ps.length ∧ j ≤ 60) ∨ (j = 60 ∧ j < ps.length) := by omega
      have hm1 : (if (60 : Int) < (ps.length : Int) then (60 : Int) else (ps.length : Int)) = (j : Int) := by split <;> omega
      have hm2 : (if 60 < ps.length then (60 : Int) else (ps.length : Int)) = (j : Int) := by split <;> omega
      clear hj1
      rcases hj0 with ⟨h1, h2⟩ | ⟨h1, h2⟩
      · subst h1
        go_wp2_with fail
        have hal := all_ln HD.out.1 HD.out.2.inv (by omega)
        rw [(up_is HD.out.2.up).1, HD.out.2.cnt (by omega)] at hal
        refine hal.mono ?_
        rintro e w2 ⟨ga, gc, gl, rfl, ho, hm, hb, h2⟩
        have hrg := Ol.rr ho
        rw [hm, HD.out.2.all] at hrg
        have HRG := mkH hrg
        have H2 := mkH h2
        clear hal ho hm hb h2 hrg HD
        go_wp2_with fail
        go_loopw [94] (fun i W => ∃ q : Nat, q ≤ ps.length ∧ i = .int .i64 q ∧ Hid (Below w2.heap.size w2 W)) (fun i _ => ps.length - (intOf i).toNat)
        case atStart => exact ⟨0, by omega, rfl, Below.refl _ _⟩
        case round =>
          obtain ⟨q, hq, rfl, HB2⟩ := hrel
          by_cases hq1 : q = ps.length
          · subst hq1
            have H3 := mkH (H2.out.below HB2.out)
            clear H2 HRG HR
            go_wp2_with fail
            refine (Sw.works_any _ H3.out.tbw).mono ?_
            rintro e w6 ⟨rfl, hb6⟩
            have HB6 := mkH ((HBW.out _ _ H3.out).trans (hb6.mono (HBW.out _ _ H3.out).size))
            clear hb6
            go_wp2_with fail
            go_ret
            exact ⟨rfl, HB6.out⟩
          · have hql : q < ps.length := by omega
            have hqp : q < ps.length := by omega
            obtain ⟨b1, o1, xa1, xc1, bs, rfl, hb1, k1, r1⟩ := (HRG.out.below HB2.out).at q (by simp; omega)
            obtain ⟨b, off, xa, xc, xb, rfl, hpq, hxl, hxc, hcell⟩ := RowB.at HR.out q hqp
            have hbs : bs = xb.take 200 := by
              rw [List.getElem?_map, List.getElem?_take, if_pos (by omega), hpq] at hb1
              simpa using hb1.symm
            subst hbs
            obtain ⟨k2, r2⟩ := hcell _ (HBW.out _ _ (H2.out.below HB2.out))
            obtain ⟨m, hl1, hl2, hl3, hl4⟩ := min_len xb 200
            have hl2 : (if (200 : Int) < (xb.length : Int) then (200 : Int) else (xb.length : Int)) = (m : Int) := hl2
            have sl := fun W => run_high W xa xb.length xc m (by omega)
            have s1 := fun q => run_string (P := Tryd.prog) (dst := 9) Tryd.underlying30 Tryd.underlying5 Tryd.underlying9 (r1.below (below_drewN (Below.refl _ _) q)) xc1
            have s2 := fun q => run_string (P := Tryd.prog) (dst := 9) Tryd.underlying30 Tryd.underlying5 Tryd.underlying9 ((Row_take r2 200).below (below_drewN (Below.refl _ _) q)) xc
            rw [hl1] at s1 s2 k1
            generalize S (xb.take 200) = str at *
            clear r1 r2 hb1 hq1 hcell hpq HR HRG hl1
            go_wp2_with fail
            go_quiet (fail)
            go_wp2_with fail
            exact ⟨⟨q + 1, by omega, by go_num, below_drewN HB2.out _⟩, by simp [intOf]; omega⟩
      · subst h1
        go_wp2_with fail
        have hal := all_ln HD.out.1 HD.out.2.inv (by omega)
        rw [(up_is HD.out.2.up).1, HD.out.2.cnt (by omega)] at hal
        refine hal.mono ?_
        rintro e w2 ⟨ga, gc, gl, rfl, ho, hm, hb, h2⟩
        have hrg := Ol.rr ho
        rw [hm, HD.out.2.all] at hrg
        have HRG := mkH hrg
        have H2 := mkH h2
        clear hal ho hm hb h2 hrg HD
        go_wp2_with fail
        go_loopw [94] (fun i W => ∃ q : Nat, q ≤ 60 ∧ i = .int .i64 q ∧ Hid (Below w2.heap.size w2 W)) (fun i _ => 60 - (intOf i).toNat)
        case atStart => exact ⟨0, by omega, rfl, Below.refl _ _⟩
        case round =>
          obtain ⟨q, hq, rfl, HB2⟩ := hrel
          by_cases hq1 : q = 60
          · subst hq1
            have H3 := mkH (H2.out.below HB2.out)
            clear H2 HRG HR
            go_wp2_with fail
            refine (Sw.works_any _ H3.out.tbw).mono ?_
            rintro e w6 ⟨rfl, hb6⟩
            have HB6 := mkH ((HBW.out _ _ H3.out).trans (hb6.mono (HBW.out _ _ H3.out).size))
            clear hb6
            go_wp2_with fail
            go_ret
            exact ⟨rfl, HB6.out⟩
          · have hql : q < 60 := by omega
            have hqp : q < ps.length := by omega
            obtain ⟨b1, o1, xa1, xc1, bs, rfl, hb1, k1, r1⟩ := (HRG.out.below HB2.out).at q (by simp; omega)
            obtain ⟨b, off, xa, xc, xb, rfl, hpq, hxl, hxc, hcell⟩ := RowB.at HR.out q hqp
            have hbs : bs = xb.take 200 := by
              rw [List.getElem?_map, List.getElem?_take, if_pos (by omega), hpq] at hb1
              simpa using hb1.symm
            subst hbs
            obtain ⟨k2, r2⟩ := hcell _ (HBW.out _ _ (H2.out.below HB2.out))
            obtain ⟨m, hl1, hl2, hl3, hl4⟩ := min_len xb 200
            have hl2 : (if (200 : Int) < (xb.length : Int) then (200 : Int) else (xb.length : Int)) = (m : Int) := hl2
            have sl := fun W => run_high W xa xb.length xc m (by omega)
            have s1 := fun q => run_string (P := Tryd.prog) (dst := 9) Tryd.underlying30 Tryd.underlying5 Tryd.underlying9 (r1.below (below_drewN (Below.refl _ _) q)) xc1
            have s2 := fun q => run_string (P := Tryd.prog) (dst := 9) Tryd.underlying30 Tryd.underlying5 Tryd.underlying9 ((Row_take r2 200).below (below_drewN (Below.refl _ _) q)) xc
            rw [hl1] at s1 s2 k1
            generalize S (xb.take 200) = str at *
            clear r1 r2 hb1 hq1 hcell hpq HR HRG hl1
            go_wp2_with fail
            go_quiet (fail)
            go_wp2_with fail
            exact ⟨⟨q + 1, by omega, by go_num, below_drewN HB2.out _⟩, by simp [intOf]; omega⟩
    · have hjl : j < ps.length := by omega
      have hj6 : j < 60 := by omega
      obtain ⟨b, off, xa, xc, xb, rfl, hq, hxl, hxc, hcell⟩ := RowB.at HR.out j hjl
      obtain ⟨m, hm1, hm2, hm3, hm4⟩ := min_len xb 200
      have hm2 : (if (200 : Int) < (xb.length : Int) then (200 : Int) else (xb.length : Int)) = (m : Int) := hm2
      obtain ⟨t1, t2, t3, t4, t5, t6, t7⟩ := HD.out.2.step hjl hj6 hq
      simp only at t1 t2 t5 t6 t7
      have hap := fun q => append_ln (HD.out.1.below (below_drewN (Below.refl _ _) q)) HD.out.2.inv (by omega) xa xc (xb.take 200) (Row_take (hcell _ ((HBW.out _ _ HD.out.1).trans (below_drewN (Below.refl _ _) q))).2 200) (by rw [hm1]; omega)
      rw [hm1, t3, t4] at hap
      have HAP := mkH hap
      have k3 := (hcell wr (HBW.out _ _ HD.out.1)).1
      have sl := fun W => run_high W xa xb.length xc m (by omega)
      have hend : ∀ W, Ln w (fun k => k < B) W B (apH h (xb.take 200)) → ∃ i : Nat, i ≤ ps.length ∧ i ≤ 60 ∧ Value.int .i64 ((j : Int) + 1) = .int .i64 (i : Int) ∧ ∃ h, Hid (Ln w (fun k => k < B) W B h ∧ Sj p ps i h) := fun W x1 => ⟨j + 1, by omega, by omega, by go_num, _, ⟨x1, t1⟩⟩
      have hcl : ∀ W, Below w.heap.size w W → W.cell? ⟨b, off + j, none⟩ = some (.slice xa xb.length xc) := fun W x => (hcell W x).1
      have HCELL := mkH hcl
      have HEND := mkH hend
      obtain ⟨dv, hdv⟩ : ∃ d, j / p = d := ⟨_, rfl⟩
      have hdv1 : (j : Int).tdiv (p : Int) = (dv : Int) := by rw [← hdv]; exact (Int.ofNat_tdiv j p).symm
      have hdv2 : dv ≤ 60 := by have := Nat.div_le_self j p; omega
      have hp0 : ¬ (p : Int) = 0 := by omega
      have hp0b : ((p : Int) == 0) = false := by simp; omega
      have hi1 : (1 : Int) ≤ (p : Int) := by omega
      have hi2 : (0 : Int) ≤ (j : Int) := by omega
      have hi3 : (j : Int) ≤ 9223372036854775807 := by omega
      have hi4 : -9223372036854775808 ≤ (j : Int) := by omega
      have hp0n : ¬ p = 0 := by omega
      have hw1 : IntKind.i64.wrap (dv : Int) = (dv : Int) := by rw [IntKind.wrap_i64]; omega
      have hw2 : IntKind.i64.wrap ((dv : Int) + 1) = (dv : Int) + 1 := by rw [IntKind.wrap_i64]; omega
      have hw3 : IntKind.i64.wrap ((j : Int) + 1) = (j : Int) + 1 := by rw [IntKind.wrap_i64]; omega
      rw [hdv] at t2
      have HT2 := mkH t2
      clear hdv
      have HT5 := mkH t5
      have HT6 := mkH t6
      have HT7 := mkH t7
      have HI := mkH t1.inv
      clear hj1 hm1 hap hend HD t1 t2 t3 t4 t5 t6 t7 hcell hcl
      go_wp2_with fail
      go_region_held3 (fun w' => w'.cell? ⟨b, off + j, none⟩ = some (.slice xa xb.length xc)) (first | exact k3 | exact hkeep) (first
        | (go_at_call 12; refine (HAP.out 1).mono ?_; rintro e w2 ⟨rfl, h2⟩; have hkeep := (HCELL.out _ (HBW.out _ _ h2))))
      have H2 := mkH h2
      clear h2 hkeep k3 sl hm2 HAP
      go_wp2_with fail
      have H2d := mkH (H2.out.below (below_drewN (Below.refl _ _) 1))
      go_region_held3 (fun w' => True) (trivial) (first
        | (go_at_call 25; refine (segments_ln H2d.out HI.out).mono ?_; rintro e w3 ⟨sa, sc, rfl, -, h3⟩; rw [HT2.out])
        | (go_at_call 21; refine (len_ln h3 HI.out.p1).mono ?_; rintro e w4 ⟨rfl, e4⟩; rw [HT5.out, e4]; clear e4 w4)
        | (go_at_call 23; refine (safe_ln h3 HI.out.p1).mono ?_; rintro e w4 ⟨rfl, e4⟩; rw [HT6.out, e4]; clear e4 w4)
        | (go_at_call 19; refine (base_ln h3 HI.out.p1).mono ?_; rintro e w4 ⟨rfl, e4⟩; rw [HT7.out, e4]; clear e4 w4))
      have H3 := mkH h3
      clear h3 H2 H2d
      go_wp2_with fail
      exact ⟨HEND.out _ H3.out, by simp [intOf]; omega⟩
end Go.Proofs.YtjfbhchpgmimfaaDoor.Sse
