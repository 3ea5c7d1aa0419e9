/-
  The walk of DiskKeeps.
-/
import Derived.Test.YtgdmkhmdfijieaaDiG
namespace Go.Proofs.Ytgdmkhmdfijieaa.Dkp
open Go.RowKit Kt Dk Dp Da Db Dc Dd De Df Dg
set_option linter.unusedVariables false
set_option maxRecDepth 20000

theorem pre_len {a b : List UInt8} (h : a <+: b) : a.length ≤ b.length := h.length_le
theorem pre_take {a b : List UInt8} (h : a <+: b) : b.take a.length = a := (List.prefix_iff_eq_take.1 h).symm

theorem run_high (W : World) (ao : Option Addr) (n c k : Nat) (hk : k ≤ c) : (Instr.slice 26 (.slice ao n c) none (some (.int .i64 (k : Int))) none).run Try.prog W = .ok (.slice ao k c) W := by
  have b1 : ∀ x, (Instr.sliceBound (.int .i64 (k : Int)) c x).run Try.prog W = .ok k W := fun x => by simp [Instr.sliceBound, asIntOf, hk]
  obtain ⟨i, hi, hz, hs, hby⟩ := info_parts info5
  have hsz : (sizeOf 5).run Try.prog W = .ok i.size W := by simp [sizeOf, typeInfo, hi]
  have e : (if c = 0 then ao else Option.map (fun x => x.add (0 * i.size)) ao) = ao := by
    cases ao with
    | none => split <;> rfl
    | some a =>
      split
      · rfl
      · obtain ⟨b, o, sp⟩ := a
        cases sp <;> simp [Addr.add]
  simp only [Instr.slice, Sem.run_bind, run_underlying Try.underlying26, Instr.sliceBounds, Result.andThen_ok, b1, Sem.run_pure, hsz]
  rw [e]
  rfl

set_option maxHeartbeats 4000000 in
theorem keeps_walk (w : World) (a0 a1 : Option Addr) (p0 p1 : Nat) (l0 l1 : List Ac) (hr0 : RowA w a0 l0) (hl0 : l0.length ≤ p0) (hp0 : p0 ≤ 9223372036854775807) (hr1 : RowA w a1 l1) (hl1 : l1.length ≤ p1) (hp1 : p1 ≤ 9223372036854775807) :
    Calls Try.prog 5 #[.slice a0 l0.length p0, .slice a1 l1.length p1] w fun e w' => e = .returned (.bool true) ∧ Below w.heap.size w w' := by
  go_enter Try.func5, Try.ntmps5
  go_wp2_with fail
  refine (plays_any w a0 p0 l0 hr0 hl0 hp0).mono ?_
  rintro e w1 ⟨D, s, rfl, -, h1⟩
  have HR := mkH hr1
  have H1 := mkH h1
  clear hr0 hr1 h1 hl0 hp0
  go_wp2_with fail
  refine (kept_dn H1.out).mono ?_
  rintro e w2 ⟨v, rfl, ⟨wa, wc, rfl, hwl, hwc, hwr, hwb⟩, hb, h2⟩
  obtain ⟨G, hG⟩ : ∃ G : Nat → Prop, G = (fun k => k < w.heap.size ∨ (w1.heap.size ≤ k ∧ k < w2.heap.size)) := ⟨_, rfl⟩
  have h3 := H1.out.more hb
  have HG : Hid ((∀ k, k < w.heap.size → G k) ∧ ∀ b off, wa = some ⟨b, off, none⟩ → b < w2.heap.size → G b) := by
    rw [hG]
    exact ⟨fun k hk => .inl hk, fun b off e hb => .inr ⟨hwb b off e, hb⟩⟩
  rw [← hG] at h3
  have H3 := mkH h3
  have HW := mkH hwr
  have hb2 := H1.out.toBelow (fun k hk => hk)
  have HB2 : Hid (Below w.heap.size w w2) := hb2.trans (hb.mono hb2.size)
  have hkl := H3.out.len
  obtain ⟨kn, hkn⟩ : ∃ kn, s.kept.length = kn := ⟨_, rfl⟩
  rw [hkn] at hwl hkl ⊢
  have HKN := mkH hkn
  clear H1 hwr hwb hb h2 h3 hG hb2 hkn
  go_wp2_with fail
  go_loopw [7] (fun i W => ∃ j : Nat, j ≤ l1.length ∧ j ≤ 60 ∧ i = .int .i64 j ∧ ∃ s', Hid (Dn w2 G W D s') ∧ Hid (s.kept <+: s'.kept)) (fun i _ => 60 - (intOf i).toNat)
  case atStart => exact ⟨0, by omega, by omega, rfl, _, H3, List.prefix_rfl⟩
  case round =>
    clear H3
    obtain ⟨j, hj, hj60, rfl, s', HD, HP⟩ := hrel
    have hb0 := HD.out.toBelow HG.out.1
    have HBW : Hid (Below w.heap.size w wr) := HB2.out.trans hb0
    by_cases hj1 : j = l1.length ∨ j = 60
    · have hj0 : j = l1.length ∨ (j = 60 ∧ j < l1.length) := by omega
      clear hj1
      rcases hj0 with h1 | ⟨h1, h2⟩
      · subst h1
        go_wp2_with fail
        refine (works_any wr).mono ?_
        rintro e w9 ⟨rfl, hb9⟩
        go_wp2
        go_ret
        exact ⟨rfl, HBW.out.trans (hb9.mono HBW.out.size)⟩
      · subst h1
        go_wp2_with fail
        refine (works_any wr).mono ?_
        rintro e w9 ⟨rfl, hb9⟩
        go_wp2
        go_ret
        exact ⟨rfl, HBW.out.trans (hb9.mono HBW.out.size)⟩
    · have hjl : j < l1.length := by omega
      have hj6 : j < 60 := by omega
      obtain ⟨b, off, ⟨kd, n, fl, xa, xc, xb⟩, rfl, ⟨hrow, hxl, hxc, hxf⟩, c0, c1, c2, c3⟩ := (HR.out.below HBW.out).at j hjl
      simp only at hrow hxl hxc hxf c0 c1 c2 c3
      obtain ⟨m, hm1, hm2, hm3, hm4⟩ := min_len xb 300
      have HX := mkH (Row_take hrow 300)
      have HM := mkH hm1
      have ha : ∀ o : Obj, Hid (Dn w2 G (wr.alloc o) D s') := fun o => HD.out.below (below_alloc wr o)
      have hxx : ∀ o : Obj, Hid (Row (wr.alloc o) xa (xb.take 300)) := fun o => HX.out.below (below_alloc wr o)
      have HA := mkH ha
      have HXX := mkH hxx
      have hm2 : (if (300 : Int) < (xb.length : Int) then (300 : Int) else (xb.length : Int)) = (m : Int) := hm2
      have hend : ∀ W, (∃ s', Dn w2 G W D s' ∧ s.kept <+: s'.kept) → ∃ i : Nat, i ≤ l1.length ∧ i ≤ 60 ∧ Value.int .i64 ((j : Int) + 1) = .int .i64 (i : Int) ∧ ∃ s', Hid (Dn w2 G W D s') ∧ Hid (s.kept <+: s'.kept) := fun W hW => ⟨j + 1, by omega, by omega, by go_num, hW⟩
      have HEND := mkH hend
      clear hj1 hb0 hrow hm1 ha hxx hend
      by_cases h0 : kd = 0
      · subst h0
        go_wp2_with fail
        have ht := append_dn (HA.out _).out xa xc (xb.take 300) (HXX.out (.cells #[.int .i64 0, .int .i64 n, .int .i64 fl, .slice xa xb.length xc] 30)).out (by rw [HM.out]; omega)
        rw [HM.out] at ht
        refine ht.mono ?_
        rintro e w4 ⟨rfl, h4⟩
        obtain ⟨s4, hs4⟩ : ∃ s4, s4 = appS s' (xb.take 300) := ⟨_, rfl⟩
        rw [← hs4] at h4
        have HP4 : Hid (s.kept <+: s4.kept) := by rw [hs4]; exact HP.out.trans (app_kept _ _)
        have H4 := mkH h4
        clear h4 hs4 c0 c1 c2 c3 ht
        have hrw := H4.out.row HW.out HG.out.2
        go_wp2_with fail
        refine (kept_dn H4.out).mono ?_
        rintro e w5 ⟨v5, rfl, ⟨na, nc, rfl, hnl, hnc, hnr, -⟩, hb5, h5⟩
        have hrw5 := hrw.below hb5
        have hpl := pre_len HP4.out
        have s1 := fun q => run_string (P := Try.prog) (dst := 9) Try.underlying26 Try.underlying5 Try.underlying9 (hrw5.below (below_drewN (Below.refl _ _) q)) wc
        have hrt := Row_take hnr s.kept.length
        rw [pre_take HP4.out] at hrt
        have s2 := fun q => run_string (P := Try.prog) (dst := 9) Try.underlying26 Try.underlying5 Try.underlying9 (hrt.below (below_drewN (Below.refl _ _) q)) nc
        simp only [HKN.out] at s1 s2 hpl
        have hkl5 := h5.len
        have H5 := mkH h5
        obtain ⟨nn, hnn⟩ : ∃ nn, s4.kept.length = nn := ⟨_, rfl⟩
        rw [hnn] at hnl hpl hkl5 ⊢
        clear hrw hrw5 hrt hnr hb5 h5 H4 hnn hwl hwc
        generalize S s.kept = str at *
        have tq : decide ((nn : Int) < (kn : Int)) = false := by simp; omega
        have hk2 : kn ≤ nc := by omega
        have sl := fun W => run_high W na nn nc kn hk2
        have tq2 : ¬ (nn : Int) < (kn : Int) := by omega
        go_wp2_with fail
        go_quiet (fail)
        go_wp2_with fail
        exact ⟨HEND.out _ ⟨_, (H5.out.below (below_drewN (Below.refl _ _) _)), HP4.out⟩, by simp [intOf]; omega⟩
      · have t0 : (kd == 0) = false := by simp [h0]
        by_cases h1 : kd = 1
        · subst h1
          go_wp2_with fail
          refine (sync_dn (HA.out _).out).mono ?_
          rintro e w4 ⟨rfl, h4⟩
          obtain ⟨s4, hs4⟩ : ∃ s4, s4 = synS s' := ⟨_, rfl⟩
          rw [← hs4] at h4
          have HP4 : Hid (s.kept <+: s4.kept) := by rw [hs4]; exact HP.out.trans (syn_kept _)
          have H4 := mkH h4
          clear h4 hs4 c0 c1 c2 c3
          have hrw := H4.out.row HW.out HG.out.2
          go_wp2_with fail
          refine (kept_dn H4.out).mono ?_
          rintro e w5 ⟨v5, rfl, ⟨na, nc, rfl, hnl, hnc, hnr, -⟩, hb5, h5⟩
          have hrw5 := hrw.below hb5
          have hpl := pre_len HP4.out
          have s1 := fun q => run_string (P := Try.prog) (dst := 9) Try.underlying26 Try.underlying5 Try.underlying9 (hrw5.below (below_drewN (Below.refl _ _) q)) wc
          have hrt := Row_take hnr s.kept.length
          rw [pre_take HP4.out] at hrt
          have s2 := fun q => run_string (P := Try.prog) (dst := 9) Try.underlying26 Try.underlying5 Try.underlying9 (hrt.below (below_drewN (Below.refl _ _) q)) nc
          simp only [HKN.out] at s1 s2 hpl
          have hkl5 := h5.len
          have H5 := mkH h5
          obtain ⟨nn, hnn⟩ : ∃ nn, s4.kept.length = nn := ⟨_, rfl⟩
          rw [hnn] at hnl hpl hkl5 ⊢
          clear hrw hrw5 hrt hnr hb5 h5 H4 hnn hwl hwc
          generalize S s.kept = str at *
          have tq : decide ((nn : Int) < (kn : Int)) = false := by simp; omega
          have hk2 : kn ≤ nc := by omega
          have sl := fun W => run_high W na nn nc kn hk2
          have tq2 : ¬ (nn : Int) < (kn : Int) := by omega
          go_wp2_with fail
          go_quiet (fail)
          go_wp2_with fail
          exact ⟨HEND.out _ ⟨_, (H5.out.below (below_drewN (Below.refl _ _) _)), HP4.out⟩, by simp [intOf]; omega⟩
        · have t1 : (kd == 1) = false := by simp [h1]
          by_cases h4 : kd = 4
          · subst h4
            go_wp2_with fail
            refine (crash_dn (HA.out _).out n fl hxf).mono ?_
            rintro e w4 ⟨rfl, h4⟩
            obtain ⟨s4, hs4⟩ : ∃ s4, s4 = crsS s' n fl := ⟨_, rfl⟩
            rw [← hs4] at h4
            have HP4 : Hid (s.kept <+: s4.kept) := by rw [hs4]; exact HP.out.trans (crs_kept _ _ _)
            have H4 := mkH h4
            clear h4 hs4 c0 c1 c2 c3
            have hrw := H4.out.row HW.out HG.out.2
            go_wp2_with fail
            refine (kept_dn H4.out).mono ?_
            rintro e w5 ⟨v5, rfl, ⟨na, nc, rfl, hnl, hnc, hnr, -⟩, hb5, h5⟩
            have hrw5 := hrw.below hb5
            have hpl := pre_len HP4.out
            have s1 := fun q => run_string (P := Try.prog) (dst := 9) Try.underlying26 Try.underlying5 Try.underlying9 (hrw5.below (below_drewN (Below.refl _ _) q)) wc
            have hrt := Row_take hnr s.kept.length
            rw [pre_take HP4.out] at hrt
            have s2 := fun q => run_string (P := Try.prog) (dst := 9) Try.underlying26 Try.underlying5 Try.underlying9 (hrt.below (below_drewN (Below.refl _ _) q)) nc
            simp only [HKN.out] at s1 s2 hpl
            have hkl5 := h5.len
            have H5 := mkH h5
            obtain ⟨nn, hnn⟩ : ∃ nn, s4.kept.length = nn := ⟨_, rfl⟩
            rw [hnn] at hnl hpl hkl5 ⊢
            clear hrw hrw5 hrt hnr hb5 h5 H4 hnn hwl hwc
            generalize S s.kept = str at *
            have tq : decide ((nn : Int) < (kn : Int)) = false := by simp; omega
            have hk2 : kn ≤ nc := by omega
            have sl := fun W => run_high W na nn nc kn hk2
            have tq2 : ¬ (nn : Int) < (kn : Int) := by omega
            go_wp2_with fail
            go_quiet (fail)
            go_wp2_with fail
            exact ⟨HEND.out _ ⟨_, (H5.out.below (below_drewN (Below.refl _ _) _)), HP4.out⟩, by simp [intOf]; omega⟩
          · have t4 : (kd == 4) = false := by simp [h4]
            by_cases h5 : kd = 5
            · subst h5
              go_wp2_with fail
              refine (restart_dn (HA.out _).out).mono ?_
              rintro e w4 ⟨rfl, h4⟩
              obtain ⟨s4, hs4⟩ : ∃ s4, s4 = rstS s' := ⟨_, rfl⟩
              rw [← hs4] at h4
              have HP4 : Hid (s.kept <+: s4.kept) := by rw [hs4]; exact HP.out.trans (rst_kept _)
              have H4 := mkH h4
              clear h4 hs4 c0 c1 c2 c3
              have hrw := H4.out.row HW.out HG.out.2
              go_wp2_with fail
              refine (kept_dn H4.out).mono ?_
              rintro e w5 ⟨v5, rfl, ⟨na, nc, rfl, hnl, hnc, hnr, -⟩, hb5, h5⟩
              have hrw5 := hrw.below hb5
              have hpl := pre_len HP4.out
              have s1 := fun q => run_string (P := Try.prog) (dst := 9) Try.underlying26 Try.underlying5 Try.underlying9 (hrw5.below (below_drewN (Below.refl _ _) q)) wc
              have hrt := Row_take hnr s.kept.length
              rw [pre_take HP4.out] at hrt
              have s2 := fun q => run_string (P := Try.prog) (dst := 9) Try.underlying26 Try.underlying5 Try.underlying9 (hrt.below (below_drewN (Below.refl _ _) q)) nc
              simp only [HKN.out] at s1 s2 hpl
              have hkl5 := h5.len
              have H5 := mkH h5
              obtain ⟨nn, hnn⟩ : ∃ nn, s4.kept.length = nn := ⟨_, rfl⟩
              rw [hnn] at hnl hpl hkl5 ⊢
              clear hrw hrw5 hrt hnr hb5 h5 H4 hnn hwl hwc
              generalize S s.kept = str at *
              have tq : decide ((nn : Int) < (kn : Int)) = false := by simp; omega
              have hk2 : kn ≤ nc := by omega
              have sl := fun W => run_high W na nn nc kn hk2
              have tq2 : ¬ (nn : Int) < (kn : Int) := by omega
              go_wp2_with fail
              go_quiet (fail)
              go_wp2_with fail
              exact ⟨HEND.out _ ⟨_, (H5.out.below (below_drewN (Below.refl _ _) _)), HP4.out⟩, by simp [intOf]; omega⟩
            · have t5 : (kd == 5) = false := by simp [h5]
              clear h0 h1 h4 h5
              go_wp2_with fail
              have H4 := HA.out (.cells #[.int .i64 kd, .int .i64 n, .int .i64 fl, .slice xa xb.length xc] 30)
              obtain ⟨s4, hs4⟩ : ∃ s4, s4 = s' := ⟨_, rfl⟩
              rw [← hs4] at H4 HP
              have HP4 := HP
              clear hs4
              have hrw := H4.out.row HW.out HG.out.2
              refine (kept_dn H4.out).mono ?_
              rintro e w5 ⟨v5, rfl, ⟨na, nc, rfl, hnl, hnc, hnr, -⟩, hb5, h5⟩
              have hrw5 := hrw.below hb5
              have hpl := pre_len HP4.out
              have s1 := fun q => run_string (P := Try.prog) (dst := 9) Try.underlying26 Try.underlying5 Try.underlying9 (hrw5.below (below_drewN (Below.refl _ _) q)) wc
              have hrt := Row_take hnr s.kept.length
              rw [pre_take HP4.out] at hrt
              have s2 := fun q => run_string (P := Try.prog) (dst := 9) Try.underlying26 Try.underlying5 Try.underlying9 (hrt.below (below_drewN (Below.refl _ _) q)) nc
              simp only [HKN.out] at s1 s2 hpl
              have hkl5 := h5.len
              have H5 := mkH h5
              obtain ⟨nn, hnn⟩ : ∃ nn, s4.kept.length = nn := ⟨_, rfl⟩
              rw [hnn] at hnl hpl hkl5 ⊢
              clear hrw hrw5 hrt hnr hb5 h5 H4 hnn hwl hwc
              generalize S s.kept = str at *
              have tq : decide ((nn : Int) < (kn : Int)) = false := by simp; omega
              have hk2 : kn ≤ nc := by omega
              have sl := fun W => run_high W na nn nc kn hk2
              have tq2 : ¬ (nn : Int) < (kn : Int) := by omega
              go_wp2_with fail
              go_quiet (fail)
              go_wp2_with fail
              exact ⟨HEND.out _ ⟨_, (H5.out.below (below_drewN (Below.refl _ _) _)), HP4.out⟩, by simp [intOf]; omega⟩
end Go.Proofs.Ytgdmkhmdfijieaa.Dkp
