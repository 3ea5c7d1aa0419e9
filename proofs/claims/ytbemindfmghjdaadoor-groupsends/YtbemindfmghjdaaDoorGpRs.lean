/-
  The document's Send.
-/
import Derived.Test.YtbemindfmghjdaaDoorGpU
import Derived.Test.YtbemindfmghjdaaDoorGpD
import Derived.Test.YtbemindfmghjdaaDoorDgR4
namespace Go.Proofs.YtbemindfmghjdaaDoor.Grs
open Go.RowKit Kt Gf Gp Gr Gk Ga Gs Gb Gg Gu
set_option linter.unusedVariables false
set_option linter.unusedSimpArgs false
set_option maxRecDepth 20000

set_option maxHeartbeats 8000000 in
theorem RSend_tok (w : World) (g : G) (ka : Option Addr) (kc : Nat) (ma : Option Addr) (mc : Nat) (h : Gl w g ka kc ma mc) (hk : g.kept.length ≤ 1000000) (hm : g.marks.length ≤ 1000000) (ho : Sm g.next) (now frm : Int) (body token : ByteArray) (htk : token ≠ ⟨#[]⟩) (T : ByteArray) (hTk : Gd.tkn token body = T) :
    Calls Tryd.prog 11 #[.agg (gC g ka kc ma mc), .int .i64 now, .int .i64 frm, .string body, .string token] w fun e w' => ∃ ka' kc' ma' mc', e = .returned (.tuple #[.agg (gC (sendG g now frm body T) ka' kc' ma' mc'), .int .i64 (sendN g T), .int .i64 (sendE g T)]) ∧ Go' w.heap.size w' (sendG g now frm body T) ka' kc' ma' mc' ∧ Below w.heap.size w w' := by
  have HL := mkH h
  obtain ⟨nx, kp, mk, at'⟩ := g
  obtain ⟨gg, hgg⟩ : ∃ x, sendG ⟨nx, kp, mk, at'⟩ now frm body T = x := ⟨_, rfl⟩
  obtain ⟨sn, hsn⟩ : ∃ x, sendN ⟨nx, kp, mk, at'⟩ T = x := ⟨_, rfl⟩
  obtain ⟨se, hse⟩ : ∃ x, sendE ⟨nx, kp, mk, at'⟩ T = x := ⟨_, rfl⟩
  have HGG := mkH hgg
  have HSN := mkH hsn
  have HSE := mkH hse
  rw [hgg, hsn, hse]
  simp only [gC] at hk hm ho ⊢
  have HA : Hid (Below w.heap.size w ((w.alloc (.cells #[Value.int .i64 nx, .slice ka kp.length kc, .slice ma mk.length mc, .string at'] 25)).alloc (.cells #[Value.int .i64 0, .slice none 0 0, .slice none 0 0, .string ⟨#[]⟩] 25))) := ((Below.refl _ w).alloc (Nat.le_refl _) _).alloc (by simp) _
  have HB0 := mkH ((Bx.new w #[Value.int .i64 nx, .slice ka kp.length kc, .slice ma mk.length mc, .string at'] 25).alloc (.cells #[Value.int .i64 0, .slice none 0 0, .slice none 0 0, .string ⟨#[]⟩] 25))
  have HR0 := mkH (Bx.new1 w (.cells #[Value.int .i64 nx, .slice ka kp.length kc, .slice ma mk.length mc, .string at'] 25) #[Value.int .i64 0, .slice none 0 0, .slice none 0 0, .string ⟨#[]⟩] 25)
  have HSZ : Hid (((w.alloc (.cells #[Value.int .i64 nx, .slice ka kp.length kc, .slice ma mk.length mc, .string at'] 25)).alloc (.cells #[Value.int .i64 0, .slice none 0 0, .slice none 0 0, .string ⟨#[]⟩] 25)).heap.size = w.heap.size + 2) := by unfold Hid; simp
  have bn1 : -9223372036854775808 ≤ nx + 1 := by unfold Sm at ho; omega
  have bn2 : nx + 1 ≤ 9223372036854775807 := by unfold Sm at ho; omega
  have bn3 : nx + 1 - 1 = nx := by omega
  have bn4 : -9223372036854775808 ≤ nx := by unfold Sm at ho; omega
  have bn5 : nx ≤ 9223372036854775807 := by unfold Sm at ho; omega
  clear h hgg hsn hse ho
  have hqe : token.toList.isEmpty = false := by
    rw [ByteArray.toList_eq]
    obtain ⟨⟨l⟩⟩ := token
    cases l with
    | nil => exact absurd rfl htk
    | cons a t => rfl
  have hTk2 : token = T := by rw [← hTk]; unfold Gd.tkn; rw [if_neg htk]
  subst hTk2
  clear hTk htk
  go_enter Tryd.func11, Tryd.ntmps11
  go_wp2_with fail
  generalize (w.alloc (.cells #[Value.int .i64 nx, .slice ka kp.length kc, .slice ma mk.length mc, .string at'] 25)).alloc (.cells #[Value.int .i64 0, .slice none 0 0, .slice none 0 0, .string ⟨#[]⟩] 25) = w0 at *
  obtain ⟨R, hR⟩ : ∃ R, w.heap.size + 1 = R := ⟨_, rfl⟩
  rw [hR] at HR0 ⊢
  have h4 := HSZ.out
  have r1 : w.heap.size < R := by omega
  have r2 : R < w0.heap.size := by omega
  have n1 : ¬ w.heap.size = R := by omega
  have n2 : ¬ R = w.heap.size := by omega
  clear hR h4 HSZ
  refine (rcopy_any w0 ⟨nx, kp, mk, at'⟩ ka kc ma mc (HL.out.below HA.out) (by show kp.length ≤ _; omega) (by show mk.length ≤ _; omega)).mono ?_
  rintro e w1 ⟨ka1, kc1, ma1, mc1, rfl, hg1, hb1⟩
  simp only [gC]
  have HC0 := mkH (HB0.out.bel hb1)
  have HC1 := mkH (HR0.out.bel hb1)
  obtain ⟨d0, d1, d2, d3, f0, f1, f2, f3⟩ := HC0.out.four
  have HG1 := mkH hg1
  have HB1 : Hid (Below w.heap.size w w1) := HA.out.trans (hb1.mono HA.out.size)
  have hs1 := hb1.size
  clear hg1 hb1 HB0 HR0 HA
  go_upto_region 2 with fail
  obtain ⟨hX2, hF2⟩ := HC0.out.sAll (v0 := .int .i64 nx) (v1 := .slice ka1 kp.length kc1) (v2 := .slice ma1 mk.length mc1) (v3 := .string at')
  have hR2 := HC1.out.fr hF2 n2
  have hK2 := own_fr HG1.out.k hF2 (fun k hk hk2 => own_ne HG1.out.k HC0.out hk (by decide) hk2)
  have hM2 := own_fr HG1.out.m hF2 (fun k hk hk2 => own_ne HG1.out.m HC0.out hk (by decide) hk2)
  have hB2 := below_fr HB1.out hF2 (fun k hk => by omega) (Nat.le_refl _)
  have hs2 := hF2.size
  generalize (((w1.setCell ⟨w.heap.size, 0, none⟩ (.int .i64 nx)).setCell ⟨w.heap.size, 1, none⟩ (.slice ka1 kp.length kc1)).setCell ⟨w.heap.size, 2, none⟩ (.slice ma1 mk.length mc1)).setCell ⟨w.heap.size, 3, none⟩ (.string at') = w2 at *
  have HX2 := mkH hX2
  have HR2 := mkH hR2
  have HK2 := mkH hK2
  have HM2 := mkH hM2
  have HB2 := mkH hB2
  clear hX2 hR2 hK2 hM2 hB2 hF2 HC0 HC1 HG1 HB1 d0 d1 d2 d3 f0 f1 f2 f3
  generalize w2 = w3 at *
  have HX3 := HX2
  have HR3 := HR2
  have HK3 := HK2
  have HM3 := HM2
  have HB3 := HB2
  have hs3 : w1.heap.size ≤ w3.heap.size := hs2
  clear HX2 HR2 HK2 HM2 HB2
  obtain ⟨d0, d1, d2, d3, f0, f1, f2, f3⟩ := HX3.out.four
  obtain ⟨e0, e1, e2, e3, g0, g1, g2, g3⟩ := HR3.out.four
  have hw03 : w0.heap.size ≤ w3.heap.size := by omega
  go_wp2_with fail
  go_loopw [13] (fun i WW => WW = w3 ∧ ∃ j : Nat, j ≤ mk.length ∧ i = .int .i64 (j : Int) ∧ Hid (∀ k y, k < j → mk[k]? = some y → decide (y.tok = token) = false)) (fun i _ => mk.length - (intOf i).toNat)
  case atStart => exact ⟨rfl, 0, Nat.zero_le _, rfl, mkH (fun k x hk => by omega)⟩
  case round =>
    obtain ⟨hwr, j, hj, rfl, HN⟩ := hrel
    have hwr2 := hwr.symm
    subst hwr2
    clear hwr
    rcases Nat.lt_or_ge j mk.length with hjl | hjl
    · obtain ⟨x, hx⟩ := some_of hjl
      obtain ⟨b, off, hbo, z0, z1, z2⟩ := atM (RowS.own mC_len HM3.out) hx
      have hbR : b ≠ R := fun e => by
        obtain ⟨gk, hgk⟩ := own_some HM3.out (show 0 < mk.length by omega)
        rw [hgk] at hbo
        simp only [Option.some.injEq, Addr.mk.injEq] at hbo
        have := own_ne HM3.out HR3.out (k := gk) (by rw [hgk]; rfl) (by decide)
        omega
      subst hbo
      have jz : (j : Int) < (mk.length : Int) := by omega
      have HX := mkH hx
      clear hx
      obtain ⟨x0, x1, x2⟩ := x
      simp only at z0 z1 z2
      by_cases heq : x0 = token
      · have t1 : (x0.toList == token.toList) = true := by rw [strEq]; simpa using heq
        have hfi : mk.find? (fun m => decide (m.tok = token)) = some ⟨x0, x1, x2⟩ := Gd.find_idx _ _ j _ (idx_take _ _ j _ HX.out (by simpa using heq) HN.out) HX.out
        have q1 : gg = ⟨nx, kp, mk, at'⟩ := by rw [← HGG.out]; unfold sendG; rw [hfi]
        have q2 : x1 = sn := by rw [← HSN.out]; unfold sendN; rw [hfi]
        have q3 : se = 0 := by rw [← HSE.out]; unfold sendE; rw [hfi]
        subst q1 q2 q3
        clear hfi HGG HSN HSE heq
        go_wp2_with fail
        go_region
        all_goals
          go_wp2
          obtain ⟨hR7, hF7⟩ := HR3.out.sAll (v0 := .int .i64 nx) (v1 := .slice ka1 kp.length kc1) (v2 := .slice (some ⟨b, off, none⟩) mk.length mc1) (v3 := .string at')
          generalize (((w3.setCell ⟨R, 0, none⟩ (.int .i64 nx)).setCell ⟨R, 1, none⟩ (.slice ka1 kp.length kc1)).setCell ⟨R, 2, none⟩ (.slice (some ⟨b, off, none⟩) mk.length mc1)).setCell ⟨R, 3, none⟩ (.string at') = w7 at *
          have hD : Fr (fun k => k = R) w3 w7.drew := ⟨hF7.os, hF7.tape, hF7.output, hF7.size, hF7.block⟩
          refine bodyPost_ret (res_ctt rfl _ _ _ rfl rfl rfl (loadG (show Bx w7.drew R _ _ from hR7))) rfl ⟨ka1, kc1, some ⟨b, off, none⟩, mc1, rfl, ⟨?_, ?_⟩, ?_⟩
          · exact own_mono (own_fr HK3.out hD (fun k hk hkw => own_ne HK3.out HR3.out hk (by decide) hkw)) (by omega)
          · exact own_mono (own_fr HM3.out hD (fun k hk hkw => own_ne HM3.out HR3.out hk (by decide) hkw)) (by omega)
          · exact below_fr HB3.out hD (by intro k hk; omega) (Nat.le_refl _)
      · have t1 : (x0.toList == token.toList) = false := by rw [strEq]; simpa using heq
        have HNE : Hid (decide (x0 = token) = false) := by unfold Hid; simpa using heq
        clear heq
        go_wp2
        go_roundw
        case rel => exact ⟨trivial, j + 1, by omega, by go_num, mkH (fun k y hk hy => by
          rcases Nat.lt_or_ge k j with h | h
          · exact HN.out k y h hy
          · obtain rfl : k = j := by omega
            rw [HX.out] at hy; cases hy; exact HNE.out)⟩
        case measure => simp [intOf]; omega
    · obtain rfl : j = mk.length := by omega
      have hfn : mk.find? (fun m => decide (m.tok = token)) = none := Gd.find_none _ _ (idx_none _ _ (fun x hx => by
        obtain ⟨k, hk⟩ := List.getElem?_of_mem hx
        exact HN.out k x (lt_of hk) hk))
      by_cases hful : 12 ≤ kp.length ∨ 40 ≤ mk.length
      · have q1 : gg = ⟨nx, kp, mk, at'⟩ := by rw [← HGG.out]; unfold sendG; rw [hfn]; simp only; rw [if_pos hful]
        have q2 : sn = 0 := by rw [← HSN.out]; unfold sendN; rw [hfn]; simp only; rw [if_pos hful]
        have q3 : se = 7 := by rw [← HSE.out]; unfold sendE; rw [hfn]; simp only; rw [if_pos hful]
        subst q1 q2 q3
        clear hfn HGG HSN HSE
        by_cases h12 : 12 ≤ kp.length
        · have t1 : (11 : Int) < (kp.length : Int) := by omega
          have t2 : decide ((11 : Int) < (kp.length : Int)) = true := by simp; omega
          go_wp2
          obtain ⟨hR7, hF7⟩ := HR3.out.sAll (v0 := .int .i64 nx) (v1 := .slice ka1 kp.length kc1) (v2 := .slice ma1 mk.length mc1) (v3 := .string at')
          generalize (((w3.setCell ⟨R, 0, none⟩ (.int .i64 nx)).setCell ⟨R, 1, none⟩ (.slice ka1 kp.length kc1)).setCell ⟨R, 2, none⟩ (.slice ma1 mk.length mc1)).setCell ⟨R, 3, none⟩ (.string at') = w7 at *
          refine bodyPost_ret (res_ctt rfl _ _ _ rfl rfl rfl (loadG hR7)) rfl ⟨ka1, kc1, ma1, mc1, rfl, ⟨?_, ?_⟩, ?_⟩
          · exact own_mono (own_fr HK3.out hF7 (fun k hk hkw => own_ne HK3.out HR3.out hk (by decide) hkw)) (by omega)
          · exact own_mono (own_fr HM3.out hF7 (fun k hk hkw => own_ne HM3.out HR3.out hk (by decide) hkw)) (by omega)
          · exact below_fr HB3.out hF7 (by intro k hk; omega) (Nat.le_refl _)
        · have t1 : ¬ (11 : Int) < (kp.length : Int) := by omega
          have t2 : decide ((11 : Int) < (kp.length : Int)) = false := by simp; omega
          have t3 : (39 : Int) < (mk.length : Int) := by omega
          have t4 : decide ((39 : Int) < (mk.length : Int)) = true := by simp; omega
          go_wp2
          obtain ⟨hR7, hF7⟩ := HR3.out.sAll (v0 := .int .i64 nx) (v1 := .slice ka1 kp.length kc1) (v2 := .slice ma1 mk.length mc1) (v3 := .string at')
          generalize (((w3.setCell ⟨R, 0, none⟩ (.int .i64 nx)).setCell ⟨R, 1, none⟩ (.slice ka1 kp.length kc1)).setCell ⟨R, 2, none⟩ (.slice ma1 mk.length mc1)).setCell ⟨R, 3, none⟩ (.string at') = w7 at *
          refine bodyPost_ret (res_ctt rfl _ _ _ rfl rfl rfl (loadG hR7)) rfl ⟨ka1, kc1, ma1, mc1, rfl, ⟨?_, ?_⟩, ?_⟩
          · exact own_mono (own_fr HK3.out hF7 (fun k hk hkw => own_ne HK3.out HR3.out hk (by decide) hkw)) (by omega)
          · exact own_mono (own_fr HM3.out hF7 (fun k hk hkw => own_ne HM3.out HR3.out hk (by decide) hkw)) (by omega)
          · exact below_fr HB3.out hF7 (by intro k hk; omega) (Nat.le_refl _)
      · have q1 : gg = ⟨nx + 1, kp ++ [⟨nx, now, 0, 0, frm, body⟩], mk ++ [⟨token, nx, now⟩], at'⟩ := by rw [← HGG.out]; unfold sendG; rw [hfn]; simp only; rw [if_neg hful]
        have q2 : nx = sn := by rw [← HSN.out]; unfold sendN; rw [hfn]; simp only; rw [if_neg hful]
        have q3 : se = 0 := by rw [← HSE.out]; unfold sendE; rw [hfn]; simp only; rw [if_neg hful]
        obtain ⟨kq, hkq⟩ : ∃ kq, kp ++ [(⟨nx, now, 0, 0, frm, body⟩ : K)] = kq := ⟨_, rfl⟩
        obtain ⟨mq, hmq⟩ : ∃ mq, mk ++ [(⟨token, nx, now⟩ : M)] = mq := ⟨_, rfl⟩
        rw [hkq, hmq] at q1
        have HKQ := mkH hkq
        have HMQ := mkH hmq
        have HLK : Hid (kp.length + 1 = kq.length) := by unfold Hid; rw [← hkq]; simp
        have HLM : Hid (mk.length + 1 = mq.length) := by unfold Hid; rw [← hmq]; simp
        subst q1 q2 q3
        have t1 : ¬ (11 : Int) < (kp.length : Int) := by omega
        have t2 : decide ((11 : Int) < (kp.length : Int)) = false := by simp; omega
        have t3 : ¬ (39 : Int) < (mk.length : Int) := by omega
        have t4 : decide ((39 : Int) < (mk.length : Int)) = false := by simp; omega
        have hkd := own_kinds HK3.out HM3.out (by decide)
        have hal : Below w3.heap.size w3 (w3.alloc (.cells #[.int .i64 nx, .int .i64 now, .int .i64 0, .int .i64 0, .int .i64 frm, .string body] 64)) := (Below.refl _ w3).alloc (Nat.le_refl _) _
        have HS4 := mkH (newK w3 ⟨nx, now, 0, 0, frm, body⟩ 64)
        simp only [kC] at HS4
        have HK4 := mkH (own_below HK3.out hal)
        have HM4 := mkH (own_below HM3.out hal)
        have HX4 := mkH (HX3.out.bel hal)
        have HR4 := mkH (HR3.out.bel hal)
        have HB4 : Hid (Below w.heap.size w (w3.alloc (.cells #[.int .i64 nx, .int .i64 now, .int .i64 0, .int .i64 0, .int .i64 frm, .string body] 64))) := HB3.out.trans (hal.mono HB3.out.size)
        have HSz : Hid ((w3.alloc (.cells #[.int .i64 nx, .int .i64 now, .int .i64 0, .int .i64 0, .int .i64 frm, .string body] 64)).heap.size = w3.heap.size + 1) := by unfold Hid; simp
        have nX : ¬ w.heap.size = w3.heap.size := by have := HX3.out.lt; omega
        clear hfn HGG HSN HSE hful hkq hmq hal hkd HN
        go_upto_region 12 with (at_builtin; refine (wpList_append_own_src _ rfl (.tmp 55) (.tmp 62) 22 22 rfl w0.heap.size 64 _ 6 56 Tryd.underlying22 infoK rfl (by decide) _ kp.length (Fk kp) rfl HK4.out _ 1 (Fk [⟨nx, now, 0, 0, frm, body⟩]) rfl HS4.out ?h63 ?hby ?hbs ?_))
        case h63 => unfold maxLen; omega
        case hby => omega
        case hbs => have := HSz.out; omega
        intro v5 w5 hown hgr
        rw [show Fk kp ++ Fk [⟨nx, now, 0, 0, frm, body⟩] = Fk kq by rw [← HKQ.out]; exact (Fl_append _ _).symm, HLK.out] at hown
        obtain ⟨ka5, kc5, rfl⟩ := own_form hown
        have hf := fr_grown hgr
        have hX5 := HX4.out.fr hf (fun hk => own_ne HK4.out HX4.out hk (by decide) rfl)
        have hR5 := HR4.out.fr hf (fun hk => own_ne HK4.out HR4.out hk (by decide) rfl)
        have hkd5 := own_kinds HK4.out HM4.out (by decide)
        have hM5 := own_fr HM4.out hf (fun k hk hk2 => hkd5 k hk2 hk)
        have HB5 : Hid (Below w.heap.size w w5) := below_fr HB4.out hf (fun k hk => by have := (HK4.out.lt k hk).1; omega) (Nat.le_refl _)
        have hs5 : w0.heap.size ≤ w5.heap.size := by have := hf.size; have := HSz.out; omega
        have HX5 := mkH hX5
        have HR5 := mkH hR5
        have HM5 := mkH hM5
        have HK5 := mkH hown
        clear hX5 hR5 hkd5 hM5 hown hf hgr HX4 HR4 HK4 HM4 HB4 HS4 HSz d0 d1 d2 d3 f0 f1 f2 f3 e0 e1 e2 e3 g0 g1 g2 g3 HX3 HR3 HK3 HM3 HB3
        obtain ⟨d0, d1, d2, d3, f0, f1, f2, f3⟩ := HX5.out.four
        go_upto_region 12 with fail
        have hX6 := HX5.out.s1 (.slice ka5 kq.length kc5)
        have hF6 := HX5.out.frset 1 (.slice ka5 kq.length kc5)
        have hR6 := HR5.out.fr hF6 n2
        have hK6 := own_fr HK5.out hF6 (fun k hk hk2 => own_ne HK5.out HX5.out hk (by decide) hk2)
        have hM6 := own_fr HM5.out hF6 (fun k hk hk2 => own_ne HM5.out HX5.out hk (by decide) hk2)
        have hB6 := below_fr HB5.out hF6 (by intro k hk; omega) (Nat.le_refl _)
        have hs6 := hF6.size
        generalize w5.setCell ⟨w.heap.size, 1, none⟩ (.slice ka5 kq.length kc5) = w6 at *
        have hal : Below w6.heap.size w6 (w6.alloc (.cells #[.string token, .int .i64 nx, .int .i64 now] 70)) := (Below.refl _ w6).alloc (Nat.le_refl _) _
        have HS6 := mkH (newM w6 ⟨token, nx, now⟩ 70)
        simp only [mC] at HS6
        have HK7 := mkH (own_below hK6 hal)
        have HM7 := mkH (own_below hM6 hal)
        have HX7 := mkH (hX6.bel hal)
        have HR7 := mkH (hR6.bel hal)
        have HB7 : Hid (Below w.heap.size w (w6.alloc (.cells #[.string token, .int .i64 nx, .int .i64 now] 70))) := hB6.trans (hal.mono hB6.size)
        have HSz : Hid ((w6.alloc (.cells #[.string token, .int .i64 nx, .int .i64 now] 70)).heap.size = w6.heap.size + 1) := by unfold Hid; simp
        have nY : ¬ w.heap.size = w6.heap.size := by have := hX6.lt; omega
        clear d0 d1 d2 d3 f0 f1 f2 f3
        obtain ⟨d0, d1, d2, d3, f0, f1, f2, f3⟩ := hX6.four
        clear hX6 hF6 hR6 hK6 hM6 hB6 hal HX5 HR5 HK5 HM5 HB5
        go_upto_region 13 with (at_builtin; refine (wpList_append_own_src _ rfl (.tmp 66) (.tmp 72) 23 23 rfl w0.heap.size 70 _ 3 32 Tryd.underlying23 infoM rfl (by decide) _ mk.length (Fm mk) rfl HM7.out _ 1 (Fm [⟨token, nx, now⟩]) rfl HS6.out ?h63 ?hby ?hbs ?_))
        case h63 => unfold maxLen; omega
        case hby => omega
        case hbs => have := HSz.out; omega
        intro v8 w8 hown hgr
        rw [show Fm mk ++ Fm [⟨token, nx, now⟩] = Fm mq by rw [← HMQ.out]; exact (Fl_append _ _).symm, HLM.out] at hown
        obtain ⟨ma5, mc5, rfl⟩ := own_form hown
        have hf := fr_grown hgr
        have hX8 := HX7.out.fr hf (fun hk => own_ne HM7.out HX7.out hk (by decide) rfl)
        have hR8 := HR7.out.fr hf (fun hk => own_ne HM7.out HR7.out hk (by decide) rfl)
        have hkd8 := own_kinds HK7.out HM7.out (by decide)
        have hK8 := own_fr HK7.out hf (fun k hk hk2 => hkd8 k hk hk2)
        have HB8 : Hid (Below w.heap.size w w8) := below_fr HB7.out hf (fun k hk => by have := (HM7.out.lt k hk).1; omega) (Nat.le_refl _)
        have HX8 := mkH hX8
        have HR8 := mkH hR8
        have HK8 := mkH hK8
        have HM8 := mkH hown
        clear hX8 hR8 hkd8 hK8 hown hf hgr HX7 HR7 HK7 HM7 HB7 HS6 HSz d0 d1 d2 d3 f0 f1 f2 f3
        obtain ⟨d0, d1, d2, d3, f0, f1, f2, f3⟩ := HX8.out.four
        go_upto_region 13 with fail
        have hX9 := HX8.out.s2 (.slice ma5 mq.length mc5)
        have hF9 := HX8.out.frset 2 (.slice ma5 mq.length mc5)
        have hR9 := HR8.out.fr hF9 n2
        have hK9 := own_fr HK8.out hF9 (fun k hk hk2 => own_ne HK8.out HX8.out hk (by decide) hk2)
        have hM9 := own_fr HM8.out hF9 (fun k hk hk2 => own_ne HM8.out HX8.out hk (by decide) hk2)
        have hB9 := below_fr HB8.out hF9 (by intro k hk; omega) (Nat.le_refl _)
        generalize w8.setCell ⟨w.heap.size, 2, none⟩ (.slice ma5 mq.length mc5) = w9 at *
        have HX9 := mkH hX9
        have HR9 := mkH hR9
        have HK9 := mkH hK9
        have HM9 := mkH hM9
        have HB9 := mkH hB9
        clear hX9 hR9 hK9 hM9 hB9 hF9 HX8 HR8 HK8 HM8 HB8 d0 d1 d2 d3 f0 f1 f2 f3
        obtain ⟨d0, d1, d2, d3, f0, f1, f2, f3⟩ := HX9.out.four
        go_upto_region 14 with fail
        have hX9 := HX9.out.s0 (.int .i64 (nx + 1))
        have hF9 := HX9.out.frset 0 (.int .i64 (nx + 1))
        have hR9 := HR9.out.fr hF9 n2
        have hK9 := own_fr HK9.out hF9 (fun k hk hk2 => own_ne HK9.out HX9.out hk (by decide) hk2)
        have hM9 := own_fr HM9.out hF9 (fun k hk hk2 => own_ne HM9.out HX9.out hk (by decide) hk2)
        have hB9 := below_fr HB9.out hF9 (by intro k hk; omega) (Nat.le_refl _)
        generalize w9.setCell ⟨w.heap.size, 0, none⟩ (.int .i64 (nx + 1)) = w10 at *
        have HX10 := mkH hX9
        have HR10 := mkH hR9
        have HK10 := mkH hK9
        have HM10 := mkH hM9
        have HB10 := mkH hB9
        clear hX9 hR9 hK9 hM9 hB9 hF9 HX9 HR9 HK9 HM9 HB9 d0 d1 d2 d3 f0 f1 f2 f3
        obtain ⟨d0, d1, d2, d3, f0, f1, f2, f3⟩ := HX10.out.four
        obtain ⟨e0, e1, e2, e3, g0, g1, g2, g3⟩ := HR10.out.four
        go_region
        all_goals
          go_wp2
          obtain ⟨hR7, hF7⟩ := HR10.out.sAll (v0 := .int .i64 (nx + 1)) (v1 := .slice ka5 kq.length kc5) (v2 := .slice ma5 mq.length mc5) (v3 := .string at')
          generalize (((w10.setCell ⟨R, 0, none⟩ (.int .i64 (nx + 1))).setCell ⟨R, 1, none⟩ (.slice ka5 kq.length kc5)).setCell ⟨R, 2, none⟩ (.slice ma5 mq.length mc5)).setCell ⟨R, 3, none⟩ (.string at') = w7 at *
          have hD : Fr (fun k => k = R) w10 w7.drew := ⟨hF7.os, hF7.tape, hF7.output, hF7.size, hF7.block⟩
          refine bodyPost_ret (res_ctt rfl _ _ _ rfl rfl rfl (loadG (show Bx w7.drew R _ _ from hR7))) rfl ⟨ka5, kc5, ma5, mc5, rfl, ⟨?_, ?_⟩, ?_⟩
          · exact own_mono (own_fr HK10.out hD (fun k hk hkw => own_ne HK10.out HR10.out hk (by decide) hkw)) (by omega)
          · exact own_mono (own_fr HM10.out hD (fun k hk hkw => own_ne HM10.out HR10.out hk (by decide) hkw)) (by omega)
          · exact below_fr HB10.out hD (by intro k hk; omega) (Nat.le_refl _)

set_option maxHeartbeats 8000000 in
theorem RSend_emp (w : World) (g : G) (ka : Option Addr) (kc : Nat) (ma : Option Addr) (mc : Nat) (h : Gl w g ka kc ma mc) (hk : g.kept.length ≤ 1000000) (hm : g.marks.length ≤ 1000000) (ho : Sm g.next) (now frm : Int) (body token : ByteArray) (htk : token = ⟨#[]⟩) (hbody : body.size ≤ 50000) (T : ByteArray) (hTk : Gd.tkn token body = T) :
    Calls Tryd.prog 11 #[.agg (gC g ka kc ma mc), .int .i64 now, .int .i64 frm, .string body, .string token] w fun e w' => ∃ ka' kc' ma' mc', e = .returned (.tuple #[.agg (gC (sendG g now frm body T) ka' kc' ma' mc'), .int .i64 (sendN g T), .int .i64 (sendE g T)]) ∧ Go' w.heap.size w' (sendG g now frm body T) ka' kc' ma' mc' ∧ Below w.heap.size w w' := by
  have HL := mkH h
  obtain ⟨nx, kp, mk, at'⟩ := g
  obtain ⟨gg, hgg⟩ : ∃ x, sendG ⟨nx, kp, mk, at'⟩ now frm body T = x := ⟨_, rfl⟩
  obtain ⟨sn, hsn⟩ : ∃ x, sendN ⟨nx, kp, mk, at'⟩ T = x := ⟨_, rfl⟩
  obtain ⟨se, hse⟩ : ∃ x, sendE ⟨nx, kp, mk, at'⟩ T = x := ⟨_, rfl⟩
  have HGG := mkH hgg
  have HSN := mkH hsn
  have HSE := mkH hse
  rw [hgg, hsn, hse]
  simp only [gC] at hk hm ho ⊢
  have HA : Hid (Below w.heap.size w ((w.alloc (.cells #[Value.int .i64 nx, .slice ka kp.length kc, .slice ma mk.length mc, .string at'] 25)).alloc (.cells #[Value.int .i64 0, .slice none 0 0, .slice none 0 0, .string ⟨#[]⟩] 25))) := ((Below.refl _ w).alloc (Nat.le_refl _) _).alloc (by simp) _
  have HB0 := mkH ((Bx.new w #[Value.int .i64 nx, .slice ka kp.length kc, .slice ma mk.length mc, .string at'] 25).alloc (.cells #[Value.int .i64 0, .slice none 0 0, .slice none 0 0, .string ⟨#[]⟩] 25))
  have HR0 := mkH (Bx.new1 w (.cells #[Value.int .i64 nx, .slice ka kp.length kc, .slice ma mk.length mc, .string at'] 25) #[Value.int .i64 0, .slice none 0 0, .slice none 0 0, .string ⟨#[]⟩] 25)
  have HSZ : Hid (((w.alloc (.cells #[Value.int .i64 nx, .slice ka kp.length kc, .slice ma mk.length mc, .string at'] 25)).alloc (.cells #[Value.int .i64 0, .slice none 0 0, .slice none 0 0, .string ⟨#[]⟩] 25)).heap.size = w.heap.size + 2) := by unfold Hid; simp
  have bn1 : -9223372036854775808 ≤ nx + 1 := by unfold Sm at ho; omega
  have bn2 : nx + 1 ≤ 9223372036854775807 := by unfold Sm at ho; omega
  have bn3 : nx + 1 - 1 = nx := by omega
  have bn4 : -9223372036854775808 ≤ nx := by unfold Sm at ho; omega
  have bn5 : nx ≤ 9223372036854775807 := by unfold Sm at ho; omega
  clear h hgg hsn hse ho
  have hqe : token.toList.isEmpty = true := by rw [htk]; simp
  obtain ⟨bs, hbs⟩ : ∃ bs, body.data.toList = bs := ⟨_, rfl⟩
  have hbl : bs.length ≤ 50000 := by rw [← hbs]; simpa using hbody
  have HTK : Hid (S (Di.tok bs) = T) := by unfold Hid; rw [← hTk, ← hbs, htk]; rfl
  have HCV : Hid (∀ W : World, ∃ W' c, (convert 9 72 (.string body)).run Tryd.prog W = .ok (.slice (some ⟨W.heap.size, 0, none⟩) bs.length c) W' ∧ Row W' (some ⟨W.heap.size, 0, none⟩) bs ∧ Below W.heap.size W W' ∧ W.heap.size < W'.heap.size ∧ bs.length ≤ c ∧ c ≤ 9223372036854775807) := fun W => by
    have := Gd.conv_any W body (by omega)
    rw [hbs] at this
    exact this
  clear hTk htk hbs
  go_enter Tryd.func11, Tryd.ntmps11
  go_wp2_with fail
  generalize (w.alloc (.cells #[Value.int .i64 nx, .slice ka kp.length kc, .slice ma mk.length mc, .string at'] 25)).alloc (.cells #[Value.int .i64 0, .slice none 0 0, .slice none 0 0, .string ⟨#[]⟩] 25) = w0 at *
  obtain ⟨R, hR⟩ : ∃ R, w.heap.size + 1 = R := ⟨_, rfl⟩
  rw [hR] at HR0 ⊢
  have h4 := HSZ.out
  have r1 : w.heap.size < R := by omega
  have r2 : R < w0.heap.size := by omega
  have n1 : ¬ w.heap.size = R := by omega
  have n2 : ¬ R = w.heap.size := by omega
  clear hR h4 HSZ
  refine (rcopy_any w0 ⟨nx, kp, mk, at'⟩ ka kc ma mc (HL.out.below HA.out) (by show kp.length ≤ _; omega) (by show mk.length ≤ _; omega)).mono ?_
  rintro e w1 ⟨ka1, kc1, ma1, mc1, rfl, hg1, hb1⟩
  simp only [gC]
  have HC0 := mkH (HB0.out.bel hb1)
  have HC1 := mkH (HR0.out.bel hb1)
  obtain ⟨d0, d1, d2, d3, f0, f1, f2, f3⟩ := HC0.out.four
  have HG1 := mkH hg1
  have HB1 : Hid (Below w.heap.size w w1) := HA.out.trans (hb1.mono HA.out.size)
  have hs1 := hb1.size
  clear hg1 hb1 HB0 HR0 HA
  go_upto_region 2 with fail
  obtain ⟨hX2, hF2⟩ := HC0.out.sAll (v0 := .int .i64 nx) (v1 := .slice ka1 kp.length kc1) (v2 := .slice ma1 mk.length mc1) (v3 := .string at')
  have hR2 := HC1.out.fr hF2 n2
  have hK2 := own_fr HG1.out.k hF2 (fun k hk hk2 => own_ne HG1.out.k HC0.out hk (by decide) hk2)
  have hM2 := own_fr HG1.out.m hF2 (fun k hk hk2 => own_ne HG1.out.m HC0.out hk (by decide) hk2)
  have hB2 := below_fr HB1.out hF2 (fun k hk => by omega) (Nat.le_refl _)
  have hs2 := hF2.size
  generalize (((w1.setCell ⟨w.heap.size, 0, none⟩ (.int .i64 nx)).setCell ⟨w.heap.size, 1, none⟩ (.slice ka1 kp.length kc1)).setCell ⟨w.heap.size, 2, none⟩ (.slice ma1 mk.length mc1)).setCell ⟨w.heap.size, 3, none⟩ (.string at') = w2 at *
  have HX2 := mkH hX2
  have HR2 := mkH hR2
  have HK2 := mkH hK2
  have HM2 := mkH hM2
  have HB2 := mkH hB2
  clear hX2 hR2 hK2 hM2 hB2 hF2 HC0 HC1 HG1 HB1 d0 d1 d2 d3 f0 f1 f2 f3
  obtain ⟨W', cc, hcv, hrow, hbW, hltW, hcl, hcu⟩ := HCV.out w2
  have HROW := mkH hrow
  have HBW := mkH hbW
  clear hrow hbW HCV
  go_wp2_with fail
  refine (Dr4.refToken_any W' _ cc bs HROW.out hbl).mono ?_
  rintro e w3 ⟨rfl, hb3⟩
  have hb23 : Below w2.heap.size w2 w3 := HBW.out.trans (hb3.mono HBW.out.size)
  have HX3 := mkH (HX2.out.bel hb23)
  have HR3 := mkH (HR2.out.bel hb23)
  have HK3 := mkH (own_below HK2.out hb23)
  have HM3 := mkH (own_below HM2.out hb23)
  have HB3 : Hid (Below w.heap.size w w3) := HB2.out.trans (hb23.mono HB2.out.size)
  have hs3 := hb23.size
  rw [HTK.out]
  clear hb3 hb23 HROW HBW hcv HX2 HR2 HK2 HM2 HB2 hltW hcl hcu
  obtain ⟨d0, d1, d2, d3, f0, f1, f2, f3⟩ := HX3.out.four
  obtain ⟨e0, e1, e2, e3, g0, g1, g2, g3⟩ := HR3.out.four
  have hw03 : w0.heap.size ≤ w3.heap.size := by omega
  go_wp2_with fail
  go_loopw [13] (fun i WW => WW = w3 ∧ ∃ j : Nat, j ≤ mk.length ∧ i = .int .i64 (j : Int) ∧ Hid (∀ k y, k < j → mk[k]? = some y → decide (y.tok = T) = false)) (fun i _ => mk.length - (intOf i).toNat)
  case atStart => exact ⟨rfl, 0, Nat.zero_le _, rfl, mkH (fun k x hk => by omega)⟩
  case round =>
    obtain ⟨hwr, j, hj, rfl, HN⟩ := hrel
    have hwr2 := hwr.symm
    subst hwr2
    clear hwr
    rcases Nat.lt_or_ge j mk.length with hjl | hjl
    · obtain ⟨x, hx⟩ := some_of hjl
      obtain ⟨b, off, hbo, z0, z1, z2⟩ := atM (RowS.own mC_len HM3.out) hx
      have hbR : b ≠ R := fun e => by
        obtain ⟨gk, hgk⟩ := own_some HM3.out (show 0 < mk.length by omega)
        rw [hgk] at hbo
        simp only [Option.some.injEq, Addr.mk.injEq] at hbo
        have := own_ne HM3.out HR3.out (k := gk) (by rw [hgk]; rfl) (by decide)
        omega
      subst hbo
      have jz : (j : Int) < (mk.length : Int) := by omega
      have HX := mkH hx
      clear hx
      obtain ⟨x0, x1, x2⟩ := x
      simp only at z0 z1 z2
      by_cases heq : x0 = T
      · have t1 : (x0.toList == T.toList) = true := by rw [strEq]; simpa using heq
        have hfi : mk.find? (fun m => decide (m.tok = T)) = some ⟨x0, x1, x2⟩ := Gd.find_idx _ _ j _ (idx_take _ _ j _ HX.out (by simpa using heq) HN.out) HX.out
        have q1 : gg = ⟨nx, kp, mk, at'⟩ := by rw [← HGG.out]; unfold sendG; rw [hfi]
        have q2 : x1 = sn := by rw [← HSN.out]; unfold sendN; rw [hfi]
        have q3 : se = 0 := by rw [← HSE.out]; unfold sendE; rw [hfi]
        subst q1 q2 q3
        clear hfi HGG HSN HSE heq
        go_wp2_with fail
        go_region
        all_goals
          go_wp2
          obtain ⟨hR7, hF7⟩ := HR3.out.sAll (v0 := .int .i64 nx) (v1 := .slice ka1 kp.length kc1) (v2 := .slice (some ⟨b, off, none⟩) mk.length mc1) (v3 := .string at')
          generalize (((w3.setCell ⟨R, 0, none⟩ (.int .i64 nx)).setCell ⟨R, 1, none⟩ (.slice ka1 kp.length kc1)).setCell ⟨R, 2, none⟩ (.slice (some ⟨b, off, none⟩) mk.length mc1)).setCell ⟨R, 3, none⟩ (.string at') = w7 at *
          have hD : Fr (fun k => k = R) w3 w7.drew := ⟨hF7.os, hF7.tape, hF7.output, hF7.size, hF7.block⟩
          refine bodyPost_ret (res_ctt rfl _ _ _ rfl rfl rfl (loadG (show Bx w7.drew R _ _ from hR7))) rfl ⟨ka1, kc1, some ⟨b, off, none⟩, mc1, rfl, ⟨?_, ?_⟩, ?_⟩
          · exact own_mono (own_fr HK3.out hD (fun k hk hkw => own_ne HK3.out HR3.out hk (by decide) hkw)) (by omega)
          · exact own_mono (own_fr HM3.out hD (fun k hk hkw => own_ne HM3.out HR3.out hk (by decide) hkw)) (by omega)
          · exact below_fr HB3.out hD (by intro k hk; omega) (Nat.le_refl _)
      · have t1 : (x0.toList == T.toList) = false := by rw [strEq]; simpa using heq
        have HNE : Hid (decide (x0 = T) = false) := by unfold Hid; simpa using heq
        clear heq
        go_wp2
        go_roundw
        case rel => exact ⟨trivial, j + 1, by omega, by go_num, mkH (fun k y hk hy => by
          rcases Nat.lt_or_ge k j with h | h
          · exact HN.out k y h hy
          · obtain rfl : k = j := by omega
            rw [HX.out] at hy; cases hy; exact HNE.out)⟩
        case measure => simp [intOf]; omega
    · obtain rfl : j = mk.length := by omega
      have hfn : mk.find? (fun m => decide (m.tok = T)) = none := Gd.find_none _ _ (idx_none _ _ (fun x hx => by
        obtain ⟨k, hk⟩ := List.getElem?_of_mem hx
        exact HN.out k x (lt_of hk) hk))
      by_cases hful : 12 ≤ kp.length ∨ 40 ≤ mk.length
      · have q1 : gg = ⟨nx, kp, mk, at'⟩ := by rw [← HGG.out]; unfold sendG; rw [hfn]; simp only; rw [if_pos hful]
        have q2 : sn = 0 := by rw [← HSN.out]; unfold sendN; rw [hfn]; simp only; rw [if_pos hful]
        have q3 : se = 7 := by rw [← HSE.out]; unfold sendE; rw [hfn]; simp only; rw [if_pos hful]
        subst q1 q2 q3
        clear hfn HGG HSN HSE
        by_cases h12 : 12 ≤ kp.length
        · have t1 : (11 : Int) < (kp.length : Int) := by omega
          have t2 : decide ((11 : Int) < (kp.length : Int)) = true := by simp; omega
          go_wp2
          obtain ⟨hR7, hF7⟩ := HR3.out.sAll (v0 := .int .i64 nx) (v1 := .slice ka1 kp.length kc1) (v2 := .slice ma1 mk.length mc1) (v3 := .string at')
          generalize (((w3.setCell ⟨R, 0, none⟩ (.int .i64 nx)).setCell ⟨R, 1, none⟩ (.slice ka1 kp.length kc1)).setCell ⟨R, 2, none⟩ (.slice ma1 mk.length mc1)).setCell ⟨R, 3, none⟩ (.string at') = w7 at *
          refine bodyPost_ret (res_ctt rfl _ _ _ rfl rfl rfl (loadG hR7)) rfl ⟨ka1, kc1, ma1, mc1, rfl, ⟨?_, ?_⟩, ?_⟩
          · exact own_mono (own_fr HK3.out hF7 (fun k hk hkw => own_ne HK3.out HR3.out hk (by decide) hkw)) (by omega)
          · exact own_mono (own_fr HM3.out hF7 (fun k hk hkw => own_ne HM3.out HR3.out hk (by decide) hkw)) (by omega)
          · exact below_fr HB3.out hF7 (by intro k hk; omega) (Nat.le_refl _)
        · have t1 : ¬ (11 : Int) < (kp.length : Int) := by omega
          have t2 : decide ((11 : Int) < (kp.length : Int)) = false := by simp; omega
          have t3 : (39 : Int) < (mk.length : Int) := by omega
          have t4 : decide ((39 : Int) < (mk.length : Int)) = true := by simp; omega
          go_wp2
          obtain ⟨hR7, hF7⟩ := HR3.out.sAll (v0 := .int .i64 nx) (v1 := .slice ka1 kp.length kc1) (v2 := .slice ma1 mk.length mc1) (v3 := .string at')
          generalize (((w3.setCell ⟨R, 0, none⟩ (.int .i64 nx)).setCell ⟨R, 1, none⟩ (.slice ka1 kp.length kc1)).setCell ⟨R, 2, none⟩ (.slice ma1 mk.length mc1)).setCell ⟨R, 3, none⟩ (.string at') = w7 at *
          refine bodyPost_ret (res_ctt rfl _ _ _ rfl rfl rfl (loadG hR7)) rfl ⟨ka1, kc1, ma1, mc1, rfl, ⟨?_, ?_⟩, ?_⟩
          · exact own_mono (own_fr HK3.out hF7 (fun k hk hkw => own_ne HK3.out HR3.out hk (by decide) hkw)) (by omega)
          · exact own_mono (own_fr HM3.out hF7 (fun k hk hkw => own_ne HM3.out HR3.out hk (by decide) hkw)) (by omega)
          · exact below_fr HB3.out hF7 (by intro k hk; omega) (Nat.le_refl _)
      · have q1 : gg = ⟨nx + 1, kp ++ [⟨nx, now, 0, 0, frm, body⟩], mk ++ [⟨T, nx, now⟩], at'⟩ := by rw [← HGG.out]; unfold sendG; rw [hfn]; simp only; rw [if_neg hful]
        have q2 : nx = sn := by rw [← HSN.out]; unfold sendN; rw [hfn]; simp only; rw [if_neg hful]
        have q3 : se = 0 := by rw [← HSE.out]; unfold sendE; rw [hfn]; simp only; rw [if_neg hful]
        obtain ⟨kq, hkq⟩ : ∃ kq, kp ++ [(⟨nx, now, 0, 0, frm, body⟩ : K)] = kq := ⟨_, rfl⟩
        obtain ⟨mq, hmq⟩ : ∃ mq, mk ++ [(⟨T, nx, now⟩ : M)] = mq := ⟨_, rfl⟩
        rw [hkq, hmq] at q1
        have HKQ := mkH hkq
        have HMQ := mkH hmq
        have HLK : Hid (kp.length + 1 = kq.length) := by unfold Hid; rw [← hkq]; simp
        have HLM : Hid (mk.length + 1 = mq.length) := by unfold Hid; rw [← hmq]; simp
        subst q1 q2 q3
        have t1 : ¬ (11 : Int) < (kp.length : Int) := by omega
        have t2 : decide ((11 : Int) < (kp.length : Int)) = false := by simp; omega
        have t3 : ¬ (39 : Int) < (mk.length : Int) := by omega
        have t4 : decide ((39 : Int) < (mk.length : Int)) = false := by simp; omega
        have hkd := own_kinds HK3.out HM3.out (by decide)
        have hal : Below w3.heap.size w3 (w3.alloc (.cells #[.int .i64 nx, .int .i64 now, .int .i64 0, .int .i64 0, .int .i64 frm, .string body] 64)) := (Below.refl _ w3).alloc (Nat.le_refl _) _
        have HS4 := mkH (newK w3 ⟨nx, now, 0, 0, frm, body⟩ 64)
        simp only [kC] at HS4
        have HK4 := mkH (own_below HK3.out hal)
        have HM4 := mkH (own_below HM3.out hal)
        have HX4 := mkH (HX3.out.bel hal)
        have HR4 := mkH (HR3.out.bel hal)
        have HB4 : Hid (Below w.heap.size w (w3.alloc (.cells #[.int .i64 nx, .int .i64 now, .int .i64 0, .int .i64 0, .int .i64 frm, .string body] 64))) := HB3.out.trans (hal.mono HB3.out.size)
        have HSz : Hid ((w3.alloc (.cells #[.int .i64 nx, .int .i64 now, .int .i64 0, .int .i64 0, .int .i64 frm, .string body] 64)).heap.size = w3.heap.size + 1) := by unfold Hid; simp
        have nX : ¬ w.heap.size = w3.heap.size := by have := HX3.out.lt; omega
        clear hfn HGG HSN HSE hful hkq hmq hal hkd HN
        go_upto_region 12 with (at_builtin; refine (wpList_append_own_src _ rfl (.tmp 55) (.tmp 62) 22 22 rfl w0.heap.size 64 _ 6 56 Tryd.underlying22 infoK rfl (by decide) _ kp.length (Fk kp) rfl HK4.out _ 1 (Fk [⟨nx, now, 0, 0, frm, body⟩]) rfl HS4.out ?h63 ?hby ?hbs ?_))
        case h63 => unfold maxLen; omega
        case hby => omega
        case hbs => have := HSz.out; omega
        intro v5 w5 hown hgr
        rw [show Fk kp ++ Fk [⟨nx, now, 0, 0, frm, body⟩] = Fk kq by rw [← HKQ.out]; exact (Fl_append _ _).symm, HLK.out] at hown
        obtain ⟨ka5, kc5, rfl⟩ := own_form hown
        have hf := fr_grown hgr
        have hX5 := HX4.out.fr hf (fun hk => own_ne HK4.out HX4.out hk (by decide) rfl)
        have hR5 := HR4.out.fr hf (fun hk => own_ne HK4.out HR4.out hk (by decide) rfl)
        have hkd5 := own_kinds HK4.out HM4.out (by decide)
        have hM5 := own_fr HM4.out hf (fun k hk hk2 => hkd5 k hk2 hk)
        have HB5 : Hid (Below w.heap.size w w5) := below_fr HB4.out hf (fun k hk => by have := (HK4.out.lt k hk).1; omega) (Nat.le_refl _)
        have hs5 : w0.heap.size ≤ w5.heap.size := by have := hf.size; have := HSz.out; omega
        have HX5 := mkH hX5
        have HR5 := mkH hR5
        have HM5 := mkH hM5
        have HK5 := mkH hown
        clear hX5 hR5 hkd5 hM5 hown hf hgr HX4 HR4 HK4 HM4 HB4 HS4 HSz d0 d1 d2 d3 f0 f1 f2 f3 e0 e1 e2 e3 g0 g1 g2 g3 HX3 HR3 HK3 HM3 HB3
        obtain ⟨d0, d1, d2, d3, f0, f1, f2, f3⟩ := HX5.out.four
        go_upto_region 12 with fail
        have hX6 := HX5.out.s1 (.slice ka5 kq.length kc5)
        have hF6 := HX5.out.frset 1 (.slice ka5 kq.length kc5)
        have hR6 := HR5.out.fr hF6 n2
        have hK6 := own_fr HK5.out hF6 (fun k hk hk2 => own_ne HK5.out HX5.out hk (by decide) hk2)
        have hM6 := own_fr HM5.out hF6 (fun k hk hk2 => own_ne HM5.out HX5.out hk (by decide) hk2)
        have hB6 := below_fr HB5.out hF6 (by intro k hk; omega) (Nat.le_refl _)
        have hs6 := hF6.size
        generalize w5.setCell ⟨w.heap.size, 1, none⟩ (.slice ka5 kq.length kc5) = w6 at *
        have hal : Below w6.heap.size w6 (w6.alloc (.cells #[.string T, .int .i64 nx, .int .i64 now] 70)) := (Below.refl _ w6).alloc (Nat.le_refl _) _
        have HS6 := mkH (newM w6 ⟨T, nx, now⟩ 70)
        simp only [mC] at HS6
        have HK7 := mkH (own_below hK6 hal)
        have HM7 := mkH (own_below hM6 hal)
        have HX7 := mkH (hX6.bel hal)
        have HR7 := mkH (hR6.bel hal)
        have HB7 : Hid (Below w.heap.size w (w6.alloc (.cells #[.string T, .int .i64 nx, .int .i64 now] 70))) := hB6.trans (hal.mono hB6.size)
        have HSz : Hid ((w6.alloc (.cells #[.string T, .int .i64 nx, .int .i64 now] 70)).heap.size = w6.heap.size + 1) := by unfold Hid; simp
        have nY : ¬ w.heap.size = w6.heap.size := by have := hX6.lt; omega
        clear d0 d1 d2 d3 f0 f1 f2 f3
        obtain ⟨d0, d1, d2, d3, f0, f1, f2, f3⟩ := hX6.four
        clear hX6 hF6 hR6 hK6 hM6 hB6 hal HX5 HR5 HK5 HM5 HB5
        go_upto_region 13 with (at_builtin; refine (wpList_append_own_src _ rfl (.tmp 66) (.tmp 72) 23 23 rfl w0.heap.size 70 _ 3 32 Tryd.underlying23 infoM rfl (by decide) _ mk.length (Fm mk) rfl HM7.out _ 1 (Fm [⟨T, nx, now⟩]) rfl HS6.out ?h63 ?hby ?hbs ?_))
        case h63 => unfold maxLen; omega
        case hby => omega
        case hbs => have := HSz.out; omega
        intro v8 w8 hown hgr
        rw [show Fm mk ++ Fm [⟨T, nx, now⟩] = Fm mq by rw [← HMQ.out]; exact (Fl_append _ _).symm, HLM.out] at hown
        obtain ⟨ma5, mc5, rfl⟩ := own_form hown
        have hf := fr_grown hgr
        have hX8 := HX7.out.fr hf (fun hk => own_ne HM7.out HX7.out hk (by decide) rfl)
        have hR8 := HR7.out.fr hf (fun hk => own_ne HM7.out HR7.out hk (by decide) rfl)
        have hkd8 := own_kinds HK7.out HM7.out (by decide)
        have hK8 := own_fr HK7.out hf (fun k hk hk2 => hkd8 k hk hk2)
        have HB8 : Hid (Below w.heap.size w w8) := below_fr HB7.out hf (fun k hk => by have := (HM7.out.lt k hk).1; omega) (Nat.le_refl _)
        have HX8 := mkH hX8
        have HR8 := mkH hR8
        have HK8 := mkH hK8
        have HM8 := mkH hown
        clear hX8 hR8 hkd8 hK8 hown hf hgr HX7 HR7 HK7 HM7 HB7 HS6 HSz d0 d1 d2 d3 f0 f1 f2 f3
        obtain ⟨d0, d1, d2, d3, f0, f1, f2, f3⟩ := HX8.out.four
        go_upto_region 13 with fail
        have hX9 := HX8.out.s2 (.slice ma5 mq.length mc5)
        have hF9 := HX8.out.frset 2 (.slice ma5 mq.length mc5)
        have hR9 := HR8.out.fr hF9 n2
        have hK9 := own_fr HK8.out hF9 (fun k hk hk2 => own_ne HK8.out HX8.out hk (by decide) hk2)
        have hM9 := own_fr HM8.out hF9 (fun k hk hk2 => own_ne HM8.out HX8.out hk (by decide) hk2)
        have hB9 := below_fr HB8.out hF9 (by intro k hk; omega) (Nat.le_refl _)
        generalize w8.setCell ⟨w.heap.size, 2, none⟩ (.slice ma5 mq.length mc5) = w9 at *
        have HX9 := mkH hX9
        have HR9 := mkH hR9
        have HK9 := mkH hK9
        have HM9 := mkH hM9
        have HB9 := mkH hB9
        clear hX9 hR9 hK9 hM9 hB9 hF9 HX8 HR8 HK8 HM8 HB8 d0 d1 d2 d3 f0 f1 f2 f3
        obtain ⟨d0, d1, d2, d3, f0, f1, f2, f3⟩ := HX9.out.four
        go_upto_region 14 with fail
        have hX9 := HX9.out.s0 (.int .i64 (nx + 1))
        have hF9 := HX9.out.frset 0 (.int .i64 (nx + 1))
        have hR9 := HR9.out.fr hF9 n2
        have hK9 := own_fr HK9.out hF9 (fun k hk hk2 => own_ne HK9.out HX9.out hk (by decide) hk2)
        have hM9 := own_fr HM9.out hF9 (fun k hk hk2 => own_ne HM9.out HX9.out hk (by decide) hk2)
        have hB9 := below_fr HB9.out hF9 (by intro k hk; omega) (Nat.le_refl _)
        generalize w9.setCell ⟨w.heap.size, 0, none⟩ (.int .i64 (nx + 1)) = w10 at *
        have HX10 := mkH hX9
        have HR10 := mkH hR9
        have HK10 := mkH hK9
        have HM10 := mkH hM9
        have HB10 := mkH hB9
        clear hX9 hR9 hK9 hM9 hB9 hF9 HX9 HR9 HK9 HM9 HB9 d0 d1 d2 d3 f0 f1 f2 f3
        obtain ⟨d0, d1, d2, d3, f0, f1, f2, f3⟩ := HX10.out.four
        obtain ⟨e0, e1, e2, e3, g0, g1, g2, g3⟩ := HR10.out.four
        go_region
        all_goals
          go_wp2
          obtain ⟨hR7, hF7⟩ := HR10.out.sAll (v0 := .int .i64 (nx + 1)) (v1 := .slice ka5 kq.length kc5) (v2 := .slice ma5 mq.length mc5) (v3 := .string at')
          generalize (((w10.setCell ⟨R, 0, none⟩ (.int .i64 (nx + 1))).setCell ⟨R, 1, none⟩ (.slice ka5 kq.length kc5)).setCell ⟨R, 2, none⟩ (.slice ma5 mq.length mc5)).setCell ⟨R, 3, none⟩ (.string at') = w7 at *
          have hD : Fr (fun k => k = R) w10 w7.drew := ⟨hF7.os, hF7.tape, hF7.output, hF7.size, hF7.block⟩
          refine bodyPost_ret (res_ctt rfl _ _ _ rfl rfl rfl (loadG (show Bx w7.drew R _ _ from hR7))) rfl ⟨ka5, kc5, ma5, mc5, rfl, ⟨?_, ?_⟩, ?_⟩
          · exact own_mono (own_fr HK10.out hD (fun k hk hkw => own_ne HK10.out HR10.out hk (by decide) hkw)) (by omega)
          · exact own_mono (own_fr HM10.out hD (fun k hk hkw => own_ne HM10.out HR10.out hk (by decide) hkw)) (by omega)
          · exact below_fr HB10.out hD (by intro k hk; omega) (Nat.le_refl _)
end Go.Proofs.YtbemindfmghjdaaDoor.Grs
