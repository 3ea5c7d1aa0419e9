/-
  The walk of DigestCopies.
-/
import Derived.Test.YtnnhimoihbdopaaDoorDgY
namespace Go.Proofs.YtnnhimoihbdopaaDoor.Dcp
open Go.RowKit Kt Dk Dw Ds Dt De Df Dg Dh Di Dx Dy
set_option linter.unusedVariables false
set_option maxRecDepth 20000

set_option maxHeartbeats 4000000 in
theorem copies_walk (w : World) (hT : Tb w) (ao bo co : Option Addr) (ca cb cc : Nat) (za zb zc : List UInt8) (hra : Row w ao za) (hla : za.length ≤ ca) (hca : ca ≤ 9223372036854775807) (hrb : Row w bo zb) (hlb : zb.length ≤ cb) (hcb : cb ≤ 9223372036854775807) (hrc : Row w co zc) (hlc : zc.length ≤ cc) (hcc : cc ≤ 9223372036854775807) :
    Calls Tryd.prog 6 #[.slice ao za.length ca, .slice bo zb.length cb, .slice co zc.length cc] w fun e w' => e = .returned (.bool true) ∧ Below w.heap.size w w' := by
  have hT0 := hT.size
  go_enter Tryd.func6, Tryd.ntmps6
  go_wp2_with fail
  refine (few_sl w ao ca za hra hla hca).mono ?_
  rintro e w1 ⟨a1, c1, rfl, hsa, hna, -, hb1⟩
  obtain ⟨xa, hxa⟩ : ∃ x, za.take 2000 = x := ⟨_, rfl⟩
  have hal : xa.length ≤ 2000 := by rw [← hxa, List.length_take]; omega
  rw [hxa] at hsa ⊢
  clear hra hxa hla
  go_wp2_with fail
  refine (few_sl w1 bo cb zb (hrb.below hb1) hlb hcb).mono ?_
  rintro e w2 ⟨a2, c2, rfl, hsb, hnb, -, hb2⟩
  obtain ⟨xb, hxb⟩ : ∃ x, zb.take 2000 = x := ⟨_, rfl⟩
  have hbl : xb.length ≤ 2000 := by rw [← hxb, List.length_take]; omega
  rw [hxb] at hsb ⊢
  have hsa := hsa.below hb2
  have hb2 := hb1.trans (hb2.mono hb1.size)
  clear hrb hxb hlb hb1
  go_wp2_with fail
  refine (few_sl w2 co cc zc (hrc.below hb2) hlc hcc).mono ?_
  rintro e w3 ⟨a3, c3, rfl, hsc, hnc, -, hb3⟩
  obtain ⟨xc, hxc⟩ : ∃ x, zc.take 2000 = x := ⟨_, rfl⟩
  have hcl : xc.length ≤ 2000 := by rw [← hxc, List.length_take]; omega
  rw [hxc] at hsc ⊢
  have hsa := hsa.below hb3
  have hsb := hsb.below hb3
  have hb3 := hb2.trans (hb3.mono hb2.size)
  clear hrc hxc hlc hb2 hna hnb hnc
  go_wp2_with fail
  refine (new_any w3).mono ?_
  rintro e w4 ⟨rfl, h4, hb4⟩
  obtain ⟨g, hg⟩ : ∃ g, w3.heap.size = g := ⟨_, rfl⟩
  have hag : ∀ a, a1 = some a → a.block ≠ g := fun a ha => by have := hsa.2.1 a ha; omega
  have hbg : ∀ a, a2 = some a → a.block ≠ g := fun a ha => by have := hsb.2.1 a ha; omega
  have hcg : ∀ a, a3 = some a → a.block ≠ g := fun a ha => by have := hsc.2.1 a ha; omega
  have hsa := hsa.below hb4
  have hsb := hsb.below hb4
  have hsc := hsc.below hb4
  have hgw : w.heap.size ≤ g := by have := hb3.size; omega
  have hb4 := hb3.trans (hb4.mono hb3.size)
  rw [hg] at h4 ⊢
  clear hb3 hg
  go_wp2_with fail
  refine (write_any w4 g [] a1 c1 xa (hT.below hb4 hT0) (by omega) h4 ⟨hsa.1, hag⟩ (by simp; omega) hsa.2.2.1 hsa.2.2.2).mono ?_
  rintro e w5 ⟨rfl, h5, ho5⟩
  rw [List.nil_append] at h5
  have hsa := hsa.only hag ho5
  have hsb := hsb.only hbg ho5
  have hsc := hsc.only hcg ho5
  have hb5 := hb4.trans (ho5.below hgw hb4.size)
  clear h4 hb4 ho5
  go_wp2_with fail
  refine (copy_any w5 g xa h5).mono ?_
  rintro e w6 ⟨rfl, k6, hb6⟩
  obtain ⟨q, hq⟩ : ∃ q, w5.heap.size = q := ⟨_, rfl⟩
  have hgq : g ≠ q := by have := hs_lt h5; omega
  have hcq : ∀ a, a3 = some a → a.block ≠ q := fun a ha => by have := hsc.2.1 a ha; omega
  have haq : ∀ a, a1 = some a → a.block ≠ q := fun a ha => by have := hsa.2.1 a ha; omega
  have hbq0 : ∀ a, a2 = some a → a.block ≠ q := fun a ha => by have := hsb.2.1 a ha; omega
  have h6 := hs_below h5 hb6 (hs_lt h5)
  have hsa := hsa.below hb6
  have hsb := hsb.below hb6
  have hsc := hsc.below hb6
  have hqw : w.heap.size ≤ q := by have := hb5.size; omega
  have hb6 := hb5.trans (hb6.mono hb5.size)
  rw [hq] at k6 ⊢
  clear h5 hb5 hq
  go_wp2_with fail
  refine (len_any w6 q xa k6).mono ?_
  rintro e w7 ⟨rfl, hw7⟩
  have hw7' := hw7.symm
  subst hw7'
  clear hw7
  go_wp2_with fail
  refine (sum_any w6 q xa (hT.below hb6 hT0) k6 (by omega)).mono ?_
  rintro e w7 ⟨rfl, hb7⟩
  have h7 := hs_below h6 hb7 (hs_lt h6)
  have k7 := hs_below k6 hb7 (hs_lt k6)
  have hsa := hsa.below hb7
  have hsb := hsb.below hb7
  have hsc := hsc.below hb7
  have hb7 := hb6.trans (hb7.mono hb6.size)
  clear h6 k6 hb6
  go_wp2_with fail
  refine (sum_any w7 g xa (hT.below hb7 hT0) h7 (by omega)).mono ?_
  rintro e w8 ⟨rfl, hb8⟩
  have h8 := hs_below h7 hb8 (hs_lt h7)
  have k8 := hs_below k7 hb8 (hs_lt k7)
  have hsa := hsa.below hb8
  have hsb := hsb.below hb8
  have hsc := hsc.below hb8
  have hb8 := hb7.trans (hb8.mono hb7.size)
  have hne := fun W => neq_arr W (Dp.dig xa) (Dp.dig_length xa)
  clear h7 k7 hb7
  go_wp2_with fail
  refine (write_any w8 g xa a2 c2 xb (hT.below hb8 hT0) (by omega) h8 ⟨hsb.1, hbg⟩ (by omega) hsb.2.2.1 hsb.2.2.2).mono ?_
  rintro e w9 ⟨rfl, h9, ho9⟩
  have k9 := hs_only k8 ho9 (Ne.symm hgq)
  have hsa := hsa.only hag ho9
  have hsb := hsb.only hbg ho9
  have hsc := hsc.only hcg ho9
  have hb9 := hb8.trans (ho9.below hgw hb8.size)
  clear h8 k8 hb8 ho9 hne
  go_wp2_with fail
  refine (write_any w9 q xa a3 c3 xc (hT.below hb9 hT0) (by omega) k9 ⟨hsc.1, hcq⟩ (by omega) hsc.2.2.1 hsc.2.2.2).mono ?_
  rintro e w10 ⟨rfl, k10, ho10⟩
  have h10 := hs_only h9 ho10 hgq
  have hbq : ∀ a, a2 = some a → a.block ≠ q := fun a ha => hbq0 a ha
  have hsa := hsa.only haq ho10
  have hsb := hsb.only hbq ho10
  have hsc := hsc.only hcq ho10
  have hb10 := hb9.trans (ho10.below hqw hb9.size)
  clear h9 k9 hb9 ho10
  go_wp2_with fail
  refine (sum_any w10 g (xa ++ xb) (hT.below hb10 hT0) h10 (by rw [List.length_append]; omega)).mono ?_
  rintro e w11 ⟨rfl, hb11⟩
  have k11 := hs_below k10 hb11 (hs_lt k10)
  have hsa := hsa.below hb11
  have hsb := hsb.below hb11
  have hsc := hsc.below hb11
  have hb11 := hb10.trans (hb11.mono hb10.size)
  clear h10 k10 hb10
  go_wp2_with (at_builtin; refine (wpList_append_own_src _ rfl (.tmp 52) (.tmp 53) 22 22 rfl w11.heap.size 5 (.int .u8 0) 1 1 Tryd.underlying22 info5 rfl (by decide) _ 0 [] rfl (World.ownsRow_made w11 #[] 0 (Nat.le_refl _) (Nat.zero_le _) rfl) _ xa.length (U xa) rfl ?hsrcx ?h63x ?hbyx ?hbsx ?_))
  case hsrcx => exact Row.src (P := Tryd.prog) Tryd.underlying22 (hsa.below ((Below.refl _ w11).alloc (Nat.le_refl _) (.cells #[] 5))).1 c1
  case h63x => unfold maxLen; omega
  case hbyx => omega
  case hbsx => simp
  intro vx ux hownx hgrowx
  have hux := below_own (World.ownsRow_made (e := 5) (size := 1) w11 #[] 0 (Nat.le_refl _) (Nat.zero_le _) rfl) hgrowx ((Below.refl w11.heap.size w11).alloc (Nat.le_refl _) (.cells #[] 5)) (by simp)
  have hownx : ux.ownsRow w11.heap.size 5 1 vx xa.length (U xa) := by simpa using hownx
  clear hgrowx
  go_wp2_with (at_builtin; refine (wpList_append_own_src _ rfl (.tmp 54) (.tmp 55) 22 22 rfl w11.heap.size 5 (.int .u8 0) 1 1 Tryd.underlying22 info5 rfl (by decide) _ xa.length (U xa) rfl hownx _ xb.length (U xb) rfl ?hsrcbx ?h63bx ?hbybx ?hbsbx ?_))
  case hsrcbx => exact Row.src (P := Tryd.prog) Tryd.underlying22 (hsb.below hux).1 c2
  case h63bx => unfold maxLen; omega
  case hbybx => omega
  case hbsbx => exact hux.size
  intro vxb uxb hownxb hgrowxb
  have huxb := below_own hownx hgrowxb hux hux.size
  rw [← U_append] at hownxb
  have hlx : (xa ++ xb).length ≤ 4000 := by rw [List.length_append]; omega
  generalize xa ++ xb = yx at hownxb hlx ⊢
  obtain ⟨axb, cxb, rfl, hsxb, -⟩ := Sl.own hownxb
  clear hownx hgrowxb hownxb hux
  have k12 := hs_below k11 huxb (hs_lt k11)
  have hsa := hsa.below huxb
  have hsc := hsc.below huxb
  have hb12 := hb11.trans (huxb.mono hb11.size)
  clear k11 hb11 huxb hsb
  go_wp2_with fail
  refine (of_sl uxb axb cxb yx (hT.below hb12 hT0) hsxb (by omega)).mono ?_
  rintro e w13 ⟨rfl, hb13⟩
  have k13 := hs_below k12 hb13 (hs_lt k12)
  have hsa := hsa.below hb13
  have hsc := hsc.below hb13
  have hb13 := hb12.trans (hb13.mono hb12.size)
  have hne1 := fun W => neq_arr W (Dp.dig yx) (Dp.dig_length _)
  clear k12 hb12 hsxb
  go_wp2_with fail
  refine (sum_any w13 q (xa ++ xc) (hT.below hb13 hT0) k13 (by rw [List.length_append]; omega)).mono ?_
  rintro e w14 ⟨rfl, hb14⟩
  have hsa := hsa.below hb14
  have hsc := hsc.below hb14
  have hb14 := hb13.trans (hb14.mono hb13.size)
  clear k13 hb13 hne1
  go_wp2_with (at_builtin; refine (wpList_append_wanted rfl (.tmp 62) (.tmp 63) 22 22 rfl w14.heap.size 5 (.int .u8 0) 1 1 Tryd.underlying22 info5 rfl (by decide) _ 0 [] rfl (World.ownsRow_made w14 #[] 0 (Nat.le_refl _) (Nat.zero_le _) rfl) _ xa.length (U xa) rfl ?hsrcy ?h63y ?hbyy ?hbsy ?_))
  case hsrcy => exact Row.src (P := Tryd.prog) Tryd.underlying22 (hsa.below ((Below.refl _ w14).alloc (Nat.le_refl _) (.cells #[] 5))).1 c1
  case h63y => unfold maxLen; omega
  case hbyy => omega
  case hbsy => simp
  intro vy uy howny hgrowy
  have huy := below_own (World.ownsRow_made (e := 5) (size := 1) w14 #[] 0 (Nat.le_refl _) (Nat.zero_le _) rfl) hgrowy ((Below.refl w14.heap.size w14).alloc (Nat.le_refl _) (.cells #[] 5)) (by simp)
  have howny : uy.ownsRow w14.heap.size 5 1 vy xa.length (U xa) := by simpa using howny
  clear hgrowy
  go_wp2_with (at_builtin; refine (wpList_append_wanted rfl (.tmp 64) (.tmp 65) 22 22 rfl w14.heap.size 5 (.int .u8 0) 1 1 Tryd.underlying22 info5 rfl (by decide) _ xa.length (U xa) rfl howny _ xc.length (U xc) rfl ?hsrcby ?h63by ?hbyby ?hbsby ?_))
  case hsrcby => exact Row.src (P := Tryd.prog) Tryd.underlying22 (hsc.below huy).1 c3
  case h63by => unfold maxLen; omega
  case hbyby => omega
  case hbsby => exact huy.size
  intro vyb uyb hownyb hgrowyb
  have huyb := below_own howny hgrowyb huy huy.size
  rw [← U_append] at hownyb
  have hly : (xa ++ xc).length ≤ 4000 := by rw [List.length_append]; omega
  generalize xa ++ xc = yy at hownyb hly ⊢
  obtain ⟨ayb, cyb, rfl, hsyb, -⟩ := Sl.own hownyb
  clear howny hgrowyb hownyb huy
  have hsa := hsa.below huyb
  have hb15 := hb14.trans (huyb.mono hb14.size)
  clear hb14 huyb hsc
  go_wp2_with fail
  refine (of_sl uyb ayb cyb yy (hT.below hb15 hT0) hsyb (by omega)).mono ?_
  rintro e w16 ⟨rfl, hb16⟩
  have hsa := hsa.below hb16
  have hb16 := hb15.trans (hb16.mono hb15.size)
  have hne2 := fun W => neq_arr W (Dp.dig yy) (Dp.dig_length _)
  clear hb15 hsyb
  go_upto_region 12 with fail
  obtain ⟨C0, hbC, hC0⟩ := build_hash0
  have HBC := mkH hbC
  clear hbC hne2
  go_step
  refine Dg.wpList_build rfl 42 #[] rfl #[] (by simp) (.agg C0) (HBC.out _) ?_
  go_wp2_with fail
  obtain ⟨B, hB⟩ : ∃ B, w16.heap.size = B := ⟨_, rfl⟩
  rw [hB]
  have hW : ∃ W0, W0 = (w16.alloc (.cells C0 42)).alloc (.cells #[.pointer none, .pointer (some ⟨B, 0, none⟩)] 30) ∧ Below w16.heap.size w16 W0 ∧ Un W0 (some ⟨B, 0, none⟩) ∧ W0.cell? ⟨B + 1, 0, none⟩ = some (.pointer none) ∧ W0.cell? ⟨B + 1, 1, none⟩ = some (.pointer (some ⟨B, 0, none⟩)) := by
    refine ⟨_, rfl, ((Below.refl _ w16).alloc (Nat.le_refl _) _).alloc (by simp) _, ?_, ?_, ?_⟩
    · apply un_not
      have h1 : ((w16.alloc (.cells C0 42)).alloc (.cells #[.pointer none, .pointer (some ⟨B, 0, none⟩)] 30)).heap[B]? = some (.cells C0 42 (0, 0)) := by
        rw [Below.heap_alloc _ _ _ (by simp; omega), ← hB]; exact heap_alloc_new _ _
      rw [cell_of_row _ _ _ _ _ _ h1]; exact hC0
    · have := cell_new_atF (w16.alloc (.cells C0 42)) #[.pointer none, .pointer (some ⟨B, 0, none⟩)] 30 (0, 0) 0 _ rfl
      rwa [World.size_alloc, hB] at this
    · have := cell_new_atF (w16.alloc (.cells C0 42)) #[.pointer none, .pointer (some ⟨B, 0, none⟩)] 30 (0, 0) 1 _ rfl
      rwa [World.size_alloc, hB] at this
  obtain ⟨W0, hW0, hbW, hUn, cn, cp⟩ := hW
  rw [← hW0]
  have hbW0 := hb16.trans (hbW.mono hb16.size)
  have hBl : B + 1 < W0.heap.size := World.block_lt_of_cell? W0 _ cn
  have HUN := mkH (un_nil W0)
  have HUP := mkH hUn
  clear hW0 hbW hb16 hB HBC hUn hsa
  obtain ⟨D0, hD0⟩ : ∃ D0, D0 = (U (List.replicate 32 0)).toArray := ⟨_, rfl⟩
  have HBZ := mkH build_zero
  have HSU := mkH sum_un
  have hne0 := fun W => neq_arr W (List.replicate 32 0) (by simp)
  rw [← hD0] at HBZ HSU hne0
  clear hD0
  go_loopw [74] (fun i W => ∃ j : Nat, j ≤ 2 ∧ i = .int .i64 j ∧ Below W0.heap.size W0 W) (fun i _ => 2 - (intOf i).toNat)
  case atStart => exact ⟨0, by omega, rfl, Below.refl _ _⟩
  case round =>
    obtain ⟨j, hj, rfl, hbw⟩ := hrel
    by_cases hj2 : j = 2
    · have t0 : decide ((j : Int) < 2) = false := by simp; omega
      subst hj2
      have hBr := hbW0.trans (hbw.mono hbW0.size)
      clear hbw cn cp hne0
      go_wp2_with fail
      refine (works_any wr (hT.below hBr hT0)).mono ?_
      rintro e w9 ⟨rfl, hb9⟩
      go_wp2
      go_ret
      exact ⟨rfl, hBr.trans (hb9.mono hBr.size)⟩
    · have t0 : decide ((j : Int) < 2) = true := by simp; omega
      have hj0 : (j : Int) < 2 := by omega
      obtain ⟨p, hp, hup⟩ : ∃ p, wr.cell? ⟨B + 1, j, none⟩ = some (.pointer p) ∧ Un wr p := by
        obtain h | h : j = 0 ∨ j = 1 := by omega
        · subst h; exact ⟨none, by rw [hbw.cell (p := ⟨B + 1, 0, none⟩) hBl]; exact cn, HUN.out.below hbw⟩
        · subst h; exact ⟨_, by rw [hbw.cell (p := ⟨B + 1, 1, none⟩) hBl]; exact cp, HUP.out.below hbw⟩
      have HP := mkH hup
      clear hup cn cp
      go_wp2_with fail
      refine (write_un wr p HP.out _).mono ?_
      rintro e u1 ⟨rfl, hu1⟩
      have hu1' := hu1.symm
      subst hu1'
      clear hu1
      go_wp2_with fail
      refine (len_un wr p HP.out).mono ?_
      rintro e u2 ⟨rfl, hu2⟩
      have hu2' := hu2.symm
      subst hu2'
      clear hu2
      go_wp2_with fail
      refine (HSU.out wr p HP.out).mono ?_
      rintro e u3 ⟨rfl, hu3⟩
      have HP3 := mkH (HP.out.below hu3)
      have HB3 := mkH (hbw.trans (hu3.mono hbw.size))
      clear hu3 hbw hp
      go_wp2_with (with_reducible refine atList ?_; refine wpList_build_wanted rfl 24 #[] rfl #[] (by simp) (.agg D0) (HBZ.out _) ?_)
      refine (copy_un u3 p HP3.out).mono ?_
      rintro e u4 ⟨rfl, hu4⟩
      have hu4' := hu4.symm
      subst hu4'
      clear hu4
      go_wp2_with fail
      refine ⟨⟨j + 1, by omega, by go_num, HB3.out⟩, by simp [intOf]; omega⟩
end Go.Proofs.YtnnhimoihbdopaaDoor.Dcp
