/-
  The walk of DigestAlone.
-/
import Derived.Test.YtnnhimoihbdopaaDoorDgY
import Derived.Deep.RegionHeld3
import Derived.Deep.RegionWith
import Derived.Deep.MidRow
namespace Go.Proofs.YtnnhimoihbdopaaDoor.Dal
open Go.RowKit Kt Dk Dw Ds Dt De Df Dg Dh Di Dx Dy
set_option linter.unusedVariables false
set_option maxRecDepth 20000

set_option maxHeartbeats 4000000 in
theorem alone_walk (w : World) (hT : Tb w) (ao bo : Option Addr) (ca cb : Nat) (za zb : List UInt8) (hra : Row w ao za) (hla : za.length ≤ ca) (hca : ca ≤ 9223372036854775807) (hrb : Row w bo zb) (hlb : zb.length ≤ cb) (hcb : cb ≤ 9223372036854775807) :
    Calls Tryd.prog 8 #[.slice ao za.length ca, .slice bo zb.length cb] w fun e w' => e = .returned (.bool true) ∧ Below w.heap.size w w' := by
  have hT0 := hT.size
  go_enter Tryd.func8, Tryd.ntmps8
  go_wp2_with fail
  refine (few_sl w ao ca za hra hla hca).mono ?_
  rintro e w1 ⟨a1, c1, rfl, hsa, hna, -, hb1⟩
  obtain ⟨xa, hxa⟩ : ∃ x, za.take 2000 = x := ⟨_, rfl⟩
  have hal : xa.length ≤ 2000 := by rw [← hxa, List.length_take]; omega
  rw [hxa] at hsa ⊢
  clear hra hxa hla
  go_wp2_with fail
  refine (few_sl w1 bo cb zb (hrb.below hb1) hlb hcb).mono ?_
  rintro e w2 ⟨a2, c2, rfl, hsb, hnb, -, hb2⟩
  obtain ⟨xb, hxb⟩ : ∃ x, zb.take 2000 = x := ⟨_, rfl⟩
  have hbl : xb.length ≤ 2000 := by rw [← hxb, List.length_take]; omega
  rw [hxb] at hsb ⊢
  have hsa := hsa.below hb2
  have hb2 := hb1.trans (hb2.mono hb1.size)
  clear hrb hxb hlb hb1 hna hnb
  go_wp2_with fail
  refine (of_sl w2 a1 c1 xa (hT.below hb2 hT0) hsa (by omega)).mono ?_
  rintro e w3 ⟨rfl, hb3⟩
  have hsa := hsa.below hb3
  have hsb := hsb.below hb3
  have hb3 := hb2.trans (hb3.mono hb2.size)
  clear hb2
  have hdl : (U (Dp.dig xa)).length = 32 := by rw [U_length, Dp.dig_length]
  have hi32 : (Tryd.prog.info? 24).map (·.size) = some (U (Dp.dig xa)).length := by rw [hdl]; kernel_rfl
  have HI := mkH hi32
  have HDL := mkH hdl
  clear hi32 hdl
  go_wp2_with (first
    | (refine wpList_alloc_agg rfl 24 rfl 32 (by kernel_rfl) ?_; intro Z hZ)
    | (refine wpList_store_new rfl 24 (.tmp 5) (.tmp 12) rfl w3 Z rfl (U (Dp.dig xa)) rfl HI.out (by rw [hZ, HDL.out]) (U_one _) ?_))
  have hW4 : ∃ w4, w4 = w3.alloc (.cells (U (Dp.dig xa)).toArray 24) ∧ Below w3.heap.size w3 w4 ∧ w4.heap[w3.heap.size]? = some (.cells (U (Dp.dig xa)).toArray 24 (0, 0)) := ⟨_, rfl, (Below.refl _ _).alloc (Nat.le_refl _) _, heap_alloc_new _ _⟩
  obtain ⟨w4, hw4, hb4, hg4⟩ := hW4
  rw [← hw4]
  have hsa := hsa.below hb4
  have hsb := hsb.below hb4
  have hb4 := hb3.trans (hb4.mono hb3.size)
  generalize w3.heap.size = g at hg4 ⊢
  clear hb3 hw4 hZ
  refine (of_sl w4 a2 c2 xb (hT.below hb4 hT0) hsb (by omega)).mono ?_
  rintro e w5 ⟨rfl, hb5⟩
  have hsa := hsa.below hb5
  have hsb := hsb.below hb5
  have hg5 := hb5.block g (block_lt hg4)
  rw [hg4] at hg5
  have hb5 := hb4.trans (hb5.mono hb4.size)
  clear hb4 hg4
  go_wp2_with (at_builtin; refine (wpList_append_own_src _ rfl (.tmp 15) (.tmp 16) 22 22 rfl w5.heap.size 5 (.int .u8 0) 1 1 Tryd.underlying22 info5 rfl (by decide) _ 0 [] rfl (World.ownsRow_made w5 #[] 0 (Nat.le_refl _) (Nat.zero_le _) rfl) _ xa.length (U xa) rfl ?hsrcx ?h63x ?hbyx ?hbsx ?_))
  case hsrcx => exact Row.src (P := Tryd.prog) Tryd.underlying22 (hsa.below ((Below.refl _ w5).alloc (Nat.le_refl _) (.cells #[] 5))).1 c1
  case h63x => unfold maxLen; omega
  case hbyx => omega
  case hbsx => simp
  intro vx ux hownx hgrowx
  have hux := below_own (World.ownsRow_made (e := 5) (size := 1) w5 #[] 0 (Nat.le_refl _) (Nat.zero_le _) rfl) hgrowx ((Below.refl w5.heap.size w5).alloc (Nat.le_refl _) (.cells #[] 5)) (by simp)
  have hownx : ux.ownsRow w5.heap.size 5 1 vx xa.length (U xa) := by simpa using hownx
  clear hgrowx
  go_wp2_with (at_builtin; refine (wpList_append_own_src _ rfl (.tmp 17) (.tmp 18) 22 22 rfl w5.heap.size 5 (.int .u8 0) 1 1 Tryd.underlying22 info5 rfl (by decide) _ xa.length (U xa) rfl hownx _ xb.length (U xb) rfl ?hsrcbx ?h63bx ?hbybx ?hbsbx ?_))
  case hsrcbx => exact Row.src (P := Tryd.prog) Tryd.underlying22 (hsb.below hux).1 c2
  case h63bx => unfold maxLen; omega
  case hbybx => omega
  case hbsbx => exact hux.size
  intro vxb uxb hownxb hgrowxb
  have huxb := below_own hownx hgrowxb hux hux.size
  rw [← U_append] at hownxb
  have hlx : (xa ++ xb).length ≤ 4000 := by rw [List.length_append]; omega
  have htk : (xa ++ xb).take xa.length = xa := List.take_left
  have hle : xa.length ≤ (xa ++ xb).length := by rw [List.length_append]; omega
  generalize xa ++ xb = yx at hownxb hlx htk hle ⊢
  obtain ⟨axb, cxb, rfl, hsxb, -⟩ := Sl.own hownxb
  have hgu := huxb.block g (block_lt hg5)
  rw [hg5] at hgu
  have hsa := hsa.below huxb
  have hb6 := hb5.trans (huxb.mono hb5.size)
  -- all[:len(b)]
  have hsy : Sl uxb axb cxb xa := ⟨by have := Row_take hsxb.1 xa.length; rwa [htk] at this, hsxb.2.1, by have := hsxb.2.2.1; omega, hsxb.2.2.2⟩
  clear hownx hgrowxb hownxb hux hb5 hg5 huxb hsb htk hsxb
  go_wp2_with fail
  have hi32 := HI.out
  have hdl := HDL.out
  have hu24 := Tryd.underlying24
  have hrg : uxb.rangeAt g 0 (U (Dp.dig xa)) := by
    intro j v hv
    rw [Nat.zero_add, cell_of_row _ _ _ _ _ _ hgu]; simpa using hv
  have heq := fun W => eql_arr W (Dp.dig xa) (Dp.dig_length xa)
  have hT6 := hT.below hb6 hT0
  have hcx : (xa.length : Int) ≤ (cxb : Int) := by have := hsy.2.2.1; omega
  have hcx2 : xa.length ≤ cxb := hsy.2.2.1
  have hgl := block_lt hgu
  have HRK : Hid (∀ W, Below uxb.heap.size uxb W → W.rangeAt g 0 (U (Dp.dig xa))) := fun W hW j v hv => by
    rw [hW.cell (p := ⟨g, 0 + j, none⟩) hgl]; exact hrg j v hv
  have HSY := mkH hsy
  have HSA := mkH hsa
  have HT6 := mkH hT6
  have HT60 := mkH hT6.size
  have H2000 : Hid (xa.length ≤ 100000) := by unfold Hid; omega
  clear hsy hsa hT6 hgu hgl
  go_region_held3 (fun w' => w'.rangeAt g 0 (U (Dp.dig xa))) (first | go_keep_ranges | assumption) (first
    | (go_at_call 10; refine (of_sl _ axb cxb xa ?_ ?_ ?_).mono ?_; exact HT6.out; exact HSY.out; exact H2000.out; rintro e u1 ⟨rfl, hu1⟩; have hu1 : Below uxb.heap.size uxb u1 := ⟨hu1.os, hu1.tape, hu1.output, hu1.size, hu1.block⟩; have hk1 := HRK.out u1 hu1; have hT1 := mkH (HT6.out.below hu1 HT60.out); have hsy1 := mkH (HSY.out.below hu1); have hsa1 := mkH (HSA.out.below hu1))
    | (have hq := hT2; clear hq; go_at_call 12; refine (token_sl _ a1 c1 xa ?_ ?_ ?_).mono ?_; exact hT2.out; exact hsa2.out; exact H2000.out; rintro e u3 ⟨rfl, hu3⟩; have hu3 : Below u2.heap.size u2 u3 := ⟨hu3.os, hu3.tape, hu3.output, hu3.size, hu3.block⟩; have hu3 : Below uxb.heap.size uxb u3 := hu2.trans (hu3.mono hu2.size); have hk3 := HRK.out u3 hu3; have hT3 := mkH (HT6.out.below hu3 HT60.out))
    | (go_at_call 12; refine (token_sl _ axb cxb xa ?_ ?_ ?_).mono ?_; exact hT1.out; exact hsy1.out; exact H2000.out; rintro e u2 ⟨rfl, hu2⟩; have hu2 : Below u1.heap.size u1 u2 := ⟨hu2.os, hu2.tape, hu2.output, hu2.size, hu2.block⟩; have hu2 : Below uxb.heap.size uxb u2 := hu1.trans (hu2.mono hu1.size); have hk2 := HRK.out u2 hu2; have hT2 := mkH (HT6.out.below hu2 HT60.out); have hsa2 := mkH (HSA.out.below hu2); clear hT1)
    | (go_at_call 14; refine (works_any _ ?_).mono ?_; exact hT3.out; rintro e u4 ⟨rfl, hu4⟩; have hu4 : Below u3.heap.size u3 u4 := ⟨hu4.os, hu4.tape, hu4.output, hu4.size, hu4.block⟩; have hu4 : Below uxb.heap.size uxb u4 := hu3.trans (hu4.mono hu3.size); have hk4 := HRK.out u4 hu4))
  all_goals
    go_wp2_with fail
    go_ret
    exact ⟨rfl, hb6.trans (hu4.mono hb6.size)⟩
end Go.Proofs.YtnnhimoihbdopaaDoor.Dal
