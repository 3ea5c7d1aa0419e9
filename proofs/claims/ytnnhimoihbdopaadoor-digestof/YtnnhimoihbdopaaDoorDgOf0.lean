/-
  The walk of DigestOf.
-/
import Derived.Test.YtnnhimoihbdopaaDoorDgR4
import Derived.Test.YtnnhimoihbdopaaDoorDgY
import Derived.Deep.RegionHeld3
import Derived.Deep.RegionWith
namespace Go.Proofs.YtnnhimoihbdopaaDoor.Dof
open Go.RowKit Kt Dk Dw Ds Dt De Df Dg Dh Di Dx Dy
set_option linter.unusedVariables false
set_option maxRecDepth 20000

theorem strW {ao : Option Addr} {bs : List UInt8} {w : World} (h : Row w ao bs) (c : Nat) : ∀ n, (convert 22 9 (.slice ao bs.length c)).run Tryd.prog (w.drewN n) = .ok (.string (S bs)) (w.drewN n) := fun n =>
  run_string (P := Tryd.prog) (w := w.drewN n) Tryd.underlying22 Tryd.underlying5 Tryd.underlying9 h c
theorem strD {ao : Option Addr} {bs : List UInt8} {w : World} (h : Row w ao bs) (c : Nat) : (convert 22 9 (.slice ao bs.length c)).run Tryd.prog w.drew = .ok (.string (S bs)) w.drew :=
  run_string (P := Tryd.prog) (w := w.drew) Tryd.underlying22 Tryd.underlying5 Tryd.underlying9 h c
theorem strW0 {ao : Option Addr} {bs : List UInt8} {w : World} (h : Row w ao bs) (c : Nat) : (convert 22 9 (.slice ao bs.length c)).run Tryd.prog w = .ok (.string (S bs)) w := strW h c 0

set_option maxHeartbeats 4000000 in
theorem of_walk (w : World) (hT : Tb w) (ao : Option Addr) (ca : Nat) (za : List UInt8) (hra : Row w ao za) (hla : za.length ≤ ca) (hca : ca ≤ 9223372036854775807) :
    Calls Tryd.prog 3 #[.slice ao za.length ca] w fun e w' => e = .returned (.bool true) ∧ Below w.heap.size w w' := by
  have hT0 := hT.size
  go_enter Tryd.func3, Tryd.ntmps3
  go_wp2_with fail
  refine (few_sl w ao ca za hra hla hca).mono ?_
  rintro e w1 ⟨a1, c1, rfl, hsa, -, -, hb1⟩
  obtain ⟨xa, hxa⟩ : ∃ x, za.take 2000 = x := ⟨_, rfl⟩
  have hal : xa.length ≤ 2000 := by rw [← hxa, List.length_take]; omega
  rw [hxa] at hsa ⊢
  clear hra hxa hla
  go_wp2_with fail
  refine (of_sl w1 a1 c1 xa (hT.below hb1 hT0) hsa (by omega)).mono ?_
  rintro e w3 ⟨rfl, hb3⟩
  have hsa := hsa.below hb3
  have hb3 := hb1.trans (hb3.mono hb1.size)
  clear hb1
  have hdl : (U (Dp.dig xa)).length = 32 := by rw [U_length, Dp.dig_length]
  have hi32 : (Tryd.prog.info? 24).map (·.size) = some (U (Dp.dig xa)).length := by rw [hdl]; kernel_rfl
  have HI := mkH hi32
  have HDL := mkH hdl
  clear hi32 hdl
  go_wp2_with (first
    | (refine wpList_alloc_agg rfl 24 rfl 32 (by kernel_rfl) ?_; intro Z hZ)
    | (refine wpList_store_new rfl 24 (.tmp 3) (.tmp 7) rfl w3 Z rfl (U (Dp.dig xa)) rfl HI.out (by rw [hZ, HDL.out]) (U_one _) ?_))
  have hW4 : ∃ w4, w4 = w3.alloc (.cells (U (Dp.dig xa)).toArray 24) ∧ Below w3.heap.size w3 w4 ∧ w4.heap[w3.heap.size]? = some (.cells (U (Dp.dig xa)).toArray 24 (0, 0)) := ⟨_, rfl, (Below.refl _ _).alloc (Nat.le_refl _) _, heap_alloc_new _ _⟩
  obtain ⟨w4, hw4, hb4, hg4⟩ := hW4
  rw [← hw4]
  have hsa := hsa.below hb4
  have hb4 := hb3.trans (hb4.mono hb3.size)
  generalize w3.heap.size = g at hg4 ⊢
  clear hb3 hw4 hZ HI HDL
  have hall := fun W => run_arr_all (P := Tryd.prog) W 24 5 32 Tryd.underlying24 (by kernel_rfl) (by decide) g 0
  have hrow := row_of_block hg4
  have hst := strW hrow 32
  have hst0 := strW0 hrow 32
  have hstd := strD hrow 32
  rw [Dp.dig_length] at hst hst0 hstd
  have HR := mkH hrow
  have HSA := mkH hsa
  have HT4 := mkH (hT.below hb4 hT0)
  have HT40 := mkH (hT.below hb4 hT0).size
  have H2000 : Hid (xa.length ≤ 50000) := by unfold Hid; omega
  have H2001 : Hid (xa.length ≤ 100000) := by unfold Hid; omega
  clear hrow hsa hg4
  go_region_with (first
    | (go_at_call 11; refine (Dr3.refOf_any _ a1 c1 xa ?_ ?_).mono ?_; exact HSA.out.1; exact H2000.out; rintro e u1 ⟨v1, rfl, hown1, hu1⟩; have hu1 : Below w4.heap.size w4 u1 := ⟨hu1.os, hu1.tape, hu1.output, hu1.size, hu1.block⟩; obtain ⟨ar, cr, rfl, hsr, -⟩ := Sl.own hown1; rw [Dp.dig_length]; have hsr1 := strW hsr.1 cr; have hsr0 := strW0 hsr.1 cr; have hsrd := strD hsr.1 cr; rw [Dp.dig_length] at hsr1 hsr0 hsrd; have hst1 := strW (HR.out.below hu1) 32; have hst10 := strW0 (HR.out.below hu1) 32; have hst1d := strD (HR.out.below hu1) 32; rw [Dp.dig_length] at hst1 hst10 hst1d; have hT1 := mkH (HT4.out.below hu1 HT40.out); have hsa1 := mkH (HSA.out.below hu1); clear hown1 hsr)
    | (go_at_call 12; refine (token_sl _ a1 c1 xa ?_ ?_ ?_).mono ?_; exact hT1.out; exact hsa1.out; exact H2001.out; rintro e u2 ⟨rfl, hu2⟩; have hu2 : Below u1.heap.size u1 u2 := ⟨hu2.os, hu2.tape, hu2.output, hu2.size, hu2.block⟩; have hsa2 := mkH (hsa1.out.below hu2); have hu2 : Below w4.heap.size w4 u2 := hu1.trans (hu2.mono hu1.size))
    | (go_at_call 13; refine (Dr4.refToken_any _ a1 c1 xa ?_ ?_).mono ?_; exact hsa2.out.1; exact H2000.out; rintro e u3 ⟨rfl, hu3⟩; have hu3 : Below u2.heap.size u2 u3 := ⟨hu3.os, hu3.tape, hu3.output, hu3.size, hu3.block⟩; have hu3 : Below w4.heap.size w4 u3 := hu2.trans (hu3.mono hu2.size); have hT3 := mkH (HT4.out.below hu3 HT40.out))
    | (go_at_call 14; refine (works_any _ ?_).mono ?_; exact hT3.out; rintro e u4 ⟨rfl, hu4⟩; have hu4 : Below u3.heap.size u3 u4 := ⟨hu4.os, hu4.tape, hu4.output, hu4.size, hu4.block⟩; have hu4 : Below w4.heap.size w4 u4 := hu3.trans (hu4.mono hu3.size)))
  all_goals
    go_wp2_with fail
    go_ret
    exact ⟨rfl, hb4.trans (hu4.mono hb4.size)⟩
end Go.Proofs.YtnnhimoihbdopaaDoor.Dof
