/-
  The walk of DigestEdges.
-/
import Derived.Test.YtnnhimoihbdopaaDoorDgR4
import Derived.Test.YtnnhimoihbdopaaDoorDgY
import Derived.Test.YtnnhimoihbdopaaDoorDgV
import Derived.Deep.RegionHeld3
import Derived.Deep.RegionWith
import Derived.Deep.OwnRows
namespace Go.Proofs.YtnnhimoihbdopaaDoor.Ded
open Go.RowKit Kt Dk Dw Ds Dt De Df Dg Dh Di Dx Dy Dv
set_option linter.unusedVariables false
set_option maxRecDepth 20000

theorem mod300 (c : Int) : -300 < c.tmod 300 ∧ c.tmod 300 < 300 ∧ ∃ i : Nat, i < 300 ∧ (c.tmod 300 + 300) % 300 = (i : Int) := by
  have t1 : (0 : Int) < 300 := by omega
  refine ⟨Int.lt_tmod_of_pos _ t1, Int.tmod_lt_of_pos _ t1, ((c.tmod 300 + 300) % 300).toNat, ?_, (Int.toNat_of_nonneg (Int.emod_nonneg _ (by omega))).symm⟩
  have := Int.emod_lt_of_pos (c.tmod 300 + 300) t1
  have := Int.emod_nonneg (c.tmod 300 + 300) (show (300 : Int) ≠ 0 by omega)
  omega
/-- A block of n bytes, made since w. -/
def Bl (w W : World) (G n : Nat) (l : List UInt8) : Prop := l.length = n ∧ Below w.heap.size w W ∧ W.heap[G]? = some (.cells (U l).toArray 5 (0, 0))
theorem bl_made (w : World) (n : Nat) : Bl w (w.alloc (.cells (madeCells #[.int .u8 0] n) 5)) w.heap.size n (List.replicate n 0) := by
  refine ⟨by simp, (Below.refl _ w).alloc (Nat.le_refl _) _, ?_⟩
  have e : madeCells #[Value.int .u8 0] n = (U (List.replicate n 0)).toArray := by
    apply Array.toList_inj.1
    rw [toList_madeCells_one]
    simp [U]
  rw [e]
  exact heap_alloc_new _ _
theorem bl_cell {w W : World} {G n : Nat} {l : List UInt8} (h : Bl w W G n l) (j : Nat) (hj : j < n) : W.cell? ⟨G, j, none⟩ = some (.int .u8 ((l.getD j 0).toNat : Int)) := by
  rw [cell_of_row _ _ _ _ _ _ h.2.2, List.getElem?_toArray, U_at l j (by rw [h.1]; exact hj)]
theorem bl_set {w W : World} {G n : Nat} {l : List UInt8} (h : Bl w W G n l) (hG : w.heap.size ≤ G) (j : Nat) (X : Int) (h0 : 0 ≤ X) (h1 : X < 256) : ∃ l', Bl w (W.setCell ⟨G, j, none⟩ (.int .u8 X)) G n l' := by
  obtain ⟨y, rfl⟩ : ∃ y : UInt8, X = (y.toNat : Int) := ⟨UInt8.ofNat X.toNat, by simp [UInt8.toNat_ofNat']; omega⟩
  refine ⟨l.set j y, by rw [List.length_set]; exact h.1, ?_, ?_⟩
  · rw [setCell_eq_setRow W G j _ _ (0, 0) _ h.2.2]; exact below_setRow h.2.1 hG _
  · rw [setCell_eq_setRow W G j _ _ (0, 0) _ h.2.2]
    have e : ((U l).toArray.setIfInBounds j (.int .u8 (y.toNat : Int))) = (U (l.set j y)).toArray := by simp [U, List.map_set]
    rw [e]
    exact setRow_heap _ _ _ _ _ _ h.2.2

set_option maxHeartbeats 4000000 in
theorem edges_walk (w : World) (hT : Tb w) (n c : Int) (hc0 : 0 ≤ c) (hc1 : c < 256) :
    Calls Tryd.prog 5 #[.int .i64 n, .int .u8 c] w fun e w' => e = .returned (.bool true) ∧ Below w.heap.size w w' := by
  have hT0 := hT.size
  obtain ⟨m1, m2, i, hi, hii⟩ := mod300 n
  go_enter Tryd.func5, Tryd.ntmps5
  go_upto_region 2 with fail
  rw [hii]
  have hmk := run_make_row' (P := Tryd.prog) 22 5 (.int .u8 0) 1 Tryd.underlying22 info5 rfl .i64 .i64 i (by omega) (by omega)
  clear m1 m2 hii
  go_wp2_with fail
  have hbl := bl_made w i
  have hG : w.heap.size ≤ w.heap.size := Nat.le_refl _
  clear hmk
  generalize w.alloc (.cells (madeCells #[.int .u8 0] i) 5) = W1 at hbl ⊢
  generalize hGe : w.heap.size = G at hG hbl ⊢
  generalize List.replicate i (0 : UInt8) = l0 at hbl
  have HB := mkH hbl
  clear hbl
  go_loopw [16] (fun x W => ∃ k : Nat, k ≤ i ∧ x = .int .i64 k ∧ ∃ l, Bl w W G i l) (fun x _ => i - (intOf x).toNat)
  case atStart => exact ⟨0, by omega, rfl, l0, HB.out⟩
  case round =>
    clear HB
    obtain ⟨k, hk, rfl, l, hbl⟩ := hrel
    by_cases hlt : k = i
    · have t0 : decide ((k : Int) < (i : Int)) = false := by simp; omega
      obtain ⟨hl, hb3, hg⟩ := hbl
      subst hlt
      subst hl
      have hsa : Sl wr (some ⟨G, 0, none⟩) l.length l := by
        have hr := row_of_block hg
        exact ⟨hr, fun a ha => by cases ha; exact block_lt hg, Nat.le_refl _, by omega⟩
      have hal : l.length ≤ 2000 := by omega
      clear hg hk hi
      generalize hce : l.length = ca at t0
      go_wp2_with fail
      subst hce
      obtain ⟨a1, ha1⟩ : ∃ a1, (some ⟨G, 0, none⟩ : Option Addr) = a1 := ⟨_, rfl⟩
      rw [ha1] at hsa ⊢
      clear ha1 t0
      have hb1 := hb3
      refine (of_sl wr a1 l.length l (hT.below hb1 hT0) hsa (by omega)).mono ?_
      rintro e w3 ⟨rfl, hb3⟩
      have hsa := hsa.below hb3
      have hb3 := hb1.trans (hb3.mono hb1.size)
      clear hb1
      have hdl : (U (Dp.dig l)).length = 32 := by rw [U_length, Dp.dig_length]
      have hi32 : (Tryd.prog.info? 24).map (·.size) = some (U (Dp.dig l)).length := by rw [hdl]; kernel_rfl
      have HI := mkH hi32
      have HDL := mkH hdl
      clear hi32 hdl
      go_wp2_with (first
        | (refine wpList_alloc_agg rfl 24 rfl 32 (by kernel_rfl) ?_; intro Z hZ)
        | (refine wpList_store_new rfl 24 (.tmp 7) (.tmp 28) rfl w3 Z rfl (U (Dp.dig l)) rfl HI.out (by rw [hZ, HDL.out]) (U_one _) ?_))
      have hW4 : ∃ w4, w4 = w3.alloc (.cells (U (Dp.dig l)).toArray 24) ∧ Below w3.heap.size w3 w4 ∧ w4.heap[w3.heap.size]? = some (.cells (U (Dp.dig l)).toArray 24 (0, 0)) := ⟨_, rfl, (Below.refl _ _).alloc (Nat.le_refl _) _, heap_alloc_new _ _⟩
      obtain ⟨w4, hw4, hb4, hg4⟩ := hW4
      rw [← hw4]
      have hsa := hsa.below hb4
      have hb4 := hb3.trans (hb4.mono hb3.size)
      generalize w3.heap.size = g at hg4 ⊢
      clear hb3 hw4 hZ HI HDL
      have hall := fun W => run_arr_all (P := Tryd.prog) W 24 5 32 Tryd.underlying24 (by kernel_rfl) (by decide) g 0
      have hrow := row_of_block hg4
      have hst := strW hrow 32
      have hst0 := strW0 hrow 32
      have hstd := strD hrow 32
      rw [Dp.dig_length] at hst hst0 hstd
      have HR := mkH hrow
      have HSA := mkH hsa
      have HT4 := mkH (hT.below hb4 hT0)
      have HT40 := mkH (hT.below hb4 hT0).size
      have H2000 : Hid (l.length ≤ 50000) := by unfold Hid; omega
      clear hrow hsa hg4 hal
      go_region_with (first
        | (go_at_call 11; refine (Dr3.refOf_any _ a1 l.length l ?_ ?_).mono ?_; exact HSA.out.1; exact H2000.out; rintro e u1 ⟨v1, rfl, hown1, hu1⟩; have hu1 : Below w4.heap.size w4 u1 := ⟨hu1.os, hu1.tape, hu1.output, hu1.size, hu1.block⟩; obtain ⟨ar, cr, rfl, hsr, -⟩ := Sl.own hown1; rw [Dp.dig_length]; have hsr1 := strW hsr.1 cr; have hsr0 := strW0 hsr.1 cr; have hsrd := strD hsr.1 cr; rw [Dp.dig_length] at hsr1 hsr0 hsrd; have hst1 := strW (HR.out.below hu1) 32; have hst10 := strW0 (HR.out.below hu1) 32; have hst1d := strD (HR.out.below hu1) 32; rw [Dp.dig_length] at hst1 hst10 hst1d; have hT1 := mkH (HT4.out.below hu1 HT40.out); clear hown1 hsr)
        | (go_at_call 14; refine (works_any _ ?_).mono ?_; exact hT1.out; rintro e u4 ⟨rfl, hu4⟩; have hu4 : Below u1.heap.size u1 u4 := ⟨hu4.os, hu4.tape, hu4.output, hu4.size, hu4.block⟩; have hu4 : Below w4.heap.size w4 u4 := hu1.trans (hu4.mono hu1.size)))
      all_goals
        go_wp2_with fail
        go_ret
        exact ⟨rfl, hb4.trans (hu4.mono hb4.size)⟩
    · have t0 : decide ((k : Int) < (i : Int)) = true := by simp; omega
      have k1 : (k : Int) < (i : Int) := by omega
      have k2 : (0 : Int) ≤ (k : Int) := by omega
      have k3 : k < i := by omega
      have hcell := bl_cell hbl k k3
      have hfr := frozen_of_row wr G k _ _ hbl.2.2
      have HB := mkH hbl
      clear hbl
      go_wp2_with fail
      refine ⟨⟨k + 1, by omega, by go_num, bl_set HB.out (by omega) k _ (Int.emod_nonneg _ (by omega)) (Int.emod_lt_of_pos _ (by omega))⟩, ?_⟩
      simp [intOf]; omega
end Go.Proofs.YtnnhimoihbdopaaDoor.Ded
