/-
  ChRc KitS NtR ChMa, joined by mrg.py.
-/
import Derived.Test.YtcpmcfagibmboabGreatChCp
import Derived.Test.YtcpmcfagibmboabGreatRqA
import Derived.Test.YtcpmcfagibmboabGreatKit2
import Derived.Test.YtcpmcfagibmboabGreatRows
import Derived.Test.YtcpmcfagibmboabGreatGpK
import Derived.Test.YtcpmcfagibmboabGreatGpF

namespace Go.Proofs.YtcpmcfagibmboabGreat.Rc
open Go.RowKit Go.Shelf Pl Ct Cu La Lb Mp Cl Gf Gk Li
open Kt
open Go.Proofs.YtcpmcfagibmboabGreat.Nm
open Lc2 (arC chunk_any chunk_seq)
open Lf (box_own bel_own res_cc)
open Cr (own_le)
attribute [local go_sem] Oper.semAt_some
set_option linter.unusedVariables false
set_option linter.unusedSimpArgs false
set_option maxRecDepth 20000

/-- What readClients answers. -/
def ClP (w : World) (bs : List UInt8) (x : Ending) (w' : World) : Prop := Below w.heap.size w w' ∧
  ((∃ D b, GoodD bs D ∧ x = .returned (.tuple #[.map (some b), .bool true]) ∧ Md w' b D ∧ w.heap.size ≤ b) ∨ ((¬ ∃ D, GoodD bs D) ∧ x = .returned (.tuple #[.map none, .bool false])))

theorem fin_two {w W : World} {x z : Value} (h1 : Bx W w.heap.size #[x] 57) (h2 : Bx W (w.heap.size + 1) #[z] 4) (hb : Below w.heap.size w W) (u t : Value) :
    Bx ((W.setCell ⟨w.heap.size, 0, none⟩ u).setCell ⟨w.heap.size + 1, 0, none⟩ t) w.heap.size #[u] 57 ∧ Bx ((W.setCell ⟨w.heap.size, 0, none⟩ u).setCell ⟨w.heap.size + 1, 0, none⟩ t) (w.heap.size + 1) #[t] 4 ∧
    Below w.heap.size w ((W.setCell ⟨w.heap.size, 0, none⟩ u).setCell ⟨w.heap.size + 1, 0, none⟩ t) ∧ Fr (fun q => q = w.heap.size ∨ q = w.heap.size + 1) W ((W.setCell ⟨w.heap.size, 0, none⟩ u).setCell ⟨w.heap.size + 1, 0, none⟩ t) := by
  have a1 := h1.set 0 u
  have b1 := h2.other (p := ⟨w.heap.size, 0, none⟩) (by simp) u
  refine ⟨a1.other (p := ⟨w.heap.size + 1, 0, none⟩) (by simp) t, b1.set 0 t, (hb.setCell (Nat.le_refl _) _).setCell (Nat.le_succ _) _, ?_⟩
  exact ((h1.frset 0 u).mono (fun q hq => .inl hq)).trans ((b1.frset 0 t).mono (fun q hq => .inr hq)) (fun i hi => .inl hi)

/-- Nothing below B turns but what the loop itself keeps. -/
theorem fr_own {A B : World} {row : Option Nat} {base : Nat} (hg : A.grownBy B row) (hr : ∀ r, row = some r → base ≤ r ∧ ∃ o : Obj, A.heap[r]? = some o ∧ o.isCells = false) : Fr (fun q => base ≤ q) A B :=
  ⟨hg.os, hg.tape, hg.output, hg.size, fun k hk hn => hg.block k hk (fun e => hn (hr k e.symm).1)⟩
/-- The map while the pairs are told. -/
def RI (w : World) (M : Nat) (L : List Int) (wB : World) (m k : Nat) (W : World) : Prop :=
  2 * k ≤ L.length ∧ okS (prs (L.take (2 * k))) ∧ Bx W w.heap.size #[.map (some M)] 57 ∧ Bx W (w.heap.size + 1) #[.bool true] 4 ∧ Bx W (M + 1) #[.int .i64 (lastK (prs (L.take (2 * k))))] 3 ∧ Md W M (prs (L.take (2 * k))) ∧ Below M wB W
theorem RI_own (w : World) (M : Nat) (L : List Int) (wB : World) (B m : Nat) (hw : w.heap.size + 2 ≤ M) (hB : M + 2 ≤ B) : OwnFrom B (RI w M L wB m) := by
  rintro k W W' row ⟨h0, h1, h2, h3, h4, h5, h6⟩ hg hr
  have hf := fr_own hg hr
  exact ⟨h0, h1, h2.fr hf (by omega), h3.fr hf (by omega), h4.fr hf (by omega), h5.fr hf (by omega), bel_own hg hr (by omega) (Nat.le_of_lt h5.lt) h6⟩
/-- A pair that may not be: the answer is in the results' boxes. -/
def RZ (w : World) (bs : List UInt8) (m k : Nat) (W : World) : Prop :=
  Bx W w.heap.size #[.map none] 57 ∧ Bx W (w.heap.size + 1) #[.bool false] 4 ∧ Below w.heap.size w W ∧ ¬ ∃ D, GoodD bs D
theorem RZ_own (w : World) (bs : List UInt8) (B m : Nat) (hB : w.heap.size + 2 ≤ B) : OwnFrom B (RZ w bs m) := by
  rintro k W W' row ⟨h1, h2, h3, h4⟩ hg hr
  exact ⟨box_own hg hr h1, box_own hg hr h2, bel_own hg hr (by omega) (Nat.le_of_lt h1.lt) h3, h4⟩

/-- The results' boxes, and the map. -/
def RG (w : World) (M : Nat) (D : List Dd) (_ : Unit) (W : World) : Prop :=
  Bx W w.heap.size #[.map (some M)] 57 ∧ Bx W (w.heap.size + 1) #[.bool true] 4 ∧ Below w.heap.size w W ∧ Md W M D
theorem RG_own (w : World) (M : Nat) (D : List Dd) (B : Nat) (hw : w.heap.size + 2 ≤ M) (hB : M + 2 ≤ B) : OwnFrom B (RG w M D) := by
  rintro k W W' row ⟨h2, h3, h4, h5⟩ hg hr
  have hf := fr_own hg hr
  exact ⟨h2.fr hf (by omega), h3.fr hf (by omega), bel_own hg hr (by omega) (Nat.le_of_lt h2.lt) h4, h5.fr hf (by omega)⟩
theorem wf_int {k : Int} (h1 : -9223372036854775808 ≤ k) (h2 : k ≤ 9223372036854775807) : (Lit.int .i64 k).wf = true := by
  have e1 : (IntKind.i64.min : Int) = -9223372036854775808 := rfl
  have e2 : (IntKind.i64.max : Int) = 9223372036854775807 := rfl
  simp [Lit.wf, e1, e2]; omega

set_option maxRecDepth 100000 in
set_option maxHeartbeats 8000000 in
theorem readClients_any (w : World) (bs : List UInt8) (hl : bs.length ≤ 1000) :
    Calls Tryz.prog 29 #[.string (S bs)] w fun e w' => ClP w bs e w' := by
  have hmx : Tryz.prog.follows .mixedOrders = true := by kernel_rfl
  obtain ⟨V2, hV2⟩ : ∃ V2, V2 = (w.alloc (.cells #[.map none] 57)).alloc (.cells #[.bool false] 4) := ⟨_, rfl⟩
  have hr2 : Bx V2 w.heap.size #[.map none] 57 := by rw [hV2]; exact (Bx.new w _ _).alloc _
  have he2 : Bx V2 (w.heap.size + 1) #[.bool false] 4 := by rw [hV2]; exact Bx.new1 w _ _ _
  have hb2 : Below w.heap.size w V2 := by rw [hV2]; exact ((Below.refl _ w).alloc (Nat.le_refl _) _).alloc (by simp) _
  have hz2 : V2.heap.size = w.heap.size + 2 := by rw [hV2]; simp
  have HNO := mkH (numsOf_any V2 bs hl)
  have HR2 := mkH hr2
  have HE2 := mkH he2
  have HB2 := mkH hb2
  have HZ2 := mkH hz2
  have HV2 := mkH hV2
  clear hr2 he2 hb2 hz2 hV2
  refine (callsIn_wide (n := 12)).1 ?_
  refine callsIn_of_wp_marks Tryz.func29 rfl trivial ?_ rfl
  simp only [Tryz.ntmps29, List.size_toArray, List.length_cons, List.length_nil, Nat.reduceAdd, Nat.reduceSub, Array.replicate_succ, Array.replicate_zero, List.push_toArray, List.append_toArray, List.nil_append, List.cons_append]
  gi_wp2_with fail
  rw [show (w.alloc (.cells #[.map none] 57)).alloc (.cells #[.bool false] 4) = V2 from HV2.out.symm]
  refine ⟨trivial, (callsIn_wide.2 HNO.out).mono ?_⟩
  rintro e wA ⟨hbA, hans⟩
  have HRA := mkH (HR2.out.bel hbA)
  have HEA := mkH (HE2.out.bel hbA)
  have HBA := mkH (HB2.out.trans (hbA.mono HB2.out.size))
  have hzA : w.heap.size + 2 ≤ wA.heap.size := by have := hbA.size; have := HZ2.out; omega
  have HZV := HZ2
  clear hbA HR2 HE2 HB2 HZ2 HV2 HNO
  rcases hans with ⟨L, aN, cN, hN, rfl, hown⟩ | ⟨hno, rfl⟩
  · have x4 : wA.cell? ⟨w.heap.size + 1, 0, none⟩ = some (.bool false) := HEA.out.cell 0 _ rfl
    have x5 := HEA.out.frozen 0
    have hEB := HEA.out.set 0 (.bool true)
    have hRB := HRA.out.other (p := ⟨w.heap.size + 1, 0, none⟩) (by simp) (.bool true)
    have hBB : Below w.heap.size w (wA.setCell ⟨w.heap.size + 1, 0, none⟩ (.bool true)) := HBA.out.setCell (Nat.le_succ _) _
    have hsB : (wA.setCell ⟨w.heap.size + 1, 0, none⟩ (.bool true)).heap.size = wA.heap.size := by simp
    have y0 : (wA.setCell ⟨w.heap.size + 1, 0, none⟩ (.bool true)).cell? ⟨w.heap.size, 0, none⟩ = some (.map none) := hRB.cell 0 _ rfl
    have y1 := hRB.frozen 0
    have y2 : (wA.setCell ⟨w.heap.size + 1, 0, none⟩ (.bool true)).cell? ⟨w.heap.size + 1, 0, none⟩ = some (.bool true) := hEB.cell 0 _ rfl
    have y3 := hEB.frozen 0
    have HN := mkH hN
    have HO := mkH hown
    clear hN hown
    by_cases hbig : 128 < L.length
    · have HBAD : Hid (¬ ∃ D, GoodD bs D) := mkH (badD_long HN.out hbig)
      obtain ⟨f1, f2, f3, -⟩ := fin_two hRB hEB hBB (.map none) (.bool false)
      have z0 : (((wA.setCell ⟨w.heap.size + 1, 0, none⟩ (.bool true)).setCell ⟨w.heap.size, 0, none⟩ (.map none))).cell? ⟨w.heap.size + 1, 0, none⟩ = some (.bool true) := (hEB.other (p := ⟨w.heap.size, 0, none⟩) (by simp) (.map none)).cell 0 _ rfl
      have z1 := (hEB.other (p := ⟨w.heap.size, 0, none⟩) (by simp) (.map none)).frozen 0
      have F0 : (((wA.setCell ⟨w.heap.size + 1, 0, none⟩ (.bool true)).setCell ⟨w.heap.size, 0, none⟩ (.map none)).setCell ⟨w.heap.size + 1, 0, none⟩ (.bool false)).cell? ⟨w.heap.size, 0, none⟩ = some (.map none) := f1.cell 0 _ rfl
      have F1 : (((wA.setCell ⟨w.heap.size + 1, 0, none⟩ (.bool true)).setCell ⟨w.heap.size, 0, none⟩ (.map none)).setCell ⟨w.heap.size + 1, 0, none⟩ (.bool false)).cell? ⟨w.heap.size + 1, 0, none⟩ = some (.bool false) := f2.cell 0 _ rfl
      have HF3 := mkH f3
      have g1 : (128 : Int) < (L.length : Int) := by omega
      clear f1 f2 f3 hEB hRB hBB
      gi_wp2_with fail
      exact ⟨.tuple #[.map none, .bool false], res_cc rfl _ _ _ (b := ⟨w.heap.size, 0, none⟩) (c := ⟨w.heap.size + 1, 0, none⟩) (x := .map none) (y := .bool false) (by rfl) (by rfl) (by simp [loadVar, go_sem, F0]) (by simp [loadVar, go_sem, F1]), HF3.out, .inr ⟨HBAD.out, rfl⟩⟩
    · have g1 : ¬ (128 : Int) < (L.length : Int) := by omega
      obtain ⟨WB, hWB⟩ : ∃ WB, WB = wA.setCell ⟨w.heap.size + 1, 0, none⟩ (.bool true) := ⟨_, rfl⟩
      rw [← hWB] at hEB hRB hBB hsB y0 y1 y2 y3
      have hRC := hRB.alloc (.map #[] 0)
      have u0 : (WB.alloc (.map #[] 0)).cell? ⟨w.heap.size, 0, none⟩ = some (.map none) := hRC.cell 0 _ rfl
      have u1 := hRC.frozen 0
      have hRD := hRC.set 0 (.map (some wA.heap.size))
      have hED := (hEB.alloc (.map #[] 0)).other (p := ⟨w.heap.size, 0, none⟩) (by simp) (.map (some wA.heap.size))
      have hBD : Below w.heap.size w ((WB.alloc (.map #[] 0)).setCell ⟨w.heap.size, 0, none⟩ (.map (some wA.heap.size))) := (hBB.alloc (by omega) _).setCell (Nat.le_refl _) _
      have hmD : Md ((WB.alloc (.map #[] 0)).setCell ⟨w.heap.size, 0, none⟩ (.map (some wA.heap.size))) wA.heap.size [] := by
        have h := Md.made WB
        rw [hsB] at h
        exact h.fr (hRC.frset 0 _) (by omega)
      obtain ⟨WD, hWD⟩ : ∃ WD, WD = (WB.alloc (.map #[] 0)).setCell ⟨w.heap.size, 0, none⟩ (.map (some wA.heap.size)) := ⟨_, rfl⟩
      rw [← hWD] at hRD hED hBD hmD
      have hsD : WD.heap.size = wA.heap.size + 1 := by rw [hWD]; simp; omega
      have hwWD : WD.cell? ⟨w.heap.size, 0, none⟩ = some (.map (some wA.heap.size)) := hRD.cell 0 _ rfl
      have hcN := own_le HO.out
      have hcM := own_cap HO.out
      have hri := (RowI.own HO.out).2
      have HWB := mkH hWB
      have HWD : Hid (WD = ((wA.setCell ⟨w.heap.size + 1, 0, none⟩ (.bool true)).alloc (.map #[] 0)).setCell ⟨w.heap.size, 0, none⟩ (.map (some wA.heap.size))) := mkH (by rw [hWD, hWB])
      rw [hWB] at u0 u1
      rw [hWB] at y2
      clear hWB hWD hRC hEB hRB hBB y0 y1 y3 hsB
      obtain ⟨N, hN⟩ : ∃ N, N = L.length := ⟨_, rfl⟩
      have HNL := mkH hN
      have HRI := mkH hri
      obtain ⟨b, off, hao⟩ : ∃ b off, 0 < L.length → aN = some ⟨b, off, none⟩ := by
        by_cases h : 0 < L.length
        · obtain ⟨b, off, e, -⟩ := hri h; exact ⟨b, off, fun _ => e⟩
        · exact ⟨0, 0, fun h' => absurd h' h⟩
      have HAO := mkH hao
      have hri2 : 0 < L.length → w.heap.size + 2 ≤ b := fun h => by
        have e := hao h
        have ho := HO.out
        rw [e] at ho
        have := (ho.lt b rfl).1
        have hz2 := HZV.out
        omega
      rw [← hN] at hcN g1 hbig ⊢
      have hN128 : N ≤ 128 := by omega
      clear hri hN hao
      have hmm := @run_makeMap Tryz.prog
      gi_wp2_with fail
      clear hmm u0 u1
      obtain ⟨WC, hWC⟩ : ∃ WC, WC = WD.alloc (.cells #[.int .i64 0] 3) := ⟨_, rfl⟩
      rw [← HWD.out, ← hWC]
      refine ⟨trivial, (callsIn_wide.2 (chunk_any _ _ _ _)).mono ?_⟩
      rintro e w1 ⟨rfl, rfl⟩
      have hsC : WC.heap.size = wA.heap.size + 2 := by rw [hWC]; simp; omega
      have hbC : Below (wA.heap.size + 1) WD WC := by rw [hWC]; exact (Below.refl _ WD).alloc (by omega) _
      have hlC : Bx WC (wA.heap.size + 1) #[.int .i64 0] 3 := by rw [hWC, ← hsD]; exact Bx.new _ _ _
      obtain ⟨W0, hW0⟩ : ∃ W0, W0 = (WC.alloc (.cells #[.slice aN N cN] 74)).alloc (.cells #[.int .i64 2] 3) := ⟨_, rfl⟩
      have hb0 : Below (wA.heap.size + 2) WC W0 := by rw [hW0]; exact ((Below.refl _ WC).alloc (by omega) _).alloc (by simp; omega) _
      have hz0 : W0.heap.size = wA.heap.size + 4 := by rw [hW0]; simp; omega
      have hs0 : Bx W0 (wA.heap.size + 2) #[.slice aN N cN] 74 := by rw [hW0, ← hsC]; exact (Bx.new WC _ _).alloc _
      have hn0 : Bx W0 (wA.heap.size + 3) #[.int .i64 2] 3 := by
        have hh : WC.heap.size + 1 = wA.heap.size + 3 := by omega
        rw [hW0, ← hh]; exact Bx.new1 WC _ _ _
      have hbD0 : Below (wA.heap.size + 1) WD W0 := hbC.trans (hb0.mono (by omega))
      have hR0 := hRD.below hbD0 (by omega)
      have hE0 := hED.below hbD0 (by omega)
      have hL0 := hlC.below hb0 (by omega)
      have hM0 := hmD.below (by rw [hsD]; exact hbD0)
      have hB0 : Below w.heap.size w W0 := hBD.trans (hbD0.mono (by omega))
      have hseq := chunk_seq 11 (by omega) (fun q => q = w.heap.size ∨ q = w.heap.size + 1 ∨ q = wA.heap.size ∨ q = wA.heap.size + 1) (wA.heap.size + 2) (wA.heap.size + 3) (b := b) (off := off) (m := N) hs0 hn0 (by omega) (by omega) hcN (by omega) hcM (fun h => HAO.out (by rw [← HNL.out]; exact h))
      have HM0 : Hid (RI w wA.heap.size L W0 0 0 W0) := mkH ⟨by omega, okS_nil, hR0, hE0, hL0, hM0, Below.refl _ _⟩
      have HB0 := mkH hB0
      have HZ0 := mkH hz0
      have HW0 := mkH hW0
      have hbA0 : ∀ q, q < wA.heap.size → q ≠ w.heap.size → q ≠ w.heap.size + 1 → W0.heap[q]? = wA.heap[q]? := by
        intro q h1 h2 h3
        rw [hbD0.block q (by omega), HWD.out, heap_setCell_other _ ⟨w.heap.size, 0, none⟩ q _ (by simpa using h2), Below.heap_alloc _ _ q (by simp; exact h1), heap_setCell_other _ ⟨w.heap.size + 1, 0, none⟩ q _ (by simpa using h3)]
      have HBL : Hid (0 < N → b < wA.heap.size) := mkH (fun h => by
        obtain ⟨b', off', e1, hc⟩ := HRI.out (by rw [← HNL.out]; exact h)
        rw [HAO.out (by rw [← HNL.out]; exact h)] at e1
        cases e1
        exact World.block_lt_of_cell? wA _ (hc 0 (by rw [← HNL.out]; exact h)))
      have HCL : Hid (∀ i, i < N → W0.cell? ⟨b, off + i, none⟩ = some (.int .i64 (L.getD i 0))) := mkH (by
        intro i hi
        obtain ⟨b', off', e1, hc⟩ := HRI.out (by rw [← HNL.out]; omega)
        rw [HAO.out (by rw [← HNL.out]; omega)] at e1
        cases e1
        have h1 := hc i (by rw [← HNL.out]; exact hi)
        have h2 := World.block_lt_of_cell? wA _ h1
        have h5 : w.heap.size + 2 ≤ b := hri2 (by rw [← HNL.out]; omega)
        have h3 : b ≠ w.heap.size := by omega
        have h4 : b ≠ w.heap.size + 1 := by omega
        rw [World.cell?_of_block (w := wA) (a := ⟨b, off + i, none⟩) (hbA0 b h2 h3 h4)]
        exact h1)
      clear hs0 hn0 hb0 hbC hlC hbD0 hR0 hE0 hL0 hM0 hB0 hRD hED hBD hmD hsD hwWD hbA0 hz0 hWC hW0 hri2
      have HSC := mkH hsC
      clear hsC
      gi_wp2_with fail
      rw [show (WC.alloc (.cells #[.slice aN N cN] 74)).alloc (.cells #[.int .i64 2] 3) = W0 from HW0.out.symm]
      rw [HSC.out]
      refine rfZ (by omega) (gf := 81) (lb := #[.pointer (some ⟨wA.heap.size + 2, 0, none⟩), .pointer (some ⟨wA.heap.size + 3, 0, none⟩)]) rfl (enters_of Tryz.func81 (by kernel_rfl) rfl) hseq (Below.refl _ _) (fun q hq => by have := HZ0.out; omega) (fun _ => rfl)
        (RI w wA.heap.size L W0) (RZ w bs) (fun m => RI_own _ _ _ _ _ m (by omega) (by have := HZ0.out; omega)) (fun m => RZ_own _ _ _ m (by have := HZ0.out; omega))
        (fun m hm => HM0.out)
        (fun x a' W => a' = { tmps := #[.string (S bs), undef, .pointer (some ⟨w.heap.size, 0, none⟩), .pointer (some ⟨w.heap.size + 1, 0, none⟩), .slice aN N cN, .pointer (some ⟨wA.heap.size + 1, 0, none⟩), (.slice (some ⟨b, off + 2 * x, none⟩) (min 2 (N - 2 * x)) (min 2 (N - 2 * x))), .tuple #[.slice aN N cN, .bool true], .string (S bs), .tuple #[.slice aN N cN, .bool true], .slice aN N cN, .bool true, .bool true, .bool false, .bool false, .slice aN N cN, .int .i64 (N : Int), .bool (decide ((128 : Int) < (N : Int))), .bool (decide ((128 : Int) < (N : Int))), .map (some wA.heap.size), .slice aN N cN, .func (.func 81) #[] #[.pointer (some ⟨wA.heap.size + 2, 0, none⟩), .pointer (some ⟨wA.heap.size + 2 + 1, 0, none⟩)], (.slice (some ⟨b, off + 2 * x, none⟩) (min 2 (N - 2 * x)) (min 2 (N - 2 * x))), undef, undef, undef, undef, undef, undef, undef, undef, undef, undef, undef, undef, undef, undef, undef, undef, undef, undef, undef, undef, undef, undef, undef, undef, undef], defers := [] })
        (fun x a' => ?hA) ?assign ?body ?done ?stop
      case hA =>
        rintro - W W' row e hg hr
        exact e
      case assign =>
        rintro l' x W' K hK
        have HK := mkH hK
        clear hK
        simp only [arC]
        gi_wp2
        exact HK.out _ _ (Below.refl _ _) rfl
      case body =>
        rintro l' m k x a' Wb hl1 hm hmW ⟨z0, z1, z2, z3, z4, z5, z6⟩ rfl hx
        obtain ⟨hk, rfl⟩ : k < (N + 1) / 2 ∧ x = k := by
          have h1 := (List.getElem?_eq_some_iff.1 hx).1
          rw [List.length_range] at h1
          rw [List.getElem?_range h1] at hx
          exact ⟨h1, (Option.some.inj hx).symm⟩
        clear hx
        have hNL := HNL.out
        have hBw : Below w.heap.size w Wb := HB0.out.trans (z6.mono (by omega))
        obtain ⟨kl, hkl⟩ : ∃ kl, kl = lastK (prs (L.take (2 * x))) := ⟨_, rfl⟩
        rw [← hkl] at z4
        have v2 : Wb.cell? ⟨wA.heap.size + 1, 0, none⟩ = some (.int .i64 kl) := z4.cell 0 _ rfl
        by_cases h3 : N < 2 * x + 2
        · have hq : min 2 (N - 2 * x) = 1 := by omega
          rw [hq]
          have HBAD : Hid (¬ ∃ D, GoodD bs D) := mkH (badD_odd HN.out (by omega))
          obtain ⟨V1, hV1⟩ : ∃ V1, V1 = Wb.drew := ⟨_, rfl⟩
          have hbV : Below Wb.heap.size Wb V1 := by rw [hV1]; exact (Below.refl _ Wb).drew
          have f2 := z2.bel hbV
          have f3 := z3.bel hbV
          obtain ⟨e1, e2, e3, e4⟩ := fin_two f2 f3 (hBw.trans (hbV.mono hBw.size)) (.map none) (.bool false)
          have y2 : V1.cell? ⟨w.heap.size, 0, none⟩ = some (.map (some wA.heap.size)) := f2.cell 0 _ rfl
          have y3 := f2.frozen 0
          have y4 : (V1.setCell ⟨w.heap.size, 0, none⟩ (.map none)).cell? ⟨w.heap.size + 1, 0, none⟩ = some (.bool true) := (f3.other (p := ⟨w.heap.size, 0, none⟩) (by simp) (.map none)).cell 0 _ rfl
          have y5 := (f3.other (p := ⟨w.heap.size, 0, none⟩) (by simp) (.map none)).frozen 0
          have HE : Hid (Fm m (fun q => q = w.heap.size ∨ q = w.heap.size + 1 ∨ q = wA.heap.size ∨ q = wA.heap.size + 1) Wb ((V1.setCell ⟨w.heap.size, 0, none⟩ (.map none)).setCell ⟨w.heap.size + 1, 0, none⟩ (.bool false)) ∧ RZ w bs m (x + 1) ((V1.setCell ⟨w.heap.size, 0, none⟩ (.map none)).setCell ⟨w.heap.size + 1, 0, none⟩ (.bool false))) := mkH ⟨(Fm.ofFr (Gf.Fr.ofBelow hbV)).trans (Fm.ofFr (e4.mono (fun q hq => by rcases hq with h | h; exact .inl h; exact .inr (.inl h)))), e1, e2, e3, HBAD.out⟩
          rw [hV1] at y2 y3 y4 y5 HE
          clear hV1 hbV f2 f3 e1 e2 e3 e4
          clear z0 z1 z2 z3 z4 z5 z6 hq h3 hkl hBw v2 hk hNL
          gi_wp2_with fail
          refine Rr.round_G l' hmx (by kernel_rfl) (by rintro ⟨a9, w9, h9⟩; exact h9) 15 (fun W => True) trivial (fun hHeld => ?_)
          generalize Wb.drew = V0 at *
          refine Rg.anyG_pure (i := 0) (oi := { dst := some 23, op := _, type := _, pos := _, after := _, guard := _ }) (v := ?_) rfl (by kernel_rfl) (by kernel_rfl) (by kernel_rfl) (by rfl) (fun _ _ _ h => h) (Or.inl ⟨by rfl, ?_⟩) (fun _ => by assumption) ?_
          rotate_left
          · (intro W hSw; (try dsimp only at hSw); go_simp; try (with_reducible rfl))
          try simp only [Act.put, List.setIfInBounds_toArray, List.set_cons_zero, List.set_cons_succ]
          refine Rg.anyG_pure (i := 1) (oi := { dst := some 24, op := _, type := _, pos := _, after := _, guard := _ }) (v := ?_) rfl (by kernel_rfl) (by kernel_rfl) (by kernel_rfl) (by rfl) (fun _ _ _ h => h) (Or.inl ⟨by rfl, ?_⟩) (fun _ => by assumption) ?_
          rotate_left
          · (intro W hSw; (try dsimp only at hSw); go_simp; try (with_reducible rfl))
          try simp only [Act.put, List.setIfInBounds_toArray, List.set_cons_zero, List.set_cons_succ]
          refine Rg.anyG_pure (i := 2) (oi := { dst := some 25, op := _, type := _, pos := _, after := _, guard := _ }) (v := ?_) rfl (by kernel_rfl) (by kernel_rfl) (by kernel_rfl) (by rfl) (fun _ _ _ h => h) (Or.inl ⟨by rfl, ?_⟩) (fun _ => by assumption) ?_
          rotate_left
          · (intro W hSw; (try dsimp only at hSw); go_simp; try (with_reducible rfl))
          try simp only [Act.put, List.setIfInBounds_toArray, List.set_cons_zero, List.set_cons_succ]
          refine Rg.anyG_pure (i := 3) (oi := { dst := some 26, op := _, type := _, pos := _, after := _, guard := _ }) (v := ?_) rfl (by kernel_rfl) (by kernel_rfl) (by kernel_rfl) (by rfl) (fun _ _ _ h => h) (Or.inl ⟨by rfl, ?_⟩) (fun _ => by assumption) ?_
          rotate_left
          · (intro W hSw; (try dsimp only at hSw); go_simp; try (with_reducible rfl))
          try simp only [Act.put, List.setIfInBounds_toArray, List.set_cons_zero, List.set_cons_succ]
          refine Rg.anyG_take (i := 4) (oi := { dst := some 27, op := _, type := _, pos := _, after := _, guard := _ }) (v := undef) rfl (by kernel_rfl) (by kernel_rfl) (by kernel_rfl) [5, 6, 8, 9, 10, 15] (by kernel_rfl) (fun _ _ _ h => h) (Or.inr ⟨by rfl, by rfl⟩) (by assumption) ?_
          try simp only [Act.put, List.setIfInBounds_toArray, List.set_cons_zero, List.set_cons_succ]
          refine Rg.anyG_take (i := 5) (oi := { dst := some 28, op := _, type := _, pos := _, after := _, guard := _ }) (v := undef) rfl (by kernel_rfl) (by kernel_rfl) (by kernel_rfl) [6, 8, 9, 10, 15] (by kernel_rfl) (fun _ _ _ h => h) (Or.inr ⟨by rfl, by rfl⟩) (by assumption) ?_
          try simp only [Act.put, List.setIfInBounds_toArray, List.set_cons_zero, List.set_cons_succ]
          refine Rg.anyG_take (i := 6) (oi := { dst := some 29, op := _, type := _, pos := _, after := _, guard := _ }) (v := undef) rfl (by kernel_rfl) (by kernel_rfl) (by kernel_rfl) [8, 9, 10, 15] (by kernel_rfl) (fun _ _ _ h => h) (Or.inr ⟨by rfl, by rfl⟩) (by assumption) ?_
          try simp only [Act.put, List.setIfInBounds_toArray, List.set_cons_zero, List.set_cons_succ]
          refine Rg.anyG_take (i := 7) (oi := { dst := some 30, op := _, type := _, pos := _, after := _, guard := _ }) (v := undef) rfl (by kernel_rfl) (by kernel_rfl) (by kernel_rfl) [8, 9, 10, 15] (by kernel_rfl) (fun _ _ _ h => h) (Or.inr ⟨by rfl, by rfl⟩) (by assumption) ?_
          try simp only [Act.put, List.setIfInBounds_toArray, List.set_cons_zero, List.set_cons_succ]
          refine Rg.anyG_take (i := 8) (oi := { dst := some 31, op := _, type := _, pos := _, after := _, guard := _ }) (v := undef) rfl (by kernel_rfl) (by kernel_rfl) (by kernel_rfl) [9, 10, 15] (by kernel_rfl) (fun _ _ _ h => h) (Or.inr ⟨by rfl, by rfl⟩) (by assumption) ?_
          try simp only [Act.put, List.setIfInBounds_toArray, List.set_cons_zero, List.set_cons_succ]
          refine Rg.anyG_pure (i := 9) (oi := { dst := some 32, op := _, type := _, pos := _, after := _, guard := _ }) (v := ?_) rfl (by kernel_rfl) (by kernel_rfl) (by kernel_rfl) (by rfl) (fun _ _ _ h => h) (Or.inl ⟨by rfl, ?_⟩) (fun _ => by assumption) ?_
          rotate_left
          · (intro W hSw; (try dsimp only at hSw); go_simp; try (with_reducible rfl))
          try simp only [Act.put, List.setIfInBounds_toArray, List.set_cons_zero, List.set_cons_succ]
          refine Rg.anyG_pure (i := 10) (oi := { dst := some 33, op := _, type := _, pos := _, after := _, guard := _ }) (v := ?_) rfl (by kernel_rfl) (by kernel_rfl) (by kernel_rfl) (by rfl) (fun _ _ _ h => h) (Or.inl ⟨by rfl, ?_⟩) (fun _ => by assumption) ?_
          rotate_left
          · (intro W hSw; (try dsimp only at hSw); go_simp; try (with_reducible rfl))
          try simp only [Act.put, List.setIfInBounds_toArray, List.set_cons_zero, List.set_cons_succ]
          refine Rg.anyG_take (i := 11) (oi := { dst := some 34, op := _, type := _, pos := _, after := _, guard := _ }) (v := undef) rfl (by kernel_rfl) (by kernel_rfl) (by kernel_rfl) [12, 13, 14, 15] (by kernel_rfl) (fun _ _ _ h => h) (Or.inr ⟨by rfl, by rfl⟩) (by assumption) ?_
          try simp only [Act.put, List.setIfInBounds_toArray, List.set_cons_zero, List.set_cons_succ]
          refine Rg.anyG_take (i := 12) (oi := { dst := some 35, op := _, type := _, pos := _, after := _, guard := _ }) (v := undef) rfl (by kernel_rfl) (by kernel_rfl) (by kernel_rfl) [13, 14, 15] (by kernel_rfl) (fun _ _ _ h => h) (Or.inr ⟨by rfl, by rfl⟩) (by assumption) ?_
          try simp only [Act.put, List.setIfInBounds_toArray, List.set_cons_zero, List.set_cons_succ]
          refine Rg.anyG_take (i := 13) (oi := { dst := some 36, op := _, type := _, pos := _, after := _, guard := _ }) (v := undef) rfl (by kernel_rfl) (by kernel_rfl) (by kernel_rfl) [14, 15] (by kernel_rfl) (fun _ _ _ h => h) (Or.inr ⟨by rfl, by rfl⟩) (by assumption) ?_
          try simp only [Act.put, List.setIfInBounds_toArray, List.set_cons_zero, List.set_cons_succ]
          refine Rg.anyG_take (i := 14) (oi := { dst := some 37, op := _, type := _, pos := _, after := _, guard := _ }) (v := undef) rfl (by kernel_rfl) (by kernel_rfl) (by kernel_rfl) [15] (by kernel_rfl) (fun _ _ _ h => h) (Or.inr ⟨by rfl, by rfl⟩) (by assumption) ?_
          try simp only [Act.put, List.setIfInBounds_toArray, List.set_cons_zero, List.set_cons_succ]
          refine Rg.anyG_ready (rs := [15]) (by kernel_rfl) (by simp) ?_
          refine Rg.AllG.last (o := { dst := some 38, op := _, type := _, pos := _, after := _, guard := _ }) rfl (by kernel_rfl) (fun K hK => ?_)
          go_simp
          refine hK.out _ _ ?_
          clear hK K
          try simp only [Act.put, List.setIfInBounds_toArray, List.set_cons_zero, List.set_cons_succ]
          refine Rg.anyG_done (by kernel_rfl) ?_ _
          gi_wp2
          exact HE.out
        · have hq : min 2 (N - 2 * x) = 2 := by omega
          rw [hq]
          have c0' := HCL.out (2 * x) (by omega)
          have c1' := HCL.out (2 * x + 1) (by omega)
          obtain ⟨a0, hq0⟩ : ∃ a0, L[2 * x]? = some a0 := ⟨_, List.getElem?_eq_getElem (by omega)⟩
          obtain ⟨a1, hq1⟩ : ∃ a1, L[2 * x + 1]? = some a1 := ⟨_, List.getElem?_eq_getElem (by omega)⟩
          rw [show L.getD (2 * x) 0 = a0 by simp [List.getD, hq0]] at c0'
          rw [show L.getD (2 * x + 1) 0 = a1 by simp [List.getD, hq1]] at c1'
          have ok0 := HN.out.2 a0 (List.mem_of_getElem? hq0)
          have ok1 := HN.out.2 a1 (List.mem_of_getElem? hq1)
          obtain ⟨o2, ho2⟩ : ∃ o2, o2 = off + 2 * x := ⟨_, rfl⟩
          rw [← Nat.add_assoc, ← ho2] at c1'
          rw [← ho2] at c0'
          have HCC : Hid (∀ W, Below wA.heap.size W0 W → W.cell? ⟨b, o2, none⟩ = some (.int .i64 a0) ∧ W.cell? ⟨b, o2 + 1, none⟩ = some (.int .i64 a1)) := mkH (fun W hb => ⟨(hb.cell (p := ⟨b, o2, none⟩) (HBL.out (by omega))).trans c0', (hb.cell (p := ⟨b, o2 + 1, none⟩) (HBL.out (by omega))).trans c1'⟩)
          obtain ⟨v0, v1⟩ := HCC.out Wb z6
          rw [← ho2]
          by_cases hok : kl < a0 ∧ 1 ≤ a1
          · obtain ⟨hok0, hok1⟩ := hok
            have hsn : okS (prs (L.take (2 * (x + 1)))) := by rw [prs_snoc x L a0 a1 hq0 hq1]; exact (okS_snoc z1 (a0, a1)).2 ⟨by rw [← hkl]; exact hok0, hok1⟩
            have hls : lastK (prs (L.take (2 * (x + 1)))) = a0 := by rw [prs_snoc x L a0 a1 hq0 hq1, lastK_snoc]
            have hpp : put kD (prs (L.take (2 * x))) (a0, a1) = prs (L.take (2 * (x + 1))) := by rw [prs_snoc x L a0 a1 hq0 hq1]; exact put_snoc z1 (by rw [← hkl]; exact hok0)
            have hpl : (prs (L.take (2 * x))).length ≤ 1000 := by rw [prs_len, List.length_take]; omega
            obtain ⟨V1, hV1⟩ : ∃ V1, V1 = Wb.drew := ⟨_, rfl⟩
            have hbV : Below Wb.heap.size Wb V1 := by rw [hV1]; exact (Below.refl _ Wb).drew
            have f2 := z2.bel hbV
            have f3 := z3.bel hbV
            have f4 := z4.bel hbV
            have f5 := z5.below hbV
            have f6 : Below wA.heap.size W0 V1 := z6.trans (hbV.mono (by have := z6.size; have := HZ0.out; omega))
            have g2 := f2.other (p := ⟨wA.heap.size + 1, 0, none⟩) (by simp; omega) (.int .i64 a0)
            have g3 := f3.other (p := ⟨wA.heap.size + 1, 0, none⟩) (by simp; omega) (.int .i64 a0)
            have g4 := f4.set 0 (.int .i64 a0)
            have g5 := f5.fr (f4.frset 0 (.int .i64 a0)) (by omega)
            have g6 : Below wA.heap.size W0 (V1.setCell ⟨wA.heap.size + 1, 0, none⟩ (.int .i64 a0)) := f6.setCell (by simp) _
            have hdr : Below (V1.setCell ⟨wA.heap.size + 1, 0, none⟩ (.int .i64 a0)).heap.size (V1.setCell ⟨wA.heap.size + 1, 0, none⟩ (.int .i64 a0)) (V1.setCell ⟨wA.heap.size + 1, 0, none⟩ (.int .i64 a0)).drew := (Below.refl _ _).drew
            have i2 := g2.bel hdr
            have i3 := g3.bel hdr
            have i4 := g4.bel hdr
            have i5 := g5.below hdr
            have i6 : Below wA.heap.size W0 (V1.setCell ⟨wA.heap.size + 1, 0, none⟩ (.int .i64 a0)).drew := g6.drew
            obtain ⟨w5, hst, hm5, hf5⟩ := i5.store z1.1 (by omega) (a0, a1) (wf_int (by have := ok0.1; omega) (by have := ok0.2; omega))
            rw [hpp] at hm5
            have HE : Hid (Fm m (fun q => q = w.heap.size ∨ q = w.heap.size + 1 ∨ q = wA.heap.size ∨ q = wA.heap.size + 1) Wb w5 ∧ RI w wA.heap.size L W0 m (x + 1) w5) := mkH ⟨by
                refine (Fm.ofFr (Gf.Fr.ofBelow hbV)).trans ?_
                refine (Fm.ofFr ((f4.frset 0 (.int .i64 a0)).mono (G := fun q => q = w.heap.size ∨ q = w.heap.size + 1 ∨ q = wA.heap.size ∨ q = wA.heap.size + 1) (fun q hq => .inr (.inr (.inr hq))))).trans ?_
                refine (Fm.ofFr (Gf.Fr.ofBelow hdr)).trans ?_
                exact Fm.ofFr (hf5.mono (fun q hq => .inr (.inr (.inl hq)))),
              by omega, hsn, i2.fr hf5 (by omega), i3.fr hf5 (by omega), by rw [hls]; exact i4.fr hf5 (by omega), hm5, by
                refine ⟨hf5.os.trans i6.os, hf5.tape.trans i6.tape, hf5.output.trans i6.output, Nat.le_trans i6.size hf5.size, fun k hk => (hf5.block k (Nat.lt_of_lt_of_le (by have := HZ0.out; omega) i6.size) (by omega)).trans (i6.block k hk)⟩⟩
            obtain ⟨y0, y1⟩ := HCC.out V1 f6
            have y2 : V1.cell? ⟨wA.heap.size + 1, 0, none⟩ = some (.int .i64 kl) := f4.cell 0 _ rfl
            have y3 := f4.frozen 0
            obtain ⟨-, t1⟩ := HCC.out _ g6
            have t0 : (V1.setCell ⟨wA.heap.size + 1, 0, none⟩ (.int .i64 a0)).cell? ⟨w.heap.size, 0, none⟩ = some (.map (some wA.heap.size)) := g2.cell 0 _ rfl
            have t2 : (V1.setCell ⟨wA.heap.size + 1, 0, none⟩ (.int .i64 a0)).cell? ⟨wA.heap.size + 1, 0, none⟩ = some (.int .i64 a0) := g4.cell 0 _ rfl
            have HST : Hid ((Instr.mapUpdate 57 (.map (some wA.heap.size)) (.int .i64 a0) (.int .i64 a1)).run Tryz.prog (V1.setCell ⟨wA.heap.size + 1, 0, none⟩ (.int .i64 a0)).drew = .ok () w5) := mkH hst
            have HV1 := mkH hV1
            have hp0 : (0 : Int) < 2 := by decide
            have hp1 : (1 : Int) < 2 := by decide
            have hna : ¬ a0 ≤ kl := by omega
            have hnb : ¬ a1 < 1 := by omega
            clear z0 z1 z2 z3 z4 z5 z6 hq h3 hkl hBw hk hNL hq0 hq1 c0' c1' ok0 ok1 ho2 hok0 hok1 hsn hls hpp hpl hV1 hbV f2 f3 f4 f5 f6 g2 g3 g4 g5 g6 hdr i2 i3 i4 i5 i6 hst hm5 hf5
            gi_wp2_with fail
            refine Rr.round_G l' hmx (by kernel_rfl) (by rintro ⟨a9, w9, h9⟩; exact h9) 15 (fun W => W.cell? ⟨b, o2, none⟩ = some (.int .i64 a0) ∧ W.cell? ⟨b, o2 + 1, none⟩ = some (.int .i64 a1) ∧ W.cell? ⟨wA.heap.size + 1, 0, none⟩ = some (.int .i64 kl)) ⟨by simpa using v0, by simpa using v1, by simpa using v2⟩ (fun hHeld => ?_)
            generalize Wb.drew = V0 at *
            refine Rg.anyG_pure (i := 0) (oi := { dst := some 23, op := _, type := _, pos := _, after := _, guard := _ }) (v := ?_) rfl (by kernel_rfl) (by kernel_rfl) (by kernel_rfl) (by rfl) (fun _ _ _ h => h) (Or.inl ⟨by rfl, ?_⟩) (fun _ => by assumption) ?_
            rotate_left
            · (intro W hSw; (try dsimp only at hSw); go_simp; try (with_reducible rfl))
            try simp only [Act.put, List.setIfInBounds_toArray, List.set_cons_zero, List.set_cons_succ]
            refine Rg.anyG_pure (i := 1) (oi := { dst := some 24, op := _, type := _, pos := _, after := _, guard := _ }) (v := ?_) rfl (by kernel_rfl) (by kernel_rfl) (by kernel_rfl) (by rfl) (fun _ _ _ h => h) (Or.inl ⟨by rfl, ?_⟩) (fun _ => by assumption) ?_
            rotate_left
            · (intro W hSw; (try dsimp only at hSw); go_simp; try (with_reducible rfl))
            try simp only [Act.put, List.setIfInBounds_toArray, List.set_cons_zero, List.set_cons_succ]
            refine Rg.anyG_pure (i := 2) (oi := { dst := some 25, op := _, type := _, pos := _, after := _, guard := _ }) (v := ?_) rfl (by kernel_rfl) (by kernel_rfl) (by kernel_rfl) (by rfl) (fun _ _ _ h => h) (Or.inl ⟨by rfl, ?_⟩) (fun _ => by assumption) ?_
            rotate_left
            · (intro W hSw; (try dsimp only at hSw); go_simp; try (with_reducible rfl))
            try simp only [Act.put, List.setIfInBounds_toArray, List.set_cons_zero, List.set_cons_succ]
            refine Rg.anyG_pure (i := 3) (oi := { dst := some 26, op := _, type := _, pos := _, after := _, guard := _ }) (v := ?_) rfl (by kernel_rfl) (by kernel_rfl) (by kernel_rfl) (by rfl) (fun _ _ _ h => h) (Or.inl ⟨by rfl, ?_⟩) (fun _ => by assumption) ?_
            rotate_left
            · (intro W hSw; (try dsimp only at hSw); go_simp; try (with_reducible rfl))
            try simp only [Act.put, List.setIfInBounds_toArray, List.set_cons_zero, List.set_cons_succ]
            refine Rg.anyG_pure (i := 4) (oi := { dst := some 27, op := _, type := _, pos := _, after := _, guard := _ }) (v := ?_) rfl (by kernel_rfl) (by kernel_rfl) (by kernel_rfl) (by rfl) (fun _ _ _ h => h) (Or.inl ⟨by rfl, ?_⟩) (fun _ => by assumption) ?_
            rotate_left
            · (intro W hSw; (try dsimp only at hSw); go_simp; try (with_reducible rfl))
            try simp only [Act.put, List.setIfInBounds_toArray, List.set_cons_zero, List.set_cons_succ]
            refine Rg.anyG_pure (i := 5) (oi := { dst := some 28, op := _, type := _, pos := _, after := _, guard := _ }) (v := ?_) rfl (by kernel_rfl) (by kernel_rfl) (by kernel_rfl) (by rfl) (fun _ _ _ h => h) (Or.inl ⟨by rfl, ?_⟩) (fun _ => by assumption) ?_
            rotate_left
            · (intro W hSw; (try dsimp only at hSw); go_simp; try (with_reducible rfl))
            try simp only [Act.put, List.setIfInBounds_toArray, List.set_cons_zero, List.set_cons_succ]
            refine Rg.anyG_take (i := 6) (oi := { dst := some 29, op := _, type := _, pos := _, after := _, guard := _ }) (v := ?_) rfl (by kernel_rfl) (by kernel_rfl) (by kernel_rfl) [8, 9, 10, 15] (by kernel_rfl) (fun _ _ _ h => h) (Or.inl ⟨by rfl, ?_⟩) (by assumption) ?_
            rotate_left
            · (intro W hSw; (try dsimp only at hSw); go_simp; try (with_reducible rfl))
            try simp only [Act.put, List.setIfInBounds_toArray, List.set_cons_zero, List.set_cons_succ]
            refine Rg.anyG_take (i := 7) (oi := { dst := some 30, op := _, type := _, pos := _, after := _, guard := _ }) (v := ?_) rfl (by kernel_rfl) (by kernel_rfl) (by kernel_rfl) [8, 9, 10, 15] (by kernel_rfl) (fun _ _ _ h => h) (Or.inl ⟨by rfl, ?_⟩) (by assumption) ?_
            rotate_left
            · (intro W hSw; (try dsimp only at hSw); go_simp; try (with_reducible rfl))
            try simp only [Act.put, List.setIfInBounds_toArray, List.set_cons_zero, List.set_cons_succ]
            refine Rg.anyG_pure (i := 8) (oi := { dst := some 31, op := _, type := _, pos := _, after := _, guard := _ }) (v := .bool false) rfl (by kernel_rfl) (by kernel_rfl) (by kernel_rfl) (by rfl) (fun _ _ _ h => h) (Or.inl ⟨by rfl, ?_⟩) (fun _ => by assumption) ?_
            · (intro W hSw; (try dsimp only at hSw); go_simp; try simp [hna])
            try simp only [Act.put, List.setIfInBounds_toArray, List.set_cons_zero, List.set_cons_succ]
            refine Rg.anyG_pure (i := 9) (oi := { dst := some 32, op := _, type := _, pos := _, after := _, guard := _ }) (v := ?_) rfl (by kernel_rfl) (by kernel_rfl) (by kernel_rfl) (by rfl) (fun _ _ _ h => h) (Or.inl ⟨by rfl, ?_⟩) (fun _ => by assumption) ?_
            rotate_left
            · (intro W hSw; (try dsimp only at hSw); go_simp; try (with_reducible rfl))
            try simp only [Act.put, List.setIfInBounds_toArray, List.set_cons_zero, List.set_cons_succ]
            refine Rg.anyG_pure (i := 10) (oi := { dst := some 33, op := _, type := _, pos := _, after := _, guard := _ }) (v := ?_) rfl (by kernel_rfl) (by kernel_rfl) (by kernel_rfl) (by rfl) (fun _ _ _ h => h) (Or.inl ⟨by rfl, ?_⟩) (fun _ => by assumption) ?_
            rotate_left
            · (intro W hSw; (try dsimp only at hSw); go_simp; try (with_reducible rfl))
            try simp only [Act.put, List.setIfInBounds_toArray, List.set_cons_zero, List.set_cons_succ]
            refine Rg.anyG_pure (i := 11) (oi := { dst := some 34, op := _, type := _, pos := _, after := _, guard := _ }) (v := ?_) rfl (by kernel_rfl) (by kernel_rfl) (by kernel_rfl) (by rfl) (fun _ _ _ h => h) (Or.inl ⟨by rfl, ?_⟩) (fun _ => by assumption) ?_
            rotate_left
            · (intro W hSw; (try dsimp only at hSw); go_simp; try (with_reducible rfl))
            try simp only [Act.put, List.setIfInBounds_toArray, List.set_cons_zero, List.set_cons_succ]
            refine Rg.anyG_pure (i := 12) (oi := { dst := some 35, op := _, type := _, pos := _, after := _, guard := _ }) (v := ?_) rfl (by kernel_rfl) (by kernel_rfl) (by kernel_rfl) (by rfl) (fun _ _ _ h => h) (Or.inl ⟨by rfl, ?_⟩) (fun _ => by assumption) ?_
            rotate_left
            · (intro W hSw; (try dsimp only at hSw); go_simp; try (with_reducible rfl))
            try simp only [Act.put, List.setIfInBounds_toArray, List.set_cons_zero, List.set_cons_succ]
            refine Rg.anyG_take (i := 13) (oi := { dst := some 36, op := _, type := _, pos := _, after := _, guard := _ }) (v := ?_) rfl (by kernel_rfl) (by kernel_rfl) (by kernel_rfl) [14, 15] (by kernel_rfl) (fun _ _ _ h => h) (Or.inl ⟨by rfl, ?_⟩) (by assumption) ?_
            rotate_left
            · (intro W hSw; (try dsimp only at hSw); go_simp; try (with_reducible rfl))
            try simp only [Act.put, List.setIfInBounds_toArray, List.set_cons_zero, List.set_cons_succ]
            refine Rg.anyG_pure (i := 14) (oi := { dst := some 37, op := _, type := _, pos := _, after := _, guard := _ }) (v := .bool false) rfl (by kernel_rfl) (by kernel_rfl) (by kernel_rfl) (by rfl) (fun _ _ _ h => h) (Or.inl ⟨by rfl, ?_⟩) (fun _ => by assumption) ?_
            · (intro W hSw; (try dsimp only at hSw); go_simp; try simp [hnb])
            try simp only [Act.put, List.setIfInBounds_toArray, List.set_cons_zero, List.set_cons_succ]
            refine Rg.anyG_ready (rs := [15]) (by kernel_rfl) (by simp) ?_
            refine Rg.AllG.last (o := { dst := some 38, op := _, type := _, pos := _, after := _, guard := _ }) rfl (by kernel_rfl) (fun K hK => ?_)
            go_simp
            refine hK.out _ _ ?_
            clear hK K
            try simp only [Act.put, List.setIfInBounds_toArray, List.set_cons_zero, List.set_cons_succ]
            refine Rg.anyG_done (by kernel_rfl) ?_ _
            have hv := HV1.out
            subst hv
            clear v0 v1 v2
            gi_wp2_with fail
            refine Rr.round_G l' hmx (by kernel_rfl) (by rintro ⟨a9, w9, h9⟩; exact h9) 5 (fun W => W.cell? ⟨w.heap.size, 0, none⟩ = some (.map (some wA.heap.size)) ∧ W.cell? ⟨wA.heap.size + 1, 0, none⟩ = some (.int .i64 a0) ∧ W.cell? ⟨b, o2 + 1, none⟩ = some (.int .i64 a1)) ⟨by simpa using t0, by simpa using t2, by simpa using t1⟩ (fun hHeld => ?_)
            generalize (V1.setCell ⟨wA.heap.size + 1, 0, none⟩ (.int .i64 a0)).drew = V3 at *
            have hst := HST.out
            refine Rg.anyG_take (i := 0) (oi := { dst := some 42, op := _, type := _, pos := _, after := _, guard := _ }) (v := ?_) rfl (by kernel_rfl) (by kernel_rfl) (by kernel_rfl) [5] (by kernel_rfl) (fun _ _ _ h => h) (Or.inl ⟨by rfl, ?_⟩) (by assumption) ?_
            rotate_left
            · (intro W hSw; (try dsimp only at hSw); go_simp; try (with_reducible rfl))
            try simp only [Act.put, List.setIfInBounds_toArray, List.set_cons_zero, List.set_cons_succ]
            refine Rg.anyG_take (i := 1) (oi := { dst := some 43, op := _, type := _, pos := _, after := _, guard := _ }) (v := ?_) rfl (by kernel_rfl) (by kernel_rfl) (by kernel_rfl) [5] (by kernel_rfl) (fun _ _ _ h => h) (Or.inl ⟨by rfl, ?_⟩) (by assumption) ?_
            rotate_left
            · (intro W hSw; (try dsimp only at hSw); go_simp; try (with_reducible rfl))
            try simp only [Act.put, List.setIfInBounds_toArray, List.set_cons_zero, List.set_cons_succ]
            refine Rg.anyG_pure (i := 2) (oi := { dst := some 44, op := _, type := _, pos := _, after := _, guard := _ }) (v := ?_) rfl (by kernel_rfl) (by kernel_rfl) (by kernel_rfl) (by rfl) (fun _ _ _ h => h) (Or.inl ⟨by rfl, ?_⟩) (fun _ => by assumption) ?_
            rotate_left
            · (intro W hSw; (try dsimp only at hSw); go_simp; try (with_reducible rfl))
            try simp only [Act.put, List.setIfInBounds_toArray, List.set_cons_zero, List.set_cons_succ]
            refine Rg.anyG_pure (i := 3) (oi := { dst := some 45, op := _, type := _, pos := _, after := _, guard := _ }) (v := ?_) rfl (by kernel_rfl) (by kernel_rfl) (by kernel_rfl) (by rfl) (fun _ _ _ h => h) (Or.inl ⟨by rfl, ?_⟩) (fun _ => by assumption) ?_
            rotate_left
            · (intro W hSw; (try dsimp only at hSw); go_simp; try (with_reducible rfl))
            try simp only [Act.put, List.setIfInBounds_toArray, List.set_cons_zero, List.set_cons_succ]
            refine Rg.anyG_take (i := 4) (oi := { dst := some 46, op := _, type := _, pos := _, after := _, guard := _ }) (v := ?_) rfl (by kernel_rfl) (by kernel_rfl) (by kernel_rfl) [5] (by kernel_rfl) (fun _ _ _ h => h) (Or.inl ⟨by rfl, ?_⟩) (by assumption) ?_
            rotate_left
            · (intro W hSw; (try dsimp only at hSw); go_simp; try (with_reducible rfl))
            try simp only [Act.put, List.setIfInBounds_toArray, List.set_cons_zero, List.set_cons_succ]
            refine Rg.anyG_ready (rs := [5]) (by kernel_rfl) (by simp) ?_
            refine Rg.AllG.last (o := { dst := none, op := _, type := _, pos := _, after := _, guard := _ }) rfl (by kernel_rfl) (fun K hK => ?_)
            go_simp
            refine hK.out _ _ ?_
            clear hK K
            try simp only [Act.put, List.setIfInBounds_toArray, List.set_cons_zero, List.set_cons_succ]
            refine Rg.anyG_done (by kernel_rfl) ?_ _
            gi_wp2
            exact HE.out
          · have HBAD : Hid (¬ ∃ D, GoodD bs D) := mkH (badD_at HN.out hq0 hq1 z1 (by rw [← hkl]; exact hok))
            obtain ⟨V1, hV1⟩ : ∃ V1, V1 = Wb.drew := ⟨_, rfl⟩
            have hbV : Below Wb.heap.size Wb V1 := by rw [hV1]; exact (Below.refl _ Wb).drew
            have f2 := z2.bel hbV
            have f3 := z3.bel hbV
            obtain ⟨e1, e2, e3, e4⟩ := fin_two f2 f3 (hBw.trans (hbV.mono hBw.size)) (.map none) (.bool false)
            have y2 : V1.cell? ⟨w.heap.size, 0, none⟩ = some (.map (some wA.heap.size)) := f2.cell 0 _ rfl
            have y3 := f2.frozen 0
            have y4 : (V1.setCell ⟨w.heap.size, 0, none⟩ (.map none)).cell? ⟨w.heap.size + 1, 0, none⟩ = some (.bool true) := (f3.other (p := ⟨w.heap.size, 0, none⟩) (by simp) (.map none)).cell 0 _ rfl
            have y5 := (f3.other (p := ⟨w.heap.size, 0, none⟩) (by simp) (.map none)).frozen 0
            have HE : Hid (Fm m (fun q => q = w.heap.size ∨ q = w.heap.size + 1 ∨ q = wA.heap.size ∨ q = wA.heap.size + 1) Wb ((V1.setCell ⟨w.heap.size, 0, none⟩ (.map none)).setCell ⟨w.heap.size + 1, 0, none⟩ (.bool false)) ∧ RZ w bs m (x + 1) ((V1.setCell ⟨w.heap.size, 0, none⟩ (.map none)).setCell ⟨w.heap.size + 1, 0, none⟩ (.bool false))) := mkH ⟨(Fm.ofFr (Gf.Fr.ofBelow hbV)).trans (Fm.ofFr (e4.mono (fun q hq => by rcases hq with h | h; exact .inl h; exact .inr (.inl h)))), e1, e2, e3, HBAD.out⟩
            rw [hV1] at y2 y3 y4 y5 HE
            clear hV1 hbV f2 f3 e1 e2 e3 e4
            have hp0 : (0 : Int) < 2 := by decide
            have hp1 : (1 : Int) < 2 := by decide
            by_cases hna : a0 ≤ kl
            · clear z0 z1 z2 z3 z4 z5 z6 hq h3 hkl hBw hk hNL hq0 hq1 c0' c1' ok0 ok1 ho2 hok
              gi_wp2_with fail
              refine Rr.round_G l' hmx (by kernel_rfl) (by rintro ⟨a9, w9, h9⟩; exact h9) 15 (fun W => W.cell? ⟨b, o2, none⟩ = some (.int .i64 a0) ∧ W.cell? ⟨b, o2 + 1, none⟩ = some (.int .i64 a1) ∧ W.cell? ⟨wA.heap.size + 1, 0, none⟩ = some (.int .i64 kl)) ⟨by simpa using v0, by simpa using v1, by simpa using v2⟩ (fun hHeld => ?_)
              generalize Wb.drew = V0 at *
              refine Rg.anyG_pure (i := 0) (oi := { dst := some 23, op := _, type := _, pos := _, after := _, guard := _ }) (v := ?_) rfl (by kernel_rfl) (by kernel_rfl) (by kernel_rfl) (by rfl) (fun _ _ _ h => h) (Or.inl ⟨by rfl, ?_⟩) (fun _ => by assumption) ?_
              rotate_left
              · (intro W hSw; (try dsimp only at hSw); go_simp; try (with_reducible rfl))
              try simp only [Act.put, List.setIfInBounds_toArray, List.set_cons_zero, List.set_cons_succ]
              refine Rg.anyG_pure (i := 1) (oi := { dst := some 24, op := _, type := _, pos := _, after := _, guard := _ }) (v := ?_) rfl (by kernel_rfl) (by kernel_rfl) (by kernel_rfl) (by rfl) (fun _ _ _ h => h) (Or.inl ⟨by rfl, ?_⟩) (fun _ => by assumption) ?_
              rotate_left
              · (intro W hSw; (try dsimp only at hSw); go_simp; try (with_reducible rfl))
              try simp only [Act.put, List.setIfInBounds_toArray, List.set_cons_zero, List.set_cons_succ]
              refine Rg.anyG_pure (i := 2) (oi := { dst := some 25, op := _, type := _, pos := _, after := _, guard := _ }) (v := ?_) rfl (by kernel_rfl) (by kernel_rfl) (by kernel_rfl) (by rfl) (fun _ _ _ h => h) (Or.inl ⟨by rfl, ?_⟩) (fun _ => by assumption) ?_
              rotate_left
              · (intro W hSw; (try dsimp only at hSw); go_simp; try (with_reducible rfl))
              try simp only [Act.put, List.setIfInBounds_toArray, List.set_cons_zero, List.set_cons_succ]
              refine Rg.anyG_pure (i := 3) (oi := { dst := some 26, op := _, type := _, pos := _, after := _, guard := _ }) (v := ?_) rfl (by kernel_rfl) (by kernel_rfl) (by kernel_rfl) (by rfl) (fun _ _ _ h => h) (Or.inl ⟨by rfl, ?_⟩) (fun _ => by assumption) ?_
              rotate_left
              · (intro W hSw; (try dsimp only at hSw); go_simp; try (with_reducible rfl))
              try simp only [Act.put, List.setIfInBounds_toArray, List.set_cons_zero, List.set_cons_succ]
              refine Rg.anyG_pure (i := 4) (oi := { dst := some 27, op := _, type := _, pos := _, after := _, guard := _ }) (v := ?_) rfl (by kernel_rfl) (by kernel_rfl) (by kernel_rfl) (by rfl) (fun _ _ _ h => h) (Or.inl ⟨by rfl, ?_⟩) (fun _ => by assumption) ?_
              rotate_left
              · (intro W hSw; (try dsimp only at hSw); go_simp; try (with_reducible rfl))
              try simp only [Act.put, List.setIfInBounds_toArray, List.set_cons_zero, List.set_cons_succ]
              refine Rg.anyG_pure (i := 5) (oi := { dst := some 28, op := _, type := _, pos := _, after := _, guard := _ }) (v := ?_) rfl (by kernel_rfl) (by kernel_rfl) (by kernel_rfl) (by rfl) (fun _ _ _ h => h) (Or.inl ⟨by rfl, ?_⟩) (fun _ => by assumption) ?_
              rotate_left
              · (intro W hSw; (try dsimp only at hSw); go_simp; try (with_reducible rfl))
              try simp only [Act.put, List.setIfInBounds_toArray, List.set_cons_zero, List.set_cons_succ]
              refine Rg.anyG_take (i := 6) (oi := { dst := some 29, op := _, type := _, pos := _, after := _, guard := _ }) (v := ?_) rfl (by kernel_rfl) (by kernel_rfl) (by kernel_rfl) [8, 9, 10, 15] (by kernel_rfl) (fun _ _ _ h => h) (Or.inl ⟨by rfl, ?_⟩) (by assumption) ?_
              rotate_left
              · (intro W hSw; (try dsimp only at hSw); go_simp; try (with_reducible rfl))
              try simp only [Act.put, List.setIfInBounds_toArray, List.set_cons_zero, List.set_cons_succ]
              refine Rg.anyG_take (i := 7) (oi := { dst := some 30, op := _, type := _, pos := _, after := _, guard := _ }) (v := ?_) rfl (by kernel_rfl) (by kernel_rfl) (by kernel_rfl) [8, 9, 10, 15] (by kernel_rfl) (fun _ _ _ h => h) (Or.inl ⟨by rfl, ?_⟩) (by assumption) ?_
              rotate_left
              · (intro W hSw; (try dsimp only at hSw); go_simp; try (with_reducible rfl))
              try simp only [Act.put, List.setIfInBounds_toArray, List.set_cons_zero, List.set_cons_succ]
              refine Rg.anyG_pure (i := 8) (oi := { dst := some 31, op := _, type := _, pos := _, after := _, guard := _ }) (v := .bool true) rfl (by kernel_rfl) (by kernel_rfl) (by kernel_rfl) (by rfl) (fun _ _ _ h => h) (Or.inl ⟨by rfl, ?_⟩) (fun _ => by assumption) ?_
              · (intro W hSw; (try dsimp only at hSw); go_simp; try simp [hna])
              try simp only [Act.put, List.setIfInBounds_toArray, List.set_cons_zero, List.set_cons_succ]
              refine Rg.anyG_pure (i := 9) (oi := { dst := some 32, op := _, type := _, pos := _, after := _, guard := _ }) (v := ?_) rfl (by kernel_rfl) (by kernel_rfl) (by kernel_rfl) (by rfl) (fun _ _ _ h => h) (Or.inl ⟨by rfl, ?_⟩) (fun _ => by assumption) ?_
              rotate_left
              · (intro W hSw; (try dsimp only at hSw); go_simp; try (with_reducible rfl))
              try simp only [Act.put, List.setIfInBounds_toArray, List.set_cons_zero, List.set_cons_succ]
              refine Rg.anyG_pure (i := 10) (oi := { dst := some 33, op := _, type := _, pos := _, after := _, guard := _ }) (v := ?_) rfl (by kernel_rfl) (by kernel_rfl) (by kernel_rfl) (by rfl) (fun _ _ _ h => h) (Or.inl ⟨by rfl, ?_⟩) (fun _ => by assumption) ?_
              rotate_left
              · (intro W hSw; (try dsimp only at hSw); go_simp; try (with_reducible rfl))
              try simp only [Act.put, List.setIfInBounds_toArray, List.set_cons_zero, List.set_cons_succ]
              refine Rg.anyG_take (i := 11) (oi := { dst := some 34, op := _, type := _, pos := _, after := _, guard := _ }) (v := undef) rfl (by kernel_rfl) (by kernel_rfl) (by kernel_rfl) [12, 13, 14, 15] (by kernel_rfl) (fun _ _ _ h => h) (Or.inr ⟨by rfl, by rfl⟩) (by assumption) ?_
              try simp only [Act.put, List.setIfInBounds_toArray, List.set_cons_zero, List.set_cons_succ]
              refine Rg.anyG_take (i := 12) (oi := { dst := some 35, op := _, type := _, pos := _, after := _, guard := _ }) (v := undef) rfl (by kernel_rfl) (by kernel_rfl) (by kernel_rfl) [13, 14, 15] (by kernel_rfl) (fun _ _ _ h => h) (Or.inr ⟨by rfl, by rfl⟩) (by assumption) ?_
              try simp only [Act.put, List.setIfInBounds_toArray, List.set_cons_zero, List.set_cons_succ]
              refine Rg.anyG_take (i := 13) (oi := { dst := some 36, op := _, type := _, pos := _, after := _, guard := _ }) (v := undef) rfl (by kernel_rfl) (by kernel_rfl) (by kernel_rfl) [14, 15] (by kernel_rfl) (fun _ _ _ h => h) (Or.inr ⟨by rfl, by rfl⟩) (by assumption) ?_
              try simp only [Act.put, List.setIfInBounds_toArray, List.set_cons_zero, List.set_cons_succ]
              refine Rg.anyG_take (i := 14) (oi := { dst := some 37, op := _, type := _, pos := _, after := _, guard := _ }) (v := undef) rfl (by kernel_rfl) (by kernel_rfl) (by kernel_rfl) [15] (by kernel_rfl) (fun _ _ _ h => h) (Or.inr ⟨by rfl, by rfl⟩) (by assumption) ?_
              try simp only [Act.put, List.setIfInBounds_toArray, List.set_cons_zero, List.set_cons_succ]
              refine Rg.anyG_ready (rs := [15]) (by kernel_rfl) (by simp) ?_
              refine Rg.AllG.last (o := { dst := some 38, op := _, type := _, pos := _, after := _, guard := _ }) rfl (by kernel_rfl) (fun K hK => ?_)
              go_simp
              refine hK.out _ _ ?_
              clear hK K
              try simp only [Act.put, List.setIfInBounds_toArray, List.set_cons_zero, List.set_cons_succ]
              refine Rg.anyG_done (by kernel_rfl) ?_ _
              gi_wp2
              exact HE.out
            · have hnb : a1 < 1 := by omega
              clear z0 z1 z2 z3 z4 z5 z6 hq h3 hkl hBw hk hNL hq0 hq1 c0' c1' ok0 ok1 ho2 hok
              gi_wp2_with fail
              refine Rr.round_G l' hmx (by kernel_rfl) (by rintro ⟨a9, w9, h9⟩; exact h9) 15 (fun W => W.cell? ⟨b, o2, none⟩ = some (.int .i64 a0) ∧ W.cell? ⟨b, o2 + 1, none⟩ = some (.int .i64 a1) ∧ W.cell? ⟨wA.heap.size + 1, 0, none⟩ = some (.int .i64 kl)) ⟨by simpa using v0, by simpa using v1, by simpa using v2⟩ (fun hHeld => ?_)
              generalize Wb.drew = V0 at *
              refine Rg.anyG_pure (i := 0) (oi := { dst := some 23, op := _, type := _, pos := _, after := _, guard := _ }) (v := ?_) rfl (by kernel_rfl) (by kernel_rfl) (by kernel_rfl) (by rfl) (fun _ _ _ h => h) (Or.inl ⟨by rfl, ?_⟩) (fun _ => by assumption) ?_
              rotate_left
              · (intro W hSw; (try dsimp only at hSw); go_simp; try (with_reducible rfl))
              try simp only [Act.put, List.setIfInBounds_toArray, List.set_cons_zero, List.set_cons_succ]
              refine Rg.anyG_pure (i := 1) (oi := { dst := some 24, op := _, type := _, pos := _, after := _, guard := _ }) (v := ?_) rfl (by kernel_rfl) (by kernel_rfl) (by kernel_rfl) (by rfl) (fun _ _ _ h => h) (Or.inl ⟨by rfl, ?_⟩) (fun _ => by assumption) ?_
              rotate_left
              · (intro W hSw; (try dsimp only at hSw); go_simp; try (with_reducible rfl))
              try simp only [Act.put, List.setIfInBounds_toArray, List.set_cons_zero, List.set_cons_succ]
              refine Rg.anyG_pure (i := 2) (oi := { dst := some 25, op := _, type := _, pos := _, after := _, guard := _ }) (v := ?_) rfl (by kernel_rfl) (by kernel_rfl) (by kernel_rfl) (by rfl) (fun _ _ _ h => h) (Or.inl ⟨by rfl, ?_⟩) (fun _ => by assumption) ?_
              rotate_left
              · (intro W hSw; (try dsimp only at hSw); go_simp; try (with_reducible rfl))
              try simp only [Act.put, List.setIfInBounds_toArray, List.set_cons_zero, List.set_cons_succ]
              refine Rg.anyG_pure (i := 3) (oi := { dst := some 26, op := _, type := _, pos := _, after := _, guard := _ }) (v := ?_) rfl (by kernel_rfl) (by kernel_rfl) (by kernel_rfl) (by rfl) (fun _ _ _ h => h) (Or.inl ⟨by rfl, ?_⟩) (fun _ => by assumption) ?_
              rotate_left
              · (intro W hSw; (try dsimp only at hSw); go_simp; try (with_reducible rfl))
              try simp only [Act.put, List.setIfInBounds_toArray, List.set_cons_zero, List.set_cons_succ]
              refine Rg.anyG_pure (i := 4) (oi := { dst := some 27, op := _, type := _, pos := _, after := _, guard := _ }) (v := ?_) rfl (by kernel_rfl) (by kernel_rfl) (by kernel_rfl) (by rfl) (fun _ _ _ h => h) (Or.inl ⟨by rfl, ?_⟩) (fun _ => by assumption) ?_
              rotate_left
              · (intro W hSw; (try dsimp only at hSw); go_simp; try (with_reducible rfl))
              try simp only [Act.put, List.setIfInBounds_toArray, List.set_cons_zero, List.set_cons_succ]
              refine Rg.anyG_pure (i := 5) (oi := { dst := some 28, op := _, type := _, pos := _, after := _, guard := _ }) (v := ?_) rfl (by kernel_rfl) (by kernel_rfl) (by kernel_rfl) (by rfl) (fun _ _ _ h => h) (Or.inl ⟨by rfl, ?_⟩) (fun _ => by assumption) ?_
              rotate_left
              · (intro W hSw; (try dsimp only at hSw); go_simp; try (with_reducible rfl))
              try simp only [Act.put, List.setIfInBounds_toArray, List.set_cons_zero, List.set_cons_succ]
              refine Rg.anyG_take (i := 6) (oi := { dst := some 29, op := _, type := _, pos := _, after := _, guard := _ }) (v := ?_) rfl (by kernel_rfl) (by kernel_rfl) (by kernel_rfl) [8, 9, 10, 15] (by kernel_rfl) (fun _ _ _ h => h) (Or.inl ⟨by rfl, ?_⟩) (by assumption) ?_
              rotate_left
              · (intro W hSw; (try dsimp only at hSw); go_simp; try (with_reducible rfl))
              try simp only [Act.put, List.setIfInBounds_toArray, List.set_cons_zero, List.set_cons_succ]
              refine Rg.anyG_take (i := 7) (oi := { dst := some 30, op := _, type := _, pos := _, after := _, guard := _ }) (v := ?_) rfl (by kernel_rfl) (by kernel_rfl) (by kernel_rfl) [8, 9, 10, 15] (by kernel_rfl) (fun _ _ _ h => h) (Or.inl ⟨by rfl, ?_⟩) (by assumption) ?_
              rotate_left
              · (intro W hSw; (try dsimp only at hSw); go_simp; try (with_reducible rfl))
              try simp only [Act.put, List.setIfInBounds_toArray, List.set_cons_zero, List.set_cons_succ]
              refine Rg.anyG_pure (i := 8) (oi := { dst := some 31, op := _, type := _, pos := _, after := _, guard := _ }) (v := .bool false) rfl (by kernel_rfl) (by kernel_rfl) (by kernel_rfl) (by rfl) (fun _ _ _ h => h) (Or.inl ⟨by rfl, ?_⟩) (fun _ => by assumption) ?_
              · (intro W hSw; (try dsimp only at hSw); go_simp; try simp [hna])
              try simp only [Act.put, List.setIfInBounds_toArray, List.set_cons_zero, List.set_cons_succ]
              refine Rg.anyG_pure (i := 9) (oi := { dst := some 32, op := _, type := _, pos := _, after := _, guard := _ }) (v := ?_) rfl (by kernel_rfl) (by kernel_rfl) (by kernel_rfl) (by rfl) (fun _ _ _ h => h) (Or.inl ⟨by rfl, ?_⟩) (fun _ => by assumption) ?_
              rotate_left
              · (intro W hSw; (try dsimp only at hSw); go_simp; try (with_reducible rfl))
              try simp only [Act.put, List.setIfInBounds_toArray, List.set_cons_zero, List.set_cons_succ]
              refine Rg.anyG_pure (i := 10) (oi := { dst := some 33, op := _, type := _, pos := _, after := _, guard := _ }) (v := ?_) rfl (by kernel_rfl) (by kernel_rfl) (by kernel_rfl) (by rfl) (fun _ _ _ h => h) (Or.inl ⟨by rfl, ?_⟩) (fun _ => by assumption) ?_
              rotate_left
              · (intro W hSw; (try dsimp only at hSw); go_simp; try (with_reducible rfl))
              try simp only [Act.put, List.setIfInBounds_toArray, List.set_cons_zero, List.set_cons_succ]
              refine Rg.anyG_pure (i := 11) (oi := { dst := some 34, op := _, type := _, pos := _, after := _, guard := _ }) (v := ?_) rfl (by kernel_rfl) (by kernel_rfl) (by kernel_rfl) (by rfl) (fun _ _ _ h => h) (Or.inl ⟨by rfl, ?_⟩) (fun _ => by assumption) ?_
              rotate_left
              · (intro W hSw; (try dsimp only at hSw); go_simp; try (with_reducible rfl))
              try simp only [Act.put, List.setIfInBounds_toArray, List.set_cons_zero, List.set_cons_succ]
              refine Rg.anyG_pure (i := 12) (oi := { dst := some 35, op := _, type := _, pos := _, after := _, guard := _ }) (v := ?_) rfl (by kernel_rfl) (by kernel_rfl) (by kernel_rfl) (by rfl) (fun _ _ _ h => h) (Or.inl ⟨by rfl, ?_⟩) (fun _ => by assumption) ?_
              rotate_left
              · (intro W hSw; (try dsimp only at hSw); go_simp; try (with_reducible rfl))
              try simp only [Act.put, List.setIfInBounds_toArray, List.set_cons_zero, List.set_cons_succ]
              refine Rg.anyG_take (i := 13) (oi := { dst := some 36, op := _, type := _, pos := _, after := _, guard := _ }) (v := ?_) rfl (by kernel_rfl) (by kernel_rfl) (by kernel_rfl) [14, 15] (by kernel_rfl) (fun _ _ _ h => h) (Or.inl ⟨by rfl, ?_⟩) (by assumption) ?_
              rotate_left
              · (intro W hSw; (try dsimp only at hSw); go_simp; try (with_reducible rfl))
              try simp only [Act.put, List.setIfInBounds_toArray, List.set_cons_zero, List.set_cons_succ]
              refine Rg.anyG_pure (i := 14) (oi := { dst := some 37, op := _, type := _, pos := _, after := _, guard := _ }) (v := .bool true) rfl (by kernel_rfl) (by kernel_rfl) (by kernel_rfl) (by rfl) (fun _ _ _ h => h) (Or.inl ⟨by rfl, ?_⟩) (fun _ => by assumption) ?_
              · (intro W hSw; (try dsimp only at hSw); go_simp; try simp [hnb])
              try simp only [Act.put, List.setIfInBounds_toArray, List.set_cons_zero, List.set_cons_succ]
              refine Rg.anyG_ready (rs := [15]) (by kernel_rfl) (by simp) ?_
              refine Rg.AllG.last (o := { dst := some 38, op := _, type := _, pos := _, after := _, guard := _ }) rfl (by kernel_rfl) (fun K hK => ?_)
              go_simp
              refine hK.out _ _ ?_
              clear hK K
              try simp only [Act.put, List.setIfInBounds_toArray, List.set_cons_zero, List.set_cons_succ]
              refine Rg.anyG_done (by kernel_rfl) ?_ _
              gi_wp2
              exact HE.out
      case done =>
        rintro D m Wd hD hm ⟨z0, z1, z2, z3, z4, z5, z6⟩ hdf
        rw [List.length_range] at z0 z1 z4 z5
        have hNL := HNL.out
        have he : 2 * ((N + 1) / 2) = L.length := by omega
        rw [he, List.take_length] at z1 z5
        have HG : Hid (GoodD bs (prs L)) := mkH (goodD_of HN.out (by omega) z1 (by omega))
        generalize prs L = E at *
        have hBd : Below w.heap.size w Wd := HB0.out.trans (z6.mono (by omega))
        obtain ⟨f1, f2, f3, f4⟩ := fin_two z2 z3 hBd (.map (some wA.heap.size)) (.bool true)
        have hDn : D ≠ w.heap.size ∧ D ≠ w.heap.size + 1 := by have := HZ0.out; omega
        have hd9 := (f4.heap (Gf.block_lt hdf) (fun hq => by rcases hq with h | h; exact hDn.1 h; exact hDn.2 h)).trans hdf
        have hm9 := z5.fr f4 (by omega)
        obtain ⟨g1, g2, g3, g4⟩ := (RG_own w wA.heap.size E W0.heap.size (by omega) (by have := HZ0.out; omega)).putObj (s := ()) (.deferred none) ⟨f1, f2, f3, hm9⟩ hD hd9 rfl
        have c0 : Wd.cell? ⟨w.heap.size, 0, none⟩ = some (.map (some wA.heap.size)) := z2.cell 0 _ rfl
        have c1 := z2.frozen 0
        have c2 : (Wd.setCell ⟨w.heap.size, 0, none⟩ (.map (some wA.heap.size))).cell? ⟨w.heap.size + 1, 0, none⟩ = some (.bool true) := (z3.other (p := ⟨w.heap.size, 0, none⟩) (by simp) _).cell 0 _ rfl
        have c3 := (z3.other (p := ⟨w.heap.size, 0, none⟩) (by simp) (.map (some wA.heap.size))).frozen 0
        have y0 := g1.cell 0 _ rfl
        have y2 := g2.cell 0 _ rfl
        have HF3 := mkH g3
        have HF4 := mkH g4
        have HD9 := mkH hd9
        clear z0 z1 z2 z3 z4 z5 z6 f1 f2 f3 f4 g1 g2 g3 g4 hd9 hm9 he hNL hBd
        gi_wp2
        refine ⟨by simp, .inl ⟨_, _, rfl, run_takeDeferred HD9.out, ?_⟩⟩
        exact ⟨.tuple #[.map (some wA.heap.size), .bool true], res_cc rfl _ _ _ (b := ⟨w.heap.size, 0, none⟩) (c := ⟨w.heap.size + 1, 0, none⟩) (x := .map (some wA.heap.size)) (y := .bool true) (by rfl) (by rfl) (by simp [loadVar, go_sem, y0]) (by simp [loadVar, go_sem, y2]), HF3.out, .inl ⟨E, wA.heap.size, HG.out, rfl, HF4.out, by omega⟩⟩
      case stop =>
        rintro D m k W' hD hm hk g1 hdf
        have HDF := mkH hdf
        have hg := (RZ_own w bs W0.heap.size m (by have := HZ0.out; omega)).putObj (.deferred none) g1 hD hdf rfl
        obtain ⟨f1, f2, f3, f4⟩ := hg
        have y0 : (W'.putObj D (.deferred none)).cell? ⟨w.heap.size, 0, none⟩ = some (.map none) := f1.cell 0 _ rfl
        have y2 : (W'.putObj D (.deferred none)).cell? ⟨w.heap.size + 1, 0, none⟩ = some (.bool false) := f2.cell 0 _ rfl
        have HF3 := mkH f3
        have HF4 := mkH f4
        clear f1 f2 f3 f4 g1 hdf
        gi_wp2
        refine ⟨by simp, .inl ⟨_, _, rfl, run_takeDeferred HDF.out, ?_⟩⟩
        exact ⟨.tuple #[.map none, .bool false], res_cc rfl _ _ _ (b := ⟨w.heap.size, 0, none⟩) (c := ⟨w.heap.size + 1, 0, none⟩) (x := .map none) (y := .bool false) (by rfl) (by rfl) (by simp [loadVar, go_sem, y0]) (by simp [loadVar, go_sem, y2]), HF3.out, .inr ⟨HF4.out, rfl⟩⟩
  · have HBAD : Hid (¬ ∃ D, GoodD bs D) := mkH (fun ⟨D, g⟩ => hno _ g.1)
    have x4 : wA.cell? ⟨w.heap.size + 1, 0, none⟩ = some (.bool false) := HEA.out.cell 0 _ rfl
    have x5 := HEA.out.frozen 0
    have hEB := HEA.out.set 0 (.bool false)
    have hRB := HRA.out.other (p := ⟨w.heap.size + 1, 0, none⟩) (by simp) (.bool false)
    have hBB : Below w.heap.size w (wA.setCell ⟨w.heap.size + 1, 0, none⟩ (.bool false)) := HBA.out.setCell (Nat.le_succ _) _
    have y0 : (wA.setCell ⟨w.heap.size + 1, 0, none⟩ (.bool false)).cell? ⟨w.heap.size, 0, none⟩ = some (.map none) := hRB.cell 0 _ rfl
    have y1 := hRB.frozen 0
    have y2 : (wA.setCell ⟨w.heap.size + 1, 0, none⟩ (.bool false)).cell? ⟨w.heap.size + 1, 0, none⟩ = some (.bool false) := hEB.cell 0 _ rfl
    have y3 := hEB.frozen 0
    obtain ⟨f1, f2, f3, -⟩ := fin_two hRB hEB hBB (.map none) (.bool false)
    have z0 : (((wA.setCell ⟨w.heap.size + 1, 0, none⟩ (.bool false)).setCell ⟨w.heap.size, 0, none⟩ (.map none))).cell? ⟨w.heap.size + 1, 0, none⟩ = some (.bool false) := (hEB.other (p := ⟨w.heap.size, 0, none⟩) (by simp) (.map none)).cell 0 _ rfl
    have z1 := (hEB.other (p := ⟨w.heap.size, 0, none⟩) (by simp) (.map none)).frozen 0
    have F0 : (((wA.setCell ⟨w.heap.size + 1, 0, none⟩ (.bool false)).setCell ⟨w.heap.size, 0, none⟩ (.map none)).setCell ⟨w.heap.size + 1, 0, none⟩ (.bool false)).cell? ⟨w.heap.size, 0, none⟩ = some (.map none) := f1.cell 0 _ rfl
    have F1 : (((wA.setCell ⟨w.heap.size + 1, 0, none⟩ (.bool false)).setCell ⟨w.heap.size, 0, none⟩ (.map none)).setCell ⟨w.heap.size + 1, 0, none⟩ (.bool false)).cell? ⟨w.heap.size + 1, 0, none⟩ = some (.bool false) := f2.cell 0 _ rfl
    have HF3 := mkH f3
    clear f1 f2 f3 hEB hRB hBB hno
    gi_wp2_with fail
    exact ⟨.tuple #[.map none, .bool false], res_cc rfl _ _ _ (b := ⟨w.heap.size, 0, none⟩) (c := ⟨w.heap.size + 1, 0, none⟩) (x := .map none) (y := .bool false) (by rfl) (by rfl) (by simp [loadVar, go_sem, F0]) (by simp [loadVar, go_sem, F1]), HF3.out, .inr ⟨HBAD.out, rfl⟩⟩
end Go.Proofs.YtcpmcfagibmboabGreat.Rc

namespace Go.Proofs.YtcpmcfagibmboabGreat.Ks
open Go.RowKit Kt
set_option linter.unusedVariables false

theorem step_append_own_src {P : Program} {ops : Array Oper} {o : Oper} {a : Act} {w : World} {K : Act → World → Prop} {Q : Exit → Act → World → Prop} {E : Prop}
    (hg : o.guard = none) (s x : Operand) (t tx : TypeId) (hop : o.op = Op.call { callee := Callee.builtin Builtin.append, args := #[s, x], argTypes := #[t, tx] })
    (base : Nat) (e : TypeId) (z : Value) (size bytes : Nat) (ht : P.underlying t = some (.slice e)) (hinfo : (P.info? e).map (fun i => (i.zero, i.size, i.bytes)) = some (some z, size, bytes))
    (hzs : z.cells.size = size) (hsz : 0 < size)
    (v : Value) (n : Nat) (xs : List Value) (hs : a.eval s = v) (hown : w.ownsRow base e size v n xs)
    (xv : Value) (m : Nat) (news : List Value) (hx : a.eval x = xv) (hsrc : Src P size tx xv m news w)
    (h63 : n + m ≤ maxLen) (hbytes : (n + m) * bytes ≤ 140737488355328) (hbase : base ≤ w.heap.size)
    (hK : ∀ v' w', w'.ownsRow base e size v' (n + m) (xs ++ news) → w.grownBy w' v.ownBlock → K (a.put o.dst v') w') :
    if Region.wanted o (yielded ops a.tmps) = true then Oper.wp P o a w K Q else E := by
  obtain ⟨i, hi, hz, hsize, hby⟩ := info_parts hinfo
  have hw : Region.wanted o (yielded ops a.tmps) = true := by simp [Region.wanted, hg]
  rw [if_pos hw]
  obtain ⟨v', w', hr, h2, h3⟩ := run_append_own_src (P := P) w base t tx o.type e i z size bytes ht hi hz hsize hby hzs hsz v n xs hown xv m news hsrc h63 hbytes hbase
  unfold Oper.wp
  simp [execOp, hop, resolve, invoke, builtin, hs, hx, hr, Result.andThen]
  exact hK v' w' h2 h3
/-- A guard: this step is an append of these operands. -/
theorem atApp {P : Program} {ops : Array Oper} {o : Oper} {a : Act} {w : World} {K : Act → World → Prop} {Q : Exit → Act → World → Prop} {E : Prop} (s x : Operand) (t tx : TypeId)
    (hop : o.op = Op.call { callee := Callee.builtin Builtin.append, args := #[s, x], argTypes := #[t, tx] }) (h : if Region.wanted o (yielded ops a.tmps) = true then Oper.wp P o a w K Q else E) :
    if Region.wanted o (yielded ops a.tmps) = true then Oper.wp P o a w K Q else E := h
end Go.Proofs.YtcpmcfagibmboabGreat.Ks

namespace Go.Proofs.YtcpmcfagibmboabGreat.Nr
open Go.RowKit Kt Gf Gk
set_option linter.unusedVariables false
set_option linter.unusedSimpArgs false
set_option maxRecDepth 20000

theorem some_of {α : Type} {l : List α} {i : Nat} (h : i < l.length) : ∃ r, l[i]? = some r := ⟨l[i], List.getElem?_eq_getElem h⟩
theorem lt_of {α : Type} {l : List α} {i : Nat} {x : α} (h : l[i]? = some x) : i < l.length := by
  rcases Nat.lt_or_ge i l.length with h1 | h1
  · exact h1
  · rw [List.getElem?_eq_none h1] at h; cases h

section
variable {α : Type} (n : Nat) (cs : α → List Value)
def Fl (l : List α) : List Value := l.flatMap cs
variable {n} {cs} (hn : ∀ x, (cs x).length = n)
include hn
theorem Fl_length (l : List α) : (Fl cs l).length = l.length * n := by
  induction l with
  | nil => simp [Fl]
  | cons r t ih =>
    have e : Fl cs (r :: t) = cs r ++ Fl cs t := rfl
    rw [e, List.length_append, hn, ih, List.length_cons, Nat.add_mul]; omega
theorem Fl_at (l : List α) : ∀ (i : Nat) (x : α), l[i]? = some x → ∀ j, j < n → (Fl cs l)[i * n + j]? = (cs x)[j]? := by
  induction l with
  | nil => intro i r h; cases h
  | cons r t ih =>
    intro i x h j hj
    have e : Fl cs (r :: t) = cs r ++ Fl cs t := rfl
    cases i with
    | zero =>
      simp at h; subst h
      rw [e, Nat.zero_mul, Nat.zero_add, List.getElem?_append_left (by rw [hn]; exact hj)]
    | succ i =>
      rw [e, List.getElem?_append_right (by rw [hn, Nat.add_mul]; omega), hn, show (i + 1) * n + j - n = i * n + j by rw [Nat.add_mul]; omega]
      exact ih i x (by simpa using h) j hj
omit hn in
theorem Fl_one (h1 : ∀ x, ∀ u ∈ cs x, u.oneCell' = true) (l : List α) : ∀ u ∈ Fl cs l, u.oneCell' = true := by
  intro u hu
  obtain ⟨x, -, h⟩ := List.mem_flatMap.1 hu
  exact h1 x u h
omit hn in
theorem Fl_append (a b : List α) : Fl cs (a ++ b) = Fl cs a ++ Fl cs b := by simp [Fl]
omit hn in
theorem Fl_single (x : α) : Fl cs [x] = cs x := by simp [Fl]

omit hn in
variable (n cs) in
/-- A slice of structs, as it is read. -/
def RowS (w : World) (ao : Option Addr) (l : List α) : Prop :=
  0 < l.length → ∃ b off, ao = some ⟨b, off, none⟩ ∧ ∀ i x, l[i]? = some x → ∀ j v, (cs x)[j]? = some v → w.cell? ⟨b, off + i * n + j, none⟩ = some v
omit hn
theorem RowS.nil (w : World) (ao : Option Addr) : RowS n cs w ao [] := fun h => by simp at h
theorem RowS.below {w w' : World} {ao : Option Addr} {l : List α} (h : RowS n cs w ao l) (hb : Below w.heap.size w w') : RowS n cs w' ao l := by
  intro hl
  obtain ⟨b, off, e, hc⟩ := h hl
  refine ⟨b, off, e, fun i x hx j v hv => ?_⟩
  have h1 := hc i x hx j v hv
  rw [hb.cell (p := ⟨b, off + i * n + j, none⟩) (World.block_lt_of_cell? w _ h1)]
  exact h1
theorem RowS.take {w : World} {ao : Option Addr} {l : List α} (h : RowS n cs w ao l) (k : Nat) : RowS n cs w ao (l.take k) := by
  intro hl
  rw [List.length_take] at hl
  obtain ⟨b, off, e, hc⟩ := h (by omega)
  exact ⟨b, off, e, fun i r hr => hc i r (by rw [List.getElem?_take] at hr; split at hr; exact hr; cases hr)⟩
theorem RowS.block {w : World} {ao : Option Addr} {l : List α} (h : RowS n cs w ao l) (hl : 0 < l.length) (h0 : ∀ x, 0 < (cs x).length) : ∀ a, ao = some a → a.block < w.heap.size := by
  obtain ⟨b, off, rfl, hc⟩ := h hl
  intro a ha
  injection ha with ha
  subst ha
  obtain ⟨x, hx⟩ := some_of hl
  obtain ⟨v, hv⟩ := some_of (h0 x)
  exact World.block_lt_of_cell? w ⟨b, off + 0 * n + 0, none⟩ (hc 0 x hx 0 v hv)
theorem RowS.setRow {w : World} {ao : Option Addr} {l : List α} (h : RowS n cs w ao l) {g : Nat} (hp : ∀ a, ao = some a → a.block ≠ g) (ds : Array Value) : RowS n cs (w.setRow g ds) ao l := by
  intro hl
  obtain ⟨b, off, rfl, hc⟩ := h hl
  refine ⟨b, off, rfl, fun i x hx j v hv => ?_⟩
  rw [World.cell?_of_block (w := w) (a := ⟨b, off + i * n + j, none⟩) (setRow_other w g b ds (hp _ rfl))]
  exact hc i x hx j v hv
theorem RowS.setCell {w : World} {ao : Option Addr} {l : List α} (h : RowS n cs w ao l) {p : Addr} (hp : ∀ a, ao = some a → a.block ≠ p.block) (v : Value) : RowS n cs (w.setCell p v) ao l := by
  intro hl
  obtain ⟨b, off, rfl, hc⟩ := h hl
  refine ⟨b, off, rfl, fun i x hx j u hu => ?_⟩
  rw [World.cell?_of_block (w := w) (a := ⟨b, off + i * n + j, none⟩) (heap_setCell_other w p b v (hp _ rfl))]
  exact hc i x hx j u hu
include hn
theorem RowS.src (h1 : ∀ x, ∀ u ∈ cs x, u.oneCell' = true) (hpos : 0 < n) {P : Program} {w : World} {tx e' : TypeId} (hk : P.underlying tx = some (.slice e')) {ao : Option Addr} {l : List α} (h : RowS n cs w ao l) (c : Nat) :
    Src P n tx (.slice ao l.length c) l.length (Fl cs l) w := by
  by_cases h0 : 0 < l.length
  · obtain ⟨b, off, rfl, hc⟩ := h h0
    refine Src.ofSlice w hk _ _ c _ (Fl_length hn l) (fun j u hj => ?_) (Fl_one h1 l)
    have hj1 : j < l.length * n := by have := lt_of hj; rwa [Fl_length hn] at this
    have hq : j / n < l.length := Nat.div_lt_of_lt_mul (by rw [Nat.mul_comm]; exact hj1)
    obtain ⟨x, hx⟩ := some_of hq
    have e : j = j / n * n + j % n := by have := Nat.div_add_mod j n; rw [Nat.mul_comm] at this; exact this.symm
    have hm : j % n < n := Nat.mod_lt _ hpos
    rw [e, Fl_at hn l _ x hx _ hm] at hj
    rw [Addr.add_lit, e, ← Nat.add_assoc]
    exact hc _ x hx _ u hj
  · have e : l = [] := List.eq_nil_of_length_eq_zero (by omega)
    subst e
    cases ao with
    | none => exact Src.ofNil w hk c
    | some a => exact Src.ofSlice w hk a 0 c [] (by simp) (fun j u hj => by simp at hj) (fun u hu => by cases hu)
/-- A row that the call owns, as it is read. -/
theorem RowS.own {w : World} {base m cap : Nat} {e : TypeId} {ao : Option Addr} {l : List α} (h : w.ownsRow base e n (.slice ao m cap) l.length (Fl cs l)) : RowS n cs w ao l := by
  intro hl
  rcases h.2 with ⟨e1, e2⟩ | ⟨g, c, cur, e1, _⟩
  · omega
  · simp only [Value.slice.injEq] at e1
    obtain ⟨rfl, rfl, rfl⟩ := e1
    refine ⟨g, 0, rfl, fun i x hx j v hv => ?_⟩
    have hi := lt_of hx
    have hj : j < n := by have := lt_of hv; rwa [hn] at this
    have hb : i * n + j < l.length * n := by
      have : (i + 1) * n ≤ l.length * n := Nat.mul_le_mul_right n hi
      rw [Nat.add_mul] at this; omega
    have h0 := World.ownsRow.cellAt h (i * n + j) hb
    rw [Fl_at hn l i x hx j hj, hv] at h0
    rw [Nat.zero_add]
    exact h0
end

theorem own_below {w w' : World} {base e size n : Nat} {v : Value} {xs : List Value} (h : w.ownsRow base e size v n xs) (hb : Below w.heap.size w w') : w'.ownsRow base e size v n xs := by
  refine ⟨h.1, ?_⟩
  rcases h.2 with h1 | ⟨g, cap, cur, e1, e2, e3, e4⟩
  · exact .inl h1
  · have hlt : g < w.heap.size := (Array.getElem?_eq_some_iff.1 e3).1
    exact .inr ⟨g, cap, cur, e1, e2, by rw [hb.block g hlt]; exact e3, e4⟩
theorem own_fr {w w' : World} {Q : Nat → Prop} {base e size n : Nat} {v : Value} {xs : List Value} (h : w.ownsRow base e size v n xs) (hf : Fr Q w w') (hq : ∀ k, v.ownBlock = some k → ¬ Q k) : w'.ownsRow base e size v n xs := by
  refine ⟨h.1, ?_⟩
  rcases h.2 with h1 | ⟨g, cap, cur, e1, e2, e3, e4⟩
  · exact .inl h1
  · have hlt : g < w.heap.size := (Array.getElem?_eq_some_iff.1 e3).1
    exact .inr ⟨g, cap, cur, e1, e2, by rw [hf.heap hlt (hq g (by rw [e1]; rfl))]; exact e3, e4⟩
theorem own_mono {w : World} {B B' e size n : Nat} {v : Value} {xs : List Value} (h : w.ownsRow B e size v n xs) (hB : B' ≤ B) : w.ownsRow B' e size v n xs := by
  refine ⟨h.1, ?_⟩
  rcases h.2 with h1 | ⟨g, cap, cur, e1, e2, e3⟩
  · exact .inl h1
  · exact .inr ⟨g, cap, cur, e1, by omega, e3⟩
/-- Two rows of different kinds lie apart. -/
theorem own_kinds {w : World} {b1 b2 s1 s2 n1 n2 e1 e2 : Nat} {v1 v2 : Value} {x1 x2 : List Value} (h1 : w.ownsRow b1 e1 s1 v1 n1 x1) (h2 : w.ownsRow b2 e2 s2 v2 n2 x2) (hne : e1 ≠ e2) : ∀ k, v1.ownBlock = some k → v2.ownBlock ≠ some k := fun k hk hk2 => by
  rcases h1.2 with ⟨rfl, -⟩ | ⟨g, cap, cur, rfl, -, hg, -⟩
  · simp [Value.ownBlock] at hk
  · rcases h2.2 with ⟨rfl, -⟩ | ⟨g2, cap2, cur2, rfl, -, hg2, -⟩
    · simp [Value.ownBlock] at hk2
    · simp only [Value.ownBlock, Option.some.injEq] at hk hk2
      subst hk
      subst hk2
      rw [hg] at hg2
      simp only [Option.some.injEq, Obj.cells.injEq] at hg2
      exact hne hg2.2.1
theorem cell_new_at (W : World) (cs : Array Value) (t : TypeId) (j : Nat) (v : Value) (h : cs[j]? = some v) : (W.alloc (.cells cs t)).cell? ⟨W.heap.size, j, none⟩ = some v := by
  have h1 := heap_alloc_new W (.cells cs t)
  simp only [World.cell?, h1]; exact h
section
variable {α : Type} {n : Nat} {cs : α → List Value} (hn : ∀ x, (cs x).length = n)
include hn
/-- One new struct, laid in a block of its own. -/
theorem src_new {P : Program} (h1 : ∀ x, ∀ u ∈ cs x, u.oneCell' = true) (hpos : 0 < n) {tx e' : TypeId} (hk : P.underlying tx = some (.slice e')) (w : World) (x : α) (t : TypeId) :
    Src P n tx (.slice (some ⟨w.heap.size, 0, none⟩) 1 1) 1 (Fl cs [x]) (w.alloc (.cells (cs x).toArray t)) := by
  have hr : RowS n cs (w.alloc (.cells (cs x).toArray t)) (some ⟨w.heap.size, 0, none⟩) [x] := by
    intro _
    refine ⟨w.heap.size, 0, rfl, fun i y hy j v hv => ?_⟩
    have hi := lt_of hy
    simp at hi
    subst hi
    simp at hy
    subst hy
    simp only [Nat.zero_mul, Nat.zero_add]
    exact cell_new_at w _ t j v (by simpa using hv)
  exact hr.src hn h1 hpos hk 1
/-- New structs, laid in a block of their own. -/
theorem RowS.new (W : World) (ds : Array Value) (t : TypeId) (l : List α) (h : ds = (Fl cs l).toArray) : RowS n cs (W.alloc (.cells ds t)) (some ⟨W.heap.size, 0, none⟩) l := by
  intro _
  refine ⟨W.heap.size, 0, rfl, fun i x hx j v hv => ?_⟩
  have hj : j < n := by have := lt_of hv; rwa [hn] at this
  rw [Nat.zero_add]
  refine cell_new_at W ds t _ v ?_
  rw [h, List.getElem?_toArray, Fl_at hn l i x hx j hj, hv]
end

theorem own_le {w : World} {base e size n cap : Nat} {ao : Option Addr} {xs : List Value} (h : w.ownsRow base e size (.slice ao n cap) n xs) : n ≤ cap := by
  rcases h.2 with ⟨e1, e2⟩ | ⟨g, c, cur, e1, _, _, e2, _⟩
  · simp only [Value.slice.injEq] at e1; omega
  · simp only [Value.slice.injEq] at e1; omega

theorem eql_nil {P : Program} (w : World) (t e : TypeId) (a : Option Addr) (l c : Nat) (h : P.underlying t = some (.slice e)) : (binOp .eql t (.slice a l c) (.slice none 0 0)).run P w = .ok (.bool a.isNone) w := by
  have h1 : ∀ d, (Op.equalIn (d + 1) t (.slice a l c) (.slice none 0 0)).run P w = .ok a.isNone w := fun d => by cases a <;> simp [Op.equalIn, run_underlying h]
  have h2 : (Op.equal t (.slice a l c) (.slice none 0 0)).run P w = .ok a.isNone w := h1 9999
  simp only [binOp]
  simp [h2]
end Go.Proofs.YtcpmcfagibmboabGreat.Nr

namespace Go.Proofs.YtcpmcfagibmboabGreat.Ma
open Go.RowKit Go.Shelf Pl Pw Pr Pf Pv Cp Ca Cb Cc Cd Ce Cf Gf Gk Ct Cu La Lb Mp Cl
open Cr hiding some_of
open Kt hiding mkH
open Kv
open Go.Proofs.YtcpmcfagibmboabGreat.Nm (Srt)
set_option linter.unusedVariables false
set_option linter.unusedSimpArgs false
set_option maxRecDepth 20000

/-- Block b is a machine with this chart, so many slots, and these clients in the map m. -/
structure Mk (w : World) (b m : Nat) (e : Int) (ps : List Pc) (s : Int) (D : List Dd) : Prop where
  cells : ∃ a c, Bx w b #[.int .i64 e, .slice a ps.length c, .int .i64 s, .map (some m)] 59 ∧ RdP w a c ps
  map : Md w m D
theorem Mk.below {w w' : World} {b m : Nat} {e : Int} {ps : List Pc} {s : Int} {D : List Dd} (h : Mk w b m e ps s D) (hb : Below w.heap.size w w') : Mk w' b m e ps s D := by
  obtain ⟨⟨a, c, h1, h2⟩, h3⟩ := h
  exact ⟨⟨a, c, h1.bel hb, h2.below hb⟩, h3.below hb⟩
theorem Mk.lt {w : World} {b m : Nat} {e : Int} {ps : List Pc} {s : Int} {D : List Dd} (h : Mk w b m e ps s D) : b < w.heap.size ∧ m < w.heap.size := by
  obtain ⟨⟨a, c, h1, h2⟩, h3⟩ := h
  exact ⟨h1.lt, h3.lt⟩

theorem neq_map {P : Program} (w : World) (t k e : TypeId) (mo : Option Nat) (h : P.underlying t = some (.map k e)) : (binOp .neq t (.map mo) (.map none)).run P w = .ok (.bool mo.isSome) w := by
  have h1 : ∀ d, (Op.equalIn (d + 1) t (.map mo) (.map none)).run P w = .ok mo.isNone w := fun d => by cases mo <;> simp [Op.equalIn, run_underlying h]
  have h2 : (Op.equal t (.map mo) (.map none)).run P w = .ok mo.isNone w := h1 9999
  simp only [binOp]
  cases mo <;> simp [h2]
theorem eql_nil {P : Program} (w : World) (t e : TypeId) (a : Option Addr) (l c : Nat) (h : P.underlying t = some (.slice e)) : (binOp .eql t (.slice a l c) (.slice none 0 0)).run P w = .ok (.bool a.isNone) w := Nr.eql_nil w t e a l c h
theorem made_any {w : World} {b m : Nat} {e : Int} {ps : List Pc} {s : Int} {D : List Dd} (h : Mk w b m e ps s D) :
    Calls Tryz.prog 18 #[.pointer (some ⟨b, 0, none⟩)] w fun x w' => x = .returned (.bool true) ∧ w' = w := by
  obtain ⟨⟨a, c, h1, h2⟩, h3⟩ := h
  have c3 : w.cell? ⟨b, 3, none⟩ = some (.map (some m)) := h1.cell 3 _ rfl
  have hq := neq_map (P := Tryz.prog) w 57 _ _ (some m) Tryz.underlying57
  simp only [Option.isSome] at hq
  clear h1 h2 h3
  go_enter Tryz.func18, Tryz.ntmps18
  go_wp2
  go_ret
  exact ⟨rfl, rfl⟩

set_option maxHeartbeats 1000000 in
theorem cloneP_any (w : World) (a : Option Addr) (c : Nat) (ps : List Pc) (h : RdP w a c ps) (hl : ps.length ≤ 1000000000) :
    Calls Tryz.prog 30 #[.slice a ps.length c] w fun x w' => ∃ a' c', x = .returned (.slice a' ps.length c') ∧ OwP w' w.heap.size a' c' ps ∧ Below w.heap.size w w' := by
  cases a with
  | none =>
    have h0 : ps = [] := by
      rcases Nat.eq_zero_or_pos ps.length with h1 | h1
      · exact List.eq_nil_of_length_eq_zero h1
      · obtain ⟨b, off, e, _⟩ := h.r h1; cases e
    subst h0
    have hq := eql_nil (P := Tryz.prog) w 49 87 none 0 c Tryz.underlying49
    simp only [Option.isNone] at hq
    clear h
    go_enter Tryz.func30, Tryz.ntmps30
    go_wp2
    go_ret
    exact ⟨none, 0, rfl, OwP.mk (by simpa [Fp, Fl] using World.ownsRow_nil w _ _ _), Below.refl _ _⟩
  | some a =>
    have hq := eql_nil (P := Tryz.prog) w 49 87 (some a) ps.length c Tryz.underlying49
    simp only [Option.isNone] at hq
    have hbz : ps.length * 24 ≤ 140737488355328 := by omega
    have HS := mkH (srcP (h.below ((Below.refl w.heap.size w).alloc (Nat.le_refl _) (.cells #[] 87))).r c)
    clear h
    go_enter Tryz.func30, Tryz.ntmps30
    go_wp2_with (at_builtin; refine (wpList_append_own_src _ rfl (.tmp 5) (.tmp 6) 49 49 rfl w.heap.size 87 _ 3 24 Tryz.underlying49 infoP rfl (by decide) _ 0 [] rfl (World.ownsRow_made w #[] 0 (Nat.le_refl _) (Nat.zero_le _) rfl) _ ps.length (Fp ps) rfl HS.out ?h632 ?hby2 ?hbs2 ?_))
    case h632 => unfold maxLen; omega
    case hby2 => omega
    case hbs2 => simp
    intro v2 w2 hown2 hgrow2
    have hbel := below_own (World.ownsRow_made (e := 87) (size := 3) w #[] 0 (Nat.le_refl _) (Nat.zero_le _) rfl) hgrow2 ((Below.refl w.heap.size w).alloc (Nat.le_refl _) (.cells #[] 87)) (by simp)
    have hown3 : w2.ownsRow w.heap.size 87 3 v2 ps.length (Fp ps) := by simpa using hown2
    clear hown2 hgrow2 HS
    obtain ⟨a', c', rfl⟩ := own_form hown3
    go_wp2
    go_ret
    exact ⟨a', c', rfl, OwP.mk hown3, hbel⟩

/-- What Chart answers. -/
def CrP (w : World) (e : Int) (ps : List Pc) (x : Ending) (w' : World) : Prop := ∃ a c, x = .returned (.agg #[.int .i64 e, .slice a ps.length c]) ∧ RdP w' a c ps ∧ Below w.heap.size w w'
theorem chart_any {w : World} {b m : Nat} {e : Int} {ps : List Pc} {s : Int} {D : List Dd} (h : Mk w b m e ps s D) (hl : ps.length ≤ 100000) :
    Calls Tryz.prog 10 #[.pointer (some ⟨b, 0, none⟩)] w (CrP w e ps) := by
  obtain ⟨W1, hW1⟩ : ∃ W1, W1 = w.alloc (.cells #[.int .i64 0, .slice none 0 0] 51) := ⟨_, rfl⟩
  have hb1 : Below w.heap.size w W1 := by rw [hW1]; exact (Below.refl _ w).alloc (Nat.le_refl _) _
  have hx1 : Bx W1 w.heap.size #[.int .i64 0, .slice none 0 0] 51 := by rw [hW1]; exact Bx.new _ _ _
  have h1 := h.below hb1
  have HM := mkH (made_any h1)
  obtain ⟨⟨a, c, q1, q2⟩, -⟩ := h1
  have HQ1 := mkH q1
  have HQ2 := mkH q2
  have HX1 := mkH hx1
  have HB1 := mkH hb1
  have HW1 := mkH hW1
  clear h hb1 hx1 q1 q2 hW1
  go_enter Tryz.func10, Tryz.ntmps10
  go_wp2_with fail
  rw [show w.alloc (.cells #[.int .i64 0, .slice none 0 0] 51) = W1 from HW1.out.symm]
  refine HM.out.mono ?_
  rintro x w2 ⟨rfl, rfl⟩
  clear HM HW1
  have HC : Hid (∀ W, Below w2.heap.size w2 W → W.cell? ⟨b, 0, none⟩ = some (.int .i64 e) ∧ W.cell? ⟨b, 1, none⟩ = some (.slice a ps.length c)) := mkH (fun W hb => ⟨(HQ1.out.bel hb).cell 0 _ rfl, (HQ1.out.bel hb).cell 1 _ rfl⟩)
  have HZF : Hid (∀ W, Below w2.heap.size w2 W → W.cell? ⟨w.heap.size, 0, none⟩ = some (.int .i64 0) ∧ W.cell? ⟨w.heap.size, 1, none⟩ = some (.slice none 0 0) ∧ W.frozen? ⟨w.heap.size, 0, none⟩ = false ∧ W.frozen? ⟨w.heap.size, 1, none⟩ = false) := mkH (fun W hb => two_load (P := Tryz.prog) (HX1.out.bel hb))
  have HCL : Hid (∀ W, Below w2.heap.size w2 W → Calls Tryz.prog 30 #[.slice a ps.length c] W fun x w' => ∃ a' c', x = .returned (.slice a' ps.length c') ∧ OwP w' W.heap.size a' c' ps ∧ Below w2.heap.size w2 w') := mkH (fun W hb => (cloneP_any W a c ps (HQ2.out.below hb) (by omega)).mono (fun x w' ⟨a', c', h1, h2, h3⟩ => ⟨a', c', h1, h2, hb.trans (h3.mono hb.size)⟩))
  have hbne : b ≠ w.heap.size := by
    intro h
    have h1 := HQ1.out
    rw [h] at h1
    have h2 := HX1.out
    rw [Bx] at h1 h2
    have h3 := congrArg (fun o => match o with | some (Obj.cells _ t _) => t | _ => 0) (h1.symm.trans h2)
    simp at h3
  obtain ⟨c0, c1⟩ := HC.out w2 (Below.refl _ _)
  have hz2 : w.heap.size < w2.heap.size := HX1.out.lt
  clear HQ1 HQ2
  go_wp2_with fail
  go_region_held3 (fun W => W.cell? ⟨b, 0, none⟩ = some (.int .i64 e) ∧ W.cell? ⟨b, 1, none⟩ = some (.slice a ps.length c)) (first | go_keep | exact hkeep | exact ⟨(cell_other hbne _).trans ((cell_other hbne _).trans hkeep.1), (cell_other hbne _).trans ((cell_other hbne _).trans hkeep.2)⟩) (first
    | (go_at_call 30; refine (HCL.out _ (by (repeat (first | exact Below.refl _ _ | refine Below.drew ?_ | refine Gf.below_drewN ?_ _)))).mono ?_; rintro z w7 ⟨a7, c7, rfl, ho7, hb7⟩; have hkeep := (by exact HC.out w7 hb7); have hz7 := HZF.out w7 hb7; obtain ⟨z0, z1, z2, z3⟩ := hz7))
  all_goals
    go_wp2_with fail
    have hx : Bx w7 w.heap.size #[.int .i64 0, .slice none 0 0] 51 := HX1.out.bel hb7
    have hs1 := hx.set 0 (.int .i64 e)
    have hs2 := hs1.set 1 (.slice a7 ps.length c7)
    have hf := (hx.frset 0 (.int .i64 e)).trans (hs1.frset 1 (.slice a7 ps.length c7)) (fun i hi => .inl hi)
    obtain ⟨y0, y1, -, -⟩ := two_load (P := Tryz.prog) hs2
    exact bodyPost_ret (v := .agg #[.int .i64 e, .slice a7 ps.length c7]) (res_c rfl _ _ _ (b := ⟨w.heap.size, 0, none⟩) (by rfl) (by simp [loadVar, go_sem, y0, y1])) rfl
      ⟨a7, c7, rfl, (OwP.mk (own_fr ho7.o hf (fun k hk hq => own_ne ho7.o hx hk (by decide) hq))).rd, ((HB1.out.trans (hb7.mono HB1.out.size)).setCell (Nat.le_refl _) _).setCell (Nat.le_refl _) _⟩
end Go.Proofs.YtcpmcfagibmboabGreat.Ma
