/-
  The walk of PlaceLists.
-/
import Derived.Test.YtiinhfkpfklgjaaPlV
import Derived.Test.YtiinhfkpfklgjaaPlNX
import Derived.Test.YtiinhfkpfklgjaaPlNJ
import Derived.Test.YtiinhfkpfklgjaaPlNC
import Derived.Test.YtiinhfkpfklgjaaPlOf0
import Derived.Deep.RegionHeld3
namespace Go.Proofs.Ytiinhfkpfklgjaa.Pls
open Go.RowKit Pl Pw Pr Pf Pg Pa Pb Pc Pj Pv Po Pnx Pnj Pnc Pq
open Kt hiding mkH
set_option linter.unusedVariables false
set_option linter.unusedSimpArgs false
set_option maxRecDepth 20000

theorem below_drewN {B : Nat} {w w' : World} {n : Nat} (h : Below B w w') : Below B w (w'.drewN n) := ⟨h.os, h.tape, h.output, h.size, h.block⟩

set_option maxHeartbeats 16000000 in
theorem placeLists (w : World) (ao : Option Addr) (cap : Nat) (l : List Rg) (lo hi p : Int) (hr : Rw w ao l) (hlen : l.length ≤ cap) (hcap : cap ≤ 9223372036854775807) :
    Calls Try.prog 5 #[.slice ao l.length cap, .agg #[.int .i64 lo, .int .i64 hi], .int .i64 p] w fun e w' => e = .returned (.bool true) ∧ Below w.heap.size w w' := by
  have HL40 : (l.take 40).length ≤ 40 := by rw [List.length_take]; omega
  have k3 := Bx.new w lo hi
  have hb0 : Below w.heap.size w (w.alloc (.cells #[.int .i64 lo, .int .i64 hi] 26)) := (Below.refl _ w).alloc (Nat.le_refl _) _
  have hfew := few_any _ ao cap l (hr.below hb0) hlen hcap
  have HTT : (l.take 40).take 40 = l.take 40 := by rw [List.take_take]; simp
  have K3 := mkH k3
  have HB0 := mkH hb0
  clear hr k3 hb0
  generalize l.take 40 = L at HL40 hfew HTT
  have hjl : (join L).length ≤ 1000 := by rw [← rjoin_join]; have h1 := rjoin_len L (bounds L) ((bounds L).length - 1); have h2 := bounds_len L; omega
  have hcl : (cut L (lo, hi)).length ≤ 80 := Nat.le_trans (cut_len L (lo, hi)) (by omega)
  have HRC : Hid (∀ (W : World) (a : Option Addr) (c : Nat), Rw W a L → Calls Try.prog 24 #[.slice a L.length c] W fun e w' => e = .returned (.bool (cov L)) ∧ Below W.heap.size W w') := mkH (fun W a c h => by rw [← rcov_cov]; exact rcovers_any W a c L h (by omega))
  have HSA : Hid (∀ (W : World) (a b : Option Addr) (c d : Nat), Rw W a (cut L (lo, hi)) → Rw W b (cut L (lo, hi)) → Calls Try.prog 25 #[.slice a (cut L (lo, hi)).length c, .slice b (cut L (lo, hi)).length d] W fun e w' => e = .returned (.bool true) ∧ ∃ q, w' = W.drewN q) :=
    mkH (fun W a b c d h1 h2 => by have h := same_any W a b c d _ _ h1 h2 (by omega); rw [decide_eq_true rfl] at h; exact h)
  have HSC : Hid (∀ (W : World) (a b : Option Addr) (c d : Nat), Rw W a (join L) → Rw W b (join L) → Calls Try.prog 25 #[.slice a (join L).length c, .slice b (join L).length d] W fun e w' => e = .returned (.bool true) ∧ ∃ q, w' = W.drewN q) :=
    mkH (fun W a b c d h1 h2 => by have h := same_any W a b c d _ _ h1 h2 (by omega); rw [decide_eq_true rfl] at h; exact h)
  go_enter Try.func5, Try.ntmps5
  go_wp2_with fail
  refine hfew.mono ?_
  rintro e w1 ⟨v1, rfl, hO1, hb1⟩
  clear hfew
  obtain ⟨ao1, cap1, rfl, hc1, hc2⟩ := hO1.form
  have hR1 := hO1.rw
  have hK1 := K3.out.below hb1 K3.out.lt
  have HB1 := mkH (HB0.out.trans (hb1.mono HB0.out.size))
  clear hO1 hb1 K3 HB0
  have hfew := few_any w1 ao1 cap1 L hR1 hc1 hc2
  rw [HTT] at hfew
  have K1 := mkH hK1
  have HR1 := mkH hR1
  clear hK1 hR1 hc1 hc2 HTT
  go_wp2_with fail
  refine hfew.mono ?_
  rintro e wq ⟨v2, rfl, hO2, hb2⟩
  clear hfew
  obtain ⟨ao2, cap2, rfl, hc1, hc2⟩ := hO2.form
  have HRW := mkH hO2.rw
  have HRQ := mkH (HR1.out.below hb2)
  have HB2 := mkH (HB1.out.trans (hb2.mono HB1.out.size))
  have k1 := K1.out.below hb2 K1.out.lt
  clear hO2 hb2 K1 HB1 HR1 hc1 hc2
  go_wp2_with fail
  generalize hB : w.heap.size = B0 at *
  have HKS : Hid (∀ W, Below wq.heap.size wq W → W.cell? ⟨B0, 0, none⟩ = some (.int .i64 lo) ∧ W.cell? ⟨B0, 1, none⟩ = some (.int .i64 hi)) := mkH (fun W hW => ⟨(k1.below hW k1.lt).c0, (k1.below hW k1.lt).c1⟩)
  have hcur : Below wq.heap.size wq wq.drew := (Below.refl _ _).drew
  clear k1
  refine wp_region_held_drew (S := fun W => W.cell? ⟨B0, 0, none⟩ = some (.int .i64 lo) ∧ W.cell? ⟨B0, 1, none⟩ = some (.int .i64 hi)) (by kernel_rfl) ?_ (fun hHeld => ?_)
  · exact HKS.out _ hcur
  refine wpAnyH_take (i := 0) (oi := { dst := some 13, op := _, type := _, pos := _, after := _, guard := _ }) (v := ?_) rfl (by kernel_rfl) (by kernel_rfl) (by kernel_rfl) (fun _ _ _ h => h) (Or.inl ⟨by rfl, ?_⟩) (by assumption) ?_
  rotate_left
  · (intro W hSw; (try dsimp only at hSw); go_simp; try (with_reducible rfl))
  try simp only [Act.put, List.setIfInBounds_toArray, List.set_cons_zero, List.set_cons_succ]
  refine wpAnyH_take (i := 1) (oi := { dst := some 14, op := _, type := _, pos := _, after := _, guard := _ }) (v := ?_) rfl (by kernel_rfl) (by kernel_rfl) (by kernel_rfl) (fun _ _ _ h => h) (Or.inl ⟨by rfl, ?_⟩) (by assumption) ?_
  rotate_left
  · (intro W hSw; (try dsimp only at hSw); go_simp; try (with_reducible rfl))
  try simp only [Act.put, List.setIfInBounds_toArray, List.set_cons_zero, List.set_cons_succ]
  refine wpAnyH_take (i := 3) (oi := { dst := some 16, op := _, type := _, pos := _, after := _, guard := _ }) (v := ?_) rfl (by kernel_rfl) (by kernel_rfl) (by kernel_rfl) (fun _ _ _ h => h) (Or.inl ⟨by rfl, ?_⟩) (by assumption) ?_
  rotate_left
  · (intro W hSw; (try dsimp only at hSw); go_simp; try (with_reducible rfl))
  try simp only [Act.put, List.setIfInBounds_toArray, List.set_cons_zero, List.set_cons_succ]
  refine wpAnyH_take (i := 4) (oi := { dst := some 17, op := _, type := _, pos := _, after := _, guard := _ }) (v := ?_) rfl (by kernel_rfl) (by kernel_rfl) (by kernel_rfl) (fun _ _ _ h => h) (Or.inl ⟨by rfl, ?_⟩) (by assumption) ?_
  rotate_left
  · (intro W hSw; (try dsimp only at hSw); go_simp; try (with_reducible rfl))
  try simp only [Act.put, List.setIfInBounds_toArray, List.set_cons_zero, List.set_cons_succ]
  refine wpAnyH_ready (rs := [2]) (by kernel_rfl) (by simp) ?_
  refine AllReadyH.cons (o := { dst := some 15, op := _, type := _, pos := _, after := _, guard := _ }) rfl (fun K hK => ?_) AllReadyH.nil
  go_simp
  refine (find_any _ _ cap1 L p (HRQ.out.below hcur) (by omega)).mono ?_
  rintro e1 x1 ⟨rfl, hg1⟩
  have hcur : Below wq.heap.size wq x1 := hcur.trans (hg1.mono hcur.size)
  have hkeep := HKS.out x1 hcur
  clear hg1
  go_wp2_with fail
  refine hK.out _ _ ?_ (fun hHeld => ?_)
  · exact hkeep
  clear hK K
  try simp only [Act.put, List.setIfInBounds_toArray, List.set_cons_zero, List.set_cons_succ]
  refine wpAnyH_ready (rs := [5]) (by kernel_rfl) (by simp) ?_
  refine AllReadyH.cons (o := { dst := some 18, op := _, type := _, pos := _, after := _, guard := _ }) rfl (fun K hK => ?_) AllReadyH.nil
  go_simp
  refine (rfind_any _ _ cap1 L p (HRQ.out.below hcur) (by omega)).mono ?_
  rintro e2 x2 ⟨rfl, hg2⟩
  have hcur : Below wq.heap.size wq x2 := hcur.trans (hg2.below.mono hcur.size)
  have hkeep := HKS.out x2 hcur
  clear hg2
  go_wp2_with fail
  refine hK.out _ _ ?_ (fun hHeld => ?_)
  · exact hkeep
  clear hK K
  try simp only [Act.put, List.setIfInBounds_toArray, List.set_cons_zero, List.set_cons_succ]
  refine wpAnyH_take (i := 6) (oi := { dst := some 19, op := _, type := _, pos := _, after := _, guard := _ }) (v := ?_) rfl (by kernel_rfl) (by kernel_rfl) (by kernel_rfl) (fun _ _ _ h => h) (Or.inl ⟨by rfl, ?_⟩) (by assumption) ?_
  rotate_left
  · (intro W hSw; (try dsimp only at hSw); go_simp; try (with_reducible rfl))
  try simp only [Act.put, List.setIfInBounds_toArray, List.set_cons_zero, List.set_cons_succ]
  refine wpAnyH_take (i := 7) (oi := { dst := some 20, op := _, type := _, pos := _, after := _, guard := _ }) (v := ?_) rfl (by kernel_rfl) (by kernel_rfl) (by kernel_rfl) (fun _ _ _ h => h) (Or.inl ⟨by rfl, ?_⟩) (by assumption) ?_
  rotate_left
  · (intro W hSw; (try dsimp only at hSw); go_simp; try (with_reducible rfl))
  try simp only [Act.put, List.setIfInBounds_toArray, List.set_cons_zero, List.set_cons_succ]
  refine wpAnyH_take (i := 8) (oi := { dst := some 21, op := _, type := _, pos := _, after := _, guard := _ }) (v := ?_) rfl (by kernel_rfl) (by kernel_rfl) (by kernel_rfl) (fun _ _ _ h => h) (Or.inl ⟨by rfl, ?_⟩) (by assumption) ?_
  rotate_left
  · (intro W hSw; (try dsimp only at hSw); go_simp; try (with_reducible rfl))
  try simp only [Act.put, List.setIfInBounds_toArray, List.set_cons_zero, List.set_cons_succ]
  refine wpAnyH_take (i := 10) (oi := { dst := some 23, op := _, type := _, pos := _, after := _, guard := _ }) (v := ?_) rfl (by kernel_rfl) (by kernel_rfl) (by kernel_rfl) (fun _ _ _ h => h) (Or.inl ⟨by rfl, ?_⟩) (by assumption) ?_
  rotate_left
  · (intro W hSw; (try dsimp only at hSw); go_simp; try (with_reducible rfl))
  try simp only [Act.put, List.setIfInBounds_toArray, List.set_cons_zero, List.set_cons_succ]
  refine wpAnyH_ready (rs := [9]) (by kernel_rfl) (by simp) ?_
  refine AllReadyH.cons (o := { dst := some 22, op := _, type := _, pos := _, after := _, guard := _ }) rfl (fun K hK => ?_) AllReadyH.nil
  go_simp
  refine (covers_any _ _ cap1 L (HRQ.out.below hcur) (by omega)).mono ?_
  rintro e3 x3 ⟨rfl, hg3⟩
  have hcur : Below wq.heap.size wq x3 := hcur.trans (hg3.mono hcur.size)
  have hkeep := HKS.out x3 hcur
  clear hg3
  go_wp2_with fail
  refine hK.out _ _ ?_ (fun hHeld => ?_)
  · exact hkeep
  clear hK K
  try simp only [Act.put, List.setIfInBounds_toArray, List.set_cons_zero, List.set_cons_succ]
  refine wpAnyH_ready (rs := [11]) (by kernel_rfl) (by simp) ?_
  refine AllReadyH.cons (o := { dst := some 24, op := _, type := _, pos := _, after := _, guard := _ }) rfl (fun K hK => ?_) AllReadyH.nil
  go_simp
  refine (HRC.out _ _ cap1 (HRQ.out.below hcur)).mono ?_
  rintro e4 x4 ⟨rfl, hg4⟩
  have hcur : Below wq.heap.size wq x4 := hcur.trans (hg4.mono hcur.size)
  have hkeep := HKS.out x4 hcur
  clear hg4
  go_wp2_with fail
  refine hK.out _ _ ?_ (fun hHeld => ?_)
  · exact hkeep
  clear hK K
  try simp only [Act.put, List.setIfInBounds_toArray, List.set_cons_zero, List.set_cons_succ]
  refine wpAnyH_take (i := 12) (oi := { dst := some 25, op := _, type := _, pos := _, after := _, guard := _ }) (v := ?_) rfl (by kernel_rfl) (by kernel_rfl) (by kernel_rfl) (fun _ _ _ h => h) (Or.inl ⟨by rfl, ?_⟩) (by assumption) ?_
  rotate_left
  · (intro W hSw; (try dsimp only at hSw); go_simp; try (with_reducible rfl))
  try simp only [Act.put, List.setIfInBounds_toArray, List.set_cons_zero, List.set_cons_succ]
  refine wpAnyH_take (i := 13) (oi := { dst := some 26, op := _, type := _, pos := _, after := _, guard := _ }) (v := ?_) rfl (by kernel_rfl) (by kernel_rfl) (by kernel_rfl) (fun _ _ _ h => h) (Or.inl ⟨by rfl, ?_⟩) (by assumption) ?_
  rotate_left
  · (intro W hSw; (try dsimp only at hSw); go_simp; try (with_reducible rfl))
  try simp only [Act.put, List.setIfInBounds_toArray, List.set_cons_zero, List.set_cons_succ]
  refine wpAnyH_take (i := 14) (oi := { dst := some 27, op := _, type := _, pos := _, after := _, guard := _ }) (v := ?_) rfl (by kernel_rfl) (by kernel_rfl) (by kernel_rfl) (fun _ _ _ h => h) (Or.inl ⟨by rfl, ?_⟩) (by assumption) ?_
  rotate_left
  · (intro W hSw; (try dsimp only at hSw); go_simp; try (with_reducible rfl))
  try simp only [Act.put, List.setIfInBounds_toArray, List.set_cons_zero, List.set_cons_succ]
  refine wpAnyH_take (i := 15) (oi := { dst := some 28, op := _, type := _, pos := _, after := _, guard := _ }) (v := ?_) rfl (by kernel_rfl) (by kernel_rfl) (by kernel_rfl) (fun _ _ _ h => h) (Or.inl ⟨by rfl, ?_⟩) (by assumption) ?_
  rotate_left
  · (intro W hSw; (try dsimp only at hSw); go_simp; try (with_reducible rfl))
  try simp only [Act.put, List.setIfInBounds_toArray, List.set_cons_zero, List.set_cons_succ]
  refine wpAnyH_take (i := 16) (oi := { dst := some 29, op := _, type := _, pos := _, after := _, guard := _ }) (v := ?_) rfl (by kernel_rfl) (by kernel_rfl) (by kernel_rfl) (fun _ _ _ h => h) (Or.inl ⟨by rfl, ?_⟩) (by assumption) ?_
  rotate_left
  · (intro W hSw; (try dsimp only at hSw); go_simp; try (with_reducible rfl))
  try simp only [Act.put, List.setIfInBounds_toArray, List.set_cons_zero, List.set_cons_succ]
  refine wpAnyH_take (i := 18) (oi := { dst := some 31, op := _, type := _, pos := _, after := _, guard := _ }) (v := ?_) rfl (by kernel_rfl) (by kernel_rfl) (by kernel_rfl) (fun _ _ _ h => h) (Or.inl ⟨by rfl, ?_⟩) (by assumption) ?_
  rotate_left
  · (intro W hSw; (try dsimp only at hSw); go_simp; try (with_reducible rfl))
  try simp only [Act.put, List.setIfInBounds_toArray, List.set_cons_zero, List.set_cons_succ]
  refine wpAnyH_take (i := 19) (oi := { dst := some 32, op := _, type := _, pos := _, after := _, guard := _ }) (v := ?_) rfl (by kernel_rfl) (by kernel_rfl) (by kernel_rfl) (fun _ _ _ h => h) (Or.inl ⟨by rfl, ?_⟩) (by assumption) ?_
  rotate_left
  · (intro W hSw; (try dsimp only at hSw); go_simp; try (with_reducible rfl))
  try simp only [Act.put, List.setIfInBounds_toArray, List.set_cons_zero, List.set_cons_succ]
  refine wpAnyH_ready (rs := [17]) (by kernel_rfl) (by simp) ?_
  refine AllReadyH.cons (o := { dst := some 30, op := _, type := _, pos := _, after := _, guard := _ }) rfl (fun K hK => ?_) AllReadyH.nil
  go_simp
  refine (cut_any _ _ cap1 L lo hi (HRQ.out.below hcur) (by omega)).mono ?_
  rintro e5 x5 ⟨v5, rfl, hO5, hg5⟩
  obtain ⟨aoA, capA, hv5, hx5, hy5⟩ := hO5.form
  subst hv5
  have hRA := hO5.rw
  have hcur : Below wq.heap.size wq x5 := hcur.trans (hg5.mono hcur.size)
  have hkeep := HKS.out x5 hcur
  clear hO5 hx5 hy5 hg5
  go_wp2_with fail
  refine hK.out _ _ ?_ (fun hHeld => ?_)
  · exact hkeep
  clear hK K
  try simp only [Act.put, List.setIfInBounds_toArray, List.set_cons_zero, List.set_cons_succ]
  refine wpAnyH_ready (rs := [20]) (by kernel_rfl) (by simp) ?_
  refine AllReadyH.cons (o := { dst := some 33, op := _, type := _, pos := _, after := _, guard := _ }) rfl (fun K hK => ?_) AllReadyH.nil
  go_simp
  refine (rcut_any _ _ cap1 L lo hi (HRQ.out.below hcur) (by omega)).mono ?_
  rintro e6 x6 ⟨v6, rfl, hO6, hg6⟩
  obtain ⟨aoB, capB, hv6, hx6, hy6⟩ := hO6.form
  subst hv6
  have hRB := hO6.rw
  have hcur : Below wq.heap.size wq x6 := hcur.trans (hg6.mono hcur.size)
  have hkeep := HKS.out x6 hcur
  have hRA := hRA.below hg6
  clear hO6 hx6 hy6 hg6
  go_wp2_with fail
  refine hK.out _ _ ?_ (fun hHeld => ?_)
  · exact hkeep
  clear hK K
  try simp only [Act.put, List.setIfInBounds_toArray, List.set_cons_zero, List.set_cons_succ]
  refine wpAnyH_ready (rs := [21]) (by kernel_rfl) (by simp) ?_
  refine AllReadyH.cons (o := { dst := some 34, op := _, type := _, pos := _, after := _, guard := _ }) rfl (fun K hK => ?_) AllReadyH.nil
  go_simp
  refine (HSA.out _ _ _ _ _ hRA hRB).mono ?_
  rintro e7 y7 ⟨rfl, q7, hq7⟩
  have hcur : Below wq.heap.size wq y7 := by rw [hq7]; exact (below_drewN hcur)
  have hkeep := HKS.out y7 hcur
  clear hRA hRB hq7
  go_wp2_with fail
  refine hK.out _ _ ?_ (fun hHeld => ?_)
  · exact hkeep
  clear hK K
  try simp only [Act.put, List.setIfInBounds_toArray, List.set_cons_zero, List.set_cons_succ]
  refine wpAnyH_take (i := 22) (oi := { dst := some 35, op := _, type := _, pos := _, after := _, guard := _ }) (v := ?_) rfl (by kernel_rfl) (by kernel_rfl) (by kernel_rfl) (fun _ _ _ h => h) (Or.inl ⟨by rfl, ?_⟩) (by assumption) ?_
  rotate_left
  · (intro W hSw; (try dsimp only at hSw); go_simp; try (with_reducible rfl))
  try simp only [Act.put, List.setIfInBounds_toArray, List.set_cons_zero, List.set_cons_succ]
  refine wpAnyH_take (i := 23) (oi := { dst := some 36, op := _, type := _, pos := _, after := _, guard := _ }) (v := ?_) rfl (by kernel_rfl) (by kernel_rfl) (by kernel_rfl) (fun _ _ _ h => h) (Or.inl ⟨by rfl, ?_⟩) (by assumption) ?_
  rotate_left
  · (intro W hSw; (try dsimp only at hSw); go_simp; try (with_reducible rfl))
  try simp only [Act.put, List.setIfInBounds_toArray, List.set_cons_zero, List.set_cons_succ]
  refine wpAnyH_take (i := 24) (oi := { dst := some 37, op := _, type := _, pos := _, after := _, guard := _ }) (v := ?_) rfl (by kernel_rfl) (by kernel_rfl) (by kernel_rfl) (fun _ _ _ h => h) (Or.inl ⟨by rfl, ?_⟩) (by assumption) ?_
  rotate_left
  · (intro W hSw; (try dsimp only at hSw); go_simp; try (with_reducible rfl))
  try simp only [Act.put, List.setIfInBounds_toArray, List.set_cons_zero, List.set_cons_succ]
  refine wpAnyH_take (i := 26) (oi := { dst := some 39, op := _, type := _, pos := _, after := _, guard := _ }) (v := ?_) rfl (by kernel_rfl) (by kernel_rfl) (by kernel_rfl) (fun _ _ _ h => h) (Or.inl ⟨by rfl, ?_⟩) (by assumption) ?_
  rotate_left
  · (intro W hSw; (try dsimp only at hSw); go_simp; try (with_reducible rfl))
  try simp only [Act.put, List.setIfInBounds_toArray, List.set_cons_zero, List.set_cons_succ]
  refine wpAnyH_ready (rs := [25]) (by kernel_rfl) (by simp) ?_
  refine AllReadyH.cons (o := { dst := some 38, op := _, type := _, pos := _, after := _, guard := _ }) rfl (fun K hK => ?_) AllReadyH.nil
  go_simp
  refine (join_any _ _ cap1 L (HRQ.out.below hcur) (by omega)).mono ?_
  rintro e8 x8 ⟨v8, rfl, hO8, hg8⟩
  obtain ⟨aoC, capC, hv8, hx8, hy8⟩ := hO8.form
  subst hv8
  have hRC := hO8.rw
  have hcur : Below wq.heap.size wq x8 := hcur.trans (hg8.mono hcur.size)
  have hkeep := HKS.out x8 hcur
  clear hO8 hx8 hy8 hg8
  go_wp2_with fail
  refine hK.out _ _ ?_ (fun hHeld => ?_)
  · exact hkeep
  clear hK K
  try simp only [Act.put, List.setIfInBounds_toArray, List.set_cons_zero, List.set_cons_succ]
  refine wpAnyH_ready (rs := [27]) (by kernel_rfl) (by simp) ?_
  refine AllReadyH.cons (o := { dst := some 40, op := _, type := _, pos := _, after := _, guard := _ }) rfl (fun K hK => ?_) AllReadyH.nil
  go_simp
  refine (rjoin_any _ _ cap1 L (HRQ.out.below hcur) (by omega)).mono ?_
  rintro e9 x9 ⟨v9, rfl, hO9, hg9⟩
  obtain ⟨aoD, capD, hv9, hx9, hy9⟩ := hO9.form
  subst hv9
  have hRD := hO9.rw
  have hcur : Below wq.heap.size wq x9 := hcur.trans (hg9.mono hcur.size)
  have hkeep := HKS.out x9 hcur
  have hRC := hRC.below hg9
  clear hO9 hx9 hy9 hg9
  go_wp2_with fail
  refine hK.out _ _ ?_ (fun hHeld => ?_)
  · exact hkeep
  clear hK K
  try simp only [Act.put, List.setIfInBounds_toArray, List.set_cons_zero, List.set_cons_succ]
  refine wpAnyH_ready (rs := [28]) (by kernel_rfl) (by simp) ?_
  refine AllReadyH.cons (o := { dst := some 41, op := _, type := _, pos := _, after := _, guard := _ }) rfl (fun K hK => ?_) AllReadyH.nil
  go_simp
  refine (HSC.out _ _ _ _ _ hRC hRD).mono ?_
  rintro e10 y10 ⟨rfl, q10, hq10⟩
  have hcur : Below wq.heap.size wq y10 := by rw [hq10]; exact (below_drewN hcur)
  have hkeep := HKS.out y10 hcur
  clear hRC hRD hq10
  go_wp2_with fail
  refine hK.out _ _ ?_ (fun hHeld => ?_)
  · exact hkeep
  clear hK K
  try simp only [Act.put, List.setIfInBounds_toArray, List.set_cons_zero, List.set_cons_succ]
  refine wpAnyH_take (i := 29) (oi := { dst := some 42, op := _, type := _, pos := _, after := _, guard := _ }) (v := ?_) rfl (by kernel_rfl) (by kernel_rfl) (by kernel_rfl) (fun _ _ _ h => h) (Or.inl ⟨by rfl, ?_⟩) (by assumption) ?_
  rotate_left
  · (intro W hSw; (try dsimp only at hSw); go_simp; try (with_reducible rfl))
  try simp only [Act.put, List.setIfInBounds_toArray, List.set_cons_zero, List.set_cons_succ]
  refine wpAnyH_take (i := 30) (oi := { dst := some 8, op := _, type := _, pos := _, after := _, guard := _ }) (v := ?_) rfl (by kernel_rfl) (by kernel_rfl) (by kernel_rfl) (fun _ _ _ h => h) (Or.inl ⟨by rfl, ?_⟩) (by assumption) ?_
  rotate_left
  · (intro W hSw; (try dsimp only at hSw); go_simp; try (with_reducible rfl))
  try simp only [Act.put, List.setIfInBounds_toArray, List.set_cons_zero, List.set_cons_succ]
  refine wpAnyH_done (by kernel_rfl) ?_ _
  have hRl := HRQ.out.below hcur
  have hRw := HRW.out.below hcur
  have hsm := same_any _ ao1 ao2 cap1 cap2 L L hRl hRw (by omega)
  rw [decide_eq_true (rfl : L = L)] at hsm
  have HSM := mkH hsm
  clear hsm hRl hRw
  go_wp2_with fail
  refine (HSM.out).mono ?_
  rintro e z1 ⟨rfl, q6, rfl⟩
  go_wp2_with fail
  refine (works_any _).mono ?_
  rintro e z2 ⟨rfl, hg10⟩
  go_wp2
  go_ret
  rw [hB]
  exact ⟨rfl, HB2.out.trans ((hcur.trans (((Pof.gr_drewN _ _).trans hg10).below.mono hcur.size)).mono (by have := HB2.out.size; omega))⟩
end Go.Proofs.Ytiinhfkpfklgjaa.Pls
