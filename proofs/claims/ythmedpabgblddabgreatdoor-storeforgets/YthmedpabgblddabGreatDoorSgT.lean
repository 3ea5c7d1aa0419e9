/-
  The contract of Restart.
-/
import Derived.Test.YthmedpabgblddabGreatDoorSgO
namespace Go.Proofs.YthmedpabgblddabGreatDoor.St
open Go.RowKit Kt Cs Cf Cv Dk Dp Da Db Dc Dd De Sq Sr Sa Sb Sc Se Sn So Pl
set_option linter.unusedVariables false
set_option maxRecDepth 20000

section
variable {w : World} {F : Nat → Prop} {B : Nat} {h : H}
theorem restart_up (hl : Lg w F B h) (hp : 1 ≤ h.per) (hd : h.dn = none) :
    Calls Tryz.prog 29 #[.pointer (some ⟨B, 0, none⟩)] w fun e w' => e = .returned (.int .i64 9) ∧ w' = w := by
  obtain ⟨c0, c1⟩ := lg_cells hl
  rw [hd] at c1
  clear hl hd
  go_enter Tryz.func29, Tryz.ntmps29
  go_wp2_with fail
  refine (Sa.isMade_any w B _ hp c0).mono ?_
  rintro e w1 ⟨rfl, hw⟩
  have hw2 := hw.symm
  subst hw2
  clear hw
  go_wp2
  go_ret
  exact ⟨rfl, rfl⟩

theorem rst_xs {s : Sg} (h : Fits s) (p : Int × Int) : rstS (dst (some p) s) = xs p s := dst_rst h p

set_option maxHeartbeats 4000000 in
theorem restart_down {N : Nat} {p : Int × Int} (hl : Lg w F B h) (hi : Inv N h) (hN : N ≤ 1000000) (hT : Tb w) (h0 : ¬ F 0) (hd : h.dn = some p) :
    Calls Tryz.prog 29 #[.pointer (some ⟨B, 0, none⟩)] w fun e w' => e = .returned (.int .i64 0) ∧ ∃ F', Lg w' F' B (rst h) ∧ Nx F w w' F' := by
  obtain ⟨v, FD, Ps, h1, h2⟩ := lg_dn hl hd
  obtain ⟨ao, cap, rfl⟩ := own_form h1.row.1
  have c0 := h1.c0
  have c1 := h1.c1
  have c2 := h1.c2
  have HL := mkH h1
  have HS := mkH h2
  have HI := mkH hi
  have HD := mkH hd
  have HT := mkH hT
  have hp := hi.p1
  have hnn := hi.n
  have HN := mkH (show Ps.length = h.segs.length from by have := h2.1; simpa using this)
  have hb : Ps.length ≤ 256 := by rw [HN.out]; exact hnn
  clear h1 h2 hl hd hi hT hnn
  go_enter Tryz.func29, Tryz.ntmps29
  go_wp2_with fail
  refine (Sa.isMade_any w B _ hp c0).mono ?_
  rintro e w1 ⟨rfl, hw⟩
  have hw2 := hw.symm
  subst hw2
  clear hw
  go_wp2_with fail
  go_loopw [18] (fun i W => ∃ j : Nat, j ≤ Ps.length ∧ i = .int .i64 j ∧ ∃ F1 FD1, Hid (Lr W F1 FD1 B h.per true (.slice ao Ps.length cap) 0 0 0 Ps ∧ Sk W FD1 Ps ((h.segs.map (xs p)).take j ++ (h.segs.map (dst (some p))).drop j) ∧ Nx F w W F1)) (fun i _ => Ps.length - (intOf i).toNat)
  case atStart => exact ⟨0, Nat.zero_le _, rfl, F, FD, HL.out, by rw [mid_zero]; exact HS.out, Nx.refl _ _⟩
  case round =>
    obtain ⟨j, hj, rfl, F1, FD1, HI2⟩ := hrel
    clear c0 c1 c2
    by_cases hj1 : j = Ps.length
    · subst hj1
      have c1 := HI2.out.1.c1
      have f1 := HI2.out.1.fz 1
      obtain ⟨i1, i2, i3⟩ := HI2.out
      rw [mid_end _ _ _ (by simp [HN.out]) (by simp)] at i2
      have k1 := i1.setDown false
      have k2 := Sk.lr i2 i1 1 (.bool false)
      have k3 := i3.trans (i1.nx 1 (.bool false))
      have hF0 : ¬ F1 0 := fun x => by
        rcases i3.2 0 x with y | y
        · exact h0 y
        · have := HT.out.size; omega
      have hT1 : Tb (wr.setCell ⟨B, 1, none⟩ (.bool false)) := tb_fr HT.out k3.1 h0
      have HK1 := mkH k1
      have HK2 := mkH k2
      have HK3 := mkH k3
      have HT1 := mkH hT1
      clear i1 i2 i3 k1 k2 k3 hT1 HI2
      go_upto_region 11 with fail
      generalize wr.setCell ⟨B, 1, none⟩ (.bool false) = W1 at *
      have hbd : Below W1.heap.size W1 W1.drew := ⟨rfl, rfl, rfl, Nat.le_refl _, fun _ _ => rfl⟩
      have hcn := count_any W1.drew F1 FD1 B h.per _ Ps h.segs p (HT1.out.below hbd HT1.out.size) hF0 (HK1.out.below hbd) (HK2.out.below hbd) HI.out.ch HI.out.fits HI.out.p1 HI.out.p2 HI.out.n (Nat.le_trans HI.out.top hN)
      have HCN := mkH hcn
      have c2 := HK1.out.c2
      have hrl := (Sr.rs_ok h.per p HI.out.ch HI.out.fits).2.1
      have hlf : (rs h.per p h.segs).length ≤ Ps.length := by rw [HN.out]; exact hrl
      clear hcn hbd hrl c1 f1
      obtain ⟨lf, hlf2⟩ : ∃ lf, (rs h.per p h.segs).length = lf := ⟨_, rfl⟩
      rw [hlf2] at HCN hlf
      have HLF := mkH hlf2
      clear hlf2
      go_region_with (first
        | (go_at_call 50; refine HCN.out.mono ?_; rintro e w3 ⟨rfl, F3, FD3, ss', hl3, hs3, htk, hnx3⟩; have d2 := hl3.c2; have HL3 := mkH hl3; have HS3 := mkH hs3; have HTK := mkH htk; have HX3 := mkH hnx3; clear hl3 hs3 htk hnx3)
        | (go_at_call 49; refine (delete_any _ ao Ps.length cap lf Ps.length Ps HL3.out.row.1 hlf (Nat.le_refl _) hb).mono ?_; rintro e w4 ⟨rfl, hown4, hf4⟩; have hh4 := (hf4.heap HL3.out.blt (fun x => (HL3.out.row.2 _ x).2.1 rfl)).trans HL3.out.heap; have e2 : w4.cell? ⟨B, 2, none⟩ = some (.slice ao Ps.length cap) := (by rw [cell_of_row _ _ _ _ _ _ hh4]; rfl); have g2 := frozen_of_row w4 B 2 _ _ hh4; have HH4 := mkH hh4; have HO4 := mkH hown4; have HF4 := mkH hf4; clear hh4 hown4 hf4))
      all_goals
        have hln : Ps.length - (Ps.length - lf) = lf := by omega
        rw [hln] at HO4 ⊢
        have htk2 : Ps.take lf ++ Ps.drop Ps.length = Ps.take lf := by rw [List.drop_length, List.append_nil]
        rw [htk2] at HO4
        have hpl : (Ps.take lf).length = lf := by rw [List.length_take]; omega
        have hob : (Value.slice ao lf cap).ownBlock = (Value.slice ao Ps.length cap).ownBlock := by cases ao <;> rfl
        have hrp : Rp w4 F3 FD3 B (.slice ao lf cap) (Ps.take lf) := ⟨by rw [hpl]; exact HO4.out, fun g hg => HL3.out.row.2 g (by rw [← hob]; exact hg)⟩
        have hl5 := lr_mk (fun k hk => Nat.lt_of_lt_of_le (HL3.out.lt k hk) HF4.out.size) HL3.out.own HL3.out.fd HH4.out hrp
        have hs5 := ((HS3.out.fr HF4.out (fun k hk x => (HL3.out.row.2 k x).2.2 hk)).take lf).fr (lr_fr2 HH4.out (.slice ao lf cap)) (fun k hk e => (HL3.out.fd k hk).2 e)
        have hn3 : Nx F w w3 F3 := (HK3.out.trans (Nx.ofBelow (w' := W1.drew) ⟨rfl, rfl, rfl, Nat.le_refl _, fun _ _ => rfl⟩)).trans HX3.out
        have hn4 : Nx F w w4 F3 := Nx.trans hn3 ⟨HF4.out.mono (fun k x => (HL3.out.row.2 k x).1), fun k hk => .inl hk⟩
        have hn5 : Nx F w (w4.setCell ⟨B, 2, none⟩ (.slice ao lf cap)) F3 := Nx.trans hn4 (nx_own (lr_fr2 HH4.out _) HL3.out.own)
        generalize w4.setCell ⟨B, 2, none⟩ (.slice ao lf cap) = W5 at hl5 hs5 hn5 ⊢
        have c4 := hl5.c4
        have c5 := hl5.c5
        have f5 := hl5.fz 5
        have HL5 := mkH hl5
        have HS5 := mkH hs5
        have HN5 := mkH hn5
        clear hl5 hs5 hn5 hn3 hn4 hrp hob htk2 hpl hln HH4 HO4 HF4 HL3 HS3 HX3 HK1 HK2 HK3 HT1 e2 g2
        go_wp2
        go_ret
        have he : rst h = ⟨h.per, rs h.per p h.segs, top (rs h.per p h.segs), none⟩ := by unfold rst; rw [HD.out]
        rw [he]
        refine ⟨rfl, F3, lg_ofUp rfl (v := .slice ao lf cap) (FD := FD3) (Ps := Ps.take lf) (HL5.out.setSafe _) ?_, HN5.out.trans (HL5.out.nx 5 _)⟩
        have hk := Sk.lr HS5.out HL5.out 5 (.int .i64 (top (rs h.per p h.segs) : Int))
        have htk := HTK.out
        rw [htk] at hk
        exact hk
    · have hjl : j < Ps.length := by omega
      obtain ⟨D, hD⟩ := nth hjl
      obtain ⟨g, rfl, hc⟩ := lr_at HI2.out.1 hD
      obtain ⟨s, hs⟩ := nth (l := h.segs) (j := j) (by have := HN.out; omega)
      have HV := mkH hs
      have HFT := mkH (HI.out.fits s (List.mem_of_getElem? hs))
      obtain ⟨G, d1, d2⟩ := disk_step HI2.out.1 HI2.out.2.1 HI2.out.2.2 hD (by rw [mid_at _ _ _ (by simp), List.getElem?_map, hs]; rfl)
      have D1 := mkH d1
      have D2 := mkH d2
      clear d1 d2 hs hD
      go_wp2_with fail
      refine (Dc.restart_any D1.out).mono ?_
      rintro e w2 ⟨rfl, hd2, hn2⟩
      obtain ⟨F2, FD2, e1, e2, e3⟩ := D2.out _ _ _ hd2 hn2
      rw [rst_xs HFT.out, mid_set _ _ _ (by simp) _ (by rw [List.getElem?_map, HV.out]; rfl)] at e2
      have HI3 := mkH (And.intro e1 (And.intro e2 e3))
      clear hd2 hn2 e1 e2 e3 hc
      go_wp2_with fail
      exact ⟨⟨j + 1, by omega, by go_num, F2, FD2, HI3.out⟩, by simp [intOf]; omega⟩
end
end Go.Proofs.YthmedpabgblddabGreatDoor.St
