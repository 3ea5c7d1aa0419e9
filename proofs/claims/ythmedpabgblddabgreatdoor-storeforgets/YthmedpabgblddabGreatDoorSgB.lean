/-
  The contracts of Sync and Crash.
-/
import Derived.Test.YthmedpabgblddabGreatDoorSgA
namespace Go.Proofs.YthmedpabgblddabGreatDoor.Sb
open Go.RowKit Kt Dk Dp Da Db Dc Dd De Sq Sr Sa
set_option linter.unusedVariables false
set_option maxRecDepth 20000

theorem lr_at {w : World} {F FD : Nat → Prop} {B per : Nat} {down : Bool} {ao : Option Addr} {n cap base next safe : Nat} {Ps : List Nat} (h : Lr w F FD B per down (.slice ao n cap) base next safe Ps) {i D : Nat} (hi : Ps[i]? = some D) :
    ∃ g, ao = some ⟨g, 0, none⟩ ∧ w.cell? ⟨g, i, none⟩ = some (.pointer (some ⟨D, 0, none⟩)) := by
  have hil : i < Ps.length := (List.getElem?_eq_some_iff.1 hi).1
  rcases h.row.1.2 with ⟨_, h0⟩ | ⟨g, c, cur, e, e2, e3, e4⟩
  · omega
  · simp only [Value.slice.injEq] at e
    obtain ⟨rfl, rfl, rfl⟩ := e
    refine ⟨g, rfl, ?_⟩
    have := h.row.1.cells (g := g) rfl i _ (Pt_at hi)
    rwa [Addr.add_lit, Nat.zero_add] at this

theorem mid_at (old new : List St) (j : Nat) (hl : new.length = old.length) : (new.take j ++ old.drop j)[j]? = old[j]? := by
  rcases Nat.lt_or_ge j old.length with h | h
  · rw [List.getElem?_append_right (by rw [List.length_take]; omega), List.length_take, Nat.min_eq_left (by omega), List.getElem?_drop]
    congr 1; omega
  · rw [List.getElem?_eq_none (by rw [List.length_append, List.length_take, List.length_drop]; omega), List.getElem?_eq_none (by omega)]
theorem mid_set (old new : List St) (j : Nat) (hl : new.length = old.length) (s : St) (hs : new[j]? = some s) : (new.take j ++ old.drop j).set j s = new.take (j + 1) ++ old.drop (j + 1) := by
  have hj : j < new.length := (List.getElem?_eq_some_iff.1 hs).1
  have e1 : old.drop j = old[j]'(by omega) :: old.drop (j + 1) := (List.getElem_cons_drop (by omega)).symm
  have e2 : new.take (j + 1) = new.take j ++ [s] := by
    rw [List.take_add_one, hs]; rfl
  rw [e2, List.set_append_right _ _ (by rw [List.length_take]; omega), List.length_take, Nat.min_eq_left (by omega), Nat.sub_self, List.append_assoc, e1]
  rfl
theorem mid_end (old new : List St) (n : Nat) (h1 : new.length = n) (hl : new.length = old.length) : new.take n ++ old.drop n = new := by
  rw [List.take_of_length_le (by omega), List.drop_eq_nil_of_le (by omega), List.append_nil]
theorem mid_zero (old new : List St) : new.take 0 ++ old.drop 0 = old := by simp

/-- The round of a loop over the disks, in which the disk at hand is called. -/
theorem disk_step {w0 w : World} {F0 F FD : Nat → Prop} {B per : Nat} {down : Bool} {v : Value} {base next safe : Nat} {Ps : List Nat} {ss : List St} (h : Lr w F FD B per down v base next safe Ps) (hs : Sk w FD Ps ss) (hn : Nx F0 w0 w F) {i D : Nat} {s : St} (h1 : Ps[i]? = some D) (h2 : ss[i]? = some s) :
    ∃ G : Nat → Prop, Ds w G D s ∧ ∀ (w' : World) (G' : Nat → Prop) (s' : St), Ds w' G' D s' → Nx G w w' G' → ∃ F' FD', Lr w' F' FD' B per down v base next safe Ps ∧ Sk w' FD' Ps (ss.set i s') ∧ Nx F0 w0 w' F' := by
  obtain ⟨G, g1, g2, g3⟩ := hs.at h.fdlt h1 h2
  refine ⟨G, g1, fun w' G' s' hd hx => ⟨Nw F w w', Nw FD w w', h.disk hx.1 g2, g3 w' G' s' hd hx, hn.trans (Nw.nx (hx.1.mono (fun k hk => (h.fd k (g2 k hk)).1)))⟩⟩

theorem nth {α : Type} {l : List α} {j : Nat} (h : j < l.length) : ∃ x, l[j]? = some x := ⟨l[j], List.getElem?_eq_getElem h⟩

section
variable {w : World} {F : Nat → Prop} {B : Nat} {h : H}
theorem lg_up (hl : Lg w F B h) (hd : h.dn = none) : ∃ v FD Ps, Lr w F FD B h.per false v (bas h.segs) (top h.segs) h.safe Ps ∧ Sk w FD Ps (h.segs.map (dst none)) := by
  obtain ⟨v, FD, Ps, h1, h2⟩ := hl
  rw [hd] at h2
  refine ⟨v, FD, Ps, ?_, h2⟩
  simpa [hd, nb, nn, ns] using h1
theorem lg_ofUp {v : Value} {FD : Nat → Prop} {Ps : List Nat} (hd : h.dn = none) (h1 : Lr w F FD B h.per false v (bas h.segs) (top h.segs) h.safe Ps) (h2 : Sk w FD Ps (h.segs.map (dst none))) : Lg w F B h := by
  refine ⟨v, FD, Ps, ?_, by rw [hd]; exact h2⟩
  simpa [hd, nb, nn, ns] using h1
theorem lg_dn {p : Int × Int} (hl : Lg w F B h) (hd : h.dn = some p) : ∃ v FD Ps, Lr w F FD B h.per true v 0 0 0 Ps ∧ Sk w FD Ps (h.segs.map (dst (some p))) := by
  obtain ⟨v, FD, Ps, h1, h2⟩ := hl
  rw [hd] at h2
  refine ⟨v, FD, Ps, ?_, h2⟩
  simpa [hd, nb, nn, ns] using h1
theorem lg_ofDn {p : Int × Int} {v : Value} {FD : Nat → Prop} {Ps : List Nat} (hd : h.dn = some p) (h1 : Lr w F FD B h.per true v 0 0 0 Ps) (h2 : Sk w FD Ps (h.segs.map (dst (some p)))) : Lg w F B h := by
  refine ⟨v, FD, Ps, ?_, by rw [hd]; exact h2⟩
  simpa [hd, nb, nn, ns] using h1
theorem lg_cells (hl : Lg w F B h) : w.cell? ⟨B, 0, none⟩ = some (.int .i64 (h.per : Int)) ∧ w.cell? ⟨B, 1, none⟩ = some (.bool h.dn.isSome) := by
  obtain ⟨v, FD, Ps, h1, h2⟩ := hl
  exact ⟨h1.c0, h1.c1⟩

set_option maxHeartbeats 1000000 in
theorem sync_up (hl : Lg w F B h) (hp : 1 ≤ h.per) (hn : h.segs.length ≤ 256) (hd : h.dn = none) :
    Calls Tryz.prog 26 #[.pointer (some ⟨B, 0, none⟩)] w fun e w' => e = .returned (.int .i64 0) ∧ ∃ F', Lg w' F' B (syn h) ∧ Nx F w w' F' := by
  obtain ⟨v, FD, Ps, h1, h2⟩ := lg_up hl hd
  obtain ⟨ao, cap, rfl⟩ := own_form h1.row.1
  have c0 := h1.c0
  have c1 := h1.c1
  have c2 := h1.c2
  have HL := mkH h1
  have HS := mkH h2
  have HD := mkH hd
  have HB := mkH hn
  clear h1 h2 hl hd hn
  go_enter Tryz.func26, Tryz.ntmps26
  go_wp2_with fail
  refine (trouble_any w B _ false hp c0 c1).mono ?_
  rintro e w1 ⟨rfl, hw⟩
  have hw2 := hw.symm
  subst hw2
  clear hw
  go_wp2_with fail
  go_loopw [16] (fun i W => ∃ j : Nat, j ≤ Ps.length ∧ i = .int .i64 j ∧ ∃ F1 FD1, Hid (Lr W F1 FD1 B h.per false (.slice ao Ps.length cap) (bas h.segs) (top h.segs) h.safe Ps ∧ Sk W FD1 Ps ((h.segs.map (fun s => dst none (syg s))).take j ++ (h.segs.map (dst none)).drop j) ∧ Nx F w W F1)) (fun i _ => Ps.length - (intOf i).toNat)
  case atStart => exact ⟨0, Nat.zero_le _, rfl, F, FD, HL.out, by rw [mid_zero]; exact HS.out, Nx.refl _ _⟩
  case round =>
    obtain ⟨j, hj, rfl, F1, FD1, HI⟩ := hrel
    have HN := mkH (show Ps.length = h.segs.length from by have := HS.out.1; simpa using this)
    have hb : Ps.length ≤ 256 := by rw [HN.out]; exact HB.out
    clear c0 c1 c2
    by_cases hj1 : j = Ps.length
    · subst hj1
      have c4 := HI.out.1.c4
      have c5 := HI.out.1.c5
      have f5 := HI.out.1.fz 5
      go_wp2
      go_ret
      obtain ⟨i1, i2, i3⟩ := HI.out
      rw [mid_end _ _ _ (by simp [HN.out]) (by simp)] at i2
      refine ⟨rfl, F1, lg_ofUp (h := syn h) HD.out (v := .slice ao Ps.length cap) (FD := FD1) (Ps := Ps) ?_ ?_, i3.trans (i1.nx 5 _)⟩
      · show Lr _ F1 FD1 B h.per false _ (bas (h.segs.map syg)) (top (h.segs.map syg)) (top h.segs) Ps
        rw [bas_map _ _ syg_ok, top_map _ _ syg_ok]
        exact i1.setSafe _
      · show Sk _ FD1 Ps ((h.segs.map syg).map (dst none))
        rw [List.map_map]
        exact Sk.lr i2 i1 5 _
    · have hjl : j < Ps.length := by omega
      obtain ⟨D, hD⟩ := nth hjl
      obtain ⟨g, rfl, hc⟩ := lr_at HI.out.1 hD
      obtain ⟨s, hs⟩ := nth (l := h.segs) (j := j) (by have := HN.out; omega)
      have HV := mkH hs
      obtain ⟨G, d1, d2⟩ := disk_step HI.out.1 HI.out.2.1 HI.out.2.2 hD (by rw [mid_at _ _ _ (by simp), List.getElem?_map, hs]; rfl)
      have D1 := mkH d1
      have D2 := mkH d2
      clear d1 d2 hs hD
      go_wp2_with fail
      refine (Dc.sync_any D1.out).mono ?_
      rintro e w2 ⟨rfl, hd2, hn2⟩
      obtain ⟨F2, FD2, e1, e2, e3⟩ := D2.out _ _ _ hd2 hn2
      rw [dst_syn, mid_set _ _ _ (by simp) _ (by rw [List.getElem?_map, HV.out]; rfl)] at e2
      have HI2 := mkH (And.intro e1 (And.intro e2 e3))
      clear hd2 hn2 e1 e2 e3 hc
      go_wp2_with fail
      exact ⟨⟨j + 1, by omega, by go_num, F2, FD2, HI2.out⟩, by simp [intOf]; omega⟩

theorem sync_down {p : Int × Int} (hl : Lg w F B h) (hp : 1 ≤ h.per) (hd : h.dn = some p) :
    Calls Tryz.prog 26 #[.pointer (some ⟨B, 0, none⟩)] w fun e w' => e = .returned (.int .i64 10) ∧ w' = w := by
  obtain ⟨c0, c1⟩ := lg_cells hl
  rw [hd] at c1
  clear hl hd
  go_enter Tryz.func26, Tryz.ntmps26
  go_wp2_with fail
  refine (trouble_any w B _ true hp c0 c1).mono ?_
  rintro e w1 ⟨rfl, hw⟩
  have hw2 := hw.symm
  subst hw2
  clear hw
  go_wp2
  go_ret
  exact ⟨rfl, rfl⟩

theorem crash_down {p : Int × Int} (hl : Lg w F B h) (hp : 1 ≤ h.per) (hd : h.dn = some p) (k f : Int) :
    Calls Tryz.prog 27 #[.pointer (some ⟨B, 0, none⟩), .int .i64 k, .int .i64 f] w fun e w' => e = .returned (.int .i64 10) ∧ w' = w := by
  obtain ⟨c0, c1⟩ := lg_cells hl
  rw [hd] at c1
  clear hl hd
  go_enter Tryz.func27, Tryz.ntmps27
  go_wp2_with fail
  refine (trouble_any w B _ true hp c0 c1).mono ?_
  rintro e w1 ⟨rfl, hw⟩
  have hw2 := hw.symm
  subst hw2
  clear hw
  go_wp2
  go_ret
  exact ⟨rfl, rfl⟩

theorem crash_bad (hl : Lg w F B h) (hp : 1 ≤ h.per) (hd : h.dn = none) (k f : Int) (hk : k < 0) :
    Calls Tryz.prog 27 #[.pointer (some ⟨B, 0, none⟩), .int .i64 k, .int .i64 f] w fun e w' => e = .returned (.int .i64 2) ∧ w' = w := by
  obtain ⟨c0, c1⟩ := lg_cells hl
  rw [hd] at c1
  clear hl hd
  have t1 : decide (k < (0 : Int)) = true := by simp; omega
  go_enter Tryz.func27, Tryz.ntmps27
  go_wp2_with fail
  refine (trouble_any w B _ false hp c0 c1).mono ?_
  rintro e w1 ⟨rfl, hw⟩
  have hw2 := hw.symm
  subst hw2
  clear hw
  go_wp2
  go_ret
  exact ⟨rfl, rfl⟩

set_option maxHeartbeats 1000000 in
theorem crash_up (hl : Lg w F B h) (hp : 1 ≤ h.per) (hd : h.dn = none) (hn : h.segs.length ≤ 256) (k f : Int) (hk : 0 ≤ k) (hf : f ≤ 9223372036854775807) :
    Calls Tryz.prog 27 #[.pointer (some ⟨B, 0, none⟩), .int .i64 k, .int .i64 f] w fun e w' => e = .returned (.int .i64 0) ∧ ∃ F', Lg w' F' B { h with dn := some (k, f) } ∧ Nx F w w' F' := by
  obtain ⟨v, FD, Ps, h1, h2⟩ := lg_up hl hd
  obtain ⟨ao, cap, rfl⟩ := own_form h1.row.1
  have c0 := h1.c0
  have c1 := h1.c1
  have c2 := h1.c2
  have HL := mkH h1
  have HS := mkH h2
  have t1 : decide (k < (0 : Int)) = false := by simp; omega
  have t2 : ¬ k < 0 := by omega
  have HK := mkH hk
  have HF := mkH hf
  have HB := mkH hn
  clear h1 h2 hl hd hk hf hn
  go_enter Tryz.func27, Tryz.ntmps27
  go_wp2_with fail
  refine (trouble_any w B _ false hp c0 c1).mono ?_
  rintro e w1 ⟨rfl, hw⟩
  have hw2 := hw.symm
  subst hw2
  clear hw
  go_wp2_with fail
  go_loopw [22] (fun i W => ∃ j : Nat, j ≤ Ps.length ∧ i = .int .i64 j ∧ ∃ F1 FD1, Hid (Lr W F1 FD1 B h.per false (.slice ao Ps.length cap) (bas h.segs) (top h.segs) h.safe Ps ∧ Sk W FD1 Ps ((h.segs.map (dst (some (k, f)))).take j ++ (h.segs.map (dst none)).drop j) ∧ Nx F w W F1)) (fun i _ => Ps.length - (intOf i).toNat)
  case atStart => exact ⟨0, Nat.zero_le _, rfl, F, FD, HL.out, by rw [mid_zero]; exact HS.out, Nx.refl _ _⟩
  case round =>
    obtain ⟨j, hj, rfl, F1, FD1, HI⟩ := hrel
    have HN := mkH (show Ps.length = h.segs.length from by have := HS.out.1; simpa using this)
    have hb : Ps.length ≤ 256 := by rw [HN.out]; exact HB.out
    clear c0 c1 c2 t1 t2
    by_cases hj1 : j = Ps.length
    · subst hj1
      have c1 := HI.out.1.c1
      have f1 := HI.out.1.fz 1
      have c3 := HI.out.1.c3
      have f3 := HI.out.1.fz 3
      have c4 := HI.out.1.c4
      have f4 := HI.out.1.fz 4
      have c5 := HI.out.1.c5
      have f5 := HI.out.1.fz 5
      go_wp2
      go_ret
      obtain ⟨i1, i2, i3⟩ := HI.out
      rw [mid_end _ _ _ (by simp [HN.out]) (by simp)] at i2
      refine ⟨rfl, F1, ?_⟩
      have k1 := i1.setDown true
      have k2 := k1.setBase 0
      have k3 := k2.setNext 0
      have k4 := k3.setSafe 0
      exact ⟨lg_ofDn rfl k4 (Sk.lr (Sk.lr (Sk.lr (Sk.lr i2 i1 1 _) k1 3 _) k2 4 _) k3 5 _), i3.trans ((i1.nx 1 _).trans ((k1.nx 3 _).trans ((k2.nx 4 _).trans (k3.nx 5 _))))⟩
    · have hjl : j < Ps.length := by omega
      obtain ⟨D, hD⟩ := nth hjl
      obtain ⟨g, rfl, hc⟩ := lr_at HI.out.1 hD
      obtain ⟨s, hs⟩ := nth (l := h.segs) (j := j) (by have := HN.out; omega)
      have HV := mkH hs
      obtain ⟨G, d1, d2⟩ := disk_step HI.out.1 HI.out.2.1 HI.out.2.2 hD (by rw [mid_at _ _ _ (by simp), List.getElem?_map, hs]; rfl)
      have D1 := mkH d1
      have D2 := mkH d2
      clear d1 d2 hs hD
      go_wp2_with fail
      refine (De.crash_any D1.out k f HF.out).mono ?_
      rintro e w2 ⟨rfl, hd2, hn2⟩
      obtain ⟨F2, FD2, e1, e2, e3⟩ := D2.out _ _ _ hd2 hn2
      rw [dst_crs _ _ _ HK.out, mid_set _ _ _ (by simp) _ (by rw [List.getElem?_map, HV.out]; rfl)] at e2
      have HI2 := mkH (And.intro e1 (And.intro e2 e3))
      clear hd2 hn2 e1 e2 e3 hc
      go_wp2_with fail
      exact ⟨⟨j + 1, by omega, by go_num, F2, FD2, HI2.out⟩, by simp [intOf]; omega⟩
end
end Go.Proofs.YthmedpabgblddabGreatDoor.Sb
