/-
  StoreRises.
-/
import Derived.Test.YthmedpabgblddaaGreatDoorJnD
import Derived.Deep.RegionHeld3
import Derived.Deep.RegionWith
namespace Go.Proofs.YthmedpabgblddaaGreatDoor.Tri
open Go.RowKit Kt Dk Dp Da Dc De Tp Tm Pl Cs Cf Cn Cv Sq Sr Sa Sb Sc Se St Sv Rd Wr Ta Tb0 Tc Td Te Tf Tg Tt Th Ti Tj Tk Tl Tn To Tx Tw Ty Go.Maps
set_option linter.unusedVariables false
set_option maxRecDepth 20000

/-- What was promised and accepted has not fallen. -/
structure Up (m n : M) : Prop where
  pr : m.pr ≤ n.pr
  sl : ∀ k v, atS m.sl k = some v → ∃ u, atS n.sl k = some u ∧ v.bal ≤ u.bal
theorem Up.refl (m : M) : Up m m := ⟨Nat.le_refl _, fun k v hv => ⟨v, hv, Nat.le_refl _⟩⟩
theorem Up.pm {m n : M} (h : Up m n) (b : Nat) : Up m (ap n (.pm b)) := ⟨by have := h.pr; simp only [ap]; omega, h.sl⟩
theorem Up.ac {m n : M} (h : Up m n) (ho : OkM n) (s : Nat) {b : Nat} (hb : n.pr ≤ b) (v : List UInt8) : Up m (ap n (.ac s b v)) := by
  refine ⟨by have := h.pr; simp only [ap]; omega, fun k u hu => ?_⟩
  obtain ⟨x, hx, hle⟩ := h.sl k u hu
  simp only [ap, atS_put]
  by_cases e : k = s
  · subst e
    rw [if_pos rfl]
    have := (ho.at' _ (atS_mem hx)).2.2.1
    exact ⟨_, rfl, by simp only at this ⊢; omega⟩
  · rw [if_neg e]
    exact ⟨x, hx, hle⟩
theorem up_pT {m : M} {t : Tt.T} {N : Nat} (hi : TI N t) (h : Up m (mm t)) (b : Int) : Up m (mm (pT t b)) ∧ (mm t).pr ≤ (mm (pT t b)).pr := by
  unfold pT
  split
  · rw [mm_wr]; exact ⟨h.pm _, by simp only [ap]; omega⟩
  · exact ⟨h, Nat.le_refl _⟩
theorem up_aT {m : M} {t : Tt.T} {N : Nat} (hi : TI N t) (h : Up m (mm t)) (s : Nat) (b : Int) (v : List UInt8) : Up m (mm (aT t s b v)) ∧ (mm t).pr ≤ (mm (aT t s b v)).pr := by
  unfold aT
  split
  · rename_i he
    have hb : ((mm t).pr : Int) ≤ b := by
      unfold aE at he
      split at he
      · cases he
      · split at he
        · cases he
        · split at he
          · cases he
          · omega
    rw [mm_wr]
    exact ⟨h.ac hi.ok s (by omega) v, by simp only [ap]; omega⟩
  · exact ⟨h, Nat.le_refl _⟩
theorem wrap_is (x : Int) : IntKind.i64.wrap x = wrap64 x := by
  unfold wrap64 IntKind.wrap
  simp [IntKind.signed, IntKind.bits]
  split <;> omega
theorem up_nT {m : M} {t : Tt.T} (h : Up m (mm t)) : Up m (mm (nT t)) ∧ (mm t).pr ≤ (mm (nT t)).pr := by
  unfold nT
  split
  · exact ⟨h, Nat.le_refl _⟩
  · exact ⟨h, Nat.le_refl _⟩
theorem dn_pT {t : Tt.T} (h : dn t = false) (b : Int) : dn (pT t b) = false := by unfold pT; split; rw [dn_wr]; exact h; exact h
theorem dn_aT {t : Tt.T} (h : dn t = false) (s : Nat) (b : Int) (v : List UInt8) : dn (aT t s b v) = false := by unfold aT; split; rw [dn_wr]; exact h; exact h
theorem dn_nT {t : Tt.T} (h : dn t = false) : dn (nT t) = false := by unfold nT; rw [h]; rfl
theorem Sn.back {w1 wa w' : World} {G G' : Nat → Prop} {S : Nat} {t t' : Tt.T} (h1 : Sn w1 G wa S t) (h2 : Sn wa G' w' S t') (hG : ∀ k, G k → G' k) : Sn w1 G w' S t' := by
  obtain ⟨F, f1, f2⟩ := h2.sr
  exact ⟨⟨F, f1, fun k hk hg => f2 k hk (hG k hg)⟩, h1.fr.trans h2.fr (fun i hi => .inl (fun hg => hi (hG i hg))), h1.lt, h1.g0, h1.tb⟩
theorem pE_iff {t : Tt.T} {N : Nat} (hi : TI N t) (hd : dn t = false) (n : Int) : (pE t n == 0) = (decide (((mm t).pr : Int) ≤ n) && decide (n ≤ 1099511627776)) := by
  unfold pE
  rw [hd, if_neg (by simp)]
  by_cases h1 : isNm n = false
  · rw [if_pos h1]
    simp only [isNm, decide_eq_false_iff_not] at h1
    by_cases h2 : ((mm t).pr : Int) ≤ n
    · have : ¬ (n ≤ 1099511627776) := by omega
      simp [this]
    · simp [h2]
  · rw [if_neg h1]
    simp only [isNm, decide_eq_false_iff_not, Classical.not_not] at h1
    by_cases h2 : n < (mm t).pr
    · rw [if_pos h2]
      have : ¬ (((mm t).pr : Int) ≤ n) := by omega
      simp [this]
    · rw [if_neg h2]
      have h3 : ((mm t).pr : Int) ≤ n := by omega
      simp [h3, h1.2]

set_option maxRecDepth 100000 in
set_option maxHeartbeats 20000000 in
theorem rises_any (w : World) (hT : Tb w) (per : Int) (ao : Option Addr) (cap : Nat) (la : List Ac) (hr : RowA w ao la) (hl : la.length ≤ cap) (hc : cap ≤ 9223372036854775807) (ao2 : Option Addr) (cap2 : Nat) (lb : List Ac) (hr2 : RowA w ao2 lb) (hl2 : lb.length ≤ cap2) (hc2 : cap2 ≤ 9223372036854775807) :
    Calls Tryz.prog 5 #[.int .i64 per, .slice ao la.length cap, .slice ao2 lb.length cap2] w fun e w' => e = .returned (.bool true) ∧ Below w.heap.size w w' := by
  have hmx : Tryz.prog.follows .mixedOrders = true := by kernel_rfl
  have hp := plays_any w hT per ao cap la hr hl hc
  have HP := mkH hp
  have HR2 := mkH hr2
  have hw0 := hT.size
  clear hp hT hr hr2
  generalize la.length = LA at *
  go_enter Tryz.func5, Tryz.ntmps5
  go_wp2_with fail
  refine HP.out.mono ?_
  rintro e w2 ⟨S, t, rfl, hd, hi, h1⟩
  have H2 := mkH h1
  have HI := mkH hi
  have HD := mkH hd
  clear h1 hi hd HP
  go_wp2_with fail
  refine (promised_sn H2.out).mono ?_
  rintro e w' ⟨rfl, hw⟩
  have hw2 := hw.symm
  subst hw2
  clear hw
  go_wp2_with fail
  have hh := has_any H2.out HI.out
  refine hh.mono ?_
  rintro e w3 ⟨a, c, l, rfl, hs3, hm3, hb3⟩
  have h3 := H2.out.more hb3
  have hbw3 : Below w.heap.size w w3 := (H2.out.toBelow (fun k hk => hk)).trans (hb3.mono H2.out.size)
  have hs03 : w.heap.size ≤ w3.heap.size := hbw3.size
  have HS3 := mkH hs3
  have HM3 := mkH hm3
  have H3 := mkH h3
  have HBW := mkH hbw3
  clear hh hs3 hm3 h3 hb3 H2 hbw3
  obtain ⟨ln, hln⟩ : ∃ ln, l.length = ln := ⟨_, rfl⟩
  have hln61 : ln ≤ 61 := by have h61 := HI.out.ok.len; rw [← HM3.out, List.length_map, hln] at h61; exact h61
  have HLN := mkH hln
  rw [hln]
  clear hln
  obtain ⟨GG, hGG⟩ : ∃ GG : Nat → Prop, (fun k => k < w.heap.size ∨ w2.heap.size ≤ k ∧ k < w3.heap.size) = GG := ⟨_, rfl⟩
  rw [hGG] at H3
  have HGW : Hid (∀ k, k < w.heap.size → GG k) := fun k hk => by rw [← hGG]; exact .inl hk
  have HGL : Hid (∀ k, w2.heap.size ≤ k → k < w3.heap.size → GG k) := fun k h1 h2 => by rw [← hGG]; exact .inr ⟨h1, h2⟩
  clear hGG
  have HUP0 := mkH (Up.refl (mm t))
  go_wp2_with fail
  go_loopw [8, 10] (fun pv i W => ∃ (j P : Nat) (t' : Tt.T), j ≤ lb.length ∧ j ≤ 30 ∧ i = .int .i64 (j : Int) ∧ pv = .int .i64 (P : Int) ∧ Hid (Sn w3 GG W S t' ∧ TI (50 + j) t' ∧ dn t' = false ∧ Up (mm t) (mm t') ∧ (mm t').pr = P)) (fun _ i _ => 30 - (intOf i).toNat)
  case atStart => exact ⟨0, _, t, Nat.zero_le _, by omega, rfl, rfl, H3.out, HI.out, HD.out, HUP0.out, rfl⟩
  case round =>
    clear H3 HUP0
    obtain ⟨j, P, t', hj, hj30, rfl, rfl, HX⟩ := hrel
    by_cases hj1 : j = lb.length ∨ j = 30
    · have hj0 : (j = lb.length ∧ decide ((j : Int) < (lb.length : Int)) = false) ∨ (j = 30 ∧ j < lb.length) := by
        rcases hj1 with h | h
        · exact .inl ⟨h, by simp; omega⟩
        · by_cases h2 : j = lb.length
          · exact .inl ⟨h2, by simp; omega⟩
          · exact .inr ⟨h, by omega⟩
      clear hj1
      have hfin : ∀ W', Below wr.heap.size wr W' → Below w.heap.size w W' := fun W' hb => by
        have h1 : Below w.heap.size w3 wr := HX.out.1.toBelow HGW.out
        exact HBW.out.trans (h1.trans (hb.mono (by have := h1.size; omega)))
      have HFIN := mkH hfin
      clear hfin
      rcases hj0 with ⟨h1, h2⟩ | ⟨h1, h2⟩
      · clear h2
        subst h1
        go_wp2_with fail
        refine (works_any _ HX.out.1.tbw).mono ?_
        rintro e w11 ⟨rfl, hb11⟩
        have HB11 := mkH hb11
        clear hb11
        go_wp2
        go_ret
        exact ⟨rfl, HFIN.out _ HB11.out⟩
      · subst h1
        go_wp2_with fail
        refine (works_any _ HX.out.1.tbw).mono ?_
        rintro e w11 ⟨rfl, hb11⟩
        have HB11 := mkH hb11
        clear hb11
        go_wp2
        go_ret
        exact ⟨rfl, HFIN.out _ HB11.out⟩
    · have hjl : j < lb.length := by omega
      have hj6 : j < 30 := by omega
      have hb : Below w.heap.size w wr := HBW.out.trans (HX.out.1.toBelow HGW.out)
      obtain ⟨b, off, ⟨kd, n, sl, fl, xa, xc, xb⟩, rfl, ⟨hrow, hxl, hxc, hxf⟩, c0, c1, c2, c3, c4⟩ := (HR2.out.below hb).at j hjl
      simp only at hrow hxl hxc hxf c0 c1 c2 c3 c4
      obtain ⟨m, hm1, hm2, hm3, hm4⟩ := min_len xb 300
      have HXR := mkH (Row_take hrow 300)
      have HM := mkH hm1
      have hm2 : min (xb.length : Int) 300 = (m : Int) := hm2
      obtain ⟨s40, hs40, e40⟩ := mod_is sl 40 (by omega) (by omega)
      have hba : Below wr.heap.size wr (wr.alloc (.cells #[.int .i64 kd, .int .i64 n, .int .i64 sl, .int .i64 fl, .slice xa xb.length xc] 24)) := below_alloc _ _
      have hv0 : (wr.alloc (.cells #[.int .i64 kd, .int .i64 n, .int .i64 sl, .int .i64 fl, .slice xa xb.length xc] 24)).heap[wr.heap.size]? = some (.cells #[.int .i64 kd, .int .i64 n, .int .i64 sl, .int .i64 fl, .slice xa xb.length xc] 24 (0, 0)) := heap_alloc_new _ _
      have HSA := mkH (HX.out.1.more hba)
      have HSB := mkH (HX.out.1.below hba)
      have HV0 := mkH hv0
      have HXA := mkH (HXR.out.below hba)
      have HTI := mkH HX.out.2.1
      have HDN := mkH HX.out.2.2.1
      have HUP := mkH HX.out.2.2.2.1
      have HPP := mkH HX.out.2.2.2.2
      have hsz : (wr.alloc (.cells #[.int .i64 kd, .int .i64 n, .int .i64 sl, .int .i64 fl, .slice xa xb.length xc] 24)).heap.size = wr.heap.size + 1 := by simp
      have hend : ∀ W t2 P2, Sn w3 GG W S t2 → TI (50 + j + 1) t2 → dn t2 = false → Up (mm t) (mm t2) → (mm t2).pr = P2 → ∃ (i P : Nat) (t' : Tt.T), i ≤ lb.length ∧ i ≤ 30 ∧ Value.int .i64 ((j : Int) + 1) = .int .i64 (i : Int) ∧ Value.int .i64 (P2 : Int) = .int .i64 (P : Int) ∧ Hid (Sn w3 GG W S t' ∧ TI (50 + i) t' ∧ dn t' = false ∧ Up (mm t) (mm t') ∧ (mm t').pr = P) := fun W t2 P2 h1 h2 h3 h4 h5 => ⟨j + 1, P2, t2, by omega, by omega, by go_num, rfl, h1, h2, h3, h4, h5⟩
      have HEND := mkH hend
      clear hj1 hb hrow hm1 hba hv0 hend HX
      by_cases h0 : kd = 0
      · subst h0
        have HPR : Hid (∀ q, Calls Tryz.prog 10 #[.pointer (some ⟨S, 0, none⟩), .int .i64 n] ((wr.alloc (.cells #[.int .i64 0, .int .i64 n, .int .i64 sl, .int .i64 fl, .slice xa xb.length xc] 24)).drewN q) fun e w' => e = .returned (.int .i64 (pE t' n)) ∧ w'.cell? ⟨wr.heap.size, 1, none⟩ = some (.int .i64 n) ∧ Sn w3 GG w' S (pT t' n)) := fun q => by
          have hbq := below_drewN (Below.refl (wr.alloc (.cells #[.int .i64 0, .int .i64 n, .int .i64 sl, .int .i64 fl, .slice xa xb.length xc] 24)).heap.size (wr.alloc (.cells #[.int .i64 0, .int .i64 n, .int .i64 sl, .int .i64 fl, .slice xa xb.length xc] 24))) q
          refine (promise_sn (HSA.out.below hbq) HTI.out (by omega) n).mono ?_
          rintro e w' ⟨rfl, hq⟩
          have hv := (hq.fr.heap (k := wr.heap.size) (by omega) (fun x => x (.inr ⟨Nat.le_refl _, by omega⟩))).trans HV0.out
          exact ⟨rfl, by rw [cell_of_row _ _ _ _ _ _ hv]; rfl, Sn.back HSB.out hq (fun k hk => .inl hk)⟩
        have k1 : (wr.alloc (.cells #[.int .i64 0, .int .i64 n, .int .i64 sl, .int .i64 fl, .slice xa xb.length xc] 24)).cell? ⟨wr.heap.size, 1, none⟩ = some (.int .i64 n) := by rw [cell_of_row _ _ _ _ _ _ HV0.out]; rfl
        have k0 : (wr.alloc (.cells #[.int .i64 0, .int .i64 n, .int .i64 sl, .int .i64 fl, .slice xa xb.length xc] 24)).cell? ⟨wr.heap.size, 0, none⟩ = some (.int .i64 0) := by rw [cell_of_row _ _ _ _ _ _ HV0.out]; rfl
        have hpe := pE_iff HTI.out HDN.out n
        rw [HPP.out] at hpe
        have hups := up_pT HTI.out HUP.out n
        have HTQ := mkH (HTI.out.pT (by omega) n)
        have HDQ := mkH (dn_pT HDN.out n)
        have HUQ := mkH (hups.1)
        have HLE := mkH (hups.2)
        generalize pT t' n = t2 at *
        obtain ⟨E, hE⟩ : ∃ E, pE t' n = E := ⟨_, rfl⟩
        rw [hE] at HPR hpe
        clear hE hups
        generalize hWa : wr.alloc (.cells #[.int .i64 0, .int .i64 n, .int .i64 sl, .int .i64 fl, .slice xa xb.length xc] 24) = wa at *
        by_cases hgd : (P : Int) ≤ n
        · have dg : decide ((P : Int) ≤ n) = true := by simpa using hgd
          rw [dg] at hpe
          rw [Bool.true_and] at hpe
          go_wp2_with fail
          go_region_held3 (fun W => W.cell? ⟨wr.heap.size, 1, none⟩ = some (.int .i64 n)) (first | exact k1 | exact k2) (first
            | (go_at_call 10; refine (HPR.out _).mono ?_; rintro e w4 ⟨rfl, k2, hq4⟩))
          all_goals (have HQ := mkH hq4; clear hq4 k1 k2 HPR k0 dg hgd hWa)
          obtain ⟨P2, hP2⟩ : ∃ P2, (mm t2).pr = P2 := ⟨_, rfl⟩
          have hPle : P ≤ P2 := by have := HLE.out; have := HPP.out; omega
          have hnlt : ¬ (P2 < P) := by omega
          have HP2 := mkH hP2
          clear hP2
          go_wp2_with fail
          have hpm := promised_sn HQ.out
          rw [HP2.out] at hpm
          refine hpm.mono ?_
          rintro e w' ⟨rfl, hw⟩
          have hw2 := hw.symm
          subst hw2
          clear hw hpm
          go_wp2_with fail
          have hpm := promised_sn HQ.out
          rw [HP2.out] at hpm
          refine hpm.mono ?_
          rintro e w' ⟨rfl, hw⟩
          have hw2 := hw.symm
          subst hw2
          clear hw hpm
          go_wp2_with fail
          refine (has_any HQ.out HTQ.out).mono ?_
          rintro e w6 ⟨a2, c2x, l2, rfl, hs6, hm6, hb6⟩
          obtain ⟨ln2, hln2⟩ : ∃ ln2, l2.length = ln2 := ⟨_, rfl⟩
          have hln2b : ln2 ≤ 61 := by have h61 := HTQ.out.ok.len; rw [← hm6, List.length_map, hln2] at h61; exact h61
          have HLN2 := mkH hln2
          have HS6 := mkH hs6
          have HM6 := mkH hm6
          have HQ6 := mkH (HQ.out.more hb6)
          have HQ7 := mkH (HQ.out.below hb6)
          rw [hln2]
          clear hln2 hs6 hm6 hb6
          go_wp2_with fail
          go_loopw [92] (fun i W => ∃ q : Nat, q ≤ ln2 ∧ i = .int .i64 (q : Int) ∧ Hid (Below w6.heap.size w6 W)) (fun i _ => ln2 - (intOf i).toNat)
          case atStart => exact ⟨0, Nat.zero_le _, rfl, Below.refl _ _⟩
          case round =>
            obtain ⟨q, hq, rfl, HBQ⟩ := hrel
            rcases Nat.lt_or_ge q ln2 with hql | hql
            · have hA1 := HS6.out.below HBQ.out
              obtain ⟨g, x, rfl, hx, cx0, cx1, cx2, rx⟩ := hs_at hA1 (by rw [HLN2.out]; exact hql)
              have hmem : hV x ∈ (mm t2).sl := by rw [← HM6.out]; exact List.mem_map.2 ⟨x, List.mem_of_getElem? hx, rfl⟩
              have hok := (HTQ.out.ok.at' _ hmem).2.2.1
              obtain ⟨xk, xb1, xa1, xc1, xv⟩ := x
              simp only [hV] at hok
              rw [HP2.out] at hok
              simp only at cx0 cx1 cx2
              have hngt : ¬ (P2 < xb1) := by omega
              have HBN : ∀ o : Obj, Hid (Below w6.heap.size w6 (wr.alloc o)) := fun o => HBQ.out.trans ((below_alloc wr o).mono HBQ.out.size)
              clear hA1 hx hmem rx
              generalize xv.length = VL at *
              go_wp2_with fail
              exact ⟨⟨q + 1, by omega, by go_num, HBN _⟩, by simp [intOf]; omega⟩
            · have hqn : q = ln2 := by omega
              subst hqn
              have hd : decide ((q : Int) < (q : Int)) = false := by simp
              have HQ8 := mkH (HQ7.out.below HBQ.out)
              go_wp2_with fail
              go_loopw [103] (fun i W => ∃ r : Nat, r ≤ ln ∧ i = .int .i64 (r : Int) ∧ Hid (Sn w3 GG W S t2)) (fun i _ => ln - (intOf i).toNat)
              case atStart => exact ⟨0, Nat.zero_le _, rfl, HQ8⟩
              case round =>
                clear HQ8
                obtain ⟨r, hr, rfl, HRS⟩ := hrel
                rcases Nat.lt_or_ge r ln with hrl | hrl
                · have hA1 : Hs w2.heap.size wr (.slice a l.length c) l := HS3.out.keep (fun k h1 h2 => HRS.out.fr.heap h2 (fun x => x (HGL.out k h1 h2)))
                  obtain ⟨g, x, rfl, hx, cx0, cx1, cx2, rx⟩ := hs_at hA1 (by rw [HLN.out]; exact hrl)
                  have hmem : hV x ∈ (mm t).sl := by rw [← HM3.out]; exact List.mem_map.2 ⟨x, List.mem_of_getElem? hx, rfl⟩
                  have hat := mem_atS HI.out.ok.srt hmem
                  have hok := HI.out.ok.at' _ hmem
                  obtain ⟨u, hu1, hu2⟩ := HUQ.out.sl _ _ hat
                  obtain ⟨xk, xb1, xa1, xc1, xv⟩ := x
                  simp only [hV] at hok hu1 hu2
                  simp only at cx0 cx1 cx2
                  have hbv : Below wr.heap.size wr (wr.alloc (.cells #[.int .i64 (xk : Int), .int .i64 (xb1 : Int), .slice xa1 xv.length xc1] 52)) := below_alloc _ _
                  have hv0 : (wr.alloc (.cells #[.int .i64 (xk : Int), .int .i64 (xb1 : Int), .slice xa1 xv.length xc1] 52)).heap[wr.heap.size]? = some (.cells #[.int .i64 (xk : Int), .int .i64 (xb1 : Int), .slice xa1 xv.length xc1] 52 (0, 0)) := heap_alloc_new _ _
                  have d0 : (wr.alloc (.cells #[.int .i64 (xk : Int), .int .i64 (xb1 : Int), .slice xa1 xv.length xc1] 52)).cell? ⟨wr.heap.size, 0, none⟩ = some (.int .i64 (xk : Int)) := Cw.cell_new_at wr _ _ 0 _ rfl
                  have hsv : (wr.alloc (.cells #[.int .i64 (xk : Int), .int .i64 (xb1 : Int), .slice xa1 xv.length xc1] 52)).heap.size = wr.heap.size + 1 := by simp
                  have HRv := mkH (HRS.out.below hbv)
                  have HV1 := mkH hv0
                  have hg := get_sn HRv.out HTQ.out xk (by omega)
                  rw [hu1] at hg
                  clear hA1 hx hmem hat hbv hv0 rx
                  generalize xv.length = VL at *
                  go_wp2_with fail
                  generalize wr.alloc (.cells #[.int .i64 (xk : Int), .int .i64 (xb1 : Int), .slice xa1 VL xc1] 52) = wv at *
                  refine hg.mono ?_
                  rintro e w10 ⟨hgt, hb10⟩
                  obtain ⟨bb, cp, rfl, hrow, hlo, hcl, hcm⟩ := hgt
                  have hv1 : w10.heap[wr.heap.size]? = _ := (hb10.block _ (by omega)).trans HV1.out
                  have g1 : w10.cell? ⟨wr.heap.size, 1, none⟩ = some (.int .i64 (xb1 : Int)) := by rw [cell_of_row _ _ _ _ _ _ hv1]; rfl
                  have HRE := mkH (HRv.out.below hb10)
                  have b1 : ¬ (u.bal < xb1) := by omega
                  clear hg hb10 hv1 hrow cx0 cx1 cx2 d0 hu1 hu2
                  generalize u.val.length = UL at *
                  generalize u.bal = UB at *
                  go_wp2_with fail
                  exact ⟨⟨r + 1, by omega, by go_num, HRE⟩, by simp [intOf]; omega⟩
                · have hrn : r = ln := by omega
                  subst hrn
                  have hd2 : decide ((r : Int) < (r : Int)) = false := by simp
                  go_wp2_with fail
                  exact ⟨HEND.out _ _ _ HRS.out HTQ.out HDQ.out HUQ.out HP2.out, by simp [intOf]; omega⟩
        · have dg : decide ((P : Int) ≤ n) = false := by simpa using hgd
          rw [dg] at hpe
          rw [Bool.false_and] at hpe
          go_wp2_with fail
          (first | (go_region_with (first
            | (go_at_call 10; refine (HPR.out _).mono ?_; rintro e w4 ⟨rfl, k2, hq4⟩))) | fail)
          all_goals (have HQ := mkH hq4; clear hq4 k1 k2 HPR k0 dg hgd hWa)
          all_goals (
            obtain ⟨P2, hP2⟩ : ∃ P2, (mm t2).pr = P2 := ⟨_, rfl⟩
            have hPle : P ≤ P2 := by have := HLE.out; have := HPP.out; omega
            have hnlt : ¬ (P2 < P) := by omega
            have HP2 := mkH hP2
            clear hP2
            go_wp2_with fail
            have hpm := promised_sn HQ.out
            rw [HP2.out] at hpm
            refine hpm.mono ?_
            rintro e w' ⟨rfl, hw⟩
            have hw2 := hw.symm
            subst hw2
            clear hw hpm
            go_wp2_with fail
            have hpm := promised_sn HQ.out
            rw [HP2.out] at hpm
            refine hpm.mono ?_
            rintro e w' ⟨rfl, hw⟩
            have hw2 := hw.symm
            subst hw2
            clear hw hpm
            go_wp2_with fail
            refine (has_any HQ.out HTQ.out).mono ?_
            rintro e w6 ⟨a2, c2x, l2, rfl, hs6, hm6, hb6⟩
            obtain ⟨ln2, hln2⟩ : ∃ ln2, l2.length = ln2 := ⟨_, rfl⟩
            have hln2b : ln2 ≤ 61 := by have h61 := HTQ.out.ok.len; rw [← hm6, List.length_map, hln2] at h61; exact h61
            have HLN2 := mkH hln2
            have HS6 := mkH hs6
            have HM6 := mkH hm6
            have HQ6 := mkH (HQ.out.more hb6)
            have HQ7 := mkH (HQ.out.below hb6)
            rw [hln2]
            clear hln2 hs6 hm6 hb6
            go_wp2_with fail
            go_loopw [92] (fun i W => ∃ q : Nat, q ≤ ln2 ∧ i = .int .i64 (q : Int) ∧ Hid (Below w6.heap.size w6 W)) (fun i _ => ln2 - (intOf i).toNat)
            case atStart => exact ⟨0, Nat.zero_le _, rfl, Below.refl _ _⟩
            case round =>
              obtain ⟨q, hq, rfl, HBQ⟩ := hrel
              rcases Nat.lt_or_ge q ln2 with hql | hql
              · have hA1 := HS6.out.below HBQ.out
                obtain ⟨g, x, rfl, hx, cx0, cx1, cx2, rx⟩ := hs_at hA1 (by rw [HLN2.out]; exact hql)
                have hmem : hV x ∈ (mm t2).sl := by rw [← HM6.out]; exact List.mem_map.2 ⟨x, List.mem_of_getElem? hx, rfl⟩
                have hok := (HTQ.out.ok.at' _ hmem).2.2.1
                obtain ⟨xk, xb1, xa1, xc1, xv⟩ := x
                simp only [hV] at hok
                rw [HP2.out] at hok
                simp only at cx0 cx1 cx2
                have hngt : ¬ (P2 < xb1) := by omega
                have HBN : ∀ o : Obj, Hid (Below w6.heap.size w6 (wr.alloc o)) := fun o => HBQ.out.trans ((below_alloc wr o).mono HBQ.out.size)
                clear hA1 hx hmem rx
                generalize xv.length = VL at *
                go_wp2_with fail
                exact ⟨⟨q + 1, by omega, by go_num, HBN _⟩, by simp [intOf]; omega⟩
              · have hqn : q = ln2 := by omega
                subst hqn
                have hd : decide ((q : Int) < (q : Int)) = false := by simp
                have HQ8 := mkH (HQ7.out.below HBQ.out)
                go_wp2_with fail
                go_loopw [103] (fun i W => ∃ r : Nat, r ≤ ln ∧ i = .int .i64 (r : Int) ∧ Hid (Sn w3 GG W S t2)) (fun i _ => ln - (intOf i).toNat)
                case atStart => exact ⟨0, Nat.zero_le _, rfl, HQ8⟩
                case round =>
                  clear HQ8
                  obtain ⟨r, hr, rfl, HRS⟩ := hrel
                  rcases Nat.lt_or_ge r ln with hrl | hrl
                  · have hA1 : Hs w2.heap.size wr (.slice a l.length c) l := HS3.out.keep (fun k h1 h2 => HRS.out.fr.heap h2 (fun x => x (HGL.out k h1 h2)))
                    obtain ⟨g, x, rfl, hx, cx0, cx1, cx2, rx⟩ := hs_at hA1 (by rw [HLN.out]; exact hrl)
                    have hmem : hV x ∈ (mm t).sl := by rw [← HM3.out]; exact List.mem_map.2 ⟨x, List.mem_of_getElem? hx, rfl⟩
                    have hat := mem_atS HI.out.ok.srt hmem
                    have hok := HI.out.ok.at' _ hmem
                    obtain ⟨u, hu1, hu2⟩ := HUQ.out.sl _ _ hat
                    obtain ⟨xk, xb1, xa1, xc1, xv⟩ := x
                    simp only [hV] at hok hu1 hu2
                    simp only at cx0 cx1 cx2
                    have hbv : Below wr.heap.size wr (wr.alloc (.cells #[.int .i64 (xk : Int), .int .i64 (xb1 : Int), .slice xa1 xv.length xc1] 52)) := below_alloc _ _
                    have hv0 : (wr.alloc (.cells #[.int .i64 (xk : Int), .int .i64 (xb1 : Int), .slice xa1 xv.length xc1] 52)).heap[wr.heap.size]? = some (.cells #[.int .i64 (xk : Int), .int .i64 (xb1 : Int), .slice xa1 xv.length xc1] 52 (0, 0)) := heap_alloc_new _ _
                    have d0 : (wr.alloc (.cells #[.int .i64 (xk : Int), .int .i64 (xb1 : Int), .slice xa1 xv.length xc1] 52)).cell? ⟨wr.heap.size, 0, none⟩ = some (.int .i64 (xk : Int)) := Cw.cell_new_at wr _ _ 0 _ rfl
                    have hsv : (wr.alloc (.cells #[.int .i64 (xk : Int), .int .i64 (xb1 : Int), .slice xa1 xv.length xc1] 52)).heap.size = wr.heap.size + 1 := by simp
                    have HRv := mkH (HRS.out.below hbv)
                    have HV1 := mkH hv0
                    have hg := get_sn HRv.out HTQ.out xk (by omega)
                    rw [hu1] at hg
                    clear hA1 hx hmem hat hbv hv0 rx
                    generalize xv.length = VL at *
                    go_wp2_with fail
                    generalize wr.alloc (.cells #[.int .i64 (xk : Int), .int .i64 (xb1 : Int), .slice xa1 VL xc1] 52) = wv at *
                    refine hg.mono ?_
                    rintro e w10 ⟨hgt, hb10⟩
                    obtain ⟨bb, cp, rfl, hrow, hlo, hcl, hcm⟩ := hgt
                    have hv1 : w10.heap[wr.heap.size]? = _ := (hb10.block _ (by omega)).trans HV1.out
                    have g1 : w10.cell? ⟨wr.heap.size, 1, none⟩ = some (.int .i64 (xb1 : Int)) := by rw [cell_of_row _ _ _ _ _ _ hv1]; rfl
                    have HRE := mkH (HRv.out.below hb10)
                    have b1 : ¬ (u.bal < xb1) := by omega
                    clear hg hb10 hv1 hrow cx0 cx1 cx2 d0 hu1 hu2
                    generalize u.val.length = UL at *
                    generalize u.bal = UB at *
                    go_wp2_with fail
                    exact ⟨⟨r + 1, by omega, by go_num, HRE⟩, by simp [intOf]; omega⟩
                  · have hrn : r = ln := by omega
                    subst hrn
                    have hd2 : decide ((r : Int) < (r : Int)) = false := by simp
                    go_wp2_with fail
                    exact ⟨HEND.out _ _ _ HRS.out HTQ.out HDQ.out HUQ.out HP2.out, by simp [intOf]; omega⟩)
      · have t0 : (kd == 0) = false := by simp [h0]
        by_cases h1 : kd = 1
        · subst h1
          have HPR : Hid (∀ q, Calls Tryz.prog 11 #[.pointer (some ⟨S, 0, none⟩), .int .i64 (s40 : Int), .int .i64 n, .slice xa m xc] ((wr.alloc (.cells #[.int .i64 1, .int .i64 n, .int .i64 sl, .int .i64 fl, .slice xa xb.length xc] 24)).drewN q) fun e w' => e = .returned (.int .i64 (aE t' s40 n)) ∧ (w'.cell? ⟨wr.heap.size, 1, none⟩ = some (.int .i64 n) ∧ w'.cell? ⟨wr.heap.size, 2, none⟩ = some (.int .i64 sl) ∧ w'.cell? ⟨wr.heap.size, 4, none⟩ = some (.slice xa xb.length xc)) ∧ Sn w3 GG w' S (aT t' s40 n (xb.take 300))) := fun q => by
            have hbq := below_drewN (Below.refl (wr.alloc (.cells #[.int .i64 1, .int .i64 n, .int .i64 sl, .int .i64 fl, .slice xa xb.length xc] 24)).heap.size (wr.alloc (.cells #[.int .i64 1, .int .i64 n, .int .i64 sl, .int .i64 fl, .slice xa xb.length xc] 24))) q
            have ht := accept_sn (HSA.out.below hbq) HTI.out (by omega) s40 (by omega) n xa xc (xb.take 300) (HXA.out.below hbq) (by rw [HM.out]; omega)
            rw [HM.out] at ht
            refine ht.mono ?_
            rintro e w' ⟨rfl, hq⟩
            have hv := (hq.fr.heap (k := wr.heap.size) (by omega) (fun x => x (.inr ⟨Nat.le_refl _, by omega⟩))).trans HV0.out
            exact ⟨rfl, ⟨by rw [cell_of_row _ _ _ _ _ _ hv]; rfl, by rw [cell_of_row _ _ _ _ _ _ hv]; rfl, by rw [cell_of_row _ _ _ _ _ _ hv]; rfl⟩, Sn.back HSB.out hq (fun k hk => .inl hk)⟩
          have k1 : (wr.alloc (.cells #[.int .i64 1, .int .i64 n, .int .i64 sl, .int .i64 fl, .slice xa xb.length xc] 24)).cell? ⟨wr.heap.size, 1, none⟩ = some (.int .i64 n) ∧ (wr.alloc (.cells #[.int .i64 1, .int .i64 n, .int .i64 sl, .int .i64 fl, .slice xa xb.length xc] 24)).cell? ⟨wr.heap.size, 2, none⟩ = some (.int .i64 sl) ∧ (wr.alloc (.cells #[.int .i64 1, .int .i64 n, .int .i64 sl, .int .i64 fl, .slice xa xb.length xc] 24)).cell? ⟨wr.heap.size, 4, none⟩ = some (.slice xa xb.length xc) := ⟨by rw [cell_of_row _ _ _ _ _ _ HV0.out]; rfl, by rw [cell_of_row _ _ _ _ _ _ HV0.out]; rfl, by rw [cell_of_row _ _ _ _ _ _ HV0.out]; rfl⟩
          have k0 : (wr.alloc (.cells #[.int .i64 1, .int .i64 n, .int .i64 sl, .int .i64 fl, .slice xa xb.length xc] 24)).cell? ⟨wr.heap.size, 0, none⟩ = some (.int .i64 1) := by rw [cell_of_row _ _ _ _ _ _ HV0.out]; rfl
          have hups := up_aT HTI.out HUP.out s40 n (xb.take 300)
          have HTQ := mkH (HTI.out.aT (by omega) (s := s40) (by omega) n (v := xb.take 300) (by rw [HM.out]; omega))
          have HDQ := mkH (dn_aT HDN.out s40 n (xb.take 300))
          have HUQ := mkH (hups.1)
          have HLE := mkH (hups.2)
          generalize aT t' s40 n (xb.take 300) = t2 at *
          clear hups
          generalize aE t' s40 n = E at *
          have HE40 : Hid ((IntKind.i64.wrap (sl.tmod 40 + 40)).tmod 40 = (s40 : Int)) := mkH (by rw [wrap_is]; exact e40)
          have hmi1 : (m : Int) ≤ (xc : Int) := by omega
          generalize hWa : wr.alloc (.cells #[.int .i64 1, .int .i64 n, .int .i64 sl, .int .i64 fl, .slice xa xb.length xc] 24) = wa at *
          go_wp2_with fail
          go_region_held3 (fun W => W.cell? ⟨wr.heap.size, 1, none⟩ = some (.int .i64 n) ∧ W.cell? ⟨wr.heap.size, 2, none⟩ = some (.int .i64 sl) ∧ W.cell? ⟨wr.heap.size, 4, none⟩ = some (.slice xa xb.length xc)) (first | exact k1 | exact k2) (first
            | (go_at_call 11; rw [HE40.out]; refine (HPR.out _).mono ?_; rintro e w4 ⟨rfl, k2, hq4⟩))
          all_goals (have HQ := mkH hq4; clear hq4 k1 k2 HPR k0 hWa)
          obtain ⟨P2, hP2⟩ : ∃ P2, (mm t2).pr = P2 := ⟨_, rfl⟩
          have hPle : P ≤ P2 := by have := HLE.out; have := HPP.out; omega
          have hnlt : ¬ (P2 < P) := by omega
          have HP2 := mkH hP2
          clear hP2
          go_wp2_with fail
          have hpm := promised_sn HQ.out
          rw [HP2.out] at hpm
          refine hpm.mono ?_
          rintro e w' ⟨rfl, hw⟩
          have hw2 := hw.symm
          subst hw2
          clear hw hpm
          go_wp2_with fail
          have hpm := promised_sn HQ.out
          rw [HP2.out] at hpm
          refine hpm.mono ?_
          rintro e w' ⟨rfl, hw⟩
          have hw2 := hw.symm
          subst hw2
          clear hw hpm
          go_wp2_with fail
          refine (has_any HQ.out HTQ.out).mono ?_
          rintro e w6 ⟨a2, c2x, l2, rfl, hs6, hm6, hb6⟩
          obtain ⟨ln2, hln2⟩ : ∃ ln2, l2.length = ln2 := ⟨_, rfl⟩
          have hln2b : ln2 ≤ 61 := by have h61 := HTQ.out.ok.len; rw [← hm6, List.length_map, hln2] at h61; exact h61
          have HLN2 := mkH hln2
          have HS6 := mkH hs6
          have HM6 := mkH hm6
          have HQ6 := mkH (HQ.out.more hb6)
          have HQ7 := mkH (HQ.out.below hb6)
          rw [hln2]
          clear hln2 hs6 hm6 hb6
          go_wp2_with fail
          go_loopw [92] (fun i W => ∃ q : Nat, q ≤ ln2 ∧ i = .int .i64 (q : Int) ∧ Hid (Below w6.heap.size w6 W)) (fun i _ => ln2 - (intOf i).toNat)
          case atStart => exact ⟨0, Nat.zero_le _, rfl, Below.refl _ _⟩
          case round =>
            obtain ⟨q, hq, rfl, HBQ⟩ := hrel
            rcases Nat.lt_or_ge q ln2 with hql | hql
            · have hA1 := HS6.out.below HBQ.out
              obtain ⟨g, x, rfl, hx, cx0, cx1, cx2, rx⟩ := hs_at hA1 (by rw [HLN2.out]; exact hql)
              have hmem : hV x ∈ (mm t2).sl := by rw [← HM6.out]; exact List.mem_map.2 ⟨x, List.mem_of_getElem? hx, rfl⟩
              have hok := (HTQ.out.ok.at' _ hmem).2.2.1
              obtain ⟨xk, xb1, xa1, xc1, xv⟩ := x
              simp only [hV] at hok
              rw [HP2.out] at hok
              simp only at cx0 cx1 cx2
              have hngt : ¬ (P2 < xb1) := by omega
              have HBN : ∀ o : Obj, Hid (Below w6.heap.size w6 (wr.alloc o)) := fun o => HBQ.out.trans ((below_alloc wr o).mono HBQ.out.size)
              clear hA1 hx hmem rx
              generalize xv.length = VL at *
              go_wp2_with fail
              exact ⟨⟨q + 1, by omega, by go_num, HBN _⟩, by simp [intOf]; omega⟩
            · have hqn : q = ln2 := by omega
              subst hqn
              have hd : decide ((q : Int) < (q : Int)) = false := by simp
              have HQ8 := mkH (HQ7.out.below HBQ.out)
              go_wp2_with fail
              go_loopw [103] (fun i W => ∃ r : Nat, r ≤ ln ∧ i = .int .i64 (r : Int) ∧ Hid (Sn w3 GG W S t2)) (fun i _ => ln - (intOf i).toNat)
              case atStart => exact ⟨0, Nat.zero_le _, rfl, HQ8⟩
              case round =>
                clear HQ8
                obtain ⟨r, hr, rfl, HRS⟩ := hrel
                rcases Nat.lt_or_ge r ln with hrl | hrl
                · have hA1 : Hs w2.heap.size wr (.slice a l.length c) l := HS3.out.keep (fun k h1 h2 => HRS.out.fr.heap h2 (fun x => x (HGL.out k h1 h2)))
                  obtain ⟨g, x, rfl, hx, cx0, cx1, cx2, rx⟩ := hs_at hA1 (by rw [HLN.out]; exact hrl)
                  have hmem : hV x ∈ (mm t).sl := by rw [← HM3.out]; exact List.mem_map.2 ⟨x, List.mem_of_getElem? hx, rfl⟩
                  have hat := mem_atS HI.out.ok.srt hmem
                  have hok := HI.out.ok.at' _ hmem
                  obtain ⟨u, hu1, hu2⟩ := HUQ.out.sl _ _ hat
                  obtain ⟨xk, xb1, xa1, xc1, xv⟩ := x
                  simp only [hV] at hok hu1 hu2
                  simp only at cx0 cx1 cx2
                  have hbv : Below wr.heap.size wr (wr.alloc (.cells #[.int .i64 (xk : Int), .int .i64 (xb1 : Int), .slice xa1 xv.length xc1] 52)) := below_alloc _ _
                  have hv0 : (wr.alloc (.cells #[.int .i64 (xk : Int), .int .i64 (xb1 : Int), .slice xa1 xv.length xc1] 52)).heap[wr.heap.size]? = some (.cells #[.int .i64 (xk : Int), .int .i64 (xb1 : Int), .slice xa1 xv.length xc1] 52 (0, 0)) := heap_alloc_new _ _
                  have d0 : (wr.alloc (.cells #[.int .i64 (xk : Int), .int .i64 (xb1 : Int), .slice xa1 xv.length xc1] 52)).cell? ⟨wr.heap.size, 0, none⟩ = some (.int .i64 (xk : Int)) := Cw.cell_new_at wr _ _ 0 _ rfl
                  have hsv : (wr.alloc (.cells #[.int .i64 (xk : Int), .int .i64 (xb1 : Int), .slice xa1 xv.length xc1] 52)).heap.size = wr.heap.size + 1 := by simp
                  have HRv := mkH (HRS.out.below hbv)
                  have HV1 := mkH hv0
                  have hg := get_sn HRv.out HTQ.out xk (by omega)
                  rw [hu1] at hg
                  clear hA1 hx hmem hat hbv hv0 rx
                  generalize xv.length = VL at *
                  go_wp2_with fail
                  generalize wr.alloc (.cells #[.int .i64 (xk : Int), .int .i64 (xb1 : Int), .slice xa1 VL xc1] 52) = wv at *
                  refine hg.mono ?_
                  rintro e w10 ⟨hgt, hb10⟩
                  obtain ⟨bb, cp, rfl, hrow, hlo, hcl, hcm⟩ := hgt
                  have hv1 : w10.heap[wr.heap.size]? = _ := (hb10.block _ (by omega)).trans HV1.out
                  have g1 : w10.cell? ⟨wr.heap.size, 1, none⟩ = some (.int .i64 (xb1 : Int)) := by rw [cell_of_row _ _ _ _ _ _ hv1]; rfl
                  have HRE := mkH (HRv.out.below hb10)
                  have b1 : ¬ (u.bal < xb1) := by omega
                  clear hg hb10 hv1 hrow cx0 cx1 cx2 d0 hu1 hu2
                  generalize u.val.length = UL at *
                  generalize u.bal = UB at *
                  go_wp2_with fail
                  exact ⟨⟨r + 1, by omega, by go_num, HRE⟩, by simp [intOf]; omega⟩
                · have hrn : r = ln := by omega
                  subst hrn
                  have hd2 : decide ((r : Int) < (r : Int)) = false := by simp
                  go_wp2_with fail
                  exact ⟨HEND.out _ _ _ HRS.out HTQ.out HDQ.out HUQ.out HP2.out, by simp [intOf]; omega⟩
        · have t1 : (kd == 1) = false := by simp [h1]
          by_cases h3 : kd = 3
          · subst h3
            have hups := up_nT HUP.out
            have HSS := mkH (snapshot_sn HSB.out HTI.out)
            have HTQ := mkH (HTI.out.nT.more (K := 50 + j + 1) (by omega))
            have HDQ := mkH (dn_nT HDN.out)
            have HUQ := mkH (hups.1)
            have HLE := mkH (hups.2)
            generalize nT t' = t2 at *
            clear hups
            go_wp2_with fail
            refine HSS.out.mono ?_
            rintro e w4 ⟨rfl, hq4⟩
            have HQ := mkH hq4
            clear hq4 HSS
            obtain ⟨P2, hP2⟩ : ∃ P2, (mm t2).pr = P2 := ⟨_, rfl⟩
            have hPle : P ≤ P2 := by have := HLE.out; have := HPP.out; omega
            have hnlt : ¬ (P2 < P) := by omega
            have HP2 := mkH hP2
            clear hP2
            go_wp2_with fail
            have hpm := promised_sn HQ.out
            rw [HP2.out] at hpm
            refine hpm.mono ?_
            rintro e w' ⟨rfl, hw⟩
            have hw2 := hw.symm
            subst hw2
            clear hw hpm
            go_wp2_with fail
            have hpm := promised_sn HQ.out
            rw [HP2.out] at hpm
            refine hpm.mono ?_
            rintro e w' ⟨rfl, hw⟩
            have hw2 := hw.symm
            subst hw2
            clear hw hpm
            go_wp2_with fail
            refine (has_any HQ.out HTQ.out).mono ?_
            rintro e w6 ⟨a2, c2x, l2, rfl, hs6, hm6, hb6⟩
            obtain ⟨ln2, hln2⟩ : ∃ ln2, l2.length = ln2 := ⟨_, rfl⟩
            have hln2b : ln2 ≤ 61 := by have h61 := HTQ.out.ok.len; rw [← hm6, List.length_map, hln2] at h61; exact h61
            have HLN2 := mkH hln2
            have HS6 := mkH hs6
            have HM6 := mkH hm6
            have HQ6 := mkH (HQ.out.more hb6)
            have HQ7 := mkH (HQ.out.below hb6)
            rw [hln2]
            clear hln2 hs6 hm6 hb6
            go_wp2_with fail
            go_loopw [92] (fun i W => ∃ q : Nat, q ≤ ln2 ∧ i = .int .i64 (q : Int) ∧ Hid (Below w6.heap.size w6 W)) (fun i _ => ln2 - (intOf i).toNat)
            case atStart => exact ⟨0, Nat.zero_le _, rfl, Below.refl _ _⟩
            case round =>
              obtain ⟨q, hq, rfl, HBQ⟩ := hrel
              rcases Nat.lt_or_ge q ln2 with hql | hql
              · have hA1 := HS6.out.below HBQ.out
                obtain ⟨g, x, rfl, hx, cx0, cx1, cx2, rx⟩ := hs_at hA1 (by rw [HLN2.out]; exact hql)
                have hmem : hV x ∈ (mm t2).sl := by rw [← HM6.out]; exact List.mem_map.2 ⟨x, List.mem_of_getElem? hx, rfl⟩
                have hok := (HTQ.out.ok.at' _ hmem).2.2.1
                obtain ⟨xk, xb1, xa1, xc1, xv⟩ := x
                simp only [hV] at hok
                rw [HP2.out] at hok
                simp only at cx0 cx1 cx2
                have hngt : ¬ (P2 < xb1) := by omega
                have HBN : ∀ o : Obj, Hid (Below w6.heap.size w6 (wr.alloc o)) := fun o => HBQ.out.trans ((below_alloc wr o).mono HBQ.out.size)
                clear hA1 hx hmem rx
                generalize xv.length = VL at *
                go_wp2_with fail
                exact ⟨⟨q + 1, by omega, by go_num, HBN _⟩, by simp [intOf]; omega⟩
              · have hqn : q = ln2 := by omega
                subst hqn
                have hd : decide ((q : Int) < (q : Int)) = false := by simp
                have HQ8 := mkH (HQ7.out.below HBQ.out)
                go_wp2_with fail
                go_loopw [103] (fun i W => ∃ r : Nat, r ≤ ln ∧ i = .int .i64 (r : Int) ∧ Hid (Sn w3 GG W S t2)) (fun i _ => ln - (intOf i).toNat)
                case atStart => exact ⟨0, Nat.zero_le _, rfl, HQ8⟩
                case round =>
                  clear HQ8
                  obtain ⟨r, hr, rfl, HRS⟩ := hrel
                  rcases Nat.lt_or_ge r ln with hrl | hrl
                  · have hA1 : Hs w2.heap.size wr (.slice a l.length c) l := HS3.out.keep (fun k h1 h2 => HRS.out.fr.heap h2 (fun x => x (HGL.out k h1 h2)))
                    obtain ⟨g, x, rfl, hx, cx0, cx1, cx2, rx⟩ := hs_at hA1 (by rw [HLN.out]; exact hrl)
                    have hmem : hV x ∈ (mm t).sl := by rw [← HM3.out]; exact List.mem_map.2 ⟨x, List.mem_of_getElem? hx, rfl⟩
                    have hat := mem_atS HI.out.ok.srt hmem
                    have hok := HI.out.ok.at' _ hmem
                    obtain ⟨u, hu1, hu2⟩ := HUQ.out.sl _ _ hat
                    obtain ⟨xk, xb1, xa1, xc1, xv⟩ := x
                    simp only [hV] at hok hu1 hu2
                    simp only at cx0 cx1 cx2
                    have hbv : Below wr.heap.size wr (wr.alloc (.cells #[.int .i64 (xk : Int), .int .i64 (xb1 : Int), .slice xa1 xv.length xc1] 52)) := below_alloc _ _
                    have hv0 : (wr.alloc (.cells #[.int .i64 (xk : Int), .int .i64 (xb1 : Int), .slice xa1 xv.length xc1] 52)).heap[wr.heap.size]? = some (.cells #[.int .i64 (xk : Int), .int .i64 (xb1 : Int), .slice xa1 xv.length xc1] 52 (0, 0)) := heap_alloc_new _ _
                    have d0 : (wr.alloc (.cells #[.int .i64 (xk : Int), .int .i64 (xb1 : Int), .slice xa1 xv.length xc1] 52)).cell? ⟨wr.heap.size, 0, none⟩ = some (.int .i64 (xk : Int)) := Cw.cell_new_at wr _ _ 0 _ rfl
                    have hsv : (wr.alloc (.cells #[.int .i64 (xk : Int), .int .i64 (xb1 : Int), .slice xa1 xv.length xc1] 52)).heap.size = wr.heap.size + 1 := by simp
                    have HRv := mkH (HRS.out.below hbv)
                    have HV1 := mkH hv0
                    have hg := get_sn HRv.out HTQ.out xk (by omega)
                    rw [hu1] at hg
                    clear hA1 hx hmem hat hbv hv0 rx
                    generalize xv.length = VL at *
                    go_wp2_with fail
                    generalize wr.alloc (.cells #[.int .i64 (xk : Int), .int .i64 (xb1 : Int), .slice xa1 VL xc1] 52) = wv at *
                    refine hg.mono ?_
                    rintro e w10 ⟨hgt, hb10⟩
                    obtain ⟨bb, cp, rfl, hrow, hlo, hcl, hcm⟩ := hgt
                    have hv1 : w10.heap[wr.heap.size]? = _ := (hb10.block _ (by omega)).trans HV1.out
                    have g1 : w10.cell? ⟨wr.heap.size, 1, none⟩ = some (.int .i64 (xb1 : Int)) := by rw [cell_of_row _ _ _ _ _ _ hv1]; rfl
                    have HRE := mkH (HRv.out.below hb10)
                    have b1 : ¬ (u.bal < xb1) := by omega
                    clear hg hb10 hv1 hrow cx0 cx1 cx2 d0 hu1 hu2
                    generalize u.val.length = UL at *
                    generalize u.bal = UB at *
                    go_wp2_with fail
                    exact ⟨⟨r + 1, by omega, by go_num, HRE⟩, by simp [intOf]; omega⟩
                  · have hrn : r = ln := by omega
                    subst hrn
                    have hd2 : decide ((r : Int) < (r : Int)) = false := by simp
                    go_wp2_with fail
                    exact ⟨HEND.out _ _ _ HRS.out HTQ.out HDQ.out HUQ.out HP2.out, by simp [intOf]; omega⟩
          · have t3 : (kd == 3) = false := by simp [h3]
            have HQ := HSB
            have HTQ := mkH (HTI.out.more (K := 50 + j + 1) (by omega))
            have HDQ := mkH (HDN.out)
            have HUQ := mkH (HUP.out)
            have HLE := mkH (Nat.le_refl (mm t').pr)
            generalize t' = t2 at *
            go_wp2_with fail
            obtain ⟨P2, hP2⟩ : ∃ P2, (mm t2).pr = P2 := ⟨_, rfl⟩
            have hPle : P ≤ P2 := by have := HLE.out; have := HPP.out; omega
            have hnlt : ¬ (P2 < P) := by omega
            have HP2 := mkH hP2
            clear hP2
            go_wp2_with fail
            have hpm := promised_sn HQ.out
            rw [HP2.out] at hpm
            refine hpm.mono ?_
            rintro e w' ⟨rfl, hw⟩
            have hw2 := hw.symm
            subst hw2
            clear hw hpm
            go_wp2_with fail
            have hpm := promised_sn HQ.out
            rw [HP2.out] at hpm
            refine hpm.mono ?_
            rintro e w' ⟨rfl, hw⟩
            have hw2 := hw.symm
            subst hw2
            clear hw hpm
            go_wp2_with fail
            refine (has_any HQ.out HTQ.out).mono ?_
            rintro e w6 ⟨a2, c2x, l2, rfl, hs6, hm6, hb6⟩
            obtain ⟨ln2, hln2⟩ : ∃ ln2, l2.length = ln2 := ⟨_, rfl⟩
            have hln2b : ln2 ≤ 61 := by have h61 := HTQ.out.ok.len; rw [← hm6, List.length_map, hln2] at h61; exact h61
            have HLN2 := mkH hln2
            have HS6 := mkH hs6
            have HM6 := mkH hm6
            have HQ6 := mkH (HQ.out.more hb6)
            have HQ7 := mkH (HQ.out.below hb6)
            rw [hln2]
            clear hln2 hs6 hm6 hb6
            go_wp2_with fail
            go_loopw [92] (fun i W => ∃ q : Nat, q ≤ ln2 ∧ i = .int .i64 (q : Int) ∧ Hid (Below w6.heap.size w6 W)) (fun i _ => ln2 - (intOf i).toNat)
            case atStart => exact ⟨0, Nat.zero_le _, rfl, Below.refl _ _⟩
            case round =>
              obtain ⟨q, hq, rfl, HBQ⟩ := hrel
              rcases Nat.lt_or_ge q ln2 with hql | hql
              · have hA1 := HS6.out.below HBQ.out
                obtain ⟨g, x, rfl, hx, cx0, cx1, cx2, rx⟩ := hs_at hA1 (by rw [HLN2.out]; exact hql)
                have hmem : hV x ∈ (mm t2).sl := by rw [← HM6.out]; exact List.mem_map.2 ⟨x, List.mem_of_getElem? hx, rfl⟩
                have hok := (HTQ.out.ok.at' _ hmem).2.2.1
                obtain ⟨xk, xb1, xa1, xc1, xv⟩ := x
                simp only [hV] at hok
                rw [HP2.out] at hok
                simp only at cx0 cx1 cx2
                have hngt : ¬ (P2 < xb1) := by omega
                have HBN : ∀ o : Obj, Hid (Below w6.heap.size w6 (wr.alloc o)) := fun o => HBQ.out.trans ((below_alloc wr o).mono HBQ.out.size)
                clear hA1 hx hmem rx
                generalize xv.length = VL at *
                go_wp2_with fail
                exact ⟨⟨q + 1, by omega, by go_num, HBN _⟩, by simp [intOf]; omega⟩
              · have hqn : q = ln2 := by omega
                subst hqn
                have hd : decide ((q : Int) < (q : Int)) = false := by simp
                have HQ8 := mkH (HQ7.out.below HBQ.out)
                go_wp2_with fail
                go_loopw [103] (fun i W => ∃ r : Nat, r ≤ ln ∧ i = .int .i64 (r : Int) ∧ Hid (Sn w3 GG W S t2)) (fun i _ => ln - (intOf i).toNat)
                case atStart => exact ⟨0, Nat.zero_le _, rfl, HQ8⟩
                case round =>
                  clear HQ8
                  obtain ⟨r, hr, rfl, HRS⟩ := hrel
                  rcases Nat.lt_or_ge r ln with hrl | hrl
                  · have hA1 : Hs w2.heap.size wr (.slice a l.length c) l := HS3.out.keep (fun k h1 h2 => HRS.out.fr.heap h2 (fun x => x (HGL.out k h1 h2)))
                    obtain ⟨g, x, rfl, hx, cx0, cx1, cx2, rx⟩ := hs_at hA1 (by rw [HLN.out]; exact hrl)
                    have hmem : hV x ∈ (mm t).sl := by rw [← HM3.out]; exact List.mem_map.2 ⟨x, List.mem_of_getElem? hx, rfl⟩
                    have hat := mem_atS HI.out.ok.srt hmem
                    have hok := HI.out.ok.at' _ hmem
                    obtain ⟨u, hu1, hu2⟩ := HUQ.out.sl _ _ hat
                    obtain ⟨xk, xb1, xa1, xc1, xv⟩ := x
                    simp only [hV] at hok hu1 hu2
                    simp only at cx0 cx1 cx2
                    have hbv : Below wr.heap.size wr (wr.alloc (.cells #[.int .i64 (xk : Int), .int .i64 (xb1 : Int), .slice xa1 xv.length xc1] 52)) := below_alloc _ _
                    have hv0 : (wr.alloc (.cells #[.int .i64 (xk : Int), .int .i64 (xb1 : Int), .slice xa1 xv.length xc1] 52)).heap[wr.heap.size]? = some (.cells #[.int .i64 (xk : Int), .int .i64 (xb1 : Int), .slice xa1 xv.length xc1] 52 (0, 0)) := heap_alloc_new _ _
                    have d0 : (wr.alloc (.cells #[.int .i64 (xk : Int), .int .i64 (xb1 : Int), .slice xa1 xv.length xc1] 52)).cell? ⟨wr.heap.size, 0, none⟩ = some (.int .i64 (xk : Int)) := Cw.cell_new_at wr _ _ 0 _ rfl
                    have hsv : (wr.alloc (.cells #[.int .i64 (xk : Int), .int .i64 (xb1 : Int), .slice xa1 xv.length xc1] 52)).heap.size = wr.heap.size + 1 := by simp
                    have HRv := mkH (HRS.out.below hbv)
                    have HV1 := mkH hv0
                    have hg := get_sn HRv.out HTQ.out xk (by omega)
                    rw [hu1] at hg
                    clear hA1 hx hmem hat hbv hv0 rx
                    generalize xv.length = VL at *
                    go_wp2_with fail
                    generalize wr.alloc (.cells #[.int .i64 (xk : Int), .int .i64 (xb1 : Int), .slice xa1 VL xc1] 52) = wv at *
                    refine hg.mono ?_
                    rintro e w10 ⟨hgt, hb10⟩
                    obtain ⟨bb, cp, rfl, hrow, hlo, hcl, hcm⟩ := hgt
                    have hv1 : w10.heap[wr.heap.size]? = _ := (hb10.block _ (by omega)).trans HV1.out
                    have g1 : w10.cell? ⟨wr.heap.size, 1, none⟩ = some (.int .i64 (xb1 : Int)) := by rw [cell_of_row _ _ _ _ _ _ hv1]; rfl
                    have HRE := mkH (HRv.out.below hb10)
                    have b1 : ¬ (u.bal < xb1) := by omega
                    clear hg hb10 hv1 hrow cx0 cx1 cx2 d0 hu1 hu2
                    generalize u.val.length = UL at *
                    generalize u.bal = UB at *
                    go_wp2_with fail
                    exact ⟨⟨r + 1, by omega, by go_num, HRE⟩, by simp [intOf]; omega⟩
                  · have hrn : r = ln := by omega
                    subst hrn
                    have hd2 : decide ((r : Int) < (r : Int)) = false := by simp
                    go_wp2_with fail
                    exact ⟨HEND.out _ _ _ HRS.out HTQ.out HDQ.out HUQ.out HP2.out, by simp [intOf]; omega⟩
end Go.Proofs.YthmedpabgblddaaGreatDoor.Tri
