/-
  StoreForgets.
-/
import Derived.Test.YthmedpabgblddabGreatDoorJnD
namespace Go.Proofs.YthmedpabgblddabGreatDoor.Tfo
open Go.RowKit Kt Dk Dp Da Dc De Tp Tm Pl Cs Cf Cn Cv Sq Sr Sa Sb Sc Se St Sv Rd Wr Ta Tb0 Tc Td Te Tf Tg Tt Th Ti Tj Tk Tl Tn To Tx Tw Ty Go.Maps
set_option linter.unusedVariables false
set_option maxRecDepth 20000

theorem filt_at {α : Type} (P : α → Bool) (L : List α) (j : Nat) (x : α) (hx : L[j]? = some x) :
    (P x = true → (L.filter P)[((L.take j).filter P).length]? = some x ∧ ((L.take (j + 1)).filter P).length = ((L.take j).filter P).length + 1) ∧ (P x = false → ((L.take (j + 1)).filter P).length = ((L.take j).filter P).length) := by
  have hj := (List.getElem?_eq_some_iff.1 hx).1
  have e1 : L.take (j + 1) = L.take j ++ [x] := by rw [List.take_add_one, hx]; rfl
  have e2 : L = L.take j ++ (x :: L.drop (j + 1)) := by
    have h1 := (List.take_append_drop j L).symm
    rw [List.drop_eq_getElem_cons hj] at h1
    have h2 : L[j] = x := by have := (List.getElem?_eq_some_iff.1 hx).2; exact this
    rw [h2] at h1
    exact h1
  refine ⟨fun hp => ⟨?_, ?_⟩, fun hp => ?_⟩
  · have e3 : L.filter P = (L.take j).filter P ++ (x :: (L.drop (j + 1)).filter P) := by
      conv => lhs; rw [e2]
      rw [List.filter_append, List.filter_cons_of_pos hp]
    rw [e3, List.getElem?_append_right (Nat.le_refl _), Nat.sub_self]
    rfl
  · rw [e1, List.filter_append, List.filter_cons_of_pos hp]
    simp
  · rw [e1, List.filter_append, List.filter_cons_of_neg (by simp [hp])]
    simp
/-- What a forgetting leaves. -/
theorem forgot {t : Tt.T} {N : Nat} (hi : TI N t) (hd : dn t = false) (n : Nat) :
    fE t = 0 ∧ (mm (fT t n)).ba = max (mm t).ba n ∧ (mm (fT t n)).pr = (mm t).pr ∧ (mm (fT t n)).sl = (mm t).sl.filter (fun p => decide (n ≤ p.1)) ∧ dn (fT t n) = false := by
  have h0 : fE t = 0 := by unfold fE; rw [hd]; rfl
  refine ⟨h0, ?_⟩
  unfold fT
  by_cases hb : (mm t).ba < n
  · have hm : max (mm t).ba n = n := by omega
    rw [if_pos ⟨h0, hb⟩, mm_wr, dn_wr]
    simp only [ap, hm]
    exact ⟨trivial, trivial, trivial, hd⟩
  · have hm : max (mm t).ba n = (mm t).ba := by omega
    rw [if_neg (fun x => hb x.2), hm]
    refine ⟨rfl, rfl, (List.filter_eq_self.2 fun p hp => ?_).symm, hd⟩
    have := (hi.ok.at' p hp).1
    simp
    omega
theorem old {t : Tt.T} {N : Nat} (hi : TI N t) (hd : dn t = false) {s : Nat} (hs : s < (mm t).ba) (v : List UInt8) : aE t s ((mm t).pr : Int) = 16 ∧ aT t s ((mm t).pr : Int) v = t := by
  have h1 : isNm ((mm t).pr : Int) = true := by
    have := hi.ok.pr
    simp only [isNm, decide_eq_true_eq]
    omega
  have h2 : aE t s ((mm t).pr : Int) = 16 := by
    unfold aE
    rw [hd, if_neg (by simp), h1, if_neg (by simp), if_pos (.inr hs)]
  refine ⟨h2, ?_⟩
  unfold aT
  rw [h2, if_neg (by decide)]

set_option maxHeartbeats 8000000 in
theorem forgets_any (w : World) (hT : Tb w) (per : Int) (ao : Option Addr) (cap : Nat) (la : List Ac) (hr : RowA w ao la) (hl : la.length ≤ cap) (hc : cap ≤ 9223372036854775807) (n0 : Int) :
    Calls Tryz.prog 3 #[.int .i64 per, .slice ao la.length cap, .int .i64 n0] w fun e w' => e = .returned (.bool true) ∧ Below w.heap.size w w' := by
  obtain ⟨n, hn45, hnn⟩ := mod_is n0 45 (by omega) (by omega)
  have hp := plays_any w hT per ao cap la hr hl hc
  have HP := mkH hp
  clear hp hT hr
  generalize la.length = LA at *
  go_enter Tryz.func3, Tryz.ntmps3
  go_wp2_with fail
  refine HP.out.mono ?_
  rintro e w2 ⟨S, t, rfl, hd, hi, h1⟩
  have H2 := mkH h1
  have HI := mkH hi
  have HD := mkH hd
  clear h1 hi hd HP
  go_wp2_with fail
  have hh := has_any H2.out HI.out
  refine hh.mono ?_
  rintro e w3 ⟨a, c, l, rfl, hs3, hm3, hb3⟩
  have h3 := H2.out.more hb3
  have hbw3 : Below w.heap.size w w3 := (H2.out.toBelow (fun k hk => hk)).trans (hb3.mono H2.out.size)
  have hs03 : w.heap.size ≤ w3.heap.size := hbw3.size
  have HS3 := mkH hs3
  have HM3 := mkH hm3
  have H3 := mkH h3
  have HBW := mkH hbw3
  clear hh hs3 hm3 h3 hb3 H2 hbw3
  obtain ⟨ln, hln⟩ : ∃ ln, l.length = ln := ⟨_, rfl⟩
  have hln61 : ln ≤ 61 := by have h61 := HI.out.ok.len; rw [← HM3.out, List.length_map, hln] at h61; exact h61
  have HLN := mkH hln
  rw [hln]
  clear hln
  obtain ⟨GG, hGG⟩ : ∃ GG : Nat → Prop, (fun k => k < w.heap.size ∨ w2.heap.size ≤ k ∧ k < w3.heap.size) = GG := ⟨_, rfl⟩
  rw [hGG] at H3
  have HGW : Hid (∀ k, k < w.heap.size → GG k) := fun k hk => by rw [← hGG]; exact .inl hk
  have HGL : Hid (∀ k, w2.heap.size ≤ k → k < w3.heap.size → GG k) := fun k h1 h2 => by rw [← hGG]; exact .inr ⟨h1, h2⟩
  clear hGG
  obtain ⟨PR, hPR⟩ : ∃ PR, (mm t).pr = PR := ⟨_, rfl⟩
  obtain ⟨BA, hBA⟩ : ∃ BA, (mm t).ba = BA := ⟨_, rfl⟩
  have hPRl : PR ≤ 1099511627776 := by have := HI.out.ok.pr; omega
  have hBAl : BA ≤ 1099511627776 := by have := HI.out.ok.ba; omega
  have HPR := mkH hPR
  have HBA := mkH hBA
  clear hPR hBA
  obtain ⟨hf1, hf2, hf3, hf4, hf5⟩ := forgot HI.out HD.out n
  rw [HBA.out] at hf2
  rw [HPR.out] at hf3
  rw [← HM3.out] at hf4
  have HF1 := mkH hf1
  have HF2 := mkH hf2
  have HF3 := mkH hf3
  have HF4 := mkH hf4
  have HF5 := mkH hf5
  have HTF := mkH (HI.out.fT (by omega) (n := n) (by omega))
  have HFS := mkH (fun W (h : Sn w3 GG W S t) => forget_sn h HI.out (by omega) n (by omega))
  rw [hf1] at HFS
  clear hf1 hf2 hf3 hf4 hf5
  generalize fT t n = t1 at *
  go_wp2_with fail
  have hbs := base_sn H3.out
  rw [HBA.out] at hbs
  refine hbs.mono ?_
  rintro e w' ⟨rfl, hw⟩
  have hw2 := hw.symm
  subst hw2
  clear hw hbs
  go_wp2_with fail
  have hpm := promised_sn H3.out
  rw [HPR.out] at hpm
  refine hpm.mono ?_
  rintro e w' ⟨rfl, hw⟩
  have hw2 := hw.symm
  subst hw2
  clear hw hpm
  go_wp2_with fail
  refine (HFS.out _ H3.out).mono ?_
  rintro e w4 ⟨rfl, h4⟩
  have H4 := mkH h4
  clear h4 HFS H3
  have hmx : max (BA : Int) (n : Int) = ((max BA n : Nat) : Int) := by omega
  generalize max BA n = MB at *
  go_wp2_with fail
  have hbs := base_sn H4.out
  rw [HF2.out] at hbs
  refine hbs.mono ?_
  rintro e w' ⟨rfl, hw⟩
  have hw2 := hw.symm
  subst hw2
  clear hw hbs
  go_wp2_with fail
  have hpm := promised_sn H4.out
  rw [HF3.out] at hpm
  refine hpm.mono ?_
  rintro e w' ⟨rfl, hw⟩
  have hw2 := hw.symm
  subst hw2
  clear hw hpm
  go_wp2_with fail
  have hh := has_any H4.out HTF.out
  rw [HF4.out] at hh
  refine hh.mono ?_
  rintro e w6 ⟨a2, c2, l2, rfl, hs6, hm6, hb6⟩
  obtain ⟨ln2, hln2⟩ : ∃ ln2, l2.length = ln2 := ⟨_, rfl⟩
  have hln2b : ln2 ≤ 61 := by have h61 := HTF.out.ok.len; rw [HF4.out, ← hm6, List.length_map, hln2] at h61; exact h61
  have HLN2 := mkH hln2
  have h6 := H4.out.below hb6
  have hA : Hs w2.heap.size w6 (.slice a l.length c) l := (HS3.out.keep (fun k h1 h2 => H4.out.fr.heap h2 (fun x => x (HGL.out k h1 h2)))).below hb6
  have HS6 := mkH hs6
  have HM6 := mkH hm6
  have H6 := mkH h6
  have HA := mkH hA
  rw [hln2]
  clear hln2 hs6 hm6 h6 hA hh hb6 H4 HS3
  go_wp2_with fail
  go_loopw [12, 52] (fun kv i W => ∃ j q : Nat, j ≤ ln ∧ i = .int .i64 (j : Int) ∧ kv = .int .i64 (q : Int) ∧ Hid ((((l.map hV).take j).filter (fun p => decide (n ≤ p.1))).length = q ∧ Hs w2.heap.size W (.slice a l.length c) l ∧ Hs w4.heap.size W (.slice a2 l2.length c2) l2 ∧ Sn w3 GG W S t1)) (fun _ i _ => ln - (intOf i).toNat)
  case atStart => exact ⟨0, 0, Nat.zero_le _, rfl, rfl, by simp, HA.out, HS6.out, H6.out⟩
  case round =>
    clear HA HS6 H6
    obtain ⟨j, q, hj, rfl, rfl, HR⟩ := hrel
    rcases Nat.lt_or_ge j ln with hjl | hjl
    · obtain ⟨g, x, rfl, hx, cx0, cx1, cx2, rx⟩ := hs_at HR.out.2.1 (by rw [HLN.out]; exact hjl)
      have hxV : (l.map hV)[j]? = some (hV x) := by rw [List.getElem?_map, hx]; rfl
      have hfa := filt_at (fun p : Nat × V => decide (n ≤ p.1)) _ j _ hxV
      have hbv : Below wr.heap.size wr (wr.alloc (.cells #[.int .i64 (x.k : Int), .int .i64 (x.bal : Int), .slice x.ao x.val.length x.cap] 32)) := below_alloc _ _
      have hv0 : (wr.alloc (.cells #[.int .i64 (x.k : Int), .int .i64 (x.bal : Int), .slice x.ao x.val.length x.cap] 32)).heap[wr.heap.size]? = some (.cells #[.int .i64 (x.k : Int), .int .i64 (x.bal : Int), .slice x.ao x.val.length x.cap] 32 (0, 0)) := heap_alloc_new _ _
      have k0 : (wr.alloc (.cells #[.int .i64 (x.k : Int), .int .i64 (x.bal : Int), .slice x.ao x.val.length x.cap] 32)).cell? ⟨wr.heap.size, 0, none⟩ = some (.int .i64 (x.k : Int)) := by rw [cell_of_row _ _ _ _ _ _ hv0]; rfl
      have k1 : (wr.alloc (.cells #[.int .i64 (x.k : Int), .int .i64 (x.bal : Int), .slice x.ao x.val.length x.cap] 32)).cell? ⟨wr.heap.size, 1, none⟩ = some (.int .i64 (x.bal : Int)) := by rw [cell_of_row _ _ _ _ _ _ hv0]; rfl
      have k2 : (wr.alloc (.cells #[.int .i64 (x.k : Int), .int .i64 (x.bal : Int), .slice x.ao x.val.length x.cap] 32)).cell? ⟨wr.heap.size, 2, none⟩ = some (.slice x.ao x.val.length x.cap) := by rw [cell_of_row _ _ _ _ _ _ hv0]; rfl
      have hA2 := HR.out.2.2.1.below hbv
      have HA1 := mkH (HR.out.2.1.below hbv)
      have HA2 := mkH hA2
      have HA3 := mkH (HR.out.2.2.2.below hbv)
      have rv := rx.below hbv
      by_cases hk : x.k < n
      · have hq1 := hfa.2 (decide_eq_false (show ¬ n ≤ x.k by omega))
        rw [HR.out.1] at hq1
        have hki : (x.k : Int) < (n : Int) := by omega
        have HQ := mkH hq1
        clear hq1 hfa hxV hx rx rv hA2 hbv hv0 HR hk
        obtain ⟨xk, xb, xa, xc, xv⟩ := x
        simp only at cx0 cx1 cx2 k0 k1 k2 hki HA1 HA2 HA3
        generalize xv.length = VL at *
        generalize hWv : wr.alloc (.cells #[.int .i64 (xk : Int), .int .i64 (xb : Int), .slice xa VL xc] 32) = wv at *
        go_wp2_with fail
        exact ⟨⟨j + 1, q, by omega, by go_num, rfl, HQ.out, HA1.out, HA2.out, HA3.out⟩, by simp [intOf]; omega⟩
      · obtain ⟨hq1, hq2⟩ := hfa.1 (decide_eq_true (show n ≤ x.k by omega))
        rw [HR.out.1] at hq1 hq2
        rw [← HM6.out, List.getElem?_map] at hq1
        obtain ⟨y, hy, hyV⟩ : ∃ y, l2[q]? = some y ∧ hV y = hV x := by
          cases e : l2[q]? with
          | none => rw [e] at hq1; cases hq1
          | some y => rw [e] at hq1; exact ⟨y, rfl, Option.some.inj hq1⟩
        have hql : q < l2.length := (List.getElem?_eq_some_iff.1 hy).1
        obtain ⟨g2, y', rfl, hy', cy0, cy1, cy2, ry⟩ := hs_at hA2 hql
        have hyy : y' = y := Option.some.inj (hy'.symm.trans hy)
        subst hyy
        simp only [hV, Prod.mk.injEq, V.mk.injEq] at hyV
        obtain ⟨q1, q2, q3⟩ := hyV
        rw [q1] at cy0
        rw [q2] at cy1
        rw [q3] at cy2 ry
        have s1 := strN rv x.cap
        have s2 := strN ry y'.cap
        have hki : ¬ ((x.k : Int) < (n : Int)) := by omega
        have hqi : (q : Int) < (ln2 : Int) := by rw [HLN2.out] at hql; omega
        have hqn : ¬ ((ln2 : Int) ≤ (q : Int)) := by omega
        have hqd : decide ((ln2 : Int) ≤ (q : Int)) = false := by simp; omega
        have hn1 : ¬ (ln2 ≤ q) := by omega
        have hn2 : decide (ln2 ≤ q) = false := by simp; omega
        have hn3 : q < ln2 := by omega
        have hn4 : (ln2 : Int) > (q : Int) := by omega
        have hn5 : decide ((q : Int) ≥ (ln2 : Int)) = false := by simp; omega
        have HQ := mkH hq2
        clear hq1 hq2 hy hy' hfa hxV hx rx rv hA2 hbv hv0 HR hk q1 q2 q3 ry hql
        rw [HLN2.out] at HA2
        generalize x.val.length = VL at *
        generalize Kt.S x.val = SV at *
        obtain ⟨xk, xb, xa, xc, xv⟩ := x
        obtain ⟨yk, yb, ya, yc, yv⟩ := y'
        simp only at cx0 cx1 cx2 k0 k1 k2 cy0 cy1 cy2 s1 s2 hki HA1 HA2 HA3
        generalize hWv : wr.alloc (.cells #[.int .i64 (xk : Int), .int .i64 (xb : Int), .slice xa VL xc] 32) = wv at *
        go_wp2_with fail
        go_quiet (fail)
        go_wp2
        go_roundw
        case rel => exact ⟨j + 1, q + 1, by omega, by go_num, by go_num, HQ.out, HA1.out.keep (fun _ _ _ => rfl), by rw [HLN2.out]; exact HA2.out.keep (fun _ _ _ => rfl), HA3.out.below (below_drewN (Below.refl _ _) _)⟩
        case measure => simp [intOf]; omega
    · have hjn : j = ln := by omega
      have hqe : q = ln2 := by
        have h1 := HR.out.1
        rw [List.take_of_length_le (by rw [List.length_map, HLN.out]; omega), ← HM6.out, List.length_map, HLN2.out] at h1
        exact h1.symm
      subst hjn
      subst hqe
      have hd : decide ((j : Int) < (j : Int)) = false := by simp
      have HX := mkH HR.out.2.2.2
      have hb : Below w.heap.size w wr := HBW.out.trans (HX.out.toBelow HGW.out)
      have HB := mkH hb
      clear HR hb
      by_cases hn0 : 0 < n
      · have hz1 : (0 : Int) < (n : Int) := by omega
        have hz3 : decide ((0 : Int) < (n : Int)) = true := by simp; omega
        have hz4 : decide (0 < n) = true := by simp; omega
        have hw1 : wrap64 ((n : Int) - 1) = (n : Int) - 1 := by unfold wrap64; omega
        have hob := old HTF.out HF5.out (s := n - 1) (by rw [HF2.out]; omega) []
        rw [HF3.out] at hob
        have ha := accept_sn HX.out HTF.out (by omega) (n - 1) (by omega) (PR : Int) none 0 [] (fun h => absurd h (by simp)) (by simp)
        rw [hob.1, hob.2, show ((n - 1 : Nat) : Int) = (n : Int) - 1 by omega] at ha
        have HAC := mkH ha
        clear hob ha
        go_wp2_with fail
        refine HAC.out.mono ?_
        rintro e w6' ⟨rfl, h6⟩
        clear HX HAC
        have HX := mkH h6
        clear h6
        go_wp2_with fail
        have hs := sync_sn HX.out HTF.out
        have e1 : yE t1 = 0 := by simp [yE, HF5.out]
        rw [e1] at hs
        refine hs.mono ?_
        rintro e w7 ⟨rfl, h7⟩
        have H7 := mkH h7
        clear h7 hs e1 HX
        go_wp2_with fail
        have hcr := crash_sn H7.out HTF.out.sy 0 0 (by omega)
        have e2 : cE (sy t1) 0 = 0 := by unfold cE; rw [dn_sy, HF5.out, if_neg (by simp), if_neg (by omega)]
        rw [e2] at hcr
        refine hcr.mono ?_
        rintro e w8 ⟨rfl, h8⟩
        have H8 := mkH h8
        have hdn8 : dn (cr (sy t1) 0 0) = true := dn_cr (by rw [dn_sy]; exact HF5.out) (by omega) 0
        have HD8 := mkH hdn8
        have HI8 := mkH (HTF.out.sy.cr 0 0)
        clear h8 hcr e2 hdn8 H7
        go_wp2_with fail
        have hrs := restart_sn H8.out HI8.out (by omega)
        have e5 : rE (cr (sy t1) 0 0) = 0 := by unfold rE; rw [HD8.out]; rfl
        rw [e5] at hrs
        refine hrs.mono ?_
        rintro e w9 ⟨rfl, h9⟩
        have H9 := mkH h9
        clear h9 hrs e5 H8
        have HSY := mkH (synced HTF.out HF5.out 0 0)
        go_wp2_with fail
        have hbs := base_sn H9.out
        rw [HSY.out, HF2.out] at hbs
        refine hbs.mono ?_
        rintro e w' ⟨rfl, hw⟩
        have hw2 := hw.symm
        subst hw2
        clear hw hbs
        go_wp2_with fail
        refine (works_any _ H9.out.tbw).mono ?_
        rintro e w11 ⟨rfl, hb11⟩
        have HB11 := mkH hb11
        clear hb11
        go_wp2
        go_ret
        have h39 := H9.out.toBelow HGW.out
        exact ⟨rfl, HBW.out.trans (h39.trans (HB11.out.mono (by have := h39.size; omega)))⟩
      · have hz1 : ¬ ((0 : Int) < (n : Int)) := by omega
        have hz3 : decide ((0 : Int) < (n : Int)) = false := by simp; omega
        have hz4 : decide (0 < n) = false := by simp; omega
        go_wp2_with fail
        have hs := sync_sn HX.out HTF.out
        have e1 : yE t1 = 0 := by simp [yE, HF5.out]
        rw [e1] at hs
        refine hs.mono ?_
        rintro e w7 ⟨rfl, h7⟩
        have H7 := mkH h7
        clear h7 hs e1 HX
        go_wp2_with fail
        have hcr := crash_sn H7.out HTF.out.sy 0 0 (by omega)
        have e2 : cE (sy t1) 0 = 0 := by unfold cE; rw [dn_sy, HF5.out, if_neg (by simp), if_neg (by omega)]
        rw [e2] at hcr
        refine hcr.mono ?_
        rintro e w8 ⟨rfl, h8⟩
        have H8 := mkH h8
        have hdn8 : dn (cr (sy t1) 0 0) = true := dn_cr (by rw [dn_sy]; exact HF5.out) (by omega) 0
        have HD8 := mkH hdn8
        have HI8 := mkH (HTF.out.sy.cr 0 0)
        clear h8 hcr e2 hdn8 H7
        go_wp2_with fail
        have hrs := restart_sn H8.out HI8.out (by omega)
        have e5 : rE (cr (sy t1) 0 0) = 0 := by unfold rE; rw [HD8.out]; rfl
        rw [e5] at hrs
        refine hrs.mono ?_
        rintro e w9 ⟨rfl, h9⟩
        have H9 := mkH h9
        clear h9 hrs e5 H8
        have HSY := mkH (synced HTF.out HF5.out 0 0)
        go_wp2_with fail
        have hbs := base_sn H9.out
        rw [HSY.out, HF2.out] at hbs
        refine hbs.mono ?_
        rintro e w' ⟨rfl, hw⟩
        have hw2 := hw.symm
        subst hw2
        clear hw hbs
        go_wp2_with fail
        refine (works_any _ H9.out.tbw).mono ?_
        rintro e w11 ⟨rfl, hb11⟩
        have HB11 := mkH hb11
        clear hb11
        go_wp2
        go_ret
        have h39 := H9.out.toBelow HGW.out
        exact ⟨rfl, HBW.out.trans (h39.trans (HB11.out.mono (by have := h39.size; omega)))⟩
end Go.Proofs.YthmedpabgblddabGreatDoor.Tfo
