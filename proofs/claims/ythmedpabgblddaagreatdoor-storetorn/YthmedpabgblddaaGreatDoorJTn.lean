/-
  StoreTorn.
-/
import Derived.Test.YthmedpabgblddaaGreatDoorJnD
namespace Go.Proofs.YthmedpabgblddaaGreatDoor.Ttn
open Go.RowKit Kt Dk Dp Da Dc De Tp Tm Pl Cs Cf Cn Cv Sq Sr Sa Sb Sc Se St Sv Rd Wr Ta Tb0 Tc Td Te Tf Tg Tt Th Ti Tj Tk Tl Tn To Tx Tw Ty Go.Maps
set_option linter.unusedVariables false
set_option maxRecDepth 20000

/-- What may stand behind the sync. -/
def Gx (m : M) (r : Rc) : Prop := r = .ac 1 m.pr [97] ∨ r = .ac 50 m.pr [98] ∨ ∃ b, r = .pm b
/-- What a store may have that had m when it was synced. -/
structure Ra (m n : M) : Prop where
  pr : m.pr ≤ n.pr
  ba : n.ba = m.ba
  sl : ∀ k v, atS m.sl k = some v → ∃ u, atS n.sl k = some u ∧ v.bal ≤ u.bal ∧ (k ≠ 1 → u = v)
  fi : ∀ u, atS n.sl 50 = some u → u.val = [98]
theorem ra_ap {m n : M} (ho : OkM m) (hlo : loM m) (h : Ra m n) {r : Rc} (hr : Gx m r) : Ra m (ap n r) := by
  have hpr := h.pr
  rcases hr with rfl | rfl | ⟨b, rfl⟩
  · refine ⟨by simp only [ap]; omega, h.ba, fun k v hv => ?_, fun u hu => ?_⟩
    · simp only [ap, atS_put]
      by_cases e : k = 1
      · subst e
        rw [if_pos rfl]
        exact ⟨_, rfl, (ho.at' _ (atS_mem hv)).2.2.1, fun x => (x rfl).elim⟩
      · rw [if_neg e]
        exact h.sl k v hv
    · simp only [ap, atS_put] at hu
      rw [if_neg (by omega)] at hu
      exact h.fi u hu
  · refine ⟨by simp only [ap]; omega, h.ba, fun k v hv => ?_, fun u hu => ?_⟩
    · have hk := hlo _ (atS_mem hv)
      simp only at hk
      simp only [ap, atS_put]
      rw [if_neg (by omega)]
      exact h.sl k v hv
    · simp only [ap, atS_put] at hu
      rw [if_pos trivial] at hu
      cases hu
      rfl
  · exact ⟨by simp only [ap]; omega, h.ba, h.sl, h.fi⟩
theorem ra_rp {m : M} (ho : OkM m) (hlo : loM m) : ∀ {l : List Rc} {n : M}, Ra m n → (∀ r ∈ l, Gx m r) → Ra m (rp n l)
  | [], n, h, _ => h
  | r :: l, n, h, hr => by
    have := ra_rp ho hlo (l := l) (n := ap n r) (ra_ap ho hlo h (hr r (by simp))) (fun x hx => hr x (by simp [hx]))
    exact this
theorem ra_self {m : M} (hlo : loM m) : Ra m m := ⟨Nat.le_refl _, rfl, fun k v hv => ⟨v, hv, Nat.le_refl _, fun _ => rfl⟩, fun u hu => by have := hlo _ (atS_mem hu); simp only at this; omega⟩
theorem pr_rp : ∀ (l : List Rc) (m : M), m.pr ≤ (rp m l).pr
  | [], m => Nat.le_refl _
  | r :: l, m => by
    have h1 := pr_rp l (ap m r)
    have h2 : m.pr ≤ (ap m r).pr := by cases r <;> simp only [ap] <;> omega
    exact Nat.le_trans h2 h1
/-- t' has, behind the records of t, only such. -/
structure Bh (t t' : Tt.T) : Prop where
  ex : ∃ l, t'.rl = t.rl ++ l ∧ ∀ r ∈ l, Gx (mm t) r
  s0 : Tt.s0 t' = Tt.s0 t
  sf : safeN t' = t.rl.length
  dn : dn t' = false
theorem Bh.pr {t t' : Tt.T} (h : Bh t t') : (mm t).pr ≤ (mm t').pr := by
  obtain ⟨l, e, -⟩ := h.ex
  unfold mm
  rw [h.s0, e, rp_app]
  exact pr_rp _ _
theorem Bh.ba {t t' : Tt.T} {N : Nat} (h : Bh t t') (hi : TJ N t) : (mm t').ba = (mm t).ba := by
  obtain ⟨l, e, hl⟩ := h.ex
  have := (ra_rp hi.ti.ok hi.lo (ra_self hi.lo) hl).ba
  unfold mm at this ⊢
  rw [h.s0, e, rp_app]
  exact this
theorem Bh.wr {t t' : Tt.T} (h : Bh t t') {r : Rc} (hr : Gx (mm t) r) : Bh t (Tt.wr t' r) := by
  obtain ⟨l, e, hl⟩ := h.ex
  refine ⟨⟨l ++ [r], by simp only [Tt.wr, e, List.append_assoc], fun x hx => ?_⟩, h.s0, by rw [safe_wr]; exact h.sf, by rw [dn_wr]; exact h.dn⟩
  rcases List.mem_append.1 hx with x | x
  · exact hl _ x
  · simp only [List.mem_singleton] at x; subst x; exact hr
theorem Bh.aT {t t' : Tt.T} (h : Bh t t') {s : Nat} {v : List UInt8} (hr : Gx (mm t) (.ac s (mm t).pr v)) : Bh t (Tt.aT t' s ((mm t).pr : Int) v) := by
  unfold Tt.aT
  split
  · exact h.wr (by simpa using hr)
  · exact h
theorem Bh.pT {t t' : Tt.T} (h : Bh t t') (b : Int) : Bh t (Tt.pT t' b) := by
  unfold Tt.pT
  split
  · exact h.wr (.inr (.inr ⟨_, rfl⟩))
  · exact h
theorem bh_sy {t : Tt.T} {N : Nat} (hi : TI N t) (hd : Tt.dn t = false) : Bh t (sy t) := ⟨⟨[], by simp [sy], fun r hr => by cases hr⟩, rfl, safe_sy hi hd, by rw [dn_sy]; exact hd⟩
/-- Behind a crash. -/
theorem torn {t t' : Tt.T} {N K : Nat} (h : Bh t t') (hi : TJ N t) (hi' : TI K t') (k f : Int) : Ra (mm t) (mm (Tt.rs (cr t' k f))) ∧ (mm (Tt.rs (cr t' k f))).pr ≤ (mm t').pr := by
  obtain ⟨j, h1, h2, h3, h4⟩ := rs_take (hi'.cr k f)
  rw [safe_cr, h.sf] at h1
  obtain ⟨l, e, hl⟩ := h.ex
  have e1 : (cr t' k f).rl = t.rl ++ l := e
  have e2 : Tt.s0 (cr t' k f) = Tt.s0 t := h.s0
  have e3 : (t.rl ++ l).take j = t.rl ++ l.take (j - t.rl.length) := by
    rw [List.take_append, List.take_of_length_le h1]
  have e4 : mm (Tt.rs (cr t' k f)) = rp (mm t) (l.take (j - t.rl.length)) := by
    unfold mm
    rw [h3, h4, e1, e2, e3, rp_app]
  have e5 : mm t' = rp (mm t) l := by
    unfold mm
    rw [h.s0, e, rp_app]
  rw [e4, e5]
  refine ⟨ra_rp hi.ti.ok hi.lo (ra_self hi.lo) (fun r hr => hl r (List.mem_of_mem_take hr)), ?_⟩
  have : rp (mm t) l = rp (rp (mm t) (l.take (j - t.rl.length))) (l.drop (j - t.rl.length)) := by rw [← rp_app, List.take_append_drop]
  rw [this]
  exact pr_rp _ _
theorem promise_same {t : Tt.T} {N : Nat} (hi : TI N t) (hd : Tt.dn t = false) : pE t ((mm t).pr : Int) = 0 ∧ Tt.pT t ((mm t).pr : Int) = t := by
  have h1 := hi.ok.pr
  have e : pE t ((mm t).pr : Int) = 0 := by
    unfold pE
    rw [hd, if_neg (by simp), if_neg (by simp [isNm]; omega), if_neg (by omega)]
  exact ⟨e, by unfold Tt.pT; rw [if_neg (fun x => x.2 rfl)]⟩

set_option maxRecDepth 100000 in
set_option maxHeartbeats 8000000 in
theorem torn_any (w : World) (hT : Tb w) (per : Int) (ao : Option Addr) (cap : Nat) (la : List Ac) (hr : RowA w ao la) (hl : la.length ≤ cap) (hc : cap ≤ 9223372036854775807) (k f : Int) (hf : f ≤ 9223372036854775807) :
    Calls Tryz.prog 7 #[.int .i64 per, .slice ao la.length cap, .agg #[.int .i64 k, .int .i64 f]] w fun e w' => e = .returned (.bool true) ∧ Below w.heap.size w w' := by
  have kd := fun (w : World) (C : Array Value) (n c : Nat) => Lib.run_convert_bytes_const (P := Tryz.prog) w 22 5 C n c Tryz.underlying22 Tryz.underlying5
  obtain ⟨kk, hk60, hkk⟩ := mod_is k 60 (by omega) (by omega)
  have hb0 : Below w.heap.size w (w.alloc (.cells #[.int .i64 k, .int .i64 f] 47)) := below_alloc _ _
  have x0 : (w.alloc (.cells #[.int .i64 k, .int .i64 f] 47)).heap[w.heap.size]? = some (.cells #[.int .i64 k, .int .i64 f] 47 (0, 0)) := heap_alloc_new _ _
  have hsz : (w.alloc (.cells #[.int .i64 k, .int .i64 f] 47)).heap.size = w.heap.size + 1 := by simp
  have hp := plays_lo _ (hT.below hb0 hT.size) per ao cap la (hr.below hb0) hl hc
  have HB0 := mkH hb0
  have HX0 := mkH x0
  generalize hW0 : w.alloc (.cells #[.int .i64 k, .int .i64 f] 47) = W0 at *
  have HP := mkH hp
  clear hp hT hr hb0 x0
  generalize la.length = LA at *
  go_enter Tryz.func7, Tryz.ntmps7
  go_wp2_with fail
  refine HP.out.mono ?_
  rintro e w1 ⟨S, t, rfl, hd, hi, h1⟩
  have H1 := mkH h1
  have HI := mkH hi
  have HD := mkH hd
  clear h1 hi hd HP
  go_wp2_with fail
  refine (sync_sn H1.out HI.out.ti).mono ?_
  rintro e w2 ⟨rfl, h2⟩
  have H2 := mkH h2
  have BH2 := mkH (bh_sy HI.out.ti HD.out)
  have HI2 := mkH HI.out.ti.sy
  clear h2 H1
  go_wp2_with fail
  have hpm := promised_sn H2.out
  rw [mm_sy] at hpm
  obtain ⟨PR, hPR⟩ : ∃ PR, (mm t).pr = PR := ⟨_, rfl⟩
  have hPRb : PR ≤ 1099511627776 := by rw [← hPR]; exact HI.out.ti.ok.pr
  have HPR := mkH hPR
  rw [hPR] at hpm
  clear hPR
  refine hpm.mono ?_
  rintro e w' ⟨rfl, hw⟩
  have hw2 := hw.symm
  subst hw2
  clear hw hpm
  go_wp2_with fail
  have hh := has_any H2.out HI2.out
  rw [mm_sy] at hh
  refine hh.mono ?_
  rintro e w3 ⟨a, c, l, rfl, hs3, hm3, hb3⟩
  have h3 := H2.out.more hb3
  have hx2 : w2.heap[w.heap.size]? = _ := (H2.out.fr.heap (block_lt HX0.out) (fun x => x (by show w.heap.size < W0.heap.size; omega))).trans HX0.out
  have hx3 : w3.heap[w.heap.size]? = _ := (hb3.block _ (block_lt hx2)).trans hx2
  have hbw3 : Below w.heap.size w w3 := HB0.out.trans (((H2.out.toBelow (fun k hk => by omega)).trans (hb3.mono H2.out.size)).mono (by omega))
  have hs03 : W0.heap.size ≤ w3.heap.size := by have := H2.out.size; have := hb3.size; omega
  have HX3 := mkH hx3
  have HS3 := mkH hs3
  have HM3 := mkH hm3
  have H3 := mkH h3
  have HBW := mkH hbw3
  clear hh hs3 hm3 h3 hx2 hx3 hb3 H2 hbw3
  obtain ⟨ln, hln⟩ : ∃ ln, l.length = ln := ⟨_, rfl⟩
  have hln61 : ln ≤ 61 := by have h61 := HI.out.ti.ok.len; rw [← HM3.out, List.length_map, hln] at h61; exact h61
  have HLN := mkH hln
  rw [hln]
  clear hln
  go_wp2_with fail
  have hps := promise_sn H3.out HI2.out (by omega) (PR : Int)
  have e1 := promise_same HI2.out BH2.out.dn
  rw [mm_sy, HPR.out] at e1
  rw [e1.1, e1.2] at hps
  refine hps.mono ?_
  rintro e w4 ⟨rfl, h4⟩
  have H4 := mkH h4
  clear h4 hps e1 H3
  go_wp2_with fail
  have hba := base_sn H4.out
  rw [mm_sy] at hba
  obtain ⟨BA, hBA⟩ : ∃ BA, (mm t).ba = BA := ⟨_, rfl⟩
  have HBA := mkH hBA
  rw [hBA] at hba
  clear hBA
  refine hba.mono ?_
  rintro e w' ⟨rfl, hw⟩
  have hw2 := hw.symm
  subst hw2
  clear hw hba
  go_wp2_with fail
  have ha := accept_sn (H4.out.below ((Below.refl _ w4).alloc (Nat.le_refl _) (.cells #[.int .u8 97] 5 (1, 2)))) HI2.out (by omega) 1 (by omega) (PR : Int) (some ⟨w4.heap.size, 0, none⟩) 1 [97] (row_one w4 97 (1, 2)) (by simp)
  have BH3 := mkH (BH2.out.aT (s := 1) (v := [97]) (.inl rfl))
  have HI3 := mkH (HI2.out.aT (by omega) (s := 1) (by omega) (PR : Int) (v := [97]) (by simp))
  rw [HPR.out] at BH3
  refine ha.mono ?_
  rintro e w5 ⟨rfl, h5⟩
  generalize Tt.aT (sy t) 1 (PR : Int) [97] = t3 at *
  generalize aE (sy t) 1 (PR : Int) = E3 at *
  have H5 := mkH h5
  clear h5 ha H4
  go_wp2_with fail
  have ha := accept_sn (H5.out.below ((Below.refl _ w5).alloc (Nat.le_refl _) (.cells #[.int .u8 98] 5 (1, 2)))) HI3.out (by omega) 50 (by omega) (PR : Int) (some ⟨w5.heap.size, 0, none⟩) 1 [98] (row_one w5 98 (1, 2)) (by simp)
  have BH4 := BH3.out.aT (s := 50) (v := [98]) (.inr (.inl rfl))
  rw [HPR.out] at BH4
  have BH4 := mkH BH4
  have HI4 := mkH (HI3.out.aT (by omega) (s := 50) (by omega) (PR : Int) (v := [98]) (by simp))
  refine ha.mono ?_
  rintro e w6 ⟨rfl, h6⟩
  generalize Tt.aT t3 50 (PR : Int) [98] = t4 at *
  generalize aE t3 50 (PR : Int) = E4 at *
  have H6 := mkH h6
  clear h6 ha H5
  obtain ⟨b', hb'1, hb'2⟩ : ∃ b' : Int, min (PR : Int) 1099511627775 + 1 = b' ∧ wrap64 (min (PR : Int) 1099511627775 + 1) = b' := ⟨_, rfl, by unfold wrap64; omega⟩
  go_wp2_with fail
  refine (promise_sn H6.out HI4.out (by omega) b').mono ?_
  rintro e w7 ⟨rfl, h7⟩
  have BH5 := mkH (BH4.out.pT b')
  have HI5 := mkH (HI4.out.pT (by omega) b')
  generalize Tt.pT t4 b' = t5 at *
  generalize pE t4 b' = E5 at *
  have H7 := mkH h7
  clear h7 H6 hb'1 hb'2
  obtain ⟨HG, hHG⟩ : ∃ HG, (mm t5).pr = HG := ⟨_, rfl⟩
  have HHG := mkH hHG
  clear hHG
  go_wp2_with fail
  have hpm := promised_sn H7.out
  rw [HHG.out] at hpm
  refine hpm.mono ?_
  rintro e w' ⟨rfl, hw⟩
  have hw2 := hw.symm
  subst hw2
  clear hw hpm
  have hx7 : w7.heap[w.heap.size]? = _ := (H7.out.fr.heap (block_lt HX3.out) (fun x => x (.inl (by omega)))).trans HX3.out
  have cA0 : w7.cell? ⟨w.heap.size, 0, none⟩ = some (.int .i64 k) := by rw [cell_of_row _ _ _ _ _ _ hx7]; rfl
  have cA1 : w7.cell? ⟨w.heap.size, 1, none⟩ = some (.int .i64 f) := by rw [cell_of_row _ _ _ _ _ _ hx7]; rfl
  clear hx7
  go_wp2_with fail
  have hcr := crash_sn H7.out HI5.out kk f hf
  have e2 : cE t5 kk = 0 := by unfold cE; rw [BH5.out.dn, if_neg (by simp), if_neg (by omega)]
  rw [e2] at hcr
  refine hcr.mono ?_
  rintro e w8 ⟨rfl, h8⟩
  have H8 := mkH h8
  have HI6 := mkH (HI5.out.cr kk f)
  have HD6 : Hid (dn (cr t5 kk f) = true) := dn_cr BH5.out.dn (by omega) f
  clear h8 hcr e2 cA0 cA1 H7
  go_wp2_with fail
  have hrs := restart_sn H8.out HI6.out (by omega)
  have e5 : rE (cr t5 kk f) = 0 := by unfold rE; rw [HD6.out]; rfl
  rw [e5] at hrs
  refine hrs.mono ?_
  rintro e w9 ⟨rfl, h9⟩
  have hto := torn BH5.out HI.out HI5.out kk f
  have HI7 := mkH HI6.out.rs
  generalize Tt.rs (cr t5 kk f) = t6 at *
  have H9 := mkH h9
  have HRA := mkH hto.1
  obtain ⟨P6, hP6⟩ : ∃ P6, (mm t6).pr = P6 := ⟨_, rfl⟩
  have hlo6 : PR ≤ P6 := by rw [← hP6, ← HPR.out]; exact hto.1.pr
  have hhi6 : P6 ≤ HG := by rw [← hP6, ← HHG.out]; exact hto.2
  have HP6 := mkH hP6
  clear h9 hrs e5 H8 hto hP6
  go_wp2_with fail
  have hpm := promised_sn H9.out
  rw [HP6.out] at hpm
  refine hpm.mono ?_
  rintro e w' ⟨rfl, hw⟩
  have hw2 := hw.symm
  subst hw2
  clear hw hpm
  have d1 : ¬ (P6 < PR) := by omega
  have d2 : ¬ (HG < P6) := by omega
  go_wp2_with fail
  have hpm := promised_sn H9.out
  rw [HP6.out] at hpm
  refine hpm.mono ?_
  rintro e w' ⟨rfl, hw⟩
  have hw2 := hw.symm
  subst hw2
  clear hw hpm
  go_wp2_with fail
  have hba := base_sn H9.out
  rw [HRA.out.ba, HBA.out] at hba
  refine hba.mono ?_
  rintro e w' ⟨rfl, hw⟩
  have hw2 := hw.symm
  subst hw2
  clear hw hba
  go_wp2_with fail
  go_loopw [88] (fun i W => ∃ j : Nat, j ≤ ln ∧ i = .int .i64 (j : Int) ∧ Hid (Sn w3 (fun k => k < W0.heap.size ∨ w2.heap.size ≤ k ∧ k < w3.heap.size) W S t6)) (fun i _ => ln - (intOf i).toNat)
  case atStart => exact ⟨0, Nat.zero_le _, rfl, H9⟩
  case round =>
    clear H9
    obtain ⟨j, hj, rfl, HR⟩ := hrel
    rcases Nat.lt_or_ge j ln with hjl | hjl
    · have hA1 : Hs w2.heap.size wr (.slice a l.length c) l := HS3.out.keep (fun k h1 h2 => HR.out.fr.heap h2 (fun x => x (.inr ⟨h1, h2⟩)))
      obtain ⟨g, x, rfl, hx, cx0, cx1, cx2, rx⟩ := hs_at hA1 (by rw [HLN.out]; exact hjl)
      have hmem : hV x ∈ (mm t).sl := by rw [← HM3.out]; exact List.mem_map.2 ⟨x, List.mem_of_getElem? hx, rfl⟩
      have hat := mem_atS HI.out.ti.ok.srt hmem
      have hok := HI.out.ti.ok.at' _ hmem
      obtain ⟨u, hu1, hu2, hu3⟩ := HRA.out.sl _ _ hat
      obtain ⟨xk, xb, xa, xc, xv⟩ := x
      simp only [hV] at hok hu1 hu2 hu3
      simp only at cx0 cx1 cx2 rx
      have hbv : Below wr.heap.size wr (wr.alloc (.cells #[.int .i64 (xk : Int), .int .i64 (xb : Int), .slice xa xv.length xc] 52)) := below_alloc _ _
      have hv0 : (wr.alloc (.cells #[.int .i64 (xk : Int), .int .i64 (xb : Int), .slice xa xv.length xc] 52)).heap[wr.heap.size]? = some (.cells #[.int .i64 (xk : Int), .int .i64 (xb : Int), .slice xa xv.length xc] 52 (0, 0)) := heap_alloc_new _ _
      have d0 : (wr.alloc (.cells #[.int .i64 (xk : Int), .int .i64 (xb : Int), .slice xa xv.length xc] 52)).cell? ⟨wr.heap.size, 0, none⟩ = some (.int .i64 (xk : Int)) := Cw.cell_new_at wr _ _ 0 _ rfl
      have hsv : (wr.alloc (.cells #[.int .i64 (xk : Int), .int .i64 (xb : Int), .slice xa xv.length xc] 52)).heap.size = wr.heap.size + 1 := by simp
      have HRv := mkH (HR.out.below hbv)
      have rxv := rx.below hbv
      have HV0 := mkH hv0
      have hg := get_sn HRv.out HI7.out xk (by omega)
      rw [hu1] at hg
      obtain ⟨VL, hVL⟩ : ∃ VL, xv.length = VL := ⟨_, rfl⟩
      have HVL := mkH hVL
      rw [hVL] at cx2
      rw [hVL] at d0 hsv HRv rxv HV0 hg
      clear hA1 hx hmem hat hbv hv0 rx hVL
      go_wp2_with fail
      generalize wr.alloc (.cells #[.int .i64 (xk : Int), .int .i64 (xb : Int), .slice xa VL xc] 52) = wv at *
      refine hg.mono ?_
      rintro e w10 ⟨hgt, hb10⟩
      obtain ⟨b, cp, rfl, hrow, hlo, hcl, hcm⟩ := hgt
      have hv1 : w10.heap[wr.heap.size]? = _ := (hb10.block _ (by omega)).trans HV0.out
      have g0 : w10.cell? ⟨wr.heap.size, 0, none⟩ = some (.int .i64 (xk : Int)) := by rw [cell_of_row _ _ _ _ _ _ hv1]; rfl
      have g1 : w10.cell? ⟨wr.heap.size, 1, none⟩ = some (.int .i64 (xb : Int)) := by rw [cell_of_row _ _ _ _ _ _ hv1]; rfl
      have g2 : w10.cell? ⟨wr.heap.size, 2, none⟩ = some (.slice xa VL xc) := by rw [cell_of_row _ _ _ _ _ _ hv1]; rfl
      have s1 := str_any hrow cp
      have s2 := str_any (rxv.below hb10) xc
      rw [HVL.out] at s2
      have HRE := mkH (HRv.out.below hb10)
      have b1 : ¬ (u.bal < xb) := by omega
      by_cases hk1 : xk = 1
      · clear hg hb10 hv1 hrow cx0 cx1 cx2 d0 hu1 hu2 hu3
        subst hk1
        generalize u.val.length = UL at *
        generalize u.bal = UB at *
        go_wp2
        go_roundw
        case rel => exact ⟨j + 1, by omega, by go_num, HRE⟩
        case measure => simp [intOf]; omega
      · have huv := hu3 hk1
        subst huv
        simp only at s1 b1 hcl ⊢
        rw [HVL.out] at s1 hcl ⊢
        clear hg hb10 hv1 hrow cx0 cx1 cx2 d0 hu1 hu2 hu3
        generalize Kt.S xv = SV at *
        go_wp2
        go_roundw
        case rel => exact ⟨j + 1, by omega, by go_num, HRE⟩
        case measure => simp [intOf]; omega
    · have hjn : j = ln := by omega
      subst hjn
      have hd : decide ((j : Int) < (j : Int)) = false := by simp
      have hg := get_sn HR.out HI7.out 50 (by omega)
      go_wp2_with fail
      refine hg.mono ?_
      rintro e w10 ⟨hgt, hb10⟩
      have HRE := mkH (HR.out.below hb10)
      have hfin : ∀ W', Below w10.heap.size w10 W' → Below w.heap.size w W' := fun W' hb => by
        have h1 : Below W0.heap.size w3 w10 := HRE.out.toBelow (fun k hk => .inl hk)
        exact HBW.out.trans ((h1.trans (hb.mono (by have := h1.size; omega))).mono (by omega))
      have HFIN := mkH hfin
      clear hfin
      cases hat : atS (mm t6).sl 50 with
      | none =>
        rw [hat] at hgt
        simp only [Gt] at hgt
        subst hgt
        clear hg hb10 hat
        go_wp2_with fail
        refine (works_any _ HRE.out.tbw).mono ?_
        rintro e w11 ⟨rfl, hb11⟩
        have HB11 := mkH hb11
        clear hb11
        go_wp2
        go_ret
        exact ⟨rfl, HFIN.out _ HB11.out⟩
      | some u =>
        rw [hat] at hgt
        obtain ⟨b, cp, rfl, hrow, hlo, hcl, hcm⟩ := hgt
        have huv := HRA.out.fi u hat
        rw [huv] at hrow hcl
        have s1 : (convert 22 9 (.slice (some ⟨b, 0, none⟩) 1 cp)).run Tryz.prog w10 = .ok (.string ⟨#[98]⟩) w10 := str_any hrow cp
        have hul : u.val.length = 1 := by rw [huv]; rfl
        rw [hul]
        clear hg hb10 hat hrow huv hul
        generalize u.bal = UB at *
        go_wp2_with fail
        refine (works_any _ HRE.out.tbw).mono ?_
        rintro e w11 ⟨rfl, hb11⟩
        have HB11 := mkH hb11
        clear hb11
        go_wp2
        go_ret
        exact ⟨rfl, HFIN.out _ HB11.out⟩
end Go.Proofs.YthmedpabgblddaaGreatDoor.Ttn
