/-
  StoreKeeps.
-/
import Derived.Test.YthmedpabgblddaaGreatDoorJnD
import Derived.BigQuiet
namespace Go.Proofs.YthmedpabgblddaaGreatDoor.Tkp
open Go.RowKit Kt Dk Dp Da Dc De Tp Tm Pl Cs Cf Cn Cv Sq Sr Sa Sb Sc Se St Sv Rd Wr Ta Tb0 Tc Td Te Tf Tg Tt Th Ti Tj Tk Tl Tn To Tx Tw Go.Maps
set_option linter.unusedVariables false
set_option maxRecDepth 20000

/-- How many of the records are kept. -/
def safeN (t : Tt.T) : Nat := t.h.safe - bas t.h.segs
theorem ti_len {N : Nat} {t : Tt.T} (h : TI N t) : (all t.h.segs).length = t.rl.length := by rw [h.rcd]; simp
theorem safe_sy {N : Nat} {t : Tt.T} (h : TI N t) (hd : dn t = false) : safeN (sy t) = t.rl.length := by
  have hdd : t.h.dn = none := by simpa [dn] using hd
  have e : syH t.h = syn t.h := by simp [syH, hdd]
  simp only [safeN, sy, e, syn]
  rw [bas_map _ _ syg_ok]
  have := top_all0 h.inv.ch
  have := ti_len h
  omega
theorem bas_app (h : H) (r : List UInt8) : bas (app h r).segs = bas h.segs ∧ (app h r).safe = h.safe := by
  by_cases h0 : h.segs = []
  · rw [app_nil r h0, h0]; exact ⟨rfl, rfl⟩
  · obtain ⟨i, z, hz⟩ := snoc_of h0
    rw [app_snoc r hz]
    split
    · split
      · exact ⟨rfl, rfl⟩
      · rw [hz]
        cases i with
        | nil => exact ⟨rfl, rfl⟩
        | cons y i => exact ⟨rfl, rfl⟩
    · rw [hz]
      cases i with
      | nil => exact ⟨rfl, rfl⟩
      | cons y i => exact ⟨rfl, rfl⟩
theorem safe_wr (t : Tt.T) (r : Rc) : safeN (wr t r) = safeN t := by simp only [safeN, wr, (bas_app _ _).1, (bas_app _ _).2]
theorem safe_cr (t : Tt.T) (k f : Int) : safeN (cr t k f) = safeN t := by simp only [safeN, cr, crH_segs]
theorem rs_take {N : Nat} {t : Tt.T} (h : TI N t) : ∃ j, safeN t ≤ j ∧ j ≤ t.rl.length ∧ (Tt.rs t).rl = t.rl.take j ∧ s0 (Tt.rs t) = s0 t := by
  have h1 := top_all0 h.inv.ch
  have h2 := h.inv.hi
  have h3 := rs_keeps h (by omega)
  have h4 := ti_len h
  have hp := (rst_pre h.inv).length_le
  refine ⟨(all (rst t.h).segs).length, ?_, by omega, rfl, rfl⟩
  have : (Tt.rs t).rl.length = min (all (rst t.h).segs).length t.rl.length := by simp [Tt.rs]
  unfold safeN
  omega
theorem dn_cr {t : Tt.T} (hd : dn t = false) {k : Int} (hk : 0 ≤ k) (f : Int) : dn (cr t k f) = true := by
  have h1 : t.h.dn = none := by simpa [dn] using hd
  have h2 : crH t.h k f = { t.h with dn := some (k, f) } := by
    unfold crH crs
    rw [h1, if_neg (by simp), if_neg (by omega)]
  simp only [dn, cr, h2]
  rfl
/-- Behind a sync, and any crash, all is there. -/
theorem synced {N : Nat} {t : Tt.T} (h : TI N t) (hd : dn t = false) (k f : Int) : mm (Tt.rs (cr (sy t) k f)) = mm t := by
  obtain ⟨j, h1, h2, h3, h4⟩ := rs_take (h.sy.cr k f)
  rw [safe_cr, safe_sy h hd] at h1
  unfold mm
  rw [h3, h4]
  have : (cr (sy t) k f).rl = t.rl := rfl
  rw [this] at h2 ⊢
  rw [List.take_of_length_le h1]
  rfl
theorem hs_at {lo : Nat} {W : World} {a : Option Addr} {c : Nat} {l : List Hx} (h : Hs lo W (.slice a l.length c) l) {i : Nat} (hi : i < l.length) : ∃ g x, a = some ⟨g, 0, none⟩ ∧ l[i]? = some x ∧ W.cell? ⟨g, i * 3, none⟩ = some (.int .i64 (x.k : Int)) ∧ W.cell? ⟨g, i * 3 + 1, none⟩ = some (.int .i64 (x.bal : Int)) ∧ W.cell? ⟨g, i * 3 + 2, none⟩ = some (.slice x.ao x.val.length x.cap) ∧ Row W x.ao x.val := by
  have hx : l[i]? = some l[i] := List.getElem?_eq_getElem hi
  rcases h.own.2 with ⟨e1, e2⟩ | ⟨g, cap, cur, e1, e2, e3, e4, e5, e6, e7⟩
  · omega
  · simp only [Value.slice.injEq] at e1
    obtain ⟨rfl, -, rfl⟩ := e1
    have hc : ∀ j, j < 3 → W.cell? ⟨g, i * 3 + j, none⟩ = (hC l[i])[j]? := fun j hj => by
      have h1 := hF_at l i _ hx j hj
      have hlt : i * 3 + j < l.length * 3 := by omega
      rw [World.ownsRow.cellAt h.own (i * 3 + j) hlt]
      exact h1
    exact ⟨g, l[i], rfl, hx, hc 0 (by omega), hc 1 (by omega), hc 2 (by omega), (h.ok _ (List.getElem_mem hi)).1⟩
theorem hV_len {l m : List Hx} (h : l.map hV = m.map hV) : l.length = m.length := by have := congrArg List.length h; simpa using this
theorem hV_at {l m : List Hx} (h : l.map hV = m.map hV) {i : Nat} {x y : Hx} (hx : l[i]? = some x) (hy : m[i]? = some y) : x.k = y.k ∧ x.bal = y.bal ∧ x.val = y.val := by
  have := congrArg (fun z => z[i]?) h
  simp only [List.getElem?_map, hx, hy, Option.map_some, Option.some.injEq, hV, Prod.mk.injEq, V.mk.injEq] at this
  exact ⟨this.1, this.2.1, this.2.2⟩
theorem strN {ao : Option Addr} {bs : List UInt8} {w : World} (h : Row w ao bs) (c : Nat) : ∀ n, (convert 22 9 (.slice ao bs.length c)).run Tryz.prog (w.drewN n) = .ok (.string (Kt.S bs)) (w.drewN n) := fun n => str_any (W := w.drewN n) (h.below (below_drewN (Below.refl _ _) n)) c

set_option maxHeartbeats 8000000 in
theorem keeps_any (w : World) (hT : Tb w) (per : Int) (ao : Option Addr) (cap : Nat) (la : List Ac) (hr : RowA w ao la) (hl : la.length ≤ cap) (hc : cap ≤ 9223372036854775807) (k f : Int) (hf : f ≤ 9223372036854775807) :
    Calls Tryz.prog 4 #[.int .i64 per, .slice ao la.length cap, .agg #[.int .i64 k, .int .i64 f]] w fun e w' => e = .returned (.bool true) ∧ Below w.heap.size w w' := by
  obtain ⟨kk, hk90, hkk⟩ := mod_is k 90 (by omega) (by omega)
  have hb0 : Below w.heap.size w (w.alloc (.cells #[.int .i64 k, .int .i64 f] 47)) := below_alloc _ _
  have x0 : (w.alloc (.cells #[.int .i64 k, .int .i64 f] 47)).heap[w.heap.size]? = some (.cells #[.int .i64 k, .int .i64 f] 47 (0, 0)) := heap_alloc_new _ _
  have hsz : (w.alloc (.cells #[.int .i64 k, .int .i64 f] 47)).heap.size = w.heap.size + 1 := by simp
  have hp := plays_any _ (hT.below hb0 hT.size) per ao cap la (hr.below hb0) hl hc
  have HB0 := mkH hb0
  have HX0 := mkH x0
  generalize hW0 : w.alloc (.cells #[.int .i64 k, .int .i64 f] 47) = W0 at *
  have HP := mkH hp
  clear hp hT hr hb0 x0
  generalize la.length = LA at *
  go_enter Tryz.func4, Tryz.ntmps4
  go_wp2_with fail
  refine HP.out.mono ?_
  rintro e w1 ⟨S, t, rfl, hd, hi, h1⟩
  have H1 := mkH h1
  have HI := mkH hi
  have HD := mkH hd
  clear h1 hi hd HP
  go_wp2_with fail
  have hs := sync_sn H1.out HI.out
  have e1 : yE t = 0 := by simp [yE, HD.out]
  rw [e1] at hs
  refine hs.mono ?_
  rintro e w2 ⟨rfl, h2⟩
  have H2 := mkH h2
  clear h2 hs H1 e1
  go_wp2_with fail
  have hpm := promised_sn H2.out
  rw [mm_sy] at hpm
  refine hpm.mono ?_
  rintro e w' ⟨rfl, hw⟩
  have hw2 := hw.symm
  subst hw2
  clear hw hpm
  go_wp2_with fail
  have hh := has_any H2.out HI.out.sy
  rw [mm_sy] at hh
  refine hh.mono ?_
  rintro e w3 ⟨a, c, l, rfl, hs3, hm3, hb3⟩
  have h3 := H2.out.more hb3
  have hx2 : w2.heap[w.heap.size]? = _ := (H2.out.fr.heap (block_lt HX0.out) (fun x => x (by show w.heap.size < W0.heap.size; omega))).trans HX0.out
  have hx3 : w3.heap[w.heap.size]? = _ := (hb3.block _ (block_lt hx2)).trans hx2
  have cA0 : w3.cell? ⟨w.heap.size, 0, none⟩ = some (.int .i64 k) := by rw [cell_of_row _ _ _ _ _ _ hx3]; rfl
  have cA1 : w3.cell? ⟨w.heap.size, 1, none⟩ = some (.int .i64 f) := by rw [cell_of_row _ _ _ _ _ _ hx3]; rfl
  have hbw3 : Below w.heap.size w w3 := HB0.out.trans (((H2.out.toBelow (fun k hk => by omega)).trans (hb3.mono H2.out.size)).mono (by omega))
  have hs03 : W0.heap.size ≤ w3.heap.size := by have := H2.out.size; have := hb3.size; omega
  have HS3 := mkH hs3
  have HM3 := mkH hm3
  have H3 := mkH h3
  have HBW := mkH hbw3
  clear hh hs3 hm3 h3 hx2 hx3 hb3 H2 hbw3
  obtain ⟨ln, hln⟩ : ∃ ln, l.length = ln := ⟨_, rfl⟩
  have hln61 : ln ≤ 61 := by have h61 := HI.out.ok.len; rw [← HM3.out, List.length_map, hln] at h61; exact h61
  have HLN := mkH hln
  rw [hln]
  clear hln
  obtain ⟨PR, hPR⟩ : ∃ PR, (mm t).pr = PR := ⟨_, rfl⟩
  have HPR := mkH hPR
  rw [hPR]
  clear hPR
  go_wp2_with fail
  have hcr := crash_sn H3.out HI.out.sy kk f hf
  have e2 : cE (sy t) kk = 0 := by unfold cE; rw [dn_sy, HD.out, if_neg (by simp), if_neg (by omega)]
  rw [e2] at hcr
  refine hcr.mono ?_
  rintro e w4 ⟨rfl, h4⟩
  have H4 := mkH h4
  have hdn4 : dn (cr (sy t) kk f) = true := dn_cr (by rw [dn_sy]; exact HD.out) (by omega) f
  have HD4 := mkH hdn4
  have HI4 := mkH (HI.out.sy.cr kk f)
  clear h4 hcr e2 hdn4 cA0 cA1
  go_wp2_with fail
  have hpr := promise_sn H4.out HI4.out (by omega) 1099511627776
  have e3 : pE (cr (sy t) kk f) 1099511627776 = 10 := by unfold pE; rw [HD4.out]; rfl
  have e4 : pT (cr (sy t) kk f) 1099511627776 = cr (sy t) kk f := by unfold pT; rw [e3]; rfl
  rw [e3, e4] at hpr
  refine hpr.mono ?_
  rintro e w5 ⟨rfl, h5⟩
  have H5 := mkH h5
  clear h5 hpr e3 e4 H4
  go_wp2_with fail
  have hrs := restart_sn H5.out HI4.out (by omega)
  have e5 : rE (cr (sy t) kk f) = 0 := by unfold rE; rw [HD4.out]; rfl
  rw [e5] at hrs
  refine hrs.mono ?_
  rintro e w6 ⟨rfl, h6⟩
  have H6 := mkH h6
  clear h6 hrs e5 H5
  have hsy := synced HI.out HD.out kk f
  have HSY := mkH hsy
  clear hsy
  go_wp2_with fail
  have hpm := promised_sn H6.out
  rw [HSY.out, HPR.out] at hpm
  refine hpm.mono ?_
  rintro e w' ⟨rfl, hw⟩
  have hw2 := hw.symm
  subst hw2
  clear hw hpm
  go_wp2_with fail
  have hh := has_any H6.out HI4.out.rs
  rw [HSY.out] at hh
  refine hh.mono ?_
  rintro e w7 ⟨a2, c2, l2, rfl, hs7, hm7, hb7⟩
  have hs3' : Hs w2.heap.size w7 (.slice a l.length c) l := (HS3.out.keep (fun k h1 h2 => H6.out.fr.heap h2 (fun x => x (.inr ⟨h1, h2⟩)))).below hb7
  have hmm : l.map hV = l2.map hV := by rw [HM3.out, hm7]
  have hll := hV_len hmm
  have hT7 : Tb w7 := (H6.out.below hb7).tbw
  have hb36 : Below W0.heap.size w3 w6 := H6.out.toBelow (fun k hk => .inl hk)
  have hbw7 : Below w.heap.size w w7 := HBW.out.trans ((hb36.trans (hb7.mono (by have := hb36.size; omega))).mono (by omega))
  rw [HLN.out] at hll
  have HS7 := mkH hs7
  have HS3b := mkH hs3'
  have HMM := mkH hmm
  have HT7 := mkH hT7
  have HB7 := mkH hbw7
  rw [HLN.out] at HS3b
  rw [← hll] at HS7 ⊢
  have HL2 := mkH hll
  clear hh hs7 hm7 hb7 hs3' hmm hll hT7 hbw7 hb36 H6 HS3 H3 HBW HI4 HD4
  go_wp2_with fail
  go_loopw [63] (fun i W => ∃ j : Nat, j ≤ ln ∧ i = .int .i64 (j : Int) ∧ Hid (Hs w2.heap.size W (.slice a ln c) l ∧ Hs w6.heap.size W (.slice a2 ln c2) l2 ∧ Tb W ∧ Below w.heap.size w W)) (fun i _ => ln - (intOf i).toNat)
  case atStart => exact ⟨0, Nat.zero_le _, rfl, HS3b.out, HS7.out, HT7.out, HB7.out⟩
  case round =>
    clear HS3b HS7 HT7 HB7
    obtain ⟨j, hj, rfl, HR⟩ := hrel
    rcases Nat.lt_or_ge j ln with hjl | hjl
    · have hA1 := HR.out.1
      rw [← HLN.out] at hA1
      obtain ⟨g, x, rfl, hx, cx0, cx1, cx2, rx⟩ := hs_at hA1 (by rw [HLN.out]; exact hjl)
      have hA2 := HR.out.2.1
      rw [HL2.out] at hA2
      obtain ⟨g2, y, rfl, hy, cy0, cy1, cy2, ry⟩ := hs_at hA2 (by rw [← HL2.out]; exact hjl)
      obtain ⟨q1, q2, q3⟩ := hV_at HMM.out hx hy
      rw [← q1] at cy0
      rw [← q2] at cy1
      rw [← q3] at cy2 ry
      have s1 := strN rx x.cap
      have s2 := strN ry y.cap
      clear hA1 hA2 hx hy q1 q2 q3 rx ry
      generalize x.val.length = VL at *
      generalize Kt.S x.val = SV at *
      obtain ⟨xk, xb, xa, xc, xv⟩ := x
      obtain ⟨yk, yb, ya, yc, yv⟩ := y
      simp only at cx0 cx1 cx2 cy0 cy1 cy2 s1 s2
      go_wp2_with fail
      go_quiet (fail)
      go_wp2
      go_roundw
      case rel => exact ⟨j + 1, by omega, by go_num, HR.out.1.keep (fun _ _ _ => rfl), HR.out.2.1.keep (fun _ _ _ => rfl), HR.out.2.2.1, below_drewN HR.out.2.2.2 _⟩
      case measure => simp [intOf]; omega
    · have hjn : j = ln := by omega
      subst hjn
      have hd : decide ((j : Int) < (j : Int)) = false := by simp
      go_wp2_with fail
      refine (works_any _ HR.out.2.2.1).mono ?_
      rintro e w9 ⟨rfl, hb9⟩
      go_wp2
      go_ret
      exact ⟨rfl, HR.out.2.2.2.trans (hb9.mono HR.out.2.2.2.size)⟩
end Go.Proofs.YthmedpabgblddaaGreatDoor.Tkp
