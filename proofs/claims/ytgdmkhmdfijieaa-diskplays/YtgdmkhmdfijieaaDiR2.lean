/-
  The document's disk: Append, Sync, Cut, Read, Restart.
-/
import Derived.Test.YtgdmkhmdfijieaaDiR
namespace Go.Proofs.Ytgdmkhmdfijieaa.Dr2
open Go.RowKit Kt Dk Dp Da Db Dc Dd De Df Dg Dst Dr
set_option linter.unusedVariables false
set_option maxRecDepth 20000

set_option maxHeartbeats 1000000 in
theorem rappend_any {w : World} {F : Nat → Prop} {R : Nat} {s : St} (h : Rs w F R s) (ao : Option Addr) (cap : Nat) (bs : List UInt8) (hr : Row w ao bs) (hl : bs.length ≤ 4611686018427387903) :
    Calls Try.prog 29 #[.pointer (some ⟨R, 0, none⟩), .slice ao bs.length cap] w fun e w' => e = .returned (.int .i64 (appE s bs.length)) ∧ Ro w F R w' (appS s bs) := by
  have H0 := mkH h
  obtain ⟨hlen, ka, kc, ra, rc, h⟩ := h
  have c0 := h.c0
  have c1 := h.c1
  have c2 := h.c2
  have H := mkH h
  clear h
  have HE := mkH (show appE s bs.length = if s.down then 10 else if 4194304 < s.kept.length + s.rest.length + bs.length then 7 else 0 from rfl)
  have HS := mkH (show appS s bs = if s.down then s else if 4194304 < s.kept.length + s.rest.length + bs.length then s else ⟨s.kept, s.rest ++ bs, false⟩ from rfl)
  generalize appE s bs.length = E at HE ⊢
  generalize appS s bs = S' at HS ⊢
  cases hd : s.down
  · rw [hd] at HE HS c2
    simp only [Bool.false_eq_true, if_false] at HE HS
    have HD := mkH hd
    clear hd
    obtain ⟨t, ht⟩ : ∃ t, s.kept.length + s.rest.length = t := ⟨_, rfl⟩
    have et : (s.kept.length : Int) + (s.rest.length : Int) = (t : Int) := by omega
    by_cases hful : 4194304 < s.kept.length + s.rest.length + bs.length
    · rw [if_pos hful] at HE HS
      have t1 : (4194304 : Int) < (t : Int) + (bs.length : Int) := by omega
      go_enter Try.func29, Try.ntmps29
      go_wp2_with fail
      go_quiet (fail)
      go_wp2
      go_ret
      exact ⟨ret_i HE.out, by rw [HS.out]; exact ⟨F, H0.out.below (below_drewN (Below.refl _ _) _), Nx.ofBelow (below_drewN (Below.refl _ _) _)⟩⟩
    · rw [if_neg hful] at HE HS
      have t1 : ¬ (4194304 : Int) < (t : Int) + (bs.length : Int) := by omega
      have HL : Hid (s.kept.length + (s.rest ++ bs).length ≤ 4194304) := by unfold Hid; rw [List.length_append]; omega
      have HR := mkH hr
      have hbl : t ≤ 4194304 := by omega
      have hbl2 : bs.length ≤ 4194304 := by omega
      clear hr ht hful
      go_enter Try.func29, Try.ntmps29
      go_wp2_with fail
      go_quiet (fail)
      have hbq : Below w.heap.size w (w.drewN nq) := below_drewN (Below.refl _ _) nq
      have HQ := mkH (H.out.below hbq)
      have HRQ := mkH (HR.out.below hbq)
      have HBQ := mkH hbq
      have hsq : (w.drewN nq).heap.size = w.heap.size := rfl
      have HSQ := mkH hsq
      generalize w.drewN nq = wq at HQ HRQ HBQ HSQ ⊢
      clear hbq c0 c1 c2 hsq
      have c1 := HQ.out.c1
      go_wp2_with fail
      refine (join_any wq ra ao rc cap s.rest bs HQ.out.r.1 HRQ.out (by have := HL.out; rw [List.length_append] at this; omega)).mono ?_
      rintro e w1 ⟨va, vc, rfl, hb1, hown⟩
      have hg := HQ.out.grow hb1
      have hrd : Rd w1 (fun k => F k ∨ (wq.heap.size ≤ k ∧ k < w1.heap.size)) R va vc (s.rest ++ bs) := rd_own hown (fun k h1 h2 => ⟨.inr ⟨h1, h2⟩, by have := HQ.out.dlt; omega⟩)
      obtain ⟨L, hL⟩ : ∃ L, s.rest ++ bs = L := ⟨_, rfl⟩
      rw [hL] at hrd HL ⊢
      have HLL := mkH hL
      have d1 := hg.c1
      have f1 := hg.fz 1
      have hg1 := hg.setRest hrd
      have hf1 := rset_fr hg.heap 1 (.slice va L.length vc)
      have HG1 := mkH hg1
      have HN := mkH ((Nx.ofBelow (F := F) HBQ.out).trans (nx_grow hb1 hf1 HQ.out.own))
      clear hg hg1 hf1 hrd hown hb1 hL c1
      go_wp2
      go_ret
      refine ⟨ret_i HE.out, _, ?_, HN.out⟩
      rw [HS.out, HLL.out]
      refine ⟨HL.out, ka, kc, va, vc, ?_⟩
      have := HG1.out
      rw [HD.out] at this
      exact this
  · rw [hd] at HE HS c2
    simp only [if_true] at HE HS
    go_enter Try.func29, Try.ntmps29
    go_wp2
    go_ret
    exact ⟨ret_i HE.out, by rw [HS.out]; exact ro_same H0.out⟩

set_option maxHeartbeats 2000000 in
theorem rsync_any {w : World} {F : Nat → Prop} {R : Nat} {s : St} (h : Rs w F R s) :
    Calls Try.prog 30 #[.pointer (some ⟨R, 0, none⟩)] w fun e w' => e = .returned (.int .i64 (synE s)) ∧ Ro w F R w' (synS s) := by
  have H0 := mkH h
  obtain ⟨hlen, ka, kc, ra, rc, h⟩ := h
  have c0 := h.c0
  have c1 := h.c1
  have c2 := h.c2
  have H := mkH h
  clear h
  have HE := mkH (show synE s = if s.down then 10 else 0 from rfl)
  have HS := mkH (show synS s = if s.down then s else ⟨s.kept ++ s.rest, [], false⟩ from rfl)
  generalize synE s = E at HE ⊢
  generalize synS s = S' at HS ⊢
  cases hd : s.down
  · rw [hd] at HE HS c2
    simp only [Bool.false_eq_true, if_false] at HE HS
    have HD := mkH hd
    have HL : Hid (s.kept.length + s.rest.length ≤ 4194304) := hlen
    clear hd
    go_enter Try.func30, Try.ntmps30
    go_wp2_with fail
    have hbq : Below w.heap.size w w.drew := below_drewN (Below.refl _ _) 1
    have HQ := mkH (H.out.below hbq)
    have d0 := HQ.out.c0
    have d1 := HQ.out.c1
    clear c0 c1 c2
    go_region_with (go_at_call 35; refine (join_any w.drew ka ra kc rc s.kept s.rest HQ.out.k.1 HQ.out.r.1 HL.out).mono ?_; rintro e w1 ⟨va, vc, rfl, hb1, hown⟩; have hg := HQ.out.grow hb1; have dd0 := hg.c0; have ff0 := hg.fz 0)
    all_goals
      have hrd : Rd w1 (fun k => F k ∨ (w.drew.heap.size ≤ k ∧ k < w1.heap.size)) R va vc (s.kept ++ s.rest) := rd_own hown (fun k h1 h2 => ⟨.inr ⟨h1, h2⟩, by have := HQ.out.dlt; omega⟩)
      have hg1 : Rw (w1.setCell ⟨R, 0, none⟩ (.slice va (s.kept.length + s.rest.length) vc)) (fun k => F k ∨ (w.drew.heap.size ≤ k ∧ k < w1.heap.size)) R s.down (s.kept ++ s.rest) s.rest va vc ra rc := by
        have := hg.setKept hrd
        rw [List.length_append] at this
        exact this
      have hf1 := rset_fr hg.heap 0 (.slice va (s.kept.length + s.rest.length) vc)
      have e1 := hg1.c1
      have f1 := hg1.fz 1
      have hg2 := hg1.setRest (ra2 := none) (rc2 := 0) (rest2 := []) (Rd.nil _ _ _)
      have hf2 := rset_fr hg1.heap 1 (.slice none 0 0)
      have HG2 := mkH hg2
      have HN := mkH ((Nx.ofBelow (F := F) hbq).trans (nx_grow hb1 (hf1.trans hf2 (fun i hi => .inl hi)) HQ.out.own))
      clear hg hg1 hg2 hf1 hf2 hrd hown hb1 dd0 ff0 d0 d1
      go_wp2
      go_ret
      refine ⟨ret_i HE.out, _, ?_, HN.out⟩
      rw [HS.out]
      refine ⟨by simpa using HL.out, va, vc, none, 0, ?_⟩
      have := HG2.out
      rw [HD.out] at this
      exact this
  · rw [hd] at HE HS c2
    simp only [if_true] at HE HS
    go_enter Try.func30, Try.ntmps30
    go_wp2
    go_ret
    exact ⟨ret_i HE.out, by rw [HS.out]; exact ro_same H0.out⟩

set_option maxHeartbeats 2000000 in
theorem rrestart_any {w : World} {F : Nat → Prop} {R : Nat} {s : St} (h : Rs w F R s) :
    Calls Try.prog 34 #[.pointer (some ⟨R, 0, none⟩)] w fun e w' => e = .returned (.int .i64 (rstE s)) ∧ Ro w F R w' (rstS s) := by
  have H0 := mkH h
  obtain ⟨hlen, ka, kc, ra, rc, h⟩ := h
  have c2 := h.c2
  have f2 := h.fz 2
  have H := mkH h
  clear h
  have HE := mkH (show rstE s = if s.down then 0 else 9 from rfl)
  have HS := mkH (show rstS s = if s.down then ⟨s.kept ++ s.rest, [], false⟩ else s from rfl)
  generalize rstE s = E at HE ⊢
  generalize rstS s = S' at HS ⊢
  cases hd : s.down
  · rw [hd] at HE HS c2
    simp only [Bool.false_eq_true, if_false] at HE HS
    go_enter Try.func34, Try.ntmps34
    go_wp2
    go_ret
    exact ⟨ret_i HE.out, by rw [HS.out]; exact ro_same H0.out⟩
  · rw [hd] at HE HS c2
    simp only [if_true] at HE HS
    have HL : Hid (s.kept.length + s.rest.length ≤ 4194304) := hlen
    clear hd
    go_enter Try.func34, Try.ntmps34
    go_wp2_with fail
    have hg0 := H.out.setDown false
    have hf0 := rset_fr H.out.heap 2 (.bool false)
    have HN0 : Hid (Nx F w (w.setCell ⟨R, 2, none⟩ (.bool false)) F) := ⟨hf0.mono (fun k hk => by subst hk; exact H.out.own), fun _ h => .inl h⟩
    generalize w.setCell ⟨R, 2, none⟩ (.bool false) = w0 at hg0 HN0 ⊢
    have hbq : Below w0.heap.size w0 w0.drew := below_drewN (Below.refl _ _) 1
    have HQ := mkH (hg0.below hbq)
    have d0 := HQ.out.c0
    have d1 := HQ.out.c1
    clear c2 f2 hf0 hg0
    go_region_with (go_at_call 35; refine (join_any w0.drew ka ra kc rc s.kept s.rest HQ.out.k.1 HQ.out.r.1 HL.out).mono ?_; rintro e w1 ⟨va, vc, rfl, hb1, hown⟩; have hg := HQ.out.grow hb1; have dd0 := hg.c0; have ff0 := hg.fz 0)
    all_goals
      have hrd : Rd w1 (fun k => F k ∨ (w0.drew.heap.size ≤ k ∧ k < w1.heap.size)) R va vc (s.kept ++ s.rest) := rd_own hown (fun k h1 h2 => ⟨.inr ⟨h1, h2⟩, by have := HQ.out.dlt; omega⟩)
      have hg1 : Rw (w1.setCell ⟨R, 0, none⟩ (.slice va (s.kept.length + s.rest.length) vc)) (fun k => F k ∨ (w0.drew.heap.size ≤ k ∧ k < w1.heap.size)) R false (s.kept ++ s.rest) s.rest va vc ra rc := by
        have := hg.setKept hrd
        rw [List.length_append] at this
        exact this
      have hf1 := rset_fr hg.heap 0 (.slice va (s.kept.length + s.rest.length) vc)
      have e1 := hg1.c1
      have f1 := hg1.fz 1
      have hg2 := hg1.setRest (ra2 := none) (rc2 := 0) (rest2 := []) (Rd.nil _ _ _)
      have hf2 := rset_fr hg1.heap 1 (.slice none 0 0)
      have HG2 := mkH hg2
      have HN := mkH ((HN0.out.trans (Nx.ofBelow (F := F) hbq)).trans (nx_grow hb1 (hf1.trans hf2 (fun i hi => .inl hi)) HQ.out.own))
      clear hg hg1 hg2 hf1 hf2 hrd hown hb1 dd0 ff0 d0 d1
      go_wp2
      go_ret
      refine ⟨ret_i HE.out, _, ?_, HN.out⟩
      rw [HS.out]
      refine ⟨by simpa using HL.out, va, vc, none, 0, ?_⟩
      have := HG2.out
      exact this

set_option maxHeartbeats 1000000 in
theorem rread_any {w : World} {F : Nat → Prop} {R : Nat} {s : St} (h : Rs w F R s) :
    Calls Try.prog 14 #[.pointer (some ⟨R, 0, none⟩)] w fun e w' => ∃ v, e = .returned (.tuple #[v, .int .i64 (redE s)]) ∧ New w w' v (redB s) ∧ Below w.heap.size w w' := by
  have H0 := mkH h
  obtain ⟨hlen, ka, kc, ra, rc, h⟩ := h
  have c0 := h.c0
  have c1 := h.c1
  have c2 := h.c2
  have H := mkH h
  clear h
  have HE := mkH (show redE s = if s.down then 10 else 0 from rfl)
  have HS := mkH (show redB s = if s.down then [] else s.kept ++ s.rest from rfl)
  generalize redE s = E at HE ⊢
  generalize redB s = S' at HS ⊢
  cases hd : s.down
  · rw [hd] at HE HS c2
    simp only [Bool.false_eq_true, if_false] at HE HS
    have HL : Hid (s.kept.length + s.rest.length ≤ 4194304) := hlen
    clear hd
    go_enter Try.func14, Try.ntmps14
    go_wp2_with fail
    have hbq : Below w.heap.size w w.drew := below_drewN (Below.refl _ _) 1
    have HQ := mkH (H.out.below hbq)
    have d0 := HQ.out.c0
    have d1 := HQ.out.c1
    clear c0 c1 c2
    go_region_with (go_at_call 35; refine (join_any w.drew ka ra kc rc s.kept s.rest HQ.out.k.1 HQ.out.r.1 HL.out).mono ?_; rintro e w1 ⟨va, vc, rfl, hb1, hown⟩)
    all_goals
      have hb2 : Below w.heap.size w w1 := hbq.trans hb1
      have hnew : New w w1 (.slice va (s.kept ++ s.rest).length vc) (s.kept ++ s.rest) := by
        obtain ⟨h1, h2, h3⟩ := Row.own hown
        refine ⟨va, vc, rfl, by omega, own_cap hown, h3, fun b off e => ?_⟩
        have := (hown.lt b (by rw [e]; rfl)).1
        exact this
      have HN := mkH hnew
      have HB := mkH hb2
      clear hnew hb2 hown hb1 d0 d1
      go_wp2
      go_ret2
      refine ⟨.slice va (s.kept ++ s.rest).length vc, ?_, by rw [HS.out]; exact HN.out, HB.out⟩
      rw [List.length_append]
      exact ret_t HE.out
  · rw [hd] at HE HS c2
    simp only [if_true] at HE HS
    go_enter Try.func14, Try.ntmps14
    go_wp2
    go_ret2
    exact ⟨_, ret_t HE.out, by rw [HS.out]; exact ⟨none, 0, rfl, Nat.le_refl _, by omega, Row.nil _ _, fun b off e => by cases e⟩, Below.refl _ _⟩

set_option maxHeartbeats 2000000 in
theorem rcut_any {w : World} {F : Nat → Prop} {R : Nat} {s : St} (h : Rs w F R s) (n : Int) :
    Calls Try.prog 31 #[.pointer (some ⟨R, 0, none⟩), .int .i64 n] w fun e w' => e = .returned (.int .i64 (cutE s n)) ∧ Ro w F R w' (cutS s n) := by
  have H0 := mkH h
  obtain ⟨hlen, ka, kc, ra, rc, h⟩ := h
  have c0 := h.c0
  have c1 := h.c1
  have c2 := h.c2
  have H := mkH h
  clear h
  have HE := mkH (show cutE s n = if s.down then 10 else if n < 0 ∨ ((s.kept.length + s.rest.length : Nat) : Int) < n then 2 else 0 from rfl)
  have HS := mkH (show cutS s n = if s.down then s else if n < 0 ∨ ((s.kept.length + s.rest.length : Nat) : Int) < n then s else ⟨(s.kept ++ s.rest).take n.toNat, [], false⟩ from rfl)
  generalize cutE s n = E at HE ⊢
  generalize cutS s n = S' at HS ⊢
  cases hd : s.down
  · rw [hd] at HE HS c2
    simp only [Bool.false_eq_true, if_false] at HE HS
    have HL : Hid (s.kept.length + s.rest.length ≤ 4194304) := hlen
    have HD := mkH hd
    clear hd
    go_enter Try.func31, Try.ntmps31
    go_wp2_with fail
    have hbq : Below w.heap.size w w.drew := below_drewN (Below.refl _ _) 1
    have HQ := mkH (H.out.below hbq)
    have d0 := HQ.out.c0
    have d1 := HQ.out.c1
    clear c0 c1 c2
    go_region_with (go_at_call 35; refine (join_any w.drew ka ra kc rc s.kept s.rest HQ.out.k.1 HQ.out.r.1 HL.out).mono ?_; rintro e w1 ⟨va, vc, rfl, hb1, hown⟩)
    all_goals
      have hg := HQ.out.grow hb1
      have HR1 := mkH (H0.out.below (hbq.trans hb1))
      have HB1 := mkH (hbq.trans hb1)
      have hrd : Rd w1 (fun k => F k ∨ (w.drew.heap.size ≤ k ∧ k < w1.heap.size)) R va vc (s.kept ++ s.rest) := rd_own hown (fun k h1 h2 => ⟨.inr ⟨h1, h2⟩, by have := HQ.out.dlt; omega⟩)
      obtain ⟨t, ht⟩ : ∃ t, s.kept.length + s.rest.length = t := ⟨_, rfl⟩
      have HT : Hid ((s.kept ++ s.rest).length = t) := by unfold Hid; rw [List.length_append]; exact ht
      rw [ht] at HE HS HL hlen ⊢
      clear ht d0 d1
      by_cases hneg : n < 0
      · rw [if_pos (.inl hneg)] at HE HS
        clear hg hrd hown hb1
        go_wp2
        go_ret
        exact ⟨ret_i HE.out, by rw [HS.out]; exact ⟨F, HR1.out, Nx.ofBelow HB1.out⟩⟩
      · by_cases hbig : (t : Int) < n
        · rw [if_pos (.inr hbig)] at HE HS
          clear hg hrd hown hb1
          go_wp2
          go_ret
          exact ⟨ret_i HE.out, by rw [HS.out]; exact ⟨F, HR1.out, Nx.ofBelow HB1.out⟩⟩
        · rw [if_neg (by omega)] at HE HS
          obtain ⟨m, rfl⟩ : ∃ m : Nat, n = (m : Int) := ⟨n.toNat, by omega⟩
          have hrt := hrd.take m
          have htl : ((s.kept ++ s.rest).take m).length = m := by rw [List.length_take, HT.out]; omega
          have e0 := hg.c0
          have f0 := hg.fz 0
          have hg1 : Rw (w1.setCell ⟨R, 0, none⟩ (.slice va m vc)) (fun k => F k ∨ (w.drew.heap.size ≤ k ∧ k < w1.heap.size)) R s.down ((s.kept ++ s.rest).take m) s.rest va vc ra rc := by
            have := hg.setKept hrt
            rw [htl] at this
            exact this
          have hf1 := rset_fr hg.heap 0 (.slice va m vc)
          have e1 := hg1.c1
          have f1 := hg1.fz 1
          have hg2 := hg1.setRest (ra2 := none) (rc2 := 0) (rest2 := []) (Rd.nil _ _ _)
          have hf2 := rset_fr hg1.heap 1 (.slice none 0 0)
          have HG2 := mkH hg2
          have HN := mkH ((Nx.ofBelow (F := F) hbq).trans (nx_grow hb1 (hf1.trans hf2 (fun i hi => .inl hi)) HQ.out.own))
          have HTL := mkH htl
          have hvc := hrt.2.1
          rw [htl] at hvc
          have hvc2 := hrt.2.2.1
          clear hg hg1 hg2 hf1 hf2 hrd hown hb1 hrt htl
          go_wp2
          go_ret
          refine ⟨ret_i HE.out, _, ?_, HN.out⟩
          rw [HS.out]
          refine ⟨by simp only [Int.toNat_natCast, List.length_nil]; rw [HTL.out]; omega, va, vc, none, 0, ?_⟩
          have := HG2.out
          rw [HD.out] at this
          exact this
  · rw [hd] at HE HS c2
    simp only [if_true] at HE HS
    go_enter Try.func31, Try.ntmps31
    go_wp2
    go_ret
    exact ⟨ret_i HE.out, by rw [HS.out]; exact ro_same H0.out⟩
end Go.Proofs.Ytgdmkhmdfijieaa.Dr2
