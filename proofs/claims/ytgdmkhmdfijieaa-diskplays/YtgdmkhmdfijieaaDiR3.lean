/-
  The document's disk: Crash.
-/
import Derived.Test.YtgdmkhmdfijieaaDiR2
namespace Go.Proofs.Ytgdmkhmdfijieaa.Dr3
open Go.RowKit Kt Dk Dp Da Db Dc Dd De Df Dg Dst Dr Dr2
set_option linter.unusedVariables false
set_option maxRecDepth 20000

/-- What the loops have turned so far. -/
def pt (B : List UInt8) (f : Int) (t : Nat) : List UInt8 := if f < (t : Int) then turn B f else B
theorem pt_length (B : List UInt8) (f : Int) (t : Nat) : (pt B f t).length = B.length := by unfold pt; split; exact turn_length _ _; rfl
theorem pt_zero (B : List UInt8) (f : Int) : pt B f 0 = B := by
  unfold pt turn
  split
  · rw [if_neg (by omega)]
  · rfl
theorem pt_end (B : List UInt8) (f : Int) : pt B f (8 * B.length) = turn B f := by
  unfold pt
  split
  · rfl
  · unfold turn; rw [if_neg (by omega)]
theorem pt_ne (B : List UInt8) (f : Int) (t : Nat) (h : ¬ f = (t : Int)) : pt B f (t + 1) = pt B f t := by
  unfold pt
  by_cases h1 : f < (t : Int)
  · rw [if_pos h1, if_pos (by omega)]
  · rw [if_neg h1, if_neg (by omega)]
theorem pt_eq (B : List UInt8) (f : Int) (i k : Nat) (hk : k < 8) (hi : i < B.length) (h : f = ((8 * i + k : Nat) : Int)) : pt B f (8 * i + k) = B ∧ pt B f (8 * i + k + 1) = B.set i (tb (B.getD i 0) k) := by
  unfold pt turn
  refine ⟨by rw [if_neg (by omega)], ?_⟩
  have h1 : f.toNat / 8 = i := by omega
  have h2 : f.toNat % 8 = k := by omega
  rw [if_pos (by omega), if_pos ⟨by omega, by omega⟩, h1, h2]

theorem Ow.high {w : World} {F : Nat → Prop} {D e : Nat} {ao : Option Addr} {n cap : Nat} {bs : List UInt8} (h : Ow w F D e (.slice ao n cap) bs) (m : Nat) (hm : m ≤ bs.length) : Ow w F D e (.slice ao m cap) (bs.take m) := by
  rcases h with ⟨h1, rfl⟩ | ⟨g, c, cur, h1, hF, hD, hg, hl, hc, hmx, ht⟩
  · simp only [Value.slice.injEq] at h1
    obtain ⟨rfl, rfl, rfl⟩ := h1
    have : m = 0 := by simpa using hm
    subst this
    exact .inl ⟨rfl, by simp⟩
  · simp only [Value.slice.injEq] at h1
    obtain ⟨rfl, rfl, rfl⟩ := h1
    have hl2 : (bs.take m).length = m := by rw [List.length_take]; omega
    refine .inr ⟨g, cap, cur, by rw [hl2], hF, hD, hg, by omega, hc, hmx, ?_⟩
    rw [hl2]
    have h1 : (cur.toList.take bs.length).take m = (U bs).take m := by rw [ht]
    rw [List.take_take, Nat.min_eq_left hm] at h1
    rw [h1]
    simp [U]
theorem rd_ow {w : World} {F : Nat → Prop} {R e : Nat} {ao : Option Addr} {n cap : Nat} {bs : List UInt8} (h : Ow w F R e (.slice ao n cap) bs) : Rd w F R ao cap bs := by
  obtain ⟨a2, c2, he, h1, h2, h3, h4⟩ := h.form
  simp only [Value.slice.injEq] at he
  obtain ⟨rfl, rfl, rfl⟩ := he
  refine ⟨h3, h1, h2, fun b off e h0 => ?_⟩
  rcases h with ⟨x1, rfl⟩ | ⟨g, c, cur, x1, hF, hD, -⟩
  · simp at h0
  · simp only [Value.slice.injEq] at x1
    rw [e] at x1
    obtain ⟨x1, -⟩ := x1
    injection x1 with x1
    injection x1 with x1
    subst x1
    exact ⟨hF, hD⟩

set_option maxHeartbeats 4000000 in
theorem rcrash_any {w : World} {F : Nat → Prop} {R : Nat} {s : St} (h : Rs w F R s) (k f : Int) (hf : f ≤ 9223372036854775807) :
    Calls Try.prog 33 #[.pointer (some ⟨R, 0, none⟩), .int .i64 k, .int .i64 f] w fun e w' => e = .returned (.int .i64 (crsE s k)) ∧ Ro w F R w' (crsS s k f) := by
  have H0 := mkH h
  obtain ⟨hlen, ka, kc, ra, rc, h⟩ := h
  have c2 := h.c2
  have f2 := h.fz 2
  have H := mkH h
  clear h
  have HE := mkH (show crsE s k = if s.down then 10 else if k < 0 then 2 else 0 from rfl)
  have HS := mkH (show crsS s k f = if s.down then s else if k < 0 then s else ⟨s.kept, turn (s.rest.take k.toNat) f, true⟩ from rfl)
  generalize crsE s k = E at HE ⊢
  generalize crsS s k f = S' at HS ⊢
  cases hd : s.down
  · rw [hd] at HE HS c2
    simp only [Bool.false_eq_true, if_false] at HE HS
    have HD := mkH hd
    clear hd
    by_cases hbad : k < 0
    · rw [if_pos hbad] at HE HS
      go_enter Try.func33, Try.ntmps33
      go_wp2
      go_ret
      exact ⟨ret_i HE.out, by rw [HS.out]; exact ro_same H0.out⟩
    · rw [if_neg hbad] at HE HS
      have hg0 := H.out.setDown true
      have hf0 := rset_fr H.out.heap 2 (.bool true)
      have HN0 : Hid (Nx F w (w.setCell ⟨R, 2, none⟩ (.bool true)) F) := ⟨hf0.mono (fun k hk => by subst hk; exact H.out.own), fun _ h => .inl h⟩
      obtain ⟨w0, hw0⟩ : ∃ w0, w.setCell ⟨R, 2, none⟩ (.bool true) = w0 := ⟨_, rfl⟩
      have HG0 := mkH hg0
      rw [hw0] at HG0 HN0
      have d1 := HG0.out.c1
      clear hg0 hf0
      go_enter Try.func33, Try.ntmps33
      go_wp2_with fail
      refine (join_any w0 ra none rc 0 s.rest [] HG0.out.r.1 (Row.nil _ _) (by simp; omega)).mono ?_
      rintro e w1 ⟨va, vc, rfl, hb1, hown⟩
      rw [List.append_nil] at hown ⊢
      obtain ⟨Fn, hFn⟩ : ∃ Fn : Nat → Prop, Fn = (fun k => w0.heap.size ≤ k ∧ k < w1.heap.size) := ⟨_, rfl⟩
      have HFn : Hid (∀ k, Fn k → (F k ∨ (w0.heap.size ≤ k ∧ k < w1.heap.size))) := by rw [hFn]; exact fun k hk => .inr hk
      have how : Ow w1 Fn R 5 (.slice va s.rest.length vc) s.rest := Ow.ofOwn hown (fun g h1 h2 => by rw [hFn]; exact ⟨⟨h1, h2⟩, by have := HG0.out.dlt; omega⟩)
      have hgw := HG0.out.grow hb1
      have HGW : Hid (∀ W, Fr Fn w1 W → Rw W (fun k => F k ∨ (w0.heap.size ≤ k ∧ k < w1.heap.size)) R true s.kept s.rest ka kc ra rc) := fun W hW => by
        have hk : ∀ k, F k → W.heap[k]? = w1.heap[k]? := fun k hk => hW.heap (Nat.lt_of_lt_of_le (HG0.out.lt k hk) hb1.size) (by rw [hFn]; intro x; have := HG0.out.lt k hk; omega)
        have h1 := HG0.out.below hb1
        have h2 := h1.keep hW.size hk
        refine ⟨fun k hk => ?_, .inl h2.own, h2.heap, h2.k.mono (fun k hk => .inl hk), h2.r.mono (fun k hk => .inl hk)⟩
        rcases hk with x | x
        · exact h2.lt k x
        · exact Nat.lt_of_lt_of_le x.2 hW.size
      have HNX : Hid (∀ W W', Fr Fn w1 W → Fr (fun k => k = R) W W' → Nx F w W' (fun k => F k ∨ (w0.heap.size ≤ k ∧ k < w1.heap.size))) := fun W W' h1 h2 => by
        refine HN0.out.trans ⟨?_, fun k hk => ?_⟩
        · have x1 : Fr F w0 w1 := Fr.ofBelow hb1
          have x2 : Fr F w0 W := x1.trans h1 (fun i hi => by rw [hFn] at hi; exact .inr hi.1)
          exact x2.trans h2 (fun i hi => by subst hi; exact .inl HG0.out.own)
        · rcases hk with x | x
          · exact .inl x
          · exact .inr x.1
      have hcap := own_cap hown
      have hcl := (Row.own hown).2.1
      clear hgw hb1 hown hFn d1 c2 f2 hw0
      by_cases hkr : k < (s.rest.length : Int)
      · obtain ⟨n, rfl⟩ : ∃ n : Nat, k = (n : Int) := ⟨k.toNat, by omega⟩
        have HO := mkH (Ow.high how n (by omega))
        have HTK : Hid (s.rest.take (n : Int).toNat = s.rest.take n) := by rfl
        have HBL : Hid ((s.rest.take n).length = n) := by unfold Hid; rw [List.length_take]; omega
        generalize s.rest.take n = B at HO HTK HBL
        have hnb : n ≤ 4194304 := by omega
        have hln : s.kept.length + n ≤ 4194304 := by omega
        clear how
        generalize s.rest.length = r at *
        go_wp2_with fail
        go_loopw [8] (fun i W => ∃ j : Nat, j ≤ n ∧ i = .int .i64 j ∧ Hid (Ow W Fn R 5 (.slice va n vc) (pt B f (8 * j))) ∧ Hid (Fr Fn w1 W)) (fun i _ => n - (intOf i).toNat)
        case atStart => exact ⟨0, by omega, rfl, by rw [Nat.mul_zero, pt_zero]; exact HO, Fr.refl _ _⟩
        case round =>
          obtain ⟨j, hj, rfl, HOj, HFj⟩ := hrel
          by_cases hjn : j = n
          · subst hjn
            have hend : Ow wr Fn R 5 (.slice va j vc) (turn B f) := by
              have := HOj.out
              rw [show 8 * j = 8 * B.length by rw [HBL.out], pt_end] at this
              exact this
            have hgr := HGW.out wr HFj.out
            have hrd := (rd_ow hend).mono HFn.out
            have htl : (turn B f).length = j := by rw [turn_length, HBL.out]
            have d1 := hgr.c1
            have f1 := hgr.fz 1
            have hg2 : Rw (wr.setCell ⟨R, 1, none⟩ (.slice va j vc)) (fun k => F k ∨ (w0.heap.size ≤ k ∧ k < w1.heap.size)) R true s.kept (turn B f) ka kc va vc := by
              have := hgr.setRest hrd
              rw [htl] at this
              exact this
            have hf2 := rset_fr hgr.heap 1 (.slice va j vc)
            have HG2 := mkH hg2
            have HF2 := mkH hf2
            clear hgr hrd hg2 hf2 hend
            go_wp2
            go_ret
            refine ⟨ret_i HE.out, _, ?_, HNX.out wr _ HFj.out HF2.out⟩
            rw [HS.out, HTK.out]
            exact ⟨by show s.kept.length + (turn B f).length ≤ 4194304; rw [turn_length, HBL.out]; omega, ka, kc, va, vc, HG2.out⟩
          · have hjl : j < n := by omega
            go_wp2_with fail
            go_loopw [9] (fun i W => ∃ k : Nat, k ≤ 8 ∧ i = .int .i64 k ∧ Hid (Ow W Fn R 5 (.slice va n vc) (pt B f (8 * j + k))) ∧ Hid (Fr Fn w1 W)) (fun i _ => 8 - (intOf i).toNat)
            case atStart => exact ⟨0, by omega, rfl, HOj, HFj⟩
            case round =>
              clear HOj HFj
              obtain ⟨k, hk, rfl, HOk, HFk⟩ := hrel
              by_cases hk8 : k = 8
              · subst hk8
                go_wp2_with fail
                refine ⟨⟨j + 1, by omega, by go_num, ?_, HFk⟩, by simp [intOf]; omega⟩
                have := HOk.out
                rw [show 8 * j + 8 = 8 * (j + 1) by omega] at this
                exact this
              · have hk7 : k < 8 := by omega
                obtain ⟨T, hT⟩ : ∃ T, 8 * j + k = T := ⟨_, rfl⟩
                have eT0 : 8 * (j : Int) = ((8 * j : Nat) : Int) := by omega
                obtain ⟨T0, hT0⟩ : ∃ T0, 8 * j = T0 := ⟨_, rfl⟩
                rw [hT0] at eT0
                have eT : (T0 : Int) + (k : Int) = (T : Int) := by omega
                have hT1 : T0 ≤ 100000000 := by omega
                have hT2 : T ≤ 100000000 := by omega
                by_cases hfT : f = (T : Int)
                · have hpe := pt_eq B f j k hk7 (by rw [HBL.out]; exact hjl) (by rw [hT]; exact hfT)
                  have ho := HOk.out
                  rw [hpe.1] at ho
                  obtain ⟨g, cg, hv, hFg, hgR, hcell, hfz, hset⟩ := ow_set ho j (by rw [HBL.out]; exact hjl)
                  simp only [Value.slice.injEq] at hv
                  obtain ⟨rfl, hv2, rfl⟩ := hv
                  have HSET := mkH (hset (tb (B.getD j 0) k) 1)
                  have HTB := mkH (tb_int (B.getD j 0) k hk7)
                  have HPE := mkH hpe.2
                  have HTT := mkH hT
                  clear ho hset hpe hv2
                  generalize (tb (B.getD j 0) k) = y at HSET HTB HPE
                  generalize (B.getD j 0).toNat = x at hcell HTB
                  subst hfT
                  clear hT hT0
                  go_wp2_with fail
                  go_region
                  go_wp2_with fail
                  rw [HTB.out]
                  refine ⟨⟨k + 1, by omega, by go_num, ?_, ?_⟩, by simp [intOf]; omega⟩
                  · have := HSET.out.1
                    rw [show 8 * j + (k + 1) = 8 * j + k + 1 by omega, HPE.out]
                    exact this
                  · exact HFk.out.trans HSET.out.2 (fun i hi => .inl (by subst hi; exact hFg))
                · have tf : (f == (T : Int)) = false := by simp; exact hfT
                  have hpn := pt_ne B f (8 * j + k) (by rw [hT]; exact hfT)
                  have HPN := mkH hpn
                  clear hpn hT hT0
                  go_wp2_with fail
                  refine ⟨⟨k + 1, by omega, by go_num, ?_, HFk⟩, by simp [intOf]; omega⟩
                  have := HOk.out
                  rw [← HPN.out] at this
                  exact this
      · obtain ⟨n, hn⟩ : ∃ n : Nat, s.rest.length = n := ⟨_, rfl⟩
        have HO := mkH how
        have HTK : Hid (s.rest.take k.toNat = s.rest) := by unfold Hid; exact List.take_of_length_le (by omega)
        have HBL : Hid (s.rest.length = n) := hn
        obtain ⟨B, hB⟩ : ∃ B, s.rest = B := ⟨_, rfl⟩
        rw [hn] at HO hkr hcl hlen ⊢
        have hnb : n ≤ 4194304 := by omega
        have hln : s.kept.length + n ≤ 4194304 := by omega
        have HTK : Hid (s.rest.take k.toNat = B) := by unfold Hid; rw [HTK.out]; exact hB
        have HBL : Hid (B.length = n) := by unfold Hid; rw [← hB]; exact hn
        have HO : Hid (Ow w1 Fn R 5 (.slice va n vc) B) := by unfold Hid; rw [← hB]; exact HO.out
        have tk : decide (k < (n : Int)) = false := by simp; omega
        clear how hB hn
        go_wp2_with fail
        go_loopw [8] (fun i W => ∃ j : Nat, j ≤ n ∧ i = .int .i64 j ∧ Hid (Ow W Fn R 5 (.slice va n vc) (pt B f (8 * j))) ∧ Hid (Fr Fn w1 W)) (fun i _ => n - (intOf i).toNat)
        case atStart => exact ⟨0, by omega, rfl, by rw [Nat.mul_zero, pt_zero]; exact HO, Fr.refl _ _⟩
        case round =>
          obtain ⟨j, hj, rfl, HOj, HFj⟩ := hrel
          by_cases hjn : j = n
          · subst hjn
            have hend : Ow wr Fn R 5 (.slice va j vc) (turn B f) := by
              have := HOj.out
              rw [show 8 * j = 8 * B.length by rw [HBL.out], pt_end] at this
              exact this
            have hgr := HGW.out wr HFj.out
            have hrd := (rd_ow hend).mono HFn.out
            have htl : (turn B f).length = j := by rw [turn_length, HBL.out]
            have d1 := hgr.c1
            have f1 := hgr.fz 1
            have hg2 : Rw (wr.setCell ⟨R, 1, none⟩ (.slice va j vc)) (fun k => F k ∨ (w0.heap.size ≤ k ∧ k < w1.heap.size)) R true s.kept (turn B f) ka kc va vc := by
              have := hgr.setRest hrd
              rw [htl] at this
              exact this
            have hf2 := rset_fr hgr.heap 1 (.slice va j vc)
            have HG2 := mkH hg2
            have HF2 := mkH hf2
            clear hgr hrd hg2 hf2 hend
            go_wp2
            go_ret
            refine ⟨ret_i HE.out, _, ?_, HNX.out wr _ HFj.out HF2.out⟩
            rw [HS.out, HTK.out]
            exact ⟨by show s.kept.length + (turn B f).length ≤ 4194304; rw [turn_length, HBL.out]; omega, ka, kc, va, vc, HG2.out⟩
          · have hjl : j < n := by omega
            go_wp2_with fail
            go_loopw [9] (fun i W => ∃ k : Nat, k ≤ 8 ∧ i = .int .i64 k ∧ Hid (Ow W Fn R 5 (.slice va n vc) (pt B f (8 * j + k))) ∧ Hid (Fr Fn w1 W)) (fun i _ => 8 - (intOf i).toNat)
            case atStart => exact ⟨0, by omega, rfl, HOj, HFj⟩
            case round =>
              clear HOj HFj
              obtain ⟨k, hk, rfl, HOk, HFk⟩ := hrel
              by_cases hk8 : k = 8
              · subst hk8
                go_wp2_with fail
                refine ⟨⟨j + 1, by omega, by go_num, ?_, HFk⟩, by simp [intOf]; omega⟩
                have := HOk.out
                rw [show 8 * j + 8 = 8 * (j + 1) by omega] at this
                exact this
              · have hk7 : k < 8 := by omega
                obtain ⟨T, hT⟩ : ∃ T, 8 * j + k = T := ⟨_, rfl⟩
                have eT0 : 8 * (j : Int) = ((8 * j : Nat) : Int) := by omega
                obtain ⟨T0, hT0⟩ : ∃ T0, 8 * j = T0 := ⟨_, rfl⟩
                rw [hT0] at eT0
                have eT : (T0 : Int) + (k : Int) = (T : Int) := by omega
                have hT1 : T0 ≤ 100000000 := by omega
                have hT2 : T ≤ 100000000 := by omega
                by_cases hfT : f = (T : Int)
                · have hpe := pt_eq B f j k hk7 (by rw [HBL.out]; exact hjl) (by rw [hT]; exact hfT)
                  have ho := HOk.out
                  rw [hpe.1] at ho
                  obtain ⟨g, cg, hv, hFg, hgR, hcell, hfz, hset⟩ := ow_set ho j (by rw [HBL.out]; exact hjl)
                  simp only [Value.slice.injEq] at hv
                  obtain ⟨rfl, hv2, rfl⟩ := hv
                  have HSET := mkH (hset (tb (B.getD j 0) k) 1)
                  have HTB := mkH (tb_int (B.getD j 0) k hk7)
                  have HPE := mkH hpe.2
                  have HTT := mkH hT
                  clear ho hset hpe hv2
                  generalize (tb (B.getD j 0) k) = y at HSET HTB HPE
                  generalize (B.getD j 0).toNat = x at hcell HTB
                  subst hfT
                  clear hT hT0
                  go_wp2_with fail
                  go_region
                  go_wp2_with fail
                  rw [HTB.out]
                  refine ⟨⟨k + 1, by omega, by go_num, ?_, ?_⟩, by simp [intOf]; omega⟩
                  · have := HSET.out.1
                    rw [show 8 * j + (k + 1) = 8 * j + k + 1 by omega, HPE.out]
                    exact this
                  · exact HFk.out.trans HSET.out.2 (fun i hi => .inl (by subst hi; exact hFg))
                · have tf : (f == (T : Int)) = false := by simp; exact hfT
                  have hpn := pt_ne B f (8 * j + k) (by rw [hT]; exact hfT)
                  have HPN := mkH hpn
                  clear hpn hT hT0
                  go_wp2_with fail
                  refine ⟨⟨k + 1, by omega, by go_num, ?_, HFk⟩, by simp [intOf]; omega⟩
                  have := HOk.out
                  rw [← HPN.out] at this
                  exact this
  · rw [hd] at HE HS c2
    simp only [if_true] at HE HS
    go_enter Try.func33, Try.ntmps33
    go_wp2
    go_ret
    exact ⟨ret_i HE.out, by rw [HS.out]; exact ro_same H0.out⟩
end Go.Proofs.Ytgdmkhmdfijieaa.Dr3
