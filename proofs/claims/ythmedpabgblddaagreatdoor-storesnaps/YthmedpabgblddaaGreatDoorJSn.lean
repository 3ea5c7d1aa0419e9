/-
  A log's copy.
  StoreSnaps.
-/
import Derived.Test.YthmedpabgblddaaGreatDoorSgV
import Derived.Test.YthmedpabgblddaaGreatDoorJnD
namespace Go.Proofs.YthmedpabgblddaaGreatDoor.Sgj
open Go.RowKit Kt Cs Cf Cv Ck Ca Dk Dp Da Db Dc Dd De Sq Sr Sa Sb Sc Se Sf Sk Sm St Su Sv Pl
set_option linter.unusedVariables false
set_option linter.unusedSimpArgs false
set_option maxRecDepth 20000

theorem own_weak {lo lo' e size n : Nat} {W : World} {v : Value} {xs : List Value} (h : W.ownsRow lo e size v n xs) (hl : lo' ≤ lo) : W.ownsRow lo' e size v n xs := by
  refine ⟨h.1, ?_⟩
  rcases h.2 with h1 | ⟨g, cap, cur, rfl, e2, e3⟩
  · exact .inl h1
  · exact .inr ⟨g, cap, cur, rfl, Nat.le_trans hl e2, e3⟩

set_option maxHeartbeats 1000000 in
theorem lcopy_any {w : World} {F : Nat → Prop} {B : Nat} {h : H} (hl : Lg w F B h) (hp : 1 ≤ h.per) (hn : h.segs.length ≤ 256) :
    Calls Tryz.prog 47 #[.pointer (some ⟨B, 0, none⟩)] w fun e w' => e = .returned (.pointer (some ⟨w.heap.size, 0, none⟩)) ∧ Lg w' (fun k => w.heap.size ≤ k ∧ k < w'.heap.size) w.heap.size h ∧ Below w.heap.size w w' := by
  have HL := mkH hl
  obtain ⟨v, FD, Ps, h1, h2⟩ := hl
  obtain ⟨ao, cap, rfl⟩ := own_form h1.row.1
  have c0 := h1.c0
  have c1 := h1.c1
  have c2 := h1.c2
  have c3 := h1.c3
  have c4 := h1.c4
  have c5 := h1.c5
  clear h1 h2
  generalize Ps.length = n at *
  go_enter Tryz.func47, Tryz.ntmps47
  go_wp2_with fail
  refine (isMade_any w B _ hp c0).mono ?_
  rintro e w1 ⟨rfl, hw⟩
  have hw2 := hw.symm
  subst hw2
  clear hw
  go_wp2_with fail
  obtain ⟨w0, hw0⟩ : ∃ w0, w.alloc (.cells #[.int .i64 (h.per : Int), .bool h.dn.isSome, .slice ao n cap, .int .i64 (nb h : Int), .int .i64 (nn h : Int), .int .i64 (ns h : Int)] 75) = w0 := ⟨_, rfl⟩
  have hb0 : Below w.heap.size w w0 := by rw [← hw0]; exact (Below.refl _ w).alloc (Nat.le_refl _) _
  have hs0 : w0.heap.size = w.heap.size + 1 := by rw [← hw0]; simp
  have hh0 : w0.heap[w.heap.size]? = some (.cells #[.int .i64 (h.per : Int), .bool h.dn.isSome, .slice ao n cap, .int .i64 (nb h : Int), .int .i64 (nn h : Int), .int .i64 (ns h : Int)] 75 (0, 0)) := by rw [← hw0]; exact heap_alloc_new _ _
  rw [hw0]
  clear hw0 c0 c1 c2 c3 c4 c5
  refine (segments_any (HL.out.below hb0) hp hn).mono ?_
  rintro e w2 ⟨v2, FD2, Ps2, rfl, hnd⟩
  have hb2 := hnd.below
  have hh2 : w2.heap[w.heap.size]? = some (.cells #[.int .i64 (h.per : Int), .bool h.dn.isSome, .slice ao n cap, .int .i64 (nb h : Int), .int .i64 (nn h : Int), .int .i64 (ns h : Int)] 75 (0, 0)) := by rw [hb2.block _ (by omega)]; exact hh0
  have hs2 := hb2.size
  have d2 : w2.cell? ⟨w.heap.size, 2, none⟩ = some (.slice ao n cap) := by rw [cell_of_row _ _ _ _ _ _ hh2]; rfl
  have f2 : w2.frozen? ⟨w.heap.size, 2, none⟩ = false := frozen_of_row w2 _ 2 _ _ hh2
  have hrp : Rp w2 (fun k => w.heap.size ≤ k ∧ k < w2.heap.size) FD2 w.heap.size v2 Ps2 := by
    refine ⟨own_weak hnd.own (Nat.zero_le _), fun g hg => ⟨?_, ?_, hnd.blk g hg⟩⟩
    · have := own_blk hnd.own hg; exact ⟨by omega, this.1⟩
    · have := own_blk hnd.own hg; omega
  have hmk := lr_mk (F := fun k => w.heap.size ≤ k ∧ k < w2.heap.size) (FD := FD2) (fun k hk => hk.2) ⟨Nat.le_refl _, by omega⟩ (fun k hk => ⟨by have := hnd.fd k hk; omega, by have := hnd.fd k hk; omega⟩) hh2 hrp
  have hfr := lr_fr2 hh2 v2
  have hsk := hnd.sk.fr hfr (fun k hk e => by have := hnd.fd k hk; omega)
  have hsz : (w2.setCell ⟨w.heap.size, 2, none⟩ v2).heap.size = w2.heap.size := by rw [setCell_eq_setRow w2 _ 2 _ _ (0, 0) _ hh2, setRow_size]
  have hlg : Lg (w2.setCell ⟨w.heap.size, 2, none⟩ v2) (fun k => w.heap.size ≤ k ∧ k < (w2.setCell ⟨w.heap.size, 2, none⟩ v2).heap.size) w.heap.size h := by
    rw [hsz]
    exact ⟨v2, FD2, Ps2, hmk, hsk⟩
  have hbb : Below w.heap.size w (w2.setCell ⟨w.heap.size, 2, none⟩ v2) := (hb0.trans (hb2.mono (by omega))).trans (hfr.below (fun k hk => by omega) (by omega))
  have HLG := mkH hlg
  have HBB := mkH hbb
  obtain ⟨va, vc, rfl⟩ := own_form hnd.own
  clear hnd hb2 hh2 hs2 hrp hmk hfr hsk hsz hlg hbb hb0 hs0 hh0
  go_wp2
  go_ret
  exact ⟨rfl, HLG.out, HBB.out⟩
end Go.Proofs.YthmedpabgblddaaGreatDoor.Sgj

namespace Go.Proofs.YthmedpabgblddaaGreatDoor.Tsn
open Go.RowKit Kt Dk Dp Da Dc De Tp Tm Pl Cs Cf Cn Cv Sq Sr Sa Sb Sc Se St Sv Rd Wr Ta Tb0 Tc Td Te Tf Tg Tt Th Ti Tj Tk Tl Tn To Tx Tw Ty Sgj Go.Maps
set_option linter.unusedVariables false
set_option maxRecDepth 20000

theorem log_sn {w1 : World} {G : Nat → Prop} {w : World} {S : Nat} {t : Tt.T} {N : Nat} (hl : Sn w1 G w S t) (hi : TI N t) : Calls Tryz.prog 21 #[.pointer (some ⟨S, 0, none⟩)] w fun e w' => e = .returned (.pointer (some ⟨w.heap.size, 0, none⟩)) ∧ Lg w' (fun k => w.heap.size ≤ k ∧ k < w'.heap.size) w.heap.size t.h ∧ Below w.heap.size w w' := by
  obtain ⟨F, ⟨B, D, Mb, F1, F2, p⟩, h2⟩ := hl.sr
  have hm := isMade_any w S B p.sm.c1
  have c1 := p.sm.c1
  have hc := lcopy_any p.lg hi.inv.p1 hi.inv.n
  clear p h2
  go_enter Tryz.func21, Tryz.ntmps21
  go_wp2_with fail
  refine hm.mono ?_
  rintro e w1 ⟨rfl, hw⟩
  have hw2 := hw.symm
  subst hw2
  clear hw hm
  go_wp2_with fail
  refine hc.mono ?_
  rintro e w2 ⟨rfl, h3, h4⟩
  have H3 := mkH h3
  clear h3 hc
  go_wp2
  go_ret
  exact ⟨rfl, H3.out, h4⟩

set_option maxHeartbeats 8000000 in
theorem snaps_any (w : World) (hT : Tb w) (per : Int) (ao : Option Addr) (cap : Nat) (la : List Ac) (hr : RowA w ao la) (hl : la.length ≤ cap) (hc : cap ≤ 9223372036854775807) (f : Int) (hf : f ≤ 9223372036854775807) :
    Calls Tryz.prog 6 #[.int .i64 per, .slice ao la.length cap, .int .i64 f] w fun e w' => e = .returned (.bool true) ∧ Below w.heap.size w w' := by
  have hp := plays_any w hT per ao cap la hr hl hc
  have HP := mkH hp
  have hw0 := hT.size
  clear hp hT hr
  generalize la.length = LA at *
  go_enter Tryz.func6, Tryz.ntmps6
  go_wp2_with fail
  refine HP.out.mono ?_
  rintro e w2 ⟨S, t, rfl, hd, hi, h1⟩
  have H2 := mkH h1
  have HI := mkH hi
  have HD := mkH hd
  clear h1 hi hd HP
  go_wp2_with fail
  have hpm := promised_sn H2.out
  refine hpm.mono ?_
  rintro e w' ⟨rfl, hw⟩
  have hw2 := hw.symm
  subst hw2
  clear hw hpm
  go_wp2_with fail
  have hh := has_any H2.out HI.out
  refine hh.mono ?_
  rintro e w3 ⟨a, c, l, rfl, hs3, hm3, hb3⟩
  have h3 := H2.out.more hb3
  have hbw3 : Below w.heap.size w w3 := (H2.out.toBelow (fun k hk => hk)).trans (hb3.mono H2.out.size)
  have hs03 : w.heap.size ≤ w3.heap.size := hbw3.size
  have HS3 := mkH hs3
  have HM3 := mkH hm3
  have H3 := mkH h3
  have HBW := mkH hbw3
  clear hh hs3 hm3 h3 hb3 H2 hbw3
  obtain ⟨ln, hln⟩ : ∃ ln, l.length = ln := ⟨_, rfl⟩
  have hln61 : ln ≤ 61 := by have h61 := HI.out.ok.len; rw [← HM3.out, List.length_map, hln] at h61; exact h61
  have HLN := mkH hln
  rw [hln]
  clear hln
  obtain ⟨PR, hPR⟩ : ∃ PR, (mm t).pr = PR := ⟨_, rfl⟩
  have HPR := mkH hPR
  rw [hPR]
  clear hPR
  go_wp2_with fail
  have hsp := snapshot_sn H3.out HI.out
  have e1 : yE t = 0 := by simp [yE, HD.out]
  have e2 : nT t = sp t := by simp [nT, HD.out]
  rw [e1, e2] at hsp
  refine hsp.mono ?_
  rintro e w4 ⟨rfl, h4⟩
  have H4 := mkH h4
  clear h4 hsp e1 e2 H3
  go_wp2_with fail
  have hlg := log_sn H4.out HI.out.sp
  refine hlg.mono ?_
  rintro e w5 ⟨rfl, hl5, hb5⟩
  have hlen := Sa.len_any hl5 HI.out.sp.inv.p1
  have e3 : nn (sp t).h = 0 := rfl
  rw [e3] at hlen
  have H5 := mkH (H4.out.below hb5)
  clear hlg hl5 hb5 e3 H4
  go_wp2_with fail
  refine hlen.mono ?_
  rintro e w' ⟨rfl, hw⟩
  have hw2 := hw.symm
  subst hw2
  clear hw hlen
  go_wp2_with fail
  have hpm := promised_sn H5.out
  rw [mm_sp, HPR.out] at hpm
  refine hpm.mono ?_
  rintro e w' ⟨rfl, hw⟩
  have hw2 := hw.symm
  subst hw2
  clear hw hpm
  go_wp2_with fail
  have hcr := crash_sn H5.out HI.out.sp 0 f hf
  have e4 : cE (sp t) 0 = 0 := rfl
  rw [e4] at hcr
  refine hcr.mono ?_
  rintro e w7 ⟨rfl, h7⟩
  have H7 := mkH h7
  have HI4 := mkH (HI.out.sp.cr 0 f)
  have HD4 : Hid (dn (cr (sp t) 0 f) = true) := dn_cr rfl (by omega) f
  clear h7 hcr e4 H5
  go_wp2_with fail
  have hrs := restart_sn H7.out HI4.out (by omega)
  have e5 : rE (cr (sp t) 0 f) = 0 := by unfold rE; rw [HD4.out]; rfl
  rw [e5] at hrs
  refine hrs.mono ?_
  rintro e w6 ⟨rfl, h6⟩
  have H6 := mkH h6
  clear h6 hrs e5 H7
  have HSY := mkH (snapped HI.out 0 f)
  go_wp2_with fail
  have hpm := promised_sn H6.out
  rw [HSY.out, HPR.out] at hpm
  refine hpm.mono ?_
  rintro e w' ⟨rfl, hw⟩
  have hw2 := hw.symm
  subst hw2
  clear hw hpm
  go_wp2_with fail
  have hh := has_any H6.out HI4.out.rs
  rw [HSY.out] at hh
  refine hh.mono ?_
  rintro e w7 ⟨a2, c2, l2, rfl, hs7, hm7, hb7⟩
  have hs3' : Hs w2.heap.size w7 (.slice a l.length c) l := (HS3.out.keep (fun k h1 h2 => H6.out.fr.heap h2 (fun x => x (.inr ⟨h1, h2⟩)))).below hb7
  have hmm : l.map hV = l2.map hV := by rw [HM3.out, hm7]
  have hll := hV_len hmm
  have hT7 : Tb w7 := (H6.out.below hb7).tbw
  have hb36 : Below w.heap.size w3 w6 := H6.out.toBelow (fun k hk => .inl hk)
  have hbw7 : Below w.heap.size w w7 := HBW.out.trans (hb36.trans (hb7.mono (by have := hb36.size; omega)))
  rw [HLN.out] at hll
  have HS7 := mkH hs7
  have HS3b := mkH hs3'
  have HMM := mkH hmm
  have HT7 := mkH hT7
  have HB7 := mkH hbw7
  rw [HLN.out] at HS3b
  rw [← hll] at HS7 ⊢
  have HL2 := mkH hll
  clear hh hs7 hm7 hb7 hs3' hmm hll hT7 hbw7 hb36 H6 HS3 HBW HI4 HD4
  go_wp2_with fail
  go_loopw [62] (fun i W => ∃ j : Nat, j ≤ ln ∧ i = .int .i64 (j : Int) ∧ Hid (Hs w2.heap.size W (.slice a ln c) l ∧ Hs w6.heap.size W (.slice a2 ln c2) l2 ∧ Tb W ∧ Below w.heap.size w W)) (fun i _ => ln - (intOf i).toNat)
  case atStart => exact ⟨0, Nat.zero_le _, rfl, HS3b.out, HS7.out, HT7.out, HB7.out⟩
  case round =>
    clear HS3b HS7 HT7 HB7
    obtain ⟨j, hj, rfl, HR⟩ := hrel
    rcases Nat.lt_or_ge j ln with hjl | hjl
    · have hA1 := HR.out.1
      rw [← HLN.out] at hA1
      obtain ⟨g, x, rfl, hx, cx0, cx1, cx2, rx⟩ := hs_at hA1 (by rw [HLN.out]; exact hjl)
      have hA2 := HR.out.2.1
      rw [HL2.out] at hA2
      obtain ⟨g2, y, rfl, hy, cy0, cy1, cy2, ry⟩ := hs_at hA2 (by rw [← HL2.out]; exact hjl)
      obtain ⟨q1, q2, q3⟩ := hV_at HMM.out hx hy
      rw [← q1] at cy0
      rw [← q2] at cy1
      rw [← q3] at cy2 ry
      have s1 := strN rx x.cap
      have s2 := strN ry y.cap
      clear hA1 hA2 hx hy q1 q2 q3 rx ry
      generalize x.val.length = VL at *
      generalize Kt.S x.val = SV at *
      obtain ⟨xk, xb, xa, xc, xv⟩ := x
      obtain ⟨yk, yb, ya, yc, yv⟩ := y
      simp only at cx0 cx1 cx2 cy0 cy1 cy2 s1 s2
      go_wp2_with fail
      go_quiet (fail)
      go_wp2
      go_roundw
      case rel => exact ⟨j + 1, by omega, by go_num, HR.out.1.keep (fun _ _ _ => rfl), HR.out.2.1.keep (fun _ _ _ => rfl), HR.out.2.2.1, below_drewN HR.out.2.2.2 _⟩
      case measure => simp [intOf]; omega
    · have hjn : j = ln := by omega
      subst hjn
      have hd : decide ((j : Int) < (j : Int)) = false := by simp
      go_wp2_with fail
      refine (works_any _ HR.out.2.2.1).mono ?_
      rintro e w9 ⟨rfl, hb9⟩
      go_wp2
      go_ret
      exact ⟨rfl, HR.out.2.2.2.trans (hb9.mono HR.out.2.2.2.size)⟩
end Go.Proofs.YthmedpabgblddaaGreatDoor.Tsn
