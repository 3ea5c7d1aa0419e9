/-
  Receive.
-/
import Derived.Test.YtcpmaddleleblaaDoorGpE
import Derived.Test.YtcpmaddleleblaaDoorGpV
import Derived.Deep.CutBlock
import Derived.Deep.DeepCutAuto
namespace Go.Proofs.YtcpmaddleleblaaDoor.Gg
open Go.RowKit Kt Gf Gp Gr Gk Ga Gs Gb Ge
set_option linter.unusedVariables false
set_option linter.unusedSimpArgs false
set_option maxRecDepth 20000

/-- Lists that a call tells: as they are read. -/
structure Ls (w : World) (l : List K) (a : Option Addr) (c : Nat) : Prop where
  r : RowK w a l
  l : l.length ≤ c
  b : c ≤ 9223372036854775807
theorem Ls.below {w w' : World} {l : List K} {a : Option Addr} {c : Nat} (h : Ls w l a c) (hb : Below w.heap.size w w') : Ls w' l a c := ⟨h.r.below hb, h.l, h.b⟩
theorem Ls.nil (w : World) : Ls w [] none 0 := ⟨RowS.nil _ _, Nat.le_refl _, by omega⟩

set_option maxHeartbeats 4000000 in
theorem Receive_own (w : World) (g : G) (ka : Option Addr) (kc : Nat) (ma : Option Addr) (mc : Nat) (h : Gl w g ka kc ma mc) (hk : g.kept.length ≤ 100000000) (hm : g.marks.length ≤ 1000000000) (ho : OkG g) (now mx secs most room : Int) (hn : Sm now) (hs : Sm secs)
    (g' : G) (got dead : List K) (hg' : rcvG g now mx secs most room = g') (hgot : rcvGot g now mx secs most room = got) (hdead : rcvDead g now mx secs most room = dead) :
    Calls Tryd.prog 10 #[.agg (gC g ka kc ma mc), .int .i64 now, .int .i64 mx, .int .i64 secs, .int .i64 most, .int .i64 room] w fun e w' => ∃ ka' kc' ma' mc' ga gc da dc, e = .returned (.tuple #[.agg (gC g' ka' kc' ma' mc'), .slice ga got.length gc, .slice da dead.length dc]) ∧ Go' w.heap.size w' g' ka' kc' ma' mc' ∧ Ls w' got ga gc ∧ Ls w' dead da dc ∧ Below w.heap.size w w' := by
  have HL := mkH h
  have HOk := mkH ho
  have HG' := mkH hg'
  have HGo := mkH hgot
  have HDe := mkH hdead
  clear h ho hg' hgot hdead
  obtain ⟨nx, kp, mk, at'⟩ := g
  simp only [gC] at hk hm ⊢
  have HA := mkH (((Below.refl w.heap.size w).alloc (Nat.le_refl _) (.cells #[Value.int .i64 nx, .slice ka kp.length kc, .slice ma mk.length mc, .string at'] 25)).alloc (by simp) (.cells #[.int .i64 0, .slice none 0 0, .slice none 0 0, .string ⟨#[]⟩] 25))
  have HC0 := mkH ((Bx.new w #[Value.int .i64 nx, .slice ka kp.length kc, .slice ma mk.length mc, .string at'] 25).alloc (.cells #[.int .i64 0, .slice none 0 0, .slice none 0 0, .string ⟨#[]⟩] 25))
  have HC1 := mkH (Bx.new1 w (.cells #[Value.int .i64 nx, .slice ka kp.length kc, .slice ma mk.length mc, .string at'] 25) #[.int .i64 0, .slice none 0 0, .slice none 0 0, .string ⟨#[]⟩] 25)
  have HSZ : Hid (((w.alloc (.cells #[Value.int .i64 nx, .slice ka kp.length kc, .slice ma mk.length mc, .string at'] 25)).alloc (.cells #[.int .i64 0, .slice none 0 0, .slice none 0 0, .string ⟨#[]⟩] 25)).heap.size = w.heap.size + 2) := by unfold Hid; simp
  go_enter Tryd.func10, Tryd.ntmps10
  go_wp2_with fail
  generalize (w.alloc (.cells #[Value.int .i64 nx, .slice ka kp.length kc, .slice ma mk.length mc, .string at'] 25)).alloc (.cells #[.int .i64 0, .slice none 0 0, .slice none 0 0, .string ⟨#[]⟩] 25) = w0 at *
  obtain ⟨R, hR⟩ : ∃ R, w.heap.size + 1 = R := ⟨_, rfl⟩
  rw [hR] at HC1 ⊢
  have h3 := HSZ.out
  have r1 : w.heap.size < R := by omega
  have r2 : R < w0.heap.size := by omega
  have hneR : ¬ w.heap.size = R := by omega
  clear hR
  refine (copyOf_any w0 ⟨nx, kp, mk, at'⟩ ka kc ma mc (HL.out.below HA.out) (by show kp.length ≤ _; omega) hm).mono ?_
  rintro e w1 ⟨ka1, kc1, ma1, mc1, rfl, hg1, hb1⟩
  simp only [gC]
  have hC1 := HC1.out.bel hb1
  have hC0 := HC0.out.bel hb1
  obtain ⟨d0, d1, d2, d3, f0, f1, f2, f3⟩ := hC1.four
  obtain ⟨m0, m1, m2, m3, -⟩ := hC0.four
  have HC11 := mkH hC1
  have HC01 := mkH hC0
  have HG1 := mkH hg1
  have HB1 : Hid (Below w.heap.size w w1) := HA.out.trans (hb1.mono (by omega))
  have hs1 := hb1.size
  clear hC1 hC0 hg1 hb1 HC0 HC1 HA
  go_wp2_with fail
  obtain ⟨hR2, hF2⟩ := HC11.out.sAll (v0 := .int .i64 nx) (v1 := .slice ka1 kp.length kc1) (v2 := .slice ma1 mk.length mc1) (v3 := .string at')
  have hO2 := HC01.out.fr hF2 (by omega)
  have hK2 := own_fr HG1.out.k hF2 (fun k hk hk2 => own_ne HG1.out.k HC11.out hk (by decide) hk2)
  have hM2 := own_fr HG1.out.m hF2 (fun k hk hk2 => own_ne HG1.out.m HC11.out hk (by decide) hk2)
  have HB2 := mkH (below_fr HB1.out hF2 (fun k hk => by omega) (Nat.le_refl _))
  generalize (((w1.setCell ⟨R, 0, none⟩ (.int .i64 nx)).setCell ⟨R, 1, none⟩ (.slice ka1 kp.length kc1)).setCell ⟨R, 2, none⟩ (.slice ma1 mk.length mc1)).setCell ⟨R, 3, none⟩ (.string at') = w2 at *
  have hs2 := hF2.size
  have HF := mkH (Flying_any w2 ⟨nx, kp, mk, at'⟩ ka kc ma mc (HL.out.below HB2.out) (by show kp.length ≤ _; omega) now)
  simp only [gC] at HF
  refine HF.out.mono ?_
  rintro e w3 ⟨rfl, hb3⟩
  have HR3 := mkH (hR2.bel hb3)
  have HO3 := mkH (hO2.bel hb3)
  have HK3 := mkH (own_below hK2 hb3)
  have HM3 := mkH (own_below hM2 hb3)
  have HB3 : Hid (Below w.heap.size w w3) := HB2.out.trans (hb3.mono HB2.out.size)
  obtain ⟨d0, d1, d2, d3, f0, f1, f2, f3⟩ := HR3.out.four
  obtain ⟨m0, m1, m2, m3, -⟩ := HO3.out.four
  have hs3 := hb3.size
  clear HC11 HC01 HG1 HB1 HF hR2 hF2 hO2 hK2 hM2 HB2 hb3
  cases hfl : flying ⟨nx, kp, mk, at'⟩ now with
  | true =>
    have q1 : g' = ⟨nx, kp, mk, at'⟩ := by rw [← HG'.out]; unfold rcvG; rw [if_pos hfl]
    have q2 : got = [] := by rw [← HGo.out]; unfold rcvGot; rw [if_pos hfl]
    have q3 : dead = [] := by rw [← HDe.out]; unfold rcvDead; rw [if_pos hfl]
    subst q1 q2 q3
    clear hfl HG' HGo HDe
    go_wp2
    obtain ⟨hR4, hF4⟩ := HR3.out.sAll (v0 := .int .i64 nx) (v1 := .slice ka1 kp.length kc1) (v2 := .slice ma1 mk.length mc1) (v3 := .string at')
    generalize (((w3.setCell ⟨R, 0, none⟩ (.int .i64 nx)).setCell ⟨R, 1, none⟩ (.slice ka1 kp.length kc1)).setCell ⟨R, 2, none⟩ (.slice ma1 mk.length mc1)).setCell ⟨R, 3, none⟩ (.string at') = w4 at *
    refine bodyPost_ret (res_ctt rfl _ _ _ rfl rfl rfl (loadG hR4)) rfl ⟨ka1, kc1, ma1, mc1, none, 0, none, 0, rfl, ⟨?_, ?_⟩, Ls.nil _, Ls.nil _, ?_⟩
    · exact own_mono (own_fr HK3.out hF4 (fun k hk hk2 => own_ne HK3.out HR3.out hk (by decide) hk2)) (by omega)
    · exact own_mono (own_fr HM3.out hF4 (fun k hk hk2 => own_ne HM3.out HR3.out hk (by decide) hk2)) (by omega)
    · exact below_fr HB3.out hF4 (by intro k hk; omega) (Nat.le_refl _)
  | false =>
    have HFL := mkH hfl
    have hb1 : -9223372036854775808 ≤ now + secs := by unfold Sm at hn hs; omega
    have hb2 : now + secs ≤ 9223372036854775807 := by unfold Sm at hn hs; omega
    clear hfl
    go_upto_block 0 with fail
    go_cut [13, 14, 15] (fun s13 s14 s15 WW => ∃ (n : Nat) (gt dd : List K) (ga : Option Addr) (gc : Nat) (da : Option Addr) (dc : Nat), n ≤ kp.length ∧ s13 = (.slice ga gt.length gc) ∧ s14 = (.slice da dd.length dc) ∧ s15 = .int .i64 (n : Int) ∧ Hid (rcv now mx secs most room [] [] kp = (gt, dd, kp.drop n)) ∧ gt.length ≤ n ∧ dd.length ≤ n ∧ Hid (WW.ownsRow w3.heap.size 61 6 (.slice ga gt.length gc) gt.length (Fk gt)) ∧ Hid (WW.ownsRow w3.heap.size 61 6 (.slice da dd.length dc) dd.length (Fk dd)) ∧ Hid (∀ k, (Value.slice ga gt.length gc).ownBlock = some k → (Value.slice da dd.length dc).ownBlock ≠ some k) ∧ Hid (Below w3.heap.size w3 WW))
    case first =>
      go_wp2_with fail
      go_loopw [13, 14, 15, 17, 18, 30] (fun s13 s14 s15 _ _ i WW => ∃ (n : Nat) (gt dd : List K) (ga : Option Addr) (gc : Nat) (da : Option Addr) (dc : Nat), n ≤ kp.length ∧ i = .int .i64 (n : Int) ∧ s13 = (.slice ga gt.length gc) ∧ s14 = (.slice da dd.length dc) ∧ s15 = .int .i64 (n : Int) ∧ Hid (rcv now mx secs most room [] [] kp = rcv now mx secs most room gt dd (kp.drop n)) ∧ gt.length ≤ n ∧ dd.length ≤ n ∧ Hid (WW.ownsRow w3.heap.size 61 6 (.slice ga gt.length gc) gt.length (Fk gt)) ∧ Hid (WW.ownsRow w3.heap.size 61 6 (.slice da dd.length dc) dd.length (Fk dd)) ∧ Hid (∀ k, (Value.slice ga gt.length gc).ownBlock = some k → (Value.slice da dd.length dc).ownBlock ≠ some k) ∧ Hid (Below w3.heap.size w3 WW)) (fun _ _ _ _ _ i _ => kp.length - (intOf i).toNat)
      case atStart => exact ⟨0, [], [], none, 0, none, 0, Nat.zero_le _, rfl, rfl, rfl, rfl, mkH rfl, Nat.le_refl _, Nat.le_refl _, World.ownsRow_nil w3 _ _ _, World.ownsRow_nil w3 _ _ _, mkH (fun k hk => by simp [Value.ownBlock] at hk), mkH (Below.refl _ _)⟩
      case round =>
        obtain ⟨j, gt, dd, ga, gc, da, dc, hj, rfl, rfl, rfl, rfl, HR, hgl, hdl, HOg, HOd, HAp, HBw⟩ := hrel
        rcases Nat.lt_or_ge j kp.length with hjl | hjl
        · obtain ⟨x, hx⟩ := some_of hjl
          have hokx := HOk.out.2.1 x (List.mem_of_getElem? hx)
          have hrow : RowK wr ka kp := (HL.out.k.below HB3.out).below HBw.out
          obtain ⟨b, off, rfl, z0, z1, z2, z3, z4, z5⟩ := atK hrow hx
          have HDJ : Hid (kp.drop j = x :: kp.drop (j + 1)) := by
            obtain ⟨h1, h2⟩ := List.getElem?_eq_some_iff.1 hx
            unfold Hid; rw [← h2, List.getElem_cons_drop h1]
          have hc1 : -9223372036854775808 ≤ x.cnt + 1 := by have := hokx.2.2.1; unfold Sm at this; omega
          have hc2 : x.cnt + 1 ≤ 9223372036854775807 := by have := hokx.2.2.1; unfold Sm at this; omega
          have hsw := HBw.out.size
          obtain ⟨x0, x1, x2, x3, x4, x5⟩ := x
          simp only at z0 z1 z2 z3 z4 z5 hc1 hc2
          have halA : Below wr.heap.size wr (wr.alloc (.cells #[Value.int .i64 x0, .int .i64 x1, .int .i64 x2, .int .i64 x3, .int .i64 x4, .string x5] 61)) := (Below.refl _ wr).alloc (Nat.le_refl _) _
          have HOgA := mkH (own_below HOg.out halA)
          have HOdA := mkH (own_below HOd.out halA)
          have HBA : Hid (Below w3.heap.size w3 (wr.alloc (.cells #[Value.int .i64 x0, .int .i64 x1, .int .i64 x2, .int .i64 x3, .int .i64 x4, .string x5] 61))) := HBw.out.trans (halA.mono hsw)
          clear hx hokx hrow halA
          by_cases hw1 : 0 < most
          · have t1 : decide (0 < most) = true := by simpa using hw1
            by_cases hw2 : most ≤ x2
            · have t3 : decide (most ≤ x2) = true := by simpa using hw2
              by_cases hmx : mx ≤ (gt.length : Int)
              · have t5 : decide (mx ≤ (gt.length : Int)) = true := by simpa using hmx
                go_wp2_with fail
                go_meet
                case rel => exact ⟨j, gt, dd, ga, gc, da, dc, by omega, rfl, rfl, rfl, by unfold Hid; rw [HR.out, HDJ.out]; exact rcv_stop (.inl hmx), hgl, hdl, HOgA.out, HOdA.out, HAp, HBA.out⟩
              · have HMX := mkH hmx
                have t5 : decide (mx ≤ (gt.length : Int)) = false := by simpa using hmx
                by_cases hrm : room ≤ (dd.length : Int)
                · have t7 : decide (room ≤ (dd.length : Int)) = true := by simpa using hrm
                  go_wp2_with fail
                  go_meet
                  case rel => exact ⟨j, gt, dd, ga, gc, da, dc, by omega, rfl, rfl, rfl, by unfold Hid; rw [HR.out, HDJ.out]; exact rcv_stop (.inr ⟨hw1, hw2, hrm⟩), hgl, hdl, HOgA.out, HOdA.out, HAp, HBA.out⟩
                · have HRM := mkH hrm
                  have HW1 := mkH hw1
                  have HW2 := mkH hw2
                  have t7 : decide (room ≤ (dd.length : Int)) = false := by simpa using hrm
                  have hal : Below wr.heap.size wr (wr.alloc (.cells #[Value.int .i64 x0, .int .i64 x1, .int .i64 x2, .int .i64 x3, .int .i64 x4, .string x5] 61)) := (Below.refl _ wr).alloc (Nat.le_refl _) _
                  have hal2 : Below wr.heap.size wr ((wr.alloc (.cells #[Value.int .i64 x0, .int .i64 x1, .int .i64 x2, .int .i64 x3, .int .i64 x4, .string x5] 61)).alloc (.cells #[Value.int .i64 x0, .int .i64 x1, .int .i64 x2, .int .i64 x3, .int .i64 x4, .string x5] 61)) := hal.alloc (by simp) _
                  have HS := mkH (newK (wr.alloc (.cells #[Value.int .i64 x0, .int .i64 x1, .int .i64 x2, .int .i64 x3, .int .i64 x4, .string x5] 61)) ⟨x0, x1, x2, x3, x4, x5⟩ 61)
                  simp only [kC] at HS
                  rw [show (wr.alloc (.cells #[Value.int .i64 x0, .int .i64 x1, .int .i64 x2, .int .i64 x3, .int .i64 x4, .string x5] 61)).heap.size = wr.heap.size + 1 by simp] at HS
                  have HO2 := mkH (own_below HOd.out hal2)
                  have HP2 := mkH (own_below HOg.out hal2)
                  have HB2 : Hid (Below w3.heap.size w3 ((wr.alloc (.cells #[Value.int .i64 x0, .int .i64 x1, .int .i64 x2, .int .i64 x3, .int .i64 x4, .string x5] 61)).alloc (.cells #[Value.int .i64 x0, .int .i64 x1, .int .i64 x2, .int .i64 x3, .int .i64 x4, .string x5] 61))) := HBw.out.trans (hal2.mono hsw)
                  have HSZ2 : Hid (wr.heap.size ≤ ((wr.alloc (.cells #[Value.int .i64 x0, .int .i64 x1, .int .i64 x2, .int .i64 x3, .int .i64 x4, .string x5] 61)).alloc (.cells #[Value.int .i64 x0, .int .i64 x1, .int .i64 x2, .int .i64 x3, .int .i64 x4, .string x5] 61)).heap.size) := by unfold Hid; simp; omega
                  clear hal hal2
                  go_wp2_with (at_builtin; refine (Gv.wpList_append_own_src_at _ rfl (.tmp 58) (.tmp 60) 22 22 rfl w3.heap.size 61 _ 6 56 Tryd.underlying22 infoK rfl (by decide) _ dd.length (Fk dd) rfl HO2.out _ 1 (Fk [⟨x0, x1, x2, x3, x4, x5⟩]) rfl HS.out ?h63a ?hbya ?hbsa ?_))
                  case h63a => unfold maxLen; omega
                  case hbya => omega
                  case hbsa => have := HSZ2.out; omega
                  intro v5 w5 hown hgr hat
                  obtain ⟨l5, hl5⟩ : ∃ l5, dd ++ [(⟨x0, x1, x2, x3, x4, x5⟩ : K)] = l5 := ⟨_, rfl⟩
                  have hl5l : dd.length + 1 = l5.length := by rw [← hl5]; simp
                  rw [show Fk dd ++ Fk [⟨x0, x1, x2, x3, x4, x5⟩] = Fk l5 by rw [← hl5]; exact (Fl_append _ _).symm, hl5l] at hown
                  obtain ⟨a5, c5, rfl⟩ := own_form hown
                  have hBw5 : Below w3.heap.size w3 w5 := below_own HO2.out hgr HB2.out (by have := HSZ2.out; omega)
                  have hp5 := Gv.own_other HP2.out hgr (fun k hk hk2 => HAp.out k hk hk2)
                  have hnew : ∀ k, (Value.slice ga gt.length gc).ownBlock = some k → k < wr.heap.size := fun k hk => (HOg.out.lt k hk).2
                  have HAp5 : Hid (∀ k, (Value.slice a5 l5.length c5).ownBlock = some k → (Value.slice ga gt.length gc).ownBlock ≠ some k) := fun k hk hk2 => by
                    rcases hat with h | h
                    · rw [hk] at h; exact HAp.out k hk2 h.symm
                    · rw [hk] at h; simp only [Option.some.injEq] at h; have h1 := hnew k hk2; have h2 := HSZ2.out; omega
                  have HO5 := mkH hown
                  have HP5 := mkH hp5
                  have HB5 := mkH hBw5
                  have HL5 := mkH hl5
                  have HL5l := mkH hl5l
                  clear hown hgr hat hp5 hBw5 hnew HS HO2 HP2 HB2 hl5 hl5l
                  go_wp2
                  go_roundw
                  case rel => exact ⟨j + 1, gt, l5, ga, gc, a5, c5, by omega, by go_num, rfl, rfl, by go_num, by unfold Hid; rw [HR.out, HDJ.out, rcv_dead (x := ⟨x0, x1, x2, x3, x4, x5⟩) (by have := HMX.out; omega) HW1.out HW2.out (by have := HRM.out; omega), HL5.out], by omega, by have := HL5l.out; omega, HP5.out, HO5.out, mkH (fun k hk hk2 => HAp5.out k hk2 hk), HB5⟩
                  case measure => simp [intOf]; omega
            · have t3 : decide (most ≤ x2) = false := by simpa using hw2
              have HGV : Hid (¬ 0 < most ∨ ¬ most ≤ x2) := .inr hw2
              by_cases hmx : mx ≤ (gt.length : Int)
              · have t5 : decide (mx ≤ (gt.length : Int)) = true := by simpa using hmx
                go_wp2_with fail
                go_meet
                case rel => exact ⟨j, gt, dd, ga, gc, da, dc, by omega, rfl, rfl, rfl, by unfold Hid; rw [HR.out, HDJ.out]; exact rcv_stop (.inl hmx), hgl, hdl, HOgA.out, HOdA.out, HAp, HBA.out⟩
              · have HMX := mkH hmx
                have t5 : decide (mx ≤ (gt.length : Int)) = false := by simpa using hmx
                have hal : Below wr.heap.size wr (wr.alloc (.cells #[Value.int .i64 x0, .int .i64 x1, .int .i64 (x2 + 1), .int .i64 (now + secs), .int .i64 x4, .string x5] 61)) := (Below.refl _ wr).alloc (Nat.le_refl _) _
                have hal2 : Below wr.heap.size wr ((wr.alloc (.cells #[Value.int .i64 x0, .int .i64 x1, .int .i64 (x2 + 1), .int .i64 (now + secs), .int .i64 x4, .string x5] 61)).alloc (.cells #[Value.int .i64 x0, .int .i64 x1, .int .i64 (x2 + 1), .int .i64 (now + secs), .int .i64 x4, .string x5] 61)) := hal.alloc (by simp) _
                have HS := mkH (newK (wr.alloc (.cells #[Value.int .i64 x0, .int .i64 x1, .int .i64 (x2 + 1), .int .i64 (now + secs), .int .i64 x4, .string x5] 61)) ⟨x0, x1, x2 + 1, now + secs, x4, x5⟩ 61)
                simp only [kC] at HS
                rw [show (wr.alloc (.cells #[Value.int .i64 x0, .int .i64 x1, .int .i64 (x2 + 1), .int .i64 (now + secs), .int .i64 x4, .string x5] 61)).heap.size = wr.heap.size + 1 by simp] at HS
                have HO2 := mkH (own_below HOg.out hal2)
                have HP2 := mkH (own_below HOd.out hal2)
                have HB2 : Hid (Below w3.heap.size w3 ((wr.alloc (.cells #[Value.int .i64 x0, .int .i64 x1, .int .i64 (x2 + 1), .int .i64 (now + secs), .int .i64 x4, .string x5] 61)).alloc (.cells #[Value.int .i64 x0, .int .i64 x1, .int .i64 (x2 + 1), .int .i64 (now + secs), .int .i64 x4, .string x5] 61))) := HBw.out.trans (hal2.mono hsw)
                have HSZ2 : Hid (wr.heap.size ≤ ((wr.alloc (.cells #[Value.int .i64 x0, .int .i64 x1, .int .i64 (x2 + 1), .int .i64 (now + secs), .int .i64 x4, .string x5] 61)).alloc (.cells #[Value.int .i64 x0, .int .i64 x1, .int .i64 (x2 + 1), .int .i64 (now + secs), .int .i64 x4, .string x5] 61)).heap.size) := by unfold Hid; simp; omega
                clear hal hal2
                go_wp2_with (at_builtin; refine (Gv.wpList_append_own_src_at _ rfl (.tmp 70) (.tmp 72) 22 22 rfl w3.heap.size 61 _ 6 56 Tryd.underlying22 infoK rfl (by decide) _ gt.length (Fk gt) rfl HO2.out _ 1 (Fk [⟨x0, x1, x2 + 1, now + secs, x4, x5⟩]) rfl HS.out ?h63b ?hbyb ?hbsb ?_))
                case h63b => unfold maxLen; omega
                case hbyb => omega
                case hbsb => have := HSZ2.out; omega
                intro v5 w5 hown hgr hat
                obtain ⟨l5, hl5⟩ : ∃ l5, gt ++ [(⟨x0, x1, x2 + 1, now + secs, x4, x5⟩ : K)] = l5 := ⟨_, rfl⟩
                have hl5l : gt.length + 1 = l5.length := by rw [← hl5]; simp
                rw [show Fk gt ++ Fk [⟨x0, x1, x2 + 1, now + secs, x4, x5⟩] = Fk l5 by rw [← hl5]; exact (Fl_append _ _).symm, hl5l] at hown
                obtain ⟨a5, c5, rfl⟩ := own_form hown
                have hBw5 : Below w3.heap.size w3 w5 := below_own HO2.out hgr HB2.out (by have := HSZ2.out; omega)
                have hp5 := Gv.own_other HP2.out hgr (fun k hk hk2 => HAp.out k hk2 hk)
                have hnew : ∀ k, (Value.slice da dd.length dc).ownBlock = some k → k < wr.heap.size := fun k hk => (HOd.out.lt k hk).2
                have HAp5 : Hid (∀ k, (Value.slice a5 l5.length c5).ownBlock = some k → (Value.slice da dd.length dc).ownBlock ≠ some k) := fun k hk hk2 => by
                  rcases hat with h | h
                  · rw [hk] at h; exact HAp.out k h.symm hk2
                  · rw [hk] at h; simp only [Option.some.injEq] at h; have h1 := hnew k hk2; have h2 := HSZ2.out; omega
                have HO5 := mkH hown
                have HP5 := mkH hp5
                have HB5 := mkH hBw5
                have HL5 := mkH hl5
                have HL5l := mkH hl5l
                clear hown hgr hat hp5 hBw5 hnew HS HO2 HP2 HB2 hl5 hl5l
                go_wp2
                go_roundw
                case rel => exact ⟨j + 1, l5, dd, a5, c5, da, dc, by omega, by go_num, rfl, rfl, by go_num, by unfold Hid; rw [HR.out, HDJ.out, rcv_give (x := ⟨x0, x1, x2, x3, x4, x5⟩) (by have := HMX.out; omega) (by have := HGV.out; simp only; omega)]; unfold given; rw [HL5.out], by have := HL5l.out; omega, by omega, HO5.out, HP5.out, HAp5, HB5⟩
                case measure => simp [intOf]; omega
          · have t1 : decide (0 < most) = false := by simpa using hw1
            have HGV : Hid (¬ 0 < most ∨ ¬ most ≤ x2) := .inl hw1
            by_cases hmx : mx ≤ (gt.length : Int)
            · have t5 : decide (mx ≤ (gt.length : Int)) = true := by simpa using hmx
              go_wp2_with fail
              go_meet
              case rel => exact ⟨j, gt, dd, ga, gc, da, dc, by omega, rfl, rfl, rfl, by unfold Hid; rw [HR.out, HDJ.out]; exact rcv_stop (.inl hmx), hgl, hdl, HOgA.out, HOdA.out, HAp, HBA.out⟩
            · have HMX := mkH hmx
              have t5 : decide (mx ≤ (gt.length : Int)) = false := by simpa using hmx
              have hal : Below wr.heap.size wr (wr.alloc (.cells #[Value.int .i64 x0, .int .i64 x1, .int .i64 (x2 + 1), .int .i64 (now + secs), .int .i64 x4, .string x5] 61)) := (Below.refl _ wr).alloc (Nat.le_refl _) _
              have hal2 : Below wr.heap.size wr ((wr.alloc (.cells #[Value.int .i64 x0, .int .i64 x1, .int .i64 (x2 + 1), .int .i64 (now + secs), .int .i64 x4, .string x5] 61)).alloc (.cells #[Value.int .i64 x0, .int .i64 x1, .int .i64 (x2 + 1), .int .i64 (now + secs), .int .i64 x4, .string x5] 61)) := hal.alloc (by simp) _
              have HS := mkH (newK (wr.alloc (.cells #[Value.int .i64 x0, .int .i64 x1, .int .i64 (x2 + 1), .int .i64 (now + secs), .int .i64 x4, .string x5] 61)) ⟨x0, x1, x2 + 1, now + secs, x4, x5⟩ 61)
              simp only [kC] at HS
              rw [show (wr.alloc (.cells #[Value.int .i64 x0, .int .i64 x1, .int .i64 (x2 + 1), .int .i64 (now + secs), .int .i64 x4, .string x5] 61)).heap.size = wr.heap.size + 1 by simp] at HS
              have HO2 := mkH (own_below HOg.out hal2)
              have HP2 := mkH (own_below HOd.out hal2)
              have HB2 : Hid (Below w3.heap.size w3 ((wr.alloc (.cells #[Value.int .i64 x0, .int .i64 x1, .int .i64 (x2 + 1), .int .i64 (now + secs), .int .i64 x4, .string x5] 61)).alloc (.cells #[Value.int .i64 x0, .int .i64 x1, .int .i64 (x2 + 1), .int .i64 (now + secs), .int .i64 x4, .string x5] 61))) := HBw.out.trans (hal2.mono hsw)
              have HSZ2 : Hid (wr.heap.size ≤ ((wr.alloc (.cells #[Value.int .i64 x0, .int .i64 x1, .int .i64 (x2 + 1), .int .i64 (now + secs), .int .i64 x4, .string x5] 61)).alloc (.cells #[Value.int .i64 x0, .int .i64 x1, .int .i64 (x2 + 1), .int .i64 (now + secs), .int .i64 x4, .string x5] 61)).heap.size) := by unfold Hid; simp; omega
              clear hal hal2
              go_wp2_with (at_builtin; refine (Gv.wpList_append_own_src_at _ rfl (.tmp 70) (.tmp 72) 22 22 rfl w3.heap.size 61 _ 6 56 Tryd.underlying22 infoK rfl (by decide) _ gt.length (Fk gt) rfl HO2.out _ 1 (Fk [⟨x0, x1, x2 + 1, now + secs, x4, x5⟩]) rfl HS.out ?h63c ?hbyc ?hbsc ?_))
              case h63c => unfold maxLen; omega
              case hbyc => omega
              case hbsc => have := HSZ2.out; omega
              intro v5 w5 hown hgr hat
              obtain ⟨l5, hl5⟩ : ∃ l5, gt ++ [(⟨x0, x1, x2 + 1, now + secs, x4, x5⟩ : K)] = l5 := ⟨_, rfl⟩
              have hl5l : gt.length + 1 = l5.length := by rw [← hl5]; simp
              rw [show Fk gt ++ Fk [⟨x0, x1, x2 + 1, now + secs, x4, x5⟩] = Fk l5 by rw [← hl5]; exact (Fl_append _ _).symm, hl5l] at hown
              obtain ⟨a5, c5, rfl⟩ := own_form hown
              have hBw5 : Below w3.heap.size w3 w5 := below_own HO2.out hgr HB2.out (by have := HSZ2.out; omega)
              have hp5 := Gv.own_other HP2.out hgr (fun k hk hk2 => HAp.out k hk2 hk)
              have hnew : ∀ k, (Value.slice da dd.length dc).ownBlock = some k → k < wr.heap.size := fun k hk => (HOd.out.lt k hk).2
              have HAp5 : Hid (∀ k, (Value.slice a5 l5.length c5).ownBlock = some k → (Value.slice da dd.length dc).ownBlock ≠ some k) := fun k hk hk2 => by
                rcases hat with h | h
                · rw [hk] at h; exact HAp.out k h.symm hk2
                · rw [hk] at h; simp only [Option.some.injEq] at h; have h1 := hnew k hk2; have h2 := HSZ2.out; omega
              have HO5 := mkH hown
              have HP5 := mkH hp5
              have HB5 := mkH hBw5
              have HL5 := mkH hl5
              have HL5l := mkH hl5l
              clear hown hgr hat hp5 hBw5 hnew HS HO2 HP2 HB2 hl5 hl5l
              go_wp2
              go_roundw
              case rel => exact ⟨j + 1, l5, dd, a5, c5, da, dc, by omega, by go_num, rfl, rfl, by go_num, by unfold Hid; rw [HR.out, HDJ.out, rcv_give (x := ⟨x0, x1, x2, x3, x4, x5⟩) (by have := HMX.out; omega) (by have := HGV.out; simp only; omega)]; unfold given; rw [HL5.out], by have := HL5l.out; omega, by omega, HO5.out, HP5.out, HAp5, HB5⟩
              case measure => simp [intOf]; omega
        · obtain rfl : j = kp.length := by omega
          go_wp2_with fail
          go_meet
          case rel => exact ⟨kp.length, gt, dd, ga, gc, da, dc, Nat.le_refl _, rfl, rfl, rfl, by unfold Hid; rw [HR.out, List.drop_length]; rfl, hgl, hdl, HOg, HOd, HAp, HBw⟩
    case rest =>
      obtain ⟨n, gt, dd, ga, gc, da, dc, hn1, rfl, rfl, rfl, HR, hgl, hdl, HOg, HOd, HAp, HBw⟩ := hcut
      have hq := HR.out
      have hsw := HBw.out.size
      have q1 : got = gt := by rw [← HGo.out]; unfold rcvGot; rw [HFL.out, if_neg (by simp)]; show (rcv now mx secs most room [] [] kp).1 = gt; rw [hq]
      have q2 : dead = dd := by rw [← HDe.out]; unfold rcvDead; rw [HFL.out, if_neg (by simp)]; show (rcv now mx secs most room [] [] kp).2.1 = dd; rw [hq]
      have q3 : (⟨nx, gt ++ kp.drop n, mk, at'⟩ : G) = g' := by
        rw [← HG'.out]; unfold rcvG; rw [HFL.out, if_neg (by simp)]
        show _ = (⟨nx, (rcv now mx secs most room [] [] kp).1 ++ (rcv now mx secs most room [] [] kp).2.2, mk, at'⟩ : G)
        rw [hq]
      subst q1 q2
      obtain ⟨L, hL⟩ : ∃ L, got ++ kp.drop n = L := ⟨_, rfl⟩
      rw [hL] at q3
      subst q3
      have HLL := mkH hL
      have hLlen : L.length ≤ 1000000000 := by rw [← hL, List.length_append, List.length_drop]; omega
      have HR4 := mkH (HR3.out.bel HBw.out)
      have HK4 := mkH (own_below HK3.out HBw.out)
      have HM4 := mkH (own_below HM3.out HBw.out)
      obtain ⟨d0, d1, d2, d3, f0, f1, f2, f3⟩ := HR4.out.four
      have HB4 : Hid (Below w.heap.size w wc) := HB3.out.trans (HBw.out.mono HB3.out.size)
      have hkle := own_le HK4.out
      have hkcap := own_cap HK4.out
      clear hq hL HR HFL HG' HGo HDe HR3 HK3 HM3
      go_wp2_with fail
      refine (apart_any wc ka1 kp.length kc1 n hn1 hkle hkcap).mono ?_
      rintro e w5 ⟨rfl, hb5⟩
      have hrest : RowK w5 (ad ka1 kp.length n 6) (kp.drop n) := (RowS.drop (RowS.own kC_len HK4.out) kp.length n (Nat.le_refl _)).below hb5
      have hrl : (kp.drop n).length = kp.length - n := List.length_drop
      generalize ad ka1 kp.length n 6 = aq at hrest ⊢
      have HREST := mkH hrest
      have HRL := mkH hrl
      have HR5 := mkH (HR4.out.bel hb5)
      have HM5 := mkH (own_below HM4.out hb5)
      have HOg5 := mkH (own_below HOg.out hb5)
      have HOd5 := mkH (own_below HOd.out hb5)
      have HB5 : Hid (Below w.heap.size w w5) := HB4.out.trans (hb5.mono HB4.out.size)
      have hs5 := hb5.size
      clear hrest hrl hb5 HR4 HK4 HM4 HOg HOd HB4 d0 d1 d2 d3 f0 f1 f2 f3
      go_wp2_with fail
      have hal6 : Below w5.heap.size w5 (w5.alloc (.cells #[.slice ga got.length gc, .slice aq (kp.length - n) (kp.length - n)] 22)) := (Below.refl _ w5).alloc (Nat.le_refl _) _
      have hB6 := Bx.new w5 #[.slice ga got.length gc, .slice aq (kp.length - n) (kp.length - n)] 22
      generalize w5.alloc (.cells #[.slice ga got.length gc, .slice aq (kp.length - n) (kp.length - n)] 22) = w6 at *
      have hrG : RowK w6 ga got := RowS.own kC_len (own_below HOg5.out hal6)
      have hrD : RowK w6 da dead := RowS.own kC_len (own_below HOd5.out hal6)
      refine (concat_any w6 w5.heap.size ga aq gc (kp.length - n) got (kp.drop n) (hB6.cell 0 _ rfl) (by rw [HRL.out]; exact hB6.cell 1 _ rfl) hrG (HREST.out.below hal6) (by rw [HRL.out]; omega) L HLL.out).mono ?_
      rintro e w7 ⟨a7, c7, rfl, ho7, hb7⟩
      have hs6 := hal6.size
      have hb57 : Below w5.heap.size w5 w7 := hal6.trans (hb7.mono hs6)
      have HR7 := mkH (HR5.out.bel hb57)
      have HM7 := mkH (own_below HM5.out hb57)
      have HOg7 := mkH (own_below HOg5.out hb57)
      have HOd7 := mkH (own_below HOd5.out hb57)
      have HK7 := mkH ho7
      have HB7 : Hid (Below w.heap.size w w7) := HB5.out.trans (hb57.mono HB5.out.size)
      obtain ⟨d0, d1, d2, d3, f0, f1, f2, f3⟩ := HR7.out.four
      have hs7 := hb57.size
      have hs65 : w.heap.size ≤ w6.heap.size := Nat.le_trans HB5.out.size hs6
      clear hal6 hB6 hrG hrD ho7 hb7 hb57 HR5 HM5 HOg5 HOd5 HB5 HREST
      go_wp2
      have hR8 := HR7.out.s1 (.slice a7 L.length c7)
      have hF8 := HR7.out.frset 1 (.slice a7 L.length c7)
      generalize w7.setCell ⟨R, 1, none⟩ (.slice a7 L.length c7) = w8 at *
      obtain ⟨hR9, hF9⟩ := hR8.sAll (v0 := .int .i64 nx) (v1 := .slice a7 L.length c7) (v2 := .slice ma1 mk.length mc1) (v3 := .string at')
      generalize (((w8.setCell ⟨R, 0, none⟩ (.int .i64 nx)).setCell ⟨R, 1, none⟩ (.slice a7 L.length c7)).setCell ⟨R, 2, none⟩ (.slice ma1 mk.length mc1)).setCell ⟨R, 3, none⟩ (.string at') = w9 at *
      have hF := hF8.trans hF9 (fun k hk => .inl hk)
      have hne : ∀ (B n : Nat) (xs : List Value) (v : Value), w7.ownsRow B 61 6 v n xs → ∀ k, v.ownBlock = some k → ¬ k = R := fun B n xs v h k hk hk2 => own_ne h HR7.out hk (by decide) hk2
      have g7 := own_fr HOg7.out hF (hne _ _ _ _ HOg7.out)
      have e7 := own_fr HOd7.out hF (hne _ _ _ _ HOd7.out)
      refine bodyPost_ret (res_ctt rfl _ _ _ rfl rfl rfl (loadG hR9)) rfl ⟨a7, c7, ma1, mc1, ga, gc, da, dc, rfl, ⟨?_, ?_⟩, ⟨RowS.own kC_len g7, own_le g7, own_cap g7⟩, ⟨RowS.own kC_len e7, own_le e7, own_cap e7⟩, ?_⟩
      · exact own_mono (own_fr HK7.out hF (hne _ _ _ _ HK7.out)) (by omega)
      · exact own_mono (own_fr HM7.out hF (fun k hk hk2 => own_ne HM7.out HR7.out hk (by decide) hk2)) (by omega)
      · exact below_fr HB7.out hF (by intro k hk; omega) (Nat.le_refl _)
theorem Receive_any (w : World) (g : G) (ka : Option Addr) (kc : Nat) (ma : Option Addr) (mc : Nat) (h : Gl w g ka kc ma mc) (hk : g.kept.length ≤ 100000000) (hm : g.marks.length ≤ 1000000000) (ho : OkG g) (now mx secs most room : Int) (hn : Sm now) (hs : Sm secs)
    (g' : G) (got dead : List K) (hg' : rcvG g now mx secs most room = g') (hgot : rcvGot g now mx secs most room = got) (hdead : rcvDead g now mx secs most room = dead) :
    Calls Tryd.prog 10 #[.agg (gC g ka kc ma mc), .int .i64 now, .int .i64 mx, .int .i64 secs, .int .i64 most, .int .i64 room] w fun e w' => ∃ ka' kc' ma' mc' ga gc da dc, e = .returned (.tuple #[.agg (gC g' ka' kc' ma' mc'), .slice ga got.length gc, .slice da dead.length dc]) ∧ Gl w' g' ka' kc' ma' mc' ∧ Ls w' got ga gc ∧ Ls w' dead da dc ∧ Below w.heap.size w w' := by
  refine (Receive_own w g ka kc ma mc h hk hm ho now mx secs most room hn hs g' got dead hg' hgot hdead).mono ?_
  rintro e w' ⟨ka', kc', ma', mc', ga, gc, da, dc, he, h1, h2, h3, h4⟩
  exact ⟨ka', kc', ma', mc', ga, gc, da, dc, he, h1.gl, h2, h3, h4⟩
end Go.Proofs.YtcpmaddleleblaaDoor.Gg
