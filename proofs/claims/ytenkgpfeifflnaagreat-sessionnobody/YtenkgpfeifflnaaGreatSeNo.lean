/-
  SessionNobody: the walk.
-/
import Derived.Test.YtenkgpfeifflnaaGreatSeU
namespace Go.Proofs.YtenkgpfeifflnaaGreat.Sno
open Go.RowKit Kt Pl Wi Wk Wa Sm Sa Sb Sc Sd Sl Su
open Dk (Fr Nx)
open At (RowT)
set_option linter.unusedVariables false
set_option linter.unusedSimpArgs false
set_option maxRecDepth 20000

theorem ld_rp {W : World} {b : Nat} {x : Ac} (h : Bx W b (aC x).toArray 36) : (loadVar 34 ⟨b, 3, none⟩).run Tryz.prog W = .ok (.agg (Pv x.r x.ga x.gc x.da x.dc x.ra x.rc)) W := by
  have := run_load_agg (P := Tryz.prog) (w := W) 34 _ Tryz.underlying34 rfl b 3 (Pv x.r x.ga x.gc x.da x.dc x.ra x.rc).toList infoP (fun j v hv => by
    rw [h.cell]
    rcases j with _ | _ | _ | _ | _ | _ | j <;> first | exact hv | (simp [Pv] at hv))
  simpa using this

set_option maxHeartbeats 4000000 in
theorem nobody_walk (w : World) (x : Ac) (hin : AcIn w x) :
    Calls Tryz.prog 4 #[.agg (aC x).toArray] w fun e w' => e = .returned (.bool true) ∧ Below w.heap.size w w' := by
  clear hin
  go_enter Tryz.func4, Tryz.ntmps4
  go_upto_block 0 with fail
  have hA : Bx (((w.alloc (.cells (aC x).toArray 36)).alloc (.cells #[.map none] 62)).alloc (.cells #[.pointer none, .pointer (some ⟨w.heap.size + 1, 0, none⟩)] 23)) w.heap.size (aC x).toArray 36 := ((Bx.new w _ _).alloc _).alloc _
  have hT : Bx (((w.alloc (.cells (aC x).toArray 36)).alloc (.cells #[.map none] 62)).alloc (.cells #[.pointer none, .pointer (some ⟨w.heap.size + 1, 0, none⟩)] 23)) (w.heap.size + 1) #[.map none] 62 := by
    have := (Bx.new (w.alloc (.cells (aC x).toArray 36)) #[.map none] 62).alloc (.cells #[.pointer none, .pointer (some ⟨w.heap.size + 1, 0, none⟩)] 23)
    simpa using this
  have hS : Bx (((w.alloc (.cells (aC x).toArray 36)).alloc (.cells #[.map none] 62)).alloc (.cells #[.pointer none, .pointer (some ⟨w.heap.size + 1, 0, none⟩)] 23)) (w.heap.size + 1 + 1) #[.pointer none, .pointer (some ⟨w.heap.size + 1, 0, none⟩)] 23 := by
    have := Bx.new ((w.alloc (.cells (aC x).toArray 36)).alloc (.cells #[.map none] 62)) #[.pointer none, .pointer (some ⟨w.heap.size + 1, 0, none⟩)] 23
    simpa using this
  have hb0 : Below w.heap.size w (((w.alloc (.cells (aC x).toArray 36)).alloc (.cells #[.map none] 62)).alloc (.cells #[.pointer none, .pointer (some ⟨w.heap.size + 1, 0, none⟩)] 23)) := (((Below.refl _ w).alloc (Nat.le_refl _) _).alloc (by simp) _).alloc (by simp; omega) _
  generalize ((w.alloc (.cells (aC x).toArray 36)).alloc (.cells #[.map none] 62)).alloc (.cells #[.pointer none, .pointer (some ⟨w.heap.size + 1, 0, none⟩)] 23) = W0 at *
  have HA := mkH hA
  have HT := mkH hT
  have HS := mkH hS
  have HB := mkH hb0
  clear hA hT hS hb0
  go_wp2_with fail
  go_loopw [12] (fun i wr => ∃ j : Nat, j ≤ 2 ∧ i = .int .i64 (j : Int) ∧ Hid (Below W0.heap.size W0 wr)) (fun i _ => 2 - (intOf i).toNat)
  case atStart => exact ⟨0, Nat.zero_le _, rfl, mkH (Below.refl _ _)⟩
  case round =>
    obtain ⟨j, hj, rfl, HR⟩ := hrel
    have HBr := HR
    rcases Nat.lt_or_ge j 2 with hjl | hjl
    · obtain ⟨v, hv, hu⟩ : ∃ v, wr.cell? ⟨w.heap.size + 1 + 1, j, none⟩ = some v ∧ Un wr v := by
        have hs := bx_bel HS.out HR.out
        rcases (by omega : j = 0 ∨ j = 1) with rfl | rfl
        · exact ⟨.pointer none, hs.cell 0, .inl rfl⟩
        · exact ⟨.pointer (some ⟨w.heap.size + 1, 0, none⟩), hs.cell 1, .inr ⟨_, rfl, bx_bel HT.out HR.out⟩⟩
      have HU := mkH hu
      have HA0 := mkH (bx_bel HA.out HR.out)
      have c1 : wr.cell? ⟨w.heap.size, 1, none⟩ = some (.int .i64 x.cl) := HA0.out.cell 1
      have c2 : wr.cell? ⟨w.heap.size, 2, none⟩ = some (.int .i64 x.nu) := HA0.out.cell 2
      clear hu HR HT HS HA
      go_wp2_with (first
        | (go_at_call 12; refine (copy_un HU6.out).mono ?_; rintro e1 w1 ⟨rfl, h⟩; have h2 := h.symm; clear h; subst h2)
        | (go_at_call 22; refine (all_un HU5.out).mono ?_; rintro e1 W6 ⟨rfl, hb⟩; have HU6 := mkH (HU5.out.below hb); have HB6 := mkH (HB5.out.trans (hb.mono HB5.out.size)); clear hb)
        | (go_at_call 21; refine (dump_un HU4.out).mono ?_; rintro e1 W5 ⟨rfl, hb⟩; have HU5 := mkH (HU4.out.below hb); have HB5 := mkH (HB4.out.trans (hb.mono HB4.out.size)); clear hb)
        | (go_at_call 16; refine (last_un HU4.out x.cl).mono ?_; rintro e1 w1 ⟨rfl, h⟩; have h2 := h.symm; clear h; subst h2)
        | (go_at_call 19; refine (clients_un HU4.out).mono ?_; rintro e1 w1 ⟨rfl, h⟩; have h2 := h.symm; clear h; subst h2)
        | (go_at_call 10; refine (merge_un HU4.out _).mono ?_; rintro e1 w1 ⟨rfl, h⟩; have h2 := h.symm; clear h; subst h2)
        | (go_at_call 8; refine (note_un HU3.out x.cl x.nu _).mono ?_; rintro e1 W4 ⟨rfl, hb⟩; have HU4 := mkH (HU3.out.below hb); have HA4 := mkH (bx_bel HA3.out hb); have HB4 := mkH (HB3.out.trans (hb.mono HB3.out.size)); have d1 : W4.cell? ⟨w.heap.size, 1, none⟩ = some (.int .i64 x.cl) := HA4.out.cell 1; have d9 : W4.cell? ⟨w.heap.size, 9, none⟩ = some (.slice x.ta x.tx.length x.tc) := HA4.out.cell 9; clear hb)
        | (refine wpList_ldw (ty := 34) (x := .tmp 43) rfl rfl rfl (ld_rp HA3.out) ?_)
        | (go_at_call 15; refine (Wsr.rsameReply_self _ Rp.none none 0 none 0 none 0 none 0 none 0 none 0 (Sw.rpM_nil _ 0 0 0) (Sw.rpM_nil _ 0 0 0) (Sw.cnt_nil 0 0 0)).mono ?_; rintro e1 W3 ⟨rfl, hg⟩; have HU3 := mkH (HU2.out.below hg.below); have HA3 := mkH (bx_bel HA2.out hg.below); have HB3 := mkH (HB2.out.trans (hg.below.mono HB2.out.size)); have q1 : W3.cell? ⟨w.heap.size, 1, none⟩ = some (.int .i64 x.cl) := HA3.out.cell 1; have q2 : W3.cell? ⟨w.heap.size, 2, none⟩ = some (.int .i64 x.nu) := HA3.out.cell 2; clear hg)
        | (refine Wy.wpList_ld (ty := 34) (x := .tmp 5) rfl rfl rfl (load_bx (P := Tryz.prog) HZ2.out Tryz.underlying34 rfl infoZ) ?_)
        | (refine wpList_stn rfl (ty := 34) (x := .tmp 5) (y := .tmp 23) (cs := ZP) (zs := Sw.zP6) rfl rfl rfl infoZ rfl one_ZP (fun W2 hB hg => ?_); have HZ2 := mkH hB; have HU2 := mkH (HU1.out.below hg.below); have HA2 := mkH (bx_bel HA1.out hg.below); have HB2 := mkH (HB1.out.trans (hg.below.mono HB1.out.size)); clear hB hg)
        | (go_at_call 13; refine (look_un HU.out x.cl x.nu).mono ?_; rintro e1 W1 ⟨rfl, hb⟩; have HU1 := mkH (HU.out.below hb); have HA1 := mkH (bx_bel HA0.out hb); have HB1 := mkH (HBr.out.trans (hb.mono HBr.out.size)); clear hb))
      refine ⟨⟨j + 1, by omega, by go_num, HB6⟩, ?_⟩
      simp [intOf]; omega
    · obtain rfl : j = 2 := by omega
      go_wp2_with (first | (go_at_call 24; refine (Sw.works_any _).mono ?_; rintro e1 W9 ⟨rfl, hb9⟩; have HB9 := mkH (HB.out.trans ((HBr.out.trans (hb9.mono HBr.out.size)).mono HB.out.size)); clear hb9))
      go_ret
      exact ⟨rfl, HB9.out⟩
end Go.Proofs.YtenkgpfeifflnaaGreat.Sno
