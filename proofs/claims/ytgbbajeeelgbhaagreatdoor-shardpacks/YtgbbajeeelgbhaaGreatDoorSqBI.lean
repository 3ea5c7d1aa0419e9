/-
  WiSr WiA3 WiSr2 ShN ShNo GpZ, joined by mrg.py.
-/
import Derived.Test.YtgbbajeeelgbhaaGreatDoorSqAG
import Derived.Test.YtgbbajeeelgbhaaGreatDoorSqBG
import Derived.Test.YtgbbajeeelgbhaaGreatDoorSqAT
import Derived.Test.YtgbbajeeelgbhaaGreatDoorSqAW
import Derived.Test.YtgbbajeeelgbhaaGreatDoorSqAU
import Derived.Test.YtgbbajeeelgbhaaGreatDoorSqBH
import Derived.Test.YtgbbajeeelgbhaaGreatDoorSqAL

namespace Go.Proofs.YtgbbajeeelgbhaaGreatDoor.Wsr
open Go.RowKit Kt Pl Wi Wk We Wa Wn Wx
open At (RowT)
set_option linter.unusedVariables false
set_option linter.unusedSimpArgs false
set_option maxRecDepth 20000

theorem eqlG (g : Gt) (w : World) : Sem.run Tryz.prog (binOp .eql 155 (.agg (Gv g)) (.agg (Gv g))) w = .ok (.bool true) w := by
  have u3 := Tryz.underlying3
  have a3 := Tryz.isAgg3
  have z3 := Tryz.sizeOf3
  have u9 := Tryz.underlying9
  have a9 := Tryz.isAgg9
  have z9 := Tryz.sizeOf9
  have u23 := Tryz.underlying35
  have a23 := Tryz.isAgg35
  have z23 := Tryz.sizeOf35
  have hS : Tryz.prog.underlying 155 = some (.struct (Tryz.prog.fieldsOf 155)) := by kernel_rfl
  have hp : Tryz.prog.stoodInHeld 155 = false := by kernel_rfl
  have hS2 : Tryz.prog.underlying 35 = some (.struct (Tryz.prog.fieldsOf 35)) := by kernel_rfl
  have hp2 : Tryz.prog.stoodInHeld 35 = false := by kernel_rfl
  have hin : Sem.run Tryz.prog (Op.equalIn 9999 35 (.agg #[.int .i64 g.rc.q, .string (S g.rc.g), .int .i64 g.rc.s, .int .i64 g.rc.c]) (.agg #[.int .i64 g.rc.q, .string (S g.rc.g), .int .i64 g.rc.s, .int .i64 g.rc.c])) w = .ok true w := by
    rw [show (9999 : Nat) = 9998 + 1 from rfl, run_equalIn_agg w 9998 35 _ _ hS2 hp2]
    simp only [Program.fieldsOf, Tryz.underlying35]
    go_simp
  unfold Gv gC
  rw [run_eql_struct, show (10000 : Nat) = 9999 + 1 from rfl, run_equalIn_agg w 9999 155 _ _ hS hp]
  simp only [Program.fieldsOf, Tryz.underlying155]
  go_simp
theorem guardG (op : BinOp) (x y : Operand) (a b : Array Value) (w : World) : Sem.run Tryz.prog (eqGuard op 155 x y (.agg a) (.agg b)) w = .ok () w :=
  run_eqGuard_agg w op 155 x y _ _ (by kernel_rfl)
theorem neqG (g : Gt) (w : World) : Sem.run Tryz.prog (binOp .neq 155 (.agg (Gv g)) (.agg (Gv g))) w = .ok (.bool false) w := by
  have h := eqlG g w
  rw [run_eql_struct] at h
  rw [run_neq_struct]
  revert h
  generalize (Op.equalIn 10000 155 (.agg (Gv g)) (.agg (Gv g))).run Tryz.prog w = r
  intro h
  cases r with
  | ok b w' => simp only [Result.andThen_ok] at h ⊢; injection h with h1 h2; injection h1 with h1; rw [h1, h2]; rfl
  | halt x w' => simp [Result.andThen] at h
end Go.Proofs.YtgbbajeeelgbhaaGreatDoor.Wsr

namespace Go.Proofs.YtgbbajeeelgbhaaGreatDoor.Wa
open Go.RowKit Kt Pl Wi Wk Wc Wd We Wx Wy Wf
open At (RowT)
set_option linter.unusedVariables false
set_option linter.unusedSimpArgs false
set_option maxRecDepth 20000

theorem rightR_all (r : Rp) : rightR r = ([r.err].all (upToB 255) && ([r.seq, r.n].all (upToB 1099511627776) && (r.got.all rightG && r.about.all fun x => mayB x.1 x.2))) := by simp [rightR, numB]

theorem shortR_all (r : Rp) : shortR r = (decide (r.got.length ≤ 1024) && (r.got.all shortG && (dataB r.data && decide (r.about.length ≤ 1024)))) := by simp [shortR, Bool.and_assoc]

theorem Pv_at (r : Rp) (ga : Option Addr) (gc : Nat) (da : Option Addr) (dc : Nat) (ra : Option Addr) (rc : Nat) : (Pv r ga gc da dc ra rc)[0]? = some (.int .i64 r.err) ∧ (Pv r ga gc da dc ra rc)[1]? = some (.int .i64 r.seq) ∧ (Pv r ga gc da dc ra rc)[2]? = some (.int .i64 r.n) ∧
    (Pv r ga gc da dc ra rc)[3]? = some (.slice ga r.got.length gc) ∧ (Pv r ga gc da dc ra rc)[4]? = some (.slice da r.data.length dc) ∧ (Pv r ga gc da dc ra rc)[5]? = some (.slice ra r.about.length rc) := ⟨rfl, rfl, rfl, rfl, rfl, rfl⟩

set_option maxHeartbeats 2000000 in
theorem rightReply_any (w : World) (r : Rp) (ga : Option Addr) (gc : Nat) (da : Option Addr) (dc : Nat) (ra : Option Addr) (rc : Nat) (hm : RpM w r ga da ra) (hc : Cnt r) :
    Calls Tryz.prog 341 #[.agg (Pv r ga gc da dc ra rc)] w fun e w' => e = .returned (.bool (rightR r)) ∧ Gr w w' := by
  obtain ⟨k0, k1, k2, k3, k4, k5⟩ := Pv_at r ga gc da dc ra rc
  have hB := Bx.new w (Pv r ga gc da dc ra rc) 46
  have HG0 := mkH ((Gr.refl w).alloc (.cells (Pv r ga gc da dc ra rc) 46))
  have HM := mkH hm
  have HE := mkH (rightR_all r)
  have H3 := mkH (fun W h => eachGr_any rightG rightGot_any W ga gc r.got h hc.1)
  have H4 := mkH (fun W h => eachR_any (fun x => mayB x.1 x.2) mayG_any W ra rc r.about h hc.2.2)
  have HB := mkH hB
  clear hB hm k4
  generalize Pv r ga gc da dc ra rc = C at *
  generalize hb1 : [r.err].all (upToB 255) = b1 at HE
  generalize hb2 : [r.seq, r.n].all (upToB 1099511627776) = b2 at HE
  generalize hb3 : r.got.all rightG = b3 at *
  generalize hb4 : (r.about.all fun x => mayB x.1 x.2) = b4 at *
  have HB1 := mkH hb1
  have HB2 := mkH hb2
  clear hb1 hb2 hb3 hb4 hc
  go_enter Tryz.func341, Tryz.ntmps341
  go_wp2_with fail
  refine (upTo_at _ _ 1 1 [r.err] rfl ?hr (by omega) 255).mono ?_
  case hr => exact RowI.at _ [r.err] 3 _ (by simp)
  rintro e w1 ⟨rfl, rfl⟩
  rw [HB1.out]
  have HG1 := mkH ((HG0.out.alloc (.cells #[.int .i64 r.err] 3)).alloc (.cells #[.int .i64 255] 3))
  cases b1
  · go_wp2
    go_ret
    exact ⟨ret_bool HE.out.symm, HG1.out⟩
  go_wp2_with fail
  refine (upTo_at _ _ 2 2 [r.seq, r.n] rfl ?hr (by omega) 1099511627776).mono ?_
  case hr => exact RowI.at _ [r.seq, r.n] 3 _ (by simp)
  rintro e w1 ⟨rfl, rfl⟩
  rw [HB2.out]
  have HG2 := mkH ((HG1.out.alloc (.cells #[.int .i64 r.seq, .int .i64 r.n] 3)).alloc (.cells #[.int .i64 1099511627776] 3))
  cases b2
  · go_wp2
    go_ret
    exact ⟨ret_bool HE.out.symm, HG2.out⟩
  go_wp2_with fail
  refine (H3.out _ (HM.out.gr HG2.out).got).mono ?_
  rintro e w3 ⟨rfl, hg3⟩
  have hg3' := (((((Gr.refl (w.alloc (.cells C 46))).alloc _).alloc _).alloc _).alloc _).trans hg3
  have hB3 := HB.out.gr hg3'
  have hc5 : w3.cell? ⟨w.heap.size, 5, none⟩ = some (.slice ra r.about.length rc) := (hB3.cell 5).trans k5
  have HG3 := mkH (HG2.out.trans hg3)
  clear hg3 hg3' hB3 HG0 HG1 HG2
  cases b3
  · go_wp2
    go_ret
    exact ⟨ret_bool HE.out.symm, HG3.out⟩
  go_wp2_with fail
  refine (H4.out _ (HM.out.gr HG3.out).about).mono ?_
  rintro e w4 ⟨rfl, hg4⟩
  have HG4 := mkH (HG3.out.trans hg4)
  clear hg4
  go_wp2
  go_ret
  exact ⟨ret_bool (by rw [HE.out]; simp), HG4.out⟩

set_option maxHeartbeats 2000000 in
theorem shortReply_any (w : World) (r : Rp) (ga : Option Addr) (gc : Nat) (da : Option Addr) (dc : Nat) (ra : Option Addr) (rc : Nat) (hm : RpM w r ga da ra) (hc : Cnt r) :
    Calls Tryz.prog 342 #[.agg (Pv r ga gc da dc ra rc)] w fun e w' => e = .returned (.bool (shortR r)) ∧ Gr w w' := by
  obtain ⟨k0, k1, k2, k3, k4, k5⟩ := Pv_at r ga gc da dc ra rc
  have hB := Bx.new w (Pv r ga gc da dc ra rc) 46
  have HG0 := mkH ((Gr.refl w).alloc (.cells (Pv r ga gc da dc ra rc) 46))
  have HM := mkH hm
  have HE := mkH (shortR_all r)
  have H3 := mkH (fun W h => eachGs_any shortG shortGot_any W ga gc r.got h hc.1)
  have H4 := mkH (fun W h => shortData_any W da dc r.data h hc.2.1)
  have HB := mkH hB
  have hc1 := hc.1
  have hc5 := hc.2.2
  clear hB hm k0 k1 k2
  generalize Pv r ga gc da dc ra rc = C at *
  generalize hb3 : r.got.all shortG = b3 at *
  generalize hb4 : dataB r.data = b4 at *
  clear hb3 hb4 hc
  by_cases hl : r.got.length ≤ 1024
  rotate_left
  · have HF : Hid (shortR r = false) := mkH (by rw [HE.out]; simp [hl])
    have c1 : ¬ (r.got.length : Int) ≤ 1024 := by omega
    clear hl HE
    go_enter Tryz.func342, Tryz.ntmps342
    go_wp2
    go_ret
    exact ⟨ret_bool HF.out.symm, HG0.out⟩
  have HF : Hid (shortR r = (b3 && (b4 && decide (r.about.length ≤ 1024)))) := mkH (by rw [HE.out]; simp [hl])
  have c1 : (r.got.length : Int) ≤ 1024 := by omega
  clear hl HE
  go_enter Tryz.func342, Tryz.ntmps342
  go_wp2_with fail
  refine (H3.out _ (HM.out.gr HG0.out).got).mono ?_
  rintro e w3 ⟨rfl, hg3⟩
  have HB3 := mkH (HB.out.gr hg3)
  have k43 : w3.cell? ⟨w.heap.size, 4, none⟩ = some (.slice da r.data.length dc) := (HB3.out.cell 4).trans k4
  have HG3 := mkH (HG0.out.trans hg3)
  clear hg3 HG0 HB
  cases b3
  · go_wp2
    go_ret
    exact ⟨ret_bool HF.out.symm, HG3.out⟩
  go_wp2_with fail
  refine (H4.out _ (HM.out.gr HG3.out).data).mono ?_
  rintro e w4 ⟨rfl, hg4⟩
  have k54 : w4.cell? ⟨w.heap.size, 5, none⟩ = some (.slice ra r.about.length rc) := ((HB3.out.gr hg4).cell 5).trans k5
  have HG4 := mkH (HG3.out.trans hg4)
  clear hg4 k43 HB3
  cases b4
  · go_wp2
    go_ret
    exact ⟨ret_bool HF.out.symm, HG4.out⟩
  go_wp2
  go_ret
  exact ⟨ret_bool (by rw [HF.out]; simp; omega), HG4.out⟩

set_option maxHeartbeats 4000000 in
theorem checkReply_any (w : World) (r : Rp) (ga : Option Addr) (gc : Nat) (da : Option Addr) (dc : Nat) (ra : Option Addr) (rc : Nat) (hm : RpM w r ga da ra) (hc : Cnt r) :
    Calls Tryz.prog 283 #[.agg (Pv r ga gc da dc ra rc)] w fun e w' => e = .returned (.int .i64 (checkR r : Int)) ∧ Gr w w' := by
  have HG0 := mkH ((Gr.refl w).alloc (.cells (Pv r ga gc da dc ra rc) 46))
  have HR := mkH (RpM.gr hm HG0.out)
  have HB := mkH (Bx.new w (Pv r ga gc da dc ra rc) 46)
  clear hm
  have H1 := mkH (fun W h => rightReply_any W r ga gc da dc ra rc h hc)
  have H2 := mkH (fun W h => shortReply_any W r ga gc da dc ra rc h hc)
  have H3 := fun W => judge_any W (rightR r) (shortR r)
  have HE : Hid (checkR r = judge (rightR r) (shortR r)) := mkH rfl
  have hld : ∀ W b, Bx W b (Pv r ga gc da dc ra rc) 46 → _ := fun W b h => load_pv h
  have HL := mkH hld
  clear hld
  generalize rightR r = b1 at H1 H3 HE
  generalize shortR r = b2 at H2 H3 HE
  generalize judge b1 b2 = j at H3 HE
  generalize Pv r ga gc da dc ra rc = C at *
  go_enter Tryz.func283, Tryz.ntmps283
  go_wp2_with fail
  generalize w.alloc (.cells C 46) = W0 at *
  generalize w.heap.size = B at *
  refine wp_region_quiet (C := fun w' => Gr W0 w') (by kernel_rfl) (by kernel_rfl) ((Gr.refl W0).drew) ?_
  refine q_yield (v := .agg C) rfl (fun w hC => run_ld rfl rfl (HL.out _ _ (HB.out.gr hC))) ?_
  refine wpQuiet_step (fun K hK => ?_)
  go_simp
  refine ⟨_, fun w hw => ((H1.out w (RpM.gr HR.out hw)).mono fun _ _ ⟨he, hg⟩ => ⟨he, hw.trans hg⟩), hK _ ?_⟩
  clear hK K
  refine q_yield (v := .agg C) rfl (fun w hC => run_ld rfl rfl (HL.out _ _ (HB.out.gr hC))) ?_
  refine wpQuiet_step (fun K hK => ?_)
  go_simp
  refine ⟨_, fun w hw => ((H2.out w (RpM.gr HR.out hw)).mono fun _ _ ⟨he, hg⟩ => ⟨he, hw.trans hg⟩), hK _ ?_⟩
  clear hK K
  refine wpQuiet_step (fun K hK => ?_)
  go_simp
  refine ⟨_, fun w hw => ((H3 w).mono fun _ _ ⟨he, hg⟩ => ⟨he, hg ▸ hw⟩), hK _ ?_⟩
  clear hK K
  refine wpQuiet_step (fun K hK => ?_)
  go_simp
  refine ⟨_, fun _ _ => rfl, hK _ ?_⟩
  clear hK K
  refine wpQuiet_nil ?_
  intro w2 hw2
  have HW := mkH (HG0.out.trans hw2)
  clear hw2
  go_wp2
  go_ret
  exact ⟨by rw [HE.out]; rfl, HW.out⟩
end Go.Proofs.YtgbbajeeelgbhaaGreatDoor.Wa

namespace Go.Proofs.YtgbbajeeelgbhaaGreatDoor.Wsr
open Go.RowKit Kt Pl Wi Wk We Wa Wn Wx
open At (RowT)
set_option linter.unusedVariables false
set_option linter.unusedSimpArgs false
set_option maxRecDepth 20000

set_option maxHeartbeats 4000000 in
theorem rsameR_self (w : World) (ao bo : Option Addr) (acap bcap : Nat) (l : List (Int × Int)) (ha : RowR w ao l) (hb : RowR w bo l) (hlen : l.length ≤ 1000000000) :
    Calls Tryz.prog 53 #[.slice ao l.length acap, .slice bo l.length bcap] w fun e w' => e = .returned (.bool true) ∧ Gr w w' := by
  have HA := mkH ha
  have HB := mkH hb
  clear ha hb
  go_enter Tryz.func53, Tryz.ntmps53
  go_wp2
  go_loopw [5] (fun i wr => ∃ k : Nat, k ≤ l.length ∧ i = .int .i64 k ∧ Hid (Gr w wr)) (fun i _ => l.length - (intOf i).toNat)
  case atStart => exact ⟨0, Nat.zero_le _, rfl, mkH (Gr.refl w)⟩
  case round =>
    obtain ⟨k, hk, rfl, HG⟩ := hrel
    by_cases hlt : k < l.length
    · obtain ⟨b, off, hao, hc1⟩ := RowS.gr HA.out HG.out (by omega)
      obtain ⟨b2, off2, hbo, hc2⟩ := RowS.gr HB.out HG.out (by omega)
      obtain ⟨x, hx⟩ := some_of hlt
      have HL1 : Hid (∀ W, Gr wr W → (loadVar 37 ⟨b, off + k * 2, none⟩).run Tryz.prog W = .ok (.agg #[.int .i64 x.1, .int .i64 x.2]) W) := mkH (fun W h => by
        obtain ⟨b', off', e, hc⟩ := RowS.gr (RowS.gr HA.out HG.out) h (by omega)
        rw [hao] at e; injection e with e; injection e with e1 e2; subst e1 e2
        exact load_rng (hc k x hx))
      have HL2 : Hid (∀ W, Gr wr W → (loadVar 37 ⟨b2, off2 + k * 2, none⟩).run Tryz.prog W = .ok (.agg #[.int .i64 x.1, .int .i64 x.2]) W) := mkH (fun W h => by
        obtain ⟨b', off', e, hc⟩ := RowS.gr (RowS.gr HB.out HG.out) h (by omega)
        rw [hbo] at e; injection e with e; injection e with e1 e2; subst e1 e2
        exact load_rng (hc k x hx))
      subst hao hbo
      have e1 := neqR x.1 x.2 x.1 x.2
      have g1 := guardR
      clear hc1 hc2 hx
      go_wp2_with fail
      refine wp_region_quiet (C := fun w' => Gr wr w') (by kernel_rfl) (by kernel_rfl) ((Gr.refl wr).drew) ?_
      refine wpQuiet_step (fun K hK => ?_)
      go_simp
      refine ⟨_, fun _ _ => rfl, hK _ ?_⟩
      clear hK K
      refine wpQuiet_step (fun K hK => ?_)
      go_simp
      refine ⟨_, fun _ _ => rfl, hK _ ?_⟩
      clear hK K
      refine wpQuiet_step (fun K hK => ?_)
      go_simp
      refine ⟨_, fun _ _ => rfl, hK _ ?_⟩
      clear hK K
      refine q_yield (v := .agg #[.int .i64 x.1, .int .i64 x.2]) rfl (fun W hC => run_ld rfl rfl (HL1.out W hC)) ?_
      refine wpQuiet_step (fun K hK => ?_)
      go_simp
      refine ⟨_, fun _ _ => rfl, hK _ ?_⟩
      clear hK K
      refine wpQuiet_step (fun K hK => ?_)
      go_simp
      refine ⟨_, fun _ _ => rfl, hK _ ?_⟩
      clear hK K
      refine wpQuiet_step (fun K hK => ?_)
      go_simp
      refine ⟨_, fun _ _ => rfl, hK _ ?_⟩
      clear hK K
      refine q_yield (v := .agg #[.int .i64 x.1, .int .i64 x.2]) rfl (fun W hC => run_ld rfl rfl (HL2.out W hC)) ?_
      refine wpQuiet_step (fun K hK => ?_)
      go_simp
      refine ⟨_, fun _ _ => rfl, hK _ ?_⟩
      clear hK K
      refine wpQuiet_nil ?_
      intro w9 hw9
      have HW := mkH (HG.out.trans hw9)
      clear hw9
      go_wp2
      go_roundw
      case rel => exact ⟨k + 1, by omega, by go_num, HW⟩
      case measure => simp [intOf]; omega
    · go_wp2
      go_ret
      exact ⟨rfl, HG.out⟩

set_option maxHeartbeats 8000000 in
theorem rsameReply_self (w : World) (r : Rp) (ga : Option Addr) (gc : Nat) (da : Option Addr) (dc : Nat) (ra : Option Addr) (rc : Nat) (ga2 : Option Addr) (gc2 : Nat) (da2 : Option Addr) (dc2 : Nat) (ra2 : Option Addr) (rc2 : Nat) (h1 : RpM w r ga da ra) (h2 : RpM w r ga2 da2 ra2) (hc : Cnt r) :
    Calls Tryz.prog 35 #[.agg (Pv r ga gc da dc ra rc), .agg (Pv r ga2 gc2 da2 dc2 ra2 rc2)] w fun e w' => e = .returned (.bool true) ∧ Gr w w' := by
  have HG0 := mkH (((Gr.refl w).alloc (.cells (Pv r ga gc da dc ra rc) 46)).alloc (.cells (Pv r ga2 gc2 da2 dc2 ra2 rc2) 46))
  have hB := (Bx.new w (Pv r ga gc da dc ra rc) 46).alloc (.cells (Pv r ga2 gc2 da2 dc2 ra2 rc2) 46)
  have hC : Bx ((w.alloc (.cells (Pv r ga gc da dc ra rc) 46)).alloc (.cells (Pv r ga2 gc2 da2 dc2 ra2 rc2) 46)) (w.heap.size + 1) (Pv r ga2 gc2 da2 dc2 ra2 rc2) 46 := by have := Bx.new (w.alloc (.cells (Pv r ga gc da dc ra rc) 46)) (Pv r ga2 gc2 da2 dc2 ra2 rc2) 46; simpa using this
  obtain ⟨k0, k1, k2, k3, k4, k5⟩ := Pv_at r ga gc da dc ra rc
  obtain ⟨m0, m1, m2, m3, m4, m5⟩ := Pv_at r ga2 gc2 da2 dc2 ra2 rc2
  generalize Pv r ga gc da dc ra rc = C at *
  generalize Pv r ga2 gc2 da2 dc2 ra2 rc2 = D at *
  have HM1 := mkH (h1.gr HG0.out)
  have HM2 := mkH (h2.gr HG0.out)
  have HT := mkH (fun W (q1 : RowT W da r.data) (q2 : RowT W da2 r.data) => sameTexts_any W da da2 dc dc2 r.data r.data q1 q2 hc.2.1 hc.2.1)
  have HRs := mkH (fun W q1 q2 => rsameR_self W ra ra2 rc rc2 r.about q1 q2 hc.2.2)
  have hc1 := hc.1
  clear h1 h2 hc
  obtain ⟨W0, hW0⟩ : ∃ W0, W0 = (w.alloc (.cells C 46)).alloc (.cells D 46) := ⟨_, rfl⟩
  have HBC := mkH (hW0 ▸ hB)
  have HBD := mkH (hW0 ▸ hC)
  have hq1 : ∀ k, W0.cell? ⟨w.heap.size, k, none⟩ = C[k]? := HBC.out.cell
  have hq2 : ∀ k, W0.cell? ⟨w.heap.size + 1, k, none⟩ = D[k]? := HBD.out.cell
  rw [← hW0] at HM1 HM2 HG0
  have HW0 := mkH hW0
  clear hB hC hW0
  go_enter Tryz.func35, Tryz.ntmps35
  go_wp2_with fail
  rw [← HW0.out]
  clear HW0
  refine (HT.out W0 HM1.out.data HM2.out.data).mono ?_
  rintro e W1 ⟨rfl, hg1⟩
  rw [decide_true]
  have HBC1 := mkH (HBC.out.gr hg1)
  have HBD1 := mkH (HBD.out.gr hg1)
  have hq3 : ∀ k, W1.cell? ⟨w.heap.size, k, none⟩ = C[k]? := HBC1.out.cell
  have hq4 : ∀ k, W1.cell? ⟨w.heap.size + 1, k, none⟩ = D[k]? := HBD1.out.cell
  have HM3 := mkH (HM1.out.gr hg1)
  have HM4 := mkH (HM2.out.gr hg1)
  have HG1 := mkH (HG0.out.trans hg1)
  clear hg1 HT HBC HBD HM1 HM2 HG0 hq1 hq2
  go_wp2_with fail
  refine (HRs.out W1 HM3.out.about HM4.out.about).mono ?_
  rintro e W2 ⟨rfl, hg2⟩
  have HBC2 := mkH (HBC1.out.gr hg2)
  have HBD2 := mkH (HBD1.out.gr hg2)
  have HM5 := mkH (HM3.out.gr hg2)
  have HM6 := mkH (HM4.out.gr hg2)
  have HG2 := mkH (HG1.out.trans hg2)
  clear hg2 HRs HBC1 HBD1 HM3 HM4 HG1 hq3 hq4
  go_wp2
  go_loopw [5] (fun i wr => ∃ k : Nat, k ≤ r.got.length ∧ i = .int .i64 k ∧ Hid (Gr W2 wr)) (fun i _ => r.got.length - (intOf i).toNat)
  case atStart => exact ⟨0, Nat.zero_le _, rfl, mkH (Gr.refl W2)⟩
  case round =>
    obtain ⟨k, hk, rfl, HG⟩ := hrel
    have hq5 : ∀ k, wr.cell? ⟨w.heap.size, k, none⟩ = C[k]? := (HBC2.out.gr HG.out).cell
    have hq6 : ∀ k, wr.cell? ⟨w.heap.size + 1, k, none⟩ = D[k]? := (HBD2.out.gr HG.out).cell
    by_cases hlt : k < r.got.length
    · obtain ⟨b, off, hao, hc1⟩ := RowS.gr HM5.out.got HG.out (by omega)
      obtain ⟨b2, off2, hbo, hc2⟩ := RowS.gr HM6.out.got HG.out (by omega)
      obtain ⟨x, hx⟩ := some_of hlt
      have HL1 : Hid (∀ W, Gr wr W → (loadVar 155 ⟨b, off + k * 6, none⟩).run Tryz.prog W = .ok (.agg (Gv x)) W) := mkH (fun W h => by
        obtain ⟨b', off', e, hc⟩ := RowS.gr (RowS.gr HM5.out.got HG.out) h (by omega)
        rw [hao] at e; injection e with e; injection e with e1 e2; subst e1 e2
        exact load_got (hc k x hx))
      have HL2 : Hid (∀ W, Gr wr W → (loadVar 155 ⟨b2, off2 + k * 6, none⟩).run Tryz.prog W = .ok (.agg (Gv x)) W) := mkH (fun W h => by
        obtain ⟨b', off', e, hc⟩ := RowS.gr (RowS.gr HM6.out.got HG.out) h (by omega)
        rw [hbo] at e; injection e with e; injection e with e1 e2; subst e1 e2
        exact load_got (hc k x hx))
      have HNE := neqG x
      have hgd := guardG
      subst hao hbo
      have hcl : ∀ W, Gr wr W → W.cell? ⟨w.heap.size, 3, none⟩ = some (.slice (some ⟨b, off, none⟩) r.got.length gc) := fun W h => (((HBC2.out.gr HG.out).gr h).cell 3).trans k3
      have hdl : ∀ W, Gr wr W → W.cell? ⟨w.heap.size + 1, 3, none⟩ = some (.slice (some ⟨b2, off2, none⟩) r.got.length gc2) := fun W h => (((HBD2.out.gr HG.out).gr h).cell 3).trans m3
      have HF1 : Hid (∀ W, Gr wr W → (loadVar 44 ⟨w.heap.size, 3, none⟩).run Tryz.prog W = .ok (.slice (some ⟨b, off, none⟩) r.got.length gc) W) := mkH (fun W h => by have hc := hcl W h; clear HNE hgd hq5 hq6; go_simp)
      have HF2 : Hid (∀ W, Gr wr W → (loadVar 44 ⟨w.heap.size + 1, 3, none⟩).run Tryz.prog W = .ok (.slice (some ⟨b2, off2, none⟩) r.got.length gc2) W) := mkH (fun W h => by have hc := hdl W h; clear HNE hgd hq5 hq6; go_simp)
      clear hc1 hc2 hx hcl hdl
      go_wp2_with fail
      refine wp_region_quiet (C := fun w' => Gr wr w') (by kernel_rfl) (by kernel_rfl) ((Gr.refl wr).drew) ?_
      refine wpQuiet_step (fun K hK => ?_)
      go_simp
      refine ⟨_, fun _ _ => rfl, hK _ ?_⟩
      clear hK K
      refine q_yield (v := .slice (some ⟨b, off, none⟩) r.got.length gc) rfl (fun W hC => run_ld rfl rfl (HF1.out W hC)) ?_
      refine wpQuiet_step (fun K hK => ?_)
      go_simp
      refine ⟨_, fun _ _ => rfl, hK _ ?_⟩
      clear hK K
      refine wpQuiet_step (fun K hK => ?_)
      go_simp
      refine ⟨_, fun _ _ => rfl, hK _ ?_⟩
      clear hK K
      refine q_yield (v := .agg (Gv x)) rfl (fun W hC => run_ld rfl rfl (HL1.out W hC)) ?_
      refine wpQuiet_step (fun K hK => ?_)
      go_simp
      refine ⟨_, fun _ _ => rfl, hK _ ?_⟩
      clear hK K
      refine q_yield (v := .slice (some ⟨b2, off2, none⟩) r.got.length gc2) rfl (fun W hC => run_ld rfl rfl (HF2.out W hC)) ?_
      refine wpQuiet_step (fun K hK => ?_)
      go_simp
      refine ⟨_, fun _ _ => rfl, hK _ ?_⟩
      clear hK K
      refine wpQuiet_step (fun K hK => ?_)
      go_simp
      refine ⟨_, fun _ _ => rfl, hK _ ?_⟩
      clear hK K
      refine q_yield (v := .agg (Gv x)) rfl (fun W hC => run_ld rfl rfl (HL2.out W hC)) ?_
      refine wpQuiet_step (fun K hK => ?_)
      go_simp
      refine ⟨_, fun _ _ => rfl, hK _ ?_⟩
      clear hK K
      refine wpQuiet_nil ?_
      intro w9 hw9
      have HW := mkH (HG.out.trans hw9)
      clear hw9
      go_wp2
      go_roundw
      case rel => exact ⟨k + 1, by omega, by go_num, HW⟩
      case measure => simp [intOf]; omega
    · go_wp2
      go_ret
      exact ⟨rfl, HG2.out.trans HG.out⟩
end Go.Proofs.YtgbbajeeelgbhaaGreatDoor.Wsr

namespace Go.Proofs.YtgbbajeeelgbhaaGreatDoor.Hn
open Go.RowKit Kt Gf Gk Gp Qm Qa Qb Qc Qd Qe Qf Qg Ha Hb Hc Hd Hw
open Gr (RowS Fl Gl Go' gC)
open Pl (Rg may join)
open Pr (Rw Ow)
open Wi (Rp Cm)
open Wk (Cv)
open Wa (Pv RpM)
open At (RowT)
set_option linter.unusedVariables false
set_option linter.unusedSectionVars false
set_option linter.unusedSimpArgs false
set_option maxRecDepth 20000

/-- A shard that New did not make. -/
def Un (w : World) (p : Option Addr) : Prop := p = none ∨ ∃ b, p = some ⟨b, 0, none⟩ ∧ Bx w b #[.pointer none, .pointer none, .int .i64 0, .int .i64 0] 69
theorem Un.below {w w' : World} {p : Option Addr} (h : Un w p) (hb : Below w.heap.size w w') : Un w' p := by
  rcases h with h | ⟨b, h1, h2⟩
  · exact .inl h
  · exact .inr ⟨b, h1, h2.bel hb⟩
theorem isMade_un {w : World} {p : Option Addr} (h : Un w p) : Calls Tryz.prog 50 #[.pointer p] w fun e w' => e = .returned (.bool false) ∧ w' = w := by
  rcases h with rfl | ⟨b, rfl, h2⟩
  · exact isMade_nil w
  · exact Ha.isMade_zero h2
theorem Slots_un {w : World} {p : Option Addr} (h : Un w p) : Calls Tryz.prog 25 #[.pointer p] w fun e w' => e = .returned (.int .i64 0) ∧ w' = w := by
  have HU := mkH h
  clear h
  go_enter Tryz.func25, Tryz.ntmps25
  go_wp2_with (go_at_call 50; refine (isMade_un HU.out).mono ?_; rintro e1 w1 ⟨rfl, h1⟩; have h2 := h1.symm; clear h1; subst h2)
  go_ret
  exact ⟨rfl, rfl⟩
theorem Now_un {w : World} {p : Option Addr} (h : Un w p) : Calls Tryz.prog 26 #[.pointer p] w fun e w' => e = .returned (.int .i64 0) ∧ w' = w := by
  have HU := mkH h
  clear h
  go_enter Tryz.func26, Tryz.ntmps26
  go_wp2_with (go_at_call 50; refine (isMade_un HU.out).mono ?_; rintro e1 w1 ⟨rfl, h1⟩; have h2 := h1.symm; clear h1; subst h2)
  go_ret
  exact ⟨rfl, rfl⟩
theorem Engine_un {w : World} {p : Option Addr} (h : Un w p) : Calls Tryz.prog 27 #[.pointer p] w fun e w' => e = .returned (.pointer none) ∧ w' = w := by
  have HU := mkH h
  clear h
  go_enter Tryz.func27, Tryz.ntmps27
  go_wp2_with (go_at_call 50; refine (isMade_un HU.out).mono ?_; rintro e1 w1 ⟨rfl, h1⟩; have h2 := h1.symm; clear h1; subst h2)
  go_ret
  exact ⟨rfl, rfl⟩
theorem Sessions_un {w : World} {p : Option Addr} (h : Un w p) : Calls Tryz.prog 28 #[.pointer p] w fun e w' => e = .returned (.pointer none) ∧ w' = w := by
  have HU := mkH h
  clear h
  go_enter Tryz.func28, Tryz.ntmps28
  go_wp2_with (go_at_call 50; refine (isMade_un HU.out).mono ?_; rintro e1 w1 ⟨rfl, h1⟩; have h2 := h1.symm; clear h1; subst h2)
  go_ret
  exact ⟨rfl, rfl⟩
theorem Copy_un {w : World} {p : Option Addr} (h : Un w p) : Calls Tryz.prog 29 #[.pointer p] w fun e w' => e = .returned (.pointer none) ∧ w' = w := by
  have HU := mkH h
  clear h
  go_enter Tryz.func29, Tryz.ntmps29
  go_wp2_with (go_at_call 50; refine (isMade_un HU.out).mono ?_; rintro e1 w1 ⟨rfl, h1⟩; have h2 := h1.symm; clear h1; subst h2)
  go_ret
  exact ⟨rfl, rfl⟩
theorem Dump_un {w : World} {p : Option Addr} (h : Un w p) : Calls Tryz.prog 71 #[.pointer p] w fun e w' => e = .returned (.tuple #[.slice none 0 0, .int .i64 1]) ∧ w' = w := by
  have HU := mkH h
  clear h
  go_enter Tryz.func71, Tryz.ntmps71
  go_wp2_with (go_at_call 50; refine (isMade_un HU.out).mono ?_; rintro e1 w1 ⟨rfl, h1⟩; have h2 := h1.symm; clear h1; subst h2)
  go_ret2
  exact ⟨rfl, rfl⟩
theorem dumps_un {w : World} {p : Option Addr} (h : Un w p) : Calls Tryz.prog 30 #[.pointer p] w fun e w' => e = .returned (.bool false) ∧ w' = w := by
  have HU := mkH h
  clear h
  go_enter Tryz.func30, Tryz.ntmps30
  go_wp2_with (go_at_call 71; refine (Dump_un HU.out).mono ?_; rintro e1 w1 ⟨rfl, h1⟩; have h2 := h1.symm; clear h1; subst h2)
  go_ret
  exact ⟨rfl, rfl⟩
theorem Apply_un {w : World} {p : Option Addr} (h : Un w p) (v : Value) : Calls Tryz.prog 16 #[.pointer p, v] w fun e w' => e = .returned (.agg Zd) ∧ Below w.heap.size w w' := by
  have HB := mkH ((Below.refl w.heap.size w).alloc (Nat.le_refl _) (.cells Zd 48))
  have HD := mkH (Bx.new w Zd 48)
  have HU := mkH (h.below HB.out)
  clear h
  go_enter Tryz.func16, Tryz.ntmps16
  go_upto_region 1 with fail
  change Code.wp _ _ _ _ (w.alloc (.cells Zd 48))
  generalize w.alloc (.cells Zd 48) = V at *
  go_wp2_with (first
    | (go_at_call 50; refine (isMade_un HU.out).mono ?_; rintro e1 w1 ⟨rfl, h1⟩; have h2 := h1.symm; clear h1; subst h2)
    | (refine wpList_st rfl (ty := 48) (x := .tmp 4) (y := .tmp 13) (b := w.heap.size) (cs := Zd) (old := Zd) (t := 48) rfl rfl rfl HD.out infoD rfl (Dv_one _ _ _ _ _ _ _ _ _ _ _ _ rfl) ?_))
  have hD2 := HD.out.row (cs := Zd)
  refine bodyPost_ret (res_c rfl _ _ _ rfl (load_dv rfl hD2)) rfl ⟨rfl, below_setRow HB.out (Nat.le_refl _) _⟩
theorem New_none (w : World) (sa : Option Addr) (sc : Nat) (sv : List Rg) (hs : Rw w sa sv) (hl : sv.length ≤ 1000) : Calls Tryz.prog 9 #[.slice none 0 0, .slice sa sv.length sc] w fun e w' => e = .returned (.tuple #[.pointer none, .int .i64 2]) ∧ Below w.heap.size w w' := by
  have HN := mkH (Qg.New_bad w none 0 [] (RowS.nil _ _) sa sc sv hs hl (by rw [mayQ_len (by simp)]; rfl))
  clear hs hl
  go_enter Tryz.func9, Tryz.ntmps9
  go_wp2_with (go_at_call 36; refine HN.out.mono ?_; rintro e1 w1 ⟨rfl, hb1⟩; have HB1 := mkH hb1; clear hb1)
  go_ret2
  exact ⟨rfl, HB1.out⟩
theorem cv_in (c : Cm) (d : Value) (r : Rp) (ga : Option Addr) (gc : Nat) (da : Option Addr) (dc : Nat) (ra : Option Addr) (rc : Nat) (s n : Int) (f : Bool) (w : World) (b : Nat) (h : Bx w b (Dv s n c d r ga gc da dc ra rc f) 48) : (loadVar 39 ⟨b, 2, none⟩).run Tryz.prog w = .ok (.agg (Cv c d)) w := by
  have hq := Wk.run_load_agg (P := Tryz.prog) (w := w) 39 _ Tryz.underlying39 rfl b 2 (Cv c d).toList (by kernel_rfl) (fun j v hv => ?_)
  · simpa using hq
  · rw [Nat.add_comm]
    refine h.cell (j + 2) v ?_
    have hj : j < 19 := by have := Gr.lt_of hv; simpa [Cv] using this
    rw [← hv]
    match j, hj with
    | 0, _ => rfl
    | 1, _ => rfl
    | 2, _ => rfl
    | 3, _ => rfl
    | 4, _ => rfl
    | 5, _ => rfl
    | 6, _ => rfl
    | 7, _ => rfl
    | 8, _ => rfl
    | 9, _ => rfl
    | 10, _ => rfl
    | 11, _ => rfl
    | 12, _ => rfl
    | 13, _ => rfl
    | 14, _ => rfl
    | 15, _ => rfl
    | 16, _ => rfl
    | 17, _ => rfl
    | 18, _ => rfl
    | j + 19, hj => omega
theorem pv_in (c : Cm) (d : Value) (r : Rp) (ga : Option Addr) (gc : Nat) (da : Option Addr) (dc : Nat) (ra : Option Addr) (rc : Nat) (s n : Int) (f : Bool) (w : World) (b : Nat) (h : Bx w b (Dv s n c d r ga gc da dc ra rc f) 48) : (loadVar 46 ⟨b, 21, none⟩).run Tryz.prog w = .ok (.agg (Pv r ga gc da dc ra rc)) w := by
  have hq := Wk.run_load_agg (P := Tryz.prog) (w := w) 46 _ Tryz.underlying46 rfl b 21 (Pv r ga gc da dc ra rc).toList (by kernel_rfl) (fun j v hv => ?_)
  · simpa using hq
  · rw [Nat.add_comm]
    refine h.cell (j + 21) v ?_
    have hj : j < 6 := by have := Gr.lt_of hv; simpa [Pv] using this
    rw [← hv]
    match j, hj with
    | 0, _ => rfl
    | 1, _ => rfl
    | 2, _ => rfl
    | 3, _ => rfl
    | 4, _ => rfl
    | 5, _ => rfl
    | j + 6, hj => omega
theorem sameC_none : Wn.sameC Cm.none Cm.none = true := by decide
set_option maxHeartbeats 4000000 in
theorem sameDone_z (w : World) : Calls Tryz.prog 15 #[.agg Zd, .agg Zd] w fun e w' => e = .returned (.bool true) ∧ Below w.heap.size w w' := by
  have HB := mkH (((Below.refl w.heap.size w).alloc (Nat.le_refl _) (.cells Zd 48)).alloc (by simp) (.cells Zd 48))
  have HA := mkH ((Bx.new w Zd 48).alloc (.cells Zd 48))
  have HC := mkH (Bx.new1 w (.cells Zd 48) Zd 48)
  go_enter Tryz.func15, Tryz.ntmps15
  go_upto_region 1 with fail
  generalize (w.alloc (.cells Zd 48)).alloc (.cells Zd 48) = V at *
  have a0 := HA.out.cell 0 (.int .i64 0) rfl
  have a1 := HA.out.cell 1 (.int .i64 0) rfl
  have b0 := HC.out.cell 0 (.int .i64 0) rfl
  have b1 := HC.out.cell 1 (.int .i64 0) rfl
  go_wp2_with (first
    | (refine Wa.wpList_ldw (ty := 46) (x := .tmp 25) (p := ⟨w.heap.size, 21, none⟩) (v := .agg (Pv Rp.none none 0 none 0 none 0)) rfl rfl rfl (pv_in Cm.none (.slice none 0 0) Rp.none none 0 none 0 none 0 0 0 false V1 w.heap.size HA1.out) ?_)
    | (refine Wa.wpList_ldw (ty := 46) (x := .tmp 27) (p := ⟨w.heap.size + 1, 21, none⟩) (v := .agg (Pv Rp.none none 0 none 0 none 0)) rfl rfl rfl (pv_in Cm.none (.slice none 0 0) Rp.none none 0 none 0 none 0 0 0 false V1 (w.heap.size + 1) HC1.out) ?_)
    | (go_at_call 35; refine (Wsr.rsameReply_self V1 Rp.none none 0 none 0 none 0 none 0 none 0 none 0 (rpm_z V1 ⟨rfl, rfl, rfl⟩) (rpm_z V1 ⟨rfl, rfl, rfl⟩) (cnt_z ⟨rfl, rfl, rfl⟩)).mono ?_; rintro e2 V2 ⟨rfl, hg2⟩; have HB2 := mkH (HB1.out.trans (hg2.below.mono HB1.out.size)); have a27 := (HA1.out.bel hg2.below).cell 27 (.bool false) rfl; have b27 := (HC1.out.bel hg2.below).cell 27 (.bool false) rfl; clear hg2)
    | (refine Wa.wpList_ldw (ty := 39) (x := .tmp 18) (p := ⟨w.heap.size, 2, none⟩) (v := .agg (Cv Cm.none (.slice none 0 0))) rfl rfl rfl (cv_in Cm.none (.slice none 0 0) Rp.none none 0 none 0 none 0 0 0 false V w.heap.size HA.out) ?_)
    | (refine Wa.wpList_ldw (ty := 39) (x := .tmp 20) (p := ⟨w.heap.size + 1, 2, none⟩) (v := .agg (Cv Cm.none (.slice none 0 0))) rfl rfl rfl (cv_in Cm.none (.slice none 0 0) Rp.none none 0 none 0 none 0 0 0 false V (w.heap.size + 1) HC.out) ?_)
    | (go_at_call 49; refine (Wn.rsame_any V Cm.none Cm.none none none 0 0 (fun h => by simp [Cm.none] at h) (fun h => by simp [Cm.none] at h) (by simp [Cm.none]) (by simp [Cm.none])).mono ?_; rintro e1 V1 ⟨rfl, hg1⟩; rw [sameC_none]; have HB1 := mkH (HB.out.trans (hg1.below.mono HB.out.size)); have HA1 := mkH (HA.out.bel hg1.below); have HC1 := mkH (HC.out.bel hg1.below); clear hg1))
  go_ret
  exact ⟨rfl, HB2.out⟩
end Go.Proofs.YtgbbajeeelgbhaaGreatDoor.Hn

namespace Go.Proofs.YtgbbajeeelgbhaaGreatDoor.Hno
open Go.RowKit Kt Gf Gk Gp Qm Qa Qb Qc Qd Qe Qf Qg Ha Hb Hc Hd Hw Hn
open Gr (RowS Fl Gl Go' gC)
open Pl (Rg may join)
open Pr (Rw Ow)
open Wi (Rp Cm)
open Wk (Cv)
open Wa (Pv RpM)
set_option linter.unusedVariables false
set_option linter.unusedSectionVars false
set_option linter.unusedSimpArgs false
set_option maxRecDepth 20000

set_option maxHeartbeats 8000000 in
theorem nobody_walk (w : World) (hT : Dt.Tb w) (a : Option Addr) (len cap : Nat) : Calls Tryz.prog 6 #[.slice a len cap] w fun e w' => e = .returned (.bool true) ∧ Below w.heap.size w w' := by
  have HT := mkH hT
  clear hT
  go_enter Tryz.func6, Tryz.ntmps6
  go_upto_region 2 with (first
    | (go_at_call 19; refine (whole_any w).mono ?_; rintro e2 w2 ⟨rfl, hw2, hb2⟩; have HW2 := mkH hw2; have HB2 := mkH hb2; clear hw2 hb2)
    | (go_at_call 9; refine (New_none w2 (some ⟨w.heap.size, 0, none⟩) 1 whl HW2.out (by decide)).mono ?_; rintro e3 w3 ⟨rfl, hb3⟩; have HB3 := mkH (HB2.out.trans (hb3.mono HB2.out.size)); clear hb3))
  have HZ := mkH ((Bx.new w3 #[.pointer none, .pointer none, .int .i64 0, .int .i64 0] 69).alloc (.cells #[.pointer none, .pointer (some ⟨w3.heap.size, 0, none⟩), .pointer none] 24))
  have HL := mkH (Bx.new1 w3 (.cells #[.pointer none, .pointer none, .int .i64 0, .int .i64 0] 69) #[.pointer none, .pointer (some ⟨w3.heap.size, 0, none⟩), .pointer none] 24)
  have HA := mkH (((Below.refl w3.heap.size w3).alloc (Nat.le_refl _) (.cells #[.pointer none, .pointer none, .int .i64 0, .int .i64 0] 69)).alloc (by simp) (.cells #[.pointer none, .pointer (some ⟨w3.heap.size, 0, none⟩), .pointer none] 24))
  go_wp2
  generalize (w3.alloc (.cells #[.pointer none, .pointer none, .int .i64 0, .int .i64 0] 69)).alloc (.cells #[.pointer none, .pointer (some ⟨w3.heap.size, 0, none⟩), .pointer none] 24) = W at *
  have HBW := mkH (HB3.out.trans (HA.out.mono HB3.out.size))
  clear HA HW2 HB2 HB3
  go_loopw [17] (fun i wr => ∃ k : Nat, k ≤ 3 ∧ i = .int .i64 k ∧ Hid (Below W.heap.size W wr)) (fun i _ => 3 - (intOf i).toNat)
  case atStart => exact ⟨0, by omega, rfl, Below.refl _ _⟩
  case round =>
    obtain ⟨k, hk, rfl, HB⟩ := hrel
    by_cases hlt : k < 3
    · obtain ⟨p, hp, hu⟩ : ∃ p, wr.cell? ⟨w3.heap.size + 1, k, none⟩ = some (.pointer p) ∧ Un wr p := by
        have hL := HL.out.bel HB.out
        have hZ := HZ.out.bel HB.out
        match k, hlt with
        | 0, _ => exact ⟨none, hL.cell 0 _ rfl, .inl rfl⟩
        | 1, _ => exact ⟨_, hL.cell 1 _ rfl, .inr ⟨_, rfl, hZ⟩⟩
        | 2, _ => exact ⟨none, hL.cell 2 _ rfl, .inl rfl⟩
        | k + 3, h => omega
      have HU := mkH hu
      have hi : (k : Int) < 3 := by omega
      have hi0 : (0 : Int) ≤ (k : Int) := by omega
      clear hu
      go_wp2_with (first
        | (go_at_call 30; refine (dumps_un HU2.out).mono ?_; rintro e1 w1 ⟨rfl, h1⟩; have h2 := h1.symm; clear h1; subst h2)
        | (go_at_call 29; refine (Copy_un HU2.out).mono ?_; rintro e1 w1 ⟨rfl, h1⟩; have h2 := h1.symm; clear h1; subst h2)
        | (go_at_call 28; refine (Sessions_un HU2.out).mono ?_; rintro e1 w1 ⟨rfl, h1⟩; have h2 := h1.symm; clear h1; subst h2)
        | (go_at_call 27; refine (Engine_un HU2.out).mono ?_; rintro e1 w1 ⟨rfl, h1⟩; have h2 := h1.symm; clear h1; subst h2)
        | (go_at_call 26; refine (Now_un HU2.out).mono ?_; rintro e1 w1 ⟨rfl, h1⟩; have h2 := h1.symm; clear h1; subst h2)
        | (go_at_call 25; refine (Slots_un HU2.out).mono ?_; rintro e1 w1 ⟨rfl, h1⟩; have h2 := h1.symm; clear h1; subst h2)
        | (go_at_call 15; refine (sameDone_z V1).mono ?_; rintro e5 V2 ⟨rfl, hb5⟩; have HU2 := mkH (HU1.out.below hb5); have HB6 := mkH (HB5.out.trans (hb5.mono HB5.out.size)); clear hb5)
        | (go_at_call 16; refine (Apply_un HU.out (.slice a len cap)).mono ?_; rintro e4 V1 ⟨rfl, hb4⟩; have HU1 := mkH (HU.out.below hb4); have HB5 := mkH (HB.out.trans (hb4.mono HB.out.size)); clear hb4))
      exact ⟨⟨k + 1, by omega, by simp, HB6⟩, by simp [intOf]; omega⟩
    · have he : k = 3 := by omega
      subst he
      have HTW : Hid (Dt.Tb wr) := mkH (HT.out.below (HBW.out.trans (HB.out.mono HBW.out.size)) HT.out.size)
      go_wp2_with (go_at_call 18; refine (works_any wr HTW.out).mono ?_; rintro e9 w9 ⟨rfl, hb9⟩; have HB9 := mkH (HB.out.trans (hb9.mono HB.out.size)); clear hb9)
      go_ret
      exact ⟨rfl, HBW.out.trans (HB9.out.mono HBW.out.size)⟩
end Go.Proofs.YtgbbajeeelgbhaaGreatDoor.Hno

namespace Go.Proofs.YtgbbajeeelgbhaaGreatDoor.Gz
set_option linter.unusedVariables false

/-- The table as it is laid. -/
def ktab : List Int := [1116352408, 1899447441, 3049323471, 3921009573, 961987163, 1508970993, 2453635748, 2870763221, 3624381080, 310598401, 607225278, 1426881987, 1925078388, 2162078206, 2614888103, 3248222580, 3835390401, 4022224774, 264347078, 604807628, 770255983, 1249150122, 1555081692, 1996064986, 2554220882, 2821834349, 2952996808, 3210313671, 3336571891, 3584528711, 113926993, 338241895, 666307205, 773529912, 1294757372, 1396182291, 1695183700, 1986661051, 2177026350, 2456956037, 2730485921, 2820302411, 3259730800, 3345764771, 3516065817, 3600352804, 4094571909, 275423344, 430227734, 506948616, 659060556, 883997877, 958139571, 1322822218, 1537002063, 1747873779, 1955562222, 2024104815, 2227730452, 2361852424, 2428436474, 2756734187, 3204031479, 3329325298]
theorem ktab_get (i : Nat) (hi : i < 64) : Value.int .u32 (ktab.getD i 0) = .int .u32 ((Dp.KT.getD i 0 : Nat) : Int) := by
  have : ∀ i : Fin 64, ktab.getD i.1 0 = ((Dp.KT.getD i.1 0 : Nat) : Int) := by decide
  rw [this ⟨i, hi⟩]
end Go.Proofs.YtgbbajeeelgbhaaGreatDoor.Gz
