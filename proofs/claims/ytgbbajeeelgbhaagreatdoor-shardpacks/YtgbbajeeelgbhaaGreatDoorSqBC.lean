/-
  ShC, joined by mrg.py.
-/
import Derived.Test.YtgbbajeeelgbhaaGreatDoorSqBB

namespace Go.Proofs.YtgbbajeeelgbhaaGreatDoor.Hc
open Go.RowKit Kt Gf Gk Gp Qm Qa Qb Qc Qd Qe Qf Qg Ha Hb
open Gr (RowS Fl Gl Go' gC)
open Pl (Rg may join)
open Pr (Rw Ow)
open Wi (Rp Cm readCm)
open Wk (Cv)
open Wa (Pv RpM)
open At (RowT)
set_option linter.unusedVariables false
set_option linter.unusedSectionVars false
set_option linter.unusedSimpArgs false
set_option maxRecDepth 20000

/-- A reply without lists. -/
def Zr (r : Rp) : Prop := r.got = [] ∧ r.data = [] ∧ r.about = []
theorem rpm_z {r : Rp} (w : World) (h : Zr r) : RpM w r none none none := ⟨h.1 ▸ Wa.RowS.nil _ _, fun hl => by rw [h.2.1] at hl; simp at hl, h.2.2 ▸ Wa.RowS.nil _ _⟩
theorem cnt_z {r : Rp} (h : Zr r) : Wa.Cnt r := ⟨by rw [h.1]; simp, by rw [h.2.1]; simp, by rw [h.2.2]; simp⟩
theorem tm_bare {w : World} {F : Nat → Prop} {T Tm : Nat} {l : List Sa.E} (h : Sa.Tb w F T Tm l) : Bare w Tm := by
  obtain ⟨ys, -, hx⟩ := h
  exact fun a v hc => Sm.Mw.cell hx.m hc
/-- What answer tells of a number that is known. -/
def AnK (w : World) (Sb Xb Mb T Tm : Nat) (F : Nat → Prop) (cf : List Cf) (sv : List Rg) (xs : List X) (qa : Option Addr) (qc : Nat) (sa : Option Addr) (sc : Nat) (l : List Sa.E) (now slots : Int) (c : Cm) (e : Ending) (w' : World) : Prop :=
  ∃ ga gc da dc ra rc, e = .returned (.tuple #[.agg (Pv (Sc.lookR l c.client c.num) ga gc da dc ra rc), .bool false]) ∧ RpM w' (Sc.lookR l c.client c.num) ga da ra ∧ Wa.Cnt (Sc.lookR l c.client c.num) ∧ Hs w' Sb Xb Mb T Tm F cf sv xs qa qc sa sc l now slots ∧ Below w.heap.size w w'
set_option maxHeartbeats 4000000 in
theorem answer_known {w : World} {Sb Xb Mb T Tm : Nat} {F : Nat → Prop} {cf : List Cf} {sv : List Rg} {xs : List X} {qa : Option Addr} {qc : Nat} {sa : Option Addr} {sc : Nat} {l : List Sa.E} {now slots : Int} (h : Hs w Sb Xb Mb T Tm F cf sv xs qa qc sa sc l now slots) (hFw : ∀ k, F k → k < w.heap.size) (c : Cm) (d : Value) (hcl : Sa.num c.client) (hnu : Sa.num c.num) (hk : Sc.lookK l c.client c.num = true) (hE : Sc.lookE l c.client c.num = 0) :
    Calls Tryz.prog 52 #[.pointer (some ⟨Sb, 0, none⟩), .agg (Cv c d)] w fun e w' => AnK w Sb Xb Mb T Tm F cf sv xs qa qc sa sc l now slots c e w' := by
  have HK := mkH hk
  have HE := mkH hE
  have hmx : Tryz.prog.follows .mixedOrders = true := by kernel_rfl
  have HH := mkH h
  have HFW := mkH hFw
  have HS0 := mkH (((Below.refl w.heap.size w).alloc (Nat.le_refl _) (.cells (Cv c d) 39)).alloc (by simp) (.cells (Pv Wi.Rp.none none 0 none 0 none 0) 46))
  have HC := mkH ((Bx.new w (Cv c d) 39).alloc (.cells (Pv Wi.Rp.none none 0 none 0 none 0) 46))
  have HR := mkH (Bx.new1 w (.cells (Cv c d) 39) (Pv Wi.Rp.none none 0 none 0 none 0) 46)
  have n1 : ¬ c.client = 0 := by unfold Sa.num at hcl; omega
  have n2 : ¬ c.num = 0 := by unfold Sa.num at hnu; omega
  have n1b : (c.client == 0) = false := by simp [n1]
  have n2b : (c.num == 0) = false := by simp [n2]
  clear h hFw hk hE hcl hnu
  go_enter Tryz.func52, Tryz.ntmps52
  go_upto_region 1 with fail
  change Code.wp _ _ _ _ ((w.alloc (.cells (Cv c d) 39)).alloc (.cells (Pv Wi.Rp.none none 0 none 0 none 0) 46))
  generalize (w.alloc (.cells (Cv c d) 39)).alloc (.cells (Pv Wi.Rp.none none 0 none 0 none 0) 46) = V at *
  obtain ⟨R, hR⟩ : ∃ R, w.heap.size + 1 = R := ⟨_, rfl⟩
  rw [hR] at HR ⊢
  have hwR : w.heap.size < R := by omega
  clear hR
  have HH0 := mkH (HH.out.below HS0.out)
  have HMB : Hid (∀ W, Below w.heap.size w W → Bare W Mb) := mkH (fun W hW => (HH.out.below hW).ex.m.bare)
  have d1 : V.cell? ⟨w.heap.size, 1, none⟩ = some (.int .i64 c.client) := HC.out.cell 1 _ rfl
  have d2 : V.cell? ⟨w.heap.size, 2, none⟩ = some (.int .i64 c.num) := HC.out.cell 2 _ rfl
  go_upto_region 3 with fail
  clear d1 d2
  refine Rg.region_G hmx 9 (fun W => W = V.drew) rfl (fun hHeld => ?_)
  refine Rg.anyG_pure (i := 0) (oi := { dst := some 20, op := _, type := _, pos := _, after := _, guard := _ }) (v := ?_) rfl (by kernel_rfl) (by kernel_rfl) (by kernel_rfl) (by rfl) (fun _ _ _ h => h) (Or.inl ⟨by rfl, ?_⟩) (fun _ => by assumption) ?_
  rotate_left
  · (intro W hSw; (try dsimp only at hSw); go_simp; try (with_reducible rfl))
  try simp only [Act.put, List.setIfInBounds_toArray, List.set_cons_zero, List.set_cons_succ]
  refine Rg.anyG_pure (i := 1) (oi := { dst := some 21, op := _, type := _, pos := _, after := _, guard := _ }) (v := ?_) rfl (by kernel_rfl) (by kernel_rfl) (by kernel_rfl) (by rfl) (fun _ _ _ h => h) (Or.inl ⟨by rfl, ?_⟩) (fun _ => by assumption) ?_
  rotate_left
  · (intro W hSw; (try dsimp only at hSw); go_simp; try (with_reducible rfl))
  try simp only [Act.put, List.setIfInBounds_toArray, List.set_cons_zero, List.set_cons_succ]
  refine Rg.anyG_pure (i := 2) (oi := { dst := some 22, op := _, type := _, pos := _, after := _, guard := _ }) (v := ?_) rfl (by kernel_rfl) (by kernel_rfl) (by kernel_rfl) (by rfl) (fun _ _ _ h => h) (Or.inl ⟨by rfl, ?_⟩) (fun _ => by assumption) ?_
  rotate_left
  · (intro W hSw; (try dsimp only at hSw); go_simp; try (with_reducible rfl))
  try simp only [Act.put, List.setIfInBounds_toArray, List.set_cons_zero, List.set_cons_succ]
  refine Rg.anyG_pure (i := 3) (oi := { dst := some 23, op := _, type := _, pos := _, after := _, guard := _ }) (v := ?_) rfl (by kernel_rfl) (by kernel_rfl) (by kernel_rfl) (by rfl) (fun _ _ _ h => h) (Or.inl ⟨by rfl, ?_⟩) (fun _ => by assumption) ?_
  rotate_left
  · (intro W hSw; (try dsimp only at hSw); go_simp; try (with_reducible rfl))
  try simp only [Act.put, List.setIfInBounds_toArray, List.set_cons_zero, List.set_cons_succ]
  refine Rg.anyG_take (i := 4) (oi := { dst := some 24, op := _, type := _, pos := _, after := _, guard := _ }) (v := ?_) rfl (by kernel_rfl) (by kernel_rfl) (by kernel_rfl) [9] (by kernel_rfl) (fun _ _ _ h => h) (Or.inl ⟨by rfl, ?_⟩) (by assumption) ?_
  rotate_left
  · (intro W hSw; (try dsimp only at hSw); subst hSw; have c1 := (HH0.out.bx.bel (below_drew V)).cell 1 _ rfl; go_simp; try (with_reducible rfl))
  try simp only [Act.put, List.setIfInBounds_toArray, List.set_cons_zero, List.set_cons_succ]
  refine Rg.anyG_pure (i := 5) (oi := { dst := some 25, op := _, type := _, pos := _, after := _, guard := _ }) (v := ?_) rfl (by kernel_rfl) (by kernel_rfl) (by kernel_rfl) (by rfl) (fun _ _ _ h => h) (Or.inl ⟨by rfl, ?_⟩) (fun _ => by assumption) ?_
  rotate_left
  · (intro W hSw; (try dsimp only at hSw); go_simp; try (with_reducible rfl))
  try simp only [Act.put, List.setIfInBounds_toArray, List.set_cons_zero, List.set_cons_succ]
  refine Rg.anyG_take (i := 6) (oi := { dst := some 26, op := _, type := _, pos := _, after := _, guard := _ }) (v := ?_) rfl (by kernel_rfl) (by kernel_rfl) (by kernel_rfl) [9] (by kernel_rfl) (fun _ _ _ h => h) (Or.inl ⟨by rfl, ?_⟩) (by assumption) ?_
  rotate_left
  · (intro W hSw; (try dsimp only at hSw); subst hSw; have c3 : V.drew.cell? ⟨w.heap.size, 1, none⟩ = some (.int .i64 c.client) := (HC.out.bel (below_drew V)).cell 1 _ rfl; go_simp; try (with_reducible rfl))
  try simp only [Act.put, List.setIfInBounds_toArray, List.set_cons_zero, List.set_cons_succ]
  refine Rg.anyG_pure (i := 7) (oi := { dst := some 27, op := _, type := _, pos := _, after := _, guard := _ }) (v := ?_) rfl (by kernel_rfl) (by kernel_rfl) (by kernel_rfl) (by rfl) (fun _ _ _ h => h) (Or.inl ⟨by rfl, ?_⟩) (fun _ => by assumption) ?_
  rotate_left
  · (intro W hSw; (try dsimp only at hSw); go_simp; try (with_reducible rfl))
  try simp only [Act.put, List.setIfInBounds_toArray, List.set_cons_zero, List.set_cons_succ]
  refine Rg.anyG_take (i := 8) (oi := { dst := some 28, op := _, type := _, pos := _, after := _, guard := _ }) (v := ?_) rfl (by kernel_rfl) (by kernel_rfl) (by kernel_rfl) [9] (by kernel_rfl) (fun _ _ _ h => h) (Or.inl ⟨by rfl, ?_⟩) (by assumption) ?_
  rotate_left
  · (intro W hSw; (try dsimp only at hSw); subst hSw; have c3 : V.drew.cell? ⟨w.heap.size, 2, none⟩ = some (.int .i64 c.num) := (HC.out.bel (below_drew V)).cell 2 _ rfl; go_simp; try (with_reducible rfl))
  try simp only [Act.put, List.setIfInBounds_toArray, List.set_cons_zero, List.set_cons_succ]
  refine Rg.anyG_ready (rs := [9]) (by kernel_rfl) (by simp) ?_
  refine Rg.AllG.last (o := { dst := some 29, op := _, type := _, pos := _, after := _, guard := _ }) rfl (by kernel_rfl) (fun K hK => ?_)
  go_simp
  refine (Sd.look_any (HH0.out.below (below_drew V)).tb c.client c.num).mono ?_
  rintro e1 V1 ⟨ga, gc, da, dc, ra, rc, rfl, hrm, hfar, hcnt, hb1⟩
  rw [HK.out, HE.out]
  have HB1 : Hid (Below w.heap.size w V1) := mkH ((HS0.out.trans ((below_drew V).mono HS0.out.size)).trans (hb1.mono (HS0.out.trans ((below_drew V).mono HS0.out.size)).size))
  have HH1 := mkH ((HH0.out.below (below_drew V)).below hb1)
  have HC1 := mkH ((HC.out.bel (below_drew V)).bel hb1)
  have HR1 := mkH ((HR.out.bel (below_drew V)).bel hb1)
  have HRM := mkH hrm
  have hwV : V.heap.size ≤ V.drew.heap.size := Nat.le_refl _
  have HFR : Hid (Sa.Far (fun k => V.heap.size ≤ k) ga da ra) := mkH hfar
  have HCN := mkH hcnt
  clear hrm hfar hcnt hb1
  go_wp2_with fail
  refine hK.out _ _ ?_
  clear hK K
  try simp only [Act.put, List.setIfInBounds_toArray, List.set_cons_zero, List.set_cons_succ]
  refine Rg.anyG_pure (i := 10) (oi := { dst := some 19, op := _, type := _, pos := _, after := _, guard := _ }) (v := ?_) rfl (by kernel_rfl) (by kernel_rfl) (by kernel_rfl) (by rfl) (fun _ _ _ h => h) (Or.inl ⟨by rfl, ?_⟩) (fun h => absurd (h.symm.trans (show _ = true by kernel_rfl)) Bool.false_ne_true) ?_
  rotate_left
  · (intro W hSw; (try dsimp only at hSw); go_simp; try (with_reducible rfl))
  try simp only [Act.put, List.setIfInBounds_toArray, List.set_cons_zero, List.set_cons_succ]
  refine Rg.anyG_pure (i := 11) (oi := { dst := some 30, op := _, type := _, pos := _, after := _, guard := _ }) (v := ?_) rfl (by kernel_rfl) (by kernel_rfl) (by kernel_rfl) (by rfl) (fun _ _ _ h => h) (Or.inl ⟨by rfl, ?_⟩) (fun h => absurd (h.symm.trans (show _ = true by kernel_rfl)) Bool.false_ne_true) ?_
  rotate_left
  · (intro W hSw; (try dsimp only at hSw); go_simp; try (with_reducible rfl))
  try simp only [Act.put, List.setIfInBounds_toArray, List.set_cons_zero, List.set_cons_succ]
  refine Rg.anyG_pure (i := 12) (oi := { dst := some 31, op := _, type := _, pos := _, after := _, guard := _ }) (v := ?_) rfl (by kernel_rfl) (by kernel_rfl) (by kernel_rfl) (by rfl) (fun _ _ _ h => h) (Or.inl ⟨by rfl, ?_⟩) (fun h => absurd (h.symm.trans (show _ = true by kernel_rfl)) Bool.false_ne_true) ?_
  rotate_left
  · (intro W hSw; (try dsimp only at hSw); go_simp; try (with_reducible rfl))
  try simp only [Act.put, List.setIfInBounds_toArray, List.set_cons_zero, List.set_cons_succ]
  refine Rg.anyG_pure (i := 13) (oi := { dst := some 32, op := _, type := _, pos := _, after := _, guard := _ }) (v := ?_) rfl (by kernel_rfl) (by kernel_rfl) (by kernel_rfl) (by rfl) (fun _ _ _ h => h) (Or.inl ⟨by rfl, ?_⟩) (fun h => absurd (h.symm.trans (show _ = true by kernel_rfl)) Bool.false_ne_true) ?_
  rotate_left
  · (intro W hSw; (try dsimp only at hSw); go_simp; try (with_reducible rfl))
  try simp only [Act.put, List.setIfInBounds_toArray, List.set_cons_zero, List.set_cons_succ]
  refine Rg.anyG_ready (rs := [14]) (by kernel_rfl) (by simp) ?_
  refine Rg.AllG.behind (o := { dst := none, op := _, type := _, pos := _, after := _, guard := _ }) rfl (by kernel_rfl) (fun K hK => ?_) Rg.AllG.nil
  refine step_st (by rfl) 46 (.tmp 4) (.tmp 30) (by rfl) R (Pv (Sc.lookR l c.client c.num) ga gc da dc ra rc) (Pv Wi.Rp.none none 0 none 0 none 0) 46 (by rfl) (by rfl) HR1.out Wa.infoP (by rfl) (Wa.Pv_one _ _ _ _ _ _ _) ?_
  refine hK.out _ _ ?_
  clear hK K
  try simp only [Act.put, List.setIfInBounds_toArray, List.set_cons_zero, List.set_cons_succ]
  refine Rg.anyG_pure (i := 15) (oi := { dst := some 6, op := _, type := _, pos := _, after := _, guard := _ }) (v := ?_) rfl (by kernel_rfl) (by kernel_rfl) (by kernel_rfl) (by rfl) (fun _ _ _ h => h) (Or.inl ⟨by rfl, ?_⟩) (fun h => absurd (h.symm.trans (show _ = true by kernel_rfl)) Bool.false_ne_true) ?_
  rotate_left
  · (intro W hSw; (try dsimp only at hSw); go_simp; try (with_reducible rfl))
  try simp only [Act.put, List.setIfInBounds_toArray, List.set_cons_zero, List.set_cons_succ]
  refine Rg.anyG_pure (i := 16) (oi := { dst := some 7, op := _, type := _, pos := _, after := _, guard := _ }) (v := ?_) rfl (by kernel_rfl) (by kernel_rfl) (by kernel_rfl) (by rfl) (fun _ _ _ h => h) (Or.inl ⟨by rfl, ?_⟩) (fun h => absurd (h.symm.trans (show _ = true by kernel_rfl)) Bool.false_ne_true) ?_
  rotate_left
  · (intro W hSw; (try dsimp only at hSw); go_simp; try (with_reducible rfl))
  try simp only [Act.put, List.setIfInBounds_toArray, List.set_cons_zero, List.set_cons_succ]
  refine Rg.anyG_done (by kernel_rfl) ?_ _
  have HR2 := mkH (HR1.out.row (cs := (Pv (Sc.lookR l c.client c.num) ga gc da dc ra rc)))
  have hF2 : Fr (fun k => k = R) V1 (V1.setRow R (Pv (Sc.lookR l c.client c.num) ga gc da dc ra rc)) := Bx.frrow _
  have HH2 := mkH (HH1.out.other hF2 HR1.out (fun h => by have := HFW.out _ h; omega) (by decide) (by decide) (by decide) (by decide) (by decide) (by decide))
  have HB2 := mkH (below_setRow HB1.out (Nat.le_of_lt hwR) (Pv (Sc.lookR l c.client c.num) ga gc da dc ra rc))
  have hRV : R < V.heap.size := HR.out.lt
  have HRM2 : Hid (RpM (V1.setRow R (Pv (Sc.lookR l c.client c.num) ga gc da dc ra rc)) (Sc.lookR l c.client c.num) ga da ra) := mkH (Sa.rpM_fr HRM.out (fr_dk hF2) ((HFR.out.mono (fun k hk e => by omega))))
  clear hF2 HH1 HR1 HRM HB1 HC1
  generalize V1.setRow R (Pv (Sc.lookR l c.client c.num) ga gc da dc ra rc) = V2 at *
  go_wp2_with (first
    | (refine wpList_ld (ty := 46) (x := .tmp 4) (p := ⟨R, 0, none⟩) (v := .agg (Pv (Sc.lookR l c.client c.num) ga gc da dc ra rc)) rfl rfl rfl (Wa.load_pv HR2.out) ?_)
    | (refine wpList_st rfl (ty := 46) (x := .tmp 4) (y := .tmp 35) (b := R) (cs := (Pv (Sc.lookR l c.client c.num) ga gc da dc ra rc)) (old := (Pv (Sc.lookR l c.client c.num) ga gc da dc ra rc)) (t := 46) rfl rfl rfl HR2.out Wa.infoP rfl (Wa.Pv_one _ _ _ _ _ _ _) ?_))
  have hR3 := HR2.out.row (cs := (Pv (Sc.lookR l c.client c.num) ga gc da dc ra rc))
  have hF3 : Fr (fun k => k = R) V2 (V2.setRow R (Pv (Sc.lookR l c.client c.num) ga gc da dc ra rc)) := Bx.frrow _
  refine bodyPost_ret (res_ct rfl _ _ _ rfl rfl (Wa.load_pv hR3)) rfl ⟨ga, gc, da, dc, ra, rc, rfl, Sa.rpM_fr HRM2.out (fr_dk hF3) ((HFR.out.mono (fun k hk e => by omega))), HCN.out, HH2.out.other hF3 HR2.out (fun h => by have := HFW.out _ h; omega) (by decide) (by decide) (by decide) (by decide) (by decide) (by decide), below_setRow HB2.out (Nat.le_of_lt hwR) _⟩

/-- What do hands back and leaves: a reply without lists. -/
def DoP (w : World) (Sb Xb Mb T Tm : Nat) (F : Nat → Prop) (cf : List Cf) (sv : List Rg) (xs' : List E) (qa : Option Addr) (qc : Nat) (sa : Option Addr) (sc : Nat) (l : List Sa.E) (now slots : Int) (r : Rp) (e : Ending) (w' : World) : Prop :=
  ∃ ys, e = .returned (.agg (Pv r none 0 none 0 none 0)) ∧ ys.map X.p = xs' ∧ Hs w' Sb Xb Mb T Tm F cf sv ys qa qc sa sc l now slots ∧ Fr (fun k => k = Mb) w w'
/-- What answer tells of a number that is new. -/
def AnF (w : World) (Sb Xb Mb T Tm : Nat) (F : Nat → Prop) (cf : List Cf) (sv : List Rg) (xs' : List E) (qa : Option Addr) (qc : Nat) (sa : Option Addr) (sc : Nat) (l : List Sa.E) (now slots : Int) (c : Cm) (r : Rp) (e : Ending) (w' : World) : Prop :=
  ∃ ys F', e = .returned (.tuple #[.agg (Pv r none 0 none 0 none 0), .bool true]) ∧ ys.map X.p = xs' ∧ Hs w' Sb Xb Mb T Tm F' cf sv ys qa qc sa sc (Sc.noteL l c.client c.num r) now slots ∧ (∀ k, F' k → F k ∨ w.heap.size ≤ k) ∧ Fr (fun k => k = Mb ∨ k = Tm) w w'
set_option maxHeartbeats 8000000 in
theorem answer_new {w : World} {Sb Xb Mb T Tm : Nat} {F : Nat → Prop} {cf : List Cf} {sv : List Rg} {xs : List X} {qa : Option Addr} {qc : Nat} {sa : Option Addr} {sc : Nat} {l : List Sa.E} {now slots : Int} (h : Hs w Sb Xb Mb T Tm F cf sv xs qa qc sa sc l now slots) (hFw : ∀ k, F k → k < w.heap.size) (c : Cm) (d : Value) (hcl : Sa.num c.client) (hnu : Sa.num c.num) (hk : Sc.lookK l c.client c.num = false) (hE : Sc.lookE l c.client c.num = 0) (r : Rp) (xs' : List E) (hz : Zr r) (hr : r.err ≠ 14)
    (hdo : ∀ W, Below w.heap.size w W → Calls Tryz.prog 100 #[.pointer (some ⟨Sb, 0, none⟩), .agg (Cv c d)] W fun e w' => DoP W Sb Xb Mb T Tm F cf sv xs' qa qc sa sc l now slots r e w') :
    Calls Tryz.prog 52 #[.pointer (some ⟨Sb, 0, none⟩), .agg (Cv c d)] w fun e w' => AnF w Sb Xb Mb T Tm F cf sv xs' qa qc sa sc l now slots c r e w' := by
  have HK := mkH hk
  have HE := mkH hE
  have HZ := mkH hz
  have HDO := mkH hdo
  have n14 : ¬ r.err = 14 := hr
  have hmx : Tryz.prog.follows .mixedOrders = true := by kernel_rfl
  have HH := mkH h
  have HFW := mkH hFw
  have HS0 := mkH (((Below.refl w.heap.size w).alloc (Nat.le_refl _) (.cells (Cv c d) 39)).alloc (by simp) (.cells (Pv Wi.Rp.none none 0 none 0 none 0) 46))
  have HC := mkH ((Bx.new w (Cv c d) 39).alloc (.cells (Pv Wi.Rp.none none 0 none 0 none 0) 46))
  have HR := mkH (Bx.new1 w (.cells (Cv c d) 39) (Pv Wi.Rp.none none 0 none 0 none 0) 46)
  have n1 : ¬ c.client = 0 := by unfold Sa.num at hcl; omega
  have n2 : ¬ c.num = 0 := by unfold Sa.num at hnu; omega
  have n1b : (c.client == 0) = false := by simp [n1]
  have n2b : (c.num == 0) = false := by simp [n2]
  clear h hFw hk hE hcl hnu hz hdo hr
  go_enter Tryz.func52, Tryz.ntmps52
  go_upto_region 1 with fail
  change Code.wp _ _ _ _ ((w.alloc (.cells (Cv c d) 39)).alloc (.cells (Pv Wi.Rp.none none 0 none 0 none 0) 46))
  generalize (w.alloc (.cells (Cv c d) 39)).alloc (.cells (Pv Wi.Rp.none none 0 none 0 none 0) 46) = V at *
  obtain ⟨R, hR⟩ : ∃ R, w.heap.size + 1 = R := ⟨_, rfl⟩
  rw [hR] at HR ⊢
  have hwR : w.heap.size < R := by omega
  clear hR
  have HH0 := mkH (HH.out.below HS0.out)
  have HMB : Hid (∀ W, Below w.heap.size w W → Bare W Mb) := mkH (fun W hW => (HH.out.below hW).ex.m.bare)
  have d1 : V.cell? ⟨w.heap.size, 1, none⟩ = some (.int .i64 c.client) := HC.out.cell 1 _ rfl
  have d2 : V.cell? ⟨w.heap.size, 2, none⟩ = some (.int .i64 c.num) := HC.out.cell 2 _ rfl
  go_upto_region 3 with fail
  clear d1 d2
  refine Rg.region_G hmx 9 (fun W => W = V.drew) rfl (fun hHeld => ?_)
  refine Rg.anyG_pure (i := 0) (oi := { dst := some 20, op := _, type := _, pos := _, after := _, guard := _ }) (v := ?_) rfl (by kernel_rfl) (by kernel_rfl) (by kernel_rfl) (by rfl) (fun _ _ _ h => h) (Or.inl ⟨by rfl, ?_⟩) (fun _ => by assumption) ?_
  rotate_left
  · (intro W hSw; (try dsimp only at hSw); go_simp; try (with_reducible rfl))
  try simp only [Act.put, List.setIfInBounds_toArray, List.set_cons_zero, List.set_cons_succ]
  refine Rg.anyG_pure (i := 1) (oi := { dst := some 21, op := _, type := _, pos := _, after := _, guard := _ }) (v := ?_) rfl (by kernel_rfl) (by kernel_rfl) (by kernel_rfl) (by rfl) (fun _ _ _ h => h) (Or.inl ⟨by rfl, ?_⟩) (fun _ => by assumption) ?_
  rotate_left
  · (intro W hSw; (try dsimp only at hSw); go_simp; try (with_reducible rfl))
  try simp only [Act.put, List.setIfInBounds_toArray, List.set_cons_zero, List.set_cons_succ]
  refine Rg.anyG_pure (i := 2) (oi := { dst := some 22, op := _, type := _, pos := _, after := _, guard := _ }) (v := ?_) rfl (by kernel_rfl) (by kernel_rfl) (by kernel_rfl) (by rfl) (fun _ _ _ h => h) (Or.inl ⟨by rfl, ?_⟩) (fun _ => by assumption) ?_
  rotate_left
  · (intro W hSw; (try dsimp only at hSw); go_simp; try (with_reducible rfl))
  try simp only [Act.put, List.setIfInBounds_toArray, List.set_cons_zero, List.set_cons_succ]
  refine Rg.anyG_pure (i := 3) (oi := { dst := some 23, op := _, type := _, pos := _, after := _, guard := _ }) (v := ?_) rfl (by kernel_rfl) (by kernel_rfl) (by kernel_rfl) (by rfl) (fun _ _ _ h => h) (Or.inl ⟨by rfl, ?_⟩) (fun _ => by assumption) ?_
  rotate_left
  · (intro W hSw; (try dsimp only at hSw); go_simp; try (with_reducible rfl))
  try simp only [Act.put, List.setIfInBounds_toArray, List.set_cons_zero, List.set_cons_succ]
  refine Rg.anyG_take (i := 4) (oi := { dst := some 24, op := _, type := _, pos := _, after := _, guard := _ }) (v := ?_) rfl (by kernel_rfl) (by kernel_rfl) (by kernel_rfl) [9] (by kernel_rfl) (fun _ _ _ h => h) (Or.inl ⟨by rfl, ?_⟩) (by assumption) ?_
  rotate_left
  · (intro W hSw; (try dsimp only at hSw); subst hSw; have c1 := (HH0.out.bx.bel (below_drew V)).cell 1 _ rfl; go_simp; try (with_reducible rfl))
  try simp only [Act.put, List.setIfInBounds_toArray, List.set_cons_zero, List.set_cons_succ]
  refine Rg.anyG_pure (i := 5) (oi := { dst := some 25, op := _, type := _, pos := _, after := _, guard := _ }) (v := ?_) rfl (by kernel_rfl) (by kernel_rfl) (by kernel_rfl) (by rfl) (fun _ _ _ h => h) (Or.inl ⟨by rfl, ?_⟩) (fun _ => by assumption) ?_
  rotate_left
  · (intro W hSw; (try dsimp only at hSw); go_simp; try (with_reducible rfl))
  try simp only [Act.put, List.setIfInBounds_toArray, List.set_cons_zero, List.set_cons_succ]
  refine Rg.anyG_take (i := 6) (oi := { dst := some 26, op := _, type := _, pos := _, after := _, guard := _ }) (v := ?_) rfl (by kernel_rfl) (by kernel_rfl) (by kernel_rfl) [9] (by kernel_rfl) (fun _ _ _ h => h) (Or.inl ⟨by rfl, ?_⟩) (by assumption) ?_
  rotate_left
  · (intro W hSw; (try dsimp only at hSw); subst hSw; have c3 : V.drew.cell? ⟨w.heap.size, 1, none⟩ = some (.int .i64 c.client) := (HC.out.bel (below_drew V)).cell 1 _ rfl; go_simp; try (with_reducible rfl))
  try simp only [Act.put, List.setIfInBounds_toArray, List.set_cons_zero, List.set_cons_succ]
  refine Rg.anyG_pure (i := 7) (oi := { dst := some 27, op := _, type := _, pos := _, after := _, guard := _ }) (v := ?_) rfl (by kernel_rfl) (by kernel_rfl) (by kernel_rfl) (by rfl) (fun _ _ _ h => h) (Or.inl ⟨by rfl, ?_⟩) (fun _ => by assumption) ?_
  rotate_left
  · (intro W hSw; (try dsimp only at hSw); go_simp; try (with_reducible rfl))
  try simp only [Act.put, List.setIfInBounds_toArray, List.set_cons_zero, List.set_cons_succ]
  refine Rg.anyG_take (i := 8) (oi := { dst := some 28, op := _, type := _, pos := _, after := _, guard := _ }) (v := ?_) rfl (by kernel_rfl) (by kernel_rfl) (by kernel_rfl) [9] (by kernel_rfl) (fun _ _ _ h => h) (Or.inl ⟨by rfl, ?_⟩) (by assumption) ?_
  rotate_left
  · (intro W hSw; (try dsimp only at hSw); subst hSw; have c3 : V.drew.cell? ⟨w.heap.size, 2, none⟩ = some (.int .i64 c.num) := (HC.out.bel (below_drew V)).cell 2 _ rfl; go_simp; try (with_reducible rfl))
  try simp only [Act.put, List.setIfInBounds_toArray, List.set_cons_zero, List.set_cons_succ]
  refine Rg.anyG_ready (rs := [9]) (by kernel_rfl) (by simp) ?_
  refine Rg.AllG.last (o := { dst := some 29, op := _, type := _, pos := _, after := _, guard := _ }) rfl (by kernel_rfl) (fun K hK => ?_)
  go_simp
  refine (Sd.look_any (HH0.out.below (below_drew V)).tb c.client c.num).mono ?_
  rintro e1 V1 ⟨ga, gc, da, dc, ra, rc, rfl, hrm, hfar, hcnt, hb1⟩
  rw [HK.out, HE.out]
  have HB1 : Hid (Below w.heap.size w V1) := mkH ((HS0.out.trans ((below_drew V).mono HS0.out.size)).trans (hb1.mono (HS0.out.trans ((below_drew V).mono HS0.out.size)).size))
  have HH1 := mkH ((HH0.out.below (below_drew V)).below hb1)
  have HC1 := mkH ((HC.out.bel (below_drew V)).bel hb1)
  have HR1 := mkH ((HR.out.bel (below_drew V)).bel hb1)
  have HRM := mkH hrm
  have hwV : V.heap.size ≤ V.drew.heap.size := Nat.le_refl _
  have HFR : Hid (Sa.Far (fun k => V.heap.size ≤ k) ga da ra) := mkH hfar
  have HCN := mkH hcnt
  clear hrm hfar hcnt hb1
  go_wp2_with fail
  refine hK.out _ _ ?_
  clear hK K
  try simp only [Act.put, List.setIfInBounds_toArray, List.set_cons_zero, List.set_cons_succ]
  refine Rg.anyG_pure (i := 10) (oi := { dst := some 19, op := _, type := _, pos := _, after := _, guard := _ }) (v := ?_) rfl (by kernel_rfl) (by kernel_rfl) (by kernel_rfl) (by rfl) (fun _ _ _ h => h) (Or.inl ⟨by rfl, ?_⟩) (fun h => absurd (h.symm.trans (show _ = true by kernel_rfl)) Bool.false_ne_true) ?_
  rotate_left
  · (intro W hSw; (try dsimp only at hSw); go_simp; try (with_reducible rfl))
  try simp only [Act.put, List.setIfInBounds_toArray, List.set_cons_zero, List.set_cons_succ]
  refine Rg.anyG_pure (i := 11) (oi := { dst := some 30, op := _, type := _, pos := _, after := _, guard := _ }) (v := ?_) rfl (by kernel_rfl) (by kernel_rfl) (by kernel_rfl) (by rfl) (fun _ _ _ h => h) (Or.inl ⟨by rfl, ?_⟩) (fun h => absurd (h.symm.trans (show _ = true by kernel_rfl)) Bool.false_ne_true) ?_
  rotate_left
  · (intro W hSw; (try dsimp only at hSw); go_simp; try (with_reducible rfl))
  try simp only [Act.put, List.setIfInBounds_toArray, List.set_cons_zero, List.set_cons_succ]
  refine Rg.anyG_pure (i := 12) (oi := { dst := some 31, op := _, type := _, pos := _, after := _, guard := _ }) (v := ?_) rfl (by kernel_rfl) (by kernel_rfl) (by kernel_rfl) (by rfl) (fun _ _ _ h => h) (Or.inl ⟨by rfl, ?_⟩) (fun h => absurd (h.symm.trans (show _ = true by kernel_rfl)) Bool.false_ne_true) ?_
  rotate_left
  · (intro W hSw; (try dsimp only at hSw); go_simp; try (with_reducible rfl))
  try simp only [Act.put, List.setIfInBounds_toArray, List.set_cons_zero, List.set_cons_succ]
  refine Rg.anyG_pure (i := 13) (oi := { dst := some 32, op := _, type := _, pos := _, after := _, guard := _ }) (v := ?_) rfl (by kernel_rfl) (by kernel_rfl) (by kernel_rfl) (by rfl) (fun _ _ _ h => h) (Or.inl ⟨by rfl, ?_⟩) (fun h => absurd (h.symm.trans (show _ = true by kernel_rfl)) Bool.false_ne_true) ?_
  rotate_left
  · (intro W hSw; (try dsimp only at hSw); go_simp; try (with_reducible rfl))
  try simp only [Act.put, List.setIfInBounds_toArray, List.set_cons_zero, List.set_cons_succ]
  refine Rg.anyG_ready (rs := [14]) (by kernel_rfl) (by simp) ?_
  refine Rg.AllG.behind (o := { dst := none, op := _, type := _, pos := _, after := _, guard := _ }) rfl (by kernel_rfl) (fun K hK => ?_) Rg.AllG.nil
  refine step_st (by rfl) 46 (.tmp 4) (.tmp 30) (by rfl) R (Pv (Sc.lookR l c.client c.num) ga gc da dc ra rc) (Pv Wi.Rp.none none 0 none 0 none 0) 46 (by rfl) (by rfl) HR1.out Wa.infoP (by rfl) (Wa.Pv_one _ _ _ _ _ _ _) ?_
  refine hK.out _ _ ?_
  clear hK K
  try simp only [Act.put, List.setIfInBounds_toArray, List.set_cons_zero, List.set_cons_succ]
  refine Rg.anyG_pure (i := 15) (oi := { dst := some 6, op := _, type := _, pos := _, after := _, guard := _ }) (v := ?_) rfl (by kernel_rfl) (by kernel_rfl) (by kernel_rfl) (by rfl) (fun _ _ _ h => h) (Or.inl ⟨by rfl, ?_⟩) (fun h => absurd (h.symm.trans (show _ = true by kernel_rfl)) Bool.false_ne_true) ?_
  rotate_left
  · (intro W hSw; (try dsimp only at hSw); go_simp; try (with_reducible rfl))
  try simp only [Act.put, List.setIfInBounds_toArray, List.set_cons_zero, List.set_cons_succ]
  refine Rg.anyG_pure (i := 16) (oi := { dst := some 7, op := _, type := _, pos := _, after := _, guard := _ }) (v := ?_) rfl (by kernel_rfl) (by kernel_rfl) (by kernel_rfl) (by rfl) (fun _ _ _ h => h) (Or.inl ⟨by rfl, ?_⟩) (fun h => absurd (h.symm.trans (show _ = true by kernel_rfl)) Bool.false_ne_true) ?_
  rotate_left
  · (intro W hSw; (try dsimp only at hSw); go_simp; try (with_reducible rfl))
  try simp only [Act.put, List.setIfInBounds_toArray, List.set_cons_zero, List.set_cons_succ]
  refine Rg.anyG_done (by kernel_rfl) ?_ _
  have HR2 := mkH (HR1.out.row (cs := (Pv (Sc.lookR l c.client c.num) ga gc da dc ra rc)))
  have hF2 : Fr (fun k => k = R) V1 (V1.setRow R (Pv (Sc.lookR l c.client c.num) ga gc da dc ra rc)) := Bx.frrow _
  have hRV : R < V.heap.size := HR.out.lt
  have HC2 := mkH (HC1.out.rowOther (g := R) (by omega) (Pv (Sc.lookR l c.client c.num) ga gc da dc ra rc))
  have HB2 := mkH (below_setRow HB1.out (Nat.le_of_lt hwR) (Pv (Sc.lookR l c.client c.num) ga gc da dc ra rc))
  clear hF2 HH1 HR1 HRM HB1 HC1 HFR HCN
  generalize V1.setRow R (Pv (Sc.lookR l c.client c.num) ga gc da dc ra rc) = V2 at *
  go_wp2_with (first
    | (refine wpList_ld (ty := 39) (x := .tmp 3) (p := ⟨w.heap.size, 0, none⟩) (v := .agg (Cv c d)) rfl rfl rfl (load_cv HC2.out) ?_)
    | (go_at_call 100; refine (HDO.out V2 HB2.out).mono ?_; rintro e3 V3 ⟨ys, rfl, hys, hH3, hfr3⟩; have HYS := mkH hys; have HH3 := mkH hH3; have HC3 := mkH (HC2.out.fr hfr3 (HMB.out V2 HB2.out ⟨w.heap.size, 0, none⟩ _ (HC2.out.cell 0 _ rfl))); have HR3 := mkH (HR2.out.fr hfr3 (HMB.out V2 HB2.out ⟨R, 0, none⟩ _ (HR2.out.cell 0 _ rfl))); have HF3 := mkH ((Fr.ofBelow (F := fun k => k = Mb ∨ k = Tm) HB2.out).trans hfr3 (fun k hk => .inl (.inl hk))); clear hys hH3 hfr3)
    | (refine wpList_st rfl (ty := 46) (x := .tmp 4) (y := .tmp 43) (b := R) (cs := (Pv r none 0 none 0 none 0)) (old := (Pv (Sc.lookR l c.client c.num) ga gc da dc ra rc)) (t := 46) rfl rfl rfl HR3.out Wa.infoP rfl (Wa.Pv_one _ _ _ _ _ _ _) ?_; have HR4 := mkH (HR3.out.row (cs := (Pv r none 0 none 0 none 0))); have hF4 : Fr (fun k => k = R) V3 (V3.setRow R (Pv r none 0 none 0 none 0)) := Bx.frrow _; have HC4 := mkH (HC3.out.rowOther (g := R) (by omega) (Pv r none 0 none 0 none 0)); have HH4 := mkH (HH3.out.other hF4 HR3.out (fun h => by have := HFW.out _ h; omega) (by decide) (by decide) (by decide) (by decide) (by decide) (by decide)); have HF4 := mkH (HF3.out.trans hF4 (fun k hk => .inr (by omega))); clear hF4; have q0 : (V3.setRow R (Pv r none 0 none 0 none 0)).cell? ⟨R, 0, none⟩ = some (.int .i64 r.err) := HR4.out.cell 0 _ rfl))
  clear HR3 HC3 HH3 HF3 q0
  generalize V3.setRow R (Pv r none 0 none 0 none 0) = V4 at *
  refine Rg.region_G hmx 10 (fun W => W = V4.drew) rfl (fun hHeld => ?_)
  refine Rg.anyG_pure (i := 0) (oi := { dst := some 47, op := _, type := _, pos := _, after := _, guard := _ }) (v := ?_) rfl (by kernel_rfl) (by kernel_rfl) (by kernel_rfl) (by rfl) (fun _ _ _ h => h) (Or.inl ⟨by rfl, ?_⟩) (fun _ => by assumption) ?_
  rotate_left
  · (intro W hSw; (try dsimp only at hSw); go_simp; try (with_reducible rfl))
  try simp only [Act.put, List.setIfInBounds_toArray, List.set_cons_zero, List.set_cons_succ]
  refine Rg.anyG_pure (i := 1) (oi := { dst := some 48, op := _, type := _, pos := _, after := _, guard := _ }) (v := ?_) rfl (by kernel_rfl) (by kernel_rfl) (by kernel_rfl) (by rfl) (fun _ _ _ h => h) (Or.inl ⟨by rfl, ?_⟩) (fun _ => by assumption) ?_
  rotate_left
  · (intro W hSw; (try dsimp only at hSw); go_simp; try (with_reducible rfl))
  try simp only [Act.put, List.setIfInBounds_toArray, List.set_cons_zero, List.set_cons_succ]
  refine Rg.anyG_pure (i := 2) (oi := { dst := some 49, op := _, type := _, pos := _, after := _, guard := _ }) (v := ?_) rfl (by kernel_rfl) (by kernel_rfl) (by kernel_rfl) (by rfl) (fun _ _ _ h => h) (Or.inl ⟨by rfl, ?_⟩) (fun _ => by assumption) ?_
  rotate_left
  · (intro W hSw; (try dsimp only at hSw); go_simp; try (with_reducible rfl))
  try simp only [Act.put, List.setIfInBounds_toArray, List.set_cons_zero, List.set_cons_succ]
  refine Rg.anyG_pure (i := 3) (oi := { dst := some 50, op := _, type := _, pos := _, after := _, guard := _ }) (v := ?_) rfl (by kernel_rfl) (by kernel_rfl) (by kernel_rfl) (by rfl) (fun _ _ _ h => h) (Or.inl ⟨by rfl, ?_⟩) (fun _ => by assumption) ?_
  rotate_left
  · (intro W hSw; (try dsimp only at hSw); go_simp; try (with_reducible rfl))
  try simp only [Act.put, List.setIfInBounds_toArray, List.set_cons_zero, List.set_cons_succ]
  refine Rg.anyG_take (i := 4) (oi := { dst := some 51, op := _, type := _, pos := _, after := _, guard := _ }) (v := ?_) rfl (by kernel_rfl) (by kernel_rfl) (by kernel_rfl) [10] (by kernel_rfl) (fun _ _ _ h => h) (Or.inl ⟨by rfl, ?_⟩) (by assumption) ?_
  rotate_left
  · (intro W hSw; (try dsimp only at hSw); subst hSw; have c1 := (HH4.out.bx.bel (below_drew V4)).cell 1 _ rfl; go_simp; try (with_reducible rfl))
  try simp only [Act.put, List.setIfInBounds_toArray, List.set_cons_zero, List.set_cons_succ]
  refine Rg.anyG_pure (i := 5) (oi := { dst := some 52, op := _, type := _, pos := _, after := _, guard := _ }) (v := ?_) rfl (by kernel_rfl) (by kernel_rfl) (by kernel_rfl) (by rfl) (fun _ _ _ h => h) (Or.inl ⟨by rfl, ?_⟩) (fun _ => by assumption) ?_
  rotate_left
  · (intro W hSw; (try dsimp only at hSw); go_simp; try (with_reducible rfl))
  try simp only [Act.put, List.setIfInBounds_toArray, List.set_cons_zero, List.set_cons_succ]
  refine Rg.anyG_take (i := 6) (oi := { dst := some 53, op := _, type := _, pos := _, after := _, guard := _ }) (v := ?_) rfl (by kernel_rfl) (by kernel_rfl) (by kernel_rfl) [10] (by kernel_rfl) (fun _ _ _ h => h) (Or.inl ⟨by rfl, ?_⟩) (by assumption) ?_
  rotate_left
  · (intro W hSw; (try dsimp only at hSw); subst hSw; have c3 : V4.drew.cell? ⟨w.heap.size, 1, none⟩ = some (.int .i64 c.client) := (HC4.out.bel (below_drew V4)).cell 1 _ rfl; go_simp; try (with_reducible rfl))
  try simp only [Act.put, List.setIfInBounds_toArray, List.set_cons_zero, List.set_cons_succ]
  refine Rg.anyG_pure (i := 7) (oi := { dst := some 54, op := _, type := _, pos := _, after := _, guard := _ }) (v := ?_) rfl (by kernel_rfl) (by kernel_rfl) (by kernel_rfl) (by rfl) (fun _ _ _ h => h) (Or.inl ⟨by rfl, ?_⟩) (fun _ => by assumption) ?_
  rotate_left
  · (intro W hSw; (try dsimp only at hSw); go_simp; try (with_reducible rfl))
  try simp only [Act.put, List.setIfInBounds_toArray, List.set_cons_zero, List.set_cons_succ]
  refine Rg.anyG_take (i := 8) (oi := { dst := some 55, op := _, type := _, pos := _, after := _, guard := _ }) (v := ?_) rfl (by kernel_rfl) (by kernel_rfl) (by kernel_rfl) [10] (by kernel_rfl) (fun _ _ _ h => h) (Or.inl ⟨by rfl, ?_⟩) (by assumption) ?_
  rotate_left
  · (intro W hSw; (try dsimp only at hSw); subst hSw; have c3 : V4.drew.cell? ⟨w.heap.size, 2, none⟩ = some (.int .i64 c.num) := (HC4.out.bel (below_drew V4)).cell 2 _ rfl; go_simp; try (with_reducible rfl))
  try simp only [Act.put, List.setIfInBounds_toArray, List.set_cons_zero, List.set_cons_succ]
  refine Rg.anyG_take (i := 9) (oi := { dst := some 56, op := _, type := _, pos := _, after := _, guard := _ }) (v := .agg (Pv r none 0 none 0 none 0)) rfl (by kernel_rfl) (by kernel_rfl) (by kernel_rfl) [10] (by kernel_rfl) (fun _ _ _ h => h) (Or.inl ⟨by rfl, ?_⟩) (by assumption) ?_
  · (intro W hSw; (try dsimp only at hSw); subst hSw; exact run_ld (by rfl) (by rfl) (Wa.load_pv (HR4.out.bel (below_drew V4))))
  try simp only [Act.put, List.setIfInBounds_toArray, List.set_cons_zero, List.set_cons_succ]
  refine Rg.anyG_ready (rs := [10]) (by kernel_rfl) (by simp) ?_
  refine Rg.AllG.last (o := { dst := some 57, op := _, type := _, pos := _, after := _, guard := _ }) rfl (by kernel_rfl) (fun K hK => ?_)
  go_simp
  refine (Sc.note_any (HH4.out.below (below_drew V4)).tb c.client c.num r none 0 none 0 none 0 (rpm_z _ HZ.out) (cnt_z HZ.out)).mono ?_
  rintro e5 V5 ⟨rfl, ⟨F5, hT5, hF5⟩, hfr5⟩
  have HH5 := mkH ((HH4.out.below (below_drew V4)).tab hfr5 hT5 hF5)
  have HFW5 : Hid (∀ k, F5 k → F k ∨ w.heap.size ≤ k) := mkH (fun k hk => by rcases hF5 k hk with x | x; exact .inl x; exact .inr (Nat.le_trans HF4.out.size x.1))
  have hbt := tm_bare (HH4.out.below (below_drew V4)).tb
  have HR5 := mkH ((HR4.out.bel (below_drew V4)).fr (fr_gf hfr5) (hbt ⟨R, 0, none⟩ _ ((HR4.out.bel (below_drew V4)).cell 0 _ rfl)))
  have HF5' : Hid (Fr (fun k => k = Mb ∨ k = Tm) w V5) := mkH ((HF4.out.trans (Fr.ofBelow (F := fun k => k = Mb ∨ k = Tm) (below_drew V4)) (fun k hk => .inl hk)).trans (fr_gf hfr5) (fun k hk => .inl (.inr hk)))
  have HFZ : Hid (∀ k, F5 k → F k ∨ V4.drew.heap.size ≤ k) := mkH (fun k hk => (hF5 k hk).imp id (fun x => x.1))
  have HS5 := mkH hfr5.size
  clear hfr5 hT5 hF5 hbt
  go_wp2_with fail
  refine hK.out _ _ ?_
  clear hK K
  try simp only [Act.put, List.setIfInBounds_toArray, List.set_cons_zero, List.set_cons_succ]
  refine Rg.anyG_done (by kernel_rfl) ?_ _
  go_wp2_with (first
    | (refine wpList_ld (ty := 46) (x := .tmp 4) (p := ⟨R, 0, none⟩) (v := .agg (Pv r none 0 none 0 none 0)) rfl rfl rfl (Wa.load_pv HR5.out) ?_)
    | (refine wpList_st rfl (ty := 46) (x := .tmp 4) (y := .tmp 58) (b := R) (cs := (Pv r none 0 none 0 none 0)) (old := (Pv r none 0 none 0 none 0)) (t := 46) rfl rfl rfl HR5.out Wa.infoP rfl (Wa.Pv_one _ _ _ _ _ _ _) ?_))
  have hR6 := HR5.out.row (cs := (Pv r none 0 none 0 none 0))
  have hF6 : Fr (fun k => k = R) V5 (V5.setRow R (Pv r none 0 none 0 none 0)) := Bx.frrow _
  have hRl4 : R < V4.heap.size := HR4.out.lt
  refine bodyPost_ret (res_ct rfl _ _ _ rfl rfl (Wa.load_pv hR6)) rfl ⟨ys, F5, rfl, HYS.out, HH5.out.other hF6 HR5.out (fun h => ?_) (by decide) (by decide) (by decide) (by decide) (by decide) (by decide), HFW5.out, HF5'.out.trans hF6 (fun k hk => .inr (by omega))⟩
  rcases HFZ.out _ h with x | x
  · have := HFW.out _ x; omega
  · have : V4.drew.heap.size = V4.heap.size := rfl
    omega
end Go.Proofs.YtgbbajeeelgbhaaGreatDoor.Hc
