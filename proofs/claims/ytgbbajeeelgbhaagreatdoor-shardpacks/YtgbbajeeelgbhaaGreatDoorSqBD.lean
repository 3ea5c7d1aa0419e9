/-
  ShD Ref, joined by mrg.py.
-/
import Derived.Test.YtgbbajeeelgbhaaGreatDoorSqBC
import Derived.Test.YtgbbajeeelgbhaaGreatDoorSqAF
import Derived.Deep.QuietTactic
import Derived.BigQuiet
import Derived.Deep.RegionHeld3

namespace Go.Proofs.YtgbbajeeelgbhaaGreatDoor.Hd
open Go.RowKit Kt Gf Gk Gp Qm Qa Qb Qc Qd Qe Qf Qg Ha Hb Hc
open Gr (RowS Fl Gl Go' gC)
open Pl (Rg may join)
open Pr (Rw Ow)
open Wi (Rp Cm readCm)
open Wk (Cv)
open Wa (Pv RpM)
open At (RowT)
set_option linter.unusedVariables false
set_option linter.unusedSectionVars false
set_option linter.unusedSimpArgs false
set_option maxRecDepth 20000

/-- What a command that sends asks of an engine. -/
def SnP (cf : List Cf) (sv : List Rg) (xs : List X) (c : Cm) : Prop := c.kind = 1 ∧ isT c.time ∧ isT c.secs ∧ c.group.length ≤ 1000000000 ∧ c.body.length ≤ 100000 ∧ xs.length ≤ 1000000 ∧ sv.length ≤ 1000000 ∧ (lookG cf (xs.map X.p) c.queue (S c.group) c.time).next + 1 ≤ 1152921504606846976
set_option maxHeartbeats 4000000 in
theorem do_send {w : World} {Sb Xb Mb T Tm : Nat} {F : Nat → Prop} {cf : List Cf} {sv : List Rg} {xs : List X} {qa : Option Addr} {qc : Nat} {sa : Option Addr} {sc : Nat} {l : List Sa.E} {now slots : Int} (h : Hs w Sb Xb Mb T Tm F cf sv xs qa qc sa sc l now slots) (hFw : ∀ k, F k → k < w.heap.size) (c : Cm) (d : Value) (hp : SnP cf sv xs c) (hT : Dt.Tb w) :
    Calls Tryz.prog 100 #[.pointer (some ⟨Sb, 0, none⟩), .agg (Cv c d)] w fun e w' => DoP w Sb Xb Mb T Tm F cf sv (sndL cf (xs.map X.p) (isInP sv (S c.group)) c) qa qc sa sc l now slots (sndR cf (xs.map X.p) (isInP sv (S c.group)) c) e w' := by
  have hmx : Tryz.prog.follows .mixedOrders = true := by kernel_rfl
  have HH := mkH h
  have HFW := mkH hFw
  have HP := mkH hp
  have HS0 := mkH (((Below.refl w.heap.size w).alloc (Nat.le_refl _) (.cells (Cv c d) 39)).alloc (by simp) (.cells (Pv Wi.Rp.none none 0 none 0 none 0) 46))
  have HC := mkH ((Bx.new w (Cv c d) 39).alloc (.cells (Pv Wi.Rp.none none 0 none 0 none 0) 46))
  have HR := mkH (Bx.new1 w (.cells (Cv c d) 39) (Pv Wi.Rp.none none 0 none 0 none 0) 46)
  have HT := mkH hT
  have hk := hp.1
  clear h hFw hp hT
  go_enter Tryz.func100, Tryz.ntmps100
  go_upto_region 1 with fail
  change Code.wp _ _ _ _ ((w.alloc (.cells (Cv c d) 39)).alloc (.cells (Pv Wi.Rp.none none 0 none 0 none 0) 46))
  generalize (w.alloc (.cells (Cv c d) 39)).alloc (.cells (Pv Wi.Rp.none none 0 none 0 none 0) 46) = V at *
  obtain ⟨R, hR⟩ : ∃ R, w.heap.size + 1 = R := ⟨_, rfl⟩
  rw [hR] at HR ⊢
  have hwR : w.heap.size < R := by omega
  clear hR
  have HH0 := mkH (HH.out.below HS0.out)
  have HT0 := mkH (HT.out.below HS0.out HT.out.size)
  have d0 : V.cell? ⟨w.heap.size, 0, none⟩ = some (.int .i64 c.kind) := HC.out.cell 0 _ rfl
  rw [hk] at d0
  clear hk
  go_upto_region 11 with fail
  clear d0
  refine Rg.region_G hmx 6 (fun W => W = V.drew) rfl (fun hHeld => ?_)
  refine Rg.anyG_pure (i := 0) (oi := { dst := some 28, op := _, type := _, pos := _, after := _, guard := _ }) (v := ?_) rfl (by kernel_rfl) (by kernel_rfl) (by kernel_rfl) (by rfl) (fun _ _ _ h => h) (Or.inl ⟨by rfl, ?_⟩) (fun _ => by assumption) ?_
  rotate_left
  · (intro W hSw; (try dsimp only at hSw); go_simp; try (with_reducible rfl))
  try simp only [Act.put, List.setIfInBounds_toArray, List.set_cons_zero, List.set_cons_succ]
  refine Rg.anyG_pure (i := 1) (oi := { dst := some 29, op := _, type := _, pos := _, after := _, guard := _ }) (v := ?_) rfl (by kernel_rfl) (by kernel_rfl) (by kernel_rfl) (by rfl) (fun _ _ _ h => h) (Or.inl ⟨by rfl, ?_⟩) (fun _ => by assumption) ?_
  rotate_left
  · (intro W hSw; (try dsimp only at hSw); go_simp; try (with_reducible rfl))
  try simp only [Act.put, List.setIfInBounds_toArray, List.set_cons_zero, List.set_cons_succ]
  refine Rg.anyG_pure (i := 2) (oi := { dst := some 30, op := _, type := _, pos := _, after := _, guard := _ }) (v := ?_) rfl (by kernel_rfl) (by kernel_rfl) (by kernel_rfl) (by rfl) (fun _ _ _ h => h) (Or.inl ⟨by rfl, ?_⟩) (fun _ => by assumption) ?_
  rotate_left
  · (intro W hSw; (try dsimp only at hSw); go_simp; try (with_reducible rfl))
  try simp only [Act.put, List.setIfInBounds_toArray, List.set_cons_zero, List.set_cons_succ]
  refine Rg.anyG_pure (i := 3) (oi := { dst := some 31, op := _, type := _, pos := _, after := _, guard := _ }) (v := ?_) rfl (by kernel_rfl) (by kernel_rfl) (by kernel_rfl) (by rfl) (fun _ _ _ h => h) (Or.inl ⟨by rfl, ?_⟩) (fun _ => by assumption) ?_
  rotate_left
  · (intro W hSw; (try dsimp only at hSw); go_simp; try (with_reducible rfl))
  try simp only [Act.put, List.setIfInBounds_toArray, List.set_cons_zero, List.set_cons_succ]
  refine Rg.anyG_take (i := 4) (oi := { dst := some 32, op := _, type := _, pos := _, after := _, guard := _ }) (v := ?_) rfl (by kernel_rfl) (by kernel_rfl) (by kernel_rfl) [6] (by kernel_rfl) (fun _ _ _ h => h) (Or.inl ⟨by rfl, ?_⟩) (by assumption) ?_
  rotate_left
  · (intro W hSw; (try dsimp only at hSw); subst hSw; have c0 := (HH0.out.bx.bel (below_drew V)).cell 0 _ rfl; go_simp; try (with_reducible rfl))
  try simp only [Act.put, List.setIfInBounds_toArray, List.set_cons_zero, List.set_cons_succ]
  refine Rg.anyG_take (i := 5) (oi := { dst := some 33, op := _, type := _, pos := _, after := _, guard := _ }) (v := .agg (Cv c d)) rfl (by kernel_rfl) (by kernel_rfl) (by kernel_rfl) [6] (by kernel_rfl) (fun _ _ _ h => h) (Or.inl ⟨by rfl, ?_⟩) (by assumption) ?_
  · (intro W hSw; (try dsimp only at hSw); subst hSw; exact run_ld (by rfl) (by rfl) (load_cv (HC.out.bel (below_drew V))))
  try simp only [Act.put, List.setIfInBounds_toArray, List.set_cons_zero, List.set_cons_succ]
  refine Rg.anyG_ready (rs := [6]) (by kernel_rfl) (by simp) ?_
  refine Rg.AllG.last (o := { dst := some 34, op := _, type := _, pos := _, after := _, guard := _ }) rfl (by kernel_rfl) (fun K hK => ?_)
  go_simp
  refine (Do_send (HH0.out.below (below_drew V)).ex c d none 0 HP.out.1 HP.out.2.1 HP.out.2.2.1 (tb_bel HT0.out (below_drew V)) HP.out.2.2.2.1 HP.out.2.2.2.2.1 HP.out.2.2.2.2.2.1 HP.out.2.2.2.2.2.2.1 HP.out.2.2.2.2.2.2.2).mono ?_
  rintro e1 V1 ⟨ys, rfl, hys, hE1, hf1⟩
  have HH1 := mkH ((HH0.out.below (below_drew V)).eng hf1 hE1)
  have HR1 := mkH ((HR.out.bel (below_drew V)).fr hf1 ((HH0.out.below (below_drew V)).ex.m.bare ⟨R, 0, none⟩ _ ((HR.out.bel (below_drew V)).cell 0 _ rfl)))
  have HF1 : Hid (Fr (fun k => k = Mb) w V1) := mkH ((Fr.ofBelow (HS0.out.trans ((below_drew V).mono HS0.out.size))).trans hf1 (fun k hk => .inl hk))
  have HYS := mkH hys
  clear hys hE1 hf1
  go_wp2_with fail
  refine hK.out _ _ ?_
  clear hK K
  try simp only [Act.put, List.setIfInBounds_toArray, List.set_cons_zero, List.set_cons_succ]
  refine Rg.anyG_ready (rs := [7]) (by kernel_rfl) (by simp) ?_
  refine Rg.AllG.behind (o := { dst := none, op := _, type := _, pos := _, after := _, guard := _ }) rfl (by kernel_rfl) (fun K hK => ?_) Rg.AllG.nil
  refine step_st (by rfl) 46 (.tmp 4) (.tmp 34) (by rfl) R (Pv (sndR cf (xs.map X.p) (isInP sv (S c.group)) c) none 0 none 0 none 0) (Pv Wi.Rp.none none 0 none 0 none 0) 46 (by rfl) (by rfl) HR1.out Wa.infoP (by rfl) (Wa.Pv_one _ _ _ _ _ _ _) ?_
  refine hK.out _ _ ?_
  clear hK K
  try simp only [Act.put, List.setIfInBounds_toArray, List.set_cons_zero, List.set_cons_succ]
  refine Rg.anyG_done (by kernel_rfl) ?_ _
  go_wp2
  have hR2 := HR1.out.row (cs := (Pv (sndR cf (xs.map X.p) (isInP sv (S c.group)) c) none 0 none 0 none 0))
  have hF2 : Fr (fun k => k = R) V1 (V1.setRow R (Pv (sndR cf (xs.map X.p) (isInP sv (S c.group)) c) none 0 none 0 none 0)) := Bx.frrow _
  refine bodyPost_ret (res_c rfl _ _ _ rfl (Wa.load_pv hR2)) rfl ⟨ys, rfl, HYS.out, HH1.out.other hF2 HR1.out (fun h => by have := HFW.out _ h; omega) (by decide) (by decide) (by decide) (by decide) (by decide) (by decide), HF1.out.trans hF2 (fun k hk => .inr (by omega))⟩

/-- A thing done, as cells. -/
def Dv (s n : Int) (c : Cm) (d : Value) (r : Rp) (ga : Option Addr) (gc : Nat) (da : Option Addr) (dc : Nat) (ra : Option Addr) (rc : Nat) (f : Bool) : Array Value := #[.int .i64 s, .int .i64 n,
  .int .i64 c.kind, .int .i64 c.client, .int .i64 c.num, .int .i64 c.time, .int .i64 c.queue, .string (S c.group), .string (S c.body), .string (S c.token), .string (S c.attempt), .int .i64 c.max, .int .i64 c.secs,
  .int .i64 c.rc.q, .string (S c.rc.g), .int .i64 c.rc.s, .int .i64 c.rc.c, .int .i64 c.lo, .int .i64 c.hi, .int .i64 c.to, d,
  .int .i64 r.err, .int .i64 r.seq, .int .i64 r.n, .slice ga r.got.length gc, .slice da r.data.length dc, .slice ra r.about.length rc, .bool f]
def Zd : Array Value := Dv 0 0 Cm.none (.slice none 0 0) Rp.none none 0 none 0 none 0 false
theorem build_done (w : World) (s n : Int) (c : Cm) (d : Value) (r : Rp) (ga : Option Addr) (gc : Nat) (da : Option Addr) (dc : Nat) (ra : Option Addr) (rc : Nat) (f : Bool) : (Instr.build 48 #[(0, .int .i64 s), (1, .int .i64 n), (2, .agg (Cv c d)), (3, .agg (Pv r ga gc da dc ra rc)), (4, .bool f)]).run Tryz.prog w = .ok (.agg (Dv s n c d r ga gc da dc ra rc f)) w := by
  kernel_rfl
theorem build_bare (w : World) (s n : Int) : (Instr.build 48 #[(0, .int .i64 s), (1, .int .i64 n)]).run Tryz.prog w = .ok (.agg (Dv s n Cm.none (.slice none 0 0) Rp.none none 0 none 0 none 0 false)) w := by kernel_rfl
theorem infoD : (Tryz.prog.info? 48).map (·.size) = some 28 := by kernel_rfl
theorem load_dv {w : World} {b : Nat} {cs : Array Value} (hs : cs.size = 28) (h : Bx w b cs 48) : (loadVar 48 ⟨b, 0, none⟩).run Tryz.prog w = .ok (.agg cs) w := Wk.load_bx (P := Tryz.prog) h Tryz.underlying48 rfl (by rw [hs]; kernel_rfl)
theorem Dv_one (s n : Int) (c : Cm) (d : Value) (r : Rp) (ga : Option Addr) (gc : Nat) (da : Option Addr) (dc : Nat) (ra : Option Addr) (rc : Nat) (f : Bool) (hd : d.oneCell' = true) : (Dv s n c d r ga gc da dc ra rc f).all (fun x => x.oneCell') = true := by
  unfold Dv; rw [List.all_toArray]; simp [Value.oneCell'] at *; exact hd
theorem run_bd {P : Program} {w : World} {o : Oper} {a : Act} {t : TypeId} {parts : Array (Nat × Operand)} {vs : Array (Nat × Value)} {v : Value} (ho : o.op = .build t parts) (hp : (parts.map fun (i, x) => (i, a.eval x)) = vs) (h : (Instr.build t vs).run P w = .ok v w) : (execOp a.eval o).run P w = .ok (.value v) w := by
  unfold execOp
  simp only [ho, hp, Sem.run_bind, Sem.run_pure, Result.andThen_ok, h]

theorem row_fr {w w' : World} {ao : Option Addr} {bs : Wi.Bs} {Sb : Nat} {a b : Option Addr} {n m : Int} {t : TypeId} (h : Row w ao bs) (hf : Fr (fun k => k = Sb) w w') (hB : Bx w Sb #[.pointer a, .pointer b, .int .i64 n, .int .i64 m] t) : Row w' ao bs := by
  intro hl
  obtain ⟨bk, off, e, hc⟩ := h hl
  refine ⟨bk, off, e, fun i hi => ?_⟩
  have h1 := hc i hi
  have hne : bk ≠ Sb := by
    rintro rfl
    have h2 := h1
    unfold Bx at hB
    simp only [World.cell?, hB] at h2
    match off + i, h2 with
    | 0, h2 => simp at h2
    | 1, h2 => simp at h2
    | 2, h2 => simp at h2
    | 3, h2 => simp at h2
    | j + 4, h2 => simp at h2
  rw [World.cell?_of_block (w := w) (a := ⟨bk, off + i, none⟩) (hf.heap (World.block_lt_of_cell? w _ h1) hne)]
  exact h1
theorem tb_fr {w w' : World} {Sb : Nat} {a b : Option Addr} {n m : Int} {t : TypeId} (h : Dt.Tb w) (hf : Fr (fun k => k = Sb) w w') (hB : Bx w Sb #[.pointer a, .pointer b, .int .i64 n, .int .i64 m] t) : Dt.Tb w' := fun i hi => by
  have h1 := h i hi
  have hne : ¬ (0 = Sb) := by
    rintro rfl
    have h2 := h 0 (by omega)
    unfold Bx at hB
    simp only [World.cell?, hB] at h2
    simp at h2
  rw [World.cell?_of_block (w := w) (a := ⟨0, i, none⟩) (hf.heap (World.block_lt_of_cell? w _ h1) hne)]
  exact h1
theorem an_ne {w : World} {Sb Xb Mb T Tm : Nat} {F : Nat → Prop} {cf : List Cf} {sv : List Rg} {xs : List X} {qa : Option Addr} {qc : Nat} {sa : Option Addr} {sc : Nat} {l : List Sa.E} {now slots : Int} (h : Hs w Sb Xb Mb T Tm F cf sv xs qa qc sa sc l now slots) : ∀ (a : Addr) (v : Value), w.cell? a = some v → ¬ (a.block = Mb ∨ a.block = Tm) := fun a v hc e => by
  rcases e with e | e
  · exact h.ex.m.bare a v hc e
  · exact tm_bare h.tb a v hc e

/-- What Apply tells of a number that is new. -/
def ApF (w : World) (Sb Xb Mb T Tm : Nat) (F : Nat → Prop) (cf : List Cf) (sv : List Rg) (xs' : List E) (qa : Option Addr) (qc : Nat) (sa : Option Addr) (sc : Nat) (l : List Sa.E) (now slots : Int) (c : Cm) (r : Rp) (e : Ending) (w' : World) : Prop :=
  ∃ da dc ys F', e = .returned (.agg (Dv slots (mx now c.time) (setT c (mx now c.time)) (.slice da c.data.length dc) r none 0 none 0 none 0 true)) ∧ ys.map X.p = xs' ∧ Hs w' Sb Xb Mb T Tm F' cf sv ys qa qc sa sc (Sc.noteL l c.client c.num r) (mx now c.time) (slots + 1) ∧ (∀ k, F' k → F k ∨ w.heap.size ≤ k) ∧ Fr (fun k => k = Sb ∨ k = Mb ∨ k = Tm) w w'
set_option maxHeartbeats 8000000 in
theorem Apply_new {w : World} {Sb Xb Mb T Tm : Nat} {F : Nat → Prop} {cf : List Cf} {sv : List Rg} {xs : List X} {qa : Option Addr} {qc : Nat} {sa : Option Addr} {sc : Nat} {l : List Sa.E} {now slots : Int} (h : Hs w Sb Xb Mb T Tm F cf sv xs qa qc sa sc l now slots) (hFw : ∀ k, F k → k < w.heap.size) (hs0 : 0 ≤ slots) (hs1 : slots ≤ 1000000000000) (ao : Option Addr) (cap : Nat) (bs : Wi.Bs) (hr0 : Row w ao bs) (hlen : bs.length ≤ 1000000000) (hcap : bs.length ≤ cap) (h63 : cap ≤ 9223372036854775807) (c : Cm) (hrd : readCm bs = .ok c) (hcl : Sa.num c.client) (hnu : Sa.num c.num) (hk : Sc.lookK l c.client c.num = false) (hE : Sc.lookE l c.client c.num = 0) (r : Rp) (xs' : List E) (hz : Zr r) (hr : r.err ≠ 14)
    (hdo : ∀ W d, Hs W Sb Xb Mb T Tm F cf sv xs qa qc sa sc l (mx now c.time) (slots + 1) → (∀ k, F k → k < W.heap.size) → Dt.Tb W → Calls Tryz.prog 100 #[.pointer (some ⟨Sb, 0, none⟩), .agg (Cv (setT c (mx now c.time)) d)] W fun e w' => DoP W Sb Xb Mb T Tm F cf sv xs' qa qc sa sc l (mx now c.time) (slots + 1) r e w') (hT : Dt.Tb w) :
    Calls Tryz.prog 16 #[.pointer (some ⟨Sb, 0, none⟩), .slice ao bs.length cap] w fun e w' => ApF w Sb Xb Mb T Tm F cf sv xs' qa qc sa sc l now slots c r e w' := by
  have hmx : Tryz.prog.follows .mixedOrders = true := by kernel_rfl
  have HH := mkH h
  have HFW := mkH hFw
  have HRW := mkH hr0
  have HN := mkH (And.intro hlen (And.intro hcap h63))
  have HRD := mkH hrd
  have HCL : Hid (Sa.num (setT c (mx now c.time)).client ∧ Sa.num (setT c (mx now c.time)).num) := mkH ⟨hcl, hnu⟩
  have HK : Hid (Sc.lookK l (setT c (mx now c.time)).client (setT c (mx now c.time)).num = false) := mkH hk
  have HE : Hid (Sc.lookE l (setT c (mx now c.time)).client (setT c (mx now c.time)).num = 0) := mkH hE
  have HZ := mkH hz
  have HR14 := mkH hr
  have HDO := mkH hdo
  have HT := mkH hT
  have HB := mkH ((Below.refl w.heap.size w).alloc (Nat.le_refl _) (.cells Zd 48))
  have HD := mkH (Bx.new w Zd 48)
  clear h hFw hr0 hlen hcap h63 hrd hcl hnu hk hE hz hr hdo hT
  go_enter Tryz.func16, Tryz.ntmps16
  go_upto_region 1 with fail
  change Code.wp _ _ _ _ (w.alloc (.cells Zd 48))
  generalize w.alloc (.cells Zd 48) = V at *
  have HH0 := mkH (HH.out.below HB.out)
  have c3 : V.cell? ⟨Sb, 3, none⟩ = some (.int .i64 slots) := HH0.out.bx.cell 3 _ rfl
  have f3 : V.frozen? ⟨Sb, 3, none⟩ = false := HH0.out.bx.frozen 3
  go_upto_region 5 with (go_at_call 50; refine (Ha.isMade_yes HH0.out.bx).mono ?_; rintro e1 w1 ⟨rfl, h1⟩; have h2 := h1.symm; clear h1; subst h2)
  have hSw : Sb < w.heap.size := HH.out.bx.lt
  have hF1 := HH0.out.bx.frset 3 (.int .i64 (slots + 1))
  have HH1 := mkH (HH0.out.own hF1 (HH0.out.bx.s3 (.int .i64 (slots + 1))))
  have HD1 := mkH (HD.out.other (p := ⟨Sb, 3, none⟩) (by simp; omega) (.int .i64 (slots + 1)))
  have HF1 : Hid (Fr (fun k => k = Sb) w (V.setCell ⟨Sb, 3, none⟩ (.int .i64 (slots + 1)))) := mkH ((Fr.ofBelow HB.out).trans hF1 (fun k hk => .inl hk))
  have HRW1 := mkH (row_fr HRW.out HF1.out HH.out.bx)
  have HT1 := mkH (tb_fr HT.out HF1.out HH.out.bx)
  clear hF1 c3 f3 HB HH0 HD
  generalize V.setCell ⟨Sb, 3, none⟩ (.int .i64 (slots + 1)) = V1 at *
  have HFW1 : Hid (∀ k, F k → k < V1.heap.size) := mkH (fun k hk => Nat.lt_of_lt_of_le (HFW.out k hk) HF1.out.size)
  go_wp2_with (first
    | (refine wpList_stn rfl (ty := 46) (x := .tmp 8) (y := .tmp 47) (cs := (Pv r none 0 none 0 none 0)) (zs := (Pv Wi.Rp.none none 0 none 0 none 0)) rfl rfl rfl Wa.infoP rfl (Wa.Pv_one _ _ _ _ _ _ _) (fun V6 hP6 hb6 => ?_); have HP6 := mkH hP6; have HH6 := mkH (HH4.out.below hb6); have HC6 := mkH (HC4.out.bel hb6); have HD6 := mkH (HD4.out.bel hb6); have HF6 := mkH (HF4.out.trans (Fr.ofBelow (F := fun k => k = Sb ∨ k = Mb ∨ k = Tm) hb6) (fun k hk => .inl hk)); have hD3l := HD3.out.lt; clear hP6 hb6 HH4 HC4 HD4 HF4)
    | (go_at_call 52; refine (answer_new HH3.out HFW3.out (setT c (mx now c.time)) (.slice da c.data.length dc) HCL.out.1 HCL.out.2 HK.out HE.out r xs' HZ.out HR14.out (fun W hW => HDO.out W (.slice da c.data.length dc) (HH3.out.below hW) (fun k hk => Nat.lt_of_lt_of_le (HFW3.out k hk) hW.size) (HT3.out.below hW HT3.out.size))).mono ?_; rintro e4 V4 ⟨ys, F4, rfl, hys4, hH4, hF4s, hf4⟩; have HH4 := mkH hH4; have hn1 := an_ne HH3.out; have HC4 := mkH (HC3.out.fr hf4 (hn1 ⟨V2.heap.size, 0, none⟩ _ (HC3.out.cell 0 _ rfl))); have HD4 := mkH (HD3.out.fr hf4 (hn1 ⟨w.heap.size, 0, none⟩ _ (HD3.out.cell 0 _ rfl))); have HYS := mkH hys4; have HFS := mkH hF4s; have HF4 : Hid (Fr (fun k => k = Sb ∨ k = Mb ∨ k = Tm) w V4) := mkH ((HF3.out.mono (fun k hk => .inl hk)).trans hf4 (fun k hk => .inl (.inr hk))); clear hH4 hf4 hys4 hF4s hn1)
    | (refine wpList_ld (ty := 39) (x := .tmp 6) (p := ⟨V2.heap.size, 0, none⟩) (v := .agg (Cv (setT c (mx now c.time)) (.slice da c.data.length dc))) rfl rfl rfl (load_cv HC3.out) ?_)
    | (refine wpList_stn rfl (ty := 39) (x := .tmp 6) (y := .tmp 32) (cs := (Cv (setT c (mx now c.time)) (.slice da c.data.length dc))) (zs := Wu.Zc) rfl rfl rfl infoC rfl (Cv_one _ _ rfl) (fun V3 hC3 hb3 => ?_); have HC3 := mkH hC3; have HH3 := mkH (HH2.out.below hb3); have HD3 := mkH (HD2.out.bel hb3); have HF3 := mkH (HF2.out.trans (Fr.ofBelow (F := fun k => k = Sb) hb3) (fun k hk => .inl hk)); have HFW3 : Hid (∀ k, F k → k < V3.heap.size) := mkH (fun k hk => Nat.lt_of_lt_of_le (HFW.out k hk) HF3.out.size); have HT3 := mkH (tb_bel HT2.out hb3); clear hC3 hb3)
    | (go_at_call 51; refine (command_ok HH1.out HFW1.out ao cap bs HRW1.out HN.out.1 HN.out.2.1 HN.out.2.2 c HRD.out).mono ?_; rintro e2 V2 ⟨da, dc, rfl, hrow2, hdl2, hH2, hf2⟩; have HH2 := mkH hH2; have HD2 := mkH (HD1.out.fr hf2 (by omega)); have HF2 := mkH (HF1.out.trans hf2 (fun k hk => .inl hk)); have HT2 := mkH (tb_fr HT1.out hf2 HH1.out.bx); clear hH2 hf2 hrow2 hdl2))
  refine Rg.region_G hmx 10 (fun W => W = V6.drew) rfl (fun hHeld => ?_)
  refine Rg.anyG_pure (i := 0) (oi := { dst := some 49, op := _, type := _, pos := _, after := _, guard := _ }) (v := ?_) rfl (by kernel_rfl) (by kernel_rfl) (by kernel_rfl) (by rfl) (fun _ _ _ h => h) (Or.inl ⟨by rfl, ?_⟩) (fun _ => by assumption) ?_
  rotate_left
  · (intro W hSw; (try dsimp only at hSw); go_simp; try (with_reducible rfl))
  try simp only [Act.put, List.setIfInBounds_toArray, List.set_cons_zero, List.set_cons_succ]
  refine Rg.anyG_pure (i := 1) (oi := { dst := some 50, op := _, type := _, pos := _, after := _, guard := _ }) (v := ?_) rfl (by kernel_rfl) (by kernel_rfl) (by kernel_rfl) (by rfl) (fun _ _ _ h => h) (Or.inl ⟨by rfl, ?_⟩) (fun _ => by assumption) ?_
  rotate_left
  · (intro W hSw; (try dsimp only at hSw); go_simp; try (with_reducible rfl))
  try simp only [Act.put, List.setIfInBounds_toArray, List.set_cons_zero, List.set_cons_succ]
  refine Rg.anyG_pure (i := 2) (oi := { dst := some 51, op := _, type := _, pos := _, after := _, guard := _ }) (v := ?_) rfl (by kernel_rfl) (by kernel_rfl) (by kernel_rfl) (by rfl) (fun _ _ _ h => h) (Or.inl ⟨by rfl, ?_⟩) (fun _ => by assumption) ?_
  rotate_left
  · (intro W hSw; (try dsimp only at hSw); go_simp; try (with_reducible rfl))
  try simp only [Act.put, List.setIfInBounds_toArray, List.set_cons_zero, List.set_cons_succ]
  refine Rg.anyG_pure (i := 3) (oi := { dst := some 52, op := _, type := _, pos := _, after := _, guard := _ }) (v := ?_) rfl (by kernel_rfl) (by kernel_rfl) (by kernel_rfl) (by rfl) (fun _ _ _ h => h) (Or.inl ⟨by rfl, ?_⟩) (fun _ => by assumption) ?_
  rotate_left
  · (intro W hSw; (try dsimp only at hSw); go_simp; try (with_reducible rfl))
  try simp only [Act.put, List.setIfInBounds_toArray, List.set_cons_zero, List.set_cons_succ]
  refine Rg.anyG_pure (i := 4) (oi := { dst := some 53, op := _, type := _, pos := _, after := _, guard := _ }) (v := ?_) rfl (by kernel_rfl) (by kernel_rfl) (by kernel_rfl) (by rfl) (fun _ _ _ h => h) (Or.inl ⟨by rfl, ?_⟩) (fun _ => by assumption) ?_
  rotate_left
  · (intro W hSw; (try dsimp only at hSw); go_simp; try (with_reducible rfl))
  try simp only [Act.put, List.setIfInBounds_toArray, List.set_cons_zero, List.set_cons_succ]
  refine Rg.anyG_take (i := 5) (oi := { dst := some 54, op := _, type := _, pos := _, after := _, guard := _ }) (v := ?_) rfl (by kernel_rfl) (by kernel_rfl) (by kernel_rfl) [10] (by kernel_rfl) (fun _ _ _ h => h) (Or.inl ⟨by rfl, ?_⟩) (by assumption) ?_
  rotate_left
  · (intro W hSw; (try dsimp only at hSw); subst hSw; have c2 := (HH6.out.bx.bel (below_drew V6)).cell 2 _ rfl; go_simp; try (with_reducible rfl))
  try simp only [Act.put, List.setIfInBounds_toArray, List.set_cons_zero, List.set_cons_succ]
  refine Rg.anyG_take (i := 6) (oi := { dst := some 55, op := _, type := _, pos := _, after := _, guard := _ }) (v := .agg (Cv (setT c (mx now c.time)) (.slice da c.data.length dc))) rfl (by kernel_rfl) (by kernel_rfl) (by kernel_rfl) [10] (by kernel_rfl) (fun _ _ _ h => h) (Or.inl ⟨by rfl, ?_⟩) (by assumption) ?_
  · (intro W hSw; (try dsimp only at hSw); subst hSw; exact run_ld (by rfl) (by rfl) (load_cv (HC6.out.bel (below_drew V6))))
  try simp only [Act.put, List.setIfInBounds_toArray, List.set_cons_zero, List.set_cons_succ]
  refine Rg.anyG_take (i := 7) (oi := { dst := some 56, op := _, type := _, pos := _, after := _, guard := _ }) (v := .agg (Pv r none 0 none 0 none 0)) rfl (by kernel_rfl) (by kernel_rfl) (by kernel_rfl) [10] (by kernel_rfl) (fun _ _ _ h => h) (Or.inl ⟨by rfl, ?_⟩) (by assumption) ?_
  · (intro W hSw; (try dsimp only at hSw); subst hSw; exact run_ld (by rfl) (by rfl) (Wa.load_pv (HP6.out.bel (below_drew V6))))
  try simp only [Act.put, List.setIfInBounds_toArray, List.set_cons_zero, List.set_cons_succ]
  refine Rg.anyG_pure (i := 8) (oi := { dst := some 57, op := _, type := _, pos := _, after := _, guard := _ }) (v := ?_) rfl (by kernel_rfl) (by kernel_rfl) (by kernel_rfl) (by rfl) (fun _ _ _ h => h) (Or.inl ⟨by rfl, ?_⟩) (fun _ => by assumption) ?_
  rotate_left
  · (intro W hSw; (try dsimp only at hSw); go_simp; try (with_reducible rfl))
  try simp only [Act.put, List.setIfInBounds_toArray, List.set_cons_zero, List.set_cons_succ]
  refine Rg.anyG_pure (i := 9) (oi := { dst := some 58, op := _, type := _, pos := _, after := _, guard := _ }) (v := .agg (Dv slots (mx now c.time) (setT c (mx now c.time)) (.slice da c.data.length dc) r none 0 none 0 none 0 true)) rfl (by kernel_rfl) (by kernel_rfl) (by kernel_rfl) (by rfl) (fun _ _ _ h => h) (Or.inl ⟨by rfl, ?_⟩) (fun _ => by assumption) ?_
  · (intro W hSw; (try dsimp only at hSw); exact run_bd (by rfl) (by simp only [List.map_toArray, List.map_cons, List.map_nil]; rfl) (build_done W slots (mx now c.time) (setT c (mx now c.time)) (.slice da c.data.length dc) r none 0 none 0 none 0 true))
  try simp only [Act.put, List.setIfInBounds_toArray, List.set_cons_zero, List.set_cons_succ]
  refine Rg.anyG_ready (rs := [10]) (by kernel_rfl) (by simp) ?_
  refine Rg.AllG.last (o := { dst := none, op := _, type := _, pos := _, after := _, guard := _ }) rfl (by kernel_rfl) (fun K hK => ?_)
  refine step_st (by rfl) 48 (.tmp 4) (.tmp 58) (by rfl) w.heap.size (Dv slots (mx now c.time) (setT c (mx now c.time)) (.slice da c.data.length dc) r none 0 none 0 none 0 true) Zd 48 (by rfl) (by rfl) (HD6.out.bel (below_drew V6)) infoD (by rfl) (Dv_one _ _ _ _ _ _ _ _ _ _ _ _ rfl) ?_
  refine hK.out _ _ ?_
  clear hK K
  try simp only [Act.put, List.setIfInBounds_toArray, List.set_cons_zero, List.set_cons_succ]
  refine Rg.anyG_done (by kernel_rfl) ?_ _
  go_wp2
  have hD7 := (HD6.out.bel (below_drew V6)).row (cs := (Dv slots (mx now c.time) (setT c (mx now c.time)) (.slice da c.data.length dc) r none 0 none 0 none 0 true))
  have hF7 : Fr (fun k => k = w.heap.size) V6.drew (V6.drew.setRow w.heap.size (Dv slots (mx now c.time) (setT c (mx now c.time)) (.slice da c.data.length dc) r none 0 none 0 none 0 true)) := Bx.frrow _
  have hH7 := (HH6.out.below (below_drew V6)).other hF7 (HD6.out.bel (below_drew V6)) (fun h => by rcases HFS.out _ h with x | x; (have := HFW.out _ x; omega); (have := hD3l; omega)) (by decide) (by decide) (by decide) (by decide) (by decide) (by decide)
  have hFz := (HF6.out.trans (Fr.ofBelow (F := fun k => k = Sb ∨ k = Mb ∨ k = Tm) (below_drew V6)) (fun k hk => .inl hk)).trans hF7 (fun k hk => .inr (by omega))
  refine bodyPost_ret (res_c rfl _ _ _ rfl (load_dv rfl hD7)) rfl ⟨da, dc, ys, F4, rfl, HYS.out, hH7, (fun k hk => by rcases HFS.out _ hk with x | x; exact .inl x; exact .inr (Nat.le_trans HF3.out.size x)), hFz⟩

/-- What Apply tells of a number that is known. -/
def ApK (w : World) (Sb Xb Mb T Tm : Nat) (F : Nat → Prop) (cf : List Cf) (sv : List Rg) (xs : List X) (qa : Option Addr) (qc : Nat) (sa : Option Addr) (sc : Nat) (l : List Sa.E) (now slots : Int) (c : Cm) (e : Ending) (w' : World) : Prop :=
  ∃ da dc ga gc da2 dc2 ra rc, e = .returned (.agg (Dv slots (mx now c.time) (setT c (mx now c.time)) (.slice da c.data.length dc) (Sc.lookR l c.client c.num) ga gc da2 dc2 ra rc false)) ∧ Hs w' Sb Xb Mb T Tm F cf sv xs qa qc sa sc l (mx now c.time) (slots + 1) ∧ Fr (fun k => k = Sb) w w'
set_option maxHeartbeats 8000000 in
theorem Apply_known {w : World} {Sb Xb Mb T Tm : Nat} {F : Nat → Prop} {cf : List Cf} {sv : List Rg} {xs : List X} {qa : Option Addr} {qc : Nat} {sa : Option Addr} {sc : Nat} {l : List Sa.E} {now slots : Int} (h : Hs w Sb Xb Mb T Tm F cf sv xs qa qc sa sc l now slots) (hFw : ∀ k, F k → k < w.heap.size) (hs0 : 0 ≤ slots) (hs1 : slots ≤ 1000000000000) (ao : Option Addr) (cap : Nat) (bs : Wi.Bs) (hr0 : Row w ao bs) (hlen : bs.length ≤ 1000000000) (hcap : bs.length ≤ cap) (h63 : cap ≤ 9223372036854775807) (c : Cm) (hrd : readCm bs = .ok c) (hcl : Sa.num c.client) (hnu : Sa.num c.num) (hk : Sc.lookK l c.client c.num = true) (hE : Sc.lookE l c.client c.num = 0) :
    Calls Tryz.prog 16 #[.pointer (some ⟨Sb, 0, none⟩), .slice ao bs.length cap] w fun e w' => ApK w Sb Xb Mb T Tm F cf sv xs qa qc sa sc l now slots c e w' := by
  have hmx : Tryz.prog.follows .mixedOrders = true := by kernel_rfl
  have HH := mkH h
  have HFW := mkH hFw
  have HRW := mkH hr0
  have HN := mkH (And.intro hlen (And.intro hcap h63))
  have HRD := mkH hrd
  have HCL : Hid (Sa.num (setT c (mx now c.time)).client ∧ Sa.num (setT c (mx now c.time)).num) := mkH ⟨hcl, hnu⟩
  have HK : Hid (Sc.lookK l (setT c (mx now c.time)).client (setT c (mx now c.time)).num = true) := mkH hk
  have HE : Hid (Sc.lookE l (setT c (mx now c.time)).client (setT c (mx now c.time)).num = 0) := mkH hE
  have HB := mkH ((Below.refl w.heap.size w).alloc (Nat.le_refl _) (.cells Zd 48))
  have HD := mkH (Bx.new w Zd 48)
  clear h hFw hr0 hlen hcap h63 hrd hcl hnu hk hE
  go_enter Tryz.func16, Tryz.ntmps16
  go_upto_region 1 with fail
  change Code.wp _ _ _ _ (w.alloc (.cells Zd 48))
  generalize w.alloc (.cells Zd 48) = V at *
  have HH0 := mkH (HH.out.below HB.out)
  have c3 : V.cell? ⟨Sb, 3, none⟩ = some (.int .i64 slots) := HH0.out.bx.cell 3 _ rfl
  have f3 : V.frozen? ⟨Sb, 3, none⟩ = false := HH0.out.bx.frozen 3
  go_upto_region 5 with (go_at_call 50; refine (Ha.isMade_yes HH0.out.bx).mono ?_; rintro e1 w1 ⟨rfl, h1⟩; have h2 := h1.symm; clear h1; subst h2)
  have hSw : Sb < w.heap.size := HH.out.bx.lt
  have hF1 := HH0.out.bx.frset 3 (.int .i64 (slots + 1))
  have HH1 := mkH (HH0.out.own hF1 (HH0.out.bx.s3 (.int .i64 (slots + 1))))
  have HD1 := mkH (HD.out.other (p := ⟨Sb, 3, none⟩) (by simp; omega) (.int .i64 (slots + 1)))
  have HF1 : Hid (Fr (fun k => k = Sb) w (V.setCell ⟨Sb, 3, none⟩ (.int .i64 (slots + 1)))) := mkH ((Fr.ofBelow HB.out).trans hF1 (fun k hk => .inl hk))
  have HRW1 := mkH (row_fr HRW.out HF1.out HH.out.bx)
  clear hF1 c3 f3 HB HH0 HD
  generalize V.setCell ⟨Sb, 3, none⟩ (.int .i64 (slots + 1)) = V1 at *
  have HFW1 : Hid (∀ k, F k → k < V1.heap.size) := mkH (fun k hk => Nat.lt_of_lt_of_le (HFW.out k hk) HF1.out.size)
  go_wp2_with (first
    | (refine wpList_stn rfl (ty := 46) (x := .tmp 8) (y := .tmp 47) (cs := (Pv (Sc.lookR l c.client c.num) ga gc da2 dc2 ra rc)) (zs := (Pv Wi.Rp.none none 0 none 0 none 0)) rfl rfl rfl Wa.infoP rfl (Wa.Pv_one _ _ _ _ _ _ _) (fun V6 hP6 hb6 => ?_); have HP6 := mkH hP6; have HH6 := mkH (HH4.out.below hb6); have HC6 := mkH (HC4.out.bel hb6); have HD6 := mkH (HD4.out.bel hb6); have HF6 := mkH (HF4.out.trans (Fr.ofBelow (F := fun k => k = Sb) hb6) (fun k hk => .inl hk)); have hD3l := HD3.out.lt; clear hP6 hb6 HH4 HC4 HD4 HF4)
    | (go_at_call 52; refine (answer_known HH3.out HFW3.out (setT c (mx now c.time)) (.slice da c.data.length dc) HCL.out.1 HCL.out.2 HK.out HE.out).mono ?_; rintro e4 V4 ⟨ga, gc, da2, dc2, ra, rc, rfl, hrm4, hcn4, hH4, hb4⟩; have HH4 := mkH hH4; have HC4 := mkH (HC3.out.bel hb4); have HD4 := mkH (HD3.out.bel hb4); have HRM4 := mkH (And.intro hrm4 hcn4); have HF4 := mkH (HF3.out.trans (Fr.ofBelow (F := fun k => k = Sb) hb4) (fun k hk => .inl hk)); clear hH4 hb4 hrm4 hcn4)
    | (refine wpList_ld (ty := 39) (x := .tmp 6) (p := ⟨V2.heap.size, 0, none⟩) (v := .agg (Cv (setT c (mx now c.time)) (.slice da c.data.length dc))) rfl rfl rfl (load_cv HC3.out) ?_)
    | (refine wpList_stn rfl (ty := 39) (x := .tmp 6) (y := .tmp 32) (cs := (Cv (setT c (mx now c.time)) (.slice da c.data.length dc))) (zs := Wu.Zc) rfl rfl rfl infoC rfl (Cv_one _ _ rfl) (fun V3 hC3 hb3 => ?_); have HC3 := mkH hC3; have HH3 := mkH (HH2.out.below hb3); have HD3 := mkH (HD2.out.bel hb3); have HF3 := mkH (HF2.out.trans (Fr.ofBelow (F := fun k => k = Sb) hb3) (fun k hk => .inl hk)); have HFW3 : Hid (∀ k, F k → k < V3.heap.size) := mkH (fun k hk => Nat.lt_of_lt_of_le (HFW.out k hk) HF3.out.size); clear hC3 hb3)
    | (go_at_call 51; refine (command_ok HH1.out HFW1.out ao cap bs HRW1.out HN.out.1 HN.out.2.1 HN.out.2.2 c HRD.out).mono ?_; rintro e2 V2 ⟨da, dc, rfl, hrow2, hdl2, hH2, hf2⟩; have HH2 := mkH hH2; have HD2 := mkH (HD1.out.fr hf2 (by omega)); have HF2 := mkH (HF1.out.trans hf2 (fun k hk => .inl hk)); clear hH2 hf2 hrow2 hdl2))
  refine Rg.region_G hmx 10 (fun W => W = V6.drew) rfl (fun hHeld => ?_)
  refine Rg.anyG_pure (i := 0) (oi := { dst := some 49, op := _, type := _, pos := _, after := _, guard := _ }) (v := ?_) rfl (by kernel_rfl) (by kernel_rfl) (by kernel_rfl) (by rfl) (fun _ _ _ h => h) (Or.inl ⟨by rfl, ?_⟩) (fun _ => by assumption) ?_
  rotate_left
  · (intro W hSw; (try dsimp only at hSw); go_simp; try (with_reducible rfl))
  try simp only [Act.put, List.setIfInBounds_toArray, List.set_cons_zero, List.set_cons_succ]
  refine Rg.anyG_pure (i := 1) (oi := { dst := some 50, op := _, type := _, pos := _, after := _, guard := _ }) (v := ?_) rfl (by kernel_rfl) (by kernel_rfl) (by kernel_rfl) (by rfl) (fun _ _ _ h => h) (Or.inl ⟨by rfl, ?_⟩) (fun _ => by assumption) ?_
  rotate_left
  · (intro W hSw; (try dsimp only at hSw); go_simp; try (with_reducible rfl))
  try simp only [Act.put, List.setIfInBounds_toArray, List.set_cons_zero, List.set_cons_succ]
  refine Rg.anyG_pure (i := 2) (oi := { dst := some 51, op := _, type := _, pos := _, after := _, guard := _ }) (v := ?_) rfl (by kernel_rfl) (by kernel_rfl) (by kernel_rfl) (by rfl) (fun _ _ _ h => h) (Or.inl ⟨by rfl, ?_⟩) (fun _ => by assumption) ?_
  rotate_left
  · (intro W hSw; (try dsimp only at hSw); go_simp; try (with_reducible rfl))
  try simp only [Act.put, List.setIfInBounds_toArray, List.set_cons_zero, List.set_cons_succ]
  refine Rg.anyG_pure (i := 3) (oi := { dst := some 52, op := _, type := _, pos := _, after := _, guard := _ }) (v := ?_) rfl (by kernel_rfl) (by kernel_rfl) (by kernel_rfl) (by rfl) (fun _ _ _ h => h) (Or.inl ⟨by rfl, ?_⟩) (fun _ => by assumption) ?_
  rotate_left
  · (intro W hSw; (try dsimp only at hSw); go_simp; try (with_reducible rfl))
  try simp only [Act.put, List.setIfInBounds_toArray, List.set_cons_zero, List.set_cons_succ]
  refine Rg.anyG_pure (i := 4) (oi := { dst := some 53, op := _, type := _, pos := _, after := _, guard := _ }) (v := ?_) rfl (by kernel_rfl) (by kernel_rfl) (by kernel_rfl) (by rfl) (fun _ _ _ h => h) (Or.inl ⟨by rfl, ?_⟩) (fun _ => by assumption) ?_
  rotate_left
  · (intro W hSw; (try dsimp only at hSw); go_simp; try (with_reducible rfl))
  try simp only [Act.put, List.setIfInBounds_toArray, List.set_cons_zero, List.set_cons_succ]
  refine Rg.anyG_take (i := 5) (oi := { dst := some 54, op := _, type := _, pos := _, after := _, guard := _ }) (v := ?_) rfl (by kernel_rfl) (by kernel_rfl) (by kernel_rfl) [10] (by kernel_rfl) (fun _ _ _ h => h) (Or.inl ⟨by rfl, ?_⟩) (by assumption) ?_
  rotate_left
  · (intro W hSw; (try dsimp only at hSw); subst hSw; have c2 := (HH6.out.bx.bel (below_drew V6)).cell 2 _ rfl; go_simp; try (with_reducible rfl))
  try simp only [Act.put, List.setIfInBounds_toArray, List.set_cons_zero, List.set_cons_succ]
  refine Rg.anyG_take (i := 6) (oi := { dst := some 55, op := _, type := _, pos := _, after := _, guard := _ }) (v := .agg (Cv (setT c (mx now c.time)) (.slice da c.data.length dc))) rfl (by kernel_rfl) (by kernel_rfl) (by kernel_rfl) [10] (by kernel_rfl) (fun _ _ _ h => h) (Or.inl ⟨by rfl, ?_⟩) (by assumption) ?_
  · (intro W hSw; (try dsimp only at hSw); subst hSw; exact run_ld (by rfl) (by rfl) (load_cv (HC6.out.bel (below_drew V6))))
  try simp only [Act.put, List.setIfInBounds_toArray, List.set_cons_zero, List.set_cons_succ]
  refine Rg.anyG_take (i := 7) (oi := { dst := some 56, op := _, type := _, pos := _, after := _, guard := _ }) (v := .agg (Pv (Sc.lookR l c.client c.num) ga gc da2 dc2 ra rc)) rfl (by kernel_rfl) (by kernel_rfl) (by kernel_rfl) [10] (by kernel_rfl) (fun _ _ _ h => h) (Or.inl ⟨by rfl, ?_⟩) (by assumption) ?_
  · (intro W hSw; (try dsimp only at hSw); subst hSw; exact run_ld (by rfl) (by rfl) (Wa.load_pv (HP6.out.bel (below_drew V6))))
  try simp only [Act.put, List.setIfInBounds_toArray, List.set_cons_zero, List.set_cons_succ]
  refine Rg.anyG_pure (i := 8) (oi := { dst := some 57, op := _, type := _, pos := _, after := _, guard := _ }) (v := ?_) rfl (by kernel_rfl) (by kernel_rfl) (by kernel_rfl) (by rfl) (fun _ _ _ h => h) (Or.inl ⟨by rfl, ?_⟩) (fun _ => by assumption) ?_
  rotate_left
  · (intro W hSw; (try dsimp only at hSw); go_simp; try (with_reducible rfl))
  try simp only [Act.put, List.setIfInBounds_toArray, List.set_cons_zero, List.set_cons_succ]
  refine Rg.anyG_pure (i := 9) (oi := { dst := some 58, op := _, type := _, pos := _, after := _, guard := _ }) (v := .agg (Dv slots (mx now c.time) (setT c (mx now c.time)) (.slice da c.data.length dc) (Sc.lookR l c.client c.num) ga gc da2 dc2 ra rc false)) rfl (by kernel_rfl) (by kernel_rfl) (by kernel_rfl) (by rfl) (fun _ _ _ h => h) (Or.inl ⟨by rfl, ?_⟩) (fun _ => by assumption) ?_
  · (intro W hSw; (try dsimp only at hSw); exact run_bd (by rfl) (by simp only [List.map_toArray, List.map_cons, List.map_nil]; rfl) (build_done W slots (mx now c.time) (setT c (mx now c.time)) (.slice da c.data.length dc) (Sc.lookR l c.client c.num) ga gc da2 dc2 ra rc false))
  try simp only [Act.put, List.setIfInBounds_toArray, List.set_cons_zero, List.set_cons_succ]
  refine Rg.anyG_ready (rs := [10]) (by kernel_rfl) (by simp) ?_
  refine Rg.AllG.last (o := { dst := none, op := _, type := _, pos := _, after := _, guard := _ }) rfl (by kernel_rfl) (fun K hK => ?_)
  refine step_st (by rfl) 48 (.tmp 4) (.tmp 58) (by rfl) w.heap.size (Dv slots (mx now c.time) (setT c (mx now c.time)) (.slice da c.data.length dc) (Sc.lookR l c.client c.num) ga gc da2 dc2 ra rc false) Zd 48 (by rfl) (by rfl) (HD6.out.bel (below_drew V6)) infoD (by rfl) (Dv_one _ _ _ _ _ _ _ _ _ _ _ _ rfl) ?_
  refine hK.out _ _ ?_
  clear hK K
  try simp only [Act.put, List.setIfInBounds_toArray, List.set_cons_zero, List.set_cons_succ]
  refine Rg.anyG_done (by kernel_rfl) ?_ _
  go_wp2
  have hD7 := (HD6.out.bel (below_drew V6)).row (cs := (Dv slots (mx now c.time) (setT c (mx now c.time)) (.slice da c.data.length dc) (Sc.lookR l c.client c.num) ga gc da2 dc2 ra rc false))
  have hF7 : Fr (fun k => k = w.heap.size) V6.drew (V6.drew.setRow w.heap.size (Dv slots (mx now c.time) (setT c (mx now c.time)) (.slice da c.data.length dc) (Sc.lookR l c.client c.num) ga gc da2 dc2 ra rc false)) := Bx.frrow _
  have hH7 := (HH6.out.below (below_drew V6)).other hF7 (HD6.out.bel (below_drew V6)) (fun h => by have := HFW.out _ h; omega) (by decide) (by decide) (by decide) (by decide) (by decide) (by decide)
  have hFz := (HF6.out.trans (Fr.ofBelow (F := fun k => k = Sb) (below_drew V6)) (fun k hk => .inl hk)).trans hF7 (fun k hk => .inr (by omega))
  refine bodyPost_ret (res_c rfl _ _ _ rfl (load_dv rfl hD7)) rfl ⟨da, dc, ga, gc, da2, dc2, ra, rc, rfl, hH7, hFz⟩
end Go.Proofs.YtgbbajeeelgbhaaGreatDoor.Hd

namespace Go.Proofs.YtgbbajeeelgbhaaGreatDoor.Rf
open Go.RowKit Kt Pl Rd Wr Fw Ad At
set_option linter.unusedVariables false

set_option maxHeartbeats 400000 in
set_option maxRecDepth 20000 in
theorem refNum_ok (w : World) (ao : Option Addr) (cap n : Nat) (bs : List UInt8) (hr : Row w ao bs) (hlen : bs.length ≤ 1000000000) (hn : n ≤ 4611686018427387904) :
    Calls Tryz.prog 67 #[.slice ao bs.length cap, .int .i64 n] w fun e w' => ∃ v', e = .returned (.tuple #[v', .int .i64 0]) ∧ w'.ownsRow w.heap.size 5 1 v' (bs.length + (enc n).length) (U (bs ++ enc n)) ∧ Below w.heap.size w w' := by
  have h9 := enc_len9 hn
  have c1 : decide ((n : Int) < 0) = false := by simp
  have c2 : decide ((4611686018427387904 : Int) < (n : Int)) = false := by simp; omega
  have HN : Hid (n ≤ 4611686018427387904) := hn
  clear hn
  go_enter Tryz.func67, Tryz.ntmps67
  go_wp2_with (at_builtin; refine (wpList_append_own_src _ rfl (.tmp 13) (.tmp 14) 41 41 rfl w.heap.size 5 (.int .u8 0) 1 1 Tryz.underlying41 info5 rfl (by decide) _ 0 [] rfl (World.ownsRow_made w #[] 0 (Nat.le_refl _) (Nat.zero_le _) rfl) _ bs.length (U bs) rfl (by exact Row.src (P := Tryz.prog) Tryz.underlying41 (hr.below ((Below.refl w.heap.size w).alloc (Nat.le_refl _) (.cells #[] 5))) cap) (by unfold maxLen; omega) (by omega) (by simp) ?_))
  intro v0 w0 hown0 hgrow0
  have hb0 := below_own (World.ownsRow_made (e := 5) (size := 1) w #[] 0 (Nat.le_refl _) (Nat.zero_le _) rfl) hgrow0 ((Below.refl w.heap.size w).alloc (Nat.le_refl _) (.cells #[] 5)) (by simp)
  have hown0' : w0.ownsRow w.heap.size 5 1 v0 (bs.length + ([] : List UInt8).length) (U (bs ++ [])) := by simpa using hown0
  clear hgrow0 hown0 c1 c2
  go_wp2
  go_loopw [1, 6] (fun x v1 wr => ∃ (k : Nat) (pre : List UInt8), (k : Int) ≤ 4611686018427387904 ∧ x = .int .i64 k ∧ Hid (pre ++ enc k = enc n) ∧ pre.length ≤ 8 ∧ wr.ownsRow w.heap.size 5 1 v1 (bs.length + pre.length) (U (bs ++ pre)) ∧ Below w.heap.size w wr)
    (fun x _ _ => (intOf x).toNat)
  case atStart => exact ⟨n, [], by have := HN.out; omega, rfl, by simp [Hid], by simp, hown0', hb0⟩
  case round =>
    obtain ⟨k, pre, hk, rfl, hpe, hpl, hown1, hbel⟩ := hrel
    have hsz := hbel.size
    clear hown0' hb0
    by_cases hge : 128 ≤ k
    · go_wp2_with (at_builtin; refine (wpList_append_own_src _ rfl (.tmp 18) (.tmp 23) 41 41 rfl w.heap.size 5 (.int .u8 0) 1 1 Tryz.underlying41 info5 rfl (by decide) _ (bs.length + pre.length) (U (bs ++ pre)) rfl (hown1.alloc _) _ 1 (U [hiB k]) rfl (src_one Tryz.underlying41 _ _ _ ?hx) ?h63 ?hby ?hbs ?_))
      case hx => exact byte_hi k
      case h63 => unfold maxLen; omega
      case hby => omega
      case hbs => simp; omega
      intro v2 w2 hown2 hgrow2
      have hst := num_step hge hpe.out h9
      have HS : Hid (pre ++ [hiB k] ++ enc (k / 128) = enc n) := hst.1
      have hs8 := hst.2
      have hbel2 := below_own (hown1.alloc _) hgrow2 (hbel.alloc (by omega) _) (by simp; omega)
      have hown3 := own_more hown2
      clear hst hown1 hown2 hgrow2 hbel
      go_wp2
      go_roundw
      case rel => exact ⟨k / 128, _, by omega, by go_num, HS, hs8, hown3, hbel2⟩
      case measure => simp [intOf]; omega
    · go_wp2_with (at_builtin; refine (wpList_append_own_src _ rfl (.tmp 27) (.tmp 30) 41 41 rfl w.heap.size 5 (.int .u8 0) 1 1 Tryz.underlying41 info5 rfl (by decide) _ (bs.length + pre.length) (U (bs ++ pre)) rfl (hown1.alloc _) _ 1 (U [UInt8.ofNat k]) rfl (src_one Tryz.underlying41 _ _ _ ?hx2) ?h632 ?hby2 ?hbs2 ?_))
      case hx2 => exact byte_lo (by omega)
      case h632 => unfold maxLen; omega
      case hby2 => omega
      case hbs2 => simp; omega
      intro v2 w2 hown2 hgrow2
      have HS : Hid (pre ++ [UInt8.ofNat k] = enc n) := by rw [← enc_lt (by omega)]; exact hpe.out
      have hbel2 := below_own (hown1.alloc _) hgrow2 (hbel.alloc (by omega) _) (by simp; omega)
      have hown3 := own_more hown2
      clear hown1 hown2 hgrow2 hbel
      go_wp2
      go_ret2
      rw [HS.out] at hown3
      exact ⟨v2, rfl, hown3, hbel2⟩

set_option maxHeartbeats 400000 in
set_option maxRecDepth 20000 in
theorem refNum_bad (w : World) (v : Value) (n : Int) (h : n < 0 ∨ 4611686018427387904 < n) :
    Calls Tryz.prog 67 #[v, .int .i64 n] w fun e w' => e = .returned (.tuple #[.slice none 0 0, .int .i64 2]) ∧ w' = w := by
  by_cases h0 : n < 0
  · have c1 : decide (n < 0) = true := by simpa using h0
    clear h h0
    go_enter Tryz.func67, Tryz.ntmps67
    go_wp2
    go_ret2
    exact ⟨rfl, rfl⟩
  · have c1 : decide (n < 0) = false := by simpa using h0
    have c2 : decide (4611686018427387904 < n) = true := by simp; omega
    clear h h0
    go_enter Tryz.func67, Tryz.ntmps67
    go_wp2
    go_ret2
    exact ⟨rfl, rfl⟩

set_option maxHeartbeats 400000 in
set_option maxRecDepth 20000 in
theorem refText_ok (w : World) (ao : Option Addr) (cap : Nat) (s bs : List UInt8) (hr : Row w ao bs) (hlen : bs.length ≤ 1000000000) (hs : s.length ≤ 4096) :
    Calls Tryz.prog 86 #[.slice ao bs.length cap, .string (S s)] w fun e w' => ∃ v', e = .returned (.tuple #[v', .int .i64 0]) ∧ w'.ownsRow w.heap.size 5 1 v' (bs.length + (encText s).length) (U (bs ++ encText s)) ∧ Below w.heap.size w w' := by
  have h9 := enc_len9 (n := s.length) (by omega)
  have hS : (S s).size ≤ 4096 := hs
  have hS2 : (S s).size = s.length := rfl
  go_enter Tryz.func86, Tryz.ntmps86
  go_wp2_with fail
  refine (refNum_ok w ao cap s.length bs hr hlen (by omega)).mono ?_
  rintro e w1 ⟨v1, rfl, hown1, hb1⟩
  have hsz := hb1.size
  go_wp2_with (at_builtin; refine (wpList_append_own_src _ rfl (.tmp 18) (.tmp 19) 41 9 rfl w.heap.size 5 (.int .u8 0) 1 1 Tryz.underlying41 info5 rfl (by decide) _ (bs.length + (enc s.length).length) (U (bs ++ enc s.length)) rfl hown1 _ s.length (U s) rfl (Src.ofString _ Tryz.underlying9 (S s)) ?h63 ?hby ?hbs ?_))
  case h63 => unfold maxLen; omega
  case hby => omega
  case hbs => omega
  intro v2 w2 hown2 hgrow2
  have hbel2 := below_own hown1 hgrow2 hb1 (by omega)
  have hown3 : w2.ownsRow w.heap.size 5 1 v2 (bs.length + (encText s).length) (U (bs ++ encText s)) := own_more hown2
  clear hown1 hown2 hgrow2 hb1
  go_wp2
  go_ret2
  exact ⟨v2, rfl, hown3, hbel2⟩

set_option maxHeartbeats 400000 in
set_option maxRecDepth 20000 in
theorem refText_bad (w : World) (v : Value) (s : List UInt8) (hs : 4096 < s.length) :
    Calls Tryz.prog 86 #[v, .string (S s)] w fun e w' => e = .returned (.tuple #[.slice none 0 0, .int .i64 3]) ∧ w' = w := by
  have hS : 4096 < (S s).size := hs
  go_enter Tryz.func86, Tryz.ntmps86
  go_wp2
  go_ret2
  exact ⟨rfl, rfl⟩
end Go.Proofs.YtgbbajeeelgbhaaGreatDoor.Rf
