/-
  ShB, joined by mrg.py.
-/
import Derived.Test.YtgbbajeeelgbhaaGreatDoorSqBA

namespace Go.Proofs.YtgbbajeeelgbhaaGreatDoor.Hb
open Go.RowKit Kt Gf Gk Gp Qm Qa Qb Qc Qd Qe Qf Qg Ha
open Gr (RowS Fl Gl Go' gC)
open Pl (Rg may join)
open Pr (Rw Ow)
open Wi (Rp Cm readCm)
open Wk (Cv)
open Wa (Pv RpM)
open At (RowT)
open Wu (RdC Zc)
set_option linter.unusedVariables false
set_option linter.unusedSectionVars false
set_option linter.unusedSimpArgs false
set_option maxRecDepth 20000

def mx (a b : Int) : Int := max a b
theorem mx_eq (a b : Int) : mx a b = max a b := rfl
def setT (c : Cm) (t : Int) : Cm := ⟨c.kind, c.client, c.num, t, c.queue, c.group, c.body, c.token, c.attempt, c.max, c.secs, c.rc, c.lo, c.hi, c.to, c.data⟩
theorem load_cv {w : World} {b : Nat} {c : Cm} {d : Value} (h : Bx w b (Cv c d) 39) : (loadVar 39 ⟨b, 0, none⟩).run Tryz.prog w = .ok (.agg (Cv c d)) w := Wk.load_bx (P := Tryz.prog) h Tryz.underlying39 rfl (by kernel_rfl)
theorem infoC : (Tryz.prog.info? 39).map (·.size) = some 19 := by kernel_rfl
theorem Cv_one (c : Cm) (d : Value) (hd : d.oneCell' = true) : (Cv c d).all (fun x => x.oneCell') = true := by unfold Cv; rw [List.all_toArray]; simp [Value.oneCell'] at *; exact hd
theorem read_bad (w : World) (ao : Option Addr) (cap : Nat) (bs : Wi.Bs) (hr : Row w ao bs) (hlen : bs.length ≤ 1000000000) (hcap : bs.length ≤ cap) (h63 : cap ≤ 9223372036854775807) (er : Nat) (hrd : readCm bs = .error er) :
    Calls Tryz.prog 99 #[.slice ao bs.length cap] w fun e w' => ∃ er' : Nat, e = .returned (.tuple #[.agg Zc, .int .i64 er']) ∧ er' ≠ 0 ∧ Below w.heap.size w w' := by
  refine (Wu.readCmd_any w ao cap bs hr hlen hcap h63).mono ?_
  rintro e1 w1 ⟨hb1, ⟨c, a1, c1, hk, -⟩ | ⟨er', hk, hne, rfl⟩⟩
  · exact absurd (hrd.symm.trans hk) (by simp)
  · exact ⟨er', rfl, hne, hb1⟩
theorem read_ok (w : World) (ao : Option Addr) (cap : Nat) (bs : Wi.Bs) (hr : Row w ao bs) (hlen : bs.length ≤ 1000000000) (hcap : bs.length ≤ cap) (h63 : cap ≤ 9223372036854775807) (c : Cm) (hrd : readCm bs = .ok c) :
    Calls Tryz.prog 99 #[.slice ao bs.length cap] w fun e w' => ∃ da dc, e = .returned (.tuple #[.agg (Cv c (.slice da c.data.length dc)), .int .i64 0]) ∧ RowT w' da c.data ∧ (∀ a, da = some a → w.heap.size ≤ a.block) ∧ c.data.length ≤ 1024 ∧ Below w.heap.size w w' := by
  refine (Wu.readCmd_any w ao cap bs hr hlen hcap h63).mono ?_
  rintro e1 w1 ⟨hb1, ⟨c', da, dc, hk, rfl, hrow, hda, hdl⟩ | ⟨er', hk, hne, rfl⟩⟩
  · obtain rfl : c = c' := by have := hrd.symm.trans hk; simpa using this
    exact ⟨da, dc, rfl, hrow, hda, hdl, hb1⟩
  · exact absurd (hrd.symm.trans hk) (by simp)
section
variable {w : World} {Sb Xb Mb T Tm : Nat} {F : Nat → Prop} {cf : List Cf} {sv : List Rg} {xs : List X} {qa : Option Addr} {qc : Nat} {sa : Option Addr} {sc : Nat} {l : List Sa.E} {now slots : Int}
/-- A value that is no command. -/
theorem command_bad (h : Hs w Sb Xb Mb T Tm F cf sv xs qa qc sa sc l now slots) (ao : Option Addr) (cap : Nat) (bs : Wi.Bs) (hr : Row w ao bs) (hlen : bs.length ≤ 1000000000) (hcap : bs.length ≤ cap) (h63 : cap ≤ 9223372036854775807) (er : Nat) (hrd : readCm bs = .error er) :
    Calls Tryz.prog 51 #[.pointer (some ⟨Sb, 0, none⟩), .slice ao bs.length cap] w fun e w' => e = .returned (.tuple #[.agg Zc, .bool false]) ∧ Below w.heap.size w w' := by
  have HS0 := mkH (And.intro ((Below.refl w.heap.size w).alloc (Nat.le_refl _) (.cells Zc 39)) (Bx.new w Zc 39))
  have HR := mkH hr
  have HRD := mkH hrd
  have HN := mkH (And.intro hlen (And.intro hcap h63))
  clear h hr hrd hlen hcap h63
  go_enter Tryz.func51, Tryz.ntmps51
  go_upto_region 1 with fail
  change Code.wp _ _ _ _ (w.alloc (.cells Zc 39))
  generalize w.alloc (.cells Zc 39) = w0 at *
  go_wp2_with fail
  refine (read_bad w0 ao cap bs (HR.out.below HS0.out.1) HN.out.1 HN.out.2.1 HN.out.2.2 er HRD.out).mono ?_
  rintro e1 w1 ⟨er', rfl, hne, hb1⟩
  have HB1 := mkH (HS0.out.1.trans (hb1.mono HS0.out.1.size))
  have HC1 := mkH (HS0.out.2.bel hb1)
  have hne2 : ¬ er' = 0 := hne
  clear hb1 hne
  go_wp2_with (first
    | (refine wpList_st rfl (ty := 39) (x := .tmp 4) (y := .tmp 14) (b := w.heap.size) (cs := Zc) (old := Zc) (t := 39) rfl rfl rfl HC2.out infoC rfl (Cv_one _ _ rfl) ?_)
    | (refine wpList_st rfl (ty := 39) (x := .tmp 4) (y := .tmp 10) (b := w.heap.size) (cs := Zc) (old := Zc) (t := 39) rfl rfl rfl HC1.out infoC rfl (Cv_one _ _ rfl) ?_; have HC2 := mkH (HC1.out.row (cs := Zc)); have HB2 := mkH (below_setRow HB1.out (Nat.le_refl _) Zc)))
  have hC3 := HC2.out.row (cs := Zc)
  have hB3 := below_setRow HB2.out (Nat.le_refl _) Zc
  refine bodyPost_ret (res_ct rfl _ _ _ rfl rfl (load_cv hC3)) rfl ⟨rfl, hB3⟩

/-- What command hands back and leaves. -/
def CmP (w : World) (Sb Xb Mb T Tm : Nat) (F : Nat → Prop) (cf : List Cf) (sv : List Rg) (xs : List X) (qa : Option Addr) (qc : Nat) (sa : Option Addr) (sc : Nat) (l : List Sa.E) (now slots : Int) (c : Cm) (e : Ending) (w' : World) : Prop := ∃ da dc, e = .returned (.tuple #[.agg (Cv (setT c (mx now c.time)) (.slice da c.data.length dc)), .bool true]) ∧ RowT w' da c.data ∧ c.data.length ≤ 1024 ∧ Hs w' Sb Xb Mb T Tm F cf sv xs qa qc sa sc l (mx now c.time) slots ∧ Fr (fun k => k = Sb) w w'
set_option maxHeartbeats 4000000 in
theorem command_ok (h : Hs w Sb Xb Mb T Tm F cf sv xs qa qc sa sc l now slots) (hFw : ∀ k, F k → k < w.heap.size) (ao : Option Addr) (cap : Nat) (bs : Wi.Bs) (hr : Row w ao bs) (hlen : bs.length ≤ 1000000000) (hcap : bs.length ≤ cap) (h63 : cap ≤ 9223372036854775807) (c : Cm) (hrd : readCm bs = .ok c) :
    Calls Tryz.prog 51 #[.pointer (some ⟨Sb, 0, none⟩), .slice ao bs.length cap] w fun e w' => CmP w Sb Xb Mb T Tm F cf sv xs qa qc sa sc l now slots c e w' := by
  have hmx : Tryz.prog.follows .mixedOrders = true := by kernel_rfl
  have HH := mkH h
  have HFW := mkH hFw
  have HS0 := mkH (And.intro ((Below.refl w.heap.size w).alloc (Nat.le_refl _) (.cells Zc 39)) (Bx.new w Zc 39))
  have HR := mkH hr
  have HRD := mkH hrd
  have HN := mkH (And.intro hlen (And.intro hcap h63))
  clear h hr hrd hlen hcap h63 hFw
  go_enter Tryz.func51, Tryz.ntmps51
  go_upto_region 1 with fail
  change Code.wp _ _ _ _ (w.alloc (.cells Zc 39))
  generalize w.alloc (.cells Zc 39) = w0 at *
  go_wp2_with (first
    | (refine wpList_st rfl (ty := 39) (x := .tmp 4) (y := .tmp 10) (b := w.heap.size) (cs := Cv c (.slice da c.data.length dc)) (old := Zc) (t := 39) rfl rfl rfl HC1.out infoC rfl (Cv_one _ _ rfl) ?_)
    | (go_at_call 99; refine (read_ok w0 ao cap bs (HR.out.below HS0.out.1) HN.out.1 HN.out.2.1 HN.out.2.2 c HRD.out).mono ?_; rintro e1 w1 ⟨da, dc, rfl, hrow, hda, hdl, hb1⟩; have HB1 := mkH (HS0.out.1.trans (hb1.mono HS0.out.1.size)); have HC1 := mkH (HS0.out.2.bel hb1); have HD1 := mkH (And.intro hrow (And.intro hda hdl)); clear hb1 hrow hda hdl))
  have HC := mkH (HC1.out.row (cs := Cv c (.slice da c.data.length dc)))
  have HFc : Hid (Fr (fun k => k = w.heap.size) w1 (w1.setRow w.heap.size (Cv c (.slice da c.data.length dc)))) := mkH (Bx.frrow _)
  have HV := mkH ((HH.out.below HB1.out).other HFc.out HC1.out (fun h => by have := HFW.out _ h; omega) (by decide) (by decide) (by decide) (by decide) (by decide) (by decide))
  have HBV := mkH (below_setRow HB1.out (Nat.le_refl _) (Cv c (.slice da c.data.length dc)))
  have hw0 : w.heap.size < w0.heap.size := HS0.out.2.lt
  have HDV : Hid (RowT (w1.setRow w.heap.size (Cv c (.slice da c.data.length dc))) da c.data) := mkH (Sa.rowT_fr HD1.out.1 (fr_dk HFc.out) (fun a v hc ⟨a', e1, e2⟩ e3 => by have := HD1.out.2.1 a' e1; omega))
  have HD2 := mkH HD1.out.2
  clear HC1 HFc HB1 HD1 HR HN HS0
  generalize w1.setRow w.heap.size (Cv c (.slice da c.data.length dc)) = V at *
  go_upto_region 4 with fail
  refine Rg.region_G hmx 12 (fun W => W = V.drew) rfl (fun hHeld => ?_)
  refine Rg.anyG_pure (i := 0) (oi := { dst := some 15, op := _, type := _, pos := _, after := _, guard := _ }) (v := ?_) rfl (by kernel_rfl) (by kernel_rfl) (by kernel_rfl) (by rfl) (fun _ _ _ h => h) (Or.inl ⟨by rfl, ?_⟩) (fun _ => by assumption) ?_
  rotate_left
  · (intro W hSw; (try dsimp only at hSw); go_simp; try (with_reducible rfl))
  try simp only [Act.put, List.setIfInBounds_toArray, List.set_cons_zero, List.set_cons_succ]
  refine Rg.anyG_pure (i := 1) (oi := { dst := some 16, op := _, type := _, pos := _, after := _, guard := _ }) (v := ?_) rfl (by kernel_rfl) (by kernel_rfl) (by kernel_rfl) (by rfl) (fun _ _ _ h => h) (Or.inl ⟨by rfl, ?_⟩) (fun _ => by assumption) ?_
  rotate_left
  · (intro W hSw; (try dsimp only at hSw); go_simp; try (with_reducible rfl))
  try simp only [Act.put, List.setIfInBounds_toArray, List.set_cons_zero, List.set_cons_succ]
  refine Rg.anyG_pure (i := 2) (oi := { dst := some 17, op := _, type := _, pos := _, after := _, guard := _ }) (v := ?_) rfl (by kernel_rfl) (by kernel_rfl) (by kernel_rfl) (by rfl) (fun _ _ _ h => h) (Or.inl ⟨by rfl, ?_⟩) (fun _ => by assumption) ?_
  rotate_left
  · (intro W hSw; (try dsimp only at hSw); go_simp; try (with_reducible rfl))
  try simp only [Act.put, List.setIfInBounds_toArray, List.set_cons_zero, List.set_cons_succ]
  refine Rg.anyG_pure (i := 3) (oi := { dst := some 18, op := _, type := _, pos := _, after := _, guard := _ }) (v := ?_) rfl (by kernel_rfl) (by kernel_rfl) (by kernel_rfl) (by rfl) (fun _ _ _ h => h) (Or.inl ⟨by rfl, ?_⟩) (fun _ => by assumption) ?_
  rotate_left
  · (intro W hSw; (try dsimp only at hSw); go_simp; try (with_reducible rfl))
  try simp only [Act.put, List.setIfInBounds_toArray, List.set_cons_zero, List.set_cons_succ]
  refine Rg.anyG_pure (i := 4) (oi := { dst := some 19, op := _, type := _, pos := _, after := _, guard := _ }) (v := ?_) rfl (by kernel_rfl) (by kernel_rfl) (by kernel_rfl) (by rfl) (fun _ _ _ h => h) (Or.inl ⟨by rfl, ?_⟩) (fun _ => by assumption) ?_
  rotate_left
  · (intro W hSw; (try dsimp only at hSw); go_simp; try (with_reducible rfl))
  try simp only [Act.put, List.setIfInBounds_toArray, List.set_cons_zero, List.set_cons_succ]
  refine Rg.anyG_take (i := 5) (oi := { dst := some 20, op := _, type := _, pos := _, after := _, guard := _ }) (v := ?_) rfl (by kernel_rfl) (by kernel_rfl) (by kernel_rfl) [12] (by kernel_rfl) (fun _ _ _ h => h) (Or.inl ⟨by rfl, ?_⟩) (by assumption) ?_
  rotate_left
  · (intro W hSw; (try dsimp only at hSw); subst hSw; have c2 := (HV.out.bx.bel (below_drew V)).cell 2 _ rfl; go_simp; try (with_reducible rfl))
  try simp only [Act.put, List.setIfInBounds_toArray, List.set_cons_zero, List.set_cons_succ]
  refine Rg.anyG_pure (i := 6) (oi := { dst := some 21, op := _, type := _, pos := _, after := _, guard := _ }) (v := ?_) rfl (by kernel_rfl) (by kernel_rfl) (by kernel_rfl) (by rfl) (fun _ _ _ h => h) (Or.inl ⟨by rfl, ?_⟩) (fun _ => by assumption) ?_
  rotate_left
  · (intro W hSw; (try dsimp only at hSw); go_simp; try (with_reducible rfl))
  try simp only [Act.put, List.setIfInBounds_toArray, List.set_cons_zero, List.set_cons_succ]
  refine Rg.anyG_take (i := 7) (oi := { dst := some 22, op := _, type := _, pos := _, after := _, guard := _ }) (v := ?_) rfl (by kernel_rfl) (by kernel_rfl) (by kernel_rfl) [12] (by kernel_rfl) (fun _ _ _ h => h) (Or.inl ⟨by rfl, ?_⟩) (by assumption) ?_
  rotate_left
  · (intro W hSw; (try dsimp only at hSw); subst hSw; have c3 : V.drew.cell? ⟨w.heap.size, 3, none⟩ = some (.int .i64 c.time) := (HC.out.bel (below_drew V)).cell 3 _ rfl; go_simp; try (with_reducible rfl))
  try simp only [Act.put, List.setIfInBounds_toArray, List.set_cons_zero, List.set_cons_succ]
  refine Rg.anyG_pure (i := 8) (oi := { dst := some 23, op := _, type := _, pos := _, after := _, guard := _ }) (v := .int .i64 (mx now c.time)) rfl (by kernel_rfl) (by kernel_rfl) (by kernel_rfl) (by rfl) (fun _ _ _ h => h) (Or.inl ⟨by rfl, ?_⟩) (fun _ => by assumption) ?_
  · (intro W hSw; (try dsimp only at hSw); rw [mx_eq]; go_simp; try (with_reducible rfl))
  try simp only [Act.put, List.setIfInBounds_toArray, List.set_cons_zero, List.set_cons_succ]
  refine Rg.anyG_pure (i := 9) (oi := { dst := some 24, op := _, type := _, pos := _, after := _, guard := _ }) (v := ?_) rfl (by kernel_rfl) (by kernel_rfl) (by kernel_rfl) (by rfl) (fun _ _ _ h => h) (Or.inl ⟨by rfl, ?_⟩) (fun _ => by assumption) ?_
  rotate_left
  · (intro W hSw; (try dsimp only at hSw); go_simp; try (with_reducible rfl))
  try simp only [Act.put, List.setIfInBounds_toArray, List.set_cons_zero, List.set_cons_succ]
  refine Rg.anyG_pure (i := 10) (oi := { dst := some 25, op := _, type := _, pos := _, after := _, guard := _ }) (v := ?_) rfl (by kernel_rfl) (by kernel_rfl) (by kernel_rfl) (by rfl) (fun _ _ _ h => h) (Or.inl ⟨by rfl, ?_⟩) (fun _ => by assumption) ?_
  rotate_left
  · (intro W hSw; (try dsimp only at hSw); go_simp; try (with_reducible rfl))
  try simp only [Act.put, List.setIfInBounds_toArray, List.set_cons_zero, List.set_cons_succ]
  refine Rg.anyG_pure (i := 11) (oi := { dst := some 26, op := _, type := _, pos := _, after := _, guard := _ }) (v := ?_) rfl (by kernel_rfl) (by kernel_rfl) (by kernel_rfl) (by rfl) (fun _ _ _ h => h) (Or.inl ⟨by rfl, ?_⟩) (fun _ => by assumption) ?_
  rotate_left
  · (intro W hSw; (try dsimp only at hSw); go_simp; try (with_reducible rfl))
  try simp only [Act.put, List.setIfInBounds_toArray, List.set_cons_zero, List.set_cons_succ]
  refine Rg.anyG_ready (rs := [12]) (by kernel_rfl) (by simp) ?_
  refine Rg.AllG.last (o := { dst := none, op := _, type := _, pos := _, after := _, guard := _ }) rfl (by kernel_rfl) (fun K hK => ?_)
  have hB := HV.out.bx.bel (below_drew V)
  have hfz := hB.frozen 2
  have hc2 := hB.cell 2 _ rfl
  go_simp
  refine hK.out _ _ ?_
  clear hK K
  try simp only [Act.put, List.setIfInBounds_toArray, List.set_cons_zero, List.set_cons_succ]
  refine Rg.anyG_done (by kernel_rfl) ?_ _
  have hB0 := HV.out.bx.bel (below_drew V)
  have hB1 := hB0.s2 (.int .i64 (mx now c.time))
  have hF1 := hB0.frset 2 (.int .i64 (mx now c.time))
  have HV1 := mkH ((HV.out.below (below_drew V)).own hF1 hB1)
  have hSw : Sb < w.heap.size := HH.out.bx.lt
  have HC1 := mkH ((HC.out.bel (below_drew V)).other (p := ⟨Sb, 2, none⟩) (by simp; omega) (.int .i64 (mx now c.time)))
  have HD1 : Hid (RowT (V.drew.setCell ⟨Sb, 2, none⟩ (.int .i64 (mx now c.time))) da c.data) := mkH (Sa.rowT_fr (HDV.out.below (below_drew V)) (fr_dk hF1) (fun a v hc ⟨a', e1, e2⟩ e3 => by have := HD2.out.1 a' e1; omega))
  have HF1 : Hid (Fr (fun k => k = Sb) w (V.drew.setCell ⟨Sb, 2, none⟩ (.int .i64 (mx now c.time)))) := mkH ((Fr.ofBelow (HBV.out.trans ((below_drew V).mono HBV.out.size))).trans hF1 (fun k hk => .inl hk))
  clear hB0 hB1 hF1 HV HC HDV HBV
  have eS : V.drew.setCell ⟨Sb, 2, none⟩ (.int .i64 (mx now c.time)) = (V.setCell ⟨Sb, 2, none⟩ (.int .i64 (mx now c.time))).drew := by unfold World.setCell; first | rfl | (split <;> rfl)
  rw [eS] at HV1 HC1 HD1 HF1
  clear eS
  generalize (V.setCell ⟨Sb, 2, none⟩ (.int .i64 (mx now c.time))).drew = V1 at *
  have c2 : V1.cell? ⟨Sb, 2, none⟩ = some (.int .i64 (mx now c.time)) := HV1.out.bx.cell 2 _ rfl
  have c3 : V1.cell? ⟨w.heap.size, 3, none⟩ = some (.int .i64 c.time) := HC1.out.cell 3 _ rfl
  have f3 : V1.frozen? ⟨w.heap.size, 3, none⟩ = false := HC1.out.frozen 3
  go_upto_region 6 with fail
  have HC2 : Hid (Bx (V1.setCell ⟨w.heap.size, 3, none⟩ (.int .i64 (mx now c.time))) w.heap.size (Cv (setT c (mx now c.time)) (.slice da c.data.length dc)) 39) := mkH (HC1.out.set 3 (.int .i64 (mx now c.time)))
  have hF2 := HC1.out.frset 3 (.int .i64 (mx now c.time))
  have HV2 := mkH (HV1.out.other hF2 HC1.out (fun h => by have := HFW.out _ h; omega) (by decide) (by decide) (by decide) (by decide) (by decide) (by decide))
  have HD3 : Hid (RowT (V1.setCell ⟨w.heap.size, 3, none⟩ (.int .i64 (mx now c.time))) da c.data) := mkH (Sa.rowT_fr HD1.out (fr_dk hF2) (fun a v hc ⟨a', e1, e2⟩ e3 => by have := HD2.out.1 a' e1; omega))
  have HF2 : Hid (Fr (fun k => k = Sb) w (V1.setCell ⟨w.heap.size, 3, none⟩ (.int .i64 (mx now c.time)))) := mkH (HF1.out.trans hF2 (fun k hk => .inr (by omega)))
  clear hF2 c2 c3 f3 HV1 HC1 HD1 HF1
  generalize V1.setCell ⟨w.heap.size, 3, none⟩ (.int .i64 (mx now c.time)) = V2 at *
  go_wp2_with (first
    | (refine wpList_ld (ty := 39) (x := .tmp 4) (p := ⟨w.heap.size, 0, none⟩) (v := .agg (Cv (setT c (mx now c.time)) (.slice da c.data.length dc))) rfl rfl rfl (load_cv HC2.out) ?_)
    | (refine wpList_st rfl (ty := 39) (x := .tmp 4) (y := .tmp 33) (b := w.heap.size) (cs := Cv (setT c (mx now c.time)) (.slice da c.data.length dc)) (old := Cv (setT c (mx now c.time)) (.slice da c.data.length dc)) (t := 39) rfl rfl rfl HC2.out infoC rfl (Cv_one _ _ rfl) ?_))
  have hC3 := HC2.out.row (cs := Cv (setT c (mx now c.time)) (.slice da c.data.length dc))
  have hF3 : Fr (fun k => k = w.heap.size) V2 (V2.setRow w.heap.size (Cv (setT c (mx now c.time)) (.slice da c.data.length dc))) := Bx.frrow _
  refine bodyPost_ret (res_ct rfl _ _ _ rfl rfl (load_cv hC3)) rfl ⟨da, dc, rfl, Sa.rowT_fr HD3.out (fr_dk hF3) (fun a v hc ⟨a', e1, e2⟩ e3 => by have := HD2.out.1 a' e1; omega), HD2.out.2, HV2.out.other hF3 HC2.out (fun h => by have := HFW.out _ h; omega) (by decide) (by decide) (by decide) (by decide) (by decide) (by decide), HF2.out.trans hF3 (fun k hk => .inr (by omega))⟩
end
end Go.Proofs.YtgbbajeeelgbhaaGreatDoor.Hb
