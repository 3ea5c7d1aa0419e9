/-
  ReadReply of wire: the whole, behind a deferred recover.
-/
import Derived.Test.YtjboldahmndkeaaWiU3
import Derived.Test.YtjboldahmndkeaaWiJP
import Derived.Test.YtjboldahmndkeaaWiA3
namespace Go.Proofs.Ytjboldahmndkeaa.Wu2
open Go.RowKit Kt Pl Wi Wk Wf Wfw Wy Wx Wa
open Wq hiding hmf
open Wu (startZ Two op_both hmf startZ2 onRow load_err results_two results_ct row_lt Two.on On.setRow On.setNew)
open At (RowT)
set_option linter.unusedVariables false
set_option linter.unusedSimpArgs false
set_option maxRecDepth 20000

/-- A reply's rows lie above. -/
structure Far (lo : Nat) (ga da ra : Option Addr) : Prop where
  a1 : ∀ a, ga = some a → lo ≤ a.block
  a2 : ∀ a, da = some a → lo ≤ a.block
  a3 : ∀ a, ra = some a → lo ≤ a.block
theorem Far.down {lo l : Nat} {ga da ra : Option Addr} (h : Far lo ga da ra) (hl : l ≤ lo) : Far l ga da ra := ⟨fun a ha => Nat.le_trans hl (h.a1 a ha), fun a ha => Nat.le_trans hl (h.a2 a ha), fun a ha => Nat.le_trans hl (h.a3 a ha)⟩
structure Apart (g : Nat) (ga da ra : Option Addr) : Prop where
  a1 : ∀ a, ga = some a → a.block ≠ g
  a2 : ∀ a, da = some a → a.block ≠ g
  a3 : ∀ a, ra = some a → a.block ≠ g
theorem Far.ne {lo g : Nat} {ga da ra : Option Addr} (h : Far lo ga da ra) (hl : g < lo) : Apart g ga da ra := ⟨fun a ha => by have := h.a1 a ha; omega, fun a ha => by have := h.a2 a ha; omega, fun a ha => by have := h.a3 a ha; omega⟩
theorem RpM.setRow {w : World} {r : Rp} {ga da ra : Option Addr} (h : RpM w r ga da ra) {g : Nat} (hp : Apart g ga da ra) (cs : Array Value) : RpM (w.setRow g cs) r ga da ra := ⟨RowS.setRow h.got hp.a1 cs, Wk.RowT.setRow h.data hp.a2 cs, RowS.setRow h.about hp.a3 cs⟩
theorem RpM.setCell {w : World} {r : Rp} {ga da ra : Option Addr} (h : RpM w r ga da ra) {p : Addr} (hp : Apart p.block ga da ra) (v : Value) : RpM (w.setCell p v) r ga da ra := ⟨RowS.setCell h.got hp.a1 v, Wk.RowT.setCell h.data hp.a2 v, RowS.setCell h.about hp.a3 v⟩

/-- The deferred closure, where nothing panics. -/
theorem idle_any (p q : Addr) (w : World) : CallsD Try.prog 71 #[.pointer (some p), .pointer (some q)] .returning w fun e u' w' => e = .returned (.tuple #[]) ∧ u' = .returning ∧ w' = w := by
  refine callsD_of_wpS Try.func71 rfl fun c₀ cs hu => ?_
  apply wpS_seq
  apply wpS_region
  simp [wpOpsS, go_sem, recoverD, hu, Try.ntmps71, Exit.thenS]
  refine wpS_of_wp ?_
  simp only [Array.replicate_succ, Array.replicate_zero, List.push_toArray, List.append_toArray, List.nil_append, List.cons_append, List.setIfInBounds_toArray, List.set_cons_zero, List.set_cons_succ]
  go_wp2
  cases c₀
  simp_all [bodyPostS, results, Try.results71]

def Zc : Array Value := Pv Rp.none none 0 none 0 none 0
theorem infoZ : (Try.prog.info? 43).map (·.size) = some Zc.size := by kernel_rfl
theorem Zc_one : Zc.all (fun x => x.oneCell') = true := by unfold Zc Pv; rw [List.all_toArray]; rfl

set_option maxHeartbeats 4000000 in
/-- The deferred closure, where a reader has stopped: the results are laid. -/
theorem catch_any (bp bq er : Nat) (C : Array Value) (old : Value) (older : List PanicEntry) (w : World) (hp : Bx w bp C 43) (hC : C.size = 6) (hq : Bx w bq #[old] 31) (hne : bp ≠ bq) :
    CallsD Try.prog 71 #[.pointer (some ⟨bp, 0, none⟩), .pointer (some ⟨bq, 0, none⟩)] (.panicking ({ v := .iface 97 (.agg #[.int .i64 er]), recovered := false } :: older)) w fun e u' w' =>
      e = .returned (.tuple #[]) ∧ u' = .panicking ({ v := .iface 97 (.agg #[.int .i64 er]), recovered := true } :: older) ∧ Bx w' bp Zc 43 ∧ Bx w' bq #[.int .i64 er] 31 ∧ Two bp bq w w' := by
  refine callsD_of_wpS Try.func71 rfl fun c₀ cs hu => ?_
  apply wpS_seq
  apply wpS_region
  simp [wpOpsS, go_sem, recoverD, hu, Try.ntmps71, Exit.thenS]
  refine wpS_of_wp ?_
  simp only [Array.replicate_succ, Array.replicate_zero, List.push_toArray, List.append_toArray, List.nil_append, List.cons_append, List.setIfInBounds_toArray, List.set_cons_zero, List.set_cons_succ]
  have HI : Hid ((Try.prog.info? 43).map (·.size) = some Zc.size) := mkH infoZ
  have hta : ∀ W : World, (Instr.typeAssert (.iface 97 (.agg #[.int .i64 er])) 20 97 false).run Try.prog W = .ok (.agg #[.int .i64 er]) W := fun _ => by kernel_rfl
  have hfi : ∀ W : World, (Instr.field 97 (.agg #[.int .i64 er]) 0).run Try.prog W = .ok (.int .i64 er) W := fun _ => by kernel_rfl
  have hlp := hp.lt
  have hlq := hq.lt
  have HP0 := mkH hp
  have HQ0 := mkH hq
  have HU := mkH hu
  clear hp hq hu
  go_wp2_with fail
  refine startZ (zs := Zc) (fun W0 hBz hG => ?_)
  have hp1 := HP0.out.gr (hG.trans ((Gr.refl W0).drew))
  have hq1 := HQ0.out.gr (hG.trans ((Gr.refl W0).drew))
  have HW := mkH (hG.trans ((Gr.refl W0).drew))
  have HBz := mkH hBz
  generalize hb3 : w.heap.size = b3 at hBz HBz ⊢
  refine wp_region_held_drew (S := fun W => Bx W b3 Zc 43) (by kernel_rfl) (hBz.gr ((Gr.refl W0).drew)) (fun hHeld => ?_)
  clear hG hBz
  refine wpAnyH_take (i := 1) (oi := { dst := some 8, op := _, type := _, pos := _, after := _, guard := _ }) (v := ?_) rfl (by kernel_rfl) (by kernel_rfl) (by kernel_rfl) (fun _ _ _ h => h) (Or.inl ⟨by rfl, ?_⟩) (by assumption) ?_
  rotate_left
  · (intro W hSw; (try dsimp only at hSw); go_simp; try (with_reducible rfl))
  try simp only [Act.put, List.setIfInBounds_toArray, List.set_cons_zero, List.set_cons_succ]
  refine wpAnyH_take (i := 2) (oi := { dst := some 9, op := _, type := _, pos := _, after := _, guard := _ }) (v := ?_) rfl (by kernel_rfl) (by kernel_rfl) (by kernel_rfl) (fun _ _ _ h => h) (Or.inl ⟨by rfl, ?_⟩) (by assumption) ?_
  rotate_left
  · (intro W hSw; (try dsimp only at hSw); go_simp; try (with_reducible rfl))
  try simp only [Act.put, List.setIfInBounds_toArray, List.set_cons_zero, List.set_cons_succ]
  refine wpAnyH_take (i := 3) (oi := { dst := some 10, op := _, type := _, pos := _, after := _, guard := _ }) (v := ?_) rfl (by kernel_rfl) (by kernel_rfl) (by kernel_rfl) (fun _ _ _ h => h) (Or.inl ⟨by rfl, ?_⟩) (by assumption) ?_
  rotate_left
  · (intro W hSw; (try dsimp only at hSw); go_simp; try (with_reducible rfl))
  try simp only [Act.put, List.setIfInBounds_toArray, List.set_cons_zero, List.set_cons_succ]
  refine wpAnyH_take (i := 0) (oi := { dst := some 7, op := _, type := _, pos := _, after := _, guard := _ }) (v := .agg Zc) rfl (by kernel_rfl) (by kernel_rfl) (by kernel_rfl) (fun _ _ _ h => h) (Or.inl ⟨by rfl, ?_⟩) (by assumption) ?_
  · (intro W hSw; exact run_ld rfl rfl (load_bx (P := Try.prog) hSw Try.underlying43 rfl HI.out))
  try simp only [Act.put, List.setIfInBounds_toArray, List.set_cons_zero, List.set_cons_succ]
  have hb3p : bp ≠ b3 := by omega
  have hb3q : bq ≠ b3 := by omega
  have hst := run_st (P := Try.prog) (w := W0.drew) (o := { dst := none, op := .store 43 (.tmp 0) (.tmp 7), type := 0, pos := "", after := #[], guard := none }) (a := { tmps := #[.pointer (some ⟨bp, 0, none⟩), undef, undef, undef, undef, undef, undef, .agg Zc], defers := [] }) rfl rfl rfl hp1 HI.out (hC.trans rfl) Zc_one
  have hp2 := Wk.Bx.row hp1 (cs := Zc) (hC.trans rfl)
  have hq2 := Wk.Bx.rowOther hq1 hne Zc
  have hz2 := Wk.Bx.rowOther hHeld hb3p Zc
  refine wpAnyH_one (i := 4) (by kernel_rfl) (op_both rfl rfl (w' := W0.drew.setRow bp Zc) (run_st (P := Try.prog) rfl rfl rfl hp1 HI.out (hC.trans rfl) Zc_one) ⟨hz2, ?_⟩)
  simp only [Act.put]
  have hc2 : (W0.drew.setRow bp Zc).cell? ⟨bq, 0, none⟩ = some old := hq2.cell 0
  have hf2 := hq2.frozen 0
  refine wpAnyH_one (i := 5) (by kernel_rfl) (op_skip rfl rfl (w' := (W0.drew.setRow bp Zc).setCell ⟨bq, 0, none⟩ (.int .i64 er)) ?_ ⟨hz2.other (by simpa using hb3q) _, ?_⟩)
  · clear hst hp2 hq2 hz2 hHeld hp1 hq1 hta hfi
    go_simp
  simp only [Act.put]
  refine wpAnyH_done (by kernel_rfl) ?_ _
  have HX := mkH (hp2.other (p := ⟨bq, 0, none⟩) (fun e => hne e.symm) (.int .i64 er))
  have HY : Hid (Bx ((W0.drew.setRow bp Zc).setCell ⟨bq, 0, none⟩ (.int .i64 er)) bq #[.int .i64 er] 31) := mkH (hq2.set 0 (.int .i64 er))
  have HT : Hid (Two bp bq w ((W0.drew.setRow bp Zc).setCell ⟨bq, 0, none⟩ (.int .i64 er))) := mkH ⟨HW.out.below.os, HW.out.below.tape, HW.out.below.output, by simpa using HW.out.below.size, fun k hk h1 h2 => by rw [heap_setCell_other _ _ _ _ h2, setRow_other _ _ _ _ h1]; exact HW.out.below.block k hk⟩
  clear hst hp2 hq2 hz2 hHeld hp1 hq1 hta hfi hc2 hf2
  go_wp2
  refine ⟨rfl, _, rfl, .tuple #[], ?_, rfl, rfl, HX.out, HY.out, HT.out⟩
  simp [results, Try.results71]
/-- What the reading of a whole command tells. -/
def WhR (rb : Nat) (w : World) (bs : Bs) (e : Ending) (w' : World) : Prop := On rb w w' ∧
  ((∃ c ga gc da dc ra rc, readRp bs = .ok c ∧ e = .returned (.tuple #[.agg (Pv c ga gc da dc ra rc), .int .i64 0]) ∧ RpM w' c ga da ra ∧ (∀ a, ga = some a → w.heap.size ≤ a.block) ∧ (∀ a, da = some a → w.heap.size ≤ a.block) ∧ (∀ a, ra = some a → w.heap.size ≤ a.block) ∧ Cnt c)
   ∨ (∃ er : Nat, readRp bs = .error er ∧ er ≠ 0 ∧ e = .returned (.tuple #[.agg Zc, .int .i64 er])))
theorem door_ok (w : World) (tmps C : Array Value) (v : Value) (R : Ending → World → Prop) (b c : Nat) (hB : Bx w b C 43) (hC : C.size = 6) (hE : Bx w c #[v] 31)
    (h6 : tmps.getD 6 undef = .pointer (some ⟨b, 0, none⟩)) (h7 : tmps.getD 7 undef = .pointer (some ⟨c, 0, none⟩)) (hR : R (.returned (.tuple #[.agg C, v])) w) :
    bodyPostD Try.prog Try.f47 R .ret { tmps := tmps, defers := [{ target := .fn (Fn.func 71) #[.pointer (some ⟨b, 0, none⟩), .pointer (some ⟨c, 0, none⟩)], args := #[] }] } w := by
  refine leaves_cons (f := 71) (args := #[.pointer (some ⟨b, 0, none⟩), .pointer (some ⟨c, 0, none⟩)]) (by simp) (by simp [go_sem]) ?_
  refine (idle_any _ _ w).mono ?_
  rintro e u' w'' ⟨rfl, rfl, rfl⟩
  exact ⟨_, results_two rfl _ _ _ h6 h7 (load_bx hB Try.underlying43 rfl (hC ▸ infoP)) (load_err hE), hR⟩
theorem door_bad (w : World) (tmps C : Array Value) (v : Value) (R : Ending → World → Prop) (b c er : Nat) (hB : Bx w b C 43) (hC : C.size = 6) (hE : Bx w c #[v] 31) (hne : b ≠ c)
    (h6 : tmps.getD 6 undef = .pointer (some ⟨b, 0, none⟩)) (h7 : tmps.getD 7 undef = .pointer (some ⟨c, 0, none⟩)) (hR : ∀ w', Two b c w w' → R (.returned (.tuple #[.agg Zc, .int .i64 er])) w') :
    bodyPostD Try.prog Try.f47 R (.panic [{ v := .iface 97 (.agg #[.int .i64 er]), recovered := false }]) { tmps := tmps, defers := [{ target := .fn (Fn.func 71) #[.pointer (some ⟨b, 0, none⟩), .pointer (some ⟨c, 0, none⟩)], args := #[] }] } w := by
  refine leaves_cons (f := 71) (args := #[.pointer (some ⟨b, 0, none⟩), .pointer (some ⟨c, 0, none⟩)]) (by simp) (by simp [go_sem]) ?_
  refine (catch_any b c er C v [] w hB hC hE hne).mono ?_
  rintro e u' w'' ⟨rfl, rfl, hB', hE', hT⟩
  exact ⟨_, results_two rfl _ _ _ h6 h7 (load_bx hB' Try.underlying43 rfl infoP) (load_err hE'), hR _ hT⟩

set_option maxHeartbeats 8000000 in
theorem whole_any (w : World) (rb : Nat) (bs : Bs) (hst : Rst w rb bs) (hlen : bs.length ≤ 1000000000) : 
    Calls Try.prog 47 #[.pointer (some ⟨rb, 0, none⟩), .func (Fn.func 48) #[.pointer (some ⟨rb, 0, none⟩)] #[], .func (Fn.func 39) #[] #[]] w fun e w' => WhR rb w bs e w' := by
  have hmf := hmf
  have hrb := hst.lt
  go_enter_defers Try.func47, Try.ntmps47
  go_wp2_with fail
  refine startZ2 (zs := Zc) (fun W0 hZ hY hG hsz => ?_)
  have HO0 := mkH (On.ofBelow (b := rb) hG.below)
  have hs0 := hst.below hG.below
  have hlo : W0.heap.size = w.heap.size + 2 := hsz
  clear hst hG hsz
  have HC := reply_any W0 rb bs hs0 hlen
  rw [hlo] at HC
  clear hs0 hlo
  have HB0 := mkH hZ
  have HY0 := mkH hY
  have HW : Hid (∀ e w', WhR rb w bs e w' → WhR rb w bs e w') := mkH (fun _ _ h => h)
  clear hZ hY
  refine HC.mono ?_
  rintro e W1 ⟨ho1, hc1⟩
  have HO1 := mkH (HO0.out.trans ho1)
  have HB1 := mkH (Wq.Bx.on HB0.out (by omega) ho1)
  have HY1 := mkH (Wq.Bx.on HY0.out (by omega) ho1)
  clear HC ho1 HO0 HB0 HY0
  rcases hc1 with ⟨c, r1, v, hp, rfl, hv, hs, hl1⟩ | ⟨er, hp, her, rfl⟩
  rotate_left
  · unfold stopE
    go_wp2_with fail
    have HE : readRp bs = .error er := by unfold readRp Wi.whole; rw [hp]
    exact door_bad W1 _ Zc _ _ _ _ er HB1.out rfl HY1.out (by omega) rfl rfl (fun w' hT => ⟨hT.on HO1.out (by omega) (by omega), .inr ⟨er, HE, her, rfl⟩⟩)
  obtain ⟨ga, gc, da, dc, ra, rc, rfl, hr, hlo1, hlo2, hlo3, hdl⟩ := hv
  have hlo : Far (w.heap.size + 2) ga da ra := ⟨hlo1, hlo2, hlo3⟩
  clear hlo1 hlo2 hlo3
  have h1 : (Pv c ga gc da dc ra rc).all (fun x => x.oneCell') = true := by exact Pv_one _ _ _ _ _ _ _
  have H1 := mkH h1
  clear h1
  go_wp2_with (refine wpList_st rfl rfl rfl rfl HB1.out (cs := Pv c ga gc da dc ra rc) infoP rfl H1.out ?_)
  have HB2 := mkH (HB1.out.row (cs := Pv c ga gc da dc ra rc) rfl)
  have HY2 := mkH (HY1.out.rowOther (g := w.heap.size) (by omega) (Pv c ga gc da dc ra rc))
  have HO2 := mkH (On.setRow HO1.out (Nat.le_refl _) (Pv c ga gc da dc ra rc))
  have HR2 := mkH (RpM.setRow hr (g := w.heap.size) (hlo.ne (by omega)) (Pv c ga gc da dc ra rc))
  have hs2 : Rst (W1.setRow w.heap.size (Pv c ga gc da dc ra rc)) rb r1 := by
    obtain ⟨ao', cap', k1, k2, k3, k4, k5⟩ := hs
    exact ⟨ao', cap', k1.rowOther (by omega) _, Wq.Row.on k2 (rb := w.heap.size) (fun h a ha => by have := k5 h a ha; omega) (onRow _ _ _), k3, k4, k5⟩
  have HHP := mkH hp
  have HLO := mkH hlo
  have HDL := mkH hdl
  clear HB1 HY1 HO1 hr hs hp hlo hdl
  generalize W1.setRow w.heap.size (Pv c ga gc da dc ra rc) = W2 at *
  have HEND := end_any W2 rb r1 hs2 hl1
  clear hs2 hl1
  refine HEND.mono ?_
  rintro e W3 ⟨rfl, h⟩
  rcases h with ⟨h0, rfl⟩ | ⟨h0, rfl⟩
  rotate_left
  · unfold stopE
    go_wp2_with fail
    have HE : readRp bs = .error 5 := by unfold readRp Wi.whole; rw [HHP.out]; simp [h0]
    exact door_bad W3 _ _ _ _ _ _ 5 HB2.out rfl HY2.out (by omega) rfl rfl (fun w' hT => ⟨hT.on HO2.out (by omega) (by omega), .inr ⟨5, HE, by omega, rfl⟩⟩)
  have HRD : Hid (readRp bs = if checkR c ≠ 0 then .error (checkR c) else .ok c) := mkH (by unfold readRp Wi.whole; rw [HHP.out]; simp [h0])
  clear HEND h0 HHP
  have HCK := checkReply_any W3 c ga gc da dc ra rc HR2.out HDL.out
  go_wp2_with (refine wpList_ld rfl rfl rfl (load_pv HB2.out) ?_)
  refine HCK.mono ?_
  rintro e W4 ⟨rfl, hG⟩
  have HB4 := mkH (HB2.out.gr hG)
  have HY4 := mkH (HY2.out.gr hG)
  have HO4 := mkH (HO2.out.trans (On.ofBelow hG.below))
  have HR4 := mkH (RpM.gr HR2.out hG)
  clear HCK hG HB2 HY2 HO2 HR2
  by_cases hck : checkR c = 0
  rotate_left
  · have HS := stopAt_bad W4 (checkR c) hck
    have HE : readRp bs = .error (checkR c) := by rw [HRD.out]; simp [hck]
    go_wp2_with fail
    refine HS.mono ?_
    rintro e W5 ⟨rfl, rfl⟩
    unfold stopE
    clear HS
    go_wp2_with fail
    exact door_bad W5 _ _ _ _ _ _ _ HB4.out rfl HY4.out (by omega) rfl rfl (fun w' hT => ⟨hT.on HO4.out (by omega) (by omega), .inr ⟨_, HE, hck, rfl⟩⟩)
  have HE : Hid (readRp bs = .ok c) := mkH (by rw [HRD.out]; simp [hck])
  have HS := stopAt_ok W4
  rw [hck]
  clear HRD hck
  go_wp2_with fail
  refine HS.mono ?_
  rintro e W5 ⟨rfl, rfl⟩
  clear HS
  have HB5 := mkH (HB4.out.row (cs := Pv c ga gc da dc ra rc) rfl)
  have hy5 := HY4.out.rowOther (g := w.heap.size) (by omega) (Pv c ga gc da dc ra rc)
  have HO5 := mkH (On.setRow HO4.out (Nat.le_refl _) (Pv c ga gc da dc ra rc))
  have HR5 := mkH (RpM.setRow HR4.out (g := w.heap.size) (HLO.out.ne (by omega)) (Pv c ga gc da dc ra rc))
  have hc5 : (W5.setRow w.heap.size (Pv c ga gc da dc ra rc)).cell? ⟨w.heap.size + 1, 0, none⟩ = some (.int .i64 0) := hy5.cell 0
  have hf5 := hy5.frozen 0
  have HY5 := mkH hy5
  clear hy5
  go_wp2_with (first
    | (refine wpList_ld rfl rfl rfl (load_pv HB4.out) ?_)
    | (refine wpList_st rfl rfl rfl rfl HB4.out (cs := Pv c ga gc da dc ra rc) infoP rfl H1.out ?_))
  generalize W5.setRow w.heap.size (Pv c ga gc da dc ra rc) = W6 at *
  have HY6 : Hid (Bx (W6.setCell ⟨w.heap.size + 1, 0, none⟩ (.int .i64 0)) (w.heap.size + 1) #[.int .i64 0] 31) := mkH (HY5.out.set 0 (.int .i64 0))
  refine door_ok _ _ _ _ _ _ _ (HB5.out.other (p := ⟨w.heap.size + 1, 0, none⟩) (by simp) _) rfl HY6.out rfl rfl ⟨On.setNew HO5.out (by simp) _, .inl ⟨c, ga, gc, da, dc, ra, rc, HE.out, rfl, RpM.setCell HR5.out (HLO.out.ne (by simp)) _, (HLO.out.down (by omega)).1, (HLO.out.down (by omega)).2, (HLO.out.down (by omega)).3, HDL.out⟩⟩
/-- What ReadCmd tells. -/
def RdR (w : World) (bs : Bs) (e : Ending) (w' : World) : Prop := Below w.heap.size w w' ∧
  ((∃ c ga gc da dc ra rc, readRp bs = .ok c ∧ e = .returned (.tuple #[.agg (Pv c ga gc da dc ra rc), .int .i64 0]) ∧ RpM w' c ga da ra ∧ (∀ a, ga = some a → w.heap.size ≤ a.block) ∧ (∀ a, da = some a → w.heap.size ≤ a.block) ∧ (∀ a, ra = some a → w.heap.size ≤ a.block) ∧ Cnt c)
   ∨ (∃ er : Nat, readRp bs = .error er ∧ er ≠ 0 ∧ e = .returned (.tuple #[.agg Zc, .int .i64 er])))
set_option maxHeartbeats 8000000 in
theorem readRpd_any (w : World) (ao : Option Addr) (cap : Nat) (bs : Bs) (hr : Row w ao bs) (hlen : bs.length ≤ 1000000000) (hcap : bs.length ≤ cap) (h63 : cap ≤ 9223372036854775807) :
    Calls Try.prog 20 #[.slice ao bs.length cap] w fun e w' => RdR w bs e w' := by
  have hmf := hmf
  have hlt := row_lt hr
  go_enter Try.func20, Try.ntmps20
  go_wp2_with fail
  refine startZ2 (zs := Zc) (fun W0 hZ hY hG hsz => ?_)
  have hst : Rst W0 (w.heap.size + 1) bs := ⟨ao, cap, hY, hr.below hG.below, hcap, h63, fun h a ha => by have := hlt h a ha; omega⟩
  have H := whole_any W0 (w.heap.size + 1) bs hst hlen
  have HZ := mkH hZ
  have HG := mkH hG
  clear hst hr hlt hY hZ hG
  refine H.mono ?_
  rintro e W1 ⟨ho1, hc1⟩
  have HB1 := mkH (Wq.Bx.on HZ.out (by omega) ho1)
  have HO1 := mkH (HG.out.below.trans (ho1.below (B := w.heap.size) (by omega) (by omega)))
  clear H HZ HG ho1
  rcases hc1 with ⟨c, ga, gc, da, dc, ra, rc, hp, rfl, hrt, hlo1, hlo2, hlo3, hdl⟩ | ⟨er, hp, her, rfl⟩
  · have H1 := mkH (Pv_one c ga gc da dc ra rc)
    have HP := mkH hp
    have hlo : Far W0.heap.size ga da ra := ⟨hlo1, hlo2, hlo3⟩
    clear hlo1 hlo2 hlo3
    have HRT := mkH (RpM.setRow hrt (g := w.heap.size) (hlo.ne (by omega)) (Pv c ga gc da dc ra rc))
    have HL := mkH hlo
    have HD := mkH hdl
    clear hp hrt hlo hdl
    go_wp2_with (refine wpList_st rfl rfl rfl rfl HB1.out (cs := Pv c ga gc da dc ra rc) infoP rfl H1.out ?_)
    refine bodyPost_ret (results_ct rfl _ _ _ rfl rfl (load_pv (HB1.out.row rfl))) rfl ⟨below_setRow HO1.out (Nat.le_refl _) _, .inl ⟨c, ga, gc, da, dc, ra, rc, HP.out, rfl, HRT.out, (HL.out.down (by omega)).1, (HL.out.down (by omega)).2, (HL.out.down (by omega)).3, HD.out⟩⟩
  · have HP := mkH hp
    clear hp
    go_wp2_with (refine wpList_st rfl rfl rfl rfl HB1.out (cs := Zc) infoZ rfl Zc_one ?_)
    refine bodyPost_ret (results_ct rfl _ _ _ rfl rfl (load_bx (HB1.out.row rfl) Try.underlying43 rfl infoZ)) rfl ⟨below_setRow HO1.out (Nat.le_refl _) _, .inr ⟨er, HP.out, her, rfl⟩⟩
end Go.Proofs.Ytjboldahmndkeaa.Wu2
