/-
  WiU WiU2 WiU3 ShA, joined by mrg.py.
-/
import Derived.Test.YtgbbajeeelgbhaaGreatDoorSqAZ
import Derived.Defers
import Derived.Recover
import Derived.Test.YtgbbajeeelgbhaaGreatDoorSqAT
import Derived.Test.YtgbbajeeelgbhaaGreatDoorSqAY

namespace Go.Proofs.YtgbbajeeelgbhaaGreatDoor.Wu
open Go.RowKit Kt Pl Wi Wk Wf Wfw Wq Wy Wx
open At (RowT)
set_option linter.unusedVariables false
set_option linter.unusedSimpArgs false
set_option maxRecDepth 20000

theorem op_both {P : Program} {ops : Array Oper} {Q : Exit → Act → World → Prop} {i : Nat} {o : Oper} {a : Act} {w w' : World} {K : Act → World → Prop} (ho : ops[i]? = some o) (hg : o.guard = none) (hrun : (execOp a.eval o).run P w = .ok .skip w' ∨ (execOp a.eval o).run P w = .ok (.value undef) w') (hK : K (a.put o.dst undef) w') : wpOp P ops Q i K a w := by
  rcases hrun with h | h
  · exact op_skip ho hg h hK
  · exact op_value ho hg h hK

theorem startZ {P : Program} {id : Nat} {ops : Array Oper} {b : Bool} {Q : Exit → Act → World → Prop} {a : Act} {w : World} {zs : Array Value} {u : TypeId}
    (h : ∀ W0, Bx W0 w.heap.size zs u → Gr w W0 → (Code.region id ops b).wp P Q a W0) : (Code.region id ops b).wp P Q a (w.alloc (.cells zs u)) :=
  h _ (Bx.new w zs u) ((Gr.refl w).alloc _)

/-- The deferred closure, where nothing panics. -/
theorem idle_any (p q : Addr) (w : World) : CallsD Tryz.prog 209 #[.pointer (some p), .pointer (some q)] .returning w fun e u' w' => e = .returned (.tuple #[]) ∧ u' = .returning ∧ w' = w := by
  refine callsD_of_wpS Tryz.func209 rfl fun c₀ cs hu => ?_
  apply wpS_seq
  apply wpS_region
  simp [wpOpsS, go_sem, recoverD, hu, Tryz.ntmps209, Exit.thenS]
  refine wpS_of_wp ?_
  simp only [Array.replicate_succ, Array.replicate_zero, List.push_toArray, List.append_toArray, List.nil_append, List.cons_append, List.setIfInBounds_toArray, List.set_cons_zero, List.set_cons_succ]
  go_wp2
  cases c₀
  simp_all [bodyPostS, results, Tryz.results209]

/-- All old blocks but two stay. -/
structure Two (b c : Nat) (w w' : World) : Prop where
  os : w'.os = w.os
  tape : w'.tape = w.tape
  output : w'.output = w.output
  size : w.heap.size ≤ w'.heap.size
  block : ∀ k, k < w.heap.size → k ≠ b → k ≠ c → w'.heap[k]? = w.heap[k]?

def Zc : Array Value := Cv Cm.none (.slice none 0 0)

theorem infoZ : (Tryz.prog.info? 39).map (·.size) = some Zc.size := by kernel_rfl

theorem Zc_one : Zc.all (fun x => x.oneCell') = true := by unfold Zc Cv; rw [List.all_toArray]; rfl

set_option maxHeartbeats 4000000 in
/-- The deferred closure, where a reader has stopped: the results are laid. -/
theorem catch_any (bp bq er : Nat) (C : Array Value) (old : Value) (older : List PanicEntry) (w : World) (hp : Bx w bp C 39) (hC : C.size = 19) (hq : Bx w bq #[old] 25) (hne : bp ≠ bq) :
    CallsD Tryz.prog 209 #[.pointer (some ⟨bp, 0, none⟩), .pointer (some ⟨bq, 0, none⟩)] (.panicking ({ v := .iface 298 (.agg #[.int .i64 er]), recovered := false } :: older)) w fun e u' w' =>
      e = .returned (.tuple #[]) ∧ u' = .panicking ({ v := .iface 298 (.agg #[.int .i64 er]), recovered := true } :: older) ∧ Bx w' bp Zc 39 ∧ Bx w' bq #[.int .i64 er] 25 ∧ Two bp bq w w' := by
  refine callsD_of_wpS Tryz.func209 rfl fun c₀ cs hu => ?_
  apply wpS_seq
  apply wpS_region
  simp [wpOpsS, go_sem, recoverD, hu, Tryz.ntmps209, Exit.thenS]
  refine wpS_of_wp ?_
  simp only [Array.replicate_succ, Array.replicate_zero, List.push_toArray, List.append_toArray, List.nil_append, List.cons_append, List.setIfInBounds_toArray, List.set_cons_zero, List.set_cons_succ]
  have HI : Hid ((Tryz.prog.info? 39).map (·.size) = some Zc.size) := mkH infoZ
  have hta : ∀ W : World, (Instr.typeAssert (.iface 298 (.agg #[.int .i64 er])) 20 298 false).run Tryz.prog W = .ok (.agg #[.int .i64 er]) W := fun _ => by kernel_rfl
  have hfi : ∀ W : World, (Instr.field 298 (.agg #[.int .i64 er]) 0).run Tryz.prog W = .ok (.int .i64 er) W := fun _ => by kernel_rfl
  have hlp := hp.lt
  have hlq := hq.lt
  have HP0 := mkH hp
  have HQ0 := mkH hq
  have HU := mkH hu
  clear hp hq hu
  go_wp2_with fail
  refine startZ (zs := Zc) (fun W0 hBz hG => ?_)
  have hp1 := HP0.out.gr (hG.trans ((Gr.refl W0).drew))
  have hq1 := HQ0.out.gr (hG.trans ((Gr.refl W0).drew))
  have HW := mkH (hG.trans ((Gr.refl W0).drew))
  have HBz := mkH hBz
  generalize hb3 : w.heap.size = b3 at hBz HBz ⊢
  refine wp_region_held_drew (S := fun W => Bx W b3 Zc 39) (by kernel_rfl) (hBz.gr ((Gr.refl W0).drew)) (fun hHeld => ?_)
  clear hG hBz
  refine wpAnyH_take (i := 1) (oi := { dst := some 8, op := _, type := _, pos := _, after := _, guard := _ }) (v := ?_) rfl (by kernel_rfl) (by kernel_rfl) (by kernel_rfl) (fun _ _ _ h => h) (Or.inl ⟨by rfl, ?_⟩) (by assumption) ?_
  rotate_left
  · (intro W hSw; (try dsimp only at hSw); go_simp; try (with_reducible rfl))
  try simp only [Act.put, List.setIfInBounds_toArray, List.set_cons_zero, List.set_cons_succ]
  refine wpAnyH_take (i := 2) (oi := { dst := some 9, op := _, type := _, pos := _, after := _, guard := _ }) (v := ?_) rfl (by kernel_rfl) (by kernel_rfl) (by kernel_rfl) (fun _ _ _ h => h) (Or.inl ⟨by rfl, ?_⟩) (by assumption) ?_
  rotate_left
  · (intro W hSw; (try dsimp only at hSw); go_simp; try (with_reducible rfl))
  try simp only [Act.put, List.setIfInBounds_toArray, List.set_cons_zero, List.set_cons_succ]
  refine wpAnyH_take (i := 3) (oi := { dst := some 10, op := _, type := _, pos := _, after := _, guard := _ }) (v := ?_) rfl (by kernel_rfl) (by kernel_rfl) (by kernel_rfl) (fun _ _ _ h => h) (Or.inl ⟨by rfl, ?_⟩) (by assumption) ?_
  rotate_left
  · (intro W hSw; (try dsimp only at hSw); go_simp; try (with_reducible rfl))
  try simp only [Act.put, List.setIfInBounds_toArray, List.set_cons_zero, List.set_cons_succ]
  refine wpAnyH_take (i := 0) (oi := { dst := some 7, op := _, type := _, pos := _, after := _, guard := _ }) (v := .agg Zc) rfl (by kernel_rfl) (by kernel_rfl) (by kernel_rfl) (fun _ _ _ h => h) (Or.inl ⟨by rfl, ?_⟩) (by assumption) ?_
  · (intro W hSw; exact run_ld rfl rfl (load_bx (P := Tryz.prog) hSw Tryz.underlying39 rfl HI.out))
  try simp only [Act.put, List.setIfInBounds_toArray, List.set_cons_zero, List.set_cons_succ]
  have hb3p : bp ≠ b3 := by omega
  have hb3q : bq ≠ b3 := by omega
  have hst := run_st (P := Tryz.prog) (w := W0.drew) (o := { dst := none, op := .store 39 (.tmp 0) (.tmp 7), type := 0, pos := "", after := #[], guard := none }) (a := { tmps := #[.pointer (some ⟨bp, 0, none⟩), undef, undef, undef, undef, undef, undef, .agg Zc], defers := [] }) rfl rfl rfl hp1 HI.out (hC.trans rfl) Zc_one
  have hp2 := Wk.Bx.row hp1 (cs := Zc) (hC.trans rfl)
  have hq2 := Wk.Bx.rowOther hq1 hne Zc
  have hz2 := Wk.Bx.rowOther hHeld hb3p Zc
  refine wpAnyH_one (i := 4) (by kernel_rfl) (op_both rfl rfl (w' := W0.drew.setRow bp Zc) (run_st (P := Tryz.prog) rfl rfl rfl hp1 HI.out (hC.trans rfl) Zc_one) ⟨hz2, ?_⟩)
  simp only [Act.put]
  have hc2 : (W0.drew.setRow bp Zc).cell? ⟨bq, 0, none⟩ = some old := hq2.cell 0
  have hf2 := hq2.frozen 0
  refine wpAnyH_one (i := 5) (by kernel_rfl) (op_skip rfl rfl (w' := (W0.drew.setRow bp Zc).setCell ⟨bq, 0, none⟩ (.int .i64 er)) ?_ ⟨hz2.other (by simpa using hb3q) _, ?_⟩)
  · clear hst hp2 hq2 hz2 hHeld hp1 hq1 hta hfi
    go_simp
  simp only [Act.put]
  refine wpAnyH_done (by kernel_rfl) ?_ _
  have HX := mkH (hp2.other (p := ⟨bq, 0, none⟩) (fun e => hne e.symm) (.int .i64 er))
  have HY : Hid (Bx ((W0.drew.setRow bp Zc).setCell ⟨bq, 0, none⟩ (.int .i64 er)) bq #[.int .i64 er] 25) := mkH (hq2.set 0 (.int .i64 er))
  have HT : Hid (Two bp bq w ((W0.drew.setRow bp Zc).setCell ⟨bq, 0, none⟩ (.int .i64 er))) := mkH ⟨HW.out.below.os, HW.out.below.tape, HW.out.below.output, by simpa using HW.out.below.size, fun k hk h1 h2 => by rw [heap_setCell_other _ _ _ _ h2, setRow_other _ _ _ _ h1]; exact HW.out.below.block k hk⟩
  clear hst hp2 hq2 hz2 hHeld hp1 hq1 hta hfi hc2 hf2
  go_wp2
  refine ⟨rfl, _, rfl, .tuple #[], ?_, rfl, rfl, HX.out, HY.out, HT.out⟩
  simp [results, Tryz.results209]
end Go.Proofs.YtgbbajeeelgbhaaGreatDoor.Wu

namespace Go.Proofs.YtgbbajeeelgbhaaGreatDoor.Wu
open Go.RowKit Kt Pl Wi Wk Wf Wfw Wq Wy Wx
open At (RowT)
set_option linter.unusedVariables false
set_option linter.unusedSimpArgs false
set_option maxRecDepth 20000

theorem hmf : ∀ (fn : Fn) (first cap : Array Value) (w : World), (Instr.makeFunc fn first cap).run Tryz.prog w = .ok (.func fn first cap) w := fun _ _ _ _ => rfl

theorem startZ2 {f : FuncId} {args : Array Value} {R : Ending → World → Prop} {w : World} {zs ys : Array Value} {u v : TypeId}
    (h : ∀ W0, Bx W0 w.heap.size zs u → Bx W0 (w.heap.size + 1) ys v → Gr w W0 → W0.heap.size = w.heap.size + 2 → Calls Tryz.prog f args W0 R) : Calls Tryz.prog f args ((w.alloc (.cells zs u)).alloc (.cells ys v)) R :=
  h _ ((Bx.new w zs u).alloc _) (by have := Bx.new (w.alloc (.cells zs u)) ys v; simpa using this) (((Gr.refl w).alloc _).alloc _) (by simp)

/-- What the reading of a whole command tells. -/
def WhC (rb : Nat) (w : World) (bs : Bs) (e : Ending) (w' : World) : Prop := On rb w w' ∧
  ((∃ c ao cap, readCm bs = .ok c ∧ e = .returned (.tuple #[.agg (Cv c (.slice ao c.data.length cap)), .int .i64 0]) ∧ RowT w' ao c.data ∧ (∀ a, ao = some a → w.heap.size ≤ a.block) ∧ c.data.length ≤ 1024)
   ∨ (∃ er : Nat, readCm bs = .error er ∧ er ≠ 0 ∧ e = .returned (.tuple #[.agg Zc, .int .i64 er])))

theorem Two.on {b c rb : Nat} {w w1 w' : World} (h : Two b c w1 w') (k : On rb w w1) (hb : w.heap.size ≤ b) (hc : w.heap.size ≤ c) : On rb w w' :=
  ⟨h.os.trans k.os, h.tape.trans k.tape, h.output.trans k.output, Nat.le_trans k.size h.size, fun i hi hne => (h.block i (Nat.lt_of_lt_of_le hi k.size) (by omega) (by omega)).trans (k.block i hi hne)⟩

theorem On.setRow {b g : Nat} {w w' : World} (h : On b w w') (hg : w.heap.size ≤ g) (cs : Array Value) : On b w (w'.setRow g cs) :=
  ⟨h.os, h.tape, h.output, by simpa using h.size, fun i hi hne => by rw [setRow_other _ _ _ _ (by omega)]; exact h.block i hi hne⟩

theorem On.setNew {b : Nat} {w w' : World} (h : On b w w') {p : Addr} (hg : w.heap.size ≤ p.block) (v : Value) : On b w (w'.setCell p v) :=
  ⟨h.os, h.tape, h.output, by simpa using h.size, fun i hi hne => by rw [heap_setCell_other _ _ _ _ (by omega)]; exact h.block i hi hne⟩

theorem onRow (w : World) (g : Nat) (cs : Array Value) : On g w (w.setRow g cs) :=
  ⟨rfl, rfl, rfl, by simp, fun i hi hne => setRow_other _ _ _ _ (fun e => hne (by rw [e]))⟩

theorem load_err {w : World} {b : Nat} {v : Value} (h : Bx w b #[v] 25) : (loadVar 25 ⟨b, 0, none⟩).run Tryz.prog w = .ok v w := by
  have hc : w.cell? ⟨b, 0, none⟩ = some v := h.cell 0
  go_simp

theorem results_two {fn : Func} {p q : Tmp} {t u : TypeId} (h : fn.results = #[.cell p t, .cell q u]) (tmps : Array Value) (P : Program) (w : World) {b c : Addr} {x y : Value}
    (hp : tmps.getD p undef = .pointer (some b)) (hq : tmps.getD q undef = .pointer (some c)) (hx : (loadVar t b).run P w = .ok x w) (hy : (loadVar u c).run P w = .ok y w) :
    (results fn tmps).run P w = .ok (.tuple #[x, y]) w := by
  have hp' : tmps[p]?.getD undef = .pointer (some b) := by simpa using hp
  have hq' : tmps[q]?.getD undef = .pointer (some c) := by simpa using hq
  simp only [results, h]
  simp [Sem.run_bind, Result.andThen, hp', hq', asAddr, hx, hy]

theorem door_ok (w : World) (tmps C : Array Value) (v : Value) (R : Ending → World → Prop) (b c : Nat) (hB : Bx w b C 39) (hC : C.size = 19) (hE : Bx w c #[v] 25)
    (h6 : tmps.getD 6 undef = .pointer (some ⟨b, 0, none⟩)) (h7 : tmps.getD 7 undef = .pointer (some ⟨c, 0, none⟩)) (hR : R (.returned (.tuple #[.agg C, v])) w) :
    bodyPostD Tryz.prog Tryz.f150 R .ret { tmps := tmps, defers := [{ target := .fn (Fn.func 209) #[.pointer (some ⟨b, 0, none⟩), .pointer (some ⟨c, 0, none⟩)], args := #[] }] } w := by
  refine leaves_cons (f := 209) (args := #[.pointer (some ⟨b, 0, none⟩), .pointer (some ⟨c, 0, none⟩)]) (by simp) (by simp [go_sem]) ?_
  refine (idle_any _ _ w).mono ?_
  rintro e u' w'' ⟨rfl, rfl, rfl⟩
  exact ⟨_, results_two rfl _ _ _ h6 h7 (load_bx hB Tryz.underlying39 rfl (hC ▸ infoC)) (load_err hE), hR⟩

theorem door_bad (w : World) (tmps C : Array Value) (v : Value) (R : Ending → World → Prop) (b c er : Nat) (hB : Bx w b C 39) (hC : C.size = 19) (hE : Bx w c #[v] 25) (hne : b ≠ c)
    (h6 : tmps.getD 6 undef = .pointer (some ⟨b, 0, none⟩)) (h7 : tmps.getD 7 undef = .pointer (some ⟨c, 0, none⟩)) (hR : ∀ w', Two b c w w' → R (.returned (.tuple #[.agg Zc, .int .i64 er])) w') :
    bodyPostD Tryz.prog Tryz.f150 R (.panic [{ v := .iface 298 (.agg #[.int .i64 er]), recovered := false }]) { tmps := tmps, defers := [{ target := .fn (Fn.func 209) #[.pointer (some ⟨b, 0, none⟩), .pointer (some ⟨c, 0, none⟩)], args := #[] }] } w := by
  refine leaves_cons (f := 209) (args := #[.pointer (some ⟨b, 0, none⟩), .pointer (some ⟨c, 0, none⟩)]) (by simp) (by simp [go_sem]) ?_
  refine (catch_any b c er C v [] w hB hC hE hne).mono ?_
  rintro e u' w'' ⟨rfl, rfl, hB', hE', hT⟩
  exact ⟨_, results_two rfl _ _ _ h6 h7 (load_bx hB' Tryz.underlying39 rfl infoC) (load_err hE'), hR _ hT⟩

set_option maxHeartbeats 8000000 in
theorem whole_any (w : World) (rb : Nat) (bs : Bs) (hst : Rst w rb bs) (hlen : bs.length ≤ 1000000000) : 
    Calls Tryz.prog 150 #[.pointer (some ⟨rb, 0, none⟩), .func (Fn.func 151) #[.pointer (some ⟨rb, 0, none⟩)] #[], .func (Fn.func 152) #[] #[]] w fun e w' => WhC rb w bs e w' := by
  have hmf := hmf
  have hrb := hst.lt
  go_enter_defers Tryz.func150, Tryz.ntmps150
  go_wp2_with fail
  refine startZ2 (zs := Zc) (fun W0 hZ hY hG hsz => ?_)
  have HO0 := mkH (On.ofBelow (b := rb) hG.below)
  have hs0 := hst.below hG.below
  have hlo : W0.heap.size = w.heap.size + 2 := hsz
  clear hst hG hsz
  have HC := cmd_any W0 rb bs hs0 hlen
  rw [hlo] at HC
  clear hs0 hlo
  have HB0 := mkH hZ
  have HY0 := mkH hY
  have HW : Hid (∀ e w', WhC rb w bs e w' → WhC rb w bs e w') := mkH (fun _ _ h => h)
  clear hZ hY
  refine HC.mono ?_
  rintro e W1 ⟨ho1, hc1⟩
  have HO1 := mkH (HO0.out.trans ho1)
  have HB1 := mkH (Wq.Bx.on HB0.out (by omega) ho1)
  have HY1 := mkH (Wq.Bx.on HY0.out (by omega) ho1)
  clear HC ho1 HO0 HB0 HY0
  rcases hc1 with ⟨c, r1, v, hp, rfl, hv, hs, hl1⟩ | ⟨er, hp, her, rfl⟩
  rotate_left
  · unfold stopE
    go_wp2_with fail
    have HE : readCm bs = .error er := by unfold readCm Wi.whole; rw [hp]
    exact door_bad W1 _ Zc _ _ _ _ er HB1.out rfl HY1.out (by omega) rfl rfl (fun w' hT => ⟨hT.on HO1.out (by omega) (by omega), .inr ⟨er, HE, her, rfl⟩⟩)
  obtain ⟨ao, cap, rfl, hr, hlo, hdl⟩ := hv
  have h1 : (Cv c (.slice ao c.data.length cap)).all (fun x => x.oneCell') = true := by unfold Cv; rw [List.all_toArray]; rfl
  have H1 := mkH h1
  clear h1
  go_wp2_with (refine wpList_st rfl rfl rfl rfl HB1.out (cs := Cv c (.slice ao c.data.length cap)) infoC rfl H1.out ?_)
  have HB2 := mkH (HB1.out.row (cs := Cv c (.slice ao c.data.length cap)) rfl)
  have HY2 := mkH (HY1.out.rowOther (g := w.heap.size) (by omega) (Cv c (.slice ao c.data.length cap)))
  have HO2 := mkH (On.setRow HO1.out (Nat.le_refl _) (Cv c (.slice ao c.data.length cap)))
  have HR2 := mkH (Wk.RowT.setRow hr (g := w.heap.size) (fun a ha => by have := hlo a ha; omega) (Cv c (.slice ao c.data.length cap)))
  have hs2 : Rst (W1.setRow w.heap.size (Cv c (.slice ao c.data.length cap))) rb r1 := by
    obtain ⟨ao', cap', k1, k2, k3, k4, k5⟩ := hs
    exact ⟨ao', cap', k1.rowOther (by omega) _, Wq.Row.on k2 (rb := w.heap.size) (fun h a ha => by have := k5 h a ha; omega) (onRow _ _ _), k3, k4, k5⟩
  have HHP := mkH hp
  have HLO := mkH hlo
  have HDL := mkH hdl
  clear HB1 HY1 HO1 hr hs hp hlo hdl
  generalize W1.setRow w.heap.size (Cv c (.slice ao c.data.length cap)) = W2 at *
  have HEND := end_any W2 rb r1 hs2 hl1
  clear hs2 hl1
  refine HEND.mono ?_
  rintro e W3 ⟨rfl, h⟩
  rcases h with ⟨h0, rfl⟩ | ⟨h0, rfl⟩
  rotate_left
  · unfold stopE
    go_wp2_with fail
    have HE : readCm bs = .error 5 := by unfold readCm Wi.whole; rw [HHP.out]; simp [h0]
    exact door_bad W3 _ _ _ _ _ _ 5 HB2.out rfl HY2.out (by omega) rfl rfl (fun w' hT => ⟨hT.on HO2.out (by omega) (by omega), .inr ⟨5, HE, by omega, rfl⟩⟩)
  have HRD : Hid (readCm bs = if checkC c ≠ 0 then .error (checkC c) else .ok c) := mkH (by unfold readCm Wi.whole; rw [HHP.out]; simp [h0])
  clear HEND h0 HHP
  have HCK := check_any W3 c ao cap HR2.out (by have := HDL.out; omega)
  go_wp2_with (refine wpList_ld rfl rfl rfl (load_cm HB2.out) ?_)
  refine HCK.mono ?_
  rintro e W4 ⟨rfl, hG⟩
  have HB4 := mkH (HB2.out.gr hG)
  have HY4 := mkH (HY2.out.gr hG)
  have HO4 := mkH (HO2.out.trans (On.ofBelow hG.below))
  have HR4 := mkH (RowT.gr HR2.out hG)
  clear HCK hG HB2 HY2 HO2 HR2
  by_cases hck : checkC c = 0
  rotate_left
  · have HS := stopAt_bad W4 (checkC c) hck
    have HE : readCm bs = .error (checkC c) := by rw [HRD.out]; simp [hck]
    go_wp2_with fail
    refine HS.mono ?_
    rintro e W5 ⟨rfl, rfl⟩
    unfold stopE
    clear HS
    go_wp2_with fail
    exact door_bad W5 _ _ _ _ _ _ _ HB4.out rfl HY4.out (by omega) rfl rfl (fun w' hT => ⟨hT.on HO4.out (by omega) (by omega), .inr ⟨_, HE, hck, rfl⟩⟩)
  have HE : Hid (readCm bs = .ok c) := mkH (by rw [HRD.out]; simp [hck])
  have HS := stopAt_ok W4
  rw [hck]
  clear HRD hck
  go_wp2_with fail
  refine HS.mono ?_
  rintro e W5 ⟨rfl, rfl⟩
  clear HS
  have HB5 := mkH (HB4.out.row (cs := Cv c (.slice ao c.data.length cap)) rfl)
  have hy5 := HY4.out.rowOther (g := w.heap.size) (by omega) (Cv c (.slice ao c.data.length cap))
  have HO5 := mkH (On.setRow HO4.out (Nat.le_refl _) (Cv c (.slice ao c.data.length cap)))
  have HR5 := mkH (Wk.RowT.setRow HR4.out (g := w.heap.size) (fun a ha => by have := HLO.out a ha; omega) (Cv c (.slice ao c.data.length cap)))
  have hc5 : (W5.setRow w.heap.size (Cv c (.slice ao c.data.length cap))).cell? ⟨w.heap.size + 1, 0, none⟩ = some (.int .i64 0) := hy5.cell 0
  have hf5 := hy5.frozen 0
  have HY5 := mkH hy5
  clear hy5
  go_wp2_with (first
    | (refine wpList_ld rfl rfl rfl (load_cm HB4.out) ?_)
    | (refine wpList_st rfl rfl rfl rfl HB4.out (cs := Cv c (.slice ao c.data.length cap)) infoC rfl H1.out ?_))
  generalize W5.setRow w.heap.size (Cv c (.slice ao c.data.length cap)) = W6 at *
  have HY6 : Hid (Bx (W6.setCell ⟨w.heap.size + 1, 0, none⟩ (.int .i64 0)) (w.heap.size + 1) #[.int .i64 0] 25) := mkH (HY5.out.set 0 (.int .i64 0))
  refine door_ok _ _ _ _ _ _ _ (HB5.out.other (p := ⟨w.heap.size + 1, 0, none⟩) (by simp) _) rfl HY6.out rfl rfl ⟨On.setNew HO5.out (by simp) _, .inl ⟨c, ao, cap, HE.out, rfl, Wk.RowT.setCell HR5.out (fun a ha => by have := HLO.out a ha; simp; omega) _, fun a ha => by have := HLO.out a ha; omega, HDL.out⟩⟩
end Go.Proofs.YtgbbajeeelgbhaaGreatDoor.Wu

namespace Go.Proofs.YtgbbajeeelgbhaaGreatDoor.Wu
open Go.RowKit Kt Pl Wi Wk Wf Wfw Wq Wy Wx
open At (RowT)
set_option linter.unusedVariables false
set_option linter.unusedSimpArgs false
set_option maxRecDepth 20000

/-- What ReadCmd tells. -/
def RdC (w : World) (bs : Bs) (e : Ending) (w' : World) : Prop := Below w.heap.size w w' ∧
  ((∃ c ao cap, readCm bs = .ok c ∧ e = .returned (.tuple #[.agg (Cv c (.slice ao c.data.length cap)), .int .i64 0]) ∧ RowT w' ao c.data ∧ (∀ a, ao = some a → w.heap.size ≤ a.block) ∧ c.data.length ≤ 1024)
   ∨ (∃ er : Nat, readCm bs = .error er ∧ er ≠ 0 ∧ e = .returned (.tuple #[.agg Zc, .int .i64 er])))

theorem results_ct {fn : Func} {p q : Tmp} {t : TypeId} (h : fn.results = #[.cell p t, .tmp q]) (tmps : Array Value) (P : Program) (w : World) {b : Addr} {x y : Value}
    (hp : tmps.getD p undef = .pointer (some b)) (hq : tmps.getD q undef = y) (hx : (loadVar t b).run P w = .ok x w) :
    (results fn tmps).run P w = .ok (.tuple #[x, y]) w := by
  have hp' : tmps[p]?.getD undef = .pointer (some b) := by simpa using hp
  have hq' : tmps[q]?.getD undef = y := by simpa using hq
  simp only [results, h]
  simp [Sem.run_bind, Result.andThen, hp', hq', asAddr, hx]

theorem row_lt {w : World} {ao : Option Addr} {bs : Bs} (h : Row w ao bs) : 0 < bs.length → ∀ a, ao = some a → a.block < w.heap.size := by
  intro hl a ha
  obtain ⟨b, off, rfl, hc⟩ := h hl
  have := World.block_lt_of_cell? w _ (hc 0 hl)
  simp at ha; subst ha; exact this

set_option maxHeartbeats 8000000 in
theorem readCmd_any (w : World) (ao : Option Addr) (cap : Nat) (bs : Bs) (hr : Row w ao bs) (hlen : bs.length ≤ 1000000000) (hcap : bs.length ≤ cap) (h63 : cap ≤ 9223372036854775807) :
    Calls Tryz.prog 99 #[.slice ao bs.length cap] w fun e w' => RdC w bs e w' := by
  have hmf := hmf
  have hlt := row_lt hr
  go_enter Tryz.func99, Tryz.ntmps99
  go_wp2_with fail
  refine startZ2 (zs := Zc) (fun W0 hZ hY hG hsz => ?_)
  have hst : Rst W0 (w.heap.size + 1) bs := ⟨ao, cap, hY, hr.below hG.below, hcap, h63, fun h a ha => by have := hlt h a ha; omega⟩
  have H := whole_any W0 (w.heap.size + 1) bs hst hlen
  have HZ := mkH hZ
  have HG := mkH hG
  clear hst hr hlt hY hZ hG
  refine H.mono ?_
  rintro e W1 ⟨ho1, hc1⟩
  have HB1 := mkH (Wq.Bx.on HZ.out (by omega) ho1)
  have HO1 := mkH (HG.out.below.trans (ho1.below (B := w.heap.size) (by omega) (by omega)))
  clear H HZ HG ho1
  rcases hc1 with ⟨c, ao', cap', hp, rfl, hrt, hlo, hdl⟩ | ⟨er, hp, her, rfl⟩
  · have H1 := mkH (Cv_one c ao' c.data.length cap')
    have HP := mkH hp
    have HRT := mkH (Wk.RowT.setRow hrt (g := w.heap.size) (fun a ha => by have := hlo a ha; omega) (Cv c (.slice ao' c.data.length cap')))
    have HL := mkH hlo
    have HD := mkH hdl
    clear hp hrt hlo hdl
    go_wp2_with (refine wpList_st rfl rfl rfl rfl HB1.out (cs := Cv c (.slice ao' c.data.length cap')) infoC rfl H1.out ?_)
    refine bodyPost_ret (results_ct rfl _ _ _ rfl rfl (load_cm (HB1.out.row rfl))) rfl ⟨below_setRow HO1.out (Nat.le_refl _) _, .inl ⟨c, ao', cap', HP.out, rfl, HRT.out, fun a ha => by have := HL.out a ha; omega, HD.out⟩⟩
  · have HP := mkH hp
    clear hp
    go_wp2_with (refine wpList_st rfl rfl rfl rfl HB1.out (cs := Zc) infoZ rfl Zc_one ?_)
    refine bodyPost_ret (results_ct rfl _ _ _ rfl rfl (load_bx (HB1.out.row rfl) Tryz.underlying39 rfl infoZ)) rfl ⟨below_setRow HO1.out (Nat.le_refl _) _, .inr ⟨er, HP.out, her, rfl⟩⟩
end Go.Proofs.YtgbbajeeelgbhaaGreatDoor.Wu

namespace Go.Proofs.YtgbbajeeelgbhaaGreatDoor.Ha
open Go.RowKit Kt Gf Gk Gp Qm Qa Qb Qc Qd Qe Qf Qg
open Gr (RowS Fl Gl Go' gC)
open Pl (Rg may join)
open Pr (Rw Ow)
open Wi (Rp Cm)
open Wk (Cv)
open Wa (Pv RpM)
set_option linter.unusedVariables false
set_option linter.unusedSectionVars false
set_option linter.unusedSimpArgs false
set_option maxRecDepth 20000

theorem fr_dk {Q : Nat → Prop} {w w' : World} (h : Fr Q w w') : Dk.Fr Q w w' := ⟨h.os, h.tape, h.output, h.size, h.block⟩
theorem fr_gf {Q : Nat → Prop} {w w' : World} (h : Dk.Fr Q w w') : Fr Q w w' := ⟨h.os, h.tape, h.output, h.size, h.block⟩
theorem Ty.nobj {w : World} {t : TypeId} {ao : Option Addr} {b : Nat} {es : Array MapEntry} {c : Nat} (h : Ty w t ao) (hm : w.heap[b]? = some (.map es c)) : ∀ a, ao = some a → ¬ a.block = b := fun a e hb => by
  obtain ⟨cs, fl, h1⟩ := h a e
  rw [← hb, h1] at hm
  cases hm
section
variable {w w' : World} {Xb Mb : Nat} {cf : List Cf} {sv : List Rg} {xs : List X} {qa : Option Addr} {qc : Nat} {sa : Option Addr} {sc : Nat}
/-- An engine stays where another map turns. -/
theorem ex_map (h : Ex w Xb Mb cf sv xs qa qc sa sc) {b : Nat} {es : Array MapEntry} {c : Nat} (hm : w.heap[b]? = some (.map es c)) (hf : Fr (fun k => k = b) w w') (hne : Mb ≠ b) : Ex w' Xb Mb cf sv xs qa qc sa sc := by
  refine h.frQ hf (fun e => ?_) hne (Ty.nobj h.tq hm) (Ty.nobj h.ts hm) (fun x hx => ⟨Ty.nobj (h.g x hx).1.tk hm, Ty.nobj (h.g x hx).1.tm hm⟩)
  have h9 := h.bx
  unfold Bx at h9
  rw [e, hm] at h9
  cases h9

/-- Block Sb is a shard. -/
structure Hs (w : World) (Sb Xb Mb T Tm : Nat) (F : Nat → Prop) (cf : List Cf) (sv : List Rg) (xs : List X) (qa : Option Addr) (qc : Nat) (sa : Option Addr) (sc : Nat) (l : List Sa.E) (now slots : Int) : Prop where
  bx : Bx w Sb #[.pointer (some ⟨Xb, 0, none⟩), .pointer (some ⟨T, 0, none⟩), .int .i64 now, .int .i64 slots] 69
  ex : Ex w Xb Mb cf sv xs qa qc sa sc
  tb : Sa.Tb w F T Tm l
  n1 : ¬ F Mb
  n2 : ¬ F Sb
  fb : ∀ k, F k → k < w.heap.size
end
section
variable {w w' : World} {Sb Xb Mb T Tm : Nat} {F : Nat → Prop} {cf : List Cf} {sv : List Rg} {xs : List X} {qa : Option Addr} {qc : Nat} {sa : Option Addr} {sc : Nat} {l : List Sa.E} {now slots : Int}
theorem Hs.below (h : Hs w Sb Xb Mb T Tm F cf sv xs qa qc sa sc l now slots) (hb : Below w.heap.size w w') : Hs w' Sb Xb Mb T Tm F cf sv xs qa qc sa sc l now slots :=
  ⟨h.bx.bel hb, h.ex.below hb, h.tb.below hb, h.n1, h.n2, fun k hk => Nat.lt_of_lt_of_le (h.fb k hk) hb.size⟩
/-- The shard's own block is written. -/
theorem Hs.own (h : Hs w Sb Xb Mb T Tm F cf sv xs qa qc sa sc l now slots) (hf : Fr (fun k => k = Sb) w w') {now' slots' : Int} (hb : Bx w' Sb #[.pointer (some ⟨Xb, 0, none⟩), .pointer (some ⟨T, 0, none⟩), .int .i64 now', .int .i64 slots'] 69) : Hs w' Sb Xb Mb T Tm F cf sv xs qa qc sa sc l now' slots' :=
  ⟨hb, h.ex.other hf h.bx (by decide) (by decide) (by decide) (by decide) (by decide), h.tb.fr (fr_dk hf) (fun k hk e => h.n2 (e ▸ hk)), h.n1, h.n2, fun k hk => Nat.lt_of_lt_of_le (h.fb k hk) hf.size⟩
/-- .. another block, of a type that it has not. -/
theorem Hs.other {b : Nat} {ds : Array Value} {t : TypeId} (h : Hs w Sb Xb Mb T Tm F cf sv xs qa qc sa sc l now slots) (hf : Fr (fun k => k = b) w w') (hB : Bx w b ds t) (hF : ¬ F b) (hs : 69 ≠ t) (h0 : 161 ≠ t) (h1 : 195 ≠ t) (h2 : 198 ≠ t) (h3 : 89 ≠ t) (h4 : 37 ≠ t) : Hs w' Sb Xb Mb T Tm F cf sv xs qa qc sa sc l now slots :=
  ⟨h.bx.fr hf (fun e => by
    have h9 := h.bx
    unfold Bx at h9 hB
    rw [e, hB] at h9
    simp only [Option.some.injEq, Obj.cells.injEq] at h9
    exact hs h9.2.1.symm), h.ex.other hf hB h0 h1 h2 h3 h4, h.tb.fr (fr_dk hf) (fun k hk e => hF (e ▸ hk)), h.n1, h.n2, fun k hk => Nat.lt_of_lt_of_le (h.fb k hk) hf.size⟩
/-- The engine has turned. -/
theorem Hs.eng {xs' : List X} (h : Hs w Sb Xb Mb T Tm F cf sv xs qa qc sa sc l now slots) (hf : Fr (fun k => k = Mb) w w') (he : Ex w' Xb Mb cf sv xs' qa qc sa sc) : Hs w' Sb Xb Mb T Tm F cf sv xs' qa qc sa sc l now slots :=
  ⟨h.bx.fr hf (h.ex.m.bare ⟨Sb, 0, none⟩ _ (h.bx.cell 0 _ rfl)), he, h.tb.fr (fr_dk hf) (fun k hk e => h.n1 (e ▸ hk)), h.n1, h.n2, fun k hk => Nat.lt_of_lt_of_le (h.fb k hk) hf.size⟩
/-- The table has turned. -/
theorem Hs.tab {F' : Nat → Prop} {l' : List Sa.E} (h : Hs w Sb Xb Mb T Tm F cf sv xs qa qc sa sc l now slots) (hf : Dk.Fr (fun k => k = Tm) w w') (ht : Sa.Tb w' F' T Tm l') (hF : ∀ k, F' k → F k ∨ (w.heap.size ≤ k ∧ k < w'.heap.size)) : Hs w' Sb Xb Mb T Tm F' cf sv xs qa qc sa sc l' now slots := by
  obtain ⟨ys, -, hx⟩ := h.tb
  obtain ⟨es, clock, hb2, r⟩ := hx.m
  have hne : Mb ≠ Tm := fun e => h.n1 (e ▸ hx.fm)
  refine ⟨h.bx.fr (fr_gf hf) (fun e => ?_), ex_map h.ex hb2 (fr_gf hf) hne, ht, fun hk => ?_, fun hk => ?_, fun k hk => ?_⟩
  · have h9 := h.bx
    unfold Bx at h9
    rw [e, hb2] at h9
    cases h9
  · rcases hF _ hk with x | x
    · exact h.n1 x
    · have := h.ex.m.lt; omega
  · rcases hF _ hk with x | x
    · exact h.n2 x
    · have := h.bx.lt; omega
  · rcases hF _ hk with x | x
    · exact Nat.lt_of_lt_of_le (h.fb k x) hf.size
    · exact x.2
end

theorem eqP {P : Program} (w : World) (t e : TypeId) (a : Option Addr) (h : P.underlying t = some (.pointer e)) : (Op.equalIn 9999 t (.pointer a) (.pointer none)).run P w = .ok a.isNone w := by
  have h1 : ∀ d, (Op.equalIn (d + 1) t (.pointer a) (.pointer none)).run P w = .ok a.isNone w := fun d => by cases a <;> simp [Op.equalIn, run_underlying h]
  exact h1 9998
theorem isMade_yes {w : World} {Sb : Nat} {a : Addr} {b : Option Addr} {n m : Int} (h : Bx w Sb #[.pointer (some a), .pointer b, .int .i64 n, .int .i64 m] 69) : Calls Tryz.prog 50 #[.pointer (some ⟨Sb, 0, none⟩)] w fun e w' => e = .returned (.bool true) ∧ w' = w := by
  obtain ⟨c0, c1, c2, c3, -⟩ := h.four
  have p1 := eqP (P := Tryz.prog) w 64 _ (some a) Tryz.underlying64
  simp only [Option.isNone] at p1
  clear h
  go_enter Tryz.func50, Tryz.ntmps50
  go_wp2
  all_goals
    go_ret
    exact ⟨rfl, rfl⟩
theorem isMade_nil (w : World) : Calls Tryz.prog 50 #[.pointer none] w fun e w' => e = .returned (.bool false) ∧ w' = w := by
  go_enter Tryz.func50, Tryz.ntmps50
  go_wp2
  go_ret
  exact ⟨rfl, rfl⟩
theorem isMade_zero {w : World} {Sb : Nat} (h : Bx w Sb #[.pointer none, .pointer none, .int .i64 0, .int .i64 0] 69) : Calls Tryz.prog 50 #[.pointer (some ⟨Sb, 0, none⟩)] w fun e w' => e = .returned (.bool false) ∧ w' = w := by
  obtain ⟨c0, c1, c2, c3, -⟩ := h.four
  have p1 := eqP (P := Tryz.prog) w 64 _ none Tryz.underlying64
  have p2 := eqP (P := Tryz.prog) w 65 _ none Tryz.underlying65
  simp only [Option.isNone] at p1 p2
  clear h
  go_enter Tryz.func50, Tryz.ntmps50
  go_wp2
  go_ret
  exact ⟨rfl, rfl⟩
theorem now_yes {w : World} {Sb : Nat} {a : Addr} {b : Option Addr} {n m : Int} (h : Bx w Sb #[.pointer (some a), .pointer b, .int .i64 n, .int .i64 m] 69) : Calls Tryz.prog 26 #[.pointer (some ⟨Sb, 0, none⟩)] w fun e w' => e = .returned (.int .i64 n) ∧ w' = w := by
  obtain ⟨c0, c1, c2, c3, -⟩ := h.four
  have HB := mkH h
  clear h
  go_enter Tryz.func26, Tryz.ntmps26
  go_wp2_with (go_at_call 50; refine (isMade_yes HB.out).mono ?_; rintro e1 w1 ⟨rfl, h1⟩; have h2 := h1.symm; clear h1; subst h2)
  go_ret
  exact ⟨rfl, rfl⟩

set_option maxHeartbeats 4000000 in
theorem New_ok (w : World) (qa : Option Addr) (qc : Nat) (cf : List Cf) (hq : RowQ w qa cf) (sa : Option Addr) (sc : Nat) (sv : List Rg) (hs : Rw w sa sv) (hl : sv.length ≤ 1000) (hb : mayQb cf = true) (ha : apartR sv = true) :
    Calls Tryz.prog 9 #[.slice qa cf.length qc, .slice sa sv.length sc] w fun e w' => ∃ Sb Xb Mb T Tm F qa' qc' sa' sc', e = .returned (.tuple #[.pointer (some ⟨Sb, 0, none⟩), .int .i64 0]) ∧ Hs w' Sb Xb Mb T Tm F cf (join sv) [] qa' qc' sa' sc' [] 0 0 ∧ w.heap.size ≤ Mb ∧ w.heap.size ≤ Sb ∧ (∀ k, F k → w.heap.size ≤ k) ∧ Below w.heap.size w w' := by
  have HN := mkH (Qg.New_ok w qa qc cf hq sa sc sv hs hl hb ha)
  clear hq hs hl hb ha
  go_enter Tryz.func9, Tryz.ntmps9
  go_wp2_with (first
    | (go_at_call 36; refine HN.out.mono ?_; rintro e1 w1 ⟨Xb, Mb, qa', qc', sa', sc', rfl, hE, hM, hX, hb1⟩; have HE1 := mkH hE; have HM := mkH (And.intro hM hX); have HB1 := mkH hb1; clear hE hM hX hb1)
    | (go_at_call 37; refine (Sb.new_any w1).mono ?_; rintro e2 w2 ⟨rfl, hT, hb2⟩; have HT := mkH hT; have HE2 := mkH (HE1.out.below hb2); have HB2 := mkH (HB1.out.trans (hb2.mono HB1.out.size)); have hs2 := hb2.size; clear hT hb2))
  have hal : Below w2.heap.size w2 (w2.alloc (.cells #[.pointer (some ⟨Xb, 0, none⟩), .pointer (some ⟨w1.heap.size + 1, 0, none⟩), .int .i64 0, .int .i64 0] 69)) := (Below.refl _ _).alloc (Nat.le_refl _) _
  have hB := Bx.new w2 #[.pointer (some ⟨Xb, 0, none⟩), .pointer (some ⟨w1.heap.size + 1, 0, none⟩), .int .i64 0, .int .i64 0] 69
  have hMl := HE1.out.m.lt
  have hs1 := HB1.out.size
  have hTl : w1.heap.size + 1 < w2.heap.size := by
    obtain ⟨ys, -, hx⟩ := HT.out
    exact hx.bx.lt
  go_ret2
  refine ⟨w2.heap.size, Xb, Mb, w1.heap.size + 1, w1.heap.size, (fun k => w1.heap.size ≤ k ∧ k < w2.heap.size), qa', qc', sa', sc', rfl, ⟨hB, HE2.out.below hal, ?_, ?_, ?_, ?_⟩, HM.out.1, by omega, fun k hk => by omega, HB2.out.trans (hal.mono HB2.out.size)⟩
  · obtain ⟨ys, hys, hx⟩ := HT.out
    have e : ys = [] := by simpa using hys
    subst e
    refine Sa.Tb.below ⟨[], rfl, ⟨hx.bx, hx.m, hx.s, fun x hx => (by cases hx), by constructor <;> omega, by constructor <;> omega, by simp⟩⟩ hal
  · intro h; omega
  · intro h; omega
  · intro k hk; simp; omega
end Go.Proofs.YtgbbajeeelgbhaaGreatDoor.Ha
