/-
  ReadCmd of wire: the whole, behind a deferred recover.
-/
import Derived.Test.YtjboldahmndkeaaWiJC
import Derived.Test.YtjboldahmndkeaaWiO
import Derived.Defers
import Derived.Recover
namespace Go.Proofs.Ytjboldahmndkeaa.Wu
open Go.RowKit Kt Pl Wi Wk Wf Wfw Wq Wy Wx
open At (RowT)
set_option linter.unusedVariables false
set_option linter.unusedSimpArgs false
set_option maxRecDepth 20000

theorem op_both {P : Program} {ops : Array Oper} {Q : Exit → Act → World → Prop} {i : Nat} {o : Oper} {a : Act} {w w' : World} {K : Act → World → Prop} (ho : ops[i]? = some o) (hg : o.guard = none) (hrun : (execOp a.eval o).run P w = .ok .skip w' ∨ (execOp a.eval o).run P w = .ok (.value undef) w') (hK : K (a.put o.dst undef) w') : wpOp P ops Q i K a w := by
  rcases hrun with h | h
  · exact op_skip ho hg h hK
  · exact op_value ho hg h hK
theorem startZ {P : Program} {id : Nat} {ops : Array Oper} {b : Bool} {Q : Exit → Act → World → Prop} {a : Act} {w : World} {zs : Array Value} {u : TypeId}
    (h : ∀ W0, Bx W0 w.heap.size zs u → Gr w W0 → (Code.region id ops b).wp P Q a W0) : (Code.region id ops b).wp P Q a (w.alloc (.cells zs u)) :=
  h _ (Bx.new w zs u) ((Gr.refl w).alloc _)

/-- The deferred closure, where nothing panics. -/
theorem idle_any (p q : Addr) (w : World) : CallsD Try.prog 63 #[.pointer (some p), .pointer (some q)] .returning w fun e u' w' => e = .returned (.tuple #[]) ∧ u' = .returning ∧ w' = w := by
  refine callsD_of_wpS Try.func63 rfl fun c₀ cs hu => ?_
  apply wpS_seq
  apply wpS_region
  simp [wpOpsS, go_sem, recoverD, hu, Try.ntmps63, Exit.thenS]
  refine wpS_of_wp ?_
  simp only [Array.replicate_succ, Array.replicate_zero, List.push_toArray, List.append_toArray, List.nil_append, List.cons_append, List.setIfInBounds_toArray, List.set_cons_zero, List.set_cons_succ]
  go_wp2
  cases c₀
  simp_all [bodyPostS, results, Try.results63]

/-- All old blocks but two stay. -/
structure Two (b c : Nat) (w w' : World) : Prop where
  os : w'.os = w.os
  tape : w'.tape = w.tape
  output : w'.output = w.output
  size : w.heap.size ≤ w'.heap.size
  block : ∀ k, k < w.heap.size → k ≠ b → k ≠ c → w'.heap[k]? = w.heap[k]?
def Zc : Array Value := Cv Cm.none (.slice none 0 0)
theorem infoZ : (Try.prog.info? 28).map (·.size) = some Zc.size := by kernel_rfl
theorem Zc_one : Zc.all (fun x => x.oneCell') = true := by unfold Zc Cv; rw [List.all_toArray]; rfl

set_option maxHeartbeats 4000000 in
/-- The deferred closure, where a reader has stopped: the results are laid. -/
theorem catch_any (bp bq er : Nat) (C : Array Value) (old : Value) (older : List PanicEntry) (w : World) (hp : Bx w bp C 28) (hC : C.size = 19) (hq : Bx w bq #[old] 31) (hne : bp ≠ bq) :
    CallsD Try.prog 63 #[.pointer (some ⟨bp, 0, none⟩), .pointer (some ⟨bq, 0, none⟩)] (.panicking ({ v := .iface 97 (.agg #[.int .i64 er]), recovered := false } :: older)) w fun e u' w' =>
      e = .returned (.tuple #[]) ∧ u' = .panicking ({ v := .iface 97 (.agg #[.int .i64 er]), recovered := true } :: older) ∧ Bx w' bp Zc 28 ∧ Bx w' bq #[.int .i64 er] 31 ∧ Two bp bq w w' := by
  refine callsD_of_wpS Try.func63 rfl fun c₀ cs hu => ?_
  apply wpS_seq
  apply wpS_region
  simp [wpOpsS, go_sem, recoverD, hu, Try.ntmps63, Exit.thenS]
  refine wpS_of_wp ?_
  simp only [Array.replicate_succ, Array.replicate_zero, List.push_toArray, List.append_toArray, List.nil_append, List.cons_append, List.setIfInBounds_toArray, List.set_cons_zero, List.set_cons_succ]
  have HI : Hid ((Try.prog.info? 28).map (·.size) = some Zc.size) := mkH infoZ
  have hta : ∀ W : World, (Instr.typeAssert (.iface 97 (.agg #[.int .i64 er])) 20 97 false).run Try.prog W = .ok (.agg #[.int .i64 er]) W := fun _ => by kernel_rfl
  have hfi : ∀ W : World, (Instr.field 97 (.agg #[.int .i64 er]) 0).run Try.prog W = .ok (.int .i64 er) W := fun _ => by kernel_rfl
  have hlp := hp.lt
  have hlq := hq.lt
  have HP0 := mkH hp
  have HQ0 := mkH hq
  have HU := mkH hu
  clear hp hq hu
  go_wp2_with fail
  refine startZ (zs := Zc) (fun W0 hBz hG => ?_)
  have hp1 := HP0.out.gr (hG.trans ((Gr.refl W0).drew))
  have hq1 := HQ0.out.gr (hG.trans ((Gr.refl W0).drew))
  have HW := mkH (hG.trans ((Gr.refl W0).drew))
  have HBz := mkH hBz
  generalize hb3 : w.heap.size = b3 at hBz HBz ⊢
  refine wp_region_held_drew (S := fun W => Bx W b3 Zc 28) (by kernel_rfl) (hBz.gr ((Gr.refl W0).drew)) (fun hHeld => ?_)
  clear hG hBz
  refine wpAnyH_take (i := 1) (oi := { dst := some 8, op := _, type := _, pos := _, after := _, guard := _ }) (v := ?_) rfl (by kernel_rfl) (by kernel_rfl) (by kernel_rfl) (fun _ _ _ h => h) (Or.inl ⟨by rfl, ?_⟩) (by assumption) ?_
  rotate_left
  · (intro W hSw; (try dsimp only at hSw); go_simp; try (with_reducible rfl))
  try simp only [Act.put, List.setIfInBounds_toArray, List.set_cons_zero, List.set_cons_succ]
  refine wpAnyH_take (i := 2) (oi := { dst := some 9, op := _, type := _, pos := _, after := _, guard := _ }) (v := ?_) rfl (by kernel_rfl) (by kernel_rfl) (by kernel_rfl) (fun _ _ _ h => h) (Or.inl ⟨by rfl, ?_⟩) (by assumption) ?_
  rotate_left
  · (intro W hSw; (try dsimp only at hSw); go_simp; try (with_reducible rfl))
  try simp only [Act.put, List.setIfInBounds_toArray, List.set_cons_zero, List.set_cons_succ]
  refine wpAnyH_take (i := 3) (oi := { dst := some 10, op := _, type := _, pos := _, after := _, guard := _ }) (v := ?_) rfl (by kernel_rfl) (by kernel_rfl) (by kernel_rfl) (fun _ _ _ h => h) (Or.inl ⟨by rfl, ?_⟩) (by assumption) ?_
  rotate_left
  · (intro W hSw; (try dsimp only at hSw); go_simp; try (with_reducible rfl))
  try simp only [Act.put, List.setIfInBounds_toArray, List.set_cons_zero, List.set_cons_succ]
  refine wpAnyH_take (i := 0) (oi := { dst := some 7, op := _, type := _, pos := _, after := _, guard := _ }) (v := .agg Zc) rfl (by kernel_rfl) (by kernel_rfl) (by kernel_rfl) (fun _ _ _ h => h) (Or.inl ⟨by rfl, ?_⟩) (by assumption) ?_
  · (intro W hSw; exact run_ld rfl rfl (load_bx (P := Try.prog) hSw Try.underlying28 rfl HI.out))
  try simp only [Act.put, List.setIfInBounds_toArray, List.set_cons_zero, List.set_cons_succ]
  have hb3p : bp ≠ b3 := by omega
  have hb3q : bq ≠ b3 := by omega
  have hst := run_st (P := Try.prog) (w := W0.drew) (o := { dst := none, op := .store 28 (.tmp 0) (.tmp 7), type := 0, pos := "", after := #[], guard := none }) (a := { tmps := #[.pointer (some ⟨bp, 0, none⟩), undef, undef, undef, undef, undef, undef, .agg Zc], defers := [] }) rfl rfl rfl hp1 HI.out (hC.trans rfl) Zc_one
  have hp2 := Wk.Bx.row hp1 (cs := Zc) (hC.trans rfl)
  have hq2 := Wk.Bx.rowOther hq1 hne Zc
  have hz2 := Wk.Bx.rowOther hHeld hb3p Zc
  refine wpAnyH_one (i := 4) (by kernel_rfl) (op_both rfl rfl (w' := W0.drew.setRow bp Zc) (run_st (P := Try.prog) rfl rfl rfl hp1 HI.out (hC.trans rfl) Zc_one) ⟨hz2, ?_⟩)
  simp only [Act.put]
  have hc2 : (W0.drew.setRow bp Zc).cell? ⟨bq, 0, none⟩ = some old := hq2.cell 0
  have hf2 := hq2.frozen 0
  refine wpAnyH_one (i := 5) (by kernel_rfl) (op_skip rfl rfl (w' := (W0.drew.setRow bp Zc).setCell ⟨bq, 0, none⟩ (.int .i64 er)) ?_ ⟨hz2.other (by simpa using hb3q) _, ?_⟩)
  · clear hst hp2 hq2 hz2 hHeld hp1 hq1 hta hfi
    go_simp
  simp only [Act.put]
  refine wpAnyH_done (by kernel_rfl) ?_ _
  have HX := mkH (hp2.other (p := ⟨bq, 0, none⟩) (fun e => hne e.symm) (.int .i64 er))
  have HY : Hid (Bx ((W0.drew.setRow bp Zc).setCell ⟨bq, 0, none⟩ (.int .i64 er)) bq #[.int .i64 er] 31) := mkH (hq2.set 0 (.int .i64 er))
  have HT : Hid (Two bp bq w ((W0.drew.setRow bp Zc).setCell ⟨bq, 0, none⟩ (.int .i64 er))) := mkH ⟨HW.out.below.os, HW.out.below.tape, HW.out.below.output, by simpa using HW.out.below.size, fun k hk h1 h2 => by rw [heap_setCell_other _ _ _ _ h2, setRow_other _ _ _ _ h1]; exact HW.out.below.block k hk⟩
  clear hst hp2 hq2 hz2 hHeld hp1 hq1 hta hfi hc2 hf2
  go_wp2
  refine ⟨rfl, _, rfl, .tuple #[], ?_, rfl, rfl, HX.out, HY.out, HT.out⟩
  simp [results, Try.results63]
end Go.Proofs.Ytjboldahmndkeaa.Wu
