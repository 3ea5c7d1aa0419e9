/-
  WiY WiS WiB WiT WiI WiJ, joined by mrg.py.
-/
import Derived.Test.YtcpmcfagibmboabGreatRqD
import Derived.Deep.RegionHeld3

namespace Go.Proofs.YtcpmcfagibmboabGreat.Wy
open Go.RowKit Kt Pl Wi Wk Wc Wd We Wf Ww Wx Wv
open At (RowT okT)
set_option linter.unusedVariables false
set_option linter.unusedSimpArgs false
set_option maxRecDepth 20000

theorem wpList_ld {P : Program} {w : World} {ops : Array Oper} {rest : List Oper} {o : Oper} {a : Act} {Q : Exit → Act → World → Prop} {ty : TypeId} {x : Operand} {p : Addr} {v : Value} (hgd : o.guard = none) (ho : o.op = .load ty x) (hx : a.eval x = .pointer (some p)) (h : (loadVar ty p).run P w = .ok v w)
    (hk : wpList P ops Q rest (a.put o.dst v) w) : wpList P ops Q (o :: rest) a w := by
  refine wpList_plain hgd fun _ hK => ?_
  unfold Oper.wp
  rw [run_ld ho hx h]
  exact hK _ _ hk

def dstC : Nat → Nat := (fun i => if i = 0 then 10 else if i = 11 then 21 else if i = 12 then 22 else if i = 21 then 31 else if i = 22 then 32 else if i = 27 then 37 else if i = 28 then 38 else if i = 31 then 41 else if i = 40 then 50 else if i = 41 then 51 else if i = 44 then 54 else if i = 45 then 2 else if i = 46 then 3 else 0)
def consC : Nat → Nat := (fun i => if i = 0 then 12 else if i = 11 then 12 else if i = 12 then 22 else if i = 21 then 22 else if i = 22 then 28 else if i = 27 then 28 else if i = 28 then 31 else if i = 31 then 41 else if i = 40 then 41 else if i = 41 then 44 else if i = 44 then 45 else 999)
def depsC : Nat → List Nat := (fun i => if i = 12 then [0, 11] else if i = 22 then [12, 21] else if i = 28 then [22, 27] else if i = 31 then [28] else if i = 41 then [31, 40] else if i = 44 then [41] else if i = 45 then [44] else [])
def isWC : Nat → Bool := fun i => i == 0 || i == 12 || i == 22 || i == 28 || i == 31 || i == 41 || i == 44 || i == 45
def FC (base : Nat) (c : Cm) : Nat → Value → World → Prop := fun i v w => if i = 0 then Wt w base v ([] : Bs) else if i = 11 then BI [c.kind, c.client, c.num, c.time, c.queue] v w else if i = 12 then Wt w base v (([] : Bs) ++ [c.kind, c.client, c.num, c.time, c.queue].flatMap encN) else if i = 21 then BT [c.group, c.body, c.token, c.attempt] v w else if i = 22 then Wt w base v (([] : Bs) ++ [c.kind, c.client, c.num, c.time, c.queue].flatMap encN ++ [c.group, c.body, c.token, c.attempt].flatMap encText) else if i = 27 then BI [c.max, c.secs] v w else if i = 28 then Wt w base v (([] : Bs) ++ [c.kind, c.client, c.num, c.time, c.queue].flatMap encN ++ [c.group, c.body, c.token, c.attempt].flatMap encText ++ [c.max, c.secs].flatMap encN) else if i = 31 then Wt w base v (([] : Bs) ++ [c.kind, c.client, c.num, c.time, c.queue].flatMap encN ++ [c.group, c.body, c.token, c.attempt].flatMap encText ++ [c.max, c.secs].flatMap encN ++ encRcp c.rc) else if i = 40 then BI [c.lo, c.hi, c.to] v w else if i = 41 then Wt w base v (([] : Bs) ++ [c.kind, c.client, c.num, c.time, c.queue].flatMap encN ++ [c.group, c.body, c.token, c.attempt].flatMap encText ++ [c.max, c.secs].flatMap encN ++ encRcp c.rc ++ [c.lo, c.hi, c.to].flatMap encN) else if i = 44 then Wt w base v (([] : Bs) ++ [c.kind, c.client, c.num, c.time, c.queue].flatMap encN ++ [c.group, c.body, c.token, c.attempt].flatMap encText ++ [c.max, c.secs].flatMap encN ++ encRcp c.rc ++ [c.lo, c.hi, c.to].flatMap encN ++ encList encText c.data) else if i = 45 then Wt w base v (([] : Bs) ++ [c.kind, c.client, c.num, c.time, c.queue].flatMap encN ++ [c.group, c.body, c.token, c.attempt].flatMap encText ++ [c.max, c.secs].flatMap encN ++ encRcp c.rc ++ [c.lo, c.hi, c.to].flatMap encN ++ encList encText c.data) else if i = 46 then v = .int .i64 0 else True

/-- What a command that may be tells of its parts. -/
theorem cm_parts {c : Cm} (h : checkC c = 0) : (∀ x ∈ [c.kind, c.client, c.num, c.time, c.queue], 0 ≤ x ∧ x ≤ 4611686018427387904) ∧ (∀ x ∈ [c.group, c.body, c.token, c.attempt], x.length ≤ 4096) ∧ (∀ x ∈ [c.max, c.secs], 0 ≤ x ∧ x ≤ 4611686018427387904) ∧ (∀ x ∈ [c.lo, c.hi, c.to], 0 ≤ x ∧ x ≤ 4611686018427387904) ∧ rcB c.rc = true ∧ c.rc.g.length ≤ 32 ∧ c.data.length ≤ 1024 ∧ (∀ x ∈ c.data, x.length ≤ 4096) := by
  obtain ⟨hr, hs⟩ := judge_ok h
  simp only [rightC, shortC, Bool.and_eq_true, fitB, decide_eq_true_eq, Bool.or_eq_true, mayB] at hr hs
  obtain ⟨r0, ⟨r1, r2, r3, r4, r5, r6, r7⟩, r8, r9⟩ := hr
  obtain ⟨⟨s0, s1, s2, s3⟩, s4, s5⟩ := hs
  have s5 := dataB_ok s5
  simp only [upToB, Bool.and_eq_true, decide_eq_true_eq] at r0
  have r1 := num_ok r1; have r2 := num_ok r2; have r3 := num_ok r3; have r4 := num_ok r4; have r5 := num_ok r5; have r6 := num_ok r6; have r7 := num_ok r7
  refine ⟨?_, ?_, ?_, ?_, r8, s3, s5.1, s5.2⟩
  · intro x hx; simp at hx; rcases hx with rfl | rfl | rfl | rfl | rfl <;> omega
  · intro x hx; simp at hx; rcases hx with rfl | rfl | rfl | rfl <;> omega
  · intro x hx; simp at hx; rcases hx with rfl | rfl <;> omega
  · intro x hx; simp at hx; rcases hx with rfl | rfl | rfl <;> omega
theorem cm_bytes (c : Cm) : ([] : Bs) ++ [c.kind, c.client, c.num, c.time, c.queue].flatMap encN ++ [c.group, c.body, c.token, c.attempt].flatMap encText ++ [c.max, c.secs].flatMap encN ++ encRcp c.rc ++ [c.lo, c.hi, c.to].flatMap encN ++ encList encText c.data = encCm c := by simp [encCm, encRg]

set_option maxHeartbeats 8000000 in
theorem cmd_ok (w : World) (c : Cm) (ao : Option Addr) (cap : Nat) (hr : RowT w ao c.data) (hlen : c.data.length ≤ 1000000) (hck : checkC c = 0) :
    Calls Tryz.prog 5 #[.agg (Cv c (.slice ao c.data.length cap))] w fun e w' => ∃ v, e = .returned (.tuple #[v, .int .i64 0]) ∧ Wt w' w.heap.size v (encCm c) ∧ Below w.heap.size w w' := by
  have H1 := check_any (w.alloc (.cells (Cv c (.slice ao c.data.length cap)) 33)) c ao cap (RowT.gr hr ((Gr.refl w).alloc _)) hlen
  rw [hck] at H1
  obtain ⟨q1, q2, q3, q4, hrc, hrg, hdl⟩ := cm_parts hck
  have HB := mkH (Bx.new w (Cv c (.slice ao c.data.length cap)) 33)
  have HG := mkH ((Gr.refl w).alloc (.cells (Cv c (.slice ao c.data.length cap)) 33))
  have HL := mkH (load_cm HB.out)
  obtain ⟨k0, k1, k2, k3, k4, k5, k6, k7, k8, k9, k10, k11, k12, k13, k14, k15, k16, k17, k18⟩ := Cv_at c (.slice ao c.data.length cap)
  generalize Cv c (.slice ao c.data.length cap) = C at *
  go_enter Tryz.func5, Tryz.ntmps5
  go_wp2_with (refine wpList_ld (ty := 33) (x := .tmp 1) rfl rfl rfl HL.out ?_)
  refine H1.mono ?_
  rintro e w1 ⟨rfl, hg1⟩
  have HB1 := mkH (HB.out.gr hg1)
  have HG1 := mkH (HG.out.trans hg1)
  have HRw := mkH hr
  clear H1 HB HG HL hg1 hr
  go_wp2_with fail
  obtain ⟨base, hbase⟩ : ∃ base, base = w.heap.size := ⟨_, rfl⟩
  have HS0 : Hid (SR w1 base w.heap.size C 33 w1.drew) := mkH ⟨HB1.out.gr ((Gr.refl _).drew), (Below.refl _ _).drew, (U8.refl _).drew⟩
  have HB0 : Hid (base ≤ w1.heap.size) := mkH (hbase ▸ HG1.out.below.size)
  have HR0 : Hid (∀ W, Below base w1 W → RowT W ao c.data) := mkH (fun W h => HRw.out.below (HG1.out.below.trans (hbase ▸ h)))
  have HBE := mkH hbase
  clear hbase HRw HB1
  generalize hBq : w.heap.size = B at HS0 ⊢
  have HBq := mkH hBq
  clear hBq
  refine wp_region_held_drew (S := fun W => SR w1 base B C 33 W) (by kernel_rfl) HS0.out (fun hHeld => ?_)
  have hq : ∀ W, SR w1 base B C 33 W → ∀ k, W.cell? ⟨B, k, none⟩ = C[k]? := fun W h => h.1.cell
  clear HS0
  refine wpAnyH_take (i := 1) (oi := { dst := some 11, op := _, type := _, pos := _, after := _, guard := _ }) (v := ?_) rfl (by kernel_rfl) (by kernel_rfl) (by kernel_rfl) (fun _ _ _ h => h) (Or.inl ⟨by rfl, ?_⟩) (by assumption) ?_
  rotate_left
  · (intro W hSw; (try dsimp only at hSw); go_simp; try (with_reducible rfl))
  try simp only [Act.put, List.setIfInBounds_toArray, List.set_cons_zero, List.set_cons_succ]
  refine wpAnyH_take (i := 2) (oi := { dst := some 12, op := _, type := _, pos := _, after := _, guard := _ }) (v := ?_) rfl (by kernel_rfl) (by kernel_rfl) (by kernel_rfl) (fun _ _ _ h => h) (Or.inl ⟨by rfl, ?_⟩) (by assumption) ?_
  rotate_left
  · (intro W hSw; (try dsimp only at hSw); go_simp; try (with_reducible rfl))
  try simp only [Act.put, List.setIfInBounds_toArray, List.set_cons_zero, List.set_cons_succ]
  refine wpAnyH_take (i := 3) (oi := { dst := some 13, op := _, type := _, pos := _, after := _, guard := _ }) (v := ?_) rfl (by kernel_rfl) (by kernel_rfl) (by kernel_rfl) (fun _ _ _ h => h) (Or.inl ⟨by rfl, ?_⟩) (by assumption) ?_
  rotate_left
  · (intro W hSw; (try dsimp only at hSw); go_simp; try (with_reducible rfl))
  try simp only [Act.put, List.setIfInBounds_toArray, List.set_cons_zero, List.set_cons_succ]
  refine wpAnyH_take (i := 4) (oi := { dst := some 14, op := _, type := _, pos := _, after := _, guard := _ }) (v := ?_) rfl (by kernel_rfl) (by kernel_rfl) (by kernel_rfl) (fun _ _ _ h => h) (Or.inl ⟨by rfl, ?_⟩) (by assumption) ?_
  rotate_left
  · (intro W hSw; (try dsimp only at hSw); go_simp; try (with_reducible rfl))
  try simp only [Act.put, List.setIfInBounds_toArray, List.set_cons_zero, List.set_cons_succ]
  refine wpAnyH_take (i := 5) (oi := { dst := some 15, op := _, type := _, pos := _, after := _, guard := _ }) (v := ?_) rfl (by kernel_rfl) (by kernel_rfl) (by kernel_rfl) (fun _ _ _ h => h) (Or.inl ⟨by rfl, ?_⟩) (by assumption) ?_
  rotate_left
  · (intro W hSw; (try dsimp only at hSw); go_simp; try (with_reducible rfl))
  try simp only [Act.put, List.setIfInBounds_toArray, List.set_cons_zero, List.set_cons_succ]
  refine wpAnyH_take (i := 6) (oi := { dst := some 16, op := _, type := _, pos := _, after := _, guard := _ }) (v := ?_) rfl (by kernel_rfl) (by kernel_rfl) (by kernel_rfl) (fun _ _ _ h => h) (Or.inl ⟨by rfl, ?_⟩) (by assumption) ?_
  rotate_left
  · (intro W hSw; (try dsimp only at hSw); go_simp; try (with_reducible rfl))
  try simp only [Act.put, List.setIfInBounds_toArray, List.set_cons_zero, List.set_cons_succ]
  refine wpAnyH_take (i := 7) (oi := { dst := some 17, op := _, type := _, pos := _, after := _, guard := _ }) (v := ?_) rfl (by kernel_rfl) (by kernel_rfl) (by kernel_rfl) (fun _ _ _ h => h) (Or.inl ⟨by rfl, ?_⟩) (by assumption) ?_
  rotate_left
  · (intro W hSw; (try dsimp only at hSw); go_simp; try (with_reducible rfl))
  try simp only [Act.put, List.setIfInBounds_toArray, List.set_cons_zero, List.set_cons_succ]
  refine wpAnyH_take (i := 8) (oi := { dst := some 18, op := _, type := _, pos := _, after := _, guard := _ }) (v := ?_) rfl (by kernel_rfl) (by kernel_rfl) (by kernel_rfl) (fun _ _ _ h => h) (Or.inl ⟨by rfl, ?_⟩) (by assumption) ?_
  rotate_left
  · (intro W hSw; (try dsimp only at hSw); go_simp; try (with_reducible rfl))
  try simp only [Act.put, List.setIfInBounds_toArray, List.set_cons_zero, List.set_cons_succ]
  refine wpAnyH_take (i := 9) (oi := { dst := some 19, op := _, type := _, pos := _, after := _, guard := _ }) (v := ?_) rfl (by kernel_rfl) (by kernel_rfl) (by kernel_rfl) (fun _ _ _ h => h) (Or.inl ⟨by rfl, ?_⟩) (by assumption) ?_
  rotate_left
  · (intro W hSw; (try dsimp only at hSw); go_simp; try (with_reducible rfl))
  try simp only [Act.put, List.setIfInBounds_toArray, List.set_cons_zero, List.set_cons_succ]
  refine wpAnyH_take (i := 10) (oi := { dst := some 20, op := _, type := _, pos := _, after := _, guard := _ }) (v := ?_) rfl (by kernel_rfl) (by kernel_rfl) (by kernel_rfl) (fun _ _ _ h => h) (Or.inl ⟨by rfl, ?_⟩) (by assumption) ?_
  rotate_left
  · (intro W hSw; (try dsimp only at hSw); go_simp; try (with_reducible rfl))
  try simp only [Act.put, List.setIfInBounds_toArray, List.set_cons_zero, List.set_cons_succ]
  refine wpAnyH_take (i := 13) (oi := { dst := some 23, op := _, type := _, pos := _, after := _, guard := _ }) (v := ?_) rfl (by kernel_rfl) (by kernel_rfl) (by kernel_rfl) (fun _ _ _ h => h) (Or.inl ⟨by rfl, ?_⟩) (by assumption) ?_
  rotate_left
  · (intro W hSw; (try dsimp only at hSw); go_simp; try (with_reducible rfl))
  try simp only [Act.put, List.setIfInBounds_toArray, List.set_cons_zero, List.set_cons_succ]
  refine wpAnyH_take (i := 14) (oi := { dst := some 24, op := _, type := _, pos := _, after := _, guard := _ }) (v := ?_) rfl (by kernel_rfl) (by kernel_rfl) (by kernel_rfl) (fun _ _ _ h => h) (Or.inl ⟨by rfl, ?_⟩) (by assumption) ?_
  rotate_left
  · (intro W hSw; (try dsimp only at hSw); go_simp; try (with_reducible rfl))
  try simp only [Act.put, List.setIfInBounds_toArray, List.set_cons_zero, List.set_cons_succ]
  refine wpAnyH_take (i := 15) (oi := { dst := some 25, op := _, type := _, pos := _, after := _, guard := _ }) (v := ?_) rfl (by kernel_rfl) (by kernel_rfl) (by kernel_rfl) (fun _ _ _ h => h) (Or.inl ⟨by rfl, ?_⟩) (by assumption) ?_
  rotate_left
  · (intro W hSw; (try dsimp only at hSw); go_simp; try (with_reducible rfl))
  try simp only [Act.put, List.setIfInBounds_toArray, List.set_cons_zero, List.set_cons_succ]
  refine wpAnyH_take (i := 16) (oi := { dst := some 26, op := _, type := _, pos := _, after := _, guard := _ }) (v := ?_) rfl (by kernel_rfl) (by kernel_rfl) (by kernel_rfl) (fun _ _ _ h => h) (Or.inl ⟨by rfl, ?_⟩) (by assumption) ?_
  rotate_left
  · (intro W hSw; (try dsimp only at hSw); go_simp; try (with_reducible rfl))
  try simp only [Act.put, List.setIfInBounds_toArray, List.set_cons_zero, List.set_cons_succ]
  refine wpAnyH_take (i := 17) (oi := { dst := some 27, op := _, type := _, pos := _, after := _, guard := _ }) (v := ?_) rfl (by kernel_rfl) (by kernel_rfl) (by kernel_rfl) (fun _ _ _ h => h) (Or.inl ⟨by rfl, ?_⟩) (by assumption) ?_
  rotate_left
  · (intro W hSw; (try dsimp only at hSw); go_simp; try (with_reducible rfl))
  try simp only [Act.put, List.setIfInBounds_toArray, List.set_cons_zero, List.set_cons_succ]
  refine wpAnyH_take (i := 18) (oi := { dst := some 28, op := _, type := _, pos := _, after := _, guard := _ }) (v := ?_) rfl (by kernel_rfl) (by kernel_rfl) (by kernel_rfl) (fun _ _ _ h => h) (Or.inl ⟨by rfl, ?_⟩) (by assumption) ?_
  rotate_left
  · (intro W hSw; (try dsimp only at hSw); go_simp; try (with_reducible rfl))
  try simp only [Act.put, List.setIfInBounds_toArray, List.set_cons_zero, List.set_cons_succ]
  refine wpAnyH_take (i := 19) (oi := { dst := some 29, op := _, type := _, pos := _, after := _, guard := _ }) (v := ?_) rfl (by kernel_rfl) (by kernel_rfl) (by kernel_rfl) (fun _ _ _ h => h) (Or.inl ⟨by rfl, ?_⟩) (by assumption) ?_
  rotate_left
  · (intro W hSw; (try dsimp only at hSw); go_simp; try (with_reducible rfl))
  try simp only [Act.put, List.setIfInBounds_toArray, List.set_cons_zero, List.set_cons_succ]
  refine wpAnyH_take (i := 20) (oi := { dst := some 30, op := _, type := _, pos := _, after := _, guard := _ }) (v := ?_) rfl (by kernel_rfl) (by kernel_rfl) (by kernel_rfl) (fun _ _ _ h => h) (Or.inl ⟨by rfl, ?_⟩) (by assumption) ?_
  rotate_left
  · (intro W hSw; (try dsimp only at hSw); go_simp; try (with_reducible rfl))
  try simp only [Act.put, List.setIfInBounds_toArray, List.set_cons_zero, List.set_cons_succ]
  refine wpAnyH_take (i := 23) (oi := { dst := some 33, op := _, type := _, pos := _, after := _, guard := _ }) (v := ?_) rfl (by kernel_rfl) (by kernel_rfl) (by kernel_rfl) (fun _ _ _ h => h) (Or.inl ⟨by rfl, ?_⟩) (by assumption) ?_
  rotate_left
  · (intro W hSw; (try dsimp only at hSw); go_simp; try (with_reducible rfl))
  try simp only [Act.put, List.setIfInBounds_toArray, List.set_cons_zero, List.set_cons_succ]
  refine wpAnyH_take (i := 24) (oi := { dst := some 34, op := _, type := _, pos := _, after := _, guard := _ }) (v := ?_) rfl (by kernel_rfl) (by kernel_rfl) (by kernel_rfl) (fun _ _ _ h => h) (Or.inl ⟨by rfl, ?_⟩) (by assumption) ?_
  rotate_left
  · (intro W hSw; (try dsimp only at hSw); go_simp; try (with_reducible rfl))
  try simp only [Act.put, List.setIfInBounds_toArray, List.set_cons_zero, List.set_cons_succ]
  refine wpAnyH_take (i := 25) (oi := { dst := some 35, op := _, type := _, pos := _, after := _, guard := _ }) (v := ?_) rfl (by kernel_rfl) (by kernel_rfl) (by kernel_rfl) (fun _ _ _ h => h) (Or.inl ⟨by rfl, ?_⟩) (by assumption) ?_
  rotate_left
  · (intro W hSw; (try dsimp only at hSw); go_simp; try (with_reducible rfl))
  try simp only [Act.put, List.setIfInBounds_toArray, List.set_cons_zero, List.set_cons_succ]
  refine wpAnyH_take (i := 26) (oi := { dst := some 36, op := _, type := _, pos := _, after := _, guard := _ }) (v := ?_) rfl (by kernel_rfl) (by kernel_rfl) (by kernel_rfl) (fun _ _ _ h => h) (Or.inl ⟨by rfl, ?_⟩) (by assumption) ?_
  rotate_left
  · (intro W hSw; (try dsimp only at hSw); go_simp; try (with_reducible rfl))
  try simp only [Act.put, List.setIfInBounds_toArray, List.set_cons_zero, List.set_cons_succ]
  refine wpAnyH_take (i := 29) (oi := { dst := some 39, op := _, type := _, pos := _, after := _, guard := _ }) (v := ?_) rfl (by kernel_rfl) (by kernel_rfl) (by kernel_rfl) (fun _ _ _ h => h) (Or.inl ⟨by rfl, ?_⟩) (by assumption) ?_
  rotate_left
  · (intro W hSw; (try dsimp only at hSw); go_simp; try (with_reducible rfl))
  try simp only [Act.put, List.setIfInBounds_toArray, List.set_cons_zero, List.set_cons_succ]
  refine wpAnyH_take (i := 30) (oi := { dst := some 40, op := _, type := _, pos := _, after := _, guard := _ }) (v := ?_) rfl (by kernel_rfl) (by kernel_rfl) (by kernel_rfl) (fun _ _ _ h => h) (Or.inl ⟨by rfl, ?_⟩) (by assumption) ?_
  rotate_left
  · (intro W hSw; (try dsimp only at hSw); go_simp; try (with_reducible rfl))
  try simp only [Act.put, List.setIfInBounds_toArray, List.set_cons_zero, List.set_cons_succ]
  refine wpAnyH_take (i := 32) (oi := { dst := some 42, op := _, type := _, pos := _, after := _, guard := _ }) (v := ?_) rfl (by kernel_rfl) (by kernel_rfl) (by kernel_rfl) (fun _ _ _ h => h) (Or.inl ⟨by rfl, ?_⟩) (by assumption) ?_
  rotate_left
  · (intro W hSw; (try dsimp only at hSw); go_simp; try (with_reducible rfl))
  try simp only [Act.put, List.setIfInBounds_toArray, List.set_cons_zero, List.set_cons_succ]
  refine wpAnyH_take (i := 33) (oi := { dst := some 43, op := _, type := _, pos := _, after := _, guard := _ }) (v := ?_) rfl (by kernel_rfl) (by kernel_rfl) (by kernel_rfl) (fun _ _ _ h => h) (Or.inl ⟨by rfl, ?_⟩) (by assumption) ?_
  rotate_left
  · (intro W hSw; (try dsimp only at hSw); go_simp; try (with_reducible rfl))
  try simp only [Act.put, List.setIfInBounds_toArray, List.set_cons_zero, List.set_cons_succ]
  refine wpAnyH_take (i := 34) (oi := { dst := some 44, op := _, type := _, pos := _, after := _, guard := _ }) (v := ?_) rfl (by kernel_rfl) (by kernel_rfl) (by kernel_rfl) (fun _ _ _ h => h) (Or.inl ⟨by rfl, ?_⟩) (by assumption) ?_
  rotate_left
  · (intro W hSw; (try dsimp only at hSw); go_simp; try (with_reducible rfl))
  try simp only [Act.put, List.setIfInBounds_toArray, List.set_cons_zero, List.set_cons_succ]
  refine wpAnyH_take (i := 35) (oi := { dst := some 45, op := _, type := _, pos := _, after := _, guard := _ }) (v := ?_) rfl (by kernel_rfl) (by kernel_rfl) (by kernel_rfl) (fun _ _ _ h => h) (Or.inl ⟨by rfl, ?_⟩) (by assumption) ?_
  rotate_left
  · (intro W hSw; (try dsimp only at hSw); go_simp; try (with_reducible rfl))
  try simp only [Act.put, List.setIfInBounds_toArray, List.set_cons_zero, List.set_cons_succ]
  refine wpAnyH_take (i := 36) (oi := { dst := some 46, op := _, type := _, pos := _, after := _, guard := _ }) (v := ?_) rfl (by kernel_rfl) (by kernel_rfl) (by kernel_rfl) (fun _ _ _ h => h) (Or.inl ⟨by rfl, ?_⟩) (by assumption) ?_
  rotate_left
  · (intro W hSw; (try dsimp only at hSw); go_simp; try (with_reducible rfl))
  try simp only [Act.put, List.setIfInBounds_toArray, List.set_cons_zero, List.set_cons_succ]
  refine wpAnyH_take (i := 37) (oi := { dst := some 47, op := _, type := _, pos := _, after := _, guard := _ }) (v := ?_) rfl (by kernel_rfl) (by kernel_rfl) (by kernel_rfl) (fun _ _ _ h => h) (Or.inl ⟨by rfl, ?_⟩) (by assumption) ?_
  rotate_left
  · (intro W hSw; (try dsimp only at hSw); go_simp; try (with_reducible rfl))
  try simp only [Act.put, List.setIfInBounds_toArray, List.set_cons_zero, List.set_cons_succ]
  refine wpAnyH_take (i := 38) (oi := { dst := some 48, op := _, type := _, pos := _, after := _, guard := _ }) (v := ?_) rfl (by kernel_rfl) (by kernel_rfl) (by kernel_rfl) (fun _ _ _ h => h) (Or.inl ⟨by rfl, ?_⟩) (by assumption) ?_
  rotate_left
  · (intro W hSw; (try dsimp only at hSw); go_simp; try (with_reducible rfl))
  try simp only [Act.put, List.setIfInBounds_toArray, List.set_cons_zero, List.set_cons_succ]
  refine wpAnyH_take (i := 39) (oi := { dst := some 49, op := _, type := _, pos := _, after := _, guard := _ }) (v := ?_) rfl (by kernel_rfl) (by kernel_rfl) (by kernel_rfl) (fun _ _ _ h => h) (Or.inl ⟨by rfl, ?_⟩) (by assumption) ?_
  rotate_left
  · (intro W hSw; (try dsimp only at hSw); go_simp; try (with_reducible rfl))
  try simp only [Act.put, List.setIfInBounds_toArray, List.set_cons_zero, List.set_cons_succ]
  refine wpAnyH_take (i := 42) (oi := { dst := some 52, op := _, type := _, pos := _, after := _, guard := _ }) (v := ?_) rfl (by kernel_rfl) (by kernel_rfl) (by kernel_rfl) (fun _ _ _ h => h) (Or.inl ⟨by rfl, ?_⟩) (by assumption) ?_
  rotate_left
  · (intro W hSw; (try dsimp only at hSw); go_simp; try (with_reducible rfl))
  try simp only [Act.put, List.setIfInBounds_toArray, List.set_cons_zero, List.set_cons_succ]
  refine wpAnyH_take (i := 43) (oi := { dst := some 53, op := _, type := _, pos := _, after := _, guard := _ }) (v := ?_) rfl (by kernel_rfl) (by kernel_rfl) (by kernel_rfl) (fun _ _ _ h => h) (Or.inl ⟨by rfl, ?_⟩) (by assumption) ?_
  rotate_left
  · (intro W hSw; (try dsimp only at hSw); go_simp; try (with_reducible rfl))
  try simp only [Act.put, List.setIfInBounds_toArray, List.set_cons_zero, List.set_cons_succ]
  have l1 := flat_len [c.kind, c.client, c.num, c.time, c.queue] q1
  have l2 := flatT_len [c.group, c.body, c.token, c.attempt] q2
  have l3 := flat_len [c.max, c.secs] q3
  have l4 := flat_len [c.lo, c.hi, c.to] q4
  have l5 : (encRcp c.rc).length ≤ 5000 := by
    simp only [rcB, Bool.and_eq_true] at hrc
    have a1 := num_ok hrc.1
    have a2 := num_ok hrc.2.1
    have a3 := num_ok hrc.2.2
    have b1 : (encN c.rc.q).length ≤ 9 := enc_len9 (by omega)
    have b2 : (encN c.rc.s).length ≤ 9 := enc_len9 (by omega)
    have b3 : (encN c.rc.c).length ≤ 9 := enc_len9 (by omega)
    have b4 := enc_len9 (n := c.rc.g.length) (by omega)
    simp only [encRcp, encText, List.length_append]
    omega
  simp only [List.length_cons, List.length_nil] at l1 l2 l3 l4
  refine wpAnyH_lin [0, 11, 12, 21, 22, 27, 28, 31, 40, 41, 44, 45, 46] dstC consC depsC isWC [] (FC base c) Gr U8 (by decide) (by kernel_rfl) ?s0 ?s1 ?step ?fin ?hpre (by decide) hHeld (by decide) rfl
  case s0 =>
    intro i hi v w w' h hg
    simp only [List.mem_cons, List.not_mem_nil, or_false] at hi
    rcases hi with rfl | rfl | rfl | rfl | rfl | rfl | rfl | rfl | rfl | rfl | rfl | rfl | rfl
    · exact Wt.gr h hg
    · exact BI.gr h hg
    · exact Wt.gr h hg
    · exact BT.gr h hg
    · exact Wt.gr h hg
    · exact BI.gr h hg
    · exact Wt.gr h hg
    · exact Wt.gr h hg
    · exact BI.gr h hg
    · exact Wt.gr h hg
    · exact Wt.gr h hg
    · exact Wt.gr h hg
    · exact h
  case s1 =>
    intro i hi hw v w w' h hg
    simp only [List.mem_cons, List.not_mem_nil, or_false] at hi
    rcases hi with rfl | rfl | rfl | rfl | rfl | rfl | rfl | rfl | rfl | rfl | rfl | rfl | rfl
    · cases hw
    · exact BI.u8 h hg
    · cases hw
    · exact BT.u8 h hg
    · cases hw
    · exact BI.u8 h hg
    · cases hw
    · cases hw
    · exact BI.u8 h hg
    · cases hw
    · cases hw
    · cases hw
    · exact h
  case hpre =>
    intro i hi
    cases hi
  case step =>
    intro i hi hip x w hS hF
    simp only [List.mem_cons, List.not_mem_nil, or_false] at hi
    rcases hi with rfl | rfl | rfl | rfl | rfl | rfl | rfl | rfl | rfl | rfl | rfl | rfl | rfl
    · refine op_value rfl rfl (v := .slice (some ⟨w.heap.size, 0, none⟩) 0 0) (w' := w.alloc (.cells #[] 5)) ?_ ⟨_, rfl, hS.gr HB0.out ((Gr.refl w).alloc _), (Wt.new w).mono (Nat.le_trans HB0.out hS.2.1.size), U8.ofGr ((Gr.refl w).alloc _)⟩
      simp only [puts, dstC, Act.put, List.setIfInBounds_toArray, List.set_cons_zero, List.set_cons_succ]
      go_simp
    · refine op_value rfl rfl (v := .slice (some ⟨w.heap.size, 0, none⟩) 5 5) (w' := w.alloc (.cells #[.int .i64 c.kind, .int .i64 c.client, .int .i64 c.num, .int .i64 c.time, .int .i64 c.queue] 3)) ?_ ⟨_, rfl, hS.gr HB0.out ((Gr.refl w).alloc _), ⟨_, rfl, Bx.new w #[.int .i64 c.kind, .int .i64 c.client, .int .i64 c.num, .int .i64 c.time, .int .i64 c.queue] 3⟩, (Gr.refl w).alloc _⟩
      simp only [puts, dstC, Act.put, List.setIfInBounds_toArray, List.set_cons_zero, List.set_cons_succ]
      go_simp
    · obtain ⟨b, hx, hbx⟩ : BI [c.kind, c.client, c.num, c.time, c.queue] (x 11) w := hF 11 (by decide)
      have hw1 : Wt w base (x 0) (([] : Bs)) := hF 0 (by decide)
      refine op_call rfl rfl (f := 14) (args := #[x 0, x 11]) ?_ ?_
      · simp only [puts, dstC, Act.put, List.setIfInBounds_toArray, List.set_cons_zero, List.set_cons_succ]
        go_simp
      · rw [hx]
        refine (nums_any w base (x 0) (([] : Bs)) hw1 (Nat.le_trans HB0.out hS.2.1.size) (by simp only [List.length_append, List.length_nil]; omega) b _ [c.kind, c.client, c.num, c.time, c.queue] hbx (by simp) (q1)).mono ?_
        rintro e w' ⟨v', rfl, hw', hb', hu'⟩
        exact ⟨v', rfl, _, rfl, hS.wrote (by decide) hb' hu', hw', hu'⟩
    · refine op_value rfl rfl (v := .slice (some ⟨w.heap.size, 0, none⟩) 4 4) (w' := w.alloc (.cells #[.string (S c.group), .string (S c.body), .string (S c.token), .string (S c.attempt)] 9)) ?_ ⟨_, rfl, hS.gr HB0.out ((Gr.refl w).alloc _), ⟨_, rfl, Bx.new w #[.string (S c.group), .string (S c.body), .string (S c.token), .string (S c.attempt)] 9⟩, (Gr.refl w).alloc _⟩
      simp only [puts, dstC, Act.put, List.setIfInBounds_toArray, List.set_cons_zero, List.set_cons_succ]
      go_simp
    · obtain ⟨b, hx, hbx⟩ : BT [c.group, c.body, c.token, c.attempt] (x 21) w := hF 21 (by decide)
      have hw1 : Wt w base (x 12) (([] : Bs) ++ [c.kind, c.client, c.num, c.time, c.queue].flatMap encN) := hF 12 (by decide)
      refine op_call rfl rfl (f := 15) (args := #[x 12, x 21]) ?_ ?_
      · simp only [puts, dstC, Act.put, List.setIfInBounds_toArray, List.set_cons_zero, List.set_cons_succ]
        go_simp
      · rw [hx]
        refine (texts_any w base (x 12) (([] : Bs) ++ [c.kind, c.client, c.num, c.time, c.queue].flatMap encN) hw1 (Nat.le_trans HB0.out hS.2.1.size) (by simp only [List.length_append, List.length_nil]; omega) b _ [c.group, c.body, c.token, c.attempt] hbx (by simp) (q2)).mono ?_
        rintro e w' ⟨v', rfl, hw', hb', hu'⟩
        exact ⟨v', rfl, _, rfl, hS.wrote (by decide) hb' hu', hw', hu'⟩
    · refine op_value rfl rfl (v := .slice (some ⟨w.heap.size, 0, none⟩) 2 2) (w' := w.alloc (.cells #[.int .i64 c.max, .int .i64 c.secs] 3)) ?_ ⟨_, rfl, hS.gr HB0.out ((Gr.refl w).alloc _), ⟨_, rfl, Bx.new w #[.int .i64 c.max, .int .i64 c.secs] 3⟩, (Gr.refl w).alloc _⟩
      simp only [puts, dstC, Act.put, List.setIfInBounds_toArray, List.set_cons_zero, List.set_cons_succ]
      go_simp
    · obtain ⟨b, hx, hbx⟩ : BI [c.max, c.secs] (x 27) w := hF 27 (by decide)
      have hw1 : Wt w base (x 22) (([] : Bs) ++ [c.kind, c.client, c.num, c.time, c.queue].flatMap encN ++ [c.group, c.body, c.token, c.attempt].flatMap encText) := hF 22 (by decide)
      refine op_call rfl rfl (f := 14) (args := #[x 22, x 27]) ?_ ?_
      · simp only [puts, dstC, Act.put, List.setIfInBounds_toArray, List.set_cons_zero, List.set_cons_succ]
        go_simp
      · rw [hx]
        refine (nums_any w base (x 22) (([] : Bs) ++ [c.kind, c.client, c.num, c.time, c.queue].flatMap encN ++ [c.group, c.body, c.token, c.attempt].flatMap encText) hw1 (Nat.le_trans HB0.out hS.2.1.size) (by simp only [List.length_append, List.length_nil]; omega) b _ [c.max, c.secs] hbx (by simp) (q3)).mono ?_
        rintro e w' ⟨v', rfl, hw', hb', hu'⟩
        exact ⟨v', rfl, _, rfl, hS.wrote (by decide) hb' hu', hw', hu'⟩
    · have hw1 : Wt w base (x 28) (([] : Bs) ++ [c.kind, c.client, c.num, c.time, c.queue].flatMap encN ++ [c.group, c.body, c.token, c.attempt].flatMap encText ++ [c.max, c.secs].flatMap encN) := hF 28 (by decide)
      refine op_call rfl rfl (f := 16) (args := #[x 28, .agg (Rv c.rc)]) ?_ ?_
      · simp only [puts, dstC, Act.put, List.setIfInBounds_toArray, List.set_cons_zero, List.set_cons_succ]
        go_simp
        try rfl
      · refine (receipt_any w base (x 28) (([] : Bs) ++ [c.kind, c.client, c.num, c.time, c.queue].flatMap encN ++ [c.group, c.body, c.token, c.attempt].flatMap encText ++ [c.max, c.secs].flatMap encN) c.rc hw1 (Nat.le_trans HB0.out hS.2.1.size) (by simp only [List.length_append, List.length_nil]; omega) hrc (by omega)).mono ?_
        rintro e w' ⟨v', rfl, hw', hb', hu'⟩
        exact ⟨v', rfl, _, rfl, hS.wrote (by decide) hb' hu', hw', hu'⟩
    · refine op_value rfl rfl (v := .slice (some ⟨w.heap.size, 0, none⟩) 3 3) (w' := w.alloc (.cells #[.int .i64 c.lo, .int .i64 c.hi, .int .i64 c.to] 3)) ?_ ⟨_, rfl, hS.gr HB0.out ((Gr.refl w).alloc _), ⟨_, rfl, Bx.new w #[.int .i64 c.lo, .int .i64 c.hi, .int .i64 c.to] 3⟩, (Gr.refl w).alloc _⟩
      simp only [puts, dstC, Act.put, List.setIfInBounds_toArray, List.set_cons_zero, List.set_cons_succ]
      go_simp
    · obtain ⟨b, hx, hbx⟩ : BI [c.lo, c.hi, c.to] (x 40) w := hF 40 (by decide)
      have hw1 : Wt w base (x 31) (([] : Bs) ++ [c.kind, c.client, c.num, c.time, c.queue].flatMap encN ++ [c.group, c.body, c.token, c.attempt].flatMap encText ++ [c.max, c.secs].flatMap encN ++ encRcp c.rc) := hF 31 (by decide)
      refine op_call rfl rfl (f := 14) (args := #[x 31, x 40]) ?_ ?_
      · simp only [puts, dstC, Act.put, List.setIfInBounds_toArray, List.set_cons_zero, List.set_cons_succ]
        go_simp
      · rw [hx]
        refine (nums_any w base (x 31) (([] : Bs) ++ [c.kind, c.client, c.num, c.time, c.queue].flatMap encN ++ [c.group, c.body, c.token, c.attempt].flatMap encText ++ [c.max, c.secs].flatMap encN ++ encRcp c.rc) hw1 (Nat.le_trans HB0.out hS.2.1.size) (by simp only [List.length_append, List.length_nil]; omega) b _ [c.lo, c.hi, c.to] hbx (by simp) (q4)).mono ?_
        rintro e w' ⟨v', rfl, hw', hb', hu'⟩
        exact ⟨v', rfl, _, rfl, hS.wrote (by decide) hb' hu', hw', hu'⟩
    · have hw1 : Wt w base (x 41) (([] : Bs) ++ [c.kind, c.client, c.num, c.time, c.queue].flatMap encN ++ [c.group, c.body, c.token, c.attempt].flatMap encText ++ [c.max, c.secs].flatMap encN ++ encRcp c.rc ++ [c.lo, c.hi, c.to].flatMap encN) := hF 41 (by decide)
      refine op_call rfl rfl (f := 17) (args := #[x 41, .slice ao c.data.length cap]) ?_ ?_
      · simp only [puts, dstC, Act.put, List.setIfInBounds_toArray, List.set_cons_zero, List.set_cons_succ]
        go_simp
      · refine (data_any w base (x 41) (([] : Bs) ++ [c.kind, c.client, c.num, c.time, c.queue].flatMap encN ++ [c.group, c.body, c.token, c.attempt].flatMap encText ++ [c.max, c.secs].flatMap encN ++ encRcp c.rc ++ [c.lo, c.hi, c.to].flatMap encN) hw1 (Nat.le_trans HB0.out hS.2.1.size) (by simp only [List.length_append, List.length_nil]; omega) ao cap c.data (HR0.out w hS.2.1) hdl.1 hdl.2).mono ?_
        rintro e w' ⟨v', rfl, hw', hb', hu'⟩
        exact ⟨v', rfl, _, rfl, hS.wrote (by decide) hb' hu', hw', hu'⟩
    · have hw1 : Wt w base (x 44) (([] : Bs) ++ [c.kind, c.client, c.num, c.time, c.queue].flatMap encN ++ [c.group, c.body, c.token, c.attempt].flatMap encText ++ [c.max, c.secs].flatMap encN ++ encRcp c.rc ++ [c.lo, c.hi, c.to].flatMap encN ++ encList encText c.data) := hF 44 (by decide)
      refine op_value rfl rfl (v := x 44) (w' := w) ?_ ⟨_, rfl, hS, hw1, U8.refl w⟩
      simp only [puts, dstC, Act.put, List.setIfInBounds_toArray, List.set_cons_zero, List.set_cons_succ]
      go_simp
    · refine op_value rfl rfl (v := .int .i64 0) (w' := w) ?_ ⟨_, rfl, hS, rfl, Gr.refl w⟩
      simp only [puts, dstC, Act.put, List.setIfInBounds_toArray, List.set_cons_zero, List.set_cons_succ]
      go_simp
  case fin =>
    intro x w2 hS hF
    have hw1 : Wt w2 base (x 45) (([] : Bs) ++ [c.kind, c.client, c.num, c.time, c.queue].flatMap encN ++ [c.group, c.body, c.token, c.attempt].flatMap encText ++ [c.max, c.secs].flatMap encN ++ encRcp c.rc ++ [c.lo, c.hi, c.to].flatMap encN ++ encList encText c.data) := hF 45 (by decide) (by decide)
    have hc0 : x 46 = .int .i64 0 := hF 46 (by decide) (by decide)
    rw [cm_bytes] at hw1
    have HW1 := mkH hw1
    have HS1 := mkH hS
    clear hw1 hF hS hq hHeld
    simp only [puts, dstC, Act.put, List.setIfInBounds_toArray, List.set_cons_zero, List.set_cons_succ]
    go_wp2
    go_ret2
    refine ⟨x 45, ?_, HBE.out ▸ HW1.out, ?_⟩
    · show Ending.returned (.tuple #[x 45, x 46]) = _
      rw [hc0]
    · exact HG1.out.below.trans (HBE.out ▸ HS1.out.2.1)

set_option maxHeartbeats 4000000 in
theorem cmd_bad (w : World) (c : Cm) (ao : Option Addr) (cap : Nat) (hr : RowT w ao c.data) (hlen : c.data.length ≤ 1000000) (hck : checkC c ≠ 0) :
    Calls Tryz.prog 5 #[.agg (Cv c (.slice ao c.data.length cap))] w fun e w' => e = .returned (.tuple #[.slice none 0 0, .int .i64 (checkC c : Int)]) ∧ Below w.heap.size w w' := by
  have H1 := check_any (w.alloc (.cells (Cv c (.slice ao c.data.length cap)) 33)) c ao cap (RowT.gr hr ((Gr.refl w).alloc _)) hlen
  have HB := mkH (Bx.new w (Cv c (.slice ao c.data.length cap)) 33)
  have HG := mkH ((Gr.refl w).alloc (.cells (Cv c (.slice ao c.data.length cap)) 33))
  have HL := mkH (load_cm HB.out)
  generalize Cv c (.slice ao c.data.length cap) = C at *
  generalize checkC c = j at *
  have te : ((j : Int) == 0) = false := by simp; omega
  clear hck
  go_enter Tryz.func5, Tryz.ntmps5
  go_wp2_with (refine wpList_ld (ty := 33) (x := .tmp 1) rfl rfl rfl HL.out ?_)
  refine H1.mono ?_
  rintro e w1 ⟨rfl, hg1⟩
  have HG1 := mkH (HG.out.trans hg1)
  clear H1 HB HG HL hg1 hr
  go_wp2
  go_ret2
  exact ⟨rfl, HG1.out.below⟩
end Go.Proofs.YtcpmcfagibmboabGreat.Wy

namespace Go.Proofs.YtcpmcfagibmboabGreat.Wx
open Go
set_option linter.unusedVariables false
section
variable {P : Program} {ops : Array Oper} {Q : Exit → Act → World → Prop} {S : World → Prop} {md : Region.Mode}

/-- A frame in which some slots hold what x says. -/
def puts2 (dst : Nat → Option Tmp) (a0 : Act) (x : Nat → Value) : List Nat → Act
  | [] => a0
  | i :: U => (puts2 dst a0 x U).put (dst i) (x i)
theorem put_put2 (a : Act) (d : Option Tmp) (u v : Value) : (a.put d u).put d v = a.put d v := by
  cases d with
  | none => rfl
  | some d => exact put_put a d u v
theorem put_comm2 (a : Act) {d e : Option Tmp} (u v : Value) (h : d = e → d = none) : (a.put d u).put e v = (a.put e v).put d u := by
  cases d with
  | none => rfl
  | some d =>
    cases e with
    | none => rfl
    | some e => exact put_comm a u v (fun he => by cases h (by rw [he]))
theorem puts2_same {dst : Nat → Option Tmp} {a0 : Act} {x : Nat → Value} {j : Nat} {v : Value} : ∀ (U : List Nat), j ∉ U → puts2 dst a0 (fun k => if k = j then v else x k) U = puts2 dst a0 x U
  | [], _ => rfl
  | i :: U, h => by
    rw [List.mem_cons, not_or] at h
    unfold puts2
    rw [puts2_same U h.2]
    simp [show i ≠ j from fun e => h.1 e.symm]
theorem puts2_put {dst : Nat → Option Tmp} {a0 : Act} {x : Nat → Value} {j : Nat} {v : Value} : ∀ (U : List Nat), j ∈ U → U.Nodup → (∀ i ∈ U, ∀ k ∈ U, dst i = dst k → dst i ≠ none → i = k) →
    (puts2 dst a0 x U).put (dst j) v = puts2 dst a0 (fun k => if k = j then v else x k) U
  | [], h, _, _ => by cases h
  | i :: U, h, hn, hd => by
    rw [List.nodup_cons] at hn
    by_cases hij : i = j
    · subst hij
      simp only [puts2]
      rw [put_put2, puts2_same U hn.1]
      simp
    · have hj : j ∈ U := by
        rcases List.mem_cons.1 h with h | h
        · exact absurd h.symm hij
        · exact h
      simp only [puts2]
      rw [put_comm2 _ _ _ (fun e => Classical.byContradiction fun hne => hij (hd i (by simp) j (by simp [hj]) e hne)), puts2_put U hj hn.2 (fun a ha b hb => hd a (by simp [ha]) b (by simp [hb]))]
      simp [hij]

/-- What is asked of a region's shape: all but U has come; who takes what; those that write come one behind the other. -/
def shape2 (md : Region.Mode) (ops : Array Oper) (U : List Nat) (dst : Nat → Option Nat) (cons : Nat → Nat) (deps reads : Nat → List Nat) (isW : Nat → Bool) (pre : List Nat) (listed : Array Bool) : Bool :=
  (List.range listed.size).all (fun j => U.contains j || listed[j]? == some true) &&
  U.all (fun i => (if pre.contains i then listed[i]? == some true && (!isW i || U.all (fun k => !isW k || !decide (k < i))) else listed[i]? == some false) && U.all (fun k => dst i != dst k || i == k || dst i == none) && (deps i).all (fun d => U.contains d && cons d == i && ((ops[i]?).map fun o => o.after.toList.any fun e => Region.binds md e && e.on == d).getD false)) &&
  U.all (fun i => (reads i).all (fun r => U.contains r && U.contains (cons r) && !pre.contains (cons r) && (pre.contains r || ((ops[i]?).map fun o => o.after.toList.any fun e => Region.binds md e && e.on == r).getD false) && ((ops[cons r]?).map fun o => o.after.toList.any fun e => Region.binds md e && e.on == i).getD false)) &&
  U.all (fun j => !isW j || U.all (fun i => !isW i || !decide (i < j) || ((deps j).any (fun p => isW p && decide (i ≤ p)) && decide (cons i ≤ j) && isW (cons i) && U.contains (cons i)))) &&
  U.all (fun i => ((ops[i]?).map fun o => o.after.toList.all fun e => decide (e.on < i)).getD false)

/-- Whatever order comes: each operation finds what it takes, and leaves what it makes. -/
theorem wpAnyH_linear2 (U : List Nat) (dst : Nat → Option Nat) (cons : Nat → Nat) (deps reads : Nat → List Nat) (isW : Nat → Bool) (pre : List Nat) (F : Nat → Value → World → Prop) (R0 R1 : World → World → Prop) (a0 : Act) (x0 : Nat → Value) (listed0 : Array Bool) (w0 : World) (fuel : Nat)
    (hU : U.Nodup) (hsh : shape2 md ops U dst cons deps reads isW pre listed0 = true)
    (s0 : ∀ i ∈ U, ∀ v w w', F i v w → R0 w w' → F i v w') (s1 : ∀ i ∈ U, isW i = false → ∀ v w w', F i v w → R1 w w' → F i v w')
    (step : ∀ i ∈ U, i ∉ pre → ∀ x w, S w → (∀ d ∈ deps i, F d (x d) w) → (∀ d ∈ reads i, F d (x d) w) → wpOp P ops Q i (fun a' w' => ∃ v, a' = (puts2 dst a0 x U).put (dst i) v ∧ S w' ∧ F i v w' ∧ (if isW i then R1 w w' else R0 w w')) (puts2 dst a0 x U) w)
    (fin : ∀ x w, S w → (∀ i ∈ U, cons i ∉ U → F i (x i) w) → Q .normal (puts2 dst a0 x U) w)
    (hpre : ∀ i ∈ pre, F i (x0 i) w0) (hf : unl listed0 ≤ fuel) (hS : S w0) (hc : ∀ i ∈ U, cons i ∉ U → ops.size ≤ cons i) (hz : listed0.size = ops.size) : wpAnyH P md ops Q S fuel listed0 (puts2 dst a0 x0 U) w0 := by
  simp only [shape2, Bool.and_eq_true, List.all_eq_true, List.mem_range, Bool.or_eq_true, List.contains_iff_mem, beq_iff_eq, Bool.not_eq_true', List.any_eq_true, decide_eq_true_eq, decide_eq_false_iff_not, bne_iff_ne, ne_eq] at hsh
  obtain ⟨⟨⟨⟨g1, g2⟩, g5⟩, g3⟩, g4⟩ := hsh
  have hin : ∀ i ∈ U, (i ∈ pre ∧ listed0[i]? = some true ∧ (isW i = true → ∀ k ∈ U, isW k = true → ¬ k < i)) ∨ (i ∉ pre ∧ listed0[i]? = some false) := fun i hi => by
    have h1 := (g2 i hi).1.1
    by_cases hp : i ∈ pre
    · left
      rw [if_pos hp] at h1
      simp only [Bool.and_eq_true, beq_iff_eq, Bool.or_eq_true, Bool.not_eq_true', List.all_eq_true, decide_eq_false_iff_not] at h1
      refine ⟨hp, h1.1, fun hw k hk hwk => ?_⟩
      rcases h1.2 with h | h
      · rw [hw] at h; cases h
      · rcases h k hk with h | h
        · rw [hwk] at h; cases h
        · exact h
    · right
      rw [if_neg hp] at h1
      exact ⟨hp, by simpa using h1⟩
  have hd : ∀ i ∈ U, ∀ k ∈ U, dst i = dst k → dst i ≠ none → i = k := fun i hi k hk e hne => by
    rcases (((g2 i hi).1.2) k hk) with (h | h) | h
    · exact absurd e h
    · exact h
    · exact absurd h hne
  have hrd : ∀ i ∈ U, ∀ r ∈ reads i, r ∈ U ∧ cons r ∈ U ∧ cons r ∉ pre ∧ (r ∈ pre ∨ ((ops[i]?).map fun o => o.after.toList.any fun e => Region.binds md e && e.on == r).getD false = true) ∧ ((ops[cons r]?).map fun o => o.after.toList.any fun e => Region.binds md e && e.on == i).getD false = true := fun i hi r hr => by
    have h := g5 i hi r hr
    refine ⟨h.1.1.1.1, h.1.1.1.2, ?_, h.1.2, h.2⟩
    have := h.1.1.2
    simpa using this
  have hdep : ∀ i ∈ U, ∀ d ∈ deps i, d ∈ U ∧ cons d = i ∧ ((ops[i]?).map fun o => o.after.toList.any fun e => Region.binds md e && e.on == d).getD false = true := fun i hi d hd => by
    have := (g2 i hi).2 d hd
    exact ⟨this.1.1, this.1.2, this.2⟩
  have hwr : ∀ j ∈ U, isW j = true → ∀ i ∈ U, isW i = true → i < j → (∃ p ∈ deps j, isW p = true ∧ i ≤ p) ∧ cons i ≤ j ∧ isW (cons i) = true ∧ cons i ∈ U := fun j hj wj i hi wi hij => by
    rcases g3 j hj with h | h
    · rw [wj] at h; cases h
    · rcases h i hi with (h | h) | h
      · rw [wi] at h; cases h
      · exact absurd hij h
      · exact ⟨h.1.1.1, h.1.1.2, h.1.2, h.2⟩
  refine wpAnyH_inv (fun listed a w => ∃ x, a = puts2 dst a0 x U ∧ listed.size = ops.size ∧ (∀ j, j ∉ U → listed[j]? = listed0[j]?) ∧ (∀ i ∈ U, listed[i]? = some true → listed[cons i]? ≠ some true → F i (x i) w) ∧
      (∀ i ∈ U, ∀ j ∈ U, isW i = true → isW j = true → i < j → listed[j]? = some true → listed[i]? = some true) ∧ (∀ i ∈ U, i ∈ pre → listed[i]? = some true) ∧ (∀ j ∈ U, j ∉ pre → listed[j]? = some true → ∀ o, ops[j]? = some o → ∀ e ∈ o.after, Region.binds md e = true → listed[e.on]? = some true)) ?_ ?_ fuel listed0 _ w0 hf ?_ hS
  · rintro listed a w ⟨x, rfl, hsz, hout, hfact, hcl, hpl, hca⟩ hSw i hi
    obtain ⟨hun, o, ho, haft⟩ := mem_ready.1 hi
    have hun := getD_false hun
    have hilt : i < listed.size := (Array.getElem?_eq_some_iff.1 hun).1
    have hiU : i ∈ U := by
      rcases g1 i (by rw [hz]; omega) with h | h
      · exact h
      · by_cases hiU : i ∈ U
        · exact hiU
        · rw [hout i hiU, h] at hun; cases hun
    have hdl : ∀ d ∈ deps i, listed[d]? = some true := fun d hdm => by
      have h3 := (hdep i hiU d hdm).2.2
      rw [ho] at h3
      simp only [Option.map_some, Option.getD_some, List.any_eq_true, Bool.and_eq_true, beq_iff_eq] at h3
      obtain ⟨e, he, hb, rfl⟩ := h3
      exact getD_true (haft e (by simpa using he) hb)
    have hFd : ∀ d ∈ deps i, F d (x d) w := fun d hdm => by
      have h3 := hdep i hiU d hdm
      refine hfact d h3.1 (hdl d hdm) ?_
      rw [h3.2.1, hun]; simp
    have hip : i ∉ pre := fun h => by have := hpl i hiU h; rw [hun] at this; cases this
    have hFr : ∀ d ∈ reads i, F d (x d) w := fun d hdm => by
      obtain ⟨h1, h2, h3, h4, h5⟩ := hrd i hiU d hdm
      refine hfact d h1 ?_ (fun hc => ?_)
      · rcases h4 with h4 | h4
        · exact hpl d h1 h4
        · rw [ho] at h4
          simp only [Option.map_some, Option.getD_some, List.any_eq_true, Bool.and_eq_true, beq_iff_eq] at h4
          obtain ⟨e, he, hb, rfl⟩ := h4
          exact getD_true (haft e (by simpa using he) hb)
      · cases hoc : ops[cons d]? with
        | none => rw [hoc] at h5; simp at h5
        | some oc =>
          rw [hoc] at h5
          simp only [Option.map_some, Option.getD_some, List.any_eq_true, Bool.and_eq_true, beq_iff_eq] at h5
          obtain ⟨e, he, hb, he2⟩ := h5
          have := hca (cons d) h2 h3 hc oc hoc e (by simpa using he) hb
          rw [he2, hun] at this
          cases this
    refine wpOp_mono ?_ (step i hiU hip x w hSw hFd hFr)
    rintro a' w' ⟨v, rfl, hS', hFi, hR⟩
    have hset : ∀ k, (listed.setIfInBounds i true)[k]? = if k = i then some true else listed[k]? := fun k => by
      by_cases hk : k = i
      · subst hk; rw [if_pos rfl, Array.getElem?_setIfInBounds_self_of_lt hilt]
      · rw [if_neg hk, Array.getElem?_setIfInBounds_ne (fun e => hk e.symm)]
    refine ⟨hS', fun k => if k = i then v else x k, puts2_put U hiU hU hd, by simpa using hsz, fun j hj => ?_, fun k hk hkl hkc => ?_, fun i1 h1 j1 h2 w1 w2 hlt hl => ?_, fun i1 h1 h2 => ?_, fun j hj hjp hjl oj hoj e he hb => ?_⟩
    · rw [hset, if_neg (fun (e : j = i) => hj (e ▸ hiU))]; exact hout j hj
    · rw [hset] at hkl hkc
      by_cases hki : k = i
      · subst hki; simpa using hFi
      · rw [if_neg hki] at hkl
        have hci : cons k ≠ i := fun e => by rw [if_pos e] at hkc; exact hkc rfl
        rw [if_neg hci] at hkc
        have hF := hfact k hk hkl hkc
        simp only [hki, if_false]
        cases hwi : isW i with
        | false => rw [hwi] at hR; exact s0 k hk _ _ _ hF (by simpa using hR)
        | true =>
          rw [hwi] at hR
          cases hwk : isW k with
          | false => exact s1 k hk hwk _ _ _ hF (by simpa using hR)
          | true =>
            exfalso
            rcases Nat.lt_or_ge k i with hlt | hge
            · obtain ⟨⟨p, hp, wp, hkp⟩, -⟩ := hwr i hiU hwi k hk hwk hlt
              have hpl := hdl p hp
              have hpU := (hdep i hiU p hp).1
              rcases Nat.lt_or_ge k p with h | h
              · obtain ⟨-, hcp, hcw, hcU⟩ := hwr p hpU wp k hk hwk h
                rcases Nat.lt_or_ge (cons k) p with h5 | h5
                · exact hkc (hcl (cons k) hcU p hpU hcw wp h5 hpl)
                · have : cons k = p := by omega
                  rw [this] at hkc; exact hkc hpl
              · have : k = p := by omega
                subst this
                exact hci (hdep i hiU k hp).2.1
            · have := hcl i hiU k hk hwi hwk (by omega) hkl
              rw [hun] at this; cases this
    · rw [hset] at hl ⊢
      by_cases h3 : i1 = i
      · rw [if_pos h3]
      · rw [if_neg h3]
        by_cases h4 : j1 = i
        · subst h4
          obtain ⟨⟨p, hp, wp, hkp⟩, -⟩ := hwr j1 h2 w2 i1 h1 w1 hlt
          rcases Nat.lt_or_ge i1 p with h | h
          · exact hcl i1 h1 p (hdep j1 h2 p hp).1 w1 wp h (hdl p hp)
          · have : i1 = p := by omega
            rw [this]; exact hdl p hp
        · rw [if_neg h4] at hl
          exact hcl i1 h1 j1 h2 w1 w2 hlt hl
    · rw [hset]
      by_cases h3 : i1 = i
      · rw [if_pos h3]
      · rw [if_neg h3]; exact hpl i1 h1 h2
    · rw [hset] at hjl ⊢
      by_cases h3 : e.on = i
      · rw [if_pos h3]
      · rw [if_neg h3]
        by_cases h4 : j = i
        · subst h4
          rw [ho] at hoj
          injection hoj with hoj
          subst hoj
          exact getD_true (haft e he hb)
        · rw [if_neg h4] at hjl
          exact hca j hj hjp hjl oj hoj e he hb
  · rintro listed a w ⟨x, rfl, hsz, hout, hfact, hcl, hpl, hca⟩ hSw hrdy
    have hall : ∀ n i, i < n → i < listed.size → listed[i]? = some true := by
      intro n
      induction n with
      | zero => intro i hi; omega
      | succ n ih =>
        intro i hi hl
        by_cases hiU : i ∈ U
        · by_cases ht : listed[i]? = some true
          · exact ht
          · exfalso
            have hfalse : listed[i]? = some false := by
              rw [Array.getElem?_eq_getElem hl] at ht ⊢
              cases hb : listed[i] with
              | true => rw [hb] at ht; exact absurd rfl ht
              | false => rfl
            have ho : ops[i]? = some ops[i] := Array.getElem?_eq_getElem (by omega)
            have h4 := g4 i hiU
            rw [ho] at h4
            simp only [Option.map_some, Option.getD_some, List.all_eq_true, decide_eq_true_eq] at h4
            have : i ∈ Region.ready md ops listed := mem_ready.2 ⟨by simp [Array.getD, hl, (Array.getElem?_eq_some_iff.1 hfalse).2], ops[i], ho, fun e he hb => by
              have h5 := h4 e (by simpa using he)
              have h6 := ih e.on (by omega) (by omega)
              obtain ⟨h7, h8⟩ := Array.getElem?_eq_some_iff.1 h6
              simp [Array.getD, h7, h8]⟩
            rw [hrdy] at this
            cases this
        · rw [hout i hiU]
          rcases g1 i (by omega) with h | h
          · exact absurd h hiU
          · exact h
    refine fin x w hSw (fun i hi hci => hfact i hi (hall (i + 1) i (by omega) ?_) ?_)
    · rcases hin i hi with h | h
      · have := (Array.getElem?_eq_some_iff.1 h.2.1).1; omega
      · have := (Array.getElem?_eq_some_iff.1 h.2).1; omega
    · rw [Array.getElem?_eq_none (by have := hc i hi hci; omega)]; simp
  · refine ⟨x0, rfl, hz, fun _ _ => rfl, fun i hi hl _ => ?_, fun i hi j hj hwi hwj hij hl => ?_, fun i hi hp => ?_, fun j hj hjp hl => ?_⟩
    · rcases hin i hi with h | h
      · exact hpre i h.1
      · rw [h.2] at hl; cases hl
    · rcases hin j hj with h | h
      · exact absurd hij (h.2.2 hwj i hi hwi)
      · rw [h.2] at hl; cases hl
    · rcases hin i hi with h | h
      · exact h.2.1
      · exact absurd hp h.1
    · rcases hin j hj with h | h
      · exact absurd h.1 hjp
      · rw [h.2] at hl; cases hl

def slot (a : Act) (d : Option Tmp) : Value := match d with
  | none => undef
  | some d => a.tmps.getD d undef
theorem put_slot (a : Act) (d : Option Tmp) : a.put d (slot a d) = a := by
  cases d with
  | none => rfl
  | some d => exact put_self a d
theorem puts2_self (dst : Nat → Option Tmp) (a : Act) : ∀ U : List Nat, puts2 dst a (fun i => slot a (dst i)) U = a
  | [] => rfl
  | i :: U => by unfold puts2; rw [puts2_self dst a U, put_slot]
theorem wpAnyH_lin2 {fuel : Nat} {listed0 : Array Bool} {a : Act} {w0 : World} (U : List Nat) (dst : Nat → Option Nat) (cons : Nat → Nat) (deps reads : Nat → List Nat) (isW : Nat → Bool) (pre : List Nat) (F : Nat → Value → World → Prop) (R0 R1 : World → World → Prop)
    (hU : U.Nodup) (hsh : shape2 md ops U dst cons deps reads isW pre listed0 = true)
    (s0 : ∀ i ∈ U, ∀ v w w', F i v w → R0 w w' → F i v w') (s1 : ∀ i ∈ U, isW i = false → ∀ v w w', F i v w → R1 w w' → F i v w')
    (step : ∀ i ∈ U, i ∉ pre → ∀ x w, S w → (∀ d ∈ deps i, F d (x d) w) → (∀ d ∈ reads i, F d (x d) w) → wpOp P ops Q i (fun a' w' => ∃ v, a' = (puts2 dst a x U).put (dst i) v ∧ S w' ∧ F i v w' ∧ (if isW i then R1 w w' else R0 w w')) (puts2 dst a x U) w)
    (fin : ∀ x w, S w → (∀ i ∈ U, cons i ∉ U → F i (x i) w) → Q .normal (puts2 dst a x U) w)
    (hpre : ∀ i ∈ pre, F i (slot a (dst i)) w0) (hf : unl listed0 ≤ fuel) (hS : S w0) (hc : ∀ i ∈ U, cons i ∉ U → ops.size ≤ cons i) (hz : listed0.size = ops.size) : wpAnyH P md ops Q S fuel listed0 a w0 := by
  have := wpAnyH_linear2 (P := P) (Q := Q) (S := S) (md := md) U dst cons deps reads isW pre F R0 R1 a (fun i => slot a (dst i)) listed0 w0 fuel hU hsh s0 s1 step fin hpre hf hS hc hz
  rwa [puts2_self] at this


/-- One operation alone may come. -/
theorem wpAnyH_one {i fuel : Nat} {listed : Array Bool} {a : Act} {w : World} (hr : Region.ready md ops listed = [i]) (h : wpOp P ops Q i (fun a' w' => S w' ∧ wpAnyH P md ops Q S fuel (listed.setIfInBounds i true) a' w') a w) : wpAnyH P md ops Q S (fuel + 1) listed a w := by
  refine ⟨fun h0 => ?_, fun j hj => ?_⟩
  · rw [hr] at h0; cases h0
  · rw [hr] at hj
    obtain rfl := List.mem_singleton.1 hj
    exact h
theorem run_app {o : Oper} {a : Act} {s x : Operand} {t tx : TypeId} {v xv v' : Value} {w w' : World} (ho : o.op = .call { callee := .builtin .append, args := #[s, x], argTypes := #[t, tx] }) (hs : a.eval s = v) (hx : a.eval x = xv)
    (hr : (Builtin.append_ #[t, tx] o.type #[v, xv]).run P w = .ok v' w') : (execOp a.eval o).run P w = .ok (.value v') w' := by
  unfold execOp
  simp only [ho, resolve, invoke, builtin, Sem.run_bind, Sem.run_pure, Result.andThen_ok, List.map_toArray, List.map_cons, List.map_nil, hs, hx, hr]
theorem op_skip {i : Nat} {o : Oper} {a : Act} {w w' : World} {K : Act → World → Prop} (ho : ops[i]? = some o) (hg : o.guard = none) (hrun : (execOp a.eval o).run P w = .ok .skip w') (hK : K (a.put o.dst undef) w') : wpOp P ops Q i K a w := by
  refine wpOp_step ho (fun K' hK' => ?_)
  rw [if_pos (wanted_plain hg)]
  unfold Oper.wp
  rw [hrun]
  exact hK' _ _ hK
end
end Go.Proofs.YtcpmcfagibmboabGreat.Wx

namespace Go.Proofs.YtcpmcfagibmboabGreat.Wb
open Go.RowKit Kt Pl Wi Wk Ww Wx Wf Wy
open At (RowT okT)
set_option linter.unusedVariables false
set_option linter.unusedSimpArgs false
set_option maxRecDepth 20000

theorem S_take (s : Bs) (n : Nat) : (S s).extract 0 n = S (s.take n) := by
  apply ByteArray.ext
  simp [S, ByteArray.data_extract]

theorem S_all (s : Bs) : (S s).extract 0 (S s).size = S s := by
  have := S_take s s.length
  rw [List.take_of_length_le (Nat.le_refl _)] at this
  exact this

/-- What the laws' 'data' leaves. -/
def dataC (l : List Bs) : List Bs := (l.take 1100).map (·.take 4100)
theorem dataC_len (l : List Bs) : (dataC l).length ≤ 1100 := by unfold dataC; rw [List.length_map, List.length_take]; omega
theorem dataC_snoc {l : List Bs} {k : Nat} {x : Bs} (h : l[k]? = some x) (hk : k < 1100) : dataC (l.take (k + 1)) = dataC (l.take k) ++ [x.take 4100] := by
  unfold dataC
  rw [List.take_take, List.take_take, show min 1100 (k + 1) = k + 1 by omega, show min 1100 k = k by omega, List.take_add_one, h]
  simp
theorem dataC_take {l : List Bs} {k : Nat} (hk : k ≤ 1100) : (dataC (l.take k)).length ≤ k := by unfold dataC; rw [List.length_map, List.length_take, List.length_take]; omega
theorem dataC_all {l : List Bs} {k : Nat} (hk : k = l.length ∨ k = 1100) : dataC (l.take k) = dataC l := by
  unfold dataC
  rcases hk with rfl | rfl
  · rw [List.take_of_length_le (l := l) (Nat.le_refl _)]
  · rw [List.take_take]; simp
theorem info9 : (Tryz.prog.info? 9).map (fun i => (i.zero, i.size, i.bytes)) = some (some (.string ByteArray.empty), 1, 16) := by kernel_rfl
theorem own_snoc {w : World} {base e : Nat} {v : Value} {l : List Bs} {n : Bs} (h : w.ownsRow base e 1 v (l.length + 1) (T l ++ [.string (S n)])) : w.ownsRow base e 1 v (l ++ [n]).length (T (l ++ [n])) := by
  rw [List.length_append, T_append]; exact h
theorem own_lt {w : World} {base e n : Nat} {ao : Option Addr} {cap : Nat} {xs : List Value} (h : w.ownsRow base e 1 (.slice ao n cap) n xs) : ∀ a, ao = some a → base ≤ a.block := by
  rintro a rfl
  rcases h.2 with ⟨e1, _⟩ | ⟨g, c, cur, e1, h2, _⟩
  · simp at e1
  · simp only [Value.slice.injEq, Option.some.injEq] at e1
    rw [e1.1]; exact h2

/-- A slice of texts, of memory since w. -/
def TextsOut (w : World) (l : List Bs) (e : Ending) (w' : World) : Prop := ∃ ao' cap', e = .returned (.slice ao' l.length cap') ∧ RowT w' ao' l ∧ (∀ a, ao' = some a → w.heap.size ≤ a.block) ∧ Below w.heap.size w w'
end Go.Proofs.YtcpmcfagibmboabGreat.Wb

namespace Go.Proofs.YtcpmcfagibmboabGreat.Wk
open Go.RowKit Kt Pl Wi Wx
open At (RowT)
set_option linter.unusedVariables false

theorem Bx.set {w : World} {b : Nat} {cs : Array Value} {t : TypeId} (h : Bx w b cs t) (k : Nat) (v : Value) : Bx (w.setCell ⟨b, k, none⟩ v) b (cs.setIfInBounds k v) t := heap_setCell_same w b k cs t v h
theorem Bx.frozen {w : World} {b : Nat} {cs : Array Value} {t : TypeId} (h : Bx w b cs t) (k : Nat) : w.frozen? ⟨b, k, none⟩ = false := frozen_of_row w b k cs t h
theorem Bx.other {w : World} {b : Nat} {cs : Array Value} {t : TypeId} (h : Bx w b cs t) {p : Addr} (hp : p.block ≠ b) (v : Value) : Bx (w.setCell p v) b cs t := (heap_setCell_other w p b v (fun e => hp e.symm)).trans h
theorem Bx.row {w : World} {b : Nat} {cs old : Array Value} {t : TypeId} (h : Bx w b old t) (hs : old.size = cs.size) : Bx (w.setRow b cs) b cs t := setRow_heap w b old cs t (0, 0) h
theorem Bx.rowOther {w : World} {b g : Nat} {cs : Array Value} {t : TypeId} (h : Bx w b cs t) (hg : g ≠ b) (ds : Array Value) : Bx (w.setRow g ds) b cs t := (setRow_other w g b ds (fun e => hg e.symm)).trans h

theorem RowT.setCell {w : World} {ao : Option Addr} {l : List Bs} (h : RowT w ao l) {p : Addr} (hp : ∀ a, ao = some a → a.block ≠ p.block) (v : Value) : RowT (w.setCell p v) ao l := by
  intro hl
  obtain ⟨b, off, rfl, hc⟩ := h hl
  refine ⟨b, off, rfl, fun i hi => ?_⟩
  rw [World.cell?_setCell_other _ _ _ _ (fun e => hp _ rfl (by rw [e]))]
  exact hc i hi
theorem RowT.setRow {w : World} {ao : Option Addr} {l : List Bs} (h : RowT w ao l) {g : Nat} (hp : ∀ a, ao = some a → a.block ≠ g) (cs : Array Value) : RowT (w.setRow g cs) ao l := by
  intro hl
  obtain ⟨b, off, rfl, hc⟩ := h hl
  refine ⟨b, off, rfl, fun i hi => ?_⟩
  rw [World.cell?_of_block (w := w) (a := ⟨b, off + i, none⟩) (setRow_other w g b cs (hp _ rfl))]
  exact hc i hi
theorem below_setRow {B g : Nat} {a w : World} (h : Below B a w) (hg : B ≤ g) (cs : Array Value) : Below B a (w.setRow g cs) :=
  ⟨h.os, h.tape, h.output, by rw [setRow_size]; exact h.size, fun k hk => (setRow_other w g k cs (by omega)).trans (h.block k hk)⟩

section
variable {P : Program} {w : World} {ops : Array Oper} {rest : List Oper} {o : Oper} {a : Act} {Q : Exit → Act → World → Prop}
theorem run_st {ty : TypeId} {x y : Operand} {b : Nat} {cs old : Array Value} {t : TypeId} (ho : o.op = .store ty x y) (hx : a.eval x = .pointer (some ⟨b, 0, none⟩)) (hy : a.eval y = .agg cs) (hg : Bx w b old t) (hi : (P.info? ty).map (·.size) = some cs.size) (hold : old.size = cs.size) (h1 : cs.all (fun x => x.oneCell') = true) :
    (execOp a.eval o).run P w = .ok .skip (w.setRow b cs) ∨ (execOp a.eval o).run P w = .ok (.value undef) (w.setRow b cs) := by
  have hr := run_storeVar_row (P := P) w b t ty old cs hg hi hold h1
  unfold execOp
  simp only [ho, Instr.storeAt, Instr.sureAddr, hx, hy, Sem.run_bind, Sem.run_pure, Result.andThen_ok, hr]
  simp
theorem wpList_st (hgd : o.guard = none) {ty : TypeId} {x y : Operand} {b : Nat} {cs old : Array Value} {t : TypeId} (ho : o.op = .store ty x y) (hx : a.eval x = .pointer (some ⟨b, 0, none⟩)) (hy : a.eval y = .agg cs) (hg : Bx w b old t) (hi : (P.info? ty).map (·.size) = some cs.size) (hold : old.size = cs.size) (h1 : cs.all (fun x => x.oneCell') = true)
    (h : wpList P ops Q rest (a.put o.dst undef) (w.setRow b cs)) : wpList P ops Q (o :: rest) a w := by
  refine wpList_plain hgd fun _ hK => ?_
  unfold Oper.wp
  rcases run_st (P := P) ho hx hy hg hi hold h1 with e | e <;> rw [e] <;> exact hK _ _ h
theorem results_cell {fn : Func} {p : Tmp} {ty : TypeId} (h : fn.results = #[.cell p ty]) (tmps : Array Value) (P : Program) (w : World) :
    (results fn tmps).run P w = ((asAddr (tmps.getD p undef)).run P w).andThen fun a w₁ => (loadVar ty a).run P w₁ := by
  simp only [results, h]
  simp [Sem.run_bind, Result.andThen]
theorem ret_bx {fn : Func} {R : Ending → World → Prop} (p : Tmp) (ty : TypeId) (h : fn.results = #[.cell p ty]) (b : Nat) (hp : a.tmps.getD p undef = .pointer (some ⟨b, 0, none⟩)) {v : Value} (hl : (loadVar ty ⟨b, 0, none⟩).run P w = .ok v w) (hdf : a.defers = []) (hR : R (.returned v) w) : bodyPost P fn R .ret a w := by
  refine bodyPost_ret (v := v) ?_ hdf hR
  rw [results_cell h, hp]
  simp [asAddr, Result.andThen, hl]
end
end Go.Proofs.YtcpmcfagibmboabGreat.Wk

namespace Go.Proofs.YtcpmcfagibmboabGreat.Wq
open Go.RowKit Kt Pl Wi Wk Rd Lt Fw
open At (RowT)
set_option linter.unusedVariables false
set_option linter.unusedSimpArgs false
set_option maxRecDepth 20000

/-- What a reader stops with. -/
def stopE (er : Nat) : Ending := .panicked [{ v := .iface 124 (.agg #[.int .i64 er]), recovered := false }]

theorem stopAt_ok (w : World) : Calls Tryz.prog 67 #[.int .i64 0] w fun e w' => e = .returned (.tuple #[]) ∧ w' = w := by
  go_enter Tryz.func67, Tryz.ntmps67
  go_wp2
  go_end0
  exact ⟨rfl, rfl⟩

theorem stopAt_bad (w : World) (er : Nat) (h : er ≠ 0) : Calls Tryz.prog 67 #[.int .i64 er] w fun e w' => e = stopE er ∧ w' = w := by
  have te : ((er : Int) == 0) = false := by simp; omega
  clear h
  go_enter Tryz.func67, Tryz.ntmps67
  go_wp2
  exact ⟨rfl, rfl, rfl⟩

/-- Nothing old has turned but the block rb. -/
def On (rb : Nat) (w w' : World) : Prop := w.grownBy w' (some rb)

theorem On.refl (b : Nat) (w : World) : On b w w := ⟨rfl, rfl, rfl, Nat.le_refl _, fun _ _ _ => rfl⟩

theorem On.trans {b : Nat} {w w1 w2 : World} (h : On b w w1) (k : On b w1 w2) : On b w w2 :=
  ⟨k.os.trans h.os, k.tape.trans h.tape, k.output.trans h.output, Nat.le_trans h.size k.size, fun i hi hne => (k.block i (Nat.lt_of_lt_of_le hi h.size) hne).trans (h.block i hi hne)⟩

theorem On.ofBelow {b : Nat} {w w' : World} (h : Below w.heap.size w w') : On b w w' := ⟨h.os, h.tape, h.output, h.size, fun k hk _ => h.block k hk⟩

theorem On.setCell {b : Nat} {w w' : World} (h : On b w w') (k : Nat) (v : Value) : On b w (w'.setCell ⟨b, k, none⟩ v) :=
  h.trans ⟨rfl, rfl, rfl, by simp, fun i _ hne => heap_setCell_other w' ⟨b, k, none⟩ i v (fun e => hne (by rw [e]))⟩

theorem On.heap {b : Nat} {w w' : World} (h : On b w w') {k : Nat} (hk : k < w.heap.size) (hne : k ≠ b) : w'.heap[k]? = w.heap[k]? := h.block k hk (by simpa using hne)

theorem On.below {b B : Nat} {w w' : World} (h : On b w w') (hb : B ≤ b) (hs : B ≤ w.heap.size) : Below B w w' := ⟨h.os, h.tape, h.output, h.size, fun k hk => h.heap (by omega) (by omega)⟩

/-- A row of bytes whose memory is not the reader's. -/
theorem Row.on {w w' : World} {rb : Nat} {ao : Option Addr} {bs : Bs} (h : Row w ao bs) (hn : 0 < bs.length → ∀ a, ao = some a → a.block < rb) (ho : On rb w w') : Row w' ao bs := by
  intro hl
  obtain ⟨b, off, rfl, hc⟩ := h hl
  refine ⟨b, off, rfl, fun i hi => ?_⟩
  have h1 := hc i hi
  rw [World.cell?_of_block (w := w) (a := ⟨b, off + i, none⟩) (ho.heap (World.block_lt_of_cell? w _ h1) (Nat.ne_of_lt (hn hl ⟨b, off, none⟩ rfl)))]
  exact h1

theorem RowT.on {w w' : World} {rb : Nat} {ao : Option Addr} {l : List Bs} (h : RowT w ao l) (hn : ∀ a, ao = some a → a.block ≠ rb) (ho : On rb w w') : RowT w' ao l := by
  intro hl
  obtain ⟨b, off, rfl, hc⟩ := h hl
  refine ⟨b, off, rfl, fun i hi => ?_⟩
  have h1 := hc i hi
  rw [World.cell?_of_block (w := w) (a := ⟨b, off + i, none⟩) (ho.heap (World.block_lt_of_cell? w _ h1) (hn ⟨b, off, none⟩ rfl))]
  exact h1

theorem Bx.on {w w' : World} {rb b : Nat} {cs : Array Value} {t : TypeId} (h : Bx w b cs t) (hn : b ≠ rb) (ho : On rb w w') : Bx w' b cs t := (ho.heap h.lt hn).trans h

/-- The reader in block rb has these bytes left. -/
def Rst (w : World) (rb : Nat) (bs : Bs) : Prop := ∃ ao cap, Bx w rb #[.slice ao bs.length cap] 102 ∧ Row w ao bs ∧ bs.length ≤ cap ∧ cap ≤ 9223372036854775807 ∧ (0 < bs.length → ∀ a, ao = some a → a.block < rb)

theorem Rst.lt {w : World} {rb : Nat} {bs : Bs} (h : Rst w rb bs) : rb < w.heap.size := by obtain ⟨_, _, h, _⟩ := h; exact h.lt

theorem Rst.below {w w' : World} {rb : Nat} {bs : Bs} (h : Rst w rb bs) (hb : Below w.heap.size w w') : Rst w' rb bs := by
  obtain ⟨ao, cap, h1, h2, h3⟩ := h
  exact ⟨ao, cap, h1.below hb h1.lt, h2.below hb, h3⟩

/-- What a reading hands back: the part, by V, and what is left; or it stops. -/
def Got (rb : Nat) (w : World) {α : Type} (r : Except Nat (α × Bs)) (V : α → Value → World → Prop) (e : Ending) (w' : World) : Prop :=
  On rb w w' ∧ ((∃ x rest v, r = .ok (x, rest) ∧ e = .returned v ∧ V x v w' ∧ Rst w' rb rest ∧ rest.length ≤ 1000000000) ∨ (∃ er, r = .error er ∧ er ≠ 0 ∧ e = stopE er))

def VI (x : Int) (v : Value) (w : World) : Prop := v = .int .i64 x

def VT (x : Bs) (v : Value) (w : World) : Prop := v = .string (S x) ∧ x.length ≤ 4096

def VD (lo : Nat) (l : List Bs) (v : Value) (w : World) : Prop := ∃ ao cap, v = .slice ao l.length cap ∧ RowT w ao l ∧ (∀ a, ao = some a → lo ≤ a.block) ∧ l.length ≤ 1024

theorem VD.on {rb lo : Nat} {l : List Bs} {v : Value} {w w' : World} (h : VD lo l v w) (hlo : rb < lo) (ho : On rb w w') : VD lo l v w' := by
  obtain ⟨ao, cap, e, hr, hn, hl⟩ := h
  exact ⟨ao, cap, e, RowT.on hr (fun a ha => by have := hn a ha; omega) ho, hn, hl⟩

theorem slice_map (ao : Option Addr) (k cap : Nat) : ∀ a, (if cap = k then ao else Option.map (fun x => x.add k) ao) = some a → ∃ a0, ao = some a0 ∧ a0.block = a.block := by
  intro a h
  split at h
  · exact ⟨a, h, rfl⟩
  · cases ao with
    | none => simp at h
    | some a0 => simp at h; exact ⟨a0, rfl, by rw [← h]; unfold Addr.add; split <;> rfl⟩

theorem pNum_cases (bs : Bs) : (∃ n k, readNum bs = (n, k, 0) ∧ 1 ≤ k ∧ k ≤ bs.length ∧ pNum bs = .ok ((n : Int), bs.drop k)) ∨ (∃ er, er ≠ 0 ∧ readNum bs = (0, 0, er) ∧ pNum bs = .error er) := by
  unfold pNum
  rcases readNum_err bs with ⟨n, k, h⟩ | h | h
  · left; have := readNum_once h; exact ⟨n, k, h, this.1, this.2.1, by rw [h]; simp⟩
  · right; exact ⟨4, by omega, h, by rw [h]; simp⟩
  · right; exact ⟨5, by omega, h, by rw [h]; simp⟩

theorem pText_cases (bs : Bs) : (∃ s k, readText bs = (s, k, 0) ∧ s.length ≤ 4096 ∧ k ≤ bs.length ∧ pText bs = .ok (s, bs.drop k)) ∨ (∃ er, er ≠ 0 ∧ readText bs = ([], 0, er) ∧ pText bs = .error er) := by
  unfold pText ofRead
  rcases readText_err bs with ⟨s, k, h⟩ | ⟨er, he, h⟩
  · left; have := readText_once h; exact ⟨s, k, h, this.2.2.1, this.2.1, by rw [h]; simp⟩
  · right; exact ⟨er, he, h, by rw [h]; simp [he]⟩

theorem pData_cases (bs : Bs) : (∃ l k, readList readText bs = (l, k, 0) ∧ l.length ≤ 1024 ∧ k ≤ bs.length ∧ pData bs = .ok (l, bs.drop k)) ∨ (∃ er l k, er ≠ 0 ∧ readList readText bs = (l, k, er) ∧ pData bs = .error er) := by
  unfold pData ofRead
  by_cases h : (readList readText bs).2.2 = 0
  · left
    have hr : readList readText bs = ((readList readText bs).1, (readList readText bs).2.1, 0) := by rw [← h]
    obtain ⟨a1, a2, a3⟩ := readList_once (e := encText) (fun bs x k hx => ⟨(readText_once hx).2.1, (readText_once hx).2.2.2⟩) hr
    exact ⟨_, _, hr, a2, a1, by simp [h]⟩
  · right; exact ⟨_, _, _, h, rfl, by simp [h]⟩

set_option maxHeartbeats 2000000 in
theorem partI_any (w : World) (rb : Nat) (bs : Bs) (hst : Rst w rb bs) (hlen : bs.length ≤ 1000000000) :
    Calls Tryz.prog 87 #[.pointer (some ⟨rb, 0, none⟩), .func (Fn.func 80) #[] #[]] w fun e w' => Got rb w (pNum bs) VI e w' := by
  obtain ⟨ao, cap, hB, hr, hcap, hc63, hn⟩ := hst
  have hc0 : w.cell? ⟨rb, 0, none⟩ = some (.slice ao bs.length cap) := hB.cell 0
  have hz0 := hB.frozen 0
  have HC := readNum_any w ao cap bs hr hlen
  have HR := mkH hr
  have HB := mkH hB
  have HN := mkH hn
  have hlt := hB.lt
  clear hr hB hn
  rcases pNum_cases bs with ⟨n, k, h, hk1, hk, hp⟩ | ⟨er, her, h, hp⟩
  · have HP := mkH hp
    rw [h] at HC
    have HRd := mkH (Row_drop HR.out (k := k) hcap)
    have HMap := mkH (slice_map ao k cap)
    obtain ⟨aq, haq⟩ : ∃ aq, (if cap = k then ao else Option.map (fun x => x.add k) ao) = aq := ⟨_, rfl⟩
    rw [haq] at HRd HMap
    clear h hp
    go_enter Tryz.func87, Tryz.ntmps87
    go_wp2_with fail
    refine HC.mono ?_
    unfold ans
    rintro e w1 ⟨rfl, rfl⟩
    clear HC
    go_wp2_with fail
    refine (stopAt_ok _).mono ?_
    rintro e w2 ⟨rfl, rfl⟩
    go_wp2
    go_ret
    refine ⟨(On.refl rb _).setCell 0 _, .inl ⟨(n : Int), bs.drop k, _, HP.out, rfl, rfl, ?_, by rw [List.length_drop]; omega⟩⟩
    refine ⟨aq, cap - k, ?_, ?_, by rw [List.length_drop]; omega, by omega, fun hpos a ha => by obtain ⟨a0, h0, h1⟩ := HMap.out a ha; rw [← h1]; exact HN.out (by rw [List.length_drop] at hpos; omega) a0 h0⟩
    · have := HB.out.set 0 (.slice aq (bs.length - k) (cap - k)); rw [List.length_drop]; exact this
    · exact Row.on HRd.out (fun hpos a ha => by obtain ⟨a0, h0, h1⟩ := HMap.out a ha; rw [← h1]; exact HN.out (by rw [List.length_drop] at hpos; omega) a0 h0) ((On.refl rb _).setCell 0 _)
  · have HP := mkH hp
    rw [h] at HC
    clear h hp
    go_enter Tryz.func87, Tryz.ntmps87
    go_wp2_with fail
    refine HC.mono ?_
    unfold ans
    rintro e w1 ⟨rfl, rfl⟩
    clear HC
    have HON := mkH (On.refl rb w1)
    go_wp2_with fail
    refine (stopAt_bad _ er her).mono ?_
    rintro e w2 ⟨rfl, rfl⟩
    unfold stopE
    go_wp2
    exact ⟨rfl, HON.out, .inr ⟨er, HP.out, her, rfl⟩⟩

set_option maxHeartbeats 2000000 in
theorem partT_any (w : World) (rb : Nat) (bs : Bs) (hst : Rst w rb bs) (hlen : bs.length ≤ 1000000000) :
    Calls Tryz.prog 88 #[.pointer (some ⟨rb, 0, none⟩), .func (Fn.func 89) #[] #[]] w fun e w' => Got rb w (pText bs) VT e w' := by
  obtain ⟨ao, cap, hB, hr, hcap, hc63, hn⟩ := hst
  have hc0 : w.cell? ⟨rb, 0, none⟩ = some (.slice ao bs.length cap) := hB.cell 0
  have hz0 := hB.frozen 0
  have HC := readText_any w ao cap bs hr hlen hcap hc63
  have HR := mkH hr
  have HB := mkH hB
  have HN := mkH hn
  have hlt := hB.lt
  clear hr hB hn
  rcases pText_cases bs with ⟨n, k, h, hs, hk, hp⟩ | ⟨er, her, h, hp⟩
  · have HP := mkH hp
    rw [h] at HC
    have HRd := mkH (Row_drop HR.out (k := k) hcap)
    have HMap := mkH (slice_map ao k cap)
    obtain ⟨aq, haq⟩ : ∃ aq, (if cap = k then ao else Option.map (fun x => x.add k) ao) = aq := ⟨_, rfl⟩
    rw [haq] at HRd HMap
    clear h hp
    go_enter Tryz.func88, Tryz.ntmps88
    go_wp2_with fail
    refine HC.mono ?_
    unfold ansT
    rintro e w1 ⟨rfl, rfl⟩
    clear HC
    go_wp2_with fail
    refine (stopAt_ok _).mono ?_
    rintro e w2 ⟨rfl, rfl⟩
    go_wp2
    go_ret
    refine ⟨(On.refl rb _).setCell 0 _, .inl ⟨n, bs.drop k, _, HP.out, rfl, ⟨rfl, hs⟩, ?_, by rw [List.length_drop]; omega⟩⟩
    refine ⟨aq, cap - k, ?_, ?_, by rw [List.length_drop]; omega, by omega, fun hpos a ha => by obtain ⟨a0, h0, h1⟩ := HMap.out a ha; rw [← h1]; exact HN.out (by rw [List.length_drop] at hpos; omega) a0 h0⟩
    · have := HB.out.set 0 (.slice aq (bs.length - k) (cap - k)); rw [List.length_drop]; exact this
    · exact Row.on HRd.out (fun hpos a ha => by obtain ⟨a0, h0, h1⟩ := HMap.out a ha; rw [← h1]; exact HN.out (by rw [List.length_drop] at hpos; omega) a0 h0) ((On.refl rb _).setCell 0 _)
  · have HP := mkH hp
    rw [h] at HC
    clear h hp
    go_enter Tryz.func88, Tryz.ntmps88
    go_wp2_with fail
    refine HC.mono ?_
    unfold ansT
    rintro e w1 ⟨rfl, rfl⟩
    clear HC
    have HON := mkH (On.refl rb w1)
    go_wp2_with fail
    refine (stopAt_bad _ er her).mono ?_
    rintro e w2 ⟨rfl, rfl⟩
    unfold stopE
    go_wp2
    exact ⟨rfl, HON.out, .inr ⟨er, HP.out, her, rfl⟩⟩

set_option maxHeartbeats 2000000 in
theorem partD_any (w : World) (rb : Nat) (bs : Bs) (hst : Rst w rb bs) (hlen : bs.length ≤ 1000000000) :
    Calls Tryz.prog 90 #[.pointer (some ⟨rb, 0, none⟩), .func (Fn.func 91) #[] #[]] w fun e w' => Got rb w (pData bs) (VD w.heap.size) e w' := by
  obtain ⟨ao, cap, hB, hr, hcap, hc63, hn⟩ := hst
  have hc0 : w.cell? ⟨rb, 0, none⟩ = some (.slice ao bs.length cap) := hB.cell 0
  have hz0 := hB.frozen 0
  have HC := readTexts_any w ao cap bs hr hlen hcap hc63
  have HR := mkH hr
  have HB := mkH hB
  have HN := mkH hn
  have hlt := hB.lt
  clear hr hB hn
  rcases pData_cases bs with ⟨n, k, h, hs, hk, hp⟩ | ⟨er, l, k, her, h, hp⟩
  · have HP := mkH hp
    rw [h] at HC
    have HRd := mkH (Row_drop HR.out (k := k) hcap)
    have HMap := mkH (slice_map ao k cap)
    obtain ⟨aq, haq⟩ : ∃ aq, (if cap = k then ao else Option.map (fun x => x.add k) ao) = aq := ⟨_, rfl⟩
    rw [haq] at HRd HMap
    clear h hp
    go_enter Tryz.func90, Tryz.ntmps90
    go_wp2_with fail
    refine HC.mono ?_
    unfold IsTexts
    rintro e w1 ⟨v1, rfl, hown, hb⟩
    clear HC
    have hc1 : w1.cell? ⟨rb, 0, none⟩ = some (.slice ao bs.length cap) := (HB.out.below hb hlt).cell 0
    have hz1 := (HB.out.below hb hlt).frozen 0
    obtain ⟨ad, cd, rfl⟩ := own_form hown
    have HT := mkH (At.RowT.own hown).2.2
    have HF := mkH (Wb.own_lt hown)
    have HBb := mkH hb
    have HON := mkH (On.ofBelow (b := rb) hb)
    have HB1 := mkH (HB.out.below hb hlt)
    clear hown hb hc0 hz0
    go_wp2_with fail
    refine (stopAt_ok _).mono ?_
    rintro e w2 ⟨rfl, rfl⟩
    go_wp2
    go_ret
    refine ⟨HON.out.setCell 0 _, .inl ⟨n, bs.drop k, _, HP.out, rfl, ⟨ad, cd, rfl, Wk.RowT.setCell HT.out (fun a ha => by have := HF.out a ha; simp; omega) _, HF.out, hs⟩, ?_, by rw [List.length_drop]; omega⟩⟩
    refine ⟨aq, cap - k, ?_, ?_, by rw [List.length_drop]; omega, by omega, fun hpos a ha => by obtain ⟨a0, h0, h1⟩ := HMap.out a ha; rw [← h1]; exact HN.out (by rw [List.length_drop] at hpos; omega) a0 h0⟩
    · have := HB1.out.set 0 (.slice aq (bs.length - k) (cap - k)); rw [List.length_drop]; exact this
    · exact Row.on HRd.out (fun hpos a ha => by obtain ⟨a0, h0, h1⟩ := HMap.out a ha; rw [← h1]; exact HN.out (by rw [List.length_drop] at hpos; omega) a0 h0) (HON.out.setCell 0 _)
  · have HP := mkH hp
    rw [h] at HC
    clear h hp
    go_enter Tryz.func90, Tryz.ntmps90
    go_wp2_with fail
    refine HC.mono ?_
    unfold IsTexts
    rintro e w1 ⟨v1, rfl, hown, hb⟩
    clear HC
    have HON := mkH (On.ofBelow (b := rb) hb)
    clear hown hb
    go_wp2_with fail
    refine (stopAt_bad _ er her).mono ?_
    rintro e w2 ⟨rfl, rfl⟩
    unfold stopE
    go_wp2
    exact ⟨rfl, HON.out, .inr ⟨er, HP.out, her, rfl⟩⟩

theorem num_any (w : World) (rb : Nat) (bs : Bs) (hst : Rst w rb bs) (hlen : bs.length ≤ 1000000000) :
    Calls Tryz.prog 68 #[.pointer (some ⟨rb, 0, none⟩)] w fun e w' => Got rb w (pNum bs) VI e w' := by
  have H := partI_any w rb bs hst hlen
  clear hst
  go_enter Tryz.func68, Tryz.ntmps68
  go_wp2_with fail
  refine H.mono ?_
  rintro e w1 ⟨ho, ⟨x, rest, v, hp, rfl, hv⟩ | ⟨er, hp, her, rfl⟩⟩
  · have HV := mkH hv
    have HO := mkH ho
    have HP := mkH hp
    clear H hv ho hp
    go_wp2
    go_ret
    exact ⟨HO.out, .inl ⟨x, rest, _, HP.out, rfl, HV.out⟩⟩
  · have HO := mkH ho
    have HP := mkH hp
    clear H ho hp
    unfold stopE
    go_wp2
    exact ⟨rfl, HO.out, .inr ⟨er, HP.out, her, rfl⟩⟩

theorem text_any (w : World) (rb : Nat) (bs : Bs) (hst : Rst w rb bs) (hlen : bs.length ≤ 1000000000) :
    Calls Tryz.prog 69 #[.pointer (some ⟨rb, 0, none⟩)] w fun e w' => Got rb w (pText bs) VT e w' := by
  have H := partT_any w rb bs hst hlen
  clear hst
  go_enter Tryz.func69, Tryz.ntmps69
  go_wp2_with fail
  refine H.mono ?_
  rintro e w1 ⟨ho, ⟨x, rest, v, hp, rfl, hv⟩ | ⟨er, hp, her, rfl⟩⟩
  · have HV := mkH hv
    have HO := mkH ho
    have HP := mkH hp
    clear H hv ho hp
    go_wp2
    go_ret
    exact ⟨HO.out, .inl ⟨x, rest, _, HP.out, rfl, HV.out⟩⟩
  · have HO := mkH ho
    have HP := mkH hp
    clear H ho hp
    unfold stopE
    go_wp2
    exact ⟨rfl, HO.out, .inr ⟨er, HP.out, her, rfl⟩⟩

theorem data_any (w : World) (rb : Nat) (bs : Bs) (hst : Rst w rb bs) (hlen : bs.length ≤ 1000000000) :
    Calls Tryz.prog 72 #[.pointer (some ⟨rb, 0, none⟩)] w fun e w' => Got rb w (pData bs) (VD w.heap.size) e w' := by
  have H := partD_any w rb bs hst hlen
  clear hst
  go_enter Tryz.func72, Tryz.ntmps72
  go_wp2_with fail
  refine H.mono ?_
  rintro e w1 ⟨ho, ⟨x, rest, v, hp, rfl, hv⟩ | ⟨er, hp, her, rfl⟩⟩
  · have HV := mkH hv
    have HO := mkH ho
    have HP := mkH hp
    clear H hv ho hp
    go_wp2
    go_ret
    exact ⟨HO.out, .inl ⟨x, rest, _, HP.out, rfl, HV.out⟩⟩
  · have HO := mkH ho
    have HP := mkH hp
    clear H ho hp
    unfold stopE
    go_wp2
    exact ⟨rfl, HO.out, .inr ⟨er, HP.out, her, rfl⟩⟩

set_option maxHeartbeats 400000 in
theorem end_any (w : World) (rb : Nat) (bs : Bs) (hst : Rst w rb bs) (hlen : bs.length ≤ 1000000000) :
    Calls Tryz.prog 66 #[.pointer (some ⟨rb, 0, none⟩)] w fun e w' => w' = w ∧ ((bs.length = 0 ∧ e = .returned (.tuple #[])) ∨ (0 < bs.length ∧ e = stopE 5)) := by
  obtain ⟨ao, cap, hB, hr, hcap, hc63, hn⟩ := hst
  have hc0 : w.cell? ⟨rb, 0, none⟩ = some (.slice ao bs.length cap) := hB.cell 0
  clear hr hB hn
  by_cases h : bs.length = 0
  · rw [h] at hc0
    have HE := mkH h
    clear h hcap
    go_enter Tryz.func66, Tryz.ntmps66
    go_wp2
    go_end0
    exact ⟨rfl, .inl ⟨HE.out, rfl⟩⟩
  · have c1 : (0 : Int) < (bs.length : Int) := by omega
    have c2 : 0 < bs.length := by omega
    clear h
    go_enter Tryz.func66, Tryz.ntmps66
    go_wp2_with fail
    refine (stopAt_bad w 5 (by omega)).mono ?_
    rintro e w2 ⟨rfl, rfl⟩
    unfold stopE
    go_wp2
    exact ⟨rfl, rfl, .inr ⟨c2, rfl⟩⟩
end Go.Proofs.YtcpmcfagibmboabGreat.Wq

namespace Go.Proofs.YtcpmcfagibmboabGreat.Wq
open Go.RowKit Kt Pl Wi Wk Rd Lt Fw
open At (RowT)
set_option linter.unusedVariables false
set_option linter.unusedSimpArgs false
set_option maxRecDepth 20000

theorem startR {P : Program} {f : FuncId} {args : Array Value} {w : World} {zs : Array Value} {u : TypeId} {R : Ending → World → Prop}
    (h : ∀ W0 Z, Z.size = zs.size → Bx W0 w.heap.size Z u → Gr w W0 → Calls P f args W0 R) : Calls P f args (w.alloc (.cells zs u)) R :=
  h _ zs rfl (Bx.new w zs u) ((Gr.refl w).alloc _)

theorem On.setRow {b g : Nat} {w w' : World} (h : On b w w') (hg : w.heap.size ≤ g) (hne : b ≠ g) (cs : Array Value) : On b w (w'.setRow g cs) :=
  ⟨h.os, h.tape, h.output, by rw [setRow_size]; exact h.size, fun k hk hn => (setRow_other w' g k cs (by omega)).trans (h.block k hk hn)⟩

/-- A store into a block behind the reader's. -/
theorem Rst.setRow {w : World} {rb g : Nat} {bs : Bs} (h : Rst w rb bs) (hg : rb < g) (cs : Array Value) : Rst (w.setRow g cs) rb bs := by
  obtain ⟨ao, cap, hB, hr, h1, h2, h3⟩ := h
  refine ⟨ao, cap, hB.rowOther (by omega) cs, ?_, h1, h2, h3⟩
  intro hl
  obtain ⟨b, off, rfl, hc⟩ := hr hl
  have := h3 hl ⟨b, off, none⟩ rfl
  refine ⟨b, off, rfl, fun i hi => ?_⟩
  rw [World.cell?_of_block (w := w) (a := ⟨b, off + i, none⟩) (setRow_other w g b cs (by simp at this; omega))]
  exact hc i hi

/-- A receipt, a range. -/
def VR (r : Rcp) (v : Value) (w : World) : Prop := v = .agg (Rv r) ∧ r.g.length ≤ 4096

def VP (r : Int × Int) (v : Value) (w : World) : Prop := v = .agg #[.int .i64 r.1, .int .i64 r.2]

theorem info23 : (Tryz.prog.info? 28).map (·.size) = some 4 := by kernel_rfl

theorem info25 : (Tryz.prog.info? 30).map (·.size) = some 2 := by kernel_rfl

theorem info28 : (Tryz.prog.info? 33).map (·.size) = some 19 := by kernel_rfl

set_option maxHeartbeats 8000000 in
theorem receipt_any (w : World) (rb : Nat) (bs : Bs) (hst : Rst w rb bs) (hlen : bs.length ≤ 1000000000) :
    Calls Tryz.prog 70 #[.pointer (some ⟨rb, 0, none⟩)] w fun e w' => Got rb w (pRcp bs) VR e w' := by
  have hlt := hst.lt
  obtain ⟨hsz, -⟩ : w.heap.size = w.heap.size ∧ True := ⟨rfl, trivial⟩
  go_enter Tryz.func70, Tryz.ntmps70
  go_wp2_with fail
  refine startR (fun W0 Z hZ hBz hG => ?_)
  have hst0 := hst.below hG.below
  have HO0 := mkH (On.ofBelow (b := rb) hG.below)
  have HZ := mkH hZ
  have hBz0 := hBz
  have HP0 : Hid (pRcp bs = pRcp bs) := mkH rfl
  have HS0 := mkH hst0
  have HB0 := mkH hBz
  have HNE : Hid (w.heap.size ≠ rb) := mkH (by omega)
  have HGT : Hid (rb < w.heap.size) := mkH hlt
  have HLE : Hid (w.heap.size ≤ w.heap.size) := mkH (Nat.le_refl _)
  clear hst hst0 hBz hBz0 hG hsz hZ
  generalize hbq : w.heap.size = b2 at HB0 HNE HLE HGT ⊢
  have HBQ := mkH hbq
  clear hbq
  have H1 := num_any W0 rb bs HS0.out hlen
  refine H1.mono ?_
  rintro e W1 ⟨ho1, hc1⟩
  have HO1 := mkH (HO0.out.trans ho1)
  have HB1 := mkH (Wq.Bx.on HB0.out HNE.out ho1)
  clear H1 ho1 HO0 HB0 HS0
  rcases hc1 with ⟨q, r1, v, hp, rfl, hv, hs, hl1⟩ | ⟨er, hp, her, rfl⟩
  rotate_left
  · have HE := mkH (HP0.out.trans (bindR_err hp))
    clear hp HP0
    unfold stopE
    go_wp2
    exact ⟨rfl, HO1.out, .inr ⟨er, HE.out, her, rfl⟩⟩
  have HP1 := mkH (HP0.out.trans (bindR_of hp))
  have HS1 := mkH hs
  have hv : v = .int .i64 q := hv
  subst hv
  clear hp hs HP0
  go_wp2_with fail
  have H2 := text_any W1 rb r1 HS1.out hl1
  refine H2.mono ?_
  rintro e W2 ⟨ho2, hc2⟩
  have HO2 := mkH (HO1.out.trans ho2)
  have HB2 := mkH (Wq.Bx.on HB1.out HNE.out ho2)
  clear H2 ho2 HO1 HB1 HS1
  rcases hc2 with ⟨g, r2, v, hp, rfl, hv, hs, hl2⟩ | ⟨er, hp, her, rfl⟩
  rotate_left
  · have HE := mkH (HP1.out.trans (bindR_err hp))
    clear hp HP1
    unfold stopE
    go_wp2
    exact ⟨rfl, HO2.out, .inr ⟨er, HE.out, her, rfl⟩⟩
  have HP2 := mkH (HP1.out.trans (bindR_of hp))
  have HS2 := mkH hs
  obtain ⟨hv, l_g⟩ := hv
  subst hv
  clear hp hs HP1
  go_wp2_with fail
  have H3 := num_any W2 rb r2 HS2.out hl2
  refine H3.mono ?_
  rintro e W3 ⟨ho3, hc3⟩
  have HO3 := mkH (HO2.out.trans ho3)
  have HB3 := mkH (Wq.Bx.on HB2.out HNE.out ho3)
  clear H3 ho3 HO2 HB2 HS2
  rcases hc3 with ⟨s, r3, v, hp, rfl, hv, hs, hl3⟩ | ⟨er, hp, her, rfl⟩
  rotate_left
  · have HE := mkH (HP2.out.trans (bindR_err hp))
    clear hp HP2
    unfold stopE
    go_wp2
    exact ⟨rfl, HO3.out, .inr ⟨er, HE.out, her, rfl⟩⟩
  have HP3 := mkH (HP2.out.trans (bindR_of hp))
  have HS3 := mkH hs
  have hv : v = .int .i64 s := hv
  subst hv
  clear hp hs HP2
  go_wp2_with fail
  have H4 := num_any W3 rb r3 HS3.out hl3
  refine H4.mono ?_
  rintro e W4 ⟨ho4, hc4⟩
  have HO4 := mkH (HO3.out.trans ho4)
  have HB4 := mkH (Wq.Bx.on HB3.out HNE.out ho4)
  clear H4 ho4 HO3 HB3 HS3
  rcases hc4 with ⟨c, r4, v, hp, rfl, hv, hs, hl4⟩ | ⟨er, hp, her, rfl⟩
  rotate_left
  · have HE := mkH (HP3.out.trans (bindR_err hp))
    clear hp HP3
    unfold stopE
    go_wp2
    exact ⟨rfl, HO4.out, .inr ⟨er, HE.out, her, rfl⟩⟩
  have HP4 := mkH (HP3.out.trans (bindR_of hp))
  have HS4 := mkH hs
  have hv : v = .int .i64 c := hv
  subst hv
  clear hp hs HP3
  have hst : Bx W4 b2 Z 28 := HB4.out
  have HI : Hid ((Tryz.prog.info? 28).map (·.size) = some (#[.int .i64 q, .string (S g), .int .i64 s, .int .i64 c] : Array Value).size) := mkH info23
  have HSz : Hid (Z.size = (#[.int .i64 q, .string (S g), .int .i64 s, .int .i64 c] : Array Value).size) := mkH HZ.out
  have HOne : Hid ((#[.int .i64 q, .string (S g), .int .i64 s, .int .i64 c] : Array Value).all (fun x => x.oneCell') = true) := mkH (by rw [List.all_toArray]; rfl)
  have HLd := mkH (load_bx (P := Tryz.prog) (Wk.Bx.row hst (cs := (#[.int .i64 q, .string (S g), .int .i64 s, .int .i64 c] : Array Value)) HSz.out) Tryz.underlying28 rfl HI.out)
  have HBst := mkH hst
  have HOf := mkH (HO4.out.setRow (Nat.le_of_eq HBQ.out) (Ne.symm HNE.out) (#[.int .i64 q, .string (S g), .int .i64 s, .int .i64 c] : Array Value))
  have HSf := mkH (HS4.out.setRow HGT.out (#[.int .i64 q, .string (S g), .int .i64 s, .int .i64 c] : Array Value))
  clear hst
  go_wp2_with (refine wpList_st rfl (ty := 28) (x := .tmp 2) (y := .tmp 11) rfl rfl rfl HBst.out HI.out HSz.out HOne.out ?_)
  refine ret_bx 2 28 rfl b2 rfl HLd.out rfl ?_
  exact ⟨HOf.out, .inl ⟨⟨q, g, s, c⟩, r4, _, HP4.out, rfl, ⟨rfl, l_g⟩, HSf.out, hl4⟩⟩

set_option maxHeartbeats 8000000 in
theorem places_any (w : World) (rb : Nat) (bs : Bs) (hst : Rst w rb bs) (hlen : bs.length ≤ 1000000000) :
    Calls Tryz.prog 71 #[.pointer (some ⟨rb, 0, none⟩)] w fun e w' => Got rb w (pRg bs) VP e w' := by
  have hlt := hst.lt
  obtain ⟨hsz, -⟩ : w.heap.size = w.heap.size ∧ True := ⟨rfl, trivial⟩
  go_enter Tryz.func71, Tryz.ntmps71
  go_wp2_with fail
  refine startR (fun W0 Z hZ hBz hG => ?_)
  have hst0 := hst.below hG.below
  have HO0 := mkH (On.ofBelow (b := rb) hG.below)
  have HZ := mkH hZ
  have hBz0 := hBz
  have HP0 : Hid (pRg bs = pRg bs) := mkH rfl
  have HS0 := mkH hst0
  have HB0 := mkH hBz
  have HNE : Hid (w.heap.size ≠ rb) := mkH (by omega)
  have HGT : Hid (rb < w.heap.size) := mkH hlt
  have HLE : Hid (w.heap.size ≤ w.heap.size) := mkH (Nat.le_refl _)
  clear hst hst0 hBz hBz0 hG hsz hZ
  generalize hbq : w.heap.size = b2 at HB0 HNE HLE HGT ⊢
  have HBQ := mkH hbq
  clear hbq
  have H1 := num_any W0 rb bs HS0.out hlen
  refine H1.mono ?_
  rintro e W1 ⟨ho1, hc1⟩
  have HO1 := mkH (HO0.out.trans ho1)
  have HB1 := mkH (Wq.Bx.on HB0.out HNE.out ho1)
  clear H1 ho1 HO0 HB0 HS0
  rcases hc1 with ⟨lo, r1, v, hp, rfl, hv, hs, hl1⟩ | ⟨er, hp, her, rfl⟩
  rotate_left
  · have HE := mkH (HP0.out.trans (bindR_err hp))
    clear hp HP0
    unfold stopE
    go_wp2
    exact ⟨rfl, HO1.out, .inr ⟨er, HE.out, her, rfl⟩⟩
  have HP1 := mkH (HP0.out.trans (bindR_of hp))
  have HS1 := mkH hs
  have hv : v = .int .i64 lo := hv
  subst hv
  clear hp hs HP0
  go_wp2_with fail
  have H2 := num_any W1 rb r1 HS1.out hl1
  refine H2.mono ?_
  rintro e W2 ⟨ho2, hc2⟩
  have HO2 := mkH (HO1.out.trans ho2)
  have HB2 := mkH (Wq.Bx.on HB1.out HNE.out ho2)
  clear H2 ho2 HO1 HB1 HS1
  rcases hc2 with ⟨hi, r2, v, hp, rfl, hv, hs, hl2⟩ | ⟨er, hp, her, rfl⟩
  rotate_left
  · have HE := mkH (HP1.out.trans (bindR_err hp))
    clear hp HP1
    unfold stopE
    go_wp2
    exact ⟨rfl, HO2.out, .inr ⟨er, HE.out, her, rfl⟩⟩
  have HP2 := mkH (HP1.out.trans (bindR_of hp))
  have HS2 := mkH hs
  have hv : v = .int .i64 hi := hv
  subst hv
  clear hp hs HP1
  have hst : Bx W2 b2 Z 30 := HB2.out
  have HI : Hid ((Tryz.prog.info? 30).map (·.size) = some (#[.int .i64 lo, .int .i64 hi] : Array Value).size) := mkH info25
  have HSz : Hid (Z.size = (#[.int .i64 lo, .int .i64 hi] : Array Value).size) := mkH HZ.out
  have HOne : Hid ((#[.int .i64 lo, .int .i64 hi] : Array Value).all (fun x => x.oneCell') = true) := mkH (by rw [List.all_toArray]; rfl)
  have HLd := mkH (load_bx (P := Tryz.prog) (Wk.Bx.row hst (cs := (#[.int .i64 lo, .int .i64 hi] : Array Value)) HSz.out) Tryz.underlying30 rfl HI.out)
  have HBst := mkH hst
  have HOf := mkH (HO2.out.setRow (Nat.le_of_eq HBQ.out) (Ne.symm HNE.out) (#[.int .i64 lo, .int .i64 hi] : Array Value))
  have HSf := mkH (HS2.out.setRow HGT.out (#[.int .i64 lo, .int .i64 hi] : Array Value))
  clear hst
  go_wp2_with (refine wpList_st rfl (ty := 30) (x := .tmp 2) (y := .tmp 7) rfl rfl rfl HBst.out HI.out HSz.out HOne.out ?_)
  refine ret_bx 2 30 rfl b2 rfl HLd.out rfl ?_
  exact ⟨HOf.out, .inl ⟨(lo, hi), r2, _, HP2.out, rfl, rfl, HSf.out, hl2⟩⟩
end Go.Proofs.YtcpmcfagibmboabGreat.Wq
