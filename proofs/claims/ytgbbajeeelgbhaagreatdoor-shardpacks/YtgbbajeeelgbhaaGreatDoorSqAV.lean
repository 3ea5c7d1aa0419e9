/-
  WiY, joined by mrg.py.
-/
import Derived.Test.YtgbbajeeelgbhaaGreatDoorSqAU

namespace Go.Proofs.YtgbbajeeelgbhaaGreatDoor.Wy
open Go.RowKit Kt Pl Wi Wk Wc Wd We Wf Ww Wx Wv
open At (RowT okT)
set_option linter.unusedVariables false
set_option linter.unusedSimpArgs false
set_option maxRecDepth 20000

theorem wpList_ld {P : Program} {w : World} {ops : Array Oper} {rest : List Oper} {o : Oper} {a : Act} {Q : Exit → Act → World → Prop} {ty : TypeId} {x : Operand} {p : Addr} {v : Value} (hgd : o.guard = none) (ho : o.op = .load ty x) (hx : a.eval x = .pointer (some p)) (h : (loadVar ty p).run P w = .ok v w)
    (hk : wpList P ops Q rest (a.put o.dst v) w) : wpList P ops Q (o :: rest) a w := by
  refine wpList_plain hgd fun _ hK => ?_
  unfold Oper.wp
  rw [run_ld ho hx h]
  exact hK _ _ hk

def dstC : Nat → Nat := (fun i => if i = 0 then 10 else if i = 11 then 21 else if i = 12 then 22 else if i = 21 then 31 else if i = 22 then 32 else if i = 27 then 37 else if i = 28 then 38 else if i = 31 then 41 else if i = 40 then 50 else if i = 41 then 51 else if i = 44 then 54 else if i = 45 then 2 else if i = 46 then 3 else 0)
def consC : Nat → Nat := (fun i => if i = 0 then 12 else if i = 11 then 12 else if i = 12 then 22 else if i = 21 then 22 else if i = 22 then 28 else if i = 27 then 28 else if i = 28 then 31 else if i = 31 then 41 else if i = 40 then 41 else if i = 41 then 44 else if i = 44 then 45 else 999)
def depsC : Nat → List Nat := (fun i => if i = 12 then [0, 11] else if i = 22 then [12, 21] else if i = 28 then [22, 27] else if i = 31 then [28] else if i = 41 then [31, 40] else if i = 44 then [41] else if i = 45 then [44] else [])
def isWC : Nat → Bool := fun i => i == 0 || i == 12 || i == 22 || i == 28 || i == 31 || i == 41 || i == 44 || i == 45
def FC (base : Nat) (c : Cm) : Nat → Value → World → Prop := fun i v w => if i = 0 then Wt w base v ([] : Bs) else if i = 11 then BI [c.kind, c.client, c.num, c.time, c.queue] v w else if i = 12 then Wt w base v (([] : Bs) ++ [c.kind, c.client, c.num, c.time, c.queue].flatMap encN) else if i = 21 then BT [c.group, c.body, c.token, c.attempt] v w else if i = 22 then Wt w base v (([] : Bs) ++ [c.kind, c.client, c.num, c.time, c.queue].flatMap encN ++ [c.group, c.body, c.token, c.attempt].flatMap encText) else if i = 27 then BI [c.max, c.secs] v w else if i = 28 then Wt w base v (([] : Bs) ++ [c.kind, c.client, c.num, c.time, c.queue].flatMap encN ++ [c.group, c.body, c.token, c.attempt].flatMap encText ++ [c.max, c.secs].flatMap encN) else if i = 31 then Wt w base v (([] : Bs) ++ [c.kind, c.client, c.num, c.time, c.queue].flatMap encN ++ [c.group, c.body, c.token, c.attempt].flatMap encText ++ [c.max, c.secs].flatMap encN ++ encRcp c.rc) else if i = 40 then BI [c.lo, c.hi, c.to] v w else if i = 41 then Wt w base v (([] : Bs) ++ [c.kind, c.client, c.num, c.time, c.queue].flatMap encN ++ [c.group, c.body, c.token, c.attempt].flatMap encText ++ [c.max, c.secs].flatMap encN ++ encRcp c.rc ++ [c.lo, c.hi, c.to].flatMap encN) else if i = 44 then Wt w base v (([] : Bs) ++ [c.kind, c.client, c.num, c.time, c.queue].flatMap encN ++ [c.group, c.body, c.token, c.attempt].flatMap encText ++ [c.max, c.secs].flatMap encN ++ encRcp c.rc ++ [c.lo, c.hi, c.to].flatMap encN ++ encList encText c.data) else if i = 45 then Wt w base v (([] : Bs) ++ [c.kind, c.client, c.num, c.time, c.queue].flatMap encN ++ [c.group, c.body, c.token, c.attempt].flatMap encText ++ [c.max, c.secs].flatMap encN ++ encRcp c.rc ++ [c.lo, c.hi, c.to].flatMap encN ++ encList encText c.data) else if i = 46 then v = .int .i64 0 else True

/-- What a command that may be tells of its parts. -/
theorem cm_parts {c : Cm} (h : checkC c = 0) : (∀ x ∈ [c.kind, c.client, c.num, c.time, c.queue], 0 ≤ x ∧ x ≤ 4611686018427387904) ∧ (∀ x ∈ [c.group, c.body, c.token, c.attempt], x.length ≤ 4096) ∧ (∀ x ∈ [c.max, c.secs], 0 ≤ x ∧ x ≤ 4611686018427387904) ∧ (∀ x ∈ [c.lo, c.hi, c.to], 0 ≤ x ∧ x ≤ 4611686018427387904) ∧ rcB c.rc = true ∧ c.rc.g.length ≤ 32 ∧ c.data.length ≤ 1024 ∧ (∀ x ∈ c.data, x.length ≤ 4096) := by
  obtain ⟨hr, hs⟩ := judge_ok h
  simp only [rightC, shortC, Bool.and_eq_true, fitB, decide_eq_true_eq, Bool.or_eq_true, mayB] at hr hs
  obtain ⟨r0, ⟨r1, r2, r3, r4, r5, r6, r7⟩, r8, r9⟩ := hr
  obtain ⟨⟨s0, s1, s2, s3⟩, s4, s5⟩ := hs
  have s5 := dataB_ok s5
  simp only [upToB, Bool.and_eq_true, decide_eq_true_eq] at r0
  have r1 := num_ok r1; have r2 := num_ok r2; have r3 := num_ok r3; have r4 := num_ok r4; have r5 := num_ok r5; have r6 := num_ok r6; have r7 := num_ok r7
  refine ⟨?_, ?_, ?_, ?_, r8, s3, s5.1, s5.2⟩
  · intro x hx; simp at hx; rcases hx with rfl | rfl | rfl | rfl | rfl <;> omega
  · intro x hx; simp at hx; rcases hx with rfl | rfl | rfl | rfl <;> omega
  · intro x hx; simp at hx; rcases hx with rfl | rfl <;> omega
  · intro x hx; simp at hx; rcases hx with rfl | rfl | rfl <;> omega
theorem cm_bytes (c : Cm) : ([] : Bs) ++ [c.kind, c.client, c.num, c.time, c.queue].flatMap encN ++ [c.group, c.body, c.token, c.attempt].flatMap encText ++ [c.max, c.secs].flatMap encN ++ encRcp c.rc ++ [c.lo, c.hi, c.to].flatMap encN ++ encList encText c.data = encCm c := by simp [encCm, encRg]

set_option maxHeartbeats 8000000 in
theorem cmd_ok (w : World) (c : Cm) (ao : Option Addr) (cap : Nat) (hr : RowT w ao c.data) (hlen : c.data.length ≤ 1000000) (hck : checkC c = 0) :
    Calls Tryz.prog 265 #[.agg (Cv c (.slice ao c.data.length cap))] w fun e w' => ∃ v, e = .returned (.tuple #[v, .int .i64 0]) ∧ Wt w' w.heap.size v (encCm c) ∧ Below w.heap.size w w' := by
  have H1 := check_any (w.alloc (.cells (Cv c (.slice ao c.data.length cap)) 39)) c ao cap (RowT.gr hr ((Gr.refl w).alloc _)) hlen
  rw [hck] at H1
  obtain ⟨q1, q2, q3, q4, hrc, hrg, hdl⟩ := cm_parts hck
  have HB := mkH (Bx.new w (Cv c (.slice ao c.data.length cap)) 39)
  have HG := mkH ((Gr.refl w).alloc (.cells (Cv c (.slice ao c.data.length cap)) 39))
  have HL := mkH (load_cm HB.out)
  obtain ⟨k0, k1, k2, k3, k4, k5, k6, k7, k8, k9, k10, k11, k12, k13, k14, k15, k16, k17, k18⟩ := Cv_at c (.slice ao c.data.length cap)
  generalize Cv c (.slice ao c.data.length cap) = C at *
  go_enter Tryz.func265, Tryz.ntmps265
  go_wp2_with (refine wpList_ld (ty := 39) (x := .tmp 1) rfl rfl rfl HL.out ?_)
  refine H1.mono ?_
  rintro e w1 ⟨rfl, hg1⟩
  have HB1 := mkH (HB.out.gr hg1)
  have HG1 := mkH (HG.out.trans hg1)
  have HRw := mkH hr
  clear H1 HB HG HL hg1 hr
  go_wp2_with fail
  obtain ⟨base, hbase⟩ : ∃ base, base = w.heap.size := ⟨_, rfl⟩
  have HS0 : Hid (SR w1 base w.heap.size C 39 w1.drew) := mkH ⟨HB1.out.gr ((Gr.refl _).drew), (Below.refl _ _).drew, (U8.refl _).drew⟩
  have HB0 : Hid (base ≤ w1.heap.size) := mkH (hbase ▸ HG1.out.below.size)
  have HR0 : Hid (∀ W, Below base w1 W → RowT W ao c.data) := mkH (fun W h => HRw.out.below (HG1.out.below.trans (hbase ▸ h)))
  have HBE := mkH hbase
  clear hbase HRw HB1
  generalize hBq : w.heap.size = B at HS0 ⊢
  have HBq := mkH hBq
  clear hBq
  refine wp_region_held_drew (S := fun W => SR w1 base B C 39 W) (by kernel_rfl) HS0.out (fun hHeld => ?_)
  have hq : ∀ W, SR w1 base B C 39 W → ∀ k, W.cell? ⟨B, k, none⟩ = C[k]? := fun W h => h.1.cell
  clear HS0
  refine wpAnyH_take (i := 1) (oi := { dst := some 11, op := _, type := _, pos := _, after := _, guard := _ }) (v := ?_) rfl (by kernel_rfl) (by kernel_rfl) (by kernel_rfl) (fun _ _ _ h => h) (Or.inl ⟨by rfl, ?_⟩) (by assumption) ?_
  rotate_left
  · (intro W hSw; (try dsimp only at hSw); go_simp; try (with_reducible rfl))
  try simp only [Act.put, List.setIfInBounds_toArray, List.set_cons_zero, List.set_cons_succ]
  refine wpAnyH_take (i := 2) (oi := { dst := some 12, op := _, type := _, pos := _, after := _, guard := _ }) (v := ?_) rfl (by kernel_rfl) (by kernel_rfl) (by kernel_rfl) (fun _ _ _ h => h) (Or.inl ⟨by rfl, ?_⟩) (by assumption) ?_
  rotate_left
  · (intro W hSw; (try dsimp only at hSw); go_simp; try (with_reducible rfl))
  try simp only [Act.put, List.setIfInBounds_toArray, List.set_cons_zero, List.set_cons_succ]
  refine wpAnyH_take (i := 3) (oi := { dst := some 13, op := _, type := _, pos := _, after := _, guard := _ }) (v := ?_) rfl (by kernel_rfl) (by kernel_rfl) (by kernel_rfl) (fun _ _ _ h => h) (Or.inl ⟨by rfl, ?_⟩) (by assumption) ?_
  rotate_left
  · (intro W hSw; (try dsimp only at hSw); go_simp; try (with_reducible rfl))
  try simp only [Act.put, List.setIfInBounds_toArray, List.set_cons_zero, List.set_cons_succ]
  refine wpAnyH_take (i := 4) (oi := { dst := some 14, op := _, type := _, pos := _, after := _, guard := _ }) (v := ?_) rfl (by kernel_rfl) (by kernel_rfl) (by kernel_rfl) (fun _ _ _ h => h) (Or.inl ⟨by rfl, ?_⟩) (by assumption) ?_
  rotate_left
  · (intro W hSw; (try dsimp only at hSw); go_simp; try (with_reducible rfl))
  try simp only [Act.put, List.setIfInBounds_toArray, List.set_cons_zero, List.set_cons_succ]
  refine wpAnyH_take (i := 5) (oi := { dst := some 15, op := _, type := _, pos := _, after := _, guard := _ }) (v := ?_) rfl (by kernel_rfl) (by kernel_rfl) (by kernel_rfl) (fun _ _ _ h => h) (Or.inl ⟨by rfl, ?_⟩) (by assumption) ?_
  rotate_left
  · (intro W hSw; (try dsimp only at hSw); go_simp; try (with_reducible rfl))
  try simp only [Act.put, List.setIfInBounds_toArray, List.set_cons_zero, List.set_cons_succ]
  refine wpAnyH_take (i := 6) (oi := { dst := some 16, op := _, type := _, pos := _, after := _, guard := _ }) (v := ?_) rfl (by kernel_rfl) (by kernel_rfl) (by kernel_rfl) (fun _ _ _ h => h) (Or.inl ⟨by rfl, ?_⟩) (by assumption) ?_
  rotate_left
  · (intro W hSw; (try dsimp only at hSw); go_simp; try (with_reducible rfl))
  try simp only [Act.put, List.setIfInBounds_toArray, List.set_cons_zero, List.set_cons_succ]
  refine wpAnyH_take (i := 7) (oi := { dst := some 17, op := _, type := _, pos := _, after := _, guard := _ }) (v := ?_) rfl (by kernel_rfl) (by kernel_rfl) (by kernel_rfl) (fun _ _ _ h => h) (Or.inl ⟨by rfl, ?_⟩) (by assumption) ?_
  rotate_left
  · (intro W hSw; (try dsimp only at hSw); go_simp; try (with_reducible rfl))
  try simp only [Act.put, List.setIfInBounds_toArray, List.set_cons_zero, List.set_cons_succ]
  refine wpAnyH_take (i := 8) (oi := { dst := some 18, op := _, type := _, pos := _, after := _, guard := _ }) (v := ?_) rfl (by kernel_rfl) (by kernel_rfl) (by kernel_rfl) (fun _ _ _ h => h) (Or.inl ⟨by rfl, ?_⟩) (by assumption) ?_
  rotate_left
  · (intro W hSw; (try dsimp only at hSw); go_simp; try (with_reducible rfl))
  try simp only [Act.put, List.setIfInBounds_toArray, List.set_cons_zero, List.set_cons_succ]
  refine wpAnyH_take (i := 9) (oi := { dst := some 19, op := _, type := _, pos := _, after := _, guard := _ }) (v := ?_) rfl (by kernel_rfl) (by kernel_rfl) (by kernel_rfl) (fun _ _ _ h => h) (Or.inl ⟨by rfl, ?_⟩) (by assumption) ?_
  rotate_left
  · (intro W hSw; (try dsimp only at hSw); go_simp; try (with_reducible rfl))
  try simp only [Act.put, List.setIfInBounds_toArray, List.set_cons_zero, List.set_cons_succ]
  refine wpAnyH_take (i := 10) (oi := { dst := some 20, op := _, type := _, pos := _, after := _, guard := _ }) (v := ?_) rfl (by kernel_rfl) (by kernel_rfl) (by kernel_rfl) (fun _ _ _ h => h) (Or.inl ⟨by rfl, ?_⟩) (by assumption) ?_
  rotate_left
  · (intro W hSw; (try dsimp only at hSw); go_simp; try (with_reducible rfl))
  try simp only [Act.put, List.setIfInBounds_toArray, List.set_cons_zero, List.set_cons_succ]
  refine wpAnyH_take (i := 13) (oi := { dst := some 23, op := _, type := _, pos := _, after := _, guard := _ }) (v := ?_) rfl (by kernel_rfl) (by kernel_rfl) (by kernel_rfl) (fun _ _ _ h => h) (Or.inl ⟨by rfl, ?_⟩) (by assumption) ?_
  rotate_left
  · (intro W hSw; (try dsimp only at hSw); go_simp; try (with_reducible rfl))
  try simp only [Act.put, List.setIfInBounds_toArray, List.set_cons_zero, List.set_cons_succ]
  refine wpAnyH_take (i := 14) (oi := { dst := some 24, op := _, type := _, pos := _, after := _, guard := _ }) (v := ?_) rfl (by kernel_rfl) (by kernel_rfl) (by kernel_rfl) (fun _ _ _ h => h) (Or.inl ⟨by rfl, ?_⟩) (by assumption) ?_
  rotate_left
  · (intro W hSw; (try dsimp only at hSw); go_simp; try (with_reducible rfl))
  try simp only [Act.put, List.setIfInBounds_toArray, List.set_cons_zero, List.set_cons_succ]
  refine wpAnyH_take (i := 15) (oi := { dst := some 25, op := _, type := _, pos := _, after := _, guard := _ }) (v := ?_) rfl (by kernel_rfl) (by kernel_rfl) (by kernel_rfl) (fun _ _ _ h => h) (Or.inl ⟨by rfl, ?_⟩) (by assumption) ?_
  rotate_left
  · (intro W hSw; (try dsimp only at hSw); go_simp; try (with_reducible rfl))
  try simp only [Act.put, List.setIfInBounds_toArray, List.set_cons_zero, List.set_cons_succ]
  refine wpAnyH_take (i := 16) (oi := { dst := some 26, op := _, type := _, pos := _, after := _, guard := _ }) (v := ?_) rfl (by kernel_rfl) (by kernel_rfl) (by kernel_rfl) (fun _ _ _ h => h) (Or.inl ⟨by rfl, ?_⟩) (by assumption) ?_
  rotate_left
  · (intro W hSw; (try dsimp only at hSw); go_simp; try (with_reducible rfl))
  try simp only [Act.put, List.setIfInBounds_toArray, List.set_cons_zero, List.set_cons_succ]
  refine wpAnyH_take (i := 17) (oi := { dst := some 27, op := _, type := _, pos := _, after := _, guard := _ }) (v := ?_) rfl (by kernel_rfl) (by kernel_rfl) (by kernel_rfl) (fun _ _ _ h => h) (Or.inl ⟨by rfl, ?_⟩) (by assumption) ?_
  rotate_left
  · (intro W hSw; (try dsimp only at hSw); go_simp; try (with_reducible rfl))
  try simp only [Act.put, List.setIfInBounds_toArray, List.set_cons_zero, List.set_cons_succ]
  refine wpAnyH_take (i := 18) (oi := { dst := some 28, op := _, type := _, pos := _, after := _, guard := _ }) (v := ?_) rfl (by kernel_rfl) (by kernel_rfl) (by kernel_rfl) (fun _ _ _ h => h) (Or.inl ⟨by rfl, ?_⟩) (by assumption) ?_
  rotate_left
  · (intro W hSw; (try dsimp only at hSw); go_simp; try (with_reducible rfl))
  try simp only [Act.put, List.setIfInBounds_toArray, List.set_cons_zero, List.set_cons_succ]
  refine wpAnyH_take (i := 19) (oi := { dst := some 29, op := _, type := _, pos := _, after := _, guard := _ }) (v := ?_) rfl (by kernel_rfl) (by kernel_rfl) (by kernel_rfl) (fun _ _ _ h => h) (Or.inl ⟨by rfl, ?_⟩) (by assumption) ?_
  rotate_left
  · (intro W hSw; (try dsimp only at hSw); go_simp; try (with_reducible rfl))
  try simp only [Act.put, List.setIfInBounds_toArray, List.set_cons_zero, List.set_cons_succ]
  refine wpAnyH_take (i := 20) (oi := { dst := some 30, op := _, type := _, pos := _, after := _, guard := _ }) (v := ?_) rfl (by kernel_rfl) (by kernel_rfl) (by kernel_rfl) (fun _ _ _ h => h) (Or.inl ⟨by rfl, ?_⟩) (by assumption) ?_
  rotate_left
  · (intro W hSw; (try dsimp only at hSw); go_simp; try (with_reducible rfl))
  try simp only [Act.put, List.setIfInBounds_toArray, List.set_cons_zero, List.set_cons_succ]
  refine wpAnyH_take (i := 23) (oi := { dst := some 33, op := _, type := _, pos := _, after := _, guard := _ }) (v := ?_) rfl (by kernel_rfl) (by kernel_rfl) (by kernel_rfl) (fun _ _ _ h => h) (Or.inl ⟨by rfl, ?_⟩) (by assumption) ?_
  rotate_left
  · (intro W hSw; (try dsimp only at hSw); go_simp; try (with_reducible rfl))
  try simp only [Act.put, List.setIfInBounds_toArray, List.set_cons_zero, List.set_cons_succ]
  refine wpAnyH_take (i := 24) (oi := { dst := some 34, op := _, type := _, pos := _, after := _, guard := _ }) (v := ?_) rfl (by kernel_rfl) (by kernel_rfl) (by kernel_rfl) (fun _ _ _ h => h) (Or.inl ⟨by rfl, ?_⟩) (by assumption) ?_
  rotate_left
  · (intro W hSw; (try dsimp only at hSw); go_simp; try (with_reducible rfl))
  try simp only [Act.put, List.setIfInBounds_toArray, List.set_cons_zero, List.set_cons_succ]
  refine wpAnyH_take (i := 25) (oi := { dst := some 35, op := _, type := _, pos := _, after := _, guard := _ }) (v := ?_) rfl (by kernel_rfl) (by kernel_rfl) (by kernel_rfl) (fun _ _ _ h => h) (Or.inl ⟨by rfl, ?_⟩) (by assumption) ?_
  rotate_left
  · (intro W hSw; (try dsimp only at hSw); go_simp; try (with_reducible rfl))
  try simp only [Act.put, List.setIfInBounds_toArray, List.set_cons_zero, List.set_cons_succ]
  refine wpAnyH_take (i := 26) (oi := { dst := some 36, op := _, type := _, pos := _, after := _, guard := _ }) (v := ?_) rfl (by kernel_rfl) (by kernel_rfl) (by kernel_rfl) (fun _ _ _ h => h) (Or.inl ⟨by rfl, ?_⟩) (by assumption) ?_
  rotate_left
  · (intro W hSw; (try dsimp only at hSw); go_simp; try (with_reducible rfl))
  try simp only [Act.put, List.setIfInBounds_toArray, List.set_cons_zero, List.set_cons_succ]
  refine wpAnyH_take (i := 29) (oi := { dst := some 39, op := _, type := _, pos := _, after := _, guard := _ }) (v := ?_) rfl (by kernel_rfl) (by kernel_rfl) (by kernel_rfl) (fun _ _ _ h => h) (Or.inl ⟨by rfl, ?_⟩) (by assumption) ?_
  rotate_left
  · (intro W hSw; (try dsimp only at hSw); go_simp; try (with_reducible rfl))
  try simp only [Act.put, List.setIfInBounds_toArray, List.set_cons_zero, List.set_cons_succ]
  refine wpAnyH_take (i := 30) (oi := { dst := some 40, op := _, type := _, pos := _, after := _, guard := _ }) (v := ?_) rfl (by kernel_rfl) (by kernel_rfl) (by kernel_rfl) (fun _ _ _ h => h) (Or.inl ⟨by rfl, ?_⟩) (by assumption) ?_
  rotate_left
  · (intro W hSw; (try dsimp only at hSw); go_simp; try (with_reducible rfl))
  try simp only [Act.put, List.setIfInBounds_toArray, List.set_cons_zero, List.set_cons_succ]
  refine wpAnyH_take (i := 32) (oi := { dst := some 42, op := _, type := _, pos := _, after := _, guard := _ }) (v := ?_) rfl (by kernel_rfl) (by kernel_rfl) (by kernel_rfl) (fun _ _ _ h => h) (Or.inl ⟨by rfl, ?_⟩) (by assumption) ?_
  rotate_left
  · (intro W hSw; (try dsimp only at hSw); go_simp; try (with_reducible rfl))
  try simp only [Act.put, List.setIfInBounds_toArray, List.set_cons_zero, List.set_cons_succ]
  refine wpAnyH_take (i := 33) (oi := { dst := some 43, op := _, type := _, pos := _, after := _, guard := _ }) (v := ?_) rfl (by kernel_rfl) (by kernel_rfl) (by kernel_rfl) (fun _ _ _ h => h) (Or.inl ⟨by rfl, ?_⟩) (by assumption) ?_
  rotate_left
  · (intro W hSw; (try dsimp only at hSw); go_simp; try (with_reducible rfl))
  try simp only [Act.put, List.setIfInBounds_toArray, List.set_cons_zero, List.set_cons_succ]
  refine wpAnyH_take (i := 34) (oi := { dst := some 44, op := _, type := _, pos := _, after := _, guard := _ }) (v := ?_) rfl (by kernel_rfl) (by kernel_rfl) (by kernel_rfl) (fun _ _ _ h => h) (Or.inl ⟨by rfl, ?_⟩) (by assumption) ?_
  rotate_left
  · (intro W hSw; (try dsimp only at hSw); go_simp; try (with_reducible rfl))
  try simp only [Act.put, List.setIfInBounds_toArray, List.set_cons_zero, List.set_cons_succ]
  refine wpAnyH_take (i := 35) (oi := { dst := some 45, op := _, type := _, pos := _, after := _, guard := _ }) (v := ?_) rfl (by kernel_rfl) (by kernel_rfl) (by kernel_rfl) (fun _ _ _ h => h) (Or.inl ⟨by rfl, ?_⟩) (by assumption) ?_
  rotate_left
  · (intro W hSw; (try dsimp only at hSw); go_simp; try (with_reducible rfl))
  try simp only [Act.put, List.setIfInBounds_toArray, List.set_cons_zero, List.set_cons_succ]
  refine wpAnyH_take (i := 36) (oi := { dst := some 46, op := _, type := _, pos := _, after := _, guard := _ }) (v := ?_) rfl (by kernel_rfl) (by kernel_rfl) (by kernel_rfl) (fun _ _ _ h => h) (Or.inl ⟨by rfl, ?_⟩) (by assumption) ?_
  rotate_left
  · (intro W hSw; (try dsimp only at hSw); go_simp; try (with_reducible rfl))
  try simp only [Act.put, List.setIfInBounds_toArray, List.set_cons_zero, List.set_cons_succ]
  refine wpAnyH_take (i := 37) (oi := { dst := some 47, op := _, type := _, pos := _, after := _, guard := _ }) (v := ?_) rfl (by kernel_rfl) (by kernel_rfl) (by kernel_rfl) (fun _ _ _ h => h) (Or.inl ⟨by rfl, ?_⟩) (by assumption) ?_
  rotate_left
  · (intro W hSw; (try dsimp only at hSw); go_simp; try (with_reducible rfl))
  try simp only [Act.put, List.setIfInBounds_toArray, List.set_cons_zero, List.set_cons_succ]
  refine wpAnyH_take (i := 38) (oi := { dst := some 48, op := _, type := _, pos := _, after := _, guard := _ }) (v := ?_) rfl (by kernel_rfl) (by kernel_rfl) (by kernel_rfl) (fun _ _ _ h => h) (Or.inl ⟨by rfl, ?_⟩) (by assumption) ?_
  rotate_left
  · (intro W hSw; (try dsimp only at hSw); go_simp; try (with_reducible rfl))
  try simp only [Act.put, List.setIfInBounds_toArray, List.set_cons_zero, List.set_cons_succ]
  refine wpAnyH_take (i := 39) (oi := { dst := some 49, op := _, type := _, pos := _, after := _, guard := _ }) (v := ?_) rfl (by kernel_rfl) (by kernel_rfl) (by kernel_rfl) (fun _ _ _ h => h) (Or.inl ⟨by rfl, ?_⟩) (by assumption) ?_
  rotate_left
  · (intro W hSw; (try dsimp only at hSw); go_simp; try (with_reducible rfl))
  try simp only [Act.put, List.setIfInBounds_toArray, List.set_cons_zero, List.set_cons_succ]
  refine wpAnyH_take (i := 42) (oi := { dst := some 52, op := _, type := _, pos := _, after := _, guard := _ }) (v := ?_) rfl (by kernel_rfl) (by kernel_rfl) (by kernel_rfl) (fun _ _ _ h => h) (Or.inl ⟨by rfl, ?_⟩) (by assumption) ?_
  rotate_left
  · (intro W hSw; (try dsimp only at hSw); go_simp; try (with_reducible rfl))
  try simp only [Act.put, List.setIfInBounds_toArray, List.set_cons_zero, List.set_cons_succ]
  refine wpAnyH_take (i := 43) (oi := { dst := some 53, op := _, type := _, pos := _, after := _, guard := _ }) (v := ?_) rfl (by kernel_rfl) (by kernel_rfl) (by kernel_rfl) (fun _ _ _ h => h) (Or.inl ⟨by rfl, ?_⟩) (by assumption) ?_
  rotate_left
  · (intro W hSw; (try dsimp only at hSw); go_simp; try (with_reducible rfl))
  try simp only [Act.put, List.setIfInBounds_toArray, List.set_cons_zero, List.set_cons_succ]
  have l1 := flat_len [c.kind, c.client, c.num, c.time, c.queue] q1
  have l2 := flatT_len [c.group, c.body, c.token, c.attempt] q2
  have l3 := flat_len [c.max, c.secs] q3
  have l4 := flat_len [c.lo, c.hi, c.to] q4
  have l5 : (encRcp c.rc).length ≤ 5000 := by
    simp only [rcB, Bool.and_eq_true] at hrc
    have a1 := num_ok hrc.1
    have a2 := num_ok hrc.2.1
    have a3 := num_ok hrc.2.2
    have b1 : (encN c.rc.q).length ≤ 9 := enc_len9 (by omega)
    have b2 : (encN c.rc.s).length ≤ 9 := enc_len9 (by omega)
    have b3 : (encN c.rc.c).length ≤ 9 := enc_len9 (by omega)
    have b4 := enc_len9 (n := c.rc.g.length) (by omega)
    simp only [encRcp, encText, List.length_append]
    omega
  simp only [List.length_cons, List.length_nil] at l1 l2 l3 l4
  refine wpAnyH_lin [0, 11, 12, 21, 22, 27, 28, 31, 40, 41, 44, 45, 46] dstC consC depsC isWC [] (FC base c) Gr U8 (by decide) (by kernel_rfl) ?s0 ?s1 ?step ?fin ?hpre (by decide) hHeld (by decide) rfl
  case s0 =>
    intro i hi v w w' h hg
    simp only [List.mem_cons, List.not_mem_nil, or_false] at hi
    rcases hi with rfl | rfl | rfl | rfl | rfl | rfl | rfl | rfl | rfl | rfl | rfl | rfl | rfl
    · exact Wt.gr h hg
    · exact BI.gr h hg
    · exact Wt.gr h hg
    · exact BT.gr h hg
    · exact Wt.gr h hg
    · exact BI.gr h hg
    · exact Wt.gr h hg
    · exact Wt.gr h hg
    · exact BI.gr h hg
    · exact Wt.gr h hg
    · exact Wt.gr h hg
    · exact Wt.gr h hg
    · exact h
  case s1 =>
    intro i hi hw v w w' h hg
    simp only [List.mem_cons, List.not_mem_nil, or_false] at hi
    rcases hi with rfl | rfl | rfl | rfl | rfl | rfl | rfl | rfl | rfl | rfl | rfl | rfl | rfl
    · cases hw
    · exact BI.u8 h hg
    · cases hw
    · exact BT.u8 h hg
    · cases hw
    · exact BI.u8 h hg
    · cases hw
    · cases hw
    · exact BI.u8 h hg
    · cases hw
    · cases hw
    · cases hw
    · exact h
  case hpre =>
    intro i hi
    cases hi
  case step =>
    intro i hi hip x w hS hF
    simp only [List.mem_cons, List.not_mem_nil, or_false] at hi
    rcases hi with rfl | rfl | rfl | rfl | rfl | rfl | rfl | rfl | rfl | rfl | rfl | rfl | rfl
    · refine op_value rfl rfl (v := .slice (some ⟨w.heap.size, 0, none⟩) 0 0) (w' := w.alloc (.cells #[] 5)) ?_ ⟨_, rfl, hS.gr HB0.out ((Gr.refl w).alloc _), (Wt.new w).mono (Nat.le_trans HB0.out hS.2.1.size), U8.ofGr ((Gr.refl w).alloc _)⟩
      simp only [puts, dstC, Act.put, List.setIfInBounds_toArray, List.set_cons_zero, List.set_cons_succ]
      go_simp
    · refine op_value rfl rfl (v := .slice (some ⟨w.heap.size, 0, none⟩) 5 5) (w' := w.alloc (.cells #[.int .i64 c.kind, .int .i64 c.client, .int .i64 c.num, .int .i64 c.time, .int .i64 c.queue] 3)) ?_ ⟨_, rfl, hS.gr HB0.out ((Gr.refl w).alloc _), ⟨_, rfl, Bx.new w #[.int .i64 c.kind, .int .i64 c.client, .int .i64 c.num, .int .i64 c.time, .int .i64 c.queue] 3⟩, (Gr.refl w).alloc _⟩
      simp only [puts, dstC, Act.put, List.setIfInBounds_toArray, List.set_cons_zero, List.set_cons_succ]
      go_simp
    · obtain ⟨b, hx, hbx⟩ : BI [c.kind, c.client, c.num, c.time, c.queue] (x 11) w := hF 11 (by decide)
      have hw1 : Wt w base (x 0) (([] : Bs)) := hF 0 (by decide)
      refine op_call rfl rfl (f := 284) (args := #[x 0, x 11]) ?_ ?_
      · simp only [puts, dstC, Act.put, List.setIfInBounds_toArray, List.set_cons_zero, List.set_cons_succ]
        go_simp
      · rw [hx]
        refine (nums_any w base (x 0) (([] : Bs)) hw1 (Nat.le_trans HB0.out hS.2.1.size) (by simp only [List.length_append, List.length_nil]; omega) b _ [c.kind, c.client, c.num, c.time, c.queue] hbx (by simp) (q1)).mono ?_
        rintro e w' ⟨v', rfl, hw', hb', hu'⟩
        exact ⟨v', rfl, _, rfl, hS.wrote (by decide) hb' hu', hw', hu'⟩
    · refine op_value rfl rfl (v := .slice (some ⟨w.heap.size, 0, none⟩) 4 4) (w' := w.alloc (.cells #[.string (S c.group), .string (S c.body), .string (S c.token), .string (S c.attempt)] 9)) ?_ ⟨_, rfl, hS.gr HB0.out ((Gr.refl w).alloc _), ⟨_, rfl, Bx.new w #[.string (S c.group), .string (S c.body), .string (S c.token), .string (S c.attempt)] 9⟩, (Gr.refl w).alloc _⟩
      simp only [puts, dstC, Act.put, List.setIfInBounds_toArray, List.set_cons_zero, List.set_cons_succ]
      go_simp
    · obtain ⟨b, hx, hbx⟩ : BT [c.group, c.body, c.token, c.attempt] (x 21) w := hF 21 (by decide)
      have hw1 : Wt w base (x 12) (([] : Bs) ++ [c.kind, c.client, c.num, c.time, c.queue].flatMap encN) := hF 12 (by decide)
      refine op_call rfl rfl (f := 320) (args := #[x 12, x 21]) ?_ ?_
      · simp only [puts, dstC, Act.put, List.setIfInBounds_toArray, List.set_cons_zero, List.set_cons_succ]
        go_simp
      · rw [hx]
        refine (texts_any w base (x 12) (([] : Bs) ++ [c.kind, c.client, c.num, c.time, c.queue].flatMap encN) hw1 (Nat.le_trans HB0.out hS.2.1.size) (by simp only [List.length_append, List.length_nil]; omega) b _ [c.group, c.body, c.token, c.attempt] hbx (by simp) (q2)).mono ?_
        rintro e w' ⟨v', rfl, hw', hb', hu'⟩
        exact ⟨v', rfl, _, rfl, hS.wrote (by decide) hb' hu', hw', hu'⟩
    · refine op_value rfl rfl (v := .slice (some ⟨w.heap.size, 0, none⟩) 2 2) (w' := w.alloc (.cells #[.int .i64 c.max, .int .i64 c.secs] 3)) ?_ ⟨_, rfl, hS.gr HB0.out ((Gr.refl w).alloc _), ⟨_, rfl, Bx.new w #[.int .i64 c.max, .int .i64 c.secs] 3⟩, (Gr.refl w).alloc _⟩
      simp only [puts, dstC, Act.put, List.setIfInBounds_toArray, List.set_cons_zero, List.set_cons_succ]
      go_simp
    · obtain ⟨b, hx, hbx⟩ : BI [c.max, c.secs] (x 27) w := hF 27 (by decide)
      have hw1 : Wt w base (x 22) (([] : Bs) ++ [c.kind, c.client, c.num, c.time, c.queue].flatMap encN ++ [c.group, c.body, c.token, c.attempt].flatMap encText) := hF 22 (by decide)
      refine op_call rfl rfl (f := 284) (args := #[x 22, x 27]) ?_ ?_
      · simp only [puts, dstC, Act.put, List.setIfInBounds_toArray, List.set_cons_zero, List.set_cons_succ]
        go_simp
      · rw [hx]
        refine (nums_any w base (x 22) (([] : Bs) ++ [c.kind, c.client, c.num, c.time, c.queue].flatMap encN ++ [c.group, c.body, c.token, c.attempt].flatMap encText) hw1 (Nat.le_trans HB0.out hS.2.1.size) (by simp only [List.length_append, List.length_nil]; omega) b _ [c.max, c.secs] hbx (by simp) (q3)).mono ?_
        rintro e w' ⟨v', rfl, hw', hb', hu'⟩
        exact ⟨v', rfl, _, rfl, hS.wrote (by decide) hb' hu', hw', hu'⟩
    · have hw1 : Wt w base (x 28) (([] : Bs) ++ [c.kind, c.client, c.num, c.time, c.queue].flatMap encN ++ [c.group, c.body, c.token, c.attempt].flatMap encText ++ [c.max, c.secs].flatMap encN) := hF 28 (by decide)
      refine op_call rfl rfl (f := 321) (args := #[x 28, .agg (Rv c.rc)]) ?_ ?_
      · simp only [puts, dstC, Act.put, List.setIfInBounds_toArray, List.set_cons_zero, List.set_cons_succ]
        go_simp
        try rfl
      · refine (receipt_any w base (x 28) (([] : Bs) ++ [c.kind, c.client, c.num, c.time, c.queue].flatMap encN ++ [c.group, c.body, c.token, c.attempt].flatMap encText ++ [c.max, c.secs].flatMap encN) c.rc hw1 (Nat.le_trans HB0.out hS.2.1.size) (by simp only [List.length_append, List.length_nil]; omega) hrc (by omega)).mono ?_
        rintro e w' ⟨v', rfl, hw', hb', hu'⟩
        exact ⟨v', rfl, _, rfl, hS.wrote (by decide) hb' hu', hw', hu'⟩
    · refine op_value rfl rfl (v := .slice (some ⟨w.heap.size, 0, none⟩) 3 3) (w' := w.alloc (.cells #[.int .i64 c.lo, .int .i64 c.hi, .int .i64 c.to] 3)) ?_ ⟨_, rfl, hS.gr HB0.out ((Gr.refl w).alloc _), ⟨_, rfl, Bx.new w #[.int .i64 c.lo, .int .i64 c.hi, .int .i64 c.to] 3⟩, (Gr.refl w).alloc _⟩
      simp only [puts, dstC, Act.put, List.setIfInBounds_toArray, List.set_cons_zero, List.set_cons_succ]
      go_simp
    · obtain ⟨b, hx, hbx⟩ : BI [c.lo, c.hi, c.to] (x 40) w := hF 40 (by decide)
      have hw1 : Wt w base (x 31) (([] : Bs) ++ [c.kind, c.client, c.num, c.time, c.queue].flatMap encN ++ [c.group, c.body, c.token, c.attempt].flatMap encText ++ [c.max, c.secs].flatMap encN ++ encRcp c.rc) := hF 31 (by decide)
      refine op_call rfl rfl (f := 284) (args := #[x 31, x 40]) ?_ ?_
      · simp only [puts, dstC, Act.put, List.setIfInBounds_toArray, List.set_cons_zero, List.set_cons_succ]
        go_simp
      · rw [hx]
        refine (nums_any w base (x 31) (([] : Bs) ++ [c.kind, c.client, c.num, c.time, c.queue].flatMap encN ++ [c.group, c.body, c.token, c.attempt].flatMap encText ++ [c.max, c.secs].flatMap encN ++ encRcp c.rc) hw1 (Nat.le_trans HB0.out hS.2.1.size) (by simp only [List.length_append, List.length_nil]; omega) b _ [c.lo, c.hi, c.to] hbx (by simp) (q4)).mono ?_
        rintro e w' ⟨v', rfl, hw', hb', hu'⟩
        exact ⟨v', rfl, _, rfl, hS.wrote (by decide) hb' hu', hw', hu'⟩
    · have hw1 : Wt w base (x 41) (([] : Bs) ++ [c.kind, c.client, c.num, c.time, c.queue].flatMap encN ++ [c.group, c.body, c.token, c.attempt].flatMap encText ++ [c.max, c.secs].flatMap encN ++ encRcp c.rc ++ [c.lo, c.hi, c.to].flatMap encN) := hF 41 (by decide)
      refine op_call rfl rfl (f := 286) (args := #[x 41, .slice ao c.data.length cap]) ?_ ?_
      · simp only [puts, dstC, Act.put, List.setIfInBounds_toArray, List.set_cons_zero, List.set_cons_succ]
        go_simp
      · refine (data_any w base (x 41) (([] : Bs) ++ [c.kind, c.client, c.num, c.time, c.queue].flatMap encN ++ [c.group, c.body, c.token, c.attempt].flatMap encText ++ [c.max, c.secs].flatMap encN ++ encRcp c.rc ++ [c.lo, c.hi, c.to].flatMap encN) hw1 (Nat.le_trans HB0.out hS.2.1.size) (by simp only [List.length_append, List.length_nil]; omega) ao cap c.data (HR0.out w hS.2.1) hdl.1 hdl.2).mono ?_
        rintro e w' ⟨v', rfl, hw', hb', hu'⟩
        exact ⟨v', rfl, _, rfl, hS.wrote (by decide) hb' hu', hw', hu'⟩
    · have hw1 : Wt w base (x 44) (([] : Bs) ++ [c.kind, c.client, c.num, c.time, c.queue].flatMap encN ++ [c.group, c.body, c.token, c.attempt].flatMap encText ++ [c.max, c.secs].flatMap encN ++ encRcp c.rc ++ [c.lo, c.hi, c.to].flatMap encN ++ encList encText c.data) := hF 44 (by decide)
      refine op_value rfl rfl (v := x 44) (w' := w) ?_ ⟨_, rfl, hS, hw1, U8.refl w⟩
      simp only [puts, dstC, Act.put, List.setIfInBounds_toArray, List.set_cons_zero, List.set_cons_succ]
      go_simp
    · refine op_value rfl rfl (v := .int .i64 0) (w' := w) ?_ ⟨_, rfl, hS, rfl, Gr.refl w⟩
      simp only [puts, dstC, Act.put, List.setIfInBounds_toArray, List.set_cons_zero, List.set_cons_succ]
      go_simp
  case fin =>
    intro x w2 hS hF
    have hw1 : Wt w2 base (x 45) (([] : Bs) ++ [c.kind, c.client, c.num, c.time, c.queue].flatMap encN ++ [c.group, c.body, c.token, c.attempt].flatMap encText ++ [c.max, c.secs].flatMap encN ++ encRcp c.rc ++ [c.lo, c.hi, c.to].flatMap encN ++ encList encText c.data) := hF 45 (by decide) (by decide)
    have hc0 : x 46 = .int .i64 0 := hF 46 (by decide) (by decide)
    rw [cm_bytes] at hw1
    have HW1 := mkH hw1
    have HS1 := mkH hS
    clear hw1 hF hS hq hHeld
    simp only [puts, dstC, Act.put, List.setIfInBounds_toArray, List.set_cons_zero, List.set_cons_succ]
    go_wp2
    go_ret2
    refine ⟨x 45, ?_, HBE.out ▸ HW1.out, ?_⟩
    · show Ending.returned (.tuple #[x 45, x 46]) = _
      rw [hc0]
    · exact HG1.out.below.trans (HBE.out ▸ HS1.out.2.1)

set_option maxHeartbeats 4000000 in
theorem cmd_bad (w : World) (c : Cm) (ao : Option Addr) (cap : Nat) (hr : RowT w ao c.data) (hlen : c.data.length ≤ 1000000) (hck : checkC c ≠ 0) :
    Calls Tryz.prog 265 #[.agg (Cv c (.slice ao c.data.length cap))] w fun e w' => e = .returned (.tuple #[.slice none 0 0, .int .i64 (checkC c : Int)]) ∧ Below w.heap.size w w' := by
  have H1 := check_any (w.alloc (.cells (Cv c (.slice ao c.data.length cap)) 39)) c ao cap (RowT.gr hr ((Gr.refl w).alloc _)) hlen
  have HB := mkH (Bx.new w (Cv c (.slice ao c.data.length cap)) 39)
  have HG := mkH ((Gr.refl w).alloc (.cells (Cv c (.slice ao c.data.length cap)) 39))
  have HL := mkH (load_cm HB.out)
  generalize Cv c (.slice ao c.data.length cap) = C at *
  generalize checkC c = j at *
  have te : ((j : Int) == 0) = false := by simp; omega
  clear hck
  go_enter Tryz.func265, Tryz.ntmps265
  go_wp2_with (refine wpList_ld (ty := 39) (x := .tmp 1) rfl rfl rfl HL.out ?_)
  refine H1.mono ?_
  rintro e w1 ⟨rfl, hg1⟩
  have HG1 := mkH (HG.out.trans hg1)
  clear H1 HB HG HL hg1 hr
  go_wp2
  go_ret2
  exact ⟨rfl, HG1.out.below⟩
end Go.Proofs.YtgbbajeeelgbhaaGreatDoor.Wy
