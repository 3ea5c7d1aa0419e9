/-
  WiRC, joined by mrg.py.
-/
import Derived.Test.YtgbbajeeelgbhaaGreatDoorSqBE
import Derived.Test.YtgbbajeeelgbhaaGreatDoorSqAV

namespace Go.Proofs.YtgbbajeeelgbhaaGreatDoor.Wrc
open Go.RowKit Kt Pl Wi Wk Wc We Wf Wg Wx Wz Rf
open At (RowT okT)
open Wy (wpList_ld)
set_option linter.unusedVariables false
set_option linter.unusedSimpArgs false
set_option maxRecDepth 20000

def dstRA : Nat → Nat := (fun i => if i = 2 then 15 else if i = 5 then 18 else if i = 8 then 21 else if i = 11 then 24 else if i = 14 then 27 else if i = 15 then 5 else 0)
def consRA : Nat → Nat := (fun i => if i = 2 then 5 else if i = 5 then 8 else if i = 8 then 11 else if i = 11 then 14 else if i = 14 then 15 else 999)
def depsRA : Nat → List Nat := (fun i => if i = 5 then [2] else if i = 8 then [5] else if i = 11 then [8] else if i = 14 then [11] else if i = 15 then [14] else [])
def FRA (c : Cm) : Nat → Value → World → Prop := fun i v w => if i = 2 then RV (([] : Bs) ++ encN c.kind) v w else if i = 5 then RV (([] : Bs) ++ encN c.kind ++ encN c.client) v w else if i = 8 then RV (([] : Bs) ++ encN c.kind ++ encN c.client ++ encN c.num) v w else if i = 11 then RV (([] : Bs) ++ encN c.kind ++ encN c.client ++ encN c.num ++ encN c.time) v w else if i = 14 then RV (([] : Bs) ++ encN c.kind ++ encN c.client ++ encN c.num ++ encN c.time ++ encN c.queue) v w else if i = 15 then RV (([] : Bs) ++ encN c.kind ++ encN c.client ++ encN c.num ++ encN c.time ++ encN c.queue) v w else True
def dstRB : Nat → Nat := (fun i => if i = 0 then 28 else if i = 3 then 31 else if i = 6 then 34 else if i = 9 then 37 else if i = 12 then 40 else if i = 13 then 5 else 0)
def consRB : Nat → Nat := (fun i => if i = 0 then 3 else if i = 3 then 6 else if i = 6 then 9 else if i = 9 then 12 else if i = 12 then 13 else 999)
def depsRB : Nat → List Nat := (fun i => if i = 3 then [0] else if i = 6 then [3] else if i = 9 then [6] else if i = 12 then [9] else if i = 13 then [12] else [])
def FRB (c : Cm) : Nat → Value → World → Prop := fun i v w => if i = 0 then RV (([] : Bs) ++ encN c.kind ++ encN c.client ++ encN c.num ++ encN c.time ++ encN c.queue) v w else if i = 3 then RV (([] : Bs) ++ encN c.kind ++ encN c.client ++ encN c.num ++ encN c.time ++ encN c.queue ++ encText c.group) v w else if i = 6 then RV (([] : Bs) ++ encN c.kind ++ encN c.client ++ encN c.num ++ encN c.time ++ encN c.queue ++ encText c.group ++ encText c.body) v w else if i = 9 then RV (([] : Bs) ++ encN c.kind ++ encN c.client ++ encN c.num ++ encN c.time ++ encN c.queue ++ encText c.group ++ encText c.body ++ encText c.token) v w else if i = 12 then RV (([] : Bs) ++ encN c.kind ++ encN c.client ++ encN c.num ++ encN c.time ++ encN c.queue ++ encText c.group ++ encText c.body ++ encText c.token ++ encText c.attempt) v w else if i = 13 then RV (([] : Bs) ++ encN c.kind ++ encN c.client ++ encN c.num ++ encN c.time ++ encN c.queue ++ encText c.group ++ encText c.body ++ encText c.token ++ encText c.attempt) v w else True
def dstRC : Nat → Nat := (fun i => if i = 0 then 41 else if i = 3 then 44 else if i = 6 then 47 else if i = 9 then 50 else if i = 10 then 5 else 0)
def consRC : Nat → Nat := (fun i => if i = 0 then 3 else if i = 3 then 6 else if i = 6 then 9 else if i = 9 then 10 else 999)
def depsRC : Nat → List Nat := (fun i => if i = 3 then [0] else if i = 6 then [3] else if i = 9 then [6] else if i = 10 then [9] else [])
def FRC (c : Cm) : Nat → Value → World → Prop := fun i v w => if i = 0 then RV (([] : Bs) ++ encN c.kind ++ encN c.client ++ encN c.num ++ encN c.time ++ encN c.queue ++ encText c.group ++ encText c.body ++ encText c.token ++ encText c.attempt) v w else if i = 3 then RV (([] : Bs) ++ encN c.kind ++ encN c.client ++ encN c.num ++ encN c.time ++ encN c.queue ++ encText c.group ++ encText c.body ++ encText c.token ++ encText c.attempt ++ encN c.max) v w else if i = 6 then RV (([] : Bs) ++ encN c.kind ++ encN c.client ++ encN c.num ++ encN c.time ++ encN c.queue ++ encText c.group ++ encText c.body ++ encText c.token ++ encText c.attempt ++ encN c.max ++ encN c.secs) v w else if i = 9 then RV (([] : Bs) ++ encN c.kind ++ encN c.client ++ encN c.num ++ encN c.time ++ encN c.queue ++ encText c.group ++ encText c.body ++ encText c.token ++ encText c.attempt ++ encN c.max ++ encN c.secs ++ encRcp c.rc) v w else if i = 10 then RV (([] : Bs) ++ encN c.kind ++ encN c.client ++ encN c.num ++ encN c.time ++ encN c.queue ++ encText c.group ++ encText c.body ++ encText c.token ++ encText c.attempt ++ encN c.max ++ encN c.secs ++ encRcp c.rc) v w else True
def dstRD : Nat → Nat := (fun i => if i = 0 then 51 else if i = 4 then 55 else if i = 8 then 59 else if i = 11 then 62 else if i = 12 then 5 else 0)
def consRD : Nat → Nat := (fun i => if i = 0 then 4 else if i = 4 then 8 else if i = 8 then 11 else if i = 11 then 12 else 999)
def depsRD : Nat → List Nat := (fun i => if i = 4 then [0] else if i = 8 then [4] else if i = 11 then [8] else if i = 12 then [11] else [])
def FRD (c : Cm) : Nat → Value → World → Prop := fun i v w => if i = 0 then RV (([] : Bs) ++ encN c.kind ++ encN c.client ++ encN c.num ++ encN c.time ++ encN c.queue ++ encText c.group ++ encText c.body ++ encText c.token ++ encText c.attempt ++ encN c.max ++ encN c.secs ++ encRcp c.rc) v w else if i = 4 then RV (([] : Bs) ++ encN c.kind ++ encN c.client ++ encN c.num ++ encN c.time ++ encN c.queue ++ encText c.group ++ encText c.body ++ encText c.token ++ encText c.attempt ++ encN c.max ++ encN c.secs ++ encRcp c.rc ++ encN c.lo) v w else if i = 8 then RV (([] : Bs) ++ encN c.kind ++ encN c.client ++ encN c.num ++ encN c.time ++ encN c.queue ++ encText c.group ++ encText c.body ++ encText c.token ++ encText c.attempt ++ encN c.max ++ encN c.secs ++ encRcp c.rc ++ encN c.lo ++ encN c.hi) v w else if i = 11 then RV (([] : Bs) ++ encN c.kind ++ encN c.client ++ encN c.num ++ encN c.time ++ encN c.queue ++ encText c.group ++ encText c.body ++ encText c.token ++ encText c.attempt ++ encN c.max ++ encN c.secs ++ encRcp c.rc ++ encN c.lo ++ encN c.hi ++ encN c.to) v w else if i = 12 then RV (([] : Bs) ++ encN c.kind ++ encN c.client ++ encN c.num ++ encN c.time ++ encN c.queue ++ encText c.group ++ encText c.body ++ encText c.token ++ encText c.attempt ++ encN c.max ++ encN c.secs ++ encRcp c.rc ++ encN c.lo ++ encN c.hi ++ encN c.to) v w else True

theorem cm_nums {c : Cm} (h : checkC c = 0) : (0 ≤ c.kind ∧ c.kind ≤ 1099511627776) ∧ (0 ≤ c.client ∧ c.client ≤ 1099511627776) ∧ (0 ≤ c.num ∧ c.num ≤ 1099511627776) ∧ (0 ≤ c.time ∧ c.time ≤ 1099511627776) ∧ (0 ≤ c.queue ∧ c.queue ≤ 1099511627776) ∧
    (0 ≤ c.max ∧ c.max ≤ 1099511627776) ∧ (0 ≤ c.secs ∧ c.secs ≤ 1099511627776) ∧ (0 ≤ c.lo ∧ c.lo ≤ 1099511627776) ∧ (0 ≤ c.hi ∧ c.hi ≤ 1099511627776) ∧ (0 ≤ c.to ∧ c.to ≤ 1099511627776) ∧
    c.group.length ≤ 4096 ∧ c.body.length ≤ 4096 ∧ c.token.length ≤ 4096 ∧ c.attempt.length ≤ 4096 ∧ rcB c.rc = true ∧ c.rc.g.length ≤ 32 ∧ c.data.length ≤ 1024 ∧ (∀ x ∈ c.data, x.length ≤ 4096) := by
  obtain ⟨hr, hs⟩ := judge_ok h
  simp only [rightC, shortC, Bool.and_eq_true, fitB, decide_eq_true_eq, Bool.or_eq_true, mayB] at hr hs
  obtain ⟨r0, ⟨r1, r2, r3, r4, r5, r6, r7⟩, r8, r9⟩ := hr
  obtain ⟨⟨s0, s1, s2, s3⟩, s4, s5⟩ := hs
  have s5 := dataB_ok s5
  simp only [upToB, Bool.and_eq_true, decide_eq_true_eq] at r0
  have r1 := num_ok r1; have r2 := num_ok r2; have r3 := num_ok r3; have r4 := num_ok r4; have r5 := num_ok r5; have r6 := num_ok r6; have r7 := num_ok r7
  refine ⟨by omega, by omega, by omega, by omega, by omega, by omega, by omega, by omega, by omega, by omega, by omega, by omega, by omega, by omega, r8, s3, s5.1, s5.2⟩
theorem encN_len {n : Int} (h : 0 ≤ n ∧ n ≤ 1099511627776) : (encN n).length ≤ 9 := enc_len9 (by omega)
theorem encT_len {s : Bs} (h : s.length ≤ 4096) : (encText s).length ≤ 4105 := by unfold encText; rw [List.length_append]; have := enc_len9 (n := s.length) (by omega); omega
theorem rcm_bytes (c : Cm) : ([] : Bs) ++ encN c.kind ++ encN c.client ++ encN c.num ++ encN c.time ++ encN c.queue ++ encText c.group ++ encText c.body ++ encText c.token ++ encText c.attempt ++ encN c.max ++ encN c.secs ++ encRcp c.rc ++ encN c.lo ++ encN c.hi ++ encN c.to ++ encList encText c.data = encCm c := by simp [encCm, encRg]

theorem refTexts_any_rv {w : World} {v : Value} {bs : Bs} (hv : RV bs v w) (hl : bs.length ≤ 100000000) (ao : Option Addr) (cap : Nat) (l : List Bs) (hrow : RowT w ao l) (h1 : l.length ≤ 1024) (h2 : ∀ x ∈ l, x.length ≤ 4096) :
    Calls Tryz.prog 44 #[v, .slice ao l.length cap] w fun e w' => ∃ v', e = .returned (.tuple #[v', .int .i64 0]) ∧ RV (bs ++ encList encText l) v' w' ∧ Bl w w' := by
  obtain ⟨bo, bcap, rfl, hr, -⟩ := hv
  refine (refTexts_cap w bo bcap bs hr hl ao cap l hrow h1).mono ?_
  rintro e w' (⟨-, a, c, he, hr', hc', hb⟩ | ⟨hn, -, -⟩)
  · exact ⟨_, he, ⟨a, c, rfl, hr', hc'⟩, hb⟩
  · exact absurd (fun x hx => h2 x hx) hn

set_option maxHeartbeats 16000000 in
theorem rcmd_ok (w : World) (c : Cm) (ao : Option Addr) (cap : Nat) (hr : RowT w ao c.data) (hlen : c.data.length ≤ 1000000) (hck : checkC c = 0) :
    Calls Tryz.prog 13 #[.agg (Cv c (.slice ao c.data.length cap))] w fun e w' => ∃ v, e = .returned (.tuple #[v, .int .i64 0]) ∧ RV (encCm c) v w' ∧ Bl w w' := by
  have H1 := rcheck_any (w.alloc (.cells (Cv c (.slice ao c.data.length cap)) 39)) c ao cap (RowT.gr hr ((Gr.refl w).alloc _)) hlen
  rw [hck] at H1
  obtain ⟨z1, z2, z3, z4, z5, z6, z7, z8, z9, z10, t1, t2, t3, t4, hrc, hrg, hd1, hd2⟩ := cm_nums hck
  have y1 := encN_len z1; have y2 := encN_len z2; have y3 := encN_len z3; have y4 := encN_len z4; have y5 := encN_len z5; have y6 := encN_len z6; have y7 := encN_len z7; have y8 := encN_len z8; have y9 := encN_len z9; have y10 := encN_len z10
  have u1 := encT_len t1; have u2 := encT_len t2; have u3 := encT_len t3; have u4 := encT_len t4
  have u5 := (rcp_len hrc (by omega)).2.2.2.2
  have HB := mkH (Bx.new w (Cv c (.slice ao c.data.length cap)) 39)
  have HG := mkH ((Gr.refl w).alloc (.cells (Cv c (.slice ao c.data.length cap)) 39))
  have HL := mkH (load_cm HB.out)
  obtain ⟨k0, k1, k2, k3, k4, k5, k6, k7, k8, k9, k10, k11, k12, k13, k14, k15, k16, k17, k18⟩ := Cv_at c (.slice ao c.data.length cap)
  generalize Cv c (.slice ao c.data.length cap) = C at *
  go_enter Tryz.func13, Tryz.ntmps13
  go_wp2_with (refine wpList_ld (ty := 39) (x := .tmp 1) rfl rfl rfl HL.out ?_)
  refine H1.mono ?_
  rintro e w1 ⟨rfl, hg1⟩
  have HB1 := mkH (HB.out.gr hg1)
  have HG1 : Hid (Bl w w1) := mkH (HG.out.trans hg1).below
  have HRw := mkH hr
  clear H1 HB HG HL hg1 hr
  go_wp2_with fail
  have HS0 : Hid (S0 w1 w.heap.size C 39 w1.drew) := mkH ⟨HB1.out.gr ((Gr.refl _).drew), (Below.refl _ _).drew⟩
  have HR0 : Hid (∀ W, Bl w1 W → RowT W ao c.data) := mkH (fun W h => HRw.out.below (HG1.out.trans h))
  clear HRw HB1
  generalize hBq : w.heap.size = B at HS0 ⊢
  clear hBq
  have HSB : Hid (∀ w w', S0 w1 B C 39 w → Bl w w' → S0 w1 B C 39 w') := mkH (fun _ _ h k => h.bl k)
  have hq : ∀ W, S0 w1 B C 39 W → ∀ k, W.cell? ⟨B, k, none⟩ = C[k]? := fun W h => h.1.cell
  refine wp_region_held_drew (S := fun W => S0 w1 B C 39 W) (by kernel_rfl) HS0.out (fun hHeld => ?_)
  clear HS0
  refine wpAnyH_take (i := 0) (oi := { dst := some 13, op := _, type := _, pos := _, after := _, guard := _ }) (v := ?_) rfl (by kernel_rfl) (by kernel_rfl) (by kernel_rfl) (fun _ _ _ h => h) (Or.inl ⟨by rfl, ?_⟩) (by assumption) ?_
  rotate_left
  · (intro W hSw; (try dsimp only at hSw); go_simp; try (with_reducible rfl))
  try simp only [Act.put, List.setIfInBounds_toArray, List.set_cons_zero, List.set_cons_succ]
  refine wpAnyH_take (i := 1) (oi := { dst := some 14, op := _, type := _, pos := _, after := _, guard := _ }) (v := ?_) rfl (by kernel_rfl) (by kernel_rfl) (by kernel_rfl) (fun _ _ _ h => h) (Or.inl ⟨by rfl, ?_⟩) (by assumption) ?_
  rotate_left
  · (intro W hSw; (try dsimp only at hSw); go_simp; try (with_reducible rfl))
  try simp only [Act.put, List.setIfInBounds_toArray, List.set_cons_zero, List.set_cons_succ]
  refine wpAnyH_take (i := 3) (oi := { dst := some 16, op := _, type := _, pos := _, after := _, guard := _ }) (v := ?_) rfl (by kernel_rfl) (by kernel_rfl) (by kernel_rfl) (fun _ _ _ h => h) (Or.inl ⟨by rfl, ?_⟩) (by assumption) ?_
  rotate_left
  · (intro W hSw; (try dsimp only at hSw); go_simp; try (with_reducible rfl))
  try simp only [Act.put, List.setIfInBounds_toArray, List.set_cons_zero, List.set_cons_succ]
  refine wpAnyH_take (i := 4) (oi := { dst := some 17, op := _, type := _, pos := _, after := _, guard := _ }) (v := ?_) rfl (by kernel_rfl) (by kernel_rfl) (by kernel_rfl) (fun _ _ _ h => h) (Or.inl ⟨by rfl, ?_⟩) (by assumption) ?_
  rotate_left
  · (intro W hSw; (try dsimp only at hSw); go_simp; try (with_reducible rfl))
  try simp only [Act.put, List.setIfInBounds_toArray, List.set_cons_zero, List.set_cons_succ]
  refine wpAnyH_take (i := 6) (oi := { dst := some 19, op := _, type := _, pos := _, after := _, guard := _ }) (v := ?_) rfl (by kernel_rfl) (by kernel_rfl) (by kernel_rfl) (fun _ _ _ h => h) (Or.inl ⟨by rfl, ?_⟩) (by assumption) ?_
  rotate_left
  · (intro W hSw; (try dsimp only at hSw); go_simp; try (with_reducible rfl))
  try simp only [Act.put, List.setIfInBounds_toArray, List.set_cons_zero, List.set_cons_succ]
  refine wpAnyH_take (i := 7) (oi := { dst := some 20, op := _, type := _, pos := _, after := _, guard := _ }) (v := ?_) rfl (by kernel_rfl) (by kernel_rfl) (by kernel_rfl) (fun _ _ _ h => h) (Or.inl ⟨by rfl, ?_⟩) (by assumption) ?_
  rotate_left
  · (intro W hSw; (try dsimp only at hSw); go_simp; try (with_reducible rfl))
  try simp only [Act.put, List.setIfInBounds_toArray, List.set_cons_zero, List.set_cons_succ]
  refine wpAnyH_take (i := 9) (oi := { dst := some 22, op := _, type := _, pos := _, after := _, guard := _ }) (v := ?_) rfl (by kernel_rfl) (by kernel_rfl) (by kernel_rfl) (fun _ _ _ h => h) (Or.inl ⟨by rfl, ?_⟩) (by assumption) ?_
  rotate_left
  · (intro W hSw; (try dsimp only at hSw); go_simp; try (with_reducible rfl))
  try simp only [Act.put, List.setIfInBounds_toArray, List.set_cons_zero, List.set_cons_succ]
  refine wpAnyH_take (i := 10) (oi := { dst := some 23, op := _, type := _, pos := _, after := _, guard := _ }) (v := ?_) rfl (by kernel_rfl) (by kernel_rfl) (by kernel_rfl) (fun _ _ _ h => h) (Or.inl ⟨by rfl, ?_⟩) (by assumption) ?_
  rotate_left
  · (intro W hSw; (try dsimp only at hSw); go_simp; try (with_reducible rfl))
  try simp only [Act.put, List.setIfInBounds_toArray, List.set_cons_zero, List.set_cons_succ]
  refine wpAnyH_take (i := 12) (oi := { dst := some 25, op := _, type := _, pos := _, after := _, guard := _ }) (v := ?_) rfl (by kernel_rfl) (by kernel_rfl) (by kernel_rfl) (fun _ _ _ h => h) (Or.inl ⟨by rfl, ?_⟩) (by assumption) ?_
  rotate_left
  · (intro W hSw; (try dsimp only at hSw); go_simp; try (with_reducible rfl))
  try simp only [Act.put, List.setIfInBounds_toArray, List.set_cons_zero, List.set_cons_succ]
  refine wpAnyH_take (i := 13) (oi := { dst := some 26, op := _, type := _, pos := _, after := _, guard := _ }) (v := ?_) rfl (by kernel_rfl) (by kernel_rfl) (by kernel_rfl) (fun _ _ _ h => h) (Or.inl ⟨by rfl, ?_⟩) (by assumption) ?_
  rotate_left
  · (intro W hSw; (try dsimp only at hSw); go_simp; try (with_reducible rfl))
  try simp only [Act.put, List.setIfInBounds_toArray, List.set_cons_zero, List.set_cons_succ]
  refine wpAnyH_lin [2, 5, 8, 11, 14, 15] dstRA consRA depsRA (fun _ => false) [] (FRA c) Bl Bl (by decide) (by kernel_rfl) ?s0 ?s1 ?step ?fin ?hpre (by decide) hHeld (by decide) rfl
  case s0 =>
    intro i hi v w w' h hg
    simp only [List.mem_cons, List.not_mem_nil, or_false] at hi
    rcases hi with rfl | rfl | rfl | rfl | rfl | rfl
    all_goals exact RV.bl h hg
  case s1 =>
    intro i hi hw v w w' h hg
    simp only [List.mem_cons, List.not_mem_nil, or_false] at hi
    rcases hi with rfl | rfl | rfl | rfl | rfl | rfl
    all_goals exact RV.bl h hg
  case hpre =>
    intro i hi
    cases hi
  case step =>
    intro i hi hip x w hS hF
    simp only [List.mem_cons, List.not_mem_nil, or_false] at hi
    rcases hi with rfl | rfl | rfl | rfl | rfl | rfl
    · have hv1 : RV (([] : Bs)) (.slice none 0 0) w := RV.none w
      refine op_call rfl rfl (f := 41) (args := #[.slice none 0 0, .int .i64 c.kind]) ?_ ?_
      · simp only [puts, dstRA, Act.put, List.setIfInBounds_toArray, reduceIte, Nat.reduceEqDiff, List.set_cons_zero, List.set_cons_succ]
        go_simp
        try rfl
      · refine (number_any w (.slice none 0 0) (([] : Bs)) c.kind hv1 (by (try simp only [List.length_append, List.length_nil]); omega) z1).mono ?_
        rintro e w' ⟨v', rfl, hv', hb'⟩
        exact ⟨v', rfl, _, rfl, HSB.out _ _ hS hb', hv', hb'⟩
    · have hv1 : RV (([] : Bs) ++ encN c.kind) (x 2) w := hF 2 (by decide)
      refine op_call rfl rfl (f := 41) (args := #[x 2, .int .i64 c.client]) ?_ ?_
      · simp only [puts, dstRA, Act.put, List.setIfInBounds_toArray, reduceIte, Nat.reduceEqDiff, List.set_cons_zero, List.set_cons_succ]
        go_simp
        try rfl
      · refine (number_any w (x 2) (([] : Bs) ++ encN c.kind) c.client hv1 (by (try simp only [List.length_append, List.length_nil]); omega) z2).mono ?_
        rintro e w' ⟨v', rfl, hv', hb'⟩
        exact ⟨v', rfl, _, rfl, HSB.out _ _ hS hb', hv', hb'⟩
    · have hv1 : RV (([] : Bs) ++ encN c.kind ++ encN c.client) (x 5) w := hF 5 (by decide)
      refine op_call rfl rfl (f := 41) (args := #[x 5, .int .i64 c.num]) ?_ ?_
      · simp only [puts, dstRA, Act.put, List.setIfInBounds_toArray, reduceIte, Nat.reduceEqDiff, List.set_cons_zero, List.set_cons_succ]
        go_simp
        try rfl
      · refine (number_any w (x 5) (([] : Bs) ++ encN c.kind ++ encN c.client) c.num hv1 (by (try simp only [List.length_append, List.length_nil]); omega) z3).mono ?_
        rintro e w' ⟨v', rfl, hv', hb'⟩
        exact ⟨v', rfl, _, rfl, HSB.out _ _ hS hb', hv', hb'⟩
    · have hv1 : RV (([] : Bs) ++ encN c.kind ++ encN c.client ++ encN c.num) (x 8) w := hF 8 (by decide)
      refine op_call rfl rfl (f := 41) (args := #[x 8, .int .i64 c.time]) ?_ ?_
      · simp only [puts, dstRA, Act.put, List.setIfInBounds_toArray, reduceIte, Nat.reduceEqDiff, List.set_cons_zero, List.set_cons_succ]
        go_simp
        try rfl
      · refine (number_any w (x 8) (([] : Bs) ++ encN c.kind ++ encN c.client ++ encN c.num) c.time hv1 (by (try simp only [List.length_append, List.length_nil]); omega) z4).mono ?_
        rintro e w' ⟨v', rfl, hv', hb'⟩
        exact ⟨v', rfl, _, rfl, HSB.out _ _ hS hb', hv', hb'⟩
    · have hv1 : RV (([] : Bs) ++ encN c.kind ++ encN c.client ++ encN c.num ++ encN c.time) (x 11) w := hF 11 (by decide)
      refine op_call rfl rfl (f := 41) (args := #[x 11, .int .i64 c.queue]) ?_ ?_
      · simp only [puts, dstRA, Act.put, List.setIfInBounds_toArray, reduceIte, Nat.reduceEqDiff, List.set_cons_zero, List.set_cons_succ]
        go_simp
        try rfl
      · refine (number_any w (x 11) (([] : Bs) ++ encN c.kind ++ encN c.client ++ encN c.num ++ encN c.time) c.queue hv1 (by (try simp only [List.length_append, List.length_nil]); omega) z5).mono ?_
        rintro e w' ⟨v', rfl, hv', hb'⟩
        exact ⟨v', rfl, _, rfl, HSB.out _ _ hS hb', hv', hb'⟩
    · have hv1 : RV (([] : Bs) ++ encN c.kind ++ encN c.client ++ encN c.num ++ encN c.time ++ encN c.queue) (x 14) w := hF 14 (by decide)
      refine op_value rfl rfl (v := x 14) (w' := w) ?_ ⟨_, rfl, hS, hv1, Below.refl _ w⟩
      simp only [puts, dstRA, Act.put, List.setIfInBounds_toArray, reduceIte, Nat.reduceEqDiff, List.set_cons_zero, List.set_cons_succ]
      go_simp
  case fin =>
    intro x2 w3 hS hF
    have hv1 : RV (([] : Bs) ++ encN c.kind ++ encN c.client ++ encN c.num ++ encN c.time ++ encN c.queue) (x2 15) w3 := hF 15 (by decide) (by decide)
    have HV0 := mkH (hv1.bl ((Gr.refl w3).drew).below)
    have HV1 := mkH hv1
    have HS1 := mkH hS
    have HSd := mkH (HSB.out _ _ hS ((Gr.refl w3).drew).below)
    clear hv1 hF hS hHeld
    simp only [puts, dstRA, Act.put, List.setIfInBounds_toArray, reduceIte, Nat.reduceEqDiff, List.set_cons_zero, List.set_cons_succ]
    generalize x2 15 = q2 at *
    go_wp2_with fail
    refine wp_region_held_drew (S := fun W => S0 w1 B C 39 W) (by kernel_rfl) HSd.out (fun hHeld => ?_)
    clear HSd HS1 HV1
    refine wpAnyH_take (i := 0) (oi := { dst := some 28, op := _, type := _, pos := _, after := _, guard := _ }) (v := ?_) rfl (by kernel_rfl) (by kernel_rfl) (by kernel_rfl) (fun _ _ _ h => h) (Or.inl ⟨by rfl, ?_⟩) (by assumption) ?_
    rotate_left
    · (intro W hSw; (try dsimp only at hSw); go_simp; try (with_reducible rfl))
    try simp only [Act.put, List.setIfInBounds_toArray, List.set_cons_zero, List.set_cons_succ]
    refine wpAnyH_take (i := 1) (oi := { dst := some 29, op := _, type := _, pos := _, after := _, guard := _ }) (v := ?_) rfl (by kernel_rfl) (by kernel_rfl) (by kernel_rfl) (fun _ _ _ h => h) (Or.inl ⟨by rfl, ?_⟩) (by assumption) ?_
    rotate_left
    · (intro W hSw; (try dsimp only at hSw); go_simp; try (with_reducible rfl))
    try simp only [Act.put, List.setIfInBounds_toArray, List.set_cons_zero, List.set_cons_succ]
    refine wpAnyH_take (i := 2) (oi := { dst := some 30, op := _, type := _, pos := _, after := _, guard := _ }) (v := ?_) rfl (by kernel_rfl) (by kernel_rfl) (by kernel_rfl) (fun _ _ _ h => h) (Or.inl ⟨by rfl, ?_⟩) (by assumption) ?_
    rotate_left
    · (intro W hSw; (try dsimp only at hSw); go_simp; try (with_reducible rfl))
    try simp only [Act.put, List.setIfInBounds_toArray, List.set_cons_zero, List.set_cons_succ]
    refine wpAnyH_take (i := 4) (oi := { dst := some 32, op := _, type := _, pos := _, after := _, guard := _ }) (v := ?_) rfl (by kernel_rfl) (by kernel_rfl) (by kernel_rfl) (fun _ _ _ h => h) (Or.inl ⟨by rfl, ?_⟩) (by assumption) ?_
    rotate_left
    · (intro W hSw; (try dsimp only at hSw); go_simp; try (with_reducible rfl))
    try simp only [Act.put, List.setIfInBounds_toArray, List.set_cons_zero, List.set_cons_succ]
    refine wpAnyH_take (i := 5) (oi := { dst := some 33, op := _, type := _, pos := _, after := _, guard := _ }) (v := ?_) rfl (by kernel_rfl) (by kernel_rfl) (by kernel_rfl) (fun _ _ _ h => h) (Or.inl ⟨by rfl, ?_⟩) (by assumption) ?_
    rotate_left
    · (intro W hSw; (try dsimp only at hSw); go_simp; try (with_reducible rfl))
    try simp only [Act.put, List.setIfInBounds_toArray, List.set_cons_zero, List.set_cons_succ]
    refine wpAnyH_take (i := 7) (oi := { dst := some 35, op := _, type := _, pos := _, after := _, guard := _ }) (v := ?_) rfl (by kernel_rfl) (by kernel_rfl) (by kernel_rfl) (fun _ _ _ h => h) (Or.inl ⟨by rfl, ?_⟩) (by assumption) ?_
    rotate_left
    · (intro W hSw; (try dsimp only at hSw); go_simp; try (with_reducible rfl))
    try simp only [Act.put, List.setIfInBounds_toArray, List.set_cons_zero, List.set_cons_succ]
    refine wpAnyH_take (i := 8) (oi := { dst := some 36, op := _, type := _, pos := _, after := _, guard := _ }) (v := ?_) rfl (by kernel_rfl) (by kernel_rfl) (by kernel_rfl) (fun _ _ _ h => h) (Or.inl ⟨by rfl, ?_⟩) (by assumption) ?_
    rotate_left
    · (intro W hSw; (try dsimp only at hSw); go_simp; try (with_reducible rfl))
    try simp only [Act.put, List.setIfInBounds_toArray, List.set_cons_zero, List.set_cons_succ]
    refine wpAnyH_take (i := 10) (oi := { dst := some 38, op := _, type := _, pos := _, after := _, guard := _ }) (v := ?_) rfl (by kernel_rfl) (by kernel_rfl) (by kernel_rfl) (fun _ _ _ h => h) (Or.inl ⟨by rfl, ?_⟩) (by assumption) ?_
    rotate_left
    · (intro W hSw; (try dsimp only at hSw); go_simp; try (with_reducible rfl))
    try simp only [Act.put, List.setIfInBounds_toArray, List.set_cons_zero, List.set_cons_succ]
    refine wpAnyH_take (i := 11) (oi := { dst := some 39, op := _, type := _, pos := _, after := _, guard := _ }) (v := ?_) rfl (by kernel_rfl) (by kernel_rfl) (by kernel_rfl) (fun _ _ _ h => h) (Or.inl ⟨by rfl, ?_⟩) (by assumption) ?_
    rotate_left
    · (intro W hSw; (try dsimp only at hSw); go_simp; try (with_reducible rfl))
    try simp only [Act.put, List.setIfInBounds_toArray, List.set_cons_zero, List.set_cons_succ]
    refine wpAnyH_lin [0, 3, 6, 9, 12, 13] dstRB consRB depsRB (fun _ => false) [0] (FRB c) Bl Bl (by decide) (by kernel_rfl) ?s0 ?s1 ?step ?fin ?hpre (by decide) hHeld (by decide) rfl
    case s0 =>
      intro i hi v w w' h hg
      simp only [List.mem_cons, List.not_mem_nil, or_false] at hi
      rcases hi with rfl | rfl | rfl | rfl | rfl | rfl
      all_goals exact RV.bl h hg
    case s1 =>
      intro i hi hw v w w' h hg
      simp only [List.mem_cons, List.not_mem_nil, or_false] at hi
      rcases hi with rfl | rfl | rfl | rfl | rfl | rfl
      all_goals exact RV.bl h hg
    case hpre =>
      intro i hi
      obtain rfl := List.mem_singleton.1 hi
      exact HV0.out
    case step =>
      intro i hi hip x w hS hF
      simp only [List.mem_cons, List.not_mem_nil, or_false] at hi
      rcases hi with rfl | rfl | rfl | rfl | rfl | rfl
      · exact absurd (by decide) hip
      · have hv1 : RV (([] : Bs) ++ encN c.kind ++ encN c.client ++ encN c.num ++ encN c.time ++ encN c.queue) (x 0) w := hF 0 (by decide)
        refine op_call rfl rfl (f := 42) (args := #[x 0, .string (S c.group)]) ?_ ?_
        · simp only [puts, dstRB, Act.put, List.setIfInBounds_toArray, reduceIte, Nat.reduceEqDiff, List.set_cons_zero, List.set_cons_succ]
          go_simp
          try rfl
        · refine (text_any w (x 0) (([] : Bs) ++ encN c.kind ++ encN c.client ++ encN c.num ++ encN c.time ++ encN c.queue) c.group hv1 (by (try simp only [List.length_append, List.length_nil]); omega) t1).mono ?_
          rintro e w' ⟨v', rfl, hv', hb'⟩
          exact ⟨v', rfl, _, rfl, HSB.out _ _ hS hb', hv', hb'⟩
      · have hv1 : RV (([] : Bs) ++ encN c.kind ++ encN c.client ++ encN c.num ++ encN c.time ++ encN c.queue ++ encText c.group) (x 3) w := hF 3 (by decide)
        refine op_call rfl rfl (f := 42) (args := #[x 3, .string (S c.body)]) ?_ ?_
        · simp only [puts, dstRB, Act.put, List.setIfInBounds_toArray, reduceIte, Nat.reduceEqDiff, List.set_cons_zero, List.set_cons_succ]
          go_simp
          try rfl
        · refine (text_any w (x 3) (([] : Bs) ++ encN c.kind ++ encN c.client ++ encN c.num ++ encN c.time ++ encN c.queue ++ encText c.group) c.body hv1 (by (try simp only [List.length_append, List.length_nil]); omega) t2).mono ?_
          rintro e w' ⟨v', rfl, hv', hb'⟩
          exact ⟨v', rfl, _, rfl, HSB.out _ _ hS hb', hv', hb'⟩
      · have hv1 : RV (([] : Bs) ++ encN c.kind ++ encN c.client ++ encN c.num ++ encN c.time ++ encN c.queue ++ encText c.group ++ encText c.body) (x 6) w := hF 6 (by decide)
        refine op_call rfl rfl (f := 42) (args := #[x 6, .string (S c.token)]) ?_ ?_
        · simp only [puts, dstRB, Act.put, List.setIfInBounds_toArray, reduceIte, Nat.reduceEqDiff, List.set_cons_zero, List.set_cons_succ]
          go_simp
          try rfl
        · refine (text_any w (x 6) (([] : Bs) ++ encN c.kind ++ encN c.client ++ encN c.num ++ encN c.time ++ encN c.queue ++ encText c.group ++ encText c.body) c.token hv1 (by (try simp only [List.length_append, List.length_nil]); omega) t3).mono ?_
          rintro e w' ⟨v', rfl, hv', hb'⟩
          exact ⟨v', rfl, _, rfl, HSB.out _ _ hS hb', hv', hb'⟩
      · have hv1 : RV (([] : Bs) ++ encN c.kind ++ encN c.client ++ encN c.num ++ encN c.time ++ encN c.queue ++ encText c.group ++ encText c.body ++ encText c.token) (x 9) w := hF 9 (by decide)
        refine op_call rfl rfl (f := 42) (args := #[x 9, .string (S c.attempt)]) ?_ ?_
        · simp only [puts, dstRB, Act.put, List.setIfInBounds_toArray, reduceIte, Nat.reduceEqDiff, List.set_cons_zero, List.set_cons_succ]
          go_simp
          try rfl
        · refine (text_any w (x 9) (([] : Bs) ++ encN c.kind ++ encN c.client ++ encN c.num ++ encN c.time ++ encN c.queue ++ encText c.group ++ encText c.body ++ encText c.token) c.attempt hv1 (by (try simp only [List.length_append, List.length_nil]); omega) t4).mono ?_
          rintro e w' ⟨v', rfl, hv', hb'⟩
          exact ⟨v', rfl, _, rfl, HSB.out _ _ hS hb', hv', hb'⟩
      · have hv1 : RV (([] : Bs) ++ encN c.kind ++ encN c.client ++ encN c.num ++ encN c.time ++ encN c.queue ++ encText c.group ++ encText c.body ++ encText c.token ++ encText c.attempt) (x 12) w := hF 12 (by decide)
        refine op_value rfl rfl (v := x 12) (w' := w) ?_ ⟨_, rfl, hS, hv1, Below.refl _ w⟩
        simp only [puts, dstRB, Act.put, List.setIfInBounds_toArray, reduceIte, Nat.reduceEqDiff, List.set_cons_zero, List.set_cons_succ]
        go_simp
    case fin =>
      intro x3 w4 hS hF
      have hv1 : RV (([] : Bs) ++ encN c.kind ++ encN c.client ++ encN c.num ++ encN c.time ++ encN c.queue ++ encText c.group ++ encText c.body ++ encText c.token ++ encText c.attempt) (x3 13) w4 := hF 13 (by decide) (by decide)
      have HV0 := mkH (hv1.bl ((Gr.refl w4).drew).below)
      have HV1 := mkH hv1
      have HS1 := mkH hS
      have HSd := mkH (HSB.out _ _ hS ((Gr.refl w4).drew).below)
      clear hv1 hF hS hHeld
      simp only [puts, dstRB, Act.put, List.setIfInBounds_toArray, reduceIte, Nat.reduceEqDiff, List.set_cons_zero, List.set_cons_succ]
      generalize x3 13 = q3 at *
      go_wp2_with fail
      refine wp_region_held_drew (S := fun W => S0 w1 B C 39 W) (by kernel_rfl) HSd.out (fun hHeld => ?_)
      clear HSd HS1 HV1
      refine wpAnyH_take (i := 0) (oi := { dst := some 41, op := _, type := _, pos := _, after := _, guard := _ }) (v := ?_) rfl (by kernel_rfl) (by kernel_rfl) (by kernel_rfl) (fun _ _ _ h => h) (Or.inl ⟨by rfl, ?_⟩) (by assumption) ?_
      rotate_left
      · (intro W hSw; (try dsimp only at hSw); go_simp; try (with_reducible rfl))
      try simp only [Act.put, List.setIfInBounds_toArray, List.set_cons_zero, List.set_cons_succ]
      refine wpAnyH_take (i := 1) (oi := { dst := some 42, op := _, type := _, pos := _, after := _, guard := _ }) (v := ?_) rfl (by kernel_rfl) (by kernel_rfl) (by kernel_rfl) (fun _ _ _ h => h) (Or.inl ⟨by rfl, ?_⟩) (by assumption) ?_
      rotate_left
      · (intro W hSw; (try dsimp only at hSw); go_simp; try (with_reducible rfl))
      try simp only [Act.put, List.setIfInBounds_toArray, List.set_cons_zero, List.set_cons_succ]
      refine wpAnyH_take (i := 2) (oi := { dst := some 43, op := _, type := _, pos := _, after := _, guard := _ }) (v := ?_) rfl (by kernel_rfl) (by kernel_rfl) (by kernel_rfl) (fun _ _ _ h => h) (Or.inl ⟨by rfl, ?_⟩) (by assumption) ?_
      rotate_left
      · (intro W hSw; (try dsimp only at hSw); go_simp; try (with_reducible rfl))
      try simp only [Act.put, List.setIfInBounds_toArray, List.set_cons_zero, List.set_cons_succ]
      refine wpAnyH_take (i := 4) (oi := { dst := some 45, op := _, type := _, pos := _, after := _, guard := _ }) (v := ?_) rfl (by kernel_rfl) (by kernel_rfl) (by kernel_rfl) (fun _ _ _ h => h) (Or.inl ⟨by rfl, ?_⟩) (by assumption) ?_
      rotate_left
      · (intro W hSw; (try dsimp only at hSw); go_simp; try (with_reducible rfl))
      try simp only [Act.put, List.setIfInBounds_toArray, List.set_cons_zero, List.set_cons_succ]
      refine wpAnyH_take (i := 5) (oi := { dst := some 46, op := _, type := _, pos := _, after := _, guard := _ }) (v := ?_) rfl (by kernel_rfl) (by kernel_rfl) (by kernel_rfl) (fun _ _ _ h => h) (Or.inl ⟨by rfl, ?_⟩) (by assumption) ?_
      rotate_left
      · (intro W hSw; (try dsimp only at hSw); go_simp; try (with_reducible rfl))
      try simp only [Act.put, List.setIfInBounds_toArray, List.set_cons_zero, List.set_cons_succ]
      refine wpAnyH_take (i := 7) (oi := { dst := some 48, op := _, type := _, pos := _, after := _, guard := _ }) (v := ?_) rfl (by kernel_rfl) (by kernel_rfl) (by kernel_rfl) (fun _ _ _ h => h) (Or.inl ⟨by rfl, ?_⟩) (by assumption) ?_
      rotate_left
      · (intro W hSw; (try dsimp only at hSw); go_simp; try (with_reducible rfl))
      try simp only [Act.put, List.setIfInBounds_toArray, List.set_cons_zero, List.set_cons_succ]
      refine wpAnyH_take (i := 8) (oi := { dst := some 49, op := _, type := _, pos := _, after := _, guard := _ }) (v := ?_) rfl (by kernel_rfl) (by kernel_rfl) (by kernel_rfl) (fun _ _ _ h => h) (Or.inl ⟨by rfl, ?_⟩) (by assumption) ?_
      rotate_left
      · (intro W hSw; (try dsimp only at hSw); go_simp; try (with_reducible rfl))
      try simp only [Act.put, List.setIfInBounds_toArray, List.set_cons_zero, List.set_cons_succ]
      refine wpAnyH_lin [0, 3, 6, 9, 10] dstRC consRC depsRC (fun _ => false) [0] (FRC c) Bl Bl (by decide) (by kernel_rfl) ?s0 ?s1 ?step ?fin ?hpre (by decide) hHeld (by decide) rfl
      case s0 =>
        intro i hi v w w' h hg
        simp only [List.mem_cons, List.not_mem_nil, or_false] at hi
        rcases hi with rfl | rfl | rfl | rfl | rfl
        all_goals exact RV.bl h hg
      case s1 =>
        intro i hi hw v w w' h hg
        simp only [List.mem_cons, List.not_mem_nil, or_false] at hi
        rcases hi with rfl | rfl | rfl | rfl | rfl
        all_goals exact RV.bl h hg
      case hpre =>
        intro i hi
        obtain rfl := List.mem_singleton.1 hi
        exact HV0.out
      case step =>
        intro i hi hip x w hS hF
        simp only [List.mem_cons, List.not_mem_nil, or_false] at hi
        rcases hi with rfl | rfl | rfl | rfl | rfl
        · exact absurd (by decide) hip
        · have hv1 : RV (([] : Bs) ++ encN c.kind ++ encN c.client ++ encN c.num ++ encN c.time ++ encN c.queue ++ encText c.group ++ encText c.body ++ encText c.token ++ encText c.attempt) (x 0) w := hF 0 (by decide)
          refine op_call rfl rfl (f := 41) (args := #[x 0, .int .i64 c.max]) ?_ ?_
          · simp only [puts, dstRC, Act.put, List.setIfInBounds_toArray, reduceIte, Nat.reduceEqDiff, List.set_cons_zero, List.set_cons_succ]
            go_simp
            try rfl
          · refine (number_any w (x 0) (([] : Bs) ++ encN c.kind ++ encN c.client ++ encN c.num ++ encN c.time ++ encN c.queue ++ encText c.group ++ encText c.body ++ encText c.token ++ encText c.attempt) c.max hv1 (by (try simp only [List.length_append, List.length_nil]); omega) z6).mono ?_
            rintro e w' ⟨v', rfl, hv', hb'⟩
            exact ⟨v', rfl, _, rfl, HSB.out _ _ hS hb', hv', hb'⟩
        · have hv1 : RV (([] : Bs) ++ encN c.kind ++ encN c.client ++ encN c.num ++ encN c.time ++ encN c.queue ++ encText c.group ++ encText c.body ++ encText c.token ++ encText c.attempt ++ encN c.max) (x 3) w := hF 3 (by decide)
          refine op_call rfl rfl (f := 41) (args := #[x 3, .int .i64 c.secs]) ?_ ?_
          · simp only [puts, dstRC, Act.put, List.setIfInBounds_toArray, reduceIte, Nat.reduceEqDiff, List.set_cons_zero, List.set_cons_succ]
            go_simp
            try rfl
          · refine (number_any w (x 3) (([] : Bs) ++ encN c.kind ++ encN c.client ++ encN c.num ++ encN c.time ++ encN c.queue ++ encText c.group ++ encText c.body ++ encText c.token ++ encText c.attempt ++ encN c.max) c.secs hv1 (by (try simp only [List.length_append, List.length_nil]); omega) z7).mono ?_
            rintro e w' ⟨v', rfl, hv', hb'⟩
            exact ⟨v', rfl, _, rfl, HSB.out _ _ hS hb', hv', hb'⟩
        · have hv1 : RV (([] : Bs) ++ encN c.kind ++ encN c.client ++ encN c.num ++ encN c.time ++ encN c.queue ++ encText c.group ++ encText c.body ++ encText c.token ++ encText c.attempt ++ encN c.max ++ encN c.secs) (x 6) w := hF 6 (by decide)
          refine op_call rfl rfl (f := 43) (args := #[x 6, .agg (Rv c.rc)]) ?_ ?_
          · simp only [puts, dstRC, Act.put, List.setIfInBounds_toArray, reduceIte, Nat.reduceEqDiff, List.set_cons_zero, List.set_cons_succ]
            go_simp
            try rfl
          · refine (putReceipt_any w (x 6) (([] : Bs) ++ encN c.kind ++ encN c.client ++ encN c.num ++ encN c.time ++ encN c.queue ++ encText c.group ++ encText c.body ++ encText c.token ++ encText c.attempt ++ encN c.max ++ encN c.secs) c.rc hv1 (by (try simp only [List.length_append, List.length_nil]); omega) hrc (by omega)).mono ?_
            rintro e w' ⟨v', rfl, hv', hb'⟩
            exact ⟨v', rfl, _, rfl, HSB.out _ _ hS hb', hv', hb'⟩
        · have hv1 : RV (([] : Bs) ++ encN c.kind ++ encN c.client ++ encN c.num ++ encN c.time ++ encN c.queue ++ encText c.group ++ encText c.body ++ encText c.token ++ encText c.attempt ++ encN c.max ++ encN c.secs ++ encRcp c.rc) (x 9) w := hF 9 (by decide)
          refine op_value rfl rfl (v := x 9) (w' := w) ?_ ⟨_, rfl, hS, hv1, Below.refl _ w⟩
          simp only [puts, dstRC, Act.put, List.setIfInBounds_toArray, reduceIte, Nat.reduceEqDiff, List.set_cons_zero, List.set_cons_succ]
          go_simp
      case fin =>
        intro x4 w5 hS hF
        have hv1 : RV (([] : Bs) ++ encN c.kind ++ encN c.client ++ encN c.num ++ encN c.time ++ encN c.queue ++ encText c.group ++ encText c.body ++ encText c.token ++ encText c.attempt ++ encN c.max ++ encN c.secs ++ encRcp c.rc) (x4 10) w5 := hF 10 (by decide) (by decide)
        have HV0 := mkH (hv1.bl ((Gr.refl w5).drew).below)
        have HV1 := mkH hv1
        have HS1 := mkH hS
        have HSd := mkH (HSB.out _ _ hS ((Gr.refl w5).drew).below)
        clear hv1 hF hS hHeld
        simp only [puts, dstRC, Act.put, List.setIfInBounds_toArray, reduceIte, Nat.reduceEqDiff, List.set_cons_zero, List.set_cons_succ]
        generalize x4 10 = q4 at *
        go_wp2_with fail
        refine wp_region_held_drew (S := fun W => S0 w1 B C 39 W) (by kernel_rfl) HSd.out (fun hHeld => ?_)
        clear HSd HS1 HV1
        refine wpAnyH_take (i := 0) (oi := { dst := some 51, op := _, type := _, pos := _, after := _, guard := _ }) (v := ?_) rfl (by kernel_rfl) (by kernel_rfl) (by kernel_rfl) (fun _ _ _ h => h) (Or.inl ⟨by rfl, ?_⟩) (by assumption) ?_
        rotate_left
        · (intro W hSw; (try dsimp only at hSw); go_simp; try (with_reducible rfl))
        try simp only [Act.put, List.setIfInBounds_toArray, List.set_cons_zero, List.set_cons_succ]
        refine wpAnyH_take (i := 1) (oi := { dst := some 52, op := _, type := _, pos := _, after := _, guard := _ }) (v := ?_) rfl (by kernel_rfl) (by kernel_rfl) (by kernel_rfl) (fun _ _ _ h => h) (Or.inl ⟨by rfl, ?_⟩) (by assumption) ?_
        rotate_left
        · (intro W hSw; (try dsimp only at hSw); go_simp; try (with_reducible rfl))
        try simp only [Act.put, List.setIfInBounds_toArray, List.set_cons_zero, List.set_cons_succ]
        refine wpAnyH_take (i := 2) (oi := { dst := some 53, op := _, type := _, pos := _, after := _, guard := _ }) (v := ?_) rfl (by kernel_rfl) (by kernel_rfl) (by kernel_rfl) (fun _ _ _ h => h) (Or.inl ⟨by rfl, ?_⟩) (by assumption) ?_
        rotate_left
        · (intro W hSw; (try dsimp only at hSw); go_simp; try (with_reducible rfl))
        try simp only [Act.put, List.setIfInBounds_toArray, List.set_cons_zero, List.set_cons_succ]
        refine wpAnyH_take (i := 3) (oi := { dst := some 54, op := _, type := _, pos := _, after := _, guard := _ }) (v := ?_) rfl (by kernel_rfl) (by kernel_rfl) (by kernel_rfl) (fun _ _ _ h => h) (Or.inl ⟨by rfl, ?_⟩) (by assumption) ?_
        rotate_left
        · (intro W hSw; (try dsimp only at hSw); go_simp; try (with_reducible rfl))
        try simp only [Act.put, List.setIfInBounds_toArray, List.set_cons_zero, List.set_cons_succ]
        refine wpAnyH_take (i := 5) (oi := { dst := some 56, op := _, type := _, pos := _, after := _, guard := _ }) (v := ?_) rfl (by kernel_rfl) (by kernel_rfl) (by kernel_rfl) (fun _ _ _ h => h) (Or.inl ⟨by rfl, ?_⟩) (by assumption) ?_
        rotate_left
        · (intro W hSw; (try dsimp only at hSw); go_simp; try (with_reducible rfl))
        try simp only [Act.put, List.setIfInBounds_toArray, List.set_cons_zero, List.set_cons_succ]
        refine wpAnyH_take (i := 6) (oi := { dst := some 57, op := _, type := _, pos := _, after := _, guard := _ }) (v := ?_) rfl (by kernel_rfl) (by kernel_rfl) (by kernel_rfl) (fun _ _ _ h => h) (Or.inl ⟨by rfl, ?_⟩) (by assumption) ?_
        rotate_left
        · (intro W hSw; (try dsimp only at hSw); go_simp; try (with_reducible rfl))
        try simp only [Act.put, List.setIfInBounds_toArray, List.set_cons_zero, List.set_cons_succ]
        refine wpAnyH_take (i := 7) (oi := { dst := some 58, op := _, type := _, pos := _, after := _, guard := _ }) (v := ?_) rfl (by kernel_rfl) (by kernel_rfl) (by kernel_rfl) (fun _ _ _ h => h) (Or.inl ⟨by rfl, ?_⟩) (by assumption) ?_
        rotate_left
        · (intro W hSw; (try dsimp only at hSw); go_simp; try (with_reducible rfl))
        try simp only [Act.put, List.setIfInBounds_toArray, List.set_cons_zero, List.set_cons_succ]
        refine wpAnyH_take (i := 9) (oi := { dst := some 60, op := _, type := _, pos := _, after := _, guard := _ }) (v := ?_) rfl (by kernel_rfl) (by kernel_rfl) (by kernel_rfl) (fun _ _ _ h => h) (Or.inl ⟨by rfl, ?_⟩) (by assumption) ?_
        rotate_left
        · (intro W hSw; (try dsimp only at hSw); go_simp; try (with_reducible rfl))
        try simp only [Act.put, List.setIfInBounds_toArray, List.set_cons_zero, List.set_cons_succ]
        refine wpAnyH_take (i := 10) (oi := { dst := some 61, op := _, type := _, pos := _, after := _, guard := _ }) (v := ?_) rfl (by kernel_rfl) (by kernel_rfl) (by kernel_rfl) (fun _ _ _ h => h) (Or.inl ⟨by rfl, ?_⟩) (by assumption) ?_
        rotate_left
        · (intro W hSw; (try dsimp only at hSw); go_simp; try (with_reducible rfl))
        try simp only [Act.put, List.setIfInBounds_toArray, List.set_cons_zero, List.set_cons_succ]
        refine wpAnyH_lin [0, 4, 8, 11, 12] dstRD consRD depsRD (fun _ => false) [0] (FRD c) Bl Bl (by decide) (by kernel_rfl) ?s0 ?s1 ?step ?fin ?hpre (by decide) hHeld (by decide) rfl
        case s0 =>
          intro i hi v w w' h hg
          simp only [List.mem_cons, List.not_mem_nil, or_false] at hi
          rcases hi with rfl | rfl | rfl | rfl | rfl
          all_goals exact RV.bl h hg
        case s1 =>
          intro i hi hw v w w' h hg
          simp only [List.mem_cons, List.not_mem_nil, or_false] at hi
          rcases hi with rfl | rfl | rfl | rfl | rfl
          all_goals exact RV.bl h hg
        case hpre =>
          intro i hi
          obtain rfl := List.mem_singleton.1 hi
          exact HV0.out
        case step =>
          intro i hi hip x w hS hF
          simp only [List.mem_cons, List.not_mem_nil, or_false] at hi
          rcases hi with rfl | rfl | rfl | rfl | rfl
          · exact absurd (by decide) hip
          · have hv1 : RV (([] : Bs) ++ encN c.kind ++ encN c.client ++ encN c.num ++ encN c.time ++ encN c.queue ++ encText c.group ++ encText c.body ++ encText c.token ++ encText c.attempt ++ encN c.max ++ encN c.secs ++ encRcp c.rc) (x 0) w := hF 0 (by decide)
            refine op_call rfl rfl (f := 41) (args := #[x 0, .int .i64 c.lo]) ?_ ?_
            · simp only [puts, dstRD, Act.put, List.setIfInBounds_toArray, reduceIte, Nat.reduceEqDiff, List.set_cons_zero, List.set_cons_succ]
              go_simp
              try rfl
            · refine (number_any w (x 0) (([] : Bs) ++ encN c.kind ++ encN c.client ++ encN c.num ++ encN c.time ++ encN c.queue ++ encText c.group ++ encText c.body ++ encText c.token ++ encText c.attempt ++ encN c.max ++ encN c.secs ++ encRcp c.rc) c.lo hv1 (by (try simp only [List.length_append, List.length_nil]); omega) z8).mono ?_
              rintro e w' ⟨v', rfl, hv', hb'⟩
              exact ⟨v', rfl, _, rfl, HSB.out _ _ hS hb', hv', hb'⟩
          · have hv1 : RV (([] : Bs) ++ encN c.kind ++ encN c.client ++ encN c.num ++ encN c.time ++ encN c.queue ++ encText c.group ++ encText c.body ++ encText c.token ++ encText c.attempt ++ encN c.max ++ encN c.secs ++ encRcp c.rc ++ encN c.lo) (x 4) w := hF 4 (by decide)
            refine op_call rfl rfl (f := 41) (args := #[x 4, .int .i64 c.hi]) ?_ ?_
            · simp only [puts, dstRD, Act.put, List.setIfInBounds_toArray, reduceIte, Nat.reduceEqDiff, List.set_cons_zero, List.set_cons_succ]
              go_simp
              try rfl
            · refine (number_any w (x 4) (([] : Bs) ++ encN c.kind ++ encN c.client ++ encN c.num ++ encN c.time ++ encN c.queue ++ encText c.group ++ encText c.body ++ encText c.token ++ encText c.attempt ++ encN c.max ++ encN c.secs ++ encRcp c.rc ++ encN c.lo) c.hi hv1 (by (try simp only [List.length_append, List.length_nil]); omega) z9).mono ?_
              rintro e w' ⟨v', rfl, hv', hb'⟩
              exact ⟨v', rfl, _, rfl, HSB.out _ _ hS hb', hv', hb'⟩
          · have hv1 : RV (([] : Bs) ++ encN c.kind ++ encN c.client ++ encN c.num ++ encN c.time ++ encN c.queue ++ encText c.group ++ encText c.body ++ encText c.token ++ encText c.attempt ++ encN c.max ++ encN c.secs ++ encRcp c.rc ++ encN c.lo ++ encN c.hi) (x 8) w := hF 8 (by decide)
            refine op_call rfl rfl (f := 41) (args := #[x 8, .int .i64 c.to]) ?_ ?_
            · simp only [puts, dstRD, Act.put, List.setIfInBounds_toArray, reduceIte, Nat.reduceEqDiff, List.set_cons_zero, List.set_cons_succ]
              go_simp
              try rfl
            · refine (number_any w (x 8) (([] : Bs) ++ encN c.kind ++ encN c.client ++ encN c.num ++ encN c.time ++ encN c.queue ++ encText c.group ++ encText c.body ++ encText c.token ++ encText c.attempt ++ encN c.max ++ encN c.secs ++ encRcp c.rc ++ encN c.lo ++ encN c.hi) c.to hv1 (by (try simp only [List.length_append, List.length_nil]); omega) z10).mono ?_
              rintro e w' ⟨v', rfl, hv', hb'⟩
              exact ⟨v', rfl, _, rfl, HSB.out _ _ hS hb', hv', hb'⟩
          · have hv1 : RV (([] : Bs) ++ encN c.kind ++ encN c.client ++ encN c.num ++ encN c.time ++ encN c.queue ++ encText c.group ++ encText c.body ++ encText c.token ++ encText c.attempt ++ encN c.max ++ encN c.secs ++ encRcp c.rc ++ encN c.lo ++ encN c.hi ++ encN c.to) (x 11) w := hF 11 (by decide)
            refine op_value rfl rfl (v := x 11) (w' := w) ?_ ⟨_, rfl, hS, hv1, Below.refl _ w⟩
            simp only [puts, dstRD, Act.put, List.setIfInBounds_toArray, reduceIte, Nat.reduceEqDiff, List.set_cons_zero, List.set_cons_succ]
            go_simp
        case fin =>
          intro x5 w6 hS hF
          have hv1 : RV (([] : Bs) ++ encN c.kind ++ encN c.client ++ encN c.num ++ encN c.time ++ encN c.queue ++ encText c.group ++ encText c.body ++ encText c.token ++ encText c.attempt ++ encN c.max ++ encN c.secs ++ encRcp c.rc ++ encN c.lo ++ encN c.hi ++ encN c.to) (x5 12) w6 := hF 12 (by decide) (by decide)
          have HV0 := mkH (hv1.bl ((Gr.refl w6).drew).below)
          have HV1 := mkH hv1
          have HS1 := mkH hS
          have HSd := mkH (HSB.out _ _ hS ((Gr.refl w6).drew).below)
          clear hv1 hF hS hHeld
          simp only [puts, dstRD, Act.put, List.setIfInBounds_toArray, reduceIte, Nat.reduceEqDiff, List.set_cons_zero, List.set_cons_succ]
          generalize x5 12 = q5 at *
          have hqq := HS1.out.1.cell
          go_wp2_with fail
          refine (refTexts_any_rv HV1.out (by (try simp only [List.length_append, List.length_nil]); omega) ao cap c.data (HR0.out _ HS1.out.2) hd1 hd2).mono ?_
          rintro e w9 ⟨v9, rfl, hv9, hb9⟩
          rw [rcm_bytes] at hv9
          have HV9 := mkH hv9
          have HB9 := mkH (HG1.out.trans (HS1.out.2.trans hb9))
          clear hv9 hb9 HSd HV1 HS1 HV0
          go_wp2
          go_ret2
          exact ⟨v9, rfl, HV9.out, HB9.out⟩

set_option maxHeartbeats 4000000 in
theorem rcmd_bad (w : World) (c : Cm) (ao : Option Addr) (cap : Nat) (hr : RowT w ao c.data) (hlen : c.data.length ≤ 1000000) (hck : checkC c ≠ 0) :
    Calls Tryz.prog 13 #[.agg (Cv c (.slice ao c.data.length cap))] w fun e w' => e = .returned (.tuple #[.slice none 0 0, .int .i64 (checkC c : Int)]) ∧ Bl w w' := by
  have H1 := rcheck_any (w.alloc (.cells (Cv c (.slice ao c.data.length cap)) 39)) c ao cap (RowT.gr hr ((Gr.refl w).alloc _)) hlen
  have HB := mkH (Bx.new w (Cv c (.slice ao c.data.length cap)) 39)
  have HG := mkH ((Gr.refl w).alloc (.cells (Cv c (.slice ao c.data.length cap)) 39))
  have HL := mkH (load_cm HB.out)
  generalize Cv c (.slice ao c.data.length cap) = C at *
  generalize checkC c = j at *
  have te : ((j : Int) == 0) = false := by simp; omega
  clear hck
  go_enter Tryz.func13, Tryz.ntmps13
  go_wp2_with (refine wpList_ld (ty := 39) (x := .tmp 1) rfl rfl rfl HL.out ?_)
  refine H1.mono ?_
  rintro e w1 ⟨rfl, hg1⟩
  have HG1 := mkH (HG.out.trans hg1)
  clear H1 HB HG HL hg1 hr
  go_wp2
  go_ret2
  exact ⟨rfl, HG1.out.below⟩
end Go.Proofs.YtgbbajeeelgbhaaGreatDoor.Wrc
