/-
  Check, of wire.
-/
import Derived.Test.YtjboldahmndkeaaWiD
namespace Go.Proofs.Ytjboldahmndkeaa.We
open Go.RowKit Kt Pl Wi Wk Wc Wd
open At (RowT)
set_option linter.unusedVariables false
set_option maxRecDepth 20000

theorem eqlR (a b c d : Int) (w : World) : Sem.run Try.prog (binOp .eql 25 (.agg #[.int .i64 a, .int .i64 b]) (.agg #[.int .i64 c, .int .i64 d])) w = .ok (.bool (decide (a = c ∧ b = d))) w := by
  have u3 := Try.underlying3
  have a3 := Try.isAgg3
  have z3 := Try.sizeOf3
  have hS : Try.prog.underlying 25 = some (.struct (Try.prog.fieldsOf 25)) := by kernel_rfl
  have hp : Try.prog.stoodInHeld 25 = false := by kernel_rfl
  rw [run_eql_struct, show (10000 : Nat) = 9999 + 1 from rfl, run_equalIn_agg w 9999 25 _ _ hS hp]
  simp only [Program.fieldsOf, Try.underlying25]
  go_simp
  by_cases h1 : a = c <;> by_cases h2 : b = d <;> simp [h1, h2]
theorem guardR (op : BinOp) (x y : Operand) (a b c d : Int) (w : World) : Sem.run Try.prog (eqGuard op 25 x y (.agg #[.int .i64 a, .int .i64 b]) (.agg #[.int .i64 c, .int .i64 d])) w = .ok () w :=
  run_eqGuard_agg w op 25 x y _ _ (by kernel_rfl)
theorem neqR (a b c d : Int) (w : World) : Sem.run Try.prog (binOp .neq 25 (.agg #[.int .i64 a, .int .i64 b]) (.agg #[.int .i64 c, .int .i64 d])) w = .ok (.bool (!decide (a = c ∧ b = d))) w := by
  have h := eqlR a b c d w
  rw [run_eql_struct] at h
  rw [run_neq_struct]
  revert h
  generalize (Op.equalIn 10000 25 (.agg #[.int .i64 a, .int .i64 b]) (.agg #[.int .i64 c, .int .i64 d])).run Try.prog w = r
  intro h
  cases r with
  | ok b w' => simp only [Result.andThen_ok] at h ⊢; injection h with h1 h2; injection h1 with h1; rw [h1, h2]
  | halt x w' => simp [Result.andThen] at h

theorem Cv_size (c : Cm) (d : Value) : (Cv c d).size = 19 := rfl
theorem Cv_at (c : Cm) (d : Value) : (Cv c d)[0]? = some (.int .i64 c.kind) ∧ (Cv c d)[1]? = some (.int .i64 c.client) ∧ (Cv c d)[2]? = some (.int .i64 c.num) ∧ (Cv c d)[3]? = some (.int .i64 c.time) ∧ (Cv c d)[4]? = some (.int .i64 c.queue) ∧
    (Cv c d)[5]? = some (.string (S c.group)) ∧ (Cv c d)[6]? = some (.string (S c.body)) ∧ (Cv c d)[7]? = some (.string (S c.token)) ∧ (Cv c d)[8]? = some (.string (S c.attempt)) ∧ (Cv c d)[9]? = some (.int .i64 c.max) ∧ (Cv c d)[10]? = some (.int .i64 c.secs) ∧
    (Cv c d)[11]? = some (.int .i64 c.rc.q) ∧ (Cv c d)[12]? = some (.string (S c.rc.g)) ∧ (Cv c d)[13]? = some (.int .i64 c.rc.s) ∧ (Cv c d)[14]? = some (.int .i64 c.rc.c) ∧ (Cv c d)[15]? = some (.int .i64 c.lo) ∧ (Cv c d)[16]? = some (.int .i64 c.hi) ∧ (Cv c d)[17]? = some (.int .i64 c.to) ∧ (Cv c d)[18]? = some d :=
  ⟨rfl, rfl, rfl, rfl, rfl, rfl, rfl, rfl, rfl, rfl, rfl, rfl, rfl, rfl, rfl, rfl, rfl, rfl, rfl⟩

theorem right_cases (c : Cm) : rightC c = ([c.kind].all (upToB 10) && ([c.client, c.num, c.time, c.queue, c.max, c.secs, c.to].all (upToB 1099511627776) && (rcB c.rc && (decide (c.lo = 0 ∧ c.hi = 0) || mayB c.lo c.hi)))) := by
  simp [rightC, numB, Bool.decide_and]

set_option maxHeartbeats 2000000 in
theorem rightCmd_any (w : World) (c : Cm) (d : Value) :
    Calls Try.prog 33 #[.agg (Cv c d)] w fun e w' => e = .returned (.bool (rightC c)) ∧ Gr w w' := by
  obtain ⟨k0, k1, k2, k3, k4, k5, k6, k7, k8, k9, k10, k11, k12, k13, k14, k15, k16, k17, k18⟩ := Cv_at c d
  clear k5 k6 k7 k8 k18
  generalize Cv c d = C at *
  have H1 := fun W ao cap n hn hr hl => upTo_at W ao cap n [c.kind] hn hr hl 10
  have H2 := fun W ao cap n hn hr hl => upTo_at W ao cap n [c.client, c.num, c.time, c.queue, c.max, c.secs, c.to] hn hr hl 1099511627776
  have H3 := fun W => rightReceipt_any W c.rc
  have H4 := fun W => may_any W c.lo c.hi
  have HE := mkH (right_cases c)
  have e1 := eqlR c.lo c.hi 0 0
  have g1 := guardR
  generalize [c.kind].all (upToB 10) = b1 at H1 HE
  generalize [c.client, c.num, c.time, c.queue, c.max, c.secs, c.to].all (upToB 1099511627776) = b2 at H2 HE
  generalize rcB c.rc = b3 at H3 HE
  generalize mayB c.lo c.hi = b4 at H4 HE
  have E1 : [c.kind].length = 1 := rfl
  have E2 : [c.client, c.num, c.time, c.queue, c.max, c.secs, c.to].length = 7 := rfl
  cases b1
  · go_enter Try.func33, Try.ntmps33
    go_wp2_with fail
    refine (H1 _ _ 1 1 rfl ?hr (by omega)).mono ?_
    case hr => exact RowI.at _ [c.kind] 3 _ (by simp)
    rintro e w1 ⟨rfl, rfl⟩
    go_wp2
    go_ret
    exact ⟨ret_bool HE.out.symm, (((Gr.refl w).alloc _).alloc _).alloc _⟩
  cases b2
  · go_enter Try.func33, Try.ntmps33
    go_wp2_with fail
    refine (H1 _ _ 1 1 rfl ?hr (by omega)).mono ?_
    case hr => exact RowI.at _ [c.kind] 3 _ (by simp)
    rintro e w1 ⟨rfl, rfl⟩
    go_wp2_with fail
    refine (H2 _ _ 7 7 rfl ?hr2 (by omega)).mono ?_
    case hr2 => exact RowI.at _ [c.client, c.num, c.time, c.queue, c.max, c.secs, c.to] 3 _ (by simp)
    rintro e w1 ⟨rfl, rfl⟩
    go_wp2
    go_ret
    exact ⟨ret_bool HE.out.symm, (((((Gr.refl w).alloc _).alloc _).alloc _).alloc _).alloc _⟩
  cases b3
  · go_enter Try.func33, Try.ntmps33
    go_wp2_with fail
    refine (H1 _ _ 1 1 rfl ?hr (by omega)).mono ?_
    case hr => exact RowI.at _ [c.kind] 3 _ (by simp)
    rintro e w1 ⟨rfl, rfl⟩
    go_wp2_with fail
    refine (H2 _ _ 7 7 rfl ?hr2 (by omega)).mono ?_
    case hr2 => exact RowI.at _ [c.client, c.num, c.time, c.queue, c.max, c.secs, c.to] 3 _ (by simp)
    rintro e w1 ⟨rfl, rfl⟩
    go_wp2_with fail
    refine (H3 _).mono ?_
    rintro e w1 ⟨rfl, hg⟩
    have hg := mkH ((((((Gr.refl w).alloc _).alloc _).alloc _).alloc _).alloc _ |>.trans hg)
    go_wp2
    go_ret
    exact ⟨ret_bool HE.out.symm, hg.out⟩
  have hz : decide (c.lo = 0 ∧ c.hi = 0) = true ∨ decide (c.lo = 0 ∧ c.hi = 0) = false := by cases decide (c.lo = 0 ∧ c.hi = 0) <;> simp
  rcases hz with hz | hz
  all_goals
    rw [hz] at e1 HE
    clear hz
    obtain ⟨W0, hW0⟩ : ∃ W0, W0 = w.alloc (.cells C 28) := ⟨_, rfl⟩
    have hB0 : Bx W0 w.heap.size C 28 := hW0 ▸ Bx.new w C _
    have hG0 : Gr w W0 := hW0 ▸ (Gr.refl w).alloc _
    have HB := mkH hB0
    have HG := mkH hG0
    clear hB0 hG0
    go_enter Try.func33, Try.ntmps33
    go_wp2_with fail
    refine (H1 _ _ 1 1 rfl ?hr (by omega)).mono ?_
    case hr => exact RowI.at _ [c.kind] 3 _ (by simp)
    rintro e w1 ⟨rfl, rfl⟩
    go_wp2_with fail
    refine (H2 _ _ 7 7 rfl ?hr2 (by omega)).mono ?_
    case hr2 => exact RowI.at _ [c.client, c.num, c.time, c.queue, c.max, c.secs, c.to] 3 _ (by simp)
    rintro e w1 ⟨rfl, rfl⟩
    go_wp2_with fail
    refine (H3 _).mono ?_
    rintro e w1 ⟨rfl, hg⟩
    rw [← hW0] at hg
    have hg1 := (((((Gr.refl W0).alloc _).alloc _).alloc _).alloc _).trans hg
    have hq := (HB.out.gr hg1).cell
    have hlt := (HB.out.gr hg1).lt
    have HGG := mkH (HG.out.trans hg1)
    clear hg hg1 HB HG hW0
    generalize w.heap.size = B at *
    first
    | (go_wp2_with fail
       refine (H4 _).mono ?_
       rintro e w2 ⟨rfl, hg2⟩
       have HG3 := mkH (HGG.out.trans hg2)
       clear hg2
       go_wp2
       go_ret
       exact ⟨ret_bool (by rw [HE.out]; simp), HG3.out⟩)
    | (go_wp2
       go_ret
       exact ⟨ret_bool (by rw [HE.out]; simp), HGG.out⟩)

theorem short_cases (c : Cm) : shortC c = ([c.group, c.token, c.attempt, c.rc.g].all (fitB 32) && ([c.body].all (fitB 128) && dataB c.data)) := by
  simp [shortC]

set_option maxHeartbeats 2000000 in
theorem shortCmd_any (w : World) (c : Cm) (ao : Option Addr) (cap : Nat) (hr : RowT w ao c.data) (hlen : c.data.length ≤ 1000000) :
    Calls Try.prog 34 #[.agg (Cv c (.slice ao c.data.length cap))] w fun e w' => e = .returned (.bool (shortC c)) ∧ Gr w w' := by
  obtain ⟨k0, k1, k2, k3, k4, k5, k6, k7, k8, k9, k10, k11, k12, k13, k14, k15, k16, k17, k18⟩ := Cv_at c (.slice ao c.data.length cap)
  clear k0 k1 k2 k3 k4 k9 k10 k11 k13 k14 k15 k16 k17
  generalize Cv c (.slice ao c.data.length cap) = C at *
  have H1 := fun W ao cap n hn hr hl => fit_at W ao cap n [c.group, c.token, c.attempt, c.rc.g] hn hr hl 32 32 rfl
  have H2 := fun W ao cap n hn hr hl => fit_at W ao cap n [c.body] hn hr hl 128 128 rfl
  have H3 := fun W hr => shortData_any W ao cap c.data hr hlen
  have HE := mkH (short_cases c)
  have HR := mkH hr
  clear hr
  generalize [c.group, c.token, c.attempt, c.rc.g].all (fitB 32) = b1 at H1 HE
  generalize [c.body].all (fitB 128) = b2 at H2 HE
  generalize dataB c.data = b3 at H3 HE
  cases b1
  · go_enter Try.func34, Try.ntmps34
    go_wp2_with fail
    refine (H1 _ _ 4 4 rfl ?hr (by omega)).mono ?_
    case hr => exact RowT.at _ [c.group, c.token, c.attempt, c.rc.g] 9 _ (by simp)
    rintro e w1 ⟨rfl, rfl⟩
    go_wp2
    go_ret
    exact ⟨ret_bool HE.out.symm, (((Gr.refl w).alloc _).alloc _).alloc _⟩
  cases b2
  · go_enter Try.func34, Try.ntmps34
    go_wp2_with fail
    refine (H1 _ _ 4 4 rfl ?hr (by omega)).mono ?_
    case hr => exact RowT.at _ [c.group, c.token, c.attempt, c.rc.g] 9 _ (by simp)
    rintro e w1 ⟨rfl, rfl⟩
    go_wp2_with fail
    refine (H2 _ _ 1 1 rfl ?hr2 (by omega)).mono ?_
    case hr2 => exact RowT.at _ [c.body] 9 _ (by simp)
    rintro e w1 ⟨rfl, rfl⟩
    go_wp2
    go_ret
    exact ⟨ret_bool HE.out.symm, (((((Gr.refl w).alloc _).alloc _).alloc _).alloc _).alloc _⟩
  go_enter Try.func34, Try.ntmps34
  go_wp2_with fail
  refine (H1 _ _ 4 4 rfl ?hr (by omega)).mono ?_
  case hr => exact RowT.at _ [c.group, c.token, c.attempt, c.rc.g] 9 _ (by simp)
  rintro e w1 ⟨rfl, rfl⟩
  go_wp2_with fail
  refine (H2 _ _ 1 1 rfl ?hr2 (by omega)).mono ?_
  case hr2 => exact RowT.at _ [c.body] 9 _ (by simp)
  rintro e w1 ⟨rfl, rfl⟩
  go_wp2_with fail
  refine (H3 _ ?hr3).mono ?_
  case hr3 => exact RowT.gr HR.out ((((((Gr.refl w).alloc _).alloc _).alloc _).alloc _).alloc _)
  rintro e w1 ⟨rfl, hg⟩
  have HG := mkH ((((((Gr.refl w).alloc _).alloc _).alloc _).alloc _).alloc _ |>.trans hg)
  clear hg
  go_wp2
  go_ret
  exact ⟨ret_bool (by rw [HE.out]; simp), HG.out⟩
end Go.Proofs.Ytjboldahmndkeaa.We
