/-
  Meet, of place and of the document's answer; two ranges compared.
-/
import Derived.Test.YtcpmcfagibmboabGreatPlW
import Derived.Shelf.SlicesE.Equal
namespace Go.Proofs.YtcpmcfagibmboabGreat.Pw
open Go.RowKit Pl
set_option linter.unusedVariables false

theorem meet_none (a b c d : Int) (h : ¬ (may (a, b) = true ∧ may (c, d) = true ∧ a < d ∧ c < b)) : meet (a, b) (c, d) = (0, 0) := by
  unfold meet; rw [if_neg h]
theorem meet_some (a b c d : Int) (h : may (a, b) = true ∧ may (c, d) = true ∧ a < d ∧ c < b) : meet (a, b) (c, d) = (max a c, min b d) := by
  unfold meet; rw [if_pos h]

set_option maxHeartbeats 1000000 in
theorem meet_aux (w : World) (a b c d x y : Int) (hx : max a c = x) (hy : min b d = y) (m1 m2 m3 : Bool) (h1 : Hid (may (a, b) = m1)) (h2 : Hid (may (c, d) = m2)) (h3 : Hid (may (x, y) = m3)) (V : Value) (HV : Hid (V = if (m1 && m2 && m3) then R (x, y) else R (0, 0))) :
    Calls Tryz.prog 76 #[.agg #[.int .i64 a, .int .i64 b], .agg #[.int .i64 c, .int .i64 d]] w fun e w' => e = .returned V ∧ Gr w w' := by
  have hm1 := fun W => may_any W a b
  have hm2 := fun W => may_any W c d
  have hm3 := fun W => may_any W x y
  rw [h1.out] at hm1
  rw [h2.out] at hm2
  rw [h3.out] at hm3
  clear h1 h2 h3
  cases m1
  · go_enter Tryz.func76, Tryz.ntmps76
    go_wp2_with (go_at_call 47; refine (hm1 _).mono ?_; rintro e w' ⟨rfl, rfl⟩)
    refine bodyPost_ret (v := R (0, 0)) (by simp [results, Tryz.results76, go_sem, R]) rfl ⟨by rw [HV.out]; rfl, ?_⟩
    exact ((((Gr.refl w).alloc _).alloc _).alloc _ |>.alloc _).alloc _
  · cases m2
    · go_enter Tryz.func76, Tryz.ntmps76
      go_wp2_with fail
      refine (hm1 _).mono ?_
      rintro e w' ⟨rfl, rfl⟩
      go_wp2_with fail
      refine (hm2 _).mono ?_
      rintro e w' ⟨rfl, rfl⟩
      go_wp2
      refine bodyPost_ret (v := R (0, 0)) (by simp [results, Tryz.results76, go_sem, R]) rfl ⟨by rw [HV.out]; rfl, ?_⟩
      exact (((((Gr.refl w).alloc _).alloc _).alloc _).alloc _ |>.alloc _).alloc _
    · cases m3
      · go_enter Tryz.func76, Tryz.ntmps76
        go_wp2_with fail
        refine (hm1 _).mono ?_
        rintro e w' ⟨rfl, rfl⟩
        go_wp2_with fail
        refine (hm2 _).mono ?_
        rintro e w' ⟨rfl, rfl⟩
        go_wp2_with fail
        refine (hm3 _).mono ?_
        rintro e w' ⟨rfl, rfl⟩
        go_wp2
        refine bodyPost_ret (v := R (0, 0)) (by simp [results, Tryz.results76, go_sem, R]) rfl ⟨by rw [HV.out]; rfl, ?_⟩
        exact ((((((Gr.refl w).alloc _).alloc _).alloc _).alloc _).alloc _ |>.alloc _).alloc _
      · go_enter Tryz.func76, Tryz.ntmps76
        go_wp2_with fail
        refine (hm1 _).mono ?_
        rintro e w' ⟨rfl, rfl⟩
        go_wp2_with fail
        refine (hm2 _).mono ?_
        rintro e w' ⟨rfl, rfl⟩
        go_wp2_with fail
        refine (hm3 _).mono ?_
        rintro e w' ⟨rfl, rfl⟩
        go_wp2
        refine bodyPost_ret (v := R (x, y)) (by simp [results, Tryz.results76, go_sem, R]) rfl ⟨by rw [HV.out]; rfl, ?_⟩
        exact ((((((Gr.refl w).alloc _).alloc _).alloc _).alloc _).alloc _ |>.alloc _).alloc _

theorem meet_any (w : World) (a b c d : Int) :
    Calls Tryz.prog 76 #[.agg #[.int .i64 a, .int .i64 b], .agg #[.int .i64 c, .int .i64 d]] w fun e w' => e = .returned (R (meet (a, b) (c, d))) ∧ Gr w w' := by
  refine meet_aux w a b c d _ _ rfl rfl _ _ _ rfl rfl rfl _ (mkH ?_)
  by_cases h1 : may (a, b) = true
  · by_cases h2 : may (c, d) = true
    · have h1' := (may_iff (a, b)).1 h1
      have h2' := (may_iff (c, d)).1 h2
      simp only at h1' h2'
      by_cases h3 : a < d ∧ c < b
      · rw [meet_some a b c d ⟨h1, h2, h3⟩, h1, h2]
        rw [if_pos]
        rw [Bool.and_eq_true]
        refine ⟨rfl, (may_iff _).2 ?_⟩
        simp only
        omega
      · rw [meet_none a b c d (fun h => h3 h.2.2), h1, h2, if_neg]
        rw [Bool.and_eq_true]
        rintro ⟨-, h⟩
        have := (may_iff _).1 h
        simp only at this
        omega
    · rw [meet_none a b c d (fun h => h2 h.2.1), Bool.eq_false_iff.2 h2, Bool.and_false, Bool.false_and]; rfl
  · rw [meet_none a b c d (fun h => h1 h.1), Bool.eq_false_iff.2 h1, Bool.false_and, Bool.false_and]; rfl

theorem eqlR (a b c d : Int) (w : World) : Sem.run Tryz.prog (binOp .eql 30 (.agg #[.int .i64 a, .int .i64 b]) (.agg #[.int .i64 c, .int .i64 d])) w = .ok (.bool (decide (a = c ∧ b = d))) w := by
  have u3 := Tryz.underlying3
  have a3 := Tryz.isAgg3
  have z3 := Tryz.sizeOf3
  have hS : Tryz.prog.underlying 30 = some (.struct (Tryz.prog.fieldsOf 30)) := by kernel_rfl
  have hp : Tryz.prog.stoodInHeld 30 = false := by kernel_rfl
  rw [run_eql_struct, show (10000 : Nat) = 9999 + 1 from rfl, run_equalIn_agg w 9999 30 _ _ hS hp]
  simp only [Program.fieldsOf, Tryz.underlying30]
  go_simp
  by_cases h1 : a = c <;> by_cases h2 : b = d <;> simp [h1, h2]
theorem guardR (op : BinOp) (x y : Operand) (a b c d : Int) (w : World) : Sem.run Tryz.prog (eqGuard op 30 x y (.agg #[.int .i64 a, .int .i64 b]) (.agg #[.int .i64 c, .int .i64 d])) w = .ok () w :=
  run_eqGuard_agg w op 30 x y _ _ (by kernel_rfl)

theorem neqR (a b c d : Int) (w : World) : Sem.run Tryz.prog (binOp .neq 30 (.agg #[.int .i64 a, .int .i64 b]) (.agg #[.int .i64 c, .int .i64 d])) w = .ok (.bool (!decide (a = c ∧ b = d))) w := by
  have h := eqlR a b c d w
  rw [run_eql_struct] at h
  rw [run_neq_struct]
  revert h
  generalize (Op.equalIn 10000 30 (.agg #[.int .i64 a, .int .i64 b]) (.agg #[.int .i64 c, .int .i64 d])).run Tryz.prog w = r
  intro h
  cases r with
  | ok b w' => simp only [Result.andThen_ok] at h ⊢; injection h with h1 h2; injection h1 with h1; rw [h1, h2]
  | halt x w' => simp [Result.andThen] at h
end Go.Proofs.YtcpmcfagibmboabGreat.Pw
