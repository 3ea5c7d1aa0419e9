/-
  PlW PlM, joined by mrg.py.
-/
import Derived.Test.YtgbbajeeelgbhaaGreatDoorRows
import Derived.Test.YtgbbajeeelgbhaaGreatDoorSqAD
import Derived.WalkKit
import Derived.Below
import Derived.Laws.StructEq
import Derived.Deep.QuietTactic
import Derived.Sort.Grow
import Derived.Shelf.SlicesE.Equal

namespace Go.Proofs.YtgbbajeeelgbhaaGreatDoor.Pw
open Go.RowKit Pl
set_option linter.unusedVariables false

theorem mkH {p : Prop} (h : p) : Hid p := h

/-- A range as a value. -/
def R (r : Rg) : Value := .agg #[.int .i64 r.1, .int .i64 r.2]

theorem may_cases (lo hi : Int) : (¬ 0 ≤ lo ∧ may (lo, hi) = false) ∨ (0 ≤ lo ∧ ¬ lo < hi ∧ may (lo, hi) = false) ∨ (0 ≤ lo ∧ lo < hi ∧ ¬ hi ≤ 65536 ∧ may (lo, hi) = false) ∨ (0 ≤ lo ∧ lo < hi ∧ hi ≤ 65536 ∧ may (lo, hi) = true) := by
  have e : may (lo, hi) = decide (0 ≤ lo ∧ lo < hi ∧ hi ≤ 65536) := rfl
  rw [e]
  by_cases h1 : 0 ≤ lo <;> by_cases h2 : lo < hi <;> by_cases h3 : hi ≤ 65536 <;> simp [h1, h2, h3]

/-- What a call leaves that only lays blocks of its own, and may draw. -/
structure Gr (w w' : World) : Prop where
  below : Below w.heap.size w w'
  drawn : w.drawn ≤ w'.drawn
theorem Gr.refl (w : World) : Gr w w := ⟨Below.refl _ _, Nat.le_refl _⟩
theorem Gr.trans {a b c : World} (h : Gr a b) (k : Gr b c) : Gr a c := ⟨h.below.trans (k.below.mono h.below.size), Nat.le_trans h.drawn k.drawn⟩
theorem Gr.alloc {a w : World} (h : Gr a w) (o : Obj) : Gr a (w.alloc o) := ⟨h.below.alloc h.below.size o, h.drawn⟩
theorem Gr.drew {a w : World} (h : Gr a w) : Gr a w.drew := ⟨h.below.drew, Nat.le_succ_of_le h.drawn⟩
theorem Gr.setCell {a w : World} (h : Gr a w) {p : Addr} (hp : a.heap.size ≤ p.block) (u : Value) : Gr a (w.setCell p u) := ⟨h.below.setCell hp u, h.drawn⟩
theorem Gr.grown {w w' : World} (h : Gr w w') : ∃ q os, w' = Go.Sort.grow (w.drewN q) os := by
  refine ⟨w'.drawn - w.drawn, w'.heap.extract w.heap.size w'.heap.size, ?_⟩
  obtain ⟨hp, tp, dr, os, out⟩ := w'
  have e1 := h.below.os; have e2 := h.below.tape; have e3 := h.below.output; have e4 := h.drawn; have e5 := h.below.size; have e6 := h.below.block
  simp only at e1 e2 e3 e4 e5 e6 ⊢
  subst e1 e2 e3
  simp only [Go.Sort.grow, World.drewN]
  congr 1
  · apply Array.ext'
    rw [Array.toList_append, Array.toList_extract]
    have : w.heap.toList = hp.toList.take w.heap.size := by
      apply List.ext_getElem?
      intro i
      rw [List.getElem?_take, Array.getElem?_toList]
      by_cases hi : i < w.heap.size
      · rw [if_pos hi, Array.getElem?_toList, e6 i hi]
      · rw [if_neg hi, Array.getElem?_eq_none (by omega)]
    rw [this, List.extract_eq_take_drop]
    rw [List.take_of_length_le (l := List.drop _ _) (by simp), List.take_append_drop]
  · omega

def splitOk (r : Rg) (at' : Int) : Bool := may r && decide (r.1 < at' ∧ at' < r.2)
def splitV (r : Rg) (p : Int) : Value :=
  .tuple (if splitOk r p then #[R (r.1, p), R (p, r.2), .int .i64 0] else #[R (0, 0), R (0, 0), .int .i64 2])

theorem may_any (w : World) (lo hi : Int) :
    Calls Tryz.prog 136 #[.agg #[.int .i64 lo, .int .i64 hi]] w fun e w' => e = .returned (.bool (may (lo, hi))) ∧ w' = w.alloc (.cells #[.int .i64 lo, .int .i64 hi] 37) := by
  rcases may_cases lo hi with ⟨h1, h⟩ | ⟨h1, h2, h⟩ | ⟨h1, h2, h3, h⟩ | ⟨h1, h2, h3, h⟩
  all_goals
    rw [h]
    clear h
    go_enter Tryz.func136, Tryz.ntmps136
    go_wp2
    go_ret
    exact ⟨rfl, rfl⟩

theorem rmay_any (w : World) (lo hi : Int) :
    Calls Tryz.prog 81 #[.agg #[.int .i64 lo, .int .i64 hi]] w fun e w' => e = .returned (.bool (may (lo, hi))) ∧ w' = w.alloc (.cells #[.int .i64 lo, .int .i64 hi] 37) := by
  rcases may_cases lo hi with ⟨h1, h⟩ | ⟨h1, h2, h⟩ | ⟨h1, h2, h3, h⟩ | ⟨h1, h2, h3, h⟩
  all_goals
    rw [h]
    clear h
    go_enter Tryz.func81, Tryz.ntmps81
    go_wp2
    go_ret
    exact ⟨rfl, rfl⟩

theorem in_any (w : World) (lo hi p : Int) :
    Calls Tryz.prog 182 #[.agg #[.int .i64 lo, .int .i64 hi], .int .i64 p] w fun e w' => e = .returned (.bool (inn (lo, hi) p)) ∧ Gr w w' := by
  have hm := fun W => may_any W lo hi
  have e : inn (lo, hi) p = decide (may (lo, hi) = true ∧ lo ≤ p ∧ p < hi) := rfl
  rw [e]
  clear e
  generalize may (lo, hi) = m at hm ⊢
  cases m
  · go_enter Tryz.func182, Tryz.ntmps182
    go_wp2_with (go_at_call 136; refine (hm _).mono ?_; rintro e w' ⟨rfl, rfl⟩)
    go_ret
    exact ⟨by simp, ((Gr.refl w).alloc _).alloc _⟩
  · by_cases h1 : lo ≤ p <;> by_cases h2 : p < hi
    all_goals
      go_enter Tryz.func182, Tryz.ntmps182
      go_wp2_with (go_at_call 136; refine (hm _).mono ?_; rintro e w' ⟨rfl, rfl⟩)
      go_ret
      exact ⟨by simp [h1, h2], ((Gr.refl w).alloc _).alloc _⟩

theorem rin_any (w : World) (lo hi p : Int) :
    Calls Tryz.prog 128 #[.agg #[.int .i64 lo, .int .i64 hi], .int .i64 p] w fun e w' => e = .returned (.bool (inn (lo, hi) p)) ∧ Gr w w' := by
  have hm := fun W => rmay_any W lo hi
  have e : inn (lo, hi) p = decide (may (lo, hi) = true ∧ lo ≤ p ∧ p < hi) := rfl
  rw [e]
  clear e
  generalize may (lo, hi) = m at hm ⊢
  cases m
  · go_enter Tryz.func128, Tryz.ntmps128
    go_wp2_with (go_at_call 81; refine (hm _).mono ?_; rintro e w' ⟨rfl, rfl⟩)
    go_ret
    exact ⟨by simp, ((Gr.refl w).alloc _).alloc _⟩
  · by_cases h1 : lo ≤ p <;> by_cases h2 : p < hi
    all_goals
      go_enter Tryz.func128, Tryz.ntmps128
      go_wp2_with (go_at_call 81; refine (hm _).mono ?_; rintro e w' ⟨rfl, rfl⟩)
      go_ret
      exact ⟨by simp [h1, h2], ((Gr.refl w).alloc _).alloc _⟩
end Go.Proofs.YtgbbajeeelgbhaaGreatDoor.Pw

namespace Go.Proofs.YtgbbajeeelgbhaaGreatDoor.Pw
open Go.RowKit Pl
set_option linter.unusedVariables false

theorem meet_none (a b c d : Int) (h : ¬ (may (a, b) = true ∧ may (c, d) = true ∧ a < d ∧ c < b)) : meet (a, b) (c, d) = (0, 0) := by
  unfold meet; rw [if_neg h]
theorem meet_some (a b c d : Int) (h : may (a, b) = true ∧ may (c, d) = true ∧ a < d ∧ c < b) : meet (a, b) (c, d) = (max a c, min b d) := by
  unfold meet; rw [if_pos h]

set_option maxHeartbeats 1000000 in
theorem meet_aux (w : World) (a b c d x y : Int) (hx : max a c = x) (hy : min b d = y) (m1 m2 m3 : Bool) (h1 : Hid (may (a, b) = m1)) (h2 : Hid (may (c, d) = m2)) (h3 : Hid (may (x, y) = m3)) (V : Value) (HV : Hid (V = if (m1 && m2 && m3) then R (x, y) else R (0, 0))) :
    Calls Tryz.prog 235 #[.agg #[.int .i64 a, .int .i64 b], .agg #[.int .i64 c, .int .i64 d]] w fun e w' => e = .returned V ∧ Gr w w' := by
  have hm1 := fun W => may_any W a b
  have hm2 := fun W => may_any W c d
  have hm3 := fun W => may_any W x y
  rw [h1.out] at hm1
  rw [h2.out] at hm2
  rw [h3.out] at hm3
  clear h1 h2 h3
  cases m1
  · go_enter Tryz.func235, Tryz.ntmps235
    go_wp2_with (go_at_call 136; refine (hm1 _).mono ?_; rintro e w' ⟨rfl, rfl⟩)
    refine bodyPost_ret (v := R (0, 0)) (by simp [results, Tryz.results235, go_sem, R]) rfl ⟨by rw [HV.out]; rfl, ?_⟩
    exact ((((Gr.refl w).alloc _).alloc _).alloc _ |>.alloc _).alloc _
  · cases m2
    · go_enter Tryz.func235, Tryz.ntmps235
      go_wp2_with fail
      refine (hm1 _).mono ?_
      rintro e w' ⟨rfl, rfl⟩
      go_wp2_with fail
      refine (hm2 _).mono ?_
      rintro e w' ⟨rfl, rfl⟩
      go_wp2
      refine bodyPost_ret (v := R (0, 0)) (by simp [results, Tryz.results235, go_sem, R]) rfl ⟨by rw [HV.out]; rfl, ?_⟩
      exact (((((Gr.refl w).alloc _).alloc _).alloc _).alloc _ |>.alloc _).alloc _
    · cases m3
      · go_enter Tryz.func235, Tryz.ntmps235
        go_wp2_with fail
        refine (hm1 _).mono ?_
        rintro e w' ⟨rfl, rfl⟩
        go_wp2_with fail
        refine (hm2 _).mono ?_
        rintro e w' ⟨rfl, rfl⟩
        go_wp2_with fail
        refine (hm3 _).mono ?_
        rintro e w' ⟨rfl, rfl⟩
        go_wp2
        refine bodyPost_ret (v := R (0, 0)) (by simp [results, Tryz.results235, go_sem, R]) rfl ⟨by rw [HV.out]; rfl, ?_⟩
        exact ((((((Gr.refl w).alloc _).alloc _).alloc _).alloc _).alloc _ |>.alloc _).alloc _
      · go_enter Tryz.func235, Tryz.ntmps235
        go_wp2_with fail
        refine (hm1 _).mono ?_
        rintro e w' ⟨rfl, rfl⟩
        go_wp2_with fail
        refine (hm2 _).mono ?_
        rintro e w' ⟨rfl, rfl⟩
        go_wp2_with fail
        refine (hm3 _).mono ?_
        rintro e w' ⟨rfl, rfl⟩
        go_wp2
        refine bodyPost_ret (v := R (x, y)) (by simp [results, Tryz.results235, go_sem, R]) rfl ⟨by rw [HV.out]; rfl, ?_⟩
        exact ((((((Gr.refl w).alloc _).alloc _).alloc _).alloc _).alloc _ |>.alloc _).alloc _

theorem meet_any (w : World) (a b c d : Int) :
    Calls Tryz.prog 235 #[.agg #[.int .i64 a, .int .i64 b], .agg #[.int .i64 c, .int .i64 d]] w fun e w' => e = .returned (R (meet (a, b) (c, d))) ∧ Gr w w' := by
  refine meet_aux w a b c d _ _ rfl rfl _ _ _ rfl rfl rfl _ (mkH ?_)
  by_cases h1 : may (a, b) = true
  · by_cases h2 : may (c, d) = true
    · have h1' := (may_iff (a, b)).1 h1
      have h2' := (may_iff (c, d)).1 h2
      simp only at h1' h2'
      by_cases h3 : a < d ∧ c < b
      · rw [meet_some a b c d ⟨h1, h2, h3⟩, h1, h2]
        rw [if_pos]
        rw [Bool.and_eq_true]
        refine ⟨rfl, (may_iff _).2 ?_⟩
        simp only
        omega
      · rw [meet_none a b c d (fun h => h3 h.2.2), h1, h2, if_neg]
        rw [Bool.and_eq_true]
        rintro ⟨-, h⟩
        have := (may_iff _).1 h
        simp only at this
        omega
    · rw [meet_none a b c d (fun h => h2 h.2.1), Bool.eq_false_iff.2 h2, Bool.and_false, Bool.false_and]; rfl
  · rw [meet_none a b c d (fun h => h1 h.1), Bool.eq_false_iff.2 h1, Bool.false_and, Bool.false_and]; rfl

theorem eqlR (a b c d : Int) (w : World) : Sem.run Tryz.prog (binOp .eql 37 (.agg #[.int .i64 a, .int .i64 b]) (.agg #[.int .i64 c, .int .i64 d])) w = .ok (.bool (decide (a = c ∧ b = d))) w := by
  have u3 := Tryz.underlying3
  have a3 := Tryz.isAgg3
  have z3 := Tryz.sizeOf3
  have hS : Tryz.prog.underlying 37 = some (.struct (Tryz.prog.fieldsOf 37)) := by kernel_rfl
  have hp : Tryz.prog.stoodInHeld 37 = false := by kernel_rfl
  rw [run_eql_struct, show (10000 : Nat) = 9999 + 1 from rfl, run_equalIn_agg w 9999 37 _ _ hS hp]
  simp only [Program.fieldsOf, Tryz.underlying37]
  go_simp
  by_cases h1 : a = c <;> by_cases h2 : b = d <;> simp [h1, h2]
theorem guardR (op : BinOp) (x y : Operand) (a b c d : Int) (w : World) : Sem.run Tryz.prog (eqGuard op 37 x y (.agg #[.int .i64 a, .int .i64 b]) (.agg #[.int .i64 c, .int .i64 d])) w = .ok () w :=
  run_eqGuard_agg w op 37 x y _ _ (by kernel_rfl)

theorem neqR (a b c d : Int) (w : World) : Sem.run Tryz.prog (binOp .neq 37 (.agg #[.int .i64 a, .int .i64 b]) (.agg #[.int .i64 c, .int .i64 d])) w = .ok (.bool (!decide (a = c ∧ b = d))) w := by
  have h := eqlR a b c d w
  rw [run_eql_struct] at h
  rw [run_neq_struct]
  revert h
  generalize (Op.equalIn 10000 37 (.agg #[.int .i64 a, .int .i64 b]) (.agg #[.int .i64 c, .int .i64 d])).run Tryz.prog w = r
  intro h
  cases r with
  | ok b w' => simp only [Result.andThen_ok] at h ⊢; injection h with h1 h2; injection h1 with h1; rw [h1, h2]
  | halt x w' => simp [Result.andThen] at h

set_option maxHeartbeats 2000000 in
theorem rmeet_aux (w : World) (a b c d : Int) (m1 m2 : Bool) (h1 : Hid (may (a, b) = m1)) (h2 : Hid (may (c, d) = m2)) (V : Value) (HV : Hid (V = if (m1 && m2 && decide (a < d) && decide (c < b)) then R (max a c, min b d) else R (0, 0))) :
    Calls Tryz.prog 82 #[.agg #[.int .i64 a, .int .i64 b], .agg #[.int .i64 c, .int .i64 d]] w fun e w' => e = .returned V ∧ Gr w w' := by
  have hm1 := fun W => rmay_any W a b
  have hm2 := fun W => rmay_any W c d
  rw [h1.out] at hm1
  rw [h2.out] at hm2
  clear h1 h2
  cases m1
  · go_enter Tryz.func82, Tryz.ntmps82
    go_wp2_with (go_at_call 81; refine (hm1 _).mono ?_; rintro e w' ⟨rfl, rfl⟩)
    refine bodyPost_ret (v := R (0, 0)) (by simp [results, Tryz.results82, go_sem, R]) rfl ⟨by rw [HV.out]; rfl, ?_⟩
    exact (((Gr.refl w).alloc _).alloc _).alloc _ |>.alloc _
  · cases m2
    · go_enter Tryz.func82, Tryz.ntmps82
      go_wp2_with fail
      refine (hm1 _).mono ?_
      rintro e w' ⟨rfl, rfl⟩
      go_wp2_with fail
      refine (hm2 _).mono ?_
      rintro e w' ⟨rfl, rfl⟩
      go_wp2
      refine bodyPost_ret (v := R (0, 0)) (by simp [results, Tryz.results82, go_sem, R]) rfl ⟨by rw [HV.out]; rfl, ?_⟩
      exact (((Gr.refl w).alloc _).alloc _).alloc _ |>.alloc _ |>.alloc _
    · by_cases g1 : b ≤ c
      · go_enter Tryz.func82, Tryz.ntmps82
        go_wp2_with fail
        refine (hm1 _).mono ?_
        rintro e w' ⟨rfl, rfl⟩
        go_wp2_with fail
        refine (hm2 _).mono ?_
        rintro e w' ⟨rfl, rfl⟩
        go_wp2
        refine bodyPost_ret (v := R (0, 0)) (by simp [results, Tryz.results82, go_sem, R]) rfl ⟨by rw [HV.out, if_neg]; simp; omega, ?_⟩
        exact (((Gr.refl w).alloc _).alloc _).alloc _ |>.alloc _ |>.alloc _
      · by_cases g2 : d ≤ a
        · go_enter Tryz.func82, Tryz.ntmps82
          go_wp2_with fail
          refine (hm1 _).mono ?_
          rintro e w' ⟨rfl, rfl⟩
          go_wp2_with fail
          refine (hm2 _).mono ?_
          rintro e w' ⟨rfl, rfl⟩
          go_wp2
          refine bodyPost_ret (v := R (0, 0)) (by simp [results, Tryz.results82, go_sem, R]) rfl ⟨by rw [HV.out, if_neg]; simp; omega, ?_⟩
          exact (((Gr.refl w).alloc _).alloc _).alloc _ |>.alloc _ |>.alloc _
        · have HV2 : Hid (V = R (max a c, min b d)) := mkH (by rw [HV.out, if_pos]; simp; omega)
          clear HV
          have HMa : Hid (a < c → max a c = c) := mkH (fun _ => by omega)
          have HMb : Hid (¬ a < c → max a c = a) := mkH (fun _ => by omega)
          have HNa : Hid (d < b → min b d = d) := mkH (fun _ => by omega)
          have HNb : Hid (¬ d < b → min b d = b) := mkH (fun _ => by omega)
          by_cases hx : a < c
          · by_cases hy : d < b
            · go_enter Tryz.func82, Tryz.ntmps82
              go_wp2_with fail
              refine (hm1 _).mono ?_
              rintro e w' ⟨rfl, rfl⟩
              go_wp2_with fail
              refine (hm2 _).mono ?_
              rintro e w' ⟨rfl, rfl⟩
              go_wp2
              refine bodyPost_ret (v := R (c, d)) (by simp [results, Tryz.results82, go_sem, R]) rfl ⟨by rw [HV2.out, HMa.out hx, HNa.out hy], ?_⟩
              exact (((Gr.refl w).alloc _).alloc _).alloc _ |>.alloc _ |>.alloc _ |>.alloc _
            · go_enter Tryz.func82, Tryz.ntmps82
              go_wp2_with fail
              refine (hm1 _).mono ?_
              rintro e w' ⟨rfl, rfl⟩
              go_wp2_with fail
              refine (hm2 _).mono ?_
              rintro e w' ⟨rfl, rfl⟩
              go_wp2
              refine bodyPost_ret (v := R (c, b)) (by simp [results, Tryz.results82, go_sem, R]) rfl ⟨by rw [HV2.out, HMa.out hx, HNb.out hy], ?_⟩
              exact (((Gr.refl w).alloc _).alloc _).alloc _ |>.alloc _ |>.alloc _ |>.alloc _
          · by_cases hy : d < b
            · go_enter Tryz.func82, Tryz.ntmps82
              go_wp2_with fail
              refine (hm1 _).mono ?_
              rintro e w' ⟨rfl, rfl⟩
              go_wp2_with fail
              refine (hm2 _).mono ?_
              rintro e w' ⟨rfl, rfl⟩
              go_wp2
              refine bodyPost_ret (v := R (a, d)) (by simp [results, Tryz.results82, go_sem, R]) rfl ⟨by rw [HV2.out, HMb.out hx, HNa.out hy], ?_⟩
              exact (((Gr.refl w).alloc _).alloc _).alloc _ |>.alloc _ |>.alloc _ |>.alloc _
            · go_enter Tryz.func82, Tryz.ntmps82
              go_wp2_with fail
              refine (hm1 _).mono ?_
              rintro e w' ⟨rfl, rfl⟩
              go_wp2_with fail
              refine (hm2 _).mono ?_
              rintro e w' ⟨rfl, rfl⟩
              go_wp2
              refine bodyPost_ret (v := R (a, b)) (by simp [results, Tryz.results82, go_sem, R]) rfl ⟨by rw [HV2.out, HMb.out hx, HNb.out hy], ?_⟩
              exact (((Gr.refl w).alloc _).alloc _).alloc _ |>.alloc _ |>.alloc _ |>.alloc _

theorem rmeet_any (w : World) (a b c d : Int) :
    Calls Tryz.prog 82 #[.agg #[.int .i64 a, .int .i64 b], .agg #[.int .i64 c, .int .i64 d]] w fun e w' => e = .returned (R (meet (a, b) (c, d))) ∧ Gr w w' := by
  refine rmeet_aux w a b c d _ _ rfl rfl _ (mkH ?_)
  by_cases h : may (a, b) = true ∧ may (c, d) = true ∧ a < d ∧ c < b
  · rw [meet_some a b c d h, if_pos]; simp [h]
  · rw [meet_none a b c d h, if_neg]; simp only [Bool.and_eq_true, decide_eq_true_eq]; rintro ⟨⟨⟨k1, k2⟩, k3⟩, k4⟩; exact h ⟨k1, k2, k3, k4⟩
end Go.Proofs.YtgbbajeeelgbhaaGreatDoor.Pw

