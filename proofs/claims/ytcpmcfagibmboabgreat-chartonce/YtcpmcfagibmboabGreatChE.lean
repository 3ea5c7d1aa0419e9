/-
  Two pieces, and two charts, compared.
-/
import Derived.Test.YtcpmcfagibmboabGreatChB
import Derived.Test.YtcpmcfagibmboabGreatChSh
namespace Go.Proofs.YtcpmcfagibmboabGreat.Ce
open Go.RowKit Pl Pw Pr Pf Pv Cp Ca Cb Gf Gk Go.Shelf
open Cr hiding some_of
open Kt hiding mkH
open Kv
set_option linter.unusedVariables false
set_option linter.unusedSimpArgs false
set_option maxRecDepth 20000

def encP (x : Pc) : List Value := pC x
def eqP (x y : Pc) : Bool := decide ((x.1 = y.1 ∧ x.2.1 = y.2.1) ∧ x.2.2 = y.2.2)
theorem eqlP (a b c d e f : Int) (w : World) : Sem.run Tryz.prog (binOp .eql 87 (.agg #[.int .i64 a, .int .i64 b, .int .i64 c]) (.agg #[.int .i64 d, .int .i64 e, .int .i64 f])) w = .ok (.bool (decide ((a = d ∧ b = e) ∧ c = f))) w := by
  have u3 := Tryz.underlying3
  have a3 := Tryz.isAgg3
  have z3 := Tryz.sizeOf3
  have aR := Tryz.isAgg30
  have zR := Tryz.sizeOf30
  have hS : Tryz.prog.underlying 87 = some (.struct (Tryz.prog.fieldsOf 87)) := by kernel_rfl
  have hp : Tryz.prog.stoodInHeld 87 = false := by kernel_rfl
  have hS2 : Tryz.prog.underlying 30 = some (.struct (Tryz.prog.fieldsOf 30)) := by kernel_rfl
  have hp2 : Tryz.prog.stoodInHeld 30 = false := by kernel_rfl
  have hin : ∀ W, (Op.equalIn 9999 30 (.agg #[.int .i64 a, .int .i64 b]) (.agg #[.int .i64 d, .int .i64 e])).run Tryz.prog W = .ok (decide (a = d ∧ b = e)) W := by
    intro W
    rw [show (9999 : Nat) = 9998 + 1 from rfl, run_equalIn_agg W 9998 30 _ _ hS2 hp2]
    simp only [Program.fieldsOf, Tryz.underlying30]
    go_simp
    by_cases h1 : a = d <;> by_cases h2 : b = e <;> simp [h1, h2]
  rw [run_eql_struct, show (10000 : Nat) = 9999 + 1 from rfl, run_equalIn_agg w 9999 87 _ _ hS hp]
  simp only [Program.fieldsOf, Tryz.underlying87]
  go_simp
  by_cases h1 : a = d <;> by_cases h2 : b = e <;> by_cases h3 : c = f <;> simp [h1, h2, h3]
theorem guardP (op : BinOp) (x y : Operand) (a b c d e f : Int) (w : World) : Sem.run Tryz.prog (eqGuard op 87 x y (.agg #[.int .i64 a, .int .i64 b, .int .i64 c]) (.agg #[.int .i64 d, .int .i64 e, .int .i64 f])) w = .ok () w :=
  run_eqGuard_agg w op 87 x y _ _ (by kernel_rfl)
theorem neqP (a b c d e f : Int) (w : World) : Sem.run Tryz.prog (binOp .neq 87 (.agg #[.int .i64 a, .int .i64 b, .int .i64 c]) (.agg #[.int .i64 d, .int .i64 e, .int .i64 f])) w = .ok (.bool (!decide ((a = d ∧ b = e) ∧ c = f))) w := by
  have h := eqlP a b c d e f w
  rw [run_eql_struct] at h
  rw [run_neq_struct]
  revert h
  generalize (Op.equalIn 10000 87 (.agg #[.int .i64 a, .int .i64 b, .int .i64 c]) (.agg #[.int .i64 d, .int .i64 e, .int .i64 f])).run Tryz.prog w = r
  intro h
  cases r with
  | ok b w' => simp only [Result.andThen_ok] at h ⊢; injection h with h1 h2; injection h1 with h1; rw [h1, h2]
  | halt x w' => simp [Result.andThen] at h
theorem neqAtP : NeqAt Tryz.prog 87 (fun x => .agg (encP x).toArray) eqP :=
  ⟨fun x y w => neqP x.1 x.2.1 x.2.2 y.1 y.2.1 y.2.2 w, fun op a b x y w => guardP op a b x.1 x.2.1 x.2.2 y.1 y.2.1 y.2.2 w⟩
theorem eqP_iff (x y : Pc) : eqP x y = true ↔ x = y := by
  unfold eqP
  rw [decide_eq_true_eq]
  constructor
  · rintro ⟨⟨h1, h2⟩, h3⟩; exact Prod.ext h1 (Prod.ext h2 h3)
  · rintro rfl; exact ⟨⟨rfl, rfl⟩, rfl⟩
theorem cells_of {w : World} {b o : Nat} {l : List Pc} (h : RowP w (some ⟨b, o, none⟩) l) (hl : 0 < l.length) : ∀ j, j < l.length → ∀ i v, (encP l[j]!)[i]? = some v → w.cell? ⟨b, o + j * 3 + i, none⟩ = some v := by
  intro j hj i v hi
  obtain ⟨b', o', e, hc⟩ := h hl
  simp only [Option.some.injEq, Addr.mk.injEq, and_true] at e
  obtain ⟨rfl, rfl⟩ := e
  exact hc j l[j]! (by rw [getElem!_pos l j hj]; exact List.getElem?_eq_getElem hj) i v hi

set_option maxHeartbeats 1000000 in
theorem equal_len (w : World) (ao bo : Option Addr) (n c m d : Nat) (h : ¬ n = m) : Calls Tryz.prog 31 #[.slice ao n c, .slice bo m d] w fun e w' => e = .returned (.bool false) ∧ w' = w := by
  have hn1 : ¬ (n : Int) = (m : Int) := by omega
  go_enter Tryz.func31, Tryz.ntmps31
  go_wp2
  go_ret
  exact ⟨rfl, rfl⟩

theorem allEq_iff (l m : List Pc) (h : l.length = m.length) : Lib.allEq eqP l m = decide (l = m) := by
  by_cases e : l = m
  · subst e
    rw [decide_eq_true rfl]
    exact Lib.allEq_all eqP l l rfl (fun j hj => (eqP_iff _ _).2 rfl)
  · rw [decide_eq_false e]
    have : ∃ k, k < l.length ∧ l[k]! ≠ m[k]! := by
      apply Classical.byContradiction
      intro hh
      apply e
      refine List.ext_getElem h (fun i h1 h2 => ?_)
      apply Classical.byContradiction
      intro hne
      exact hh ⟨i, h1, by rw [getElem!_pos l i h1, getElem!_pos m i h2]; exact hne⟩
    obtain ⟨k, hk, hne⟩ := this
    refine Lib.allEq_elem eqP l m k hk (by omega) ?_
    rw [← Bool.not_eq_true, eqP_iff]; exact hne

set_option maxHeartbeats 1000000 in
theorem equal_none (w : World) (ao bo : Option Addr) (c d : Nat) : Calls Tryz.prog 31 #[.slice ao 0 c, .slice bo 0 d] w fun e w' => e = .returned (.bool true) ∧ w' = w := by
  go_enter Tryz.func31, Tryz.ntmps31
  go_wp2
  refine wp_loop_rounds 1 ?_
  rw [rounds_succ]
  go_wp2
  go_ret
  exact ⟨rfl, rfl⟩

theorem equal_any (w : World) (ao bo : Option Addr) (c d : Nat) (l m : List Pc) (h1 : RdP w ao c l) (h2 : RdP w bo d m) :
    Calls Tryz.prog 31 #[.slice ao l.length c, .slice bo m.length d] w fun e w' => e = .returned (.bool (decide (l = m))) ∧ Gr w w' := by
  by_cases hl : l.length = m.length
  · by_cases h0 : 0 < l.length
    · obtain ⟨b1, o1, rfl, hc1⟩ := h1.r h0
      obtain ⟨b2, o2, rfl, hc2⟩ := h2.r (by omega)
      have hcon := AnyQ.slices_Equal Csh.leqp 3 Tryz.isAgg87 Tryz.sizeOf87 encP (fun _ => rfl) eqP neqAtP b1 o1 l.length c b2 o2 m.length d l m w (Nat.le_refl _) (Nat.le_refl _) (by have := h1.le; have := h1.hi; omega) (by have := h2.le; have := h2.hi; omega) (cells_of h1.r h0) (cells_of h2.r (by omega))
      change Calls Tryz.prog 31 _ _ _ at hcon
      refine hcon.mono ?_
      rintro e w' ⟨he, q, rfl⟩
      refine ⟨?_, ⟨⟨rfl, rfl, rfl, Nat.le_refl _, fun _ _ => rfl⟩, Nat.le_add_right _ _⟩⟩
      rw [he]
      rw [List.take_length, List.take_length, allEq_iff l m hl]
    · have e1 : l = [] := List.eq_nil_of_length_eq_zero (by omega)
      have e2 : m = [] := List.eq_nil_of_length_eq_zero (by omega)
      subst e1; subst e2
      refine (equal_none w ao bo c d).mono ?_
      rintro e w' ⟨he, rfl⟩
      exact ⟨he, Gr.refl _⟩
  · refine (equal_len w ao bo l.length c m.length d hl).mono ?_
    rintro e w' ⟨he, rfl⟩
    refine ⟨?_, Gr.refl _⟩
    rw [he, decide_eq_false (fun h => hl (by rw [h]))]

theorem same_any (w : World) (e1 e2 : Int) (ao bo : Option Addr) (c d : Nat) (l m : List Pc) (h1 : RdP w ao c l) (h2 : RdP w bo d m) :
    Calls Tryz.prog 11 #[.agg #[.int .i64 e1, .slice ao l.length c], .agg #[.int .i64 e2, .slice bo m.length d]] w fun e w' => e = .returned (.bool (decide (e1 = e2 ∧ l = m))) ∧ Gr w w' := by
  have hg : Gr w ((w.alloc (.cells #[.int .i64 e1, .slice ao l.length c] 51)).alloc (.cells #[.int .i64 e2, .slice bo m.length d] 51)) := ((Gr.refl w).alloc _).alloc _
  have HQ := mkH (equal_any ((w.alloc (.cells #[.int .i64 e1, .slice ao l.length c] 51)).alloc (.cells #[.int .i64 e2, .slice bo m.length d] 51)) ao bo c d l m (h1.below hg.below) (h2.below hg.below))
  have HG := mkH hg
  clear h1 h2 hg
  obtain ⟨r, hr⟩ : ∃ r, r = decide (l = m) := ⟨_, rfl⟩
  rw [← hr] at HQ
  have HR := mkH hr
  clear hr
  by_cases he : e1 = e2
  · subst he
    go_enter Tryz.func11, Tryz.ntmps11
    go_wp2_with (go_at_call 31; refine HQ.out.mono ?_; rintro e w1 ⟨rfl, hg1⟩)
    go_ret
    exact ⟨by rw [HR.out]; simp, HG.out.trans hg1⟩
  · go_enter Tryz.func11, Tryz.ntmps11
    go_wp2
    go_ret
    exact ⟨by simp [he], HG.out⟩
end Go.Proofs.YtcpmcfagibmboabGreat.Ce
