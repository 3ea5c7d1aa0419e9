/-
  Find: the library's search by a function that asks for a place.
-/
import Derived.Test.YtiinhfkpfklgjabPlF
import Derived.Test.YtiinhfkpfklgjabPlSh
import Derived.Lib.SliceRun
namespace Go.Proofs.Ytiinhfkpfklgjab.Pg
open Go.RowKit Pl Pw Pr Pf Go.Shelf Go.Lib
open Kt hiding mkH
set_option linter.unusedVariables false
set_option maxRecDepth 20000

/-- A range's two cells. -/
def encR (x : Rg) : List Value := [.int .i64 x.1, .int .i64 x.2]

theorem idx_fnd (l : List Rg) (p : Int) (d : Rg) : ∀ k : Nat, Lib.idxByFrom (fun _ y => inn y p) d l k = fnd l p k := by
  induction l with
  | nil => intro k; rfl
  | cons r t ih =>
    intro k
    rw [Lib.idxByFrom, fnd, ih]

theorem pred_any (p : Int) (B : Nat) (w : World) (hB : B < w.heap.size) (hcell : w.cell? ⟨B, 0, none⟩ = some (.int .i64 p)) :
    PredBelow Try.prog 9 #[.pointer (some ⟨B, 0, none⟩)] (fun x => .agg (encR x).toArray) (fun x => inn x p) w := fun W x hb => by
  have hc : W.cell? ⟨B, 0, none⟩ = some (.int .i64 p) := (hb.cell (p := ⟨B, 0, none⟩) hB).trans hcell
  have hBW : B < W.heap.size := Nat.lt_of_lt_of_le hB hb.size
  have hne : B ≠ W.heap.size := by omega
  obtain ⟨x1, x2⟩ := x
  have hin := fun W => in_any W x1 x2 p
  show Calls Try.prog 9 #[.agg #[.int .i64 x1, .int .i64 x2], .pointer (some ⟨B, 0, none⟩)] W fun e w' => e = .returned (.bool (inn (x1, x2) p)) ∧ Below w.heap.size w w'
  generalize inn (x1, x2) p = r at hin ⊢
  go_enter Try.func9, Try.ntmps9
  go_wp2_with fail
  refine (hin _).mono ?_
  rintro e w1 ⟨rfl, hg⟩
  go_wp2
  go_ret
  exact ⟨rfl, hb.trans ((((Gr.refl W).alloc _).trans hg).below.mono hb.size)⟩

set_option maxHeartbeats 1000000 in
theorem index_none (w : World) (ao : Option Addr) (cap : Nat) (fv : Value) : Calls Try.prog 8 #[.slice ao 0 cap, fv] w fun e w' => e = .returned (.int .i64 (-1)) ∧ w' = w := by
  go_enter Try.func8, Try.ntmps8
  go_wp2
  refine wp_loop_rounds 1 ?_
  rw [rounds_succ]
  go_wp2
  go_ret
  exact ⟨rfl, rfl⟩

set_option maxHeartbeats 1000000 in
theorem find_any (w : World) (ao : Option Addr) (cap : Nat) (l : List Rg) (p : Int) (hr : Rw w ao l) (hl : l.length ≤ 1000000) :
    Calls Try.prog 4 #[.slice ao l.length cap, .int .i64 p] w fun e w' => e = .returned (.int .i64 (fnd l p 0)) ∧ Below w.heap.size w w' := by
  by_cases h0 : 0 < l.length
  · obtain ⟨b, off, rfl, hc⟩ := hr h0
    have hb : b < w.heap.size := hr.block h0
    have eg : ∀ args w, (callFunc 9 args).run Try.prog w = .ok (.enter 9 args) w := enters_of Try.func9 (by kernel_rfl) rfl
    have hcon := AnyQ.slices_IndexFunc Sh.lidx 2 Try.isAgg24 Try.sizeOf24 encR (fun _ => rfl) (fun x => inn x p) 9 #[.pointer (some ⟨w.heap.size, 0, none⟩)] eg b off l.length cap l (w.alloc (.cells #[.int .i64 p] 3))
      (pred_any p w.heap.size _ (by simp) (by simp)) (Nat.le_refl _) (by omega) (by simp; omega) (fun j hj i v hi => by
        refine Lib.cell?_alloc_some _ ?_
        have h1 := hc j l[j]! (by rw [getElem!_pos l j hj]; exact List.getElem?_eq_getElem hj)
        generalize l[j]! = y at hi h1
        match i, hi with
        | 0, hi => simp [encR] at hi; rw [← hi]; exact h1.1
        | 1, hi => simp [encR] at hi; rw [← hi]; exact h1.2
        | i + 2, hi => simp [encR] at hi)
    rw [List.take_length, show Lib.idxBy (fun _ y => inn y p) l default = fnd l p 0 from idx_fnd l p default 0] at hcon
    change Calls Try.prog 8 _ _ _ at hcon
    clear hc hr
    generalize fnd l p 0 = r at hcon ⊢
    go_enter Try.func4, Try.ntmps4
    go_wp2_with (go_at_call 8; refine hcon.mono ?_; rintro e w' ⟨rfl, hb'⟩)
    go_ret
    exact ⟨rfl, ((Below.refl _ w).alloc (Nat.le_refl _) _).trans (hb'.mono (by simp))⟩
  · have e : l = [] := List.eq_nil_of_length_eq_zero (by omega)
    subst e
    have hcon := fun W fv => index_none W ao cap fv
    clear hr
    go_enter Try.func4, Try.ntmps4
    go_wp2_with (go_at_call 8; refine (hcon _ _).mono ?_; rintro e w' ⟨rfl, rfl⟩)
    go_ret
    exact ⟨rfl, (Below.refl _ w).alloc (Nat.le_refl _) _⟩
end Go.Proofs.Ytiinhfkpfklgjab.Pg
