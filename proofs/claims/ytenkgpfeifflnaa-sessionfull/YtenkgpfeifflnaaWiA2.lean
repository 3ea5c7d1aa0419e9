/-
  The checks of deliveries and of ranges, one by one; each, over rows of structs.
-/
import Derived.Test.YtenkgpfeifflnaaWiA
import Derived.Test.YtenkgpfeifflnaaWiT
import Derived.Test.YtenkgpfeifflnaaWiY
namespace Go.Proofs.Ytenkgpfeifflnaa.Wa
open Go.RowKit Kt Pl Wi Wk Wc Wd We Wx Wy
open At (RowT)
set_option linter.unusedVariables false
set_option linter.unusedSimpArgs false
set_option maxRecDepth 20000

section
variable {P : Program} {w : World} {ops : Array Oper} {rest : List Oper} {o : Oper} {a : Act} {Q : Exit → Act → World → Prop}
/-- A struct goes into a variable made just now. -/
theorem wpList_stn (hgd : o.guard = none) {ty : TypeId} {x y : Operand} {cs zs : Array Value} {t : TypeId} (ho : o.op = .store ty x y) (hx : a.eval x = .pointer (some ⟨w.heap.size, 0, none⟩)) (hy : a.eval y = .agg cs) (hi : (P.info? ty).map (·.size) = some cs.size) (hold : zs.size = cs.size) (h1 : cs.all (fun x => x.oneCell') = true)
    (h : ∀ W, Bx W w.heap.size cs t → Gr w W → wpList P ops Q rest (a.put o.dst undef) W) : wpList P ops Q (o :: rest) a (w.alloc (.cells zs t)) :=
  wpList_st hgd ho hx hy (Bx.new w zs t) hi hold h1 (h _ ((Bx.new w zs t).row hold) ⟨below_setRow ((Below.refl _ _).alloc (Nat.le_refl _) _) (Nat.le_refl _) _, Nat.le_refl _⟩)
theorem wpList_ldw {ty : TypeId} {x : Operand} {p : Addr} {v : Value} (hw : Region.wanted o (yielded ops a.tmps) = true) (ho : o.op = .load ty x) (hx : a.eval x = .pointer (some p)) (h : (loadVar ty p).run P w = .ok v w)
    (hk : wpList P ops Q rest (a.put o.dst v) w) : wpList P ops Q (o :: rest) a w := by
  refine wpList_step fun _ hK => ?_
  rw [if_pos hw]
  unfold Oper.wp
  rw [run_ld ho hx h]
  exact hK _ _ hk
end
theorem all1 (l : List Value) (h : ∀ u ∈ l, u.oneCell' = true) : l.toArray.all (fun x => x.oneCell') = true := by rw [List.all_toArray, List.all_eq_true]; exact h

theorem rightG_all (g : Gt) : rightG g = (rcB g.rc && [g.sent].all (upToB 1099511627776)) := by simp [rightG, numB]
theorem shortG_all (g : Gt) : shortG g = ([g.rc.g].all (fitB 32) && [g.body].all (fitB 128)) := by simp [shortG]
end Go.Proofs.Ytenkgpfeifflnaa.Wa
