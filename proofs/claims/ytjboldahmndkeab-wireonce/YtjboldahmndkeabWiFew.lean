/-
  The laws' few.
-/
import Derived.Test.YtjboldahmndkeabWiT
namespace Go.Proofs.Ytjboldahmndkeab.Wfw
open Go.RowKit Kt Pl Wi Wk Ww Wx We Wf Wy Wb
open At (RowT okT)
set_option linter.unusedVariables false
set_option linter.unusedSimpArgs false
set_option maxRecDepth 20000

theorem start2 {P : Program} {id : Nat} {ops : Array Oper} {b : Bool} {Q : Exit → Act → World → Prop} {a : Act} {w : World} {cs zs : Array Value} {t u : TypeId}
    (h : ∀ W0 Z, Z.size = zs.size → Bx W0 w.heap.size cs t → Bx W0 (w.heap.size + 1) Z u → Gr w W0 → (Code.region id ops b).wp P Q a W0) : (Code.region id ops b).wp P Q a ((w.alloc (.cells cs t)).alloc (.cells zs u)) :=
  h _ zs rfl ((Bx.new w cs t).alloc _) (by have := Bx.new (w.alloc (.cells cs t)) zs u; simpa using this) (((Gr.refl w).alloc _).alloc _)

/-- A command that came out: its data of memory since w. -/
def CmOut (w : World) (c : Cm) (e : Ending) (w' : World) : Prop := ∃ ao cap, e = .returned (.agg (Cv c (.slice ao c.data.length cap))) ∧ RowT w' ao c.data ∧ (∀ a, ao = some a → w.heap.size ≤ a.block) ∧ Below w.heap.size w w'
/-- Texts that a machine can hold. -/
def Fit63 (c : Cm) : Prop := c.group.length ≤ 9223372036854775807 ∧ c.body.length ≤ 9223372036854775807 ∧ c.token.length ≤ 9223372036854775807 ∧ c.attempt.length ≤ 9223372036854775807 ∧ c.rc.g.length ≤ 9223372036854775807 ∧ c.data.length ≤ 9223372036854775807
theorem Cv_one (c : Cm) (ao : Option Addr) (n cap : Nat) : (Cv c (.slice ao n cap)).all (fun x => x.oneCell') = true := by unfold Cv; rw [List.all_toArray]; rfl
end Go.Proofs.Ytjboldahmndkeab.Wfw
