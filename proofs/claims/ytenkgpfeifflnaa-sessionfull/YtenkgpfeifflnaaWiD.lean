/-
  More of the checks: upTo, fit, shortData, rightReceipt, May; and the document's: num, receipt, May, longData.
-/
import Derived.Test.YtenkgpfeifflnaaWiC
namespace Go.Proofs.Ytenkgpfeifflnaa.Wd
open Go.RowKit Kt Pl Wi Wk Wc
open At (RowT)
set_option linter.unusedVariables false
set_option maxRecDepth 20000

theorem hmf : ∀ (fn : Fn) (first cap : Array Value) (w : World), (Instr.makeFunc fn first cap).run Try.prog w = .ok (.func fn first cap) w := fun _ _ _ _ => rfl

theorem rcB_all (r : Rcp) : rcB r = [r.q, r.s, r.c].all (upToB 1099511627776) := by simp [rcB, numB]

theorem mayB_cases (lo hi : Int) : (¬ 0 ≤ lo ∧ mayB lo hi = false) ∨ (0 ≤ lo ∧ ¬ lo < hi ∧ mayB lo hi = false) ∨ (0 ≤ lo ∧ lo < hi ∧ ¬ hi ≤ 65536 ∧ mayB lo hi = false) ∨ (0 ≤ lo ∧ lo < hi ∧ hi ≤ 65536 ∧ mayB lo hi = true) := by
  unfold mayB
  by_cases h1 : 0 ≤ lo <;> by_cases h2 : lo < hi <;> by_cases h3 : hi ≤ 65536 <;> simp [h1, h2, h3]
end Go.Proofs.Ytenkgpfeifflnaa.Wd
