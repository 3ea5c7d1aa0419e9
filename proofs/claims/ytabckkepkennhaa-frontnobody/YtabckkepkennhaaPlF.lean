/-
  Lists of ranges: Same, few, the document's Find.
-/
import Derived.Test.YtabckkepkennhaaPlM
import Derived.Test.YtabckkepkennhaaPlR
namespace Go.Proofs.Ytabckkepkennhaa.Pf
open Go.RowKit Pl Pw Pr
open Kt hiding mkH
set_option linter.unusedVariables false
set_option maxRecDepth 20000

theorem info26 : (Try.prog.info? 29).map (fun i => (i.zero, i.size, i.bytes)) = some (some (.agg #[.int .i64 0, .int .i64 0]), 2, 16) := by kernel_rfl

/-- How far two lists are alike. -/
theorem take_succ_eq {α : Type} {a b : List α} {k : Nat} {x y : α} (ha : a[k]? = some x) (hb : b[k]? = some y) (h : a.take k = b.take k) (e : x = y) : a.take (k + 1) = b.take (k + 1) := by
  rw [List.take_add_one, List.take_add_one, h, ha, hb, e]
theorem ne_of_at {a b : List Rg} {k : Nat} {x y : Rg} (ha : a[k]? = some x) (hb : b[k]? = some y) (e : ¬ x = y) : ¬ a = b := by
  intro h; rw [h, hb] at ha; injection ha with ha; exact e ha.symm

theorem fnd_step {l : List Rg} {k : Nat} {r : Rg} (p : Int) (h : l[k]? = some r) : fnd (l.drop k) p k = if inn r p then (k : Int) else fnd (l.drop (k + 1)) p (k + 1) := by
  have hk : k < l.length := by
    rcases Nat.lt_or_ge k l.length with h1 | h1
    · exact h1
    · rw [List.getElem?_eq_none h1] at h; cases h
  rw [List.drop_eq_getElem_cons hk, fnd]
  rw [List.getElem?_eq_getElem hk] at h
  injection h with h
  rw [h]
theorem fnd_end {l : List Rg} {k : Nat} (p : Int) (h : l.length ≤ k) : fnd (l.drop k) p k = -1 := by
  rw [List.drop_eq_nil_of_le h]; rfl
end Go.Proofs.Ytabckkepkennhaa.Pf
