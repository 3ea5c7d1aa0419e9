/-
  'string(b)' in the worlds that a drawn region goes through; lists of votes that are alike: the document's look.
-/
import Derived.Test.YtaainjkhenenoabB9R
import Derived.BigQuiet
import Derived.Deep.QuietTactic
namespace Go.Proofs.Ytaainjkhenenoab.By
open Go.RowKit Kt Dk Bp Bm Br
set_option linter.unusedVariables false
set_option maxRecDepth 20000

theorem strW {ao : Option Addr} {bs : List UInt8} {w : World} (h : Row w ao bs) (c : Nat) : ∀ n, (convert 25 9 (.slice ao bs.length c)).run Try.prog (w.drewN n) = .ok (.string (S bs)) (w.drewN n) := fun n =>
  run_string (P := Try.prog) (w := w.drewN n) Try.underlying25 Try.underlying5 Try.underlying9 h c
theorem strD {ao : Option Addr} {bs : List UInt8} {w : World} (h : Row w ao bs) (c : Nat) : (convert 25 9 (.slice ao bs.length c)).run Try.prog w.drew = .ok (.string (S bs)) w.drew :=
  run_string (P := Try.prog) (w := w.drew) Try.underlying25 Try.underlying5 Try.underlying9 h c
theorem strW0 {ao : Option Addr} {bs : List UInt8} {w : World} (h : Row w ao bs) (c : Nat) : (convert 25 9 (.slice ao bs.length c)).run Try.prog w = .ok (.string (S bs)) w := strW h c 0
/-- Lists that are alike have alike votes at one place. -/
theorem p3_at {l m : List X} (h : l.map p3 = m.map p3) {i : Nat} {x : X} (hx : l[i]? = some x) : ∃ a c, m[i]? = some ⟨x.s, x.b, x.v, a, c⟩ := by
  have h1 : (l.map p3)[i]? = some (p3 x) := by rw [List.getElem?_map, hx]; rfl
  rw [h, List.getElem?_map] at h1
  cases hm : m[i]? with
  | none => rw [hm] at h1; cases h1
  | some y =>
    rw [hm] at h1
    obtain ⟨s, b, v, a, c⟩ := y
    simp only [Option.map_some, p3, Option.some.injEq, Prod.mk.injEq] at h1
    obtain ⟨rfl, rfl, rfl⟩ := h1
    exact ⟨a, c, rfl⟩
theorem p3_len {l m : List X} (h : l.map p3 = m.map p3) : m.length = l.length := by
  have := congrArg List.length h
  simpa using this.symm
end Go.Proofs.Ytaainjkhenenoab.By
