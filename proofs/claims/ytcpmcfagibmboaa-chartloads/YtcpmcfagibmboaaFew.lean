/-
  The contracts of 'few' and 'works'.
-/
import Derived.Test.YtcpmcfagibmboaaReads
import Derived.Test.YtcpmcfagibmboaaWrites
namespace Go.Proofs.Ytcpmcfagibmboaa.Fw
open Go.RowKit Kt Pl Rd Wr
set_option linter.unusedVariables false

theorem Row_take {w : World} {ao : Option Addr} {bs : List UInt8} (h : Row w ao bs) (k : Nat) : Row w ao (bs.take k) := by
  intro hl
  rw [List.length_take] at hl
  obtain ⟨b, off, e, hc⟩ := h (by omega)
  refine ⟨b, off, e, fun i hi => ?_⟩
  rw [List.length_take] at hi
  rw [hc i (by omega)]
  simp [show i < k by omega]

/-- 'b[k:]', its address as the walk writes it. -/
theorem Row_drop {w : World} {ao : Option Addr} {bs : List UInt8} (h : Row w ao bs) {k cap : Nat} (hc : bs.length ≤ cap) : Row w (if cap = k then ao else Option.map (fun x => x.add k) ao) (bs.drop k) := by
  intro hl
  rw [List.length_drop] at hl
  obtain ⟨b, off, e, hcl⟩ := h (by omega)
  rw [if_neg (by omega), e]
  refine ⟨b, off + k, by simp [Addr.add], fun i hi => ?_⟩
  rw [List.length_drop] at hi
  rw [Nat.add_assoc, hcl (k + i) (by omega)]
  simp

theorem enc300 : enc 300 = [172, 2] := by rw [enc_ge (by omega), enc_lt (by omega)]; rfl
theorem enc2 : enc 2 = [2] := by rw [enc_lt (by omega)]; rfl
end Go.Proofs.Ytcpmcfagibmboaa.Fw
