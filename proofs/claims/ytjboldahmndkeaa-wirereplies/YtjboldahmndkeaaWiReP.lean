/-
  WireReplies: for any reply, of whatever numbers, texts, lists and ranges, the program gives the bytes, or the refusal, that the document gives for what is left of it (1100 of each list, texts of 200 and 4100 bytes).
-/
import Derived.Test.YtjboldahmndkeaaWiRe0
import Derived.Test.YtjboldahmndkeaaWiHR
import Derived.Test.YtjboldahmndkeaaWiH
import Derived.WalkKit
import Derived.ProofKit
import Derived.OpenShut
import Derived.ShutString
import Derived.ChangeOld
import Derived.Below
import Derived.SliceStrings
import Derived.Lib.SmallJoins
import Derived.Deep.SlicePairs
namespace Go.Proofs.Ytjboldahmndkeaa.wireReplies
open Go.ChangeShapes Go.WideShapes Go.ChangeAt Go.RowKit Kt Wi Wk Wfw Wh Wa Wfr
open At (RowT)
open Go.ChangeMaps (open_string shut_string)
set_option linter.unusedVariables false

theorem own : ownKnob Try.prog.godebug = none := by kernel_rfl
theorem laidOut : laidOutB Try.prog = true := by kernel_rfl

theorem walk (r0 : Rp) (ga0 : Option Addr) (gc0 : Nat) (da0 : Option Addr) (dc0 : Nat) (ra0 : Option Addr) (rc0 : Nat) (w : World) (w0 : RpIn w r0 ga0 gc0 da0 dc0 ra0 rc0) :
    Calls Try.prog 4 #[.agg (Pv r0 ga0 gc0 da0 dc0 ra0 rc0)] w fun e w' => e = .returned (.bool true) ∧ Below w.heap.size w w' := by
  exact Wre.wireReplies w r0 ga0 gc0 da0 dc0 ra0 rc0 w0

set_option maxRecDepth 100000 in
theorem lifted (os : Os) (started : os.Started) (H : Type) (enc : TypeId × Value → H) :
    ReturnsInHanded {} Try.checked os 4 .any (Rows.wireRepliesSpec.pre6 enc Try.prog Try.f4 Rows.wireRepliesRow.domain false) (Rows.wireRepliesSpec.post enc Try.prog Try.f4 false true false false) := by
  refine returnsInHanded_of_change (C := Try.checked) own started (by kernel_rfl) Try.func4
    (ChangeSpec.witness6 (enc := enc) (C := Try.checked) false ⟨#[], #[.agg #[.int .i64 0, .int .i64 0, .int .i64 0, .slice none 0 0, .slice none 0 0, .slice none 0 0]], []⟩ 8 (by kernel_rfl) (by kernel_rfl) (by kernel_rfl) (by kernel_rfl)) ?_
  intro W base args ds gs before hval0 hW hcnd _
  have hval : ∀ (j : Nat) t v, Try.f4.params[j]? = some t → args[j]? = some v → Value.okWide Try.prog W .any base t v := hval0
  have hW' := hW
  obtain ⟨p, q, hA0, hV, rfl, hfz, hnd⟩ := hW
  have hA : DataW.TrodAll enc Try.prog W 0 (fun _ => true) true Try.f4.params.toList args.toList ds p := hA0
  rw [Try.params4] at hA hval
  obtain ⟨v0, vs0, d0, ds0, p0, q0, hargs, rfl, rfl, h0, rr0⟩ := trodAll_cons hA
  obtain ⟨rfl, rfl, rfl⟩ := trodAll_nil rr0
  obtain rfl : args = #[v0] := by cases args; simp_all
  obtain ⟨rfl, rfl⟩ := trodVars_none hV
  have k0 := h0
  have lt0 : ∀ x ∈ p0, x.block < W.heap.size := by obtain ⟨m, hm⟩ := k0; exact DataW.trod_lt m _ _ _ hm
  obtain ⟨r0, ga0, gc0, da0, dc0, ra0, rc0, rfl, w0⟩ := open_rep (hval 0 43 v0 rfl rfl) h0
  clear hA0 hval0
  refine (walk r0 ga0 gc0 da0 dc0 ra0 rc0 W w0).mono fun e W' ⟨he, bel⟩ => ?_
  subst he
  exact ⟨_, rfl, _, _, _, [], _, [], hW', trodAll_mk1 (shut_bool Try.underlying4 _), (trodAll_cons_mk (Below.trod laidOut (by kernel_rfl) (of_decide_eq_true (by kernel_rfl)) k0 bel lt0) trodAll_mk0), rfl, bel.frame _, fun h => by cases h⟩

theorem over : Rows.wireRepliesRow.holds Try.pinned (OpenSpec.ofChange Rows.wireRepliesSpec) :=
  OpenClaim.holds_of_wide 4 Try.f4 rfl rfl rfl rfl rfl rfl rfl ⟨rfl, rfl, rfl, rfl, rfl⟩ rfl rfl rfl rfl rfl (by kernel_rfl) Try.func4 (by kernel_rfl)
    (of_decide_eq_true (by kernel_rfl)) (by unfold Func.isWrapper; first | (rw [if_pos (by decide +kernel)]; kernel_rfl) | (rw [if_neg (by decide +kernel)]; exact ⟨rfl, rfl⟩))
    (fun os started H enc _ => lifted os started H enc)
end Go.Proofs.Ytjboldahmndkeaa.wireReplies
namespace Go.Proofs.Ytjboldahmndkeaa
/-- The statement. -/
theorem wireReplies_holds : Rows.WireRepliesSaid := wireReplies.over
#print axioms wireReplies_holds
end Go.Proofs.Ytjboldahmndkeaa
