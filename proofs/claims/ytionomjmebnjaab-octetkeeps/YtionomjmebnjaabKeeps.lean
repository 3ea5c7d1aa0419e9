/-
  OctetKeeps: what is handed to octet's writers stays as it was, and what they write is memory of its own: for every slice of bytes, every number and every text the law returns true and leaves them as they were. No condition.
-/
import Derived.Test.YtionomjmebnjaabKeepsB
import Derived.WalkKit
import Derived.ProofKit
import Derived.OpenShut
import Derived.ShutString
import Derived.ChangeOld
import Derived.Below
namespace Go.Proofs.Ytionomjmebnjaab.octetKeeps
open Go.ChangeShapes Go.WideShapes Go.ChangeAt Go.RowKit Kt
open Go.ChangeMaps (open_string shut_string)
set_option linter.unusedVariables false

theorem own : ownKnob Try.prog.godebug = none := by kernel_rfl
theorem laidOut : laidOutB Try.prog = true := by kernel_rfl

theorem walk (a0 : Option Addr) (len0 cap0 : Nat) (z0 : List Int) (a1 : Int) (a2 : ByteArray) (w : World) (w0 : IsRow .u8 w a0 len0 cap0 z0) (w1 : (Lit.int .i64 a1).wf = true) (w2 : a2.size ≤ maxLen) :
    Calls Try.prog 4 #[.slice a0 len0 cap0, .int .i64 a1, .string a2] w fun e w' => e = .returned (.bool true) ∧ Below w.heap.size w w' := by
  obtain ⟨bs, rfl, hlen, hcap, hr⟩ := isRow_bytes w0
  obtain ⟨bh, hbh⟩ : ∃ bh, bs.take 6000 = bh := ⟨_, rfl⟩
  have h6 : bh.length ≤ 6000 := by rw [← hbh, List.length_take]; omega
  have hS : ∀ x : ByteArray, x = S x.data.toList := fun x => by cases x; simp [S]
  by_cases hn : 0 ≤ a1 ∧ a1 ≤ 4611686018427387904
  · obtain ⟨n, rfl⟩ := Int.eq_ofNat_of_zero_le hn.1
    have hN : n ≤ 4611686018427387904 := by omega
    by_cases hs : 300 < a2.size
    · exact Ke.keeps_ok_cut w a0 cap0 n hN (Pl.enc_len9 hN) (Pl.enc_len_pos n) a2 (a2.extract 0 300).data.toList hs (hS _) (by rw [Array.length_toList]; show (a2.extract 0 300).size ≤ 300; rw [ByteArray.size_extract]; omega) bs bh hr hlen hcap hbh h6
    · rw [hS a2]
      exact Ke.keeps_ok w a0 cap0 n hN (Pl.enc_len9 hN) (Pl.enc_len_pos n) a2.data.toList (by rw [Array.length_toList]; exact Nat.le_of_not_lt hs) bs bh hr hlen hcap hbh h6
  · have hN : a1 < 0 ∨ 4611686018427387904 < a1 := by omega
    by_cases hs : 300 < a2.size
    · exact Ke.keeps_bad_cut w a0 cap0 a1 hN a2 (a2.extract 0 300).data.toList hs (hS _) (by rw [Array.length_toList]; show (a2.extract 0 300).size ≤ 300; rw [ByteArray.size_extract]; omega) bs bh hr hlen hcap hbh h6
    · rw [hS a2]
      exact Ke.keeps_bad w a0 cap0 a1 hN a2.data.toList (by rw [Array.length_toList]; exact Nat.le_of_not_lt hs) bs bh hr hlen hcap hbh h6

set_option maxRecDepth 100000 in
theorem lifted (os : Os) (started : os.Started) (H : Type) (enc : TypeId × Value → H) :
    ReturnsInHanded {} Try.checked os 4 .any (Rows.octetKeepsSpec.pre6 enc Try.prog Try.f4 Rows.octetKeepsRow.domain false) (Rows.octetKeepsSpec.post enc Try.prog Try.f4 false true false false) := by
  refine returnsInHanded_of_change (C := Try.checked) own started (by kernel_rfl) Try.func4
    (ChangeSpec.witness6 (enc := enc) (C := Try.checked) false ⟨#[], #[.slice none 0 0, .int .i64 0, .string ByteArray.empty], []⟩ 8 (by kernel_rfl) (by kernel_rfl) (by kernel_rfl) (by kernel_rfl)) ?_
  intro W base args ds gs before hval0 hW hcnd _
  have hval : ∀ (j : Nat) t v, Try.f4.params[j]? = some t → args[j]? = some v → Value.okWide Try.prog W .any base t v := hval0
  have hW' := hW
  obtain ⟨p, q, hA0, hV, rfl, hfz, hnd⟩ := hW
  have hA : DataW.TrodAll enc Try.prog W 0 (fun _ => true) true Try.f4.params.toList args.toList ds p := hA0
  rw [Try.params4] at hA hval
  obtain ⟨v0, vs0, d0, ds0, p0, q0, hargs, rfl, rfl, h0, r0⟩ := trodAll_cons hA
  obtain ⟨v1, vs1, d1, ds1, p1, q1, rfl, rfl, rfl, h1, r1⟩ := trodAll_cons r0
  obtain ⟨v2, vs2, d2, ds2, p2, q2, rfl, rfl, rfl, h2, r2⟩ := trodAll_cons r1
  obtain ⟨rfl, rfl, rfl⟩ := trodAll_nil r2
  obtain rfl : args = #[v0, v1, v2] := by cases args; simp_all
  obtain ⟨rfl, rfl⟩ := trodVars_none hV
  obtain ⟨a0, len0, cap0, rfl⟩ := okWide_slice Try.underlying22 (hval 0 22 v0 rfl rfl)
  have k0 := h0
  have lt0 : ∀ x ∈ p0, x.block < W.heap.size := by obtain ⟨m, hm⟩ := k0; exact DataW.trod_lt m _ _ _ hm
  obtain ⟨z0, w0⟩ : ∃ zs, IsRow .u8 W a0 len0 cap0 zs := by
    obtain ⟨fuel, hf⟩ := h0
    rcases open_ints Try.underlying22 Try.underlying5 (by kernel_rfl) hf with ⟨hcs, _⟩ | ⟨x, l, c, zs, hcs, _, hl, hm, hz, _, hcell, hwz⟩
    · simp [Value.cells] at hcs
      obtain ⟨rfl, rfl, rfl⟩ := hcs
      exact ⟨[], .inl ⟨rfl, rfl, rfl, rfl⟩⟩
    · simp [Value.cells] at hcs
      obtain ⟨rfl, rfl, rfl⟩ := hcs
      exact ⟨zs, .inr ⟨_, rfl, hl, hm, by simpa using hz, hcell, hwz⟩⟩
  obtain ⟨a1, rfl, rfl, rfl, w1⟩ := open_int Try.underlying3 (hval 1 3 v1 rfl rfl) h1
  obtain ⟨a2, rfl, rfl, rfl, w2⟩ := open_string Try.underlying9 (hval 2 9 v2 rfl rfl) h2
  clear hA0 hval0
  refine (walk a0 len0 cap0 z0 a1 a2 W w0 w1 w2).mono fun e W' ⟨he, bel⟩ => ?_
  subst he
  exact ⟨_, rfl, _, _, _, [], _, [], hW', trodAll_mk1 (shut_bool Try.underlying4 _), (trodAll_cons_mk (Below.trod laidOut (by kernel_rfl) (of_decide_eq_true (by kernel_rfl)) k0 bel lt0) (trodAll_cons_mk (shut_int Try.underlying3 w1) (trodAll_cons_mk (shut_string Try.underlying9 w2) trodAll_mk0))), rfl, bel.frame _, fun h => by cases h⟩

theorem over : Rows.octetKeepsRow.holds Try.pinned (OpenSpec.ofChange Rows.octetKeepsSpec) :=
  OpenClaim.holds_of_wide 4 Try.f4 rfl rfl rfl rfl rfl rfl rfl ⟨rfl, rfl, rfl, rfl, rfl⟩ rfl rfl rfl rfl rfl (by kernel_rfl) Try.func4 (by kernel_rfl)
    (of_decide_eq_true (by kernel_rfl)) (by unfold Func.isWrapper; first | (rw [if_pos (by decide +kernel)]; kernel_rfl) | (rw [if_neg (by decide +kernel)]; exact ⟨rfl, rfl⟩))
    (fun os started H enc _ => lifted os started H enc)

end Go.Proofs.Ytionomjmebnjaab.octetKeeps
namespace Go.Proofs.Ytionomjmebnjaab
/-- The statement. -/
theorem octetKeeps_holds : Rows.OctetKeepsSaid := octetKeeps.over
#print axioms octetKeeps_holds
end Go.Proofs.Ytionomjmebnjaab
