/-
  A command that comes in as data: its parts.
-/
import Derived.Test.YtjboldahmndkeaaWiFew
import Derived.Test.YtjboldahmndkeaaKit3
import Derived.OpenShut
import Derived.SliceStrings
import Derived.ChangeOld
import Derived.WideShapes
import Derived.ProofKit
namespace Go.Proofs.Ytjboldahmndkeaa.Wh
open Go.RowKit Kt Pl Wi Wk Wfw Go.ChangeShapes Go.WideShapes Go.ChangeMaps
open At (RowT)
set_option linter.unusedVariables false
set_option maxRecDepth 20000

theorem arr19 {α : Type} {cs : Array α} (h : cs.size = 19) : ∃ a0 a1 a2 a3 a4 a5 a6 a7 a8 a9 a10 a11 a12 a13 a14 a15 a16 a17 a18, cs = #[a0, a1, a2, a3, a4, a5, a6, a7, a8, a9, a10, a11, a12, a13, a14, a15, a16, a17, a18] := by
  obtain ⟨l⟩ := cs
  match l, h with
  | [a0, a1, a2, a3, a4, a5, a6, a7, a8, a9, a10, a11, a12, a13, a14, a15, a16, a17, a18], _ => exact ⟨_, _, _, _, _, _, _, _, _, _, _, _, _, _, _, _, _, _, _, rfl⟩
theorem c3 : Try.prog.cellsOf 3 = 1 := by kernel_rfl
theorem c9 : Try.prog.cellsOf 9 = 1 := by kernel_rfl
theorem c23 : Try.prog.cellsOf 23 = 4 := by kernel_rfl
theorem c25 : Try.prog.cellsOf 25 = 2 := by kernel_rfl
theorem c26 : Try.prog.cellsOf 26 = 1 := by kernel_rfl
theorem c28 : Try.prog.cellsOf 28 = 19 := by kernel_rfl

section
variable {H : Type} {enc : TypeId × Value → H} {W : World} {base : Nat} {held : Bool}
theorem int_of {n : Nat} {v : Value} {x : Option (DataW H × List MemPlace)} (h : DataW.trod enc Try.prog W base (fun _ => true) held n 3 [v] = x) (hx : x.isSome = true) : ∃ a : Int, v = .int .i64 a := by
  obtain ⟨y, rfl⟩ := Option.isSome_iff_exists.1 hx
  obtain ⟨a, e, -, -⟩ := DataW.trod_int Try.underlying3 h
  exact ⟨a, by simpa using e⟩
theorem str_of {n : Nat} {v : Value} {x : Option (DataW H × List MemPlace)} (h : DataW.trod enc Try.prog W base (fun _ => true) held n 9 [v] = x) (hx : x.isSome = true) : ∃ s : Bs, v = .string (S s) ∧ s.length ≤ 9223372036854775807 := by
  obtain ⟨y, rfl⟩ := Option.isSome_iff_exists.1 hx
  obtain ⟨s, e, -, hs⟩ := DataW.trod_string Try.underlying9 h
  refine ⟨s.data.toList, ?_, ?_⟩
  · have : S s.data.toList = s := by cases s; rfl
    rw [this]; simpa using e
  · unfold maxLen at hs
    have : s.data.toList.length = s.size := rfl
    omega
theorem strs_of {n : Nat} {v : Value} {x : Option (DataW H × List MemPlace)} (h : DataW.trod enc Try.prog W base (fun _ => true) held n 26 [v] = x) (hx : x.isSome = true) : ∃ (l : List Bs) (ao : Option Addr) (cap : Nat), v = .slice ao l.length cap ∧ RowT W ao l ∧ l.length ≤ 9223372036854775807 := by
  obtain ⟨y, rfl⟩ := Option.isSome_iff_exists.1 hx
  rcases open_strings Try.underlying26 Try.underlying9 c9 h with ⟨e, -⟩ | ⟨a, len, cap, ss, e, -, hl, hm, hz, -, hc, hs⟩
  · exact ⟨[], none, 0, by simpa using e, fun h => by simp at h, by simp⟩
  · obtain ⟨l, h1, h2, h3, h4⟩ := isStrs_texts (w := W) (a := some a) (len := len) (cap := cap) (zs := ss) (.inr ⟨a, rfl, hl, hm, by simpa using hz, hc, hs⟩)
    exact ⟨l, some a, cap, by rw [h1]; simpa using e, h4, by omega⟩
theorem rcp_of {n : Nat} {v0 v1 v2 v3 : Value} {x : Option (DataW H × List MemPlace)} (h : DataW.trod enc Try.prog W base (fun _ => true) held n 23 [v0, v1, v2, v3] = x) (hx : x.isSome = true) :
    ∃ r : Rcp, v0 = .int .i64 r.q ∧ v1 = .string (S r.g) ∧ v2 = .int .i64 r.s ∧ v3 = .int .i64 r.c ∧ r.g.length ≤ 9223372036854775807 := by
  obtain ⟨y, rfl⟩ := Option.isSome_iff_exists.1 hx
  obtain ⟨xs, m, -, -, -, hl, hf⟩ := DataW.trod_struct Try.underlying23 h
  have hs : ∀ i, i < 4 → (xs[i]?).isSome = true := fun i hi => by rw [List.getElem?_eq_getElem (by rw [hl]; exact hi)]; rfl
  obtain ⟨a0, e0⟩ := int_of (v := v0) (by simpa [c3] using hf 0 _ rfl) (hs 0 (by omega))
  obtain ⟨a1, e1, l1⟩ := str_of (v := v1) (by simpa [c9] using hf 1 _ rfl) (hs 1 (by omega))
  obtain ⟨a2, e2⟩ := int_of (v := v2) (by simpa [c3] using hf 2 _ rfl) (hs 2 (by omega))
  obtain ⟨a3, e3⟩ := int_of (v := v3) (by simpa [c3] using hf 3 _ rfl) (hs 3 (by omega))
  exact ⟨⟨a0, a1, a2, a3⟩, e0, e1, e2, e3, l1⟩
theorem rg_of {n : Nat} {v0 v1 : Value} {x : Option (DataW H × List MemPlace)} (h : DataW.trod enc Try.prog W base (fun _ => true) held n 25 [v0, v1] = x) (hx : x.isSome = true) :
    ∃ a b : Int, v0 = .int .i64 a ∧ v1 = .int .i64 b := by
  obtain ⟨y, rfl⟩ := Option.isSome_iff_exists.1 hx
  obtain ⟨xs, m, -, -, -, hl, hf⟩ := DataW.trod_struct Try.underlying25 h
  have hs : ∀ i, i < 2 → (xs[i]?).isSome = true := fun i hi => by rw [List.getElem?_eq_getElem (by rw [hl]; exact hi)]; rfl
  obtain ⟨a0, e0⟩ := int_of (v := v0) (by simpa [c3] using hf 0 _ rfl) (hs 0 (by omega))
  obtain ⟨a1, e1⟩ := int_of (v := v1) (by simpa [c3] using hf 1 _ rfl) (hs 1 (by omega))
  exact ⟨a0, a1, e0, e1⟩

set_option maxHeartbeats 2000000 in
theorem open_cmd {r : Reach} {b0 : Nat} {v : Value} {d : DataW H} {p : List MemPlace} (hv : Value.okWide Try.prog W r b0 28 v) (h : DataW.Trod enc Try.prog W base (fun _ => true) held 28 v d p) :
    ∃ (c : Cm) (ao : Option Addr) (cap : Nat), v = .agg (Cv c (.slice ao c.data.length cap)) ∧ RowT W ao c.data ∧ Fit63 c := by
  obtain ⟨cs, rfl, hsz⟩ := okWide_struct Try.underlying28 hv
  obtain ⟨a0, a1, a2, a3, a4, a5, a6, a7, a8, a9, a10, a11, a12, a13, a14, a15, a16, a17, a18, rfl⟩ := arr19 (hsz.trans c28)
  obtain ⟨fuel, hf0⟩ := h
  obtain ⟨xs, m, -, -, -, hl, hf⟩ := DataW.trod_struct Try.underlying28 hf0
  have hs : ∀ i, i < 15 → (xs[i]?).isSome = true := fun i hi => by rw [List.getElem?_eq_getElem (by rw [hl]; exact hi)]; rfl
  clear hf0 hsz hv
  obtain ⟨n0, rfl⟩ := int_of (v := a0) (by simpa [c3, Value.cells] using hf 0 _ rfl) (hs 0 (by omega))
  obtain ⟨n1, rfl⟩ := int_of (v := a1) (by simpa [c3, Value.cells] using hf 1 _ rfl) (hs 1 (by omega))
  obtain ⟨n2, rfl⟩ := int_of (v := a2) (by simpa [c3, Value.cells] using hf 2 _ rfl) (hs 2 (by omega))
  obtain ⟨n3, rfl⟩ := int_of (v := a3) (by simpa [c3, Value.cells] using hf 3 _ rfl) (hs 3 (by omega))
  obtain ⟨n4, rfl⟩ := int_of (v := a4) (by simpa [c3, Value.cells] using hf 4 _ rfl) (hs 4 (by omega))
  obtain ⟨s5, rfl, l5⟩ := str_of (v := a5) (by simpa [c9, Value.cells] using hf 5 _ rfl) (hs 5 (by omega))
  obtain ⟨s6, rfl, l6⟩ := str_of (v := a6) (by simpa [c9, Value.cells] using hf 6 _ rfl) (hs 6 (by omega))
  obtain ⟨s7, rfl, l7⟩ := str_of (v := a7) (by simpa [c9, Value.cells] using hf 7 _ rfl) (hs 7 (by omega))
  obtain ⟨s8, rfl, l8⟩ := str_of (v := a8) (by simpa [c9, Value.cells] using hf 8 _ rfl) (hs 8 (by omega))
  obtain ⟨n9, rfl⟩ := int_of (v := a9) (by simpa [c3, Value.cells] using hf 9 _ rfl) (hs 9 (by omega))
  obtain ⟨n10, rfl⟩ := int_of (v := a10) (by simpa [c3, Value.cells] using hf 10 _ rfl) (hs 10 (by omega))
  obtain ⟨r, rfl, rfl, rfl, rfl, lr⟩ := rcp_of (v0 := a11) (v1 := a12) (v2 := a13) (v3 := a14) (by simpa [c23, Value.cells] using hf 11 _ rfl) (hs 11 (by omega))
  obtain ⟨lo, hi, rfl, rfl⟩ := rg_of (v0 := a15) (v1 := a16) (by simpa [c25, Value.cells] using hf 12 _ rfl) (hs 12 (by omega))
  obtain ⟨n13, rfl⟩ := int_of (v := a17) (by simpa [c3, Value.cells] using hf 13 _ rfl) (hs 13 (by omega))
  obtain ⟨l, ao, cap, rfl, hr, ll⟩ := strs_of (v := a18) (by simpa [c26, Value.cells] using hf 14 _ rfl) (hs 14 (by omega))
  exact ⟨⟨n0, n1, n2, n3, n4, s5, s6, s7, s8, n9, n10, r, lo, hi, n13, l⟩, ao, cap, rfl, hr, l5, l6, l7, l8, lr, ll⟩
end
end Go.Proofs.Ytjboldahmndkeaa.Wh
