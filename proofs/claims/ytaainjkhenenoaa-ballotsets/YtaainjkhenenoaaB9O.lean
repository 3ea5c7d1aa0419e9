/-
  Votes that come in as data: their parts.
-/
import Derived.Test.YtaainjkhenenoaaB9R
import Derived.OpenShut
import Derived.ChangeOld
import Derived.WideShapes
import Derived.ProofKit
import Derived.Deep.Slices
namespace Go.Proofs.Ytaainjkhenenoaa.Bo
open Go.RowKit Kt Dk Bp Bm Br Go.ChangeShapes Go.WideShapes Go.ChangeMaps
set_option linter.unusedVariables false
set_option maxRecDepth 20000

theorem c3 : Try.prog.cellsOf 3 = 1 := by kernel_rfl
theorem c5 : Try.prog.cellsOf 5 = 1 := by kernel_rfl
theorem c26 : Try.prog.cellsOf 36 = 1 := by kernel_rfl
theorem c30 : Try.prog.cellsOf 38 = 3 := by kernel_rfl

section
variable {H : Type} {enc : TypeId × Value → H} {W : World} {base : Nat} {held : Bool}
theorem int_of {n : Nat} {v : Value} {x : Option (DataW H × List MemPlace)} (h : DataW.trod enc Try.prog W base (fun _ => true) held n 3 [v] = x) (hx : x.isSome = true) : ∃ a : Int, v = .int .i64 a ∧ a ≤ 9223372036854775807 ∧ (Lit.int .i64 a).wf = true := by
  obtain ⟨y, rfl⟩ := Option.isSome_iff_exists.1 hx
  obtain ⟨a, e, h1, h2⟩ := DataW.trod_int Try.underlying3 h
  refine ⟨a, by simpa using e, ?_, h2⟩
  have := bounds_i64 h2
  omega
theorem bytes_of {n : Nat} {v : Value} {x : Option (DataW H × List MemPlace)} (h : DataW.trod enc Try.prog W base (fun _ => true) held n 36 [v] = x) (hx : x.isSome = true) : ∃ (bs : List UInt8) (ao : Option Addr) (cap : Nat), v = .slice ao bs.length cap ∧ Row W ao bs ∧ bs.length ≤ cap ∧ cap ≤ 9223372036854775807 := by
  obtain ⟨y, rfl⟩ := Option.isSome_iff_exists.1 hx
  rcases open_ints Try.underlying36 Try.underlying5 c5 h with ⟨e, -⟩ | ⟨a, len, cap, zs, e, -, hl, hm, hz, -, hc, hs⟩
  · exact ⟨[], none, 0, by simpa using e, Row.nil _ _, Nat.le_refl _, by omega⟩
  · obtain ⟨bs, h1, h2, h3, h4⟩ := isRow_bytes (w := W) (a := some a) (len := len) (cap := cap) (zs := zs) (.inr ⟨a, rfl, hl, hm, by simpa using hz, hc, hs⟩)
    exact ⟨bs, some a, cap, by rw [h1]; simpa using e, h4, by omega, h3⟩
theorem vote_of {n : Nat} {v0 v1 v2 : Value} {x : Option (DataW H × List MemPlace)} (h : DataW.trod enc Try.prog W base (fun _ => true) held n 38 [v0, v1, v2] = x) (hx : x.isSome = true) :
    ∃ a : X, [v0, v1, v2] = vC a ∧ XOk W a := by
  obtain ⟨y, rfl⟩ := Option.isSome_iff_exists.1 hx
  obtain ⟨xs, m, -, -, -, hl, hf⟩ := DataW.trod_struct Try.underlying38 h
  have hs : ∀ i, i < 3 → (xs[i]?).isSome = true := fun i hi => by rw [List.getElem?_eq_getElem (by rw [hl]; exact hi)]; rfl
  obtain ⟨n0, rfl, -, hw⟩ := int_of (v := v0) (by simpa [c3] using hf 0 _ rfl) (hs 0 (by omega))
  obtain ⟨n1, rfl, -⟩ := int_of (v := v1) (by simpa [c3] using hf 1 _ rfl) (hs 1 (by omega))
  obtain ⟨bs, ao, cap, rfl, h1, h2, h3⟩ := bytes_of (v := v2) (by simpa [c26] using hf 2 _ rfl) (hs 2 (by omega))
  exact ⟨⟨n0, n1, bs, ao, cap⟩, rfl, h1, hw, h2, h3⟩
theorem rowX_of {x : Addr} {len : Nat} (h : ∀ i, i < len → ∃ y, XOk W y ∧ ∀ j, j < 3 → W.cell? (x.add (i * 3 + j)) = (vC y)[j]?) : ∃ l : List X, l.length = len ∧ RX W (some x) l := by
  obtain ⟨l, hl, hx⟩ : ∃ l : List X, l.length = len ∧ ∀ i y, l[i]? = some y → XOk W y ∧ ∀ j, j < 3 → W.cell? (x.add (i * 3 + j)) = (vC y)[j]? := by
    induction len with
    | zero => exact ⟨[], rfl, fun i y h => by simp at h⟩
    | succ k ih =>
      obtain ⟨l, h1, h2⟩ := ih (fun i hi => h i (by omega))
      obtain ⟨y, hy⟩ := h k (by omega)
      refine ⟨l ++ [y], by simp [h1], fun i z hz => ?_⟩
      rcases Nat.lt_or_ge i l.length with hi | hi
      · rw [List.getElem?_append_left hi] at hz; exact h2 i z hz
      · have e : i = k := by have := lt_of hz; simp at this; omega
        subst e
        rw [List.getElem?_append_right hi, h1] at hz
        simp at hz
        subst hz
        exact hy
  refine ⟨l, hl, fun h0 => ?_, fun y hy => ?_⟩
  · obtain ⟨b, off, spot⟩ := x
    have hy : l[0]? = some l[0] := List.getElem?_eq_getElem h0
    have hc0 := (hx 0 _ hy).2 0 (by omega)
    have hspot : spot = none := by simpa [Addr.add] using World.cell?_spot (hc0.trans (show (vC l[0])[0]? = some _ from rfl))
    subst hspot
    refine ⟨b, off, rfl, fun i y hy j v hv => ?_⟩
    have hj : j < 3 := by have := lt_of hv; rwa [vC_len] at this
    have := (hx i y hy).2 j hj
    rw [Addr.add_lit, hv, ← Nat.add_assoc] at this
    exact this
  · obtain ⟨i, hi⟩ := List.getElem?_of_mem hy
    exact (hx i y hi).1
theorem open_votes {n : Nat} {v : Value} {x : Option (DataW H × List MemPlace)} (h : DataW.trod enc Try.prog W base (fun _ => true) held n 30 [v] = x) (hx : x.isSome = true) : ∃ (l : List X) (ao : Option Addr) (cap : Nat), v = .slice ao l.length cap ∧ RX W ao l ∧ l.length ≤ cap ∧ cap ≤ 9223372036854775807 := by
  obtain ⟨y, rfl⟩ := Option.isSome_iff_exists.1 hx
  rcases Go.Deep.open_slice Try.underlying30 h with ⟨e, -⟩ | ⟨a, len, cap, m, k, D, Pl, e, -, hl, hm, hmm, -, hx⟩
  · exact ⟨[], none, 0, by simpa using e, ⟨RowS.nil _ _, fun x hx => by cases hx⟩, Nat.le_refl _, by omega⟩
  · have hlm : len ≤ m := by rw [hmm]; split <;> omega
    obtain ⟨l, h1, h3⟩ := rowX_of (W := W) (x := a) (len := len) (fun i hi => by
      obtain ⟨cs', g1, g2⟩ := hx i (by omega)
      rw [c30] at g1
      obtain ⟨-, hlen, hcell⟩ := World.cells?_some g1
      match cs', hlen with
      | [v0, v1, v2], _ =>
        obtain ⟨x, hg, ho⟩ := vote_of g2 rfl
        refine ⟨x, ho, fun j hj => ?_⟩
        have := hcell j hj
        rw [Go.Deep.add_add, hg] at this
        exact this)
    exact ⟨l, some a, cap, by rw [h1]; simpa using e, h3, by omega, by unfold maxLen at hm; omega⟩

theorem arr2 {α : Type} {cs : Array α} (h : cs.size = 2) : ∃ a0 a1, cs = #[a0, a1] := by
  obtain ⟨l⟩ := cs
  match l, h with
  | [a0, a1], _ => exact ⟨_, _, rfl⟩


theorem c51 : Try.prog.cellsOf 49 = 2 := by kernel_rfl
theorem open_pair {r : Reach} {b0 : Nat} {v : Value} {d : DataW H} {p : List MemPlace} (hv : Value.okWide Try.prog W r b0 49 v) (h : DataW.Trod enc Try.prog W base (fun _ => true) held 49 v d p) :
    ∃ a b : Int, v = .agg #[.int .i64 a, .int .i64 b] ∧ a ≤ 9223372036854775807 ∧ b ≤ 9223372036854775807 ∧ -9223372036854775808 ≤ a ∧ -9223372036854775808 ≤ b := by
  simp only [Value.okWide, Try.underlying49] at hv
  obtain ⟨cs, rfl, hsz, -⟩ := hv
  obtain ⟨a0, a1, rfl⟩ := arr2 (hsz.trans c51)
  obtain ⟨fuel, hf0⟩ := h
  obtain ⟨xs, m, -, -, -, hl, hf⟩ := DataW.trod_array Try.underlying49 hf0
  have hs : ∀ i, i < 2 → (xs[i]?).isSome = true := fun i hi => by rw [List.getElem?_eq_getElem (by rw [hl]; exact hi)]; rfl
  obtain ⟨n0, rfl, h0, k0⟩ := int_of (v := a0) (by simpa [c3, Value.cells] using hf 0 (by omega)) (hs 0 (by omega))
  obtain ⟨n1, rfl, h1, k1⟩ := int_of (v := a1) (by simpa [c3, Value.cells] using hf 1 (by omega)) (hs 1 (by omega))
  exact ⟨n0, n1, rfl, h0, h1, by have := bounds_i64 k0; omega, by have := bounds_i64 k1; omega⟩
end
end Go.Proofs.Ytaainjkhenenoaa.Bo
