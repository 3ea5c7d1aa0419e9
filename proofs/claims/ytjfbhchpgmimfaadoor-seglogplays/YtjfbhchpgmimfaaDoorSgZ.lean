/-
  Calls that come in as data: their parts.
-/
import Derived.Test.YtjfbhchpgmimfaaDoorSgX
import Derived.OpenShut
import Derived.ChangeOld
import Derived.WideShapes
import Derived.ProofKit
import Derived.Deep.Slices
namespace Go.Proofs.YtjfbhchpgmimfaaDoor.Sz
open Go.RowKit Kt Sx Go.ChangeShapes Go.WideShapes Go.ChangeMaps
set_option linter.unusedVariables false
set_option maxRecDepth 20000

theorem arr4 {α : Type} {cs : Array α} (h : cs.size = 4) : ∃ a0 a1 a2 a3, cs = #[a0, a1, a2, a3] := by
  obtain ⟨l⟩ := cs
  match l, h with
  | [a0, a1, a2, a3], _ => exact ⟨_, _, _, _, rfl⟩
theorem c3 : Tryd.prog.cellsOf 3 = 1 := by kernel_rfl
theorem c5 : Tryd.prog.cellsOf 5 = 1 := by kernel_rfl
theorem c26 : Tryd.prog.cellsOf 30 = 1 := by kernel_rfl
theorem c30 : Tryd.prog.cellsOf 32 = 4 := by kernel_rfl
theorem lt_of {α : Type} {l : List α} {i : Nat} {x : α} (h : l[i]? = some x) : i < l.length := by
  rcases Nat.lt_or_ge i l.length with h1 | h1
  · exact h1
  · rw [List.getElem?_eq_none h1] at h; cases h

section
variable {H : Type} {enc : TypeId × Value → H} {W : World} {base : Nat} {held : Bool}
theorem int_of {n : Nat} {v : Value} {x : Option (DataW H × List MemPlace)} (h : DataW.trod enc Tryd.prog W base (fun _ => true) held n 3 [v] = x) (hx : x.isSome = true) : ∃ a : Int, v = .int .i64 a ∧ a ≤ 9223372036854775807 := by
  obtain ⟨y, rfl⟩ := Option.isSome_iff_exists.1 hx
  obtain ⟨a, e, h1, h2⟩ := DataW.trod_int Tryd.underlying3 h
  refine ⟨a, by simpa using e, ?_⟩
  have := bounds_i64 h2
  omega
theorem bytes_of {n : Nat} {v : Value} {x : Option (DataW H × List MemPlace)} (h : DataW.trod enc Tryd.prog W base (fun _ => true) held n 30 [v] = x) (hx : x.isSome = true) : ∃ (bs : List UInt8) (ao : Option Addr) (cap : Nat), v = .slice ao bs.length cap ∧ Row W ao bs ∧ bs.length ≤ cap ∧ cap ≤ 9223372036854775807 := by
  obtain ⟨y, rfl⟩ := Option.isSome_iff_exists.1 hx
  rcases open_ints Tryd.underlying30 Tryd.underlying5 c5 h with ⟨e, -⟩ | ⟨a, len, cap, zs, e, -, hl, hm, hz, -, hc, hs⟩
  · exact ⟨[], none, 0, by simpa using e, Row.nil _ _, Nat.le_refl _, by omega⟩
  · obtain ⟨bs, h1, h2, h3, h4⟩ := isRow_bytes (w := W) (a := some a) (len := len) (cap := cap) (zs := zs) (.inr ⟨a, rfl, hl, hm, by simpa using hz, hc, hs⟩)
    exact ⟨bs, some a, cap, by rw [h1]; simpa using e, h4, by omega, h3⟩
theorem act_of {n : Nat} {v0 v1 v2 v3 : Value} {x : Option (DataW H × List MemPlace)} (h : DataW.trod enc Tryd.prog W base (fun _ => true) held n 32 [v0, v1, v2, v3] = x) (hx : x.isSome = true) :
    ∃ a : Ac, [v0, v1, v2, v3] = aC a ∧ AcOk W a := by
  obtain ⟨y, rfl⟩ := Option.isSome_iff_exists.1 hx
  obtain ⟨xs, m, -, -, -, hl, hf⟩ := DataW.trod_struct Tryd.underlying32 h
  have hs : ∀ i, i < 4 → (xs[i]?).isSome = true := fun i hi => by rw [List.getElem?_eq_getElem (by rw [hl]; exact hi)]; rfl
  obtain ⟨n0, rfl, -⟩ := int_of (v := v0) (by simpa [c3] using hf 0 _ rfl) (hs 0 (by omega))
  obtain ⟨n1, rfl, -⟩ := int_of (v := v1) (by simpa [c3] using hf 1 _ rfl) (hs 1 (by omega))
  obtain ⟨n2, rfl, hn2⟩ := int_of (v := v2) (by simpa [c3] using hf 2 _ rfl) (hs 2 (by omega))
  obtain ⟨bs, ao, cap, rfl, h1, h2, h3⟩ := bytes_of (v := v3) (by simpa [c26] using hf 3 _ rfl) (hs 3 (by omega))
  exact ⟨⟨n0, n1, n2, ao, cap, bs⟩, rfl, h1, h2, h3, hn2⟩
theorem rowA_of {x : Addr} {len : Nat} (h : ∀ i, i < len → ∃ y, AcOk W y ∧ ∀ j, j < 4 → W.cell? (x.add (i * 4 + j)) = (aC y)[j]?) : ∃ l : List Ac, l.length = len ∧ RowA W (some x) l := by
  obtain ⟨l, hl, hx⟩ : ∃ l : List Ac, l.length = len ∧ ∀ i y, l[i]? = some y → AcOk W y ∧ ∀ j, j < 4 → W.cell? (x.add (i * 4 + j)) = (aC y)[j]? := by
    induction len with
    | zero => exact ⟨[], rfl, fun i y h => by simp at h⟩
    | succ k ih =>
      obtain ⟨l, h1, h2⟩ := ih (fun i hi => h i (by omega))
      obtain ⟨y, hy⟩ := h k (by omega)
      refine ⟨l ++ [y], by simp [h1], fun i z hz => ?_⟩
      rcases Nat.lt_or_ge i l.length with hi | hi
      · rw [List.getElem?_append_left hi] at hz; exact h2 i z hz
      · have e : i = k := by have := lt_of hz; simp at this; omega
        subst e
        rw [List.getElem?_append_right hi, h1] at hz
        simp at hz
        subst hz
        exact hy
  refine ⟨l, hl, fun y hy => ?_, fun h0 => ?_⟩
  · obtain ⟨i, hi⟩ := List.getElem?_of_mem hy
    exact (hx i y hi).1
  · obtain ⟨b, off, spot⟩ := x
    have hy : l[0]? = some l[0] := List.getElem?_eq_getElem h0
    have hc0 := (hx 0 _ hy).2 0 (by omega)
    have hspot : spot = none := by simpa [Addr.add] using World.cell?_spot (hc0.trans (show (aC l[0])[0]? = some _ from rfl))
    subst hspot
    refine ⟨b, off, rfl, fun i y hy j v hv => ?_⟩
    have hj : j < 4 := by have := lt_of hv; rwa [aC_len] at this
    have := (hx i y hy).2 j hj
    rw [Addr.add_lit, hv, ← Nat.add_assoc] at this
    exact this
theorem open_acts {n : Nat} {v : Value} {x : Option (DataW H × List MemPlace)} (h : DataW.trod enc Tryd.prog W base (fun _ => true) held n 22 [v] = x) (hx : x.isSome = true) : ∃ (l : List Ac) (ao : Option Addr) (cap : Nat), v = .slice ao l.length cap ∧ RowA W ao l ∧ l.length ≤ cap ∧ cap ≤ 9223372036854775807 := by
  obtain ⟨y, rfl⟩ := Option.isSome_iff_exists.1 hx
  rcases Go.Deep.open_slice Tryd.underlying22 h with ⟨e, -⟩ | ⟨a, len, cap, m, k, D, Pl, e, -, hl, hm, hmm, -, hx⟩
  · exact ⟨[], none, 0, by simpa using e, ⟨fun x hx => (by cases hx), fun h => by simp at h⟩, Nat.le_refl _, by omega⟩
  · have hlm : len ≤ m := by rw [hmm]; split <;> omega
    obtain ⟨l, h1, h3⟩ := rowA_of (W := W) (x := a) (len := len) (fun i hi => by
      obtain ⟨cs', g1, g2⟩ := hx i (by omega)
      rw [c30] at g1
      obtain ⟨-, hlen, hcell⟩ := World.cells?_some g1
      match cs', hlen with
      | [v0, v1, v2, v3], _ =>
        obtain ⟨x, hg, ho⟩ := act_of g2 rfl
        refine ⟨x, ho, fun j hj => ?_⟩
        have := hcell j hj
        rw [Go.Deep.add_add, hg] at this
        exact this)
    exact ⟨l, some a, cap, by rw [h1]; simpa using e, h3, by omega, by unfold maxLen at hm; omega⟩
theorem open_act {r : Reach} {b0 : Nat} {v : Value} {d : DataW H} {p : List MemPlace} (hv : Value.okWide Tryd.prog W r b0 32 v) (h : DataW.Trod enc Tryd.prog W base (fun _ => true) held 32 v d p) :
    ∃ x : Ac, v = .agg (aC x).toArray ∧ AcOk W x := by
  obtain ⟨cs, rfl, hsz⟩ := okWide_struct Tryd.underlying32 hv
  obtain ⟨a0, a1, a2, a3, rfl⟩ := arr4 (hsz.trans c30)
  obtain ⟨fuel, hf0⟩ := h
  obtain ⟨x, hx, ho⟩ := act_of (v0 := a0) (v1 := a1) (v2 := a2) (v3 := a3) (by simpa [Value.cells] using hf0) rfl
  exact ⟨x, by rw [← hx], ho⟩
theorem arr2 {α : Type} {cs : Array α} (h : cs.size = 2) : ∃ a0 a1, cs = #[a0, a1] := by
  obtain ⟨l⟩ := cs
  match l, h with
  | [a0, a1], _ => exact ⟨_, _, rfl⟩

theorem c51 : Tryd.prog.cellsOf 62 = 2 := by kernel_rfl
theorem open_pair {r : Reach} {b0 : Nat} {v : Value} {d : DataW H} {p : List MemPlace} (hv : Value.okWide Tryd.prog W r b0 62 v) (h : DataW.Trod enc Tryd.prog W base (fun _ => true) held 62 v d p) :
    ∃ a b : Int, v = .agg #[.int .i64 a, .int .i64 b] ∧ a ≤ 9223372036854775807 ∧ b ≤ 9223372036854775807 := by
  simp only [Value.okWide, Tryd.underlying62] at hv
  obtain ⟨cs, rfl, hsz, -⟩ := hv
  obtain ⟨a0, a1, rfl⟩ := arr2 (hsz.trans c51)
  obtain ⟨fuel, hf0⟩ := h
  obtain ⟨xs, m, -, -, -, hl, hf⟩ := DataW.trod_array Tryd.underlying62 hf0
  have hs : ∀ i, i < 2 → (xs[i]?).isSome = true := fun i hi => by rw [List.getElem?_eq_getElem (by rw [hl]; exact hi)]; rfl
  obtain ⟨n0, rfl, h0⟩ := int_of (v := a0) (by simpa [c3, Value.cells] using hf 0 (by omega)) (hs 0 (by omega))
  obtain ⟨n1, rfl, h1⟩ := int_of (v := a1) (by simpa [c3, Value.cells] using hf 1 (by omega)) (hs 1 (by omega))
  exact ⟨n0, n1, rfl, h0, h1⟩
end
end Go.Proofs.YtjfbhchpgmimfaaDoor.Sz
