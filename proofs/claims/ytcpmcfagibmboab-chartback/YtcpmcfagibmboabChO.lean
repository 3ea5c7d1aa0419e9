/-
  Moves, ranges and charts that come in as data: their parts.
-/
import Derived.Test.YtcpmcfagibmboabChR
import Derived.OpenShut
import Derived.SliceStrings
import Derived.ChangeOld
import Derived.WideShapes
import Derived.ProofKit
import Derived.Deep.Slices
namespace Go.Proofs.Ytcpmcfagibmboab.Co
open Go.RowKit Kt Pl Cp Go.ChangeShapes Go.WideShapes Go.ChangeMaps
open Cr hiding some_of lt_of
set_option linter.unusedVariables false
set_option linter.unusedSimpArgs false
set_option maxRecDepth 20000

theorem c3 : Try.prog.cellsOf 3 = 1 := by kernel_rfl
theorem c25 : Try.prog.cellsOf 31 = 2 := by kernel_rfl
theorem c63 : Try.prog.cellsOf 50 = 3 := by kernel_rfl
theorem c22 : Try.prog.cellsOf 23 = 1 := by kernel_rfl
theorem c24 : Try.prog.cellsOf 25 = 2 := by kernel_rfl

theorem cSt : Try.prog.cellsOf 33 = 3 := by kernel_rfl

theorem rowS_of {α : Type} {n : Nat} {cs : α → List Value} (hpos : 0 < n) (hn : ∀ x, (cs x).length = n) {w : World} {x : Addr} {len : Nat} {Q : α → Prop}
    (h : ∀ i, i < len → ∃ y, Q y ∧ ∀ j, j < n → w.cell? (x.add (i * n + j)) = (cs y)[j]?) : ∃ l : List α, l.length = len ∧ (∀ y ∈ l, Q y) ∧ RowS n cs w (some x) l := by
  obtain ⟨l, hl, hx⟩ : ∃ l : List α, l.length = len ∧ ∀ i y, l[i]? = some y → Q y ∧ ∀ j, j < n → w.cell? (x.add (i * n + j)) = (cs y)[j]? := by
    induction len with
    | zero => exact ⟨[], rfl, fun i y h => by simp at h⟩
    | succ k ih =>
      obtain ⟨l, h1, h2⟩ := ih (fun i hi => h i (by omega))
      obtain ⟨y, hy⟩ := h k (by omega)
      refine ⟨l ++ [y], by simp [h1], fun i z hz => ?_⟩
      rcases Nat.lt_or_ge i l.length with hi | hi
      · rw [List.getElem?_append_left hi] at hz; exact h2 i z hz
      · have e : i = k := by have := Cr.lt_of hz; simp at this; omega
        subst e
        rw [List.getElem?_append_right hi, h1] at hz
        simp at hz
        subst hz
        exact hy
  refine ⟨l, hl, fun y hy => ?_, fun h0 => ?_⟩
  · obtain ⟨i, hi⟩ := List.getElem?_of_mem hy
    exact (hx i y hi).1
  · obtain ⟨b, off, spot⟩ := x
    obtain ⟨y, hy⟩ := Cr.some_of h0
    have hc0 := (hx 0 y hy).2 0 hpos
    obtain ⟨v, hv⟩ := Cr.some_of (l := cs y) (i := 0) (by rw [hn]; exact hpos)
    rw [hv] at hc0
    have hspot : spot = none := by simpa [Addr.add] using World.cell?_spot hc0
    subst hspot
    refine ⟨b, off, rfl, fun i y hy j v hv => ?_⟩
    have hj : j < n := by have := Cr.lt_of hv; rwa [hn] at this
    have := (hx i y hy).2 j hj
    rw [Addr.add_lit, hv, ← Nat.add_assoc] at this
    exact this

section
variable {H : Type} {enc : TypeId × Value → H} {W : World} {base : Nat} {held : Bool}
theorem int_of {n : Nat} {v : Value} {x : Option (DataW H × List MemPlace)} (h : DataW.trod enc Try.prog W base (fun _ => true) held n 3 [v] = x) (hx : x.isSome = true) : ∃ a : Int, v = .int .i64 a := by
  obtain ⟨y, rfl⟩ := Option.isSome_iff_exists.1 hx
  obtain ⟨a, e, -, -⟩ := DataW.trod_int Try.underlying3 h
  exact ⟨a, by simpa using e⟩
theorem rg_of {n : Nat} {v0 v1 : Value} {x : Option (DataW H × List MemPlace)} (h : DataW.trod enc Try.prog W base (fun _ => true) held n 31 [v0, v1] = x) (hx : x.isSome = true) :
    ∃ a b : Int, v0 = .int .i64 a ∧ v1 = .int .i64 b := by
  obtain ⟨y, rfl⟩ := Option.isSome_iff_exists.1 hx
  obtain ⟨xs, m, -, -, -, hl, hf⟩ := DataW.trod_struct Try.underlying31 h
  have hs : ∀ i, i < 2 → (xs[i]?).isSome = true := fun i hi => by rw [List.getElem?_eq_getElem (by rw [hl]; exact hi)]; rfl
  obtain ⟨a0, e0⟩ := int_of (v := v0) (by simpa [c3] using hf 0 _ rfl) (hs 0 (by omega))
  obtain ⟨a1, e1⟩ := int_of (v := v1) (by simpa [c3] using hf 1 _ rfl) (hs 1 (by omega))
  exact ⟨a0, a1, e0, e1⟩
theorem piece_of {n : Nat} {v0 v1 v2 : Value} {x : Option (DataW H × List MemPlace)} (h : DataW.trod enc Try.prog W base (fun _ => true) held n 50 [v0, v1, v2] = x) (hx : x.isSome = true) : ∃ p : Pc, [v0, v1, v2] = pC p := by
  obtain ⟨y, rfl⟩ := Option.isSome_iff_exists.1 hx
  obtain ⟨xs, m, -, -, -, hl, hf⟩ := DataW.trod_struct Try.underlying50 h
  have hs : ∀ i, i < 2 → (xs[i]?).isSome = true := fun i hi => by rw [List.getElem?_eq_getElem (by rw [hl]; exact hi)]; rfl
  obtain ⟨a, b, rfl, rfl⟩ := rg_of (v0 := v0) (v1 := v1) (by simpa [c25] using hf 0 _ rfl) (hs 0 (by omega))
  obtain ⟨c, rfl⟩ := int_of (v := v2) (by simpa [c3] using hf 1 _ rfl) (hs 1 (by omega))
  exact ⟨(a, b, c), rfl⟩
theorem pieces_of {n : Nat} {v : Value} {x : Option (DataW H × List MemPlace)} (h : DataW.trod enc Try.prog W base (fun _ => true) held n 23 [v] = x) (hx : x.isSome = true) : ∃ (l : List Pc) (ao : Option Addr) (cap : Nat), v = .slice ao l.length cap ∧ RowP W ao l ∧ l.length ≤ cap ∧ cap ≤ 9223372036854775807 := by
  obtain ⟨y, rfl⟩ := Option.isSome_iff_exists.1 hx
  rcases Go.Deep.open_slice Try.underlying23 h with ⟨e, -⟩ | ⟨a, len, cap, m, k, D, Pl, e, -, hl, hm, hmm, -, hx⟩
  · exact ⟨[], none, 0, by simpa using e, RowS.nil _ _, by simp, by omega⟩
  · have hlm : len ≤ m := by rw [hmm]; split <;> omega
    obtain ⟨l, h1, -, h3⟩ := rowS_of (n := 3) (cs := pC) (Q := fun _ => True) (by decide) pC_len (w := W) (x := a) (len := len) (fun i hi => by
      obtain ⟨cs', g1, g2⟩ := hx i (by omega)
      rw [c63] at g1
      obtain ⟨-, hlen, hcell⟩ := World.cells?_some g1
      match cs', hlen with
      | [v0, v1, v2], _ =>
        obtain ⟨p, hp⟩ := piece_of g2 rfl
        refine ⟨p, trivial, fun j hj => ?_⟩
        have := hcell j hj
        rw [Go.Deep.add_add, hp] at this
        exact this)
    exact ⟨l, some a, cap, by rw [h1]; simpa using e, h3, by omega, by unfold maxLen at hm; omega⟩
theorem chart_of {n : Nat} {v0 v1 : Value} {x : Option (DataW H × List MemPlace)} (h : DataW.trod enc Try.prog W base (fun _ => true) held n 25 [v0, v1] = x) (hx : x.isSome = true) :
    ∃ (e : Int) (ps : List Pc) (ao : Option Addr) (cap : Nat), v0 = .int .i64 e ∧ v1 = .slice ao ps.length cap ∧ RdP W ao cap ps := by
  obtain ⟨y, rfl⟩ := Option.isSome_iff_exists.1 hx
  obtain ⟨xs, m, -, -, -, hl, hf⟩ := DataW.trod_struct Try.underlying25 h
  have hs : ∀ i, i < 2 → (xs[i]?).isSome = true := fun i hi => by rw [List.getElem?_eq_getElem (by rw [hl]; exact hi)]; rfl
  obtain ⟨e, rfl⟩ := int_of (v := v0) (by simpa [c3] using hf 0 _ rfl) (hs 0 (by omega))
  obtain ⟨ps, ao, cap, rfl, h1, h2, h3⟩ := pieces_of (v := v1) (by simpa [c22] using hf 1 _ rfl) (hs 1 (by omega))
  exact ⟨e, ps, ao, cap, rfl, rfl, h1, h2, h3⟩
theorem arr2 {α : Type} {cs : Array α} (h : cs.size = 2) : ∃ a0 a1, cs = #[a0, a1] := by
  obtain ⟨l⟩ := cs
  match l, h with
  | [a0, a1], _ => exact ⟨_, _, rfl⟩
theorem open_chart {r : Reach} {b0 : Nat} {v : Value} {d : DataW H} {p : List MemPlace} (hv : Value.okWide Try.prog W r b0 25 v) (h : DataW.Trod enc Try.prog W base (fun _ => true) held 25 v d p) :
    ∃ (e : Int) (ps : List Pc) (ao : Option Addr) (cap : Nat), v = .agg #[.int .i64 e, .slice ao ps.length cap] ∧ RdP W ao cap ps := by
  obtain ⟨cs, rfl, hsz⟩ := okWide_struct Try.underlying25 hv
  obtain ⟨a0, a1, rfl⟩ := arr2 (hsz.trans c24)
  obtain ⟨fuel, hf0⟩ := h
  obtain ⟨e, ps, ao, cap, rfl, rfl, hr⟩ := chart_of (v0 := a0) (v1 := a1) (by simpa [Value.cells] using hf0) rfl
  exact ⟨e, ps, ao, cap, rfl, hr⟩

theorem step_of {n : Nat} {v0 v1 v2 : Value} {x : Option (DataW H × List MemPlace)} (h : DataW.trod enc Try.prog W base (fun _ => true) held n 33 [v0, v1, v2] = x) (hx : x.isSome = true) : ∃ p : Pc, [v0, v1, v2] = pC p := by
  obtain ⟨y, rfl⟩ := Option.isSome_iff_exists.1 hx
  obtain ⟨xs, m, -, -, -, hl, hf⟩ := DataW.trod_struct Try.underlying33 h
  have hs : ∀ i, i < 2 → (xs[i]?).isSome = true := fun i hi => by rw [List.getElem?_eq_getElem (by rw [hl]; exact hi)]; rfl
  obtain ⟨a, b, rfl, rfl⟩ := rg_of (v0 := v0) (v1 := v1) (by simpa [c25] using hf 0 _ rfl) (hs 0 (by omega))
  obtain ⟨c, rfl⟩ := int_of (v := v2) (by simpa [c3] using hf 1 _ rfl) (hs 1 (by omega))
  exact ⟨(a, b, c), rfl⟩
theorem steps_of {n : Nat} {v : Value} {x : Option (DataW H × List MemPlace)} (h : DataW.trod enc Try.prog W base (fun _ => true) held n 22 [v] = x) (hx : x.isSome = true) : ∃ (l : List Pc) (ao : Option Addr) (cap : Nat), v = .slice ao l.length cap ∧ RowP W ao l ∧ l.length ≤ cap ∧ cap ≤ 9223372036854775807 := by
  obtain ⟨y, rfl⟩ := Option.isSome_iff_exists.1 hx
  rcases Go.Deep.open_slice Try.underlying22 h with ⟨e, -⟩ | ⟨a, len, cap, m, k, D, Pl, e, -, hl, hm, hmm, -, hx⟩
  · exact ⟨[], none, 0, by simpa using e, RowS.nil _ _, by simp, by omega⟩
  · have hlm : len ≤ m := by rw [hmm]; split <;> omega
    obtain ⟨l, h1, -, h3⟩ := rowS_of (n := 3) (cs := pC) (Q := fun _ => True) (by decide) pC_len (w := W) (x := a) (len := len) (fun i hi => by
      obtain ⟨cs', g1, g2⟩ := hx i (by omega)
      rw [cSt] at g1
      obtain ⟨-, hlen, hcell⟩ := World.cells?_some g1
      match cs', hlen with
      | [v0, v1, v2], _ =>
        obtain ⟨p, hp⟩ := step_of g2 rfl
        refine ⟨p, trivial, fun j hj => ?_⟩
        have := hcell j hj
        rw [Go.Deep.add_add, hp] at this
        exact this)
    exact ⟨l, some a, cap, by rw [h1]; simpa using e, h3, by omega, by unfold maxLen at hm; omega⟩
theorem open_steps {r : Reach} {b0 : Nat} {v : Value} {d : DataW H} {p : List MemPlace} (hv : Value.okWide Try.prog W r b0 22 v) (h : DataW.Trod enc Try.prog W base (fun _ => true) held 22 v d p) :
    ∃ (l : List Pc) (ao : Option Addr) (cap : Nat), v = .slice ao l.length cap ∧ RowP W ao l ∧ l.length ≤ cap ∧ cap ≤ 9223372036854775807 := by
  obtain ⟨a, n, c, rfl⟩ := okWide_slice Try.underlying22 hv
  obtain ⟨fuel, hf⟩ := h
  exact steps_of (by simpa [Value.cells] using hf) rfl

end
end Go.Proofs.Ytcpmcfagibmboab.Co
