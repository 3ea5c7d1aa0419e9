/-
  Acts that come in as data: their parts.
-/
import Derived.Test.YteaempemdolcjaaNtPa
import Derived.OpenShut
import Derived.SliceStrings
import Derived.ChangeOld
import Derived.WideShapes
import Derived.ProofKit
import Derived.Deep.Slices
namespace Go.Proofs.Yteaempemdolcjaa.Nop
open Go.RowKit Kt Nr Pa Go.ChangeShapes Go.WideShapes Go.ChangeMaps
set_option linter.unusedVariables false
set_option linter.unusedSimpArgs false
set_option maxRecDepth 20000

abbrev Ac := Int × Int × Int
abbrev RowA (w : World) (a : Option Addr) (l : List Ac) : Prop := RowS 3 aC w a l
theorem aC_len (x : Ac) : (aC x).length = 3 := rfl
theorem c3 : Try.prog.cellsOf 3 = 1 := by kernel_rfl
theorem cAc : Try.prog.cellsOf 32 = 3 := by kernel_rfl

theorem rowS_of {α : Type} {n : Nat} {cs : α → List Value} (hpos : 0 < n) (hn : ∀ x, (cs x).length = n) {w : World} {x : Addr} {len : Nat} {Q : α → Prop}
    (h : ∀ i, i < len → ∃ y, Q y ∧ ∀ j, j < n → w.cell? (x.add (i * n + j)) = (cs y)[j]?) : ∃ l : List α, l.length = len ∧ (∀ y ∈ l, Q y) ∧ RowS n cs w (some x) l := by
  obtain ⟨l, hl, hx⟩ : ∃ l : List α, l.length = len ∧ ∀ i y, l[i]? = some y → Q y ∧ ∀ j, j < n → w.cell? (x.add (i * n + j)) = (cs y)[j]? := by
    induction len with
    | zero => exact ⟨[], rfl, fun i y h => by simp at h⟩
    | succ k ih =>
      obtain ⟨l, h1, h2⟩ := ih (fun i hi => h i (by omega))
      obtain ⟨y, hy⟩ := h k (by omega)
      refine ⟨l ++ [y], by simp [h1], fun i z hz => ?_⟩
      rcases Nat.lt_or_ge i l.length with hi | hi
      · rw [List.getElem?_append_left hi] at hz; exact h2 i z hz
      · have e : i = k := by have := (List.getElem?_eq_some_iff.1 hz).1; simp at this; omega
        subst e
        rw [List.getElem?_append_right hi, h1] at hz
        simp at hz
        subst hz
        exact hy
  refine ⟨l, hl, fun y hy => ?_, fun h0 => ?_⟩
  · obtain ⟨i, hi⟩ := List.getElem?_of_mem hy
    exact (hx i y hi).1
  · obtain ⟨b, off, spot⟩ := x
    obtain ⟨y, hy⟩ : ∃ y, l[0]? = some y := ⟨_, List.getElem?_eq_getElem h0⟩
    have hc0 := (hx 0 y hy).2 0 hpos
    obtain ⟨v, hv⟩ : ∃ v, (cs y)[0]? = some v := ⟨_, List.getElem?_eq_getElem (by rw [hn]; exact hpos)⟩
    rw [hv] at hc0
    have hspot : spot = none := by simpa [Addr.add] using World.cell?_spot hc0
    subst hspot
    refine ⟨b, off, rfl, fun i y hy j v hv => ?_⟩
    have hj : j < n := by have := (List.getElem?_eq_some_iff.1 hv).1; rwa [hn] at this
    have := (hx i y hy).2 j hj
    rw [Addr.add_lit, hv, ← Nat.add_assoc] at this
    exact this

section
variable {H : Type} {enc : TypeId × Value → H} {W : World} {base : Nat} {held : Bool}
theorem int_of {n : Nat} {v : Value} {x : Option (DataW H × List MemPlace)} (h : DataW.trod enc Try.prog W base (fun _ => true) held n 3 [v] = x) (hx : x.isSome = true) : ∃ a : Int, v = .int .i64 a := by
  obtain ⟨y, rfl⟩ := Option.isSome_iff_exists.1 hx
  obtain ⟨a, e, -, -⟩ := DataW.trod_int Try.underlying3 h
  exact ⟨a, by simpa using e⟩
theorem act_of {n : Nat} {v0 v1 v2 : Value} {x : Option (DataW H × List MemPlace)} (h : DataW.trod enc Try.prog W base (fun _ => true) held n 32 [v0, v1, v2] = x) (hx : x.isSome = true) : ∃ p : Ac, [v0, v1, v2] = aC p := by
  obtain ⟨y, rfl⟩ := Option.isSome_iff_exists.1 hx
  obtain ⟨xs, m, -, -, -, hl, hf⟩ := DataW.trod_struct Try.underlying32 h
  have hs : ∀ i, i < 3 → (xs[i]?).isSome = true := fun i hi => by rw [List.getElem?_eq_getElem (by rw [hl]; exact hi)]; rfl
  obtain ⟨a, rfl⟩ := int_of (v := v0) (by simpa [c3] using hf 0 _ rfl) (hs 0 (by omega))
  obtain ⟨b, rfl⟩ := int_of (v := v1) (by simpa [c3] using hf 1 _ rfl) (hs 1 (by omega))
  obtain ⟨c, rfl⟩ := int_of (v := v2) (by simpa [c3] using hf 2 _ rfl) (hs 2 (by omega))
  exact ⟨(a, b, c), rfl⟩
theorem acts_of {n : Nat} {v : Value} {x : Option (DataW H × List MemPlace)} (h : DataW.trod enc Try.prog W base (fun _ => true) held n 22 [v] = x) (hx : x.isSome = true) : ∃ (l : List Ac) (ao : Option Addr) (cap : Nat), v = .slice ao l.length cap ∧ RowA W ao l ∧ l.length ≤ cap ∧ cap ≤ 9223372036854775807 := by
  obtain ⟨y, rfl⟩ := Option.isSome_iff_exists.1 hx
  rcases Go.Deep.open_slice Try.underlying22 h with ⟨e, -⟩ | ⟨a, len, cap, m, k, D, Pl, e, -, hl, hm, hmm, -, hx⟩
  · exact ⟨[], none, 0, by simpa using e, RowS.nil _ _, by simp, by omega⟩
  · have hlm : len ≤ m := by rw [hmm]; split <;> omega
    obtain ⟨l, h1, -, h3⟩ := rowS_of (n := 3) (cs := aC) (Q := fun _ => True) (by decide) aC_len (w := W) (x := a) (len := len) (fun i hi => by
      obtain ⟨cs', g1, g2⟩ := hx i (by omega)
      rw [cAc] at g1
      obtain ⟨-, hlen, hcell⟩ := World.cells?_some g1
      match cs', hlen with
      | [v0, v1, v2], _ =>
        obtain ⟨p, hp⟩ := act_of g2 rfl
        refine ⟨p, trivial, fun j hj => ?_⟩
        have := hcell j hj
        rw [Go.Deep.add_add, hp] at this
        exact this)
    exact ⟨l, some a, cap, by rw [h1]; simpa using e, h3, by omega, by unfold maxLen at hm; omega⟩
theorem open_acts {r : Reach} {b0 : Nat} {v : Value} {d : DataW H} {p : List MemPlace} (hv : Value.okWide Try.prog W r b0 22 v) (h : DataW.Trod enc Try.prog W base (fun _ => true) held 22 v d p) :
    ∃ (l : List Ac) (ao : Option Addr) (cap : Nat), v = .slice ao l.length cap ∧ RowA W ao l ∧ l.length ≤ cap ∧ cap ≤ 9223372036854775807 := by
  obtain ⟨a, n, c, rfl⟩ := okWide_slice Try.underlying22 hv
  obtain ⟨fuel, hf⟩ := h
  exact acts_of (by simpa [Value.cells] using hf) rfl

end
end Go.Proofs.Yteaempemdolcjaa.Nop
