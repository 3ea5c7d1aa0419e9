/-
  Acts that come in as data: their parts.
-/
import Derived.Test.YtcpmaddleleblaaDoorGpO
import Derived.Test.YtcpmaddleleblaaDoorGpSt
namespace Go.Proofs.YtcpmaddleleblaaDoor.Go3
open Go.RowKit Kt Gf Gp Gr Gk Gm Gst Go2 Go.ChangeShapes Go.WideShapes Go.ChangeMaps
set_option linter.unusedVariables false
set_option maxRecDepth 20000

theorem cAct : Tryd.prog.cellsOf 53 = 6 := by kernel_rfl

section
variable {H : Type} {enc : TypeId × Value → H} {W : World} {base : Nat} {held : Bool}
theorem act_of {n : Nat} {v0 v1 v2 v3 v4 v5 : Value} {x : Option (DataW H × List MemPlace)} (h : DataW.trod enc Tryd.prog W base (fun _ => true) held n 53 [v0, v1, v2, v3, v4, v5] = x) (hx : x.isSome = true) : ∃ m : A, [v0, v1, v2, v3, v4, v5] = aC m := by
  obtain ⟨y, rfl⟩ := Option.isSome_iff_exists.1 hx
  obtain ⟨xs, m, -, -, -, hl, hf⟩ := DataW.trod_struct Tryd.underlying53 h
  have hs : ∀ i, i < 6 → (xs[i]?).isSome = true := fun i hi => by rw [List.getElem?_eq_getElem (by rw [hl]; exact hi)]; rfl
  obtain ⟨a0, rfl⟩ := int_of (v := v0) (by simpa [cI] using hf 0 _ rfl) (hs 0 (by omega))
  obtain ⟨a1, rfl⟩ := int_of (v := v1) (by simpa [cI] using hf 1 _ rfl) (hs 1 (by omega))
  obtain ⟨a2, rfl⟩ := int_of (v := v2) (by simpa [cI] using hf 2 _ rfl) (hs 2 (by omega))
  obtain ⟨a3, rfl⟩ := int_of (v := v3) (by simpa [cI] using hf 3 _ rfl) (hs 3 (by omega))
  obtain ⟨s4, rfl⟩ := str_of (v := v4) (by simpa [cS] using hf 4 _ rfl) (hs 4 (by omega))
  obtain ⟨s5, rfl⟩ := str_of (v := v5) (by simpa [cS] using hf 5 _ rfl) (hs 5 (by omega))
  exact ⟨⟨a0, a1, a2, a3, s4, s5⟩, rfl⟩
theorem acts_of {n : Nat} {v : Value} {x : Option (DataW H × List MemPlace)} (h : DataW.trod enc Tryd.prog W base (fun _ => true) held n 48 [v] = x) (hx : x.isSome = true) : ∃ (l : List A) (ao : Option Addr) (cap : Nat), v = .slice ao l.length cap ∧ RowA W ao l ∧ l.length ≤ 9223372036854775807 := by
  obtain ⟨y, rfl⟩ := Option.isSome_iff_exists.1 hx
  rcases Go.Deep.open_slice Tryd.underlying48 h with ⟨e, -⟩ | ⟨a, len, cap, m, k, D, Pl, e, -, hl, hm, hmm, -, hx⟩
  · exact ⟨[], none, 0, by simpa using e, RowS.nil _ _, by simp⟩
  · have hlm : len ≤ m := by rw [hmm]; split <;> omega
    obtain ⟨l, h1, h3⟩ := rowS_of (n := 6) (cs := aC) (by decide) aC_len (w := W) (x := a) (len := len) (fun i hi => by
      obtain ⟨cs', g1, g2⟩ := hx i (by omega)
      rw [cAct] at g1
      obtain ⟨-, hlen, hcell⟩ := World.cells?_some g1
      match cs', hlen with
      | [v0, v1, v2, v3, v4, v5], _ =>
        obtain ⟨p, hp⟩ := act_of g2 rfl
        refine ⟨p, fun j hj => ?_⟩
        have := hcell j hj
        rw [Go.Deep.add_add, hp] at this
        exact this)
    exact ⟨l, some a, cap, by rw [h1]; simpa using e, h3, by unfold maxLen at hm; omega⟩
theorem open_acts {r : Reach} {b0 : Nat} {v : Value} {d : DataW H} {p : List MemPlace} (hv : Value.okWide Tryd.prog W r b0 48 v) (h : DataW.Trod enc Tryd.prog W base (fun _ => true) held 48 v d p) :
    ∃ (l : List A) (ao : Option Addr) (cap : Nat), v = .slice ao l.length cap ∧ RowA W ao l ∧ l.length ≤ 9223372036854775807 := by
  obtain ⟨a, n, c, rfl⟩ := okWide_slice Tryd.underlying48 hv
  obtain ⟨fuel, hf⟩ := h
  exact acts_of (by simpa [Value.cells] using hf) rfl
end
end Go.Proofs.YtcpmaddleleblaaDoor.Go3
