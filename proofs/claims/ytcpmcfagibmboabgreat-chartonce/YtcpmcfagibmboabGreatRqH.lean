/-
  WiH ChO ChOc, joined by mrg.py.
-/
import Derived.Test.YtcpmcfagibmboabGreatRqF
import Derived.Test.YtcpmcfagibmboabGreatRqG
import Derived.OpenShut
import Derived.SliceStrings
import Derived.ChangeOld
import Derived.WideShapes
import Derived.ProofKit
import Derived.Test.YtcpmcfagibmboabGreatChR
import Derived.Deep.Slices

namespace Go.Proofs.YtcpmcfagibmboabGreat.Wh
open Go.RowKit Kt Pl Wi Wk Wfw Go.ChangeShapes Go.WideShapes Go.ChangeMaps
open At (RowT)
set_option linter.unusedVariables false
set_option maxRecDepth 20000

theorem arr19 {α : Type} {cs : Array α} (h : cs.size = 19) : ∃ a0 a1 a2 a3 a4 a5 a6 a7 a8 a9 a10 a11 a12 a13 a14 a15 a16 a17 a18, cs = #[a0, a1, a2, a3, a4, a5, a6, a7, a8, a9, a10, a11, a12, a13, a14, a15, a16, a17, a18] := by
  obtain ⟨l⟩ := cs
  match l, h with
  | [a0, a1, a2, a3, a4, a5, a6, a7, a8, a9, a10, a11, a12, a13, a14, a15, a16, a17, a18], _ => exact ⟨_, _, _, _, _, _, _, _, _, _, _, _, _, _, _, _, _, _, _, rfl⟩
theorem c3 : Tryz.prog.cellsOf 3 = 1 := by kernel_rfl
theorem c9 : Tryz.prog.cellsOf 9 = 1 := by kernel_rfl
theorem c23 : Tryz.prog.cellsOf 28 = 4 := by kernel_rfl
theorem c25 : Tryz.prog.cellsOf 30 = 2 := by kernel_rfl
theorem c26 : Tryz.prog.cellsOf 31 = 1 := by kernel_rfl
theorem c28 : Tryz.prog.cellsOf 33 = 19 := by kernel_rfl

section
variable {H : Type} {enc : TypeId × Value → H} {W : World} {base : Nat} {held : Bool}
theorem int_of {n : Nat} {v : Value} {x : Option (DataW H × List MemPlace)} (h : DataW.trod enc Tryz.prog W base (fun _ => true) held n 3 [v] = x) (hx : x.isSome = true) : ∃ a : Int, v = .int .i64 a := by
  obtain ⟨y, rfl⟩ := Option.isSome_iff_exists.1 hx
  obtain ⟨a, e, -, -⟩ := DataW.trod_int Tryz.underlying3 h
  exact ⟨a, by simpa using e⟩
theorem str_of {n : Nat} {v : Value} {x : Option (DataW H × List MemPlace)} (h : DataW.trod enc Tryz.prog W base (fun _ => true) held n 9 [v] = x) (hx : x.isSome = true) : ∃ s : Bs, v = .string (S s) ∧ s.length ≤ 9223372036854775807 := by
  obtain ⟨y, rfl⟩ := Option.isSome_iff_exists.1 hx
  obtain ⟨s, e, -, hs⟩ := DataW.trod_string Tryz.underlying9 h
  refine ⟨s.data.toList, ?_, ?_⟩
  · have : S s.data.toList = s := by cases s; rfl
    rw [this]; simpa using e
  · unfold maxLen at hs
    have : s.data.toList.length = s.size := rfl
    omega
theorem strs_of {n : Nat} {v : Value} {x : Option (DataW H × List MemPlace)} (h : DataW.trod enc Tryz.prog W base (fun _ => true) held n 31 [v] = x) (hx : x.isSome = true) : ∃ (l : List Bs) (ao : Option Addr) (cap : Nat), v = .slice ao l.length cap ∧ RowT W ao l ∧ l.length ≤ 9223372036854775807 := by
  obtain ⟨y, rfl⟩ := Option.isSome_iff_exists.1 hx
  rcases open_strings Tryz.underlying31 Tryz.underlying9 c9 h with ⟨e, -⟩ | ⟨a, len, cap, ss, e, -, hl, hm, hz, -, hc, hs⟩
  · exact ⟨[], none, 0, by simpa using e, fun h => by simp at h, by simp⟩
  · obtain ⟨l, h1, h2, h3, h4⟩ := isStrs_texts (w := W) (a := some a) (len := len) (cap := cap) (zs := ss) (.inr ⟨a, rfl, hl, hm, by simpa using hz, hc, hs⟩)
    exact ⟨l, some a, cap, by rw [h1]; simpa using e, h4, by omega⟩
theorem rcp_of {n : Nat} {v0 v1 v2 v3 : Value} {x : Option (DataW H × List MemPlace)} (h : DataW.trod enc Tryz.prog W base (fun _ => true) held n 28 [v0, v1, v2, v3] = x) (hx : x.isSome = true) :
    ∃ r : Rcp, v0 = .int .i64 r.q ∧ v1 = .string (S r.g) ∧ v2 = .int .i64 r.s ∧ v3 = .int .i64 r.c ∧ r.g.length ≤ 9223372036854775807 := by
  obtain ⟨y, rfl⟩ := Option.isSome_iff_exists.1 hx
  obtain ⟨xs, m, -, -, -, hl, hf⟩ := DataW.trod_struct Tryz.underlying28 h
  have hs : ∀ i, i < 4 → (xs[i]?).isSome = true := fun i hi => by rw [List.getElem?_eq_getElem (by rw [hl]; exact hi)]; rfl
  obtain ⟨a0, e0⟩ := int_of (v := v0) (by simpa [c3] using hf 0 _ rfl) (hs 0 (by omega))
  obtain ⟨a1, e1, l1⟩ := str_of (v := v1) (by simpa [c9] using hf 1 _ rfl) (hs 1 (by omega))
  obtain ⟨a2, e2⟩ := int_of (v := v2) (by simpa [c3] using hf 2 _ rfl) (hs 2 (by omega))
  obtain ⟨a3, e3⟩ := int_of (v := v3) (by simpa [c3] using hf 3 _ rfl) (hs 3 (by omega))
  exact ⟨⟨a0, a1, a2, a3⟩, e0, e1, e2, e3, l1⟩
theorem rg_of {n : Nat} {v0 v1 : Value} {x : Option (DataW H × List MemPlace)} (h : DataW.trod enc Tryz.prog W base (fun _ => true) held n 30 [v0, v1] = x) (hx : x.isSome = true) :
    ∃ a b : Int, v0 = .int .i64 a ∧ v1 = .int .i64 b := by
  obtain ⟨y, rfl⟩ := Option.isSome_iff_exists.1 hx
  obtain ⟨xs, m, -, -, -, hl, hf⟩ := DataW.trod_struct Tryz.underlying30 h
  have hs : ∀ i, i < 2 → (xs[i]?).isSome = true := fun i hi => by rw [List.getElem?_eq_getElem (by rw [hl]; exact hi)]; rfl
  obtain ⟨a0, e0⟩ := int_of (v := v0) (by simpa [c3] using hf 0 _ rfl) (hs 0 (by omega))
  obtain ⟨a1, e1⟩ := int_of (v := v1) (by simpa [c3] using hf 1 _ rfl) (hs 1 (by omega))
  exact ⟨a0, a1, e0, e1⟩

set_option maxHeartbeats 2000000 in
theorem open_cmd {r : Reach} {b0 : Nat} {v : Value} {d : DataW H} {p : List MemPlace} (hv : Value.okWide Tryz.prog W r b0 33 v) (h : DataW.Trod enc Tryz.prog W base (fun _ => true) held 33 v d p) :
    ∃ (c : Cm) (ao : Option Addr) (cap : Nat), v = .agg (Cv c (.slice ao c.data.length cap)) ∧ RowT W ao c.data ∧ Fit63 c := by
  obtain ⟨cs, rfl, hsz⟩ := okWide_struct Tryz.underlying33 hv
  obtain ⟨a0, a1, a2, a3, a4, a5, a6, a7, a8, a9, a10, a11, a12, a13, a14, a15, a16, a17, a18, rfl⟩ := arr19 (hsz.trans c28)
  obtain ⟨fuel, hf0⟩ := h
  obtain ⟨xs, m, -, -, -, hl, hf⟩ := DataW.trod_struct Tryz.underlying33 hf0
  have hs : ∀ i, i < 15 → (xs[i]?).isSome = true := fun i hi => by rw [List.getElem?_eq_getElem (by rw [hl]; exact hi)]; rfl
  clear hf0 hsz hv
  obtain ⟨n0, rfl⟩ := int_of (v := a0) (by simpa [c3, Value.cells] using hf 0 _ rfl) (hs 0 (by omega))
  obtain ⟨n1, rfl⟩ := int_of (v := a1) (by simpa [c3, Value.cells] using hf 1 _ rfl) (hs 1 (by omega))
  obtain ⟨n2, rfl⟩ := int_of (v := a2) (by simpa [c3, Value.cells] using hf 2 _ rfl) (hs 2 (by omega))
  obtain ⟨n3, rfl⟩ := int_of (v := a3) (by simpa [c3, Value.cells] using hf 3 _ rfl) (hs 3 (by omega))
  obtain ⟨n4, rfl⟩ := int_of (v := a4) (by simpa [c3, Value.cells] using hf 4 _ rfl) (hs 4 (by omega))
  obtain ⟨s5, rfl, l5⟩ := str_of (v := a5) (by simpa [c9, Value.cells] using hf 5 _ rfl) (hs 5 (by omega))
  obtain ⟨s6, rfl, l6⟩ := str_of (v := a6) (by simpa [c9, Value.cells] using hf 6 _ rfl) (hs 6 (by omega))
  obtain ⟨s7, rfl, l7⟩ := str_of (v := a7) (by simpa [c9, Value.cells] using hf 7 _ rfl) (hs 7 (by omega))
  obtain ⟨s8, rfl, l8⟩ := str_of (v := a8) (by simpa [c9, Value.cells] using hf 8 _ rfl) (hs 8 (by omega))
  obtain ⟨n9, rfl⟩ := int_of (v := a9) (by simpa [c3, Value.cells] using hf 9 _ rfl) (hs 9 (by omega))
  obtain ⟨n10, rfl⟩ := int_of (v := a10) (by simpa [c3, Value.cells] using hf 10 _ rfl) (hs 10 (by omega))
  obtain ⟨r, rfl, rfl, rfl, rfl, lr⟩ := rcp_of (v0 := a11) (v1 := a12) (v2 := a13) (v3 := a14) (by simpa [c23, Value.cells] using hf 11 _ rfl) (hs 11 (by omega))
  obtain ⟨lo, hi, rfl, rfl⟩ := rg_of (v0 := a15) (v1 := a16) (by simpa [c25, Value.cells] using hf 12 _ rfl) (hs 12 (by omega))
  obtain ⟨n13, rfl⟩ := int_of (v := a17) (by simpa [c3, Value.cells] using hf 13 _ rfl) (hs 13 (by omega))
  obtain ⟨l, ao, cap, rfl, hr, ll⟩ := strs_of (v := a18) (by simpa [c26, Value.cells] using hf 14 _ rfl) (hs 14 (by omega))
  exact ⟨⟨n0, n1, n2, n3, n4, s5, s6, s7, s8, n9, n10, r, lo, hi, n13, l⟩, ao, cap, rfl, hr, l5, l6, l7, l8, lr, ll⟩
end
end Go.Proofs.YtcpmcfagibmboabGreat.Wh

namespace Go.Proofs.YtcpmcfagibmboabGreat.Co
open Go.RowKit Kt Pl Cp Go.ChangeShapes Go.WideShapes Go.ChangeMaps
open Cr hiding some_of lt_of
set_option linter.unusedVariables false
set_option linter.unusedSimpArgs false
set_option maxRecDepth 20000

theorem c3 : Tryz.prog.cellsOf 3 = 1 := by kernel_rfl
theorem c25 : Tryz.prog.cellsOf 30 = 2 := by kernel_rfl
theorem c63 : Tryz.prog.cellsOf 87 = 3 := by kernel_rfl
theorem c22 : Tryz.prog.cellsOf 49 = 1 := by kernel_rfl
theorem c24 : Tryz.prog.cellsOf 51 = 2 := by kernel_rfl

theorem rowS_of {α : Type} {n : Nat} {cs : α → List Value} (hpos : 0 < n) (hn : ∀ x, (cs x).length = n) {w : World} {x : Addr} {len : Nat} {Q : α → Prop}
    (h : ∀ i, i < len → ∃ y, Q y ∧ ∀ j, j < n → w.cell? (x.add (i * n + j)) = (cs y)[j]?) : ∃ l : List α, l.length = len ∧ (∀ y ∈ l, Q y) ∧ RowS n cs w (some x) l := by
  obtain ⟨l, hl, hx⟩ : ∃ l : List α, l.length = len ∧ ∀ i y, l[i]? = some y → Q y ∧ ∀ j, j < n → w.cell? (x.add (i * n + j)) = (cs y)[j]? := by
    induction len with
    | zero => exact ⟨[], rfl, fun i y h => by simp at h⟩
    | succ k ih =>
      obtain ⟨l, h1, h2⟩ := ih (fun i hi => h i (by omega))
      obtain ⟨y, hy⟩ := h k (by omega)
      refine ⟨l ++ [y], by simp [h1], fun i z hz => ?_⟩
      rcases Nat.lt_or_ge i l.length with hi | hi
      · rw [List.getElem?_append_left hi] at hz; exact h2 i z hz
      · have e : i = k := by have := Cr.lt_of hz; simp at this; omega
        subst e
        rw [List.getElem?_append_right hi, h1] at hz
        simp at hz
        subst hz
        exact hy
  refine ⟨l, hl, fun y hy => ?_, fun h0 => ?_⟩
  · obtain ⟨i, hi⟩ := List.getElem?_of_mem hy
    exact (hx i y hi).1
  · obtain ⟨b, off, spot⟩ := x
    obtain ⟨y, hy⟩ := Cr.some_of h0
    have hc0 := (hx 0 y hy).2 0 hpos
    obtain ⟨v, hv⟩ := Cr.some_of (l := cs y) (i := 0) (by rw [hn]; exact hpos)
    rw [hv] at hc0
    have hspot : spot = none := by simpa [Addr.add] using World.cell?_spot hc0
    subst hspot
    refine ⟨b, off, rfl, fun i y hy j v hv => ?_⟩
    have hj : j < n := by have := Cr.lt_of hv; rwa [hn] at this
    have := (hx i y hy).2 j hj
    rw [Addr.add_lit, hv, ← Nat.add_assoc] at this
    exact this

section
variable {H : Type} {enc : TypeId × Value → H} {W : World} {base : Nat} {held : Bool}
theorem int_of {n : Nat} {v : Value} {x : Option (DataW H × List MemPlace)} (h : DataW.trod enc Tryz.prog W base (fun _ => true) held n 3 [v] = x) (hx : x.isSome = true) : ∃ a : Int, v = .int .i64 a := by
  obtain ⟨y, rfl⟩ := Option.isSome_iff_exists.1 hx
  obtain ⟨a, e, -, -⟩ := DataW.trod_int Tryz.underlying3 h
  exact ⟨a, by simpa using e⟩
theorem rg_of {n : Nat} {v0 v1 : Value} {x : Option (DataW H × List MemPlace)} (h : DataW.trod enc Tryz.prog W base (fun _ => true) held n 30 [v0, v1] = x) (hx : x.isSome = true) :
    ∃ a b : Int, v0 = .int .i64 a ∧ v1 = .int .i64 b := by
  obtain ⟨y, rfl⟩ := Option.isSome_iff_exists.1 hx
  obtain ⟨xs, m, -, -, -, hl, hf⟩ := DataW.trod_struct Tryz.underlying30 h
  have hs : ∀ i, i < 2 → (xs[i]?).isSome = true := fun i hi => by rw [List.getElem?_eq_getElem (by rw [hl]; exact hi)]; rfl
  obtain ⟨a0, e0⟩ := int_of (v := v0) (by simpa [c3] using hf 0 _ rfl) (hs 0 (by omega))
  obtain ⟨a1, e1⟩ := int_of (v := v1) (by simpa [c3] using hf 1 _ rfl) (hs 1 (by omega))
  exact ⟨a0, a1, e0, e1⟩
theorem piece_of {n : Nat} {v0 v1 v2 : Value} {x : Option (DataW H × List MemPlace)} (h : DataW.trod enc Tryz.prog W base (fun _ => true) held n 87 [v0, v1, v2] = x) (hx : x.isSome = true) : ∃ p : Pc, [v0, v1, v2] = pC p := by
  obtain ⟨y, rfl⟩ := Option.isSome_iff_exists.1 hx
  obtain ⟨xs, m, -, -, -, hl, hf⟩ := DataW.trod_struct Tryz.underlying87 h
  have hs : ∀ i, i < 2 → (xs[i]?).isSome = true := fun i hi => by rw [List.getElem?_eq_getElem (by rw [hl]; exact hi)]; rfl
  obtain ⟨a, b, rfl, rfl⟩ := rg_of (v0 := v0) (v1 := v1) (by simpa [c25] using hf 0 _ rfl) (hs 0 (by omega))
  obtain ⟨c, rfl⟩ := int_of (v := v2) (by simpa [c3] using hf 1 _ rfl) (hs 1 (by omega))
  exact ⟨(a, b, c), rfl⟩
theorem pieces_of {n : Nat} {v : Value} {x : Option (DataW H × List MemPlace)} (h : DataW.trod enc Tryz.prog W base (fun _ => true) held n 49 [v] = x) (hx : x.isSome = true) : ∃ (l : List Pc) (ao : Option Addr) (cap : Nat), v = .slice ao l.length cap ∧ RowP W ao l ∧ l.length ≤ cap ∧ cap ≤ 9223372036854775807 := by
  obtain ⟨y, rfl⟩ := Option.isSome_iff_exists.1 hx
  rcases Go.Deep.open_slice Tryz.underlying49 h with ⟨e, -⟩ | ⟨a, len, cap, m, k, D, Pl, e, -, hl, hm, hmm, -, hx⟩
  · exact ⟨[], none, 0, by simpa using e, RowS.nil _ _, by simp, by omega⟩
  · have hlm : len ≤ m := by rw [hmm]; split <;> omega
    obtain ⟨l, h1, -, h3⟩ := rowS_of (n := 3) (cs := pC) (Q := fun _ => True) (by decide) pC_len (w := W) (x := a) (len := len) (fun i hi => by
      obtain ⟨cs', g1, g2⟩ := hx i (by omega)
      rw [c63] at g1
      obtain ⟨-, hlen, hcell⟩ := World.cells?_some g1
      match cs', hlen with
      | [v0, v1, v2], _ =>
        obtain ⟨p, hp⟩ := piece_of g2 rfl
        refine ⟨p, trivial, fun j hj => ?_⟩
        have := hcell j hj
        rw [Go.Deep.add_add, hp] at this
        exact this)
    exact ⟨l, some a, cap, by rw [h1]; simpa using e, h3, by omega, by unfold maxLen at hm; omega⟩
theorem chart_of {n : Nat} {v0 v1 : Value} {x : Option (DataW H × List MemPlace)} (h : DataW.trod enc Tryz.prog W base (fun _ => true) held n 51 [v0, v1] = x) (hx : x.isSome = true) :
    ∃ (e : Int) (ps : List Pc) (ao : Option Addr) (cap : Nat), v0 = .int .i64 e ∧ v1 = .slice ao ps.length cap ∧ RdP W ao cap ps := by
  obtain ⟨y, rfl⟩ := Option.isSome_iff_exists.1 hx
  obtain ⟨xs, m, -, -, -, hl, hf⟩ := DataW.trod_struct Tryz.underlying51 h
  have hs : ∀ i, i < 2 → (xs[i]?).isSome = true := fun i hi => by rw [List.getElem?_eq_getElem (by rw [hl]; exact hi)]; rfl
  obtain ⟨e, rfl⟩ := int_of (v := v0) (by simpa [c3] using hf 0 _ rfl) (hs 0 (by omega))
  obtain ⟨ps, ao, cap, rfl, h1, h2, h3⟩ := pieces_of (v := v1) (by simpa [c22] using hf 1 _ rfl) (hs 1 (by omega))
  exact ⟨e, ps, ao, cap, rfl, rfl, h1, h2, h3⟩
theorem arr2 {α : Type} {cs : Array α} (h : cs.size = 2) : ∃ a0 a1, cs = #[a0, a1] := by
  obtain ⟨l⟩ := cs
  match l, h with
  | [a0, a1], _ => exact ⟨_, _, rfl⟩
theorem open_chart {r : Reach} {b0 : Nat} {v : Value} {d : DataW H} {p : List MemPlace} (hv : Value.okWide Tryz.prog W r b0 51 v) (h : DataW.Trod enc Tryz.prog W base (fun _ => true) held 51 v d p) :
    ∃ (e : Int) (ps : List Pc) (ao : Option Addr) (cap : Nat), v = .agg #[.int .i64 e, .slice ao ps.length cap] ∧ RdP W ao cap ps := by
  obtain ⟨cs, rfl, hsz⟩ := okWide_struct Tryz.underlying51 hv
  obtain ⟨a0, a1, rfl⟩ := arr2 (hsz.trans c24)
  obtain ⟨fuel, hf0⟩ := h
  obtain ⟨e, ps, ao, cap, rfl, rfl, hr⟩ := chart_of (v0 := a0) (v1 := a1) (by simpa [Value.cells] using hf0) rfl
  exact ⟨e, ps, ao, cap, rfl, hr⟩

end
end Go.Proofs.YtcpmcfagibmboabGreat.Co

namespace Go.Proofs.YtcpmcfagibmboabGreat.Oc
open Go.RowKit Kt Pl Wi Wk Go.ChangeShapes Go.WideShapes Go.ChangeMaps
open Wh (int_of str_of rcp_of rg_of strs_of c3 c9 c23 c25 c26 c28)
open Cr (RowS)
open Oa (cC cC_len)
open Co (rowS_of)
set_option linter.unusedVariables false
set_option linter.unusedSimpArgs false
set_option maxRecDepth 20000
section
variable {H : Type} {enc : TypeId × Value → H} {W : World} {base : Nat} {held : Bool}
set_option maxHeartbeats 2000000 in
theorem cmd_of {n : Nat} {a0 a1 a2 a3 a4 a5 a6 a7 a8 a9 a10 a11 a12 a13 a14 a15 a16 a17 a18 : Value} {x : Option (DataW H × List MemPlace)} (h : DataW.trod enc Tryz.prog W base (fun _ => true) held n 33 [a0, a1, a2, a3, a4, a5, a6, a7, a8, a9, a10, a11, a12, a13, a14, a15, a16, a17, a18] = x) (hx : x.isSome = true) : ∃ y : Cm × Value, (∃ a k c, y.2 = .slice a k c) ∧ [a0, a1, a2, a3, a4, a5, a6, a7, a8, a9, a10, a11, a12, a13, a14, a15, a16, a17, a18] = cC y := by
  obtain ⟨y, rfl⟩ := Option.isSome_iff_exists.1 hx
  obtain ⟨xs, m, -, -, -, hl, hf⟩ := DataW.trod_struct Tryz.underlying33 h
  have hs : ∀ i, i < 15 → (xs[i]?).isSome = true := fun i hi => by rw [List.getElem?_eq_getElem (by rw [hl]; exact hi)]; rfl
  obtain ⟨n0, rfl⟩ := int_of (v := a0) (by simpa [c3, Value.cells] using hf 0 _ rfl) (hs 0 (by omega))
  obtain ⟨n1, rfl⟩ := int_of (v := a1) (by simpa [c3, Value.cells] using hf 1 _ rfl) (hs 1 (by omega))
  obtain ⟨n2, rfl⟩ := int_of (v := a2) (by simpa [c3, Value.cells] using hf 2 _ rfl) (hs 2 (by omega))
  obtain ⟨n3, rfl⟩ := int_of (v := a3) (by simpa [c3, Value.cells] using hf 3 _ rfl) (hs 3 (by omega))
  obtain ⟨n4, rfl⟩ := int_of (v := a4) (by simpa [c3, Value.cells] using hf 4 _ rfl) (hs 4 (by omega))
  obtain ⟨s5, rfl, l5⟩ := str_of (v := a5) (by simpa [c9, Value.cells] using hf 5 _ rfl) (hs 5 (by omega))
  obtain ⟨s6, rfl, l6⟩ := str_of (v := a6) (by simpa [c9, Value.cells] using hf 6 _ rfl) (hs 6 (by omega))
  obtain ⟨s7, rfl, l7⟩ := str_of (v := a7) (by simpa [c9, Value.cells] using hf 7 _ rfl) (hs 7 (by omega))
  obtain ⟨s8, rfl, l8⟩ := str_of (v := a8) (by simpa [c9, Value.cells] using hf 8 _ rfl) (hs 8 (by omega))
  obtain ⟨n9, rfl⟩ := int_of (v := a9) (by simpa [c3, Value.cells] using hf 9 _ rfl) (hs 9 (by omega))
  obtain ⟨n10, rfl⟩ := int_of (v := a10) (by simpa [c3, Value.cells] using hf 10 _ rfl) (hs 10 (by omega))
  obtain ⟨r, rfl, rfl, rfl, rfl, lr⟩ := rcp_of (v0 := a11) (v1 := a12) (v2 := a13) (v3 := a14) (by simpa [c23, Value.cells] using hf 11 _ rfl) (hs 11 (by omega))
  obtain ⟨lo, hi, rfl, rfl⟩ := rg_of (v0 := a15) (v1 := a16) (by simpa [c25, Value.cells] using hf 12 _ rfl) (hs 12 (by omega))
  obtain ⟨n13, rfl⟩ := int_of (v := a17) (by simpa [c3, Value.cells] using hf 13 _ rfl) (hs 13 (by omega))
  obtain ⟨l, ao, cap, rfl, hr, ll⟩ := strs_of (v := a18) (by simpa [c26, Value.cells] using hf 14 _ rfl) (hs 14 (by omega))
  exact ⟨(⟨n0, n1, n2, n3, n4, s5, s6, s7, s8, n9, n10, r, lo, hi, n13, l⟩, .slice ao l.length cap), ⟨_, _, _, rfl⟩, rfl⟩
theorem cmds_of {n : Nat} {v : Value} {x : Option (DataW H × List MemPlace)} (h : DataW.trod enc Tryz.prog W base (fun _ => true) held n 22 [v] = x) (hx : x.isSome = true) : ∃ (l : List (Cm × Value)) (ao : Option Addr) (cap : Nat), v = .slice ao l.length cap ∧ RowS 19 cC W ao l ∧ l.length ≤ cap ∧ cap ≤ 9223372036854775807 ∧ ∀ y ∈ l, ∃ a k c, y.2 = .slice a k c := by
  obtain ⟨y, rfl⟩ := Option.isSome_iff_exists.1 hx
  rcases Go.Deep.open_slice Tryz.underlying22 h with ⟨e, -⟩ | ⟨a, len, cap, m, k, D, Pl, e, -, hl, hm, hmm, -, hx⟩
  · exact ⟨[], none, 0, by simpa using e, RowS.nil _ _, by simp, by omega, by simp⟩
  · have hlm : len ≤ m := by rw [hmm]; split <;> omega
    obtain ⟨l, h1, h2, h3⟩ := rowS_of (n := 19) (cs := cC) (Q := fun y => ∃ a k c, y.2 = .slice a k c) (by decide) cC_len (w := W) (x := a) (len := len) (fun i hi => by
      obtain ⟨cs', g1, g2⟩ := hx i (by omega)
      rw [c28] at g1
      obtain ⟨-, hlen, hcell⟩ := World.cells?_some g1
      match cs', hlen with
      | [a0, a1, a2, a3, a4, a5, a6, a7, a8, a9, a10, a11, a12, a13, a14, a15, a16, a17, a18], _ =>
        obtain ⟨p, hq, hp⟩ := cmd_of g2 rfl
        refine ⟨p, hq, fun j hj => ?_⟩
        have := hcell j hj
        rw [Go.Deep.add_add, hp] at this
        exact this)
    exact ⟨l, some a, cap, by rw [h1]; simpa using e, h3, by omega, by unfold maxLen at hm; omega, h2⟩
theorem open_cmds {r : Reach} {b0 : Nat} {v : Value} {d : DataW H} {p : List MemPlace} (hv : Value.okWide Tryz.prog W r b0 22 v) (h : DataW.Trod enc Tryz.prog W base (fun _ => true) held 22 v d p) :
    ∃ (l : List (Cm × Value)) (ao : Option Addr) (cap : Nat), v = .slice ao l.length cap ∧ RowS 19 cC W ao l ∧ l.length ≤ cap ∧ cap ≤ 9223372036854775807 ∧ ∀ y ∈ l, ∃ a k c, y.2 = .slice a k c := by
  obtain ⟨a, n, c, rfl⟩ := okWide_slice Tryz.underlying22 hv
  obtain ⟨fuel, hf⟩ := h
  exact cmds_of (by simpa [Value.cells] using hf) rfl
end
end Go.Proofs.YtcpmcfagibmboabGreat.Oc
