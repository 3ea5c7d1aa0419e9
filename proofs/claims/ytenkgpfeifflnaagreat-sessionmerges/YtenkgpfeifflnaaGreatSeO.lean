/-
  Calls that come in as data: their parts.
-/
import Derived.Test.YtenkgpfeifflnaaGreatSeL
import Derived.Test.YtenkgpfeifflnaaGreatKit3
import Derived.OpenShut
import Derived.SliceStrings
import Derived.ChangeOld
import Derived.WideShapes
import Derived.ProofKit
import Derived.Deep.Slices
namespace Go.Proofs.YtenkgpfeifflnaaGreat.So
open Go.RowKit Kt Pl Wi Wk Wa Wfr Sl Go.ChangeShapes Go.WideShapes Go.ChangeMaps
open At (RowT)
set_option linter.unusedVariables false
set_option maxRecDepth 20000

theorem c3 : Tryz.prog.cellsOf 3 = 1 := by kernel_rfl
theorem c9 : Tryz.prog.cellsOf 9 = 1 := by kernel_rfl
theorem c23 : Tryz.prog.cellsOf 41 = 4 := by kernel_rfl
theorem c25 : Tryz.prog.cellsOf 95 = 2 := by kernel_rfl
theorem c26 : Tryz.prog.cellsOf 29 = 1 := by kernel_rfl
theorem c40 : Tryz.prog.cellsOf 31 = 1 := by kernel_rfl
theorem c41 : Tryz.prog.cellsOf 32 = 1 := by kernel_rfl
theorem c73 : Tryz.prog.cellsOf 43 = 6 := by kernel_rfl
theorem c43 : Tryz.prog.cellsOf 34 = 6 := by kernel_rfl
theorem c31 : Tryz.prog.cellsOf 30 = 1 := by kernel_rfl
theorem rowS_of {α : Type} {n : Nat} {cs : α → List Value} (hpos : 0 < n) (hn : ∀ x, (cs x).length = n) {w : World} {x : Addr} {len : Nat} {Q : α → Prop}
    (h : ∀ i, i < len → ∃ y, Q y ∧ ∀ j, j < n → w.cell? (x.add (i * n + j)) = (cs y)[j]?) : ∃ l : List α, l.length = len ∧ (∀ y ∈ l, Q y) ∧ RowS n cs w (some x) l := by
  obtain ⟨l, hl, hx⟩ : ∃ l : List α, l.length = len ∧ ∀ i y, l[i]? = some y → Q y ∧ ∀ j, j < n → w.cell? (x.add (i * n + j)) = (cs y)[j]? := by
    induction len with
    | zero => exact ⟨[], rfl, fun i y h => by simp at h⟩
    | succ k ih =>
      obtain ⟨l, h1, h2⟩ := ih (fun i hi => h i (by omega))
      obtain ⟨y, hy⟩ := h k (by omega)
      refine ⟨l ++ [y], by simp [h1], fun i z hz => ?_⟩
      rcases Nat.lt_or_ge i l.length with hi | hi
      · rw [List.getElem?_append_left hi] at hz; exact h2 i z hz
      · have e : i = k := by have := lt_of hz; simp at this; omega
        subst e
        rw [List.getElem?_append_right hi, h1] at hz
        simp at hz
        subst hz
        exact hy
  refine ⟨l, hl, fun y hy => ?_, fun h0 => ?_⟩
  · obtain ⟨i, hi⟩ := List.getElem?_of_mem hy
    exact (hx i y hi).1
  · obtain ⟨b, off, spot⟩ := x
    obtain ⟨y, hy⟩ := some_of h0
    have hc0 := (hx 0 y hy).2 0 hpos
    obtain ⟨v, hv⟩ := some_of (l := cs y) (i := 0) (by rw [hn]; exact hpos)
    rw [hv] at hc0
    have hspot : spot = none := by simpa [Addr.add] using World.cell?_spot hc0
    subst hspot
    refine ⟨b, off, rfl, fun i y hy j v hv => ?_⟩
    have hj : j < n := by have := lt_of hv; rwa [hn] at this
    have := (hx i y hy).2 j hj
    rw [Addr.add_lit, hv, ← Nat.add_assoc] at this
    exact this
theorem cAct : Tryz.prog.cellsOf 36 = 10 := by kernel_rfl

section
variable {H : Type} {enc : TypeId × Value → H} {W : World} {base : Nat} {held : Bool}
theorem int_of {n : Nat} {v : Value} {x : Option (DataW H × List MemPlace)} (h : DataW.trod enc Tryz.prog W base (fun _ => true) held n 3 [v] = x) (hx : x.isSome = true) : ∃ a : Int, v = .int .i64 a := by
  obtain ⟨y, rfl⟩ := Option.isSome_iff_exists.1 hx
  obtain ⟨a, e, -, -⟩ := DataW.trod_int Tryz.underlying3 h
  exact ⟨a, by simpa using e⟩
theorem intB_of {n : Nat} {v : Value} {x : Option (DataW H × List MemPlace)} (h : DataW.trod enc Tryz.prog W base (fun _ => true) held n 3 [v] = x) (hx : x.isSome = true) : ∃ a : Int, v = .int .i64 a ∧ -9223372036854775808 ≤ a ∧ a ≤ 9223372036854775807 := by
  obtain ⟨y, rfl⟩ := Option.isSome_iff_exists.1 hx
  obtain ⟨a, e, h1, h2⟩ := DataW.trod_int Tryz.underlying3 h
  have := bounds_i64 h2
  exact ⟨a, by simpa using e, by omega, by omega⟩
theorem str_of {n : Nat} {v : Value} {x : Option (DataW H × List MemPlace)} (h : DataW.trod enc Tryz.prog W base (fun _ => true) held n 9 [v] = x) (hx : x.isSome = true) : ∃ s : Bs, v = .string (S s) ∧ s.length ≤ 9223372036854775807 := by
  obtain ⟨y, rfl⟩ := Option.isSome_iff_exists.1 hx
  obtain ⟨s, e, -, hs⟩ := DataW.trod_string Tryz.underlying9 h
  refine ⟨s.data.toList, ?_, ?_⟩
  · have : S s.data.toList = s := by cases s; rfl
    rw [this]; simpa using e
  · unfold maxLen at hs
    have : s.data.toList.length = s.size := rfl
    omega
theorem strs_of {n : Nat} {v : Value} {x : Option (DataW H × List MemPlace)} (h : DataW.trod enc Tryz.prog W base (fun _ => true) held n 29 [v] = x) (hx : x.isSome = true) : ∃ (l : List Bs) (ao : Option Addr) (cap : Nat), v = .slice ao l.length cap ∧ RowT W ao l ∧ l.length ≤ cap ∧ cap ≤ 9223372036854775807 := by
  obtain ⟨y, rfl⟩ := Option.isSome_iff_exists.1 hx
  rcases open_strings Tryz.underlying29 Tryz.underlying9 c9 h with ⟨e, -⟩ | ⟨a, len, cap, ss, e, -, hl, hm, hz, -, hc, hs⟩
  · exact ⟨[], none, 0, by simpa using e, fun h => by simp at h, by simp, by omega⟩
  · obtain ⟨l, h1, h2, h3, h4⟩ := isStrs_texts (w := W) (a := some a) (len := len) (cap := cap) (zs := ss) (.inr ⟨a, rfl, hl, hm, by simpa using hz, hc, hs⟩)
    exact ⟨l, some a, cap, by rw [h1]; simpa using e, h4, by omega, by unfold maxLen at hm; omega⟩
theorem rcp_of {n : Nat} {v0 v1 v2 v3 : Value} {x : Option (DataW H × List MemPlace)} (h : DataW.trod enc Tryz.prog W base (fun _ => true) held n 41 [v0, v1, v2, v3] = x) (hx : x.isSome = true) :
    ∃ r : Rcp, v0 = .int .i64 r.q ∧ v1 = .string (S r.g) ∧ v2 = .int .i64 r.s ∧ v3 = .int .i64 r.c ∧ r.g.length ≤ 9223372036854775807 := by
  obtain ⟨y, rfl⟩ := Option.isSome_iff_exists.1 hx
  obtain ⟨xs, m, -, -, -, hl, hf⟩ := DataW.trod_struct Tryz.underlying41 h
  have hs : ∀ i, i < 4 → (xs[i]?).isSome = true := fun i hi => by rw [List.getElem?_eq_getElem (by rw [hl]; exact hi)]; rfl
  obtain ⟨a0, e0⟩ := int_of (v := v0) (by simpa [c3] using hf 0 _ rfl) (hs 0 (by omega))
  obtain ⟨a1, e1, l1⟩ := str_of (v := v1) (by simpa [c9] using hf 1 _ rfl) (hs 1 (by omega))
  obtain ⟨a2, e2⟩ := int_of (v := v2) (by simpa [c3] using hf 2 _ rfl) (hs 2 (by omega))
  obtain ⟨a3, e3⟩ := int_of (v := v3) (by simpa [c3] using hf 3 _ rfl) (hs 3 (by omega))
  exact ⟨⟨a0, a1, a2, a3⟩, e0, e1, e2, e3, l1⟩
theorem rg_of {n : Nat} {v0 v1 : Value} {x : Option (DataW H × List MemPlace)} (h : DataW.trod enc Tryz.prog W base (fun _ => true) held n 95 [v0, v1] = x) (hx : x.isSome = true) :
    ∃ a b : Int, v0 = .int .i64 a ∧ v1 = .int .i64 b := by
  obtain ⟨y, rfl⟩ := Option.isSome_iff_exists.1 hx
  obtain ⟨xs, m, -, -, -, hl, hf⟩ := DataW.trod_struct Tryz.underlying95 h
  have hs : ∀ i, i < 2 → (xs[i]?).isSome = true := fun i hi => by rw [List.getElem?_eq_getElem (by rw [hl]; exact hi)]; rfl
  obtain ⟨a0, e0⟩ := int_of (v := v0) (by simpa [c3] using hf 0 _ rfl) (hs 0 (by omega))
  obtain ⟨a1, e1⟩ := int_of (v := v1) (by simpa [c3] using hf 1 _ rfl) (hs 1 (by omega))
  exact ⟨a0, a1, e0, e1⟩
theorem err_of {n : Nat} {v : Value} {x : Option (DataW H × List MemPlace)} (h : DataW.trod enc Tryz.prog W base (fun _ => true) held n 30 [v] = x) (hx : x.isSome = true) : ∃ a : Int, v = .int .i64 a := by
  obtain ⟨y, rfl⟩ := Option.isSome_iff_exists.1 hx
  obtain ⟨a, e, -, -⟩ := DataW.trod_int Tryz.underlying30 h
  exact ⟨a, by simpa using e⟩
theorem got_of {n : Nat} {v0 v1 v2 v3 v4 v5 : Value} {x : Option (DataW H × List MemPlace)} (h : DataW.trod enc Tryz.prog W base (fun _ => true) held n 43 [v0, v1, v2, v3, v4, v5] = x) (hx : x.isSome = true) :
    ∃ g : Gt, [v0, v1, v2, v3, v4, v5] = gC g ∧ g.body.length ≤ 9223372036854775807 ∧ g.rc.g.length ≤ 9223372036854775807 := by
  obtain ⟨y, rfl⟩ := Option.isSome_iff_exists.1 hx
  obtain ⟨xs, m, -, -, -, hl, hf⟩ := DataW.trod_struct Tryz.underlying43 h
  have hs : ∀ i, i < 3 → (xs[i]?).isSome = true := fun i hi => by rw [List.getElem?_eq_getElem (by rw [hl]; exact hi)]; rfl
  obtain ⟨r, rfl, rfl, rfl, rfl, lr⟩ := rcp_of (v0 := v0) (v1 := v1) (v2 := v2) (v3 := v3) (by simpa [c23] using hf 0 _ rfl) (hs 0 (by omega))
  obtain ⟨s, rfl, ls⟩ := str_of (v := v4) (by simpa [c9] using hf 1 _ rfl) (hs 1 (by omega))
  obtain ⟨a, rfl⟩ := int_of (v := v5) (by simpa [c3] using hf 2 _ rfl) (hs 2 (by omega))
  exact ⟨⟨r, s, a⟩, rfl, ls, lr⟩
theorem rngs_of {n : Nat} {v : Value} {x : Option (DataW H × List MemPlace)} (h : DataW.trod enc Tryz.prog W base (fun _ => true) held n 32 [v] = x) (hx : x.isSome = true) : ∃ (l : List (Int × Int)) (ao : Option Addr) (cap : Nat), v = .slice ao l.length cap ∧ RowR W ao l ∧ l.length ≤ cap ∧ cap ≤ 9223372036854775807 := by
  obtain ⟨y, rfl⟩ := Option.isSome_iff_exists.1 hx
  rcases Go.Deep.open_slice Tryz.underlying32 h with ⟨e, -⟩ | ⟨a, len, cap, m, k, D, Pl, e, -, hl, hm, hmm, -, hx⟩
  · exact ⟨[], none, 0, by simpa using e, RowS.nil _ _, Nat.zero_le _, by omega⟩
  · have hlm : len ≤ m := by rw [hmm]; split <;> omega
    obtain ⟨l, h1, -, h3⟩ := rowS_of (n := 2) (cs := rC) (Q := fun _ => True) (by decide) rC_len (w := W) (x := a) (len := len) (fun i hi => by
      obtain ⟨cs', g1, g2⟩ := hx i (by omega)
      rw [c25] at g1
      obtain ⟨-, hlen, hcell⟩ := World.cells?_some g1
      match cs', hlen with
      | [v0, v1], _ =>
        obtain ⟨p, q, rfl, rfl⟩ := rg_of g2 rfl
        refine ⟨(p, q), trivial, fun j hj => ?_⟩
        have := hcell j hj
        rw [Go.Deep.add_add] at this
        exact this)
    exact ⟨l, some a, cap, by rw [h1]; simpa using e, h3, by omega, by unfold maxLen at hm; omega⟩
theorem gots_of {n : Nat} {v : Value} {x : Option (DataW H × List MemPlace)} (h : DataW.trod enc Tryz.prog W base (fun _ => true) held n 31 [v] = x) (hx : x.isSome = true) : ∃ (l : List Gt) (ao : Option Addr) (cap : Nat), v = .slice ao l.length cap ∧ RowG W ao l ∧ l.length ≤ 9223372036854775807 ∧ ∀ g ∈ l, g.body.length ≤ 9223372036854775807 ∧ g.rc.g.length ≤ 9223372036854775807 := by
  obtain ⟨y, rfl⟩ := Option.isSome_iff_exists.1 hx
  rcases Go.Deep.open_slice Tryz.underlying31 h with ⟨e, -⟩ | ⟨a, len, cap, m, k, D, Pl, e, -, hl, hm, hmm, -, hx⟩
  · exact ⟨[], none, 0, by simpa using e, RowS.nil _ _, by simp, fun g hg => by cases hg⟩
  · have hlm : len ≤ m := by rw [hmm]; split <;> omega
    obtain ⟨l, h1, h2, h3⟩ := rowS_of (n := 6) (cs := gC) (Q := fun g => g.body.length ≤ 9223372036854775807 ∧ g.rc.g.length ≤ 9223372036854775807) (by decide) gC_len (w := W) (x := a) (len := len) (fun i hi => by
      obtain ⟨cs', g1, g2⟩ := hx i (by omega)
      rw [c73] at g1
      obtain ⟨-, hlen, hcell⟩ := World.cells?_some g1
      match cs', hlen with
      | [v0, v1, v2, v3, v4, v5], _ =>
        obtain ⟨g, hg, l1, l2⟩ := got_of g2 rfl
        refine ⟨g, ⟨l1, l2⟩, fun j hj => ?_⟩
        have := hcell j hj
        rw [Go.Deep.add_add, hg] at this
        exact this)
    exact ⟨l, some a, cap, by rw [h1]; simpa using e, h3, by unfold maxLen at hm; omega, h2⟩
theorem rp_of {n : Nat} {v0 v1 v2 v3 v4 v5 : Value} {x : Option (DataW H × List MemPlace)} (h : DataW.trod enc Tryz.prog W base (fun _ => true) held n 34 [v0, v1, v2, v3, v4, v5] = x) (hx : x.isSome = true) :
    ∃ (r : Rp) (ga : Option Addr) (gc : Nat) (da : Option Addr) (dc : Nat) (ra : Option Addr) (rc : Nat), [v0, v1, v2, v3, v4, v5] = (Pv r ga gc da dc ra rc).toList ∧ RpIn W r ga gc da dc ra rc := by
  obtain ⟨y, rfl⟩ := Option.isSome_iff_exists.1 hx
  obtain ⟨xs, m, -, -, -, hl, hf⟩ := DataW.trod_struct Tryz.underlying34 h
  have hs : ∀ i, i < 6 → (xs[i]?).isSome = true := fun i hi => by rw [List.getElem?_eq_getElem (by rw [hl]; exact hi)]; rfl
  obtain ⟨n0, rfl⟩ := err_of (v := v0) (by simpa [c31] using hf 0 _ rfl) (hs 0 (by omega))
  obtain ⟨n1, rfl⟩ := int_of (v := v1) (by simpa [c3] using hf 1 _ rfl) (hs 1 (by omega))
  obtain ⟨n2, rfl⟩ := int_of (v := v2) (by simpa [c3] using hf 2 _ rfl) (hs 2 (by omega))
  obtain ⟨g, ga, gc, rfl, hg1, hg2, hg3⟩ := gots_of (v := v3) (by simpa [c40] using hf 3 _ rfl) (hs 3 (by omega))
  obtain ⟨l, da, dc, rfl, hl1, hl2, hl3⟩ := strs_of (v := v4) (by simpa [c26] using hf 4 _ rfl) (hs 4 (by omega))
  obtain ⟨q, ra, rc, rfl, hq1, hq2, hq3⟩ := rngs_of (v := v5) (by simpa [c41] using hf 5 _ rfl) (hs 5 (by omega))
  exact ⟨⟨n0, n1, n2, g, l, q⟩, ga, gc, da, dc, ra, rc, rfl, ⟨hg1, hl1, hq1⟩, hg2, Nat.le_trans hl2 hl3, hq2, hq3, hg3⟩
theorem act_of {n : Nat} {v0 v1 v2 v3 v4 v5 v6 v7 v8 v9 : Value} {x : Option (DataW H × List MemPlace)} (h : DataW.trod enc Tryz.prog W base (fun _ => true) held n 36 [v0, v1, v2, v3, v4, v5, v6, v7, v8, v9] = x) (hx : x.isSome = true) : ∃ a : Ac, [v0, v1, v2, v3, v4, v5, v6, v7, v8, v9] = aC a ∧ AcIn W a := by
  obtain ⟨y, rfl⟩ := Option.isSome_iff_exists.1 hx
  obtain ⟨xs, m, -, -, -, hl, hf⟩ := DataW.trod_struct Tryz.underlying36 h
  have hs : ∀ i, i < 5 → (xs[i]?).isSome = true := fun i hi => by rw [List.getElem?_eq_getElem (by rw [hl]; exact hi)]; rfl
  obtain ⟨n0, rfl⟩ := int_of (v := v0) (by simpa [c3] using hf 0 _ rfl) (hs 0 (by omega))
  obtain ⟨n1, rfl, b1, b2⟩ := intB_of (v := v1) (by simpa [c3] using hf 1 _ rfl) (hs 1 (by omega))
  obtain ⟨n2, rfl, b3, b4⟩ := intB_of (v := v2) (by simpa [c3] using hf 2 _ rfl) (hs 2 (by omega))
  obtain ⟨r, ga, gc, da, dc, ra, rc, he, hr⟩ := rp_of (v0 := v3) (v1 := v4) (v2 := v5) (v3 := v6) (v4 := v7) (v5 := v8) (by simpa [c43] using hf 3 _ rfl) (hs 3 (by omega))
  obtain ⟨l, ta, tc, rfl, hl1, hl2, hl3⟩ := strs_of (v := v9) (by simpa [c26] using hf 4 _ rfl) (hs 4 (by omega))
  simp only [Pv, List.cons.injEq, and_true] at he
  obtain ⟨rfl, rfl, rfl, rfl, rfl, rfl⟩ := he
  exact ⟨⟨n0, n1, n2, r, ga, gc, da, dc, ra, rc, l, ta, tc⟩, rfl, hr, hl1, hl2, hl3, b1, b2, b3, b4⟩

theorem acts_of {n : Nat} {v : Value} {x : Option (DataW H × List MemPlace)} (h : DataW.trod enc Tryz.prog W base (fun _ => true) held n 22 [v] = x) (hx : x.isSome = true) : ∃ (l : List Ac) (ao : Option Addr) (cap : Nat), v = .slice ao l.length cap ∧ RowA W ao l ∧ (∀ y ∈ l, AcIn W y) ∧ l.length ≤ 9223372036854775807 := by
  obtain ⟨y, rfl⟩ := Option.isSome_iff_exists.1 hx
  rcases Go.Deep.open_slice Tryz.underlying22 h with ⟨e, -⟩ | ⟨a, len, cap, m, k, D, Pl, e, -, hl, hm, hmm, -, hx⟩
  · exact ⟨[], none, 0, by simpa using e, RowS.nil _ _, (fun y hy => by cases hy), by simp⟩
  · have hlm : len ≤ m := by rw [hmm]; split <;> omega
    obtain ⟨l, h1, h2, h3⟩ := rowS_of (n := 10) (cs := aC) (Q := fun y => AcIn W y) (by decide) aC_len (w := W) (x := a) (len := len) (fun i hi => by
      obtain ⟨cs', g1, g2⟩ := hx i (by omega)
      rw [cAct] at g1
      obtain ⟨-, hlen, hcell⟩ := World.cells?_some g1
      match cs', hlen with
      | [v0, v1, v2, v3, v4, v5, v6, v7, v8, v9], _ =>
        obtain ⟨p, hp, hq⟩ := act_of g2 rfl
        refine ⟨p, hq, fun j hj => ?_⟩
        have := hcell j hj
        rw [Go.Deep.add_add, hp] at this
        exact this)
    exact ⟨l, some a, cap, by rw [h1]; simpa using e, h3, h2, by unfold maxLen at hm; omega⟩
theorem open_acts {r : Reach} {b0 : Nat} {v : Value} {d : DataW H} {p : List MemPlace} (hv : Value.okWide Tryz.prog W r b0 22 v) (h : DataW.Trod enc Tryz.prog W base (fun _ => true) held 22 v d p) :
    ∃ (l : List Ac) (ao : Option Addr) (cap : Nat), v = .slice ao l.length cap ∧ RowA W ao l ∧ (∀ y ∈ l, AcIn W y) ∧ l.length ≤ 9223372036854775807 := by
  obtain ⟨a, n, c, rfl⟩ := okWide_slice Tryz.underlying22 hv
  obtain ⟨fuel, hf⟩ := h
  exact acts_of (by simpa [Value.cells] using hf) rfl

theorem arr10 {α : Type} {cs : Array α} (h : cs.size = 10) : ∃ a0 a1 a2 a3 a4 a5 a6 a7 a8 a9, cs = #[a0, a1, a2, a3, a4, a5, a6, a7, a8, a9] := by
  obtain ⟨l⟩ := cs
  match l, h with
  | [a0, a1, a2, a3, a4, a5, a6, a7, a8, a9], _ => exact ⟨_, _, _, _, _, _, _, _, _, _, rfl⟩
theorem open_act {r : Reach} {b0 : Nat} {v : Value} {d : DataW H} {p : List MemPlace} (hv : Value.okWide Tryz.prog W r b0 36 v) (h : DataW.Trod enc Tryz.prog W base (fun _ => true) held 36 v d p) :
    ∃ x : Ac, v = .agg (aC x).toArray ∧ AcIn W x := by
  obtain ⟨cs, rfl, hsz⟩ := okWide_struct Tryz.underlying36 hv
  obtain ⟨a0, a1, a2, a3, a4, a5, a6, a7, a8, a9, rfl⟩ := arr10 (hsz.trans cAct)
  obtain ⟨fuel, hf0⟩ := h
  obtain ⟨x, hx, hq⟩ := act_of (by simpa [Value.cells] using hf0) rfl
  exact ⟨x, by rw [← hx], hq⟩
end
end Go.Proofs.YtenkgpfeifflnaaGreat.So
