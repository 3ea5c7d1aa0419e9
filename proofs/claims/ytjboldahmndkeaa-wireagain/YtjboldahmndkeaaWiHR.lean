/-
  A reply that comes in as data: its parts.
-/
import Derived.Test.YtjboldahmndkeaaWiH
import Derived.Test.YtjboldahmndkeaaWiFd
import Derived.Deep.Slices
namespace Go.Proofs.Ytjboldahmndkeaa.Wh
open Go.RowKit Kt Pl Wi Wk Wfw Wa Wfr Go.ChangeShapes Go.WideShapes Go.ChangeMaps
open At (RowT)
set_option linter.unusedVariables false
set_option maxRecDepth 20000

theorem arr6 {α : Type} {cs : Array α} (h : cs.size = 6) : ∃ a0 a1 a2 a3 a4 a5, cs = #[a0, a1, a2, a3, a4, a5] := by
  obtain ⟨l⟩ := cs
  match l, h with
  | [a0, a1, a2, a3, a4, a5], _ => exact ⟨_, _, _, _, _, _, rfl⟩
theorem c40 : Try.prog.cellsOf 40 = 1 := by kernel_rfl
theorem c41 : Try.prog.cellsOf 41 = 1 := by kernel_rfl
theorem c73 : Try.prog.cellsOf 73 = 6 := by kernel_rfl
theorem c43 : Try.prog.cellsOf 43 = 6 := by kernel_rfl
theorem c31 : Try.prog.cellsOf 31 = 1 := by kernel_rfl
theorem rowS_of {α : Type} {n : Nat} {cs : α → List Value} (hpos : 0 < n) (hn : ∀ x, (cs x).length = n) {w : World} {x : Addr} {len : Nat} {Q : α → Prop}
    (h : ∀ i, i < len → ∃ y, Q y ∧ ∀ j, j < n → w.cell? (x.add (i * n + j)) = (cs y)[j]?) : ∃ l : List α, l.length = len ∧ (∀ y ∈ l, Q y) ∧ RowS n cs w (some x) l := by
  obtain ⟨l, hl, hx⟩ : ∃ l : List α, l.length = len ∧ ∀ i y, l[i]? = some y → Q y ∧ ∀ j, j < n → w.cell? (x.add (i * n + j)) = (cs y)[j]? := by
    induction len with
    | zero => exact ⟨[], rfl, fun i y h => by simp at h⟩
    | succ k ih =>
      obtain ⟨l, h1, h2⟩ := ih (fun i hi => h i (by omega))
      obtain ⟨y, hy⟩ := h k (by omega)
      refine ⟨l ++ [y], by simp [h1], fun i z hz => ?_⟩
      rcases Nat.lt_or_ge i l.length with hi | hi
      · rw [List.getElem?_append_left hi] at hz; exact h2 i z hz
      · have e : i = k := by have := lt_of hz; simp at this; omega
        subst e
        rw [List.getElem?_append_right hi, h1] at hz
        simp at hz
        subst hz
        exact hy
  refine ⟨l, hl, fun y hy => ?_, fun h0 => ?_⟩
  · obtain ⟨i, hi⟩ := List.getElem?_of_mem hy
    exact (hx i y hi).1
  · obtain ⟨b, off, spot⟩ := x
    obtain ⟨y, hy⟩ := some_of h0
    have hc0 := (hx 0 y hy).2 0 hpos
    obtain ⟨v, hv⟩ := some_of (l := cs y) (i := 0) (by rw [hn]; exact hpos)
    rw [hv] at hc0
    have hspot : spot = none := by simpa [Addr.add] using World.cell?_spot hc0
    subst hspot
    refine ⟨b, off, rfl, fun i y hy j v hv => ?_⟩
    have hj : j < n := by have := lt_of hv; rwa [hn] at this
    have := (hx i y hy).2 j hj
    rw [Addr.add_lit, hv, ← Nat.add_assoc] at this
    exact this

section
variable {H : Type} {enc : TypeId × Value → H} {W : World} {base : Nat} {held : Bool}
theorem err_of {n : Nat} {v : Value} {x : Option (DataW H × List MemPlace)} (h : DataW.trod enc Try.prog W base (fun _ => true) held n 31 [v] = x) (hx : x.isSome = true) : ∃ a : Int, v = .int .i64 a := by
  obtain ⟨y, rfl⟩ := Option.isSome_iff_exists.1 hx
  obtain ⟨a, e, -, -⟩ := DataW.trod_int Try.underlying31 h
  exact ⟨a, by simpa using e⟩
theorem got_of {n : Nat} {v0 v1 v2 v3 v4 v5 : Value} {x : Option (DataW H × List MemPlace)} (h : DataW.trod enc Try.prog W base (fun _ => true) held n 73 [v0, v1, v2, v3, v4, v5] = x) (hx : x.isSome = true) :
    ∃ g : Gt, [v0, v1, v2, v3, v4, v5] = gC g ∧ g.body.length ≤ 9223372036854775807 ∧ g.rc.g.length ≤ 9223372036854775807 := by
  obtain ⟨y, rfl⟩ := Option.isSome_iff_exists.1 hx
  obtain ⟨xs, m, -, -, -, hl, hf⟩ := DataW.trod_struct Try.underlying73 h
  have hs : ∀ i, i < 3 → (xs[i]?).isSome = true := fun i hi => by rw [List.getElem?_eq_getElem (by rw [hl]; exact hi)]; rfl
  obtain ⟨r, rfl, rfl, rfl, rfl, lr⟩ := rcp_of (v0 := v0) (v1 := v1) (v2 := v2) (v3 := v3) (by simpa [c23] using hf 0 _ rfl) (hs 0 (by omega))
  obtain ⟨s, rfl, ls⟩ := str_of (v := v4) (by simpa [c9] using hf 1 _ rfl) (hs 1 (by omega))
  obtain ⟨a, rfl⟩ := int_of (v := v5) (by simpa [c3] using hf 2 _ rfl) (hs 2 (by omega))
  exact ⟨⟨r, s, a⟩, rfl, ls, lr⟩
theorem rngs_of {n : Nat} {v : Value} {x : Option (DataW H × List MemPlace)} (h : DataW.trod enc Try.prog W base (fun _ => true) held n 41 [v] = x) (hx : x.isSome = true) : ∃ (l : List (Int × Int)) (ao : Option Addr) (cap : Nat), v = .slice ao l.length cap ∧ RowR W ao l ∧ l.length ≤ cap ∧ cap ≤ 9223372036854775807 := by
  obtain ⟨y, rfl⟩ := Option.isSome_iff_exists.1 hx
  rcases Go.Deep.open_slice Try.underlying41 h with ⟨e, -⟩ | ⟨a, len, cap, m, k, D, Pl, e, -, hl, hm, hmm, -, hx⟩
  · exact ⟨[], none, 0, by simpa using e, RowS.nil _ _, Nat.zero_le _, by omega⟩
  · have hlm : len ≤ m := by rw [hmm]; split <;> omega
    obtain ⟨l, h1, -, h3⟩ := rowS_of (n := 2) (cs := rC) (Q := fun _ => True) (by decide) rC_len (w := W) (x := a) (len := len) (fun i hi => by
      obtain ⟨cs', g1, g2⟩ := hx i (by omega)
      rw [c25] at g1
      obtain ⟨-, hlen, hcell⟩ := World.cells?_some g1
      match cs', hlen with
      | [v0, v1], _ =>
        obtain ⟨p, q, rfl, rfl⟩ := rg_of g2 rfl
        refine ⟨(p, q), trivial, fun j hj => ?_⟩
        have := hcell j hj
        rw [Go.Deep.add_add] at this
        exact this)
    exact ⟨l, some a, cap, by rw [h1]; simpa using e, h3, by omega, by unfold maxLen at hm; omega⟩
theorem gots_of {n : Nat} {v : Value} {x : Option (DataW H × List MemPlace)} (h : DataW.trod enc Try.prog W base (fun _ => true) held n 40 [v] = x) (hx : x.isSome = true) : ∃ (l : List Gt) (ao : Option Addr) (cap : Nat), v = .slice ao l.length cap ∧ RowG W ao l ∧ l.length ≤ 9223372036854775807 ∧ ∀ g ∈ l, g.body.length ≤ 9223372036854775807 ∧ g.rc.g.length ≤ 9223372036854775807 := by
  obtain ⟨y, rfl⟩ := Option.isSome_iff_exists.1 hx
  rcases Go.Deep.open_slice Try.underlying40 h with ⟨e, -⟩ | ⟨a, len, cap, m, k, D, Pl, e, -, hl, hm, hmm, -, hx⟩
  · exact ⟨[], none, 0, by simpa using e, RowS.nil _ _, by simp, fun g hg => by cases hg⟩
  · have hlm : len ≤ m := by rw [hmm]; split <;> omega
    obtain ⟨l, h1, h2, h3⟩ := rowS_of (n := 6) (cs := gC) (Q := fun g => g.body.length ≤ 9223372036854775807 ∧ g.rc.g.length ≤ 9223372036854775807) (by decide) gC_len (w := W) (x := a) (len := len) (fun i hi => by
      obtain ⟨cs', g1, g2⟩ := hx i (by omega)
      rw [c73] at g1
      obtain ⟨-, hlen, hcell⟩ := World.cells?_some g1
      match cs', hlen with
      | [v0, v1, v2, v3, v4, v5], _ =>
        obtain ⟨g, hg, l1, l2⟩ := got_of g2 rfl
        refine ⟨g, ⟨l1, l2⟩, fun j hj => ?_⟩
        have := hcell j hj
        rw [Go.Deep.add_add, hg] at this
        exact this)
    exact ⟨l, some a, cap, by rw [h1]; simpa using e, h3, by unfold maxLen at hm; omega, h2⟩

set_option maxHeartbeats 2000000 in
theorem open_rep {r : Reach} {b0 : Nat} {v : Value} {d : DataW H} {p : List MemPlace} (hv : Value.okWide Try.prog W r b0 43 v) (h : DataW.Trod enc Try.prog W base (fun _ => true) held 43 v d p) :
    ∃ (r : Rp) (ga : Option Addr) (gc : Nat) (da : Option Addr) (dc : Nat) (ra : Option Addr) (rc : Nat), v = .agg (Pv r ga gc da dc ra rc) ∧ RpIn W r ga gc da dc ra rc := by
  obtain ⟨cs, rfl, hsz⟩ := okWide_struct Try.underlying43 hv
  obtain ⟨a0, a1, a2, a3, a4, a5, rfl⟩ := arr6 (hsz.trans c43)
  obtain ⟨fuel, hf0⟩ := h
  obtain ⟨xs, m, -, -, -, hl, hf⟩ := DataW.trod_struct Try.underlying43 hf0
  have hs : ∀ i, i < 6 → (xs[i]?).isSome = true := fun i hi => by rw [List.getElem?_eq_getElem (by rw [hl]; exact hi)]; rfl
  clear hf0 hsz hv
  obtain ⟨n0, rfl⟩ := err_of (v := a0) (by simpa [c31, Value.cells] using hf 0 _ rfl) (hs 0 (by omega))
  obtain ⟨n1, rfl⟩ := int_of (v := a1) (by simpa [c3, Value.cells] using hf 1 _ rfl) (hs 1 (by omega))
  obtain ⟨n2, rfl⟩ := int_of (v := a2) (by simpa [c3, Value.cells] using hf 2 _ rfl) (hs 2 (by omega))
  obtain ⟨g, ga, gc, rfl, hg1, hg2, hg3⟩ := gots_of (v := a3) (by simpa [c40, Value.cells] using hf 3 _ rfl) (hs 3 (by omega))
  obtain ⟨l, da, dc, rfl, hl1, hl2⟩ := strs_of (v := a4) (by simpa [c26, Value.cells] using hf 4 _ rfl) (hs 4 (by omega))
  obtain ⟨q, ra, rc, rfl, hq1, hq2, hq3⟩ := rngs_of (v := a5) (by simpa [c41, Value.cells] using hf 5 _ rfl) (hs 5 (by omega))
  exact ⟨⟨n0, n1, n2, g, l, q⟩, ga, gc, da, dc, ra, rc, rfl, ⟨hg1, hl1, hq1⟩, hg2, hl2, hq2, hq3, hg3⟩
end
end Go.Proofs.Ytjboldahmndkeaa.Wh
