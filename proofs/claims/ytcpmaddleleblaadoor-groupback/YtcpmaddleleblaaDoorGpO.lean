/-
  Groups, what is asked, and acts that come in as data: their parts.
-/
import Derived.Test.YtcpmaddleleblaaDoorGpM
import Derived.OpenShut
import Derived.ChangeOld
import Derived.WideShapes
import Derived.ProofKit
import Derived.Deep.Slices
namespace Go.Proofs.YtcpmaddleleblaaDoor.Go2
open Go.RowKit Kt Gf Gp Gr Gk Gm Go.ChangeShapes Go.WideShapes Go.ChangeMaps
set_option linter.unusedVariables false
set_option maxRecDepth 20000

theorem cI : Tryd.prog.cellsOf 3 = 1 := by kernel_rfl
theorem cS : Tryd.prog.cellsOf 9 = 1 := by kernel_rfl
theorem cKs : Tryd.prog.cellsOf 22 = 1 := by kernel_rfl
theorem cMs : Tryd.prog.cellsOf 23 = 1 := by kernel_rfl
theorem cK : Tryd.prog.cellsOf 61 = 6 := by kernel_rfl
theorem cM : Tryd.prog.cellsOf 70 = 3 := by kernel_rfl
theorem cG : Tryd.prog.cellsOf 25 = 4 := by kernel_rfl

theorem cA : Tryd.prog.cellsOf 27 = 7 := by kernel_rfl

theorem rowS_of {α : Type} {n : Nat} {cs : α → List Value} (hpos : 0 < n) (hn : ∀ x, (cs x).length = n) {w : World} {x : Addr} {len : Nat}
    (h : ∀ i, i < len → ∃ y, ∀ j, j < n → w.cell? (x.add (i * n + j)) = (cs y)[j]?) : ∃ l : List α, l.length = len ∧ RowS n cs w (some x) l := by
  obtain ⟨l, hl, hx⟩ : ∃ l : List α, l.length = len ∧ ∀ i y, l[i]? = some y → ∀ j, j < n → w.cell? (x.add (i * n + j)) = (cs y)[j]? := by
    induction len with
    | zero => exact ⟨[], rfl, fun i y h => by simp at h⟩
    | succ k ih =>
      obtain ⟨l, h1, h2⟩ := ih (fun i hi => h i (by omega))
      obtain ⟨y, hy⟩ := h k (by omega)
      refine ⟨l ++ [y], by simp [h1], fun i z hz => ?_⟩
      rcases Nat.lt_or_ge i l.length with hi | hi
      · rw [List.getElem?_append_left hi] at hz; exact h2 i z hz
      · have e : i = k := by have := lt_of hz; simp at this; omega
        subst e
        rw [List.getElem?_append_right hi, h1] at hz
        simp at hz
        subst hz
        exact hy
  refine ⟨l, hl, fun h0 => ?_⟩
  obtain ⟨b, off, spot⟩ := x
  obtain ⟨y, hy⟩ := some_of h0
  have hc0 := hx 0 y hy 0 hpos
  obtain ⟨v, hv⟩ := some_of (l := cs y) (i := 0) (by rw [hn]; exact hpos)
  rw [hv] at hc0
  have hspot : spot = none := by simpa [Addr.add] using World.cell?_spot hc0
  subst hspot
  refine ⟨b, off, rfl, fun i y hy j v hv => ?_⟩
  have hj : j < n := by have := lt_of hv; rwa [hn] at this
  have := hx i y hy j hj
  rw [Addr.add_lit, hv, ← Nat.add_assoc] at this
  exact this

section
variable {H : Type} {enc : TypeId × Value → H} {W : World} {base : Nat} {held : Bool}
theorem int_of {n : Nat} {v : Value} {x : Option (DataW H × List MemPlace)} (h : DataW.trod enc Tryd.prog W base (fun _ => true) held n 3 [v] = x) (hx : x.isSome = true) : ∃ a : Int, v = .int .i64 a := by
  obtain ⟨y, rfl⟩ := Option.isSome_iff_exists.1 hx
  obtain ⟨a, e, h1, h2⟩ := DataW.trod_int Tryd.underlying3 h
  exact ⟨a, by simpa using e⟩
theorem str_of {n : Nat} {v : Value} {x : Option (DataW H × List MemPlace)} (h : DataW.trod enc Tryd.prog W base (fun _ => true) held n 9 [v] = x) (hx : x.isSome = true) : ∃ s : ByteArray, v = .string s := by
  obtain ⟨y, rfl⟩ := Option.isSome_iff_exists.1 hx
  obtain ⟨s, e, -⟩ := DataW.trod_string Tryd.underlying9 h
  exact ⟨s, by simpa using e⟩
theorem kept_of {n : Nat} {v0 v1 v2 v3 v4 v5 : Value} {x : Option (DataW H × List MemPlace)} (h : DataW.trod enc Tryd.prog W base (fun _ => true) held n 61 [v0, v1, v2, v3, v4, v5] = x) (hx : x.isSome = true) : ∃ m : K, [v0, v1, v2, v3, v4, v5] = kC m := by
  obtain ⟨y, rfl⟩ := Option.isSome_iff_exists.1 hx
  obtain ⟨xs, m, -, -, -, hl, hf⟩ := DataW.trod_struct Tryd.underlying61 h
  have hs : ∀ i, i < 6 → (xs[i]?).isSome = true := fun i hi => by rw [List.getElem?_eq_getElem (by rw [hl]; exact hi)]; rfl
  obtain ⟨a0, rfl⟩ := int_of (v := v0) (by simpa [cI] using hf 0 _ rfl) (hs 0 (by omega))
  obtain ⟨a1, rfl⟩ := int_of (v := v1) (by simpa [cI] using hf 1 _ rfl) (hs 1 (by omega))
  obtain ⟨a2, rfl⟩ := int_of (v := v2) (by simpa [cI] using hf 2 _ rfl) (hs 2 (by omega))
  obtain ⟨a3, rfl⟩ := int_of (v := v3) (by simpa [cI] using hf 3 _ rfl) (hs 3 (by omega))
  obtain ⟨a4, rfl⟩ := int_of (v := v4) (by simpa [cI] using hf 4 _ rfl) (hs 4 (by omega))
  obtain ⟨s, rfl⟩ := str_of (v := v5) (by simpa [cS] using hf 5 _ rfl) (hs 5 (by omega))
  exact ⟨⟨a0, a1, a2, a3, a4, s⟩, rfl⟩
theorem mark_of {n : Nat} {v0 v1 v2 : Value} {x : Option (DataW H × List MemPlace)} (h : DataW.trod enc Tryd.prog W base (fun _ => true) held n 70 [v0, v1, v2] = x) (hx : x.isSome = true) : ∃ m : M, [v0, v1, v2] = mC m := by
  obtain ⟨y, rfl⟩ := Option.isSome_iff_exists.1 hx
  obtain ⟨xs, m, -, -, -, hl, hf⟩ := DataW.trod_struct Tryd.underlying70 h
  have hs : ∀ i, i < 3 → (xs[i]?).isSome = true := fun i hi => by rw [List.getElem?_eq_getElem (by rw [hl]; exact hi)]; rfl
  obtain ⟨s, rfl⟩ := str_of (v := v0) (by simpa [cS] using hf 0 _ rfl) (hs 0 (by omega))
  obtain ⟨a1, rfl⟩ := int_of (v := v1) (by simpa [cI] using hf 1 _ rfl) (hs 1 (by omega))
  obtain ⟨a2, rfl⟩ := int_of (v := v2) (by simpa [cI] using hf 2 _ rfl) (hs 2 (by omega))
  exact ⟨⟨s, a1, a2⟩, rfl⟩
theorem kepts_of {n : Nat} {v : Value} {x : Option (DataW H × List MemPlace)} (h : DataW.trod enc Tryd.prog W base (fun _ => true) held n 22 [v] = x) (hx : x.isSome = true) : ∃ (l : List K) (ao : Option Addr) (cap : Nat), v = .slice ao l.length cap ∧ RowK W ao l ∧ l.length ≤ cap ∧ cap ≤ 9223372036854775807 := by
  obtain ⟨y, rfl⟩ := Option.isSome_iff_exists.1 hx
  rcases Go.Deep.open_slice Tryd.underlying22 h with ⟨e, -⟩ | ⟨a, len, cap, m, k, D, Pl, e, -, hl, hm, hmm, -, hx⟩
  · exact ⟨[], none, 0, by simpa using e, RowS.nil _ _, Nat.zero_le _, by omega⟩
  · have hlm : len ≤ m := by rw [hmm]; split <;> omega
    obtain ⟨l, h1, h3⟩ := rowS_of (n := 6) (cs := kC) (by decide) kC_len (w := W) (x := a) (len := len) (fun i hi => by
      obtain ⟨cs', g1, g2⟩ := hx i (by omega)
      rw [cK] at g1
      obtain ⟨-, hlen, hcell⟩ := World.cells?_some g1
      match cs', hlen with
      | [v0, v1, v2, v3, v4, v5], _ =>
        obtain ⟨p, hp⟩ := kept_of g2 rfl
        refine ⟨p, fun j hj => ?_⟩
        have := hcell j hj
        rw [Go.Deep.add_add, hp] at this
        exact this)
    exact ⟨l, some a, cap, by rw [h1]; simpa using e, h3, by omega, by unfold maxLen at hm; omega⟩
theorem marks_of {n : Nat} {v : Value} {x : Option (DataW H × List MemPlace)} (h : DataW.trod enc Tryd.prog W base (fun _ => true) held n 23 [v] = x) (hx : x.isSome = true) : ∃ (l : List M) (ao : Option Addr) (cap : Nat), v = .slice ao l.length cap ∧ RowM W ao l ∧ l.length ≤ cap ∧ cap ≤ 9223372036854775807 := by
  obtain ⟨y, rfl⟩ := Option.isSome_iff_exists.1 hx
  rcases Go.Deep.open_slice Tryd.underlying23 h with ⟨e, -⟩ | ⟨a, len, cap, m, k, D, Pl, e, -, hl, hm, hmm, -, hx⟩
  · exact ⟨[], none, 0, by simpa using e, RowS.nil _ _, Nat.zero_le _, by omega⟩
  · have hlm : len ≤ m := by rw [hmm]; split <;> omega
    obtain ⟨l, h1, h3⟩ := rowS_of (n := 3) (cs := mC) (by decide) mC_len (w := W) (x := a) (len := len) (fun i hi => by
      obtain ⟨cs', g1, g2⟩ := hx i (by omega)
      rw [cM] at g1
      obtain ⟨-, hlen, hcell⟩ := World.cells?_some g1
      match cs', hlen with
      | [v0, v1, v2], _ =>
        obtain ⟨p, hp⟩ := mark_of g2 rfl
        refine ⟨p, fun j hj => ?_⟩
        have := hcell j hj
        rw [Go.Deep.add_add, hp] at this
        exact this)
    exact ⟨l, some a, cap, by rw [h1]; simpa using e, h3, by omega, by unfold maxLen at hm; omega⟩
theorem arr4 {α : Type} {cs : Array α} (h : cs.size = 4) : ∃ a0 a1 a2 a3, cs = #[a0, a1, a2, a3] := by
  obtain ⟨l⟩ := cs
  match l, h with
  | [a0, a1, a2, a3], _ => exact ⟨_, _, _, _, rfl⟩
theorem arr7 {α : Type} {cs : Array α} (h : cs.size = 7) : ∃ a0 a1 a2 a3 a4 a5 a6, cs = #[a0, a1, a2, a3, a4, a5, a6] := by
  obtain ⟨l⟩ := cs
  match l, h with
  | [a0, a1, a2, a3, a4, a5, a6], _ => exact ⟨_, _, _, _, _, _, _, rfl⟩

set_option maxHeartbeats 2000000 in
theorem open_group {r : Reach} {b0 : Nat} {v : Value} {d : DataW H} {p : List MemPlace} (hv : Value.okWide Tryd.prog W r b0 25 v) (h : DataW.Trod enc Tryd.prog W base (fun _ => true) held 25 v d p) :
    ∃ (g : G) (ka : Option Addr) (kc : Nat) (ma : Option Addr) (mc : Nat), v = .agg (gC g ka kc ma mc) ∧ Gl W g ka kc ma mc := by
  obtain ⟨cs, rfl, hsz⟩ := okWide_struct Tryd.underlying25 hv
  obtain ⟨a0, a1, a2, a3, rfl⟩ := arr4 (hsz.trans cG)
  obtain ⟨fuel, hf0⟩ := h
  obtain ⟨xs, m, -, -, -, hl, hf⟩ := DataW.trod_struct Tryd.underlying25 hf0
  have hs : ∀ i, i < 4 → (xs[i]?).isSome = true := fun i hi => by rw [List.getElem?_eq_getElem (by rw [hl]; exact hi)]; rfl
  clear hf0 hsz hv
  obtain ⟨n0, rfl⟩ := int_of (v := a0) (by simpa [cI, Value.cells] using hf 0 _ rfl) (hs 0 (by omega))
  obtain ⟨l1, ka, kc, rfl, k1, k2, k3⟩ := kepts_of (v := a1) (by simpa [cKs, Value.cells] using hf 1 _ rfl) (hs 1 (by omega))
  obtain ⟨l2, ma, mc, rfl, m1, m2, m3⟩ := marks_of (v := a2) (by simpa [cMs, Value.cells] using hf 2 _ rfl) (hs 2 (by omega))
  obtain ⟨s, rfl⟩ := str_of (v := a3) (by simpa [cS, Value.cells] using hf 3 _ rfl) (hs 3 (by omega))
  exact ⟨⟨n0, l1, l2, s⟩, ka, kc, ma, mc, rfl, k1, m1, k2, m2, k3, m3⟩

set_option maxHeartbeats 2000000 in
theorem open_ask {r : Reach} {b0 : Nat} {v : Value} {d : DataW H} {p : List MemPlace} (hv : Value.okWide Tryd.prog W r b0 27 v) (h : DataW.Trod enc Tryd.prog W base (fun _ => true) held 27 v d p) :
    ∃ a : Q, v = .agg (qC a) := by
  obtain ⟨cs, rfl, hsz⟩ := okWide_struct Tryd.underlying27 hv
  obtain ⟨a0, a1, a2, a3, a4, a5, a6, rfl⟩ := arr7 (hsz.trans cA)
  obtain ⟨fuel, hf0⟩ := h
  obtain ⟨xs, m, -, -, -, hl, hf⟩ := DataW.trod_struct Tryd.underlying27 hf0
  have hs : ∀ i, i < 7 → (xs[i]?).isSome = true := fun i hi => by rw [List.getElem?_eq_getElem (by rw [hl]; exact hi)]; rfl
  clear hf0 hsz hv
  obtain ⟨n0, rfl⟩ := int_of (v := a0) (by simpa [cI, Value.cells] using hf 0 _ rfl) (hs 0 (by omega))
  obtain ⟨n1, rfl⟩ := int_of (v := a1) (by simpa [cI, Value.cells] using hf 1 _ rfl) (hs 1 (by omega))
  obtain ⟨n2, rfl⟩ := int_of (v := a2) (by simpa [cI, Value.cells] using hf 2 _ rfl) (hs 2 (by omega))
  obtain ⟨n3, rfl⟩ := int_of (v := a3) (by simpa [cI, Value.cells] using hf 3 _ rfl) (hs 3 (by omega))
  obtain ⟨n4, rfl⟩ := int_of (v := a4) (by simpa [cI, Value.cells] using hf 4 _ rfl) (hs 4 (by omega))
  obtain ⟨s5, rfl⟩ := str_of (v := a5) (by simpa [cS, Value.cells] using hf 5 _ rfl) (hs 5 (by omega))
  obtain ⟨s6, rfl⟩ := str_of (v := a6) (by simpa [cS, Value.cells] using hf 6 _ rfl) (hs 6 (by omega))
  exact ⟨⟨n0, n1, n2, n3, n4, s5, s6⟩, rfl⟩

end
end Go.Proofs.YtcpmaddleleblaaDoor.Go2
