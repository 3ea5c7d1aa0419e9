/-
  Sets of numbers: what a set in memory is; Has, Add, Len; sets that are nil.
-/
import Derived.Test.YtaainjkhenenoaaB9R
import Derived.Defers
import Derived.Recover
namespace Go.Proofs.Ytaainjkhenenoaa.Bt
open Go.RowKit Kt Dk Bm Br Go.Maps Go.ChangeMaps
set_option linter.unusedVariables false
set_option linter.unusedSimpArgs false
set_option maxRecDepth 20000

/-- Block Sb is a set that has these numbers, each once; its map lies in block mo. -/
def Ss (B : Nat) (w : World) (Sb : Nat) (mo : Option Nat) (l : List Int) : Prop :=
  B ≤ Sb ∧ w.heap[Sb]? = some (.cells #[.map mo] 43 (0, 0)) ∧
  ((mo = none ∧ l = []) ∨ ∃ Mb D, mo = some Mb ∧ B ≤ Mb ∧ Mb ≠ Sb ∧ w.ownsMap (H := Unit) Try.prog 3 unitElem Mb l.length D ∧ (∀ k, Maps.has D (kL k) = decide (k ∈ l)) ∧ Maps.size D = l.length)
theorem Ss.fr {B : Nat} {w w' : World} {Sb : Nat} {mo : Option Nat} {l : List Int} {Q : Nat → Prop} (h : Ss B w Sb mo l) (hf : Fr Q w w') (h1 : ¬ Q Sb) (h2 : ∀ k, mo = some k → ¬ Q k) : Ss B w' Sb mo l := by
  obtain ⟨hB, hS, hM⟩ := h
  refine ⟨hB, (hf.heap (block_lt hS) h1).trans hS, ?_⟩
  rcases hM with hM | ⟨Mb, D, e, hb, hne, ho, hr⟩
  · exact .inl hM
  · refine .inr ⟨Mb, D, e, hb, hne, ?_, hr⟩
    have hlt := ho.lt
    obtain ⟨es, clock, hh, r⟩ := ho
    exact ⟨es, clock, (hf.heap hlt (h2 Mb e)).trans hh, r⟩
theorem Ss.below {B : Nat} {w w' : World} {Sb : Nat} {mo : Option Nat} {l : List Int} (h : Ss B w Sb mo l) (hb : Below w.heap.size w w') : Ss B w' Sb mo l := h.fr (Q := fun _ => False) (Fr.ofBelow hb) (fun x => x) (fun _ _ x => x)
theorem Ss.cell {B : Nat} {w : World} {Sb : Nat} {mo : Option Nat} {l : List Int} (h : Ss B w Sb mo l) : w.cell? ⟨Sb, 0, none⟩ = some (.map mo) := by rw [cell_of_row _ _ _ _ _ _ h.2.1]; rfl
theorem Ss.frozen {B : Nat} {w : World} {Sb : Nat} {mo : Option Nat} {l : List Int} (h : Ss B w Sb mo l) : w.frozen? ⟨Sb, 0, none⟩ = false := frozen_of_row _ _ _ _ _ h.2.1
theorem hmf : ∀ (fn : Fn) (first cap : Array Value) (w : World), (Instr.makeFunc fn first cap).run Try.prog w = .ok (.func fn first cap) w := fun _ _ _ _ => rfl
theorem zeroU (w : World) : (zeroValue 61).run Try.prog w = .ok (.agg #[]) w := by kernel_rfl
/-- '_, in = s.elements[x]'. -/
theorem Ss.look {B : Nat} {w : World} {Sb : Nat} {mo : Option Nat} {l : List Int} (h : Ss B w Sb mo l) {k : Int} (hk : (Lit.int .i64 k).wf = true) : (Instr.lookup 41 (.map mo) (.int .i64 k) true).run Try.prog w = .ok (.tuple #[.agg #[], .bool (decide (k ∈ l))]) w := by
  obtain ⟨-, -, hM⟩ := h
  rcases hM with ⟨rfl, rfl⟩ | ⟨Mb, D, rfl, -, -, ho, hr, -⟩
  · have := Maps.look_nil (w := w) true law Try.underlying41 (zeroU w) (hkey hk)
    simpa using this
  · obtain ⟨v, ps, hrun, hv⟩ := World.ownsMap.look_ok ho law Try.underlying41 (zeroU w) unitElem_mk (hkey hk)
    obtain ⟨rfl, -⟩ := unitElem_inv hv
    rw [hr k] at hrun
    exact hrun
/-- 'len(s.elements)'. -/
theorem Ss.len {B : Nat} {w : World} {Sb : Nat} {mo : Option Nat} {l : List Int} (h : Ss B w Sb mo l) (ty : TypeId) : (Builtin.len_ #[41] ty #[.map mo]).run Try.prog w = .ok (.int .i64 (l.length : Int)) w := by
  obtain ⟨-, -, hM⟩ := h
  rcases hM with ⟨rfl, rfl⟩ | ⟨Mb, D, rfl, -, -, ho, -, hs⟩
  · exact Maps.len_nil Try.underlying41 ty
  · have := ho.len Try.underlying41 ty
    rw [hs] at this
    exact this
/-- 's.elements[x] = struct{}{}'. -/
theorem Ss.put {B : Nat} {w : World} {Sb Mb : Nat} {l : List Int} (h : Ss B w Sb (some Mb) l) (hl : l.length ≤ 1000000) {k : Int} (hk : (Lit.int .i64 k).wf = true) :
    ∃ w', (Instr.mapUpdate 41 (.map (some Mb)) (.int .i64 k) (.agg #[])).run Try.prog w = .ok () w' ∧ Ss B w' Sb (some Mb) (if k ∈ l then l else l ++ [k]) ∧ Fr (fun i => i = Mb) w w' := by
  obtain ⟨hB, hS, hM⟩ := h
  rcases hM with ⟨e, -⟩ | ⟨Mb', D, e, hb, hne, ho, hr, hs⟩
  · cases e
  · cases e
    obtain ⟨w5, hrun, hown5, hturn⟩ := World.ownsMap.store ho law Try.underlying41 (by unfold maxLen; omega) (hkey hk) unitElem_mk
    have hf := fr_turned hturn
    have hsz : Maps.size (D.put (kL k) (.agg [])) = (if k ∈ l then l else l ++ [k]).length := by
      rw [Maps.size_put (ho.tidy law), hr k, hs]
      by_cases hkl : k ∈ l <;> simp [hkl]
    refine ⟨w5, hrun, ⟨hB, (hf.heap (block_lt hS) (fun e => hne e.symm)).trans hS, .inr ⟨Mb, _, rfl, hb, hne, ?_, fun j => ?_, hsz⟩⟩, hf⟩
    · obtain ⟨es, clock, hb', F, hs', hD⟩ := hown5
      refine ⟨es, clock, hb', F, ?_, hD⟩
      have h1 := congrArg Maps.size hD
      rw [hsz] at h1
      simp only [Maps.size, Go.length_sorted, List.length_map, Array.length_toList] at h1
      omega
    · by_cases hj : j = k
      · subst hj
        rw [Maps.has_put_same ho.isMap (kL_key j)]
        by_cases hkl : j ∈ l <;> simp [hkl]
      · rw [Maps.has_put_other (fun e => hj (kL_inj e)), hr j]
        by_cases hkl : k ∈ l <;> simp [hkl, hj]
end Go.Proofs.Ytaainjkhenenoaa.Bt
