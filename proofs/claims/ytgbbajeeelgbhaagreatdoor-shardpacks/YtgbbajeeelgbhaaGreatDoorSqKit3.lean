/-
  What is told of a slice of strings that came in, and of a slice of numbers.
-/
import Derived.Test.YtgbbajeeelgbhaaGreatDoorSqAF
namespace Go.Proofs.YtgbbajeeelgbhaaGreatDoor.Kt
open Go.RowKit
open At (RowT)
open Ad (RowI)

def IsStrs (w : World) (a : Option Addr) (len cap : Nat) (zs : List ByteArray) : Prop :=
  (a = none ∧ len = 0 ∧ cap = 0 ∧ zs = []) ∨
  ∃ x, a = some x ∧ len ≤ cap ∧ cap ≤ maxLen ∧ zs.length = cap ∧ (∀ i, i < zs.length → w.cell? (x.add i) = some (.string (zs.getD i ByteArray.empty))) ∧ ∀ s ∈ zs, s.size ≤ maxLen

theorem isStrs_texts {w : World} {a : Option Addr} {len cap : Nat} {zs : List ByteArray} (h : IsStrs w a len cap zs) : ∃ l : List (List UInt8), l.length = len ∧ len ≤ cap ∧ cap ≤ 9223372036854775807 ∧ RowT w a l := by
  rcases h with ⟨rfl, rfl, rfl, rfl⟩ | ⟨x, rfl, hl, hm, hz, hcell, hwz⟩
  · exact ⟨[], rfl, Nat.le_refl _, by omega, fun h => by simp at h⟩
  · refine ⟨(zs.take len).map fun s => s.data.toList, by simp; omega, hl, by unfold maxLen at hm; omega, fun h0 => ?_⟩
    simp only [List.length_map, List.length_take] at h0 ⊢
    obtain ⟨b, off, spot⟩ := x
    have hc0 := hcell 0 (by omega)
    have hspot : spot = none := by simpa [Addr.add] using World.cell?_spot hc0
    subst hspot
    refine ⟨b, off, rfl, fun i hi => ?_⟩
    have hc := hcell i (by omega)
    have hp : (⟨b, off, none⟩ : Addr).add i = ⟨b, off + i, none⟩ := by unfold Addr.add; split <;> simp_all
    rw [hp] at hc
    rw [hc]
    have hiz : i < zs.length := by omega
    have hil : i < len := by omega
    have e1 : zs.getD i ByteArray.empty = zs[i] := by simp [List.getD, List.getElem?_eq_getElem hiz]
    have e2 : ((zs.take len).map fun s => s.data.toList).getD i [] = zs[i].data.toList := by
      simp [List.getD, hil, List.getElem?_eq_getElem hiz]
    rw [e1, e2]
    congr 2

theorem isRow_ints {w : World} {a : Option Addr} {len cap : Nat} {zs : List Int} (h : IsRow .i64 w a len cap zs) : ∃ l : List Int, l.length = len ∧ len ≤ cap ∧ cap ≤ 9223372036854775807 ∧ RowI w a l ∧ ∀ x ∈ l, (Lit.int .i64 x).wf = true := by
  rcases h with ⟨rfl, rfl, rfl, rfl⟩ | ⟨x, rfl, hl, hm, hz, hcell, hwz⟩
  · exact ⟨[], rfl, Nat.le_refl _, by omega, fun h => by simp at h, fun x hx => by cases hx⟩
  · refine ⟨zs.take len, by rw [List.length_take]; omega, hl, by unfold maxLen at hm; omega, fun h0 => ?_, fun x hx => hwz x (List.mem_of_mem_take hx)⟩
    simp only [List.length_take] at h0 ⊢
    obtain ⟨b, off, spot⟩ := x
    have hc0 := hcell 0 (by omega)
    have hspot : spot = none := by simpa [Addr.add] using World.cell?_spot hc0
    subst hspot
    refine ⟨b, off, rfl, fun i hi => ?_⟩
    have hc := hcell i (by omega)
    have hp : (⟨b, off, none⟩ : Addr).add i = ⟨b, off + i, none⟩ := by unfold Addr.add; split <;> simp_all
    rw [hp] at hc
    rw [hc]
    have hil : i < len := by omega
    simp [List.getD, hil]
end Go.Proofs.YtgbbajeeelgbhaaGreatDoor.Kt
