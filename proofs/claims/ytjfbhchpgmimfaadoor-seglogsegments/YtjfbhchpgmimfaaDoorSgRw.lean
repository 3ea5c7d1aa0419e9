/-
  A slice of slices of bytes that came in: what it reads as.
-/
import Derived.Test.YtjfbhchpgmimfaaDoorSgX
import Derived.ChangeSlices
namespace Go.Proofs.YtjfbhchpgmimfaaDoor.Co
open Go.RowKit Go.ChangeShapes Kt Cs
set_option linter.unusedVariables false

def RowB (w : World) (ao : Option Addr) (ps : List Part) : Prop := 0 < ps.length → ∃ b off, ao = some ⟨b, off, none⟩ ∧ ∀ i p, ps[i]? = some p → w.cell? ⟨b, off + i, none⟩ = some (.slice p.ao p.bs.length p.cap) ∧ Row w p.ao p.bs ∧ p.bs.length ≤ p.cap ∧ p.cap ≤ 9223372036854775807
def IsRows (w : World) (a : Option Addr) (len cap : Nat) (ps : List Part) : Prop := ps.length = len ∧ len ≤ cap ∧ cap ≤ 9223372036854775807 ∧ RowB w a ps

theorem build {α : Type} (Q : Nat → α → Prop) : ∀ n, (∀ i, i < n → ∃ x, Q i x) → ∃ l : List α, l.length = n ∧ ∀ i x, l[i]? = some x → Q i x
  | 0, _ => ⟨[], rfl, fun i x h => by simp at h⟩
  | n + 1, h => by
    obtain ⟨l, hl, hq⟩ := build Q n (fun i hi => h i (by omega))
    obtain ⟨x, hx⟩ := h n (by omega)
    refine ⟨l ++ [x], by simp [hl], fun i y hy => ?_⟩
    rcases Nat.lt_or_ge i l.length with hi | hi
    · rw [List.getElem?_append_left hi] at hy
      exact hq i y hy
    · have hlen := (List.getElem?_eq_some_iff.1 hy).1
      simp at hlen
      have hin : i = n := by omega
      subst hin
      rw [List.getElem?_append_right hi] at hy
      simp [hl] at hy
      subst hy
      exact hx

theorem isRow_len {w : World} {x : Addr} {len cap : Nat} {zs : List Int} (hl : len ≤ cap) (hm : cap ≤ maxLen) (hz : len ≤ zs.length) (hcell : ∀ i, i < zs.length → w.cell? (x.add i) = some (.int .u8 (zs.getD i 0))) (hwz : ∀ n ∈ zs, (Lit.int .u8 n).wf = true) : ∃ bs : List UInt8, bs.length = len ∧ len ≤ cap ∧ cap ≤ 9223372036854775807 ∧ Row w (some x) bs := by
  refine ⟨(zs.take len).map fun n => UInt8.ofNat n.toNat, by simp; omega, hl, by unfold maxLen at hm; omega, fun h0 => ?_⟩
  simp only [List.length_map, List.length_take] at h0 ⊢
  obtain ⟨b, off, spot⟩ := x
  have hc0 := hcell 0 (by omega)
  have hspot : spot = none := by simpa [Addr.add] using World.cell?_spot hc0
  subst hspot
  refine ⟨b, off, rfl, fun i hi => ?_⟩
  have hc := hcell i (by omega)
  have hp : (⟨b, off, none⟩ : Addr).add i = ⟨b, off + i, none⟩ := by unfold Addr.add; split <;> simp_all
  rw [hp] at hc
  rw [hc]
  have hiz : i < zs.length := by omega
  have hil : i < len := by omega
  have hb := bounds_u8 (hwz zs[i] (List.getElem_mem hiz))
  have e1 : zs.getD i 0 = zs[i] := by simp [List.getD, List.getElem?_eq_getElem hiz]
  have e2 : ((zs.take len).map fun n => UInt8.ofNat n.toNat).getD i 0 = UInt8.ofNat zs[i].toNat := by
    simp [List.getD, hil, List.getElem?_eq_getElem hiz]
  rw [e1, e2]
  have : (UInt8.ofNat zs[i].toNat).toNat = zs[i].toNat := by simp [UInt8.toNat_ofNat']; omega
  rw [this]
  congr 2
  omega

theorem open_rows {H : Type} {enc : TypeId × Value → H} {P : Program} {w : World} {base : Nat} {spare : Nat → Bool} {held : Bool} {fuel : Nat} {t e f : TypeId} {a : Option Addr} {len cap : Nat} {x : DataW H × List MemPlace}
    (ht : P.underlying t = some (.slice e)) (he : P.underlying e = some (.slice f)) (hf : P.underlying f = some (.int .u8)) (hce : P.cellsOf e = 1) (hcf : P.cellsOf f = 1)
    (h : DataW.trod enc P w base spare held fuel t (Value.slice a len cap).cells.toList = some x) : ∃ ps, IsRows w a len cap ps := by
  rcases DataW.trod_slice ht h with ⟨hcs, _⟩ | ⟨a', len', cap', elems, rest, n, _, hcs, _, hb, hl, hm, hlen, hel, hsp, hns⟩
  · simp [Value.cells] at hcs
    obtain ⟨rfl, rfl, rfl⟩ := hcs
    exact ⟨[], rfl, Nat.le_refl _, by omega, fun hl => by simp at hl⟩
  · simp [Value.cells] at hcs
    obtain ⟨rfl, rfl, rfl⟩ := hcs
    have each : ∀ i, i < len → ∃ p : Part, w.cell? (a'.add i) = some (.slice p.ao p.bs.length p.cap) ∧ Row w p.ao p.bs ∧ p.bs.length ≤ p.cap ∧ p.cap ≤ 9223372036854775807 := by
      intro i hi
      have h1 := hel i hi
      rw [List.getElem?_eq_getElem (by omega), hce, Nat.mul_one, Option.bind_eq_some_iff] at h1
      obtain ⟨cs', hcs', hy⟩ := h1
      rcases open_ints he hf hcf hy with ⟨hc0, _⟩ | ⟨y, l, c, zs, hc0, _, hll, hmm, hzz, _, hcell, hwz⟩
      · subst hc0
        exact ⟨⟨none, 0, []⟩, cell_of_cells?_one hcs', Row.nil _ _, Nat.le_refl _, by simp⟩
      · subst hc0
        have hir : ∃ bs : List UInt8, bs.length = l ∧ l ≤ c ∧ c ≤ 9223372036854775807 ∧ Row w (some y) bs := isRow_len hll hmm (by split at hzz <;> omega) hcell hwz
        obtain ⟨bs, hbl, hlc, hcm, hrow⟩ := hir
        refine ⟨⟨some y, c, bs⟩, ?_, hrow, by simp only; omega, hcm⟩
        simp only
        rw [hbl]
        exact cell_of_cells?_one hcs'
    obtain ⟨ps, hps, hq⟩ := build _ len each
    refine ⟨ps, hps, hl, by unfold maxLen at hm; omega, fun h0 => ?_⟩
    obtain ⟨b, off, spot⟩ := a'
    have h00 := (hq 0 (ps[0]'h0) (List.getElem?_eq_getElem h0)).1
    have hspot : spot = none := by simpa [Addr.add] using World.cell?_spot h00
    subst hspot
    refine ⟨b, off, rfl, fun i p hp => ?_⟩
    have := hq i p hp
    rw [show (⟨b, off, none⟩ : Addr).add i = ⟨b, off + i, none⟩ by unfold Addr.add; split <;> simp_all] at this
    exact this
end Go.Proofs.YtjfbhchpgmimfaaDoor.Co
