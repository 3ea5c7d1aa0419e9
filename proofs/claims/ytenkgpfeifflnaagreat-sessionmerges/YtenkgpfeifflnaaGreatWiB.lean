/-
  What the laws share: data, few, works.
-/
import Derived.Test.YtenkgpfeifflnaaGreatWiY
import Derived.Test.YtenkgpfeifflnaaGreatWiS
import Derived.Deep.RegionHeld3
namespace Go.Proofs.YtenkgpfeifflnaaGreat.Wb
open Go.RowKit Kt Pl Wi Wk Ww Wx Wf Wy
open At (RowT okT)
set_option linter.unusedVariables false
set_option linter.unusedSimpArgs false
set_option maxRecDepth 20000

theorem S_take (s : Bs) (n : Nat) : (S s).extract 0 n = S (s.take n) := by
  apply ByteArray.ext
  simp [S, ByteArray.data_extract]

theorem S_all (s : Bs) : (S s).extract 0 (S s).size = S s := by
  have := S_take s s.length
  rw [List.take_of_length_le (Nat.le_refl _)] at this
  exact this

/-- What the laws' 'data' leaves. -/
def dataC (l : List Bs) : List Bs := (l.take 1100).map (·.take 4100)
theorem dataC_len (l : List Bs) : (dataC l).length ≤ 1100 := by unfold dataC; rw [List.length_map, List.length_take]; omega
theorem dataC_snoc {l : List Bs} {k : Nat} {x : Bs} (h : l[k]? = some x) (hk : k < 1100) : dataC (l.take (k + 1)) = dataC (l.take k) ++ [x.take 4100] := by
  unfold dataC
  rw [List.take_take, List.take_take, show min 1100 (k + 1) = k + 1 by omega, show min 1100 k = k by omega, List.take_add_one, h]
  simp
theorem dataC_take {l : List Bs} {k : Nat} (hk : k ≤ 1100) : (dataC (l.take k)).length ≤ k := by unfold dataC; rw [List.length_map, List.length_take, List.length_take]; omega
theorem dataC_all {l : List Bs} {k : Nat} (hk : k = l.length ∨ k = 1100) : dataC (l.take k) = dataC l := by
  unfold dataC
  rcases hk with rfl | rfl
  · rw [List.take_of_length_le (l := l) (Nat.le_refl _)]
  · rw [List.take_take]; simp
theorem info9 : (Tryz.prog.info? 9).map (fun i => (i.zero, i.size, i.bytes)) = some (some (.string ByteArray.empty), 1, 16) := by kernel_rfl
theorem own_snoc {w : World} {base e : Nat} {v : Value} {l : List Bs} {n : Bs} (h : w.ownsRow base e 1 v (l.length + 1) (T l ++ [.string (S n)])) : w.ownsRow base e 1 v (l ++ [n]).length (T (l ++ [n])) := by
  rw [List.length_append, T_append]; exact h
theorem own_lt {w : World} {base e n : Nat} {ao : Option Addr} {cap : Nat} {xs : List Value} (h : w.ownsRow base e 1 (.slice ao n cap) n xs) : ∀ a, ao = some a → base ≤ a.block := by
  rintro a rfl
  rcases h.2 with ⟨e1, _⟩ | ⟨g, c, cur, e1, h2, _⟩
  · simp at e1
  · simp only [Value.slice.injEq, Option.some.injEq] at e1
    rw [e1.1]; exact h2

/-- A slice of texts, of memory since w. -/
def TextsOut (w : World) (l : List Bs) (e : Ending) (w' : World) : Prop := ∃ ao' cap', e = .returned (.slice ao' l.length cap') ∧ RowT w' ao' l ∧ (∀ a, ao' = some a → w.heap.size ≤ a.block) ∧ Below w.heap.size w w'
end Go.Proofs.YtenkgpfeifflnaaGreat.Wb
