/-
  The walk of ChartServes.
-/
import Derived.Test.YtcpmcfagibmboabChW
namespace Go.Proofs.Ytcpmcfagibmboab.Cs
open Go.RowKit Pl Pw Pr Pf Pv Cp Ca Cb Cc Cd Ce Cf Cg Cw Gf Gk
open Cr hiding some_of
open Kt hiding mkH
open Kv
set_option linter.unusedVariables false
set_option linter.unusedSimpArgs false
set_option maxRecDepth 20000

theorem tmod6 (n : Int) : -5 ≤ n.tmod 6 ∧ n.tmod 6 ≤ 5 := by
  have h1 := Int.lt_tmod_of_pos n (show (0 : Int) < 6 by omega)
  have h2 := Int.tmod_lt_of_pos n (show (0 : Int) < 6 by omega)
  omega
theorem tmod6' (n : Int) : 0 ≤ (n.tmod 6 + 6).tmod 6 ∧ (n.tmod 6 + 6).tmod 6 ≤ 5 := by
  have h0 := tmod6 n
  have h1 := Int.tmod_nonneg 6 (show (0 : Int) ≤ n.tmod 6 + 6 by omega)
  have h2 := Int.tmod_lt_of_pos (n.tmod 6 + 6) (show (0 : Int) < 6 by omega)
  omega

theorem five_set {W : World} {n b o B : Nat} (hn : n ≠ B) (hb : b ≠ B) (u v : Value) {x0 x1 x2 x3 x4 : Option Value} (h : W.cell? ⟨n, 0, none⟩ = x0 ∧ W.cell? ⟨n, 1, none⟩ = x1 ∧ W.cell? ⟨b, o, none⟩ = x2 ∧ W.cell? ⟨b, o + 1, none⟩ = x3 ∧ W.cell? ⟨b, o + 2, none⟩ = x4) :
    ((W.setCell ⟨B, 0, none⟩ u).setCell ⟨B, 1, none⟩ v).cell? ⟨n, 0, none⟩ = x0 ∧ ((W.setCell ⟨B, 0, none⟩ u).setCell ⟨B, 1, none⟩ v).cell? ⟨n, 1, none⟩ = x1 ∧ ((W.setCell ⟨B, 0, none⟩ u).setCell ⟨B, 1, none⟩ v).cell? ⟨b, o, none⟩ = x2 ∧ ((W.setCell ⟨B, 0, none⟩ u).setCell ⟨B, 1, none⟩ v).cell? ⟨b, o + 1, none⟩ = x3 ∧ ((W.setCell ⟨B, 0, none⟩ u).setCell ⟨B, 1, none⟩ v).cell? ⟨b, o + 2, none⟩ = x4 := by
  refine ⟨?_, ?_, ?_, ?_, ?_⟩
  · rw [cell_other hn, cell_other hn]; exact h.1
  · rw [cell_other hn, cell_other hn]; exact h.2.1
  · rw [cell_other hb, cell_other hb]; exact h.2.2.1
  · rw [cell_other hb, cell_other hb]; exact h.2.2.2.1
  · rw [cell_other hb, cell_other hb]; exact h.2.2.2.2
theorem gd_short {ps : List Pc} (h : Gd 0 0 ps 65536) : ps.length ≤ 100000 := by have := gd_len ps 0 0 65536 h; omega
end Go.Proofs.Ytcpmcfagibmboab.Cs
