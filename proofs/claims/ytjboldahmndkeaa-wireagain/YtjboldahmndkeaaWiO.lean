/-
  The laws' works.
-/
import Derived.Test.YtjboldahmndkeaaWiFew
namespace Go.Proofs.Ytjboldahmndkeaa.Wo
open Go.RowKit Kt Pl Wi Wk Ww Wx We Wf Wy Wb Wfw
open At (RowT okT)
set_option linter.unusedVariables false
set_option linter.unusedSimpArgs false
set_option maxRecDepth 20000

def cw : Cm := ⟨1, 1, 2, 3, 0, [103], [98], [], [], 0, 0, Rcp.none, 0, 0, 0, []⟩
theorem cw_ok : checkC cw = 0 := by decide
theorem cw_bytes : encCm cw = [1, 1, 2, 3, 0, 1, 103, 1, 98, 0, 0, 0, 0, 0, 0, 0, 0, 0, 0, 0, 0] := by
  have e0 : enc 0 = [0] := by rw [enc_lt (by omega)]; rfl
  have e1 : enc 1 = [1] := by rw [enc_lt (by omega)]; rfl
  have e2 : enc 2 = [2] := by rw [enc_lt (by omega)]; rfl
  have e3 : enc 3 = [3] := by rw [enc_lt (by omega)]; rfl
  simp [encCm, cw, encN, encText, encRcp, encRg, encList, Rcp.none, e0, e1, e2, e3]
theorem RowT.nil (w : World) (ao : Option Addr) : RowT w ao [] := fun h => by simp at h
theorem Wt.row {w : World} {base : Nat} {v : Value} {bs : Bs} (h : Wt w base v bs) : ∃ ao cap, v = .slice ao bs.length cap ∧ Row w ao bs ∧ bs.length ≤ cap ∧ cap ≤ 9223372036854775807 := by
  obtain ⟨ao, cap, rfl⟩ := own_form h
  exact ⟨ao, cap, rfl, (Row.own h).2.2, (Row.own h).2.1, own_cap h⟩

set_option maxHeartbeats 1000000 in
theorem works_any (w : World) : Calls Try.prog 13 #[] w fun e w' => e = .returned (.bool true) ∧ Below w.heap.size w w' := by
  have H : Calls Try.prog 9 #[.agg (Cv cw (.slice none 0 0))] w fun e w' => ∃ v, e = .returned (.tuple #[v, .int .i64 0]) ∧ Wt w' w.heap.size v (encCm cw) ∧ Below w.heap.size w w' := cmd_ok w cw none 0 (RowT.nil _ _) (by decide) cw_ok
  rw [cw_bytes] at H
  go_enter Try.func13, Try.ntmps13
  go_wp2_with fail
  refine H.mono ?_
  rintro e w1 ⟨v, rfl, hw, hb⟩
  obtain ⟨ao, cap, rfl, hr, -, -⟩ := Wt.row hw
  have hs1 := run_string (P := Try.prog) (src := 30) (dst := 9) Try.underlying30 Try.underlying5 Try.underlying9 hr cap
  simp only [List.length_cons, List.length_nil, Nat.zero_add, Nat.reduceAdd] at hs1
  have q1 : ((S [1, 1, 2, 3, 0, 1, 103, 1, 98, 0, 0, 0, 0, 0, 0, 0, 0, 0, 0, 0, 0]).toList == [1, 1, 2, 3, 0, 1, 103, 1, 98, 0, 0, 0, 0, 0, 0, 0, 0, 0, 0, 0, 0]) = true := by rw [S_toList]; rfl
  have HB := mkH hb
  clear hw hr hb H
  go_wp2
  go_ret
  exact ⟨rfl, HB.out⟩
end Go.Proofs.Ytjboldahmndkeaa.Wo
