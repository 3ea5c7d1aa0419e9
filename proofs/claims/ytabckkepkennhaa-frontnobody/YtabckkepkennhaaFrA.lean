/-
  The parts of an asker inside of a client: isMade, Busy, Num, Turn, isGroup, ownCmd, askAgain.
-/
import Derived.Test.YtabckkepkennhaaFrP
import Derived.Deep.QuietTactic
import Derived.BigQuiet
import Derived.Deep.CutRange
namespace Go.Proofs.Ytabckkepkennhaa.Fa
open Go.RowKit Kt Gf Gk Fp
open Go.Proofs.Ytabckkepkennhaa.Nm (Mc)
set_option linter.unusedVariables false
set_option linter.unusedSimpArgs false
set_option maxRecDepth 20000

theorem isMade_any {w : World} {B m : Nat} {a : As} {k : Kl} (h : Bx w B (Xc k a (.map (some m))) 57) :
    Calls Try.prog 38 #[.pointer (some ⟨B, 0, none⟩)] w fun x w' => x = .returned (.bool true) ∧ w' = w := by
  have c26 : w.cell? ⟨B, 26, none⟩ = some (.map (some m)) := h.cell 26 _ rfl
  have hq := neq_map (P := Try.prog) w 51 _ _ (some m) Try.underlying51
  simp only [Option.isSome] at hq
  clear h
  go_enter Try.func38, Try.ntmps38
  go_wp2
  go_ret
  exact ⟨rfl, rfl⟩
theorem Busy_any {w : World} {B m : Nat} {a : As} {k : Kl} (h : Bx w B (Xc k a (.map (some m))) 57) :
    Calls Try.prog 18 #[.pointer (some ⟨B, 0, none⟩)] w fun x w' => x = .returned (.bool a.asks) ∧ w' = w := by
  have c23 : w.cell? ⟨B, 23, none⟩ = some (.bool a.asks) := h.cell 23 _ rfl
  have HM := mkH (isMade_any h)
  clear h
  go_enter Try.func18, Try.ntmps18
  go_wp2_with (refine HM.out.mono ?_; rintro x w1 ⟨rfl, rfl⟩)
  go_ret
  exact ⟨rfl, rfl⟩
theorem isGroup_any (w : World) (g : Int) : Calls Try.prog 39 #[.int .i64 g] w fun x w' => x = .returned (.bool (decide (0 ≤ g ∧ g ≤ 6))) ∧ w' = w := by
  by_cases h0 : 0 ≤ g
  · by_cases h6 : g ≤ 6
    · rw [show decide (0 ≤ g ∧ g ≤ 6) = true from decide_eq_true ⟨h0, h6⟩]
      go_enter Try.func39, Try.ntmps39
      go_wp2
      go_ret
      exact ⟨rfl, rfl⟩
    · rw [show decide (0 ≤ g ∧ g ≤ 6) = false from decide_eq_false (fun x => h6 x.2)]
      go_enter Try.func39, Try.ntmps39
      go_wp2
      go_ret
      exact ⟨rfl, rfl⟩
  · rw [show decide (0 ≤ g ∧ g ≤ 6) = false from decide_eq_false (fun x => h0 x.1)]
    go_enter Try.func39, Try.ntmps39
    go_wp2
    go_ret
    exact ⟨rfl, rfl⟩
theorem infoC : (Try.prog.info? 32).map (·.size) = some 19 := by kernel_rfl
theorem load_c {w : World} {b : Nat} {c : Cm} {t : TypeId} (h : Bx w b (cV c) t) : (loadVar 32 ⟨b, 0, none⟩).run Try.prog w = .ok (.agg (cV c)) w := load_bx (P := Try.prog) h Try.underlying32 rfl infoC
theorem eql_nil {P : Program} (w : World) (t e : TypeId) (a : Option Addr) (l c : Nat) (h : P.underlying t = some (.slice e)) : (binOp .eql t (.slice a l c) (.slice none 0 0)).run P w = .ok (.bool a.isNone) w := Nr.eql_nil w t e a l c h
theorem cloneS_nil (w : World) : Calls Try.prog 46 #[.slice none 0 0] w fun x w' => x = .returned (.slice none 0 0) ∧ w' = w := by
  have hq := eql_nil (P := Try.prog) w 30 9 none 0 0 Try.underlying30
  simp only [Option.isNone] at hq
  go_enter Try.func46, Try.ntmps46
  go_wp2
  go_ret
  exact ⟨rfl, rfl⟩
set_option maxHeartbeats 1000000 in
theorem ownCmd_any (w : World) (c : Cm) : Calls Try.prog 40 #[.agg (cV c)] w fun x w' => x = .returned (.agg (cV c)) ∧ Below w.heap.size w w' := by
  obtain ⟨V, hV⟩ : ∃ V, V = (w.alloc (.cells (cV c) 32)).alloc (.cells (cV Cm.none) 32) := ⟨_, rfl⟩
  have hb1 : Below w.heap.size w V := by rw [hV]; exact ((Below.refl _ w).alloc (Nat.le_refl _) _).alloc (by simp) _
  have hx1 : Bx V w.heap.size (cV c) 32 := by rw [hV]; exact (Bx.new _ _ _).alloc _
  have hx2 : Bx V (w.heap.size + 1) (cV Cm.none) 32 := by rw [hV]; exact Bx.new1 _ _ _ _
  have c18 : V.cell? ⟨w.heap.size, 18, none⟩ = some (.slice none 0 0) := hx1.cell 18 _ rfl
  have HCL := mkH (cloneS_nil V)
  have f18 : V.frozen? ⟨w.heap.size, 18, none⟩ = false := hx1.frozen 18
  have hy1 : Bx (V.setCell ⟨w.heap.size, 18, none⟩ (.slice none 0 0)) w.heap.size (cV c) 32 := Bx.setTo hx1 18 _ rfl
  have hy2 : Bx (V.setCell ⟨w.heap.size, 18, none⟩ (.slice none 0 0)) (w.heap.size + 1) (cV Cm.none) 32 := hx2.other (by simp) _
  have hb2 : Below w.heap.size w (V.setCell ⟨w.heap.size, 18, none⟩ (.slice none 0 0)) := hb1.setCell (Nat.le_refl _) _
  have HY1 := mkH hy1
  have HY2 := mkH hy2
  have HB2 := mkH hb2
  have HV := mkH hV
  clear hx1 hx2 hb1 hy1 hy2 hb2 hV
  go_enter Try.func40, Try.ntmps40
  go_upto_region 1 with fail
  change Code.wp _ _ _ _ ((w.alloc (.cells (cV c) 32)).alloc (.cells (cV Cm.none) 32))
  rw [show (w.alloc (.cells (cV c) 32)).alloc (.cells (cV Cm.none) 32) = V from HV.out.symm]
  go_wp2_with (first | (refine HCL.out.mono ?_; rintro x w2 ⟨rfl, rfl⟩) | (refine Gk.wpList_ld (ty := 32) (x := .tmp 1) (p := ⟨w.heap.size, 0, none⟩) (v := .agg (cV c)) rfl rfl rfl (load_c HY1.out) ?_) | (refine Gk.wpList_st rfl (ty := 32) (x := .tmp 2) (y := .tmp 7) (cs := cV c) (old := cV Cm.none) rfl rfl rfl HY2.out infoC rfl (cV_one c) ?_))
  have hz := HY2.out.row (cs := cV c)
  refine bodyPost_ret (Gk.res_c rfl _ _ _ rfl (load_c hz)) rfl ?_
  exact ⟨rfl, below_setRow HB2.out (by omega) _⟩
end Go.Proofs.Ytabckkepkennhaa.Fa
