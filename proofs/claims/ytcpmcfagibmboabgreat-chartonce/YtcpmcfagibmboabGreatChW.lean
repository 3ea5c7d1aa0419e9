/-
  The chapter's example: works.
-/
import Derived.Test.YtcpmcfagibmboabGreatChG
namespace Go.Proofs.YtcpmcfagibmboabGreat.Cw
open Go.RowKit Pl Pw Pr Pf Pv Cp Ca Cb Cc Cd Ce Cf Cg Gf Gk
open Cr hiding some_of
open Kt hiding mkH
open Kv
set_option linter.unusedVariables false
set_option linter.unusedSimpArgs false
set_option maxRecDepth 20000

def A2 : List Pc := [(0, 32768, 1), (32768, 65536, 2)]
def B2 : List Pc := [(0, 32768, 1), (32768, 40000, 2), (40000, 65536, 1)]
theorem gdA : Gd 0 0 A2 65536 := by simp only [A2, Gd]; decide
theorem gdB : Gd 0 0 B2 65536 := by simp only [B2, Gd]; decide
theorem mvA : mv (40000, 65536) 1 [] A2 = B2 := by decide
theorem mvB : mv (40000, 65536) 2 [] B2 = A2 := by decide
theorem e1 : fsE 2 = (1, A2, 0) := by decide
theorem e2 : mvE 1 A2 (40000, 65536) 1 = (2, B2, 0) := by
  unfold mvE
  rw [if_pos ⟨(mayC_iff _ _).2 ⟨by omega, gdA⟩, by decide, by decide⟩, mvA, if_neg (by decide), if_neg (by decide)]
  rfl
theorem e3 : mvE 2 B2 (40000, 65536) 2 = (3, A2, 0) := by
  unfold mvE
  rw [if_pos ⟨(mayC_iff _ _).2 ⟨by omega, gdB⟩, by decide, by decide⟩, mvB, if_neg (by decide), if_neg (by decide)]
  rfl

theorem chP_elim {w w' : World} {e er : Int} {l : List Pc} {x : Ending} (h : Cf.ChP w (e, l, er) x w') : ∃ (ao : Option Addr) (cap : Nat), x = .returned (.tuple #[.agg #[.int .i64 e, .slice ao l.length cap], .int .i64 er]) ∧ OwP w' w.heap.size ao cap l ∧ Below w.heap.size w w' := h

set_option maxHeartbeats 2000000 in
theorem works_any (w : World) : Calls Tryz.prog 7 #[] w fun e w' => e = .returned (.bool true) ∧ Below w.heap.size w w' := by
  go_enter Tryz.func7, Tryz.ntmps7
  go_wp2_with fail
  refine (first_any w 2).mono ?_
  rintro e w1 ⟨a1, k1, rfl, ho1, hb1⟩
  simp only [e1] at ho1 ⊢
  have HO1 := mkH (ho1.below ((Below.refl _ w1).alloc (Nat.le_refl _) (.cells #[.int .i64 1, .slice a1 2 k1] 51)))
  have HX1 : Hid (Bx (w1.alloc (.cells #[.int .i64 1, .slice a1 2 k1] 51)) w1.heap.size #[.int .i64 1, .slice a1 2 k1] 51) := mkH (Bx.new _ _ _)
  have HB1 := mkH (hb1.alloc hb1.size (.cells #[.int .i64 1, .slice a1 2 k1] 51))
  clear ho1 hb1
  have hA : A2.length = 2 := rfl
  have hB : B2.length = 3 := rfl
  have HM1 := mkH (move_any (w1.alloc (.cells #[.int .i64 1, .slice a1 2 k1] 51)) 1 a1 k1 A2 HO1.out.rd (by decide) 40000 65536 1)
  rw [hA, e2] at HM1
  go_wp2_with fail
  refine HM1.out.mono ?_
  intro x w2 hq
  obtain ⟨a2, k2, rfl, ho2, hb2⟩ := chP_elim hq
  rw [hB]
  have HO2 := mkH (ho2.below ((Below.refl _ w2).alloc (Nat.le_refl _) (.cells #[.int .i64 2, .slice a2 3 k2] 51)))
  have HX2 : Hid (Bx (w2.alloc (.cells #[.int .i64 2, .slice a2 3 k2] 51)) w2.heap.size #[.int .i64 2, .slice a2 3 k2] 51) := mkH (Bx.new _ _ _)
  have HX1' := mkH ((HX1.out.bel hb2).alloc (.cells #[.int .i64 2, .slice a2 3 k2] 51))
  have HO1' := mkH ((HO1.out.below hb2).below ((Below.refl _ w2).alloc (Nat.le_refl _) (.cells #[.int .i64 2, .slice a2 3 k2] 51)))
  have hz1 : w.heap.size ≤ (w1.alloc (.cells #[.int .i64 1, .slice a1 2 k1] 51)).heap.size := HB1.out.size
  have HB2 := mkH ((HB1.out.trans (hb2.mono hz1)).alloc (Nat.le_trans hz1 hb2.size) (.cells #[.int .i64 2, .slice a2 3 k2] 51))
  clear ho2 hb2 hq HX1 HO1 HB1 HM1
  have HM2 := mkH (move_any (w2.alloc (.cells #[.int .i64 2, .slice a2 3 k2] 51)) 2 a2 k2 B2 HO2.out.rd (by decide) 40000 65536 2)
  rw [hB, e3] at HM2
  go_wp2_with fail
  refine HM2.out.mono ?_
  intro x w3 hq
  obtain ⟨a3, k3, rfl, ho3, hb3⟩ := chP_elim hq
  rw [hA]
  have HX3 : Hid (Bx (w3.alloc (.cells #[.int .i64 3, .slice a3 2 k3] 51)) w3.heap.size #[.int .i64 3, .slice a3 2 k3] 51) := mkH (Bx.new _ _ _)
  have HX2' := mkH ((HX2.out.bel hb3).alloc (.cells #[.int .i64 3, .slice a3 2 k3] 51))
  have HX1'' := mkH ((HX1'.out.bel hb3).alloc (.cells #[.int .i64 3, .slice a3 2 k3] 51))
  have HO1'' := mkH ((HO1'.out.below hb3).below ((Below.refl _ w3).alloc (Nat.le_refl _) (.cells #[.int .i64 3, .slice a3 2 k3] 51)))
  have hz2 : w.heap.size ≤ (w2.alloc (.cells #[.int .i64 2, .slice a2 3 k2] 51)).heap.size := HB2.out.size
  have HB3 := mkH ((HB2.out.trans (hb3.mono hz2)).alloc (Nat.le_trans hz2 hb3.size) (.cells #[.int .i64 3, .slice a3 2 k3] 51))
  clear ho3 hb3 hq HX1' HX2 HO1' HO2 HB2 HM2 hz1 hz2
  have HOF := mkH (of_any (w3.alloc (.cells #[.int .i64 3, .slice a3 2 k3] 51)) 1 a1 k1 A2 HO1''.out.rd (by decide) 40000)
  rw [hA, show ofL A2 40000 = 2 by decide] at HOF
  obtain ⟨x0, x1, -, -⟩ := two_load (P := Tryz.prog) HX1''.out
  obtain ⟨y0, y1, -, -⟩ := two_load (P := Tryz.prog) HX2'.out
  obtain ⟨z0, z1, -, -⟩ := two_load (P := Tryz.prog) HX3.out
  clear hA hB
  go_wp2_with (go_at_call 22; refine HOF.out.mono ?_; rintro x w4 ⟨rfl, hb4⟩)
  go_ret
  exact ⟨rfl, HB3.out.trans (hb4.mono HB3.out.size)⟩
end Go.Proofs.YtcpmcfagibmboabGreat.Cw
