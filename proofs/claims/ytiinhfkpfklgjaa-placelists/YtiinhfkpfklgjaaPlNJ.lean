/-
  The document's Join.
-/
import Derived.Test.YtiinhfkpfklgjaaPlN
import Derived.Test.YtiinhfkpfklgjaaKitS
import Derived.BigQuiet
namespace Go.Proofs.Ytiinhfkpfklgjaa.Pnj
open Go.RowKit Pl Pw Pr Pf Pa Pj Pq Pn
open Kt hiding mkH
open Ks
set_option linter.unusedVariables false
set_option maxRecDepth 20000

theorem getD_of {b : List Int} {k : Nat} {x : Int} (h : b[k]? = some x) : b.getD k 0 = x := by simp [List.getD, h]
theorem rjoin_no {l : List Rg} {b : List Int} {k : Nat} {x : Int} (h : b[k]? = some x) (hh : has l x = false) : rjoin l b (k + 1) = rjoin l b k := by
  unfold rjoin; rw [getD_of h, hh]
  cases k <;> rfl
theorem rjoin_yes {l : List Rg} {b : List Int} {k : Nat} {x y : Int} (h : b[k]? = some x) (h2 : b[k + 1]? = some y) (hh : has l x = true) : rjoin l b (k + 1) = ext (rjoin l b k) x y := by
  show (if has l (b.getD k 0) then ext (rjoin l b k) (b.getD k 0) (b.getD (k + 1) 0) else rjoin l b k) = _
  rw [getD_of h, getD_of h2, hh, if_pos rfl]

/-- A range appended in a region that draws. -/
theorem src1D (w : World) (a b : Int) : Src Try.prog 2 36 (.slice (some ⟨w.heap.size, 0, none⟩) 1 1) 1 (E [(a, b)]) (w.alloc (.cells #[.int .i64 a, .int .i64 b] 26)) := src1 w a b

set_option maxHeartbeats 8000000 in
theorem rjoin_any (w : World) (ao : Option Addr) (cap : Nat) (l : List Rg) (hr : Rw w ao l) (hl : l.length ≤ 1000) :
    Calls Try.prog 29 #[.slice ao l.length cap] w fun e w' => ∃ v, e = .returned v ∧ Ow w' w.heap.size v (join l) ∧ Below w.heap.size w w' := by
  have hbd := bounds_any w ao cap l hr hl
  have HR := mkH hr
  have HJ := mkH (rjoin_join l)
  have hbl := bounds_len l
  have hb0 := (head_zero (isB_bounds l)).1
  have HRL := mkH (rjoin_len l (bounds l))
  clear hr
  generalize bounds l = B at hbd HJ hbl hb0 HRL
  go_enter Try.func29, Try.ntmps29
  go_wp2_with fail
  refine hbd.mono ?_
  rintro e w1 ⟨ab, cb, rfl, hN1, hb1⟩
  have HR1 := mkH (HR.out.below hb1)
  have HN1 := mkH hN1
  have HB1 := mkH hb1
  clear hbd HR hN1 hb1
  go_wp2
  go_loopw [4, 5] (fun u i wr => ∃ k : Nat, k + 1 ≤ B.length ∧ i = .int .i64 k ∧ Ow wr w1.heap.size u (rjoin l B k) ∧ Below w1.heap.size w1 wr) (fun _ i _ => B.length - (intOf i).toNat)
  case atStart => exact ⟨0, by omega, rfl, Ow.nil _ _, Below.refl _ _⟩
  case round =>
    obtain ⟨k, hk, rfl, hO, hX⟩ := hrel
    have hsz := hX.size
    by_cases hlt : k + 1 < B.length
    · obtain ⟨x, hx⟩ := some_of (show k < B.length by omega)
      obtain ⟨y, hy⟩ := some_of hlt
      obtain ⟨bk, o, rfl, hc⟩ := HN1.out (by omega)
      have u1 := hc k x hx
      have u2 := hc (k + 1) y hy
      have hbw : bk < w1.heap.size := World.block_lt_of_cell? w1 _ u1
      have hi : (k : Int) < (B.length : Int) := by omega
      have hi1 : (k : Int) + 1 < (B.length : Int) := by omega
      have hi0 : (0 : Int) ≤ (k : Int) := by omega
      have hi2 : (0 : Int) ≤ (k : Int) + 1 := by omega
      have wk : IntKind.i64.wrap ((k : Int) + 1) = (k : Int) + 1 := by rw [IntKind.wrap_i64]; omega
      have hrl := HRL.out k
      have hf := rfind_any wr ao cap l x (HR1.out.below hX) (by omega)
      have v1 := (hX.cell (p := ⟨bk, o + k, none⟩) hbw).trans u1
      have hfn := fnd_neg l x 0
      have HXX := mkH hx
      have HYY := mkH hy
      have HU : Hid (∀ W, Below w1.heap.size w1 W → W.cell? ⟨bk, o + k, none⟩ = some (.int .i64 x) ∧ W.cell? ⟨bk, o + (k + 1), none⟩ = some (.int .i64 y)) :=
        mkH (fun W hW => ⟨(hW.cell (p := ⟨bk, o + k, none⟩) hbw).trans u1, (hW.cell (p := ⟨bk, o + (k + 1), none⟩) hbw).trans u2⟩)
      clear hc hx hy u1 u2
      have HX := mkH hX
      have HO := mkH hO
      have HF := mkH hf
      clear hX hO hf
      generalize fnd l x 0 = F at hfn HF
      cases hq : has l x
      · have hF : F < 0 := hfn.2 hq
        have HS := mkH (rjoin_no HXX.out hq)
        clear hfn
        go_wp2_with fail
        refine (HF.out).mono ?_
        rintro e w2 ⟨rfl, hg2⟩
        have hO2 := HO.out.below hg2.below
        have hX2 := HX.out.trans (hg2.below.mono HX.out.size)
        rw [← HS.out] at hO2
        clear hg2 HO HX HF HS v1
        go_wp2
        go_roundw
        case rel => exact ⟨k + 1, by omega, by go_num, hO2, hX2⟩
        case measure => simp [intOf]; omega
      · have hF : ¬ F < 0 := fun h => by rw [hfn.1 h] at hq; cases hq
        have HS := mkH (rjoin_yes HXX.out HYY.out hq)
        clear hfn
        go_wp2_with fail
        refine (HF.out).mono ?_
        rintro e w2 ⟨rfl, hg2⟩
        have hO2 := HO.out.below hg2.below
        have hX2 := HX.out.trans (hg2.below.mono HX.out.size)
        have hu := HU.out w2 hX2
        have v1 := hu.1
        have v2 := hu.2
        clear hg2 HO HX HF hu
        generalize rjoin l B k = out at hO2 HS hrl
        have HX2 := mkH hX2
        clear hX2
        rcases List.eq_nil_or_concat out with rfl | ⟨j, ⟨c, d⟩, ej⟩
        · obtain ⟨aoj, capj, rfl, -, -⟩ := hO2.form
          rw [ext_nil] at HS
          have HO2 := mkH hO2
          clear hO2
          have tf : decide ((0 : Int) > 0) = false := rfl
          go_wp2_with fail
          go_quiet (fail)
          have hXz : Below w1.heap.size w1 (w2.drewN nq) := ⟨HX2.out.os, HX2.out.tape, HX2.out.output, HX2.out.size, HX2.out.block⟩
          have hOz : Ow (w2.drewN nq) w1.heap.size (.slice aoj 0 capj) (([] : List Rg)) := HO2.out.below ⟨rfl, rfl, rfl, Nat.le_refl _, fun _ _ => rfl⟩
          have hu := HU.out _ hXz
          have z1 := hu.1
          have z2 := hu.2
          have hszz := hXz.size
          clear v1 v2 hu HO2 HX2
          generalize (w2.drewN nq) = wz at *
          have hbz := ((Below.refl wz.heap.size wz).alloc (Nat.le_refl _) (.cells #[.int .i64 x, .int .i64 y] 26)).drew
          have HOz := mkH (hOz.below hbz)
          have HXz := mkH (hXz.trans (hbz.mono hXz.size))
          have HSRC : Hid (Src Try.prog 2 36 (.slice (some ⟨wz.heap.size, 0, none⟩) 1 1) 1 (E [(x, y)]) ((wz.alloc (.cells #[.int .i64 x, .int .i64 y] 26)).drew)) := mkH ((Rw.src (P := Try.prog) Try.underlying36 ((Rw_new wz [(x, y)] 26).below (Below.refl _ _).drew) 1))
          have HK0 : Hid (∀ W, Below w1.heap.size w1 W → W.cell? ⟨bk, o + k, none⟩ = some (.int .i64 x) ∧ W.cell? ⟨bk, o + (k + 1), none⟩ = some (.int .i64 y)) := HU
          have HXd := mkH hXz.drew
          clear hOz hXz hbz
          go_wp2_with fail
          go_region_held3 (fun W => W.cell? ⟨bk, o + k, none⟩ = some (.int .i64 x) ∧ W.cell? ⟨bk, o + (k + 1), none⟩ = some (.int .i64 y)) (first | exact hkeep | exact HK0.out _ HXd.out | exact HK0.out _ HXz.out | go_keep) (first
            | (refine atApp (.tmp 50) (.tmp 61) 36 36 ?_ ?_; rfl; refine step_append_own_src (by rfl) (.tmp 50) (.tmp 61) 36 36 (by rfl) w1.heap.size 26 (.agg #[.int .i64 0, .int .i64 0]) 2 16 Try.underlying36 info26 (by rfl) (by decide) _ 0 (E (([] : List Rg))) (by rfl) (by exact HOz.out) (.slice (some ⟨wz.heap.size, 0, none⟩) 1 1) 1 (E [(x, y)]) (by rfl) (by exact HSRC.out) (by unfold maxLen; first | omega | simp) (by first | omega | simp) (by first | omega | (simp; omega)) ?_; intro v3 w3 hown3 hgrow3; have hX3 : Below w1.heap.size w1 w3 := (by exact below_own HOz.out hgrow3 HXz.out (by simp; omega)); have hkeep := HK0.out w3 hX3))
          have hO3 : Ow w3 w1.heap.size v3 (rjoin l B (k + 1)) := by
            rw [HS.out]
            exact hown3
          clear hown3 hgrow3 hkeep HOz HXz HSRC HK0 z1 z2
          go_wp2
          go_roundw
          case rel => exact ⟨k + 1, by omega, by go_num, hO3, hX3⟩
          case measure => simp [intOf]; omega
        · rw [List.concat_eq_append] at ej
          subst ej
          obtain ⟨g, cap3, rfl, y1, y2, yg, yb, yc, yd, yst⟩ := Ow_last hO2
          rw [ext_snoc] at HS
          rw [List.length_append, List.length_singleton] at hrl
          have HO := mkH hO2
          have HST := mkH yst
          clear hO2 yst
          generalize hm : j.length = m at *
          have t0 : (0 : Int) ≤ (m : Int) := by omega
          by_cases hd : d = x
          · subst hd
            have td : ((d : Int) == d) = true := by simp
            have t1 : (m : Int) < (m : Int) + 1 := by omega
            have wm : IntKind.i64.wrap (m : Int) = (m : Int) := by rw [IntKind.wrap_i64]; omega
            go_wp2_with fail
            go_quiet (fail)
            have hXz : Below w1.heap.size w1 (w2.drewN nq) := ⟨HX2.out.os, HX2.out.tape, HX2.out.output, HX2.out.size, HX2.out.block⟩
            have hOz : Ow (w2.drewN nq) w1.heap.size (.slice (some ⟨g, 0, none⟩) (m + 1) cap3) (j ++ [(c, d)]) := HO.out.below (w' := w2.drewN nq) ⟨rfl, rfl, rfl, Nat.le_refl _, fun _ _ => rfl⟩
            obtain ⟨g', cap', hv', y1', y2', yg', yb', yc', yd', yst'⟩ := Ow_last hOz
            rw [hm] at hv' y1' y2' yst'
            simp only [Value.slice.injEq, Option.some.injEq, Addr.mk.injEq, and_true, true_and] at hv'
            obtain ⟨rfl, rfl⟩ := hv'
            have hu := HU.out _ hXz
            have z1 := hu.1
            have z2 := hu.2
            clear v1 v2 hu HO HX2 hOz HST y1 y2
            generalize (w2.drewN nq) = wz at *
            obtain ⟨hO3, hg3⟩ := yst' y
            have HX3 := mkH (hXz.grown hg3 hXz.size (fun q hq => by injection hq with hq; omega))
            have HO3 := mkH hO3
            clear yst' hO3 hg3 hXz
            go_wp2
            go_roundw
            case rel => exact ⟨k + 1, by omega, by go_num, by rw [HS.out, if_pos (by first | exact rfl | exact trivial)]; exact HO3.out, HX3.out⟩
            case measure => simp [intOf]; omega
          · have t1 : (m : Int) < (m : Int) + 1 := by omega
            have td : ((d : Int) == x) = false := by simp [hd]
            have wm : IntKind.i64.wrap (m : Int) = (m : Int) := by rw [IntKind.wrap_i64]; omega
            go_wp2_with fail
            go_quiet (fail)
            have hXz : Below w1.heap.size w1 (w2.drewN nq) := ⟨HX2.out.os, HX2.out.tape, HX2.out.output, HX2.out.size, HX2.out.block⟩
            have hOz : Ow (w2.drewN nq) w1.heap.size (.slice (some ⟨g, 0, none⟩) (m + 1) cap3) (j ++ [(c, d)]) := (by have := HO.out.below (w' := w2.drewN nq) ⟨rfl, rfl, rfl, Nat.le_refl _, fun _ _ => rfl⟩; simpa [hm] using this)
            have hu := HU.out _ hXz
            have z1 := hu.1
            have z2 := hu.2
            have hszz := hXz.size
            clear v1 v2 hu HO HX2
            generalize (w2.drewN nq) = wz at *
            have hbz := ((Below.refl wz.heap.size wz).alloc (Nat.le_refl _) (.cells #[.int .i64 x, .int .i64 y] 26)).drew
            have HOz := mkH (hOz.below hbz)
            have HXz := mkH (hXz.trans (hbz.mono hXz.size))
            have HSRC : Hid (Src Try.prog 2 36 (.slice (some ⟨wz.heap.size, 0, none⟩) 1 1) 1 (E [(x, y)]) ((wz.alloc (.cells #[.int .i64 x, .int .i64 y] 26)).drew)) := mkH ((Rw.src (P := Try.prog) Try.underlying36 ((Rw_new wz [(x, y)] 26).below (Below.refl _ _).drew) 1))
            have HK0 : Hid (∀ W, Below w1.heap.size w1 W → W.cell? ⟨bk, o + k, none⟩ = some (.int .i64 x) ∧ W.cell? ⟨bk, o + (k + 1), none⟩ = some (.int .i64 y)) := HU
            have HXd := mkH hXz.drew
            have HOz : Hid (((wz.alloc (.cells #[.int .i64 x, .int .i64 y] 26)).drew).ownsRow w1.heap.size 26 2 (.slice (some ⟨g, 0, none⟩) (m + 1) cap3) (m + 1) (E (j ++ [(c, d)]))) := mkH (by
              have h5 := HOz.out
              unfold Ow at h5
              rwa [show (j ++ [(c, d)]).length = m + 1 by simp [hm]] at h5)
            clear hOz hXz hbz
            go_wp2_with fail
            go_region_held3 (fun W => W.cell? ⟨bk, o + k, none⟩ = some (.int .i64 x) ∧ W.cell? ⟨bk, o + (k + 1), none⟩ = some (.int .i64 y)) (first | exact hkeep | exact HK0.out _ HXd.out | exact HK0.out _ HXz.out | go_keep) (first
              | (refine atApp (.tmp 50) (.tmp 61) 36 36 ?_ ?_; rfl; refine step_append_own_src (by rfl) (.tmp 50) (.tmp 61) 36 36 (by rfl) w1.heap.size 26 (.agg #[.int .i64 0, .int .i64 0]) 2 16 Try.underlying36 info26 (by rfl) (by decide) _ (m + 1) (E (j ++ [(c, d)])) (by rfl) (by exact HOz.out) (.slice (some ⟨wz.heap.size, 0, none⟩) 1 1) 1 (E [(x, y)]) (by rfl) (by exact HSRC.out) (by unfold maxLen; first | omega | simp) (by first | omega | simp) (by first | omega | (simp; omega)) ?_; intro v3 w3 hown3 hgrow3; have hX3 : Below w1.heap.size w1 w3 := (by exact below_own HOz.out hgrow3 HXz.out (by simp; omega)); have hkeep := HK0.out w3 hX3))
            have hO3 : Ow w3 w1.heap.size v3 (rjoin l B (k + 1)) := by
              rw [HS.out, if_neg (by exact hd)]
              unfold Ow
              rw [E_append, List.length_append, show (j ++ [(c, d)]).length = m + 1 by simp [hm]]
              exact hown3
            clear hown3 hgrow3 hkeep HOz HXz HSRC HK0 z1 z2
            go_wp2
            go_roundw
            case rel => exact ⟨k + 1, by omega, by go_num, hO3, hX3⟩
            case measure => simp [intOf]; omega
    · have : k + 1 = B.length := by omega
      have hk2 : k = B.length - 1 := by omega
      subst hk2
      rw [HJ.out] at hO
      go_wp2
      go_ret
      exact ⟨_, rfl, Pc.Ow.mono hO HB1.out.size, HB1.out.trans (hX.mono HB1.out.size)⟩
end Go.Proofs.Ytiinhfkpfklgjaa.Pnj
