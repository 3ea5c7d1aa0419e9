/-
  The walk of PlaceJoins.
-/
import Derived.Test.YtiinhfkpfklgjaaPlV
import Derived.Test.YtiinhfkpfklgjaaPlRn0
import Derived.BigQuiet
namespace Go.Proofs.Ytiinhfkpfklgjaa.Pjn
open Go.RowKit Pl Pw Pr Pf Pg Pa Pb Pj Pv Po
open Kt hiding mkH
set_option linter.unusedVariables false
set_option maxRecDepth 20000

theorem fnd_has (l : List Rg) (p : Int) : decide (0 ≤ fnd l p 0) = has l p := by
  have h := fnd_neg l p 0
  cases hq : has l p
  · rw [hq] at h; simp; have := h.2 rfl; omega
  · rw [hq] at h
    simp
    rcases Int.lt_or_le (fnd l p 0) 0 with h1 | h1
    · have := h.1 h1; cases this
    · exact h1
theorem canon_next {l : List Rg} (h : Canon l) {k : Nat} {x y : Rg} (hx : l[k]? = some x) (hy : l[k + 1]? = some y) : x.2 < y.1 := by
  have h1 := (List.getElem?_eq_some_iff.1 hx)
  have h2 := (List.getElem?_eq_some_iff.1 hy)
  have := List.pairwise_iff_getElem.1 h.2 k (k + 1) h1.1 h2.1 (by omega)
  rw [h1.2, h2.2] at this
  exact this
theorem q_cell {w : World} {a : Addr} {v : Value} (h : w.cell? a = some v) (n : Nat) (os : Array Obj) : (Go.Sort.grow (w.drewN n) os).cell? a = some v :=
  cell_grown (World.block_lt_of_cell? w _ h) h n os

set_option maxHeartbeats 4000000 in
theorem placeJoins (w : World) (ao : Option Addr) (cap : Nat) (l : List Rg) (p : Int) (hr : Rw w ao l) (hlen : l.length ≤ cap) (hcap : cap ≤ 9223372036854775807) :
    Calls Try.prog 8 #[.slice ao l.length cap, .int .i64 p] w fun e w' => e = .returned (.bool true) ∧ Below w.heap.size w w' := by
  have HL40 : (l.take 40).length ≤ 40 := by rw [List.length_take]; omega
  have hfew := few_any _ ao cap l hr hlen hcap
  clear hr
  generalize l.take 40 = L at HL40 hfew
  go_enter Try.func8, Try.ntmps8
  go_wp2_with fail
  refine hfew.mono ?_
  rintro e w1 ⟨v1, rfl, hO1, hb1⟩
  clear hfew
  have HB1 := mkH hb1
  obtain ⟨ao1, cap1, rfl, hc1, hc2⟩ := hO1.form
  have hR1 := hO1.rw
  clear hO1 hb1
  have hjoin := join_any w1 ao1 cap1 L hR1 (by omega)
  have HR1 := mkH hR1
  clear hR1
  go_wp2_with fail
  refine hjoin.mono ?_
  rintro e w2 ⟨v2, rfl, hO2, hb2⟩
  clear hjoin
  have HR1' := mkH (HR1.out.below hb2)
  have HB2 := mkH (HB1.out.trans (hb2.mono HB1.out.size))
  have HJC := mkH (join_canon L)
  have HJJ := mkH (join_join L)
  have HCV : Hid (cov L = true → join L = [(0, 65536)]) := mkH (fun h => by
    unfold cov at h
    rw [Bool.and_eq_true, decide_eq_true_eq] at h
    exact h.2)
  have hjl : (join L).length ≤ 40 := by
    have h1 := putAll_len ((real L).mergeSort fun a b => decide (a.1 ≤ b.1)) []
    rw [List.length_mergeSort, List.length_nil] at h1
    have h2 : (real L).length ≤ L.length := List.length_filter_le _ _
    unfold join
    omega
  generalize join L = C at hO2 HJC HJJ HCV hjl
  obtain ⟨ao2, cap2, rfl, hc3, hc4⟩ := hO2.form
  have HR2 := mkH hO2.rw
  clear hO2 hb2 HB1 HR1
  have HF2 := mkH (find_any w2 ao2 cap2 C p HR2.out (by omega))
  go_wp2_with fail
  refine (HF2.out).mono ?_
  rintro e w3 ⟨rfl, hb3⟩
  clear HF2
  have HR1 := mkH (HR1'.out.below hb3)
  have HR3 := mkH (HR2.out.below hb3)
  have HB3 := mkH (HB2.out.trans (hb3.mono HB2.out.size))
  clear hb3 HB2 HR1' HR2
  have HF1 := mkH (find_any w3 ao1 cap1 L p HR1.out (by omega))
  go_wp2_with fail
  refine (HF1.out).mono ?_
  rintro e w4 ⟨rfl, hb4⟩
  clear HF1
  have HR1' := mkH (HR1.out.below hb4)
  have HR2 := mkH (HR3.out.below hb4)
  have HB4 := mkH (HB3.out.trans (hb4.mono HB3.out.size))
  clear hb4 HB3 HR3 HR1
  have hff : decide (0 ≤ fnd C p 0) = decide (0 ≤ fnd L p 0) := by rw [fnd_has, fnd_has, HJC.out.2]
  generalize fnd C p 0 = F1 at *
  generalize fnd L p 0 = F2 at *
  have HCC := mkH (join_any w4 ao2 cap2 C HR2.out (by omega))
  rw [HJJ.out] at HCC
  have hne : (decide (0 ≤ F1) != decide (0 ≤ F2)) = false := by rw [hff]; simp
  go_wp2_with fail
  refine (HCC.out).mono ?_
  rintro e w5 ⟨v5, rfl, hO5, hb5⟩
  clear HCC hff hne
  obtain ⟨ao5, cap5, rfl, -, -⟩ := hO5.form
  have HR1 := mkH (HR1'.out.below hb5)
  have HR3 := mkH (HR2.out.below hb5)
  have HB5 := mkH (HB4.out.trans (hb5.mono HB4.out.size))
  have hsm := same_any w5 ao5 ao2 cap5 cap2 C C hO5.rw HR3.out (by omega)
  rw [decide_eq_true (rfl : C = C)] at hsm
  have HSM := mkH hsm
  clear hsm hO5 hb5 HB4 HR1' HR2
  go_wp2_with fail
  refine (HSM.out).mono ?_
  rintro e w6 ⟨rfl, q6, hw6⟩
  have hb6 : Below w5.heap.size w5 w6 := by rw [hw6]; exact ⟨rfl, rfl, rfl, Nat.le_refl _, fun _ _ => rfl⟩
  have HR1' := mkH (HR1.out.below hb6)
  have HR2 := mkH (HR3.out.below hb6)
  have HB6 := mkH (HB5.out.trans (hb6.mono HB5.out.size))
  clear HSM hw6 hb6 HB5 HR1 HR3
  go_wp2
  go_loopw [30] (fun i wr => ∃ k : Nat, k ≤ C.length ∧ i = .int .i64 k ∧ Hid (Below w6.heap.size w6 wr)) (fun i _ => C.length - (intOf i).toNat)
  case atStart => exact ⟨0, Nat.zero_le _, rfl, Below.refl _ _⟩
  case round =>
    obtain ⟨k, hk, rfl, HB⟩ := hrel
    by_cases hlt : k < C.length
    · obtain ⟨⟨a, b⟩, hrk⟩ := some_of hlt
      obtain ⟨bk, o, rfl, hc⟩ := (HR2.out.below HB.out) (by omega)
      obtain ⟨u1, u2⟩ := hc k _ hrk
      have hi : (k : Int) < (C.length : Int) := by omega
      have hi0 : (0 : Int) ≤ (k : Int) := by omega
      have hm := fun W => Prn.may_gr W a b
      rw [HJC.out.1.1 _ (List.mem_of_getElem? hrk)] at hm
      have hbk : bk < wr.heap.size := World.block_lt_of_cell? wr _ u1
      have mixed : Try.prog.follows Departure.mixedOrders = true := by kernel_rfl
      have hgr := (Gr.refl wr).alloc (.cells #[.int .i64 a, .int .i64 b] 26)
      have kb := Bx.new wr a b
      have q0 := q_cell kb.c0
      have q1 := q_cell kb.c1
      have HG := mkH (HB.out.trans (hgr.below.mono HB.out.size))
      cases k with
      | zero =>
        clear hc hrk kb hgr
        have u1' : wr.cell? ⟨bk, o, none⟩ = some (.int .i64 a) := by simpa using u1
        have u2' : wr.cell? ⟨bk, o + 1, none⟩ = some (.int .i64 b) := by simpa using u2
        go_wp2_with fail
        clear u1 u2 u1' u2'
        generalize (wr.alloc (.cells #[.int .i64 a, .int .i64 b] 26)) = wq at *
        refine wp_region_quiet_grown mixed (by kernel_rfl) ?_
        iterate 6 quiet_step (first | (go_at_call 14; exact Prn.quietly (hm _)))
        repeat go_big_quiet_step (fail)
        refine wpQuiet_nil ?_
        rintro _ ⟨⟨nq, osq⟩, rfl⟩
        go_wp2
        go_roundw
        case rel => exact ⟨1, by omega, by go_num, HG.out.trans ((Prn.gr_grow _ _ _).below.mono HG.out.size)⟩
        case measure => simp [intOf]; omega
      | succ k' =>
        obtain ⟨⟨c, d⟩, hrp⟩ := some_of (show k' < C.length by omega)
        have hcd := canon_next HJC.out.1 hrp hrk
        simp only at hcd
        obtain ⟨v1, v2⟩ := hc k' _ hrp
        have v2' : (wr.alloc (.cells #[.int .i64 a, .int .i64 b] 26)).cell? ⟨bk, o + k' * 2 + 1, none⟩ = some (.int .i64 d) := by
          rw [World.cell?_alloc_lt _ _ _ hbk]; exact v2
        have q2 := q_cell v2'
        have tk : (0 : Int) ≤ (k' : Int) := by omega
        have tk2 : (k' : Int) < (C.length : Int) := by omega
        have hcd2 : ¬ a ≤ d := by omega
        have wk : IntKind.i64.wrap (k' : Int) = (k' : Int) := by rw [IntKind.wrap_i64]; omega
        clear hc hrk kb hgr hrp v1 v2 v2'
        go_wp2_with fail
        clear u1 u2
        generalize (wr.alloc (.cells #[.int .i64 a, .int .i64 b] 26)) = wq at *
        go_quiet_grown (first | (go_at_call 14; exact Prn.quietly (hm _)))
        go_wp2
        go_roundw
        case rel => exact ⟨k' + 1 + 1, by omega, by go_num, HG.out.trans ((Prn.gr_grow _ _ _).below.mono HG.out.size)⟩
        case measure => simp [intOf]; omega
    · have : k = C.length := by omega
      subst this
      have HC1 := mkH (covers_any wr ao1 cap1 L (HR1'.out.below HB.out) (by omega))
      have HRw := mkH (HR2.out.below HB.out)
      have HBB := mkH (HB6.out.trans (HB.out.mono HB6.out.size))
      clear HB6 HB HR1' HR2
      cases hcv : cov L
      · rw [hcv] at HC1
        go_wp2_with fail
        refine (HC1.out).mono ?_
        rintro e w8 ⟨rfl, hb8⟩
        go_wp2_with fail
        refine (works_any _).mono ?_
        rintro e w9 ⟨rfl, hg9⟩
        go_wp2
        go_ret
        have h8 := HBB.out.trans (hb8.mono HBB.out.size)
        exact ⟨rfl, h8.trans (hg9.below.mono h8.size)⟩
      · rw [hcv] at HC1
        have hCe := HCV.out hcv
        go_wp2_with fail
        refine (HC1.out).mono ?_
        rintro e w8 ⟨rfl, hb8⟩
        have h8 := HBB.out.trans (hb8.mono HBB.out.size)
        have hb9 := (Below.refl w8.heap.size w8).alloc (Nat.le_refl _) (.cells #[.int .i64 0, .int .i64 65536] 26)
        have hR9 : Rw (w8.alloc (.cells #[.int .i64 0, .int .i64 65536] 26)) (some ⟨w8.heap.size, 0, none⟩) [(0, 65536)] := Rw_new w8 [(0, 65536)] 26
        have hsm := same_any _ ao2 _ cap2 1 C [(0, 65536)] ((HRw.out.below hb8).below hb9) hR9 (by omega)
        rw [decide_eq_true hCe] at hsm
        have HSM := mkH hsm
        have H9 := mkH (h8.trans (hb9.mono h8.size))
        clear hsm hR9 hb9 h8 hb8 HC1 HRw HBB hCe
        go_wp2_with fail
        refine (HSM.out).mono ?_
        rintro e w9 ⟨rfl, q9, rfl⟩
        go_wp2_with fail
        refine (works_any _).mono ?_
        rintro e w10 ⟨rfl, hg10⟩
        go_wp2
        go_ret
        exact ⟨rfl, H9.out.trans (((Pof.gr_drewN _ _).trans hg10).below.mono H9.out.size)⟩
end Go.Proofs.Ytiinhfkpfklgjaa.Pjn
