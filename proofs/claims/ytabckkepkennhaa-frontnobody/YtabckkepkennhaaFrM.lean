/-
  Which calls a client does. Written by gen_frm.py.
-/
import Derived.Test.YtabckkepkennhaaFrC
namespace Go.Proofs.Ytabckkepkennhaa.Fm
open Go.RowKit Kt Gf Gk Fp Fa Fb Fc
set_option linter.unusedVariables false
set_option linter.unusedSimpArgs false
set_option maxRecDepth 20000

def numT (n : Int) : Prop := 0 ≤ n ∧ n ≤ 1099511627776
instance (n : Int) : Decidable (numT n) := by unfold numT; infer_instance
def entK (k : Int) : Prop := k = 1 ∨ k = 3 ∨ k = 4 ∨ k = 6
instance (n : Int) : Decidable (entK n) := by unfold entK; infer_instance
def mayB (k q m s : Int) (n : Nat) : Bool := decide (numT q ∧ numT m ∧ numT s) && (if entK k then decide (1 ≤ n ∧ n ≤ 10) else ofSh k && decide (n = 0))
theorem mayB_no {k q m s : Int} {n : Nat} (h : ¬ (numT q ∧ numT m ∧ numT s)) : mayB k q m s n = false := by unfold mayB; rw [decide_eq_false h]; rfl
theorem mayB_ent {k q m s : Int} {n : Nat} (h : numT q ∧ numT m ∧ numT s) (hk : entK k) : mayB k q m s n = decide (1 ≤ n ∧ n ≤ 10) := by unfold mayB; rw [decide_eq_true h, if_pos hk]; rfl
theorem mayB_sh {k q m s : Int} {n : Nat} (h : numT q ∧ numT m ∧ numT s) (hk : ¬ entK k) : mayB k q m s n = (ofSh k && decide (n = 0)) := by unfold mayB; rw [decide_eq_true h, if_neg hk]; rfl
/-- A call. -/
def caV (k q m s : Int) (att : ByteArray) (ent : Value) : Array Value := #[.int .i64 k, .int .i64 q, .int .i64 m, .int .i64 s, .string att, ent]
set_option maxHeartbeats 4000000 in
theorem mayBe_any (w : World) (k q m s : Int) (att : ByteArray) (ao : Option Addr) (n cap : Nat) (hn : n ≤ 1000000000) : Calls Try.prog 28 #[.agg (caV k q m s att (.slice ao n cap))] w fun x w' => x = .returned (.bool (mayB k q m s n)) ∧ Below w.heap.size w w' := by
  obtain ⟨V, hV⟩ : ∃ V, V = w.alloc (.cells (caV k q m s att (.slice ao n cap)) 45) := ⟨_, rfl⟩
  have HB := mkH (show Below w.heap.size w V by rw [hV]; exact (Below.refl _ w).alloc (Nat.le_refl _) _)
  have hx1 : Bx V w.heap.size (caV k q m s att (.slice ao n cap)) 45 := by rw [hV]; exact Bx.new _ _ _
  have x0 : V.cell? ⟨w.heap.size, 0, none⟩ = some (.int .i64 k) := hx1.cell 0 _ rfl
  have x1 : V.cell? ⟨w.heap.size, 1, none⟩ = some (.int .i64 q) := hx1.cell 1 _ rfl
  have x2 : V.cell? ⟨w.heap.size, 2, none⟩ = some (.int .i64 m) := hx1.cell 2 _ rfl
  have x3 : V.cell? ⟨w.heap.size, 3, none⟩ = some (.int .i64 s) := hx1.cell 3 _ rfl
  have x5 : V.cell? ⟨w.heap.size, 5, none⟩ = some (.slice ao n cap) := hx1.cell 5 _ rfl
  have HV := mkH hV
  clear hx1 hV
  obtain ⟨R, hR⟩ : ∃ R, R = mayB k q m s n := ⟨_, rfl⟩
  rw [← hR]
  have HR := mkH hR
  clear hR
  go_enter Try.func28, Try.ntmps28
  go_upto_region 1 with fail
  rw [show w.alloc (.cells (caV k q m s att (.slice ao n cap)) 45) = V from HV.out.symm]
  go_wp2
  go_loopw [13] (fun i wr => ∃ j : Nat, j ≤ 3 ∧ i = .int .i64 j ∧ Hid ((0 < j → numT q) ∧ (1 < j → numT m) ∧ (2 < j → numT s)) ∧ wr = V) (fun i _ => 3 - (intOf i).toNat)
  case atStart => exact ⟨0, by omega, rfl, mkH ⟨by omega, by omega, by omega⟩, rfl⟩
  case round =>
    obtain ⟨j, hj, rfl, HN, rfl⟩ := hrel
    rcases (by omega : j = 0 ∨ j = 1 ∨ j = 2 ∨ j = 3) with rfl | rfl | rfl | rfl
    · by_cases hlo : q < 0
      · have hr : R = false := HR.out.trans (mayB_no (fun h => by have := h.1; unfold numT at this; omega))
        have HQ := mkH hr
        clear hr HR
        go_wp2_with (refine Fp.wpList_ix rfl (ty := 108) (x := .tmp 12) (y := .tmp 13) rfl (v := .int .i64 q) (by kernel_rfl) ?_)
        go_ret
        exact ⟨congrArg (fun t => Ending.returned (.bool t)) HQ.out.symm, HB.out⟩
      · by_cases hhi : 1099511627776 < q
        · have hr : R = false := HR.out.trans (mayB_no (fun h => by have := h.1; unfold numT at this; omega))
          have HQ := mkH hr
          clear hr HR
          go_wp2_with (refine Fp.wpList_ix rfl (ty := 108) (x := .tmp 12) (y := .tmp 13) rfl (v := .int .i64 q) (by kernel_rfl) ?_)
          go_ret
          exact ⟨congrArg (fun t => Ending.returned (.bool t)) HQ.out.symm, HB.out⟩
        · have HN2 : Hid ((0 < 1 → numT q) ∧ (1 < 1 → numT m) ∧ (2 < 1 → numT s)) := mkH ⟨fun _ => ⟨by omega, by omega⟩, by omega, by omega⟩
          have HLH := mkH (And.intro hlo hhi)
          go_wp2_with (refine Fp.wpList_ix rfl (ty := 108) (x := .tmp 12) (y := .tmp 13) rfl (v := .int .i64 q) (by kernel_rfl) ?_)
          go_roundw
          case rel => exact ⟨1, by omega, by go_num, HN2, by trivial⟩
          case measure => simp [intOf]
    · by_cases hlo : m < 0
      · have hr : R = false := HR.out.trans (mayB_no (fun h => by have := h.2.1; unfold numT at this; omega))
        have HQ := mkH hr
        clear hr HR
        go_wp2_with (refine Fp.wpList_ix rfl (ty := 108) (x := .tmp 12) (y := .tmp 13) rfl (v := .int .i64 m) (by kernel_rfl) ?_)
        go_ret
        exact ⟨congrArg (fun t => Ending.returned (.bool t)) HQ.out.symm, HB.out⟩
      · by_cases hhi : 1099511627776 < m
        · have hr : R = false := HR.out.trans (mayB_no (fun h => by have := h.2.1; unfold numT at this; omega))
          have HQ := mkH hr
          clear hr HR
          go_wp2_with (refine Fp.wpList_ix rfl (ty := 108) (x := .tmp 12) (y := .tmp 13) rfl (v := .int .i64 m) (by kernel_rfl) ?_)
          go_ret
          exact ⟨congrArg (fun t => Ending.returned (.bool t)) HQ.out.symm, HB.out⟩
        · have HN2 : Hid ((0 < 2 → numT q) ∧ (1 < 2 → numT m) ∧ (2 < 2 → numT s)) := mkH ⟨fun _ => HN.out.1 (by omega), fun _ => ⟨by omega, by omega⟩, by omega⟩
          have HLH := mkH (And.intro hlo hhi)
          go_wp2_with (refine Fp.wpList_ix rfl (ty := 108) (x := .tmp 12) (y := .tmp 13) rfl (v := .int .i64 m) (by kernel_rfl) ?_)
          go_roundw
          case rel => exact ⟨2, by omega, by go_num, HN2, by trivial⟩
          case measure => simp [intOf]
    · by_cases hlo : s < 0
      · have hr : R = false := HR.out.trans (mayB_no (fun h => by have := h.2.2; unfold numT at this; omega))
        have HQ := mkH hr
        clear hr HR
        go_wp2_with (refine Fp.wpList_ix rfl (ty := 108) (x := .tmp 12) (y := .tmp 13) rfl (v := .int .i64 s) (by kernel_rfl) ?_)
        go_ret
        exact ⟨congrArg (fun t => Ending.returned (.bool t)) HQ.out.symm, HB.out⟩
      · by_cases hhi : 1099511627776 < s
        · have hr : R = false := HR.out.trans (mayB_no (fun h => by have := h.2.2; unfold numT at this; omega))
          have HQ := mkH hr
          clear hr HR
          go_wp2_with (refine Fp.wpList_ix rfl (ty := 108) (x := .tmp 12) (y := .tmp 13) rfl (v := .int .i64 s) (by kernel_rfl) ?_)
          go_ret
          exact ⟨congrArg (fun t => Ending.returned (.bool t)) HQ.out.symm, HB.out⟩
        · have HN2 : Hid ((0 < 3 → numT q) ∧ (1 < 3 → numT m) ∧ (2 < 3 → numT s)) := mkH ⟨fun _ => HN.out.1 (by omega), fun _ => HN.out.2.1 (by omega), fun _ => ⟨by omega, by omega⟩⟩
          have HLH := mkH (And.intro hlo hhi)
          go_wp2_with (refine Fp.wpList_ix rfl (ty := 108) (x := .tmp 12) (y := .tmp 13) rfl (v := .int .i64 s) (by kernel_rfl) ?_)
          go_roundw
          case rel => exact ⟨3, by omega, by go_num, HN2, by trivial⟩
          case measure => simp [intOf]
    · have hall : numT q ∧ numT m ∧ numT s := ⟨HN.out.1 (by omega), HN.out.2.1 (by omega), HN.out.2.2 (by omega)⟩
      clear HN
      by_cases hk1 : k = 1
      · skip
        have hr : R = decide (1 ≤ n ∧ n ≤ 10) := HR.out.trans (mayB_ent hall (by unfold entK; omega))
        subst hk1
        by_cases hn1 : (1 : Int) ≤ (n : Int)
        · by_cases hn2 : (n : Int) ≤ 10
          · have HQ := mkH (hr.trans (decide_eq_true (by omega)))
            clear hr HR hall
            go_wp2
            go_ret
            exact ⟨congrArg (fun t => Ending.returned (.bool t)) HQ.out.symm, HB.out⟩
          · have HQ := mkH (hr.trans (decide_eq_false (by omega)))
            clear hr HR hall
            go_wp2
            go_ret
            exact ⟨congrArg (fun t => Ending.returned (.bool t)) HQ.out.symm, HB.out⟩
        · have HQ := mkH (hr.trans (decide_eq_false (by omega)))
          clear hr HR hall
          go_wp2
          go_ret
          exact ⟨congrArg (fun t => Ending.returned (.bool t)) HQ.out.symm, HB.out⟩
      · have hb1 : (k == 1) = false := by simpa using hk1
        by_cases hk3 : k = 3
        · clear hb1
          have hr : R = decide (1 ≤ n ∧ n ≤ 10) := HR.out.trans (mayB_ent hall (by unfold entK; omega))
          subst hk3
          by_cases hn1 : (1 : Int) ≤ (n : Int)
          · by_cases hn2 : (n : Int) ≤ 10
            · have HQ := mkH (hr.trans (decide_eq_true (by omega)))
              clear hr HR hall
              go_wp2
              go_ret
              exact ⟨congrArg (fun t => Ending.returned (.bool t)) HQ.out.symm, HB.out⟩
            · have HQ := mkH (hr.trans (decide_eq_false (by omega)))
              clear hr HR hall
              go_wp2
              go_ret
              exact ⟨congrArg (fun t => Ending.returned (.bool t)) HQ.out.symm, HB.out⟩
          · have HQ := mkH (hr.trans (decide_eq_false (by omega)))
            clear hr HR hall
            go_wp2
            go_ret
            exact ⟨congrArg (fun t => Ending.returned (.bool t)) HQ.out.symm, HB.out⟩
        · have hb3 : (k == 3) = false := by simpa using hk3
          by_cases hk4 : k = 4
          · clear hb1 hb3
            have hr : R = decide (1 ≤ n ∧ n ≤ 10) := HR.out.trans (mayB_ent hall (by unfold entK; omega))
            subst hk4
            by_cases hn1 : (1 : Int) ≤ (n : Int)
            · by_cases hn2 : (n : Int) ≤ 10
              · have HQ := mkH (hr.trans (decide_eq_true (by omega)))
                clear hr HR hall
                go_wp2
                go_ret
                exact ⟨congrArg (fun t => Ending.returned (.bool t)) HQ.out.symm, HB.out⟩
              · have HQ := mkH (hr.trans (decide_eq_false (by omega)))
                clear hr HR hall
                go_wp2
                go_ret
                exact ⟨congrArg (fun t => Ending.returned (.bool t)) HQ.out.symm, HB.out⟩
            · have HQ := mkH (hr.trans (decide_eq_false (by omega)))
              clear hr HR hall
              go_wp2
              go_ret
              exact ⟨congrArg (fun t => Ending.returned (.bool t)) HQ.out.symm, HB.out⟩
          · have hb4 : (k == 4) = false := by simpa using hk4
            by_cases hk6 : k = 6
            · clear hb1 hb3 hb4
              have hr : R = decide (1 ≤ n ∧ n ≤ 10) := HR.out.trans (mayB_ent hall (by unfold entK; omega))
              subst hk6
              by_cases hn1 : (1 : Int) ≤ (n : Int)
              · by_cases hn2 : (n : Int) ≤ 10
                · have HQ := mkH (hr.trans (decide_eq_true (by omega)))
                  clear hr HR hall
                  go_wp2
                  go_ret
                  exact ⟨congrArg (fun t => Ending.returned (.bool t)) HQ.out.symm, HB.out⟩
                · have HQ := mkH (hr.trans (decide_eq_false (by omega)))
                  clear hr HR hall
                  go_wp2
                  go_ret
                  exact ⟨congrArg (fun t => Ending.returned (.bool t)) HQ.out.symm, HB.out⟩
              · have HQ := mkH (hr.trans (decide_eq_false (by omega)))
                clear hr HR hall
                go_wp2
                go_ret
                exact ⟨congrArg (fun t => Ending.returned (.bool t)) HQ.out.symm, HB.out⟩
            · have hb6 : (k == 6) = false := by simpa using hk6
              have hr : R = (ofSh k && decide (n = 0)) := HR.out.trans (mayB_sh hall (by unfold entK; omega))
              have HSH := fun W => isOfShards_any W k
              clear hk1 hk3 hk4 hk6 HR hall
              cases hsh : ofSh k
              · rw [hsh] at hr HSH
                have hr2 : R = false := by rw [hr]; rfl
                have HQ := mkH hr2
                clear hr hr2 hsh
                have HS := mkH (HSH wr)
                clear HSH
                go_wp2_with (refine HS.out.mono ?_; rintro x w2 ⟨rfl, rfl⟩)
                go_ret
                exact ⟨congrArg (fun t => Ending.returned (.bool t)) HQ.out.symm, HB.out⟩
              · rw [hsh] at hr HSH
                have HS := mkH (HSH wr)
                clear HSH hsh
                by_cases hn0 : n = 0
                · have hr2 : R = true := by rw [hr, decide_eq_true hn0]; rfl
                  have HQ := mkH hr2
                  subst hn0
                  clear hr hr2
                  go_wp2_with (refine HS.out.mono ?_; rintro x w2 ⟨rfl, rfl⟩)
                  go_ret
                  exact ⟨congrArg (fun t => Ending.returned (.bool t)) HQ.out.symm, HB.out⟩
                · have hr2 : R = false := by rw [hr, decide_eq_false hn0]; rfl
                  have HQ := mkH hr2
                  have hbn : ((n : Int) == 0) = false := by simpa using (show ¬ (n : Int) = 0 by omega)
                  clear hr hr2 hn0
                  go_wp2_with (refine HS.out.mono ?_; rintro x w2 ⟨rfl, rfl⟩)
                  go_ret
                  exact ⟨congrArg (fun t => Ending.returned (.bool t)) HQ.out.symm, HB.out⟩
end Go.Proofs.Ytabckkepkennhaa.Fm
