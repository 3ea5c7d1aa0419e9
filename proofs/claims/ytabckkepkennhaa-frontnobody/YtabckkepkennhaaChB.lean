/-
  chart.May: whether a chart may be.
-/
import Derived.Test.YtabckkepkennhaaChA
import Derived.Shelf.SlSortCmp.QuietGrown
namespace Go.Proofs.Ytabckkepkennhaa.Cb
open Go.RowKit Pl Pw Pr Pf Pv Cp Ca Gf Gk Go.Sort
open Cr hiding some_of
open Kt hiding mkH
open Kv
set_option linter.unusedVariables false
set_option linter.unusedSimpArgs false
set_option maxRecDepth 20000

theorem gr_grow (w : World) (n : Nat) (os : Array Obj) : Gr w (grow (w.drewN n) os) := by
  refine ⟨⟨rfl, rfl, rfl, by simp [grow, World.drewN], fun k hk => ?_⟩, Nat.le_add_right _ _⟩
  show (w.heap ++ os)[k]? = _
  rw [Array.getElem?_append_left hk]
theorem quietly {f : FuncId} {args : Array Value} {w : World} {n : Nat} {os : Array Obj} {v : Value} (h : Calls Try.prog f args (grow (w.drewN n) os) fun e w' => e = .returned v ∧ Gr (grow (w.drewN n) os) w') :
    Calls Try.prog f args (grow (w.drewN n) os) fun e w'' => e = .returned v ∧ ∃ p : GrownBy, w'' = grow (w.drewN p.n) p.os :=
  Calls.grown_of (h.mono fun _ _ ⟨he, hg⟩ => ⟨he, hg.grown⟩)
theorem isShard_gr (w : World) (n : Int) : Calls Try.prog 61 #[.int .i64 n] w fun e w' => e = .returned (.bool (isSh n)) ∧ Gr w w' :=
  (isShard_any w n).mono fun _ _ ⟨he, hw⟩ => ⟨he, hw ▸ Gr.refl w⟩

theorem isShard_grt {w : World} {n : Int} {b : Bool} (h : Calls Try.prog 61 #[.int .i64 n] w fun e w' => e = .returned (.bool b) ∧ w' = w) : Calls Try.prog 61 #[.int .i64 n] w fun e w' => e = .returned (.bool b) ∧ Gr w w' :=
  h.mono fun _ _ ⟨he, hw⟩ => ⟨he, hw ▸ Gr.refl w⟩

theorem mayC_low (e : Int) (l : List Pc) (h : ¬ (1 ≤ e ∧ e ≤ 1099511627776)) : mayC e l = false := by
  rw [← Bool.not_eq_true, mayC_iff]; exact fun hh => h hh.1
theorem mayC_cov (e : Int) (l : List Pc) (h : cov (l.map rg) = false) : mayC e l = false := by
  rw [← Bool.not_eq_true, mayC_iff, gd_iff, h]; rintro ⟨_, h1, _⟩; cases h1
theorem mayC_bad (e : Int) (l : List Pc) (i : Nat) (x : Pc) (hx : l[i]? = some x) (h : ¬ Fo l i x) : mayC e l = false := by
  rw [← Bool.not_eq_true, mayC_iff, gd_iff]; rintro ⟨_, _, h2⟩; exact h (h2 i x hx)
theorem mayC_good (e : Int) (l : List Pc) (h1 : 1 ≤ e ∧ e ≤ 1099511627776) (h2 : cov (l.map rg) = true) (h : ∀ i x, i < l.length → l[i]? = some x → Fo l i x) : mayC e l = true := by
  rw [mayC_iff, gd_iff]; exact ⟨h1, h2, fun i x hx => h i x (Cr.lt_of hx) hx⟩

set_option maxHeartbeats 2000000 in
theorem may_any (w : World) (e : Int) (ao : Option Addr) (cap : Nat) (l : List Pc) (h : RdP w ao cap l) (hl : l.length ≤ 100000) :
    Calls Try.prog 51 #[.agg #[.int .i64 e, .slice ao l.length cap]] w fun x w' => x = .returned (.bool (mayC e l)) ∧ Below w.heap.size w w' := by
  obtain ⟨V, hV⟩ : ∃ V, V = mayC e l := ⟨_, rfl⟩
  rw [← hV]
  have HV := mkH hV
  clear hV
  have HR := mkH h
  clear h
  by_cases h1 : e < 1
  · have HE := mkH (HV.out.trans (mayC_low e l (by omega)))
    go_enter Try.func51, Try.ntmps51
    go_wp2
    go_ret
    exact ⟨by rw [HE.out]; rfl, (Below.refl _ w).alloc (Nat.le_refl _) _⟩
  · by_cases h2 : 1099511627776 < e
    · have HE := mkH (HV.out.trans (mayC_low e l (by omega)))
      go_enter Try.func51, Try.ntmps51
      go_wp2
      go_ret
      exact ⟨by rw [HE.out]; rfl, (Below.refl _ w).alloc (Nat.le_refl _) _⟩
    · have hB0 := (Below.refl w.heap.size w).alloc (Nat.le_refl _) (.cells #[.int .i64 e, .slice ao l.length cap] 40)
      have HC := mkH (coverAll_any (w.alloc (.cells #[.int .i64 e, .slice ao l.length cap] 40)) ao cap l (HR.out.r.below hB0) hl)
      have HB0 := mkH hB0
      clear hB0
      cases hq : cov (l.map rg)
      · have HE := mkH (HV.out.trans (mayC_cov e l hq))
        rw [hq] at HC
        go_enter Try.func51, Try.ntmps51
        go_wp2_with (go_at_call 60; refine HC.out.mono ?_; rintro e w1 ⟨rfl, hb1⟩)
        go_ret
        exact ⟨by rw [HE.out]; rfl, HB0.out.trans (hb1.mono (by simp))⟩
      · rw [hq] at HC
        have HQ := mkH hq
        clear hq
        go_enter Try.func51, Try.ntmps51
        go_wp2_with fail
        refine HC.out.mono ?_
        rintro e' w1 ⟨rfl, hb1⟩
        have bx0 : (w.alloc (.cells #[.int .i64 e, .slice ao l.length cap] 40)).heap[w.heap.size]? = _ := heap_alloc_new _ _
        have HBW := mkH (HB0.out.trans (hb1.mono (by simp)))
        have HW1 := mkH hb1
        have bxx : Bx (w.alloc (.cells #[.int .i64 e, .slice ao l.length cap] 40)) w.heap.size #[.int .i64 e, .slice ao l.length cap] 40 := Bx.new _ _ _
        have bx1 := (bxx.bel hb1).cell 1 _ rfl
        have HX := mkH bxx
        clear hb1 bx0 bxx HC
        go_wp2
        clear bx1
        go_loopw [22] (fun i wr => ∃ k : Nat, k ≤ l.length ∧ i = .int .i64 k ∧ Hid (∀ j x, j < k → l[j]? = some x → Fo l j x) ∧ Hid (Below (w.heap.size + 1) (w.alloc (.cells #[.int .i64 e, .slice ao l.length cap] 40)) wr)) (fun i _ => l.length - (intOf i).toNat)
        case atStart => exact ⟨0, Nat.zero_le _, rfl, mkH (fun j x hj => by omega), mkH (HW1.out.mono (by simp))⟩
        case round =>
          obtain ⟨k, hk, rfl, HF, HB⟩ := hrel
          by_cases hlt : k < l.length
          · obtain ⟨x, hx⟩ := Cr.some_of hlt
            obtain ⟨b, o, e1, c0, c1, c2⟩ := atP ((HR.out.r.below HB0.out).below (HB.out.mono (by simp))) hx
            subst e1
            have bx1 := (HX.out.below HB.out (by omega)).cell 1 _ rfl
            have hi : (k : Int) < (l.length : Int) := by omega
            have hi0 : (0 : Int) ≤ (k : Int) := by omega
            have hsz : w.heap.size + 1 ≤ wr.heap.size := by have := HB.out.size; simp at this; omega
            have HBN := mkH ((HB.out.alloc hsz (.cells #[.int .i64 x.1, .int .i64 x.2.1, .int .i64 x.2.2] 97)))
            have HBF := mkH ((HB0.out).trans (HBN.out.mono (by simp)))
            have hS := fun W => isShard_any W x.2.2
            have mixed : Try.prog.follows Departure.mixedOrders = true := by kernel_rfl
            by_cases hs : 1 ≤ x.2.2 ∧ x.2.2 ≤ 6
            · have hs' : isSh x.2.2 = true := (isSh_iff _).2 hs
              rw [hs'] at hS
              by_cases h0 : k = 0
              · subst h0
                have HF2 : Hid (∀ j y, j < 0 + 1 → l[j]? = some y → Fo l j y) := mkH (fun j y hj hy => by
                  obtain rfl : j = 0 := by omega
                  rw [hx] at hy; cases hy
                  exact ⟨hs, fun z hz => by omega⟩)
                have HXX := mkH hx
                clear hx HF HV
                simp only [Nat.zero_mul, Nat.add_zero] at c0 c1 c2
                go_wp2_with fail
                go_quiet ((first | (go_at_call 61; exact Calls.quiet_of_same (hS _))))
                go_wp2
                go_roundw
                case rel => exact ⟨0 + 1, by omega, by go_num, HF2, mkH (Gf.below_drewN HBN.out _)⟩
                case measure => simp [intOf]; omega
              · obtain ⟨y, hy⟩ := Cr.some_of (show k - 1 < l.length by omega)
                obtain ⟨b', o', e1, d0, d1, d2⟩ := atP ((HR.out.r.below HB0.out).below (HB.out.mono (by simp))) hy
                simp only [Option.some.injEq, Addr.mk.injEq, and_true] at e1
                obtain ⟨rfl, rfl⟩ := e1
                have hf := fun W => follow_any W y.1 y.2.1 y.2.2 x.1 x.2.1 x.2.2
                have HWX : Hid (Bx (wr.alloc (.cells #[.int .i64 x.1, .int .i64 x.2.1, .int .i64 x.2.2] 97)) wr.heap.size #[.int .i64 x.1, .int .i64 x.2.1, .int .i64 x.2.2] 97) := mkH (Bx.new _ _ _)
                have HYY := mkH hy
                have HXX := mkH hx
                have HFO : Hid (Fo l k x ↔ (y.1 < x.1 ∧ ¬ y.2.2 = x.2.2)) := mkH ⟨fun hh => hh.2 y (by omega) hy, fun hh => ⟨hs, fun z _ hz => by rw [hy] at hz; cases hz; exact hh⟩⟩
                have hWX := HWX.out
                have hWc0 := (hWX.cell 0 _ rfl)
                have hlt2 : wr.heap.size < (wr.alloc (.cells #[.int .i64 x.1, .int .i64 x.2.1, .int .i64 x.2.2] 97)).heap.size := by simp
                have m0 := fun n os => cell_grown hWX.lt (hWX.cell 0 _ rfl) n os
                have m1 := fun n os => cell_grown hWX.lt (hWX.cell 1 _ rfl) n os
                have m2 := fun n os => cell_grown hWX.lt (hWX.cell 2 _ rfl) n os
                have a1 := Lib.cell?_alloc_some (.cells #[.int .i64 x.1, .int .i64 x.2.1, .int .i64 x.2.2] 97) bx1
                have p0 := Lib.cell?_alloc_some (.cells #[.int .i64 x.1, .int .i64 x.2.1, .int .i64 x.2.2] 97) d0
                have p1 := Lib.cell?_alloc_some (.cells #[.int .i64 x.1, .int .i64 x.2.1, .int .i64 x.2.2] 97) d1
                have p2 := Lib.cell?_alloc_some (.cells #[.int .i64 x.1, .int .i64 x.2.1, .int .i64 x.2.2] 97) d2
                have q1 := fun n os => cell_grown (World.block_lt_of_cell? _ _ a1) a1 n os
                have g0 := fun n os => cell_grown (World.block_lt_of_cell? _ _ p0) p0 n os
                have g1 := fun n os => cell_grown (World.block_lt_of_cell? _ _ p1) p1 n os
                have g2 := fun n os => cell_grown (World.block_lt_of_cell? _ _ p2) p2 n os
                have hk1 : (0 : Int) < (k : Int) := by omega
                have hk1n : 0 < k := by omega
                have hk2n : k - 1 < l.length := by omega
                have hk2 : ((k - 1 : Nat) : Int) < (l.length : Int) := by omega
                have hk3 : (0 : Int) ≤ ((k - 1 : Nat) : Int) := by omega
                have hkk : ((k : Int) - 1) = ((k - 1 : Nat) : Int) := by omega
                have y2 : IntKind.i64.wrap ((k - 1 : Nat) : Int) = ((k - 1 : Nat) : Int) := IntWalk.i64_in _ (by omega)
                have y1 : IntKind.i64.wrap ((k : Int) - 1) = ((k - 1 : Nat) : Int) := by rw [hkk]; exact y2
                generalize k - 1 = kj at *
                clear hx hy hWX hWc0 a1 p0 p1 p2 d0 d1 d2 bx1
                by_cases hfo : y.1 < x.1 ∧ ¬ y.2.2 = x.2.2
                · have hd : decide (y.1 < x.1 ∧ ¬ y.2.2 = x.2.2) = true := decide_eq_true hfo
                  simp only [hd] at hf
                  have HF2 : Hid (∀ j z, j < k + 1 → l[j]? = some z → Fo l j z) := mkH (fun j z hj hz => by
                    by_cases hjk : j = k
                    · subst hjk; rw [HXX.out] at hz; cases hz; exact HFO.out.2 hfo
                    · exact HF.out j z (by omega) hz)
                  clear hfo hd HF HV HFO
                  go_wp2_with fail
                  clear c0 c1 c2
                  generalize wr.alloc (.cells #[.int .i64 x.1, .int .i64 x.2.1, .int .i64 x.2.2] 97) = W4 at *
                  go_quiet_grown ((first | (go_at_call 61; exact quietly (isShard_grt (hS _))) | (go_at_call 62; exact quietly (hf _))))
                  have HG := mkH (gr_grow W4 nq osq)
                  have hwz : w.heap.size + 1 ≤ W4.heap.size := by have := HBN.out.size; simp at this; omega
                  have HBG := mkH (HBN.out.trans (HG.out.below.mono hwz))
                  generalize grow (W4.drewN nq) osq = W5 at *
                  clear hS hf m0 m1 m2 q1 g0 g1 g2 HG
                  go_wp2
                  go_roundw
                  case rel => exact ⟨k + 1, by omega, by go_num, HF2, HBG⟩
                  case measure => simp [intOf]; omega
                · have hd : decide (y.1 < x.1 ∧ ¬ y.2.2 = x.2.2) = false := decide_eq_false hfo
                  simp only [hd] at hf
                  have HE := mkH (HV.out.trans (mayC_bad e l k x HXX.out (fun hh => hfo (HFO.out.1 hh))))
                  clear hfo hd HF HV HFO
                  go_wp2_with fail
                  clear c0 c1 c2
                  generalize wr.alloc (.cells #[.int .i64 x.1, .int .i64 x.2.1, .int .i64 x.2.2] 97) = W4 at *
                  go_quiet_grown ((first | (go_at_call 61; exact quietly (isShard_grt (hS _))) | (go_at_call 62; exact quietly (hf _))))
                  have HG := mkH (gr_grow W4 nq osq)
                  have hwz : w.heap.size ≤ W4.heap.size := by have := HBN.out.size; simp at this; omega
                  have HBG := mkH (HBF.out.trans (HG.out.below.mono hwz))
                  generalize grow (W4.drewN nq) osq = W5 at *
                  clear hS hf m0 m1 m2 q1 g0 g1 g2 HG
                  go_wp2
                  go_ret
                  exact ⟨by rw [HE.out]; rfl, HBG.out⟩
            · have hs' : isSh x.2.2 = false := by rw [← Bool.not_eq_true, isSh_iff]; exact hs
              rw [hs'] at hS
              have HE := mkH (HV.out.trans (mayC_bad e l k x hx (fun hh => hs hh.1)))
              have HXX := mkH hx
              clear hx HV HF
              go_wp2_with fail
              go_quiet ((first | (go_at_call 61; exact Calls.quiet_of_same (hS _))))
              go_wp2
              go_ret
              exact ⟨by rw [HE.out]; rfl, Gf.below_drewN HBF.out _⟩
          · have : k = l.length := by omega
            subst this
            have HE := mkH (HV.out.trans (mayC_good e l ⟨by omega, by omega⟩ HQ.out (fun i x hi hx => HF.out i x hi hx)))
            have HBF := mkH ((HB0.out).trans (HB.out.mono (by omega)))
            clear HR HB
            go_wp2
            go_ret
            exact ⟨by rw [HE.out]; rfl, HBF.out⟩
end Go.Proofs.Ytabckkepkennhaa.Cb
