/-
  The document's Covers.
-/
import Derived.Test.YtiinhfkpfklgjaaPlN
import Derived.Test.YtiinhfkpfklgjaaPlRn0
namespace Go.Proofs.Ytiinhfkpfklgjaa.Pnc
open Go.RowKit Pl Pw Pr Pf Pa Pv Pq Pn
open Kt hiding mkH
set_option linter.unusedVariables false
set_option maxRecDepth 20000

theorem cnt_snoc {l : List Rg} {k : Nat} {r : Rg} (h : l[k]? = some r) (x : Int) : cnt (l.take (k + 1)) x = cnt (l.take k) x + (if inn r x then 1 else 0) := by
  rw [List.take_add_one, h, cnt_append]
  congr 1
  unfold cnt
  simp [List.countP_cons]
theorem cnt_le (l : List Rg) (k : Nat) (x : Int) : cnt (l.take k) x ≤ k := by
  unfold cnt
  have := List.countP_le_length (p := fun r => inn r x) (l := l.take k)
  rw [List.length_take] at this
  omega
theorem rcov_bad (l : List Rg) (k : Nat) (r : Rg) (h : l[k]? = some r) (hm : may r = false) : rcov l = false := by
  rw [rcov_cov]; exact cov_bad l k r h hm
theorem rcov_off (l : List Rg) (i : Nat) (x : Int) (h : (bounds l)[i]? = some x) (hm : okAt l x = false) : rcov l = false := by
  unfold rcov
  have : (bounds l).all (okAt l) = false := by
    rw [← Bool.not_eq_true, List.all_eq_true]
    intro hh
    have := hh x (List.mem_of_getElem? h)
    rw [hm] at this; cases this
  rw [this, Bool.and_false]
theorem rcov_end (l : List Rg) (h1 : l.all may = true) (h2 : (bounds l).all (okAt l) = true) : rcov l = true := by
  unfold rcov; rw [h1, h2]; rfl
theorem okAt_snoc {l : List Rg} {b : List Int} {k : Nat} {x : Int} (h : b[k]? = some x) (ha : (b.take k).all (okAt l) = true) (hm : okAt l x = true) : (b.take (k + 1)).all (okAt l) = true := by
  rw [List.take_add_one, h, List.all_append, ha]; simp [hm]
theorem q_cell {w : World} {a : Addr} {v : Value} (h : w.cell? a = some v) (n : Nat) (os : Array Obj) : (Go.Sort.grow (w.drewN n) os).cell? a = some v :=
  cell_grown (World.block_lt_of_cell? w _ h) h n os

set_option maxHeartbeats 8000000 in
theorem rcovers_any (w : World) (ao : Option Addr) (cap : Nat) (l : List Rg) (hr : Rw w ao l) (hl : l.length ≤ 1000) :
    Calls Try.prog 24 #[.slice ao l.length cap] w fun e w' => e = .returned (.bool (rcov l)) ∧ Below w.heap.size w w' := by
  obtain ⟨V, hV⟩ : ∃ V, V = rcov l := ⟨_, rfl⟩
  rw [← hV]
  have HV := mkH hV
  clear hV
  have hbd := bounds_any w ao cap l hr hl
  have HR := mkH hr
  have hbl := bounds_len l
  have HOFF := mkH (rcov_off l)
  have HEND := mkH (rcov_end l)
  clear hr
  generalize bounds l = B at hbd hbl HOFF HEND
  go_enter Try.func24, Try.ntmps24
  go_wp2_with fail
  refine hbd.mono ?_
  rintro e w1 ⟨ab, cb, rfl, hN1, hb1⟩
  have HR1 := mkH (HR.out.below hb1)
  have HN1 := mkH hN1
  have HB1 := mkH hb1
  clear hbd HR hN1 hb1
  go_wp2
  go_loopw [4] (fun i wr => ∃ k : Nat, k ≤ l.length ∧ i = .int .i64 k ∧ Hid ((l.take k).all may = true) ∧ Hid (Below w1.heap.size w1 wr)) (fun i _ => l.length - (intOf i).toNat)
  case atStart => exact ⟨0, Nat.zero_le _, rfl, rfl, Below.refl _ _⟩
  case round =>
    obtain ⟨k, hk, rfl, HA, HB⟩ := hrel
    by_cases hlt : k < l.length
    · obtain ⟨⟨a, b⟩, hrk⟩ := some_of hlt
      obtain ⟨bk, o, rfl, hc⟩ := (HR1.out.below HB.out) (by omega)
      obtain ⟨u1, u2⟩ := hc k _ hrk
      have hi : (k : Int) < (l.length : Int) := by omega
      have hi0 : (0 : Int) ≤ (k : Int) := by omega
      have hm := fun W => rmay_any W a b
      have HK := mkH hrk
      have HBB := mkH (HB.out.alloc HB.out.size (.cells #[.int .i64 a, .int .i64 b] 26))
      clear hc hrk
      cases hq : may (a, b)
      · rw [hq] at hm
        have HE := mkH (HV.out.trans (rcov_bad l k (a, b) HK.out hq))
        go_wp2_with fail
        refine (hm _).mono ?_
        rintro e w2 ⟨rfl, rfl⟩
        go_wp2
        go_ret
        exact ⟨by rw [HE.out]; rfl, HB1.out.trans (HBB.out.mono HB1.out.size)⟩
      · rw [hq] at hm
        have HA2 := mkH (all_snoc HK.out HA.out hq)
        go_wp2_with fail
        refine (hm _).mono ?_
        rintro e w2 ⟨rfl, rfl⟩
        go_wp2
        go_roundw
        case rel => exact ⟨k + 1, by omega, by go_num, HA2, HBB⟩
        case measure => simp [intOf]; omega
    · have : k = l.length := by omega
      subst this
      have HA1 : Hid (l.all may = true) := mkH (by have := HA.out; rwa [List.take_length] at this)
      clear HA
      have HR2 := mkH (HR1.out.below HB.out)
      have HN2 := mkH (HN1.out.below HB.out)
      have HB2 := mkH (HB1.out.trans (HB.out.mono HB1.out.size))
      clear HR1 HN1 HB1 HB
      generalize wr = wL at *
      go_wp2
      go_loopw [5] (fun i wx => ∃ k : Nat, k ≤ B.length ∧ i = .int .i64 k ∧ Hid ((B.take k).all (okAt l) = true) ∧ Hid (Below wL.heap.size wL wx)) (fun i _ => B.length - (intOf i).toNat)
      case atStart => exact ⟨0, Nat.zero_le _, rfl, rfl, Below.refl _ _⟩
      case round =>
        obtain ⟨i, hi, rfl, HO, HBx⟩ := hrel
        by_cases hlt : i < B.length
        · obtain ⟨x, hx⟩ := some_of hlt
          have HX := mkH hx
          obtain ⟨bb, ob, rfl, hcb⟩ := HN2.out (by omega)
          have ub := hcb i x hx
          have hbb : bb < wL.heap.size := World.block_lt_of_cell? wL _ ub
          have HUB := mkH ub
          clear hcb ub hx
          generalize wr = wM at *
          go_wp2
          go_loopw [6, 7] (fun c kk wy => ∃ k n : Nat, k ≤ l.length ∧ kk = .int .i64 k ∧ c = .int .i64 n ∧ n ≤ k ∧ Hid (n = cnt (l.take k) x) ∧ Hid (Below wL.heap.size wL wy)) (fun _ kk _ => l.length - (intOf kk).toNat)
          case atStart => exact ⟨0, 0, Nat.zero_le _, rfl, rfl, Nat.le_refl _, rfl, HBx⟩
          case round =>
            obtain ⟨k, n, hk, rfl, rfl, hnk, HC, HBy⟩ := hrel
            by_cases hlt2 : k < l.length
            · obtain ⟨⟨a, b⟩, hrk⟩ := some_of hlt2
              obtain ⟨bk, o, rfl, hc⟩ := (HR2.out.below HBy.out) (by omega)
              obtain ⟨u1, u2⟩ := hc k _ hrk
              have u3 := (HBy.out.cell (p := ⟨bb, ob + i, none⟩) hbb).trans HUB.out
              have hi1 : (k : Int) < (l.length : Int) := by omega
              have hi2 : (0 : Int) ≤ (k : Int) := by omega
              have hi3 : (i : Int) < (B.length : Int) := by omega
              have hi4 : (0 : Int) ≤ (i : Int) := by omega
              have q1 := q_cell u1
              have q2 := q_cell u2
              have q3 := q_cell u3
              have hin := fun W => rin_any W a b x
              have HCS := mkH (cnt_snoc hrk x)
              have mixed : Try.prog.follows Departure.mixedOrders = true := by kernel_rfl
              clear hc hrk
              cases hq : inn (a, b) x
              · rw [hq] at hin HCS
                go_wp2_with fail
                clear u1 u2 u3
                go_quiet_grown (first | (go_at_call 17; exact Prn.quietly (hin _)))
                have HBz := mkH (HBy.out.trans ((Prn.gr_grow _ nq osq).below.mono HBy.out.size))
                clear q1 q2 q3
                go_wp2
                go_roundw
                case rel => exact ⟨k + 1, n, by omega, by go_num, rfl, by omega, by rw [HCS.out, ← HC.out]; rfl, HBz⟩
                case measure => simp [intOf]; omega
              · rw [hq] at hin HCS
                go_wp2_with fail
                clear u1 u2 u3
                go_quiet_grown (first | (go_at_call 17; exact Prn.quietly (hin _)))
                have HBz := mkH (HBy.out.trans ((Prn.gr_grow _ nq osq).below.mono HBy.out.size))
                clear q1 q2 q3
                go_wp2
                go_roundw
                case rel => exact ⟨k + 1, n + 1, by omega, by go_num, by go_num, by omega, by rw [HCS.out, ← HC.out]; rfl, HBz⟩
                case measure => simp [intOf]; omega
            · have : k = l.length := by omega
              subst this
              have HC1 : Hid (n = cnt l x) := mkH (by have := HC.out; rwa [List.take_length] at this)
              have u3 := (HBy.out.cell (p := ⟨bb, ob + i, none⟩) hbb).trans HUB.out
              have hi3 : (i : Int) < (B.length : Int) := by omega
              have hi4 : (0 : Int) ≤ (i : Int) := by omega
              clear HC
              by_cases hx1 : x < 65536
              · by_cases hn1 : n = 1
                · have hn2 : ((n : Int) != 1) = false := by rw [hn1]; rfl
                  have HO2 := mkH (okAt_snoc HX.out HO.out (by unfold okAt; rw [← HC1.out, decide_eq_true hx1, decide_eq_true hn1]; rfl))
                  clear HC1
                  go_wp2
                  go_roundw
                  case rel => exact ⟨i + 1, by omega, by go_num, HO2, HBy⟩
                  case measure => simp [intOf]; omega
                · have hn2 : ((n : Int) != 1) = true := by simp; omega
                  have HE := mkH (HV.out.trans (HOFF.out i x HX.out (by unfold okAt; rw [← HC1.out, decide_eq_true hx1, decide_eq_false hn1]; rfl)))
                  clear HC1
                  go_wp2
                  go_ret
                  exact ⟨by rw [HE.out]; rfl, HB2.out.trans (HBy.out.mono HB2.out.size)⟩
              · have HO2 := mkH (okAt_snoc HX.out HO.out (by unfold okAt; rw [decide_eq_false hx1]; rfl))
                have hx2 : decide (x < 65536) = false := decide_eq_false hx1
                clear HC1
                go_wp2
                go_roundw
                case rel => exact ⟨i + 1, by omega, by go_num, HO2, HBy⟩
                case measure => simp [intOf]; omega
        · have : i = B.length := by omega
          subst this
          have HE := mkH (HV.out.trans (HEND.out HA1.out (by have := HO.out; rwa [List.take_length] at this)))
          go_wp2
          go_ret
          exact ⟨by rw [HE.out]; rfl, HB2.out.trans (HBx.out.mono HB2.out.size)⟩
end Go.Proofs.Ytiinhfkpfklgjaa.Pnc
