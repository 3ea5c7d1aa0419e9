/-
  The document's May of a chart.
-/
import Derived.Test.YtcpmcfagibmboaaChH
import Derived.BigQuiet
namespace Go.Proofs.Ytcpmcfagibmboaa.Ci
open Go.RowKit Pl Pw Pr Pf Pv Cp Ca Cb Cc Cd Ce Cf Cg Ch Gf Gk
open Cr hiding some_of
open Kt hiding mkH
open Kv
set_option linter.unusedVariables false
set_option linter.unusedSimpArgs false
set_option maxRecDepth 20000

/-- The shard of the piece ahead of a place. -/
def pvS (ps : List Pc) (k : Nat) : Int := if k = 0 then 0 else match ps[k - 1]? with | some y => y.2.2 | none => 0
theorem pvS_succ {ps : List Pc} {k : Nat} {x : Pc} (h : ps[k]? = some x) : pvS ps (k + 1) = x.2.2 := by
  unfold pvS; rw [if_neg (by omega), Nat.add_sub_cancel, h]
theorem gd_step {ps : List Pc} {k : Nat} {x : Pc} (h : ps[k]? = some x) (a s b : Int) : Gd a s (ps.drop k) b ↔ x.1 = a ∧ a < x.2.1 ∧ x.2.2 ≠ s ∧ (1 ≤ x.2.2 ∧ x.2.2 ≤ 6) ∧ Gd x.2.1 x.2.2 (ps.drop (k + 1)) b := by
  have hk := Cr.lt_of h
  rw [List.drop_eq_getElem_cons hk]
  rw [List.getElem?_eq_getElem hk] at h
  injection h with h
  rw [h]; rfl

set_option maxHeartbeats 4000000 in
theorem rmay_any (w : World) (e : Int) (ao : Option Addr) (cap : Nat) (ps : List Pc) (h : RdP w ao cap ps) (hl : ps.length ≤ 100000) :
    Calls Try.prog 30 #[.agg #[.int .i64 e, .slice ao ps.length cap]] w fun x w' => x = .returned (.bool (mayC e ps)) ∧ Below w.heap.size w w' := by
  obtain ⟨V, hV⟩ : ∃ V, V = mayC e ps := ⟨_, rfl⟩
  rw [← hV]
  have HV := mkH hV
  clear hV
  have HX : Hid (Bx (w.alloc (.cells #[.int .i64 e, .slice ao ps.length cap] 24)) w.heap.size #[.int .i64 e, .slice ao ps.length cap] 24) := mkH (Bx.new _ _ _)
  have HB0 := mkH ((Below.refl w.heap.size w).alloc (Nat.le_refl _) (.cells #[.int .i64 e, .slice ao ps.length cap] 24))
  have HR := mkH (h.below HB0.out)
  clear h
  by_cases h1 : e < 1
  · have HE := mkH (HV.out.trans (mayC_low e ps (by omega)))
    go_enter Try.func30, Try.ntmps30
    go_wp2
    go_ret
    exact ⟨by rw [HE.out]; rfl, HB0.out⟩
  · by_cases h2 : 1099511627776 < e
    · have HE := mkH (HV.out.trans (mayC_low e ps (by omega)))
      go_enter Try.func30, Try.ntmps30
      go_wp2
      go_ret
      exact ⟨by rw [HE.out]; rfl, HB0.out⟩
    · have HI : Hid (V = true ↔ Gd 0 0 ps 65536) := mkH (by rw [HV.out, mayC_iff]; exact ⟨fun hh => hh.2, fun hh => ⟨⟨by omega, by omega⟩, hh⟩⟩)
      clear HV
      go_enter Try.func30, Try.ntmps30
      go_wp2
      generalize w.alloc (.cells #[.int .i64 e, .slice ao ps.length cap] 24) = W0 at *
      go_loopw [3, 4] (fun u i wr => ∃ (k : Nat) (a : Int), k ≤ ps.length ∧ i = .int .i64 k ∧ u = .int .i64 a ∧ Hid (V = true ↔ Gd a (pvS ps k) (ps.drop k) 65536) ∧ Hid (Below W0.heap.size W0 wr)) (fun _ i _ => ps.length - (intOf i).toNat)
      case atStart => exact ⟨0, 0, Nat.zero_le _, rfl, rfl, HI, mkH (Below.refl _ _)⟩
      case round =>
        obtain ⟨k, a, hk, rfl, rfl, HF, HB⟩ := hrel
        clear HI
        have HX1 := mkH (HX.out.bel HB.out)
        have HW := mkH (HB0.out.trans (HB.out.mono HB0.out.size))
        obtain ⟨x0, x1, -, -⟩ := two_load (P := Try.prog) HX1.out
        by_cases hlt : k < ps.length
        · obtain ⟨x, hx⟩ := Cr.some_of hlt
          obtain ⟨b, o, e1, c0, c1, c2⟩ := atP (HR.out.r.below HB.out) hx
          subst e1
          have hi : (k : Int) < (ps.length : Int) := by omega
          have hi0 : (0 : Int) ≤ (k : Int) := by omega
          have HG := gd_step hx a (pvS ps k) 65536
          rw [← HF.out] at HG
          have HGG := mkH HG
          have HPS := mkH (pvS_succ hx)
          have HNX : Hid (Gd x.2.1 x.2.2 (ps.drop (k + 1)) 65536 → x.2.1 ≤ 65536) := mkH (fun hh => gd_le _ _ _ _ hh)
          have HPV : Hid (∀ y, 0 < k → ps[k - 1]? = some y → pvS ps k = y.2.2) := mkH (fun y h0 hy => by unfold pvS; rw [if_neg (by omega), hy])
          have HP0 : Hid (k = 0 → pvS ps k = 0) := mkH (fun h0 => by unfold pvS; rw [if_pos h0])
          have hwn : (wr.alloc (.cells #[.int .i64 x.1, .int .i64 x.2.1, .int .i64 x.2.2] 63)).heap.size = wr.heap.size + 1 := by simp
          have HBN := mkH (HB.out.alloc HB.out.size (.cells #[.int .i64 x.1, .int .i64 x.2.1, .int .i64 x.2.2] 63))
          have HPX : Hid (Bx (wr.alloc (.cells #[.int .i64 x.1, .int .i64 x.2.1, .int .i64 x.2.2] 63)) wr.heap.size #[.int .i64 x.1, .int .i64 x.2.1, .int .i64 x.2.2] 63) := mkH (Bx.new _ _ _)
          have HXN := mkH (HX.out.bel HBN.out)
          have HRN := mkH (HR.out.below HBN.out)
          have HXX := mkH hx
          clear HG hx hwn HF
          go_wp2_with fail
          clear c0 c1 c2 x0 x1
          generalize wr.heap.size = b5 at *
          generalize wr.alloc (.cells #[.int .i64 x.1, .int .i64 x.2.1, .int .i64 x.2.2] 63) = W4 at *
          obtain ⟨x0, x1, -, -⟩ := two_load (P := Try.prog) HXN.out
          have m0 := HPX.out.cell 0 _ rfl
          have m1 := HPX.out.cell 1 _ rfl
          have m2 := HPX.out.cell 2 _ rfl
          obtain ⟨p1, p2, p3⟩ := x
          simp only at m0 m1 m2 HGG HPS HNX
          by_cases a1 : p1 = a
          · subst a1
            have k0 : (p1 != p1) = false := by simp
            by_cases a2 : p2 ≤ p1
            · have HE : Hid (V = false) := mkH (by rw [← Bool.not_eq_true, HGG.out]; exact fun hh => by have := hh.2.1; omega)
              skip
              go_quiet (fail)
              go_wp2
              go_ret
              exact ⟨by rw [HE.out]; rfl, Gf.below_drewN (HB0.out.trans (HBN.out.mono HB0.out.size)) _⟩
            · by_cases a3 : 65536 < p2
              · have HE : Hid (V = false) := mkH (by rw [← Bool.not_eq_true, HGG.out]; exact fun hh => by have := HNX.out hh.2.2.2.2; omega)
                skip
                go_quiet (fail)
                go_wp2
                go_ret
                exact ⟨by rw [HE.out]; rfl, Gf.below_drewN (HB0.out.trans (HBN.out.mono HB0.out.size)) _⟩
              · by_cases a4 : p3 < 1
                · have HE : Hid (V = false) := mkH (by rw [← Bool.not_eq_true, HGG.out]; exact fun hh => by have := hh.2.2.2.1; omega)
                  skip
                  go_quiet (fail)
                  go_wp2
                  go_ret
                  exact ⟨by rw [HE.out]; rfl, Gf.below_drewN (HB0.out.trans (HBN.out.mono HB0.out.size)) _⟩
                · by_cases a5 : 6 < p3
                  · have HE : Hid (V = false) := mkH (by rw [← Bool.not_eq_true, HGG.out]; exact fun hh => by have := hh.2.2.2.1; omega)
                    skip
                    go_quiet (fail)
                    go_wp2
                    go_ret
                    exact ⟨by rw [HE.out]; rfl, Gf.below_drewN (HB0.out.trans (HBN.out.mono HB0.out.size)) _⟩
                  · by_cases a6 : k = 0
                    · subst a6
                      have HF2 : Hid (V = true ↔ Gd p2 (pvS ps (0 + 1)) (ps.drop (0 + 1)) 65536) := mkH (by
                        rw [HGG.out, HPS.out, HP0.out rfl]
                        exact ⟨fun hh => hh.2.2.2.2, fun hh => ⟨rfl, by omega, by omega, ⟨by omega, by omega⟩, hh⟩⟩)
                      clear HGG HPS HP0 HPV
                      go_quiet (fail)
                      have HBQ : Hid (Below W0.heap.size W0 (W4.drewN nq)) := mkH (Gf.below_drewN HBN.out _)
                      obtain ⟨n0, n1, n2⟩ : (W4.drewN nq).cell? ⟨b5, 0, none⟩ = some (.int .i64 p1) ∧ (W4.drewN nq).cell? ⟨b5, 1, none⟩ = some (.int .i64 p2) ∧ (W4.drewN nq).cell? ⟨b5, 2, none⟩ = some (.int .i64 p3) := ⟨m0, m1, m2⟩
                      generalize W4.drewN nq = W5 at *
                      clear m0 m1 m2 x0 x1
                      go_wp2
                      go_roundw
                      case rel => exact ⟨0 + 1, p2, by omega, by go_num, rfl, HF2, HBQ⟩
                      case measure => simp [intOf]; omega
                    · obtain ⟨y, hy⟩ := Cr.some_of (show k - 1 < ps.length by omega)
                      have hpv := HPV.out y (by omega) hy
                      obtain ⟨b', o', e1, d0, d1, d2⟩ := atP HRN.out.r hy
                      simp only [Option.some.injEq, Addr.mk.injEq, and_true] at e1
                      obtain ⟨rfl, rfl⟩ := e1
                      have hk1 : (0 : Int) < (k : Int) := by omega
                      have hk1n : 0 < k := by omega
                      have hk2n : k - 1 < ps.length := by omega
                      have hk2 : ((k - 1 : Nat) : Int) < (ps.length : Int) := by omega
                      have hk3 : (0 : Int) ≤ ((k - 1 : Nat) : Int) := by omega
                      have hkk : ((k : Int) - 1) = ((k - 1 : Nat) : Int) := by omega
                      have y2 : IntKind.i64.wrap ((k - 1 : Nat) : Int) = ((k - 1 : Nat) : Int) := IntWalk.i64_in _ (by omega)
                      have y1 : IntKind.i64.wrap ((k : Int) - 1) = ((k - 1 : Nat) : Int) := by rw [hkk]; exact y2
                      obtain ⟨z1, z2, z3⟩ := y
                      simp only at d0 d1 d2 hpv
                      have HPV2 := mkH hpv
                      clear hy hpv
                      generalize k - 1 = kj at *
                      by_cases a7 : p3 = z3
                      · have HE : Hid (V = false) := mkH (by rw [← Bool.not_eq_true, HGG.out]; exact fun hh => hh.2.2.1 (by rw [HPV2.out]; exact a7))
                        subst a7
                        have k5 : (p3 == p3) = true := by simp
                        go_quiet (fail)
                        go_wp2
                        go_ret
                        exact ⟨by rw [HE.out]; rfl, Gf.below_drewN (HB0.out.trans (HBN.out.mono HB0.out.size)) _⟩
                      · have k5 : (p3 == z3) = false := by simp [a7]
                        have HF2 : Hid (V = true ↔ Gd p2 (pvS ps (k + 1)) (ps.drop (k + 1)) 65536) := mkH (by
                          rw [HGG.out, HPS.out, HPV2.out]
                          exact ⟨fun hh => hh.2.2.2.2, fun hh => ⟨rfl, by omega, a7, ⟨by omega, by omega⟩, hh⟩⟩)
                        clear HGG HPS HP0 HPV HPV2
                        go_quiet (fail)
                        have HBQ : Hid (Below W0.heap.size W0 (W4.drewN nq)) := mkH (Gf.below_drewN HBN.out _)
                        obtain ⟨n0, n1, n2⟩ : (W4.drewN nq).cell? ⟨b5, 0, none⟩ = some (.int .i64 p1) ∧ (W4.drewN nq).cell? ⟨b5, 1, none⟩ = some (.int .i64 p2) ∧ (W4.drewN nq).cell? ⟨b5, 2, none⟩ = some (.int .i64 p3) := ⟨m0, m1, m2⟩
                        generalize W4.drewN nq = W5 at *
                        clear m0 m1 m2 x0 x1 d0 d1 d2 y1 y2
                        go_wp2
                        go_roundw
                        case rel => exact ⟨k + 1, p2, by omega, by go_num, rfl, HF2, HBQ⟩
                        case measure => simp [intOf]; omega
          · have HE : Hid (V = false) := mkH (by rw [← Bool.not_eq_true, HGG.out]; exact fun hh => a1 hh.1)
            have k1 : (p1 != a) = true := by simp [a1]
            have k2 : (p1 == a) = false := by simp [a1]
            go_quiet (fail)
            go_wp2
            go_ret
            exact ⟨by rw [HE.out]; rfl, Gf.below_drewN (HB0.out.trans (HBN.out.mono HB0.out.size)) _⟩
        · have : k = ps.length := by omega
          subst this
          rw [List.drop_length] at HF
          have HF2 : Hid (V = decide (a = 65536)) := mkH (by rw [Bool.eq_iff_iff, HF.out, decide_eq_true_eq]; exact Iff.rfl)
          clear HF
          go_wp2
          go_ret
          exact ⟨by rw [HF2.out]; rfl, HW.out⟩
end Go.Proofs.Ytcpmcfagibmboaa.Ci
