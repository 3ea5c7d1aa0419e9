/-
  chart.Of (as in ChG).
-/
import Derived.Test.YtabckkepkennhaaChB
namespace Go.Proofs.Ytabckkepkennhaa.Fg
open Go.RowKit Pl Pw Pr Pf Pv Cp Ca Cb Gf Gk
open Cr hiding some_of
open Kt hiding mkH
open Kv
set_option linter.unusedVariables false
set_option linter.unusedSimpArgs false
set_option maxRecDepth 20000

theorem ofL_step {ps : List Pc} {k : Nat} {x : Pc} (q : Int) (h : ps[k]? = some x) : ofL (ps.drop k) q = if inn (rg x) q then x.2.2 else ofL (ps.drop (k + 1)) q := by
  have hk := Cr.lt_of h
  rw [List.drop_eq_getElem_cons hk, ofL]
  rw [List.getElem?_eq_getElem hk] at h
  injection h with h
  rw [h]

set_option maxHeartbeats 1000000 in
theorem of_any (w : World) (e : Int) (ao : Option Addr) (cap : Nat) (ps : List Pc) (h : RdP w ao cap ps) (hl : ps.length ≤ 100000) (p : Int) :
    Calls Try.prog 58 #[.agg #[.int .i64 e, .slice ao ps.length cap], .int .i64 p] w fun x w' => x = .returned (.int .i64 (ofL ps p)) ∧ Below w.heap.size w w' := by
  obtain ⟨V, hV⟩ : ∃ V, V = ofL ps p := ⟨_, rfl⟩
  rw [← hV]
  have HV := mkH hV
  clear hV
  have hb0 : Bx (w.alloc (.cells #[.int .i64 e, .slice ao ps.length cap] 40)) w.heap.size #[.int .i64 e, .slice ao ps.length cap] 40 := Bx.new _ _ _
  have HB0 := mkH ((Below.refl w.heap.size w).alloc (Nat.le_refl _) (.cells #[.int .i64 e, .slice ao ps.length cap] 40))
  have HR := mkH h
  clear h hb0
  go_enter Try.func58, Try.ntmps58
  go_wp2
  go_loopw [10] (fun i wr => ∃ k : Nat, k ≤ ps.length ∧ i = .int .i64 k ∧ Hid (V = ofL (ps.drop k) p) ∧ Hid (Below w.heap.size w wr)) (fun i _ => ps.length - (intOf i).toNat)
  case atStart => exact ⟨0, Nat.zero_le _, rfl, HV, HB0⟩
  case round =>
    obtain ⟨k, hk, rfl, HF, HB⟩ := hrel
    by_cases hlt : k < ps.length
    · obtain ⟨x, hx⟩ := Cr.some_of hlt
      obtain ⟨b, o, e1, c0, c1, c2⟩ := atP (HR.out.r.below HB.out) hx
      subst e1
      have hi : (k : Int) < (ps.length : Int) := by omega
      have hi0 : (0 : Int) ≤ (k : Int) := by omega
      have hin := fun W => in_any W x.1 x.2.1 p
      have HS := mkH (ofL_step p hx)
      have HBN := mkH (HB.out.alloc HB.out.size (.cells #[.int .i64 x.1, .int .i64 x.2.1, .int .i64 x.2.2] 97))
      have HX : Hid (Bx (wr.alloc (.cells #[.int .i64 x.1, .int .i64 x.2.1, .int .i64 x.2.2] 97)) wr.heap.size #[.int .i64 x.1, .int .i64 x.2.1, .int .i64 x.2.2] 97) := mkH (Bx.new _ _ _)
      have hwz := HB.out.size
      clear hx HR HV HB
      have hrg : inn (rg x) p = inn (x.1, x.2.1) p := rfl
      rw [hrg] at HS
      clear hrg
      cases hq : inn (x.1, x.2.1) p
      · rw [hq] at hin HS
        have HQ2 := mkH (HF.out.trans HS.out)
        go_wp2_with fail
        refine (hin _).mono ?_
        rintro e w1 ⟨rfl, hg1⟩
        have HB1 := mkH (HBN.out.trans (hg1.below.mono (by simp; omega)))
        clear hg1
        go_wp2
        go_roundw
        case rel => exact ⟨k + 1, by omega, by go_num, mkH (by rw [HQ2.out]; rfl), HB1⟩
        case measure => simp [intOf]; omega
      · rw [hq] at hin HS
        have HQ2 := mkH (HF.out.trans HS.out)
        go_wp2_with fail
        refine (hin _).mono ?_
        rintro e w1 ⟨rfl, hg1⟩
        have HB1 := mkH (HBN.out.trans (hg1.below.mono (by simp; omega)))
        have hc := (HX.out.bel hg1.below).cell 2 _ rfl
        clear hg1
        go_wp2
        go_ret
        exact ⟨by rw [HQ2.out]; rfl, HB1.out⟩
    · have : k = ps.length := by omega
      subst this
      rw [List.drop_length] at HF
      clear HR
      go_wp2
      go_ret
      exact ⟨by rw [HF.out]; rfl, HB.out⟩
end Go.Proofs.Ytabckkepkennhaa.Fg
