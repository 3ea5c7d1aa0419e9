/-
  chart.numsOf: a text's numbers.
-/
import Derived.Test.YtcpmcfagibmboabGreatChLa
import Derived.Test.YtcpmcfagibmboabGreatChH
import Derived.Test.YtcpmcfagibmboabGreatShX
import Derived.Deep.RegionLaw
namespace Go.Proofs.YtcpmcfagibmboabGreat.Lb
open Go.RowKit Pl Pw Pr Pf Pv Cp Ca Cb Cc Cd Ce Cf Gf Gk Ct Cu La Rd Ch
open Cr hiding some_of
open Kt hiding mkH
open Kv
set_option linter.unusedVariables false
set_option linter.unusedSimpArgs false
set_option maxRecDepth 20000

def slen : Value → Nat
  | .slice _ n _ => n
  | _ => 0
theorem slen_slice (a : Option Addr) (n c : Nat) : slen (.slice a n c) = n := rfl

/-- What numsOf answers. -/
def NmP (w : World) (bs : List UInt8) (e : Ending) (w' : World) : Prop := Below w.heap.size w w' ∧
  ((∃ L ao cap, Nums bs L ∧ e = .returned (.tuple #[.slice ao L.length cap, .bool true]) ∧ w'.ownsRow w.heap.size 3 1 (.slice ao L.length cap) L.length (J L)) ∨
   ((∀ L, ¬ Nums bs L) ∧ e = .returned (.tuple #[.slice none 0 0, .bool false])))

theorem row_drop {w : World} {b k : Nat} {rest : List UInt8} (h : Row w (some ⟨b, k, none⟩) rest) (n : Nat) : Row w (some ⟨b, k + n, none⟩) (rest.drop n) := by
  intro hl
  rw [List.length_drop] at hl
  obtain ⟨b', off, e, hc⟩ := h (by omega)
  cases e
  refine ⟨b, k + n, rfl, fun i hi => ?_⟩
  rw [List.length_drop] at hi
  have := hc (n + i) (by omega)
  rw [Nat.add_assoc, this]
  simp [List.getD_eq_getElem?_getD, List.getElem?_drop]

theorem row_bel {w w' : World} {b k n : Nat} {rest : List UInt8} (h : Row w (some ⟨b, k, none⟩) rest) (hb : Below n w w') (hn : b < n) : Row w' (some ⟨b, k, none⟩) rest := by
  intro hl
  obtain ⟨b', off, e, hc⟩ := h hl
  cases e
  exact ⟨b, k, rfl, fun i hi => by rw [hb.cell (p := ⟨b, k + i, none⟩) hn]; exact hc i hi⟩
theorem own1 (w : World) (a : Int) : (w.alloc (.cells #[.int .i64 a] 3)).ownsRow w.heap.size 3 1 (.slice (some ⟨w.heap.size, 0, none⟩) 1 1) 1 (J [a]) :=
  ⟨rfl, .inr ⟨w.heap.size, 1, _, rfl, Nat.le_refl _, heap_alloc_new w _, Nat.le_refl _, by decide, rfl, rfl⟩⟩

set_option maxHeartbeats 2000000 in
theorem numsOf_any (w : World) (bs : List UInt8) (hl : bs.length ≤ 1000) :
    Calls Tryz.prog 53 #[.string (S bs)] w fun e w' => NmP w bs e w' := by
  obtain ⟨W1, c1, hcv0, hrow, hb1, hs1, hc1, hc2⟩ := Hx.conv_big w (S bs) (by show bs.length ≤ _; omega)
  have hcv : (convert 9 34 (.string (S bs))).run Tryz.prog w = .ok (.slice (some ⟨w.heap.size, 0, none⟩) bs.length c1) W1 := hcv0
  have HR1 : Hid (Row W1 (some ⟨w.heap.size, 0, none⟩) bs) := mkH hrow
  have HB1 := mkH hb1
  have hc1' : bs.length ≤ c1 := hc1
  clear hcv0 hrow hb1 hc1
  go_enter Tryz.func53, Tryz.ntmps53
  go_wp2_with fail
  clear hcv
  go_loopw [2, 4] (fun v bv wr => ∃ (L : List Int) (rest : List UInt8) (k c : Nat), bv = .slice (some ⟨w.heap.size, k, none⟩) rest.length c ∧ rest.length ≤ c ∧ c ≤ 9223372036854775807 ∧ rest.length ≤ 1000 ∧ L.length + rest.length ≤ 1000 ∧ Hid (bs = txt L ++ rest) ∧ Hid (∀ x ∈ L, okN x) ∧ Hid (wr.ownsRow (w.heap.size + 1) 3 1 v L.length (J L)) ∧ Hid (Row W1 (some ⟨w.heap.size, k, none⟩) rest) ∧ Hid (Below (w.heap.size + 1) W1 wr))
    (fun _ bv _ => slen bv)
  case atStart => exact ⟨[], bs, 0, c1, rfl, hc1', hc2, hl, by simp; exact hl, mkH rfl, mkH (by simp), mkH ⟨by simp [J], .inl ⟨rfl, rfl⟩⟩, HR1, mkH (Below.refl _ _)⟩
  case round =>
    obtain ⟨L, rest, k, c, rfl, hrc, hc, hr1000, hLr, HE, HK, HO, HR, HB⟩ := hrel
    clear HR1
    by_cases h0 : rest = []
    · subst h0
      obtain ⟨ao, cp, rfl⟩ := own_form HO.out
      go_wp2
      go_ret2
      exact ⟨HB1.out.trans (HB.out.mono (Nat.le_succ _)), .inl ⟨L, ao, cp, ⟨by have := HE.out; simpa using this.symm, HK.out⟩, rfl, own_mono HO.out (Nat.le_succ _)⟩⟩
    · have hpos : 0 < rest.length := by cases rest with | nil => exact absurd rfl h0 | cons => simp
      have hz1 : (0 : Int) < (rest.length : Int) := by omega
      obtain ⟨n, sz, er, hrd⟩ : ∃ n sz er, readNum rest = (n, sz, er) := ⟨_, _, _, rfl⟩
      have HC := mkH (Rd.readNum_any wr _ c rest (row_bel HR.out HB.out (Nat.lt_succ_self _)) (by omega))
      rw [ans, hrd] at HC
      have HRD := mkH hrd
      have H0 := mkH h0
      clear hrd h0
      simp only at HC
      obtain ⟨m, hm⟩ : ∃ m, m = rest.length := ⟨_, rfl⟩
      have HM := mkH hm
      rw [← hm] at hpos hz1 HC hrc hr1000 hLr ⊢
      clear hm
      go_wp2_with fail
      refine HC.out.mono ?_
      rintro e w2 ⟨rfl, rfl⟩
      clear HC
      by_cases he : er = 0
      · subst he
        obtain ⟨k1, k2, k3, k4, k5⟩ := nums_step HK.out HE.out HRD.out
        rw [← HM.out] at k2
        have HE2 := mkH k4
        have HK2 := mkH k5
        clear k4 k5
        have hk2 : (sz : Int) ≤ (m : Int) := by omega
        have hk1 : (0 : Int) ≤ (sz : Int) := by omega
        have hk3 : (sz : Int) ≤ (c : Int) := by omega
        have hsz : w.heap.size + 1 ≤ w2.heap.size := by have := HB.out.size; omega
        have hal : Below (w.heap.size + 1) W1 ((w2.drew).alloc (.cells #[.int .i64 (n : Int)] 3)) := HB.out.trans (((Below.refl _ w2).drew.alloc (by simp) _).mono hsz)
        have HOW : Hid (((w2.drew).alloc (.cells #[.int .i64 (n : Int)] 3)).ownsRow (w.heap.size + 1) 3 1 u2 L.length (J L)) := mkH (own_below HO.out ((Below.refl _ w2).drew.alloc (by simp) _))
        have HSR : Hid (Src Tryz.prog 1 74 (.slice (some ⟨w2.heap.size, 0, none⟩) 1 1) 1 (J [(n : Int)]) ((w2.drew).alloc (.cells #[.int .i64 (n : Int)] 3))) := mkH (by
          have h := RowI.src (RowI.own (own1 w2.drew (n : Int))).2 1
          rw [show (w2.drew).heap.size = w2.heap.size by simp] at h
          exact h)
        have HBA := mkH hal
        have HSS := mkH hsz
        obtain ⟨k6, hk6, hr6⟩ : ∃ k6, (if c = sz then (some ⟨w.heap.size, k, none⟩ : Option Addr) else some ⟨w.heap.size, k + sz, none⟩) = some ⟨w.heap.size, k6, none⟩ ∧ Row W1 (some ⟨w.heap.size, k6, none⟩) (rest.drop sz) := by
          by_cases h : c = sz
          · exact ⟨k, if_pos h, fun h1 => by rw [List.length_drop, ← HM.out] at h1; omega⟩
          · exact ⟨k + sz, if_neg h, row_drop HR.out sz⟩
        have HR6 := mkH hr6
        have HK6 := mkH hk6
        clear HO hal hsz hr6 hk6
        obtain ⟨ln, hln⟩ : ∃ ln, ln = L.length := ⟨_, rfl⟩
        have HLN := mkH hln
        rw [← hln] at HOW hLr
        clear hln
        go_wp2_with fail
        go_region_law (first
          | (refine atApp (.tmp 21) (.tmp 23) 74 74 ?_ ?_; rfl; refine step_append_own_src (by rfl) (.tmp 21) (.tmp 23) 74 74 (by rfl) (w.heap.size + 1) 3 (.int .i64 0) 1 8 Tryz.underlying74 info3 (by rfl) (by decide) u2 ln (J L) (by rfl) (by exact HOW.out) (.slice (some ⟨w2.heap.size, 0, none⟩) 1 1) 1 (J [(n : Int)]) (by rfl) (by exact HSR.out) (by unfold maxLen; omega) (by omega) (by have := HSS.out; simp; omega) ?_; intro v3 w3 hown3 hgrow3; have HB3 := mkH (below_own HOW.out hgrow3 HBA.out (by have := HSS.out; simp; omega)); have HO3 := mkH hown3; clear hown3 hgrow3)
          | fail)
        all_goals
          rw [HK6.out]
          have HLX : Hid ((rest.drop sz).length = m - sz) := mkH (by rw [List.length_drop, ← HM.out])
          have HO4 : Hid (w3.ownsRow (w.heap.size + 1) 3 1 v3 (L ++ [(n : Int)]).length (J (L ++ [(n : Int)]))) := mkH (by
            have := HO3.out
            rwa [← J_append, HLN.out, show L.length + 1 = (L ++ [(n : Int)]).length by simp] at this)
          clear HOW HSR HBA HO3 HB
          go_simp
          go_wp2
          go_roundw
          case rel => exact ⟨L ++ [(n : Int)], rest.drop sz, k6, c - sz, by rw [HLX.out], by rw [HLX.out]; omega, by omega, by rw [HLX.out]; omega, by rw [HLX.out, List.length_append, List.length_singleton, ← HLN.out]; omega, HE2, HK2, HO4, HR6, HB3⟩
          case measure => simp only [slen_slice]; omega
      · have he1 : ((er : Int) != 0) = true := by simp; omega
        go_wp2
        go_ret2
        exact ⟨HB1.out.trans (HB.out.mono (Nat.le_succ _)), .inr ⟨nums_bad HK.out HE.out H0.out (by rw [HRD.out]; exact he), rfl⟩⟩
end Go.Proofs.YtcpmcfagibmboabGreat.Lb
