/-
  The document's Dump of a chart.
-/
import Derived.Test.YtcpmcfagibmboaaChI
import Derived.Test.YtcpmcfagibmboaaChU
import Derived.Test.YtcpmcfagibmboaaRef
namespace Go.Proofs.Ytcpmcfagibmboaa.Cx
open Go.RowKit Pl Pw Pr Pf Pv Cp Ca Cb Cc Cd Ce Cf Gf Gk Wr Ct Cu
open Cr hiding some_of
open Kt hiding mkH
open Kv
set_option linter.unusedVariables false
set_option linter.unusedSimpArgs false
set_option maxRecDepth 20000

theorem txt_append (a b : List Int) : txt (a ++ b) = txt a ++ txt b := by simp [txt]
theorem txt_one (x : Int) : txt [x] = eI x := by simp [txt]

theorem rnum_any (w : World) (ao : Option Addr) (cap : Nat) (L : List Int) (n : Int) (hr : Row w ao (txt L)) (hlen : (txt L).length ≤ 1000000000) (hn : okN n) :
    Calls Try.prog 49 #[.slice ao (txt L).length cap, .int .i64 n] w fun e w' => ∃ a c, e = .returned (.tuple #[.slice a (txt (L ++ [n])).length c, .int .i64 0]) ∧ Hid (Row w' a (txt (L ++ [n]))) ∧ Below w.heap.size w w' := by
  obtain ⟨k, rfl⟩ := Int.eq_ofNat_of_zero_le hn.1
  have e1 : txt (L ++ [(k : Int)]) = txt L ++ enc k := by rw [txt_append, txt_one]; rfl
  refine (Rf.refNum_ok w ao cap k (txt L) hr hlen (by have := hn.2; omega)).mono ?_
  rintro e w' ⟨v, rfl, ho, hb⟩
  rw [← List.length_append, ← e1] at ho
  obtain ⟨a, c, rfl⟩ := own_form ho
  exact ⟨a, c, rfl, mkH (Row.own ho).2.2, hb⟩

set_option maxHeartbeats 1000000 in
theorem rdump_any (w : World) (e : Int) (ao : Option Addr) (cap : Nat) (l : List Pc) (h : RdP w ao cap l) (hl : l.length ≤ 30000) :
    Calls Try.prog 39 #[.agg #[.int .i64 e, .slice ao l.length cap]] w fun x w' => x = .returned (dmpV e l) ∧ Below w.heap.size w w' := by
  obtain ⟨W1, hW1⟩ : ∃ W1, W1 = w.alloc (.cells #[.int .i64 e, .slice ao l.length cap] 24) := ⟨_, rfl⟩
  have b0 : Bx W1 w.heap.size #[.int .i64 e, .slice ao l.length cap] 24 := by rw [hW1]; exact Bx.new w _ _
  have hB : Below w.heap.size w W1 := by rw [hW1]; exact (Below.refl _ w).alloc (Nat.le_refl _) _
  have hz : W1.heap.size = w.heap.size + 1 := by rw [hW1]; simp
  obtain ⟨c0, c1, -, -⟩ := two_load (P := Try.prog) b0
  have HM := mkH (Ci.rmay_any W1 e ao cap l (h.below hB) (by omega))
  have HB0 := mkH b0
  have HBW := mkH hB
  have HW := mkH hW1
  have H0 := mkH h
  clear b0 hB hW1 h
  go_enter Try.func39, Try.ntmps39
  go_wp2_with fail
  rw [show w.alloc (.cells #[.int .i64 e, .slice ao l.length cap] 24) = W1 from HW.out.symm]
  clear HW
  refine HM.out.mono ?_
  rintro x w2 ⟨rfl, hb2⟩
  have HX := mkH (HB0.out.bel hb2)
  have HB := mkH (HBW.out.trans (hb2.mono HBW.out.size))
  have hz2 : w.heap.size + 1 ≤ w2.heap.size := by have := hb2.size; omega
  clear hb2 HB0 HBW HM c0 c1 hz
  clear W1
  obtain ⟨c0, c1, -, -⟩ := two_load (P := Try.prog) HX.out
  cases hm : mayC e l with
  | false =>
    have HMM := mkH hm
    clear hm
    go_wp2
    go_ret2
    exact ⟨by rw [dmpV_not HMM.out]; rfl, HB.out⟩
  | true =>
    have HOK := mkH (nums_ok hm (by omega))
    have HMM := mkH hm
    clear hm
    have ok0 := HOK.out e (by simp [nums])
    have ok1 := HOK.out (l.length : Int) (by simp [nums])
    have HN1 := rnum_any w2 none 0 [] e (fun h => by simp [txt] at h) (by simp [txt]) ok0
    simp only [show (txt []).length = 0 from rfl, List.nil_append] at HN1
    go_wp2_with fail
    refine HN1.mono ?_
    rintro x w3 ⟨a3, k3, rfl, hr3, hb3⟩
    have hx3 := HX.out.bel hb3
    obtain ⟨d0, d1, -, -⟩ := two_load (P := Try.prog) hx3
    have hl1 : (txt [e]).length ≤ 9 * [e].length := txt_len _ (fun y hy => by simp at hy; subst hy; exact ok0)
    have HN2 := rnum_any w3 a3 k3 [e] (l.length : Int) hr3.out (by simp at hl1; omega) ok1
    have HX3 := mkH hx3
    have HB3 := mkH (HB.out.trans (hb3.mono HB.out.size))
    have hz3 := hb3.size
    clear HN1 hb3 hx3 c0 c1 HX HB hr3 hl1 ok0
    go_wp2_with fail
    refine HN2.mono ?_
    rintro x w4 ⟨a4, k4, rfl, hr4, hb4⟩
    have HX4 := mkH (HX3.out.bel hb4)
    have HB4 := mkH (HB3.out.trans (hb4.mono HB3.out.size))
    have hz4 := hb4.size
    have hw4 : w.heap.size + 1 ≤ w4.heap.size := by omega
    clear HN2 hb4 d0 d1 HX3 HB3 hz3 hz4 ok1 hz2
    clear w2 w3
    obtain ⟨c0, c1, -, -⟩ := two_load (P := Try.prog) HX4.out
    go_wp2_with fail
    clear c0 c1
    go_loopw [4, 6] (fun v ct wr => ∃ (k : Nat) (a : Option Addr) (c : Nat), k ≤ l.length ∧ ct = .int .i64 k ∧ v = .slice a (txt (nums e l.length (l.take k))).length c ∧ Hid (Row wr a (txt (nums e l.length (l.take k)))) ∧ Hid (Below (w.heap.size + 1) w4 wr))
      (fun _ ct _ => l.length - (intOf ct).toNat)
    case atStart => exact ⟨0, a4, k4, Nat.zero_le _, rfl, rfl, hr4, mkH (Below.refl _ _)⟩
    case round =>
      obtain ⟨k, a, c, hk, rfl, rfl, HRW, HBR⟩ := hrel
      have HXr := mkH (HX4.out.below HBR.out (Nat.lt_succ_self _))
      obtain ⟨c0, c1, -, -⟩ := two_load (P := Try.prog) HXr.out
      have hsz := HBR.out.size
      by_cases hlt : k < l.length
      · obtain ⟨z, hz⟩ := Cr.some_of hlt
        obtain ⟨b, o, e1, p0, p1, p2⟩ := atP H0.out.r hz
        subst e1
        have hbw : b < w.heap.size := World.block_lt_of_cell? _ _ p0
        have hji : (k : Int) < (l.length : Int) := by omega
        have hji0 : (0 : Int) ≤ (k : Int) := by omega
        have hmem : ∀ y ∈ n3 z, okN y := fun y hy => HOK.out y (by simp only [nums, List.mem_cons, List.mem_flatMap]; exact .inr (.inr ⟨z, List.mem_of_getElem? hz, hy⟩))
        have HN : Hid (nums e l.length (l.take (k + 1)) = nums e l.length (l.take k) ++ [z.1] ++ [z.2.1] ++ [z.2.2]) := mkH (by rw [List.take_add_one, hz, Option.toList_some, nums_snoc]; simp [n3])
        have HL : Hid ((txt (nums e l.length (l.take k) ++ [z.1] ++ [z.2.1] ++ [z.2.2])).length ≤ 1000000000) := mkH (by
          rw [← HN.out]
          have h1 := txt_len (nums e l.length (l.take (k + 1))) (fun y hy => HOK.out y (by
            simp only [nums, List.mem_cons, List.mem_flatMap] at hy ⊢
            rcases hy with h | h | ⟨q, hq, h⟩
            · exact .inl h
            · exact .inr (.inl h)
            · exact .inr (.inr ⟨q, List.mem_of_mem_take hq, h⟩)))
          rw [nums_len] at h1
          have : (l.take (k + 1)).length ≤ 30000 := by rw [List.length_take]; omega
          omega)
        generalize nums e l.length (l.take k) = L at HRW HN HL
        obtain ⟨L1, hL1⟩ : ∃ L1, L1 = L ++ [z.1] := ⟨_, rfl⟩
        obtain ⟨L2, hL2⟩ : ∃ L2, L2 = L1 ++ [z.2.1] := ⟨_, rfl⟩
        obtain ⟨L3, hL3⟩ : ∃ L3, L3 = L2 ++ [z.2.2] := ⟨_, rfl⟩
        rw [← hL1, ← hL2, ← hL3] at HN HL
        have hl3 := HL.out
        have HK : Hid (∀ W, Below (w.heap.size + 1) wr W → Bx W w.heap.size #[.int .i64 e, .slice (some ⟨b, o, none⟩) l.length cap] 24 ∧ W.cell? ⟨b, o + k * 3, none⟩ = some (.int .i64 z.1) ∧ W.cell? ⟨b, o + k * 3 + 1, none⟩ = some (.int .i64 z.2.1) ∧ W.cell? ⟨b, o + k * 3 + 2, none⟩ = some (.int .i64 z.2.2)) := mkH (fun W hb => by
          have hh := HB4.out.trans ((HBR.out.trans hb).mono (Nat.le_succ _))
          exact ⟨HXr.out.below hb (Nat.lt_succ_self _), (hh.cell (p := ⟨b, o + k * 3, none⟩) hbw).trans p0, (hh.cell (p := ⟨b, o + k * 3 + 1, none⟩) hbw).trans p1, (hh.cell (p := ⟨b, o + k * 3 + 2, none⟩) hbw).trans p2⟩)
        obtain ⟨-, q0, q1, q2⟩ := HK.out wr (Below.refl _ _)
        have hm0 := hmem z.1 (by simp [n3])
        have hm1 := hmem z.2.1 (by simp [n3])
        have hm2 := hmem z.2.2 (by simp [n3])
        have t3 := txt_append L2 [z.2.2]
        have t2 := txt_append L1 [z.2.1]
        have t1 := txt_append L [z.1]
        rw [← hL3] at t3
        rw [← hL2] at t2
        rw [← hL1] at t1
        have u3 := congrArg List.length t3
        have u2 := congrArg List.length t2
        have u1 := congrArg List.length t1
        simp only [List.length_append] at u1 u2 u3
        have HA := rnum_any wr a c L z.1 HRW.out (by omega) hm0
        rw [← hL1] at HA
        have hs1 : (txt L1).length ≤ 1000000000 := by omega
        have hs2 : (txt L2).length ≤ 1000000000 := by omega
        have HS1 := mkH hs1
        have HS2 := mkH hs2
        have E1 := mkH hL1
        have E2 := mkH hL2
        have E3 := mkH hL3
        clear hL1 hL2 hL3
        clear p0 p1 p2 hz hmem hm0 hl3 t1 t2 t3 u1 u2 u3 hs1 hs2 HRW HL HXr
        go_wp2_with fail
        refine HA.mono ?_
        rintro x w5 ⟨a5, k5, rfl, hr5, hb5⟩
        have g5 : Below (w.heap.size + 1) wr w5 := hb5.mono (by omega)
        obtain ⟨x5, y0, y1, y2⟩ := HK.out w5 g5
        obtain ⟨d0, d1, -, -⟩ := two_load (P := Try.prog) x5
        have HA2 := rnum_any w5 a5 k5 L1 z.2.1 hr5.out HS1.out hm1
        rw [← E2.out] at HA2
        have hz5 := g5.size
        have HG := mkH g5
        clear HA c0 c1 q0 q1 q2 x5 hb5 g5 hr5 hm1 HS1
        go_wp2_with fail
        refine HA2.mono ?_
        rintro x w6 ⟨a6, k6, rfl, hr6, hb6⟩
        have g6 : Below (w.heap.size + 1) wr w6 := HG.out.trans (hb6.mono (by omega))
        obtain ⟨x6, z0, z1, z2⟩ := HK.out w6 g6
        obtain ⟨c0, c1, -, -⟩ := two_load (P := Try.prog) x6
        have HA3 := rnum_any w6 a6 k6 L2 z.2.2 hr6.out HS2.out hm2
        rw [← E3.out] at HA3
        have hz6 := g6.size
        have HG2 := mkH g6
        clear HA2 d0 d1 y0 y1 y2 x6 hb6 g6 hr6 hm2 HS2 HG hz5
        go_wp2_with fail
        refine HA3.mono ?_
        rintro x w7 ⟨a7, k7, rfl, hr7, hb7⟩
        have g7 : Below (w.heap.size + 1) wr w7 := HG2.out.trans (hb7.mono (by omega))
        have HBF := mkH (HBR.out.trans g7)
        have HRF : Hid (Row w7 a7 (txt (nums e l.length (l.take (k + 1))))) := mkH (by rw [HN.out]; exact hr7.out)
        have HV : Hid (Value.slice a7 (txt L3).length k7 = Value.slice a7 (txt (nums e l.length (l.take (k + 1)))).length k7) := mkH (by rw [HN.out])
        clear HA3 c0 c1 z0 z1 z2 hb7 g7 hr7 HG2 hz6 HK HBR
        go_wp2
        go_roundw
        case rel => exact ⟨k + 1, a7, k7, by omega, by go_num, HV.out, HRF, HBF⟩
        case measure => simp [intOf]; omega
      · obtain rfl : k = l.length := by omega
        rw [List.take_length] at HRW ⊢
        have hs := run_string (P := Try.prog) Try.underlying79 Try.underlying5 Try.underlying9 HRW.out c
        have HF := mkH (HB4.out.trans (HBR.out.mono (Nat.le_succ _)))
        clear HRW HBR HX4 HXr
        go_wp2
        go_ret2
        exact ⟨by rw [dmpV_may HMM.out]; rfl, HF.out⟩
end Go.Proofs.Ytcpmcfagibmboaa.Cx
