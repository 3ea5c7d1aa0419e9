/-
  The walk of DiskWhole.
-/
import Derived.Test.YtgdmkhmdfijieaaDiS
namespace Go.Proofs.Ytgdmkhmdfijieaa.Dwh
open Go.RowKit Kt Dk Dp Da Db Dc Dd De Df Dg Dst
set_option linter.unusedVariables false
set_option maxRecDepth 20000

set_option maxHeartbeats 4000000 in
theorem whole_walk (w : World) (a0 a1 : Option Addr) (p0 p1 : Nat) (l0 : List Ac) (xb : List UInt8) (n : Int) (hr0 : RowA w a0 l0) (hl0 : l0.length ≤ p0) (hp0 : p0 ≤ 9223372036854775807) (hr1 : Row w a1 xb) (hl1 : xb.length ≤ p1) (hp1 : p1 ≤ 9223372036854775807) (hn : n ≤ 9223372036854775807) :
    Calls Try.prog 7 #[.slice a0 l0.length p0, .slice a1 xb.length p1, .int .i64 n] w fun e w' => e = .returned (.bool true) ∧ Below w.heap.size w w' := by
  go_enter Try.func7, Try.ntmps7
  have kc := fun (w : World) (C : Array Value) (n c : Nat) => Lib.run_convert_bytes_const (P := Try.prog) w 26 5 C n c Try.underlying26 Try.underlying5
  go_wp2_with fail
  refine (plays_any w a0 p0 l0 hr0 hl0 hp0).mono ?_
  rintro e w1 ⟨D, s, rfl, hs, h1⟩
  obtain ⟨m, hm1, hm2, hm3, hm4⟩ := min_len xb 500
  have hm2 : (if (500 : Int) < (xb.length : Int) then (500 : Int) else (xb.length : Int)) = (m : Int) := hm2
  have HX := mkH (Row_take hr1 500)
  generalize hbs : xb.take 500 = bs at hm1 HX
  have HM := mkH hm1
  have H1 := mkH h1
  have HS := mkH hs
  have HR : Hid (∀ W t, Dn w (fun k => k < w.heap.size) W D t → Row W a1 bs) := fun W t h => h.row HX.out (fun b off _ h => h)
  clear hr0 hr1 h1 hl0 hp0 hs hm1 hbs
  go_wp2_with fail
  refine (append_dn (H1.out.below (below_alloc w1 _)) _ 4 [115, 111, 109, 101] (row_new w1 [115, 111, 109, 101] _ rfl _ _) (by decide)).mono ?_
  rintro e w2 ⟨rfl, h2⟩
  obtain ⟨s2, hs2⟩ : ∃ s2, s2 = appS s [115, 111, 109, 101] := ⟨_, rfl⟩
  rw [← hs2] at h2
  have HS2 : Hid (s2.down = false) := by
    unfold Hid; rw [hs2]; unfold appS; rw [HS.out]; simp; split
    · exact HS.out
    · rfl
  have H2 := mkH h2
  generalize appE s _ = E1
  clear H1 h2 hs2 HS
  go_wp2_with fail
  have q3 := swap_dn H2.out a1 p1 bs (HR.out _ _ H2.out) (by rw [HM.out]; omega)
  rw [show swpE s2 bs.length = 0 by unfold swpE; rw [HS2.out, HM.out]; simp; omega, show swpS s2 bs = ⟨bs, [], false⟩ by unfold swpS; rw [HS2.out, HM.out]; simp; omega, HM.out] at q3
  refine q3.mono ?_
  rintro e w3 ⟨rfl, h3⟩
  have H3 := mkH h3
  clear H2 h3 q3 HS2
  go_wp2_with fail
  have q4 := crash_dn H3.out 0 n hn
  rw [show crsE ⟨bs, [], false⟩ 0 = 0 from rfl, show crsS ⟨bs, [], false⟩ 0 n = ⟨bs, [], true⟩ by simp [crsS, turn]] at q4
  refine q4.mono ?_
  rintro e w4 ⟨rfl, h4⟩
  have H4 := mkH h4
  clear H3 h4 q4
  go_wp2_with fail
  have q5 := append_dn H4.out a1 p1 bs (HR.out _ _ H4.out) (by rw [HM.out]; omega)
  rw [show appE ⟨bs, [], true⟩ bs.length = 10 from rfl, show appS ⟨bs, [], true⟩ bs = ⟨bs, [], true⟩ from rfl, HM.out] at q5
  refine q5.mono ?_
  rintro e w5 ⟨rfl, h5⟩
  have H5 := mkH h5
  clear H4 h5 q5
  go_wp2_with fail
  have q6 := restart_dn H5.out
  rw [show rstE ⟨bs, [], true⟩ = 0 from rfl, show rstS ⟨bs, [], true⟩ = ⟨bs, [], false⟩ by simp [rstS]] at q6
  refine q6.mono ?_
  rintro e w6 ⟨rfl, h6⟩
  have H6 := mkH h6
  clear H5 h6 q6
  go_wp2_with fail
  have q7 := read_dn H6.out
  rw [show redE ⟨bs, [], false⟩ = 0 from rfl, show redB ⟨bs, [], false⟩ = bs by simp [redB]] at q7
  refine q7.mono ?_
  rintro e w7 ⟨v, rfl, ⟨ra, rc, rfl, hrl, hrc, hrr, -⟩, hb7, h7⟩
  have H7 := mkH h7
  have s1 := run_string (P := Try.prog) (dst := 9) Try.underlying26 Try.underlying5 Try.underlying9 hrr rc
  have s2 := run_string (P := Try.prog) (dst := 9) Try.underlying26 Try.underlying5 Try.underlying9 (HR.out _ _ H7.out) p1
  rw [HM.out] at s1 s2 hrl
  simp only [HM.out]
  clear H6 h7 q7 hrr hb7
  generalize S bs = str at s1 s2
  obtain ⟨r, hr1, hr2, hr3⟩ : ∃ r : Nat, r ≤ m ∧ ((n.tmod ((m : Int) + 1) + (m : Int) + 1).tmod ((m : Int) + 1)) = (r : Int) ∧ -((m : Int) + 1) < n.tmod ((m : Int) + 1) ∧ n.tmod ((m : Int) + 1) < (m : Int) + 1 := by
    have hb := Int.tmod_lt_of_pos n (show (0 : Int) < (m : Int) + 1 by omega)
    have hb2 : -((m : Int) + 1) < n.tmod ((m : Int) + 1) := by
      have := Int.tmod_lt_of_pos (-n) (show (0 : Int) < (m : Int) + 1 by omega)
      rw [Int.neg_tmod] at this
      omega
    refine ⟨((n.tmod ((m : Int) + 1) + (m : Int) + 1).tmod ((m : Int) + 1)).toNat, ?_, ?_, hb2, hb⟩
    · have := Int.tmod_lt_of_pos (n.tmod ((m : Int) + 1) + (m : Int) + 1) (show (0 : Int) < (m : Int) + 1 by omega)
      omega
    · have := Int.tmod_nonneg (a := n.tmod ((m : Int) + 1) + (m : Int) + 1) ((m : Int) + 1) (by omega)
      omega
  obtain ⟨h31, h32⟩ := hr3
  generalize hz : n.tmod ((m : Int) + 1) = z at hr2 h31 h32
  go_wp2_with fail
  refine (append_dn (H7.out.below (below_alloc w7 _)) _ 4 [109, 111, 114, 101] (row_new w7 [109, 111, 114, 101] _ rfl _ _) (by decide)).mono ?_
  rintro e w8 ⟨he, h8⟩
  obtain rfl : e = .returned (.int .i64 0) := by
    rw [he]
    have : appE ⟨bs, [], false⟩ [109, 111, 114, 101].length = 0 := by
      unfold appE
      simp only [List.length_cons, List.length_nil, HM.out]
      rw [if_neg (by simp), if_neg (by omega)]
    rw [← this]
    rfl
  have e8 : appS ⟨bs, [], false⟩ [109, 111, 114, 101] = ⟨bs, [109, 111, 114, 101], false⟩ := by
    unfold appS
    simp only [List.length_cons, List.length_nil, HM.out]
    rw [if_neg (by simp), if_neg (by omega), List.nil_append]
  rw [e8] at h8
  have H8 := mkH h8
  clear H7 h8 s1 s2 e8 he kc
  go_wp2_with fail
  have q9 := cut_dn H8.out (r : Int)
  rw [show cutE ⟨bs, [109, 111, 114, 101], false⟩ (r : Int) = 0 by
      unfold cutE
      simp only [List.length_cons, List.length_nil, HM.out]
      rw [if_neg (by simp), if_neg (by omega)],
    show cutS ⟨bs, [109, 111, 114, 101], false⟩ (r : Int) = ⟨bs.take r, [], false⟩ by
      unfold cutS
      simp only [List.length_cons, List.length_nil, HM.out]
      rw [if_neg (by simp), if_neg (by omega), Int.toNat_natCast, List.take_append_of_le_length (by rw [HM.out]; exact hr1)]] at q9
  refine q9.mono ?_
  rintro e w9 ⟨rfl, h9⟩
  have HRB := mkH (fun (W : World) (t : St) (h : Dn w (fun k => k < w.heap.size) W D t) => Row_take (HR.out W t h) r)
  have HT : Hid ((bs.take r).length = r) := by unfold Hid; rw [List.length_take, HM.out]; omega
  generalize bs.take r = cs at h9 HRB HT
  have H9 := mkH h9
  clear H8 h9 q9
  go_wp2_with fail
  have q10 := crash_dn H9.out 9 0 (by decide)
  rw [show crsE ⟨cs, [], false⟩ 9 = 0 from rfl, show crsS ⟨cs, [], false⟩ 9 0 = ⟨cs, [], true⟩ by simp [crsS, turn]] at q10
  refine q10.mono ?_
  rintro e w10 ⟨rfl, h10⟩
  have H10 := mkH h10
  clear H9 h10 q10
  go_wp2_with fail
  have q11 := restart_dn H10.out
  rw [show rstE ⟨cs, [], true⟩ = 0 from rfl, show rstS ⟨cs, [], true⟩ = ⟨cs, [], false⟩ by simp [rstS]] at q11
  refine q11.mono ?_
  rintro e w11 ⟨rfl, h11⟩
  have H11 := mkH h11
  clear H10 h11 q11
  go_wp2_with fail
  have q12 := read_dn H11.out
  rw [show redE ⟨cs, [], false⟩ = 0 from rfl, show redB ⟨cs, [], false⟩ = cs by simp [redB]] at q12
  refine q12.mono ?_
  rintro e w12 ⟨v, rfl, ⟨ya, yc, rfl, hyl, hyc, hyr, -⟩, hb12, h12⟩
  have H12 := mkH h12
  have s1 := strD hyr yc
  have s2 := strD (HRB.out _ _ H12.out) p1
  have s10 := strW0 hyr yc
  have s20 := strW0 (HRB.out _ _ H12.out) p1
  simp only [HT.out] at s1 s2 s10 s20 hyl
  simp only [HT.out]
  have HB12 := mkH (H12.out.toBelow (fun k hk => hk))
  clear H11 H12 h12 q12 hyr hb12
  generalize S cs = str at s1 s2 s10 s20
  have hrp : r ≤ p1 := by omega
  go_wp2_with fail
  go_region_with (go_at_call 18; refine (works_any _).mono ?_; rintro e u4 ⟨rfl, hu4⟩; have hu4 : Below w12.heap.size w12 u4 := ⟨hu4.os, hu4.tape, hu4.output, hu4.size, hu4.block⟩)
  all_goals
    go_wp2_with fail
    go_ret
    exact ⟨rfl, HB12.out.trans (hu4.mono HB12.out.size)⟩
end Go.Proofs.Ytgdmkhmdfijieaa.Dwh
