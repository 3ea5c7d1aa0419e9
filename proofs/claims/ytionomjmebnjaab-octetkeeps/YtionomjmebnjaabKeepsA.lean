/-
  The walk of OctetKeeps: a number that may be written.
-/
import Derived.Test.YtionomjmebnjaabKeeps0
import Derived.Deep.QuietTactic
import Derived.Deep.RegionHeld3
import Derived.BigQuiet
import Derived.Deep.CutRange
import Derived.Deep.DeepCutAuto
namespace Go.Proofs.Ytionomjmebnjaab.Ke
open Go.RowKit Kt Pl Rd Wr Fw
set_option linter.unusedVariables false

set_option maxHeartbeats 1000000 in
set_option maxRecDepth 20000 in
theorem keeps_ok (w : World) (ao : Option Addr) (cap : Nat) (n : Nat) (HN : Hid (n ≤ 4611686018427387904)) (hen : (enc n).length ≤ 9) (hep : 0 < (enc n).length) (st : List UInt8) (hs300 : st.length ≤ 300) (bs bh : List UInt8) (hr : Row w ao bs) (hlen : bs.length ≤ cap) (hcap : cap ≤ 9223372036854775807) (hbh : Hid (bs.take 6000 = bh)) (h6 : bh.length ≤ 6000) :
    Calls Try.prog 4 #[.slice ao bs.length cap, .int .i64 n, .string (S st)] w fun e w' => e = .returned (.bool true) ∧ Below w.heap.size w w' := by
  have hS0 : (S st).size ≤ 300 := hs300
  go_enter Try.func4, Try.ntmps4
  go_upto_region 2 with fail
  go_cut [7] (fun v wc => ∃ g, v = .slice (some ⟨g, 0, none⟩) bh.length (bh.length + 64) ∧ wc.ownsRow w.heap.size 5 1 (.slice (some ⟨g, 0, none⟩) bh.length (bh.length + 64)) bh.length (U bh) ∧ Below w.heap.size w wc)
  case first =>
    obtain ⟨O, hO, hmk⟩ := run_mk (P := Try.prog) 22 5 (.int .u8 0) 1 (bh.length + 64) Try.underlying22 info5 (by omega) (by unfold maxLen; omega) (IntKind.i64.wrap ((bh.length : Int) + 64)) (by rw [IntKind.wrap_i64]; omega)
    go_region_held3 (fun w' => True) (trivial) (first
      | (refine step_append_fits_src (by rfl) (.tmp 30) (.tmp 32) 22 22 (by rfl) w.heap.size 5 (.int .u8 0) 1 1 Try.underlying22 info5 _ 0 (bh.length + 64) [] (by rfl) (by first | exact hO _ _ hcur.size | exact own_below (hO _ _ (by omega)) hb1) _ bh.length (U bh) (by rfl) (by first | exact Row.src Try.underlying22 (Row.own hown1).2.2 c1 | exact Row.src Try.underlying22 ((Row.own hown1).2.2.below ((Below.refl _ _).alloc (Nat.le_refl _) _)) c1) (by omega) ?_; intro w2 hown2 hgrow2; have hfin : Below w.heap.size w w2 := (by first | exact hcur.grown hgrow2 hcur.size (by intro k hk; cases hk; exact (hown2.lt _ rfl).1) | exact (hcur.alloc hcur.size _).grown hgrow2 (by have := hcur.size; simp; omega) (by intro k hk; cases hk; exact (hown2.lt _ rfl).1)))
      | (go_at_call 5; refine (few_any _ ao cap bs ?_ hlen hcap).mono ?_; (first | exact hr | exact hr.below hcur | exact hr.below (hcur.alloc hcur.size _)); rintro e w1 ⟨v1, rfl, hown1, hb1⟩; rw [hbh.out] at hown1; obtain ⟨a1, c1, rfl⟩ := own_form hown1; have hcur : Below w.heap.size w w1 := (by first | exact below_undrew hb1 | exact hcur.trans (hb1.mono hcur.size) | exact (hcur.alloc hcur.size _).trans (hb1.mono (by have := hcur.size; simp; omega))); have hsz := hcur.size))
    all_goals
      have hown3 : w2.ownsRow w.heap.size 5 1 _ bh.length (U bh) := (by simpa using hown2)
      clear hown2 hgrow2
      go_wp2_with fail
      go_meet
      exact ⟨_, rfl, hown3, hfin⟩
  case rest =>
    obtain ⟨g, hv, hown, hB⟩ := hcut
    subst hv
    clear hr hlen hcap hbh
    have hRg := (Row.own hown).2.2
    have hgl := (hown.lt g rfl).2
    have hs0 := run_string (P := Try.prog) Try.underlying22 Try.underlying5 Try.underlying9 hRg (bh.length + 64)
    have hSz : (S bh).size = bh.length := rfl
    have hSs : (S st).size = st.length := rfl
    go_wp2_with fail
    refine (num_ok wc (some ⟨g, 0, none⟩) (bh.length + 64) n bh hRg (by omega) HN.out).mono ?_
    rintro e w3 ⟨v3, rfl, hown3, hb3⟩
    obtain ⟨ao3, cap3, rfl⟩ := own_form hown3
    have hc3 := (Row.own (own_len hown3)).2.1
    rw [List.length_append] at hc3
    have hc63 := own_cap hown3
    have hlt3 := hown3.lt
    have hRg3 := hRg.below hb3
    have hown' := own_below hown hb3
    clear hs0 hRg hown
    go_wp2_with fail
    refine (text_ok w3 (some ⟨g, 0, none⟩) (bh.length + 64) (S st) bh hRg3 (by omega) (by rw [hSs]; omega)).mono ?_
    rintro e w4 ⟨v4, rfl, hown4', hb4⟩
    have hown4 : w4.ownsRow w3.heap.size 5 1 v4 (bh.length + (encText st).length) (U (bh ++ encText st)) := hown4'
    clear hown4' hRg3
    obtain ⟨ao4, cap4, rfl⟩ := own_form hown4
    have hc4 := (Row.own (own_len hown4)).2.1
    rw [List.length_append] at hc4
    have hc64 := own_cap hown4
    have hlt4 := hown4.lt
    obtain ⟨ys, hownG⟩ := own_full (own_below hown' hb4)
    have hB4 := (hB.trans (hb3.mono hB.size)).trans (hb4.mono (Nat.le_trans hB.size hb3.size))
    have hsz3 := hb3.size
    have hR3 := (Row.own (own_len (own_below hown3 hb4))).2.2
    have hR4 := (Row.own (own_len hown4)).2.2
    have hpt : (encText st).length ≤ 400 := by unfold encText; rw [List.length_append]; have := enc_len9 (n := st.length) (by omega); omega
    have hptp : 0 < (encText st).length := by unfold encText; rw [List.length_append]; have := enc_len_pos st.length; omega
    clear hown3 hown' hown4 hb3 hb4 hB
    have hwas := hs300
    go_wp2
    go_loopw [54] (fun ct wr => ∃ (k : Nat) (xs : List Value), k ≤ bh.length + 64 ∧ ct = .int .i64 k ∧ wr.ownsRow w.heap.size 5 1 (.slice (some ⟨g, 0, none⟩) (bh.length + 64) (bh.length + 64)) (bh.length + 64) xs ∧ w4.grownBy wr (some g))
      (fun ct _ => bh.length + 64 - (intOf ct).toNat)
    case atStart => exact ⟨0, ys, Nat.zero_le _, rfl, hownG, World.grownBy.refl _ _⟩
    case round =>
      obtain ⟨k, xs, hk, rfl, hownr, hgr⟩ := hrel
      by_cases hlt : k < bh.length + 64
      · obtain ⟨u, hu⟩ := own_cell hownr hlt
        have hf := hownr.frozenAt k
        have hst := hownr.stored k (.int .u8 7)
        have hg2 := grownBy_trans hgr (grownBy_setCell wr g k (.int .u8 7))
        clear hownr hgr
        go_wp2
        go_roundw
        case rel => exact ⟨k + 1, _, by omega, by go_num, hst.1, hg2⟩
        case measure => simp [intOf]; omega
      · have hBr := hB4.grown hgr hB4.size (by intro j hj; cases hj; exact (hownr.lt g rfl).1)
        have hRr4 := Row_other hR4 hgr (fun a ha => by have := (hlt4 a.block (by rw [ha]; rfl)).1; omega)
        have hRr3 := Row_other hR3 hgr (fun a ha => by have := (hlt3 a.block (by rw [ha]; rfl)).1; omega)
        have hl3 : ((bh ++ enc n).take bh.length).length = bh.length := by simp
        have hl4 : ((bh ++ encText st).take bh.length).length = bh.length := by simp
        have hs3 := run_string (P := Try.prog) Try.underlying22 Try.underlying5 Try.underlying9 (Row_take hRr3 bh.length) cap3
        have hs4 := run_string (P := Try.prog) Try.underlying22 Try.underlying5 Try.underlying9 (Row_take hRr4 bh.length) cap4
        rw [hl3, List.take_left] at hs3
        rw [hl4, List.take_left] at hs4
        have hd3 := Row_drop hRr3 (k := bh.length) (cap := cap3) (by rw [List.length_append]; exact hc3)
        have hd4 := Row_drop hRr4 (k := bh.length) (cap := cap4) (by rw [List.length_append]; exact hc4)
        rw [List.drop_left, if_neg (by omega)] at hd3 hd4
        obtain ⟨aq3, haq3⟩ : ∃ aq, Option.map (fun x => x.add bh.length) ao3 = aq := ⟨_, rfl⟩
        obtain ⟨aq4, haq4⟩ : ∃ aq, Option.map (fun x => x.add bh.length) ao4 = aq := ⟨_, rfl⟩
        rw [haq3] at hd3
        rw [haq4] at hd4
        have H3 := readNum_any wr aq3 (cap3 - bh.length) (enc n) hd3 (by omega)
        have H4 := readText_any wr aq4 (cap4 - bh.length) (encText st) hd4 (by omega) (by omega) (by omega)
        rw [← List.append_nil (enc n), readNum_enc HN.out, List.append_nil] at H3
        have hrt := readText_back (s := st) (by omega) []
        rw [List.append_nil] at hrt
        rw [hrt] at H4
        clear hlt3 hlt4 hR3 hR4 hgr hownr hRr3 hRr4 hl3 hl4 hd3 hd4 hrt hB4
        go_wp2_with fail
        refine H3.mono ?_
        unfold ans
        rintro e w5 ⟨rfl, rfl⟩
        clear H3
        go_wp2_with fail
        refine H4.mono ?_
        unfold ansT
        rintro e w6 ⟨rfl, rfl⟩
        clear H4
        go_wp2_with fail
        refine (works_any _).mono ?_
        rintro e w7 ⟨rfl, hb7⟩
        have hB9 := hBr.trans (hb7.mono hBr.size)
        clear hb7 hBr
        go_wp2
        go_ret
        exact ⟨rfl, hB9⟩

set_option maxHeartbeats 1000000 in
set_option maxRecDepth 20000 in
theorem keeps_ok_cut (w : World) (ao : Option Addr) (cap : Nat) (n : Nat) (HN : Hid (n ≤ 4611686018427387904)) (hen : (enc n).length ≤ 9) (hep : 0 < (enc n).length) (s : ByteArray) (st : List UInt8) (hs : 300 < s.size) (hst : s.extract 0 300 = S st) (hs300 : st.length ≤ 300) (bs bh : List UInt8) (hr : Row w ao bs) (hlen : bs.length ≤ cap) (hcap : cap ≤ 9223372036854775807) (hbh : Hid (bs.take 6000 = bh)) (h6 : bh.length ≤ 6000) :
    Calls Try.prog 4 #[.slice ao bs.length cap, .int .i64 n, .string s] w fun e w' => e = .returned (.bool true) ∧ Below w.heap.size w w' := by
  go_enter Try.func4, Try.ntmps4
  go_upto_region 2 with fail
  go_cut [7] (fun v wc => ∃ g, v = .slice (some ⟨g, 0, none⟩) bh.length (bh.length + 64) ∧ wc.ownsRow w.heap.size 5 1 (.slice (some ⟨g, 0, none⟩) bh.length (bh.length + 64)) bh.length (U bh) ∧ Below w.heap.size w wc)
  case first =>
    obtain ⟨O, hO, hmk⟩ := run_mk (P := Try.prog) 22 5 (.int .u8 0) 1 (bh.length + 64) Try.underlying22 info5 (by omega) (by unfold maxLen; omega) (IntKind.i64.wrap ((bh.length : Int) + 64)) (by rw [IntKind.wrap_i64]; omega)
    go_region_held3 (fun w' => True) (trivial) (first
      | (refine step_append_fits_src (by rfl) (.tmp 30) (.tmp 32) 22 22 (by rfl) w.heap.size 5 (.int .u8 0) 1 1 Try.underlying22 info5 _ 0 (bh.length + 64) [] (by rfl) (by first | exact hO _ _ hcur.size | exact own_below (hO _ _ (by omega)) hb1) _ bh.length (U bh) (by rfl) (by first | exact Row.src Try.underlying22 (Row.own hown1).2.2 c1 | exact Row.src Try.underlying22 ((Row.own hown1).2.2.below ((Below.refl _ _).alloc (Nat.le_refl _) _)) c1) (by omega) ?_; intro w2 hown2 hgrow2; have hfin : Below w.heap.size w w2 := (by first | exact hcur.grown hgrow2 hcur.size (by intro k hk; cases hk; exact (hown2.lt _ rfl).1) | exact (hcur.alloc hcur.size _).grown hgrow2 (by have := hcur.size; simp; omega) (by intro k hk; cases hk; exact (hown2.lt _ rfl).1)))
      | (go_at_call 5; refine (few_any _ ao cap bs ?_ hlen hcap).mono ?_; (first | exact hr | exact hr.below hcur | exact hr.below (hcur.alloc hcur.size _)); rintro e w1 ⟨v1, rfl, hown1, hb1⟩; rw [hbh.out] at hown1; obtain ⟨a1, c1, rfl⟩ := own_form hown1; have hcur : Below w.heap.size w w1 := (by first | exact below_undrew hb1 | exact hcur.trans (hb1.mono hcur.size) | exact (hcur.alloc hcur.size _).trans (hb1.mono (by have := hcur.size; simp; omega))); have hsz := hcur.size))
    all_goals
      have hown3 : w2.ownsRow w.heap.size 5 1 _ bh.length (U bh) := (by simpa using hown2)
      clear hown2 hgrow2
      go_wp2_with fail
      go_meet
      exact ⟨_, rfl, hown3, hfin⟩
  case rest =>
    obtain ⟨g, hv, hown, hB⟩ := hcut
    subst hv
    clear hr hlen hcap hbh
    have hRg := (Row.own hown).2.2
    have hgl := (hown.lt g rfl).2
    have hs0 := run_string (P := Try.prog) Try.underlying22 Try.underlying5 Try.underlying9 hRg (bh.length + 64)
    have hSz : (S bh).size = bh.length := rfl
    have hSs : (S st).size = st.length := rfl
    go_wp2_with fail
    refine (num_ok wc (some ⟨g, 0, none⟩) (bh.length + 64) n bh hRg (by omega) HN.out).mono ?_
    rintro e w3 ⟨v3, rfl, hown3, hb3⟩
    obtain ⟨ao3, cap3, rfl⟩ := own_form hown3
    have hc3 := (Row.own (own_len hown3)).2.1
    rw [List.length_append] at hc3
    have hc63 := own_cap hown3
    have hlt3 := hown3.lt
    have hRg3 := hRg.below hb3
    have hown' := own_below hown hb3
    clear hs0 hRg hown
    go_wp2_with fail
    refine (text_ok w3 (some ⟨g, 0, none⟩) (bh.length + 64) (S st) bh hRg3 (by omega) (by rw [hSs]; omega)).mono ?_
    rintro e w4 ⟨v4, rfl, hown4', hb4⟩
    have hown4 : w4.ownsRow w3.heap.size 5 1 v4 (bh.length + (encText st).length) (U (bh ++ encText st)) := hown4'
    clear hown4' hRg3
    obtain ⟨ao4, cap4, rfl⟩ := own_form hown4
    have hc4 := (Row.own (own_len hown4)).2.1
    rw [List.length_append] at hc4
    have hc64 := own_cap hown4
    have hlt4 := hown4.lt
    obtain ⟨ys, hownG⟩ := own_full (own_below hown' hb4)
    have hB4 := (hB.trans (hb3.mono hB.size)).trans (hb4.mono (Nat.le_trans hB.size hb3.size))
    have hsz3 := hb3.size
    have hR3 := (Row.own (own_len (own_below hown3 hb4))).2.2
    have hR4 := (Row.own (own_len hown4)).2.2
    have hpt : (encText st).length ≤ 400 := by unfold encText; rw [List.length_append]; have := enc_len9 (n := st.length) (by omega); omega
    have hptp : 0 < (encText st).length := by unfold encText; rw [List.length_append]; have := enc_len_pos st.length; omega
    clear hown3 hown' hown4 hb3 hb4 hB
    have hwas := hs300
    go_wp2
    go_loopw [54] (fun ct wr => ∃ (k : Nat) (xs : List Value), k ≤ bh.length + 64 ∧ ct = .int .i64 k ∧ wr.ownsRow w.heap.size 5 1 (.slice (some ⟨g, 0, none⟩) (bh.length + 64) (bh.length + 64)) (bh.length + 64) xs ∧ w4.grownBy wr (some g))
      (fun ct _ => bh.length + 64 - (intOf ct).toNat)
    case atStart => exact ⟨0, ys, Nat.zero_le _, rfl, hownG, World.grownBy.refl _ _⟩
    case round =>
      obtain ⟨k, xs, hk, rfl, hownr, hgr⟩ := hrel
      by_cases hlt : k < bh.length + 64
      · obtain ⟨u, hu⟩ := own_cell hownr hlt
        have hf := hownr.frozenAt k
        have hst := hownr.stored k (.int .u8 7)
        have hg2 := grownBy_trans hgr (grownBy_setCell wr g k (.int .u8 7))
        clear hownr hgr
        go_wp2
        go_roundw
        case rel => exact ⟨k + 1, _, by omega, by go_num, hst.1, hg2⟩
        case measure => simp [intOf]; omega
      · have hBr := hB4.grown hgr hB4.size (by intro j hj; cases hj; exact (hownr.lt g rfl).1)
        have hRr4 := Row_other hR4 hgr (fun a ha => by have := (hlt4 a.block (by rw [ha]; rfl)).1; omega)
        have hRr3 := Row_other hR3 hgr (fun a ha => by have := (hlt3 a.block (by rw [ha]; rfl)).1; omega)
        have hl3 : ((bh ++ enc n).take bh.length).length = bh.length := by simp
        have hl4 : ((bh ++ encText st).take bh.length).length = bh.length := by simp
        have hs3 := run_string (P := Try.prog) Try.underlying22 Try.underlying5 Try.underlying9 (Row_take hRr3 bh.length) cap3
        have hs4 := run_string (P := Try.prog) Try.underlying22 Try.underlying5 Try.underlying9 (Row_take hRr4 bh.length) cap4
        rw [hl3, List.take_left] at hs3
        rw [hl4, List.take_left] at hs4
        have hd3 := Row_drop hRr3 (k := bh.length) (cap := cap3) (by rw [List.length_append]; exact hc3)
        have hd4 := Row_drop hRr4 (k := bh.length) (cap := cap4) (by rw [List.length_append]; exact hc4)
        rw [List.drop_left, if_neg (by omega)] at hd3 hd4
        obtain ⟨aq3, haq3⟩ : ∃ aq, Option.map (fun x => x.add bh.length) ao3 = aq := ⟨_, rfl⟩
        obtain ⟨aq4, haq4⟩ : ∃ aq, Option.map (fun x => x.add bh.length) ao4 = aq := ⟨_, rfl⟩
        rw [haq3] at hd3
        rw [haq4] at hd4
        have H3 := readNum_any wr aq3 (cap3 - bh.length) (enc n) hd3 (by omega)
        have H4 := readText_any wr aq4 (cap4 - bh.length) (encText st) hd4 (by omega) (by omega) (by omega)
        rw [← List.append_nil (enc n), readNum_enc HN.out, List.append_nil] at H3
        have hrt := readText_back (s := st) (by omega) []
        rw [List.append_nil] at hrt
        rw [hrt] at H4
        clear hlt3 hlt4 hR3 hR4 hgr hownr hRr3 hRr4 hl3 hl4 hd3 hd4 hrt hB4
        go_wp2_with fail
        refine H3.mono ?_
        unfold ans
        rintro e w5 ⟨rfl, rfl⟩
        clear H3
        go_wp2_with fail
        refine H4.mono ?_
        unfold ansT
        rintro e w6 ⟨rfl, rfl⟩
        clear H4
        go_wp2_with fail
        refine (works_any _).mono ?_
        rintro e w7 ⟨rfl, hb7⟩
        have hB9 := hBr.trans (hb7.mono hBr.size)
        clear hb7 hBr
        go_wp2
        go_ret
        exact ⟨rfl, hB9⟩
end Go.Proofs.Ytionomjmebnjaab.Ke
