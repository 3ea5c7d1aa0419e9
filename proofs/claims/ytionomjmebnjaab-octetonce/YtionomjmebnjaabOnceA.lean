/-
  The walk of OctetOnce: a number is read.
-/
import Derived.Test.YtionomjmebnjaabOnce0
namespace Go.Proofs.Ytionomjmebnjaab.On
open Go.RowKit Kt Pl Rd Wr Fw Li Ad
set_option linter.unusedVariables false

set_option maxHeartbeats 2000000 in
set_option maxRecDepth 20000 in
theorem once_ooo (w : World) (ao : Option Addr) (cap : Nat) (bs bh : List UInt8) (hr : Row w ao bs) (hlen : bs.length ≤ cap) (hcap : cap ≤ 9223372036854775807) (hbh : Hid (bs.take 6000 = bh)) (h6 : bh.length ≤ 6000)
    (n1 k1 : Nat) (h1 : Hid (readNum bh = (n1, k1, 0))) (s2 : List UInt8) (k2 : Nat) (h2 : Hid (readText bh = (s2, k2, 0))) (l3 : List Nat) (k3 : Nat) (h3 : Hid (readList readNum bh = (l3, k3, 0))) :
    Calls Try.prog 3 #[.slice ao bs.length cap] w fun e w' => e = .returned (.bool true) ∧ Below w.heap.size w w' := by
  go_enter Try.func3, Try.ntmps3
  go_wp2_with fail
  refine (few_any w ao cap bs hr hlen hcap).mono ?_
  rintro e w1 ⟨v1, rfl, hown1, hB⟩
  rw [hbh.out] at hown1
  clear hr hlen hcap hbh
  obtain ⟨aob, capb, rfl⟩ := own_form hown1
  have hc63 : capb ≤ 9223372036854775807 := own_cap hown1
  obtain ⟨-, hcb, hR⟩ := Row.own hown1
  clear hown1
  have H := readNum_any _ aob capb bh hR (by omega)
  rw [h1.out] at H
  have o1 := readNum_once h1.out
  have oa1 := o1.1
  have ob1 := o1.2.1
  have oc1 := mkH o1.2.2.1
  have od1 := mkH o1.2.2.2
  clear o1 h1
  go_wp2_with fail
  refine H.mono ?_
  unfold ans
  rintro e w2 ⟨rfl, rfl⟩
  clear H
  go_wp2_with fail
  refine (num_ok _ none 0 n1 [] (Row.nil _ _) (by simp) oc1.out).mono ?_
  rintro e w3 ⟨v3, rfl, hown1, hb1⟩
  rw [List.nil_append, List.length_nil, Nat.zero_add] at hown1
  obtain ⟨ao1, cap1, rfl⟩ := own_form hown1
  obtain ⟨-, -, hr1⟩ := Row.own hown1
  clear oc1
  have t1 : decide ((k1 : Int) < 1) = false := by simp; omega
  have t2 : decide (bh.length < k1) = false := by simp; omega
  have hB1 := hB.trans (hb1.mono hB.size)
  have hR1 := hR.below hb1
  have hl1 : (bh.take k1).length = k1 := by rw [List.length_take]; omega
  have hs1 := strN (P := Try.prog) Try.underlying22 Try.underlying5 Try.underlying9 hr1 cap1
  have hs2 := strN (P := Try.prog) Try.underlying22 Try.underlying5 Try.underlying9 (Row_take hR1 k1) capb
  rw [hl1, ← od1.out] at hs2
  clear hb1 hr1 hown1 hR hB hl1 od1
  have t3 : (k1 : Int) ≤ (capb : Int) := by omega
  have t4 : (0 : Int) ≤ (k1 : Int) := by omega
  go_wp2_with fail
  go_quiet (fail)
  have hB := below_drewN hB1 nq
  have hR := Row_drewN hR1 nq
  clear hB1 hR1 hs1 hs2 t3 t4
  clear t1 t2
  have H := readText_any _ aob capb bh hR (by omega) hcb hc63
  rw [h2.out] at H
  have o2 := readText_once h2.out
  have oa2 := o2.1
  have ob2 := o2.2.1
  have oc2 := o2.2.2.1
  have od2 := mkH o2.2.2.2
  clear o2 h2
  go_wp2_with fail
  refine H.mono ?_
  unfold ansT
  rintro e w4 ⟨rfl, rfl⟩
  clear H
  go_wp2_with fail
  refine (text_ok _ none 0 (S s2) [] (Row.nil _ _) (by simp) oc2).mono ?_
  rintro e w5 ⟨v5, rfl, hown2', hb2⟩
  have hown2 := own_text hown2'
  clear hown2'
  obtain ⟨ao2, cap2, rfl⟩ := own_form hown2
  obtain ⟨-, -, hr2⟩ := Row.own hown2
  have hB2 := hB.trans (hb2.mono hB.size)
  have hR2 := hR.below hb2
  have hl2 : (bh.take k2).length = k2 := by rw [List.length_take]; omega
  have hs1 := strN (P := Try.prog) Try.underlying22 Try.underlying5 Try.underlying9 hr2 cap2
  have hs2 := strN (P := Try.prog) Try.underlying22 Try.underlying5 Try.underlying9 (Row_take hR2 k2) capb
  rw [hl2, ← od2.out] at hs2
  clear hb2 hr2 hown2 hR hB hl2 od2
  have t3 : (k2 : Int) ≤ (capb : Int) := by omega
  have t4 : (0 : Int) ≤ (k2 : Int) := by omega
  go_wp2_with fail
  go_quiet (fail)
  have hB := below_drewN hB2 nq
  have hR := Row_drewN hR2 nq
  clear hB2 hR2 hs1 hs2 t3 t4
  have H := readNums_any _ aob capb bh hR (by omega) hcb hc63
  rw [h3.out] at H
  have o3 := once_nums h3.out
  have ob3 := o3.1
  have oc3 := o3.2.1
  have od3 := mkH o3.2.2.1
  have oe3 := mkH o3.2.2.2
  clear o3 h3
  go_wp2_with fail
  refine H.mono ?_
  rintro e w6 ⟨v6, rfl, hownL, hbL⟩
  clear H
  have hBL := hB.trans (hbL.mono hB.size)
  have hRL := hR.below hbL
  clear hB hR hbL
  obtain ⟨aoL, capL, rfl⟩ := own_form hownL
  obtain ⟨-, -, hrL⟩ := RowI.own hownL
  have H := nums_any w6 none 0 [] (Row.nil _ _) (by simp) aoL capL _ hrL (by rw [List.length_map]; exact oc3)
  rw [List.length_map] at H
  clear hownL hrL
  go_wp2_with fail
  refine H.mono ?_
  rintro e w7 (⟨-, v7, rfl, hown3', hb3⟩ | ⟨hno, -⟩)
  rotate_left
  · exact absurd oe3.out hno
  clear H oe3
  have hown3 := own_nums hown3'
  clear hown3'
  obtain ⟨ao3, cap3, rfl⟩ := own_form hown3
  obtain ⟨-, -, hr3⟩ := Row.own hown3
  have hB := hBL
  have hR := hRL
  clear hBL hRL
  have hB3 := hB.trans (hb3.mono hB.size)
  have hR3 := hR.below hb3
  have hl3 : (bh.take k3).length = k3 := by rw [List.length_take]; omega
  have hs1 := strN (P := Try.prog) Try.underlying22 Try.underlying5 Try.underlying9 hr3 cap3
  have hs2 := strN (P := Try.prog) Try.underlying22 Try.underlying5 Try.underlying9 (Row_take hR3 k3) capb
  rw [hl3, ← od3.out] at hs2
  clear hb3 hr3 hown3 hR hB hl3 od3
  have t3 : (k3 : Int) ≤ (capb : Int) := by omega
  have t4 : (0 : Int) ≤ (k3 : Int) := by omega
  go_wp2_with fail
  go_quiet (fail)
  have hB := below_drewN hB3 nq
  have hR := Row_drewN hR3 nq
  clear hB3 hR3 hs1 hs2 t3 t4
  go_wp2_with fail
  refine (works_any _).mono ?_
  rintro e w8 ⟨rfl, hb8⟩
  have hB9 := hB.trans (hb8.mono hB.size)
  clear hb8 hB
  go_wp2
  go_ret
  exact ⟨rfl, hB9⟩

set_option maxHeartbeats 2000000 in
set_option maxRecDepth 20000 in
theorem once_ooe (w : World) (ao : Option Addr) (cap : Nat) (bs bh : List UInt8) (hr : Row w ao bs) (hlen : bs.length ≤ cap) (hcap : cap ≤ 9223372036854775807) (hbh : Hid (bs.take 6000 = bh)) (h6 : bh.length ≤ 6000)
    (n1 k1 : Nat) (h1 : Hid (readNum bh = (n1, k1, 0))) (s2 : List UInt8) (k2 : Nat) (h2 : Hid (readText bh = (s2, k2, 0))) (k3 : Nat) (e3 : k3 ≠ 0) (h3 : Hid (readList readNum bh = ([], 0, k3))) :
    Calls Try.prog 3 #[.slice ao bs.length cap] w fun e w' => e = .returned (.bool true) ∧ Below w.heap.size w w' := by
  go_enter Try.func3, Try.ntmps3
  go_wp2_with fail
  refine (few_any w ao cap bs hr hlen hcap).mono ?_
  rintro e w1 ⟨v1, rfl, hown1, hB⟩
  rw [hbh.out] at hown1
  clear hr hlen hcap hbh
  obtain ⟨aob, capb, rfl⟩ := own_form hown1
  have hc63 : capb ≤ 9223372036854775807 := own_cap hown1
  obtain ⟨-, hcb, hR⟩ := Row.own hown1
  clear hown1
  have H := readNum_any _ aob capb bh hR (by omega)
  rw [h1.out] at H
  have o1 := readNum_once h1.out
  have oa1 := o1.1
  have ob1 := o1.2.1
  have oc1 := mkH o1.2.2.1
  have od1 := mkH o1.2.2.2
  clear o1 h1
  go_wp2_with fail
  refine H.mono ?_
  unfold ans
  rintro e w2 ⟨rfl, rfl⟩
  clear H
  go_wp2_with fail
  refine (num_ok _ none 0 n1 [] (Row.nil _ _) (by simp) oc1.out).mono ?_
  rintro e w3 ⟨v3, rfl, hown1, hb1⟩
  rw [List.nil_append, List.length_nil, Nat.zero_add] at hown1
  obtain ⟨ao1, cap1, rfl⟩ := own_form hown1
  obtain ⟨-, -, hr1⟩ := Row.own hown1
  clear oc1
  have t1 : decide ((k1 : Int) < 1) = false := by simp; omega
  have t2 : decide (bh.length < k1) = false := by simp; omega
  have hB1 := hB.trans (hb1.mono hB.size)
  have hR1 := hR.below hb1
  have hl1 : (bh.take k1).length = k1 := by rw [List.length_take]; omega
  have hs1 := strN (P := Try.prog) Try.underlying22 Try.underlying5 Try.underlying9 hr1 cap1
  have hs2 := strN (P := Try.prog) Try.underlying22 Try.underlying5 Try.underlying9 (Row_take hR1 k1) capb
  rw [hl1, ← od1.out] at hs2
  clear hb1 hr1 hown1 hR hB hl1 od1
  have t3 : (k1 : Int) ≤ (capb : Int) := by omega
  have t4 : (0 : Int) ≤ (k1 : Int) := by omega
  go_wp2_with fail
  go_quiet (fail)
  have hB := below_drewN hB1 nq
  have hR := Row_drewN hR1 nq
  clear hB1 hR1 hs1 hs2 t3 t4
  clear t1 t2
  have H := readText_any _ aob capb bh hR (by omega) hcb hc63
  rw [h2.out] at H
  have o2 := readText_once h2.out
  have oa2 := o2.1
  have ob2 := o2.2.1
  have oc2 := o2.2.2.1
  have od2 := mkH o2.2.2.2
  clear o2 h2
  go_wp2_with fail
  refine H.mono ?_
  unfold ansT
  rintro e w4 ⟨rfl, rfl⟩
  clear H
  go_wp2_with fail
  refine (text_ok _ none 0 (S s2) [] (Row.nil _ _) (by simp) oc2).mono ?_
  rintro e w5 ⟨v5, rfl, hown2', hb2⟩
  have hown2 := own_text hown2'
  clear hown2'
  obtain ⟨ao2, cap2, rfl⟩ := own_form hown2
  obtain ⟨-, -, hr2⟩ := Row.own hown2
  have hB2 := hB.trans (hb2.mono hB.size)
  have hR2 := hR.below hb2
  have hl2 : (bh.take k2).length = k2 := by rw [List.length_take]; omega
  have hs1 := strN (P := Try.prog) Try.underlying22 Try.underlying5 Try.underlying9 hr2 cap2
  have hs2 := strN (P := Try.prog) Try.underlying22 Try.underlying5 Try.underlying9 (Row_take hR2 k2) capb
  rw [hl2, ← od2.out] at hs2
  clear hb2 hr2 hown2 hR hB hl2 od2
  have t3 : (k2 : Int) ≤ (capb : Int) := by omega
  have t4 : (0 : Int) ≤ (k2 : Int) := by omega
  go_wp2_with fail
  go_quiet (fail)
  have hB := below_drewN hB2 nq
  have hR := Row_drewN hR2 nq
  clear hB2 hR2 hs1 hs2 t3 t4
  have H := readNums_any _ aob capb bh hR (by omega) hcb hc63
  rw [h3.out] at H
  have te3 : ((k3 : Int) == 0) = false := by simp; omega
  clear h3
  go_wp2_with fail
  refine H.mono ?_
  rintro e w6 ⟨v6, rfl, hownL, hbL⟩
  clear H
  have hBL := hB.trans (hbL.mono hB.size)
  clear hB hR hbL hownL
  have hB := hBL
  clear hBL
  go_wp2_with fail
  refine (works_any _).mono ?_
  rintro e w8 ⟨rfl, hb8⟩
  have hB9 := hB.trans (hb8.mono hB.size)
  clear hb8 hB
  go_wp2
  go_ret
  exact ⟨rfl, hB9⟩

set_option maxHeartbeats 2000000 in
set_option maxRecDepth 20000 in
theorem once_oeo (w : World) (ao : Option Addr) (cap : Nat) (bs bh : List UInt8) (hr : Row w ao bs) (hlen : bs.length ≤ cap) (hcap : cap ≤ 9223372036854775807) (hbh : Hid (bs.take 6000 = bh)) (h6 : bh.length ≤ 6000)
    (n1 k1 : Nat) (h1 : Hid (readNum bh = (n1, k1, 0))) (k2 : Nat) (e2 : k2 ≠ 0) (h2 : Hid (readText bh = ([], 0, k2))) (l3 : List Nat) (k3 : Nat) (h3 : Hid (readList readNum bh = (l3, k3, 0))) :
    Calls Try.prog 3 #[.slice ao bs.length cap] w fun e w' => e = .returned (.bool true) ∧ Below w.heap.size w w' := by
  go_enter Try.func3, Try.ntmps3
  go_wp2_with fail
  refine (few_any w ao cap bs hr hlen hcap).mono ?_
  rintro e w1 ⟨v1, rfl, hown1, hB⟩
  rw [hbh.out] at hown1
  clear hr hlen hcap hbh
  obtain ⟨aob, capb, rfl⟩ := own_form hown1
  have hc63 : capb ≤ 9223372036854775807 := own_cap hown1
  obtain ⟨-, hcb, hR⟩ := Row.own hown1
  clear hown1
  have H := readNum_any _ aob capb bh hR (by omega)
  rw [h1.out] at H
  have o1 := readNum_once h1.out
  have oa1 := o1.1
  have ob1 := o1.2.1
  have oc1 := mkH o1.2.2.1
  have od1 := mkH o1.2.2.2
  clear o1 h1
  go_wp2_with fail
  refine H.mono ?_
  unfold ans
  rintro e w2 ⟨rfl, rfl⟩
  clear H
  go_wp2_with fail
  refine (num_ok _ none 0 n1 [] (Row.nil _ _) (by simp) oc1.out).mono ?_
  rintro e w3 ⟨v3, rfl, hown1, hb1⟩
  rw [List.nil_append, List.length_nil, Nat.zero_add] at hown1
  obtain ⟨ao1, cap1, rfl⟩ := own_form hown1
  obtain ⟨-, -, hr1⟩ := Row.own hown1
  clear oc1
  have t1 : decide ((k1 : Int) < 1) = false := by simp; omega
  have t2 : decide (bh.length < k1) = false := by simp; omega
  have hB1 := hB.trans (hb1.mono hB.size)
  have hR1 := hR.below hb1
  have hl1 : (bh.take k1).length = k1 := by rw [List.length_take]; omega
  have hs1 := strN (P := Try.prog) Try.underlying22 Try.underlying5 Try.underlying9 hr1 cap1
  have hs2 := strN (P := Try.prog) Try.underlying22 Try.underlying5 Try.underlying9 (Row_take hR1 k1) capb
  rw [hl1, ← od1.out] at hs2
  clear hb1 hr1 hown1 hR hB hl1 od1
  have t3 : (k1 : Int) ≤ (capb : Int) := by omega
  have t4 : (0 : Int) ≤ (k1 : Int) := by omega
  go_wp2_with fail
  go_quiet (fail)
  have hB := below_drewN hB1 nq
  have hR := Row_drewN hR1 nq
  clear hB1 hR1 hs1 hs2 t3 t4
  clear t1 t2
  have H := readText_any _ aob capb bh hR (by omega) hcb hc63
  rw [h2.out] at H
  have te2 : ((k2 : Int) == 0) = false := by simp; omega
  clear h2
  go_wp2_with fail
  refine H.mono ?_
  unfold ansT
  rintro e w4 ⟨rfl, rfl⟩
  clear H
  have H := readNums_any _ aob capb bh hR (by omega) hcb hc63
  rw [h3.out] at H
  have o3 := once_nums h3.out
  have ob3 := o3.1
  have oc3 := o3.2.1
  have od3 := mkH o3.2.2.1
  have oe3 := mkH o3.2.2.2
  clear o3 h3
  go_wp2_with fail
  refine H.mono ?_
  rintro e w6 ⟨v6, rfl, hownL, hbL⟩
  clear H
  have hBL := hB.trans (hbL.mono hB.size)
  have hRL := hR.below hbL
  clear hB hR hbL
  obtain ⟨aoL, capL, rfl⟩ := own_form hownL
  obtain ⟨-, -, hrL⟩ := RowI.own hownL
  have H := nums_any w6 none 0 [] (Row.nil _ _) (by simp) aoL capL _ hrL (by rw [List.length_map]; exact oc3)
  rw [List.length_map] at H
  clear hownL hrL
  go_wp2_with fail
  refine H.mono ?_
  rintro e w7 (⟨-, v7, rfl, hown3', hb3⟩ | ⟨hno, -⟩)
  rotate_left
  · exact absurd oe3.out hno
  clear H oe3
  have hown3 := own_nums hown3'
  clear hown3'
  obtain ⟨ao3, cap3, rfl⟩ := own_form hown3
  obtain ⟨-, -, hr3⟩ := Row.own hown3
  have hB := hBL
  have hR := hRL
  clear hBL hRL
  have hB3 := hB.trans (hb3.mono hB.size)
  have hR3 := hR.below hb3
  have hl3 : (bh.take k3).length = k3 := by rw [List.length_take]; omega
  have hs1 := strN (P := Try.prog) Try.underlying22 Try.underlying5 Try.underlying9 hr3 cap3
  have hs2 := strN (P := Try.prog) Try.underlying22 Try.underlying5 Try.underlying9 (Row_take hR3 k3) capb
  rw [hl3, ← od3.out] at hs2
  clear hb3 hr3 hown3 hR hB hl3 od3
  have t3 : (k3 : Int) ≤ (capb : Int) := by omega
  have t4 : (0 : Int) ≤ (k3 : Int) := by omega
  go_wp2_with fail
  go_quiet (fail)
  have hB := below_drewN hB3 nq
  have hR := Row_drewN hR3 nq
  clear hB3 hR3 hs1 hs2 t3 t4
  go_wp2_with fail
  refine (works_any _).mono ?_
  rintro e w8 ⟨rfl, hb8⟩
  have hB9 := hB.trans (hb8.mono hB.size)
  clear hb8 hB
  go_wp2
  go_ret
  exact ⟨rfl, hB9⟩

set_option maxHeartbeats 2000000 in
set_option maxRecDepth 20000 in
theorem once_oee (w : World) (ao : Option Addr) (cap : Nat) (bs bh : List UInt8) (hr : Row w ao bs) (hlen : bs.length ≤ cap) (hcap : cap ≤ 9223372036854775807) (hbh : Hid (bs.take 6000 = bh)) (h6 : bh.length ≤ 6000)
    (n1 k1 : Nat) (h1 : Hid (readNum bh = (n1, k1, 0))) (k2 : Nat) (e2 : k2 ≠ 0) (h2 : Hid (readText bh = ([], 0, k2))) (k3 : Nat) (e3 : k3 ≠ 0) (h3 : Hid (readList readNum bh = ([], 0, k3))) :
    Calls Try.prog 3 #[.slice ao bs.length cap] w fun e w' => e = .returned (.bool true) ∧ Below w.heap.size w w' := by
  go_enter Try.func3, Try.ntmps3
  go_wp2_with fail
  refine (few_any w ao cap bs hr hlen hcap).mono ?_
  rintro e w1 ⟨v1, rfl, hown1, hB⟩
  rw [hbh.out] at hown1
  clear hr hlen hcap hbh
  obtain ⟨aob, capb, rfl⟩ := own_form hown1
  have hc63 : capb ≤ 9223372036854775807 := own_cap hown1
  obtain ⟨-, hcb, hR⟩ := Row.own hown1
  clear hown1
  have H := readNum_any _ aob capb bh hR (by omega)
  rw [h1.out] at H
  have o1 := readNum_once h1.out
  have oa1 := o1.1
  have ob1 := o1.2.1
  have oc1 := mkH o1.2.2.1
  have od1 := mkH o1.2.2.2
  clear o1 h1
  go_wp2_with fail
  refine H.mono ?_
  unfold ans
  rintro e w2 ⟨rfl, rfl⟩
  clear H
  go_wp2_with fail
  refine (num_ok _ none 0 n1 [] (Row.nil _ _) (by simp) oc1.out).mono ?_
  rintro e w3 ⟨v3, rfl, hown1, hb1⟩
  rw [List.nil_append, List.length_nil, Nat.zero_add] at hown1
  obtain ⟨ao1, cap1, rfl⟩ := own_form hown1
  obtain ⟨-, -, hr1⟩ := Row.own hown1
  clear oc1
  have t1 : decide ((k1 : Int) < 1) = false := by simp; omega
  have t2 : decide (bh.length < k1) = false := by simp; omega
  have hB1 := hB.trans (hb1.mono hB.size)
  have hR1 := hR.below hb1
  have hl1 : (bh.take k1).length = k1 := by rw [List.length_take]; omega
  have hs1 := strN (P := Try.prog) Try.underlying22 Try.underlying5 Try.underlying9 hr1 cap1
  have hs2 := strN (P := Try.prog) Try.underlying22 Try.underlying5 Try.underlying9 (Row_take hR1 k1) capb
  rw [hl1, ← od1.out] at hs2
  clear hb1 hr1 hown1 hR hB hl1 od1
  have t3 : (k1 : Int) ≤ (capb : Int) := by omega
  have t4 : (0 : Int) ≤ (k1 : Int) := by omega
  go_wp2_with fail
  go_quiet (fail)
  have hB := below_drewN hB1 nq
  have hR := Row_drewN hR1 nq
  clear hB1 hR1 hs1 hs2 t3 t4
  clear t1 t2
  have H := readText_any _ aob capb bh hR (by omega) hcb hc63
  rw [h2.out] at H
  have te2 : ((k2 : Int) == 0) = false := by simp; omega
  clear h2
  go_wp2_with fail
  refine H.mono ?_
  unfold ansT
  rintro e w4 ⟨rfl, rfl⟩
  clear H
  have H := readNums_any _ aob capb bh hR (by omega) hcb hc63
  rw [h3.out] at H
  have te3 : ((k3 : Int) == 0) = false := by simp; omega
  clear h3
  go_wp2_with fail
  refine H.mono ?_
  rintro e w6 ⟨v6, rfl, hownL, hbL⟩
  clear H
  have hBL := hB.trans (hbL.mono hB.size)
  clear hB hR hbL hownL
  have hB := hBL
  clear hBL
  go_wp2_with fail
  refine (works_any _).mono ?_
  rintro e w8 ⟨rfl, hb8⟩
  have hB9 := hB.trans (hb8.mono hB.size)
  clear hb8 hB
  go_wp2
  go_ret
  exact ⟨rfl, hB9⟩
end Go.Proofs.Ytionomjmebnjaab.On
