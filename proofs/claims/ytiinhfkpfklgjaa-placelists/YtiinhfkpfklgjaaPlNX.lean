/-
  The document's Cut.
-/
import Derived.Test.YtiinhfkpfklgjaaPlC
import Derived.Test.YtiinhfkpfklgjaaPlJ
namespace Go.Proofs.Ytiinhfkpfklgjaa.Pnx
open Go.RowKit Pl Pw Pr Pf Pa Pb Pc Pj
open Kt hiding mkH
set_option linter.unusedVariables false
set_option maxRecDepth 20000

theorem cut1_no (r x : Rg) (h : may x = false) : cut1 r x = [] := by unfold cut1; rw [if_neg (by simp [h])]
theorem cut1_all (r x : Rg) (h : may x = true) (h2 : ¬ (may r = true ∧ x.1 < r.2 ∧ r.1 < x.2)) : cut1 r x = [x] := by unfold cut1; rw [if_pos h, if_neg h2]
theorem cut1_in (r x : Rg) (h : may x = true) (h2 : may r = true ∧ x.1 < r.2 ∧ r.1 < x.2) : cut1 r x = (if x.1 < r.1 then [(x.1, r.1)] else []) ++ (if r.2 < x.2 then [(r.2, x.2)] else []) := by unfold cut1; rw [if_pos h, if_pos h2]
theorem Bx.kept {w w' : World} {b : Nat} {lo hi : Int} {row : Option Nat} (h : Bx w b lo hi) (hg : w.grownBy w' row) (hne : some b ≠ row) : Bx w' b lo hi := (hg.block b h.lt hne).trans h
theorem ow_snoc2 {w : World} {base : Nat} {v : Value} {l : List Rg} {x y a b : Int} (h : w.ownsRow base 26 2 v (l.length + 1 + 1) (E (l ++ [(x, y)]) ++ E [(a, b)])) : Ow w base v (l ++ [(x, y)] ++ [(a, b)]) := by
  unfold Ow; rw [List.length_append, List.length_append, E_append (l ++ [(x, y)])]; exact h
theorem ow_snoc {w : World} {base : Nat} {v : Value} {l : List Rg} {a b : Int} (h : w.ownsRow base 26 2 v (l.length + 1) (E l ++ E [(a, b)])) : Ow w base v (l ++ [(a, b)]) := by
  unfold Ow; rw [List.length_append, E_append]; exact h

set_option maxHeartbeats 8000000 in
theorem rcut_any (w : World) (ao : Option Addr) (cap : Nat) (l : List Rg) (c d : Int) (hr : Rw w ao l) (hl : l.length ≤ 1000) :
    Calls Try.prog 27 #[.slice ao l.length cap, .agg #[.int .i64 c, .int .i64 d]] w fun e w' => ∃ v, e = .returned v ∧ Ow w' w.heap.size v (cut l (c, d)) ∧ Below w.heap.size w w' := by
  obtain ⟨W0, hW0⟩ : ∃ W0, W0 = w.alloc (.cells #[.int .i64 c, .int .i64 d] 26) := ⟨_, rfl⟩
  have hs0 : W0.heap.size = w.heap.size + 1 := by rw [hW0]; simp
  have hb0 : Below w.heap.size w W0 := by rw [hW0]; exact (Below.refl _ w).alloc (Nat.le_refl _) _
  have hk0 : Bx W0 w.heap.size c d := by rw [hW0]; exact Bx.new w c d
  have HR0 := mkH (hr.below hb0)
  have HK0 := mkH hk0
  have HB0 := mkH hb0
  have HS0 := mkH hs0
  have HW0 := mkH hW0
  clear hk0 hb0 hr hs0 hW0
  go_enter Try.func27, Try.ntmps27
  go_wp2
  rw [← HW0.out]
  clear HW0
  go_loopw [5, 6] (fun u i wr => ∃ k : Nat, k ≤ l.length ∧ i = .int .i64 k ∧ Ow wr W0.heap.size u (cut (l.take k) (c, d)) ∧ Below W0.heap.size W0 wr) (fun _ i _ => l.length - (intOf i).toNat)
  case atStart => exact ⟨0, Nat.zero_le _, rfl, Ow.nil _ _, Below.refl _ _⟩
  case round =>
    obtain ⟨k, hk, rfl, hO, hX⟩ := hrel
    by_cases hlt : k < l.length
    · obtain ⟨⟨a, b⟩, hrk⟩ := some_of hlt
      obtain ⟨bk, o, rfl, hc⟩ := (HR0.out.below hX) (by omega)
      obtain ⟨u1, u2⟩ := hc k _ hrk
      have HSN := mkH (cut_snoc (c, d) hrk)
      have hi : (k : Int) < (l.length : Int) := by omega
      have hi0 : (0 : Int) ≤ (k : Int) := by omega
      have hm1 := fun W => rmay_any W a b
      have hm2 := fun W => rmay_any W c d
      have hcl := cut_len (l.take k) (c, d)
      have hlc : (cut (l.take k) (c, d)).length ≤ 2 * k := by rw [List.length_take] at hcl; omega
      have hsz := hX.size
      have kr := HK0.out.below hX (by have := HS0.out; omega)
      generalize cut (l.take k) (c, d) = C at hO HSN hlc
      -- behind the two new blocks
      have hgA := ((Gr.refl wr).alloc (.cells #[.int .i64 a, .int .i64 b] 26)).alloc (.cells #[.int .i64 a, .int .i64 b] 26)
      have HOA := mkH (hO.below hgA.below)
      have HXA := mkH (hX.trans (hgA.below.mono hX.size))
      have KA := mkH (kr.gr hgA)
      have KX := mkH ((Bx.new wr a b).alloc (.cells #[.int .i64 a, .int .i64 b] 26))
      have lr := kr.lt
      have lX := KX.out.lt
      have lA := KA.out.lt
      have HGE : Hid (∀ q, u5.ownBlock = some q → W0.heap.size ≤ q ∧ q < wr.heap.size) := mkH (fun q hq => Pa.Ow.ge hO q hq)
      clear hc hrk hcl hgA kr hX hO
      cases hq : may (a, b)
      · rw [hq] at hm1
        rw [cut1_no _ _ hq, List.append_nil] at HSN
        go_wp2_with fail
        refine (hm1 _).mono ?_
        rintro e w1 ⟨rfl, rfl⟩
        have hO1 := HOA.out
        rw [← HSN.out] at hO1
        have hX1 := HXA.out
        clear HOA HXA KA KX u1 u2
        go_wp2
        go_roundw
        case rel => exact ⟨k + 1, by omega, by go_num, hO1, hX1⟩
        case measure => simp [intOf]; omega
      · rw [hq] at hm1
        have HQ := mkH hq
        go_wp2_with fail
        refine (hm1 _).mono ?_
        rintro e w1 ⟨rfl, rfl⟩
        clear u1 u2 hm1
        have hszA := HXA.out.size
        generalize (wr.alloc (.cells #[.int .i64 a, .int .i64 b] 26)).alloc (.cells #[.int .i64 a, .int .i64 b] 26) = wA at *
        have ka0 := KA.out.c0
        have ka1 := KA.out.c1
        have kx0 := KX.out.c0
        have kx1 := KX.out.c1
        -- behind the look at r
        have hgB := (Gr.refl wA).alloc (.cells #[.int .i64 c, .int .i64 d] 26)
        have HOB := mkH (HOA.out.below hgB.below)
        have HXB := mkH (HXA.out.trans (hgB.below.mono HXA.out.size))
        have KAB := mkH (KA.out.gr hgB)
        have KXB := mkH (KX.out.gr hgB)
        clear hgB HOA HXA KA KX
        go_wp2_with fail
        refine (hm2 _).mono ?_
        rintro e w2 ⟨rfl, rfl⟩
        clear ka0 ka1 kx0 kx1 hm2
        have lB : wA.heap.size < (wA.alloc (.cells #[.int .i64 c, .int .i64 d] 26)).heap.size := by simp
        have hszB := HXB.out.size
        generalize wA.alloc (.cells #[.int .i64 c, .int .i64 d] 26) = wB at *
        have ka0 := KAB.out.c0
        have ka1 := KAB.out.c1
        have kx0 := KXB.out.c0
        have kx1 := KXB.out.c1
        have lab := KAB.out.lt
        have lxb := KXB.out.lt
        by_cases hin : may (c, d) = true ∧ a < d ∧ c < b
        · have g1 : decide (d ≤ a) = false := by simp; omega
          have g2 : decide (b ≤ c) = false := by simp; omega
          rw [cut1_in _ _ HQ.out hin] at HSN
          have hmc := hin.1
          dsimp only at HSN
          simp only [hmc]
          have f1 : ¬ d ≤ a := by omega
          have f2 : ¬ b ≤ c := by omega
          clear HQ
          by_cases h1 : a < c
          · rw [if_pos h1] at HSN
            have hh1 : decide (a < c) = true := by simp [h1]
            by_cases h2 : d < b
            · rw [if_pos h2] at HSN
              have hh2 : decide (d < b) = true := by simp [h2]
              have KA3 := mkH (KAB.out.alloc (.cells #[.int .i64 a, .int .i64 c] 26))
              have KX3 := mkH (KXB.out.alloc (.cells #[.int .i64 a, .int .i64 c] 26))
              have HO3 := mkH (HOB.out.below ((Gr.refl wB).alloc (.cells #[.int .i64 a, .int .i64 c] 26)).below)
              have HX3 := mkH (HXB.out.trans (((Gr.refl wB).alloc (.cells #[.int .i64 a, .int .i64 c] 26)).below.mono HXB.out.size))
              have hz3 := HX3.out.size
              go_wp2_with (at_builtin; refine (wpList_append_own_src _ rfl (.tmp 47) (.tmp 53) 36 36 rfl W0.heap.size 26 (.agg #[.int .i64 0, .int .i64 0]) 2 16 Try.underlying36 info26 rfl (by decide) _ C.length (E C) rfl HO3.out _ 1 (E [(a, c)]) rfl ?hsrc ?h63 ?hby ?hbs ?_))
              case hsrc => exact src1 wB a c
              case h63 => unfold maxLen; omega
              case hby => omega
              case hbs => simpa using hz3
              intro v3 w3 hown3 hgrow3
              have hY3 := below_own HO3.out hgrow3 HX3.out hz3
              have hP3 : Ow w3 W0.heap.size v3 (C ++ [(a, c)]) := ow_snoc hown3
              have KA4 := mkH (Bx.kept KA3.out hgrow3 (fun e => by have := (HGE.out _ e.symm).1; have := HS0.out; omega))
              have KX4 := mkH (Bx.kept KX3.out hgrow3 (fun e => by have := (HGE.out _ e.symm).2; omega))
              clear HO3 HX3 hown3 hgrow3 ka0 ka1 kx0 kx1 KAB KXB KA3 KX3
              have ka0 := KA4.out.c0
              have ka1 := KA4.out.c1
              have kx0 := KX4.out.c0
              have kx1 := KX4.out.c1
              have la4 := KA4.out.lt
              have lx4 := KX4.out.lt
              have HO4 := mkH (hP3.below ((Gr.refl w3).alloc (.cells #[.int .i64 d, .int .i64 b] 26)).below)
              have HX4 := mkH (hY3.trans (((Gr.refl w3).alloc (.cells #[.int .i64 d, .int .i64 b] 26)).below.mono hY3.size))
              have hz4 := HX4.out.size
              go_wp2_with (at_builtin; refine (wpList_append_own_src _ rfl (.tmp 60) (.tmp 66) 36 36 rfl W0.heap.size 26 (.agg #[.int .i64 0, .int .i64 0]) 2 16 Try.underlying36 info26 rfl (by decide) _ (C ++ [(a, c)]).length (E (C ++ [(a, c)])) rfl HO4.out _ 1 (E [(d, b)]) rfl ?hsrc ?h63 ?hby ?hbs ?_))
              case hsrc => exact src1 w3 d b
              case h63 => unfold maxLen; rw [List.length_append, List.length_singleton]; omega
              case hby => rw [List.length_append, List.length_singleton]; omega
              case hbs => simpa using hz4
              intro v4 w4 hown4 hgrow4
              have hY4 := below_own HO4.out hgrow4 HX4.out hz4
              have hP4 : Ow w4 W0.heap.size v4 ((C ++ [(a, c)]) ++ [(d, b)]) := ow_snoc2 hown4
              rw [List.append_assoc] at hP4
              rw [← HSN.out] at hP4
              clear HO4 HX4 hown4 hgrow4 ka0 ka1 kx0 kx1
              go_wp2
              go_roundw
              case rel => exact ⟨k + 1, by omega, by go_num, hP4, hY4⟩
              case measure => simp [intOf]; omega
            · rw [if_neg h2, List.append_nil] at HSN
              have hh2 : decide (d < b) = false := by rw [decide_eq_false_iff_not]; exact h2
              have KA3 := mkH (KAB.out.alloc (.cells #[.int .i64 a, .int .i64 c] 26))
              have KX3 := mkH (KXB.out.alloc (.cells #[.int .i64 a, .int .i64 c] 26))
              have HO3 := mkH (HOB.out.below ((Gr.refl wB).alloc (.cells #[.int .i64 a, .int .i64 c] 26)).below)
              have HX3 := mkH (HXB.out.trans (((Gr.refl wB).alloc (.cells #[.int .i64 a, .int .i64 c] 26)).below.mono HXB.out.size))
              have hz3 := HX3.out.size
              go_wp2_with (at_builtin; refine (wpList_append_own_src _ rfl (.tmp 47) (.tmp 53) 36 36 rfl W0.heap.size 26 (.agg #[.int .i64 0, .int .i64 0]) 2 16 Try.underlying36 info26 rfl (by decide) _ C.length (E C) rfl HO3.out _ 1 (E [(a, c)]) rfl ?hsrc ?h63 ?hby ?hbs ?_))
              case hsrc => exact src1 wB a c
              case h63 => unfold maxLen; omega
              case hby => omega
              case hbs => simpa using hz3
              intro v3 w3 hown3 hgrow3
              have hY3 := below_own HO3.out hgrow3 HX3.out hz3
              have hP3 : Ow w3 W0.heap.size v3 (C ++ [(a, c)]) := ow_snoc hown3
              have KA4 := mkH (Bx.kept KA3.out hgrow3 (fun e => by have := (HGE.out _ e.symm).1; have := HS0.out; omega))
              have KX4 := mkH (Bx.kept KX3.out hgrow3 (fun e => by have := (HGE.out _ e.symm).2; omega))
              rw [← HSN.out] at hP3
              clear HO3 HX3 hown3 hgrow3 ka0 ka1 kx0 kx1 KAB KXB KA3 KX3
              have ka0 := KA4.out.c0
              have ka1 := KA4.out.c1
              have kx0 := KX4.out.c0
              have kx1 := KX4.out.c1
              have la4 := KA4.out.lt
              have lx4 := KX4.out.lt
              go_wp2
              go_roundw
              case rel => exact ⟨k + 1, by omega, by go_num, hP3, hY3⟩
              case measure => simp [intOf]; omega
          · rw [if_neg h1, List.nil_append] at HSN
            have hh1 : decide (a < c) = false := by rw [decide_eq_false_iff_not]; exact h1
            by_cases h2 : d < b
            · rw [if_pos h2] at HSN
              have hh2 : decide (d < b) = true := by simp [h2]
              have HO3 := mkH (HOB.out.below ((Gr.refl wB).alloc (.cells #[.int .i64 d, .int .i64 b] 26)).below)
              have HX3 := mkH (HXB.out.trans (((Gr.refl wB).alloc (.cells #[.int .i64 d, .int .i64 b] 26)).below.mono HXB.out.size))
              have hz3 := HX3.out.size
              go_wp2_with (at_builtin; refine (wpList_append_own_src _ rfl (.tmp 60) (.tmp 66) 36 36 rfl W0.heap.size 26 (.agg #[.int .i64 0, .int .i64 0]) 2 16 Try.underlying36 info26 rfl (by decide) _ C.length (E C) rfl HO3.out _ 1 (E [(d, b)]) rfl ?hsrc ?h63 ?hby ?hbs ?_))
              case hsrc => exact src1 wB d b
              case h63 => unfold maxLen; omega
              case hby => omega
              case hbs => simpa using hz3
              intro v3 w3 hown3 hgrow3
              have hY3 := below_own HO3.out hgrow3 HX3.out hz3
              have hP3 : Ow w3 W0.heap.size v3 (C ++ [(d, b)]) := ow_snoc hown3
              rw [← HSN.out] at hP3
              clear HO3 HX3 hown3 hgrow3 ka0 ka1 kx0 kx1
              go_wp2
              go_roundw
              case rel => exact ⟨k + 1, by omega, by go_num, hP3, hY3⟩
              case measure => simp [intOf]; omega
            · rw [if_neg h2, List.append_nil] at HSN
              have hh2 : decide (d < b) = false := by rw [decide_eq_false_iff_not]; exact h2
              have hP3 := HOB.out
              have hY3 := HXB.out
              rw [← HSN.out] at hP3
              clear HOB HXB
              go_wp2
              go_roundw
              case rel => exact ⟨k + 1, by omega, by go_num, hP3, hY3⟩
              case measure => simp [intOf]; omega
        · rw [cut1_all _ _ HQ.out hin] at HSN
          cases hmc : may (c, d)
          · clear HQ hin
            have HO3 := mkH (HOB.out.below ((Gr.refl wB).alloc (.cells #[.int .i64 a, .int .i64 b] 26)).below)
            have HX3 := mkH (HXB.out.trans (((Gr.refl wB).alloc (.cells #[.int .i64 a, .int .i64 b] 26)).below.mono HXB.out.size))
            have hz3 := HX3.out.size
            go_wp2_with (at_builtin; refine (wpList_append_own_src _ rfl (.tmp 38) (.tmp 40) 36 36 rfl W0.heap.size 26 (.agg #[.int .i64 0, .int .i64 0]) 2 16 Try.underlying36 info26 rfl (by decide) _ C.length (E C) rfl HO3.out _ 1 (E [(a, b)]) rfl ?hsrc ?h63 ?hby ?hbs ?_))
            case hsrc => exact src1 wB a b
            case h63 => unfold maxLen; omega
            case hby => omega
            case hbs => simpa using hz3
            intro v3 w3 hown3 hgrow3
            have hY3 := below_own HO3.out hgrow3 HX3.out hz3
            have hP3 : Ow w3 W0.heap.size v3 (C ++ [(a, b)]) := ow_snoc hown3
            rw [← HSN.out] at hP3
            clear HO3 HX3 hown3 hgrow3 ka0 ka1 kx0 kx1
            go_wp2
            go_roundw
            case rel => exact ⟨k + 1, by omega, by go_num, hP3, hY3⟩
            case measure => simp [intOf]; omega
          · have HIN := mkH hin
            clear hin HQ
            by_cases h1 : d ≤ a
            · have hh1 : decide (d ≤ a) = true := by simp [h1]
              have HO3 := mkH (HOB.out.below ((Gr.refl wB).alloc (.cells #[.int .i64 a, .int .i64 b] 26)).below)
              have HX3 := mkH (HXB.out.trans (((Gr.refl wB).alloc (.cells #[.int .i64 a, .int .i64 b] 26)).below.mono HXB.out.size))
              have hz3 := HX3.out.size
              go_wp2_with (at_builtin; refine (wpList_append_own_src _ rfl (.tmp 38) (.tmp 40) 36 36 rfl W0.heap.size 26 (.agg #[.int .i64 0, .int .i64 0]) 2 16 Try.underlying36 info26 rfl (by decide) _ C.length (E C) rfl HO3.out _ 1 (E [(a, b)]) rfl ?hsrc ?h63 ?hby ?hbs ?_))
              case hsrc => exact src1 wB a b
              case h63 => unfold maxLen; omega
              case hby => omega
              case hbs => simpa using hz3
              intro v3 w3 hown3 hgrow3
              have hY3 := below_own HO3.out hgrow3 HX3.out hz3
              have hP3 : Ow w3 W0.heap.size v3 (C ++ [(a, b)]) := ow_snoc hown3
              rw [← HSN.out] at hP3
              clear HO3 HX3 hown3 hgrow3 ka0 ka1 kx0 kx1
              go_wp2
              go_roundw
              case rel => exact ⟨k + 1, by omega, by go_num, hP3, hY3⟩
              case measure => simp [intOf]; omega
            · have hh1 : decide (d ≤ a) = false := by rw [decide_eq_false_iff_not]; exact h1
              have h2 : b ≤ c := by
                have h := HIN.out
                rcases Int.lt_or_le c b with h3 | h3
                · exact absurd ⟨hmc, by omega, h3⟩ h
                · exact h3
              have hh2 : decide (b ≤ c) = true := by simp [h2]
              have HO3 := mkH (HOB.out.below ((Gr.refl wB).alloc (.cells #[.int .i64 a, .int .i64 b] 26)).below)
              have HX3 := mkH (HXB.out.trans (((Gr.refl wB).alloc (.cells #[.int .i64 a, .int .i64 b] 26)).below.mono HXB.out.size))
              have hz3 := HX3.out.size
              go_wp2_with (at_builtin; refine (wpList_append_own_src _ rfl (.tmp 38) (.tmp 40) 36 36 rfl W0.heap.size 26 (.agg #[.int .i64 0, .int .i64 0]) 2 16 Try.underlying36 info26 rfl (by decide) _ C.length (E C) rfl HO3.out _ 1 (E [(a, b)]) rfl ?hsrc ?h63 ?hby ?hbs ?_))
              case hsrc => exact src1 wB a b
              case h63 => unfold maxLen; omega
              case hby => omega
              case hbs => simpa using hz3
              intro v3 w3 hown3 hgrow3
              have hY3 := below_own HO3.out hgrow3 HX3.out hz3
              have hP3 : Ow w3 W0.heap.size v3 (C ++ [(a, b)]) := ow_snoc hown3
              rw [← HSN.out] at hP3
              clear HO3 HX3 hown3 hgrow3 ka0 ka1 kx0 kx1
              go_wp2
              go_roundw
              case rel => exact ⟨k + 1, by omega, by go_num, hP3, hY3⟩
              case measure => simp [intOf]; omega
    · have : k = l.length := by omega
      subst this
      rw [List.take_length] at hO
      go_wp2
      go_ret
      exact ⟨_, rfl, Pc.Ow.mono hO (by have := HS0.out; omega), HB0.out.trans (hX.mono (by have := HS0.out; omega))⟩
end Go.Proofs.Ytiinhfkpfklgjaa.Pnx
