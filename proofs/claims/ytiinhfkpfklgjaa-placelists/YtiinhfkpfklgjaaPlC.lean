/-
  Cut, of place and of the document's answer.
-/
import Derived.Test.YtiinhfkpfklgjaaPlA
import Derived.Test.YtiinhfkpfklgjaaPlB
namespace Go.Proofs.Ytiinhfkpfklgjaa.Pc
open Go.RowKit Pl Pw Pr Pf Pa Pb
open Kt hiding mkH
open Kv
set_option linter.unusedVariables false
set_option maxRecDepth 20000

theorem cut1_none (x r : Rg) (h : meet x r = (0, 0)) : cut1 r x = real [x] := by
  by_cases hx : may x = true
  · rw [cut1_free r x hx h]; simp [real, hx]
  · unfold cut1; rw [if_neg hx]; simp [real, hx]
theorem cut1_some (x r g : Rg) (h : meet x r = g) (hg : ¬ (g.1 = 0 ∧ g.2 = 0)) : cut1 r x = real [(x.1, g.1), (g.2, x.2)] := by
  unfold meet at h
  by_cases hc : may x = true ∧ may r = true ∧ x.1 < r.2 ∧ r.1 < x.2
  · rw [if_pos hc] at h
    have hx := (may_iff x).1 hc.1
    have hr := (may_iff r).1 hc.2.1
    have h3 := hc.2.2
    subst h
    unfold cut1
    rw [if_pos hc.1, if_pos ⟨hc.2.1, h3⟩]
    have e1 : may (x.1, max x.1 r.1) = decide (x.1 < r.1) := by
      rw [Bool.eq_iff_iff, may_iff, decide_eq_true_eq]; dsimp only; omega
    have e2 : may (min x.2 r.2, x.2) = decide (r.2 < x.2) := by
      rw [Bool.eq_iff_iff, may_iff, decide_eq_true_eq]; dsimp only; omega
    unfold real
    rw [List.filter_cons, List.filter_cons, List.filter_nil]
    dsimp only
    rw [e1, e2]
    by_cases k1 : x.1 < r.1 <;> by_cases k2 : r.2 < x.2
    · rw [show max x.1 r.1 = r.1 by omega, show min x.2 r.2 = r.2 by omega]; simp [k1, k2]
    · rw [show max x.1 r.1 = r.1 by omega]; simp [k1, k2]
    · rw [show min x.2 r.2 = r.2 by omega]; simp [k1, k2]
    · simp [k1, k2]
  · rw [if_neg hc] at h
    subst h
    exact absurd ⟨rfl, rfl⟩ hg
theorem cut_snoc {l : List Rg} {k : Nat} {x : Rg} (r : Rg) (h : l[k]? = some x) : cut (l.take (k + 1)) r = cut (l.take k) r ++ cut1 r x := by
  unfold cut
  rw [List.take_add_one, h, List.flatMap_append]
  simp
theorem cut1_len (r x : Rg) : (cut1 r x).length ≤ 2 := by
  unfold cut1
  split
  · split
    · rw [List.length_append]; split <;> split <;> simp
    · simp
  · simp
theorem cut_len (l : List Rg) (r : Rg) : (cut l r).length ≤ 2 * l.length := by
  induction l with
  | nil => simp [cut]
  | cons x t ih =>
    have := cut1_len r x
    unfold cut at ih ⊢
    rw [List.flatMap_cons, List.length_append, List.length_cons]
    omega
theorem Ow.mono {w : World} {base base' : Nat} {v : Value} {l : List Rg} (h : Ow w base' v l) (hb : base ≤ base') : Ow w base v l := by
  refine ⟨h.1, ?_⟩
  rcases h.2 with h1 | ⟨g, c, cur, e1, h2, h3⟩
  · exact .inl h1
  · exact .inr ⟨g, c, cur, e1, Nat.le_trans hb h2, h3⟩
theorem meet_form (x r : Rg) : ∃ g1 g2, meet x r = (g1, g2) := ⟨_, _, rfl⟩

set_option maxHeartbeats 2000000 in
theorem cut_any (w : World) (ao : Option Addr) (cap : Nat) (l : List Rg) (c d : Int) (hr : Rw w ao l) (hl : l.length ≤ 1000) :
    Calls Try.prog 26 #[.slice ao l.length cap, .agg #[.int .i64 c, .int .i64 d]] w fun e w' => ∃ v, e = .returned v ∧ Ow w' w.heap.size v (cut l (c, d)) ∧ Below w.heap.size w w' := by
  obtain ⟨W0, hW0⟩ : ∃ W0, W0 = w.alloc (.cells #[.int .i64 c, .int .i64 d] 26) := ⟨_, rfl⟩
  have hs0 : W0.heap.size = w.heap.size + 1 := by rw [hW0]; simp
  have hb0 : Below w.heap.size w W0 := by rw [hW0]; exact (Below.refl _ w).alloc (Nat.le_refl _) _
  have hc0 : W0.cell? ⟨w.heap.size, 0, none⟩ = some (.int .i64 c) := by rw [hW0]; simp
  have hc1 : W0.cell? ⟨w.heap.size, 1, none⟩ = some (.int .i64 d) := by rw [hW0]; simp
  have hr0 := hr.below hb0
  have HC0 := mkH hc0
  have HC1 := mkH hc1
  have HB0 := mkH hb0
  have HS0 := mkH hs0
  have HW0 := mkH hW0
  clear hc0 hc1 hb0 hr hs0 hW0
  go_enter Try.func26, Try.ntmps26
  go_wp2
  rw [← HW0.out]
  clear HW0
  go_loopw [5, 11] (fun u i wr => ∃ k : Nat, k ≤ l.length ∧ i = .int .i64 k ∧ Ow wr W0.heap.size u (cut (l.take k) (c, d)) ∧ Below W0.heap.size W0 wr) (fun _ i _ => l.length - (intOf i).toNat)
  case atStart => exact ⟨0, Nat.zero_le _, rfl, Ow.nil _ _, Below.refl _ _⟩
  case round =>
    obtain ⟨k, hk, rfl, hO, hX⟩ := hrel
    by_cases hlt : k < l.length
    · obtain ⟨⟨a, b⟩, hrk⟩ := some_of hlt
      obtain ⟨bk, o, rfl, hc⟩ := (hr0.below hX) (by omega)
      obtain ⟨u1, u2⟩ := hc k _ hrk
      have HSN := mkH (cut_snoc (c, d) hrk)
      have hi : (k : Int) < (l.length : Int) := by omega
      have hi0 : (0 : Int) ≤ (k : Int) := by omega
      have s0 := HS0.out
      have x0 : wr.cell? ⟨w.heap.size, 0, none⟩ = some (.int .i64 c) := (hX.cell (p := ⟨w.heap.size, 0, none⟩) (show w.heap.size < W0.heap.size by omega)).trans HC0.out
      have x1 : wr.cell? ⟨w.heap.size, 1, none⟩ = some (.int .i64 d) := (hX.cell (p := ⟨w.heap.size, 1, none⟩) (show w.heap.size < W0.heap.size by omega)).trans HC1.out
      have hlt2 : w.heap.size < wr.heap.size := by have := hX.size; omega
      obtain ⟨g1, g2, hM⟩ := meet_form (a, b) (c, d)
      have hm := fun W => meet_any W a b c d
      rw [hM] at hm
      unfold R at hm
      have HM := mkH hM
      have hcl := cut_len (l.take k) (c, d)
      have hlc : (cut (l.take k) (c, d)).length ≤ 2 * k := by rw [List.length_take] at hcl; omega
      clear hc hrk hM hcl s0
      have HX := mkH hX
      have HO := mkH hO
      clear hX hO
      have e1 := eqlR g1 g2 0 0
      have gd := guardR
      go_wp2_with fail
      refine (hm _).mono ?_
      rintro e w1 ⟨rfl, hg1⟩
      have k7 := (Bx.new wr a b).gr hg1
      have l7 := k7.lt
      have hgA := ((Gr.refl wr).alloc (.cells #[.int .i64 a, .int .i64 b] 26)).trans hg1
      have hgB := hgA.alloc (.cells #[.int .i64 g1, .int .i64 g2] 26)
      have c70 := k7.c0
      have c71 := k7.c1
      have HGB := mkH hgB
      have HGE : Hid (∀ q, u5.ownBlock = some q → W0.heap.size ≤ q) := mkH (fun q hq => (Pa.Ow.ge HO.out q hq).1)
      clear hg1 k7 hgA hgB x0 x1 hlt2 u1 u2
      by_cases hz : g1 = 0 ∧ g2 = 0
      · have ht : (decide (g1 = 0) && decide (g2 = 0)) = true := by simp [hz]
        obtain ⟨h1, h2⟩ := hz
        subst h1 h2
        have HN := mkH (HSN.out.trans (by rw [cut1_none _ _ HM.out] : _ = cut (l.take k) (c, d) ++ real [(a, b)]))
        clear HSN HM ht
        have hgC := HGB.out.alloc (.cells #[.int .i64 a, .int .i64 b] 26)
        have hO1 := HO.out.below hgC.below
        have hX1 := HX.out.trans (hgC.below.mono HX.out.size)
        have hrw : Rw ((w1.alloc (.cells #[.int .i64 0, .int .i64 0] 26)).alloc (.cells #[.int .i64 a, .int .i64 b] 26)) (some ⟨w1.heap.size + 1, 0, none⟩) [(a, b)] := by
          have h1 := Rw_new (w1.alloc (.cells #[.int .i64 0, .int .i64 0] 26)) [(a, b)] 26
          rw [show (w1.alloc (.cells #[.int .i64 0, .int .i64 0] 26)).heap.size = w1.heap.size + 1 by simp] at h1
          exact h1
        have hsz := HGB.out.below.size
        have hadd := addReal_any _ _ _ _ hO1 hX1.size (some ⟨w1.heap.size + 1, 0, none⟩) 1 [(a, b)] hrw (fun q hq => by
          injection hq with hq
          subst hq
          intro e
          have := (Pa.Ow.ge HO.out _ e).2
          simp at hsz
          dsimp only at this
          omega) (by simp; omega)
        have HADD := mkH hadd
        have HX1 := mkH hX1
        clear hO1 hX1 hrw hadd hgC HGB HO HX hsz
        go_wp2_with fail
        refine (HADD.out).mono ?_
        rintro e2 w2 ⟨v2, rfl, hO2, hE2⟩
        rw [← HN.out] at hO2
        have hX2 := hE2.below HX1.out HX1.out.size HGE.out
        clear hE2 HX1 HADD HN c70 c71 l7 HGE
        go_wp2
        go_roundw
        case rel => exact ⟨k + 1, by omega, by go_num, hO2, hX2⟩
        case measure => simp [intOf]; omega
      · have ht : (decide (g1 = 0) && decide (g2 = 0)) = false := by simp; omega
        have HN := mkH (HSN.out.trans (by rw [cut1_some _ _ _ HM.out hz] : _ = cut (l.take k) (c, d) ++ real [(a, g1), (g2, b)]))
        clear HSN HM
        have hgC := HGB.out.alloc (.cells #[.int .i64 a, .int .i64 g1, .int .i64 g2, .int .i64 b] 26)
        have hO1 := HO.out.below hgC.below
        have hX1 := HX.out.trans (hgC.below.mono HX.out.size)
        have hrw : Rw ((w1.alloc (.cells #[.int .i64 g1, .int .i64 g2] 26)).alloc (.cells #[.int .i64 a, .int .i64 g1, .int .i64 g2, .int .i64 b] 26)) (some ⟨w1.heap.size + 1, 0, none⟩) [(a, g1), (g2, b)] := by
          have h1 := Rw_new (w1.alloc (.cells #[.int .i64 g1, .int .i64 g2] 26)) [(a, g1), (g2, b)] 26
          rw [show (w1.alloc (.cells #[.int .i64 g1, .int .i64 g2] 26)).heap.size = w1.heap.size + 1 by simp] at h1
          exact h1
        have hsz := HGB.out.below.size
        have hadd := addReal_any _ _ _ _ hO1 hX1.size (some ⟨w1.heap.size + 1, 0, none⟩) 2 [(a, g1), (g2, b)] hrw (fun q hq => by
          injection hq with hq
          subst hq
          intro e
          have := (Pa.Ow.ge HO.out _ e).2
          simp at hsz
          dsimp only at this
          omega) (by simp; omega)
        have HADD := mkH hadd
        have HX1 := mkH hX1
        have HZ := mkH hz
        clear hO1 hX1 hrw hadd hgC HGB HO HX hsz hz
        go_wp2_with fail
        refine (HADD.out).mono ?_
        rintro e2 w2 ⟨v2, rfl, hO2, hE2⟩
        rw [← HN.out] at hO2
        have hX2 := hE2.below HX1.out HX1.out.size HGE.out
        clear hE2 HX1 HADD HN c70 c71 l7 HGE ht e1
        go_wp2
        go_roundw
        case rel => exact ⟨k + 1, by omega, by go_num, hO2, hX2⟩
        case measure => simp [intOf]; omega
    · have : k = l.length := by omega
      subst this
      rw [List.take_length] at hO
      go_wp2
      go_ret
      exact ⟨_, rfl, Ow.mono hO (by have := HS0.out; omega), HB0.out.trans (hX.mono (by have := HS0.out; omega))⟩
end Go.Proofs.Ytiinhfkpfklgjaa.Pc
