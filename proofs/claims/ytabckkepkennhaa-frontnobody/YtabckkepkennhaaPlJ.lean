/-
  Join, of place.
-/
import Derived.Test.YtabckkepkennhaaPlJ0
import Derived.Test.YtabckkepkennhaaPlC
namespace Go.Proofs.Ytabckkepkennhaa.Pj
open Go.RowKit Pl Pw Pr Pf Pg Pa Pb
open Kt hiding mkH
open Kv
set_option linter.unusedVariables false
set_option maxRecDepth 20000

theorem putAll_snoc {s : List Rg} {k : Nat} {r : Rg} (h : s[k]? = some r) : putAll [] (s.take (k + 1)) = put (putAll [] (s.take k)) r := by
  unfold putAll
  rw [List.take_add_one, h, List.foldl_append]
  rfl
theorem put_len (j : List Rg) (r : Rg) : (put j r).length ≤ j.length + 1 := by
  rcases List.eq_nil_or_concat j with rfl | ⟨j', x, e⟩
  · simp [put_nil]
  · rw [List.concat_eq_append] at e
    subst e
    rw [put_snoc]
    split <;> simp
theorem putAll_len (s : List Rg) : ∀ j, (putAll j s).length ≤ j.length + s.length := by
  induction s with
  | nil => intro j; simp [putAll]
  | cons r t ih =>
    intro j
    have h1 := ih (put j r)
    have h2 := put_len j r
    show (putAll (put j r) t).length ≤ _
    rw [List.length_cons]
    omega
/-- What is known behind the first test of a round. -/
theorem after_box {wr w2 : World} {u : Value} {j : List Rg} {a b : Int} (n : Nat) (hO : Ow wr w2.heap.size u j) (hX : Below w2.heap.size w2 wr) :
    Ow ((wr.alloc (.cells #[.int .i64 a, .int .i64 b] 29)).drewN n) w2.heap.size u j ∧ Below w2.heap.size w2 ((wr.alloc (.cells #[.int .i64 a, .int .i64 b] 29)).drewN n) ∧
      Bx ((wr.alloc (.cells #[.int .i64 a, .int .i64 b] 29)).drewN n) wr.heap.size a b := by
  have hb : Below wr.heap.size wr ((wr.alloc (.cells #[.int .i64 a, .int .i64 b] 29)).drewN n) := ((Below.refl _ wr).alloc (Nat.le_refl _) _).trans ⟨rfl, rfl, rfl, Nat.le_refl _, fun _ _ => rfl⟩
  exact ⟨hO.below hb, hX.trans (hb.mono hX.size), Bx.new wr a b⟩
theorem src1 (w : World) (a b : Int) : Src Try.prog 2 35 (.slice (some ⟨w.heap.size, 0, none⟩) 1 1) 1 (E [(a, b)]) (w.alloc (.cells #[.int .i64 a, .int .i64 b] 29)) :=
  Rw.src (P := Try.prog) Try.underlying35 (Rw_new w [(a, b)] 29) 1
/-- An owned row that has a last one, and the last one's Hi. -/
theorem Ow_last {w : World} {base : Nat} {v : Value} {j : List Rg} {c d : Int} (h : Ow w base v (j ++ [(c, d)])) :
    ∃ g cap, v = .slice (some ⟨g, 0, none⟩) (j.length + 1) cap ∧ w.cell? ⟨g, j.length * 2 + 1, none⟩ = some (.int .i64 d) ∧ w.frozen? ⟨g, j.length * 2 + 1, none⟩ = false ∧ g < w.heap.size ∧ base ≤ g ∧ j.length + 1 ≤ cap ∧ cap ≤ 9223372036854775807 ∧
      ∀ e, Ow (w.setCell ⟨g, j.length * 2 + 1, none⟩ (.int .i64 e)) base v (j ++ [(c, e)]) ∧ w.grownBy (w.setCell ⟨g, j.length * 2 + 1, none⟩ (.int .i64 e)) (some g) := by
  have hlen : (j ++ [(c, d)]).length = j.length + 1 := by simp
  unfold Ow at h
  rw [hlen] at h
  rcases h.2 with ⟨e1, e2⟩ | ⟨g, cap, cur, rfl, hbg, hg, hnc, hcm, hcs, ht⟩
  · omega
  · have hgl : g < w.heap.size := by
      rcases Nat.lt_or_ge g w.heap.size with h1 | h1
      · exact h1
      · rw [Array.getElem?_eq_none h1] at hg; cases hg
    have h1 := World.ownsRow.cellAt h (j.length * 2 + 1) (by omega)
    rw [E_at1 (j ++ [(c, d)]) j.length (c, d) (by simp)] at h1
    refine ⟨g, cap, rfl, h1, by simp [World.frozen?, hg], hgl, hbg, hnc, by unfold maxLen at hcm; omega, fun e => ?_⟩
    obtain ⟨h2, h3⟩ := h.stored (j.length * 2 + 1) (.int .i64 e)
    refine ⟨?_, h3⟩
    unfold Ow
    rw [show (j ++ [(c, e)]).length = j.length + 1 by simp]
    have e2 : (E (j ++ [(c, d)])).set (j.length * 2 + 1) (.int .i64 e) = E (j ++ [(c, e)]) := by
      rw [E_append, E_append]
      have : (E j).length = j.length * 2 := E_length j
      rw [List.set_append_right _ _ (by omega), this, show j.length * 2 + 1 - j.length * 2 = 1 by omega]
      rfl
    rw [e2] at h2
    exact h2

set_option maxHeartbeats 4000000 in
theorem join_any (w : World) (ao : Option Addr) (cap : Nat) (l : List Rg) (hr : Rw w ao l) (hl : l.length ≤ 100000) :
    Calls Try.prog 81 #[.slice ao l.length cap] w fun e w' => ∃ v, e = .returned v ∧ Ow w' w.heap.size v (join l) ∧ Below w.heap.size w w' := by
  have hn : (real l).length ≤ 100000 := Nat.le_trans (List.length_filter_le _ _) hl
  have hadd := addReal_any w w.heap.size (.slice none 0 0) [] (Ow.nil _ _) (Nat.le_refl _) ao cap l hr (fun a _ h => by simp [Value.ownBlock] at h) (by simp; omega)
  rw [List.nil_append] at hadd
  have HJ := mkH (join_sorted l)
  clear hr
  generalize real l = t at hn hadd HJ
  go_enter Try.func81, Try.ntmps81
  go_wp2_with fail
  refine hadd.mono ?_
  rintro e w1 ⟨v1, rfl, hO1, hE1⟩
  clear hadd
  have hb1 := mkH (hE1.below (Below.refl w.heap.size w) (Nat.le_refl _) (fun k h => by simp [Value.ownBlock] at h))
  obtain ⟨ao1, cap1, rfl, hc1, hc2⟩ := hO1.form
  have hge := mkH (fun k hk => (Pa.Ow.ge hO1 k hk).1)
  have hsort := mkH (sort_any w1 _ ao1 cap1 t hO1 (by omega))
  clear hO1 hE1
  go_wp2_with fail
  refine (hsort.out).mono ?_
  rintro e w2 ⟨rfl, s, hp, hs, hR, hg⟩
  have hb2 := mkH (hb1.out.grown hg hb1.out.size hge.out)
  have hsl : s.length = t.length := hp.length_eq
  have HJ2 := mkH (HJ.out s hp hs)
  have HR := mkH hR
  rw [← hsl] at hc1 hn ⊢
  clear hsort hp hs hg hge hb1 HJ hR hsl
  go_wp2
  go_loopw [4, 14] (fun u i wr => ∃ k : Nat, k ≤ s.length ∧ i = .int .i64 k ∧ Ow wr w2.heap.size u (putAll [] (s.take k)) ∧ Below w2.heap.size w2 wr) (fun _ i _ => s.length - (intOf i).toNat)
  case atStart => exact ⟨0, Nat.zero_le _, rfl, Ow.nil _ _, Below.refl _ _⟩
  case round =>
    obtain ⟨k, hk, rfl, hO, hX⟩ := hrel
    by_cases hlt : k < s.length
    · obtain ⟨⟨a, b⟩, hrk⟩ := some_of hlt
      obtain ⟨bk, o, rfl, hc⟩ := (HR.out.below hX) (by omega)
      obtain ⟨u1, u2⟩ := hc k _ hrk
      have HSN := mkH (putAll_snoc hrk)
      have hi : (k : Int) < (s.length : Int) := by omega
      have hi0 : (0 : Int) ≤ (k : Int) := by omega
      have hpl := putAll_len (s.take k) []
      have hpl2 : (putAll [] (s.take k)).length ≤ k := by rw [List.length_take, List.length_nil] at hpl; omega
      clear hc hrk hpl
      generalize putAll [] (s.take k) = j at hO HSN hpl2
      have HX := mkH hX
      have hsz := hX.size
      clear hX
      rcases List.eq_nil_or_concat j with rfl | ⟨j', ⟨c, d⟩, ej⟩
      · obtain ⟨aoj, capj, rfl, -, -⟩ := hO.form
        rw [put_nil] at HSN
        have HO := mkH hO
        clear hO
        have tf : decide ((-1 : Int) < 0) = true := rfl
        go_wp2_with fail
        go_quiet (fail)
        obtain ⟨hO1, hX1, kb⟩ := after_box (a := a) (b := b) nq HO.out HX.out
        have hsz1 : wr.heap.size < ((wr.alloc (.cells #[.int .i64 a, .int .i64 b] 29)).drewN nq).heap.size := kb.lt
        have c0 := kb.c0
        have c1 := kb.c1
        clear HO HX kb tf
        generalize ((wr.alloc (.cells #[.int .i64 a, .int .i64 b] 29)).drewN nq) = wz at *
        have hO2 := hO1.below ((Below.refl _ wz).alloc (Nat.le_refl _) (.cells #[.int .i64 a, .int .i64 b] 29))
        have hX2 := hX1.alloc hX1.size (.cells #[.int .i64 a, .int .i64 b] 29)
        have hsz2 := hX1.size
        have HX2 := mkH hX2
        have HO2 := mkH hO2
        clear hO1 hX1 hO2 hX2
        go_wp2_with (at_builtin; refine (wpList_append_own_src _ rfl (.tmp 33) (.tmp 35) 35 35 rfl w2.heap.size 29 (.agg #[.int .i64 0, .int .i64 0]) 2 16 Try.underlying35 info26 rfl (by decide) _ (([] : List Rg)).length (E (([] : List Rg))) rfl HO2.out _ 1 (E [(a, b)]) rfl ?hsrc2 ?h632 ?hby2 ?hbs2 ?_))
        case hsrc2 => exact src1 wz a b
        case h632 => unfold maxLen; simp
        case hby2 => simp
        case hbs2 => simp; omega
        intro v3 w3 hown3 hgrow3
        have hX3 := below_own HO2.out hgrow3 HX2.out (by simp; omega)
        have hO3 : Ow w3 w2.heap.size v3 (putAll [] (s.take (k + 1))) := by
          rw [HSN.out]
          exact hown3
        clear hown3 hgrow3 HO2 HX2 HSN c0 c1 hsz1
        go_wp2
        go_roundw
        case rel => exact ⟨k + 1, by omega, by go_num, hO3, hX3⟩
        case measure => simp [intOf]; omega
      · rw [List.concat_eq_append] at ej
        subst ej
        obtain ⟨g, cap3, rfl, y1, y2, yg, yb, yc, yd, yst⟩ := Ow_last hO
        rw [put_snoc] at HSN
        rw [List.length_append, List.length_singleton] at hpl2
        have HO := mkH hO
        have HST := mkH yst
        clear hO yst
        have hne : ¬ g = wr.heap.size := by omega
        generalize hm : j'.length = m at *
        have t0 : (0 : Int) ≤ (m : Int) := by omega
        have t1 : (m : Int) < ((m + 1 : Nat) : Int) := by omega
        have tf : decide ((m : Int) < 0) = false := by rw [decide_eq_false_iff_not]; omega
        have z1 : ∀ n, ((wr.alloc (.cells #[.int .i64 a, .int .i64 b] 29)).drewN n).cell? ⟨g, m * 2 + 1, none⟩ = some (.int .i64 d) := fun n => by
          rw [World.cell?_drewN, World.cell?_alloc_lt _ _ _ yg]; exact y1
        by_cases hq : d < a
        · go_wp2_with fail
          go_quiet (fail)
          obtain ⟨hO1, hX1, kb⟩ := after_box (a := a) (b := b) nq HO.out HX.out
          have hsz1 : wr.heap.size < ((wr.alloc (.cells #[.int .i64 a, .int .i64 b] 29)).drewN nq).heap.size := kb.lt
          have c0 := kb.c0
          have c1 := kb.c1
          clear HO HX kb z1 y1 y2 HST tf t0 t1
          generalize ((wr.alloc (.cells #[.int .i64 a, .int .i64 b] 29)).drewN nq) = wz at *
          have hO2 := hO1.below ((Below.refl _ wz).alloc (Nat.le_refl _) (.cells #[.int .i64 a, .int .i64 b] 29))
          have hX2 := hX1.alloc hX1.size (.cells #[.int .i64 a, .int .i64 b] 29)
          have hsz2 := hX1.size
          have HX2 := mkH hX2
          have HO2 := mkH hO2
          clear hO1 hX1 hO2 hX2
          go_wp2_with (at_builtin; refine (wpList_append_own_src _ rfl (.tmp 33) (.tmp 35) 35 35 rfl w2.heap.size 29 (.agg #[.int .i64 0, .int .i64 0]) 2 16 Try.underlying35 info26 rfl (by decide) _ (j' ++ [(c, d)]).length (E (j' ++ [(c, d)])) rfl HO2.out _ 1 (E [(a, b)]) rfl ?hsrc1 ?h631 ?hby1 ?hbs1 ?_))
          case hsrc1 => exact src1 wz a b
          case h631 => unfold maxLen; simp; omega
          case hby1 => simp; omega
          case hbs1 => simp; omega
          intro v3 w3 hown3 hgrow3
          have hX3 := below_own HO2.out hgrow3 HX2.out (by simp; omega)
          have hO3 : Ow w3 w2.heap.size v3 (putAll [] (s.take (k + 1))) := by
            rw [HSN.out]
            rw [if_pos (by exact hq)]
            unfold Ow
            rw [E_append, List.length_append, show (j' ++ [(c, d)]).length = m + 1 by simp [hm]]
            exact hown3
          clear hown3 hgrow3 HO2 HX2 HSN c0 c1 hsz1
          go_wp2
          go_roundw
          case rel => exact ⟨k + 1, by omega, by go_num, hO3, hX3⟩
          case measure => simp [intOf]; omega
        · go_wp2_with fail
          go_quiet (fail)
          obtain ⟨hO1, hX1, kb⟩ := after_box (a := a) (b := b) nq HO.out HX.out
          obtain ⟨g', cap', hv', y1', y2', yg', yb', yc', yd', yst'⟩ := Ow_last hO1
          rw [hm] at hv' y1' y2' yst'
          simp only [Value.slice.injEq, Option.some.injEq, Addr.mk.injEq, and_true, true_and] at hv'
          obtain ⟨rfl, rfl⟩ := hv'
          have hsz1 : wr.heap.size < ((wr.alloc (.cells #[.int .i64 a, .int .i64 b] 29)).drewN nq).heap.size := kb.lt
          have c0 := kb.c0
          have c1 := kb.c1
          clear HO HX kb z1 y1 y2 HST hO1
          generalize ((wr.alloc (.cells #[.int .i64 a, .int .i64 b] 29)).drewN nq) = wz at *
          obtain ⟨hO3, hg3⟩ := yst' (max d b)
          have hX3 := mkH (hX1.grown hg3 hX1.size (fun k hk => by injection hk with hk; omega))
          have HO3 := mkH hO3
          clear yst' hO3 hg3 hX1
          go_wp2_with fail
          go_region
          have hO4 := HO3.out.below (Below.refl _ (wz.setCell ⟨g, m * 2 + 1, none⟩ (.int .i64 (max d b)))).drew
          have hX4 := hX3.out.drew
          have hO5 := hO4
          rw [show j' ++ [(c, max d b)] = putAll [] (s.take (k + 1)) by rw [HSN.out, if_neg (show ¬ d < a by omega)]] at hO5
          clear HO3 hX3 hO4 HSN y1' y2' c0 c1 hsz1 tf t0 t1
          generalize (wz.setCell ⟨g, m * 2 + 1, none⟩ (.int .i64 (max d b))).drew = wy at *
          go_wp2
          go_roundw
          case rel => exact ⟨k + 1, by omega, by go_num, hO5, hX4⟩
          case measure => simp [intOf]; omega
    · have : k = s.length := by omega
      subst this
      rw [List.take_length, HJ2.out] at hO
      go_wp2
      go_ret
      exact ⟨_, rfl, Pc.Ow.mono hO hb2.out.size, hb2.out.trans (hX.mono hb2.out.size)⟩
end Go.Proofs.Ytabckkepkennhaa.Pj
