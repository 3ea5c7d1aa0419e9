/-
  chart.Dump.
-/
import Derived.Test.YtcpmcfagibmboabGreatChT
namespace Go.Proofs.YtcpmcfagibmboabGreat.Cu
open Go.RowKit Pl Pw Pr Pf Pv Cp Ca Cb Cc Cd Ce Cf Gf Gk Wr Ct
open Cr hiding some_of
open Kt hiding mkH
open Kv
set_option linter.unusedVariables false
set_option linter.unusedSimpArgs false
set_option maxRecDepth 20000

theorem info3 : (Tryz.prog.info? 3).map (fun i => (i.zero, i.size, i.bytes)) = some (some (.int .i64 0), 1, 8) := by kernel_rfl
def J (l : List Int) : List Value := l.map (Value.int .i64)
theorem J_length (l : List Int) : (J l).length = l.length := by simp [J]
theorem J_append (a b : List Int) : J (a ++ b) = J a ++ J b := by simp [J]
/-- The numbers of a piece, of a chart. -/
def n3 (x : Pc) : List Int := [x.1, x.2.1, x.2.2]
def nums (e : Int) (n : Nat) (l : List Pc) : List Int := e :: (n : Int) :: l.flatMap n3
theorem nums_len (e : Int) (n : Nat) (l : List Pc) : (nums e n l).length = 2 + 3 * l.length := by
  have : (l.flatMap n3).length = 3 * l.length := by
    induction l with
    | nil => rfl
    | cons x l ih => simp only [List.flatMap_cons, List.length_append, List.length_cons, ih, n3, List.length_nil]; omega
  simp only [nums, List.length_cons, this]; omega
theorem nums_snoc (e : Int) (n : Nat) (l : List Pc) (x : Pc) : nums e n (l ++ [x]) = nums e n l ++ n3 x := by simp [nums]
/-- An owned row of numbers may be read. -/
theorem RowI.own {w : World} {base n : Nat} {ao : Option Addr} {cap : Nat} {l : List Int} (h : w.ownsRow base 3 1 (.slice ao n cap) n (J l)) : n = l.length ∧ RowI w ao l := by
  have hn : n = l.length := by have := h.1; rw [J_length] at this; omega
  subst hn
  refine ⟨rfl, fun hl => ?_⟩
  rcases h.2 with ⟨e1, e2⟩ | ⟨g, c, cur, e1, _, hg, _, _, _, ht⟩
  · omega
  · simp only [Value.slice.injEq] at e1
    obtain ⟨rfl, _, rfl⟩ := e1
    refine ⟨g, 0, rfl, fun i hi => ?_⟩
    have := World.ownsRow.cellAt h i (by omega)
    rw [Nat.zero_add, this]
    simp [J, List.getD, List.getElem?_eq_getElem hi]
theorem J_get (l : List Int) (j : Nat) (u : Value) (h : (J l)[j]? = some u) : j < l.length ∧ u = .int .i64 (l.getD j 0) := by
  unfold J at h
  rw [List.getElem?_map] at h
  obtain ⟨x, hx, rfl⟩ := Option.map_eq_some_iff.1 h
  obtain ⟨hj, rfl⟩ := List.getElem?_eq_some_iff.1 hx
  exact ⟨hj, by simp [List.getD, hj]⟩
theorem J_one (l : List Int) : ∀ u ∈ J l, u.oneCell' = true := by
  intro u hu
  simp only [J, List.mem_map] at hu
  obtain ⟨x, _, rfl⟩ := hu
  rfl
theorem RowI.src {w : World} {ao : Option Addr} {l : List Int} (h : RowI w ao l) (c : Nat) : Src Tryz.prog 1 74 (.slice ao l.length c) l.length (J l) w := by
  by_cases h0 : 0 < l.length
  · obtain ⟨b, off, rfl, hc⟩ := h h0
    refine Src.ofSlice w Tryz.underlying74 _ _ c _ (by simp [J]) (fun j u hj => ?_) (J_one l)
    obtain ⟨hl, rfl⟩ := J_get l j u hj
    have : (⟨b, off, none⟩ : Addr).add j = ⟨b, off + j, none⟩ := by unfold Addr.add; split <;> simp_all
    rw [this]; exact hc j hl
  · have e : l = [] := List.eq_nil_of_length_eq_zero (by omega)
    subst e
    cases ao with
    | none => exact Src.ofNil w Tryz.underlying74 c
    | some a => exact Src.ofSlice w Tryz.underlying74 a 0 c [] (by simp) (fun j u hj => by simp at hj) (fun u hu => by cases hu)
theorem own3 (w : World) (a b c : Int) : (w.alloc (.cells #[.int .i64 a, .int .i64 b, .int .i64 c] 3)).ownsRow w.heap.size 3 1 (.slice (some ⟨w.heap.size, 0, none⟩) 3 3) 3 (J [a, b, c]) :=
  ⟨rfl, .inr ⟨w.heap.size, 3, _, rfl, Nat.le_refl _, heap_alloc_new w _, Nat.le_refl _, by decide, rfl, rfl⟩⟩
theorem src3 (W : World) (o : Obj) (a b c : Int) : Src Tryz.prog 1 74 (.slice (some ⟨W.heap.size + 1, 0, none⟩) 3 3) 3 (J [a, b, c]) ((W.alloc o).alloc (.cells #[.int .i64 a, .int .i64 b, .int .i64 c] 3)) := by
  have h := RowI.src (RowI.own (own3 (W.alloc o) a b c)).2 3
  rw [show (W.alloc o).heap.size = W.heap.size + 1 by simp] at h
  exact h
/-- All numbers of a chart that may be can be written. -/
theorem nums_ok {e : Int} {l : List Pc} (h : mayC e l = true) (hl : l.length ≤ 100000) : ∀ x ∈ nums e l.length l, okN x := by
  obtain ⟨h1, h2⟩ := (mayC_iff _ _).1 h
  have key : ∀ (l : List Pc) (a s : Int), 0 ≤ a → Gd a s l 65536 → ∀ x ∈ l.flatMap n3, okN x := by
    intro l
    induction l with
    | nil => intro a s _ _ x hx; simp at hx
    | cons y l ih =>
      intro a s ha hg x hx
      obtain ⟨g1, g2, g3, g4, g5⟩ := hg
      have hle := gd_le _ _ _ _ g5
      simp only [List.flatMap_cons, List.mem_append, n3, List.mem_cons, List.not_mem_nil, or_false] at hx
      rcases hx with (rfl | rfl | rfl) | hx
      · exact ⟨by omega, by omega⟩
      · exact ⟨by omega, by omega⟩
      · exact ⟨by omega, by omega⟩
      · exact ih y.2.1 y.2.2 (by omega) g5 x hx
  intro x hx
  simp only [nums, List.mem_cons] at hx
  rcases hx with rfl | rfl | hx
  · exact ⟨by omega, by omega⟩
  · exact ⟨by omega, by omega⟩
  · exact key l 0 0 (by omega) h2 x hx

theorem own2 (w : World) (a b : Int) : (w.alloc (.cells #[.int .i64 a, .int .i64 b] 3)).ownsRow w.heap.size 3 1 (.slice (some ⟨w.heap.size, 0, none⟩) 2 2) 2 [.int .i64 a, .int .i64 b] :=
  ⟨rfl, .inr ⟨w.heap.size, 2, _, rfl, Nat.le_refl _, heap_alloc_new w _, Nat.le_refl _, by decide, rfl, rfl⟩⟩

/-- What Dump answers. -/
noncomputable def dmpV (e : Int) (l : List Pc) : Value := if mayC e l = true then .tuple #[.string (S (txt (nums e l.length l))), .int .i64 0] else .tuple #[.string (S []), .int .i64 2]
theorem dmpV_may {e : Int} {l : List Pc} (h : mayC e l = true) : dmpV e l = .tuple #[.string (S (txt (nums e l.length l))), .int .i64 0] := if_pos h
theorem dmpV_not {e : Int} {l : List Pc} (h : mayC e l = false) : dmpV e l = .tuple #[.string (S []), .int .i64 2] := if_neg (by rw [h]; decide)

set_option maxHeartbeats 1000000 in
theorem dump_any (w : World) (e : Int) (ao : Option Addr) (cap : Nat) (l : List Pc) (h : RdP w ao cap l) (hl : l.length ≤ 30000) :
    Calls Tryz.prog 23 #[.agg #[.int .i64 e, .slice ao l.length cap]] w fun x w' =>
      x = .returned (dmpV e l) ∧ Below w.heap.size w w' := by
  obtain ⟨W1, hW1⟩ : ∃ W1, W1 = w.alloc (.cells #[.int .i64 e, .slice ao l.length cap] 51) := ⟨_, rfl⟩
  have b0 : Bx W1 w.heap.size #[.int .i64 e, .slice ao l.length cap] 51 := by rw [hW1]; exact Bx.new w _ _
  have hB : Below w.heap.size w W1 := by rw [hW1]; exact (Below.refl _ w).alloc (Nat.le_refl _) _
  have hz : W1.heap.size = w.heap.size + 1 := by rw [hW1]; simp
  obtain ⟨c0, c1, -, -⟩ := two_load (P := Tryz.prog) b0
  have HM := mkH (may_any W1 e ao cap l (h.below hB) (by omega))
  have HR1 := mkH (h.below hB)
  have HB0 := mkH b0
  have HBW := mkH hB
  have HW := mkH hW1
  have H0 := mkH h
  clear b0 hB hW1 h
  go_enter Tryz.func23, Tryz.ntmps23
  go_wp2_with fail
  rw [show w.alloc (.cells #[.int .i64 e, .slice ao l.length cap] 51) = W1 from HW.out.symm]
  clear HW
  refine HM.out.mono ?_
  rintro x w2 ⟨rfl, hb2⟩
  have HX := mkH (HB0.out.bel hb2)
  have HR := mkH (HR1.out.below hb2)
  have HB := mkH (HBW.out.trans (hb2.mono HBW.out.size))
  have hz2 : w.heap.size + 1 ≤ w2.heap.size := by have := hb2.size; omega
  clear hb2 HB0 HR1 HBW HM c0 c1 hz
  clear W1
  obtain ⟨c0, c1, -, -⟩ := two_load (P := Tryz.prog) HX.out
  cases hm : mayC e l with
  | false =>
    have HMM := mkH hm
    clear hm
    go_wp2
    go_ret2
    exact ⟨by rw [dmpV_not HMM.out]; rfl, HB.out⟩
  | true =>
    have HOK := mkH (nums_ok hm (by omega))
    have HMM := mkH hm
    clear hm
    have HB1 := mkH (HB.out.alloc (by omega) (.cells #[.int .i64 e, .int .i64 (l.length : Int)] 3))
    have HO1 := mkH (own_mono (own2 w2 e l.length) (show w.heap.size ≤ w2.heap.size by omega))
    clear HR HB
    have HX1 := mkH (HX.out.bel ((Below.refl _ w2).alloc (Nat.le_refl _) (.cells #[.int .i64 e, .int .i64 (l.length : Int)] 3)))
    obtain ⟨d0, d1, -, -⟩ := two_load (P := Tryz.prog) HX1.out
    go_wp2_with fail
    clear c0 c1 d0 d1 HX HX1
    go_loopw [4, 19] (fun v ct wr => ∃ k : Nat, k ≤ l.length ∧ ct = .int .i64 k ∧ Hid (wr.ownsRow w.heap.size 3 1 v (nums e l.length (l.take k)).length (J (nums e l.length (l.take k)))) ∧ Hid (Below w.heap.size w wr))
      (fun _ ct _ => l.length - (intOf ct).toNat)
    case atStart => exact ⟨0, Nat.zero_le _, rfl, HO1, HB1⟩
    case round =>
      obtain ⟨k, hk, rfl, HO, HBR⟩ := hrel
      have htl : (nums e l.length (l.take k)).length = 2 + 3 * (l.take k).length := nums_len _ _ _
      have htl2 : (l.take k).length = k := by rw [List.length_take]; omega
      have hsz := HBR.out.size
      by_cases hlt : k < l.length
      · obtain ⟨z, hz⟩ := Cr.some_of hlt
        obtain ⟨b, o, e1, d0, d1, d2⟩ := atP (H0.out.below HBR.out).r hz
        subst e1
        have hji : (k : Int) < (l.length : Int) := by omega
        have hji0 : (0 : Int) ≤ (k : Int) := by omega
        have HN : Hid (nums e l.length (l.take (k + 1)) = nums e l.length (l.take k) ++ n3 z) := mkH (by rw [List.take_add_one, hz, Option.toList_some, nums_snoc])
        have hal : Below wr.heap.size wr ((wr.alloc (.cells #[.int .i64 z.1, .int .i64 z.2.1, .int .i64 z.2.2] 87)).alloc (.cells #[.int .i64 z.1, .int .i64 z.2.1, .int .i64 z.2.2] 3)) := ((Below.refl wr.heap.size wr).alloc (Nat.le_refl _) _).alloc (by simp) _
        have HO2 := mkH (own_below HO.out hal)
        have HB2 := mkH (HBR.out.trans (hal.mono hsz))
        have hsz2 := hal.size
        clear hz HO HBR hal HO1 HB1
        generalize hL : nums e l.length (l.take k) = L at HO2 HN htl
        clear hL
        go_wp2_with (at_builtin; refine (wpList_append_own_src _ rfl (.tmp 23) (.tmp 32) 74 74 rfl w.heap.size 3 (.int .i64 0) 1 8 Tryz.underlying74 info3 rfl (by decide) _ L.length (J L) rfl HO2.out _ 3 (J (n3 z)) rfl ?hsrc ?h63 ?hby ?hbs ?_))
        case hsrc => exact src3 wr _ z.1 z.2.1 z.2.2
        case h63 => unfold maxLen; omega
        case hby => omega
        case hbs => simp; omega
        intro v2 w5 hown5 hgrow5
        have HB3 := mkH (below_own HO2.out hgrow5 HB2.out (by simp; omega))
        have HO3 : Hid (w5.ownsRow w.heap.size 3 1 v2 (nums e l.length (l.take (k + 1))).length (J (nums e l.length (l.take (k + 1))))) := mkH (by rw [HN.out, J_append, List.length_append, htl, htl2]; exact hown5)
        clear hown5 hgrow5 HO2 HB2 HN d0 d1 d2
        go_wp2
        go_roundw
        case rel => exact ⟨k + 1, by omega, by go_num, HO3, HB3⟩
        case measure => simp [intOf]; omega
      · obtain rfl : k = l.length := by omega
        rw [List.take_length] at HO
        obtain ⟨a3, c3, rfl⟩ := own_form HO.out
        have hri := (RowI.own HO.out).2
        have HT := textOf_any wr a3 c3 (nums e l.length l) hri HOK.out (by rw [nums_len]; omega)
        clear hri HO
        go_wp2_with fail
        refine HT.mono ?_
        rintro x w6 ⟨rfl, hb6⟩
        clear HT
        go_wp2
        go_ret2
        exact ⟨by rw [dmpV_may HMM.out]; rfl, HBR.out.trans (hb6.mono hsz)⟩
end Go.Proofs.YtcpmcfagibmboabGreat.Cu
