/-
  The document's Move of a chart. Written by gen_chj.py.
-/
import Derived.Test.YtcpmcfagibmboaaChI
import Derived.Test.YtcpmcfagibmboaaChQ
import Derived.Test.YtcpmcfagibmboaaPlN
import Derived.Test.YtcpmcfagibmboaaRgG
namespace Go.Proofs.Ytcpmcfagibmboaa.Cj
open Go.RowKit Pl Pw Pr Pf Pv Pq Pn Cp Ca Cb Cc Cd Ce Cf Cg Ch Ci Cq Gf Gk
open Cr hiding some_of
open Kt hiding mkH
open Kv
set_option linter.unusedVariables false
set_option linter.unusedSimpArgs false
set_option maxRecDepth 20000

theorem rmay_gr (w : World) (lo hi : Int) : Calls Try.prog 31 #[.agg #[.int .i64 lo, .int .i64 hi]] w fun e w' => e = .returned (.bool (may (lo, hi))) ∧ Gr w w' :=
  (Pw.rmay_any w lo hi).mono fun _ _ ⟨he, hw⟩ => ⟨he, hw ▸ (Gr.refl w).alloc _⟩
theorem Ow_one (w : World) (a b : Int) : Ow (w.alloc (.cells #[.int .i64 a, .int .i64 b] 26)) w.heap.size (.slice (some ⟨w.heap.size, 0, none⟩) 1 1) [(a, b)] :=
  ⟨rfl, .inr ⟨w.heap.size, 1, _, rfl, Nat.le_refl _, heap_alloc_new w _, Nat.le_refl _, by decide, rfl, rfl⟩⟩
/-- An owned row that has a last one: its shard, and its Hi stored anew. -/
theorem last_set {w : World} {B : Nat} {v : Value} {M : List Pc} {x : Pc} (h : w.ownsRow B 63 3 v (M ++ [x]).length (Fp (M ++ [x]))) :
    ∃ g cap, v = .slice (some ⟨g, 0, none⟩) (M.length + 1) cap ∧ w.cell? ⟨g, M.length * 3 + 2, none⟩ = some (.int .i64 x.2.2) ∧ w.cell? ⟨g, M.length * 3 + 1, none⟩ = some (.int .i64 x.2.1) ∧ w.frozen? ⟨g, M.length * 3 + 1, none⟩ = false ∧ g < w.heap.size ∧ B ≤ g ∧ M.length + 1 ≤ cap ∧ cap ≤ 9223372036854775807 ∧
      ∀ e, (w.setCell ⟨g, M.length * 3 + 1, none⟩ (.int .i64 e)).ownsRow B 63 3 v (M ++ [(x.1, e, x.2.2)]).length (Fp (M ++ [(x.1, e, x.2.2)])) ∧ w.grownBy (w.setCell ⟨g, M.length * 3 + 1, none⟩ (.int .i64 e)) (some g) := by
  have hlen : ∀ y : Pc, (M ++ [y]).length = M.length + 1 := fun y => by simp
  rw [hlen] at h
  rcases h.2 with ⟨e1, e2⟩ | ⟨g, cap, cur, rfl, hbg, hg, hnc, hcm, hcs, ht⟩
  · omega
  · have hgl : g < w.heap.size := (Array.getElem?_eq_some_iff.1 hg).1
    have hat := Fl_at pC_len (M ++ [x]) M.length x (by simp)
    have h1 := World.ownsRow.cellAt h (M.length * 3 + 1) (by omega)
    have h2 := World.ownsRow.cellAt h (M.length * 3 + 2) (by omega)
    rw [hat 1 (by omega)] at h1
    rw [hat 2 (by omega)] at h2
    refine ⟨g, cap, rfl, h2, h1, by simp [World.frozen?, hg], hgl, hbg, hnc, by unfold maxLen at hcm; omega, fun e => ?_⟩
    obtain ⟨h3, h4⟩ := h.stored (M.length * 3 + 1) (.int .i64 e)
    refine ⟨?_, h4⟩
    rw [hlen]
    have e2 : (Fp (M ++ [x])).set (M.length * 3 + 1) (.int .i64 e) = Fp (M ++ [(x.1, e, x.2.2)]) := by
      show (Fl pC (M ++ [x])).set _ _ = Fl pC (M ++ [(x.1, e, x.2.2)])
      rw [Fl_append, Fl_append]
      have : (Fl pC M).length = M.length * 3 := Fl_length pC_len M
      rw [List.set_append_right _ _ (by omega), this, show M.length * 3 + 1 - M.length * 3 = 1 by omega]
      rfl
    rw [e2] at h3
    exact h3
theorem rga_len (ps : List Pc) (r : Rg) (tg : Int) (b : List Int) (k : Nat) : (rga ps r tg b k).length ≤ k := by
  induction k with
  | zero => exact Nat.le_refl _
  | succ k ih =>
    have := pu_len (rga ps r tg b k) (b.getD k 0, b.getD (k + 1) 0) (tgt ps r tg (b.getD k 0))
    show (pu _ _ _).length ≤ _
    omega

set_option maxHeartbeats 8000000 in
theorem rmove_any (w : World) (e : Int) (ao : Option Addr) (cap : Nat) (ps : List Pc) (h : RdP w ao cap ps) (hl : ps.length ≤ 900) (r1 r2 tg : Int) :
    Calls Try.prog 9 #[.agg #[.int .i64 e, .slice ao ps.length cap], .agg #[.int .i64 r1, .int .i64 r2], .int .i64 tg] w (Cf.ChP w (mvE e ps (r1, r2) tg)) := by
  obtain ⟨q, hq⟩ : ∃ q, q = mvE e ps (r1, r2) tg := ⟨_, rfl⟩
  rw [← hq]
  have HQ := mkH hq
  clear hq
  obtain ⟨W3, hW3⟩ : ∃ W3, W3 = ((w.alloc (.cells #[.int .i64 e, .slice ao ps.length cap] 24)).alloc (.cells #[.int .i64 r1, .int .i64 r2] 26)).alloc (.cells #[.int .i64 0, .slice none 0 0] 24) := ⟨_, rfl⟩
  have b0 : Bx W3 w.heap.size #[.int .i64 e, .slice ao ps.length cap] 24 := by rw [hW3]; exact ((Bx.new w _ _).alloc _).alloc _
  have b1 : Bx W3 (w.heap.size + 1) #[.int .i64 r1, .int .i64 r2] 26 := by rw [hW3]; exact (Bx.new1 w _ _ _).alloc _
  have b2 : Bx W3 (w.heap.size + 2) #[.int .i64 0, .slice none 0 0] 24 := by rw [hW3]; exact Bx.new2 w _ _ _ _
  have hB : Below w.heap.size w W3 := by rw [hW3]; exact (((Below.refl _ w).alloc (Nat.le_refl _) _).alloc (by simp) _).alloc (by simp; omega) _
  have hz : W3.heap.size = w.heap.size + 3 := by rw [hW3]; simp
  have HR := mkH (h.below hB)
  have HM := mkH (Ci.rmay_any W3 e ao cap ps HR.out (by omega))
  obtain ⟨c0, c1, -, -⟩ := two_load (P := Try.prog) b0
  obtain ⟨d0, d1, -, -⟩ := two_load (P := Try.prog) b1
  obtain ⟨g0, g1, g2, g3⟩ := two_load (P := Try.prog) b2
  have HB0 := mkH b0
  have HB1 := mkH b1
  have HB2 := mkH b2
  have HBW := mkH hB
  have HZ := mkH hz
  have HW := mkH hW3
  clear b0 b1 b2 hB hz hW3 h
  go_enter Try.func9, Try.ntmps9
  go_wp2_with fail
  simp only [show w.heap.size + 1 + 1 = w.heap.size + 2 from rfl]
  rw [show ((w.alloc (.cells #[.int .i64 e, .slice ao ps.length cap] 24)).alloc (.cells #[.int .i64 r1, .int .i64 r2] 26)).alloc (.cells #[.int .i64 0, .slice none 0 0] 24) = W3 from HW.out.symm]
  clear HW
  refine HM.out.mono ?_
  rintro x w4 ⟨rfl, hb4⟩
  have C0 := mkH (HB0.out.bel hb4)
  have C1 := mkH (HB1.out.bel hb4)
  have C2 := mkH (HB2.out.bel hb4)
  have HBW4 := mkH (HBW.out.trans (hb4.mono HBW.out.size))
  have HR4 := mkH (HR.out.below hb4)
  have hz4 : w.heap.size + 3 ≤ w4.heap.size := by have := hb4.size; have := HZ.out; omega
  clear hb4 HM HB0 HB1 HB2 HBW HZ HR c0 c1 d0 d1 g0 g1 g2 g3
  clear W3
  obtain ⟨c0, c1, -, -⟩ := two_load (P := Try.prog) C0.out
  obtain ⟨d0, d1, -, -⟩ := two_load (P := Try.prog) C1.out
  obtain ⟨g0, g1, g2, g3⟩ := two_load (P := Try.prog) C2.out
  cases hm : mayC e ps with
  | false =>
    have HMM := mkH hm
    clear hm
    have HE : Hid (q = (0, [], 2)) := mkH (by rw [HQ.out]; unfold mvE; rw [if_neg]; rw [HMM.out]; rintro ⟨h, -⟩; cases h)
    have k := C2.out.set 0 (.int .i64 0)
    have k2 := k.set 1 (.slice none 0 0)
    obtain ⟨y0, y1, -, -⟩ := two_load (P := Try.prog) k2
    have HBF := mkH ((HBW4.out.setCell (p := ⟨w.heap.size + 2, 0, none⟩) (by simp) (.int .i64 0)).setCell (p := ⟨w.heap.size + 2, 1, none⟩) (by simp) (.slice none 0 0))
    clear k k2 HQ
    go_wp2
    rw [HE.out]
    exact bodyPost_ret (v := .tuple #[.agg #[.int .i64 0, .slice none 0 0], .int .i64 2]) (res_ct rfl _ _ _ (x := .agg #[.int .i64 0, .slice none 0 0]) (y := .int .i64 2) (b := ⟨w.heap.size + 2, 0, none⟩) (by rfl) (by rfl) (by simp [loadVar, go_sem, y0, y1])) rfl (chP_zero 2 HBF.out)
  | true =>
    have HM := mkH hm
    have hr := fun W => rmay_gr W r1 r2
    clear hm
    cases hmr : may (r1, r2) with
    | false =>
      rw [hmr] at hr
      have HMR := mkH hmr
      clear hmr
      go_wp2_with fail
      refine (hr _).mono ?_
      rintro x w5 ⟨rfl, hg5⟩
      have D2 := mkH (C2.out.bel hg5.below)
      have HBW5 := mkH (HBW4.out.trans (hg5.below.mono (by omega)))
      obtain ⟨q0, q1, q2, q3⟩ := two_load (P := Try.prog) D2.out
      clear hg5 g0 g1 g2 g3 hr
      have HE : Hid (q = (0, [], 2)) := mkH (by rw [HQ.out]; unfold mvE; rw [if_neg]; rw [HMR.out]; rintro ⟨_, h, _⟩; cases h)
      have k := D2.out.set 0 (.int .i64 0)
      have k2 := k.set 1 (.slice none 0 0)
      obtain ⟨y0, y1, -, -⟩ := two_load (P := Try.prog) k2
      have HBF := mkH ((HBW5.out.setCell (p := ⟨w.heap.size + 2, 0, none⟩) (by simp) (.int .i64 0)).setCell (p := ⟨w.heap.size + 2, 1, none⟩) (by simp) (.slice none 0 0))
      clear k k2 HQ
      go_wp2
      rw [HE.out]
      exact bodyPost_ret (v := .tuple #[.agg #[.int .i64 0, .slice none 0 0], .int .i64 2]) (res_ct rfl _ _ _ (x := .agg #[.int .i64 0, .slice none 0 0]) (y := .int .i64 2) (b := ⟨w.heap.size + 2, 0, none⟩) (by rfl) (by rfl) (by simp [loadVar, go_sem, y0, y1])) rfl (chP_zero 2 HBF.out)
    | true =>
      rw [hmr] at hr
      have HMR := mkH hmr
      clear hmr
      go_wp2_with fail
      refine (hr _).mono ?_
      rintro x w5 ⟨rfl, hg5⟩
      have D0 := mkH (C0.out.bel hg5.below)
      have D1 := mkH (C1.out.bel hg5.below)
      have D2 := mkH (C2.out.bel hg5.below)
      have HR5 := mkH (HR4.out.below hg5.below)
      have HBW5 := mkH (HBW4.out.trans (hg5.below.mono (by omega)))
      have hz5 : w.heap.size + 3 ≤ w5.heap.size := by have := hg5.below.size; omega
      clear hg5 g0 g1 g2 g3 hr c0 c1 d0 d1 C0 C1 C2 HR4 HBW4 hz4
      obtain ⟨q0, q1, q2, q3⟩ := two_load (P := Try.prog) D2.out
      by_cases ht1 : tg < 1
      · have HMS : Hid (isSh tg = false) := mkH (by rw [← Bool.not_eq_true, isSh_iff]; omega)
        have HE : Hid (q = (0, [], 2)) := mkH (by rw [HQ.out]; unfold mvE; rw [if_neg]; rw [HMS.out]; rintro ⟨_, _, h⟩; cases h)
        have k := D2.out.set 0 (.int .i64 0)
        have k2 := k.set 1 (.slice none 0 0)
        obtain ⟨y0, y1, -, -⟩ := two_load (P := Try.prog) k2
        have HBF := mkH ((HBW5.out.setCell (p := ⟨w.heap.size + 2, 0, none⟩) (by simp) (.int .i64 0)).setCell (p := ⟨w.heap.size + 2, 1, none⟩) (by simp) (.slice none 0 0))
        clear k k2 HQ
        go_wp2
        rw [HE.out]
        exact bodyPost_ret (v := .tuple #[.agg #[.int .i64 0, .slice none 0 0], .int .i64 2]) (res_ct rfl _ _ _ (x := .agg #[.int .i64 0, .slice none 0 0]) (y := .int .i64 2) (b := ⟨w.heap.size + 2, 0, none⟩) (by rfl) (by rfl) (by simp [loadVar, go_sem, y0, y1])) rfl (chP_zero 2 HBF.out)
      · by_cases ht2 : 6 < tg
        · have HMS : Hid (isSh tg = false) := mkH (by rw [← Bool.not_eq_true, isSh_iff]; omega)
          have HE : Hid (q = (0, [], 2)) := mkH (by rw [HQ.out]; unfold mvE; rw [if_neg]; rw [HMS.out]; rintro ⟨_, _, h⟩; cases h)
          have k := D2.out.set 0 (.int .i64 0)
          have k2 := k.set 1 (.slice none 0 0)
          obtain ⟨y0, y1, -, -⟩ := two_load (P := Try.prog) k2
          have HBF := mkH ((HBW5.out.setCell (p := ⟨w.heap.size + 2, 0, none⟩) (by simp) (.int .i64 0)).setCell (p := ⟨w.heap.size + 2, 1, none⟩) (by simp) (.slice none 0 0))
          clear k k2 HQ
          go_wp2
          rw [HE.out]
          exact bodyPost_ret (v := .tuple #[.agg #[.int .i64 0, .slice none 0 0], .int .i64 2]) (res_ct rfl _ _ _ (x := .agg #[.int .i64 0, .slice none 0 0]) (y := .int .i64 2) (b := ⟨w.heap.size + 2, 0, none⟩) (by rfl) (by rfl) (by simp [loadVar, go_sem, y0, y1])) rfl (chP_zero 2 HBF.out)
        · have htg : 1 ≤ tg ∧ tg ≤ 6 := by omega
          have HMS : Hid (isSh tg = true) := mkH ((isSh_iff tg).2 htg)
          have hgd := ((mayC_iff _ _).1 HM.out).2
          have he := ((mayC_iff _ _).1 HM.out).1
          clear q0 q1 q2 q3 w4
          obtain ⟨c0, c1, -, -⟩ := two_load (P := Try.prog) D0.out
          obtain ⟨d0, d1, -, -⟩ := two_load (P := Try.prog) D1.out
          go_wp2_with fail
          have hW6 : Below w5.heap.size w5 (w5.alloc (.cells #[.int .i64 r1, .int .i64 r2] 26)) := (Below.refl _ w5).alloc (Nat.le_refl _) _
          have HOW := mkH (Ow_one w5 r1 r2)
          have HW6 := mkH hW6
          clear hW6
          go_loopw [8, 9] (fun u i wr => ∃ j : Nat, j ≤ ps.length ∧ i = .int .i64 j ∧ Hid (Ow wr w5.heap.size u ((r1, r2) :: (ps.take j).map rg)) ∧ Hid (Below w5.heap.size w5 wr)) (fun _ i _ => ps.length - (intOf i).toNat)
          case atStart => exact ⟨0, Nat.zero_le _, rfl, HOW, HW6⟩
          case round =>
            obtain ⟨j, hj, rfl, HO, HB⟩ := hrel
            have F0 := mkH (D0.out.bel HB.out)
            obtain ⟨x0, x1, -, -⟩ := two_load (P := Try.prog) F0.out
            by_cases hlt : j < ps.length
            · obtain ⟨x, hx⟩ := Cr.some_of hlt
              obtain ⟨b, o, e1, a0, a1, a2⟩ := atP (HR5.out.r.below HB.out) hx
              subst e1
              have hi : (j : Int) < (ps.length : Int) := by omega
              have hi0 : (0 : Int) ≤ (j : Int) := by omega
              have HN : Hid ((r1, r2) :: (ps.take (j + 1)).map rg = ((r1, r2) :: (ps.take j).map rg) ++ [rg x]) := mkH (by rw [List.take_add_one, hx, List.map_append]; rfl)
              have hlk : ((r1, r2) :: (ps.take j).map rg).length ≤ j + 1 := by rw [List.length_cons, List.length_map, List.length_take]; omega
              clear hx
              have HO2 := mkH (HO.out.below ((Below.refl wr.heap.size wr).alloc (Nat.le_refl _) (.cells #[.int .i64 x.1, .int .i64 x.2.1] 26)))
              have HB2 := mkH (HB.out.alloc HB.out.size (.cells #[.int .i64 x.1, .int .i64 x.2.1] 26))
              have HS := HB.out.size
              clear HO HB F0
              generalize (r1, r2) :: (ps.take j).map rg = L at HO2 HN hlk
              go_wp2_with (at_builtin; refine (wpList_append_own_src _ rfl (.tmp 43) (.tmp 50) 61 61 rfl w5.heap.size 26 (.agg #[.int .i64 0, .int .i64 0]) 2 16 Try.underlying61 info26 rfl (by decide) _ L.length (E L) rfl HO2.out _ 1 (E [rg x]) rfl ?hsrc ?h63 ?hby ?hbs ?_))
              case hsrc => exact Pj.src1 wr x.1 x.2.1
              case h63 => unfold maxLen; omega
              case hby => omega
              case hbs => simp; omega
              intro v2 w2 hown2 hgrow2
              have HB3 := mkH (below_own HO2.out hgrow2 HB2.out (by simp; omega))
              have HO3 : Hid (Ow w2 w5.heap.size v2 ((r1, r2) :: (ps.take (j + 1)).map rg)) := mkH (by rw [HN.out]; unfold Ow; rw [E_append, List.length_append]; exact hown2)
              clear hown2 hgrow2 HO2 HB2 HN a0 a1 a2 x0 x1
              go_wp2
              go_roundw
              case rel => exact ⟨j + 1, by omega, by go_num, HO3, HB3⟩
              case measure => simp [intOf]; omega
            · have : j = ps.length := by omega
              subst this
              rw [List.take_length] at HO
              obtain ⟨aR, kR, eR, hnR, hcR⟩ := HO.out.form
              rw [eR] at HO
              have hR := HO.out.rw
              have hlr : ((r1, r2) :: ps.map rg).length = ps.length + 1 := by rw [List.length_cons, List.length_map]
              rw [hlr] at eR
              subst eR
              have HBD := bounds_any wr aR kR ((r1, r2) :: ps.map rg) hR (by rw [hlr]; omega)
              rw [hlr] at HBD
              have HBN := mkH HBD
              have hbl := bounds_len ((r1, r2) :: ps.map rg)
              rw [hlr] at hbl
              have HIB := mkH (isB_bounds ((r1, r2) :: ps.map rg))
              have HRE := mkH (rga_end HIB.out hgd HMR.out htg)
              have HCE := mkH (chg_end HIB.out hgd HMR.out htg)
              have HRI := mkH (rga_inv HIB.out hgd HMR.out htg)
              have HLA := mkH (last_at HIB.out hgd)
              clear HBD hR HO hlr hnR hcR
              generalize bounds ((r1, r2) :: ps.map rg) = bn at *
              go_wp2_with fail
              refine HBN.out.mono ?_
              rintro y wB ⟨ab, cb, rfl, hRn, hbB⟩
              obtain ⟨bb, ob, rfl, hbc⟩ := hRn (by have := HLA.out.1; omega)
              have HBB := mkH (HB.out.trans (hbB.mono HB.out.size))
              have hszB : w5.heap.size ≤ wB.heap.size := HBB.out.size
              have hbbl : bb < wB.heap.size := by
                obtain ⟨z, hz⟩ := Cr.some_of (show 0 < bn.length by have := HLA.out.1; omega)
                exact World.block_lt_of_cell? _ _ (hbc 0 z hz)
              have HK : Hid (∀ W, Below wB.heap.size wB W → (Bx W w.heap.size #[.int .i64 e, .slice ao ps.length cap] 24 ∧ Bx W (w.heap.size + 1) #[.int .i64 r1, .int .i64 r2] 26 ∧ Bx W (w.heap.size + 2) #[.int .i64 0, .slice none 0 0] 24) ∧ RdP W ao cap ps ∧ (∀ i z, bn[i]? = some z → W.cell? ⟨bb, ob + i, none⟩ = some (.int .i64 z)) ∧ Below w.heap.size w W) := mkH (fun W hb => by
                have hbt : Below w5.heap.size w5 W := HBB.out.trans (hb.mono hszB)
                exact ⟨⟨D0.out.bel hbt, D1.out.bel hbt, D2.out.bel hbt⟩, HR5.out.below hbt, fun i z hz => (hb.cell (p := ⟨bb, ob + i, none⟩) hbbl).trans (hbc i z hz), HBW5.out.trans (hbt.mono HBW5.out.size)⟩)
              obtain ⟨⟨u0, -, -⟩, -, -, -⟩ := HK.out wB (Below.refl _ _)
              obtain ⟨n0, n1, -, -⟩ := two_load (P := Try.prog) u0
              have HU0 := mkH u0
              have hn2 := HLA.out.1
              clear u0 hRn hbB HBB HB HBN x0 x1 c0 c1 d0 d1 D0 D1 D2 HR5 HBW5 HOW HW6 hbc F0
              have hzn : w.heap.size + 3 ≤ wB.heap.size := by omega
              go_wp2_with fail
              have hmx : Try.prog.follows .mixedOrders = true := by kernel_rfl
              go_loopw [12, 13] (fun v i wr => ∃ (k : Nat) (aL : Option Addr) (cL : Nat) (L : List Pc), k + 1 ≤ bn.length ∧ i = .int .i64 k ∧ v = .bool (chg ps (r1, r2) tg bn k) ∧ Hid (L = rga ps (r1, r2) tg bn k) ∧ Hid (Bx wr wB.heap.size #[.int .i64 e, .slice aL L.length cL] 24) ∧ Hid (wr.ownsRow (wB.heap.size + 1) 63 3 (.slice aL L.length cL) L.length (Fp L)) ∧ Hid (Below wB.heap.size wB wr)) (fun _ i _ => bn.length - (intOf i).toNat)
              case atStart => exact ⟨0, none, 0, [], by omega, rfl, rfl, rfl, mkH (Bx.new _ _ _), mkH (World.ownsRow_nil _ _ _ _), mkH ((Below.refl _ wB).alloc (Nat.le_refl _) _)⟩
              case round =>
                obtain ⟨k, aL, cL, L, hk, rfl, rfl, HL, HX, HLN, HB⟩ := hrel
                have HKW := mkH (HK.out wr HB.out)
                have hB11 := HX.out.lt
                have hkl : k ≤ 2000 := by omega
                have hll : L.length ≤ k := by rw [HL.out]; exact rga_len _ _ _ _ _
                have hwk : IntKind.i64.wrap ((k : Int) + 1) = (k : Int) + 1 := IntWalk.i64_in _ (by omega)
                by_cases hlt : k + 1 < bn.length
                · have hx0 := getD_at (b := bn) (show k < bn.length by omega)
                  have hx1 := getD_at (b := bn) hlt
                  obtain ⟨x0, hq0⟩ := Cr.some_of (show k < bn.length by omega)
                  obtain ⟨x1, hq1⟩ := Cr.some_of hlt
                  have e0 : bn.getD k 0 = x0 := by simp [List.getD, hq0]
                  have e1 : bn.getD (k + 1) 0 = x1 := by simp [List.getD, hq1]
                  have hnx := next_bound HIB.out hlt
                  rw [e0, e1] at hnx
                  have hlow := HIB.out.low x0 (List.mem_of_getElem? hq0)
                  have hne : ((x0, x1) : Rg) ≠ (0, 0) := ne_zero_pair x0 x1 hlow.1 hnx.1
                  obtain ⟨x9, hx9⟩ : ∃ x9, x9 = tgt ps (r1, r2) tg x0 := ⟨_, rfl⟩
                  have HR9 : Hid (rga ps (r1, r2) tg bn (k + 1) = pu L (x0, x1) x9) := mkH (by rw [hx9, HL.out, ← e0, ← e1]; rfl)
                  have HC9 : Hid (chg ps (r1, r2) tg bn (k + 1) = (chg ps (r1, r2) tg bn k || decide (¬ x9 = ofL ps x0))) := mkH (by rw [hx9, ← e0]; rfl)
                  have HX9 : Hid (x9 = if inn (r1, r2) x0 then tg else ofL ps x0) := mkH hx9
                  have HNE := mkH hne
                  have hi1 : (k : Int) + 1 < (bn.length : Int) := by omega
                  have hi0 : (0 : Int) ≤ (k : Int) := by omega
                  have hi2 : (k : Int) < (bn.length : Int) := by omega
                  have hi3 : (0 : Int) ≤ (k : Int) + 1 := by omega
                  have HCN : Hid (∀ W, Below wr.heap.size wr W → W.cell? ⟨wB.heap.size, 1, none⟩ = some (.slice aL L.length cL) ∧ W.cell? ⟨bb, ob + k, none⟩ = some (.int .i64 x0) ∧ W.cell? ⟨bb, ob + (k + 1), none⟩ = some (.int .i64 x1)) := mkH (fun W hb => by
                    have hbt : Below wB.heap.size wB W := HB.out.trans (hb.mono (by omega))
                    have v := (HK.out W hbt).2.2.1
                    exact ⟨(HX.out.bel hb).cell 1 _ rfl, v k x0 hq0, v (k + 1) x1 hq1⟩)
                  have HC4 : Hid (∀ W, Below wr.heap.size wr W → W.cell? ⟨w.heap.size, 0, none⟩ = some (.int .i64 e) ∧ W.cell? ⟨w.heap.size, 1, none⟩ = some (.slice ao ps.length cap) ∧ W.cell? ⟨w.heap.size + 1, 0, none⟩ = some (.int .i64 r1) ∧ W.cell? ⟨w.heap.size + 1, 1, none⟩ = some (.int .i64 r2) ∧ W.cell? ⟨bb, ob + k, none⟩ = some (.int .i64 x0)) := mkH (fun W hb => by
                    have hbt : Below wB.heap.size wB W := HB.out.trans (hb.mono (by omega))
                    obtain ⟨⟨u, v, -⟩, -, z, -⟩ := HK.out W hbt
                    exact ⟨u.cell 0 _ rfl, u.cell 1 _ rfl, v.cell 0 _ rfl, v.cell 1 _ rfl, z k x0 hq0⟩)
                  have HOF : Hid (∀ W, Below wr.heap.size wr W → Calls Try.prog 33 #[.agg #[.int .i64 e, .slice ao ps.length cap], .int .i64 x0] W fun z w' => z = .returned (.int .i64 (ofL ps x0)) ∧ Below wr.heap.size wr w') :=
                    mkH (fun W hb => (rof_any W e ao cap ps (HKW.out.2.1.below hb) (by omega) x0).mono (fun z w' ⟨h1, h2⟩ => ⟨h1, hb.trans (h2.mono hb.size)⟩))
                  have HIN : Hid (∀ W, Below wr.heap.size wr W → Calls Try.prog 34 #[.agg #[.int .i64 r1, .int .i64 r2], .int .i64 x0] W fun z w' => z = .returned (.bool (inn (r1, r2) x0)) ∧ Below wr.heap.size wr w') :=
                    mkH (fun W hb => (rin_any W r1 r2 x0).mono (fun z w' ⟨h1, h2⟩ => ⟨h1, hb.trans (h2.below.mono hb.size)⟩))
                  have HK9 := HK
                  clear hx0 hx1 hq0 hq1 e0 e1 hnx hlow hne hx9 n0 n1
                  generalize ofL ps x0 = z1 at *
                  generalize inn (r1, r2) x0 = iq at *
                  generalize chg ps (r1, r2) tg bn k = cq at *
                  generalize wB.heap.size = B11 at *
                  obtain ⟨m0, m1, m2, m3, m4⟩ := HC4.out wr (Below.refl _ _)
                  go_wp2_with fail
                  go_cut [14] (fun v14 wd => v14 = .int .i64 z1 ∧ Hid (Below wr.heap.size wr wd))
                  case first =>
                    go_region_held3 (fun W => W.cell? ⟨w.heap.size, 0, none⟩ = some (.int .i64 e) ∧ W.cell? ⟨w.heap.size, 1, none⟩ = some (.slice ao ps.length cap) ∧ W.cell? ⟨w.heap.size + 1, 0, none⟩ = some (.int .i64 r1) ∧ W.cell? ⟨w.heap.size + 1, 1, none⟩ = some (.int .i64 r2) ∧ W.cell? ⟨bb, ob + k, none⟩ = some (.int .i64 x0)) (first | go_keep | exact hkeep) (first
                      | (go_at_call 33; refine (HOF.out _ (by (repeat (first | exact Below.refl _ _ | refine Below.drew ?_ | refine Gf.below_drewN ?_ _)))).mono ?_; rintro z w7 ⟨rfl, hb7⟩; have hkeep := (by exact HC4.out w7 hb7)))
                    all_goals
                      go_wp2_with fail
                      go_meet
                      exact ⟨rfl, mkH hb7⟩
                  case rest =>
                    obtain ⟨rfl, HD⟩ := hcut
                    clear m0 m1 m2 m3 m4
                    obtain ⟨m0, m1, m2, m3, m4⟩ := HC4.out wc HD.out
                    go_wp2_with fail
                    go_cut [76] (fun v76 wd => v76 = .bool iq ∧ Hid (Below wr.heap.size wr wd))
                    case first =>
                      go_region_held3 (fun W => W.cell? ⟨w.heap.size, 0, none⟩ = some (.int .i64 e) ∧ W.cell? ⟨w.heap.size, 1, none⟩ = some (.slice ao ps.length cap) ∧ W.cell? ⟨w.heap.size + 1, 0, none⟩ = some (.int .i64 r1) ∧ W.cell? ⟨w.heap.size + 1, 1, none⟩ = some (.int .i64 r2) ∧ W.cell? ⟨bb, ob + k, none⟩ = some (.int .i64 x0)) (first | go_keep | exact hkeep) (first
                        | (go_at_call 34; refine (HIN.out _ (by (repeat (first | exact HD.out | exact Below.refl _ _ | refine Below.drew ?_ | refine Gf.below_drewN ?_ _)))).mono ?_; rintro z w7 ⟨rfl, hb7⟩; have hkeep := (by exact HC4.out w7 hb7)))
                      all_goals
                        go_wp2_with fail
                        go_meet
                        exact ⟨rfl, mkH hb7⟩
                    case rest =>
                      obtain ⟨rfl, HE⟩ := hcut
                      clear m0 m1 m2 m3 m4 HD HOF HIN
                      cases iq
                      · have hx := HX9.out
                        simp only [Bool.false_eq_true, if_false] at hx
                        subst hx
                        go_upto_region 18 with fail
                        go_cut [12] (fun v12 wd => v12 = .bool (cq || decide (¬ x9 = x9)) ∧ wd = wc)
                        case first =>
                          cases cq
                          · go_wp2_with fail
                            go_meet
                            exact ⟨by first | rfl | (refine congrArg Value.bool ?_; simp [bne]; done) | (refine congrArg Value.bool ?_; simp [bne]; rfl) | simp, rfl⟩
                          · go_wp2_with fail
                            go_meet
                            exact ⟨by first | rfl | simp, rfl⟩
                        case rest =>
                          obtain ⟨rfl, rfl⟩ := hcut
                          have HBC := mkH (HB.out.trans (HE.out.mono (by omega)))
                          have hzc := HE.out.size
                          rcases List.eq_nil_or_concat L with hL | ⟨M, z, hL⟩
                          · subst hL
                            simp only [List.length_nil] at HX HLN HCN
                            have HXC := mkH (HX.out.bel HE.out)
                            have HLC := mkH (own_below HLN.out HE.out)
                            have HCC : Hid (∀ W, Below wc.heap.size wc W → W.cell? ⟨B11, 1, none⟩ = some (.slice aL 0 cL) ∧ W.cell? ⟨bb, ob + k, none⟩ = some (.int .i64 x0) ∧ W.cell? ⟨bb, ob + (k + 1), none⟩ = some (.int .i64 x1)) := mkH (fun W hb => HCN.out W (HE.out.trans (hb.mono HE.out.size)))
                            obtain ⟨p0, p1, p2⟩ := HCC.out wc (Below.refl _ _)
                            have HC2 : Hid (∀ W, Below (B11 + 1) wc W → (W.cell? ⟨B11, 1, none⟩ = some (.slice aL 0 cL) ∧ W.cell? ⟨bb, ob + k, none⟩ = some (.int .i64 x0) ∧ W.cell? ⟨bb, ob + (k + 1), none⟩ = some (.int .i64 x1)) ∧ W.frozen? ⟨B11, 1, none⟩ = false) := mkH (fun W hb => by
                              have u := HXC.out.below hb (Nat.lt_succ_self _)
                              exact ⟨⟨u.cell 1 _ rfl, (hb.cell (p := ⟨bb, ob + k, none⟩) (by show bb < B11 + 1; omega)).trans p1, (hb.cell (p := ⟨bb, ob + (k + 1), none⟩) (by show bb < B11 + 1; omega)).trans p2⟩, u.frozen 1⟩)
                            clear HX HLN HCN
                            go_wp2_with fail
                            refine Rg.region_G hmx 17 (fun W => W.cell? ⟨B11, 1, none⟩ = some (.slice aL 0 cL) ∧ W.cell? ⟨bb, ob + k, none⟩ = some (.int .i64 x0) ∧ W.cell? ⟨bb, ob + (k + 1), none⟩ = some (.int .i64 x1)) ⟨p0, p1, p2⟩ (fun hHeld => ?_)
                            have HLV := mkH (own_below HLC.out (Below.refl _ _).drew)
                            have HVV : Hid (Below wc.heap.size wc wc.drew) := mkH (Below.refl _ _).drew
                            generalize wc.drew = V0 at *
                            refine Rg.anyG_pure (i := 0) (oi := { dst := some 112, op := _, type := _, pos := _, after := _, guard := _ }) (v := ?_) rfl (by kernel_rfl) (by kernel_rfl) (by kernel_rfl) (by rfl) (fun _ _ _ h => h) (Or.inl ⟨by rfl, ?_⟩) (fun _ => by assumption) ?_
                            rotate_left
                            · (intro W hSw; (try dsimp only at hSw); go_simp; try (with_reducible rfl))
                            try simp only [Act.put, List.setIfInBounds_toArray, List.set_cons_zero, List.set_cons_succ]
                            refine Rg.anyG_take (i := 1) (oi := { dst := some 113, op := _, type := _, pos := _, after := _, guard := _ }) (v := ?_) rfl (by kernel_rfl) (by kernel_rfl) (by kernel_rfl) [17] (by kernel_rfl) (fun _ _ _ h => h) (Or.inl ⟨by rfl, ?_⟩) (by assumption) ?_
                            rotate_left
                            · (intro W hSw; (try dsimp only at hSw); go_simp; try (with_reducible rfl))
                            try simp only [Act.put, List.setIfInBounds_toArray, List.set_cons_zero, List.set_cons_succ]
                            refine Rg.anyG_pure (i := 2) (oi := { dst := some 114, op := _, type := _, pos := _, after := _, guard := _ }) (v := ?_) rfl (by kernel_rfl) (by kernel_rfl) (by kernel_rfl) (by rfl) (fun _ _ _ h => h) (Or.inl ⟨by rfl, ?_⟩) (fun _ => by assumption) ?_
                            rotate_left
                            · (intro W hSw; (try dsimp only at hSw); go_simp; try (with_reducible rfl))
                            try simp only [Act.put, List.setIfInBounds_toArray, List.set_cons_zero, List.set_cons_succ]
                            refine Rg.anyG_pure (i := 3) (oi := { dst := some 115, op := _, type := _, pos := _, after := _, guard := _ }) (v := ?_) rfl (by kernel_rfl) (by kernel_rfl) (by kernel_rfl) (by rfl) (fun _ _ _ h => h) (Or.inl ⟨by rfl, ?_⟩) (fun _ => by assumption) ?_
                            rotate_left
                            · (intro W hSw; (try dsimp only at hSw); go_simp; try (with_reducible rfl))
                            try simp only [Act.put, List.setIfInBounds_toArray, List.set_cons_zero, List.set_cons_succ]
                            refine Rg.anyG_pure (i := 4) (oi := { dst := some 116, op := _, type := _, pos := _, after := _, guard := _ }) (v := ?_) rfl (by kernel_rfl) (by kernel_rfl) (by kernel_rfl) (by rfl) (fun _ _ _ h => h) (Or.inl ⟨by rfl, ?_⟩) (fun _ => by assumption) ?_
                            rotate_left
                            · (intro W hSw; (try dsimp only at hSw); go_simp; try (with_reducible rfl))
                            try simp only [Act.put, List.setIfInBounds_toArray, List.set_cons_zero, List.set_cons_succ]
                            refine Rg.anyG_take (i := 5) (oi := { dst := some 117, op := _, type := _, pos := _, after := _, guard := _ }) (v := ?_) rfl (by kernel_rfl) (by kernel_rfl) (by kernel_rfl) [17] (by kernel_rfl) (fun _ _ _ h => h) (Or.inl ⟨by rfl, ?_⟩) (by assumption) ?_
                            rotate_left
                            · (intro W hSw; (try dsimp only at hSw); go_simp; try (with_reducible rfl))
                            try simp only [Act.put, List.setIfInBounds_toArray, List.set_cons_zero, List.set_cons_succ]
                            refine Rg.anyG_pure (i := 6) (oi := { dst := some 118, op := _, type := _, pos := _, after := _, guard := _ }) (v := ?_) rfl (by kernel_rfl) (by kernel_rfl) (by kernel_rfl) (by rfl) (fun _ _ _ h => h) (Or.inl ⟨by rfl, ?_⟩) (fun _ => by assumption) ?_
                            rotate_left
                            · (intro W hSw; (try dsimp only at hSw); go_simp; try (with_reducible rfl))
                            try simp only [Act.put, List.setIfInBounds_toArray, List.set_cons_zero, List.set_cons_succ]
                            refine Rg.anyG_pure (i := 7) (oi := { dst := some 119, op := _, type := _, pos := _, after := _, guard := _ }) (v := ?_) rfl (by kernel_rfl) (by kernel_rfl) (by kernel_rfl) (by rfl) (fun _ _ _ h => h) (Or.inl ⟨by rfl, ?_⟩) (fun _ => by assumption) ?_
                            rotate_left
                            · (intro W hSw; (try dsimp only at hSw); go_simp; try (with_reducible rfl))
                            try simp only [Act.put, List.setIfInBounds_toArray, List.set_cons_zero, List.set_cons_succ]
                            refine Rg.anyG_pure (i := 8) (oi := { dst := some 120, op := _, type := _, pos := _, after := _, guard := _ }) (v := .int .i64 ((k : Int) + 1)) rfl (by kernel_rfl) (by kernel_rfl) (by kernel_rfl) (by rfl) (fun _ _ _ h => h) (Or.inl ⟨by rfl, ?_⟩) (fun _ => by assumption) ?_
                            · (intro W hSw; (try dsimp only at hSw); go_simp; try (with_reducible rfl))
                            try simp only [Act.put, List.setIfInBounds_toArray, List.set_cons_zero, List.set_cons_succ]
                            refine Rg.anyG_pure (i := 9) (oi := { dst := some 121, op := _, type := _, pos := _, after := _, guard := _ }) (v := ?_) rfl (by kernel_rfl) (by kernel_rfl) (by kernel_rfl) (by rfl) (fun _ _ _ h => h) (Or.inl ⟨by rfl, ?_⟩) (fun _ => by assumption) ?_
                            rotate_left
                            · (intro W hSw; (try dsimp only at hSw); go_simp; try (with_reducible rfl))
                            try simp only [Act.put, List.setIfInBounds_toArray, List.set_cons_zero, List.set_cons_succ]
                            refine Rg.anyG_take (i := 10) (oi := { dst := some 122, op := _, type := _, pos := _, after := _, guard := _ }) (v := ?_) rfl (by kernel_rfl) (by kernel_rfl) (by kernel_rfl) [17] (by kernel_rfl) (fun _ _ _ h => h) (Or.inl ⟨by rfl, ?_⟩) (by assumption) ?_
                            rotate_left
                            · (intro W hSw; (try dsimp only at hSw); go_simp; try (with_reducible rfl))
                            try simp only [Act.put, List.setIfInBounds_toArray, List.set_cons_zero, List.set_cons_succ]
                            refine Rg.anyG_pure (i := 11) (oi := { dst := some 123, op := _, type := _, pos := _, after := _, guard := _ }) (v := .agg #[.int .i64 x0, .int .i64 x1]) rfl (by kernel_rfl) (by kernel_rfl) (by kernel_rfl) (by rfl) (fun _ _ _ h => h) (Or.inl ⟨by rfl, ?_⟩) (fun _ => by assumption) ?_
                            · (intro W hSw; (try dsimp only at hSw); go_simp; try (with_reducible rfl))
                            try simp only [Act.put, List.setIfInBounds_toArray, List.set_cons_zero, List.set_cons_succ]
                            refine Rg.anyG_pure (i := 12) (oi := { dst := some 124, op := _, type := _, pos := _, after := _, guard := _ }) (v := ?_) rfl (by kernel_rfl) (by kernel_rfl) (by kernel_rfl) (by rfl) (fun _ _ _ h => h) (Or.inl ⟨by rfl, ?_⟩) (fun _ => by assumption) ?_
                            rotate_left
                            · (intro W hSw; (try dsimp only at hSw); go_simp; try (with_reducible rfl))
                            try simp only [Act.put, List.setIfInBounds_toArray, List.set_cons_zero, List.set_cons_succ]
                            refine Rg.anyG_pure (i := 13) (oi := { dst := some 125, op := _, type := _, pos := _, after := _, guard := _ }) (v := .agg #[.int .i64 x0, .int .i64 x1, .int .i64 x9]) rfl (by kernel_rfl) (by kernel_rfl) (by kernel_rfl) (by rfl) (fun _ _ _ h => h) (Or.inl ⟨by rfl, ?_⟩) (fun _ => by assumption) ?_
                            · (intro W hSw; (try dsimp only at hSw); go_simp; try (with_reducible rfl))
                            try simp only [Act.put, List.setIfInBounds_toArray, List.set_cons_zero, List.set_cons_succ]
                            refine Rg.anyG_ready (rs := [14]) (by kernel_rfl) (by simp) ?_
                            refine (Rg.AllG.cons (o := { dst := some 126, op := _, type := _, pos := _, after := _, guard := _ }) rfl (fun K hK => ?_) Rg.AllG.nil)
                            have hal : Below V0.heap.size V0 (V0.alloc (.cells #[.int .i64 x0, .int .i64 x1, .int .i64 x9] 63)) := (Below.refl _ _).alloc (Nat.le_refl _) _
                            have HLA := mkH (own_below HLV.out hal)
                            have HVA := mkH (HVV.out.trans (hal.mono HVV.out.size))
                            have HSR := mkH (newP V0 (x0, x1, x9) 63)
                            obtain ⟨q0, q1, q2⟩ := HCC.out (V0.alloc (.cells #[.int .i64 x0, .int .i64 x1, .int .i64 x9] 63)) HVA.out
                            go_simp
                            refine hK.out _ _ ?_ (fun hHeld => ?_)
                            · exact ⟨q0, q1, q2⟩
                            clear hK K
                            try simp only [Act.put, List.setIfInBounds_toArray, List.set_cons_zero, List.set_cons_succ]
                            clear hal q0 q1 q2
                            refine Rg.anyG_ready (rs := [15]) (by kernel_rfl) (by simp) ?_
                            refine (Rg.AllG.cons (o := { dst := some 127, op := _, type := _, pos := _, after := _, guard := _ }) rfl (fun K hK => ?_) Rg.AllG.nil)
                            refine step_append_own_src (by rfl) (.tmp 113) (.tmp 126) 22 22 (by rfl) (B11 + 1) 63 (.agg #[.int .i64 0, .int .i64 0, .int .i64 0]) 3 24 Try.underlying22 infoP (by rfl) (by decide) (.slice aL 0 cL) (0) (Fp ([] : List Pc)) (by rfl) (by exact HLA.out) (.slice (some ⟨V0.heap.size, 0, none⟩) 1 1) 1 (Fp [(x0, x1, x9)]) (by rfl) (by exact HSR.out) (by unfold maxLen; omega) (by omega) (by have := HVA.out.size; omega) ?_
                            intro v2 w8 hown2 hgrow2
                            have hform := own_form hown2
                            obtain ⟨a8, k8, rfl⟩ := hform
                            have hb8 : Below (B11 + 1) wc w8 := (HVA.out.mono (by omega)).grown hgrow2 (by have := HVA.out.size; omega) (fun j hj => (HLA.out.lt j hj).1)
                            obtain ⟨⟨p0', p1', p2'⟩, z0⟩ := HC2.out w8 hb8
                            have HO8 := mkH hown2
                            have HB8 := mkH hb8
                            clear hown2 hgrow2 hb8
                            refine hK.out _ _ ?_ (fun hHeld => ?_)
                            · exact ⟨p0', p1', p2'⟩
                            clear hK K
                            try simp only [Act.put, List.setIfInBounds_toArray, List.set_cons_zero, List.set_cons_succ]
                            refine Rg.anyG_pure (i := 16) (oi := { dst := some 128, op := _, type := _, pos := _, after := _, guard := _ }) (v := ?_) rfl (by kernel_rfl) (by kernel_rfl) (by kernel_rfl) (by rfl) (fun _ _ _ h => h) (Or.inl ⟨by rfl, ?_⟩) (fun _ => by assumption) ?_
                            rotate_left
                            · (intro W hSw; (try dsimp only at hSw); go_simp; try (with_reducible rfl))
                            try simp only [Act.put, List.setIfInBounds_toArray, List.set_cons_zero, List.set_cons_succ]
                            refine Rg.anyG_ready (rs := [17]) (by kernel_rfl) (by simp) ?_
                            refine Rg.AllG.last (o := { dst := none, op := _, type := _, pos := _, after := _, guard := _ }) rfl (by kernel_rfl) (fun K hK => ?_)
                            go_simp
                            refine hK.out _ _ ?_
                            clear hK K
                            try simp only [Act.put, List.setIfInBounds_toArray, List.set_cons_zero, List.set_cons_succ]
                            refine Rg.anyG_done (by kernel_rfl) ?_ _
                            have hxs := (HXC.out.below HB8.out (Nat.lt_succ_self _))
                            have hst := hxs.set 1 (.slice a8 (0 + 1) k8)
                            have hos := own_fr HO8.out (hxs.frset 1 (.slice a8 (0 + 1) k8)) (fun j hj hq => own_ne HO8.out hxs hj (by decide) hq)
                            have hbs : Below B11 wB (w8.setCell ⟨B11, 1, none⟩ (.slice a8 (0 + 1) k8)) := (HBC.out.trans (HB8.out.mono (by omega))).setCell (Nat.le_refl _) _
                            have hln : (([] : List Pc) ++ [(x0, x1, x9)]).length = 0 + 1 := by simp
                            have hos2 : (w8.setCell ⟨B11, 1, none⟩ (.slice a8 (0 + 1) k8)).ownsRow (B11 + 1) 63 3 (.slice a8 (([] : List Pc) ++ [(x0, x1, x9)]).length k8) (([] : List Pc) ++ [(x0, x1, x9)]).length (Fp (([] : List Pc) ++ [(x0, x1, x9)])) := by
                              rw [hln]
                              show World.ownsRow _ _ _ _ _ _ (Fl pC (([] : List Pc) ++ [(x0, x1, x9)]))
                              rw [Fl_append]; exact hos
                            have hst2 : Bx (w8.setCell ⟨B11, 1, none⟩ (.slice a8 (0 + 1) k8)) B11 #[.int .i64 e, .slice a8 (([] : List Pc) ++ [(x0, x1, x9)]).length k8] 24 := by rw [hln]; exact hst
                            have HS1 := mkH hst2
                            have HS2 := mkH hos2
                            have HS3 := mkH hbs
                            clear hxs hst hos hbs hln hos2 hst2 p0' p1' p2' z0 HO8 HB8
                            go_wp2
                            go_roundw
                            case rel => exact ⟨k + 1, a8, k8, ([] : List Pc) ++ [(x0, x1, x9)], by omega, by go_num, (by first | exact congrArg Value.bool HC9.out.symm | (refine congrArg Value.bool ?_; rw [HC9.out]; simp)), mkH (by rw [HR9.out]; rw [pu_nil _ _ HNE.out]; rfl), HS1, HS2, HS3⟩
                            case measure => simp [intOf]; omega
                          · rw [List.concat_eq_append] at hL
                            subst hL
                            obtain ⟨z1', z2', z3'⟩ := z
                            have hlM : (M ++ [(z1', z2', z3')]).length = M.length + 1 := by simp
                            have HLS := mkH (last_set (own_below HLN.out HE.out))
                            rw [hlM] at HX HCN
                            have HXC := mkH (HX.out.bel HE.out)
                            have HLC0 := own_below HLN.out HE.out
                            rw [hlM] at HLC0 hll
                            have HLC := mkH HLC0
                            have HCC : Hid (∀ W, Below wc.heap.size wc W → W.cell? ⟨B11, 1, none⟩ = some (.slice aL (M.length + 1) cL) ∧ W.cell? ⟨bb, ob + k, none⟩ = some (.int .i64 x0) ∧ W.cell? ⟨bb, ob + (k + 1), none⟩ = some (.int .i64 x1)) := mkH (fun W hb => HCN.out W (HE.out.trans (hb.mono HE.out.size)))
                            obtain ⟨p0, p1, p2⟩ := HCC.out wc (Below.refl _ _)
                            have HC2 : Hid (∀ W, Below (B11 + 1) wc W → (W.cell? ⟨B11, 1, none⟩ = some (.slice aL (M.length + 1) cL) ∧ W.cell? ⟨bb, ob + k, none⟩ = some (.int .i64 x0) ∧ W.cell? ⟨bb, ob + (k + 1), none⟩ = some (.int .i64 x1)) ∧ W.frozen? ⟨B11, 1, none⟩ = false) := mkH (fun W hb => by
                              have u := HXC.out.below hb (Nat.lt_succ_self _)
                              exact ⟨⟨u.cell 1 _ rfl, (hb.cell (p := ⟨bb, ob + k, none⟩) (by show bb < B11 + 1; omega)).trans p1, (hb.cell (p := ⟨bb, ob + (k + 1), none⟩) (by show bb < B11 + 1; omega)).trans p2⟩, u.frozen 1⟩)
                            obtain ⟨g, cg, hv, s2, s1, sf, hg1, hg2, hcg1, hcg2, hset⟩ := HLS.out
                            rw [hlM] at hv
                            simp only [Value.slice.injEq, true_and] at hv
                            obtain ⟨rfl, rfl⟩ := hv
                            have HSE := mkH hset
                            have HPU := mkH (pu_snoc M (z1', z2', z3') (x0, x1) x9 HNE.out)
                            clear HX HLN HCN HLC0 HLS hset hlM
                            have hwm : IntKind.i64.wrap ((M.length : Int) + 1 - 1) = (M.length : Int) := IntWalk.i64_in _ (by omega) |>.trans (by omega)
                            have hwm2 : IntKind.i64.wrap (((M.length + 1 : Nat) : Int) - 1) = (M.length : Int) := IntWalk.i64_in _ (by omega) |>.trans (by omega)
                            have hwm3 : IntKind.i64.wrap (M.length : Int) = (M.length : Int) := IntWalk.i64_in _ (by omega)
                            have hmi : (M.length : Int) < ((M.length + 1 : Nat) : Int) := by omega
                            have hmi2 : (M.length : Int) < (M.length : Int) + 1 := by omega
                            have hmi0 : (0 : Int) ≤ (M.length : Int) := by omega
                            by_cases hzz : z3' = x9
                            · subst hzz
                              have hgB : g ≠ B11 := by omega
                              have hgb : g ≠ bb := by omega
                              have HKL : Hid (∀ (W : World) (v : Value), (W.cell? ⟨B11, 1, none⟩ = some (.slice (some ⟨g, 0, none⟩) (M.length + 1) cL) ∧ W.cell? ⟨bb, ob + (k + 1), none⟩ = some (.int .i64 x1)) → ((W.setCell ⟨g, M.length * 3 + 1, none⟩ v).cell? ⟨B11, 1, none⟩ = some (.slice (some ⟨g, 0, none⟩) (M.length + 1) cL) ∧ (W.setCell ⟨g, M.length * 3 + 1, none⟩ v).cell? ⟨bb, ob + (k + 1), none⟩ = some (.int .i64 x1))) := mkH (fun W v hh => ⟨(cell_other (p := ⟨g, M.length * 3 + 1, none⟩) (a := ⟨B11, 1, none⟩) hgB.symm v).trans hh.1, (cell_other (p := ⟨g, M.length * 3 + 1, none⟩) (a := ⟨bb, ob + (k + 1), none⟩) hgb.symm v).trans hh.2⟩)
                              go_wp2_with fail
                              go_region_held3 (fun W => W.cell? ⟨B11, 1, none⟩ = some (.slice (some ⟨g, 0, none⟩) (M.length + 1) cL) ∧ W.cell? ⟨bb, ob + (k + 1), none⟩ = some (.int .i64 x1)) (first | go_keep | exact HKL.out _ _ (by assumption)) (fail)
                              have hos := (HSE.out x1).1
                              have hgr := (HSE.out x1).2
                              have hfr := fr_grown hgr
                              have hxs : Bx (wc.setCell ⟨g, M.length * 3 + 1, none⟩ (.int .i64 x1)) B11 #[.int .i64 e, .slice (some ⟨g, 0, none⟩) (M ++ [(z1', x1, z3')]).length cL] 24 := by
                                rw [show (M ++ [(z1', x1, z3')]).length = M.length + 1 by simp]
                                exact HXC.out.other (p := ⟨g, M.length * 3 + 1, none⟩) hgB _
                              have hbs : Below B11 wB (wc.setCell ⟨g, M.length * 3 + 1, none⟩ (.int .i64 x1)) := HBC.out.setCell (by show B11 ≤ g; omega) _
                              have hos2 : (wc.setCell ⟨g, M.length * 3 + 1, none⟩ (.int .i64 x1)).ownsRow (B11 + 1) 63 3 (.slice (some ⟨g, 0, none⟩) (M ++ [(z1', x1, z3')]).length cL) (M ++ [(z1', x1, z3')]).length (Fp (M ++ [(z1', x1, z3')])) := by
                                rw [show (M ++ [(z1', x1, z3')]).length = M.length + 1 by simp] at hos ⊢
                                rw [show (M ++ [(z1', z2', z3')]).length = M.length + 1 by simp] at hos
                                exact hos
                              have HS1 := mkH (hxs.bel (Below.refl _ _).drew)
                              have HS2 := mkH (own_below hos2 (Below.refl _ _).drew)
                              have HS3 := mkH hbs.drew
                              clear hos hgr hfr hxs hbs hos2 s1 s2 sf
                              go_wp2
                              go_roundw
                              case rel => exact ⟨k + 1, some ⟨g, 0, none⟩, cL, M ++ [(z1', x1, z3')], by omega, by go_num, (by first | exact congrArg Value.bool HC9.out.symm | (refine congrArg Value.bool ?_; rw [HC9.out]; simp)), mkH (by rw [HR9.out, HPU.out]; simp), HS1, HS2, HS3⟩
                              case measure => simp [intOf]; omega
                            · have hz2 : (z3' == x9) = false := by simp [hzz]
                              go_wp2_with fail
                              refine Rg.region_G hmx 17 (fun W => W.cell? ⟨B11, 1, none⟩ = some (.slice (some ⟨g, 0, none⟩) (M.length + 1) cL) ∧ W.cell? ⟨bb, ob + k, none⟩ = some (.int .i64 x0) ∧ W.cell? ⟨bb, ob + (k + 1), none⟩ = some (.int .i64 x1)) ⟨p0, p1, p2⟩ (fun hHeld => ?_)
                              have HLV := mkH (own_below HLC.out (Below.refl _ _).drew)
                              have HVV : Hid (Below wc.heap.size wc wc.drew) := mkH (Below.refl _ _).drew
                              generalize wc.drew = V0 at *
                              refine Rg.anyG_pure (i := 0) (oi := { dst := some 112, op := _, type := _, pos := _, after := _, guard := _ }) (v := ?_) rfl (by kernel_rfl) (by kernel_rfl) (by kernel_rfl) (by rfl) (fun _ _ _ h => h) (Or.inl ⟨by rfl, ?_⟩) (fun _ => by assumption) ?_
                              rotate_left
                              · (intro W hSw; (try dsimp only at hSw); go_simp; try (with_reducible rfl))
                              try simp only [Act.put, List.setIfInBounds_toArray, List.set_cons_zero, List.set_cons_succ]
                              refine Rg.anyG_take (i := 1) (oi := { dst := some 113, op := _, type := _, pos := _, after := _, guard := _ }) (v := ?_) rfl (by kernel_rfl) (by kernel_rfl) (by kernel_rfl) [17] (by kernel_rfl) (fun _ _ _ h => h) (Or.inl ⟨by rfl, ?_⟩) (by assumption) ?_
                              rotate_left
                              · (intro W hSw; (try dsimp only at hSw); go_simp; try (with_reducible rfl))
                              try simp only [Act.put, List.setIfInBounds_toArray, List.set_cons_zero, List.set_cons_succ]
                              refine Rg.anyG_pure (i := 2) (oi := { dst := some 114, op := _, type := _, pos := _, after := _, guard := _ }) (v := ?_) rfl (by kernel_rfl) (by kernel_rfl) (by kernel_rfl) (by rfl) (fun _ _ _ h => h) (Or.inl ⟨by rfl, ?_⟩) (fun _ => by assumption) ?_
                              rotate_left
                              · (intro W hSw; (try dsimp only at hSw); go_simp; try (with_reducible rfl))
                              try simp only [Act.put, List.setIfInBounds_toArray, List.set_cons_zero, List.set_cons_succ]
                              refine Rg.anyG_pure (i := 3) (oi := { dst := some 115, op := _, type := _, pos := _, after := _, guard := _ }) (v := ?_) rfl (by kernel_rfl) (by kernel_rfl) (by kernel_rfl) (by rfl) (fun _ _ _ h => h) (Or.inl ⟨by rfl, ?_⟩) (fun _ => by assumption) ?_
                              rotate_left
                              · (intro W hSw; (try dsimp only at hSw); go_simp; try (with_reducible rfl))
                              try simp only [Act.put, List.setIfInBounds_toArray, List.set_cons_zero, List.set_cons_succ]
                              refine Rg.anyG_pure (i := 4) (oi := { dst := some 116, op := _, type := _, pos := _, after := _, guard := _ }) (v := ?_) rfl (by kernel_rfl) (by kernel_rfl) (by kernel_rfl) (by rfl) (fun _ _ _ h => h) (Or.inl ⟨by rfl, ?_⟩) (fun _ => by assumption) ?_
                              rotate_left
                              · (intro W hSw; (try dsimp only at hSw); go_simp; try (with_reducible rfl))
                              try simp only [Act.put, List.setIfInBounds_toArray, List.set_cons_zero, List.set_cons_succ]
                              refine Rg.anyG_take (i := 5) (oi := { dst := some 117, op := _, type := _, pos := _, after := _, guard := _ }) (v := ?_) rfl (by kernel_rfl) (by kernel_rfl) (by kernel_rfl) [17] (by kernel_rfl) (fun _ _ _ h => h) (Or.inl ⟨by rfl, ?_⟩) (by assumption) ?_
                              rotate_left
                              · (intro W hSw; (try dsimp only at hSw); go_simp; try (with_reducible rfl))
                              try simp only [Act.put, List.setIfInBounds_toArray, List.set_cons_zero, List.set_cons_succ]
                              refine Rg.anyG_pure (i := 6) (oi := { dst := some 118, op := _, type := _, pos := _, after := _, guard := _ }) (v := ?_) rfl (by kernel_rfl) (by kernel_rfl) (by kernel_rfl) (by rfl) (fun _ _ _ h => h) (Or.inl ⟨by rfl, ?_⟩) (fun _ => by assumption) ?_
                              rotate_left
                              · (intro W hSw; (try dsimp only at hSw); go_simp; try (with_reducible rfl))
                              try simp only [Act.put, List.setIfInBounds_toArray, List.set_cons_zero, List.set_cons_succ]
                              refine Rg.anyG_pure (i := 7) (oi := { dst := some 119, op := _, type := _, pos := _, after := _, guard := _ }) (v := ?_) rfl (by kernel_rfl) (by kernel_rfl) (by kernel_rfl) (by rfl) (fun _ _ _ h => h) (Or.inl ⟨by rfl, ?_⟩) (fun _ => by assumption) ?_
                              rotate_left
                              · (intro W hSw; (try dsimp only at hSw); go_simp; try (with_reducible rfl))
                              try simp only [Act.put, List.setIfInBounds_toArray, List.set_cons_zero, List.set_cons_succ]
                              refine Rg.anyG_pure (i := 8) (oi := { dst := some 120, op := _, type := _, pos := _, after := _, guard := _ }) (v := .int .i64 ((k : Int) + 1)) rfl (by kernel_rfl) (by kernel_rfl) (by kernel_rfl) (by rfl) (fun _ _ _ h => h) (Or.inl ⟨by rfl, ?_⟩) (fun _ => by assumption) ?_
                              · (intro W hSw; (try dsimp only at hSw); go_simp; try (with_reducible rfl))
                              try simp only [Act.put, List.setIfInBounds_toArray, List.set_cons_zero, List.set_cons_succ]
                              refine Rg.anyG_pure (i := 9) (oi := { dst := some 121, op := _, type := _, pos := _, after := _, guard := _ }) (v := ?_) rfl (by kernel_rfl) (by kernel_rfl) (by kernel_rfl) (by rfl) (fun _ _ _ h => h) (Or.inl ⟨by rfl, ?_⟩) (fun _ => by assumption) ?_
                              rotate_left
                              · (intro W hSw; (try dsimp only at hSw); go_simp; try (with_reducible rfl))
                              try simp only [Act.put, List.setIfInBounds_toArray, List.set_cons_zero, List.set_cons_succ]
                              refine Rg.anyG_take (i := 10) (oi := { dst := some 122, op := _, type := _, pos := _, after := _, guard := _ }) (v := ?_) rfl (by kernel_rfl) (by kernel_rfl) (by kernel_rfl) [17] (by kernel_rfl) (fun _ _ _ h => h) (Or.inl ⟨by rfl, ?_⟩) (by assumption) ?_
                              rotate_left
                              · (intro W hSw; (try dsimp only at hSw); go_simp; try (with_reducible rfl))
                              try simp only [Act.put, List.setIfInBounds_toArray, List.set_cons_zero, List.set_cons_succ]
                              refine Rg.anyG_pure (i := 11) (oi := { dst := some 123, op := _, type := _, pos := _, after := _, guard := _ }) (v := .agg #[.int .i64 x0, .int .i64 x1]) rfl (by kernel_rfl) (by kernel_rfl) (by kernel_rfl) (by rfl) (fun _ _ _ h => h) (Or.inl ⟨by rfl, ?_⟩) (fun _ => by assumption) ?_
                              · (intro W hSw; (try dsimp only at hSw); go_simp; try (with_reducible rfl))
                              try simp only [Act.put, List.setIfInBounds_toArray, List.set_cons_zero, List.set_cons_succ]
                              refine Rg.anyG_pure (i := 12) (oi := { dst := some 124, op := _, type := _, pos := _, after := _, guard := _ }) (v := ?_) rfl (by kernel_rfl) (by kernel_rfl) (by kernel_rfl) (by rfl) (fun _ _ _ h => h) (Or.inl ⟨by rfl, ?_⟩) (fun _ => by assumption) ?_
                              rotate_left
                              · (intro W hSw; (try dsimp only at hSw); go_simp; try (with_reducible rfl))
                              try simp only [Act.put, List.setIfInBounds_toArray, List.set_cons_zero, List.set_cons_succ]
                              refine Rg.anyG_pure (i := 13) (oi := { dst := some 125, op := _, type := _, pos := _, after := _, guard := _ }) (v := .agg #[.int .i64 x0, .int .i64 x1, .int .i64 x9]) rfl (by kernel_rfl) (by kernel_rfl) (by kernel_rfl) (by rfl) (fun _ _ _ h => h) (Or.inl ⟨by rfl, ?_⟩) (fun _ => by assumption) ?_
                              · (intro W hSw; (try dsimp only at hSw); go_simp; try (with_reducible rfl))
                              try simp only [Act.put, List.setIfInBounds_toArray, List.set_cons_zero, List.set_cons_succ]
                              refine Rg.anyG_ready (rs := [14]) (by kernel_rfl) (by simp) ?_
                              refine (Rg.AllG.cons (o := { dst := some 126, op := _, type := _, pos := _, after := _, guard := _ }) rfl (fun K hK => ?_) Rg.AllG.nil)
                              have hal : Below V0.heap.size V0 (V0.alloc (.cells #[.int .i64 x0, .int .i64 x1, .int .i64 x9] 63)) := (Below.refl _ _).alloc (Nat.le_refl _) _
                              have HLA := mkH (own_below HLV.out hal)
                              have HVA := mkH (HVV.out.trans (hal.mono HVV.out.size))
                              have HSR := mkH (newP V0 (x0, x1, x9) 63)
                              obtain ⟨q0, q1, q2⟩ := HCC.out (V0.alloc (.cells #[.int .i64 x0, .int .i64 x1, .int .i64 x9] 63)) HVA.out
                              go_simp
                              refine hK.out _ _ ?_ (fun hHeld => ?_)
                              · exact ⟨q0, q1, q2⟩
                              clear hK K
                              try simp only [Act.put, List.setIfInBounds_toArray, List.set_cons_zero, List.set_cons_succ]
                              clear hal q0 q1 q2
                              refine Rg.anyG_ready (rs := [15]) (by kernel_rfl) (by simp) ?_
                              refine (Rg.AllG.cons (o := { dst := some 127, op := _, type := _, pos := _, after := _, guard := _ }) rfl (fun K hK => ?_) Rg.AllG.nil)
                              refine step_append_own_src (by rfl) (.tmp 113) (.tmp 126) 22 22 (by rfl) (B11 + 1) 63 (.agg #[.int .i64 0, .int .i64 0, .int .i64 0]) 3 24 Try.underlying22 infoP (by rfl) (by decide) (.slice (some ⟨g, 0, none⟩) (M.length + 1) cL) ((M.length + 1)) (Fp (M ++ [(z1', z2', z3')])) (by rfl) (by exact HLA.out) (.slice (some ⟨V0.heap.size, 0, none⟩) 1 1) 1 (Fp [(x0, x1, x9)]) (by rfl) (by exact HSR.out) (by unfold maxLen; omega) (by omega) (by have := HVA.out.size; omega) ?_
                              intro v2 w8 hown2 hgrow2
                              have hform := own_form hown2
                              obtain ⟨a8, k8, rfl⟩ := hform
                              have hb8 : Below (B11 + 1) wc w8 := (HVA.out.mono (by omega)).grown hgrow2 (by have := HVA.out.size; omega) (fun j hj => (HLA.out.lt j hj).1)
                              obtain ⟨⟨p0', p1', p2'⟩, z0⟩ := HC2.out w8 hb8
                              have HO8 := mkH hown2
                              have HB8 := mkH hb8
                              clear hown2 hgrow2 hb8
                              refine hK.out _ _ ?_ (fun hHeld => ?_)
                              · exact ⟨p0', p1', p2'⟩
                              clear hK K
                              try simp only [Act.put, List.setIfInBounds_toArray, List.set_cons_zero, List.set_cons_succ]
                              refine Rg.anyG_pure (i := 16) (oi := { dst := some 128, op := _, type := _, pos := _, after := _, guard := _ }) (v := ?_) rfl (by kernel_rfl) (by kernel_rfl) (by kernel_rfl) (by rfl) (fun _ _ _ h => h) (Or.inl ⟨by rfl, ?_⟩) (fun _ => by assumption) ?_
                              rotate_left
                              · (intro W hSw; (try dsimp only at hSw); go_simp; try (with_reducible rfl))
                              try simp only [Act.put, List.setIfInBounds_toArray, List.set_cons_zero, List.set_cons_succ]
                              refine Rg.anyG_ready (rs := [17]) (by kernel_rfl) (by simp) ?_
                              refine Rg.AllG.last (o := { dst := none, op := _, type := _, pos := _, after := _, guard := _ }) rfl (by kernel_rfl) (fun K hK => ?_)
                              go_simp
                              refine hK.out _ _ ?_
                              clear hK K
                              try simp only [Act.put, List.setIfInBounds_toArray, List.set_cons_zero, List.set_cons_succ]
                              refine Rg.anyG_done (by kernel_rfl) ?_ _
                              have hxs := (HXC.out.below HB8.out (Nat.lt_succ_self _))
                              have hst := hxs.set 1 (.slice a8 ((M.length + 1) + 1) k8)
                              have hos := own_fr HO8.out (hxs.frset 1 (.slice a8 ((M.length + 1) + 1) k8)) (fun j hj hq => own_ne HO8.out hxs hj (by decide) hq)
                              have hbs : Below B11 wB (w8.setCell ⟨B11, 1, none⟩ (.slice a8 ((M.length + 1) + 1) k8)) := (HBC.out.trans (HB8.out.mono (by omega))).setCell (Nat.le_refl _) _
                              have hln : ((M ++ [(z1', z2', z3')]) ++ [(x0, x1, x9)]).length = (M.length + 1) + 1 := by simp
                              have hos2 : (w8.setCell ⟨B11, 1, none⟩ (.slice a8 ((M.length + 1) + 1) k8)).ownsRow (B11 + 1) 63 3 (.slice a8 ((M ++ [(z1', z2', z3')]) ++ [(x0, x1, x9)]).length k8) ((M ++ [(z1', z2', z3')]) ++ [(x0, x1, x9)]).length (Fp ((M ++ [(z1', z2', z3')]) ++ [(x0, x1, x9)])) := by
                                rw [hln]
                                show World.ownsRow _ _ _ _ _ _ (Fl pC ((M ++ [(z1', z2', z3')]) ++ [(x0, x1, x9)]))
                                rw [Fl_append]; exact hos
                              have hst2 : Bx (w8.setCell ⟨B11, 1, none⟩ (.slice a8 ((M.length + 1) + 1) k8)) B11 #[.int .i64 e, .slice a8 ((M ++ [(z1', z2', z3')]) ++ [(x0, x1, x9)]).length k8] 24 := by rw [hln]; exact hst
                              have HS1 := mkH hst2
                              have HS2 := mkH hos2
                              have HS3 := mkH hbs
                              clear hxs hst hos hbs hln hos2 hst2 p0' p1' p2' z0 HO8 HB8
                              go_wp2
                              go_roundw
                              case rel => exact ⟨k + 1, a8, k8, (M ++ [(z1', z2', z3')]) ++ [(x0, x1, x9)], by omega, by go_num, (by first | exact congrArg Value.bool HC9.out.symm | (refine congrArg Value.bool ?_; rw [HC9.out]; simp)), mkH (by rw [HR9.out]; rw [HPU.out, if_neg (fun e => hzz e.symm)]), HS1, HS2, HS3⟩
                              case measure => simp [intOf]; omega
                      · have hx := HX9.out
                        simp only [if_true] at hx
                        subst hx
                        go_upto_region 18 with fail
                        go_cut [12] (fun v12 wd => v12 = .bool (cq || decide (¬ x9 = z1)) ∧ wd = wc)
                        case first =>
                          cases cq
                          · go_wp2_with fail
                            go_meet
                            exact ⟨by first | rfl | (refine congrArg Value.bool ?_; simp [bne]; done) | (refine congrArg Value.bool ?_; simp [bne]; rfl) | simp, rfl⟩
                          · go_wp2_with fail
                            go_meet
                            exact ⟨by first | rfl | simp, rfl⟩
                        case rest =>
                          obtain ⟨rfl, rfl⟩ := hcut
                          have HBC := mkH (HB.out.trans (HE.out.mono (by omega)))
                          have hzc := HE.out.size
                          rcases List.eq_nil_or_concat L with hL | ⟨M, z, hL⟩
                          · subst hL
                            simp only [List.length_nil] at HX HLN HCN
                            have HXC := mkH (HX.out.bel HE.out)
                            have HLC := mkH (own_below HLN.out HE.out)
                            have HCC : Hid (∀ W, Below wc.heap.size wc W → W.cell? ⟨B11, 1, none⟩ = some (.slice aL 0 cL) ∧ W.cell? ⟨bb, ob + k, none⟩ = some (.int .i64 x0) ∧ W.cell? ⟨bb, ob + (k + 1), none⟩ = some (.int .i64 x1)) := mkH (fun W hb => HCN.out W (HE.out.trans (hb.mono HE.out.size)))
                            obtain ⟨p0, p1, p2⟩ := HCC.out wc (Below.refl _ _)
                            have HC2 : Hid (∀ W, Below (B11 + 1) wc W → (W.cell? ⟨B11, 1, none⟩ = some (.slice aL 0 cL) ∧ W.cell? ⟨bb, ob + k, none⟩ = some (.int .i64 x0) ∧ W.cell? ⟨bb, ob + (k + 1), none⟩ = some (.int .i64 x1)) ∧ W.frozen? ⟨B11, 1, none⟩ = false) := mkH (fun W hb => by
                              have u := HXC.out.below hb (Nat.lt_succ_self _)
                              exact ⟨⟨u.cell 1 _ rfl, (hb.cell (p := ⟨bb, ob + k, none⟩) (by show bb < B11 + 1; omega)).trans p1, (hb.cell (p := ⟨bb, ob + (k + 1), none⟩) (by show bb < B11 + 1; omega)).trans p2⟩, u.frozen 1⟩)
                            clear HX HLN HCN
                            go_wp2_with fail
                            refine Rg.region_G hmx 17 (fun W => W.cell? ⟨B11, 1, none⟩ = some (.slice aL 0 cL) ∧ W.cell? ⟨bb, ob + k, none⟩ = some (.int .i64 x0) ∧ W.cell? ⟨bb, ob + (k + 1), none⟩ = some (.int .i64 x1)) ⟨p0, p1, p2⟩ (fun hHeld => ?_)
                            have HLV := mkH (own_below HLC.out (Below.refl _ _).drew)
                            have HVV : Hid (Below wc.heap.size wc wc.drew) := mkH (Below.refl _ _).drew
                            generalize wc.drew = V0 at *
                            refine Rg.anyG_pure (i := 0) (oi := { dst := some 112, op := _, type := _, pos := _, after := _, guard := _ }) (v := ?_) rfl (by kernel_rfl) (by kernel_rfl) (by kernel_rfl) (by rfl) (fun _ _ _ h => h) (Or.inl ⟨by rfl, ?_⟩) (fun _ => by assumption) ?_
                            rotate_left
                            · (intro W hSw; (try dsimp only at hSw); go_simp; try (with_reducible rfl))
                            try simp only [Act.put, List.setIfInBounds_toArray, List.set_cons_zero, List.set_cons_succ]
                            refine Rg.anyG_take (i := 1) (oi := { dst := some 113, op := _, type := _, pos := _, after := _, guard := _ }) (v := ?_) rfl (by kernel_rfl) (by kernel_rfl) (by kernel_rfl) [17] (by kernel_rfl) (fun _ _ _ h => h) (Or.inl ⟨by rfl, ?_⟩) (by assumption) ?_
                            rotate_left
                            · (intro W hSw; (try dsimp only at hSw); go_simp; try (with_reducible rfl))
                            try simp only [Act.put, List.setIfInBounds_toArray, List.set_cons_zero, List.set_cons_succ]
                            refine Rg.anyG_pure (i := 2) (oi := { dst := some 114, op := _, type := _, pos := _, after := _, guard := _ }) (v := ?_) rfl (by kernel_rfl) (by kernel_rfl) (by kernel_rfl) (by rfl) (fun _ _ _ h => h) (Or.inl ⟨by rfl, ?_⟩) (fun _ => by assumption) ?_
                            rotate_left
                            · (intro W hSw; (try dsimp only at hSw); go_simp; try (with_reducible rfl))
                            try simp only [Act.put, List.setIfInBounds_toArray, List.set_cons_zero, List.set_cons_succ]
                            refine Rg.anyG_pure (i := 3) (oi := { dst := some 115, op := _, type := _, pos := _, after := _, guard := _ }) (v := ?_) rfl (by kernel_rfl) (by kernel_rfl) (by kernel_rfl) (by rfl) (fun _ _ _ h => h) (Or.inl ⟨by rfl, ?_⟩) (fun _ => by assumption) ?_
                            rotate_left
                            · (intro W hSw; (try dsimp only at hSw); go_simp; try (with_reducible rfl))
                            try simp only [Act.put, List.setIfInBounds_toArray, List.set_cons_zero, List.set_cons_succ]
                            refine Rg.anyG_pure (i := 4) (oi := { dst := some 116, op := _, type := _, pos := _, after := _, guard := _ }) (v := ?_) rfl (by kernel_rfl) (by kernel_rfl) (by kernel_rfl) (by rfl) (fun _ _ _ h => h) (Or.inl ⟨by rfl, ?_⟩) (fun _ => by assumption) ?_
                            rotate_left
                            · (intro W hSw; (try dsimp only at hSw); go_simp; try (with_reducible rfl))
                            try simp only [Act.put, List.setIfInBounds_toArray, List.set_cons_zero, List.set_cons_succ]
                            refine Rg.anyG_take (i := 5) (oi := { dst := some 117, op := _, type := _, pos := _, after := _, guard := _ }) (v := ?_) rfl (by kernel_rfl) (by kernel_rfl) (by kernel_rfl) [17] (by kernel_rfl) (fun _ _ _ h => h) (Or.inl ⟨by rfl, ?_⟩) (by assumption) ?_
                            rotate_left
                            · (intro W hSw; (try dsimp only at hSw); go_simp; try (with_reducible rfl))
                            try simp only [Act.put, List.setIfInBounds_toArray, List.set_cons_zero, List.set_cons_succ]
                            refine Rg.anyG_pure (i := 6) (oi := { dst := some 118, op := _, type := _, pos := _, after := _, guard := _ }) (v := ?_) rfl (by kernel_rfl) (by kernel_rfl) (by kernel_rfl) (by rfl) (fun _ _ _ h => h) (Or.inl ⟨by rfl, ?_⟩) (fun _ => by assumption) ?_
                            rotate_left
                            · (intro W hSw; (try dsimp only at hSw); go_simp; try (with_reducible rfl))
                            try simp only [Act.put, List.setIfInBounds_toArray, List.set_cons_zero, List.set_cons_succ]
                            refine Rg.anyG_pure (i := 7) (oi := { dst := some 119, op := _, type := _, pos := _, after := _, guard := _ }) (v := ?_) rfl (by kernel_rfl) (by kernel_rfl) (by kernel_rfl) (by rfl) (fun _ _ _ h => h) (Or.inl ⟨by rfl, ?_⟩) (fun _ => by assumption) ?_
                            rotate_left
                            · (intro W hSw; (try dsimp only at hSw); go_simp; try (with_reducible rfl))
                            try simp only [Act.put, List.setIfInBounds_toArray, List.set_cons_zero, List.set_cons_succ]
                            refine Rg.anyG_pure (i := 8) (oi := { dst := some 120, op := _, type := _, pos := _, after := _, guard := _ }) (v := .int .i64 ((k : Int) + 1)) rfl (by kernel_rfl) (by kernel_rfl) (by kernel_rfl) (by rfl) (fun _ _ _ h => h) (Or.inl ⟨by rfl, ?_⟩) (fun _ => by assumption) ?_
                            · (intro W hSw; (try dsimp only at hSw); go_simp; try (with_reducible rfl))
                            try simp only [Act.put, List.setIfInBounds_toArray, List.set_cons_zero, List.set_cons_succ]
                            refine Rg.anyG_pure (i := 9) (oi := { dst := some 121, op := _, type := _, pos := _, after := _, guard := _ }) (v := ?_) rfl (by kernel_rfl) (by kernel_rfl) (by kernel_rfl) (by rfl) (fun _ _ _ h => h) (Or.inl ⟨by rfl, ?_⟩) (fun _ => by assumption) ?_
                            rotate_left
                            · (intro W hSw; (try dsimp only at hSw); go_simp; try (with_reducible rfl))
                            try simp only [Act.put, List.setIfInBounds_toArray, List.set_cons_zero, List.set_cons_succ]
                            refine Rg.anyG_take (i := 10) (oi := { dst := some 122, op := _, type := _, pos := _, after := _, guard := _ }) (v := ?_) rfl (by kernel_rfl) (by kernel_rfl) (by kernel_rfl) [17] (by kernel_rfl) (fun _ _ _ h => h) (Or.inl ⟨by rfl, ?_⟩) (by assumption) ?_
                            rotate_left
                            · (intro W hSw; (try dsimp only at hSw); go_simp; try (with_reducible rfl))
                            try simp only [Act.put, List.setIfInBounds_toArray, List.set_cons_zero, List.set_cons_succ]
                            refine Rg.anyG_pure (i := 11) (oi := { dst := some 123, op := _, type := _, pos := _, after := _, guard := _ }) (v := .agg #[.int .i64 x0, .int .i64 x1]) rfl (by kernel_rfl) (by kernel_rfl) (by kernel_rfl) (by rfl) (fun _ _ _ h => h) (Or.inl ⟨by rfl, ?_⟩) (fun _ => by assumption) ?_
                            · (intro W hSw; (try dsimp only at hSw); go_simp; try (with_reducible rfl))
                            try simp only [Act.put, List.setIfInBounds_toArray, List.set_cons_zero, List.set_cons_succ]
                            refine Rg.anyG_pure (i := 12) (oi := { dst := some 124, op := _, type := _, pos := _, after := _, guard := _ }) (v := ?_) rfl (by kernel_rfl) (by kernel_rfl) (by kernel_rfl) (by rfl) (fun _ _ _ h => h) (Or.inl ⟨by rfl, ?_⟩) (fun _ => by assumption) ?_
                            rotate_left
                            · (intro W hSw; (try dsimp only at hSw); go_simp; try (with_reducible rfl))
                            try simp only [Act.put, List.setIfInBounds_toArray, List.set_cons_zero, List.set_cons_succ]
                            refine Rg.anyG_pure (i := 13) (oi := { dst := some 125, op := _, type := _, pos := _, after := _, guard := _ }) (v := .agg #[.int .i64 x0, .int .i64 x1, .int .i64 x9]) rfl (by kernel_rfl) (by kernel_rfl) (by kernel_rfl) (by rfl) (fun _ _ _ h => h) (Or.inl ⟨by rfl, ?_⟩) (fun _ => by assumption) ?_
                            · (intro W hSw; (try dsimp only at hSw); go_simp; try (with_reducible rfl))
                            try simp only [Act.put, List.setIfInBounds_toArray, List.set_cons_zero, List.set_cons_succ]
                            refine Rg.anyG_ready (rs := [14]) (by kernel_rfl) (by simp) ?_
                            refine (Rg.AllG.cons (o := { dst := some 126, op := _, type := _, pos := _, after := _, guard := _ }) rfl (fun K hK => ?_) Rg.AllG.nil)
                            have hal : Below V0.heap.size V0 (V0.alloc (.cells #[.int .i64 x0, .int .i64 x1, .int .i64 x9] 63)) := (Below.refl _ _).alloc (Nat.le_refl _) _
                            have HLA := mkH (own_below HLV.out hal)
                            have HVA := mkH (HVV.out.trans (hal.mono HVV.out.size))
                            have HSR := mkH (newP V0 (x0, x1, x9) 63)
                            obtain ⟨q0, q1, q2⟩ := HCC.out (V0.alloc (.cells #[.int .i64 x0, .int .i64 x1, .int .i64 x9] 63)) HVA.out
                            go_simp
                            refine hK.out _ _ ?_ (fun hHeld => ?_)
                            · exact ⟨q0, q1, q2⟩
                            clear hK K
                            try simp only [Act.put, List.setIfInBounds_toArray, List.set_cons_zero, List.set_cons_succ]
                            clear hal q0 q1 q2
                            refine Rg.anyG_ready (rs := [15]) (by kernel_rfl) (by simp) ?_
                            refine (Rg.AllG.cons (o := { dst := some 127, op := _, type := _, pos := _, after := _, guard := _ }) rfl (fun K hK => ?_) Rg.AllG.nil)
                            refine step_append_own_src (by rfl) (.tmp 113) (.tmp 126) 22 22 (by rfl) (B11 + 1) 63 (.agg #[.int .i64 0, .int .i64 0, .int .i64 0]) 3 24 Try.underlying22 infoP (by rfl) (by decide) (.slice aL 0 cL) (0) (Fp ([] : List Pc)) (by rfl) (by exact HLA.out) (.slice (some ⟨V0.heap.size, 0, none⟩) 1 1) 1 (Fp [(x0, x1, x9)]) (by rfl) (by exact HSR.out) (by unfold maxLen; omega) (by omega) (by have := HVA.out.size; omega) ?_
                            intro v2 w8 hown2 hgrow2
                            have hform := own_form hown2
                            obtain ⟨a8, k8, rfl⟩ := hform
                            have hb8 : Below (B11 + 1) wc w8 := (HVA.out.mono (by omega)).grown hgrow2 (by have := HVA.out.size; omega) (fun j hj => (HLA.out.lt j hj).1)
                            obtain ⟨⟨p0', p1', p2'⟩, z0⟩ := HC2.out w8 hb8
                            have HO8 := mkH hown2
                            have HB8 := mkH hb8
                            clear hown2 hgrow2 hb8
                            refine hK.out _ _ ?_ (fun hHeld => ?_)
                            · exact ⟨p0', p1', p2'⟩
                            clear hK K
                            try simp only [Act.put, List.setIfInBounds_toArray, List.set_cons_zero, List.set_cons_succ]
                            refine Rg.anyG_pure (i := 16) (oi := { dst := some 128, op := _, type := _, pos := _, after := _, guard := _ }) (v := ?_) rfl (by kernel_rfl) (by kernel_rfl) (by kernel_rfl) (by rfl) (fun _ _ _ h => h) (Or.inl ⟨by rfl, ?_⟩) (fun _ => by assumption) ?_
                            rotate_left
                            · (intro W hSw; (try dsimp only at hSw); go_simp; try (with_reducible rfl))
                            try simp only [Act.put, List.setIfInBounds_toArray, List.set_cons_zero, List.set_cons_succ]
                            refine Rg.anyG_ready (rs := [17]) (by kernel_rfl) (by simp) ?_
                            refine Rg.AllG.last (o := { dst := none, op := _, type := _, pos := _, after := _, guard := _ }) rfl (by kernel_rfl) (fun K hK => ?_)
                            go_simp
                            refine hK.out _ _ ?_
                            clear hK K
                            try simp only [Act.put, List.setIfInBounds_toArray, List.set_cons_zero, List.set_cons_succ]
                            refine Rg.anyG_done (by kernel_rfl) ?_ _
                            have hxs := (HXC.out.below HB8.out (Nat.lt_succ_self _))
                            have hst := hxs.set 1 (.slice a8 (0 + 1) k8)
                            have hos := own_fr HO8.out (hxs.frset 1 (.slice a8 (0 + 1) k8)) (fun j hj hq => own_ne HO8.out hxs hj (by decide) hq)
                            have hbs : Below B11 wB (w8.setCell ⟨B11, 1, none⟩ (.slice a8 (0 + 1) k8)) := (HBC.out.trans (HB8.out.mono (by omega))).setCell (Nat.le_refl _) _
                            have hln : (([] : List Pc) ++ [(x0, x1, x9)]).length = 0 + 1 := by simp
                            have hos2 : (w8.setCell ⟨B11, 1, none⟩ (.slice a8 (0 + 1) k8)).ownsRow (B11 + 1) 63 3 (.slice a8 (([] : List Pc) ++ [(x0, x1, x9)]).length k8) (([] : List Pc) ++ [(x0, x1, x9)]).length (Fp (([] : List Pc) ++ [(x0, x1, x9)])) := by
                              rw [hln]
                              show World.ownsRow _ _ _ _ _ _ (Fl pC (([] : List Pc) ++ [(x0, x1, x9)]))
                              rw [Fl_append]; exact hos
                            have hst2 : Bx (w8.setCell ⟨B11, 1, none⟩ (.slice a8 (0 + 1) k8)) B11 #[.int .i64 e, .slice a8 (([] : List Pc) ++ [(x0, x1, x9)]).length k8] 24 := by rw [hln]; exact hst
                            have HS1 := mkH hst2
                            have HS2 := mkH hos2
                            have HS3 := mkH hbs
                            clear hxs hst hos hbs hln hos2 hst2 p0' p1' p2' z0 HO8 HB8
                            go_wp2
                            go_roundw
                            case rel => exact ⟨k + 1, a8, k8, ([] : List Pc) ++ [(x0, x1, x9)], by omega, by go_num, (by first | exact congrArg Value.bool HC9.out.symm | (refine congrArg Value.bool ?_; rw [HC9.out]; simp)), mkH (by rw [HR9.out]; rw [pu_nil _ _ HNE.out]; rfl), HS1, HS2, HS3⟩
                            case measure => simp [intOf]; omega
                          · rw [List.concat_eq_append] at hL
                            subst hL
                            obtain ⟨z1', z2', z3'⟩ := z
                            have hlM : (M ++ [(z1', z2', z3')]).length = M.length + 1 := by simp
                            have HLS := mkH (last_set (own_below HLN.out HE.out))
                            rw [hlM] at HX HCN
                            have HXC := mkH (HX.out.bel HE.out)
                            have HLC0 := own_below HLN.out HE.out
                            rw [hlM] at HLC0 hll
                            have HLC := mkH HLC0
                            have HCC : Hid (∀ W, Below wc.heap.size wc W → W.cell? ⟨B11, 1, none⟩ = some (.slice aL (M.length + 1) cL) ∧ W.cell? ⟨bb, ob + k, none⟩ = some (.int .i64 x0) ∧ W.cell? ⟨bb, ob + (k + 1), none⟩ = some (.int .i64 x1)) := mkH (fun W hb => HCN.out W (HE.out.trans (hb.mono HE.out.size)))
                            obtain ⟨p0, p1, p2⟩ := HCC.out wc (Below.refl _ _)
                            have HC2 : Hid (∀ W, Below (B11 + 1) wc W → (W.cell? ⟨B11, 1, none⟩ = some (.slice aL (M.length + 1) cL) ∧ W.cell? ⟨bb, ob + k, none⟩ = some (.int .i64 x0) ∧ W.cell? ⟨bb, ob + (k + 1), none⟩ = some (.int .i64 x1)) ∧ W.frozen? ⟨B11, 1, none⟩ = false) := mkH (fun W hb => by
                              have u := HXC.out.below hb (Nat.lt_succ_self _)
                              exact ⟨⟨u.cell 1 _ rfl, (hb.cell (p := ⟨bb, ob + k, none⟩) (by show bb < B11 + 1; omega)).trans p1, (hb.cell (p := ⟨bb, ob + (k + 1), none⟩) (by show bb < B11 + 1; omega)).trans p2⟩, u.frozen 1⟩)
                            obtain ⟨g, cg, hv, s2, s1, sf, hg1, hg2, hcg1, hcg2, hset⟩ := HLS.out
                            rw [hlM] at hv
                            simp only [Value.slice.injEq, true_and] at hv
                            obtain ⟨rfl, rfl⟩ := hv
                            have HSE := mkH hset
                            have HPU := mkH (pu_snoc M (z1', z2', z3') (x0, x1) x9 HNE.out)
                            clear HX HLN HCN HLC0 HLS hset hlM
                            have hwm : IntKind.i64.wrap ((M.length : Int) + 1 - 1) = (M.length : Int) := IntWalk.i64_in _ (by omega) |>.trans (by omega)
                            have hwm2 : IntKind.i64.wrap (((M.length + 1 : Nat) : Int) - 1) = (M.length : Int) := IntWalk.i64_in _ (by omega) |>.trans (by omega)
                            have hwm3 : IntKind.i64.wrap (M.length : Int) = (M.length : Int) := IntWalk.i64_in _ (by omega)
                            have hmi : (M.length : Int) < ((M.length + 1 : Nat) : Int) := by omega
                            have hmi2 : (M.length : Int) < (M.length : Int) + 1 := by omega
                            have hmi0 : (0 : Int) ≤ (M.length : Int) := by omega
                            by_cases hzz : z3' = x9
                            · subst hzz
                              have hgB : g ≠ B11 := by omega
                              have hgb : g ≠ bb := by omega
                              have HKL : Hid (∀ (W : World) (v : Value), (W.cell? ⟨B11, 1, none⟩ = some (.slice (some ⟨g, 0, none⟩) (M.length + 1) cL) ∧ W.cell? ⟨bb, ob + (k + 1), none⟩ = some (.int .i64 x1)) → ((W.setCell ⟨g, M.length * 3 + 1, none⟩ v).cell? ⟨B11, 1, none⟩ = some (.slice (some ⟨g, 0, none⟩) (M.length + 1) cL) ∧ (W.setCell ⟨g, M.length * 3 + 1, none⟩ v).cell? ⟨bb, ob + (k + 1), none⟩ = some (.int .i64 x1))) := mkH (fun W v hh => ⟨(cell_other (p := ⟨g, M.length * 3 + 1, none⟩) (a := ⟨B11, 1, none⟩) hgB.symm v).trans hh.1, (cell_other (p := ⟨g, M.length * 3 + 1, none⟩) (a := ⟨bb, ob + (k + 1), none⟩) hgb.symm v).trans hh.2⟩)
                              go_wp2_with fail
                              go_region_held3 (fun W => W.cell? ⟨B11, 1, none⟩ = some (.slice (some ⟨g, 0, none⟩) (M.length + 1) cL) ∧ W.cell? ⟨bb, ob + (k + 1), none⟩ = some (.int .i64 x1)) (first | go_keep | exact HKL.out _ _ (by assumption)) (fail)
                              have hos := (HSE.out x1).1
                              have hgr := (HSE.out x1).2
                              have hfr := fr_grown hgr
                              have hxs : Bx (wc.setCell ⟨g, M.length * 3 + 1, none⟩ (.int .i64 x1)) B11 #[.int .i64 e, .slice (some ⟨g, 0, none⟩) (M ++ [(z1', x1, z3')]).length cL] 24 := by
                                rw [show (M ++ [(z1', x1, z3')]).length = M.length + 1 by simp]
                                exact HXC.out.other (p := ⟨g, M.length * 3 + 1, none⟩) hgB _
                              have hbs : Below B11 wB (wc.setCell ⟨g, M.length * 3 + 1, none⟩ (.int .i64 x1)) := HBC.out.setCell (by show B11 ≤ g; omega) _
                              have hos2 : (wc.setCell ⟨g, M.length * 3 + 1, none⟩ (.int .i64 x1)).ownsRow (B11 + 1) 63 3 (.slice (some ⟨g, 0, none⟩) (M ++ [(z1', x1, z3')]).length cL) (M ++ [(z1', x1, z3')]).length (Fp (M ++ [(z1', x1, z3')])) := by
                                rw [show (M ++ [(z1', x1, z3')]).length = M.length + 1 by simp] at hos ⊢
                                rw [show (M ++ [(z1', z2', z3')]).length = M.length + 1 by simp] at hos
                                exact hos
                              have HS1 := mkH (hxs.bel (Below.refl _ _).drew)
                              have HS2 := mkH (own_below hos2 (Below.refl _ _).drew)
                              have HS3 := mkH hbs.drew
                              clear hos hgr hfr hxs hbs hos2 s1 s2 sf
                              go_wp2
                              go_roundw
                              case rel => exact ⟨k + 1, some ⟨g, 0, none⟩, cL, M ++ [(z1', x1, z3')], by omega, by go_num, (by first | exact congrArg Value.bool HC9.out.symm | (refine congrArg Value.bool ?_; rw [HC9.out]; simp)), mkH (by rw [HR9.out, HPU.out]; simp), HS1, HS2, HS3⟩
                              case measure => simp [intOf]; omega
                            · have hz2 : (z3' == x9) = false := by simp [hzz]
                              go_wp2_with fail
                              refine Rg.region_G hmx 17 (fun W => W.cell? ⟨B11, 1, none⟩ = some (.slice (some ⟨g, 0, none⟩) (M.length + 1) cL) ∧ W.cell? ⟨bb, ob + k, none⟩ = some (.int .i64 x0) ∧ W.cell? ⟨bb, ob + (k + 1), none⟩ = some (.int .i64 x1)) ⟨p0, p1, p2⟩ (fun hHeld => ?_)
                              have HLV := mkH (own_below HLC.out (Below.refl _ _).drew)
                              have HVV : Hid (Below wc.heap.size wc wc.drew) := mkH (Below.refl _ _).drew
                              generalize wc.drew = V0 at *
                              refine Rg.anyG_pure (i := 0) (oi := { dst := some 112, op := _, type := _, pos := _, after := _, guard := _ }) (v := ?_) rfl (by kernel_rfl) (by kernel_rfl) (by kernel_rfl) (by rfl) (fun _ _ _ h => h) (Or.inl ⟨by rfl, ?_⟩) (fun _ => by assumption) ?_
                              rotate_left
                              · (intro W hSw; (try dsimp only at hSw); go_simp; try (with_reducible rfl))
                              try simp only [Act.put, List.setIfInBounds_toArray, List.set_cons_zero, List.set_cons_succ]
                              refine Rg.anyG_take (i := 1) (oi := { dst := some 113, op := _, type := _, pos := _, after := _, guard := _ }) (v := ?_) rfl (by kernel_rfl) (by kernel_rfl) (by kernel_rfl) [17] (by kernel_rfl) (fun _ _ _ h => h) (Or.inl ⟨by rfl, ?_⟩) (by assumption) ?_
                              rotate_left
                              · (intro W hSw; (try dsimp only at hSw); go_simp; try (with_reducible rfl))
                              try simp only [Act.put, List.setIfInBounds_toArray, List.set_cons_zero, List.set_cons_succ]
                              refine Rg.anyG_pure (i := 2) (oi := { dst := some 114, op := _, type := _, pos := _, after := _, guard := _ }) (v := ?_) rfl (by kernel_rfl) (by kernel_rfl) (by kernel_rfl) (by rfl) (fun _ _ _ h => h) (Or.inl ⟨by rfl, ?_⟩) (fun _ => by assumption) ?_
                              rotate_left
                              · (intro W hSw; (try dsimp only at hSw); go_simp; try (with_reducible rfl))
                              try simp only [Act.put, List.setIfInBounds_toArray, List.set_cons_zero, List.set_cons_succ]
                              refine Rg.anyG_pure (i := 3) (oi := { dst := some 115, op := _, type := _, pos := _, after := _, guard := _ }) (v := ?_) rfl (by kernel_rfl) (by kernel_rfl) (by kernel_rfl) (by rfl) (fun _ _ _ h => h) (Or.inl ⟨by rfl, ?_⟩) (fun _ => by assumption) ?_
                              rotate_left
                              · (intro W hSw; (try dsimp only at hSw); go_simp; try (with_reducible rfl))
                              try simp only [Act.put, List.setIfInBounds_toArray, List.set_cons_zero, List.set_cons_succ]
                              refine Rg.anyG_pure (i := 4) (oi := { dst := some 116, op := _, type := _, pos := _, after := _, guard := _ }) (v := ?_) rfl (by kernel_rfl) (by kernel_rfl) (by kernel_rfl) (by rfl) (fun _ _ _ h => h) (Or.inl ⟨by rfl, ?_⟩) (fun _ => by assumption) ?_
                              rotate_left
                              · (intro W hSw; (try dsimp only at hSw); go_simp; try (with_reducible rfl))
                              try simp only [Act.put, List.setIfInBounds_toArray, List.set_cons_zero, List.set_cons_succ]
                              refine Rg.anyG_take (i := 5) (oi := { dst := some 117, op := _, type := _, pos := _, after := _, guard := _ }) (v := ?_) rfl (by kernel_rfl) (by kernel_rfl) (by kernel_rfl) [17] (by kernel_rfl) (fun _ _ _ h => h) (Or.inl ⟨by rfl, ?_⟩) (by assumption) ?_
                              rotate_left
                              · (intro W hSw; (try dsimp only at hSw); go_simp; try (with_reducible rfl))
                              try simp only [Act.put, List.setIfInBounds_toArray, List.set_cons_zero, List.set_cons_succ]
                              refine Rg.anyG_pure (i := 6) (oi := { dst := some 118, op := _, type := _, pos := _, after := _, guard := _ }) (v := ?_) rfl (by kernel_rfl) (by kernel_rfl) (by kernel_rfl) (by rfl) (fun _ _ _ h => h) (Or.inl ⟨by rfl, ?_⟩) (fun _ => by assumption) ?_
                              rotate_left
                              · (intro W hSw; (try dsimp only at hSw); go_simp; try (with_reducible rfl))
                              try simp only [Act.put, List.setIfInBounds_toArray, List.set_cons_zero, List.set_cons_succ]
                              refine Rg.anyG_pure (i := 7) (oi := { dst := some 119, op := _, type := _, pos := _, after := _, guard := _ }) (v := ?_) rfl (by kernel_rfl) (by kernel_rfl) (by kernel_rfl) (by rfl) (fun _ _ _ h => h) (Or.inl ⟨by rfl, ?_⟩) (fun _ => by assumption) ?_
                              rotate_left
                              · (intro W hSw; (try dsimp only at hSw); go_simp; try (with_reducible rfl))
                              try simp only [Act.put, List.setIfInBounds_toArray, List.set_cons_zero, List.set_cons_succ]
                              refine Rg.anyG_pure (i := 8) (oi := { dst := some 120, op := _, type := _, pos := _, after := _, guard := _ }) (v := .int .i64 ((k : Int) + 1)) rfl (by kernel_rfl) (by kernel_rfl) (by kernel_rfl) (by rfl) (fun _ _ _ h => h) (Or.inl ⟨by rfl, ?_⟩) (fun _ => by assumption) ?_
                              · (intro W hSw; (try dsimp only at hSw); go_simp; try (with_reducible rfl))
                              try simp only [Act.put, List.setIfInBounds_toArray, List.set_cons_zero, List.set_cons_succ]
                              refine Rg.anyG_pure (i := 9) (oi := { dst := some 121, op := _, type := _, pos := _, after := _, guard := _ }) (v := ?_) rfl (by kernel_rfl) (by kernel_rfl) (by kernel_rfl) (by rfl) (fun _ _ _ h => h) (Or.inl ⟨by rfl, ?_⟩) (fun _ => by assumption) ?_
                              rotate_left
                              · (intro W hSw; (try dsimp only at hSw); go_simp; try (with_reducible rfl))
                              try simp only [Act.put, List.setIfInBounds_toArray, List.set_cons_zero, List.set_cons_succ]
                              refine Rg.anyG_take (i := 10) (oi := { dst := some 122, op := _, type := _, pos := _, after := _, guard := _ }) (v := ?_) rfl (by kernel_rfl) (by kernel_rfl) (by kernel_rfl) [17] (by kernel_rfl) (fun _ _ _ h => h) (Or.inl ⟨by rfl, ?_⟩) (by assumption) ?_
                              rotate_left
                              · (intro W hSw; (try dsimp only at hSw); go_simp; try (with_reducible rfl))
                              try simp only [Act.put, List.setIfInBounds_toArray, List.set_cons_zero, List.set_cons_succ]
                              refine Rg.anyG_pure (i := 11) (oi := { dst := some 123, op := _, type := _, pos := _, after := _, guard := _ }) (v := .agg #[.int .i64 x0, .int .i64 x1]) rfl (by kernel_rfl) (by kernel_rfl) (by kernel_rfl) (by rfl) (fun _ _ _ h => h) (Or.inl ⟨by rfl, ?_⟩) (fun _ => by assumption) ?_
                              · (intro W hSw; (try dsimp only at hSw); go_simp; try (with_reducible rfl))
                              try simp only [Act.put, List.setIfInBounds_toArray, List.set_cons_zero, List.set_cons_succ]
                              refine Rg.anyG_pure (i := 12) (oi := { dst := some 124, op := _, type := _, pos := _, after := _, guard := _ }) (v := ?_) rfl (by kernel_rfl) (by kernel_rfl) (by kernel_rfl) (by rfl) (fun _ _ _ h => h) (Or.inl ⟨by rfl, ?_⟩) (fun _ => by assumption) ?_
                              rotate_left
                              · (intro W hSw; (try dsimp only at hSw); go_simp; try (with_reducible rfl))
                              try simp only [Act.put, List.setIfInBounds_toArray, List.set_cons_zero, List.set_cons_succ]
                              refine Rg.anyG_pure (i := 13) (oi := { dst := some 125, op := _, type := _, pos := _, after := _, guard := _ }) (v := .agg #[.int .i64 x0, .int .i64 x1, .int .i64 x9]) rfl (by kernel_rfl) (by kernel_rfl) (by kernel_rfl) (by rfl) (fun _ _ _ h => h) (Or.inl ⟨by rfl, ?_⟩) (fun _ => by assumption) ?_
                              · (intro W hSw; (try dsimp only at hSw); go_simp; try (with_reducible rfl))
                              try simp only [Act.put, List.setIfInBounds_toArray, List.set_cons_zero, List.set_cons_succ]
                              refine Rg.anyG_ready (rs := [14]) (by kernel_rfl) (by simp) ?_
                              refine (Rg.AllG.cons (o := { dst := some 126, op := _, type := _, pos := _, after := _, guard := _ }) rfl (fun K hK => ?_) Rg.AllG.nil)
                              have hal : Below V0.heap.size V0 (V0.alloc (.cells #[.int .i64 x0, .int .i64 x1, .int .i64 x9] 63)) := (Below.refl _ _).alloc (Nat.le_refl _) _
                              have HLA := mkH (own_below HLV.out hal)
                              have HVA := mkH (HVV.out.trans (hal.mono HVV.out.size))
                              have HSR := mkH (newP V0 (x0, x1, x9) 63)
                              obtain ⟨q0, q1, q2⟩ := HCC.out (V0.alloc (.cells #[.int .i64 x0, .int .i64 x1, .int .i64 x9] 63)) HVA.out
                              go_simp
                              refine hK.out _ _ ?_ (fun hHeld => ?_)
                              · exact ⟨q0, q1, q2⟩
                              clear hK K
                              try simp only [Act.put, List.setIfInBounds_toArray, List.set_cons_zero, List.set_cons_succ]
                              clear hal q0 q1 q2
                              refine Rg.anyG_ready (rs := [15]) (by kernel_rfl) (by simp) ?_
                              refine (Rg.AllG.cons (o := { dst := some 127, op := _, type := _, pos := _, after := _, guard := _ }) rfl (fun K hK => ?_) Rg.AllG.nil)
                              refine step_append_own_src (by rfl) (.tmp 113) (.tmp 126) 22 22 (by rfl) (B11 + 1) 63 (.agg #[.int .i64 0, .int .i64 0, .int .i64 0]) 3 24 Try.underlying22 infoP (by rfl) (by decide) (.slice (some ⟨g, 0, none⟩) (M.length + 1) cL) ((M.length + 1)) (Fp (M ++ [(z1', z2', z3')])) (by rfl) (by exact HLA.out) (.slice (some ⟨V0.heap.size, 0, none⟩) 1 1) 1 (Fp [(x0, x1, x9)]) (by rfl) (by exact HSR.out) (by unfold maxLen; omega) (by omega) (by have := HVA.out.size; omega) ?_
                              intro v2 w8 hown2 hgrow2
                              have hform := own_form hown2
                              obtain ⟨a8, k8, rfl⟩ := hform
                              have hb8 : Below (B11 + 1) wc w8 := (HVA.out.mono (by omega)).grown hgrow2 (by have := HVA.out.size; omega) (fun j hj => (HLA.out.lt j hj).1)
                              obtain ⟨⟨p0', p1', p2'⟩, z0⟩ := HC2.out w8 hb8
                              have HO8 := mkH hown2
                              have HB8 := mkH hb8
                              clear hown2 hgrow2 hb8
                              refine hK.out _ _ ?_ (fun hHeld => ?_)
                              · exact ⟨p0', p1', p2'⟩
                              clear hK K
                              try simp only [Act.put, List.setIfInBounds_toArray, List.set_cons_zero, List.set_cons_succ]
                              refine Rg.anyG_pure (i := 16) (oi := { dst := some 128, op := _, type := _, pos := _, after := _, guard := _ }) (v := ?_) rfl (by kernel_rfl) (by kernel_rfl) (by kernel_rfl) (by rfl) (fun _ _ _ h => h) (Or.inl ⟨by rfl, ?_⟩) (fun _ => by assumption) ?_
                              rotate_left
                              · (intro W hSw; (try dsimp only at hSw); go_simp; try (with_reducible rfl))
                              try simp only [Act.put, List.setIfInBounds_toArray, List.set_cons_zero, List.set_cons_succ]
                              refine Rg.anyG_ready (rs := [17]) (by kernel_rfl) (by simp) ?_
                              refine Rg.AllG.last (o := { dst := none, op := _, type := _, pos := _, after := _, guard := _ }) rfl (by kernel_rfl) (fun K hK => ?_)
                              go_simp
                              refine hK.out _ _ ?_
                              clear hK K
                              try simp only [Act.put, List.setIfInBounds_toArray, List.set_cons_zero, List.set_cons_succ]
                              refine Rg.anyG_done (by kernel_rfl) ?_ _
                              have hxs := (HXC.out.below HB8.out (Nat.lt_succ_self _))
                              have hst := hxs.set 1 (.slice a8 ((M.length + 1) + 1) k8)
                              have hos := own_fr HO8.out (hxs.frset 1 (.slice a8 ((M.length + 1) + 1) k8)) (fun j hj hq => own_ne HO8.out hxs hj (by decide) hq)
                              have hbs : Below B11 wB (w8.setCell ⟨B11, 1, none⟩ (.slice a8 ((M.length + 1) + 1) k8)) := (HBC.out.trans (HB8.out.mono (by omega))).setCell (Nat.le_refl _) _
                              have hln : ((M ++ [(z1', z2', z3')]) ++ [(x0, x1, x9)]).length = (M.length + 1) + 1 := by simp
                              have hos2 : (w8.setCell ⟨B11, 1, none⟩ (.slice a8 ((M.length + 1) + 1) k8)).ownsRow (B11 + 1) 63 3 (.slice a8 ((M ++ [(z1', z2', z3')]) ++ [(x0, x1, x9)]).length k8) ((M ++ [(z1', z2', z3')]) ++ [(x0, x1, x9)]).length (Fp ((M ++ [(z1', z2', z3')]) ++ [(x0, x1, x9)])) := by
                                rw [hln]
                                show World.ownsRow _ _ _ _ _ _ (Fl pC ((M ++ [(z1', z2', z3')]) ++ [(x0, x1, x9)]))
                                rw [Fl_append]; exact hos
                              have hst2 : Bx (w8.setCell ⟨B11, 1, none⟩ (.slice a8 ((M.length + 1) + 1) k8)) B11 #[.int .i64 e, .slice a8 ((M ++ [(z1', z2', z3')]) ++ [(x0, x1, x9)]).length k8] 24 := by rw [hln]; exact hst
                              have HS1 := mkH hst2
                              have HS2 := mkH hos2
                              have HS3 := mkH hbs
                              clear hxs hst hos hbs hln hos2 hst2 p0' p1' p2' z0 HO8 HB8
                              go_wp2
                              go_roundw
                              case rel => exact ⟨k + 1, a8, k8, (M ++ [(z1', z2', z3')]) ++ [(x0, x1, x9)], by omega, by go_num, (by first | exact congrArg Value.bool HC9.out.symm | (refine congrArg Value.bool ?_; rw [HC9.out]; simp)), mkH (by rw [HR9.out]; rw [HPU.out, if_neg (fun e => hzz e.symm)]), HS1, HS2, HS3⟩
                              case measure => simp [intOf]; omega
                · have hke : k = bn.length - 1 := by omega
                  have hLe : L = mv (r1, r2) tg [] ps := by rw [HL.out, hke]; exact HRE.out
                  have hCe : chg ps (r1, r2) tg bn k = decide (¬ mv (r1, r2) tg [] ps = ps) := by rw [hke]; exact HCE.out
                  obtain ⟨⟨u0, -, u2⟩, -, -, hbw⟩ := HKW.out
                  have hon : w.heap.size ≤ wB.heap.size + 1 := by omega
                  have HOP : Hid (OwP wr w.heap.size aL cL L) := mkH ⟨own_mono HLN.out hon⟩
                  obtain ⟨n0, n1, -, -⟩ := two_load (P := Try.prog) u0
                  obtain ⟨m0, m1, m2, m3⟩ := two_load (P := Try.prog) u2
                  obtain ⟨l0, l1, l2, -⟩ := two_load (P := Try.prog) HX.out
                  have HU2 := mkH u2
                  have HBW := mkH hbw
                  have HXX := HX
                  have hi9 : ¬ ((k : Int) + 1 < (bn.length : Int)) := by omega
                  clear u0 u2 hbw HK HKW HRI HL HLN HX HB
                  by_cases hmm : mv (r1, r2) tg [] ps = ps
                  · have hcf : chg ps (r1, r2) tg bn k = false := by rw [hCe]; simp [hmm]
                    have HE : Hid (q = (e, L, 0)) := mkH (by rw [HQ.out]; unfold mvE; rw [if_pos ⟨HM.out, HMR.out, HMS.out⟩, if_pos hmm, hLe, hmm])
                    rw [hcf]
                    obtain ⟨f1, f2, y0, y1⟩ := move_fin HU2.out HOP.out HBW.out (by omega) e
                    have HF1 := mkH f1
                    have HF2 := mkH f2
                    clear f1 f2 hmm hcf hCe hLe HQ
                    go_wp2
                    rw [HE.out]
                    exact bodyPost_ret (v := .tuple #[.agg #[.int .i64 e, .slice aL L.length cL], .int .i64 0]) (res_ct rfl _ _ _ (x := .agg #[.int .i64 e, .slice aL L.length cL]) (y := .int .i64 0) (b := ⟨w.heap.size + 2, 0, none⟩) (by rfl) (by rfl) (by simp [loadVar, go_sem, y0, y1])) rfl ⟨aL, cL, rfl, HF1.out, HF2.out⟩
                  · have hcf : chg ps (r1, r2) tg bn k = true := by rw [hCe]; simp [hmm]
                    rw [hcf]
                    by_cases he2 : e = 1099511627776
                    · subst he2
                      have HE : Hid (q = (0, [], 7)) := mkH (by rw [HQ.out]; unfold mvE; rw [if_pos ⟨HM.out, HMR.out, HMS.out⟩, if_neg hmm, if_pos rfl])
                      have k1 := HU2.out.set 0 (.int .i64 0)
                      have k2 := k1.set 1 (.slice none 0 0)
                      obtain ⟨y0, y1, -, -⟩ := two_load (P := Try.prog) k2
                      have HBF := mkH ((HBW.out.setCell (p := ⟨w.heap.size + 2, 0, none⟩) (by simp) (.int .i64 0)).setCell (p := ⟨w.heap.size + 2, 1, none⟩) (by simp) (.slice none 0 0))
                      clear k1 k2 HQ hmm hcf hCe hLe
                      go_wp2
                      rw [HE.out]
                      exact bodyPost_ret (v := .tuple #[.agg #[.int .i64 0, .slice none 0 0], .int .i64 7]) (res_ct rfl _ _ _ (x := .agg #[.int .i64 0, .slice none 0 0]) (y := .int .i64 7) (b := ⟨w.heap.size + 2, 0, none⟩) (by rfl) (by rfl) (by simp [loadVar, go_sem, y0, y1])) rfl (chP_zero 7 HBF.out)
                    · have HE : Hid (q = (e + 1, L, 0)) := mkH (by rw [HQ.out]; unfold mvE; rw [if_pos ⟨HM.out, HMR.out, HMS.out⟩, if_neg hmm, if_neg he2, hLe])
                      have k1 := HXX.out.set 0 (.int .i64 (e + 1))
                      have G2 := mkH (HU2.out.other (p := ⟨wB.heap.size, 0, none⟩) (by simp; omega) (.int .i64 (e + 1)))
                      have HO10 : Hid (OwP (wr.setCell ⟨wB.heap.size, 0, none⟩ (.int .i64 (e + 1))) w.heap.size aL cL L) := mkH ⟨own_fr HOP.out.o (HXX.out.frset 0 _) (fun k hk hq => own_ne HOP.out.o HXX.out hk (by decide) hq)⟩
                      have HB10 := mkH (HBW.out.setCell (p := ⟨wB.heap.size, 0, none⟩) (by simp; omega) (.int .i64 (e + 1)))
                      obtain ⟨v0, v1, -, -⟩ := two_load (P := Try.prog) k1
                      obtain ⟨m4, m5, m6, m7⟩ := two_load (P := Try.prog) G2.out
                      have hw : IntKind.i64.wrap (e + 1) = e + 1 := IntWalk.i64_in _ (by omega)
                      obtain ⟨f1, f2, y0, y1⟩ := move_fin G2.out HO10.out HB10.out (by omega) (e + 1)
                      have HF1 := mkH f1
                      have HF2 := mkH f2
                      clear f1 f2 k1 hmm hcf hCe hLe HQ m0 m1 m2 m3
                      go_wp2
                      rw [HE.out]
                      exact bodyPost_ret (v := .tuple #[.agg #[.int .i64 (e + 1), .slice aL L.length cL], .int .i64 0]) (res_ct rfl _ _ _ (x := .agg #[.int .i64 (e + 1), .slice aL L.length cL]) (y := .int .i64 0) (b := ⟨w.heap.size + 2, 0, none⟩) (by rfl) (by rfl) (by simp [loadVar, go_sem, y0, y1])) rfl ⟨aL, cL, rfl, HF1.out, HF2.out⟩
end Go.Proofs.Ytcpmcfagibmboaa.Cj
