/-
  The walk of GroupBack.
-/
import Derived.Test.YtcpmaddleleblaaDoorGpX
import Derived.Test.YtcpmaddleleblaaDoorGpSm
import Derived.Test.YtcpmaddleleblaaDoorGpT2
import Derived.Test.YtcpmaddleleblaaDoorGpW
import Derived.Test.YtcpmaddleleblaaDoorGpSt
import Derived.Test.YtcpmaddleleblaaDoorGpDo
import Derived.Test.YtcpmaddleleblaaDoorGpDu
namespace Go.Proofs.YtcpmaddleleblaaDoor.Gbk
open Go.RowKit Kt Gf Gp Gr Gk Ga Gs Gb Gg Gm Gn Gx Gdp Gdo Gst Gdu
set_option linter.unusedVariables false
set_option linter.unusedSimpArgs false
set_option maxRecDepth 20000

theorem dg_few (g : G) : Dg (fewG g) := by
  have nn : ∀ n, Nn (nm n) := fun n => by have := nm_bd n; unfold Nn; omega
  have cs : ∀ s k, k ≤ 4096 → (cutS s k).size ≤ 4096 := fun s k hk => by have := cutS_size s k; omega
  have hl := few_len g
  refine ⟨nn _, fun m hm => ?_, fun m hm => ?_, by omega, by omega, cs _ _ (by omega)⟩
  · obtain ⟨x, -, rfl⟩ := List.mem_map.1 hm
    exact ⟨nn _, nn _, nn _, nn _, nn _, cs _ _ (by omega)⟩
  · obtain ⟨x, -, rfl⟩ := List.mem_map.1 hm
    exact ⟨cs _ _ (by omega), nn _, nn _⟩
theorem rem_bd (c : Int) (n : Nat) (hn : 0 < n) : -(n : Int) < c.tmod n ∧ c.tmod n < n := by
  have h1 := Int.tmod_lt_of_pos c (b := (n : Int)) (by omega)
  have h2 := Int.lt_tmod_of_pos c (b := (n : Int)) (by omega)
  omega
theorem rem_nat (c : Int) (n : Nat) (hn : 0 < n) : ∃ i : Nat, (c.tmod n + n).tmod n = (i : Int) ∧ i < n := by
  have h := rem_bd c n hn
  have h0 : 0 ≤ (c.tmod n + n).tmod n := Int.tmod_nonneg _ (by omega)
  have h2 := rem_bd (c.tmod n + n) n hn
  exact ⟨((c.tmod n + n).tmod n).toNat, by omega, by omega⟩

set_option maxHeartbeats 4000000 in
theorem back_walk (w : World) (g : G) (ka : Option Addr) (kc : Nat) (ma : Option Addr) (mc : Nat) (h : Gl w g ka kc ma mc) (cut : Int) :
    Calls Tryd.prog 5 #[.agg (gC g ka kc ma mc), .int .i64 cut] w fun e w' => e = .returned (.bool true) ∧ Below w.heap.size w w' := by
  have HL := mkH h
  clear h
  have hdg := dg_few g
  obtain ⟨n1, k1, m1, t1, hfg, -, hk1, hm1⟩ := few_g g
  rw [hfg] at hdg
  have HDG := mkH hdg
  have HFG := mkH hfg
  clear hdg hfg
  obtain ⟨nx, kp, mk, at'⟩ := g
  simp only [gC]
  have HA : Hid (Below w.heap.size w (w.alloc (.cells #[Value.int .i64 nx, .slice ka kp.length kc, .slice ma mk.length mc, .string at'] 25))) := (Below.refl _ w).alloc (Nat.le_refl _) _
  have HB3 := mkH (Bx.new w #[Value.int .i64 nx, .slice ka kp.length kc, .slice ma mk.length mc, .string at'] 25)
  go_enter Tryd.func5, Tryd.ntmps5
  go_upto_region 1 with fail
  generalize w.alloc (.cells #[Value.int .i64 nx, .slice ka kp.length kc, .slice ma mk.length mc, .string at'] 25) = w0 at *
  have hFW := Few_any w0 ⟨nx, kp, mk, at'⟩ ka kc ma mc (HL.out.below HA.out)
  rw [HFG.out] at hFW
  simp only [gC] at hFW
  have HFW := mkH hFW
  clear hFW
  obtain ⟨y0, y1, y2, y3, -⟩ := HB3.out.four
  go_wp2_with fail
  refine HFW.out.mono ?_
  rintro e w1 ⟨ka1, kc1, ma1, mc1, rfl, hg1, hb1⟩
  have HG1 := mkH hg1
  have HC3 := mkH (HB3.out.bel hb1)
  have HB1 : Hid (Below w.heap.size w w1) := HA.out.trans (hb1.mono HA.out.size)
  have hw0 : w.heap.size < w0.heap.size := HB3.out.lt
  clear hb1 hg1 HFW HB3 HA HL y0 y1 y2 y3
  obtain ⟨f0, f1, f2, f3, v0, v1, v2, v3⟩ := HC3.out.four
  go_upto_region 2 with fail
  obtain ⟨p1, q1⟩ := HC3.out.sAll (v0 := .int .i64 n1) (v1 := .slice ka1 k1.length kc1) (v2 := .slice ma1 m1.length mc1) (v3 := .string t1)
  have hlt : ∀ k, w0.heap.size ≤ k → k ≠ w.heap.size := fun k hk => by omega
  have k2 := own_fr HG1.out.k q1 (fun k hk e => hlt k (HG1.out.k.lt k hk).1 e)
  have l2 := own_fr HG1.out.m q1 (fun k hk e => hlt k (HG1.out.m.lt k hk).1 e)
  have HG2 := mkH (Gin.mk (g := ⟨n1, k1, m1, t1⟩) p1 (Go'.gl (B := w0.heap.size) ⟨k2, l2⟩))
  have HB2 := mkH (below_fr HB1.out q1 (fun k hk => by omega) (Nat.le_refl _))
  clear p1 q1 hlt k2 l2 HG1 HB1 HC3 f0 f1 f2 f3 v0 v1 v2 v3
  generalize ((((w1.setCell _ _).setCell _ _).setCell _ _).setCell _ _) = w2 at *
  obtain ⟨dE, hdE⟩ : ∃ x, dumpE ⟨n1, k1, m1, t1⟩ = x := ⟨_, rfl⟩
  obtain ⟨dS, hdS⟩ : ∃ x, dumpS ⟨n1, k1, m1, t1⟩ = x := ⟨_, rfl⟩
  have hD := Dump_ok w2 ⟨n1, k1, m1, t1⟩ ka1 kc1 ma1 mc1 HG2.out.l HDG.out dE dS hdE hdS
  simp only [gC] at hD
  have HD := mkH hD
  clear hD
  obtain ⟨y0, y1, y2, y3, -⟩ := HG2.out.b.four
  go_wp2_with fail
  refine HD.out.mono ?_
  rintro e w3 ⟨rfl, hb3⟩
  have HG3 := mkH (HG2.out.below hb3)
  have HB3 : Hid (Below w.heap.size w w3) := HB2.out.trans (hb3.mono HB2.out.size)
  clear hb3 HD HG2 HB2 y0 y1 y2 y3
  by_cases hlen : 4096 < (encG ⟨n1, k1, m1, t1⟩).length
  · obtain rfl : dE = 3 := by rw [← hdE]; exact if_pos hlen
    obtain rfl : dS = ⟨#[]⟩ := by rw [← hdS]; exact if_pos hlen
    clear hdE hdS
    go_wp2_with fail
    refine (Gw.works_any w3).mono ?_
    rintro e w4 ⟨rfl, hb4⟩
    go_wp2
    go_ret
    exact ⟨rfl, HB3.out.trans (hb4.mono HB3.out.size)⟩
  · obtain rfl : dE = 0 := by rw [← hdE]; exact if_neg hlen
    have hSe : S (encG ⟨n1, k1, m1, t1⟩) = dS := by rw [← hdS]; exact (if_neg hlen).symm
    clear hdE hdS
    obtain ⟨E, hE⟩ : ∃ x, encG ⟨n1, k1, m1, t1⟩ = x := ⟨_, rfl⟩
    have hpos := encG_pos ⟨n1, k1, m1, t1⟩
    have hback := load_back HDG.out
    have hmore := load_more HDG.out 97 []
    have hexG : ∀ l, ∃ x, Gdp.loadG l = x := fun l => ⟨_, rfl⟩
    have hcutE := fun i hi => load_cut HDG.out (i := i) hi
    rw [hE] at hlen hSe hpos hback hmore hcutE
    clear hE
    have hsz : dS.size = E.length := by rw [← hSe]; simp [S, ByteArray.size]
    have hls : dS.data.toList = E := by rw [← hSe]; simp [S]
    clear hSe
    have hL1 := Load_any w3 dS (by omega) ⟨n1, k1, m1, t1⟩ 0 (by rw [hls]; exact hback.2) (by rw [hls]; exact hback.1)
    have HL1 := mkH hL1
    clear hL1 hback
    go_wp2_with fail
    refine HL1.out.mono ?_
    rintro e w4 ⟨ka4, kc4, ma4, mc4, rfl, hg4, hb4⟩
    simp only [gC]
    have hal : Below w4.heap.size w4 (w4.alloc (.cells #[Value.int .i64 n1, .slice ka4 k1.length kc4, .slice ma4 m1.length mc4, .string t1] 25)) := (Below.refl _ w4).alloc (Nat.le_refl _) _
    have hb4a : Below w3.heap.size w3 (w4.alloc (.cells #[Value.int .i64 n1, .slice ka4 k1.length kc4, .slice ma4 m1.length mc4, .string t1] 25)) := hb4.trans (hal.mono hb4.size)
    have HX4 := mkH (Gin.mk (g := ⟨n1, k1, m1, t1⟩) (Bx.new w4 #[Value.int .i64 n1, .slice ka4 k1.length kc4, .slice ma4 m1.length mc4, .string t1] 25) (hg4.below hal))
    have HG4 := mkH (HG3.out.below hb4a)
    have HB4 : Hid (Below w.heap.size w (w4.alloc (.cells #[Value.int .i64 n1, .slice ka4 k1.length kc4, .slice ma4 m1.length mc4, .string t1] 25))) := HB3.out.trans (hb4a.mono HB3.out.size)
    clear hg4 hb4 hal hb4a HL1 HG3 HB3
    go_upto_region 6 with fail
    generalize w4.alloc (.cells #[Value.int .i64 n1, .slice ka4 k1.length kc4, .slice ma4 m1.length mc4, .string t1] 25) = w5 at *
    obtain ⟨B4, hB4⟩ : ∃ x, w4.heap.size = x := ⟨_, rfl⟩
    rw [hB4] at HX4 ⊢
    clear hB4
    have hS1 := Gsm.Same_eq w5 ⟨n1, k1, m1, t1⟩ ka1 kc1 ma1 mc1 ka4 kc4 ma4 mc4 HG4.out.l HX4.out.l (by show k1.length ≤ _; omega) (by show m1.length ≤ _; omega)
    simp only [gC] at hS1
    have HS1 := mkH hS1
    clear hS1
    obtain ⟨y0, y1, y2, y3, -⟩ := HG4.out.b.four
    obtain ⟨x0, x1, x2, x3, -⟩ := HX4.out.b.four
    go_wp2_with fail
    refine HS1.out.mono ?_
    rintro e w6 ⟨rfl, hb6⟩
    have HG6 := mkH (HG4.out.below hb6)
    have HX6 := mkH (HX4.out.below hb6)
    have HB6 : Hid (Below w.heap.size w w6) := HB4.out.trans (hb6.mono HB4.out.size)
    clear hb6 HS1 HG4 HX4 HB4 y0 y1 y2 y3 x0 x1 x2 x3
    have hS1 := Gt2.rsame_eq w6 ⟨n1, k1, m1, t1⟩ ka1 kc1 ma1 mc1 ka4 kc4 ma4 mc4 HG6.out.l HX6.out.l (by show k1.length ≤ _; omega) (by show m1.length ≤ _; omega)
    simp only [gC] at hS1
    have HS1 := mkH hS1
    clear hS1
    obtain ⟨y0, y1, y2, y3, -⟩ := HG6.out.b.four
    obtain ⟨x0, x1, x2, x3, -⟩ := HX6.out.b.four
    go_wp2_with fail
    refine HS1.out.mono ?_
    rintro e w7 ⟨rfl, hb7⟩
    have HB7 : Hid (Below w.heap.size w w7) := HB6.out.trans (hb7.mono HB6.out.size)
    clear hb7 HS1 HG6 HX6 HB6 y0 y1 y2 y3 x0 x1 x2 x3
    obtain ⟨L, hL⟩ : ∃ x, E.length = x := ⟨_, rfl⟩
    obtain ⟨i, hi, hiL⟩ := rem_nat cut L (by omega)
    have hr1 := rem_bd cut L (by omega)
    rw [hL] at hsz hlen hpos
    have hL0 : ¬ (L : Int) = 0 := by omega
    go_upto_region 9 with fail
    have hi1 : i ≤ dS.size := by omega
    have hi2 : (i : Int) ≤ (dS.size : Int) := by omega
    have hi0 : (0 : Int) ≤ (i : Int) := by omega
    have hs9 : (dS.extract 0 i).data.toList = E.take i := by
      rw [ByteArray.data_extract, Array.toList_extract, hls]; simp
    have hz9 : (dS.extract 0 i).size ≤ 1000000 := by rw [ByteArray.size_extract]; omega
    obtain ⟨e9, he9⟩ : ∃ x, loadE (E.take i) = x := ⟨_, rfl⟩
    have hn9 : e9 ≠ 0 := by rw [← he9]; exact hcutE i (by omega)
    obtain ⟨g9, hg9⟩ : ∃ x, Gdp.loadG (E.take i) = x := ⟨_, rfl⟩
    have HL9 := mkH (Load_any w7 (dS.extract 0 i) hz9 g9 e9 (by rw [hs9]; exact hg9) (by rw [hs9]; exact he9))
    clear hg9 he9 hs9 hz9
    go_wp2_with fail
    refine HL9.out.mono ?_
    rintro e w9 ⟨ka9, kc9, ma9, mc9, rfl, -, hb9⟩
    obtain ⟨nA9, kA9, mA9, tA9⟩ := g9
    simp only [gC]
    have hal : Below w9.heap.size w9 (w9.alloc (.cells #[Value.int .i64 nA9, .slice ka9 kA9.length kc9, .slice ma9 mA9.length mc9, .string tA9] 25)) := (Below.refl _ w9).alloc (Nat.le_refl _) _
    have HB9 : Hid (Below w.heap.size w (w9.alloc (.cells #[Value.int .i64 nA9, .slice ka9 kA9.length kc9, .slice ma9 mA9.length mc9, .string tA9] 25))) := by
      have h1 := HB7.out.trans (hb9.mono HB7.out.size)
      exact h1.trans (hal.mono h1.size)
    clear hal hb9 HB7
    go_upto_region 10 with fail
    generalize (w9.alloc (.cells #[Value.int .i64 nA9, .slice ka9 kA9.length kc9, .slice ma9 mA9.length mc9, .string tA9] 25)) = W9 at *
    have hs10 : (dS ++ ⟨#[97]⟩).data.toList = E ++ [97] := by rw [ByteArray.data_append]; simp [hls]
    have hz10 : (dS ++ ⟨#[97]⟩).size ≤ 1000000 := by
      rw [ByteArray.size_append]
      have h1 : (⟨#[97]⟩ : ByteArray).size = 1 := rfl
      rw [h1]; omega
    generalize E ++ [97] = F at hs10 hmore
    obtain ⟨g10, hg10⟩ := hexG F
    clear hexG
    have HL10 := mkH (Load_any W9 (dS ++ ⟨#[97]⟩) hz10 g10 5 (by rw [hs10]; exact hg10) (by rw [hs10]; exact hmore))
    have c1 : ¬ 9223372036854775807 < dS.size + 1 := by omega
    have c2 : ¬ 9223372036854775807 ≤ dS.size := by omega
    have c3 : (⟨#[97]⟩ : ByteArray).size = 1 := rfl
    have c4 : ¬ 9223372036854775807 < dS.size + (⟨#[97]⟩ : ByteArray).size := by rw [c3]; omega
    clear hi hr1 hL0 hi0 hi1 hi2 hmore hcutE hls hsz hL hpos hlen hiL HL9
    clear hg10 hs10 hz10
    go_wp2_with fail
    refine HL10.out.mono ?_
    rintro e w10 ⟨ka10, kc10, ma10, mc10, rfl, -, hb10⟩
    obtain ⟨nA10, kA10, mA10, tA10⟩ := g10
    simp only [gC]
    have hal : Below w10.heap.size w10 (w10.alloc (.cells #[Value.int .i64 nA10, .slice ka10 kA10.length kc10, .slice ma10 mA10.length mc10, .string tA10] 25)) := (Below.refl _ w10).alloc (Nat.le_refl _) _
    have HB10 : Hid (Below w.heap.size w (w10.alloc (.cells #[Value.int .i64 nA10, .slice ka10 kA10.length kc10, .slice ma10 mA10.length mc10, .string tA10] 25))) := by
      have h1 := HB9.out.trans (hb10.mono HB9.out.size)
      exact h1.trans (hal.mono h1.size)
    clear hal hb10 HB9
    go_upto_region 11 with fail
    generalize (w10.alloc (.cells #[Value.int .i64 nA10, .slice ka10 kA10.length kc10, .slice ma10 mA10.length mc10, .string tA10] 25)) = W10 at *
    have hn9i : ¬ (e9 : Int) = 0 := by omega
    have hn9b : ((e9 : Int) == 0) = false := by simpa using hn9i
    have hn9c : ((e9 : Int) != 0) = true := by simpa using hn9i
    go_wp2_with fail
    refine (Gw.works_any _).mono ?_
    rintro e w11 ⟨rfl, hb11⟩
    go_wp2
    go_ret
    exact ⟨rfl, HB10.out.trans (hb11.mono HB10.out.size)⟩
end Go.Proofs.YtcpmaddleleblaaDoor.Gbk
