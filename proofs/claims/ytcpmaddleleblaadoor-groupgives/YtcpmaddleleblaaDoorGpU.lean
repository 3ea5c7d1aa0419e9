/-
  The document's Copy and Flying.
-/
import Derived.Test.YtcpmaddleleblaaDoorGpG
namespace Go.Proofs.YtcpmaddleleblaaDoor.Gu
open Go.RowKit Kt Gf Gp Gr Gk Ga Gs Gb Gg
set_option linter.unusedVariables false
set_option linter.unusedSimpArgs false
set_option maxRecDepth 20000

set_option maxHeartbeats 2000000 in
theorem rcopy_any (w : World) (g : G) (ka : Option Addr) (kc : Nat) (ma : Option Addr) (mc : Nat) (h : Gl w g ka kc ma mc) (hk : g.kept.length ≤ 1000000000) (hm : g.marks.length ≤ 1000000000) :
    Calls Tryd.prog 34 #[.agg (gC g ka kc ma mc)] w fun e w' => ∃ ka' kc' ma' mc', e = .returned (.agg (gC g ka' kc' ma' mc')) ∧ Go' w.heap.size w' g ka' kc' ma' mc' ∧ Below w.heap.size w w' := by
  obtain ⟨nx, kp, mk, at'⟩ := g
  simp only [gC] at *
  have HL := mkH h
  clear h
  have HZ := mkH (Bx.new1 w (.cells #[Value.int .i64 nx, .slice ka kp.length kc, .slice ma mk.length mc, .string at'] 25) #[Value.int .i64 0, .slice none 0 0, .slice none 0 0, .string ⟨#[]⟩] 25)
  have HB := mkH ((Bx.new w #[Value.int .i64 nx, .slice ka kp.length kc, .slice ma mk.length mc, .string at'] 25).alloc (.cells #[Value.int .i64 0, .slice none 0 0, .slice none 0 0, .string ⟨#[]⟩] 25))
  have H0 : Hid (Below w.heap.size w ((w.alloc (.cells #[Value.int .i64 nx, .slice ka kp.length kc, .slice ma mk.length mc, .string at'] 25)).alloc (.cells #[Value.int .i64 0, .slice none 0 0, .slice none 0 0, .string ⟨#[]⟩] 25))) := ((Below.refl _ w).alloc (Nat.le_refl _) _).alloc (by simp) _
  have HS : Hid (((w.alloc (.cells #[Value.int .i64 nx, .slice ka kp.length kc, .slice ma mk.length mc, .string at'] 25)).alloc (.cells #[Value.int .i64 0, .slice none 0 0, .slice none 0 0, .string ⟨#[]⟩] 25)).heap.size = w.heap.size + 2) := by unfold Hid; simp
  go_enter Tryd.func34, Tryd.ntmps34
  go_upto_region 1 with fail
  generalize (w.alloc (.cells #[Value.int .i64 nx, .slice ka kp.length kc, .slice ma mk.length mc, .string at'] 25)).alloc (.cells #[Value.int .i64 0, .slice none 0 0, .slice none 0 0, .string ⟨#[]⟩] 25) = w0 at *
  obtain ⟨R, hR⟩ : ∃ R, w.heap.size + 1 = R := ⟨_, rfl⟩
  rw [hR] at HZ ⊢
  have h4 := HS.out
  have r1 : w.heap.size < R := by omega
  have r2 : R < w0.heap.size := by omega
  have n1 : ¬ w.heap.size = R := by omega
  have n2 : ¬ R = w.heap.size := by omega
  have n3 : ¬ w.heap.size = w0.heap.size := by omega
  have n4 : ¬ R = w0.heap.size := by omega
  clear hR h4 HS
  have hal : Below w0.heap.size w0 (w0.alloc (.cells #[] 61)) := (Below.refl _ w0).alloc (Nat.le_refl _) _
  have HSr := mkH (srcK ((HL.out.k.below H0.out).below hal) kc)
  have hmade := World.ownsRow_made (e := 61) (size := 6) w0 #[] 0 (Nat.le_refl _) (Nat.zero_le _) rfl
  have HM := mkH hmade
  have HB1 := mkH (HB.out.bel hal)
  have HZ1 := mkH (HZ.out.bel hal)
  have H1 : Hid (Below w.heap.size w (w0.alloc (.cells #[] 61))) := H0.out.trans (hal.mono H0.out.size)
  obtain ⟨d0, d1, d2, d3, -⟩ := HB1.out.four
  have hby : kp.length * 56 ≤ 140737488355328 := by omega
  have HSz : Hid ((w0.alloc (.cells #[] 61)).heap.size = w0.heap.size + 1) := by unfold Hid; simp
  clear hal hmade
  go_wp2_with (at_builtin; refine (wpList_append_own_src _ rfl (.tmp 3) (.tmp 5) 22 22 rfl w0.heap.size 61 _ 6 56 Tryd.underlying22 infoK rfl (by decide) _ 0 [] rfl HM.out _ kp.length (Fk kp) rfl HSr.out ?h63 ?hby2 ?hbs ?_))
  case h63 => unfold maxLen; omega
  try (case hbs => have := HSz.out; omega)
  intro v2 w2 hown hgr
  try rw [Nat.zero_add, List.nil_append] at hown
  obtain ⟨a2, c2, rfl⟩ := own_form hown
  have hf := fr_grown hgr
  have hw2 : w0.heap.size + 1 ≤ w2.heap.size := by have := hf.size; have := HSz.out; omega
  have hmk : ∀ k, (Value.slice (some ⟨w0.heap.size, 0, none⟩) 0 0).ownBlock = some k → k = w0.heap.size := fun k hk => by simp [Value.ownBlock] at hk; omega
  have hB2 := HB1.out.fr hf (fun hk => by have := hmk _ hk; omega)
  have hZ2 := HZ1.out.fr hf (fun hk => by have := hmk _ hk; omega)
  have HB2 := mkH (below_fr H1.out hf (fun k hk => by have := hmk _ hk; have := H0.out.size; omega) (Nat.le_refl _))
  obtain ⟨d0, d1, d2, d3, f0, f1, f2, f3⟩ := hB2.four
  have HK2 := mkH hown
  have HX2 := mkH hB2
  have HZ2 := mkH hZ2
  clear hown hgr hf hB2 hZ2 HM HSr HB1 HZ1 H1 HSz
  go_upto_region 2 with fail
  have hB3 := HX2.out.s1 (.slice a2 kp.length c2)
  have hF3 := HX2.out.frset 1 (.slice a2 kp.length c2)
  have hZ3 := HZ2.out.fr hF3 n2
  have hK3 := own_fr HK2.out hF3 (fun k hk hk2 => by have := (HK2.out.lt k hk).1; have := H0.out.size; omega)
  have HB3 := mkH (below_fr HB2.out hF3 (fun k hk => by omega) (Nat.le_refl _))
  generalize w2.setCell ⟨w.heap.size, 1, none⟩ (.slice a2 kp.length c2) = w3 at *
  have hw3 : w0.heap.size + 1 ≤ w3.heap.size := by have := hF3.size; omega
  have n5 : ¬ w.heap.size = w3.heap.size := by omega
  have n6 : ¬ R = w3.heap.size := by omega
  have hal : Below w3.heap.size w3 (w3.alloc (.cells #[] 70)) := (Below.refl _ w3).alloc (Nat.le_refl _) _
  have HSr := mkH (srcM ((HL.out.m.below HB3.out).below hal) mc)
  have HM := mkH (World.ownsRow_made (e := 70) (size := 3) w3 #[] 0 (Nat.le_refl _) (Nat.zero_le _) rfl)
  have HX4 := mkH (hB3.bel hal)
  have HZ4 := mkH (hZ3.bel hal)
  have HK4 := mkH (own_below hK3 hal)
  have H4 : Hid (Below w.heap.size w (w3.alloc (.cells #[] 70))) := HB3.out.trans (hal.mono HB3.out.size)
  have hbm : mk.length * 32 ≤ 140737488355328 := by omega
  have HSz4 : Hid ((w3.alloc (.cells #[] 70)).heap.size = w3.heap.size + 1) := by unfold Hid; simp
  have hlk : ∀ k, (Value.slice a2 kp.length c2).ownBlock = some k → w0.heap.size ≤ k ∧ k < w3.heap.size := fun k hk => hK3.lt k hk
  clear d0 d1 d2 d3 f0 f1 f2 f3
  obtain ⟨d0, d1, d2, d3, -⟩ := HX4.out.four
  clear hal hB3 hF3 hZ3 hK3 HX2 HZ2 HK2 HB2
  go_wp2_with (at_builtin; refine (wpList_append_own_src _ rfl (.tmp 8) (.tmp 10) 23 23 rfl w3.heap.size 70 _ 3 32 Tryd.underlying23 infoM rfl (by decide) _ 0 [] rfl HM.out _ mk.length (Fm mk) rfl HSr.out ?h63b ?hby3 ?hbsb ?_))
  try (case h63b => unfold maxLen; omega)
  try (case hbsb => have := HSz4.out; omega)
  intro v5 w5 hown hgr
  try rw [Nat.zero_add, List.nil_append] at hown
  obtain ⟨a5, c5, rfl⟩ := own_form hown
  have hf := fr_grown hgr
  have hmk : ∀ k, (Value.slice (some ⟨w3.heap.size, 0, none⟩) 0 0).ownBlock = some k → k = w3.heap.size := fun k hk => by simp [Value.ownBlock] at hk; omega
  have hX5 := HX4.out.fr hf (fun hk => by have := hmk _ hk; omega)
  have hZ5 := HZ4.out.fr hf (fun hk => by have := hmk _ hk; omega)
  have hK5 := own_fr HK4.out hf (fun k hk hk2 => by have := hmk _ hk2; have := hlk k hk; omega)
  have HB5 := mkH (below_fr H4.out hf (fun k hk => by have := hmk _ hk; have := HB3.out.size; omega) (Nat.le_refl _))
  clear d0 d1 d2 d3
  obtain ⟨d0, d1, d2, d3, f0, f1, f2, f3⟩ := hX5.four
  obtain ⟨e0, e1, e2, e3, g0, g1, g2, g3⟩ := hZ5.four
  have HX5 := mkH hX5
  have HZ5 := mkH hZ5
  have HK5 := mkH hK5
  have HM5 := mkH hown
  clear hown hgr hf hX5 hZ5 hK5 HM HSr HX4 HZ4 HK4 H4 HSz4
  go_wp2
  have hB6 := HX5.out.s2 (.slice a5 mk.length c5)
  have hF6 := HX5.out.frset 2 (.slice a5 mk.length c5)
  have hZ6 := HZ5.out.fr hF6 n2
  generalize w5.setCell ⟨w.heap.size, 2, none⟩ (.slice a5 mk.length c5) = w6 at *
  obtain ⟨hR7, hF7⟩ := hZ6.sAll (v0 := .int .i64 nx) (v1 := .slice a2 kp.length c2) (v2 := .slice a5 mk.length c5) (v3 := .string at')
  generalize (((w6.setCell ⟨R, 0, none⟩ (.int .i64 nx)).setCell ⟨R, 1, none⟩ (.slice a2 kp.length c2)).setCell ⟨R, 2, none⟩ (.slice a5 mk.length c5)).setCell ⟨R, 3, none⟩ (.string at') = w7 at *
  have hs0 := H0.out.size
  refine bodyPost_ret (res_c rfl _ _ _ rfl (loadG hR7)) rfl ⟨a2, c2, a5, c5, rfl, ⟨?_, ?_⟩, ?_⟩
  · exact own_mono (own_fr (own_fr HK5.out hF6 (fun k hk hk2 => by have := hlk k hk; omega)) hF7 (fun k hk hk2 => by have := hlk k hk; omega)) (by omega)
  · exact own_mono (own_fr (own_fr HM5.out hF6 (fun k hk hk2 => by have := (HM5.out.lt k hk).1; omega)) hF7 (fun k hk hk2 => by have := (HM5.out.lt k hk).1; omega)) (by omega)
  · exact below_fr (below_fr HB5.out hF6 (fun k hk => by omega) (Nat.le_refl _)) hF7 (fun k hk => by omega) (Nat.le_refl _)

set_option maxHeartbeats 1000000 in
theorem rflying_any (w : World) (g : G) (ka : Option Addr) (kc : Nat) (ma : Option Addr) (mc : Nat) (h : Gl w g ka kc ma mc) (hk : g.kept.length ≤ 1000000000) (now : Int) :
    Calls Tryd.prog 35 #[.agg (gC g ka kc ma mc), .int .i64 now] w fun e w' => e = .returned (.bool (flying g now)) ∧ Below w.heap.size w w' := by
  obtain ⟨nx, kp, mk, at'⟩ := g
  simp only [gC] at *
  have HL := mkH h
  have HB := mkH (Bx.new w #[Value.int .i64 nx, .slice ka kp.length kc, .slice ma mk.length mc, .string at'] 25)
  have H0 : Hid (Below w.heap.size w (w.alloc (.cells #[Value.int .i64 nx, .slice ka kp.length kc, .slice ma mk.length mc, .string at'] 25))) := (Below.refl _ w).alloc (Nat.le_refl _) _
  obtain ⟨F, hF⟩ : ∃ F, flying ⟨nx, kp, mk, at'⟩ now = F := ⟨_, rfl⟩
  have HF := mkH hF
  rw [hF]
  clear h hF
  go_enter Tryd.func35, Tryd.ntmps35
  go_wp2_with fail
  generalize w.alloc (.cells #[Value.int .i64 nx, .slice ka kp.length kc, .slice ma mk.length mc, .string at'] 25) = w0 at *
  go_loopw [5] (fun i WW => WW = w0 ∧ ∃ j : Nat, j ≤ kp.length ∧ i = .int .i64 (j : Int) ∧ Hid (∀ k x, k < j → kp[k]? = some x → fly now x = false)) (fun i _ => kp.length - (intOf i).toNat)
  case atStart => exact ⟨rfl, 0, Nat.zero_le _, rfl, mkH (fun k x hk => by omega)⟩
  case round =>
    obtain ⟨hwr, j, hj, rfl, HN⟩ := hrel
    have hwr2 := hwr.symm
    subst hwr2
    clear hwr
    obtain ⟨m0, m1, m2, m3, -⟩ := HB.out.four
    rcases Nat.lt_or_ge j kp.length with hjl | hjl
    · obtain ⟨x, hx⟩ := some_of hjl
      obtain ⟨b, off, rfl, z0, z1, z2, z3, z4, z5⟩ := atK (HL.out.k.below H0.out) hx
      have jz : (j : Int) < (kp.length : Int) := by omega
      have HX := mkH hx
      clear hx
      by_cases hfl : now < x.till
      · have t1 : decide (now < x.till) = true := by simpa using hfl
        have q : true = F := by
          rw [← HF.out]; unfold flying
          symm; rw [List.any_eq_true]
          exact ⟨x, List.mem_of_getElem? HX.out, t1⟩
        subst q
        obtain ⟨x0, x1, x2, x3, x4, x5⟩ := x
        simp only at z0 z1 z2 z3 z4 z5 t1 hfl
        go_wp2
        go_ret
        exact ⟨rfl, H0⟩
      · have t1 : decide (now < x.till) = false := by simpa using hfl
        have HT : Hid (fly now x = false) := t1
        obtain ⟨x0, x1, x2, x3, x4, x5⟩ := x
        simp only at z0 z1 z2 z3 z4 z5 t1 hfl
        go_wp2
        go_roundw
        case rel => exact ⟨trivial, j + 1, by omega, by go_num, mkH (fun k y hk hy => by
          rcases Nat.lt_or_ge k j with h | h
          · exact HN.out k y h hy
          · obtain rfl : k = j := by omega
            rw [HX.out] at hy; cases hy; exact HT.out)⟩
        case measure => simp [intOf]; omega
    · obtain rfl : j = kp.length := by omega
      have q : false = F := by
        rw [← HF.out]; unfold flying
        symm; rw [List.any_eq_false]
        intro x hx
        obtain ⟨k, hk⟩ := List.getElem?_of_mem hx
        rw [HN.out k x (lt_of hk) hk]; simp
      subst q
      go_wp2
      go_ret
      exact ⟨rfl, H0⟩
end Go.Proofs.YtcpmaddleleblaaDoor.Gu
