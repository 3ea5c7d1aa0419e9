/-
  GpA QuM, joined by mrg.py.
-/
import Derived.Test.YtgbbajeeelgbhaaGreatDoorSqAB
import Derived.Maps.RangeWalk
import Derived.Maps.Ext
import Derived.DeepKeys4

namespace Go.Proofs.YtgbbajeeelgbhaaGreatDoor.Ga
open Go.RowKit Kt Gf Gp Gr Gk
set_option linter.unusedVariables false
set_option linter.unusedSimpArgs false
set_option maxRecDepth 20000

theorem loadG {w : World} {b : Nat} {a0 a1 a2 a3 : Value} (h : Bx w b #[a0, a1, a2, a3] 126) : (loadVar 126 ⟨b, 0, none⟩).run Tryz.prog w = .ok (.agg #[a0, a1, a2, a3]) w :=
  run_loadVar_row w b 126 126 _ (0, 0) _ h Tryz.underlying126 rfl (by kernel_rfl)

set_option maxHeartbeats 2000000 in
theorem copyOf_any (w : World) (g : G) (ka : Option Addr) (kc : Nat) (ma : Option Addr) (mc : Nat) (h : Gl w g ka kc ma mc) (hk : g.kept.length ≤ 1000000000) (hm : g.marks.length ≤ 1000000000) :
    Calls Tryz.prog 323 #[.agg (gC g ka kc ma mc)] w fun e w' => ∃ ka' kc' ma' mc', e = .returned (.agg (gC g ka' kc' ma' mc')) ∧ Go' w.heap.size w' g ka' kc' ma' mc' ∧ Below w.heap.size w w' := by
  obtain ⟨nx, kp, mk, at'⟩ := g
  simp only [gC] at *
  obtain ⟨cs, hcs⟩ : ∃ cs, #[Value.int .i64 nx, .slice ka kp.length kc, .slice ma mk.length mc, .string at'] = cs := ⟨_, rfl⟩
  have hz := Bx.new1 w (.cells #[Value.int .i64 nx, .slice ka kp.length kc, .slice ma mk.length mc, .string at'] 126) #[.int .i64 0, .slice none 0 0, .slice none 0 0, .string ⟨#[]⟩] 126
  have hB := (Bx.new w #[Value.int .i64 nx, .slice ka kp.length kc, .slice ma mk.length mc, .string at'] 126).alloc (.cells #[.int .i64 0, .slice none 0 0, .slice none 0 0, .string ⟨#[]⟩] 126)
  have hb0 : Below w.heap.size w ((w.alloc (.cells #[Value.int .i64 nx, .slice ka kp.length kc, .slice ma mk.length mc, .string at'] 126)).alloc (.cells #[.int .i64 0, .slice none 0 0, .slice none 0 0, .string ⟨#[]⟩] 126)) := ((Below.refl _ w).alloc (Nat.le_refl _) _).alloc (by simp) _
  have hsz : ((w.alloc (.cells #[Value.int .i64 nx, .slice ka kp.length kc, .slice ma mk.length mc, .string at'] 126)).alloc (.cells #[.int .i64 0, .slice none 0 0, .slice none 0 0, .string ⟨#[]⟩] 126)).heap.size = w.heap.size + 2 := by simp
  have HL := mkH h
  have HZ := mkH hz
  have HB := mkH hB
  have H0 := mkH hb0
  have HS := mkH hsz
  clear h hcs hz hB hb0 hsz
  go_enter Tryz.func323, Tryz.ntmps323
  go_wp2_with fail
  generalize (w.alloc (.cells #[Value.int .i64 nx, .slice ka kp.length kc, .slice ma mk.length mc, .string at'] 126)).alloc (.cells #[.int .i64 0, .slice none 0 0, .slice none 0 0, .string ⟨#[]⟩] 126) = w0 at *
  refine (cloneK_any w0 ka kc kp (HL.out.k.below H0.out) hk).mono ?_
  rintro e w1 ⟨a1, c1, rfl, ho1, hb1⟩
  obtain ⟨d0, d1, d2, d3, f0, f1, f2, f3⟩ := (HB.out.bel hb1).four
  have HB1 := mkH (HB.out.bel hb1)
  have HZ1 := mkH (HZ.out.bel hb1)
  have HO1 := mkH ho1
  have HBl1 := mkH hb1
  clear ho1 hb1 HB HZ
  go_wp2_with fail
  have hB2 := HB1.out.s1 (.slice a1 kp.length c1)
  have hF := HB1.out.frset 1 (.slice a1 kp.length c1)
  generalize w1.setCell ⟨w.heap.size, 1, none⟩ (.slice a1 kp.length c1) = w2 at *
  have hs0 := HS.out
  have hs1 := HBl1.out.size
  have hb02 : Below w.heap.size w w2 := below_fr (H0.out.trans (HBl1.out.mono (by omega))) hF (by intro k hk; omega) (Nat.le_refl _)
  have hZ2 := HZ1.out.fr hF (by omega)
  have hO2 := own_fr HO1.out hF (fun k hk hkw => by have := (HO1.out.lt k hk).1; omega)
  have hM2 := HL.out.m.below hb02
  clear HO1 HB1 HZ1 d0 d1 d2 d3 f0 f1 f2 f3 hF
  have hsz2 : w.heap.size + 2 ≤ w2.heap.size := by have := hZ2.lt; have := hb02.size; omega
  refine (cloneM_any w2 ma mc mk hM2 hm).mono ?_
  rintro e w3 ⟨a2, c2, rfl, ho3, hb3⟩
  obtain ⟨d0, d1, d2, d3, f0, f1, f2, f3⟩ := (hB2.bel hb3).four
  obtain ⟨e0, e1, e2, e3, g0, g1, g2, g3⟩ := (hZ2.bel hb3).four
  have HB3 := mkH (hB2.bel hb3)
  have HZ3 := mkH (hZ2.bel hb3)
  have HO3 := mkH ho3
  have HP3 := mkH (own_below hO2 hb3)
  have HBl3 : Hid (Below w.heap.size w w3) := hb02.trans (hb3.mono (by omega))
  clear ho3 hb3 hB2 hZ2 hO2 hM2 hb02
  go_wp2
  have hB4 := HB3.out.s2 (.slice a2 mk.length c2)
  have hF4 := HB3.out.frset 2 (.slice a2 mk.length c2)
  have hZ4 := HZ3.out.fr hF4 (by omega)
  generalize w3.setCell ⟨w.heap.size, 2, none⟩ (.slice a2 mk.length c2) = w4 at *
  obtain ⟨hZ5, hF5⟩ := hZ4.sAll (v0 := .int .i64 nx) (v1 := .slice a1 kp.length c1) (v2 := .slice a2 mk.length c2) (v3 := .string at')
  generalize (((w4.setCell ⟨w.heap.size + 1, 0, none⟩ (.int .i64 nx)).setCell ⟨w.heap.size + 1, 1, none⟩ (.slice a1 kp.length c1)).setCell ⟨w.heap.size + 1, 2, none⟩ (.slice a2 mk.length c2)).setCell ⟨w.heap.size + 1, 3, none⟩ (.string at') = w5 at *
  refine bodyPost_ret (res_c rfl _ _ _ rfl (loadG hZ5)) rfl ⟨a1, c1, a2, c2, rfl, ⟨?_, ?_⟩, ?_⟩
  · have h1 := own_fr (own_fr HP3.out hF4 (fun k hk hkw => by have := (HP3.out.lt k hk).1; omega)) hF5 (fun k hk hkw => by have := (HP3.out.lt k hk).1; omega)
    exact own_mono h1 (by omega)
  · have h1 := own_fr (own_fr HO3.out hF4 (fun k hk hkw => by have := (HO3.out.lt k hk).1; omega)) hF5 (fun k hk hkw => by have := (HO3.out.lt k hk).1; omega)
    exact own_mono h1 (by omega)
  · exact below_fr (below_fr HBl3.out hF4 (by intro k hk; omega) (Nat.le_refl _)) hF5 (by intro k hk; omega) (Nat.le_refl _)

theorem strEq (a b : ByteArray) : (a.toList == b.toList) = decide (a = b) := by
  rw [Bool.eq_iff_iff, beq_iff_eq, decide_eq_true_iff, ByteArray.toList_eq, ByteArray.toList_eq]
  constructor
  · intro h; cases a; cases b; simp at h; subst h; rfl
  · rintro rfl; rfl

theorem inFlight_any (w : World) (m : K) (now : Int) : Calls Tryz.prog 337 #[.agg (kC m).toArray, .int .i64 now] w fun e w' => e = .returned (.bool (fly now m)) ∧ Below w.heap.size w w' := by
  obtain ⟨q1, q2, q3, q4, q5, q6⟩ := m
  simp only [kC, fly]
  go_enter Tryz.func337, Tryz.ntmps337
  go_wp2
  go_ret
  exact ⟨rfl, (Below.refl _ w).alloc (Nat.le_refl _) _⟩

theorem flying1_any (w : World) (m : K) (c : Nat) (now : Int) (hc : w.cell? ⟨c, 0, none⟩ = some (.int .i64 now)) : Calls Tryz.prog 336 #[.agg (kC m).toArray, .pointer (some ⟨c, 0, none⟩)] w fun e w' => e = .returned (.bool (fly now m)) ∧ Below w.heap.size w w' := by
  have hlt := World.block_lt_of_cell? w _ hc
  obtain ⟨q1, q2, q3, q4, q5, q6⟩ := m
  have hI := fun W => inFlight_any W ⟨q1, q2, q3, q4, q5, q6⟩ now
  simp only [kC] at hI ⊢
  have hne : ¬ c = w.heap.size := by simp only at hlt; omega
  go_enter Tryz.func336, Tryz.ntmps336
  go_wp2_with fail
  refine (hI _).mono ?_
  rintro e w1 ⟨rfl, hb⟩
  clear hI
  go_wp2
  go_ret
  exact ⟨rfl, ((Below.refl _ w).alloc (Nat.le_refl _) _).trans (hb.mono (by simp))⟩

theorem delivery1_any (w : World) (m : K) (c : Nat) (seq : Int) (hc : w.cell? ⟨c, 0, none⟩ = some (.int .i64 seq)) : Calls Tryz.prog 367 #[.agg (kC m).toArray, .pointer (some ⟨c, 0, none⟩)] w fun e w' => e = .returned (.bool (m.seq == seq)) ∧ Below w.heap.size w w' := by
  have hlt := World.block_lt_of_cell? w _ hc
  obtain ⟨q1, q2, q3, q4, q5, q6⟩ := m
  simp only [kC]
  have hne : ¬ c = w.heap.size := by simp only at hlt; omega
  go_enter Tryz.func367, Tryz.ntmps367
  go_wp2
  go_ret
  exact ⟨rfl, (Below.refl _ w).alloc (Nat.le_refl _) _⟩

theorem send1_any (w : World) (m : M) (c : Nat) (tok : ByteArray) (hc : w.cell? ⟨c, 0, none⟩ = some (.string tok)) : Calls Tryz.prog 325 #[.agg (mC m).toArray, .pointer (some ⟨c, 0, none⟩)] w fun e w' => e = .returned (.bool (decide (m.tok = tok))) ∧ Below w.heap.size w w' := by
  have hlt := World.block_lt_of_cell? w _ hc
  obtain ⟨q1, q2, q3⟩ := m
  simp only [mC]
  have hne : ¬ c = w.heap.size := by simp only at hlt; omega
  go_enter Tryz.func325, Tryz.ntmps325
  go_wp2
  go_ret
  exact ⟨by rw [← strEq]; rfl, (Below.refl _ w).alloc (Nat.le_refl _) _⟩

theorem expire1_any (w : World) (m : K) (c d : Nat) (now keep : Int) (hc : w.cell? ⟨c, 0, none⟩ = some (.int .i64 now)) (hd : w.cell? ⟨d, 0, none⟩ = some (.int .i64 keep)) (hn : Sm now) (hm : OkK m) : Calls Tryz.prog 362 #[.agg (kC m).toArray, .pointer (some ⟨c, 0, none⟩), .pointer (some ⟨d, 0, none⟩)] w fun e w' => e = .returned (.bool (decide (keep ≤ now - m.sent))) ∧ Below w.heap.size w w' := by
  have hlt := World.block_lt_of_cell? w _ hc
  have hlt2 := World.block_lt_of_cell? w _ hd
  obtain ⟨q1, q2, q3, q4, q5, q6⟩ := m
  have hs := hm.2.1
  simp only [kC, Sm] at *
  have hne : ¬ c = w.heap.size := by omega
  have hne2 : ¬ d = w.heap.size := by omega
  have h1 : -9223372036854775808 ≤ now - q2 := by omega
  have h2 : now - q2 ≤ 9223372036854775807 := by omega
  clear hm hn hs
  go_enter Tryz.func362, Tryz.ntmps362
  go_wp2
  go_ret
  exact ⟨rfl, (Below.refl _ w).alloc (Nat.le_refl _) _⟩

theorem expire2_any (w : World) (m : M) (c : Nat) (now : Int) (hc : w.cell? ⟨c, 0, none⟩ = some (.int .i64 now)) (hn : Sm now) (hm : OkM m) : Calls Tryz.prog 364 #[.agg (mC m).toArray, .pointer (some ⟨c, 0, none⟩)] w fun e w' => e = .returned (.bool (decide (300 ≤ now - m.ti))) ∧ Below w.heap.size w w' := by
  have hlt := World.block_lt_of_cell? w _ hc
  obtain ⟨q1, q2, q3⟩ := m
  have hs := hm.2
  simp only [mC, Sm] at *
  have hne : ¬ c = w.heap.size := by omega
  have h1 : -9223372036854775808 ≤ now - q3 := by omega
  have h2 : now - q3 ≤ 9223372036854775807 := by omega
  clear hm hn hs
  go_enter Tryz.func364, Tryz.ntmps364
  go_wp2
  go_ret
  exact ⟨rfl, (Below.refl _ w).alloc (Nat.le_refl _) _⟩


set_option maxHeartbeats 1000000 in
theorem idxFly (w : World) (ao : Option Addr) (cap : Nat) (l : List K) (hr : RowK w ao l) (hl : l.length ≤ 1000000000) (p : K → Bool) (c0 : Nat)
    (hS : ∀ W x, Below w.heap.size w W → x ∈ l → Calls Tryz.prog 336 #[.agg (kC x).toArray, .pointer (some ⟨c0, 0, none⟩)] W fun e w' => e = .returned (.bool (p x)) ∧ Below W.heap.size W w') :
    Calls Tryz.prog 366 #[.slice ao l.length cap, .func (.func 336) #[] #[.pointer (some ⟨c0, 0, none⟩)]] w fun e w' => e = .returned (.int .i64 (idxI p l)) ∧ Below w.heap.size w w' := by
  have HR := mkH hr
  have HS := mkH hS
  obtain ⟨R, hR⟩ : ∃ R, idxI p l = R := ⟨_, rfl⟩
  have HI := mkH hR
  rw [hR]
  clear hr hS hR
  go_enter Tryz.func366, Tryz.ntmps366
  go_wp2_with fail
  go_loopw [8] (fun i wr => ∃ j : Nat, j ≤ l.length ∧ i = .int .i64 (j : Int) ∧ Hid (Below w.heap.size w wr) ∧ Hid (∀ k x, k < j → l[k]? = some x → p x = false)) (fun i _ => l.length - (intOf i).toNat)
  case atStart => exact ⟨0, Nat.zero_le _, rfl, mkH (Below.refl _ _), mkH (fun k x hk => by omega)⟩
  case round =>
    obtain ⟨j, hj, rfl, HB, HP⟩ := hrel
    rcases Nat.lt_or_ge j l.length with hjl | hjl
    · obtain ⟨x, hx⟩ := some_of hjl
      obtain ⟨b, off, rfl, z0, z1, z2, z3, z4, z5⟩ := atK (HR.out.below HB.out) hx
      have hcl := HS.out wr x HB.out (List.mem_of_getElem? hx)
      have hsw := HB.out.size
      have HX := mkH hx
      have hpx : ∃ t, p x = t := ⟨_, rfl⟩
      obtain ⟨t, ht⟩ := hpx
      rw [ht] at hcl
      have HT := mkH ht
      clear hx ht
      obtain ⟨q1, q2, q3, q4, q5, q6⟩ := x
      simp only [kC] at hcl z0 z1 z2 z3 z4 z5
      have HC := mkH hcl
      clear hcl
      go_wp2_with fail
      refine HC.out.mono ?_
      rintro e w1 ⟨rfl, hb1⟩
      have HB1 : Hid (Below w.heap.size w w1) := HB.out.trans (hb1.mono hsw)
      clear HC hb1 z0 z1 z2 z3 z4 z5
      cases t with
      | true =>
        go_wp2
        go_ret
        exact ⟨by rw [← HI.out, idxI_some p l j _ HX.out HT.out HP.out]; rfl, HB1⟩
      | false =>
        go_wp2
        go_roundw
        case rel => exact ⟨j + 1, by omega, by go_num, HB1, mkH (fun k y hk hy => by
          rcases Nat.lt_or_ge k j with h | h
          · exact HP.out k y h hy
          · obtain rfl : k = j := by omega
            rw [HX.out] at hy; cases hy; exact HT.out)⟩
        case measure => simp [intOf]; omega
    · obtain rfl : j = l.length := by omega
      go_wp2
      go_ret
      exact ⟨by rw [← HI.out, idxI_none p l HP.out]; rfl, HB⟩

set_option maxHeartbeats 1000000 in
theorem idxDel (w : World) (ao : Option Addr) (cap : Nat) (l : List K) (hr : RowK w ao l) (hl : l.length ≤ 1000000000) (p : K → Bool) (c0 : Nat)
    (hS : ∀ W x, Below w.heap.size w W → x ∈ l → Calls Tryz.prog 367 #[.agg (kC x).toArray, .pointer (some ⟨c0, 0, none⟩)] W fun e w' => e = .returned (.bool (p x)) ∧ Below W.heap.size W w') :
    Calls Tryz.prog 366 #[.slice ao l.length cap, .func (.func 367) #[] #[.pointer (some ⟨c0, 0, none⟩)]] w fun e w' => e = .returned (.int .i64 (idxI p l)) ∧ Below w.heap.size w w' := by
  have HR := mkH hr
  have HS := mkH hS
  obtain ⟨R, hR⟩ : ∃ R, idxI p l = R := ⟨_, rfl⟩
  have HI := mkH hR
  rw [hR]
  clear hr hS hR
  go_enter Tryz.func366, Tryz.ntmps366
  go_wp2_with fail
  go_loopw [8] (fun i wr => ∃ j : Nat, j ≤ l.length ∧ i = .int .i64 (j : Int) ∧ Hid (Below w.heap.size w wr) ∧ Hid (∀ k x, k < j → l[k]? = some x → p x = false)) (fun i _ => l.length - (intOf i).toNat)
  case atStart => exact ⟨0, Nat.zero_le _, rfl, mkH (Below.refl _ _), mkH (fun k x hk => by omega)⟩
  case round =>
    obtain ⟨j, hj, rfl, HB, HP⟩ := hrel
    rcases Nat.lt_or_ge j l.length with hjl | hjl
    · obtain ⟨x, hx⟩ := some_of hjl
      obtain ⟨b, off, rfl, z0, z1, z2, z3, z4, z5⟩ := atK (HR.out.below HB.out) hx
      have hcl := HS.out wr x HB.out (List.mem_of_getElem? hx)
      have hsw := HB.out.size
      have HX := mkH hx
      have hpx : ∃ t, p x = t := ⟨_, rfl⟩
      obtain ⟨t, ht⟩ := hpx
      rw [ht] at hcl
      have HT := mkH ht
      clear hx ht
      obtain ⟨q1, q2, q3, q4, q5, q6⟩ := x
      simp only [kC] at hcl z0 z1 z2 z3 z4 z5
      have HC := mkH hcl
      clear hcl
      go_wp2_with fail
      refine HC.out.mono ?_
      rintro e w1 ⟨rfl, hb1⟩
      have HB1 : Hid (Below w.heap.size w w1) := HB.out.trans (hb1.mono hsw)
      clear HC hb1 z0 z1 z2 z3 z4 z5
      cases t with
      | true =>
        go_wp2
        go_ret
        exact ⟨by rw [← HI.out, idxI_some p l j _ HX.out HT.out HP.out]; rfl, HB1⟩
      | false =>
        go_wp2
        go_roundw
        case rel => exact ⟨j + 1, by omega, by go_num, HB1, mkH (fun k y hk hy => by
          rcases Nat.lt_or_ge k j with h | h
          · exact HP.out k y h hy
          · obtain rfl : k = j := by omega
            rw [HX.out] at hy; cases hy; exact HT.out)⟩
        case measure => simp [intOf]; omega
    · obtain rfl : j = l.length := by omega
      go_wp2
      go_ret
      exact ⟨by rw [← HI.out, idxI_none p l HP.out]; rfl, HB⟩

set_option maxHeartbeats 1000000 in
theorem idxExp1 (w : World) (ao : Option Addr) (cap : Nat) (l : List K) (hr : RowK w ao l) (hl : l.length ≤ 1000000000) (p : K → Bool) (c0 c1 : Nat)
    (hS : ∀ W x, Below w.heap.size w W → x ∈ l → Calls Tryz.prog 362 #[.agg (kC x).toArray, .pointer (some ⟨c0, 0, none⟩), .pointer (some ⟨c1, 0, none⟩)] W fun e w' => e = .returned (.bool (p x)) ∧ Below W.heap.size W w') :
    Calls Tryz.prog 366 #[.slice ao l.length cap, .func (.func 362) #[] #[.pointer (some ⟨c0, 0, none⟩), .pointer (some ⟨c1, 0, none⟩)]] w fun e w' => e = .returned (.int .i64 (idxI p l)) ∧ Below w.heap.size w w' := by
  have HR := mkH hr
  have HS := mkH hS
  obtain ⟨R, hR⟩ : ∃ R, idxI p l = R := ⟨_, rfl⟩
  have HI := mkH hR
  rw [hR]
  clear hr hS hR
  go_enter Tryz.func366, Tryz.ntmps366
  go_wp2_with fail
  go_loopw [8] (fun i wr => ∃ j : Nat, j ≤ l.length ∧ i = .int .i64 (j : Int) ∧ Hid (Below w.heap.size w wr) ∧ Hid (∀ k x, k < j → l[k]? = some x → p x = false)) (fun i _ => l.length - (intOf i).toNat)
  case atStart => exact ⟨0, Nat.zero_le _, rfl, mkH (Below.refl _ _), mkH (fun k x hk => by omega)⟩
  case round =>
    obtain ⟨j, hj, rfl, HB, HP⟩ := hrel
    rcases Nat.lt_or_ge j l.length with hjl | hjl
    · obtain ⟨x, hx⟩ := some_of hjl
      obtain ⟨b, off, rfl, z0, z1, z2, z3, z4, z5⟩ := atK (HR.out.below HB.out) hx
      have hcl := HS.out wr x HB.out (List.mem_of_getElem? hx)
      have hsw := HB.out.size
      have HX := mkH hx
      have hpx : ∃ t, p x = t := ⟨_, rfl⟩
      obtain ⟨t, ht⟩ := hpx
      rw [ht] at hcl
      have HT := mkH ht
      clear hx ht
      obtain ⟨q1, q2, q3, q4, q5, q6⟩ := x
      simp only [kC] at hcl z0 z1 z2 z3 z4 z5
      have HC := mkH hcl
      clear hcl
      go_wp2_with fail
      refine HC.out.mono ?_
      rintro e w1 ⟨rfl, hb1⟩
      have HB1 : Hid (Below w.heap.size w w1) := HB.out.trans (hb1.mono hsw)
      clear HC hb1 z0 z1 z2 z3 z4 z5
      cases t with
      | true =>
        go_wp2
        go_ret
        exact ⟨by rw [← HI.out, idxI_some p l j _ HX.out HT.out HP.out]; rfl, HB1⟩
      | false =>
        go_wp2
        go_roundw
        case rel => exact ⟨j + 1, by omega, by go_num, HB1, mkH (fun k y hk hy => by
          rcases Nat.lt_or_ge k j with h | h
          · exact HP.out k y h hy
          · obtain rfl : k = j := by omega
            rw [HX.out] at hy; cases hy; exact HT.out)⟩
        case measure => simp [intOf]; omega
    · obtain rfl : j = l.length := by omega
      go_wp2
      go_ret
      exact ⟨by rw [← HI.out, idxI_none p l HP.out]; rfl, HB⟩

set_option maxHeartbeats 1000000 in
theorem idxSend (w : World) (ao : Option Addr) (cap : Nat) (l : List M) (hr : RowM w ao l) (hl : l.length ≤ 1000000000) (p : M → Bool) (c0 : Nat)
    (hS : ∀ W x, Below w.heap.size w W → x ∈ l → Calls Tryz.prog 325 #[.agg (mC x).toArray, .pointer (some ⟨c0, 0, none⟩)] W fun e w' => e = .returned (.bool (p x)) ∧ Below W.heap.size W w') :
    Calls Tryz.prog 324 #[.slice ao l.length cap, .func (.func 325) #[] #[.pointer (some ⟨c0, 0, none⟩)]] w fun e w' => e = .returned (.int .i64 (idxI p l)) ∧ Below w.heap.size w w' := by
  have HR := mkH hr
  have HS := mkH hS
  obtain ⟨R, hR⟩ : ∃ R, idxI p l = R := ⟨_, rfl⟩
  have HI := mkH hR
  rw [hR]
  clear hr hS hR
  go_enter Tryz.func324, Tryz.ntmps324
  go_wp2_with fail
  go_loopw [8] (fun i wr => ∃ j : Nat, j ≤ l.length ∧ i = .int .i64 (j : Int) ∧ Hid (Below w.heap.size w wr) ∧ Hid (∀ k x, k < j → l[k]? = some x → p x = false)) (fun i _ => l.length - (intOf i).toNat)
  case atStart => exact ⟨0, Nat.zero_le _, rfl, mkH (Below.refl _ _), mkH (fun k x hk => by omega)⟩
  case round =>
    obtain ⟨j, hj, rfl, HB, HP⟩ := hrel
    rcases Nat.lt_or_ge j l.length with hjl | hjl
    · obtain ⟨x, hx⟩ := some_of hjl
      obtain ⟨b, off, rfl, z0, z1, z2⟩ := atM (HR.out.below HB.out) hx
      have hcl := HS.out wr x HB.out (List.mem_of_getElem? hx)
      have hsw := HB.out.size
      have HX := mkH hx
      have hpx : ∃ t, p x = t := ⟨_, rfl⟩
      obtain ⟨t, ht⟩ := hpx
      rw [ht] at hcl
      have HT := mkH ht
      clear hx ht
      obtain ⟨q1, q2, q3⟩ := x
      simp only [mC] at hcl z0 z1 z2
      have HC := mkH hcl
      clear hcl
      go_wp2_with fail
      refine HC.out.mono ?_
      rintro e w1 ⟨rfl, hb1⟩
      have HB1 : Hid (Below w.heap.size w w1) := HB.out.trans (hb1.mono hsw)
      clear HC hb1 z0 z1 z2
      cases t with
      | true =>
        go_wp2
        go_ret
        exact ⟨by rw [← HI.out, idxI_some p l j _ HX.out HT.out HP.out]; rfl, HB1⟩
      | false =>
        go_wp2
        go_roundw
        case rel => exact ⟨j + 1, by omega, by go_num, HB1, mkH (fun k y hk hy => by
          rcases Nat.lt_or_ge k j with h | h
          · exact HP.out k y h hy
          · obtain rfl : k = j := by omega
            rw [HX.out] at hy; cases hy; exact HT.out)⟩
        case measure => simp [intOf]; omega
    · obtain rfl : j = l.length := by omega
      go_wp2
      go_ret
      exact ⟨by rw [← HI.out, idxI_none p l HP.out]; rfl, HB⟩

set_option maxHeartbeats 1000000 in
theorem idxExp2 (w : World) (ao : Option Addr) (cap : Nat) (l : List M) (hr : RowM w ao l) (hl : l.length ≤ 1000000000) (p : M → Bool) (c0 : Nat)
    (hS : ∀ W x, Below w.heap.size w W → x ∈ l → Calls Tryz.prog 364 #[.agg (mC x).toArray, .pointer (some ⟨c0, 0, none⟩)] W fun e w' => e = .returned (.bool (p x)) ∧ Below W.heap.size W w') :
    Calls Tryz.prog 324 #[.slice ao l.length cap, .func (.func 364) #[] #[.pointer (some ⟨c0, 0, none⟩)]] w fun e w' => e = .returned (.int .i64 (idxI p l)) ∧ Below w.heap.size w w' := by
  have HR := mkH hr
  have HS := mkH hS
  obtain ⟨R, hR⟩ : ∃ R, idxI p l = R := ⟨_, rfl⟩
  have HI := mkH hR
  rw [hR]
  clear hr hS hR
  go_enter Tryz.func324, Tryz.ntmps324
  go_wp2_with fail
  go_loopw [8] (fun i wr => ∃ j : Nat, j ≤ l.length ∧ i = .int .i64 (j : Int) ∧ Hid (Below w.heap.size w wr) ∧ Hid (∀ k x, k < j → l[k]? = some x → p x = false)) (fun i _ => l.length - (intOf i).toNat)
  case atStart => exact ⟨0, Nat.zero_le _, rfl, mkH (Below.refl _ _), mkH (fun k x hk => by omega)⟩
  case round =>
    obtain ⟨j, hj, rfl, HB, HP⟩ := hrel
    rcases Nat.lt_or_ge j l.length with hjl | hjl
    · obtain ⟨x, hx⟩ := some_of hjl
      obtain ⟨b, off, rfl, z0, z1, z2⟩ := atM (HR.out.below HB.out) hx
      have hcl := HS.out wr x HB.out (List.mem_of_getElem? hx)
      have hsw := HB.out.size
      have HX := mkH hx
      have hpx : ∃ t, p x = t := ⟨_, rfl⟩
      obtain ⟨t, ht⟩ := hpx
      rw [ht] at hcl
      have HT := mkH ht
      clear hx ht
      obtain ⟨q1, q2, q3⟩ := x
      simp only [mC] at hcl z0 z1 z2
      have HC := mkH hcl
      clear hcl
      go_wp2_with fail
      refine HC.out.mono ?_
      rintro e w1 ⟨rfl, hb1⟩
      have HB1 : Hid (Below w.heap.size w w1) := HB.out.trans (hb1.mono hsw)
      clear HC hb1 z0 z1 z2
      cases t with
      | true =>
        go_wp2
        go_ret
        exact ⟨by rw [← HI.out, idxI_some p l j _ HX.out HT.out HP.out]; rfl, HB1⟩
      | false =>
        go_wp2
        go_roundw
        case rel => exact ⟨j + 1, by omega, by go_num, HB1, mkH (fun k y hk hy => by
          rcases Nat.lt_or_ge k j with h | h
          · exact HP.out k y h hy
          · obtain rfl : k = j := by omega
            rw [HX.out] at hy; cases hy; exact HT.out)⟩
        case measure => simp [intOf]; omega
    · obtain rfl : j = l.length := by omega
      go_wp2
      go_ret
      exact ⟨by rw [← HI.out, idxI_none p l HP.out]; rfl, HB⟩

theorem idxI_any {α : Type} (p : α → Bool) (l : List α) : decide (0 ≤ idxI p l) = l.any p := by
  rw [← idx_any]
  unfold idxI
  cases idx p l <;> simp

theorem contains_any (w : World) (ao : Option Addr) (cap : Nat) (l : List K) (hr : RowK w ao l) (hl : l.length ≤ 1000000000) (c0 : Nat) (now : Int) (hc : w.cell? ⟨c0, 0, none⟩ = some (.int .i64 now)) :
    Calls Tryz.prog 335 #[.slice ao l.length cap, .func (.func 336) #[] #[.pointer (some ⟨c0, 0, none⟩)]] w fun e w' => e = .returned (.bool (l.any (fly now))) ∧ Below w.heap.size w w' := by
  have hq := idxFly w ao cap l hr hl (fly now) c0 (fun W x hb hx => flying1_any W x c0 now (by rw [hb.cell (p := ⟨c0, 0, none⟩) (World.block_lt_of_cell? w _ hc)]; exact hc))
  have HA := mkH (idxI_any (fly now) l)
  generalize l.any (fly now) = A at HA ⊢
  generalize idxI (fly now) l = I at hq HA
  clear hr hc
  go_enter Tryz.func335, Tryz.ntmps335
  go_wp2_with fail
  refine hq.mono ?_
  rintro e w1 ⟨rfl, hb⟩
  clear hq
  go_wp2
  go_ret
  exact ⟨by rw [← HA.out]; rfl, hb⟩

set_option maxHeartbeats 1000000 in
theorem Flying_any (w : World) (g : G) (ka : Option Addr) (kc : Nat) (ma : Option Addr) (mc : Nat) (h : Gl w g ka kc ma mc) (hk : g.kept.length ≤ 1000000000) (now : Int) :
    Calls Tryz.prog 278 #[.agg (gC g ka kc ma mc), .int .i64 now] w fun e w' => e = .returned (.bool (flying g now)) ∧ Below w.heap.size w w' := by
  unfold flying
  obtain ⟨nx, kp, mk, at'⟩ := g
  simp only [gC] at *
  have hb0 : Below w.heap.size w ((w.alloc (.cells #[Value.int .i64 nx, .slice ka kp.length kc, .slice ma mk.length mc, .string at'] 126)).alloc (.cells #[.int .i64 now] 3)) := ((Below.refl _ w).alloc (Nat.le_refl _) _).alloc (by simp) _
  have hB := Bx.new1 w (.cells #[Value.int .i64 nx, .slice ka kp.length kc, .slice ma mk.length mc, .string at'] 126) #[.int .i64 now] 3
  have HQ := mkH (contains_any _ ka kc kp (h.k.below hb0) hk (w.heap.size + 1) now (hB.cell 0 _ rfl))
  have H0 := mkH hb0
  clear h hb0 hB
  generalize kp.any (fly now) = A at HQ ⊢
  go_enter Tryz.func278, Tryz.ntmps278
  go_wp2_with fail
  refine HQ.out.mono ?_
  rintro e w1 ⟨rfl, hb⟩
  clear HQ
  go_wp2
  go_ret
  exact ⟨rfl, H0.out.trans (hb.mono (by simp; omega))⟩
end Go.Proofs.YtgbbajeeelgbhaaGreatDoor.Ga

namespace Go.Proofs.YtgbbajeeelgbhaaGreatDoor.Qm
open Go.RowKit Kt Gf Gk Gp Gr Go.Maps Go.ChangeMaps
set_option linter.unusedVariables false
set_option linter.unusedSectionVars false
set_option linter.unusedSimpArgs false
set_option maxRecDepth 20000

/-- What stands where. -/
structure E where
  q : Int
  s : ByteArray
  g : G
/-- .. and where its lists lie. -/
structure X where
  p : E
  ka : Option Addr
  kc : Nat
  ma : Option Addr
  mc : Nat
def X.v (x : X) : Value := .agg (gC x.p.g x.ka x.kc x.ma x.mc)
def zG : Value := .agg #[.int .i64 0, .slice none 0 0, .slice none 0 0, .string ⟨#[]⟩]
/-- The order of where groups stand. -/
def ltK (q : Int) (s : ByteArray) (q' : Int) (s' : ByteArray) : Bool := decide (q < q') || (decide (q = q') && bytesBefore s.data.toList s'.data.toList)
theorem ltK_irrefl (q : Int) (s : ByteArray) : ltK q s q s = false := by
  have h : bytesBefore s.data.toList s.data.toList = false := by
    have := WideShapes.before_irrefl (.string s.data.toList)
    simpa [Lit.before] using this
  simp [ltK, h]
theorem ltK_trans {q q1 q2 : Int} {s s1 s2 : ByteArray} (h : ltK q s q1 s1 = true) (k : ltK q1 s1 q2 s2 = true) : ltK q s q2 s2 = true := by
  simp only [ltK, Bool.or_eq_true, Bool.and_eq_true, decide_eq_true_eq] at *
  rcases h with h | ⟨h, h'⟩ <;> rcases k with k | ⟨k, k'⟩
  · left; omega
  · left; omega
  · left; omega
  · right
    refine ⟨by omega, ?_⟩
    have := WideShapes.before_trans (a := .string s.data.toList) (b := .string s1.data.toList) (c := .string s2.data.toList) h' k'
    exact this
theorem ba_ext {s s' : ByteArray} (h : s.data.toList = s'.data.toList) : s = s' := by
  cases s; cases s'
  simp only [ByteArray.mk.injEq]
  exact Array.ext' h
theorem ltK_total {q q' : Int} {s s' : ByteArray} (h : ¬ (q = q' ∧ s = s')) : ltK q s q' s' = true ∨ ltK q' s' q s = true := by
  simp only [ltK, Bool.or_eq_true, Bool.and_eq_true, decide_eq_true_eq]
  by_cases h1 : q < q'
  · exact .inl (.inl h1)
  · by_cases h2 : q' < q
    · exact .inr (.inl h2)
    · have e : q = q' := by omega
      have hs : s.data.toList ≠ s'.data.toList := fun e' => h ⟨e, ba_ext e'⟩
      rcases ChangeMaps.before_total (a := .string s.data.toList) (b := .string s'.data.toList) ⟨_, rfl⟩ ⟨_, rfl⟩ (fun e => hs (by simpa using e)) with x | x
      · exact .inl (.inr ⟨e, x⟩)
      · exact .inr (.inr ⟨e.symm, x⟩)

section
variable {α : Type} (f : α → E)
def put : List α → α → List α
  | [], x => [x]
  | y :: l, x => if ltK (f x).q (f x).s (f y).q (f y).s = true then x :: y :: l else if (f x).q = (f y).q ∧ (f x).s = (f y).s then x :: l else y :: put l x
def atX : List α → Int → ByteArray → Option α
  | [], _, _ => none
  | y :: l, q, s => if (f y).q = q ∧ (f y).s = s then some y else atX l q s
def Srt (l : List α) : Prop := l.Pairwise (fun x y => ltK (f x).q (f x).s (f y).q (f y).s = true)
variable {f}
theorem atX_mem {l : List α} {q : Int} {s : ByteArray} {o : α} (h : atX f l q s = some o) : o ∈ l ∧ (f o).q = q ∧ (f o).s = s := by
  induction l with
  | nil => cases h
  | cons y l ih =>
    rw [atX] at h
    split at h
    · rename_i he
      cases h
      exact ⟨by simp, he⟩
    · obtain ⟨h1, h2⟩ := ih h
      exact ⟨by simp [h1], h2⟩
theorem mem_at {l : List α} (hs : Srt f l) {x : α} (h : x ∈ l) : atX f l (f x).q (f x).s = some x := by
  induction l with
  | nil => cases h
  | cons y l ih =>
    obtain ⟨h1, h2⟩ := List.pairwise_cons.1 hs
    rw [atX]
    rcases List.mem_cons.1 h with rfl | h
    · rw [if_pos ⟨rfl, rfl⟩]
    · rw [if_neg (fun e => by have := h1 x h; rw [e.1, e.2, ltK_irrefl] at this; cases this)]
      exact ih h2 h
theorem mem_put {l : List α} {x y : α} (h : y ∈ put f l x) : y = x ∨ y ∈ l := by
  induction l with
  | nil => simp [put] at h; exact .inl h
  | cons q l ih =>
    rw [put] at h
    split at h
    · rcases List.mem_cons.1 h with h | h
      · exact .inl h
      · exact .inr h
    · split at h
      · rcases List.mem_cons.1 h with h | h
        · exact .inl h
        · exact .inr (by simp [h])
      · rcases List.mem_cons.1 h with h | h
        · exact .inr (by simp [h])
        · rcases ih h with h | h
          · exact .inl h
          · exact .inr (by simp [h])
theorem srt_put {l : List α} (hs : Srt f l) (x : α) : Srt f (put f l x) := by
  induction l with
  | nil => simp [put, Srt]
  | cons q l ih =>
    obtain ⟨h1, h2⟩ := List.pairwise_cons.1 hs
    rw [put]
    split
    · rename_i h
      refine List.pairwise_cons.2 ⟨fun p hp => ?_, hs⟩
      rcases List.mem_cons.1 hp with rfl | hp
      · exact h
      · exact ltK_trans h (h1 p hp)
    · split
      · rename_i h3 h4
        exact List.pairwise_cons.2 ⟨fun p hp => by have := h1 p hp; rw [h4.1, h4.2]; exact this, h2⟩
      · rename_i h3 h4
        refine List.pairwise_cons.2 ⟨fun p hp => ?_, ih h2⟩
        rcases mem_put hp with rfl | hp
        · rcases ltK_total (fun e => h4 e) with h | h
          · exact absurd h h3
          · exact h
        · exact h1 p hp
theorem at_put {l : List α} (x : α) (q : Int) (s : ByteArray) : atX f (put f l x) q s = if (f x).q = q ∧ (f x).s = s then some x else atX f l q s := by
  induction l with
  | nil => simp [put, atX]
  | cons y l ih =>
    rw [put]
    split
    · rw [atX]
    · split
      · rename_i h3 h4
        rw [atX, atX]
        by_cases hk : (f x).q = q ∧ (f x).s = s
        · rw [if_pos hk, if_pos hk]
        · rw [if_neg hk, if_neg hk, if_neg (fun e => hk ⟨h4.1.trans e.1, h4.2.trans e.2⟩)]
      · rename_i h3 h4
        rw [atX, ih, atX]
        by_cases hk : (f x).q = q ∧ (f x).s = s
        · rw [if_neg (fun e => h4 ⟨hk.1.trans e.1.symm, hk.2.trans e.2.symm⟩), if_pos hk, if_pos hk]
        · rw [if_neg hk, if_neg hk]
theorem at_none {l : List α} {q : Int} {s : ByteArray} (h : ∀ y ∈ l, ¬ ((f y).q = q ∧ (f y).s = s)) : atX f l q s = none := by
  induction l with
  | nil => rfl
  | cons y l ih => rw [atX, if_neg (h y (by simp))]; exact ih (fun p hp => h p (by simp [hp]))
theorem len_put {l : List α} (hs : Srt f l) (x : α) : (put f l x).length = if (atX f l (f x).q (f x).s).isSome then l.length else l.length + 1 := by
  induction l with
  | nil => simp [put, atX]
  | cons y l ih =>
    obtain ⟨h1, h2⟩ := List.pairwise_cons.1 hs
    rw [put, atX]
    split
    · rename_i h
      rw [if_neg (fun e : (f y).q = (f x).q ∧ (f y).s = (f x).s => by rw [e.1, e.2, ltK_irrefl] at h; cases h), at_none (fun p hp e => by
        have h3 := ltK_trans h (h1 p hp)
        rw [e.1, e.2, ltK_irrefl] at h3
        cases h3)]
      simp
    · split
      · rename_i h3 h4
        rw [if_pos (⟨h4.1.symm, h4.2.symm⟩ : (f y).q = (f x).q ∧ (f y).s = (f x).s)]
        simp
      · rename_i h3 h4
        have e : (if (f y).q = (f x).q ∧ (f y).s = (f x).s then some y else atX f l (f x).q (f x).s) = atX f l (f x).q (f x).s := if_neg (fun e => h4 ⟨e.1.symm, e.2.symm⟩)
        rw [e, List.length_cons, ih h2]
        split <;> simp
theorem len_put_le (l : List α) (x : α) : (put f l x).length ≤ l.length + 1 := by
  induction l with
  | nil => simp [put]
  | cons q l ih =>
    rw [put]
    split
    · simp
    · split
      · simp
      · simp only [List.length_cons]; omega
theorem map_put {β : Type} {h : β → E} (k : α → β) (hf : ∀ a, h (k a) = f a) (l : List α) (x : α) : (put f l x).map k = put h (l.map k) (k x) := by
  induction l with
  | nil => rfl
  | cons q l ih =>
    rw [put, List.map_cons, put, hf, hf]
    split
    · rfl
    · split
      · rfl
      · rw [List.map_cons, ih]
theorem map_at {β : Type} {h : β → E} (k : α → β) (hf : ∀ a, h (k a) = f a) (l : List α) (q : Int) (s : ByteArray) : atX h (l.map k) q s = (atX f l q s).map k := by
  induction l with
  | nil => rfl
  | cons y l ih =>
    rw [List.map_cons, atX, atX, hf]
    split
    · rfl
    · exact ih
theorem map_srt {β : Type} {h : β → E} (k : α → β) (hf : ∀ a, h (k a) = f a) {l : List α} (hs : Srt f l) : Srt h (l.map k) := by
  unfold Srt
  rw [List.pairwise_map]
  exact List.Pairwise.imp (fun {a b} h => by rw [hf, hf]; exact h) hs
end

/-- A key as a value, and as it is read. -/
def kv (q : Int) (s : ByteArray) : Value := .agg #[.int .i64 q, .string s]
def kl (q : Int) (s : ByteArray) : Lit := .string (keyBytes [.int .i64 q, .string s.data.toList])
def wfK (q : Int) (s : ByteArray) : Prop := (Lit.int .i64 q).wf = true ∧ s.size ≤ maxLen
theorem laid : laidOutB Tryz.prog = true := by kernel_rfl
theorem wide : (match Tryz.prog.underlying 192 with | some (.array _ _) | some (.struct _) => true | _ => false) = true := by rw [Tryz.underlying192]
theorem law : Keyed Tryz.prog 192 := Keyed.of_law (deep_law_laid laid (m := 2) (by omega) (of_decide_eq_true (by kernel_rfl)) (by kernel_rfl) wide)
theorem ktype : Tryz.prog.keyType 192 = true := by kernel_rfl
theorem kcells : Tryz.prog.cellsOf 192 = 2 := by kernel_rfl
theorem icells : Tryz.prog.cellsOf 3 = 1 := by kernel_rfl
theorem scells : Tryz.prog.cellsOf 9 = 1 := by kernel_rfl
theorem tsize : ∃ m, Tryz.prog.types.size = m + 1 := by
  have h : decide (0 < Tryz.prog.types.size) = true := by kernel_rfl
  have h := of_decide_eq_true h
  exact ⟨Tryz.prog.types.size - 1, by omega⟩
theorem kformed (a b : Value) : (Value.agg #[a, b]).formed Tryz.prog 192 = true := by simp [Value.formed, Tryz.underlying192, kcells]
theorem key_mk {q : Int} {s : ByteArray} (h : wfK q s) : keyOf Tryz.prog 192 (kv q s) = some (kl q s) := by
  obtain ⟨m, hm⟩ := tsize
  obtain ⟨h1, h2⟩ := h
  unfold keyOf kv kl
  rw [Tryz.underlying192]
  simp only [ktype, kformed, Bool.and_self, if_true]
  rw [hm]
  simp [Program.keyLits, Tryz.underlying192, kcells, icells, scells, Value.cells, Tryz.underlying3, Tryz.underlying9, h1, h2]
theorem kl_inj {q q' : Int} {s s' : ByteArray} (h : wfK q s) (h' : wfK q' s') (e : kl q s = kl q' s') : q = q' ∧ s = s' := by
  have h1 := key_mk h
  have h2 := key_mk h'
  rw [← e] at h2
  have h3 := law.inj h1 h2
  simpa [kv] using h3
theorem kl_key (q : Int) (s : ByteArray) : WideAt.IsKeyLit (kl q s) := trivial

/-- How a value reads: as itself. -/
def vE (v : Value) : Option (DataW Value × List MemPlace) := some (.held v, [])
theorem vE_mk (v : Value) : vE v = some (.held v, []) := rfl
theorem vE_is {v u : Value} {ps : List MemPlace} (h : vE v = some (.held u, ps)) : v = u := by
  simp only [vE, Option.some.injEq, Prod.mk.injEq, DataW.held.injEq] at h
  exact h.1
theorem tight {w : World} {b n m : Nat} {D : DataW Value} (h : w.ownsMap Tryz.prog 192 vE b n D) (hs : Maps.size D = m) : w.ownsMap Tryz.prog 192 vE b m D := by
  obtain ⟨es, clock, hb, F, hn, hD⟩ := h
  have h1 := congrArg Maps.size hD
  rw [hs] at h1
  simp only [Maps.size, Go.length_sorted, List.length_map, Array.length_toList] at h1
  exact ⟨es, clock, hb, F, by omega, hD⟩
/-- What a map's datum has. -/
structure Dx (D : DataW Value) (xs : List X) : Prop where
  tidy : Tidy D
  at' : ∀ q s, wfK q s → ∀ z, D.atKey (kl q s) z = match atX X.p xs q s with | none => z | some x => .held x.v
  has : ∀ q s, wfK q s → Maps.has D (kl q s) = (atX X.p xs q s).isSome
  size : Maps.size D = xs.length
theorem Dx.nil : Dx (.map []) [] := ⟨tidy_empty, fun q s _ z => by simp [atX, DataW.atKey], fun q s _ => by simp [atX, Maps.has_eq], by simp [Maps.size_eq]⟩
theorem Dx.put {D : DataW Value} {xs : List X} (h : Dx D xs) (hs : Srt X.p xs) (x : X) (hk : wfK x.p.q x.p.s) : Dx (D.put (kl x.p.q x.p.s) (.held x.v)) (put X.p xs x) := by
  refine ⟨h.tidy.put (kl_key _ _) _, fun q s hq z => ?_, fun q s hq => ?_, ?_⟩
  · rw [at_put]
    by_cases he : x.p.q = q ∧ x.p.s = s
    · obtain ⟨rfl, rfl⟩ := he
      rw [if_pos ⟨rfl, rfl⟩, atKey_put_same h.tidy.isMap (kl_key _ _)]
    · rw [if_neg he, atKey_put_other (fun e => he (by have := kl_inj hq hk e; exact ⟨this.1.symm, this.2.symm⟩)), h.at' q s hq z]
  · rw [at_put]
    by_cases he : x.p.q = q ∧ x.p.s = s
    · obtain ⟨rfl, rfl⟩ := he
      rw [if_pos ⟨rfl, rfl⟩, has_put_same h.tidy.isMap (kl_key _ _)]
      rfl
    · rw [if_neg he, has_put_other (fun e => he (by have := kl_inj hq hk e; exact ⟨this.1.symm, this.2.symm⟩)), h.has q s hq]
  · rw [size_put h.tidy, h.has _ _ hk, h.size, len_put hs]
/-- Block b is a map that has this. -/
structure Mg (w : World) (b : Nat) (xs : List X) : Prop where
  own : ∃ D, w.ownsMap Tryz.prog 192 vE b xs.length D ∧ Dx D xs
  srt : Srt X.p xs
  wf : ∀ x ∈ xs, wfK x.p.q x.p.s
theorem Mg.lt {w : World} {b : Nat} {xs : List X} (h : Mg w b xs) : b < w.heap.size := by
  obtain ⟨D, h1, -⟩ := h.own
  exact h1.lt
theorem Mg.fr {w w' : World} {Q : Nat → Prop} {b : Nat} {xs : List X} (h : Mg w b xs) (hf : Fr Q w w') (hq : ¬ Q b) : Mg w' b xs := by
  have hlt := h.lt
  obtain ⟨⟨D, ⟨es, clock, hb, r⟩, hD⟩, h1, h2⟩ := h
  exact ⟨⟨D, ⟨es, clock, (hf.heap hlt hq).trans hb, r⟩, hD⟩, h1, h2⟩
theorem Mg.below {w w' : World} {b : Nat} {xs : List X} (h : Mg w b xs) (hb : Below w.heap.size w w') : Mg w' b xs := h.fr (Q := fun _ => False) (Fr.ofBelow hb) (fun x => x)
theorem Mg.made (w : World) : Mg (w.alloc (.map #[] 0)) w.heap.size [] := ⟨⟨_, World.ownsMap_made w _ _ _, Dx.nil⟩, List.Pairwise.nil, fun x hx => by cases hx⟩
/-- A block without cells: rows stay where it turns. -/
def Bare (w : World) (b : Nat) : Prop := ∀ a v, w.cell? a = some v → a.block ≠ b
theorem Mg.bare {w : World} {b : Nat} {xs : List X} (h : Mg w b xs) : Bare w b := by
  obtain ⟨⟨D, ⟨es, clock, hb, r⟩, hD⟩, h1, h2⟩ := h
  rintro a v hc rfl
  simp only [World.cell?, hb] at hc
  cases hc
theorem fr_turned {w w' : World} {b : Nat} (h : w.mapTurned w' b) : Fr (fun k => k = b) w w' := by
  have h := h.grown
  exact ⟨h.os, h.tape, h.output, h.size, fun k hk hn => h.block k hk (fun e => hn (Option.some.inj e))⟩
theorem zeroG (w : World) : (zeroValue 126).run Tryz.prog w = .ok zG w := by kernel_rfl
/-- 'g, has := m[k]'. -/
theorem look2 {W : World} {b : Nat} {xs : List X} (h : Mg W b xs) {q : Int} {s : ByteArray} (hk : wfK q s) :
    (Instr.lookup 159 (.map (some b)) (kv q s) true).run Tryz.prog W = .ok (.tuple #[match atX X.p xs q s with | none => zG | some x => x.v, .bool (atX X.p xs q s).isSome]) W := by
  obtain ⟨⟨D, ho, hD⟩, -, -⟩ := h
  obtain ⟨v, ps, hrun, hv⟩ := World.ownsMap.look_ok ho law Tryz.underlying159 (zeroG W) (vE_mk _) (key_mk hk)
  rw [hD.at' q s hk] at hv
  rw [hD.has q s hk] at hrun
  cases ha : atX X.p xs q s with
  | none => rw [ha] at hv hrun; rw [hrun, vE_is hv]
  | some u => rw [ha] at hv hrun; rw [hrun, vE_is hv]
/-- 'm[k]'. -/
theorem look1 {W : World} {b : Nat} {xs : List X} (h : Mg W b xs) {q : Int} {s : ByteArray} (hk : wfK q s) :
    (Instr.lookup 159 (.map (some b)) (kv q s) false).run Tryz.prog W = .ok (match atX X.p xs q s with | none => zG | some x => x.v) W := by
  obtain ⟨⟨D, ho, hD⟩, -, -⟩ := h
  obtain ⟨v, ps, hrun, hv⟩ := World.ownsMap.lookup ho law Tryz.underlying159 (zeroG W) (vE_mk _) (key_mk hk)
  rw [hD.at' q s hk] at hv
  cases ha : atX X.p xs q s with
  | none => rw [ha] at hv; rw [hrun, vE_is hv]
  | some u => rw [ha] at hv; rw [hrun, vE_is hv]
/-- 'm[k] = g'. -/
theorem store1 {W : World} {b : Nat} {xs : List X} (h : Mg W b xs) (hl : xs.length ≤ 1000000000) (x : X) (hk : wfK x.p.q x.p.s) :
    ∃ W', (Instr.mapUpdate 159 (.map (some b)) (kv x.p.q x.p.s) x.v).run Tryz.prog W = .ok () W' ∧ Mg W' b (put X.p xs x) ∧ Fr (fun k => k = b) W W' := by
  obtain ⟨⟨D, ho, hD⟩, hs, hw⟩ := h
  obtain ⟨w5, hrun, hown5, hturn⟩ := World.ownsMap.store ho law Tryz.underlying159 (by unfold maxLen; omega) (key_mk hk) (vE_mk x.v)
  have hD5 := hD.put hs x hk
  refine ⟨w5, hrun, ⟨⟨_, tight hown5 hD5.size, hD5⟩, srt_put hs x, fun y hy => ?_⟩, fr_turned hturn⟩
  rcases mem_put hy with rfl | hy
  · exact hk
  · exact hw y hy
end Go.Proofs.YtgbbajeeelgbhaaGreatDoor.Qm
