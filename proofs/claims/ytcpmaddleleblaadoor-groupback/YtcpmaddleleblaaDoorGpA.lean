/-
  copyOf, inFlight; the functions handed to slices.IndexFunc, and IndexFunc with each; ContainsFunc, Flying.
-/
import Derived.Test.YtcpmaddleleblaaDoorGpR
import Derived.Test.YtcpmaddleleblaaDoorGpK
namespace Go.Proofs.YtcpmaddleleblaaDoor.Ga
open Go.RowKit Kt Gf Gp Gr Gk
set_option linter.unusedVariables false
set_option linter.unusedSimpArgs false
set_option maxRecDepth 20000

theorem loadG {w : World} {b : Nat} {a0 a1 a2 a3 : Value} (h : Bx w b #[a0, a1, a2, a3] 25) : (loadVar 25 ⟨b, 0, none⟩).run Tryd.prog w = .ok (.agg #[a0, a1, a2, a3]) w :=
  run_loadVar_row w b 25 25 _ (0, 0) _ h Tryd.underlying25 rfl (by kernel_rfl)

set_option maxHeartbeats 2000000 in
theorem copyOf_any (w : World) (g : G) (ka : Option Addr) (kc : Nat) (ma : Option Addr) (mc : Nat) (h : Gl w g ka kc ma mc) (hk : g.kept.length ≤ 1000000000) (hm : g.marks.length ≤ 1000000000) :
    Calls Tryd.prog 31 #[.agg (gC g ka kc ma mc)] w fun e w' => ∃ ka' kc' ma' mc', e = .returned (.agg (gC g ka' kc' ma' mc')) ∧ Go' w.heap.size w' g ka' kc' ma' mc' ∧ Below w.heap.size w w' := by
  obtain ⟨nx, kp, mk, at'⟩ := g
  simp only [gC] at *
  obtain ⟨cs, hcs⟩ : ∃ cs, #[Value.int .i64 nx, .slice ka kp.length kc, .slice ma mk.length mc, .string at'] = cs := ⟨_, rfl⟩
  have hz := Bx.new1 w (.cells #[Value.int .i64 nx, .slice ka kp.length kc, .slice ma mk.length mc, .string at'] 25) #[.int .i64 0, .slice none 0 0, .slice none 0 0, .string ⟨#[]⟩] 25
  have hB := (Bx.new w #[Value.int .i64 nx, .slice ka kp.length kc, .slice ma mk.length mc, .string at'] 25).alloc (.cells #[.int .i64 0, .slice none 0 0, .slice none 0 0, .string ⟨#[]⟩] 25)
  have hb0 : Below w.heap.size w ((w.alloc (.cells #[Value.int .i64 nx, .slice ka kp.length kc, .slice ma mk.length mc, .string at'] 25)).alloc (.cells #[.int .i64 0, .slice none 0 0, .slice none 0 0, .string ⟨#[]⟩] 25)) := ((Below.refl _ w).alloc (Nat.le_refl _) _).alloc (by simp) _
  have hsz : ((w.alloc (.cells #[Value.int .i64 nx, .slice ka kp.length kc, .slice ma mk.length mc, .string at'] 25)).alloc (.cells #[.int .i64 0, .slice none 0 0, .slice none 0 0, .string ⟨#[]⟩] 25)).heap.size = w.heap.size + 2 := by simp
  have HL := mkH h
  have HZ := mkH hz
  have HB := mkH hB
  have H0 := mkH hb0
  have HS := mkH hsz
  clear h hcs hz hB hb0 hsz
  go_enter Tryd.func31, Tryd.ntmps31
  go_wp2_with fail
  generalize (w.alloc (.cells #[Value.int .i64 nx, .slice ka kp.length kc, .slice ma mk.length mc, .string at'] 25)).alloc (.cells #[.int .i64 0, .slice none 0 0, .slice none 0 0, .string ⟨#[]⟩] 25) = w0 at *
  refine (cloneK_any w0 ka kc kp (HL.out.k.below H0.out) hk).mono ?_
  rintro e w1 ⟨a1, c1, rfl, ho1, hb1⟩
  obtain ⟨d0, d1, d2, d3, f0, f1, f2, f3⟩ := (HB.out.bel hb1).four
  have HB1 := mkH (HB.out.bel hb1)
  have HZ1 := mkH (HZ.out.bel hb1)
  have HO1 := mkH ho1
  have HBl1 := mkH hb1
  clear ho1 hb1 HB HZ
  go_wp2_with fail
  have hB2 := HB1.out.s1 (.slice a1 kp.length c1)
  have hF := HB1.out.frset 1 (.slice a1 kp.length c1)
  generalize w1.setCell ⟨w.heap.size, 1, none⟩ (.slice a1 kp.length c1) = w2 at *
  have hs0 := HS.out
  have hs1 := HBl1.out.size
  have hb02 : Below w.heap.size w w2 := below_fr (H0.out.trans (HBl1.out.mono (by omega))) hF (by intro k hk; omega) (Nat.le_refl _)
  have hZ2 := HZ1.out.fr hF (by omega)
  have hO2 := own_fr HO1.out hF (fun k hk hkw => by have := (HO1.out.lt k hk).1; omega)
  have hM2 := HL.out.m.below hb02
  clear HO1 HB1 HZ1 d0 d1 d2 d3 f0 f1 f2 f3 hF
  have hsz2 : w.heap.size + 2 ≤ w2.heap.size := by have := hZ2.lt; have := hb02.size; omega
  refine (cloneM_any w2 ma mc mk hM2 hm).mono ?_
  rintro e w3 ⟨a2, c2, rfl, ho3, hb3⟩
  obtain ⟨d0, d1, d2, d3, f0, f1, f2, f3⟩ := (hB2.bel hb3).four
  obtain ⟨e0, e1, e2, e3, g0, g1, g2, g3⟩ := (hZ2.bel hb3).four
  have HB3 := mkH (hB2.bel hb3)
  have HZ3 := mkH (hZ2.bel hb3)
  have HO3 := mkH ho3
  have HP3 := mkH (own_below hO2 hb3)
  have HBl3 : Hid (Below w.heap.size w w3) := hb02.trans (hb3.mono (by omega))
  clear ho3 hb3 hB2 hZ2 hO2 hM2 hb02
  go_wp2
  have hB4 := HB3.out.s2 (.slice a2 mk.length c2)
  have hF4 := HB3.out.frset 2 (.slice a2 mk.length c2)
  have hZ4 := HZ3.out.fr hF4 (by omega)
  generalize w3.setCell ⟨w.heap.size, 2, none⟩ (.slice a2 mk.length c2) = w4 at *
  obtain ⟨hZ5, hF5⟩ := hZ4.sAll (v0 := .int .i64 nx) (v1 := .slice a1 kp.length c1) (v2 := .slice a2 mk.length c2) (v3 := .string at')
  generalize (((w4.setCell ⟨w.heap.size + 1, 0, none⟩ (.int .i64 nx)).setCell ⟨w.heap.size + 1, 1, none⟩ (.slice a1 kp.length c1)).setCell ⟨w.heap.size + 1, 2, none⟩ (.slice a2 mk.length c2)).setCell ⟨w.heap.size + 1, 3, none⟩ (.string at') = w5 at *
  refine bodyPost_ret (res_c rfl _ _ _ rfl (loadG hZ5)) rfl ⟨a1, c1, a2, c2, rfl, ⟨?_, ?_⟩, ?_⟩
  · have h1 := own_fr (own_fr HP3.out hF4 (fun k hk hkw => by have := (HP3.out.lt k hk).1; omega)) hF5 (fun k hk hkw => by have := (HP3.out.lt k hk).1; omega)
    exact own_mono h1 (by omega)
  · have h1 := own_fr (own_fr HO3.out hF4 (fun k hk hkw => by have := (HO3.out.lt k hk).1; omega)) hF5 (fun k hk hkw => by have := (HO3.out.lt k hk).1; omega)
    exact own_mono h1 (by omega)
  · exact below_fr (below_fr HBl3.out hF4 (by intro k hk; omega) (Nat.le_refl _)) hF5 (by intro k hk; omega) (Nat.le_refl _)

theorem strEq (a b : ByteArray) : (a.toList == b.toList) = decide (a = b) := by
  rw [Bool.eq_iff_iff, beq_iff_eq, decide_eq_true_iff, ByteArray.toList_eq, ByteArray.toList_eq]
  constructor
  · intro h; cases a; cases b; simp at h; subst h; rfl
  · rintro rfl; rfl

theorem inFlight_any (w : World) (m : K) (now : Int) : Calls Tryd.prog 36 #[.agg (kC m).toArray, .int .i64 now] w fun e w' => e = .returned (.bool (fly now m)) ∧ Below w.heap.size w w' := by
  obtain ⟨q1, q2, q3, q4, q5, q6⟩ := m
  simp only [kC, fly]
  go_enter Tryd.func36, Tryd.ntmps36
  go_wp2
  go_ret
  exact ⟨rfl, (Below.refl _ w).alloc (Nat.le_refl _) _⟩

theorem flying1_any (w : World) (m : K) (c : Nat) (now : Int) (hc : w.cell? ⟨c, 0, none⟩ = some (.int .i64 now)) : Calls Tryd.prog 63 #[.agg (kC m).toArray, .pointer (some ⟨c, 0, none⟩)] w fun e w' => e = .returned (.bool (fly now m)) ∧ Below w.heap.size w w' := by
  have hlt := World.block_lt_of_cell? w _ hc
  obtain ⟨q1, q2, q3, q4, q5, q6⟩ := m
  have hI := fun W => inFlight_any W ⟨q1, q2, q3, q4, q5, q6⟩ now
  simp only [kC] at hI ⊢
  have hne : ¬ c = w.heap.size := by simp only at hlt; omega
  go_enter Tryd.func63, Tryd.ntmps63
  go_wp2_with fail
  refine (hI _).mono ?_
  rintro e w1 ⟨rfl, hb⟩
  clear hI
  go_wp2
  go_ret
  exact ⟨rfl, ((Below.refl _ w).alloc (Nat.le_refl _) _).trans (hb.mono (by simp))⟩

theorem delivery1_any (w : World) (m : K) (c : Nat) (seq : Int) (hc : w.cell? ⟨c, 0, none⟩ = some (.int .i64 seq)) : Calls Tryd.prog 81 #[.agg (kC m).toArray, .pointer (some ⟨c, 0, none⟩)] w fun e w' => e = .returned (.bool (m.seq == seq)) ∧ Below w.heap.size w w' := by
  have hlt := World.block_lt_of_cell? w _ hc
  obtain ⟨q1, q2, q3, q4, q5, q6⟩ := m
  simp only [kC]
  have hne : ¬ c = w.heap.size := by simp only at hlt; omega
  go_enter Tryd.func81, Tryd.ntmps81
  go_wp2
  go_ret
  exact ⟨rfl, (Below.refl _ w).alloc (Nat.le_refl _) _⟩

theorem send1_any (w : World) (m : M) (c : Nat) (tok : ByteArray) (hc : w.cell? ⟨c, 0, none⟩ = some (.string tok)) : Calls Tryd.prog 60 #[.agg (mC m).toArray, .pointer (some ⟨c, 0, none⟩)] w fun e w' => e = .returned (.bool (decide (m.tok = tok))) ∧ Below w.heap.size w w' := by
  have hlt := World.block_lt_of_cell? w _ hc
  obtain ⟨q1, q2, q3⟩ := m
  simp only [mC]
  have hne : ¬ c = w.heap.size := by simp only at hlt; omega
  go_enter Tryd.func60, Tryd.ntmps60
  go_wp2
  go_ret
  exact ⟨by rw [← strEq]; rfl, (Below.refl _ w).alloc (Nat.le_refl _) _⟩

theorem expire1_any (w : World) (m : K) (c d : Nat) (now keep : Int) (hc : w.cell? ⟨c, 0, none⟩ = some (.int .i64 now)) (hd : w.cell? ⟨d, 0, none⟩ = some (.int .i64 keep)) (hn : Sm now) (hm : OkK m) : Calls Tryd.prog 55 #[.agg (kC m).toArray, .pointer (some ⟨c, 0, none⟩), .pointer (some ⟨d, 0, none⟩)] w fun e w' => e = .returned (.bool (decide (keep ≤ now - m.sent))) ∧ Below w.heap.size w w' := by
  have hlt := World.block_lt_of_cell? w _ hc
  have hlt2 := World.block_lt_of_cell? w _ hd
  obtain ⟨q1, q2, q3, q4, q5, q6⟩ := m
  have hs := hm.2.1
  simp only [kC, Sm] at *
  have hne : ¬ c = w.heap.size := by omega
  have hne2 : ¬ d = w.heap.size := by omega
  have h1 : -9223372036854775808 ≤ now - q2 := by omega
  have h2 : now - q2 ≤ 9223372036854775807 := by omega
  clear hm hn hs
  go_enter Tryd.func55, Tryd.ntmps55
  go_wp2
  go_ret
  exact ⟨rfl, (Below.refl _ w).alloc (Nat.le_refl _) _⟩

theorem expire2_any (w : World) (m : M) (c : Nat) (now : Int) (hc : w.cell? ⟨c, 0, none⟩ = some (.int .i64 now)) (hn : Sm now) (hm : OkM m) : Calls Tryd.prog 57 #[.agg (mC m).toArray, .pointer (some ⟨c, 0, none⟩)] w fun e w' => e = .returned (.bool (decide (300 ≤ now - m.ti))) ∧ Below w.heap.size w w' := by
  have hlt := World.block_lt_of_cell? w _ hc
  obtain ⟨q1, q2, q3⟩ := m
  have hs := hm.2
  simp only [mC, Sm] at *
  have hne : ¬ c = w.heap.size := by omega
  have h1 : -9223372036854775808 ≤ now - q3 := by omega
  have h2 : now - q3 ≤ 9223372036854775807 := by omega
  clear hm hn hs
  go_enter Tryd.func57, Tryd.ntmps57
  go_wp2
  go_ret
  exact ⟨rfl, (Below.refl _ w).alloc (Nat.le_refl _) _⟩


set_option maxHeartbeats 1000000 in
theorem idxFly (w : World) (ao : Option Addr) (cap : Nat) (l : List K) (hr : RowK w ao l) (hl : l.length ≤ 1000000000) (p : K → Bool) (c0 : Nat)
    (hS : ∀ W x, Below w.heap.size w W → x ∈ l → Calls Tryd.prog 63 #[.agg (kC x).toArray, .pointer (some ⟨c0, 0, none⟩)] W fun e w' => e = .returned (.bool (p x)) ∧ Below W.heap.size W w') :
    Calls Tryd.prog 79 #[.slice ao l.length cap, .func (.func 63) #[] #[.pointer (some ⟨c0, 0, none⟩)]] w fun e w' => e = .returned (.int .i64 (idxI p l)) ∧ Below w.heap.size w w' := by
  have HR := mkH hr
  have HS := mkH hS
  obtain ⟨R, hR⟩ : ∃ R, idxI p l = R := ⟨_, rfl⟩
  have HI := mkH hR
  rw [hR]
  clear hr hS hR
  go_enter Tryd.func79, Tryd.ntmps79
  go_wp2_with fail
  go_loopw [8] (fun i wr => ∃ j : Nat, j ≤ l.length ∧ i = .int .i64 (j : Int) ∧ Hid (Below w.heap.size w wr) ∧ Hid (∀ k x, k < j → l[k]? = some x → p x = false)) (fun i _ => l.length - (intOf i).toNat)
  case atStart => exact ⟨0, Nat.zero_le _, rfl, mkH (Below.refl _ _), mkH (fun k x hk => by omega)⟩
  case round =>
    obtain ⟨j, hj, rfl, HB, HP⟩ := hrel
    rcases Nat.lt_or_ge j l.length with hjl | hjl
    · obtain ⟨x, hx⟩ := some_of hjl
      obtain ⟨b, off, rfl, z0, z1, z2, z3, z4, z5⟩ := atK (HR.out.below HB.out) hx
      have hcl := HS.out wr x HB.out (List.mem_of_getElem? hx)
      have hsw := HB.out.size
      have HX := mkH hx
      have hpx : ∃ t, p x = t := ⟨_, rfl⟩
      obtain ⟨t, ht⟩ := hpx
      rw [ht] at hcl
      have HT := mkH ht
      clear hx ht
      obtain ⟨q1, q2, q3, q4, q5, q6⟩ := x
      simp only [kC] at hcl z0 z1 z2 z3 z4 z5
      have HC := mkH hcl
      clear hcl
      go_wp2_with fail
      refine HC.out.mono ?_
      rintro e w1 ⟨rfl, hb1⟩
      have HB1 : Hid (Below w.heap.size w w1) := HB.out.trans (hb1.mono hsw)
      clear HC hb1 z0 z1 z2 z3 z4 z5
      cases t with
      | true =>
        go_wp2
        go_ret
        exact ⟨by rw [← HI.out, idxI_some p l j _ HX.out HT.out HP.out]; rfl, HB1⟩
      | false =>
        go_wp2
        go_roundw
        case rel => exact ⟨j + 1, by omega, by go_num, HB1, mkH (fun k y hk hy => by
          rcases Nat.lt_or_ge k j with h | h
          · exact HP.out k y h hy
          · obtain rfl : k = j := by omega
            rw [HX.out] at hy; cases hy; exact HT.out)⟩
        case measure => simp [intOf]; omega
    · obtain rfl : j = l.length := by omega
      go_wp2
      go_ret
      exact ⟨by rw [← HI.out, idxI_none p l HP.out]; rfl, HB⟩

set_option maxHeartbeats 1000000 in
theorem idxDel (w : World) (ao : Option Addr) (cap : Nat) (l : List K) (hr : RowK w ao l) (hl : l.length ≤ 1000000000) (p : K → Bool) (c0 : Nat)
    (hS : ∀ W x, Below w.heap.size w W → x ∈ l → Calls Tryd.prog 81 #[.agg (kC x).toArray, .pointer (some ⟨c0, 0, none⟩)] W fun e w' => e = .returned (.bool (p x)) ∧ Below W.heap.size W w') :
    Calls Tryd.prog 79 #[.slice ao l.length cap, .func (.func 81) #[] #[.pointer (some ⟨c0, 0, none⟩)]] w fun e w' => e = .returned (.int .i64 (idxI p l)) ∧ Below w.heap.size w w' := by
  have HR := mkH hr
  have HS := mkH hS
  obtain ⟨R, hR⟩ : ∃ R, idxI p l = R := ⟨_, rfl⟩
  have HI := mkH hR
  rw [hR]
  clear hr hS hR
  go_enter Tryd.func79, Tryd.ntmps79
  go_wp2_with fail
  go_loopw [8] (fun i wr => ∃ j : Nat, j ≤ l.length ∧ i = .int .i64 (j : Int) ∧ Hid (Below w.heap.size w wr) ∧ Hid (∀ k x, k < j → l[k]? = some x → p x = false)) (fun i _ => l.length - (intOf i).toNat)
  case atStart => exact ⟨0, Nat.zero_le _, rfl, mkH (Below.refl _ _), mkH (fun k x hk => by omega)⟩
  case round =>
    obtain ⟨j, hj, rfl, HB, HP⟩ := hrel
    rcases Nat.lt_or_ge j l.length with hjl | hjl
    · obtain ⟨x, hx⟩ := some_of hjl
      obtain ⟨b, off, rfl, z0, z1, z2, z3, z4, z5⟩ := atK (HR.out.below HB.out) hx
      have hcl := HS.out wr x HB.out (List.mem_of_getElem? hx)
      have hsw := HB.out.size
      have HX := mkH hx
      have hpx : ∃ t, p x = t := ⟨_, rfl⟩
      obtain ⟨t, ht⟩ := hpx
      rw [ht] at hcl
      have HT := mkH ht
      clear hx ht
      obtain ⟨q1, q2, q3, q4, q5, q6⟩ := x
      simp only [kC] at hcl z0 z1 z2 z3 z4 z5
      have HC := mkH hcl
      clear hcl
      go_wp2_with fail
      refine HC.out.mono ?_
      rintro e w1 ⟨rfl, hb1⟩
      have HB1 : Hid (Below w.heap.size w w1) := HB.out.trans (hb1.mono hsw)
      clear HC hb1 z0 z1 z2 z3 z4 z5
      cases t with
      | true =>
        go_wp2
        go_ret
        exact ⟨by rw [← HI.out, idxI_some p l j _ HX.out HT.out HP.out]; rfl, HB1⟩
      | false =>
        go_wp2
        go_roundw
        case rel => exact ⟨j + 1, by omega, by go_num, HB1, mkH (fun k y hk hy => by
          rcases Nat.lt_or_ge k j with h | h
          · exact HP.out k y h hy
          · obtain rfl : k = j := by omega
            rw [HX.out] at hy; cases hy; exact HT.out)⟩
        case measure => simp [intOf]; omega
    · obtain rfl : j = l.length := by omega
      go_wp2
      go_ret
      exact ⟨by rw [← HI.out, idxI_none p l HP.out]; rfl, HB⟩

set_option maxHeartbeats 1000000 in
theorem idxExp1 (w : World) (ao : Option Addr) (cap : Nat) (l : List K) (hr : RowK w ao l) (hl : l.length ≤ 1000000000) (p : K → Bool) (c0 c1 : Nat)
    (hS : ∀ W x, Below w.heap.size w W → x ∈ l → Calls Tryd.prog 55 #[.agg (kC x).toArray, .pointer (some ⟨c0, 0, none⟩), .pointer (some ⟨c1, 0, none⟩)] W fun e w' => e = .returned (.bool (p x)) ∧ Below W.heap.size W w') :
    Calls Tryd.prog 79 #[.slice ao l.length cap, .func (.func 55) #[] #[.pointer (some ⟨c0, 0, none⟩), .pointer (some ⟨c1, 0, none⟩)]] w fun e w' => e = .returned (.int .i64 (idxI p l)) ∧ Below w.heap.size w w' := by
  have HR := mkH hr
  have HS := mkH hS
  obtain ⟨R, hR⟩ : ∃ R, idxI p l = R := ⟨_, rfl⟩
  have HI := mkH hR
  rw [hR]
  clear hr hS hR
  go_enter Tryd.func79, Tryd.ntmps79
  go_wp2_with fail
  go_loopw [8] (fun i wr => ∃ j : Nat, j ≤ l.length ∧ i = .int .i64 (j : Int) ∧ Hid (Below w.heap.size w wr) ∧ Hid (∀ k x, k < j → l[k]? = some x → p x = false)) (fun i _ => l.length - (intOf i).toNat)
  case atStart => exact ⟨0, Nat.zero_le _, rfl, mkH (Below.refl _ _), mkH (fun k x hk => by omega)⟩
  case round =>
    obtain ⟨j, hj, rfl, HB, HP⟩ := hrel
    rcases Nat.lt_or_ge j l.length with hjl | hjl
    · obtain ⟨x, hx⟩ := some_of hjl
      obtain ⟨b, off, rfl, z0, z1, z2, z3, z4, z5⟩ := atK (HR.out.below HB.out) hx
      have hcl := HS.out wr x HB.out (List.mem_of_getElem? hx)
      have hsw := HB.out.size
      have HX := mkH hx
      have hpx : ∃ t, p x = t := ⟨_, rfl⟩
      obtain ⟨t, ht⟩ := hpx
      rw [ht] at hcl
      have HT := mkH ht
      clear hx ht
      obtain ⟨q1, q2, q3, q4, q5, q6⟩ := x
      simp only [kC] at hcl z0 z1 z2 z3 z4 z5
      have HC := mkH hcl
      clear hcl
      go_wp2_with fail
      refine HC.out.mono ?_
      rintro e w1 ⟨rfl, hb1⟩
      have HB1 : Hid (Below w.heap.size w w1) := HB.out.trans (hb1.mono hsw)
      clear HC hb1 z0 z1 z2 z3 z4 z5
      cases t with
      | true =>
        go_wp2
        go_ret
        exact ⟨by rw [← HI.out, idxI_some p l j _ HX.out HT.out HP.out]; rfl, HB1⟩
      | false =>
        go_wp2
        go_roundw
        case rel => exact ⟨j + 1, by omega, by go_num, HB1, mkH (fun k y hk hy => by
          rcases Nat.lt_or_ge k j with h | h
          · exact HP.out k y h hy
          · obtain rfl : k = j := by omega
            rw [HX.out] at hy; cases hy; exact HT.out)⟩
        case measure => simp [intOf]; omega
    · obtain rfl : j = l.length := by omega
      go_wp2
      go_ret
      exact ⟨by rw [← HI.out, idxI_none p l HP.out]; rfl, HB⟩

set_option maxHeartbeats 1000000 in
theorem idxSend (w : World) (ao : Option Addr) (cap : Nat) (l : List M) (hr : RowM w ao l) (hl : l.length ≤ 1000000000) (p : M → Bool) (c0 : Nat)
    (hS : ∀ W x, Below w.heap.size w W → x ∈ l → Calls Tryd.prog 60 #[.agg (mC x).toArray, .pointer (some ⟨c0, 0, none⟩)] W fun e w' => e = .returned (.bool (p x)) ∧ Below W.heap.size W w') :
    Calls Tryd.prog 59 #[.slice ao l.length cap, .func (.func 60) #[] #[.pointer (some ⟨c0, 0, none⟩)]] w fun e w' => e = .returned (.int .i64 (idxI p l)) ∧ Below w.heap.size w w' := by
  have HR := mkH hr
  have HS := mkH hS
  obtain ⟨R, hR⟩ : ∃ R, idxI p l = R := ⟨_, rfl⟩
  have HI := mkH hR
  rw [hR]
  clear hr hS hR
  go_enter Tryd.func59, Tryd.ntmps59
  go_wp2_with fail
  go_loopw [8] (fun i wr => ∃ j : Nat, j ≤ l.length ∧ i = .int .i64 (j : Int) ∧ Hid (Below w.heap.size w wr) ∧ Hid (∀ k x, k < j → l[k]? = some x → p x = false)) (fun i _ => l.length - (intOf i).toNat)
  case atStart => exact ⟨0, Nat.zero_le _, rfl, mkH (Below.refl _ _), mkH (fun k x hk => by omega)⟩
  case round =>
    obtain ⟨j, hj, rfl, HB, HP⟩ := hrel
    rcases Nat.lt_or_ge j l.length with hjl | hjl
    · obtain ⟨x, hx⟩ := some_of hjl
      obtain ⟨b, off, rfl, z0, z1, z2⟩ := atM (HR.out.below HB.out) hx
      have hcl := HS.out wr x HB.out (List.mem_of_getElem? hx)
      have hsw := HB.out.size
      have HX := mkH hx
      have hpx : ∃ t, p x = t := ⟨_, rfl⟩
      obtain ⟨t, ht⟩ := hpx
      rw [ht] at hcl
      have HT := mkH ht
      clear hx ht
      obtain ⟨q1, q2, q3⟩ := x
      simp only [mC] at hcl z0 z1 z2
      have HC := mkH hcl
      clear hcl
      go_wp2_with fail
      refine HC.out.mono ?_
      rintro e w1 ⟨rfl, hb1⟩
      have HB1 : Hid (Below w.heap.size w w1) := HB.out.trans (hb1.mono hsw)
      clear HC hb1 z0 z1 z2
      cases t with
      | true =>
        go_wp2
        go_ret
        exact ⟨by rw [← HI.out, idxI_some p l j _ HX.out HT.out HP.out]; rfl, HB1⟩
      | false =>
        go_wp2
        go_roundw
        case rel => exact ⟨j + 1, by omega, by go_num, HB1, mkH (fun k y hk hy => by
          rcases Nat.lt_or_ge k j with h | h
          · exact HP.out k y h hy
          · obtain rfl : k = j := by omega
            rw [HX.out] at hy; cases hy; exact HT.out)⟩
        case measure => simp [intOf]; omega
    · obtain rfl : j = l.length := by omega
      go_wp2
      go_ret
      exact ⟨by rw [← HI.out, idxI_none p l HP.out]; rfl, HB⟩

set_option maxHeartbeats 1000000 in
theorem idxExp2 (w : World) (ao : Option Addr) (cap : Nat) (l : List M) (hr : RowM w ao l) (hl : l.length ≤ 1000000000) (p : M → Bool) (c0 : Nat)
    (hS : ∀ W x, Below w.heap.size w W → x ∈ l → Calls Tryd.prog 57 #[.agg (mC x).toArray, .pointer (some ⟨c0, 0, none⟩)] W fun e w' => e = .returned (.bool (p x)) ∧ Below W.heap.size W w') :
    Calls Tryd.prog 59 #[.slice ao l.length cap, .func (.func 57) #[] #[.pointer (some ⟨c0, 0, none⟩)]] w fun e w' => e = .returned (.int .i64 (idxI p l)) ∧ Below w.heap.size w w' := by
  have HR := mkH hr
  have HS := mkH hS
  obtain ⟨R, hR⟩ : ∃ R, idxI p l = R := ⟨_, rfl⟩
  have HI := mkH hR
  rw [hR]
  clear hr hS hR
  go_enter Tryd.func59, Tryd.ntmps59
  go_wp2_with fail
  go_loopw [8] (fun i wr => ∃ j : Nat, j ≤ l.length ∧ i = .int .i64 (j : Int) ∧ Hid (Below w.heap.size w wr) ∧ Hid (∀ k x, k < j → l[k]? = some x → p x = false)) (fun i _ => l.length - (intOf i).toNat)
  case atStart => exact ⟨0, Nat.zero_le _, rfl, mkH (Below.refl _ _), mkH (fun k x hk => by omega)⟩
  case round =>
    obtain ⟨j, hj, rfl, HB, HP⟩ := hrel
    rcases Nat.lt_or_ge j l.length with hjl | hjl
    · obtain ⟨x, hx⟩ := some_of hjl
      obtain ⟨b, off, rfl, z0, z1, z2⟩ := atM (HR.out.below HB.out) hx
      have hcl := HS.out wr x HB.out (List.mem_of_getElem? hx)
      have hsw := HB.out.size
      have HX := mkH hx
      have hpx : ∃ t, p x = t := ⟨_, rfl⟩
      obtain ⟨t, ht⟩ := hpx
      rw [ht] at hcl
      have HT := mkH ht
      clear hx ht
      obtain ⟨q1, q2, q3⟩ := x
      simp only [mC] at hcl z0 z1 z2
      have HC := mkH hcl
      clear hcl
      go_wp2_with fail
      refine HC.out.mono ?_
      rintro e w1 ⟨rfl, hb1⟩
      have HB1 : Hid (Below w.heap.size w w1) := HB.out.trans (hb1.mono hsw)
      clear HC hb1 z0 z1 z2
      cases t with
      | true =>
        go_wp2
        go_ret
        exact ⟨by rw [← HI.out, idxI_some p l j _ HX.out HT.out HP.out]; rfl, HB1⟩
      | false =>
        go_wp2
        go_roundw
        case rel => exact ⟨j + 1, by omega, by go_num, HB1, mkH (fun k y hk hy => by
          rcases Nat.lt_or_ge k j with h | h
          · exact HP.out k y h hy
          · obtain rfl : k = j := by omega
            rw [HX.out] at hy; cases hy; exact HT.out)⟩
        case measure => simp [intOf]; omega
    · obtain rfl : j = l.length := by omega
      go_wp2
      go_ret
      exact ⟨by rw [← HI.out, idxI_none p l HP.out]; rfl, HB⟩

theorem idxI_any {α : Type} (p : α → Bool) (l : List α) : decide (0 ≤ idxI p l) = l.any p := by
  rw [← idx_any]
  unfold idxI
  cases idx p l <;> simp

theorem contains_any (w : World) (ao : Option Addr) (cap : Nat) (l : List K) (hr : RowK w ao l) (hl : l.length ≤ 1000000000) (c0 : Nat) (now : Int) (hc : w.cell? ⟨c0, 0, none⟩ = some (.int .i64 now)) :
    Calls Tryd.prog 62 #[.slice ao l.length cap, .func (.func 63) #[] #[.pointer (some ⟨c0, 0, none⟩)]] w fun e w' => e = .returned (.bool (l.any (fly now))) ∧ Below w.heap.size w w' := by
  have hq := idxFly w ao cap l hr hl (fly now) c0 (fun W x hb hx => flying1_any W x c0 now (by rw [hb.cell (p := ⟨c0, 0, none⟩) (World.block_lt_of_cell? w _ hc)]; exact hc))
  have HA := mkH (idxI_any (fly now) l)
  generalize l.any (fly now) = A at HA ⊢
  generalize idxI (fly now) l = I at hq HA
  clear hr hc
  go_enter Tryd.func62, Tryd.ntmps62
  go_wp2_with fail
  refine hq.mono ?_
  rintro e w1 ⟨rfl, hb⟩
  clear hq
  go_wp2
  go_ret
  exact ⟨by rw [← HA.out]; rfl, hb⟩

set_option maxHeartbeats 1000000 in
theorem Flying_any (w : World) (g : G) (ka : Option Addr) (kc : Nat) (ma : Option Addr) (mc : Nat) (h : Gl w g ka kc ma mc) (hk : g.kept.length ≤ 1000000000) (now : Int) :
    Calls Tryd.prog 26 #[.agg (gC g ka kc ma mc), .int .i64 now] w fun e w' => e = .returned (.bool (flying g now)) ∧ Below w.heap.size w w' := by
  unfold flying
  obtain ⟨nx, kp, mk, at'⟩ := g
  simp only [gC] at *
  have hb0 : Below w.heap.size w ((w.alloc (.cells #[Value.int .i64 nx, .slice ka kp.length kc, .slice ma mk.length mc, .string at'] 25)).alloc (.cells #[.int .i64 now] 3)) := ((Below.refl _ w).alloc (Nat.le_refl _) _).alloc (by simp) _
  have hB := Bx.new1 w (.cells #[Value.int .i64 nx, .slice ka kp.length kc, .slice ma mk.length mc, .string at'] 25) #[.int .i64 now] 3
  have HQ := mkH (contains_any _ ka kc kp (h.k.below hb0) hk (w.heap.size + 1) now (hB.cell 0 _ rfl))
  have H0 := mkH hb0
  clear h hb0 hB
  generalize kp.any (fly now) = A at HQ ⊢
  go_enter Tryd.func26, Tryd.ntmps26
  go_wp2_with fail
  refine HQ.out.mono ?_
  rintro e w1 ⟨rfl, hb⟩
  clear HQ
  go_wp2
  go_ret
  exact ⟨rfl, H0.out.trans (hb.mono (by simp; omega))⟩
end Go.Proofs.YtcpmaddleleblaaDoor.Ga
