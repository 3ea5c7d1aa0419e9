/-
  The walk of DiskTears.
-/
import Derived.Test.YtgdmkhmdfijieaaDiS
namespace Go.Proofs.Ytgdmkhmdfijieaa.Dte
open Go.RowKit Kt Dk Dp Da Db Dc Dd De Df Dg Dst
set_option linter.unusedVariables false
set_option maxRecDepth 20000

theorem run_high (W : World) (ao : Option Addr) (n c k : Nat) (hk : k ≤ c) : (Instr.slice 26 (.slice ao n c) none (some (.int .i64 (k : Int))) none).run Try.prog W = .ok (.slice ao k c) W := by
  have b1 : ∀ x, (Instr.sliceBound (.int .i64 (k : Int)) c x).run Try.prog W = .ok k W := fun x => by simp [Instr.sliceBound, asIntOf, hk]
  obtain ⟨i, hi, hz, hs, hby⟩ := info_parts info5
  have hsz : (sizeOf 5).run Try.prog W = .ok i.size W := by simp [sizeOf, typeInfo, hi]
  have e : (if c = 0 then ao else Option.map (fun x => x.add (0 * i.size)) ao) = ao := by
    cases ao with
    | none => split <;> rfl
    | some a =>
      split
      · rfl
      · obtain ⟨b, o, sp⟩ := a
        cases sp <;> simp [Addr.add]
  simp only [Instr.slice, Sem.run_bind, run_underlying Try.underlying26, Instr.sliceBounds, Result.andThen_ok, b1, Sem.run_pure, hsz]
  rw [e]
  rfl

/-- How many bits are turned ahead of byte i. -/
def cnt (f : Int) (i : Nat) : Nat := if 0 ≤ f ∧ f.toNat / 8 < i then 1 else 0
theorem turn_at (l : List UInt8) (f : Int) (i : Nat) (hi : i < l.length) :
    (0 ≤ f ∧ f.toNat / 8 = i ∧ (turn l f).getD i 0 = tb (l.getD i 0) (f.toNat % 8) ∧ cnt f (i + 1) = 1 ∧ cnt f i = 0) ∨ ((turn l f).getD i 0 = l.getD i 0 ∧ cnt f (i + 1) = cnt f i) := by
  unfold turn cnt
  by_cases h0 : 0 ≤ f
  · by_cases h1 : f.toNat / 8 = i
    · refine .inl ⟨h0, h1, ?_, ?_, ?_⟩
      · rw [if_pos ⟨h0, by omega⟩, h1]
        simp [List.getD, hi]
      · rw [if_pos ⟨h0, by omega⟩]
      · rw [if_neg (by omega)]
    · refine .inr ⟨?_, ?_⟩
      · split
        · simp [List.getD, h1]
        · rfl
      · by_cases h2 : f.toNat / 8 < i
        · rw [if_pos ⟨h0, by omega⟩, if_pos ⟨h0, h2⟩]
        · rw [if_neg (by omega), if_neg (by omega)]
  · exact .inr ⟨by rw [if_neg (by omega)], by rw [if_neg (by omega), if_neg (by omega)]⟩
theorem xor_turned (x : UInt8) (k : Nat) (hk : k < 8) : bits .xor .u8 ((tb x k).toNat : Int) (x.toNat : Int) = ((2 ^ k : Nat) : Int) := by
  have h1 : 2 ^ k < 256 := by
    have : 2 ^ k < 2 ^ 8 := Nat.pow_lt_pow_right (by decide) hk
    simpa using this
  rw [u8_xor_nat _ _ (UInt8.toNat_lt _) (UInt8.toNat_lt _)]
  unfold tb
  rw [UInt8.toNat_xor, UInt8.toNat_ofNat', Nat.mod_eq_of_lt (show 2 ^ k < 2 ^ 8 by simpa using h1), Nat.xor_comm, ← Nat.xor_assoc, Nat.xor_self, Nat.zero_xor]
theorem xor_same (x : UInt8) : bits .xor .u8 (x.toNat : Int) (x.toNat : Int) = 0 := by
  rw [u8_xor_nat _ _ (UInt8.toNat_lt _) (UInt8.toNat_lt _), Nat.xor_self]
  rfl
theorem pow_and (k : Nat) (hk : k < 8) : bits .and .u8 ((2 ^ k : Nat) : Int) (((2 ^ k : Nat) : Int) - 1) = 0 ∧ 1 ≤ 2 ^ k ∧ 2 ^ k < 256 := by
  have : ∀ k : Fin 8, bits .and .u8 ((2 ^ k.1 : Nat) : Int) (((2 ^ k.1 : Nat) : Int) - 1) = 0 ∧ 1 ≤ 2 ^ k.1 ∧ 2 ^ k.1 < 256 := by decide
  exact this ⟨k, hk⟩
/-- What is turned in a byte: nothing, or one bit. -/
theorem byte_step (l : List UInt8) (f : Int) (i : Nat) (hi : i < l.length) : ∃ y : Nat, bits .xor .u8 (((turn l f).getD i 0).toNat : Int) ((l.getD i 0).toNat : Int) = (y : Int) ∧
    ((y = 0 ∧ cnt f (i + 1) = cnt f i) ∨ (bits .and .u8 (y : Int) ((y : Int) - 1) = 0 ∧ 1 ≤ y ∧ y < 256 ∧ cnt f (i + 1) = 1 ∧ cnt f i = 0)) := by
  rcases turn_at l f i hi with ⟨-, -, h3, h4, h5⟩ | ⟨h1, h2⟩
  · refine ⟨2 ^ (f.toNat % 8), by rw [h3]; exact xor_turned _ _ (by omega), .inr ?_⟩
    obtain ⟨p1, p2, p3⟩ := pow_and (f.toNat % 8) (by omega)
    exact ⟨p1, p2, p3, h4, h5⟩
  · exact ⟨0, by rw [h1]; exact xor_same _, .inl ⟨rfl, h2⟩⟩
theorem cnt_zero (f : Int) : cnt f 0 = 0 := by unfold cnt; rw [if_neg (by omega)]

set_option maxHeartbeats 4000000 in
theorem tears_walk (w : World) (a0 a1 : Option Addr) (p0 p1 : Nat) (l0 : List Ac) (xb : List UInt8) (kp fl : Int) (hr0 : RowA w a0 l0) (hl0 : l0.length ≤ p0) (hp0 : p0 ≤ 9223372036854775807) (hr1 : Row w a1 xb) (hl1 : xb.length ≤ p1) (hp1 : p1 ≤ 9223372036854775807) (hf : fl ≤ 9223372036854775807) :
    Calls Try.prog 6 #[.slice a0 l0.length p0, .slice a1 xb.length p1, .agg #[.int .i64 kp, .int .i64 fl]] w fun e w' => e = .returned (.bool true) ∧ Below w.heap.size w w' := by
  go_enter Try.func6, Try.ntmps6
  go_wp2_with fail
  obtain ⟨w0, hw0⟩ : ∃ w0, w.alloc (.cells #[.int .i64 kp, .int .i64 fl] 51) = w0 := ⟨_, rfl⟩
  obtain ⟨A, hA⟩ : ∃ A, w.heap.size = A := ⟨_, rfl⟩
  have hb0 : Below w.heap.size w w0 := by rw [← hw0]; exact below_alloc w _
  have hh0 : w0.heap[A]? = some (.cells #[.int .i64 kp, .int .i64 fl] 51 (0, 0)) := by rw [← hw0, ← hA]; exact heap_alloc_new _ _
  rw [hw0, hA]
  have HB0 := mkH hb0
  have HH0 := mkH hh0
  refine (plays_any w0 a0 p0 l0 (hr0.below hb0) hl0 hp0).mono ?_
  rintro e w1 ⟨D, s, rfl, hs, h1⟩
  have HX := mkH (Row_take (hr1.below hb0) 300)
  have H1 := mkH h1
  have HS := mkH hs
  clear hr0 hr1 h1 hl0 hp0 hs hw0 hA hb0 hh0
  go_wp2_with fail
  have q2 := sync_dn H1.out
  rw [show synS s = ⟨s.kept ++ s.rest, [], false⟩ by unfold synS; rw [HS.out]; simp] at q2
  generalize synE s = E0 at q2
  generalize s.kept ++ s.rest = K at q2
  refine q2.mono ?_
  rintro e w2 ⟨rfl, h2⟩
  have H2 := mkH h2
  clear H1 h2 q2 HS
  go_wp2_with fail
  refine (kept_dn H2.out).mono ?_
  rintro e w3 ⟨v, rfl, ⟨wa, wc, rfl, hwl, hwc, hwr, hwb⟩, hb, h3⟩
  simp only at hwl hwr ⊢
  obtain ⟨G, hG⟩ : ∃ G : Nat → Prop, G = (fun k => k < w0.heap.size ∨ (w2.heap.size ≤ k ∧ k < w3.heap.size)) := ⟨_, rfl⟩
  have h4 := H2.out.more hb
  have HG : Hid ((∀ k, k < w0.heap.size → G k) ∧ ∀ b off, wa = some ⟨b, off, none⟩ → b < w3.heap.size → G b) := by
    rw [hG]
    exact ⟨fun k hk => .inl hk, fun b off e hb => .inr ⟨hwb b off e, hb⟩⟩
  rw [← hG] at h4
  have H4 := mkH h4
  have HW := mkH hwr
  have hb2 := H2.out.toBelow (fun k hk => hk)
  have HB3 : Hid (Below w0.heap.size w0 w3) := hb2.trans (hb.mono hb2.size)
  have HBW : Hid (∀ W t, Dn w3 G W D t → Below w.heap.size w W ∧ Below w0.heap.size w0 W) := fun W t h => by
    have := HB3.out.trans (h.toBelow HG.out.1)
    exact ⟨HB0.out.trans (this.mono HB0.out.size), this⟩
  have hkl : K.length ≤ 4194304 := by have := H4.out.len; simpa using this
  obtain ⟨kl, hkn⟩ : ∃ kn, K.length = kn := ⟨_, rfl⟩
  rw [hkn] at hwl hkl ⊢
  have HKN := mkH hkn
  obtain ⟨m, hm1, hm2, hm3, hm4⟩ := min_len xb 300
  have hm2 : (if (300 : Int) < (xb.length : Int) then (300 : Int) else (xb.length : Int)) = (m : Int) := hm2
  generalize hbs : xb.take 300 = bs at hm1 HX
  have HM := mkH hm1
  have HR : Hid (∀ W t, Dn w3 G W D t → Row W a1 bs) := fun W t h => HX.out.below (HBW.out W t h).2
  have HRW : Hid (∀ W t, Dn w3 G W D t → Row W wa K) := fun W t h => h.row HW.out HG.out.2
  have HAT : Hid (∀ W t, Dn w3 G W D t → W.cell? ⟨A, 0, none⟩ = some (.int .i64 kp) ∧ W.cell? ⟨A, 1, none⟩ = some (.int .i64 fl)) := fun W t h => by
    have hx : W.heap[A]? = some (.cells #[.int .i64 kp, .int .i64 fl] 51 (0, 0)) := by rw [(HBW.out W t h).2.block A (block_lt HH0.out)]; exact HH0.out
    rw [cell_of_row _ _ _ _ _ _ hx, cell_of_row _ _ _ _ _ _ hx]
    exact ⟨rfl, rfl⟩
  obtain ⟨ca0, ca1⟩ := HAT.out _ _ H4.out
  clear H2 hwr hwb hb h3 h4 hG hb2 hkn HX hbs hm1
  go_wp2_with fail
  have q5 := append_dn H4.out a1 p1 bs (HR.out _ _ H4.out) (by rw [HM.out]; omega)
  rw [show appE ⟨K, [], false⟩ bs.length = if 4194304 < kl + m then 7 else 0 by unfold appE; simp [HKN.out, HM.out], show appS ⟨K, [], false⟩ bs = if 4194304 < kl + m then ⟨K, [], false⟩ else ⟨K, bs, false⟩ by unfold appS; simp [HKN.out, HM.out], HM.out] at q5
  by_cases hful : 4194304 < kl + m
  · rw [if_pos hful, if_pos hful] at q5
    refine q5.mono ?_
    rintro e w5 ⟨rfl, h5⟩
    have H5 := mkH h5
    clear h5 q5 H4 ca0 ca1
    go_wp2_with fail
    have q6 := size_dn H5.out
    simp only [List.length_nil, Nat.add_zero, HKN.out] at q6
    refine q6.mono ?_
    rintro e w6 ⟨rfl, hw6⟩
    have hw6' := hw6.symm
    subst hw6'
    clear q6 hw6
    have t1 : (4194304 : Int) < (kl : Int) + (m : Int) := by omega
    go_wp2_with fail
    refine (works_any _).mono ?_
    rintro e w7 ⟨rfl, hb7⟩
    have hbe := (HBW.out _ _ H5.out).1
    go_wp2
    go_ret
    exact ⟨rfl, hbe.trans (hb7.mono hbe.size)⟩
  · rw [if_neg hful, if_neg hful] at q5
    refine q5.mono ?_
    rintro e w5 ⟨rfl, h5⟩
    have H5 := mkH h5
    clear h5 q5 H4 ca0 ca1
    obtain ⟨ca0, ca1⟩ := HAT.out _ _ H5.out
    by_cases hneg : kp < 0
    · go_wp2_with fail
      have q6 := crash_dn H5.out kp fl hf
      rw [show crsE ⟨K, bs, false⟩ kp = 2 by unfold crsE; simp [hneg], show crsS ⟨K, bs, false⟩ kp fl = ⟨K, bs, false⟩ by unfold crsS; simp [hneg]] at q6
      refine q6.mono ?_
      rintro e w6 ⟨rfl, h6⟩
      have H6 := mkH h6
      clear h6 q6 H5 ca0 ca1
      go_wp2_with fail
      refine (down_dn H6.out).mono ?_
      rintro e w7 ⟨rfl, hw7⟩
      have hw7' := hw7.symm
      subst hw7'
      clear hw7
      go_wp2_with fail
      refine (works_any _).mono ?_
      rintro e w7 ⟨rfl, hb7⟩
      have hbe := (HBW.out _ _ H6.out).1
      go_wp2
      go_ret
      exact ⟨rfl, hbe.trans (hb7.mono hbe.size)⟩
    · go_wp2_with fail
      obtain ⟨n, hn1, hn2, hn3⟩ : ∃ n, n ≤ m ∧ bs.take kp.toNat = bs.take n ∧ (if (m : Int) < kp then (m : Int) else kp) = (n : Int) := by
        by_cases hk : (m : Int) < kp
        · exact ⟨m, Nat.le_refl _, by rw [List.take_of_length_le (by rw [HM.out]; omega), List.take_of_length_le (by rw [HM.out]; omega)], by rw [if_pos hk]⟩
        · exact ⟨kp.toNat, by omega, rfl, by rw [if_neg hk]; omega⟩
      have q6 := crash_dn H5.out kp fl hf
      rw [show crsE ⟨K, bs, false⟩ kp = 0 by unfold crsE; simp [hneg], show crsS ⟨K, bs, false⟩ kp fl = ⟨K, turn (bs.take n) fl, true⟩ by unfold crsS; simp [hneg, hn2]] at q6
      refine q6.mono ?_
      rintro e w6 ⟨rfl, h6⟩
      have H6 := mkH h6
      clear h6 q6 H5 ca0 ca1 hn2
      go_wp2_with fail
      refine (down_dn H6.out).mono ?_
      rintro e w7 ⟨rfl, hw7⟩
      have hw7' := hw7.symm
      subst hw7'
      clear hw7
      go_wp2_with fail
      have q7 := restart_dn H6.out
      rw [show rstE ⟨K, turn (bs.take n) fl, true⟩ = 0 from rfl, show rstS ⟨K, turn (bs.take n) fl, true⟩ = ⟨K ++ turn (bs.take n) fl, [], false⟩ by simp [rstS]] at q7
      refine q7.mono ?_
      rintro e w8 ⟨rfl, h8⟩
      have H8 := mkH h8
      clear h8 q7 H6
      go_wp2_with fail
      have q9 := read_dn H8.out
      rw [show redE ⟨K ++ turn (bs.take n) fl, [], false⟩ = 0 from rfl, show redB ⟨K ++ turn (bs.take n) fl, [], false⟩ = K ++ turn (bs.take n) fl by simp [redB]] at q9
      refine q9.mono ?_
      rintro e w9 ⟨v, rfl, ⟨xa, xc, rfl, hxl, hxc, hxr, -⟩, hb9, h9⟩
      have H9 := mkH h9
      have hnl : (bs.take n).length = n := by rw [List.length_take, HM.out]; omega
      have hxx : (K ++ turn (bs.take n) fl).length = kl + n := by rw [List.length_append, turn_length, HKN.out, hnl]
      have hrK : Row w9 xa K := by
        have := Row_take hxr kl
        rw [List.take_append_of_le_length (by rw [HKN.out]; omega), List.take_of_length_le (by rw [HKN.out]; omega)] at this
        exact this
      have s1 := strW hrK xc
      have s2 := strW (HRW.out _ _ H9.out) wc
      rw [hxx] at hxl ⊢
      simp only [HKN.out] at s1 s2
      generalize S K = str at s1 s2
      have HXR := mkH hxr
      have HNL := mkH hnl
      obtain ⟨N, hN⟩ : ∃ N, kl + n = N := ⟨_, rfl⟩
      have eN : (kl : Int) + (n : Int) = (N : Int) := by omega
      have hNb : N ≤ 4194304 := by omega
      rw [hN] at hxl ⊢
      have sl := fun W => run_high W xa N xc kl (by omega)
      clear h9 q9 H8 hb9 hxr hrK hxx hnl
      go_wp2_with fail
      go_quiet (fail)
      have H10 := mkH (H9.out.below (below_drewN (Below.refl _ _) nq))
      have HXR10 := mkH (HXR.out.below (below_drewN (Below.refl _ _) nq))
      generalize w9.drewN nq = w10 at H10 HXR10 ⊢
      clear s1 s2 sl H9 HXR
      go_wp2_with fail
      go_loopw [107, 13] (fun i t W => ∃ j : Nat, j ≤ n ∧ i = .int .i64 j ∧ t = .int .i64 (cnt fl j : Int) ∧ ∃ q, w10.drewN q = W) (fun i _ _ => n - (intOf i).toNat)
      case atStart => exact ⟨0, by omega, rfl, by rw [cnt_zero]; rfl, 0, rfl⟩
      case round =>
        obtain ⟨j, hj, rfl, rfl, q, hq⟩ := hrel
        have HQ := mkH (H10.out.below (below_drewN (Below.refl _ _) q))
        have HXQ := mkH (HXR10.out.below (below_drewN (Below.refl _ _) q))
        rw [hq] at HQ HXQ
        have HNX : Hid (∀ q', ∃ q, w10.drewN q = wr.drewN q') := fun q' => ⟨q + q', by rw [← hq]; simp [World.drewN, Nat.add_assoc]⟩
        clear hq
        obtain ⟨ca0, ca1⟩ := HAT.out _ _ HQ.out
        by_cases hjn : j = n
        · subst hjn
          have hbe := (HBW.out _ _ HQ.out).1
          by_cases h0 : 0 ≤ fl
          · obtain ⟨f, rfl⟩ : ∃ f : Nat, fl = (f : Int) := ⟨fl.toNat, by omega⟩
            have e1 : (f : Int).tdiv 8 = ((f / 8 : Nat) : Int) := by rw [Int.tdiv_eq_ediv_of_nonneg (by omega)]; omega
            have hf8 : f / 8 ≤ 9223372036854775807 := by omega
            by_cases h1 : f / 8 < j
            · have ec : cnt (f : Int) j = 1 := by unfold cnt; rw [if_pos ⟨h0, by simpa using h1⟩]
              rw [ec]
              clear ec
              generalize f / 8 = f8 at *
              go_wp2_with fail
              refine (works_any _).mono ?_
              rintro e w7 ⟨rfl, hb7⟩
              go_wp2
              go_ret
              exact ⟨rfl, hbe.trans (hb7.mono hbe.size)⟩
            · have ec : cnt (f : Int) j = 0 := by unfold cnt; rw [if_neg (by simp; omega)]
              rw [ec]
              clear ec
              generalize f / 8 = f8 at *
              have t9 : decide ((f8 : Int) < (j : Int)) = false := by simp; omega
              go_wp2_with fail
              refine (works_any _).mono ?_
              rintro e w7 ⟨rfl, hb7⟩
              go_wp2
              go_ret
              exact ⟨rfl, hbe.trans (hb7.mono hbe.size)⟩
          · have ec : cnt fl j = 0 := by unfold cnt; rw [if_neg (by omega)]
            rw [ec]
            clear ec
            go_wp2_with fail
            refine (works_any _).mono ?_
            rintro e w7 ⟨rfl, hb7⟩
            go_wp2
            go_ret
            exact ⟨rfl, hbe.trans (hb7.mono hbe.size)⟩
        · have hjl : j < n := by omega
          have hT : (turn (bs.take n) fl).length = n := by rw [turn_length, HNL.out]
          obtain ⟨xg, xo, rfl, hxcell⟩ := HXQ.out (by rw [List.length_append, hT]; omega)
          obtain ⟨bg, bo, rfl, hbcell⟩ := HR.out _ _ HQ.out (by rw [HM.out]; omega)
          have d1 := hxcell (kl + j) (by rw [List.length_append, hT, HKN.out]; omega)
          have d2 := hbcell j (by rw [HM.out]; omega)
          have e1 : (K ++ turn (bs.take n) fl).getD (kl + j) 0 = (turn (bs.take n) fl).getD j 0 := by
            simp only [List.getD]
            rw [List.getElem?_append_right (by rw [HKN.out]; omega), HKN.out, Nat.add_sub_cancel_left]
          have e2 : bs.getD j 0 = (bs.take n).getD j 0 := by
            simp only [List.getD]
            rw [List.getElem?_take, if_pos hjl]
          rw [e1] at d1
          rw [e2] at d2
          obtain ⟨y, hy1, hy2⟩ := byte_step (bs.take n) fl j (by rw [HNL.out]; exact hjl)
          generalize ((turn (bs.take n) fl).getD j 0).toNat = X at d1 hy1
          generalize ((bs.take n).getD j 0).toNat = Bv at d2 hy1
          obtain ⟨t, ht⟩ : ∃ t, kl + j = t := ⟨_, rfl⟩
          have et : (kl : Int) + (j : Int) = (t : Int) := by omega
          rw [ht] at d1
          have htN : t < N := by omega
          have hjm : j < m := by omega
          clear hxcell hbcell e1 e2 hT ca0 ca1
          go_wp2_with fail
          go_quiet (fail)
          obtain ⟨q2, hq2⟩ := HNX.out nq
          have HQ2 := mkH hq2
          generalize wr.drewN nq = w12 at hq2 HQ2 ⊢
          clear hq2 d1 d2
          go_wp2_with fail
          rcases hy2 with ⟨rfl, hc⟩ | ⟨hand, hy3, hy4, hc1, hc0⟩
          · go_loopw [15, 13] (fun yv tv W => yv = .int .u8 0 ∧ tv = .int .i64 (cnt fl j : Int) ∧ w12 = W) (fun _ _ _ => 0)
            case atStart => exact ⟨rfl, rfl, rfl⟩
            case round =>
              obtain ⟨rfl, rfl, hw⟩ := hrel
              subst hw
              go_wp2_with fail
              refine ⟨⟨j + 1, by omega, by go_num, by rw [hc], q2, HQ2.out⟩, by simp [intOf]; omega⟩
          · rw [hc0]
            go_loopw [15, 13] (fun yv tv W => ((yv = .int .u8 (y : Int) ∧ tv = .int .i64 0) ∨ (yv = .int .u8 0 ∧ tv = .int .i64 1)) ∧ w12 = W) (fun yv _ _ => (intOf yv).toNat)
            case atStart => exact ⟨.inl ⟨rfl, rfl⟩, rfl⟩
            case round =>
              obtain ⟨hrel, hw⟩ := hrel
              subst hw
              rcases hrel with ⟨rfl, rfl⟩ | ⟨rfl, rfl⟩
              · have ty : ((y : Int) == 0) = false := by simp; omega
                have ty1 : (y : Int) - 1 = ((y - 1 : Nat) : Int) := by omega
                have hand2 : bits .and .u8 (y : Int) ((y - 1 : Nat) : Int) = 0 := by rw [← ty1]; exact hand
                have hy5 : y - 1 < 256 := by omega
                generalize y - 1 = y1 at *
                clear hand
                go_wp2_with fail
                refine ⟨⟨.inr ⟨rfl, rfl⟩, trivial⟩, by simp [intOf]; omega⟩
              · go_wp2_with fail
                refine ⟨⟨j + 1, by omega, by go_num, by rw [hc1]; rfl, q2, HQ2.out⟩, by simp [intOf]; omega⟩
end Go.Proofs.Ytgdmkhmdfijieaa.Dte
