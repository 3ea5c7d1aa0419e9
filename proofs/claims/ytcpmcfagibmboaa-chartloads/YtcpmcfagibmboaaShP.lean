/-
  The document's ReadNum, of whatever bytes: it reads what octet reads, and refuses what octet refuses.
-/
import Derived.Test.YtcpmcfagibmboaaReads
namespace Go.Proofs.Ytcpmcfagibmboaa.Hp
open Go.RowKit Kt Pl Rd
set_option linter.unusedVariables false
set_option linter.unusedSimpArgs false
set_option maxRecDepth 20000

/-- What is read, or that it is refused. -/
def RdN (bs : List UInt8) (e : Ending) : Prop := (readNum bs).2.2 = 0 ∧ e = ans (readNum bs) ∨ (readNum bs).2.2 ≠ 0 ∧ ∃ er : Nat, er ≠ 0 ∧ e = .returned (.tuple #[.int .i64 0, .int .i64 0, .int .i64 (er : Int)])
theorem rd_end (bs : List UInt8) (r i n : Nat) (h : i = bs.length) : (rd bs r i n).2.2 ≠ 0 := by
  cases r with
  | zero => simp [rd]
  | succ r => rw [rd, if_pos h]; simp
theorem rd_bad (bs : List UInt8) (r i n : Nat) (h : ¬ i = bs.length) (hb : 4611686018427387904 < n + dg (bs.getD i 0).toNat i ∨ ((bs.getD i 0).toNat = 0 ∧ 0 < i)) : (rd bs r i n).2.2 ≠ 0 := by
  cases r with
  | zero => simp [rd]
  | succ r => rw [rd, if_neg h, if_pos (by unfold dg at hb; exact hb)]; simp
theorem rd_fin (bs : List UInt8) (r i n : Nat) (h : ¬ i = bs.length) (hb : ¬ (4611686018427387904 < n + dg (bs.getD i 0).toNat i ∨ ((bs.getD i 0).toNat = 0 ∧ 0 < i))) (hc : (bs.getD i 0).toNat < 128) : rd bs (r + 1) i n = (n + dg (bs.getD i 0).toNat i, i + 1, 0) := by
  unfold dg at *
  rw [rd, if_neg h, if_neg hb, if_pos hc]
theorem rd_next (bs : List UInt8) (r i n : Nat) (h : ¬ i = bs.length) (hb : ¬ (4611686018427387904 < n + dg (bs.getD i 0).toNat i ∨ ((bs.getD i 0).toNat = 0 ∧ 0 < i))) (hc : ¬ (bs.getD i 0).toNat < 128) : rd bs (r + 1) i n = rd bs r (i + 1) (n + dg (bs.getD i 0).toNat i) := by
  unfold dg at *
  rw [rd, if_neg h, if_neg hb, if_neg hc]
/-- The weight of a byte's place. -/
def wt (k : Nat) : Nat := 2 ^ (7 * min k 8)
theorem wt_bd (k : Nat) : 1 ≤ wt k ∧ wt k ≤ 72057594037927936 := by
  unfold wt
  exact ⟨Nat.one_le_two_pow, Nat.le_trans (Nat.pow_le_pow_right (by omega) (show 7 * min k 8 ≤ 56 by omega)) (by decide)⟩
theorem wt_next {k : Nat} (h : k < 8) : wt k * 128 = wt (k + 1) := by
  unfold wt
  rw [show min k 8 = k by omega, show min (k + 1) 8 = k + 1 by omega, show 7 * (k + 1) = 7 * k + 7 by omega, Nat.pow_add]
theorem wt_last {k : Nat} (h : ¬ k < 8) : wt k = wt (k + 1) := by
  unfold wt
  rw [show min k 8 = 8 by omega, show min (k + 1) 8 = 8 by omega]
theorem dg_wt {c k : Nat} (h : k ≤ 8) : dg c k = c % 128 * wt k := by unfold dg wt; rw [show min k 8 = k by omega]
theorem big_iff {c k q : Nat} (h : k ≤ 8) (hq : q < 2 ^ (7 * k)) : 4611686018427387904 < q + dg c k ↔ k = 8 ∧ (64 < c % 128 ∨ (c % 128 = 64 ∧ 0 < q)) := by
  by_cases h8 : k = 8
  · subst h8
    have e : dg c 8 = c % 128 * 72057594037927936 := by unfold dg; rfl
    have hq2 : q < 72057594037927936 := hq
    rw [e]
    omega
  · have h1 := (dg_bd (c := c) (k := k) (by omega) hq).1
    have h2 : 2 ^ (7 * (k + 1)) ≤ 72057594037927936 := Nat.le_trans (Nat.pow_le_pow_right (by omega) (show 7 * (k + 1) ≤ 56 by omega)) (by decide)
    omega

set_option maxHeartbeats 16000000 in
theorem rreadNum_any (w : World) (ao : Option Addr) (cap : Nat) (bs : List UInt8) (hr : Row w ao bs) (hlen : bs.length ≤ 9223372036854775807) :
    Calls Try.prog 38 #[.slice ao bs.length cap] w fun e w' => RdN bs e ∧ w' = w := by
  have HR := mkH hr
  clear hr
  go_enter Try.func38, Try.ntmps38
  go_wp2_with fail
  go_loopw [5, 6, 7] (fun nv wv iv W => ∃ k q p : Nat, k ≤ 9 ∧ k ≤ bs.length ∧ iv = .int .i64 k ∧ nv = .int .i64 q ∧ wv = .int .i64 p ∧ Hid (p = wt k) ∧ Hid (q < 2 ^ (7 * k)) ∧ Hid (rd bs (9 - k) k q = readNum bs) ∧ W = w) (fun _ _ iv _ => bs.length - (intOf iv).toNat)
  case atStart => exact ⟨0, 0, 1, by omega, by omega, rfl, rfl, rfl, rfl, by simp [Hid], rfl, rfl⟩
  case round =>
    obtain ⟨k, q, p, hk, hkl, rfl, rfl, rfl, HP, HQ, HD, hw⟩ := hrel
    subst hw
    by_cases hlt : k < bs.length
    · obtain ⟨b, off, rfl, hc⟩ := HR.out (by omega)
      have hcell := hc k hlt
      obtain ⟨c, hcc⟩ : ∃ c, (bs.getD k 0).toNat = c := ⟨_, rfl⟩
      rw [hcc] at hcell
      have hc256 : c < 256 := by rw [← hcc]; exact (bs.getD k 0).toNat_lt
      have HC := mkH hcc
      have hi : (k : Int) < (bs.length : Int) := by omega
      have hi0 : (0 : Int) ≤ (k : Int) := by omega
      clear hc hcc
      by_cases h9 : k = 9
      · have HE : Hid ((readNum bs).2.2 ≠ 0) := mkH (by rw [← HD.out, h9]; simp [rd])
        subst h9
        go_wp2
        go_ret3
        exact ⟨.inr ⟨HE.out, 5, by decide, rfl⟩, rfl⟩
      · have h8l : k ≤ 8 := by omega
        obtain ⟨d, hd⟩ : ∃ d, c % 128 = d := ⟨_, rfl⟩
        have hd1 : d < 128 := by omega
        have tm : (c : Int).tmod 128 = (d : Int) := by rw [Int.tmod_eq_emod_of_nonneg (by omega)]; omega
        have h9i : ¬ (k : Int) = 9 := by omega
        have HB := mkH (big_iff (c := c) h8l HQ.out)
        have hwb := wt_bd k
        rw [← HP.out] at hwb
        obtain ⟨hp1, hp2⟩ := hwb
        by_cases hz : 0 < k ∧ c = 0
        · obtain ⟨hk0, hc0⟩ := hz
          subst hc0
          have hk0i : (0 : Int) < (k : Int) := by omega
          have HE : Hid ((readNum bs).2.2 ≠ 0) := mkH (by rw [← HD.out]; exact rd_bad bs _ _ _ (by omega) (.inr ⟨HC.out, hk0⟩))
          clear hd tm HB
          go_wp2
          go_ret3
          exact ⟨.inr ⟨HE.out, 5, by decide, rfl⟩, rfl⟩
        · by_cases ho : k = 8 ∧ (64 < d ∨ (d = 64 ∧ 0 < q))
          · have HE : Hid ((readNum bs).2.2 ≠ 0) := mkH (by rw [← HD.out]; exact rd_bad bs _ _ _ (by omega) (.inl (by rw [HC.out]; exact HB.out.mpr (by rw [hd]; exact ho))))
            obtain ⟨h8, ho⟩ := ho
            subst h8
            have hc0 : ¬ c = 0 := by omega
            have hd0 : 0 < d := by omega
            clear hz hd HB HQ HD HP
            rcases ho with ho | ⟨ho, hq0⟩
            · have hoi : (64 : Int) < (d : Int) := by omega
              go_wp2
              go_ret3
              exact ⟨.inr ⟨HE.out, 5, by decide, rfl⟩, rfl⟩
            · subst ho
              go_wp2
              go_ret3
              exact ⟨.inr ⟨HE.out, 5, by decide, rfl⟩, rfl⟩
          · have HNB : Hid (¬ (4611686018427387904 < q + dg (bs.getD k 0).toNat k ∨ ((bs.getD k 0).toNat = 0 ∧ 0 < k))) := mkH (by rw [HC.out]; rintro (h | h); exact ho (by have := HB.out.mp h; rw [hd] at this; exact this); exact hz ⟨h.2, h.1⟩)
            obtain ⟨m, hm⟩ : ∃ m, d * p = m := ⟨_, rfl⟩
            have hmi : (d : Int) * (p : Int) = (m : Int) := by rw [← hm]; simp
            have HM : Hid (dg c k = m) := mkH (by rw [dg_wt h8l, hd, ← HP.out, hm])
            have hqm : q + m ≤ 4611686018427387904 := by have h1 := HNB.out; rw [HC.out, HM.out] at h1; omega
            have HQ2 : Hid (q + m < 2 ^ (7 * (k + 1))) := mkH (by have h1 := (dg_bd (c := c) (k := k) (by omega) HQ.out).1; rw [HM.out] at h1; exact h1)
            have HF : Hid (c < 128 → readNum bs = (q + m, k + 1, 0)) := mkH (fun h => by rw [← HD.out, show 9 - k = (8 - k) + 1 by omega, rd_fin bs _ _ _ (by omega) HNB.out (by rw [HC.out]; exact h), HC.out, HM.out])
            have HN : Hid (¬ c < 128 → rd bs (9 - (k + 1)) (k + 1) (q + m) = readNum bs) := mkH (fun h => by rw [← HD.out, show 9 - k = (8 - k) + 1 by omega, rd_next bs _ _ _ (by omega) HNB.out (by rw [HC.out]; exact h), HC.out, HM.out, show 9 - (k + 1) = 8 - k by omega])
            have HW1 : Hid (k < 8 → p * 128 = wt (k + 1)) := mkH (fun h => by rw [HP.out]; exact wt_next h)
            have HW2 : Hid (¬ k < 8 → p = wt (k + 1)) := mkH (fun h => by rw [HP.out]; exact wt_last h)
            have hpb : k < 8 → p * 128 ≤ 72057594037927936 := fun h => by rw [HW1.out h]; exact (wt_bd _).2
            clear HB HQ HD HP HNB HM
            by_cases hk8 : k < 8
            · have h8i : ¬ (k : Int) = 8 := by omega
              have hk8i : (k : Int) < 8 := by omega
              by_cases hk0 : 0 < k
              · have hk0i : (0 : Int) < (k : Int) := by omega
                have hc0 : ¬ c = 0 := fun h => hz ⟨hk0, h⟩
                have hkb : ((k : Int) == 9) = false := by simp; omega
                have hcb : ((c : Int) == 0) = false := by simp; omega
                clear hz ho
                by_cases hd0 : 0 < d
                · have hd0i : (0 : Int) < (d : Int) := by omega
                  by_cases hc1 : c < 128
                  · have hc1i :  (c : Int) < 128 := by omega
                    have HA := mkH (HF.out hc1)
                    clear HF HN HW1 HW2 HQ2 hpb
                    go_wp2
                    go_ret3
                    exact ⟨.inl (by rw [HA.out]; exact ⟨rfl, by simp [ans] <;> omega⟩), rfl⟩
                  · have hc1i : ¬ (c : Int) < 128 := by omega
                    have HA := mkH (HN.out hc1)
                    have HW := mkH (HW1.out hk8)
                    have hpb2 := hpb hk8
                    clear HF HN HW1 HW2 hpb
                    go_wp2_with fail
                    exact ⟨⟨k + 1, q + m, p * 128, by omega, by omega, by go_num, by go_num, by go_num, HW, HQ2, HA, trivial⟩, by simp [intOf]; omega⟩
                · have hd0i : ¬ (0 : Int) < (d : Int) := by omega
                  by_cases hc1 : c < 128
                  · exact absurd hc0 (by omega)
                  · have hc1i : ¬ (c : Int) < 128 := by omega
                    have HA := mkH (HN.out hc1)
                    have HW := mkH (HW1.out hk8)
                    have hpb2 := hpb hk8
                    clear HF HN HW1 HW2 hpb
                    go_wp2_with fail
                    exact ⟨⟨k + 1, q + m, p * 128, by omega, by omega, by go_num, by go_num, by go_num, HW, HQ2, HA, trivial⟩, by simp [intOf]; omega⟩
              · have hk0i : ¬ (0 : Int) < (k : Int) := by omega
                clear hz ho
                by_cases hd0 : 0 < d
                · have hd0i : (0 : Int) < (d : Int) := by omega
                  by_cases hc1 : c < 128
                  · have hc1i :  (c : Int) < 128 := by omega
                    have HA := mkH (HF.out hc1)
                    clear HF HN HW1 HW2 HQ2 hpb
                    go_wp2
                    go_ret3
                    exact ⟨.inl (by rw [HA.out]; exact ⟨rfl, by simp [ans] <;> omega⟩), rfl⟩
                  · have hc1i : ¬ (c : Int) < 128 := by omega
                    have HA := mkH (HN.out hc1)
                    have HW := mkH (HW1.out hk8)
                    have hpb2 := hpb hk8
                    clear HF HN HW1 HW2 hpb
                    go_wp2_with fail
                    exact ⟨⟨k + 1, q + m, p * 128, by omega, by omega, by go_num, by go_num, by go_num, HW, HQ2, HA, trivial⟩, by simp [intOf]; omega⟩
                · have hd0i : ¬ (0 : Int) < (d : Int) := by omega
                  by_cases hc1 : c < 128
                  · have hc1i :  (c : Int) < 128 := by omega
                    have HA := mkH (HF.out hc1)
                    clear HF HN HW1 HW2 HQ2 hpb
                    go_wp2
                    go_ret3
                    exact ⟨.inl (by rw [HA.out]; exact ⟨rfl, by simp [ans] <;> omega⟩), rfl⟩
                  · have hc1i : ¬ (c : Int) < 128 := by omega
                    have HA := mkH (HN.out hc1)
                    have HW := mkH (HW1.out hk8)
                    have hpb2 := hpb hk8
                    clear HF HN HW1 HW2 hpb
                    go_wp2_with fail
                    exact ⟨⟨k + 1, q + m, p * 128, by omega, by omega, by go_num, by go_num, by go_num, HW, HQ2, HA, trivial⟩, by simp [intOf]; omega⟩
            · obtain rfl : k = 8 := by omega
              have hc0 : ¬ c = 0 := fun h => hz ⟨by omega, h⟩
              clear hz
              by_cases hd0 : 0 < d
              · have hd0i : (0 : Int) < (d : Int) := by omega
                have hd64 : ¬ 64 < d := fun h => ho ⟨rfl, .inl h⟩
                have hd64i : ¬ (64 : Int) < (d : Int) := by omega
                by_cases hde : d = 64
                · have hq0 : q = 0 := by have : ¬ 0 < q := fun h => ho ⟨rfl, .inr ⟨hde, h⟩⟩; omega
                  subst hde
                  subst hq0
                  clear ho
                  by_cases hc1 : c < 128
                  · have hc1i :  (c : Int) < 128 := by omega
                    have HA := mkH (HF.out hc1)
                    clear HF HN HW1 HW2 HQ2 hpb
                    go_wp2
                    go_ret3
                    exact ⟨.inl (by rw [HA.out]; exact ⟨rfl, by simp [ans] <;> omega⟩), rfl⟩
                  · have hc1i : ¬ (c : Int) < 128 := by omega
                    have HA := mkH (HN.out hc1)
                    have HW := mkH (HW2.out (by omega))
                    clear HF HN HW1 HW2 hpb
                    go_wp2_with fail
                    exact ⟨⟨8 + 1, 0 + m, p, by omega, by omega, by go_num, by go_num, by go_num, HW, HQ2, HA, trivial⟩, by simp [intOf]; omega⟩
                · have hdei : ¬ (d : Int) = 64 := by omega
                  clear ho
                  by_cases hc1 : c < 128
                  · have hc1i :  (c : Int) < 128 := by omega
                    have HA := mkH (HF.out hc1)
                    clear HF HN HW1 HW2 HQ2 hpb
                    go_wp2
                    go_ret3
                    exact ⟨.inl (by rw [HA.out]; exact ⟨rfl, by simp [ans] <;> omega⟩), rfl⟩
                  · have hc1i : ¬ (c : Int) < 128 := by omega
                    have HA := mkH (HN.out hc1)
                    have HW := mkH (HW2.out (by omega))
                    clear HF HN HW1 HW2 hpb
                    go_wp2_with fail
                    exact ⟨⟨8 + 1, q + m, p, by omega, by omega, by go_num, by go_num, by go_num, HW, HQ2, HA, trivial⟩, by simp [intOf]; omega⟩
              · have hd0i : ¬ (0 : Int) < (d : Int) := by omega
                clear ho
                have hc1 : ¬ c < 128 := by omega
                have hc1i : ¬ (c : Int) < 128 := by omega
                have HA := mkH (HN.out hc1)
                have HW := mkH (HW2.out (by omega))
                clear HF HN HW1 HW2 hpb
                go_wp2_with fail
                exact ⟨⟨8 + 1, q + m, p, by omega, by omega, by go_num, by go_num, by go_num, HW, HQ2, HA, trivial⟩, by simp [intOf]; omega⟩
    · have HE : Hid ((readNum bs).2.2 ≠ 0) := mkH (by rw [← HD.out]; exact rd_end bs _ _ _ (by omega))
      have hge : ¬ (k : Int) < (bs.length : Int) := by omega
      go_wp2
      go_ret3
      exact ⟨.inr ⟨HE.out, 4, by decide, rfl⟩, rfl⟩
end Go.Proofs.Ytcpmcfagibmboaa.Hp
