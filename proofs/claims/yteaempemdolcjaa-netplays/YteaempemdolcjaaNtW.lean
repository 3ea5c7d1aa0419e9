/-
  At, the document's At, works.
-/
import Derived.Test.YteaempemdolcjaaNtG
import Derived.Test.YteaempemdolcjaaNtH
namespace Go.Proofs.Yteaempemdolcjaa.Nw
open Go.RowKit Kt Gf Nr Gk
set_option linter.unusedVariables false
set_option linter.unusedSimpArgs false
set_option maxRecDepth 20000

def atM (n s : Int) : Int := if s < 1 then 0 else n % s
theorem atM_in {s : Int} (n : Int) (h : 0 < s) : 0 ≤ atM n s ∧ atM n s < s := by
  unfold atM
  rw [if_neg (by omega)]
  exact ⟨Int.emod_nonneg _ (by omega), Int.emod_lt_of_pos _ h⟩
theorem tmod_bd (n s : Int) (h : 1 ≤ s) : -s < n.tmod s ∧ n.tmod s < s := by
  have h1 := Int.tmod_lt_of_pos n (b := s) (by omega)
  have h2 := Int.tmod_lt_of_pos (-n) (b := s) (by omega)
  rw [Int.neg_tmod] at h2
  omega
theorem atM_neg {n s : Int} (h : 1 ≤ s) (hn : n.tmod s < 0) : atM n s = n.tmod s + s := by
  unfold atM
  rw [if_neg (by omega)]
  have hb := tmod_bd n s h
  have e := Int.tmod_add_mul_tdiv n s
  have h2 : n = (n.tmod s + s) + s * (n.tdiv s - 1) := by rw [Int.mul_sub]; omega
  conv => lhs; rw [h2]
  rw [Int.add_mul_emod_self_left]
  exact Int.emod_eq_of_lt (by omega) (by omega)
theorem atM_pos {n s : Int} (h : 1 ≤ s) (hn : ¬ n.tmod s < 0) : atM n s = n.tmod s := by
  unfold atM
  rw [if_neg (by omega)]
  have hb := tmod_bd n s h
  have e := Int.tmod_add_mul_tdiv n s
  have h2 : n = n.tmod s + s * n.tdiv s := by omega
  conv => lhs; rw [h2]
  rw [Int.add_mul_emod_self_left]
  exact Int.emod_eq_of_lt (by omega) (by omega)
theorem atM_zero {n s : Int} (h : s < 1) : atM n s = 0 := if_pos h

theorem at_any (n s : Int) (hs : s ≤ 9223372036854775807) (w : World) : Calls Try.prog 14 #[.int .i64 n, .int .i64 s] w fun e w' => e = .returned (.int .i64 (atM n s)) ∧ w' = w := by
  by_cases h : s < 1
  · have HA := mkH (atM_zero (n := n) h)
    go_enter Try.func14, Try.ntmps14
    go_wp2
    go_ret
    exact ⟨by rw [HA.out]; rfl, rfl⟩
  · have hb := tmod_bd n s (by omega)
    have h0 : ¬ s = 0 := by omega
    by_cases hn : n.tmod s < 0
    · have HA := mkH (atM_neg (by omega) hn)
      have hw : IntKind.i64.wrap (n.tmod s + s) = n.tmod s + s := IntWalk.i64_in _ (by omega)
      go_enter Try.func14, Try.ntmps14
      go_wp2
      go_ret
      exact ⟨by rw [HA.out]; rfl, rfl⟩
    · have HA := mkH (atM_pos (by omega) hn)
      go_enter Try.func14, Try.ntmps14
      go_wp2
      go_ret
      exact ⟨by rw [HA.out]; rfl, rfl⟩

set_option maxHeartbeats 2000000 in
/-- The chapter's example. -/
theorem works_any (w : World) : Calls Try.prog 24 #[] w fun e w' => e = .returned (.bool true) ∧ Below w.heap.size w w' := by
  obtain ⟨W1, hW1⟩ : ∃ W1, W1 = w.alloc (.cells #[.slice none 0 0, .int .i64 0] 64) := ⟨_, rfl⟩
  have hB1 : Nb.Bg (fun k => w.heap.size < k) W1 w.heap.size [] 0 := by rw [hW1]; exact Nb.Bg.new _ w
  have hs1 : W1.heap.size = w.heap.size + 1 := by rw [hW1]; simp
  have hb1 : Below w.heap.size w W1 := by rw [hW1]; exact (Below.refl _ w).alloc (Nat.le_refl _) _
  obtain ⟨A, hA⟩ : ∃ A : ByteArray, A = ⟨#[97]⟩ := ⟨_, rfl⟩
  obtain ⟨B, hB⟩ : ∃ B : ByteArray, B = ⟨#[98]⟩ := ⟨_, rfl⟩
  obtain ⟨D, hD⟩ : ∃ D : ByteArray, D = ⟨#[99]⟩ := ⟨_, rfl⟩
  have hx : Nb.RowE (W1.alloc (.cells #[.string ⟨#[97]⟩, .string ⟨#[98]⟩, .string ⟨#[99]⟩] 9)) (some ⟨W1.heap.size, 0, none⟩) [A, B, D] := by
    intro _
    refine ⟨W1.heap.size, 0, rfl, fun i x hx => ?_⟩
    rw [Nat.zero_add]
    refine cell_new_at W1 _ _ i _ ?_
    rcases i with _ | _ | _ | i
    · simp at hx; subst hx; rw [hA]; rfl
    · simp at hx; subst hx; rw [hB]; rfl
    · simp at hx; subst hx; rw [hD]; rfl
    · simp at hx
  have HPUT := mkH (Nh.putnew hB1 (fun k hk => by omega) ((Below.refl _ W1).alloc (Nat.le_refl _) (.cells #[.string ⟨#[97]⟩, .string ⟨#[98]⟩, .string ⟨#[99]⟩] 9)) (w.heap.size + 1) (by omega) (by simp; omega) 3 [A, B, D] (by rw [← hs1]; exact hx) (by simp) (by omega) (by omega) (by simp) (by omega))
  have HTAKE : Hid (∀ W, Nb.Bg (fun k => w.heap.size < k) W w.heap.size [(0, A), (1, B), (2, D)] 3 → Calls Try.prog 35 #[.pointer (some ⟨w.heap.size, 0, none⟩), .int .i64 1] W fun e w' => e = .returned (.tuple #[.string ⟨#[98]⟩, .bool true]) ∧ Nb.Bg (fun k => w.heap.size < k) w' w.heap.size [(0, A), (2, D)] 3 ∧ Fr (Nb.Ft (fun k => w.heap.size < k) w.heap.size W) W w') := mkH (fun W h => by
    have := Nh.take_in h 1 (1, B) rfl (by simp)
    rw [hB] at this
    rw [hB] at h
    simpa using this)
  have HGET : Hid (∀ W, Nb.Bg (fun k => w.heap.size < k) W w.heap.size [(0, A), (2, D)] 3 → Calls Try.prog 36 #[.pointer (some ⟨w.heap.size, 0, none⟩), .int .i64 1] W fun e w' => e = .returned (.tuple #[.string ⟨#[99]⟩, .bool true]) ∧ w' = W) := mkH (fun W h => by
    have := Nb.get_in h 1 (2, D) rfl
    rw [hD] at this
    simpa using this)
  have HDBL : Hid (∀ W, W1.heap.size ≤ W.heap.size → Nb.Bg (fun k => w.heap.size < k) W w.heap.size [(0, A), (2, D)] 3 → Calls Try.prog 37 #[.pointer (some ⟨w.heap.size, 0, none⟩), .int .i64 0] W fun e w' => e = .returned (.bool true) ∧ Nb.Bg (fun k => w.heap.size < k) w' w.heap.size [(0, A), (2, D), (3, A)] 4 ∧ Fr (Nb.Ft (fun k => w.heap.size < k) w.heap.size W) W w') := mkH (fun W hs h => by
    have := Nh.double_in h (fun k hk => by omega) 0 (0, A) rfl (by simp) (by omega) (by omega)
    simpa using this)
  have HLEN : Hid (∀ W, Nb.Bg (fun k => w.heap.size < k) W w.heap.size [(0, A), (2, D), (3, A)] 4 → Calls Try.prog 38 #[.pointer (some ⟨w.heap.size, 0, none⟩)] W fun e w' => e = .returned (.int .i64 3) ∧ w' = W) := mkH (fun W h => by
    have := Nb.len_any h
    simpa using this)
  have HAT : Hid (∀ W, Calls Try.prog 14 #[.int .i64 (-1), .int .i64 5] W fun e w' => e = .returned (.int .i64 4) ∧ w' = W) := mkH (fun W => by
    have := at_any (-1) 5 (by omega) W
    rwa [show atM (-1) 5 = 4 from rfl] at this)
  have HFB : Hid (∀ V W, Below w.heap.size w V → Fr (Nb.Ft (fun k => w.heap.size < k) w.heap.size V) V W → Below w.heap.size w W) := mkH (fun V W hb hf => hb.trans (hf.below (fun k hk => by
    rcases hk with rfl | ⟨h, -⟩
    · exact Nat.le_refl _
    · omega) hb.size))
  have HB1 := mkH hb1
  have HS1 := mkH hs1
  have HW1 := mkH hW1
  clear hB1 hs1 hb1 hW1 hx hA hB hD
  go_enter Try.func24, Try.ntmps24
  go_wp2_with fail
  rw [show w.alloc (.cells #[.slice none 0 0, .int .i64 0] 64) = W1 from HW1.out.symm]
  refine HPUT.out.mono ?_
  rintro e w2 ⟨rfl, hg2, hf2⟩
  have HG2 : Hid (Nb.Bg (fun k => w.heap.size < k) w2 w.heap.size [(0, A), (1, B), (2, D)] 3) := mkH (by simpa [Nb.num] using hg2)
  have HB2 := mkH (HFB.out _ _ HB1.out hf2)
  have HS2 : Hid (W1.heap.size ≤ w2.heap.size) := mkH hf2.size
  clear hg2 hf2 HPUT HB1
  go_wp2_with fail
  refine (HTAKE.out w2 HG2.out).mono ?_
  rintro e w3 ⟨rfl, hg3, hf3⟩
  have HG3 := mkH hg3
  have HB3 := mkH (HFB.out _ _ HB2.out hf3)
  have HS3 : Hid (W1.heap.size ≤ w3.heap.size) := mkH (Nat.le_trans HS2.out hf3.size)
  clear hg3 hf3
  go_wp2_with (first
    | (go_at_call 36; refine (HGET.out _ HG3.out).mono ?_; rintro e w4 ⟨rfl, rfl⟩)
    | (go_at_call 37; refine (HDBL.out _ HS3.out HG3.out).mono ?_; rintro e w5 ⟨rfl, hg5, hf5⟩; have HG5 := mkH hg5; have HB5 := mkH (HFB.out _ _ HB3.out hf5); clear hg5 hf5)
    | (go_at_call 38; refine (HLEN.out _ HG5.out).mono ?_; rintro e w6 ⟨rfl, rfl⟩)
    | (go_at_call 14; refine (HAT.out _).mono ?_; rintro e w7 ⟨rfl, rfl⟩))
  go_ret
  exact ⟨rfl, HB5.out⟩
end Go.Proofs.Yteaempemdolcjaa.Nw
