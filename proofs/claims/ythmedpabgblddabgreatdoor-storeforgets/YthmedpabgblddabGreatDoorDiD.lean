/-
  The contracts of turnBit and Crash.
-/
import Derived.Test.YthmedpabgblddabGreatDoorDiC
import Derived.Laws.BitsAllLaws
import Derived.Laws.ShiftsVarLaws
namespace Go.Proofs.YthmedpabgblddabGreatDoor.Dd
open Go.RowKit Kt Dk Dp Da Db Dc
set_option linter.unusedVariables false
set_option maxRecDepth 20000

theorem turnBit_no (w : World) (ao : Option Addr) (m c : Nat) (f : Int) (hm : m ≤ 4194304) (hf : f ≤ 9223372036854775807) (h : ¬ (0 ≤ f ∧ f.toNat / 8 < m)) :
    Calls Tryz.prog 46 #[.slice ao m c, .int .i64 f] w fun e w' => (∃ u, e = .returned u) ∧ w' = w := by
  by_cases h0 : 0 ≤ f
  · obtain ⟨n, rfl⟩ : ∃ n : Nat, f = (n : Int) := ⟨f.toNat, by omega⟩
    have t1 : decide ((0 : Int) ≤ (n : Int)) = true := by simp
    have hn : n ≤ 9223372036854775807 := by omega
    have e1 : (n : Int).tdiv 8 = ((n / 8 : Nat) : Int) := by rw [Int.tdiv_eq_ediv_of_nonneg (by omega)]; omega
    have t2 : ¬ ((n / 8 : Nat) : Int) < (m : Int) := by simp at h; omega
    have hjn : n / 8 ≤ 9223372036854775807 := by omega
    generalize n / 8 = j at e1 t2 hjn
    have t3 : decide ((j : Int) < (m : Int)) = false := by simp; omega
    clear h
    go_enter Tryz.func46, Tryz.ntmps46
    go_wp2
    refine bodyPost_end (results_none rfl _ _ _) rfl ?_
    exact ⟨⟨_, rfl⟩, rfl⟩
  · clear h
    go_enter Tryz.func46, Tryz.ntmps46
    go_wp2
    refine bodyPost_end (results_none rfl _ _ _) rfl ?_
    exact ⟨⟨_, rfl⟩, rfl⟩

theorem tb_int (x : UInt8) (k : Nat) (hk : k < 8) : bits .xor .u8 (x.toNat : Int) ((2 : Int) ^ k % 256) = ((tb x k).toNat : Int) := by
  have h1 : 2 ^ k < 256 := by
    have : 2 ^ k < 2 ^ 8 := Nat.pow_lt_pow_right (by decide) hk
    simpa using this
  have h2 : ∀ k : Fin 8, (2 : Int) ^ k.1 % 256 = ((2 ^ k.1 : Nat) : Int) := by decide
  rw [h2 ⟨k, hk⟩, u8_xor_nat _ _ (UInt8.toNat_lt x) h1]
  unfold tb
  rw [UInt8.toNat_xor, UInt8.toNat_ofNat', Nat.mod_eq_of_lt (show 2 ^ k < 2 ^ 8 by simpa using h1)]

set_option maxHeartbeats 1000000 in
theorem turnBit_yes (w : World) (g off m c n : Nat) (x : UInt8) (hm : m ≤ 4194304) (hj : n / 8 < m) (hc : w.cell? ⟨g, off + n / 8, none⟩ = some (.int .u8 (x.toNat : Int))) (hf : w.frozen? ⟨g, off + n / 8, none⟩ = false) (hn : n ≤ 9223372036854775807) :
    Calls Tryz.prog 46 #[.slice (some ⟨g, off, none⟩) m c, .int .i64 (n : Int)] w fun e w' => (∃ u, e = .returned u) ∧ ∃ q, w' = (w.setCell ⟨g, off + n / 8, none⟩ (.int .u8 ((tb x (n % 8)).toNat : Int))).drewN q := by
  have t1 : decide ((0 : Int) ≤ (n : Int)) = true := by simp
  have e1 : (n : Int).tdiv 8 = ((n / 8 : Nat) : Int) := by rw [Int.tdiv_eq_ediv_of_nonneg (by omega)]; omega
  have e2 : (n : Int).tmod 8 = ((n % 8 : Nat) : Int) := by rw [Int.tmod_eq_emod_of_nonneg (by omega)]; omega
  have t2 : ((n / 8 : Nat) : Int) < (m : Int) := by omega
  have hk : n % 8 < 8 := by omega
  have HT := mkH (tb_int x (n % 8) hk)
  generalize (tb x (n % 8)).toNat = y at HT ⊢
  generalize n / 8 = j at *
  generalize n % 8 = k at *
  generalize x.toNat = xn at *
  go_enter Tryz.func46, Tryz.ntmps46
  go_wp2_with fail
  go_region
  refine bodyPost_end (results_none rfl _ _ _) rfl ?_
  rw [HT.out]
  exact ⟨⟨_, rfl⟩, 1, rfl⟩

/-- One byte of such bytes, put in another's place. -/
theorem ow_set {w : World} {F : Nat → Prop} {D e : Nat} {v : Value} {bs : List UInt8} (h : Ow w F D e v bs) (i : Nat) (hi : i < bs.length) :
    ∃ g cap, v = .slice (some ⟨g, 0, none⟩) bs.length cap ∧ F g ∧ g ≠ D ∧ w.cell? ⟨g, i, none⟩ = some (.int .u8 ((bs.getD i 0).toNat : Int)) ∧ w.frozen? ⟨g, i, none⟩ = false ∧
      ∀ (x : UInt8) (q : Nat), Ow ((w.setCell ⟨g, i, none⟩ (.int .u8 (x.toNat : Int))).drewN q) F D e v (bs.set i x) ∧ Fr (fun k => k = g) w ((w.setCell ⟨g, i, none⟩ (.int .u8 (x.toNat : Int))).drewN q) := by
  rcases h with ⟨_, rfl⟩ | ⟨g, cap, cur, rfl, hF, hD, hg, hl, hc, hm, ht⟩
  · simp at hi
  · have h1 : (cur.toList.take bs.length)[i]? = (U bs)[i]? := by rw [ht]
    rw [List.getElem?_take, if_pos hi, U_at bs i hi] at h1
    refine ⟨g, cap, rfl, hF, hD, by rw [cell_of_row _ _ _ _ _ _ hg]; simpa using h1, frozen_of_row w g i _ _ hg, fun x q => ?_⟩
    rw [setCell_eq_setRow w g i _ _ (0, 0) _ hg]
    refine ⟨.inr ⟨g, cap, cur.setIfInBounds i (.int .u8 (x.toNat : Int)), by rw [List.length_set], hF, hD, ?_, by rw [List.length_set]; exact hl, by simpa using hc, hm, ?_⟩, ((Fr.refl (fun k => k = g) w).setRow (b := g) (.inl rfl) _).drewN q⟩
    · exact setRow_heap w g cur _ e (0, 0) hg
    · rw [Array.toList_setIfInBounds, List.length_set, List.take_set, ht]
      simp [U, List.map_set]

/-- What a crash leaves, within the whole. -/
theorem turn_in (kept rest : List UInt8) (m n : Nat) (hm : m ≤ rest.length) (hj : n / 8 < m) :
    ((kept ++ rest).set (kept.length + n / 8) (tb ((kept ++ rest).getD (kept.length + n / 8) 0) (n % 8))).take (kept.length + m) = kept ++ turn (rest.take m) (n : Int) := by
  have h1 : (rest.take m).length = m := by rw [List.length_take]; omega
  have e1 : (kept ++ rest).getD (kept.length + n / 8) 0 = (rest.take m).getD (n / 8) 0 := by
    simp only [List.getD]
    rw [List.getElem?_append_right (by omega), Nat.add_sub_cancel_left, List.getElem?_take, if_pos hj]
  rw [e1, List.set_append_right _ _ (by omega), Nat.add_sub_cancel_left, List.take_append, List.take_of_length_le (by omega), Nat.add_sub_cancel_left]
  congr 1
  unfold turn
  rw [if_pos ⟨by omega, by rw [h1]; simpa using hj⟩, List.take_set]
  simp
theorem turn_out (kept rest : List UInt8) (m : Nat) (f : Int) (hm : m ≤ rest.length) (hj : ¬ (0 ≤ f ∧ f.toNat / 8 < m)) : (kept ++ rest).take (kept.length + m) = kept ++ turn (rest.take m) f := by
  have h1 : (rest.take m).length = m := by rw [List.length_take]; omega
  unfold turn
  rw [h1, if_neg hj, List.take_append, List.take_of_length_le (by omega), Nat.add_sub_cancel_left]

/-- The bit turned, or not. -/
theorem turnBit_ow {w : World} {F : Nat → Prop} {D : Nat} {down : Bool} {kept rest : List UInt8} {ao : Option Addr} {l cap : Nat} (h : Raw w F D down (kept ++ rest) kept.length (.slice ao l cap)) (m c : Nat) (f : Int) (hm : m ≤ rest.length) (hf : f ≤ 9223372036854775807) :
    Calls Tryz.prog 46 #[.slice (loose ao (kept ++ rest).length kept.length) m c, .int .i64 f] w fun e w' => (∃ u, e = .returned u) ∧ ∃ bs, Raw w' F D down bs kept.length (.slice ao l cap) ∧ bs.length = (kept ++ rest).length ∧ bs.take (kept.length + m) = kept ++ turn (rest.take m) f ∧ Fr F w w' := by
  have hlen := h.len
  rw [List.length_append] at hlen
  by_cases hj : 0 ≤ f ∧ f.toNat / 8 < m
  · obtain ⟨h0, hj⟩ := hj
    obtain ⟨n, rfl⟩ : ∃ n : Nat, f = (n : Int) := ⟨f.toNat, by omega⟩
    simp only [Int.toNat_natCast] at hj
    obtain ⟨g, cp, hv, hF, hD, hc, hfz, hset⟩ := ow_set h.row (kept.length + n / 8) (by rw [List.length_append]; omega)
    simp only [Value.slice.injEq] at hv
    obtain ⟨rfl, rfl, rfl⟩ := hv
    have elo : loose (some ⟨g, 0, none⟩) (kept ++ rest).length kept.length = some ⟨g, kept.length, none⟩ := by
      unfold loose
      rw [if_neg (by rw [List.length_append]; omega)]
      simp [Addr.add_lit]
    rw [elo]
    refine (turnBit_yes w g kept.length m c n _ (by omega) hj hc hfz (by omega)).mono ?_
    rintro e w' ⟨hu, q, rfl⟩
    obtain ⟨hrow, hfr⟩ := hset (tb ((kept ++ rest).getD (kept.length + n / 8) 0) (n % 8)) q
    refine ⟨hu, _, ⟨fun k hk => Nat.lt_of_lt_of_le (h.lt k hk) hfr.size, h.own, ?_, ?_, ?_⟩, by rw [List.length_set], turn_in kept rest m n hm hj, hfr.mono (fun k hk => by subst hk; exact hF)⟩
    · rw [hfr.heap h.dlt (fun e => hD e.symm)]; exact h.heap
    · have := hrow; simpa using this
    · rw [List.length_set]; exact h.len
  · refine (turnBit_no w _ m c f (by omega) hf hj).mono ?_
    rintro e w' ⟨hu, rfl⟩
    exact ⟨hu, _, h, rfl, turn_out kept rest m f hm hj, Fr.refl _ _⟩
end Go.Proofs.YthmedpabgblddabGreatDoor.Dd
