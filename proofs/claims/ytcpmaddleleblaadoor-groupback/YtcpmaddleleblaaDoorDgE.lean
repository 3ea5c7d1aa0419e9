/-
  The contract of end: the last block, or the last two.
-/
import Derived.Test.YtcpmaddleleblaaDoorDgT
namespace Go.Proofs.YtcpmaddleleblaaDoor.De
open Go.RowKit Kt Dk Dw Ds Dt
set_option linter.unusedVariables false
set_option maxRecDepth 20000

theorem zero5 (w : World) : (zeroValue 5).run Tryd.prog w = .ok (.int .u8 0) w := by
  have h : (Tryd.prog.info? 5).map (fun i => (i.zero, i.size)) = some (some (.int .u8 0), 1) := by kernel_rfl
  exact (zero_of_info h).1 w
theorem U_rep (n : Nat) : List.replicate n (Value.int .u8 0) = U (List.replicate n 0) := by simp [U]
theorem len8_small {n : Nat} (h : n ≤ 100000) : Dp.len8 n = Dp.bytes4 0 ++ Dp.bytes4 (n * 8) := by
  unfold Dp.len8
  rw [show n * 8 / 4294967296 = 0 by omega, show n * 8 % 4294967296 = n * 8 by omega]
theorem set_take (blk : List UInt8) (r : Nat) (c : UInt8) (h : r < blk.length) : (blk.set r c).take (r + 1) = blk.take r ++ [c] := by
  rw [List.take_add_one, List.take_set_of_le (Nat.le_refl _)]
  simp [h]
theorem splice_end {l r : List UInt8} {k : Nat} (h : l.length = k) : l ++ r.drop k = l ++ r.drop k := rfl

/-- clear of a part of a Hash's block. -/
theorem hClear {W : World} {b : Nat} {l : List Nat} {blk : List UInt8} {n : Nat} (h : H W b l blk n 146) (r m c : Nat) (ad : Addr) (had : m = 0 ∨ ad = ⟨b, 9 + r, none⟩) (hm : r + m = 64) (ty : TypeId) :
    ∃ W', (Builtin.clear_ #[76] ty #[.slice (some ad) m c]).run Tryd.prog W = .ok (.tuple #[]) W' ∧ H W' b l (blk.take r ++ List.replicate m 0) n 146 ∧ Only b W W' := by
  obtain ⟨h1, h2, h3⟩ := h
  have hs := hc_size (n := n) h1 h2
  refine ⟨_, run_clear_any (P := Tryd.prog) 76 5 ty (.int .u8 0) Tryd.underlying76 zero5 rfl rfl ad b (9 + r) m c had _ _ h3 (by omega), ?_, (Only.refl _ _).setRow _⟩
  rw [U_rep, hc_splice h1 h2 r _ (by simp; omega), List.drop_eq_nil_of_le (by simp; omega), List.append_nil]
  exact ⟨h1, by simp; omega, setRow_heap _ _ _ _ _ _ h3⟩

/-- putWord into a Hash's block. -/
theorem putWord_H (W : World) (b : Nat) (l : List Nat) (blk : List UInt8) (n : Nat) (h : H W b l blk n 146) (r x off m : Nat) (hr : r + 4 ≤ 64) (hoff : off = 9 + r) (hm : 4 ≤ m) (hm2 : m ≤ 1000000) (c : Nat) (hx : x < 4294967296) :
    Calls Tryd.prog 93 #[.slice (some ⟨b, off, none⟩) m c, .int .u32 x] W fun e w' => (∃ v, e = .returned v) ∧ H w' b l (blk.take r ++ Dp.bytes4 x ++ blk.drop (r + 4)) n 146 ∧ Only b W w' := by
  subst hoff
  obtain ⟨h1, h2, h3⟩ := h
  have hs := hc_size (n := n) h1 h2
  refine (putWord_any W b (9 + r) m c x _ _ h3 hm hm2 (by omega) hx).mono ?_
  rintro e w' ⟨he, rfl⟩
  refine ⟨he, ?_, (Only.refl _ _).setRow _⟩
  rw [hc_splice h1 h2 r _ (by rw [Dp.bytes4_length]; omega), Dp.bytes4_length]
  exact ⟨h1, by simp [Dp.bytes4_length]; omega, setRow_heap _ _ _ _ _ _ h3⟩

theorem hLt {W : World} {b : Nat} {l : List Nat} {blk : List UInt8} {n : Nat} {T : TypeId} (h : H W b l blk n T) : b < W.heap.size := block_lt h.2.2
theorem hSize {W : World} {b : Nat} {l : List Nat} {blk : List UInt8} {n : Nat} {T : TypeId} (h : H W b l blk n T) : W.cell? ⟨b, 73, none⟩ = some (.int .i64 (n : Int)) := by
  rw [cell_of_row _ _ _ _ _ _ h.2.2]; exact hc_n h.1 h.2.1
theorem hMade {W : World} {b : Nat} {l : List Nat} {blk : List UInt8} {n : Nat} {T : TypeId} (h : H W b l blk n T) : W.cell? ⟨b, 0, none⟩ = some (.bool true) := by
  rw [cell_of_row _ _ _ _ _ _ h.2.2]; exact hc_made h.1 h.2.1
theorem hByte {W : World} {b : Nat} {l : List Nat} {blk : List UInt8} {n : Nat} {T : TypeId} (h : H W b l blk n T) {j : Nat} (hj : j < 64) : ∃ v, W.cell? ⟨b, 9 + j, none⟩ = some v := by
  rw [cell_of_row _ _ _ _ _ _ h.2.2]; exact ⟨_, hc_byte h.1 h.2.1 j hj⟩
theorem hFree {W : World} {b : Nat} {l : List Nat} {blk : List UInt8} {n : Nat} {T : TypeId} (h : H W b l blk n T) (o : Nat) : W.frozen? ⟨b, o, none⟩ = false := by simp [World.frozen?, h.2.2]
theorem hSetByte {W : World} {b : Nat} {l : List Nat} {blk : List UInt8} {n : Nat} {T : TypeId} (h : H W b l blk n T) (j : Nat) (hj : j < 64) (c : UInt8) : H (W.setCell ⟨b, 9 + j, none⟩ (.int .u8 (c.toNat : Int))) b l (blk.set j c) n T ∧ Only b W (W.setCell ⟨b, 9 + j, none⟩ (.int .u8 (c.toNat : Int))) := by
  obtain ⟨h1, h2, h3⟩ := h
  rw [setCell_eq_setRow W b (9 + j) _ T (0, 0) _ h3, hc_set_byte h1 h2 j hj c]
  exact ⟨⟨h1, by simpa using h2, setRow_heap _ _ _ _ _ _ h3⟩, (Only.refl b W).setRow _⟩
theorem tbOnly {b : Nat} {w w' : World} (h : Tb w) (ho : Only b w w') (hb : 0 < b) : Tb w' := h.below (ho.below (B := 1) (by omega) h.size) (by omega)

/-- The tail of 'end': the number of bits, and the last block. -/
theorem tail_blk (X : List UInt8) (n : Nat) (hX : X.length = 64) (hn : n ≤ 100000) : ((X.take 56 ++ Dp.bytes4 0 ++ X.drop (56 + 4)).take 60 ++ Dp.bytes4 (n * 8) ++ (X.take 56 ++ Dp.bytes4 0 ++ X.drop (56 + 4)).drop (60 + 4)) = X.take 56 ++ Dp.len8 n := by
  have h1 : (X.take 56 ++ Dp.bytes4 0).length = 60 := by simp [Dp.bytes4_length, hX]
  rw [len8_small hn, List.take_left' h1, List.drop_eq_nil_of_le (by simp [Dp.bytes4_length, hX]), List.append_nil, List.append_assoc]

set_option maxHeartbeats 4000000 in
theorem end_any (w : World) (b : Nat) (all blk : List UInt8) (hT : Tb w) (hb0 : 0 < b) (hn : all.length ≤ 100000) (hblk : blk.take (all.length % 64) = all.drop (64 * (all.length / 64)))
    (hH : H w b (Dp.blks Dp.init all (all.length / 64)).list blk all.length 146) :
    Calls Tryd.prog 92 #[.pointer (some ⟨b, 0, none⟩)] w fun e w' => (∃ v, e = .returned v) ∧ (∃ blk', H w' b (Dp.fin all).list blk' all.length 146) ∧ Only b w w' := by
  have hsok := Dp.blks_ok Dp.init_ok all (all.length / 64)
  obtain ⟨s, hs⟩ : ∃ s, Dp.blks Dp.init all (all.length / 64) = s := ⟨_, rfl⟩
  rw [hs] at hH hsok
  obtain ⟨r, hr⟩ : ∃ r, all.length % 64 = r := ⟨_, rfl⟩
  have hr64 : r < 64 := by omega
  have hsz := hSize hH
  obtain ⟨v0, hv0⟩ := hByte hH hr64
  have hfr := hFree hH
  obtain ⟨h1, ho1⟩ := hSetByte hH r hr64 128
  have e128 : ((128 : UInt8).toNat : Int) = 128 := rfl
  rw [e128] at h1 ho1
  have hl64 := hH.2.1
  have hB1 : (blk.set r 128).take (r + 1) ++ List.replicate (63 - r) 0 = all.drop (64 * (all.length / 64)) ++ ([128] ++ List.replicate (63 - r) 0) := by
    rw [set_take _ _ _ (by omega), ← hr, hblk, List.append_assoc]
  obtain ⟨n, hnn⟩ : ∃ n, all.length = n := ⟨_, rfl⟩
  have tm : (n : Int).tmod 64 = (r : Int) := by rw [Int.tmod_eq_emod_of_nonneg (by omega)]; omega
  have hsl : ∃ ad : Addr, (63 - r = 0 ∨ ad = ⟨b, 9 + (r + 1), none⟩) ∧ ∀ W, (Instr.sliceAt 144 (.pointer (some ⟨b, 9, none⟩)) (some (.int .i64 ((r : Int) + 1))) none none).run Tryd.prog W = .ok (.slice (some ad) (63 - r) (63 - r)) W := by
    by_cases h63 : r = 63
    · exact ⟨⟨b, 9, none⟩, .inl (by omega), fun W => by rw [run_arr_end (P := Tryd.prog) W 144 5 64 Tryd.underlying144 (by kernel_rfl) b 9 _ (by omega)]; simp [h63]⟩
    · exact ⟨⟨b, 9 + (r + 1), none⟩, .inr rfl, fun W => by rw [run_arr_low (P := Tryd.prog) W 144 5 64 Tryd.underlying144 (by kernel_rfl) b 9 (r + 1) _ (by omega) (by omega), show 64 - (r + 1) = 63 - r by omega]⟩
  obtain ⟨ad, had, hsl⟩ := hsl
  have hcl := fun ty => hClear h1 (r + 1) (63 - r) (63 - r) ad had (by omega) ty
  rw [hB1] at hcl
  rw [hnn] at hsz hn
  clear hB1 hblk had
  have HF := mkH (And.intro (Dp.fin_small all) (Dp.fin_big all))
  rw [hs] at HF
  obtain ⟨D, hD⟩ : ∃ D, all.drop (64 * (all.length / 64)) = D := ⟨_, rfl⟩
  rw [hD] at HF hcl
  have hDl : D.length = r := by rw [← hD, List.length_drop]; omega
  have HD : Hid (D.length = r) := hDl
  rw [hnn, show n % 64 = r by omega] at HF
  have hn64 : Hid (n % 64 = r) := by unfold Hid; omega
  have hi64 : ∀ W, (Instr.sliceAt 144 (.pointer (some ⟨b, 9, none⟩)) (some (.int .i64 56)) none none).run Tryd.prog W = .ok (.slice (some ⟨b, 65, none⟩) 8 8) W := fun W => run_arr_low (P := Tryd.prog) W 144 5 64 Tryd.underlying144 (by kernel_rfl) b 9 56 56 rfl (by decide)
  have lo64 : ∀ W, (Instr.sliceAt 144 (.pointer (some ⟨b, 9, none⟩)) (some (.int .i64 60)) none none).run Tryd.prog W = .ok (.slice (some ⟨b, 69, none⟩) 4 4) W := fun W => run_arr_low (P := Tryd.prog) W 144 5 64 Tryd.underlying144 (by kernel_rfl) b 9 60 60 rfl (by decide)
  have al64 : ∀ W, (Instr.sliceAt 144 (.pointer (some ⟨b, 9, none⟩)) none none none).run Tryd.prog W = .ok (.slice (some ⟨b, 9, none⟩) 64 64) W := fun W => run_arr_all (P := Tryd.prog) W 144 5 64 Tryd.underlying144 (by kernel_rfl) (by decide) b 9
  obtain ⟨W2, hc2, h2, ho2⟩ := hcl 0
  have HT := mkH (tbOnly (tbOnly hT ho1 hb0) ho2 hb0)
  have HO := mkH (ho1.trans ho2)
  rw [hnn] at h2
  have H2 := mkH h2
  have HNN : Hid (all.length = n) := hnn
  have HS := mkH hsok
  clear h1 ho1 ho2 h2 hcl hs hr hH hsok hT hl64 hD hDl hnn
  obtain ⟨m8, hm8⟩ : ∃ m8, n * 8 = m8 := ⟨_, rfl⟩
  have e8 : (n : Int) * 8 = (m8 : Int) := by omega
  have z0 : (m8 : Int) / 4294967296 = 0 := by omega
  have hm8l : m8 ≤ 800000 := by omega
  have HM : Hid (n * 8 = m8) := hm8
  have HN : Hid (n ≤ 100000) := hn
  clear hm8
  by_cases h56 : 56 ≤ r
  · have t0 : decide ((56 : Int) ≤ (r : Int)) = true := by simp; omega
    go_enter Tryd.func92, Tryd.ntmps92
    go_wp2_with fail
    refine (takeBlock_any W2 b s _ n HS.out HT.out hb0 H2.out).mono ?_
    rintro e W3 ⟨⟨v, rfl⟩, h3, ho3⟩
    obtain ⟨W4, hc4, h4, ho4⟩ := hClear h3 0 64 64 ⟨b, 9, none⟩ (.inr rfl) rfl 0
    have HO4 := mkH ((HO.out.trans ho3).trans ho4)
    have HT4 := mkH (tbOnly (tbOnly HT.out ho3 hb0) ho4 hb0)
    rw [List.take_zero, List.nil_append] at h4
    have H4 := mkH h4
    clear h3 ho3 h4 ho4 HO HT H2 hc2
    go_wp2_with fail
    refine (putWord_H W4 b _ _ n H4.out 56 0 65 8 (by decide) rfl (by decide) (by decide) 8 (by decide)).mono ?_
    rintro e W5 ⟨⟨v5, rfl⟩, h5, ho5⟩
    have H5 := mkH h5
    have HO5 := mkH (HO4.out.trans ho5)
    have HT5 := mkH (tbOnly HT4.out ho5 hb0)
    clear h5 ho5 HO4 HT4 H4
    go_wp2_with fail
    refine (putWord_H W5 b _ _ n H5.out 60 m8 69 4 (by decide) rfl (by decide) (by decide) 4 (by omega)).mono ?_
    rintro e W6 ⟨⟨v6, rfl⟩, h6, ho6⟩
    have hX : (List.replicate 64 (0 : UInt8)).length = 64 := by simp
    have ht := tail_blk (List.replicate 64 0) n hX HN.out
    rw [HM.out] at ht
    rw [ht] at h6
    have H6 := mkH h6
    have HO6 := mkH (HO5.out.trans ho6)
    have HT6 := mkH (tbOnly HT5.out ho6 hb0)
    clear h6 ho6 HO5 HT5 H5 ht hX
    go_wp2_with fail
    refine (takeBlock_any W6 b _ _ n (Dp.comp_ok _ _) HT6.out hb0 H6.out).mono ?_
    rintro e W7 ⟨⟨v7, rfl⟩, h7, ho7⟩
    have H7 := mkH h7
    have HO7 := mkH (HO6.out.trans ho7)
    clear h7 ho7 HO6 HT6 H6
    go_wp2
    refine bodyPost_end (results_none rfl _ _ _) rfl ?_
    have e1 : (List.replicate 64 (0 : UInt8)).take 56 = List.replicate 56 0 := by simp
    have h7 := H7.out
    rw [e1, ← HF.out.2 h56, ← HNN.out] at h7
    exact ⟨⟨_, rfl⟩, ⟨_, h7⟩, HO7.out⟩
  · have t0 : decide ((56 : Int) ≤ (r : Int)) = false := by simp; omega
    go_enter Tryd.func92, Tryd.ntmps92
    go_wp2_with fail
    refine (putWord_H W2 b _ _ n H2.out 56 0 65 8 (by decide) rfl (by decide) (by decide) 8 (by decide)).mono ?_
    rintro e W5 ⟨⟨v5, rfl⟩, h5, ho5⟩
    have H5 := mkH h5
    have HO5 := mkH (HO.out.trans ho5)
    have HT5 := mkH (tbOnly HT.out ho5 hb0)
    clear h5 ho5 HO HT hc2
    go_wp2_with fail
    refine (putWord_H W5 b _ _ n H5.out 60 m8 69 4 (by decide) rfl (by decide) (by decide) 4 (by omega)).mono ?_
    rintro e W6 ⟨⟨v6, rfl⟩, h6, ho6⟩
    have ht := tail_blk _ n H2.out.2.1 HN.out
    rw [HM.out] at ht
    rw [ht] at h6
    have H6 := mkH h6
    have HO6 := mkH (HO5.out.trans ho6)
    have HT6 := mkH (tbOnly HT5.out ho6 hb0)
    clear h6 ho6 HO5 HT5 H5 ht H2
    go_wp2_with fail
    refine (takeBlock_any W6 b s _ n HS.out HT6.out hb0 H6.out).mono ?_
    rintro e W7 ⟨⟨v7, rfl⟩, h7, ho7⟩
    have H7 := mkH h7
    have HO7 := mkH (HO6.out.trans ho7)
    clear h7 ho7 HO6 HT6 H6
    go_wp2
    refine bodyPost_end (results_none rfl _ _ _) rfl ?_
    have e1 : (D ++ ([128] ++ List.replicate (63 - r) (0 : UInt8))).take 56 = D ++ ([128] ++ List.replicate (55 - r) 0) := by
      have hd := HD.out
      rw [List.take_append, List.take_of_length_le (by omega), hd, List.take_append, List.take_of_length_le (by simp; omega)]
      simp
      omega
    have h7 := H7.out
    rw [e1, List.append_assoc, List.append_assoc, ← HF.out.1 (by omega), ← HNN.out] at h7
    exact ⟨⟨_, rfl⟩, ⟨_, h7⟩, HO7.out⟩
end Go.Proofs.YtcpmaddleleblaaDoor.De
