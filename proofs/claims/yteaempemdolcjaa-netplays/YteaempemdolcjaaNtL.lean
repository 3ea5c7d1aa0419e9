/-
  The walk of NetKeeps.
-/
import Derived.Test.YteaempemdolcjaaNtK
namespace Go.Proofs.Yteaempemdolcjaa.Nl
open Go.RowKit Kt Gf Nr Gk Nw Nx Nm Na Nc Nee Ng Nk
set_option linter.unusedVariables false
set_option linter.unusedSimpArgs false
set_option maxRecDepth 20000

theorem Mc.ft {C : Nat → Prop} {w w' : World} {b mb n : Nat} {c : Int → Int} (h : Mc w mb n c) (hf : Fr (Ft C b w) w w') (hb : b ≠ mb) : Mc w' mb n c := by
  refine h.fr hf (fun hq => ?_)
  rcases hq with e | ⟨-, cur, e⟩
  · exact hb e.symm
  · exact h.ne e rfl
theorem Bg.mp {C : Nat → Prop} {w w' : World} {b mb n : Nat} {c : Int → Int} {L : List (Int × Int)} {p : Int} (h : Bg C w b L p) (hm : Mc w mb n c) (hf : Fr (fun q => q = mb) w w') (hb : b ≠ mb) : Bg C w' b L p :=
  h.fr hf hb (fun k cur hk e => by subst hk; exact hm.ne e rfl)
theorem ft_below {B b : Nat} {w0 w w' : World} (hb : Below B w0 w) (hB : B ≤ w0.heap.size) (hbb : B ≤ b) (hf : Fr (Ft (fun k => B ≤ k) b w) w w') : Below B w0 w' :=
  hb.trans (hf.below (fun k hk => by
    rcases hk with rfl | ⟨h, -⟩
    · exact hbb
    · exact h) (Nat.le_trans hB hb.size))

set_option maxHeartbeats 4000000 in
theorem keeps_walk (w : World) (a0 a1 : Option Addr) (cap0 cap1 : Nat) (l0 l1 : List Int) (hr0 : RowE w a0 l0) (hr1 : RowE w a1 l1) (hb0 : ∀ x ∈ l0, -9223372036854775808 ≤ x ∧ x ≤ 9223372036854775807) (hc0 : l0.length ≤ cap0) (hc0' : cap0 ≤ 9223372036854775807) (hc1 : l1.length ≤ cap1) (hc1' : cap1 ≤ 9223372036854775807) :
    Calls Try.prog 5 #[.slice a0 l0.length cap0, .slice a1 l1.length cap1] w fun e w' => e = .returned (.bool true) ∧ Below w.heap.size w w' := by
  obtain ⟨m, hm⟩ : ∃ m, m = min l0.length 80 := ⟨_, rfl⟩
  obtain ⟨l, hl⟩ : ∃ l, l = l0.take 80 := ⟨_, rfl⟩
  have hlm : l.length = m := by rw [hl, List.length_take]; omega
  have hrl : RowE w a0 l := by
    intro h
    rw [hlm] at h
    obtain ⟨b, off, e, hc⟩ := hr0 (by omega)
    refine ⟨b, off, e, fun i x hx => hc i x ?_⟩
    rw [hl, List.getElem?_take] at hx
    split at hx
    · exact hx
    · cases hx
  have hbl : ∀ x ∈ l, -9223372036854775808 ≤ x ∧ x ≤ 9223372036854775807 := fun x hx => hb0 x (by rw [hl] at hx; exact List.mem_of_mem_take hx)
  have hm1 : (if (80 : Int) < (l0.length : Int) then 80 else (l0.length : Int)) = (m : Int) := by split <;> omega
  have hm2 : min (l0.length : Int) 80 = (m : Int) := by omega
  have hm3 : m ≤ cap0 := by omega
  have hm4 : m ≤ 80 := by omega
  obtain ⟨W1, hW1⟩ : ∃ W1, W1 = w.alloc (.cells #[.slice none 0 0, .int .i64 0] 26) := ⟨_, rfl⟩
  have hB1 : Bg (fun k => w.heap.size ≤ k) W1 w.heap.size [] 0 := by rw [hW1]; exact Bg.new _ w
  have hb1 : Below w.heap.size w W1 := by rw [hW1]; exact (Below.refl _ w).alloc (Nat.le_refl _) _
  have hs1 : W1.heap.size = w.heap.size + 1 := by rw [hW1]; simp
  have hlt0 : ∀ a, a0 = some a → 0 < l.length → a.block < w.heap.size := fun a ha h => by
    obtain ⟨b, off, e, hc⟩ := hrl h
    obtain ⟨x, hx⟩ := some_of h
    have := World.block_lt_of_cell? w _ (hc 0 x hx)
    rw [ha] at e
    cases e
    exact this
  have hput := put_any hB1 a0 cap0 l (hrl.below hb1) (fun a ha h => ⟨by have := hlt0 a ha h; omega, by have := hlt0 a ha h; omega⟩) (fun k hk => by omega) (by rw [hlm]; simp; omega) (by omega) (by omega) (by omega) hc0'
  rw [List.nil_append, Int.zero_add, hlm] at hput
  have HPUT := mkH hput
  have HL := mkH hlm
  have HRL := mkH hrl
  have HBL := mkH hbl
  have HR1 := mkH hr1
  have HB1 := mkH hb1
  have HS1 := mkH hs1
  have HW1 := mkH hW1
  clear hput hlm hrl hbl hr0 hr1 hb0 hb1 hs1 hlt0 hm hl hB1 hW1
  obtain ⟨n0, hn0⟩ : ∃ n0, n0 = l0.length := ⟨_, rfl⟩
  obtain ⟨n1, hn1⟩ : ∃ n1, n1 = l1.length := ⟨_, rfl⟩
  have HN1 := mkH hn1
  rw [← hn0] at hm1 hm2 hc0 ⊢
  rw [← hn1] at hc1 ⊢
  clear hn0 hn1
  go_enter Try.func5, Try.ntmps5
  go_wp2_with fail
  rw [show w.alloc (.cells #[.slice none 0 0, .int .i64 0] 26) = W1 from HW1.out.symm]
  refine HPUT.out.mono ?_
  rintro e w2 ⟨rfl, hg2, hf2⟩
  have hb2 := ft_below HB1.out (Nat.le_refl _) (Nat.le_refl _) hf2
  have HC2 := mkH (count_any w2 a0 cap0 l (HRL.out.below hb2) HBL.out (by rw [HL.out]; omega))
  have HG2 := mkH hg2
  have HB2 := mkH hb2
  have HSW := mkH (Nat.le_trans (by have := HS1.out; omega : w.heap.size + 1 ≤ W1.heap.size) hf2.size)
  rw [HL.out] at HC2
  clear hg2 hf2 hb2 HPUT
  go_wp2_with fail
  refine HC2.out.mono ?_
  rintro e w3 ⟨mb, rfl, hmc, hb3, hmb⟩
  have HG3 := mkH (HG2.out.below hb3)
  have HM3 : Hid (Mc w3 mb 100 (cn ((num 0 l).map Prod.snd))) := mkH (by rw [num_snd]; exact hmc)
  have HB3 : Hid (Below w.heap.size w w3) := mkH (HB2.out.trans (hb3.mono HB2.out.size))
  have hmbb : w.heap.size ≠ mb := by have := HSW.out; omega
  have hmb2 : w.heap.size ≤ mb := by have := HSW.out; omega
  clear hmc hb3 hmb HC2 HG2 HB2
  go_wp2_with fail
  go_loopw [7] (fun s7 wr => ∃ (i : Nat) (L : List (Int × Int)), s7 = .int .i64 i ∧ i + L.length = m ∧ Hid (Bg (fun k => w.heap.size ≤ k) wr w.heap.size L (m : Int)) ∧ Hid (Mc wr mb (100 + i) (cn (L.map Prod.snd))) ∧ Hid (Below w.heap.size w wr) ∧ Hid (∀ x ∈ L, -9223372036854775808 ≤ x.2 ∧ x.2 ≤ 9223372036854775807)) (fun s7 _ => m - (intOf s7).toNat)
  case atStart => exact ⟨0, num 0 l, rfl, by rw [num_len, HL.out]; omega, HG3, HM3, HB3, mkH (fun x hx => HBL.out x.2 (by rw [← num_snd l 0]; exact List.mem_map_of_mem hx))⟩
  case round =>
    clear HG3 HM3 HB3
    obtain ⟨i, L, rfl, hiL, HG, HM, HB, HX⟩ := hrel
    obtain ⟨N, hN⟩ : ∃ N, N = L.length := ⟨_, rfl⟩
    by_cases hpos : 0 < N
    · obtain ⟨nn, hnn⟩ : ∃ nn : Int, nn = (N : Int) := ⟨_, rfl⟩
      obtain ⟨n1', hn1'⟩ : ∃ n1' : Int, nn - 1 = n1' := ⟨_, rfl⟩
      have hlen := len_any HG.out
      rw [← hN, ← hnn] at hlen
      have HLEN := mkH hlen
      have hN80 : N ≤ 80 := by omega
      have hn80 : nn ≤ 80 := by omega
      have hn0 : 0 < nn := by omega
      have HAT : Hid (∀ K W, Calls Try.prog 14 #[.int .i64 K, .int .i64 nn] W fun e w' => ∃ j : Nat, e = .returned (.int .i64 (j : Int)) ∧ j < N ∧ w' = W) := mkH (fun K W => (at_any K nn (by omega) W).mono (fun e w' ⟨h1, h2⟩ => by
        have hh := atM_in K (s := nn) (by omega)
        refine ⟨(atM K nn).toNat, ?_, by omega, h2⟩
        rw [h1, Int.toNat_of_nonneg hh.1]))
      have HTK : Hid (∀ j, j < N → ∃ x, -9223372036854775808 ≤ x ∧ x ≤ 9223372036854775807 ∧ ∃ L2 : List (Int × Int), (L2.length : Int) = n1' ∧ (Calls Try.prog 10 #[.pointer (some ⟨w.heap.size, 0, none⟩), .int .i64 (j : Int)] wr fun e w' => e = .returned (.tuple #[.int .i64 x, .bool true]) ∧ Bg (fun k => w.heap.size ≤ k) w' w.heap.size L2 (m : Int) ∧ Fr (Ft (fun k => w.heap.size ≤ k) w.heap.size wr) wr w') ∧
          1 ≤ cn (L.map Prod.snd) x ∧ cn (L.map Prod.snd) x ≤ 80 ∧ (cn (L2.map Prod.snd) = fun y => if y = x then cn (L.map Prod.snd) x - 1 else cn (L.map Prod.snd) y) ∧ ∀ y ∈ L2, -9223372036854775808 ≤ y.2 ∧ y.2 ≤ 9223372036854775807) := mkH (fun j hj => by
        obtain ⟨x, hx⟩ := some_of (l := L) (i := j) (by omega)
        have hx2 : (L.map Prod.snd)[j]? = some x.2 := by rw [List.getElem?_map, hx]; rfl
        have hbx := HX.out x (List.mem_of_getElem? hx)
        refine ⟨x.2, hbx.1, hbx.2, L.take j ++ L.drop (j + 1), by rw [List.length_append, List.length_take, List.length_drop]; omega, take_in HG.out j x hx (by omega), cn_pos hx2, ?_, ?_, ?_⟩
        · have := (cn_bd (L.map Prod.snd) x.2).2
          rw [List.length_map] at this
          omega
        · funext y
          rw [List.map_append, List.map_take, List.map_drop]
          exact cn_drop hx2 y
        · intro y hy
          rcases List.mem_append.1 hy with h | h
          · exact HX.out y (List.mem_of_mem_take h)
          · exact HX.out y (List.mem_of_mem_drop h))
      have HLEN2 : Hid (∀ W (L2 : List (Int × Int)), (L2.length : Int) = n1' → Bg (fun k => w.heap.size ≤ k) W w.heap.size L2 (m : Int) → Calls Try.prog 22 #[.pointer (some ⟨w.heap.size, 0, none⟩)] W fun e w' => e = .returned (.int .i64 n1') ∧ w' = W) := mkH (fun W L2 h1 h2 => by
        have := len_any h2
        rwa [h1] at this)
      have HIL : Hid (i + N = m ∧ nn = (N : Int) ∧ nn - 1 = n1') := mkH ⟨by omega, hnn, hn1'⟩
      clear hiL hN hlen hnn
      have him : i ≤ 80 := by have := HIL.out.1; omega
      by_cases hia : i < n1
      · obtain ⟨y, hy⟩ := some_of (l := l1) (i := i) (by rw [← HN1.out]; exact hia)
        have hp1 : 0 < l1.length := by rw [← HN1.out]; omega
        obtain ⟨ba, oa, rfl, hcs⟩ := HR1.out hp1
        have c2 := hcs i y hy
        have c3 : wr.cell? ⟨ba, oa + i, none⟩ = some (.int .i64 y) := by
          rw [World.cell?_of_block (w := w) (a := ⟨ba, oa + i, none⟩) (HB.out.block _ (World.block_lt_of_cell? w _ c2))]
          exact c2
        clear hcs c2 hp1 hy
        go_wp2_with (first
          | (go_at_call 14; refine (HAT.out _ _).mono ?_; rintro e w4 ⟨j, rfl, hj, rfl⟩; obtain ⟨x, hx1, hx2, L2, hL2, htk, hc1, hc2, hcn, hbb⟩ := HTK.out j hj; have HTK2 := mkH htk; have HL2 := mkH hL2; have HCN := mkH hcn; have HBB := mkH hbb; have hwf := wfI ⟨hx1, hx2⟩; clear htk hcn hbb hL2 HTK)
          | (go_at_call 10; refine HTK2.out.mono ?_; rintro e w5 ⟨rfl, hg5, hf5⟩; have HG5 := mkH hg5; have hm5 := Mc.ft HM.out hf5 hmbb; have hlook := hm5.look hwf; obtain ⟨w6, hst, hm6, hf6⟩ := hm5.store (by omega) x (cn (L.map Prod.snd) x - 1) hwf; rw [← HCN.out] at hm6; have HG6 := mkH (Bg.mp hg5 hm5 hf6 hmbb); have HB6 := mkH ((ft_below HB.out (Nat.le_refl _) (Nat.le_refl _) hf5).trans (hf6.below (fun q hq => by omega) (Nat.le_trans HB.out.size hf5.size))); have HM6 := mkH hm6; have hne0 : ¬ cn (L.map Prod.snd) x = 0 := (by omega); clear hg5 hf5 hm5 hm6 hf6 HTK2; have HLE5 := mkH (HLEN2.out w5 L2 HL2.out HG5.out); generalize cn (L.map Prod.snd) x = cx at *)
          | (go_at_call 22; refine HLE5.out.mono ?_; rintro e w7 ⟨rfl, rfl⟩)
          | (go_at_call 22; refine HLEN.out.mono ?_; rintro e w7 ⟨rfl, rfl⟩))
        all_goals
          go_roundw
          case rel => exact ⟨i + 1, L2, by go_num, by have := HIL.out; have := HL2.out; omega, HG6, HM6, HB6, HBB⟩
          case measure => have := HIL.out.1; simp [intOf]; omega
      · go_wp2_with (first
          | (go_at_call 14; refine (HAT.out _ _).mono ?_; rintro e w4 ⟨j, rfl, hj, rfl⟩; obtain ⟨x, hx1, hx2, L2, hL2, htk, hc1, hc2, hcn, hbb⟩ := HTK.out j hj; have HTK2 := mkH htk; have HL2 := mkH hL2; have HCN := mkH hcn; have HBB := mkH hbb; have hwf := wfI ⟨hx1, hx2⟩; clear htk hcn hbb hL2 HTK)
          | (go_at_call 10; refine HTK2.out.mono ?_; rintro e w5 ⟨rfl, hg5, hf5⟩; have HG5 := mkH hg5; have hm5 := Mc.ft HM.out hf5 hmbb; have hlook := hm5.look hwf; obtain ⟨w6, hst, hm6, hf6⟩ := hm5.store (by omega) x (cn (L.map Prod.snd) x - 1) hwf; rw [← HCN.out] at hm6; have HG6 := mkH (Bg.mp hg5 hm5 hf6 hmbb); have HB6 := mkH ((ft_below HB.out (Nat.le_refl _) (Nat.le_refl _) hf5).trans (hf6.below (fun q hq => by omega) (Nat.le_trans HB.out.size hf5.size))); have HM6 := mkH hm6; have hne0 : ¬ cn (L.map Prod.snd) x = 0 := (by omega); clear hg5 hf5 hm5 hm6 hf6 HTK2; have HLE5 := mkH (HLEN2.out w5 L2 HL2.out HG5.out); generalize cn (L.map Prod.snd) x = cx at *)
          | (go_at_call 22; refine HLE5.out.mono ?_; rintro e w7 ⟨rfl, rfl⟩)
          | (go_at_call 22; refine HLEN.out.mono ?_; rintro e w7 ⟨rfl, rfl⟩))
        all_goals
          go_roundw
          case rel => exact ⟨i + 1, L2, by go_num, by have := HIL.out; have := HL2.out; omega, HG6, HM6, HB6, HBB⟩
          case measure => have := HIL.out.1; simp [intOf]; omega
    · have hL : L = [] := List.eq_nil_of_length_eq_zero (by omega)
      subst hL
      have HLEN : Hid (∀ W, Bg (fun k => w.heap.size ≤ k) W w.heap.size [] (m : Int) → Calls Try.prog 22 #[.pointer (some ⟨w.heap.size, 0, none⟩)] W fun e w' => e = .returned (.int .i64 0) ∧ w' = W) := mkH (fun W h => by
        have := len_any h
        simpa using this)
      have HTK : Hid (Calls Try.prog 10 #[.pointer (some ⟨w.heap.size, 0, none⟩), .int .i64 0] wr fun e w' => e = .returned (.tuple #[.int .i64 0, .bool false]) ∧ w' = wr) := mkH (take_out HG.out 0 (by simp))
      have HLK : Hid (∀ x, -9223372036854775808 ≤ x → x ≤ 9223372036854775807 → (Instr.lookup 48 (.map (some mb)) (.int .i64 x) false).run Try.prog wr = .ok (.int .i64 0) wr) := mkH (fun x h1 h2 => by
        have := HM.out.look (wfI ⟨h1, h2⟩)
        simpa [cn] using this)
      clear hN hpos hiL
      go_wp2_with (go_at_call 22; refine (HLEN.out _ HG.out).mono ?_; rintro e w7 ⟨rfl, rfl⟩)
      go_loopw [66] (fun s ws => ∃ k : Nat, k ≤ m ∧ s = .int .i64 k ∧ ws = w7) (fun s _ => m - (intOf s).toNat)
      case atStart => exact ⟨0, Nat.zero_le _, rfl, rfl⟩
      case round =>
        obtain ⟨k, hk, rfl, rfl⟩ := hrel
        by_cases hlt : k < m
        · obtain ⟨x, hx⟩ := some_of (l := l) (i := k) (by rw [HL.out]; exact hlt)
          have hp : 0 < l.length := by rw [HL.out]; omega
          obtain ⟨bs, off, rfl, hcs⟩ := HRL.out hp
          have c2 := hcs k x hx
          have hbx := HBL.out x (List.mem_of_getElem? hx)
          have hlk := HLK.out x hbx.1 hbx.2
          have c3 : wr.cell? ⟨bs, off + k, none⟩ = some (.int .i64 x) := by
            rw [World.cell?_of_block (w := w) (a := ⟨bs, off + k, none⟩) (HB.out.block _ (World.block_lt_of_cell? w _ c2))]
            exact c2
          clear hcs c2 hp hbx hx
          go_wp2
          go_roundw
          case rel => exact ⟨k + 1, by omega, by go_num, by trivial⟩
          case measure => simp [intOf]; omega
        · have hkm : k = m := by omega
          go_wp2_with (first
            | (go_at_call 24; refine (works_any _).mono ?_; rintro e w8 ⟨rfl, hb8⟩)
            | (go_at_call 10; refine HTK.out.mono ?_; rintro e w9 ⟨rfl, rfl⟩))
          go_ret
          exact ⟨rfl, HB.out.trans (hb8.mono HB.out.size)⟩
end Go.Proofs.Yteaempemdolcjaa.Nl
