/-
  SessionFull: the walk.
-/
import Derived.Test.YtenkgpfeifflnaaSeCl
import Derived.Test.YtenkgpfeifflnaaSeW
namespace Go.Proofs.Ytenkgpfeifflnaa.Sfu
open Go.RowKit Kt Pl Wi Wk Wa Sm Sa Sb Sc Sd Scl
open Dk (Fr Nx)
open At (RowT)
set_option linter.unusedVariables false
set_option linter.unusedSimpArgs false
set_option maxRecDepth 20000

theorem mod_at (a x n : Int) (h0 : 0 < n) (h1 : n ≤ 1000000) (ha : 0 ≤ a) (ha2 : a ≤ 1000000) : ∃ m : Nat, wrap64 (a + (wrap64 (x.tmod n + n)).tmod n) = (m : Int) ∧ a ≤ m ∧ (m : Int) ≤ a + n - 1 := by
  have hr : -n < x.tmod n ∧ x.tmod n < n := ⟨Int.lt_tmod_of_pos _ h0, Int.tmod_lt_of_pos _ h0⟩
  obtain ⟨r, hr1⟩ : ∃ r, x.tmod n = r := ⟨_, rfl⟩
  rw [hr1] at hr ⊢
  have e1 : wrap64 (r + n) = r + n := by unfold wrap64; omega
  rw [e1, Int.tmod_eq_emod_of_nonneg (by omega)]
  have h2 := Int.emod_nonneg (r + n) (show n ≠ 0 by omega)
  have h3 := Int.emod_lt_of_pos (r + n) h0
  obtain ⟨q, hq⟩ : ∃ q, (r + n) % n = q := ⟨_, rfl⟩
  rw [hq] at h2 h3 ⊢
  exact ⟨(a + q).toNat, by unfold wrap64; omega, by omega, by omega⟩
def rN (c : Int) : Rp := ⟨0, 0, c, [], [], []⟩
def lF (n : Int) : Nat → List E
  | 0 => []
  | j + 1 => lF n j ++ [⟨(j : Int) + 1, n, rN ((j : Int) + 1)⟩]
theorem lF_len (n : Int) : ∀ j, (lF n j).length = j
  | 0 => rfl
  | j + 1 => by rw [lF, List.length_append, lF_len n j]; rfl
theorem lF_mem (n : Int) : ∀ j e, e ∈ lF n j → 1 ≤ e.k ∧ e.k ≤ j ∧ e.n = n
  | 0, e, h => by cases h
  | j + 1, e, h => by
    rw [lF] at h
    rcases List.mem_append.1 h with h | h
    · have := lF_mem n j e h; omega
    · simp at h; subst h; exact ⟨by simp; omega, by simp, rfl⟩
theorem at_app {l : List E} {x : E} {c : Int} (h : ∀ e ∈ l, e.k ≠ c) : atX E.k (l ++ [x]) c = if x.k = c then some x else none := by
  induction l with
  | nil => rfl
  | cons q l ih =>
    rw [List.cons_append, atX, if_neg (h q (by simp))]
    exact ih (fun e he => h e (by simp [he]))
theorem at_left {l : List E} {x e : E} {c : Int} (h : atX E.k l c = some e) : atX E.k (l ++ [x]) c = some e := by
  induction l with
  | nil => cases h
  | cons q l ih =>
    rw [List.cons_append, atX]
    rw [atX] at h
    split
    · rename_i hq; rw [if_pos hq] at h; exact h
    · rename_i hq; rw [if_neg hq] at h; exact ih h
theorem at_none {l : List E} {c : Int} (h : ∀ e ∈ l, e.k ≠ c) : atX E.k l c = none := by
  induction l with
  | nil => rfl
  | cons q l ih => rw [atX, if_neg (h q (by simp))]; exact ih (fun e he => h e (by simp [he]))
theorem put_last {l : List E} {x : E} (h : ∀ e ∈ l, e.k < x.k) : put E.k l x = l ++ [x] := by
  induction l with
  | nil => rfl
  | cons q l ih =>
    have := h q (by simp)
    rw [put, if_neg (by omega), if_neg (by omega), ih (fun e he => h e (by simp [he]))]
    rfl
theorem lF_at3 (n : Int) : ∀ j, 3 ≤ j → atX E.k (lF n j) 3 = some ⟨3, n, rN 3⟩
  | 0, h => by omega
  | j + 1, h => by
    rw [lF]
    by_cases h3 : 3 ≤ j
    · exact at_left (lF_at3 n j h3)
    · obtain rfl : j = 2 := by omega
      rw [at_app (fun e he => by have := lF_mem n 2 e he; omega)]
      rfl
theorem lF_srt (n : Int) : ∀ j, Srt E.k (lF n j)
  | 0 => List.Pairwise.nil
  | j + 1 => by
    rw [lF]
    refine List.pairwise_append.2 ⟨lF_srt n j, by simp, fun a ha b hb => ?_⟩
    simp at hb
    subst hb
    have := lF_mem n j a ha
    simp only
    omega
theorem note_lo (n : Int) (hn : num n) (j : Nat) (hj : j < 64) : noteE (lF n j) ((j : Int) + 1) n = 0 ∧ noteL (lF n j) ((j : Int) + 1) n (rN ((j : Int) + 1)) = lF n (j + 1) := by
  have h0 : atX E.k (lF n j) ((j : Int) + 1) = none := at_none (fun e he => by have := lF_mem n j e he; omega)
  have h1 : noteE (lF n j) ((j : Int) + 1) n = 0 := by
    unfold noteE lastN
    rw [h0, lF_len, if_neg (by unfold num; omega), if_neg (by simpa using hn), if_neg (by unfold num at hn; simp; omega), if_neg (by omega)]
  refine ⟨h1, ?_⟩
  unfold noteL
  rw [h1, if_pos rfl, put_last (fun e he => by have := lF_mem n j e he; simp only; omega)]
  rfl
theorem note_hi (n : Int) (hn : num n) (c : Nat) (hc : 64 < c) (hc2 : c ≤ 1000) : noteE (lF n 64) (c : Int) n = 7 ∧ noteL (lF n 64) (c : Int) n (rN (c : Int)) = lF n 64 := by
  have h0 : atX E.k (lF n 64) (c : Int) = none := at_none (fun e he => by have := lF_mem n 64 e he; omega)
  have h1 : noteE (lF n 64) (c : Int) n = 7 := by
    unfold noteE lastN
    rw [h0, lF_len, if_neg (by unfold num; omega), if_neg (by simpa using hn), if_neg (by unfold num at hn; simp; omega), if_pos (by simp)]
  exact ⟨h1, by unfold noteL; rw [h1, if_neg (by decide)]⟩

set_option maxHeartbeats 8000000 in
theorem full_walk (w : World) (n nu : Int) :
    Calls Try.prog 4 #[.int .i64 n, .int .i64 nu] w fun e w' => e = .returned (.bool true) ∧ Below w.heap.size w w' := by
  obtain ⟨N, hN, hN1, hN2⟩ := mod_at 55 n 20 (by decide) (by decide) (by decide) (by decide)
  obtain ⟨U, hU, hU1, hU2⟩ := mod_at 1 nu 1000 (by decide) (by decide) (by decide) (by decide)
  have hNa : 55 ≤ N := by omega
  have hNb : N ≤ 74 := by omega
  have hUa : 1 ≤ U := by omega
  have hUb : U ≤ 1000 := by omega
  have HU : Hid (num (U : Int)) := mkH (by unfold num; omega)
  go_enter Try.func4, Try.ntmps4
  go_upto_region 6 with (first | (go_at_call 5; refine (new_any _).mono ?_; rintro e1 W1 ⟨rfl, ht1, hb1⟩; have HT1 := mkH ht1; have HB1 := mkH hb1; clear ht1 hb1))
  rw [hN, hU]
  clear hN hU hN1 hN2 hU1 hU2
  generalize hTn : w.heap.size + 1 = Tn at *
  go_wp2_with fail
  go_loopw [6] (fun i wr => ∃ c : Nat, 1 ≤ c ∧ c ≤ N + 1 ∧ i = .int .i64 (c : Int) ∧ Hid (∃ F, Tb wr F Tn w.heap.size (lF U (min (c - 1) 64))) ∧ Hid (Below w.heap.size w wr)) (fun i _ => N + 1 - (intOf i).toNat)
  case atStart => exact ⟨1, Nat.le_refl _, by omega, rfl, mkH ⟨_, HT1.out⟩, HB1⟩
  case round =>
    clear HT1 HB1
    obtain ⟨c, hc1, hc2, rfl, HT, HB⟩ := hrel
    rcases Nat.lt_or_ge N c with hlt | hlt
    · have hcN : c = N + 1 := by omega
      subst hcN
      have hge : ¬ ((N + 1 : Nat) : Int) ≤ (N : Int) := by omega
      obtain ⟨F, hF⟩ := HT.out
      rw [Nat.add_sub_cancel] at hF
      obtain ⟨J, hJ⟩ : ∃ J, min N 64 = J := ⟨_, rfl⟩
      rw [hJ] at hF
      have hJ1 : 55 ≤ J := by omega
      have hJI : (if (64 : Int) < (N : Int) then (64 : Int) else (N : Int)) = (J : Int) := by split <;> omega
      have h3 := lF_at3 (U : Int) J (by omega)
      have HE1 : Hid (lookE (lF U J) 3 U = 0) := mkH (by unfold lookE lastN; rw [h3, if_neg (by decide), if_neg (by simpa using HU.out), if_neg (by simp)])
      have HK1 : Hid (lookK (lF U J) 3 U = true) := mkH (by unfold lookK lastN; rw [h3]; simp only [decide_eq_true_eq]; exact ⟨by decide, HU.out, trivial⟩)
      have HR1 : Hid (lookR (lF U J) 3 U = rN 3) := mkH (by unfold lookR; rw [HK1.out, if_pos rfl, h3])
      have HE2 : Hid (noteE (lF U J) 3 ((U : Int) + 1) = 0) := mkH (by
        unfold noteE lastN
        rw [h3, if_neg (by decide), if_neg (by unfold num; omega), if_neg (by simp; omega), if_neg (by simp)])
      have HLN : Hid ((noteL (lF U J) 3 ((U : Int) + 1) ⟨0, 0, 0, [], [], []⟩).length = J) := mkH (by
        unfold noteL
        rw [HE2.out, if_pos rfl, len_put (lF_srt _ _)]
        show (if (atX E.k (lF U J) 3).isSome = true then _ else _) = _
        rw [h3, if_pos (show (some (⟨3, (U : Int), rN 3⟩ : E)).isSome = true from rfl), lF_len])
      have HF := mkH hF
      clear hF HT hJ h3
      go_wp2_with (first
        | (go_at_call 11; refine (Sw.works_any _).mono ?_; rintro e1 W9 ⟨rfl, hb9⟩; have HB9 := mkH (HB5.out.trans (hb9.mono HB5.out.size)); clear hb9)
        | (go_at_call 12; refine (clients_any HT4.out).mono ?_; rintro e1 W5 ⟨ao5, cap5, rfl, -, hb5⟩; rw [HLN.out]; have HB5 := mkH (HB4.out.trans (hb5.mono HB4.out.size)); clear hb5)
        | (go_at_call 7; refine (note_any HT3.out 3 ((U : Int) + 1) ⟨0, 0, 0, [], [], []⟩ none 0 none 0 none 0 (Sw.rpM_nil _ _ _ _) (Sw.cnt_nil _ _ _)).mono ?_; rintro e1 W4 ⟨rfl, ⟨F4, ht4, hf4⟩, hfr4⟩; rw [HE2.out]; have HT4 := mkH ht4; have HB4 := mkH (HB3.out.trans (hfr4.below (fun k hk => Nat.le_of_eq hk.symm) HB3.out.size)); clear ht4 hf4 hfr4)
        | (refine wpList_stn rfl (ty := 32) (x := .tmp 8) (y := .tmp 52) (cs := Pv (rN 3) ga2 gc2 da2 dc2 ra2 rc2) (zs := Sw.zP6) rfl rfl rfl (Sw.infoPv _ _ _ _ _ _ _) (Sw.sizePv _ _ _ _ _ _ _) (Pv_one _ _ _ _ _ _ _) (fun W3 hB3 hg3 => ?_); have HT3 := mkH (HT2.out.below hg3.below); have HB3 := mkH (HB2.out.trans (hg3.below.mono HB2.out.size)); have c3 : W3.cell? ⟨W2.heap.size, 2, none⟩ = some (.int .i64 3) := hB3.cell 2; clear hB3 hg3)
        | (go_at_call 8; refine (look_any HF.out 3 (U : Int)).mono ?_; rintro e1 W2 ⟨ga2, gc2, da2, dc2, ra2, rc2, rfl, -, -, -, hb2⟩; rw [HE1.out, HK1.out, HR1.out]; have HT2 := mkH (HF.out.below hb2); have HB2 := mkH (HB.out.trans (hb2.mono HB.out.size)); clear hb2))
      go_ret
      exact ⟨rfl, HB9.out⟩
    · by_cases h64 : c ≤ 64
      · obtain ⟨j, rfl⟩ : ∃ j, c = j + 1 := ⟨c - 1, by omega⟩
        have hmin : min (j + 1 - 1) 64 = j := by omega
        obtain ⟨F, hF⟩ := HT.out
        rw [hmin] at hF
        obtain ⟨e1, e2⟩ := note_lo (U : Int) HU.out j (by omega)
        have hcast : ((j + 1 : Nat) : Int) = (j : Int) + 1 := by omega
        rw [← hcast] at e1 e2
        have HE1 := mkH e1
        have HE2 := mkH e2
        have hle : ((j + 1 : Nat) : Int) ≤ (N : Int) := by omega
        have hl64 : ((j + 1 : Nat) : Int) ≤ 64 := by omega
        have HMN : Hid (min (j + 1 + 1 - 1) 64 = j + 1) := mkH (by omega)
        have HF := mkH hF
        clear HT hF e1 e2 hcast hmin
        generalize hcc : j + 1 = c at *
        go_wp2_with (first
          | (go_at_call 7; refine (note_any HF.out (c : Int) (U : Int) (rN (c : Int)) none 0 none 0 none 0 (Sw.rpM_nil _ _ _ _) (Sw.cnt_nil _ _ _)).mono ?_; rintro e1 W2 ⟨rfl, ⟨F2, ht2, hf2⟩, hfr2⟩; rw [HE1.out]; rw [HE2.out] at ht2; have HT2 := mkH ht2; have HB2 := mkH (HB.out.trans (hfr2.below (fun k hk => Nat.le_of_eq hk.symm) HB.out.size)); clear ht2 hf2 hfr2))
        refine ⟨⟨c + 1, by omega, by omega, by go_num, mkH ⟨F2, by rw [HMN.out]; exact HT2.out⟩, HB2⟩, ?_⟩
        simp [intOf]; omega
      · have hmin : min (c - 1) 64 = 64 := by omega
        obtain ⟨F, hF⟩ := HT.out
        rw [hmin] at hF
        obtain ⟨e1, e2⟩ := note_hi (U : Int) HU.out c (by omega) (by omega)
        have HE1 := mkH e1
        have HE2 := mkH e2
        have hle : (c : Int) ≤ (N : Int) := by omega
        have hl64 : ¬ (c : Int) ≤ 64 := by omega
        have HMN : Hid (min (c + 1 - 1) 64 = 64) := mkH (by omega)
        have HF := mkH hF
        clear HT hF e1 e2 hmin
        go_wp2_with (first
          | (go_at_call 7; refine (note_any HF.out (c : Int) (U : Int) (rN (c : Int)) none 0 none 0 none 0 (Sw.rpM_nil _ _ _ _) (Sw.cnt_nil _ _ _)).mono ?_; rintro e1 W2 ⟨rfl, ⟨F2, ht2, hf2⟩, hfr2⟩; rw [HE1.out]; rw [HE2.out] at ht2; have HT2 := mkH ht2; have HB2 := mkH (HB.out.trans (hfr2.below (fun k hk => Nat.le_of_eq hk.symm) HB.out.size)); clear ht2 hf2 hfr2))
        refine ⟨⟨c + 1, by omega, by omega, by go_num, mkH ⟨F2, by rw [HMN.out]; exact HT2.out⟩, HB2⟩, ?_⟩
        simp [intOf]; omega
end Go.Proofs.Ytenkgpfeifflnaa.Sfu
