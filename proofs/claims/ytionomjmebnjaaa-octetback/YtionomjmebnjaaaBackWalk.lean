/-
  The walk of OctetBack.
-/
import Derived.Test.YtionomjmebnjaaaFew
namespace Go.Proofs.Ytionomjmebnjaaa.BackW
open Go.RowKit Kt Pl Rd Wr Fw

set_option maxHeartbeats 1000000 in
set_option maxRecDepth 20000 in
theorem bad (n : Int) (ao : Option Addr) (cap : Nat) (bs : List UInt8) (w : World) (hr : Row w ao bs) (hlen : bs.length ≤ cap) (hcap : cap ≤ 9223372036854775807) (hn : n < 0 ∨ 4611686018427387904 < n) :
    Calls Try.prog 7 #[.int .i64 n, .slice ao bs.length cap] w fun e w' => e = .returned (.bool true) ∧ Below w.heap.size w w' := by
  have HN : Hid (n < 0 ∨ 4611686018427387904 < n) := hn
  have ht : decide (n < 0) = true ∨ (decide (n < 0) = false ∧ decide (4611686018427387904 < n) = true) := by
    rcases hn with h | h
    · left; simpa using h
    · right; exact ⟨by simp; omega, by simpa using h⟩
  clear hn
  go_enter Try.func7, Try.ntmps7
  go_wp2_with fail
  refine (few_any w ao cap bs hr hlen hcap).mono ?_
  rintro e w1 ⟨v1, rfl, hown1, hb1⟩
  go_wp2_with fail
  refine (num_bad w1 none 0 n [] (Row.nil _ _) (by simp) HN.out).mono ?_
  rintro e w2 ⟨rfl, hb2⟩
  have hb := hb1.trans (hb2.mono hb1.size)
  clear hown1 hb1 hb2 HN hr
  rcases ht with t1 | ⟨t1, t2⟩
  all_goals
    go_wp2_with (go_at_call 14; refine (works_any _).mono ?_; rintro e w3 ⟨rfl, hb3⟩)
    go_ret
    exact ⟨rfl, hb.trans (by have := hb.size; exact Below.mono (by assumption) this)⟩

set_option maxHeartbeats 1000000 in
set_option maxRecDepth 20000 in
theorem good (n : Nat) (ao : Option Addr) (cap : Nat) (bs : List UInt8) (w : World) (hr : Row w ao bs) (hlen : bs.length ≤ cap) (hcap : cap ≤ 9223372036854775807) (hn : n ≤ 4611686018427387904) :
    Calls Try.prog 7 #[.int .i64 n, .slice ao bs.length cap] w fun e w' => e = .returned (.bool true) ∧ Below w.heap.size w w' := by
  have HN : Hid (n ≤ 4611686018427387904) := hn
  have h9 := enc_len9 hn
  have h6 : (bs.take 6000).length ≤ 6000 := by rw [List.length_take]; omega
  obtain ⟨bh, hbh⟩ : ∃ bh, bs.take 6000 = bh := ⟨_, rfl⟩
  have HB : Hid (bs.take 6000 = bh) := hbh
  rw [hbh] at h6
  clear hn hbh
  go_enter Try.func7, Try.ntmps7
  go_wp2_with fail
  refine (few_any w ao cap bs hr hlen hcap).mono ?_
  rintro e w1 ⟨v1, rfl, hown1, hb1⟩
  rw [HB.out] at hown1
  clear HB hr hlen hcap
  obtain ⟨ao1, cap1, rfl⟩ := own_form hown1
  obtain ⟨-, -, hr1⟩ := Row.own hown1
  clear hown1
  go_wp2_with fail
  refine (num_ok w1 none 0 n [] (Row.nil _ _) (by simp) HN.out).mono ?_
  rintro e w2 ⟨v2, rfl, hown2, hb2⟩
  rw [List.nil_append, List.length_nil, Nat.zero_add] at hown2
  obtain ⟨ao2, cap2, rfl⟩ := own_form hown2
  obtain ⟨-, hc2, hr2⟩ := Row.own hown2
  have hr1' := hr1.below hb2
  have hb := hb1.trans (hb2.mono hb1.size)
  clear hown2 hb1 hb2 hr1
  have HR : Hid (readNum (enc n ++ bh) = (n, (enc n).length, 0)) := readNum_enc HN.out bh
  have HQ : Hid (∀ k, k < (enc n).length → readNum ((enc n).take k) = (0, 0, 4)) := fun k hk => readNum_cut HN.out hk
  have hpos := enc_len_pos n
  clear HN
  generalize enc n = en at *
  go_wp2_with (at_builtin; refine (wpList_append_own_src _ rfl (.tmp 42) (.tmp 43) 22 22 rfl w2.heap.size 5 (.int .u8 0) 1 1 Try.underlying22 info5 rfl (by decide) _ 0 [] rfl (World.ownsRow_made w2 #[] 0 (Nat.le_refl _) (Nat.zero_le _) rfl) _ en.length (U en) rfl ?hsrc ?h63 ?hby ?hbs ?_))
  case hsrc => exact Row.src (P := Try.prog) Try.underlying22 (hr2.below ((Below.refl w2.heap.size w2).alloc (Nat.le_refl _) (.cells #[] 5))) cap2
  case h63 => unfold maxLen; omega
  case hby => omega
  case hbs => simp
  intro v3 w3 hown3 hgrow3
  have hb3 := below_own (World.ownsRow_made (e := 5) (size := 1) w2 #[] 0 (Nat.le_refl _) (Nat.zero_le _) rfl) hgrow3 ((Below.refl w2.heap.size w2).alloc (Nat.le_refl _) (.cells #[] 5)) (by simp)
  have hs3 := hb3.size
  clear hgrow3
  go_wp2_with (at_builtin; refine (wpList_append_own_src _ rfl (.tmp 44) (.tmp 45) 22 22 rfl w2.heap.size 5 (.int .u8 0) 1 1 Try.underlying22 info5 rfl (by decide) _ en.length (U en) rfl hown3 _ bh.length (U bh) rfl ?hsrc2 ?h632 ?hby2 ?hbs2 ?_))
  case hsrc2 => exact Row.src (P := Try.prog) Try.underlying22 (hr1'.below hb3) cap1
  case h632 => unfold maxLen; omega
  case hby2 => omega
  case hbs2 => exact hs3
  intro v4 w4 hown4 hgrow4
  have hb4 := below_own hown3 hgrow4 hb3 hs3
  rw [← U_append, ← List.length_append] at hown4
  obtain ⟨ao4, cap4, rfl⟩ := own_form hown4
  obtain ⟨-, -, hr4⟩ := Row.own hown4
  have hr2' := hr2.below hb4
  have hbb := hb.trans (hb4.mono hb.size)
  have H4 : Calls Try.prog 12 #[.slice ao4 (en ++ bh).length cap4] w4 fun e w' => e = .returned (.tuple #[.int .i64 (n : Int), .int .i64 (en.length : Int), .int .i64 0]) ∧ w' = w4 := by
    have := readNum_any w4 ao4 cap4 (en ++ bh) hr4 (by rw [List.length_append]; omega)
    rw [HR.out] at this
    exact this
  clear hgrow4 hown3 hown4 hb3 hb4 hb hr2 hr1' HR hr4
  have H4' := H4
  rw [List.length_append] at H4'
  clear H4
  go_wp2_with fail
  refine H4'.mono ?_
  rintro e w4' ⟨rfl, rfl⟩
  clear H4'
  have t9 : ¬ ((9 : Int) < (en.length : Int)) := by omega
  go_wp2
  go_loop [75] (fun i => ∃ k : Nat, k ≤ en.length ∧ i = .int .i64 k) (fun i => en.length - (intOf i).toNat)
  case atStart => exact ⟨0, Nat.zero_le _, rfl⟩
  case round =>
    obtain ⟨k, hk, rfl⟩ := hrel
    by_cases hlt : k < en.length
    · have hlk : (en.take k).length = k := by rw [List.length_take]; omega
      have HK : Calls Try.prog 12 #[.slice ao2 k cap2] w4' fun e w' => e = .returned (.tuple #[.int .i64 0, .int .i64 0, .int .i64 4]) ∧ w' = w4' := by
        have := readNum_any w4' ao2 cap2 (en.take k) (Row_take hr2' k) (by omega)
        rw [HQ.out k hlt, hlk] at this
        exact this
      clear hlk
      go_wp2_with fail
      refine HK.mono ?_
      rintro e w5 ⟨rfl, rfl⟩
      clear HK
      go_wp2
      go_round
      case rel => exact ⟨k + 1, by omega, by go_num⟩
      case measure => simp [intOf]; omega
    · go_wp2_with (go_at_call 14; refine (works_any _).mono ?_; rintro e w5 ⟨rfl, hb5⟩)
      go_ret
      exact ⟨rfl, hbb.trans (Below.mono (by assumption) hbb.size)⟩
end Go.Proofs.Ytionomjmebnjaaa.BackW
