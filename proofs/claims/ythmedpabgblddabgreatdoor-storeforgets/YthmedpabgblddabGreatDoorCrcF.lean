/-
  The contracts of the two functions that make a frame: crc.Frame, and the document's own.
-/
import Derived.Test.YthmedpabgblddabGreatDoorCrcW
namespace Go.Proofs.YthmedpabgblddabGreatDoor.Cf
open Go.RowKit Kt Cs Cw
set_option linter.unusedVariables false

theorem Parts_one {w : World} {ao : Option Addr} {cap : Nat} {bs : List UInt8} (T : TypeId) (h : Row w ao bs) (hl : bs.length ≤ 1000000) :
    Parts (w.alloc (.cells #[.slice ao bs.length cap] T)) (some ⟨w.heap.size, 0, none⟩) [⟨ao, cap, bs⟩] := by
  intro _
  refine ⟨_, 0, rfl, fun i p hp => ?_⟩
  have hi : i = 0 := by
    rcases Nat.eq_zero_or_pos i with h | h
    · exact h
    · rw [List.getElem?_eq_none (by simp; omega)] at hp; cases hp
  subst hi
  simp at hp
  subst hp
  exact ⟨cell_new_at w _ _ 0 _ rfl, h.below ((Below.refl _ w).alloc (Nat.le_refl _) _), hl⟩
theorem cat_one (p : Part) : cat [p] = p.bs := by simp [cat]

/-- The sum of one part, as the code asks for it. -/
theorem sum_one (w : World) (T : TypeId) (ao : Option Addr) (cap : Nat) (bs : List UInt8) (hT : Tb w) (h : Row w ao bs) (hl : bs.length ≤ 1000000) (c : Nat) :
    Calls Tryz.prog 64 #[.slice (some ⟨w.heap.size, 0, none⟩) 1 c] (w.alloc (.cells #[.slice ao bs.length cap] T)) fun e w' => e = .returned (.int .u32 (Cp.sum bs : Nat)) ∧ w' = w.alloc (.cells #[.slice ao bs.length cap] T) := by
  have := sum_any (w.alloc (.cells #[.slice ao bs.length cap] T)) (some ⟨w.heap.size, 0, none⟩) c [⟨ao, cap, bs⟩] (hT.below ((Below.refl _ w).alloc (Nat.le_refl _) _) hT.size) (Parts_one T h hl) (by simp)
  rw [cat_one] at this
  exact this

theorem own_row {w : World} {base e m : Nat} {v : Value} {bs : List UInt8} (h : w.ownsRow base e 1 v m (U bs)) : ∃ ao cap, v = .slice ao bs.length cap ∧ m = bs.length ∧ bs.length ≤ cap ∧ Row w ao bs := by
  obtain ⟨ao, cap, rfl⟩ := own_form h
  obtain ⟨rfl, hc, hr⟩ := Row.own h
  exact ⟨ao, cap, rfl, rfl, hc, hr⟩

set_option maxHeartbeats 1000000 in
set_option maxRecDepth 20000 in
theorem frame_ok (w : World) (ao : Option Addr) (cap : Nat) (bs : List UInt8) (hT : Tb w) (hr : Row w ao bs) (hl : bs.length ≤ 65536) :
    Calls Tryz.prog 36 #[.slice ao bs.length cap] w fun e w' => ∃ v, e = .returned (.tuple #[v, .int .i64 0]) ∧ w'.ownsRow w.heap.size 5 1 v (12 + bs.length) (U (Cp.frame bs)) ∧ Below w.heap.size w w' := by
  have hT0 := hT.size
  have c1 : decide ((65536 : Int) < (bs.length : Int)) = false := by simp; omega
  obtain ⟨i0, hi, hz0, hz1, hz2⟩ := info_parts info5
  go_enter Tryz.func36, Tryz.ntmps36
  go_wp2_with (at_make; refine wpList_make_own _ rfl (.const (.int .i64 0)) (.tmp 10) 30 rfl w.heap.size 5 i0 (.int .u8 0) 1 Tryz.underlying30 hi hz0 hz1 .i64 .i64 _ (12 + bs.length) rfl rfl (by omega) (by rw [hz2]; omega) (by unfold maxLen; omega) (Nat.le_refl _) ?_; intro w1 hown1 hgrow1)
  have hb1 := (Below.refl w.heap.size w).grown hgrow1 (Nat.le_refl _) (by intro k hk; cases hk)
  have hn : (bs.length : Int) % 4294967296 = (bs.length : Int) := by omega
  refine (addWord_any w1 w.heap.size _ 0 bs.length [] (by simpa [U] using hown1) hb1.size (by omega) (by omega)).mono ?_
  rintro e w2 ⟨v2, rfl, hown2, hb2⟩
  have hb2 := hb1.trans hb2
  clear hb1 hown1 hgrow1 hi hz0 hz1 hz2
  rw [List.nil_append] at hown2
  obtain ⟨ao2, cap2, rfl, -, hc2, hr2⟩ := own_row hown2
  rw [Cp.put_len] at hown2 hc2
  go_wp2_with fail
  refine (sum_one w2 30 ao2 cap2 (Cp.put bs.length) (hT.below hb2 hT0) hr2 (by rw [Cp.put_len]; omega) 1).mono ?_
  rintro e w2' ⟨rfl, rfl⟩
  go_wp2_with fail
  refine (addWord_any _ w.heap.size _ 4 (Cp.sum (Cp.put bs.length)) (Cp.put bs.length) (hown2.alloc _) (by have := hb2.size; simp; omega) (by omega) (Cp.sum_lt _)).mono ?_
  rintro e w3 ⟨v3, rfl, hown3, hb3⟩
  have hb3 := (hb2.alloc hb2.size _).trans hb3
  clear hb2 hown2 hr2 hc2
  go_wp2_with fail
  refine (sum_one w3 30 ao cap bs (hT.below hb3 hT0) (hr.below hb3) (by omega) 1).mono ?_
  rintro e w3' ⟨rfl, rfl⟩
  go_wp2_with fail
  refine (addWord_any _ w.heap.size _ 8 (Cp.sum bs) _ (hown3.alloc _) (by have := hb3.size; simp; omega) (by omega) (Cp.sum_lt _)).mono ?_
  rintro e w4 ⟨v4, rfl, hown4, hb4⟩
  have hb4 := (hb3.alloc hb3.size _).trans hb4
  clear hb3 hown3
  go_wp2_with (at_builtin; refine (wpList_append_own_src _ rfl (.tmp 27) (.tmp 28) 30 30 rfl w.heap.size 5 (.int .u8 0) 1 1 Tryz.underlying30 info5 rfl (by decide) _ 12 _ rfl hown4 _ bs.length (U bs) rfl ?hsrc ?h63 ?hby ?hbs ?_))
  case hsrc => exact Row.src (P := Tryz.prog) Tryz.underlying30 (hr.below hb4) cap
  case h63 => unfold maxLen; omega
  case hby => omega
  case hbs => exact hb4.size
  intro v5 w5 hown5 hgrow5
  have hb5 := below_own hown4 hgrow5 hb4 hb4.size
  rw [← U_append] at hown5
  simp only [List.append_assoc] at hown5
  have hown5 : w5.ownsRow w.heap.size 5 1 v5 (12 + bs.length) (U (Cp.frame bs)) := hown5
  clear hown4 hgrow5 hb4
  go_wp2
  go_ret2
  exact ⟨v5, rfl, hown5, hb5⟩

set_option maxHeartbeats 1000000 in
set_option maxRecDepth 20000 in
theorem frame_long (w : World) (ao : Option Addr) (cap n : Nat) (hl : 65536 < n) :
    Calls Tryz.prog 36 #[.slice ao n cap] w fun e w' => e = .returned (.tuple #[.slice none 0 0, .int .i64 3]) ∧ w' = w := by
  have c1 : decide ((65536 : Int) < (n : Int)) = true := by simp; omega
  go_enter Tryz.func36, Tryz.ntmps36
  go_wp2
  go_ret2
  exact ⟨rfl, rfl⟩
end Go.Proofs.YthmedpabgblddabGreatDoor.Cf
