/-
  The contracts of 'few' and 'works'.
-/
import Derived.Test.YtionomjmebnjaaaReads
import Derived.Test.YtionomjmebnjaaaWrites
namespace Go.Proofs.Ytionomjmebnjaaa.Fw
open Go.RowKit Kt Pl Rd Wr
set_option linter.unusedVariables false

theorem Row_take {w : World} {ao : Option Addr} {bs : List UInt8} (h : Row w ao bs) (k : Nat) : Row w ao (bs.take k) := by
  intro hl
  rw [List.length_take] at hl
  obtain ⟨b, off, e, hc⟩ := h (by omega)
  refine ⟨b, off, e, fun i hi => ?_⟩
  rw [List.length_take] at hi
  rw [hc i (by omega)]
  simp [show i < k by omega]

/-- 'b[k:]', its address as the walk writes it. -/
theorem Row_drop {w : World} {ao : Option Addr} {bs : List UInt8} (h : Row w ao bs) {k cap : Nat} (hc : bs.length ≤ cap) : Row w (if cap = k then ao else Option.map (fun x => x.add k) ao) (bs.drop k) := by
  intro hl
  rw [List.length_drop] at hl
  obtain ⟨b, off, e, hcl⟩ := h (by omega)
  rw [if_neg (by omega), e]
  refine ⟨b, off + k, by simp [Addr.add], fun i hi => ?_⟩
  rw [List.length_drop] at hi
  rw [Nat.add_assoc, hcl (k + i) (by omega)]
  simp

set_option maxHeartbeats 400000 in
set_option maxRecDepth 20000 in
theorem few_any (w : World) (ao : Option Addr) (cap : Nat) (bs : List UInt8) (hr : Row w ao bs) (hlen : bs.length ≤ cap) (hcap : cap ≤ 9223372036854775807) :
    Calls Try.prog 9 #[.slice ao bs.length cap] w fun e w' => ∃ v, e = .returned v ∧ w'.ownsRow w.heap.size 5 1 v (bs.take 6000).length (U (bs.take 6000)) ∧ Below w.heap.size w w' := by
  have hr6 := Row_take hr 6000
  rcases Nat.lt_or_ge 6000 bs.length with h | h
  · have hl : (bs.take 6000).length = 6000 := by rw [List.length_take]; omega
    go_enter Try.func9, Try.ntmps9
    go_wp2_with (at_builtin; refine (wpList_append_own_src _ rfl (.tmp 3) (.tmp 8) 22 22 rfl w.heap.size 5 (.int .u8 0) 1 1 Try.underlying22 info5 rfl (by decide) _ 0 [] rfl (World.ownsRow_made w #[] 0 (Nat.le_refl _) (Nat.zero_le _) rfl) _ 6000 (U (bs.take 6000)) rfl ?hsrc ?h63 ?hby ?hbs ?_))
    case hsrc => have := Row.src (P := Try.prog) Try.underlying22 (hr6.below ((Below.refl w.heap.size w).alloc (Nat.le_refl _) (.cells #[] 5))) cap; rw [hl] at this; exact this
    case h63 => unfold maxLen; omega
    case hby => omega
    case hbs => simp
    intro v2 w2 hown2 hgrow2
    have hbel := below_own (World.ownsRow_made (e := 5) (size := 1) w #[] 0 (Nat.le_refl _) (Nat.zero_le _) rfl) hgrow2 ((Below.refl w.heap.size w).alloc (Nat.le_refl _) (.cells #[] 5)) (by simp)
    have hown3 : w2.ownsRow w.heap.size 5 1 v2 (bs.take 6000).length (U (bs.take 6000)) := by rw [hl]; exact hown2
    clear hown2 hgrow2 hr6 hr hl
    go_wp2
    go_ret
    exact ⟨v2, rfl, hown3, hbel⟩
  · have hl : bs.take 6000 = bs := List.take_of_length_le h
    rw [hl] at hr6 ⊢
    go_enter Try.func9, Try.ntmps9
    go_wp2_with (at_builtin; refine (wpList_append_own_src _ rfl (.tmp 3) (.tmp 8) 22 22 rfl w.heap.size 5 (.int .u8 0) 1 1 Try.underlying22 info5 rfl (by decide) _ 0 [] rfl (World.ownsRow_made w #[] 0 (Nat.le_refl _) (Nat.zero_le _) rfl) _ bs.length (U bs) rfl ?hsrc2 ?h632 ?hby2 ?hbs2 ?_))
    case hsrc2 => exact Row.src (P := Try.prog) Try.underlying22 (hr6.below ((Below.refl w.heap.size w).alloc (Nat.le_refl _) (.cells #[] 5))) cap
    case h632 => unfold maxLen; omega
    case hby2 => omega
    case hbs2 => simp
    intro v2 w2 hown2 hgrow2
    have hbel := below_own (World.ownsRow_made (e := 5) (size := 1) w #[] 0 (Nat.le_refl _) (Nat.zero_le _) rfl) hgrow2 ((Below.refl w.heap.size w).alloc (Nat.le_refl _) (.cells #[] 5)) (by simp)
    have hown3 : w2.ownsRow w.heap.size 5 1 v2 bs.length (U bs) := by simpa using hown2
    clear hown2 hgrow2 hr6 hr hl
    go_wp2
    go_ret
    exact ⟨v2, rfl, hown3, hbel⟩

theorem enc300 : enc 300 = [172, 2] := by rw [enc_ge (by omega), enc_lt (by omega)]; rfl
theorem enc2 : enc 2 = [2] := by rw [enc_lt (by omega)]; rfl

set_option maxHeartbeats 400000 in
set_option maxRecDepth 20000 in
theorem works_any (w : World) : Calls Try.prog 14 #[] w fun e w' => e = .returned (.bool true) ∧ Below w.heap.size w w' := by
  go_enter Try.func14, Try.ntmps14
  go_wp2_with fail
  refine (num_ok w none 0 300 [] (Row.nil _ _) (by simp) (by omega)).mono ?_
  rintro e w1 ⟨v1, rfl, hown1, hb1⟩
  rw [List.nil_append, enc300] at hown1
  obtain ⟨ao1, cap1, rfl⟩ := own_form hown1
  obtain ⟨-, -, hr1⟩ := Row.own hown1
  have H1 : Calls Try.prog 12 #[.slice ao1 2 cap1] w1 fun e w' => e = .returned (.tuple #[.int .i64 300, .int .i64 2, .int .i64 0]) ∧ w' = w1 := by
    have := readNum_any w1 ao1 cap1 [172, 2] hr1 (by simp)
    rw [← enc300, ← List.append_nil (enc 300), readNum_enc (by omega), enc300] at this
    exact this
  have hl1 : (enc 300).length = 2 := by rw [enc300]; rfl
  clear hown1
  go_wp2_with fail
  refine H1.mono ?_
  rintro e w1' ⟨rfl, rfl⟩
  clear H1
  go_wp2_with fail
  refine (text_ok w1' none 0 ⟨#[97, 98]⟩ [] (Row.nil _ _) (by simp) (by decide)).mono ?_
  rintro e w2 ⟨v2, rfl, hown2, hb2⟩
  rw [List.nil_append, show enc (ByteArray.mk #[97, 98]).size ++ (ByteArray.mk #[97, 98]).data.toList = [2, 97, 98] from by rw [show (ByteArray.mk #[97, 98]).size = 2 from rfl, enc2]; rfl] at hown2
  obtain ⟨ao2, cap2, rfl⟩ := own_form hown2
  obtain ⟨-, -, hr2⟩ := Row.own hown2
  have hs1 := run_string (P := Try.prog) Try.underlying22 Try.underlying5 Try.underlying9 (hr1.below hb2) cap1
  have hs2 := run_string (P := Try.prog) Try.underlying22 Try.underlying5 Try.underlying9 hr2 cap2
  simp only [List.length_cons, List.length_nil, Nat.zero_add, Nat.reduceAdd] at hs1 hs2
  have q1 : ((S [172, 2]).toList == [172, 2]) = true := by rw [S_toList]; rfl
  have q2 : ((S [2, 97, 98]).toList == [2, 97, 98]) = true := by rw [S_toList]; rfl
  clear hown2
  go_wp2
  go_ret
  exact ⟨rfl, hb1.trans (hb2.mono hb1.size)⟩
end Go.Proofs.Ytionomjmebnjaaa.Fw
