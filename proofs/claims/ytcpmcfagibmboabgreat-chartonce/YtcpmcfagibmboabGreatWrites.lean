/-
  The contracts of the functions that write: clone, addNum, Num, addCount, addText, Text.
-/
import Derived.Test.YtcpmcfagibmboabGreatRows
import Derived.Test.YtcpmcfagibmboabGreatPlain
import Derived.Test.YtcpmcfagibmboabGreatKit
namespace Go.Proofs.YtcpmcfagibmboabGreat.Wr
open Go.RowKit Kt Pl
set_option linter.unusedVariables false

theorem info5 : (Tryz.prog.info? 5).map (fun i => (i.zero, i.size, i.bytes)) = some (some (.int .u8 0), 1, 1) := by kernel_rfl

set_option maxHeartbeats 400000 in
theorem clone_any (w : World) (ao : Option Addr) (cap : Nat) (bs : List UInt8) (hr : Row w ao bs) (hlen : bs.length ≤ 1000000000) :
    Calls Tryz.prog 62 #[.slice ao bs.length cap] w fun e w' => ∃ v, e = .returned v ∧ w'.ownsRow w.heap.size 5 1 v bs.length (U bs) ∧ Below w.heap.size w w' := by
  obtain ⟨i0, hi, hz0, hz1, hz2⟩ := info_parts info5
  go_enter Tryz.func62, Tryz.ntmps62
  go_wp2_with (first
    | (at_make; refine wpList_make_own _ rfl (.const (.int .i64 0)) (.tmp 5) 34 rfl w.heap.size 5 i0 (.int .u8 0) 1 Tryz.underlying34 hi hz0 hz1 .i64 .i64 _ (bs.length + 9) rfl rfl (by omega) (by rw [hz2]; omega) (by unfold maxLen; omega) (Nat.le_refl _) ?_; intro w1 hown1 hgrow1)
    | (at_builtin; refine wpList_append_own_src _ rfl (.tmp 6) (.tmp 7) 34 34 rfl w.heap.size 5 (.int .u8 0) 1 1 Tryz.underlying34 info5 rfl (by decide) _ 0 [] rfl hown1 _ bs.length (U bs) rfl (Row.src Tryz.underlying34 (hr.below ((Below.refl _ _).grown hgrow1 (Nat.le_refl _) (by intro k hk; cases hk))) cap) (by unfold maxLen; omega) (by omega) hgrow1.size ?_; intro v2 w2 hown2 hgrow2))
  go_ret
  exact ⟨v2, rfl, by simpa using hown2, below_own hown1 hgrow2 ((Below.refl _ _).grown hgrow1 (Nat.le_refl _) (by intro k hk; cases hk)) hgrow1.size⟩
def hiB (k : Nat) : UInt8 := UInt8.ofNat (k % 128 + 128)
theorem byte_hi (k : Nat) : (k : Int) % 128 + 128 = ((hiB k).toNat : Int) := by unfold hiB; rw [toNat_ofNat (by omega)]; omega
theorem byte_lo {k : Nat} (h : k < 128) : (k : Int) = ((UInt8.ofNat k).toNat : Int) := by rw [toNat_ofNat (by omega)]
theorem num_step {k n : Nat} {pre : List UInt8} (hge : 128 ≤ k) (hpe : pre ++ enc k = enc n) (h9 : (enc n).length ≤ 9) :
    pre ++ [hiB k] ++ enc (k / 128) = enc n ∧ (pre ++ [hiB k]).length ≤ 8 := by
  have h1 := enc_len_pos (k / 128)
  have h2 := congrArg List.length hpe
  rw [enc_ge hge] at hpe h2
  simp only [List.length_append, List.length_cons, List.length_nil] at h2 ⊢
  exact ⟨by rw [← hpe]; simp [hiB], by omega⟩
theorem own_more {w : World} {base e m : Nat} {v : Value} {bs pre new : List UInt8} (h : w.ownsRow base e 1 v (m + pre.length + new.length) (U (bs ++ pre) ++ U new)) :
    w.ownsRow base e 1 v (m + (pre ++ new).length) (U (bs ++ (pre ++ new))) := by
  rw [List.length_append, ← List.append_assoc, U_append, ← Nat.add_assoc]; exact h

set_option maxHeartbeats 400000 in
set_option maxRecDepth 20000 in
theorem addNum_ok (w : World) (base : Nat) (v : Value) (m n : Nat) (bs : List UInt8) (hown : w.ownsRow base 5 1 v m (U bs)) (hb : base ≤ w.heap.size) (hm : m ≤ 3000000000) (hn : n ≤ 4611686018427387904) :
    Calls Tryz.prog 61 #[v, .int .i64 n] w fun e w' => ∃ v', e = .returned (.tuple #[v', .int .i64 0]) ∧ w'.ownsRow base 5 1 v' (m + (enc n).length) (U (bs ++ enc n)) ∧ Below base w w' := by
  have h9 := enc_len9 hn
  have c1 : decide ((n : Int) < 0) = false := by simp
  have c2 : decide ((4611686018427387904 : Int) < (n : Int)) = false := by simp; omega
  have HN : Hid (n ≤ 4611686018427387904) := hn
  clear hn
  go_enter Tryz.func61, Tryz.ntmps61
  go_wp2
  clear c1 c2
  go_loopw [0, 1] (fun v1 x wr => ∃ (k : Nat) (pre : List UInt8), (k : Int) ≤ 4611686018427387904 ∧ x = .int .i64 k ∧ Hid (pre ++ enc k = enc n) ∧ pre.length ≤ 8 ∧ wr.ownsRow base 5 1 v1 (m + pre.length) (U (bs ++ pre)) ∧ Below base w wr)
    (fun _ x _ => (intOf x).toNat)
  case atStart => exact ⟨n, [], by have := HN.out; omega, rfl, by simp [Hid], by simp, by simpa using hown, Below.refl _ _⟩
  case round =>
    obtain ⟨k, pre, hk, rfl, hpe, hpl, hown1, hbel⟩ := hrel
    have hsz := hbel.size
    by_cases hge : 128 ≤ k
    · go_wp2_with (at_builtin; refine (wpList_append_own_src _ rfl (.tmp 16) (.tmp 21) 34 34 rfl base 5 (.int .u8 0) 1 1 Tryz.underlying34 info5 rfl (by decide) _ (m + pre.length) (U (bs ++ pre)) rfl (hown1.alloc _) _ 1 (U [hiB k]) rfl (src_one Tryz.underlying34 _ _ _ ?hx) ?h63 ?hby ?hbs ?_))
      case hx => exact byte_hi k
      case h63 => unfold maxLen; omega
      case hby => omega
      case hbs => simp; omega
      intro v2 w2 hown2 hgrow2
      have hst := num_step hge hpe.out h9
      have HS : Hid (pre ++ [hiB k] ++ enc (k / 128) = enc n) := hst.1
      have hs8 := hst.2
      have hbel2 := below_own (hown1.alloc _) hgrow2 (hbel.alloc (by omega) _) (by simp; omega)
      have hown3 := own_more hown2
      clear hst hown1 hown2 hgrow2 hbel
      go_wp2
      go_roundw
      case rel => exact ⟨k / 128, _, by omega, by go_num, HS, hs8, hown3, hbel2⟩
      case measure => simp [intOf]; omega
    · go_wp2_with (at_builtin; refine (wpList_append_own_src _ rfl (.tmp 23) (.tmp 26) 34 34 rfl base 5 (.int .u8 0) 1 1 Tryz.underlying34 info5 rfl (by decide) _ (m + pre.length) (U (bs ++ pre)) rfl (hown1.alloc _) _ 1 (U [UInt8.ofNat k]) rfl (src_one Tryz.underlying34 _ _ _ ?hx2) ?h632 ?hby2 ?hbs2 ?_))
      case hx2 => exact byte_lo (by omega)
      case h632 => unfold maxLen; omega
      case hby2 => omega
      case hbs2 => simp; omega
      intro v2 w2 hown2 hgrow2
      have HS : Hid (pre ++ [UInt8.ofNat k] = enc n) := by rw [← enc_lt (by omega)]; exact hpe.out
      have hbel2 := below_own (hown1.alloc _) hgrow2 (hbel.alloc (by omega) _) (by simp; omega)
      have hown3 := own_more hown2
      clear hown1 hown2 hgrow2 hbel
      go_wp2
      go_ret2
      rw [HS.out] at hown3
      exact ⟨v2, rfl, hown3, hbel2⟩

set_option maxHeartbeats 400000 in
set_option maxRecDepth 20000 in
theorem addNum_bad (w : World) (v : Value) (n : Int) (h : n < 0 ∨ 4611686018427387904 < n) :
    Calls Tryz.prog 61 #[v, .int .i64 n] w fun e w' => e = .returned (.tuple #[.slice none 0 0, .int .i64 2]) ∧ w' = w := by
  by_cases h0 : n < 0
  · have c1 : decide (n < 0) = true := by simpa using h0
    clear h h0
    go_enter Tryz.func61, Tryz.ntmps61
    go_wp2
    go_ret2
    exact ⟨rfl, rfl⟩
  · have c1 : decide (n < 0) = false := by simpa using h0
    have c2 : decide (4611686018427387904 < n) = true := by simp; omega
    clear h h0
    go_enter Tryz.func61, Tryz.ntmps61
    go_wp2
    go_ret2
    exact ⟨rfl, rfl⟩

set_option maxHeartbeats 400000 in
set_option maxRecDepth 20000 in
theorem num_ok (w : World) (ao : Option Addr) (cap n : Nat) (bs : List UInt8) (hr : Row w ao bs) (hlen : bs.length ≤ 1000000000) (hn : n ≤ 4611686018427387904) :
    Calls Tryz.prog 38 #[.slice ao bs.length cap, .int .i64 n] w fun e w' => ∃ v', e = .returned (.tuple #[v', .int .i64 0]) ∧ w'.ownsRow w.heap.size 5 1 v' (bs.length + (enc n).length) (U (bs ++ enc n)) ∧ Below w.heap.size w w' := by
  have HN : Hid (n ≤ 4611686018427387904) := hn
  clear hn
  go_enter Tryz.func38, Tryz.ntmps38
  go_wp2_with fail
  refine (clone_any w ao cap bs hr hlen).mono ?_
  rintro e w1 ⟨v1, rfl, hown1, hb1⟩
  go_wp2_with fail
  refine (addNum_ok w1 w.heap.size v1 bs.length n bs hown1 hb1.size (by omega) HN.out).mono ?_
  rintro e w2 ⟨v2, rfl, hown2, hb2⟩
  go_wp2
  go_ret2
  exact ⟨v2, rfl, hown2, hb1.trans hb2⟩

set_option maxHeartbeats 400000 in
set_option maxRecDepth 20000 in
theorem num_bad (w : World) (ao : Option Addr) (cap : Nat) (n : Int) (bs : List UInt8) (hr : Row w ao bs) (hlen : bs.length ≤ 1000000000) (hn : n < 0 ∨ 4611686018427387904 < n) :
    Calls Tryz.prog 38 #[.slice ao bs.length cap, .int .i64 n] w fun e w' => e = .returned (.tuple #[.slice none 0 0, .int .i64 2]) ∧ Below w.heap.size w w' := by
  have HN : Hid (n < 0 ∨ 4611686018427387904 < n) := hn
  clear hn
  go_enter Tryz.func38, Tryz.ntmps38
  go_wp2_with fail
  refine (clone_any w ao cap bs hr hlen).mono ?_
  rintro e w1 ⟨v1, rfl, hown1, hb1⟩
  go_wp2_with fail
  refine (addNum_bad w1 v1 n HN.out).mono ?_
  rintro e w2 ⟨rfl, rfl⟩
  go_wp2
  go_ret2
  exact ⟨rfl, hb1⟩

set_option maxHeartbeats 400000 in
set_option maxRecDepth 20000 in
theorem addCount_ok (w : World) (base : Nat) (v : Value) (m n lim : Nat) (bs : List UInt8) (hown : w.ownsRow base 5 1 v m (U bs)) (hb : base ≤ w.heap.size) (hm : m ≤ 3000000000) (hn : n ≤ lim) (hl : lim ≤ 5000) :
    Calls Tryz.prog 86 #[v, .int .i64 n, .int .i64 lim] w fun e w' => ∃ v', e = .returned (.tuple #[v', .int .i64 0]) ∧ w'.ownsRow base 5 1 v' (m + (enc n).length) (U (bs ++ enc n)) ∧ Below base w w' := by
  have c1 : ¬ ((lim : Int) < (n : Int)) := by omega
  go_enter Tryz.func86, Tryz.ntmps86
  go_wp2_with fail
  refine (addNum_ok w base v m n bs hown hb hm (by omega)).mono ?_
  rintro e w2 ⟨v2, rfl, hown2, hb2⟩
  go_wp2
  go_ret2
  exact ⟨v2, rfl, hown2, hb2⟩

set_option maxHeartbeats 400000 in
set_option maxRecDepth 20000 in
theorem addCount_bad (w : World) (v : Value) (n lim : Nat) (hn : lim < n) :
    Calls Tryz.prog 86 #[v, .int .i64 n, .int .i64 lim] w fun e w' => e = .returned (.tuple #[.slice none 0 0, .int .i64 3]) ∧ w' = w := by
  have c1 : (lim : Int) < (n : Int) := by omega
  go_enter Tryz.func86, Tryz.ntmps86
  go_wp2
  go_ret2
  exact ⟨rfl, rfl⟩

theorem byteCells_U (s : ByteArray) : byteCells s = U s.data.toList := rfl

set_option maxHeartbeats 400000 in
set_option maxRecDepth 20000 in
theorem addText_ok (w : World) (base : Nat) (v : Value) (m : Nat) (s : ByteArray) (bs : List UInt8) (hown : w.ownsRow base 5 1 v m (U bs)) (hb : base ≤ w.heap.size) (hm : m ≤ 2000000000) (hs : s.size ≤ 4096) :
    Calls Tryz.prog 63 #[v, .string s] w fun e w' => ∃ v', e = .returned (.tuple #[v', .int .i64 0]) ∧ w'.ownsRow base 5 1 v' (m + (enc s.size ++ s.data.toList).length) (U (bs ++ (enc s.size ++ s.data.toList))) ∧ Below base w w' := by
  have h9 := enc_len9 (n := s.size) (by omega)
  go_enter Tryz.func63, Tryz.ntmps63
  go_wp2_with fail
  refine (addCount_ok w base v m s.size 4096 bs hown hb (by omega) hs (by omega)).mono ?_
  rintro e w1 ⟨v1, rfl, hown1, hb1⟩
  have hsz := hb1.size
  go_wp2_with (at_builtin; refine wpList_append_own_src _ rfl (.tmp 17) (.tmp 18) 34 9 rfl base 5 (.int .u8 0) 1 1 Tryz.underlying34 info5 rfl (by decide) _ (m + (enc s.size).length) (U (bs ++ enc s.size)) rfl hown1 _ s.size (byteCells s) rfl (Src.ofString _ Tryz.underlying9 s) ?h63 ?hby ?hbs ?_)
  case h63 => unfold maxLen; omega
  case hby => omega
  case hbs => omega
  intro v2 w2 hown2 hgrow2
  have hbel2 := below_own hown1 hgrow2 hb1 (by omega)
  have hown3 : w2.ownsRow base 5 1 v2 (m + (enc s.size ++ s.data.toList).length) (U (bs ++ (enc s.size ++ s.data.toList))) := own_more (by rw [byteCells_U] at hown2; exact hown2)
  clear hown1 hown2 hgrow2 hb1
  go_wp2
  go_ret2
  exact ⟨v2, rfl, hown3, hbel2⟩

set_option maxHeartbeats 400000 in
set_option maxRecDepth 20000 in
theorem addText_bad (w : World) (v : Value) (s : ByteArray) (hs : 4096 < s.size) :
    Calls Tryz.prog 63 #[v, .string s] w fun e w' => e = .returned (.tuple #[.slice none 0 0, .int .i64 3]) ∧ w' = w := by
  go_enter Tryz.func63, Tryz.ntmps63
  go_wp2_with fail
  refine (addCount_bad w v s.size 4096 hs).mono ?_
  rintro e w1 ⟨rfl, rfl⟩
  go_wp2
  go_ret2
  exact ⟨rfl, rfl⟩

set_option maxHeartbeats 400000 in
set_option maxRecDepth 20000 in
theorem text_ok (w : World) (ao : Option Addr) (cap : Nat) (s : ByteArray) (bs : List UInt8) (hr : Row w ao bs) (hlen : bs.length ≤ 1000000000) (hs : s.size ≤ 4096) :
    Calls Tryz.prog 39 #[.slice ao bs.length cap, .string s] w fun e w' => ∃ v', e = .returned (.tuple #[v', .int .i64 0]) ∧ w'.ownsRow w.heap.size 5 1 v' (bs.length + (enc s.size ++ s.data.toList).length) (U (bs ++ (enc s.size ++ s.data.toList))) ∧ Below w.heap.size w w' := by
  go_enter Tryz.func39, Tryz.ntmps39
  go_wp2_with fail
  refine (clone_any w ao cap bs hr hlen).mono ?_
  rintro e w1 ⟨v1, rfl, hown1, hb1⟩
  go_wp2_with fail
  refine (addText_ok w1 w.heap.size v1 bs.length s bs hown1 hb1.size (by omega) hs).mono ?_
  rintro e w2 ⟨v2, rfl, hown2, hb2⟩
  go_wp2
  go_ret2
  exact ⟨v2, rfl, hown2, hb1.trans hb2⟩
end Go.Proofs.YtcpmcfagibmboabGreat.Wr
