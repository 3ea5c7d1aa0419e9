/-
  Writes Few Texts Reads2 AddI, joined by mrg.py.
-/
import Derived.Test.YtgbbajeeelgbhaaGreatDoorRows
import Derived.Test.YtgbbajeeelgbhaaGreatDoorSqAD
import Derived.Test.YtgbbajeeelgbhaaGreatDoorSqAA

namespace Go.Proofs.YtgbbajeeelgbhaaGreatDoor.Wr
open Go.RowKit Kt Pl
set_option linter.unusedVariables false

theorem info5 : (Tryz.prog.info? 5).map (fun i => (i.zero, i.size, i.bytes)) = some (some (.int .u8 0), 1, 1) := by kernel_rfl

set_option maxHeartbeats 400000 in
theorem clone_any (w : World) (ao : Option Addr) (cap : Nat) (bs : List UInt8) (hr : Row w ao bs) (hlen : bs.length ≤ 1000000000) :
    Calls Tryz.prog 165 #[.slice ao bs.length cap] w fun e w' => ∃ v, e = .returned v ∧ w'.ownsRow w.heap.size 5 1 v bs.length (U bs) ∧ Below w.heap.size w w' := by
  obtain ⟨i0, hi, hz0, hz1, hz2⟩ := info_parts info5
  go_enter Tryz.func165, Tryz.ntmps165
  go_wp2_with (first
    | (at_make; refine wpList_make_own _ rfl (.const (.int .i64 0)) (.tmp 5) 41 rfl w.heap.size 5 i0 (.int .u8 0) 1 Tryz.underlying41 hi hz0 hz1 .i64 .i64 _ (bs.length + 9) rfl rfl (by omega) (by rw [hz2]; omega) (by unfold maxLen; omega) (Nat.le_refl _) ?_; intro w1 hown1 hgrow1)
    | (at_builtin; refine wpList_append_own_src _ rfl (.tmp 6) (.tmp 7) 41 41 rfl w.heap.size 5 (.int .u8 0) 1 1 Tryz.underlying41 info5 rfl (by decide) _ 0 [] rfl hown1 _ bs.length (U bs) rfl (Row.src Tryz.underlying41 (hr.below ((Below.refl _ _).grown hgrow1 (Nat.le_refl _) (by intro k hk; cases hk))) cap) (by unfold maxLen; omega) (by omega) hgrow1.size ?_; intro v2 w2 hown2 hgrow2))
  go_ret
  exact ⟨v2, rfl, by simpa using hown2, below_own hown1 hgrow2 ((Below.refl _ _).grown hgrow1 (Nat.le_refl _) (by intro k hk; cases hk)) hgrow1.size⟩
def hiB (k : Nat) : UInt8 := UInt8.ofNat (k % 128 + 128)
theorem byte_hi (k : Nat) : (k : Int) % 128 + 128 = ((hiB k).toNat : Int) := by unfold hiB; rw [toNat_ofNat (by omega)]; omega
theorem byte_lo {k : Nat} (h : k < 128) : (k : Int) = ((UInt8.ofNat k).toNat : Int) := by rw [toNat_ofNat (by omega)]
theorem num_step {k n : Nat} {pre : List UInt8} (hge : 128 ≤ k) (hpe : pre ++ enc k = enc n) (h9 : (enc n).length ≤ 9) :
    pre ++ [hiB k] ++ enc (k / 128) = enc n ∧ (pre ++ [hiB k]).length ≤ 8 := by
  have h1 := enc_len_pos (k / 128)
  have h2 := congrArg List.length hpe
  rw [enc_ge hge] at hpe h2
  simp only [List.length_append, List.length_cons, List.length_nil] at h2 ⊢
  exact ⟨by rw [← hpe]; simp [hiB], by omega⟩
theorem own_more {w : World} {base e m : Nat} {v : Value} {bs pre new : List UInt8} (h : w.ownsRow base e 1 v (m + pre.length + new.length) (U (bs ++ pre) ++ U new)) :
    w.ownsRow base e 1 v (m + (pre ++ new).length) (U (bs ++ (pre ++ new))) := by
  rw [List.length_append, ← List.append_assoc, U_append, ← Nat.add_assoc]; exact h

set_option maxHeartbeats 400000 in
set_option maxRecDepth 20000 in
theorem addNum_ok (w : World) (base : Nat) (v : Value) (m n : Nat) (bs : List UInt8) (hown : w.ownsRow base 5 1 v m (U bs)) (hb : base ≤ w.heap.size) (hm : m ≤ 3000000000) (hn : n ≤ 4611686018427387904) :
    Calls Tryz.prog 164 #[v, .int .i64 n] w fun e w' => ∃ v', e = .returned (.tuple #[v', .int .i64 0]) ∧ w'.ownsRow base 5 1 v' (m + (enc n).length) (U (bs ++ enc n)) ∧ Below base w w' := by
  have h9 := enc_len9 hn
  have c1 : decide ((n : Int) < 0) = false := by simp
  have c2 : decide ((4611686018427387904 : Int) < (n : Int)) = false := by simp; omega
  have HN : Hid (n ≤ 4611686018427387904) := hn
  clear hn
  go_enter Tryz.func164, Tryz.ntmps164
  go_wp2
  clear c1 c2
  go_loopw [0, 1] (fun v1 x wr => ∃ (k : Nat) (pre : List UInt8), (k : Int) ≤ 4611686018427387904 ∧ x = .int .i64 k ∧ Hid (pre ++ enc k = enc n) ∧ pre.length ≤ 8 ∧ wr.ownsRow base 5 1 v1 (m + pre.length) (U (bs ++ pre)) ∧ Below base w wr)
    (fun _ x _ => (intOf x).toNat)
  case atStart => exact ⟨n, [], by have := HN.out; omega, rfl, by simp [Hid], by simp, by simpa using hown, Below.refl _ _⟩
  case round =>
    obtain ⟨k, pre, hk, rfl, hpe, hpl, hown1, hbel⟩ := hrel
    have hsz := hbel.size
    by_cases hge : 128 ≤ k
    · go_wp2_with (at_builtin; refine (wpList_append_own_src _ rfl (.tmp 16) (.tmp 21) 41 41 rfl base 5 (.int .u8 0) 1 1 Tryz.underlying41 info5 rfl (by decide) _ (m + pre.length) (U (bs ++ pre)) rfl (hown1.alloc _) _ 1 (U [hiB k]) rfl (src_one Tryz.underlying41 _ _ _ ?hx) ?h63 ?hby ?hbs ?_))
      case hx => exact byte_hi k
      case h63 => unfold maxLen; omega
      case hby => omega
      case hbs => simp; omega
      intro v2 w2 hown2 hgrow2
      have hst := num_step hge hpe.out h9
      have HS : Hid (pre ++ [hiB k] ++ enc (k / 128) = enc n) := hst.1
      have hs8 := hst.2
      have hbel2 := below_own (hown1.alloc _) hgrow2 (hbel.alloc (by omega) _) (by simp; omega)
      have hown3 := own_more hown2
      clear hst hown1 hown2 hgrow2 hbel
      go_wp2
      go_roundw
      case rel => exact ⟨k / 128, _, by omega, by go_num, HS, hs8, hown3, hbel2⟩
      case measure => simp [intOf]; omega
    · go_wp2_with (at_builtin; refine (wpList_append_own_src _ rfl (.tmp 23) (.tmp 26) 41 41 rfl base 5 (.int .u8 0) 1 1 Tryz.underlying41 info5 rfl (by decide) _ (m + pre.length) (U (bs ++ pre)) rfl (hown1.alloc _) _ 1 (U [UInt8.ofNat k]) rfl (src_one Tryz.underlying41 _ _ _ ?hx2) ?h632 ?hby2 ?hbs2 ?_))
      case hx2 => exact byte_lo (by omega)
      case h632 => unfold maxLen; omega
      case hby2 => omega
      case hbs2 => simp; omega
      intro v2 w2 hown2 hgrow2
      have HS : Hid (pre ++ [UInt8.ofNat k] = enc n) := by rw [← enc_lt (by omega)]; exact hpe.out
      have hbel2 := below_own (hown1.alloc _) hgrow2 (hbel.alloc (by omega) _) (by simp; omega)
      have hown3 := own_more hown2
      clear hown1 hown2 hgrow2 hbel
      go_wp2
      go_ret2
      rw [HS.out] at hown3
      exact ⟨v2, rfl, hown3, hbel2⟩

set_option maxHeartbeats 400000 in
set_option maxRecDepth 20000 in
theorem addNum_bad (w : World) (v : Value) (n : Int) (h : n < 0 ∨ 4611686018427387904 < n) :
    Calls Tryz.prog 164 #[v, .int .i64 n] w fun e w' => e = .returned (.tuple #[.slice none 0 0, .int .i64 2]) ∧ w' = w := by
  by_cases h0 : n < 0
  · have c1 : decide (n < 0) = true := by simpa using h0
    clear h h0
    go_enter Tryz.func164, Tryz.ntmps164
    go_wp2
    go_ret2
    exact ⟨rfl, rfl⟩
  · have c1 : decide (n < 0) = false := by simpa using h0
    have c2 : decide (4611686018427387904 < n) = true := by simp; omega
    clear h h0
    go_enter Tryz.func164, Tryz.ntmps164
    go_wp2
    go_ret2
    exact ⟨rfl, rfl⟩

set_option maxHeartbeats 400000 in
set_option maxRecDepth 20000 in
theorem num_ok (w : World) (ao : Option Addr) (cap n : Nat) (bs : List UInt8) (hr : Row w ao bs) (hlen : bs.length ≤ 1000000000) (hn : n ≤ 4611686018427387904) :
    Calls Tryz.prog 115 #[.slice ao bs.length cap, .int .i64 n] w fun e w' => ∃ v', e = .returned (.tuple #[v', .int .i64 0]) ∧ w'.ownsRow w.heap.size 5 1 v' (bs.length + (enc n).length) (U (bs ++ enc n)) ∧ Below w.heap.size w w' := by
  have HN : Hid (n ≤ 4611686018427387904) := hn
  clear hn
  go_enter Tryz.func115, Tryz.ntmps115
  go_wp2_with fail
  refine (clone_any w ao cap bs hr hlen).mono ?_
  rintro e w1 ⟨v1, rfl, hown1, hb1⟩
  go_wp2_with fail
  refine (addNum_ok w1 w.heap.size v1 bs.length n bs hown1 hb1.size (by omega) HN.out).mono ?_
  rintro e w2 ⟨v2, rfl, hown2, hb2⟩
  go_wp2
  go_ret2
  exact ⟨v2, rfl, hown2, hb1.trans hb2⟩

set_option maxHeartbeats 400000 in
set_option maxRecDepth 20000 in
theorem num_bad (w : World) (ao : Option Addr) (cap : Nat) (n : Int) (bs : List UInt8) (hr : Row w ao bs) (hlen : bs.length ≤ 1000000000) (hn : n < 0 ∨ 4611686018427387904 < n) :
    Calls Tryz.prog 115 #[.slice ao bs.length cap, .int .i64 n] w fun e w' => e = .returned (.tuple #[.slice none 0 0, .int .i64 2]) ∧ Below w.heap.size w w' := by
  have HN : Hid (n < 0 ∨ 4611686018427387904 < n) := hn
  clear hn
  go_enter Tryz.func115, Tryz.ntmps115
  go_wp2_with fail
  refine (clone_any w ao cap bs hr hlen).mono ?_
  rintro e w1 ⟨v1, rfl, hown1, hb1⟩
  go_wp2_with fail
  refine (addNum_bad w1 v1 n HN.out).mono ?_
  rintro e w2 ⟨rfl, rfl⟩
  go_wp2
  go_ret2
  exact ⟨rfl, hb1⟩

set_option maxHeartbeats 400000 in
set_option maxRecDepth 20000 in
theorem addCount_ok (w : World) (base : Nat) (v : Value) (m n lim : Nat) (bs : List UInt8) (hown : w.ownsRow base 5 1 v m (U bs)) (hb : base ≤ w.heap.size) (hm : m ≤ 3000000000) (hn : n ≤ lim) (hl : lim ≤ 5000) :
    Calls Tryz.prog 350 #[v, .int .i64 n, .int .i64 lim] w fun e w' => ∃ v', e = .returned (.tuple #[v', .int .i64 0]) ∧ w'.ownsRow base 5 1 v' (m + (enc n).length) (U (bs ++ enc n)) ∧ Below base w w' := by
  have c1 : ¬ ((lim : Int) < (n : Int)) := by omega
  go_enter Tryz.func350, Tryz.ntmps350
  go_wp2_with fail
  refine (addNum_ok w base v m n bs hown hb hm (by omega)).mono ?_
  rintro e w2 ⟨v2, rfl, hown2, hb2⟩
  go_wp2
  go_ret2
  exact ⟨v2, rfl, hown2, hb2⟩

set_option maxHeartbeats 400000 in
set_option maxRecDepth 20000 in
theorem addCount_bad (w : World) (v : Value) (n lim : Nat) (hn : lim < n) :
    Calls Tryz.prog 350 #[v, .int .i64 n, .int .i64 lim] w fun e w' => e = .returned (.tuple #[.slice none 0 0, .int .i64 3]) ∧ w' = w := by
  have c1 : (lim : Int) < (n : Int) := by omega
  go_enter Tryz.func350, Tryz.ntmps350
  go_wp2
  go_ret2
  exact ⟨rfl, rfl⟩

theorem byteCells_U (s : ByteArray) : byteCells s = U s.data.toList := rfl

set_option maxHeartbeats 400000 in
set_option maxRecDepth 20000 in
theorem addText_ok (w : World) (base : Nat) (v : Value) (m : Nat) (s : ByteArray) (bs : List UInt8) (hown : w.ownsRow base 5 1 v m (U bs)) (hb : base ≤ w.heap.size) (hm : m ≤ 2000000000) (hs : s.size ≤ 4096) :
    Calls Tryz.prog 299 #[v, .string s] w fun e w' => ∃ v', e = .returned (.tuple #[v', .int .i64 0]) ∧ w'.ownsRow base 5 1 v' (m + (enc s.size ++ s.data.toList).length) (U (bs ++ (enc s.size ++ s.data.toList))) ∧ Below base w w' := by
  have h9 := enc_len9 (n := s.size) (by omega)
  go_enter Tryz.func299, Tryz.ntmps299
  go_wp2_with fail
  refine (addCount_ok w base v m s.size 4096 bs hown hb (by omega) hs (by omega)).mono ?_
  rintro e w1 ⟨v1, rfl, hown1, hb1⟩
  have hsz := hb1.size
  go_wp2_with (at_builtin; refine wpList_append_own_src _ rfl (.tmp 17) (.tmp 18) 41 9 rfl base 5 (.int .u8 0) 1 1 Tryz.underlying41 info5 rfl (by decide) _ (m + (enc s.size).length) (U (bs ++ enc s.size)) rfl hown1 _ s.size (byteCells s) rfl (Src.ofString _ Tryz.underlying9 s) ?h63 ?hby ?hbs ?_)
  case h63 => unfold maxLen; omega
  case hby => omega
  case hbs => omega
  intro v2 w2 hown2 hgrow2
  have hbel2 := below_own hown1 hgrow2 hb1 (by omega)
  have hown3 : w2.ownsRow base 5 1 v2 (m + (enc s.size ++ s.data.toList).length) (U (bs ++ (enc s.size ++ s.data.toList))) := own_more (by rw [byteCells_U] at hown2; exact hown2)
  clear hown1 hown2 hgrow2 hb1
  go_wp2
  go_ret2
  exact ⟨v2, rfl, hown3, hbel2⟩

set_option maxHeartbeats 400000 in
set_option maxRecDepth 20000 in
theorem addText_bad (w : World) (v : Value) (s : ByteArray) (hs : 4096 < s.size) :
    Calls Tryz.prog 299 #[v, .string s] w fun e w' => e = .returned (.tuple #[.slice none 0 0, .int .i64 3]) ∧ w' = w := by
  go_enter Tryz.func299, Tryz.ntmps299
  go_wp2_with fail
  refine (addCount_bad w v s.size 4096 hs).mono ?_
  rintro e w1 ⟨rfl, rfl⟩
  go_wp2
  go_ret2
  exact ⟨rfl, rfl⟩

set_option maxHeartbeats 400000 in
set_option maxRecDepth 20000 in
theorem text_ok (w : World) (ao : Option Addr) (cap : Nat) (s : ByteArray) (bs : List UInt8) (hr : Row w ao bs) (hlen : bs.length ≤ 1000000000) (hs : s.size ≤ 4096) :
    Calls Tryz.prog 237 #[.slice ao bs.length cap, .string s] w fun e w' => ∃ v', e = .returned (.tuple #[v', .int .i64 0]) ∧ w'.ownsRow w.heap.size 5 1 v' (bs.length + (enc s.size ++ s.data.toList).length) (U (bs ++ (enc s.size ++ s.data.toList))) ∧ Below w.heap.size w w' := by
  go_enter Tryz.func237, Tryz.ntmps237
  go_wp2_with fail
  refine (clone_any w ao cap bs hr hlen).mono ?_
  rintro e w1 ⟨v1, rfl, hown1, hb1⟩
  go_wp2_with fail
  refine (addText_ok w1 w.heap.size v1 bs.length s bs hown1 hb1.size (by omega) hs).mono ?_
  rintro e w2 ⟨v2, rfl, hown2, hb2⟩
  go_wp2
  go_ret2
  exact ⟨v2, rfl, hown2, hb1.trans hb2⟩
end Go.Proofs.YtgbbajeeelgbhaaGreatDoor.Wr

namespace Go.Proofs.YtgbbajeeelgbhaaGreatDoor.Fw
open Go.RowKit Kt Pl Rd Wr
set_option linter.unusedVariables false

theorem Row_take {w : World} {ao : Option Addr} {bs : List UInt8} (h : Row w ao bs) (k : Nat) : Row w ao (bs.take k) := by
  intro hl
  rw [List.length_take] at hl
  obtain ⟨b, off, e, hc⟩ := h (by omega)
  refine ⟨b, off, e, fun i hi => ?_⟩
  rw [List.length_take] at hi
  rw [hc i (by omega)]
  simp [show i < k by omega]

/-- 'b[k:]', its address as the walk writes it. -/
theorem Row_drop {w : World} {ao : Option Addr} {bs : List UInt8} (h : Row w ao bs) {k cap : Nat} (hc : bs.length ≤ cap) : Row w (if cap = k then ao else Option.map (fun x => x.add k) ao) (bs.drop k) := by
  intro hl
  rw [List.length_drop] at hl
  obtain ⟨b, off, e, hcl⟩ := h (by omega)
  rw [if_neg (by omega), e]
  refine ⟨b, off + k, by simp [Addr.add], fun i hi => ?_⟩
  rw [List.length_drop] at hi
  rw [Nat.add_assoc, hcl (k + i) (by omega)]
  simp

theorem enc300 : enc 300 = [172, 2] := by rw [enc_ge (by omega), enc_lt (by omega)]; rfl
theorem enc2 : enc 2 = [2] := by rw [enc_lt (by omega)]; rfl
end Go.Proofs.YtgbbajeeelgbhaaGreatDoor.Fw

namespace Go.Proofs.YtgbbajeeelgbhaaGreatDoor.Pl

/-- What a read number tells: it is not above the limit, its bytes lie in what was read, and are its own. -/
theorem rd_once : ∀ (r i acc : Nat) (bs : List UInt8) (n k : Nat), rd bs r i acc = (n, k, 0) →
    i < k ∧ k ≤ bs.length ∧ n ≤ 4611686018427387904 ∧ ∃ m, n = acc + m * 2 ^ (7 * i) ∧ enc m = (bs.drop i).take (k - i) ∧ (m = 0 → i = 0)
  | 0, i, acc, bs, n, k, h => by simp [rd] at h
  | r + 1, i, acc, bs, n, k, h => by
    rw [rd] at h
    by_cases h1 : i = bs.length
    · rw [if_pos h1] at h; simp at h
    rw [if_neg h1] at h
    by_cases h2 : 4611686018427387904 < acc + (bs.getD i 0).toNat % 128 * 2 ^ (7 * i) ∨ ((bs.getD i 0).toNat = 0 ∧ 0 < i)
    · rw [if_pos h2] at h; simp at h
    rw [if_neg h2] at h
    have hc256 : (bs.getD i 0).toNat < 256 := UInt8.toNat_lt _
    have hlt : i < bs.length ∨ bs.length < i := by omega
    have hin : i < bs.length := by
      rcases hlt with hl | hl
      · exact hl
      · exfalso
        have e0 : bs.getD i 0 = 0 := by simp [List.getD, List.getElem?_eq_none (Nat.le_of_lt hl)]
        rw [e0] at h2
        exact h2 (.inr ⟨rfl, by omega⟩)
    have hd : bs.drop i = bs.getD i 0 :: bs.drop (i + 1) := by
      rw [List.drop_eq_getElem_cons hin]; simp [List.getD, List.getElem?_eq_getElem hin]
    have hof : UInt8.ofNat (bs.getD i 0).toNat = bs.getD i 0 := by simp
    generalize bs.getD i 0 = c at *
    by_cases h3 : c.toNat < 128
    · rw [if_pos h3] at h
      simp only [Prod.mk.injEq] at h
      obtain ⟨rfl, rfl, -⟩ := h
      have hm : c.toNat % 128 = c.toNat := Nat.mod_eq_of_lt h3
      rw [hm] at h2 ⊢
      refine ⟨by omega, by omega, by omega, c.toNat, rfl, ?_, fun hz => by omega⟩
      rw [enc_lt h3, hof, hd, show i + 1 - i = 1 by omega]; simp
    · rw [if_neg h3] at h
      obtain ⟨a1, a2, a3, m, rfl, a4, a5⟩ := rd_once r (i + 1) _ bs n k h
      have e2 : 2 ^ (7 * (i + 1)) = 2 ^ (7 * i) * 128 := by rw [show 7 * (i + 1) = 7 * i + 7 by omega, Nat.pow_add]
      have hm1 : 1 ≤ m := by omega
      refine ⟨by omega, a2, a3, c.toNat % 128 + m * 128, ?_, ?_, fun hz => by omega⟩
      · rw [e2, Nat.add_mul, Nat.mul_assoc m 128, Nat.mul_comm 128]; omega
      · rw [enc_ge (by omega), hd, show k - i = (k - (i + 1)) + 1 by omega, List.take_succ_cons]
        have e3 : (c.toNat % 128 + m * 128) / 128 = m := by omega
        have e4 : (c.toNat % 128 + m * 128) % 128 + 128 = c.toNat := by omega
        rw [e3, e4, hof, a4]

theorem readNum_once {bs : List UInt8} {n k : Nat} (h : readNum bs = (n, k, 0)) : 1 ≤ k ∧ k ≤ bs.length ∧ n ≤ 4611686018427387904 ∧ enc n = bs.take k := by
  obtain ⟨a1, a2, a3, m, e, a4, -⟩ := rd_once 9 0 0 bs n k h
  have : n = m := by simpa using e
  subst this
  exact ⟨by omega, a2, a3, by simpa using a4⟩

/-- With an error number and size are zeros, and the error is one of two. -/
theorem rd_err : ∀ (r i acc : Nat) (bs : List UInt8), ((rd bs r i acc).2.2 = 0) ∨ rd bs r i acc = (0, 0, 4) ∨ rd bs r i acc = (0, 0, 5)
  | 0, i, acc, bs => by simp [rd]
  | r + 1, i, acc, bs => by
    rw [rd]
    by_cases h1 : i = bs.length
    · rw [if_pos h1]; simp
    rw [if_neg h1]
    by_cases h2 : 4611686018427387904 < acc + (bs.getD i 0).toNat % 128 * 2 ^ (7 * i) ∨ ((bs.getD i 0).toNat = 0 ∧ 0 < i)
    · rw [if_pos h2]; simp
    rw [if_neg h2]
    by_cases h3 : (bs.getD i 0).toNat < 128
    · rw [if_pos h3]; simp
    · rw [if_neg h3]; exact rd_err r _ _ bs

theorem readNum_err (bs : List UInt8) : (∃ n k, readNum bs = (n, k, 0)) ∨ readNum bs = (0, 0, 4) ∨ readNum bs = (0, 0, 5) := by
  rcases rd_err 9 0 0 bs with h | h
  · left; exact ⟨_, _, by rw [← h]; rfl⟩
  · right; exact h

/-- A count: number, size, error. -/
def readCount (bs : List UInt8) (lim : Nat) : Nat × Nat × Nat :=
  if (readNum bs).2.2 ≠ 0 then (0, 0, (readNum bs).2.2) else if lim < (readNum bs).1 then (0, 0, 3) else ((readNum bs).1, (readNum bs).2.1, 0)

theorem readCount_cases (bs : List UInt8) (lim : Nat) :
    (∃ n k, readNum bs = (n, k, 0) ∧ n ≤ lim ∧ readCount bs lim = (n, k, 0)) ∨ (∃ e, (e = 3 ∨ e = 4 ∨ e = 5) ∧ readCount bs lim = (0, 0, e)) := by
  unfold readCount
  rcases readNum_err bs with ⟨n, k, h⟩ | h | h
  · rw [h]
    by_cases hl : lim < n
    · right; exact ⟨3, by simp, by simp [hl]⟩
    · left; exact ⟨n, k, rfl, by omega, by simp [hl]⟩
  · right; exact ⟨4, by simp, by rw [h]; simp⟩
  · right; exact ⟨5, by simp, by rw [h]; simp⟩

/-- A text's bytes, and what bytes are read as. -/
def encText (s : List UInt8) : List UInt8 := enc s.length ++ s
def readText (bs : List UInt8) : List UInt8 × Nat × Nat :=
  if (readCount bs 4096).2.2 ≠ 0 then ([], 0, (readCount bs 4096).2.2)
  else if bs.length - (readCount bs 4096).2.1 < (readCount bs 4096).1 then ([], 0, 4)
  else ((bs.drop (readCount bs 4096).2.1).take (readCount bs 4096).1, (readCount bs 4096).2.1 + (readCount bs 4096).1, 0)

theorem readCount_ok {bs : List UInt8} {n k lim : Nat} (h : readNum bs = (n, k, 0)) (hl : n ≤ lim) : readCount bs lim = (n, k, 0) := by
  unfold readCount; rw [h]; simp; omega

theorem readText_back {s : List UInt8} (hs : s.length ≤ 4096) (rest : List UInt8) : readText (encText s ++ rest) = (s, (encText s).length, 0) := by
  have h := readNum_enc (n := s.length) (by omega) (s ++ rest)
  unfold readText encText
  rw [List.append_assoc, readCount_ok h hs]
  simp only [ne_eq, not_true_eq_false, if_false]
  rw [if_neg (by simp), List.drop_left, List.take_left]
  simp

theorem readText_once {bs s : List UInt8} {k : Nat} (h : readText bs = (s, k, 0)) : 1 ≤ k ∧ k ≤ bs.length ∧ s.length ≤ 4096 ∧ encText s = bs.take k := by
  unfold readText at h
  rcases readCount_cases bs 4096 with ⟨n, j, h1, h2, h3⟩ | ⟨e, h1, h3⟩
  · rw [h3] at h
    simp only [ne_eq, not_true_eq_false, if_false] at h
    by_cases h4 : bs.length - j < n
    · rw [if_pos h4] at h; simp at h
    · rw [if_neg h4] at h
      simp only [Prod.mk.injEq] at h
      obtain ⟨rfl, rfl, -⟩ := h
      obtain ⟨a1, a2, a3, a4⟩ := readNum_once h1
      have hl : ((bs.drop j).take n).length = n := by rw [List.length_take, List.length_drop]; omega
      refine ⟨by omega, by omega, by omega, ?_⟩
      unfold encText
      rw [hl, a4, List.take_add]
  · rw [h3] at h
    rw [if_pos (by simp; omega)] at h
    simp at h; omega

/- Lists: the items one behind the other. -/
section
variable {α : Type}
def rl (read : List UInt8 → α × Nat × Nat) (bs : List UInt8) : Nat → List α → Nat → List α × Nat × Nat
  | 0, acc, p => (acc, p, 0)
  | n + 1, acc, p => if (read (bs.drop p)).2.2 ≠ 0 then ([], 0, (read (bs.drop p)).2.2) else rl read bs n (acc ++ [(read (bs.drop p)).1]) (p + (read (bs.drop p)).2.1)

def readList (read : List UInt8 → α × Nat × Nat) (bs : List UInt8) : List α × Nat × Nat :=
  if (readCount bs 1024).2.2 ≠ 0 then ([], 0, (readCount bs 1024).2.2) else rl read bs (readCount bs 1024).1 [] (readCount bs 1024).2.1

def encList (e : α → List UInt8) (l : List α) : List UInt8 := enc l.length ++ l.flatMap e

theorem rl_back {read : List UInt8 → α × Nat × Nat} {e : α → List UInt8} : ∀ (l : List α), (∀ x ∈ l, ∀ rest, read (e x ++ rest) = (x, (e x).length, 0)) → ∀ (acc : List α) (pre rest : List UInt8),
    rl read (pre ++ (l.flatMap e ++ rest)) l.length acc pre.length = (acc ++ l, pre.length + (l.flatMap e).length, 0)
  | [], _, acc, pre, rest => by simp [rl]
  | x :: l, h, acc, pre, rest => by
    have h1 := h x (by simp) (l.flatMap e ++ rest)
    have e1 : pre ++ ((x :: l).flatMap e ++ rest) = pre ++ (e x ++ (l.flatMap e ++ rest)) := by simp
    rw [e1, List.length_cons, rl, List.drop_left, h1]
    simp only [ne_eq, not_true_eq_false, if_false]
    have e2 : pre ++ (e x ++ (l.flatMap e ++ rest)) = (pre ++ e x) ++ (l.flatMap e ++ rest) := by simp
    rw [e2, ← List.length_append, rl_back l (fun y hy => h y (by simp [hy]))]
    simp [Nat.add_assoc]

theorem readList_back {read : List UInt8 → α × Nat × Nat} {e : α → List UInt8} {l : List α} (hl : l.length ≤ 1024) (h : ∀ x ∈ l, ∀ rest, read (e x ++ rest) = (x, (e x).length, 0)) (rest : List UInt8) :
    readList read (encList e l ++ rest) = (l, (encList e l).length, 0) := by
  have h1 := readNum_enc (n := l.length) (by omega) (l.flatMap e ++ rest)
  unfold readList encList
  rw [List.append_assoc, readCount_ok h1 hl]
  simp only [ne_eq, not_true_eq_false, if_false]
  rw [rl_back l h]
  simp

/-- Cut anywhere a list is short, if its items are. -/
theorem rl_cut {read : List UInt8 → α × Nat × Nat} {e : α → List UInt8} : ∀ (l : List α), (∀ x ∈ l, ∀ rest, read (e x ++ rest) = (x, (e x).length, 0)) → (∀ x ∈ l, ∀ k, k < (e x).length → (read ((e x).take k)).2.2 = 4) →
    ∀ (acc : List α) (pre : List UInt8) (k : Nat), k < (l.flatMap e).length → rl read (pre ++ (l.flatMap e).take k) l.length acc pre.length = ([], 0, 4)
  | [], _, _, acc, pre, k, hk => by simp at hk
  | x :: l, h, hc, acc, pre, k, hk => by
    rw [List.length_cons, rl, List.drop_left]
    by_cases h1 : k < (e x).length
    · have e1 : ((x :: l).flatMap e).take k = (e x).take k := by
        rw [List.flatMap_cons, List.take_append_of_le_length (by omega)]
      rw [e1, if_pos (by rw [hc x (by simp) k h1]; simp), hc x (by simp) k h1]
    · have e1 : ((x :: l).flatMap e).take k = e x ++ (l.flatMap e).take (k - (e x).length) := by
        rw [List.flatMap_cons, List.take_append, List.take_of_length_le (by omega)]
      rw [e1, h x (by simp)]
      simp only [ne_eq, not_true_eq_false, if_false]
      rw [← List.append_assoc, ← List.length_append]
      refine rl_cut l (fun y hy => h y (by simp [hy])) (fun y hy => hc y (by simp [hy])) _ _ _ ?_
      simp only [List.flatMap_cons, List.length_append] at hk
      omega

theorem readList_cut {read : List UInt8 → α × Nat × Nat} {e : α → List UInt8} {l : List α} (hl : l.length ≤ 1024) (h : ∀ x ∈ l, ∀ rest, read (e x ++ rest) = (x, (e x).length, 0))
    (hc : ∀ x ∈ l, ∀ k, k < (e x).length → (read ((e x).take k)).2.2 = 4) {k : Nat} (hk : k < (encList e l).length) : readList read ((encList e l).take k) = ([], 0, 4) := by
  unfold readList encList at *
  by_cases h1 : k < (enc l.length).length
  · have e1 : (enc l.length ++ l.flatMap e).take k = (enc l.length).take k := List.take_append_of_le_length (by omega)
    have h2 := readNum_cut (n := l.length) (k := k) (by omega) h1
    rw [e1]
    have : readCount ((enc l.length).take k) 1024 = (0, 0, 4) := by unfold readCount; rw [h2]; simp
    rw [this]; simp
  · have e1 : (enc l.length ++ l.flatMap e).take k = enc l.length ++ (l.flatMap e).take (k - (enc l.length).length) := by
      rw [List.take_append, List.take_of_length_le (by omega)]
    have h2 := readNum_enc (n := l.length) (by omega) ((l.flatMap e).take (k - (enc l.length).length))
    rw [e1, readCount_ok h2 hl]
    simp only [ne_eq, not_true_eq_false, if_false]
    refine rl_cut l h hc _ _ _ ?_
    simp only [List.length_append] at hk
    omega

theorem rl_once {read : List UInt8 → α × Nat × Nat} {e : α → List UInt8} (hr : ∀ bs x k, read bs = (x, k, 0) → k ≤ bs.length ∧ e x = bs.take k) :
    ∀ (n : Nat) (acc : List α) (p : Nat) (bs : List UInt8) (l : List α) (k : Nat), p ≤ bs.length → rl read bs n acc p = (l, k, 0) →
      ∃ l', l = acc ++ l' ∧ l'.length = n ∧ p ≤ k ∧ k ≤ bs.length ∧ l'.flatMap e = (bs.drop p).take (k - p)
  | 0, acc, p, bs, l, k, hp, h => by
    simp only [rl, Prod.mk.injEq] at h
    obtain ⟨rfl, rfl, -⟩ := h
    exact ⟨[], by simp, rfl, Nat.le_refl _, hp, by simp⟩
  | n + 1, acc, p, bs, l, k, hp, h => by
    rw [rl] at h
    by_cases h1 : (read (bs.drop p)).2.2 ≠ 0
    · rw [if_pos h1] at h
      simp only [Prod.mk.injEq] at h
      exact absurd h.2.2 h1
    · rw [if_neg h1] at h
      have h0 : (read (bs.drop p)).2.2 = 0 := by simpa using h1
      obtain ⟨x, j, hx⟩ : ∃ x j, read (bs.drop p) = (x, j, 0) := ⟨_, _, by rw [← h0]⟩
      rw [hx] at h
      obtain ⟨b1, b2⟩ := hr _ _ _ hx
      rw [List.length_drop] at b1
      obtain ⟨l', rfl, a2, a3, a4, a5⟩ := rl_once hr n _ _ bs l k (by simp only; omega) h
      simp only at a3 a5
      refine ⟨x :: l', by simp, by simp [a2], by omega, a4, ?_⟩
      rw [List.flatMap_cons, b2, a5, show k - p = j + (k - (p + j)) by omega, List.take_add, List.drop_drop]

theorem readList_once {read : List UInt8 → α × Nat × Nat} {e : α → List UInt8} (hr : ∀ bs x k, read bs = (x, k, 0) → k ≤ bs.length ∧ e x = bs.take k)
    {bs : List UInt8} {l : List α} {k : Nat} (h : readList read bs = (l, k, 0)) : k ≤ bs.length ∧ l.length ≤ 1024 ∧ encList e l = bs.take k := by
  unfold readList at h
  rcases readCount_cases bs 1024 with ⟨n, j, h1, h2, h3⟩ | ⟨er, h1, h3⟩
  · rw [h3] at h
    simp only [ne_eq, not_true_eq_false, if_false] at h
    obtain ⟨a1, a2, a3, a4⟩ := readNum_once h1
    obtain ⟨l', rfl, c2, c3, c4, c5⟩ := rl_once hr n [] j bs l k a2 h
    refine ⟨c4, by simpa [c2] using h2, ?_⟩
    unfold encList
    rw [c2, a4, c5]
    rw [← List.take_add, show j + (k - j) = k by omega]
  · rw [h3] at h
    rw [if_pos (by simp; omega)] at h
    simp at h; omega

/-- Each item of a list that was read was read. -/
theorem rl_items {read : List UInt8 → α × Nat × Nat} {Q : α → Prop} (hr : ∀ bs x k, read bs = (x, k, 0) → Q x) :
    ∀ (n : Nat) (acc : List α) (p : Nat) (bs : List UInt8) (l : List α) (k : Nat), (∀ x ∈ acc, Q x) → rl read bs n acc p = (l, k, 0) → ∀ x ∈ l, Q x
  | 0, acc, p, bs, l, k, ha, h => by
    simp only [rl, Prod.mk.injEq] at h
    obtain ⟨rfl, -, -⟩ := h
    exact ha
  | n + 1, acc, p, bs, l, k, ha, h => by
    rw [rl] at h
    by_cases h1 : (read (bs.drop p)).2.2 ≠ 0
    · rw [if_pos h1] at h
      simp only [Prod.mk.injEq] at h
      exact absurd h.2.2 h1
    · rw [if_neg h1] at h
      have h0 : (read (bs.drop p)).2.2 = 0 := by simpa using h1
      obtain ⟨x, j, hx⟩ : ∃ x j, read (bs.drop p) = (x, j, 0) := ⟨_, _, by rw [← h0]⟩
      rw [hx] at h
      refine rl_items hr n _ _ bs l k ?_ h
      intro y hy
      rcases List.mem_append.1 hy with hy | hy
      · exact ha y hy
      · rw [List.mem_singleton.1 hy]; exact hr _ _ _ hx

theorem readList_items {read : List UInt8 → α × Nat × Nat} {Q : α → Prop} (hr : ∀ bs x k, read bs = (x, k, 0) → Q x) {bs : List UInt8} {l : List α} {k : Nat} (h : readList read bs = (l, k, 0)) : ∀ x ∈ l, Q x := by
  unfold readList at h
  by_cases h1 : (readCount bs 1024).2.2 ≠ 0
  · rw [if_pos h1] at h
    simp only [Prod.mk.injEq] at h
    exact absurd h.2.2 h1
  · rw [if_neg h1] at h
    exact rl_items hr _ _ _ bs l k (by simp) h
end

theorem readText_cut {s : List UInt8} (hs : s.length ≤ 4096) {k : Nat} (hk : k < (encText s).length) : readText ((encText s).take k) = ([], 0, 4) := by
  unfold encText at *
  unfold readText
  by_cases h1 : k < (enc s.length).length
  · have e1 : (enc s.length ++ s).take k = (enc s.length).take k := List.take_append_of_le_length (by omega)
    have h2 := readNum_cut (n := s.length) (k := k) (by omega) h1
    rw [e1]
    have : readCount ((enc s.length).take k) 4096 = (0, 0, 4) := by unfold readCount; rw [h2]; simp
    rw [this]; simp
  · have e1 : (enc s.length ++ s).take k = enc s.length ++ s.take (k - (enc s.length).length) := by
      rw [List.take_append, List.take_of_length_le (by omega)]
    have h2 := readNum_enc (n := s.length) (by omega) (s.take (k - (enc s.length).length))
    rw [e1, readCount_ok h2 hs]
    simp only [ne_eq, not_true_eq_false, if_false, List.length_append] at hk ⊢
    rw [if_pos (by rw [List.length_take]; omega)]
end Go.Proofs.YtgbbajeeelgbhaaGreatDoor.Pl

namespace Go.Proofs.YtgbbajeeelgbhaaGreatDoor.Rd
open Go.RowKit Kt Pl Wr Fw
set_option linter.unusedVariables false

set_option maxHeartbeats 400000 in
set_option maxRecDepth 20000 in
theorem readCount_any (w : World) (ao : Option Addr) (cap lim : Nat) (bs : List UInt8) (hr : Row w ao bs) (hlen : bs.length ≤ 1000000000) (_hlim : lim ≤ 5000) :
    Calls Tryz.prog 300 #[.slice ao bs.length cap, .int .i64 lim] w fun e w' => e = ans (readCount bs lim) ∧ w' = w := by
  have H := readNum_any w ao cap bs hr hlen
  rcases readNum_err bs with ⟨n, k, h⟩ | h | h
  · by_cases hl : n ≤ lim
    · have hb := readNum_once h
      have HE : Hid (readCount bs lim = (n, k, 0)) := readCount_ok h hl
      rw [h] at H
      have c1 : ¬ ((lim : Int) < (n : Int)) := by omega
      clear h
      go_enter Tryz.func300, Tryz.ntmps300
      go_wp2_with fail
      refine H.mono ?_
      unfold ans
      rintro e w1 ⟨rfl, rfl⟩
      clear H
      go_wp2
      go_ret3
      exact ⟨by rw [HE.out]; rfl, rfl⟩
    · have HE : Hid (readCount bs lim = (0, 0, 3)) := mkH (by unfold readCount; rw [h]; simp [show lim < n by omega])
      rw [h] at H
      have c1 : (lim : Int) < (n : Int) := by omega
      clear h hl
      go_enter Tryz.func300, Tryz.ntmps300
      go_wp2_with fail
      refine H.mono ?_
      unfold ans
      rintro e w1 ⟨rfl, rfl⟩
      clear H
      go_wp2
      go_ret3
      exact ⟨by rw [HE.out]; rfl, rfl⟩
  · have HE : Hid (readCount bs lim = (0, 0, 4)) := mkH (by unfold readCount; rw [h]; simp)
    rw [h] at H
    clear h
    go_enter Tryz.func300, Tryz.ntmps300
    go_wp2_with fail
    refine H.mono ?_
    unfold ans
    rintro e w1 ⟨rfl, rfl⟩
    clear H
    go_wp2
    go_ret3
    exact ⟨by rw [HE.out]; rfl, rfl⟩
  · have HE : Hid (readCount bs lim = (0, 0, 5)) := mkH (by unfold readCount; rw [h]; simp)
    rw [h] at H
    clear h
    go_enter Tryz.func300, Tryz.ntmps300
    go_wp2_with fail
    refine H.mono ?_
    unfold ans
    rintro e w1 ⟨rfl, rfl⟩
    clear H
    go_wp2
    go_ret3
    exact ⟨by rw [HE.out]; rfl, rfl⟩

/-- What ReadText hands back. -/
def ansT (r : List UInt8 × Nat × Nat) : Ending := .returned (.tuple #[.string (S r.1), .int .i64 (r.2.1 : Int), .int .i64 (r.2.2 : Int)])

set_option maxHeartbeats 400000 in
set_option maxRecDepth 20000 in
theorem readText_any (w : World) (ao : Option Addr) (cap : Nat) (bs : List UInt8) (hr : Row w ao bs) (hlen : bs.length ≤ 1000000000) (hcap : bs.length ≤ cap) (hc63 : cap ≤ 9223372036854775807) :
    Calls Tryz.prog 239 #[.slice ao bs.length cap] w fun e w' => e = ansT (readText bs) ∧ w' = w := by
  have H := readCount_any w ao cap 4096 bs hr hlen (by omega)
  rcases readCount_cases bs 4096 with ⟨n, k, h1, h2, h3⟩ | ⟨er, h1, h3⟩
  · have hb := readNum_once h1
    have hk1 := hb.1
    have hk2 := hb.2.1
    clear hb h1
    rw [h3] at H
    by_cases hs : bs.length - k < n
    · have HE : Hid (readText bs = ([], 0, 4)) := mkH (by unfold readText; rw [h3]; simp [hs])
      have c1 : (bs.length : Int) - (k : Int) < (n : Int) := by omega
      clear h3
      go_enter Tryz.func239, Tryz.ntmps239
      go_wp2_with fail
      refine H.mono ?_
      unfold ans
      rintro e w1 ⟨rfl, rfl⟩
      clear H
      go_wp2
      go_ret3
      exact ⟨by rw [HE.out]; rfl, rfl⟩
    · have HE : Hid (readText bs = ((bs.drop k).take n, k + n, 0)) := mkH (by unfold readText; rw [h3]; simp [hs])
      have c1 : ¬ ((bs.length : Int) - (k : Int) < (n : Int)) := by omega
      have hln : ((bs.drop k).take n).length = n := by rw [List.length_take, List.length_drop]; omega
      have hs1 := run_string (P := Tryz.prog) (src := 41) (dst := 9) Tryz.underlying41 Tryz.underlying5 Tryz.underlying9 (Row_take (Row_drop hr (k := k) hcap) n) (cap - k)
      rw [hln] at hs1
      clear h3 hs hr hln
      go_enter Tryz.func239, Tryz.ntmps239
      go_wp2_with fail
      refine H.mono ?_
      unfold ans
      rintro e w1 ⟨rfl, rfl⟩
      clear H
      go_wp2
      all_goals
        go_ret3
        exact ⟨by rw [HE.out]; simp [ansT], rfl⟩
  · have HE : Hid (readText bs = ([], 0, er)) := mkH (by unfold readText; rw [h3]; rcases h1 with rfl | rfl | rfl <;> simp)
    rw [h3] at H
    clear h3 hr
    rcases h1 with rfl | rfl | rfl
    all_goals
      go_enter Tryz.func239, Tryz.ntmps239
      go_wp2_with fail
      refine H.mono ?_
      unfold ans
      rintro e w1 ⟨rfl, rfl⟩
      clear H
      go_wp2
      go_ret3
      exact ⟨by rw [HE.out]; rfl, rfl⟩
end Go.Proofs.YtgbbajeeelgbhaaGreatDoor.Rd

namespace Go.Proofs.YtgbbajeeelgbhaaGreatDoor.Ad
open Go.RowKit Kt Pl Rd Wr Fw
set_option linter.unusedVariables false

/-- A slice of numbers, as it is read. -/
def RowI (w : World) (ao : Option Addr) (l : List Int) : Prop :=
  0 < l.length → ∃ b off, ao = some ⟨b, off, none⟩ ∧ ∀ i, i < l.length → w.cell? ⟨b, off + i, none⟩ = some (.int .i64 (l.getD i 0))

theorem RowI.below {w w' : World} {ao : Option Addr} {l : List Int} (h : RowI w ao l) (hb : Below w.heap.size w w') : RowI w' ao l := by
  intro hl
  obtain ⟨b, off, e, hc⟩ := h hl
  refine ⟨b, off, e, fun i hi => ?_⟩
  have h1 := hc i hi
  rw [hb.cell (p := ⟨b, off + i, none⟩) (World.block_lt_of_cell? w _ h1)]
  exact h1

theorem RowI.own {w : World} {base e n : Nat} {ao : Option Addr} {cap : Nat} {l : List Nat} (h : w.ownsRow base e 1 (.slice ao n cap) n (I l)) : n = l.length ∧ n ≤ cap ∧ RowI w ao (l.map fun (n : Nat) => (n : Int)) := by
  have hn : n = l.length := by have := h.1; rw [I_length] at this; omega
  subst hn
  refine ⟨rfl, ?_, fun hl => ?_⟩
  · rcases h.2 with ⟨e1, e2⟩ | ⟨g, c, cur, e1, _, _, e2, _⟩
    · simp [e2]
    · simp only [Value.slice.injEq] at e1; omega
  · simp only [List.length_map] at hl ⊢
    rcases h.2 with ⟨e1, e2⟩ | ⟨g, c, cur, e1, _, hg, _, _, _, ht⟩
    · omega
    · simp only [Value.slice.injEq] at e1
      obtain ⟨rfl, _, rfl⟩ := e1
      refine ⟨g, 0, rfl, fun i hi => ?_⟩
      have := World.ownsRow.cellAt h i (by omega)
      rw [Nat.zero_add, this]
      simp [I, List.getD, List.getElem?_eq_getElem hi]

/-- A number that may be written. -/
def okN (x : Int) : Prop := 0 ≤ x ∧ x ≤ 4611686018427387904
def eI (x : Int) : List UInt8 := enc x.toNat

/-- What has been written of a list behind k items. -/
def pre {α : Type} (e : α → List UInt8) (l : List α) (k : Nat) : List UInt8 := enc l.length ++ (l.take k).flatMap e
theorem pre_zero {α : Type} (e : α → List UInt8) (l : List α) : pre e l 0 = enc l.length := by simp [pre]
theorem pre_all {α : Type} (e : α → List UInt8) (l : List α) : pre e l l.length = encList e l := by simp [pre, encList]
theorem pre_succ {α : Type} (e : α → List UInt8) (l : List α) (k : Nat) (x : α) (h : l[k]? = some x) : pre e l (k + 1) = pre e l k ++ e x := by
  obtain ⟨hk, rfl⟩ := List.getElem?_eq_some_iff.1 h
  unfold pre
  rw [List.take_succ_eq_append_getElem hk, List.flatMap_append]
  simp

theorem pre_len {l : List Int} {k : Nat} (hk : k ≤ l.length) (hl : l.length ≤ 1024) (hok : ∀ i x, i < k → l[i]? = some x → okN x) : (pre eI l k).length ≤ 9 + 9 * k := by
  induction k with
  | zero => rw [pre_zero]; have := enc_len9 (n := l.length) (by omega); omega
  | succ k ih =>
    have h1 : l[k]? = some l[k] := List.getElem?_eq_getElem (by omega)
    rw [pre_succ _ _ _ _ h1, List.length_append]
    have h2 := ih (by omega) (fun i x hi => hok i x (by omega))
    have h3 := hok k _ (by omega) h1
    have h4 : (eI l[k]).length ≤ 9 := enc_len9 (by have := h3.2; have := h3.1; omega)
    omega

theorem own_cat {w : World} {base e m : Nat} {v : Value} {bs p q : List UInt8} (h : w.ownsRow base e 1 v (m + p.length + q.length) (U (bs ++ p ++ q))) : w.ownsRow base e 1 v (m + (p ++ q).length) (U (bs ++ (p ++ q))) := by
  rw [List.length_append, ← List.append_assoc, ← Nat.add_assoc]; exact h
end Go.Proofs.YtgbbajeeelgbhaaGreatDoor.Ad
