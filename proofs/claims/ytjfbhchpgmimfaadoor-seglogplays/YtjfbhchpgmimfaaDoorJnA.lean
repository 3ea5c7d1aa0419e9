/-
  The contracts of 'few' and 'works'.
  The plain mathematics of texts and lists: their bytes, what bytes are read as, there and back, cut, and once. No Go text, no program.
  The contracts of readCount and ReadText.
  The contracts of the lists of numbers that are written: addList[int], Nums.
  The contracts of the lists of texts that are written: addList[string], Texts.
  The contracts of the document's own writers: racewayref01's Num, Text, Nums, Texts; and what octet's answer, told alike.
  'append' onto a row of the call's own as one step of a region that draws its order.
  What the laws' walks share: a place reckoned by '%'; Next at an error and at a body.
  The contracts of the document's own Next and Good.
  The document's Next at whatever place, its Good; the walks of CrcGood and CrcFrames.
  A disk beside memory that stays: the contracts once more, as the laws use them; 'works'.
  A list of calls that came in; 'plays'.
  'string(b)' in the worlds that a drawn region goes through.
  The document's disk in memory; join, Append, Swap, Read of it.
  The document's disk: Append, Sync, Cut, Read, Restart.
  The document's disk: Crash.
-/
import Derived.Test.YtjfbhchpgmimfaaDoorReads
import Derived.Test.YtjfbhchpgmimfaaDoorWrites
import Derived.Test.YtjfbhchpgmimfaaDoorPlain
import Derived.Test.YtjfbhchpgmimfaaDoorKit2
import Derived.Deep.QuietTactic
import Derived.BigQuiet
import Derived.Deep.RegionHeld3
import Derived.Test.YtjfbhchpgmimfaaDoorCrcK
import Derived.Test.YtjfbhchpgmimfaaDoorCrcM
import Derived.Test.YtjfbhchpgmimfaaDoorDiE
namespace Go.Proofs.YtjfbhchpgmimfaaDoor.Fw
open Go.RowKit Kt Pl Rd Wr
set_option linter.unusedVariables false

theorem Row_take {w : World} {ao : Option Addr} {bs : List UInt8} (h : Row w ao bs) (k : Nat) : Row w ao (bs.take k) := by
  intro hl
  rw [List.length_take] at hl
  obtain ⟨b, off, e, hc⟩ := h (by omega)
  refine ⟨b, off, e, fun i hi => ?_⟩
  rw [List.length_take] at hi
  rw [hc i (by omega)]
  simp [show i < k by omega]

/-- 'b[k:]', its address as the walk writes it. -/
theorem Row_drop {w : World} {ao : Option Addr} {bs : List UInt8} (h : Row w ao bs) {k cap : Nat} (hc : bs.length ≤ cap) : Row w (if cap = k then ao else Option.map (fun x => x.add k) ao) (bs.drop k) := by
  intro hl
  rw [List.length_drop] at hl
  obtain ⟨b, off, e, hcl⟩ := h (by omega)
  rw [if_neg (by omega), e]
  refine ⟨b, off + k, by simp [Addr.add], fun i hi => ?_⟩
  rw [List.length_drop] at hi
  rw [Nat.add_assoc, hcl (k + i) (by omega)]
  simp

theorem enc300 : enc 300 = [172, 2] := by rw [enc_ge (by omega), enc_lt (by omega)]; rfl
theorem enc2 : enc 2 = [2] := by rw [enc_lt (by omega)]; rfl
end Go.Proofs.YtjfbhchpgmimfaaDoor.Fw

namespace Go.Proofs.YtjfbhchpgmimfaaDoor.Pl

/-- What a read number tells: it is not above the limit, its bytes lie in what was read, and are its own. -/
theorem rd_once : ∀ (r i acc : Nat) (bs : List UInt8) (n k : Nat), rd bs r i acc = (n, k, 0) →
    i < k ∧ k ≤ bs.length ∧ n ≤ 4611686018427387904 ∧ ∃ m, n = acc + m * 2 ^ (7 * i) ∧ enc m = (bs.drop i).take (k - i) ∧ (m = 0 → i = 0)
  | 0, i, acc, bs, n, k, h => by simp [rd] at h
  | r + 1, i, acc, bs, n, k, h => by
    rw [rd] at h
    by_cases h1 : i = bs.length
    · rw [if_pos h1] at h; simp at h
    rw [if_neg h1] at h
    by_cases h2 : 4611686018427387904 < acc + (bs.getD i 0).toNat % 128 * 2 ^ (7 * i) ∨ ((bs.getD i 0).toNat = 0 ∧ 0 < i)
    · rw [if_pos h2] at h; simp at h
    rw [if_neg h2] at h
    have hc256 : (bs.getD i 0).toNat < 256 := UInt8.toNat_lt _
    have hlt : i < bs.length ∨ bs.length < i := by omega
    have hin : i < bs.length := by
      rcases hlt with hl | hl
      · exact hl
      · exfalso
        have e0 : bs.getD i 0 = 0 := by simp [List.getD, List.getElem?_eq_none (Nat.le_of_lt hl)]
        rw [e0] at h2
        exact h2 (.inr ⟨rfl, by omega⟩)
    have hd : bs.drop i = bs.getD i 0 :: bs.drop (i + 1) := by
      rw [List.drop_eq_getElem_cons hin]; simp [List.getD, List.getElem?_eq_getElem hin]
    have hof : UInt8.ofNat (bs.getD i 0).toNat = bs.getD i 0 := by simp
    generalize bs.getD i 0 = c at *
    by_cases h3 : c.toNat < 128
    · rw [if_pos h3] at h
      simp only [Prod.mk.injEq] at h
      obtain ⟨rfl, rfl, -⟩ := h
      have hm : c.toNat % 128 = c.toNat := Nat.mod_eq_of_lt h3
      rw [hm] at h2 ⊢
      refine ⟨by omega, by omega, by omega, c.toNat, rfl, ?_, fun hz => by omega⟩
      rw [enc_lt h3, hof, hd, show i + 1 - i = 1 by omega]; simp
    · rw [if_neg h3] at h
      obtain ⟨a1, a2, a3, m, rfl, a4, a5⟩ := rd_once r (i + 1) _ bs n k h
      have e2 : 2 ^ (7 * (i + 1)) = 2 ^ (7 * i) * 128 := by rw [show 7 * (i + 1) = 7 * i + 7 by omega, Nat.pow_add]
      have hm1 : 1 ≤ m := by omega
      refine ⟨by omega, a2, a3, c.toNat % 128 + m * 128, ?_, ?_, fun hz => by omega⟩
      · rw [e2, Nat.add_mul, Nat.mul_assoc m 128, Nat.mul_comm 128]; omega
      · rw [enc_ge (by omega), hd, show k - i = (k - (i + 1)) + 1 by omega, List.take_succ_cons]
        have e3 : (c.toNat % 128 + m * 128) / 128 = m := by omega
        have e4 : (c.toNat % 128 + m * 128) % 128 + 128 = c.toNat := by omega
        rw [e3, e4, hof, a4]

theorem readNum_once {bs : List UInt8} {n k : Nat} (h : readNum bs = (n, k, 0)) : 1 ≤ k ∧ k ≤ bs.length ∧ n ≤ 4611686018427387904 ∧ enc n = bs.take k := by
  obtain ⟨a1, a2, a3, m, e, a4, -⟩ := rd_once 9 0 0 bs n k h
  have : n = m := by simpa using e
  subst this
  exact ⟨by omega, a2, a3, by simpa using a4⟩

/-- With an error number and size are zeros, and the error is one of two. -/
theorem rd_err : ∀ (r i acc : Nat) (bs : List UInt8), ((rd bs r i acc).2.2 = 0) ∨ rd bs r i acc = (0, 0, 4) ∨ rd bs r i acc = (0, 0, 5)
  | 0, i, acc, bs => by simp [rd]
  | r + 1, i, acc, bs => by
    rw [rd]
    by_cases h1 : i = bs.length
    · rw [if_pos h1]; simp
    rw [if_neg h1]
    by_cases h2 : 4611686018427387904 < acc + (bs.getD i 0).toNat % 128 * 2 ^ (7 * i) ∨ ((bs.getD i 0).toNat = 0 ∧ 0 < i)
    · rw [if_pos h2]; simp
    rw [if_neg h2]
    by_cases h3 : (bs.getD i 0).toNat < 128
    · rw [if_pos h3]; simp
    · rw [if_neg h3]; exact rd_err r _ _ bs

theorem readNum_err (bs : List UInt8) : (∃ n k, readNum bs = (n, k, 0)) ∨ readNum bs = (0, 0, 4) ∨ readNum bs = (0, 0, 5) := by
  rcases rd_err 9 0 0 bs with h | h
  · left; exact ⟨_, _, by rw [← h]; rfl⟩
  · right; exact h

/-- A count: number, size, error. -/
def readCount (bs : List UInt8) (lim : Nat) : Nat × Nat × Nat :=
  if (readNum bs).2.2 ≠ 0 then (0, 0, (readNum bs).2.2) else if lim < (readNum bs).1 then (0, 0, 3) else ((readNum bs).1, (readNum bs).2.1, 0)

theorem readCount_cases (bs : List UInt8) (lim : Nat) :
    (∃ n k, readNum bs = (n, k, 0) ∧ n ≤ lim ∧ readCount bs lim = (n, k, 0)) ∨ (∃ e, (e = 3 ∨ e = 4 ∨ e = 5) ∧ readCount bs lim = (0, 0, e)) := by
  unfold readCount
  rcases readNum_err bs with ⟨n, k, h⟩ | h | h
  · rw [h]
    by_cases hl : lim < n
    · right; exact ⟨3, by simp, by simp [hl]⟩
    · left; exact ⟨n, k, rfl, by omega, by simp [hl]⟩
  · right; exact ⟨4, by simp, by rw [h]; simp⟩
  · right; exact ⟨5, by simp, by rw [h]; simp⟩

/-- A text's bytes, and what bytes are read as. -/
def encText (s : List UInt8) : List UInt8 := enc s.length ++ s
def readText (bs : List UInt8) : List UInt8 × Nat × Nat :=
  if (readCount bs 4096).2.2 ≠ 0 then ([], 0, (readCount bs 4096).2.2)
  else if bs.length - (readCount bs 4096).2.1 < (readCount bs 4096).1 then ([], 0, 4)
  else ((bs.drop (readCount bs 4096).2.1).take (readCount bs 4096).1, (readCount bs 4096).2.1 + (readCount bs 4096).1, 0)

theorem readCount_ok {bs : List UInt8} {n k lim : Nat} (h : readNum bs = (n, k, 0)) (hl : n ≤ lim) : readCount bs lim = (n, k, 0) := by
  unfold readCount; rw [h]; simp; omega

theorem readText_back {s : List UInt8} (hs : s.length ≤ 4096) (rest : List UInt8) : readText (encText s ++ rest) = (s, (encText s).length, 0) := by
  have h := readNum_enc (n := s.length) (by omega) (s ++ rest)
  unfold readText encText
  rw [List.append_assoc, readCount_ok h hs]
  simp only [ne_eq, not_true_eq_false, if_false]
  rw [if_neg (by simp), List.drop_left, List.take_left]
  simp

theorem readText_once {bs s : List UInt8} {k : Nat} (h : readText bs = (s, k, 0)) : 1 ≤ k ∧ k ≤ bs.length ∧ s.length ≤ 4096 ∧ encText s = bs.take k := by
  unfold readText at h
  rcases readCount_cases bs 4096 with ⟨n, j, h1, h2, h3⟩ | ⟨e, h1, h3⟩
  · rw [h3] at h
    simp only [ne_eq, not_true_eq_false, if_false] at h
    by_cases h4 : bs.length - j < n
    · rw [if_pos h4] at h; simp at h
    · rw [if_neg h4] at h
      simp only [Prod.mk.injEq] at h
      obtain ⟨rfl, rfl, -⟩ := h
      obtain ⟨a1, a2, a3, a4⟩ := readNum_once h1
      have hl : ((bs.drop j).take n).length = n := by rw [List.length_take, List.length_drop]; omega
      refine ⟨by omega, by omega, by omega, ?_⟩
      unfold encText
      rw [hl, a4, List.take_add]
  · rw [h3] at h
    rw [if_pos (by simp; omega)] at h
    simp at h; omega

/- Lists: the items one behind the other. -/
section
variable {α : Type}
def rl (read : List UInt8 → α × Nat × Nat) (bs : List UInt8) : Nat → List α → Nat → List α × Nat × Nat
  | 0, acc, p => (acc, p, 0)
  | n + 1, acc, p => if (read (bs.drop p)).2.2 ≠ 0 then ([], 0, (read (bs.drop p)).2.2) else rl read bs n (acc ++ [(read (bs.drop p)).1]) (p + (read (bs.drop p)).2.1)

def readList (read : List UInt8 → α × Nat × Nat) (bs : List UInt8) : List α × Nat × Nat :=
  if (readCount bs 1024).2.2 ≠ 0 then ([], 0, (readCount bs 1024).2.2) else rl read bs (readCount bs 1024).1 [] (readCount bs 1024).2.1

def encList (e : α → List UInt8) (l : List α) : List UInt8 := enc l.length ++ l.flatMap e

theorem rl_back {read : List UInt8 → α × Nat × Nat} {e : α → List UInt8} : ∀ (l : List α), (∀ x ∈ l, ∀ rest, read (e x ++ rest) = (x, (e x).length, 0)) → ∀ (acc : List α) (pre rest : List UInt8),
    rl read (pre ++ (l.flatMap e ++ rest)) l.length acc pre.length = (acc ++ l, pre.length + (l.flatMap e).length, 0)
  | [], _, acc, pre, rest => by simp [rl]
  | x :: l, h, acc, pre, rest => by
    have h1 := h x (by simp) (l.flatMap e ++ rest)
    have e1 : pre ++ ((x :: l).flatMap e ++ rest) = pre ++ (e x ++ (l.flatMap e ++ rest)) := by simp
    rw [e1, List.length_cons, rl, List.drop_left, h1]
    simp only [ne_eq, not_true_eq_false, if_false]
    have e2 : pre ++ (e x ++ (l.flatMap e ++ rest)) = (pre ++ e x) ++ (l.flatMap e ++ rest) := by simp
    rw [e2, ← List.length_append, rl_back l (fun y hy => h y (by simp [hy]))]
    simp [Nat.add_assoc]

theorem readList_back {read : List UInt8 → α × Nat × Nat} {e : α → List UInt8} {l : List α} (hl : l.length ≤ 1024) (h : ∀ x ∈ l, ∀ rest, read (e x ++ rest) = (x, (e x).length, 0)) (rest : List UInt8) :
    readList read (encList e l ++ rest) = (l, (encList e l).length, 0) := by
  have h1 := readNum_enc (n := l.length) (by omega) (l.flatMap e ++ rest)
  unfold readList encList
  rw [List.append_assoc, readCount_ok h1 hl]
  simp only [ne_eq, not_true_eq_false, if_false]
  rw [rl_back l h]
  simp

/-- Cut anywhere a list is short, if its items are. -/
theorem rl_cut {read : List UInt8 → α × Nat × Nat} {e : α → List UInt8} : ∀ (l : List α), (∀ x ∈ l, ∀ rest, read (e x ++ rest) = (x, (e x).length, 0)) → (∀ x ∈ l, ∀ k, k < (e x).length → (read ((e x).take k)).2.2 = 4) →
    ∀ (acc : List α) (pre : List UInt8) (k : Nat), k < (l.flatMap e).length → rl read (pre ++ (l.flatMap e).take k) l.length acc pre.length = ([], 0, 4)
  | [], _, _, acc, pre, k, hk => by simp at hk
  | x :: l, h, hc, acc, pre, k, hk => by
    rw [List.length_cons, rl, List.drop_left]
    by_cases h1 : k < (e x).length
    · have e1 : ((x :: l).flatMap e).take k = (e x).take k := by
        rw [List.flatMap_cons, List.take_append_of_le_length (by omega)]
      rw [e1, if_pos (by rw [hc x (by simp) k h1]; simp), hc x (by simp) k h1]
    · have e1 : ((x :: l).flatMap e).take k = e x ++ (l.flatMap e).take (k - (e x).length) := by
        rw [List.flatMap_cons, List.take_append, List.take_of_length_le (by omega)]
      rw [e1, h x (by simp)]
      simp only [ne_eq, not_true_eq_false, if_false]
      rw [← List.append_assoc, ← List.length_append]
      refine rl_cut l (fun y hy => h y (by simp [hy])) (fun y hy => hc y (by simp [hy])) _ _ _ ?_
      simp only [List.flatMap_cons, List.length_append] at hk
      omega

theorem readList_cut {read : List UInt8 → α × Nat × Nat} {e : α → List UInt8} {l : List α} (hl : l.length ≤ 1024) (h : ∀ x ∈ l, ∀ rest, read (e x ++ rest) = (x, (e x).length, 0))
    (hc : ∀ x ∈ l, ∀ k, k < (e x).length → (read ((e x).take k)).2.2 = 4) {k : Nat} (hk : k < (encList e l).length) : readList read ((encList e l).take k) = ([], 0, 4) := by
  unfold readList encList at *
  by_cases h1 : k < (enc l.length).length
  · have e1 : (enc l.length ++ l.flatMap e).take k = (enc l.length).take k := List.take_append_of_le_length (by omega)
    have h2 := readNum_cut (n := l.length) (k := k) (by omega) h1
    rw [e1]
    have : readCount ((enc l.length).take k) 1024 = (0, 0, 4) := by unfold readCount; rw [h2]; simp
    rw [this]; simp
  · have e1 : (enc l.length ++ l.flatMap e).take k = enc l.length ++ (l.flatMap e).take (k - (enc l.length).length) := by
      rw [List.take_append, List.take_of_length_le (by omega)]
    have h2 := readNum_enc (n := l.length) (by omega) ((l.flatMap e).take (k - (enc l.length).length))
    rw [e1, readCount_ok h2 hl]
    simp only [ne_eq, not_true_eq_false, if_false]
    refine rl_cut l h hc _ _ _ ?_
    simp only [List.length_append] at hk
    omega

theorem rl_once {read : List UInt8 → α × Nat × Nat} {e : α → List UInt8} (hr : ∀ bs x k, read bs = (x, k, 0) → k ≤ bs.length ∧ e x = bs.take k) :
    ∀ (n : Nat) (acc : List α) (p : Nat) (bs : List UInt8) (l : List α) (k : Nat), p ≤ bs.length → rl read bs n acc p = (l, k, 0) →
      ∃ l', l = acc ++ l' ∧ l'.length = n ∧ p ≤ k ∧ k ≤ bs.length ∧ l'.flatMap e = (bs.drop p).take (k - p)
  | 0, acc, p, bs, l, k, hp, h => by
    simp only [rl, Prod.mk.injEq] at h
    obtain ⟨rfl, rfl, -⟩ := h
    exact ⟨[], by simp, rfl, Nat.le_refl _, hp, by simp⟩
  | n + 1, acc, p, bs, l, k, hp, h => by
    rw [rl] at h
    by_cases h1 : (read (bs.drop p)).2.2 ≠ 0
    · rw [if_pos h1] at h
      simp only [Prod.mk.injEq] at h
      exact absurd h.2.2 h1
    · rw [if_neg h1] at h
      have h0 : (read (bs.drop p)).2.2 = 0 := by simpa using h1
      obtain ⟨x, j, hx⟩ : ∃ x j, read (bs.drop p) = (x, j, 0) := ⟨_, _, by rw [← h0]⟩
      rw [hx] at h
      obtain ⟨b1, b2⟩ := hr _ _ _ hx
      rw [List.length_drop] at b1
      obtain ⟨l', rfl, a2, a3, a4, a5⟩ := rl_once hr n _ _ bs l k (by simp only; omega) h
      simp only at a3 a5
      refine ⟨x :: l', by simp, by simp [a2], by omega, a4, ?_⟩
      rw [List.flatMap_cons, b2, a5, show k - p = j + (k - (p + j)) by omega, List.take_add, List.drop_drop]

theorem readList_once {read : List UInt8 → α × Nat × Nat} {e : α → List UInt8} (hr : ∀ bs x k, read bs = (x, k, 0) → k ≤ bs.length ∧ e x = bs.take k)
    {bs : List UInt8} {l : List α} {k : Nat} (h : readList read bs = (l, k, 0)) : k ≤ bs.length ∧ l.length ≤ 1024 ∧ encList e l = bs.take k := by
  unfold readList at h
  rcases readCount_cases bs 1024 with ⟨n, j, h1, h2, h3⟩ | ⟨er, h1, h3⟩
  · rw [h3] at h
    simp only [ne_eq, not_true_eq_false, if_false] at h
    obtain ⟨a1, a2, a3, a4⟩ := readNum_once h1
    obtain ⟨l', rfl, c2, c3, c4, c5⟩ := rl_once hr n [] j bs l k a2 h
    refine ⟨c4, by simpa [c2] using h2, ?_⟩
    unfold encList
    rw [c2, a4, c5]
    rw [← List.take_add, show j + (k - j) = k by omega]
  · rw [h3] at h
    rw [if_pos (by simp; omega)] at h
    simp at h; omega

/-- Each item of a list that was read was read. -/
theorem rl_items {read : List UInt8 → α × Nat × Nat} {Q : α → Prop} (hr : ∀ bs x k, read bs = (x, k, 0) → Q x) :
    ∀ (n : Nat) (acc : List α) (p : Nat) (bs : List UInt8) (l : List α) (k : Nat), (∀ x ∈ acc, Q x) → rl read bs n acc p = (l, k, 0) → ∀ x ∈ l, Q x
  | 0, acc, p, bs, l, k, ha, h => by
    simp only [rl, Prod.mk.injEq] at h
    obtain ⟨rfl, -, -⟩ := h
    exact ha
  | n + 1, acc, p, bs, l, k, ha, h => by
    rw [rl] at h
    by_cases h1 : (read (bs.drop p)).2.2 ≠ 0
    · rw [if_pos h1] at h
      simp only [Prod.mk.injEq] at h
      exact absurd h.2.2 h1
    · rw [if_neg h1] at h
      have h0 : (read (bs.drop p)).2.2 = 0 := by simpa using h1
      obtain ⟨x, j, hx⟩ : ∃ x j, read (bs.drop p) = (x, j, 0) := ⟨_, _, by rw [← h0]⟩
      rw [hx] at h
      refine rl_items hr n _ _ bs l k ?_ h
      intro y hy
      rcases List.mem_append.1 hy with hy | hy
      · exact ha y hy
      · rw [List.mem_singleton.1 hy]; exact hr _ _ _ hx

theorem readList_items {read : List UInt8 → α × Nat × Nat} {Q : α → Prop} (hr : ∀ bs x k, read bs = (x, k, 0) → Q x) {bs : List UInt8} {l : List α} {k : Nat} (h : readList read bs = (l, k, 0)) : ∀ x ∈ l, Q x := by
  unfold readList at h
  by_cases h1 : (readCount bs 1024).2.2 ≠ 0
  · rw [if_pos h1] at h
    simp only [Prod.mk.injEq] at h
    exact absurd h.2.2 h1
  · rw [if_neg h1] at h
    exact rl_items hr _ _ _ bs l k (by simp) h
end

theorem readText_cut {s : List UInt8} (hs : s.length ≤ 4096) {k : Nat} (hk : k < (encText s).length) : readText ((encText s).take k) = ([], 0, 4) := by
  unfold encText at *
  unfold readText
  by_cases h1 : k < (enc s.length).length
  · have e1 : (enc s.length ++ s).take k = (enc s.length).take k := List.take_append_of_le_length (by omega)
    have h2 := readNum_cut (n := s.length) (k := k) (by omega) h1
    rw [e1]
    have : readCount ((enc s.length).take k) 4096 = (0, 0, 4) := by unfold readCount; rw [h2]; simp
    rw [this]; simp
  · have e1 : (enc s.length ++ s).take k = enc s.length ++ s.take (k - (enc s.length).length) := by
      rw [List.take_append, List.take_of_length_le (by omega)]
    have h2 := readNum_enc (n := s.length) (by omega) (s.take (k - (enc s.length).length))
    rw [e1, readCount_ok h2 hs]
    simp only [ne_eq, not_true_eq_false, if_false, List.length_append] at hk ⊢
    rw [if_pos (by rw [List.length_take]; omega)]
end Go.Proofs.YtjfbhchpgmimfaaDoor.Pl

namespace Go.Proofs.YtjfbhchpgmimfaaDoor.Rd
open Go.RowKit Kt Pl Wr Fw
set_option linter.unusedVariables false

/-- What ReadText hands back. -/
def ansT (r : List UInt8 × Nat × Nat) : Ending := .returned (.tuple #[.string (S r.1), .int .i64 (r.2.1 : Int), .int .i64 (r.2.2 : Int)])
end Go.Proofs.YtjfbhchpgmimfaaDoor.Rd

namespace Go.Proofs.YtjfbhchpgmimfaaDoor.Ad
open Go.RowKit Kt Pl Rd Wr Fw
set_option linter.unusedVariables false

/-- A slice of numbers, as it is read. -/
def RowI (w : World) (ao : Option Addr) (l : List Int) : Prop :=
  0 < l.length → ∃ b off, ao = some ⟨b, off, none⟩ ∧ ∀ i, i < l.length → w.cell? ⟨b, off + i, none⟩ = some (.int .i64 (l.getD i 0))

theorem RowI.below {w w' : World} {ao : Option Addr} {l : List Int} (h : RowI w ao l) (hb : Below w.heap.size w w') : RowI w' ao l := by
  intro hl
  obtain ⟨b, off, e, hc⟩ := h hl
  refine ⟨b, off, e, fun i hi => ?_⟩
  have h1 := hc i hi
  rw [hb.cell (p := ⟨b, off + i, none⟩) (World.block_lt_of_cell? w _ h1)]
  exact h1

theorem RowI.own {w : World} {base e n : Nat} {ao : Option Addr} {cap : Nat} {l : List Nat} (h : w.ownsRow base e 1 (.slice ao n cap) n (I l)) : n = l.length ∧ n ≤ cap ∧ RowI w ao (l.map fun (n : Nat) => (n : Int)) := by
  have hn : n = l.length := by have := h.1; rw [I_length] at this; omega
  subst hn
  refine ⟨rfl, ?_, fun hl => ?_⟩
  · rcases h.2 with ⟨e1, e2⟩ | ⟨g, c, cur, e1, _, _, e2, _⟩
    · simp [e2]
    · simp only [Value.slice.injEq] at e1; omega
  · simp only [List.length_map] at hl ⊢
    rcases h.2 with ⟨e1, e2⟩ | ⟨g, c, cur, e1, _, hg, _, _, _, ht⟩
    · omega
    · simp only [Value.slice.injEq] at e1
      obtain ⟨rfl, _, rfl⟩ := e1
      refine ⟨g, 0, rfl, fun i hi => ?_⟩
      have := World.ownsRow.cellAt h i (by omega)
      rw [Nat.zero_add, this]
      simp [I, List.getD, List.getElem?_eq_getElem hi]

/-- A number that may be written. -/
def okN (x : Int) : Prop := 0 ≤ x ∧ x ≤ 4611686018427387904
def eI (x : Int) : List UInt8 := enc x.toNat

/-- What has been written of a list behind k items. -/
def pre {α : Type} (e : α → List UInt8) (l : List α) (k : Nat) : List UInt8 := enc l.length ++ (l.take k).flatMap e
theorem pre_zero {α : Type} (e : α → List UInt8) (l : List α) : pre e l 0 = enc l.length := by simp [pre]
theorem pre_all {α : Type} (e : α → List UInt8) (l : List α) : pre e l l.length = encList e l := by simp [pre, encList]
theorem pre_succ {α : Type} (e : α → List UInt8) (l : List α) (k : Nat) (x : α) (h : l[k]? = some x) : pre e l (k + 1) = pre e l k ++ e x := by
  obtain ⟨hk, rfl⟩ := List.getElem?_eq_some_iff.1 h
  unfold pre
  rw [List.take_succ_eq_append_getElem hk, List.flatMap_append]
  simp

theorem pre_len {l : List Int} {k : Nat} (hk : k ≤ l.length) (hl : l.length ≤ 1024) (hok : ∀ i x, i < k → l[i]? = some x → okN x) : (pre eI l k).length ≤ 9 + 9 * k := by
  induction k with
  | zero => rw [pre_zero]; have := enc_len9 (n := l.length) (by omega); omega
  | succ k ih =>
    have h1 : l[k]? = some l[k] := List.getElem?_eq_getElem (by omega)
    rw [pre_succ _ _ _ _ h1, List.length_append]
    have h2 := ih (by omega) (fun i x hi => hok i x (by omega))
    have h3 := hok k _ (by omega) h1
    have h4 : (eI l[k]).length ≤ 9 := enc_len9 (by have := h3.2; have := h3.1; omega)
    omega

theorem own_cat {w : World} {base e m : Nat} {v : Value} {bs p q : List UInt8} (h : w.ownsRow base e 1 v (m + p.length + q.length) (U (bs ++ p ++ q))) : w.ownsRow base e 1 v (m + (p ++ q).length) (U (bs ++ (p ++ q))) := by
  rw [List.length_append, ← List.append_assoc, ← Nat.add_assoc]; exact h
end Go.Proofs.YtjfbhchpgmimfaaDoor.Ad

namespace Go.Proofs.YtjfbhchpgmimfaaDoor.At
open Go.RowKit Kt Pl Rd Wr Fw
open Ad (pre pre_zero pre_all pre_succ own_cat)
set_option linter.unusedVariables false

/-- A slice of texts, as it is read. -/
def RowT (w : World) (ao : Option Addr) (l : List (List UInt8)) : Prop :=
  0 < l.length → ∃ b off, ao = some ⟨b, off, none⟩ ∧ ∀ i, i < l.length → w.cell? ⟨b, off + i, none⟩ = some (.string (S (l.getD i [])))

theorem RowT.below {w w' : World} {ao : Option Addr} {l : List (List UInt8)} (h : RowT w ao l) (hb : Below w.heap.size w w') : RowT w' ao l := by
  intro hl
  obtain ⟨b, off, e, hc⟩ := h hl
  refine ⟨b, off, e, fun i hi => ?_⟩
  have h1 := hc i hi
  rw [hb.cell (p := ⟨b, off + i, none⟩) (World.block_lt_of_cell? w _ h1)]
  exact h1

theorem RowT.own {w : World} {base e n : Nat} {ao : Option Addr} {cap : Nat} {l : List (List UInt8)} (h : w.ownsRow base e 1 (.slice ao n cap) n (T l)) : n = l.length ∧ n ≤ cap ∧ RowT w ao l := by
  have hn : n = l.length := by have := h.1; rw [T_length] at this; omega
  subst hn
  refine ⟨rfl, ?_, fun hl => ?_⟩
  · rcases h.2 with ⟨e1, e2⟩ | ⟨g, c, cur, e1, _, _, e2, _⟩
    · simp [e2]
    · simp only [Value.slice.injEq] at e1; omega
  · rcases h.2 with ⟨e1, e2⟩ | ⟨g, c, cur, e1, _, hg, _, _, _, ht⟩
    · omega
    · simp only [Value.slice.injEq] at e1
      obtain ⟨rfl, _, rfl⟩ := e1
      refine ⟨g, 0, rfl, fun i hi => ?_⟩
      have := World.ownsRow.cellAt h i (by omega)
      rw [Nat.zero_add, this]
      simp [T, List.getD, List.getElem?_eq_getElem hi]

/-- A text that may be written. -/
def okT (x : List UInt8) : Prop := x.length ≤ 4096

theorem pre_len {l : List (List UInt8)} {k : Nat} (hk : k ≤ l.length) (hl : l.length ≤ 1024) (hok : ∀ i x, i < k → l[i]? = some x → okT x) : (pre encText l k).length ≤ 9 + 4105 * k := by
  induction k with
  | zero => rw [pre_zero]; have := enc_len9 (n := l.length) (by omega); omega
  | succ k ih =>
    have h1 : l[k]? = some l[k] := List.getElem?_eq_getElem (by omega)
    rw [pre_succ _ _ _ _ h1, List.length_append]
    have h2 := ih (by omega) (fun i x hi => hok i x (by omega))
    have h3 := hok k _ (by omega) h1
    have h4 : (encText l[k]).length ≤ 4105 := by unfold encText; rw [List.length_append]; unfold okT at h3; have := enc_len9 (n := l[k].length) (by omega); omega
    omega

theorem own_cat {w : World} {base e m : Nat} {v : Value} {bs p q : List UInt8} (h : w.ownsRow base e 1 v (m + p.length + q.length) (U (bs ++ p ++ q))) : w.ownsRow base e 1 v (m + (p ++ q).length) (U (bs ++ (p ++ q))) := by
  rw [List.length_append, ← List.append_assoc, ← Nat.add_assoc]; exact h
end Go.Proofs.YtjfbhchpgmimfaaDoor.At

namespace Go.Proofs.YtjfbhchpgmimfaaDoor.Rf
open Go.RowKit Kt Pl Rd Wr Fw Ad At
set_option linter.unusedVariables false

set_option maxHeartbeats 400000 in
set_option maxRecDepth 20000 in
theorem refNum_ok (w : World) (ao : Option Addr) (cap n : Nat) (bs : List UInt8) (hr : Row w ao bs) (hlen : bs.length ≤ 1000000000) (hn : n ≤ 4611686018427387904) :
    Calls Tryd.prog 64 #[.slice ao bs.length cap, .int .i64 n] w fun e w' => ∃ v', e = .returned (.tuple #[v', .int .i64 0]) ∧ w'.ownsRow w.heap.size 5 1 v' (bs.length + (enc n).length) (U (bs ++ enc n)) ∧ Below w.heap.size w w' := by
  have h9 := enc_len9 hn
  have c1 : decide ((n : Int) < 0) = false := by simp
  have c2 : decide ((4611686018427387904 : Int) < (n : Int)) = false := by simp; omega
  have HN : Hid (n ≤ 4611686018427387904) := hn
  clear hn
  go_enter Tryd.func64, Tryd.ntmps64
  go_wp2_with (at_builtin; refine (wpList_append_own_src _ rfl (.tmp 13) (.tmp 14) 30 30 rfl w.heap.size 5 (.int .u8 0) 1 1 Tryd.underlying30 info5 rfl (by decide) _ 0 [] rfl (World.ownsRow_made w #[] 0 (Nat.le_refl _) (Nat.zero_le _) rfl) _ bs.length (U bs) rfl (by exact Row.src (P := Tryd.prog) Tryd.underlying30 (hr.below ((Below.refl w.heap.size w).alloc (Nat.le_refl _) (.cells #[] 5))) cap) (by unfold maxLen; omega) (by omega) (by simp) ?_))
  intro v0 w0 hown0 hgrow0
  have hb0 := below_own (World.ownsRow_made (e := 5) (size := 1) w #[] 0 (Nat.le_refl _) (Nat.zero_le _) rfl) hgrow0 ((Below.refl w.heap.size w).alloc (Nat.le_refl _) (.cells #[] 5)) (by simp)
  have hown0' : w0.ownsRow w.heap.size 5 1 v0 (bs.length + ([] : List UInt8).length) (U (bs ++ [])) := by simpa using hown0
  clear hgrow0 hown0 c1 c2
  go_wp2
  go_loopw [1, 6] (fun x v1 wr => ∃ (k : Nat) (pre : List UInt8), (k : Int) ≤ 4611686018427387904 ∧ x = .int .i64 k ∧ Hid (pre ++ enc k = enc n) ∧ pre.length ≤ 8 ∧ wr.ownsRow w.heap.size 5 1 v1 (bs.length + pre.length) (U (bs ++ pre)) ∧ Below w.heap.size w wr)
    (fun x _ _ => (intOf x).toNat)
  case atStart => exact ⟨n, [], by have := HN.out; omega, rfl, by simp [Hid], by simp, hown0', hb0⟩
  case round =>
    obtain ⟨k, pre, hk, rfl, hpe, hpl, hown1, hbel⟩ := hrel
    have hsz := hbel.size
    clear hown0' hb0
    by_cases hge : 128 ≤ k
    · go_wp2_with (at_builtin; refine (wpList_append_own_src _ rfl (.tmp 18) (.tmp 23) 30 30 rfl w.heap.size 5 (.int .u8 0) 1 1 Tryd.underlying30 info5 rfl (by decide) _ (bs.length + pre.length) (U (bs ++ pre)) rfl (hown1.alloc _) _ 1 (U [hiB k]) rfl (src_one Tryd.underlying30 _ _ _ ?hx) ?h63 ?hby ?hbs ?_))
      case hx => exact byte_hi k
      case h63 => unfold maxLen; omega
      case hby => omega
      case hbs => simp; omega
      intro v2 w2 hown2 hgrow2
      have hst := num_step hge hpe.out h9
      have HS : Hid (pre ++ [hiB k] ++ enc (k / 128) = enc n) := hst.1
      have hs8 := hst.2
      have hbel2 := below_own (hown1.alloc _) hgrow2 (hbel.alloc (by omega) _) (by simp; omega)
      have hown3 := own_more hown2
      clear hst hown1 hown2 hgrow2 hbel
      go_wp2
      go_roundw
      case rel => exact ⟨k / 128, _, by omega, by go_num, HS, hs8, hown3, hbel2⟩
      case measure => simp [intOf]; omega
    · go_wp2_with (at_builtin; refine (wpList_append_own_src _ rfl (.tmp 27) (.tmp 30) 30 30 rfl w.heap.size 5 (.int .u8 0) 1 1 Tryd.underlying30 info5 rfl (by decide) _ (bs.length + pre.length) (U (bs ++ pre)) rfl (hown1.alloc _) _ 1 (U [UInt8.ofNat k]) rfl (src_one Tryd.underlying30 _ _ _ ?hx2) ?h632 ?hby2 ?hbs2 ?_))
      case hx2 => exact byte_lo (by omega)
      case h632 => unfold maxLen; omega
      case hby2 => omega
      case hbs2 => simp; omega
      intro v2 w2 hown2 hgrow2
      have HS : Hid (pre ++ [UInt8.ofNat k] = enc n) := by rw [← enc_lt (by omega)]; exact hpe.out
      have hbel2 := below_own (hown1.alloc _) hgrow2 (hbel.alloc (by omega) _) (by simp; omega)
      have hown3 := own_more hown2
      clear hown1 hown2 hgrow2 hbel
      go_wp2
      go_ret2
      rw [HS.out] at hown3
      exact ⟨v2, rfl, hown3, hbel2⟩

set_option maxHeartbeats 400000 in
set_option maxRecDepth 20000 in
theorem refNum_bad (w : World) (v : Value) (n : Int) (h : n < 0 ∨ 4611686018427387904 < n) :
    Calls Tryd.prog 64 #[v, .int .i64 n] w fun e w' => e = .returned (.tuple #[.slice none 0 0, .int .i64 2]) ∧ w' = w := by
  by_cases h0 : n < 0
  · have c1 : decide (n < 0) = true := by simpa using h0
    clear h h0
    go_enter Tryd.func64, Tryd.ntmps64
    go_wp2
    go_ret2
    exact ⟨rfl, rfl⟩
  · have c1 : decide (n < 0) = false := by simpa using h0
    have c2 : decide (4611686018427387904 < n) = true := by simp; omega
    clear h h0
    go_enter Tryd.func64, Tryd.ntmps64
    go_wp2
    go_ret2
    exact ⟨rfl, rfl⟩
end Go.Proofs.YtjfbhchpgmimfaaDoor.Rf

namespace Go.Proofs.YtjfbhchpgmimfaaDoor.Ks
open Go.RowKit Kt
set_option linter.unusedVariables false

theorem step_append_own_src {P : Program} {ops : Array Oper} {o : Oper} {a : Act} {w : World} {K : Act → World → Prop} {Q : Exit → Act → World → Prop} {E : Prop}
    (hg : o.guard = none) (s x : Operand) (t tx : TypeId) (hop : o.op = Op.call { callee := Callee.builtin Builtin.append, args := #[s, x], argTypes := #[t, tx] })
    (base : Nat) (e : TypeId) (z : Value) (size bytes : Nat) (ht : P.underlying t = some (.slice e)) (hinfo : (P.info? e).map (fun i => (i.zero, i.size, i.bytes)) = some (some z, size, bytes))
    (hzs : z.cells.size = size) (hsz : 0 < size)
    (v : Value) (n : Nat) (xs : List Value) (hs : a.eval s = v) (hown : w.ownsRow base e size v n xs)
    (xv : Value) (m : Nat) (news : List Value) (hx : a.eval x = xv) (hsrc : Src P size tx xv m news w)
    (h63 : n + m ≤ maxLen) (hbytes : (n + m) * bytes ≤ 140737488355328) (hbase : base ≤ w.heap.size)
    (hK : ∀ v' w', w'.ownsRow base e size v' (n + m) (xs ++ news) → w.grownBy w' v.ownBlock → K (a.put o.dst v') w') :
    if Region.wanted o (yielded ops a.tmps) = true then Oper.wp P o a w K Q else E := by
  obtain ⟨i, hi, hz, hsize, hby⟩ := info_parts hinfo
  have hw : Region.wanted o (yielded ops a.tmps) = true := by simp [Region.wanted, hg]
  rw [if_pos hw]
  obtain ⟨v', w', hr, h2, h3⟩ := run_append_own_src (P := P) w base t tx o.type e i z size bytes ht hi hz hsize hby hzs hsz v n xs hown xv m news hsrc h63 hbytes hbase
  unfold Oper.wp
  simp [execOp, hop, resolve, invoke, builtin, hs, hx, hr, Result.andThen]
  exact hK v' w' h2 h3
/-- A guard: this step is an append of these operands. -/
theorem atApp {P : Program} {ops : Array Oper} {o : Oper} {a : Act} {w : World} {K : Act → World → Prop} {Q : Exit → Act → World → Prop} {E : Prop} (s x : Operand) (t tx : TypeId)
    (hop : o.op = Op.call { callee := Callee.builtin Builtin.append, args := #[s, x], argTypes := #[t, tx] }) (h : if Region.wanted o (yielded ops a.tmps) = true then Oper.wp P o a w K Q else E) :
    if Region.wanted o (yielded ops a.tmps) = true then Oper.wp P o a w K Q else E := h
end Go.Proofs.YtjfbhchpgmimfaaDoor.Ks

namespace Go.Proofs.YtjfbhchpgmimfaaDoor.Cb
open Go.RowKit Kt Cs Cw Cf Cn Cg Ck
set_option linter.unusedVariables false

/-- '(cut % n + n) % n'. -/
theorem mod_name (cut : Int) (n : Nat) (h : 0 < n) : -(n : Int) < cut.tmod (n : Int) ∧ cut.tmod (n : Int) < (n : Int) ∧ ∃ i : Nat, i < n ∧ (cut.tmod (n : Int) + (n : Int)) % (n : Int) = (i : Int) := by
  have t1 : (0 : Int) < (n : Int) := by omega
  refine ⟨Int.lt_tmod_of_pos _ t1, Int.tmod_lt_of_pos _ t1, ((cut.tmod (n : Int) + (n : Int)) % (n : Int)).toNat, ?_, (Int.toNat_of_nonneg (Int.emod_nonneg _ (by omega))).symm⟩
  have := Int.emod_lt_of_pos (cut.tmod (n : Int) + (n : Int)) t1
  have := Int.emod_nonneg (cut.tmod (n : Int) + (n : Int)) (show (n : Int) ≠ 0 by omega)
  omega

theorem U_set (l : List UInt8) (j : Nat) (y : UInt8) : (U l).set j (.int .u8 (y.toNat : Int)) = U (l.set j y) := by simp [U, List.map_set]
end Go.Proofs.YtjfbhchpgmimfaaDoor.Cb

namespace Go.Proofs.YtjfbhchpgmimfaaDoor.Cr
open Go.RowKit Kt Cs Cw Cf Cn Cg Ck Cb
set_option linter.unusedVariables false

set_option maxHeartbeats 1000000 in
set_option maxRecDepth 20000 in
theorem refNext_arg (w : World) (ao : Option Addr) (n cap : Nat) (k : Int) (h : k < 0 ∨ (n : Int) < k) :
    Calls Tryd.prog 73 #[.slice ao n cap, .int .i64 k] w fun e w' => e = .returned (.tuple #[.slice none 0 0, .int .i64 0, .int .i64 2]) ∧ w' = w := by
  by_cases h0 : k < 0
  · have c1 : decide (k < 0) = true := by simpa using h0
    clear h h0
    go_enter Tryd.func73, Tryd.ntmps73
    go_wp2
    go_ret3
    exact ⟨rfl, rfl⟩
  · have c1 : decide (k < 0) = false := by simpa using h0
    have c2 : decide ((n : Int) < k) = true := by simp; omega
    clear h h0
    go_enter Tryd.func73, Tryd.ntmps73
    go_wp2
    go_ret3
    exact ⟨rfl, rfl⟩

set_option maxHeartbeats 1000000 in
set_option maxRecDepth 20000 in
theorem refNext_short (w : World) (ao : Option Addr) (n cap k : Nat) (hn : n ≤ 1000000000) (hk : k ≤ n) (h : n < k + 12) :
    Calls Tryd.prog 73 #[.slice ao n cap, .int .i64 k] w fun e w' => e = .returned (.tuple #[.slice none 0 0, .int .i64 0, .int .i64 4]) ∧ w' = w := by
  have c1 : decide ((k : Int) < 0) = false := by simp
  have c2 : decide ((n : Int) < (k : Int)) = false := by simp; omega
  have c3 : decide ((n : Int) - (k : Int) < 12) = true := by simp; omega
  go_enter Tryd.func73, Tryd.ntmps73
  go_wp2
  go_ret3
  exact ⟨rfl, rfl⟩

/-- The number of the first j bytes. -/
def pw (r : List UInt8) : Nat → Nat
  | 0 => 0
  | j + 1 => pw r j + (r.getD j 0).toNat * 256 ^ j
theorem pw_four (r : List UInt8) : pw r 4 = Cp.word r := by simp [pw, Cp.word]
theorem pw_lt (r : List UInt8) : ∀ j, pw r j < 256 ^ j
  | 0 => by simp [pw]
  | j + 1 => by
    have h1 := pw_lt r j
    have h2 : (r.getD j 0).toNat * 256 ^ j ≤ 255 * 256 ^ j := Nat.mul_le_mul_right _ (by have := Cp.u8_lt (r.getD j 0); omega)
    rw [pw, Nat.pow_succ]; omega
theorem own_below {w w' : World} {base e size n : Nat} {v : Value} {xs : List Value} (h : w.ownsRow base e size v n xs) (hb : Below w.heap.size w w') : w'.ownsRow base e size v n xs := by
  refine ⟨h.1, ?_⟩
  rcases h.2 with h1 | ⟨g, cap, cur, e1, e2, e3, e4⟩
  · exact .inl h1
  · have hlt : g < w.heap.size := (Array.getElem?_eq_some_iff.1 e3).1
    exact .inr ⟨g, cap, cur, e1, e2, by rw [hb.block g hlt]; exact e3, e4⟩
theorem str_ne (a b : List UInt8) : (!(S a).toList == (S b).toList) = decide (a ≠ b) := by
  rw [S_toList, S_toList]
  by_cases h : a = b <;> simp [h]
theorem put_inj {n : Nat} {r : List UInt8} (hn : n < 4294967296) (hr : 4 ≤ r.length) : Cp.put n = r.take 4 ↔ n = Cp.word r := by
  constructor
  · intro h
    have := Cp.word_put' hn
    rw [h, Cp.word_take r 4 (by omega)] at this
    exact this.symm
  · intro h
    obtain ⟨a, b, c, d, t, rfl⟩ := Cp.four hr
    rw [h, Cp.put_word]; rfl

set_option maxHeartbeats 1000000 in
set_option maxRecDepth 20000 in
theorem refNext_any (w : World) (b off d k m : Nat) (r : List UInt8) (hr : Row w (some ⟨b, off + k, none⟩) r) (hrl : r.length = m + 12) (hm : m ≤ 1000000) (hd : m ≤ d) (hcap : d + 12 + k ≤ 9223372036854775807) (hk : k ≤ 1000000000) :
    Calls Tryd.prog 73 #[.slice (some ⟨b, off, none⟩) (m + 12 + k) (d + 12 + k), .int .i64 k] w fun e w' => Below w.heap.size w w' ∧
      (((Cp.fd r).1 ≠ 0 ∧ e = .returned (.tuple #[.slice none 0 0, .int .i64 0, .int .i64 ((Cp.fd r).1 : Nat)])) ∨
       ((Cp.fd r).1 = 0 ∧ ∃ v, e = .returned (.tuple #[v, .int .i64 ((k + 12 + (Cp.fd r).2 : Nat) : Int), .int .i64 0]) ∧ w'.ownsRow w.heap.size 5 1 v (Cp.fd r).2 (U ((r.drop 12).take (Cp.fd r).2)))) := by
  have c1 : decide ((k : Int) < 0) = false := by simp
  have c2 : decide (((m + 12 + k : Nat) : Int) < (k : Int)) = false := by simp; omega
  go_enter Tryd.func73, Tryd.ntmps73
  go_wp2
  go_loop [7, 8, 9] (fun n wt i => ∃ j q t : Nat, j ≤ 4 ∧ i = .int .i64 j ∧ n = .int .i64 q ∧ wt = .int .i64 t ∧ t ≤ 4294967296 ∧ q < t ∧ Hid (t = 256 ^ j ∧ q = pw r j)) (fun _ _ i => 4 - (intOf i).toNat)
  case atStart => exact ⟨0, 0, 1, by omega, rfl, rfl, rfl, by omega, by omega, by simp [Hid, pw]⟩
  case round =>
    obtain ⟨j, q, t, hj, rfl, rfl, rfl, ht, hq, hH⟩ := hrel
    by_cases hj4 : j = 4
    · have t0 : decide ((j : Int) < 4) = false := by simp; omega
      have HZ : Hid (Cp.word r = q) := by
        have := hH.out.2
        rw [hj4, pw_four] at this
        exact this.symm
      have hq32 : q < 4294967296 := by have := Cp.word_lt r; rw [HZ.out] at this; exact this
      clear hH ht hq hj hj4
      have e4 : IntKind.i64.wrap ((k : Int) + 4) = (k : Int) + 4 := by rw [IntKind.wrap_i64]; omega
      have e8 : IntKind.i64.wrap ((k : Int) + 8) = (k : Int) + 8 := by rw [IntKind.wrap_i64]; omega
      have i0 : (0 : Int) ≤ (k : Int) := by omega
      have i1 : (k : Int) + 4 ≤ (d : Int) + 12 + (k : Int) := by omega
      have i2 : (k : Int) ≤ (k : Int) + 4 := by omega
      have i3 : (k : Int) + 8 ≤ (d : Int) + 12 + (k : Int) := by omega
      have i4 : (k : Int) + 4 ≤ (k : Int) + 8 := by omega
      have i5 : (0 : Int) ≤ (k : Int) + 4 := by omega
      obtain ⟨p4, hp4⟩ : ∃ p4, k + 4 = p4 := ⟨_, rfl⟩
      have n1 : ¬ (d + 12 + k = p4) := by omega
      have n2 : ((k : Int) + 4).toNat = p4 := by omega
      have n3 : ((k : Int) + 8).toNat - p4 = 4 := by omega
      have n4 : p4 - k = 4 := by omega
      have n5 : d + 12 + k - p4 = d + 8 := by omega
      have HP4 := mkH hp4
      clear hp4
      obtain ⟨s1, hs1⟩ : ∃ s1, Cp.sum (r.take 4) = s1 := ⟨_, rfl⟩
      have hs1l : s1 < 4294967296 := by rw [← hs1]; exact Cp.sum_lt _
      have HS1 := mkH hs1
      have HR4 : Hid (∀ W, Below w.heap.size w W → (convert 30 9 (.slice (some ⟨b, off + p4, none⟩) 4 (d + 8))).run Tryd.prog W = .ok (.string (S ((r.drop 4).take 4))) W) := by
        intro W hW
        have h1 : Row w (some ⟨b, off + p4, none⟩) ((r.drop 4).take 4) := by
          rw [← HP4.out, ← Nat.add_assoc]; exact Row_take (Row_at hr 4) 4
        have := run_string (P := Tryd.prog) Tryd.underlying30 Tryd.underlying5 Tryd.underlying9 (h1.below hW) (d + 8)
        rw [show ((r.drop 4).take 4).length = 4 by rw [List.length_take, List.length_drop]; omega] at this
        exact this
      have hr4 : Row w (some ⟨b, off + k, none⟩) (r.take 4) := Row_take hr 4
      have hl4 : (r.take 4).length = 4 := by rw [List.length_take]; omega
      have hRS : ∀ W, Below w.heap.size w W → ∀ c, Calls Tryd.prog 82 #[.slice (some ⟨b, off + k, none⟩) 4 c] W fun e w' => e = .returned (.int .u32 (s1 : Nat)) ∧ w' = W := by
        intro W hW c
        have := refSum_any W (some ⟨b, off + k, none⟩) c (r.take 4) (hr4.below hW) (by omega)
        rw [hl4, HS1.out] at this
        exact this
      have HRS := mkH hRS
      clear hs1 hRS hr4 hl4
      go_upto_region 12 with fail
      have hv0 := fun nq => HR4.out (w.drewN nq) (by (repeat (first | exact Below.refl _ _ | exact hu | refine Below.drew ?_ | refine below_drewN ?_ _ | refine Below.alloc ?_ (by simp) _)))
      have hv1 := HR4.out w.drew (by (repeat (first | exact Below.refl _ _ | exact hu | refine Below.drew ?_ | refine below_drewN ?_ _ | refine Below.alloc ?_ (by simp) _)))
      have hv2 := HR4.out w (by (repeat (first | exact Below.refl _ _ | exact hu | refine Below.drew ?_ | refine below_drewN ?_ _ | refine Below.alloc ?_ (by simp) _)))
      go_cut [0, 1, 7, 56] (fun v0 v1 v7 v56 wc => v0 = .slice (some ⟨b, off, none⟩) (m + 12 + k) (d + 12 + k) ∧ v1 = .int .i64 k ∧ v7 = .int .i64 q ∧ v56 = .bool (decide (Cp.put s1 ≠ (r.drop 4).take 4)) ∧ Below w.heap.size w wc)
      case first =>
       go_region_with (first
        | (go_at_call 82; refine (HRS.out _ (by (repeat (first | exact Below.refl _ _ | exact hu | refine Below.drew ?_ | refine below_drewN ?_ _ | refine Below.alloc ?_ (by simp) _))) _).mono ?_; rintro e u1 ⟨rfl, rfl⟩)
        | (go_at_call 81; refine (put_any _ w.heap.size (.slice none 0 0) 0 s1 [] (by simpa [U] using World.ownsRow_nil _ _ _ _) (by simp) (by omega) hs1l).mono ?_; rintro e u2 ⟨v2, rfl, hown2, hu0⟩; rw [List.nil_append] at hown2; have hu : Below w.heap.size w u2 := (by first | exact hu0 | exact Below.trans (by (repeat (first | exact Below.refl _ _ | exact hu | refine Below.drew ?_ | refine below_drewN ?_ _ | refine Below.alloc ?_ (by simp) _))) hu0); obtain ⟨a2, c2, rfl, -, hc2, hr2⟩ := own_row hown2; have hcv := run_string (P := Tryd.prog) Tryd.underlying30 Tryd.underlying5 Tryd.underlying9 hr2 c2; have hv3 := HR4.out u2 hu))
       all_goals
        go_wp2_with fail
        go_meet
        refine ⟨rfl, rfl, rfl, ?_, ?_⟩
        · rw [str_ne]
        · (repeat (first | exact hu | refine Below.drew ?_ | refine below_drewN ?_ _))
      case rest =>
       obtain ⟨hx0, hx1, hx7, hx56, hB⟩ := hcut
       subst hx0 hx1 hx7 hx56
       have hpi := put_inj (r := r.drop 4) hs1l (by rw [List.length_drop]; omega)
       clear hv0 hv1 hv2 HR4 HRS e4 e8 i1 i2 i3 i4 i5 n1 n2 n3 n4 n5 HP4 c1 c2 t0
       by_cases h1 : s1 = Cp.word (r.drop 4)
       · have t1 : decide (Cp.put s1 ≠ (r.drop 4).take 4) = false := by rw [decide_eq_false_iff_not]; exact fun h => h (hpi.2 h1)
         have H1 : Hid (Cp.sum (r.take 4) = Cp.word (r.drop 4)) := by unfold Hid; rw [HS1.out, h1]
         rw [t1]
         clear h1 hpi HS1 t1 hs1l
         by_cases h2 : 65536 < q
         · have t2 : decide ((65536 : Int) < (q : Int)) = true := by simp; omega
           have HE : Hid (Cp.fd r = (3, 0)) := by unfold Hid; exact Cp.fd_long (by omega) H1.out (by rw [HZ.out]; exact h2)
           clear hr HZ H1
           go_wp2
           go_ret3
           exact ⟨hB, .inl (by rw [HE.out]; exact ⟨by simp, rfl⟩)⟩
         · have t2 : decide ((65536 : Int) < (q : Int)) = false := by simp; omega
           have hq2 : (q : Int) ≤ 65536 := by omega
           by_cases h3 : m < q
           · have t3 : (m : Int) < (q : Int) := by omega
             have HE : Hid (Cp.fd r = (4, 0)) := by unfold Hid; exact Cp.fd_cut (by omega) H1.out (by rw [HZ.out]; omega) (by rw [HZ.out]; omega)
             clear hr HZ H1
             go_wp2
             go_ret3
             exact ⟨hB, .inl (by rw [HE.out]; exact ⟨by simp, rfl⟩)⟩
           · have t3 : (q : Int) ≤ (m : Int) := by omega
             have t4 : (q : Int) ≤ (d : Int) := by omega
             obtain ⟨p12, hp12⟩ : ∃ p12, k + 12 = p12 := ⟨_, rfl⟩
             have n1 : ((k : Int) + 12).toNat = p12 := by omega
             have n2 : ((k : Int) + 12 + (q : Int)).toNat - p12 = q := by omega
             have n3 : d + 12 + k - p12 = d := by omega
             have i1 : (0 : Int) ≤ (k : Int) + 12 := by omega
             have i2 : (k : Int) + 12 ≤ (k : Int) + 12 + (q : Int) := by omega
             have i3 : (k : Int) + 12 + (q : Int) ≤ (d : Int) + 12 + (k : Int) := by omega
             obtain ⟨aq, haq⟩ : ∃ aq, (if d + 12 + k = p12 then some (⟨b, off, none⟩ : Addr) else some ⟨b, off + p12, none⟩) = aq := ⟨_, rfl⟩
             have hbody : Row w aq ((r.drop 12).take q) := by
               rcases Nat.eq_zero_or_pos d with h0 | h0
               · have e0 : q = 0 := by omega
                 rw [e0, List.take_zero]; exact Row.nil _ _
               · rw [← haq, if_neg (by omega), ← hp12, ← Nat.add_assoc]
                 exact Row_take (Row_at hr 12) q
             have hbl : ((r.drop 12).take q).length = q := by rw [List.length_take, List.length_drop]; omega
             obtain ⟨body, hbd⟩ : ∃ body, (r.drop 12).take q = body := ⟨_, rfl⟩
             rw [hbd] at hbody hbl
             have HP12 := mkH hp12
             have HBD := mkH hbd
             have HBL := mkH hbl
             clear hp12 hbd hbl
             have hsrc := Row.src (P := Tryd.prog) Tryd.underlying30 ((hbody.below hB).below ((Below.refl wc.heap.size wc).alloc (Nat.le_refl _) (.cells #[] 5))) d
             rw [HBL.out] at hsrc
             go_wp2_with (at_builtin; refine (wpList_append_own_src _ rfl (.tmp 66) (.tmp 74) 30 30 rfl w.heap.size 5 (.int .u8 0) 1 1 Tryd.underlying30 info5 rfl (by decide) _ 0 [] rfl (World.ownsRow_made wc #[] 0 hB.size (Nat.zero_le _) rfl) _ q (U body) rfl hsrc ?h63 ?hby ?hbs ?_))
             case h63 => unfold maxLen; omega
             case hby => omega
             case hbs => have := hB.size; simp; omega
             intro v5 w5 hown5 hgrow5
             have hB5 := below_own (World.ownsRow_made (e := 5) (size := 1) wc #[] 0 hB.size (Nat.zero_le _) rfl) hgrow5 (hB.alloc hB.size (.cells #[] 5)) (by have := hB.size; simp; omega)
             have hown5 : w5.ownsRow w.heap.size 5 1 v5 q (U body) := by simpa using hown5
             clear hgrow5 hsrc hB hbody haq
             obtain ⟨a5, c5, rfl⟩ := own_form hown5
             obtain ⟨-, hc5, hr5⟩ := Row.own hown5
             have e8 : IntKind.i64.wrap ((k : Int) + 8) = (k : Int) + 8 := by rw [IntKind.wrap_i64]; omega
             have e12 : IntKind.i64.wrap ((k : Int) + 12) = (k : Int) + 12 := by rw [IntKind.wrap_i64]; omega
             obtain ⟨p8, hp8⟩ : ∃ p8, k + 8 = p8 := ⟨_, rfl⟩
             have j1 : (0 : Int) ≤ (k : Int) + 8 := by omega
             have j2 : (k : Int) + 8 ≤ (k : Int) + 12 := by omega
             have j3 : (k : Int) + 12 ≤ (d : Int) + 12 + (k : Int) := by omega
             have j4 : ¬ (d + 12 + k = p8) := by omega
             have j5 : ((k : Int) + 8).toNat = p8 := by omega
             have j6 : p12 - p8 = 4 := by have := HP12.out; omega
             have j7 : d + 12 + k - p8 = d + 4 := by omega
             have HP8 := mkH hp8
             obtain ⟨s2, hs2⟩ : ∃ s2, Cp.sum body = s2 := ⟨_, rfl⟩
             have hs2l : s2 < 4294967296 := by rw [← hs2]; exact Cp.sum_lt _
             have HS2 := mkH hs2
             have hr8 : Row w5 (some ⟨b, off + p8, none⟩) ((r.drop 8).take 4) := by
               rw [← HP8.out, ← Nat.add_assoc]; exact Row_take (Row_at (hr.below hB5) 8) 4
             have HR8 : Hid (∀ W, Below w5.heap.size w5 W → (convert 30 9 (.slice (some ⟨b, off + p8, none⟩) 4 (d + 4))).run Tryd.prog W = .ok (.string (S ((r.drop 8).take 4))) W) := by
               intro W hW
               have := run_string (P := Tryd.prog) Tryd.underlying30 Tryd.underlying5 Tryd.underlying9 (hr8.below hW) (d + 4)
               rw [show ((r.drop 8).take 4).length = 4 by rw [List.length_take, List.length_drop]; omega] at this
               exact this
             have HRS : Hid (∀ W, Below w5.heap.size w5 W → Calls Tryd.prog 82 #[.slice a5 q c5] W fun e w' => e = .returned (.int .u32 (s2 : Nat)) ∧ w' = W) := by
               intro W hW
               have := refSum_any W a5 c5 body (hr5.below hW) (by rw [HBL.out]; omega)
               rw [HBL.out, HS2.out] at this
               exact this
             clear hp8 hs2 hr5 hr8
             have hv0 := fun nq => HR8.out (w5.drewN nq) (by (repeat (first | exact Below.refl _ _ | exact hu | refine Below.drew ?_ | refine below_drewN ?_ _ | refine Below.alloc ?_ (by simp) _)))
             have hv1 := HR8.out w5.drew (by (repeat (first | exact Below.refl _ _ | exact hu | refine Below.drew ?_ | refine below_drewN ?_ _ | refine Below.alloc ?_ (by simp) _)))
             have hv2 := HR8.out w5 (by (repeat (first | exact Below.refl _ _ | exact hu | refine Below.drew ?_ | refine below_drewN ?_ _ | refine Below.alloc ?_ (by simp) _)))
             go_upto_region 19 with fail
             go_cut [1, 7, 10, 87] (fun v1 v7 v10 v87 wd => v1 = .int .i64 k ∧ v7 = .int .i64 q ∧ v10 = .slice a5 q c5 ∧ v87 = .bool (decide (Cp.put s2 ≠ (r.drop 8).take 4)) ∧ Below w5.heap.size w5 wd)
             case first =>
               go_region_with (first
                 | (go_at_call 82; refine (HRS.out _ (by (repeat (first | exact Below.refl _ _ | exact hu | refine Below.drew ?_ | refine below_drewN ?_ _ | refine Below.alloc ?_ (by simp) _)))).mono ?_; rintro e u1 ⟨rfl, rfl⟩)
                 | (go_at_call 81; refine (put_any _ w5.heap.size (.slice none 0 0) 0 s2 [] (by simpa [U] using World.ownsRow_nil _ _ _ _) (by simp) (by omega) hs2l).mono ?_; rintro e u2 ⟨v2, rfl, hown2, hu0⟩; rw [List.nil_append] at hown2; have hu : Below w5.heap.size w5 u2 := (by first | exact hu0 | exact Below.trans (by (repeat (first | exact Below.refl _ _ | exact hu | refine Below.drew ?_ | refine below_drewN ?_ _ | refine Below.alloc ?_ (by simp) _))) hu0); obtain ⟨a2, c2, rfl, -, hc2, hr2⟩ := own_row hown2; have hcv := run_string (P := Tryd.prog) Tryd.underlying30 Tryd.underlying5 Tryd.underlying9 hr2 c2; have hv3 := HR8.out u2 hu))
               all_goals
                 go_wp2_with fail
                 go_meet
                 refine ⟨rfl, rfl, rfl, ?_, ?_⟩
                 · rw [str_ne]
                 · (repeat (first | exact hu | refine Below.drew ?_ | refine below_drewN ?_ _))
             case rest =>
               obtain ⟨hx1, hx7, hx10, hx87, hBd⟩ := hcut
               subst hx1 hx7 hx10 hx87
               have hpi := put_inj (r := r.drop 8) hs2l (by rw [List.length_drop]; omega)
               have hfin := hB5.trans (hBd.mono hB5.size)
               have hown6 := own_below hown5 hBd
               clear hv0 hv1 hv2 HR8 HRS e8 e12 j1 j2 j3 j4 j5 j6 j7 n1 n2 n3 i1 i2 i3 HP8 HP12 hown5 hBd hB5
               by_cases h4 : s2 = Cp.word (r.drop 8)
               · have t5 : decide (Cp.put s2 ≠ (r.drop 8).take 4) = false := by rw [decide_eq_false_iff_not]; exact fun h => h (hpi.2 h4)
                 have HE : Hid (Cp.fd r = (0, q)) := by
                   unfold Hid
                   rw [Cp.fd_ok (by omega) H1.out (by rw [HZ.out]; omega) (by rw [HZ.out]; omega) (by rw [HZ.out, HBD.out, HS2.out]; exact h4), HZ.out]
                 rw [t5]
                 clear hr HZ H1 HS2 h4 hpi t5
                 go_wp2
                 go_ret3
                 refine ⟨hfin, .inr ?_⟩
                 rw [HE.out]
                 have hsum : (k : Int) + 12 + (q : Int) = ((k + 12 + q : Nat) : Int) := by omega
                 refine ⟨rfl, _, by rw [← hsum]; rfl, ?_⟩
                 simp only [HBD.out]
                 exact hown6
               · have t5 : decide (Cp.put s2 ≠ (r.drop 8).take 4) = true := by rw [decide_eq_true_eq]; exact fun h => h4 (hpi.1 h)
                 have HE : Hid (Cp.fd r = (6, 0)) := by
                   unfold Hid
                   exact Cp.fd_sum2 (by omega) H1.out (by rw [HZ.out]; omega) (by rw [HZ.out]; omega) (by rw [HZ.out, HBD.out, HS2.out]; exact h4)
                 rw [t5]
                 clear hr HZ H1 HS2 h4 hpi t5
                 go_wp2
                 go_ret3
                 exact ⟨hfin, .inl (by rw [HE.out]; exact ⟨by simp, rfl⟩)⟩
       · have t1 : decide (Cp.put s1 ≠ (r.drop 4).take 4) = true := by rw [decide_eq_true_eq]; exact fun h => h1 (hpi.1 h)
         have HE : Hid (Cp.fd r = (6, 0)) := by unfold Hid; exact Cp.fd_sum1 (by omega) (by rw [HS1.out]; exact h1)
         rw [t1]
         clear hr HS1 h1 hpi t1
         go_wp2
         go_ret3
         exact ⟨hB, .inl (by rw [HE.out]; exact ⟨by simp, rfl⟩)⟩
    · have hj3 : j < 4 := by omega
      have t0 : decide ((j : Int) < 4) = true := by simp; omega
      obtain ⟨b', off', e, hc⟩ := hr (by omega)
      cases e
      obtain ⟨c, hcc⟩ : ∃ c, (r.getD j 0).toNat = c := ⟨_, rfl⟩
      have hcell : w.cell? ⟨b, off + (k + j), none⟩ = some (.int .u8 (c : Int)) := by rw [← Nat.add_assoc, hc j (by omega), hcc]
      have hc256 : c < 256 := by rw [← hcc]; exact Cp.u8_lt _
      have h256 : 256 ^ (j + 1) ≤ 256 ^ 4 := Nat.pow_le_pow_right (by omega) (by omega)
      have h1 : t * 256 ≤ 4294967296 := by rw [hH.out.1, ← Nat.pow_succ]; exact h256
      obtain ⟨ct, hct⟩ : ∃ ct, c * t = ct := ⟨_, rfl⟩
      have hctl : ct ≤ 255 * t := by rw [← hct]; exact Nat.mul_le_mul_right _ (by omega)
      have ect : (c : Int) * (t : Int) = (ct : Int) := by rw [← hct]; push_cast; rfl
      have HH : Hid (t * 256 = 256 ^ (j + 1) ∧ q + ct = pw r (j + 1)) := by
        unfold Hid
        refine ⟨by rw [hH.out.1, Nat.pow_succ], ?_⟩
        rw [pw, ← hct, ← hcc, ← hH.out.1, ← hH.out.2]
      clear hc hcc hH hct h256
      go_wp2
      go_round
      case rel => exact ⟨j + 1, q + ct, t * 256, by omega, by go_num, by go_num, by go_num, by omega, by omega, HH⟩
      case measure => simp [intOf]; omega
end Go.Proofs.YtjfbhchpgmimfaaDoor.Cr

namespace Go.Proofs.YtjfbhchpgmimfaaDoor.Cr
open Go.RowKit Kt Cs Cw Cf Cn Cg Ck Cb
set_option linter.unusedVariables false

theorem refNext_all (w : World) (ao : Option Addr) (cap k : Nat) (bs : List UInt8) (hr : Row w ao bs) (hl : bs.length ≤ 1000000) (hc : bs.length ≤ cap) (hcap : cap ≤ 9223372036854775807) (hk : k ≤ bs.length) :
    Calls Tryd.prog 73 #[.slice ao bs.length cap, .int .i64 k] w fun e w' => Below w.heap.size w w' ∧
      (((Cp.fd (bs.drop k)).1 ≠ 0 ∧ e = .returned (.tuple #[.slice none 0 0, .int .i64 0, .int .i64 ((Cp.fd (bs.drop k)).1 : Nat)])) ∨
       ((Cp.fd (bs.drop k)).1 = 0 ∧ ∃ v, e = .returned (.tuple #[v, .int .i64 ((k + 12 + (Cp.fd (bs.drop k)).2 : Nat) : Int), .int .i64 0]) ∧ w'.ownsRow w.heap.size 5 1 v (Cp.fd (bs.drop k)).2 (U ((bs.drop (k + 12)).take (Cp.fd (bs.drop k)).2)))) := by
  by_cases h : bs.length < k + 12
  · have e : Cp.fd (bs.drop k) = (4, 0) := Cp.fd_short (by rw [List.length_drop]; omega)
    refine (refNext_short w ao bs.length cap k (by omega) hk h).mono ?_
    rintro e w1 ⟨rfl, rfl⟩
    rw [e]
    exact ⟨Below.refl _ _, .inl ⟨by simp, rfl⟩⟩
  · obtain ⟨b, off, rfl, _⟩ := hr (by omega)
    have hf := refNext_any w b off (cap - 12 - k) k (bs.length - 12 - k) (bs.drop k) (Row_at hr k) (by rw [List.length_drop]; omega) (by omega) (by omega) (by omega) (by omega)
    rw [show bs.length - 12 - k + 12 + k = bs.length by omega, show cap - 12 - k + 12 + k = cap by omega, List.drop_drop] at hf
    exact hf

theorem fd_nil : Cp.fd [] = (4, 0) := Cp.fd_short (by simp)
end Go.Proofs.YtjfbhchpgmimfaaDoor.Cr

namespace Go.Proofs.YtjfbhchpgmimfaaDoor.Df
open Go.RowKit Kt Dk Dp Da Db Dc Dd De
set_option linter.unusedVariables false
set_option maxRecDepth 20000

/-- Block D is a disk, apart from the blocks of G, which are as they were in w1. -/
def Dn (w1 : World) (G : Nat → Prop) (w : World) (D : Nat) (s : St) : Prop :=
  (∃ F, Ds w F D s ∧ ∀ k, F k → ¬ G k) ∧ Fr (fun k => ¬ G k) w1 w ∧ ∀ k, G k → k < w1.heap.size
theorem Dn.step {w1 : World} {G : Nat → Prop} {w w' : World} {D : Nat} {s s' : St} {F F' : Nat → Prop} (h : Dn w1 G w D s) (hF : ∀ k, F k → ¬ G k) (h' : Ds w' F' D s') (hn : Nx F w w' F') : Dn w1 G w' D s' := by
  obtain ⟨-, hf, hg⟩ := h
  refine ⟨⟨F', h', fun k hk hG => ?_⟩, ?_, hg⟩
  · rcases hn.2 k hk with x | x
    · exact hF k x hG
    · have := hg k hG; have := hf.size; omega
  · exact hf.trans hn.1 (fun i hi => .inl (hF i hi))
theorem Dn.below {w1 : World} {G : Nat → Prop} {w w' : World} {D : Nat} {s : St} (h : Dn w1 G w D s) (hb : Below w.heap.size w w') : Dn w1 G w' D s := by
  obtain ⟨⟨F, h1, h2⟩, hf, hg⟩ := h
  exact ⟨⟨F, h1.below hb, h2⟩, hf.trans (Fr.ofBelow (F := fun _ => False) hb) (fun _ x => x.elim), hg⟩
theorem Dn.row {w1 : World} {G : Nat → Prop} {w : World} {D : Nat} {s : St} (h : Dn w1 G w D s) {ao : Option Addr} {bs : List UInt8} (hr : Row w1 ao bs) (hG : ∀ b off, ao = some ⟨b, off, none⟩ → b < w1.heap.size → G b) : Row w ao bs := by
  intro h0
  obtain ⟨b, off, e, hc⟩ := hr h0
  refine ⟨b, off, e, fun i hi => ?_⟩
  have hl := World.block_lt_of_cell? w1 _ (hc i hi)
  rw [← hc i hi]
  exact World.cell?_of_block (w := w1) (h.2.1.heap (k := b) hl (fun x => x (hG b off e hl)))
theorem Dn.size {w1 : World} {G : Nat → Prop} {w : World} {D : Nat} {s : St} (h : Dn w1 G w D s) : w1.heap.size ≤ w.heap.size := h.2.1.size
theorem Dn.toBelow {w1 : World} {G : Nat → Prop} {w : World} {D : Nat} {s : St} (h : Dn w1 G w D s) {B : Nat} (hB : ∀ k, k < B → G k) : Below B w1 w := by
  obtain ⟨-, hf, hg⟩ := h
  exact ⟨hf.os, hf.tape, hf.output, hf.size, fun k hk => hf.block k (hg k (hB k hk)) (fun x => x (hB k hk))⟩
theorem Dn.len {w1 : World} {G : Nat → Prop} {w : World} {D : Nat} {s : St} (h : Dn w1 G w D s) : s.kept.length + s.rest.length ≤ 4194304 := by obtain ⟨⟨F, h, -⟩, -⟩ := h; exact h.len
/-- What a call handed back is protected from now on. -/
theorem Dn.more {w1 : World} {G : Nat → Prop} {w w' : World} {D : Nat} {s : St} (h : Dn w1 G w D s) (hb : Below w.heap.size w w') : Dn w' (fun k => G k ∨ (w.heap.size ≤ k ∧ k < w'.heap.size)) w' D s := by
  obtain ⟨⟨F, h1, h2⟩, hf, hg⟩ := h
  refine ⟨⟨F, h1.below hb, fun k hk hG => ?_⟩, Fr.refl _ _, fun k hk => ?_⟩
  · rcases hG with x | x
    · exact h2 k hk x
    · have := h1.lt k hk; omega
  · rcases hk with x | x
    · have := hg k x; have := hf.size; have := hb.size; omega
    · exact x.2
theorem Dn.new {w1 w' : World} {G : Nat → Prop} {D : Nat} {s : St} {F : Nat → Prop} (hf : Fr (fun k => ¬ G k) w1 w') (hg : ∀ k, G k → k < w1.heap.size) (h : Ds w' F D s) (hF : ∀ k, F k → w1.heap.size ≤ k) : Dn w1 G w' D s :=
  ⟨⟨F, h, fun k hk hG => by have := hF k hk; have := hg k hG; omega⟩, hf, hg⟩

section
variable {w1 : World} {G : Nat → Prop} {w : World} {D : Nat} {s : St}
theorem append_dn (h : Dn w1 G w D s) (ao : Option Addr) (cap : Nat) (bs : List UInt8) (hr : Row w ao bs) (hl : bs.length ≤ 9223372036854775807) :
    Calls Tryd.prog 57 #[.pointer (some ⟨D, 0, none⟩), .slice ao bs.length cap] w fun e w' => e = .returned (.int .i64 (appE s bs.length)) ∧ Dn w1 G w' D (appS s bs) := by
  obtain ⟨F, hd, hF⟩ := h.1
  refine (append_any hd ao cap bs hr hl).mono ?_
  rintro e w' ⟨he, F', h', hn⟩
  exact ⟨he, h.step hF h' hn⟩

theorem sync_dn (h : Dn w1 G w D s) :
    Calls Tryd.prog 51 #[.pointer (some ⟨D, 0, none⟩)] w fun e w' => e = .returned (.int .i64 (synE s)) ∧ Dn w1 G w' D (synS s) := by
  obtain ⟨F, hd, hF⟩ := h.1
  refine (sync_any hd).mono ?_
  rintro e w' ⟨he, h', hn⟩
  exact ⟨he, h.step hF h' hn⟩

theorem cut_dn (h : Dn w1 G w D s) (n : Int) :
    Calls Tryd.prog 79 #[.pointer (some ⟨D, 0, none⟩), .int .i64 n] w fun e w' => e = .returned (.int .i64 (cutE s n)) ∧ Dn w1 G w' D (cutS s n) := by
  obtain ⟨F, hd, hF⟩ := h.1
  refine (cut_any hd n).mono ?_
  rintro e w' ⟨he, h', hn⟩
  exact ⟨he, h.step hF h' hn⟩

theorem crash_dn (h : Dn w1 G w D s) (k f : Int) (hf : f ≤ 9223372036854775807) :
    Calls Tryd.prog 37 #[.pointer (some ⟨D, 0, none⟩), .int .i64 k, .int .i64 f] w fun e w' => e = .returned (.int .i64 (crsE s k)) ∧ Dn w1 G w' D (crsS s k f) := by
  obtain ⟨F, hd, hF⟩ := h.1
  refine (crash_any hd k f hf).mono ?_
  rintro e w' ⟨he, h', hn⟩
  exact ⟨he, h.step hF h' hn⟩

theorem restart_dn (h : Dn w1 G w D s) :
    Calls Tryd.prog 53 #[.pointer (some ⟨D, 0, none⟩)] w fun e w' => e = .returned (.int .i64 (rstE s)) ∧ Dn w1 G w' D (rstS s) := by
  obtain ⟨F, hd, hF⟩ := h.1
  refine (restart_any hd).mono ?_
  rintro e w' ⟨he, h', hn⟩
  exact ⟨he, h.step hF h' hn⟩

theorem read_dn (h : Dn w1 G w D s) :
    Calls Tryd.prog 76 #[.pointer (some ⟨D, 0, none⟩)] w fun e w' => ∃ v, e = .returned (.tuple #[v, .int .i64 (redE s)]) ∧ New w w' v (redB s) ∧ Below w.heap.size w w' ∧ Dn w1 G w' D s := by
  obtain ⟨F, hd, hF⟩ := h.1
  refine (read_any hd).mono ?_
  rintro e w' ⟨v, he, hn, hb⟩
  exact ⟨v, he, hn, hb, h.below hb⟩

theorem kept_dn (h : Dn w1 G w D s) :
    Calls Tryd.prog 26 #[.pointer (some ⟨D, 0, none⟩)] w fun e w' => ∃ v, e = .returned v ∧ New w w' v s.kept ∧ Below w.heap.size w w' ∧ Dn w1 G w' D s := by
  obtain ⟨F, hd, hF⟩ := h.1
  refine (kept_any hd).mono ?_
  rintro e w' ⟨v, he, hn, hb⟩
  exact ⟨v, he, hn, hb, h.below hb⟩

theorem size_dn (h : Dn w1 G w D s) : Calls Tryd.prog 27 #[.pointer (some ⟨D, 0, none⟩)] w fun e w' => e = .returned (.int .i64 ((s.kept.length + s.rest.length : Nat) : Int)) ∧ w' = w := by
  obtain ⟨F, hd, hF⟩ := h.1
  exact size_any hd
end

theorem new_dn (w : World) : Calls Tryd.prog 59 #[] w fun e w' => e = .returned (.pointer (some ⟨w.heap.size, 0, none⟩)) ∧ Dn w (fun k => k < w.heap.size) w' w.heap.size Dp.new := by
  refine (new_any w).mono ?_
  rintro e w' ⟨he, h, hb⟩
  exact ⟨he, Dn.new (Fr.ofBelow hb) (fun _ h => h) h (fun k hk => by omega)⟩

/-- Bytes that were just laid. -/
theorem row_new (w : World) (bs : List UInt8) (C : Array Value) (hC : C = (U bs).toArray) (T : TypeId) (fr : Nat × Nat) : Row (w.alloc (.cells C T fr)) (some ⟨w.heap.size, 0, none⟩) bs := by
  intro h0
  refine ⟨_, 0, rfl, fun i hi => ?_⟩
  rw [Nat.zero_add, cell_of_row _ _ _ _ _ _ (heap_alloc_new w (.cells C T fr)), hC]
  simpa using U_at bs i hi
theorem below_alloc (w : World) (o : Obj) : Below w.heap.size w (w.alloc o) := (Below.refl _ w).alloc (Nat.le_refl _) o
end Go.Proofs.YtjfbhchpgmimfaaDoor.Df

namespace Go.Proofs.YtjfbhchpgmimfaaDoor.Dg
open Go.RowKit Kt Dk Dp Da Db Dc Dd De Df
set_option linter.unusedVariables false
set_option maxRecDepth 20000

/-- A call, as it came in. -/
structure Ac where
  kind : Int
  n : Int
  flip : Int
  ao : Option Addr
  cap : Nat
  b : List UInt8
def aC (x : Ac) : List Value := [.int .i64 x.kind, .int .i64 x.n, .int .i64 x.flip, .slice x.ao x.b.length x.cap]
theorem aC_len (x : Ac) : (aC x).length = 4 := rfl
def AcOk (w : World) (x : Ac) : Prop := Row w x.ao x.b ∧ x.b.length ≤ x.cap ∧ x.cap ≤ 9223372036854775807 ∧ x.flip ≤ 9223372036854775807
/-- A slice of calls, as it is read. -/
def RowA (w : World) (ao : Option Addr) (l : List Ac) : Prop :=
  (∀ x ∈ l, AcOk w x) ∧ (0 < l.length → ∃ b off, ao = some ⟨b, off, none⟩ ∧ ∀ i x, l[i]? = some x → ∀ j v, (aC x)[j]? = some v → w.cell? ⟨b, off + i * 4 + j, none⟩ = some v)
theorem AcOk.below {w w' : World} {x : Ac} (h : AcOk w x) (hb : Below w.heap.size w w') : AcOk w' x := ⟨h.1.below hb, h.2⟩
theorem RowA.below {w w' : World} {ao : Option Addr} {l : List Ac} (h : RowA w ao l) (hb : Below w.heap.size w w') : RowA w' ao l := by
  refine ⟨fun x hx => (h.1 x hx).below hb, fun hl => ?_⟩
  obtain ⟨b, off, e, hc⟩ := h.2 hl
  refine ⟨b, off, e, fun i x hx j v hv => ?_⟩
  have h1 := hc i x hx j v hv
  rw [hb.cell (p := ⟨b, off + i * 4 + j, none⟩) (World.block_lt_of_cell? w _ h1)]
  exact h1
theorem Row_take {w : World} {ao : Option Addr} {bs : List UInt8} (h : Row w ao bs) (k : Nat) : Row w ao (bs.take k) := by
  intro hl
  rw [List.length_take] at hl
  obtain ⟨b, off, e, hc⟩ := h (by omega)
  refine ⟨b, off, e, fun i hi => ?_⟩
  rw [List.length_take] at hi
  rw [hc i (by omega)]
  simp [show i < k by omega]
/-- 'x.b[:min(len(x.b), n)]'. -/
theorem min_len (bs : List UInt8) (n : Nat) : ∃ m : Nat, (bs.take n).length = m ∧ (if (n : Int) < (bs.length : Int) then (n : Int) else (bs.length : Int)) = (m : Int) ∧ m ≤ n ∧ m ≤ bs.length := by
  by_cases h : n < bs.length
  · exact ⟨n, by rw [List.length_take]; omega, by rw [if_pos (by omega)], by omega, by omega⟩
  · exact ⟨bs.length, by rw [List.length_take]; omega, by rw [if_neg (by omega)], by omega, by omega⟩

/-- The call at a place of such a slice. -/
theorem RowA.at {w : World} {ao : Option Addr} {l : List Ac} (h : RowA w ao l) (i : Nat) (hi : i < l.length) : ∃ b off x, ao = some ⟨b, off, none⟩ ∧ AcOk w x ∧
    w.cell? ⟨b, off + i * 4, none⟩ = some (.int .i64 x.kind) ∧ w.cell? ⟨b, off + i * 4 + 1, none⟩ = some (.int .i64 x.n) ∧ w.cell? ⟨b, off + i * 4 + 2, none⟩ = some (.int .i64 x.flip) ∧ w.cell? ⟨b, off + i * 4 + 3, none⟩ = some (.slice x.ao x.b.length x.cap) := by
  obtain ⟨b, off, e, hc⟩ := h.2 (by omega)
  have hx : l[i]? = some l[i] := List.getElem?_eq_getElem hi
  exact ⟨b, off, l[i], e, h.1 _ (List.getElem_mem hi), hc i _ hx 0 _ rfl, hc i _ hx 1 _ rfl, hc i _ hx 2 _ rfl, hc i _ hx 3 _ rfl⟩
end Go.Proofs.YtjfbhchpgmimfaaDoor.Dg

namespace Go.Proofs.YtjfbhchpgmimfaaDoor.Dst
open Go.RowKit Kt Dk Dp Da Db Dc Dd De Df Dg
set_option linter.unusedVariables false

theorem strW {ao : Option Addr} {bs : List UInt8} {w : World} (h : Row w ao bs) (c : Nat) : ∀ n, (convert 30 9 (.slice ao bs.length c)).run Tryd.prog (w.drewN n) = .ok (.string (S bs)) (w.drewN n) := fun n =>
  run_string (P := Tryd.prog) (w := w.drewN n) Tryd.underlying30 Tryd.underlying5 Tryd.underlying9 h c
theorem strD {ao : Option Addr} {bs : List UInt8} {w : World} (h : Row w ao bs) (c : Nat) : (convert 30 9 (.slice ao bs.length c)).run Tryd.prog w.drew = .ok (.string (S bs)) w.drew :=
  run_string (P := Tryd.prog) (w := w.drew) Tryd.underlying30 Tryd.underlying5 Tryd.underlying9 h c
theorem strW0 {ao : Option Addr} {bs : List UInt8} {w : World} (h : Row w ao bs) (c : Nat) : (convert 30 9 (.slice ao bs.length c)).run Tryd.prog w = .ok (.string (S bs)) w := strW h c 0
end Go.Proofs.YtjfbhchpgmimfaaDoor.Dst

namespace Go.Proofs.YtjfbhchpgmimfaaDoor.Dr
open Go.RowKit Kt Dk Dp Da Db Dc Dd De Df Dg Dst
set_option linter.unusedVariables false
set_option maxRecDepth 20000

/-- Bytes in memory of F, but not in block R. -/
def Rd (w : World) (F : Nat → Prop) (R : Nat) (ao : Option Addr) (cap : Nat) (bs : List UInt8) : Prop := Row w ao bs ∧ bs.length ≤ cap ∧ cap ≤ 9223372036854775807 ∧ ∀ b off, ao = some ⟨b, off, none⟩ → 0 < bs.length → F b ∧ b ≠ R
theorem Rd.kept {w w' : World} {F : Nat → Prop} {R : Nat} {ao : Option Addr} {cap : Nat} {bs : List UInt8} (h : Rd w F R ao cap bs) (hk : ∀ k, F k → k ≠ R → w'.heap[k]? = w.heap[k]?) : Rd w' F R ao cap bs := by
  refine ⟨fun h0 => ?_, h.2⟩
  obtain ⟨b, off, e, hc⟩ := h.1 h0
  obtain ⟨f1, f2⟩ := h.2.2.2 b off e h0
  refine ⟨b, off, e, fun i hi => ?_⟩
  rw [← hc i hi]
  exact World.cell?_of_block (w := w) (hk b f1 f2)
theorem Rd.mono {w : World} {F G : Nat → Prop} {R : Nat} {ao : Option Addr} {cap : Nat} {bs : List UInt8} (h : Rd w F R ao cap bs) (hi : ∀ k, F k → G k) : Rd w G R ao cap bs :=
  ⟨h.1, h.2.1, h.2.2.1, fun b off e h0 => ⟨hi b (h.2.2.2 b off e h0).1, (h.2.2.2 b off e h0).2⟩⟩
theorem Rd.nil (w : World) (F : Nat → Prop) (R : Nat) : Rd w F R none 0 [] := ⟨Row.nil _ _, Nat.le_refl _, by omega, fun b off e => by cases e⟩
theorem Rd.take {w : World} {F : Nat → Prop} {R : Nat} {ao : Option Addr} {cap : Nat} {bs : List UInt8} (h : Rd w F R ao cap bs) (n : Nat) : Rd w F R ao cap (bs.take n) :=
  ⟨Row_take h.1 n, by have := h.2.1; rw [List.length_take]; omega, h.2.2.1, fun b off e h0 => h.2.2.2 b off e (by rw [List.length_take] at h0; omega)⟩

/-- Block R is the document's disk, its slices 'ka', 'ra'. -/
structure Rw (w : World) (F : Nat → Prop) (R : Nat) (down : Bool) (kept rest : List UInt8) (ka : Option Addr) (kc : Nat) (ra : Option Addr) (rc : Nat) : Prop where
  lt : ∀ k, F k → k < w.heap.size
  own : F R
  heap : w.heap[R]? = some (.cells #[.slice ka kept.length kc, .slice ra rest.length rc, .bool down] 53 (0, 0))
  k : Rd w F R ka kc kept
  r : Rd w F R ra rc rest
section
variable {w : World} {F : Nat → Prop} {R : Nat} {down : Bool} {kept rest : List UInt8} {ka : Option Addr} {kc : Nat} {ra : Option Addr} {rc : Nat}
theorem Rw.c0 (h : Rw w F R down kept rest ka kc ra rc) : w.cell? ⟨R, 0, none⟩ = some (.slice ka kept.length kc) := by rw [cell_of_row _ _ _ _ _ _ h.heap]; rfl
theorem Rw.c1 (h : Rw w F R down kept rest ka kc ra rc) : w.cell? ⟨R, 1, none⟩ = some (.slice ra rest.length rc) := by rw [cell_of_row _ _ _ _ _ _ h.heap]; rfl
theorem Rw.c2 (h : Rw w F R down kept rest ka kc ra rc) : w.cell? ⟨R, 2, none⟩ = some (.bool down) := by rw [cell_of_row _ _ _ _ _ _ h.heap]; rfl
theorem Rw.fz (h : Rw w F R down kept rest ka kc ra rc) (i : Nat) : w.frozen? ⟨R, i, none⟩ = false := frozen_of_row w R i _ _ h.heap
theorem Rw.dlt (h : Rw w F R down kept rest ka kc ra rc) : R < w.heap.size := block_lt h.heap
theorem Rw.keep {w' : World} (h : Rw w F R down kept rest ka kc ra rc) (hs : w.heap.size ≤ w'.heap.size) (hk : ∀ k, F k → w'.heap[k]? = w.heap[k]?) : Rw w' F R down kept rest ka kc ra rc :=
  ⟨fun k hf => Nat.lt_of_lt_of_le (h.lt k hf) hs, h.own, by rw [hk R h.own]; exact h.heap, h.k.kept (fun k hf _ => hk k hf), h.r.kept (fun k hf _ => hk k hf)⟩
theorem Rw.below {w' : World} (h : Rw w F R down kept rest ka kc ra rc) (hb : Below w.heap.size w w') : Rw w' F R down kept rest ka kc ra rc := h.keep hb.size (fun k hf => hb.block k (h.lt k hf))
theorem rset_fr (h : w.heap[R]? = some (.cells #[.slice ka kept.length kc, .slice ra rest.length rc, .bool down] 53 (0, 0))) (i : Nat) (u : Value) : Fr (fun k => k = R) w (w.setCell ⟨R, i, none⟩ u) := by
  rw [setCell_eq_setRow w R i _ _ (0, 0) _ h]
  exact (Fr.refl (fun k => k = R) w).setRow (b := R) (.inl rfl) _
theorem Rw.setDown (h : Rw w F R down kept rest ka kc ra rc) (d : Bool) : Rw (w.setCell ⟨R, 2, none⟩ (.bool d)) F R d kept rest ka kc ra rc := by
  have hf := rset_fr h.heap 2 (.bool d)
  refine ⟨fun k hk => Nat.lt_of_lt_of_le (h.lt k hk) hf.size, h.own, ?_, h.k.kept (fun k hk hn => hf.heap (h.lt k hk) hn), h.r.kept (fun k hk hn => hf.heap (h.lt k hk) hn)⟩
  rw [setCell_eq_setRow w R 2 _ _ (0, 0) _ h.heap]
  exact setRow_heap _ _ _ _ _ _ h.heap
theorem Rw.setKept {ka2 : Option Addr} {kc2 : Nat} {kept2 : List UInt8} (h : Rw w F R down kept rest ka kc ra rc) (hr : Rd w F R ka2 kc2 kept2) : Rw (w.setCell ⟨R, 0, none⟩ (.slice ka2 kept2.length kc2)) F R down kept2 rest ka2 kc2 ra rc := by
  have hf := rset_fr h.heap 0 (.slice ka2 kept2.length kc2)
  refine ⟨fun k hk => Nat.lt_of_lt_of_le (h.lt k hk) hf.size, h.own, ?_, hr.kept (fun k hk hn => hf.heap (h.lt k hk) hn), h.r.kept (fun k hk hn => hf.heap (h.lt k hk) hn)⟩
  rw [setCell_eq_setRow w R 0 _ _ (0, 0) _ h.heap]
  exact setRow_heap _ _ _ _ _ _ h.heap
theorem Rw.setRest {ra2 : Option Addr} {rc2 : Nat} {rest2 : List UInt8} (h : Rw w F R down kept rest ka kc ra rc) (hr : Rd w F R ra2 rc2 rest2) : Rw (w.setCell ⟨R, 1, none⟩ (.slice ra2 rest2.length rc2)) F R down kept rest2 ka kc ra2 rc2 := by
  have hf := rset_fr h.heap 1 (.slice ra2 rest2.length rc2)
  refine ⟨fun k hk => Nat.lt_of_lt_of_le (h.lt k hk) hf.size, h.own, ?_, h.k.kept (fun k hk hn => hf.heap (h.lt k hk) hn), hr.kept (fun k hk hn => hf.heap (h.lt k hk) hn)⟩
  rw [setCell_eq_setRow w R 1 _ _ (0, 0) _ h.heap]
  exact setRow_heap _ _ _ _ _ _ h.heap
/-- .. with what is new. -/
theorem Rw.grow {w' : World} (h : Rw w F R down kept rest ka kc ra rc) (hb : Below w.heap.size w w') : Rw w' (fun k => F k ∨ (w.heap.size ≤ k ∧ k < w'.heap.size)) R down kept rest ka kc ra rc := by
  have h' := h.below hb
  refine ⟨fun k hk => ?_, .inl h'.own, h'.heap, h'.k.mono (fun k hk => .inl hk), h'.r.mono (fun k hk => .inl hk)⟩
  rcases hk with x | x
  · exact h'.lt k x
  · exact x.2
end
theorem nx_grow {w w' w'' : World} {F : Nat → Prop} {R : Nat} (hb : Below w.heap.size w w') (hf : Fr (fun k => k = R) w' w'') (ho : F R) : Nx F w w'' (fun k => F k ∨ (w.heap.size ≤ k ∧ k < w'.heap.size)) :=
  ⟨(Fr.ofBelow hb).trans hf (fun i hi => by subst hi; exact .inl ho), fun k hk => by
    rcases hk with x | x
    · exact .inl x
    · exact .inr x.1⟩

def Rs (w : World) (F : Nat → Prop) (R : Nat) (s : St) : Prop := s.kept.length + s.rest.length ≤ 4194304 ∧ ∃ ka kc ra rc, Rw w F R s.down s.kept s.rest ka kc ra rc
theorem Rs.below {w w' : World} {F : Nat → Prop} {R : Nat} {s : St} (h : Rs w F R s) (hb : Below w.heap.size w w') : Rs w' F R s := by
  obtain ⟨hl, ka, kc, ra, rc, h⟩ := h; exact ⟨hl, ka, kc, ra, rc, h.below hb⟩
theorem Rs.fr {w w' : World} {F G : Nat → Prop} {R : Nat} {s : St} (h : Rs w F R s) (hf : Fr G w w') (hd : ∀ k, F k → ¬ G k) : Rs w' F R s := by
  obtain ⟨hl, ka, kc, ra, rc, h⟩ := h
  exact ⟨hl, ka, kc, ra, rc, h.keep hf.size (fun k hk => hf.heap (h.lt k hk) (hd k hk))⟩
theorem Rs.lt {w : World} {F : Nat → Prop} {R : Nat} {s : St} (h : Rs w F R s) : ∀ k, F k → k < w.heap.size := by obtain ⟨hl, ka, kc, ra, rc, h⟩ := h; exact h.lt

set_option maxHeartbeats 1000000 in
theorem join_any (w : World) (ao bo : Option Addr) (ca cb : Nat) (xs ys : List UInt8) (hx : Row w ao xs) (hy : Row w bo ys) (hl : xs.length + ys.length ≤ 4194304) :
    Calls Tryd.prog 83 #[.slice ao xs.length ca, .slice bo ys.length cb] w fun e w' => ∃ va vc, e = .returned (.slice va (xs ++ ys).length vc) ∧ Below w.heap.size w w' ∧ w'.ownsRow w.heap.size 5 1 (.slice va (xs ++ ys).length vc) (xs ++ ys).length (U (xs ++ ys)) := by
  go_enter Tryd.func83, Tryd.ntmps83
  go_wp2_with (at_builtin; refine (wpList_append_own_src _ rfl (.tmp 5) (.tmp 6) 30 30 rfl w.heap.size 5 (.int .u8 0) 1 1 Tryd.underlying30 info5 rfl (by decide) _ 0 [] rfl (World.ownsRow_made w #[] 0 (Nat.le_refl _) (Nat.zero_le _) rfl) _ xs.length (U xs) rfl ?hsrc ?h63 ?hby ?hbs ?_))
  case hsrc => exact Row.src (P := Tryd.prog) Tryd.underlying30 (hx.below (below_alloc w (.cells #[] 5))) ca
  case h63 => unfold maxLen; omega
  case hby => omega
  case hbs => simp
  intro v2 w2 hown2 hgrow2
  have hb2 := below_own (World.ownsRow_made (e := 5) (size := 1) w #[] 0 (Nat.le_refl _) (Nat.zero_le _) rfl) hgrow2 (below_alloc w (.cells #[] 5)) (by simp)
  have hown2 : w2.ownsRow w.heap.size 5 1 v2 xs.length (U xs) := by simpa using hown2
  clear hgrow2
  go_wp2_with (at_builtin; refine (wpList_append_own_src _ rfl (.tmp 7) (.tmp 8) 30 30 rfl w.heap.size 5 (.int .u8 0) 1 1 Tryd.underlying30 info5 rfl (by decide) _ xs.length (U xs) rfl hown2 _ ys.length (U ys) rfl ?hsrc2 ?h632 ?hby2 ?hbs2 ?_))
  case hsrc2 => exact Row.src (P := Tryd.prog) Tryd.underlying30 (hy.below hb2) cb
  case h632 => unfold maxLen; omega
  case hby2 => omega
  case hbs2 => exact hb2.size
  intro v3 w3 hown3 hgrow3
  have hb3 := below_own hown2 hgrow3 hb2 hb2.size
  rw [← U_append, ← List.length_append] at hown3
  obtain ⟨zs, hz⟩ : ∃ zs, xs ++ ys = zs := ⟨_, rfl⟩
  rw [hz] at hown3
  have HZ := mkH hz
  obtain ⟨va, vc, rfl⟩ := own_form hown3
  have HO := mkH hown3
  have HB := mkH hb3
  clear hown2 hown3 hb2 hb3 hgrow3 hx hy hz
  go_wp2
  go_ret
  rw [HZ.out]
  exact ⟨va, vc, rfl, HB.out, HO.out⟩

/-- A row that is owned since w1, as bytes of a footprint. -/
theorem rd_own {w : World} {F : Nat → Prop} {R base n cap : Nat} {ao : Option Addr} {bs : List UInt8} (h : w.ownsRow base 5 1 (.slice ao n cap) n (U bs)) (hF : ∀ k, base ≤ k → k < w.heap.size → F k ∧ k ≠ R) : Rd w F R ao cap bs := by
  obtain ⟨h1, h2, h3⟩ := Row.own h
  refine ⟨h3, by omega, own_cap h, fun b off e h0 => ?_⟩
  obtain ⟨b2, off2, e2, hc⟩ := h3 h0
  have hb := h.lt b (by rw [e]; rfl)
  exact hF b hb.1 hb.2

/-- What a call of the document's disk leaves: as the plain one. -/
def Ro (w : World) (F : Nat → Prop) (R : Nat) (w' : World) (s' : St) : Prop := ∃ F', Rs w' F' R s' ∧ Nx F w w' F'
theorem ro_same {w : World} {F : Nat → Prop} {R : Nat} {s : St} (h : Rs w F R s) : Ro w F R w s := ⟨F, h, Nx.refl _ _⟩
end Go.Proofs.YtjfbhchpgmimfaaDoor.Dr

namespace Go.Proofs.YtjfbhchpgmimfaaDoor.Dr2
open Go.RowKit Kt Dk Dp Da Db Dc Dd De Df Dg Dst Dr
set_option linter.unusedVariables false
set_option maxRecDepth 20000

set_option maxHeartbeats 1000000 in
theorem rappend_any {w : World} {F : Nat → Prop} {R : Nat} {s : St} (h : Rs w F R s) (ao : Option Addr) (cap : Nat) (bs : List UInt8) (hr : Row w ao bs) (hl : bs.length ≤ 4611686018427387903) :
    Calls Tryd.prog 65 #[.pointer (some ⟨R, 0, none⟩), .slice ao bs.length cap] w fun e w' => e = .returned (.int .i64 (appE s bs.length)) ∧ Ro w F R w' (appS s bs) := by
  have H0 := mkH h
  obtain ⟨hlen, ka, kc, ra, rc, h⟩ := h
  have c0 := h.c0
  have c1 := h.c1
  have c2 := h.c2
  have H := mkH h
  clear h
  have HE := mkH (show appE s bs.length = if s.down then 10 else if 4194304 < s.kept.length + s.rest.length + bs.length then 7 else 0 from rfl)
  have HS := mkH (show appS s bs = if s.down then s else if 4194304 < s.kept.length + s.rest.length + bs.length then s else ⟨s.kept, s.rest ++ bs, false⟩ from rfl)
  generalize appE s bs.length = E at HE ⊢
  generalize appS s bs = S' at HS ⊢
  cases hd : s.down
  · rw [hd] at HE HS c2
    simp only [Bool.false_eq_true, if_false] at HE HS
    have HD := mkH hd
    clear hd
    obtain ⟨t, ht⟩ : ∃ t, s.kept.length + s.rest.length = t := ⟨_, rfl⟩
    have et : (s.kept.length : Int) + (s.rest.length : Int) = (t : Int) := by omega
    by_cases hful : 4194304 < s.kept.length + s.rest.length + bs.length
    · rw [if_pos hful] at HE HS
      have t1 : (4194304 : Int) < (t : Int) + (bs.length : Int) := by omega
      go_enter Tryd.func65, Tryd.ntmps65
      go_wp2_with fail
      go_quiet (fail)
      go_wp2
      go_ret
      exact ⟨ret_i HE.out, by rw [HS.out]; exact ⟨F, H0.out.below (below_drewN (Below.refl _ _) _), Nx.ofBelow (below_drewN (Below.refl _ _) _)⟩⟩
    · rw [if_neg hful] at HE HS
      have t1 : ¬ (4194304 : Int) < (t : Int) + (bs.length : Int) := by omega
      have HL : Hid (s.kept.length + (s.rest ++ bs).length ≤ 4194304) := by unfold Hid; rw [List.length_append]; omega
      have HR := mkH hr
      have hbl : t ≤ 4194304 := by omega
      have hbl2 : bs.length ≤ 4194304 := by omega
      clear hr ht hful
      go_enter Tryd.func65, Tryd.ntmps65
      go_wp2_with fail
      go_quiet (fail)
      have hbq : Below w.heap.size w (w.drewN nq) := below_drewN (Below.refl _ _) nq
      have HQ := mkH (H.out.below hbq)
      have HRQ := mkH (HR.out.below hbq)
      have HBQ := mkH hbq
      have hsq : (w.drewN nq).heap.size = w.heap.size := rfl
      have HSQ := mkH hsq
      generalize w.drewN nq = wq at HQ HRQ HBQ HSQ ⊢
      clear hbq c0 c1 c2 hsq
      have c1 := HQ.out.c1
      go_wp2_with fail
      refine (join_any wq ra ao rc cap s.rest bs HQ.out.r.1 HRQ.out (by have := HL.out; rw [List.length_append] at this; omega)).mono ?_
      rintro e w1 ⟨va, vc, rfl, hb1, hown⟩
      have hg := HQ.out.grow hb1
      have hrd : Rd w1 (fun k => F k ∨ (wq.heap.size ≤ k ∧ k < w1.heap.size)) R va vc (s.rest ++ bs) := rd_own hown (fun k h1 h2 => ⟨.inr ⟨h1, h2⟩, by have := HQ.out.dlt; omega⟩)
      obtain ⟨L, hL⟩ : ∃ L, s.rest ++ bs = L := ⟨_, rfl⟩
      rw [hL] at hrd HL ⊢
      have HLL := mkH hL
      have d1 := hg.c1
      have f1 := hg.fz 1
      have hg1 := hg.setRest hrd
      have hf1 := rset_fr hg.heap 1 (.slice va L.length vc)
      have HG1 := mkH hg1
      have HN := mkH ((Nx.ofBelow (F := F) HBQ.out).trans (nx_grow hb1 hf1 HQ.out.own))
      clear hg hg1 hf1 hrd hown hb1 hL c1
      go_wp2
      go_ret
      refine ⟨ret_i HE.out, _, ?_, HN.out⟩
      rw [HS.out, HLL.out]
      refine ⟨HL.out, ka, kc, va, vc, ?_⟩
      have := HG1.out
      rw [HD.out] at this
      exact this
  · rw [hd] at HE HS c2
    simp only [if_true] at HE HS
    go_enter Tryd.func65, Tryd.ntmps65
    go_wp2
    go_ret
    exact ⟨ret_i HE.out, by rw [HS.out]; exact ro_same H0.out⟩

set_option maxHeartbeats 2000000 in
theorem rsync_any {w : World} {F : Nat → Prop} {R : Nat} {s : St} (h : Rs w F R s) :
    Calls Tryd.prog 66 #[.pointer (some ⟨R, 0, none⟩)] w fun e w' => e = .returned (.int .i64 (synE s)) ∧ Ro w F R w' (synS s) := by
  have H0 := mkH h
  obtain ⟨hlen, ka, kc, ra, rc, h⟩ := h
  have c0 := h.c0
  have c1 := h.c1
  have c2 := h.c2
  have H := mkH h
  clear h
  have HE := mkH (show synE s = if s.down then 10 else 0 from rfl)
  have HS := mkH (show synS s = if s.down then s else ⟨s.kept ++ s.rest, [], false⟩ from rfl)
  generalize synE s = E at HE ⊢
  generalize synS s = S' at HS ⊢
  cases hd : s.down
  · rw [hd] at HE HS c2
    simp only [Bool.false_eq_true, if_false] at HE HS
    have HD := mkH hd
    have HL : Hid (s.kept.length + s.rest.length ≤ 4194304) := hlen
    clear hd
    go_enter Tryd.func66, Tryd.ntmps66
    go_wp2_with fail
    have hbq : Below w.heap.size w w.drew := below_drewN (Below.refl _ _) 1
    have HQ := mkH (H.out.below hbq)
    have d0 := HQ.out.c0
    have d1 := HQ.out.c1
    clear c0 c1 c2
    go_region_with (go_at_call 83; refine (join_any w.drew ka ra kc rc s.kept s.rest HQ.out.k.1 HQ.out.r.1 HL.out).mono ?_; rintro e w1 ⟨va, vc, rfl, hb1, hown⟩; have hg := HQ.out.grow hb1; have dd0 := hg.c0; have ff0 := hg.fz 0)
    all_goals
      have hrd : Rd w1 (fun k => F k ∨ (w.drew.heap.size ≤ k ∧ k < w1.heap.size)) R va vc (s.kept ++ s.rest) := rd_own hown (fun k h1 h2 => ⟨.inr ⟨h1, h2⟩, by have := HQ.out.dlt; omega⟩)
      have hg1 : Rw (w1.setCell ⟨R, 0, none⟩ (.slice va (s.kept.length + s.rest.length) vc)) (fun k => F k ∨ (w.drew.heap.size ≤ k ∧ k < w1.heap.size)) R s.down (s.kept ++ s.rest) s.rest va vc ra rc := by
        have := hg.setKept hrd
        rw [List.length_append] at this
        exact this
      have hf1 := rset_fr hg.heap 0 (.slice va (s.kept.length + s.rest.length) vc)
      have e1 := hg1.c1
      have f1 := hg1.fz 1
      have hg2 := hg1.setRest (ra2 := none) (rc2 := 0) (rest2 := []) (Rd.nil _ _ _)
      have hf2 := rset_fr hg1.heap 1 (.slice none 0 0)
      have HG2 := mkH hg2
      have HN := mkH ((Nx.ofBelow (F := F) hbq).trans (nx_grow hb1 (hf1.trans hf2 (fun i hi => .inl hi)) HQ.out.own))
      clear hg hg1 hg2 hf1 hf2 hrd hown hb1 dd0 ff0 d0 d1
      go_wp2
      go_ret
      refine ⟨ret_i HE.out, _, ?_, HN.out⟩
      rw [HS.out]
      refine ⟨by simpa using HL.out, va, vc, none, 0, ?_⟩
      have := HG2.out
      rw [HD.out] at this
      exact this
  · rw [hd] at HE HS c2
    simp only [if_true] at HE HS
    go_enter Tryd.func66, Tryd.ntmps66
    go_wp2
    go_ret
    exact ⟨ret_i HE.out, by rw [HS.out]; exact ro_same H0.out⟩

set_option maxHeartbeats 2000000 in
theorem rrestart_any {w : World} {F : Nat → Prop} {R : Nat} {s : St} (h : Rs w F R s) :
    Calls Tryd.prog 68 #[.pointer (some ⟨R, 0, none⟩)] w fun e w' => e = .returned (.int .i64 (rstE s)) ∧ Ro w F R w' (rstS s) := by
  have H0 := mkH h
  obtain ⟨hlen, ka, kc, ra, rc, h⟩ := h
  have c2 := h.c2
  have f2 := h.fz 2
  have H := mkH h
  clear h
  have HE := mkH (show rstE s = if s.down then 0 else 9 from rfl)
  have HS := mkH (show rstS s = if s.down then ⟨s.kept ++ s.rest, [], false⟩ else s from rfl)
  generalize rstE s = E at HE ⊢
  generalize rstS s = S' at HS ⊢
  cases hd : s.down
  · rw [hd] at HE HS c2
    simp only [Bool.false_eq_true, if_false] at HE HS
    go_enter Tryd.func68, Tryd.ntmps68
    go_wp2
    go_ret
    exact ⟨ret_i HE.out, by rw [HS.out]; exact ro_same H0.out⟩
  · rw [hd] at HE HS c2
    simp only [if_true] at HE HS
    have HL : Hid (s.kept.length + s.rest.length ≤ 4194304) := hlen
    clear hd
    go_enter Tryd.func68, Tryd.ntmps68
    go_wp2_with fail
    have hg0 := H.out.setDown false
    have hf0 := rset_fr H.out.heap 2 (.bool false)
    have HN0 : Hid (Nx F w (w.setCell ⟨R, 2, none⟩ (.bool false)) F) := ⟨hf0.mono (fun k hk => by subst hk; exact H.out.own), fun _ h => .inl h⟩
    generalize w.setCell ⟨R, 2, none⟩ (.bool false) = w0 at hg0 HN0 ⊢
    have hbq : Below w0.heap.size w0 w0.drew := below_drewN (Below.refl _ _) 1
    have HQ := mkH (hg0.below hbq)
    have d0 := HQ.out.c0
    have d1 := HQ.out.c1
    clear c2 f2 hf0 hg0
    go_region_with (go_at_call 83; refine (join_any w0.drew ka ra kc rc s.kept s.rest HQ.out.k.1 HQ.out.r.1 HL.out).mono ?_; rintro e w1 ⟨va, vc, rfl, hb1, hown⟩; have hg := HQ.out.grow hb1; have dd0 := hg.c0; have ff0 := hg.fz 0)
    all_goals
      have hrd : Rd w1 (fun k => F k ∨ (w0.drew.heap.size ≤ k ∧ k < w1.heap.size)) R va vc (s.kept ++ s.rest) := rd_own hown (fun k h1 h2 => ⟨.inr ⟨h1, h2⟩, by have := HQ.out.dlt; omega⟩)
      have hg1 : Rw (w1.setCell ⟨R, 0, none⟩ (.slice va (s.kept.length + s.rest.length) vc)) (fun k => F k ∨ (w0.drew.heap.size ≤ k ∧ k < w1.heap.size)) R false (s.kept ++ s.rest) s.rest va vc ra rc := by
        have := hg.setKept hrd
        rw [List.length_append] at this
        exact this
      have hf1 := rset_fr hg.heap 0 (.slice va (s.kept.length + s.rest.length) vc)
      have e1 := hg1.c1
      have f1 := hg1.fz 1
      have hg2 := hg1.setRest (ra2 := none) (rc2 := 0) (rest2 := []) (Rd.nil _ _ _)
      have hf2 := rset_fr hg1.heap 1 (.slice none 0 0)
      have HG2 := mkH hg2
      have HN := mkH ((HN0.out.trans (Nx.ofBelow (F := F) hbq)).trans (nx_grow hb1 (hf1.trans hf2 (fun i hi => .inl hi)) HQ.out.own))
      clear hg hg1 hg2 hf1 hf2 hrd hown hb1 dd0 ff0 d0 d1
      go_wp2
      go_ret
      refine ⟨ret_i HE.out, _, ?_, HN.out⟩
      rw [HS.out]
      refine ⟨by simpa using HL.out, va, vc, none, 0, ?_⟩
      have := HG2.out
      exact this

set_option maxHeartbeats 2000000 in
theorem rcut_any {w : World} {F : Nat → Prop} {R : Nat} {s : St} (h : Rs w F R s) (n : Int) :
    Calls Tryd.prog 69 #[.pointer (some ⟨R, 0, none⟩), .int .i64 n] w fun e w' => e = .returned (.int .i64 (cutE s n)) ∧ Ro w F R w' (cutS s n) := by
  have H0 := mkH h
  obtain ⟨hlen, ka, kc, ra, rc, h⟩ := h
  have c0 := h.c0
  have c1 := h.c1
  have c2 := h.c2
  have H := mkH h
  clear h
  have HE := mkH (show cutE s n = if s.down then 10 else if n < 0 ∨ ((s.kept.length + s.rest.length : Nat) : Int) < n then 2 else 0 from rfl)
  have HS := mkH (show cutS s n = if s.down then s else if n < 0 ∨ ((s.kept.length + s.rest.length : Nat) : Int) < n then s else ⟨(s.kept ++ s.rest).take n.toNat, [], false⟩ from rfl)
  generalize cutE s n = E at HE ⊢
  generalize cutS s n = S' at HS ⊢
  cases hd : s.down
  · rw [hd] at HE HS c2
    simp only [Bool.false_eq_true, if_false] at HE HS
    have HL : Hid (s.kept.length + s.rest.length ≤ 4194304) := hlen
    have HD := mkH hd
    clear hd
    go_enter Tryd.func69, Tryd.ntmps69
    go_wp2_with fail
    have hbq : Below w.heap.size w w.drew := below_drewN (Below.refl _ _) 1
    have HQ := mkH (H.out.below hbq)
    have d0 := HQ.out.c0
    have d1 := HQ.out.c1
    clear c0 c1 c2
    go_region_with (go_at_call 83; refine (join_any w.drew ka ra kc rc s.kept s.rest HQ.out.k.1 HQ.out.r.1 HL.out).mono ?_; rintro e w1 ⟨va, vc, rfl, hb1, hown⟩)
    all_goals
      have hg := HQ.out.grow hb1
      have HR1 := mkH (H0.out.below (hbq.trans hb1))
      have HB1 := mkH (hbq.trans hb1)
      have hrd : Rd w1 (fun k => F k ∨ (w.drew.heap.size ≤ k ∧ k < w1.heap.size)) R va vc (s.kept ++ s.rest) := rd_own hown (fun k h1 h2 => ⟨.inr ⟨h1, h2⟩, by have := HQ.out.dlt; omega⟩)
      obtain ⟨t, ht⟩ : ∃ t, s.kept.length + s.rest.length = t := ⟨_, rfl⟩
      have HT : Hid ((s.kept ++ s.rest).length = t) := by unfold Hid; rw [List.length_append]; exact ht
      rw [ht] at HE HS HL hlen ⊢
      clear ht d0 d1
      by_cases hneg : n < 0
      · rw [if_pos (.inl hneg)] at HE HS
        clear hg hrd hown hb1
        go_wp2
        go_ret
        exact ⟨ret_i HE.out, by rw [HS.out]; exact ⟨F, HR1.out, Nx.ofBelow HB1.out⟩⟩
      · by_cases hbig : (t : Int) < n
        · rw [if_pos (.inr hbig)] at HE HS
          clear hg hrd hown hb1
          go_wp2
          go_ret
          exact ⟨ret_i HE.out, by rw [HS.out]; exact ⟨F, HR1.out, Nx.ofBelow HB1.out⟩⟩
        · rw [if_neg (by omega)] at HE HS
          obtain ⟨m, rfl⟩ : ∃ m : Nat, n = (m : Int) := ⟨n.toNat, by omega⟩
          have hrt := hrd.take m
          have htl : ((s.kept ++ s.rest).take m).length = m := by rw [List.length_take, HT.out]; omega
          have e0 := hg.c0
          have f0 := hg.fz 0
          have hg1 : Rw (w1.setCell ⟨R, 0, none⟩ (.slice va m vc)) (fun k => F k ∨ (w.drew.heap.size ≤ k ∧ k < w1.heap.size)) R s.down ((s.kept ++ s.rest).take m) s.rest va vc ra rc := by
            have := hg.setKept hrt
            rw [htl] at this
            exact this
          have hf1 := rset_fr hg.heap 0 (.slice va m vc)
          have e1 := hg1.c1
          have f1 := hg1.fz 1
          have hg2 := hg1.setRest (ra2 := none) (rc2 := 0) (rest2 := []) (Rd.nil _ _ _)
          have hf2 := rset_fr hg1.heap 1 (.slice none 0 0)
          have HG2 := mkH hg2
          have HN := mkH ((Nx.ofBelow (F := F) hbq).trans (nx_grow hb1 (hf1.trans hf2 (fun i hi => .inl hi)) HQ.out.own))
          have HTL := mkH htl
          have hvc := hrt.2.1
          rw [htl] at hvc
          have hvc2 := hrt.2.2.1
          clear hg hg1 hg2 hf1 hf2 hrd hown hb1 hrt htl
          go_wp2
          go_ret
          refine ⟨ret_i HE.out, _, ?_, HN.out⟩
          rw [HS.out]
          refine ⟨by simp only [Int.toNat_natCast, List.length_nil]; rw [HTL.out]; omega, va, vc, none, 0, ?_⟩
          have := HG2.out
          rw [HD.out] at this
          exact this
  · rw [hd] at HE HS c2
    simp only [if_true] at HE HS
    go_enter Tryd.func69, Tryd.ntmps69
    go_wp2
    go_ret
    exact ⟨ret_i HE.out, by rw [HS.out]; exact ro_same H0.out⟩
end Go.Proofs.YtjfbhchpgmimfaaDoor.Dr2

namespace Go.Proofs.YtjfbhchpgmimfaaDoor.Dr3
open Go.RowKit Kt Dk Dp Da Db Dc Dd De Df Dg Dst Dr Dr2
set_option linter.unusedVariables false
set_option maxRecDepth 20000

/-- What the loops have turned so far. -/
def pt (B : List UInt8) (f : Int) (t : Nat) : List UInt8 := if f < (t : Int) then turn B f else B
theorem pt_length (B : List UInt8) (f : Int) (t : Nat) : (pt B f t).length = B.length := by unfold pt; split; exact turn_length _ _; rfl
theorem pt_zero (B : List UInt8) (f : Int) : pt B f 0 = B := by
  unfold pt turn
  split
  · rw [if_neg (by omega)]
  · rfl
theorem pt_end (B : List UInt8) (f : Int) : pt B f (8 * B.length) = turn B f := by
  unfold pt
  split
  · rfl
  · unfold turn; rw [if_neg (by omega)]
theorem pt_ne (B : List UInt8) (f : Int) (t : Nat) (h : ¬ f = (t : Int)) : pt B f (t + 1) = pt B f t := by
  unfold pt
  by_cases h1 : f < (t : Int)
  · rw [if_pos h1, if_pos (by omega)]
  · rw [if_neg h1, if_neg (by omega)]
theorem pt_eq (B : List UInt8) (f : Int) (i k : Nat) (hk : k < 8) (hi : i < B.length) (h : f = ((8 * i + k : Nat) : Int)) : pt B f (8 * i + k) = B ∧ pt B f (8 * i + k + 1) = B.set i (tb (B.getD i 0) k) := by
  unfold pt turn
  refine ⟨by rw [if_neg (by omega)], ?_⟩
  have h1 : f.toNat / 8 = i := by omega
  have h2 : f.toNat % 8 = k := by omega
  rw [if_pos (by omega), if_pos ⟨by omega, by omega⟩, h1, h2]

theorem Ow.high {w : World} {F : Nat → Prop} {D e : Nat} {ao : Option Addr} {n cap : Nat} {bs : List UInt8} (h : Ow w F D e (.slice ao n cap) bs) (m : Nat) (hm : m ≤ bs.length) : Ow w F D e (.slice ao m cap) (bs.take m) := by
  rcases h with ⟨h1, rfl⟩ | ⟨g, c, cur, h1, hF, hD, hg, hl, hc, hmx, ht⟩
  · simp only [Value.slice.injEq] at h1
    obtain ⟨rfl, rfl, rfl⟩ := h1
    have : m = 0 := by simpa using hm
    subst this
    exact .inl ⟨rfl, by simp⟩
  · simp only [Value.slice.injEq] at h1
    obtain ⟨rfl, rfl, rfl⟩ := h1
    have hl2 : (bs.take m).length = m := by rw [List.length_take]; omega
    refine .inr ⟨g, cap, cur, by rw [hl2], hF, hD, hg, by omega, hc, hmx, ?_⟩
    rw [hl2]
    have h1 : (cur.toList.take bs.length).take m = (U bs).take m := by rw [ht]
    rw [List.take_take, Nat.min_eq_left hm] at h1
    rw [h1]
    simp [U]
theorem rd_ow {w : World} {F : Nat → Prop} {R e : Nat} {ao : Option Addr} {n cap : Nat} {bs : List UInt8} (h : Ow w F R e (.slice ao n cap) bs) : Rd w F R ao cap bs := by
  obtain ⟨a2, c2, he, h1, h2, h3, h4⟩ := h.form
  simp only [Value.slice.injEq] at he
  obtain ⟨rfl, rfl, rfl⟩ := he
  refine ⟨h3, h1, h2, fun b off e h0 => ?_⟩
  rcases h with ⟨x1, rfl⟩ | ⟨g, c, cur, x1, hF, hD, -⟩
  · simp at h0
  · simp only [Value.slice.injEq] at x1
    rw [e] at x1
    obtain ⟨x1, -⟩ := x1
    injection x1 with x1
    injection x1 with x1
    subst x1
    exact ⟨hF, hD⟩

set_option maxHeartbeats 4000000 in
theorem rcrash_any {w : World} {F : Nat → Prop} {R : Nat} {s : St} (h : Rs w F R s) (k f : Int) (hf : f ≤ 9223372036854775807) :
    Calls Tryd.prog 67 #[.pointer (some ⟨R, 0, none⟩), .int .i64 k, .int .i64 f] w fun e w' => e = .returned (.int .i64 (crsE s k)) ∧ Ro w F R w' (crsS s k f) := by
  have H0 := mkH h
  obtain ⟨hlen, ka, kc, ra, rc, h⟩ := h
  have c2 := h.c2
  have f2 := h.fz 2
  have H := mkH h
  clear h
  have HE := mkH (show crsE s k = if s.down then 10 else if k < 0 then 2 else 0 from rfl)
  have HS := mkH (show crsS s k f = if s.down then s else if k < 0 then s else ⟨s.kept, turn (s.rest.take k.toNat) f, true⟩ from rfl)
  generalize crsE s k = E at HE ⊢
  generalize crsS s k f = S' at HS ⊢
  cases hd : s.down
  · rw [hd] at HE HS c2
    simp only [Bool.false_eq_true, if_false] at HE HS
    have HD := mkH hd
    clear hd
    by_cases hbad : k < 0
    · rw [if_pos hbad] at HE HS
      go_enter Tryd.func67, Tryd.ntmps67
      go_wp2
      go_ret
      exact ⟨ret_i HE.out, by rw [HS.out]; exact ro_same H0.out⟩
    · rw [if_neg hbad] at HE HS
      have hg0 := H.out.setDown true
      have hf0 := rset_fr H.out.heap 2 (.bool true)
      have HN0 : Hid (Nx F w (w.setCell ⟨R, 2, none⟩ (.bool true)) F) := ⟨hf0.mono (fun k hk => by subst hk; exact H.out.own), fun _ h => .inl h⟩
      obtain ⟨w0, hw0⟩ : ∃ w0, w.setCell ⟨R, 2, none⟩ (.bool true) = w0 := ⟨_, rfl⟩
      have HG0 := mkH hg0
      rw [hw0] at HG0 HN0
      have d1 := HG0.out.c1
      clear hg0 hf0
      go_enter Tryd.func67, Tryd.ntmps67
      go_wp2_with fail
      refine (join_any w0 ra none rc 0 s.rest [] HG0.out.r.1 (Row.nil _ _) (by simp; omega)).mono ?_
      rintro e w1 ⟨va, vc, rfl, hb1, hown⟩
      rw [List.append_nil] at hown ⊢
      obtain ⟨Fn, hFn⟩ : ∃ Fn : Nat → Prop, Fn = (fun k => w0.heap.size ≤ k ∧ k < w1.heap.size) := ⟨_, rfl⟩
      have HFn : Hid (∀ k, Fn k → (F k ∨ (w0.heap.size ≤ k ∧ k < w1.heap.size))) := by rw [hFn]; exact fun k hk => .inr hk
      have how : Ow w1 Fn R 5 (.slice va s.rest.length vc) s.rest := Ow.ofOwn hown (fun g h1 h2 => by rw [hFn]; exact ⟨⟨h1, h2⟩, by have := HG0.out.dlt; omega⟩)
      have hgw := HG0.out.grow hb1
      have HGW : Hid (∀ W, Fr Fn w1 W → Rw W (fun k => F k ∨ (w0.heap.size ≤ k ∧ k < w1.heap.size)) R true s.kept s.rest ka kc ra rc) := fun W hW => by
        have hk : ∀ k, F k → W.heap[k]? = w1.heap[k]? := fun k hk => hW.heap (Nat.lt_of_lt_of_le (HG0.out.lt k hk) hb1.size) (by rw [hFn]; intro x; have := HG0.out.lt k hk; omega)
        have h1 := HG0.out.below hb1
        have h2 := h1.keep hW.size hk
        refine ⟨fun k hk => ?_, .inl h2.own, h2.heap, h2.k.mono (fun k hk => .inl hk), h2.r.mono (fun k hk => .inl hk)⟩
        rcases hk with x | x
        · exact h2.lt k x
        · exact Nat.lt_of_lt_of_le x.2 hW.size
      have HNX : Hid (∀ W W', Fr Fn w1 W → Fr (fun k => k = R) W W' → Nx F w W' (fun k => F k ∨ (w0.heap.size ≤ k ∧ k < w1.heap.size))) := fun W W' h1 h2 => by
        refine HN0.out.trans ⟨?_, fun k hk => ?_⟩
        · have x1 : Fr F w0 w1 := Fr.ofBelow hb1
          have x2 : Fr F w0 W := x1.trans h1 (fun i hi => by rw [hFn] at hi; exact .inr hi.1)
          exact x2.trans h2 (fun i hi => by subst hi; exact .inl HG0.out.own)
        · rcases hk with x | x
          · exact .inl x
          · exact .inr x.1
      have hcap := own_cap hown
      have hcl := (Row.own hown).2.1
      clear hgw hb1 hown hFn d1 c2 f2 hw0
      by_cases hkr : k < (s.rest.length : Int)
      · obtain ⟨n, rfl⟩ : ∃ n : Nat, k = (n : Int) := ⟨k.toNat, by omega⟩
        have HO := mkH (Ow.high how n (by omega))
        have HTK : Hid (s.rest.take (n : Int).toNat = s.rest.take n) := by rfl
        have HBL : Hid ((s.rest.take n).length = n) := by unfold Hid; rw [List.length_take]; omega
        generalize s.rest.take n = B at HO HTK HBL
        have hnb : n ≤ 4194304 := by omega
        have hln : s.kept.length + n ≤ 4194304 := by omega
        clear how
        generalize s.rest.length = r at *
        go_wp2_with fail
        go_loopw [8] (fun i W => ∃ j : Nat, j ≤ n ∧ i = .int .i64 j ∧ Hid (Ow W Fn R 5 (.slice va n vc) (pt B f (8 * j))) ∧ Hid (Fr Fn w1 W)) (fun i _ => n - (intOf i).toNat)
        case atStart => exact ⟨0, by omega, rfl, by rw [Nat.mul_zero, pt_zero]; exact HO, Fr.refl _ _⟩
        case round =>
          obtain ⟨j, hj, rfl, HOj, HFj⟩ := hrel
          by_cases hjn : j = n
          · subst hjn
            have hend : Ow wr Fn R 5 (.slice va j vc) (turn B f) := by
              have := HOj.out
              rw [show 8 * j = 8 * B.length by rw [HBL.out], pt_end] at this
              exact this
            have hgr := HGW.out wr HFj.out
            have hrd := (rd_ow hend).mono HFn.out
            have htl : (turn B f).length = j := by rw [turn_length, HBL.out]
            have d1 := hgr.c1
            have f1 := hgr.fz 1
            have hg2 : Rw (wr.setCell ⟨R, 1, none⟩ (.slice va j vc)) (fun k => F k ∨ (w0.heap.size ≤ k ∧ k < w1.heap.size)) R true s.kept (turn B f) ka kc va vc := by
              have := hgr.setRest hrd
              rw [htl] at this
              exact this
            have hf2 := rset_fr hgr.heap 1 (.slice va j vc)
            have HG2 := mkH hg2
            have HF2 := mkH hf2
            clear hgr hrd hg2 hf2 hend
            go_wp2
            go_ret
            refine ⟨ret_i HE.out, _, ?_, HNX.out wr _ HFj.out HF2.out⟩
            rw [HS.out, HTK.out]
            exact ⟨by show s.kept.length + (turn B f).length ≤ 4194304; rw [turn_length, HBL.out]; omega, ka, kc, va, vc, HG2.out⟩
          · have hjl : j < n := by omega
            go_wp2_with fail
            go_loopw [9] (fun i W => ∃ k : Nat, k ≤ 8 ∧ i = .int .i64 k ∧ Hid (Ow W Fn R 5 (.slice va n vc) (pt B f (8 * j + k))) ∧ Hid (Fr Fn w1 W)) (fun i _ => 8 - (intOf i).toNat)
            case atStart => exact ⟨0, by omega, rfl, HOj, HFj⟩
            case round =>
              clear HOj HFj
              obtain ⟨k, hk, rfl, HOk, HFk⟩ := hrel
              by_cases hk8 : k = 8
              · subst hk8
                go_wp2_with fail
                refine ⟨⟨j + 1, by omega, by go_num, ?_, HFk⟩, by simp [intOf]; omega⟩
                have := HOk.out
                rw [show 8 * j + 8 = 8 * (j + 1) by omega] at this
                exact this
              · have hk7 : k < 8 := by omega
                obtain ⟨T, hT⟩ : ∃ T, 8 * j + k = T := ⟨_, rfl⟩
                have eT0 : 8 * (j : Int) = ((8 * j : Nat) : Int) := by omega
                obtain ⟨T0, hT0⟩ : ∃ T0, 8 * j = T0 := ⟨_, rfl⟩
                rw [hT0] at eT0
                have eT : (T0 : Int) + (k : Int) = (T : Int) := by omega
                have hT1 : T0 ≤ 100000000 := by omega
                have hT2 : T ≤ 100000000 := by omega
                by_cases hfT : f = (T : Int)
                · have hpe := pt_eq B f j k hk7 (by rw [HBL.out]; exact hjl) (by rw [hT]; exact hfT)
                  have ho := HOk.out
                  rw [hpe.1] at ho
                  obtain ⟨g, cg, hv, hFg, hgR, hcell, hfz, hset⟩ := ow_set ho j (by rw [HBL.out]; exact hjl)
                  simp only [Value.slice.injEq] at hv
                  obtain ⟨rfl, hv2, rfl⟩ := hv
                  have HSET := mkH (hset (tb (B.getD j 0) k) 1)
                  have HTB := mkH (tb_int (B.getD j 0) k hk7)
                  have HPE := mkH hpe.2
                  have HTT := mkH hT
                  clear ho hset hpe hv2
                  generalize (tb (B.getD j 0) k) = y at HSET HTB HPE
                  generalize (B.getD j 0).toNat = x at hcell HTB
                  subst hfT
                  clear hT hT0
                  go_wp2_with fail
                  go_region
                  go_wp2_with fail
                  rw [HTB.out]
                  refine ⟨⟨k + 1, by omega, by go_num, ?_, ?_⟩, by simp [intOf]; omega⟩
                  · have := HSET.out.1
                    rw [show 8 * j + (k + 1) = 8 * j + k + 1 by omega, HPE.out]
                    exact this
                  · exact HFk.out.trans HSET.out.2 (fun i hi => .inl (by subst hi; exact hFg))
                · have tf : (f == (T : Int)) = false := by simp; exact hfT
                  have hpn := pt_ne B f (8 * j + k) (by rw [hT]; exact hfT)
                  have HPN := mkH hpn
                  clear hpn hT hT0
                  go_wp2_with fail
                  refine ⟨⟨k + 1, by omega, by go_num, ?_, HFk⟩, by simp [intOf]; omega⟩
                  have := HOk.out
                  rw [← HPN.out] at this
                  exact this
      · obtain ⟨n, hn⟩ : ∃ n : Nat, s.rest.length = n := ⟨_, rfl⟩
        have HO := mkH how
        have HTK : Hid (s.rest.take k.toNat = s.rest) := by unfold Hid; exact List.take_of_length_le (by omega)
        have HBL : Hid (s.rest.length = n) := hn
        obtain ⟨B, hB⟩ : ∃ B, s.rest = B := ⟨_, rfl⟩
        rw [hn] at HO hkr hcl hlen ⊢
        have hnb : n ≤ 4194304 := by omega
        have hln : s.kept.length + n ≤ 4194304 := by omega
        have HTK : Hid (s.rest.take k.toNat = B) := by unfold Hid; rw [HTK.out]; exact hB
        have HBL : Hid (B.length = n) := by unfold Hid; rw [← hB]; exact hn
        have HO : Hid (Ow w1 Fn R 5 (.slice va n vc) B) := by unfold Hid; rw [← hB]; exact HO.out
        have tk : decide (k < (n : Int)) = false := by simp; omega
        clear how hB hn
        go_wp2_with fail
        go_loopw [8] (fun i W => ∃ j : Nat, j ≤ n ∧ i = .int .i64 j ∧ Hid (Ow W Fn R 5 (.slice va n vc) (pt B f (8 * j))) ∧ Hid (Fr Fn w1 W)) (fun i _ => n - (intOf i).toNat)
        case atStart => exact ⟨0, by omega, rfl, by rw [Nat.mul_zero, pt_zero]; exact HO, Fr.refl _ _⟩
        case round =>
          obtain ⟨j, hj, rfl, HOj, HFj⟩ := hrel
          by_cases hjn : j = n
          · subst hjn
            have hend : Ow wr Fn R 5 (.slice va j vc) (turn B f) := by
              have := HOj.out
              rw [show 8 * j = 8 * B.length by rw [HBL.out], pt_end] at this
              exact this
            have hgr := HGW.out wr HFj.out
            have hrd := (rd_ow hend).mono HFn.out
            have htl : (turn B f).length = j := by rw [turn_length, HBL.out]
            have d1 := hgr.c1
            have f1 := hgr.fz 1
            have hg2 : Rw (wr.setCell ⟨R, 1, none⟩ (.slice va j vc)) (fun k => F k ∨ (w0.heap.size ≤ k ∧ k < w1.heap.size)) R true s.kept (turn B f) ka kc va vc := by
              have := hgr.setRest hrd
              rw [htl] at this
              exact this
            have hf2 := rset_fr hgr.heap 1 (.slice va j vc)
            have HG2 := mkH hg2
            have HF2 := mkH hf2
            clear hgr hrd hg2 hf2 hend
            go_wp2
            go_ret
            refine ⟨ret_i HE.out, _, ?_, HNX.out wr _ HFj.out HF2.out⟩
            rw [HS.out, HTK.out]
            exact ⟨by show s.kept.length + (turn B f).length ≤ 4194304; rw [turn_length, HBL.out]; omega, ka, kc, va, vc, HG2.out⟩
          · have hjl : j < n := by omega
            go_wp2_with fail
            go_loopw [9] (fun i W => ∃ k : Nat, k ≤ 8 ∧ i = .int .i64 k ∧ Hid (Ow W Fn R 5 (.slice va n vc) (pt B f (8 * j + k))) ∧ Hid (Fr Fn w1 W)) (fun i _ => 8 - (intOf i).toNat)
            case atStart => exact ⟨0, by omega, rfl, HOj, HFj⟩
            case round =>
              clear HOj HFj
              obtain ⟨k, hk, rfl, HOk, HFk⟩ := hrel
              by_cases hk8 : k = 8
              · subst hk8
                go_wp2_with fail
                refine ⟨⟨j + 1, by omega, by go_num, ?_, HFk⟩, by simp [intOf]; omega⟩
                have := HOk.out
                rw [show 8 * j + 8 = 8 * (j + 1) by omega] at this
                exact this
              · have hk7 : k < 8 := by omega
                obtain ⟨T, hT⟩ : ∃ T, 8 * j + k = T := ⟨_, rfl⟩
                have eT0 : 8 * (j : Int) = ((8 * j : Nat) : Int) := by omega
                obtain ⟨T0, hT0⟩ : ∃ T0, 8 * j = T0 := ⟨_, rfl⟩
                rw [hT0] at eT0
                have eT : (T0 : Int) + (k : Int) = (T : Int) := by omega
                have hT1 : T0 ≤ 100000000 := by omega
                have hT2 : T ≤ 100000000 := by omega
                by_cases hfT : f = (T : Int)
                · have hpe := pt_eq B f j k hk7 (by rw [HBL.out]; exact hjl) (by rw [hT]; exact hfT)
                  have ho := HOk.out
                  rw [hpe.1] at ho
                  obtain ⟨g, cg, hv, hFg, hgR, hcell, hfz, hset⟩ := ow_set ho j (by rw [HBL.out]; exact hjl)
                  simp only [Value.slice.injEq] at hv
                  obtain ⟨rfl, hv2, rfl⟩ := hv
                  have HSET := mkH (hset (tb (B.getD j 0) k) 1)
                  have HTB := mkH (tb_int (B.getD j 0) k hk7)
                  have HPE := mkH hpe.2
                  have HTT := mkH hT
                  clear ho hset hpe hv2
                  generalize (tb (B.getD j 0) k) = y at HSET HTB HPE
                  generalize (B.getD j 0).toNat = x at hcell HTB
                  subst hfT
                  clear hT hT0
                  go_wp2_with fail
                  go_region
                  go_wp2_with fail
                  rw [HTB.out]
                  refine ⟨⟨k + 1, by omega, by go_num, ?_, ?_⟩, by simp [intOf]; omega⟩
                  · have := HSET.out.1
                    rw [show 8 * j + (k + 1) = 8 * j + k + 1 by omega, HPE.out]
                    exact this
                  · exact HFk.out.trans HSET.out.2 (fun i hi => .inl (by subst hi; exact hFg))
                · have tf : (f == (T : Int)) = false := by simp; exact hfT
                  have hpn := pt_ne B f (8 * j + k) (by rw [hT]; exact hfT)
                  have HPN := mkH hpn
                  clear hpn hT hT0
                  go_wp2_with fail
                  refine ⟨⟨k + 1, by omega, by go_num, ?_, HFk⟩, by simp [intOf]; omega⟩
                  have := HOk.out
                  rw [← HPN.out] at this
                  exact this
  · rw [hd] at HE HS c2
    simp only [if_true] at HE HS
    go_enter Tryd.func67, Tryd.ntmps67
    go_wp2
    go_ret
    exact ⟨ret_i HE.out, by rw [HS.out]; exact ro_same H0.out⟩
end Go.Proofs.YtjfbhchpgmimfaaDoor.Dr3
