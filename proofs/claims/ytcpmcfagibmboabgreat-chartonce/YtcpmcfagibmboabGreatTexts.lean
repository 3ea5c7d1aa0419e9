/-
  The plain mathematics of texts and lists: their bytes, what bytes are read as, there and back, cut, and once. No Go text, no program.
-/
import Derived.Test.YtcpmcfagibmboabGreatPlain
namespace Go.Proofs.YtcpmcfagibmboabGreat.Pl

/-- What a read number tells: it is not above the limit, its bytes lie in what was read, and are its own. -/
theorem rd_once : ∀ (r i acc : Nat) (bs : List UInt8) (n k : Nat), rd bs r i acc = (n, k, 0) →
    i < k ∧ k ≤ bs.length ∧ n ≤ 4611686018427387904 ∧ ∃ m, n = acc + m * 2 ^ (7 * i) ∧ enc m = (bs.drop i).take (k - i) ∧ (m = 0 → i = 0)
  | 0, i, acc, bs, n, k, h => by simp [rd] at h
  | r + 1, i, acc, bs, n, k, h => by
    rw [rd] at h
    by_cases h1 : i = bs.length
    · rw [if_pos h1] at h; simp at h
    rw [if_neg h1] at h
    by_cases h2 : 4611686018427387904 < acc + (bs.getD i 0).toNat % 128 * 2 ^ (7 * i) ∨ ((bs.getD i 0).toNat = 0 ∧ 0 < i)
    · rw [if_pos h2] at h; simp at h
    rw [if_neg h2] at h
    have hc256 : (bs.getD i 0).toNat < 256 := UInt8.toNat_lt _
    have hlt : i < bs.length ∨ bs.length < i := by omega
    have hin : i < bs.length := by
      rcases hlt with hl | hl
      · exact hl
      · exfalso
        have e0 : bs.getD i 0 = 0 := by simp [List.getD, List.getElem?_eq_none (Nat.le_of_lt hl)]
        rw [e0] at h2
        exact h2 (.inr ⟨rfl, by omega⟩)
    have hd : bs.drop i = bs.getD i 0 :: bs.drop (i + 1) := by
      rw [List.drop_eq_getElem_cons hin]; simp [List.getD, List.getElem?_eq_getElem hin]
    have hof : UInt8.ofNat (bs.getD i 0).toNat = bs.getD i 0 := by simp
    generalize bs.getD i 0 = c at *
    by_cases h3 : c.toNat < 128
    · rw [if_pos h3] at h
      simp only [Prod.mk.injEq] at h
      obtain ⟨rfl, rfl, -⟩ := h
      have hm : c.toNat % 128 = c.toNat := Nat.mod_eq_of_lt h3
      rw [hm] at h2 ⊢
      refine ⟨by omega, by omega, by omega, c.toNat, rfl, ?_, fun hz => by omega⟩
      rw [enc_lt h3, hof, hd, show i + 1 - i = 1 by omega]; simp
    · rw [if_neg h3] at h
      obtain ⟨a1, a2, a3, m, rfl, a4, a5⟩ := rd_once r (i + 1) _ bs n k h
      have e2 : 2 ^ (7 * (i + 1)) = 2 ^ (7 * i) * 128 := by rw [show 7 * (i + 1) = 7 * i + 7 by omega, Nat.pow_add]
      have hm1 : 1 ≤ m := by omega
      refine ⟨by omega, a2, a3, c.toNat % 128 + m * 128, ?_, ?_, fun hz => by omega⟩
      · rw [e2, Nat.add_mul, Nat.mul_assoc m 128, Nat.mul_comm 128]; omega
      · rw [enc_ge (by omega), hd, show k - i = (k - (i + 1)) + 1 by omega, List.take_succ_cons]
        have e3 : (c.toNat % 128 + m * 128) / 128 = m := by omega
        have e4 : (c.toNat % 128 + m * 128) % 128 + 128 = c.toNat := by omega
        rw [e3, e4, hof, a4]

theorem readNum_once {bs : List UInt8} {n k : Nat} (h : readNum bs = (n, k, 0)) : 1 ≤ k ∧ k ≤ bs.length ∧ n ≤ 4611686018427387904 ∧ enc n = bs.take k := by
  obtain ⟨a1, a2, a3, m, e, a4, -⟩ := rd_once 9 0 0 bs n k h
  have : n = m := by simpa using e
  subst this
  exact ⟨by omega, a2, a3, by simpa using a4⟩

/-- With an error number and size are zeros, and the error is one of two. -/
theorem rd_err : ∀ (r i acc : Nat) (bs : List UInt8), ((rd bs r i acc).2.2 = 0) ∨ rd bs r i acc = (0, 0, 4) ∨ rd bs r i acc = (0, 0, 5)
  | 0, i, acc, bs => by simp [rd]
  | r + 1, i, acc, bs => by
    rw [rd]
    by_cases h1 : i = bs.length
    · rw [if_pos h1]; simp
    rw [if_neg h1]
    by_cases h2 : 4611686018427387904 < acc + (bs.getD i 0).toNat % 128 * 2 ^ (7 * i) ∨ ((bs.getD i 0).toNat = 0 ∧ 0 < i)
    · rw [if_pos h2]; simp
    rw [if_neg h2]
    by_cases h3 : (bs.getD i 0).toNat < 128
    · rw [if_pos h3]; simp
    · rw [if_neg h3]; exact rd_err r _ _ bs

theorem readNum_err (bs : List UInt8) : (∃ n k, readNum bs = (n, k, 0)) ∨ readNum bs = (0, 0, 4) ∨ readNum bs = (0, 0, 5) := by
  rcases rd_err 9 0 0 bs with h | h
  · left; exact ⟨_, _, by rw [← h]; rfl⟩
  · right; exact h

/-- A count: number, size, error. -/
def readCount (bs : List UInt8) (lim : Nat) : Nat × Nat × Nat :=
  if (readNum bs).2.2 ≠ 0 then (0, 0, (readNum bs).2.2) else if lim < (readNum bs).1 then (0, 0, 3) else ((readNum bs).1, (readNum bs).2.1, 0)

theorem readCount_cases (bs : List UInt8) (lim : Nat) :
    (∃ n k, readNum bs = (n, k, 0) ∧ n ≤ lim ∧ readCount bs lim = (n, k, 0)) ∨ (∃ e, (e = 3 ∨ e = 4 ∨ e = 5) ∧ readCount bs lim = (0, 0, e)) := by
  unfold readCount
  rcases readNum_err bs with ⟨n, k, h⟩ | h | h
  · rw [h]
    by_cases hl : lim < n
    · right; exact ⟨3, by simp, by simp [hl]⟩
    · left; exact ⟨n, k, rfl, by omega, by simp [hl]⟩
  · right; exact ⟨4, by simp, by rw [h]; simp⟩
  · right; exact ⟨5, by simp, by rw [h]; simp⟩

/-- A text's bytes, and what bytes are read as. -/
def encText (s : List UInt8) : List UInt8 := enc s.length ++ s
def readText (bs : List UInt8) : List UInt8 × Nat × Nat :=
  if (readCount bs 4096).2.2 ≠ 0 then ([], 0, (readCount bs 4096).2.2)
  else if bs.length - (readCount bs 4096).2.1 < (readCount bs 4096).1 then ([], 0, 4)
  else ((bs.drop (readCount bs 4096).2.1).take (readCount bs 4096).1, (readCount bs 4096).2.1 + (readCount bs 4096).1, 0)

theorem readCount_ok {bs : List UInt8} {n k lim : Nat} (h : readNum bs = (n, k, 0)) (hl : n ≤ lim) : readCount bs lim = (n, k, 0) := by
  unfold readCount; rw [h]; simp; omega

theorem readText_back {s : List UInt8} (hs : s.length ≤ 4096) (rest : List UInt8) : readText (encText s ++ rest) = (s, (encText s).length, 0) := by
  have h := readNum_enc (n := s.length) (by omega) (s ++ rest)
  unfold readText encText
  rw [List.append_assoc, readCount_ok h hs]
  simp only [ne_eq, not_true_eq_false, if_false]
  rw [if_neg (by simp), List.drop_left, List.take_left]
  simp

theorem readText_once {bs s : List UInt8} {k : Nat} (h : readText bs = (s, k, 0)) : 1 ≤ k ∧ k ≤ bs.length ∧ s.length ≤ 4096 ∧ encText s = bs.take k := by
  unfold readText at h
  rcases readCount_cases bs 4096 with ⟨n, j, h1, h2, h3⟩ | ⟨e, h1, h3⟩
  · rw [h3] at h
    simp only [ne_eq, not_true_eq_false, if_false] at h
    by_cases h4 : bs.length - j < n
    · rw [if_pos h4] at h; simp at h
    · rw [if_neg h4] at h
      simp only [Prod.mk.injEq] at h
      obtain ⟨rfl, rfl, -⟩ := h
      obtain ⟨a1, a2, a3, a4⟩ := readNum_once h1
      have hl : ((bs.drop j).take n).length = n := by rw [List.length_take, List.length_drop]; omega
      refine ⟨by omega, by omega, by omega, ?_⟩
      unfold encText
      rw [hl, a4, List.take_add]
  · rw [h3] at h
    rw [if_pos (by simp; omega)] at h
    simp at h; omega

/- Lists: the items one behind the other. -/
section
variable {α : Type}
def rl (read : List UInt8 → α × Nat × Nat) (bs : List UInt8) : Nat → List α → Nat → List α × Nat × Nat
  | 0, acc, p => (acc, p, 0)
  | n + 1, acc, p => if (read (bs.drop p)).2.2 ≠ 0 then ([], 0, (read (bs.drop p)).2.2) else rl read bs n (acc ++ [(read (bs.drop p)).1]) (p + (read (bs.drop p)).2.1)

def readList (read : List UInt8 → α × Nat × Nat) (bs : List UInt8) : List α × Nat × Nat :=
  if (readCount bs 1024).2.2 ≠ 0 then ([], 0, (readCount bs 1024).2.2) else rl read bs (readCount bs 1024).1 [] (readCount bs 1024).2.1

def encList (e : α → List UInt8) (l : List α) : List UInt8 := enc l.length ++ l.flatMap e

theorem rl_back {read : List UInt8 → α × Nat × Nat} {e : α → List UInt8} : ∀ (l : List α), (∀ x ∈ l, ∀ rest, read (e x ++ rest) = (x, (e x).length, 0)) → ∀ (acc : List α) (pre rest : List UInt8),
    rl read (pre ++ (l.flatMap e ++ rest)) l.length acc pre.length = (acc ++ l, pre.length + (l.flatMap e).length, 0)
  | [], _, acc, pre, rest => by simp [rl]
  | x :: l, h, acc, pre, rest => by
    have h1 := h x (by simp) (l.flatMap e ++ rest)
    have e1 : pre ++ ((x :: l).flatMap e ++ rest) = pre ++ (e x ++ (l.flatMap e ++ rest)) := by simp
    rw [e1, List.length_cons, rl, List.drop_left, h1]
    simp only [ne_eq, not_true_eq_false, if_false]
    have e2 : pre ++ (e x ++ (l.flatMap e ++ rest)) = (pre ++ e x) ++ (l.flatMap e ++ rest) := by simp
    rw [e2, ← List.length_append, rl_back l (fun y hy => h y (by simp [hy]))]
    simp [Nat.add_assoc]

theorem readList_back {read : List UInt8 → α × Nat × Nat} {e : α → List UInt8} {l : List α} (hl : l.length ≤ 1024) (h : ∀ x ∈ l, ∀ rest, read (e x ++ rest) = (x, (e x).length, 0)) (rest : List UInt8) :
    readList read (encList e l ++ rest) = (l, (encList e l).length, 0) := by
  have h1 := readNum_enc (n := l.length) (by omega) (l.flatMap e ++ rest)
  unfold readList encList
  rw [List.append_assoc, readCount_ok h1 hl]
  simp only [ne_eq, not_true_eq_false, if_false]
  rw [rl_back l h]
  simp

/-- Cut anywhere a list is short, if its items are. -/
theorem rl_cut {read : List UInt8 → α × Nat × Nat} {e : α → List UInt8} : ∀ (l : List α), (∀ x ∈ l, ∀ rest, read (e x ++ rest) = (x, (e x).length, 0)) → (∀ x ∈ l, ∀ k, k < (e x).length → (read ((e x).take k)).2.2 = 4) →
    ∀ (acc : List α) (pre : List UInt8) (k : Nat), k < (l.flatMap e).length → rl read (pre ++ (l.flatMap e).take k) l.length acc pre.length = ([], 0, 4)
  | [], _, _, acc, pre, k, hk => by simp at hk
  | x :: l, h, hc, acc, pre, k, hk => by
    rw [List.length_cons, rl, List.drop_left]
    by_cases h1 : k < (e x).length
    · have e1 : ((x :: l).flatMap e).take k = (e x).take k := by
        rw [List.flatMap_cons, List.take_append_of_le_length (by omega)]
      rw [e1, if_pos (by rw [hc x (by simp) k h1]; simp), hc x (by simp) k h1]
    · have e1 : ((x :: l).flatMap e).take k = e x ++ (l.flatMap e).take (k - (e x).length) := by
        rw [List.flatMap_cons, List.take_append, List.take_of_length_le (by omega)]
      rw [e1, h x (by simp)]
      simp only [ne_eq, not_true_eq_false, if_false]
      rw [← List.append_assoc, ← List.length_append]
      refine rl_cut l (fun y hy => h y (by simp [hy])) (fun y hy => hc y (by simp [hy])) _ _ _ ?_
      simp only [List.flatMap_cons, List.length_append] at hk
      omega

theorem readList_cut {read : List UInt8 → α × Nat × Nat} {e : α → List UInt8} {l : List α} (hl : l.length ≤ 1024) (h : ∀ x ∈ l, ∀ rest, read (e x ++ rest) = (x, (e x).length, 0))
    (hc : ∀ x ∈ l, ∀ k, k < (e x).length → (read ((e x).take k)).2.2 = 4) {k : Nat} (hk : k < (encList e l).length) : readList read ((encList e l).take k) = ([], 0, 4) := by
  unfold readList encList at *
  by_cases h1 : k < (enc l.length).length
  · have e1 : (enc l.length ++ l.flatMap e).take k = (enc l.length).take k := List.take_append_of_le_length (by omega)
    have h2 := readNum_cut (n := l.length) (k := k) (by omega) h1
    rw [e1]
    have : readCount ((enc l.length).take k) 1024 = (0, 0, 4) := by unfold readCount; rw [h2]; simp
    rw [this]; simp
  · have e1 : (enc l.length ++ l.flatMap e).take k = enc l.length ++ (l.flatMap e).take (k - (enc l.length).length) := by
      rw [List.take_append, List.take_of_length_le (by omega)]
    have h2 := readNum_enc (n := l.length) (by omega) ((l.flatMap e).take (k - (enc l.length).length))
    rw [e1, readCount_ok h2 hl]
    simp only [ne_eq, not_true_eq_false, if_false]
    refine rl_cut l h hc _ _ _ ?_
    simp only [List.length_append] at hk
    omega

theorem rl_once {read : List UInt8 → α × Nat × Nat} {e : α → List UInt8} (hr : ∀ bs x k, read bs = (x, k, 0) → k ≤ bs.length ∧ e x = bs.take k) :
    ∀ (n : Nat) (acc : List α) (p : Nat) (bs : List UInt8) (l : List α) (k : Nat), p ≤ bs.length → rl read bs n acc p = (l, k, 0) →
      ∃ l', l = acc ++ l' ∧ l'.length = n ∧ p ≤ k ∧ k ≤ bs.length ∧ l'.flatMap e = (bs.drop p).take (k - p)
  | 0, acc, p, bs, l, k, hp, h => by
    simp only [rl, Prod.mk.injEq] at h
    obtain ⟨rfl, rfl, -⟩ := h
    exact ⟨[], by simp, rfl, Nat.le_refl _, hp, by simp⟩
  | n + 1, acc, p, bs, l, k, hp, h => by
    rw [rl] at h
    by_cases h1 : (read (bs.drop p)).2.2 ≠ 0
    · rw [if_pos h1] at h
      simp only [Prod.mk.injEq] at h
      exact absurd h.2.2 h1
    · rw [if_neg h1] at h
      have h0 : (read (bs.drop p)).2.2 = 0 := by simpa using h1
      obtain ⟨x, j, hx⟩ : ∃ x j, read (bs.drop p) = (x, j, 0) := ⟨_, _, by rw [← h0]⟩
      rw [hx] at h
      obtain ⟨b1, b2⟩ := hr _ _ _ hx
      rw [List.length_drop] at b1
      obtain ⟨l', rfl, a2, a3, a4, a5⟩ := rl_once hr n _ _ bs l k (by simp only; omega) h
      simp only at a3 a5
      refine ⟨x :: l', by simp, by simp [a2], by omega, a4, ?_⟩
      rw [List.flatMap_cons, b2, a5, show k - p = j + (k - (p + j)) by omega, List.take_add, List.drop_drop]

theorem readList_once {read : List UInt8 → α × Nat × Nat} {e : α → List UInt8} (hr : ∀ bs x k, read bs = (x, k, 0) → k ≤ bs.length ∧ e x = bs.take k)
    {bs : List UInt8} {l : List α} {k : Nat} (h : readList read bs = (l, k, 0)) : k ≤ bs.length ∧ l.length ≤ 1024 ∧ encList e l = bs.take k := by
  unfold readList at h
  rcases readCount_cases bs 1024 with ⟨n, j, h1, h2, h3⟩ | ⟨er, h1, h3⟩
  · rw [h3] at h
    simp only [ne_eq, not_true_eq_false, if_false] at h
    obtain ⟨a1, a2, a3, a4⟩ := readNum_once h1
    obtain ⟨l', rfl, c2, c3, c4, c5⟩ := rl_once hr n [] j bs l k a2 h
    refine ⟨c4, by simpa [c2] using h2, ?_⟩
    unfold encList
    rw [c2, a4, c5]
    rw [← List.take_add, show j + (k - j) = k by omega]
  · rw [h3] at h
    rw [if_pos (by simp; omega)] at h
    simp at h; omega

/-- Each item of a list that was read was read. -/
theorem rl_items {read : List UInt8 → α × Nat × Nat} {Q : α → Prop} (hr : ∀ bs x k, read bs = (x, k, 0) → Q x) :
    ∀ (n : Nat) (acc : List α) (p : Nat) (bs : List UInt8) (l : List α) (k : Nat), (∀ x ∈ acc, Q x) → rl read bs n acc p = (l, k, 0) → ∀ x ∈ l, Q x
  | 0, acc, p, bs, l, k, ha, h => by
    simp only [rl, Prod.mk.injEq] at h
    obtain ⟨rfl, -, -⟩ := h
    exact ha
  | n + 1, acc, p, bs, l, k, ha, h => by
    rw [rl] at h
    by_cases h1 : (read (bs.drop p)).2.2 ≠ 0
    · rw [if_pos h1] at h
      simp only [Prod.mk.injEq] at h
      exact absurd h.2.2 h1
    · rw [if_neg h1] at h
      have h0 : (read (bs.drop p)).2.2 = 0 := by simpa using h1
      obtain ⟨x, j, hx⟩ : ∃ x j, read (bs.drop p) = (x, j, 0) := ⟨_, _, by rw [← h0]⟩
      rw [hx] at h
      refine rl_items hr n _ _ bs l k ?_ h
      intro y hy
      rcases List.mem_append.1 hy with hy | hy
      · exact ha y hy
      · rw [List.mem_singleton.1 hy]; exact hr _ _ _ hx

theorem readList_items {read : List UInt8 → α × Nat × Nat} {Q : α → Prop} (hr : ∀ bs x k, read bs = (x, k, 0) → Q x) {bs : List UInt8} {l : List α} {k : Nat} (h : readList read bs = (l, k, 0)) : ∀ x ∈ l, Q x := by
  unfold readList at h
  by_cases h1 : (readCount bs 1024).2.2 ≠ 0
  · rw [if_pos h1] at h
    simp only [Prod.mk.injEq] at h
    exact absurd h.2.2 h1
  · rw [if_neg h1] at h
    exact rl_items hr _ _ _ bs l k (by simp) h
end

theorem readText_cut {s : List UInt8} (hs : s.length ≤ 4096) {k : Nat} (hk : k < (encText s).length) : readText ((encText s).take k) = ([], 0, 4) := by
  unfold encText at *
  unfold readText
  by_cases h1 : k < (enc s.length).length
  · have e1 : (enc s.length ++ s).take k = (enc s.length).take k := List.take_append_of_le_length (by omega)
    have h2 := readNum_cut (n := s.length) (k := k) (by omega) h1
    rw [e1]
    have : readCount ((enc s.length).take k) 4096 = (0, 0, 4) := by unfold readCount; rw [h2]; simp
    rw [this]; simp
  · have e1 : (enc s.length ++ s).take k = enc s.length ++ s.take (k - (enc s.length).length) := by
      rw [List.take_append, List.take_of_length_le (by omega)]
    have h2 := readNum_enc (n := s.length) (by omega) (s.take (k - (enc s.length).length))
    rw [e1, readCount_ok h2 hs]
    simp only [ne_eq, not_true_eq_false, if_false, List.length_append] at hk ⊢
    rw [if_pos (by rw [List.length_take]; omega)]
end Go.Proofs.YtcpmcfagibmboabGreat.Pl
