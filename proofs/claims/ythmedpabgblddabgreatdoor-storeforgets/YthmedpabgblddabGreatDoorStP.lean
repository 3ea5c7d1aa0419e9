/-
  A store as plain lists: what slots have, records, snapshots, what each call leaves; what holds of every store. Nothing of the program.
-/
import Derived.Test.YthmedpabgblddabGreatDoorSgR
namespace Go.Proofs.YthmedpabgblddabGreatDoor.Tp
open Pl Sq Sr
set_option linter.unusedVariables false

/-- What a slot has. -/
structure V where
  bal : Nat
  val : List UInt8
abbrev Sl := List (Nat × V)
def put : Sl → Nat → V → Sl
  | [], k, v => [(k, v)]
  | (a, x) :: r, k, v => if k < a then (k, v) :: (a, x) :: r else if k = a then (k, v) :: r else (a, x) :: put r k v
def atS : Sl → Nat → Option V
  | [], _ => none
  | (a, x) :: r, k => if a = k then some x else atS r k
def Srt (l : Sl) : Prop := l.Pairwise (fun p q => p.1 < q.1)
/-- 1 and the greatest slot. -/
def tops (l : Sl) : Nat := l.foldr (fun p a => max (p.1 + 1) a) 0
theorem tops_cons (p : Nat × V) (l : Sl) : tops (p :: l) = max (p.1 + 1) (tops l) := rfl
theorem lt_tops {l : Sl} {p : Nat × V} (h : p ∈ l) : p.1 < tops l := by
  induction l with
  | nil => cases h
  | cons q l ih =>
    rw [tops_cons]
    rcases List.mem_cons.1 h with rfl | h
    · omega
    · have := ih h; omega
theorem tops_le {l : Sl} {n : Nat} (h : ∀ p ∈ l, p.1 + 1 ≤ n) : tops l ≤ n := by
  induction l with
  | nil => exact Nat.zero_le _
  | cons q l ih =>
    rw [tops_cons]
    have := ih (fun p hp => h p (by simp [hp]))
    have := h q (by simp)
    omega
theorem mem_put {l : Sl} {k : Nat} {v : V} {p : Nat × V} (h : p ∈ put l k v) : p = (k, v) ∨ p ∈ l := by
  induction l with
  | nil => simp [put] at h; exact .inl h
  | cons q l ih =>
    obtain ⟨a, x⟩ := q
    rw [put] at h
    split at h
    · rcases List.mem_cons.1 h with h | h
      · exact .inl h
      · exact .inr h
    · split at h
      · rcases List.mem_cons.1 h with h | h
        · exact .inl h
        · exact .inr (by simp [h])
      · rcases List.mem_cons.1 h with h | h
        · exact .inr (by simp [h])
        · rcases ih h with h | h
          · exact .inl h
          · exact .inr (by simp [h])
theorem srt_put {l : Sl} (hs : Srt l) (k : Nat) (v : V) : Srt (put l k v) := by
  induction l with
  | nil => simp [put, Srt]
  | cons q l ih =>
    obtain ⟨a, x⟩ := q
    obtain ⟨h1, h2⟩ := List.pairwise_cons.1 hs
    rw [put]
    split
    · rename_i hk
      refine List.pairwise_cons.2 ⟨fun p hp => ?_, hs⟩
      rcases List.mem_cons.1 hp with rfl | hp
      · exact hk
      · have := h1 p hp; simp only at this ⊢; omega
    · split
      · rename_i hk
        subst hk
        exact List.pairwise_cons.2 ⟨h1, h2⟩
      · refine List.pairwise_cons.2 ⟨fun p hp => ?_, ih h2⟩
        rcases mem_put hp with rfl | hp
        · simp only; omega
        · exact h1 p hp
theorem atS_put (l : Sl) (k : Nat) (v : V) (j : Nat) : atS (put l k v) j = if j = k then some v else atS l j := by
  induction l with
  | nil => simp [put, atS]; split <;> split <;> first | rfl | omega
  | cons q l ih =>
    obtain ⟨a, x⟩ := q
    rw [put]
    split
    · simp only [atS]
      by_cases h : j = k
      · subst h; simp
      · rw [if_neg (fun e => h e.symm), if_neg h]
    · split
      · rename_i hk
        subst hk
        simp only [atS]
        by_cases h : j = k
        · subst h; simp
        · rw [if_neg (fun e => h e.symm), if_neg h, if_neg (fun e => h e.symm)]
      · simp only [atS, ih]
        by_cases h : j = k
        · subst h; rw [if_pos rfl]; rw [if_neg (by omega), if_pos rfl]
        · rw [if_neg h, if_neg h]
theorem atS_mem {l : Sl} {k : Nat} {v : V} (h : atS l k = some v) : (k, v) ∈ l := by
  induction l with
  | nil => simp [atS] at h
  | cons q l ih =>
    obtain ⟨a, x⟩ := q
    rw [atS] at h
    split at h
    · rename_i e
      subst e
      cases h
      simp
    · simp [ih h]
theorem mem_atS {l : Sl} (hs : Srt l) {k : Nat} {v : V} (h : (k, v) ∈ l) : atS l k = some v := by
  induction l with
  | nil => cases h
  | cons q l ih =>
    obtain ⟨a, x⟩ := q
    obtain ⟨h1, h2⟩ := List.pairwise_cons.1 hs
    rw [atS]
    rcases List.mem_cons.1 h with h | h
    · cases h; simp
    · have := h1 _ h
      simp only at this
      rw [if_neg (by omega)]
      exact ih h2 h
theorem put_snoc {l : Sl} {k : Nat} {v : V} (h : ∀ p ∈ l, p.1 < k) : put l k v = l ++ [(k, v)] := by
  induction l with
  | nil => rfl
  | cons q l ih =>
    obtain ⟨a, x⟩ := q
    have := h (a, x) (by simp)
    simp only at this
    rw [put, if_neg (by omega), if_neg (by omega), ih (fun p hp => h p (by simp [hp]))]
    rfl
theorem srt_filter {l : Sl} (hs : Srt l) (f : Nat × V → Bool) : Srt (l.filter f) := List.Pairwise.filter f hs
theorem atS_filter {l : Sl} (n j : Nat) : atS (l.filter (fun p => decide (n ≤ p.1))) j = if n ≤ j then atS l j else none := by
  induction l with
  | nil => simp [atS]
  | cons q l ih =>
    obtain ⟨a, x⟩ := q
    rw [List.filter_cons]
    by_cases h : n ≤ a
    · simp only [decide_eq_true h, if_true, atS]
      by_cases e : a = j
      · subst e; simp [h]
      · rw [if_neg e, if_neg e, ih]
    · simp only [decide_eq_false h, atS]
      rw [if_neg (by simp), ih]
      by_cases e : a = j
      · subst e; rw [if_neg h, if_neg h]
      · rw [if_neg e]
/-- Told slot by slot. -/
theorem filter_lt_succ {l : Sl} (hs : Srt l) (k : Nat) : l.filter (fun p => decide (p.1 < k + 1)) = l.filter (fun p => decide (p.1 < k)) ++ (match atS l k with | none => [] | some v => [(k, v)]) := by
  induction l with
  | nil => simp [atS]
  | cons q l ih =>
    obtain ⟨a, x⟩ := q
    obtain ⟨h1, h2⟩ := List.pairwise_cons.1 hs
    simp only at h1
    rw [List.filter_cons, List.filter_cons, atS]
    by_cases e : a = k
    · subst e
      have n1 : l.filter (fun p => decide (p.1 < a + 1)) = [] := List.filter_eq_nil_iff.2 (fun p hp => by have := h1 p hp; simp; omega)
      have n2 : l.filter (fun p => decide (p.1 < a)) = [] := List.filter_eq_nil_iff.2 (fun p hp => by have := h1 p hp; simp; omega)
      simp [n1, n2]
    · rw [if_neg e]
      by_cases hk : a < k
      · rw [if_pos (by simp; omega), if_pos (by simp; omega), ih h2]; rfl
      · rw [if_neg (by simp; omega), if_neg (by simp; omega), ih h2]
theorem filter_all {l : Sl} {n : Nat} (h : ∀ p ∈ l, p.1 < n) : l.filter (fun p => decide (p.1 < n)) = l := List.filter_eq_self.2 (fun p hp => by simp [h p hp])
theorem len_le {l : Sl} (hs : Srt l) {n : Nat} (h : ∀ p ∈ l, p.1 ≤ n) : l.length ≤ n + 1 := by
  have : ∀ (l : Sl) (a : Nat), Srt l → (∀ p ∈ l, a ≤ p.1 ∧ p.1 ≤ n) → a ≤ n + 1 → l.length + a ≤ n + 1 := by
    intro l
    induction l with
    | nil => intro a _ _ h; simpa using h
    | cons q l ih =>
      intro a hs h _
      obtain ⟨h1, h2⟩ := List.pairwise_cons.1 hs
      have hq := h q (by simp)
      have := ih (q.1 + 1) h2 (fun p hp => ⟨h1 p hp, (h p (by simp [hp])).2⟩) (by omega)
      rw [List.length_cons]; omega
  have := this l 0 hs (fun p hp => ⟨Nat.zero_le _, h p hp⟩) (Nat.zero_le _)
  omega

/-- The promise, the base, and what slots have. -/
structure M where
  pr : Nat
  ba : Nat
  sl : Sl
def m0 : M := ⟨0, 0, []⟩
inductive Rc where
  | pm (b : Nat)
  | ac (s b : Nat) (v : List UInt8)
  | bs (n : Nat)
def ap (m : M) : Rc → M
  | .pm b => { m with pr := max m.pr b }
  | .ac s b v => { m with pr := max m.pr b, sl := put m.sl s ⟨b, v⟩ }
  | .bs n => { m with ba := max m.ba n, sl := m.sl.filter (fun p => decide (max m.ba n ≤ p.1)) }
def rp (m : M) (l : List Rc) : M := l.foldl ap m
theorem rp_snoc (m : M) (l : List Rc) (r : Rc) : rp m (l ++ [r]) = ap (rp m l) r := by simp [rp]
theorem rp_app (m : M) (l k : List Rc) : rp m (l ++ k) = rp (rp m l) k := by simp [rp]
/-- A record's bytes. -/
def eR : Rc → List UInt8
  | .pm b => enc 1 ++ enc b
  | .ac s b v => enc 2 ++ (enc s ++ (enc b ++ v))
  | .bs n => enc 3 ++ enc n
/-- A snapshot's bytes. -/
def eS : Sl → List UInt8
  | [] => []
  | (k, v) :: r => enc k ++ (enc v.bal ++ (enc v.val.length ++ (v.val ++ eS r)))
def eM (m : M) : List UInt8 := enc m.pr ++ (enc m.ba ++ (enc m.sl.length ++ eS m.sl))
theorem eS_app (l k : Sl) : eS (l ++ k) = eS l ++ eS k := by
  induction l with
  | nil => rfl
  | cons p l ih => obtain ⟨a, x⟩ := p; simp [eS, ih]

def big : Nat := 1099511627776
structure OkM (m : M) : Prop where
  pr : m.pr ≤ 1099511627776
  ba : m.ba ≤ 1099511627776
  srt : Srt m.sl
  at' : ∀ p ∈ m.sl, m.ba ≤ p.1 ∧ p.1 ≤ 60 ∧ p.2.bal ≤ m.pr ∧ p.2.val.length ≤ 300
theorem ok0 : OkM m0 := ⟨by simp [m0], by simp [m0], List.Pairwise.nil, fun p hp => by simp [m0] at hp⟩
def okR (m : M) : Rc → Prop
  | .pm b => b ≤ 1099511627776
  | .ac s b v => m.ba ≤ s ∧ s ≤ 60 ∧ b ≤ 1099511627776 ∧ v.length ≤ 300
  | .bs n => n ≤ 1099511627776
theorem OkM.ap {m : M} (h : OkM m) {r : Rc} (hr : okR m r) : OkM (Tp.ap m r) := by
  cases r with
  | pm b =>
    have := h.pr
    simp only [okR] at hr
    exact ⟨by simp only [Tp.ap]; omega, h.ba, h.srt, fun p hp => by have := h.at' p hp; simp only [Tp.ap]; omega⟩
  | ac s b v =>
    simp only [okR] at hr
    have := h.pr
    refine ⟨by simp only [Tp.ap]; omega, h.ba, srt_put h.srt _ _, fun p hp => ?_⟩
    simp only [Tp.ap] at hp ⊢
    rcases mem_put hp with rfl | hp
    · simp only; omega
    · have := h.at' p hp; omega
  | bs n =>
    simp only [okR] at hr
    have := h.ba
    refine ⟨h.pr, by simp only [Tp.ap]; omega, srt_filter h.srt _, fun p hp => ?_⟩
    simp only [Tp.ap] at hp ⊢
    obtain ⟨h1, h2⟩ := List.mem_filter.1 hp
    have := h.at' p h1
    simp only [decide_eq_true_eq] at h2
    omega
theorem OkM.len {m : M} (h : OkM m) : m.sl.length ≤ 61 := len_le h.srt (fun p hp => (h.at' p hp).2.1)
def Wf : M → List Rc → Prop
  | m, [] => OkM m
  | m, r :: l => OkM m ∧ okR m r ∧ Wf (ap m r) l
theorem Wf.ok : ∀ {l : List Rc} {m : M}, Wf m l → OkM (rp m l)
  | [], _, h => h
  | r :: l, m, h => by have := Wf.ok (l := l) (m := Tp.ap m r) h.2.2; exact this
theorem Wf.ok0 : ∀ {l : List Rc} {m : M}, Wf m l → OkM m
  | [], _, h => h
  | _ :: _, _, h => h.1
theorem Wf.snoc : ∀ {l : List Rc} {m : M} {r : Rc}, Wf m l → okR (rp m l) r → Wf m (l ++ [r])
  | [], m, r, h, hr => ⟨h, hr, h.ap hr⟩
  | _ :: _, _, _, h, hr => ⟨h.1, h.2.1, Wf.snoc h.2.2 hr⟩
theorem Wf.take : ∀ {l : List Rc} {m : M} (j : Nat), Wf m l → Wf m (l.take j)
  | [], _, _, h => by simpa using h
  | _ :: _, _, 0, h => h.1
  | _ :: _, _, j + 1, h => ⟨h.1, h.2.1, Wf.take j h.2.2⟩
theorem Wf.okR : ∀ {l : List Rc} {m : M}, Wf m l → ∀ {j : Nat} {r : Rc}, l[j]? = some r → Tp.okR (rp m (l.take j)) r
  | [], _, _, j, r, hr => by simp at hr
  | x :: l, m, h, 0, r, hr => by simp at hr; subst hr; exact h.2.1
  | x :: l, m, h, j + 1, r, hr => by
    simp only [List.getElem?_cons_succ] at hr
    exact Wf.okR h.2.2 hr
theorem eR_len {m : M} {r : Rc} (h : Tp.okR m r) : (eR r).length ≤ 400 := by
  have e1 : (enc 1).length ≤ 9 := enc_len9 (by omega)
  have e2 : (enc 2).length ≤ 9 := enc_len9 (by omega)
  have e3 : (enc 3).length ≤ 9 := enc_len9 (by omega)
  cases r with
  | pm b => simp only [Tp.okR] at h; have := enc_len9 (n := b) (by omega); simp only [eR, List.length_append]; omega
  | ac s b v => simp only [Tp.okR] at h; have := enc_len9 (n := b) (by omega); have := enc_len9 (n := s) (by omega); simp only [eR, List.length_append]; omega
  | bs n => simp only [Tp.okR] at h; have := enc_len9 (n := n) (by omega); simp only [eR, List.length_append]; omega
theorem eS_len {l : Sl} (h : ∀ p ∈ l, p.1 ≤ 60 ∧ p.2.bal ≤ 1099511627776 ∧ p.2.val.length ≤ 300) : (eS l).length ≤ 327 * l.length := by
  induction l with
  | nil => simp [eS]
  | cons p l ih =>
    obtain ⟨k, v⟩ := p
    have h1 := h (k, v) (by simp)
    simp only at h1
    have := ih (fun q hq => h q (by simp [hq]))
    have := enc_len9 (n := k) (by omega)
    have := enc_len9 (n := v.bal) (by omega)
    have := enc_len9 (n := v.val.length) (by omega)
    simp only [eS, List.length_append, List.length_cons]
    omega
theorem OkM.elen {m : M} (h : OkM m) : (eM m).length ≤ 21000 := by
  have h1 := h.len
  have h2 := eS_len (l := m.sl) (fun p hp => by have := h.at' p hp; have := h.pr; omega)
  have := h.pr
  have := h.ba
  have := enc_len9 (n := m.pr) (by omega)
  have := enc_len9 (n := m.ba) (by omega)
  have := enc_len9 (n := m.sl.length) (by omega)
  simp only [eM, List.length_append]
  omega
end Go.Proofs.YthmedpabgblddabGreatDoor.Tp
