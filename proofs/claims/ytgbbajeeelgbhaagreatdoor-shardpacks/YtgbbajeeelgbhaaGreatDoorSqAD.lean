/-
  PlP PlR Plain Reads, joined by mrg.py.
-/
import Derived.WalkKit
import Derived.Test.YtgbbajeeelgbhaaGreatDoorSqAA
import Derived.Test.YtgbbajeeelgbhaaGreatDoorRows

namespace Go.Proofs.YtgbbajeeelgbhaaGreatDoor.Pl
set_option linter.unusedVariables false

/-- A range: its Lo, its Hi. -/
abbrev Rg := Int × Int
def may (r : Rg) : Bool := decide (0 ≤ r.1 ∧ r.1 < r.2 ∧ r.2 ≤ 65536)
def inn (r : Rg) (p : Int) : Bool := decide (may r = true ∧ r.1 ≤ p ∧ p < r.2)
theorem may_iff (r : Rg) : may r = true ↔ 0 ≤ r.1 ∧ r.1 < r.2 ∧ r.2 ≤ 65536 := by simp [may]
theorem inn_iff (r : Rg) (p : Int) : inn r p = true ↔ (0 ≤ r.1 ∧ r.1 < r.2 ∧ r.2 ≤ 65536) ∧ r.1 ≤ p ∧ p < r.2 := by simp [inn, may_iff]
theorem inn_iff' (r : Rg) (p : Int) (h : may r = true) : inn r p = true ↔ r.1 ≤ p ∧ p < r.2 := by simp [inn, h]

/-- What two have in common. -/
def meet (a b : Rg) : Rg := if may a = true ∧ may b = true ∧ a.1 < b.2 ∧ b.1 < a.2 then (max a.1 b.1, min a.2 b.2) else (0, 0)

/-- Where the first range with a place is. -/
def fnd : List Rg → Int → Nat → Int
  | [], _, _ => -1
  | r :: t, p, k => if inn r p then k else fnd t p (k + 1)
def has (l : List Rg) (p : Int) : Bool := l.any (inn · p)
theorem has_iff (l : List Rg) (p : Int) : has l p = true ↔ ∃ x ∈ l, inn x p = true := by simp [has]
theorem has_nil (p : Int) : has [] p = false := rfl
theorem has_cons (x : Rg) (l : List Rg) (p : Int) : has (x :: l) p = (inn x p || has l p) := rfl
theorem has_append (a b : List Rg) (p : Int) : has (a ++ b) p = (has a p || has b p) := by simp [has]
theorem fnd_neg (l : List Rg) (p : Int) : ∀ k, (fnd l p k < 0 ↔ has l p = false) := by
  induction l with
  | nil => intro k; simp [fnd, has]
  | cons r t ih =>
    intro k
    rw [fnd, has_cons]
    cases h : inn r p
    · simpa using ih (k + 1)
    · simp

/-- One taken out of one, of many. -/
def cut1 (r x : Rg) : List Rg :=
  if may x = true then (if may r = true ∧ x.1 < r.2 ∧ r.1 < x.2 then (if x.1 < r.1 then [(x.1, r.1)] else []) ++ (if r.2 < x.2 then [(r.2, x.2)] else []) else [x]) else []
def cut (l : List Rg) (r : Rg) : List Rg := l.flatMap (cut1 r)

theorem cut1_may (r x y : Rg) (h : y ∈ cut1 r x) : may y = true := by
  unfold cut1 at h
  split at h
  · rename_i hx
    split at h
    · rename_i hr
      have hx' := (may_iff x).1 hx
      have hr' := (may_iff r).1 hr.1
      rw [List.mem_append] at h
      rcases h with h | h
      · split at h
        · simp at h; subst h; rw [may_iff]; dsimp only; omega
        · simp at h
      · split at h
        · simp at h; subst h; rw [may_iff]; dsimp only; omega
        · simp at h
    · simp at h; subst h; exact hx
  · simp at h

theorem cut1_meet (r x y : Rg) (h : y ∈ cut1 r x) : meet y r = (0, 0) := by
  unfold cut1 at h
  unfold meet
  rw [if_neg]
  intro ⟨h1, h2, h3, h4⟩
  split at h
  · rename_i hx
    split at h
    · rename_i hr
      rw [List.mem_append] at h
      rcases h with h | h
      · split at h
        · simp at h; subst h; dsimp only at *; omega
        · simp at h
      · split at h
        · simp at h; subst h; dsimp only at *; omega
        · simp at h
    · rename_i hr
      simp at h; subst h
      exact hr ⟨h2, h3, h4⟩
  · simp at h

theorem cut1_free (r y : Rg) (h1 : may y = true) (h2 : meet y r = (0, 0)) : cut1 r y = [y] := by
  have h1' := (may_iff y).1 h1
  unfold cut1
  rw [if_pos h1]
  rw [if_neg]
  intro ⟨h3, h4, h5⟩
  have h3' := (may_iff r).1 h3
  unfold meet at h2
  rw [if_pos ⟨h1, h3, h4, h5⟩] at h2
  simp only [Prod.mk.injEq] at h2
  omega

theorem cut_may (l : List Rg) (r y : Rg) (h : y ∈ cut l r) : may y = true := by
  obtain ⟨x, _, hx⟩ := List.mem_flatMap.1 h
  exact cut1_may r x y hx
theorem cut_meet (l : List Rg) (r y : Rg) (h : y ∈ cut l r) : meet y r = (0, 0) := by
  obtain ⟨x, _, hx⟩ := List.mem_flatMap.1 h
  exact cut1_meet r x y hx
theorem cut_same (c : List Rg) (r : Rg) (h : ∀ y ∈ c, may y = true ∧ meet y r = (0, 0)) : cut c r = c := by
  induction c with
  | nil => rfl
  | cons x t ih =>
    have hx := h x (List.mem_cons_self ..)
    unfold cut at ih ⊢
    rw [List.flatMap_cons, cut1_free r x hx.1 hx.2, ih (fun y hy => h y (List.mem_cons_of_mem _ hy))]
    rfl
theorem cut_twice (l : List Rg) (r : Rg) : cut (cut l r) r = cut l r := cut_same _ r fun y hy => ⟨cut_may l r y hy, cut_meet l r y hy⟩

theorem cut1_has (r x : Rg) (p : Int) : has (cut1 r x) p = (inn x p && !inn r p) := by
  rw [Bool.eq_iff_iff, has_iff]
  rw [Bool.and_eq_true, inn_iff, Bool.not_eq_true', ← Bool.not_eq_true, inn_iff]
  unfold cut1
  constructor
  · rintro ⟨y, hy, hp⟩
    have hpy := (inn_iff y p).1 hp
    split at hy
    · rename_i hx
      have hx' := (may_iff x).1 hx
      split at hy
      · rename_i hr
        have hr' := (may_iff r).1 hr.1
        rw [List.mem_append] at hy
        rcases hy with hy | hy
        · split at hy
          · simp at hy; subst hy; dsimp only at *; omega
          · simp at hy
        · split at hy
          · simp at hy; subst hy; dsimp only at *; omega
          · simp at hy
      · rename_i hr
        simp at hy; subst hy
        refine ⟨by omega, fun hq => hr ⟨(may_iff r).2 hq.1, by omega, by omega⟩⟩
    · simp at hy
  · rintro ⟨h1, h2⟩
    rw [if_pos ((may_iff x).2 h1.1)]
    by_cases hr : may r = true ∧ x.1 < r.2 ∧ r.1 < x.2
    · have hr' := (may_iff r).1 hr.1
      rw [if_pos hr]
      by_cases hp : p < r.1
      · refine ⟨(x.1, r.1), ?_, ?_⟩
        · rw [if_pos (by omega)]; simp
        · rw [inn_iff]; dsimp only; omega
      · refine ⟨(r.2, x.2), ?_, ?_⟩
        · rw [if_pos (show r.2 < x.2 by omega)]; simp
        · rw [inn_iff]; dsimp only; omega
    · rw [if_neg hr]
      exact ⟨x, by simp, by rw [inn_iff]; omega⟩
theorem cut_has (l : List Rg) (r : Rg) (p : Int) : has (cut l r) p = (has l p && !inn r p) := by
  induction l with
  | nil => rfl
  | cons x t ih =>
    unfold cut at ih ⊢
    rw [List.flatMap_cons, has_append, ih, cut1_has, has_cons]
    cases inn x p <;> cases has t p <;> cases inn r p <;> rfl

/-- As few as can be, rising. -/
def Canon (l : List Rg) : Prop := (∀ x ∈ l, may x = true) ∧ l.Pairwise fun a b => a.2 < b.1

theorem Canon.tail {x : Rg} {l : List Rg} (h : Canon (x :: l)) : Canon l := ⟨fun y hy => h.1 y (List.mem_cons_of_mem _ hy), (List.pairwise_cons.1 h.2).2⟩

theorem canon_head (x : Rg) (l : List Rg) (h : Canon (x :: l)) (p : Int) (hp : has (x :: l) p = true) : x.1 ≤ p := by
  obtain ⟨y, hy, hpy⟩ := (has_iff _ _).1 hp
  have hpy' := (inn_iff y p).1 hpy
  rcases List.mem_cons.1 hy with rfl | hy
  · omega
  · have := (List.pairwise_cons.1 h.2).1 y hy
    have := (may_iff x).1 (h.1 x (List.mem_cons_self ..))
    omega
theorem canon_tail_has (x : Rg) (l : List Rg) (h : Canon (x :: l)) (p : Int) : has l p = true ↔ has (x :: l) p = true ∧ x.2 ≤ p := by
  rw [has_cons]
  constructor
  · intro hp
    refine ⟨by simp [hp], ?_⟩
    obtain ⟨y, hy, hpy⟩ := (has_iff _ _).1 hp
    have := (List.pairwise_cons.1 h.2).1 y hy
    have hpy' := (inn_iff y p).1 hpy
    omega
  · rintro ⟨h1, h2⟩
    rw [Bool.or_eq_true] at h1
    rcases h1 with h1 | h1
    · have := (inn_iff x p).1 h1; omega
    · exact h1

theorem canon_eq : ∀ (a b : List Rg), Canon a → Canon b → (∀ p, has a p = has b p) → a = b
  | [], [], _, _, _ => rfl
  | [], y :: t, _, hb, h => by
    have hy := (may_iff y).1 (hb.1 y (List.mem_cons_self ..))
    have := h y.1
    rw [has_nil, has_cons, (inn_iff y y.1).2 (by omega)] at this
    simp at this
  | x :: s, [], ha, _, h => by
    have hx := (may_iff x).1 (ha.1 x (List.mem_cons_self ..))
    have := h x.1
    rw [has_nil, has_cons, (inn_iff x x.1).2 (by omega)] at this
    simp at this
  | x :: s, y :: t, ha, hb, h => by
    have hx := (may_iff x).1 (ha.1 x (List.mem_cons_self ..))
    have hy := (may_iff y).1 (hb.1 y (List.mem_cons_self ..))
    have e1 : x.1 = y.1 := by
      have h1 : has (y :: t) x.1 = true := by rw [← h, has_cons, (inn_iff x x.1).2 (by omega)]; rfl
      have h2 : has (x :: s) y.1 = true := by rw [h, has_cons, (inn_iff y y.1).2 (by omega)]; rfl
      have := canon_head y t hb _ h1
      have := canon_head x s ha _ h2
      omega
    have e2 : x.2 = y.2 := by
      rcases Int.lt_trichotomy x.2 y.2 with hl | he | hl
      · have h1 : has (x :: s) x.2 = true := by rw [h, has_cons, (inn_iff y x.2).2 (by omega)]; rfl
        have h2 := (canon_tail_has x s ha x.2).2 ⟨h1, by omega⟩
        obtain ⟨z, hz, hpz⟩ := (has_iff _ _).1 h2
        have := (List.pairwise_cons.1 ha.2).1 z hz
        have := (inn_iff z x.2).1 hpz
        omega
      · exact he
      · have h1 : has (y :: t) y.2 = true := by rw [← h, has_cons, (inn_iff x y.2).2 (by omega)]; rfl
        have h2 := (canon_tail_has y t hb y.2).2 ⟨h1, by omega⟩
        obtain ⟨z, hz, hpz⟩ := (has_iff _ _).1 h2
        have := (List.pairwise_cons.1 hb.2).1 z hz
        have := (inn_iff z y.2).1 hpz
        omega
    have ex : x = y := Prod.ext e1 e2
    subst ex
    have := canon_eq s t ha.tail hb.tail fun p => by
      rw [Bool.eq_iff_iff, canon_tail_has x s ha p, canon_tail_has x t hb p, h p]
    rw [this]

/-- One more put to what is put together, Lo not below any that is there. -/
def put (j : List Rg) (r : Rg) : List Rg :=
  match j.getLast? with
  | none => [r]
  | some x => if x.2 < r.1 then j ++ [r] else j.dropLast ++ [(x.1, max x.2 r.2)]
theorem put_nil (r : Rg) : put [] r = [r] := rfl
theorem put_snoc (j : List Rg) (x r : Rg) : put (j ++ [x]) r = if x.2 < r.1 then j ++ [x] ++ [r] else j ++ [(x.1, max x.2 r.2)] := by
  unfold put
  rw [List.getLast?_concat, List.dropLast_concat]
theorem canon_snoc (j : List Rg) (x : Rg) (h : Canon j) (hx : may x = true) (hj : ∀ y ∈ j, y.2 < x.1) : Canon (j ++ [x]) := by
  refine ⟨fun y hy => ?_, List.pairwise_append.2 ⟨h.2, by simp, fun a ha b hb => ?_⟩⟩
  · rcases List.mem_append.1 hy with hy | hy
    · exact h.1 y hy
    · rw [List.mem_singleton.1 hy]; exact hx
  · rw [List.mem_singleton.1 hb]; exact hj a ha
theorem canon_snoc_inv (j : List Rg) (x : Rg) (h : Canon (j ++ [x])) : Canon j ∧ may x = true ∧ ∀ y ∈ j, y.2 < x.1 :=
  ⟨⟨fun y hy => h.1 y (List.mem_append_left _ hy), (List.pairwise_append.1 h.2).1⟩, h.1 x (by simp), fun y hy => (List.pairwise_append.1 h.2).2.2 y hy x (by simp)⟩

theorem put_ok (j : List Rg) (r : Rg) (h : Canon j) (hr : may r = true) (hj : ∀ y ∈ j, y.1 ≤ r.1) :
    Canon (put j r) ∧ (∀ p, has (put j r) p = (has j p || inn r p)) ∧ (∀ b, (∀ y ∈ j, y.1 ≤ b) → r.1 ≤ b → ∀ y ∈ put j r, y.1 ≤ b) := by
  rcases List.eq_nil_or_concat j with rfl | ⟨j', x, e⟩
  · rw [put_nil]
    refine ⟨⟨fun y hy => ?_, by simp⟩, fun p => ?_, fun b _ h2 y hy => ?_⟩
    · rw [List.mem_singleton.1 hy]; exact hr
    · simp [has]
    · rw [List.mem_singleton.1 hy]; exact h2
  · rw [List.concat_eq_append] at e
    subst e
    obtain ⟨hc, hx, hb⟩ := canon_snoc_inv j' x h
    have hx' := (may_iff x).1 hx
    have hr' := (may_iff r).1 hr
    have hxr := hj x (by simp)
    rw [put_snoc]
    split
    · rename_i hlt
      refine ⟨canon_snoc _ _ h hr fun y hy => ?_, fun p => ?_, fun b h1 h2 y hy => ?_⟩
      · rcases List.mem_append.1 hy with hy | hy
        · have := hb y hy; omega
        · rw [List.mem_singleton.1 hy]; exact hlt
      · rw [has_append _ [r], has_cons, has_nil, Bool.or_false]
      · rcases List.mem_append.1 hy with hy | hy
        · exact h1 y hy
        · rw [List.mem_singleton.1 hy]; exact h2
    · rename_i hlt
      refine ⟨canon_snoc _ _ hc (by rw [may_iff]; dsimp only; omega) fun y hy => ?_, fun p => ?_, fun b h1 h2 y hy => ?_⟩
      · exact hb y hy
      · rw [has_append, has_append, Bool.or_assoc]
        congr 1
        rw [has_cons, has_nil, Bool.or_false, has_cons, has_nil, Bool.or_false, Bool.eq_iff_iff, Bool.or_eq_true, inn_iff, inn_iff, inn_iff]
        dsimp only
        omega
      · rcases List.mem_append.1 hy with hy | hy
        · exact h1 y (List.mem_append_left _ hy)
        · rw [List.mem_singleton.1 hy]; exact h1 x (by simp)

def putAll (j : List Rg) (l : List Rg) : List Rg := l.foldl put j
theorem putAll_ok (l : List Rg) : ∀ (j : List Rg), Canon j → (∀ x ∈ l, may x = true) → l.Pairwise (fun a b => a.1 ≤ b.1) → (∀ x ∈ l, ∀ y ∈ j, y.1 ≤ x.1) →
    Canon (putAll j l) ∧ ∀ p, has (putAll j l) p = (has j p || has l p) := by
  induction l with
  | nil => intro j h _ _ _; exact ⟨h, fun p => by simp [putAll, has]⟩
  | cons r t ih =>
    intro j h hm hs hj
    obtain ⟨h1, h2, h3⟩ := put_ok j r h (hm r (List.mem_cons_self ..)) (hj r (List.mem_cons_self ..))
    have hs' := List.pairwise_cons.1 hs
    obtain ⟨h4, h5⟩ := ih (put j r) h1 (fun x hx => hm x (List.mem_cons_of_mem _ hx)) hs'.2
      (fun x hx y hy => h3 x.1 (fun z hz => hj x (List.mem_cons_of_mem _ hx) z hz) (hs'.1 x hx) y hy)
    refine ⟨h4, fun p => ?_⟩
    show has (putAll (put j r) t) p = _
    rw [h5, h2, has_cons, Bool.or_assoc]

def real (l : List Rg) : List Rg := l.filter may
theorem real_has (l : List Rg) (p : Int) : has (real l) p = has l p := by
  induction l with
  | nil => rfl
  | cons x t ih =>
    unfold real at ih ⊢
    rw [List.filter_cons, has_cons]
    split
    · rw [has_cons, ih]
    · rename_i h
      rw [ih]
      have : inn x p = false := by
        rw [← Bool.not_eq_true, inn_iff]
        intro hx
        exact h ((may_iff x).2 hx.1)
      rw [this, Bool.false_or]
theorem real_may (l : List Rg) (x : Rg) (h : x ∈ real l) : may x = true := (List.mem_filter.1 h).2

/-- Ranges put together. -/
def join (l : List Rg) : List Rg := putAll [] ((real l).mergeSort fun a b => decide (a.1 ≤ b.1))
theorem join_of (l s : List Rg) (hp : s.Perm (real l)) (hs : s.Pairwise fun a b => a.1 ≤ b.1) : Canon (putAll [] s) ∧ ∀ p, has (putAll [] s) p = has l p := by
  obtain ⟨h1, h2⟩ := putAll_ok s [] ⟨(fun x hx => by cases hx), List.Pairwise.nil⟩ (fun x hx => real_may l x (hp.mem_iff.1 hx)) hs (fun x hx y hy => by cases hy)
  refine ⟨h1, fun p => ?_⟩
  rw [h2, has_nil, Bool.false_or, ← real_has l p]
  rw [Bool.eq_iff_iff, has_iff, has_iff]
  constructor
  · rintro ⟨x, hx, h⟩; exact ⟨x, hp.mem_iff.1 hx, h⟩
  · rintro ⟨x, hx, h⟩; exact ⟨x, hp.mem_iff.2 hx, h⟩
theorem join_canon (l : List Rg) : Canon (join l) ∧ ∀ p, has (join l) p = has l p := by
  refine join_of l _ (List.mergeSort_perm _ _) ?_
  have := List.pairwise_mergeSort (le := fun a b : Rg => decide (a.1 ≤ b.1)) (fun a b c h1 h2 => by simp at *; omega) (fun a b => by simp; omega) (real l)
  exact this.imp fun h => by simpa using h
theorem join_unique (l j : List Rg) (h : Canon j) (hp : ∀ p, has j p = has l p) : j = join l :=
  canon_eq _ _ h (join_canon l).1 fun p => by rw [hp, (join_canon l).2]
theorem join_sorted (l s : List Rg) (hp : s.Perm (real l)) (hs : s.Pairwise fun a b => a.1 ≤ b.1) : putAll [] s = join l :=
  join_unique l _ (join_of l s hp hs).1 (join_of l s hp hs).2
theorem join_join (l : List Rg) : join (join l) = join l := (join_unique (join l) (join l) (join_canon l).1 fun _ => rfl).symm
end Go.Proofs.YtgbbajeeelgbhaaGreatDoor.Pl

namespace Go.Proofs.YtgbbajeeelgbhaaGreatDoor.Pr
open Go.RowKit Pl Kt
set_option linter.unusedVariables false

/-- Ranges as cells. -/
def E (l : List Rg) : List Value := l.flatMap fun r => [Value.int .i64 r.1, Value.int .i64 r.2]
theorem E_nil : E [] = [] := rfl
theorem E_cons (r : Rg) (l : List Rg) : E (r :: l) = Value.int .i64 r.1 :: Value.int .i64 r.2 :: E l := rfl
theorem E_append (a b : List Rg) : E (a ++ b) = E a ++ E b := by simp [E]
theorem E_length (l : List Rg) : (E l).length = l.length * 2 := by
  induction l with
  | nil => rfl
  | cons r t ih => rw [E_cons, List.length_cons, List.length_cons, ih, List.length_cons]; omega
theorem E_one (l : List Rg) : ∀ u ∈ E l, u.oneCell' = true := by
  induction l with
  | nil => intro u hu; cases hu
  | cons r t ih =>
    intro u hu
    rw [E_cons] at hu
    rcases List.mem_cons.1 hu with rfl | hu
    · rfl
    · rcases List.mem_cons.1 hu with rfl | hu
      · rfl
      · exact ih u hu
theorem E_at0 (l : List Rg) : ∀ (i : Nat) (r : Rg), l[i]? = some r → (E l)[i * 2]? = some (.int .i64 r.1) := by
  induction l with
  | nil => intro i r h; cases h
  | cons x t ih =>
    intro i r h
    cases i with
    | zero => simp at h; subst h; rfl
    | succ i => rw [E_cons, show (i + 1) * 2 = i * 2 + 1 + 1 by omega, List.getElem?_cons_succ, List.getElem?_cons_succ]; exact ih i r (by simpa using h)
theorem E_at1 (l : List Rg) : ∀ (i : Nat) (r : Rg), l[i]? = some r → (E l)[i * 2 + 1]? = some (.int .i64 r.2) := by
  induction l with
  | nil => intro i r h; cases h
  | cons x t ih =>
    intro i r h
    cases i with
    | zero => simp at h; subst h; rfl
    | succ i => rw [E_cons, show (i + 1) * 2 + 1 = i * 2 + 1 + 1 + 1 by omega, List.getElem?_cons_succ, List.getElem?_cons_succ]; exact ih i r (by simpa using h)
/-- Each cell is a range's Lo or its Hi. -/
theorem E_get (l : List Rg) (j : Nat) (u : Value) (h : (E l)[j]? = some u) : ∃ i r, l[i]? = some r ∧ ((j = i * 2 ∧ u = .int .i64 r.1) ∨ (j = i * 2 + 1 ∧ u = .int .i64 r.2)) := by
  have hj : j < (E l).length := by
    rcases Nat.lt_or_ge j (E l).length with h1 | h1
    · exact h1
    · rw [List.getElem?_eq_none h1] at h; cases h
  rw [E_length] at hj
  obtain ⟨r, hr⟩ : ∃ r, l[j / 2]? = some r := ⟨l[j / 2]'(by omega), List.getElem?_eq_getElem _⟩
  rcases Nat.mod_two_eq_zero_or_one j with h0 | h0
  · have e : j = j / 2 * 2 := by omega
    rw [e, E_at0 l _ r hr] at h
    exact ⟨j / 2, r, hr, .inl ⟨e, by injection h with h; exact h.symm⟩⟩
  · have e : j = j / 2 * 2 + 1 := by omega
    rw [e, E_at1 l _ r hr] at h
    exact ⟨j / 2, r, hr, .inr ⟨e, by injection h with h; exact h.symm⟩⟩

/-- A slice of ranges, as it is read. -/
def Rw (w : World) (ao : Option Addr) (l : List Rg) : Prop :=
  0 < l.length → ∃ b off, ao = some ⟨b, off, none⟩ ∧ ∀ i r, l[i]? = some r → w.cell? ⟨b, off + i * 2, none⟩ = some (.int .i64 r.1) ∧ w.cell? ⟨b, off + i * 2 + 1, none⟩ = some (.int .i64 r.2)
theorem Rw.nil (w : World) (ao : Option Addr) : Rw w ao [] := fun h => by simp at h
theorem some_of {α : Type} {l : List α} {i : Nat} (h : i < l.length) : ∃ r, l[i]? = some r := ⟨l[i], List.getElem?_eq_getElem h⟩
theorem Rw.block {w : World} {b off : Nat} {l : List Rg} (h : Rw w (some ⟨b, off, none⟩) l) (hl : 0 < l.length) : b < w.heap.size := by
  obtain ⟨b', off', e, hc⟩ := h hl
  injection e with e
  injection e with e1 e2
  subst e1 e2
  obtain ⟨r, hr⟩ := some_of hl
  exact World.block_lt_of_cell? w _ (hc 0 r hr).1
theorem Rw.below {w w' : World} {ao : Option Addr} {l : List Rg} (h : Rw w ao l) (hb : Below w.heap.size w w') : Rw w' ao l := by
  intro hl
  obtain ⟨b, off, e, hc⟩ := h hl
  refine ⟨b, off, e, fun i r hr => ?_⟩
  have hB := World.block_lt_of_cell? w _ (hc i r hr).1
  rw [hb.cell (p := ⟨b, off + i * 2, none⟩) hB, hb.cell (p := ⟨b, off + i * 2 + 1, none⟩) hB]
  exact hc i r hr
/-- The first of them. -/
theorem Rw.take {w : World} {ao : Option Addr} {l : List Rg} (h : Rw w ao l) (k : Nat) : Rw w ao (l.take k) := by
  intro hl
  rw [List.length_take] at hl
  obtain ⟨b, off, e, hc⟩ := h (by omega)
  exact ⟨b, off, e, fun i r hr => hc i r (by rw [List.getElem?_take] at hr; split at hr; exact hr; cases hr)⟩
theorem Rw.src {P : Program} {w : World} {tx e' : TypeId} (hk : P.underlying tx = some (.slice e')) {ao : Option Addr} {l : List Rg} (h : Rw w ao l) (c : Nat) :
    Src P 2 tx (.slice ao l.length c) l.length (E l) w := by
  by_cases h0 : 0 < l.length
  · obtain ⟨b, off, rfl, hc⟩ := h h0
    refine Src.ofSlice w hk _ _ c _ (E_length l) (fun j u hj => ?_) (E_one l)
    obtain ⟨i, r, hr, hu⟩ := E_get l j u hj
    have : (⟨b, off, none⟩ : Addr).add j = ⟨b, off + j, none⟩ := by unfold Addr.add; split <;> simp_all
    rw [this]
    rcases hu with ⟨rfl, rfl⟩ | ⟨rfl, rfl⟩
    · exact (hc i r hr).1
    · exact (hc i r hr).2
  · have e : l = [] := List.eq_nil_of_length_eq_zero (by omega)
    subst e
    cases ao with
    | none => exact Src.ofNil w hk c
    | some a => exact Src.ofSlice w hk a 0 c [] (by simp) (fun j u hj => by simp at hj) (fun u hu => by cases hu)

/-- A row that the call owns. -/
def Ow (w : World) (base : Nat) (v : Value) (l : List Rg) : Prop := w.ownsRow base 37 2 v l.length (E l)
theorem Ow.form {w : World} {base : Nat} {v : Value} {l : List Rg} (h : Ow w base v l) : ∃ ao cap, v = .slice ao l.length cap ∧ l.length ≤ cap ∧ cap ≤ 9223372036854775807 := by
  rcases h.2 with ⟨e1, e2⟩ | ⟨g, c, cur, e1, _, _, e2, hc, _⟩
  · exact ⟨none, 0, by rw [e1, e2], by omega, by omega⟩
  · exact ⟨_, c, e1, e2, by unfold maxLen at hc; omega⟩
theorem Ow.rw {w : World} {base : Nat} {ao : Option Addr} {n cap : Nat} {l : List Rg} (h : Ow w base (.slice ao n cap) l) : Rw w ao l := by
  intro hl
  rcases h.2 with ⟨e1, e2⟩ | ⟨g, c, cur, e1, _⟩
  · omega
  · simp only [Value.slice.injEq] at e1
    obtain ⟨rfl, rfl, rfl⟩ := e1
    refine ⟨g, 0, rfl, fun i r hr => ?_⟩
    have hi : i < l.length := by
      rcases Nat.lt_or_ge i l.length with h1 | h1
      · exact h1
      · rw [List.getElem?_eq_none h1] at hr; cases hr
    have h0 := World.ownsRow.cellAt h (i * 2) (by omega)
    have h1 := World.ownsRow.cellAt h (i * 2 + 1) (by omega)
    rw [E_at0 l i r hr] at h0
    rw [E_at1 l i r hr] at h1
    rw [Nat.zero_add]
    exact ⟨h0, h1⟩
theorem Ow.nil (w : World) (base : Nat) : Ow w base (.slice none 0 0) [] := World.ownsRow_nil _ _ _ _
/-- Who else lays blocks, or draws, leaves it. -/
theorem Ow.below {w w' : World} {base : Nat} {v : Value} {l : List Rg} (h : Ow w base v l) (hb : Below w.heap.size w w') : Ow w' base v l := by
  refine ⟨h.1, ?_⟩
  rcases h.2 with ⟨e1, e2⟩ | ⟨g, c, cur, e1, h2, h3, h4⟩
  · exact .inl ⟨e1, e2⟩
  · have hg : g < w.heap.size := by
      rcases Nat.lt_or_ge g w.heap.size with h1 | h1
      · exact h1
      · rw [Array.getElem?_eq_none h1] at h3; cases h3
    exact .inr ⟨g, c, cur, e1, h2, (hb.block g hg).trans h3, h4⟩

/-- What is told of a slice of ranges that came in. -/
def IsRg (w : World) (a : Option Addr) (len cap : Nat) (l : List Rg) : Prop :=
  (a = none ∧ len = 0 ∧ cap = 0 ∧ l = []) ∨
  ∃ x, a = some x ∧ len ≤ cap ∧ cap ≤ maxLen ∧ l.length = len ∧ ∀ i r, l[i]? = some r → w.cell? (x.add (i * 2)) = some (.int .i64 r.1) ∧ w.cell? (x.add (i * 2 + 1)) = some (.int .i64 r.2)
theorem isRg_of {w : World} {x : Addr} {len cap : Nat} (V0 V1 : Nat → Value) (hl : len ≤ cap) (hm : cap ≤ maxLen)
    (h : ∀ i, i < len → ∃ a b : Int, w.cell? (x.add (i * 2)) = some (.int .i64 a) ∧ w.cell? (x.add (i * 2 + 1)) = some (.int .i64 b)) : ∃ zs, IsRg w (some x) len cap zs := by
  have hh : ∀ i : Nat, ∃ r : Rg, i < len → w.cell? (x.add (i * 2)) = some (.int .i64 r.1) ∧ w.cell? (x.add (i * 2 + 1)) = some (.int .i64 r.2) := by
    intro i
    by_cases hi : i < len
    · obtain ⟨a, b, h1, h2⟩ := h i hi
      exact ⟨(a, b), fun _ => ⟨h1, h2⟩⟩
    · exact ⟨(0, 0), fun h => absurd h hi⟩
  let f : Nat → Rg := fun i => Classical.choose (hh i)
  have hf : ∀ i, i < len → _ := fun i => Classical.choose_spec (hh i)
  refine ⟨(List.range len).map f, .inr ⟨x, rfl, hl, hm, by simp, fun i r hr => ?_⟩⟩
  rw [List.getElem?_map] at hr
  rcases Nat.lt_or_ge i len with h1 | h1
  · rw [List.getElem?_range h1] at hr
    simp at hr
    subst hr
    exact hf i h1
  · rw [List.getElem?_eq_none (by simpa using h1)] at hr; cases hr
theorem IsRg.rw {w : World} {a : Option Addr} {len cap : Nat} {l : List Rg} (h : IsRg w a len cap l) : len = l.length ∧ len ≤ cap ∧ cap ≤ 9223372036854775807 ∧ Rw w a l := by
  rcases h with ⟨rfl, rfl, rfl, rfl⟩ | ⟨x, rfl, hl, hm, hz, hc⟩
  · exact ⟨rfl, Nat.le_refl _, by omega, Rw.nil _ _⟩
  · refine ⟨hz.symm, hl, by unfold maxLen at hm; omega, fun h0 => ?_⟩
    obtain ⟨b, off, spot⟩ := x
    obtain ⟨r0, hr0⟩ := some_of h0
    have hspot : spot = none := by simpa [Addr.add] using World.cell?_spot (hc 0 r0 hr0).1
    subst hspot
    refine ⟨b, off, rfl, fun i r hr => ?_⟩
    have hp : ∀ j, (⟨b, off, none⟩ : Addr).add j = ⟨b, off + j, none⟩ := fun j => by unfold Addr.add; split <;> simp_all
    have := hc i r hr
    rw [hp, hp] at this
    rw [Nat.add_assoc]
    exact this
end Go.Proofs.YtgbbajeeelgbhaaGreatDoor.Pr

namespace Go.Proofs.YtgbbajeeelgbhaaGreatDoor.Pl

/-- A number's bytes. -/
def enc (n : Nat) : List UInt8 := if h : n < 128 then [UInt8.ofNat n] else UInt8.ofNat (n % 128 + 128) :: enc (n / 128)
termination_by n
decreasing_by omega

theorem enc_lt {n : Nat} (h : n < 128) : enc n = [UInt8.ofNat n] := by rw [enc]; simp [h]
theorem enc_ge {n : Nat} (h : 128 ≤ n) : enc n = UInt8.ofNat (n % 128 + 128) :: enc (n / 128) := by
  rw [enc]; simp [show ¬ n < 128 by omega]

/-- The rounds that a read has left, the place, what was summed so far: the answer: number, size, error. -/
def rd (bs : List UInt8) : Nat → Nat → Nat → Nat × Nat × Nat
  | 0, _, _ => (0, 0, 5)
  | r + 1, i, n =>
    if i = bs.length then (0, 0, 4)
    else if 4611686018427387904 < n + (bs.getD i 0).toNat % 128 * 2 ^ (7 * i) ∨ ((bs.getD i 0).toNat = 0 ∧ 0 < i) then (0, 0, 5)
    else if (bs.getD i 0).toNat < 128 then (n + (bs.getD i 0).toNat % 128 * 2 ^ (7 * i), i + 1, 0)
    else rd bs r (i + 1) (n + (bs.getD i 0).toNat % 128 * 2 ^ (7 * i))

def readNum (bs : List UInt8) : Nat × Nat × Nat := rd bs 9 0 0

theorem toNat_ofNat {n : Nat} (h : n < 256) : (UInt8.ofNat n).toNat = n := by
  simp [UInt8.toNat_ofNat']; omega

theorem enc_len_pos (n : Nat) : 0 < (enc n).length := by
  rw [enc]; split <;> simp

theorem enc_len_le : ∀ (k n : Nat), n < 2 ^ (7 * k) → 0 < k → (enc n).length ≤ k
  | 0, _, _, hk => by omega
  | 1, n, h, _ => by rw [enc_lt (by simpa using h)]; simp
  | k + 2, n, h, _ => by
    by_cases h1 : n < 128
    · rw [enc_lt h1]; simp
    · rw [enc_ge (by omega)]
      have := enc_len_le (k + 1) (n / 128) (by
        rw [Nat.div_lt_iff_lt_mul (by omega)]
        have e : 2 ^ (7 * (k + 2)) = 2 ^ (7 * (k + 1)) * 128 := by rw [show 7 * (k + 2) = 7 * (k + 1) + 7 by omega, Nat.pow_add]
        omega) (by omega)
      simp; omega

theorem enc_len9 {n : Nat} (h : n ≤ 4611686018427387904) : (enc n).length ≤ 9 :=
  enc_len_le 9 n (by simp; omega) (by omega)

theorem getD_mid (pre : List UInt8) (c : UInt8) (rest : List UInt8) : (pre ++ c :: rest).getD pre.length 0 = c := by
  simp [List.getD]

/-- What is written is read, whatever stands ahead (already read) and behind. -/
theorem rd_enc : ∀ (r n i acc : Nat) (pre rest : List UInt8), pre.length = i → (enc n).length ≤ r → acc + n * 2 ^ (7 * i) ≤ 4611686018427387904 → (n = 0 → i = 0) →
    rd (pre ++ enc n ++ rest) r i acc = (acc + n * 2 ^ (7 * i), i + (enc n).length, 0)
  | 0, n, _, _, _, _, _, h, _, _ => by have := enc_len_pos n; omega
  | r + 1, n, i, acc, pre, rest, hp, hl, hb, hz => by
    have hpow : 0 < 2 ^ (7 * i) := Nat.pow_pos (by omega)
    by_cases h : n < 128
    · rw [enc_lt h, List.append_assoc, rd]
      simp only [List.singleton_append]
      have hg : (pre ++ UInt8.ofNat n :: rest).getD i 0 = UInt8.ofNat n := by rw [← hp]; exact getD_mid _ _ _
      rw [hg, toNat_ofNat (by omega), Nat.mod_eq_of_lt h]
      rw [if_neg (by simp; omega), if_neg (by rintro (h1 | ⟨h1, h2⟩) <;> omega), if_pos h]
      simp
    · have hge : 128 ≤ n := by omega
      have hlen : (enc (n / 128)).length ≤ r := by rw [enc_ge hge] at hl; simp at hl; omega
      rw [enc_ge hge]
      have hc : (UInt8.ofNat (n % 128 + 128)).toNat = n % 128 + 128 := toNat_ofNat (by omega)
      generalize hcc : UInt8.ofNat (n % 128 + 128) = c at *
      have e0 : pre ++ c :: enc (n / 128) ++ rest = (pre ++ [c]) ++ enc (n / 128) ++ rest := by simp
      have e1 : pre ++ c :: enc (n / 128) ++ rest = pre ++ c :: (enc (n / 128) ++ rest) := by simp
      have hg : (pre ++ c :: enc (n / 128) ++ rest).getD i 0 = c := by rw [e1, ← hp]; exact getD_mid _ _ _
      rw [rd, hg, hc]
      have hm : (n % 128 + 128) % 128 = n % 128 := by omega
      rw [hm]
      have e2 : 2 ^ (7 * (i + 1)) = 2 ^ (7 * i) * 128 := by rw [show 7 * (i + 1) = 7 * i + 7 by omega, Nat.pow_add]
      have hdm : n % 128 * 2 ^ (7 * i) + n / 128 * (2 ^ (7 * i) * 128) = n * 2 ^ (7 * i) := by
        have h3 := Nat.div_add_mod n 128
        have : (128 * (n / 128) + n % 128) * 2 ^ (7 * i) = n * 2 ^ (7 * i) := by rw [h3]
        rw [← this, Nat.add_mul, Nat.mul_comm 128 (n / 128), Nat.mul_assoc, Nat.mul_comm 128 (2 ^ (7 * i))]
        omega
      have hle : n % 128 * 2 ^ (7 * i) ≤ n * 2 ^ (7 * i) := by omega
      rw [if_neg (by simp; omega), if_neg (by rintro (h1 | ⟨h1, h2⟩) <;> omega), if_neg (by omega), e0]
      have := rd_enc r (n / 128) (i + 1) (acc + n % 128 * 2 ^ (7 * i)) (pre ++ [c]) rest (by simp [hp]) hlen (by rw [e2]; omega) (by omega)
      rw [this, e2]
      refine Prod.ext ?_ (Prod.ext ?_ rfl)
      · simp only; omega
      · simp; omega

theorem readNum_enc {n : Nat} (h : n ≤ 4611686018427387904) (rest : List UInt8) : readNum (enc n ++ rest) = (n, (enc n).length, 0) := by
  have := rd_enc 9 n 0 0 [] rest rfl (enc_len9 h) (by simpa using h) (by simp)
  simpa [readNum] using this

/-- Cut anywhere it is short. -/
theorem rd_cut : ∀ (r n i acc k : Nat) (pre : List UInt8), pre.length = i → k < (enc n).length → (enc n).length ≤ r → acc + n * 2 ^ (7 * i) ≤ 4611686018427387904 → (n = 0 → i = 0) →
    rd (pre ++ (enc n).take k) r i acc = (0, 0, 4)
  | 0, n, _, _, _, _, _, _, h, _, _ => by have := enc_len_pos n; omega
  | r + 1, n, i, acc, 0, pre, hp, _, _, _, _ => by
    rw [rd]; simp [hp]
  | r + 1, n, i, acc, k + 1, pre, hp, hk, hl, hb, hz => by
    have hpow : 0 < 2 ^ (7 * i) := Nat.pow_pos (by omega)
    have hge : 128 ≤ n := by
      by_cases h : n < 128
      · rw [enc_lt h] at hk; simp at hk
      · omega
    rw [enc_ge hge] at hk hl ⊢
    simp only [List.length_cons] at hk hl
    have hc : (UInt8.ofNat (n % 128 + 128)).toNat = n % 128 + 128 := toNat_ofNat (by omega)
    generalize hcc : UInt8.ofNat (n % 128 + 128) = c at *
    rw [List.take_succ_cons]
    have e0 : pre ++ c :: (enc (n / 128)).take k = (pre ++ [c]) ++ (enc (n / 128)).take k := by simp
    have hg : (pre ++ c :: (enc (n / 128)).take k).getD i 0 = c := by rw [← hp]; exact getD_mid _ _ _
    rw [rd, hg, hc]
    have hm : (n % 128 + 128) % 128 = n % 128 := by omega
    rw [hm]
    have e2 : 2 ^ (7 * (i + 1)) = 2 ^ (7 * i) * 128 := by rw [show 7 * (i + 1) = 7 * i + 7 by omega, Nat.pow_add]
    have hdm : n % 128 * 2 ^ (7 * i) + n / 128 * (2 ^ (7 * i) * 128) = n * 2 ^ (7 * i) := by
      have h3 := Nat.div_add_mod n 128
      have : (128 * (n / 128) + n % 128) * 2 ^ (7 * i) = n * 2 ^ (7 * i) := by rw [h3]
      rw [← this, Nat.add_mul, Nat.mul_comm 128 (n / 128), Nat.mul_assoc, Nat.mul_comm 128 (2 ^ (7 * i))]
      omega
    rw [if_neg (by simp; omega), if_neg (by rintro (h1 | ⟨h1, h2⟩) <;> omega), if_neg (by omega), e0]
    exact rd_cut r (n / 128) (i + 1) _ k (pre ++ [c]) (by simp [hp]) (by omega) (by omega) (by rw [e2]; omega) (by omega)

theorem readNum_cut {n k : Nat} (h : n ≤ 4611686018427387904) (hk : k < (enc n).length) : readNum ((enc n).take k) = (0, 0, 4) := by
  have := rd_cut 9 n 0 0 k [] rfl hk (enc_len9 h) (by simpa using h) (by simp)
  simpa [readNum] using this
end Go.Proofs.YtgbbajeeelgbhaaGreatDoor.Pl

namespace Go.Proofs.YtgbbajeeelgbhaaGreatDoor.Rd
open Go.RowKit Kt Pl
set_option linter.unusedVariables false

/-- The answer of a read, as the call hands it back. -/
def ans (r : Nat × Nat × Nat) : Ending := .returned (.tuple #[.int .i64 (r.1 : Int), .int .i64 (r.2.1 : Int), .int .i64 (r.2.2 : Int)])

/-- What the byte c at place k adds. -/
def dg (c k : Nat) : Nat := c % 128 * 2 ^ (7 * k)

theorem dg_int (c k : Nat) : ((c : Int) % 128 * 2 ^ (k * 7)) = ((dg c k : Nat) : Int) := by
  unfold dg; rw [Nat.mul_comm 7 k]; push_cast; rfl

theorem pow_le9 {k : Nat} (h : k ≤ 8) : 2 ^ (7 * k) ≤ 72057594037927936 :=
  Nat.le_trans (Nat.pow_le_pow_right (by omega) (show 7 * k ≤ 56 by omega)) (by decide)

theorem dg_bd {c k q : Nat} (hk : k < 9) (hq : q < 2 ^ (7 * k)) : q + dg c k < 2 ^ (7 * (k + 1)) ∧ q + dg c k ≤ 9223372036854775807 := by
  have h1 := pow_le9 (k := k) (by omega)
  have e2 : 2 ^ (7 * (k + 1)) = 2 ^ (7 * k) * 128 := by rw [show 7 * (k + 1) = 7 * k + 7 by omega, Nat.pow_add]
  have h2 : dg c k ≤ 127 * 2 ^ (7 * k) := Nat.mul_le_mul_right _ (by omega)
  rw [e2]; omega

section
variable {bs : List UInt8} {k q c : Nat}
theorem rd_step (hk : k < 9) : rd bs (9 - k) k q = if k = bs.length then (0, 0, 4)
    else if 4611686018427387904 < q + dg (bs.getD k 0).toNat k ∨ ((bs.getD k 0).toNat = 0 ∧ 0 < k) then (0, 0, 5)
    else if (bs.getD k 0).toNat < 128 then (q + dg (bs.getD k 0).toNat k, k + 1, 0)
    else rd bs (9 - (k + 1)) (k + 1) (q + dg (bs.getD k 0).toNat k) := by
  rw [show 9 - k = (9 - (k + 1)) + 1 by omega, rd]; rfl
theorem rd_last : rd bs (9 - 9) 9 q = (0, 0, 5) := rfl
theorem rd_short (hk : bs.length < 9) : rd bs (9 - bs.length) bs.length q = (0, 0, 4) := by rw [rd_step hk, if_pos rfl]
theorem rd_form (hk : k < 9) (hl : k < bs.length) (hc : (bs.getD k 0).toNat = c) (h : 4611686018427387904 < q + dg c k ∨ (c = 0 ∧ 0 < k)) : rd bs (9 - k) k q = (0, 0, 5) := by
  rw [rd_step hk, if_neg (by omega), hc, if_pos h]
theorem rd_ok (hk : k < 9) (hl : k < bs.length) (hc : (bs.getD k 0).toNat = c) (h : ¬ (4611686018427387904 < q + dg c k ∨ (c = 0 ∧ 0 < k))) (h2 : c < 128) : rd bs (9 - k) k q = (q + dg c k, k + 1, 0) := by
  rw [rd_step hk, if_neg (by omega), hc, if_neg h, if_pos h2]
theorem rd_next (hk : k < 9) (hl : k < bs.length) (hc : (bs.getD k 0).toNat = c) (h : ¬ (4611686018427387904 < q + dg c k ∨ (c = 0 ∧ 0 < k))) (h2 : 128 ≤ c) : rd bs (9 - k) k q = rd bs (9 - (k + 1)) (k + 1) (q + dg c k) := by
  rw [rd_step hk, if_neg (by omega), hc, if_neg h, if_neg (by omega)]
end

theorem ans_mk {r : Nat × Nat × Nat} {a b c : Int} (h1 : a = r.1) (h2 : b = r.2.1) (h3 : c = r.2.2) : Ending.returned (.tuple #[.int .i64 a, .int .i64 b, .int .i64 c]) = ans r := by
  subst h1 h2 h3; rfl

set_option maxHeartbeats 1000000 in
set_option maxRecDepth 20000 in
theorem readNum_any (w : World) (ao : Option Addr) (cap : Nat) (bs : List UInt8) (hr : Row w ao bs) (hlen : bs.length ≤ 1000000000) :
    Calls Tryz.prog 63 #[.slice ao bs.length cap] w fun e w' => e = ans (readNum bs) ∧ w' = w := by
  go_enter Tryz.func63, Tryz.ntmps63
  go_wp2
  go_loop [2, 5, 6] (fun n i0 i => ∃ (k q : Nat), k ≤ 9 ∧ k ≤ bs.length ∧ i = .int .i64 k ∧ n = .int .i64 q ∧ Hid (q < 2 ^ (7 * k)) ∧ Hid (rd bs (9 - k) k q = readNum bs)) (fun _ _ i => 9 - (intOf i).toNat)
  case atStart => exact ⟨0, 0, by omega, by omega, rfl, rfl, by simp [Hid], by simp [Hid, readNum]⟩
  case round =>
    obtain ⟨k, q, hk, hkl, rfl, rfl, hq, hrd⟩ := hrel
    by_cases h9 : k = 9
    · subst h9
      have HE : Hid (readNum bs = (0, 0, 5)) := hrd.out.symm.trans rd_last
      clear hrd hq
      go_wp2
      go_ret3
      exact ⟨by rw [HE.out]; rfl, rfl⟩
    · have hk9 : k < 9 := by omega
      by_cases hs : k = bs.length
      · have HE : Hid (readNum bs = (0, 0, 4)) := by rw [← hrd.out, hs]; exact rd_short (by omega)
        have t0 : ((k : Int) == (bs.length : Int)) = true := by simp [hs]
        clear hrd hq hs h9
        go_wp2
        go_ret3
        exact ⟨by rw [HE.out]; rfl, rfl⟩
      · have hl : k < bs.length := by omega
        obtain ⟨b, off, rfl, hc⟩ := hr (by omega)
        obtain ⟨c, hcc⟩ : ∃ c, (bs.getD k 0).toNat = c := ⟨_, rfl⟩
        have hck : w.cell? ⟨b, off + k, none⟩ = some (.int .u8 (c : Int)) := by rw [hc k hl, hcc]
        have hc256 : c < 256 := by rw [← hcc]; exact UInt8.toNat_lt _
        have hbd := dg_bd (c := c) hk9 hq.out
        have hdi := dg_int c k
        have t0 : ((k : Int) == (bs.length : Int)) = false := by simp; omega
        have HB : Hid (q + dg c k < 2 ^ (7 * (k + 1))) := hbd.1
        have b1 : (q : Int) + (c : Int) % 128 * 2 ^ (k * 7) ≤ 9223372036854775807 := by rw [hdi]; have := hbd.2; omega
        have b0 : 0 ≤ (c : Int) % 128 * 2 ^ (k * 7) := by rw [hdi]; omega
        have HC : Hid ((bs.getD k 0).toNat = c) := hcc
        have HD : Hid ((c : Int) % 128 * 2 ^ (k * 7) = ((dg c k : Nat) : Int)) := hdi
        clear hcc hbd hdi hr hc h9 hs
        by_cases h1 : 4611686018427387904 < q + dg c k ∨ (c = 0 ∧ 0 < k)
        · have HE : Hid (readNum bs = (0, 0, 5)) := by rw [← hrd.out]; exact rd_form hk9 hl HC.out h1
          clear hrd
          by_cases hbig : 4611686018427387904 < q + dg c k
          · have t1 : decide ((4611686018427387904 : Int) < (q : Int) + (c : Int) % 128 * 2 ^ (k * 7)) = true := by rw [HD.out]; simp; omega
            clear h1 hbig
            go_wp2
            go_ret3
            exact ⟨by rw [HE.out]; rfl, rfl⟩
          · have t1 : decide ((4611686018427387904 : Int) < (q : Int) + (c : Int) % 128 * 2 ^ (k * 7)) = false := by rw [HD.out]; simp; omega
            have t2 : ((c : Int) == 0) = true := by simp; omega
            have t3 : 0 < k := by omega
            clear h1 hbig
            go_wp2
            go_ret3
            exact ⟨by rw [HE.out]; rfl, rfl⟩
        · have t1 : decide ((4611686018427387904 : Int) < (q : Int) + (c : Int) % 128 * 2 ^ (k * 7)) = false := by rw [HD.out]; simp; omega
          have hz : (((c : Int) == 0) = true ∧ ¬ 0 < k) ∨ ((c : Int) == 0) = false := by
            by_cases hc0 : c = 0
            · left; exact ⟨by simp; omega, by omega⟩
            · right; simp; omega
          by_cases h2 : c < 128
          · have HE : Hid (readNum bs = (q + dg c k, k + 1, 0)) := by rw [← hrd.out]; exact rd_ok hk9 hl HC.out h1 h2
            clear h1 hrd
            rcases hz with ⟨t2, t3⟩ | t2
            all_goals
              go_wp2
              go_ret3
              exact ⟨ans_mk (by rw [HE.out, HD.out]; simp) (by rw [HE.out]; simp) (by rw [HE.out]; rfl), rfl⟩
          · have HE : Hid (rd bs (9 - (k + 1)) (k + 1) (q + dg c k) = readNum bs) := by rw [← hrd.out]; exact (rd_next hk9 hl HC.out h1 (by omega)).symm
            clear h1 hrd
            rcases hz with ⟨t2, t3⟩ | t2
            · exfalso; simp at t2; omega
            · go_wp2
              go_round
              case rel => exact ⟨k + 1, q + dg c k, by omega, by omega, by go_num, by rw [HD.out]; go_num, HB, HE⟩
              case measure => simp [intOf]; omega
end Go.Proofs.YtgbbajeeelgbhaaGreatDoor.Rd
