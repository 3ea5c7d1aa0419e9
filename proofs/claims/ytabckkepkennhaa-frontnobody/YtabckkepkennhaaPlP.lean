/-
  Plain ranges of places: what may be, lists of them cut, put together, covering all. Nothing of the program.
-/
import Derived.WalkKit
namespace Go.Proofs.Ytabckkepkennhaa.Pl
set_option linter.unusedVariables false

/-- A range: its Lo, its Hi. -/
abbrev Rg := Int × Int
def may (r : Rg) : Bool := decide (0 ≤ r.1 ∧ r.1 < r.2 ∧ r.2 ≤ 65536)
def inn (r : Rg) (p : Int) : Bool := decide (may r = true ∧ r.1 ≤ p ∧ p < r.2)
theorem may_iff (r : Rg) : may r = true ↔ 0 ≤ r.1 ∧ r.1 < r.2 ∧ r.2 ≤ 65536 := by simp [may]
theorem inn_iff (r : Rg) (p : Int) : inn r p = true ↔ (0 ≤ r.1 ∧ r.1 < r.2 ∧ r.2 ≤ 65536) ∧ r.1 ≤ p ∧ p < r.2 := by simp [inn, may_iff]
theorem inn_iff' (r : Rg) (p : Int) (h : may r = true) : inn r p = true ↔ r.1 ≤ p ∧ p < r.2 := by simp [inn, h]

/-- What two have in common. -/
def meet (a b : Rg) : Rg := if may a = true ∧ may b = true ∧ a.1 < b.2 ∧ b.1 < a.2 then (max a.1 b.1, min a.2 b.2) else (0, 0)

/-- Where the first range with a place is. -/
def fnd : List Rg → Int → Nat → Int
  | [], _, _ => -1
  | r :: t, p, k => if inn r p then k else fnd t p (k + 1)
def has (l : List Rg) (p : Int) : Bool := l.any (inn · p)
theorem has_iff (l : List Rg) (p : Int) : has l p = true ↔ ∃ x ∈ l, inn x p = true := by simp [has]
theorem has_nil (p : Int) : has [] p = false := rfl
theorem has_cons (x : Rg) (l : List Rg) (p : Int) : has (x :: l) p = (inn x p || has l p) := rfl
theorem has_append (a b : List Rg) (p : Int) : has (a ++ b) p = (has a p || has b p) := by simp [has]
theorem fnd_neg (l : List Rg) (p : Int) : ∀ k, (fnd l p k < 0 ↔ has l p = false) := by
  induction l with
  | nil => intro k; simp [fnd, has]
  | cons r t ih =>
    intro k
    rw [fnd, has_cons]
    cases h : inn r p
    · simpa using ih (k + 1)
    · simp

/-- One taken out of one, of many. -/
def cut1 (r x : Rg) : List Rg :=
  if may x = true then (if may r = true ∧ x.1 < r.2 ∧ r.1 < x.2 then (if x.1 < r.1 then [(x.1, r.1)] else []) ++ (if r.2 < x.2 then [(r.2, x.2)] else []) else [x]) else []
def cut (l : List Rg) (r : Rg) : List Rg := l.flatMap (cut1 r)

theorem cut1_may (r x y : Rg) (h : y ∈ cut1 r x) : may y = true := by
  unfold cut1 at h
  split at h
  · rename_i hx
    split at h
    · rename_i hr
      have hx' := (may_iff x).1 hx
      have hr' := (may_iff r).1 hr.1
      rw [List.mem_append] at h
      rcases h with h | h
      · split at h
        · simp at h; subst h; rw [may_iff]; dsimp only; omega
        · simp at h
      · split at h
        · simp at h; subst h; rw [may_iff]; dsimp only; omega
        · simp at h
    · simp at h; subst h; exact hx
  · simp at h

theorem cut1_meet (r x y : Rg) (h : y ∈ cut1 r x) : meet y r = (0, 0) := by
  unfold cut1 at h
  unfold meet
  rw [if_neg]
  intro ⟨h1, h2, h3, h4⟩
  split at h
  · rename_i hx
    split at h
    · rename_i hr
      rw [List.mem_append] at h
      rcases h with h | h
      · split at h
        · simp at h; subst h; dsimp only at *; omega
        · simp at h
      · split at h
        · simp at h; subst h; dsimp only at *; omega
        · simp at h
    · rename_i hr
      simp at h; subst h
      exact hr ⟨h2, h3, h4⟩
  · simp at h

theorem cut1_free (r y : Rg) (h1 : may y = true) (h2 : meet y r = (0, 0)) : cut1 r y = [y] := by
  have h1' := (may_iff y).1 h1
  unfold cut1
  rw [if_pos h1]
  rw [if_neg]
  intro ⟨h3, h4, h5⟩
  have h3' := (may_iff r).1 h3
  unfold meet at h2
  rw [if_pos ⟨h1, h3, h4, h5⟩] at h2
  simp only [Prod.mk.injEq] at h2
  omega

theorem cut_may (l : List Rg) (r y : Rg) (h : y ∈ cut l r) : may y = true := by
  obtain ⟨x, _, hx⟩ := List.mem_flatMap.1 h
  exact cut1_may r x y hx
theorem cut_meet (l : List Rg) (r y : Rg) (h : y ∈ cut l r) : meet y r = (0, 0) := by
  obtain ⟨x, _, hx⟩ := List.mem_flatMap.1 h
  exact cut1_meet r x y hx
theorem cut_same (c : List Rg) (r : Rg) (h : ∀ y ∈ c, may y = true ∧ meet y r = (0, 0)) : cut c r = c := by
  induction c with
  | nil => rfl
  | cons x t ih =>
    have hx := h x (List.mem_cons_self ..)
    unfold cut at ih ⊢
    rw [List.flatMap_cons, cut1_free r x hx.1 hx.2, ih (fun y hy => h y (List.mem_cons_of_mem _ hy))]
    rfl
theorem cut_twice (l : List Rg) (r : Rg) : cut (cut l r) r = cut l r := cut_same _ r fun y hy => ⟨cut_may l r y hy, cut_meet l r y hy⟩

theorem cut1_has (r x : Rg) (p : Int) : has (cut1 r x) p = (inn x p && !inn r p) := by
  rw [Bool.eq_iff_iff, has_iff]
  rw [Bool.and_eq_true, inn_iff, Bool.not_eq_true', ← Bool.not_eq_true, inn_iff]
  unfold cut1
  constructor
  · rintro ⟨y, hy, hp⟩
    have hpy := (inn_iff y p).1 hp
    split at hy
    · rename_i hx
      have hx' := (may_iff x).1 hx
      split at hy
      · rename_i hr
        have hr' := (may_iff r).1 hr.1
        rw [List.mem_append] at hy
        rcases hy with hy | hy
        · split at hy
          · simp at hy; subst hy; dsimp only at *; omega
          · simp at hy
        · split at hy
          · simp at hy; subst hy; dsimp only at *; omega
          · simp at hy
      · rename_i hr
        simp at hy; subst hy
        refine ⟨by omega, fun hq => hr ⟨(may_iff r).2 hq.1, by omega, by omega⟩⟩
    · simp at hy
  · rintro ⟨h1, h2⟩
    rw [if_pos ((may_iff x).2 h1.1)]
    by_cases hr : may r = true ∧ x.1 < r.2 ∧ r.1 < x.2
    · have hr' := (may_iff r).1 hr.1
      rw [if_pos hr]
      by_cases hp : p < r.1
      · refine ⟨(x.1, r.1), ?_, ?_⟩
        · rw [if_pos (by omega)]; simp
        · rw [inn_iff]; dsimp only; omega
      · refine ⟨(r.2, x.2), ?_, ?_⟩
        · rw [if_pos (show r.2 < x.2 by omega)]; simp
        · rw [inn_iff]; dsimp only; omega
    · rw [if_neg hr]
      exact ⟨x, by simp, by rw [inn_iff]; omega⟩
theorem cut_has (l : List Rg) (r : Rg) (p : Int) : has (cut l r) p = (has l p && !inn r p) := by
  induction l with
  | nil => rfl
  | cons x t ih =>
    unfold cut at ih ⊢
    rw [List.flatMap_cons, has_append, ih, cut1_has, has_cons]
    cases inn x p <;> cases has t p <;> cases inn r p <;> rfl

/-- As few as can be, rising. -/
def Canon (l : List Rg) : Prop := (∀ x ∈ l, may x = true) ∧ l.Pairwise fun a b => a.2 < b.1

theorem Canon.tail {x : Rg} {l : List Rg} (h : Canon (x :: l)) : Canon l := ⟨fun y hy => h.1 y (List.mem_cons_of_mem _ hy), (List.pairwise_cons.1 h.2).2⟩

theorem canon_head (x : Rg) (l : List Rg) (h : Canon (x :: l)) (p : Int) (hp : has (x :: l) p = true) : x.1 ≤ p := by
  obtain ⟨y, hy, hpy⟩ := (has_iff _ _).1 hp
  have hpy' := (inn_iff y p).1 hpy
  rcases List.mem_cons.1 hy with rfl | hy
  · omega
  · have := (List.pairwise_cons.1 h.2).1 y hy
    have := (may_iff x).1 (h.1 x (List.mem_cons_self ..))
    omega
theorem canon_tail_has (x : Rg) (l : List Rg) (h : Canon (x :: l)) (p : Int) : has l p = true ↔ has (x :: l) p = true ∧ x.2 ≤ p := by
  rw [has_cons]
  constructor
  · intro hp
    refine ⟨by simp [hp], ?_⟩
    obtain ⟨y, hy, hpy⟩ := (has_iff _ _).1 hp
    have := (List.pairwise_cons.1 h.2).1 y hy
    have hpy' := (inn_iff y p).1 hpy
    omega
  · rintro ⟨h1, h2⟩
    rw [Bool.or_eq_true] at h1
    rcases h1 with h1 | h1
    · have := (inn_iff x p).1 h1; omega
    · exact h1

theorem canon_eq : ∀ (a b : List Rg), Canon a → Canon b → (∀ p, has a p = has b p) → a = b
  | [], [], _, _, _ => rfl
  | [], y :: t, _, hb, h => by
    have hy := (may_iff y).1 (hb.1 y (List.mem_cons_self ..))
    have := h y.1
    rw [has_nil, has_cons, (inn_iff y y.1).2 (by omega)] at this
    simp at this
  | x :: s, [], ha, _, h => by
    have hx := (may_iff x).1 (ha.1 x (List.mem_cons_self ..))
    have := h x.1
    rw [has_nil, has_cons, (inn_iff x x.1).2 (by omega)] at this
    simp at this
  | x :: s, y :: t, ha, hb, h => by
    have hx := (may_iff x).1 (ha.1 x (List.mem_cons_self ..))
    have hy := (may_iff y).1 (hb.1 y (List.mem_cons_self ..))
    have e1 : x.1 = y.1 := by
      have h1 : has (y :: t) x.1 = true := by rw [← h, has_cons, (inn_iff x x.1).2 (by omega)]; rfl
      have h2 : has (x :: s) y.1 = true := by rw [h, has_cons, (inn_iff y y.1).2 (by omega)]; rfl
      have := canon_head y t hb _ h1
      have := canon_head x s ha _ h2
      omega
    have e2 : x.2 = y.2 := by
      rcases Int.lt_trichotomy x.2 y.2 with hl | he | hl
      · have h1 : has (x :: s) x.2 = true := by rw [h, has_cons, (inn_iff y x.2).2 (by omega)]; rfl
        have h2 := (canon_tail_has x s ha x.2).2 ⟨h1, by omega⟩
        obtain ⟨z, hz, hpz⟩ := (has_iff _ _).1 h2
        have := (List.pairwise_cons.1 ha.2).1 z hz
        have := (inn_iff z x.2).1 hpz
        omega
      · exact he
      · have h1 : has (y :: t) y.2 = true := by rw [← h, has_cons, (inn_iff x y.2).2 (by omega)]; rfl
        have h2 := (canon_tail_has y t hb y.2).2 ⟨h1, by omega⟩
        obtain ⟨z, hz, hpz⟩ := (has_iff _ _).1 h2
        have := (List.pairwise_cons.1 hb.2).1 z hz
        have := (inn_iff z y.2).1 hpz
        omega
    have ex : x = y := Prod.ext e1 e2
    subst ex
    have := canon_eq s t ha.tail hb.tail fun p => by
      rw [Bool.eq_iff_iff, canon_tail_has x s ha p, canon_tail_has x t hb p, h p]
    rw [this]

/-- One more put to what is put together, Lo not below any that is there. -/
def put (j : List Rg) (r : Rg) : List Rg :=
  match j.getLast? with
  | none => [r]
  | some x => if x.2 < r.1 then j ++ [r] else j.dropLast ++ [(x.1, max x.2 r.2)]
theorem put_nil (r : Rg) : put [] r = [r] := rfl
theorem put_snoc (j : List Rg) (x r : Rg) : put (j ++ [x]) r = if x.2 < r.1 then j ++ [x] ++ [r] else j ++ [(x.1, max x.2 r.2)] := by
  unfold put
  rw [List.getLast?_concat, List.dropLast_concat]
theorem canon_snoc (j : List Rg) (x : Rg) (h : Canon j) (hx : may x = true) (hj : ∀ y ∈ j, y.2 < x.1) : Canon (j ++ [x]) := by
  refine ⟨fun y hy => ?_, List.pairwise_append.2 ⟨h.2, by simp, fun a ha b hb => ?_⟩⟩
  · rcases List.mem_append.1 hy with hy | hy
    · exact h.1 y hy
    · rw [List.mem_singleton.1 hy]; exact hx
  · rw [List.mem_singleton.1 hb]; exact hj a ha
theorem canon_snoc_inv (j : List Rg) (x : Rg) (h : Canon (j ++ [x])) : Canon j ∧ may x = true ∧ ∀ y ∈ j, y.2 < x.1 :=
  ⟨⟨fun y hy => h.1 y (List.mem_append_left _ hy), (List.pairwise_append.1 h.2).1⟩, h.1 x (by simp), fun y hy => (List.pairwise_append.1 h.2).2.2 y hy x (by simp)⟩

theorem put_ok (j : List Rg) (r : Rg) (h : Canon j) (hr : may r = true) (hj : ∀ y ∈ j, y.1 ≤ r.1) :
    Canon (put j r) ∧ (∀ p, has (put j r) p = (has j p || inn r p)) ∧ (∀ b, (∀ y ∈ j, y.1 ≤ b) → r.1 ≤ b → ∀ y ∈ put j r, y.1 ≤ b) := by
  rcases List.eq_nil_or_concat j with rfl | ⟨j', x, e⟩
  · rw [put_nil]
    refine ⟨⟨fun y hy => ?_, by simp⟩, fun p => ?_, fun b _ h2 y hy => ?_⟩
    · rw [List.mem_singleton.1 hy]; exact hr
    · simp [has]
    · rw [List.mem_singleton.1 hy]; exact h2
  · rw [List.concat_eq_append] at e
    subst e
    obtain ⟨hc, hx, hb⟩ := canon_snoc_inv j' x h
    have hx' := (may_iff x).1 hx
    have hr' := (may_iff r).1 hr
    have hxr := hj x (by simp)
    rw [put_snoc]
    split
    · rename_i hlt
      refine ⟨canon_snoc _ _ h hr fun y hy => ?_, fun p => ?_, fun b h1 h2 y hy => ?_⟩
      · rcases List.mem_append.1 hy with hy | hy
        · have := hb y hy; omega
        · rw [List.mem_singleton.1 hy]; exact hlt
      · rw [has_append _ [r], has_cons, has_nil, Bool.or_false]
      · rcases List.mem_append.1 hy with hy | hy
        · exact h1 y hy
        · rw [List.mem_singleton.1 hy]; exact h2
    · rename_i hlt
      refine ⟨canon_snoc _ _ hc (by rw [may_iff]; dsimp only; omega) fun y hy => ?_, fun p => ?_, fun b h1 h2 y hy => ?_⟩
      · exact hb y hy
      · rw [has_append, has_append, Bool.or_assoc]
        congr 1
        rw [has_cons, has_nil, Bool.or_false, has_cons, has_nil, Bool.or_false, Bool.eq_iff_iff, Bool.or_eq_true, inn_iff, inn_iff, inn_iff]
        dsimp only
        omega
      · rcases List.mem_append.1 hy with hy | hy
        · exact h1 y (List.mem_append_left _ hy)
        · rw [List.mem_singleton.1 hy]; exact h1 x (by simp)

def putAll (j : List Rg) (l : List Rg) : List Rg := l.foldl put j
theorem putAll_ok (l : List Rg) : ∀ (j : List Rg), Canon j → (∀ x ∈ l, may x = true) → l.Pairwise (fun a b => a.1 ≤ b.1) → (∀ x ∈ l, ∀ y ∈ j, y.1 ≤ x.1) →
    Canon (putAll j l) ∧ ∀ p, has (putAll j l) p = (has j p || has l p) := by
  induction l with
  | nil => intro j h _ _ _; exact ⟨h, fun p => by simp [putAll, has]⟩
  | cons r t ih =>
    intro j h hm hs hj
    obtain ⟨h1, h2, h3⟩ := put_ok j r h (hm r (List.mem_cons_self ..)) (hj r (List.mem_cons_self ..))
    have hs' := List.pairwise_cons.1 hs
    obtain ⟨h4, h5⟩ := ih (put j r) h1 (fun x hx => hm x (List.mem_cons_of_mem _ hx)) hs'.2
      (fun x hx y hy => h3 x.1 (fun z hz => hj x (List.mem_cons_of_mem _ hx) z hz) (hs'.1 x hx) y hy)
    refine ⟨h4, fun p => ?_⟩
    show has (putAll (put j r) t) p = _
    rw [h5, h2, has_cons, Bool.or_assoc]

def real (l : List Rg) : List Rg := l.filter may
theorem real_has (l : List Rg) (p : Int) : has (real l) p = has l p := by
  induction l with
  | nil => rfl
  | cons x t ih =>
    unfold real at ih ⊢
    rw [List.filter_cons, has_cons]
    split
    · rw [has_cons, ih]
    · rename_i h
      rw [ih]
      have : inn x p = false := by
        rw [← Bool.not_eq_true, inn_iff]
        intro hx
        exact h ((may_iff x).2 hx.1)
      rw [this, Bool.false_or]
theorem real_may (l : List Rg) (x : Rg) (h : x ∈ real l) : may x = true := (List.mem_filter.1 h).2

/-- Ranges put together. -/
def join (l : List Rg) : List Rg := putAll [] ((real l).mergeSort fun a b => decide (a.1 ≤ b.1))
theorem join_of (l s : List Rg) (hp : s.Perm (real l)) (hs : s.Pairwise fun a b => a.1 ≤ b.1) : Canon (putAll [] s) ∧ ∀ p, has (putAll [] s) p = has l p := by
  obtain ⟨h1, h2⟩ := putAll_ok s [] ⟨(fun x hx => by cases hx), List.Pairwise.nil⟩ (fun x hx => real_may l x (hp.mem_iff.1 hx)) hs (fun x hx y hy => by cases hy)
  refine ⟨h1, fun p => ?_⟩
  rw [h2, has_nil, Bool.false_or, ← real_has l p]
  rw [Bool.eq_iff_iff, has_iff, has_iff]
  constructor
  · rintro ⟨x, hx, h⟩; exact ⟨x, hp.mem_iff.1 hx, h⟩
  · rintro ⟨x, hx, h⟩; exact ⟨x, hp.mem_iff.2 hx, h⟩
theorem join_canon (l : List Rg) : Canon (join l) ∧ ∀ p, has (join l) p = has l p := by
  refine join_of l _ (List.mergeSort_perm _ _) ?_
  have := List.pairwise_mergeSort (le := fun a b : Rg => decide (a.1 ≤ b.1)) (fun a b c h1 h2 => by simp at *; omega) (fun a b => by simp; omega) (real l)
  exact this.imp fun h => by simpa using h
theorem join_unique (l j : List Rg) (h : Canon j) (hp : ∀ p, has j p = has l p) : j = join l :=
  canon_eq _ _ h (join_canon l).1 fun p => by rw [hp, (join_canon l).2]
theorem join_sorted (l s : List Rg) (hp : s.Perm (real l)) (hs : s.Pairwise fun a b => a.1 ≤ b.1) : putAll [] s = join l :=
  join_unique l _ (join_of l s hp hs).1 (join_of l s hp hs).2
theorem join_join (l : List Rg) : join (join l) = join l := (join_unique (join l) (join l) (join_canon l).1 fun _ => rfl).symm
end Go.Proofs.Ytabckkepkennhaa.Pl
