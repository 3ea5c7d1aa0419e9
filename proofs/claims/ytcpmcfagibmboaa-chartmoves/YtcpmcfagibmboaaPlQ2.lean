/-
  The document's bounds, what it puts together from bound to bound, and its covering: the same as ours.
-/
import Derived.Test.YtcpmcfagibmboaaPlQ
namespace Go.Proofs.Ytcpmcfagibmboaa.Pq
open Pl Pv
set_option linter.unusedVariables false

/-- A number put into a rising list, once. -/
def into : List Int → Int → List Int
  | [], n => [n]
  | x :: t, n => if n ≤ x then (if n < x then n :: x :: t else x :: t) else x :: into t n
theorem mem_into (l : List Int) (n y : Int) : y ∈ into l n ↔ y = n ∨ y ∈ l := by
  induction l with
  | nil => simp [into]
  | cons x t ih =>
    unfold into
    split
    · split
      · simp
      · have : n = x := by omega
        subst this; simp
    · simp only [List.mem_cons, ih]
      constructor
      · rintro (h | h | h)
        · exact .inr (.inl h)
        · exact .inl h
        · exact .inr (.inr h)
      · rintro (h | h | h)
        · exact .inr (.inl h)
        · exact .inl h
        · exact .inr (.inr h)
theorem rising_into (l : List Int) (n : Int) (h : l.Pairwise (· < ·)) : (into l n).Pairwise (· < ·) := by
  induction l with
  | nil => simp [into]
  | cons x t ih =>
    have hx := List.pairwise_cons.1 h
    unfold into
    split
    · split
      · rename_i h1 h2
        refine List.pairwise_cons.2 ⟨fun y hy => ?_, h⟩
        rcases List.mem_cons.1 hy with rfl | hy
        · exact h2
        · have := hx.1 y hy; omega
      · exact h
    · rename_i h1
      refine List.pairwise_cons.2 ⟨fun y hy => ?_, ih hx.2⟩
      rcases (mem_into t n y).1 hy with rfl | hy
      · omega
      · exact hx.1 y hy
theorem into_len (l : List Int) (n : Int) : (into l n).length ≤ l.length + 1 := by
  induction l with
  | nil => simp [into]
  | cons x t ih =>
    unfold into
    split
    · split <;> simp
    · simp only [List.length_cons]; omega

def bnd1 (b : List Int) (r : Rg) : List Int := if may r = true then into (into b r.1) r.2 else b
def bounds (l : List Rg) : List Int := l.foldl bnd1 [0]
structure IsB (l : List Rg) (b : List Int) : Prop where
  rising : b.Pairwise (· < ·)
  zero : (0 : Int) ∈ b
  low : ∀ x ∈ b, 0 ≤ x ∧ x ≤ 65536
  ends : ∀ r ∈ l, may r = true → r.1 ∈ b ∧ r.2 ∈ b
theorem isB_step {l : List Rg} {b : List Int} (h : IsB l b) (r : Rg) : IsB (l ++ [r]) (bnd1 b r) := by
  unfold bnd1
  split
  · rename_i hm
    have hr := (may_iff r).1 hm
    refine ⟨rising_into _ _ (rising_into _ _ h.rising), ?_, fun x hx => ?_, fun s hs hms => ?_⟩
    · rw [mem_into, mem_into]; exact .inr (.inr h.zero)
    · rw [mem_into, mem_into] at hx
      rcases hx with rfl | rfl | hx
      · omega
      · omega
      · exact h.low x hx
    · rw [mem_into, mem_into, mem_into, mem_into]
      rcases List.mem_append.1 hs with hs | hs
      · have := h.ends s hs hms
        exact ⟨.inr (.inr this.1), .inr (.inr this.2)⟩
      · rw [List.mem_singleton.1 hs]
        exact ⟨.inr (.inl rfl), .inl rfl⟩
  · rename_i hm
    refine ⟨h.rising, h.zero, h.low, fun s hs hms => ?_⟩
    rcases List.mem_append.1 hs with hs | hs
    · exact h.ends s hs hms
    · rw [List.mem_singleton.1 hs] at hms; exact absurd hms hm
theorem isB_bounds (l : List Rg) : IsB l (bounds l) := by
  unfold bounds
  suffices h : ∀ (t : List Rg) (l0 : List Rg) (b : List Int), IsB l0 b → IsB (l0 ++ t) (t.foldl bnd1 b) from
    h l [] [0] ⟨by simp, by simp, fun x hx => by rw [List.mem_singleton.1 hx]; omega, fun r hr => by cases hr⟩
  intro t
  induction t with
  | nil => intro l0 b hb; simpa using hb
  | cons r t ih =>
    intro l0 b hb
    have := ih (l0 ++ [r]) (bnd1 b r) (isB_step hb r)
    rwa [List.append_assoc] at this
theorem bounds_snoc {l : List Rg} {k : Nat} {r : Rg} (h : l[k]? = some r) : bounds (l.take (k + 1)) = bnd1 (bounds (l.take k)) r := by
  unfold bounds
  rw [List.take_add_one, h, List.foldl_append]; rfl
theorem bounds_len (l : List Rg) : (bounds l).length ≤ 1 + 2 * l.length := by
  unfold bounds
  suffices h : ∀ (t : List Rg) (b : List Int), (t.foldl bnd1 b).length ≤ b.length + 2 * t.length from h l [0]
  intro t
  induction t with
  | nil => intro b; simp
  | cons r t ih =>
    intro b
    have h1 := ih (bnd1 b r)
    have h2 : (bnd1 b r).length ≤ b.length + 2 := by
      unfold bnd1
      split
      · have := into_len (into b r.1) r.2
        have := into_len b r.1
        omega
      · omega
    show (t.foldl bnd1 (bnd1 b r)).length ≤ _
    rw [List.length_cons]
    omega

/-- Between two bounds nothing begins or ends. -/
theorem same_in {l : List Rg} {b : List Int} (h : IsB l b) {x p : Int} (hx : x ≤ p) (hn : ∀ y ∈ b, y ≤ p → y ≤ x) (r : Rg) (hr : r ∈ l) : inn r p = inn r x := by
  rw [Bool.eq_iff_iff, inn_iff, inn_iff]
  constructor
  · rintro ⟨h1, h2, h3⟩
    have he := h.ends r hr ((may_iff r).2 h1)
    have := hn _ he.1 h2
    exact ⟨h1, this, by omega⟩
  · rintro ⟨h1, h2, h3⟩
    have he := h.ends r hr ((may_iff r).2 h1)
    refine ⟨h1, by omega, ?_⟩
    rcases Int.lt_or_le p r.2 with hl | hl
    · exact hl
    · have := hn _ he.2 hl; omega
theorem same_cnt {l : List Rg} {b : List Int} (h : IsB l b) {x p : Int} (hx : x ≤ p) (hn : ∀ y ∈ b, y ≤ p → y ≤ x) : cnt l p = cnt l x := by
  unfold cnt
  exact List.countP_congr fun r hr => by rw [same_in h hx hn r hr]
theorem same_has {l : List Rg} {b : List Int} (h : IsB l b) {x p : Int} (hx : x ≤ p) (hn : ∀ y ∈ b, y ≤ p → y ≤ x) : has l p = has l x := by
  rw [Bool.eq_iff_iff, cnt_has, cnt_has, same_cnt h hx hn]
theorem greatest (b : List Int) (p z : Int) (hz : z ∈ b) (hp : z ≤ p) : ∃ x ∈ b, x ≤ p ∧ ∀ y ∈ b, y ≤ p → y ≤ x := by
  induction b generalizing z with
  | nil => cases hz
  | cons a t ih =>
    by_cases ht : ∃ w ∈ t, w ≤ p
    · obtain ⟨w, hw, hwp⟩ := ht
      obtain ⟨x, hx, hxp, hm⟩ := ih w hw hwp
      by_cases ha : a ≤ p ∧ x < a
      · refine ⟨a, List.mem_cons_self .., ha.1, fun y hy hyp => ?_⟩
        rcases List.mem_cons.1 hy with rfl | hy
        · omega
        · have := hm y hy hyp; omega
      · refine ⟨x, List.mem_cons_of_mem _ hx, hxp, fun y hy hyp => ?_⟩
        rcases List.mem_cons.1 hy with rfl | hy
        · omega
        · exact hm y hy hyp
    · rcases List.mem_cons.1 hz with rfl | hz
      · refine ⟨z, List.mem_cons_self .., hp, fun y hy hyp => ?_⟩
        rcases List.mem_cons.1 hy with rfl | hy
        · omega
        · exact absurd ⟨y, hy, hyp⟩ ht
      · exact absurd ⟨z, hz, hp⟩ ht

/-- The document's covering. -/
def okAt (l : List Rg) (x : Int) : Bool := !(decide (x < 65536) && !decide (cnt l x = 1))
def rcov (l : List Rg) : Bool := l.all may && (bounds l).all (okAt l)
theorem rcov_iff (l : List Rg) : rcov l = true ↔ Cov l := by
  have hB := isB_bounds l
  unfold rcov
  rw [Bool.and_eq_true]
  constructor
  · rintro ⟨h1, h2⟩
    refine ⟨h1, fun p hp0 hp1 => ?_⟩
    obtain ⟨x, hx, hxp, hm⟩ := greatest (bounds l) p 0 hB.zero hp0
    rw [same_cnt hB hxp hm]
    have := (List.all_eq_true.1 h2) x hx
    unfold okAt at this
    rw [decide_eq_true (show x < 65536 by omega)] at this
    simpa using this
  · rintro ⟨h1, h2⟩
    refine ⟨h1, List.all_eq_true.2 fun x hx => ?_⟩
    have hl := hB.low x hx
    unfold okAt
    by_cases hlt : x < 65536
    · rw [h2 x hl.1 hlt]; simp
    · simp [hlt]
theorem rcov_cov (l : List Rg) : rcov l = cov l := by
  rw [Bool.eq_iff_iff, rcov_iff, cov_iff]

/-- From bound to bound. -/
def ext (out : List Rg) (x y : Int) : List Rg :=
  match out.getLast? with
  | none => [(x, y)]
  | some z => if z.2 = x then out.dropLast ++ [(z.1, y)] else out ++ [(x, y)]
theorem ext_nil (x y : Int) : ext [] x y = [(x, y)] := rfl
theorem ext_snoc (j : List Rg) (z : Rg) (x y : Int) : ext (j ++ [z]) x y = if z.2 = x then j ++ [(z.1, y)] else j ++ [z] ++ [(x, y)] := by
  unfold ext; rw [List.getLast?_concat, List.dropLast_concat]
def rjoin (l : List Rg) (b : List Int) : Nat → List Rg
  | 0 => []
  | k + 1 => if has l (b.getD k 0) then ext (rjoin l b k) (b.getD k 0) (b.getD (k + 1) 0) else rjoin l b k
theorem rjoin_len (l : List Rg) (b : List Int) (k : Nat) : (rjoin l b k).length ≤ k := by
  induction k with
  | zero => simp [rjoin]
  | succ k ih =>
    unfold rjoin
    split
    · rcases List.eq_nil_or_concat (rjoin l b k) with e | ⟨j, z, e⟩
      · rw [e, ext_nil]; simp
      · rw [List.concat_eq_append] at e
        rw [e] at ih ⊢
        rw [ext_snoc]
        rw [List.length_append, List.length_singleton] at ih
        split <;> simp <;> omega
    · omega
theorem getD_at {b : List Int} {k : Nat} (h : k < b.length) : b.getD k 0 = b[k] := by simp [List.getD, List.getElem?_eq_getElem h]
theorem head_zero {l : List Rg} {b : List Int} (h : IsB l b) : 0 < b.length ∧ b.getD 0 0 = 0 := by
  have h0 := h.zero
  cases b with
  | nil => cases h0
  | cons x t =>
    refine ⟨by simp, ?_⟩
    show x = 0
    have hx := h.low x (List.mem_cons_self ..)
    rcases List.mem_cons.1 h0 with e | ht
    · exact e.symm
    · have := (List.pairwise_cons.1 h.rising).1 0 ht
      omega
theorem next_bound {l : List Rg} {b : List Int} (h : IsB l b) {k : Nat} (hk : k + 1 < b.length) : b.getD k 0 < b.getD (k + 1) 0 ∧ ∀ y ∈ b, y < b.getD (k + 1) 0 → y ≤ b.getD k 0 := by
  have hp := List.pairwise_iff_getElem.1 h.rising
  rw [getD_at hk, getD_at (show k < b.length by omega)]
  refine ⟨hp k (k + 1) (by omega) hk (by omega), fun y hy hlt => ?_⟩
  obtain ⟨i, hi, rfl⟩ := List.mem_iff_getElem.1 hy
  rcases Nat.lt_trichotomy i k with h1 | h1 | h1
  · exact Int.le_of_lt (hp i k hi (by omega) h1)
  · subst h1; exact Int.le_refl _
  · rcases Nat.lt_or_ge i (k + 2) with h2 | h2
    · have : i = k + 1 := by omega
      subst this; omega
    · have := hp (k + 1) i hk hi (by omega); omega
theorem rjoin_inv {l : List Rg} {b : List Int} (h : IsB l b) : ∀ k, k < b.length → Canon (rjoin l b k) ∧ (∀ p, has (rjoin l b k) p = (has l p && decide (p < b.getD k 0))) ∧ ∀ z ∈ rjoin l b k, z.2 ≤ b.getD k 0 := by
  intro k
  induction k with
  | zero =>
    intro hk
    refine ⟨⟨(fun x hx => by cases hx), List.Pairwise.nil⟩, fun p => ?_, (fun z hz => by cases hz)⟩
    rw [(head_zero h).2]
    show false = _
    cases hp : has l p
    · rfl
    · obtain ⟨r, hr, hpr⟩ := (has_iff l p).1 hp
      have := (inn_iff r p).1 hpr
      rw [decide_eq_false (by omega)]; rfl
  | succ k ih =>
    intro hk
    obtain ⟨h1, h2, h3⟩ := ih (by omega)
    obtain ⟨hxy, hn⟩ := next_bound h hk
    have hx := h.low (b.getD k 0) (by rw [getD_at (show k < b.length by omega)]; exact List.getElem_mem _)
    have hy := h.low (b.getD (k + 1) 0) (by rw [getD_at hk]; exact List.getElem_mem _)
    have hs : ∀ p, b.getD k 0 ≤ p → p < b.getD (k + 1) 0 → has l p = has l (b.getD k 0) := fun p hp1 hp2 => same_has h hp1 (fun y hy2 hyp => hn y hy2 (by omega))
    rw [show rjoin l b (k + 1) = if has l (b.getD k 0) then ext (rjoin l b k) (b.getD k 0) (b.getD (k + 1) 0) else rjoin l b k from rfl]
    generalize b.getD k 0 = x at *
    generalize b.getD (k + 1) 0 = y at *
    generalize rjoin l b k = out at *
    cases hq : has l x
    · rw [if_neg (by simp)]
      refine ⟨h1, fun p => ?_, fun z hz => by have := h3 z hz; omega⟩
      rw [h2]
      rcases Int.lt_or_le p x with hl | hl
      · rw [decide_eq_true hl, decide_eq_true (show p < y by omega)]
      · rw [decide_eq_false (show ¬ p < x by omega), Bool.and_false]
        rcases Int.lt_or_le p y with hl2 | hl2
        · rw [hs p hl hl2, hq]; rfl
        · rw [decide_eq_false (show ¬ p < y by omega), Bool.and_false]
    · rw [if_pos rfl]
      have hm : may (x, y) = true := by rw [may_iff]; dsimp only; omega
      have hp : ∀ p, (has l p && decide (p < y)) = ((has l p && decide (p < x)) || inn (x, y) p) := fun p => by
        rcases Int.lt_or_le p x with hl | hl
        · have hf : inn (x, y) p = false := by rw [← Bool.not_eq_true, inn_iff]; dsimp only; omega
          rw [decide_eq_true hl, decide_eq_true (show p < y by omega), hf, Bool.or_false]
        · rcases Int.lt_or_le p y with hl2 | hl2
          · have hf : inn (x, y) p = true := by rw [inn_iff]; dsimp only; omega
            rw [hs p hl hl2, hq, decide_eq_true hl2, hf, Bool.or_true]; rfl
          · have hf : inn (x, y) p = false := by rw [← Bool.not_eq_true, inn_iff]; dsimp only; omega
            rw [decide_eq_false (show ¬ p < y by omega), decide_eq_false (show ¬ p < x by omega), hf, Bool.and_false, Bool.or_false]
      rcases List.eq_nil_or_concat out with rfl | ⟨j, z, e⟩
      · rw [ext_nil]
        refine ⟨⟨fun a ha => by rw [List.mem_singleton.1 ha]; exact hm, by simp⟩, fun p => ?_, fun a ha => by rw [List.mem_singleton.1 ha]; exact Int.le_refl _⟩
        rw [hp, ← h2, has_nil, has_cons, has_nil, Bool.or_false, Bool.false_or]
      · rw [List.concat_eq_append] at e
        subst e
        obtain ⟨c1, c2, c3⟩ := canon_snoc_inv j z h1
        have hz := (may_iff z).1 c2
        have hzx := h3 z (by simp)
        rw [ext_snoc]
        split
        · rename_i hzx2
          refine ⟨canon_snoc j (z.1, y) c1 (by rw [may_iff]; dsimp only; omega) c3, fun p => ?_, fun a ha => ?_⟩
          · rw [hp, ← h2, has_append, has_append, has_cons, has_nil, Bool.or_false, has_cons, has_nil, Bool.or_false, Bool.or_assoc]
            congr 1
            rw [Bool.eq_iff_iff, Bool.or_eq_true, inn_iff, inn_iff, inn_iff]
            dsimp only
            omega
          · rcases List.mem_append.1 ha with ha | ha
            · have := h3 a (List.mem_append_left _ ha); omega
            · rw [List.mem_singleton.1 ha]; exact Int.le_refl _
        · rename_i hzx2
          refine ⟨canon_snoc _ (x, y) h1 hm (fun a ha => ?_), fun p => ?_, fun a ha => ?_⟩
          · rcases List.mem_append.1 ha with ha | ha
            · have := c3 a ha; dsimp only; omega
            · rw [List.mem_singleton.1 ha]; dsimp only; omega
          · rw [hp, ← h2, has_append _ [(x, y)], has_cons, has_nil, Bool.or_false]
          · rcases List.mem_append.1 ha with ha | ha
            · have := h3 a ha; omega
            · rw [List.mem_singleton.1 ha]; exact Int.le_refl _
theorem rjoin_join (l : List Rg) : rjoin l (bounds l) ((bounds l).length - 1) = join l := by
  have hB := isB_bounds l
  have h0 := (head_zero hB).1
  obtain ⟨h1, h2, h3⟩ := rjoin_inv hB ((bounds l).length - 1) (by omega)
  refine join_unique l _ h1 fun p => ?_
  rw [h2]
  cases hp : has l p
  · rfl
  · obtain ⟨r, hr, hpr⟩ := (has_iff l p).1 hp
    have hi := (inn_iff r p).1 hpr
    have he := (hB.ends r hr ((may_iff r).2 hi.1)).2
    obtain ⟨i, hi2, hri⟩ := List.mem_iff_getElem.1 he
    have hle : r.2 ≤ (bounds l).getD ((bounds l).length - 1) 0 := by
      rw [getD_at (show (bounds l).length - 1 < (bounds l).length by omega), ← hri]
      rcases Nat.lt_or_ge i ((bounds l).length - 1) with hlt | hge
      · exact Int.le_of_lt (List.pairwise_iff_getElem.1 hB.rising i _ hi2 (by omega) hlt)
      · have : i = (bounds l).length - 1 := by omega
        subst this; exact Int.le_refl _
    rw [decide_eq_true (show p < _ by omega)]; rfl
end Go.Proofs.Ytcpmcfagibmboaa.Pq
