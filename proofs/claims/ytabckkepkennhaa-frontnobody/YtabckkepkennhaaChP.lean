/-
  Plain charts: pieces put together as they come, a move, who serves a place, what a chart may be. Nothing of the program.
-/
import Derived.Test.YtabckkepkennhaaPlQ
namespace Go.Proofs.Ytabckkepkennhaa.Cp
open Pl Pv Pq
set_option linter.unusedVariables false

/-- A piece: its Lo, its Hi, its shard. -/
abbrev Pc := Int × Int × Int
def rg (x : Pc) : Rg := (x.1, x.2.1)
def isSh (n : Int) : Bool := decide (1 ≤ n ∧ n ≤ 6)
theorem isSh_iff (n : Int) : isSh n = true ↔ 1 ≤ n ∧ n ≤ 6 := by simp [isSh]

/-- Who serves a place. -/
def ofL : List Pc → Int → Int
  | [], _ => 0
  | x :: t, q => if inn (rg x) q then x.2.2 else ofL t q

/-- Pieces from a on, up to b, one behind the other, the first one's shard another one than s. -/
def Gd : Int → Int → List Pc → Int → Prop
  | a, _, [], b => a = b
  | a, s, x :: t, b => x.1 = a ∧ a < x.2.1 ∧ x.2.2 ≠ s ∧ (1 ≤ x.2.2 ∧ x.2.2 ≤ 6) ∧ Gd x.2.1 x.2.2 t b
/-- The last one's shard. -/
def ls : Int → List Pc → Int
  | s, [] => s
  | _, x :: t => ls x.2.2 t

theorem gd_le : ∀ (ps : List Pc) (a s b : Int), Gd a s ps b → a ≤ b
  | [], a, s, b, h => by have : a = b := h; omega
  | x :: t, a, s, b, h => by have := gd_le t _ _ _ h.2.2.2.2; have := h.2.1; omega
theorem gd_append : ∀ (L M : List Pc) (a s b : Int), Gd a s (L ++ M) b ↔ ∃ m, Gd a s L m ∧ Gd m (ls s L) M b
  | [], M, a, s, b => by
    constructor
    · intro h; exact ⟨a, rfl, h⟩
    · rintro ⟨m, h1, h2⟩
      have h1 : a = m := h1
      subst h1; exact h2
  | x :: t, M, a, s, b => by
    have ih := gd_append t M x.2.1 x.2.2 b
    constructor
    · intro h
      obtain ⟨m, h1, h2⟩ := ih.1 h.2.2.2.2
      exact ⟨m, ⟨h.1, h.2.1, h.2.2.1, h.2.2.2.1, h1⟩, h2⟩
    · rintro ⟨m, h1, h2⟩
      exact ⟨h1.1, h1.2.1, h1.2.2.1, h1.2.2.2.1, ih.2 ⟨m, h1.2.2.2.2, h2⟩⟩
theorem ls_snoc (L : List Pc) (x : Pc) : ∀ s, ls s (L ++ [x]) = x.2.2 := by
  induction L with
  | nil => intro s; rfl
  | cons y t ih => intro s; exact ih _

theorem ofL_out : ∀ (ps : List Pc) (a s b : Int), Gd a s ps b → ∀ q, (q < a ∨ b ≤ q) → ofL ps q = 0
  | [], _, _, _, _, _, _ => rfl
  | x :: t, a, s, b, h, q, hq => by
    have h5 := h.2.2.2.2
    have hle := gd_le t _ _ _ h5
    have h1 := h.1; have h2 := h.2.1
    have hn : inn (rg x) q = false := by
      rw [← Bool.not_eq_true, inn_iff]
      show ¬ ((0 ≤ x.1 ∧ x.1 < x.2.1 ∧ x.2.1 ≤ 65536) ∧ x.1 ≤ q ∧ q < x.2.1)
      omega
    rw [ofL, hn]
    simp only [Bool.false_eq_true, if_false]
    exact ofL_out t _ _ _ h5 q (by omega)
theorem ofL_in : ∀ (ps : List Pc) (a s b : Int), Gd a s ps b → 0 ≤ a → b ≤ 65536 → ∀ q, a ≤ q → q < b → 1 ≤ ofL ps q ∧ ofL ps q ≤ 6
  | [], a, _, b, h, _, _, q, h1, h2 => by have : a = b := h; omega
  | x :: t, a, s, b, h, h0, hb, q, hq1, hq2 => by
    have h5 := h.2.2.2.2
    have hle := gd_le t _ _ _ h5
    have h1 := h.1; have h2 := h.2.1
    rw [ofL]
    by_cases hq : q < x.2.1
    · have hn : inn (rg x) q = true := by
        rw [inn_iff]
        show (0 ≤ x.1 ∧ x.1 < x.2.1 ∧ x.2.1 ≤ 65536) ∧ x.1 ≤ q ∧ q < x.2.1
        omega
      rw [if_pos hn]; exact h.2.2.2.1
    · have hn : ¬ inn (rg x) q = true := by
        rw [inn_iff]
        show ¬ ((0 ≤ x.1 ∧ x.1 < x.2.1 ∧ x.2.1 ≤ 65536) ∧ x.1 ≤ q ∧ q < x.2.1)
        omega
      rw [if_neg hn]
      exact ofL_in t _ _ _ h5 (by omega) hb q (by omega) hq2
theorem ofL_append : ∀ (L M : List Pc) (a s m : Int), Gd a s L m → 0 ≤ a → m ≤ 65536 → ∀ q, ofL (L ++ M) q = if a ≤ q ∧ q < m then ofL L q else ofL M q
  | [], M, a, s, m, h, h0, hm, q => by
    have h : a = m := h
    rw [if_neg (by omega)]; rfl
  | x :: t, M, a, s, m, h, h0, hm, q => by
    have h5 := h.2.2.2.2
    have hle := gd_le t _ _ _ h5
    have h1 := h.1; have h2 := h.2.1
    have ih := ofL_append t M _ _ _ h5 (by omega) hm q
    have hiff : inn (rg x) q = true ↔ a ≤ q ∧ q < x.2.1 := by
      rw [inn_iff]
      show ((0 ≤ x.1 ∧ x.1 < x.2.1 ∧ x.2.1 ≤ 65536) ∧ x.1 ≤ q ∧ q < x.2.1) ↔ _
      omega
    show (if inn (rg x) q then x.2.2 else ofL (t ++ M) q) = if a ≤ q ∧ q < m then (if inn (rg x) q then x.2.2 else ofL t q) else ofL M q
    by_cases hq : inn (rg x) q = true
    · have := hiff.1 hq
      rw [if_pos hq, if_pos hq, if_pos (by omega)]
    · have hq' : ¬ (a ≤ q ∧ q < x.2.1) := fun hh => hq (hiff.2 hh)
      rw [if_neg hq, if_neg hq, ih]
      by_cases hh : x.2.1 ≤ q ∧ q < m
      · rw [if_pos hh, if_pos (by omega)]
      · rw [if_neg hh, if_neg (by omega)]

/-- One more piece put to those that came. -/
def pu (L : List Pc) (r : Rg) (s : Int) : List Pc :=
  if r = (0, 0) then L else match L.getLast? with
    | none => [(r.1, r.2, s)]
    | some x => if s = x.2.2 then L.dropLast ++ [(x.1, r.2, s)] else L ++ [(r.1, r.2, s)]
theorem pu_none (L : List Pc) (s : Int) : pu L (0, 0) s = L := by unfold pu; rw [if_pos rfl]
theorem pu_nil (r : Rg) (s : Int) (h : r ≠ (0, 0)) : pu [] r s = [(r.1, r.2, s)] := by unfold pu; rw [if_neg h]; rfl
theorem pu_snoc (L : List Pc) (x : Pc) (r : Rg) (s : Int) (h : r ≠ (0, 0)) : pu (L ++ [x]) r s = if s = x.2.2 then L ++ [(x.1, r.2, s)] else L ++ [x] ++ [(r.1, r.2, s)] := by
  unfold pu; rw [if_neg h, List.getLast?_concat, List.dropLast_concat]

theorem ne_zero_pair (x y : Int) (h0 : 0 ≤ x) (h : x < y) : ((x, y) : Rg) ≠ (0, 0) := by
  intro e; injection e with e1 e2; omega

theorem pu_ok (L : List Pc) (x y s : Int) (hL : Gd 0 0 L x) (h0 : 0 ≤ x) (hxy : x < y) (hy : y ≤ 65536) (hs : 1 ≤ s ∧ s ≤ 6) :
    Gd 0 0 (pu L (x, y) s) y ∧ ∀ q, ofL (pu L (x, y) s) q = if x ≤ q ∧ q < y then s else ofL L q := by
  have hne := ne_zero_pair x y h0 hxy
  have hone : ∀ (u v q : Int), 0 ≤ u → u < v → v ≤ 65536 → ofL [(u, v, s)] q = if u ≤ q ∧ q < v then s else 0 := by
    intro u v q h1 h2 h3
    show (if inn (rg (u, v, s)) q then s else 0) = _
    by_cases hq : u ≤ q ∧ q < v
    · rw [if_pos hq, if_pos]; rw [inn_iff]; exact ⟨⟨h1, h2, h3⟩, hq⟩
    · rw [if_neg hq, if_neg]; rw [inn_iff]; exact fun hh => hq hh.2
  rcases List.eq_nil_or_concat L with rfl | ⟨L', z, e⟩
  · have hL : (0 : Int) = x := hL
    subst hL
    rw [pu_nil _ _ hne]
    refine ⟨⟨rfl, hxy, (by show s ≠ 0; omega), hs, rfl⟩, fun q => ?_⟩
    rw [hone _ _ _ h0 hxy hy]; rfl
  · rw [List.concat_eq_append] at e
    subst e
    obtain ⟨m, h1, h2⟩ := (gd_append L' [z] 0 0 x).1 hL
    obtain ⟨hz1, hz2, hz3, hz4, hz5⟩ := h2
    have hz5 : z.2.1 = x := hz5
    have hm0 := gd_le _ _ _ _ h1
    rw [pu_snoc _ _ _ _ hne]
    by_cases hs2 : s = z.2.2
    · rw [if_pos hs2]
      refine ⟨(gd_append L' _ 0 0 y).2 ⟨m, h1, hz1, (by show m < y; omega), (by show s ≠ _; rw [hs2]; exact hz3), hs, rfl⟩, fun q => ?_⟩
      rw [ofL_append L' _ 0 0 m h1 (Int.le_refl 0) (by omega), ofL_append L' _ 0 0 m h1 (Int.le_refl 0) (by omega), hone _ _ _ (by omega) (by show z.1 < y; omega) hy]
      show _ = if x ≤ q ∧ q < y then s else if 0 ≤ q ∧ q < m then ofL L' q else (if inn (rg z) q then z.2.2 else 0)
      have hzz : inn (rg z) q = true ↔ m ≤ q ∧ q < x := by
        rw [inn_iff]
        show ((0 ≤ z.1 ∧ z.1 < z.2.1 ∧ z.2.1 ≤ 65536) ∧ z.1 ≤ q ∧ q < z.2.1) ↔ _
        omega
      by_cases hq1 : 0 ≤ q ∧ q < m
      · rw [if_pos hq1, if_neg (by omega), if_pos hq1]
      · rw [if_neg hq1, if_neg hq1]
        by_cases hq2 : x ≤ q ∧ q < y
        · rw [if_pos hq2, if_pos (by omega)]
        · rw [if_neg hq2]
          by_cases hq3 : m ≤ q ∧ q < x
          · rw [if_pos (hzz.2 hq3), if_pos (by omega), hs2]
          · rw [if_neg (fun h => hq3 (hzz.1 h)), if_neg (by omega)]
    · rw [if_neg hs2]
      refine ⟨(gd_append _ _ 0 0 y).2 ⟨x, hL, rfl, hxy, (by rw [ls_snoc]; exact hs2), hs, rfl⟩, fun q => ?_⟩
      rw [ofL_append _ [(x, y, s)] 0 0 x hL (Int.le_refl 0) (by omega), hone _ _ _ h0 hxy hy]
      by_cases hq1 : 0 ≤ q ∧ q < x
      · rw [if_pos hq1, if_neg (by omega)]
      · rw [if_neg hq1]
        by_cases hq2 : x ≤ q ∧ q < y
        · rw [if_pos hq2, if_pos hq2]
        · rw [if_neg hq2, if_neg hq2, ofL_out _ _ _ _ hL q (by omega)]

/-- From x to y; the empty range where there is nothing. -/
def seg (x y : Int) : Rg := if x < y then (x, y) else (0, 0)
theorem pu_seg (L : List Pc) (x y s : Int) (hL : Gd 0 0 L x) (h0 : 0 ≤ x) (hxy : x ≤ y) (hy : y ≤ 65536) (hs : 1 ≤ s ∧ s ≤ 6) :
    Gd 0 0 (pu L (seg x y) s) y ∧ ∀ q, ofL (pu L (seg x y) s) q = if x ≤ q ∧ q < y then s else ofL L q := by
  unfold seg
  by_cases h : x < y
  · rw [if_pos h]; exact pu_ok L x y s hL h0 h hy hs
  · rw [if_neg h, pu_none]
    have : x = y := by omega
    subst this
    exact ⟨hL, fun q => by rw [if_neg (by omega)]⟩

/-- What a move makes of one piece, of all. -/
def mv1 (r : Rg) (tg : Int) (L : List Pc) (p : Pc) : List Pc := pu (pu (pu L (meet (rg p) (0, r.1)) p.2.2) (meet (rg p) r) tg) (meet (rg p) (r.2, 65536)) p.2.2
def mv (r : Rg) (tg : Int) (L ps : List Pc) : List Pc := ps.foldl (mv1 r tg) L

theorem meet_seg (a h c d : Int) (h1 : 0 ≤ a ∧ a < h ∧ h ≤ 65536) (h2 : 0 ≤ c ∧ c ≤ d ∧ d ≤ 65536) : meet (a, h) (c, d) = seg (max a (min h c)) (max a (min h d)) := by
  unfold meet seg
  have e1 : may (a, h) = true := (may_iff _).2 h1
  by_cases hm : may (c, d) = true ∧ a < d ∧ c < h
  · have hc := (may_iff _).1 hm.1
    simp only at hc
    rw [if_pos ⟨e1, hm.1, hm.2⟩, if_pos (by omega)]
    simp only
    congr 1 <;> omega
  · rw [if_neg (fun hh => hm hh.2), if_neg]
    intro hlt
    refine hm ⟨(may_iff _).2 ?_, ?_⟩
    · simp only; omega
    · omega

theorem mv1_ok (r : Rg) (tg : Int) (hr : may r = true) (ht : 1 ≤ tg ∧ tg ≤ 6) (L : List Pc) (p : Pc) (a : Int) (hL : Gd 0 0 L a) (h0 : 0 ≤ a) (hp : p.1 = a ∧ a < p.2.1 ∧ p.2.1 ≤ 65536) (hs : 1 ≤ p.2.2 ∧ p.2.2 ≤ 6) :
    Gd 0 0 (mv1 r tg L p) p.2.1 ∧ ∀ q, ofL (mv1 r tg L p) q = if a ≤ q ∧ q < p.2.1 then (if inn r q then tg else p.2.2) else ofL L q := by
  have hr' := (may_iff r).1 hr
  obtain ⟨a', h, s⟩ := p
  simp only at hp hs ⊢
  obtain ⟨rfl, hp2, hp3⟩ := hp
  unfold mv1
  simp only [rg]
  rw [meet_seg a' h 0 r.1 (by omega) (by omega), show r = (r.1, r.2) from rfl, meet_seg a' h r.1 r.2 (by omega) (by omega), meet_seg a' h r.2 65536 (by omega) (by omega)]
  rw [show max a' (min h 0) = a' by omega, show max a' (min h 65536) = h by omega]
  generalize hb1 : max a' (min h r.1) = b1
  generalize hb2 : max a' (min h r.2) = b2
  obtain ⟨g1, o1⟩ := pu_seg L a' b1 s hL h0 (by omega) (by omega) hs
  obtain ⟨g2, o2⟩ := pu_seg _ b1 b2 tg g1 (by omega) (by omega) (by omega) ht
  obtain ⟨g3, o3⟩ := pu_seg _ b2 h s g2 (by omega) (by omega) (by omega) hs
  refine ⟨g3, fun q => ?_⟩
  rw [o3, o2, o1]
  have hi := inn_iff' (r.1, r.2) q (by exact hr)
  simp only at hi
  by_cases hq : a' ≤ q ∧ q < h
  · rw [if_pos hq]
    by_cases hin : r.1 ≤ q ∧ q < r.2
    · rw [if_pos (hi.2 hin), if_neg (by omega), if_pos (by omega)]
    · rw [if_neg (fun hh => hin (hi.1 hh))]
      by_cases hq3 : b2 ≤ q ∧ q < h
      · rw [if_pos hq3]
      · rw [if_neg hq3, if_neg (by omega), if_pos (by omega)]
  · rw [if_neg hq, if_neg (by omega), if_neg (by omega), if_neg (by omega)]

theorem mv_ok (r : Rg) (tg : Int) (hr : may r = true) (ht : 1 ≤ tg ∧ tg ≤ 6) : ∀ (ps L : List Pc) (a s b : Int), Gd a s ps b → b ≤ 65536 → Gd 0 0 L a → 0 ≤ a →
    Gd 0 0 (mv r tg L ps) b ∧ ∀ q, ofL (mv r tg L ps) q = if a ≤ q ∧ q < b then (if inn r q then tg else ofL ps q) else ofL L q
  | [], L, a, s, b, h, hb, hL, h0 => by
    have h : a = b := h
    subst h
    exact ⟨hL, fun q => by rw [if_neg (by omega)]; rfl⟩
  | p :: t, L, a, s, b, h, hb, hL, h0 => by
    obtain ⟨h1, h2, h3, h4, h5⟩ := h
    have hle := gd_le t _ _ _ h5
    obtain ⟨g1, o1⟩ := mv1_ok r tg hr ht L p a hL h0 ⟨h1, h2, by omega⟩ h4
    obtain ⟨g2, o2⟩ := mv_ok r tg hr ht t (mv1 r tg L p) _ _ b h5 hb g1 (by omega)
    refine ⟨g2, fun q => ?_⟩
    show ofL (mv r tg (mv1 r tg L p) t) q = _
    rw [o2, o1]
    have hiff : inn (rg p) q = true ↔ a ≤ q ∧ q < p.2.1 := by
      rw [inn_iff]
      show ((0 ≤ p.1 ∧ p.1 < p.2.1 ∧ p.2.1 ≤ 65536) ∧ p.1 ≤ q ∧ q < p.2.1) ↔ _
      omega
    rw [ofL]
    by_cases hq1 : p.2.1 ≤ q ∧ q < b
    · rw [if_pos hq1, if_pos (c := a ≤ q ∧ q < b) (by omega), if_neg (c := inn (rg p) q = true) (fun hh => by have := hiff.1 hh; omega)]
    · rw [if_neg hq1]
      by_cases hq2 : a ≤ q ∧ q < p.2.1
      · rw [if_pos hq2, if_pos (c := a ≤ q ∧ q < b) (by omega), if_pos (c := inn (rg p) q = true) (hiff.2 hq2)]
      · rw [if_neg hq2, if_neg (c := a ≤ q ∧ q < b) (by omega)]

theorem mv_all (r : Rg) (tg : Int) (hr : may r = true) (ht : 1 ≤ tg ∧ tg ≤ 6) (ps : List Pc) (h : Gd 0 0 ps 65536) :
    Gd 0 0 (mv r tg [] ps) 65536 ∧ ∀ q, ofL (mv r tg [] ps) q = if inn r q then tg else ofL ps q := by
  obtain ⟨g, o⟩ := mv_ok r tg hr ht ps [] 0 0 65536 h (Int.le_refl _) rfl (Int.le_refl _)
  refine ⟨g, fun q => ?_⟩
  rw [o]
  by_cases hq : 0 ≤ q ∧ q < 65536
  · rw [if_pos hq]
  · rw [if_neg hq]
    have hr' := (may_iff r).1 hr
    have hn : ¬ inn r q = true := by rw [inn_iff]; omega
    rw [if_neg hn, ofL_out _ _ _ _ h q (by omega)]
    rfl

/-- Who serves what tells the pieces. -/
theorem gd_eq : ∀ (l l' : List Pc) (a s s' b : Int), Gd a s l b → Gd a s' l' b → 0 ≤ a → b ≤ 65536 → (∀ q, ofL l q = ofL l' q) → l = l'
  | [], [], _, _, _, _, _, _, _, _, _ => rfl
  | [], y :: t', a, s, s', b, h, h', _, _, _ => by
    have h : a = b := h
    have := gd_le _ _ _ _ h'.2.2.2.2
    have := h'.2.1
    omega
  | x :: t, [], a, s, s', b, h, h', _, _, _ => by
    have h' : a = b := h'
    have := gd_le _ _ _ _ h.2.2.2.2
    have := h.2.1
    omega
  | x :: t, y :: t', a, s, s', b, h, h', h0, hb, ho => by
    have aux : ∀ (x : Pc) (t : List Pc) (y : Pc) (t' : List Pc), Gd a s (x :: t) b → (∃ s', Gd a s' (y :: t') b) → (∀ q, ofL (x :: t) q = ofL (y :: t') q) → x.2.2 = y.2.2 → ¬ x.2.1 < y.2.1 := by
      intro x t y t' h hh ho hs hlt
      obtain ⟨s', h'⟩ := hh
      have l1 := gd_le _ _ _ _ h.2.2.2.2
      have l2 := gd_le _ _ _ _ h'.2.2.2.2
      have h1 := h.1; have h2 := h.2.1; have h1' := h'.1; have h2' := h'.2.1
      have hq := ho x.2.1
      rw [ofL, ofL, if_neg (c := inn (rg x) x.2.1 = true) (by rw [inn_iff]; show ¬ (_ ∧ x.1 ≤ x.2.1 ∧ x.2.1 < x.2.1); omega), if_pos (c := inn (rg y) x.2.1 = true) (by rw [inn_iff]; show (0 ≤ y.1 ∧ y.1 < y.2.1 ∧ y.2.1 ≤ 65536) ∧ y.1 ≤ x.2.1 ∧ x.2.1 < y.2.1; omega)] at hq
      cases t with
      | nil => have e : x.2.1 = b := h.2.2.2.2; omega
      | cons z t =>
        obtain ⟨z1, z2, z3, z4, z5⟩ := h.2.2.2.2
        have l3 := gd_le _ _ _ _ z5
        rw [ofL, if_pos (by rw [inn_iff]; show (0 ≤ z.1 ∧ z.1 < z.2.1 ∧ z.2.1 ≤ 65536) ∧ z.1 ≤ x.2.1 ∧ x.2.1 < z.2.1; omega)] at hq
        omega
    have l1 := gd_le _ _ _ _ h.2.2.2.2
    have l2 := gd_le _ _ _ _ h'.2.2.2.2
    have h1 := h.1; have h2 := h.2.1; have h1' := h'.1; have h2' := h'.2.1
    have hs : x.2.2 = y.2.2 := by
      have hq := ho a
      rw [ofL, ofL, if_pos (c := inn (rg x) a = true) (by rw [inn_iff]; show (0 ≤ x.1 ∧ x.1 < x.2.1 ∧ x.2.1 ≤ 65536) ∧ x.1 ≤ a ∧ a < x.2.1; omega), if_pos (c := inn (rg y) a = true) (by rw [inn_iff]; show (0 ≤ y.1 ∧ y.1 < y.2.1 ∧ y.2.1 ≤ 65536) ∧ y.1 ≤ a ∧ a < y.2.1; omega)] at hq
      exact hq
    have n1 := aux x t y t' h ⟨s', h'⟩ ho hs
    have n2 : ¬ y.2.1 < x.2.1 := by
      intro hlt
      have hq := ho y.2.1
      rw [ofL, ofL, if_pos (c := inn (rg x) y.2.1 = true) (by rw [inn_iff]; show (0 ≤ x.1 ∧ x.1 < x.2.1 ∧ x.2.1 ≤ 65536) ∧ x.1 ≤ y.2.1 ∧ y.2.1 < x.2.1; omega), if_neg (c := inn (rg y) y.2.1 = true) (by rw [inn_iff]; show ¬ (_ ∧ y.1 ≤ y.2.1 ∧ y.2.1 < y.2.1); omega)] at hq
      cases t' with
      | nil => have e : y.2.1 = b := h'.2.2.2.2; omega
      | cons z t'' =>
        obtain ⟨z1, z2, z3, z4, z5⟩ := h'.2.2.2.2
        have l3 := gd_le _ _ _ _ z5
        rw [ofL, if_pos (by rw [inn_iff]; show (0 ≤ z.1 ∧ z.1 < z.2.1 ∧ z.2.1 ≤ 65536) ∧ z.1 ≤ y.2.1 ∧ y.2.1 < z.2.1; omega)] at hq
        omega
    have hh : x.2.1 = y.2.1 := by omega
    have hxy : x = y := Prod.ext (by omega) (Prod.ext hh hs)
    subst hxy
    have := gd_eq t t' _ _ _ b h.2.2.2.2 h'.2.2.2.2 (by omega) hb (fun q => by
      by_cases hq : x.2.1 ≤ q
      · have hq' := ho q
        have hn : ¬ inn (rg x) q = true := by rw [inn_iff]; show ¬ (_ ∧ x.1 ≤ q ∧ q < x.2.1); omega
        rw [ofL, ofL, if_neg hn, if_neg hn] at hq'
        exact hq'
      · rw [ofL_out _ _ _ _ h.2.2.2.2 q (by omega), ofL_out _ _ _ _ h'.2.2.2.2 q (by omega)])
    rw [this]

/-- What the program asks of the piece at a place. -/
def Fo (ps : List Pc) (i : Nat) (x : Pc) : Prop := (1 ≤ x.2.2 ∧ x.2.2 ≤ 6) ∧ ∀ y, 0 < i → ps[i - 1]? = some y → y.1 < x.1 ∧ y.2.2 ≠ x.2.2
theorem cnt_of : ∀ (ps : List Pc) (a s b : Int), Gd a s ps b → 0 ≤ a → b ≤ 65536 → (ps.map rg).all may = true ∧ ∀ q, cnt (ps.map rg) q = if a ≤ q ∧ q < b then 1 else 0
  | [], a, s, b, h, _, _ => by
    have h : a = b := h
    exact ⟨rfl, fun q => by rw [if_neg (by omega)]; rfl⟩
  | x :: t, a, s, b, h, h0, hb => by
    obtain ⟨h1, h2, h3, h4, h5⟩ := h
    have hle := gd_le t _ _ _ h5
    obtain ⟨k1, k2⟩ := cnt_of t _ _ _ h5 (by omega) hb
    refine ⟨?_, fun q => ?_⟩
    · rw [List.map_cons, List.all_cons, k1, Bool.and_true, may_iff]
      show 0 ≤ x.1 ∧ x.1 < x.2.1 ∧ x.2.1 ≤ 65536
      omega
    · rw [List.map_cons, cnt_cons, k2]
      have hiff : inn (rg x) q = true ↔ a ≤ q ∧ q < x.2.1 := by
        rw [inn_iff]
        show ((0 ≤ x.1 ∧ x.1 < x.2.1 ∧ x.2.1 ≤ 65536) ∧ x.1 ≤ q ∧ q < x.2.1) ↔ _
        omega
      by_cases hq : a ≤ q ∧ q < x.2.1
      · rw [if_pos (hiff.2 hq), if_neg (by omega), if_pos (by omega)]
      · rw [if_neg (fun hh => hq (hiff.1 hh))]
        by_cases hq2 : x.2.1 ≤ q ∧ q < b
        · rw [if_pos hq2, if_pos (by omega)]
        · rw [if_neg hq2, if_neg (by omega)]
theorem fo_of : ∀ (ps : List Pc) (a s b : Int), Gd a s ps b → ∀ i x, ps[i]? = some x → Fo ps i x
  | [], _, _, _, _, i, x, hx => by simp at hx
  | z :: t, a, s, b, h, i, x, hx => by
    obtain ⟨h1, h2, h3, h4, h5⟩ := h
    cases i with
    | zero =>
      simp at hx; subst hx
      exact ⟨h4, fun y hy => by omega⟩
    | succ i =>
      rw [List.getElem?_cons_succ] at hx
      obtain ⟨k1, k2⟩ := fo_of t _ _ _ h5 i x hx
      refine ⟨k1, fun y _ hy => ?_⟩
      rw [Nat.add_sub_cancel] at hy
      cases i with
      | zero =>
        simp at hy; subst hy
        cases t with
        | nil => simp at hx
        | cons u t =>
          simp at hx; subst hx
          obtain ⟨u1, u2, u3, -⟩ := h5
          exact ⟨by omega, fun e => u3 e.symm⟩
      | succ i =>
        rw [List.getElem?_cons_succ] at hy
        exact k2 y (by omega) (by rw [Nat.add_sub_cancel]; exact hy)
theorem rise : ∀ (t : List Pc) (x : Pc), (∀ i z, (x :: t)[i]? = some z → Fo (x :: t) i z) → ∀ y ∈ t, x.1 < y.1
  | [], _, _, y, hy => by cases hy
  | u :: t, x, h, y, hy => by
    have h1 : x.1 < u.1 := ((h 1 u rfl).2 x (by omega) rfl).1
    rcases List.mem_cons.1 hy with rfl | hy
    · exact h1
    · have h2 := rise t u (fun i z hz => by
        obtain ⟨k1, k2⟩ := h (i + 1) z (by rw [List.getElem?_cons_succ]; exact hz)
        refine ⟨k1, fun v hi hv => k2 v (by omega) ?_⟩
        rw [Nat.add_sub_cancel]
        cases i with
        | zero => omega
        | succ i => rw [Nat.add_sub_cancel] at hv; rw [List.getElem?_cons_succ]; exact hv) y hy
      omega
theorem gd_of : ∀ (ps : List Pc) (a s : Int), 0 ≤ a → a ≤ 65536 → (ps.map rg).all may = true → (∀ i x, ps[i]? = some x → Fo ps i x) → (∀ x, ps[0]? = some x → x.2.2 ≠ s) →
    (∀ q, a ≤ q → q < 65536 → cnt (ps.map rg) q = 1) → (∀ q, q < a → cnt (ps.map rg) q = 0) → Gd a s ps 65536
  | [], a, s, h0, ha, _, _, _, h1, _ => by
    show a = 65536
    by_cases h : a < 65536
    · have := h1 a (Int.le_refl _) h
      simp [cnt] at this
    · omega
  | x :: t, a, s, h0, ha, hm, hf, hs, h1, h2 => by
    rw [List.map_cons, List.all_cons, Bool.and_eq_true] at hm
    have hx := (may_iff (rg x)).1 hm.1
    have hx : 0 ≤ x.1 ∧ x.1 < x.2.1 ∧ x.2.1 ≤ 65536 := hx
    have hc : ∀ q, cnt ((x :: t).map rg) q = cnt (t.map rg) q + (if inn (rg x) q then 1 else 0) := fun q => by rw [List.map_cons, cnt_cons]
    have hi : ∀ q, inn (rg x) q = true ↔ x.1 ≤ q ∧ q < x.2.1 := fun q => by
      rw [inn_iff]
      show ((0 ≤ x.1 ∧ x.1 < x.2.1 ∧ x.2.1 ≤ 65536) ∧ x.1 ≤ q ∧ q < x.2.1) ↔ _
      omega
    have hge : a ≤ x.1 := by
      by_cases h : x.1 < a
      · have := h2 x.1 h
        rw [hc, if_pos ((hi _).2 (by omega))] at this
        omega
      · omega
    have hlt : a < 65536 := by omega
    have hle : x.1 ≤ a := by
      have e := h1 a (Int.le_refl _) hlt
      have e2 : has ((x :: t).map rg) a = true := by rw [cnt_has, e]; exact Nat.le_refl _
      obtain ⟨z, hz, hza⟩ := (has_iff _ _).1 e2
      obtain ⟨y, hy, rfl⟩ := List.mem_map.1 hz
      have hy1 : y.1 ≤ a := ((inn_iff (rg y) a).1 hza).2.1
      rcases List.mem_cons.1 hy with rfl | hy
      · exact hy1
      · have := rise t x hf y hy; omega
    have e : x.1 = a := by omega
    refine ⟨e, by omega, hs x rfl, (hf 0 x rfl).1, gd_of t x.2.1 x.2.2 (by omega) hx.2.2 hm.2 ?_ ?_ ?_ ?_⟩
    · intro i z hz
      obtain ⟨k1, k2⟩ := hf (i + 1) z (by rw [List.getElem?_cons_succ]; exact hz)
      refine ⟨k1, fun v hi hv => k2 v (by omega) ?_⟩
      rw [Nat.add_sub_cancel]
      cases i with
      | zero => omega
      | succ i => rw [Nat.add_sub_cancel] at hv; rw [List.getElem?_cons_succ]; exact hv
    · intro z hz e2
      exact ((hf 1 z (by rw [List.getElem?_cons_succ]; exact hz)).2 x (by omega) rfl).2 e2.symm
    · intro q hq1 hq2
      have := h1 q (by omega) hq2
      rw [hc, if_neg (fun hh => by have := (hi q).1 hh; omega)] at this
      omega
    · intro q hq
      by_cases hqa : q < a
      · have := h2 q hqa
        rw [hc] at this
        omega
      · have := h1 q (by omega) (by omega)
        rw [hc, if_pos ((hi q).2 (by omega))] at this
        omega
/-- What may be. -/
theorem gd_iff (ps : List Pc) : Gd 0 0 ps 65536 ↔ cov (ps.map rg) = true ∧ ∀ i x, ps[i]? = some x → Fo ps i x := by
  rw [cov_iff]
  constructor
  · intro h
    obtain ⟨k1, k2⟩ := cnt_of ps 0 0 65536 h (Int.le_refl _) (Int.le_refl _)
    exact ⟨⟨k1, fun p h0 h1 => by rw [k2, if_pos ⟨h0, h1⟩]⟩, fo_of ps 0 0 65536 h⟩
  · rintro ⟨⟨h1, h2⟩, h3⟩
    refine gd_of ps 0 0 (Int.le_refl _) (by omega) h1 h3 (fun x hx e => ?_) h2 (fun q hq => ?_)
    · have := (h3 0 x hx).1; omega
    · rcases Nat.eq_zero_or_pos (cnt (ps.map rg) q) with e | e
      · exact e
      · exfalso
        obtain ⟨z, hz, hzq⟩ := (has_iff _ _).1 ((cnt_has _ _).2 e)
        have := (inn_iff z q).1 hzq
        omega
open Classical in
noncomputable def mayC (e : Int) (ps : List Pc) : Bool := decide ((1 ≤ e ∧ e ≤ 1099511627776) ∧ Gd 0 0 ps 65536)
theorem mayC_iff (e : Int) (ps : List Pc) : mayC e ps = true ↔ (1 ≤ e ∧ e ≤ 1099511627776) ∧ Gd 0 0 ps 65536 := by simp [mayC]

/-- The first chart. -/
def fst (n : Nat) : List Pc := (List.range n).map fun (i : Nat) => (65536 * (i : Int) / n, 65536 * ((i : Int) + 1) / n, (i : Int) + 1)
theorem fst_len (n : Nat) : (fst n).length = n := by simp [fst]
theorem fst_put (n i : Nat) (h1 : 1 ≤ n) (h6 : n ≤ 6) (hi : i < n) : pu ((fst n).take i) (65536 * (i : Int) / n, 65536 * ((i : Int) + 1) / n) ((i : Int) + 1) = (fst n).take (i + 1) := by
  have h : ∀ n : Fin 7, ∀ i : Fin 7, 1 ≤ n.val → i.val < n.val → pu ((fst n.val).take i.val) (65536 * (i.val : Int) / (n.val : Int), 65536 * ((i.val : Int) + 1) / (n.val : Int)) ((i.val : Int) + 1) = (fst n.val).take (i.val + 1) := by decide
  exact h ⟨n, by omega⟩ ⟨i, by omega⟩ h1 hi
theorem fst_gd (n : Nat) (h1 : 1 ≤ n) (h6 : n ≤ 6) : Gd 0 0 (fst n) 65536 := by
  obtain rfl | rfl | rfl | rfl | rfl | rfl : n = 1 ∨ n = 2 ∨ n = 3 ∨ n = 4 ∨ n = 5 ∨ n = 6 := by omega
  all_goals (simp only [fst, List.range, List.range.loop, List.map, Gd]; decide)

/-- How many there may be. -/
theorem gd_len : ∀ (ps : List Pc) (a s b : Int), Gd a s ps b → (ps.length : Int) ≤ b - a
  | [], a, s, b, h => by have h : a = b := h; simp; omega
  | x :: t, a, s, b, h => by
    have h5 := gd_len t _ _ _ h.2.2.2.2
    have := h.2.1
    rw [List.length_cons]; omega
theorem pu_len (L : List Pc) (r : Rg) (s : Int) : (pu L r s).length ≤ L.length + 1 := by
  by_cases h : r = (0, 0)
  · subst h; rw [pu_none]; omega
  · rcases List.eq_nil_or_concat L with rfl | ⟨L', z, e⟩
    · rw [pu_nil _ _ h]; simp
    · rw [List.concat_eq_append] at e
      subst e
      rw [pu_snoc _ _ _ _ h]
      split <;> simp
theorem mv_len (r : Rg) (tg : Int) (ps : List Pc) : ∀ L, (mv r tg L ps).length ≤ L.length + 3 * ps.length := by
  induction ps with
  | nil => intro L; show L.length ≤ _; omega
  | cons p t ih =>
    intro L
    have h := ih (mv1 r tg L p)
    have h1 := pu_len L (meet (rg p) (0, r.1)) p.2.2
    have h2 := pu_len (pu L (meet (rg p) (0, r.1)) p.2.2) (meet (rg p) r) tg
    have h3 := pu_len (pu (pu L (meet (rg p) (0, r.1)) p.2.2) (meet (rg p) r) tg) (meet (rg p) (r.2, 65536)) p.2.2
    have e : mv r tg L (p :: t) = mv r tg (mv1 r tg L p) t := rfl
    rw [e, List.length_cons]
    unfold mv1 at h
    unfold mv1
    omega
/-- Two charts with the same Of are the same; a move that changes nothing leaves the pieces. -/
theorem mv_same (r : Rg) (tg : Int) (hr : may r = true) (ht : 1 ≤ tg ∧ tg ≤ 6) (ps : List Pc) (h : Gd 0 0 ps 65536) (hs : ∀ q, inn r q = true → ofL ps q = tg) : mv r tg [] ps = ps := by
  obtain ⟨g, o⟩ := mv_all r tg hr ht ps h
  refine gd_eq _ _ 0 0 0 65536 g h (Int.le_refl _) (Int.le_refl _) fun q => ?_
  rw [o]
  split
  · rename_i hq; exact (hs q hq).symm
  · rfl
end Go.Proofs.Ytabckkepkennhaa.Cp
