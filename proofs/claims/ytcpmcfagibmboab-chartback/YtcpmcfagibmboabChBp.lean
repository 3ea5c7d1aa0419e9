/-
  A chart's text is cut, or has something behind it: it is none; how long it is; how many pieces a move makes. Plain.
-/
import Derived.Test.YtcpmcfagibmboabChLd
namespace Go.Proofs.Ytcpmcfagibmboab.Bp
open Go.RowKit Pl Pw Pv Cp Cf Ct Cu La Lb Ld
set_option linter.unusedVariables false
set_option linter.unusedSimpArgs false

theorem flat_len (l : List Pc) : (l.flatMap n3).length = 3 * l.length := by
  have := nums_len 0 0 l
  simp only [nums, List.length_cons] at this
  omega
/-- Of two charts' texts of which one begins like the other one both are the same. -/
theorem good_pre {bs rest : List UInt8} {e e' : Int} {ps ps' : List Pc} (hl : (bs ++ rest).length ≤ 1000) (g : Ld.Good (bs ++ rest) e ps) (g' : Ld.Good bs e' ps') : rest = [] := by
  have n1 := g.nums hl
  have n2 := g'.nums (by simp at hl; omega)
  have h : txt (Cu.nums e ps.length ps) = txt (Cu.nums e' ps'.length ps') ++ rest := by rw [n1.1, n2.1]
  obtain ⟨c, hc, hc2⟩ := txt_pre _ _ _ n2.2 n1.2 h
  have hlen := congrArg List.length hc
  rw [List.length_append, nums_len, nums_len] at hlen
  have h2 : (ps.length : Int) = (ps'.length : Int) := by
    simp only [Cu.nums, List.cons_append, List.cons.injEq] at hc
    exact hc.2.1
  have h3 : c.length = 0 := by omega
  rw [List.eq_nil_of_length_eq_zero h3] at hc2
  exact hc2.symm
theorem no_cut {bs : List UInt8} {e : Int} {ps : List Pc} {i : Nat} (hl : bs.length ≤ 1000) (g : Ld.Good bs e ps) (hi : i < bs.length) : ¬ ∃ e' ps', Ld.Good (bs.take i) e' ps' := by
  rintro ⟨e', ps', g'⟩
  have h := good_pre (bs := bs.take i) (rest := bs.drop i) (by rw [List.take_append_drop]; exact hl) (by rw [List.take_append_drop]; exact g) g'
  have := congrArg List.length h
  simp at this
  omega
theorem no_more {bs rest : List UInt8} {e : Int} {ps : List Pc} (hl : (bs ++ rest).length ≤ 1000) (g : Ld.Good bs e ps) (h0 : rest ≠ []) : ¬ ∃ e' ps', Ld.Good (bs ++ rest) e' ps' := by
  rintro ⟨e', ps', g'⟩
  exact h0 (good_pre hl g' g)

theorem eI3 {x : Int} (h : 0 ≤ x ∧ x ≤ 65536) : (eI x).length ≤ 3 := enc_len_le 3 _ (by have := h.1; have := h.2; omega) (by omega)
theorem txt3 (l : List Int) (h : ∀ x ∈ l, 0 ≤ x ∧ x ≤ 65536) : (txt l).length ≤ 3 * l.length := by
  induction l with
  | nil => simp [txt]
  | cons x l ih =>
    have h1 := ih (fun y hy => h y (by simp [hy]))
    have h2 := eI3 (h x (by simp))
    rw [txt_cons, List.length_append, List.length_cons]
    omega
theorem gd_in : ∀ (ps : List Pc) (a s b : Int), Gd a s ps b → ∀ x ∈ ps, a ≤ x.1 ∧ x.1 < x.2.1 ∧ x.2.1 ≤ b ∧ 1 ≤ x.2.2 ∧ x.2.2 ≤ 6
  | [], _, _, _, _, _, hx => by cases hx
  | y :: t, a, s, b, h, x, hx => by
    have h5 := h.2.2.2.2
    have hle := gd_le t _ _ _ h5
    have h1 := h.1
    have h2 := h.2.1
    have h4 := h.2.2.2.1
    rcases List.mem_cons.1 hx with rfl | hx
    · exact ⟨by omega, by omega, hle, h4⟩
    · have := gd_in t _ _ _ h5 x hx
      exact ⟨by omega, this.2⟩
/-- A chart's text is short. -/
theorem text_len {e : Int} {ps : List Pc} (h : mayC e ps = true) (hn : ps.length ≤ 60) : (txt (nums e ps.length ps)).length ≤ 600 := by
  obtain ⟨⟨he1, he2⟩, hg⟩ := (mayC_iff _ _).1 h
  have h1 : txt (nums e ps.length ps) = eI e ++ txt ((ps.length : Int) :: ps.flatMap n3) := txt_cons _ _
  have h2 : (eI e).length ≤ 9 := enc_len9 (by omega)
  have h3 := txt3 ((ps.length : Int) :: ps.flatMap n3) (by
    intro x hx
    rcases List.mem_cons.1 hx with rfl | hx
    · omega
    · obtain ⟨p, hp, hx⟩ := List.mem_flatMap.1 hx
      have := gd_in ps _ _ _ hg p hp
      simp [n3] at hx
      rcases hx with rfl | rfl | rfl <;> omega)
  rw [List.length_cons, flat_len] at h3
  rw [h1, List.length_append]
  omega

theorem seg_len (L : List Pc) (x y s : Int) : (pu L (seg x y) s).length ≤ L.length + (if x < y then 1 else 0) := by
  unfold seg
  split
  · exact pu_len _ _ _
  · rw [pu_none]; omega
/-- A move cuts at two places at most. -/
theorem mv_cut (r : Rg) (tg : Int) (hr : 0 ≤ r.1 ∧ r.1 < r.2 ∧ r.2 ≤ 65536) : ∀ (ps L : List Pc) (a s b : Int), Gd a s ps b → 0 ≤ a → b ≤ 65536 →
    (mv r tg L ps).length ≤ L.length + ps.length + (if a < r.1 then 1 else 0) + (if a < r.2 then 1 else 0)
  | [], L, a, s, b, _, _, _ => by show L.length ≤ _; omega
  | p :: t, L, a, s, b, h, h0, hb => by
    have h5 := h.2.2.2.2
    have hle := gd_le t _ _ _ h5
    have h1 := h.1
    have h2 := h.2.1
    have ih := mv_cut r tg hr t (mv1 r tg L p) _ _ _ h5 (by omega) hb
    have e : mv r tg L (p :: t) = mv r tg (mv1 r tg L p) t := rfl
    rw [e, List.length_cons]
    have m1 := meet_seg p.1 p.2.1 0 r.1 ⟨by omega, by omega, by omega⟩ ⟨by omega, by omega, by omega⟩
    have m2 := meet_seg p.1 p.2.1 r.1 r.2 ⟨by omega, by omega, by omega⟩ ⟨by omega, by omega, by omega⟩
    have m3 := meet_seg p.1 p.2.1 r.2 65536 ⟨by omega, by omega, by omega⟩ ⟨by omega, by omega, by omega⟩
    have k1 := seg_len L (max p.1 (min p.2.1 0)) (max p.1 (min p.2.1 r.1)) p.2.2
    have k2 := seg_len (pu L (meet (rg p) (0, r.1)) p.2.2) (max p.1 (min p.2.1 r.1)) (max p.1 (min p.2.1 r.2)) tg
    have k3 := seg_len (pu (pu L (meet (rg p) (0, r.1)) p.2.2) (meet (rg p) r) tg) (max p.1 (min p.2.1 r.2)) (max p.1 (min p.2.1 65536)) p.2.2
    have q1 : meet (rg p) (0, r.1) = seg (max p.1 (min p.2.1 0)) (max p.1 (min p.2.1 r.1)) := m1
    have q2 : meet (rg p) r = seg (max p.1 (min p.2.1 r.1)) (max p.1 (min p.2.1 r.2)) := m2
    have q3 : meet (rg p) (r.2, 65536) = seg (max p.1 (min p.2.1 r.2)) (max p.1 (min p.2.1 65536)) := m3
    have km : (mv1 r tg L p).length ≤ L.length + (if max p.1 (min p.2.1 0) < max p.1 (min p.2.1 r.1) then 1 else 0) + (if max p.1 (min p.2.1 r.1) < max p.1 (min p.2.1 r.2) then 1 else 0) + (if max p.1 (min p.2.1 r.2) < max p.1 (min p.2.1 65536) then 1 else 0) := by
      unfold mv1
      rw [q1] at k2 k3 ⊢
      rw [q2] at k3 ⊢
      rw [q3]
      omega
    have c1 : ∀ (P : Prop) [Decidable P], (if P then 1 else 0 : Nat) ≤ 1 := fun P _ => by split <;> omega
    split at km <;> split at km <;> split at km <;> split at ih <;> split at ih <;> split <;> split <;> omega
theorem mvE_len {e : Int} {ps : List Pc} {r : Rg} {tg : Int} (h : Gd 0 0 ps 65536) : (mvE e ps r tg).2.1.length ≤ ps.length + 2 := by
  unfold mvE
  split
  · rename_i hc
    split
    · simp only; omega
    · split
      · simp
      · have := mv_cut r tg ((may_iff r).1 hc.2.1) ps [] 0 0 65536 h (by omega) (by omega)
        simp only [List.length_nil] at this ⊢
        split at this <;> split at this <;> omega
  · simp
end Go.Proofs.Ytcpmcfagibmboab.Bp
