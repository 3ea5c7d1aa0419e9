/-
  What a machine remembers of its clients, and its dump: plain.
-/
import Derived.Test.YtcpmcfagibmboabGreatNtM
namespace Go.Proofs.YtcpmcfagibmboabGreat.Mp
open Go.RowKit
open Go.Proofs.YtcpmcfagibmboabGreat.Nm
set_option linter.unusedVariables false
set_option linter.unusedSimpArgs false

/-- A client and its greatest number. -/
abbrev Dd := Int × Int
abbrev kD (x : Dd) : Int := x.1
def lastN (l : List Dd) (c : Int) : Int := match atX kD l c with | some x => x.2 | none => 0
/-- A move that was done is noted. -/
def noteN (l : List Dd) (c n : Int) : List Dd := if c < 1 ∨ n < 1 ∨ (lastN l c = 0 ∧ 64 ≤ l.length) then l else put kD l (c, n)
def okD (l : List Dd) : Prop := Srt kD l ∧ (∀ x ∈ l, 1 ≤ x.1 ∧ 1 ≤ x.2) ∧ l.length ≤ 64
theorem okD_nil : okD [] := ⟨List.Pairwise.nil, by simp, by simp⟩
theorem lastN_zero {l : List Dd} (h : okD l) (c : Int) : lastN l c = 0 ↔ atX kD l c = none := by
  unfold lastN
  cases hx : atX kD l c with
  | none => simp
  | some x =>
    have := h.2.1 x (atX_mem hx).1
    simp; omega
theorem noteN_ok {l : List Dd} (h : okD l) (c n : Int) : okD (noteN l c n) := by
  unfold noteN
  split
  · exact h
  · rename_i hc
    refine ⟨srt_put h.1 _, fun x hx => ?_, ?_⟩
    · rcases mem_put hx with rfl | hx
      · simp only; omega
      · exact h.2.1 x hx
    · rw [len_put h.1]
      have h3 := h.2.2
      split
      · exact h3
      · rename_i h4
        have : lastN l c = 0 := (lastN_zero h c).2 (by simpa using h4)
        omega
def notes (L : List Dd) (a : List Dd) : List Dd := L.foldl (fun a x => noteN a x.1 x.2) a
theorem notes_ok (L : List Dd) : ∀ a, okD a → okD (notes L a) := by
  induction L with
  | nil => intro a h; exact h
  | cons x L ih => intro a h; exact ih _ (noteN_ok h _ _)
theorem put_last : ∀ (l : List Dd) (x : Dd), (∀ y ∈ l, y.1 < x.1) → put kD l x = l ++ [x]
  | [], x, _ => rfl
  | y :: l, x, h => by
    have h1 := h y (by simp)
    rw [put, if_neg (by show ¬ x.1 < y.1; omega), if_neg (by show ¬ x.1 = y.1; omega), put_last l x (fun z hz => h z (by simp [hz]))]
    rfl
theorem notes_app : ∀ (L a : List Dd), okD (a ++ L) → notes L a = a ++ L
  | [], a, _ => by simp [notes]
  | x :: L, a, h => by
    have hx := h.2.1 x (by simp)
    have hlen := h.2.2
    rw [List.length_append, List.length_cons] at hlen
    have hlt : ∀ y ∈ a, y.1 < x.1 := fun y hy => (List.pairwise_append.1 h.1).2.2 y hy x (by simp)
    have hnone : atX kD a x.1 = none := by
      cases hq : atX kD a x.1 with
      | none => rfl
      | some y => obtain ⟨h1, h2⟩ := atX_mem hq; have := hlt y h1; have : y.1 = x.1 := h2; omega
    have e : noteN a x.1 x.2 = a ++ [x] := by
      unfold noteN
      rw [if_neg (by omega)]
      exact put_last a x hlt
    show notes L (noteN a x.1 x.2) = _
    rw [e, notes_app L (a ++ [x]) (by simpa using h)]
    simp
theorem notes_iff (L : List Dd) : notes L [] = L ↔ okD L := ⟨fun h => by have := notes_ok L [] okD_nil; rwa [h] at this, fun h => by simpa using notes_app L [] (by simpa using h)⟩

def n2 (x : Dd) : List Int := [x.1, x.2]
def prs : List Int → List Dd
  | a :: b :: r => (a, b) :: prs r
  | _ => []
theorem prs_flat : ∀ (l : List Dd), prs (l.flatMap n2) = l
  | [] => rfl
  | p :: l => by obtain ⟨a, b⟩ := p; simp [n2, prs, prs_flat l]
theorem flat_prs : ∀ (R : List Int), R.length % 2 = 0 → (prs R).flatMap n2 = R
  | [], _ => rfl
  | [_], h => by simp at h
  | a :: b :: r, h => by
    have := flat_prs r (by simp at h; omega)
    simp [prs, n2] at this ⊢
    exact this
theorem prs_len : ∀ (R : List Int), (prs R).length = R.length / 2
  | [] => rfl
  | [_] => by simp [prs]
  | a :: b :: r => by
    have := prs_len r
    simp [prs]
    omega
theorem flat2_len : ∀ (l : List Dd), (l.flatMap n2).length = 2 * l.length
  | [] => rfl
  | x :: l => by simp only [List.flatMap_cons, List.length_append, flat2_len l, n2, List.length_cons, List.length_nil]; omega
theorem prs_snoc : ∀ (k : Nat) (R : List Int) (a b : Int), R[2 * k]? = some a → R[2 * k + 1]? = some b → prs (R.take (2 * (k + 1))) = prs (R.take (2 * k)) ++ [(a, b)]
  | 0, R, a, b, h1, h2 => by
    match R with
    | [] => simp at h1
    | [x] => simp at h2
    | x :: y :: r =>
      simp at h1 h2
      subst h1 h2
      simp [prs]
  | k + 1, R, a, b, h1, h2 => by
    match R with
    | [] => simp at h1
    | [x] => have := (List.getElem?_eq_some_iff.1 h1).1; simp at this
    | x :: y :: r =>
      have g1 : r[2 * k]? = some a := by rw [← h1, show 2 * (k + 1) = 2 * k + 1 + 1 by omega]; simp
      have g2 : r[2 * k + 1]? = some b := by rw [← h2, show 2 * (k + 1) + 1 = 2 * k + 1 + 1 + 1 by omega]; simp
      have := prs_snoc k r a b g1 g2
      rw [show 2 * (k + 1 + 1) = 2 * (k + 1) + 1 + 1 by omega, show (x :: y :: r).take (2 * (k + 1)) = x :: y :: r.take (2 * k) by rw [show 2 * (k + 1) = 2 * k + 1 + 1 by omega]; rfl]
      simp only [List.take_succ_cons, prs, List.cons_append]
      rw [this]
end Go.Proofs.YtcpmcfagibmboabGreat.Mp
