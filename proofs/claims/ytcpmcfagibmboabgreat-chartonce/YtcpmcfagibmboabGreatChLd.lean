/-
  What a text is a chart's dump of: plain.
-/
import Derived.Test.YtcpmcfagibmboabGreatChLb
namespace Go.Proofs.YtcpmcfagibmboabGreat.Ld
open Go.RowKit Pl Cp Ct Cu La Lb
set_option linter.unusedVariables false
set_option linter.unusedSimpArgs false

/-- Three by three. -/
def pcs : List Int → List Pc
  | a :: b :: c :: r => (a, b, c) :: pcs r
  | _ => []
theorem pcs_flat : ∀ (l : List Pc), pcs (l.flatMap n3) = l
  | [] => rfl
  | p :: l => by obtain ⟨a, b, c⟩ := p; simp [n3, pcs, pcs_flat l]
theorem flat_pcs : ∀ (R : List Int), R.length % 3 = 0 → (pcs R).flatMap n3 = R
  | [], _ => rfl
  | [_], h => by simp at h
  | [_, _], h => by simp at h
  | a :: b :: c :: r, h => by
    have := flat_pcs r (by simp at h; omega)
    simp [pcs, n3] at this ⊢
    exact this
theorem pcs_len : ∀ (R : List Int), (pcs R).length = R.length / 3
  | [] => rfl
  | [_] => by simp [pcs]
  | [_, _] => by simp [pcs]
  | a :: b :: c :: r => by
    have := pcs_len r
    simp [pcs]
    omega
theorem pcs_snoc : ∀ (k : Nat) (R : List Int) (a b c : Int), R[3 * k]? = some a → R[3 * k + 1]? = some b → R[3 * k + 2]? = some c → pcs (R.take (3 * (k + 1))) = pcs (R.take (3 * k)) ++ [(a, b, c)]
  | 0, R, a, b, c, h1, h2, h3 => by
    match R with
    | [] => simp at h1
    | [x] => simp at h2
    | [x, y] => simp at h3
    | x :: y :: z :: r =>
      simp at h1 h2 h3
      subst h1 h2 h3
      simp [pcs]
  | k + 1, R, a, b, c, h1, h2, h3 => by
    match R with
    | [] => simp at h1
    | [x] => have := (List.getElem?_eq_some_iff.1 h1).1; simp at this
    | [x, y] => have := (List.getElem?_eq_some_iff.1 h1).1; simp at this; omega
    | x :: y :: z :: r =>
      have g1 : r[3 * k]? = some a := by rw [← h1, show 3 * (k + 1) = 3 * k + 1 + 1 + 1 by omega]; simp
      have g2 : r[3 * k + 1]? = some b := by rw [← h2, show 3 * (k + 1) + 1 = 3 * k + 1 + 1 + 1 + 1 by omega]; simp
      have g3 : r[3 * k + 2]? = some c := by rw [← h3, show 3 * (k + 1) + 2 = 3 * k + 2 + 1 + 1 + 1 by omega]; simp
      have := pcs_snoc k r a b c g1 g2 g3
      rw [show 3 * (k + 1 + 1) = 3 * (k + 1) + 1 + 1 + 1 by omega, show (x :: y :: z :: r).take (3 * (k + 1)) = x :: y :: z :: r.take (3 * k) by rw [show 3 * (k + 1) = 3 * k + 1 + 1 + 1 by omega]; rfl]
      simp only [List.take_succ_cons, pcs, List.cons_append]
      rw [this]

/-- A text is the dump of this chart. -/
def Good (bs : List UInt8) (e : Int) (ps : List Pc) : Prop := mayC e ps = true ∧ txt (nums e ps.length ps) = bs
theorem Good.nums {bs : List UInt8} {e : Int} {ps : List Pc} (h : Good bs e ps) (hl : bs.length ≤ 1000) : Nums bs (Cu.nums e ps.length ps) := by
  refine ⟨h.2, nums_ok h.1 ?_⟩
  have h1 := txt_ge (Cu.nums e ps.length ps)
  rw [h.2, nums_len] at h1
  omega
theorem bad_none {bs : List UInt8} (hl : bs.length ≤ 1000) (h : ∀ L, ¬ Nums bs L) : ¬ ∃ e ps, Good bs e ps := fun ⟨e, ps, g⟩ => h _ (g.nums hl)
theorem bad_len {bs : List UInt8} {L : List Int} (hl : bs.length ≤ 1000) (h : Nums bs L) (hb : L.length < 2 ∨ (L.length - 2) % 3 ≠ 0) : ¬ ∃ e ps, Good bs e ps := fun ⟨e, ps, g⟩ => by
  have := h.inj (g.nums hl)
  have h2 := nums_len e ps.length ps
  rw [this] at h2
  omega
theorem good_of {bs : List UInt8} {e : Int} {R : List Int} (h : Nums bs (e :: ((pcs R).length : Int) :: R)) (h3 : R.length % 3 = 0) (hm : mayC e (pcs R) = true) : Good bs e (pcs R) := by
  refine ⟨hm, ?_⟩
  rw [← h.1]
  simp only [Cu.nums]
  rw [flat_pcs R h3]
theorem bad_eq {bs : List UInt8} {e k : Int} {R : List Int} (hl : bs.length ≤ 1000) (h : Nums bs (e :: k :: R)) (hb : k ≠ ((pcs R).length : Int) ∨ mayC e (pcs R) = false) : ¬ ∃ e ps, Good bs e ps := fun ⟨e', ps, g⟩ => by
  have := h.inj (g.nums hl)
  simp only [Cu.nums, List.cons.injEq] at this
  obtain ⟨rfl, rfl, rfl⟩ := this
  rw [pcs_flat] at hb
  rcases hb with hb | hb
  · exact hb rfl
  · rw [g.1] at hb; cases hb
theorem good_only {bs : List UInt8} {e k : Int} {R : List Int} (hl : bs.length ≤ 1000) (h : Nums bs (e :: k :: R)) {e' : Int} {ps : List Pc} (g : Good bs e' ps) : e' = e ∧ ps = pcs R := by
  have := h.inj (g.nums hl)
  simp only [Cu.nums, List.cons.injEq] at this
  obtain ⟨rfl, rfl, rfl⟩ := this
  exact ⟨rfl, (pcs_flat ps).symm⟩
/-- What Load answers. -/
def LdP (w : World) (bs : List UInt8) (x : Ending) (w' : World) : Prop := Below w.heap.size w w' ∧
  ((∃ e ps ao cap, Good bs e ps ∧ ps.length ≤ 400 ∧ x = .returned (.tuple #[.agg #[.int .i64 e, .slice ao ps.length cap], .int .i64 0]) ∧ Cr.RdP w' ao cap ps) ∨
   ((¬ ∃ e ps, Good bs e ps) ∧ x = .returned (.tuple #[.agg #[.int .i64 0, .slice none 0 0], .int .i64 5])))
end Go.Proofs.YtcpmcfagibmboabGreat.Ld
