/-
  Texts of numbers, read back: plain.
-/
import Derived.Test.YtcpmcfagibmboabGreatChU
import Derived.Test.YtcpmcfagibmboabGreatTexts
namespace Go.Proofs.YtcpmcfagibmboabGreat.La
open Go.RowKit Pl Ct
set_option linter.unusedVariables false

theorem txt_nil : txt [] = [] := rfl
theorem txt_cons (x : Int) (l : List Int) : txt (x :: l) = eI x ++ txt l := by simp [txt]
theorem txt_app (a b : List Int) : txt (a ++ b) = txt a ++ txt b := by simp [txt]
/-- What is read of a text that begins with a number. -/
theorem read_eI {x : Int} (h : okN x) (rest : List UInt8) : readNum (eI x ++ rest) = (x.toNat, (eI x).length, 0) :=
  readNum_enc (by have := h.1; have := h.2; omega) rest
theorem eI_pos (x : Int) : 0 < (eI x).length := enc_len_pos _
/-- Texts of numbers begin alike only where the numbers do. -/
theorem txt_pre : ∀ (a b : List Int) (rest : List UInt8), (∀ x ∈ a, okN x) → (∀ x ∈ b, okN x) → txt b = txt a ++ rest → ∃ c, b = a ++ c ∧ txt c = rest
  | [], b, rest, ha, hb, h => ⟨b, rfl, by simpa [txt] using h⟩
  | x :: a, [], rest, ha, hb, h => by
    have := congrArg List.length h
    have hp := eI_pos x
    simp [txt] at this
    omega
  | x :: a, y :: b, rest, ha, hb, h => by
    rw [txt_cons, txt_cons, List.append_assoc] at h
    have h1 := read_eI (ha x (by simp)) (txt a ++ rest)
    rw [← h, read_eI (hb y (by simp))] at h1
    have e1 := (Prod.mk.inj h1).1
    have okx := ha x (by simp)
    have oky := hb y (by simp)
    have hxy : y = x := by have := okx.1; have := oky.1; omega
    subst hxy
    obtain ⟨c, rfl, hc⟩ := txt_pre a b rest (fun z hz => ha z (by simp [hz])) (fun z hz => hb z (by simp [hz])) (List.append_cancel_left h)
    exact ⟨c, rfl, hc⟩
theorem txt_inj {a b : List Int} (ha : ∀ x ∈ a, okN x) (hb : ∀ x ∈ b, okN x) (h : txt b = txt a) : b = a := by
  obtain ⟨c, rfl, hc⟩ := txt_pre a b [] ha hb (by simpa using h)
  cases c with
  | nil => simp
  | cons x c => have := congrArg List.length hc; have hp := eI_pos x; rw [txt_cons, List.length_append, List.length_nil] at this; omega

/-- A text is the numbers' text. -/
def Nums (bs : List UInt8) (L : List Int) : Prop := txt L = bs ∧ ∀ x ∈ L, okN x
theorem Nums.inj {bs : List UInt8} {L M : List Int} (h : Nums bs L) (g : Nums bs M) : M = L := txt_inj h.2 g.2 (g.1.trans h.1.symm)
/-- A text that can't be read on is no numbers' text. -/
theorem nums_bad {bs rest : List UInt8} {L : List Int} (hL : ∀ x ∈ L, okN x) (h : bs = txt L ++ rest) (h0 : rest ≠ []) (hb : (readNum rest).2.2 ≠ 0) : ∀ M, ¬ Nums bs M := by
  rintro M ⟨h1, h2⟩
  obtain ⟨c, rfl, hc⟩ := txt_pre L M rest hL h2 (h1.trans h)
  cases c with
  | nil => exact h0 hc.symm
  | cons x c =>
    rw [txt_cons] at hc
    rw [← hc, read_eI (h2 x (by simp))] at hb
    exact hb rfl
/-- One number read: the text goes on behind it. -/
theorem nums_step {bs rest : List UInt8} {L : List Int} {n k : Nat} (hL : ∀ x ∈ L, okN x) (h : bs = txt L ++ rest) (hr : readNum rest = (n, k, 0)) :
    1 ≤ k ∧ k ≤ rest.length ∧ n ≤ 4611686018427387904 ∧ bs = txt (L ++ [(n : Int)]) ++ rest.drop k ∧ (∀ x ∈ L ++ [(n : Int)], okN x) := by
  obtain ⟨h1, h2, h3, h4⟩ := readNum_once hr
  refine ⟨h1, h2, h3, ?_, ?_⟩
  · rw [txt_app, show txt [(n : Int)] = rest.take k by rw [txt_cons]; simp [txt, eI, h4], List.append_assoc, List.take_append_drop, h]
  · intro x hx
    rcases List.mem_append.1 hx with hx | hx
    · exact hL x hx
    · obtain rfl : x = (n : Int) := by simpa using hx
      exact ⟨by omega, by omega⟩
theorem txt_ge (L : List Int) : L.length ≤ (txt L).length := by
  induction L with
  | nil => simp
  | cons x L ih => rw [txt_cons]; have := eI_pos x; simp; omega
end Go.Proofs.YtcpmcfagibmboabGreat.La
