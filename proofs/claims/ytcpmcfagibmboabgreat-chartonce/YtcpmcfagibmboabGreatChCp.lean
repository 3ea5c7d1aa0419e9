/-
  A text of clients and their numbers: plain; the map that holds them.
-/
import Derived.Test.YtcpmcfagibmboabGreatChMp
import Derived.Test.YtcpmcfagibmboabGreatChLd
namespace Go.Proofs.YtcpmcfagibmboabGreat.Cl
open Go.RowKit Pl Ct Cu La Mp Gf
open Go.Proofs.YtcpmcfagibmboabGreat.Nm
set_option linter.unusedVariables false
set_option linter.unusedSimpArgs false

/-- A text is that of these clients. -/
def GoodD (bs : List UInt8) (D : List Dd) : Prop := Nums bs (D.flatMap n2) ∧ okD D
theorem GoodD.inj {bs : List UInt8} {D E : List Dd} (h : GoodD bs D) (g : GoodD bs E) : E = D := by
  have h1 := h.1.inj g.1
  have h2 := congrArg prs h1
  rwa [prs_flat, prs_flat] at h2
def okS (l : List Dd) : Prop := Srt kD l ∧ ∀ x ∈ l, 1 ≤ x.1 ∧ 1 ≤ x.2
def lastK : List Dd → Int
  | [] => 0
  | [x] => x.1
  | _ :: l => lastK l
theorem lastK_snoc : ∀ (l : List Dd) (x : Dd), lastK (l ++ [x]) = x.1
  | [], x => rfl
  | [y], x => rfl
  | y :: z :: l, x => by
    show lastK ((z :: l) ++ [x]) = _
    exact lastK_snoc (z :: l) x
theorem okS_le : ∀ (l : List Dd), Srt kD l → ∀ y ∈ l, y.1 ≤ lastK l
  | [x], _, y, hy => by
    have e : y = x := by simpa using hy
    rw [e]
    exact Int.le_refl _
  | x :: z :: l, h, y, hy => by
    obtain ⟨h1, h2⟩ := List.pairwise_cons.1 h
    show y.1 ≤ lastK (z :: l)
    have hz := okS_le (z :: l) h2 z (by simp)
    rcases List.mem_cons.1 hy with rfl | hy
    · have h3 : y.1 < z.1 := h1 z (by simp)
      omega
    · exact okS_le (z :: l) h2 y hy
theorem lastK_mem : ∀ (l : List Dd), l ≠ [] → ∃ y ∈ l, y.1 = lastK l
  | [], h => absurd rfl h
  | [x], _ => ⟨x, by simp, rfl⟩
  | x :: z :: l, _ => by
    obtain ⟨y, hy, e⟩ := lastK_mem (z :: l) (by simp)
    exact ⟨y, List.mem_cons_of_mem _ hy, e⟩
theorem lastK_nn {l : List Dd} (h : okS l) : 0 ≤ lastK l := by
  cases l with
  | nil => exact Int.le_refl _
  | cons x l =>
    obtain ⟨y, hy, e⟩ := lastK_mem (x :: l) (by simp)
    have := h.2 y hy
    omega
theorem okS_snoc {l : List Dd} (h : okS l) (x : Dd) : okS (l ++ [x]) ↔ lastK l < x.1 ∧ 1 ≤ x.2 := by
  constructor
  · rintro ⟨h1, h2⟩
    have hx := h2 x (by simp)
    refine ⟨?_, hx.2⟩
    cases l with
    | nil => show 0 < x.1; omega
    | cons y l =>
      obtain ⟨z, hz, e⟩ := lastK_mem (y :: l) (by simp)
      have : z.1 < x.1 := (List.pairwise_append.1 h1).2.2 z hz x (by simp)
      omega
  · rintro ⟨h1, h2⟩
    have h0 := lastK_nn h
    refine ⟨List.pairwise_append.2 ⟨h.1, List.pairwise_singleton _ _, fun y hy z hz => ?_⟩, fun y hy => ?_⟩
    · obtain rfl : z = x := by simpa using hz
      have := okS_le l h.1 y hy
      show y.1 < z.1
      omega
    · rcases List.mem_append.1 hy with hy | hy
      · exact h.2 y hy
      · obtain rfl : y = x := by simpa using hy
        omega
theorem okS_nil : okS [] := ⟨List.Pairwise.nil, by simp⟩
theorem okS_pre {a b : List Dd} (h : okS (a ++ b)) : okS a := ⟨(List.pairwise_append.1 h.1).1, fun x hx => h.2 x (by simp [hx])⟩
theorem put_snoc {l : List Dd} (h : okS l) {x : Dd} (hx : lastK l < x.1) : put kD l x = l ++ [x] := put_last l x (fun y hy => by have := okS_le l h.1 y hy; omega)
/-- A pair that does not rise: no clients' text. -/
theorem badD_at {bs : List UInt8} {L : List Int} (h : Nums bs L) {k : Nat} {a b : Int} (ha : L[2 * k]? = some a) (hb : L[2 * k + 1]? = some b) (hk : okS (prs (L.take (2 * k)))) (hbad : ¬ (lastK (prs (L.take (2 * k))) < a ∧ 1 ≤ b)) : ¬ ∃ D, GoodD bs D := by
  rintro ⟨D, g⟩
  have e := h.inj g.1
  apply hbad
  have hs : okS (prs (L.take (2 * (k + 1)))) := by
    have hD : okS D := ⟨g.2.1, g.2.2.1⟩
    rw [← e]
    have : prs ((D.flatMap n2).take (2 * (k + 1))) = D.take (k + 1) := by
      rw [← prs_flat (D.take (k + 1))]
      congr 1
      have hl : ((D.take (k + 1)).flatMap n2).length = 2 * (D.take (k + 1)).length := flat2_len _
      have hsp : D.flatMap n2 = (D.take (k + 1)).flatMap n2 ++ (D.drop (k + 1)).flatMap n2 := by rw [← List.flatMap_append, List.take_append_drop]
      rw [hsp]
      have hlen : (D.take (k + 1)).length = k + 1 := by
        rw [List.length_take]
        have hlt := (List.getElem?_eq_some_iff.1 hb).1
        rw [← e, flat2_len] at hlt
        omega
      rw [show 2 * (k + 1) = ((D.take (k + 1)).flatMap n2).length by omega, List.take_left']
      rfl
    rw [this]
    have : D = D.take (k + 1) ++ D.drop (k + 1) := (List.take_append_drop _ _).symm
    rw [this] at hD
    exact okS_pre hD
  rw [prs_snoc k L a b ha hb] at hs
  exact (okS_snoc hk (a, b)).1 hs
theorem badD_odd {bs : List UInt8} {L : List Int} (h : Nums bs L) (ho : L.length % 2 ≠ 0) : ¬ ∃ D, GoodD bs D := by
  rintro ⟨D, g⟩
  have e := h.inj g.1
  have := flat2_len D
  rw [e] at this
  omega
theorem badD_long {bs : List UInt8} {L : List Int} (h : Nums bs L) (ho : 128 < L.length) : ¬ ∃ D, GoodD bs D := by
  rintro ⟨D, g⟩
  have e := h.inj g.1
  have := flat2_len D
  have h3 := g.2.2.2
  rw [e] at this
  omega
theorem goodD_of {bs : List UInt8} {L : List Int} (h : Nums bs L) (h2 : L.length % 2 = 0) (hs : okS (prs L)) (hl : L.length ≤ 128) : GoodD bs (prs L) := by
  refine ⟨?_, hs.1, hs.2, ?_⟩
  · rw [flat_prs L h2]; exact h
  · rw [prs_len]; omega

/-- Block b is a map that has these clients. -/
def Md (w : World) (b : Nat) (D : List Dd) : Prop := Mw kD (fun x : Dd => Value.int .i64 x.2) Tryz.prog 3 w b D
theorem Md.made (w : World) : Md (w.alloc (.map #[] 0)) w.heap.size [] := Mw.made w
theorem Md.fr {w w' : World} {Q : Nat → Prop} {b : Nat} {D : List Dd} (h : Md w b D) (hf : Fr Q w w') (hq : ¬ Q b) : Md w' b D := Mw.fr h hf hq
theorem Md.below {w w' : World} {b : Nat} {D : List Dd} (h : Md w b D) (hb : Below w.heap.size w w') : Md w' b D := Mw.below h hb
theorem Md.lt {w : World} {b : Nat} {D : List Dd} (h : Md w b D) : b < w.heap.size := (show Mw kD (fun x : Dd => Value.int .i64 x.2) Tryz.prog 3 w b D from h).lt
theorem Md.look {w : World} {b : Nat} {D : List Dd} (h : Md w b D) {k : Int} (hk : (Lit.int .i64 k).wf = true) : (Instr.lookup 57 (.map (some b)) (.int .i64 k) false).run Tryz.prog w = .ok (.int .i64 (lastN D k)) w := by
  have := look1 Tryz.underlying3 Tryz.underlying57 (zeroI w) h hk
  rw [this]
  unfold lastN
  cases atX kD D k <;> rfl
theorem Md.store {w : World} {b : Nat} {D : List Dd} (h : Md w b D) (hs : Srt kD D) (hl : D.length ≤ 1000000000) (x : Dd) (hk : (Lit.int .i64 x.1).wf = true) : ∃ w', (Instr.mapUpdate 57 (.map (some b)) (.int .i64 x.1) (.int .i64 x.2)).run Tryz.prog w = .ok () w' ∧ Md w' b (put kD D x) ∧ Fr (fun q => q = b) w w' :=
  store1 Tryz.underlying3 Tryz.underlying57 h hs hl x hk
end Go.Proofs.YtcpmcfagibmboabGreat.Cl
