/-
  Votes as plain lists: which of them count. Nothing of the program.
-/
import Derived.Test.YtaainjkhenenoaaKit2
namespace Go.Proofs.Ytaainjkhenenoaa.Bp
open Go.RowKit Kt
set_option linter.unusedVariables false

/-- A vote, as it lies in memory: its slot, its ballot, its value and where that lies. -/
structure X where
  s : Int
  b : Int
  v : List UInt8
  a : Option Addr
  c : Nat
/-- What a vote is. -/
def p3 (x : X) : Int × Int × List UInt8 := (x.s, x.b, x.v)
def add : List X → X → List X
  | [], x => [x]
  | y :: l, x => if x.s < y.s then x :: y :: l else if x.s = y.s then (if y.b < x.b then x :: l else y :: l) else y :: add l x
def put : List X → X → List X
  | [], x => [x]
  | y :: l, x => if x.s < y.s then x :: y :: l else if x.s = y.s then x :: l else y :: put l x
def atX : List X → Int → Option X
  | [], _ => none
  | y :: l, k => if y.s = k then some y else atX l k
def Srt (l : List X) : Prop := l.Pairwise (fun p q => p.s < q.s)
def mrg (l : List X) : List X := l.foldl add []

theorem add_none {l : List X} {x : X} (h : atX l x.s = none) : add l x = put l x := by
  induction l with
  | nil => rfl
  | cons y l ih =>
    rw [atX] at h
    split at h
    · cases h
    · rename_i hn
      rw [add, put]
      split
      · rfl
      · rw [if_neg (fun e => hn e.symm), if_neg (fun e => hn e.symm), ih h]
theorem add_gt {l : List X} {x o : X} (h : atX l x.s = some o) (hb : o.b < x.b) : add l x = put l x := by
  induction l with
  | nil => rfl
  | cons y l ih =>
    rw [atX] at h
    rw [add, put]
    split at h
    · rename_i he
      cases h
      split
      · rfl
      · simp [he.symm]
    · rename_i hn
      split
      · rfl
      · rw [if_neg (fun e => hn e.symm), if_neg (fun e => hn e.symm), ih h]
theorem atX_mem {l : List X} {k : Int} {o : X} (h : atX l k = some o) : o ∈ l ∧ o.s = k := by
  induction l with
  | nil => cases h
  | cons y l ih =>
    rw [atX] at h
    split at h
    · rename_i he
      cases h
      exact ⟨by simp, he⟩
    · obtain ⟨h1, h2⟩ := ih h
      exact ⟨by simp [h1], h2⟩
theorem add_le {l : List X} (hs : Srt l) {x o : X} (h : atX l x.s = some o) (hb : ¬ o.b < x.b) : add l x = l := by
  induction l with
  | nil => cases h
  | cons y l ih =>
    obtain ⟨h1, h2⟩ := List.pairwise_cons.1 hs
    rw [atX] at h
    rw [add]
    split at h
    · rename_i he
      cases h
      rw [if_neg (by omega), if_pos he.symm, if_neg hb]
    · rename_i hn
      have hm := atX_mem h
      have := h1 o hm.1
      rw [if_neg (by omega), if_neg (fun e => hn e.symm), ih h2 h]
theorem mem_at {l : List X} (hs : Srt l) {x : X} (h : x ∈ l) : atX l x.s = some x := by
  induction l with
  | nil => cases h
  | cons y l ih =>
    obtain ⟨h1, h2⟩ := List.pairwise_cons.1 hs
    rw [atX]
    rcases List.mem_cons.1 h with rfl | h
    · rw [if_pos rfl]
    · have := h1 x h
      rw [if_neg (by omega), ih h2 h]
theorem mem_add {l : List X} {x y : X} (h : y ∈ add l x) : y = x ∨ y ∈ l := by
  induction l with
  | nil => simp [add] at h; exact .inl h
  | cons z l ih =>
    rw [add] at h
    split at h
    · rcases List.mem_cons.1 h with h | h
      · exact .inl h
      · exact .inr h
    · split at h
      · split at h
        · rcases List.mem_cons.1 h with h | h
          · exact .inl h
          · exact .inr (by simp [h])
        · exact .inr h
      · rcases List.mem_cons.1 h with h | h
        · exact .inr (by simp [h])
        · rcases ih h with h | h
          · exact .inl h
          · exact .inr (by simp [h])
theorem srt_add {l : List X} (hs : Srt l) (x : X) : Srt (add l x) := by
  induction l with
  | nil => exact List.pairwise_singleton _ _
  | cons z l ih =>
    obtain ⟨h1, h2⟩ := List.pairwise_cons.1 hs
    rw [add]
    split
    · rename_i h
      refine List.pairwise_cons.2 ⟨fun q hq => ?_, hs⟩
      rcases List.mem_cons.1 hq with rfl | hq
      · exact h
      · have := h1 q hq; omega
    · split
      · rename_i h
        split
        · exact List.pairwise_cons.2 ⟨fun q hq => by have := h1 q hq; omega, h2⟩
        · exact hs
      · rename_i h3 h4
        refine List.pairwise_cons.2 ⟨fun q hq => ?_, ih h2⟩
        rcases mem_add hq with rfl | hq
        · omega
        · exact h1 q hq
theorem len_add (l : List X) (x : X) : (add l x).length ≤ l.length + 1 := by
  induction l with
  | nil => simp [add]
  | cons z l ih =>
    rw [add]
    split
    · simp
    · split
      · split <;> simp
      · simp; exact ih
theorem cov_add {l : List X} {x z : X} (h : z = x ∨ z ∈ l) : ∃ y ∈ add l x, y.s = z.s ∧ z.b ≤ y.b := by
  induction l with
  | nil =>
    rcases h with rfl | h
    · exact ⟨z, by simp [add], rfl, Int.le_refl _⟩
    · cases h
  | cons u l ih =>
    rw [add]
    split
    · rename_i hlt
      rcases h with rfl | h
      · exact ⟨z, by simp, rfl, Int.le_refl _⟩
      · exact ⟨z, by simp only [List.mem_cons] at h ⊢; exact .inr h, rfl, Int.le_refl _⟩
    · split
      · rename_i he
        split
        · rename_i hb
          rcases h with rfl | h
          · exact ⟨z, by simp, rfl, Int.le_refl _⟩
          · rcases List.mem_cons.1 h with rfl | h
            · exact ⟨x, by simp, he, by omega⟩
            · exact ⟨z, by simp [h], rfl, Int.le_refl _⟩
        · rename_i hb
          rcases h with rfl | h
          · exact ⟨u, by simp, he.symm, by omega⟩
          · exact ⟨z, h, rfl, Int.le_refl _⟩
      · rcases h with rfl | h
        · obtain ⟨y, h1, h2⟩ := ih (.inl rfl)
          exact ⟨y, by simp [h1], h2⟩
        · rcases List.mem_cons.1 h with rfl | h
          · exact ⟨z, by simp, rfl, Int.le_refl _⟩
          · obtain ⟨y, h1, h2⟩ := ih (.inr h)
            exact ⟨y, by simp [h1], h2⟩
theorem fold_srt : ∀ (l acc : List X), Srt acc → Srt (l.foldl add acc)
  | [], acc, h => h
  | x :: l, acc, h => fold_srt l (add acc x) (srt_add h x)
theorem fold_mem : ∀ (l acc : List X) (y : X), y ∈ l.foldl add acc → y ∈ acc ∨ y ∈ l
  | [], acc, y, h => .inl h
  | x :: l, acc, y, h => by
    rcases fold_mem l (add acc x) y h with h | h
    · rcases mem_add h with rfl | h
      · exact .inr (by simp)
      · exact .inl h
    · exact .inr (by simp [h])
theorem fold_len : ∀ (l acc : List X), (l.foldl add acc).length ≤ acc.length + l.length
  | [], acc => by simp
  | x :: l, acc => by
    have := fold_len l (add acc x)
    have := len_add acc x
    simp only [List.foldl_cons, List.length_cons]
    omega
theorem fold_cov : ∀ (l acc : List X) (z : X), z ∈ acc ∨ z ∈ l → ∃ y ∈ l.foldl add acc, y.s = z.s ∧ z.b ≤ y.b
  | [], acc, z, h => ⟨z, by simpa using h, rfl, Int.le_refl _⟩
  | x :: l, acc, z, h => by
    have h1 : (z = x ∨ z ∈ acc) ∨ z ∈ l := by
      rcases h with h | h
      · exact .inl (.inr h)
      · rcases List.mem_cons.1 h with h | h
        · exact .inl (.inl h)
        · exact .inr h
    rcases h1 with h1 | h1
    · obtain ⟨y, hy, e1, e2⟩ := cov_add h1
      obtain ⟨u, hu, e3, e4⟩ := fold_cov l (add acc x) y (.inl hy)
      exact ⟨u, hu, e3.trans e1, by omega⟩
    · exact fold_cov l (add acc x) z (.inr h1)
theorem mrg_srt (l : List X) : Srt (mrg l) := fold_srt l [] List.Pairwise.nil
theorem mrg_mem {l : List X} {y : X} (h : y ∈ mrg l) : y ∈ l := by
  rcases fold_mem l [] y h with h | h
  · cases h
  · exact h
theorem mrg_len (l : List X) : (mrg l).length ≤ l.length := by have := fold_len l []; rw [List.length_nil, Nat.zero_add] at this; exact this
theorem mrg_cov {l : List X} {z : X} (h : z ∈ l) : ∃ y ∈ mrg l, y.s = z.s ∧ z.b ≤ y.b := fold_cov l [] z (.inr h)
theorem srt_eq {l : List X} (hs : Srt l) {x y : X} (hx : x ∈ l) (hy : y ∈ l) (h : x.s = y.s) : x = y := by
  have h1 := mem_at hs hx
  rw [h, mem_at hs hy] at h1
  exact (Option.some.inj h1).symm
theorem mrg_top {l : List X} {y z : X} (hy : y ∈ mrg l) (hz : z ∈ l) (h : z.s = y.s) : z.b ≤ y.b := by
  obtain ⟨u, hu, e1, e2⟩ := mrg_cov hz
  have := srt_eq (mrg_srt l) hu hy (e1.trans h)
  subst this
  exact e2
theorem mrg_snoc (l : List X) (x : X) : mrg (l ++ [x]) = add (mrg l) x := by unfold mrg; rw [List.foldl_append]; rfl
theorem add_last {l : List X} {x : X} (h : ∀ y ∈ l, y.s < x.s) : add l x = l ++ [x] := by
  induction l with
  | nil => rfl
  | cons z l ih =>
    have := h z (by simp)
    rw [add, if_neg (by omega), if_neg (by omega), ih (fun y hy => h y (by simp [hy]))]
    rfl
theorem fold_same : ∀ (l acc : List X), Srt (acc ++ l) → l.foldl add acc = acc ++ l
  | [], acc, h => by simp
  | x :: l, acc, h => by
    have h1 : add acc x = acc ++ [x] := add_last (fun y hy => (List.pairwise_append.1 h).2.2 y hy x (by simp))
    rw [List.foldl_cons, h1, fold_same l (acc ++ [x]) (by simpa using h)]
    simp
theorem mrg_self {l : List X} (h : Srt l) : mrg l = l := by
  have := fold_same l [] (by simpa using h)
  simpa [mrg] using this
theorem fold_in {a : List X} (hs : Srt a) : ∀ l : List X, (∀ x ∈ l, x ∈ a) → l.foldl add a = a
  | [], _ => rfl
  | x :: l, h => by
    rw [List.foldl_cons, add_le hs (mem_at hs (h x (by simp))) (by omega)]
    exact fold_in hs l (fun y hy => h y (by simp [hy]))
theorem mrg_twice {l : List X} (h : Srt l) : mrg (l ++ l) = l := by
  have h1 : mrg (l ++ l) = l.foldl add (mrg l) := by unfold mrg; rw [List.foldl_append]
  rw [h1, mrg_self h]
  exact fold_in h l (fun _ h => h)
theorem srt_p3 {l m : List X} (h : l.map p3 = m.map p3) (hs : Srt l) : Srt m := by
  have h1 : (l.map p3).Pairwise (fun (p q : Int × Int × List UInt8) => p.1 < q.1) := (List.pairwise_map (f := p3) (R := fun (p q : Int × Int × List UInt8) => p.1 < q.1)).2 hs
  rw [h] at h1
  exact (List.pairwise_map (f := p3) (R := fun (p q : Int × Int × List UInt8) => p.1 < q.1)).1 h1
end Go.Proofs.Ytaainjkhenenoaa.Bp
