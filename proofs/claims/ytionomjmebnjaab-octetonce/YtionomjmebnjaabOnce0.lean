/-
  Small facts for OctetOnce.
-/
import Derived.Test.YtionomjmebnjaabListsI
import Derived.Test.YtionomjmebnjaabAddI
import Derived.Deep.QuietTactic
import Derived.BigQuiet
namespace Go.Proofs.Ytionomjmebnjaab.On
open Go.RowKit Kt Pl Rd Wr Fw Li Ad
set_option linter.unusedVariables false

theorem Row_drewN {w : World} {ao : Option Addr} {bs : List UInt8} (h : Row w ao bs) (n : Nat) : Row (w.drewN n) ao bs := h

theorem strN {P : Program} {w : World} {src dst e : TypeId} (hs : P.underlying src = some (.slice e)) (he : P.underlying e = some (.int .u8)) (hd : P.underlying dst = some .string)
    {ao : Option Addr} {bs : List UInt8} (h : Row w ao bs) (c : Nat) : ∀ nq, (convert src dst (.slice ao bs.length c)).run P (w.drewN nq) = .ok (.string (S bs)) (w.drewN nq) :=
  fun nq => run_string hs he hd (Row_drewN h nq) c

theorem readText_err (bs : List UInt8) : (∃ s k, readText bs = (s, k, 0)) ∨ ∃ er, er ≠ 0 ∧ readText bs = ([], 0, er) := by
  unfold readText
  by_cases h : (readCount bs 4096).2.2 ≠ 0
  · right; exact ⟨_, h, by rw [if_pos h]⟩
  · rw [if_neg h]
    by_cases h2 : bs.length - (readCount bs 4096).2.1 < (readCount bs 4096).1
    · right; exact ⟨4, by omega, by rw [if_pos h2]⟩
    · left; exact ⟨_, _, by rw [if_neg h2]⟩

theorem rl_err {α : Type} (read : List UInt8 → α × Nat × Nat) (bs : List UInt8) : ∀ (n : Nat) (acc : List α) (p : Nat), (∃ l k, rl read bs n acc p = (l, k, 0)) ∨ ∃ er, er ≠ 0 ∧ rl read bs n acc p = ([], 0, er)
  | 0, acc, p => .inl ⟨acc, p, rfl⟩
  | n + 1, acc, p => by
    rw [rl]
    by_cases h : (read (bs.drop p)).2.2 ≠ 0
    · right; exact ⟨_, h, by rw [if_pos h]⟩
    · rw [if_neg h]; exact rl_err read bs n _ _

theorem readList_err {α : Type} (read : List UInt8 → α × Nat × Nat) (bs : List UInt8) : (∃ l k, readList read bs = (l, k, 0)) ∨ ∃ er, er ≠ 0 ∧ readList read bs = ([], 0, er) := by
  unfold readList
  by_cases h : (readCount bs 1024).2.2 ≠ 0
  · right; exact ⟨_, h, by rw [if_pos h]⟩
  · rw [if_neg h]; exact rl_err read bs _ _ _

theorem readNum_err' (bs : List UInt8) : (∃ n k, readNum bs = (n, k, 0)) ∨ ∃ er, er ≠ 0 ∧ readNum bs = (0, 0, er) := by
  rcases readNum_err bs with h | h | h
  · exact .inl h
  · exact .inr ⟨4, by omega, h⟩
  · exact .inr ⟨5, by omega, h⟩

theorem own_text {w : World} {base e : Nat} {v : Value} {s : List UInt8} (h : w.ownsRow base e 1 v (([] : List UInt8).length + (enc (S s).size ++ (S s).data.toList).length) (U ([] ++ (enc (S s).size ++ (S s).data.toList)))) :
    w.ownsRow base e 1 v (encText s).length (U (encText s)) := by
  rw [List.nil_append, List.length_nil, Nat.zero_add] at h; exact h

theorem encNums_eq (l : List Nat) : encList eI (l.map fun (n : Nat) => (n : Int)) = encList enc l := by
  unfold encList
  rw [List.length_map, List.flatMap_map]
  rfl

theorem own_nums {w : World} {base e : Nat} {v : Value} {l : List Nat} (h : w.ownsRow base e 1 v (([] : List UInt8).length + (encList eI (l.map fun (n : Nat) => (n : Int))).length) (U ([] ++ encList eI (l.map fun (n : Nat) => (n : Int))))) :
    w.ownsRow base e 1 v (encList enc l).length (U (encList enc l)) := by
  rw [List.nil_append, List.length_nil, Nat.zero_add, encNums_eq] at h; exact h

theorem once_nums {bs : List UInt8} {l : List Nat} {k : Nat} (h : readList readNum bs = (l, k, 0)) :
    k ≤ bs.length ∧ l.length ≤ 1024 ∧ encList enc l = bs.take k ∧ ∀ x ∈ l.map (fun (n : Nat) => (n : Int)), okN x := by
  obtain ⟨a1, a2, a3⟩ := readList_once (e := enc) (fun bs x k hx => ⟨(readNum_once hx).2.1, (readNum_once hx).2.2.2⟩) h
  refine ⟨a1, a2, a3, fun x hx => ?_⟩
  obtain ⟨n, hn, rfl⟩ := List.mem_map.1 hx
  have := readList_items (Q := fun n => n ≤ 4611686018427387904) (fun bs x k hx => (readNum_once hx).2.2.1) h n hn
  exact ⟨by omega, by omega⟩
end Go.Proofs.Ytionomjmebnjaab.On
