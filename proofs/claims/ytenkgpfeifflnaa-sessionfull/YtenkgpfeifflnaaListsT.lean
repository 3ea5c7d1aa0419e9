/-
  The contracts of the lists of texts that are read: readList[string], ReadTexts.
-/
import Derived.Test.YtenkgpfeifflnaaReads2
import Derived.Test.YtenkgpfeifflnaaKit2
namespace Go.Proofs.Ytenkgpfeifflnaa.Lt
open Go.RowKit Kt Pl Rd Wr Fw
set_option linter.unusedVariables false

theorem info9 : (Try.prog.info? 9).map (fun i => (i.zero, i.size, i.bytes)) = some (some (.string ByteArray.empty), 1, 16) := by kernel_rfl

theorem readText_err (bs : List UInt8) : (∃ s k, readText bs = (s, k, 0)) ∨ ∃ er, er ≠ 0 ∧ readText bs = ([], 0, er) := by
  unfold readText
  by_cases h : (readCount bs 4096).2.2 ≠ 0
  · right; exact ⟨_, h, by rw [if_pos h]⟩
  · rw [if_neg h]
    by_cases h2 : bs.length - (readCount bs 4096).2.1 < (readCount bs 4096).1
    · right; exact ⟨4, by omega, by rw [if_pos h2]⟩
    · left; exact ⟨_, _, by rw [if_neg h2]⟩

/-- What a list of texts that was read is handed back as. -/
def IsTexts (base : Nat) (r : List (List UInt8) × Nat × Nat) (w0 : World) (e : Ending) (w' : World) : Prop :=
  ∃ v, e = .returned (.tuple #[v, .int .i64 (r.2.1 : Int), .int .i64 (r.2.2 : Int)]) ∧ w'.ownsRow base 9 1 v r.1.length (T r.1) ∧ Below base w0 w'

theorem own_snoc {w : World} {base e : Nat} {v : Value} {l : List (List UInt8)} {n : List UInt8} (h : w.ownsRow base e 1 v (l.length + 1) (T l ++ [.string (S n)])) : w.ownsRow base e 1 v (l ++ [n]).length (T (l ++ [n])) := by
  rw [List.length_append, T_append]; exact h

theorem rl_ok {bs : List UInt8} {n k p j : Nat} {x : List UInt8} {l : List (List UInt8)} (hk : k < n) (h : readText (bs.drop p) = (x, j, 0)) : rl readText bs (n - k) l p = rl readText bs (n - (k + 1)) (l ++ [x]) (p + j) := by
  rw [show n - k = (n - (k + 1)) + 1 by omega, rl, h]; simp
theorem rl_bad {bs : List UInt8} {n k p er : Nat} {l : List (List UInt8)} (hk : k < n) (h : readText (bs.drop p) = ([], 0, er)) (he : er ≠ 0) : rl readText bs (n - k) l p = ([], 0, er) := by
  rw [show n - k = (n - (k + 1)) + 1 by omega, rl, h]; simp [he]
end Go.Proofs.Ytenkgpfeifflnaa.Lt
