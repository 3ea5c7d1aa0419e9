/-
  All's closure: it goes over the frames and hands each body, copied, to a function that may write two cells of its own.
-/
import Derived.Test.YthmedpabgblddabGreatDoorCrcA
import Derived.RangeFuncWrites
namespace Go.Proofs.YthmedpabgblddabGreatDoor.Ct
open Go.RowKit Go.Shelf Kt Cs Cw Cf Cn Cg Ck Ca
set_option linter.unusedVariables false
attribute [local go_sem] Oper.semAt_some

/-- Behind the call all lies as it lay, but for the two blocks. -/
structure Ex (Bn Br : Nat) (w w' : World) : Prop where
  os : w'.os = w.os
  tape : w'.tape = w.tape
  output : w'.output = w.output
  size : w.heap.size ≤ w'.heap.size
  block : ∀ k, k < w.heap.size → k ≠ Bn → k ≠ Br → w'.heap[k]? = w.heap[k]?
theorem Ex.refl (Bn Br : Nat) (w : World) : Ex Bn Br w w := ⟨rfl, rfl, rfl, Nat.le_refl _, fun _ _ _ _ => rfl⟩
theorem Ex.trans {Bn Br : Nat} {a b c : World} (h : Ex Bn Br a b) (k : Ex Bn Br b c) : Ex Bn Br a c :=
  ⟨k.os.trans h.os, k.tape.trans h.tape, k.output.trans h.output, Nat.le_trans h.size k.size, fun i hi h1 h2 => (k.block i (Nat.lt_of_lt_of_le hi h.size) h1 h2).trans (h.block i hi h1 h2)⟩
theorem Ex.of_below {Bn Br : Nat} {a b : World} (h : Below a.heap.size a b) : Ex Bn Br a b := ⟨h.os, h.tape, h.output, h.size, fun k hk _ _ => h.block k hk⟩
theorem Ex.below {Bn Br n₀ : Nat} {a b : World} (h : Ex Bn Br a b) (h1 : n₀ ≤ Bn) (h2 : n₀ ≤ Br) (h3 : n₀ ≤ a.heap.size) : Below n₀ a b := ⟨h.os, h.tape, h.output, h.size, fun k hk => h.block k (by omega) (by omega) (by omega)⟩
theorem Ex.set {Bn Br : Nat} {a b : World} (h : Ex Bn Br a b) (p : Addr) (u : Value) (hp : p.block = Bn ∨ p.block = Br) : Ex Bn Br a (b.setCell p u) :=
  h.trans ⟨rfl, rfl, rfl, by simp [World.setCell], fun k hk h1 h2 => Below.heap_setCell _ _ _ _ (by rcases hp with e | e <;> omega)⟩
theorem Ex.drew {Bn Br : Nat} {a b : World} (h : Ex Bn Br a b) : Ex Bn Br a b.drew := ⟨h.os, h.tape, h.output, h.size, h.block⟩
theorem Ex.drewN {Bn Br : Nat} {a b : World} (h : Ex Bn Br a b) (n : Nat) : Ex Bn Br a (b.drewN n) := ⟨h.os, h.tape, h.output, h.size, h.block⟩

theorem Ex.trans2 {Bn Br : Nat} {a W W' : World} {row : Option Nat} (h : Ex Bn Br a W) (hg : W.grownBy W' row) (hr : ∀ j, row = some j → a.heap.size ≤ j) : Ex Bn Br a W' :=
  ⟨hg.os.trans h.os, hg.tape.trans h.tape, hg.output.trans h.output, Nat.le_trans h.size hg.size, fun k hk h1 h2 => (hg.block k (Nat.lt_of_lt_of_le hk h.size) (by intro e; have := hr _ e.symm; omega)).trans (h.block k hk h1 h2)⟩
/-- What the two cells hold. -/
structure Two (Tn Tr Bn Br : Nat) (W : World) (n : Nat) (r : Bool) : Prop where
  n : W.heap[Bn]? = some (.cells #[.int .i64 (n : Int)] Tn)
  r : W.heap[Br]? = some (.cells #[.bool r] Tr)
theorem Two.kept {Tn Tr Bn Br : Nat} {W W' : World} {n : Nat} {r : Bool} (h : Two Tn Tr Bn Br W n r) (hb : Below W.heap.size W W') : Two Tn Tr Bn Br W' n r :=
  ⟨(hb.block Bn (Array.getElem?_eq_some_iff.1 h.n).1).trans h.n, (hb.block Br (Array.getElem?_eq_some_iff.1 h.r).1).trans h.r⟩
theorem Two.others {Tn Tr Bn Br : Nat} {W W' : World} {n : Nat} {r : Bool} (h : Two Tn Tr Bn Br W n r) (he : Ex Bn Br W W') : KeepsOthers W W' :=
  ⟨he.size, fun k o hk ho => by
    refine (he.block k (Array.getElem?_eq_some_iff.1 hk).1 ?_ ?_).trans hk
    · rintro rfl; rw [h.n] at hk; cases hk; cases ho
    · rintro rfl; rw [h.r] at hk; cases hk; cases ho⟩

theorem two_own {Tn Tr Bn Br : Nat} {W W' : World} {n : Nat} {r : Bool} {row : Option Nat} (h : Two Tn Tr Bn Br W n r) (hg : W.grownBy W' row) (hr : ∀ j, row = some j → 0 ≤ j ∧ ∃ o : Obj, W.heap[j]? = some o ∧ o.isCells = false) : Two Tn Tr Bn Br W' n r :=
  ⟨(hg.block Bn (Array.getElem?_eq_some_iff.1 h.n).1 (by intro e; obtain ⟨_, o, ho, hc⟩ := hr _ e.symm; rw [h.n] at ho; cases ho; cases hc)).trans h.n,
   (hg.block Br (Array.getElem?_eq_some_iff.1 h.r).1 (by intro e; obtain ⟨_, o, ho, hc⟩ := hr _ e.symm; rw [h.r] at ho; cases ho; cases hc)).trans h.r⟩
theorem ex_own {Bn Br : Nat} {a W W' : World} {row : Option Nat} (h : Ex Bn Br a W) (hg : W.grownBy W' row) (hr : ∀ j, row = some j → a.heap.size ≤ j) : Ex Bn Br a W' :=
  h.trans2 hg hr
end Go.Proofs.YthmedpabgblddabGreatDoor.Ct
