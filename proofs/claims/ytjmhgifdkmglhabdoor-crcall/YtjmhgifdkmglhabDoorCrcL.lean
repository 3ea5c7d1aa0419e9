/-
  The first half of CrcAll: frames are laid one behind the other, and their places are noted.
-/
import Derived.Test.YtjmhgifdkmglhabDoorCrcV
namespace Go.Proofs.YtjmhgifdkmglhabDoor.Cl
open Go.RowKit Kt Cs Cw Cf Cn Cg Ck Ca Ct Cv
set_option linter.unusedVariables false

theorem info3 : (Tryd.prog.info? 3).map (fun i => (i.zero, i.size, i.bytes)) = some (some (.int .i64 0), 1, 8) := by kernel_rfl

/-- The bodies that count. -/
def bods (ps : List Part) : List (List UInt8) := (ps.take 20).map fun p => p.bs.take 3000
def places (l : List (List UInt8)) (k : Nat) : List Nat := (List.range k).map (off l)
theorem places_succ (l : List (List UInt8)) (k : Nat) : places l (k + 1) = places l k ++ [off l k] := by simp [places, List.range_succ]
theorem places_len (l : List (List UInt8)) (k : Nat) : (places l k).length = k := by simp [places]

/-- The state between two rounds. -/
structure St (H : Nat) (w : World) (ao : Option Addr) (np cap : Nat) (mo : Int) (l : List (List UInt8)) (k : Nat) (vb va : Value) (wr : World) : Prop where
  b3 : wr.heap[H]? = some (.cells #[.slice ao np cap] 22)
  b5 : wr.heap[H + 1]? = some (.cells #[.int .i64 mo] 3)
  b8 : wr.heap[H + 2]? = some (.cells #[va] 24)
  rb : wr.ownsRow (H + 3) 5 1 vb (fcat (l.take k)).length (U (fcat (l.take k)))
  ra : wr.ownsRow (H + 3) 3 1 va k (I (places l k))
  ne : ∀ g, vb.ownBlock = some g → va.ownBlock ≠ some g
  be : Below H w wr
theorem own_below {w w' : World} {base e size n : Nat} {v : Value} {xs : List Value} (h : w.ownsRow base e size v n xs) (hb : Below w.heap.size w w') : w'.ownsRow base e size v n xs :=
  own_other h (grown_of_below hb) (fun _ _ e => by cases e)
theorem St.below {H : Nat} {w : World} {ao : Option Addr} {np cap : Nat} {mo : Int} {l : List (List UInt8)} {k : Nat} {vb va : Value} {wr w1 : World} (h : St H w ao np cap mo l k vb va wr) (hb : Below wr.heap.size wr w1) (hH : H ≤ wr.heap.size) : St H w ao np cap mo l k vb va w1 :=
  ⟨(hb.block _ (Array.getElem?_eq_some_iff.1 h.b3).1).trans h.b3, (hb.block _ (Array.getElem?_eq_some_iff.1 h.b5).1).trans h.b5, (hb.block _ (Array.getElem?_eq_some_iff.1 h.b8).1).trans h.b8, own_below h.rb hb, own_below h.ra hb, h.ne, h.be.trans (hb.mono hH)⟩
end Go.Proofs.YtjmhgifdkmglhabDoor.Cl
