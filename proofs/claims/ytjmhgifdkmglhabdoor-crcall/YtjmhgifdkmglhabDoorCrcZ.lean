/-
  What 'right' is behind the frames that were told; a function against nil.
-/
import Derived.Test.YtjmhgifdkmglhabDoorCrcY
import Derived.Test.YtjmhgifdkmglhabDoorCrcL
namespace Go.Proofs.YtjmhgifdkmglhabDoor.Cz
open Go.RowKit Kt Cs Cw Cf Cn Cg Ck Ca Ct Cy Cl
set_option linter.unusedVariables false

theorem eql_func {P : Program} (w : World) (t : TypeId) (ps rs : Array TypeId) (b : Bool) (f : Fn) (x y : Array Value) (h : P.underlying t = some (.func ps rs b)) : (binOp .eql t (.func f x y) .nilFunc).run P w = .ok (.bool false) w := by
  have h1 : ∀ d, (Op.equalIn (d + 1) t (.func f x y) .nilFunc).run P w = .ok false w := fun d => by simp [Op.equalIn, run_underlying h]
  have h2 : (Op.equal t (.func f x y) .nilFunc).run P w = .ok false w := h1 9999
  simp only [binOp]
  simp [h2]

section
variable {w0 : World}
def rN (zs : List Nat) (ps : List Part) (pre : List (El w0)) : Nat → Bool
  | 0 => true
  | k + 1 => match pre[k]? with
    | some x => stepR zs ps (rN zs ps pre k) k x.pl x.bs
    | none => rN zs ps pre k
def rOf (zs : List Nat) (ps : List Part) (pre : List (El w0)) : Bool := rN zs ps pre pre.length
theorem rN_app (zs : List Nat) (ps : List Part) (pre : List (El w0)) (x : El w0) : ∀ k, k ≤ pre.length → rN zs ps (pre ++ [x]) k = rN zs ps pre k
  | 0, _ => rfl
  | k + 1, h => by
    rw [rN, rN, rN_app zs ps pre x k (by omega), List.getElem?_append_left (by omega)]
theorem rOf_snoc (zs : List Nat) (ps : List Part) (pre : List (El w0)) (x : El w0) : rOf zs ps (pre ++ [x]) = stepR zs ps (rOf zs ps pre) pre.length x.pl x.bs := by
  unfold rOf
  rw [List.length_append, List.length_singleton, rN, rN_app zs ps pre x _ (Nat.le_refl _)]
  simp
theorem rOf_true (zs : List Nat) (ps : List Part) (pre : List (El w0)) (h : ∀ i x, pre[i]? = some x → i < zs.length → x.pl = zs.getD i 0 ∧ x.bs = ((ps.getD i ⟨none, 0, []⟩).bs.take 3000)) : rOf zs ps pre = true := by
  have : ∀ k, rN zs ps pre k = true := by
    intro k
    induction k with
    | zero => rfl
    | succ k ih =>
      rw [rN]
      cases hx : pre[k]? with
      | none => exact ih
      | some x =>
        simp only [stepR, ih]
        split
        · rename_i hk
          obtain ⟨h1, h2⟩ := h k x hx hk
          simp [h1, h2]
        · rfl
  exact this _
end
theorem places_at (l : List (List UInt8)) {k i : Nat} (h : i < k) : (places l k).getD i 0 = off l i := by
  simp [places, List.getD, h]
theorem bods_getD {ps : List Part} {i : Nat} (h : i < (bods ps).length) : (bods ps).getD i [] = ((ps.getD i ⟨none, 0, []⟩).bs.take 3000) := by
  have h2 : i < 20 ∧ i < ps.length := by simp [bods] at h; omega
  simp [bods, List.getD, h2.1, List.getElem?_eq_getElem h2.2]
theorem RowI.own {w : World} {base e n : Nat} {ao : Option Addr} {c : Nat} {zs : List Nat} (h : w.ownsRow base e 1 (.slice ao n c) n (I zs)) : RowI w ao zs := by
  intro hl
  have hn : n = zs.length := by have := h.1; rw [I_length] at this; omega
  subst hn
  rcases h.2 with ⟨e1, e2⟩ | ⟨g, c', cur, e1, _⟩
  · omega
  · simp only [Value.slice.injEq] at e1
    obtain ⟨rfl, _, rfl⟩ := e1
    refine ⟨g, 0, rfl, fun i hi => ?_⟩
    have := World.ownsRow.cellAt h i (by omega)
    rw [Nat.zero_add, this]
    simp [I, List.getD, List.getElem?_eq_getElem hi]
end Go.Proofs.YtjmhgifdkmglhabDoor.Cz
