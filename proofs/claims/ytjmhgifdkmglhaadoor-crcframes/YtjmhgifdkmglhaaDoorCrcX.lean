/-
  What the laws' walks share: a place reckoned by '%'; Next at an error and at a body.
-/
import Derived.Test.YtjmhgifdkmglhaaDoorCrcK
import Derived.Test.YtjmhgifdkmglhaaDoorCrcM
namespace Go.Proofs.YtjmhgifdkmglhaaDoor.Cb
open Go.RowKit Kt Cs Cw Cf Cn Cg Ck
set_option linter.unusedVariables false

/-- '(cut % n + n) % n'. -/
theorem mod_name (cut : Int) (n : Nat) (h : 0 < n) : -(n : Int) < cut.tmod (n : Int) ∧ cut.tmod (n : Int) < (n : Int) ∧ ∃ i : Nat, i < n ∧ (cut.tmod (n : Int) + (n : Int)) % (n : Int) = (i : Int) := by
  have t1 : (0 : Int) < (n : Int) := by omega
  refine ⟨Int.lt_tmod_of_pos _ t1, Int.tmod_lt_of_pos _ t1, ((cut.tmod (n : Int) + (n : Int)) % (n : Int)).toNat, ?_, (Int.toNat_of_nonneg (Int.emod_nonneg _ (by omega))).symm⟩
  have := Int.emod_lt_of_pos (cut.tmod (n : Int) + (n : Int)) t1
  have := Int.emod_nonneg (cut.tmod (n : Int) + (n : Int)) (show (n : Int) ≠ 0 by omega)
  omega

theorem U_set (l : List UInt8) (j : Nat) (y : UInt8) : (U l).set j (.int .u8 (y.toNat : Int)) = U (l.set j y) := by simp [U, List.map_set]

theorem next_err (w : World) (ao : Option Addr) (n cap k : Nat) (K : Int) (bs : List UInt8) (e : Nat) (hK : K = (k : Int)) (hT : Tb w) (hr : Row w ao bs) (hl : bs.length ≤ 1000000) (hc : bs.length ≤ cap) (hcap : cap ≤ 9223372036854775807) (hk : k ≤ bs.length) (hn : n = bs.length) (he : Cp.fd (bs.drop k) = (e, 0)) (h0 : e ≠ 0) :
    Calls Tryd.prog 15 #[.slice ao n cap, .int .i64 K] w fun x w' => x = .returned (.tuple #[.slice none 0 0, .int .i64 0, .int .i64 (e : Nat)]) ∧ Below w.heap.size w w' := by
  subst hK hn
  refine (next_all w ao cap k bs hT hr hl hc hcap hk).mono ?_
  rw [he]
  rintro x w1 ⟨hB, ⟨_, rfl⟩ | ⟨h1, _⟩⟩
  · exact ⟨rfl, hB⟩
  · exact (h0 h1).elim
theorem next_ok (w : World) (ao : Option Addr) (n cap k : Nat) (K : Int) (bs body : List UInt8) (hK : K = (k : Int)) (hT : Tb w) (hr : Row w ao bs) (hl : bs.length ≤ 1000000) (hc : bs.length ≤ cap) (hcap : cap ≤ 9223372036854775807) (hk : k ≤ bs.length) (hn : n = bs.length) (he : Cp.fd (bs.drop k) = (0, body.length)) (hb : (bs.drop (k + 12)).take body.length = body) :
    Calls Tryd.prog 15 #[.slice ao n cap, .int .i64 K] w fun x w' => ∃ v, x = .returned (.tuple #[v, .int .i64 ((k + 12 + body.length : Nat) : Int), .int .i64 0]) ∧ w'.ownsRow w.heap.size 5 1 v body.length (U body) ∧ Below w.heap.size w w' := by
  subst hK hn
  refine (next_all w ao cap k bs hT hr hl hc hcap hk).mono ?_
  rw [he]
  rintro x w1 ⟨hB, ⟨h1, _⟩ | ⟨h1, v, rfl, hv⟩⟩
  · exact (h1 rfl).elim
  · simp only [hb] at hv
    exact ⟨v, rfl, hv, hB⟩
end Go.Proofs.YtjmhgifdkmglhaaDoor.Cb
