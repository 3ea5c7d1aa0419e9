/-
  The contract of the document's Token.
-/
import Derived.Test.YtbemindfmghjdaaDoorDgR3
import Derived.Test.YtbemindfmghjdaaDoorDgX
namespace Go.Proofs.YtbemindfmghjdaaDoor.Dr4
open Go.RowKit Kt Dk Dw Di Dx
set_option linter.unusedVariables false
set_option maxRecDepth 20000

def hex16 : ByteArray := ⟨#[48, 49, 50, 51, 52, 53, 54, 55, 56, 57, 97, 98, 99, 100, 101, 102]⟩
theorem hex_cut (q : Nat) (hq : q < 16) : hex16.extract q (q + 1) = S [hx.getD q 0] := by
  have : ∀ q : Fin 16, hex16.extract q.1 (q.1 + 1) = S [hx.getD q.1 0] := by decide +kernel
  exact this ⟨q, hq⟩

theorem S_add (a b : List UInt8) : S a ++ S b = S (a ++ b) := by
  unfold S
  apply ByteArray.ext
  simp

theorem str_add {P : Program} (W : World) (a b : List UInt8) (h : a.length + b.length ≤ 1000) : (Op.stringOp .add (S a) (S b)).run P W = .ok (.string (S (a ++ b))) W := by
  have h1 : ¬ (((S a).size + (S b).size : Nat) : Int) > IntKind.i64.max := by
    rw [S_size, S_size, show IntKind.i64.max = 9223372036854775807 by rfl]; omega
  unfold Op.stringOp
  simp only [if_neg h1, S_add]
  rfl

set_option maxHeartbeats 4000000 in
theorem refToken_any (w : World) (ao : Option Addr) (cap : Nat) (bs : List UInt8) (hr : Row w ao bs) (hn : bs.length ≤ 50000) :
    Calls Tryd.prog 40 #[.slice ao bs.length cap] w fun e w' => e = .returned (.string (S (tok bs))) ∧ Below w.heap.size w w' := by
  go_enter Tryd.func40, Tryd.ntmps40
  go_wp2_with fail
  refine (Dr3.refOf_any w ao cap bs hr hn).mono ?_
  rintro e w1 ⟨v, rfl, hown, hb1⟩
  obtain ⟨a1, c1, rfl⟩ := own_form hown
  obtain ⟨g, rfl, hg1, hg2, hg3, -, hc⟩ := Dr3.own_bytes hown (by decide)
  have HC := mkH hc
  have HB := mkH hb1
  have HT : Hid (tok bs = tk (Dp.dig bs) 16) := rfl
  have HL := mkH (Dp.dig_length bs)
  clear hown hb1 hc
  generalize Dp.dig bs = d at HC HT HL
  go_wp2_with fail
  go_loopw [4, 5] (fun v i W => ∃ k n : Nat, k ≤ 16 ∧ i = .int .i64 k ∧ v = .string (S (tk d k)) ∧ W = w1.drewN n) (fun _ i _ => 16 - (intOf i).toNat)
  case atStart => exact ⟨0, 0, by omega, rfl, rfl, rfl⟩
  case round =>
    obtain ⟨k, n, hk, rfl, rfl, rfl⟩ := hrel
    by_cases hlt : k = 16
    · have t0 : decide ((k : Int) < 16) = false := by simp; omega
      subst hlt
      go_wp2
      go_ret
      rw [HT.out]
      exact ⟨rfl, below_drewN HB.out n⟩
    · have t0 : decide ((k : Int) < 16) = true := by simp; omega
      have hk0 : (k : Int) < 32 := by omega
      have cK := HC.out k (by omega)
      obtain ⟨w2, hw2⟩ : ∃ w2, w2 = w1.drewN n := ⟨_, rfl⟩
      rw [← hw2]
      have cK2 : w2.cell? ⟨g, k, none⟩ = some (.int .u8 ((d.getD k 0).toNat : Int)) := by rw [hw2]; exact cK
      have HW2 : Hid (w2 = w1.drewN n) := hw2
      have HS := mkH (tk_succ d k (by rw [HL.out]; omega))
      have hx2 := (d.getD k 0).toNat_lt
      unfold two at HS
      generalize (d.getD k 0).toNat = x at cK2 HS hx2
      obtain ⟨q, hq⟩ : ∃ q, x / 16 = q := ⟨_, rfl⟩
      obtain ⟨r, hr2⟩ : ∃ r, x % 16 = r := ⟨_, rfl⟩
      rw [hq, hr2] at HS
      have e1 : (x : Int) / 16 = (q : Int) := by omega
      have e2 : (x : Int) % 16 = (r : Int) := by omega
      have e3 : (x : Int).tdiv 16 = (q : Int) := by rw [Int.tdiv_eq_ediv_of_nonneg (by omega)]; omega
      have e4 : (x : Int).tmod 16 = (r : Int) := by rw [Int.tmod_eq_emod_of_nonneg (by omega)]; omega
      have hq16 : q < 16 := by omega
      have hr16 : r < 16 := by omega
      have x1 : (ByteArray.mk #[48, 49, 50, 51, 52, 53, 54, 55, 56, 57, 97, 98, 99, 100, 101, 102]).extract q (q + 1) = S [hx.getD q 0] := hex_cut q hq16
      have x2 : (ByteArray.mk #[48, 49, 50, 51, 52, 53, 54, 55, 56, 57, 97, 98, 99, 100, 101, 102]).extract r (r + 1) = S [hx.getD r 0] := hex_cut r hr16
      obtain ⟨q1, hq1⟩ : ∃ q1, q + 1 = q1 := ⟨_, rfl⟩
      obtain ⟨r1, hr1⟩ : ∃ r1, r + 1 = r1 := ⟨_, rfl⟩
      rw [hq1] at x1
      rw [hr1] at x2
      have z1 : IntKind.u8.wrap (q : Int) = (q : Int) := by rw [IntKind.wrap_u8']; omega
      have z2 : IntKind.u8.wrap ((q : Int) + 1) = (q1 : Int) := by rw [IntKind.wrap_u8']; omega
      have z3 : IntKind.u8.wrap (r : Int) = (r : Int) := by rw [IntKind.wrap_u8']; omega
      have z4 : IntKind.u8.wrap ((r : Int) + 1) = (r1 : Int) := by rw [IntKind.wrap_u8']; omega
      have b1 : (q1 : Int) ≤ 16 := by omega
      have b2 : (q : Int) ≤ (q1 : Int) := by omega
      have b3 : (r1 : Int) ≤ 16 := by omega
      have b4 : (r : Int) ≤ (r1 : Int) := by omega
      clear hq1 hr1
      generalize hx.getD q 0 = h1 at x1 HS
      generalize hx.getD r 0 = h2 at x2 HS
      have hkl := tk_length d k (by rw [HL.out]; omega)
      have s1 := fun (W : World) => str_add (P := Tryd.prog) W (tk d k) [h1] (by rw [hkl]; simp; omega)
      have s2 := fun (W : World) => str_add (P := Tryd.prog) W (tk d k ++ [h1]) [h2] (by rw [List.length_append, hkl]; simp; omega)
      have hj : tk d k ++ [h1] ++ [h2] = tk d (k + 1) := by rw [HS.out, List.append_assoc]; rfl
      rw [hj] at s2
      clear hw2 hq hr2 cK hkl hj HS
      go_wp2_with fail
      generalize tk d k ++ [h1] = y at s1 s2
      generalize hy2 : tk d (k + 1) = y2 at s2
      have HY2 : Hid (tk d (k + 1) = y2) := hy2
      clear hy2
      go_quiet (fail)
      go_wp2_with fail
      refine ⟨⟨k + 1, n + nq, by omega, by go_num, by rw [HY2.out], by rw [HW2.out, World.drewN_drewN]⟩, by simp [intOf]; omega⟩
end Go.Proofs.YtbemindfmghjdaaDoor.Dr4
