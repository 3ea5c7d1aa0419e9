/-
  writeNums of one number.
-/
import Derived.Test.YtgbbajeeelgbhaaGreatDoorSqShQ
import Derived.Test.YtgbbajeeelgbhaaGreatDoorSqAE

namespace Go.Proofs.YtgbbajeeelgbhaaGreatDoor.Hr
open Go.RowKit Kt Pl Wr
set_option linter.unusedVariables false
set_option linter.unusedSimpArgs false
set_option maxRecDepth 20000

theorem conv_any {W : World} {ao : Option Addr} {bs : List UInt8} (h : Row W ao bs) (cap : Nat) : (convert 41 9 (.slice ao bs.length cap)).run Tryz.prog W = .ok (.string (S bs)) W :=
  run_string (P := Tryz.prog) Tryz.underlying41 Tryz.underlying5 Tryz.underlying9 h cap
theorem own_lo {w : World} {base lo e n m : Nat} {v : Value} {xs : List Value} (h : w.ownsRow base e n v m xs) (hl : lo ≤ base) : w.ownsRow lo e n v m xs := by
  refine ⟨h.1, ?_⟩
  rcases h.2 with h1 | ⟨g, c, cur, e1, h2, h3⟩
  · exact .inl h1
  · exact .inr ⟨g, c, cur, e1, by omega, h3⟩

set_option maxHeartbeats 4000000 in
theorem writeNums_one (w : World) (b off cap n : Nat) (hn : n ≤ 4611686018427387904) (hb : b < w.heap.size) (hcell : w.cell? ⟨b, off, none⟩ = some (.int .i64 (n : Int))) :
    Calls Tryz.prog 61 #[.slice (some ⟨b, off, none⟩) 1 cap] w fun e w' => e = .returned (.tuple #[.string (S (enc n)), .int .i64 0]) ∧ Below w.heap.size w w' := by
  have HN := mkH hn
  have hn9 := enc_len9 hn
  have HCE := mkH hcell
  clear hcell hn
  go_enter Tryz.func61, Tryz.ntmps61
  go_wp2_with fail
  go_loopw [4, 11] (fun bv i wr => ∃ (j : Nat) (ba : Option Addr) (bc : Nat) (pr : List UInt8), j ≤ 1 ∧ i = .int .i64 (j : Int) ∧ bv = .slice ba pr.length bc ∧ (j = 0 → ba = none ∧ bc = 0) ∧ Hid (pr = if j = 0 then [] else enc n) ∧ Hid (wr.ownsRow w.heap.size 5 1 (.slice ba pr.length bc) pr.length (U pr)) ∧ Hid (Below w.heap.size w wr)) (fun _ i _ => 1 - (intOf i).toNat)
  case atStart => exact ⟨0, none, 0, [], Nat.zero_le _, rfl, rfl, fun _ => ⟨rfl, rfl⟩, mkH rfl, mkH (by simpa [U] using World.ownsRow_nil w _ _ _), mkH (Below.refl _ _)⟩
  case round =>
    obtain ⟨j, ba, bc, pr, hj, rfl, rfl, hz, HPR, HOW, HBE⟩ := hrel
    rcases (by omega : j = 0 ∨ j = 1) with rfl | rfl
    · have hpr : pr = [] := HPR.out
      subst hpr
      obtain ⟨rfl, rfl⟩ := hz rfl
      clear hz HOW
      have hcell : wr.cell? ⟨b, off, none⟩ = some (.int .i64 (n : Int)) := by rw [HBE.out.cell (p := ⟨b, off, none⟩) hb]; exact HCE.out
      go_wp2_with (first | (go_at_call 115; (refine (Go.Proofs.YtgbbajeeelgbhaaGreatDoor.Wr.num_ok _ none 0 n [] (Row.nil _ _) (by simp) HN.out).mono ?_; rintro e1 W3 ⟨v3, rfl, hw3, hb3⟩; simp only [List.nil_append, List.length_nil, Nat.zero_add] at hw3; obtain ⟨b3, c3, rfl⟩ := own_form hw3; have HSR := mkH (Row.src (P := Tryz.prog) Tryz.underlying41 (Row.own hw3).2.2 c3); have hszw : w.heap.size ≤ W3.heap.size := Nat.le_trans HBE.out.size hb3.size; have HOB := mkH (World.ownsRow_nil W3 w.heap.size 5 1); have HB3 := mkH hb3; clear hw3 hb3)) | (at_builtin; refine (wpList_append_own_src _ rfl (.tmp 23) (.tmp 24) 41 41 rfl w.heap.size 5 (.int .u8 0) 1 1 Tryz.underlying41 info5 rfl (by decide) _ 0 [] rfl (HOB.out) _ (enc n).length (U (enc n)) rfl HSR.out (by unfold maxLen; omega) (by omega) hszw ?_); intro v5 W5 hw5 hg5; have hb5 := below_own HOB.out hg5 (Below.refl _ _) hszw; simp only [List.nil_append, Nat.zero_add] at hw5; obtain ⟨a5, c5, rfl⟩ := own_form hw5; have HW5 := mkH hw5; have HB5 := mkH hb5; clear hw5 hg5 hb5))
      refine ⟨⟨1, a5, c5, enc n, by omega, by go_num, rfl, fun h => by omega, mkH rfl, HW5, mkH ((HBE.out.trans (HB3.out.mono HBE.out.size)).trans HB5.out)⟩, ?_⟩
      simp [intOf]
    · have hpr : pr = enc n := HPR.out
      subst hpr
      have hcv := conv_any (Row.own HOW.out).2.2 bc
      go_wp2_with fail
      go_ret2
      exact ⟨rfl, HBE.out⟩
end Go.Proofs.YtgbbajeeelgbhaaGreatDoor.Hr
