/-
  The contracts of the two functions that make a sum: crc.Sum, and the document's own.
-/
import Derived.Test.YthmedpabgblddabGreatDoorRows
import Derived.Test.YthmedpabgblddabGreatDoorCrcP
import Derived.Test.YthmedpabgblddabGreatDoorKit2
import Derived.Laws.BitsAllLaws
import Derived.Laws.ShiftsVarLaws
import Derived.Lib.LaidTab
namespace Go.Proofs.YthmedpabgblddabGreatDoor.Cs
open Go.RowKit Kt
set_option linter.unusedVariables false

/-- The table lies where it was laid. -/
def Tb (w : World) : Prop := ∀ i, i < 16 → w.cell? ⟨0, i, none⟩ = some (.int .u32 (Cp.tab.getD i 0))
theorem Tb.below {B : Nat} {w w' : World} (h : Tb w) (hb : Below B w w') (hB : 0 < B) : Tb w' := by
  intro i hi
  rw [hb.cell (p := ⟨0, i, none⟩) hB]
  exact h i hi
theorem Tb.size {w : World} (h : Tb w) : 0 < w.heap.size := World.block_lt_of_cell? w _ (h 0 (by omega))
theorem Tb.z4 {w : World} (h : Tb w) (r : Nat) : w.cell? ⟨0, r % 16, none⟩ = some (.int .u32 (Cp.z4 (r % 16) : Nat)) := by
  rw [h (r % 16) (by omega), Cp.tab_z4 ⟨r % 16, by omega⟩]
theorem step_z4 (r : Nat) (h : r < 4294967296) : bits .xor .u32 ((r : Int) / 16) ((Cp.z4 (r % 16) : Nat) : Int) = ((Cp.z4 r : Nat) : Int) := by
  have h1 : Cp.z4 (r % 16) < 2 ^ 32 := Cp.z4_lt (by omega)
  have e : ((r : Int) / 16) = ((r / 16 : Nat) : Int) := by omega
  rw [e, u32_xor_nat _ _ (by omega) (by omega)]
  have h2 := Cp.z4_tab r
  rw [Cp.tab_z4 ⟨r % 16, by omega⟩, Int.toNat_natCast] at h2
  rw [h2]

/-- Slices of bytes, one behind the other. -/
structure Part where
  ao : Option Addr
  cap : Nat
  bs : List UInt8
def cat (ps : List Part) : List UInt8 := (ps.map Part.bs).flatten
def Parts (w : World) (ao : Option Addr) (ps : List Part) : Prop :=
  0 < ps.length → ∃ b off, ao = some ⟨b, off, none⟩ ∧ ∀ i p, ps[i]? = some p → w.cell? ⟨b, off + i, none⟩ = some (.slice p.ao p.bs.length p.cap) ∧ Row w p.ao p.bs ∧ p.bs.length ≤ 1000000
theorem cat_succ {ps : List Part} {k : Nat} {p : Part} (h : ps[k]? = some p) : cat (ps.take (k + 1)) = cat (ps.take k) ++ p.bs := by
  simp [cat, List.take_add_one, h]
theorem take_succ8 {bs : List UInt8} {j : Nat} (h : j < bs.length) : bs.take (j + 1) = bs.take j ++ [bs.getD j 0] := by
  rw [List.take_add_one]; simp [List.getD, List.getElem?_eq_getElem h]

set_option maxHeartbeats 1000000 in
set_option maxRecDepth 20000 in
theorem sum_any (w : World) (ao : Option Addr) (cap : Nat) (ps : List Part) (hT : Tb w) (hP : Parts w ao ps) (hn : ps.length ≤ 1000) :
    Calls Tryz.prog 64 #[.slice ao ps.length cap] w fun e w' => e = .returned (.int .u32 (Cp.sum (cat ps) : Nat)) ∧ w' = w := by
  go_enter Tryz.func64, Tryz.ntmps64
  go_wp2
  go_loop [3, 10] (fun r i => ∃ k q : Nat, k ≤ ps.length ∧ i = .int .i64 k ∧ r = .int .u32 q ∧ q < 4294967296 ∧ Hid (q = Cp.run 4294967295 (cat (ps.take k)))) (fun _ i => ps.length - (intOf i).toNat)
  case atStart => exact ⟨0, 4294967295, by omega, rfl, rfl, by omega, rfl⟩
  case round =>
    obtain ⟨k, q, hk, rfl, rfl, hq, hrun⟩ := hrel
    by_cases hs : k = ps.length
    · have HE : Hid (bits .xor .u32 IntKind.u32.max (q : Int) = ((Cp.sum (cat ps) : Nat) : Int)) := by
        have h1 := hrun.out
        rw [hs, List.take_length] at h1
        have := u32_xor_nat 4294967295 q (by omega) hq
        unfold Hid
        rw [show IntKind.u32.max = ((4294967295 : Nat) : Int) by rfl, this, Cp.sum, ← h1, Nat.xor_comm]
      have t0 : decide ((k : Int) < (ps.length : Int)) = false := by simp; omega
      clear hrun
      go_wp2
      go_ret
      exact ⟨congrArg (fun z => Ending.returned (Value.int .u32 z)) HE.out, rfl⟩
    · obtain ⟨p, hp⟩ : ∃ p, ps[k]? = some p := ⟨ps[k]'(by omega), List.getElem?_eq_getElem (by omega)⟩
      obtain ⟨b, off, rfl, hc⟩ := hP (by omega)
      obtain ⟨hck, hrow, hpl⟩ := hc k p hp
      obtain ⟨pa, pc, bs⟩ := p
      simp only at hck hrow hpl
      have HP : Hid (ps[k]? = some ⟨pa, pc, bs⟩) := hp
      clear hc hP hp
      have t0 : decide ((k : Int) < (ps.length : Int)) = true := by simp; omega
      have hk2 : k + 1 ≤ ps.length := by omega
      go_wp2
      go_loop [3, 16] (fun r i => ∃ j q1 : Nat, j ≤ bs.length ∧ i = .int .i64 j ∧ r = .int .u32 q1 ∧ q1 < 4294967296 ∧ Hid (q1 = Cp.run q (bs.take j))) (fun _ i => bs.length - (intOf i).toNat)
      case atStart => exact ⟨0, q, by omega, rfl, rfl, hq, rfl⟩
      case round =>
        obtain ⟨j, q1, hj, rfl, rfl, hq1, hrun1⟩ := hrel
        by_cases hs1 : j = bs.length
        · have HE : Hid (q1 = Cp.run 4294967295 (cat (ps.take (k + 1)))) := by
            have h1 := hrun1.out
            rw [hs1, List.take_length, hrun.out] at h1
            unfold Hid
            rw [cat_succ HP.out, Cp.run_append]; exact h1
          have t1 : decide ((j : Int) < (bs.length : Int)) = false := by simp; omega
          clear hrun1 hrun
          go_wp2
          go_round
          case rel => exact ⟨k + 1, q1, hk2, by go_num, rfl, hq1, HE⟩
          case measure => simp [intOf]; omega
        · have hjl : j < bs.length := by omega
          obtain ⟨b2, off2, rfl, hc2⟩ := hrow (by omega)
          obtain ⟨c, hcc⟩ : ∃ c, (bs.getD j 0).toNat = c := ⟨_, rfl⟩
          have hcj : w.cell? ⟨b2, off2 + j, none⟩ = some (.int .u8 (c : Int)) := by rw [hc2 j hjl, hcc]
          have hc256 : c < 256 := by rw [← hcc]; exact Cp.u8_lt _
          have t1 : decide ((j : Int) < (bs.length : Int)) = true := by simp; omega
          have ec : (c : Int) % 4294967296 = (c : Int) := by omega
          obtain ⟨x0, hx0⟩ : ∃ x0, q1 ^^^ c = x0 := ⟨_, rfl⟩
          have hx0l : x0 < 4294967296 := by rw [← hx0]; exact Cp.xor_lt hq1 (by omega)
          have e0 : bits .xor .u32 (q1 : Int) (c : Int) = (x0 : Int) := by rw [u32_xor_nat _ _ hq1 (by omega), hx0]
          have m0 : (x0 : Int).tmod 16 = ((x0 % 16 : Nat) : Int) := by rw [Int.tmod_eq_emod_of_nonneg (by omega)]; omega
          have hz1 := hT.z4 x0
          have e1 := step_z4 x0 hx0l
          obtain ⟨x1, hx1⟩ : ∃ x1, Cp.z4 x0 = x1 := ⟨_, rfl⟩
          have hx1l : x1 < 4294967296 := by rw [← hx1]; exact Cp.z4_lt hx0l
          rw [hx1] at e1
          have hz2 := hT.z4 x1
          have e2 := step_z4 x1 hx1l
          obtain ⟨x2, hx2⟩ : ∃ x2, Cp.z4 x1 = x2 := ⟨_, rfl⟩
          have hx2l : x2 < 4294967296 := by rw [← hx2]; exact Cp.z4_lt hx1l
          rw [hx2] at e2
          have m1 : (x1 : Int).tmod 16 = ((x1 % 16 : Nat) : Int) := by rw [Int.tmod_eq_emod_of_nonneg (by omega)]; omega
          have HE : Hid (x2 = Cp.run q (bs.take (j + 1))) := by
            unfold Hid
            rw [take_succ8 hjl, Cp.run_append, ← hrun1.out, ← hx2, ← hx1, ← hx0, ← hcc]; rfl
          have hj2 : j + 1 ≤ bs.length := by omega
          clear hrun1 hrun hcc hx0 hx1 hx2 hc2 hT hrow
          obtain ⟨y1, hy1⟩ : ∃ y, ((Cp.z4 (x0 % 16) : Nat) : Int) = y := ⟨_, rfl⟩
          obtain ⟨y2, hy2⟩ : ∃ y, ((Cp.z4 (x1 % 16) : Nat) : Int) = y := ⟨_, rfl⟩
          rw [hy1] at hz1 e1
          rw [hy2] at hz2 e2
          clear hy1 hy2
          go_wp2
          go_round
          case rel => exact ⟨j + 1, x2, hj2, by go_num, rfl, hx2l, HE⟩
          case measure => simp [intOf]; omega

theorem ref_bit (q c j : Nat) (hq : q < 4294967296) (hc : c < 256) : bits .and .u32 (bits .xor .u32 (q : Int) ((c : Int) / 2 ^ j)) 1 = (((q ^^^ c / 2 ^ j) % 2 : Nat) : Int) := by
  have h1 : c / 2 ^ j < 4294967296 := Nat.lt_of_le_of_lt (Nat.div_le_self _ _) (by omega)
  have e : (c : Int) / 2 ^ j = ((c / 2 ^ j : Nat) : Int) := by push_cast; rfl
  rw [e, u32_xor_nat _ _ hq h1, show (1 : Int) = ((1 : Nat) : Int) by rfl, u32_and_nat _ _ (Cp.xor_lt hq h1) (by omega), Nat.and_one_is_mod]
end Go.Proofs.YthmedpabgblddabGreatDoor.Cs
