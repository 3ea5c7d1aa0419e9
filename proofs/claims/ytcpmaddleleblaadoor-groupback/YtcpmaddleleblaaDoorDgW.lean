/-
  The contracts of digest's small functions: the turning of words, words and bytes, isMade.
-/
import Derived.Test.YtcpmaddleleblaaDoorRows
import Derived.Test.YtcpmaddleleblaaDoorDgK
import Derived.Laws.BitsAllLaws
import Derived.Laws.ShiftsVarLaws
import Derived.BigQuiet
namespace Go.Proofs.YtcpmaddleleblaaDoor.Dw
open Go.RowKit Kt Dk
set_option linter.unusedVariables false
set_option maxRecDepth 20000

theorem ret_int {k : IntKind} {a b : Int} (h : a = b) : Ending.returned (.int k a) = .returned (.int k b) := by rw [h]

theorem rotl_nat (x k : Nat) (hx : x < 4294967296) (h1 : 1 ≤ k) (h2 : k ≤ 31) : bits .or .u32 ((x : Int) * 2 ^ (32 - k) % 4294967296) ((x : Int) / 2 ^ k) = ((Dp.rotr k x : Nat) : Int) := by
  have e1 : (x : Int) * 2 ^ (32 - k) % 4294967296 = ((x * 2 ^ (32 - k) % 4294967296 : Nat) : Int) := by rw [Int.natCast_emod, Int.natCast_mul, Int.natCast_pow]; rfl
  have e2 : (x : Int) / 2 ^ k = ((x / 2 ^ k : Nat) : Int) := by rw [Int.natCast_ediv, Int.natCast_pow]; rfl
  rw [e1, e2, u32_or_nat _ _ (Nat.mod_lt _ (by decide)) (Dp.div_lt k hx), Nat.or_comm]
  rfl
theorem rotr_nat (x k : Nat) (hx : x < 4294967296) (h1 : 1 ≤ k) (h2 : k ≤ 31) : bits .or .u32 ((x : Int) / 2 ^ k) ((x : Int) * 2 ^ (32 - k) % 4294967296) = ((Dp.rotr k x : Nat) : Int) := by
  have e1 : (x : Int) * 2 ^ (32 - k) % 4294967296 = ((x * 2 ^ (32 - k) % 4294967296 : Nat) : Int) := by rw [Int.natCast_emod, Int.natCast_mul, Int.natCast_pow]; rfl
  have e2 : (x : Int) / 2 ^ k = ((x / 2 ^ k : Nat) : Int) := by rw [Int.natCast_ediv, Int.natCast_pow]; rfl
  rw [e1, e2, u32_or_nat _ _ (Dp.div_lt k hx) (Nat.mod_lt _ (by decide))]
  rfl

theorem rot_any (w : World) (x k : Nat) (hx : x < 4294967296) (h1 : 1 ≤ k) (h2 : k ≤ 31) :
    Calls Tryd.prog 98 #[.int .u32 x, .int .i64 (-(k : Int))] w fun e w' => e = .returned (.int .u32 (Dp.rotr k x : Nat)) ∧ w' = w := by
  have e1 : bits .and .u64 (IntKind.u64.wrap (-(k : Int))) 31 = ((32 - k : Nat) : Int) := by
    have : IntKind.u64.wrap (-(k : Int)) = ((18446744073709551616 - k : Nat) : Int) := by
      simp [IntKind.wrap, IntKind.bits, IntKind.signed]; omega
    rw [this, show (31 : Int) = ((31 : Nat) : Int) by rfl, u64_and_nat _ _ (by omega) (by omega), nat_mask5]
    omega
  have HR := mkH (rotl_nat x k hx h1 h2)
  obtain ⟨m, hm⟩ : ∃ m, 32 - k = m := ⟨_, rfl⟩
  have hk : k = 32 - m := by omega
  rw [hm] at e1 HR
  have hm1 : m ≤ 31 := by omega
  have hm2 : 1 ≤ m := by omega
  have HK : Hid (k = 32 - m) := hk
  clear hm hk
  go_enter Tryd.func98, Tryd.ntmps98
  go_wp2
  go_ret
  refine ⟨ret_int ?_, rfl⟩
  rw [← HR.out]
  congr 2
  rw [← HK.out]

theorem turn_any (w : World) (x k : Nat) (hx : x < 4294967296) (h1 : 1 ≤ k) (h2 : k ≤ 31) :
    Calls Tryd.prog 97 #[.int .u32 x, .int .i64 k] w fun e w' => e = .returned (.int .u32 (Dp.rotr k x : Nat)) ∧ w' = w := by
  go_enter Tryd.func97, Tryd.ntmps97
  go_wp2_with (go_at_call 98; refine (rot_any _ _ _ hx h1 h2).mono ?_; rintro e w' ⟨rfl, rfl⟩)
  go_ret
  exact ⟨rfl, rfl⟩

theorem big_nat (x i j k : Nat) (hx : x < 4294967296) : bits .xor .u32 (bits .xor .u32 ((Dp.rotr i x : Nat) : Int) ((Dp.rotr j x : Nat) : Int)) ((Dp.rotr k x : Nat) : Int) = ((Dp.big i j k x : Nat) : Int) := by
  have h1 := Dp.rotr_lt i hx
  have h2 := Dp.rotr_lt j hx
  have h3 := Dp.rotr_lt k hx
  rw [u32_xor_nat _ _ h1 h2, u32_xor_nat _ _ (Dp.xor_lt h1 h2) h3]; rfl
theorem lil_nat (x i j k : Nat) (hx : x < 4294967296) : bits .xor .u32 (bits .xor .u32 ((Dp.rotr i x : Nat) : Int) ((Dp.rotr j x : Nat) : Int)) ((x / 2 ^ k : Nat) : Int) = ((Dp.lil i j k x : Nat) : Int) := by
  have h1 := Dp.rotr_lt i hx
  have h2 := Dp.rotr_lt j hx
  have h3 := Dp.div_lt k hx
  rw [u32_xor_nat _ _ h1 h2, u32_xor_nat _ _ (Dp.xor_lt h1 h2) h3]; rfl

set_option maxHeartbeats 1000000 in
theorem turned_any (w : World) (x i j k : Nat) (hx : x < 4294967296) (hi : 1 ≤ i ∧ i ≤ 31) (hj : 1 ≤ j ∧ j ≤ 31) (hk : 1 ≤ k ∧ k ≤ 31) :
    Calls Tryd.prog 95 #[.int .u32 x, .int .i64 i, .int .i64 j, .int .i64 k] w fun e w' => e = .returned (.int .u32 (Dp.big i j k x : Nat)) ∧ w' = w := by
  have HR := mkH (big_nat x i j k hx)
  go_enter Tryd.func95, Tryd.ntmps95
  go_wp2_with fail
  refine (turn_any _ _ _ hx hi.1 hi.2).mono ?_
  rintro e w' ⟨rfl, rfl⟩
  go_wp2_with fail
  refine (turn_any _ _ _ hx hj.1 hj.2).mono ?_
  rintro e w' ⟨rfl, rfl⟩
  go_wp2_with fail
  refine (turn_any _ _ _ hx hk.1 hk.2).mono ?_
  rintro e w' ⟨rfl, rfl⟩
  go_wp2
  go_ret
  exact ⟨ret_int HR.out, rfl⟩

theorem word_nat (b0 b1 b2 b3 : Nat) (l0 : b0 < 256) (l1 : b1 < 256) (l2 : b2 < 256) (l3 : b3 < 256) :
    bits .or .u32 (bits .or .u32 (bits .or .u32 ((b0 : Int) * 16777216) ((b1 : Int) * 65536)) ((b2 : Int) * 256)) (b3 : Int) = ((b0 * 16777216 + b1 * 65536 + b2 * 256 + b3 : Nat) : Int) := by
  rw [show (b0 : Int) * 16777216 = ((b0 * 16777216 : Nat) : Int) by omega, show (b1 : Int) * 65536 = ((b1 * 65536 : Nat) : Int) by omega, show (b2 : Int) * 256 = ((b2 * 256 : Nat) : Int) by omega]
  rw [u32_or_nat _ _ (by omega) (by omega), nat_join 24 (b0 * 16777216) (b1 * 65536) (by omega) (by omega),
    u32_or_nat _ _ (by omega) (by omega), nat_join 16 _ (b2 * 256) (by omega) (by omega),
    u32_or_nat _ _ (by omega) (by omega), nat_join 8 _ b3 (by omega) (by omega)]

theorem word_any (w : World) (b off m c : Nat) (b0 b1 b2 b3 : Nat) (h0 : w.cell? ⟨b, off, none⟩ = some (.int .u8 b0)) (h1 : w.cell? ⟨b, off + 1, none⟩ = some (.int .u8 b1)) (h2 : w.cell? ⟨b, off + 2, none⟩ = some (.int .u8 b2)) (h3 : w.cell? ⟨b, off + 3, none⟩ = some (.int .u8 b3))
   (l0 : b0 < 256) (l1 : b1 < 256) (l2 : b2 < 256) (l3 : b3 < 256) (hm : 4 ≤ m) (hm2 : m ≤ 1000000) :
    Calls Tryd.prog 96 #[.slice (some ⟨b, off, none⟩) m c] w fun e w' => e = .returned (.int .u32 (b0 * 16777216 + b1 * 65536 + b2 * 256 + b3 : Nat)) ∧ ∃ n, w' = w.drewN n := by
  have HR := mkH (word_nat b0 b1 b2 b3 l0 l1 l2 l3)
  go_enter Tryd.func96, Tryd.ntmps96
  go_wp2
  go_quiet (fail)
  go_wp2
  go_ret
  exact ⟨ret_int HR.out, _, rfl⟩

theorem isMade_any (w : World) (b : Nat) (h : w.cell? ⟨b, 0, none⟩ = some (.bool true)) :
    Calls Tryd.prog 90 #[.pointer (some ⟨b, 0, none⟩)] w fun e w' => e = .returned (.bool true) ∧ w' = w := by
  go_enter Tryd.func90, Tryd.ntmps90
  go_wp2
  go_ret
  exact ⟨rfl, rfl⟩
theorem isMade_not (w : World) (b : Nat) (h : w.cell? ⟨b, 0, none⟩ = some (.bool false)) :
    Calls Tryd.prog 90 #[.pointer (some ⟨b, 0, none⟩)] w fun e w' => e = .returned (.bool false) ∧ w' = w := by
  go_enter Tryd.func90, Tryd.ntmps90
  go_wp2
  go_ret
  exact ⟨rfl, rfl⟩
theorem isMade_nil (w : World) :
    Calls Tryd.prog 90 #[.pointer none] w fun e w' => e = .returned (.bool false) ∧ w' = w := by
  go_enter Tryd.func90, Tryd.ntmps90
  go_wp2
  go_ret
  exact ⟨rfl, rfl⟩

theorem put4 (C : Array Value) (o : Nat) (v0 v1 v2 v3 : Value) (h : o + 4 ≤ C.size) : (((C.setIfInBounds o v0).setIfInBounds (o + 1) v1).setIfInBounds (o + 2) v2).setIfInBounds (o + 3) v3 = splice C o [v0, v1, v2, v3] := by
  apply Array.ext_getElem?
  intro i
  simp only [splice, List.getElem?_toArray, Array.getElem?_setIfInBounds, Array.size_setIfInBounds, List.length_cons, List.length_nil]
  simp only [List.append_assoc, List.getElem?_append, List.length_take, Array.length_toList, List.length_cons, List.length_nil, show min o C.size = o by omega, List.getElem?_take, List.getElem?_drop, Array.getElem?_toList]
  by_cases h1 : i < o
  · simp [h1, show o + 3 ≠ i by omega, show o + 2 ≠ i by omega, show o + 1 ≠ i by omega, show o ≠ i by omega]
  · by_cases h2 : i < o + 4
    · obtain h | h | h | h : i = o ∨ i = o + 1 ∨ i = o + 2 ∨ i = o + 3 := by omega
      · subst h; simp [show i < C.size by omega]
      · subst h; simp [show o + 1 < C.size by omega, show ¬ (o + 1 < o) by omega]
      · subst h; simp [show o + 2 < C.size by omega, show ¬ (o + 2 < o) by omega]
      · subst h; simp [show o + 3 < C.size by omega, show ¬ (o + 3 < o) by omega]
    · simp [h1, show o + 3 ≠ i by omega, show o + 2 ≠ i by omega, show o + 1 ≠ i by omega, show o ≠ i by omega, show ¬ (i - o < 4) by omega, show o + 4 + (i - o - 4) = i by omega]

theorem U_bytes4 (x : Nat) (hx : x < 4294967296) : U (Dp.bytes4 x) = [.int .u8 ((x : Int) / 16777216), .int .u8 ((x : Int) / 65536 % 256), .int .u8 ((x : Int) / 256 % 256), .int .u8 ((x : Int) % 256)] := by
  have h1 : (x : Int) / 16777216 = ((UInt8.ofNat (x / 16777216)).toNat : Int) := by rw [UInt8.toNat_ofNat']; omega
  have h2 : (x : Int) / 65536 % 256 = ((UInt8.ofNat (x / 65536)).toNat : Int) := by rw [UInt8.toNat_ofNat']; omega
  have h3 : (x : Int) / 256 % 256 = ((UInt8.ofNat (x / 256)).toNat : Int) := by rw [UInt8.toNat_ofNat']; omega
  have h4 : (x : Int) % 256 = ((UInt8.ofNat x).toNat : Int) := by rw [UInt8.toNat_ofNat']; omega
  simp only [U, Dp.bytes4, List.map_cons, List.map_nil]
  rw [← h1, ← h2, ← h3, ← h4]

set_option maxHeartbeats 1000000 in
theorem putWord_any (w : World) (b off m c x : Nat) (C : Array Value) (T : TypeId) (hg : w.heap[b]? = some (.cells C T (0, 0))) (hm : 4 ≤ m) (hm2 : m ≤ 1000000) (hC : off + 4 ≤ C.size) (hx : x < 4294967296) :
    Calls Tryd.prog 93 #[.slice (some ⟨b, off, none⟩) m c, .int .u32 x] w fun e w' => (∃ v, e = .returned v) ∧ w' = w.setRow b (splice C off (U (Dp.bytes4 x))) := by
  have HW : Hid ((((w.setCell ⟨b, off, none⟩ (.int .u8 ((x : Int) / 16777216))).setCell ⟨b, off + 1, none⟩ (.int .u8 ((x : Int) / 65536 % 256))).setCell ⟨b, off + 2, none⟩ (.int .u8 ((x : Int) / 256 % 256))).setCell ⟨b, off + 3, none⟩ (.int .u8 ((x : Int) % 256)) = w.setRow b (splice C off (U (Dp.bytes4 x)))) := by
    unfold Hid
    rw [setCell_eq_setRow w b off C T (0, 0) _ hg, setCell_eq_setRow _ b (off + 1) _ T (0, 0) _ (setRow_heap w b C _ T (0, 0) hg), setRow_setRow,
      setCell_eq_setRow _ b (off + 2) _ T (0, 0) _ (setRow_heap w b C _ T (0, 0) hg), setRow_setRow, setCell_eq_setRow _ b (off + 3) _ T (0, 0) _ (setRow_heap w b C _ T (0, 0) hg), setRow_setRow, put4 C off _ _ _ _ hC, ← U_bytes4 x hx]
  have c0 : ∃ v, w.cell? ⟨b, off, none⟩ = some v := ⟨_, by rw [cell_of_row w b off C T (0, 0) hg]; exact Array.getElem?_eq_getElem (by omega)⟩
  have c1 : ∃ v, w.cell? ⟨b, off + 1, none⟩ = some v := ⟨_, by rw [cell_of_row w b _ C T (0, 0) hg]; exact Array.getElem?_eq_getElem (by omega)⟩
  have c2 : ∃ v, w.cell? ⟨b, off + 2, none⟩ = some v := ⟨_, by rw [cell_of_row w b _ C T (0, 0) hg]; exact Array.getElem?_eq_getElem (by omega)⟩
  have c3 : ∃ v, w.cell? ⟨b, off + 3, none⟩ = some v := ⟨_, by rw [cell_of_row w b _ C T (0, 0) hg]; exact Array.getElem?_eq_getElem (by omega)⟩
  obtain ⟨v0, c0⟩ := c0
  obtain ⟨v1, c1⟩ := c1
  obtain ⟨v2, c2⟩ := c2
  obtain ⟨v3, c3⟩ := c3
  have hf : ∀ j, w.frozen? ⟨b, j, none⟩ = false := fun j => by simp [World.frozen?, hg]
  clear hg
  go_enter Tryd.func93, Tryd.ntmps93
  go_wp2
  refine bodyPost_end (results_none rfl _ _ _) rfl ?_
  exact ⟨⟨_, rfl⟩, HW.out⟩
end Go.Proofs.YtcpmaddleleblaaDoor.Dw
