/-
  A group's place: Of, of place and of the document's answer.
-/
import Derived.Test.YtabckkepkennhaaPlM
import Derived.Laws.BitsAllLaws
import Derived.Laws.ShiftsVarLaws
namespace Go.Proofs.Ytabckkepkennhaa.Po
open Go.RowKit Pl Pw
set_option linter.unusedVariables false
set_option maxRecDepth 20000

def fnv1 (h : Nat) (b : UInt8) : Nat := ((h ^^^ b.toNat) * 16777619) % 4294967296
def fnv (bs : List UInt8) : Nat := bs.foldl fnv1 2166136261
def fold16 (h : Nat) : Nat := (h / 65536) ^^^ (h % 65536)
def ofP (bs : List UInt8) : Nat := fold16 (fnv bs)
theorem foldl_lt {f : Nat → UInt8 → Nat} {m : Nat} (hf : ∀ h b, f h b < m) (bs : List UInt8) : ∀ h, h < m → bs.foldl f h < m := by
  induction bs with
  | nil => intro h hh; exact hh
  | cons b t ih => intro h _; exact ih _ (hf _ _)
theorem fnv1_lt (h : Nat) (b : UInt8) : fnv1 h b < 4294967296 := Nat.mod_lt _ (by decide)
theorem fnv_lt (bs : List UInt8) : fnv bs < 4294967296 := foldl_lt fnv1_lt bs _ (by decide)
theorem foldl_take {f : Nat → UInt8 → Nat} (z : Nat) (bs : List UInt8) (k : Nat) (h : k < bs.length) : (bs.take (k + 1)).foldl f z = f ((bs.take k).foldl f z) (bs.getD k 0) := by
  rw [List.take_add_one, List.foldl_append, List.getElem?_eq_getElem h]
  simp [List.getD, List.getElem?_eq_getElem h]
theorem fnv_snoc (bs : List UInt8) (k : Nat) (h : k < bs.length) : fnv (bs.take (k + 1)) = fnv1 (fnv (bs.take k)) (bs.getD k 0) := foldl_take 2166136261 bs k h
theorem fold16_lt (h : Nat) (hh : h < 4294967296) : fold16 h < 65536 := Nat.xor_lt_two_pow (n := 16) (by omega) (by omega)
theorem ofP_lt (bs : List UInt8) : ofP bs < 65536 := fold16_lt _ (fnv_lt bs)
theorem at_byte (s : ByteArray) (k : Nat) (h : k < s.size) : s.data.toList.getD k 0 = s[k] := by
  have h' : k < s.data.toList.length := h
  simp only [List.getD, List.getElem?_eq_getElem h', Option.getD_some]
  rfl
theorem step_u32 (F b : Nat) (hF : F < 4294967296) (hb : b < 256) : bits .xor .u32 (F : Int) ((b : Int) % 4294967296) * 16777619 % 4294967296 = (((F ^^^ b) * 16777619 % 4294967296 : Nat) : Int) := by
  rw [show (b : Int) % 4294967296 = (b : Int) by omega, u32_xor_nat F b hF (by omega)]
  omega
theorem fold_u32 (F : Nat) (hF : F < 4294967296) : wrap64 (bits .xor .u32 ((F : Int) / 65536) (bits .and .u32 (F : Int) 65535)) = ((fold16 F : Nat) : Int) := by
  have h1 := u32_and_nat F 65535 hF (by decide)
  rw [show ((65535 : Nat) : Int) = 65535 by rfl] at h1
  rw [h1, show (F : Int) / 65536 = ((F / 65536 : Nat) : Int) by omega, u32_xor_nat _ _ (by omega) (by rw [show (65535 : Nat) = 2 ^ 16 - 1 by rfl, Nat.and_two_pow_sub_one_eq_mod]; omega)]
  rw [show (65535 : Nat) = 2 ^ 16 - 1 by rfl, Nat.and_two_pow_sub_one_eq_mod]
  have := fold16_lt F hF
  unfold fold16 at this ⊢
  rw [show (2 : Nat) ^ 16 = 65536 by rfl]
  unfold wrap64; omega

set_option maxHeartbeats 1000000 in
theorem of_any (w : World) (s : ByteArray) (hs : s.size ≤ 9223372036854775807) :
    Calls Try.prog 59 #[.string s] w fun e w' => e = .returned (.int .i64 ((ofP s.data.toList : Nat) : Int)) ∧ w' = w := by
  go_enter Try.func59, Try.ntmps59
  go_wp2
  go_loop [3, 7] (fun h i => ∃ k : Nat, k ≤ s.size ∧ i = .int .i64 k ∧ h = .int .u32 ((fnv (s.data.toList.take k) : Nat) : Int)) (fun _ i => s.size - (intOf i).toNat)
  case atStart => exact ⟨0, Nat.zero_le _, rfl, rfl⟩
  case round =>
    obtain ⟨k, hk, rfl, rfl⟩ := hrel
    have hb := fnv_lt (s.data.toList.take k)
    generalize hF : fnv (s.data.toList.take k) = F at hb ⊢
    have HF := mkH hF
    clear hF
    go_wp2
    · have hlt : k < s.size := by assumption
      go_round
      case rel =>
        refine ⟨k + 1, by omega, by go_num, ?_⟩
        rw [fnv_snoc _ k hlt, HF.out, at_byte s k hlt]
        exact congrArg (Value.int .u32) (step_u32 F s[k].toNat hb (UInt8.toNat_lt _))
      case measure => simp [intOf]; omega
    · have hge : ¬ k < s.size := by assumption
      have : k = s.size := by omega
      subst this
      go_ret
      refine ⟨?_, rfl⟩
      have h1 := HF.out
      rw [List.take_of_length_le (show s.data.toList.length ≤ s.size from Nat.le_refl _)] at h1
      rw [ofP, h1]
      exact congrArg (fun z => Ending.returned (Value.int .i64 z)) (fold_u32 F hb)

theorem xor_odd (a b : Nat) : (a ^^^ b) % 2 = (a % 2 + b % 2) % 2 := by
  have h := Nat.xor_mod_two_pow (a := a) (b := b) (n := 1)
  rw [Nat.pow_one] at h
  rw [h]
  rcases Nat.mod_two_eq_zero_or_one a with ha | ha <;> rcases Nat.mod_two_eq_zero_or_one b with hb | hb <;> rw [ha, hb] <;> rfl
/-- The lowest bits of what two differ in, one more. -/
theorem xor_step (a b n : Nat) : (a ^^^ b) % 2 ^ (n + 1) = if a / 2 ^ n % 2 = b / 2 ^ n % 2 then (a ^^^ b) % 2 ^ n else (a ^^^ b) % 2 ^ n + 2 ^ n := by
  rw [Nat.mod_pow_succ]
  have h : (a ^^^ b) / 2 ^ n % 2 = (a / 2 ^ n % 2 + b / 2 ^ n % 2) % 2 := by
    rw [← xor_odd, Nat.xor_div_two_pow]
  rw [h]
  rcases Nat.mod_two_eq_zero_or_one (a / 2 ^ n) with ha | ha <;> rcases Nat.mod_two_eq_zero_or_one (b / 2 ^ n) with hb | hb <;> rw [ha, hb] <;> simp
theorem xor_low (h : Nat) (b : Nat) (hb : b < 256) : h ^^^ b = h - h % 256 + ((h % 256) ^^^ b) := by
  have e1 : (h ^^^ b) / 256 = h / 256 := by
    have := Nat.xor_div_two_pow (a := h) (b := b) (n := 8)
    rw [show (2 : Nat) ^ 8 = 256 by rfl] at this
    rw [this, Nat.div_eq_of_lt hb, Nat.xor_zero]
  have e2 : (h ^^^ b) % 256 = (h % 256) ^^^ b := by
    have := Nat.xor_mod_two_pow (a := h) (b := b) (n := 8)
    rw [show (2 : Nat) ^ 8 = 256 by rfl] at this
    rw [this, Nat.mod_eq_of_lt hb]
  have := Nat.div_add_mod (h ^^^ b) 256
  rw [e1, e2] at this
  omega

theorem wrap_small (D : Nat) (h : D < 65536) : IntKind.i64.wrap (D : Int) = (D : Int) := by
  rw [IntKind.wrap_i64]
  omega
theorem bit_one (L K : Nat) (hL : L < 65536) : (IntKind.i64.wrap ((L : Int) / (K : Int))).tmod 2 = ((L / K % 2 : Nat) : Int) := by
  have h1 := Nat.div_le_self L K
  rw [← Int.natCast_ediv]
  generalize L / K = D at h1 ⊢
  rw [wrap_small D (by omega), Int.tmod_eq_emod_of_nonneg (by omega)]
  omega
theorem bit_test (L x K : Nat) (hL : L < 65536) (hx : x < 65536) : ((IntKind.i64.wrap ((L : Int) / (K : Int))).tmod 2 != (IntKind.i64.wrap ((x : Int) / (K : Int))).tmod 2) = decide (¬ L / K % 2 = x / K % 2) := by
  rw [bit_one L K hL, bit_one x K hx, Bool.eq_iff_iff, decide_eq_true_eq, bne_iff_ne]
  generalize L / K % 2 = D
  generalize x / K % 2 = E
  omega

theorem of_a : ofP [97] = 52512 := by decide +kernel
theorem split_010 : splitV (0, 10) 4 = .tuple #[R (0, 4), R (4, 10), .int .i64 0] := by
  unfold splitV
  rw [if_pos (by decide)]
theorem in_49 : inn (4, 10) 9 = true := by decide
end Go.Proofs.Ytabckkepkennhaa.Po
