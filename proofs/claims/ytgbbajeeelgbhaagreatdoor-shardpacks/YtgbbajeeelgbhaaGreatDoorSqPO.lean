/-
  PlO, joined by mrg.py.
-/
import Derived.Test.YtgbbajeeelgbhaaGreatDoorSqPM
import Derived.Laws.BitsAllLaws
import Derived.Laws.ShiftsVarLaws

namespace Go.Proofs.YtgbbajeeelgbhaaGreatDoor.Po
open Go.RowKit Pl Pw
set_option linter.unusedVariables false
set_option maxRecDepth 20000

def fnv1 (h : Nat) (b : UInt8) : Nat := ((h ^^^ b.toNat) * 16777619) % 4294967296
def fnv (bs : List UInt8) : Nat := bs.foldl fnv1 2166136261
def fold16 (h : Nat) : Nat := (h / 65536) ^^^ (h % 65536)
def ofP (bs : List UInt8) : Nat := fold16 (fnv bs)
theorem foldl_lt {f : Nat → UInt8 → Nat} {m : Nat} (hf : ∀ h b, f h b < m) (bs : List UInt8) : ∀ h, h < m → bs.foldl f h < m := by
  induction bs with
  | nil => intro h hh; exact hh
  | cons b t ih => intro h _; exact ih _ (hf _ _)
theorem fnv1_lt (h : Nat) (b : UInt8) : fnv1 h b < 4294967296 := Nat.mod_lt _ (by decide)
theorem fnv_lt (bs : List UInt8) : fnv bs < 4294967296 := foldl_lt fnv1_lt bs _ (by decide)
theorem foldl_take {f : Nat → UInt8 → Nat} (z : Nat) (bs : List UInt8) (k : Nat) (h : k < bs.length) : (bs.take (k + 1)).foldl f z = f ((bs.take k).foldl f z) (bs.getD k 0) := by
  rw [List.take_add_one, List.foldl_append, List.getElem?_eq_getElem h]
  simp [List.getD, List.getElem?_eq_getElem h]
theorem fnv_snoc (bs : List UInt8) (k : Nat) (h : k < bs.length) : fnv (bs.take (k + 1)) = fnv1 (fnv (bs.take k)) (bs.getD k 0) := foldl_take 2166136261 bs k h
theorem fold16_lt (h : Nat) (hh : h < 4294967296) : fold16 h < 65536 := Nat.xor_lt_two_pow (n := 16) (by omega) (by omega)
theorem ofP_lt (bs : List UInt8) : ofP bs < 65536 := fold16_lt _ (fnv_lt bs)
theorem at_byte (s : ByteArray) (k : Nat) (h : k < s.size) : s.data.toList.getD k 0 = s[k] := by
  have h' : k < s.data.toList.length := h
  simp only [List.getD, List.getElem?_eq_getElem h', Option.getD_some]
  rfl
theorem step_u32 (F b : Nat) (hF : F < 4294967296) (hb : b < 256) : bits .xor .u32 (F : Int) ((b : Int) % 4294967296) * 16777619 % 4294967296 = (((F ^^^ b) * 16777619 % 4294967296 : Nat) : Int) := by
  rw [show (b : Int) % 4294967296 = (b : Int) by omega, u32_xor_nat F b hF (by omega)]
  omega
theorem fold_u32 (F : Nat) (hF : F < 4294967296) : wrap64 (bits .xor .u32 ((F : Int) / 65536) (bits .and .u32 (F : Int) 65535)) = ((fold16 F : Nat) : Int) := by
  have h1 := u32_and_nat F 65535 hF (by decide)
  rw [show ((65535 : Nat) : Int) = 65535 by rfl] at h1
  rw [h1, show (F : Int) / 65536 = ((F / 65536 : Nat) : Int) by omega, u32_xor_nat _ _ (by omega) (by rw [show (65535 : Nat) = 2 ^ 16 - 1 by rfl, Nat.and_two_pow_sub_one_eq_mod]; omega)]
  rw [show (65535 : Nat) = 2 ^ 16 - 1 by rfl, Nat.and_two_pow_sub_one_eq_mod]
  have := fold16_lt F hF
  unfold fold16 at this ⊢
  rw [show (2 : Nat) ^ 16 = 65536 by rfl]
  unfold wrap64; omega

set_option maxHeartbeats 1000000 in
theorem of_any (w : World) (s : ByteArray) (hs : s.size ≤ 9223372036854775807) :
    Calls Tryz.prog 176 #[.string s] w fun e w' => e = .returned (.int .i64 ((ofP s.data.toList : Nat) : Int)) ∧ w' = w := by
  go_enter Tryz.func176, Tryz.ntmps176
  go_wp2
  go_loop [3, 7] (fun h i => ∃ k : Nat, k ≤ s.size ∧ i = .int .i64 k ∧ h = .int .u32 ((fnv (s.data.toList.take k) : Nat) : Int)) (fun _ i => s.size - (intOf i).toNat)
  case atStart => exact ⟨0, Nat.zero_le _, rfl, rfl⟩
  case round =>
    obtain ⟨k, hk, rfl, rfl⟩ := hrel
    have hb := fnv_lt (s.data.toList.take k)
    generalize hF : fnv (s.data.toList.take k) = F at hb ⊢
    have HF := mkH hF
    clear hF
    go_wp2
    · have hlt : k < s.size := by assumption
      go_round
      case rel =>
        refine ⟨k + 1, by omega, by go_num, ?_⟩
        rw [fnv_snoc _ k hlt, HF.out, at_byte s k hlt]
        exact congrArg (Value.int .u32) (step_u32 F s[k].toNat hb (UInt8.toNat_lt _))
      case measure => simp [intOf]; omega
    · have hge : ¬ k < s.size := by assumption
      have : k = s.size := by omega
      subst this
      go_ret
      refine ⟨?_, rfl⟩
      have h1 := HF.out
      rw [List.take_of_length_le (show s.data.toList.length ≤ s.size from Nat.le_refl _)] at h1
      rw [ofP, h1]
      exact congrArg (fun z => Ending.returned (Value.int .i64 z)) (fold_u32 F hb)

theorem xor_odd (a b : Nat) : (a ^^^ b) % 2 = (a % 2 + b % 2) % 2 := by
  have h := Nat.xor_mod_two_pow (a := a) (b := b) (n := 1)
  rw [Nat.pow_one] at h
  rw [h]
  rcases Nat.mod_two_eq_zero_or_one a with ha | ha <;> rcases Nat.mod_two_eq_zero_or_one b with hb | hb <;> rw [ha, hb] <;> rfl
/-- The lowest bits of what two differ in, one more. -/
theorem xor_step (a b n : Nat) : (a ^^^ b) % 2 ^ (n + 1) = if a / 2 ^ n % 2 = b / 2 ^ n % 2 then (a ^^^ b) % 2 ^ n else (a ^^^ b) % 2 ^ n + 2 ^ n := by
  rw [Nat.mod_pow_succ]
  have h : (a ^^^ b) / 2 ^ n % 2 = (a / 2 ^ n % 2 + b / 2 ^ n % 2) % 2 := by
    rw [← xor_odd, Nat.xor_div_two_pow]
  rw [h]
  rcases Nat.mod_two_eq_zero_or_one (a / 2 ^ n) with ha | ha <;> rcases Nat.mod_two_eq_zero_or_one (b / 2 ^ n) with hb | hb <;> rw [ha, hb] <;> simp
theorem xor_low (h : Nat) (b : Nat) (hb : b < 256) : h ^^^ b = h - h % 256 + ((h % 256) ^^^ b) := by
  have e1 : (h ^^^ b) / 256 = h / 256 := by
    have := Nat.xor_div_two_pow (a := h) (b := b) (n := 8)
    rw [show (2 : Nat) ^ 8 = 256 by rfl] at this
    rw [this, Nat.div_eq_of_lt hb, Nat.xor_zero]
  have e2 : (h ^^^ b) % 256 = (h % 256) ^^^ b := by
    have := Nat.xor_mod_two_pow (a := h) (b := b) (n := 8)
    rw [show (2 : Nat) ^ 8 = 256 by rfl] at this
    rw [this, Nat.mod_eq_of_lt hb]
  have := Nat.div_add_mod (h ^^^ b) 256
  rw [e1, e2] at this
  omega

theorem wrap_small (D : Nat) (h : D < 65536) : IntKind.i64.wrap (D : Int) = (D : Int) := by
  rw [IntKind.wrap_i64]
  omega
theorem bit_one (L K : Nat) (hL : L < 65536) : (IntKind.i64.wrap ((L : Int) / (K : Int))).tmod 2 = ((L / K % 2 : Nat) : Int) := by
  have h1 := Nat.div_le_self L K
  rw [← Int.natCast_ediv]
  generalize L / K = D at h1 ⊢
  rw [wrap_small D (by omega), Int.tmod_eq_emod_of_nonneg (by omega)]
  omega
theorem bit_test (L x K : Nat) (hL : L < 65536) (hx : x < 65536) : ((IntKind.i64.wrap ((L : Int) / (K : Int))).tmod 2 != (IntKind.i64.wrap ((x : Int) / (K : Int))).tmod 2) = decide (¬ L / K % 2 = x / K % 2) := by
  rw [bit_one L K hL, bit_one x K hx, Bool.eq_iff_iff, decide_eq_true_eq, bne_iff_ne]
  generalize L / K % 2 = D
  generalize x / K % 2 = E
  omega

theorem bit_test6 (L x K : Nat) (hL : L < 65536) (hx : x < 65536) : ((wrap64 ((L : Int) / (K : Int))).tmod 2 != (wrap64 ((x : Int) / (K : Int))).tmod 2) = decide (¬ L / K % 2 = x / K % 2) := by
  have h := bit_test L x K hL hx
  rw [IntWalk.i64_left, IntWalk.i64_left] at h
  exact h

set_option maxHeartbeats 2000000 in
theorem rof_any (w : World) (s : ByteArray) (hs : s.size ≤ 9223372036854775807) :
    Calls Tryz.prog 129 #[.string s] w fun e w' => e = .returned (.int .i64 ((ofP s.data.toList : Nat) : Int)) ∧ ∃ q, w' = w.drewN q := by
  go_enter Tryz.func129, Tryz.ntmps129
  go_wp2
  go_loopw [3, 4] (fun h i wr => ∃ k q : Nat, k ≤ s.size ∧ i = .int .i64 k ∧ h = .int .i64 ((fnv (s.data.toList.take k) : Nat) : Int) ∧ wr = w.drewN q) (fun _ i _ => s.size - (intOf i).toNat)
  case atStart => exact ⟨0, 0, Nat.zero_le _, rfl, rfl, rfl⟩
  case round =>
    obtain ⟨k, q, hk, rfl, rfl, rfl⟩ := hrel
    have hb := fnv_lt (s.data.toList.take k)
    generalize hF : fnv (s.data.toList.take k) = F at hb ⊢
    have HF := mkH hF
    clear hF
    generalize hwq : w.drewN q = wq
    have HW := mkH hwq
    clear hwq
    by_cases hlt : k < s.size
    · have HB := mkH (at_byte s k hlt)
      obtain ⟨x, hxe⟩ : ∃ x, s[k].toNat = x := ⟨_, rfl⟩
      have hx := UInt8.toNat_lt s[k]
      rw [hxe] at hx
      have HX := mkH hxe
      have e6 : Hid (wrap64 ((s[k].toNat : Nat) : Int) = (x : Int)) := mkH (by rw [hxe]; unfold wrap64; omega)
      clear hxe
      obtain ⟨L, hL⟩ : ∃ L, L = F % 256 := ⟨_, rfl⟩
      have hL2 : Hid ((F : Int) % 256 = (L : Int)) := mkH (by omega)
      have hL3 : L < 256 := by omega
      have HL := mkH hL
      clear hL
      go_wp2
      simp only [hL2.out, e6.out]
      go_loopw [7, 8] (fun b kk wr => ∃ i q : Nat, i ≤ 8 ∧ kk = .int .i64 ((2 ^ i : Nat) : Int) ∧ b = .int .i64 (((L ^^^ x) % 2 ^ i : Nat) : Int) ∧ wr = wq.drewN q) (fun _ kk _ => 256 - (intOf kk).toNat)
      case atStart => exact ⟨0, 0, by omega, rfl, by rw [Nat.pow_zero, Nat.mod_one]; rfl, rfl⟩
      case round =>
        obtain ⟨i, q2, hi, rfl, rfl, rfl⟩ := hrel
        have hp := Nat.two_pow_pos i
        have HK2 : Hid (2 ^ (i + 1) = 2 ^ i * 2) := mkH (Nat.pow_succ ..)
        have HST := mkH (xor_step L x i)
        have hXB : (L ^^^ x) % 2 ^ i < 2 ^ i := Nat.mod_lt _ hp
        generalize hwr : wq.drewN q2 = wr2
        have HW2 := mkH hwr
        clear hwr
        by_cases h8 : i < 8
        · have hK : 2 ^ i ≤ 128 := Nat.pow_le_pow_right (n := 2) (by omega) (show i ≤ 7 by omega)
          generalize hXe : (L ^^^ x) % 2 ^ i = X at hXB HST
          generalize 2 ^ i = K at hp HK2 HST hXB hK
          have hk0 : ¬ K = 0 := by omega
          go_wp2_with fail
          have HT := mkH (bit_test6 L x K (by omega) (by omega))
          go_quiet (fail)
          by_cases ht : L / K % 2 = x / K % 2
          · rw [HT.out, decide_eq_false (show ¬ ¬ L / K % 2 = x / K % 2 from fun h => h ht)]
            rw [if_pos ht] at HST
            clear ht HT
            go_wp2
            go_roundw
            case rel => exact ⟨i + 1, q2 + nq, by omega, by rw [HK2.out]; go_num, by rw [HST.out], by rw [← HW2.out, World.drewN_drewN]⟩
            case measure => simp [intOf]; omega
          · rw [HT.out, decide_eq_true (show ¬ L / K % 2 = x / K % 2 from ht)]
            rw [if_neg ht] at HST
            clear ht HT
            go_wp2
            go_roundw
            case rel => exact ⟨i + 1, q2 + nq, by omega, by rw [HK2.out]; go_num, by rw [HST.out]; go_num, by rw [← HW2.out, World.drewN_drewN]⟩
            case measure => simp [intOf]; omega
        · have : i = 8 := by omega
          subst this
          have HX8 := mkH (Nat.mod_eq_of_lt (show L ^^^ x < 2 ^ 8 from Nat.xor_lt_two_pow (n := 8) (by omega) (by omega)))
          rw [HX8.out]
          have hX9 : L ^^^ x < 256 := Nat.xor_lt_two_pow (n := 8) (by omega) (by omega)
          have HXL := mkH (xor_low F x (by omega))
          rw [← HL.out] at HXL
          clear HST HK2 hXB HX8
          generalize L ^^^ x = X at hX9 HXL
          go_wp2
          go_roundw
          case rel =>
            refine ⟨k + 1, q + q2, by omega, by go_num, ?_, by rw [← HW2.out, ← HW.out, World.drewN_drewN]⟩
            rw [fnv_snoc _ k hlt, HF.out, HB.out]
            refine congrArg (Value.int .i64) ?_
            unfold fnv1
            rw [HX.out, HXL.out]
            have := Nat.mod_le F 256
            rw [← HL.out] at this
            rw [Int.tmod_eq_emod_of_nonneg (by omega)]
            omega
          case measure => simp [intOf]; omega
    · have : k = s.size := by omega
      subst this
      obtain ⟨A, hA⟩ : ∃ A, A = F / 65536 := ⟨_, rfl⟩
      obtain ⟨B, hB⟩ : ∃ B, B = F % 65536 := ⟨_, rfl⟩
      have hA2 : Hid ((F : Int) / 65536 = (A : Int)) := mkH (by omega)
      have hB2 : Hid ((F : Int) % 65536 = (B : Int)) := mkH (by omega)
      have hA3 : A < 65536 := by omega
      have hB3 : B < 65536 := by omega
      have HE : Hid (A ^^^ B = ofP s.data.toList) := mkH (by
        have h1 := HF.out
        rw [List.take_of_length_le (show s.data.toList.length ≤ s.size from Nat.le_refl _)] at h1
        rw [ofP, h1, fold16, hA, hB])
      clear hA hB HF hb
      go_wp2
      have e9 : wrap64 (A : Int) = (A : Int) := by unfold wrap64; omega
      simp only [hA2.out, hB2.out, e9]
      clear e9
      go_loopg [11, 12] 16 (fun gg b kk wr => ∃ i q : Nat, i ≤ 16 ∧ 16 - i ≤ gg ∧ kk = .int .i64 ((2 ^ i : Nat) : Int) ∧ b = .int .i64 (((A ^^^ B) % 2 ^ i : Nat) : Int) ∧ wr = wq.drewN q)
      case atStart => exact ⟨0, 0, by omega, by omega, rfl, by rw [Nat.pow_zero, Nat.mod_one]; rfl, rfl⟩
      case round =>
        obtain ⟨i, q2, hi, hgi, rfl, rfl, rfl⟩ := hrel
        have hp := Nat.two_pow_pos i
        have HK2 : Hid (2 ^ (i + 1) = 2 ^ i * 2) := mkH (Nat.pow_succ ..)
        have HST := mkH (xor_step A B i)
        have hXB : (A ^^^ B) % 2 ^ i < 2 ^ i := Nat.mod_lt _ hp
        generalize hwr : wq.drewN q2 = wr2
        have HW2 := mkH hwr
        clear hwr
        by_cases h8 : i < 16
        · have hK : 2 ^ i ≤ 32768 := Nat.pow_le_pow_right (n := 2) (by omega) (show i ≤ 15 by omega)
          generalize hXe : (A ^^^ B) % 2 ^ i = X at hXB HST
          clear hXe
          generalize 2 ^ i = K at hp HK2 HST hXB hK
          have hk0 : ¬ K = 0 := by omega
          have HT := mkH (bit_test6 A B K (by omega) (by omega))
          have hKi : (K : Int) ≤ 32768 := by omega
          have hXi : (X : Int) < (K : Int) := by omega
          have hki : (0 : Int) < (K : Int) := by omega
          have ht1 : (K : Int) < 65536 := by omega
          clear hK hXB hp hA3 hB3
          go_wp2_with fail
          go_quiet (fail)
          by_cases ht : A / K % 2 = B / K % 2
          · rw [HT.out, decide_eq_false (fun h => h ht)]
            rw [if_pos ht] at HST
            clear ht HT
            go_wp2
            go_roundg (16 - (i + 1))
            case rel => exact ⟨i + 1, q2 + nq, by omega, by omega, by rw [HK2.out]; go_num, by rw [HST.out], by rw [← HW2.out, World.drewN_drewN]⟩
            case measure => omega
          · rw [HT.out, decide_eq_true ht]
            rw [if_neg ht] at HST
            clear ht HT
            go_wp2
            go_roundg (16 - (i + 1))
            case rel => exact ⟨i + 1, q2 + nq, by omega, by omega, by rw [HK2.out]; go_num, by rw [HST.out]; go_num, by rw [← HW2.out, World.drewN_drewN]⟩
            case measure => omega
        · have : i = 16 := by omega
          subst this
          have hX8 := Nat.mod_eq_of_lt (show A ^^^ B < 2 ^ 16 from Nat.xor_lt_two_pow (n := 16) (by omega) (by omega))
          rw [hX8, HE.out]
          clear HST HK2 hXB hX8
          go_wp2
          go_ret
          exact ⟨rfl, q + q2, by rw [← HW2.out, ← HW.out, World.drewN_drewN]⟩

theorem of_a : ofP [97] = 52512 := by decide +kernel
theorem split_010 : splitV (0, 10) 4 = .tuple #[R (0, 4), R (4, 10), .int .i64 0] := by
  unfold splitV
  rw [if_pos (by decide)]
theorem in_49 : inn (4, 10) 9 = true := by decide
end Go.Proofs.YtgbbajeeelgbhaaGreatDoor.Po
