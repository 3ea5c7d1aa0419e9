/-
  The contracts of the document's own functions: its constants, its bytes up to whole blocks, its words.
-/
import Derived.Test.YtbemindfmghjdaaDoorDgW
import Derived.Deep.RegionHeld3
namespace Go.Proofs.YtbemindfmghjdaaDoor.Dr
open Go.RowKit Kt Dk Dw
set_option linter.unusedVariables false
set_option maxRecDepth 20000

/-- An owned row of words. -/
def OwnW (w : World) (base : Nat) (v : Value) (l : List Nat) : Prop := w.ownsRow base 137 1 v l.length (W32 l)
theorem info5 : (Tryd.prog.info? 5).map (fun i => (i.zero, i.size, i.bytes)) = some (some (.int .u8 0), 1, 1) := by kernel_rfl
theorem info38 : (Tryd.prog.info? 137).map (fun i => (i.zero, i.size, i.bytes)) = some (some (.int .u32 0), 1, 4) := by kernel_rfl

/-- A row of words that was just laid. -/
theorem own_made (w : World) (l : List Nat) (n : Nat) (hn : l.length = n) (h1 : n ≤ 1000) : (w.alloc (.cells (W32 l).toArray 137)).ownsRow w.heap.size 137 1 (.slice (some ⟨w.heap.size, 0, none⟩) n n) n (W32 l) := by
  subst hn
  refine ⟨by rw [W32_length]; omega, .inr ⟨_, _, _, rfl, Nat.le_refl _, heap_alloc_new _ _, Nat.le_refl _, ?_, ?_, ?_⟩⟩
  · unfold maxLen; omega
  · simp [W32]
  · exact List.take_of_length_le (by simp [W32])

set_option maxHeartbeats 2000000 in
theorem rounds_any (w : World) : Calls Tryd.prog 88 #[] w fun e w' => ∃ v, e = .returned v ∧ OwnW w' w.heap.size v Dp.KT ∧ Below w.heap.size w w' := by
  go_enter Tryd.func88, Tryd.ntmps88
  go_wp2
  go_ret
  exact ⟨_, rfl, own_made w Dp.KT 64 rfl (by decide), (Below.refl _ w).alloc (Nat.le_refl _) _⟩

theorem len8_at (n : Nat) (hn : n ≤ 100000) (k : Nat) (hk : k < 8) : (Dp.len8 n)[k]? = some (UInt8.ofNat (n * 8 / 2 ^ (8 * (7 - k)))) := by
  obtain h | h | h | h | h | h | h | h : k = 0 ∨ k = 1 ∨ k = 2 ∨ k = 3 ∨ k = 4 ∨ k = 5 ∨ k = 6 ∨ k = 7 := by omega
  all_goals
    subst h
    simp only [Dp.len8, Dp.bytes4, List.cons_append, List.nil_append, List.getElem?_cons_zero, List.getElem?_cons_succ]
    try (refine congrArg some (congrArg UInt8.ofNat ?_); (try simp only [Nat.reduceMul, Nat.reduceSub, Nat.reducePow]); (try omega))
/-- The bytes, 0x80, and k noughts. -/
def pz (bs : List UInt8) (k : Nat) : List UInt8 := bs ++ ([128] ++ List.replicate k 0)
theorem pz_zero (bs : List UInt8) : bs ++ [128] = pz bs 0 := by simp [pz]
theorem pz_succ (bs : List UInt8) (k : Nat) : pz bs k ++ [0] = pz bs (k + 1) := by
  unfold pz
  rw [List.append_assoc, List.append_assoc, ← List.replicate_succ']
theorem pz_length (bs : List UInt8) (k : Nat) : (pz bs k).length = bs.length + 1 + k := by simp [pz]; omega
/-- .. and the first j bytes of the number of bits. -/
def p8 (bs : List UInt8) (k j : Nat) : List UInt8 := pz bs k ++ (Dp.len8 bs.length).take j
theorem p8_zero (bs : List UInt8) (k : Nat) : p8 bs k 0 = pz bs k := by simp [p8]
theorem p8_succ (bs : List UInt8) (hn : bs.length ≤ 100000) (k j m : Nat) (h : j + (m + 1) = 8) : p8 bs k j ++ [UInt8.ofNat (bs.length * 8 / 2 ^ (8 * m))] = p8 bs k (j + 1) := by
  have h1 := len8_at bs.length hn j (by omega)
  rw [show 7 - j = m by omega] at h1
  unfold p8
  rw [List.take_add_one, h1, List.append_assoc]
  rfl
theorem p8_all (bs : List UInt8) : p8 bs (Dp.padz bs.length) 8 = Dp.padded bs := by
  unfold p8 pz Dp.padded
  rw [List.take_of_length_le (by rw [Dp.len8_length]; omega)]
  simp
theorem padz_lt (n : Nat) : Dp.padz n < 64 := Nat.mod_lt _ (by decide)

set_option maxHeartbeats 2000000 in
theorem padded_any (w : World) (ao : Option Addr) (cap : Nat) (bs : List UInt8) (hr : Row w ao bs) (hn : bs.length ≤ 100000) :
    Calls Tryd.prog 89 #[.slice ao bs.length cap] w fun e w' => ∃ v, e = .returned v ∧ w'.ownsRow w.heap.size 5 1 v (Dp.padded bs).length (U (Dp.padded bs)) ∧ Below w.heap.size w w' := by
  go_enter Tryd.func89, Tryd.ntmps89
  go_wp2_with (at_builtin; refine (wpList_append_own_src _ rfl (.tmp 6) (.tmp 7) 72 72 rfl w.heap.size 5 (.int .u8 0) 1 1 Tryd.underlying72 info5 rfl (by decide) _ 0 [] rfl (World.ownsRow_made w #[] 0 (Nat.le_refl _) (Nat.zero_le _) rfl) _ bs.length (U bs) rfl ?hsrc ?h63 ?hby ?hbs ?_))
  case hsrc => exact Row.src (P := Tryd.prog) Tryd.underlying72 (hr.below ((Below.refl _ w).alloc (Nat.le_refl _) _)) cap
  case h63 => unfold maxLen; omega
  case hby => omega
  case hbs => simp
  intro v1 w1 hown1 hgrow1
  have hb1 := below_own (World.ownsRow_made (e := 5) (size := 1) w #[] 0 (Nat.le_refl _) (Nat.zero_le _) rfl) hgrow1 ((Below.refl _ w).alloc (Nat.le_refl _) (.cells #[] 5)) (by simp)
  have hown1 : w1.ownsRow w.heap.size 5 1 v1 bs.length (U bs) := by simpa using hown1
  clear hgrow1
  go_wp2_with (at_builtin; refine (wpList_append_own_src _ rfl (.tmp 8) (.tmp 9) 72 72 rfl w.heap.size 5 (.int .u8 0) 1 1 Tryd.underlying72 info5 rfl (by decide) _ bs.length _ rfl (hown1.alloc _) _ 1 (U [128]) rfl (src_one Tryd.underlying72 _ _ _ rfl) ?h632 ?hby2 ?hbs2 ?_))
  case h632 => unfold maxLen; omega
  case hby2 => omega
  case hbs2 => have := hb1.size; simp; omega
  intro v2 w2 hown2 hgrow2
  have hb2 := below_own (hown1.alloc _) hgrow2 (hb1.alloc hb1.size _) (by have := hb1.size; simp; omega)
  rw [← U_append] at hown2
  clear hown1 hgrow2 hb1
  have hp64 := padz_lt bs.length
  have hpz : (bs.length + 1 + Dp.padz bs.length) % 64 = 56 := by unfold Dp.padz; omega
  have hpn : ∀ k, k < Dp.padz bs.length → (bs.length + 1 + k) % 64 ≠ 56 := by intro k hk; unfold Dp.padz at hk; omega
  have HPZ := mkH hpz
  have HPN := mkH hpn
  clear hpz hpn
  go_wp2
  go_loopw [3] (fun v W => ∃ k : Nat, k ≤ Dp.padz bs.length ∧ W.ownsRow w.heap.size 5 1 v (bs.length + 1 + k) (U (pz bs k)) ∧ Below w.heap.size w W ∧ ∃ ao cap, v = .slice ao (bs.length + 1 + k) cap) (fun v _ => 1000000 - (match v with | .slice _ n _ => n | _ => 0))
  case atStart => exact ⟨0, Nat.zero_le _, by rw [← pz_zero]; exact hown2, hb2, own_form hown2⟩
  case round =>
    clear hown2 hb2
    obtain ⟨k, hk, hown, hb, ao2, cap2, rfl⟩ := hrel
    by_cases hlt : k = Dp.padz bs.length
    · have h1 := HPZ.out
      rw [← hlt] at h1
      have t0 : ((((bs.length + 1 + k : Nat) : Int) % 64) != 56) = false := by simp; omega
      obtain ⟨N, hN⟩ : ∃ N, bs.length + 1 + k = N := ⟨_, rfl⟩
      rw [hN] at hown t0 ⊢
      have HN : Hid (bs.length + 1 + k = N) := hN
      have hNb : N ≤ 200000 := by omega
      have HLT : Hid (k = Dp.padz bs.length) := hlt
      clear hN h1 hlt
      obtain ⟨M, hM⟩ : ∃ M, bs.length * 8 = M := ⟨_, rfl⟩
      have e8 : (bs.length : Int) * 8 = (M : Int) := by omega
      have hMb : M ≤ 800000 := by omega
      have HM : Hid (bs.length * 8 = M) := hM
      clear hM
      go_wp2_with fail
      go_loopw [3, 5] (fun v i W => ∃ j m : Nat, j + m = 8 ∧ i = .int .i64 ((m : Int) - 1) ∧ W.ownsRow w.heap.size 5 1 v (N + j) (U (p8 bs k j)) ∧ Below w.heap.size w W) (fun _ i _ => ((intOf i) + 1).toNat)
      case atStart => exact ⟨0, 8, rfl, rfl, by rw [p8_zero]; exact hown, hb⟩
      case round =>
        clear hown hb
        obtain ⟨j, m, hjm, rfl, hown, hb⟩ := hrel
        obtain ⟨ao3, cap3, rfl⟩ := own_form hown
        cases m with
        | zero =>
          have hj8 : j = 8 := by omega
          subst hj8
          have hE : p8 bs k 8 = Dp.padded bs := by rw [HLT.out, p8_all]
          have hL : N + 8 = (Dp.padded bs).length := by rw [← hE]; unfold p8; rw [List.length_append, pz_length, List.take_of_length_le (by rw [Dp.len8_length]; omega), Dp.len8_length]; have := HN.out; omega
          rw [hE, hL] at hown
          have HOW := mkH hown
          have HB := mkH hb
          rw [hL]
          clear hown hb hE hL
          go_wp2
          go_ret
          exact ⟨_, rfl, HOW.out, HB.out⟩
        | succ m =>
          have em : (((m + 1 : Nat) : Int) - 1) = (m : Int) := by omega
          rw [em]
          have hm7 : m ≤ 7 := by omega
          have hby : ((M : Int) / 2 ^ (8 * m) % 256) = ((UInt8.ofNat (bs.length * 8 / 2 ^ (8 * m))).toNat : Int) := by
            rw [HM.out, UInt8.toNat_ofNat', Int.natCast_emod, Int.natCast_ediv, Int.natCast_pow]; rfl
          have HBY := mkH hby
          clear hby
          go_wp2_with (at_builtin; refine (wpList_append_own_src _ rfl (.tmp 26) (.tmp 32) 72 72 rfl w.heap.size 5 (.int .u8 0) 1 1 Tryd.underlying72 info5 rfl (by decide) _ (N + j) _ rfl (hown.alloc _) _ 1 (U [UInt8.ofNat (bs.length * 8 / 2 ^ (8 * m))]) rfl (src_one Tryd.underlying72 _ _ _ HBY.out) ?h63s ?hbys ?hbss ?_))
          case h63s => unfold maxLen; omega
          case hbys => omega
          case hbss => have := hb.size; simp; omega
          intro v3 w3 hown3 hgrow3
          have hb3 := below_own (hown.alloc _) hgrow3 (hb.alloc hb.size _) (by have := hb.size; simp; omega)
          rw [← U_append, p8_succ bs hn k j m hjm] at hown3
          have HOW := mkH hown3
          have HB := mkH hb3
          clear hown hown3 hgrow3 hb hb3
          go_wp2_with fail
          refine ⟨⟨j + 1, m, by omega, rfl, HOW.out, HB.out⟩, ?_⟩
          simp [intOf]
    · have h1 := HPN.out k (by omega)
      have t0 : ((((bs.length + 1 + k : Nat) : Int) % 64) != 56) = true := by simp; omega
      obtain ⟨N, hN⟩ : ∃ N, bs.length + 1 + k = N := ⟨_, rfl⟩
      rw [hN] at hown t0 ⊢
      have HN : Hid (bs.length + 1 + k = N) := hN
      have hNb : N ≤ 200000 := by omega
      clear hN h1
      go_wp2_with (at_builtin; refine (wpList_append_own_src _ rfl (.tmp 15) (.tmp 16) 72 72 rfl w.heap.size 5 (.int .u8 0) 1 1 Tryd.underlying72 info5 rfl (by decide) _ N _ rfl (hown.alloc _) _ 1 (U [0]) rfl (src_one Tryd.underlying72 _ _ _ rfl) ?h63r ?hbyr ?hbsr ?_))
      case h63r => unfold maxLen; omega
      case hbyr => omega
      case hbsr => have := hb.size; simp; omega
      intro v2 w2 hown2 hgrow2
      have hb2 := below_own (hown.alloc _) hgrow2 (hb.alloc hb.size _) (by have := hb.size; simp; omega)
      rw [← U_append, pz_succ] at hown2
      obtain ⟨ao3, cap3, rfl⟩ := own_form hown2
      have HOW := mkH hown2
      have HB := mkH hb2
      clear hown hown2 hgrow2 hb hb2
      go_wp2_with fail
      have hN := HN.out
      refine ⟨⟨k + 1, by omega, ?_, HB.out, ao3, cap3, ?_⟩, ?_⟩
      · rw [show bs.length + 1 + (k + 1) = N + 1 by omega]; exact HOW.out
      · rw [show bs.length + 1 + (k + 1) = N + 1 by omega]
      · show 1000000 - (N + 1) < 1000000 - N; omega
end Go.Proofs.YtbemindfmghjdaaDoor.Dr
