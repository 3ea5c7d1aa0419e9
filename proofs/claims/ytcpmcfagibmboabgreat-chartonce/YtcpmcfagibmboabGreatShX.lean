/-
  A number read out of bytes as long as they may be; a text turned into bytes.
-/
import Derived.Test.YtcpmcfagibmboabGreatReads
import Derived.Lib.ConvBytes
namespace Go.Proofs.YtcpmcfagibmboabGreat.Hx
open Go.RowKit Kt Pl Rd
set_option linter.unusedVariables false
set_option linter.unusedSimpArgs false
set_option maxRecDepth 20000

theorem conv_big (w : World) (s : ByteArray) (hs : s.size ≤ 9223372036854775807) : ∃ W' c, (convert 9 34 (.string s)).run Tryz.prog w = .ok (.slice (some ⟨w.heap.size, 0, none⟩) s.data.toList.length c) W' ∧ Row W' (some ⟨w.heap.size, 0, none⟩) s.data.toList ∧ Below w.heap.size w W' ∧ w.heap.size < W'.heap.size ∧ s.data.toList.length ≤ c ∧ c ≤ 9223372036854775807 := by
  have hsz : s.data.toList.length = s.size := by simp
  refine ⟨_, grownCap w s.size 0 5, by rw [hsz]; exact Lib.run_convert_string_bytes (P := Tryz.prog) w 9 34 5 s Tryz.underlying9 Tryz.underlying34 Tryz.underlying5, ?_, ⟨?_, ?_, ?_, ?_, fun k hk => Lib.bytesWorld_at_old w 5 s k hk⟩, ?_, ?_, ?_⟩
  · intro _
    refine ⟨_, 0, rfl, fun i hi => ?_⟩
    rw [Nat.zero_add, Lib.bytesWorld_cell w 5 s i (by omega)]
  · simp [Lib.bytesWorld, World.freeze, World.alloc, World.drew, -World.alloc_eq, -World.drew_eq]
  · simp [Lib.bytesWorld, World.freeze, World.alloc, World.drew, -World.alloc_eq, -World.drew_eq]
  · simp [Lib.bytesWorld, World.freeze, World.alloc, World.drew, -World.alloc_eq, -World.drew_eq]
  · rw [Lib.bytesWorld_size]; omega
  · rw [Lib.bytesWorld_size]; omega
  · rw [hsz]; exact grownCap_ge _ _ _ _
  · have := grownCap_le_maxLen w s.size 0 5 (by unfold maxLen; omega)
    unfold maxLen at this
    exact Nat.le_trans this (by omega)

set_option maxHeartbeats 1000000 in
set_option maxRecDepth 20000 in
theorem readNum_big (w : World) (ao : Option Addr) (cap : Nat) (bs : List UInt8) (hr : Row w ao bs) (hlen : bs.length ≤ 9223372036854775807) :
    Calls Tryz.prog 80 #[.slice ao bs.length cap] w fun e w' => e = ans (readNum bs) ∧ w' = w := by
  go_enter Tryz.func80, Tryz.ntmps80
  go_wp2
  go_loop [2, 5, 6] (fun n i0 i => ∃ (k q : Nat), k ≤ 9 ∧ k ≤ bs.length ∧ i = .int .i64 k ∧ n = .int .i64 q ∧ Hid (q < 2 ^ (7 * k)) ∧ Hid (rd bs (9 - k) k q = readNum bs)) (fun _ _ i => 9 - (intOf i).toNat)
  case atStart => exact ⟨0, 0, by omega, by omega, rfl, rfl, by simp [Hid], by simp [Hid, readNum]⟩
  case round =>
    obtain ⟨k, q, hk, hkl, rfl, rfl, hq, hrd⟩ := hrel
    by_cases h9 : k = 9
    · subst h9
      have HE : Hid (readNum bs = (0, 0, 5)) := hrd.out.symm.trans rd_last
      clear hrd hq
      go_wp2
      go_ret3
      exact ⟨by rw [HE.out]; rfl, rfl⟩
    · have hk9 : k < 9 := by omega
      by_cases hs : k = bs.length
      · have HE : Hid (readNum bs = (0, 0, 4)) := by rw [← hrd.out, hs]; exact rd_short (by omega)
        have t0 : ((k : Int) == (bs.length : Int)) = true := by simp [hs]
        clear hrd hq hs h9
        go_wp2
        go_ret3
        exact ⟨by rw [HE.out]; rfl, rfl⟩
      · have hl : k < bs.length := by omega
        obtain ⟨b, off, rfl, hc⟩ := hr (by omega)
        obtain ⟨c, hcc⟩ : ∃ c, (bs.getD k 0).toNat = c := ⟨_, rfl⟩
        have hck : w.cell? ⟨b, off + k, none⟩ = some (.int .u8 (c : Int)) := by rw [hc k hl, hcc]
        have hc256 : c < 256 := by rw [← hcc]; exact UInt8.toNat_lt _
        have hbd := dg_bd (c := c) hk9 hq.out
        have hdi := dg_int c k
        have t0 : ((k : Int) == (bs.length : Int)) = false := by simp; omega
        have HB : Hid (q + dg c k < 2 ^ (7 * (k + 1))) := hbd.1
        have b1 : (q : Int) + (c : Int) % 128 * 2 ^ (k * 7) ≤ 9223372036854775807 := by rw [hdi]; have := hbd.2; omega
        have b0 : 0 ≤ (c : Int) % 128 * 2 ^ (k * 7) := by rw [hdi]; omega
        have HC : Hid ((bs.getD k 0).toNat = c) := hcc
        have HD : Hid ((c : Int) % 128 * 2 ^ (k * 7) = ((dg c k : Nat) : Int)) := hdi
        clear hcc hbd hdi hr hc h9 hs
        by_cases h1 : 4611686018427387904 < q + dg c k ∨ (c = 0 ∧ 0 < k)
        · have HE : Hid (readNum bs = (0, 0, 5)) := by rw [← hrd.out]; exact rd_form hk9 hl HC.out h1
          clear hrd
          by_cases hbig : 4611686018427387904 < q + dg c k
          · have t1 : decide ((4611686018427387904 : Int) < (q : Int) + (c : Int) % 128 * 2 ^ (k * 7)) = true := by rw [HD.out]; simp; omega
            clear h1 hbig
            go_wp2
            go_ret3
            exact ⟨by rw [HE.out]; rfl, rfl⟩
          · have t1 : decide ((4611686018427387904 : Int) < (q : Int) + (c : Int) % 128 * 2 ^ (k * 7)) = false := by rw [HD.out]; simp; omega
            have t2 : ((c : Int) == 0) = true := by simp; omega
            have t3 : 0 < k := by omega
            clear h1 hbig
            go_wp2
            go_ret3
            exact ⟨by rw [HE.out]; rfl, rfl⟩
        · have t1 : decide ((4611686018427387904 : Int) < (q : Int) + (c : Int) % 128 * 2 ^ (k * 7)) = false := by rw [HD.out]; simp; omega
          have hz : (((c : Int) == 0) = true ∧ ¬ 0 < k) ∨ ((c : Int) == 0) = false := by
            by_cases hc0 : c = 0
            · left; exact ⟨by simp; omega, by omega⟩
            · right; simp; omega
          by_cases h2 : c < 128
          · have HE : Hid (readNum bs = (q + dg c k, k + 1, 0)) := by rw [← hrd.out]; exact rd_ok hk9 hl HC.out h1 h2
            clear h1 hrd
            rcases hz with ⟨t2, t3⟩ | t2
            all_goals
              go_wp2
              go_ret3
              exact ⟨ans_mk (by rw [HE.out, HD.out]; simp) (by rw [HE.out]; simp) (by rw [HE.out]; rfl), rfl⟩
          · have HE : Hid (rd bs (9 - (k + 1)) (k + 1) (q + dg c k) = readNum bs) := by rw [← hrd.out]; exact (rd_next hk9 hl HC.out h1 (by omega)).symm
            clear h1 hrd
            rcases hz with ⟨t2, t3⟩ | t2
            · exfalso; simp at t2; omega
            · go_wp2
              go_round
              case rel => exact ⟨k + 1, q + dg c k, by omega, by omega, by go_num, by rw [HD.out]; go_num, HB, HE⟩
              case measure => simp [intOf]; omega
end Go.Proofs.YtcpmcfagibmboabGreat.Hx
