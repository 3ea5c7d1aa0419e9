/-
  The walk of DigestTokens.
-/
import Derived.Test.YtnnhimoihbdopaaDoorDgX
import Derived.Lib.ConvBytes
namespace Go.Proofs.YtnnhimoihbdopaaDoor.Dtk
open Go.RowKit Kt Dk Dw Ds Dt De Df Dg Dh Di Dx
set_option linter.unusedVariables false
set_option maxRecDepth 20000

def val (x j : Nat) : Nat := if j = 0 then 0 else if j = 1 then x / 16 else x
theorem hx_small (q : Nat) (h : q < 10) : (hx.getD q 0).toNat = 48 + q := by
  have : ∀ q : Fin 10, (hx.getD q.1 0).toNat = 48 + q.1 := by decide
  exact this ⟨q, h⟩
theorem hx_big (q : Nat) (h : q < 16) (h2 : 10 ≤ q) : (hx.getD q 0).toNat = 87 + q := by
  have : ∀ q : Fin 16, 10 ≤ q.1 → (hx.getD q.1 0).toNat = 87 + q.1 := by decide
  exact this ⟨q, h⟩ h2
theorem tk_cut (d : List UInt8) (k : Nat) (hk : k < 16) (hd : d.length = 32) : (S (tk d 16)).extract (2 * k) (2 * k + 2) = S (two (d.getD k 0)) := by
  have h1 : tk d 16 = tk d k ++ (two (d.getD k 0) ++ (((d.take 16).drop (k + 1)).map two).flatten) := by
    have e : d.take 16 = d.take k ++ (d.getD k 0 :: (d.take 16).drop (k + 1)) := by
      have h2 := (List.take_append_drop k (d.take 16)).symm
      rw [List.take_take, Nat.min_eq_left (by omega), List.drop_eq_getElem_cons (by rw [List.length_take]; omega)] at h2
      rw [h2]
      congr 2
      · simp [List.getD, List.getElem?_eq_getElem (show k < d.length by omega)]
      · rw [← h2]
    have e2 : tk d 16 = ((d.take k ++ (d.getD k 0 :: (d.take 16).drop (k + 1))).map two).flatten := by
      unfold tk
      exact congrArg (fun l => (List.map two l).flatten) e
    rw [e2, List.map_append, List.flatten_append, List.map_cons, List.flatten_cons]
    rfl
  have h2 := tk_length d k (by omega)
  unfold S
  rw [ByteArray.extract_mk, h1]
  congr 1
  rw [← h2, List.drop_left, show (tk d k).length + 2 - (tk d k).length = (two (d.getD k 0)).length by simp [two], List.take_left]

theorem conv_bytes (w : World) (bs : List UInt8) : ∃ W' c, (convert 9 22 (.string (S bs))).run Tryd.prog w = .ok (.slice (some ⟨w.heap.size, 0, none⟩) bs.length c) W' ∧ Row W' (some ⟨w.heap.size, 0, none⟩) bs ∧ Below w.heap.size w W' := by
  refine ⟨_, _, Lib.run_convert_string_bytes (P := Tryd.prog) w 9 22 5 (S bs) Tryd.underlying9 Tryd.underlying22 Tryd.underlying5, ?_, ⟨?_, ?_, ?_, ?_, fun k hk => Lib.bytesWorld_at_old w 5 (S bs) k hk⟩⟩
  · intro _
    refine ⟨_, 0, rfl, fun i hi => ?_⟩
    rw [Nat.zero_add, Lib.bytesWorld_cell w 5 (S bs) i hi, S_data]
  · simp [Lib.bytesWorld, World.freeze, World.alloc, World.drew, -World.alloc_eq, -World.drew_eq]
  · simp [Lib.bytesWorld, World.freeze, World.alloc, World.drew, -World.alloc_eq, -World.drew_eq]
  · simp [Lib.bytesWorld, World.freeze, World.alloc, World.drew, -World.alloc_eq, -World.drew_eq]
  · rw [Lib.bytesWorld_size]; omega
theorem val_lt {x : Nat} (h : x < 256) (j : Nat) : val x j < 256 := by unfold val; split; omega; split <;> omega

set_option maxHeartbeats 4000000 in
theorem tokens_walk (w : World) (hT : Tb w) (ao : Option Addr) (cap : Nat) (bs : List UInt8) (hr : Row w ao bs) (hlen : bs.length ≤ cap) (hcap : cap ≤ 9223372036854775807) :
    Calls Tryd.prog 7 #[.slice ao bs.length cap] w fun e w' => e = .returned (.bool true) ∧ Below w.heap.size w w' := by
  have hT0 := hT.size
  go_enter Tryd.func7, Tryd.ntmps7
  go_wp2_with fail
  refine (few_sl w ao cap bs hr hlen hcap).mono ?_
  rintro e w1 ⟨a1, c1, rfl, hs1, -, -, hb1⟩
  obtain ⟨bh, hbh⟩ : ∃ bh, bs.take 2000 = bh := ⟨_, rfl⟩
  have hbl : bh.length ≤ 2000 := by rw [← hbh, List.length_take]; omega
  rw [hbh] at hs1 ⊢
  clear hr hbh hlen
  go_wp2_with fail
  refine (token_sl w1 a1 c1 bh (hT.below hb1 hT0) hs1 (by omega)).mono ?_
  rintro e w2 ⟨rfl, hb2⟩
  have hs2 := hs1.below hb2
  have hB2 := hb1.trans (hb2.mono hb1.size)
  clear hs1 hb1 hb2
  go_wp2_with fail
  refine (of_sl w2 a1 c1 bh (hT.below hB2 hT0) hs2 (by omega)).mono ?_
  rintro e w3 ⟨rfl, hb3⟩
  have hB3 := hB2.trans (hb3.mono hB2.size)
  clear hs2 hB2 hb3
  have hdl : (U (Dp.dig bh)).length = 32 := by rw [U_length, Dp.dig_length]
  have hi32 : (Tryd.prog.info? 24).map (·.size) = some (U (Dp.dig bh)).length := by rw [hdl]; kernel_rfl
  have HI := mkH hi32
  have HDL := mkH hdl
  clear hi32 hdl
  have hSs : (S (tok bh)).size = 32 := by rw [S_size, tok_length]
  go_wp2_with (first
    | (refine wpList_alloc_agg rfl 24 rfl 32 (by kernel_rfl) ?_; intro Z hZ)
    | (refine wpList_store_new rfl 24 (.tmp 4) (.tmp 14) rfl w3 Z rfl (U (Dp.dig bh)) rfl HI.out (by rw [hZ, HDL.out]) (U_one _) ?_))
  have hWs : ∃ W, W = w3.alloc (.cells (U (Dp.dig bh)).toArray 24) ∧ Below w.heap.size w W ∧ W.heap[w3.heap.size]? = some (.cells (U (Dp.dig bh)).toArray 24 (0, 0)) := ⟨_, rfl, hB3.alloc hB3.size _, heap_alloc_new _ _⟩
  obtain ⟨W, hWe, hBW, hAW⟩ := hWs
  rw [← hWe]
  have hsz := hB3.size
  generalize w3.heap.size = A at hAW hsz ⊢
  have hdl : (Dp.dig bh).length = 32 := Dp.dig_length bh
  have HTK : Hid (tok bh = tk (Dp.dig bh) 16) := rfl
  have HLD := mkH hdl
  clear hdl hWe hB3 HI HDL hZ
  generalize Dp.dig bh = d at hAW HTK HLD ⊢
  go_loopw [18] (fun i W' => ∃ k : Nat, k ≤ 16 ∧ i = .int .i64 k ∧ Below W.heap.size W W') (fun i _ => 16 - (intOf i).toNat)
  case atStart => exact ⟨0, by omega, rfl, Below.refl _ _⟩
  case round =>
    obtain ⟨k, hk, rfl, hbw⟩ := hrel
    by_cases hlt : k = 16
    · have t0 : decide ((k : Int) < 16) = false := by simp; omega
      subst hlt
      have hBr := hBW.trans (hbw.mono hBW.size)
      clear hbw
      go_wp2_with fail
      refine (works_any wr (hT.below hBr hT0)).mono ?_
      rintro e w9 ⟨rfl, hb9⟩
      go_wp2
      go_ret
      exact ⟨rfl, hBr.trans (hb9.mono hBr.size)⟩
    · have t0 : decide ((k : Int) < 16) = true := by simp; omega
      have hk0 : (k : Int) < 16 := by omega
      have hk1 : k < 16 := by omega
      have hAr := hbw.block A (block_lt hAW)
      rw [hAW] at hAr
      have cA : wr.cell? ⟨A, k, none⟩ = some (.int .u8 ((d.getD k 0).toNat : Int)) := by
        rw [cell_of_row _ _ _ _ _ _ hAr, List.getElem?_toArray, U_at d k (by rw [HLD.out]; omega)]
      have hex : (S (tok bh)).extract (2 * k) (2 * k + 2) = S (two (d.getD k 0)) := by rw [HTK.out]; exact tk_cut d k hk1 HLD.out
      have hbA : A < wr.heap.size := block_lt hAr
      obtain ⟨W5, c5, hcv, hr5, hb5⟩ := conv_bytes wr (two (d.getD k 0))
      obtain ⟨b5, o5, he5, hc5⟩ := hr5 (by simp [two])
      obtain ⟨rfl, rfl⟩ : b5 = wr.heap.size ∧ o5 = 0 := by simpa [eq_comm] using he5
      have q0 := hc5 0 (by simp [two])
      have q1 := hc5 1 (by simp [two])
      simp only [Nat.add_zero, Nat.zero_add] at q0 q1
      have e0 : ((two (d.getD k 0)).getD 0 0) = hx.getD ((d.getD k 0).toNat / 16) 0 := rfl
      have e1 : ((two (d.getD k 0)).getD 1 0) = hx.getD ((d.getD k 0).toNat % 16) 0 := rfl
      have e2 : (two (d.getD k 0)).length = 2 := rfl
      rw [e0] at q0
      rw [e1] at q1
      rw [e2] at hcv
      have cA5 : W5.cell? ⟨A, k, none⟩ = some (.int .u8 ((d.getD k 0).toNat : Int)) := by rw [hb5.cell (p := ⟨A, k, none⟩) hbA]; exact cA
      have HB5 := mkH (hbw.trans (hb5.mono hbw.size))
      have hxl : (d.getD k 0).toNat < 256 := (d.getD k 0).toNat_lt
      clear hr5 hc5 he5 e0 e1 e2 cA hAr hb5 hbw hAW hBW
      generalize two (d.getD k 0) = tw at hex hcv
      generalize (d.getD k 0).toNat = x at q0 q1 cA5 hxl
      generalize wr.heap.size = G at q0 q1 hcv hbA
      go_wp2_with fail
      go_loop [6, 30] (fun n i => ∃ j : Nat, j ≤ 2 ∧ i = .int .i64 j ∧ n = .int .i64 (val x j : Nat)) (fun _ i => 2 - (intOf i).toNat)
      case atStart => exact ⟨0, by omega, rfl, rfl⟩
      case round =>
        obtain ⟨j, hj, rfl, rfl⟩ := hrel
        by_cases hj2 : j = 2
        · have t1 : decide ((j : Int) < 2) = false := by simp; omega
          subst hj2
          have hv : val x 2 = x := rfl
          rw [hv]
          have hm : (x : Int) % 256 = (x : Int) := by omega
          go_wp2_with fail
          refine ⟨⟨k + 1, by omega, by go_num, HB5.out⟩, by simp [intOf]; omega⟩
        · have t1 : decide ((j : Int) < 2) = true := by simp; omega
          have hj0 : (j : Int) < 2 := by omega
          obtain ⟨q, hq, hcj, hnx⟩ : ∃ q, q < 16 ∧ W5.cell? ⟨G, j, none⟩ = some (.int .u8 ((hx.getD q 0).toNat : Int)) ∧ 16 * val x j + q = val x (j + 1) := by
            obtain h | h : j = 0 ∨ j = 1 := by omega
            · subst h; exact ⟨x / 16, by omega, q0, by simp [val]⟩
            · subst h; exact ⟨x % 16, by omega, q1, by simp [val]; omega⟩
          have hvl := val_lt hxl j
          have HNX := mkH hnx
          clear hnx q0 q1
          by_cases h10 : q < 10
          · rw [hx_small q h10] at hcj
            have s1 : decide ((48 : Int) ≤ ((48 + q : Nat) : Int)) = true := by simp; omega
            have s2 : decide (((48 + q : Nat) : Int) ≤ 57) = true := by simp; omega
            go_wp2_with fail
            exact ⟨⟨u2, .int .i64 (16 * ((val x j : Nat) : Int) + (48 + (q : Int) - 48)), .int .u8 (48 + (q : Int)), .int .i64 ((j : Int) + 1), ⟨j + 1, by omega, by go_num, congrArg (Value.int .i64) (by have := HNX.out; omega)⟩, rfl, rfl, rfl, rfl⟩, by simp [intOf]; omega⟩
          · rw [hx_big q hq (by omega)] at hcj
            go_wp2_with fail
            exact ⟨⟨u2, .int .i64 (16 * ((val x j : Nat) : Int) + (87 + (q : Int) - 97) + 10), .int .u8 (87 + (q : Int)), .int .i64 ((j : Int) + 1), ⟨j + 1, by omega, by go_num, congrArg (Value.int .i64) (by have := HNX.out; omega)⟩, rfl, rfl, rfl, rfl⟩, by simp [intOf]; omega⟩
end Go.Proofs.YtnnhimoihbdopaaDoor.Dtk
