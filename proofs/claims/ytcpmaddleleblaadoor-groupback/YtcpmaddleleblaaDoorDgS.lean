/-
  The contract of spread: a block's 64 words.
-/
import Derived.Test.YtcpmaddleleblaaDoorDgW
import Derived.Deep.RegionHeld3
import Derived.Deep.DeepCutAuto
namespace Go.Proofs.YtcpmaddleleblaaDoor.Ds
open Go.RowKit Kt Dk Dw
set_option linter.unusedVariables false
set_option maxRecDepth 20000

/-- The first k cells are these words. -/
def Pre (C : Array Value) (l : List Nat) : Prop := ∀ j, j < l.length → C[j]? = some (.int .u32 ((l.getD j 0 : Nat) : Int))
theorem Pre.snoc {C : Array Value} {l : List Nat} (h : Pre C l) (x : Nat) (hl : l.length < C.size) : Pre (C.setIfInBounds l.length (.int .u32 (x : Int))) (l ++ [x]) := by
  intro j hj
  simp only [List.length_append, List.length_singleton] at hj
  rw [Array.getElem?_setIfInBounds]
  by_cases e : j = l.length
  · subst e; simp [hl, List.getD]
  · have : j < l.length := by omega
    rw [if_neg (fun h => e h.symm), h j this]
    simp [List.getD, List.getElem?_append_left this]
theorem Pre.all {C : Array Value} {l : List Nat} (h : Pre C l) (hl : C.size = l.length) : C = (W32 l).toArray := by
  apply Array.ext_getElem?
  intro i
  rcases Nat.lt_or_ge i l.length with hi | hi
  · rw [h i hi, List.getElem?_toArray, W32_at l i hi]
  · rw [Array.getElem?_eq_none (by omega), List.getElem?_toArray, List.getElem?_eq_none (by rw [W32_length]; exact hi)]

/-- Where spread stands: the result's block, and 'all' with its first k words. -/
def Sp (w W : World) (blk : List UInt8) (k : Nat) : Prop :=
  Below w.heap.size w W ∧ (∃ Z : Array Value, Z.size = 64 ∧ W.heap[w.heap.size]? = some (.cells Z 148 (0, 0))) ∧ ∃ C : Array Value, C.size = 64 ∧ Pre C (Dp.sch blk k) ∧ W.heap[w.heap.size + 1]? = some (.cells C 148 (0, 0))
theorem Sp.next {w W : World} {blk : List UInt8} {k : Nat} (h : Sp w W blk k) (x m : Nat) (hk : k < 64) (hx : Dp.sch blk (k + 1) = Dp.sch blk k ++ [x]) : Sp w ((W.drewN m).setCell ⟨w.heap.size + 1, k, none⟩ (.int .u32 (x : Int))) blk (k + 1) := by
  obtain ⟨hb, ⟨Z, hZ, hz⟩, C, hC, hp, hc⟩ := h
  have e := setCell_eq_setRow (W.drewN m) (w.heap.size + 1) k C 148 (0, 0) (.int .u32 (x : Int)) hc
  rw [e]
  have hlen := Dp.sch_length blk k
  refine ⟨below_setRow (below_drewN hb m) (by omega) _, ⟨Z, hZ, ?_⟩, _, ?_, ?_, setRow_heap (W.drewN m) _ C _ _ _ hc⟩
  · rw [setRow_other _ _ _ _ (by omega)]; exact hz
  · simp [hC]
  · have := hp.snoc x (by rw [hlen, hC]; exact hk)
    rw [hlen] at this
    rw [hx]; exact this
theorem Sp.start {w : World} {Z0 Z : Array Value} (blk : List UInt8) (h0 : Z0.size = 64) (h1 : Z.size = 64) : Sp w ((w.alloc (.cells Z0 148)).alloc (.cells Z 148)) blk 0 := by
  refine ⟨((Below.refl _ w).alloc (Nat.le_refl _) _).alloc (by simp) _, ⟨Z0, h0, ?_⟩, Z, h1, fun j hj => by simp [Dp.sch] at hj, ?_⟩
  · rw [Below.heap_alloc _ _ _ (by simp)]; exact heap_alloc_new _ _
  · have := heap_alloc_new (w.alloc (.cells Z0 148)) (.cells Z 148)
    rwa [World.size_alloc] at this
theorem Sp.cell {w W : World} {blk : List UInt8} {k j : Nat} (h : Sp w W blk k) (hj : j < k) : W.cell? ⟨w.heap.size + 1, j, none⟩ = some (.int .u32 (((Dp.sch blk k).getD j 0 : Nat) : Int)) := by
  obtain ⟨hb, _, C, hC, hp, hc⟩ := h
  rw [cell_of_row _ _ _ C _ _ hc]
  exact hp j (by rw [Dp.sch_length]; exact hj)
theorem Sp.there {w W : World} {blk : List UInt8} {k j : Nat} (h : Sp w W blk k) (hj : j < 64) : (∃ v, W.cell? ⟨w.heap.size + 1, j, none⟩ = some v) ∧ W.frozen? ⟨w.heap.size + 1, j, none⟩ = false := by
  obtain ⟨hb, _, C, hC, hp, hc⟩ := h
  exact ⟨⟨_, by rw [cell_of_row _ _ _ C _ _ hc]; exact Array.getElem?_eq_getElem (by omega)⟩, by simp [World.frozen?, hc]⟩
theorem byteOf {w W : World} {b : Nat} {ws : List Nat} {blk : List UInt8} {n : Nat} (hl8 : ws.length = 8) (hl64 : blk.length = 64) (hh : w.heap[b]? = some (.cells (hc ws blk n) 146 (0, 0))) (hb : Below w.heap.size w W) (j : Nat) (hj : j < 64) : W.cell? ⟨b, 9 + j, none⟩ = some (.int .u8 ((blk.getD j 0).toNat : Int)) := by
  have h1 := hb.block b (block_lt hh)
  rw [hh] at h1
  rw [cell_of_row _ _ _ _ _ _ h1]
  exact hc_byte hl8 hl64 j hj
theorem nxt_nat (a b e l : Nat) (ha : a < 4294967296) (hb : b < 4294967296) (he : e < 4294967296) (hl : l < 4294967296) :
    (((((a : Int) + (b : Int)) % 4294967296 + ((Dp.lil 7 18 3 e : Nat) : Int)) % 4294967296 + ((Dp.lil 17 19 10 l : Nat) : Int)) % 4294967296) = ((Dp.add (Dp.add (Dp.add a b) (Dp.lil 7 18 3 e)) (Dp.lil 17 19 10 l) : Nat) : Int) := by
  simp only [Dp.add]
  omega

set_option maxHeartbeats 2000000 in
theorem spread_any (w : World) (b : Nat) (ws : List Nat) (blk : List UInt8) (n : Nat) (hH : H w b ws blk n 146) :
    Calls Tryd.prog 94 #[.pointer (some ⟨b, 0, none⟩)] w fun e w' => e = .returned (.agg (W32 (Dp.sch blk 64)).toArray) ∧ Below w.heap.size w w' := by
  obtain ⟨hl8, hl64, hh⟩ := hH
  have hbl := block_lt hh
  go_enter Tryd.func94, Tryd.ntmps94
  go_wp2_with (first | (have hx := hZ0; clear hx; refine wpList_alloc_agg rfl 148 rfl 64 (by kernel_rfl) ?_; intro Z hZ) | (refine wpList_alloc_agg rfl 148 rfl 64 (by kernel_rfl) ?_; intro Z0 hZ0))
  have hS := Sp.start (w := w) blk hZ0 hZ
  generalize (w.alloc (.cells Z0 148)).alloc (.cells Z 148) = W0 at hS ⊢
  clear hZ hZ0 Z Z0
  go_loopw [8] (fun i W => ∃ k : Nat, k ≤ 16 ∧ i = .int .i64 k ∧ Sp w W blk k) (fun i _ => 16 - (intOf i).toNat)
  case atStart => exact ⟨0, by omega, rfl, hS⟩
  case round =>
    obtain ⟨k, hk, rfl, hsp⟩ := hrel
    clear hS
    by_cases hlt : k = 16
    · have t0 : decide ((k : Int) < 16) = false := by simp; omega
      subst hlt
      go_wp2
      go_loopw [5] (fun i W => ∃ k : Nat, 16 ≤ k ∧ k ≤ 64 ∧ i = .int .i64 k ∧ Sp w W blk k) (fun i _ => 64 - (intOf i).toNat)
      case atStart => exact ⟨16, by omega, by omega, rfl, hsp⟩
      case round =>
        clear hsp
        obtain ⟨k, hk16, hk64, rfl, hsp⟩ := hrel
        by_cases hlt : k = 64
        · have t0 : decide ((k : Int) < 64) = false := by simp; omega
          subst hlt
          obtain ⟨hb, ⟨Z, hZ, hz⟩, C, hC, hp, hc⟩ := hsp
          have hCe := hp.all (by rw [hC, Dp.sch_length])
          have hW64 : (W32 (Dp.sch blk 64)).length = 64 := by rw [W32_length, Dp.sch_length]
          have hi64 : (Tryd.prog.info? 148).map (·.size) = some (W32 (Dp.sch blk 64)).length := by rw [hW64]; kernel_rfl
          have hZ64 : Z.size = (W32 (Dp.sch blk 64)).length := by rw [hW64, hZ]
          subst hCe
          go_wp2_with (first
            | (refine wpList_load_agg rfl 148 (.tmp 3) rfl _ Tryd.underlying148 rfl (w.heap.size + 1) 0 rfl (W32 (Dp.sch blk 64)) hi64 ?hc ?_; (case hc => intro j v hv; rw [cell_of_row _ _ _ _ _ _ hc]; simpa using hv))
            | (refine wpList_store_agg rfl 148 (.tmp 2) (.tmp 62) rfl w.heap.size rfl (W32 (Dp.sch blk 64)) rfl _ Z hz hi64 hZ64 (W32_one _) ?_))
          refine ret_cell 2 148 rfl w.heap.size rfl _ Tryd.underlying148 rfl (W32 (Dp.sch blk 64)) hi64 _ _ (setRow_heap _ _ _ _ _ _ hz) rfl ⟨rfl, below_setRow hb (Nat.le_refl _) _⟩
        · have t0 : decide ((k : Int) < 64) = true := by simp; omega
          have hk1 : k ≤ 63 := by omega
          have hk0 : (k : Int) < 64 := by omega
          have c0 := hsp.cell (j := k - 16) (by omega)
          have c1 := hsp.cell (j := k - 15) (by omega)
          have c9 := hsp.cell (j := k - 7) (by omega)
          have c14 := hsp.cell (j := k - 2) (by omega)
          obtain ⟨⟨v, hv⟩, hf⟩ := hsp.there (j := k) (by omega)
          have hlt := Dp.sch_lt blk k
          have hA := Dp.getD_lt hlt (k - 16)
          have hB := Dp.getD_lt hlt (k - 7)
          have hE := Dp.getD_lt hlt (k - 15)
          have hL := Dp.getD_lt hlt (k - 2)
          have HN : Hid (Dp.sch blk (k + 1) = Dp.sch blk k ++ [Dp.add (Dp.add (Dp.add ((Dp.sch blk k).getD (k - 16) 0) ((Dp.sch blk k).getD (k - 7) 0)) (Dp.lil 7 18 3 ((Dp.sch blk k).getD (k - 15) 0))) (Dp.lil 17 19 10 ((Dp.sch blk k).getD (k - 2) 0))]) := by
            unfold Hid
            rw [Dp.sch, Dp.grow, if_neg (by omega), Dp.nxt]
          generalize (Dp.sch blk k).getD (k - 16) 0 = A at c0 hA HN
          generalize (Dp.sch blk k).getD (k - 7) 0 = B at c9 hB HN
          generalize (Dp.sch blk k).getD (k - 15) 0 = E at c1 hE HN
          generalize (Dp.sch blk k).getD (k - 2) 0 = L at c14 hL HN
          clear hlt
          go_wp2_with fail
          go_quiet (fail)
          go_wp2_with fail
          have T1 : ∀ W, Calls Tryd.prog 97 #[.int .u32 E, .int .i64 7] W fun e w' => e = .returned (.int .u32 (Dp.rotr 7 E : Nat)) ∧ w' = W := fun W => turn_any W E 7 hE (by decide) (by decide)
          have T2 : ∀ W, Calls Tryd.prog 97 #[.int .u32 E, .int .i64 18] W fun e w' => e = .returned (.int .u32 (Dp.rotr 18 E : Nat)) ∧ w' = W := fun W => turn_any W E 18 hE (by decide) (by decide)
          have T3 : ∀ W, Calls Tryd.prog 97 #[.int .u32 L, .int .i64 17] W fun e w' => e = .returned (.int .u32 (Dp.rotr 17 L : Nat)) ∧ w' = W := fun W => turn_any W L 17 hL (by decide) (by decide)
          have T4 : ∀ W, Calls Tryd.prog 97 #[.int .u32 L, .int .i64 19] W fun e w' => e = .returned (.int .u32 (Dp.rotr 19 L : Nat)) ∧ w' = W := fun W => turn_any W L 19 hL (by decide) (by decide)
          have e1 : bits .xor .u32 (bits .xor .u32 ((Dp.rotr 7 E : Nat) : Int) ((Dp.rotr 18 E : Nat) : Int)) ((E : Int) / 8) = ((Dp.lil 7 18 3 E : Nat) : Int) := by
            rw [← lil_nat E 7 18 3 hE, Int.natCast_ediv]; rfl
          have e2 : bits .xor .u32 (bits .xor .u32 ((Dp.rotr 17 L : Nat) : Int) ((Dp.rotr 19 L : Nat) : Int)) ((L : Int) / 1024) = ((Dp.lil 17 19 10 L : Nat) : Int) := by
            rw [← lil_nat L 17 19 10 hL, Int.natCast_ediv]; rfl
          have HW : Hid (∀ m, Sp w ((wr.drewN m).setCell ⟨w.heap.size + 1, k, none⟩ (.int .u32 ((((((A : Int) + (B : Int)) % 4294967296 + ((Dp.lil 7 18 3 E : Nat) : Int)) % 4294967296 + ((Dp.lil 17 19 10 L : Nat) : Int)) % 4294967296)))) blk (k + 1)) := by
            intro m
            have := hsp.next _ m (by omega) HN.out
            rw [← nxt_nat A B E L hA hB hE hL] at this
            exact this
          have l1 := Dp.lil_lt (i := 7) (j := 18) (k := 3) hE
          have l2 := Dp.lil_lt (i := 17) (j := 19) (k := 10) hL
          have w1 : IntKind.i64.wrap ((k : Int) - 16) = ((k - 16 : Nat) : Int) := by simp [IntKind.wrap, IntKind.bits, IntKind.signed]; omega
          have w2 : IntKind.i64.wrap ((k : Int) - 7) = ((k - 7 : Nat) : Int) := by simp [IntKind.wrap, IntKind.bits, IntKind.signed]; omega
          obtain ⟨a0, ha0⟩ : ∃ a0, k - 16 = a0 := ⟨_, rfl⟩
          obtain ⟨a7, ha7⟩ : ∃ a7, k - 7 = a7 := ⟨_, rfl⟩
          rw [ha0] at w1 c0
          rw [ha7] at w2 c9
          have i2 : (a0 : Int) < 64 := by omega
          have i4 : (a7 : Int) < 64 := by omega
          have n1 : ¬ (k = a0) := by omega
          have n2 : ¬ (k = a7) := by omega
          clear hsp HN ha0 ha7 c1 c14
          go_region_held3 (fun w' => w'.cell? ⟨w.heap.size + 1, a0, none⟩ = some (.int .u32 A) ∧ w'.cell? ⟨w.heap.size + 1, a7, none⟩ = some (.int .u32 B)) (first | go_keep | (refine ⟨?_, ?_⟩ <;> first | (rw [cell_other _ _ n1]; exact c0) | (rw [cell_other _ _ n2]; exact c9))) (first
              | (go_at_call 97; refine (T1 _).mono ?_; rintro e w' ⟨rfl, rfl⟩)
              | (go_at_call 97; refine (T2 _).mono ?_; rintro e w' ⟨rfl, rfl⟩)
              | (go_at_call 97; refine (T3 _).mono ?_; rintro e w' ⟨rfl, rfl⟩)
              | (go_at_call 97; refine (T4 _).mono ?_; rintro e w' ⟨rfl, rfl⟩))
          go_wp2
          refine ⟨?_, ?measure⟩
          (repeat apply Exists.intro)
          refine ⟨?rel, rfl⟩
          case rel => exact ⟨k + 1, by omega, by omega, by go_num, HW.out _⟩
          case measure => simp [intOf]; omega
    · have t0 : decide ((k : Int) < 16) = true := by simp; omega
      have hk1 : k ≤ 15 := by omega
      have hk0 : (k : Int) < 16 := by omega
      have hne : ¬ (64 = 4 * k) := by omega
      have hne2 : ¬ ((4 * (k : Int)) > 64) := by omega
      have c0 := byteOf hl8 hl64 hh hsp.1 (4 * k) (by omega)
      have c1 := byteOf hl8 hl64 hh hsp.1 (4 * k + 1) (by omega)
      have c2 := byteOf hl8 hl64 hh hsp.1 (4 * k + 2) (by omega)
      have c3 := byteOf hl8 hl64 hh hsp.1 (4 * k + 3) (by omega)
      obtain ⟨⟨v, hv⟩, hf⟩ := hsp.there (j := k) (by omega)
      have hsl := fun W => run_arr_low (P := Tryd.prog) W 144 5 64 Tryd.underlying144 (by kernel_rfl) b 9 (4 * k) (4 * (k : Int)) (by omega) (by omega)
      clear hne2 hne
      go_wp2_with fail
      refine (word_any _ _ _ _ _ _ _ _ _ c0 (by rw [Nat.add_assoc]; exact c1) (by rw [Nat.add_assoc]; exact c2) (by rw [Nat.add_assoc]; exact c3) (UInt8.toNat_lt _) (UInt8.toNat_lt _) (UInt8.toNat_lt _) (UInt8.toNat_lt _) (by omega) (by omega)).mono ?_
      rintro e w2 ⟨rfl, m, rfl⟩
      have hsp2 := hsp.next (Dp.word blk k) m (by omega) (by rw [Dp.sch, Dp.grow, if_pos (by omega)])
      unfold Dp.word at hsp2
      have hsp3 : Hid (Sp w _ blk (k + 1)) := hsp2
      clear hsp2 hsp c0 c1 c2 c3 hsl
      generalize (blk.getD (4 * k) 0).toNat * 16777216 + (blk.getD (4 * k + 1) 0).toNat * 65536 + (blk.getD (4 * k + 2) 0).toNat * 256 + (blk.getD (4 * k + 3) 0).toNat = X at hsp3 ⊢
      go_wp2
      go_roundw
      case rel => exact ⟨k + 1, by omega, by go_num, hsp3.out⟩
      case measure => simp [intOf]; omega
end Go.Proofs.YtcpmaddleleblaaDoor.Ds
