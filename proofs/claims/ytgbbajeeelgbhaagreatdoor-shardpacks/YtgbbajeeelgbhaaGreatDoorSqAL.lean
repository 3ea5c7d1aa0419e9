/-
  DgS DgT DgE, joined by mrg.py.
-/
import Derived.Test.YtgbbajeeelgbhaaGreatDoorSqAK
import Derived.Deep.RegionHeld3
import Derived.Deep.DeepCutAuto

namespace Go.Proofs.YtgbbajeeelgbhaaGreatDoor.Ds
open Go.RowKit Kt Dk Dw
set_option linter.unusedVariables false
set_option maxRecDepth 20000

/-- The first k cells are these words. -/
def Pre (C : Array Value) (l : List Nat) : Prop := ∀ j, j < l.length → C[j]? = some (.int .u32 ((l.getD j 0 : Nat) : Int))
theorem Pre.snoc {C : Array Value} {l : List Nat} (h : Pre C l) (x : Nat) (hl : l.length < C.size) : Pre (C.setIfInBounds l.length (.int .u32 (x : Int))) (l ++ [x]) := by
  intro j hj
  simp only [List.length_append, List.length_singleton] at hj
  rw [Array.getElem?_setIfInBounds]
  by_cases e : j = l.length
  · subst e; simp [hl, List.getD]
  · have : j < l.length := by omega
    rw [if_neg (fun h => e h.symm), h j this]
    simp [List.getD, List.getElem?_append_left this]
theorem Pre.all {C : Array Value} {l : List Nat} (h : Pre C l) (hl : C.size = l.length) : C = (W32 l).toArray := by
  apply Array.ext_getElem?
  intro i
  rcases Nat.lt_or_ge i l.length with hi | hi
  · rw [h i hi, List.getElem?_toArray, W32_at l i hi]
  · rw [Array.getElem?_eq_none (by omega), List.getElem?_toArray, List.getElem?_eq_none (by rw [W32_length]; exact hi)]

/-- Where spread stands: the result's block, and 'all' with its first k words. -/
def Sp (w W : World) (blk : List UInt8) (k : Nat) : Prop :=
  Below w.heap.size w W ∧ (∃ Z : Array Value, Z.size = 64 ∧ W.heap[w.heap.size]? = some (.cells Z 463 (0, 0))) ∧ ∃ C : Array Value, C.size = 64 ∧ Pre C (Dp.sch blk k) ∧ W.heap[w.heap.size + 1]? = some (.cells C 463 (0, 0))
theorem Sp.next {w W : World} {blk : List UInt8} {k : Nat} (h : Sp w W blk k) (x m : Nat) (hk : k < 64) (hx : Dp.sch blk (k + 1) = Dp.sch blk k ++ [x]) : Sp w ((W.drewN m).setCell ⟨w.heap.size + 1, k, none⟩ (.int .u32 (x : Int))) blk (k + 1) := by
  obtain ⟨hb, ⟨Z, hZ, hz⟩, C, hC, hp, hc⟩ := h
  have e := setCell_eq_setRow (W.drewN m) (w.heap.size + 1) k C 463 (0, 0) (.int .u32 (x : Int)) hc
  rw [e]
  have hlen := Dp.sch_length blk k
  refine ⟨below_setRow (below_drewN hb m) (by omega) _, ⟨Z, hZ, ?_⟩, _, ?_, ?_, setRow_heap (W.drewN m) _ C _ _ _ hc⟩
  · rw [setRow_other _ _ _ _ (by omega)]; exact hz
  · simp [hC]
  · have := hp.snoc x (by rw [hlen, hC]; exact hk)
    rw [hlen] at this
    rw [hx]; exact this
theorem Sp.start {w : World} {Z0 Z : Array Value} (blk : List UInt8) (h0 : Z0.size = 64) (h1 : Z.size = 64) : Sp w ((w.alloc (.cells Z0 463)).alloc (.cells Z 463)) blk 0 := by
  refine ⟨((Below.refl _ w).alloc (Nat.le_refl _) _).alloc (by simp) _, ⟨Z0, h0, ?_⟩, Z, h1, fun j hj => by simp [Dp.sch] at hj, ?_⟩
  · rw [Below.heap_alloc _ _ _ (by simp)]; exact heap_alloc_new _ _
  · have := heap_alloc_new (w.alloc (.cells Z0 463)) (.cells Z 463)
    rwa [World.size_alloc] at this
theorem Sp.cell {w W : World} {blk : List UInt8} {k j : Nat} (h : Sp w W blk k) (hj : j < k) : W.cell? ⟨w.heap.size + 1, j, none⟩ = some (.int .u32 (((Dp.sch blk k).getD j 0 : Nat) : Int)) := by
  obtain ⟨hb, _, C, hC, hp, hc⟩ := h
  rw [cell_of_row _ _ _ C _ _ hc]
  exact hp j (by rw [Dp.sch_length]; exact hj)
theorem Sp.there {w W : World} {blk : List UInt8} {k j : Nat} (h : Sp w W blk k) (hj : j < 64) : (∃ v, W.cell? ⟨w.heap.size + 1, j, none⟩ = some v) ∧ W.frozen? ⟨w.heap.size + 1, j, none⟩ = false := by
  obtain ⟨hb, _, C, hC, hp, hc⟩ := h
  exact ⟨⟨_, by rw [cell_of_row _ _ _ C _ _ hc]; exact Array.getElem?_eq_getElem (by omega)⟩, by simp [World.frozen?, hc]⟩
theorem byteOf {w W : World} {b : Nat} {ws : List Nat} {blk : List UInt8} {n : Nat} (hl8 : ws.length = 8) (hl64 : blk.length = 64) (hh : w.heap[b]? = some (.cells (hc ws blk n) 460 (0, 0))) (hb : Below w.heap.size w W) (j : Nat) (hj : j < 64) : W.cell? ⟨b, 9 + j, none⟩ = some (.int .u8 ((blk.getD j 0).toNat : Int)) := by
  have h1 := hb.block b (block_lt hh)
  rw [hh] at h1
  rw [cell_of_row _ _ _ _ _ _ h1]
  exact hc_byte hl8 hl64 j hj
theorem nxt_nat (a b e l : Nat) (ha : a < 4294967296) (hb : b < 4294967296) (he : e < 4294967296) (hl : l < 4294967296) :
    (((((a : Int) + (b : Int)) % 4294967296 + ((Dp.lil 7 18 3 e : Nat) : Int)) % 4294967296 + ((Dp.lil 17 19 10 l : Nat) : Int)) % 4294967296) = ((Dp.add (Dp.add (Dp.add a b) (Dp.lil 7 18 3 e)) (Dp.lil 17 19 10 l) : Nat) : Int) := by
  simp only [Dp.add]
  omega

set_option maxHeartbeats 2000000 in
theorem spread_any (w : World) (b : Nat) (ws : List Nat) (blk : List UInt8) (n : Nat) (hH : H w b ws blk n 460) :
    Calls Tryz.prog 399 #[.pointer (some ⟨b, 0, none⟩)] w fun e w' => e = .returned (.agg (W32 (Dp.sch blk 64)).toArray) ∧ Below w.heap.size w w' := by
  obtain ⟨hl8, hl64, hh⟩ := hH
  have hbl := block_lt hh
  go_enter Tryz.func399, Tryz.ntmps399
  go_wp2_with (first | (have hx := hZ0; clear hx; refine wpList_alloc_agg rfl 463 rfl 64 (by kernel_rfl) ?_; intro Z hZ) | (refine wpList_alloc_agg rfl 463 rfl 64 (by kernel_rfl) ?_; intro Z0 hZ0))
  have hS := Sp.start (w := w) blk hZ0 hZ
  generalize (w.alloc (.cells Z0 463)).alloc (.cells Z 463) = W0 at hS ⊢
  clear hZ hZ0 Z Z0
  go_loopw [8] (fun i W => ∃ k : Nat, k ≤ 16 ∧ i = .int .i64 k ∧ Sp w W blk k) (fun i _ => 16 - (intOf i).toNat)
  case atStart => exact ⟨0, by omega, rfl, hS⟩
  case round =>
    obtain ⟨k, hk, rfl, hsp⟩ := hrel
    clear hS
    by_cases hlt : k = 16
    · have t0 : decide ((k : Int) < 16) = false := by simp; omega
      subst hlt
      go_wp2
      go_loopw [5] (fun i W => ∃ k : Nat, 16 ≤ k ∧ k ≤ 64 ∧ i = .int .i64 k ∧ Sp w W blk k) (fun i _ => 64 - (intOf i).toNat)
      case atStart => exact ⟨16, by omega, by omega, rfl, hsp⟩
      case round =>
        clear hsp
        obtain ⟨k, hk16, hk64, rfl, hsp⟩ := hrel
        by_cases hlt : k = 64
        · have t0 : decide ((k : Int) < 64) = false := by simp; omega
          subst hlt
          obtain ⟨hb, ⟨Z, hZ, hz⟩, C, hC, hp, hc⟩ := hsp
          have hCe := hp.all (by rw [hC, Dp.sch_length])
          have hW64 : (W32 (Dp.sch blk 64)).length = 64 := by rw [W32_length, Dp.sch_length]
          have hi64 : (Tryz.prog.info? 463).map (·.size) = some (W32 (Dp.sch blk 64)).length := by rw [hW64]; kernel_rfl
          have hZ64 : Z.size = (W32 (Dp.sch blk 64)).length := by rw [hW64, hZ]
          subst hCe
          go_wp2_with (first
            | (refine wpList_load_agg rfl 463 (.tmp 3) rfl _ Tryz.underlying463 rfl (w.heap.size + 1) 0 rfl (W32 (Dp.sch blk 64)) hi64 ?hc ?_; (case hc => intro j v hv; rw [cell_of_row _ _ _ _ _ _ hc]; simpa using hv))
            | (refine wpList_store_agg rfl 463 (.tmp 2) (.tmp 62) rfl w.heap.size rfl (W32 (Dp.sch blk 64)) rfl _ Z hz hi64 hZ64 (W32_one _) ?_))
          refine ret_cell 2 463 rfl w.heap.size rfl _ Tryz.underlying463 rfl (W32 (Dp.sch blk 64)) hi64 _ _ (setRow_heap _ _ _ _ _ _ hz) rfl ⟨rfl, below_setRow hb (Nat.le_refl _) _⟩
        · have t0 : decide ((k : Int) < 64) = true := by simp; omega
          have hk1 : k ≤ 63 := by omega
          have hk0 : (k : Int) < 64 := by omega
          have c0 := hsp.cell (j := k - 16) (by omega)
          have c1 := hsp.cell (j := k - 15) (by omega)
          have c9 := hsp.cell (j := k - 7) (by omega)
          have c14 := hsp.cell (j := k - 2) (by omega)
          obtain ⟨⟨v, hv⟩, hf⟩ := hsp.there (j := k) (by omega)
          have hlt := Dp.sch_lt blk k
          have hA := Dp.getD_lt hlt (k - 16)
          have hB := Dp.getD_lt hlt (k - 7)
          have hE := Dp.getD_lt hlt (k - 15)
          have hL := Dp.getD_lt hlt (k - 2)
          have HN : Hid (Dp.sch blk (k + 1) = Dp.sch blk k ++ [Dp.add (Dp.add (Dp.add ((Dp.sch blk k).getD (k - 16) 0) ((Dp.sch blk k).getD (k - 7) 0)) (Dp.lil 7 18 3 ((Dp.sch blk k).getD (k - 15) 0))) (Dp.lil 17 19 10 ((Dp.sch blk k).getD (k - 2) 0))]) := by
            unfold Hid
            rw [Dp.sch, Dp.grow, if_neg (by omega), Dp.nxt]
          generalize (Dp.sch blk k).getD (k - 16) 0 = A at c0 hA HN
          generalize (Dp.sch blk k).getD (k - 7) 0 = B at c9 hB HN
          generalize (Dp.sch blk k).getD (k - 15) 0 = E at c1 hE HN
          generalize (Dp.sch blk k).getD (k - 2) 0 = L at c14 hL HN
          clear hlt
          go_wp2_with fail
          go_quiet (fail)
          go_wp2_with fail
          have T1 : ∀ W, Calls Tryz.prog 402 #[.int .u32 E, .int .i64 7] W fun e w' => e = .returned (.int .u32 (Dp.rotr 7 E : Nat)) ∧ w' = W := fun W => turn_any W E 7 hE (by decide) (by decide)
          have T2 : ∀ W, Calls Tryz.prog 402 #[.int .u32 E, .int .i64 18] W fun e w' => e = .returned (.int .u32 (Dp.rotr 18 E : Nat)) ∧ w' = W := fun W => turn_any W E 18 hE (by decide) (by decide)
          have T3 : ∀ W, Calls Tryz.prog 402 #[.int .u32 L, .int .i64 17] W fun e w' => e = .returned (.int .u32 (Dp.rotr 17 L : Nat)) ∧ w' = W := fun W => turn_any W L 17 hL (by decide) (by decide)
          have T4 : ∀ W, Calls Tryz.prog 402 #[.int .u32 L, .int .i64 19] W fun e w' => e = .returned (.int .u32 (Dp.rotr 19 L : Nat)) ∧ w' = W := fun W => turn_any W L 19 hL (by decide) (by decide)
          have e1 : bits .xor .u32 (bits .xor .u32 ((Dp.rotr 7 E : Nat) : Int) ((Dp.rotr 18 E : Nat) : Int)) ((E : Int) / 8) = ((Dp.lil 7 18 3 E : Nat) : Int) := by
            rw [← lil_nat E 7 18 3 hE, Int.natCast_ediv]; rfl
          have e2 : bits .xor .u32 (bits .xor .u32 ((Dp.rotr 17 L : Nat) : Int) ((Dp.rotr 19 L : Nat) : Int)) ((L : Int) / 1024) = ((Dp.lil 17 19 10 L : Nat) : Int) := by
            rw [← lil_nat L 17 19 10 hL, Int.natCast_ediv]; rfl
          have HW : Hid (∀ m, Sp w ((wr.drewN m).setCell ⟨w.heap.size + 1, k, none⟩ (.int .u32 ((((((A : Int) + (B : Int)) % 4294967296 + ((Dp.lil 7 18 3 E : Nat) : Int)) % 4294967296 + ((Dp.lil 17 19 10 L : Nat) : Int)) % 4294967296)))) blk (k + 1)) := by
            intro m
            have := hsp.next _ m (by omega) HN.out
            rw [← nxt_nat A B E L hA hB hE hL] at this
            exact this
          have l1 := Dp.lil_lt (i := 7) (j := 18) (k := 3) hE
          have l2 := Dp.lil_lt (i := 17) (j := 19) (k := 10) hL
          have w1 : IntKind.i64.wrap ((k : Int) - 16) = ((k - 16 : Nat) : Int) := by simp [IntKind.wrap, IntKind.bits, IntKind.signed]; omega
          have w2 : IntKind.i64.wrap ((k : Int) - 7) = ((k - 7 : Nat) : Int) := by simp [IntKind.wrap, IntKind.bits, IntKind.signed]; omega
          obtain ⟨a0, ha0⟩ : ∃ a0, k - 16 = a0 := ⟨_, rfl⟩
          obtain ⟨a7, ha7⟩ : ∃ a7, k - 7 = a7 := ⟨_, rfl⟩
          rw [ha0] at w1 c0
          rw [ha7] at w2 c9
          have i2 : (a0 : Int) < 64 := by omega
          have i4 : (a7 : Int) < 64 := by omega
          have n1 : ¬ (k = a0) := by omega
          have n2 : ¬ (k = a7) := by omega
          clear hsp HN ha0 ha7 c1 c14
          go_region_held3 (fun w' => w'.cell? ⟨w.heap.size + 1, a0, none⟩ = some (.int .u32 A) ∧ w'.cell? ⟨w.heap.size + 1, a7, none⟩ = some (.int .u32 B)) (first | go_keep | (refine ⟨?_, ?_⟩ <;> first | (rw [cell_other _ _ n1]; exact c0) | (rw [cell_other _ _ n2]; exact c9))) (first
              | (go_at_call 402; refine (T1 _).mono ?_; rintro e w' ⟨rfl, rfl⟩)
              | (go_at_call 402; refine (T2 _).mono ?_; rintro e w' ⟨rfl, rfl⟩)
              | (go_at_call 402; refine (T3 _).mono ?_; rintro e w' ⟨rfl, rfl⟩)
              | (go_at_call 402; refine (T4 _).mono ?_; rintro e w' ⟨rfl, rfl⟩))
          go_wp2
          refine ⟨?_, ?measure⟩
          (repeat apply Exists.intro)
          refine ⟨?rel, rfl⟩
          case rel => exact ⟨k + 1, by omega, by omega, by go_num, HW.out _⟩
          case measure => simp [intOf]; omega
    · have t0 : decide ((k : Int) < 16) = true := by simp; omega
      have hk1 : k ≤ 15 := by omega
      have hk0 : (k : Int) < 16 := by omega
      have hne : ¬ (64 = 4 * k) := by omega
      have hne2 : ¬ ((4 * (k : Int)) > 64) := by omega
      have c0 := byteOf hl8 hl64 hh hsp.1 (4 * k) (by omega)
      have c1 := byteOf hl8 hl64 hh hsp.1 (4 * k + 1) (by omega)
      have c2 := byteOf hl8 hl64 hh hsp.1 (4 * k + 2) (by omega)
      have c3 := byteOf hl8 hl64 hh hsp.1 (4 * k + 3) (by omega)
      obtain ⟨⟨v, hv⟩, hf⟩ := hsp.there (j := k) (by omega)
      have hsl := fun W => run_arr_low (P := Tryz.prog) W 458 5 64 Tryz.underlying458 (by kernel_rfl) b 9 (4 * k) (4 * (k : Int)) (by omega) (by omega)
      clear hne2 hne
      go_wp2_with fail
      refine (word_any _ _ _ _ _ _ _ _ _ c0 (by rw [Nat.add_assoc]; exact c1) (by rw [Nat.add_assoc]; exact c2) (by rw [Nat.add_assoc]; exact c3) (UInt8.toNat_lt _) (UInt8.toNat_lt _) (UInt8.toNat_lt _) (UInt8.toNat_lt _) (by omega) (by omega)).mono ?_
      rintro e w2 ⟨rfl, m, rfl⟩
      have hsp2 := hsp.next (Dp.word blk k) m (by omega) (by rw [Dp.sch, Dp.grow, if_pos (by omega)])
      unfold Dp.word at hsp2
      have hsp3 : Hid (Sp w _ blk (k + 1)) := hsp2
      clear hsp2 hsp c0 c1 c2 c3 hsl
      generalize (blk.getD (4 * k) 0).toNat * 16777216 + (blk.getD (4 * k + 1) 0).toNat * 65536 + (blk.getD (4 * k + 2) 0).toNat * 256 + (blk.getD (4 * k + 3) 0).toNat = X at hsp3 ⊢
      go_wp2
      go_roundw
      case rel => exact ⟨k + 1, by omega, by go_num, hsp3.out⟩
      case measure => simp [intOf]; omega
end Go.Proofs.YtgbbajeeelgbhaaGreatDoor.Ds

namespace Go.Proofs.YtgbbajeeelgbhaaGreatDoor.Dt
open Go.RowKit Kt Dk Dw Ds
set_option linter.unusedVariables false
set_option maxRecDepth 20000

/-- The table of constants lies where it was laid. -/
def Tb (w : World) : Prop := ∀ i, i < 64 → w.cell? ⟨0, i, none⟩ = some (.int .u32 ((Dp.KT.getD i 0 : Nat) : Int))
theorem Tb.below {B : Nat} {w w' : World} (h : Tb w) (hb : Below B w w') (hB : 0 < B) : Tb w' := by
  intro i hi
  rw [hb.cell (p := ⟨0, i, none⟩) hB]
  exact h i hi
theorem Tb.size {w : World} (h : Tb w) : 0 < w.heap.size := World.block_lt_of_cell? w _ (h 0 (by omega))

theorem ch_nat (e f g : Nat) (he : e < 4294967296) (hf : f < 4294967296) (hg : g < 4294967296) : bits .xor .u32 (bits .and .u32 (e : Int) (f : Int)) (bits .and .u32 (bits .xor .u32 IntKind.u32.max (e : Int)) (g : Int)) = ((Dp.ch e f g : Nat) : Int) := by
  rw [show IntKind.u32.max = ((4294967295 : Nat) : Int) by rfl, u32_xor_nat _ _ (by omega) he, u32_and_nat _ _ he hf, u32_and_nat _ _ (Dp.xor_lt (by omega) he) hg, u32_xor_nat _ _ (Dp.and_lt he) (Dp.and_lt (Dp.xor_lt (by omega) he)), Dp.ch, Nat.xor_comm 4294967295 e]
theorem maj_nat (a b c : Nat) (ha : a < 4294967296) (hb : b < 4294967296) (hc : c < 4294967296) : bits .xor .u32 (bits .xor .u32 (bits .and .u32 (a : Int) (b : Int)) (bits .and .u32 (a : Int) (c : Int))) (bits .and .u32 (b : Int) (c : Int)) = ((Dp.maj a b c : Nat) : Int) := by
  rw [u32_and_nat _ _ ha hb, u32_and_nat _ _ ha hc, u32_and_nat _ _ hb hc, u32_xor_nat _ _ (Dp.and_lt ha) (Dp.and_lt ha), u32_xor_nat _ _ (Dp.xor_lt (Dp.and_lt ha) (Dp.and_lt ha)) (Dp.and_lt hb), Dp.maj]

theorem H.setWord {W : World} {b : Nat} {l : List Nat} {blk : List UInt8} {n : Nat} {T : TypeId} (h : H W b l blk n T) (j x m : Nat) (hj : j < 8) :
    H ((W.drewN m).setCell ⟨b, 1 + j, none⟩ (.int .u32 (x : Int))) b (l.set j x) blk n T ∧ Only b W ((W.drewN m).setCell ⟨b, 1 + j, none⟩ (.int .u32 (x : Int))) := by
  obtain ⟨hl, hb, hh⟩ := h
  have hh' : (W.drewN m).heap[b]? = some (.cells (hc l blk n) T (0, 0)) := hh
  rw [setCell_eq_setRow (W.drewN m) b (1 + j) _ T (0, 0) _ hh', hc_set_word hl hb j hj x]
  exact ⟨⟨by simpa using hl, hb, setRow_heap _ _ _ _ _ _ hh'⟩, ((Only.refl b W).drewN m).setRow _⟩
theorem mix_get {l l' : List Nat} {j : Nat} (h : l.length = 8) (h' : l'.length = 8) (hj : j < 8) : (l'.take j ++ l.drop j).getD j 0 = l.getD j 0 := by
  simp [List.getD, List.getElem?_append, h', Nat.le_of_lt hj]
theorem mix_set {l l' : List Nat} {j : Nat} (h : l.length = 8) (h' : l'.length = 8) (hj : j < 8) : (l'.take j ++ l.drop j).set j (l'.getD j 0) = l'.take (j + 1) ++ l.drop (j + 1) := by
  have h1 : (l'.take j).length = j := by simp; omega
  rw [List.set_append_right _ _ (by omega), h1, Nat.sub_self, List.take_add_one, List.drop_eq_getElem_cons (by omega : j < l.length), List.set_cons_zero, List.getElem?_eq_getElem (show j < l'.length by omega), List.append_assoc]
  simp only [List.getD, List.getElem?_eq_getElem (show j < l'.length by omega), Option.getD_some, Option.toList_some, List.singleton_append]
theorem plus_get (s t : Dp.St) (j : Nat) (hj : j < 8) : (s.plus t).list.getD j 0 = Dp.add (s.list.getD j 0) (t.list.getD j 0) := by
  obtain h | h | h | h | h | h | h | h : j = 0 ∨ j = 1 ∨ j = 2 ∨ j = 3 ∨ j = 4 ∨ j = 5 ∨ j = 6 ∨ j = 7 := by omega
  all_goals
    subst h
    simp [Dp.St.plus, Dp.St.list]
theorem comp_get (s : Dp.St) (blk : List UInt8) (j : Nat) (hj : j < 8) : (Dp.comp s blk).list.getD j 0 = Dp.add (s.list.getD j 0) ((Dp.rnds s (Dp.sch blk 64) 64).list.getD j 0) := by
  rw [Dp.comp, plus_get _ _ j hj]

set_option maxHeartbeats 4000000 in
theorem takeBlock_any (w : World) (b : Nat) (s : Dp.St) (blk : List UInt8) (n : Nat) (hs : s.ok) (hT : Tb w) (hb0 : 0 < b) (hH : H w b s.list blk n 460) :
    Calls Tryz.prog 395 #[.pointer (some ⟨b, 0, none⟩)] w fun e w' => (∃ v, e = .returned v) ∧ H w' b (Dp.comp s blk).list blk n 460 ∧ Only b w w' := by
  have HS := mkH (spread_any w b s.list blk n hH)
  obtain ⟨hl8, hl64, hh⟩ := hH
  have hbl := block_lt hh
  have hW64 : (W32 (Dp.sch blk 64)).length = 64 := by rw [W32_length, Dp.sch_length]
  have hi64 : (Tryz.prog.info? 463).map (·.size) = some (W32 (Dp.sch blk 64)).length := by rw [hW64]; kernel_rfl
  go_enter Tryz.func395, Tryz.ntmps395
  go_wp2_with fail
  refine HS.out.mono ?_
  rintro e w1 ⟨rfl, hb1⟩
  clear HS
  go_wp2_with (first
    | (refine wpList_alloc_agg rfl 463 rfl 64 (by kernel_rfl) ?_; intro Z hZ)
    | (refine wpList_store_new rfl 463 (.tmp 2) (.tmp 20) rfl w1 Z rfl (W32 (Dp.sch blk 64)) rfl hi64 (by rw [hZ, hW64]) (W32_one _) ?_))
  have hb2 : Below w.heap.size w (w1.alloc (.cells (W32 (Dp.sch blk 64)).toArray 463)) := hb1.alloc hb1.size _
  have hT2 := hT.below hb2 hT.size
  have hsz := hb1.size
  have hg2 := heap_alloc_new w1 (.cells (W32 (Dp.sch blk 64)).toArray 463)
  have hh2 := hb2.block b hbl
  rw [hh] at hh2
  generalize (w1.alloc (.cells (W32 (Dp.sch blk 64)).toArray 463)) = w2 at hb2 hT2 hg2 hh2 ⊢
  clear hb1 hT
  obtain ⟨g, hg⟩ : ∃ g, w1.heap.size = g := ⟨_, rfl⟩
  rw [hg] at hg2 hsz ⊢
  clear hg
  obtain ⟨s1, s2, s3, s4, s5, s6, s7, s8⟩ := s
  have k1 : w2.cell? ⟨b, 1, none⟩ = some (.int .u32 (s1 : Int)) := by rw [cell_of_row _ _ _ _ _ _ hh2]; exact hc_word hl8 hl64 0 (by omega)
  have k2 : w2.cell? ⟨b, 2, none⟩ = some (.int .u32 (s2 : Int)) := by rw [cell_of_row _ _ _ _ _ _ hh2]; exact hc_word hl8 hl64 1 (by omega)
  have k3 : w2.cell? ⟨b, 3, none⟩ = some (.int .u32 (s3 : Int)) := by rw [cell_of_row _ _ _ _ _ _ hh2]; exact hc_word hl8 hl64 2 (by omega)
  have k4 : w2.cell? ⟨b, 4, none⟩ = some (.int .u32 (s4 : Int)) := by rw [cell_of_row _ _ _ _ _ _ hh2]; exact hc_word hl8 hl64 3 (by omega)
  have k5 : w2.cell? ⟨b, 5, none⟩ = some (.int .u32 (s5 : Int)) := by rw [cell_of_row _ _ _ _ _ _ hh2]; exact hc_word hl8 hl64 4 (by omega)
  have k6 : w2.cell? ⟨b, 6, none⟩ = some (.int .u32 (s6 : Int)) := by rw [cell_of_row _ _ _ _ _ _ hh2]; exact hc_word hl8 hl64 5 (by omega)
  have k7 : w2.cell? ⟨b, 7, none⟩ = some (.int .u32 (s7 : Int)) := by rw [cell_of_row _ _ _ _ _ _ hh2]; exact hc_word hl8 hl64 6 (by omega)
  have k8 : w2.cell? ⟨b, 8, none⟩ = some (.int .u32 (s8 : Int)) := by rw [cell_of_row _ _ _ _ _ _ hh2]; exact hc_word hl8 hl64 7 (by omega)
  go_wp2_with fail
  go_quiet (fail)
  go_wp2_with fail
  go_quiet (fail)
  go_wp2_with (refine wpList_load_agg rfl 463 (.tmp 2) rfl _ Tryz.underlying463 rfl g 0 rfl (W32 (Dp.sch blk 64)) hi64 ?hc ?_; (case hc => intro j v hv; exact (cell_of_row _ _ _ _ _ _ hg2).trans (by simpa using hv)))
  clear k1 k2 k3 k4 k5 k6 k7 k8
  go_loopw [3, 4, 5, 6, 7, 8, 9, 10, 62] (fun v3 v4 v5 v6 v7 v8 v9 v10 i W => ∃ (k m : Nat) (t : Dp.St), k ≤ 64 ∧ t.ok ∧ Hid (Dp.rnds ⟨s1, s2, s3, s4, s5, s6, s7, s8⟩ (Dp.sch blk 64) k = t) ∧ v3 = .int .u32 (t.a : Int) ∧ v4 = .int .u32 (t.b : Int) ∧ v5 = .int .u32 (t.c : Int) ∧ v6 = .int .u32 (t.d : Int) ∧ v7 = .int .u32 (t.e : Int) ∧ v8 = .int .u32 (t.f : Int) ∧ v9 = .int .u32 (t.g : Int) ∧ v10 = .int .u32 (t.h : Int) ∧ i = .int .i64 k ∧ W = w2.drewN m) (fun _ _ _ _ _ _ _ _ i _ => 64 - (intOf i).toNat)
  case atStart => exact ⟨0, _, ⟨s1, s2, s3, s4, s5, s6, s7, s8⟩, by omega, hs, rfl, rfl, rfl, rfl, rfl, rfl, rfl, rfl, rfl, rfl, rfl⟩
  case round =>
    obtain ⟨k, m, ⟨a, b', c, d, e, f, g', p8⟩, hk, ht, hR, rfl, rfl, rfl, rfl, rfl, rfl, rfl, rfl, rfl, rfl⟩ := hrel
    rw [Dp.St.ok_iff] at ht
    obtain ⟨ha, hb, hc, hd, he, hf, hgg, hhh⟩ := ht
    simp only at ha hb hc hd he hf hgg hhh ⊢
    by_cases hlt : k = 64
    · subst hlt
      have hR' := hR.out
      go_wp2
      obtain ⟨ar, har⟩ : ∃ ar : Array Value, ar = #[.int .u32 (a : Int), .int .u32 (b' : Int), .int .u32 (c : Int), .int .u32 (d : Int), .int .u32 (e : Int), .int .u32 (f : Int), .int .u32 (g' : Int), .int .u32 (p8 : Int)] := ⟨_, rfl⟩
      rw [← har]
      have hix0 := fun (j : Nat) (hj : j < 8) => run_index_agg (P := Tryz.prog) 457 318 8 Tryz.underlying457 _ Tryz.underlying318 rfl (by kernel_rfl) (W32 [a, b', c, d, e, f, g', p8]) j hj _ (W32_at [a, b', c, d, e, f, g', p8] j hj)
      have hix1 : Hid (∀ (j : Nat), j < 8 → ∀ W, (Instr.index 457 (.agg ar) (.int .i64 j)).run Tryz.prog W = .ok (.int .u32 (([a, b', c, d, e, f, g', p8].getD j 0 : Nat) : Int)) W) := by rw [har]; exact hix0
      have hcl : Hid (∀ j, j < 8 → (Dp.comp ⟨s1, s2, s3, s4, s5, s6, s7, s8⟩ blk).list.getD j 0 = Dp.add ([s1, s2, s3, s4, s5, s6, s7, s8].getD j 0) ([a, b', c, d, e, f, g', p8].getD j 0)) := by
        intro j hj
        rw [comp_get _ _ j hj, hR']; rfl
      have hH2 : H (w2.drewN m) b ([s1, s2, s3, s4, s5, s6, s7, s8] : List Nat) blk n 460 := ⟨rfl, hl64, hh2⟩
      have hO2 : Only b w (w2.drewN m) := (Only.ofBelow hb2).drewN m
      have hXl : ∀ j, [a, b', c, d, e, f, g', p8].getD j 0 < 4294967296 := Dp.getD_lt (by simp; exact ⟨ha, hb, hc, hd, he, hf, hgg, hhh⟩)
      have hYl : ∀ j, [s1, s2, s3, s4, s5, s6, s7, s8].getD j 0 < 4294967296 := Dp.getD_lt hs
      have HXl := mkH hXl
      have HYl := mkH hYl
      clear hix0 har hR hR' hT2 hh2 hg2 hs hl8 hl64 hh hbl hW64 hi64 hb2 hsz hXl hYl
      generalize w2.drewN m = w3 at hH2 hO2 ⊢
      go_loopw [123] (fun i W => ∃ j : Nat, j ≤ 8 ∧ i = .int .i64 j ∧ H W b ((Dp.comp ⟨s1, s2, s3, s4, s5, s6, s7, s8⟩ blk).list.take j ++ ([s1, s2, s3, s4, s5, s6, s7, s8] : List Nat).drop j) blk n 460 ∧ Only b w W) (fun i _ => 8 - (intOf i).toNat)
      case atStart => exact ⟨0, by omega, rfl, by simpa using hH2, hO2⟩
      case round =>
        clear hH2 hO2
        obtain ⟨j, hj, rfl, hH, hO⟩ := hrel
        by_cases hlt : j = 8
        · have t1 : decide ((j : Int) < 8) = false := by simp; omega
          subst hlt
          have HH : Hid (H wr b (Dp.comp ⟨s1, s2, s3, s4, s5, s6, s7, s8⟩ blk).list blk n 460) := hH
          have HO := mkH hO
          clear hH hO
          go_wp2
          refine bodyPost_end (results_none rfl _ _ _) rfl ?_
          exact ⟨⟨_, rfl⟩, HH.out, HO.out⟩
        · have t1 : decide ((j : Int) < 8) = true := by simp; omega
          have hj0 : (j : Int) < 8 := by omega
          have hj1 : j < 8 := by omega
          have hix := hix1.out j hj1
          have hcell : wr.cell? ⟨b, 1 + j, none⟩ = some (.int .u32 (([s1, s2, s3, s4, s5, s6, s7, s8].getD j 0 : Nat) : Int)) := by
            rw [cell_of_row _ _ _ _ _ _ hH.2.2, hc_word hH.1 hH.2.1 j hj1, mix_get rfl rfl hj1]
          have hfr : ∀ o, wr.frozen? ⟨b, o, none⟩ = false := fun o => by simp [World.frozen?, hH.2.2]
          have HN : Hid (∀ m, H ((wr.drewN m).setCell ⟨b, 1 + j, none⟩ (.int .u32 (((Dp.add ([s1, s2, s3, s4, s5, s6, s7, s8].getD j 0) ([a, b', c, d, e, f, g', p8].getD j 0)) : Nat) : Int))) b ((Dp.comp ⟨s1, s2, s3, s4, s5, s6, s7, s8⟩ blk).list.take (j + 1) ++ ([s1, s2, s3, s4, s5, s6, s7, s8] : List Nat).drop (j + 1)) blk n 460 ∧ Only b w ((wr.drewN m).setCell ⟨b, 1 + j, none⟩ (.int .u32 (((Dp.add ([s1, s2, s3, s4, s5, s6, s7, s8].getD j 0) ([a, b', c, d, e, f, g', p8].getD j 0)) : Nat) : Int)))) := by
            intro m
            have h1 := H.setWord hH j (Dp.add ([s1, s2, s3, s4, s5, s6, s7, s8].getD j 0) ([a, b', c, d, e, f, g', p8].getD j 0)) m hj1
            refine ⟨?_, hO.trans h1.2⟩
            have h2 := h1.1
            rw [← hcl.out j hj1, mix_set rfl rfl hj1] at h2
            rw [← hcl.out j hj1]
            exact h2
          have hx := HXl.out j
          have hy := HYl.out j
          generalize [a, b', c, d, e, f, g', p8].getD j 0 = X at hix hx HN
          generalize [s1, s2, s3, s4, s5, s6, s7, s8].getD j 0 = Y at hcell hy HN
          unfold Dp.add at HN
          clear hH hO
          go_wp2_with fail
          go_region
          go_wp2_with fail
          rw [show ((Y : Int) + (X : Int)) % 4294967296 = (((Y + X) % 4294967296 : Nat) : Int) by omega]
          refine ⟨?rel, ?measure⟩
          case rel => exact ⟨j + 1, by omega, by go_num, (HN.out 1).1, (HN.out 1).2⟩
          case measure => simp [intOf]; omega
    · have t0 : decide ((k : Int) < 64) = true := by simp; omega
      have hk0 : (k : Int) < 64 := by omega
      have hk1 : k < 64 := by omega
      have hw := W32_at (Dp.sch blk 64) k (by rw [Dp.sch_length]; omega)
      obtain ⟨w3, hw3⟩ : ∃ w3, w3 = w2.drewN m := ⟨_, rfl⟩
      rw [← hw3]
      have hKc : w3.cell? ⟨0, k, none⟩ = some (.int .u32 ((Dp.KT.getD k 0 : Nat) : Int)) := by rw [hw3]; exact hT2 k hk1
      have HW3 : Hid (w3 = w2.drewN m) := hw3
      clear hw3
      have hwl := Dp.getD_lt (Dp.sch_lt blk 64) k
      have hKl := Dp.KT_lt k
      have HR2 : Hid (Dp.rnds ⟨s1, s2, s3, s4, s5, s6, s7, s8⟩ (Dp.sch blk 64) (k + 1) = Dp.St.step ⟨a, b', c, d, e, f, g', p8⟩ (Dp.KT.getD k 0) ((Dp.sch blk 64).getD k 0)) := by
        unfold Hid
        rw [Dp.rnds, hR.out]
      generalize (Dp.sch blk 64).getD k 0 = X at hw hwl HR2
      generalize Dp.KT.getD k 0 = K at hKc hKl HR2
      clear hR hT2 hh2 hg2 hs hl8 hl64 hh hbl hW64 hi64 hb2 hsz
      have e1 := ch_nat e f g' he hf hgg
      have e2 := maj_nat a b' c ha hb hc
      have T1 : Hid (∀ W, Calls Tryz.prog 400 #[.int .u32 (e : Int), .int .i64 6, .int .i64 11, .int .i64 25] W fun x w' => x = .returned (.int .u32 (Dp.big 6 11 25 e : Nat)) ∧ w' = W) := fun W => turned_any W e 6 11 25 he (by decide) (by decide) (by decide)
      have T2 : Hid (∀ W, Calls Tryz.prog 400 #[.int .u32 (a : Int), .int .i64 2, .int .i64 13, .int .i64 22] W fun x w' => x = .returned (.int .u32 (Dp.big 2 13 22 a : Nat)) ∧ w' = W) := fun W => turned_any W a 2 13 22 ha (by decide) (by decide) (by decide)
      have hix := run_index_agg (P := Tryz.prog) 463 318 64 Tryz.underlying463 _ Tryz.underlying318 rfl (by kernel_rfl) (W32 (Dp.sch blk 64)) k hk1 _ hw
      clear hw
      obtain ⟨ws, hws⟩ : ∃ ws, (W32 (Dp.sch blk 64)).toArray = ws := ⟨_, rfl⟩
      rw [hws] at hix ⊢
      clear hws
      go_wp2_with fail
      go_quiet ((go_at_call 400; exact Calls.quiet_of_same (T1.out _)))
      go_wp2_with fail
      refine (T2.out _).mono ?_
      rintro x w4 ⟨rfl, rfl⟩
      have E1 : (((p8 : Int) + ((Dp.big 6 11 25 e : Nat) : Int) + ((Dp.ch e f g' : Nat) : Int) + (K : Int)) % 4294967296 + (X : Int)) % 4294967296 = ((Dp.one ⟨a, b', c, d, e, f, g', p8⟩ K X : Nat) : Int) := by
        simp only [Dp.one, Dp.add]
        omega
      have hO := Dp.one_lt ⟨a, b', c, d, e, f, g', p8⟩ K X
      rw [E1]
      have HO : Hid (Dp.St.step ⟨a, b', c, d, e, f, g', p8⟩ K X = ⟨Dp.add (Dp.one ⟨a, b', c, d, e, f, g', p8⟩ K X) (Dp.add (Dp.big 2 13 22 a) (Dp.maj a b' c)), a, b', c, Dp.add d (Dp.one ⟨a, b', c, d, e, f, g', p8⟩ K X), e, f, g'⟩) := rfl
      have hst := Dp.step_ok (s := ⟨a, b', c, d, e, f, g', p8⟩) (by rw [Dp.St.ok_iff]; exact ⟨ha, hb, hc, hd, he, hf, hgg, hhh⟩) K X
      have HST := mkH hst
      clear hst E1 T1 T2 e1 e2 hKc hix
      rw [HO.out] at HST HR2
      generalize Dp.one ⟨a, b', c, d, e, f, g', p8⟩ K X = O at hO HST HR2 ⊢
      have hBl := Dp.big_lt (i := 2) (j := 13) (k := 22) ha
      have hMl := Dp.maj_lt (c := c) ha hb
      clear HO
      generalize Dp.big 2 13 22 a = B at hBl HST HR2 ⊢
      generalize Dp.maj a b' c = J at hMl HST HR2 ⊢
      go_wp2
      refine ⟨?rel, ?measure⟩
      case rel => exact ⟨k + 1, _, _, by omega, HST.out, HR2, congrArg (Value.int .u32) (by simp only [Dp.add]; omega), rfl, rfl, rfl, congrArg (Value.int .u32) (by simp only [Dp.add]; omega), rfl, rfl, rfl, by go_num, by rw [HW3.out, World.drewN_drewN]⟩
      case measure => simp [intOf]; omega
end Go.Proofs.YtgbbajeeelgbhaaGreatDoor.Dt

namespace Go.Proofs.YtgbbajeeelgbhaaGreatDoor.De
open Go.RowKit Kt Dk Dw Ds Dt
set_option linter.unusedVariables false
set_option maxRecDepth 20000

theorem zero5 (w : World) : (zeroValue 5).run Tryz.prog w = .ok (.int .u8 0) w := by
  have h : (Tryz.prog.info? 5).map (fun i => (i.zero, i.size)) = some (some (.int .u8 0), 1) := by kernel_rfl
  exact (zero_of_info h).1 w
theorem U_rep (n : Nat) : List.replicate n (Value.int .u8 0) = U (List.replicate n 0) := by simp [U]
theorem len8_small {n : Nat} (h : n ≤ 100000) : Dp.len8 n = Dp.bytes4 0 ++ Dp.bytes4 (n * 8) := by
  unfold Dp.len8
  rw [show n * 8 / 4294967296 = 0 by omega, show n * 8 % 4294967296 = n * 8 by omega]
theorem set_take (blk : List UInt8) (r : Nat) (c : UInt8) (h : r < blk.length) : (blk.set r c).take (r + 1) = blk.take r ++ [c] := by
  rw [List.take_add_one, List.take_set_of_le (Nat.le_refl _)]
  simp [h]
theorem splice_end {l r : List UInt8} {k : Nat} (h : l.length = k) : l ++ r.drop k = l ++ r.drop k := rfl

/-- clear of a part of a Hash's block. -/
theorem hClear {W : World} {b : Nat} {l : List Nat} {blk : List UInt8} {n : Nat} (h : H W b l blk n 460) (r m c : Nat) (ad : Addr) (had : m = 0 ∨ ad = ⟨b, 9 + r, none⟩) (hm : r + m = 64) (ty : TypeId) :
    ∃ W', (Builtin.clear_ #[41] ty #[.slice (some ad) m c]).run Tryz.prog W = .ok (.tuple #[]) W' ∧ H W' b l (blk.take r ++ List.replicate m 0) n 460 ∧ Only b W W' := by
  obtain ⟨h1, h2, h3⟩ := h
  have hs := hc_size (n := n) h1 h2
  refine ⟨_, run_clear_any (P := Tryz.prog) 41 5 ty (.int .u8 0) Tryz.underlying41 zero5 rfl rfl ad b (9 + r) m c had _ _ h3 (by omega), ?_, (Only.refl _ _).setRow _⟩
  rw [U_rep, hc_splice h1 h2 r _ (by simp; omega), List.drop_eq_nil_of_le (by simp; omega), List.append_nil]
  exact ⟨h1, by simp; omega, setRow_heap _ _ _ _ _ _ h3⟩

/-- putWord into a Hash's block. -/
theorem putWord_H (W : World) (b : Nat) (l : List Nat) (blk : List UInt8) (n : Nat) (h : H W b l blk n 460) (r x off m : Nat) (hr : r + 4 ≤ 64) (hoff : off = 9 + r) (hm : 4 ≤ m) (hm2 : m ≤ 1000000) (c : Nat) (hx : x < 4294967296) :
    Calls Tryz.prog 397 #[.slice (some ⟨b, off, none⟩) m c, .int .u32 x] W fun e w' => (∃ v, e = .returned v) ∧ H w' b l (blk.take r ++ Dp.bytes4 x ++ blk.drop (r + 4)) n 460 ∧ Only b W w' := by
  subst hoff
  obtain ⟨h1, h2, h3⟩ := h
  have hs := hc_size (n := n) h1 h2
  refine (putWord_any W b (9 + r) m c x _ _ h3 hm hm2 (by omega) hx).mono ?_
  rintro e w' ⟨he, rfl⟩
  refine ⟨he, ?_, (Only.refl _ _).setRow _⟩
  rw [hc_splice h1 h2 r _ (by rw [Dp.bytes4_length]; omega), Dp.bytes4_length]
  exact ⟨h1, by simp [Dp.bytes4_length]; omega, setRow_heap _ _ _ _ _ _ h3⟩

theorem hLt {W : World} {b : Nat} {l : List Nat} {blk : List UInt8} {n : Nat} {T : TypeId} (h : H W b l blk n T) : b < W.heap.size := block_lt h.2.2
theorem hSize {W : World} {b : Nat} {l : List Nat} {blk : List UInt8} {n : Nat} {T : TypeId} (h : H W b l blk n T) : W.cell? ⟨b, 73, none⟩ = some (.int .i64 (n : Int)) := by
  rw [cell_of_row _ _ _ _ _ _ h.2.2]; exact hc_n h.1 h.2.1
theorem hMade {W : World} {b : Nat} {l : List Nat} {blk : List UInt8} {n : Nat} {T : TypeId} (h : H W b l blk n T) : W.cell? ⟨b, 0, none⟩ = some (.bool true) := by
  rw [cell_of_row _ _ _ _ _ _ h.2.2]; exact hc_made h.1 h.2.1
theorem hByte {W : World} {b : Nat} {l : List Nat} {blk : List UInt8} {n : Nat} {T : TypeId} (h : H W b l blk n T) {j : Nat} (hj : j < 64) : ∃ v, W.cell? ⟨b, 9 + j, none⟩ = some v := by
  rw [cell_of_row _ _ _ _ _ _ h.2.2]; exact ⟨_, hc_byte h.1 h.2.1 j hj⟩
theorem hFree {W : World} {b : Nat} {l : List Nat} {blk : List UInt8} {n : Nat} {T : TypeId} (h : H W b l blk n T) (o : Nat) : W.frozen? ⟨b, o, none⟩ = false := by simp [World.frozen?, h.2.2]
theorem hSetByte {W : World} {b : Nat} {l : List Nat} {blk : List UInt8} {n : Nat} {T : TypeId} (h : H W b l blk n T) (j : Nat) (hj : j < 64) (c : UInt8) : H (W.setCell ⟨b, 9 + j, none⟩ (.int .u8 (c.toNat : Int))) b l (blk.set j c) n T ∧ Only b W (W.setCell ⟨b, 9 + j, none⟩ (.int .u8 (c.toNat : Int))) := by
  obtain ⟨h1, h2, h3⟩ := h
  rw [setCell_eq_setRow W b (9 + j) _ T (0, 0) _ h3, hc_set_byte h1 h2 j hj c]
  exact ⟨⟨h1, by simpa using h2, setRow_heap _ _ _ _ _ _ h3⟩, (Only.refl b W).setRow _⟩
theorem tbOnly {b : Nat} {w w' : World} (h : Tb w) (ho : Only b w w') (hb : 0 < b) : Tb w' := h.below (ho.below (B := 1) (by omega) h.size) (by omega)

/-- The tail of 'end': the number of bits, and the last block. -/
theorem tail_blk (X : List UInt8) (n : Nat) (hX : X.length = 64) (hn : n ≤ 100000) : ((X.take 56 ++ Dp.bytes4 0 ++ X.drop (56 + 4)).take 60 ++ Dp.bytes4 (n * 8) ++ (X.take 56 ++ Dp.bytes4 0 ++ X.drop (56 + 4)).drop (60 + 4)) = X.take 56 ++ Dp.len8 n := by
  have h1 : (X.take 56 ++ Dp.bytes4 0).length = 60 := by simp [Dp.bytes4_length, hX]
  rw [len8_small hn, List.take_left' h1, List.drop_eq_nil_of_le (by simp [Dp.bytes4_length, hX]), List.append_nil, List.append_assoc]

set_option maxHeartbeats 4000000 in
theorem end_any (w : World) (b : Nat) (all blk : List UInt8) (hT : Tb w) (hb0 : 0 < b) (hn : all.length ≤ 100000) (hblk : blk.take (all.length % 64) = all.drop (64 * (all.length / 64)))
    (hH : H w b (Dp.blks Dp.init all (all.length / 64)).list blk all.length 460) :
    Calls Tryz.prog 396 #[.pointer (some ⟨b, 0, none⟩)] w fun e w' => (∃ v, e = .returned v) ∧ (∃ blk', H w' b (Dp.fin all).list blk' all.length 460) ∧ Only b w w' := by
  have hsok := Dp.blks_ok Dp.init_ok all (all.length / 64)
  obtain ⟨s, hs⟩ : ∃ s, Dp.blks Dp.init all (all.length / 64) = s := ⟨_, rfl⟩
  rw [hs] at hH hsok
  obtain ⟨r, hr⟩ : ∃ r, all.length % 64 = r := ⟨_, rfl⟩
  have hr64 : r < 64 := by omega
  have hsz := hSize hH
  obtain ⟨v0, hv0⟩ := hByte hH hr64
  have hfr := hFree hH
  obtain ⟨h1, ho1⟩ := hSetByte hH r hr64 128
  have e128 : ((128 : UInt8).toNat : Int) = 128 := rfl
  rw [e128] at h1 ho1
  have hl64 := hH.2.1
  have hB1 : (blk.set r 128).take (r + 1) ++ List.replicate (63 - r) 0 = all.drop (64 * (all.length / 64)) ++ ([128] ++ List.replicate (63 - r) 0) := by
    rw [set_take _ _ _ (by omega), ← hr, hblk, List.append_assoc]
  obtain ⟨n, hnn⟩ : ∃ n, all.length = n := ⟨_, rfl⟩
  have tm : (n : Int).tmod 64 = (r : Int) := by rw [Int.tmod_eq_emod_of_nonneg (by omega)]; omega
  have hsl : ∃ ad : Addr, (63 - r = 0 ∨ ad = ⟨b, 9 + (r + 1), none⟩) ∧ ∀ W, (Instr.sliceAt 458 (.pointer (some ⟨b, 9, none⟩)) (some (.int .i64 ((r : Int) + 1))) none none).run Tryz.prog W = .ok (.slice (some ad) (63 - r) (63 - r)) W := by
    by_cases h63 : r = 63
    · exact ⟨⟨b, 9, none⟩, .inl (by omega), fun W => by rw [run_arr_end (P := Tryz.prog) W 458 5 64 Tryz.underlying458 (by kernel_rfl) b 9 _ (by omega)]; simp [h63]⟩
    · exact ⟨⟨b, 9 + (r + 1), none⟩, .inr rfl, fun W => by rw [run_arr_low (P := Tryz.prog) W 458 5 64 Tryz.underlying458 (by kernel_rfl) b 9 (r + 1) _ (by omega) (by omega), show 64 - (r + 1) = 63 - r by omega]⟩
  obtain ⟨ad, had, hsl⟩ := hsl
  have hcl := fun ty => hClear h1 (r + 1) (63 - r) (63 - r) ad had (by omega) ty
  rw [hB1] at hcl
  rw [hnn] at hsz hn
  clear hB1 hblk had
  have HF := mkH (And.intro (Dp.fin_small all) (Dp.fin_big all))
  rw [hs] at HF
  obtain ⟨D, hD⟩ : ∃ D, all.drop (64 * (all.length / 64)) = D := ⟨_, rfl⟩
  rw [hD] at HF hcl
  have hDl : D.length = r := by rw [← hD, List.length_drop]; omega
  have HD : Hid (D.length = r) := hDl
  rw [hnn, show n % 64 = r by omega] at HF
  have hn64 : Hid (n % 64 = r) := by unfold Hid; omega
  have hi64 : ∀ W, (Instr.sliceAt 458 (.pointer (some ⟨b, 9, none⟩)) (some (.int .i64 56)) none none).run Tryz.prog W = .ok (.slice (some ⟨b, 65, none⟩) 8 8) W := fun W => run_arr_low (P := Tryz.prog) W 458 5 64 Tryz.underlying458 (by kernel_rfl) b 9 56 56 rfl (by decide)
  have lo64 : ∀ W, (Instr.sliceAt 458 (.pointer (some ⟨b, 9, none⟩)) (some (.int .i64 60)) none none).run Tryz.prog W = .ok (.slice (some ⟨b, 69, none⟩) 4 4) W := fun W => run_arr_low (P := Tryz.prog) W 458 5 64 Tryz.underlying458 (by kernel_rfl) b 9 60 60 rfl (by decide)
  have al64 : ∀ W, (Instr.sliceAt 458 (.pointer (some ⟨b, 9, none⟩)) none none none).run Tryz.prog W = .ok (.slice (some ⟨b, 9, none⟩) 64 64) W := fun W => run_arr_all (P := Tryz.prog) W 458 5 64 Tryz.underlying458 (by kernel_rfl) (by decide) b 9
  obtain ⟨W2, hc2, h2, ho2⟩ := hcl 0
  have HT := mkH (tbOnly (tbOnly hT ho1 hb0) ho2 hb0)
  have HO := mkH (ho1.trans ho2)
  rw [hnn] at h2
  have H2 := mkH h2
  have HNN : Hid (all.length = n) := hnn
  have HS := mkH hsok
  clear h1 ho1 ho2 h2 hcl hs hr hH hsok hT hl64 hD hDl hnn
  obtain ⟨m8, hm8⟩ : ∃ m8, n * 8 = m8 := ⟨_, rfl⟩
  have e8 : (n : Int) * 8 = (m8 : Int) := by omega
  have z0 : (m8 : Int) / 4294967296 = 0 := by omega
  have hm8l : m8 ≤ 800000 := by omega
  have HM : Hid (n * 8 = m8) := hm8
  have HN : Hid (n ≤ 100000) := hn
  clear hm8
  by_cases h56 : 56 ≤ r
  · have t0 : decide ((56 : Int) ≤ (r : Int)) = true := by simp; omega
    go_enter Tryz.func396, Tryz.ntmps396
    go_wp2_with fail
    refine (takeBlock_any W2 b s _ n HS.out HT.out hb0 H2.out).mono ?_
    rintro e W3 ⟨⟨v, rfl⟩, h3, ho3⟩
    obtain ⟨W4, hc4, h4, ho4⟩ := hClear h3 0 64 64 ⟨b, 9, none⟩ (.inr rfl) rfl 0
    have HO4 := mkH ((HO.out.trans ho3).trans ho4)
    have HT4 := mkH (tbOnly (tbOnly HT.out ho3 hb0) ho4 hb0)
    rw [List.take_zero, List.nil_append] at h4
    have H4 := mkH h4
    clear h3 ho3 h4 ho4 HO HT H2 hc2
    go_wp2_with fail
    refine (putWord_H W4 b _ _ n H4.out 56 0 65 8 (by decide) rfl (by decide) (by decide) 8 (by decide)).mono ?_
    rintro e W5 ⟨⟨v5, rfl⟩, h5, ho5⟩
    have H5 := mkH h5
    have HO5 := mkH (HO4.out.trans ho5)
    have HT5 := mkH (tbOnly HT4.out ho5 hb0)
    clear h5 ho5 HO4 HT4 H4
    go_wp2_with fail
    refine (putWord_H W5 b _ _ n H5.out 60 m8 69 4 (by decide) rfl (by decide) (by decide) 4 (by omega)).mono ?_
    rintro e W6 ⟨⟨v6, rfl⟩, h6, ho6⟩
    have hX : (List.replicate 64 (0 : UInt8)).length = 64 := by simp
    have ht := tail_blk (List.replicate 64 0) n hX HN.out
    rw [HM.out] at ht
    rw [ht] at h6
    have H6 := mkH h6
    have HO6 := mkH (HO5.out.trans ho6)
    have HT6 := mkH (tbOnly HT5.out ho6 hb0)
    clear h6 ho6 HO5 HT5 H5 ht hX
    go_wp2_with fail
    refine (takeBlock_any W6 b _ _ n (Dp.comp_ok _ _) HT6.out hb0 H6.out).mono ?_
    rintro e W7 ⟨⟨v7, rfl⟩, h7, ho7⟩
    have H7 := mkH h7
    have HO7 := mkH (HO6.out.trans ho7)
    clear h7 ho7 HO6 HT6 H6
    go_wp2
    refine bodyPost_end (results_none rfl _ _ _) rfl ?_
    have e1 : (List.replicate 64 (0 : UInt8)).take 56 = List.replicate 56 0 := by simp
    have h7 := H7.out
    rw [e1, ← HF.out.2 h56, ← HNN.out] at h7
    exact ⟨⟨_, rfl⟩, ⟨_, h7⟩, HO7.out⟩
  · have t0 : decide ((56 : Int) ≤ (r : Int)) = false := by simp; omega
    go_enter Tryz.func396, Tryz.ntmps396
    go_wp2_with fail
    refine (putWord_H W2 b _ _ n H2.out 56 0 65 8 (by decide) rfl (by decide) (by decide) 8 (by decide)).mono ?_
    rintro e W5 ⟨⟨v5, rfl⟩, h5, ho5⟩
    have H5 := mkH h5
    have HO5 := mkH (HO.out.trans ho5)
    have HT5 := mkH (tbOnly HT.out ho5 hb0)
    clear h5 ho5 HO HT hc2
    go_wp2_with fail
    refine (putWord_H W5 b _ _ n H5.out 60 m8 69 4 (by decide) rfl (by decide) (by decide) 4 (by omega)).mono ?_
    rintro e W6 ⟨⟨v6, rfl⟩, h6, ho6⟩
    have ht := tail_blk _ n H2.out.2.1 HN.out
    rw [HM.out] at ht
    rw [ht] at h6
    have H6 := mkH h6
    have HO6 := mkH (HO5.out.trans ho6)
    have HT6 := mkH (tbOnly HT5.out ho6 hb0)
    clear h6 ho6 HO5 HT5 H5 ht H2
    go_wp2_with fail
    refine (takeBlock_any W6 b s _ n HS.out HT6.out hb0 H6.out).mono ?_
    rintro e W7 ⟨⟨v7, rfl⟩, h7, ho7⟩
    have H7 := mkH h7
    have HO7 := mkH (HO6.out.trans ho7)
    clear h7 ho7 HO6 HT6 H6
    go_wp2
    refine bodyPost_end (results_none rfl _ _ _) rfl ?_
    have e1 : (D ++ ([128] ++ List.replicate (63 - r) (0 : UInt8))).take 56 = D ++ ([128] ++ List.replicate (55 - r) 0) := by
      have hd := HD.out
      rw [List.take_append, List.take_of_length_le (by omega), hd, List.take_append, List.take_of_length_le (by simp; omega)]
      simp
      omega
    have h7 := H7.out
    rw [e1, List.append_assoc, List.append_assoc, ← HF.out.1 (by omega), ← HNN.out] at h7
    exact ⟨⟨_, rfl⟩, ⟨_, h7⟩, HO7.out⟩
end Go.Proofs.YtgbbajeeelgbhaaGreatDoor.De
