/-
  The contract of takeBlock: the rounds with a whole block.
-/
import Derived.Test.YtcpmaddleleblaaDoorDgS
namespace Go.Proofs.YtcpmaddleleblaaDoor.Dt
open Go.RowKit Kt Dk Dw Ds
set_option linter.unusedVariables false
set_option maxRecDepth 20000

/-- The table of constants lies where it was laid. -/
def Tb (w : World) : Prop := ∀ i, i < 64 → w.cell? ⟨0, i, none⟩ = some (.int .u32 ((Dp.KT.getD i 0 : Nat) : Int))
theorem Tb.below {B : Nat} {w w' : World} (h : Tb w) (hb : Below B w w') (hB : 0 < B) : Tb w' := by
  intro i hi
  rw [hb.cell (p := ⟨0, i, none⟩) hB]
  exact h i hi
theorem Tb.size {w : World} (h : Tb w) : 0 < w.heap.size := World.block_lt_of_cell? w _ (h 0 (by omega))

theorem ch_nat (e f g : Nat) (he : e < 4294967296) (hf : f < 4294967296) (hg : g < 4294967296) : bits .xor .u32 (bits .and .u32 (e : Int) (f : Int)) (bits .and .u32 (bits .xor .u32 IntKind.u32.max (e : Int)) (g : Int)) = ((Dp.ch e f g : Nat) : Int) := by
  rw [show IntKind.u32.max = ((4294967295 : Nat) : Int) by rfl, u32_xor_nat _ _ (by omega) he, u32_and_nat _ _ he hf, u32_and_nat _ _ (Dp.xor_lt (by omega) he) hg, u32_xor_nat _ _ (Dp.and_lt he) (Dp.and_lt (Dp.xor_lt (by omega) he)), Dp.ch, Nat.xor_comm 4294967295 e]
theorem maj_nat (a b c : Nat) (ha : a < 4294967296) (hb : b < 4294967296) (hc : c < 4294967296) : bits .xor .u32 (bits .xor .u32 (bits .and .u32 (a : Int) (b : Int)) (bits .and .u32 (a : Int) (c : Int))) (bits .and .u32 (b : Int) (c : Int)) = ((Dp.maj a b c : Nat) : Int) := by
  rw [u32_and_nat _ _ ha hb, u32_and_nat _ _ ha hc, u32_and_nat _ _ hb hc, u32_xor_nat _ _ (Dp.and_lt ha) (Dp.and_lt ha), u32_xor_nat _ _ (Dp.xor_lt (Dp.and_lt ha) (Dp.and_lt ha)) (Dp.and_lt hb), Dp.maj]

theorem H.setWord {W : World} {b : Nat} {l : List Nat} {blk : List UInt8} {n : Nat} {T : TypeId} (h : H W b l blk n T) (j x m : Nat) (hj : j < 8) :
    H ((W.drewN m).setCell ⟨b, 1 + j, none⟩ (.int .u32 (x : Int))) b (l.set j x) blk n T ∧ Only b W ((W.drewN m).setCell ⟨b, 1 + j, none⟩ (.int .u32 (x : Int))) := by
  obtain ⟨hl, hb, hh⟩ := h
  have hh' : (W.drewN m).heap[b]? = some (.cells (hc l blk n) T (0, 0)) := hh
  rw [setCell_eq_setRow (W.drewN m) b (1 + j) _ T (0, 0) _ hh', hc_set_word hl hb j hj x]
  exact ⟨⟨by simpa using hl, hb, setRow_heap _ _ _ _ _ _ hh'⟩, ((Only.refl b W).drewN m).setRow _⟩
theorem mix_get {l l' : List Nat} {j : Nat} (h : l.length = 8) (h' : l'.length = 8) (hj : j < 8) : (l'.take j ++ l.drop j).getD j 0 = l.getD j 0 := by
  simp [List.getD, List.getElem?_append, h', Nat.le_of_lt hj]
theorem mix_set {l l' : List Nat} {j : Nat} (h : l.length = 8) (h' : l'.length = 8) (hj : j < 8) : (l'.take j ++ l.drop j).set j (l'.getD j 0) = l'.take (j + 1) ++ l.drop (j + 1) := by
  have h1 : (l'.take j).length = j := by simp; omega
  rw [List.set_append_right _ _ (by omega), h1, Nat.sub_self, List.take_add_one, List.drop_eq_getElem_cons (by omega : j < l.length), List.set_cons_zero, List.getElem?_eq_getElem (show j < l'.length by omega), List.append_assoc]
  simp only [List.getD, List.getElem?_eq_getElem (show j < l'.length by omega), Option.getD_some, Option.toList_some, List.singleton_append]
theorem plus_get (s t : Dp.St) (j : Nat) (hj : j < 8) : (s.plus t).list.getD j 0 = Dp.add (s.list.getD j 0) (t.list.getD j 0) := by
  obtain h | h | h | h | h | h | h | h : j = 0 ∨ j = 1 ∨ j = 2 ∨ j = 3 ∨ j = 4 ∨ j = 5 ∨ j = 6 ∨ j = 7 := by omega
  all_goals
    subst h
    simp [Dp.St.plus, Dp.St.list]
theorem comp_get (s : Dp.St) (blk : List UInt8) (j : Nat) (hj : j < 8) : (Dp.comp s blk).list.getD j 0 = Dp.add (s.list.getD j 0) ((Dp.rnds s (Dp.sch blk 64) 64).list.getD j 0) := by
  rw [Dp.comp, plus_get _ _ j hj]

set_option maxHeartbeats 4000000 in
theorem takeBlock_any (w : World) (b : Nat) (s : Dp.St) (blk : List UInt8) (n : Nat) (hs : s.ok) (hT : Tb w) (hb0 : 0 < b) (hH : H w b s.list blk n 146) :
    Calls Tryd.prog 91 #[.pointer (some ⟨b, 0, none⟩)] w fun e w' => (∃ v, e = .returned v) ∧ H w' b (Dp.comp s blk).list blk n 146 ∧ Only b w w' := by
  have HS := mkH (spread_any w b s.list blk n hH)
  obtain ⟨hl8, hl64, hh⟩ := hH
  have hbl := block_lt hh
  have hW64 : (W32 (Dp.sch blk 64)).length = 64 := by rw [W32_length, Dp.sch_length]
  have hi64 : (Tryd.prog.info? 148).map (·.size) = some (W32 (Dp.sch blk 64)).length := by rw [hW64]; kernel_rfl
  go_enter Tryd.func91, Tryd.ntmps91
  go_wp2_with fail
  refine HS.out.mono ?_
  rintro e w1 ⟨rfl, hb1⟩
  clear HS
  go_wp2_with (first
    | (refine wpList_alloc_agg rfl 148 rfl 64 (by kernel_rfl) ?_; intro Z hZ)
    | (refine wpList_store_new rfl 148 (.tmp 2) (.tmp 20) rfl w1 Z rfl (W32 (Dp.sch blk 64)) rfl hi64 (by rw [hZ, hW64]) (W32_one _) ?_))
  have hb2 : Below w.heap.size w (w1.alloc (.cells (W32 (Dp.sch blk 64)).toArray 148)) := hb1.alloc hb1.size _
  have hT2 := hT.below hb2 hT.size
  have hsz := hb1.size
  have hg2 := heap_alloc_new w1 (.cells (W32 (Dp.sch blk 64)).toArray 148)
  have hh2 := hb2.block b hbl
  rw [hh] at hh2
  generalize (w1.alloc (.cells (W32 (Dp.sch blk 64)).toArray 148)) = w2 at hb2 hT2 hg2 hh2 ⊢
  clear hb1 hT
  obtain ⟨g, hg⟩ : ∃ g, w1.heap.size = g := ⟨_, rfl⟩
  rw [hg] at hg2 hsz ⊢
  clear hg
  obtain ⟨s1, s2, s3, s4, s5, s6, s7, s8⟩ := s
  have k1 : w2.cell? ⟨b, 1, none⟩ = some (.int .u32 (s1 : Int)) := by rw [cell_of_row _ _ _ _ _ _ hh2]; exact hc_word hl8 hl64 0 (by omega)
  have k2 : w2.cell? ⟨b, 2, none⟩ = some (.int .u32 (s2 : Int)) := by rw [cell_of_row _ _ _ _ _ _ hh2]; exact hc_word hl8 hl64 1 (by omega)
  have k3 : w2.cell? ⟨b, 3, none⟩ = some (.int .u32 (s3 : Int)) := by rw [cell_of_row _ _ _ _ _ _ hh2]; exact hc_word hl8 hl64 2 (by omega)
  have k4 : w2.cell? ⟨b, 4, none⟩ = some (.int .u32 (s4 : Int)) := by rw [cell_of_row _ _ _ _ _ _ hh2]; exact hc_word hl8 hl64 3 (by omega)
  have k5 : w2.cell? ⟨b, 5, none⟩ = some (.int .u32 (s5 : Int)) := by rw [cell_of_row _ _ _ _ _ _ hh2]; exact hc_word hl8 hl64 4 (by omega)
  have k6 : w2.cell? ⟨b, 6, none⟩ = some (.int .u32 (s6 : Int)) := by rw [cell_of_row _ _ _ _ _ _ hh2]; exact hc_word hl8 hl64 5 (by omega)
  have k7 : w2.cell? ⟨b, 7, none⟩ = some (.int .u32 (s7 : Int)) := by rw [cell_of_row _ _ _ _ _ _ hh2]; exact hc_word hl8 hl64 6 (by omega)
  have k8 : w2.cell? ⟨b, 8, none⟩ = some (.int .u32 (s8 : Int)) := by rw [cell_of_row _ _ _ _ _ _ hh2]; exact hc_word hl8 hl64 7 (by omega)
  go_wp2_with fail
  go_quiet (fail)
  go_wp2_with fail
  go_quiet (fail)
  go_wp2_with (refine wpList_load_agg rfl 148 (.tmp 2) rfl _ Tryd.underlying148 rfl g 0 rfl (W32 (Dp.sch blk 64)) hi64 ?hc ?_; (case hc => intro j v hv; exact (cell_of_row _ _ _ _ _ _ hg2).trans (by simpa using hv)))
  clear k1 k2 k3 k4 k5 k6 k7 k8
  go_loopw [3, 4, 5, 6, 7, 8, 9, 10, 62] (fun v3 v4 v5 v6 v7 v8 v9 v10 i W => ∃ (k m : Nat) (t : Dp.St), k ≤ 64 ∧ t.ok ∧ Hid (Dp.rnds ⟨s1, s2, s3, s4, s5, s6, s7, s8⟩ (Dp.sch blk 64) k = t) ∧ v3 = .int .u32 (t.a : Int) ∧ v4 = .int .u32 (t.b : Int) ∧ v5 = .int .u32 (t.c : Int) ∧ v6 = .int .u32 (t.d : Int) ∧ v7 = .int .u32 (t.e : Int) ∧ v8 = .int .u32 (t.f : Int) ∧ v9 = .int .u32 (t.g : Int) ∧ v10 = .int .u32 (t.h : Int) ∧ i = .int .i64 k ∧ W = w2.drewN m) (fun _ _ _ _ _ _ _ _ i _ => 64 - (intOf i).toNat)
  case atStart => exact ⟨0, _, ⟨s1, s2, s3, s4, s5, s6, s7, s8⟩, by omega, hs, rfl, rfl, rfl, rfl, rfl, rfl, rfl, rfl, rfl, rfl, rfl⟩
  case round =>
    obtain ⟨k, m, ⟨a, b', c, d, e, f, g', p8⟩, hk, ht, hR, rfl, rfl, rfl, rfl, rfl, rfl, rfl, rfl, rfl, rfl⟩ := hrel
    rw [Dp.St.ok_iff] at ht
    obtain ⟨ha, hb, hc, hd, he, hf, hgg, hhh⟩ := ht
    simp only at ha hb hc hd he hf hgg hhh ⊢
    by_cases hlt : k = 64
    · subst hlt
      have hR' := hR.out
      go_wp2
      obtain ⟨ar, har⟩ : ∃ ar : Array Value, ar = #[.int .u32 (a : Int), .int .u32 (b' : Int), .int .u32 (c : Int), .int .u32 (d : Int), .int .u32 (e : Int), .int .u32 (f : Int), .int .u32 (g' : Int), .int .u32 (p8 : Int)] := ⟨_, rfl⟩
      rw [← har]
      have hix0 := fun (j : Nat) (hj : j < 8) => run_index_agg (P := Tryd.prog) 143 142 8 Tryd.underlying143 _ Tryd.underlying142 rfl (by kernel_rfl) (W32 [a, b', c, d, e, f, g', p8]) j hj _ (W32_at [a, b', c, d, e, f, g', p8] j hj)
      have hix1 : Hid (∀ (j : Nat), j < 8 → ∀ W, (Instr.index 143 (.agg ar) (.int .i64 j)).run Tryd.prog W = .ok (.int .u32 (([a, b', c, d, e, f, g', p8].getD j 0 : Nat) : Int)) W) := by rw [har]; exact hix0
      have hcl : Hid (∀ j, j < 8 → (Dp.comp ⟨s1, s2, s3, s4, s5, s6, s7, s8⟩ blk).list.getD j 0 = Dp.add ([s1, s2, s3, s4, s5, s6, s7, s8].getD j 0) ([a, b', c, d, e, f, g', p8].getD j 0)) := by
        intro j hj
        rw [comp_get _ _ j hj, hR']; rfl
      have hH2 : H (w2.drewN m) b ([s1, s2, s3, s4, s5, s6, s7, s8] : List Nat) blk n 146 := ⟨rfl, hl64, hh2⟩
      have hO2 : Only b w (w2.drewN m) := (Only.ofBelow hb2).drewN m
      have hXl : ∀ j, [a, b', c, d, e, f, g', p8].getD j 0 < 4294967296 := Dp.getD_lt (by simp; exact ⟨ha, hb, hc, hd, he, hf, hgg, hhh⟩)
      have hYl : ∀ j, [s1, s2, s3, s4, s5, s6, s7, s8].getD j 0 < 4294967296 := Dp.getD_lt hs
      have HXl := mkH hXl
      have HYl := mkH hYl
      clear hix0 har hR hR' hT2 hh2 hg2 hs hl8 hl64 hh hbl hW64 hi64 hb2 hsz hXl hYl
      generalize w2.drewN m = w3 at hH2 hO2 ⊢
      go_loopw [123] (fun i W => ∃ j : Nat, j ≤ 8 ∧ i = .int .i64 j ∧ H W b ((Dp.comp ⟨s1, s2, s3, s4, s5, s6, s7, s8⟩ blk).list.take j ++ ([s1, s2, s3, s4, s5, s6, s7, s8] : List Nat).drop j) blk n 146 ∧ Only b w W) (fun i _ => 8 - (intOf i).toNat)
      case atStart => exact ⟨0, by omega, rfl, by simpa using hH2, hO2⟩
      case round =>
        clear hH2 hO2
        obtain ⟨j, hj, rfl, hH, hO⟩ := hrel
        by_cases hlt : j = 8
        · have t1 : decide ((j : Int) < 8) = false := by simp; omega
          subst hlt
          have HH : Hid (H wr b (Dp.comp ⟨s1, s2, s3, s4, s5, s6, s7, s8⟩ blk).list blk n 146) := hH
          have HO := mkH hO
          clear hH hO
          go_wp2
          refine bodyPost_end (results_none rfl _ _ _) rfl ?_
          exact ⟨⟨_, rfl⟩, HH.out, HO.out⟩
        · have t1 : decide ((j : Int) < 8) = true := by simp; omega
          have hj0 : (j : Int) < 8 := by omega
          have hj1 : j < 8 := by omega
          have hix := hix1.out j hj1
          have hcell : wr.cell? ⟨b, 1 + j, none⟩ = some (.int .u32 (([s1, s2, s3, s4, s5, s6, s7, s8].getD j 0 : Nat) : Int)) := by
            rw [cell_of_row _ _ _ _ _ _ hH.2.2, hc_word hH.1 hH.2.1 j hj1, mix_get rfl rfl hj1]
          have hfr : ∀ o, wr.frozen? ⟨b, o, none⟩ = false := fun o => by simp [World.frozen?, hH.2.2]
          have HN : Hid (∀ m, H ((wr.drewN m).setCell ⟨b, 1 + j, none⟩ (.int .u32 (((Dp.add ([s1, s2, s3, s4, s5, s6, s7, s8].getD j 0) ([a, b', c, d, e, f, g', p8].getD j 0)) : Nat) : Int))) b ((Dp.comp ⟨s1, s2, s3, s4, s5, s6, s7, s8⟩ blk).list.take (j + 1) ++ ([s1, s2, s3, s4, s5, s6, s7, s8] : List Nat).drop (j + 1)) blk n 146 ∧ Only b w ((wr.drewN m).setCell ⟨b, 1 + j, none⟩ (.int .u32 (((Dp.add ([s1, s2, s3, s4, s5, s6, s7, s8].getD j 0) ([a, b', c, d, e, f, g', p8].getD j 0)) : Nat) : Int)))) := by
            intro m
            have h1 := H.setWord hH j (Dp.add ([s1, s2, s3, s4, s5, s6, s7, s8].getD j 0) ([a, b', c, d, e, f, g', p8].getD j 0)) m hj1
            refine ⟨?_, hO.trans h1.2⟩
            have h2 := h1.1
            rw [← hcl.out j hj1, mix_set rfl rfl hj1] at h2
            rw [← hcl.out j hj1]
            exact h2
          have hx := HXl.out j
          have hy := HYl.out j
          generalize [a, b', c, d, e, f, g', p8].getD j 0 = X at hix hx HN
          generalize [s1, s2, s3, s4, s5, s6, s7, s8].getD j 0 = Y at hcell hy HN
          unfold Dp.add at HN
          clear hH hO
          go_wp2_with fail
          go_region
          go_wp2_with fail
          rw [show ((Y : Int) + (X : Int)) % 4294967296 = (((Y + X) % 4294967296 : Nat) : Int) by omega]
          refine ⟨?rel, ?measure⟩
          case rel => exact ⟨j + 1, by omega, by go_num, (HN.out 1).1, (HN.out 1).2⟩
          case measure => simp [intOf]; omega
    · have t0 : decide ((k : Int) < 64) = true := by simp; omega
      have hk0 : (k : Int) < 64 := by omega
      have hk1 : k < 64 := by omega
      have hw := W32_at (Dp.sch blk 64) k (by rw [Dp.sch_length]; omega)
      obtain ⟨w3, hw3⟩ : ∃ w3, w3 = w2.drewN m := ⟨_, rfl⟩
      rw [← hw3]
      have hKc : w3.cell? ⟨0, k, none⟩ = some (.int .u32 ((Dp.KT.getD k 0 : Nat) : Int)) := by rw [hw3]; exact hT2 k hk1
      have HW3 : Hid (w3 = w2.drewN m) := hw3
      clear hw3
      have hwl := Dp.getD_lt (Dp.sch_lt blk 64) k
      have hKl := Dp.KT_lt k
      have HR2 : Hid (Dp.rnds ⟨s1, s2, s3, s4, s5, s6, s7, s8⟩ (Dp.sch blk 64) (k + 1) = Dp.St.step ⟨a, b', c, d, e, f, g', p8⟩ (Dp.KT.getD k 0) ((Dp.sch blk 64).getD k 0)) := by
        unfold Hid
        rw [Dp.rnds, hR.out]
      generalize (Dp.sch blk 64).getD k 0 = X at hw hwl HR2
      generalize Dp.KT.getD k 0 = K at hKc hKl HR2
      clear hR hT2 hh2 hg2 hs hl8 hl64 hh hbl hW64 hi64 hb2 hsz
      have e1 := ch_nat e f g' he hf hgg
      have e2 := maj_nat a b' c ha hb hc
      have T1 : Hid (∀ W, Calls Tryd.prog 95 #[.int .u32 (e : Int), .int .i64 6, .int .i64 11, .int .i64 25] W fun x w' => x = .returned (.int .u32 (Dp.big 6 11 25 e : Nat)) ∧ w' = W) := fun W => turned_any W e 6 11 25 he (by decide) (by decide) (by decide)
      have T2 : Hid (∀ W, Calls Tryd.prog 95 #[.int .u32 (a : Int), .int .i64 2, .int .i64 13, .int .i64 22] W fun x w' => x = .returned (.int .u32 (Dp.big 2 13 22 a : Nat)) ∧ w' = W) := fun W => turned_any W a 2 13 22 ha (by decide) (by decide) (by decide)
      have hix := run_index_agg (P := Tryd.prog) 148 142 64 Tryd.underlying148 _ Tryd.underlying142 rfl (by kernel_rfl) (W32 (Dp.sch blk 64)) k hk1 _ hw
      clear hw
      obtain ⟨ws, hws⟩ : ∃ ws, (W32 (Dp.sch blk 64)).toArray = ws := ⟨_, rfl⟩
      rw [hws] at hix ⊢
      clear hws
      go_wp2_with fail
      go_quiet ((go_at_call 95; exact Calls.quiet_of_same (T1.out _)))
      go_wp2_with fail
      refine (T2.out _).mono ?_
      rintro x w4 ⟨rfl, rfl⟩
      have E1 : (((p8 : Int) + ((Dp.big 6 11 25 e : Nat) : Int) + ((Dp.ch e f g' : Nat) : Int) + (K : Int)) % 4294967296 + (X : Int)) % 4294967296 = ((Dp.one ⟨a, b', c, d, e, f, g', p8⟩ K X : Nat) : Int) := by
        simp only [Dp.one, Dp.add]
        omega
      have hO := Dp.one_lt ⟨a, b', c, d, e, f, g', p8⟩ K X
      rw [E1]
      have HO : Hid (Dp.St.step ⟨a, b', c, d, e, f, g', p8⟩ K X = ⟨Dp.add (Dp.one ⟨a, b', c, d, e, f, g', p8⟩ K X) (Dp.add (Dp.big 2 13 22 a) (Dp.maj a b' c)), a, b', c, Dp.add d (Dp.one ⟨a, b', c, d, e, f, g', p8⟩ K X), e, f, g'⟩) := rfl
      have hst := Dp.step_ok (s := ⟨a, b', c, d, e, f, g', p8⟩) (by rw [Dp.St.ok_iff]; exact ⟨ha, hb, hc, hd, he, hf, hgg, hhh⟩) K X
      have HST := mkH hst
      clear hst E1 T1 T2 e1 e2 hKc hix
      rw [HO.out] at HST HR2
      generalize Dp.one ⟨a, b', c, d, e, f, g', p8⟩ K X = O at hO HST HR2 ⊢
      have hBl := Dp.big_lt (i := 2) (j := 13) (k := 22) ha
      have hMl := Dp.maj_lt (c := c) ha hb
      clear HO
      generalize Dp.big 2 13 22 a = B at hBl HST HR2 ⊢
      generalize Dp.maj a b' c = J at hMl HST HR2 ⊢
      go_wp2
      refine ⟨?rel, ?measure⟩
      case rel => exact ⟨k + 1, _, _, by omega, HST.out, HR2, congrArg (Value.int .u32) (by simp only [Dp.add]; omega), rfl, rfl, rfl, congrArg (Value.int .u32) (by simp only [Dp.add]; omega), rfl, rfl, rfl, by go_num, by rw [HW3.out, World.drewN_drewN]⟩
      case measure => simp [intOf]; omega
end Go.Proofs.YtcpmaddleleblaaDoor.Dt
