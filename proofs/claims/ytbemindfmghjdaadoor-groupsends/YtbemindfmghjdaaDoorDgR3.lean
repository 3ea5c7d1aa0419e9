/-
  The contract of the document's Of.
-/
import Derived.Test.YtbemindfmghjdaaDoorDgR2
namespace Go.Proofs.YtbemindfmghjdaaDoor.Dr3
open Go.RowKit Kt Dk Dw Dr Dr0 Dr2
set_option linter.unusedVariables false
set_option maxRecDepth 20000

/-- Where Of stands behind q blocks. -/
def Lp (H : Nat) (w3 W : World) (pa : List UInt8) (q : Nat) : Prop := Only H w3 W ∧ W.heap[H]? = some (.cells (W32 (Dp.blks Dp.init pa q).list).toArray 137 (0, 0))
theorem own_bytes {w : World} {base e n cap : Nat} {ao : Option Addr} {l : List UInt8} (h : w.ownsRow base e 1 (.slice ao n cap) n (U l)) (hn : 0 < n) : ∃ g, ao = some ⟨g, 0, none⟩ ∧ base ≤ g ∧ g < w.heap.size ∧ n ≤ cap ∧ n = l.length ∧ ∀ j, j < n → w.cell? ⟨g, j, none⟩ = some (.int .u8 ((l.getD j 0).toNat : Int)) := by
  have hl : l.length = n := by have := h.1; rw [U_length] at this; omega
  rcases h.2 with ⟨e1, e2⟩ | ⟨g, c, cur, e1, hb, hg, hnc, _, _, ht⟩
  · omega
  · simp only [Value.slice.injEq] at e1
    obtain ⟨rfl, _, rfl⟩ := e1
    refine ⟨g, rfl, hb, (Array.getElem?_eq_some_iff.1 hg).1, hnc, hl.symm, fun j hj => ?_⟩
    rw [World.ownsRow.cellAt h j (by omega), U_at l j (by omega)]
theorem only_cell {H g j : Nat} {w w' : World} (h : Only H w w') (hg : g < w.heap.size) (hne : g ≠ H) : w'.cell? ⟨g, j, none⟩ = w.cell? ⟨g, j, none⟩ := World.cell?_of_block (w := w) (h.heap hg hne)

theorem ch_nat' (e f g : Nat) (he : e < 4294967296) (hf : f < 4294967296) (hg : g < 4294967296) : bits .xor .u32 (bits .and .u32 (e : Int) (f : Int)) (bits .and .u32 (bits .xor .u32 (e : Int) 4294967295) (g : Int)) = ((Dp.ch e f g : Nat) : Int) := by
  rw [show (4294967295 : Int) = ((4294967295 : Nat) : Int) by rfl, u32_xor_nat _ _ he (by omega), u32_and_nat _ _ he hf, u32_and_nat _ _ (Dp.xor_lt he (by omega)) hg, u32_xor_nat _ _ (Dp.and_lt he) (Dp.and_lt (Dp.xor_lt he (by omega))), Dp.ch]
theorem maj_nat' (a b c : Nat) (ha : a < 4294967296) (hb : b < 4294967296) (hc : c < 4294967296) : bits .xor .u32 (bits .xor .u32 (bits .and .u32 (a : Int) (b : Int)) (bits .and .u32 (a : Int) (c : Int))) (bits .and .u32 (b : Int) (c : Int)) = ((Dp.maj a b c : Nat) : Int) := by
  rw [u32_and_nat _ _ ha hb, u32_and_nat _ _ ha hc, u32_and_nat _ _ hb hc, u32_xor_nat _ _ (Dp.and_lt ha) (Dp.and_lt ha), u32_xor_nat _ _ (Dp.xor_lt (Dp.and_lt ha) (Dp.and_lt ha)) (Dp.and_lt hb), Dp.maj]

theorem row_new (w : World) (l : List Nat) (j : Nat) (hj : j < l.length) : (w.alloc (.cells (W32 l).toArray 137)).cell? ⟨w.heap.size, j, none⟩ = some (.int .u32 ((l.getD j 0 : Nat) : Int)) := by
  rw [cell_of_row _ _ _ _ _ _ (heap_alloc_new w (.cells (W32 l).toArray 137)), List.getElem?_toArray, W32_at l j hj]
theorem mix_get {l l' : List Nat} {j : Nat} (h : l.length = 8) (h' : l'.length = 8) (hj : j < 8) : (l'.take j ++ l.drop j).getD j 0 = l.getD j 0 := by
  simp [List.getD, List.getElem?_append, h', Nat.le_of_lt hj]
theorem mix_set {l l' : List Nat} {j : Nat} (h : l.length = 8) (h' : l'.length = 8) (hj : j < 8) : (l'.take j ++ l.drop j).set j (l'.getD j 0) = l'.take (j + 1) ++ l.drop (j + 1) := by
  have h1 : (l'.take j).length = j := by simp; omega
  rw [List.set_append_right _ _ (by omega), h1, Nat.sub_self, List.take_add_one, List.drop_eq_getElem_cons (by omega : j < l.length), List.set_cons_zero, List.getElem?_eq_getElem (show j < l'.length by omega), List.append_assoc]
  simp only [List.getD, List.getElem?_eq_getElem (show j < l'.length by omega), Option.getD_some, Option.toList_some, List.singleton_append]
theorem plus_get (s t : Dp.St) (j : Nat) (hj : j < 8) : (s.plus t).list.getD j 0 = Dp.add (s.list.getD j 0) (t.list.getD j 0) := by
  obtain h | h | h | h | h | h | h | h : j = 0 ∨ j = 1 ∨ j = 2 ∨ j = 3 ∨ j = 4 ∨ j = 5 ∨ j = 6 ∨ j = 7 := by omega
  all_goals
    subst h
    simp [Dp.St.plus, Dp.St.list]
/-- A word of a row, set. -/
theorem set_row {W : World} {b : Nat} {l : List Nat} (h : W.heap[b]? = some (.cells (W32 l).toArray 137 (0, 0))) (j x : Nat) : (W.setCell ⟨b, j, none⟩ (.int .u32 (x : Int))).drew.heap[b]? = some (.cells (W32 (l.set j x)).toArray 137 (0, 0)) ∧ Only b W (W.setCell ⟨b, j, none⟩ (.int .u32 (x : Int))).drew := by
  rw [setCell_eq_setRow W b j _ _ (0, 0) _ h]
  refine ⟨?_, (((Only.refl b W).setRow _).drewN 1)⟩
  have e : ((W32 l).toArray.setIfInBounds j (.int .u32 (x : Int))) = (W32 (l.set j x)).toArray := by simp [W32, List.map_set]
  rw [e]
  exact setRow_heap _ _ _ _ _ _ h

theorem src_4D {P : Program} {tx e' T : TypeId} (hk : P.underlying tx = some (.slice e')) (w : World) (l : List UInt8) (hl : l.length = 4) :
    Src P 1 tx (.slice (some ⟨w.heap.size, 0, none⟩) 4 4) 4 (U l) (w.alloc (.cells (U l).toArray T)).drew := by
  refine Src.ofSlice _ hk _ _ 4 _ (by rw [U_length, hl]) (fun j x hj => ?_) (U_one l)
  rw [Addr.add_lit, Nat.zero_add]
  have h1 := heap_alloc_new w (.cells (U l).toArray T)
  show (w.alloc (.cells (U l).toArray T)).cell? ⟨w.heap.size, j, none⟩ = some x
  rw [cell_of_row _ _ _ _ _ _ h1]
  simpa using hj
def wbl (l : List Nat) (k : Nat) : List UInt8 := ((l.take k).map Dp.bytes4).flatten
theorem wbl_succ (l : List Nat) (k : Nat) (hk : k < l.length) : wbl l k ++ Dp.bytes4 (l.getD k 0) = wbl l (k + 1) := by
  unfold wbl
  rw [List.take_succ_eq_append_getElem hk, List.map_append, List.flatten_append]
  simp only [List.map_cons, List.map_nil, List.flatten_cons, List.flatten_nil, List.append_nil, List.getD, List.getElem?_eq_getElem hk, Option.getD_some]
theorem own_mono' {w : World} {B B' e n : Nat} {v : Value} {xs : List Value} (h : w.ownsRow B e 1 v n xs) (hB : B' ≤ B) : w.ownsRow B' e 1 v n xs := by
  refine ⟨h.1, ?_⟩
  rcases h.2 with h1 | ⟨g, cap, cur, e1, e2, e3⟩
  · exact .inl h1
  · exact .inr ⟨g, cap, cur, e1, by omega, e3⟩

set_option maxHeartbeats 4000000 in
theorem refOf_any (w : World) (ao : Option Addr) (cap : Nat) (bs : List UInt8) (hr : Row w ao bs) (hn : bs.length ≤ 50000) :
    Calls Tryd.prog 70 #[.slice ao bs.length cap] w fun e w' => ∃ v, e = .returned v ∧ w'.ownsRow w.heap.size 5 1 v 32 (U (Dp.dig bs)) ∧ Below w.heap.size w w' := by
  go_enter Tryd.func70, Tryd.ntmps70
  go_wp2_with fail
  have hW1 : ∃ w1, w1 = w.alloc (.cells (W32 Dp.init.list).toArray 137) ∧ Below w.heap.size w w1 ∧ w1.heap[w.heap.size]? = some (.cells (W32 Dp.init.list).toArray 137 (0, 0)) ∧ w1.heap.size = w.heap.size + 1 := ⟨_, rfl, (Below.refl _ w).alloc (Nat.le_refl _) _, heap_alloc_new _ _, by simp⟩
  obtain ⟨w1, hw1, hb1, hg1, hs1⟩ := hW1
  have hw1' : w.alloc (.cells #[.int .u32 1779033703, .int .u32 3144134277, .int .u32 1013904242, .int .u32 2773480762, .int .u32 1359893119, .int .u32 2600822924, .int .u32 528734635, .int .u32 1541459225] 137) = w1 := hw1.symm
  rw [hw1']
  clear hw1 hw1'
  refine (rounds_any w1).mono ?_
  rintro e w2 ⟨v2, rfl, hown2, hb2⟩
  obtain ⟨aok, capk, rfl⟩ := own_form hown2
  have hown2k : w2.ownsRow w1.heap.size 137 1 (.slice aok 64 capk) 64 (W32 Dp.KT) := hown2
  obtain ⟨gk, rfl, hgk1, hgk2, hck, hK⟩ := own_cells hown2k (by decide)
  rw [show Dp.KT.length = 64 from rfl]
  have hg2 := hb2.block w.heap.size (by omega)
  rw [hg1] at hg2
  have hB2 := hb1.trans (hb2.mono (by omega : w.heap.size ≤ w1.heap.size))
  have hs2 := hb2.size
  have HK := mkH hK
  clear hown2 hown2k hb1 hb2 hg1 hK
  go_wp2_with fail
  refine (padded_any w2 ao cap bs (hr.below hB2) (by omega)).mono ?_
  rintro e w3 ⟨v3, rfl, hown3, hb3⟩
  obtain ⟨ap, cp, rfl⟩ := own_form hown3
  have hpl := Dp.padded_length bs
  obtain ⟨nb, hnb⟩ : ∃ nb, bs.length / 64 + (if bs.length % 64 < 56 then 1 else 2) = nb := ⟨_, rfl⟩
  rw [hnb] at hpl
  have hnb1 : 0 < nb := by rw [← hnb]; split <;> omega
  have hnb2 : nb ≤ 1000 := by rw [← hnb]; split <;> omega
  have HFIN : Hid (Dp.fin bs = Dp.blks Dp.init (Dp.padded bs) nb) := by unfold Hid Dp.fin; rw [hpl, Nat.mul_div_cancel_left _ (by decide)]
  obtain ⟨P, rfl, hP1, hP2, hcp, -, hPc⟩ := own_bytes hown3 (by omega)
  have hcm := own_cap hown3
  have HPC := mkH hPc
  have hg3 := hb3.block w.heap.size (by omega)
  rw [hg2] at hg3
  have HK3 : Hid (∀ j, j < 64 → w3.cell? ⟨gk, j, none⟩ = some (.int .u32 ((Dp.KT.getD j 0 : Nat) : Int))) := fun j hj => by rw [hb3.cell (p := ⟨gk, j, none⟩) hgk2]; exact HK.out j hj
  have hB3 := hB2.trans (hb3.mono hB2.size)
  have hs3 := hb3.size
  have hgk3 : gk < w3.heap.size := by omega
  have hne1 : gk ≠ w.heap.size := by omega
  have hne2 : P ≠ w.heap.size := by omega
  have hLp : Lp w.heap.size w3 w3 (Dp.padded bs) 0 := ⟨Only.refl _ _, hg3⟩
  have hpa : (Dp.padded bs).length = 64 * nb := hpl
  rw [hpl] at hcp HPC ⊢
  have HPA := mkH hpa
  have HDIG : Hid (Dp.dig bs = (Dp.blks Dp.init (Dp.padded bs) nb).bytes) := by unfold Hid Dp.dig; rw [HFIN.out]
  have HB3 := mkH hB3
  generalize Dp.padded bs = pa at hLp HPC HPA HDIG
  clear hown3 hb3 hg2 hg3 HK hB2 hgk2 hpl hpa hPc hgk1 hP1 hB3 HFIN hnb
  generalize hHw : w.heap.size = H at *
  have HHw : Hid (w.heap.size = H) := hHw
  clear hHw
  obtain ⟨LN, hLN⟩ : ∃ LN, 64 * nb = LN := ⟨_, rfl⟩
  rw [hLN] at hcp HPC HPA ⊢
  have hH3 : H < w3.heap.size := by omega
  go_wp2_with fail
  go_loopw [6] (fun i W => ∃ q at' : Nat, q ≤ nb ∧ Hid (64 * q = at') ∧ at' ≤ LN ∧ i = .int .i64 at' ∧ Lp H w3 W pa q) (fun i _ => LN - (intOf i).toNat)
  case atStart => exact ⟨0, 0, by omega, rfl, by omega, rfl, hLp⟩
  case round =>
    clear hLp
    obtain ⟨q, A6, hq, hA6, hAL, rfl, hLp⟩ := hrel
    by_cases hlt : q = nb
    · have hAe : A6 = LN := by rw [← hA6.out, hlt, hLN]
      have t0 : decide ((A6 : Int) < (LN : Int)) = false := by simp; omega
      subst hAe
      obtain ⟨hO, hgH⟩ := hLp
      have hH0 : H ≤ wr.heap.size := Nat.le_of_lt (block_lt hgH)
      have HB9 : Hid (Below H w wr) := (HB3.out.trans (hO.below (Nat.le_refl _) (Nat.le_of_lt hH3)))
      have HLl := mkH (Dp.blks_ok Dp.init_ok pa q)
      have HDG : Hid (Dp.dig bs = wbl (Dp.blks Dp.init pa q).list 8) := by unfold Hid; rw [HDIG.out, hlt]; rfl
      have h8 : (Dp.blks Dp.init pa q).list.length = 8 := rfl
      have H8 := mkH h8
      have HL2 : Hid (∀ x ∈ (Dp.blks Dp.init pa q).list, x < 4294967296) := HLl.out
      clear hO h8 HLl
      generalize (Dp.blks Dp.init pa q).list = l at hgH HDG H8 HL2
      generalize wr = wq at hgH hH0 HB9 ⊢
      go_wp2_with fail
      go_loopw [15, 16] (fun v i W => ∃ j : Nat, j ≤ 8 ∧ i = .int .i64 j ∧ W.ownsRow wq.heap.size 5 1 v (4 * j) (U (wbl l j)) ∧ Below wq.heap.size wq W) (fun _ i _ => 8 - (intOf i).toNat)
      case atStart => exact ⟨0, by omega, rfl, World.ownsRow_nil wq wq.heap.size 5 1, Below.refl _ _⟩
      case round =>
        obtain ⟨j, hj, rfl, hown, hbel⟩ := hrel
        obtain ⟨a9, c9, rfl⟩ := own_form hown
        by_cases hj8 : j = 8
        · have t2 : decide ((j : Int) < 8) = false := by simp; omega
          subst hj8
          rw [← HDG.out] at hown
          have HOW := mkH (own_mono' hown hH0)
          have HBB := mkH (HB9.out.trans (hbel.mono hH0))
          clear hown hbel hgH
          go_wp2
          go_ret
          refine ⟨_, rfl, ?_, ?_⟩
          · rw [HHw.out]; exact HOW.out
          · rw [HHw.out]; exact HBB.out
        · have t2 : decide ((j : Int) < 8) = true := by simp; omega
          have hj0 : (j : Int) < 8 := by omega
          have hj1 : j < 8 := by omega
          have hHq : H < wq.heap.size := block_lt hgH
          have cHq : wq.cell? ⟨H, j, none⟩ = some (.int .u32 ((l.getD j 0 : Nat) : Int)) := by
            rw [cell_of_row _ _ _ _ _ _ hgH, List.getElem?_toArray, W32_at l j (by rw [H8.out]; omega)]
          have hx := Dp.getD_lt HL2.out j
          have HW9 := mkH (wbl_succ l j (by rw [H8.out]; omega))
          generalize l.getD j 0 = x at cHq hx HW9
          have cH : wr.cell? ⟨H, j, none⟩ = some (.int .u32 (x : Int)) := (hbel.cell (p := ⟨H, j, none⟩) hHq).trans cHq
          have hsz := hbel.size
          obtain ⟨c0, hc0⟩ : ∃ c, UInt8.ofNat (x / 16777216) = c := ⟨_, rfl⟩
          obtain ⟨c1, hc1⟩ : ∃ c, UInt8.ofNat (x / 65536) = c := ⟨_, rfl⟩
          obtain ⟨c2, hc2⟩ : ∃ c, UInt8.ofNat (x / 256) = c := ⟨_, rfl⟩
          obtain ⟨c3, hc3⟩ : ∃ c, UInt8.ofNat x = c := ⟨_, rfl⟩
          have u0 : IntKind.u8.wrap ((x : Int) / 16777216) = (c0.toNat : Int) := by rw [IntKind.wrap_u8', ← hc0, UInt8.toNat_ofNat']; omega
          have u1 : IntKind.u8.wrap ((x : Int) / 65536) = (c1.toNat : Int) := by rw [IntKind.wrap_u8', ← hc1, UInt8.toNat_ofNat']; omega
          have u2' : IntKind.u8.wrap ((x : Int) / 256) = (c2.toNat : Int) := by rw [IntKind.wrap_u8', ← hc2, UInt8.toNat_ofNat']; omega
          have u3 : IntKind.u8.wrap (x : Int) = (c3.toNat : Int) := by rw [IntKind.wrap_u8', ← hc3, UInt8.toNat_ofNat']; omega
          have hb4 : Dp.bytes4 x = [c0, c1, c2, c3] := by rw [Dp.bytes4, hc0, hc1, hc2, hc3]
          rw [hb4] at HW9
          clear hc0 hc1 hc2 hc3 hb4
          go_wp2_with fail
          go_region_held3 (fun w' => w'.cell? ⟨H, j, none⟩ = some (.int .u32 (x : Int))) (first | go_keep | exact hkeep) (first
            | (refine atApp (.tmp 172) (.tmp 196) 72 72 ?_ ?_; rfl; refine step_append_own_src (by rfl) (.tmp 172) (.tmp 196) 72 72 (by rfl) wq.heap.size 5 (.int .u8 0) 1 1 Tryd.underlying72 info5 (by rfl) (by decide) (.slice a9 (4 * j) c9) (4 * j) (U (wbl l j)) (by rfl) (by exact (hown.alloc _).drew) (.slice (some ⟨wr.heap.size, 0, none⟩) 4 4) 4 (U [c0, c1, c2, c3]) (by rfl) (by exact src_4D Tryd.underlying72 wr [c0, c1, c2, c3] rfl) (by unfold maxLen; omega) (by omega) (by simp; omega) ?_; intro v2 u2 hown2 hgrow2; have hbel2 : Below wq.heap.size wq u2 := (by exact below_own (hown.alloc _).drew hgrow2 (hbel.alloc hsz _).drew (by simp; omega)); have hkeep := (hbel2.cell (p := ⟨H, j, none⟩) hHq).trans cHq))
          rw [← U_append, HW9.out] at hown2
          have HOW := mkH hown2
          have HBB := mkH hbel2
          clear hown2 hgrow2 hown hbel hkeep hbel2
          go_wp2_with fail
          first
            | (refine ⟨⟨j + 1, by omega, by go_num, HOW.out, HBB.out⟩, ?_⟩; simp [intOf]; omega)
            | (refine ⟨?_, ?measure⟩; (repeat apply Exists.intro); refine ⟨?rel, rfl⟩; (case rel => exact ⟨j + 1, by omega, by go_num, HOW.out, HBB.out⟩); (case measure => simp [intOf]; omega))
    · have hA7 : A6 + 64 ≤ LN := by rw [← hA6.out, ← hLN]; omega
      have t0 : decide ((A6 : Int) < (LN : Int)) = true := by simp; omega
      have n1 : ¬ (cp = A6) := by omega
      go_wp2_with fail
      obtain ⟨hO, hgH⟩ := hLp
      have hbk : ((pa.drop A6).take 64).length = 64 := by rw [List.length_take, List.length_drop, HPA.out]; omega
      have hcs : ∀ i, i < 64 → wr.cell? ⟨P, A6 + i, none⟩ = some (.int .u8 ((((pa.drop A6).take 64).getD i 0).toNat : Int)) := by
        intro i hi
        rw [only_cell hO hP2 hne2, HPC.out (A6 + i) (by omega)]
        simp [List.getD, hi]
      refine (schedule_any wr P A6 (cp - A6) _ hbk hcs).mono ?_
      rintro e w4 ⟨v4, rfl, hown4, hb4⟩
      obtain ⟨blk, hblk⟩ : ∃ blk, (pa.drop A6).take 64 = blk := ⟨_, rfl⟩
      rw [hblk] at hown4
      have HBK : Hid ((pa.drop (64 * q)).take 64 = blk) := by unfold Hid; rw [hA6.out]; exact hblk
      obtain ⟨a4, c4, rfl⟩ := own_form hown4
      have hown4 : w4.ownsRow wr.heap.size 137 1 (.slice a4 64 c4) 64 (W32 (Dp.sch blk 64)) := by have := hown4; unfold OwnW at this; rw [Dp.sch_length] at this; exact this
      rw [show (Dp.sch blk 64).length = 64 from Dp.sch_length blk 64]
      obtain ⟨gw, rfl, hgw1, hgw2, hgw3, hWc⟩ := own_cells hown4 (by decide)
      have hHr : H < wr.heap.size := Nat.lt_of_lt_of_le hH3 hO.size
      have hgH4 := hb4.block H hHr
      rw [hgH] at hgH4
      have hO4 : Only H w3 w4 := hO.trans (Only.ofBelow hb4)
      have HO4 := mkH hO4
      have HWC := mkH hWc
      obtain ⟨s0, hs0⟩ : ∃ s0, Dp.blks Dp.init pa q = s0 := ⟨_, rfl⟩
      rw [hs0] at hgH4
      have hsok := Dp.blks_ok Dp.init_ok pa q
      rw [hs0] at hsok
      have HS0 : Hid (Dp.blks Dp.init pa q = s0) := hs0
      have HSOK := mkH hsok
      clear hown4 hb4 hgH hO hcs hbk hblk hWc hs0 hsok hO4
      go_wp2_with (at_builtin; refine (wpList_append_own_src _ rfl (.tmp 33) (.tmp 34) 138 138 rfl w4.heap.size 137 (.int .u32 0) 1 4 Tryd.underlying138 info38 rfl (by decide) _ 0 [] rfl (World.ownsRow_made w4 #[] 0 (Nat.le_refl _) (Nat.zero_le _) rfl) _ 8 (W32 s0.list) rfl ?hsrcv ?h63v ?hbyv ?hbsv ?_))
      case hsrcv =>
        refine Src.ofSlice _ Tryd.underlying138 ⟨H, 0, none⟩ 8 8 _ rfl (fun j u hj => ?_) (W32_one _)
        have e1 := Below.heap_alloc w4 (.cells #[] 137) H (block_lt hgH4)
        rw [hgH4] at e1
        rw [Addr.add_lit, Nat.zero_add, cell_of_row _ _ _ _ _ _ e1]
        simpa using hj
      case h63v => unfold maxLen; omega
      case hbyv => omega
      case hbsv => simp
      intro v5 w5 hown5 hgrow5
      have hb5 := below_own (World.ownsRow_made (e := 137) (size := 1) w4 #[] 0 (Nat.le_refl _) (Nat.zero_le _) rfl) hgrow5 ((Below.refl w4.heap.size w4).alloc (Nat.le_refl _) (.cells #[] 137)) (by simp)
      have hown5 : w5.ownsRow w4.heap.size 137 1 v5 8 (W32 s0.list) := by simpa using hown5
      obtain ⟨a5, c5, rfl⟩ := own_form hown5
      obtain ⟨gv, rfl, hgv1, hgv2, hgv3, hVc⟩ := own_cells hown5 (by decide)
      have hHgv : H < gv := Nat.lt_of_lt_of_le (block_lt hgH4) hgv1
      have hgH5 := hb5.block H (block_lt hgH4)
      rw [hgH4] at hgH5
      have HO5 := mkH (HO4.out.trans (Only.ofBelow hb5))
      have HWC5 : Hid (∀ j, j < 64 → w5.cell? ⟨gw, j, none⟩ = some (.int .u32 (((Dp.sch blk 64).getD j 0 : Nat) : Int))) := fun j hj => by rw [hb5.cell (p := ⟨gw, j, none⟩) hgw2]; exact HWC.out j hj
      have HKC5 : Hid (∀ j, j < 64 → w5.cell? ⟨gk, j, none⟩ = some (.int .u32 ((Dp.KT.getD j 0 : Nat) : Int))) := fun j hj => by rw [only_cell HO5.out hgk3 hne1]; exact HK3.out j hj
      have HVC := mkH hVc
      have hgw5 : gw < w5.heap.size := Nat.lt_of_lt_of_le hgw2 hb5.size
      have hgk5 : gk < w5.heap.size := Nat.lt_of_lt_of_le hgk3 HO5.out.size
      clear hown5 hgrow5 hb5 hgH4 HO4 HWC hVc
      go_wp2_with fail
      go_loopw [8, 9] (fun v i W => ∃ (k : Nat) (t : Dp.St) (g c : Nat), k ≤ 64 ∧ t.ok ∧ Hid (Dp.rnds s0 (Dp.sch blk 64) k = t) ∧ v = .slice (some ⟨g, 0, none⟩) 8 c ∧ 8 ≤ c ∧ H < g ∧ i = .int .i64 k ∧ Hid (∀ j, j < 8 → W.cell? ⟨g, j, none⟩ = some (.int .u32 ((t.list.getD j 0 : Nat) : Int))) ∧ Below w5.heap.size w5 W) (fun _ i _ => 64 - (intOf i).toNat)
      case atStart => exact ⟨0, s0, gv, c5, by omega, HSOK.out, rfl, rfl, hgv3, hHgv, rfl, HVC, Below.refl _ _⟩
      case round =>
        obtain ⟨k, ⟨a, b', c, d, e, f, g', p8⟩, g, cg, hk, ht, hR, rfl, hcg, hHg, rfl, hcells, hbel⟩ := hrel
        rw [Dp.St.ok_iff] at ht
        obtain ⟨ha, hb, hc, hd, he, hf, hgg, hhh⟩ := ht
        simp only at ha hb hc hd he hf hgg hhh
        by_cases hk64 : k = 64
        · have t1 : decide ((k : Int) < 64) = false := by simp; omega
          subst hk64
          have hgHr := hbel.block H (block_lt hgH5)
          rw [hgH5] at hgHr
          have HO6 := mkH (HO5.out.trans (Only.ofBelow hbel))
          have HPG : Hid (∀ j, j < 8 → (Dp.comp s0 blk).list.getD j 0 = Dp.add (s0.list.getD j 0) ([a, b', c, d, e, f, g', p8].getD j 0)) := by
            intro j hj
            rw [Dp.comp, plus_get _ _ j hj, hR.out]; rfl
          have HXl : Hid (∀ j, [a, b', c, d, e, f, g', p8].getD j 0 < 4294967296) := Dp.getD_lt (by simp; exact ⟨ha, hb, hc, hd, he, hf, hgg, hhh⟩)
          have HYl : Hid (∀ j, s0.list.getD j 0 < 4294967296) := Dp.getD_lt HSOK.out
          have HC8 : Hid (∀ j, j < 8 → wr.cell? ⟨g, j, none⟩ = some (.int .u32 (([a, b', c, d, e, f, g', p8].getD j 0 : Nat) : Int))) := hcells
          have hgr : g < wr.heap.size := World.block_lt_of_cell? wr _ (hcells.out 0 (by decide))
          have HNX : Hid ((Dp.blks Dp.init pa (q + 1)).list = (Dp.comp s0 blk).list) := by unfold Hid; rw [Dp.blks, HS0.out, HBK.out]
          have hl8 : (Dp.comp s0 blk).list.length = 8 := rfl
          have hs8 : s0.list.length = 8 := rfl
          have H8 := mkH (And.intro hl8 hs8)
          clear hR hcells hbel hgH5 HKC5 HWC5 HVC hl8 hs8
          generalize (Dp.comp s0 blk).list = nw at HPG H8 HNX
          generalize s0.list = sl at HPG H8 HYl hgHr
          generalize [a, b', c, d, e, f, g', p8] = tl at HPG HXl HC8
          generalize wr = wq at hgHr HO6 HC8 hgr ⊢
          go_wp2_with fail
          go_loopw [14] (fun i W => ∃ j : Nat, j ≤ 8 ∧ i = .int .i64 j ∧ W.heap[H]? = some (.cells (W32 (nw.take j ++ sl.drop j)).toArray 137 (0, 0)) ∧ Only H wq W) (fun i _ => 8 - (intOf i).toNat)
          case atStart => exact ⟨0, by omega, rfl, by simpa using hgHr, Only.refl _ _⟩
          case round =>
            clear hgHr
            obtain ⟨j, hj, rfl, hgj, hoj⟩ := hrel
            by_cases hj8 : j = 8
            · have t2 : decide ((j : Int) < 8) = false := by simp; omega
              subst hj8
              rw [List.take_of_length_le (by rw [H8.out.1]; omega), List.drop_eq_nil_of_le (by rw [H8.out.2]; omega), List.append_nil] at hgj
              have HLP : Hid (Lp H w3 wr pa (q + 1)) := ⟨HO6.out.trans hoj, by rw [HNX.out]; exact hgj⟩
              have HA8 : Hid (64 * (q + 1) = A6 + 64) := by unfold Hid; have := hA6.out; omega
              clear hgj hoj
              go_wp2_with fail
              first
                | (refine ⟨⟨q + 1, A6 + 64, by omega, HA8, hA7, by go_num, HLP.out⟩, ?_⟩; simp [intOf]; omega)
                | (refine ⟨?_, ?measure⟩; (repeat apply Exists.intro); refine ⟨?rel, rfl⟩; (case rel => exact ⟨q + 1, A6 + 64, by omega, HA8, hA7, by go_num, HLP.out⟩); (case measure => simp [intOf]; omega))
            · have t2 : decide ((j : Int) < 8) = true := by simp; omega
              have hj0 : (j : Int) < 8 := by omega
              have hj1 : j < 8 := by omega
              have cH : wr.cell? ⟨H, j, none⟩ = some (.int .u32 ((sl.getD j 0 : Nat) : Int)) := by
                rw [cell_of_row _ _ _ _ _ _ hgj, List.getElem?_toArray, W32_at _ j (by simp [H8.out.1, H8.out.2]; omega), mix_get H8.out.2 H8.out.1 hj1]
              have cG : wr.cell? ⟨g, j, none⟩ = some (.int .u32 ((tl.getD j 0 : Nat) : Int)) := by
                rw [only_cell hoj hgr (by omega)]; exact HC8.out j hj1
              have hfr : ∀ o, wr.frozen? ⟨H, o, none⟩ = false := fun o => by simp [World.frozen?, hgj]
              have HN := mkH (set_row hgj j (Dp.add (sl.getD j 0) (tl.getD j 0)))
              rw [← HPG.out j hj1, mix_set H8.out.2 H8.out.1 hj1, HPG.out j hj1] at HN
              have HOJ := mkH hoj
              have hx := HXl.out j
              have hy := HYl.out j
              generalize tl.getD j 0 = X at cG hx HN
              generalize sl.getD j 0 = Y at cH hy HN
              unfold Dp.add at HN
              clear hgj hoj
              go_wp2_with fail
              go_region
              go_wp2_with fail
              rw [show ((Y : Int) + (X : Int)) % 4294967296 = (((Y + X) % 4294967296 : Nat) : Int) by omega]
              first
                | (refine ⟨⟨j + 1, by omega, by go_num, HN.out.1, HOJ.out.trans HN.out.2⟩, ?_⟩; simp [intOf]; omega)
                | (refine ⟨?_, ?measure⟩; (repeat apply Exists.intro); refine ⟨?rel, rfl⟩; (case rel => exact ⟨j + 1, by omega, by go_num, HN.out.1, HOJ.out.trans HN.out.2⟩); (case measure => simp [intOf]; omega))
        · have t1 : decide ((k : Int) < 64) = true := by simp; omega
          have hk0 : (k : Int) < 64 := by omega
          have k0 : wr.cell? ⟨g, 0, none⟩ = some (.int .u32 (a : Int)) := hcells.out 0 (by decide)
          have k1 : wr.cell? ⟨g, 1, none⟩ = some (.int .u32 (b' : Int)) := hcells.out 1 (by decide)
          have k2 : wr.cell? ⟨g, 2, none⟩ = some (.int .u32 (c : Int)) := hcells.out 2 (by decide)
          have k3 : wr.cell? ⟨g, 3, none⟩ = some (.int .u32 (d : Int)) := hcells.out 3 (by decide)
          have k4 : wr.cell? ⟨g, 4, none⟩ = some (.int .u32 (e : Int)) := hcells.out 4 (by decide)
          have k5 : wr.cell? ⟨g, 5, none⟩ = some (.int .u32 (f : Int)) := hcells.out 5 (by decide)
          have k6 : wr.cell? ⟨g, 6, none⟩ = some (.int .u32 (g' : Int)) := hcells.out 6 (by decide)
          have k7 : wr.cell? ⟨g, 7, none⟩ = some (.int .u32 (p8 : Int)) := hcells.out 7 (by decide)
          have hKc : wr.cell? ⟨gk, k, none⟩ = some (.int .u32 ((Dp.KT.getD k 0 : Nat) : Int)) := by rw [hbel.cell (p := ⟨gk, k, none⟩) hgk5]; exact HKC5.out k (by omega)
          have hXc : wr.cell? ⟨gw, k, none⟩ = some (.int .u32 (((Dp.sch blk 64).getD k 0 : Nat) : Int)) := by rw [hbel.cell (p := ⟨gw, k, none⟩) hgw5]; exact HWC5.out k (by omega)
          have hXl := Dp.getD_lt (Dp.sch_lt blk 64) k
          have hKl := Dp.KT_lt k
          have HR2 : Hid (Dp.rnds s0 (Dp.sch blk 64) (k + 1) = Dp.St.step ⟨a, b', c, d, e, f, g', p8⟩ (Dp.KT.getD k 0) ((Dp.sch blk 64).getD k 0)) := by
            unfold Hid
            rw [Dp.rnds, hR.out]
          generalize (Dp.sch blk 64).getD k 0 = X at hXc hXl HR2
          generalize Dp.KT.getD k 0 = K at hKc hKl HR2
          have hgb : g < wr.heap.size := World.block_lt_of_cell? wr _ k0
          have HBEL := mkH hbel
          have e1 := ch_nat' e f g' he hf hgg
          have e2 := maj_nat' a b' c ha hb hc
          have T1 : Hid (∀ W, Calls Tryd.prog 91 #[.int .u32 (e : Int), .int .i64 6] W fun x w' => x = .returned (.int .u32 (Dp.rotr 6 e : Nat)) ∧ ∃ n, w' = W.drewN n) := fun W => refTurn_any W e 6 he (by decide) (by decide)
          have T2 : Hid (∀ W, Calls Tryd.prog 91 #[.int .u32 (e : Int), .int .i64 11] W fun x w' => x = .returned (.int .u32 (Dp.rotr 11 e : Nat)) ∧ ∃ n, w' = W.drewN n) := fun W => refTurn_any W e 11 he (by decide) (by decide)
          have T3 : Hid (∀ W, Calls Tryd.prog 91 #[.int .u32 (e : Int), .int .i64 25] W fun x w' => x = .returned (.int .u32 (Dp.rotr 25 e : Nat)) ∧ ∃ n, w' = W.drewN n) := fun W => refTurn_any W e 25 he (by decide) (by decide)
          have T4 : Hid (∀ W, Calls Tryd.prog 91 #[.int .u32 (a : Int), .int .i64 2] W fun x w' => x = .returned (.int .u32 (Dp.rotr 2 a : Nat)) ∧ ∃ n, w' = W.drewN n) := fun W => refTurn_any W a 2 ha (by decide) (by decide)
          have T5 : Hid (∀ W, Calls Tryd.prog 91 #[.int .u32 (a : Int), .int .i64 13] W fun x w' => x = .returned (.int .u32 (Dp.rotr 13 a : Nat)) ∧ ∃ n, w' = W.drewN n) := fun W => refTurn_any W a 13 ha (by decide) (by decide)
          have T6 : Hid (∀ W, Calls Tryd.prog 91 #[.int .u32 (a : Int), .int .i64 22] W fun x w' => x = .returned (.int .u32 (Dp.rotr 22 a : Nat)) ∧ ∃ n, w' = W.drewN n) := fun W => refTurn_any W a 22 ha (by decide) (by decide)
          have r1 := big_nat e 6 11 25 he
          have r2 := big_nat a 2 13 22 ha
          clear hbel hR hcells
          go_wp2_with fail
          go_quiet (fail)
          obtain ⟨n1, hn1⟩ : ∃ n1, n1 = nq := ⟨_, rfl⟩
          rw [← hn1]
          clear hn1
          go_wp2_with fail
          go_quiet (fail)
          go_wp2_with fail
          obtain ⟨w6, hw6⟩ : ∃ w6, w6 = (wr.drewN n1).drewN nq := ⟨_, rfl⟩
          rw [← hw6]
          have k0x : w6.cell? ⟨g, 0, none⟩ = some (.int .u32 (a : Int)) := by rw [hw6]; exact k0
          have k1x : w6.cell? ⟨g, 1, none⟩ = some (.int .u32 (b' : Int)) := by rw [hw6]; exact k1
          have k2x : w6.cell? ⟨g, 2, none⟩ = some (.int .u32 (c : Int)) := by rw [hw6]; exact k2
          have k3x : w6.cell? ⟨g, 3, none⟩ = some (.int .u32 (d : Int)) := by rw [hw6]; exact k3
          have k4x : w6.cell? ⟨g, 4, none⟩ = some (.int .u32 (e : Int)) := by rw [hw6]; exact k4
          have k5x : w6.cell? ⟨g, 5, none⟩ = some (.int .u32 (f : Int)) := by rw [hw6]; exact k5
          have k6x : w6.cell? ⟨g, 6, none⟩ = some (.int .u32 (g' : Int)) := by rw [hw6]; exact k6
          have k7x : w6.cell? ⟨g, 7, none⟩ = some (.int .u32 (p8 : Int)) := by rw [hw6]; exact k7
          have hKcx : w6.cell? ⟨gk, k, none⟩ = some (.int .u32 (K : Int)) := by rw [hw6]; exact hKc
          have hXcx : w6.cell? ⟨gw, k, none⟩ = some (.int .u32 (X : Int)) := by rw [hw6]; exact hXc
          have HBw6 : Hid (Below w5.heap.size w5 w6) := by rw [hw6]; exact below_drewN (below_drewN HBEL.out n1) nq
          clear hw6 k0 k1 k2 k3 k4 k5 k6 k7 hKc hXc
          clear e1 e2 HBEL
          go_quiet ((first | (go_at_call_of 91 (Value.int IntKind.i64 6); exact Calls.quiet_of (T1.out _)) | (go_at_call_of 91 (Value.int IntKind.i64 11); exact Calls.quiet_of (T2.out _)) | (go_at_call_of 91 (Value.int IntKind.i64 25); exact Calls.quiet_of (T3.out _))))
          go_wp2_with fail
          obtain ⟨w7, hw7⟩ : ∃ w7, w7 = w6.drewN nq := ⟨_, rfl⟩
          rw [← hw7]
          have k0y : w7.cell? ⟨g, 0, none⟩ = some (.int .u32 (a : Int)) := by rw [hw7]; exact k0x
          have k1y : w7.cell? ⟨g, 1, none⟩ = some (.int .u32 (b' : Int)) := by rw [hw7]; exact k1x
          have k2y : w7.cell? ⟨g, 2, none⟩ = some (.int .u32 (c : Int)) := by rw [hw7]; exact k2x
          have k3y : w7.cell? ⟨g, 3, none⟩ = some (.int .u32 (d : Int)) := by rw [hw7]; exact k3x
          have k4y : w7.cell? ⟨g, 4, none⟩ = some (.int .u32 (e : Int)) := by rw [hw7]; exact k4x
          have k5y : w7.cell? ⟨g, 5, none⟩ = some (.int .u32 (f : Int)) := by rw [hw7]; exact k5x
          have k6y : w7.cell? ⟨g, 6, none⟩ = some (.int .u32 (g' : Int)) := by rw [hw7]; exact k6x
          have k7y : w7.cell? ⟨g, 7, none⟩ = some (.int .u32 (p8 : Int)) := by rw [hw7]; exact k7x
          have HBw7 : Hid (Below w5.heap.size w5 w7) := by rw [hw7]; exact below_drewN HBw6.out nq
          clear hw7 k0x k1x k2x k3x k4x k5x k6x k7x
          clear T1 T2 T3 r1 hKcx hXcx HBw6
          go_quiet ((first | (go_at_call_of 91 (Value.int IntKind.i64 2); exact Calls.quiet_of (T4.out _)) | (go_at_call_of 91 (Value.int IntKind.i64 13); exact Calls.quiet_of (T5.out _)) | (go_at_call_of 91 (Value.int IntKind.i64 22); exact Calls.quiet_of (T6.out _))))
          go_wp2_with fail
          obtain ⟨w8, hw8⟩ : ∃ w8, w8 = w7.drewN nq := ⟨_, rfl⟩
          rw [← hw8]
          have k0z : w8.cell? ⟨g, 0, none⟩ = some (.int .u32 (a : Int)) := by rw [hw8]; exact k0y
          have k1z : w8.cell? ⟨g, 1, none⟩ = some (.int .u32 (b' : Int)) := by rw [hw8]; exact k1y
          have k2z : w8.cell? ⟨g, 2, none⟩ = some (.int .u32 (c : Int)) := by rw [hw8]; exact k2y
          have k3z : w8.cell? ⟨g, 3, none⟩ = some (.int .u32 (d : Int)) := by rw [hw8]; exact k3y
          have k4z : w8.cell? ⟨g, 4, none⟩ = some (.int .u32 (e : Int)) := by rw [hw8]; exact k4y
          have k5z : w8.cell? ⟨g, 5, none⟩ = some (.int .u32 (f : Int)) := by rw [hw8]; exact k5y
          have k6z : w8.cell? ⟨g, 6, none⟩ = some (.int .u32 (g' : Int)) := by rw [hw8]; exact k6y
          have k7z : w8.cell? ⟨g, 7, none⟩ = some (.int .u32 (p8 : Int)) := by rw [hw8]; exact k7y
          have HBw8 : Hid (Below w5.heap.size w5 w8) := by rw [hw8]; exact below_drewN HBw7.out nq
          clear hw8 k0y k1y k2y k3y k4y k5y k6y k7y
          clear T4 T5 T6 r2 HBw7
          have hst := Dp.step_ok (s := ⟨a, b', c, d, e, f, g', p8⟩) (by rw [Dp.St.ok_iff]; exact ⟨ha, hb, hc, hd, he, hf, hgg, hhh⟩) K X
          have E1 : (((p8 : Int) + ((Dp.big 6 11 25 e : Nat) : Int) + ((Dp.ch e f g' : Nat) : Int) + (K : Int)) % 4294967296 + (X : Int)) % 4294967296 = ((Dp.one ⟨a, b', c, d, e, f, g', p8⟩ K X : Nat) : Int) := by
            simp only [Dp.one, Dp.add]
            omega
          have E2 : (((Dp.big 2 13 22 a : Nat) : Int) + ((Dp.maj a b' c : Nat) : Int)) % 4294967296 = ((Dp.two ⟨a, b', c, d, e, f, g', p8⟩ : Nat) : Int) := by
            simp only [Dp.two, Dp.add]
            omega
          rw [E1, E2]
          have hO := Dp.one_lt ⟨a, b', c, d, e, f, g', p8⟩ K X
          have hTw := Dp.two_lt ⟨a, b', c, d, e, f, g', p8⟩
          have hse : Dp.St.step ⟨a, b', c, d, e, f, g', p8⟩ K X = ⟨Dp.add (Dp.one ⟨a, b', c, d, e, f, g', p8⟩ K X) (Dp.two ⟨a, b', c, d, e, f, g', p8⟩), a, b', c, Dp.add d (Dp.one ⟨a, b', c, d, e, f, g', p8⟩ K X), e, f, g'⟩ := rfl
          rw [hse] at hst HR2
          clear hse E1 E2
          generalize Dp.one ⟨a, b', c, d, e, f, g', p8⟩ K X = O at hO hst HR2 ⊢
          generalize Dp.two ⟨a, b', c, d, e, f, g', p8⟩ = Tw at hTw hst HR2 ⊢
          have y1 : IntKind.u32.wrap ((O : Int) + (Tw : Int)) = ((Dp.add O Tw : Nat) : Int) := by rw [IntKind.wrap_u32']; simp only [Dp.add]; omega
          have y2 : IntKind.u32.wrap ((d : Int) + (O : Int)) = ((Dp.add d O : Nat) : Int) := by rw [IntKind.wrap_u32']; simp only [Dp.add]; omega
          generalize Dp.add O Tw = N1 at y1 hst HR2
          generalize Dp.add d O = N2 at y2 hst HR2
          have HST := mkH hst
          clear hst
          go_region_held3 (fun w' => w'.cell? ⟨g, 0, none⟩ = some (.int .u32 (a : Int)) ∧ w'.cell? ⟨g, 1, none⟩ = some (.int .u32 (b' : Int)) ∧ w'.cell? ⟨g, 2, none⟩ = some (.int .u32 (c : Int)) ∧ w'.cell? ⟨g, 3, none⟩ = some (.int .u32 (d : Int)) ∧ w'.cell? ⟨g, 4, none⟩ = some (.int .u32 (e : Int)) ∧ w'.cell? ⟨g, 5, none⟩ = some (.int .u32 (f : Int)) ∧ w'.cell? ⟨g, 6, none⟩ = some (.int .u32 (g' : Int))) (go_keep) (fail)
          go_wp2_with fail
          have hw5H : H < w5.heap.size := block_lt hgH5
          refine ⟨⟨k + 1, _, w8.heap.size, 8, by omega, HST.out, HR2, rfl, by omega, Nat.lt_of_lt_of_le hw5H HBw8.out.size, by go_num, ?_, Below.drew (HBw8.out.alloc HBw8.out.size _)⟩, by simp [intOf]; omega⟩
          intro j hj
          exact row_new w8 [N1, a, b', c, N2, e, f, g'] j hj
end Go.Proofs.YtbemindfmghjdaaDoor.Dr3
