/-
  The contracts of Sum and Of.
-/
import Derived.Test.YtcpmaddleleblaaDoorDgG
namespace Go.Proofs.YtcpmaddleleblaaDoor.Dh
open Go.RowKit Kt Dk Dw Ds Dt De Df Dg
set_option linter.unusedVariables false
set_option maxRecDepth 20000

/-- The first cells are these bytes. -/
def Pu (C : Array Value) (l : List UInt8) : Prop := C.size = 32 ∧ C.toList.take l.length = U l
theorem Pu.next {C : Array Value} {l : List UInt8} (h : Pu C l) (new : List UInt8) (hl : l.length + new.length ≤ 32) : Pu (splice C l.length (U new)) (l ++ new) := by
  obtain ⟨h1, h2⟩ := h
  refine ⟨by rw [splice_size (by rw [U_length]; omega), h1], ?_⟩
  unfold splice
  rw [h2]
  have e : (l ++ new).length = (U l ++ U new).length := by simp [U_length]
  rw [e, List.take_left, U_append]
theorem Pu.all {C : Array Value} {l : List UInt8} (h : Pu C l) (hl : l.length = 32) : C = (U l).toArray := by
  obtain ⟨h1, h2⟩ := h
  rw [List.take_of_length_le (by simp; omega)] at h2
  rw [← h2]
def wb (l : List Nat) (k : Nat) : List UInt8 := ((l.take k).map Dp.bytes4).flatten
theorem wb_succ (l : List Nat) (k : Nat) (hk : k < l.length) : wb l (k + 1) = wb l k ++ Dp.bytes4 (l.getD k 0) := by
  unfold wb
  rw [List.take_succ_eq_append_getElem hk, List.map_append, List.flatten_append]
  simp only [List.map_cons, List.map_nil, List.flatten_cons, List.flatten_nil, List.append_nil, List.getD, List.getElem?_eq_getElem hk, Option.getD_some]
theorem wb_length (l : List Nat) : ∀ k, k ≤ l.length → (wb l k).length = 4 * k
  | 0, _ => rfl
  | k + 1, hk => by rw [wb_succ l k (by omega), List.length_append, wb_length l k (by omega), Dp.bytes4_length]; omega

/-- Where Sum stands: the result's block, the copy's words and the bytes so far. -/
def Su (w W : World) (G : Nat) (l : List Nat) (k : Nat) : Prop :=
  Below w.heap.size w W ∧ (∃ Z : Array Value, Z.size = 32 ∧ W.heap[w.heap.size]? = some (.cells Z 130 (0, 0))) ∧ ∃ C : Array Value, Pu C (wb l k) ∧ W.heap[G]? = some (.cells C 130 (0, 0))

set_option maxHeartbeats 4000000 in
theorem sum_any (w : World) (b : Nat) (all : List UInt8) (hT : Tb w) (hS : Hs w b all) (hn : all.length ≤ 100000) :
    Calls Tryd.prog 88 #[.pointer (some ⟨b, 0, none⟩)] w fun e w' => e = .returned (.agg (U (Dp.dig all)).toArray) ∧ Below w.heap.size w w' := by
  have hlt := hs_lt hS
  have hT0 := hT.size
  have hS0 := hS
  obtain ⟨blk, hb1, hb2, hb3, hb4⟩ := hS0
  have hsz := hc_size (n := all.length) hb2 hb3
  have hone := hc_one (n := all.length) hb2 hb3
  obtain ⟨C, hC⟩ : ∃ C : List Value, C = (hc (Dp.blks Dp.init all (all.length / 64)).list blk all.length).toList := ⟨_, rfl⟩
  have hCa : hc (Dp.blks Dp.init all (all.length / 64)).list blk all.length = C.toArray := by rw [hC]
  rw [← hC] at hone
  have hCl : C.length = 74 := by rw [hC]; simpa using hsz
  have hi : (Tryd.prog.info? 146).map (·.size) = some C.length := by rw [hCl]; kernel_rfl
  have HX : Hid (∀ (w' : World) (g : Nat), w'.heap[g]? = some (.cells C.toArray 146 (0, 0)) → H w' g (Dp.blks Dp.init all (all.length / 64)).list blk all.length 146) := fun w' g h => ⟨hb2, hb3, by rw [h, hCa]⟩
  rw [hCa] at hb4
  have HI := mkH hi
  have HL := mkH hCl
  have HB1 := mkH hb1
  have HONE := mkH hone
  have HTB := mkH hT
  have HN := mkH hn
  have HS := mkH hS
  clear hCa hC hb1 hb2 hb3 hsz hi hCl hone hT hn hS
  go_enter Tryd.func88, Tryd.ntmps88
  go_wp2_with (refine wpList_alloc_agg rfl 130 rfl 32 (by kernel_rfl) ?_; intro Z hZ)
  have hbel : Below w.heap.size w (w.alloc (.cells Z 130)) := (Below.refl _ w).alloc (Nat.le_refl _) _
  refine (isMade_any _ b (hs_made (hs_below HS.out hbel hlt))).mono ?_
  rintro e w1 ⟨rfl, hw1⟩
  subst hw1
  have hb4' : (w.alloc (.cells Z 130)).heap[b]? = some (.cells C.toArray 146 (0, 0)) := by rw [hbel.block b hlt]; exact hb4
  clear hb4 HS
  go_wp2_with (first
    | (refine wpList_load_agg rfl 146 (.tmp 12) rfl _ Tryd.underlying146 rfl b 0 rfl C HI.out ?hc ?_; (case hc => intro j v hv; rw [Nat.zero_add, cell_of_row _ _ _ _ _ _ hb4']; simpa using hv))
    | (refine wpList_alloc_agg rfl 146 rfl 74 (by kernel_rfl) ?_; intro Z2 hZ2)
    | (refine wpList_store_new rfl 146 (.tmp 3) (.tmp 13) rfl (w.alloc (.cells Z 130)) Z2 rfl C rfl HI.out (by rw [hZ2, HL.out]) HONE.out ?_))
  have hW2 : ((w.alloc (.cells Z 130)).alloc (.cells C.toArray 146)).heap[w.heap.size + 1]? = some (.cells C.toArray 146 (0, 0)) := by
    have := heap_alloc_new (w.alloc (.cells Z 130)) (.cells C.toArray 146)
    rwa [World.size_alloc] at this
  have hR2 : ((w.alloc (.cells Z 130)).alloc (.cells C.toArray 146)).heap[w.heap.size]? = some (.cells Z 130 (0, 0)) := by
    rw [Below.heap_alloc _ _ _ (by simp)]; exact heap_alloc_new _ _
  have hbel2 : Below w.heap.size w ((w.alloc (.cells Z 130)).alloc (.cells C.toArray 146)) := hbel.alloc (by simp) _
  have hs2 : ((w.alloc (.cells Z 130)).alloc (.cells C.toArray 146)).heap.size = w.heap.size + 2 := by simp
  clear hb4' hbel
  generalize (w.alloc (.cells Z 130)).alloc (.cells C.toArray 146) = W2 at hW2 hR2 hbel2 hs2 ⊢
  refine (end_any W2 (w.heap.size + 1) all blk (HTB.out.below hbel2 hT0) (by omega) HN.out HB1.out (HX.out _ _ hW2)).mono ?_
  rintro e W3 ⟨⟨v, rfl⟩, ⟨blk', h3⟩, ho3⟩
  have hR3 : W3.heap[w.heap.size]? = some (.cells Z 130 (0, 0)) := by rw [ho3.heap (by omega) (by omega)]; exact hR2
  have hb3 : Below w.heap.size w W3 := hbel2.trans (ho3.below (by omega) (by omega))
  have hs3 := ho3.size
  have hL3 := hLt h3
  clear hW2 hR2 hbel2 ho3 HX HB1
  have hi8 : (Tryd.prog.info? 143).map (·.size) = some (W32 (Dp.fin all).list).length := by kernel_rfl
  have hok : ∀ x ∈ (Dp.fin all).list, x < 4294967296 := Dp.fin_ok all
  have H3 := mkH h3
  have HD : Hid (Dp.dig all = wb (Dp.fin all).list 8) := rfl
  have hll : (Dp.fin all).list.length = 8 := rfl
  clear h3
  generalize (Dp.fin all).list = l at hi8 H3 HD hll hok
  go_wp2_with (first
    | (refine wpList_alloc_agg rfl 130 rfl 32 (by kernel_rfl) ?_; intro Z3 hZ3)
    | (refine wpList_load_agg rfl 143 (.tmp 15) rfl _ Tryd.underlying143 rfl (w.heap.size + 1) 1 rfl (W32 l) hi8 ?hc ?_; (case hc => intro j v hv; obtain ⟨hj, rfl⟩ := W32_get _ _ _ hv; have e1 := Below.heap_alloc W3 (.cells Z3 130) (w.heap.size + 1) hL3; rw [H3.out.2.2] at e1; rw [cell_of_row _ _ _ _ _ _ e1]; exact hc_word H3.out.1 H3.out.2.1 j (by omega))))
  have hSu : Su w (W3.alloc (.cells Z3 130)) W3.heap.size l 0 :=
    ⟨hb3.alloc hb3.size _, ⟨Z, hZ, by rw [Below.heap_alloc _ _ _ (by omega)]; exact hR3⟩, Z3, ⟨hZ3, rfl⟩, heap_alloc_new _ _⟩
  have HG : Hid (w.heap.size < W3.heap.size) := by unfold Hid; omega
  have HU := mkH hok
  have HLL := mkH hll
  have HIX := mkH (fun (j : Nat) (hj : j < 8) => run_index_agg (P := Tryd.prog) 143 142 8 Tryd.underlying143 _ Tryd.underlying142 rfl (by kernel_rfl) (W32 l) j hj _ (W32_at l j (by rw [hll]; exact hj)))
  generalize W3.alloc (.cells Z3 130) = W4 at hSu ⊢
  generalize W3.heap.size = G at hSu HG ⊢
  clear hZ3 hR3 hb3 hs3 hL3 hi8 H3 hok hll HI HL HONE hZ hZ2 hs2
  go_loopw [17] (fun i W => ∃ k : Nat, k ≤ 8 ∧ i = .int .i64 k ∧ Su w W G l k) (fun i _ => 8 - (intOf i).toNat)
  case atStart => exact ⟨0, by omega, rfl, hSu⟩
  case round =>
    clear hSu
    obtain ⟨k, hk, rfl, hSu⟩ := hrel
    by_cases hlt8 : k = 8
    · have t0 : decide ((k : Int) < 8) = false := by simp; omega
      subst hlt8
      obtain ⟨hb, ⟨Zr, hZr, hzr⟩, Cr, hp, hcr⟩ := hSu
      have hCe := hp.all (wb_length l 8 (by rw [HLL.out]; omega))
      rw [← HD.out] at hCe
      have hdl : (U (Dp.dig all)).length = 32 := by rw [U_length, Dp.dig_length]
      have hi32 : (Tryd.prog.info? 130).map (·.size) = some (U (Dp.dig all)).length := by rw [hdl]; kernel_rfl
      have hZ32 : Zr.size = (U (Dp.dig all)).length := by rw [hdl, hZr]
      subst hCe
      clear hp hdl
      go_wp2_with (first
        | (refine wpList_load_agg rfl 130 (.tmp 4) rfl _ Tryd.underlying130 rfl G 0 rfl (U (Dp.dig all)) hi32 ?hc ?_; (case hc => intro j v hv; rw [cell_of_row _ _ _ _ _ _ hcr]; simpa using hv))
        | (refine wpList_store_agg rfl 130 (.tmp 2) (.tmp 27) rfl w.heap.size rfl (U (Dp.dig all)) rfl _ Zr hzr hi32 hZ32 (U_one _) ?_))
      refine ret_cell 2 130 rfl w.heap.size rfl _ Tryd.underlying130 rfl (U (Dp.dig all)) hi32 _ _ (setRow_heap _ _ _ _ _ _ hzr) rfl ⟨rfl, below_setRow hb (Nat.le_refl _) _⟩
    · have t0 : decide ((k : Int) < 8) = true := by simp; omega
      have hk0 : (k : Int) < 8 := by omega
      have hk1 : k < 8 := by omega
      obtain ⟨hb, ⟨Zr, hZr, hzr⟩, Cr, hp, hcr⟩ := hSu
      have hix := HIX.out k hk1
      have hsl := fun W => run_arr_low (P := Tryd.prog) W 130 5 32 Tryd.underlying130 (by kernel_rfl) G 0 (4 * k) (4 * (k : Int)) (by omega) (by omega)
      simp only [Nat.zero_add] at hsl
      have hx := Dp.getD_lt HU.out k
      have hwl := wb_length l k (by rw [HLL.out]; omega)
      have hnx := hp.next (Dp.bytes4 (l.getD k 0)) (by rw [hwl, Dp.bytes4_length]; omega)
      rw [← wb_succ l k (by rw [HLL.out]; omega), hwl] at hnx
      have HNX : Hid (Su w (wr.setRow G (splice Cr (4 * k) (U (Dp.bytes4 (l.getD k 0))))) G l (k + 1)) := by
        have hgg := HG.out
        exact ⟨below_setRow hb (by omega) _, ⟨Zr, hZr, by rw [setRow_other _ _ _ _ (by omega)]; exact hzr⟩, _, hnx, setRow_heap _ _ _ _ _ _ hcr⟩
      have hcs := hp.1
      clear hb hzr hZr hp hnx hwl
      generalize l.getD k 0 = X at hix hx HNX
      generalize (W32 l).toArray = wl at hix ⊢
      go_wp2_with fail
      refine (putWord_any wr G (4 * k) _ _ X Cr _ hcr (by omega) (by omega) (by omega) hx).mono ?_
      rintro e W5 ⟨⟨v5, rfl⟩, rfl⟩
      clear hsl hix hcr
      generalize wr.setRow G (splice Cr (4 * k) (U (Dp.bytes4 X))) = W6 at HNX ⊢
      go_wp2_with fail
      refine ⟨?rel, ?measure⟩
      case rel => exact ⟨k + 1, by omega, by go_num, HNX.out⟩
      case measure => simp [intOf]; omega

set_option maxHeartbeats 2000000 in
theorem of_any (w : World) (ao : Option Addr) (cap : Nat) (bs : List UInt8) (hT : Tb w) (hr : Row w ao bs) (hao : ∀ a, ao = some a → a.block < w.heap.size) (hn : bs.length ≤ 100000) (hc : bs.length ≤ cap) (hc2 : cap ≤ 9223372036854775807) :
    Calls Tryd.prog 80 #[.slice ao bs.length cap] w fun e w' => e = .returned (.agg (U (Dp.dig bs)).toArray) ∧ Below w.heap.size w w' := by
  have hT0 := hT.size
  have hdl : (U (Dp.dig bs)).length = 32 := by rw [U_length, Dp.dig_length]
  have hi32 : (Tryd.prog.info? 130).map (·.size) = some (U (Dp.dig bs)).length := by rw [hdl]; kernel_rfl
  have HI := mkH hi32
  have HDL := mkH hdl
  clear hi32 hdl
  go_enter Tryd.func80, Tryd.ntmps80
  go_wp2_with (refine wpList_alloc_agg rfl 130 rfl 32 (by kernel_rfl) ?_; intro Z hZ)
  have hb1 : Below w.heap.size w (w.alloc (.cells Z 130)) := (Below.refl _ w).alloc (Nat.le_refl _) _
  have hz1 : (w.alloc (.cells Z 130)).heap[w.heap.size]? = some (.cells Z 130 (0, 0)) := heap_alloc_new _ _
  have hs1 : (w.alloc (.cells Z 130)).heap.size = w.heap.size + 1 := by simp
  generalize w.alloc (.cells Z 130) = w1 at hb1 hz1 hs1 ⊢
  refine (new_any w1).mono ?_
  rintro e w2 ⟨rfl, h2, hb2⟩
  have hlt2 := hs_lt h2
  have hz2 := hb2.block w.heap.size (by omega)
  rw [hz1] at hz2
  have hB2 : Below w.heap.size w w2 := hb1.trans (hb2.mono (by omega))
  obtain ⟨g, hg⟩ : ∃ g, w1.heap.size = g := ⟨_, rfl⟩
  rw [hg] at h2 hlt2 ⊢
  have hgw : w.heap.size < g := by omega
  clear hb1 hb2 hz1 hs1 hg
  go_wp2_with fail
  refine (write_any w2 g [] ao cap bs (hT.below hB2 hT0) (by omega) h2 ⟨?hrow, ?hne⟩ (by simpa using hn) hc hc2).mono ?_
  case hrow => exact hr.below hB2
  case hne => intro a ha; have := hao a ha; omega
  rintro e w3 ⟨rfl, h3, ho3⟩
  rw [List.nil_append] at h3
  have hz3 : w3.heap[w.heap.size]? = some (.cells Z 130 (0, 0)) := by rw [ho3.heap (by omega) (by omega)]; exact hz2
  have hB3 : Below w.heap.size w w3 := hB2.trans (ho3.below (by omega) hB2.size)
  clear h2 hlt2 hB2 ho3 hz2
  go_wp2_with fail
  refine (sum_any w3 g bs (hT.below hB3 hT0) h3 hn).mono ?_
  rintro e w4 ⟨rfl, hb4⟩
  have hz4 : w4.heap[w.heap.size]? = some (.cells Z 130 (0, 0)) := by rw [hb4.block _ (block_lt hz3)]; exact hz3
  have hB4 : Below w.heap.size w w4 := hB3.trans (hb4.mono hB3.size)
  clear h3 hB3 hb4 hz3
  go_wp2_with (refine wpList_store_agg rfl 130 (.tmp 2) (.tmp 9) rfl w.heap.size rfl (U (Dp.dig bs)) rfl _ Z hz4 HI.out (by rw [HDL.out, hZ]) (U_one _) ?_)
  refine ret_cell 2 130 rfl w.heap.size rfl _ Tryd.underlying130 rfl (U (Dp.dig bs)) HI.out _ _ (setRow_heap _ _ _ _ _ _ hz4) rfl ⟨rfl, below_setRow hB4 (Nat.le_refl _) _⟩
end Go.Proofs.YtcpmaddleleblaaDoor.Dh
