/-
  What the laws share: data, few, works.
-/
import Derived.Test.YtjboldahmndkeaaWiY
import Derived.Test.YtjboldahmndkeaaWiS
import Derived.Deep.RegionHeld3
namespace Go.Proofs.Ytjboldahmndkeaa.Wb
open Go.RowKit Kt Pl Wi Wk Ww Wx Wf Wy
open At (RowT okT)
set_option linter.unusedVariables false
set_option linter.unusedSimpArgs false
set_option maxRecDepth 20000

theorem S_take (s : Bs) (n : Nat) : (S s).extract 0 n = S (s.take n) := by
  apply ByteArray.ext
  simp [S, ByteArray.data_extract]

theorem S_all (s : Bs) : (S s).extract 0 (S s).size = S s := by
  have := S_take s s.length
  rw [List.take_of_length_le (Nat.le_refl _)] at this
  exact this

theorem cut_any (w : World) (s : Bs) (hs : s.length ≤ 9223372036854775807) : Calls Try.prog 22 #[.string (S s)] w fun e w' => e = .returned (.string (S (s.take 200))) ∧ w' = w := by
  have he := S_take s 200
  have he2 := S_all s
  by_cases h : s.length ≤ 200
  · have h1 : ((S s).size : Int) ≤ 200 := by rw [S_len]; omega
    have HE : Hid (s.take 200 = s) := mkH (List.take_of_length_le h)
    have h2 : ¬ (200 : Int) < ((S s).size : Int) := by omega
    clear he
    go_enter Try.func22, Try.ntmps22
    go_wp2
    go_ret
    refine ⟨?_, rfl⟩
    rw [HE.out]
    first | rfl | (simp only [Array.getD]; simp [he2])
  · have h1 : (200 : Int) < ((S s).size : Int) := by rw [S_len]; omega
    have h2 : (200 : Int) ≤ ((S s).size : Int) := by omega
    have h3 : 200 ≤ (S s).size := by rw [S_len]; omega
    go_enter Try.func22, Try.ntmps22
    go_wp2
    go_ret
    refine ⟨?_, rfl⟩
    rw [← he]
    rfl

/-- What the laws' 'data' leaves. -/
def dataC (l : List Bs) : List Bs := (l.take 1100).map (·.take 4100)
theorem dataC_len (l : List Bs) : (dataC l).length ≤ 1100 := by unfold dataC; rw [List.length_map, List.length_take]; omega
theorem dataC_snoc {l : List Bs} {k : Nat} {x : Bs} (h : l[k]? = some x) (hk : k < 1100) : dataC (l.take (k + 1)) = dataC (l.take k) ++ [x.take 4100] := by
  unfold dataC
  rw [List.take_take, List.take_take, show min 1100 (k + 1) = k + 1 by omega, show min 1100 k = k by omega, List.take_add_one, h]
  simp
theorem dataC_take {l : List Bs} {k : Nat} (hk : k ≤ 1100) : (dataC (l.take k)).length ≤ k := by unfold dataC; rw [List.length_map, List.length_take, List.length_take]; omega
theorem dataC_all {l : List Bs} {k : Nat} (hk : k = l.length ∨ k = 1100) : dataC (l.take k) = dataC l := by
  unfold dataC
  rcases hk with rfl | rfl
  · rw [List.take_of_length_le (l := l) (Nat.le_refl _)]
  · rw [List.take_take]; simp
theorem info9 : (Try.prog.info? 9).map (fun i => (i.zero, i.size, i.bytes)) = some (some (.string ByteArray.empty), 1, 16) := by kernel_rfl
theorem own_snoc {w : World} {base e : Nat} {v : Value} {l : List Bs} {n : Bs} (h : w.ownsRow base e 1 v (l.length + 1) (T l ++ [.string (S n)])) : w.ownsRow base e 1 v (l ++ [n]).length (T (l ++ [n])) := by
  rw [List.length_append, T_append]; exact h
theorem own_lt {w : World} {base e n : Nat} {ao : Option Addr} {cap : Nat} {xs : List Value} (h : w.ownsRow base e 1 (.slice ao n cap) n xs) : ∀ a, ao = some a → base ≤ a.block := by
  rintro a rfl
  rcases h.2 with ⟨e1, _⟩ | ⟨g, c, cur, e1, h2, _⟩
  · simp at e1
  · simp only [Value.slice.injEq, Option.some.injEq] at e1
    rw [e1.1]; exact h2

/-- A slice of texts, of memory since w. -/
def TextsOut (w : World) (l : List Bs) (e : Ending) (w' : World) : Prop := ∃ ao' cap', e = .returned (.slice ao' l.length cap') ∧ RowT w' ao' l ∧ (∀ a, ao' = some a → w.heap.size ≤ a.block) ∧ Below w.heap.size w w'

set_option maxHeartbeats 4000000 in
theorem data_any (w : World) (ao : Option Addr) (cap : Nat) (l : List Bs) (hr : RowT w ao l) (hlen : l.length ≤ 9223372036854775807) :
    Calls Try.prog 23 #[.slice ao l.length cap] w fun e w' => TextsOut w (dataC l) e w' := by
  obtain ⟨base, hbase⟩ : ∃ base, base = w.heap.size := ⟨_, rfl⟩
  have HBE := mkH hbase
  have HR : Hid (∀ W, Below base w W → RowT W ao l) := mkH (fun W h => hr.below (hbase ▸ h))
  have HW : Hid (∀ i x, l[i]? = some x → ∃ b off, ao = some ⟨b, off, none⟩ ∧ b < base ∧ ∀ W, Below base w W → W.cell? ⟨b, off + i, none⟩ = some (.string (S x))) := mkH (by
    intro i x hx
    have hi : i < l.length := (List.getElem?_eq_some_iff.1 hx).1
    obtain ⟨b, off, e, hc⟩ := hr (by omega)
    have h1 := hc i hi
    rw [getD_of hx] at h1
    have hb := World.block_lt_of_cell? w _ h1
    exact ⟨b, off, e, hbase ▸ hb, fun W h => by rw [h.cell (p := ⟨b, off + i, none⟩) (hbase ▸ hb)]; exact h1⟩)
  have HBs : Hid (base ≤ w.heap.size) := mkH (by omega)
  clear hr hbase HR
  go_enter Try.func23, Try.ntmps23
  go_wp2
  go_loopw [3, 4] (fun v ct wr => ∃ k : Nat, k ≤ l.length ∧ k ≤ 1100 ∧ ct = .int .i64 k ∧ Hid (wr.ownsRow base 9 1 v (dataC (l.take k)).length (T (dataC (l.take k)))) ∧ Hid (Below base w wr)) (fun _ ct _ => 1100 - (intOf ct).toNat)
  case atStart => exact ⟨0, Nat.zero_le _, Nat.zero_le _, rfl, mkH (World.ownsRow_nil _ _ _ _), mkH (Below.refl _ _)⟩
  case round =>
    obtain ⟨k, hk, hk11, rfl, HO, HB⟩ := hrel
    by_cases hlt : k < l.length ∧ k < 1100
    · obtain ⟨hlt1, hlt2⟩ := hlt
      obtain ⟨x, hx⟩ : ∃ x, l[k]? = some x := ⟨_, List.getElem?_eq_getElem hlt1⟩
      obtain ⟨b, off, rfl, hbb, hcell⟩ := HW.out k x hx
      have HC := mkH hcell
      have HS := mkH (dataC_snoc hx hlt2)
      have hdl := dataC_take (l := l) hk11
      have hi : (k : Int) < (l.length : Int) := by omega
      have hi0 : (0 : Int) ≤ (k : Int) := by omega
      have hi30 : (k : Int) < 1100 := by omega
      have hsz := HB.out.size
      have HBB := mkH hbb
      clear hx hcell hbb
      have he := S_take x 4100
      have he2 := S_all x
      obtain ⟨m, hm1, hm2, hm3, hm4⟩ : ∃ m : Nat, (if (4100 : Int) < ((S x).size : Int) then (4100 : Int) else ((S x).size : Int)) = (m : Int) ∧ m ≤ (S x).size ∧ (S x).extract 0 m = S (x.take 4100) ∧ min ((S x).size : Int) 4100 = (m : Int) := by
        by_cases h : x.length ≤ 4100
        · refine ⟨x.length, by rw [if_neg (by rw [S_len]; omega), S_len], Nat.le_refl _, ?_, by rw [S_len]; omega⟩
          rw [List.take_of_length_le (l := x) (by omega)]; exact he2
        · exact ⟨4100, by rw [if_pos (by rw [S_len]; omega)]; rfl, by rw [S_len]; omega, he, by rw [S_len]; omega⟩
      have hm5 : (m : Int) ≤ ((S x).size : Int) := by omega
      have hm6 : (0 : Int) ≤ (m : Int) := by omega
      clear he he2
      go_wp2_with fail
      refine wp_region_held_drew (S := fun W => Below base w W ∧ W.cell? ⟨b, off + k, none⟩ = some (.string (S x))) (by kernel_rfl) ⟨HB.out.drew, HC.out _ HB.out.drew⟩ (fun hHeld => ?_)
      refine wpAnyH_take (i := 0) (oi := { dst := some 15, op := _, type := _, pos := _, after := _, guard := _ }) (v := ?_) rfl (by kernel_rfl) (by kernel_rfl) (by kernel_rfl) (fun _ _ _ h => h) (Or.inl ⟨by rfl, ?_⟩) (by assumption) ?_
      rotate_left
      · (intro W hSw; (try dsimp only at hSw); go_simp; try (with_reducible rfl))
      try simp only [Act.put, List.setIfInBounds_toArray, List.set_cons_zero, List.set_cons_succ]
      refine wpAnyH_take (i := 1) (oi := { dst := some 16, op := _, type := _, pos := _, after := _, guard := _ }) (v := ?_) rfl (by kernel_rfl) (by kernel_rfl) (by kernel_rfl) (fun _ _ _ h => h) (Or.inl ⟨by rfl, ?_⟩) (by assumption) ?_
      rotate_left
      · (intro W hSw; (try dsimp only at hSw); go_simp; try (with_reducible rfl))
      try simp only [Act.put, List.setIfInBounds_toArray, List.set_cons_zero, List.set_cons_succ]
      refine wpAnyH_take (i := 2) (oi := { dst := some 17, op := _, type := _, pos := _, after := _, guard := _ }) (v := ?_) rfl (by kernel_rfl) (by kernel_rfl) (by kernel_rfl) (fun _ _ _ h => h) (Or.inl ⟨by rfl, ?_⟩) (by assumption) ?_
      rotate_left
      · (intro W hSw; (try dsimp only at hSw); go_simp; try (with_reducible rfl))
      try simp only [Act.put, List.setIfInBounds_toArray, List.set_cons_zero, List.set_cons_succ]
      refine wpAnyH_take (i := 3) (oi := { dst := some 18, op := _, type := _, pos := _, after := _, guard := _ }) (v := ?_) rfl (by kernel_rfl) (by kernel_rfl) (by kernel_rfl) (fun _ _ _ h => h) (Or.inl ⟨by rfl, ?_⟩) (by assumption) ?_
      rotate_left
      · (intro W hSw; (try dsimp only at hSw); go_simp; try (with_reducible rfl))
      try simp only [Act.put, List.setIfInBounds_toArray, List.set_cons_zero, List.set_cons_succ]
      refine wpAnyH_take (i := 4) (oi := { dst := some 19, op := _, type := _, pos := _, after := _, guard := _ }) (v := ?_) rfl (by kernel_rfl) (by kernel_rfl) (by kernel_rfl) (fun _ _ _ h => h) (Or.inl ⟨by rfl, ?_⟩) (by assumption) ?_
      rotate_left
      · (intro W hSw; (try dsimp only at hSw); go_simp; try (with_reducible rfl))
      try simp only [Act.put, List.setIfInBounds_toArray, List.set_cons_zero, List.set_cons_succ]
      refine wpAnyH_take (i := 5) (oi := { dst := some 20, op := _, type := _, pos := _, after := _, guard := _ }) (v := ?_) rfl (by kernel_rfl) (by kernel_rfl) (by kernel_rfl) (fun _ _ _ h => h) (Or.inl ⟨by rfl, ?_⟩) (by assumption) ?_
      rotate_left
      · (intro W hSw; (try dsimp only at hSw); go_simp; try (with_reducible rfl))
      try simp only [Act.put, List.setIfInBounds_toArray, List.set_cons_zero, List.set_cons_succ]
      refine wpAnyH_take (i := 6) (oi := { dst := some 21, op := _, type := _, pos := _, after := _, guard := _ }) (v := ?_) rfl (by kernel_rfl) (by kernel_rfl) (by kernel_rfl) (fun _ _ _ h => h) (Or.inl ⟨by rfl, ?_⟩) (by assumption) ?_
      rotate_left
      · (intro W hSw; (try dsimp only at hSw); go_simp; try (with_reducible rfl))
      try simp only [Act.put, List.setIfInBounds_toArray, List.set_cons_zero, List.set_cons_succ]
      refine wpAnyH_take (i := 7) (oi := { dst := some 22, op := _, type := _, pos := _, after := _, guard := _ }) (v := ?_) rfl (by kernel_rfl) (by kernel_rfl) (by kernel_rfl) (fun _ _ _ h => h) (Or.inl ⟨by rfl, ?_⟩) (by assumption) ?_
      rotate_left
      · (intro W hSw; (try dsimp only at hSw); go_simp; try (with_reducible rfl))
      try simp only [Act.put, List.setIfInBounds_toArray, List.set_cons_zero, List.set_cons_succ]
      refine wpAnyH_take (i := 8) (oi := { dst := some 23, op := _, type := _, pos := _, after := _, guard := _ }) (v := ?_) rfl (by kernel_rfl) (by kernel_rfl) (by kernel_rfl) (fun _ _ _ h => h) (Or.inl ⟨by rfl, ?_⟩) (by assumption) ?_
      rotate_left
      · (intro W hSw; (try dsimp only at hSw); go_simp; try (with_reducible rfl))
      try simp only [Act.put, List.setIfInBounds_toArray, List.set_cons_zero, List.set_cons_succ]
      refine wpAnyH_take (i := 9) (oi := { dst := some 24, op := _, type := _, pos := _, after := _, guard := _ }) (v := ?_) rfl (by kernel_rfl) (by kernel_rfl) (by kernel_rfl) (fun _ _ _ h => h) (Or.inl ⟨by rfl, ?_⟩) (by assumption) ?_
      rotate_left
      · (intro W hSw; (try dsimp only at hSw); go_simp; try (with_reducible rfl))
      try simp only [Act.put, List.setIfInBounds_toArray, List.set_cons_zero, List.set_cons_succ]
      refine wpAnyH_take (i := 10) (oi := { dst := some 25, op := _, type := _, pos := _, after := _, guard := _ }) (v := ?_) rfl (by kernel_rfl) (by kernel_rfl) (by kernel_rfl) (fun _ _ _ h => h) (Or.inl ⟨by rfl, ?_⟩) (by assumption) ?_
      rotate_left
      · (intro W hSw; (try dsimp only at hSw); go_simp; try (with_reducible rfl))
      try simp only [Act.put, List.setIfInBounds_toArray, List.set_cons_zero, List.set_cons_succ]
      refine wpAnyH_take (i := 11) (oi := { dst := some 26, op := _, type := _, pos := _, after := _, guard := _ }) (v := ?_) rfl (by kernel_rfl) (by kernel_rfl) (by kernel_rfl) (fun _ _ _ h => h) (Or.inl ⟨by rfl, ?_⟩) (by assumption) ?_
      rotate_left
      · (intro W hSw; (try dsimp only at hSw); go_simp; try (with_reducible rfl))
      try simp only [Act.put, List.setIfInBounds_toArray, List.set_cons_zero, List.set_cons_succ]
      obtain ⟨W1, hW1⟩ : ∃ W1, W1 = wr.drew.alloc (.cells #[.string (S (x.take 4100))] 9) := ⟨_, rfl⟩
      have hB1 : Below base w W1 := hW1 ▸ (HB.out.drew).alloc (Nat.le_trans HBs.out hsz) _
      have hO1 : W1.ownsRow base 9 1 u3 (dataC (l.take k)).length (T (dataC (l.take k))) := hW1 ▸ (HO.out.drew).alloc _
      have hS1 : Src Try.prog 1 26 (.slice (some ⟨wr.heap.size, 0, none⟩) 1 1) 1 [.string (S (x.take 4100))] W1 := hW1 ▸ src_val Try.underlying26 wr.drew _ rfl
      obtain ⟨i0, hi', hz0, hz1, hz2⟩ := info_parts info9
      obtain ⟨v2, w2, hr2, hown2, hgrow2⟩ := run_append_own_src (P := Try.prog) W1 base 26 26 26 9 i0 _ 1 16 Try.underlying26 hi' hz0 hz1 hz2 rfl (by decide) u3 _ _ hO1 _ 1 _ hS1 (by unfold maxLen; omega) (by omega) (Nat.le_trans HBs.out hB1.size)
      have hB2 := below_own hO1 hgrow2 hB1 (Nat.le_trans HBs.out hB1.size)
      have hown3 := own_snoc hown2
      rw [← HS.out] at hown3
      have HO3 := mkH hown3
      have HB2 := mkH hB2
      refine wpAnyH_one (i := 12) (by kernel_rfl) (op_value rfl rfl (v := .slice (some ⟨wr.heap.size, 0, none⟩) 1 1) (w' := W1) ?_ ⟨⟨hB1, HC.out _ hB1⟩, ?_⟩)
      · rw [hW1]
        clear hB1 hO1 hS1 hr2 hown2 hgrow2 hB2 hown3 hHeld hW1
        go_simp
      simp only [Act.put, List.setIfInBounds_toArray, List.set_cons_zero, List.set_cons_succ]
      refine wpAnyH_one (i := 13) (by kernel_rfl) (op_value rfl rfl (run_app rfl rfl rfl hr2) ⟨⟨hB2, HC.out _ hB2⟩, ?_⟩)
      simp only [Act.put, List.setIfInBounds_toArray, List.set_cons_zero, List.set_cons_succ]
      refine wpAnyH_one (i := 14) (by kernel_rfl) (op_value rfl rfl (v := v2) (w' := w2) ?_ ⟨⟨hB2, HC.out _ hB2⟩, ?_⟩)
      · clear hB1 hO1 hS1 hr2 hown2 hgrow2 hB2 hown3 hHeld hW1
        go_simp
      simp only [Act.put, List.setIfInBounds_toArray, List.set_cons_zero, List.set_cons_succ]
      refine wpAnyH_done (by kernel_rfl) ?_ _
      clear hB1 hO1 hS1 hr2 hown2 hgrow2 hB2 hown3 hHeld hW1 hi' hz0 hz1 hz2 HO HB HS HC HW
      go_wp2
      go_roundw
      case rel => exact ⟨k + 1, by omega, by omega, by go_num, HO3, HB2⟩
      case measure => simp [intOf]; omega
    · have hF : (¬ ((k : Int) < (l.length : Int))) ∨ (((k : Int) < (l.length : Int)) ∧ ¬ ((k : Int) < 1100)) := by omega
      have hO := HO.out
      rw [dataC_all (by omega)] at hO
      obtain ⟨ao2, cap2, rfl⟩ := own_form hO
      have HT := mkH (At.RowT.own hO).2.2
      have HL := mkH (own_lt hO)
      clear hO HO hlt
      rcases hF with hF | ⟨hF1, hF2⟩
      all_goals
        go_wp2
        go_ret
        exact ⟨ao2, cap2, rfl, HT.out, HBE.out ▸ HL.out, HBE.out ▸ HB.out⟩
end Go.Proofs.Ytjboldahmndkeaa.Wb
