/-
  The walk of PlaceCovers.
-/
import Derived.Test.YtiinhfkpfklgjabPlX
import Derived.Test.YtiinhfkpfklgjabPlY
import Derived.Test.YtiinhfkpfklgjabPlOf0
import Derived.Deep.RegionHeld3
import Derived.Deep.CutRange
namespace Go.Proofs.Ytiinhfkpfklgjab.Pcv
open Go.RowKit Pl Pw Pr Pf Pg Pa Pb Pj Pv Po Pq Px Py
open Kt hiding mkH
set_option linter.unusedVariables false
set_option linter.unusedSimpArgs false
set_option maxRecDepth 20000

theorem Bx.kept {w w' : World} {b : Nat} {lo hi : Int} {row : Option Nat} (h : Bx w b lo hi) (hg : w.grownBy w' row) (hne : some b ≠ row) : Bx w' b lo hi := (hg.block b h.lt hne).trans h
theorem ow_snoc {w : World} {base : Nat} {v : Value} {l : List Rg} {a b : Int} (h : w.ownsRow base 24 2 v (l.length + 1) (E l ++ E [(a, b)])) : Ow w base v (l ++ [(a, b)]) := by
  unfold Ow; rw [List.length_append, E_append]; exact h
theorem Ow.at {w : World} {base g n cap j : Nat} {l : List Rg} {r : Rg} (h : Ow w base (.slice (some ⟨g, 0, none⟩) n cap) l) (hj : l[j]? = some r) : w.cell? ⟨g, j * 2, none⟩ = some (.int .i64 r.1) ∧ w.cell? ⟨g, j * 2 + 1, none⟩ = some (.int .i64 r.2) := by
  obtain ⟨b, off, e, hc⟩ := h.rw (by have := (List.getElem?_eq_some_iff.1 hj).1; omega)
  simp only [Option.some.injEq, Addr.mk.injEq, and_true] at e
  obtain ⟨rfl, rfl⟩ := e
  have := hc j r hj
  rwa [Nat.zero_add] at this
theorem splitV_form (lo hi p : Int) : ∃ a1 a2 c1 c2 ee : Int, splitV (lo, hi) p = .tuple #[.agg #[.int .i64 a1, .int .i64 a2], .agg #[.int .i64 c1, .int .i64 c2], .int .i64 ee] ∧
    ((splitOk (lo, hi) p = true ∧ a1 = lo ∧ a2 = p ∧ c1 = p ∧ c2 = hi ∧ ee = 0) ∨ (splitOk (lo, hi) p = false ∧ ee = 2)) := by
  cases h : splitOk (lo, hi) p
  · exact ⟨0, 0, 0, 0, 2, by unfold splitV; rw [h]; rfl, .inr ⟨rfl, rfl⟩⟩
  · exact ⟨lo, p, p, hi, 0, by unfold splitV; rw [h]; rfl, .inl ⟨rfl, rfl, rfl, rfl, rfl, rfl⟩⟩
theorem idx_form (n : Int) (L : Nat) (hL : 0 < L) (hL2 : L ≤ 31) (hn : (Lit.int .i64 n).wf = true) : ∃ i : Nat, i < L ∧ (wrap64 (n.tmod ↑L + ↑L)).tmod ↑L = ((i : Nat) : Int) := by
  have h1 : n.tmod L < L := Int.tmod_lt_of_pos n (by omega)
  have h2 : -(L : Int) < n.tmod L := Int.lt_tmod_of_pos n (by omega)
  have hw : wrap64 (n.tmod ↑L + ↑L) = n.tmod ↑L + ↑L := by
    unfold wrap64
    omega
  rw [hw]
  have h3 : 0 ≤ (n.tmod ↑L + ↑L).tmod ↑L := Int.tmod_nonneg _ (by omega)
  have h4 : (n.tmod ↑L + ↑L).tmod ↑L < L := Int.tmod_lt_of_pos _ (by omega)
  exact ⟨((n.tmod ↑L + ↑L).tmod ↑L).toNat, by omega, by omega⟩
theorem ow_join {w : World} {base n m : Nat} {v : Value} {a b : List Rg} (h : w.ownsRow base 24 2 v (n + m) (E a ++ E b)) (hn : a.length = n) (hm : b.length = m) : Ow w base v (a ++ b) := by
  unfold Ow; rw [List.length_append, E_append, hn, hm]; exact h
theorem take_src {w : World} {base g n cap i : Nat} {l : List Rg} (h : Ow w base (.slice (some ⟨g, 0, none⟩) n cap) l) (hi : i ≤ l.length) (c : Nat) : Src Try.prog 2 25 (.slice (some ⟨g, 0, none⟩) i c) i (E (l.take i)) w := by
  have h1 := Rw.src (P := Try.prog) Try.underlying25 (Rw.take h.rw i) c
  rw [List.length_take, Nat.min_eq_left hi] at h1
  exact h1
theorem drop_src {w : World} {base g n cap i : Nat} {l : List Rg} (h : Ow w base (.slice (some ⟨g, 0, none⟩) n cap) l) (hc : l.length ≤ cap) (c : Nat) :
    Src Try.prog 2 25 (.slice (if cap = i + 1 then some ⟨g, 0, none⟩ else some ⟨g, (i + 1) * 2, none⟩) (l.length - (i + 1)) c) (l.length - (i + 1)) (E (l.drop (i + 1))) w := by
  have hr : Rw w (if cap = i + 1 then some ⟨g, 0, none⟩ else some ⟨g, (i + 1) * 2, none⟩) (l.drop (i + 1)) := by
    intro hp
    rw [List.length_drop] at hp
    rw [if_neg (by omega)]
    refine ⟨g, (i + 1) * 2, rfl, fun q r hq => ?_⟩
    rw [List.getElem?_drop] at hq
    have := Ow.at h hq
    rw [show (i + 1) * 2 + q * 2 = (i + 1 + q) * 2 by omega]
    exact this
  have h1 := Rw.src (P := Try.prog) Try.underlying25 hr c
  rw [List.length_drop] at h1
  exact h1
/-- Numbers that came in lie there still. -/
def Rn (w : World) (ao : Option Addr) (l : List Int) : Prop :=
  0 < l.length → ∃ b off, ao = some ⟨b, off, none⟩ ∧ ∀ (i : Nat) (x : Int), l[i]? = some x → w.cell? ⟨b, off + i, none⟩ = some (.int .i64 x)

set_option maxHeartbeats 16000000 in
theorem placeCovers (w : World) (ao : Option Addr) (cap : Nat) (zs : List Int) (n : Int) (hr : Rn w ao zs) (hlen : zs.length ≤ cap) (hcap : cap ≤ 9223372036854775807) (hn : (Lit.int .i64 n).wf = true) :
    Calls Try.prog 3 #[.slice ao zs.length cap, .int .i64 n] w fun e w' => e = .returned (.bool true) ∧ Below w.heap.size w w' := by
  have HR := mkH hr
  have hzl : zs.length ≤ 9223372036854775807 := by omega
  clear hr hlen hcap
  have ho0 : Ow (w.alloc (.cells #[.int .i64 0, .int .i64 65536] 24)) w.heap.size (.slice (some ⟨w.heap.size, 0, none⟩) 1 1) [(0, 65536)] := by
    exact ⟨rfl, .inr ⟨w.heap.size, 1, _, rfl, Nat.le_refl _, heap_alloc_new _ _, Nat.le_refl _, by decide, rfl, rfl⟩⟩
  have hb0 : Below w.heap.size w (w.alloc (.cells #[.int .i64 0, .int .i64 65536] 24)) := (Below.refl _ w).alloc (Nat.le_refl _) _
  have HO0 := mkH ho0
  have HB0 := mkH hb0
  clear ho0 hb0
  go_enter Try.func3, Try.ntmps3
  go_wp2
  go_loopg [5, 6] 30 (fun gg u i wr => ∃ (k : Nat) (l : List Rg), k ≤ zs.length ∧ k ≤ 30 ∧ 30 - k ≤ gg ∧ i = .int .i64 k ∧ Hid (Cov l) ∧ 0 < l.length ∧ l.length ≤ k + 1 ∧ Ow wr w.heap.size u l ∧ Below w.heap.size w wr)
  case atStart => exact ⟨0, [(0, 65536)], Nat.zero_le _, by omega, by omega, rfl, cov_start, by decide, by decide, HO0.out, HB0.out⟩
  case round =>
    obtain ⟨k, l, hk, hk30, hgg, rfl, hC, hl0, hll, hO, hX⟩ := hrel
    have hsz := hX.size
    by_cases hlt : k < zs.length ∧ k < 30
    · obtain ⟨p, hzk⟩ := some_of hlt.1
      obtain ⟨bk, o, rfl, hc⟩ := HR.out (by omega)
      have u1 := hc k p hzk
      have hbw : bk < w.heap.size := World.block_lt_of_cell? w _ u1
      have hlt1 := hlt.1
      have hlt2 := hlt.2
      have hkz : (k : Int) < (zs.length : Int) := by omega
      have hi3 : (k : Int) < 30 := by omega
      have hi0 : (0 : Int) ≤ (k : Int) := by omega
      have HU : Hid (∀ W, Below w.heap.size w W → W.cell? ⟨bk, o + k, none⟩ = some (.int .i64 p)) := mkH (fun W hW => (hW.cell (p := ⟨bk, o + k, none⟩) hbw).trans u1)
      clear hc hzk u1
      have v1 := HU.out wr hX
      obtain ⟨g, cap', rfl, hbg, hgs, hlc, hcc⟩ := Ow.pos hO hl0
      have HF := mkH (find_any wr _ cap' l p hO.rw (by omega))
      have HO := mkH hO
      have HX := mkH hX
      clear hO hX
      rcases fnd_spec l p 0 with hF | ⟨j, ⟨lo, hi⟩, hF, hlj, hin⟩
      · have hN := cov_neg hC.out p hF
        generalize fnd l p 0 = F at *
        go_wp2_with fail
        refine (HF.out).mono ?_
        rintro e w2 ⟨rfl, hg2⟩
        have hX2 := HX.out.trans (hg2.mono HX.out.size)
        have hO2 := HO.out.below hg2
        have v2 := HU.out w2 hX2
        have HC := hC
        clear hg2 HX HO HF v1 hC
        have HX2 := mkH hX2
        have HO2 := mkH hO2
        clear hX2 hO2
        by_cases hp : 0 ≤ p
        · have hp2 : ¬ p < 65536 := fun h => hN ⟨hp, h⟩
          clear hN
          go_wp2
          go_roundg (30 - (k + 1))
          case measure => omega
          case rel => exact ⟨k + 1, l, by omega, by omega, by omega, by go_num, HC, hl0, by omega, HO2.out, HX2.out⟩
        · clear hN
          go_wp2
          go_roundg (30 - (k + 1))
          case measure => omega
          case rel => exact ⟨k + 1, l, by omega, by omega, by omega, by go_num, HC, hl0, by omega, HO2.out, HX2.out⟩
      · simp only [Nat.zero_add] at hF
        have hj : j < l.length := (List.getElem?_eq_some_iff.1 hlj).1
        obtain ⟨a1, a2, c1, c2, ee, hV, hcase⟩ := splitV_form lo hi p
        have hsp := fun W => split_any W lo hi p
        rw [hV] at hsp
        rw [hF] at HF
        have HLJ := mkH hlj
        have HCASE := mkH hcase
        have hjl : (j : Int) < (l.length : Int) := by omega
        have hj0 : (0 : Int) ≤ (j : Int) := by omega
        have hjn : ¬ ((j : Int) < 0) := by omega
        clear hlj hcase hV hin hF
        go_wp2_with fail
        refine (HF.out).mono ?_
        rintro e w2 ⟨rfl, hg2⟩
        have hX2 := HX.out.trans (hg2.mono HX.out.size)
        have hO2 := HO.out.below hg2
        have hs2 := hg2.size
        have v2 := HU.out w2 hX2
        obtain ⟨y1, y2⟩ := Ow.at hO2 HLJ.out
        have hbw2 : bk < w2.heap.size := World.block_lt_of_cell? w2 _ v2
        have HKS : Hid (∀ W, Below w2.heap.size w2 W → W.cell? ⟨g, j * 2, none⟩ = some (.int .i64 lo) ∧ W.cell? ⟨g, j * 2 + 1, none⟩ = some (.int .i64 hi) ∧ W.cell? ⟨bk, o + k, none⟩ = some (.int .i64 p)) :=
          mkH (fun W hW => ⟨(hW.cell (p := ⟨g, j * 2, none⟩) (by show g < _; omega)).trans y1, (hW.cell (p := ⟨g, j * 2 + 1, none⟩) (by show g < _; omega)).trans y2, (hW.cell (p := ⟨bk, o + k, none⟩) hbw2).trans v2⟩)
        have HX2 := mkH hX2
        have HO2 := mkH hO2
        have HC := hC
        have hcur : Below w2.heap.size w2 w2.drew := (Below.refl _ _).drew
        clear hg2 HX HO HF v1 hC hX2 hO2
        go_upto_region 9 with fail
        go_cut [8, 9, 10] from 15 to 70 (fun v8 v9 v10 wc => ∃ b8 b9 : Nat, v8 = .pointer (some ⟨b8, 0, none⟩) ∧ v9 = .pointer (some ⟨b9, 0, none⟩) ∧ v10 = .int .i64 ee ∧ Bx wc b8 a1 a2 ∧ Bx wc b9 c1 c2 ∧ Below w2.heap.size w2 wc ∧ w2.heap.size ≤ b8 ∧ w2.heap.size ≤ b9)
        case first =>
          refine wp_region_held_drew (S := fun W => W.cell? ⟨g, j * 2, none⟩ = some (.int .i64 lo) ∧ W.cell? ⟨g, j * 2 + 1, none⟩ = some (.int .i64 hi) ∧ W.cell? ⟨bk, o + k, none⟩ = some (.int .i64 p)) (by kernel_rfl) ?_ (fun hHeld => ?_)
          · exact HKS.out _ hcur
          generalize w2.drew = wz at *
          refine wpAnyH_take (i := 0) (oi := { dst := some 46, op := _, type := _, pos := _, after := _, guard := _ }) (v := ?_) rfl (by kernel_rfl) (by kernel_rfl) (by kernel_rfl) (fun _ _ _ h => h) (Or.inl ⟨by rfl, ?_⟩) (by assumption) ?_
          rotate_left
          · (intro W hSw; (try dsimp only at hSw); go_simp; try (with_reducible rfl))
          try simp only [Act.put, List.setIfInBounds_toArray, List.set_cons_zero, List.set_cons_succ]
          refine wpAnyH_take (i := 1) (oi := { dst := some 47, op := _, type := _, pos := _, after := _, guard := _ }) (v := ?_) rfl (by kernel_rfl) (by kernel_rfl) (by kernel_rfl) (fun _ _ _ h => h) (Or.inl ⟨by rfl, ?_⟩) (by assumption) ?_
          rotate_left
          · (intro W hSw; (try dsimp only at hSw); go_simp; try (with_reducible rfl))
          try simp only [Act.put, List.setIfInBounds_toArray, List.set_cons_zero, List.set_cons_succ]
          refine wpAnyH_take (i := 2) (oi := { dst := some 48, op := _, type := _, pos := _, after := _, guard := _ }) (v := ?_) rfl (by kernel_rfl) (by kernel_rfl) (by kernel_rfl) (fun _ _ _ h => h) (Or.inl ⟨by rfl, ?_⟩) (by assumption) ?_
          rotate_left
          · (intro W hSw; (try dsimp only at hSw); go_simp; try (with_reducible rfl))
          try simp only [Act.put, List.setIfInBounds_toArray, List.set_cons_zero, List.set_cons_succ]
          refine wpAnyH_take (i := 3) (oi := { dst := some 49, op := _, type := _, pos := _, after := _, guard := _ }) (v := ?_) rfl (by kernel_rfl) (by kernel_rfl) (by kernel_rfl) (fun _ _ _ h => h) (Or.inl ⟨by rfl, ?_⟩) (by assumption) ?_
          rotate_left
          · (intro W hSw; (try dsimp only at hSw); go_simp; try (with_reducible rfl))
          try simp only [Act.put, List.setIfInBounds_toArray, List.set_cons_zero, List.set_cons_succ]
          refine wpAnyH_take (i := 4) (oi := { dst := some 50, op := _, type := _, pos := _, after := _, guard := _ }) (v := ?_) rfl (by kernel_rfl) (by kernel_rfl) (by kernel_rfl) (fun _ _ _ h => h) (Or.inl ⟨by rfl, ?_⟩) (by assumption) ?_
          rotate_left
          · (intro W hSw; (try dsimp only at hSw); go_simp; try (with_reducible rfl))
          try simp only [Act.put, List.setIfInBounds_toArray, List.set_cons_zero, List.set_cons_succ]
          refine wpAnyH_take (i := 5) (oi := { dst := some 51, op := _, type := _, pos := _, after := _, guard := _ }) (v := ?_) rfl (by kernel_rfl) (by kernel_rfl) (by kernel_rfl) (fun _ _ _ h => h) (Or.inl ⟨by rfl, ?_⟩) (by assumption) ?_
          rotate_left
          · (intro W hSw; (try dsimp only at hSw); go_simp; try (with_reducible rfl))
          try simp only [Act.put, List.setIfInBounds_toArray, List.set_cons_zero, List.set_cons_succ]
          refine wpAnyH_take (i := 6) (oi := { dst := some 52, op := _, type := _, pos := _, after := _, guard := _ }) (v := ?_) rfl (by kernel_rfl) (by kernel_rfl) (by kernel_rfl) (fun _ _ _ h => h) (Or.inl ⟨by rfl, ?_⟩) (by assumption) ?_
          rotate_left
          · (intro W hSw; (try dsimp only at hSw); go_simp; try (with_reducible rfl))
          try simp only [Act.put, List.setIfInBounds_toArray, List.set_cons_zero, List.set_cons_succ]
          refine wpAnyH_take (i := 7) (oi := { dst := some 53, op := _, type := _, pos := _, after := _, guard := _ }) (v := ?_) rfl (by kernel_rfl) (by kernel_rfl) (by kernel_rfl) (fun _ _ _ h => h) (Or.inl ⟨by rfl, ?_⟩) (by assumption) ?_
          rotate_left
          · (intro W hSw; (try dsimp only at hSw); go_simp; try (with_reducible rfl))
          try simp only [Act.put, List.setIfInBounds_toArray, List.set_cons_zero, List.set_cons_succ]
          clear hHeld
          refine wpAnyH_ready (rs := [8, 13, 14]) (by kernel_rfl) (by simp) ?_
          refine AllReadyH.cons (o := { dst := some 54, op := _, type := _, pos := _, after := _, guard := _ }) rfl (fun K hK => ?_) ?_
          · go_simp
            refine (hsp _).mono ?_
            rintro e3 w3 ⟨rfl, hg3⟩
            have hcur : Below w2.heap.size w2 w3 := hcur.trans (hg3.below.mono hcur.size)
            have hkeep := HKS.out w3 hcur
            clear hg3
            go_wp2_with fail
            refine hK.out _ _ ?_ (fun hHeld => ?_)
            · exact hkeep
            clear hK K
            try simp only [Act.put, List.setIfInBounds_toArray, List.set_cons_zero, List.set_cons_succ]
            clear hHeld
            refine wpAnyH_take (i := 9) (oi := { dst := some 45, op := _, type := _, pos := _, after := _, guard := _ }) (v := ?_) rfl (by kernel_rfl) (by kernel_rfl) (by kernel_rfl) (fun _ _ _ h => h) (Or.inl ⟨by rfl, ?_⟩) (by assumption) ?_
            rotate_left
            · (intro W hSw; (try dsimp only at hSw); go_simp; try (with_reducible rfl))
            try simp only [Act.put, List.setIfInBounds_toArray, List.set_cons_zero, List.set_cons_succ]
            refine wpAnyH_take (i := 10) (oi := { dst := some 55, op := _, type := _, pos := _, after := _, guard := _ }) (v := ?_) rfl (by kernel_rfl) (by kernel_rfl) (by kernel_rfl) (fun _ _ _ h => h) (Or.inl ⟨by rfl, ?_⟩) (by assumption) ?_
            rotate_left
            · (intro W hSw; (try dsimp only at hSw); go_simp; try (with_reducible rfl))
            try simp only [Act.put, List.setIfInBounds_toArray, List.set_cons_zero, List.set_cons_succ]
            refine wpAnyH_take (i := 11) (oi := { dst := some 56, op := _, type := _, pos := _, after := _, guard := _ }) (v := ?_) rfl (by kernel_rfl) (by kernel_rfl) (by kernel_rfl) (fun _ _ _ h => h) (Or.inl ⟨by rfl, ?_⟩) (by assumption) ?_
            rotate_left
            · (intro W hSw; (try dsimp only at hSw); go_simp; try (with_reducible rfl))
            try simp only [Act.put, List.setIfInBounds_toArray, List.set_cons_zero, List.set_cons_succ]
            refine wpAnyH_take (i := 12) (oi := { dst := some 57, op := _, type := _, pos := _, after := _, guard := _ }) (v := ?_) rfl (by kernel_rfl) (by kernel_rfl) (by kernel_rfl) (fun _ _ _ h => h) (Or.inl ⟨by rfl, ?_⟩) (by assumption) ?_
            rotate_left
            · (intro W hSw; (try dsimp only at hSw); go_simp; try (with_reducible rfl))
            try simp only [Act.put, List.setIfInBounds_toArray, List.set_cons_zero, List.set_cons_succ]
            refine wpAnyH_ready (rs := [13, 14]) (by kernel_rfl) (by simp) ?_
            refine AllReadyH.cons (o := { dst := some 8, op := _, type := _, pos := _, after := _, guard := _ }) rfl (fun K hK => ?_) ?_
            · go_simp
              refine hK.out _ _ ?_ (fun hHeld => ?_)
              · exact HKS.out _ (hcur.alloc hcur.size _)
              clear hK K
              try simp only [Act.put, List.setIfInBounds_toArray, List.set_cons_zero, List.set_cons_succ]
              clear hHeld
              have K8 := Bx.new w3 0 0
              have l8 : w2.heap.size ≤ w3.heap.size := hcur.size
              have hcur := hcur.alloc hcur.size (.cells #[.int .i64 0, .int .i64 0] 24)
              generalize w3.heap.size = b8 at *
              generalize w3.alloc (.cells #[.int .i64 0, .int .i64 0] 24) = wa1 at *
              have hkeep := HKS.out wa1 hcur
              refine wpAnyH_ready (rs := [14]) (by kernel_rfl) (by simp) ?_
              refine AllReadyH.cons (o := { dst := some 9, op := _, type := _, pos := _, after := _, guard := _ }) rfl (fun K hK => ?_) AllReadyH.nil
              go_simp
              refine hK.out _ _ ?_ (fun hHeld => ?_)
              · exact HKS.out _ (hcur.alloc hcur.size _)
              clear hK K
              try simp only [Act.put, List.setIfInBounds_toArray, List.set_cons_zero, List.set_cons_succ]
              clear hHeld
              have K9 := Bx.new wa1 0 0
              have l9 : w2.heap.size ≤ wa1.heap.size := hcur.size
              have n89 : b8 ≠ wa1.heap.size := Nat.ne_of_lt K8.lt
              have K8 := K8.alloc (.cells #[.int .i64 0, .int .i64 0] 24)
              have hcur := hcur.alloc hcur.size (.cells #[.int .i64 0, .int .i64 0] 24)
              generalize wa1.heap.size = b9 at *
              generalize wa1.alloc (.cells #[.int .i64 0, .int .i64 0] 24) = wa2 at *
              have hkeep := HKS.out wa2 hcur
              refine wpAnyH_ready (rs := [15]) (by kernel_rfl) (by simp) ?_
              refine AllReadyH.cons (o := { dst := none, op := _, type := _, pos := _, after := _, guard := _ }) rfl (fun K hK => ?_) AllReadyH.nil
              refine step_store_bx rfl (.tmp 8) (.tmp 55) rfl b8 rfl a1 a2 0 0 rfl K8 ?_
              intro w4 K8 hg4
              have hcur := hcur.grown hg4 hcur.size (fun k hk => by injection hk with hk; omega)
              have K9 := Bx.kept K9 hg4 (fun e => n89 (by first | exact Option.some.inj e | exact (Option.some.inj e).symm))
              clear hg4
              have hkeep := HKS.out w4 hcur
              refine hK.out _ _ ?_ (fun hHeld => ?_)
              · exact hkeep
              clear hK K
              try simp only [Act.put, List.setIfInBounds_toArray, List.set_cons_zero, List.set_cons_succ]
              clear hHeld
              refine wpAnyH_ready (rs := [16]) (by kernel_rfl) (by simp) ?_
              refine AllReadyH.cons (o := { dst := none, op := _, type := _, pos := _, after := _, guard := _ }) rfl (fun K hK => ?_) AllReadyH.nil
              refine step_store_bx rfl (.tmp 9) (.tmp 56) rfl b9 rfl c1 c2 0 0 rfl K9 ?_
              intro w5 K9 hg5
              have hcur := hcur.grown hg5 hcur.size (fun k hk => by injection hk with hk; omega)
              have K8 := Bx.kept K8 hg5 (fun e => n89 (by first | exact Option.some.inj e | exact (Option.some.inj e).symm))
              clear hg5
              have hkeep := HKS.out w5 hcur
              refine hK.out _ _ ?_ (fun hHeld => ?_)
              · exact hkeep
              clear hK K
              try simp only [Act.put, List.setIfInBounds_toArray, List.set_cons_zero, List.set_cons_succ]
              clear hHeld
              refine wpAnyH_take (i := 17) (oi := { dst := some 10, op := _, type := _, pos := _, after := _, guard := _ }) (v := ?_) rfl (by kernel_rfl) (by kernel_rfl) (by kernel_rfl) (fun _ _ _ h => h) (Or.inl ⟨by rfl, ?_⟩) (by assumption) ?_
              rotate_left
              · (intro W hSw; (try dsimp only at hSw); go_simp; try (with_reducible rfl))
              try simp only [Act.put, List.setIfInBounds_toArray, List.set_cons_zero, List.set_cons_succ]
              refine wpAnyH_done (by kernel_rfl) ?_ _
              go_wp2_with fail
              go_meet
              exact ⟨b8, b9, rfl, rfl, rfl, K8, K9, hcur, l8, l9⟩
            refine AllReadyH.cons (o := { dst := some 9, op := _, type := _, pos := _, after := _, guard := _ }) rfl (fun K hK => ?_) AllReadyH.nil
            go_simp
            refine hK.out _ _ ?_ (fun hHeld => ?_)
            · exact HKS.out _ (hcur.alloc hcur.size _)
            clear hK K
            try simp only [Act.put, List.setIfInBounds_toArray, List.set_cons_zero, List.set_cons_succ]
            clear hHeld
            have K9 := Bx.new w3 0 0
            have l9 : w2.heap.size ≤ w3.heap.size := hcur.size
            have hcur := hcur.alloc hcur.size (.cells #[.int .i64 0, .int .i64 0] 24)
            generalize w3.heap.size = b9 at *
            generalize w3.alloc (.cells #[.int .i64 0, .int .i64 0] 24) = wa1 at *
            have hkeep := HKS.out wa1 hcur
            refine wpAnyH_ready (rs := [13]) (by kernel_rfl) (by simp) ?_
            refine AllReadyH.cons (o := { dst := some 8, op := _, type := _, pos := _, after := _, guard := _ }) rfl (fun K hK => ?_) AllReadyH.nil
            go_simp
            refine hK.out _ _ ?_ (fun hHeld => ?_)
            · exact HKS.out _ (hcur.alloc hcur.size _)
            clear hK K
            try simp only [Act.put, List.setIfInBounds_toArray, List.set_cons_zero, List.set_cons_succ]
            clear hHeld
            have K8 := Bx.new wa1 0 0
            have l8 : w2.heap.size ≤ wa1.heap.size := hcur.size
            have n98 : b9 ≠ wa1.heap.size := Nat.ne_of_lt K9.lt
            have K9 := K9.alloc (.cells #[.int .i64 0, .int .i64 0] 24)
            have hcur := hcur.alloc hcur.size (.cells #[.int .i64 0, .int .i64 0] 24)
            generalize wa1.heap.size = b8 at *
            generalize wa1.alloc (.cells #[.int .i64 0, .int .i64 0] 24) = wa2 at *
            have hkeep := HKS.out wa2 hcur
            refine wpAnyH_ready (rs := [15]) (by kernel_rfl) (by simp) ?_
            refine AllReadyH.cons (o := { dst := none, op := _, type := _, pos := _, after := _, guard := _ }) rfl (fun K hK => ?_) AllReadyH.nil
            refine step_store_bx rfl (.tmp 8) (.tmp 55) rfl b8 rfl a1 a2 0 0 rfl K8 ?_
            intro w4 K8 hg4
            have hcur := hcur.grown hg4 hcur.size (fun k hk => by injection hk with hk; omega)
            have K9 := Bx.kept K9 hg4 (fun e => n98 (by first | exact Option.some.inj e | exact (Option.some.inj e).symm))
            clear hg4
            have hkeep := HKS.out w4 hcur
            refine hK.out _ _ ?_ (fun hHeld => ?_)
            · exact hkeep
            clear hK K
            try simp only [Act.put, List.setIfInBounds_toArray, List.set_cons_zero, List.set_cons_succ]
            clear hHeld
            refine wpAnyH_ready (rs := [16]) (by kernel_rfl) (by simp) ?_
            refine AllReadyH.cons (o := { dst := none, op := _, type := _, pos := _, after := _, guard := _ }) rfl (fun K hK => ?_) AllReadyH.nil
            refine step_store_bx rfl (.tmp 9) (.tmp 56) rfl b9 rfl c1 c2 0 0 rfl K9 ?_
            intro w5 K9 hg5
            have hcur := hcur.grown hg5 hcur.size (fun k hk => by injection hk with hk; omega)
            have K8 := Bx.kept K8 hg5 (fun e => n98 (by first | exact Option.some.inj e | exact (Option.some.inj e).symm))
            clear hg5
            have hkeep := HKS.out w5 hcur
            refine hK.out _ _ ?_ (fun hHeld => ?_)
            · exact hkeep
            clear hK K
            try simp only [Act.put, List.setIfInBounds_toArray, List.set_cons_zero, List.set_cons_succ]
            clear hHeld
            refine wpAnyH_take (i := 17) (oi := { dst := some 10, op := _, type := _, pos := _, after := _, guard := _ }) (v := ?_) rfl (by kernel_rfl) (by kernel_rfl) (by kernel_rfl) (fun _ _ _ h => h) (Or.inl ⟨by rfl, ?_⟩) (by assumption) ?_
            rotate_left
            · (intro W hSw; (try dsimp only at hSw); go_simp; try (with_reducible rfl))
            try simp only [Act.put, List.setIfInBounds_toArray, List.set_cons_zero, List.set_cons_succ]
            refine wpAnyH_done (by kernel_rfl) ?_ _
            go_wp2_with fail
            go_meet
            exact ⟨b8, b9, rfl, rfl, rfl, K8, K9, hcur, l8, l9⟩
          refine AllReadyH.cons (o := { dst := some 8, op := _, type := _, pos := _, after := _, guard := _ }) rfl (fun K hK => ?_) ?_
          · go_simp
            refine hK.out _ _ ?_ (fun hHeld => ?_)
            · exact HKS.out _ (hcur.alloc hcur.size _)
            clear hK K
            try simp only [Act.put, List.setIfInBounds_toArray, List.set_cons_zero, List.set_cons_succ]
            clear hHeld
            have K8 := Bx.new wz 0 0
            have l8 : w2.heap.size ≤ wz.heap.size := hcur.size
            have hcur := hcur.alloc hcur.size (.cells #[.int .i64 0, .int .i64 0] 24)
            generalize wz.heap.size = b8 at *
            generalize wz.alloc (.cells #[.int .i64 0, .int .i64 0] 24) = wa1 at *
            have hkeep := HKS.out wa1 hcur
            refine wpAnyH_ready (rs := [8, 14]) (by kernel_rfl) (by simp) ?_
            refine AllReadyH.cons (o := { dst := some 54, op := _, type := _, pos := _, after := _, guard := _ }) rfl (fun K hK => ?_) ?_
            · go_simp
              refine (hsp _).mono ?_
              rintro e3 w3 ⟨rfl, hg3⟩
              have hcur : Below w2.heap.size w2 w3 := hcur.trans (hg3.below.mono hcur.size)
              have hkeep := HKS.out w3 hcur
              have K8 := K8.gr hg3
              clear hg3
              go_wp2_with fail
              refine hK.out _ _ ?_ (fun hHeld => ?_)
              · exact hkeep
              clear hK K
              try simp only [Act.put, List.setIfInBounds_toArray, List.set_cons_zero, List.set_cons_succ]
              clear hHeld
              refine wpAnyH_take (i := 9) (oi := { dst := some 45, op := _, type := _, pos := _, after := _, guard := _ }) (v := ?_) rfl (by kernel_rfl) (by kernel_rfl) (by kernel_rfl) (fun _ _ _ h => h) (Or.inl ⟨by rfl, ?_⟩) (by assumption) ?_
              rotate_left
              · (intro W hSw; (try dsimp only at hSw); go_simp; try (with_reducible rfl))
              try simp only [Act.put, List.setIfInBounds_toArray, List.set_cons_zero, List.set_cons_succ]
              refine wpAnyH_take (i := 10) (oi := { dst := some 55, op := _, type := _, pos := _, after := _, guard := _ }) (v := ?_) rfl (by kernel_rfl) (by kernel_rfl) (by kernel_rfl) (fun _ _ _ h => h) (Or.inl ⟨by rfl, ?_⟩) (by assumption) ?_
              rotate_left
              · (intro W hSw; (try dsimp only at hSw); go_simp; try (with_reducible rfl))
              try simp only [Act.put, List.setIfInBounds_toArray, List.set_cons_zero, List.set_cons_succ]
              refine wpAnyH_take (i := 11) (oi := { dst := some 56, op := _, type := _, pos := _, after := _, guard := _ }) (v := ?_) rfl (by kernel_rfl) (by kernel_rfl) (by kernel_rfl) (fun _ _ _ h => h) (Or.inl ⟨by rfl, ?_⟩) (by assumption) ?_
              rotate_left
              · (intro W hSw; (try dsimp only at hSw); go_simp; try (with_reducible rfl))
              try simp only [Act.put, List.setIfInBounds_toArray, List.set_cons_zero, List.set_cons_succ]
              refine wpAnyH_take (i := 12) (oi := { dst := some 57, op := _, type := _, pos := _, after := _, guard := _ }) (v := ?_) rfl (by kernel_rfl) (by kernel_rfl) (by kernel_rfl) (fun _ _ _ h => h) (Or.inl ⟨by rfl, ?_⟩) (by assumption) ?_
              rotate_left
              · (intro W hSw; (try dsimp only at hSw); go_simp; try (with_reducible rfl))
              try simp only [Act.put, List.setIfInBounds_toArray, List.set_cons_zero, List.set_cons_succ]
              refine wpAnyH_ready (rs := [14]) (by kernel_rfl) (by simp) ?_
              refine AllReadyH.cons (o := { dst := some 9, op := _, type := _, pos := _, after := _, guard := _ }) rfl (fun K hK => ?_) AllReadyH.nil
              go_simp
              refine hK.out _ _ ?_ (fun hHeld => ?_)
              · exact HKS.out _ (hcur.alloc hcur.size _)
              clear hK K
              try simp only [Act.put, List.setIfInBounds_toArray, List.set_cons_zero, List.set_cons_succ]
              clear hHeld
              have K9 := Bx.new w3 0 0
              have l9 : w2.heap.size ≤ w3.heap.size := hcur.size
              have n89 : b8 ≠ w3.heap.size := Nat.ne_of_lt K8.lt
              have K8 := K8.alloc (.cells #[.int .i64 0, .int .i64 0] 24)
              have hcur := hcur.alloc hcur.size (.cells #[.int .i64 0, .int .i64 0] 24)
              generalize w3.heap.size = b9 at *
              generalize w3.alloc (.cells #[.int .i64 0, .int .i64 0] 24) = wa2 at *
              have hkeep := HKS.out wa2 hcur
              refine wpAnyH_ready (rs := [15]) (by kernel_rfl) (by simp) ?_
              refine AllReadyH.cons (o := { dst := none, op := _, type := _, pos := _, after := _, guard := _ }) rfl (fun K hK => ?_) AllReadyH.nil
              refine step_store_bx rfl (.tmp 8) (.tmp 55) rfl b8 rfl a1 a2 0 0 rfl K8 ?_
              intro w4 K8 hg4
              have hcur := hcur.grown hg4 hcur.size (fun k hk => by injection hk with hk; omega)
              have K9 := Bx.kept K9 hg4 (fun e => n89 (by first | exact Option.some.inj e | exact (Option.some.inj e).symm))
              clear hg4
              have hkeep := HKS.out w4 hcur
              refine hK.out _ _ ?_ (fun hHeld => ?_)
              · exact hkeep
              clear hK K
              try simp only [Act.put, List.setIfInBounds_toArray, List.set_cons_zero, List.set_cons_succ]
              clear hHeld
              refine wpAnyH_ready (rs := [16]) (by kernel_rfl) (by simp) ?_
              refine AllReadyH.cons (o := { dst := none, op := _, type := _, pos := _, after := _, guard := _ }) rfl (fun K hK => ?_) AllReadyH.nil
              refine step_store_bx rfl (.tmp 9) (.tmp 56) rfl b9 rfl c1 c2 0 0 rfl K9 ?_
              intro w5 K9 hg5
              have hcur := hcur.grown hg5 hcur.size (fun k hk => by injection hk with hk; omega)
              have K8 := Bx.kept K8 hg5 (fun e => n89 (by first | exact Option.some.inj e | exact (Option.some.inj e).symm))
              clear hg5
              have hkeep := HKS.out w5 hcur
              refine hK.out _ _ ?_ (fun hHeld => ?_)
              · exact hkeep
              clear hK K
              try simp only [Act.put, List.setIfInBounds_toArray, List.set_cons_zero, List.set_cons_succ]
              clear hHeld
              refine wpAnyH_take (i := 17) (oi := { dst := some 10, op := _, type := _, pos := _, after := _, guard := _ }) (v := ?_) rfl (by kernel_rfl) (by kernel_rfl) (by kernel_rfl) (fun _ _ _ h => h) (Or.inl ⟨by rfl, ?_⟩) (by assumption) ?_
              rotate_left
              · (intro W hSw; (try dsimp only at hSw); go_simp; try (with_reducible rfl))
              try simp only [Act.put, List.setIfInBounds_toArray, List.set_cons_zero, List.set_cons_succ]
              refine wpAnyH_done (by kernel_rfl) ?_ _
              go_wp2_with fail
              go_meet
              exact ⟨b8, b9, rfl, rfl, rfl, K8, K9, hcur, l8, l9⟩
            refine AllReadyH.cons (o := { dst := some 9, op := _, type := _, pos := _, after := _, guard := _ }) rfl (fun K hK => ?_) AllReadyH.nil
            go_simp
            refine hK.out _ _ ?_ (fun hHeld => ?_)
            · exact HKS.out _ (hcur.alloc hcur.size _)
            clear hK K
            try simp only [Act.put, List.setIfInBounds_toArray, List.set_cons_zero, List.set_cons_succ]
            clear hHeld
            have K9 := Bx.new wa1 0 0
            have l9 : w2.heap.size ≤ wa1.heap.size := hcur.size
            have n89 : b8 ≠ wa1.heap.size := Nat.ne_of_lt K8.lt
            have K8 := K8.alloc (.cells #[.int .i64 0, .int .i64 0] 24)
            have hcur := hcur.alloc hcur.size (.cells #[.int .i64 0, .int .i64 0] 24)
            generalize wa1.heap.size = b9 at *
            generalize wa1.alloc (.cells #[.int .i64 0, .int .i64 0] 24) = wa2 at *
            have hkeep := HKS.out wa2 hcur
            refine wpAnyH_ready (rs := [8]) (by kernel_rfl) (by simp) ?_
            refine AllReadyH.cons (o := { dst := some 54, op := _, type := _, pos := _, after := _, guard := _ }) rfl (fun K hK => ?_) AllReadyH.nil
            go_simp
            refine (hsp _).mono ?_
            rintro e3 w3 ⟨rfl, hg3⟩
            have hcur : Below w2.heap.size w2 w3 := hcur.trans (hg3.below.mono hcur.size)
            have hkeep := HKS.out w3 hcur
            have K8 := K8.gr hg3
            have K9 := K9.gr hg3
            clear hg3
            go_wp2_with fail
            refine hK.out _ _ ?_ (fun hHeld => ?_)
            · exact hkeep
            clear hK K
            try simp only [Act.put, List.setIfInBounds_toArray, List.set_cons_zero, List.set_cons_succ]
            clear hHeld
            refine wpAnyH_take (i := 9) (oi := { dst := some 45, op := _, type := _, pos := _, after := _, guard := _ }) (v := ?_) rfl (by kernel_rfl) (by kernel_rfl) (by kernel_rfl) (fun _ _ _ h => h) (Or.inl ⟨by rfl, ?_⟩) (by assumption) ?_
            rotate_left
            · (intro W hSw; (try dsimp only at hSw); go_simp; try (with_reducible rfl))
            try simp only [Act.put, List.setIfInBounds_toArray, List.set_cons_zero, List.set_cons_succ]
            refine wpAnyH_take (i := 10) (oi := { dst := some 55, op := _, type := _, pos := _, after := _, guard := _ }) (v := ?_) rfl (by kernel_rfl) (by kernel_rfl) (by kernel_rfl) (fun _ _ _ h => h) (Or.inl ⟨by rfl, ?_⟩) (by assumption) ?_
            rotate_left
            · (intro W hSw; (try dsimp only at hSw); go_simp; try (with_reducible rfl))
            try simp only [Act.put, List.setIfInBounds_toArray, List.set_cons_zero, List.set_cons_succ]
            refine wpAnyH_take (i := 11) (oi := { dst := some 56, op := _, type := _, pos := _, after := _, guard := _ }) (v := ?_) rfl (by kernel_rfl) (by kernel_rfl) (by kernel_rfl) (fun _ _ _ h => h) (Or.inl ⟨by rfl, ?_⟩) (by assumption) ?_
            rotate_left
            · (intro W hSw; (try dsimp only at hSw); go_simp; try (with_reducible rfl))
            try simp only [Act.put, List.setIfInBounds_toArray, List.set_cons_zero, List.set_cons_succ]
            refine wpAnyH_take (i := 12) (oi := { dst := some 57, op := _, type := _, pos := _, after := _, guard := _ }) (v := ?_) rfl (by kernel_rfl) (by kernel_rfl) (by kernel_rfl) (fun _ _ _ h => h) (Or.inl ⟨by rfl, ?_⟩) (by assumption) ?_
            rotate_left
            · (intro W hSw; (try dsimp only at hSw); go_simp; try (with_reducible rfl))
            try simp only [Act.put, List.setIfInBounds_toArray, List.set_cons_zero, List.set_cons_succ]
            refine wpAnyH_ready (rs := [15]) (by kernel_rfl) (by simp) ?_
            refine AllReadyH.cons (o := { dst := none, op := _, type := _, pos := _, after := _, guard := _ }) rfl (fun K hK => ?_) AllReadyH.nil
            refine step_store_bx rfl (.tmp 8) (.tmp 55) rfl b8 rfl a1 a2 0 0 rfl K8 ?_
            intro w4 K8 hg4
            have hcur := hcur.grown hg4 hcur.size (fun k hk => by injection hk with hk; omega)
            have K9 := Bx.kept K9 hg4 (fun e => n89 (by first | exact Option.some.inj e | exact (Option.some.inj e).symm))
            clear hg4
            have hkeep := HKS.out w4 hcur
            refine hK.out _ _ ?_ (fun hHeld => ?_)
            · exact hkeep
            clear hK K
            try simp only [Act.put, List.setIfInBounds_toArray, List.set_cons_zero, List.set_cons_succ]
            clear hHeld
            refine wpAnyH_ready (rs := [16]) (by kernel_rfl) (by simp) ?_
            refine AllReadyH.cons (o := { dst := none, op := _, type := _, pos := _, after := _, guard := _ }) rfl (fun K hK => ?_) AllReadyH.nil
            refine step_store_bx rfl (.tmp 9) (.tmp 56) rfl b9 rfl c1 c2 0 0 rfl K9 ?_
            intro w5 K9 hg5
            have hcur := hcur.grown hg5 hcur.size (fun k hk => by injection hk with hk; omega)
            have K8 := Bx.kept K8 hg5 (fun e => n89 (by first | exact Option.some.inj e | exact (Option.some.inj e).symm))
            clear hg5
            have hkeep := HKS.out w5 hcur
            refine hK.out _ _ ?_ (fun hHeld => ?_)
            · exact hkeep
            clear hK K
            try simp only [Act.put, List.setIfInBounds_toArray, List.set_cons_zero, List.set_cons_succ]
            clear hHeld
            refine wpAnyH_take (i := 17) (oi := { dst := some 10, op := _, type := _, pos := _, after := _, guard := _ }) (v := ?_) rfl (by kernel_rfl) (by kernel_rfl) (by kernel_rfl) (fun _ _ _ h => h) (Or.inl ⟨by rfl, ?_⟩) (by assumption) ?_
            rotate_left
            · (intro W hSw; (try dsimp only at hSw); go_simp; try (with_reducible rfl))
            try simp only [Act.put, List.setIfInBounds_toArray, List.set_cons_zero, List.set_cons_succ]
            refine wpAnyH_done (by kernel_rfl) ?_ _
            go_wp2_with fail
            go_meet
            exact ⟨b8, b9, rfl, rfl, rfl, K8, K9, hcur, l8, l9⟩
          refine AllReadyH.cons (o := { dst := some 9, op := _, type := _, pos := _, after := _, guard := _ }) rfl (fun K hK => ?_) AllReadyH.nil
          go_simp
          refine hK.out _ _ ?_ (fun hHeld => ?_)
          · exact HKS.out _ (hcur.alloc hcur.size _)
          clear hK K
          try simp only [Act.put, List.setIfInBounds_toArray, List.set_cons_zero, List.set_cons_succ]
          clear hHeld
          have K9 := Bx.new wz 0 0
          have l9 : w2.heap.size ≤ wz.heap.size := hcur.size
          have hcur := hcur.alloc hcur.size (.cells #[.int .i64 0, .int .i64 0] 24)
          generalize wz.heap.size = b9 at *
          generalize wz.alloc (.cells #[.int .i64 0, .int .i64 0] 24) = wa1 at *
          have hkeep := HKS.out wa1 hcur
          refine wpAnyH_ready (rs := [8, 13]) (by kernel_rfl) (by simp) ?_
          refine AllReadyH.cons (o := { dst := some 54, op := _, type := _, pos := _, after := _, guard := _ }) rfl (fun K hK => ?_) ?_
          · go_simp
            refine (hsp _).mono ?_
            rintro e3 w3 ⟨rfl, hg3⟩
            have hcur : Below w2.heap.size w2 w3 := hcur.trans (hg3.below.mono hcur.size)
            have hkeep := HKS.out w3 hcur
            have K9 := K9.gr hg3
            clear hg3
            go_wp2_with fail
            refine hK.out _ _ ?_ (fun hHeld => ?_)
            · exact hkeep
            clear hK K
            try simp only [Act.put, List.setIfInBounds_toArray, List.set_cons_zero, List.set_cons_succ]
            clear hHeld
            refine wpAnyH_take (i := 9) (oi := { dst := some 45, op := _, type := _, pos := _, after := _, guard := _ }) (v := ?_) rfl (by kernel_rfl) (by kernel_rfl) (by kernel_rfl) (fun _ _ _ h => h) (Or.inl ⟨by rfl, ?_⟩) (by assumption) ?_
            rotate_left
            · (intro W hSw; (try dsimp only at hSw); go_simp; try (with_reducible rfl))
            try simp only [Act.put, List.setIfInBounds_toArray, List.set_cons_zero, List.set_cons_succ]
            refine wpAnyH_take (i := 10) (oi := { dst := some 55, op := _, type := _, pos := _, after := _, guard := _ }) (v := ?_) rfl (by kernel_rfl) (by kernel_rfl) (by kernel_rfl) (fun _ _ _ h => h) (Or.inl ⟨by rfl, ?_⟩) (by assumption) ?_
            rotate_left
            · (intro W hSw; (try dsimp only at hSw); go_simp; try (with_reducible rfl))
            try simp only [Act.put, List.setIfInBounds_toArray, List.set_cons_zero, List.set_cons_succ]
            refine wpAnyH_take (i := 11) (oi := { dst := some 56, op := _, type := _, pos := _, after := _, guard := _ }) (v := ?_) rfl (by kernel_rfl) (by kernel_rfl) (by kernel_rfl) (fun _ _ _ h => h) (Or.inl ⟨by rfl, ?_⟩) (by assumption) ?_
            rotate_left
            · (intro W hSw; (try dsimp only at hSw); go_simp; try (with_reducible rfl))
            try simp only [Act.put, List.setIfInBounds_toArray, List.set_cons_zero, List.set_cons_succ]
            refine wpAnyH_take (i := 12) (oi := { dst := some 57, op := _, type := _, pos := _, after := _, guard := _ }) (v := ?_) rfl (by kernel_rfl) (by kernel_rfl) (by kernel_rfl) (fun _ _ _ h => h) (Or.inl ⟨by rfl, ?_⟩) (by assumption) ?_
            rotate_left
            · (intro W hSw; (try dsimp only at hSw); go_simp; try (with_reducible rfl))
            try simp only [Act.put, List.setIfInBounds_toArray, List.set_cons_zero, List.set_cons_succ]
            refine wpAnyH_ready (rs := [13]) (by kernel_rfl) (by simp) ?_
            refine AllReadyH.cons (o := { dst := some 8, op := _, type := _, pos := _, after := _, guard := _ }) rfl (fun K hK => ?_) AllReadyH.nil
            go_simp
            refine hK.out _ _ ?_ (fun hHeld => ?_)
            · exact HKS.out _ (hcur.alloc hcur.size _)
            clear hK K
            try simp only [Act.put, List.setIfInBounds_toArray, List.set_cons_zero, List.set_cons_succ]
            clear hHeld
            have K8 := Bx.new w3 0 0
            have l8 : w2.heap.size ≤ w3.heap.size := hcur.size
            have n98 : b9 ≠ w3.heap.size := Nat.ne_of_lt K9.lt
            have K9 := K9.alloc (.cells #[.int .i64 0, .int .i64 0] 24)
            have hcur := hcur.alloc hcur.size (.cells #[.int .i64 0, .int .i64 0] 24)
            generalize w3.heap.size = b8 at *
            generalize w3.alloc (.cells #[.int .i64 0, .int .i64 0] 24) = wa2 at *
            have hkeep := HKS.out wa2 hcur
            refine wpAnyH_ready (rs := [15]) (by kernel_rfl) (by simp) ?_
            refine AllReadyH.cons (o := { dst := none, op := _, type := _, pos := _, after := _, guard := _ }) rfl (fun K hK => ?_) AllReadyH.nil
            refine step_store_bx rfl (.tmp 8) (.tmp 55) rfl b8 rfl a1 a2 0 0 rfl K8 ?_
            intro w4 K8 hg4
            have hcur := hcur.grown hg4 hcur.size (fun k hk => by injection hk with hk; omega)
            have K9 := Bx.kept K9 hg4 (fun e => n98 (by first | exact Option.some.inj e | exact (Option.some.inj e).symm))
            clear hg4
            have hkeep := HKS.out w4 hcur
            refine hK.out _ _ ?_ (fun hHeld => ?_)
            · exact hkeep
            clear hK K
            try simp only [Act.put, List.setIfInBounds_toArray, List.set_cons_zero, List.set_cons_succ]
            clear hHeld
            refine wpAnyH_ready (rs := [16]) (by kernel_rfl) (by simp) ?_
            refine AllReadyH.cons (o := { dst := none, op := _, type := _, pos := _, after := _, guard := _ }) rfl (fun K hK => ?_) AllReadyH.nil
            refine step_store_bx rfl (.tmp 9) (.tmp 56) rfl b9 rfl c1 c2 0 0 rfl K9 ?_
            intro w5 K9 hg5
            have hcur := hcur.grown hg5 hcur.size (fun k hk => by injection hk with hk; omega)
            have K8 := Bx.kept K8 hg5 (fun e => n98 (by first | exact Option.some.inj e | exact (Option.some.inj e).symm))
            clear hg5
            have hkeep := HKS.out w5 hcur
            refine hK.out _ _ ?_ (fun hHeld => ?_)
            · exact hkeep
            clear hK K
            try simp only [Act.put, List.setIfInBounds_toArray, List.set_cons_zero, List.set_cons_succ]
            clear hHeld
            refine wpAnyH_take (i := 17) (oi := { dst := some 10, op := _, type := _, pos := _, after := _, guard := _ }) (v := ?_) rfl (by kernel_rfl) (by kernel_rfl) (by kernel_rfl) (fun _ _ _ h => h) (Or.inl ⟨by rfl, ?_⟩) (by assumption) ?_
            rotate_left
            · (intro W hSw; (try dsimp only at hSw); go_simp; try (with_reducible rfl))
            try simp only [Act.put, List.setIfInBounds_toArray, List.set_cons_zero, List.set_cons_succ]
            refine wpAnyH_done (by kernel_rfl) ?_ _
            go_wp2_with fail
            go_meet
            exact ⟨b8, b9, rfl, rfl, rfl, K8, K9, hcur, l8, l9⟩
          refine AllReadyH.cons (o := { dst := some 8, op := _, type := _, pos := _, after := _, guard := _ }) rfl (fun K hK => ?_) AllReadyH.nil
          go_simp
          refine hK.out _ _ ?_ (fun hHeld => ?_)
          · exact HKS.out _ (hcur.alloc hcur.size _)
          clear hK K
          try simp only [Act.put, List.setIfInBounds_toArray, List.set_cons_zero, List.set_cons_succ]
          clear hHeld
          have K8 := Bx.new wa1 0 0
          have l8 : w2.heap.size ≤ wa1.heap.size := hcur.size
          have n98 : b9 ≠ wa1.heap.size := Nat.ne_of_lt K9.lt
          have K9 := K9.alloc (.cells #[.int .i64 0, .int .i64 0] 24)
          have hcur := hcur.alloc hcur.size (.cells #[.int .i64 0, .int .i64 0] 24)
          generalize wa1.heap.size = b8 at *
          generalize wa1.alloc (.cells #[.int .i64 0, .int .i64 0] 24) = wa2 at *
          have hkeep := HKS.out wa2 hcur
          refine wpAnyH_ready (rs := [8]) (by kernel_rfl) (by simp) ?_
          refine AllReadyH.cons (o := { dst := some 54, op := _, type := _, pos := _, after := _, guard := _ }) rfl (fun K hK => ?_) AllReadyH.nil
          go_simp
          refine (hsp _).mono ?_
          rintro e3 w3 ⟨rfl, hg3⟩
          have hcur : Below w2.heap.size w2 w3 := hcur.trans (hg3.below.mono hcur.size)
          have hkeep := HKS.out w3 hcur
          have K9 := K9.gr hg3
          have K8 := K8.gr hg3
          clear hg3
          go_wp2_with fail
          refine hK.out _ _ ?_ (fun hHeld => ?_)
          · exact hkeep
          clear hK K
          try simp only [Act.put, List.setIfInBounds_toArray, List.set_cons_zero, List.set_cons_succ]
          clear hHeld
          refine wpAnyH_take (i := 9) (oi := { dst := some 45, op := _, type := _, pos := _, after := _, guard := _ }) (v := ?_) rfl (by kernel_rfl) (by kernel_rfl) (by kernel_rfl) (fun _ _ _ h => h) (Or.inl ⟨by rfl, ?_⟩) (by assumption) ?_
          rotate_left
          · (intro W hSw; (try dsimp only at hSw); go_simp; try (with_reducible rfl))
          try simp only [Act.put, List.setIfInBounds_toArray, List.set_cons_zero, List.set_cons_succ]
          refine wpAnyH_take (i := 10) (oi := { dst := some 55, op := _, type := _, pos := _, after := _, guard := _ }) (v := ?_) rfl (by kernel_rfl) (by kernel_rfl) (by kernel_rfl) (fun _ _ _ h => h) (Or.inl ⟨by rfl, ?_⟩) (by assumption) ?_
          rotate_left
          · (intro W hSw; (try dsimp only at hSw); go_simp; try (with_reducible rfl))
          try simp only [Act.put, List.setIfInBounds_toArray, List.set_cons_zero, List.set_cons_succ]
          refine wpAnyH_take (i := 11) (oi := { dst := some 56, op := _, type := _, pos := _, after := _, guard := _ }) (v := ?_) rfl (by kernel_rfl) (by kernel_rfl) (by kernel_rfl) (fun _ _ _ h => h) (Or.inl ⟨by rfl, ?_⟩) (by assumption) ?_
          rotate_left
          · (intro W hSw; (try dsimp only at hSw); go_simp; try (with_reducible rfl))
          try simp only [Act.put, List.setIfInBounds_toArray, List.set_cons_zero, List.set_cons_succ]
          refine wpAnyH_take (i := 12) (oi := { dst := some 57, op := _, type := _, pos := _, after := _, guard := _ }) (v := ?_) rfl (by kernel_rfl) (by kernel_rfl) (by kernel_rfl) (fun _ _ _ h => h) (Or.inl ⟨by rfl, ?_⟩) (by assumption) ?_
          rotate_left
          · (intro W hSw; (try dsimp only at hSw); go_simp; try (with_reducible rfl))
          try simp only [Act.put, List.setIfInBounds_toArray, List.set_cons_zero, List.set_cons_succ]
          refine wpAnyH_ready (rs := [15]) (by kernel_rfl) (by simp) ?_
          refine AllReadyH.cons (o := { dst := none, op := _, type := _, pos := _, after := _, guard := _ }) rfl (fun K hK => ?_) AllReadyH.nil
          refine step_store_bx rfl (.tmp 8) (.tmp 55) rfl b8 rfl a1 a2 0 0 rfl K8 ?_
          intro w4 K8 hg4
          have hcur := hcur.grown hg4 hcur.size (fun k hk => by injection hk with hk; omega)
          have K9 := Bx.kept K9 hg4 (fun e => n98 (by first | exact Option.some.inj e | exact (Option.some.inj e).symm))
          clear hg4
          have hkeep := HKS.out w4 hcur
          refine hK.out _ _ ?_ (fun hHeld => ?_)
          · exact hkeep
          clear hK K
          try simp only [Act.put, List.setIfInBounds_toArray, List.set_cons_zero, List.set_cons_succ]
          clear hHeld
          refine wpAnyH_ready (rs := [16]) (by kernel_rfl) (by simp) ?_
          refine AllReadyH.cons (o := { dst := none, op := _, type := _, pos := _, after := _, guard := _ }) rfl (fun K hK => ?_) AllReadyH.nil
          refine step_store_bx rfl (.tmp 9) (.tmp 56) rfl b9 rfl c1 c2 0 0 rfl K9 ?_
          intro w5 K9 hg5
          have hcur := hcur.grown hg5 hcur.size (fun k hk => by injection hk with hk; omega)
          have K8 := Bx.kept K8 hg5 (fun e => n98 (by first | exact Option.some.inj e | exact (Option.some.inj e).symm))
          clear hg5
          have hkeep := HKS.out w5 hcur
          refine hK.out _ _ ?_ (fun hHeld => ?_)
          · exact hkeep
          clear hK K
          try simp only [Act.put, List.setIfInBounds_toArray, List.set_cons_zero, List.set_cons_succ]
          clear hHeld
          refine wpAnyH_take (i := 17) (oi := { dst := some 10, op := _, type := _, pos := _, after := _, guard := _ }) (v := ?_) rfl (by kernel_rfl) (by kernel_rfl) (by kernel_rfl) (fun _ _ _ h => h) (Or.inl ⟨by rfl, ?_⟩) (by assumption) ?_
          rotate_left
          · (intro W hSw; (try dsimp only at hSw); go_simp; try (with_reducible rfl))
          try simp only [Act.put, List.setIfInBounds_toArray, List.set_cons_zero, List.set_cons_succ]
          refine wpAnyH_done (by kernel_rfl) ?_ _
          go_wp2_with fail
          go_meet
          exact ⟨b8, b9, rfl, rfl, rfl, K8, K9, hcur, l8, l9⟩
        case rest =>
          obtain ⟨b8, b9, rfl, rfl, rfl, K8, K9, hcur, l8, l9⟩ := hcut
          have hX3 := HX2.out.trans (hcur.mono HX2.out.size)
          have hO3 := HO2.out.below hcur
          clear hsp v2 y1 y2 HX2 HO2
          rcases HCASE.out with ⟨hs, rfl, rfl, rfl, rfl, rfl⟩ | ⟨hs, rfl⟩
          · have HC4 := mkH (cov_split HC.out HLJ.out hs)
            have hl4a : (l.set j (a1, c1)).length ≤ l.length := Nat.le_of_eq List.length_set
            have k80 := K8.c0
            have k81 := K8.c1
            have l80 := K8.lt
            have HO3 := mkH hO3
            have HX3 := mkH hX3
            have K9h := mkH K9
            clear HCASE hO3 hX3 K8 K9 hcur
            go_wp2_with (refine wpList_store_own rfl (.tmp 63) (.tmp 62) rfl w.heap.size g cap' j l HO3.out _ HLJ.out rfl a1 c1 rfl ?_)
            intro w4 hO4 hg4
            have hX4 := HX3.out.grown hg4 HX3.out.size (fun k hk => by injection hk with hk; omega)
            have k9 := Bx.kept K9h.out hg4 (fun e => by have := Option.some.inj e; omega)
            have k90 := k9.c0
            have k91 := k9.c1
            have l90 := k9.lt
            have hz4 := hX4.size
            generalize l.set j (a1, c1) = l4 at hl4a hO4 HC4
            have hba := (Below.refl w4.heap.size w4).alloc (Nat.le_refl _) (.cells #[.int .i64 c1, .int .i64 c2] 24)
            have HO5 := mkH (hO4.below hba)
            have HX5 := mkH (hX4.trans (hba.mono hX4.size))
            clear HO3 HX3 K9h k9 hg4 hO4 hX4 hba k80 k81 l80
            go_wp2_with (at_builtin; refine (wpList_append_own_src _ rfl (.tmp 64) (.tmp 66) 25 25 rfl w.heap.size 24 (.agg #[.int .i64 0, .int .i64 0]) 2 16 Try.underlying25 info26 rfl (by decide) _ l4.length (E l4) rfl HO5.out _ 1 (E [(c1, c2)]) rfl ?hsrc ?h63 ?hby ?hbs ?_))
            case hsrc => exact src1 w4 c1 c2
            case h63 => unfold maxLen; omega
            case hby => omega
            case hbs => simp; omega
            intro v6 w6 hown6 hgrow6
            have hX6 := below_own HO5.out hgrow6 HX5.out (by simp; omega)
            have hO6 : Ow w6 w.heap.size v6 (l4 ++ [(c1, c2)]) := ow_snoc hown6
            have hl6 : (l4 ++ [(c1, c2)]).length ≤ l.length + 1 := by rw [List.length_append]; simp; exact hl4a
            have hl6b : 0 < (l4 ++ [(c1, c2)]).length := by rw [List.length_append]; simp
            generalize l4 ++ [(c1, c2)] = l6 at hO6 hl6 hl6b HC4
            clear HO5 HX5 hown6 hgrow6 k90 k91 l90
            obtain ⟨ao6, cap6, rfl, hc6, hd6⟩ := hO6.form
            have HCO := mkH (covers_any w6 ao6 cap6 l6 hO6.rw (by omega))
            rw [(cov_iff l6).2 HC4.out] at HCO
            have HO6 := mkH hO6
            have HX6 := mkH hX6
            clear hO6 hX6
            go_wp2_with fail
            refine (HCO.out).mono ?_
            rintro e w7 ⟨rfl, hg7⟩
            have hO7 := HO6.out.below hg7
            have hX7 := HX6.out.trans (hg7.mono HX6.out.size)
            clear hg7 HCO HO6 HX6
            go_wp2
            go_roundg (30 - (k + 1))
            case measure => omega
            case rel => exact ⟨k + 1, l6, by omega, by omega, by omega, by go_num, HC4, by omega, by omega, hO7, hX7⟩
          · have HCO := mkH (covers_any wc _ cap' l hO3.rw (by omega))
            rw [(cov_iff l).2 HC.out] at HCO
            have HO6 := mkH hO3
            have HX6 := mkH hX3
            clear hO3 hX3 HCASE K8 K9 hcur
            go_wp2_with fail
            refine (HCO.out).mono ?_
            rintro e w7 ⟨rfl, hg7⟩
            have hO7 := HO6.out.below hg7
            have hX7 := HX6.out.trans (hg7.mono HX6.out.size)
            clear hg7 HCO HO6 HX6
            go_wp2
            go_roundg (30 - (k + 1))
            case measure => omega
            case rel => exact ⟨k + 1, l, by omega, by omega, by omega, by go_num, HC, by omega, by omega, hO7, hX7⟩
    · have HC := hC
      have HX := mkH hX
      obtain ⟨g, cap', rfl, hbg, hgs, hlc, hcc⟩ := Ow.pos hO hl0
      have HO := mkH hO
      obtain ⟨i, hil, hi⟩ := idx_form n l.length hl0 (by omega) hn
      obtain ⟨⟨x, y⟩, hli⟩ := some_of hil
      have HI := mkH hi
      have HLI := mkH hli
      have hil2 : (i : Int) ≤ (l.length : Int) := by omega
      have hil3 : (i : Int) + 1 ≤ (l.length : Int) := by omega
      have hi0 : (0 : Int) ≤ (i : Int) := by omega
      have hi1 : (0 : Int) ≤ (i : Int) + 1 := by omega
      have hlc2 : (l.length : Int) ≤ (cap' : Int) := by omega
      have hic : i ≤ cap' := by omega
      have hic1 : i + 1 ≤ l.length := by omega
      clear hi hli
      clear hC hO hX HO0 HB0
      by_cases hkz : (k : Int) < (zs.length : Int)
      · have hk3 : ¬ ((k : Int) < 30) := by omega
        have hL : ¬ ((l.length : Int) = 0) := by omega
        go_upto_region 16 with fail
        rw [HI.out]
        have wi1 : IntKind.i64.wrap ((i : Int) + 1) = (i : Int) + 1 := by rw [IntKind.wrap_i64]; omega
        have hcur : Below wr.heap.size wr wr.drew := (Below.refl _ _).drew
        refine wp_region_held_drew (S := fun W => True) (by kernel_rfl) ?_ (fun hHeld => ?_)
        · trivial
        generalize wr.drew = wz at *
        refine wpAnyH_take (i := 1) (oi := { dst := some 82, op := _, type := _, pos := _, after := _, guard := _ }) (v := ?_) rfl (by kernel_rfl) (by kernel_rfl) (by kernel_rfl) (fun _ _ _ h => h) (Or.inl ⟨by rfl, ?_⟩) (by assumption) ?_
        rotate_left
        · (intro W hSw; (try dsimp only at hSw); go_simp; try (with_reducible rfl))
        try simp only [Act.put, List.setIfInBounds_toArray, List.set_cons_zero, List.set_cons_succ]
        refine wpAnyH_take (i := 2) (oi := { dst := some 83, op := _, type := _, pos := _, after := _, guard := _ }) (v := ?_) rfl (by kernel_rfl) (by kernel_rfl) (by kernel_rfl) (fun _ _ _ h => h) (Or.inl ⟨by rfl, ?_⟩) (by assumption) ?_
        rotate_left
        · (intro W hSw; (try dsimp only at hSw); go_simp; try (with_reducible rfl))
        try simp only [Act.put, List.setIfInBounds_toArray, List.set_cons_zero, List.set_cons_succ]
        refine wpAnyH_take (i := 3) (oi := { dst := some 84, op := _, type := _, pos := _, after := _, guard := _ }) (v := ?_) rfl (by kernel_rfl) (by kernel_rfl) (by kernel_rfl) (fun _ _ _ h => h) (Or.inl ⟨by rfl, ?_⟩) (by assumption) ?_
        rotate_left
        · (intro W hSw; (try dsimp only at hSw); go_simp; try (with_reducible rfl))
        try simp only [Act.put, List.setIfInBounds_toArray, List.set_cons_zero, List.set_cons_succ]
        refine wpAnyH_take (i := 5) (oi := { dst := some 86, op := _, type := _, pos := _, after := _, guard := _ }) (v := ?_) rfl (by kernel_rfl) (by kernel_rfl) (by kernel_rfl) (fun _ _ _ h => h) (Or.inl ⟨by rfl, ?_⟩) (by assumption) ?_
        rotate_left
        · (intro W hSw; (try dsimp only at hSw); go_simp; try (with_reducible rfl))
        try simp only [Act.put, List.setIfInBounds_toArray, List.set_cons_zero, List.set_cons_succ]
        refine wpAnyH_take (i := 6) (oi := { dst := some 87, op := _, type := _, pos := _, after := _, guard := _ }) (v := ?_) rfl (by kernel_rfl) (by kernel_rfl) (by kernel_rfl) (fun _ _ _ h => h) (Or.inl ⟨by rfl, ?_⟩) (by assumption) ?_
        rotate_left
        · (intro W hSw; (try dsimp only at hSw); go_simp; try (with_reducible rfl))
        try simp only [Act.put, List.setIfInBounds_toArray, List.set_cons_zero, List.set_cons_succ]
        refine wpAnyH_take (i := 7) (oi := { dst := some 88, op := _, type := _, pos := _, after := _, guard := _ }) (v := ?_) rfl (by kernel_rfl) (by kernel_rfl) (by kernel_rfl) (fun _ _ _ h => h) (Or.inl ⟨by rfl, ?_⟩) (by assumption) ?_
        rotate_left
        · (intro W hSw; (try dsimp only at hSw); go_simp; try (with_reducible rfl))
        try simp only [Act.put, List.setIfInBounds_toArray, List.set_cons_zero, List.set_cons_succ]
        refine wpAnyH_take (i := 8) (oi := { dst := some 89, op := _, type := _, pos := _, after := _, guard := _ }) (v := ?_) rfl (by kernel_rfl) (by kernel_rfl) (by kernel_rfl) (fun _ _ _ h => h) (Or.inl ⟨by rfl, ?_⟩) (by assumption) ?_
        rotate_left
        · (intro W hSw; (try dsimp only at hSw); go_simp; try (with_reducible rfl))
        try simp only [Act.put, List.setIfInBounds_toArray, List.set_cons_zero, List.set_cons_succ]
        refine wpAnyH_ready (rs := [0]) (by kernel_rfl) (by simp) ?_
        refine AllReadyH.cons (o := { dst := some 81, op := _, type := _, pos := _, after := _, guard := _ }) rfl (fun K hK => ?_) AllReadyH.nil
        go_simp
        refine hK.out _ _ ?_ (fun hHeld => ?_)
        · trivial
        clear hK K
        try simp only [Act.put, List.setIfInBounds_toArray, List.set_cons_zero, List.set_cons_succ]
        clear hHeld
        have hO1 : Ow (wz.alloc (.cells #[] 24)) wz.heap.size (.slice (some ⟨wz.heap.size, 0, none⟩) 0 0) [] := World.ownsRow_made wz #[] 0 (Nat.le_refl _) (Nat.zero_le _) rfl
        have hBz := hcur.size
        have hz1 : wz.heap.size ≤ (wz.alloc (.cells #[] 24)).heap.size := by simp
        have hcur := hcur.alloc hcur.size (.cells #[] 24)
        generalize wz.alloc (.cells #[] 24) = w1 at *
        generalize wz.heap.size = Bz at *
        have hHeld : True := trivial
        refine wpAnyH_ready (rs := [4]) (by kernel_rfl) (by simp) ?_
        refine AllReadyH.cons (o := { dst := some 85, op := _, type := _, pos := _, after := _, guard := _ }) rfl (fun K hK => ?_) AllReadyH.nil
        refine Ks.step_append_own_src rfl (.tmp 81) (.tmp 84) 25 25 rfl Bz 24 (.agg #[.int .i64 0, .int .i64 0]) 2 16 Try.underlying25 info26 rfl (by decide) _ 0 (E []) rfl hO1 _ i (E (l.take i)) rfl ?hsrc ?h63 ?hby ?hbs ?_
        case hsrc => exact take_src (HO.out.below hcur) (by omega) _
        case h63 => unfold maxLen; omega
        case hby => omega
        case hbs => exact hz1
        intro v2 w2 hown2 hgrow2
        have hz2 : Bz ≤ w2.heap.size := Nat.le_trans hz1 hgrow2.size
        have hcur := hcur.grown hgrow2 hcur.size (fun k hk => Nat.le_trans hBz (Pa.Ow.ge hO1 k hk).1)
        have hO2 : Ow w2 Bz v2 (l.take i) := ow_join (a := []) hown2 rfl (by rw [List.length_take]; omega)
        clear hown2 hgrow2 hO1 hz1 hHeld
        refine hK.out _ _ ?_ (fun hHeld => ?_)
        · trivial
        clear hK K
        try simp only [Act.put, List.setIfInBounds_toArray, List.set_cons_zero, List.set_cons_succ]
        refine wpAnyH_ready (rs := [9]) (by kernel_rfl) (by simp) ?_
        refine AllReadyH.cons (o := { dst := some 90, op := _, type := _, pos := _, after := _, guard := _ }) rfl (fun K hK => ?_) AllReadyH.nil
        refine Ks.step_append_own_src rfl (.tmp 85) (.tmp 89) 25 25 rfl Bz 24 (.agg #[.int .i64 0, .int .i64 0]) 2 16 Try.underlying25 info26 rfl (by decide) _ (l.take i).length (E (l.take i)) rfl hO2 _ (l.length - (i + 1)) (E (l.drop (i + 1))) rfl ?hsrc ?h63 ?hby ?hbs ?_
        case hsrc => exact drop_src (HO.out.below hcur) hlc _
        case h63 => rw [List.length_take]; unfold maxLen; omega
        case hby => rw [List.length_take]; omega
        case hbs => exact hz2
        intro v3 w3 hown3 hgrow3
        have hz3 : Bz ≤ w3.heap.size := Nat.le_trans hz2 hgrow3.size
        have hcur := hcur.grown hgrow3 hcur.size (fun k hk => Nat.le_trans hBz (Pa.Ow.ge hO2 k hk).1)
        have hO3 : Ow w3 Bz v3 (l.take i ++ l.drop (i + 1)) := ow_join hown3 rfl (by rw [List.length_drop])
        clear hown3 hgrow3 hO2 hz2 hHeld
        refine hK.out _ _ ?_ (fun hHeld => ?_)
        · trivial
        clear hK K
        try simp only [Act.put, List.setIfInBounds_toArray, List.set_cons_zero, List.set_cons_succ]
        generalize (if cap' = i + 1 then some (⟨g, 0, none⟩ : Addr) else some ⟨g, (i + 1) * 2, none⟩) = aoX at *
        refine wpAnyH_take (i := 10) (oi := { dst := some 12, op := _, type := _, pos := _, after := _, guard := _ }) (v := ?_) rfl (by kernel_rfl) (by kernel_rfl) (by kernel_rfl) (fun _ _ _ h => h) (Or.inl ⟨by rfl, ?_⟩) (by assumption) ?_
        rotate_left
        · (intro W hSw; (try dsimp only at hSw); go_simp; try (with_reducible rfl))
        try simp only [Act.put, List.setIfInBounds_toArray, List.set_cons_zero, List.set_cons_succ]
        refine wpAnyH_done (by kernel_rfl) ?_ _
        obtain ⟨hV1, hV2, hV3⟩ := cov_less HC.out HLI.out
        have hDl : (l.take i ++ l.drop (i + 1)).length ≤ 31 := by rw [List.length_append, List.length_take, List.length_drop]; omega
        generalize l.take i ++ l.drop (i + 1) = D at *
        have HV1 := mkH hV1
        have HV2 := mkH hV2
        have HV3 := mkH hV3
        clear hV1 hV2 hV3 hHeld
        obtain ⟨ao3, cap3, rfl, hc3, hd3⟩ := hO3.form
        have HO3 := mkH hO3
        have hx := Ow.at HO.out HLI.out
        have HKS : Hid (∀ W, Below wr.heap.size wr W → W.cell? ⟨g, i * 2, none⟩ = some (.int .i64 x) ∧ W.cell? ⟨g, i * 2 + 1, none⟩ = some (.int .i64 y)) := mkH (fun W hW => ⟨(hW.cell (p := ⟨g, i * 2, none⟩) hgs).trans hx.1, (hW.cell (p := ⟨g, i * 2 + 1, none⟩) hgs).trans hx.2⟩)
        have hil4 : (i : Int) < (l.length : Int) := by omega
        clear hx hO3 HLI wi1
        go_upto_region 17 with fail
        have hcur := hcur.drew
        refine wp_region_held_drew (S := fun W => W.cell? ⟨g, i * 2, none⟩ = some (.int .i64 x) ∧ W.cell? ⟨g, i * 2 + 1, none⟩ = some (.int .i64 y)) (by kernel_rfl) ?_ (fun hHeld => ?_)
        · exact HKS.out _ hcur
        have hO4 : Ow w3.drew Bz (.slice ao3 D.length cap3) D := HO3.out.below ((Below.refl _ _).drew)
        have hz4 : Bz ≤ w3.drew.heap.size := hz3
        clear HO3 hz3
        generalize w3.drew = w4 at *
        refine wpAnyH_take (i := 0) (oi := { dst := some 91, op := _, type := _, pos := _, after := _, guard := _ }) (v := ?_) rfl (by kernel_rfl) (by kernel_rfl) (by kernel_rfl) (fun _ _ _ h => h) (Or.inl ⟨by rfl, ?_⟩) (by assumption) ?_
        rotate_left
        · (intro W hSw; (try dsimp only at hSw); go_simp; try (with_reducible rfl))
        try simp only [Act.put, List.setIfInBounds_toArray, List.set_cons_zero, List.set_cons_succ]
        refine wpAnyH_ready (rs := [1]) (by kernel_rfl) (by simp) ?_
        refine AllReadyH.cons (o := { dst := some 92, op := _, type := _, pos := _, after := _, guard := _ }) rfl (fun K hK => ?_) AllReadyH.nil
        go_simp
        have hco := covers_any w4 ao3 cap3 D hO4.rw (by omega)
        rw [HV1.out] at hco
        refine hco.mono ?_
        rintro ew5 w5 ⟨rfl, hg⟩
        have hcur : Below wr.heap.size wr w5 := hcur.trans (hg.mono hcur.size)
        have hO4 := hO4.below hg
        have hz4 : Bz ≤ w5.heap.size := Nat.le_trans hz4 hg.size
        have hkeep := HKS.out w5 hcur
        clear hg hco hHeld
        go_wp2_with fail
        refine hK.out _ _ ?_ (fun hHeld => ?_)
        · exact hkeep
        clear hK K
        try simp only [Act.put, List.setIfInBounds_toArray, List.set_cons_zero, List.set_cons_succ]
        refine wpAnyH_take (i := 2) (oi := { dst := some 93, op := _, type := _, pos := _, after := _, guard := _ }) (v := ?_) rfl (by kernel_rfl) (by kernel_rfl) (by kernel_rfl) (fun _ _ _ h => h) (Or.inl ⟨by rfl, ?_⟩) (by assumption) ?_
        rotate_left
        · (intro W hSw; (try dsimp only at hSw); go_simp; try (with_reducible rfl))
        try simp only [Act.put, List.setIfInBounds_toArray, List.set_cons_zero, List.set_cons_succ]
        refine wpAnyH_take (i := 3) (oi := { dst := some 94, op := _, type := _, pos := _, after := _, guard := _ }) (v := ?_) rfl (by kernel_rfl) (by kernel_rfl) (by kernel_rfl) (fun _ _ _ h => h) (Or.inl ⟨by rfl, ?_⟩) (by assumption) ?_
        rotate_left
        · (intro W hSw; (try dsimp only at hSw); go_simp; try (with_reducible rfl))
        try simp only [Act.put, List.setIfInBounds_toArray, List.set_cons_zero, List.set_cons_succ]
        refine wpAnyH_take (i := 4) (oi := { dst := some 95, op := _, type := _, pos := _, after := _, guard := _ }) (v := ?_) rfl (by kernel_rfl) (by kernel_rfl) (by kernel_rfl) (fun _ _ _ h => h) (Or.inl ⟨by rfl, ?_⟩) (by assumption) ?_
        rotate_left
        · (intro W hSw; (try dsimp only at hSw); go_simp; try (with_reducible rfl))
        try simp only [Act.put, List.setIfInBounds_toArray, List.set_cons_zero, List.set_cons_succ]
        refine wpAnyH_take (i := 5) (oi := { dst := some 96, op := _, type := _, pos := _, after := _, guard := _ }) (v := ?_) rfl (by kernel_rfl) (by kernel_rfl) (by kernel_rfl) (fun _ _ _ h => h) (Or.inl ⟨by rfl, ?_⟩) (by assumption) ?_
        rotate_left
        · (intro W hSw; (try dsimp only at hSw); go_simp; try (with_reducible rfl))
        try simp only [Act.put, List.setIfInBounds_toArray, List.set_cons_zero, List.set_cons_succ]
        refine wpAnyH_take (i := 6) (oi := { dst := some 97, op := _, type := _, pos := _, after := _, guard := _ }) (v := ?_) rfl (by kernel_rfl) (by kernel_rfl) (by kernel_rfl) (fun _ _ _ h => h) (Or.inl ⟨by rfl, ?_⟩) (by assumption) ?_
        rotate_left
        · (intro W hSw; (try dsimp only at hSw); go_simp; try (with_reducible rfl))
        try simp only [Act.put, List.setIfInBounds_toArray, List.set_cons_zero, List.set_cons_succ]
        refine wpAnyH_take (i := 7) (oi := { dst := some 98, op := _, type := _, pos := _, after := _, guard := _ }) (v := ?_) rfl (by kernel_rfl) (by kernel_rfl) (by kernel_rfl) (fun _ _ _ h => h) (Or.inl ⟨by rfl, ?_⟩) (by assumption) ?_
        rotate_left
        · (intro W hSw; (try dsimp only at hSw); go_simp; try (with_reducible rfl))
        try simp only [Act.put, List.setIfInBounds_toArray, List.set_cons_zero, List.set_cons_succ]
        refine wpAnyH_take (i := 8) (oi := { dst := some 99, op := _, type := _, pos := _, after := _, guard := _ }) (v := ?_) rfl (by kernel_rfl) (by kernel_rfl) (by kernel_rfl) (fun _ _ _ h => h) (Or.inl ⟨by rfl, ?_⟩) (by assumption) ?_
        rotate_left
        · (intro W hSw; (try dsimp only at hSw); go_simp; try (with_reducible rfl))
        try simp only [Act.put, List.setIfInBounds_toArray, List.set_cons_zero, List.set_cons_succ]
        refine wpAnyH_take (i := 9) (oi := { dst := some 100, op := _, type := _, pos := _, after := _, guard := _ }) (v := ?_) rfl (by kernel_rfl) (by kernel_rfl) (by kernel_rfl) (fun _ _ _ h => h) (Or.inl ⟨by rfl, ?_⟩) (by assumption) ?_
        rotate_left
        · (intro W hSw; (try dsimp only at hSw); go_simp; try (with_reducible rfl))
        try simp only [Act.put, List.setIfInBounds_toArray, List.set_cons_zero, List.set_cons_succ]
        refine wpAnyH_take (i := 10) (oi := { dst := some 101, op := _, type := _, pos := _, after := _, guard := _ }) (v := ?_) rfl (by kernel_rfl) (by kernel_rfl) (by kernel_rfl) (fun _ _ _ h => h) (Or.inl ⟨by rfl, ?_⟩) (by assumption) ?_
        rotate_left
        · (intro W hSw; (try dsimp only at hSw); go_simp; try (with_reducible rfl))
        try simp only [Act.put, List.setIfInBounds_toArray, List.set_cons_zero, List.set_cons_succ]
        refine wpAnyH_take (i := 11) (oi := { dst := some 102, op := _, type := _, pos := _, after := _, guard := _ }) (v := ?_) rfl (by kernel_rfl) (by kernel_rfl) (by kernel_rfl) (fun _ _ _ h => h) (Or.inl ⟨by rfl, ?_⟩) (by assumption) ?_
        rotate_left
        · (intro W hSw; (try dsimp only at hSw); go_simp; try (with_reducible rfl))
        try simp only [Act.put, List.setIfInBounds_toArray, List.set_cons_zero, List.set_cons_succ]
        refine wpAnyH_take (i := 12) (oi := { dst := some 103, op := _, type := _, pos := _, after := _, guard := _ }) (v := ?_) rfl (by kernel_rfl) (by kernel_rfl) (by kernel_rfl) (fun _ _ _ h => h) (Or.inl ⟨by rfl, ?_⟩) (by assumption) ?_
        rotate_left
        · (intro W hSw; (try dsimp only at hSw); go_simp; try (with_reducible rfl))
        try simp only [Act.put, List.setIfInBounds_toArray, List.set_cons_zero, List.set_cons_succ]
        refine wpAnyH_ready (rs := [13]) (by kernel_rfl) (by simp) ?_
        refine AllReadyH.cons (o := { dst := some 104, op := _, type := _, pos := _, after := _, guard := _ }) rfl (fun K hK => ?_) AllReadyH.nil
        go_simp
        refine hK.out _ _ ?_ (fun hHeld => ?_)
        · exact HKS.out _ (hcur.alloc hcur.size _)
        clear hK K
        try simp only [Act.put, List.setIfInBounds_toArray, List.set_cons_zero, List.set_cons_succ]
        have hO4 := hO4.below ((Below.refl w5.heap.size w5).alloc (Nat.le_refl _) (.cells #[.int .i64 x, .int .i64 y, .int .i64 x, .int .i64 y] 24))
        have hz4 : Bz ≤ (w5.alloc (.cells #[.int .i64 x, .int .i64 y, .int .i64 x, .int .i64 y] 24)).heap.size := by simp; omega
        have hcur := hcur.alloc hcur.size (.cells #[.int .i64 x, .int .i64 y, .int .i64 x, .int .i64 y] 24)
        have hsr := Rw.src (P := Try.prog) Try.underlying25 (Rw_new w5 [(x, y), (x, y)] 24) 2
        refine wpAnyH_ready (rs := [14]) (by kernel_rfl) (by simp) ?_
        refine AllReadyH.cons (o := { dst := some 105, op := _, type := _, pos := _, after := _, guard := _ }) rfl (fun K hK => ?_) AllReadyH.nil
        refine step_append_keep (by rfl) (.tmp 95) (.tmp 104) 25 25 rfl Bz 24 (.agg #[.int .i64 0, .int .i64 0]) 2 16 Try.underlying25 info26 rfl (by decide) _ D.length (E D) rfl hO4 _ 2 (E [(x, y), (x, y)]) rfl ?hsrc ?h63 ?hby ?hbs ?_
        case hsrc => exact hsr
        case h63 => unfold maxLen; omega
        case hby => omega
        case hbs => exact hz4
        intro v7 w7 hown7 hold7 hgrow7
        have hz4 : Bz ≤ w7.heap.size := Nat.le_trans hz4 hgrow7.size
        have hcur := hcur.grown hgrow7 hcur.size (fun k hk => Nat.le_trans hBz (Pa.Ow.ge hO4 k hk).1)
        have hO7 : Ow w7 Bz v7 (D ++ [(x, y), (x, y)]) := ow_join hown7 rfl rfl
        have hD7 : (D ++ [(x, y), (x, y)]).length ≤ 40 := by rw [List.length_append]; simp; omega
        generalize D ++ [(x, y), (x, y)] = D7 at hO7 hD7 HV2
        have hO4 : Ow w7 Bz (.slice ao3 D.length cap3) D := hold7
        have hkeep := HKS.out w7 hcur
        obtain ⟨ao7, cap7, rfl, hc7, hd7⟩ := hO7.form
        clear hown7 hold7 hgrow7 hsr hHeld
        refine hK.out _ _ ?_ (fun hHeld => ?_)
        · exact hkeep
        clear hK K
        try simp only [Act.put, List.setIfInBounds_toArray, List.set_cons_zero, List.set_cons_succ]
        refine wpAnyH_ready (rs := [15]) (by kernel_rfl) (by simp) ?_
        refine AllReadyH.cons (o := { dst := some 106, op := _, type := _, pos := _, after := _, guard := _ }) rfl (fun K hK => ?_) AllReadyH.nil
        go_simp
        have hco := covers_any w7 ao7 cap7 D7 hO7.rw (by omega)
        rw [HV2.out] at hco
        refine hco.mono ?_
        rintro ew8 w8 ⟨rfl, hg⟩
        have hcur : Below wr.heap.size wr w8 := hcur.trans (hg.mono hcur.size)
        have hO4 := hO4.below hg
        have hz4 : Bz ≤ w8.heap.size := Nat.le_trans hz4 hg.size
        have hkeep := HKS.out w8 hcur
        clear hg hco hHeld
        go_wp2_with fail
        refine hK.out _ _ ?_ (fun hHeld => ?_)
        · exact hkeep
        clear hK K
        try simp only [Act.put, List.setIfInBounds_toArray, List.set_cons_zero, List.set_cons_succ]
        clear hO7 hc7 hd7
        refine wpAnyH_take (i := 16) (oi := { dst := some 107, op := _, type := _, pos := _, after := _, guard := _ }) (v := ?_) rfl (by kernel_rfl) (by kernel_rfl) (by kernel_rfl) (fun _ _ _ h => h) (Or.inl ⟨by rfl, ?_⟩) (by assumption) ?_
        rotate_left
        · (intro W hSw; (try dsimp only at hSw); go_simp; try (with_reducible rfl))
        try simp only [Act.put, List.setIfInBounds_toArray, List.set_cons_zero, List.set_cons_succ]
        refine wpAnyH_take (i := 17) (oi := { dst := some 108, op := _, type := _, pos := _, after := _, guard := _ }) (v := ?_) rfl (by kernel_rfl) (by kernel_rfl) (by kernel_rfl) (fun _ _ _ h => h) (Or.inl ⟨by rfl, ?_⟩) (by assumption) ?_
        rotate_left
        · (intro W hSw; (try dsimp only at hSw); go_simp; try (with_reducible rfl))
        try simp only [Act.put, List.setIfInBounds_toArray, List.set_cons_zero, List.set_cons_succ]
        refine wpAnyH_take (i := 18) (oi := { dst := some 109, op := _, type := _, pos := _, after := _, guard := _ }) (v := ?_) rfl (by kernel_rfl) (by kernel_rfl) (by kernel_rfl) (fun _ _ _ h => h) (Or.inl ⟨by rfl, ?_⟩) (by assumption) ?_
        rotate_left
        · (intro W hSw; (try dsimp only at hSw); go_simp; try (with_reducible rfl))
        try simp only [Act.put, List.setIfInBounds_toArray, List.set_cons_zero, List.set_cons_succ]
        refine wpAnyH_take (i := 19) (oi := { dst := some 110, op := _, type := _, pos := _, after := _, guard := _ }) (v := ?_) rfl (by kernel_rfl) (by kernel_rfl) (by kernel_rfl) (fun _ _ _ h => h) (Or.inl ⟨by rfl, ?_⟩) (by assumption) ?_
        rotate_left
        · (intro W hSw; (try dsimp only at hSw); go_simp; try (with_reducible rfl))
        try simp only [Act.put, List.setIfInBounds_toArray, List.set_cons_zero, List.set_cons_succ]
        refine wpAnyH_take (i := 20) (oi := { dst := some 111, op := _, type := _, pos := _, after := _, guard := _ }) (v := ?_) rfl (by kernel_rfl) (by kernel_rfl) (by kernel_rfl) (fun _ _ _ h => h) (Or.inl ⟨by rfl, ?_⟩) (by assumption) ?_
        rotate_left
        · (intro W hSw; (try dsimp only at hSw); go_simp; try (with_reducible rfl))
        try simp only [Act.put, List.setIfInBounds_toArray, List.set_cons_zero, List.set_cons_succ]
        refine wpAnyH_take (i := 21) (oi := { dst := some 112, op := _, type := _, pos := _, after := _, guard := _ }) (v := ?_) rfl (by kernel_rfl) (by kernel_rfl) (by kernel_rfl) (fun _ _ _ h => h) (Or.inl ⟨by rfl, ?_⟩) (by assumption) ?_
        rotate_left
        · (intro W hSw; (try dsimp only at hSw); go_simp; try (with_reducible rfl))
        try simp only [Act.put, List.setIfInBounds_toArray, List.set_cons_zero, List.set_cons_succ]
        refine wpAnyH_take (i := 22) (oi := { dst := some 113, op := _, type := _, pos := _, after := _, guard := _ }) (v := ?_) rfl (by kernel_rfl) (by kernel_rfl) (by kernel_rfl) (fun _ _ _ h => h) (Or.inl ⟨by rfl, ?_⟩) (by assumption) ?_
        rotate_left
        · (intro W hSw; (try dsimp only at hSw); go_simp; try (with_reducible rfl))
        try simp only [Act.put, List.setIfInBounds_toArray, List.set_cons_zero, List.set_cons_succ]
        refine wpAnyH_take (i := 23) (oi := { dst := some 114, op := _, type := _, pos := _, after := _, guard := _ }) (v := ?_) rfl (by kernel_rfl) (by kernel_rfl) (by kernel_rfl) (fun _ _ _ h => h) (Or.inl ⟨by rfl, ?_⟩) (by assumption) ?_
        rotate_left
        · (intro W hSw; (try dsimp only at hSw); go_simp; try (with_reducible rfl))
        try simp only [Act.put, List.setIfInBounds_toArray, List.set_cons_zero, List.set_cons_succ]
        refine wpAnyH_ready (rs := [24]) (by kernel_rfl) (by simp) ?_
        refine AllReadyH.cons (o := { dst := some 115, op := _, type := _, pos := _, after := _, guard := _ }) rfl (fun K hK => ?_) AllReadyH.nil
        go_simp
        refine hK.out _ _ ?_ (fun hHeld => ?_)
        · exact HKS.out _ (hcur.alloc hcur.size _)
        clear hK K
        try simp only [Act.put, List.setIfInBounds_toArray, List.set_cons_zero, List.set_cons_succ]
        have hO4 := hO4.below ((Below.refl w8.heap.size w8).alloc (Nat.le_refl _) (.cells #[.int .i64 x, .int .i64 y] 24))
        have hz4 : Bz ≤ (w8.alloc (.cells #[.int .i64 x, .int .i64 y] 24)).heap.size := by simp; omega
        have hcur := hcur.alloc hcur.size (.cells #[.int .i64 x, .int .i64 y] 24)
        have hsr := src1 w8 x y
        refine wpAnyH_ready (rs := [25]) (by kernel_rfl) (by simp) ?_
        refine AllReadyH.cons (o := { dst := some 116, op := _, type := _, pos := _, after := _, guard := _ }) rfl (fun K hK => ?_) AllReadyH.nil
        refine step_append_keep (by rfl) (.tmp 110) (.tmp 115) 25 25 rfl Bz 24 (.agg #[.int .i64 0, .int .i64 0]) 2 16 Try.underlying25 info26 rfl (by decide) _ D.length (E D) rfl hO4 _ 1 (E [(x, y)]) rfl ?hsrc ?h63 ?hby ?hbs ?_
        case hsrc => exact hsr
        case h63 => unfold maxLen; omega
        case hby => omega
        case hbs => exact hz4
        intro v10 w10 hown10 hold10 hgrow10
        have hz4 : Bz ≤ w10.heap.size := Nat.le_trans hz4 hgrow10.size
        have hcur := hcur.grown hgrow10 hcur.size (fun k hk => Nat.le_trans hBz (Pa.Ow.ge hO4 k hk).1)
        have hO10 : Ow w10 Bz v10 (D ++ [(x, y)]) := ow_join hown10 rfl rfl
        have hD10 : (D ++ [(x, y)]).length ≤ 40 := by rw [List.length_append]; simp; omega
        generalize D ++ [(x, y)] = D10 at hO10 hD10 HV3
        have hO4 : Ow w10 Bz (.slice ao3 D.length cap3) D := hold10
        have hkeep := HKS.out w10 hcur
        obtain ⟨ao10, cap10, rfl, hc10, hd10⟩ := hO10.form
        clear hown10 hold10 hgrow10 hsr hHeld
        refine hK.out _ _ ?_ (fun hHeld => ?_)
        · exact hkeep
        clear hK K
        try simp only [Act.put, List.setIfInBounds_toArray, List.set_cons_zero, List.set_cons_succ]
        refine wpAnyH_ready (rs := [26]) (by kernel_rfl) (by simp) ?_
        refine AllReadyH.cons (o := { dst := some 117, op := _, type := _, pos := _, after := _, guard := _ }) rfl (fun K hK => ?_) AllReadyH.nil
        go_simp
        have hco := covers_any w10 ao10 cap10 D10 hO10.rw (by omega)
        rw [HV3.out] at hco
        refine hco.mono ?_
        rintro ew11 w11 ⟨rfl, hg⟩
        have hcur : Below wr.heap.size wr w11 := hcur.trans (hg.mono hcur.size)
        have hO4 := hO4.below hg
        have hz4 : Bz ≤ w11.heap.size := Nat.le_trans hz4 hg.size
        have hkeep := HKS.out w11 hcur
        clear hg hco hHeld
        go_wp2_with fail
        refine hK.out _ _ ?_ (fun hHeld => ?_)
        · exact hkeep
        clear hK K
        try simp only [Act.put, List.setIfInBounds_toArray, List.set_cons_zero, List.set_cons_succ]
        clear hO10 hc10 hd10
        refine wpAnyH_take (i := 27) (oi := { dst := some 118, op := _, type := _, pos := _, after := _, guard := _ }) (v := ?_) rfl (by kernel_rfl) (by kernel_rfl) (by kernel_rfl) (fun _ _ _ h => h) (Or.inl ⟨by rfl, ?_⟩) (by assumption) ?_
        rotate_left
        · (intro W hSw; (try dsimp only at hSw); go_simp; try (with_reducible rfl))
        try simp only [Act.put, List.setIfInBounds_toArray, List.set_cons_zero, List.set_cons_succ]
        refine wpAnyH_take (i := 28) (oi := { dst := some 119, op := _, type := _, pos := _, after := _, guard := _ }) (v := ?_) rfl (by kernel_rfl) (by kernel_rfl) (by kernel_rfl) (fun _ _ _ h => h) (Or.inl ⟨by rfl, ?_⟩) (by assumption) ?_
        rotate_left
        · (intro W hSw; (try dsimp only at hSw); go_simp; try (with_reducible rfl))
        try simp only [Act.put, List.setIfInBounds_toArray, List.set_cons_zero, List.set_cons_succ]
        refine wpAnyH_ready (rs := [29]) (by kernel_rfl) (by simp) ?_
        refine AllReadyH.cons (o := { dst := some 120, op := _, type := _, pos := _, after := _, guard := _ }) rfl (fun K hK => ?_) AllReadyH.nil
        go_simp
        refine (works_any _).mono ?_
        rintro e12 w12 ⟨rfl, hg⟩
        have hcur : Below wr.heap.size wr w12 := hcur.trans (hg.below.mono hcur.size)
        have hkeep := HKS.out w12 hcur
        clear hg hHeld
        go_wp2_with fail
        refine hK.out _ _ ?_ (fun hHeld => ?_)
        · exact hkeep
        clear hK K
        try simp only [Act.put, List.setIfInBounds_toArray, List.set_cons_zero, List.set_cons_succ]
        refine wpAnyH_take (i := 30) (oi := { dst := some 121, op := _, type := _, pos := _, after := _, guard := _ }) (v := ?_) rfl (by kernel_rfl) (by kernel_rfl) (by kernel_rfl) (fun _ _ _ h => h) (Or.inl ⟨by rfl, ?_⟩) (by assumption) ?_
        rotate_left
        · (intro W hSw; (try dsimp only at hSw); go_simp; try (with_reducible rfl))
        try simp only [Act.put, List.setIfInBounds_toArray, List.set_cons_zero, List.set_cons_succ]
        refine wpAnyH_take (i := 31) (oi := { dst := some 4, op := _, type := _, pos := _, after := _, guard := _ }) (v := ?_) rfl (by kernel_rfl) (by kernel_rfl) (by kernel_rfl) (fun _ _ _ h => h) (Or.inl ⟨by rfl, ?_⟩) (by assumption) ?_
        rotate_left
        · (intro W hSw; (try dsimp only at hSw); go_simp; try (with_reducible rfl))
        try simp only [Act.put, List.setIfInBounds_toArray, List.set_cons_zero, List.set_cons_succ]
        refine wpAnyH_done (by kernel_rfl) ?_ _
        go_wp2
        go_ret
        exact ⟨rfl, HX.out.trans (hcur.mono HX.out.size)⟩
      ·
        have hL : ¬ ((l.length : Int) = 0) := by omega
        go_upto_region 16 with fail
        rw [HI.out]
        have wi1 : IntKind.i64.wrap ((i : Int) + 1) = (i : Int) + 1 := by rw [IntKind.wrap_i64]; omega
        have hcur : Below wr.heap.size wr wr.drew := (Below.refl _ _).drew
        refine wp_region_held_drew (S := fun W => True) (by kernel_rfl) ?_ (fun hHeld => ?_)
        · trivial
        generalize wr.drew = wz at *
        refine wpAnyH_take (i := 1) (oi := { dst := some 82, op := _, type := _, pos := _, after := _, guard := _ }) (v := ?_) rfl (by kernel_rfl) (by kernel_rfl) (by kernel_rfl) (fun _ _ _ h => h) (Or.inl ⟨by rfl, ?_⟩) (by assumption) ?_
        rotate_left
        · (intro W hSw; (try dsimp only at hSw); go_simp; try (with_reducible rfl))
        try simp only [Act.put, List.setIfInBounds_toArray, List.set_cons_zero, List.set_cons_succ]
        refine wpAnyH_take (i := 2) (oi := { dst := some 83, op := _, type := _, pos := _, after := _, guard := _ }) (v := ?_) rfl (by kernel_rfl) (by kernel_rfl) (by kernel_rfl) (fun _ _ _ h => h) (Or.inl ⟨by rfl, ?_⟩) (by assumption) ?_
        rotate_left
        · (intro W hSw; (try dsimp only at hSw); go_simp; try (with_reducible rfl))
        try simp only [Act.put, List.setIfInBounds_toArray, List.set_cons_zero, List.set_cons_succ]
        refine wpAnyH_take (i := 3) (oi := { dst := some 84, op := _, type := _, pos := _, after := _, guard := _ }) (v := ?_) rfl (by kernel_rfl) (by kernel_rfl) (by kernel_rfl) (fun _ _ _ h => h) (Or.inl ⟨by rfl, ?_⟩) (by assumption) ?_
        rotate_left
        · (intro W hSw; (try dsimp only at hSw); go_simp; try (with_reducible rfl))
        try simp only [Act.put, List.setIfInBounds_toArray, List.set_cons_zero, List.set_cons_succ]
        refine wpAnyH_take (i := 5) (oi := { dst := some 86, op := _, type := _, pos := _, after := _, guard := _ }) (v := ?_) rfl (by kernel_rfl) (by kernel_rfl) (by kernel_rfl) (fun _ _ _ h => h) (Or.inl ⟨by rfl, ?_⟩) (by assumption) ?_
        rotate_left
        · (intro W hSw; (try dsimp only at hSw); go_simp; try (with_reducible rfl))
        try simp only [Act.put, List.setIfInBounds_toArray, List.set_cons_zero, List.set_cons_succ]
        refine wpAnyH_take (i := 6) (oi := { dst := some 87, op := _, type := _, pos := _, after := _, guard := _ }) (v := ?_) rfl (by kernel_rfl) (by kernel_rfl) (by kernel_rfl) (fun _ _ _ h => h) (Or.inl ⟨by rfl, ?_⟩) (by assumption) ?_
        rotate_left
        · (intro W hSw; (try dsimp only at hSw); go_simp; try (with_reducible rfl))
        try simp only [Act.put, List.setIfInBounds_toArray, List.set_cons_zero, List.set_cons_succ]
        refine wpAnyH_take (i := 7) (oi := { dst := some 88, op := _, type := _, pos := _, after := _, guard := _ }) (v := ?_) rfl (by kernel_rfl) (by kernel_rfl) (by kernel_rfl) (fun _ _ _ h => h) (Or.inl ⟨by rfl, ?_⟩) (by assumption) ?_
        rotate_left
        · (intro W hSw; (try dsimp only at hSw); go_simp; try (with_reducible rfl))
        try simp only [Act.put, List.setIfInBounds_toArray, List.set_cons_zero, List.set_cons_succ]
        refine wpAnyH_take (i := 8) (oi := { dst := some 89, op := _, type := _, pos := _, after := _, guard := _ }) (v := ?_) rfl (by kernel_rfl) (by kernel_rfl) (by kernel_rfl) (fun _ _ _ h => h) (Or.inl ⟨by rfl, ?_⟩) (by assumption) ?_
        rotate_left
        · (intro W hSw; (try dsimp only at hSw); go_simp; try (with_reducible rfl))
        try simp only [Act.put, List.setIfInBounds_toArray, List.set_cons_zero, List.set_cons_succ]
        refine wpAnyH_ready (rs := [0]) (by kernel_rfl) (by simp) ?_
        refine AllReadyH.cons (o := { dst := some 81, op := _, type := _, pos := _, after := _, guard := _ }) rfl (fun K hK => ?_) AllReadyH.nil
        go_simp
        refine hK.out _ _ ?_ (fun hHeld => ?_)
        · trivial
        clear hK K
        try simp only [Act.put, List.setIfInBounds_toArray, List.set_cons_zero, List.set_cons_succ]
        clear hHeld
        have hO1 : Ow (wz.alloc (.cells #[] 24)) wz.heap.size (.slice (some ⟨wz.heap.size, 0, none⟩) 0 0) [] := World.ownsRow_made wz #[] 0 (Nat.le_refl _) (Nat.zero_le _) rfl
        have hBz := hcur.size
        have hz1 : wz.heap.size ≤ (wz.alloc (.cells #[] 24)).heap.size := by simp
        have hcur := hcur.alloc hcur.size (.cells #[] 24)
        generalize wz.alloc (.cells #[] 24) = w1 at *
        generalize wz.heap.size = Bz at *
        have hHeld : True := trivial
        refine wpAnyH_ready (rs := [4]) (by kernel_rfl) (by simp) ?_
        refine AllReadyH.cons (o := { dst := some 85, op := _, type := _, pos := _, after := _, guard := _ }) rfl (fun K hK => ?_) AllReadyH.nil
        refine Ks.step_append_own_src rfl (.tmp 81) (.tmp 84) 25 25 rfl Bz 24 (.agg #[.int .i64 0, .int .i64 0]) 2 16 Try.underlying25 info26 rfl (by decide) _ 0 (E []) rfl hO1 _ i (E (l.take i)) rfl ?hsrc ?h63 ?hby ?hbs ?_
        case hsrc => exact take_src (HO.out.below hcur) (by omega) _
        case h63 => unfold maxLen; omega
        case hby => omega
        case hbs => exact hz1
        intro v2 w2 hown2 hgrow2
        have hz2 : Bz ≤ w2.heap.size := Nat.le_trans hz1 hgrow2.size
        have hcur := hcur.grown hgrow2 hcur.size (fun k hk => Nat.le_trans hBz (Pa.Ow.ge hO1 k hk).1)
        have hO2 : Ow w2 Bz v2 (l.take i) := ow_join (a := []) hown2 rfl (by rw [List.length_take]; omega)
        clear hown2 hgrow2 hO1 hz1 hHeld
        refine hK.out _ _ ?_ (fun hHeld => ?_)
        · trivial
        clear hK K
        try simp only [Act.put, List.setIfInBounds_toArray, List.set_cons_zero, List.set_cons_succ]
        refine wpAnyH_ready (rs := [9]) (by kernel_rfl) (by simp) ?_
        refine AllReadyH.cons (o := { dst := some 90, op := _, type := _, pos := _, after := _, guard := _ }) rfl (fun K hK => ?_) AllReadyH.nil
        refine Ks.step_append_own_src rfl (.tmp 85) (.tmp 89) 25 25 rfl Bz 24 (.agg #[.int .i64 0, .int .i64 0]) 2 16 Try.underlying25 info26 rfl (by decide) _ (l.take i).length (E (l.take i)) rfl hO2 _ (l.length - (i + 1)) (E (l.drop (i + 1))) rfl ?hsrc ?h63 ?hby ?hbs ?_
        case hsrc => exact drop_src (HO.out.below hcur) hlc _
        case h63 => rw [List.length_take]; unfold maxLen; omega
        case hby => rw [List.length_take]; omega
        case hbs => exact hz2
        intro v3 w3 hown3 hgrow3
        have hz3 : Bz ≤ w3.heap.size := Nat.le_trans hz2 hgrow3.size
        have hcur := hcur.grown hgrow3 hcur.size (fun k hk => Nat.le_trans hBz (Pa.Ow.ge hO2 k hk).1)
        have hO3 : Ow w3 Bz v3 (l.take i ++ l.drop (i + 1)) := ow_join hown3 rfl (by rw [List.length_drop])
        clear hown3 hgrow3 hO2 hz2 hHeld
        refine hK.out _ _ ?_ (fun hHeld => ?_)
        · trivial
        clear hK K
        try simp only [Act.put, List.setIfInBounds_toArray, List.set_cons_zero, List.set_cons_succ]
        generalize (if cap' = i + 1 then some (⟨g, 0, none⟩ : Addr) else some ⟨g, (i + 1) * 2, none⟩) = aoX at *
        refine wpAnyH_take (i := 10) (oi := { dst := some 12, op := _, type := _, pos := _, after := _, guard := _ }) (v := ?_) rfl (by kernel_rfl) (by kernel_rfl) (by kernel_rfl) (fun _ _ _ h => h) (Or.inl ⟨by rfl, ?_⟩) (by assumption) ?_
        rotate_left
        · (intro W hSw; (try dsimp only at hSw); go_simp; try (with_reducible rfl))
        try simp only [Act.put, List.setIfInBounds_toArray, List.set_cons_zero, List.set_cons_succ]
        refine wpAnyH_done (by kernel_rfl) ?_ _
        obtain ⟨hV1, hV2, hV3⟩ := cov_less HC.out HLI.out
        have hDl : (l.take i ++ l.drop (i + 1)).length ≤ 31 := by rw [List.length_append, List.length_take, List.length_drop]; omega
        generalize l.take i ++ l.drop (i + 1) = D at *
        have HV1 := mkH hV1
        have HV2 := mkH hV2
        have HV3 := mkH hV3
        clear hV1 hV2 hV3 hHeld
        obtain ⟨ao3, cap3, rfl, hc3, hd3⟩ := hO3.form
        have HO3 := mkH hO3
        have hx := Ow.at HO.out HLI.out
        have HKS : Hid (∀ W, Below wr.heap.size wr W → W.cell? ⟨g, i * 2, none⟩ = some (.int .i64 x) ∧ W.cell? ⟨g, i * 2 + 1, none⟩ = some (.int .i64 y)) := mkH (fun W hW => ⟨(hW.cell (p := ⟨g, i * 2, none⟩) hgs).trans hx.1, (hW.cell (p := ⟨g, i * 2 + 1, none⟩) hgs).trans hx.2⟩)
        have hil4 : (i : Int) < (l.length : Int) := by omega
        clear hx hO3 HLI wi1
        go_upto_region 17 with fail
        have hcur := hcur.drew
        refine wp_region_held_drew (S := fun W => W.cell? ⟨g, i * 2, none⟩ = some (.int .i64 x) ∧ W.cell? ⟨g, i * 2 + 1, none⟩ = some (.int .i64 y)) (by kernel_rfl) ?_ (fun hHeld => ?_)
        · exact HKS.out _ hcur
        have hO4 : Ow w3.drew Bz (.slice ao3 D.length cap3) D := HO3.out.below ((Below.refl _ _).drew)
        have hz4 : Bz ≤ w3.drew.heap.size := hz3
        clear HO3 hz3
        generalize w3.drew = w4 at *
        refine wpAnyH_take (i := 0) (oi := { dst := some 91, op := _, type := _, pos := _, after := _, guard := _ }) (v := ?_) rfl (by kernel_rfl) (by kernel_rfl) (by kernel_rfl) (fun _ _ _ h => h) (Or.inl ⟨by rfl, ?_⟩) (by assumption) ?_
        rotate_left
        · (intro W hSw; (try dsimp only at hSw); go_simp; try (with_reducible rfl))
        try simp only [Act.put, List.setIfInBounds_toArray, List.set_cons_zero, List.set_cons_succ]
        refine wpAnyH_ready (rs := [1]) (by kernel_rfl) (by simp) ?_
        refine AllReadyH.cons (o := { dst := some 92, op := _, type := _, pos := _, after := _, guard := _ }) rfl (fun K hK => ?_) AllReadyH.nil
        go_simp
        have hco := covers_any w4 ao3 cap3 D hO4.rw (by omega)
        rw [HV1.out] at hco
        refine hco.mono ?_
        rintro ew5 w5 ⟨rfl, hg⟩
        have hcur : Below wr.heap.size wr w5 := hcur.trans (hg.mono hcur.size)
        have hO4 := hO4.below hg
        have hz4 : Bz ≤ w5.heap.size := Nat.le_trans hz4 hg.size
        have hkeep := HKS.out w5 hcur
        clear hg hco hHeld
        go_wp2_with fail
        refine hK.out _ _ ?_ (fun hHeld => ?_)
        · exact hkeep
        clear hK K
        try simp only [Act.put, List.setIfInBounds_toArray, List.set_cons_zero, List.set_cons_succ]
        refine wpAnyH_take (i := 2) (oi := { dst := some 93, op := _, type := _, pos := _, after := _, guard := _ }) (v := ?_) rfl (by kernel_rfl) (by kernel_rfl) (by kernel_rfl) (fun _ _ _ h => h) (Or.inl ⟨by rfl, ?_⟩) (by assumption) ?_
        rotate_left
        · (intro W hSw; (try dsimp only at hSw); go_simp; try (with_reducible rfl))
        try simp only [Act.put, List.setIfInBounds_toArray, List.set_cons_zero, List.set_cons_succ]
        refine wpAnyH_take (i := 3) (oi := { dst := some 94, op := _, type := _, pos := _, after := _, guard := _ }) (v := ?_) rfl (by kernel_rfl) (by kernel_rfl) (by kernel_rfl) (fun _ _ _ h => h) (Or.inl ⟨by rfl, ?_⟩) (by assumption) ?_
        rotate_left
        · (intro W hSw; (try dsimp only at hSw); go_simp; try (with_reducible rfl))
        try simp only [Act.put, List.setIfInBounds_toArray, List.set_cons_zero, List.set_cons_succ]
        refine wpAnyH_take (i := 4) (oi := { dst := some 95, op := _, type := _, pos := _, after := _, guard := _ }) (v := ?_) rfl (by kernel_rfl) (by kernel_rfl) (by kernel_rfl) (fun _ _ _ h => h) (Or.inl ⟨by rfl, ?_⟩) (by assumption) ?_
        rotate_left
        · (intro W hSw; (try dsimp only at hSw); go_simp; try (with_reducible rfl))
        try simp only [Act.put, List.setIfInBounds_toArray, List.set_cons_zero, List.set_cons_succ]
        refine wpAnyH_take (i := 5) (oi := { dst := some 96, op := _, type := _, pos := _, after := _, guard := _ }) (v := ?_) rfl (by kernel_rfl) (by kernel_rfl) (by kernel_rfl) (fun _ _ _ h => h) (Or.inl ⟨by rfl, ?_⟩) (by assumption) ?_
        rotate_left
        · (intro W hSw; (try dsimp only at hSw); go_simp; try (with_reducible rfl))
        try simp only [Act.put, List.setIfInBounds_toArray, List.set_cons_zero, List.set_cons_succ]
        refine wpAnyH_take (i := 6) (oi := { dst := some 97, op := _, type := _, pos := _, after := _, guard := _ }) (v := ?_) rfl (by kernel_rfl) (by kernel_rfl) (by kernel_rfl) (fun _ _ _ h => h) (Or.inl ⟨by rfl, ?_⟩) (by assumption) ?_
        rotate_left
        · (intro W hSw; (try dsimp only at hSw); go_simp; try (with_reducible rfl))
        try simp only [Act.put, List.setIfInBounds_toArray, List.set_cons_zero, List.set_cons_succ]
        refine wpAnyH_take (i := 7) (oi := { dst := some 98, op := _, type := _, pos := _, after := _, guard := _ }) (v := ?_) rfl (by kernel_rfl) (by kernel_rfl) (by kernel_rfl) (fun _ _ _ h => h) (Or.inl ⟨by rfl, ?_⟩) (by assumption) ?_
        rotate_left
        · (intro W hSw; (try dsimp only at hSw); go_simp; try (with_reducible rfl))
        try simp only [Act.put, List.setIfInBounds_toArray, List.set_cons_zero, List.set_cons_succ]
        refine wpAnyH_take (i := 8) (oi := { dst := some 99, op := _, type := _, pos := _, after := _, guard := _ }) (v := ?_) rfl (by kernel_rfl) (by kernel_rfl) (by kernel_rfl) (fun _ _ _ h => h) (Or.inl ⟨by rfl, ?_⟩) (by assumption) ?_
        rotate_left
        · (intro W hSw; (try dsimp only at hSw); go_simp; try (with_reducible rfl))
        try simp only [Act.put, List.setIfInBounds_toArray, List.set_cons_zero, List.set_cons_succ]
        refine wpAnyH_take (i := 9) (oi := { dst := some 100, op := _, type := _, pos := _, after := _, guard := _ }) (v := ?_) rfl (by kernel_rfl) (by kernel_rfl) (by kernel_rfl) (fun _ _ _ h => h) (Or.inl ⟨by rfl, ?_⟩) (by assumption) ?_
        rotate_left
        · (intro W hSw; (try dsimp only at hSw); go_simp; try (with_reducible rfl))
        try simp only [Act.put, List.setIfInBounds_toArray, List.set_cons_zero, List.set_cons_succ]
        refine wpAnyH_take (i := 10) (oi := { dst := some 101, op := _, type := _, pos := _, after := _, guard := _ }) (v := ?_) rfl (by kernel_rfl) (by kernel_rfl) (by kernel_rfl) (fun _ _ _ h => h) (Or.inl ⟨by rfl, ?_⟩) (by assumption) ?_
        rotate_left
        · (intro W hSw; (try dsimp only at hSw); go_simp; try (with_reducible rfl))
        try simp only [Act.put, List.setIfInBounds_toArray, List.set_cons_zero, List.set_cons_succ]
        refine wpAnyH_take (i := 11) (oi := { dst := some 102, op := _, type := _, pos := _, after := _, guard := _ }) (v := ?_) rfl (by kernel_rfl) (by kernel_rfl) (by kernel_rfl) (fun _ _ _ h => h) (Or.inl ⟨by rfl, ?_⟩) (by assumption) ?_
        rotate_left
        · (intro W hSw; (try dsimp only at hSw); go_simp; try (with_reducible rfl))
        try simp only [Act.put, List.setIfInBounds_toArray, List.set_cons_zero, List.set_cons_succ]
        refine wpAnyH_take (i := 12) (oi := { dst := some 103, op := _, type := _, pos := _, after := _, guard := _ }) (v := ?_) rfl (by kernel_rfl) (by kernel_rfl) (by kernel_rfl) (fun _ _ _ h => h) (Or.inl ⟨by rfl, ?_⟩) (by assumption) ?_
        rotate_left
        · (intro W hSw; (try dsimp only at hSw); go_simp; try (with_reducible rfl))
        try simp only [Act.put, List.setIfInBounds_toArray, List.set_cons_zero, List.set_cons_succ]
        refine wpAnyH_ready (rs := [13]) (by kernel_rfl) (by simp) ?_
        refine AllReadyH.cons (o := { dst := some 104, op := _, type := _, pos := _, after := _, guard := _ }) rfl (fun K hK => ?_) AllReadyH.nil
        go_simp
        refine hK.out _ _ ?_ (fun hHeld => ?_)
        · exact HKS.out _ (hcur.alloc hcur.size _)
        clear hK K
        try simp only [Act.put, List.setIfInBounds_toArray, List.set_cons_zero, List.set_cons_succ]
        have hO4 := hO4.below ((Below.refl w5.heap.size w5).alloc (Nat.le_refl _) (.cells #[.int .i64 x, .int .i64 y, .int .i64 x, .int .i64 y] 24))
        have hz4 : Bz ≤ (w5.alloc (.cells #[.int .i64 x, .int .i64 y, .int .i64 x, .int .i64 y] 24)).heap.size := by simp; omega
        have hcur := hcur.alloc hcur.size (.cells #[.int .i64 x, .int .i64 y, .int .i64 x, .int .i64 y] 24)
        have hsr := Rw.src (P := Try.prog) Try.underlying25 (Rw_new w5 [(x, y), (x, y)] 24) 2
        refine wpAnyH_ready (rs := [14]) (by kernel_rfl) (by simp) ?_
        refine AllReadyH.cons (o := { dst := some 105, op := _, type := _, pos := _, after := _, guard := _ }) rfl (fun K hK => ?_) AllReadyH.nil
        refine step_append_keep (by rfl) (.tmp 95) (.tmp 104) 25 25 rfl Bz 24 (.agg #[.int .i64 0, .int .i64 0]) 2 16 Try.underlying25 info26 rfl (by decide) _ D.length (E D) rfl hO4 _ 2 (E [(x, y), (x, y)]) rfl ?hsrc ?h63 ?hby ?hbs ?_
        case hsrc => exact hsr
        case h63 => unfold maxLen; omega
        case hby => omega
        case hbs => exact hz4
        intro v7 w7 hown7 hold7 hgrow7
        have hz4 : Bz ≤ w7.heap.size := Nat.le_trans hz4 hgrow7.size
        have hcur := hcur.grown hgrow7 hcur.size (fun k hk => Nat.le_trans hBz (Pa.Ow.ge hO4 k hk).1)
        have hO7 : Ow w7 Bz v7 (D ++ [(x, y), (x, y)]) := ow_join hown7 rfl rfl
        have hD7 : (D ++ [(x, y), (x, y)]).length ≤ 40 := by rw [List.length_append]; simp; omega
        generalize D ++ [(x, y), (x, y)] = D7 at hO7 hD7 HV2
        have hO4 : Ow w7 Bz (.slice ao3 D.length cap3) D := hold7
        have hkeep := HKS.out w7 hcur
        obtain ⟨ao7, cap7, rfl, hc7, hd7⟩ := hO7.form
        clear hown7 hold7 hgrow7 hsr hHeld
        refine hK.out _ _ ?_ (fun hHeld => ?_)
        · exact hkeep
        clear hK K
        try simp only [Act.put, List.setIfInBounds_toArray, List.set_cons_zero, List.set_cons_succ]
        refine wpAnyH_ready (rs := [15]) (by kernel_rfl) (by simp) ?_
        refine AllReadyH.cons (o := { dst := some 106, op := _, type := _, pos := _, after := _, guard := _ }) rfl (fun K hK => ?_) AllReadyH.nil
        go_simp
        have hco := covers_any w7 ao7 cap7 D7 hO7.rw (by omega)
        rw [HV2.out] at hco
        refine hco.mono ?_
        rintro ew8 w8 ⟨rfl, hg⟩
        have hcur : Below wr.heap.size wr w8 := hcur.trans (hg.mono hcur.size)
        have hO4 := hO4.below hg
        have hz4 : Bz ≤ w8.heap.size := Nat.le_trans hz4 hg.size
        have hkeep := HKS.out w8 hcur
        clear hg hco hHeld
        go_wp2_with fail
        refine hK.out _ _ ?_ (fun hHeld => ?_)
        · exact hkeep
        clear hK K
        try simp only [Act.put, List.setIfInBounds_toArray, List.set_cons_zero, List.set_cons_succ]
        clear hO7 hc7 hd7
        refine wpAnyH_take (i := 16) (oi := { dst := some 107, op := _, type := _, pos := _, after := _, guard := _ }) (v := ?_) rfl (by kernel_rfl) (by kernel_rfl) (by kernel_rfl) (fun _ _ _ h => h) (Or.inl ⟨by rfl, ?_⟩) (by assumption) ?_
        rotate_left
        · (intro W hSw; (try dsimp only at hSw); go_simp; try (with_reducible rfl))
        try simp only [Act.put, List.setIfInBounds_toArray, List.set_cons_zero, List.set_cons_succ]
        refine wpAnyH_take (i := 17) (oi := { dst := some 108, op := _, type := _, pos := _, after := _, guard := _ }) (v := ?_) rfl (by kernel_rfl) (by kernel_rfl) (by kernel_rfl) (fun _ _ _ h => h) (Or.inl ⟨by rfl, ?_⟩) (by assumption) ?_
        rotate_left
        · (intro W hSw; (try dsimp only at hSw); go_simp; try (with_reducible rfl))
        try simp only [Act.put, List.setIfInBounds_toArray, List.set_cons_zero, List.set_cons_succ]
        refine wpAnyH_take (i := 18) (oi := { dst := some 109, op := _, type := _, pos := _, after := _, guard := _ }) (v := ?_) rfl (by kernel_rfl) (by kernel_rfl) (by kernel_rfl) (fun _ _ _ h => h) (Or.inl ⟨by rfl, ?_⟩) (by assumption) ?_
        rotate_left
        · (intro W hSw; (try dsimp only at hSw); go_simp; try (with_reducible rfl))
        try simp only [Act.put, List.setIfInBounds_toArray, List.set_cons_zero, List.set_cons_succ]
        refine wpAnyH_take (i := 19) (oi := { dst := some 110, op := _, type := _, pos := _, after := _, guard := _ }) (v := ?_) rfl (by kernel_rfl) (by kernel_rfl) (by kernel_rfl) (fun _ _ _ h => h) (Or.inl ⟨by rfl, ?_⟩) (by assumption) ?_
        rotate_left
        · (intro W hSw; (try dsimp only at hSw); go_simp; try (with_reducible rfl))
        try simp only [Act.put, List.setIfInBounds_toArray, List.set_cons_zero, List.set_cons_succ]
        refine wpAnyH_take (i := 20) (oi := { dst := some 111, op := _, type := _, pos := _, after := _, guard := _ }) (v := ?_) rfl (by kernel_rfl) (by kernel_rfl) (by kernel_rfl) (fun _ _ _ h => h) (Or.inl ⟨by rfl, ?_⟩) (by assumption) ?_
        rotate_left
        · (intro W hSw; (try dsimp only at hSw); go_simp; try (with_reducible rfl))
        try simp only [Act.put, List.setIfInBounds_toArray, List.set_cons_zero, List.set_cons_succ]
        refine wpAnyH_take (i := 21) (oi := { dst := some 112, op := _, type := _, pos := _, after := _, guard := _ }) (v := ?_) rfl (by kernel_rfl) (by kernel_rfl) (by kernel_rfl) (fun _ _ _ h => h) (Or.inl ⟨by rfl, ?_⟩) (by assumption) ?_
        rotate_left
        · (intro W hSw; (try dsimp only at hSw); go_simp; try (with_reducible rfl))
        try simp only [Act.put, List.setIfInBounds_toArray, List.set_cons_zero, List.set_cons_succ]
        refine wpAnyH_take (i := 22) (oi := { dst := some 113, op := _, type := _, pos := _, after := _, guard := _ }) (v := ?_) rfl (by kernel_rfl) (by kernel_rfl) (by kernel_rfl) (fun _ _ _ h => h) (Or.inl ⟨by rfl, ?_⟩) (by assumption) ?_
        rotate_left
        · (intro W hSw; (try dsimp only at hSw); go_simp; try (with_reducible rfl))
        try simp only [Act.put, List.setIfInBounds_toArray, List.set_cons_zero, List.set_cons_succ]
        refine wpAnyH_take (i := 23) (oi := { dst := some 114, op := _, type := _, pos := _, after := _, guard := _ }) (v := ?_) rfl (by kernel_rfl) (by kernel_rfl) (by kernel_rfl) (fun _ _ _ h => h) (Or.inl ⟨by rfl, ?_⟩) (by assumption) ?_
        rotate_left
        · (intro W hSw; (try dsimp only at hSw); go_simp; try (with_reducible rfl))
        try simp only [Act.put, List.setIfInBounds_toArray, List.set_cons_zero, List.set_cons_succ]
        refine wpAnyH_ready (rs := [24]) (by kernel_rfl) (by simp) ?_
        refine AllReadyH.cons (o := { dst := some 115, op := _, type := _, pos := _, after := _, guard := _ }) rfl (fun K hK => ?_) AllReadyH.nil
        go_simp
        refine hK.out _ _ ?_ (fun hHeld => ?_)
        · exact HKS.out _ (hcur.alloc hcur.size _)
        clear hK K
        try simp only [Act.put, List.setIfInBounds_toArray, List.set_cons_zero, List.set_cons_succ]
        have hO4 := hO4.below ((Below.refl w8.heap.size w8).alloc (Nat.le_refl _) (.cells #[.int .i64 x, .int .i64 y] 24))
        have hz4 : Bz ≤ (w8.alloc (.cells #[.int .i64 x, .int .i64 y] 24)).heap.size := by simp; omega
        have hcur := hcur.alloc hcur.size (.cells #[.int .i64 x, .int .i64 y] 24)
        have hsr := src1 w8 x y
        refine wpAnyH_ready (rs := [25]) (by kernel_rfl) (by simp) ?_
        refine AllReadyH.cons (o := { dst := some 116, op := _, type := _, pos := _, after := _, guard := _ }) rfl (fun K hK => ?_) AllReadyH.nil
        refine step_append_keep (by rfl) (.tmp 110) (.tmp 115) 25 25 rfl Bz 24 (.agg #[.int .i64 0, .int .i64 0]) 2 16 Try.underlying25 info26 rfl (by decide) _ D.length (E D) rfl hO4 _ 1 (E [(x, y)]) rfl ?hsrc ?h63 ?hby ?hbs ?_
        case hsrc => exact hsr
        case h63 => unfold maxLen; omega
        case hby => omega
        case hbs => exact hz4
        intro v10 w10 hown10 hold10 hgrow10
        have hz4 : Bz ≤ w10.heap.size := Nat.le_trans hz4 hgrow10.size
        have hcur := hcur.grown hgrow10 hcur.size (fun k hk => Nat.le_trans hBz (Pa.Ow.ge hO4 k hk).1)
        have hO10 : Ow w10 Bz v10 (D ++ [(x, y)]) := ow_join hown10 rfl rfl
        have hD10 : (D ++ [(x, y)]).length ≤ 40 := by rw [List.length_append]; simp; omega
        generalize D ++ [(x, y)] = D10 at hO10 hD10 HV3
        have hO4 : Ow w10 Bz (.slice ao3 D.length cap3) D := hold10
        have hkeep := HKS.out w10 hcur
        obtain ⟨ao10, cap10, rfl, hc10, hd10⟩ := hO10.form
        clear hown10 hold10 hgrow10 hsr hHeld
        refine hK.out _ _ ?_ (fun hHeld => ?_)
        · exact hkeep
        clear hK K
        try simp only [Act.put, List.setIfInBounds_toArray, List.set_cons_zero, List.set_cons_succ]
        refine wpAnyH_ready (rs := [26]) (by kernel_rfl) (by simp) ?_
        refine AllReadyH.cons (o := { dst := some 117, op := _, type := _, pos := _, after := _, guard := _ }) rfl (fun K hK => ?_) AllReadyH.nil
        go_simp
        have hco := covers_any w10 ao10 cap10 D10 hO10.rw (by omega)
        rw [HV3.out] at hco
        refine hco.mono ?_
        rintro ew11 w11 ⟨rfl, hg⟩
        have hcur : Below wr.heap.size wr w11 := hcur.trans (hg.mono hcur.size)
        have hO4 := hO4.below hg
        have hz4 : Bz ≤ w11.heap.size := Nat.le_trans hz4 hg.size
        have hkeep := HKS.out w11 hcur
        clear hg hco hHeld
        go_wp2_with fail
        refine hK.out _ _ ?_ (fun hHeld => ?_)
        · exact hkeep
        clear hK K
        try simp only [Act.put, List.setIfInBounds_toArray, List.set_cons_zero, List.set_cons_succ]
        clear hO10 hc10 hd10
        refine wpAnyH_take (i := 27) (oi := { dst := some 118, op := _, type := _, pos := _, after := _, guard := _ }) (v := ?_) rfl (by kernel_rfl) (by kernel_rfl) (by kernel_rfl) (fun _ _ _ h => h) (Or.inl ⟨by rfl, ?_⟩) (by assumption) ?_
        rotate_left
        · (intro W hSw; (try dsimp only at hSw); go_simp; try (with_reducible rfl))
        try simp only [Act.put, List.setIfInBounds_toArray, List.set_cons_zero, List.set_cons_succ]
        refine wpAnyH_take (i := 28) (oi := { dst := some 119, op := _, type := _, pos := _, after := _, guard := _ }) (v := ?_) rfl (by kernel_rfl) (by kernel_rfl) (by kernel_rfl) (fun _ _ _ h => h) (Or.inl ⟨by rfl, ?_⟩) (by assumption) ?_
        rotate_left
        · (intro W hSw; (try dsimp only at hSw); go_simp; try (with_reducible rfl))
        try simp only [Act.put, List.setIfInBounds_toArray, List.set_cons_zero, List.set_cons_succ]
        refine wpAnyH_ready (rs := [29]) (by kernel_rfl) (by simp) ?_
        refine AllReadyH.cons (o := { dst := some 120, op := _, type := _, pos := _, after := _, guard := _ }) rfl (fun K hK => ?_) AllReadyH.nil
        go_simp
        refine (works_any _).mono ?_
        rintro e12 w12 ⟨rfl, hg⟩
        have hcur : Below wr.heap.size wr w12 := hcur.trans (hg.below.mono hcur.size)
        have hkeep := HKS.out w12 hcur
        clear hg hHeld
        go_wp2_with fail
        refine hK.out _ _ ?_ (fun hHeld => ?_)
        · exact hkeep
        clear hK K
        try simp only [Act.put, List.setIfInBounds_toArray, List.set_cons_zero, List.set_cons_succ]
        refine wpAnyH_take (i := 30) (oi := { dst := some 121, op := _, type := _, pos := _, after := _, guard := _ }) (v := ?_) rfl (by kernel_rfl) (by kernel_rfl) (by kernel_rfl) (fun _ _ _ h => h) (Or.inl ⟨by rfl, ?_⟩) (by assumption) ?_
        rotate_left
        · (intro W hSw; (try dsimp only at hSw); go_simp; try (with_reducible rfl))
        try simp only [Act.put, List.setIfInBounds_toArray, List.set_cons_zero, List.set_cons_succ]
        refine wpAnyH_take (i := 31) (oi := { dst := some 4, op := _, type := _, pos := _, after := _, guard := _ }) (v := ?_) rfl (by kernel_rfl) (by kernel_rfl) (by kernel_rfl) (fun _ _ _ h => h) (Or.inl ⟨by rfl, ?_⟩) (by assumption) ?_
        rotate_left
        · (intro W hSw; (try dsimp only at hSw); go_simp; try (with_reducible rfl))
        try simp only [Act.put, List.setIfInBounds_toArray, List.set_cons_zero, List.set_cons_succ]
        refine wpAnyH_done (by kernel_rfl) ?_ _
        go_wp2
        go_ret
        exact ⟨rfl, HX.out.trans (hcur.mono HX.out.size)⟩
end Go.Proofs.Ytiinhfkpfklgjab.Pcv
