/-
  ChLe ChMs Kit3, joined by mrg.py.
-/
import Derived.Test.YtcpmcfagibmboaaChLd
import Derived.Test.YtcpmcfagibmboaaRqD
import Derived.Test.YtcpmcfagibmboaaRqE
import Derived.Test.YtcpmcfagibmboaaRgG
import Derived.Test.YtcpmcfagibmboaaRqC

namespace Go.Proofs.Ytcpmcfagibmboaa.Le
open Go.RowKit Pl Pw Pr Pf Pv Cp Ca Cb Cc Cd Ce Cf Gf Gk Ct Cu La Rd Ch Lb Ld Cx Hp
open Cr hiding some_of
open Kt hiding mkH
open Kv
set_option linter.unusedVariables false
set_option linter.unusedSimpArgs false
set_option maxRecDepth 20000

set_option maxHeartbeats 8000000 in
theorem rload_any (w : World) (bs : List UInt8) (hl : bs.length ≤ 1000) :
    Calls Try.prog 14 #[.string (S bs)] w fun e w' => LdP w bs e w' := by
  have hmx : Try.prog.follows .mixedOrders = true := by kernel_rfl
  obtain ⟨V1, hV1⟩ : ∃ V1, V1 = w.alloc (.cells #[.int .i64 0, .slice none 0 0] 24) := ⟨_, rfl⟩
  have rb1 : Bx V1 w.heap.size #[.int .i64 0, .slice none 0 0] 24 := by rw [hV1]; exact Bx.new w _ _
  have hbv : Below w.heap.size w V1 := by rw [hV1]; exact (Below.refl _ w).alloc (Nat.le_refl _) _
  have hz1 : V1.heap.size = w.heap.size + 1 := by rw [hV1]; simp
  obtain ⟨W1, c1, hcv0, hrow, hb1, hs1, hc1, hc2⟩ := Hx.conv_big V1 (S bs) (by show bs.length ≤ _; omega)
  have hcv : (convert 9 79 (.string (S bs))).run Try.prog V1 = .ok (.slice (some ⟨w.heap.size + 1, 0, none⟩) bs.length c1) W1 := by rw [← hz1]; exact hcv0
  have hrow1 : Row W1 (some ⟨w.heap.size + 1, 0, none⟩) bs := by rw [← hz1]; exact hrow
  have HR1 := mkH hrow1
  have HB1 : Hid (Below w.heap.size w W1) := mkH (hbv.trans (hb1.mono (by omega)))
  have HX1 : Hid (Bx W1 w.heap.size #[.int .i64 0, .slice none 0 0] 24) := mkH (rb1.bel hb1)
  have hw1 : w.heap.size + 2 ≤ W1.heap.size := by omega
  have hc1' : bs.length ≤ c1 := hc1
  have HV1 := mkH hV1
  clear hcv0 hrow hrow1 hb1 hc1 rb1 hbv hV1 hz1 hs1
  go_enter Try.func14, Try.ntmps14
  go_wp2_with fail
  rw [show w.alloc (.cells #[.int .i64 0, .slice none 0 0] 24) = V1 from HV1.out.symm]
  rw [hcv]
  go_simp
  go_wp2_with fail
  clear hcv HV1
  go_loopw [5, 6] (fun v at' wr => ∃ (L : List Int) (a : Nat), at' = .int .i64 (a : Int) ∧ a ≤ bs.length ∧ L.length ≤ a ∧ Hid (bs = txt L ++ bs.drop a) ∧ Hid (∀ x ∈ L, okN x) ∧ Hid (wr.ownsRow (w.heap.size + 2) 3 1 v L.length (J L)) ∧ Hid (Below (w.heap.size + 2) W1 wr))
    (fun _ at' _ => bs.length - (intOf at').toNat)
  case atStart => exact ⟨[], 0, rfl, Nat.zero_le _, Nat.le_refl _, mkH rfl, mkH (by simp), mkH ⟨by simp [J], .inl ⟨rfl, rfl⟩⟩, mkH (Below.refl _ _)⟩
  case round =>
    obtain ⟨L, a, rfl, hal, hLa, HE, HK, HO, HB⟩ := hrel
    have HXr := mkH (HX1.out.below HB.out (by omega))
    obtain ⟨x0, x1, x2, x3⟩ := two_load (P := Try.prog) HXr.out
    have hszr := HB.out.size
    by_cases h0 : a < bs.length
    · have hz1 : (a : Int) < (bs.length : Int) := by omega
      have hz2 : (a : Int) ≤ (bs.length : Int) := by omega
      have hz3 : (0 : Int) ≤ (a : Int) := by omega
      obtain ⟨n, sz, er, hrd⟩ : ∃ n sz er, readNum (bs.drop a) = (n, sz, er) := ⟨_, _, _, rfl⟩
      have hlen : (bs.drop a).length = bs.length - a := by simp
      have HC := mkH (rreadNum_any wr (some ⟨w.heap.size + 1, 0 + a, none⟩) (c1 - a) (bs.drop a) (row_drop (row_bel HR1.out HB.out (by omega)) a) (by omega))
      rw [hlen, Nat.zero_add] at HC
      have HRD := mkH hrd
      have HLN := mkH hlen
      clear hrd hlen
      go_wp2_with fail
      refine HC.out.mono ?_
      rintro e w2 ⟨hrdn, rfl⟩
      clear HC
      rcases hrdn with ⟨he, rfl⟩ | ⟨he, er2, her, rfl⟩
      · rw [HRD.out] at he
        obtain rfl : er = 0 := he
        obtain ⟨k1, k2, k3, k4, k5⟩ := nums_step HK.out HE.out HRD.out
        rw [HLN.out] at k2
        rw [List.drop_drop] at k4
        rw [ans, HRD.out]
        have HE2 := mkH k4
        have HK2 := mkH k5
        clear k4 k5
        have hal2 : Below w2.heap.size w2 (w2.alloc (.cells #[.int .i64 (n : Int)] 3)) := (Below.refl _ w2).alloc (Nat.le_refl _) _
        have HBA : Hid (Below (w.heap.size + 2) W1 (w2.alloc (.cells #[.int .i64 (n : Int)] 3))) := mkH (HB.out.trans (hal2.mono (by omega)))
        have HOW := mkH (own_below HO.out hal2)
        have HSR := mkH (RowI.src (RowI.own (own1 w2 (n : Int))).2 1)
        obtain ⟨ln, hln⟩ : ∃ ln, ln = L.length := ⟨_, rfl⟩
        have HLL := mkH hln
        rw [← hln] at HOW hLa
        clear hln hal2 HO
        simp only
        go_wp2_with (at_builtin; refine (wpList_append_own_src _ rfl (.tmp 31) (.tmp 33) 66 66 rfl (w.heap.size + 2) 3 (.int .i64 0) 1 8 Try.underlying66 info3 rfl (by decide) _ ln (J L) rfl HOW.out _ 1 (J [(n : Int)]) rfl HSR.out ?h63 ?hby ?hbs ?_))
        case h63 => unfold maxLen; omega
        case hby => omega
        case hbs => simp; omega
        intro v2 w5 hown5 hgrow5
        have HB3 := mkH (below_own HOW.out hgrow5 HBA.out (by simp; omega))
        have HO3 : Hid (w5.ownsRow (w.heap.size + 2) 3 1 v2 (L ++ [(n : Int)]).length (J (L ++ [(n : Int)]))) := mkH (by
          have := hown5
          rwa [← J_append, HLL.out, show L.length + 1 = (L ++ [(n : Int)]).length by simp] at this)
        clear hown5 hgrow5 HOW HSR HBA HB x0 x1 x2 x3 HXr
        go_wp2
        go_roundw
        case rel => exact ⟨L ++ [(n : Int)], a + sz, by go_num, by omega, by rw [List.length_append, List.length_singleton, ← HLL.out]; omega, HE2, HK2, HO3, HB3⟩
        case measure => simp [intOf]; omega
      · have HBAD : Hid (¬ ∃ e ps, Ld.Good bs e ps) := mkH (bad_none hl (nums_bad HK.out HE.out (by intro h; have := congrArg List.length h; rw [HLN.out] at this; simp at this; omega) he))
        have hne : ((er2 : Int) != 0) = true := by simp; omega
        clear he HRD
        have k := HXr.out.set 0 (.int .i64 0)
        have k2 := k.set 1 (.slice none 0 0)
        obtain ⟨y0, y1, -, -⟩ := two_load (P := Try.prog) k2
        have HBF := mkH (((HB1.out.trans (HB.out.mono (by omega))).setCell (p := ⟨w.heap.size, 0, none⟩) (by simp) (.int .i64 0)).setCell (p := ⟨w.heap.size, 1, none⟩) (by simp) (.slice none 0 0))
        clear k k2
        go_wp2
        exact bodyPost_ret (v := .tuple #[.agg #[.int .i64 0, .slice none 0 0], .int .i64 5]) (res_ct rfl _ _ _ (x := .agg #[.int .i64 0, .slice none 0 0]) (y := .int .i64 5) (b := ⟨w.heap.size, 0, none⟩) (by rfl) (by rfl) (by simp [loadVar, go_sem, y0, y1])) rfl ⟨HBF.out, .inr ⟨HBAD.out, rfl⟩⟩
    · obtain rfl : a = bs.length := by omega
      have HN : Hid (Nums bs L) := mkH ⟨by have := HE.out; rw [List.drop_length, List.append_nil] at this; exact this.symm, HK.out⟩
      obtain ⟨aN, cN, rfl⟩ := own_form HO.out
      clear HR1 HE HK
      obtain ⟨wA, hwA⟩ : ∃ wA, wA = wr := ⟨_, rfl⟩
      subst hwA
      by_cases hs2 : L.length < 2
      · have HBAD : Hid (¬ ∃ e ps, Ld.Good bs e ps) := mkH (bad_len hl HN.out (.inl hs2))
        have g1 : (L.length : Int) < 2 := by omega
        clear hs2
        have k := HXr.out.set 0 (.int .i64 0)
        have k2 := k.set 1 (.slice none 0 0)
        obtain ⟨y0, y1, -, -⟩ := two_load (P := Try.prog) k2
        have HBF := mkH (((HB1.out.trans (HB.out.mono (by omega))).setCell (p := ⟨w.heap.size, 0, none⟩) (by simp) (.int .i64 0)).setCell (p := ⟨w.heap.size, 1, none⟩) (by simp) (.slice none 0 0))
        clear k k2
        go_wp2
        exact bodyPost_ret (v := .tuple #[.agg #[.int .i64 0, .slice none 0 0], .int .i64 5]) (res_ct rfl _ _ _ (x := .agg #[.int .i64 0, .slice none 0 0]) (y := .int .i64 5) (b := ⟨w.heap.size, 0, none⟩) (by rfl) (by rfl) (by simp [loadVar, go_sem, y0, y1])) rfl ⟨HBF.out, .inr ⟨HBAD.out, rfl⟩⟩
      · by_cases hs3 : (L.length - 2) % 3 = 0
        · obtain ⟨e0, kk, R, hLR⟩ : ∃ e0 kk R, L = e0 :: kk :: R := by
            match L, hs2 with
            | [], h => simp at h
            | [_], h => simp at h
            | x :: y :: r, _ => exact ⟨x, y, r, rfl⟩
          have hRL : L.length ≤ R.length + 2 := by rw [hLR]; simp
          have hRM : R.length + 2 ≤ L.length := by rw [hLR]; simp
          have g5 : ((L.length : Int) - 2) % 3 = 0 := by omega
          have g1 : ¬ (L.length : Int) < 2 := by omega
          have g2 : ((L.length : Int) - 2).tmod 3 = 0 := by
            rw [Int.tmod_eq_emod_of_nonneg (by omega)]; omega
          have g3 : IntKind.i64.wrap ((L.length : Int) - 2) = (L.length : Int) - 2 := IntWalk.i64_in _ (by omega)
          have hri := (RowI.own HO.out).2
          obtain ⟨b, off, rfl, hcl⟩ := hri (by omega)
          have hb0 := hcl 0 (by omega)
          have e00 : L.getD 0 0 = e0 := by rw [hLR]; rfl
          rw [e00] at hb0
          have hblt : b < wA.heap.size := World.block_lt_of_cell? wA _ hb0
          obtain ⟨N, hN⟩ : ∃ N, N = L.length := ⟨_, rfl⟩
          have HNL := mkH hN
          have HLR := mkH hLR
          have HCL := mkH hcl
          rw [← hN] at hRL hRM g1 g2 g3 g5 hLa hs2 ⊢
          clear hcl hri hLR hN e00 hs3
          have gi : (0 : Int) < (N : Int) := by omega
          have hB11 : w.heap.size + 2 ≤ wA.heap.size := by omega
          simp only [Nat.add_zero] at hb0
          go_wp2_with fail
          clear hb0 x0 x1 x2 x3
          obtain ⟨B11, hB⟩ : ∃ B11, B11 = wA.heap.size := ⟨_, rfl⟩
          rw [← hB] at hblt hB11 ⊢
          have HBQ := mkH hB
          clear hB
          go_loopw [11] (fun i wr => ∃ (k j : Nat) (aL : Option Addr) (cL : Nat), j = 2 + 3 * k ∧ j ≤ N ∧ i = .int .i64 (j : Int) ∧ Hid (Bx wr B11 #[.int .i64 e0, .slice aL k cL] 24) ∧ Hid (wr.ownsRow (B11 + 1) 63 3 (.slice aL k cL) k (Fp (pcs (R.take (3 * k))))) ∧ Hid (Below B11 wA wr)) (fun i _ => N - (intOf i).toNat)
          case atStart => exact ⟨0, 2, none, 0, rfl, by omega, rfl, mkH (by rw [HBQ.out]; exact Bx.new _ _ _), mkH (World.ownsRow_nil _ _ _ _), mkH (by rw [HBQ.out]; exact (Below.refl _ wA).alloc (Nat.le_refl _) _)⟩
          case round =>
            obtain ⟨k, j, aL, cL, hj, hjN, rfl, HXC, HLC, HBC⟩ := hrel
            have hlt := HXC.out.lt
            by_cases hjl : j < N
            · have hj3 : j + 2 < N := by omega
              obtain ⟨x0, hq0⟩ : ∃ x0, R[3 * k]? = some x0 := ⟨_, List.getElem?_eq_getElem (by omega)⟩
              obtain ⟨x1, hq1⟩ : ∃ x1, R[3 * k + 1]? = some x1 := ⟨_, List.getElem?_eq_getElem (by omega)⟩
              obtain ⟨x9, hq2⟩ : ∃ x9, R[3 * k + 2]? = some x9 := ⟨_, List.getElem?_eq_getElem (by omega)⟩
              obtain ⟨P0, hP0⟩ : ∃ P0, P0 = pcs (R.take (3 * k)) := ⟨_, rfl⟩
              have HP : Hid (pcs (R.take (3 * (k + 1))) = P0 ++ [(x0, x1, x9)]) := mkH (by rw [hP0]; exact pcs_snoc k R x0 x1 x9 hq0 hq1 hq2)
              rw [← hP0] at HLC
              have d0 : L.getD j 0 = x0 := by rw [HLR.out, hj, show 2 + 3 * k = 3 * k + 1 + 1 by omega]; simp [List.getD, hq0]
              have d1 : L.getD (j + 1) 0 = x1 := by rw [HLR.out, hj, show 2 + 3 * k + 1 = 3 * k + 1 + 1 + 1 by omega]; simp [List.getD, hq1]
              have d2 : L.getD (j + 2) 0 = x9 := by rw [HLR.out, hj, show 2 + 3 * k + 2 = 3 * k + 2 + 1 + 1 by omega]; simp [List.getD, hq2]
              have HC2 : Hid (∀ W, Below (B11 + 1) wr W → (W.cell? ⟨B11, 1, none⟩ = some (.slice aL k cL) ∧ W.cell? ⟨b, off + j, none⟩ = some (.int .i64 x0) ∧ W.cell? ⟨b, off + (j + 1), none⟩ = some (.int .i64 x1) ∧ W.cell? ⟨b, off + (j + 2), none⟩ = some (.int .i64 x9)) ∧ W.frozen? ⟨B11, 1, none⟩ = false) := mkH (fun W hb => by
                have u := HXC.out.below hb (Nat.lt_succ_self _)
                have hbl : Below B11 wA W := HBC.out.trans (hb.mono (Nat.le_succ _))
                have cc := fun i (hi : i < L.length) => (hbl.cell (p := ⟨b, off + i, none⟩) hblt).trans (HCL.out i hi)
                have v0 := cc j (by have := HNL.out; omega)
                have v1 := cc (j + 1) (by have := HNL.out; omega)
                have v2 := cc (j + 2) (by have := HNL.out; omega)
                rw [d0] at v0
                rw [d1] at v1
                rw [d2] at v2
                exact ⟨⟨u.cell 1 _ rfl, v0, v1, v2⟩, u.frozen 1⟩)
              have HCC : Hid (∀ W, Below wr.heap.size wr W → W.cell? ⟨B11, 1, none⟩ = some (.slice aL k cL) ∧ W.cell? ⟨b, off + j, none⟩ = some (.int .i64 x0) ∧ W.cell? ⟨b, off + (j + 1), none⟩ = some (.int .i64 x1) ∧ W.cell? ⟨b, off + (j + 2), none⟩ = some (.int .i64 x9)) := mkH (fun W hb => (HC2.out W (hb.mono (by omega))).1)
              obtain ⟨p0, p1, p2, p3⟩ := HCC.out wr (Below.refl _ _)
              have i0 : (j : Int) < (N : Int) := by omega
              have i1 : (j : Int) + 1 < (N : Int) := by omega
              have i2 : (j : Int) + 2 < (N : Int) := by omega
              have i3 : (0 : Int) ≤ (j : Int) := by omega
              have i4 : (0 : Int) ≤ (j : Int) + 1 := by omega
              have i5 : (0 : Int) ≤ (j : Int) + 2 := by omega
              have i6 : IntKind.i64.wrap ((j : Int) + 1) = (j : Int) + 1 := IntWalk.i64_in _ (by omega)
              have i7 : IntKind.i64.wrap ((j : Int) + 2) = (j : Int) + 2 := IntWalk.i64_in _ (by omega)
              have i8 : ((j : Int) + 2).toNat = j + 2 := by omega
              have hk3 : k ≤ 1000 := by omega
              have HJ := mkH hj
              clear hq0 hq1 hq2 hP0 d0 d1 d2 hj
              go_wp2_with fail
              refine Rg.region_G hmx 21 (fun W => W.cell? ⟨B11, 1, none⟩ = some (.slice aL k cL) ∧ W.cell? ⟨b, off + j, none⟩ = some (.int .i64 x0) ∧ W.cell? ⟨b, off + (j + 1), none⟩ = some (.int .i64 x1) ∧ W.cell? ⟨b, off + (j + 2), none⟩ = some (.int .i64 x9)) ⟨p0, p1, p2, p3⟩ (fun hHeld => ?_)
              have HLV := mkH (own_below HLC.out (Below.refl _ _).drew)
              have HVV : Hid (Below wr.heap.size wr wr.drew) := mkH (Below.refl _ _).drew
              generalize wr.drew = V0 at *
              refine Rg.anyG_pure (i := 0) (oi := { dst := some 59, op := _, type := _, pos := _, after := _, guard := _ }) (v := ?_) rfl (by kernel_rfl) (by kernel_rfl) (by kernel_rfl) (by rfl) (fun _ _ _ h => h) (Or.inl ⟨by rfl, ?_⟩) (fun _ => by assumption) ?_
              rotate_left
              · (intro W hSw; (try dsimp only at hSw); go_simp; try (with_reducible rfl))
              try simp only [Act.put, List.setIfInBounds_toArray, List.set_cons_zero, List.set_cons_succ]
              refine Rg.anyG_take (i := 1) (oi := { dst := some 60, op := _, type := _, pos := _, after := _, guard := _ }) (v := ?_) rfl (by kernel_rfl) (by kernel_rfl) (by kernel_rfl) [21] (by kernel_rfl) (fun _ _ _ h => h) (Or.inl ⟨by rfl, ?_⟩) (by assumption) ?_
              rotate_left
              · (intro W hSw; (try dsimp only at hSw); go_simp; try (with_reducible rfl))
              try simp only [Act.put, List.setIfInBounds_toArray, List.set_cons_zero, List.set_cons_succ]
              refine Rg.anyG_pure (i := 2) (oi := { dst := some 61, op := _, type := _, pos := _, after := _, guard := _ }) (v := ?_) rfl (by kernel_rfl) (by kernel_rfl) (by kernel_rfl) (by rfl) (fun _ _ _ h => h) (Or.inl ⟨by rfl, ?_⟩) (fun _ => by assumption) ?_
              rotate_left
              · (intro W hSw; (try dsimp only at hSw); go_simp; try (with_reducible rfl))
              try simp only [Act.put, List.setIfInBounds_toArray, List.set_cons_zero, List.set_cons_succ]
              refine Rg.anyG_pure (i := 3) (oi := { dst := some 62, op := _, type := _, pos := _, after := _, guard := _ }) (v := ?_) rfl (by kernel_rfl) (by kernel_rfl) (by kernel_rfl) (by rfl) (fun _ _ _ h => h) (Or.inl ⟨by rfl, ?_⟩) (fun _ => by assumption) ?_
              rotate_left
              · (intro W hSw; (try dsimp only at hSw); go_simp; try (with_reducible rfl))
              try simp only [Act.put, List.setIfInBounds_toArray, List.set_cons_zero, List.set_cons_succ]
              refine Rg.anyG_pure (i := 4) (oi := { dst := some 63, op := _, type := _, pos := _, after := _, guard := _ }) (v := ?_) rfl (by kernel_rfl) (by kernel_rfl) (by kernel_rfl) (by rfl) (fun _ _ _ h => h) (Or.inl ⟨by rfl, ?_⟩) (fun _ => by assumption) ?_
              rotate_left
              · (intro W hSw; (try dsimp only at hSw); go_simp; try (with_reducible rfl))
              try simp only [Act.put, List.setIfInBounds_toArray, List.set_cons_zero, List.set_cons_succ]
              refine Rg.anyG_take (i := 5) (oi := { dst := some 64, op := _, type := _, pos := _, after := _, guard := _ }) (v := ?_) rfl (by kernel_rfl) (by kernel_rfl) (by kernel_rfl) [21] (by kernel_rfl) (fun _ _ _ h => h) (Or.inl ⟨by rfl, ?_⟩) (by assumption) ?_
              rotate_left
              · (intro W hSw; (try dsimp only at hSw); go_simp; try (with_reducible rfl))
              try simp only [Act.put, List.setIfInBounds_toArray, List.set_cons_zero, List.set_cons_succ]
              refine Rg.anyG_pure (i := 6) (oi := { dst := some 65, op := _, type := _, pos := _, after := _, guard := _ }) (v := ?_) rfl (by kernel_rfl) (by kernel_rfl) (by kernel_rfl) (by rfl) (fun _ _ _ h => h) (Or.inl ⟨by rfl, ?_⟩) (fun _ => by assumption) ?_
              rotate_left
              · (intro W hSw; (try dsimp only at hSw); go_simp; try (with_reducible rfl))
              try simp only [Act.put, List.setIfInBounds_toArray, List.set_cons_zero, List.set_cons_succ]
              refine Rg.anyG_pure (i := 7) (oi := { dst := some 66, op := _, type := _, pos := _, after := _, guard := _ }) (v := ?_) rfl (by kernel_rfl) (by kernel_rfl) (by kernel_rfl) (by rfl) (fun _ _ _ h => h) (Or.inl ⟨by rfl, ?_⟩) (fun _ => by assumption) ?_
              rotate_left
              · (intro W hSw; (try dsimp only at hSw); go_simp; try (with_reducible rfl))
              try simp only [Act.put, List.setIfInBounds_toArray, List.set_cons_zero, List.set_cons_succ]
              refine Rg.anyG_pure (i := 8) (oi := { dst := some 67, op := _, type := _, pos := _, after := _, guard := _ }) (v := .int .i64 ((j : Int) + 1)) rfl (by kernel_rfl) (by kernel_rfl) (by kernel_rfl) (by rfl) (fun _ _ _ h => h) (Or.inl ⟨by rfl, ?_⟩) (fun _ => by assumption) ?_
              · (intro W hSw; (try dsimp only at hSw); go_simp; try (with_reducible rfl))
              try simp only [Act.put, List.setIfInBounds_toArray, List.set_cons_zero, List.set_cons_succ]
              refine Rg.anyG_pure (i := 9) (oi := { dst := some 68, op := _, type := _, pos := _, after := _, guard := _ }) (v := ?_) rfl (by kernel_rfl) (by kernel_rfl) (by kernel_rfl) (by rfl) (fun _ _ _ h => h) (Or.inl ⟨by rfl, ?_⟩) (fun _ => by assumption) ?_
              rotate_left
              · (intro W hSw; (try dsimp only at hSw); go_simp; try (with_reducible rfl))
              try simp only [Act.put, List.setIfInBounds_toArray, List.set_cons_zero, List.set_cons_succ]
              refine Rg.anyG_take (i := 10) (oi := { dst := some 69, op := _, type := _, pos := _, after := _, guard := _ }) (v := ?_) rfl (by kernel_rfl) (by kernel_rfl) (by kernel_rfl) [21] (by kernel_rfl) (fun _ _ _ h => h) (Or.inl ⟨by rfl, ?_⟩) (by assumption) ?_
              rotate_left
              · (intro W hSw; (try dsimp only at hSw); go_simp; try (with_reducible rfl))
              try simp only [Act.put, List.setIfInBounds_toArray, List.set_cons_zero, List.set_cons_succ]
              refine Rg.anyG_pure (i := 11) (oi := { dst := some 70, op := _, type := _, pos := _, after := _, guard := _ }) (v := .agg #[.int .i64 x0, .int .i64 x1]) rfl (by kernel_rfl) (by kernel_rfl) (by kernel_rfl) (by rfl) (fun _ _ _ h => h) (Or.inl ⟨by rfl, ?_⟩) (fun _ => by assumption) ?_
              · (intro W hSw; (try dsimp only at hSw); go_simp; try (with_reducible rfl))
              try simp only [Act.put, List.setIfInBounds_toArray, List.set_cons_zero, List.set_cons_succ]
              refine Rg.anyG_pure (i := 12) (oi := { dst := some 71, op := _, type := _, pos := _, after := _, guard := _ }) (v := ?_) rfl (by kernel_rfl) (by kernel_rfl) (by kernel_rfl) (by rfl) (fun _ _ _ h => h) (Or.inl ⟨by rfl, ?_⟩) (fun _ => by assumption) ?_
              rotate_left
              · (intro W hSw; (try dsimp only at hSw); go_simp; try (with_reducible rfl))
              try simp only [Act.put, List.setIfInBounds_toArray, List.set_cons_zero, List.set_cons_succ]
              refine Rg.anyG_pure (i := 13) (oi := { dst := some 72, op := _, type := _, pos := _, after := _, guard := _ }) (v := ?_) rfl (by kernel_rfl) (by kernel_rfl) (by kernel_rfl) (by rfl) (fun _ _ _ h => h) (Or.inl ⟨by rfl, ?_⟩) (fun _ => by assumption) ?_
              rotate_left
              · (intro W hSw; (try dsimp only at hSw); go_simp; try (with_reducible rfl))
              try simp only [Act.put, List.setIfInBounds_toArray, List.set_cons_zero, List.set_cons_succ]
              refine Rg.anyG_pure (i := 14) (oi := { dst := some 73, op := _, type := _, pos := _, after := _, guard := _ }) (v := .int .i64 ((j : Int) + 2)) rfl (by kernel_rfl) (by kernel_rfl) (by kernel_rfl) (by rfl) (fun _ _ _ h => h) (Or.inl ⟨by rfl, ?_⟩) (fun _ => by assumption) ?_
              · (intro W hSw; (try dsimp only at hSw); go_simp; try (with_reducible rfl))
              try simp only [Act.put, List.setIfInBounds_toArray, List.set_cons_zero, List.set_cons_succ]
              refine Rg.anyG_pure (i := 15) (oi := { dst := some 74, op := _, type := _, pos := _, after := _, guard := _ }) (v := ?_) rfl (by kernel_rfl) (by kernel_rfl) (by kernel_rfl) (by rfl) (fun _ _ _ h => h) (Or.inl ⟨by rfl, ?_⟩) (fun _ => by assumption) ?_
              rotate_left
              · (intro W hSw; (try dsimp only at hSw); go_simp; try (with_reducible rfl))
              try simp only [Act.put, List.setIfInBounds_toArray, List.set_cons_zero, List.set_cons_succ]
              refine Rg.anyG_take (i := 16) (oi := { dst := some 75, op := _, type := _, pos := _, after := _, guard := _ }) (v := ?_) rfl (by kernel_rfl) (by kernel_rfl) (by kernel_rfl) [21] (by kernel_rfl) (fun _ _ _ h => h) (Or.inl ⟨by rfl, ?_⟩) (by assumption) ?_
              rotate_left
              · (intro W hSw; (try dsimp only at hSw); go_simp; try (with_reducible rfl))
              try simp only [Act.put, List.setIfInBounds_toArray, List.set_cons_zero, List.set_cons_succ]
              refine Rg.anyG_pure (i := 17) (oi := { dst := some 76, op := _, type := _, pos := _, after := _, guard := _ }) (v := .agg #[.int .i64 x0, .int .i64 x1, .int .i64 x9]) rfl (by kernel_rfl) (by kernel_rfl) (by kernel_rfl) (by rfl) (fun _ _ _ h => h) (Or.inl ⟨by rfl, ?_⟩) (fun _ => by assumption) ?_
              · (intro W hSw; (try dsimp only at hSw); go_simp; try (with_reducible rfl))
              try simp only [Act.put, List.setIfInBounds_toArray, List.set_cons_zero, List.set_cons_succ]
              refine Rg.anyG_ready (rs := [18]) (by kernel_rfl) (by simp) ?_
              refine (Rg.AllG.cons (o := { dst := some 77, op := _, type := _, pos := _, after := _, guard := _ }) rfl (fun K hK => ?_) Rg.AllG.nil)
              have hal : Below V0.heap.size V0 (V0.alloc (.cells #[.int .i64 x0, .int .i64 x1, .int .i64 x9] 63)) := (Below.refl _ _).alloc (Nat.le_refl _) _
              have HLA := mkH (own_below HLV.out hal)
              have HVA := mkH (HVV.out.trans (hal.mono HVV.out.size))
              have HSR := mkH (newP V0 (x0, x1, x9) 63)
              obtain ⟨q0, q1, q2, q3⟩ := HCC.out (V0.alloc (.cells #[.int .i64 x0, .int .i64 x1, .int .i64 x9] 63)) HVA.out
              go_simp
              refine hK.out _ _ ?_ (fun hHeld => ?_)
              · exact ⟨q0, q1, q2, q3⟩
              clear hK K
              try simp only [Act.put, List.setIfInBounds_toArray, List.set_cons_zero, List.set_cons_succ]
              clear hal q0 q1 q2 q3
              refine Rg.anyG_ready (rs := [19]) (by kernel_rfl) (by simp) ?_
              refine (Rg.AllG.cons (o := { dst := some 78, op := _, type := _, pos := _, after := _, guard := _ }) rfl (fun K hK => ?_) Rg.AllG.nil)
              refine step_append_own_src (by rfl) (.tmp 60) (.tmp 77) 22 22 (by rfl) (B11 + 1) 63 (.agg #[.int .i64 0, .int .i64 0, .int .i64 0]) 3 24 Try.underlying22 infoP (by rfl) (by decide) (.slice aL k cL) k (Fp P0) (by rfl) (by exact HLA.out) (.slice (some ⟨V0.heap.size, 0, none⟩) 1 1) 1 (Fp [(x0, x1, x9)]) (by rfl) (by exact HSR.out) (by unfold maxLen; omega) (by omega) (by have := HVA.out.size; omega) ?_
              intro v2 w8 hown2 hgrow2
              have hform := own_form hown2
              obtain ⟨a8, k8, rfl⟩ := hform
              have hb8 : Below (B11 + 1) wr w8 := (HVA.out.mono (by omega)).grown hgrow2 (by have := HVA.out.size; omega) (fun j hj => (HLA.out.lt j hj).1)
              obtain ⟨⟨p0', p1', p2', p3'⟩, z0⟩ := HC2.out w8 hb8
              have HO8 := mkH hown2
              have HB8 := mkH hb8
              clear hown2 hgrow2 hb8
              refine hK.out _ _ ?_ (fun hHeld => ?_)
              · exact ⟨p0', p1', p2', p3'⟩
              clear hK K
              try simp only [Act.put, List.setIfInBounds_toArray, List.set_cons_zero, List.set_cons_succ]
              refine Rg.anyG_pure (i := 20) (oi := { dst := some 79, op := _, type := _, pos := _, after := _, guard := _ }) (v := ?_) rfl (by kernel_rfl) (by kernel_rfl) (by kernel_rfl) (by rfl) (fun _ _ _ h => h) (Or.inl ⟨by rfl, ?_⟩) (fun _ => by assumption) ?_
              rotate_left
              · (intro W hSw; (try dsimp only at hSw); go_simp; try (with_reducible rfl))
              try simp only [Act.put, List.setIfInBounds_toArray, List.set_cons_zero, List.set_cons_succ]
              refine Rg.anyG_ready (rs := [21]) (by kernel_rfl) (by simp) ?_
              refine Rg.AllG.last (o := { dst := none, op := _, type := _, pos := _, after := _, guard := _ }) rfl (by kernel_rfl) (fun K hK => ?_)
              go_simp
              refine hK.out _ _ ?_
              clear hK K
              try simp only [Act.put, List.setIfInBounds_toArray, List.set_cons_zero, List.set_cons_succ]
              refine Rg.anyG_done (by kernel_rfl) ?_ _
              have hxs := (HXC.out.below HB8.out (Nat.lt_succ_self _))
              have hst := hxs.set 1 (.slice a8 (k + 1) k8)
              have hos := own_fr HO8.out (hxs.frset 1 (.slice a8 (k + 1) k8)) (fun j hj hq => own_ne HO8.out hxs hj (by decide) hq)
              have hbs : Below B11 wA (w8.setCell ⟨B11, 1, none⟩ (.slice a8 (k + 1) k8)) := (HBC.out.trans (HB8.out.mono (by omega))).setCell (Nat.le_refl _) _
              have hos2 : (w8.setCell ⟨B11, 1, none⟩ (.slice a8 (k + 1) k8)).ownsRow (B11 + 1) 63 3 (.slice a8 (k + 1) k8) (k + 1) (Fp (pcs (R.take (3 * (k + 1))))) := by
                rw [HP.out]
                show World.ownsRow _ _ _ _ _ _ (Fl pC (P0 ++ [(x0, x1, x9)]))
                rw [Fl_append]; exact hos
              have HS1 := mkH hst
              have HS2 := mkH hos2
              have HS3 := mkH hbs
              clear hxs hst hos hbs hos2 p0' p1' p2' p3' z0 HO8 HB8
              go_wp2
              go_roundw
              case rel => exact ⟨k + 1, j + 3, a8, k8, by have := HJ.out; omega, by omega, by go_num, HS1, HS2, HS3⟩
              case measure => simp [intOf]; omega
            · have hjN2 : N ≤ j := by omega
              have h3k : 3 * k = R.length := by omega
              obtain ⟨P, hP⟩ : ∃ P, P = pcs R := ⟨_, rfl⟩
              have hPl : P.length = k := by rw [hP, pcs_len]; omega
              rw [h3k, List.take_length, ← hP] at HLC
              have HPE := mkH hP
              obtain ⟨j', hj'⟩ : ∃ j', j' = j := ⟨_, rfl⟩
              have hJN : Hid (j = N) := mkH (by omega)
              obtain rfl : k = P.length := hPl.symm
              have HNM : Hid (Nums bs (e0 :: kk :: R)) := mkH (by rw [← HLR.out]; exact HN.out)
              have HON : Hid (OwP wr w.heap.size aL cL P) := mkH ⟨own_mono HLC.out (by omega)⟩
              have HDM := mkH (rdump_any wr e0 aL cL P HON.out.rd (by omega))
              have HBF0 : Hid (Below (w.heap.size + 2) W1 wr) := mkH (HB.out.trans (HBC.out.mono (by omega)))
              have HXr2 := mkH (HX1.out.below HBF0.out (by omega))
              obtain ⟨c0, c1', -, -⟩ := two_load (P := Try.prog) HXC.out
              have j0 : ¬ (j : Int) < (N : Int) := by omega
              have hPb : P.length ≤ 400 := by omega
              clear hj hP hPl h3k HLC HXr
              go_wp2_with fail
              refine HDM.out.mono ?_
              rintro x w6 ⟨rfl, hb6⟩
              have HXC6 := mkH (HXC.out.bel hb6)
              have HXr := mkH (HXr2.out.bel hb6)
              have HB : Hid (Below (w.heap.size + 2) W1 w6) := mkH (HBF0.out.trans (hb6.mono (by have := HBF0.out.size; omega)))
              have HO6 : Hid (OwP w6 w.heap.size aL cL P) := mkH (HON.out.below hb6)
              clear HDM hb6 HXr2 HBF0 HON c0 c1' HXC HBC
              obtain ⟨c0, c1', -, -⟩ := two_load (P := Try.prog) HXC6.out
              obtain ⟨m0, m1, m2, m3⟩ := two_load (P := Try.prog) HXr.out
              cases hm : mayC e0 P with
              | false =>
                have HBAD : Hid (¬ ∃ e ps, Ld.Good bs e ps) := mkH (bad_eq hl HNM.out (.inr (by rw [← HPE.out]; exact hm)))
                rw [dmpV_not hm]
                clear hm
                have k := HXr.out.set 0 (.int .i64 0)
                have k2 := k.set 1 (.slice none 0 0)
                obtain ⟨y0, y1, -, -⟩ := two_load (P := Try.prog) k2
                have HBF := mkH (((HB1.out.trans (HB.out.mono (by omega))).setCell (p := ⟨w.heap.size, 0, none⟩) (by simp) (.int .i64 0)).setCell (p := ⟨w.heap.size, 1, none⟩) (by simp) (.slice none 0 0))
                clear k k2
                go_wp2
                exact bodyPost_ret (v := .tuple #[.agg #[.int .i64 0, .slice none 0 0], .int .i64 5]) (res_ct rfl _ _ _ (x := .agg #[.int .i64 0, .slice none 0 0]) (y := .int .i64 5) (b := ⟨w.heap.size, 0, none⟩) (by rfl) (by rfl) (by simp [loadVar, go_sem, y0, y1])) rfl ⟨HBF.out, .inr ⟨HBAD.out, rfl⟩⟩
              | true =>
                obtain ⟨T, hT⟩ : ∃ T, T = txt (Cu.nums e0 P.length P) := ⟨_, rfl⟩
                rw [dmpV_may hm, ← hT]
                by_cases hTb : T = bs
                · have HG : Hid (Ld.Good bs e0 P) := mkH ⟨hm, hT.symm.trans hTb⟩
                  have hSS : ((S T).toList == (S bs).toList) = true := by rw [S_toList, S_toList, hTb]; simp
                  obtain ⟨f1, f2, y0, y1⟩ := move_fin HXr.out HO6.out (HB1.out.trans (HB.out.mono (by omega))) (Nat.le_refl _) e0
                  have HF1 := mkH f1
                  have HF2 := mkH f2
                  clear f1 f2 hm hT hTb
                  go_wp2
                  exact bodyPost_ret (v := .tuple #[.agg #[.int .i64 e0, .slice aL P.length cL], .int .i64 0]) (res_ct rfl _ _ _ (x := .agg #[.int .i64 e0, .slice aL P.length cL]) (y := .int .i64 0) (b := ⟨w.heap.size, 0, none⟩) (by rfl) (by rfl) (by simp [loadVar, go_sem, y0, y1])) rfl ⟨HF2.out, .inl ⟨e0, P, aL, cL, HG.out, hPb, rfl, HF1.out.rd⟩⟩
                · have HBAD : Hid (¬ ∃ e ps, Ld.Good bs e ps) := mkH (by
                    rintro ⟨e', ps', g⟩
                    obtain ⟨rfl, rfl⟩ := good_only hl HNM.out g
                    rw [← HPE.out] at g
                    exact hTb (hT.trans g.2))
                  have hSS : ((S T).toList == (S bs).toList) = false := by rw [S_toList, S_toList]; simpa using hTb
                  clear hm hT hTb
                  have k := HXr.out.set 0 (.int .i64 0)
                  have k2 := k.set 1 (.slice none 0 0)
                  obtain ⟨y0, y1, -, -⟩ := two_load (P := Try.prog) k2
                  have HBF := mkH (((HB1.out.trans (HB.out.mono (by omega))).setCell (p := ⟨w.heap.size, 0, none⟩) (by simp) (.int .i64 0)).setCell (p := ⟨w.heap.size, 1, none⟩) (by simp) (.slice none 0 0))
                  clear k k2
                  go_wp2
                  exact bodyPost_ret (v := .tuple #[.agg #[.int .i64 0, .slice none 0 0], .int .i64 5]) (res_ct rfl _ _ _ (x := .agg #[.int .i64 0, .slice none 0 0]) (y := .int .i64 5) (b := ⟨w.heap.size, 0, none⟩) (by rfl) (by rfl) (by simp [loadVar, go_sem, y0, y1])) rfl ⟨HBF.out, .inr ⟨HBAD.out, rfl⟩⟩
        · have HBAD : Hid (¬ ∃ e ps, Ld.Good bs e ps) := mkH (bad_len hl HN.out (.inr hs3))
          have g1 : ¬ (L.length : Int) < 2 := by omega
          have g2 : ¬ ((L.length : Int) - 2).tmod 3 = 0 := by
            rw [Int.tmod_eq_emod_of_nonneg (by omega)]; omega
          have g3 : IntKind.i64.wrap ((L.length : Int) - 2) = (L.length : Int) - 2 := IntWalk.i64_in _ (by omega)
          have g4 : ((((L.length : Int) - 2).tmod 3) != 0) = true := by simp [g2]
          have g5 : ((((L.length : Int) - 2) % 3) != 0) = true := by simp; omega
          have g6 : (0 : Int) ≤ (L.length : Int) - 2 := by omega
          clear hs2 hs3
          have k := HXr.out.set 0 (.int .i64 0)
          have k2 := k.set 1 (.slice none 0 0)
          obtain ⟨y0, y1, -, -⟩ := two_load (P := Try.prog) k2
          have HBF := mkH (((HB1.out.trans (HB.out.mono (by omega))).setCell (p := ⟨w.heap.size, 0, none⟩) (by simp) (.int .i64 0)).setCell (p := ⟨w.heap.size, 1, none⟩) (by simp) (.slice none 0 0))
          clear k k2
          go_wp2
          exact bodyPost_ret (v := .tuple #[.agg #[.int .i64 0, .slice none 0 0], .int .i64 5]) (res_ct rfl _ _ _ (x := .agg #[.int .i64 0, .slice none 0 0]) (y := .int .i64 5) (b := ⟨w.heap.size, 0, none⟩) (by rfl) (by rfl) (by simp [loadVar, go_sem, y0, y1])) rfl ⟨HBF.out, .inr ⟨HBAD.out, rfl⟩⟩
end Go.Proofs.Ytcpmcfagibmboaa.Le

namespace Go.Proofs.Ytcpmcfagibmboaa.Ms
open Go.RowKit Go.Shelf Pl Gf Gk Ct Cu La Mp Cl Ma Cp Mn Me Rd
open Cr hiding some_of
open Kt
open At (RowT)
open Rs (GoodS)
open Mr (GoodM not_len not_0 not_1 not_2)
open Lb (row_drop row_bel)
open Mq (dmp)
open Mo (note_any NtP)
set_option linter.unusedVariables false
set_option linter.unusedSimpArgs false
set_option maxRecDepth 20000

theorem slots_yes {t : List UInt8} {n k : Nat} (h : readNum t = (n, k, 0)) (hk : k = t.length) (hn : (n : Int) ≤ 1099511627776) : GoodS t n := by
  obtain ⟨h1, h2, h3, h4, h5⟩ := nums_step (bs := t) (L := []) (by simp) rfl h
  refine ⟨⟨?_, by simpa using h5⟩, hn⟩
  rw [hk, List.drop_length, List.append_nil] at h4
  simpa using h4.symm
theorem slots_err {t : List UInt8} (h : (readNum t).2.2 ≠ 0) : ¬ ∃ n, GoodS t n := by
  rintro ⟨n, ⟨h1, h2⟩, -⟩
  have := read_eI (h2 n (by simp)) []
  rw [List.append_nil] at this
  have e : txt [n] = eI n := by simp [txt]
  rw [← e, h1] at this
  rw [this] at h
  exact h rfl
theorem slots_of {t : List UInt8} {n k : Nat} (h : readNum t = (n, k, 0)) {m : Int} (g : GoodS t m) : m = (n : Int) ∧ k = t.length := by
  obtain ⟨⟨h1, h2⟩, -⟩ := g
  have := read_eI (h2 m (by simp)) []
  rw [List.append_nil] at this
  have e : txt [m] = eI m := by simp [txt]
  rw [← e, h1, h] at this
  simp only [Prod.mk.injEq] at this
  have h0 := (h2 m (by simp)).1
  exact ⟨by omega, this.2.1⟩
theorem slots_no {t : List UInt8} {n k : Nat} (h : readNum t = (n, k, 0)) (hb : k ≠ t.length ∨ 1099511627776 < (n : Int)) : ¬ ∃ m, GoodS t m := by
  rintro ⟨m, g⟩
  obtain ⟨e1, e2⟩ := slots_of h g
  have := g.2
  rcases hb with hb | hb
  · exact hb e2
  · omega
theorem row_fr {w w' : World} {Q : Nat → Prop} {b k : Nat} {bs : List UInt8} (h : Row w (some ⟨b, k, none⟩) bs) (hf : Gf.Fr Q w w') (hq : ¬ Q b) : Row w' (some ⟨b, k, none⟩) bs := by
  intro hl
  obtain ⟨b', off, e, hc⟩ := h hl
  cases e
  refine ⟨b, k, rfl, fun i hi => ?_⟩
  have h1 := hc i hi
  rw [World.cell?_of_block (w := w) (a := ⟨b, k + i, none⟩) (hf.heap (World.block_lt_of_cell? w _ h1) hq)]
  exact h1
theorem bel_fr {m R : Nat} {w W wr : World} (h : Below m w W) (hf : Gf.Fr (fun q => q = R) W wr) (hn : m ≤ R) (hn2 : m ≤ W.heap.size) : Below m w wr :=
  ⟨hf.os.trans h.os, hf.tape.trans h.tape, hf.output.trans h.output, Nat.le_trans h.size hf.size, fun k hk => (hf.block k (by omega) (by show ¬ k = R; omega)).trans (h.block k hk)⟩
/-- Of clients that are noted only those are known that were read. -/
theorem notes_mem : ∀ (L a : List Dd) (x : Dd), x ∈ notes L a → x ∈ L ∨ x ∈ a
  | [], a, x, h => .inr h
  | y :: L, a, x, h => by
    rcases notes_mem L _ x h with h | h
    · exact .inl (by simp [h])
    · have h : x ∈ noteN a y.1 y.2 := h
      unfold noteN at h
      split at h
      · exact .inr h
      · rcases Go.Proofs.Ytcpmcfagibmboaa.Nm.mem_put h with h | h
        · exact .inl (by simp [h])
        · exact .inr h
theorem notes_len (L a : List Dd) (h : okD a) : (notes L a).length ≤ 64 := (notes_ok L a h).2.2
theorem clients_yes {t : List UInt8} {P : List Dd} (h : Nums t (P.flatMap n2)) (he : txt ((notes P []).flatMap n2) = t) : GoodD t (notes P []) ∧ notes P [] = P := by
  have hok : ∀ y ∈ (notes P []).flatMap n2, okN y := by
    intro y hy
    obtain ⟨x, hx, hy⟩ := List.mem_flatMap.1 hy
    rcases notes_mem P [] x hx with hx | hx
    · exact h.2 y (List.mem_flatMap.2 ⟨x, hx, hy⟩)
    · cases hx
  have e1 := h.inj ⟨he, hok⟩
  have e2 := congrArg prs e1
  rw [prs_flat, prs_flat] at e2
  exact ⟨⟨⟨he, hok⟩, notes_ok P [] okD_nil⟩, e2⟩
theorem clients_no {t : List UInt8} {P : List Dd} (h : Nums t (P.flatMap n2)) (he : txt ((notes P []).flatMap n2) ≠ t) : ¬ ∃ D, GoodD t D := by
  rintro ⟨D, g⟩
  have e1 := h.inj g.1
  have e2 := congrArg prs e1
  rw [prs_flat, prs_flat] at e2
  subst e2
  rw [(notes_iff D).2 g.2] at he
  exact he g.1.1
theorem notes_snoc (P : List Dd) (x : Dd) : notes (P ++ [x]) [] = noteN (notes P []) x.1 x.2 := by simp [notes]

/-- What Revive answers. -/
def RvQ (w : World) (l : List (List UInt8)) (x : Ending) (w' : World) : Prop := Below w.heap.size w w' ∧
  ((∃ s e ps D R, GoodM l s e ps D ∧ ps.length ≤ 400 ∧ x = .returned (.tuple #[.pointer (some ⟨R, 0, none⟩), .int .i64 0]) ∧ Rm w' R e ps s D ∧ w.heap.size ≤ R) ∨ ((¬ ∃ s e ps D, GoodM l s e ps D) ∧ x = .returned (.tuple #[.pointer none, .int .i64 5])))

set_option maxHeartbeats 8000000 in
theorem rrevive_any (w : World) (ao : Option Addr) (cap : Nat) (l : List (List UInt8)) (hr : RowT w ao l) (hl : ∀ t ∈ l, t.length ≤ 1000) (hll : l.length ≤ 1000000) :
    Calls Try.prog 16 #[.slice ao l.length cap] w (RvQ w l) := by
  by_cases h3 : l.length = 3
  · obtain ⟨t0, t1, t2, rfl⟩ : ∃ t0 t1 t2, l = [t0, t1, t2] := by
      match l, h3 with
      | [a, b, c], _ => exact ⟨a, b, c, rfl⟩
    obtain ⟨b, off, rfl, hc⟩ := hr (by simp)
    have hc0 : w.cell? ⟨b, off, none⟩ = some (.string (S t0)) := hc 0 (by simp)
    have hc1 : w.cell? ⟨b, off + 1, none⟩ = some (.string (S t1)) := hc 1 (by simp)
    have hc2 : w.cell? ⟨b, off + 2, none⟩ = some (.string (S t2)) := hc 2 (by simp)
    have hblt := World.block_lt_of_cell? w _ hc0
    have l0 := hl t0 (by simp)
    have l1 := hl t1 (by simp)
    have l2 := hl t2 (by simp)
    have HC : Hid (∀ W, Below w.heap.size w W → W.cell? ⟨b, off, none⟩ = some (.string (S t0)) ∧ W.cell? ⟨b, off + 1, none⟩ = some (.string (S t1)) ∧ W.cell? ⟨b, off + 2, none⟩ = some (.string (S t2))) := mkH (fun W hb => ⟨(hb.cell (p := ⟨b, off, none⟩) hblt).trans hc0, (hb.cell (p := ⟨b, off + 1, none⟩) hblt).trans hc1, (hb.cell (p := ⟨b, off + 2, none⟩) hblt).trans hc2⟩)
    have HL := mkH (fun W => Le.rload_any W t1 l1)
    obtain ⟨W1, k1, hcv, hrow, hb1, hs1, hk1, hk2⟩ := Hx.conv_big w (S t0) (by show t0.length ≤ _; omega)
    have hcv1 : (convert 9 79 (.string (S t0))).run Try.prog w = .ok (.slice (some ⟨w.heap.size, 0, none⟩) t0.length k1) W1 := hcv
    have HRN := mkH (Hp.rreadNum_any W1 (some ⟨w.heap.size, 0, none⟩) k1 t0 hrow (by omega))
    have HB1 := mkH hb1
    have hsz0 : (S t0).size = t0.length := rfl
    obtain ⟨d0, d1, d2⟩ := HC.out W1 hb1
    clear hr hc hl hll h3 hc1 hc2 hcv hrow hb1
    simp only [List.length_cons, List.length_nil, Nat.zero_add, Nat.reduceAdd]
    go_enter Try.func16, Try.ntmps16
    go_wp2_with fail
    refine HRN.out.mono ?_
    rintro x w2 ⟨hrd, rfl⟩
    clear HRN hcv1
    obtain ⟨n, k, er, hrn⟩ : ∃ n k er, readNum t0 = (n, k, er) := ⟨_, _, _, rfl⟩
    have HRNN := mkH hrn
    rcases hrd with ⟨he, rfl⟩ | ⟨he, er2, her, rfl⟩
    · rw [hrn] at he
      obtain rfl : er = 0 := he
      rw [ans, hrn]
      simp only
      by_cases hbad : k ≠ t0.length ∨ 1099511627776 < (n : Int)
      · have HG := mkH (not_0 (t1 := t1) (t2 := t2) (slots_no hrn hbad))
        clear hrn
        by_cases hk : k = t0.length
        · have hn : 1099511627776 < (n : Int) := hbad.resolve_left (fun h => h hk)
          subst hk
          clear hbad
          go_wp2
          go_ret2
          exact ⟨HB1.out, .inr ⟨HG.out, rfl⟩⟩
        · have hne : ¬ (k : Int) = (t0.length : Int) := by omega
          clear hbad
          go_wp2
          go_ret2
          exact ⟨HB1.out, .inr ⟨HG.out, rfl⟩⟩
      · obtain rfl : k = t0.length := by omega
        have hn : ¬ 1099511627776 < (n : Int) := by omega
        have HGS := mkH (slots_yes hrn rfl (by omega))
        clear hbad hrn
        go_wp2_with fail
        refine (HL.out w2).mono ?_
        rintro x w3 ⟨hb3, ⟨e, ps, a, c, hg, hpl, rfl, hrd⟩ | ⟨hg, rfl⟩⟩
        · obtain ⟨W3, hW3⟩ : ∃ W3, W3 = w3.alloc (.cells #[.int .i64 e, .slice a ps.length c] 24) := ⟨_, rfl⟩
          have hal : Below w3.heap.size w3 W3 := by rw [hW3]; exact (Below.refl _ w3).alloc (Nat.le_refl _) _
          have hx : Bx W3 w3.heap.size #[.int .i64 e, .slice a ps.length c] 24 := by rw [hW3]; exact Bx.new _ _ _
          have HRD := mkH (hrd.below hal)
          have HB3 := mkH (HB1.out.trans ((hb3.trans (hal.mono hb3.size)).mono HB1.out.size))
          have HGC := mkH hg
          obtain ⟨W4, hW4⟩ : ∃ W4, W4 = W3.alloc (.cells #[.int .i64 e, .slice a ps.length c, .int .i64 (n : Int), .slice none 0 0] 51) := ⟨_, rfl⟩
          have hal4 : Below W3.heap.size W3 W4 := by rw [hW4]; exact (Below.refl _ W3).alloc (Nat.le_refl _) _
          have hm4 : Bx W4 W3.heap.size #[.int .i64 e, .slice a ps.length c, .int .i64 (n : Int), .slice none 0 0] 51 := by rw [hW4]; exact Bx.new _ _ _
          have hz4 : W4.heap.size = W3.heap.size + 1 := by rw [hW4]; simp
          obtain ⟨W5, k5, hcv, hrow, hb5, hs5, hk5, hk6⟩ := Hx.conv_big W4 (S t2) (by show t2.length ≤ _; omega)
          have hcv5 : (convert 9 79 (.string (S t2))).run Try.prog W4 = .ok (.slice (some ⟨W4.heap.size, 0, none⟩) t2.length k5) W5 := hcv
          have hkl : t2.length ≤ k5 := hk5
          have hkm : k5 ≤ 9223372036854775807 := hk6
          obtain ⟨y0, y1⟩ := (⟨hx.cell 0 _ rfl, hx.cell 1 _ rfl⟩ : W3.cell? ⟨w3.heap.size, 0, none⟩ = some (.int .i64 e) ∧ W3.cell? ⟨w3.heap.size, 1, none⟩ = some (.slice a ps.length c))
          obtain ⟨-, -, e2⟩ := HC.out W4 (HB3.out.trans (hal4.mono HB3.out.size))
          have HB5 : Hid (Below W3.heap.size W3 W5) := mkH (hal4.trans (hb5.mono hal4.size))
          have HX5 := mkH (hm4.bel hb5)
          have HRW : Hid (Row W5 (some ⟨W4.heap.size, 0, none⟩) t2) := mkH hrow
          have HW3 := mkH hW3
          have HW4 := mkH hW4
          have HCV := mkH hcv5
          clear hb3 hg hrd hal hx hal4 hm4 hcv hrow hb5 hk5 hk6 HL hcv5 d0 d1 d2
          go_upto_region 7 with fail
          rw [show w3.alloc (.cells #[.int .i64 e, .slice a ps.length c] 24) = W3 from HW3.out.symm]
          generalize w3.heap.size = B7 at *
          clear hW3 HW3
          go_upto_region 10 with fail
          rw [show W3.alloc (.cells #[.int .i64 e, .slice a ps.length c, .int .i64 (n : Int), .slice none 0 0] 51) = W4 from HW4.out.symm]
          clear hW4 HW4 y0 y1
          have hcv5 := HCV.out
          go_wp2_with fail
          clear hcv5 HCV e2
          obtain ⟨R, hR⟩ : ∃ R, R = W3.heap.size := ⟨_, rfl⟩
          rw [← hR] at HX5 HB5 hz4 ⊢
          rw [hz4] at HRW hs5
          have HRs := mkH hR
          clear hR hz4
          go_loopw [10] (fun v wr => ∃ (P : List Dd) (q : Nat), v = .int .i64 (q : Int) ∧ q ≤ t2.length ∧ 2 * P.length ≤ q ∧ Hid (t2 = txt (P.flatMap n2) ++ t2.drop q) ∧ Hid (∀ x ∈ P.flatMap n2, okN x) ∧ ∃ ka kc, Hid (Bx wr R #[.int .i64 e, .slice a ps.length c, .int .i64 (n : Int), .slice ka (notes P []).length kc] 51) ∧ Hid (RowD wr ka (notes P [])) ∧ Hid (Gf.Fr (fun q => q = R) W5 wr))
            (fun v _ => t2.length - (intOf v).toNat)
          case atStart => exact ⟨[], 0, rfl, Nat.zero_le _, Nat.le_refl _, mkH rfl, mkH (by simp), none, 0, HX5, mkH (fun h => by simp [notes] at h), mkH (Gf.Fr.refl _ _)⟩
          case round =>
            obtain ⟨P, q, rfl, hq, hPq, HE, HK, ka, kc, HX, HD, HF⟩ := hrel
            have hok := notes_ok P [] okD_nil
            by_cases h0 : q < t2.length
            · have hz1 : (q : Int) < (t2.length : Int) := by omega
              have hz2 : (q : Int) ≤ (t2.length : Int) := by omega
              have hz3 : (0 : Int) ≤ (q : Int) := by omega
              obtain ⟨x, sz, er, hrd⟩ : ∃ x sz er, readNum (t2.drop q) = (x, sz, er) := ⟨_, _, _, rfl⟩
              have hlen : (t2.drop q).length = t2.length - q := by simp
              have HRr := mkH (row_fr HRW.out HF.out (by omega))
              have HC1 := mkH (Hp.rreadNum_any wr (some ⟨R + 1, 0 + q, none⟩) (k5 - q) (t2.drop q) (row_drop HRr.out q) (by omega))
              rw [hlen, Nat.zero_add] at HC1
              have HRD1 := mkH hrd
              have HLN := mkH hlen
              clear hrd hlen
              go_wp2_with fail
              refine HC1.out.mono ?_
              rintro y w6 ⟨hrdn, rfl⟩
              clear HC1
              rcases hrdn with ⟨he, rfl⟩ | ⟨he, er2, her, rfl⟩
              · rw [HRD1.out] at he
                obtain rfl : er = 0 := he
                obtain ⟨g1, g2, g3, g4, g5⟩ := nums_step HK.out HE.out HRD1.out
                rw [HLN.out] at g2
                rw [List.drop_drop] at g4
                rw [ans, HRD1.out]
                have HE2 := mkH g4
                have HK2 := mkH g5
                clear g4 g5
                simp only
                by_cases hend : q + sz = t2.length
                · have HG : Hid (¬ ∃ s e ps D, GoodM [t0, t1, t2] s e ps D) := mkH (not_2 (badD_odd (bs := t2) (L := P.flatMap n2 ++ [(x : Int)]) ⟨by have := HE2.out; rw [hend, List.drop_length, List.append_nil] at this; exact this.symm, HK2.out⟩ (by rw [List.length_append, flat2_len]; simp)))
                  have HC2 : Hid (∀ ao2 cap2, Calls Try.prog 38 #[.slice ao2 0 cap2] w6 fun e w' => Hp.RdN [] e ∧ w' = w6) := mkH (fun ao2 cap2 => Hp.rreadNum_any w6 ao2 cap2 [] (Row.nil _ _) (by simp))
                  have hqs : (q : Int) + (sz : Int) = (t2.length : Int) := by omega
                  have hqn : t2.length - t2.length = 0 := by omega
                  go_wp2_with fail
                  all_goals
                    refine (HC2.out _ _).mono ?_
                    rintro y w7 ⟨hrdn2, rfl⟩
                    rcases hrdn2 with ⟨he2, -⟩ | ⟨he2, er3, her3, rfl⟩
                    · exact absurd he2 (by unfold readNum; exact Hp.rd_end _ _ _ _ rfl)
                    · have hne3 : ((er3 : Int) != 0) = true := by simp; omega
                      have HBF := mkH (bel_fr (HB3.out.trans (HB5.out.mono (by have := HB3.out.size; have := HRs.out; omega))) HF.out (by have := HB3.out.size; have := HRs.out; omega) (by have := HB3.out.size; have := HB5.out.size; omega))
                      clear he2
                      go_wp2
                      go_ret2
                      exact ⟨HBF.out, .inr ⟨HG.out, rfl⟩⟩
                · have hz4 : (q : Int) + (sz : Int) < (t2.length : Int) := by omega
                  have hz5 : (q : Int) + (sz : Int) ≤ (t2.length : Int) := by omega
                  have hz6 : (0 : Int) ≤ (q : Int) + (sz : Int) := by omega
                  have hti : ((q : Int) + (sz : Int)).toNat = q + sz := by omega
                  obtain ⟨y, sy, er, hrd⟩ : ∃ y sy er, readNum (t2.drop (q + sz)) = (y, sy, er) := ⟨_, _, _, rfl⟩
                  have hlen : (t2.drop (q + sz)).length = t2.length - (q + sz) := by simp
                  have HC2 := mkH (Hp.rreadNum_any w6 (some ⟨R + 1, 0 + (q + sz), none⟩) (k5 - (q + sz)) (t2.drop (q + sz)) (row_drop HRr.out (q + sz)) (by omega))
                  rw [hlen, Nat.zero_add] at HC2
                  have HRD2 := mkH hrd
                  have HLN2 := mkH hlen
                  clear hrd hlen
                  go_wp2_with fail
                  refine HC2.out.mono ?_
                  rintro yy w7 ⟨hrdn, rfl⟩
                  clear HC2
                  rcases hrdn with ⟨he, rfl⟩ | ⟨he, er2, her, rfl⟩
                  · rw [HRD2.out] at he
                    obtain rfl : er = 0 := he
                    obtain ⟨m1, m2, m3, m4, m5⟩ := nums_step HK2.out HE2.out HRD2.out
                    rw [HLN2.out] at m2
                    rw [List.drop_drop] at m4
                    rw [ans, HRD2.out]
                    have hfl : P.flatMap n2 ++ [(x : Int)] ++ [(y : Int)] = (P ++ [((x : Int), (y : Int))]).flatMap n2 := by simp [n2]
                    rw [hfl] at m4 m5
                    have HE3 := mkH m4
                    have HK3 := mkH m5
                    clear m4 m5 hfl
                    simp only
                    have HNO := mkH (fun v0 v3 v4 v5 v6 v7 v8 v9 v10 v11 v12 v13 v14 v15 v16 v17 v18 => note_any w7 R (.int .i64 e) (.slice a ps.length c) (.int .i64 (n : Int)) ka kc (notes P []) HX.out HD.out hok.1 (by have := hok.2.2; omega) (x : Int) (y : Int) v0 v3 v4 v5 v6 v7 v8 v9 v10 v11 v12 v13 v14 v15 v16 v17 v18)
                    rw [← notes_snoc P ((x : Int), (y : Int))] at HNO
                    go_wp2_with fail
                    refine (HNO.out _ _ _ _ _ _ _ _ _ _ _ _ _ _ _ _ _).mono ?_
                    rintro yy w8 ⟨rfl, ka2, kc2, hx8, hd8, hf8⟩
                    have HX8 := mkH hx8
                    have HD8 := mkH hd8
                    have HF8 := mkH (HF.out.trans hf8 (fun i hi => .inl hi))
                    clear hx8 hd8 hf8 HNO HX HD HF
                    go_wp2
                    go_roundw
                    case rel => exact ⟨P ++ [((x : Int), (y : Int))], q + sz + sy, by go_num, by omega, by simp; omega, HE3, HK3, ka2, kc2, HX8, HD8, HF8⟩
                    case measure => simp [intOf]; omega
                  · have HG : Hid (¬ ∃ s e ps D, GoodM [t0, t1, t2] s e ps D) := mkH (not_2 (fun ⟨D, g⟩ => nums_bad HK2.out HE2.out (by intro h; have := congrArg List.length h; rw [HLN2.out] at this; simp at this; omega) he _ g.1))
                    have hne3 : ((er2 : Int) != 0) = true := by simp; omega
                    have HBF := mkH (bel_fr (HB3.out.trans (HB5.out.mono (by have := HB3.out.size; have := HRs.out; omega))) HF.out (by have := HB3.out.size; have := HRs.out; omega) (by have := HB3.out.size; have := HB5.out.size; omega))
                    clear he HRD2
                    go_wp2
                    go_ret2
                    exact ⟨HBF.out, .inr ⟨HG.out, rfl⟩⟩
              · have HG : Hid (¬ ∃ s e ps D, GoodM [t0, t1, t2] s e ps D) := mkH (not_2 (fun ⟨D, g⟩ => nums_bad HK.out HE.out (by intro h; have := congrArg List.length h; rw [HLN.out] at this; simp at this; omega) he _ g.1))
                have hne3 : ((er2 : Int) != 0) = true := by simp; omega
                have HBF := mkH (bel_fr (HB3.out.trans (HB5.out.mono (by have := HB3.out.size; have := HRs.out; omega))) HF.out (by have := HB3.out.size; have := HRs.out; omega) (by have := HB3.out.size; have := HB5.out.size; omega))
                clear he HRD1
                go_wp2
                go_ret2
                exact ⟨HBF.out, .inr ⟨HG.out, rfl⟩⟩
            · obtain rfl : q = t2.length := by omega
              have HN : Hid (Nums t2 (P.flatMap n2)) := mkH ⟨by have := HE.out; rw [List.drop_length, List.append_nil] at this; exact this.symm, HK.out⟩
              have hbr : Below R W3 wr := bel_fr HB5.out HF.out (Nat.le_refl _) (by have := HB5.out.size; have := HRs.out; omega)
              have hbr3 : Below W3.heap.size W3 wr := by rw [← HRs.out]; exact hbr
              have HBF := mkH (HB3.out.trans (hbr3.mono HB3.out.size))
              have HRM : Hid (Rm wr R e ps (n : Int) (notes P [])) := mkH ⟨a, c, ka, kc, HX.out, HRD.out.below hbr3, HD.out⟩
              have hnn : okN (n : Int) := ⟨by omega, by omega⟩
              have hkk : ∀ x ∈ notes P [], okN x.1 ∧ okN x.2 := fun x hx => by
                rcases notes_mem P [] x hx with hx | hx
                · exact ⟨HK.out _ (List.mem_flatMap.2 ⟨x, hx, by simp [n2]⟩), HK.out _ (List.mem_flatMap.2 ⟨x, hx, by simp [n2]⟩)⟩
                · cases hx
              have HDU := mkH (fun W (hb : Below wr.heap.size wr W) => rmdump_any (HRM.out.below hb) (by omega) HGC.out.1 hnn ⟨by have := hok.2.2; omega, hkk⟩)
              have HCW : Hid (∀ W, Below wr.heap.size wr W → W.cell? ⟨b, off + 2, none⟩ = some (.string (S t2))) := mkH (fun W hb => (HC.out W (HBF.out.trans (hb.mono HBF.out.size))).2.2)
              have e2 := HCW.out wr (Below.refl _ _)
              have hz1 : ¬ (t2.length : Int) < (t2.length : Int) := by omega
              obtain ⟨tt, htt⟩ : ∃ tt, tt = txt ((notes P []).flatMap n2) := ⟨_, rfl⟩
              have HTT := mkH htt
              clear htt hbr hbr3 hnn hkk
              go_wp2_with fail
              have HD2 : Hid ((dmp e ps (n : Int) (notes P [])).getD 2 [] = tt) := mkH (HTT.out.symm)
              by_cases heq : tt = t2
              · have hSS : ((S tt).toList == (S t2).toList) = true := by rw [S_toList, S_toList, heq]; simp
                obtain ⟨gD, gP⟩ := clients_yes HN.out (by rw [← HTT.out]; exact heq)
                have HG : Hid (GoodM [t0, t1, t2] (n : Int) e ps (notes P [])) := mkH ⟨t0, t1, t2, rfl, HGS.out, HGC.out, gD⟩
                clear heq gD gP
                go_region_with (first
                  | (go_at_call 21; refine (HDU.out _ (by (repeat (first | exact Below.refl _ _ | refine Below.drew ?_ | refine Gf.below_drewN ?_ _)))).mono ?_; rintro z w9 ⟨a9, c9, rfl, hr9, hb9⟩; have hb8 : Below wr.heap.size wr w9 := Below.trans (by (repeat (first | exact Below.refl _ _ | refine Below.drew ?_ | refine Gf.below_drewN ?_ _))) (hb9.mono (by simp)); obtain ⟨b9, o9, rfl, hc9⟩ := hr9 (by simp [dmp]); have hc92 := hc9 2 (by simp [dmp]); rw [HD2.out] at hc92; have hkeep := (by exact HCW.out w9 hb8)))
                all_goals
                  go_wp2
                  go_ret2
                  exact ⟨HBF.out.trans (hb8.mono HBF.out.size), .inl ⟨(n : Int), e, ps, notes P [], R, HG.out, hpl, rfl, HRM.out.below hb8, by have := HB3.out.size; have := HRs.out; omega⟩⟩
              · have hSS : ((S tt).toList == (S t2).toList) = false := by rw [S_toList, S_toList]; simpa using heq
                have HG : Hid (¬ ∃ s e ps D, GoodM [t0, t1, t2] s e ps D) := mkH (not_2 (clients_no HN.out (by rw [← HTT.out]; exact heq)))
                clear heq
                go_region_with (first
                  | (go_at_call 21; refine (HDU.out _ (by (repeat (first | exact Below.refl _ _ | refine Below.drew ?_ | refine Gf.below_drewN ?_ _)))).mono ?_; rintro z w9 ⟨a9, c9, rfl, hr9, hb9⟩; have hb8 : Below wr.heap.size wr w9 := Below.trans (by (repeat (first | exact Below.refl _ _ | refine Below.drew ?_ | refine Gf.below_drewN ?_ _))) (hb9.mono (by simp)); obtain ⟨b9, o9, rfl, hc9⟩ := hr9 (by simp [dmp]); have hc92 := hc9 2 (by simp [dmp]); rw [HD2.out] at hc92; have hkeep := (by exact HCW.out w9 hb8)))
                all_goals
                  go_wp2
                  go_ret2
                  exact ⟨HBF.out.trans (hb8.mono HBF.out.size), .inr ⟨HG.out, rfl⟩⟩
        · have HB3 := mkH (HB1.out.trans (hb3.mono HB1.out.size))
          have HG := mkH (not_1 (t0 := t0) (t2 := t2) hg)
          clear hb3 hg HL
          go_wp2
          go_ret2
          exact ⟨HB3.out.alloc HB3.out.size _, .inr ⟨HG.out, rfl⟩⟩
    · have HG := mkH (not_0 (t1 := t1) (t2 := t2) (slots_err he))
      have hne : ((er2 : Int) != 0) = true := by simp; omega
      clear hrn he
      go_wp2
      go_ret2
      exact ⟨HB1.out, .inr ⟨HG.out, rfl⟩⟩
  · have HG := mkH (not_len h3)
    have hne : ¬ (l.length : Int) = 3 := by omega
    clear hr hl h3
    go_enter Try.func16, Try.ntmps16
    go_wp2
    go_ret2
    exact ⟨Below.refl _ _, .inr ⟨HG.out, rfl⟩⟩
end Go.Proofs.Ytcpmcfagibmboaa.Ms

namespace Go.Proofs.Ytcpmcfagibmboaa.Kt
open Go.RowKit
open At (RowT)
open Ad (RowI)

def IsStrs (w : World) (a : Option Addr) (len cap : Nat) (zs : List ByteArray) : Prop :=
  (a = none ∧ len = 0 ∧ cap = 0 ∧ zs = []) ∨
  ∃ x, a = some x ∧ len ≤ cap ∧ cap ≤ maxLen ∧ zs.length = cap ∧ (∀ i, i < zs.length → w.cell? (x.add i) = some (.string (zs.getD i ByteArray.empty))) ∧ ∀ s ∈ zs, s.size ≤ maxLen

theorem isStrs_texts {w : World} {a : Option Addr} {len cap : Nat} {zs : List ByteArray} (h : IsStrs w a len cap zs) : ∃ l : List (List UInt8), l.length = len ∧ len ≤ cap ∧ cap ≤ 9223372036854775807 ∧ RowT w a l := by
  rcases h with ⟨rfl, rfl, rfl, rfl⟩ | ⟨x, rfl, hl, hm, hz, hcell, hwz⟩
  · exact ⟨[], rfl, Nat.le_refl _, by omega, fun h => by simp at h⟩
  · refine ⟨(zs.take len).map fun s => s.data.toList, by simp; omega, hl, by unfold maxLen at hm; omega, fun h0 => ?_⟩
    simp only [List.length_map, List.length_take] at h0 ⊢
    obtain ⟨b, off, spot⟩ := x
    have hc0 := hcell 0 (by omega)
    have hspot : spot = none := by simpa [Addr.add] using World.cell?_spot hc0
    subst hspot
    refine ⟨b, off, rfl, fun i hi => ?_⟩
    have hc := hcell i (by omega)
    have hp : (⟨b, off, none⟩ : Addr).add i = ⟨b, off + i, none⟩ := by unfold Addr.add; split <;> simp_all
    rw [hp] at hc
    rw [hc]
    have hiz : i < zs.length := by omega
    have hil : i < len := by omega
    have e1 : zs.getD i ByteArray.empty = zs[i] := by simp [List.getD, List.getElem?_eq_getElem hiz]
    have e2 : ((zs.take len).map fun s => s.data.toList).getD i [] = zs[i].data.toList := by
      simp [List.getD, hil, List.getElem?_eq_getElem hiz]
    rw [e1, e2]
    congr 2

theorem isRow_ints {w : World} {a : Option Addr} {len cap : Nat} {zs : List Int} (h : IsRow .i64 w a len cap zs) : ∃ l : List Int, l.length = len ∧ len ≤ cap ∧ cap ≤ 9223372036854775807 ∧ RowI w a l ∧ ∀ x ∈ l, (Lit.int .i64 x).wf = true := by
  rcases h with ⟨rfl, rfl, rfl, rfl⟩ | ⟨x, rfl, hl, hm, hz, hcell, hwz⟩
  · exact ⟨[], rfl, Nat.le_refl _, by omega, fun h => by simp at h, fun x hx => by cases hx⟩
  · refine ⟨zs.take len, by rw [List.length_take]; omega, hl, by unfold maxLen at hm; omega, fun h0 => ?_, fun x hx => hwz x (List.mem_of_mem_take hx)⟩
    simp only [List.length_take] at h0 ⊢
    obtain ⟨b, off, spot⟩ := x
    have hc0 := hcell 0 (by omega)
    have hspot : spot = none := by simpa [Addr.add] using World.cell?_spot hc0
    subst hspot
    refine ⟨b, off, rfl, fun i hi => ?_⟩
    have hc := hcell i (by omega)
    have hp : (⟨b, off, none⟩ : Addr).add i = ⟨b, off + i, none⟩ := by unfold Addr.add; split <;> simp_all
    rw [hp] at hc
    rw [hc]
    have hil : i < len := by omega
    simp [List.getD, hil]
end Go.Proofs.Ytcpmcfagibmboaa.Kt
