/-
  The document's Load of a chart. Written by gen_chle.py.
-/
import Derived.Test.YtcpmcfagibmboaaChLd
import Derived.Test.YtcpmcfagibmboaaChV
import Derived.Test.YtcpmcfagibmboaaShP
import Derived.Test.YtcpmcfagibmboaaRgG
namespace Go.Proofs.Ytcpmcfagibmboaa.Le
open Go.RowKit Pl Pw Pr Pf Pv Cp Ca Cb Cc Cd Ce Cf Gf Gk Ct Cu La Rd Ch Lb Ld Cx Hp
open Cr hiding some_of
open Kt hiding mkH
open Kv
set_option linter.unusedVariables false
set_option linter.unusedSimpArgs false
set_option maxRecDepth 20000

set_option maxHeartbeats 8000000 in
theorem rload_any (w : World) (bs : List UInt8) (hl : bs.length ≤ 1000) :
    Calls Try.prog 14 #[.string (S bs)] w fun e w' => LdP w bs e w' := by
  have hmx : Try.prog.follows .mixedOrders = true := by kernel_rfl
  obtain ⟨V1, hV1⟩ : ∃ V1, V1 = w.alloc (.cells #[.int .i64 0, .slice none 0 0] 24) := ⟨_, rfl⟩
  have rb1 : Bx V1 w.heap.size #[.int .i64 0, .slice none 0 0] 24 := by rw [hV1]; exact Bx.new w _ _
  have hbv : Below w.heap.size w V1 := by rw [hV1]; exact (Below.refl _ w).alloc (Nat.le_refl _) _
  have hz1 : V1.heap.size = w.heap.size + 1 := by rw [hV1]; simp
  obtain ⟨W1, c1, hcv0, hrow, hb1, hs1, hc1, hc2⟩ := Hx.conv_big V1 (S bs) (by show bs.length ≤ _; omega)
  have hcv : (convert 9 79 (.string (S bs))).run Try.prog V1 = .ok (.slice (some ⟨w.heap.size + 1, 0, none⟩) bs.length c1) W1 := by rw [← hz1]; exact hcv0
  have hrow1 : Row W1 (some ⟨w.heap.size + 1, 0, none⟩) bs := by rw [← hz1]; exact hrow
  have HR1 := mkH hrow1
  have HB1 : Hid (Below w.heap.size w W1) := mkH (hbv.trans (hb1.mono (by omega)))
  have HX1 : Hid (Bx W1 w.heap.size #[.int .i64 0, .slice none 0 0] 24) := mkH (rb1.bel hb1)
  have hw1 : w.heap.size + 2 ≤ W1.heap.size := by omega
  have hc1' : bs.length ≤ c1 := hc1
  have HV1 := mkH hV1
  clear hcv0 hrow hrow1 hb1 hc1 rb1 hbv hV1 hz1 hs1
  go_enter Try.func14, Try.ntmps14
  go_wp2_with fail
  rw [show w.alloc (.cells #[.int .i64 0, .slice none 0 0] 24) = V1 from HV1.out.symm]
  rw [hcv]
  go_simp
  go_wp2_with fail
  clear hcv HV1
  go_loopw [5, 6] (fun v at' wr => ∃ (L : List Int) (a : Nat), at' = .int .i64 (a : Int) ∧ a ≤ bs.length ∧ L.length ≤ a ∧ Hid (bs = txt L ++ bs.drop a) ∧ Hid (∀ x ∈ L, okN x) ∧ Hid (wr.ownsRow (w.heap.size + 2) 3 1 v L.length (J L)) ∧ Hid (Below (w.heap.size + 2) W1 wr))
    (fun _ at' _ => bs.length - (intOf at').toNat)
  case atStart => exact ⟨[], 0, rfl, Nat.zero_le _, Nat.le_refl _, mkH rfl, mkH (by simp), mkH ⟨by simp [J], .inl ⟨rfl, rfl⟩⟩, mkH (Below.refl _ _)⟩
  case round =>
    obtain ⟨L, a, rfl, hal, hLa, HE, HK, HO, HB⟩ := hrel
    have HXr := mkH (HX1.out.below HB.out (by omega))
    obtain ⟨x0, x1, x2, x3⟩ := two_load (P := Try.prog) HXr.out
    have hszr := HB.out.size
    by_cases h0 : a < bs.length
    · have hz1 : (a : Int) < (bs.length : Int) := by omega
      have hz2 : (a : Int) ≤ (bs.length : Int) := by omega
      have hz3 : (0 : Int) ≤ (a : Int) := by omega
      obtain ⟨n, sz, er, hrd⟩ : ∃ n sz er, readNum (bs.drop a) = (n, sz, er) := ⟨_, _, _, rfl⟩
      have hlen : (bs.drop a).length = bs.length - a := by simp
      have HC := mkH (rreadNum_any wr (some ⟨w.heap.size + 1, 0 + a, none⟩) (c1 - a) (bs.drop a) (row_drop (row_bel HR1.out HB.out (by omega)) a) (by omega))
      rw [hlen, Nat.zero_add] at HC
      have HRD := mkH hrd
      have HLN := mkH hlen
      clear hrd hlen
      go_wp2_with fail
      refine HC.out.mono ?_
      rintro e w2 ⟨hrdn, rfl⟩
      clear HC
      rcases hrdn with ⟨he, rfl⟩ | ⟨he, er2, her, rfl⟩
      · rw [HRD.out] at he
        obtain rfl : er = 0 := he
        obtain ⟨k1, k2, k3, k4, k5⟩ := nums_step HK.out HE.out HRD.out
        rw [HLN.out] at k2
        rw [List.drop_drop] at k4
        rw [ans, HRD.out]
        have HE2 := mkH k4
        have HK2 := mkH k5
        clear k4 k5
        have hal2 : Below w2.heap.size w2 (w2.alloc (.cells #[.int .i64 (n : Int)] 3)) := (Below.refl _ w2).alloc (Nat.le_refl _) _
        have HBA : Hid (Below (w.heap.size + 2) W1 (w2.alloc (.cells #[.int .i64 (n : Int)] 3))) := mkH (HB.out.trans (hal2.mono (by omega)))
        have HOW := mkH (own_below HO.out hal2)
        have HSR := mkH (RowI.src (RowI.own (own1 w2 (n : Int))).2 1)
        obtain ⟨ln, hln⟩ : ∃ ln, ln = L.length := ⟨_, rfl⟩
        have HLL := mkH hln
        rw [← hln] at HOW hLa
        clear hln hal2 HO
        simp only
        go_wp2_with (at_builtin; refine (wpList_append_own_src _ rfl (.tmp 31) (.tmp 33) 66 66 rfl (w.heap.size + 2) 3 (.int .i64 0) 1 8 Try.underlying66 info3 rfl (by decide) _ ln (J L) rfl HOW.out _ 1 (J [(n : Int)]) rfl HSR.out ?h63 ?hby ?hbs ?_))
        case h63 => unfold maxLen; omega
        case hby => omega
        case hbs => simp; omega
        intro v2 w5 hown5 hgrow5
        have HB3 := mkH (below_own HOW.out hgrow5 HBA.out (by simp; omega))
        have HO3 : Hid (w5.ownsRow (w.heap.size + 2) 3 1 v2 (L ++ [(n : Int)]).length (J (L ++ [(n : Int)]))) := mkH (by
          have := hown5
          rwa [← J_append, HLL.out, show L.length + 1 = (L ++ [(n : Int)]).length by simp] at this)
        clear hown5 hgrow5 HOW HSR HBA HB x0 x1 x2 x3 HXr
        go_wp2
        go_roundw
        case rel => exact ⟨L ++ [(n : Int)], a + sz, by go_num, by omega, by rw [List.length_append, List.length_singleton, ← HLL.out]; omega, HE2, HK2, HO3, HB3⟩
        case measure => simp [intOf]; omega
      · have HBAD : Hid (¬ ∃ e ps, Ld.Good bs e ps) := mkH (bad_none hl (nums_bad HK.out HE.out (by intro h; have := congrArg List.length h; rw [HLN.out] at this; simp at this; omega) he))
        have hne : ((er2 : Int) != 0) = true := by simp; omega
        clear he HRD
        have k := HXr.out.set 0 (.int .i64 0)
        have k2 := k.set 1 (.slice none 0 0)
        obtain ⟨y0, y1, -, -⟩ := two_load (P := Try.prog) k2
        have HBF := mkH (((HB1.out.trans (HB.out.mono (by omega))).setCell (p := ⟨w.heap.size, 0, none⟩) (by simp) (.int .i64 0)).setCell (p := ⟨w.heap.size, 1, none⟩) (by simp) (.slice none 0 0))
        clear k k2
        go_wp2
        exact bodyPost_ret (v := .tuple #[.agg #[.int .i64 0, .slice none 0 0], .int .i64 5]) (res_ct rfl _ _ _ (x := .agg #[.int .i64 0, .slice none 0 0]) (y := .int .i64 5) (b := ⟨w.heap.size, 0, none⟩) (by rfl) (by rfl) (by simp [loadVar, go_sem, y0, y1])) rfl ⟨HBF.out, .inr ⟨HBAD.out, rfl⟩⟩
    · obtain rfl : a = bs.length := by omega
      have HN : Hid (Nums bs L) := mkH ⟨by have := HE.out; rw [List.drop_length, List.append_nil] at this; exact this.symm, HK.out⟩
      obtain ⟨aN, cN, rfl⟩ := own_form HO.out
      clear HR1 HE HK
      obtain ⟨wA, hwA⟩ : ∃ wA, wA = wr := ⟨_, rfl⟩
      subst hwA
      by_cases hs2 : L.length < 2
      · have HBAD : Hid (¬ ∃ e ps, Ld.Good bs e ps) := mkH (bad_len hl HN.out (.inl hs2))
        have g1 : (L.length : Int) < 2 := by omega
        clear hs2
        have k := HXr.out.set 0 (.int .i64 0)
        have k2 := k.set 1 (.slice none 0 0)
        obtain ⟨y0, y1, -, -⟩ := two_load (P := Try.prog) k2
        have HBF := mkH (((HB1.out.trans (HB.out.mono (by omega))).setCell (p := ⟨w.heap.size, 0, none⟩) (by simp) (.int .i64 0)).setCell (p := ⟨w.heap.size, 1, none⟩) (by simp) (.slice none 0 0))
        clear k k2
        go_wp2
        exact bodyPost_ret (v := .tuple #[.agg #[.int .i64 0, .slice none 0 0], .int .i64 5]) (res_ct rfl _ _ _ (x := .agg #[.int .i64 0, .slice none 0 0]) (y := .int .i64 5) (b := ⟨w.heap.size, 0, none⟩) (by rfl) (by rfl) (by simp [loadVar, go_sem, y0, y1])) rfl ⟨HBF.out, .inr ⟨HBAD.out, rfl⟩⟩
      · by_cases hs3 : (L.length - 2) % 3 = 0
        · obtain ⟨e0, kk, R, hLR⟩ : ∃ e0 kk R, L = e0 :: kk :: R := by
            match L, hs2 with
            | [], h => simp at h
            | [_], h => simp at h
            | x :: y :: r, _ => exact ⟨x, y, r, rfl⟩
          have hRL : L.length ≤ R.length + 2 := by rw [hLR]; simp
          have hRM : R.length + 2 ≤ L.length := by rw [hLR]; simp
          have g5 : ((L.length : Int) - 2) % 3 = 0 := by omega
          have g1 : ¬ (L.length : Int) < 2 := by omega
          have g2 : ((L.length : Int) - 2).tmod 3 = 0 := by
            rw [Int.tmod_eq_emod_of_nonneg (by omega)]; omega
          have g3 : IntKind.i64.wrap ((L.length : Int) - 2) = (L.length : Int) - 2 := IntWalk.i64_in _ (by omega)
          have hri := (RowI.own HO.out).2
          obtain ⟨b, off, rfl, hcl⟩ := hri (by omega)
          have hb0 := hcl 0 (by omega)
          have e00 : L.getD 0 0 = e0 := by rw [hLR]; rfl
          rw [e00] at hb0
          have hblt : b < wA.heap.size := World.block_lt_of_cell? wA _ hb0
          obtain ⟨N, hN⟩ : ∃ N, N = L.length := ⟨_, rfl⟩
          have HNL := mkH hN
          have HLR := mkH hLR
          have HCL := mkH hcl
          rw [← hN] at hRL hRM g1 g2 g3 g5 hLa hs2 ⊢
          clear hcl hri hLR hN e00 hs3
          have gi : (0 : Int) < (N : Int) := by omega
          have hB11 : w.heap.size + 2 ≤ wA.heap.size := by omega
          simp only [Nat.add_zero] at hb0
          go_wp2_with fail
          clear hb0 x0 x1 x2 x3
          obtain ⟨B11, hB⟩ : ∃ B11, B11 = wA.heap.size := ⟨_, rfl⟩
          rw [← hB] at hblt hB11 ⊢
          have HBQ := mkH hB
          clear hB
          go_loopw [11] (fun i wr => ∃ (k j : Nat) (aL : Option Addr) (cL : Nat), j = 2 + 3 * k ∧ j ≤ N ∧ i = .int .i64 (j : Int) ∧ Hid (Bx wr B11 #[.int .i64 e0, .slice aL k cL] 24) ∧ Hid (wr.ownsRow (B11 + 1) 63 3 (.slice aL k cL) k (Fp (pcs (R.take (3 * k))))) ∧ Hid (Below B11 wA wr)) (fun i _ => N - (intOf i).toNat)
          case atStart => exact ⟨0, 2, none, 0, rfl, by omega, rfl, mkH (by rw [HBQ.out]; exact Bx.new _ _ _), mkH (World.ownsRow_nil _ _ _ _), mkH (by rw [HBQ.out]; exact (Below.refl _ wA).alloc (Nat.le_refl _) _)⟩
          case round =>
            obtain ⟨k, j, aL, cL, hj, hjN, rfl, HXC, HLC, HBC⟩ := hrel
            have hlt := HXC.out.lt
            by_cases hjl : j < N
            · have hj3 : j + 2 < N := by omega
              obtain ⟨x0, hq0⟩ : ∃ x0, R[3 * k]? = some x0 := ⟨_, List.getElem?_eq_getElem (by omega)⟩
              obtain ⟨x1, hq1⟩ : ∃ x1, R[3 * k + 1]? = some x1 := ⟨_, List.getElem?_eq_getElem (by omega)⟩
              obtain ⟨x9, hq2⟩ : ∃ x9, R[3 * k + 2]? = some x9 := ⟨_, List.getElem?_eq_getElem (by omega)⟩
              obtain ⟨P0, hP0⟩ : ∃ P0, P0 = pcs (R.take (3 * k)) := ⟨_, rfl⟩
              have HP : Hid (pcs (R.take (3 * (k + 1))) = P0 ++ [(x0, x1, x9)]) := mkH (by rw [hP0]; exact pcs_snoc k R x0 x1 x9 hq0 hq1 hq2)
              rw [← hP0] at HLC
              have d0 : L.getD j 0 = x0 := by rw [HLR.out, hj, show 2 + 3 * k = 3 * k + 1 + 1 by omega]; simp [List.getD, hq0]
              have d1 : L.getD (j + 1) 0 = x1 := by rw [HLR.out, hj, show 2 + 3 * k + 1 = 3 * k + 1 + 1 + 1 by omega]; simp [List.getD, hq1]
              have d2 : L.getD (j + 2) 0 = x9 := by rw [HLR.out, hj, show 2 + 3 * k + 2 = 3 * k + 2 + 1 + 1 by omega]; simp [List.getD, hq2]
              have HC2 : Hid (∀ W, Below (B11 + 1) wr W → (W.cell? ⟨B11, 1, none⟩ = some (.slice aL k cL) ∧ W.cell? ⟨b, off + j, none⟩ = some (.int .i64 x0) ∧ W.cell? ⟨b, off + (j + 1), none⟩ = some (.int .i64 x1) ∧ W.cell? ⟨b, off + (j + 2), none⟩ = some (.int .i64 x9)) ∧ W.frozen? ⟨B11, 1, none⟩ = false) := mkH (fun W hb => by
                have u := HXC.out.below hb (Nat.lt_succ_self _)
                have hbl : Below B11 wA W := HBC.out.trans (hb.mono (Nat.le_succ _))
                have cc := fun i (hi : i < L.length) => (hbl.cell (p := ⟨b, off + i, none⟩) hblt).trans (HCL.out i hi)
                have v0 := cc j (by have := HNL.out; omega)
                have v1 := cc (j + 1) (by have := HNL.out; omega)
                have v2 := cc (j + 2) (by have := HNL.out; omega)
                rw [d0] at v0
                rw [d1] at v1
                rw [d2] at v2
                exact ⟨⟨u.cell 1 _ rfl, v0, v1, v2⟩, u.frozen 1⟩)
              have HCC : Hid (∀ W, Below wr.heap.size wr W → W.cell? ⟨B11, 1, none⟩ = some (.slice aL k cL) ∧ W.cell? ⟨b, off + j, none⟩ = some (.int .i64 x0) ∧ W.cell? ⟨b, off + (j + 1), none⟩ = some (.int .i64 x1) ∧ W.cell? ⟨b, off + (j + 2), none⟩ = some (.int .i64 x9)) := mkH (fun W hb => (HC2.out W (hb.mono (by omega))).1)
              obtain ⟨p0, p1, p2, p3⟩ := HCC.out wr (Below.refl _ _)
              have i0 : (j : Int) < (N : Int) := by omega
              have i1 : (j : Int) + 1 < (N : Int) := by omega
              have i2 : (j : Int) + 2 < (N : Int) := by omega
              have i3 : (0 : Int) ≤ (j : Int) := by omega
              have i4 : (0 : Int) ≤ (j : Int) + 1 := by omega
              have i5 : (0 : Int) ≤ (j : Int) + 2 := by omega
              have i6 : IntKind.i64.wrap ((j : Int) + 1) = (j : Int) + 1 := IntWalk.i64_in _ (by omega)
              have i7 : IntKind.i64.wrap ((j : Int) + 2) = (j : Int) + 2 := IntWalk.i64_in _ (by omega)
              have i8 : ((j : Int) + 2).toNat = j + 2 := by omega
              have hk3 : k ≤ 1000 := by omega
              have HJ := mkH hj
              clear hq0 hq1 hq2 hP0 d0 d1 d2 hj
              go_wp2_with fail
              refine Rg.region_G hmx 21 (fun W => W.cell? ⟨B11, 1, none⟩ = some (.slice aL k cL) ∧ W.cell? ⟨b, off + j, none⟩ = some (.int .i64 x0) ∧ W.cell? ⟨b, off + (j + 1), none⟩ = some (.int .i64 x1) ∧ W.cell? ⟨b, off + (j + 2), none⟩ = some (.int .i64 x9)) ⟨p0, p1, p2, p3⟩ (fun hHeld => ?_)
              have HLV := mkH (own_below HLC.out (Below.refl _ _).drew)
              have HVV : Hid (Below wr.heap.size wr wr.drew) := mkH (Below.refl _ _).drew
              generalize wr.drew = V0 at *
              refine Rg.anyG_pure (i := 0) (oi := { dst := some 59, op := _, type := _, pos := _, after := _, guard := _ }) (v := ?_) rfl (by kernel_rfl) (by kernel_rfl) (by kernel_rfl) (by rfl) (fun _ _ _ h => h) (Or.inl ⟨by rfl, ?_⟩) (fun _ => by assumption) ?_
              rotate_left
              · (intro W hSw; (try dsimp only at hSw); go_simp; try (with_reducible rfl))
              try simp only [Act.put, List.setIfInBounds_toArray, List.set_cons_zero, List.set_cons_succ]
              refine Rg.anyG_take (i := 1) (oi := { dst := some 60, op := _, type := _, pos := _, after := _, guard := _ }) (v := ?_) rfl (by kernel_rfl) (by kernel_rfl) (by kernel_rfl) [21] (by kernel_rfl) (fun _ _ _ h => h) (Or.inl ⟨by rfl, ?_⟩) (by assumption) ?_
              rotate_left
              · (intro W hSw; (try dsimp only at hSw); go_simp; try (with_reducible rfl))
              try simp only [Act.put, List.setIfInBounds_toArray, List.set_cons_zero, List.set_cons_succ]
              refine Rg.anyG_pure (i := 2) (oi := { dst := some 61, op := _, type := _, pos := _, after := _, guard := _ }) (v := ?_) rfl (by kernel_rfl) (by kernel_rfl) (by kernel_rfl) (by rfl) (fun _ _ _ h => h) (Or.inl ⟨by rfl, ?_⟩) (fun _ => by assumption) ?_
              rotate_left
              · (intro W hSw; (try dsimp only at hSw); go_simp; try (with_reducible rfl))
              try simp only [Act.put, List.setIfInBounds_toArray, List.set_cons_zero, List.set_cons_succ]
              refine Rg.anyG_pure (i := 3) (oi := { dst := some 62, op := _, type := _, pos := _, after := _, guard := _ }) (v := ?_) rfl (by kernel_rfl) (by kernel_rfl) (by kernel_rfl) (by rfl) (fun _ _ _ h => h) (Or.inl ⟨by rfl, ?_⟩) (fun _ => by assumption) ?_
              rotate_left
              · (intro W hSw; (try dsimp only at hSw); go_simp; try (with_reducible rfl))
              try simp only [Act.put, List.setIfInBounds_toArray, List.set_cons_zero, List.set_cons_succ]
              refine Rg.anyG_pure (i := 4) (oi := { dst := some 63, op := _, type := _, pos := _, after := _, guard := _ }) (v := ?_) rfl (by kernel_rfl) (by kernel_rfl) (by kernel_rfl) (by rfl) (fun _ _ _ h => h) (Or.inl ⟨by rfl, ?_⟩) (fun _ => by assumption) ?_
              rotate_left
              · (intro W hSw; (try dsimp only at hSw); go_simp; try (with_reducible rfl))
              try simp only [Act.put, List.setIfInBounds_toArray, List.set_cons_zero, List.set_cons_succ]
              refine Rg.anyG_take (i := 5) (oi := { dst := some 64, op := _, type := _, pos := _, after := _, guard := _ }) (v := ?_) rfl (by kernel_rfl) (by kernel_rfl) (by kernel_rfl) [21] (by kernel_rfl) (fun _ _ _ h => h) (Or.inl ⟨by rfl, ?_⟩) (by assumption) ?_
              rotate_left
              · (intro W hSw; (try dsimp only at hSw); go_simp; try (with_reducible rfl))
              try simp only [Act.put, List.setIfInBounds_toArray, List.set_cons_zero, List.set_cons_succ]
              refine Rg.anyG_pure (i := 6) (oi := { dst := some 65, op := _, type := _, pos := _, after := _, guard := _ }) (v := ?_) rfl (by kernel_rfl) (by kernel_rfl) (by kernel_rfl) (by rfl) (fun _ _ _ h => h) (Or.inl ⟨by rfl, ?_⟩) (fun _ => by assumption) ?_
              rotate_left
              · (intro W hSw; (try dsimp only at hSw); go_simp; try (with_reducible rfl))
              try simp only [Act.put, List.setIfInBounds_toArray, List.set_cons_zero, List.set_cons_succ]
              refine Rg.anyG_pure (i := 7) (oi := { dst := some 66, op := _, type := _, pos := _, after := _, guard := _ }) (v := ?_) rfl (by kernel_rfl) (by kernel_rfl) (by kernel_rfl) (by rfl) (fun _ _ _ h => h) (Or.inl ⟨by rfl, ?_⟩) (fun _ => by assumption) ?_
              rotate_left
              · (intro W hSw; (try dsimp only at hSw); go_simp; try (with_reducible rfl))
              try simp only [Act.put, List.setIfInBounds_toArray, List.set_cons_zero, List.set_cons_succ]
              refine Rg.anyG_pure (i := 8) (oi := { dst := some 67, op := _, type := _, pos := _, after := _, guard := _ }) (v := .int .i64 ((j : Int) + 1)) rfl (by kernel_rfl) (by kernel_rfl) (by kernel_rfl) (by rfl) (fun _ _ _ h => h) (Or.inl ⟨by rfl, ?_⟩) (fun _ => by assumption) ?_
              · (intro W hSw; (try dsimp only at hSw); go_simp; try (with_reducible rfl))
              try simp only [Act.put, List.setIfInBounds_toArray, List.set_cons_zero, List.set_cons_succ]
              refine Rg.anyG_pure (i := 9) (oi := { dst := some 68, op := _, type := _, pos := _, after := _, guard := _ }) (v := ?_) rfl (by kernel_rfl) (by kernel_rfl) (by kernel_rfl) (by rfl) (fun _ _ _ h => h) (Or.inl ⟨by rfl, ?_⟩) (fun _ => by assumption) ?_
              rotate_left
              · (intro W hSw; (try dsimp only at hSw); go_simp; try (with_reducible rfl))
              try simp only [Act.put, List.setIfInBounds_toArray, List.set_cons_zero, List.set_cons_succ]
              refine Rg.anyG_take (i := 10) (oi := { dst := some 69, op := _, type := _, pos := _, after := _, guard := _ }) (v := ?_) rfl (by kernel_rfl) (by kernel_rfl) (by kernel_rfl) [21] (by kernel_rfl) (fun _ _ _ h => h) (Or.inl ⟨by rfl, ?_⟩) (by assumption) ?_
              rotate_left
              · (intro W hSw; (try dsimp only at hSw); go_simp; try (with_reducible rfl))
              try simp only [Act.put, List.setIfInBounds_toArray, List.set_cons_zero, List.set_cons_succ]
              refine Rg.anyG_pure (i := 11) (oi := { dst := some 70, op := _, type := _, pos := _, after := _, guard := _ }) (v := .agg #[.int .i64 x0, .int .i64 x1]) rfl (by kernel_rfl) (by kernel_rfl) (by kernel_rfl) (by rfl) (fun _ _ _ h => h) (Or.inl ⟨by rfl, ?_⟩) (fun _ => by assumption) ?_
              · (intro W hSw; (try dsimp only at hSw); go_simp; try (with_reducible rfl))
              try simp only [Act.put, List.setIfInBounds_toArray, List.set_cons_zero, List.set_cons_succ]
              refine Rg.anyG_pure (i := 12) (oi := { dst := some 71, op := _, type := _, pos := _, after := _, guard := _ }) (v := ?_) rfl (by kernel_rfl) (by kernel_rfl) (by kernel_rfl) (by rfl) (fun _ _ _ h => h) (Or.inl ⟨by rfl, ?_⟩) (fun _ => by assumption) ?_
              rotate_left
              · (intro W hSw; (try dsimp only at hSw); go_simp; try (with_reducible rfl))
              try simp only [Act.put, List.setIfInBounds_toArray, List.set_cons_zero, List.set_cons_succ]
              refine Rg.anyG_pure (i := 13) (oi := { dst := some 72, op := _, type := _, pos := _, after := _, guard := _ }) (v := ?_) rfl (by kernel_rfl) (by kernel_rfl) (by kernel_rfl) (by rfl) (fun _ _ _ h => h) (Or.inl ⟨by rfl, ?_⟩) (fun _ => by assumption) ?_
              rotate_left
              · (intro W hSw; (try dsimp only at hSw); go_simp; try (with_reducible rfl))
              try simp only [Act.put, List.setIfInBounds_toArray, List.set_cons_zero, List.set_cons_succ]
              refine Rg.anyG_pure (i := 14) (oi := { dst := some 73, op := _, type := _, pos := _, after := _, guard := _ }) (v := .int .i64 ((j : Int) + 2)) rfl (by kernel_rfl) (by kernel_rfl) (by kernel_rfl) (by rfl) (fun _ _ _ h => h) (Or.inl ⟨by rfl, ?_⟩) (fun _ => by assumption) ?_
              · (intro W hSw; (try dsimp only at hSw); go_simp; try (with_reducible rfl))
              try simp only [Act.put, List.setIfInBounds_toArray, List.set_cons_zero, List.set_cons_succ]
              refine Rg.anyG_pure (i := 15) (oi := { dst := some 74, op := _, type := _, pos := _, after := _, guard := _ }) (v := ?_) rfl (by kernel_rfl) (by kernel_rfl) (by kernel_rfl) (by rfl) (fun _ _ _ h => h) (Or.inl ⟨by rfl, ?_⟩) (fun _ => by assumption) ?_
              rotate_left
              · (intro W hSw; (try dsimp only at hSw); go_simp; try (with_reducible rfl))
              try simp only [Act.put, List.setIfInBounds_toArray, List.set_cons_zero, List.set_cons_succ]
              refine Rg.anyG_take (i := 16) (oi := { dst := some 75, op := _, type := _, pos := _, after := _, guard := _ }) (v := ?_) rfl (by kernel_rfl) (by kernel_rfl) (by kernel_rfl) [21] (by kernel_rfl) (fun _ _ _ h => h) (Or.inl ⟨by rfl, ?_⟩) (by assumption) ?_
              rotate_left
              · (intro W hSw; (try dsimp only at hSw); go_simp; try (with_reducible rfl))
              try simp only [Act.put, List.setIfInBounds_toArray, List.set_cons_zero, List.set_cons_succ]
              refine Rg.anyG_pure (i := 17) (oi := { dst := some 76, op := _, type := _, pos := _, after := _, guard := _ }) (v := .agg #[.int .i64 x0, .int .i64 x1, .int .i64 x9]) rfl (by kernel_rfl) (by kernel_rfl) (by kernel_rfl) (by rfl) (fun _ _ _ h => h) (Or.inl ⟨by rfl, ?_⟩) (fun _ => by assumption) ?_
              · (intro W hSw; (try dsimp only at hSw); go_simp; try (with_reducible rfl))
              try simp only [Act.put, List.setIfInBounds_toArray, List.set_cons_zero, List.set_cons_succ]
              refine Rg.anyG_ready (rs := [18]) (by kernel_rfl) (by simp) ?_
              refine (Rg.AllG.cons (o := { dst := some 77, op := _, type := _, pos := _, after := _, guard := _ }) rfl (fun K hK => ?_) Rg.AllG.nil)
              have hal : Below V0.heap.size V0 (V0.alloc (.cells #[.int .i64 x0, .int .i64 x1, .int .i64 x9] 63)) := (Below.refl _ _).alloc (Nat.le_refl _) _
              have HLA := mkH (own_below HLV.out hal)
              have HVA := mkH (HVV.out.trans (hal.mono HVV.out.size))
              have HSR := mkH (newP V0 (x0, x1, x9) 63)
              obtain ⟨q0, q1, q2, q3⟩ := HCC.out (V0.alloc (.cells #[.int .i64 x0, .int .i64 x1, .int .i64 x9] 63)) HVA.out
              go_simp
              refine hK.out _ _ ?_ (fun hHeld => ?_)
              · exact ⟨q0, q1, q2, q3⟩
              clear hK K
              try simp only [Act.put, List.setIfInBounds_toArray, List.set_cons_zero, List.set_cons_succ]
              clear hal q0 q1 q2 q3
              refine Rg.anyG_ready (rs := [19]) (by kernel_rfl) (by simp) ?_
              refine (Rg.AllG.cons (o := { dst := some 78, op := _, type := _, pos := _, after := _, guard := _ }) rfl (fun K hK => ?_) Rg.AllG.nil)
              refine step_append_own_src (by rfl) (.tmp 60) (.tmp 77) 22 22 (by rfl) (B11 + 1) 63 (.agg #[.int .i64 0, .int .i64 0, .int .i64 0]) 3 24 Try.underlying22 infoP (by rfl) (by decide) (.slice aL k cL) k (Fp P0) (by rfl) (by exact HLA.out) (.slice (some ⟨V0.heap.size, 0, none⟩) 1 1) 1 (Fp [(x0, x1, x9)]) (by rfl) (by exact HSR.out) (by unfold maxLen; omega) (by omega) (by have := HVA.out.size; omega) ?_
              intro v2 w8 hown2 hgrow2
              have hform := own_form hown2
              obtain ⟨a8, k8, rfl⟩ := hform
              have hb8 : Below (B11 + 1) wr w8 := (HVA.out.mono (by omega)).grown hgrow2 (by have := HVA.out.size; omega) (fun j hj => (HLA.out.lt j hj).1)
              obtain ⟨⟨p0', p1', p2', p3'⟩, z0⟩ := HC2.out w8 hb8
              have HO8 := mkH hown2
              have HB8 := mkH hb8
              clear hown2 hgrow2 hb8
              refine hK.out _ _ ?_ (fun hHeld => ?_)
              · exact ⟨p0', p1', p2', p3'⟩
              clear hK K
              try simp only [Act.put, List.setIfInBounds_toArray, List.set_cons_zero, List.set_cons_succ]
              refine Rg.anyG_pure (i := 20) (oi := { dst := some 79, op := _, type := _, pos := _, after := _, guard := _ }) (v := ?_) rfl (by kernel_rfl) (by kernel_rfl) (by kernel_rfl) (by rfl) (fun _ _ _ h => h) (Or.inl ⟨by rfl, ?_⟩) (fun _ => by assumption) ?_
              rotate_left
              · (intro W hSw; (try dsimp only at hSw); go_simp; try (with_reducible rfl))
              try simp only [Act.put, List.setIfInBounds_toArray, List.set_cons_zero, List.set_cons_succ]
              refine Rg.anyG_ready (rs := [21]) (by kernel_rfl) (by simp) ?_
              refine Rg.AllG.last (o := { dst := none, op := _, type := _, pos := _, after := _, guard := _ }) rfl (by kernel_rfl) (fun K hK => ?_)
              go_simp
              refine hK.out _ _ ?_
              clear hK K
              try simp only [Act.put, List.setIfInBounds_toArray, List.set_cons_zero, List.set_cons_succ]
              refine Rg.anyG_done (by kernel_rfl) ?_ _
              have hxs := (HXC.out.below HB8.out (Nat.lt_succ_self _))
              have hst := hxs.set 1 (.slice a8 (k + 1) k8)
              have hos := own_fr HO8.out (hxs.frset 1 (.slice a8 (k + 1) k8)) (fun j hj hq => own_ne HO8.out hxs hj (by decide) hq)
              have hbs : Below B11 wA (w8.setCell ⟨B11, 1, none⟩ (.slice a8 (k + 1) k8)) := (HBC.out.trans (HB8.out.mono (by omega))).setCell (Nat.le_refl _) _
              have hos2 : (w8.setCell ⟨B11, 1, none⟩ (.slice a8 (k + 1) k8)).ownsRow (B11 + 1) 63 3 (.slice a8 (k + 1) k8) (k + 1) (Fp (pcs (R.take (3 * (k + 1))))) := by
                rw [HP.out]
                show World.ownsRow _ _ _ _ _ _ (Fl pC (P0 ++ [(x0, x1, x9)]))
                rw [Fl_append]; exact hos
              have HS1 := mkH hst
              have HS2 := mkH hos2
              have HS3 := mkH hbs
              clear hxs hst hos hbs hos2 p0' p1' p2' p3' z0 HO8 HB8
              go_wp2
              go_roundw
              case rel => exact ⟨k + 1, j + 3, a8, k8, by have := HJ.out; omega, by omega, by go_num, HS1, HS2, HS3⟩
              case measure => simp [intOf]; omega
            · have hjN2 : N ≤ j := by omega
              have h3k : 3 * k = R.length := by omega
              obtain ⟨P, hP⟩ : ∃ P, P = pcs R := ⟨_, rfl⟩
              have hPl : P.length = k := by rw [hP, pcs_len]; omega
              rw [h3k, List.take_length, ← hP] at HLC
              have HPE := mkH hP
              obtain ⟨j', hj'⟩ : ∃ j', j' = j := ⟨_, rfl⟩
              have hJN : Hid (j = N) := mkH (by omega)
              obtain rfl : k = P.length := hPl.symm
              have HNM : Hid (Nums bs (e0 :: kk :: R)) := mkH (by rw [← HLR.out]; exact HN.out)
              have HON : Hid (OwP wr w.heap.size aL cL P) := mkH ⟨own_mono HLC.out (by omega)⟩
              have HDM := mkH (rdump_any wr e0 aL cL P HON.out.rd (by omega))
              have HBF0 : Hid (Below (w.heap.size + 2) W1 wr) := mkH (HB.out.trans (HBC.out.mono (by omega)))
              have HXr2 := mkH (HX1.out.below HBF0.out (by omega))
              obtain ⟨c0, c1', -, -⟩ := two_load (P := Try.prog) HXC.out
              have j0 : ¬ (j : Int) < (N : Int) := by omega
              have hPb : P.length ≤ 400 := by omega
              clear hj hP hPl h3k HLC HXr
              go_wp2_with fail
              refine HDM.out.mono ?_
              rintro x w6 ⟨rfl, hb6⟩
              have HXC6 := mkH (HXC.out.bel hb6)
              have HXr := mkH (HXr2.out.bel hb6)
              have HB : Hid (Below (w.heap.size + 2) W1 w6) := mkH (HBF0.out.trans (hb6.mono (by have := HBF0.out.size; omega)))
              have HO6 : Hid (OwP w6 w.heap.size aL cL P) := mkH (HON.out.below hb6)
              clear HDM hb6 HXr2 HBF0 HON c0 c1' HXC HBC
              obtain ⟨c0, c1', -, -⟩ := two_load (P := Try.prog) HXC6.out
              obtain ⟨m0, m1, m2, m3⟩ := two_load (P := Try.prog) HXr.out
              cases hm : mayC e0 P with
              | false =>
                have HBAD : Hid (¬ ∃ e ps, Ld.Good bs e ps) := mkH (bad_eq hl HNM.out (.inr (by rw [← HPE.out]; exact hm)))
                rw [dmpV_not hm]
                clear hm
                have k := HXr.out.set 0 (.int .i64 0)
                have k2 := k.set 1 (.slice none 0 0)
                obtain ⟨y0, y1, -, -⟩ := two_load (P := Try.prog) k2
                have HBF := mkH (((HB1.out.trans (HB.out.mono (by omega))).setCell (p := ⟨w.heap.size, 0, none⟩) (by simp) (.int .i64 0)).setCell (p := ⟨w.heap.size, 1, none⟩) (by simp) (.slice none 0 0))
                clear k k2
                go_wp2
                exact bodyPost_ret (v := .tuple #[.agg #[.int .i64 0, .slice none 0 0], .int .i64 5]) (res_ct rfl _ _ _ (x := .agg #[.int .i64 0, .slice none 0 0]) (y := .int .i64 5) (b := ⟨w.heap.size, 0, none⟩) (by rfl) (by rfl) (by simp [loadVar, go_sem, y0, y1])) rfl ⟨HBF.out, .inr ⟨HBAD.out, rfl⟩⟩
              | true =>
                obtain ⟨T, hT⟩ : ∃ T, T = txt (Cu.nums e0 P.length P) := ⟨_, rfl⟩
                rw [dmpV_may hm, ← hT]
                by_cases hTb : T = bs
                · have HG : Hid (Ld.Good bs e0 P) := mkH ⟨hm, hT.symm.trans hTb⟩
                  have hSS : ((S T).toList == (S bs).toList) = true := by rw [S_toList, S_toList, hTb]; simp
                  obtain ⟨f1, f2, y0, y1⟩ := move_fin HXr.out HO6.out (HB1.out.trans (HB.out.mono (by omega))) (Nat.le_refl _) e0
                  have HF1 := mkH f1
                  have HF2 := mkH f2
                  clear f1 f2 hm hT hTb
                  go_wp2
                  exact bodyPost_ret (v := .tuple #[.agg #[.int .i64 e0, .slice aL P.length cL], .int .i64 0]) (res_ct rfl _ _ _ (x := .agg #[.int .i64 e0, .slice aL P.length cL]) (y := .int .i64 0) (b := ⟨w.heap.size, 0, none⟩) (by rfl) (by rfl) (by simp [loadVar, go_sem, y0, y1])) rfl ⟨HF2.out, .inl ⟨e0, P, aL, cL, HG.out, hPb, rfl, HF1.out.rd⟩⟩
                · have HBAD : Hid (¬ ∃ e ps, Ld.Good bs e ps) := mkH (by
                    rintro ⟨e', ps', g⟩
                    obtain ⟨rfl, rfl⟩ := good_only hl HNM.out g
                    rw [← HPE.out] at g
                    exact hTb (hT.trans g.2))
                  have hSS : ((S T).toList == (S bs).toList) = false := by rw [S_toList, S_toList]; simpa using hTb
                  clear hm hT hTb
                  have k := HXr.out.set 0 (.int .i64 0)
                  have k2 := k.set 1 (.slice none 0 0)
                  obtain ⟨y0, y1, -, -⟩ := two_load (P := Try.prog) k2
                  have HBF := mkH (((HB1.out.trans (HB.out.mono (by omega))).setCell (p := ⟨w.heap.size, 0, none⟩) (by simp) (.int .i64 0)).setCell (p := ⟨w.heap.size, 1, none⟩) (by simp) (.slice none 0 0))
                  clear k k2
                  go_wp2
                  exact bodyPost_ret (v := .tuple #[.agg #[.int .i64 0, .slice none 0 0], .int .i64 5]) (res_ct rfl _ _ _ (x := .agg #[.int .i64 0, .slice none 0 0]) (y := .int .i64 5) (b := ⟨w.heap.size, 0, none⟩) (by rfl) (by rfl) (by simp [loadVar, go_sem, y0, y1])) rfl ⟨HBF.out, .inr ⟨HBAD.out, rfl⟩⟩
        · have HBAD : Hid (¬ ∃ e ps, Ld.Good bs e ps) := mkH (bad_len hl HN.out (.inr hs3))
          have g1 : ¬ (L.length : Int) < 2 := by omega
          have g2 : ¬ ((L.length : Int) - 2).tmod 3 = 0 := by
            rw [Int.tmod_eq_emod_of_nonneg (by omega)]; omega
          have g3 : IntKind.i64.wrap ((L.length : Int) - 2) = (L.length : Int) - 2 := IntWalk.i64_in _ (by omega)
          have g4 : ((((L.length : Int) - 2).tmod 3) != 0) = true := by simp [g2]
          have g5 : ((((L.length : Int) - 2) % 3) != 0) = true := by simp; omega
          have g6 : (0 : Int) ≤ (L.length : Int) - 2 := by omega
          clear hs2 hs3
          have k := HXr.out.set 0 (.int .i64 0)
          have k2 := k.set 1 (.slice none 0 0)
          obtain ⟨y0, y1, -, -⟩ := two_load (P := Try.prog) k2
          have HBF := mkH (((HB1.out.trans (HB.out.mono (by omega))).setCell (p := ⟨w.heap.size, 0, none⟩) (by simp) (.int .i64 0)).setCell (p := ⟨w.heap.size, 1, none⟩) (by simp) (.slice none 0 0))
          clear k k2
          go_wp2
          exact bodyPost_ret (v := .tuple #[.agg #[.int .i64 0, .slice none 0 0], .int .i64 5]) (res_ct rfl _ _ _ (x := .agg #[.int .i64 0, .slice none 0 0]) (y := .int .i64 5) (b := ⟨w.heap.size, 0, none⟩) (by rfl) (by rfl) (by simp [loadVar, go_sem, y0, y1])) rfl ⟨HBF.out, .inr ⟨HBAD.out, rfl⟩⟩
end Go.Proofs.Ytcpmcfagibmboaa.Le
