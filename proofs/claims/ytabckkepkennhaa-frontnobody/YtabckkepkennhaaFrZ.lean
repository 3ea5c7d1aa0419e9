/-
  The document's First chart. Written by gen_frz.py.
-/
import Derived.Test.YtabckkepkennhaaFrI
import Derived.Test.YtabckkepkennhaaRgG
import Derived.Deep.AppendSrc
namespace Go.Proofs.Ytabckkepkennhaa.Fz
open Go.RowKit Kt Gf Gk Go.Proofs.Ytabckkepkennhaa.Ks
open Cr (RdP OwP)
open Cp (Pc fst fst_len)
set_option linter.unusedVariables false
set_option linter.unusedSimpArgs false
set_option maxRecDepth 20000

set_option maxHeartbeats 4000000 in
theorem rfirst_any (w : World) (m : Nat) (h1 : 1 ≤ m) (h6 : m ≤ 6) : Calls Try.prog 24 #[.int .i64 m] w fun x w' => ∃ a c, x = .returned (.tuple #[.agg #[.int .i64 1, .slice a m c], .int .i64 0]) ∧ RdP w' a c (fst m) ∧ Below w.heap.size w w' := by
  have hmx : Try.prog.follows .mixedOrders = true := by kernel_rfl
  have hi1 : (1 : Int) ≤ (m : Int) := by omega
  have hi6 : (m : Int) ≤ 6 := by omega
  go_enter Try.func24, Try.ntmps24
  go_wp2_with (refine Gk.wpList_st rfl (ty := 40) (x := .tmp 4) (y := .tmp 13) (cs := #[.int .i64 1, .slice none 0 0]) (old := #[.int .i64 0, .slice none 0 0]) rfl rfl rfl (Bx.new1 _ _ _ _) Fi.infoCh rfl (by rw [List.all_toArray]; rfl) ?_)
  have HC0 : Hid (Bx (((w.alloc (.cells #[.int .i64 0, .slice none 0 0] 40)).alloc (.cells #[.int .i64 0, .slice none 0 0] 40)).setRow (w.heap.size + 1) #[.int .i64 1, .slice none 0 0]) (w.heap.size + 1) #[.int .i64 1, .slice none 0 0] 40) := mkH ((Bx.new1 _ _ _ _).row)
  have HR0 : Hid (Bx (((w.alloc (.cells #[.int .i64 0, .slice none 0 0] 40)).alloc (.cells #[.int .i64 0, .slice none 0 0] 40)).setRow (w.heap.size + 1) #[.int .i64 1, .slice none 0 0]) w.heap.size #[.int .i64 0, .slice none 0 0] 40) := mkH (((Bx.new _ _ _).alloc _).rowOther (by omega) _)
  have HB0 : Hid (Below w.heap.size w (((w.alloc (.cells #[.int .i64 0, .slice none 0 0] 40)).alloc (.cells #[.int .i64 0, .slice none 0 0] 40)).setRow (w.heap.size + 1) #[.int .i64 1, .slice none 0 0])) := mkH (below_setRow (((Below.refl _ w).alloc (Nat.le_refl _) _).alloc (by simp) _) (by omega) _)
  have HB4L : Hid (w.heap.size ≤ w.heap.size + 1) := mkH (by omega)
  generalize ((w.alloc (.cells #[.int .i64 0, .slice none 0 0] 40)).alloc (.cells #[.int .i64 0, .slice none 0 0] 40)).setRow (w.heap.size + 1) #[.int .i64 1, .slice none 0 0] = W0 at *
  have HNQ : Hid (w.heap.size < w.heap.size + 1) := mkH (by omega)
  generalize w.heap.size + 1 = B4 at *
  go_loopw [5] (fun i wr => ∃ (k : Nat) (l : Option Addr) (c : Nat), k ≤ m ∧ i = .int .i64 k ∧ Hid (Bx wr B4 #[.int .i64 1, .slice l k c] 40) ∧ Hid (wr.ownsRow (B4 + 1) 97 3 (.slice l k c) k (Cr.Fp ((fst m).take k))) ∧ Hid (Bx wr w.heap.size #[.int .i64 0, .slice none 0 0] 40) ∧ Hid (Below w.heap.size w wr)) (fun i _ => m - (intOf i).toNat)
  case atStart => exact ⟨0, none, 0, Nat.zero_le _, rfl, HC0, mkH (by simpa [Cr.Fp, Cr.Fl] using World.ownsRow_nil W0 _ _ _), HR0, HB0⟩
  case round =>
    obtain ⟨k, l, c, hk, rfl, HC4, HO4, HR4, HB4⟩ := hrel
    by_cases hlt : k < m
    · have hi : (k : Int) < (m : Int) := by omega
      have hi0 : (0 : Int) ≤ (k : Int) := by omega
      have hb1 : 65536 * (k : Int) / (m : Int) ≤ 65536 * (k : Int) := Int.ediv_le_self _ (by omega)
      have hb2 : 65536 * ((k : Int) + 1) / (m : Int) ≤ 65536 * ((k : Int) + 1) := Int.ediv_le_self _ (by omega)
      have a1 : IntKind.i64.wrap (65536 * (k : Int)) = 65536 * (k : Int) := IntWalk.i64_in _ (by omega)
      have a2 : IntKind.i64.wrap ((65536 * (k : Int)).tdiv (m : Int)) = 65536 * (k : Int) / (m : Int) := IntWalk.i64_quo _ _ (by omega)
      have a3 : IntKind.i64.wrap ((k : Int) + 1) = (k : Int) + 1 := IntWalk.i64_in _ (by omega)
      have a4 : IntKind.i64.wrap (65536 * ((k : Int) + 1)) = 65536 * ((k : Int) + 1) := IntWalk.i64_in _ (by omega)
      have a5 : IntKind.i64.wrap ((65536 * ((k : Int) + 1)).tdiv (m : Int)) = 65536 * ((k : Int) + 1) / (m : Int) := IntWalk.i64_quo _ _ (by omega)
      have a6 : ¬ (m : Int) = 0 := by omega
      have a7 : ¬ m = 0 := by omega
      have hx : (fst m).take (k + 1) = (fst m).take k ++ [(65536 * (k : Int) / (m : Int), 65536 * ((k : Int) + 1) / (m : Int), (k : Int) + 1)] := by
        rw [List.take_add_one, show (fst m)[k]? = some (65536 * (k : Int) / (m : Int), 65536 * ((k : Int) + 1) / (m : Int), (k : Int) + 1) from by unfold fst; rw [List.getElem?_map, List.getElem?_range hlt]; rfl]; rfl
      have HXX := mkH hx
      clear hx hb1 hb2 HC0 HR0 HB0
      generalize (fst m).take k = P0 at *
      generalize 65536 * (k : Int) / (m : Int) = X1 at *
      generalize 65536 * ((k : Int) + 1) / (m : Int) = X2 at *
      go_wp2_with fail
      refine Rg.region_G hmx 18 (fun W => W.cell? ⟨B4, 1, none⟩ = some (.slice l k c)) (HC4.out.cell 1 _ rfl) (fun hHeld => ?_)
      have HC5 := mkH (show Bx wr.drew B4 #[.int .i64 1, .slice l k c] 40 from HC4.out)
      have HO5 := mkH (Nr.own_below HO4.out (Below.refl _ _).drew)
      have HB5 := mkH HB4.out.drew
      have HR5 := mkH (show Bx wr.drew w.heap.size #[.int .i64 0, .slice none 0 0] 40 from HR4.out)
      generalize wr.drew = V0 at *
      refine Rg.anyG_pure (i := 0) (oi := { dst := some 19, op := _, type := _, pos := _, after := _, guard := _ }) (v := ?_) rfl (by kernel_rfl) (by kernel_rfl) (by kernel_rfl) (by rfl) (fun _ _ _ h => h) (Or.inl ⟨by rfl, ?_⟩) (fun _ => by assumption) ?_
      rotate_left
      · (intro W hSw; (try dsimp only at hSw); go_simp; try (with_reducible rfl))
      try simp only [Act.put, List.setIfInBounds_toArray, List.set_cons_zero, List.set_cons_succ]
      refine Rg.anyG_take (i := 1) (oi := { dst := some 20, op := _, type := _, pos := _, after := _, guard := _ }) (v := .slice l k c) rfl (by kernel_rfl) (by kernel_rfl) (by kernel_rfl) [18] (by kernel_rfl) (fun _ _ _ h => h) (Or.inl ⟨by rfl, ?_⟩) (by assumption) ?_
      · (intro W hSw; (try dsimp only at hSw); go_simp)
      try simp only [Act.put, List.setIfInBounds_toArray, List.set_cons_zero, List.set_cons_succ]
      refine Rg.anyG_pure (i := 2) (oi := { dst := some 21, op := _, type := _, pos := _, after := _, guard := _ }) (v := ?_) rfl (by kernel_rfl) (by kernel_rfl) (by kernel_rfl) (by rfl) (fun _ _ _ h => h) (Or.inl ⟨by rfl, ?_⟩) (fun _ => by assumption) ?_
      rotate_left
      · (intro W hSw; (try dsimp only at hSw); go_simp; try (with_reducible rfl))
      try simp only [Act.put, List.setIfInBounds_toArray, List.set_cons_zero, List.set_cons_succ]
      refine Rg.anyG_pure (i := 3) (oi := { dst := some 22, op := _, type := _, pos := _, after := _, guard := _ }) (v := .int .i64 (65536 * (k : Int))) rfl (by kernel_rfl) (by kernel_rfl) (by kernel_rfl) (by rfl) (fun _ _ _ h => h) (Or.inl ⟨by rfl, ?_⟩) (fun _ => by assumption) ?_
      · (intro W hSw; (try dsimp only at hSw); (clear hSw; go_simp))
      try simp only [Act.put, List.setIfInBounds_toArray, List.set_cons_zero, List.set_cons_succ]
      refine Rg.anyG_pure (i := 4) (oi := { dst := some 23, op := _, type := _, pos := _, after := _, guard := _ }) (v := ?_) rfl (by kernel_rfl) (by kernel_rfl) (by kernel_rfl) (by rfl) (fun _ _ _ h => h) (Or.inl ⟨by rfl, ?_⟩) (fun _ => by assumption) ?_
      rotate_left
      · (intro W hSw; (try dsimp only at hSw); go_simp; try (with_reducible rfl))
      try simp only [Act.put, List.setIfInBounds_toArray, List.set_cons_zero, List.set_cons_succ]
      refine Rg.anyG_pure (i := 5) (oi := { dst := some 24, op := _, type := _, pos := _, after := _, guard := _ }) (v := .int .i64 X1) rfl (by kernel_rfl) (by kernel_rfl) (by kernel_rfl) (by rfl) (fun _ _ _ h => h) (Or.inl ⟨by rfl, ?_⟩) (fun _ => by assumption) ?_
      · (intro W hSw; (try dsimp only at hSw); (clear hSw; go_simp))
      try simp only [Act.put, List.setIfInBounds_toArray, List.set_cons_zero, List.set_cons_succ]
      refine Rg.anyG_pure (i := 6) (oi := { dst := some 25, op := _, type := _, pos := _, after := _, guard := _ }) (v := ?_) rfl (by kernel_rfl) (by kernel_rfl) (by kernel_rfl) (by rfl) (fun _ _ _ h => h) (Or.inl ⟨by rfl, ?_⟩) (fun _ => by assumption) ?_
      rotate_left
      · (intro W hSw; (try dsimp only at hSw); go_simp; try (with_reducible rfl))
      try simp only [Act.put, List.setIfInBounds_toArray, List.set_cons_zero, List.set_cons_succ]
      refine Rg.anyG_pure (i := 7) (oi := { dst := some 26, op := _, type := _, pos := _, after := _, guard := _ }) (v := .int .i64 ((k : Int) + 1)) rfl (by kernel_rfl) (by kernel_rfl) (by kernel_rfl) (by rfl) (fun _ _ _ h => h) (Or.inl ⟨by rfl, ?_⟩) (fun _ => by assumption) ?_
      · (intro W hSw; (try dsimp only at hSw); (clear hSw; go_simp))
      try simp only [Act.put, List.setIfInBounds_toArray, List.set_cons_zero, List.set_cons_succ]
      refine Rg.anyG_pure (i := 8) (oi := { dst := some 27, op := _, type := _, pos := _, after := _, guard := _ }) (v := .int .i64 (65536 * ((k : Int) + 1))) rfl (by kernel_rfl) (by kernel_rfl) (by kernel_rfl) (by rfl) (fun _ _ _ h => h) (Or.inl ⟨by rfl, ?_⟩) (fun _ => by assumption) ?_
      · (intro W hSw; (try dsimp only at hSw); (clear hSw; go_simp))
      try simp only [Act.put, List.setIfInBounds_toArray, List.set_cons_zero, List.set_cons_succ]
      refine Rg.anyG_pure (i := 9) (oi := { dst := some 28, op := _, type := _, pos := _, after := _, guard := _ }) (v := ?_) rfl (by kernel_rfl) (by kernel_rfl) (by kernel_rfl) (by rfl) (fun _ _ _ h => h) (Or.inl ⟨by rfl, ?_⟩) (fun _ => by assumption) ?_
      rotate_left
      · (intro W hSw; (try dsimp only at hSw); go_simp; try (with_reducible rfl))
      try simp only [Act.put, List.setIfInBounds_toArray, List.set_cons_zero, List.set_cons_succ]
      refine Rg.anyG_pure (i := 10) (oi := { dst := some 29, op := _, type := _, pos := _, after := _, guard := _ }) (v := .int .i64 X2) rfl (by kernel_rfl) (by kernel_rfl) (by kernel_rfl) (by rfl) (fun _ _ _ h => h) (Or.inl ⟨by rfl, ?_⟩) (fun _ => by assumption) ?_
      · (intro W hSw; (try dsimp only at hSw); (clear hSw; go_simp))
      try simp only [Act.put, List.setIfInBounds_toArray, List.set_cons_zero, List.set_cons_succ]
      refine Rg.anyG_pure (i := 11) (oi := { dst := some 30, op := _, type := _, pos := _, after := _, guard := _ }) (v := .agg #[.int .i64 X1, .int .i64 X2]) rfl (by kernel_rfl) (by kernel_rfl) (by kernel_rfl) (by rfl) (fun _ _ _ h => h) (Or.inl ⟨by rfl, ?_⟩) (fun _ => by assumption) ?_
      · (intro W hSw; (try dsimp only at hSw); (clear hSw; go_simp))
      try simp only [Act.put, List.setIfInBounds_toArray, List.set_cons_zero, List.set_cons_succ]
      refine Rg.anyG_pure (i := 12) (oi := { dst := some 31, op := _, type := _, pos := _, after := _, guard := _ }) (v := ?_) rfl (by kernel_rfl) (by kernel_rfl) (by kernel_rfl) (by rfl) (fun _ _ _ h => h) (Or.inl ⟨by rfl, ?_⟩) (fun _ => by assumption) ?_
      rotate_left
      · (intro W hSw; (try dsimp only at hSw); go_simp; try (with_reducible rfl))
      try simp only [Act.put, List.setIfInBounds_toArray, List.set_cons_zero, List.set_cons_succ]
      refine Rg.anyG_pure (i := 13) (oi := { dst := some 32, op := _, type := _, pos := _, after := _, guard := _ }) (v := .int .i64 ((k : Int) + 1)) rfl (by kernel_rfl) (by kernel_rfl) (by kernel_rfl) (by rfl) (fun _ _ _ h => h) (Or.inl ⟨by rfl, ?_⟩) (fun _ => by assumption) ?_
      · (intro W hSw; (try dsimp only at hSw); (clear hSw; go_simp))
      try simp only [Act.put, List.setIfInBounds_toArray, List.set_cons_zero, List.set_cons_succ]
      refine Rg.anyG_pure (i := 14) (oi := { dst := some 33, op := _, type := _, pos := _, after := _, guard := _ }) (v := .agg #[.int .i64 X1, .int .i64 X2, .int .i64 ((k : Int) + 1)]) rfl (by kernel_rfl) (by kernel_rfl) (by kernel_rfl) (by rfl) (fun _ _ _ h => h) (Or.inl ⟨by rfl, ?_⟩) (fun _ => by assumption) ?_
      · (intro W hSw; (try dsimp only at hSw); (clear hSw; go_simp))
      try simp only [Act.put, List.setIfInBounds_toArray, List.set_cons_zero, List.set_cons_succ]
      refine Rg.anyG_ready (rs := [15]) (by kernel_rfl) (by simp) ?_
      refine (Rg.AllG.cons (o := { dst := some 34, op := _, type := _, pos := _, after := _, guard := _ }) rfl (fun K hK => ?_) Rg.AllG.nil)
      have HC6 : Hid (Bx (V0.alloc (.cells #[.int .i64 X1, .int .i64 X2, .int .i64 ((k : Int) + 1)] 97)) B4 #[.int .i64 1, .slice l k c] 40) := mkH (HC5.out.alloc _)
      have HO6 : Hid ((V0.alloc (.cells #[.int .i64 X1, .int .i64 X2, .int .i64 ((k : Int) + 1)] 97)).ownsRow (B4 + 1) 97 3 (.slice l k c) k (Cr.Fp P0)) := mkH (Nr.own_below HO5.out ((Below.refl _ _).alloc (Nat.le_refl _) _))
      have HB6 : Hid (Below w.heap.size w (V0.alloc (.cells #[.int .i64 X1, .int .i64 X2, .int .i64 ((k : Int) + 1)] 97))) := mkH (HB5.out.alloc HB5.out.size _)
      have HSR : Hid (Src Try.prog 3 38 (.slice (some ⟨V0.heap.size, 0, none⟩) 1 1) 1 (Cr.Fp [(X1, X2, (k : Int) + 1)]) (V0.alloc (.cells #[.int .i64 X1, .int .i64 X2, .int .i64 ((k : Int) + 1)] 97))) := mkH (Cr.newP V0 (X1, X2, (k : Int) + 1) 97)
      have HR6 : Hid (Bx (V0.alloc (.cells #[.int .i64 X1, .int .i64 X2, .int .i64 ((k : Int) + 1)] 97)) w.heap.size #[.int .i64 0, .slice none 0 0] 40) := mkH (HR5.out.alloc _)
      have HS6 : Hid (B4 + 1 ≤ (V0.alloc (.cells #[.int .i64 X1, .int .i64 X2, .int .i64 ((k : Int) + 1)] 97)).heap.size) := mkH (by have := HC5.out.lt; simp; omega)
      go_simp
      refine hK.out _ _ ?_ (fun hHeld => ?_)
      · exact HC6.out.cell 1 _ rfl
      clear hK K
      try simp only [Act.put, List.setIfInBounds_toArray, List.set_cons_zero, List.set_cons_succ]
      refine Rg.anyG_ready (rs := [16]) (by kernel_rfl) (by simp) ?_
      refine (Rg.AllG.cons (o := { dst := some 35, op := _, type := _, pos := _, after := _, guard := _ }) rfl (fun K hK => ?_) Rg.AllG.nil)
      refine step_append_own_src (by rfl) (.tmp 20) (.tmp 34) 38 38 (by rfl) (B4 + 1) 97 (.agg #[.int .i64 0, .int .i64 0, .int .i64 0]) 3 24 Try.underlying38 Cr.infoP (by rfl) (by decide) (.slice l k c) k (Cr.Fp P0) (by rfl) (by exact HO6.out) (.slice (some ⟨V0.heap.size, 0, none⟩) 1 1) 1 (Cr.Fp [(X1, X2, (k : Int) + 1)]) (by rfl) (by exact HSR.out) (by unfold maxLen; omega) (by omega) (by exact HS6.out) ?_
      intro v2 w8 hown2 hgrow2
      have hform := own_form hown2
      obtain ⟨a8, k8, rfl⟩ := hform
      have hfr := Gf.fr_grown hgrow2
      have HKB : Hid (∀ q, (Value.slice l k c).ownBlock = some q → B4 + 1 ≤ q) := mkH (fun q hq => (HO6.out.lt q hq).1)
      have HC8 := mkH (HC6.out.fr hfr (fun hq => by have := HKB.out _ hq; omega))
      have HB8 := mkH (below_fr HB6.out hfr (fun q hq => by have h1 := HKB.out q hq; have h2 := HB4L.out; omega) (Nat.le_refl _))
      have HO8 := mkH hown2
      have HR8 := mkH (HR6.out.fr hfr (fun hq => by have h1 := HKB.out _ hq; have h2 := HNQ.out; omega))
      clear hown2 hgrow2 hfr
      refine hK.out _ _ ?_ (fun hHeld => ?_)
      · exact HC8.out.cell 1 _ rfl
      clear hK K
      try simp only [Act.put, List.setIfInBounds_toArray, List.set_cons_zero, List.set_cons_succ]
      have f1 := HC8.out.frozen 1
      refine Rg.anyG_pure (i := 17) (oi := { dst := some 36, op := _, type := _, pos := _, after := _, guard := _ }) (v := ?_) rfl (by kernel_rfl) (by kernel_rfl) (by kernel_rfl) (by rfl) (fun _ _ _ h => h) (Or.inl ⟨by rfl, ?_⟩) (fun _ => by assumption) ?_
      rotate_left
      · (intro W hSw; (try dsimp only at hSw); go_simp; try (with_reducible rfl))
      try simp only [Act.put, List.setIfInBounds_toArray, List.set_cons_zero, List.set_cons_succ]
      refine Rg.anyG_ready (rs := [18]) (by kernel_rfl) (by simp) ?_
      refine Rg.AllG.last (o := { dst := none, op := _, type := _, pos := _, after := _, guard := _ }) rfl (by kernel_rfl) (fun K hK => ?_)
      go_simp
      refine hK.out _ _ ?_
      clear hK K
      try simp only [Act.put, List.setIfInBounds_toArray, List.set_cons_zero, List.set_cons_succ]
      refine Rg.anyG_done (by kernel_rfl) ?_ _
      have HC9 := mkH (HC8.out.set 1 (.slice a8 (k + 1) k8))
      have HR9 := mkH (HR8.out.other (p := ⟨B4, 1, none⟩) (Nat.ne_of_gt HNQ.out) (.slice a8 (k + 1) k8))
      have HO9 : Hid (World.ownsRow (w8.setCell ⟨B4, 1, none⟩ (.slice a8 (k + 1) k8)) (B4 + 1) 97 3 (.slice a8 (k + 1) k8) (k + 1) (Cr.Fp ((fst m).take (k + 1)))) := mkH (by
        rw [HXX.out]
        show World.ownsRow _ _ _ _ _ _ (Cr.Fl Cr.pC _)
        rw [Cr.Fl_append]
        exact Nr.own_fr HO8.out (HC8.out.frset 1 _) (fun j hj hq => Gk.own_ne HO8.out HC8.out hj (by decide) hq))
      have HB9 := mkH (HB8.out.setCell (p := ⟨B4, 1, none⟩) (Nat.le_of_lt HNQ.out) (.slice a8 (k + 1) k8))
      clear HC8 HR8 HO8 HB8 f1 hHeld
      go_wp2
      go_roundw
      case rel => exact ⟨k + 1, a8, k8, by omega, by go_num, HC9, HO9, HR9, HB9⟩
      case measure => simp [intOf]; omega
    · have : k = m := by omega
      subst this
      rw [List.take_of_length_le (by rw [fst_len]; exact Nat.le_refl _)] at HO4
      go_wp2_with (first
        | (refine Gk.wpList_ld (ty := 40) (x := .tmp 4) (p := ⟨B4, 0, none⟩) (v := .agg #[.int .i64 1, .slice l k c]) rfl rfl rfl (Fi.load_ch HC4.out) ?_)
        | (refine Gk.wpList_st rfl (ty := 40) (x := .tmp 2) (y := .tmp 37) (cs := #[.int .i64 1, .slice l k c]) (old := #[.int .i64 0, .slice none 0 0]) rfl rfl rfl HR4.out Fi.infoCh rfl (by rw [List.all_toArray]; rfl) ?_))
      have hz := HR4.out.row (cs := #[.int .i64 1, .slice l k c])
      have o2 := Nr.own_fr HO4.out (Bx.frrow (b := w.heap.size) #[.int .i64 1, .slice l k c]) (fun q hq e => by have h1 := (HO4.out.lt q hq).1; have h2 := HNQ.out; omega)
      have ow : OwP (wr.setRow w.heap.size #[.int .i64 1, .slice l k c]) (B4 + 1) l c (fst k) := OwP.mk (by rw [fst_len]; exact o2)
      refine bodyPost_ret (Gk.res_ct rfl _ _ _ rfl rfl (Fi.load_ch hz)) rfl ⟨l, c, rfl, ow.rd, below_setRow HB4.out (Nat.le_refl _) _⟩
end Go.Proofs.Ytabckkepkennhaa.Fz
