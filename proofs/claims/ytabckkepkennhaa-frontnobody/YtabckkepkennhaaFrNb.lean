/-
  FrontNobody's walk.
-/
import Derived.Test.YtabckkepkennhaaFrUn
namespace Go.Proofs.Ytabckkepkennhaa.Nb
open Go.RowKit Kt Gf Gk Fp Fa Fb Fc Fr1 Fo Go.Proofs.Ytabckkepkennhaa.Un
set_option linter.unusedVariables false
set_option linter.unusedSimpArgs false
set_option maxRecDepth 20000

theorem rsame_zz (w : World) : Calls Try.prog 12 #[.agg #[.int .i64 0, .slice none 0 0], .agg #[.int .i64 0, .slice none 0 0]] w fun x w' => x = .returned (.bool true) ∧ Below w.heap.size w w' := by
  have hal : Below w.heap.size w ((w.alloc (.cells #[.int .i64 0, .slice none 0 0] 40)).alloc (.cells #[.int .i64 0, .slice none 0 0] 40)) := ((Below.refl w.heap.size w).alloc (Nat.le_refl _) _).alloc (by simp) _
  have hx1 : Bx ((w.alloc (.cells #[.int .i64 0, .slice none 0 0] 40)).alloc (.cells #[.int .i64 0, .slice none 0 0] 40)) w.heap.size #[.int .i64 0, .slice none 0 0] 40 := (Bx.new _ _ _).alloc _
  have hx2 : Bx ((w.alloc (.cells #[.int .i64 0, .slice none 0 0] 40)).alloc (.cells #[.int .i64 0, .slice none 0 0] 40)) (w.heap.size + 1) #[.int .i64 0, .slice none 0 0] 40 := Bx.new1 _ _ _ _
  have a0 := hx1.cell 0 _ rfl
  have a1 := hx1.cell 1 _ rfl
  have b0 := hx2.cell 0 _ rfl
  have b1 := hx2.cell 1 _ rfl
  have HB := mkH hal
  clear hal hx1 hx2
  go_enter Try.func12, Try.ntmps12
  go_upto_region 1 with fail
  change Code.wp _ _ _ _ ((w.alloc (.cells #[.int .i64 0, .slice none 0 0] 40)).alloc (.cells #[.int .i64 0, .slice none 0 0] 40))
  generalize (w.alloc (.cells #[.int .i64 0, .slice none 0 0] 40)).alloc (.cells #[.int .i64 0, .slice none 0 0] 40) = V at *
  go_wp2
  go_loopw [5] (fun i wr => i = .int .i64 0 ∧ wr = V) (fun _ _ => 0)
  case atStart => exact ⟨rfl, rfl⟩
  case round =>
    obtain ⟨rfl, rfl⟩ := hrel
    go_wp2
    go_ret
    exact ⟨rfl, HB.out⟩

/-- What is held through the law's rounds: the act that came in, and somebody that no call made. -/
structure St (w : World) (xs : Array Value) (p : Option Addr) (W : World) : Prop where
  x : Bx W w.heap.size xs 47
  u : UnA W p
  b : Below w.heap.size w W
theorem St.below {w W W' : World} {xs : Array Value} {p : Option Addr} (h : St w xs p W) (hb : Below W.heap.size W W') : St w xs p W' := ⟨h.x.bel hb, h.u.below hb, h.b.trans (hb.mono h.b.size)⟩
theorem ext_at (xs : Array Value) (i n : Nat) : ∀ j v, (xs.extract i n).toList[j]? = some v → xs[i + j]? = some v := by
  intro j v hv
  have hv' : (xs.extract i n)[j]? = some v := by rw [← Array.getElem?_toList]; exact hv
  rw [Array.getElem?_extract] at hv'
  split at hv'
  · exact hv'
  · cases hv'
theorem load_pkx {W : World} {b : Nat} {xs : Array Value} {t : TypeId} (h : Bx W b xs t) (hs : xs.size = 48) : (loadVar 42 ⟨b, 2, none⟩).run Try.prog W = .ok (.agg (xs.extract 2 42)) W :=
  load_part (P := Try.prog) h Try.underlying42 rfl 2 (xs.extract 2 42) (by rw [show (xs.extract 2 42).size = 40 by simp [hs]]; exact infoPk) (ext_at xs 2 42)
theorem load_cax {W : World} {b : Nat} {xs : Array Value} {t : TypeId} (h : Bx W b xs t) (hs : xs.size = 48) : (loadVar 45 ⟨b, 42, none⟩).run Try.prog W = .ok (.agg (xs.extract 42 48)) W :=
  load_part (P := Try.prog) h Try.underlying45 rfl 42 (xs.extract 42 48) (by rw [show (xs.extract 42 48).size = 6 by simp [hs]]; exact Go.Proofs.Ytabckkepkennhaa.Fs.infoCa) (ext_at xs 42 48)
theorem load_cmx {W : World} {b : Nat} {xs : Array Value} {t : TypeId} (h : Bx W b xs t) (hs : xs.size = 48) : (loadVar 32 ⟨b, 14, none⟩).run Try.prog W = .ok (.agg (xs.extract 14 33)) W :=
  load_part (P := Try.prog) h Try.underlying32 rfl 14 (xs.extract 14 33) (by rw [show (xs.extract 14 33).size = 19 by simp [hs]]; exact infoC) (ext_at xs 14 33)
set_option maxHeartbeats 4000000 in
theorem nobody_walk (w : World) (xs : Array Value) (hs : xs.size = 48) : Calls Try.prog 3 #[.agg xs] w fun x w' => x = .returned (.bool true) ∧ Below w.heap.size w w' := by
  have HX0 : Hid (Bx (w.alloc (.cells xs 47)) w.heap.size xs 47) := mkH (Bx.new _ _ _)
  have HB0 := mkH ((Below.refl w.heap.size w).alloc (Nat.le_refl _) (.cells xs 47))
  have HS := mkH hs
  clear hs
  go_enter Try.func3, Try.ntmps3
  go_wp2_with (refine (New_bad _).mono ?_; rintro e w1 ⟨rfl, rfl⟩)
  have HC1 : Hid (Bx (((w.alloc (.cells xs 47)).alloc (.cells #[.int .i64 0, .int .i64 0, .int .i64 0, .int .i64 0, .int .i64 0, .int .i64 0, .int .i64 0, .int .i64 0, .int .i64 0, .string { data := #[] }, .string { data := #[] }, .string { data := #[] }, .string { data := #[] }, .int .i64 0, .int .i64 0, .int .i64 0, .string { data := #[] }, .int .i64 0, .int .i64 0, .int .i64 0, .int .i64 0, .int .i64 0, .slice none 0 0, .bool false, .bool false, .int .i64 0, .map none, .int .i64 0, .int .i64 0, .int .i64 0, .int .i64 0, .string { data := #[] }, .slice none 0 0, .bool false, .slice none 0 0, .slice none 0 0, .int .i64 0, .slice none 0 0, .bool false, .int .i64 0] 57)).alloc (.cells #[.pointer none, .pointer (some ⟨w.heap.size + 1, 0, none⟩), .pointer none] 48)) (w.heap.size + 1) #[.int .i64 0, .int .i64 0, .int .i64 0, .int .i64 0, .int .i64 0, .int .i64 0, .int .i64 0, .int .i64 0, .int .i64 0, .string { data := #[] }, .string { data := #[] }, .string { data := #[] }, .string { data := #[] }, .int .i64 0, .int .i64 0, .int .i64 0, .string { data := #[] }, .int .i64 0, .int .i64 0, .int .i64 0, .int .i64 0, .int .i64 0, .slice none 0 0, .bool false, .bool false, .int .i64 0, .map none, .int .i64 0, .int .i64 0, .int .i64 0, .int .i64 0, .string { data := #[] }, .slice none 0 0, .bool false, .slice none 0 0, .slice none 0 0, .int .i64 0, .slice none 0 0, .bool false, .int .i64 0] 57) := mkH ((Bx.new1 _ _ _ _).alloc _)
  have HS1 : Hid (Bx (((w.alloc (.cells xs 47)).alloc (.cells #[.int .i64 0, .int .i64 0, .int .i64 0, .int .i64 0, .int .i64 0, .int .i64 0, .int .i64 0, .int .i64 0, .int .i64 0, .string { data := #[] }, .string { data := #[] }, .string { data := #[] }, .string { data := #[] }, .int .i64 0, .int .i64 0, .int .i64 0, .string { data := #[] }, .int .i64 0, .int .i64 0, .int .i64 0, .int .i64 0, .int .i64 0, .slice none 0 0, .bool false, .bool false, .int .i64 0, .map none, .int .i64 0, .int .i64 0, .int .i64 0, .int .i64 0, .string { data := #[] }, .slice none 0 0, .bool false, .slice none 0 0, .slice none 0 0, .int .i64 0, .slice none 0 0, .bool false, .int .i64 0] 57)).alloc (.cells #[.pointer none, .pointer (some ⟨w.heap.size + 1, 0, none⟩), .pointer none] 48)) (w.heap.size + 2) #[.pointer none, .pointer (some ⟨w.heap.size + 1, 0, none⟩), .pointer none] 48) := mkH (Bx.new2 _ _ _ _ _)
  have HX1 : Hid (Bx (((w.alloc (.cells xs 47)).alloc (.cells #[.int .i64 0, .int .i64 0, .int .i64 0, .int .i64 0, .int .i64 0, .int .i64 0, .int .i64 0, .int .i64 0, .int .i64 0, .string { data := #[] }, .string { data := #[] }, .string { data := #[] }, .string { data := #[] }, .int .i64 0, .int .i64 0, .int .i64 0, .string { data := #[] }, .int .i64 0, .int .i64 0, .int .i64 0, .int .i64 0, .int .i64 0, .slice none 0 0, .bool false, .bool false, .int .i64 0, .map none, .int .i64 0, .int .i64 0, .int .i64 0, .int .i64 0, .string { data := #[] }, .slice none 0 0, .bool false, .slice none 0 0, .slice none 0 0, .int .i64 0, .slice none 0 0, .bool false, .int .i64 0] 57)).alloc (.cells #[.pointer none, .pointer (some ⟨w.heap.size + 1, 0, none⟩), .pointer none] 48)) w.heap.size xs 47) := mkH ((HX0.out.alloc _).alloc _)
  have HB1 : Hid (Below w.heap.size w (((w.alloc (.cells xs 47)).alloc (.cells #[.int .i64 0, .int .i64 0, .int .i64 0, .int .i64 0, .int .i64 0, .int .i64 0, .int .i64 0, .int .i64 0, .int .i64 0, .string { data := #[] }, .string { data := #[] }, .string { data := #[] }, .string { data := #[] }, .int .i64 0, .int .i64 0, .int .i64 0, .string { data := #[] }, .int .i64 0, .int .i64 0, .int .i64 0, .int .i64 0, .int .i64 0, .slice none 0 0, .bool false, .bool false, .int .i64 0, .map none, .int .i64 0, .int .i64 0, .int .i64 0, .int .i64 0, .string { data := #[] }, .slice none 0 0, .bool false, .slice none 0 0, .slice none 0 0, .int .i64 0, .slice none 0 0, .bool false, .int .i64 0] 57)).alloc (.cells #[.pointer none, .pointer (some ⟨w.heap.size + 1, 0, none⟩), .pointer none] 48))) := mkH ((HB0.out.alloc (by simp) _).alloc (by simp; omega) _)
  clear HX0 HB0
  have HR1 : Hid (St w xs (some ⟨w.heap.size + 1, 0, none⟩) (((w.alloc (.cells xs 47)).alloc (.cells #[.int .i64 0, .int .i64 0, .int .i64 0, .int .i64 0, .int .i64 0, .int .i64 0, .int .i64 0, .int .i64 0, .int .i64 0, .string { data := #[] }, .string { data := #[] }, .string { data := #[] }, .string { data := #[] }, .int .i64 0, .int .i64 0, .int .i64 0, .string { data := #[] }, .int .i64 0, .int .i64 0, .int .i64 0, .int .i64 0, .int .i64 0, .slice none 0 0, .bool false, .bool false, .int .i64 0, .map none, .int .i64 0, .int .i64 0, .int .i64 0, .int .i64 0, .string { data := #[] }, .slice none 0 0, .bool false, .slice none 0 0, .slice none 0 0, .int .i64 0, .slice none 0 0, .bool false, .int .i64 0] 57)).alloc (.cells #[.pointer none, .pointer (some ⟨w.heap.size + 1, 0, none⟩), .pointer none] 48)) ∧ Bx (((w.alloc (.cells xs 47)).alloc (.cells #[.int .i64 0, .int .i64 0, .int .i64 0, .int .i64 0, .int .i64 0, .int .i64 0, .int .i64 0, .int .i64 0, .int .i64 0, .string { data := #[] }, .string { data := #[] }, .string { data := #[] }, .string { data := #[] }, .int .i64 0, .int .i64 0, .int .i64 0, .string { data := #[] }, .int .i64 0, .int .i64 0, .int .i64 0, .int .i64 0, .int .i64 0, .slice none 0 0, .bool false, .bool false, .int .i64 0, .map none, .int .i64 0, .int .i64 0, .int .i64 0, .int .i64 0, .string { data := #[] }, .slice none 0 0, .bool false, .slice none 0 0, .slice none 0 0, .int .i64 0, .slice none 0 0, .bool false, .int .i64 0] 57)).alloc (.cells #[.pointer none, .pointer (some ⟨w.heap.size + 1, 0, none⟩), .pointer none] 48)) (w.heap.size + 2) #[.pointer none, .pointer (some ⟨w.heap.size + 1, 0, none⟩), .pointer none] 48) := mkH ⟨⟨HX1.out, .inr ⟨w.heap.size + 1, rfl, HC1.out.cell 26 _ rfl⟩, HB1.out⟩, HS1.out⟩
  clear HC1 HS1 HX1 HB1
  go_wp2_with fail
  generalize ((w.alloc (.cells xs 47)).alloc (.cells #[.int .i64 0, .int .i64 0, .int .i64 0, .int .i64 0, .int .i64 0, .int .i64 0, .int .i64 0, .int .i64 0, .int .i64 0, .string { data := #[] }, .string { data := #[] }, .string { data := #[] }, .string { data := #[] }, .int .i64 0, .int .i64 0, .int .i64 0, .string { data := #[] }, .int .i64 0, .int .i64 0, .int .i64 0, .int .i64 0, .int .i64 0, .slice none 0 0, .bool false, .bool false, .int .i64 0, .map none, .int .i64 0, .int .i64 0, .int .i64 0, .int .i64 0, .string { data := #[] }, .slice none 0 0, .bool false, .slice none 0 0, .slice none 0 0, .int .i64 0, .slice none 0 0, .bool false, .int .i64 0] 57)).alloc (.cells #[.pointer none, .pointer (some ⟨w.heap.size + 1, 0, none⟩), .pointer none] 48) = W1 at *
  obtain ⟨S, hS⟩ : ∃ S, S = w.heap.size + 2 := ⟨_, rfl⟩
  obtain ⟨C, hC⟩ : ∃ C, C = w.heap.size + 1 := ⟨_, rfl⟩
  rw [show w.heap.size + 1 + 1 = S from hS.symm]
  rw [← hC, ← hS] at HR1
  rw [← hC]
  clear hS hC
  go_loopw [22] (fun i wr => ∃ k : Nat, k ≤ 3 ∧ i = .int .i64 k ∧ Hid (St w xs (some ⟨C, 0, none⟩) wr ∧ Bx wr S #[.pointer none, .pointer (some ⟨C, 0, none⟩), .pointer none] 48)) (fun i _ => 3 - (intOf i).toNat)
  case atStart => exact ⟨0, by omega, rfl, HR1⟩
  case round =>
    obtain ⟨k, hk, rfl, HR⟩ := hrel
    rcases (by omega : k = 0 ∨ k = 1 ∨ k = 2 ∨ k = 3) with rfl | rfl | rfl | rfl
    · have s0 : wr.cell? ⟨S, 0, none⟩ = some (.pointer none) := HR.out.2.cell 0 _ rfl
      have HK : Hid (∀ W', Below wr.heap.size wr W' → St w xs (some ⟨C, 0, none⟩) W' ∧ Bx W' S #[.pointer none, .pointer (some ⟨C, 0, none⟩), .pointer none] 48 ∧ St w xs none W') := mkH (fun W' hb => ⟨HR.out.1.below hb, HR.out.2.bel hb, (⟨HR.out.1.x, .inl rfl, HR.out.1.b⟩ : St w xs none wr).below hb⟩)
      clear HR
      go_wp2_with (first
        | (refine (Result_un (HK.out wr (Below.refl _ _)).2.2.u).mono ?_; rintro e w2 ⟨rfl, hw⟩; obtain rfl := hw.symm)
        | (refine Gk.wpList_ld (ty := 45) (x := .tmp 32) (p := ⟨w.heap.size, 42, none⟩) (v := .agg (xs.extract 42 48)) rfl rfl rfl (load_cax (HK.out wr (Below.refl _ _)).1.x HS.out) ?_)
        | (refine (Start_un (HK.out wr (Below.refl _ _)).2.2.u (xs.extract 42 48)).mono ?_; rintro e w3 ⟨rfl, hb3⟩; have HB3 := mkH hb3; clear hb3)
        | (refine (TickC_un (HK.out w3 HB3.out).2.2.u).mono ?_; rintro e w4 ⟨rfl, hw⟩; obtain rfl := hw.symm)
        | (refine Fp.wpList_ldw (ty := 42) (x := .tmp 44) (p := ⟨w.heap.size, 2, none⟩) (v := .agg (xs.extract 2 42)) (by rfl) rfl rfl (load_pkx (HK.out w3 HB3.out).1.x HS.out) ?_)
        | (refine (RecvC_un (HK.out w3 HB3.out).2.2.u (xs.extract 2 42)).mono ?_; rintro e w5 ⟨rfl, hb5⟩; have HB5 := mkH (HB3.out.trans (hb5.mono HB3.out.size)); clear hb5)
        | (refine (BusyC_un (HK.out w5 HB5.out).2.2.u).mono ?_; rintro e w4 ⟨rfl, hw⟩; obtain rfl := hw.symm)
        | (refine (Chart_un (HK.out w5 HB5.out).2.2.u).mono ?_; rintro e w6 ⟨rfl, hb6⟩; have HB6 := mkH (HB5.out.trans (hb6.mono HB5.out.size)); clear hb6)
        | (refine (rsame_zz w6).mono ?_; rintro e w7 ⟨rfl, hb7⟩; have HB7 := mkH (HB6.out.trans (hb7.mono HB6.out.size)); clear hb7))
      go_roundw
      case rel => exact ⟨1, by omega, by go_num, mkH ⟨(HK.out w7 HB7.out).1, (HK.out w7 HB7.out).2.1⟩⟩
      case measure => simp [intOf]
    · have s1 : wr.cell? ⟨S, 1, none⟩ = some (.pointer (some ⟨C, 0, none⟩)) := HR.out.2.cell 1 _ rfl
      have HK : Hid (∀ W', Below wr.heap.size wr W' → St w xs (some ⟨C, 0, none⟩) W' ∧ Bx W' S #[.pointer none, .pointer (some ⟨C, 0, none⟩), .pointer none] 48 ∧ St w xs (some ⟨C, 0, none⟩) W') := mkH (fun W' hb => ⟨HR.out.1.below hb, HR.out.2.bel hb, (HR.out.1).below hb⟩)
      clear HR
      go_wp2_with (first
        | (refine (Result_un (HK.out wr (Below.refl _ _)).2.2.u).mono ?_; rintro e w2 ⟨rfl, hw⟩; obtain rfl := hw.symm)
        | (refine Gk.wpList_ld (ty := 45) (x := .tmp 32) (p := ⟨w.heap.size, 42, none⟩) (v := .agg (xs.extract 42 48)) rfl rfl rfl (load_cax (HK.out wr (Below.refl _ _)).1.x HS.out) ?_)
        | (refine (Start_un (HK.out wr (Below.refl _ _)).2.2.u (xs.extract 42 48)).mono ?_; rintro e w3 ⟨rfl, hb3⟩; have HB3 := mkH hb3; clear hb3)
        | (refine (TickC_un (HK.out w3 HB3.out).2.2.u).mono ?_; rintro e w4 ⟨rfl, hw⟩; obtain rfl := hw.symm)
        | (refine Fp.wpList_ldw (ty := 42) (x := .tmp 44) (p := ⟨w.heap.size, 2, none⟩) (v := .agg (xs.extract 2 42)) (by rfl) rfl rfl (load_pkx (HK.out w3 HB3.out).1.x HS.out) ?_)
        | (refine (RecvC_un (HK.out w3 HB3.out).2.2.u (xs.extract 2 42)).mono ?_; rintro e w5 ⟨rfl, hb5⟩; have HB5 := mkH (HB3.out.trans (hb5.mono HB3.out.size)); clear hb5)
        | (refine (BusyC_un (HK.out w5 HB5.out).2.2.u).mono ?_; rintro e w4 ⟨rfl, hw⟩; obtain rfl := hw.symm)
        | (refine (Chart_un (HK.out w5 HB5.out).2.2.u).mono ?_; rintro e w6 ⟨rfl, hb6⟩; have HB6 := mkH (HB5.out.trans (hb6.mono HB5.out.size)); clear hb6)
        | (refine (rsame_zz w6).mono ?_; rintro e w7 ⟨rfl, hb7⟩; have HB7 := mkH (HB6.out.trans (hb7.mono HB6.out.size)); clear hb7))
      go_roundw
      case rel => exact ⟨2, by omega, by go_num, mkH ⟨(HK.out w7 HB7.out).1, (HK.out w7 HB7.out).2.1⟩⟩
      case measure => simp [intOf]
    · have s2 : wr.cell? ⟨S, 2, none⟩ = some (.pointer none) := HR.out.2.cell 2 _ rfl
      have HK : Hid (∀ W', Below wr.heap.size wr W' → St w xs (some ⟨C, 0, none⟩) W' ∧ Bx W' S #[.pointer none, .pointer (some ⟨C, 0, none⟩), .pointer none] 48 ∧ St w xs none W') := mkH (fun W' hb => ⟨HR.out.1.below hb, HR.out.2.bel hb, (⟨HR.out.1.x, .inl rfl, HR.out.1.b⟩ : St w xs none wr).below hb⟩)
      clear HR
      go_wp2_with (first
        | (refine (Result_un (HK.out wr (Below.refl _ _)).2.2.u).mono ?_; rintro e w2 ⟨rfl, hw⟩; obtain rfl := hw.symm)
        | (refine Gk.wpList_ld (ty := 45) (x := .tmp 32) (p := ⟨w.heap.size, 42, none⟩) (v := .agg (xs.extract 42 48)) rfl rfl rfl (load_cax (HK.out wr (Below.refl _ _)).1.x HS.out) ?_)
        | (refine (Start_un (HK.out wr (Below.refl _ _)).2.2.u (xs.extract 42 48)).mono ?_; rintro e w3 ⟨rfl, hb3⟩; have HB3 := mkH hb3; clear hb3)
        | (refine (TickC_un (HK.out w3 HB3.out).2.2.u).mono ?_; rintro e w4 ⟨rfl, hw⟩; obtain rfl := hw.symm)
        | (refine Fp.wpList_ldw (ty := 42) (x := .tmp 44) (p := ⟨w.heap.size, 2, none⟩) (v := .agg (xs.extract 2 42)) (by rfl) rfl rfl (load_pkx (HK.out w3 HB3.out).1.x HS.out) ?_)
        | (refine (RecvC_un (HK.out w3 HB3.out).2.2.u (xs.extract 2 42)).mono ?_; rintro e w5 ⟨rfl, hb5⟩; have HB5 := mkH (HB3.out.trans (hb5.mono HB3.out.size)); clear hb5)
        | (refine (BusyC_un (HK.out w5 HB5.out).2.2.u).mono ?_; rintro e w4 ⟨rfl, hw⟩; obtain rfl := hw.symm)
        | (refine (Chart_un (HK.out w5 HB5.out).2.2.u).mono ?_; rintro e w6 ⟨rfl, hb6⟩; have HB6 := mkH (HB5.out.trans (hb6.mono HB5.out.size)); clear hb6)
        | (refine (rsame_zz w6).mono ?_; rintro e w7 ⟨rfl, hb7⟩; have HB7 := mkH (HB6.out.trans (hb7.mono HB6.out.size)); clear hb7))
      go_roundw
      case rel => exact ⟨3, by omega, by go_num, mkH ⟨(HK.out w7 HB7.out).1, (HK.out w7 HB7.out).2.1⟩⟩
      case measure => simp [intOf]
    · have HC1 : Hid (Bx ((wr.alloc (.cells #[.int .i64 0, .int .i64 0, .int .i64 0, .int .i64 0, .int .i64 0, .int .i64 0, .int .i64 0, .int .i64 0, .int .i64 0, .string { data := #[] }, .string { data := #[] }, .string { data := #[] }, .string { data := #[] }, .int .i64 0, .int .i64 0, .int .i64 0, .string { data := #[] }, .int .i64 0, .int .i64 0, .int .i64 0, .int .i64 0, .int .i64 0, .slice none 0 0, .bool false, .bool false, .int .i64 0, .map none] 53)).alloc (.cells #[.pointer none, .pointer (some ⟨wr.heap.size, 0, none⟩)] 68)) wr.heap.size #[.int .i64 0, .int .i64 0, .int .i64 0, .int .i64 0, .int .i64 0, .int .i64 0, .int .i64 0, .int .i64 0, .int .i64 0, .string { data := #[] }, .string { data := #[] }, .string { data := #[] }, .string { data := #[] }, .int .i64 0, .int .i64 0, .int .i64 0, .string { data := #[] }, .int .i64 0, .int .i64 0, .int .i64 0, .int .i64 0, .int .i64 0, .slice none 0 0, .bool false, .bool false, .int .i64 0, .map none] 53) := mkH ((Bx.new _ _ _).alloc _)
      have HS1 : Hid (Bx ((wr.alloc (.cells #[.int .i64 0, .int .i64 0, .int .i64 0, .int .i64 0, .int .i64 0, .int .i64 0, .int .i64 0, .int .i64 0, .int .i64 0, .string { data := #[] }, .string { data := #[] }, .string { data := #[] }, .string { data := #[] }, .int .i64 0, .int .i64 0, .int .i64 0, .string { data := #[] }, .int .i64 0, .int .i64 0, .int .i64 0, .int .i64 0, .int .i64 0, .slice none 0 0, .bool false, .bool false, .int .i64 0, .map none] 53)).alloc (.cells #[.pointer none, .pointer (some ⟨wr.heap.size, 0, none⟩)] 68)) (wr.heap.size + 1) #[.pointer none, .pointer (some ⟨wr.heap.size, 0, none⟩)] 68) := mkH (Bx.new1 _ _ _ _)
      have HX1 : Hid (Bx ((wr.alloc (.cells #[.int .i64 0, .int .i64 0, .int .i64 0, .int .i64 0, .int .i64 0, .int .i64 0, .int .i64 0, .int .i64 0, .int .i64 0, .string { data := #[] }, .string { data := #[] }, .string { data := #[] }, .string { data := #[] }, .int .i64 0, .int .i64 0, .int .i64 0, .string { data := #[] }, .int .i64 0, .int .i64 0, .int .i64 0, .int .i64 0, .int .i64 0, .slice none 0 0, .bool false, .bool false, .int .i64 0, .map none] 53)).alloc (.cells #[.pointer none, .pointer (some ⟨wr.heap.size, 0, none⟩)] 68)) w.heap.size xs 47) := mkH ((HR.out.1.x.alloc _).alloc _)
      have HB1 : Hid (Below w.heap.size w ((wr.alloc (.cells #[.int .i64 0, .int .i64 0, .int .i64 0, .int .i64 0, .int .i64 0, .int .i64 0, .int .i64 0, .int .i64 0, .int .i64 0, .string { data := #[] }, .string { data := #[] }, .string { data := #[] }, .string { data := #[] }, .int .i64 0, .int .i64 0, .int .i64 0, .string { data := #[] }, .int .i64 0, .int .i64 0, .int .i64 0, .int .i64 0, .int .i64 0, .slice none 0 0, .bool false, .bool false, .int .i64 0, .map none] 53)).alloc (.cells #[.pointer none, .pointer (some ⟨wr.heap.size, 0, none⟩)] 68))) := mkH ((HR.out.1.b.alloc HR.out.1.b.size _).alloc (by have := HR.out.1.b.size; simp; omega) _)
      have HR1 : Hid (St w xs (some ⟨wr.heap.size, 0, none⟩) ((wr.alloc (.cells #[.int .i64 0, .int .i64 0, .int .i64 0, .int .i64 0, .int .i64 0, .int .i64 0, .int .i64 0, .int .i64 0, .int .i64 0, .string { data := #[] }, .string { data := #[] }, .string { data := #[] }, .string { data := #[] }, .int .i64 0, .int .i64 0, .int .i64 0, .string { data := #[] }, .int .i64 0, .int .i64 0, .int .i64 0, .int .i64 0, .int .i64 0, .slice none 0 0, .bool false, .bool false, .int .i64 0, .map none] 53)).alloc (.cells #[.pointer none, .pointer (some ⟨wr.heap.size, 0, none⟩)] 68)) ∧ Bx ((wr.alloc (.cells #[.int .i64 0, .int .i64 0, .int .i64 0, .int .i64 0, .int .i64 0, .int .i64 0, .int .i64 0, .int .i64 0, .int .i64 0, .string { data := #[] }, .string { data := #[] }, .string { data := #[] }, .string { data := #[] }, .int .i64 0, .int .i64 0, .int .i64 0, .string { data := #[] }, .int .i64 0, .int .i64 0, .int .i64 0, .int .i64 0, .int .i64 0, .slice none 0 0, .bool false, .bool false, .int .i64 0, .map none] 53)).alloc (.cells #[.pointer none, .pointer (some ⟨wr.heap.size, 0, none⟩)] 68)) (wr.heap.size + 1) #[.pointer none, .pointer (some ⟨wr.heap.size, 0, none⟩)] 68) := mkH ⟨⟨HX1.out, .inr ⟨wr.heap.size, rfl, HC1.out.cell 26 _ rfl⟩, HB1.out⟩, HS1.out⟩
      clear HC1 HS1 HX1 HB1 HR
      go_wp2_with fail
      generalize (wr.alloc (.cells #[.int .i64 0, .int .i64 0, .int .i64 0, .int .i64 0, .int .i64 0, .int .i64 0, .int .i64 0, .int .i64 0, .int .i64 0, .string { data := #[] }, .string { data := #[] }, .string { data := #[] }, .string { data := #[] }, .int .i64 0, .int .i64 0, .int .i64 0, .string { data := #[] }, .int .i64 0, .int .i64 0, .int .i64 0, .int .i64 0, .int .i64 0, .slice none 0 0, .bool false, .bool false, .int .i64 0, .map none] 53)).alloc (.cells #[.pointer none, .pointer (some ⟨wr.heap.size, 0, none⟩)] 68) = W2 at *
      generalize wr.heap.size = C2 at *
      obtain ⟨S2, hS2⟩ : ∃ S2, S2 = C2 + 1 := ⟨_, rfl⟩
      rw [← hS2] at HR1 ⊢
      clear hS2
      clear wr
      go_loopw [74] (fun i wr => ∃ k : Nat, k ≤ 2 ∧ i = .int .i64 k ∧ Hid (St w xs (some ⟨C2, 0, none⟩) wr ∧ Bx wr S2 #[.pointer none, .pointer (some ⟨C2, 0, none⟩)] 68)) (fun i _ => 2 - (intOf i).toNat)
      case atStart => exact ⟨0, by omega, rfl, HR1⟩
      case round =>
      obtain ⟨k, hk, rfl, HR⟩ := hrel
      rcases (by omega : k = 0 ∨ k = 1 ∨ k = 2) with rfl | rfl | rfl
      · have s0 : wr.cell? ⟨S2, 0, none⟩ = some (.pointer none) := HR.out.2.cell 0 _ rfl
        have HK : Hid (∀ W', Below wr.heap.size wr W' → St w xs (some ⟨C2, 0, none⟩) W' ∧ Bx W' S2 #[.pointer none, .pointer (some ⟨C2, 0, none⟩)] 68 ∧ St w xs none W') := mkH (fun W' hb => ⟨HR.out.1.below hb, HR.out.2.bel hb, (⟨HR.out.1.x, .inl rfl, HR.out.1.b⟩ : St w xs none wr).below hb⟩)
        clear HR
        go_wp2_with (first
          | (refine Gk.wpList_ld (ty := 42) (x := .tmp 80) (p := ⟨w.heap.size, 2, none⟩) (v := .agg (xs.extract 2 42)) rfl rfl rfl (load_pkx (HK.out wr (Below.refl _ _)).1.x HS.out) ?_)
          | (refine (Recv_un (HK.out wr (Below.refl _ _)).2.2.u (xs.extract 2 42)).mono ?_; rintro e w3 ⟨rfl, hb3⟩; have HB3 := mkH hb3; clear hb3)
          | (refine Gk.wpList_st rfl (ty := 37) (x := .tmp 11) (y := .tmp 83) (cs := Rz 0 0 0) (old := Rz 0 0 0) rfl rfl rfl (Bx.new w3 _ _) infoRp rfl (Rz_one _ _ _) ?_
             have HB4 : Hid (Below wr.heap.size wr ((w3.alloc (.cells #[.int .i64 0, .int .i64 0, .int .i64 0, .slice none 0 0, .slice none 0 0, .slice none 0 0] 37)).setRow w3.heap.size (Rz 0 0 0))) := mkH (below_setRow (HB3.out.alloc HB3.out.size _) HB3.out.size _)
             generalize (w3.alloc (.cells #[.int .i64 0, .int .i64 0, .int .i64 0, .slice none 0 0, .slice none 0 0, .slice none 0 0] 37)).setRow w3.heap.size (Rz 0 0 0) = w4 at *
             generalize w3.heap.size = n3 at *)
          | (refine Gk.wpList_ld (ty := 32) (x := .tmp 87) (p := ⟨w.heap.size, 14, none⟩) (v := .agg (xs.extract 14 33)) rfl rfl rfl (load_cmx (HK.out w4 HB4.out).1.x HS.out) ?_)
          | (refine (Ask_un (HK.out w4 HB4.out).2.2.u 1 (xs.extract 14 33)).mono ?_; rintro e w5 ⟨rfl, hb5⟩; have HB5 := mkH (HB4.out.trans (hb5.mono HB4.out.size)); clear hb5)
          | (refine (Turn_un (HK.out w5 HB5.out).2.2.u 1).mono ?_; rintro e w6 ⟨rfl, hw⟩; obtain rfl := hw.symm)
          | (refine (Tick_un (HK.out w5 HB5.out).2.2.u).mono ?_; rintro e w6 ⟨rfl, hw⟩; obtain rfl := hw.symm)
          | (refine (Busy_un (HK.out w5 HB5.out).2.2.u).mono ?_; rintro e w6 ⟨rfl, hw⟩; obtain rfl := hw.symm)
          | (refine (Num_un (HK.out w5 HB5.out).2.2.u).mono ?_; rintro e w6 ⟨rfl, hw⟩; obtain rfl := hw.symm))
        go_roundw
        case rel => exact ⟨_, _, _, _, _, _, _, _, _, _, _, _, _, _, _, _, _, _, _, _, _, _, _, _, _, _, _, _, _, _, _, _, _, _, _, _, _, _, _, _, _, _, _, _, _, ⟨1, by omega, by go_num, mkH ⟨(HK.out w5 HB5.out).1, (HK.out w5 HB5.out).2.1⟩⟩, rfl⟩
        case measure => simp [intOf]
      · have s1 : wr.cell? ⟨S2, 1, none⟩ = some (.pointer (some ⟨C2, 0, none⟩)) := HR.out.2.cell 1 _ rfl
        have HK : Hid (∀ W', Below wr.heap.size wr W' → St w xs (some ⟨C2, 0, none⟩) W' ∧ Bx W' S2 #[.pointer none, .pointer (some ⟨C2, 0, none⟩)] 68 ∧ St w xs (some ⟨C2, 0, none⟩) W') := mkH (fun W' hb => ⟨HR.out.1.below hb, HR.out.2.bel hb, (HR.out.1).below hb⟩)
        clear HR
        go_wp2_with (first
          | (refine Gk.wpList_ld (ty := 42) (x := .tmp 80) (p := ⟨w.heap.size, 2, none⟩) (v := .agg (xs.extract 2 42)) rfl rfl rfl (load_pkx (HK.out wr (Below.refl _ _)).1.x HS.out) ?_)
          | (refine (Recv_un (HK.out wr (Below.refl _ _)).2.2.u (xs.extract 2 42)).mono ?_; rintro e w3 ⟨rfl, hb3⟩; have HB3 := mkH hb3; clear hb3)
          | (refine Gk.wpList_st rfl (ty := 37) (x := .tmp 11) (y := .tmp 83) (cs := Rz 0 0 0) (old := Rz 0 0 0) rfl rfl rfl (Bx.new w3 _ _) infoRp rfl (Rz_one _ _ _) ?_
             have HB4 : Hid (Below wr.heap.size wr ((w3.alloc (.cells #[.int .i64 0, .int .i64 0, .int .i64 0, .slice none 0 0, .slice none 0 0, .slice none 0 0] 37)).setRow w3.heap.size (Rz 0 0 0))) := mkH (below_setRow (HB3.out.alloc HB3.out.size _) HB3.out.size _)
             generalize (w3.alloc (.cells #[.int .i64 0, .int .i64 0, .int .i64 0, .slice none 0 0, .slice none 0 0, .slice none 0 0] 37)).setRow w3.heap.size (Rz 0 0 0) = w4 at *
             generalize w3.heap.size = n3 at *)
          | (refine Gk.wpList_ld (ty := 32) (x := .tmp 87) (p := ⟨w.heap.size, 14, none⟩) (v := .agg (xs.extract 14 33)) rfl rfl rfl (load_cmx (HK.out w4 HB4.out).1.x HS.out) ?_)
          | (refine (Ask_un (HK.out w4 HB4.out).2.2.u 1 (xs.extract 14 33)).mono ?_; rintro e w5 ⟨rfl, hb5⟩; have HB5 := mkH (HB4.out.trans (hb5.mono HB4.out.size)); clear hb5)
          | (refine (Turn_un (HK.out w5 HB5.out).2.2.u 1).mono ?_; rintro e w6 ⟨rfl, hw⟩; obtain rfl := hw.symm)
          | (refine (Tick_un (HK.out w5 HB5.out).2.2.u).mono ?_; rintro e w6 ⟨rfl, hw⟩; obtain rfl := hw.symm)
          | (refine (Busy_un (HK.out w5 HB5.out).2.2.u).mono ?_; rintro e w6 ⟨rfl, hw⟩; obtain rfl := hw.symm)
          | (refine (Num_un (HK.out w5 HB5.out).2.2.u).mono ?_; rintro e w6 ⟨rfl, hw⟩; obtain rfl := hw.symm))
        go_roundw
        case rel => exact ⟨_, _, _, _, _, _, _, _, _, _, _, _, _, _, _, _, _, _, _, _, _, _, _, _, _, _, _, _, _, _, _, _, _, _, _, _, _, _, _, _, _, _, _, _, _, ⟨2, by omega, by go_num, mkH ⟨(HK.out w5 HB5.out).1, (HK.out w5 HB5.out).2.1⟩⟩, rfl⟩
        case measure => simp [intOf]
      · go_wp2_with (refine (Fy.works_any wr).mono ?_; rintro e w2 ⟨rfl, hb2⟩; have HB2 := mkH (HR.out.1.b.trans (hb2.mono HR.out.1.b.size)); clear hb2)
        go_ret
        exact ⟨rfl, HB2.out⟩
end Go.Proofs.Ytabckkepkennhaa.Nb
