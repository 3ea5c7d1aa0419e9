/-
  The walk of GroupTokens.
-/
import Derived.Test.YtcpmaddleleblaaDoorGpMp
import Derived.Test.YtcpmaddleleblaaDoorGpPu
import Derived.Test.YtcpmaddleleblaaDoorGpTp
import Derived.Test.YtcpmaddleleblaaDoorGpD
import Derived.Test.YtcpmaddleleblaaDoorGpW
import Derived.Test.YtcpmaddleleblaaDoorRgG
namespace Go.Proofs.YtcpmaddleleblaaDoor.Gto
open Go.RowKit Kt Gf Gp Gr Gk Ga Gs Gb Gg Gm Gst Gop Gtp Gmp
set_option linter.unusedVariables false
set_option linter.unusedSimpArgs false
set_option maxRecDepth 20000

theorem upd_eq (S : Sm') (t : ByteArray) (v : Int) : upd S t v = upd' S t v := rfl

set_option maxHeartbeats 16000000 in
theorem token_walk (w : World) (acts : List A) (ao : Option Addr) (cap : Nat) (hr : RowA w ao acts) (hlen : acts.length ≤ 9223372036854775807) :
    Calls Tryd.prog 7 #[.slice ao acts.length cap] w fun e w' => e = .returned (.bool true) ∧ Below w.heap.size w w' := by
  have HR := mkH hr
  clear hr
  have hmx : Tryd.prog.follows .mixedOrders = true := by kernel_rfl
  go_enter Tryd.func7, Tryd.ntmps7
  go_wp2_with fail
  refine (begin_any w).mono ?_
  rintro e w1 ⟨B, b6, b7, rfl, hsy, hq6, hq7, hne67, hw6, hw7⟩
  have HS := mkH hsy
  have HP := mkH (Mp.made hq6)
  have HQ := mkH (Mp.made hq7)
  have HN67 := mkH hne67
  clear hsy hq6 hq7 hne67
  go_wp2_with fail
  refine Rg.loopU (β := Nat) (fun k u => #[.slice ao acts.length cap, u 1, u 2, .pointer (some ⟨B, 0, none⟩), .int .i64 (k : Int), u 5, u 6, u 7, u 8, u 9, u 10, u 11, u 12, u 13, u 14, u 15, u 16, u 17, u 18, u 19, u 20, u 21, u 22, u 23, u 24, u 25, u 26, u 27, u 28, u 29, u 30, u 31, u 32, u 33, u 34, u 35, u 36, u 37, u 38, u 39, u 40, u 41, u 42, u 43, u 44, u 45, u 46, u 47, u 48, u 49, u 50, u 51, u 52, u 53, u 54, u 55, u 56, u 57, u 58, u 59, u 60, u 61, u 62, u 63, u 64, u 65, u 66, u 67, u 68, u 69, u 70, u 71, u 72, u 73, u 74, u 75, u 76, u 77, u 78, u 79, u 80, u 81, u 82, u 83, u 84, u 85, u 86, u 87, u 88, u 89, u 90, u 91, u 92, u 93, u 94, u 95, u 96, u 97, u 98, u 99, u 100, u 101, u 102, u 103, u 104, u 105, u 106, u 107, u 108, u 109, u 110, u 111, u 112, u 113, u 114, u 115, u 116, u 117, u 118, u 119, u 120, u 121, u 122, u 123, u 124, u 125, u 126, u 127, u 128, u 129, u 130, u 131, u 132, u 133, u 134, u 135, u 136, u 137, u 138, u 139, u 140, u 141, u 142, u 143, u 144, u 145, u 146, u 147, u 148, u 149, u 150, u 151, u 152, u 153, u 154, u 155, u 156, u 157, u 158, u 159, u 160, u 161, u 162, u 163, u 164, u 165, u 166, u 167, u 168, u 169, u 170, u 171, u 172, u 173, u 174, u 175, u 176, u 177, u 178, u 179, u 180, u 181, u 182, u 183, u 184, u 185, u 186, u 187, u 188, u 189, u 190, u 191, u 192, u 193, u 194, u 195, u 196, u 197, u 198, u 199, u 200, u 201, u 202, u 203, u 204, u 205, u 206, u 207, u 208, u 209, u 210, u 211, u 212, u 213, u 214, u 215, u 216, u 217, u 218, u 219, u 220, u 221, u 222, u 223, u 224, u 225]) (fun k WW => ∃ (g : G) (now : Int) (S T : Sm') (ka : Option Addr) (kc : Nat) (ma : Option Addr) (mc : Nat), k ≤ 40 ∧ k ≤ acts.length ∧ Hid (TI k g now S T) ∧ 0 ≤ now ∧ now ≤ 200 * (k : Int) ∧ Hid (Sy w WW B g now [] ka kc ma mc none 0 b6 b7) ∧ Hid (Mp WW b6 k S) ∧ Hid (Mp WW b7 k T)) (fun k => 40 - k) 0 ?_ (by kernel_rfl) ?_
  · exact ⟨_, 0, _, _, none, 0, none, 0, by omega, by omega, TI.start, by omega, by omega, HS, HP, HQ⟩
  · clear HS HP HQ
    rintro k u wr ⟨g, now, S, T, ka, kc, ma, mc, hk60, hkl, HI, hn0, hn1, HS, HP, HQ⟩ KL HKL
    dsimp only
    rcases Nat.lt_or_ge k acts.length with hka | hka
    rotate_left
    · have h1 : ¬ (k : Int) < (acts.length : Int) := by omega
      go_wp2_with fail
      refine (Gw.works_any _).mono ?_
      rintro e w3 ⟨rfl, hb3⟩
      go_wp2
      go_ret
      exact ⟨rfl, HS.out.bl.trans (hb3.mono HS.out.bl.size)⟩
    rcases Nat.lt_or_ge k 40 with hk6 | hk6
    rotate_left
    · have h0 : (k : Int) < (acts.length : Int) := by omega
      have h1 : ¬ (k : Int) < 40 := by omega
      go_wp2_with fail
      refine (Gw.works_any _).mono ?_
      rintro e w3 ⟨rfl, hb3⟩
      go_wp2
      go_ret
      exact ⟨rfl, HS.out.bl.trans (hb3.mono HS.out.bl.size)⟩
    obtain ⟨x, hx⟩ := some_of hka
    have hrow := HR.out.below HS.out.bl
    obtain ⟨ba, off, rfl, p0, p1, p2, p3, p4, p5⟩ := atA hrow hx
    obtain ⟨xk, xn, xs, xw, xb, xt⟩ := x
    obtain ⟨nx, kp, mk, at'⟩ := g
    simp only at p0 p1 p2 p3 p4 p5
    have h0 : (k : Int) < (acts.length : Int) := by omega
    have h1 : (k : Int) < 40 := by omega
    clear hrow hx
    have hal : Below wr.heap.size wr (wr.alloc (.cells #[Value.int .i64 xk, .int .i64 xn, .int .i64 xs, .int .i64 xw, .string xb, .string xt] 53)) := (Below.refl _ wr).alloc (Nat.le_refl _) _
    have HA := mkH (Bx.new wr #[Value.int .i64 xk, .int .i64 xn, .int .i64 xs, .int .i64 xw, .string xb, .string xt] 53)
    have hBA : B < wr.heap.size := HS.out.b.lt
    have HS1 := mkH (HS.out.below hal)
    have HP1 := mkH (HP.out.below hal)
    have HQ1 := mkH (HQ.out.below hal)
    clear hal HS HP HQ
    go_upto_region 6 with fail
    generalize wr.alloc (.cells #[Value.int .i64 xk, .int .i64 xn, .int .i64 xs, .int .i64 xw, .string xb, .string xt] 53) = W1 at *
    generalize wr.heap.size = A0 at *
    clear p0 p1 p2 p3 p4 p5
    have hAB : A0 ≠ B := by omega
    have hsm := smal_bd xw 200 (by decide)
    have HSM := mkH (fun W => small_any W xw 200 (by decide) (by decide))
    generalize smal xw 200 = sw at *
    obtain ⟨nw, hnw⟩ : ∃ x, now + sw = x := ⟨_, rfl⟩
    have hn2 : 0 ≤ nw := by omega
    have hn3 : nw ≤ 200 * ((k + 1 : Nat) : Int) := by omega
    have hn4 : now ≤ nw := by omega
    have hwr : IntKind.i64.wrap (now + sw) = nw := wrap_in hnw (by omega) (by omega)
    clear hnw
    obtain ⟨c0, c1, c2, c3, c4, c5, -⟩ := HS1.out.cells
    obtain ⟨f0, f1, f2, f3, f4, f5⟩ := HS1.out.frz
    have a3 : W1.cell? ⟨A0, 3, none⟩ = some (.int .i64 xw) := HA.out.cell 3 _ rfl
    refine Rg.region_G hmx 10 (fun W => W.cell? ⟨B, 4, none⟩ = some (.int .i64 now) ∧ W.cell? ⟨A0, 3, none⟩ = some (.int .i64 xw)) ⟨c4, a3⟩ (fun hHeld => ?_)
    refine Rg.anyG_pure (i := 0) (oi := { dst := some 29, op := _, type := _, pos := _, after := _, guard := _ }) (v := ?_) rfl (by kernel_rfl) (by kernel_rfl) (by kernel_rfl) (by rfl) (fun _ _ _ h => h) (Or.inl ⟨by rfl, ?_⟩) (fun _ => by assumption) ?_
    rotate_left
    · (intro W hSw; (try dsimp only at hSw); go_simp; try (with_reducible rfl))
    try simp only [Act.put, List.setIfInBounds_toArray, List.set_cons_zero, List.set_cons_succ]
    refine Rg.anyG_pure (i := 1) (oi := { dst := some 30, op := _, type := _, pos := _, after := _, guard := _ }) (v := ?_) rfl (by kernel_rfl) (by kernel_rfl) (by kernel_rfl) (by rfl) (fun _ _ _ h => h) (Or.inl ⟨by rfl, ?_⟩) (fun _ => by assumption) ?_
    rotate_left
    · (intro W hSw; (try dsimp only at hSw); go_simp; try (with_reducible rfl))
    try simp only [Act.put, List.setIfInBounds_toArray, List.set_cons_zero, List.set_cons_succ]
    refine Rg.anyG_pure (i := 2) (oi := { dst := some 31, op := _, type := _, pos := _, after := _, guard := _ }) (v := ?_) rfl (by kernel_rfl) (by kernel_rfl) (by kernel_rfl) (by rfl) (fun _ _ _ h => h) (Or.inl ⟨by rfl, ?_⟩) (fun _ => by assumption) ?_
    rotate_left
    · (intro W hSw; (try dsimp only at hSw); go_simp; try (with_reducible rfl))
    try simp only [Act.put, List.setIfInBounds_toArray, List.set_cons_zero, List.set_cons_succ]
    refine Rg.anyG_take (i := 3) (oi := { dst := some 32, op := _, type := _, pos := _, after := _, guard := _ }) (v := ?_) rfl (by kernel_rfl) (by kernel_rfl) (by kernel_rfl) [10] (by kernel_rfl) (fun _ _ _ h => h) (Or.inl ⟨by rfl, ?_⟩) (by assumption) ?_
    rotate_left
    · (intro W hSw; (try dsimp only at hSw); go_simp; try (with_reducible rfl))
    try simp only [Act.put, List.setIfInBounds_toArray, List.set_cons_zero, List.set_cons_succ]
    refine Rg.anyG_pure (i := 4) (oi := { dst := some 33, op := _, type := _, pos := _, after := _, guard := _ }) (v := ?_) rfl (by kernel_rfl) (by kernel_rfl) (by kernel_rfl) (by rfl) (fun _ _ _ h => h) (Or.inl ⟨by rfl, ?_⟩) (fun _ => by assumption) ?_
    rotate_left
    · (intro W hSw; (try dsimp only at hSw); go_simp; try (with_reducible rfl))
    try simp only [Act.put, List.setIfInBounds_toArray, List.set_cons_zero, List.set_cons_succ]
    refine Rg.anyG_take (i := 5) (oi := { dst := some 34, op := _, type := _, pos := _, after := _, guard := _ }) (v := ?_) rfl (by kernel_rfl) (by kernel_rfl) (by kernel_rfl) [10] (by kernel_rfl) (fun _ _ _ h => h) (Or.inl ⟨by rfl, ?_⟩) (by assumption) ?_
    rotate_left
    · (intro W hSw; (try dsimp only at hSw); go_simp; try (with_reducible rfl))
    try simp only [Act.put, List.setIfInBounds_toArray, List.set_cons_zero, List.set_cons_succ]
    refine Rg.anyG_ready (rs := [6]) (by kernel_rfl) (by simp) ?_
    refine (Rg.AllG.cons (o := { dst := some 35, op := _, type := _, pos := _, after := _, guard := _ }) rfl (fun K hK => ?_) Rg.AllG.nil)
    go_simp
    refine (HSM.out _).mono ?_
    rintro e1 x1 ⟨rfl, hx1⟩
    have hx1' := hx1.symm
    subst hx1'
    clear hx1
    go_wp2_with fail
    refine hK.out _ _ ?_ (fun hHeld => ?_)
    · assumption
    clear hK K
    try simp only [Act.put, List.setIfInBounds_toArray, List.set_cons_zero, List.set_cons_succ]
    refine Rg.anyG_pure (i := 7) (oi := { dst := some 36, op := _, type := _, pos := _, after := _, guard := _ }) (v := .int .i64 nw) rfl (by kernel_rfl) (by kernel_rfl) (by kernel_rfl) (by rfl) (fun _ _ _ h => h) (Or.inl ⟨by rfl, ?_⟩) (fun _ => by assumption) ?_
    · (intro W hSw; (try dsimp only at hSw); go_simp; try (with_reducible rfl))
    try simp only [Act.put, List.setIfInBounds_toArray, List.set_cons_zero, List.set_cons_succ]
    refine Rg.anyG_pure (i := 8) (oi := { dst := some 37, op := _, type := _, pos := _, after := _, guard := _ }) (v := ?_) rfl (by kernel_rfl) (by kernel_rfl) (by kernel_rfl) (by rfl) (fun _ _ _ h => h) (Or.inl ⟨by rfl, ?_⟩) (fun _ => by assumption) ?_
    rotate_left
    · (intro W hSw; (try dsimp only at hSw); go_simp; try (with_reducible rfl))
    try simp only [Act.put, List.setIfInBounds_toArray, List.set_cons_zero, List.set_cons_succ]
    refine Rg.anyG_pure (i := 9) (oi := { dst := some 38, op := _, type := _, pos := _, after := _, guard := _ }) (v := ?_) rfl (by kernel_rfl) (by kernel_rfl) (by kernel_rfl) (by rfl) (fun _ _ _ h => h) (Or.inl ⟨by rfl, ?_⟩) (fun _ => by assumption) ?_
    rotate_left
    · (intro W hSw; (try dsimp only at hSw); go_simp; try (with_reducible rfl))
    try simp only [Act.put, List.setIfInBounds_toArray, List.set_cons_zero, List.set_cons_succ]
    refine Rg.anyG_ready (rs := [10]) (by kernel_rfl) (by simp) ?_
    refine Rg.AllG.last (o := { dst := none, op := _, type := _, pos := _, after := _, guard := _ }) rfl (by kernel_rfl) (fun K hK => ?_)
    go_simp
    refine hK.out _ _ ?_
    clear hK K
    try simp only [Act.put, List.setIfInBounds_toArray, List.set_cons_zero, List.set_cons_succ]
    refine Rg.anyG_done (by kernel_rfl) ?_ _
    obtain ⟨hs2, hf2⟩ := HS1.out.setNow nw
    have HS2 := mkH (hs2.below (below_drew _))
    have HA2 := mkH ((HA.out.fr hf2 hAB).bel (below_drew _))
    have HP2 := mkH ((HP1.out.fr hf2 (HP1.out.ne HS1.out.b)).below (below_drew _))
    have HQ2 := mkH ((HQ1.out.fr hf2 (HQ1.out.ne HS1.out.b)).below (below_drew _))
    clear hHeld hs2 hf2 c0 c1 c2 c3 c4 c5 f0 f1 f2 f3 f4 f5 a3 HSM hwr HS1 HA HP1 HQ1
    generalize (W1.setCell ⟨B, 4, none⟩ (.int .i64 nw)).drew = W2 at *
    have hnn : nw ≤ 8000 := by omega
    obtain ⟨g2, hg2⟩ : ∃ x, expire ⟨nx, kp, mk, at'⟩ nw 10000 = x := ⟨_, rfl⟩
    have HX := Expire_any W2.drew ⟨nx, kp, mk, at'⟩ ka kc ma mc (HS2.out.l.below (below_drew _)) (by have := HI.out.j.kl; omega) (by have := HI.out.j.ml; omega) (HI.out.j.ok (by omega)) nw 10000 ⟨hn2, by omega⟩
    have hI2 := HI.out.later hn4 10000
    rw [hg2] at HX hI2
    obtain ⟨n2, k2, m2, t2⟩ := g2
    simp only [gC] at HX
    have HX := mkH HX
    have HI2 := mkH hI2
    clear hg2 hI2 HI
    go_upto_region 7 with fail
    obtain ⟨c0, c1, c2, c3, c4, c5, -⟩ := HS2.out.cells
    refine Rg.region_G hmx 12 (fun W => W.cell? ⟨B, 0, none⟩ = some (.int .i64 nx) ∧ W.cell? ⟨B, 1, none⟩ = some (.slice ka kp.length kc) ∧ W.cell? ⟨B, 2, none⟩ = some (.slice ma mk.length mc) ∧ W.cell? ⟨B, 3, none⟩ = some (.string at') ∧ W.cell? ⟨B, 4, none⟩ = some (.int .i64 nw)) ⟨c0, c1, c2, c3, c4⟩ (fun hHeld => ?_)
    refine Rg.anyG_pure (i := 0) (oi := { dst := some 39, op := _, type := _, pos := _, after := _, guard := _ }) (v := ?_) rfl (by kernel_rfl) (by kernel_rfl) (by kernel_rfl) (by rfl) (fun _ _ _ h => h) (Or.inl ⟨by rfl, ?_⟩) (fun _ => by assumption) ?_
    rotate_left
    · (intro W hSw; (try dsimp only at hSw); go_simp; try (with_reducible rfl))
    try simp only [Act.put, List.setIfInBounds_toArray, List.set_cons_zero, List.set_cons_succ]
    refine Rg.anyG_pure (i := 1) (oi := { dst := some 40, op := _, type := _, pos := _, after := _, guard := _ }) (v := ?_) rfl (by kernel_rfl) (by kernel_rfl) (by kernel_rfl) (by rfl) (fun _ _ _ h => h) (Or.inl ⟨by rfl, ?_⟩) (fun _ => by assumption) ?_
    rotate_left
    · (intro W hSw; (try dsimp only at hSw); go_simp; try (with_reducible rfl))
    try simp only [Act.put, List.setIfInBounds_toArray, List.set_cons_zero, List.set_cons_succ]
    refine Rg.anyG_pure (i := 2) (oi := { dst := some 41, op := _, type := _, pos := _, after := _, guard := _ }) (v := ?_) rfl (by kernel_rfl) (by kernel_rfl) (by kernel_rfl) (by rfl) (fun _ _ _ h => h) (Or.inl ⟨by rfl, ?_⟩) (fun _ => by assumption) ?_
    rotate_left
    · (intro W hSw; (try dsimp only at hSw); go_simp; try (with_reducible rfl))
    try simp only [Act.put, List.setIfInBounds_toArray, List.set_cons_zero, List.set_cons_succ]
    refine Rg.anyG_pure (i := 3) (oi := { dst := some 42, op := _, type := _, pos := _, after := _, guard := _ }) (v := ?_) rfl (by kernel_rfl) (by kernel_rfl) (by kernel_rfl) (by rfl) (fun _ _ _ h => h) (Or.inl ⟨by rfl, ?_⟩) (fun _ => by assumption) ?_
    rotate_left
    · (intro W hSw; (try dsimp only at hSw); go_simp; try (with_reducible rfl))
    try simp only [Act.put, List.setIfInBounds_toArray, List.set_cons_zero, List.set_cons_succ]
    refine Rg.anyG_take (i := 4) (oi := { dst := some 43, op := _, type := _, pos := _, after := _, guard := _ }) (v := ?_) rfl (by kernel_rfl) (by kernel_rfl) (by kernel_rfl) [12] (by kernel_rfl) (fun _ _ _ h => h) (Or.inl ⟨by rfl, ?_⟩) (by assumption) ?_
    rotate_left
    · (intro W hSw; (try dsimp only at hSw); go_simp; try (with_reducible rfl))
    try simp only [Act.put, List.setIfInBounds_toArray, List.set_cons_zero, List.set_cons_succ]
    refine Rg.anyG_pure (i := 5) (oi := { dst := some 44, op := _, type := _, pos := _, after := _, guard := _ }) (v := ?_) rfl (by kernel_rfl) (by kernel_rfl) (by kernel_rfl) (by rfl) (fun _ _ _ h => h) (Or.inl ⟨by rfl, ?_⟩) (fun _ => by assumption) ?_
    rotate_left
    · (intro W hSw; (try dsimp only at hSw); go_simp; try (with_reducible rfl))
    try simp only [Act.put, List.setIfInBounds_toArray, List.set_cons_zero, List.set_cons_succ]
    refine Rg.anyG_pure (i := 6) (oi := { dst := some 45, op := _, type := _, pos := _, after := _, guard := _ }) (v := ?_) rfl (by kernel_rfl) (by kernel_rfl) (by kernel_rfl) (by rfl) (fun _ _ _ h => h) (Or.inl ⟨by rfl, ?_⟩) (fun _ => by assumption) ?_
    rotate_left
    · (intro W hSw; (try dsimp only at hSw); go_simp; try (with_reducible rfl))
    try simp only [Act.put, List.setIfInBounds_toArray, List.set_cons_zero, List.set_cons_succ]
    refine Rg.anyG_pure (i := 7) (oi := { dst := some 46, op := _, type := _, pos := _, after := _, guard := _ }) (v := ?_) rfl (by kernel_rfl) (by kernel_rfl) (by kernel_rfl) (by rfl) (fun _ _ _ h => h) (Or.inl ⟨by rfl, ?_⟩) (fun _ => by assumption) ?_
    rotate_left
    · (intro W hSw; (try dsimp only at hSw); go_simp; try (with_reducible rfl))
    try simp only [Act.put, List.setIfInBounds_toArray, List.set_cons_zero, List.set_cons_succ]
    refine Rg.anyG_take (i := 8) (oi := { dst := some 47, op := _, type := _, pos := _, after := _, guard := _ }) (v := ?_) rfl (by kernel_rfl) (by kernel_rfl) (by kernel_rfl) [12] (by kernel_rfl) (fun _ _ _ h => h) (Or.inl ⟨by rfl, ?_⟩) (by assumption) ?_
    rotate_left
    · (intro W hSw; (try dsimp only at hSw); go_simp; try (with_reducible rfl))
    try simp only [Act.put, List.setIfInBounds_toArray, List.set_cons_zero, List.set_cons_succ]
    refine Rg.anyG_ready (rs := [9]) (by kernel_rfl) (by simp) ?_
    refine (Rg.AllG.cons (o := { dst := some 48, op := _, type := _, pos := _, after := _, guard := _ }) rfl (fun K hK => ?_) Rg.AllG.nil)
    go_simp
    refine HX.out.mono ?_
    rintro e1 W3 ⟨ka2, kc2, ma2, mc2, rfl, hg3, hb3⟩
    have hb23 := (below_drew W2).trans hb3
    have HS3 := mkH (HS2.out.below hb23)
    have HA3 := mkH (HA2.out.bel hb23)
    have HP3 := mkH (HP2.out.below hb23)
    have HQ3 := mkH (HQ2.out.below hb23)
    have HG3 := mkH hg3
    clear hg3 hb3 hb23
    obtain ⟨c0, c1, c2, c3, c4, c5, -⟩ := HS3.out.cells
    obtain ⟨f0, f1, f2, f3, f4, f5⟩ := HS3.out.frz
    go_wp2_with fail
    refine hK.out _ _ ?_ (fun hHeld => ?_)
    · exact ⟨c0, c1, c2, c3, c4⟩
    clear hK K
    try simp only [Act.put, List.setIfInBounds_toArray, List.set_cons_zero, List.set_cons_succ]
    refine Rg.anyG_pure (i := 10) (oi := { dst := some 49, op := _, type := _, pos := _, after := _, guard := _ }) (v := ?_) rfl (by kernel_rfl) (by kernel_rfl) (by kernel_rfl) (by rfl) (fun _ _ _ h => h) (Or.inl ⟨by rfl, ?_⟩) (fun _ => by assumption) ?_
    rotate_left
    · (intro W hSw; (try dsimp only at hSw); go_simp; try (with_reducible rfl))
    try simp only [Act.put, List.setIfInBounds_toArray, List.set_cons_zero, List.set_cons_succ]
    refine Rg.anyG_pure (i := 11) (oi := { dst := some 50, op := _, type := _, pos := _, after := _, guard := _ }) (v := ?_) rfl (by kernel_rfl) (by kernel_rfl) (by kernel_rfl) (by rfl) (fun _ _ _ h => h) (Or.inl ⟨by rfl, ?_⟩) (fun _ => by assumption) ?_
    rotate_left
    · (intro W hSw; (try dsimp only at hSw); go_simp; try (with_reducible rfl))
    try simp only [Act.put, List.setIfInBounds_toArray, List.set_cons_zero, List.set_cons_succ]
    refine Rg.anyG_ready (rs := [12]) (by kernel_rfl) (by simp) ?_
    refine Rg.AllG.last (o := { dst := none, op := _, type := _, pos := _, after := _, guard := _ }) rfl (by kernel_rfl) (fun K hK => ?_)
    go_simp
    refine hK.out _ _ ?_
    clear hK K
    try simp only [Act.put, List.setIfInBounds_toArray, List.set_cons_zero, List.set_cons_succ]
    refine Rg.anyG_done (by kernel_rfl) ?_ _
    obtain ⟨hs4, hf4⟩ := HS3.out.setG HG3.out.gl
    have HS4 := mkH hs4
    have HA4 := mkH (HA3.out.fr hf4 hAB)
    have HP4 := mkH (HP3.out.fr hf4 (HP3.out.ne HS3.out.b))
    have HQ4 := mkH (HQ3.out.fr hf4 (HQ3.out.ne HS3.out.b))
    simp only at HS4
    clear hHeld hs4 hf4 c0 c1 c2 c3 c4 c5 f0 f1 f2 f3 f4 f5 HS2 HA2 HX HS3 HA3 HG3 HP2 HQ2 HP3 HQ3
    generalize (((W3.setCell ⟨B, 0, none⟩ (.int .i64 n2)).setCell ⟨B, 1, none⟩ (.slice ka2 k2.length kc2)).setCell ⟨B, 2, none⟩ (.slice ma2 m2.length mc2)).setCell ⟨B, 3, none⟩ (.string t2) = W4 at *
    have a0 : W4.cell? ⟨A0, 0, none⟩ = some (.int .i64 xk) := HA4.out.cell 0 _ rfl
    have a5 : W4.cell? ⟨A0, 5, none⟩ = some (.string xt) := HA4.out.cell 5 _ rfl
    have hm6 : (if (20 : Int) < (xt.size : Int) then (20 : Int) else (xt.size : Int)) = ((min xt.size 20 : Nat) : Int) := min_str xt 20
    obtain ⟨z6, hz6⟩ : ∃ m, min xt.size 20 = m := ⟨_, rfl⟩
    rw [hz6] at hm6
    have l6 : (z6 : Int) ≤ (xt.size : Int) := by omega
    have l7 : z6 ≤ 20 := by omega
    clear hz6
    go_upto_if 61 with fail
    obtain ⟨tk, htk⟩ : ∃ x, (⟨#[116]⟩ : ByteArray) ++ xt.extract 0 z6 = x := ⟨_, rfl⟩
    have htz : tk.size = 1 + (xt.extract 0 z6).size := by rw [← htk, ByteArray.size_append]; rfl
    have htz2 : (xt.extract 0 z6).size ≤ 20 := by rw [ByteArray.size_extract]; omega
    have htne : tk ≠ ⟨#[]⟩ := by
      intro e
      rw [e] at htz
      have : (⟨#[]⟩ : ByteArray).size = 0 := rfl
      omega
    have hts : tk.size ≤ maxLen := by unfold maxLen; omega
    rw [htk]
    have HTN := mkH htne
    clear htk htz htz2 htne hm6 l6
    refine Rg.cutU (β := Unit) (fun _ u => #[.slice (some ⟨ba, off, none⟩) acts.length cap, u 1, u 2, .pointer (some ⟨B, 0, none⟩), .int .i64 (k : Int), .pointer (some ⟨A0, 0, none⟩), .string tk, u 7, u 8, u 9, u 10, u 11, u 12, u 13, u 14, u 15, u 16, u 17, u 18, u 19, u 20, u 21, u 22, u 23, u 24, u 25, u 26, u 27, u 28, u 29, u 30, u 31, u 32, u 33, u 34, u 35, u 36, u 37, u 38, u 39, u 40, u 41, u 42, u 43, u 44, u 45, u 46, u 47, u 48, u 49, u 50, u 51, u 52, u 53, u 54, u 55, u 56, u 57, u 58, u 59, u 60, u 61, u 62, u 63, u 64, u 65, u 66, u 67, u 68, u 69, u 70, u 71, u 72, u 73, u 74, u 75, u 76, u 77, u 78, u 79, u 80, u 81, u 82, u 83, u 84, u 85, u 86, u 87, u 88, u 89, u 90, u 91, u 92, u 93, u 94, u 95, u 96, u 97, u 98, u 99, u 100, u 101, u 102, u 103, u 104, u 105, u 106, u 107, u 108, u 109, u 110, u 111, u 112, u 113, u 114, u 115, u 116, u 117, u 118, u 119, u 120, u 121, u 122, u 123, u 124, u 125, u 126, u 127, u 128, u 129, u 130, u 131, u 132, u 133, u 134, u 135, u 136, u 137, u 138, u 139, u 140, u 141, u 142, u 143, u 144, u 145, u 146, u 147, u 148, u 149, u 150, u 151, u 152, u 153, u 154, u 155, u 156, u 157, u 158, u 159, u 160, u 161, u 162, u 163, u 164, u 165, u 166, u 167, u 168, u 169, u 170, u 171, u 172, u 173, u 174, u 175, u 176, u 177, u 178, u 179, u 180, u 181, u 182, u 183, u 184, u 185, u 186, u 187, u 188, u 189, u 190, u 191, u 192, u 193, u 194, u 195, u 196, u 197, u 198, u 199, u 200, u 201, u 202, u 203, u 204, u 205, u 206, u 207, u 208, u 209, u 210, u 211, u 212, u 213, u 214, u 215, u 216, u 217, u 218, u 219, u 220, u 221, u 222, u 223, u 224, u 225]) (fun _ WW => ∃ (g : G) (ka : Option Addr) (kc : Nat) (ma : Option Addr) (mc : Nat), Hid (TI k g nw S T) ∧ Hid (∀ m ∈ g.marks, nw - m.ti < 300) ∧ Hid (Sy w WW B g nw [] ka kc ma mc none 0 b6 b7) ∧ Hid (Mp WW b6 k S) ∧ Hid (Mp WW b7 k T) ∧ Hid (Bx WW A0 #[Value.int .i64 xk, .int .i64 xn, .int .i64 xs, .int .i64 xw, .string xb, .string xt] 53)) ?rest1 ?first1
    case first1 =>
      intro K1 HK1
      by_cases q1 : xk = 1
      · subst q1
        obtain ⟨c0, c1, c2, c3, c4, c5, -⟩ := HS4.out.cells
        have hX := Gpu.Purge_any W4 ⟨n2, k2, m2, t2⟩ ka2 kc2 ma2 mc2 HS4.out.l (by have := HI2.out.1.j.kl; omega) (by have := HI2.out.1.j.ml; omega)
        simp only [gC, purged] at hX
        have HX := mkH hX
        clear hX
        go_wp2_with fail
        refine HX.out.mono ?_
        rintro e W5 ⟨ma3, mc3, rfl, hg5, hb5⟩
        have HS5 := mkH (HS4.out.below hb5)
        have HA5 := mkH (HA4.out.bel hb5)
        have HP5 := mkH (HP4.out.below hb5)
        have HQ5 := mkH (HQ4.out.below hb5)
        have HG5 := mkH hg5
        clear hg5 hb5 c0 c1 c2 c3 c4 c5 HX
        obtain ⟨c0, c1, c2, c3, c4, c5, -⟩ := HS5.out.cells
        obtain ⟨f0, f1, f2, f3, f4, f5⟩ := HS5.out.frz
        go_wp2_with fail
        refine Rg.meetU _ (fun u => HK1.out () u _ ?_) (by kernel_rfl)
        obtain ⟨hs6, hf6⟩ := HS5.out.setG (g2 := ⟨n2, [], m2, t2⟩) HG5.out.gl
        exact ⟨⟨n2, [], m2, t2⟩, none, 0, ma3, mc3, HI2.out.1.purge, HI2.out.2, hs6, HP5.out.fr hf6 (HP5.out.ne HS5.out.b), HQ5.out.fr hf6 (HQ5.out.ne HS5.out.b), HA5.out.fr hf6 hAB⟩
      · have q1b : (xk == 1) = false := by simpa using q1
        go_wp2_with fail
        refine Rg.meetU _ (fun u => HK1.out () u _ ?_) (by kernel_rfl)
        exact ⟨_, ka2, kc2, ma2, mc2, HI2.out.1, HI2.out.2, HS4, HP4, HQ4, HA4⟩
    case rest1 =>
      rintro - u W5 ⟨g, ka3, kc3, ma3, mc3, HI3, HE3, HS5, HP5, HQ5, HA5⟩
      obtain ⟨n3, k3, m3, t3⟩ := g
      clear HS4 HP4 HQ4 HA4 HI2 a0 a5
      obtain ⟨c0, c1, c2, c3, c4, c5, -⟩ := HS5.out.cells
      have a4 : W5.cell? ⟨A0, 4, none⟩ = some (.string xb) := HA5.out.cell 4 _ rfl
      have hig : (Tryd.prog.info? 25).map (·.size) = some 4 := by kernel_rfl
      have hm5 : (if (20 : Int) < (xb.size : Int) then (20 : Int) else (xb.size : Int)) = ((min xb.size 20 : Nat) : Int) := min_str xb 20
      obtain ⟨z5, hz5⟩ : ∃ m, min xb.size 20 = m := ⟨_, rfl⟩
      rw [hz5] at hm5
      have l5 : (z5 : Int) ≤ (xb.size : Int) := by omega
      clear hz5
      have hkl3 : k3.length ≤ 12 := HI3.out.j.kl
      have hml3 : m3.length ≤ 40 := HI3.out.j.ml
      have hnx3 : 0 ≤ n3 ∧ n3 ≤ (k : Int) + 1 := HI3.out.j.nx
      have hSD : ∀ W, Gl W ⟨n3, k3, m3, t3⟩ ka3 kc3 ma3 mc3 → _ := fun W hW => Gd.Send_tok W ⟨n3, k3, m3, t3⟩ ka3 kc3 ma3 mc3 hW (by show k3.length ≤ _; omega) (by show m3.length ≤ _; omega) ⟨hnx3.1, by show n3 ≤ _; omega⟩ nw 0 (xb.extract 0 z5) tk HTN.out tk (by unfold Gd.tkn; exact if_neg HTN.out)
      obtain ⟨g4, hg4⟩ : ∃ x, sendG ⟨n3, k3, m3, t3⟩ nw 0 (xb.extract 0 z5) tk = x := ⟨_, rfl⟩
      obtain ⟨sn, hsn⟩ : ∃ x, sendN ⟨n3, k3, m3, t3⟩ tk = x := ⟨_, rfl⟩
      obtain ⟨se, hse⟩ : ∃ x, sendE ⟨n3, k3, m3, t3⟩ tk = x := ⟨_, rfl⟩
      rw [hg4, hsn, hse] at hSD
      obtain ⟨n4, k4, m4, t4⟩ := g4
      simp only [gC] at hSD
      have HSD := mkH hSD
      have HG4 := mkH hg4
      have HSN := mkH hsn
      have HSE := mkH hse
      clear hSD hg4 hsn hse
      go_upto_region 12 with fail
      refine Rg.cutU (β := Nat) (fun b u => #[.slice (some ⟨ba, off, none⟩) acts.length cap, u 1, u 2, .pointer (some ⟨B, 0, none⟩), .int .i64 (k : Int), u 5, .string tk, .int .i64 (k3.length : Int), .pointer (some ⟨b, 0, none⟩), .int .i64 sn, .int .i64 se, u 11, u 12, u 13, u 14, u 15, u 16, u 17, u 18, u 19, u 20, u 21, u 22, u 23, u 24, u 25, u 26, u 27, u 28, u 29, u 30, u 31, u 32, u 33, u 34, u 35, u 36, u 37, u 38, u 39, u 40, u 41, u 42, u 43, u 44, u 45, u 46, u 47, u 48, u 49, u 50, u 51, u 52, u 53, u 54, u 55, u 56, u 57, u 58, u 59, u 60, u 61, u 62, u 63, u 64, u 65, u 66, u 67, u 68, u 69, u 70, u 71, u 72, u 73, u 74, u 75, u 76, u 77, u 78, u 79, u 80, u 81, u 82, u 83, u 84, u 85, u 86, u 87, u 88, u 89, u 90, u 91, u 92, u 93, u 94, u 95, u 96, u 97, u 98, u 99, u 100, u 101, u 102, u 103, u 104, u 105, u 106, u 107, u 108, u 109, u 110, u 111, u 112, u 113, u 114, u 115, u 116, u 117, u 118, u 119, u 120, u 121, u 122, u 123, u 124, u 125, u 126, u 127, u 128, u 129, u 130, u 131, u 132, u 133, u 134, u 135, u 136, u 137, u 138, u 139, u 140, u 141, u 142, u 143, u 144, u 145, u 146, u 147, u 148, u 149, u 150, u 151, u 152, u 153, u 154, u 155, u 156, u 157, u 158, u 159, u 160, u 161, u 162, u 163, u 164, u 165, u 166, u 167, u 168, u 169, u 170, u 171, u 172, u 173, u 174, u 175, u 176, u 177, u 178, u 179, u 180, u 181, u 182, u 183, u 184, u 185, u 186, u 187, u 188, u 189, u 190, u 191, u 192, u 193, u 194, u 195, u 196, u 197, u 198, u 199, u 200, u 201, u 202, u 203, u 204, u 205, u 206, u 207, u 208, u 209, u 210, u 211, u 212, u 213, u 214, u 215, u 216, u 217, u 218, u 219, u 220, u 221, u 222, u 223, u 224, u 225]) (fun b WW => ∃ (ka4 : Option Addr) (kc4 : Nat) (ma4 : Option Addr) (mc4 : Nat), Hid (Sy w WW B ⟨n3, k3, m3, t3⟩ nw [] ka3 kc3 ma3 mc3 none 0 b6 b7) ∧ Hid (Bx WW b #[Value.int .i64 n4, .slice ka4 k4.length kc4, .slice ma4 m4.length mc4, .string t4] 25) ∧ Hid (Gl WW ⟨n4, k4, m4, t4⟩ ka4 kc4 ma4 mc4) ∧ Hid (Mp WW b6 k S) ∧ Hid (Mp WW b7 k T)) ?rest2 ?first2
      case first2 =>
        intro K2 HK2
        refine wp_region_held_drew (S := fun W => W.cell? ⟨B, 0, none⟩ = some (.int .i64 n3) ∧ W.cell? ⟨B, 1, none⟩ = some (.slice ka3 k3.length kc3) ∧ W.cell? ⟨B, 2, none⟩ = some (.slice ma3 m3.length mc3) ∧ W.cell? ⟨B, 3, none⟩ = some (.string t3) ∧ W.cell? ⟨B, 4, none⟩ = some (.int .i64 nw) ∧ W.cell? ⟨A0, 4, none⟩ = some (.string xb)) hmx ?_ (fun hHeld => ?_)
        · exact ⟨c0, c1, c2, c3, c4, a4⟩
        have HSV0 := mkH (HS5.out.below (below_drew _))
        have HAV0 := mkH (HA5.out.bel (below_drew _))
        have HPV0 := mkH (HP5.out.below (below_drew _))
        have HQV0 := mkH (HQ5.out.below (below_drew _))
        generalize W5.drew = V0 at *
        refine wpAnyH_take (i := 0) (oi := { dst := some 80, op := _, type := _, pos := _, after := _, guard := _ }) (v := ?_) rfl (by kernel_rfl) (by kernel_rfl) (by kernel_rfl) (fun _ _ _ h => h) (Or.inl ⟨by rfl, ?_⟩) (by assumption) ?_
        rotate_left
        · (intro W hSw; (try dsimp only at hSw); go_simp; try (with_reducible rfl))
        try simp only [Act.put, List.setIfInBounds_toArray, List.set_cons_zero, List.set_cons_succ]
        refine wpAnyH_take (i := 1) (oi := { dst := some 81, op := _, type := _, pos := _, after := _, guard := _ }) (v := ?_) rfl (by kernel_rfl) (by kernel_rfl) (by kernel_rfl) (fun _ _ _ h => h) (Or.inl ⟨by rfl, ?_⟩) (by assumption) ?_
        rotate_left
        · (intro W hSw; (try dsimp only at hSw); go_simp; try (with_reducible rfl))
        try simp only [Act.put, List.setIfInBounds_toArray, List.set_cons_zero, List.set_cons_succ]
        refine wpAnyH_take (i := 2) (oi := { dst := some 82, op := _, type := _, pos := _, after := _, guard := _ }) (v := ?_) rfl (by kernel_rfl) (by kernel_rfl) (by kernel_rfl) (fun _ _ _ h => h) (Or.inl ⟨by rfl, ?_⟩) (by assumption) ?_
        rotate_left
        · (intro W hSw; (try dsimp only at hSw); go_simp; try (with_reducible rfl))
        try simp only [Act.put, List.setIfInBounds_toArray, List.set_cons_zero, List.set_cons_succ]
        refine wpAnyH_take (i := 3) (oi := { dst := some 83, op := _, type := _, pos := _, after := _, guard := _ }) (v := ?_) rfl (by kernel_rfl) (by kernel_rfl) (by kernel_rfl) (fun _ _ _ h => h) (Or.inl ⟨by rfl, ?_⟩) (by assumption) ?_
        rotate_left
        · (intro W hSw; (try dsimp only at hSw); go_simp; try (with_reducible rfl))
        try simp only [Act.put, List.setIfInBounds_toArray, List.set_cons_zero, List.set_cons_succ]
        refine wpAnyH_take (i := 4) (oi := { dst := some 84, op := _, type := _, pos := _, after := _, guard := _ }) (v := ?_) rfl (by kernel_rfl) (by kernel_rfl) (by kernel_rfl) (fun _ _ _ h => h) (Or.inl ⟨by rfl, ?_⟩) (by assumption) ?_
        rotate_left
        · (intro W hSw; (try dsimp only at hSw); go_simp; try (with_reducible rfl))
        try simp only [Act.put, List.setIfInBounds_toArray, List.set_cons_zero, List.set_cons_succ]
        refine wpAnyH_take (i := 5) (oi := { dst := some 85, op := _, type := _, pos := _, after := _, guard := _ }) (v := ?_) rfl (by kernel_rfl) (by kernel_rfl) (by kernel_rfl) (fun _ _ _ h => h) (Or.inl ⟨by rfl, ?_⟩) (by assumption) ?_
        rotate_left
        · (intro W hSw; (try dsimp only at hSw); go_simp; try (with_reducible rfl))
        try simp only [Act.put, List.setIfInBounds_toArray, List.set_cons_zero, List.set_cons_succ]
        refine wpAnyH_take (i := 6) (oi := { dst := some 86, op := _, type := _, pos := _, after := _, guard := _ }) (v := ?_) rfl (by kernel_rfl) (by kernel_rfl) (by kernel_rfl) (fun _ _ _ h => h) (Or.inl ⟨by rfl, ?_⟩) (by assumption) ?_
        rotate_left
        · (intro W hSw; (try dsimp only at hSw); go_simp; try (with_reducible rfl))
        try simp only [Act.put, List.setIfInBounds_toArray, List.set_cons_zero, List.set_cons_succ]
        refine wpAnyH_take (i := 7) (oi := { dst := some 87, op := _, type := _, pos := _, after := _, guard := _ }) (v := ?_) rfl (by kernel_rfl) (by kernel_rfl) (by kernel_rfl) (fun _ _ _ h => h) (Or.inl ⟨by rfl, ?_⟩) (by assumption) ?_
        rotate_left
        · (intro W hSw; (try dsimp only at hSw); go_simp; try (with_reducible rfl))
        try simp only [Act.put, List.setIfInBounds_toArray, List.set_cons_zero, List.set_cons_succ]
        refine wpAnyH_take (i := 8) (oi := { dst := some 88, op := _, type := _, pos := _, after := _, guard := _ }) (v := ?_) rfl (by kernel_rfl) (by kernel_rfl) (by kernel_rfl) (fun _ _ _ h => h) (Or.inl ⟨by rfl, ?_⟩) (by assumption) ?_
        rotate_left
        · (intro W hSw; (try dsimp only at hSw); go_simp; try (with_reducible rfl))
        try simp only [Act.put, List.setIfInBounds_toArray, List.set_cons_zero, List.set_cons_succ]
        refine wpAnyH_take (i := 9) (oi := { dst := some 89, op := _, type := _, pos := _, after := _, guard := _ }) (v := ?_) rfl (by kernel_rfl) (by kernel_rfl) (by kernel_rfl) (fun _ _ _ h => h) (Or.inl ⟨by rfl, ?_⟩) (by assumption) ?_
        rotate_left
        · (intro W hSw; (try dsimp only at hSw); go_simp; try (with_reducible rfl))
        try simp only [Act.put, List.setIfInBounds_toArray, List.set_cons_zero, List.set_cons_succ]
        refine wpAnyH_take (i := 10) (oi := { dst := some 90, op := _, type := _, pos := _, after := _, guard := _ }) (v := ?_) rfl (by kernel_rfl) (by kernel_rfl) (by kernel_rfl) (fun _ _ _ h => h) (Or.inl ⟨by rfl, ?_⟩) (by assumption) ?_
        rotate_left
        · (intro W hSw; (try dsimp only at hSw); go_simp; try (with_reducible rfl))
        try simp only [Act.put, List.setIfInBounds_toArray, List.set_cons_zero, List.set_cons_succ]
        refine wpAnyH_take (i := 11) (oi := { dst := some 91, op := _, type := _, pos := _, after := _, guard := _ }) (v := ?_) rfl (by kernel_rfl) (by kernel_rfl) (by kernel_rfl) (fun _ _ _ h => h) (Or.inl ⟨by rfl, ?_⟩) (by assumption) ?_
        rotate_left
        · (intro W hSw; (try dsimp only at hSw); go_simp; try (with_reducible rfl))
        try simp only [Act.put, List.setIfInBounds_toArray, List.set_cons_zero, List.set_cons_succ]
        refine wpAnyH_take (i := 12) (oi := { dst := some 92, op := _, type := _, pos := _, after := _, guard := _ }) (v := ?_) rfl (by kernel_rfl) (by kernel_rfl) (by kernel_rfl) (fun _ _ _ h => h) (Or.inl ⟨by rfl, ?_⟩) (by assumption) ?_
        rotate_left
        · (intro W hSw; (try dsimp only at hSw); go_simp; try (with_reducible rfl))
        try simp only [Act.put, List.setIfInBounds_toArray, List.set_cons_zero, List.set_cons_succ]
        refine wpAnyH_take (i := 13) (oi := { dst := some 93, op := _, type := _, pos := _, after := _, guard := _ }) (v := ?_) rfl (by kernel_rfl) (by kernel_rfl) (by kernel_rfl) (fun _ _ _ h => h) (Or.inl ⟨by rfl, ?_⟩) (by assumption) ?_
        rotate_left
        · (intro W hSw; (try dsimp only at hSw); go_simp; try (with_reducible rfl))
        try simp only [Act.put, List.setIfInBounds_toArray, List.set_cons_zero, List.set_cons_succ]
        refine wpAnyH_take (i := 14) (oi := { dst := some 94, op := _, type := _, pos := _, after := _, guard := _ }) (v := ?_) rfl (by kernel_rfl) (by kernel_rfl) (by kernel_rfl) (fun _ _ _ h => h) (Or.inl ⟨by rfl, ?_⟩) (by assumption) ?_
        rotate_left
        · (intro W hSw; (try dsimp only at hSw); go_simp; try (with_reducible rfl))
        try simp only [Act.put, List.setIfInBounds_toArray, List.set_cons_zero, List.set_cons_succ]
        refine wpAnyH_take (i := 15) (oi := { dst := some 95, op := _, type := _, pos := _, after := _, guard := _ }) (v := ?_) rfl (by kernel_rfl) (by kernel_rfl) (by kernel_rfl) (fun _ _ _ h => h) (Or.inl ⟨by rfl, ?_⟩) (by assumption) ?_
        rotate_left
        · (intro W hSw; (try dsimp only at hSw); go_simp; try (with_reducible rfl))
        try simp only [Act.put, List.setIfInBounds_toArray, List.set_cons_zero, List.set_cons_succ]
        refine wpAnyH_ready (rs := [16, 21]) (by kernel_rfl) (by simp) ?_
        refine (AllReadyH.cons (o := { dst := some 96, op := _, type := _, pos := _, after := _, guard := _ }) rfl (fun K hK => ?_) (AllReadyH.cons (o := { dst := some 8, op := _, type := _, pos := _, after := _, guard := _ }) rfl (fun K hK => ?_) AllReadyH.nil))
        · go_simp
          refine (HSD.out V0 (HSV0.out.l)).mono ?_
          rintro e1 V1 ⟨ka4, kc4, ma4, mc4, rfl, hg5, hb5⟩
          have HSV1 := mkH (HSV0.out.below hb5)
          have HAV1 := mkH (HAV0.out.bel hb5)
          have HPV1 := mkH (HPV0.out.below hb5)
          have HQV1 := mkH (HQV0.out.below hb5)
          have HLV1 := mkH hg5.gl
          clear hg5 hb5
          go_wp2_with fail
          refine hK.out _ _ ?_ (fun hHeld => ?_)
          · (obtain ⟨c0, c1, c2, c3, c4, c5, -⟩ := HSV1.out.cells; exact ⟨c0, c1, c2, c3, c4, HAV1.out.cell 4 _ rfl⟩)
          clear hK K
          try simp only [Act.put, List.setIfInBounds_toArray, List.set_cons_zero, List.set_cons_succ]
          refine wpAnyH_take (i := 17) (oi := { dst := some 79, op := _, type := _, pos := _, after := _, guard := _ }) (v := ?_) rfl (by kernel_rfl) (by kernel_rfl) (by kernel_rfl) (fun _ _ _ h => h) (Or.inl ⟨by rfl, ?_⟩) (by assumption) ?_
          rotate_left
          · (intro W hSw; (try dsimp only at hSw); go_simp; try (with_reducible rfl))
          try simp only [Act.put, List.setIfInBounds_toArray, List.set_cons_zero, List.set_cons_succ]
          refine wpAnyH_take (i := 18) (oi := { dst := some 97, op := _, type := _, pos := _, after := _, guard := _ }) (v := ?_) rfl (by kernel_rfl) (by kernel_rfl) (by kernel_rfl) (fun _ _ _ h => h) (Or.inl ⟨by rfl, ?_⟩) (by assumption) ?_
          rotate_left
          · (intro W hSw; (try dsimp only at hSw); go_simp; try (with_reducible rfl))
          try simp only [Act.put, List.setIfInBounds_toArray, List.set_cons_zero, List.set_cons_succ]
          refine wpAnyH_take (i := 19) (oi := { dst := some 98, op := _, type := _, pos := _, after := _, guard := _ }) (v := ?_) rfl (by kernel_rfl) (by kernel_rfl) (by kernel_rfl) (fun _ _ _ h => h) (Or.inl ⟨by rfl, ?_⟩) (by assumption) ?_
          rotate_left
          · (intro W hSw; (try dsimp only at hSw); go_simp; try (with_reducible rfl))
          try simp only [Act.put, List.setIfInBounds_toArray, List.set_cons_zero, List.set_cons_succ]
          refine wpAnyH_take (i := 20) (oi := { dst := some 99, op := _, type := _, pos := _, after := _, guard := _ }) (v := ?_) rfl (by kernel_rfl) (by kernel_rfl) (by kernel_rfl) (fun _ _ _ h => h) (Or.inl ⟨by rfl, ?_⟩) (by assumption) ?_
          rotate_left
          · (intro W hSw; (try dsimp only at hSw); go_simp; try (with_reducible rfl))
          try simp only [Act.put, List.setIfInBounds_toArray, List.set_cons_zero, List.set_cons_succ]
          refine wpAnyH_ready (rs := [21]) (by kernel_rfl) (by simp) ?_
          refine (AllReadyH.cons (o := { dst := some 8, op := _, type := _, pos := _, after := _, guard := _ }) rfl (fun K hK => ?_) AllReadyH.nil)
          go_simp
          have hal : Below V1.heap.size V1 (V1.alloc (.cells #[Value.int .i64 0, .slice none 0 0, .slice none 0 0, .string ⟨#[]⟩] 25)) := (Below.refl _ _).alloc (Nat.le_refl _) _
          have HSV2 := mkH (HSV1.out.below hal)
          have HAV2 := mkH (HAV1.out.bel hal)
          have HPV2 := mkH (HPV1.out.below hal)
          have HQV2 := mkH (HQV1.out.below hal)
          have HLV2 := mkH (HLV1.out.below hal)
          have HZV2 := mkH (Bx.new V1 #[Value.int .i64 0, .slice none 0 0, .slice none 0 0, .string ⟨#[]⟩] 25)
          have hB1 : V1.heap.size ≠ B := Nat.ne_of_gt HSV1.out.b.lt
          have hB2 : V1.heap.size ≠ A0 := Nat.ne_of_gt HAV1.out.lt
          have hBw : w.heap.size ≤ V1.heap.size := HSV1.out.bl.size
          clear hal
          generalize V1.alloc (.cells #[Value.int .i64 0, .slice none 0 0, .slice none 0 0, .string ⟨#[]⟩] 25) = V2 at *
          generalize V1.heap.size = G1 at HZV2 hB1 hB2 hBw ⊢
          refine hK.out _ _ ?_ (fun hHeld => ?_)
          · (obtain ⟨c0, c1, c2, c3, c4, c5, -⟩ := HSV2.out.cells; exact ⟨c0, c1, c2, c3, c4, HAV2.out.cell 4 _ rfl⟩)
          clear hK K
          try simp only [Act.put, List.setIfInBounds_toArray, List.set_cons_zero, List.set_cons_succ]
          refine wpAnyH_ready (rs := [22]) (by kernel_rfl) (by simp) ?_
          refine (AllReadyH.cons (o := { dst := none, op := _, type := _, pos := _, after := _, guard := _ }) rfl (fun K hK => ?_) AllReadyH.nil)
          refine step_st (by rfl) 25 (.tmp 8) (.tmp 97) (by rfl) G1 #[Value.int .i64 n4, .slice ka4 k4.length kc4, .slice ma4 m4.length mc4, .string t4] #[Value.int .i64 0, .slice none 0 0, .slice none 0 0, .string ⟨#[]⟩] 25 (by rfl) (by rfl) HZV2.out hig (by rfl) (by simp [Value.oneCell']) ?_
          have hfs : Fr (fun x => x = G1) V2 (V2.setRow G1 #[Value.int .i64 n4, .slice ka4 k4.length kc4, .slice ma4 m4.length mc4, .string t4]) := Bx.frrow _
          have HZV3 : Hid (Bx (V2.setRow G1 #[Value.int .i64 n4, .slice ka4 k4.length kc4, .slice ma4 m4.length mc4, .string t4]) G1 #[Value.int .i64 n4, .slice ka4 k4.length kc4, .slice ma4 m4.length mc4, .string t4] 25) := HZV2.out.row
          have HSV3 := mkH (syFr HSV2.out hfs hB1 (by simp [Value.ownBlock]) (glFr HSV2.out.l HZV2.out hfs) hBw)
          have HAV3 := mkH (HAV2.out.fr hfs (Ne.symm hB2))
          have HPV3 := mkH (HPV2.out.fr hfs (HPV2.out.ne HZV2.out))
          have HQV3 := mkH (HQV2.out.fr hfs (HQV2.out.ne HZV2.out))
          have HLV3 := mkH (glFr HLV2.out HZV2.out hfs)
          generalize V2.setRow G1 #[Value.int .i64 n4, .slice ka4 k4.length kc4, .slice ma4 m4.length mc4, .string t4] = V3 at *
          refine hK.out _ _ ?_ (fun hHeld => ?_)
          · (obtain ⟨c0, c1, c2, c3, c4, c5, -⟩ := HSV3.out.cells; exact ⟨c0, c1, c2, c3, c4, HAV3.out.cell 4 _ rfl⟩)
          clear hK K
          try simp only [Act.put, List.setIfInBounds_toArray, List.set_cons_zero, List.set_cons_succ]
          refine wpAnyH_take (i := 23) (oi := { dst := some 9, op := _, type := _, pos := _, after := _, guard := _ }) (v := ?_) rfl (by kernel_rfl) (by kernel_rfl) (by kernel_rfl) (fun _ _ _ h => h) (Or.inl ⟨by rfl, ?_⟩) (by assumption) ?_
          rotate_left
          · (intro W hSw; (try dsimp only at hSw); go_simp; try (with_reducible rfl))
          try simp only [Act.put, List.setIfInBounds_toArray, List.set_cons_zero, List.set_cons_succ]
          refine wpAnyH_take (i := 24) (oi := { dst := some 10, op := _, type := _, pos := _, after := _, guard := _ }) (v := ?_) rfl (by kernel_rfl) (by kernel_rfl) (by kernel_rfl) (fun _ _ _ h => h) (Or.inl ⟨by rfl, ?_⟩) (by assumption) ?_
          rotate_left
          · (intro W hSw; (try dsimp only at hSw); go_simp; try (with_reducible rfl))
          try simp only [Act.put, List.setIfInBounds_toArray, List.set_cons_zero, List.set_cons_succ]
          refine wpAnyH_done (by kernel_rfl) ?_ _
          go_wp2_with fail
          refine Rg.meetU _ (fun u => HK2.out G1 u _ ?_) (by kernel_rfl)
          exact ⟨ka4, kc4, ma4, mc4, HSV3, HZV3, HLV3, HPV3, HQV3⟩
        · go_simp
          have hal : Below V0.heap.size V0 (V0.alloc (.cells #[Value.int .i64 0, .slice none 0 0, .slice none 0 0, .string ⟨#[]⟩] 25)) := (Below.refl _ _).alloc (Nat.le_refl _) _
          have HSV1 := mkH (HSV0.out.below hal)
          have HAV1 := mkH (HAV0.out.bel hal)
          have HPV1 := mkH (HPV0.out.below hal)
          have HQV1 := mkH (HQV0.out.below hal)
          have HZV1 := mkH (Bx.new V0 #[Value.int .i64 0, .slice none 0 0, .slice none 0 0, .string ⟨#[]⟩] 25)
          have hB1 : V0.heap.size ≠ B := Nat.ne_of_gt HSV0.out.b.lt
          have hB2 : V0.heap.size ≠ A0 := Nat.ne_of_gt HAV0.out.lt
          have hBw : w.heap.size ≤ V0.heap.size := HSV0.out.bl.size
          clear hal
          generalize V0.alloc (.cells #[Value.int .i64 0, .slice none 0 0, .slice none 0 0, .string ⟨#[]⟩] 25) = V1 at *
          generalize V0.heap.size = G1 at HZV1 hB1 hB2 hBw ⊢
          refine hK.out _ _ ?_ (fun hHeld => ?_)
          · (obtain ⟨c0, c1, c2, c3, c4, c5, -⟩ := HSV1.out.cells; exact ⟨c0, c1, c2, c3, c4, HAV1.out.cell 4 _ rfl⟩)
          clear hK K
          try simp only [Act.put, List.setIfInBounds_toArray, List.set_cons_zero, List.set_cons_succ]
          refine wpAnyH_ready (rs := [16]) (by kernel_rfl) (by simp) ?_
          refine (AllReadyH.cons (o := { dst := some 96, op := _, type := _, pos := _, after := _, guard := _ }) rfl (fun K hK => ?_) AllReadyH.nil)
          go_simp
          refine (HSD.out V1 (HSV1.out.l)).mono ?_
          rintro e1 V2 ⟨ka4, kc4, ma4, mc4, rfl, hg5, hb5⟩
          have HSV2 := mkH (HSV1.out.below hb5)
          have HAV2 := mkH (HAV1.out.bel hb5)
          have HPV2 := mkH (HPV1.out.below hb5)
          have HQV2 := mkH (HQV1.out.below hb5)
          have HZV2 := mkH (HZV1.out.bel hb5)
          have HLV2 := mkH hg5.gl
          clear hg5 hb5
          go_wp2_with fail
          refine hK.out _ _ ?_ (fun hHeld => ?_)
          · (obtain ⟨c0, c1, c2, c3, c4, c5, -⟩ := HSV2.out.cells; exact ⟨c0, c1, c2, c3, c4, HAV2.out.cell 4 _ rfl⟩)
          clear hK K
          try simp only [Act.put, List.setIfInBounds_toArray, List.set_cons_zero, List.set_cons_succ]
          refine wpAnyH_take (i := 17) (oi := { dst := some 79, op := _, type := _, pos := _, after := _, guard := _ }) (v := ?_) rfl (by kernel_rfl) (by kernel_rfl) (by kernel_rfl) (fun _ _ _ h => h) (Or.inl ⟨by rfl, ?_⟩) (by assumption) ?_
          rotate_left
          · (intro W hSw; (try dsimp only at hSw); go_simp; try (with_reducible rfl))
          try simp only [Act.put, List.setIfInBounds_toArray, List.set_cons_zero, List.set_cons_succ]
          refine wpAnyH_take (i := 18) (oi := { dst := some 97, op := _, type := _, pos := _, after := _, guard := _ }) (v := ?_) rfl (by kernel_rfl) (by kernel_rfl) (by kernel_rfl) (fun _ _ _ h => h) (Or.inl ⟨by rfl, ?_⟩) (by assumption) ?_
          rotate_left
          · (intro W hSw; (try dsimp only at hSw); go_simp; try (with_reducible rfl))
          try simp only [Act.put, List.setIfInBounds_toArray, List.set_cons_zero, List.set_cons_succ]
          refine wpAnyH_take (i := 19) (oi := { dst := some 98, op := _, type := _, pos := _, after := _, guard := _ }) (v := ?_) rfl (by kernel_rfl) (by kernel_rfl) (by kernel_rfl) (fun _ _ _ h => h) (Or.inl ⟨by rfl, ?_⟩) (by assumption) ?_
          rotate_left
          · (intro W hSw; (try dsimp only at hSw); go_simp; try (with_reducible rfl))
          try simp only [Act.put, List.setIfInBounds_toArray, List.set_cons_zero, List.set_cons_succ]
          refine wpAnyH_take (i := 20) (oi := { dst := some 99, op := _, type := _, pos := _, after := _, guard := _ }) (v := ?_) rfl (by kernel_rfl) (by kernel_rfl) (by kernel_rfl) (fun _ _ _ h => h) (Or.inl ⟨by rfl, ?_⟩) (by assumption) ?_
          rotate_left
          · (intro W hSw; (try dsimp only at hSw); go_simp; try (with_reducible rfl))
          try simp only [Act.put, List.setIfInBounds_toArray, List.set_cons_zero, List.set_cons_succ]
          refine wpAnyH_ready (rs := [22]) (by kernel_rfl) (by simp) ?_
          refine (AllReadyH.cons (o := { dst := none, op := _, type := _, pos := _, after := _, guard := _ }) rfl (fun K hK => ?_) AllReadyH.nil)
          refine step_st (by rfl) 25 (.tmp 8) (.tmp 97) (by rfl) G1 #[Value.int .i64 n4, .slice ka4 k4.length kc4, .slice ma4 m4.length mc4, .string t4] #[Value.int .i64 0, .slice none 0 0, .slice none 0 0, .string ⟨#[]⟩] 25 (by rfl) (by rfl) HZV2.out hig (by rfl) (by simp [Value.oneCell']) ?_
          have hfs : Fr (fun x => x = G1) V2 (V2.setRow G1 #[Value.int .i64 n4, .slice ka4 k4.length kc4, .slice ma4 m4.length mc4, .string t4]) := Bx.frrow _
          have HZV3 : Hid (Bx (V2.setRow G1 #[Value.int .i64 n4, .slice ka4 k4.length kc4, .slice ma4 m4.length mc4, .string t4]) G1 #[Value.int .i64 n4, .slice ka4 k4.length kc4, .slice ma4 m4.length mc4, .string t4] 25) := HZV2.out.row
          have HSV3 := mkH (syFr HSV2.out hfs hB1 (by simp [Value.ownBlock]) (glFr HSV2.out.l HZV2.out hfs) hBw)
          have HAV3 := mkH (HAV2.out.fr hfs (Ne.symm hB2))
          have HPV3 := mkH (HPV2.out.fr hfs (HPV2.out.ne HZV2.out))
          have HQV3 := mkH (HQV2.out.fr hfs (HQV2.out.ne HZV2.out))
          have HLV3 := mkH (glFr HLV2.out HZV2.out hfs)
          generalize V2.setRow G1 #[Value.int .i64 n4, .slice ka4 k4.length kc4, .slice ma4 m4.length mc4, .string t4] = V3 at *
          refine hK.out _ _ ?_ (fun hHeld => ?_)
          · (obtain ⟨c0, c1, c2, c3, c4, c5, -⟩ := HSV3.out.cells; exact ⟨c0, c1, c2, c3, c4, HAV3.out.cell 4 _ rfl⟩)
          clear hK K
          try simp only [Act.put, List.setIfInBounds_toArray, List.set_cons_zero, List.set_cons_succ]
          refine wpAnyH_take (i := 23) (oi := { dst := some 9, op := _, type := _, pos := _, after := _, guard := _ }) (v := ?_) rfl (by kernel_rfl) (by kernel_rfl) (by kernel_rfl) (fun _ _ _ h => h) (Or.inl ⟨by rfl, ?_⟩) (by assumption) ?_
          rotate_left
          · (intro W hSw; (try dsimp only at hSw); go_simp; try (with_reducible rfl))
          try simp only [Act.put, List.setIfInBounds_toArray, List.set_cons_zero, List.set_cons_succ]
          refine wpAnyH_take (i := 24) (oi := { dst := some 10, op := _, type := _, pos := _, after := _, guard := _ }) (v := ?_) rfl (by kernel_rfl) (by kernel_rfl) (by kernel_rfl) (fun _ _ _ h => h) (Or.inl ⟨by rfl, ?_⟩) (by assumption) ?_
          rotate_left
          · (intro W hSw; (try dsimp only at hSw); go_simp; try (with_reducible rfl))
          try simp only [Act.put, List.setIfInBounds_toArray, List.set_cons_zero, List.set_cons_succ]
          refine wpAnyH_done (by kernel_rfl) ?_ _
          go_wp2_with fail
          refine Rg.meetU _ (fun u => HK2.out G1 u _ ?_) (by kernel_rfl)
          exact ⟨ka4, kc4, ma4, mc4, HSV3, HZV3, HLV3, HPV3, HQV3⟩
      case rest2 =>
        rintro G1 u W7 ⟨ka4, kc4, ma4, mc4, HS7, HG7, HL7, HP7, HQ7⟩
        dsimp only at HG7 ⊢
        clear HS5 HP5 HQ5 HA5 HSD c0 c1 c2 c3 c4 c5 a4 hm5 l5
        obtain ⟨v, hlk, hv⟩ := look2 HP7.out hts
        obtain ⟨kn, hkn⟩ : ∃ b, (S tk).isSome = b := ⟨_, rfl⟩
        rw [hkn] at hlk
        have HV := mkH hv
        have HKN := mkH hkn
        clear hv hkn
        have c6 : W7.cell? ⟨B, 6, none⟩ = some (.map (some b6)) := HS7.out.b.cell 6 _ rfl
        go_upto_region 14 with fail
        clear hlk c6
        refine Rg.cutU (β := Bool) (fun b u => #[.slice (some ⟨ba, off, none⟩) acts.length cap, u 1, u 2, .pointer (some ⟨B, 0, none⟩), .int .i64 (k : Int), u 5, .string tk, .int .i64 (k3.length : Int), .pointer (some ⟨G1, 0, none⟩), .int .i64 sn, .int .i64 se, .int .i64 v, u 12, .bool b, u 14, u 15, u 16, u 17, u 18, u 19, u 20, u 21, u 22, u 23, u 24, u 25, u 26, u 27, u 28, u 29, u 30, u 31, u 32, u 33, u 34, u 35, u 36, u 37, u 38, u 39, u 40, u 41, u 42, u 43, u 44, u 45, u 46, u 47, u 48, u 49, u 50, u 51, u 52, u 53, u 54, u 55, u 56, u 57, u 58, u 59, u 60, u 61, u 62, u 63, u 64, u 65, u 66, u 67, u 68, u 69, u 70, u 71, u 72, u 73, u 74, u 75, u 76, u 77, u 78, u 79, u 80, u 81, u 82, u 83, u 84, u 85, u 86, u 87, u 88, u 89, u 90, u 91, u 92, u 93, u 94, u 95, u 96, u 97, u 98, u 99, u 100, u 101, u 102, u 103, u 104, u 105, u 106, u 107, u 108, u 109, u 110, u 111, u 112, u 113, u 114, u 115, u 116, u 117, u 118, u 119, u 120, u 121, u 122, u 123, u 124, u 125, u 126, u 127, u 128, u 129, u 130, u 131, u 132, u 133, u 134, u 135, u 136, u 137, u 138, u 139, u 140, u 141, u 142, u 143, u 144, u 145, u 146, u 147, u 148, u 149, u 150, u 151, u 152, u 153, u 154, u 155, u 156, u 157, u 158, u 159, u 160, u 161, u 162, u 163, u 164, u 165, u 166, u 167, u 168, u 169, u 170, u 171, u 172, u 173, u 174, u 175, u 176, u 177, u 178, u 179, u 180, u 181, u 182, u 183, u 184, u 185, u 186, u 187, u 188, u 189, u 190, u 191, u 192, u 193, u 194, u 195, u 196, u 197, u 198, u 199, u 200, u 201, u 202, u 203, u 204, u 205, u 206, u 207, u 208, u 209, u 210, u 211, u 212, u 213, u 214, u 215, u 216, u 217, u 218, u 219, u 220, u 221, u 222, u 223, u 224, u 225]) (fun b WW => b = (m3.find? (fun m => decide (m.tok = tk))).isNone ∧ Hid (Sy w WW B ⟨n3, k3, m3, t3⟩ nw [] ka3 kc3 ma3 mc3 none 0 b6 b7) ∧ Hid (Bx WW G1 #[Value.int .i64 n4, .slice ka4 k4.length kc4, .slice ma4 m4.length mc4, .string t4] 25) ∧ Hid (Gl WW ⟨n4, k4, m4, t4⟩ ka4 kc4 ma4 mc4) ∧ Hid (Mp WW b6 k S) ∧ Hid (Mp WW b7 k T)) ?rest3 ?first3
        case first3 =>
          intro K3 HK3
          cases hfd : m3.find? (fun m => decide (m.tok = tk)) with
          | some m =>
            obtain ⟨o1, hav, o3, -⟩ := HI3.out.old HE3.out (tok := tk) hfd
            obtain rfl : kn = true := by rw [← HKN.out, o1]; rfl
            generalize m.ti = av at *
            have hat := HI3.out.at' tk av hav
            obtain ⟨df, hdf⟩ : ∃ x, nw - av = x := ⟨_, rfl⟩
            have hwr : IntKind.i64.wrap (nw - av) = df := wrap_in hdf (by omega) (by omega)
            have hge : decide (300 ≤ df) = false := by simp; omega
            have hge2 : ¬ 300 ≤ df := by omega
            clear o1 o3 hdf hat
            refine wp_region_held_drew (S := fun W => W.cell? ⟨B, 4, none⟩ = some (.int .i64 nw) ∧ W.cell? ⟨B, 7, none⟩ = some (.map (some b7)) ∧ (Instr.lookup 54 (.map (some b7)) (.string tk) false).run Tryd.prog W = .ok (.int .i64 av) W) hmx ⟨HS7.out.b.cell 4 _ rfl, HS7.out.b.cell 7 _ rfl, look1 (HQ7.out.below (below_drew _)) hts hav⟩ (fun hHeld => ?_)
            refine wpAnyH_take (i := 0) (oi := { dst := some 109, op := _, type := _, pos := _, after := _, guard := _ }) (v := ?_) rfl (by kernel_rfl) (by kernel_rfl) (by kernel_rfl) (fun _ _ _ h => h) (Or.inl ⟨by rfl, ?_⟩) (by assumption) ?_
            rotate_left
            · (intro W hSw; (try dsimp only at hSw); go_simp; try (with_reducible rfl))
            try simp only [Act.put, List.setIfInBounds_toArray, List.set_cons_zero, List.set_cons_succ]
            refine wpAnyH_take (i := 1) (oi := { dst := some 110, op := _, type := _, pos := _, after := _, guard := _ }) (v := ?_) rfl (by kernel_rfl) (by kernel_rfl) (by kernel_rfl) (fun _ _ _ h => h) (Or.inl ⟨by rfl, ?_⟩) (by assumption) ?_
            rotate_left
            · (intro W hSw; (try dsimp only at hSw); go_simp; try (with_reducible rfl))
            try simp only [Act.put, List.setIfInBounds_toArray, List.set_cons_zero, List.set_cons_succ]
            refine wpAnyH_take (i := 2) (oi := { dst := some 111, op := _, type := _, pos := _, after := _, guard := _ }) (v := ?_) rfl (by kernel_rfl) (by kernel_rfl) (by kernel_rfl) (fun _ _ _ h => h) (Or.inl ⟨by rfl, ?_⟩) (by assumption) ?_
            rotate_left
            · (intro W hSw; (try dsimp only at hSw); go_simp; try (with_reducible rfl))
            try simp only [Act.put, List.setIfInBounds_toArray, List.set_cons_zero, List.set_cons_succ]
            refine wpAnyH_take (i := 3) (oi := { dst := some 112, op := _, type := _, pos := _, after := _, guard := _ }) (v := ?_) rfl (by kernel_rfl) (by kernel_rfl) (by kernel_rfl) (fun _ _ _ h => h) (Or.inl ⟨by rfl, ?_⟩) (by assumption) ?_
            rotate_left
            · (intro W hSw; (try dsimp only at hSw); go_simp; try (with_reducible rfl))
            try simp only [Act.put, List.setIfInBounds_toArray, List.set_cons_zero, List.set_cons_succ]
            refine wpAnyH_take (i := 4) (oi := { dst := some 113, op := _, type := _, pos := _, after := _, guard := _ }) (v := ?_) rfl (by kernel_rfl) (by kernel_rfl) (by kernel_rfl) (fun _ _ _ h => h) (Or.inl ⟨by rfl, ?_⟩) (by assumption) ?_
            rotate_left
            · (intro W hSw; (try dsimp only at hSw); go_simp; try (with_reducible rfl))
            try simp only [Act.put, List.setIfInBounds_toArray, List.set_cons_zero, List.set_cons_succ]
            refine wpAnyH_take (i := 5) (oi := { dst := some 114, op := _, type := _, pos := _, after := _, guard := _ }) (v := ?_) rfl (by kernel_rfl) (by kernel_rfl) (by kernel_rfl) (fun _ _ _ h => h) (Or.inl ⟨by rfl, ?_⟩) (by assumption) ?_
            rotate_left
            · (intro W hSw; (try dsimp only at hSw); go_simp; try (with_reducible rfl))
            try simp only [Act.put, List.setIfInBounds_toArray, List.set_cons_zero, List.set_cons_succ]
            refine wpAnyH_take (i := 6) (oi := { dst := some 115, op := _, type := _, pos := _, after := _, guard := _ }) (v := ?_) rfl (by kernel_rfl) (by kernel_rfl) (by kernel_rfl) (fun _ _ _ h => h) (Or.inl ⟨by rfl, ?_⟩) (by assumption) ?_
            rotate_left
            · (intro W hSw; (try dsimp only at hSw); go_simp; try (with_reducible rfl))
            try simp only [Act.put, List.setIfInBounds_toArray, List.set_cons_zero, List.set_cons_succ]
            refine wpAnyH_take (i := 7) (oi := { dst := some 116, op := _, type := _, pos := _, after := _, guard := _ }) (v := ?_) rfl (by kernel_rfl) (by kernel_rfl) (by kernel_rfl) (fun _ _ _ h => h) (Or.inl ⟨by rfl, ?_⟩) (by assumption) ?_
            rotate_left
            · (intro W hSw; (try dsimp only at hSw); go_simp; try (with_reducible rfl))
            try simp only [Act.put, List.setIfInBounds_toArray, List.set_cons_zero, List.set_cons_succ]
            refine wpAnyH_take (i := 8) (oi := { dst := some 117, op := _, type := _, pos := _, after := _, guard := _ }) (v := ?_) rfl (by kernel_rfl) (by kernel_rfl) (by kernel_rfl) (fun _ _ _ h => h) (Or.inl ⟨by rfl, ?_⟩) (by assumption) ?_
            rotate_left
            · (intro W hSw; (try dsimp only at hSw); go_simp; try (with_reducible rfl))
            try simp only [Act.put, List.setIfInBounds_toArray, List.set_cons_zero, List.set_cons_succ]
            refine wpAnyH_take (i := 9) (oi := { dst := some 118, op := _, type := _, pos := _, after := _, guard := _ }) (v := ?_) rfl (by kernel_rfl) (by kernel_rfl) (by kernel_rfl) (fun _ _ _ h => h) (Or.inl ⟨by rfl, ?_⟩) (by assumption) ?_
            rotate_left
            · (intro W hSw; (try dsimp only at hSw); go_simp; try (with_reducible rfl))
            try simp only [Act.put, List.setIfInBounds_toArray, List.set_cons_zero, List.set_cons_succ]
            refine wpAnyH_take (i := 10) (oi := { dst := some 119, op := _, type := _, pos := _, after := _, guard := _ }) (v := ?_) rfl (by kernel_rfl) (by kernel_rfl) (by kernel_rfl) (fun _ _ _ h => h) (Or.inl ⟨by rfl, ?_⟩) (by assumption) ?_
            rotate_left
            · (intro W hSw; (try dsimp only at hSw); go_simp; try (with_reducible rfl))
            try simp only [Act.put, List.setIfInBounds_toArray, List.set_cons_zero, List.set_cons_succ]
            refine wpAnyH_take (i := 11) (oi := { dst := some 120, op := _, type := _, pos := _, after := _, guard := _ }) (v := ?_) rfl (by kernel_rfl) (by kernel_rfl) (by kernel_rfl) (fun _ _ _ h => h) (Or.inl ⟨by rfl, ?_⟩) (by assumption) ?_
            rotate_left
            · (intro W hSw; (try dsimp only at hSw); go_simp; try (with_reducible rfl))
            try simp only [Act.put, List.setIfInBounds_toArray, List.set_cons_zero, List.set_cons_succ]
            refine wpAnyH_take (i := 12) (oi := { dst := some 121, op := _, type := _, pos := _, after := _, guard := _ }) (v := ?_) rfl (by kernel_rfl) (by kernel_rfl) (by kernel_rfl) (fun _ _ _ h => h) (Or.inl ⟨by rfl, ?_⟩) (by assumption) ?_
            rotate_left
            · (intro W hSw; (try dsimp only at hSw); go_simp; try (with_reducible rfl))
            try simp only [Act.put, List.setIfInBounds_toArray, List.set_cons_zero, List.set_cons_succ]
            refine wpAnyH_take (i := 13) (oi := { dst := some 122, op := _, type := _, pos := _, after := _, guard := _ }) (v := .int .i64 df) rfl (by kernel_rfl) (by kernel_rfl) (by kernel_rfl) (fun _ _ _ h => h) (Or.inl ⟨by rfl, ?_⟩) (by assumption) ?_
            · (intro W hSw; (try dsimp only at hSw); go_simp; try (with_reducible rfl))
            try simp only [Act.put, List.setIfInBounds_toArray, List.set_cons_zero, List.set_cons_succ]
            refine wpAnyH_take (i := 14) (oi := { dst := some 123, op := _, type := _, pos := _, after := _, guard := _ }) (v := .bool false) rfl (by kernel_rfl) (by kernel_rfl) (by kernel_rfl) (fun _ _ _ h => h) (Or.inl ⟨by rfl, ?_⟩) (by assumption) ?_
            · (intro W hSw; (try dsimp only at hSw); (go_simp; try rfl))
            try simp only [Act.put, List.setIfInBounds_toArray, List.set_cons_zero, List.set_cons_succ]
            refine wpAnyH_take (i := 15) (oi := { dst := some 124, op := _, type := _, pos := _, after := _, guard := _ }) (v := ?_) rfl (by kernel_rfl) (by kernel_rfl) (by kernel_rfl) (fun _ _ _ h => h) (Or.inl ⟨by rfl, ?_⟩) (by assumption) ?_
            rotate_left
            · (intro W hSw; (try dsimp only at hSw); go_simp; try (with_reducible rfl))
            try simp only [Act.put, List.setIfInBounds_toArray, List.set_cons_zero, List.set_cons_succ]
            refine wpAnyH_take (i := 16) (oi := { dst := some 13, op := _, type := _, pos := _, after := _, guard := _ }) (v := ?_) rfl (by kernel_rfl) (by kernel_rfl) (by kernel_rfl) (fun _ _ _ h => h) (Or.inl ⟨by rfl, ?_⟩) (by assumption) ?_
            rotate_left
            · (intro W hSw; (try dsimp only at hSw); go_simp; try (with_reducible rfl))
            try simp only [Act.put, List.setIfInBounds_toArray, List.set_cons_zero, List.set_cons_succ]
            refine wpAnyH_done (by kernel_rfl) ?_ _
            go_wp2_with fail
            refine Rg.meetU _ (fun u => HK3.out false u _ ?_) (by kernel_rfl)
            exact ⟨by simp [hfd], HS7.out.below (below_drew _), HG7.out.bel (below_drew _), HL7.out.below (below_drew _), HP7.out.below (below_drew _), HQ7.out.below (below_drew _)⟩
          | none =>
            rcases HI3.out.new (tok := tk) hfd with o1 | ⟨av, hav, o2, o3⟩
            · obtain rfl : kn = false := by rw [← HKN.out, o1]; rfl
              refine wp_region_held_drew (S := fun _ => True) hmx trivial (fun hHeld => ?_)
              refine wpAnyH_take (i := 0) (oi := { dst := some 109, op := _, type := _, pos := _, after := _, guard := _ }) (v := ?_) rfl (by kernel_rfl) (by kernel_rfl) (by kernel_rfl) (fun _ _ _ h => h) (Or.inl ⟨by rfl, ?_⟩) (trivial) ?_
              rotate_left
              · (intro W hSw; (try dsimp only at hSw); go_simp; try (with_reducible rfl))
              try simp only [Act.put, List.setIfInBounds_toArray, List.set_cons_zero, List.set_cons_succ]
              refine wpAnyH_take (i := 1) (oi := { dst := some 110, op := _, type := _, pos := _, after := _, guard := _ }) (v := ?_) rfl (by kernel_rfl) (by kernel_rfl) (by kernel_rfl) (fun _ _ _ h => h) (Or.inl ⟨by rfl, ?_⟩) (trivial) ?_
              rotate_left
              · (intro W hSw; (try dsimp only at hSw); go_simp; try (with_reducible rfl))
              try simp only [Act.put, List.setIfInBounds_toArray, List.set_cons_zero, List.set_cons_succ]
              refine wpAnyH_take (i := 2) (oi := { dst := some 111, op := _, type := _, pos := _, after := _, guard := _ }) (v := ?_) rfl (by kernel_rfl) (by kernel_rfl) (by kernel_rfl) (fun _ _ _ h => h) (Or.inl ⟨by rfl, ?_⟩) (trivial) ?_
              rotate_left
              · (intro W hSw; (try dsimp only at hSw); go_simp; try (with_reducible rfl))
              try simp only [Act.put, List.setIfInBounds_toArray, List.set_cons_zero, List.set_cons_succ]
              refine wpAnyH_take (i := 3) (oi := { dst := some 112, op := _, type := _, pos := _, after := _, guard := _ }) (v := undef) rfl (by kernel_rfl) (by kernel_rfl) (by kernel_rfl) (fun _ _ _ h => h) (Or.inr ⟨by rfl, rfl⟩) (trivial) ?_
              try simp only [Act.put, List.setIfInBounds_toArray, List.set_cons_zero, List.set_cons_succ]
              refine wpAnyH_take (i := 4) (oi := { dst := some 113, op := _, type := _, pos := _, after := _, guard := _ }) (v := undef) rfl (by kernel_rfl) (by kernel_rfl) (by kernel_rfl) (fun _ _ _ h => h) (Or.inr ⟨by rfl, rfl⟩) (trivial) ?_
              try simp only [Act.put, List.setIfInBounds_toArray, List.set_cons_zero, List.set_cons_succ]
              refine wpAnyH_take (i := 5) (oi := { dst := some 114, op := _, type := _, pos := _, after := _, guard := _ }) (v := undef) rfl (by kernel_rfl) (by kernel_rfl) (by kernel_rfl) (fun _ _ _ h => h) (Or.inr ⟨by rfl, rfl⟩) (trivial) ?_
              try simp only [Act.put, List.setIfInBounds_toArray, List.set_cons_zero, List.set_cons_succ]
              refine wpAnyH_take (i := 6) (oi := { dst := some 115, op := _, type := _, pos := _, after := _, guard := _ }) (v := undef) rfl (by kernel_rfl) (by kernel_rfl) (by kernel_rfl) (fun _ _ _ h => h) (Or.inr ⟨by rfl, rfl⟩) (trivial) ?_
              try simp only [Act.put, List.setIfInBounds_toArray, List.set_cons_zero, List.set_cons_succ]
              refine wpAnyH_take (i := 7) (oi := { dst := some 116, op := _, type := _, pos := _, after := _, guard := _ }) (v := undef) rfl (by kernel_rfl) (by kernel_rfl) (by kernel_rfl) (fun _ _ _ h => h) (Or.inr ⟨by rfl, rfl⟩) (trivial) ?_
              try simp only [Act.put, List.setIfInBounds_toArray, List.set_cons_zero, List.set_cons_succ]
              refine wpAnyH_take (i := 8) (oi := { dst := some 117, op := _, type := _, pos := _, after := _, guard := _ }) (v := undef) rfl (by kernel_rfl) (by kernel_rfl) (by kernel_rfl) (fun _ _ _ h => h) (Or.inr ⟨by rfl, rfl⟩) (trivial) ?_
              try simp only [Act.put, List.setIfInBounds_toArray, List.set_cons_zero, List.set_cons_succ]
              refine wpAnyH_take (i := 9) (oi := { dst := some 118, op := _, type := _, pos := _, after := _, guard := _ }) (v := undef) rfl (by kernel_rfl) (by kernel_rfl) (by kernel_rfl) (fun _ _ _ h => h) (Or.inr ⟨by rfl, rfl⟩) (trivial) ?_
              try simp only [Act.put, List.setIfInBounds_toArray, List.set_cons_zero, List.set_cons_succ]
              refine wpAnyH_take (i := 10) (oi := { dst := some 119, op := _, type := _, pos := _, after := _, guard := _ }) (v := undef) rfl (by kernel_rfl) (by kernel_rfl) (by kernel_rfl) (fun _ _ _ h => h) (Or.inr ⟨by rfl, rfl⟩) (trivial) ?_
              try simp only [Act.put, List.setIfInBounds_toArray, List.set_cons_zero, List.set_cons_succ]
              refine wpAnyH_take (i := 11) (oi := { dst := some 120, op := _, type := _, pos := _, after := _, guard := _ }) (v := undef) rfl (by kernel_rfl) (by kernel_rfl) (by kernel_rfl) (fun _ _ _ h => h) (Or.inr ⟨by rfl, rfl⟩) (trivial) ?_
              try simp only [Act.put, List.setIfInBounds_toArray, List.set_cons_zero, List.set_cons_succ]
              refine wpAnyH_take (i := 12) (oi := { dst := some 121, op := _, type := _, pos := _, after := _, guard := _ }) (v := undef) rfl (by kernel_rfl) (by kernel_rfl) (by kernel_rfl) (fun _ _ _ h => h) (Or.inr ⟨by rfl, rfl⟩) (trivial) ?_
              try simp only [Act.put, List.setIfInBounds_toArray, List.set_cons_zero, List.set_cons_succ]
              refine wpAnyH_take (i := 13) (oi := { dst := some 122, op := _, type := _, pos := _, after := _, guard := _ }) (v := undef) rfl (by kernel_rfl) (by kernel_rfl) (by kernel_rfl) (fun _ _ _ h => h) (Or.inr ⟨by rfl, rfl⟩) (trivial) ?_
              try simp only [Act.put, List.setIfInBounds_toArray, List.set_cons_zero, List.set_cons_succ]
              refine wpAnyH_take (i := 14) (oi := { dst := some 123, op := _, type := _, pos := _, after := _, guard := _ }) (v := undef) rfl (by kernel_rfl) (by kernel_rfl) (by kernel_rfl) (fun _ _ _ h => h) (Or.inr ⟨by rfl, rfl⟩) (trivial) ?_
              try simp only [Act.put, List.setIfInBounds_toArray, List.set_cons_zero, List.set_cons_succ]
              refine wpAnyH_take (i := 15) (oi := { dst := some 124, op := _, type := _, pos := _, after := _, guard := _ }) (v := ?_) rfl (by kernel_rfl) (by kernel_rfl) (by kernel_rfl) (fun _ _ _ h => h) (Or.inl ⟨by rfl, ?_⟩) (trivial) ?_
              rotate_left
              · (intro W hSw; (try dsimp only at hSw); go_simp; try (with_reducible rfl))
              try simp only [Act.put, List.setIfInBounds_toArray, List.set_cons_zero, List.set_cons_succ]
              refine wpAnyH_take (i := 16) (oi := { dst := some 13, op := _, type := _, pos := _, after := _, guard := _ }) (v := ?_) rfl (by kernel_rfl) (by kernel_rfl) (by kernel_rfl) (fun _ _ _ h => h) (Or.inl ⟨by rfl, ?_⟩) (trivial) ?_
              rotate_left
              · (intro W hSw; (try dsimp only at hSw); go_simp; try (with_reducible rfl))
              try simp only [Act.put, List.setIfInBounds_toArray, List.set_cons_zero, List.set_cons_succ]
              refine wpAnyH_done (by kernel_rfl) ?_ _
              go_wp2_with fail
              refine Rg.meetU _ (fun u => HK3.out true u _ ?_) (by kernel_rfl)
              exact ⟨by simp [hfd], HS7.out.below (below_drew _), HG7.out.bel (below_drew _), HL7.out.below (below_drew _), HP7.out.below (below_drew _), HQ7.out.below (below_drew _)⟩
            · obtain rfl : kn = true := by rw [← HKN.out]; exact o2
              have hat := HI3.out.at' tk av hav
              obtain ⟨df, hdf⟩ : ∃ x, nw - av = x := ⟨_, rfl⟩
              have hwr : IntKind.i64.wrap (nw - av) = df := wrap_in hdf (by omega) (by omega)
              have hge : decide (300 ≤ df) = true := by simp; omega
              have hge2 : 300 ≤ df := by omega
              clear o2 o3 hdf hat
              refine wp_region_held_drew (S := fun W => W.cell? ⟨B, 4, none⟩ = some (.int .i64 nw) ∧ W.cell? ⟨B, 7, none⟩ = some (.map (some b7)) ∧ (Instr.lookup 54 (.map (some b7)) (.string tk) false).run Tryd.prog W = .ok (.int .i64 av) W) hmx ⟨HS7.out.b.cell 4 _ rfl, HS7.out.b.cell 7 _ rfl, look1 (HQ7.out.below (below_drew _)) hts hav⟩ (fun hHeld => ?_)
              refine wpAnyH_take (i := 0) (oi := { dst := some 109, op := _, type := _, pos := _, after := _, guard := _ }) (v := ?_) rfl (by kernel_rfl) (by kernel_rfl) (by kernel_rfl) (fun _ _ _ h => h) (Or.inl ⟨by rfl, ?_⟩) (by assumption) ?_
              rotate_left
              · (intro W hSw; (try dsimp only at hSw); go_simp; try (with_reducible rfl))
              try simp only [Act.put, List.setIfInBounds_toArray, List.set_cons_zero, List.set_cons_succ]
              refine wpAnyH_take (i := 1) (oi := { dst := some 110, op := _, type := _, pos := _, after := _, guard := _ }) (v := ?_) rfl (by kernel_rfl) (by kernel_rfl) (by kernel_rfl) (fun _ _ _ h => h) (Or.inl ⟨by rfl, ?_⟩) (by assumption) ?_
              rotate_left
              · (intro W hSw; (try dsimp only at hSw); go_simp; try (with_reducible rfl))
              try simp only [Act.put, List.setIfInBounds_toArray, List.set_cons_zero, List.set_cons_succ]
              refine wpAnyH_take (i := 2) (oi := { dst := some 111, op := _, type := _, pos := _, after := _, guard := _ }) (v := ?_) rfl (by kernel_rfl) (by kernel_rfl) (by kernel_rfl) (fun _ _ _ h => h) (Or.inl ⟨by rfl, ?_⟩) (by assumption) ?_
              rotate_left
              · (intro W hSw; (try dsimp only at hSw); go_simp; try (with_reducible rfl))
              try simp only [Act.put, List.setIfInBounds_toArray, List.set_cons_zero, List.set_cons_succ]
              refine wpAnyH_take (i := 3) (oi := { dst := some 112, op := _, type := _, pos := _, after := _, guard := _ }) (v := ?_) rfl (by kernel_rfl) (by kernel_rfl) (by kernel_rfl) (fun _ _ _ h => h) (Or.inl ⟨by rfl, ?_⟩) (by assumption) ?_
              rotate_left
              · (intro W hSw; (try dsimp only at hSw); go_simp; try (with_reducible rfl))
              try simp only [Act.put, List.setIfInBounds_toArray, List.set_cons_zero, List.set_cons_succ]
              refine wpAnyH_take (i := 4) (oi := { dst := some 113, op := _, type := _, pos := _, after := _, guard := _ }) (v := ?_) rfl (by kernel_rfl) (by kernel_rfl) (by kernel_rfl) (fun _ _ _ h => h) (Or.inl ⟨by rfl, ?_⟩) (by assumption) ?_
              rotate_left
              · (intro W hSw; (try dsimp only at hSw); go_simp; try (with_reducible rfl))
              try simp only [Act.put, List.setIfInBounds_toArray, List.set_cons_zero, List.set_cons_succ]
              refine wpAnyH_take (i := 5) (oi := { dst := some 114, op := _, type := _, pos := _, after := _, guard := _ }) (v := ?_) rfl (by kernel_rfl) (by kernel_rfl) (by kernel_rfl) (fun _ _ _ h => h) (Or.inl ⟨by rfl, ?_⟩) (by assumption) ?_
              rotate_left
              · (intro W hSw; (try dsimp only at hSw); go_simp; try (with_reducible rfl))
              try simp only [Act.put, List.setIfInBounds_toArray, List.set_cons_zero, List.set_cons_succ]
              refine wpAnyH_take (i := 6) (oi := { dst := some 115, op := _, type := _, pos := _, after := _, guard := _ }) (v := ?_) rfl (by kernel_rfl) (by kernel_rfl) (by kernel_rfl) (fun _ _ _ h => h) (Or.inl ⟨by rfl, ?_⟩) (by assumption) ?_
              rotate_left
              · (intro W hSw; (try dsimp only at hSw); go_simp; try (with_reducible rfl))
              try simp only [Act.put, List.setIfInBounds_toArray, List.set_cons_zero, List.set_cons_succ]
              refine wpAnyH_take (i := 7) (oi := { dst := some 116, op := _, type := _, pos := _, after := _, guard := _ }) (v := ?_) rfl (by kernel_rfl) (by kernel_rfl) (by kernel_rfl) (fun _ _ _ h => h) (Or.inl ⟨by rfl, ?_⟩) (by assumption) ?_
              rotate_left
              · (intro W hSw; (try dsimp only at hSw); go_simp; try (with_reducible rfl))
              try simp only [Act.put, List.setIfInBounds_toArray, List.set_cons_zero, List.set_cons_succ]
              refine wpAnyH_take (i := 8) (oi := { dst := some 117, op := _, type := _, pos := _, after := _, guard := _ }) (v := ?_) rfl (by kernel_rfl) (by kernel_rfl) (by kernel_rfl) (fun _ _ _ h => h) (Or.inl ⟨by rfl, ?_⟩) (by assumption) ?_
              rotate_left
              · (intro W hSw; (try dsimp only at hSw); go_simp; try (with_reducible rfl))
              try simp only [Act.put, List.setIfInBounds_toArray, List.set_cons_zero, List.set_cons_succ]
              refine wpAnyH_take (i := 9) (oi := { dst := some 118, op := _, type := _, pos := _, after := _, guard := _ }) (v := ?_) rfl (by kernel_rfl) (by kernel_rfl) (by kernel_rfl) (fun _ _ _ h => h) (Or.inl ⟨by rfl, ?_⟩) (by assumption) ?_
              rotate_left
              · (intro W hSw; (try dsimp only at hSw); go_simp; try (with_reducible rfl))
              try simp only [Act.put, List.setIfInBounds_toArray, List.set_cons_zero, List.set_cons_succ]
              refine wpAnyH_take (i := 10) (oi := { dst := some 119, op := _, type := _, pos := _, after := _, guard := _ }) (v := ?_) rfl (by kernel_rfl) (by kernel_rfl) (by kernel_rfl) (fun _ _ _ h => h) (Or.inl ⟨by rfl, ?_⟩) (by assumption) ?_
              rotate_left
              · (intro W hSw; (try dsimp only at hSw); go_simp; try (with_reducible rfl))
              try simp only [Act.put, List.setIfInBounds_toArray, List.set_cons_zero, List.set_cons_succ]
              refine wpAnyH_take (i := 11) (oi := { dst := some 120, op := _, type := _, pos := _, after := _, guard := _ }) (v := ?_) rfl (by kernel_rfl) (by kernel_rfl) (by kernel_rfl) (fun _ _ _ h => h) (Or.inl ⟨by rfl, ?_⟩) (by assumption) ?_
              rotate_left
              · (intro W hSw; (try dsimp only at hSw); go_simp; try (with_reducible rfl))
              try simp only [Act.put, List.setIfInBounds_toArray, List.set_cons_zero, List.set_cons_succ]
              refine wpAnyH_take (i := 12) (oi := { dst := some 121, op := _, type := _, pos := _, after := _, guard := _ }) (v := ?_) rfl (by kernel_rfl) (by kernel_rfl) (by kernel_rfl) (fun _ _ _ h => h) (Or.inl ⟨by rfl, ?_⟩) (by assumption) ?_
              rotate_left
              · (intro W hSw; (try dsimp only at hSw); go_simp; try (with_reducible rfl))
              try simp only [Act.put, List.setIfInBounds_toArray, List.set_cons_zero, List.set_cons_succ]
              refine wpAnyH_take (i := 13) (oi := { dst := some 122, op := _, type := _, pos := _, after := _, guard := _ }) (v := .int .i64 df) rfl (by kernel_rfl) (by kernel_rfl) (by kernel_rfl) (fun _ _ _ h => h) (Or.inl ⟨by rfl, ?_⟩) (by assumption) ?_
              · (intro W hSw; (try dsimp only at hSw); go_simp; try (with_reducible rfl))
              try simp only [Act.put, List.setIfInBounds_toArray, List.set_cons_zero, List.set_cons_succ]
              refine wpAnyH_take (i := 14) (oi := { dst := some 123, op := _, type := _, pos := _, after := _, guard := _ }) (v := .bool true) rfl (by kernel_rfl) (by kernel_rfl) (by kernel_rfl) (fun _ _ _ h => h) (Or.inl ⟨by rfl, ?_⟩) (by assumption) ?_
              · (intro W hSw; (try dsimp only at hSw); (go_simp; try rfl))
              try simp only [Act.put, List.setIfInBounds_toArray, List.set_cons_zero, List.set_cons_succ]
              refine wpAnyH_take (i := 15) (oi := { dst := some 124, op := _, type := _, pos := _, after := _, guard := _ }) (v := ?_) rfl (by kernel_rfl) (by kernel_rfl) (by kernel_rfl) (fun _ _ _ h => h) (Or.inl ⟨by rfl, ?_⟩) (by assumption) ?_
              rotate_left
              · (intro W hSw; (try dsimp only at hSw); go_simp; try (with_reducible rfl))
              try simp only [Act.put, List.setIfInBounds_toArray, List.set_cons_zero, List.set_cons_succ]
              refine wpAnyH_take (i := 16) (oi := { dst := some 13, op := _, type := _, pos := _, after := _, guard := _ }) (v := ?_) rfl (by kernel_rfl) (by kernel_rfl) (by kernel_rfl) (fun _ _ _ h => h) (Or.inl ⟨by rfl, ?_⟩) (by assumption) ?_
              rotate_left
              · (intro W hSw; (try dsimp only at hSw); go_simp; try (with_reducible rfl))
              try simp only [Act.put, List.setIfInBounds_toArray, List.set_cons_zero, List.set_cons_succ]
              refine wpAnyH_done (by kernel_rfl) ?_ _
              go_wp2_with fail
              refine Rg.meetU _ (fun u => HK3.out true u _ ?_) (by kernel_rfl)
              exact ⟨by simp [hfd], HS7.out.below (below_drew _), HG7.out.bel (below_drew _), HL7.out.below (below_drew _), HP7.out.below (below_drew _), HQ7.out.below (below_drew _)⟩
        case rest3 =>
          rintro fr u W8 ⟨hfr, HS8, HG8, HL8, HP8, HQ8⟩
          dsimp only
          clear HS7 HG7 HL7 HP7 HQ7
          cases hfd : m3.find? (fun m => decide (m.tok = tk)) with
          | some m =>
            rw [hfd] at hfr
            simp only [Option.isNone_some] at hfr
            subst hfr
            obtain ⟨o1, -, -, o4, o5, o6⟩ := HI3.out.old HE3.out (tok := tk) hfd
            have e4 := (o4 nw (xb.extract 0 z5)).symm.trans HG4.out
            cases e4
            obtain rfl : sn = m.seq := by rw [← HSN.out, o5]
            obtain rfl : se = 0 := by rw [← HSE.out, o6]
            obtain rfl : v = m.seq := HV.out _ o1
            generalize m.seq = ms at *
            clear o1 o4 o5 o6 HSN HSE HV HG4 hfd
            obtain ⟨c0, c1, c2, c3, c4, c5, c6, c7⟩ := HS8.out.cells
            obtain ⟨f0, f1, f2, f3, f4, f5⟩ := HS8.out.frz
            obtain ⟨g0, g1, g2, g3, -⟩ := HG8.out.four
            go_wp2_with fail
            have hk1 : ((k : Int) + 1) = ((k + 1 : Nat) : Int) := by omega
            (try rw [hk1])
            refine Rg.meetU _ (fun u => HKL.out (k + 1) u _ (by omega) ?_) (by kernel_rfl)
            obtain ⟨hs9, hf9⟩ := HS8.out.setG (g2 := ⟨n3, k3, m3, t3⟩) HL8.out
            exact ⟨⟨n3, k3, m3, t3⟩, nw, S, T, ka4, kc4, ma4, mc4, by omega, by omega, HI3.out.up (by omega), hn2, hn3, hs9, (HP8.out.fr hf9 (HP8.out.ne HS8.out.b)).mono (by omega), (HQ8.out.fr hf9 (HQ8.out.ne HS8.out.b)).mono (by omega)⟩
          | none =>
            rw [hfd] at hfr
            simp only [Option.isNone_none] at hfr
            subst hfr
            by_cases hq : 12 ≤ k3.length ∨ 40 ≤ m3.length
            · obtain ⟨o4, o5, o6⟩ := TI.full (i := k) (now := nw) (S := S) (T := T) (g := ⟨n3, k3, m3, t3⟩) hfd hq
              have e4 := (o4 nw (xb.extract 0 z5)).symm.trans HG4.out
              cases e4
              obtain rfl : sn = 0 := by rw [← HSN.out, o5]
              obtain rfl : se = 7 := by rw [← HSE.out, o6]
              clear o4 o5 o6 HSN HSE HV HG4 hfd
              obtain ⟨c0, c1, c2, c3, c4, c5, c6, c7⟩ := HS8.out.cells
              obtain ⟨f0, f1, f2, f3, f4, f5⟩ := HS8.out.frz
              obtain ⟨g0, g1, g2, g3, -⟩ := HG8.out.four
              by_cases hq1 : 12 ≤ k3.length
              · have hq2 : ¬ (k3.length : Int) < 12 := by omega
                have hq3 : decide ((k3.length : Int) < 12) = false := by simpa using hq2
                go_wp2_with fail
                have hk1 : ((k : Int) + 1) = ((k + 1 : Nat) : Int) := by omega
                (try rw [hk1])
                refine Rg.meetU _ (fun u => HKL.out (k + 1) u _ (by omega) ?_) (by kernel_rfl)
                obtain ⟨hs9, hf9⟩ := HS8.out.setG (g2 := ⟨n3, k3, m3, t3⟩) HL8.out
                exact ⟨⟨n3, k3, m3, t3⟩, nw, S, T, ka4, kc4, ma4, mc4, by omega, by omega, HI3.out.up (by omega), hn2, hn3, hs9, (HP8.out.fr hf9 (HP8.out.ne HS8.out.b)).mono (by omega), (HQ8.out.fr hf9 (HQ8.out.ne HS8.out.b)).mono (by omega)⟩
              · have hq2 : (k3.length : Int) < 12 := by omega
                have hq3 : decide ((k3.length : Int) < 12) = true := by simpa using hq2
                have hq4 : ¬ (m3.length : Int) < 40 := by omega
                have hq5 : decide ((m3.length : Int) < 40) = false := by simpa using hq4
                go_wp2_with fail
                have hk1 : ((k : Int) + 1) = ((k + 1 : Nat) : Int) := by omega
                (try rw [hk1])
                refine Rg.meetU _ (fun u => HKL.out (k + 1) u _ (by omega) ?_) (by kernel_rfl)
                obtain ⟨hs9, hf9⟩ := HS8.out.setG (g2 := ⟨n3, k3, m3, t3⟩) HL8.out
                exact ⟨⟨n3, k3, m3, t3⟩, nw, S, T, ka4, kc4, ma4, mc4, by omega, by omega, HI3.out.up (by omega), hn2, hn3, hs9, (HP8.out.fr hf9 (HP8.out.ne HS8.out.b)).mono (by omega), (HQ8.out.fr hf9 (HQ8.out.ne HS8.out.b)).mono (by omega)⟩
            · obtain ⟨o3, o4, o5, o6⟩ := HI3.out.sent ⟨hn2, by omega⟩ (xb.extract 0 z5) (tok := tk) hfd hq
              have e4 := o3.symm.trans HG4.out
              rw [HG4.out] at o6
              cases e4
              obtain rfl : n3 = sn := by rw [← HSN.out, o4]
              obtain rfl : se = 0 := by rw [← HSE.out, o5]
              have HI4 := mkH o6
              clear o3 o4 o5 o6 HSN HSE HV HG4 hfd
              obtain ⟨k4, hk4⟩ : ∃ x, k3 ++ [(⟨n3, nw, 0, 0, 0, xb.extract 0 z5⟩ : K)] = x := ⟨_, rfl⟩
              obtain ⟨m4, hm4⟩ : ∃ x, m3 ++ [(⟨tk, n3, nw⟩ : M)] = x := ⟨_, rfl⟩
              have hkl4 : k4.length = k3.length + 1 := by rw [← hk4]; simp
              rw [hk4, hm4] at HG8 HL8 HI4
              clear hk4 hm4
              obtain ⟨c0, c1, c2, c3, c4, c5, c6, c7⟩ := HS8.out.cells
              obtain ⟨f0, f1, f2, f3, f4, f5⟩ := HS8.out.frz
              obtain ⟨g0, g1, g2, g3, -⟩ := HG8.out.four
              rw [hkl4] at g1
              have HKL4 := mkH hkl4
              clear hkl4
              have hb1 : n3 + 1 ≤ 9223372036854775807 := by omega
              have hb2 : -9223372036854775808 ≤ n3 + 1 := by omega
              go_upto_region 22 with fail
              refine Rg.region_G hmx 20 (fun W => W.cell? ⟨B, 6, none⟩ = some (.map (some b6)) ∧ W.cell? ⟨B, 7, none⟩ = some (.map (some b7)) ∧ W.cell? ⟨B, 4, none⟩ = some (.int .i64 nw)) ⟨HS8.out.b.cell 6 _ rfl, HS8.out.b.cell 7 _ rfl, HS8.out.b.cell 4 _ rfl⟩ (fun hHeld => ?_)
              have HSV0 := mkH (HS8.out.below (below_drew _))
              have HGV0 := mkH (HG8.out.bel (below_drew _))
              have HLV0 := mkH (HL8.out.below (below_drew _))
              have HPV0 := mkH (HP8.out.below (below_drew _))
              have HQV0 := mkH (HQ8.out.below (below_drew _))
              generalize W8.drew = V0 at *
              refine Rg.anyG_pure (i := 0) (oi := { dst := some 202, op := _, type := _, pos := _, after := _, guard := _ }) (v := ?_) rfl (by kernel_rfl) (by kernel_rfl) (by kernel_rfl) (by rfl) (fun _ _ _ h => h) (Or.inl ⟨by rfl, ?_⟩) (fun _ => by assumption) ?_
              rotate_left
              · (intro W hSw; (try dsimp only at hSw); go_simp; try (with_reducible rfl))
              try simp only [Act.put, List.setIfInBounds_toArray, List.set_cons_zero, List.set_cons_succ]
              refine Rg.anyG_pure (i := 1) (oi := { dst := some 203, op := _, type := _, pos := _, after := _, guard := _ }) (v := ?_) rfl (by kernel_rfl) (by kernel_rfl) (by kernel_rfl) (by rfl) (fun _ _ _ h => h) (Or.inl ⟨by rfl, ?_⟩) (fun _ => by assumption) ?_
              rotate_left
              · (intro W hSw; (try dsimp only at hSw); go_simp; try (with_reducible rfl))
              try simp only [Act.put, List.setIfInBounds_toArray, List.set_cons_zero, List.set_cons_succ]
              refine Rg.anyG_pure (i := 2) (oi := { dst := some 204, op := _, type := _, pos := _, after := _, guard := _ }) (v := ?_) rfl (by kernel_rfl) (by kernel_rfl) (by kernel_rfl) (by rfl) (fun _ _ _ h => h) (Or.inl ⟨by rfl, ?_⟩) (fun _ => by assumption) ?_
              rotate_left
              · (intro W hSw; (try dsimp only at hSw); go_simp; try (with_reducible rfl))
              try simp only [Act.put, List.setIfInBounds_toArray, List.set_cons_zero, List.set_cons_succ]
              refine Rg.anyG_take (i := 3) (oi := { dst := some 205, op := _, type := _, pos := _, after := _, guard := _ }) (v := ?_) rfl (by kernel_rfl) (by kernel_rfl) (by kernel_rfl) [20] (by kernel_rfl) (fun _ _ _ h => h) (Or.inl ⟨by rfl, ?_⟩) (by assumption) ?_
              rotate_left
              · (intro W hSw; (try dsimp only at hSw); go_simp; try (with_reducible rfl))
              try simp only [Act.put, List.setIfInBounds_toArray, List.set_cons_zero, List.set_cons_succ]
              refine Rg.anyG_pure (i := 4) (oi := { dst := some 206, op := _, type := _, pos := _, after := _, guard := _ }) (v := ?_) rfl (by kernel_rfl) (by kernel_rfl) (by kernel_rfl) (by rfl) (fun _ _ _ h => h) (Or.inl ⟨by rfl, ?_⟩) (fun _ => by assumption) ?_
              rotate_left
              · (intro W hSw; (try dsimp only at hSw); go_simp; try (with_reducible rfl))
              try simp only [Act.put, List.setIfInBounds_toArray, List.set_cons_zero, List.set_cons_succ]
              refine Rg.anyG_pure (i := 5) (oi := { dst := some 207, op := _, type := _, pos := _, after := _, guard := _ }) (v := ?_) rfl (by kernel_rfl) (by kernel_rfl) (by kernel_rfl) (by rfl) (fun _ _ _ h => h) (Or.inl ⟨by rfl, ?_⟩) (fun _ => by assumption) ?_
              rotate_left
              · (intro W hSw; (try dsimp only at hSw); go_simp; try (with_reducible rfl))
              try simp only [Act.put, List.setIfInBounds_toArray, List.set_cons_zero, List.set_cons_succ]
              refine Rg.anyG_pure (i := 6) (oi := { dst := some 208, op := _, type := _, pos := _, after := _, guard := _ }) (v := ?_) rfl (by kernel_rfl) (by kernel_rfl) (by kernel_rfl) (by rfl) (fun _ _ _ h => h) (Or.inl ⟨by rfl, ?_⟩) (fun _ => by assumption) ?_
              rotate_left
              · (intro W hSw; (try dsimp only at hSw); go_simp; try (with_reducible rfl))
              try simp only [Act.put, List.setIfInBounds_toArray, List.set_cons_zero, List.set_cons_succ]
              refine Rg.anyG_pure (i := 7) (oi := { dst := some 209, op := _, type := _, pos := _, after := _, guard := _ }) (v := ?_) rfl (by kernel_rfl) (by kernel_rfl) (by kernel_rfl) (by rfl) (fun _ _ _ h => h) (Or.inl ⟨by rfl, ?_⟩) (fun _ => by assumption) ?_
              rotate_left
              · (intro W hSw; (try dsimp only at hSw); go_simp; try (with_reducible rfl))
              try simp only [Act.put, List.setIfInBounds_toArray, List.set_cons_zero, List.set_cons_succ]
              refine Rg.anyG_take (i := 8) (oi := { dst := some 210, op := _, type := _, pos := _, after := _, guard := _ }) (v := ?_) rfl (by kernel_rfl) (by kernel_rfl) (by kernel_rfl) [20] (by kernel_rfl) (fun _ _ _ h => h) (Or.inl ⟨by rfl, ?_⟩) (by assumption) ?_
              rotate_left
              · (intro W hSw; (try dsimp only at hSw); go_simp; try (with_reducible rfl))
              try simp only [Act.put, List.setIfInBounds_toArray, List.set_cons_zero, List.set_cons_succ]
              refine Rg.anyG_pure (i := 9) (oi := { dst := some 211, op := _, type := _, pos := _, after := _, guard := _ }) (v := ?_) rfl (by kernel_rfl) (by kernel_rfl) (by kernel_rfl) (by rfl) (fun _ _ _ h => h) (Or.inl ⟨by rfl, ?_⟩) (fun _ => by assumption) ?_
              rotate_left
              · (intro W hSw; (try dsimp only at hSw); go_simp; try (with_reducible rfl))
              try simp only [Act.put, List.setIfInBounds_toArray, List.set_cons_zero, List.set_cons_succ]
              refine Rg.anyG_pure (i := 10) (oi := { dst := some 212, op := _, type := _, pos := _, after := _, guard := _ }) (v := ?_) rfl (by kernel_rfl) (by kernel_rfl) (by kernel_rfl) (by rfl) (fun _ _ _ h => h) (Or.inl ⟨by rfl, ?_⟩) (fun _ => by assumption) ?_
              rotate_left
              · (intro W hSw; (try dsimp only at hSw); go_simp; try (with_reducible rfl))
              try simp only [Act.put, List.setIfInBounds_toArray, List.set_cons_zero, List.set_cons_succ]
              refine Rg.anyG_pure (i := 11) (oi := { dst := some 213, op := _, type := _, pos := _, after := _, guard := _ }) (v := ?_) rfl (by kernel_rfl) (by kernel_rfl) (by kernel_rfl) (by rfl) (fun _ _ _ h => h) (Or.inl ⟨by rfl, ?_⟩) (fun _ => by assumption) ?_
              rotate_left
              · (intro W hSw; (try dsimp only at hSw); go_simp; try (with_reducible rfl))
              try simp only [Act.put, List.setIfInBounds_toArray, List.set_cons_zero, List.set_cons_succ]
              refine Rg.anyG_pure (i := 12) (oi := { dst := some 214, op := _, type := _, pos := _, after := _, guard := _ }) (v := ?_) rfl (by kernel_rfl) (by kernel_rfl) (by kernel_rfl) (by rfl) (fun _ _ _ h => h) (Or.inl ⟨by rfl, ?_⟩) (fun _ => by assumption) ?_
              rotate_left
              · (intro W hSw; (try dsimp only at hSw); go_simp; try (with_reducible rfl))
              try simp only [Act.put, List.setIfInBounds_toArray, List.set_cons_zero, List.set_cons_succ]
              refine Rg.anyG_pure (i := 13) (oi := { dst := some 215, op := _, type := _, pos := _, after := _, guard := _ }) (v := ?_) rfl (by kernel_rfl) (by kernel_rfl) (by kernel_rfl) (by rfl) (fun _ _ _ h => h) (Or.inl ⟨by rfl, ?_⟩) (fun _ => by assumption) ?_
              rotate_left
              · (intro W hSw; (try dsimp only at hSw); go_simp; try (with_reducible rfl))
              try simp only [Act.put, List.setIfInBounds_toArray, List.set_cons_zero, List.set_cons_succ]
              refine Rg.anyG_take (i := 14) (oi := { dst := some 216, op := _, type := _, pos := _, after := _, guard := _ }) (v := ?_) rfl (by kernel_rfl) (by kernel_rfl) (by kernel_rfl) [20] (by kernel_rfl) (fun _ _ _ h => h) (Or.inl ⟨by rfl, ?_⟩) (by assumption) ?_
              rotate_left
              · (intro W hSw; (try dsimp only at hSw); go_simp; try (with_reducible rfl))
              try simp only [Act.put, List.setIfInBounds_toArray, List.set_cons_zero, List.set_cons_succ]
              refine Rg.anyG_ready (rs := [15]) (by kernel_rfl) (by simp) ?_
              refine (Rg.AllG.cons (o := { dst := some 217, op := _, type := _, pos := _, after := _, guard := _ }) rfl (fun K hK => ?_) Rg.AllG.nil)
              obtain ⟨v0, st, V1, V2, hr1, hf1, ⟨es1, cl1, hb1⟩, hr2, hf2, hp2⟩ := entry HPV0.out (by unfold maxLen; omega) hts n3
              obtain ⟨es0, cl0, hb0⟩ := HPV0.out.block
              have HSV1 := mkH (syMap HSV0.out hb0 hf1 hw6)
              have HGV1 := mkH (bxMap HGV0.out hb0 hf1)
              have HLV1 := mkH (glMap HLV0.out hb0 hf1)
              have HQV1 := mkH (HQV0.out.fr hf1 (Ne.symm HN67.out))
              have HSV2 := mkH (syMap HSV1.out hb1 hf2 hw6)
              have HGV2 := mkH (bxMap HGV1.out hb1 hf2)
              have HLV2 := mkH (glMap HLV1.out hb1 hf2)
              have HQV2 := mkH (HQV1.out.fr hf2 (Ne.symm HN67.out))
              have HPV2 := mkH hp2
              have HR2 := mkH hr2
              refine step_entry (by rfl) 54 (.tmp 205) (.tmp 206) (by rfl) (.map (some b6)) (.string tk) (.tuple #[v0, st]) (by rfl) (by rfl) hr1 ?_
              clear hr1 hf1 hb1 hr2 hf2 hp2 hb0
              refine hK.out _ _ ?_ (fun hHeld => ?_)
              · exact ⟨HSV1.out.b.cell 6 _ rfl, HSV1.out.b.cell 7 _ rfl, HSV1.out.b.cell 4 _ rfl⟩
              clear hK K
              try simp only [Act.put, List.setIfInBounds_toArray, List.set_cons_zero, List.set_cons_succ]
              refine Rg.anyG_pure (i := 16) (oi := { dst := some 218, op := _, type := _, pos := _, after := _, guard := _ }) (v := ?_) rfl (by kernel_rfl) (by kernel_rfl) (by kernel_rfl) (by rfl) (fun _ _ _ h => h) (Or.inl ⟨by rfl, ?_⟩) (fun _ => by assumption) ?_
              rotate_left
              · (intro W hSw; (try dsimp only at hSw); go_simp; try (with_reducible rfl))
              try simp only [Act.put, List.setIfInBounds_toArray, List.set_cons_zero, List.set_cons_succ]
              refine Rg.anyG_ready (rs := [17]) (by kernel_rfl) (by simp) ?_
              refine (Rg.AllG.cons (o := { dst := none, op := _, type := _, pos := _, after := _, guard := _ }) rfl (fun K hK => ?_) Rg.AllG.nil)
              refine step_estore (by rfl) 54 (.tmp 205) (.tmp 218) (.tmp 212) (by rfl) (.map (some b6)) st (.int .i64 n3) (by rfl) (by rfl) (by rfl) HR2.out ?_
              refine hK.out _ _ ?_ (fun hHeld => ?_)
              · exact ⟨HSV2.out.b.cell 6 _ rfl, HSV2.out.b.cell 7 _ rfl, HSV2.out.b.cell 4 _ rfl⟩
              clear hK K
              try simp only [Act.put, List.setIfInBounds_toArray, List.set_cons_zero, List.set_cons_succ]
              refine Rg.anyG_ready (rs := [18]) (by kernel_rfl) (by simp) ?_
              refine (Rg.AllG.cons (o := { dst := some 219, op := _, type := _, pos := _, after := _, guard := _ }) rfl (fun K hK => ?_) Rg.AllG.nil)
              obtain ⟨v1, st2, V3, V4, hr3, hf3, ⟨es3, cl3, hb3⟩, hr4, hf4, hq4⟩ := entry HQV2.out (by unfold maxLen; omega) hts nw
              obtain ⟨es0, cl0, hb0⟩ := HQV2.out.block
              have HSV3 := mkH (syMap HSV2.out hb0 hf3 hw7)
              have HGV3 := mkH (bxMap HGV2.out hb0 hf3)
              have HLV3 := mkH (glMap HLV2.out hb0 hf3)
              have HPV3 := mkH (HPV2.out.fr hf3 HN67.out)
              have HSV4 := mkH (syMap HSV3.out hb3 hf4 hw7)
              have HGV4 := mkH (bxMap HGV3.out hb3 hf4)
              have HLV4 := mkH (glMap HLV3.out hb3 hf4)
              have HPV4 := mkH (HPV3.out.fr hf4 HN67.out)
              have HQV4 := mkH hq4
              have HR4 := mkH hr4
              refine step_entry (by rfl) 54 (.tmp 210) (.tmp 211) (by rfl) (.map (some b7)) (.string tk) (.tuple #[v1, st2]) (by rfl) (by rfl) hr3 ?_
              clear hr3 hf3 hb3 hr4 hf4 hq4 hb0
              refine hK.out _ _ ?_ (fun hHeld => ?_)
              · exact ⟨HSV3.out.b.cell 6 _ rfl, HSV3.out.b.cell 7 _ rfl, HSV3.out.b.cell 4 _ rfl⟩
              clear hK K
              try simp only [Act.put, List.setIfInBounds_toArray, List.set_cons_zero, List.set_cons_succ]
              refine Rg.anyG_pure (i := 19) (oi := { dst := some 220, op := _, type := _, pos := _, after := _, guard := _ }) (v := ?_) rfl (by kernel_rfl) (by kernel_rfl) (by kernel_rfl) (by rfl) (fun _ _ _ h => h) (Or.inl ⟨by rfl, ?_⟩) (fun _ => by assumption) ?_
              rotate_left
              · (intro W hSw; (try dsimp only at hSw); go_simp; try (with_reducible rfl))
              try simp only [Act.put, List.setIfInBounds_toArray, List.set_cons_zero, List.set_cons_succ]
              refine Rg.anyG_ready (rs := [20]) (by kernel_rfl) (by simp) ?_
              refine Rg.AllG.last (o := { dst := none, op := _, type := _, pos := _, after := _, guard := _ }) rfl (by kernel_rfl) (fun K hK => ?_)
              refine step_estore (by rfl) 54 (.tmp 210) (.tmp 220) (.tmp 216) (by rfl) (.map (some b7)) st2 (.int .i64 nw) (by rfl) (by rfl) (by rfl) HR4.out ?_
              refine hK.out _ _ ?_
              clear hK K
              try simp only [Act.put, List.setIfInBounds_toArray, List.set_cons_zero, List.set_cons_succ]
              refine Rg.anyG_done (by kernel_rfl) ?_ _
              clear c0 c1 c2 c3 c4 c5 c6 c7 f0 f1 f2 f3 f4 f5 g0 g1 g2 g3
              obtain ⟨c0, c1, c2, c3, c4, c5, c6, c7⟩ := HSV4.out.cells
              obtain ⟨f0, f1, f2, f3, f4, f5⟩ := HSV4.out.frz
              obtain ⟨g0, g1, g2, g3, -⟩ := HGV4.out.four
              go_wp2_with fail
              have hk1 : ((k : Int) + 1) = ((k + 1 : Nat) : Int) := by omega
              (try rw [hk1])
              refine Rg.meetU _ (fun u => HKL.out (k + 1) u _ (by omega) ?_) (by kernel_rfl)
              obtain ⟨hs9, hf9⟩ := HSV4.out.setG (g2 := ⟨n3 + 1, k4, m4, t3⟩) HLV4.out
              exact ⟨⟨n3 + 1, k4, m4, t3⟩, nw, (upd S tk n3), (upd T tk nw), ka4, kc4, ma4, mc4, by omega, by omega, HI4, hn2, hn3, hs9, (HPV4.out.fr hf9 (HPV4.out.ne HSV4.out.b)), (HQV4.out.fr hf9 (HQV4.out.ne HSV4.out.b))⟩
end Go.Proofs.YtcpmaddleleblaaDoor.Gto
