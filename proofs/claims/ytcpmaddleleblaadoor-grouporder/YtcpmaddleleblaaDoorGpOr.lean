/-
  The walk of GroupOrder.
-/
import Derived.Test.YtcpmaddleleblaaDoorGpSt
import Derived.Test.YtcpmaddleleblaaDoorGpOp
import Derived.Test.YtcpmaddleleblaaDoorGpJ
import Derived.Test.YtcpmaddleleblaaDoorGpD
import Derived.Test.YtcpmaddleleblaaDoorGpSm
import Derived.Test.YtcpmaddleleblaaDoorGpW
import Derived.Test.YtcpmaddleleblaaDoorRgG
namespace Go.Proofs.YtcpmaddleleblaaDoor.Gor
open Go.RowKit Kt Gf Gp Gr Gk Ga Gs Gb Gg Gm Gst Gop
set_option linter.unusedVariables false
set_option linter.unusedSimpArgs false
set_option maxRecDepth 20000

set_option maxHeartbeats 16000000 in
theorem order_walk (w : World) (hT : Dt.Tb w) (acts : List A) (ao : Option Addr) (cap : Nat) (hr : RowA w ao acts) (hlen : acts.length ≤ 9223372036854775807) (most room : Int) :
    Calls Tryd.prog 6 #[.slice ao acts.length cap, .int .i64 most, .int .i64 room] w fun e w' => e = .returned (.bool true) ∧ Below w.heap.size w w' := by
  have HR := mkH hr
  have HT := mkH hT
  clear hr hT
  have hmx : Tryd.prog.follows .mixedOrders = true := by kernel_rfl
  go_enter Tryd.func6, Tryd.ntmps6
  go_wp2_with fail
  refine (begin_any w).mono ?_
  rintro e w1 ⟨B, b6, b7, rfl, hsy, -⟩
  have HS := mkH hsy
  clear hsy
  have hmo := smal_bd most 4 (by decide)
  have hro := smal_bd room 3 (by decide)
  have HM := mkH (fun W => small_any W most 4 (by decide) (by decide))
  have HO := mkH (fun W => small_any W room 3 (by decide) (by decide))
  generalize smal most 4 = mo at *
  generalize smal room 3 = ro at *
  go_wp2_with fail
  refine (HM.out _).mono ?_
  rintro e w2 ⟨rfl, rfl⟩
  go_wp2_with fail
  refine (HO.out _).mono ?_
  rintro e w2 ⟨rfl, rfl⟩
  go_wp2_with fail
  clear HM HO
  refine Rg.loopU (β := Nat) (fun k u => #[.slice ao acts.length cap, .int .i64 mo, .int .i64 ro, u 3, u 4, u 5, u 6, .pointer (some ⟨B, 0, none⟩), .int .i64 (k : Int), u 9, u 10, u 11, u 12, u 13, u 14, u 15, u 16, u 17, u 18, u 19, u 20, u 21, u 22, u 23, u 24, u 25, u 26, u 27, u 28, u 29, u 30, u 31, u 32, u 33, u 34, u 35, u 36, u 37, u 38, u 39, u 40, u 41, u 42, u 43, u 44, u 45, u 46, u 47, u 48, u 49, u 50, u 51, u 52, u 53, u 54, u 55, u 56, u 57, u 58, u 59, u 60, u 61, u 62, u 63, u 64, u 65, u 66, u 67, u 68, u 69, u 70, u 71, u 72, u 73, u 74, u 75, u 76, u 77, u 78, u 79, u 80, u 81, u 82, u 83, u 84, u 85, u 86, u 87, u 88, u 89, u 90, u 91, u 92, u 93, u 94, u 95, u 96, u 97, u 98, u 99, u 100, u 101, u 102, u 103, u 104, u 105, u 106, u 107, u 108, u 109, u 110, u 111, u 112, u 113, u 114, u 115, u 116, u 117, u 118, u 119, u 120, u 121, u 122, u 123, u 124, u 125, u 126, u 127, u 128, u 129, u 130, u 131, u 132, u 133, u 134, u 135, u 136, u 137, u 138, u 139, u 140, u 141, u 142, u 143, u 144, u 145, u 146, u 147, u 148, u 149, u 150, u 151, u 152, u 153, u 154, u 155, u 156, u 157, u 158, u 159, u 160, u 161, u 162, u 163, u 164, u 165, u 166, u 167, u 168, u 169, u 170, u 171, u 172, u 173, u 174, u 175, u 176, u 177, u 178, u 179, u 180, u 181, u 182, u 183, u 184, u 185, u 186, u 187, u 188, u 189, u 190, u 191, u 192, u 193, u 194, u 195, u 196, u 197, u 198, u 199, u 200, u 201, u 202, u 203, u 204, u 205, u 206, u 207, u 208, u 209, u 210, u 211, u 212, u 213, u 214, u 215, u 216, u 217, u 218, u 219, u 220, u 221, u 222, u 223, u 224, u 225, u 226, u 227, u 228, u 229, u 230, u 231, u 232, u 233, u 234, u 235, u 236, u 237, u 238, u 239, u 240, u 241, u 242, u 243, u 244, u 245, u 246, u 247, u 248, u 249, u 250, u 251, u 252, u 253, u 254, u 255, u 256, u 257, u 258, u 259, u 260, u 261, u 262, u 263, u 264, u 265, u 266, u 267, u 268, u 269, u 270, u 271, u 272, u 273, u 274, u 275, u 276, u 277, u 278, u 279, u 280, u 281, u 282, u 283, u 284, u 285, u 286, u 287, u 288, u 289, u 290, u 291, u 292, u 293, u 294, u 295, u 296, u 297, u 298, u 299, u 300, u 301, u 302, u 303, u 304, u 305, u 306, u 307, u 308, u 309, u 310, u 311, u 312, u 313, u 314, u 315]) (fun k WW => ∃ (g : G) (now : Int) (got : List K) (ka : Option Addr) (kc : Nat) (ma : Option Addr) (mc : Nat) (ga : Option Addr) (gc : Nat), k ≤ 60 ∧ k ≤ acts.length ∧ Hid (J k g) ∧ 0 ≤ now ∧ now ≤ 40 * (k : Int) ∧ got.length ≤ 12 * k ∧ Hid (Sy w WW B g now got ka kc ma mc ga gc b6 b7)) (fun k => 60 - k) 0 ?_ (by kernel_rfl) ?_
  · exact ⟨_, 0, [], none, 0, none, 0, none, 0, by omega, by omega, J.fresh, by omega, by omega, by simp, HS⟩
  · clear HS
    rintro k u wr ⟨g, now, got, ka, kc, ma, mc, ga, gc, hk60, hkl, HJ, hn0, hn1, hgl, HS⟩ KL HKL
    dsimp only
    rcases Nat.lt_or_ge k acts.length with hka | hka
    rotate_left
    · have h1 : ¬ (k : Int) < (acts.length : Int) := by omega
      go_wp2_with fail
      refine (Gw.works_any _).mono ?_
      rintro e w3 ⟨rfl, hb3⟩
      go_wp2
      go_ret
      exact ⟨rfl, HS.out.bl.trans (hb3.mono HS.out.bl.size)⟩
    rcases Nat.lt_or_ge k 60 with hk6 | hk6
    rotate_left
    · have h0 : (k : Int) < (acts.length : Int) := by omega
      have h1 : ¬ (k : Int) < 60 := by omega
      go_wp2_with fail
      refine (Gw.works_any _).mono ?_
      rintro e w3 ⟨rfl, hb3⟩
      go_wp2
      go_ret
      exact ⟨rfl, HS.out.bl.trans (hb3.mono HS.out.bl.size)⟩
    obtain ⟨x, hx⟩ := some_of hka
    have hrow := HR.out.below HS.out.bl
    obtain ⟨ba, off, rfl, p0, p1, p2, p3, p4, p5⟩ := atA hrow hx
    obtain ⟨xk, xn, xs, xw, xb, xt⟩ := x
    obtain ⟨nx, kp, mk, at'⟩ := g
    simp only at p0 p1 p2 p3 p4 p5
    have h0 : (k : Int) < (acts.length : Int) := by omega
    have h1 : (k : Int) < 60 := by omega
    clear hrow hx
    have hal : Below wr.heap.size wr (wr.alloc (.cells #[Value.int .i64 xk, .int .i64 xn, .int .i64 xs, .int .i64 xw, .string xb, .string xt] 53)) := (Below.refl _ wr).alloc (Nat.le_refl _) _
    have HA := mkH (Bx.new wr #[Value.int .i64 xk, .int .i64 xn, .int .i64 xs, .int .i64 xw, .string xb, .string xt] 53)
    have hBA : B < wr.heap.size := HS.out.b.lt
    have HS1 := mkH (HS.out.below hal)
    clear hal HS
    go_upto_region 7 with fail
    generalize wr.alloc (.cells #[Value.int .i64 xk, .int .i64 xn, .int .i64 xs, .int .i64 xw, .string xb, .string xt] 53) = W1 at *
    generalize wr.heap.size = A0 at *
    clear p0 p1 p2 p3 p4 p5
    have hAB : A0 ≠ B := by omega
    have hsm := smal_bd xw 40 (by decide)
    have HSM := mkH (fun W => small_any W xw 40 (by decide) (by decide))
    generalize smal xw 40 = sw at *
    obtain ⟨nw, hnw⟩ : ∃ x, now + sw = x := ⟨_, rfl⟩
    have hn2 : 0 ≤ nw := by omega
    have hn3 : nw ≤ 40 * ((k + 1 : Nat) : Int) := by omega
    have hwr : IntKind.i64.wrap (now + sw) = nw := wrap_in hnw (by omega) (by omega)
    clear hnw
    obtain ⟨c0, c1, c2, c3, c4, c5, -⟩ := HS1.out.cells
    obtain ⟨f0, f1, f2, f3, f4, f5⟩ := HS1.out.frz
    have a3 : W1.cell? ⟨A0, 3, none⟩ = some (.int .i64 xw) := HA.out.cell 3 _ rfl
    refine Rg.region_G hmx 10 (fun W => W.cell? ⟨B, 4, none⟩ = some (.int .i64 now) ∧ W.cell? ⟨A0, 3, none⟩ = some (.int .i64 xw)) ⟨c4, a3⟩ (fun hHeld => ?_)
    refine Rg.anyG_pure (i := 0) (oi := { dst := some 41, op := _, type := _, pos := _, after := _, guard := _ }) (v := ?_) rfl (by kernel_rfl) (by kernel_rfl) (by kernel_rfl) (by rfl) (fun _ _ _ h => h) (Or.inl ⟨by rfl, ?_⟩) (fun _ => by assumption) ?_
    rotate_left
    · (intro W hSw; (try dsimp only at hSw); go_simp; try (with_reducible rfl))
    try simp only [Act.put, List.setIfInBounds_toArray, List.set_cons_zero, List.set_cons_succ]
    refine Rg.anyG_pure (i := 1) (oi := { dst := some 42, op := _, type := _, pos := _, after := _, guard := _ }) (v := ?_) rfl (by kernel_rfl) (by kernel_rfl) (by kernel_rfl) (by rfl) (fun _ _ _ h => h) (Or.inl ⟨by rfl, ?_⟩) (fun _ => by assumption) ?_
    rotate_left
    · (intro W hSw; (try dsimp only at hSw); go_simp; try (with_reducible rfl))
    try simp only [Act.put, List.setIfInBounds_toArray, List.set_cons_zero, List.set_cons_succ]
    refine Rg.anyG_pure (i := 2) (oi := { dst := some 43, op := _, type := _, pos := _, after := _, guard := _ }) (v := ?_) rfl (by kernel_rfl) (by kernel_rfl) (by kernel_rfl) (by rfl) (fun _ _ _ h => h) (Or.inl ⟨by rfl, ?_⟩) (fun _ => by assumption) ?_
    rotate_left
    · (intro W hSw; (try dsimp only at hSw); go_simp; try (with_reducible rfl))
    try simp only [Act.put, List.setIfInBounds_toArray, List.set_cons_zero, List.set_cons_succ]
    refine Rg.anyG_take (i := 3) (oi := { dst := some 44, op := _, type := _, pos := _, after := _, guard := _ }) (v := ?_) rfl (by kernel_rfl) (by kernel_rfl) (by kernel_rfl) [10] (by kernel_rfl) (fun _ _ _ h => h) (Or.inl ⟨by rfl, ?_⟩) (by assumption) ?_
    rotate_left
    · (intro W hSw; (try dsimp only at hSw); go_simp; try (with_reducible rfl))
    try simp only [Act.put, List.setIfInBounds_toArray, List.set_cons_zero, List.set_cons_succ]
    refine Rg.anyG_pure (i := 4) (oi := { dst := some 45, op := _, type := _, pos := _, after := _, guard := _ }) (v := ?_) rfl (by kernel_rfl) (by kernel_rfl) (by kernel_rfl) (by rfl) (fun _ _ _ h => h) (Or.inl ⟨by rfl, ?_⟩) (fun _ => by assumption) ?_
    rotate_left
    · (intro W hSw; (try dsimp only at hSw); go_simp; try (with_reducible rfl))
    try simp only [Act.put, List.setIfInBounds_toArray, List.set_cons_zero, List.set_cons_succ]
    refine Rg.anyG_take (i := 5) (oi := { dst := some 46, op := _, type := _, pos := _, after := _, guard := _ }) (v := ?_) rfl (by kernel_rfl) (by kernel_rfl) (by kernel_rfl) [10] (by kernel_rfl) (fun _ _ _ h => h) (Or.inl ⟨by rfl, ?_⟩) (by assumption) ?_
    rotate_left
    · (intro W hSw; (try dsimp only at hSw); go_simp; try (with_reducible rfl))
    try simp only [Act.put, List.setIfInBounds_toArray, List.set_cons_zero, List.set_cons_succ]
    refine Rg.anyG_ready (rs := [6]) (by kernel_rfl) (by simp) ?_
    refine (Rg.AllG.cons (o := { dst := some 47, op := _, type := _, pos := _, after := _, guard := _ }) rfl (fun K hK => ?_) Rg.AllG.nil)
    go_simp
    refine (HSM.out _).mono ?_
    rintro e1 x1 ⟨rfl, hx1⟩
    have hx1' := hx1.symm
    subst hx1'
    clear hx1
    go_wp2_with fail
    refine hK.out _ _ ?_ (fun hHeld => ?_)
    · assumption
    clear hK K
    try simp only [Act.put, List.setIfInBounds_toArray, List.set_cons_zero, List.set_cons_succ]
    refine Rg.anyG_pure (i := 7) (oi := { dst := some 48, op := _, type := _, pos := _, after := _, guard := _ }) (v := .int .i64 nw) rfl (by kernel_rfl) (by kernel_rfl) (by kernel_rfl) (by rfl) (fun _ _ _ h => h) (Or.inl ⟨by rfl, ?_⟩) (fun _ => by assumption) ?_
    · (intro W hSw; (try dsimp only at hSw); go_simp; try (with_reducible rfl))
    try simp only [Act.put, List.setIfInBounds_toArray, List.set_cons_zero, List.set_cons_succ]
    refine Rg.anyG_pure (i := 8) (oi := { dst := some 49, op := _, type := _, pos := _, after := _, guard := _ }) (v := ?_) rfl (by kernel_rfl) (by kernel_rfl) (by kernel_rfl) (by rfl) (fun _ _ _ h => h) (Or.inl ⟨by rfl, ?_⟩) (fun _ => by assumption) ?_
    rotate_left
    · (intro W hSw; (try dsimp only at hSw); go_simp; try (with_reducible rfl))
    try simp only [Act.put, List.setIfInBounds_toArray, List.set_cons_zero, List.set_cons_succ]
    refine Rg.anyG_pure (i := 9) (oi := { dst := some 50, op := _, type := _, pos := _, after := _, guard := _ }) (v := ?_) rfl (by kernel_rfl) (by kernel_rfl) (by kernel_rfl) (by rfl) (fun _ _ _ h => h) (Or.inl ⟨by rfl, ?_⟩) (fun _ => by assumption) ?_
    rotate_left
    · (intro W hSw; (try dsimp only at hSw); go_simp; try (with_reducible rfl))
    try simp only [Act.put, List.setIfInBounds_toArray, List.set_cons_zero, List.set_cons_succ]
    refine Rg.anyG_ready (rs := [10]) (by kernel_rfl) (by simp) ?_
    refine Rg.AllG.last (o := { dst := none, op := _, type := _, pos := _, after := _, guard := _ }) rfl (by kernel_rfl) (fun K hK => ?_)
    go_simp
    refine hK.out _ _ ?_
    clear hK K
    try simp only [Act.put, List.setIfInBounds_toArray, List.set_cons_zero, List.set_cons_succ]
    refine Rg.anyG_done (by kernel_rfl) ?_ _
    obtain ⟨hs2, hf2⟩ := HS1.out.setNow nw
    have HS2 := mkH (hs2.below (below_drew _))
    have HA2 := mkH ((HA.out.fr hf2 hAB).bel (below_drew _))
    clear hHeld hs2 hf2 c0 c1 c2 c3 c4 c5 f0 f1 f2 f3 f4 f5 a3 HSM hwr HS1 HA
    generalize (W1.setCell ⟨B, 4, none⟩ (.int .i64 nw)).drew = W2 at *
    have hnn : nw ≤ 2400 := by omega
    obtain ⟨g2, hg2⟩ : ∃ x, expire ⟨nx, kp, mk, at'⟩ nw 200 = x := ⟨_, rfl⟩
    have HX := Expire_any W2.drew ⟨nx, kp, mk, at'⟩ ka kc ma mc (HS2.out.l.below (below_drew _)) (by have := HJ.out.kl; omega) (by have := HJ.out.ml; omega) (HJ.out.ok (by omega)) nw 200 ⟨hn2, by omega⟩
    have hJ2 := HJ.out.expire nw 200
    rw [hg2] at HX hJ2
    obtain ⟨n2, k2, m2, t2⟩ := g2
    simp only [gC] at HX
    have HX := mkH HX
    have HJ2 := mkH hJ2
    clear hg2 hJ2 HJ
    go_upto_region 8 with fail
    obtain ⟨c0, c1, c2, c3, c4, c5, -⟩ := HS2.out.cells
    refine Rg.region_G hmx 12 (fun W => W.cell? ⟨B, 0, none⟩ = some (.int .i64 nx) ∧ W.cell? ⟨B, 1, none⟩ = some (.slice ka kp.length kc) ∧ W.cell? ⟨B, 2, none⟩ = some (.slice ma mk.length mc) ∧ W.cell? ⟨B, 3, none⟩ = some (.string at') ∧ W.cell? ⟨B, 4, none⟩ = some (.int .i64 nw)) ⟨c0, c1, c2, c3, c4⟩ (fun hHeld => ?_)
    refine Rg.anyG_pure (i := 0) (oi := { dst := some 51, op := _, type := _, pos := _, after := _, guard := _ }) (v := ?_) rfl (by kernel_rfl) (by kernel_rfl) (by kernel_rfl) (by rfl) (fun _ _ _ h => h) (Or.inl ⟨by rfl, ?_⟩) (fun _ => by assumption) ?_
    rotate_left
    · (intro W hSw; (try dsimp only at hSw); go_simp; try (with_reducible rfl))
    try simp only [Act.put, List.setIfInBounds_toArray, List.set_cons_zero, List.set_cons_succ]
    refine Rg.anyG_pure (i := 1) (oi := { dst := some 52, op := _, type := _, pos := _, after := _, guard := _ }) (v := ?_) rfl (by kernel_rfl) (by kernel_rfl) (by kernel_rfl) (by rfl) (fun _ _ _ h => h) (Or.inl ⟨by rfl, ?_⟩) (fun _ => by assumption) ?_
    rotate_left
    · (intro W hSw; (try dsimp only at hSw); go_simp; try (with_reducible rfl))
    try simp only [Act.put, List.setIfInBounds_toArray, List.set_cons_zero, List.set_cons_succ]
    refine Rg.anyG_pure (i := 2) (oi := { dst := some 53, op := _, type := _, pos := _, after := _, guard := _ }) (v := ?_) rfl (by kernel_rfl) (by kernel_rfl) (by kernel_rfl) (by rfl) (fun _ _ _ h => h) (Or.inl ⟨by rfl, ?_⟩) (fun _ => by assumption) ?_
    rotate_left
    · (intro W hSw; (try dsimp only at hSw); go_simp; try (with_reducible rfl))
    try simp only [Act.put, List.setIfInBounds_toArray, List.set_cons_zero, List.set_cons_succ]
    refine Rg.anyG_pure (i := 3) (oi := { dst := some 54, op := _, type := _, pos := _, after := _, guard := _ }) (v := ?_) rfl (by kernel_rfl) (by kernel_rfl) (by kernel_rfl) (by rfl) (fun _ _ _ h => h) (Or.inl ⟨by rfl, ?_⟩) (fun _ => by assumption) ?_
    rotate_left
    · (intro W hSw; (try dsimp only at hSw); go_simp; try (with_reducible rfl))
    try simp only [Act.put, List.setIfInBounds_toArray, List.set_cons_zero, List.set_cons_succ]
    refine Rg.anyG_take (i := 4) (oi := { dst := some 55, op := _, type := _, pos := _, after := _, guard := _ }) (v := ?_) rfl (by kernel_rfl) (by kernel_rfl) (by kernel_rfl) [12] (by kernel_rfl) (fun _ _ _ h => h) (Or.inl ⟨by rfl, ?_⟩) (by assumption) ?_
    rotate_left
    · (intro W hSw; (try dsimp only at hSw); go_simp; try (with_reducible rfl))
    try simp only [Act.put, List.setIfInBounds_toArray, List.set_cons_zero, List.set_cons_succ]
    refine Rg.anyG_pure (i := 5) (oi := { dst := some 56, op := _, type := _, pos := _, after := _, guard := _ }) (v := ?_) rfl (by kernel_rfl) (by kernel_rfl) (by kernel_rfl) (by rfl) (fun _ _ _ h => h) (Or.inl ⟨by rfl, ?_⟩) (fun _ => by assumption) ?_
    rotate_left
    · (intro W hSw; (try dsimp only at hSw); go_simp; try (with_reducible rfl))
    try simp only [Act.put, List.setIfInBounds_toArray, List.set_cons_zero, List.set_cons_succ]
    refine Rg.anyG_pure (i := 6) (oi := { dst := some 57, op := _, type := _, pos := _, after := _, guard := _ }) (v := ?_) rfl (by kernel_rfl) (by kernel_rfl) (by kernel_rfl) (by rfl) (fun _ _ _ h => h) (Or.inl ⟨by rfl, ?_⟩) (fun _ => by assumption) ?_
    rotate_left
    · (intro W hSw; (try dsimp only at hSw); go_simp; try (with_reducible rfl))
    try simp only [Act.put, List.setIfInBounds_toArray, List.set_cons_zero, List.set_cons_succ]
    refine Rg.anyG_pure (i := 7) (oi := { dst := some 58, op := _, type := _, pos := _, after := _, guard := _ }) (v := ?_) rfl (by kernel_rfl) (by kernel_rfl) (by kernel_rfl) (by rfl) (fun _ _ _ h => h) (Or.inl ⟨by rfl, ?_⟩) (fun _ => by assumption) ?_
    rotate_left
    · (intro W hSw; (try dsimp only at hSw); go_simp; try (with_reducible rfl))
    try simp only [Act.put, List.setIfInBounds_toArray, List.set_cons_zero, List.set_cons_succ]
    refine Rg.anyG_take (i := 8) (oi := { dst := some 59, op := _, type := _, pos := _, after := _, guard := _ }) (v := ?_) rfl (by kernel_rfl) (by kernel_rfl) (by kernel_rfl) [12] (by kernel_rfl) (fun _ _ _ h => h) (Or.inl ⟨by rfl, ?_⟩) (by assumption) ?_
    rotate_left
    · (intro W hSw; (try dsimp only at hSw); go_simp; try (with_reducible rfl))
    try simp only [Act.put, List.setIfInBounds_toArray, List.set_cons_zero, List.set_cons_succ]
    refine Rg.anyG_ready (rs := [9]) (by kernel_rfl) (by simp) ?_
    refine (Rg.AllG.cons (o := { dst := some 60, op := _, type := _, pos := _, after := _, guard := _ }) rfl (fun K hK => ?_) Rg.AllG.nil)
    go_simp
    refine HX.out.mono ?_
    rintro e1 W3 ⟨ka2, kc2, ma2, mc2, rfl, hg3, hb3⟩
    have HS3 := mkH (HS2.out.below ((below_drew W2).trans hb3))
    have HA3 := mkH (HA2.out.bel ((below_drew W2).trans hb3))
    have HG3 := mkH hg3
    clear hg3 hb3
    obtain ⟨c0, c1, c2, c3, c4, c5, -⟩ := HS3.out.cells
    obtain ⟨f0, f1, f2, f3, f4, f5⟩ := HS3.out.frz
    go_wp2_with fail
    refine hK.out _ _ ?_ (fun hHeld => ?_)
    · exact ⟨c0, c1, c2, c3, c4⟩
    clear hK K
    try simp only [Act.put, List.setIfInBounds_toArray, List.set_cons_zero, List.set_cons_succ]
    refine Rg.anyG_pure (i := 10) (oi := { dst := some 61, op := _, type := _, pos := _, after := _, guard := _ }) (v := ?_) rfl (by kernel_rfl) (by kernel_rfl) (by kernel_rfl) (by rfl) (fun _ _ _ h => h) (Or.inl ⟨by rfl, ?_⟩) (fun _ => by assumption) ?_
    rotate_left
    · (intro W hSw; (try dsimp only at hSw); go_simp; try (with_reducible rfl))
    try simp only [Act.put, List.setIfInBounds_toArray, List.set_cons_zero, List.set_cons_succ]
    refine Rg.anyG_pure (i := 11) (oi := { dst := some 62, op := _, type := _, pos := _, after := _, guard := _ }) (v := ?_) rfl (by kernel_rfl) (by kernel_rfl) (by kernel_rfl) (by rfl) (fun _ _ _ h => h) (Or.inl ⟨by rfl, ?_⟩) (fun _ => by assumption) ?_
    rotate_left
    · (intro W hSw; (try dsimp only at hSw); go_simp; try (with_reducible rfl))
    try simp only [Act.put, List.setIfInBounds_toArray, List.set_cons_zero, List.set_cons_succ]
    refine Rg.anyG_ready (rs := [12]) (by kernel_rfl) (by simp) ?_
    refine Rg.AllG.last (o := { dst := none, op := _, type := _, pos := _, after := _, guard := _ }) rfl (by kernel_rfl) (fun K hK => ?_)
    go_simp
    refine hK.out _ _ ?_
    clear hK K
    try simp only [Act.put, List.setIfInBounds_toArray, List.set_cons_zero, List.set_cons_succ]
    refine Rg.anyG_done (by kernel_rfl) ?_ _
    obtain ⟨hs4, hf4⟩ := HS3.out.setG HG3.out.gl
    have HS4 := mkH hs4
    have HA4 := mkH (HA3.out.fr hf4 hAB)
    simp only at HS4
    clear hHeld hs4 hf4 c0 c1 c2 c3 c4 c5 f0 f1 f2 f3 f4 f5 HS2 HA2 HX HS3 HA3 HG3
    generalize (((W3.setCell ⟨B, 0, none⟩ (.int .i64 n2)).setCell ⟨B, 1, none⟩ (.slice ka2 k2.length kc2)).setCell ⟨B, 2, none⟩ (.slice ma2 m2.length mc2)).setCell ⟨B, 3, none⟩ (.string t2) = W4 at *
    have a0 : W4.cell? ⟨A0, 0, none⟩ = some (.int .i64 xk) := HA4.out.cell 0 _ rfl
    go_upto_block 2 with fail
    refine Rg.cutU (β := Unit) (fun _ u => #[.slice (some ⟨ba, off, none⟩) acts.length cap, .int .i64 mo, .int .i64 ro, u 3, u 4, u 5, u 6, .pointer (some ⟨B, 0, none⟩), .int .i64 (k : Int), u 9, u 10, u 11, u 12, u 13, u 14, u 15, u 16, u 17, u 18, u 19, u 20, u 21, u 22, u 23, u 24, u 25, u 26, u 27, u 28, u 29, u 30, u 31, u 32, u 33, u 34, u 35, u 36, u 37, u 38, u 39, u 40, u 41, u 42, u 43, u 44, u 45, u 46, u 47, u 48, u 49, u 50, u 51, u 52, u 53, u 54, u 55, u 56, u 57, u 58, u 59, u 60, u 61, u 62, u 63, u 64, u 65, u 66, u 67, u 68, u 69, u 70, u 71, u 72, u 73, u 74, u 75, u 76, u 77, u 78, u 79, u 80, u 81, u 82, u 83, u 84, u 85, u 86, u 87, u 88, u 89, u 90, u 91, u 92, u 93, u 94, u 95, u 96, u 97, u 98, u 99, u 100, u 101, u 102, u 103, u 104, u 105, u 106, u 107, u 108, u 109, u 110, u 111, u 112, u 113, u 114, u 115, u 116, u 117, u 118, u 119, u 120, u 121, u 122, u 123, u 124, u 125, u 126, u 127, u 128, u 129, u 130, u 131, u 132, u 133, u 134, u 135, u 136, u 137, u 138, u 139, u 140, u 141, u 142, u 143, u 144, u 145, u 146, u 147, u 148, u 149, u 150, u 151, u 152, u 153, u 154, u 155, u 156, u 157, u 158, u 159, u 160, u 161, u 162, u 163, u 164, u 165, u 166, u 167, u 168, u 169, u 170, u 171, u 172, u 173, u 174, u 175, u 176, u 177, u 178, u 179, u 180, u 181, u 182, u 183, u 184, u 185, u 186, u 187, u 188, u 189, u 190, u 191, u 192, u 193, u 194, u 195, u 196, u 197, u 198, u 199, u 200, u 201, u 202, u 203, u 204, u 205, u 206, u 207, u 208, u 209, u 210, u 211, u 212, u 213, u 214, u 215, u 216, u 217, u 218, u 219, u 220, u 221, u 222, u 223, u 224, u 225, u 226, u 227, u 228, u 229, u 230, u 231, u 232, u 233, u 234, u 235, u 236, u 237, u 238, u 239, u 240, u 241, u 242, u 243, u 244, u 245, u 246, u 247, u 248, u 249, u 250, u 251, u 252, u 253, u 254, u 255, u 256, u 257, u 258, u 259, u 260, u 261, u 262, u 263, u 264, u 265, u 266, u 267, u 268, u 269, u 270, u 271, u 272, u 273, u 274, u 275, u 276, u 277, u 278, u 279, u 280, u 281, u 282, u 283, u 284, u 285, u 286, u 287, u 288, u 289, u 290, u 291, u 292, u 293, u 294, u 295, u 296, u 297, u 298, u 299, u 300, u 301, u 302, u 303, u 304, u 305, u 306, u 307, u 308, u 309, u 310, u 311, u 312, u 313, u 314, u 315]) (fun _ WW => ∃ (g : G) (got : List K) (ka : Option Addr) (kc : Nat) (ma : Option Addr) (mc : Nat) (ga : Option Addr) (gc : Nat), Hid (J (k + 1) g) ∧ got.length ≤ 12 * (k + 1) ∧ Hid (Sy w WW B g nw got ka kc ma mc ga gc b6 b7)) ?rest ?first

    case first =>
      intro K1 HK1
      by_cases q0 : xk = 0
      · subst q0
        have hm5 : (if (50 : Int) < (xb.size : Int) then (50 : Int) else (xb.size : Int)) = ((min xb.size 50 : Nat) : Int) := min_str xb 50
        have hm6 : (if (30 : Int) < (xt.size : Int) then (30 : Int) else (xt.size : Int)) = ((min xt.size 30 : Nat) : Int) := min_str xt 30
        obtain ⟨z5, hz5⟩ : ∃ m, min xb.size 50 = m := ⟨_, rfl⟩
        obtain ⟨z6, hz6⟩ : ∃ m, min xt.size 30 = m := ⟨_, rfl⟩
        rw [hz5] at hm5
        rw [hz6] at hm6
        have l5 : (z5 : Int) ≤ (xb.size : Int) := by omega
        have l6 : (z6 : Int) ≤ (xt.size : Int) := by omega
        have hbs : (xb.extract 0 z5).size ≤ 100000 := by rw [ByteArray.size_extract]; omega
        have hTw : Dt.Tb W4.drew := HT.out.below (HS4.out.bl.trans ((below_drew W4).mono HS4.out.bl.size)) HT.out.size
        obtain ⟨T, hTk⟩ : ∃ T, Gd.tkn (xt.extract 0 z6) (xb.extract 0 z5) = T := ⟨_, rfl⟩
        have hSD : Calls Tryd.prog 25 #[.agg (gC ⟨n2, k2, m2, t2⟩ ka2 kc2 ma2 mc2), .int .i64 nw, .int .i64 0, .string (xb.extract 0 z5), .string (xt.extract 0 z6)] W4.drew fun e w' => ∃ ka' kc' ma' mc', e = .returned (.tuple #[.agg (gC (sendG ⟨n2, k2, m2, t2⟩ nw 0 (xb.extract 0 z5) T) ka' kc' ma' mc'), .int .i64 (sendN ⟨n2, k2, m2, t2⟩ T), .int .i64 (sendE ⟨n2, k2, m2, t2⟩ T)]) ∧ Go' W4.drew.heap.size w' (sendG ⟨n2, k2, m2, t2⟩ nw 0 (xb.extract 0 z5) T) ka' kc' ma' mc' ∧ Below W4.drew.heap.size W4.drew w' := by
          have hkl := HJ2.out.kl
          have hml := HJ2.out.ml
          have hnx := HJ2.out.nx
          by_cases ht : xt.extract 0 z6 = ⟨#[]⟩
          · exact Gd.Send_emp W4.drew ⟨n2, k2, m2, t2⟩ ka2 kc2 ma2 mc2 (HS4.out.l.below (below_drew _)) (by omega) (by omega) ⟨hnx.1, by omega⟩ nw 0 _ _ ht hTw hbs T hTk
          · exact Gd.Send_tok W4.drew ⟨n2, k2, m2, t2⟩ ka2 kc2 ma2 mc2 (HS4.out.l.below (below_drew _)) (by omega) (by omega) ⟨hnx.1, by omega⟩ nw 0 _ _ ht T hTk
        have hJ3 := HJ2.out.send nw ⟨hn2, by omega⟩ (xb.extract 0 z5) T
        obtain ⟨g3, hg3⟩ : ∃ x, sendG ⟨n2, k2, m2, t2⟩ nw 0 (xb.extract 0 z5) T = x := ⟨_, rfl⟩
        rw [hg3] at hSD hJ3
        obtain ⟨n3, k3, m3, t3⟩ := g3
        simp only [gC] at hSD
        have HSD := mkH hSD
        have HJ3 := mkH hJ3
        clear hSD hJ3 hg3 hTk hTw hbs hz5 hz6
        go_upto_region 11 with fail
        obtain ⟨c0, c1, c2, c3, c4, c5, -⟩ := HS4.out.cells
        have a4 : W4.cell? ⟨A0, 4, none⟩ = some (.string xb) := HA4.out.cell 4 _ rfl
        have a5 : W4.cell? ⟨A0, 5, none⟩ = some (.string xt) := HA4.out.cell 5 _ rfl
        refine Rg.region_G hmx 30 (fun W => W.cell? ⟨B, 0, none⟩ = some (.int .i64 n2) ∧ W.cell? ⟨B, 1, none⟩ = some (.slice ka2 k2.length kc2) ∧ W.cell? ⟨B, 2, none⟩ = some (.slice ma2 m2.length mc2) ∧ W.cell? ⟨B, 3, none⟩ = some (.string t2) ∧ W.cell? ⟨B, 4, none⟩ = some (.int .i64 nw) ∧ W.cell? ⟨A0, 4, none⟩ = some (.string xb) ∧ W.cell? ⟨A0, 5, none⟩ = some (.string xt)) ⟨c0, c1, c2, c3, c4, a4, a5⟩ (fun hHeld => ?_)
        refine Rg.anyG_pure (i := 0) (oi := { dst := some 68, op := _, type := _, pos := _, after := _, guard := _ }) (v := ?_) rfl (by kernel_rfl) (by kernel_rfl) (by kernel_rfl) (by rfl) (fun _ _ _ h => h) (Or.inl ⟨by rfl, ?_⟩) (fun _ => by assumption) ?_
        rotate_left
        · (intro W hSw; (try dsimp only at hSw); go_simp; try (with_reducible rfl))
        try simp only [Act.put, List.setIfInBounds_toArray, List.set_cons_zero, List.set_cons_succ]
        refine Rg.anyG_pure (i := 1) (oi := { dst := some 69, op := _, type := _, pos := _, after := _, guard := _ }) (v := ?_) rfl (by kernel_rfl) (by kernel_rfl) (by kernel_rfl) (by rfl) (fun _ _ _ h => h) (Or.inl ⟨by rfl, ?_⟩) (fun _ => by assumption) ?_
        rotate_left
        · (intro W hSw; (try dsimp only at hSw); go_simp; try (with_reducible rfl))
        try simp only [Act.put, List.setIfInBounds_toArray, List.set_cons_zero, List.set_cons_succ]
        refine Rg.anyG_pure (i := 2) (oi := { dst := some 70, op := _, type := _, pos := _, after := _, guard := _ }) (v := ?_) rfl (by kernel_rfl) (by kernel_rfl) (by kernel_rfl) (by rfl) (fun _ _ _ h => h) (Or.inl ⟨by rfl, ?_⟩) (fun _ => by assumption) ?_
        rotate_left
        · (intro W hSw; (try dsimp only at hSw); go_simp; try (with_reducible rfl))
        try simp only [Act.put, List.setIfInBounds_toArray, List.set_cons_zero, List.set_cons_succ]
        refine Rg.anyG_pure (i := 3) (oi := { dst := some 71, op := _, type := _, pos := _, after := _, guard := _ }) (v := ?_) rfl (by kernel_rfl) (by kernel_rfl) (by kernel_rfl) (by rfl) (fun _ _ _ h => h) (Or.inl ⟨by rfl, ?_⟩) (fun _ => by assumption) ?_
        rotate_left
        · (intro W hSw; (try dsimp only at hSw); go_simp; try (with_reducible rfl))
        try simp only [Act.put, List.setIfInBounds_toArray, List.set_cons_zero, List.set_cons_succ]
        refine Rg.anyG_take (i := 4) (oi := { dst := some 72, op := _, type := _, pos := _, after := _, guard := _ }) (v := ?_) rfl (by kernel_rfl) (by kernel_rfl) (by kernel_rfl) [30] (by kernel_rfl) (fun _ _ _ h => h) (Or.inl ⟨by rfl, ?_⟩) (by assumption) ?_
        rotate_left
        · (intro W hSw; (try dsimp only at hSw); go_simp; try (with_reducible rfl))
        try simp only [Act.put, List.setIfInBounds_toArray, List.set_cons_zero, List.set_cons_succ]
        refine Rg.anyG_pure (i := 5) (oi := { dst := some 73, op := _, type := _, pos := _, after := _, guard := _ }) (v := ?_) rfl (by kernel_rfl) (by kernel_rfl) (by kernel_rfl) (by rfl) (fun _ _ _ h => h) (Or.inl ⟨by rfl, ?_⟩) (fun _ => by assumption) ?_
        rotate_left
        · (intro W hSw; (try dsimp only at hSw); go_simp; try (with_reducible rfl))
        try simp only [Act.put, List.setIfInBounds_toArray, List.set_cons_zero, List.set_cons_succ]
        refine Rg.anyG_pure (i := 6) (oi := { dst := some 74, op := _, type := _, pos := _, after := _, guard := _ }) (v := ?_) rfl (by kernel_rfl) (by kernel_rfl) (by kernel_rfl) (by rfl) (fun _ _ _ h => h) (Or.inl ⟨by rfl, ?_⟩) (fun _ => by assumption) ?_
        rotate_left
        · (intro W hSw; (try dsimp only at hSw); go_simp; try (with_reducible rfl))
        try simp only [Act.put, List.setIfInBounds_toArray, List.set_cons_zero, List.set_cons_succ]
        refine Rg.anyG_pure (i := 7) (oi := { dst := some 75, op := _, type := _, pos := _, after := _, guard := _ }) (v := ?_) rfl (by kernel_rfl) (by kernel_rfl) (by kernel_rfl) (by rfl) (fun _ _ _ h => h) (Or.inl ⟨by rfl, ?_⟩) (fun _ => by assumption) ?_
        rotate_left
        · (intro W hSw; (try dsimp only at hSw); go_simp; try (with_reducible rfl))
        try simp only [Act.put, List.setIfInBounds_toArray, List.set_cons_zero, List.set_cons_succ]
        refine Rg.anyG_take (i := 8) (oi := { dst := some 76, op := _, type := _, pos := _, after := _, guard := _ }) (v := ?_) rfl (by kernel_rfl) (by kernel_rfl) (by kernel_rfl) [30] (by kernel_rfl) (fun _ _ _ h => h) (Or.inl ⟨by rfl, ?_⟩) (by assumption) ?_
        rotate_left
        · (intro W hSw; (try dsimp only at hSw); go_simp; try (with_reducible rfl))
        try simp only [Act.put, List.setIfInBounds_toArray, List.set_cons_zero, List.set_cons_succ]
        refine Rg.anyG_pure (i := 9) (oi := { dst := some 77, op := _, type := _, pos := _, after := _, guard := _ }) (v := ?_) rfl (by kernel_rfl) (by kernel_rfl) (by kernel_rfl) (by rfl) (fun _ _ _ h => h) (Or.inl ⟨by rfl, ?_⟩) (fun _ => by assumption) ?_
        rotate_left
        · (intro W hSw; (try dsimp only at hSw); go_simp; try (with_reducible rfl))
        try simp only [Act.put, List.setIfInBounds_toArray, List.set_cons_zero, List.set_cons_succ]
        refine Rg.anyG_take (i := 10) (oi := { dst := some 78, op := _, type := _, pos := _, after := _, guard := _ }) (v := ?_) rfl (by kernel_rfl) (by kernel_rfl) (by kernel_rfl) [30] (by kernel_rfl) (fun _ _ _ h => h) (Or.inl ⟨by rfl, ?_⟩) (by assumption) ?_
        rotate_left
        · (intro W hSw; (try dsimp only at hSw); go_simp; try (with_reducible rfl))
        try simp only [Act.put, List.setIfInBounds_toArray, List.set_cons_zero, List.set_cons_succ]
        refine Rg.anyG_pure (i := 11) (oi := { dst := some 79, op := _, type := _, pos := _, after := _, guard := _ }) (v := ?_) rfl (by kernel_rfl) (by kernel_rfl) (by kernel_rfl) (by rfl) (fun _ _ _ h => h) (Or.inl ⟨by rfl, ?_⟩) (fun _ => by assumption) ?_
        rotate_left
        · (intro W hSw; (try dsimp only at hSw); go_simp; try (with_reducible rfl))
        try simp only [Act.put, List.setIfInBounds_toArray, List.set_cons_zero, List.set_cons_succ]
        refine Rg.anyG_take (i := 12) (oi := { dst := some 80, op := _, type := _, pos := _, after := _, guard := _ }) (v := ?_) rfl (by kernel_rfl) (by kernel_rfl) (by kernel_rfl) [30] (by kernel_rfl) (fun _ _ _ h => h) (Or.inl ⟨by rfl, ?_⟩) (by assumption) ?_
        rotate_left
        · (intro W hSw; (try dsimp only at hSw); go_simp; try (with_reducible rfl))
        try simp only [Act.put, List.setIfInBounds_toArray, List.set_cons_zero, List.set_cons_succ]
        refine Rg.anyG_pure (i := 13) (oi := { dst := some 81, op := _, type := _, pos := _, after := _, guard := _ }) (v := ?_) rfl (by kernel_rfl) (by kernel_rfl) (by kernel_rfl) (by rfl) (fun _ _ _ h => h) (Or.inl ⟨by rfl, ?_⟩) (fun _ => by assumption) ?_
        rotate_left
        · (intro W hSw; (try dsimp only at hSw); go_simp; try (with_reducible rfl))
        try simp only [Act.put, List.setIfInBounds_toArray, List.set_cons_zero, List.set_cons_succ]
        refine Rg.anyG_pure (i := 14) (oi := { dst := some 82, op := _, type := _, pos := _, after := _, guard := _ }) (v := ?_) rfl (by kernel_rfl) (by kernel_rfl) (by kernel_rfl) (by rfl) (fun _ _ _ h => h) (Or.inl ⟨by rfl, ?_⟩) (fun _ => by assumption) ?_
        rotate_left
        · (intro W hSw; (try dsimp only at hSw); go_simp; try (with_reducible rfl))
        try simp only [Act.put, List.setIfInBounds_toArray, List.set_cons_zero, List.set_cons_succ]
        refine Rg.anyG_pure (i := 15) (oi := { dst := some 83, op := _, type := _, pos := _, after := _, guard := _ }) (v := ?_) rfl (by kernel_rfl) (by kernel_rfl) (by kernel_rfl) (by rfl) (fun _ _ _ h => h) (Or.inl ⟨by rfl, ?_⟩) (fun _ => by assumption) ?_
        rotate_left
        · (intro W hSw; (try dsimp only at hSw); go_simp; try (with_reducible rfl))
        try simp only [Act.put, List.setIfInBounds_toArray, List.set_cons_zero, List.set_cons_succ]
        refine Rg.anyG_pure (i := 16) (oi := { dst := some 84, op := _, type := _, pos := _, after := _, guard := _ }) (v := ?_) rfl (by kernel_rfl) (by kernel_rfl) (by kernel_rfl) (by rfl) (fun _ _ _ h => h) (Or.inl ⟨by rfl, ?_⟩) (fun _ => by assumption) ?_
        rotate_left
        · (intro W hSw; (try dsimp only at hSw); go_simp; try (with_reducible rfl))
        try simp only [Act.put, List.setIfInBounds_toArray, List.set_cons_zero, List.set_cons_succ]
        refine Rg.anyG_take (i := 17) (oi := { dst := some 85, op := _, type := _, pos := _, after := _, guard := _ }) (v := ?_) rfl (by kernel_rfl) (by kernel_rfl) (by kernel_rfl) [30] (by kernel_rfl) (fun _ _ _ h => h) (Or.inl ⟨by rfl, ?_⟩) (by assumption) ?_
        rotate_left
        · (intro W hSw; (try dsimp only at hSw); go_simp; try (with_reducible rfl))
        try simp only [Act.put, List.setIfInBounds_toArray, List.set_cons_zero, List.set_cons_succ]
        refine Rg.anyG_pure (i := 18) (oi := { dst := some 86, op := _, type := _, pos := _, after := _, guard := _ }) (v := ?_) rfl (by kernel_rfl) (by kernel_rfl) (by kernel_rfl) (by rfl) (fun _ _ _ h => h) (Or.inl ⟨by rfl, ?_⟩) (fun _ => by assumption) ?_
        rotate_left
        · (intro W hSw; (try dsimp only at hSw); go_simp; try (with_reducible rfl))
        try simp only [Act.put, List.setIfInBounds_toArray, List.set_cons_zero, List.set_cons_succ]
        refine Rg.anyG_take (i := 19) (oi := { dst := some 87, op := _, type := _, pos := _, after := _, guard := _ }) (v := ?_) rfl (by kernel_rfl) (by kernel_rfl) (by kernel_rfl) [30] (by kernel_rfl) (fun _ _ _ h => h) (Or.inl ⟨by rfl, ?_⟩) (by assumption) ?_
        rotate_left
        · (intro W hSw; (try dsimp only at hSw); go_simp; try (with_reducible rfl))
        try simp only [Act.put, List.setIfInBounds_toArray, List.set_cons_zero, List.set_cons_succ]
        refine Rg.anyG_pure (i := 20) (oi := { dst := some 88, op := _, type := _, pos := _, after := _, guard := _ }) (v := ?_) rfl (by kernel_rfl) (by kernel_rfl) (by kernel_rfl) (by rfl) (fun _ _ _ h => h) (Or.inl ⟨by rfl, ?_⟩) (fun _ => by assumption) ?_
        rotate_left
        · (intro W hSw; (try dsimp only at hSw); go_simp; try (with_reducible rfl))
        try simp only [Act.put, List.setIfInBounds_toArray, List.set_cons_zero, List.set_cons_succ]
        refine Rg.anyG_pure (i := 21) (oi := { dst := some 89, op := _, type := _, pos := _, after := _, guard := _ }) (v := ?_) rfl (by kernel_rfl) (by kernel_rfl) (by kernel_rfl) (by rfl) (fun _ _ _ h => h) (Or.inl ⟨by rfl, ?_⟩) (fun _ => by assumption) ?_
        rotate_left
        · (intro W hSw; (try dsimp only at hSw); go_simp; try (with_reducible rfl))
        try simp only [Act.put, List.setIfInBounds_toArray, List.set_cons_zero, List.set_cons_succ]
        refine Rg.anyG_pure (i := 22) (oi := { dst := some 90, op := _, type := _, pos := _, after := _, guard := _ }) (v := ?_) rfl (by kernel_rfl) (by kernel_rfl) (by kernel_rfl) (by rfl) (fun _ _ _ h => h) (Or.inl ⟨by rfl, ?_⟩) (fun _ => by assumption) ?_
        rotate_left
        · (intro W hSw; (try dsimp only at hSw); go_simp; try (with_reducible rfl))
        try simp only [Act.put, List.setIfInBounds_toArray, List.set_cons_zero, List.set_cons_succ]
        refine Rg.anyG_ready (rs := [23]) (by kernel_rfl) (by simp) ?_
        refine (Rg.AllG.cons (o := { dst := some 91, op := _, type := _, pos := _, after := _, guard := _ }) rfl (fun K hK => ?_) Rg.AllG.nil)
        go_simp
        refine HSD.out.mono ?_
        rintro e1 W5 ⟨ka3, kc3, ma3, mc3, rfl, hg5, hb5⟩
        have HS5 := mkH (HS4.out.below ((below_drew W4).trans hb5))
        have HA5 := mkH (HA4.out.bel ((below_drew W4).trans hb5))
        have HG5 := mkH hg5
        clear hg5 hb5
        obtain ⟨c0, c1, c2, c3, c4, c5, -⟩ := HS5.out.cells
        obtain ⟨f0, f1, f2, f3, f4, f5⟩ := HS5.out.frz
        have a4 : W5.cell? ⟨A0, 4, none⟩ = some (.string xb) := HA5.out.cell 4 _ rfl
        have a5 : W5.cell? ⟨A0, 5, none⟩ = some (.string xt) := HA5.out.cell 5 _ rfl
        go_wp2_with fail
        refine hK.out _ _ ?_ (fun hHeld => ?_)
        · exact ⟨c0, c1, c2, c3, c4, a4, a5⟩
        clear hK K
        try simp only [Act.put, List.setIfInBounds_toArray, List.set_cons_zero, List.set_cons_succ]
        refine Rg.anyG_pure (i := 24) (oi := { dst := some 67, op := _, type := _, pos := _, after := _, guard := _ }) (v := ?_) rfl (by kernel_rfl) (by kernel_rfl) (by kernel_rfl) (by rfl) (fun _ _ _ h => h) (Or.inl ⟨by rfl, ?_⟩) (fun _ => by assumption) ?_
        rotate_left
        · (intro W hSw; (try dsimp only at hSw); go_simp; try (with_reducible rfl))
        try simp only [Act.put, List.setIfInBounds_toArray, List.set_cons_zero, List.set_cons_succ]
        refine Rg.anyG_pure (i := 25) (oi := { dst := some 92, op := _, type := _, pos := _, after := _, guard := _ }) (v := ?_) rfl (by kernel_rfl) (by kernel_rfl) (by kernel_rfl) (by rfl) (fun _ _ _ h => h) (Or.inl ⟨by rfl, ?_⟩) (fun _ => by assumption) ?_
        rotate_left
        · (intro W hSw; (try dsimp only at hSw); go_simp; try (with_reducible rfl))
        try simp only [Act.put, List.setIfInBounds_toArray, List.set_cons_zero, List.set_cons_succ]
        refine Rg.anyG_pure (i := 26) (oi := { dst := some 93, op := _, type := _, pos := _, after := _, guard := _ }) (v := ?_) rfl (by kernel_rfl) (by kernel_rfl) (by kernel_rfl) (by rfl) (fun _ _ _ h => h) (Or.inl ⟨by rfl, ?_⟩) (fun _ => by assumption) ?_
        rotate_left
        · (intro W hSw; (try dsimp only at hSw); go_simp; try (with_reducible rfl))
        try simp only [Act.put, List.setIfInBounds_toArray, List.set_cons_zero, List.set_cons_succ]
        refine Rg.anyG_pure (i := 27) (oi := { dst := some 94, op := _, type := _, pos := _, after := _, guard := _ }) (v := ?_) rfl (by kernel_rfl) (by kernel_rfl) (by kernel_rfl) (by rfl) (fun _ _ _ h => h) (Or.inl ⟨by rfl, ?_⟩) (fun _ => by assumption) ?_
        rotate_left
        · (intro W hSw; (try dsimp only at hSw); go_simp; try (with_reducible rfl))
        try simp only [Act.put, List.setIfInBounds_toArray, List.set_cons_zero, List.set_cons_succ]
        refine Rg.anyG_pure (i := 28) (oi := { dst := some 95, op := _, type := _, pos := _, after := _, guard := _ }) (v := ?_) rfl (by kernel_rfl) (by kernel_rfl) (by kernel_rfl) (by rfl) (fun _ _ _ h => h) (Or.inl ⟨by rfl, ?_⟩) (fun _ => by assumption) ?_
        rotate_left
        · (intro W hSw; (try dsimp only at hSw); go_simp; try (with_reducible rfl))
        try simp only [Act.put, List.setIfInBounds_toArray, List.set_cons_zero, List.set_cons_succ]
        refine Rg.anyG_pure (i := 29) (oi := { dst := some 96, op := _, type := _, pos := _, after := _, guard := _ }) (v := ?_) rfl (by kernel_rfl) (by kernel_rfl) (by kernel_rfl) (by rfl) (fun _ _ _ h => h) (Or.inl ⟨by rfl, ?_⟩) (fun _ => by assumption) ?_
        rotate_left
        · (intro W hSw; (try dsimp only at hSw); go_simp; try (with_reducible rfl))
        try simp only [Act.put, List.setIfInBounds_toArray, List.set_cons_zero, List.set_cons_succ]
        refine Rg.anyG_ready (rs := [30]) (by kernel_rfl) (by simp) ?_
        refine Rg.AllG.last (o := { dst := none, op := _, type := _, pos := _, after := _, guard := _ }) rfl (by kernel_rfl) (fun K hK => ?_)
        go_simp
        refine hK.out _ _ ?_
        clear hK K
        try simp only [Act.put, List.setIfInBounds_toArray, List.set_cons_zero, List.set_cons_succ]
        refine Rg.anyG_done (by kernel_rfl) ?_ _
        go_wp2_with fail
        refine Rg.meetU _ (fun u => HK1.out () u _ ?_) (by kernel_rfl)
        exact ⟨⟨n3, k3, m3, t3⟩, got, ka3, kc3, ma3, mc3, ga, gc, HJ3, by omega, (HS5.out.setG HG5.out.gl).1⟩
      have q0b : (xk == 0) = false := by simpa using q0
      by_cases q1 : xk = 1
      · subst q1
        have hq1 := smal_bd xn 5 (by decide)
        have hq2 := smal_bd xs 60 (by decide)
        have HQ1 := mkH (fun W => small_any W xn 5 (by decide) (by decide))
        have HQ2 := mkH (fun W => small_any W xs 60 (by decide) (by decide))
        generalize smal xn 5 = y1 at *
        generalize smal xs 60 = y2 at *
        obtain ⟨c0, c1, c2, c3, c4, c5, -⟩ := HS4.out.cells
        have hal : Below W4.heap.size W4 (W4.alloc (.cells #[Value.int .i64 n2, .slice ka2 k2.length kc2, .slice ma2 m2.length mc2, .string t2] 25)) := (Below.refl _ W4).alloc (Nat.le_refl _) _
        have HW5 := mkH (Bx.new W4 #[Value.int .i64 n2, .slice ka2 k2.length kc2, .slice ma2 m2.length mc2, .string t2] 25)
        have HS5 := mkH (HS4.out.below hal)
        have HA5 := mkH (HA4.out.bel hal)
        clear hal
        go_upto_region 14 with fail
        generalize W4.alloc (.cells #[Value.int .i64 n2, .slice ka2 k2.length kc2, .slice ma2 m2.length mc2, .string t2] 25) = W5 at *
        generalize W4.heap.size = WS at *
        clear c0 c1 c2 c3 c4 c5 HS4 HA4 a0
        obtain ⟨c0, c1, c2, c3, c4, c5, -⟩ := HS5.out.cells
        have a1 : W5.cell? ⟨A0, 1, none⟩ = some (.int .i64 xn) := HA5.out.cell 1 _ rfl
        have a2 : W5.cell? ⟨A0, 2, none⟩ = some (.int .i64 xs) := HA5.out.cell 2 _ rfl
        have hig : (Tryd.prog.info? 25).map (·.size) = some 4 := by kernel_rfl
        obtain ⟨g3, hg3⟩ : ∃ x, rcvG ⟨n2, k2, m2, t2⟩ nw y1 y2 mo ro = x := ⟨_, rfl⟩
        obtain ⟨gt, hgt⟩ : ∃ x, rcvGot ⟨n2, k2, m2, t2⟩ nw y1 y2 mo ro = x := ⟨_, rfl⟩
        obtain ⟨dd, hdd⟩ : ∃ x, rcvDead ⟨n2, k2, m2, t2⟩ nw y1 y2 mo ro = x := ⟨_, rfl⟩
        have hln := Gy.rcvG_len ⟨n2, k2, m2, t2⟩ nw y1 y2 mo ro
        have hJ3 := HJ2.out.receive nw y1 y2 mo ro ⟨hn2, by omega⟩ ⟨hq2.1, by omega⟩
        have hri := got_ri HJ2.out nw y1 y2 mo ro
        have hfs : flying ⟨n2, k2, m2, t2⟩ nw = true → rcvG ⟨n2, k2, m2, t2⟩ nw y1 y2 mo ro = ⟨n2, k2, m2, t2⟩ ∧ rcvGot ⟨n2, k2, m2, t2⟩ nw y1 y2 mo ro = [] ∧ rcvDead ⟨n2, k2, m2, t2⟩ nw y1 y2 mo ro = [] := fly_same
        rw [hg3, hgt, hdd] at hln hfs
        rw [hg3] at hJ3
        rw [hg3, hgt] at hri
        have hRC : ∀ W, Gl W ⟨n2, k2, m2, t2⟩ ka2 kc2 ma2 mc2 → _ := fun W hW => Receive_own W ⟨n2, k2, m2, t2⟩ ka2 kc2 ma2 mc2 hW (by have := HJ2.out.kl; omega) (by have := HJ2.out.ml; omega) (HJ2.out.ok (by omega)) nw y1 y2 mo ro ⟨hn2, by omega⟩ ⟨hq2.1, by omega⟩ g3 gt dd hg3 hgt hdd
        have hgl2 : gt.length ≤ 12 := by have := HJ2.out.kl; have := hln.2.1; simp only at *; omega
        have hkl3 : g3.kept.length ≤ 12 := hJ3.kl
        have hml3 : g3.marks.length ≤ 40 := hJ3.ml
        obtain ⟨n3, k3, m3, t3⟩ := g3
        simp only [gC] at hRC hkl3 hml3 hfs
        simp only at hri
        have HRC := mkH hRC
        have HJ3 := mkH hJ3
        have HRI := mkH hri
        have HFS := mkH hfs
        clear hRC hJ3 hri hfs hln hg3 hgt hdd
        refine Rg.cutU (β := Nat × Option Addr × Nat × Option Addr × Nat) (fun b u => #[.slice (some ⟨ba, off, none⟩) acts.length cap, .int .i64 mo, .int .i64 ro, u 3, u 4, u 5, u 6, .pointer (some ⟨B, 0, none⟩), .int .i64 (k : Int), u 9, .pointer (some ⟨WS, 0, none⟩), .pointer (some ⟨b.1, 0, none⟩), .slice b.2.1 gt.length b.2.2.1, .slice b.2.2.2.1 dd.length b.2.2.2.2, u 14, u 15, u 16, u 17, u 18, u 19, u 20, u 21, u 22, u 23, u 24, u 25, u 26, u 27, u 28, u 29, u 30, u 31, u 32, u 33, u 34, u 35, u 36, u 37, u 38, u 39, u 40, u 41, u 42, u 43, u 44, u 45, u 46, u 47, u 48, u 49, u 50, u 51, u 52, u 53, u 54, u 55, u 56, u 57, u 58, u 59, u 60, u 61, u 62, u 63, u 64, u 65, u 66, u 67, u 68, u 69, u 70, u 71, u 72, u 73, u 74, u 75, u 76, u 77, u 78, u 79, u 80, u 81, u 82, u 83, u 84, u 85, u 86, u 87, u 88, u 89, u 90, u 91, u 92, u 93, u 94, u 95, u 96, u 97, u 98, u 99, u 100, u 101, u 102, u 103, u 104, u 105, u 106, u 107, u 108, u 109, u 110, u 111, u 112, u 113, u 114, u 115, u 116, u 117, u 118, u 119, u 120, u 121, u 122, u 123, u 124, u 125, u 126, u 127, u 128, u 129, u 130, u 131, u 132, u 133, u 134, u 135, u 136, u 137, u 138, u 139, u 140, u 141, u 142, u 143, u 144, u 145, u 146, u 147, u 148, u 149, u 150, u 151, u 152, u 153, u 154, u 155, u 156, u 157, u 158, u 159, u 160, u 161, u 162, u 163, u 164, u 165, u 166, u 167, u 168, u 169, u 170, u 171, u 172, u 173, u 174, u 175, u 176, u 177, u 178, u 179, u 180, u 181, u 182, u 183, u 184, u 185, u 186, u 187, u 188, u 189, u 190, u 191, u 192, u 193, u 194, u 195, u 196, u 197, u 198, u 199, u 200, u 201, u 202, u 203, u 204, u 205, u 206, u 207, u 208, u 209, u 210, u 211, u 212, u 213, u 214, u 215, u 216, u 217, u 218, u 219, u 220, u 221, u 222, u 223, u 224, u 225, u 226, u 227, u 228, u 229, u 230, u 231, u 232, u 233, u 234, u 235, u 236, u 237, u 238, u 239, u 240, u 241, u 242, u 243, u 244, u 245, u 246, u 247, u 248, u 249, u 250, u 251, u 252, u 253, u 254, u 255, u 256, u 257, u 258, u 259, u 260, u 261, u 262, u 263, u 264, u 265, u 266, u 267, u 268, u 269, u 270, u 271, u 272, u 273, u 274, u 275, u 276, u 277, u 278, u 279, u 280, u 281, u 282, u 283, u 284, u 285, u 286, u 287, u 288, u 289, u 290, u 291, u 292, u 293, u 294, u 295, u 296, u 297, u 298, u 299, u 300, u 301, u 302, u 303, u 304, u 305, u 306, u 307, u 308, u 309, u 310, u 311, u 312, u 313, u 314, u 315]) (fun b WW => ∃ ka3 kc3 ma3 mc3 Bs, Hid (Sy w WW B ⟨n2, k2, m2, t2⟩ nw got ka2 kc2 ma2 mc2 ga gc b6 b7) ∧ Hid (Bx WW b.1 #[Value.int .i64 n3, .slice ka3 k3.length kc3, .slice ma3 m3.length mc3, .string t3] 25) ∧ Hid (Bx WW WS #[Value.int .i64 n2, .slice ka2 k2.length kc2, .slice ma2 m2.length mc2, .string t2] 25) ∧ Hid (Go' Bs WW ⟨n3, k3, m3, t3⟩ ka3 kc3 ma3 mc3) ∧ Hid (∀ k, (Value.slice ga got.length gc).ownBlock = some k → k < Bs) ∧ Hid (Ls WW gt b.2.1 b.2.2.1)) ?rest2 ?first2
        case first2 =>
          intro K2 HK2
        
          refine wp_region_held_drew (S := fun W => W.cell? ⟨B, 0, none⟩ = some (.int .i64 n2) ∧ W.cell? ⟨B, 1, none⟩ = some (.slice ka2 k2.length kc2) ∧ W.cell? ⟨B, 2, none⟩ = some (.slice ma2 m2.length mc2) ∧ W.cell? ⟨B, 3, none⟩ = some (.string t2) ∧ W.cell? ⟨B, 4, none⟩ = some (.int .i64 nw) ∧ W.cell? ⟨A0, 1, none⟩ = some (.int .i64 xn) ∧ W.cell? ⟨A0, 2, none⟩ = some (.int .i64 xs)) hmx ?_ (fun hHeld => ?_)
          · exact ⟨c0, c1, c2, c3, c4, a1, a2⟩
          have HSV0 := mkH (HS5.out.below (below_drew _))
          have HAV0 := mkH (HA5.out.bel (below_drew _))
          have HWV0 := mkH (HW5.out.bel (below_drew _))
          generalize W5.drew = V0 at *
          refine wpAnyH_take (i := 0) (oi := { dst := some 104, op := _, type := _, pos := _, after := _, guard := _ }) (v := ?_) rfl (by kernel_rfl) (by kernel_rfl) (by kernel_rfl) (fun _ _ _ h => h) (Or.inl ⟨by rfl, ?_⟩) (by assumption) ?_
          rotate_left
          · (intro W hSw; (try dsimp only at hSw); go_simp; try (with_reducible rfl))
          try simp only [Act.put, List.setIfInBounds_toArray, List.set_cons_zero, List.set_cons_succ]
          refine wpAnyH_take (i := 1) (oi := { dst := some 105, op := _, type := _, pos := _, after := _, guard := _ }) (v := ?_) rfl (by kernel_rfl) (by kernel_rfl) (by kernel_rfl) (fun _ _ _ h => h) (Or.inl ⟨by rfl, ?_⟩) (by assumption) ?_
          rotate_left
          · (intro W hSw; (try dsimp only at hSw); go_simp; try (with_reducible rfl))
          try simp only [Act.put, List.setIfInBounds_toArray, List.set_cons_zero, List.set_cons_succ]
          refine wpAnyH_take (i := 2) (oi := { dst := some 106, op := _, type := _, pos := _, after := _, guard := _ }) (v := ?_) rfl (by kernel_rfl) (by kernel_rfl) (by kernel_rfl) (fun _ _ _ h => h) (Or.inl ⟨by rfl, ?_⟩) (by assumption) ?_
          rotate_left
          · (intro W hSw; (try dsimp only at hSw); go_simp; try (with_reducible rfl))
          try simp only [Act.put, List.setIfInBounds_toArray, List.set_cons_zero, List.set_cons_succ]
          refine wpAnyH_take (i := 3) (oi := { dst := some 107, op := _, type := _, pos := _, after := _, guard := _ }) (v := ?_) rfl (by kernel_rfl) (by kernel_rfl) (by kernel_rfl) (fun _ _ _ h => h) (Or.inl ⟨by rfl, ?_⟩) (by assumption) ?_
          rotate_left
          · (intro W hSw; (try dsimp only at hSw); go_simp; try (with_reducible rfl))
          try simp only [Act.put, List.setIfInBounds_toArray, List.set_cons_zero, List.set_cons_succ]
          refine wpAnyH_take (i := 4) (oi := { dst := some 108, op := _, type := _, pos := _, after := _, guard := _ }) (v := ?_) rfl (by kernel_rfl) (by kernel_rfl) (by kernel_rfl) (fun _ _ _ h => h) (Or.inl ⟨by rfl, ?_⟩) (by assumption) ?_
          rotate_left
          · (intro W hSw; (try dsimp only at hSw); go_simp; try (with_reducible rfl))
          try simp only [Act.put, List.setIfInBounds_toArray, List.set_cons_zero, List.set_cons_succ]
          refine wpAnyH_take (i := 5) (oi := { dst := some 109, op := _, type := _, pos := _, after := _, guard := _ }) (v := ?_) rfl (by kernel_rfl) (by kernel_rfl) (by kernel_rfl) (fun _ _ _ h => h) (Or.inl ⟨by rfl, ?_⟩) (by assumption) ?_
          rotate_left
          · (intro W hSw; (try dsimp only at hSw); go_simp; try (with_reducible rfl))
          try simp only [Act.put, List.setIfInBounds_toArray, List.set_cons_zero, List.set_cons_succ]
          refine wpAnyH_take (i := 6) (oi := { dst := some 110, op := _, type := _, pos := _, after := _, guard := _ }) (v := ?_) rfl (by kernel_rfl) (by kernel_rfl) (by kernel_rfl) (fun _ _ _ h => h) (Or.inl ⟨by rfl, ?_⟩) (by assumption) ?_
          rotate_left
          · (intro W hSw; (try dsimp only at hSw); go_simp; try (with_reducible rfl))
          try simp only [Act.put, List.setIfInBounds_toArray, List.set_cons_zero, List.set_cons_succ]
          refine wpAnyH_take (i := 7) (oi := { dst := some 111, op := _, type := _, pos := _, after := _, guard := _ }) (v := ?_) rfl (by kernel_rfl) (by kernel_rfl) (by kernel_rfl) (fun _ _ _ h => h) (Or.inl ⟨by rfl, ?_⟩) (by assumption) ?_
          rotate_left
          · (intro W hSw; (try dsimp only at hSw); go_simp; try (with_reducible rfl))
          try simp only [Act.put, List.setIfInBounds_toArray, List.set_cons_zero, List.set_cons_succ]
          refine wpAnyH_take (i := 8) (oi := { dst := some 112, op := _, type := _, pos := _, after := _, guard := _ }) (v := ?_) rfl (by kernel_rfl) (by kernel_rfl) (by kernel_rfl) (fun _ _ _ h => h) (Or.inl ⟨by rfl, ?_⟩) (by assumption) ?_
          rotate_left
          · (intro W hSw; (try dsimp only at hSw); go_simp; try (with_reducible rfl))
          try simp only [Act.put, List.setIfInBounds_toArray, List.set_cons_zero, List.set_cons_succ]
          refine wpAnyH_take (i := 9) (oi := { dst := some 113, op := _, type := _, pos := _, after := _, guard := _ }) (v := ?_) rfl (by kernel_rfl) (by kernel_rfl) (by kernel_rfl) (fun _ _ _ h => h) (Or.inl ⟨by rfl, ?_⟩) (by assumption) ?_
          rotate_left
          · (intro W hSw; (try dsimp only at hSw); go_simp; try (with_reducible rfl))
          try simp only [Act.put, List.setIfInBounds_toArray, List.set_cons_zero, List.set_cons_succ]
          refine wpAnyH_take (i := 11) (oi := { dst := some 115, op := _, type := _, pos := _, after := _, guard := _ }) (v := ?_) rfl (by kernel_rfl) (by kernel_rfl) (by kernel_rfl) (fun _ _ _ h => h) (Or.inl ⟨by rfl, ?_⟩) (by assumption) ?_
          rotate_left
          · (intro W hSw; (try dsimp only at hSw); go_simp; try (with_reducible rfl))
          try simp only [Act.put, List.setIfInBounds_toArray, List.set_cons_zero, List.set_cons_succ]
          refine wpAnyH_take (i := 12) (oi := { dst := some 116, op := _, type := _, pos := _, after := _, guard := _ }) (v := ?_) rfl (by kernel_rfl) (by kernel_rfl) (by kernel_rfl) (fun _ _ _ h => h) (Or.inl ⟨by rfl, ?_⟩) (by assumption) ?_
          rotate_left
          · (intro W hSw; (try dsimp only at hSw); go_simp; try (with_reducible rfl))
          try simp only [Act.put, List.setIfInBounds_toArray, List.set_cons_zero, List.set_cons_succ]
          refine wpAnyH_take (i := 14) (oi := { dst := some 118, op := _, type := _, pos := _, after := _, guard := _ }) (v := ?_) rfl (by kernel_rfl) (by kernel_rfl) (by kernel_rfl) (fun _ _ _ h => h) (Or.inl ⟨by rfl, ?_⟩) (by assumption) ?_
          rotate_left
          · (intro W hSw; (try dsimp only at hSw); go_simp; try (with_reducible rfl))
          try simp only [Act.put, List.setIfInBounds_toArray, List.set_cons_zero, List.set_cons_succ]
          refine wpAnyH_take (i := 15) (oi := { dst := some 119, op := _, type := _, pos := _, after := _, guard := _ }) (v := ?_) rfl (by kernel_rfl) (by kernel_rfl) (by kernel_rfl) (fun _ _ _ h => h) (Or.inl ⟨by rfl, ?_⟩) (by assumption) ?_
          rotate_left
          · (intro W hSw; (try dsimp only at hSw); go_simp; try (with_reducible rfl))
          try simp only [Act.put, List.setIfInBounds_toArray, List.set_cons_zero, List.set_cons_succ]
          refine wpAnyH_ready (rs := [10, 21]) (by kernel_rfl) (by simp) ?_
          refine (AllReadyH.cons (o := { dst := some 114, op := _, type := _, pos := _, after := _, guard := _ }) rfl (fun K hK => ?_) (AllReadyH.cons (o := { dst := some 11, op := _, type := _, pos := _, after := _, guard := _ }) rfl (fun K hK => ?_) AllReadyH.nil))
          · go_simp
            refine (HQ1.out _).mono ?_
            rintro e1 x1 ⟨rfl, hx1⟩
            have hx1' := hx1.symm
            subst hx1'
            clear hx1
            go_wp2_with fail
            refine hK.out _ _ ?_ (fun hHeld => ?_)
            · assumption
            clear hK K
            try simp only [Act.put, List.setIfInBounds_toArray, List.set_cons_zero, List.set_cons_succ]
            refine wpAnyH_ready (rs := [13, 21]) (by kernel_rfl) (by simp) ?_
            refine (AllReadyH.cons (o := { dst := some 117, op := _, type := _, pos := _, after := _, guard := _ }) rfl (fun K hK => ?_) (AllReadyH.cons (o := { dst := some 11, op := _, type := _, pos := _, after := _, guard := _ }) rfl (fun K hK => ?_) AllReadyH.nil))
            · go_simp
              refine (HQ2.out _).mono ?_
              rintro e1 x1 ⟨rfl, hx1⟩
              have hx1' := hx1.symm
              subst hx1'
              clear hx1
              go_wp2_with fail
              refine hK.out _ _ ?_ (fun hHeld => ?_)
              · assumption
              clear hK K
              try simp only [Act.put, List.setIfInBounds_toArray, List.set_cons_zero, List.set_cons_succ]
              refine wpAnyH_ready (rs := [16, 21]) (by kernel_rfl) (by simp) ?_
              refine (AllReadyH.cons (o := { dst := some 120, op := _, type := _, pos := _, after := _, guard := _ }) rfl (fun K hK => ?_) (AllReadyH.cons (o := { dst := some 11, op := _, type := _, pos := _, after := _, guard := _ }) rfl (fun K hK => ?_) AllReadyH.nil))
              · go_simp
                refine (HRC.out V0 (HSV0.out.l)).mono ?_
                rintro e1 V1 ⟨ka3, kc3, ma3, mc3, da, dc, ea, ec, rfl, hg5, hl5, hd5, hb5⟩
                have HSV1 := mkH (HSV0.out.below hb5)
                have HAV1 := mkH (HAV0.out.bel hb5)
                have HWV1 := mkH (HWV0.out.bel hb5)
                have HGV1 := mkH hg5
                have HLgV1 := mkH hl5
                have hBs : ∀ k, (Value.slice ga got.length gc).ownBlock = some k → k < V0.heap.size := fun k hk => (HSV0.out.o.lt k hk).2
                have HBs := mkH hBs
                have hAz := HSV1.out.b.lt
                clear hg5 hl5 hd5 hb5 hBs
                generalize V0.heap.size = Bs at HGV1 HBs
                go_wp2_with fail
                refine hK.out _ _ ?_ (fun hHeld => ?_)
                · (obtain ⟨c0, c1, c2, c3, c4, c5, -⟩ := HSV1.out.cells; exact ⟨c0, c1, c2, c3, c4, HAV1.out.cell 1 _ rfl, HAV1.out.cell 2 _ rfl⟩)
                clear hK K
                try simp only [Act.put, List.setIfInBounds_toArray, List.set_cons_zero, List.set_cons_succ]
                refine wpAnyH_take (i := 17) (oi := { dst := some 103, op := _, type := _, pos := _, after := _, guard := _ }) (v := ?_) rfl (by kernel_rfl) (by kernel_rfl) (by kernel_rfl) (fun _ _ _ h => h) (Or.inl ⟨by rfl, ?_⟩) (by assumption) ?_
                rotate_left
                · (intro W hSw; (try dsimp only at hSw); go_simp; try (with_reducible rfl))
                try simp only [Act.put, List.setIfInBounds_toArray, List.set_cons_zero, List.set_cons_succ]
                refine wpAnyH_take (i := 18) (oi := { dst := some 121, op := _, type := _, pos := _, after := _, guard := _ }) (v := ?_) rfl (by kernel_rfl) (by kernel_rfl) (by kernel_rfl) (fun _ _ _ h => h) (Or.inl ⟨by rfl, ?_⟩) (by assumption) ?_
                rotate_left
                · (intro W hSw; (try dsimp only at hSw); go_simp; try (with_reducible rfl))
                try simp only [Act.put, List.setIfInBounds_toArray, List.set_cons_zero, List.set_cons_succ]
                refine wpAnyH_take (i := 19) (oi := { dst := some 122, op := _, type := _, pos := _, after := _, guard := _ }) (v := ?_) rfl (by kernel_rfl) (by kernel_rfl) (by kernel_rfl) (fun _ _ _ h => h) (Or.inl ⟨by rfl, ?_⟩) (by assumption) ?_
                rotate_left
                · (intro W hSw; (try dsimp only at hSw); go_simp; try (with_reducible rfl))
                try simp only [Act.put, List.setIfInBounds_toArray, List.set_cons_zero, List.set_cons_succ]
                refine wpAnyH_take (i := 20) (oi := { dst := some 123, op := _, type := _, pos := _, after := _, guard := _ }) (v := ?_) rfl (by kernel_rfl) (by kernel_rfl) (by kernel_rfl) (fun _ _ _ h => h) (Or.inl ⟨by rfl, ?_⟩) (by assumption) ?_
                rotate_left
                · (intro W hSw; (try dsimp only at hSw); go_simp; try (with_reducible rfl))
                try simp only [Act.put, List.setIfInBounds_toArray, List.set_cons_zero, List.set_cons_succ]
                refine wpAnyH_ready (rs := [21]) (by kernel_rfl) (by simp) ?_
                refine (AllReadyH.cons (o := { dst := some 11, op := _, type := _, pos := _, after := _, guard := _ }) rfl (fun K hK => ?_) AllReadyH.nil)
                go_simp
                have hal : Below V1.heap.size V1 (V1.alloc (.cells #[Value.int .i64 0, .slice none 0 0, .slice none 0 0, .string ⟨#[]⟩] 25)) := (Below.refl _ _).alloc (Nat.le_refl _) _
                have HSV2 := mkH (HSV1.out.below hal)
                have HAV2 := mkH (HAV1.out.bel hal)
                have HWV2 := mkH (HWV1.out.bel hal)
                have HGV2 := mkH (HGV1.out.below hal)
                have HLgV2 := mkH (HLgV1.out.below hal)
                have HZV2 := mkH (Bx.new V1 #[Value.int .i64 0, .slice none 0 0, .slice none 0 0, .string ⟨#[]⟩] 25)
                have hB1 : V1.heap.size ≠ B := Nat.ne_of_gt HSV1.out.b.lt
                have hB2 : V1.heap.size ≠ A0 := Nat.ne_of_gt HAV1.out.lt
                have hB3 : V1.heap.size ≠ WS := Nat.ne_of_gt HWV1.out.lt
                have hBw : w.heap.size ≤ V1.heap.size := HSV1.out.bl.size
                clear hal
                generalize V1.alloc (.cells #[Value.int .i64 0, .slice none 0 0, .slice none 0 0, .string ⟨#[]⟩] 25) = V2 at *
                generalize V1.heap.size = G1 at HZV2 hB1 hB2 hB3 hBw ⊢
                refine hK.out _ _ ?_ (fun hHeld => ?_)
                · (obtain ⟨c0, c1, c2, c3, c4, c5, -⟩ := HSV2.out.cells; exact ⟨c0, c1, c2, c3, c4, HAV2.out.cell 1 _ rfl, HAV2.out.cell 2 _ rfl⟩)
                clear hK K
                try simp only [Act.put, List.setIfInBounds_toArray, List.set_cons_zero, List.set_cons_succ]
                refine wpAnyH_ready (rs := [22]) (by kernel_rfl) (by simp) ?_
                refine (AllReadyH.cons (o := { dst := none, op := _, type := _, pos := _, after := _, guard := _ }) rfl (fun K hK => ?_) AllReadyH.nil)
                refine step_st (by rfl) 25 (.tmp 11) (.tmp 121) (by rfl) G1 #[Value.int .i64 n3, .slice ka3 k3.length kc3, .slice ma3 m3.length mc3, .string t3] #[Value.int .i64 0, .slice none 0 0, .slice none 0 0, .string ⟨#[]⟩] 25 (by rfl) (by rfl) HZV2.out hig (by rfl) (by simp [Value.oneCell']) ?_
                have hfs : Fr (fun x => x = G1) V2 (V2.setRow G1 #[Value.int .i64 n3, .slice ka3 k3.length kc3, .slice ma3 m3.length mc3, .string t3]) := Bx.frrow _
                have HZV3 : Hid (Bx (V2.setRow G1 #[Value.int .i64 n3, .slice ka3 k3.length kc3, .slice ma3 m3.length mc3, .string t3]) G1 #[Value.int .i64 n3, .slice ka3 k3.length kc3, .slice ma3 m3.length mc3, .string t3] 25) := HZV2.out.row
                have HSV3 := mkH (syFr HSV2.out hfs hB1 (fun e => own_ne HSV2.out.o HZV2.out e (by decide) rfl) (glFr HSV2.out.l HZV2.out hfs) hBw)
                have HAV3 := mkH (HAV2.out.fr hfs (Ne.symm hB2))
                have HWV3 := mkH (HWV2.out.fr hfs (Ne.symm hB3))
                have HGV3 := mkH (goFr HGV2.out HZV2.out hfs)
                have HLgV3 := mkH (lsFr HLgV2.out HZV2.out hfs)
                generalize V2.setRow G1 #[Value.int .i64 n3, .slice ka3 k3.length kc3, .slice ma3 m3.length mc3, .string t3] = V3 at *
                refine hK.out _ _ ?_ (fun hHeld => ?_)
                · (obtain ⟨c0, c1, c2, c3, c4, c5, -⟩ := HSV3.out.cells; exact ⟨c0, c1, c2, c3, c4, HAV3.out.cell 1 _ rfl, HAV3.out.cell 2 _ rfl⟩)
                clear hK K
                try simp only [Act.put, List.setIfInBounds_toArray, List.set_cons_zero, List.set_cons_succ]
                refine wpAnyH_take (i := 23) (oi := { dst := some 12, op := _, type := _, pos := _, after := _, guard := _ }) (v := ?_) rfl (by kernel_rfl) (by kernel_rfl) (by kernel_rfl) (fun _ _ _ h => h) (Or.inl ⟨by rfl, ?_⟩) (by assumption) ?_
                rotate_left
                · (intro W hSw; (try dsimp only at hSw); go_simp; try (with_reducible rfl))
                try simp only [Act.put, List.setIfInBounds_toArray, List.set_cons_zero, List.set_cons_succ]
                refine wpAnyH_take (i := 24) (oi := { dst := some 13, op := _, type := _, pos := _, after := _, guard := _ }) (v := ?_) rfl (by kernel_rfl) (by kernel_rfl) (by kernel_rfl) (fun _ _ _ h => h) (Or.inl ⟨by rfl, ?_⟩) (by assumption) ?_
                rotate_left
                · (intro W hSw; (try dsimp only at hSw); go_simp; try (with_reducible rfl))
                try simp only [Act.put, List.setIfInBounds_toArray, List.set_cons_zero, List.set_cons_succ]
                refine wpAnyH_done (by kernel_rfl) ?_ _
                go_wp2_with fail
                refine Rg.meetU _ (fun u => HK2.out (G1, da, dc, ea, ec) u _ ?_) (by kernel_rfl)
                exact ⟨ka3, kc3, ma3, mc3, Bs, HSV3, HZV3, HWV3, HGV3, HBs, HLgV3⟩
              · go_simp
                have hal : Below V0.heap.size V0 (V0.alloc (.cells #[Value.int .i64 0, .slice none 0 0, .slice none 0 0, .string ⟨#[]⟩] 25)) := (Below.refl _ _).alloc (Nat.le_refl _) _
                have HSV1 := mkH (HSV0.out.below hal)
                have HAV1 := mkH (HAV0.out.bel hal)
                have HWV1 := mkH (HWV0.out.bel hal)
                have HZV1 := mkH (Bx.new V0 #[Value.int .i64 0, .slice none 0 0, .slice none 0 0, .string ⟨#[]⟩] 25)
                have hB1 : V0.heap.size ≠ B := Nat.ne_of_gt HSV0.out.b.lt
                have hB2 : V0.heap.size ≠ A0 := Nat.ne_of_gt HAV0.out.lt
                have hB3 : V0.heap.size ≠ WS := Nat.ne_of_gt HWV0.out.lt
                have hBw : w.heap.size ≤ V0.heap.size := HSV0.out.bl.size
                clear hal
                generalize V0.alloc (.cells #[Value.int .i64 0, .slice none 0 0, .slice none 0 0, .string ⟨#[]⟩] 25) = V1 at *
                generalize V0.heap.size = G1 at HZV1 hB1 hB2 hB3 hBw ⊢
                refine hK.out _ _ ?_ (fun hHeld => ?_)
                · (obtain ⟨c0, c1, c2, c3, c4, c5, -⟩ := HSV1.out.cells; exact ⟨c0, c1, c2, c3, c4, HAV1.out.cell 1 _ rfl, HAV1.out.cell 2 _ rfl⟩)
                clear hK K
                try simp only [Act.put, List.setIfInBounds_toArray, List.set_cons_zero, List.set_cons_succ]
                refine wpAnyH_ready (rs := [16]) (by kernel_rfl) (by simp) ?_
                refine (AllReadyH.cons (o := { dst := some 120, op := _, type := _, pos := _, after := _, guard := _ }) rfl (fun K hK => ?_) AllReadyH.nil)
                go_simp
                refine (HRC.out V1 (HSV1.out.l)).mono ?_
                rintro e1 V2 ⟨ka3, kc3, ma3, mc3, da, dc, ea, ec, rfl, hg5, hl5, hd5, hb5⟩
                have HSV2 := mkH (HSV1.out.below hb5)
                have HAV2 := mkH (HAV1.out.bel hb5)
                have HWV2 := mkH (HWV1.out.bel hb5)
                have HZV2 := mkH (HZV1.out.bel hb5)
                have HGV2 := mkH hg5
                have HLgV2 := mkH hl5
                have hBs : ∀ k, (Value.slice ga got.length gc).ownBlock = some k → k < V1.heap.size := fun k hk => (HSV1.out.o.lt k hk).2
                have HBs := mkH hBs
                have hAz := HSV2.out.b.lt
                clear hg5 hl5 hd5 hb5 hBs
                generalize V1.heap.size = Bs at HGV2 HBs
                go_wp2_with fail
                refine hK.out _ _ ?_ (fun hHeld => ?_)
                · (obtain ⟨c0, c1, c2, c3, c4, c5, -⟩ := HSV2.out.cells; exact ⟨c0, c1, c2, c3, c4, HAV2.out.cell 1 _ rfl, HAV2.out.cell 2 _ rfl⟩)
                clear hK K
                try simp only [Act.put, List.setIfInBounds_toArray, List.set_cons_zero, List.set_cons_succ]
                refine wpAnyH_take (i := 17) (oi := { dst := some 103, op := _, type := _, pos := _, after := _, guard := _ }) (v := ?_) rfl (by kernel_rfl) (by kernel_rfl) (by kernel_rfl) (fun _ _ _ h => h) (Or.inl ⟨by rfl, ?_⟩) (by assumption) ?_
                rotate_left
                · (intro W hSw; (try dsimp only at hSw); go_simp; try (with_reducible rfl))
                try simp only [Act.put, List.setIfInBounds_toArray, List.set_cons_zero, List.set_cons_succ]
                refine wpAnyH_take (i := 18) (oi := { dst := some 121, op := _, type := _, pos := _, after := _, guard := _ }) (v := ?_) rfl (by kernel_rfl) (by kernel_rfl) (by kernel_rfl) (fun _ _ _ h => h) (Or.inl ⟨by rfl, ?_⟩) (by assumption) ?_
                rotate_left
                · (intro W hSw; (try dsimp only at hSw); go_simp; try (with_reducible rfl))
                try simp only [Act.put, List.setIfInBounds_toArray, List.set_cons_zero, List.set_cons_succ]
                refine wpAnyH_take (i := 19) (oi := { dst := some 122, op := _, type := _, pos := _, after := _, guard := _ }) (v := ?_) rfl (by kernel_rfl) (by kernel_rfl) (by kernel_rfl) (fun _ _ _ h => h) (Or.inl ⟨by rfl, ?_⟩) (by assumption) ?_
                rotate_left
                · (intro W hSw; (try dsimp only at hSw); go_simp; try (with_reducible rfl))
                try simp only [Act.put, List.setIfInBounds_toArray, List.set_cons_zero, List.set_cons_succ]
                refine wpAnyH_take (i := 20) (oi := { dst := some 123, op := _, type := _, pos := _, after := _, guard := _ }) (v := ?_) rfl (by kernel_rfl) (by kernel_rfl) (by kernel_rfl) (fun _ _ _ h => h) (Or.inl ⟨by rfl, ?_⟩) (by assumption) ?_
                rotate_left
                · (intro W hSw; (try dsimp only at hSw); go_simp; try (with_reducible rfl))
                try simp only [Act.put, List.setIfInBounds_toArray, List.set_cons_zero, List.set_cons_succ]
                refine wpAnyH_ready (rs := [22]) (by kernel_rfl) (by simp) ?_
                refine (AllReadyH.cons (o := { dst := none, op := _, type := _, pos := _, after := _, guard := _ }) rfl (fun K hK => ?_) AllReadyH.nil)
                refine step_st (by rfl) 25 (.tmp 11) (.tmp 121) (by rfl) G1 #[Value.int .i64 n3, .slice ka3 k3.length kc3, .slice ma3 m3.length mc3, .string t3] #[Value.int .i64 0, .slice none 0 0, .slice none 0 0, .string ⟨#[]⟩] 25 (by rfl) (by rfl) HZV2.out hig (by rfl) (by simp [Value.oneCell']) ?_
                have hfs : Fr (fun x => x = G1) V2 (V2.setRow G1 #[Value.int .i64 n3, .slice ka3 k3.length kc3, .slice ma3 m3.length mc3, .string t3]) := Bx.frrow _
                have HZV3 : Hid (Bx (V2.setRow G1 #[Value.int .i64 n3, .slice ka3 k3.length kc3, .slice ma3 m3.length mc3, .string t3]) G1 #[Value.int .i64 n3, .slice ka3 k3.length kc3, .slice ma3 m3.length mc3, .string t3] 25) := HZV2.out.row
                have HSV3 := mkH (syFr HSV2.out hfs hB1 (fun e => own_ne HSV2.out.o HZV2.out e (by decide) rfl) (glFr HSV2.out.l HZV2.out hfs) hBw)
                have HAV3 := mkH (HAV2.out.fr hfs (Ne.symm hB2))
                have HWV3 := mkH (HWV2.out.fr hfs (Ne.symm hB3))
                have HGV3 := mkH (goFr HGV2.out HZV2.out hfs)
                have HLgV3 := mkH (lsFr HLgV2.out HZV2.out hfs)
                generalize V2.setRow G1 #[Value.int .i64 n3, .slice ka3 k3.length kc3, .slice ma3 m3.length mc3, .string t3] = V3 at *
                refine hK.out _ _ ?_ (fun hHeld => ?_)
                · (obtain ⟨c0, c1, c2, c3, c4, c5, -⟩ := HSV3.out.cells; exact ⟨c0, c1, c2, c3, c4, HAV3.out.cell 1 _ rfl, HAV3.out.cell 2 _ rfl⟩)
                clear hK K
                try simp only [Act.put, List.setIfInBounds_toArray, List.set_cons_zero, List.set_cons_succ]
                refine wpAnyH_take (i := 23) (oi := { dst := some 12, op := _, type := _, pos := _, after := _, guard := _ }) (v := ?_) rfl (by kernel_rfl) (by kernel_rfl) (by kernel_rfl) (fun _ _ _ h => h) (Or.inl ⟨by rfl, ?_⟩) (by assumption) ?_
                rotate_left
                · (intro W hSw; (try dsimp only at hSw); go_simp; try (with_reducible rfl))
                try simp only [Act.put, List.setIfInBounds_toArray, List.set_cons_zero, List.set_cons_succ]
                refine wpAnyH_take (i := 24) (oi := { dst := some 13, op := _, type := _, pos := _, after := _, guard := _ }) (v := ?_) rfl (by kernel_rfl) (by kernel_rfl) (by kernel_rfl) (fun _ _ _ h => h) (Or.inl ⟨by rfl, ?_⟩) (by assumption) ?_
                rotate_left
                · (intro W hSw; (try dsimp only at hSw); go_simp; try (with_reducible rfl))
                try simp only [Act.put, List.setIfInBounds_toArray, List.set_cons_zero, List.set_cons_succ]
                refine wpAnyH_done (by kernel_rfl) ?_ _
                go_wp2_with fail
                refine Rg.meetU _ (fun u => HK2.out (G1, da, dc, ea, ec) u _ ?_) (by kernel_rfl)
                exact ⟨ka3, kc3, ma3, mc3, Bs, HSV3, HZV3, HWV3, HGV3, HBs, HLgV3⟩
            · go_simp
              have hal : Below V0.heap.size V0 (V0.alloc (.cells #[Value.int .i64 0, .slice none 0 0, .slice none 0 0, .string ⟨#[]⟩] 25)) := (Below.refl _ _).alloc (Nat.le_refl _) _
              have HSV1 := mkH (HSV0.out.below hal)
              have HAV1 := mkH (HAV0.out.bel hal)
              have HWV1 := mkH (HWV0.out.bel hal)
              have HZV1 := mkH (Bx.new V0 #[Value.int .i64 0, .slice none 0 0, .slice none 0 0, .string ⟨#[]⟩] 25)
              have hB1 : V0.heap.size ≠ B := Nat.ne_of_gt HSV0.out.b.lt
              have hB2 : V0.heap.size ≠ A0 := Nat.ne_of_gt HAV0.out.lt
              have hB3 : V0.heap.size ≠ WS := Nat.ne_of_gt HWV0.out.lt
              have hBw : w.heap.size ≤ V0.heap.size := HSV0.out.bl.size
              clear hal
              generalize V0.alloc (.cells #[Value.int .i64 0, .slice none 0 0, .slice none 0 0, .string ⟨#[]⟩] 25) = V1 at *
              generalize V0.heap.size = G1 at HZV1 hB1 hB2 hB3 hBw ⊢
              refine hK.out _ _ ?_ (fun hHeld => ?_)
              · (obtain ⟨c0, c1, c2, c3, c4, c5, -⟩ := HSV1.out.cells; exact ⟨c0, c1, c2, c3, c4, HAV1.out.cell 1 _ rfl, HAV1.out.cell 2 _ rfl⟩)
              clear hK K
              try simp only [Act.put, List.setIfInBounds_toArray, List.set_cons_zero, List.set_cons_succ]
              refine wpAnyH_ready (rs := [13]) (by kernel_rfl) (by simp) ?_
              refine (AllReadyH.cons (o := { dst := some 117, op := _, type := _, pos := _, after := _, guard := _ }) rfl (fun K hK => ?_) AllReadyH.nil)
              go_simp
              refine (HQ2.out _).mono ?_
              rintro e1 x1 ⟨rfl, hx1⟩
              have hx1' := hx1.symm
              subst hx1'
              clear hx1
              go_wp2_with fail
              refine hK.out _ _ ?_ (fun hHeld => ?_)
              · assumption
              clear hK K
              try simp only [Act.put, List.setIfInBounds_toArray, List.set_cons_zero, List.set_cons_succ]
              refine wpAnyH_ready (rs := [16]) (by kernel_rfl) (by simp) ?_
              refine (AllReadyH.cons (o := { dst := some 120, op := _, type := _, pos := _, after := _, guard := _ }) rfl (fun K hK => ?_) AllReadyH.nil)
              go_simp
              refine (HRC.out V1 (HSV1.out.l)).mono ?_
              rintro e1 V2 ⟨ka3, kc3, ma3, mc3, da, dc, ea, ec, rfl, hg5, hl5, hd5, hb5⟩
              have HSV2 := mkH (HSV1.out.below hb5)
              have HAV2 := mkH (HAV1.out.bel hb5)
              have HWV2 := mkH (HWV1.out.bel hb5)
              have HZV2 := mkH (HZV1.out.bel hb5)
              have HGV2 := mkH hg5
              have HLgV2 := mkH hl5
              have hBs : ∀ k, (Value.slice ga got.length gc).ownBlock = some k → k < V1.heap.size := fun k hk => (HSV1.out.o.lt k hk).2
              have HBs := mkH hBs
              have hAz := HSV2.out.b.lt
              clear hg5 hl5 hd5 hb5 hBs
              generalize V1.heap.size = Bs at HGV2 HBs
              go_wp2_with fail
              refine hK.out _ _ ?_ (fun hHeld => ?_)
              · (obtain ⟨c0, c1, c2, c3, c4, c5, -⟩ := HSV2.out.cells; exact ⟨c0, c1, c2, c3, c4, HAV2.out.cell 1 _ rfl, HAV2.out.cell 2 _ rfl⟩)
              clear hK K
              try simp only [Act.put, List.setIfInBounds_toArray, List.set_cons_zero, List.set_cons_succ]
              refine wpAnyH_take (i := 17) (oi := { dst := some 103, op := _, type := _, pos := _, after := _, guard := _ }) (v := ?_) rfl (by kernel_rfl) (by kernel_rfl) (by kernel_rfl) (fun _ _ _ h => h) (Or.inl ⟨by rfl, ?_⟩) (by assumption) ?_
              rotate_left
              · (intro W hSw; (try dsimp only at hSw); go_simp; try (with_reducible rfl))
              try simp only [Act.put, List.setIfInBounds_toArray, List.set_cons_zero, List.set_cons_succ]
              refine wpAnyH_take (i := 18) (oi := { dst := some 121, op := _, type := _, pos := _, after := _, guard := _ }) (v := ?_) rfl (by kernel_rfl) (by kernel_rfl) (by kernel_rfl) (fun _ _ _ h => h) (Or.inl ⟨by rfl, ?_⟩) (by assumption) ?_
              rotate_left
              · (intro W hSw; (try dsimp only at hSw); go_simp; try (with_reducible rfl))
              try simp only [Act.put, List.setIfInBounds_toArray, List.set_cons_zero, List.set_cons_succ]
              refine wpAnyH_take (i := 19) (oi := { dst := some 122, op := _, type := _, pos := _, after := _, guard := _ }) (v := ?_) rfl (by kernel_rfl) (by kernel_rfl) (by kernel_rfl) (fun _ _ _ h => h) (Or.inl ⟨by rfl, ?_⟩) (by assumption) ?_
              rotate_left
              · (intro W hSw; (try dsimp only at hSw); go_simp; try (with_reducible rfl))
              try simp only [Act.put, List.setIfInBounds_toArray, List.set_cons_zero, List.set_cons_succ]
              refine wpAnyH_take (i := 20) (oi := { dst := some 123, op := _, type := _, pos := _, after := _, guard := _ }) (v := ?_) rfl (by kernel_rfl) (by kernel_rfl) (by kernel_rfl) (fun _ _ _ h => h) (Or.inl ⟨by rfl, ?_⟩) (by assumption) ?_
              rotate_left
              · (intro W hSw; (try dsimp only at hSw); go_simp; try (with_reducible rfl))
              try simp only [Act.put, List.setIfInBounds_toArray, List.set_cons_zero, List.set_cons_succ]
              refine wpAnyH_ready (rs := [22]) (by kernel_rfl) (by simp) ?_
              refine (AllReadyH.cons (o := { dst := none, op := _, type := _, pos := _, after := _, guard := _ }) rfl (fun K hK => ?_) AllReadyH.nil)
              refine step_st (by rfl) 25 (.tmp 11) (.tmp 121) (by rfl) G1 #[Value.int .i64 n3, .slice ka3 k3.length kc3, .slice ma3 m3.length mc3, .string t3] #[Value.int .i64 0, .slice none 0 0, .slice none 0 0, .string ⟨#[]⟩] 25 (by rfl) (by rfl) HZV2.out hig (by rfl) (by simp [Value.oneCell']) ?_
              have hfs : Fr (fun x => x = G1) V2 (V2.setRow G1 #[Value.int .i64 n3, .slice ka3 k3.length kc3, .slice ma3 m3.length mc3, .string t3]) := Bx.frrow _
              have HZV3 : Hid (Bx (V2.setRow G1 #[Value.int .i64 n3, .slice ka3 k3.length kc3, .slice ma3 m3.length mc3, .string t3]) G1 #[Value.int .i64 n3, .slice ka3 k3.length kc3, .slice ma3 m3.length mc3, .string t3] 25) := HZV2.out.row
              have HSV3 := mkH (syFr HSV2.out hfs hB1 (fun e => own_ne HSV2.out.o HZV2.out e (by decide) rfl) (glFr HSV2.out.l HZV2.out hfs) hBw)
              have HAV3 := mkH (HAV2.out.fr hfs (Ne.symm hB2))
              have HWV3 := mkH (HWV2.out.fr hfs (Ne.symm hB3))
              have HGV3 := mkH (goFr HGV2.out HZV2.out hfs)
              have HLgV3 := mkH (lsFr HLgV2.out HZV2.out hfs)
              generalize V2.setRow G1 #[Value.int .i64 n3, .slice ka3 k3.length kc3, .slice ma3 m3.length mc3, .string t3] = V3 at *
              refine hK.out _ _ ?_ (fun hHeld => ?_)
              · (obtain ⟨c0, c1, c2, c3, c4, c5, -⟩ := HSV3.out.cells; exact ⟨c0, c1, c2, c3, c4, HAV3.out.cell 1 _ rfl, HAV3.out.cell 2 _ rfl⟩)
              clear hK K
              try simp only [Act.put, List.setIfInBounds_toArray, List.set_cons_zero, List.set_cons_succ]
              refine wpAnyH_take (i := 23) (oi := { dst := some 12, op := _, type := _, pos := _, after := _, guard := _ }) (v := ?_) rfl (by kernel_rfl) (by kernel_rfl) (by kernel_rfl) (fun _ _ _ h => h) (Or.inl ⟨by rfl, ?_⟩) (by assumption) ?_
              rotate_left
              · (intro W hSw; (try dsimp only at hSw); go_simp; try (with_reducible rfl))
              try simp only [Act.put, List.setIfInBounds_toArray, List.set_cons_zero, List.set_cons_succ]
              refine wpAnyH_take (i := 24) (oi := { dst := some 13, op := _, type := _, pos := _, after := _, guard := _ }) (v := ?_) rfl (by kernel_rfl) (by kernel_rfl) (by kernel_rfl) (fun _ _ _ h => h) (Or.inl ⟨by rfl, ?_⟩) (by assumption) ?_
              rotate_left
              · (intro W hSw; (try dsimp only at hSw); go_simp; try (with_reducible rfl))
              try simp only [Act.put, List.setIfInBounds_toArray, List.set_cons_zero, List.set_cons_succ]
              refine wpAnyH_done (by kernel_rfl) ?_ _
              go_wp2_with fail
              refine Rg.meetU _ (fun u => HK2.out (G1, da, dc, ea, ec) u _ ?_) (by kernel_rfl)
              exact ⟨ka3, kc3, ma3, mc3, Bs, HSV3, HZV3, HWV3, HGV3, HBs, HLgV3⟩
          · go_simp
            have hal : Below V0.heap.size V0 (V0.alloc (.cells #[Value.int .i64 0, .slice none 0 0, .slice none 0 0, .string ⟨#[]⟩] 25)) := (Below.refl _ _).alloc (Nat.le_refl _) _
            have HSV1 := mkH (HSV0.out.below hal)
            have HAV1 := mkH (HAV0.out.bel hal)
            have HWV1 := mkH (HWV0.out.bel hal)
            have HZV1 := mkH (Bx.new V0 #[Value.int .i64 0, .slice none 0 0, .slice none 0 0, .string ⟨#[]⟩] 25)
            have hB1 : V0.heap.size ≠ B := Nat.ne_of_gt HSV0.out.b.lt
            have hB2 : V0.heap.size ≠ A0 := Nat.ne_of_gt HAV0.out.lt
            have hB3 : V0.heap.size ≠ WS := Nat.ne_of_gt HWV0.out.lt
            have hBw : w.heap.size ≤ V0.heap.size := HSV0.out.bl.size
            clear hal
            generalize V0.alloc (.cells #[Value.int .i64 0, .slice none 0 0, .slice none 0 0, .string ⟨#[]⟩] 25) = V1 at *
            generalize V0.heap.size = G1 at HZV1 hB1 hB2 hB3 hBw ⊢
            refine hK.out _ _ ?_ (fun hHeld => ?_)
            · (obtain ⟨c0, c1, c2, c3, c4, c5, -⟩ := HSV1.out.cells; exact ⟨c0, c1, c2, c3, c4, HAV1.out.cell 1 _ rfl, HAV1.out.cell 2 _ rfl⟩)
            clear hK K
            try simp only [Act.put, List.setIfInBounds_toArray, List.set_cons_zero, List.set_cons_succ]
            refine wpAnyH_ready (rs := [10]) (by kernel_rfl) (by simp) ?_
            refine (AllReadyH.cons (o := { dst := some 114, op := _, type := _, pos := _, after := _, guard := _ }) rfl (fun K hK => ?_) AllReadyH.nil)
            go_simp
            refine (HQ1.out _).mono ?_
            rintro e1 x1 ⟨rfl, hx1⟩
            have hx1' := hx1.symm
            subst hx1'
            clear hx1
            go_wp2_with fail
            refine hK.out _ _ ?_ (fun hHeld => ?_)
            · assumption
            clear hK K
            try simp only [Act.put, List.setIfInBounds_toArray, List.set_cons_zero, List.set_cons_succ]
            refine wpAnyH_ready (rs := [13]) (by kernel_rfl) (by simp) ?_
            refine (AllReadyH.cons (o := { dst := some 117, op := _, type := _, pos := _, after := _, guard := _ }) rfl (fun K hK => ?_) AllReadyH.nil)
            go_simp
            refine (HQ2.out _).mono ?_
            rintro e1 x1 ⟨rfl, hx1⟩
            have hx1' := hx1.symm
            subst hx1'
            clear hx1
            go_wp2_with fail
            refine hK.out _ _ ?_ (fun hHeld => ?_)
            · assumption
            clear hK K
            try simp only [Act.put, List.setIfInBounds_toArray, List.set_cons_zero, List.set_cons_succ]
            refine wpAnyH_ready (rs := [16]) (by kernel_rfl) (by simp) ?_
            refine (AllReadyH.cons (o := { dst := some 120, op := _, type := _, pos := _, after := _, guard := _ }) rfl (fun K hK => ?_) AllReadyH.nil)
            go_simp
            refine (HRC.out V1 (HSV1.out.l)).mono ?_
            rintro e1 V2 ⟨ka3, kc3, ma3, mc3, da, dc, ea, ec, rfl, hg5, hl5, hd5, hb5⟩
            have HSV2 := mkH (HSV1.out.below hb5)
            have HAV2 := mkH (HAV1.out.bel hb5)
            have HWV2 := mkH (HWV1.out.bel hb5)
            have HZV2 := mkH (HZV1.out.bel hb5)
            have HGV2 := mkH hg5
            have HLgV2 := mkH hl5
            have hBs : ∀ k, (Value.slice ga got.length gc).ownBlock = some k → k < V1.heap.size := fun k hk => (HSV1.out.o.lt k hk).2
            have HBs := mkH hBs
            have hAz := HSV2.out.b.lt
            clear hg5 hl5 hd5 hb5 hBs
            generalize V1.heap.size = Bs at HGV2 HBs
            go_wp2_with fail
            refine hK.out _ _ ?_ (fun hHeld => ?_)
            · (obtain ⟨c0, c1, c2, c3, c4, c5, -⟩ := HSV2.out.cells; exact ⟨c0, c1, c2, c3, c4, HAV2.out.cell 1 _ rfl, HAV2.out.cell 2 _ rfl⟩)
            clear hK K
            try simp only [Act.put, List.setIfInBounds_toArray, List.set_cons_zero, List.set_cons_succ]
            refine wpAnyH_take (i := 17) (oi := { dst := some 103, op := _, type := _, pos := _, after := _, guard := _ }) (v := ?_) rfl (by kernel_rfl) (by kernel_rfl) (by kernel_rfl) (fun _ _ _ h => h) (Or.inl ⟨by rfl, ?_⟩) (by assumption) ?_
            rotate_left
            · (intro W hSw; (try dsimp only at hSw); go_simp; try (with_reducible rfl))
            try simp only [Act.put, List.setIfInBounds_toArray, List.set_cons_zero, List.set_cons_succ]
            refine wpAnyH_take (i := 18) (oi := { dst := some 121, op := _, type := _, pos := _, after := _, guard := _ }) (v := ?_) rfl (by kernel_rfl) (by kernel_rfl) (by kernel_rfl) (fun _ _ _ h => h) (Or.inl ⟨by rfl, ?_⟩) (by assumption) ?_
            rotate_left
            · (intro W hSw; (try dsimp only at hSw); go_simp; try (with_reducible rfl))
            try simp only [Act.put, List.setIfInBounds_toArray, List.set_cons_zero, List.set_cons_succ]
            refine wpAnyH_take (i := 19) (oi := { dst := some 122, op := _, type := _, pos := _, after := _, guard := _ }) (v := ?_) rfl (by kernel_rfl) (by kernel_rfl) (by kernel_rfl) (fun _ _ _ h => h) (Or.inl ⟨by rfl, ?_⟩) (by assumption) ?_
            rotate_left
            · (intro W hSw; (try dsimp only at hSw); go_simp; try (with_reducible rfl))
            try simp only [Act.put, List.setIfInBounds_toArray, List.set_cons_zero, List.set_cons_succ]
            refine wpAnyH_take (i := 20) (oi := { dst := some 123, op := _, type := _, pos := _, after := _, guard := _ }) (v := ?_) rfl (by kernel_rfl) (by kernel_rfl) (by kernel_rfl) (fun _ _ _ h => h) (Or.inl ⟨by rfl, ?_⟩) (by assumption) ?_
            rotate_left
            · (intro W hSw; (try dsimp only at hSw); go_simp; try (with_reducible rfl))
            try simp only [Act.put, List.setIfInBounds_toArray, List.set_cons_zero, List.set_cons_succ]
            refine wpAnyH_ready (rs := [22]) (by kernel_rfl) (by simp) ?_
            refine (AllReadyH.cons (o := { dst := none, op := _, type := _, pos := _, after := _, guard := _ }) rfl (fun K hK => ?_) AllReadyH.nil)
            refine step_st (by rfl) 25 (.tmp 11) (.tmp 121) (by rfl) G1 #[Value.int .i64 n3, .slice ka3 k3.length kc3, .slice ma3 m3.length mc3, .string t3] #[Value.int .i64 0, .slice none 0 0, .slice none 0 0, .string ⟨#[]⟩] 25 (by rfl) (by rfl) HZV2.out hig (by rfl) (by simp [Value.oneCell']) ?_
            have hfs : Fr (fun x => x = G1) V2 (V2.setRow G1 #[Value.int .i64 n3, .slice ka3 k3.length kc3, .slice ma3 m3.length mc3, .string t3]) := Bx.frrow _
            have HZV3 : Hid (Bx (V2.setRow G1 #[Value.int .i64 n3, .slice ka3 k3.length kc3, .slice ma3 m3.length mc3, .string t3]) G1 #[Value.int .i64 n3, .slice ka3 k3.length kc3, .slice ma3 m3.length mc3, .string t3] 25) := HZV2.out.row
            have HSV3 := mkH (syFr HSV2.out hfs hB1 (fun e => own_ne HSV2.out.o HZV2.out e (by decide) rfl) (glFr HSV2.out.l HZV2.out hfs) hBw)
            have HAV3 := mkH (HAV2.out.fr hfs (Ne.symm hB2))
            have HWV3 := mkH (HWV2.out.fr hfs (Ne.symm hB3))
            have HGV3 := mkH (goFr HGV2.out HZV2.out hfs)
            have HLgV3 := mkH (lsFr HLgV2.out HZV2.out hfs)
            generalize V2.setRow G1 #[Value.int .i64 n3, .slice ka3 k3.length kc3, .slice ma3 m3.length mc3, .string t3] = V3 at *
            refine hK.out _ _ ?_ (fun hHeld => ?_)
            · (obtain ⟨c0, c1, c2, c3, c4, c5, -⟩ := HSV3.out.cells; exact ⟨c0, c1, c2, c3, c4, HAV3.out.cell 1 _ rfl, HAV3.out.cell 2 _ rfl⟩)
            clear hK K
            try simp only [Act.put, List.setIfInBounds_toArray, List.set_cons_zero, List.set_cons_succ]
            refine wpAnyH_take (i := 23) (oi := { dst := some 12, op := _, type := _, pos := _, after := _, guard := _ }) (v := ?_) rfl (by kernel_rfl) (by kernel_rfl) (by kernel_rfl) (fun _ _ _ h => h) (Or.inl ⟨by rfl, ?_⟩) (by assumption) ?_
            rotate_left
            · (intro W hSw; (try dsimp only at hSw); go_simp; try (with_reducible rfl))
            try simp only [Act.put, List.setIfInBounds_toArray, List.set_cons_zero, List.set_cons_succ]
            refine wpAnyH_take (i := 24) (oi := { dst := some 13, op := _, type := _, pos := _, after := _, guard := _ }) (v := ?_) rfl (by kernel_rfl) (by kernel_rfl) (by kernel_rfl) (fun _ _ _ h => h) (Or.inl ⟨by rfl, ?_⟩) (by assumption) ?_
            rotate_left
            · (intro W hSw; (try dsimp only at hSw); go_simp; try (with_reducible rfl))
            try simp only [Act.put, List.setIfInBounds_toArray, List.set_cons_zero, List.set_cons_succ]
            refine wpAnyH_done (by kernel_rfl) ?_ _
            go_wp2_with fail
            refine Rg.meetU _ (fun u => HK2.out (G1, da, dc, ea, ec) u _ ?_) (by kernel_rfl)
            exact ⟨ka3, kc3, ma3, mc3, Bs, HSV3, HZV3, HWV3, HGV3, HBs, HLgV3⟩
        case rest2 =>
          rintro ⟨G1, da, dc, ea, ec⟩ u wc ⟨ka3, kc3, ma3, mc3, Bs, HS6, HG6, HW6, HO6, HBs, HL6⟩
          dsimp only at HG6 HL6 ⊢
          clear HRC HQ1 HQ2 HS5 HA5 HW5 c0 c1 c2 c3 c4 c5 a1 a2
          go_upto_region 15 with fail
          refine Rg.cutU (β := Unit) (fun _ u => #[.slice (some ⟨ba, off, none⟩) acts.length cap, .int .i64 mo, .int .i64 ro, u 3, u 4, u 5, u 6, .pointer (some ⟨B, 0, none⟩), .int .i64 (k : Int), u 9, u 10, .pointer (some ⟨G1, 0, none⟩), .slice da gt.length dc, u 13, u 14, u 15, u 16, u 17, u 18, u 19, u 20, u 21, u 22, u 23, u 24, u 25, u 26, u 27, u 28, u 29, u 30, u 31, u 32, u 33, u 34, u 35, u 36, u 37, u 38, u 39, u 40, u 41, u 42, u 43, u 44, u 45, u 46, u 47, u 48, u 49, u 50, u 51, u 52, u 53, u 54, u 55, u 56, u 57, u 58, u 59, u 60, u 61, u 62, u 63, u 64, u 65, u 66, u 67, u 68, u 69, u 70, u 71, u 72, u 73, u 74, u 75, u 76, u 77, u 78, u 79, u 80, u 81, u 82, u 83, u 84, u 85, u 86, u 87, u 88, u 89, u 90, u 91, u 92, u 93, u 94, u 95, u 96, u 97, u 98, u 99, u 100, u 101, u 102, u 103, u 104, u 105, u 106, u 107, u 108, u 109, u 110, u 111, u 112, u 113, u 114, u 115, u 116, u 117, u 118, u 119, u 120, u 121, u 122, u 123, u 124, u 125, u 126, u 127, u 128, u 129, u 130, u 131, u 132, u 133, u 134, u 135, u 136, u 137, u 138, u 139, u 140, u 141, u 142, u 143, u 144, .bool false, u 146, u 147, u 148, u 149, u 150, u 151, u 152, u 153, u 154, u 155, u 156, u 157, u 158, u 159, u 160, u 161, u 162, u 163, u 164, u 165, u 166, u 167, u 168, u 169, u 170, u 171, u 172, u 173, u 174, u 175, u 176, u 177, u 178, u 179, u 180, u 181, u 182, u 183, u 184, u 185, u 186, u 187, u 188, u 189, u 190, u 191, u 192, u 193, u 194, u 195, u 196, u 197, u 198, u 199, u 200, u 201, u 202, u 203, u 204, u 205, u 206, u 207, u 208, u 209, u 210, u 211, u 212, u 213, u 214, u 215, u 216, u 217, u 218, u 219, u 220, u 221, u 222, u 223, u 224, u 225, u 226, u 227, u 228, u 229, u 230, u 231, u 232, u 233, u 234, u 235, u 236, u 237, u 238, u 239, u 240, u 241, u 242, u 243, u 244, u 245, u 246, u 247, u 248, u 249, u 250, u 251, u 252, u 253, u 254, u 255, u 256, u 257, u 258, u 259, u 260, u 261, u 262, u 263, u 264, u 265, u 266, u 267, u 268, u 269, u 270, u 271, u 272, u 273, u 274, u 275, u 276, u 277, u 278, u 279, u 280, u 281, u 282, u 283, u 284, u 285, u 286, u 287, u 288, u 289, u 290, u 291, u 292, u 293, u 294, u 295, u 296, u 297, u 298, u 299, u 300, u 301, u 302, u 303, u 304, u 305, u 306, u 307, u 308, u 309, u 310, u 311, u 312, u 313, u 314, u 315]) (fun _ WW => Hid (Sy w WW B ⟨n2, k2, m2, t2⟩ nw got ka2 kc2 ma2 mc2 ga gc b6 b7) ∧ Hid (Bx WW G1 #[Value.int .i64 n3, .slice ka3 k3.length kc3, .slice ma3 m3.length mc3, .string t3] 25) ∧ Hid (Go' Bs WW ⟨n3, k3, m3, t3⟩ ka3 kc3 ma3 mc3) ∧ Hid (Ls WW gt da dc)) ?rest3 ?first3
          case first3 =>
            intro K3 HK3
            cases hfl : flying ⟨n2, k2, m2, t2⟩ nw with
            | true =>
              obtain ⟨e1, e2, e3⟩ := HFS.out hfl
              cases e1
              subst e2 e3
              simp only [List.length_nil]
              refine wp_region_held_drew (S := fun W => W.cell? ⟨WS, 0, none⟩ = some (.int .i64 n2) ∧ W.cell? ⟨WS, 1, none⟩ = some (.slice ka2 k2.length kc2) ∧ W.cell? ⟨WS, 2, none⟩ = some (.slice ma2 m2.length mc2) ∧ W.cell? ⟨WS, 3, none⟩ = some (.string t2) ∧ W.cell? ⟨B, 4, none⟩ = some (.int .i64 nw) ∧ W.cell? ⟨G1, 0, none⟩ = some (.int .i64 n2) ∧ W.cell? ⟨G1, 1, none⟩ = some (.slice ka3 k2.length kc3) ∧ W.cell? ⟨G1, 2, none⟩ = some (.slice ma3 m2.length mc3) ∧ W.cell? ⟨G1, 3, none⟩ = some (.string t2)) hmx ?_ (fun hHeld => ?_)
              · (obtain ⟨w0', w1', w2', w3', -⟩ := HW6.out.four; obtain ⟨g0', g1', g2', g3', -⟩ := HG6.out.four; exact ⟨w0', w1', w2', w3', HS6.out.b.cell 4 _ rfl, g0', g1', g2', g3'⟩)
              have HSV0 := mkH (HS6.out.below (below_drew _))
              have HWV0 := mkH (HW6.out.bel (below_drew _))
              have HGV0 := mkH (HG6.out.bel (below_drew _))
              have HOV0 := mkH (HO6.out.below (below_drew _))
              have HLV0 := mkH (HL6.out.below (below_drew _))
              generalize wc.drew = V0 at *
              refine wpAnyH_take (i := 0) (oi := { dst := some 124, op := _, type := _, pos := _, after := _, guard := _ }) (v := ?_) rfl (by kernel_rfl) (by kernel_rfl) (by kernel_rfl) (fun _ _ _ h => h) (Or.inl ⟨by rfl, ?_⟩) (by assumption) ?_
              rotate_left
              · (intro W hSw; (try dsimp only at hSw); go_simp; try (with_reducible rfl))
              try simp only [Act.put, List.setIfInBounds_toArray, List.set_cons_zero, List.set_cons_succ]
              refine wpAnyH_take (i := 1) (oi := { dst := some 125, op := _, type := _, pos := _, after := _, guard := _ }) (v := ?_) rfl (by kernel_rfl) (by kernel_rfl) (by kernel_rfl) (fun _ _ _ h => h) (Or.inl ⟨by rfl, ?_⟩) (by assumption) ?_
              rotate_left
              · (intro W hSw; (try dsimp only at hSw); go_simp; try (with_reducible rfl))
              try simp only [Act.put, List.setIfInBounds_toArray, List.set_cons_zero, List.set_cons_succ]
              refine wpAnyH_take (i := 2) (oi := { dst := some 126, op := _, type := _, pos := _, after := _, guard := _ }) (v := ?_) rfl (by kernel_rfl) (by kernel_rfl) (by kernel_rfl) (fun _ _ _ h => h) (Or.inl ⟨by rfl, ?_⟩) (by assumption) ?_
              rotate_left
              · (intro W hSw; (try dsimp only at hSw); go_simp; try (with_reducible rfl))
              try simp only [Act.put, List.setIfInBounds_toArray, List.set_cons_zero, List.set_cons_succ]
              refine wpAnyH_take (i := 3) (oi := { dst := some 127, op := _, type := _, pos := _, after := _, guard := _ }) (v := ?_) rfl (by kernel_rfl) (by kernel_rfl) (by kernel_rfl) (fun _ _ _ h => h) (Or.inl ⟨by rfl, ?_⟩) (by assumption) ?_
              rotate_left
              · (intro W hSw; (try dsimp only at hSw); go_simp; try (with_reducible rfl))
              try simp only [Act.put, List.setIfInBounds_toArray, List.set_cons_zero, List.set_cons_succ]
              refine wpAnyH_take (i := 4) (oi := { dst := some 128, op := _, type := _, pos := _, after := _, guard := _ }) (v := ?_) rfl (by kernel_rfl) (by kernel_rfl) (by kernel_rfl) (fun _ _ _ h => h) (Or.inl ⟨by rfl, ?_⟩) (by assumption) ?_
              rotate_left
              · (intro W hSw; (try dsimp only at hSw); go_simp; try (with_reducible rfl))
              try simp only [Act.put, List.setIfInBounds_toArray, List.set_cons_zero, List.set_cons_succ]
              refine wpAnyH_ready (rs := [5]) (by kernel_rfl) (by simp) ?_
              refine (AllReadyH.cons (o := { dst := some 129, op := _, type := _, pos := _, after := _, guard := _ }) rfl (fun K hK => ?_) AllReadyH.nil)
              go_simp
              have hfa := Flying_any V0 ⟨n2, k2, m2, t2⟩ ka2 kc2 ma2 mc2 HSV0.out.l (by have := HJ2.out.kl; omega) nw
              rw [hfl] at hfa
              simp only [gC] at hfa
              refine hfa.mono ?_
              rintro e1 V1 ⟨rfl, hb1⟩
              clear hfa
              have HSV1 := mkH (HSV0.out.below hb1)
              have HWV1 := mkH (HWV0.out.bel hb1)
              have HGV1 := mkH (HGV0.out.bel hb1)
              have HOV1 := mkH (HOV0.out.below hb1)
              have HLV1 := mkH (HLV0.out.below hb1)
              clear hb1
              go_wp2_with fail
              refine hK.out _ _ ?_ (fun hHeld => ?_)
              · (obtain ⟨w0', w1', w2', w3', -⟩ := HWV1.out.four; obtain ⟨g0', g1', g2', g3', -⟩ := HGV1.out.four; exact ⟨w0', w1', w2', w3', HSV1.out.b.cell 4 _ rfl, g0', g1', g2', g3'⟩)
              clear hK K
              try simp only [Act.put, List.setIfInBounds_toArray, List.set_cons_zero, List.set_cons_succ]
              refine wpAnyH_take (i := 6) (oi := { dst := some 130, op := _, type := _, pos := _, after := _, guard := _ }) (v := ?_) rfl (by kernel_rfl) (by kernel_rfl) (by kernel_rfl) (fun _ _ _ h => h) (Or.inl ⟨by rfl, ?_⟩) (by assumption) ?_
              rotate_left
              · (intro W hSw; (try dsimp only at hSw); go_simp; try (with_reducible rfl))
              try simp only [Act.put, List.setIfInBounds_toArray, List.set_cons_zero, List.set_cons_succ]
              refine wpAnyH_take (i := 7) (oi := { dst := some 131, op := _, type := _, pos := _, after := _, guard := _ }) (v := ?_) rfl (by kernel_rfl) (by kernel_rfl) (by kernel_rfl) (fun _ _ _ h => h) (Or.inl ⟨by rfl, ?_⟩) (by assumption) ?_
              rotate_left
              · (intro W hSw; (try dsimp only at hSw); go_simp; try (with_reducible rfl))
              try simp only [Act.put, List.setIfInBounds_toArray, List.set_cons_zero, List.set_cons_succ]
              refine wpAnyH_take (i := 8) (oi := { dst := some 132, op := _, type := _, pos := _, after := _, guard := _ }) (v := ?_) rfl (by kernel_rfl) (by kernel_rfl) (by kernel_rfl) (fun _ _ _ h => h) (Or.inl ⟨by rfl, ?_⟩) (by assumption) ?_
              rotate_left
              · (intro W hSw; (try dsimp only at hSw); go_simp; try (with_reducible rfl))
              try simp only [Act.put, List.setIfInBounds_toArray, List.set_cons_zero, List.set_cons_succ]
              refine wpAnyH_take (i := 9) (oi := { dst := some 133, op := _, type := _, pos := _, after := _, guard := _ }) (v := ?_) rfl (by kernel_rfl) (by kernel_rfl) (by kernel_rfl) (fun _ _ _ h => h) (Or.inl ⟨by rfl, ?_⟩) (by assumption) ?_
              rotate_left
              · (intro W hSw; (try dsimp only at hSw); go_simp; try (with_reducible rfl))
              try simp only [Act.put, List.setIfInBounds_toArray, List.set_cons_zero, List.set_cons_succ]
              refine wpAnyH_take (i := 10) (oi := { dst := some 134, op := _, type := _, pos := _, after := _, guard := _ }) (v := ?_) rfl (by kernel_rfl) (by kernel_rfl) (by kernel_rfl) (fun _ _ _ h => h) (Or.inl ⟨by rfl, ?_⟩) (by assumption) ?_
              rotate_left
              · (intro W hSw; (try dsimp only at hSw); go_simp; try (with_reducible rfl))
              try simp only [Act.put, List.setIfInBounds_toArray, List.set_cons_zero, List.set_cons_succ]
              refine wpAnyH_take (i := 11) (oi := { dst := some 135, op := _, type := _, pos := _, after := _, guard := _ }) (v := ?_) rfl (by kernel_rfl) (by kernel_rfl) (by kernel_rfl) (fun _ _ _ h => h) (Or.inl ⟨by rfl, ?_⟩) (by assumption) ?_
              rotate_left
              · (intro W hSw; (try dsimp only at hSw); go_simp; try (with_reducible rfl))
              try simp only [Act.put, List.setIfInBounds_toArray, List.set_cons_zero, List.set_cons_succ]
              refine wpAnyH_take (i := 12) (oi := { dst := some 136, op := _, type := _, pos := _, after := _, guard := _ }) (v := ?_) rfl (by kernel_rfl) (by kernel_rfl) (by kernel_rfl) (fun _ _ _ h => h) (Or.inl ⟨by rfl, ?_⟩) (by assumption) ?_
              rotate_left
              · (intro W hSw; (try dsimp only at hSw); go_simp; try (with_reducible rfl))
              try simp only [Act.put, List.setIfInBounds_toArray, List.set_cons_zero, List.set_cons_succ]
              refine wpAnyH_take (i := 13) (oi := { dst := some 137, op := _, type := _, pos := _, after := _, guard := _ }) (v := ?_) rfl (by kernel_rfl) (by kernel_rfl) (by kernel_rfl) (fun _ _ _ h => h) (Or.inl ⟨by rfl, ?_⟩) (by assumption) ?_
              rotate_left
              · (intro W hSw; (try dsimp only at hSw); go_simp; try (with_reducible rfl))
              try simp only [Act.put, List.setIfInBounds_toArray, List.set_cons_zero, List.set_cons_succ]
              refine wpAnyH_take (i := 14) (oi := { dst := some 138, op := _, type := _, pos := _, after := _, guard := _ }) (v := ?_) rfl (by kernel_rfl) (by kernel_rfl) (by kernel_rfl) (fun _ _ _ h => h) (Or.inl ⟨by rfl, ?_⟩) (by assumption) ?_
              rotate_left
              · (intro W hSw; (try dsimp only at hSw); go_simp; try (with_reducible rfl))
              try simp only [Act.put, List.setIfInBounds_toArray, List.set_cons_zero, List.set_cons_succ]
              refine wpAnyH_take (i := 15) (oi := { dst := some 139, op := _, type := _, pos := _, after := _, guard := _ }) (v := ?_) rfl (by kernel_rfl) (by kernel_rfl) (by kernel_rfl) (fun _ _ _ h => h) (Or.inl ⟨by rfl, ?_⟩) (by assumption) ?_
              rotate_left
              · (intro W hSw; (try dsimp only at hSw); go_simp; try (with_reducible rfl))
              try simp only [Act.put, List.setIfInBounds_toArray, List.set_cons_zero, List.set_cons_succ]
              refine wpAnyH_take (i := 16) (oi := { dst := some 140, op := _, type := _, pos := _, after := _, guard := _ }) (v := ?_) rfl (by kernel_rfl) (by kernel_rfl) (by kernel_rfl) (fun _ _ _ h => h) (Or.inl ⟨by rfl, ?_⟩) (by assumption) ?_
              rotate_left
              · (intro W hSw; (try dsimp only at hSw); go_simp; try (with_reducible rfl))
              try simp only [Act.put, List.setIfInBounds_toArray, List.set_cons_zero, List.set_cons_succ]
              refine wpAnyH_take (i := 17) (oi := { dst := some 141, op := _, type := _, pos := _, after := _, guard := _ }) (v := ?_) rfl (by kernel_rfl) (by kernel_rfl) (by kernel_rfl) (fun _ _ _ h => h) (Or.inl ⟨by rfl, ?_⟩) (by assumption) ?_
              rotate_left
              · (intro W hSw; (try dsimp only at hSw); go_simp; try (with_reducible rfl))
              try simp only [Act.put, List.setIfInBounds_toArray, List.set_cons_zero, List.set_cons_succ]
              refine wpAnyH_ready (rs := [18]) (by kernel_rfl) (by simp) ?_
              refine (AllReadyH.cons (o := { dst := some 142, op := _, type := _, pos := _, after := _, guard := _ }) rfl (fun K hK => ?_) AllReadyH.nil)
              go_simp
              have hSa := Gsm.Same_eq V1 ⟨n2, k2, m2, t2⟩ ka3 kc3 ma3 mc3 ka2 kc2 ma2 mc2 HOV1.out.gl HSV1.out.l (by have := HJ2.out.kl; omega) (by have := HJ2.out.ml; omega)
              simp only [gC] at hSa
              refine hSa.mono ?_
              rintro e1 V2 ⟨rfl, hb1⟩
              clear hSa
              have HSV2 := mkH (HSV1.out.below hb1)
              have HWV2 := mkH (HWV1.out.bel hb1)
              have HGV2 := mkH (HGV1.out.bel hb1)
              have HOV2 := mkH (HOV1.out.below hb1)
              have HLV2 := mkH (HLV1.out.below hb1)
              clear hb1
              go_wp2_with fail
              refine hK.out _ _ ?_ (fun hHeld => ?_)
              · (obtain ⟨w0', w1', w2', w3', -⟩ := HWV2.out.four; obtain ⟨g0', g1', g2', g3', -⟩ := HGV2.out.four; exact ⟨w0', w1', w2', w3', HSV2.out.b.cell 4 _ rfl, g0', g1', g2', g3'⟩)
              clear hK K
              try simp only [Act.put, List.setIfInBounds_toArray, List.set_cons_zero, List.set_cons_succ]
              refine wpAnyH_take (i := 19) (oi := { dst := some 143, op := _, type := _, pos := _, after := _, guard := _ }) (v := ?_) rfl (by kernel_rfl) (by kernel_rfl) (by kernel_rfl) (fun _ _ _ h => h) (Or.inl ⟨by rfl, ?_⟩) (by assumption) ?_
              rotate_left
              · (intro W hSw; (try dsimp only at hSw); go_simp; try (with_reducible rfl))
              try simp only [Act.put, List.setIfInBounds_toArray, List.set_cons_zero, List.set_cons_succ]
              refine wpAnyH_take (i := 20) (oi := { dst := some 144, op := _, type := _, pos := _, after := _, guard := _ }) (v := ?_) rfl (by kernel_rfl) (by kernel_rfl) (by kernel_rfl) (fun _ _ _ h => h) (Or.inl ⟨by rfl, ?_⟩) (by assumption) ?_
              rotate_left
              · (intro W hSw; (try dsimp only at hSw); go_simp; try (with_reducible rfl))
              try simp only [Act.put, List.setIfInBounds_toArray, List.set_cons_zero, List.set_cons_succ]
              refine wpAnyH_take (i := 21) (oi := { dst := some 145, op := _, type := _, pos := _, after := _, guard := _ }) (v := ?_) rfl (by kernel_rfl) (by kernel_rfl) (by kernel_rfl) (fun _ _ _ h => h) (Or.inl ⟨by rfl, ?_⟩) (by assumption) ?_
              rotate_left
              · (intro W hSw; (try dsimp only at hSw); go_simp; try (with_reducible rfl))
              try simp only [Act.put, List.setIfInBounds_toArray, List.set_cons_zero, List.set_cons_succ]
              refine wpAnyH_done (by kernel_rfl) ?_ _
              go_wp2_with fail
              refine Rg.meetU _ (fun u => HK3.out () u _ ?_) (by kernel_rfl)
              exact ⟨HSV2, HGV2, HOV2, HLV2⟩
            | false =>
              refine wp_region_held_drew (S := fun W => W.cell? ⟨WS, 0, none⟩ = some (.int .i64 n2) ∧ W.cell? ⟨WS, 1, none⟩ = some (.slice ka2 k2.length kc2) ∧ W.cell? ⟨WS, 2, none⟩ = some (.slice ma2 m2.length mc2) ∧ W.cell? ⟨WS, 3, none⟩ = some (.string t2) ∧ W.cell? ⟨B, 4, none⟩ = some (.int .i64 nw) ∧ W.cell? ⟨G1, 0, none⟩ = some (.int .i64 n3) ∧ W.cell? ⟨G1, 1, none⟩ = some (.slice ka3 k3.length kc3) ∧ W.cell? ⟨G1, 2, none⟩ = some (.slice ma3 m3.length mc3) ∧ W.cell? ⟨G1, 3, none⟩ = some (.string t3)) hmx ?_ (fun hHeld => ?_)
              · (obtain ⟨w0', w1', w2', w3', -⟩ := HW6.out.four; obtain ⟨g0', g1', g2', g3', -⟩ := HG6.out.four; exact ⟨w0', w1', w2', w3', HS6.out.b.cell 4 _ rfl, g0', g1', g2', g3'⟩)
              have HSV0 := mkH (HS6.out.below (below_drew _))
              have HWV0 := mkH (HW6.out.bel (below_drew _))
              have HGV0 := mkH (HG6.out.bel (below_drew _))
              have HOV0 := mkH (HO6.out.below (below_drew _))
              have HLV0 := mkH (HL6.out.below (below_drew _))
              generalize wc.drew = V0 at *
              refine wpAnyH_take (i := 0) (oi := { dst := some 124, op := _, type := _, pos := _, after := _, guard := _ }) (v := ?_) rfl (by kernel_rfl) (by kernel_rfl) (by kernel_rfl) (fun _ _ _ h => h) (Or.inl ⟨by rfl, ?_⟩) (by assumption) ?_
              rotate_left
              · (intro W hSw; (try dsimp only at hSw); go_simp; try (with_reducible rfl))
              try simp only [Act.put, List.setIfInBounds_toArray, List.set_cons_zero, List.set_cons_succ]
              refine wpAnyH_take (i := 1) (oi := { dst := some 125, op := _, type := _, pos := _, after := _, guard := _ }) (v := ?_) rfl (by kernel_rfl) (by kernel_rfl) (by kernel_rfl) (fun _ _ _ h => h) (Or.inl ⟨by rfl, ?_⟩) (by assumption) ?_
              rotate_left
              · (intro W hSw; (try dsimp only at hSw); go_simp; try (with_reducible rfl))
              try simp only [Act.put, List.setIfInBounds_toArray, List.set_cons_zero, List.set_cons_succ]
              refine wpAnyH_take (i := 2) (oi := { dst := some 126, op := _, type := _, pos := _, after := _, guard := _ }) (v := ?_) rfl (by kernel_rfl) (by kernel_rfl) (by kernel_rfl) (fun _ _ _ h => h) (Or.inl ⟨by rfl, ?_⟩) (by assumption) ?_
              rotate_left
              · (intro W hSw; (try dsimp only at hSw); go_simp; try (with_reducible rfl))
              try simp only [Act.put, List.setIfInBounds_toArray, List.set_cons_zero, List.set_cons_succ]
              refine wpAnyH_take (i := 3) (oi := { dst := some 127, op := _, type := _, pos := _, after := _, guard := _ }) (v := ?_) rfl (by kernel_rfl) (by kernel_rfl) (by kernel_rfl) (fun _ _ _ h => h) (Or.inl ⟨by rfl, ?_⟩) (by assumption) ?_
              rotate_left
              · (intro W hSw; (try dsimp only at hSw); go_simp; try (with_reducible rfl))
              try simp only [Act.put, List.setIfInBounds_toArray, List.set_cons_zero, List.set_cons_succ]
              refine wpAnyH_take (i := 4) (oi := { dst := some 128, op := _, type := _, pos := _, after := _, guard := _ }) (v := ?_) rfl (by kernel_rfl) (by kernel_rfl) (by kernel_rfl) (fun _ _ _ h => h) (Or.inl ⟨by rfl, ?_⟩) (by assumption) ?_
              rotate_left
              · (intro W hSw; (try dsimp only at hSw); go_simp; try (with_reducible rfl))
              try simp only [Act.put, List.setIfInBounds_toArray, List.set_cons_zero, List.set_cons_succ]
              refine wpAnyH_ready (rs := [5]) (by kernel_rfl) (by simp) ?_
              refine (AllReadyH.cons (o := { dst := some 129, op := _, type := _, pos := _, after := _, guard := _ }) rfl (fun K hK => ?_) AllReadyH.nil)
              go_simp
              have hfa := Flying_any V0 ⟨n2, k2, m2, t2⟩ ka2 kc2 ma2 mc2 HSV0.out.l (by have := HJ2.out.kl; omega) nw
              rw [hfl] at hfa
              simp only [gC] at hfa
              refine hfa.mono ?_
              rintro e1 V1 ⟨rfl, hb1⟩
              clear hfa
              have HSV1 := mkH (HSV0.out.below hb1)
              have HWV1 := mkH (HWV0.out.bel hb1)
              have HGV1 := mkH (HGV0.out.bel hb1)
              have HOV1 := mkH (HOV0.out.below hb1)
              have HLV1 := mkH (HLV0.out.below hb1)
              clear hb1
              go_wp2_with fail
              refine hK.out _ _ ?_ (fun hHeld => ?_)
              · (obtain ⟨w0', w1', w2', w3', -⟩ := HWV1.out.four; obtain ⟨g0', g1', g2', g3', -⟩ := HGV1.out.four; exact ⟨w0', w1', w2', w3', HSV1.out.b.cell 4 _ rfl, g0', g1', g2', g3'⟩)
              clear hK K
              try simp only [Act.put, List.setIfInBounds_toArray, List.set_cons_zero, List.set_cons_succ]
              refine wpAnyH_take (i := 6) (oi := { dst := some 130, op := _, type := _, pos := _, after := _, guard := _ }) (v := ?_) rfl (by kernel_rfl) (by kernel_rfl) (by kernel_rfl) (fun _ _ _ h => h) (Or.inl ⟨by rfl, ?_⟩) (by assumption) ?_
              rotate_left
              · (intro W hSw; (try dsimp only at hSw); go_simp; try (with_reducible rfl))
              try simp only [Act.put, List.setIfInBounds_toArray, List.set_cons_zero, List.set_cons_succ]
              refine wpAnyH_take (i := 7) (oi := { dst := some 131, op := _, type := _, pos := _, after := _, guard := _ }) (v := undef) rfl (by kernel_rfl) (by kernel_rfl) (by kernel_rfl) (fun _ _ _ h => h) (Or.inr ⟨by rfl, rfl⟩) (by assumption) ?_
              try simp only [Act.put, List.setIfInBounds_toArray, List.set_cons_zero, List.set_cons_succ]
              refine wpAnyH_take (i := 8) (oi := { dst := some 132, op := _, type := _, pos := _, after := _, guard := _ }) (v := undef) rfl (by kernel_rfl) (by kernel_rfl) (by kernel_rfl) (fun _ _ _ h => h) (Or.inr ⟨by rfl, rfl⟩) (by assumption) ?_
              try simp only [Act.put, List.setIfInBounds_toArray, List.set_cons_zero, List.set_cons_succ]
              refine wpAnyH_take (i := 9) (oi := { dst := some 133, op := _, type := _, pos := _, after := _, guard := _ }) (v := undef) rfl (by kernel_rfl) (by kernel_rfl) (by kernel_rfl) (fun _ _ _ h => h) (Or.inr ⟨by rfl, rfl⟩) (by assumption) ?_
              try simp only [Act.put, List.setIfInBounds_toArray, List.set_cons_zero, List.set_cons_succ]
              refine wpAnyH_take (i := 10) (oi := { dst := some 134, op := _, type := _, pos := _, after := _, guard := _ }) (v := undef) rfl (by kernel_rfl) (by kernel_rfl) (by kernel_rfl) (fun _ _ _ h => h) (Or.inr ⟨by rfl, rfl⟩) (by assumption) ?_
              try simp only [Act.put, List.setIfInBounds_toArray, List.set_cons_zero, List.set_cons_succ]
              refine wpAnyH_take (i := 11) (oi := { dst := some 135, op := _, type := _, pos := _, after := _, guard := _ }) (v := undef) rfl (by kernel_rfl) (by kernel_rfl) (by kernel_rfl) (fun _ _ _ h => h) (Or.inr ⟨by rfl, rfl⟩) (by assumption) ?_
              try simp only [Act.put, List.setIfInBounds_toArray, List.set_cons_zero, List.set_cons_succ]
              refine wpAnyH_take (i := 12) (oi := { dst := some 136, op := _, type := _, pos := _, after := _, guard := _ }) (v := undef) rfl (by kernel_rfl) (by kernel_rfl) (by kernel_rfl) (fun _ _ _ h => h) (Or.inr ⟨by rfl, rfl⟩) (by assumption) ?_
              try simp only [Act.put, List.setIfInBounds_toArray, List.set_cons_zero, List.set_cons_succ]
              refine wpAnyH_take (i := 13) (oi := { dst := some 137, op := _, type := _, pos := _, after := _, guard := _ }) (v := undef) rfl (by kernel_rfl) (by kernel_rfl) (by kernel_rfl) (fun _ _ _ h => h) (Or.inr ⟨by rfl, rfl⟩) (by assumption) ?_
              try simp only [Act.put, List.setIfInBounds_toArray, List.set_cons_zero, List.set_cons_succ]
              refine wpAnyH_take (i := 14) (oi := { dst := some 138, op := _, type := _, pos := _, after := _, guard := _ }) (v := undef) rfl (by kernel_rfl) (by kernel_rfl) (by kernel_rfl) (fun _ _ _ h => h) (Or.inr ⟨by rfl, rfl⟩) (by assumption) ?_
              try simp only [Act.put, List.setIfInBounds_toArray, List.set_cons_zero, List.set_cons_succ]
              refine wpAnyH_take (i := 15) (oi := { dst := some 139, op := _, type := _, pos := _, after := _, guard := _ }) (v := undef) rfl (by kernel_rfl) (by kernel_rfl) (by kernel_rfl) (fun _ _ _ h => h) (Or.inr ⟨by rfl, rfl⟩) (by assumption) ?_
              try simp only [Act.put, List.setIfInBounds_toArray, List.set_cons_zero, List.set_cons_succ]
              refine wpAnyH_take (i := 16) (oi := { dst := some 140, op := _, type := _, pos := _, after := _, guard := _ }) (v := undef) rfl (by kernel_rfl) (by kernel_rfl) (by kernel_rfl) (fun _ _ _ h => h) (Or.inr ⟨by rfl, rfl⟩) (by assumption) ?_
              try simp only [Act.put, List.setIfInBounds_toArray, List.set_cons_zero, List.set_cons_succ]
              refine wpAnyH_take (i := 17) (oi := { dst := some 141, op := _, type := _, pos := _, after := _, guard := _ }) (v := undef) rfl (by kernel_rfl) (by kernel_rfl) (by kernel_rfl) (fun _ _ _ h => h) (Or.inr ⟨by rfl, rfl⟩) (by assumption) ?_
              try simp only [Act.put, List.setIfInBounds_toArray, List.set_cons_zero, List.set_cons_succ]
              refine wpAnyH_take (i := 18) (oi := { dst := some 142, op := _, type := _, pos := _, after := _, guard := _ }) (v := undef) rfl (by kernel_rfl) (by kernel_rfl) (by kernel_rfl) (fun _ _ _ h => h) (Or.inr ⟨by rfl, rfl⟩) (by assumption) ?_
              try simp only [Act.put, List.setIfInBounds_toArray, List.set_cons_zero, List.set_cons_succ]
              refine wpAnyH_take (i := 19) (oi := { dst := some 143, op := _, type := _, pos := _, after := _, guard := _ }) (v := undef) rfl (by kernel_rfl) (by kernel_rfl) (by kernel_rfl) (fun _ _ _ h => h) (Or.inr ⟨by rfl, rfl⟩) (by assumption) ?_
              try simp only [Act.put, List.setIfInBounds_toArray, List.set_cons_zero, List.set_cons_succ]
              refine wpAnyH_take (i := 20) (oi := { dst := some 144, op := _, type := _, pos := _, after := _, guard := _ }) (v := undef) rfl (by kernel_rfl) (by kernel_rfl) (by kernel_rfl) (fun _ _ _ h => h) (Or.inr ⟨by rfl, rfl⟩) (by assumption) ?_
              try simp only [Act.put, List.setIfInBounds_toArray, List.set_cons_zero, List.set_cons_succ]
              refine wpAnyH_take (i := 21) (oi := { dst := some 145, op := _, type := _, pos := _, after := _, guard := _ }) (v := ?_) rfl (by kernel_rfl) (by kernel_rfl) (by kernel_rfl) (fun _ _ _ h => h) (Or.inl ⟨by rfl, ?_⟩) (by assumption) ?_
              rotate_left
              · (intro W hSw; (try dsimp only at hSw); go_simp; try (with_reducible rfl))
              try simp only [Act.put, List.setIfInBounds_toArray, List.set_cons_zero, List.set_cons_succ]
              refine wpAnyH_done (by kernel_rfl) ?_ _
              go_wp2_with fail
              refine Rg.meetU _ (fun u => HK3.out () u _ ?_) (by kernel_rfl)
              exact ⟨HSV1, HGV1, HOV1, HLV1⟩
          case rest3 =>
            rintro - u W7 ⟨HS7, HG7, HO7, HL7⟩
            clear HS6 HG6 HW6 HO6 HL6 HFS
            go_upto_block 3 with fail
            refine Rg.cutU (β := Unit) (fun _ u => #[.slice (some ⟨ba, off, none⟩) acts.length cap, .int .i64 mo, .int .i64 ro, u 3, u 4, u 5, u 6, .pointer (some ⟨B, 0, none⟩), .int .i64 (k : Int), u 9, u 10, .pointer (some ⟨G1, 0, none⟩), .slice da gt.length dc, u 13, u 14, u 15, u 16, u 17, u 18, u 19, u 20, u 21, u 22, u 23, u 24, u 25, u 26, u 27, u 28, u 29, u 30, u 31, u 32, u 33, u 34, u 35, u 36, u 37, u 38, u 39, u 40, u 41, u 42, u 43, u 44, u 45, u 46, u 47, u 48, u 49, u 50, u 51, u 52, u 53, u 54, u 55, u 56, u 57, u 58, u 59, u 60, u 61, u 62, u 63, u 64, u 65, u 66, u 67, u 68, u 69, u 70, u 71, u 72, u 73, u 74, u 75, u 76, u 77, u 78, u 79, u 80, u 81, u 82, u 83, u 84, u 85, u 86, u 87, u 88, u 89, u 90, u 91, u 92, u 93, u 94, u 95, u 96, u 97, u 98, u 99, u 100, u 101, u 102, u 103, u 104, u 105, u 106, u 107, u 108, u 109, u 110, u 111, u 112, u 113, u 114, u 115, u 116, u 117, u 118, u 119, u 120, u 121, u 122, u 123, u 124, u 125, u 126, u 127, u 128, u 129, u 130, u 131, u 132, u 133, u 134, u 135, u 136, u 137, u 138, u 139, u 140, u 141, u 142, u 143, u 144, u 145, u 146, u 147, u 148, u 149, u 150, u 151, u 152, u 153, u 154, u 155, u 156, u 157, u 158, u 159, u 160, u 161, u 162, u 163, u 164, u 165, u 166, u 167, u 168, u 169, u 170, u 171, u 172, u 173, u 174, u 175, u 176, u 177, u 178, u 179, u 180, u 181, u 182, u 183, u 184, u 185, u 186, u 187, u 188, u 189, u 190, u 191, u 192, u 193, u 194, u 195, u 196, u 197, u 198, u 199, u 200, u 201, u 202, u 203, u 204, u 205, u 206, u 207, u 208, u 209, u 210, u 211, u 212, u 213, u 214, u 215, u 216, u 217, u 218, u 219, u 220, u 221, u 222, u 223, u 224, u 225, u 226, u 227, u 228, u 229, u 230, u 231, u 232, u 233, u 234, u 235, u 236, u 237, u 238, u 239, u 240, u 241, u 242, u 243, u 244, u 245, u 246, u 247, u 248, u 249, u 250, u 251, u 252, u 253, u 254, u 255, u 256, u 257, u 258, u 259, u 260, u 261, u 262, u 263, u 264, u 265, u 266, u 267, u 268, u 269, u 270, u 271, u 272, u 273, u 274, u 275, u 276, u 277, u 278, u 279, u 280, u 281, u 282, u 283, u 284, u 285, u 286, u 287, u 288, u 289, u 290, u 291, u 292, u 293, u 294, u 295, u 296, u 297, u 298, u 299, u 300, u 301, u 302, u 303, u 304, u 305, u 306, u 307, u 308, u 309, u 310, u 311, u 312, u 313, u 314, u 315]) (fun _ WW => Hid (Below W7.heap.size W7 WW)) ?rest4 ?first4
            case first4 =>
              intro K4 HK4
              go_wp2_with fail
              refine Rg.loopU (β := Nat) (fun j u => #[.slice (some ⟨ba, off, none⟩) acts.length cap, .int .i64 mo, .int .i64 ro, u 3, u 4, u 5, u 6, .pointer (some ⟨B, 0, none⟩), .int .i64 (k : Int), u 9, u 10, .pointer (some ⟨G1, 0, none⟩), .slice da gt.length dc, u 13, u 14, u 15, u 16, u 17, u 18, u 19, u 20, u 21, u 22, u 23, u 24, u 25, u 26, u 27, u 28, u 29, u 30, u 31, u 32, u 33, u 34, u 35, u 36, u 37, u 38, u 39, u 40, u 41, u 42, u 43, u 44, u 45, u 46, u 47, u 48, u 49, u 50, u 51, u 52, u 53, u 54, u 55, u 56, u 57, u 58, u 59, u 60, u 61, u 62, u 63, u 64, u 65, u 66, u 67, u 68, u 69, u 70, u 71, u 72, u 73, u 74, u 75, u 76, u 77, u 78, u 79, u 80, u 81, u 82, u 83, u 84, u 85, u 86, u 87, u 88, u 89, u 90, u 91, u 92, u 93, u 94, u 95, u 96, u 97, u 98, u 99, u 100, u 101, u 102, u 103, u 104, u 105, u 106, u 107, u 108, u 109, u 110, u 111, u 112, u 113, u 114, u 115, u 116, u 117, u 118, u 119, u 120, u 121, u 122, u 123, u 124, u 125, u 126, u 127, u 128, u 129, u 130, u 131, u 132, u 133, u 134, u 135, u 136, u 137, u 138, u 139, u 140, u 141, u 142, u 143, u 144, u 145, u 146, .int .i64 (gt.length : Int), .int .i64 (j : Int), u 149, u 150, u 151, u 152, u 153, u 154, u 155, u 156, u 157, u 158, u 159, u 160, u 161, u 162, u 163, u 164, u 165, u 166, u 167, u 168, u 169, u 170, u 171, u 172, u 173, u 174, u 175, u 176, u 177, u 178, u 179, u 180, u 181, u 182, u 183, u 184, u 185, u 186, u 187, u 188, u 189, u 190, u 191, u 192, u 193, u 194, u 195, u 196, u 197, u 198, u 199, u 200, u 201, u 202, u 203, u 204, u 205, u 206, u 207, u 208, u 209, u 210, u 211, u 212, u 213, u 214, u 215, u 216, u 217, u 218, u 219, u 220, u 221, u 222, u 223, u 224, u 225, u 226, u 227, u 228, u 229, u 230, u 231, u 232, u 233, u 234, u 235, u 236, u 237, u 238, u 239, u 240, u 241, u 242, u 243, u 244, u 245, u 246, u 247, u 248, u 249, u 250, u 251, u 252, u 253, u 254, u 255, u 256, u 257, u 258, u 259, u 260, u 261, u 262, u 263, u 264, u 265, u 266, u 267, u 268, u 269, u 270, u 271, u 272, u 273, u 274, u 275, u 276, u 277, u 278, u 279, u 280, u 281, u 282, u 283, u 284, u 285, u 286, u 287, u 288, u 289, u 290, u 291, u 292, u 293, u 294, u 295, u 296, u 297, u 298, u 299, u 300, u 301, u 302, u 303, u 304, u 305, u 306, u 307, u 308, u 309, u 310, u 311, u 312, u 313, u 314, u 315]) (fun j WW => j ≤ gt.length ∧ Hid (Below W7.heap.size W7 WW)) (fun j => gt.length - j) 0 ?_ (by kernel_rfl) ?_
              · exact ⟨Nat.zero_le _, Below.refl _ _⟩
              · rintro j u wr ⟨hj, HB2⟩ K7 HK7
                dsimp only
                rcases Nat.lt_or_ge j gt.length with hjl | hjl
                rotate_left
                · have h2 : ¬ (j : Int) < (gt.length : Int) := by omega
                  go_wp2_with fail
                  refine Rg.meetU _ (fun u => HK4.out () u _ ?_) (by kernel_rfl)
                  exact HB2
                have h2 : (j : Int) < (gt.length : Int) := by omega
                obtain ⟨y, hy⟩ := some_of hjl
                have HY := mkH hy
                have HL8 := mkH (HL7.out.below HB2.out)
                obtain ⟨gb, goff, rfl, p0, -⟩ := atK HL8.out.r hy
                have hjd : (j : Int) ≤ (dc : Int) := by have := HL7.out.l; omega
                have hdc : (dc : Int) ≤ 9223372036854775807 := by have := HL7.out.b; omega
                clear hy
                go_upto_region 20 with fail
                refine Rg.cutU (β := Unit) (fun _ u => #[.slice (some ⟨ba, off, none⟩) acts.length cap, .int .i64 mo, .int .i64 ro, u 3, u 4, u 5, u 6, .pointer (some ⟨B, 0, none⟩), .int .i64 (k : Int), u 9, u 10, .pointer (some ⟨G1, 0, none⟩), .slice (some ⟨gb, goff, none⟩) gt.length dc, u 13, .int .i64 (j : Int), u 15, u 16, u 17, u 18, u 19, u 20, u 21, u 22, u 23, u 24, u 25, u 26, u 27, u 28, u 29, u 30, u 31, u 32, u 33, u 34, u 35, u 36, u 37, u 38, u 39, u 40, u 41, u 42, u 43, u 44, u 45, u 46, u 47, u 48, u 49, u 50, u 51, u 52, u 53, u 54, u 55, u 56, u 57, u 58, u 59, u 60, u 61, u 62, u 63, u 64, u 65, u 66, u 67, u 68, u 69, u 70, u 71, u 72, u 73, u 74, u 75, u 76, u 77, u 78, u 79, u 80, u 81, u 82, u 83, u 84, u 85, u 86, u 87, u 88, u 89, u 90, u 91, u 92, u 93, u 94, u 95, u 96, u 97, u 98, u 99, u 100, u 101, u 102, u 103, u 104, u 105, u 106, u 107, u 108, u 109, u 110, u 111, u 112, u 113, u 114, u 115, u 116, u 117, u 118, u 119, u 120, u 121, u 122, u 123, u 124, u 125, u 126, u 127, u 128, u 129, u 130, u 131, u 132, u 133, u 134, u 135, u 136, u 137, u 138, u 139, u 140, u 141, u 142, u 143, u 144, u 145, u 146, .int .i64 (gt.length : Int), .int .i64 (j : Int), u 149, u 150, u 151, u 152, u 153, u 154, u 155, u 156, u 157, u 158, u 159, u 160, u 161, u 162, u 163, u 164, u 165, .bool false, u 167, u 168, u 169, u 170, u 171, u 172, u 173, u 174, u 175, u 176, u 177, u 178, u 179, u 180, u 181, u 182, u 183, u 184, u 185, u 186, u 187, u 188, u 189, u 190, u 191, u 192, u 193, u 194, u 195, u 196, u 197, u 198, u 199, u 200, u 201, u 202, u 203, u 204, u 205, u 206, u 207, u 208, u 209, u 210, u 211, u 212, u 213, u 214, u 215, u 216, u 217, u 218, u 219, u 220, u 221, u 222, u 223, u 224, u 225, u 226, u 227, u 228, u 229, u 230, u 231, u 232, u 233, u 234, u 235, u 236, u 237, u 238, u 239, u 240, u 241, u 242, u 243, u 244, u 245, u 246, u 247, u 248, u 249, u 250, u 251, u 252, u 253, u 254, u 255, u 256, u 257, u 258, u 259, u 260, u 261, u 262, u 263, u 264, u 265, u 266, u 267, u 268, u 269, u 270, u 271, u 272, u 273, u 274, u 275, u 276, u 277, u 278, u 279, u 280, u 281, u 282, u 283, u 284, u 285, u 286, u 287, u 288, u 289, u 290, u 291, u 292, u 293, u 294, u 295, u 296, u 297, u 298, u 299, u 300, u 301, u 302, u 303, u 304, u 305, u 306, u 307, u 308, u 309, u 310, u 311, u 312, u 313, u 314, u 315]) (fun _ WW => Hid (Below W7.heap.size W7 WW)) ?rest8 ?first8
                case first8 =>
                  intro K8 HK8
                  rcases Nat.eq_zero_or_pos j with hj0 | hj0
                  · subst hj0
                    refine wp_region_held_drew (S := fun _ => True) hmx trivial (fun hHeld => ?_)
                    refine wpAnyH_take (i := 0) (oi := { dst := some 151, op := _, type := _, pos := _, after := _, guard := _ }) (v := ?_) rfl (by kernel_rfl) (by kernel_rfl) (by kernel_rfl) (fun _ _ _ h => h) (Or.inl ⟨by rfl, ?_⟩) (trivial) ?_
                    rotate_left
                    · (intro W hSw; (try dsimp only at hSw); go_simp; try (with_reducible rfl))
                    try simp only [Act.put, List.setIfInBounds_toArray, List.set_cons_zero, List.set_cons_succ]
                    refine wpAnyH_take (i := 1) (oi := { dst := some 152, op := _, type := _, pos := _, after := _, guard := _ }) (v := .bool false) rfl (by kernel_rfl) (by kernel_rfl) (by kernel_rfl) (fun _ _ _ h => h) (Or.inl ⟨by rfl, ?_⟩) (trivial) ?_
                    · (intro W hSw; (try dsimp only at hSw); (go_simp; try rfl))
                    try simp only [Act.put, List.setIfInBounds_toArray, List.set_cons_zero, List.set_cons_succ]
                    refine wpAnyH_take (i := 2) (oi := { dst := some 153, op := _, type := _, pos := _, after := _, guard := _ }) (v := ?_) rfl (by kernel_rfl) (by kernel_rfl) (by kernel_rfl) (fun _ _ _ h => h) (Or.inl ⟨by rfl, ?_⟩) (trivial) ?_
                    rotate_left
                    · (intro W hSw; (try dsimp only at hSw); go_simp; try (with_reducible rfl))
                    try simp only [Act.put, List.setIfInBounds_toArray, List.set_cons_zero, List.set_cons_succ]
                    refine wpAnyH_take (i := 3) (oi := { dst := some 154, op := _, type := _, pos := _, after := _, guard := _ }) (v := undef) rfl (by kernel_rfl) (by kernel_rfl) (by kernel_rfl) (fun _ _ _ h => h) (Or.inr ⟨by rfl, rfl⟩) (trivial) ?_
                    try simp only [Act.put, List.setIfInBounds_toArray, List.set_cons_zero, List.set_cons_succ]
                    refine wpAnyH_take (i := 4) (oi := { dst := some 155, op := _, type := _, pos := _, after := _, guard := _ }) (v := undef) rfl (by kernel_rfl) (by kernel_rfl) (by kernel_rfl) (fun _ _ _ h => h) (Or.inr ⟨by rfl, rfl⟩) (trivial) ?_
                    try simp only [Act.put, List.setIfInBounds_toArray, List.set_cons_zero, List.set_cons_succ]
                    refine wpAnyH_take (i := 5) (oi := { dst := some 156, op := _, type := _, pos := _, after := _, guard := _ }) (v := undef) rfl (by kernel_rfl) (by kernel_rfl) (by kernel_rfl) (fun _ _ _ h => h) (Or.inr ⟨by rfl, rfl⟩) (trivial) ?_
                    try simp only [Act.put, List.setIfInBounds_toArray, List.set_cons_zero, List.set_cons_succ]
                    refine wpAnyH_take (i := 6) (oi := { dst := some 157, op := _, type := _, pos := _, after := _, guard := _ }) (v := undef) rfl (by kernel_rfl) (by kernel_rfl) (by kernel_rfl) (fun _ _ _ h => h) (Or.inr ⟨by rfl, rfl⟩) (trivial) ?_
                    try simp only [Act.put, List.setIfInBounds_toArray, List.set_cons_zero, List.set_cons_succ]
                    refine wpAnyH_take (i := 7) (oi := { dst := some 158, op := _, type := _, pos := _, after := _, guard := _ }) (v := undef) rfl (by kernel_rfl) (by kernel_rfl) (by kernel_rfl) (fun _ _ _ h => h) (Or.inr ⟨by rfl, rfl⟩) (trivial) ?_
                    try simp only [Act.put, List.setIfInBounds_toArray, List.set_cons_zero, List.set_cons_succ]
                    refine wpAnyH_take (i := 8) (oi := { dst := some 159, op := _, type := _, pos := _, after := _, guard := _ }) (v := undef) rfl (by kernel_rfl) (by kernel_rfl) (by kernel_rfl) (fun _ _ _ h => h) (Or.inr ⟨by rfl, rfl⟩) (trivial) ?_
                    try simp only [Act.put, List.setIfInBounds_toArray, List.set_cons_zero, List.set_cons_succ]
                    refine wpAnyH_take (i := 9) (oi := { dst := some 160, op := _, type := _, pos := _, after := _, guard := _ }) (v := undef) rfl (by kernel_rfl) (by kernel_rfl) (by kernel_rfl) (fun _ _ _ h => h) (Or.inr ⟨by rfl, rfl⟩) (trivial) ?_
                    try simp only [Act.put, List.setIfInBounds_toArray, List.set_cons_zero, List.set_cons_succ]
                    refine wpAnyH_take (i := 10) (oi := { dst := some 161, op := _, type := _, pos := _, after := _, guard := _ }) (v := undef) rfl (by kernel_rfl) (by kernel_rfl) (by kernel_rfl) (fun _ _ _ h => h) (Or.inr ⟨by rfl, rfl⟩) (trivial) ?_
                    try simp only [Act.put, List.setIfInBounds_toArray, List.set_cons_zero, List.set_cons_succ]
                    refine wpAnyH_take (i := 11) (oi := { dst := some 162, op := _, type := _, pos := _, after := _, guard := _ }) (v := undef) rfl (by kernel_rfl) (by kernel_rfl) (by kernel_rfl) (fun _ _ _ h => h) (Or.inr ⟨by rfl, rfl⟩) (trivial) ?_
                    try simp only [Act.put, List.setIfInBounds_toArray, List.set_cons_zero, List.set_cons_succ]
                    refine wpAnyH_take (i := 12) (oi := { dst := some 163, op := _, type := _, pos := _, after := _, guard := _ }) (v := undef) rfl (by kernel_rfl) (by kernel_rfl) (by kernel_rfl) (fun _ _ _ h => h) (Or.inr ⟨by rfl, rfl⟩) (trivial) ?_
                    try simp only [Act.put, List.setIfInBounds_toArray, List.set_cons_zero, List.set_cons_succ]
                    refine wpAnyH_take (i := 13) (oi := { dst := some 164, op := _, type := _, pos := _, after := _, guard := _ }) (v := undef) rfl (by kernel_rfl) (by kernel_rfl) (by kernel_rfl) (fun _ _ _ h => h) (Or.inr ⟨by rfl, rfl⟩) (trivial) ?_
                    try simp only [Act.put, List.setIfInBounds_toArray, List.set_cons_zero, List.set_cons_succ]
                    refine wpAnyH_take (i := 14) (oi := { dst := some 165, op := _, type := _, pos := _, after := _, guard := _ }) (v := undef) rfl (by kernel_rfl) (by kernel_rfl) (by kernel_rfl) (fun _ _ _ h => h) (Or.inr ⟨by rfl, rfl⟩) (trivial) ?_
                    try simp only [Act.put, List.setIfInBounds_toArray, List.set_cons_zero, List.set_cons_succ]
                    refine wpAnyH_take (i := 15) (oi := { dst := some 166, op := _, type := _, pos := _, after := _, guard := _ }) (v := ?_) rfl (by kernel_rfl) (by kernel_rfl) (by kernel_rfl) (fun _ _ _ h => h) (Or.inl ⟨by rfl, ?_⟩) (trivial) ?_
                    rotate_left
                    · (intro W hSw; (try dsimp only at hSw); go_simp; try (with_reducible rfl))
                    try simp only [Act.put, List.setIfInBounds_toArray, List.set_cons_zero, List.set_cons_succ]
                    refine wpAnyH_done (by kernel_rfl) ?_ _
                    go_wp2_with fail
                    refine Rg.meetU _ (fun u => HK8.out () u _ ?_) (by kernel_rfl)
                    exact HB2.out.trans ((below_drew wr).mono HB2.out.size)
                  · obtain ⟨i, rfl⟩ : ∃ i, j = i + 1 := ⟨j - 1, by omega⟩
                    obtain ⟨z, hz⟩ := some_of (l := gt) (i := i) (by omega)
                    have hlt := got_lt HRI.out hz HY.out
                    obtain ⟨gb', goff', he, p1, -⟩ := atK HL8.out.r hz
                    cases he
                    have hle : decide (y.seq ≤ z.seq) = false := by simp; omega
                    have hle2 : ¬ y.seq ≤ z.seq := by omega
                    have hi0 : (0 : Int) < ((i + 1 : Nat) : Int) := by omega
                    have hi1 : ((i + 1 : Nat) : Int) - 1 = (i : Int) := by omega
                    have hi2 : (i : Int) < (gt.length : Int) := by omega
                    generalize y.seq = ys at *
                    generalize z.seq = zs at *
                    clear hz hlt
                    go_quiet (fail)
                    have hbd : Below wr.heap.size wr (wr.drewN nq) := ⟨rfl, rfl, rfl, Nat.le_refl _, fun _ _ => rfl⟩
                    go_wp2_with fail
                    refine Rg.meetU _ (fun u => HK8.out () u _ ?_) (by kernel_rfl)
                    exact HB2.out.trans (hbd.mono HB2.out.size)
                case rest8 =>
                  rintro - u W8 HB8
                  clear HB2 HL8 p0
                  have HG8 := mkH (HG7.out.bel HB8.out)
                  have g1 : W8.cell? ⟨G1, 1, none⟩ = some (.slice ka3 k3.length kc3) := HG8.out.cell 1 _ rfl
                  go_wp2_with fail
                  refine Rg.loopU (β := Nat) (fun m u => #[.slice (some ⟨ba, off, none⟩) acts.length cap, .int .i64 mo, .int .i64 ro, u 3, u 4, u 5, u 6, .pointer (some ⟨B, 0, none⟩), .int .i64 (k : Int), u 9, u 10, .pointer (some ⟨G1, 0, none⟩), .slice (some ⟨gb, goff, none⟩) gt.length dc, u 13, .int .i64 (j : Int), u 15, u 16, u 17, u 18, u 19, u 20, u 21, u 22, u 23, u 24, u 25, u 26, u 27, u 28, u 29, u 30, u 31, u 32, u 33, u 34, u 35, u 36, u 37, u 38, u 39, u 40, u 41, u 42, u 43, u 44, u 45, u 46, u 47, u 48, u 49, u 50, u 51, u 52, u 53, u 54, u 55, u 56, u 57, u 58, u 59, u 60, u 61, u 62, u 63, u 64, u 65, u 66, u 67, u 68, u 69, u 70, u 71, u 72, u 73, u 74, u 75, u 76, u 77, u 78, u 79, u 80, u 81, u 82, u 83, u 84, u 85, u 86, u 87, u 88, u 89, u 90, u 91, u 92, u 93, u 94, u 95, u 96, u 97, u 98, u 99, u 100, u 101, u 102, u 103, u 104, u 105, u 106, u 107, u 108, u 109, u 110, u 111, u 112, u 113, u 114, u 115, u 116, u 117, u 118, u 119, u 120, u 121, u 122, u 123, u 124, u 125, u 126, u 127, u 128, u 129, u 130, u 131, u 132, u 133, u 134, u 135, u 136, u 137, u 138, u 139, u 140, u 141, u 142, u 143, u 144, u 145, u 146, .int .i64 (gt.length : Int), .int .i64 (j : Int), u 149, u 150, u 151, u 152, u 153, u 154, u 155, u 156, u 157, u 158, u 159, u 160, u 161, u 162, u 163, u 164, u 165, u 166, u 167, .slice ka3 k3.length kc3, .int .i64 (k3.length : Int), .int .i64 (m : Int), u 171, u 172, u 173, u 174, u 175, u 176, u 177, u 178, u 179, u 180, u 181, u 182, u 183, u 184, u 185, u 186, u 187, u 188, u 189, u 190, u 191, u 192, u 193, u 194, u 195, u 196, u 197, u 198, u 199, u 200, u 201, u 202, u 203, u 204, u 205, u 206, u 207, u 208, u 209, u 210, u 211, u 212, u 213, u 214, u 215, u 216, u 217, u 218, u 219, u 220, u 221, u 222, u 223, u 224, u 225, u 226, u 227, u 228, u 229, u 230, u 231, u 232, u 233, u 234, u 235, u 236, u 237, u 238, u 239, u 240, u 241, u 242, u 243, u 244, u 245, u 246, u 247, u 248, u 249, u 250, u 251, u 252, u 253, u 254, u 255, u 256, u 257, u 258, u 259, u 260, u 261, u 262, u 263, u 264, u 265, u 266, u 267, u 268, u 269, u 270, u 271, u 272, u 273, u 274, u 275, u 276, u 277, u 278, u 279, u 280, u 281, u 282, u 283, u 284, u 285, u 286, u 287, u 288, u 289, u 290, u 291, u 292, u 293, u 294, u 295, u 296, u 297, u 298, u 299, u 300, u 301, u 302, u 303, u 304, u 305, u 306, u 307, u 308, u 309, u 310, u 311, u 312, u 313, u 314, u 315]) (fun m WW => m ≤ k3.length ∧ Hid (Below W7.heap.size W7 WW)) (fun m => k3.length - m) 0 ?_ (by kernel_rfl) ?_
                  · exact ⟨Nat.zero_le _, HB8⟩
                  · clear g1 HG8 HB8
                    rintro m u wr ⟨hm, HB3⟩ K9 HK9
                    dsimp only
                    rcases Nat.lt_or_ge m k3.length with hml | hml
                    rotate_left
                    · have h3 : ¬ (m : Int) < (k3.length : Int) := by omega
                      go_wp2_with fail
                      have hj1 : ((j : Int) + 1) = ((j + 1 : Nat) : Int) := by omega
                      rw [hj1]
                      refine Rg.meetU _ (fun u => HK7.out (j + 1) u _ (by omega) ?_) (by kernel_rfl)
                      exact ⟨by omega, HB3⟩
                    have h3 : (m : Int) < (k3.length : Int) := by omega
                    obtain ⟨x, hx⟩ := some_of hml
                    have HX := mkH hx
                    have HO9 := mkH (HO7.out.below HB3.out)
                    obtain ⟨kb, koff, rfl, x0, x1, x2, x3, x4, x5⟩ := atK HO9.out.gl.k hx
                    obtain ⟨ms, mn, mcn, mt, mf, mb⟩ := x
                    simp only at x0 x1 x2 x3 x4 x5
                    clear hx
                    have hal : Below wr.heap.size wr (wr.alloc (.cells #[Value.int .i64 ms, .int .i64 mn, .int .i64 mcn, .int .i64 mt, .int .i64 mf, .string mb] 61)) := (Below.refl _ wr).alloc (Nat.le_refl _) _
                    have HM := mkH (Bx.new wr #[Value.int .i64 ms, .int .i64 mn, .int .i64 mcn, .int .i64 mt, .int .i64 mf, .string mb] 61)
                    have HB4 := mkH (HB3.out.trans (hal.mono HB3.out.size))
                    clear hal
                    go_wp2_with fail
                    generalize wr.alloc (.cells #[Value.int .i64 ms, .int .i64 mn, .int .i64 mcn, .int .i64 mt, .int .i64 mf, .string mb] 61) = W9 at *
                    generalize wr.heap.size = M1 at *
                    clear x0 x1 x2 x3 x4 x5 HB3 HO9
                    refine Rg.loopU (β := Nat × Bool) (fun b u => #[.slice (some ⟨ba, off, none⟩) acts.length cap, .int .i64 mo, .int .i64 ro, u 3, u 4, u 5, u 6, .pointer (some ⟨B, 0, none⟩), .int .i64 (k : Int), u 9, u 10, .pointer (some ⟨G1, 0, none⟩), .slice (some ⟨gb, goff, none⟩) gt.length dc, u 13, .int .i64 (j : Int), u 15, .pointer (some ⟨M1, 0, none⟩), .bool b.2, u 18, u 19, u 20, u 21, u 22, u 23, u 24, u 25, u 26, u 27, u 28, u 29, u 30, u 31, u 32, u 33, u 34, u 35, u 36, u 37, u 38, u 39, u 40, u 41, u 42, u 43, u 44, u 45, u 46, u 47, u 48, u 49, u 50, u 51, u 52, u 53, u 54, u 55, u 56, u 57, u 58, u 59, u 60, u 61, u 62, u 63, u 64, u 65, u 66, u 67, u 68, u 69, u 70, u 71, u 72, u 73, u 74, u 75, u 76, u 77, u 78, u 79, u 80, u 81, u 82, u 83, u 84, u 85, u 86, u 87, u 88, u 89, u 90, u 91, u 92, u 93, u 94, u 95, u 96, u 97, u 98, u 99, u 100, u 101, u 102, u 103, u 104, u 105, u 106, u 107, u 108, u 109, u 110, u 111, u 112, u 113, u 114, u 115, u 116, u 117, u 118, u 119, u 120, u 121, u 122, u 123, u 124, u 125, u 126, u 127, u 128, u 129, u 130, u 131, u 132, u 133, u 134, u 135, u 136, u 137, u 138, u 139, u 140, u 141, u 142, u 143, u 144, u 145, u 146, .int .i64 (gt.length : Int), .int .i64 (j : Int), u 149, u 150, u 151, u 152, u 153, u 154, u 155, u 156, u 157, u 158, u 159, u 160, u 161, u 162, u 163, u 164, u 165, u 166, u 167, .slice (some ⟨kb, koff, none⟩) k3.length kc3, .int .i64 (k3.length : Int), .int .i64 (m : Int), u 171, u 172, u 173, u 174, u 175, .slice (some ⟨gb, goff, none⟩) j dc, .int .i64 (j : Int), .int .i64 (b.1 : Int), u 179, u 180, u 181, u 182, u 183, u 184, u 185, u 186, u 187, u 188, u 189, u 190, u 191, u 192, u 193, u 194, u 195, u 196, u 197, u 198, u 199, u 200, u 201, u 202, u 203, u 204, u 205, u 206, u 207, u 208, u 209, u 210, u 211, u 212, u 213, u 214, u 215, u 216, u 217, u 218, u 219, u 220, u 221, u 222, u 223, u 224, u 225, u 226, u 227, u 228, u 229, u 230, u 231, u 232, u 233, u 234, u 235, u 236, u 237, u 238, u 239, u 240, u 241, u 242, u 243, u 244, u 245, u 246, u 247, u 248, u 249, u 250, u 251, u 252, u 253, u 254, u 255, u 256, u 257, u 258, u 259, u 260, u 261, u 262, u 263, u 264, u 265, u 266, u 267, u 268, u 269, u 270, u 271, u 272, u 273, u 274, u 275, u 276, u 277, u 278, u 279, u 280, u 281, u 282, u 283, u 284, u 285, u 286, u 287, u 288, u 289, u 290, u 291, u 292, u 293, u 294, u 295, u 296, u 297, u 298, u 299, u 300, u 301, u 302, u 303, u 304, u 305, u 306, u 307, u 308, u 309, u 310, u 311, u 312, u 313, u 314, u 315]) (fun b WW => b.1 ≤ j ∧ Hid (b.2 = (gt.take b.1).any (fun x => decide (x.seq = ms))) ∧ Hid (Below W9.heap.size W9 WW)) (fun b => j - b.1) (0, false) ?_ (by kernel_rfl) ?_
                    · exact ⟨Nat.zero_le _, by rfl, Below.refl _ _⟩
                    · rintro ⟨p, b⟩ u wr ⟨hp, HBb, HB5⟩ K10 HK10
                      dsimp only at hp HBb ⊢
                      have HM5 := mkH (HM.out.bel HB5.out)
                      have HB6 : Hid (Below W7.heap.size W7 wr) := HB4.out.trans (HB5.out.mono HB4.out.size)
                      have HL9 := mkH (HL7.out.below HB6.out)
                      rcases Nat.lt_or_ge p j with hpj | hpj
                      · have h4 : (p : Int) < (j : Int) := by omega
                        obtain ⟨z, hz⟩ := some_of (l := gt) (i := p) (by omega)
                        have HE := mkH (any_snoc (ms := ms) hz)
                        obtain ⟨gb', goff', he, z0, z1, z2, z3, z4, z5⟩ := atK HL9.out.r hz
                        cases he
                        obtain ⟨zs, zn, zc, zt, zf, zb⟩ := z
                        simp only at z0 z1 z2 z3 z4 z5 HE
                        clear hz
                        have hal : Below wr.heap.size wr (wr.alloc (.cells #[Value.int .i64 zs, .int .i64 zn, .int .i64 zc, .int .i64 zt, .int .i64 zf, .string zb] 61)) := (Below.refl _ wr).alloc (Nat.le_refl _) _
                        have q0 : (wr.alloc (.cells #[Value.int .i64 zs, .int .i64 zn, .int .i64 zc, .int .i64 zt, .int .i64 zf, .string zb] 61)).cell? ⟨M1, 0, none⟩ = some (.int .i64 ms) := (HM5.out.bel hal).cell 0 _ rfl
                        have HB7 := mkH (HB5.out.trans (hal.mono HB5.out.size))
                        have hM1 := HM5.out.lt
                        have hM2 : ¬ M1 = wr.heap.size := by omega
                        clear hal
                        cases b with
                        | true =>
                          go_wp2_with fail
                          have hp1 : ((p : Int) + 1) = ((p + 1 : Nat) : Int) := by omega
                          (try rw [hp1])
                          refine Rg.meetU _ (fun u => HK10.out (p + 1, true) u _ (by dsimp only; omega) ?_) (by kernel_rfl)
                          exact ⟨by dsimp only; omega, by unfold Hid; dsimp only; rw [HE.out, ← HBb.out]; rfl, HB7⟩
                        | false =>
                          by_cases hzm : zs = ms
                          · subst hzm
                            have hzb : (zs == zs) = true := by simp
                            go_wp2_with fail
                            have hp1 : ((p : Int) + 1) = ((p + 1 : Nat) : Int) := by omega
                            (try rw [hp1])
                            refine Rg.meetU _ (fun u => HK10.out (p + 1, true) u _ (by dsimp only; omega) ?_) (by kernel_rfl)
                            exact ⟨by dsimp only; omega, by unfold Hid; dsimp only; rw [HE.out, ← HBb.out]; simp, HB7⟩
                          · have hzb : (zs == ms) = false := by simpa using hzm
                            go_wp2_with fail
                            have hp1 : ((p : Int) + 1) = ((p + 1 : Nat) : Int) := by omega
                            (try rw [hp1])
                            refine Rg.meetU _ (fun u => HK10.out (p + 1, false) u _ (by dsimp only; omega) ?_) (by kernel_rfl)
                            exact ⟨by dsimp only; omega, by unfold Hid; dsimp only; rw [HE.out, ← HBb.out]; simp [hzm], HB7⟩
                      · obtain rfl : p = j := by omega
                        have h4 : ¬ (p : Int) < (p : Int) := by omega
                        obtain ⟨gb', goff', he, y0, -⟩ := atK HL9.out.r HY.out
                        cases he
                        have q0 : wr.cell? ⟨M1, 0, none⟩ = some (.int .i64 ms) := HM5.out.cell 0 _ rfl
                        have hmem : (⟨ms, mn, mcn, mt, mf, mb⟩ : K) ∈ k3 := List.mem_of_getElem? HX.out
                        by_cases hlt : ms < y.seq
                        · have hbt : b = true := HBb.out.trans (here_true HRI.out HY.out hmem hlt)
                          subst hbt
                          have hlt2 : decide (ms < y.seq) = true := by simpa using hlt
                          generalize y.seq = ys at *
                          go_upto_region 31 with fail
                          go_quiet (fail)
                          have hbd : Below wr.heap.size wr (wr.drewN nq) := ⟨rfl, rfl, rfl, Nat.le_refl _, fun _ _ => rfl⟩
                          go_wp2_with fail
                          have hm1 : ((m : Int) + 1) = ((m + 1 : Nat) : Int) := by omega
                          (try rw [hm1])
                          refine Rg.meetU _ (fun u => HK9.out (m + 1) u _ (by omega) ?_) (by kernel_rfl)
                          exact ⟨by omega, HB6.out.trans (hbd.mono HB6.out.size)⟩
                        · have hlt2 : decide (ms < y.seq) = false := by simpa using hlt
                          generalize y.seq = ys at *
                          go_upto_region 31 with fail
                          refine wp_region_held_drew (S := fun W => W.cell? ⟨M1, 0, none⟩ = some (.int .i64 ms) ∧ W.cell? ⟨gb, goff + p * 6, none⟩ = some (.int .i64 ys)) hmx ⟨q0, y0⟩ (fun hHeld => ?_)
                          refine wpAnyH_take (i := 0) (oi := { dst := some 191, op := _, type := _, pos := _, after := _, guard := _ }) (v := ?_) rfl (by kernel_rfl) (by kernel_rfl) (by kernel_rfl) (fun _ _ _ h => h) (Or.inl ⟨by rfl, ?_⟩) (by assumption) ?_
                          rotate_left
                          · (intro W hSw; (try dsimp only at hSw); go_simp; try (with_reducible rfl))
                          try simp only [Act.put, List.setIfInBounds_toArray, List.set_cons_zero, List.set_cons_succ]
                          refine wpAnyH_take (i := 1) (oi := { dst := some 192, op := _, type := _, pos := _, after := _, guard := _ }) (v := ?_) rfl (by kernel_rfl) (by kernel_rfl) (by kernel_rfl) (fun _ _ _ h => h) (Or.inl ⟨by rfl, ?_⟩) (by assumption) ?_
                          rotate_left
                          · (intro W hSw; (try dsimp only at hSw); go_simp; try (with_reducible rfl))
                          try simp only [Act.put, List.setIfInBounds_toArray, List.set_cons_zero, List.set_cons_succ]
                          refine wpAnyH_take (i := 2) (oi := { dst := some 193, op := _, type := _, pos := _, after := _, guard := _ }) (v := ?_) rfl (by kernel_rfl) (by kernel_rfl) (by kernel_rfl) (fun _ _ _ h => h) (Or.inl ⟨by rfl, ?_⟩) (by assumption) ?_
                          rotate_left
                          · (intro W hSw; (try dsimp only at hSw); go_simp; try (with_reducible rfl))
                          try simp only [Act.put, List.setIfInBounds_toArray, List.set_cons_zero, List.set_cons_succ]
                          refine wpAnyH_take (i := 3) (oi := { dst := some 194, op := _, type := _, pos := _, after := _, guard := _ }) (v := ?_) rfl (by kernel_rfl) (by kernel_rfl) (by kernel_rfl) (fun _ _ _ h => h) (Or.inl ⟨by rfl, ?_⟩) (by assumption) ?_
                          rotate_left
                          · (intro W hSw; (try dsimp only at hSw); go_simp; try (with_reducible rfl))
                          try simp only [Act.put, List.setIfInBounds_toArray, List.set_cons_zero, List.set_cons_succ]
                          refine wpAnyH_take (i := 4) (oi := { dst := some 195, op := _, type := _, pos := _, after := _, guard := _ }) (v := ?_) rfl (by kernel_rfl) (by kernel_rfl) (by kernel_rfl) (fun _ _ _ h => h) (Or.inl ⟨by rfl, ?_⟩) (by assumption) ?_
                          rotate_left
                          · (intro W hSw; (try dsimp only at hSw); go_simp; try (with_reducible rfl))
                          try simp only [Act.put, List.setIfInBounds_toArray, List.set_cons_zero, List.set_cons_succ]
                          refine wpAnyH_take (i := 5) (oi := { dst := some 196, op := _, type := _, pos := _, after := _, guard := _ }) (v := ?_) rfl (by kernel_rfl) (by kernel_rfl) (by kernel_rfl) (fun _ _ _ h => h) (Or.inl ⟨by rfl, ?_⟩) (by assumption) ?_
                          rotate_left
                          · (intro W hSw; (try dsimp only at hSw); go_simp; try (with_reducible rfl))
                          try simp only [Act.put, List.setIfInBounds_toArray, List.set_cons_zero, List.set_cons_succ]
                          refine wpAnyH_take (i := 6) (oi := { dst := some 197, op := _, type := _, pos := _, after := _, guard := _ }) (v := ?_) rfl (by kernel_rfl) (by kernel_rfl) (by kernel_rfl) (fun _ _ _ h => h) (Or.inl ⟨by rfl, ?_⟩) (by assumption) ?_
                          rotate_left
                          · (intro W hSw; (try dsimp only at hSw); go_simp; try (with_reducible rfl))
                          try simp only [Act.put, List.setIfInBounds_toArray, List.set_cons_zero, List.set_cons_succ]
                          refine wpAnyH_take (i := 7) (oi := { dst := some 198, op := _, type := _, pos := _, after := _, guard := _ }) (v := .bool false) rfl (by kernel_rfl) (by kernel_rfl) (by kernel_rfl) (fun _ _ _ h => h) (Or.inl ⟨by rfl, ?_⟩) (by assumption) ?_
                          · (intro W hSw; (try dsimp only at hSw); (go_simp; try rfl))
                          try simp only [Act.put, List.setIfInBounds_toArray, List.set_cons_zero, List.set_cons_succ]
                          refine wpAnyH_take (i := 8) (oi := { dst := some 199, op := _, type := _, pos := _, after := _, guard := _ }) (v := ?_) rfl (by kernel_rfl) (by kernel_rfl) (by kernel_rfl) (fun _ _ _ h => h) (Or.inl ⟨by rfl, ?_⟩) (by assumption) ?_
                          rotate_left
                          · (intro W hSw; (try dsimp only at hSw); go_simp; try (with_reducible rfl))
                          try simp only [Act.put, List.setIfInBounds_toArray, List.set_cons_zero, List.set_cons_succ]
                          refine wpAnyH_take (i := 9) (oi := { dst := some 200, op := _, type := _, pos := _, after := _, guard := _ }) (v := undef) rfl (by kernel_rfl) (by kernel_rfl) (by kernel_rfl) (fun _ _ _ h => h) (Or.inr ⟨by rfl, rfl⟩) (by assumption) ?_
                          try simp only [Act.put, List.setIfInBounds_toArray, List.set_cons_zero, List.set_cons_succ]
                          refine wpAnyH_take (i := 10) (oi := { dst := some 201, op := _, type := _, pos := _, after := _, guard := _ }) (v := undef) rfl (by kernel_rfl) (by kernel_rfl) (by kernel_rfl) (fun _ _ _ h => h) (Or.inr ⟨by rfl, rfl⟩) (by assumption) ?_
                          try simp only [Act.put, List.setIfInBounds_toArray, List.set_cons_zero, List.set_cons_succ]
                          refine wpAnyH_take (i := 11) (oi := { dst := some 202, op := _, type := _, pos := _, after := _, guard := _ }) (v := ?_) rfl (by kernel_rfl) (by kernel_rfl) (by kernel_rfl) (fun _ _ _ h => h) (Or.inl ⟨by rfl, ?_⟩) (by assumption) ?_
                          rotate_left
                          · (intro W hSw; (try dsimp only at hSw); go_simp; try (with_reducible rfl))
                          try simp only [Act.put, List.setIfInBounds_toArray, List.set_cons_zero, List.set_cons_succ]
                          refine wpAnyH_done (by kernel_rfl) ?_ _
                          go_wp2_with fail
                          have hm1 : ((m : Int) + 1) = ((m + 1 : Nat) : Int) := by omega
                          (try rw [hm1])
                          refine Rg.meetU _ (fun u => HK9.out (m + 1) u _ (by omega) ?_) (by kernel_rfl)
                          exact ⟨by omega, HB6.out.trans ((below_drew wr).mono HB6.out.size)⟩
            case rest4 =>
              rintro - u wc hcut
              have HS8 := mkH (HS7.out.below hcut.out)
              have HG8 := mkH (HG7.out.bel hcut.out)
              have HO8 := mkH (HO7.out.below hcut.out)
              have HL8 := mkH (HL7.out.below hcut.out)
              clear HS7 HG7 HO7 HL7
              go_upto_region 35 with fail
              refine Rg.region_G hmx 14 (fun W => W.cell? ⟨B, 5, none⟩ = some (.slice ga got.length gc) ∧ W.cell? ⟨G1, 0, none⟩ = some (.int .i64 n3) ∧ W.cell? ⟨G1, 1, none⟩ = some (.slice ka3 k3.length kc3) ∧ W.cell? ⟨G1, 2, none⟩ = some (.slice ma3 m3.length mc3) ∧ W.cell? ⟨G1, 3, none⟩ = some (.string t3)) ⟨HS8.out.b.cell 5 _ rfl, HG8.out.cell 0 _ rfl, HG8.out.cell 1 _ rfl, HG8.out.cell 2 _ rfl, HG8.out.cell 3 _ rfl⟩ (fun hHeld => ?_)
              have HSV0 := mkH (HS8.out.below (below_drew _))
              have HGV0 := mkH (HG8.out.bel (below_drew _))
              have HOV0 := mkH (HO8.out.below (below_drew _))
              have HLV0 := mkH (HL8.out.below (below_drew _))
              generalize wc.drew = V0 at *
              refine Rg.anyG_pure (i := 0) (oi := { dst := some 205, op := _, type := _, pos := _, after := _, guard := _ }) (v := ?_) rfl (by kernel_rfl) (by kernel_rfl) (by kernel_rfl) (by rfl) (fun _ _ _ h => h) (Or.inl ⟨by rfl, ?_⟩) (fun _ => by assumption) ?_
              rotate_left
              · (intro W hSw; (try dsimp only at hSw); go_simp; try (with_reducible rfl))
              try simp only [Act.put, List.setIfInBounds_toArray, List.set_cons_zero, List.set_cons_succ]
              refine Rg.anyG_pure (i := 1) (oi := { dst := some 206, op := _, type := _, pos := _, after := _, guard := _ }) (v := ?_) rfl (by kernel_rfl) (by kernel_rfl) (by kernel_rfl) (by rfl) (fun _ _ _ h => h) (Or.inl ⟨by rfl, ?_⟩) (fun _ => by assumption) ?_
              rotate_left
              · (intro W hSw; (try dsimp only at hSw); go_simp; try (with_reducible rfl))
              try simp only [Act.put, List.setIfInBounds_toArray, List.set_cons_zero, List.set_cons_succ]
              refine Rg.anyG_take (i := 2) (oi := { dst := some 207, op := _, type := _, pos := _, after := _, guard := _ }) (v := ?_) rfl (by kernel_rfl) (by kernel_rfl) (by kernel_rfl) [14] (by kernel_rfl) (fun _ _ _ h => h) (Or.inl ⟨by rfl, ?_⟩) (by assumption) ?_
              rotate_left
              · (intro W hSw; (try dsimp only at hSw); go_simp; try (with_reducible rfl))
              try simp only [Act.put, List.setIfInBounds_toArray, List.set_cons_zero, List.set_cons_succ]
              refine Rg.anyG_pure (i := 3) (oi := { dst := some 208, op := _, type := _, pos := _, after := _, guard := _ }) (v := ?_) rfl (by kernel_rfl) (by kernel_rfl) (by kernel_rfl) (by rfl) (fun _ _ _ h => h) (Or.inl ⟨by rfl, ?_⟩) (fun _ => by assumption) ?_
              rotate_left
              · (intro W hSw; (try dsimp only at hSw); go_simp; try (with_reducible rfl))
              try simp only [Act.put, List.setIfInBounds_toArray, List.set_cons_zero, List.set_cons_succ]
              refine Rg.anyG_pure (i := 4) (oi := { dst := some 209, op := _, type := _, pos := _, after := _, guard := _ }) (v := ?_) rfl (by kernel_rfl) (by kernel_rfl) (by kernel_rfl) (by rfl) (fun _ _ _ h => h) (Or.inl ⟨by rfl, ?_⟩) (fun _ => by assumption) ?_
              rotate_left
              · (intro W hSw; (try dsimp only at hSw); go_simp; try (with_reducible rfl))
              try simp only [Act.put, List.setIfInBounds_toArray, List.set_cons_zero, List.set_cons_succ]
              refine Rg.anyG_pure (i := 5) (oi := { dst := some 210, op := _, type := _, pos := _, after := _, guard := _ }) (v := ?_) rfl (by kernel_rfl) (by kernel_rfl) (by kernel_rfl) (by rfl) (fun _ _ _ h => h) (Or.inl ⟨by rfl, ?_⟩) (fun _ => by assumption) ?_
              rotate_left
              · (intro W hSw; (try dsimp only at hSw); go_simp; try (with_reducible rfl))
              try simp only [Act.put, List.setIfInBounds_toArray, List.set_cons_zero, List.set_cons_succ]
              refine Rg.anyG_take (i := 6) (oi := { dst := some 211, op := _, type := _, pos := _, after := _, guard := _ }) (v := ?_) rfl (by kernel_rfl) (by kernel_rfl) (by kernel_rfl) [14] (by kernel_rfl) (fun _ _ _ h => h) (Or.inl ⟨by rfl, ?_⟩) (by assumption) ?_
              rotate_left
              · (intro W hSw; (try dsimp only at hSw); go_simp; try (with_reducible rfl))
              try simp only [Act.put, List.setIfInBounds_toArray, List.set_cons_zero, List.set_cons_succ]
              refine Rg.anyG_pure (i := 7) (oi := { dst := some 212, op := _, type := _, pos := _, after := _, guard := _ }) (v := ?_) rfl (by kernel_rfl) (by kernel_rfl) (by kernel_rfl) (by rfl) (fun _ _ _ h => h) (Or.inl ⟨by rfl, ?_⟩) (fun _ => by assumption) ?_
              rotate_left
              · (intro W hSw; (try dsimp only at hSw); go_simp; try (with_reducible rfl))
              try simp only [Act.put, List.setIfInBounds_toArray, List.set_cons_zero, List.set_cons_succ]
              refine Rg.anyG_ready (rs := [8]) (by kernel_rfl) (by simp) ?_
              refine (Rg.AllG.cons (o := { dst := some 213, op := _, type := _, pos := _, after := _, guard := _ }) rfl (fun K hK => ?_) Rg.AllG.nil)
              refine step_append (by rfl) (.tmp 211) (.tmp 212) 22 22 (by rfl) w.heap.size 61 _ 6 56 Tryd.underlying22 infoK (by rfl) (by decide) (.slice ga got.length gc) got.length (Fk got) (by rfl) HSV0.out.o (.slice da gt.length dc) gt.length (Fk gt) (by rfl) (srcK HLV0.out.r dc) (by unfold maxLen; omega) (by omega) HSV0.out.bl.size ?_
              intro v1 V1 hO1 hgr1
              obtain ⟨gq, cq, rfl⟩ := own_form hO1
              have hO2 : V1.ownsRow w.heap.size 61 6 (.slice gq (got ++ gt).length cq) (got ++ gt).length (Fk (got ++ gt)) := by rw [List.length_append, show Fk (got ++ gt) = Fk got ++ Fk gt from Fl_append _ _]; exact hO1
              obtain ⟨hBx, hSy⟩ := HSV0.out.take HOV0.out HBs.out hgr1 hO2
              have HGV1 := mkH (HGV0.out.fr (fr_grown hgr1) (fun hk => own_ne HSV0.out.o HGV0.out hk (by decide) rfl))
              have HBV1 := mkH hBx
              have HSN := mkH hSy
              rw [List.length_append] at HSN
              clear hO1 hO2 hgr1 hBx hSy
              simp only at HSN HBV1
              have z0 : V1.cell? ⟨B, 0, none⟩ = some (.int .i64 n2) := HBV1.out.cell 0 _ rfl
              have z1 : V1.cell? ⟨B, 1, none⟩ = some (.slice ka2 k2.length kc2) := HBV1.out.cell 1 _ rfl
              have z2 : V1.cell? ⟨B, 2, none⟩ = some (.slice ma2 m2.length mc2) := HBV1.out.cell 2 _ rfl
              have z3 : V1.cell? ⟨B, 3, none⟩ = some (.string t2) := HBV1.out.cell 3 _ rfl
              have z5 : V1.cell? ⟨B, 5, none⟩ = some (.slice ga got.length gc) := HBV1.out.cell 5 _ rfl
              have y0 := HBV1.out.frozen 0
              have y1 := HBV1.out.frozen 1
              have y2 := HBV1.out.frozen 2
              have y3 := HBV1.out.frozen 3
              have y5 := HBV1.out.frozen 5
              refine hK.out _ _ ?_ (fun hHeld => ?_)
              · exact ⟨HBV1.out.cell 5 _ rfl, HGV1.out.cell 0 _ rfl, HGV1.out.cell 1 _ rfl, HGV1.out.cell 2 _ rfl, HGV1.out.cell 3 _ rfl⟩
              clear hK K
              try simp only [Act.put, List.setIfInBounds_toArray, List.set_cons_zero, List.set_cons_succ]
              refine Rg.anyG_pure (i := 9) (oi := { dst := some 214, op := _, type := _, pos := _, after := _, guard := _ }) (v := ?_) rfl (by kernel_rfl) (by kernel_rfl) (by kernel_rfl) (by rfl) (fun _ _ _ h => h) (Or.inl ⟨by rfl, ?_⟩) (fun _ => by assumption) ?_
              rotate_left
              · (intro W hSw; (try dsimp only at hSw); go_simp; try (with_reducible rfl))
              try simp only [Act.put, List.setIfInBounds_toArray, List.set_cons_zero, List.set_cons_succ]
              refine Rg.anyG_pure (i := 10) (oi := { dst := some 215, op := _, type := _, pos := _, after := _, guard := _ }) (v := ?_) rfl (by kernel_rfl) (by kernel_rfl) (by kernel_rfl) (by rfl) (fun _ _ _ h => h) (Or.inl ⟨by rfl, ?_⟩) (fun _ => by assumption) ?_
              rotate_left
              · (intro W hSw; (try dsimp only at hSw); go_simp; try (with_reducible rfl))
              try simp only [Act.put, List.setIfInBounds_toArray, List.set_cons_zero, List.set_cons_succ]
              refine Rg.anyG_ready (rs := [11]) (by kernel_rfl) (by simp) ?_
              refine (Rg.AllG.cons (o := { dst := none, op := _, type := _, pos := _, after := _, guard := _ }) rfl (fun K hK => ?_) Rg.AllG.nil)
              go_simp
              refine hK.out _ _ ?_ (fun hHeld => ?_)
              · (have hBG : B ≠ G1 := Ne.symm (bx_ne HGV1.out HBV1.out (by decide)); have hZ := ((((HGV1.out.other (p := ⟨B, 0, none⟩) hBG (.int .i64 n3)).other (p := ⟨B, 1, none⟩) hBG (.slice ka3 k3.length kc3)).other (p := ⟨B, 2, none⟩) hBG (.slice ma3 m3.length mc3)).other (p := ⟨B, 3, none⟩) hBG (.string t3)); have hY := ((((HBV1.out.set 0 (.int .i64 n3)).set 1 (.slice ka3 k3.length kc3)).set 2 (.slice ma3 m3.length mc3)).set 3 (.string t3)); exact ⟨hY.cell 5 _ rfl, hZ.cell 0 _ rfl, hZ.cell 1 _ rfl, hZ.cell 2 _ rfl, hZ.cell 3 _ rfl⟩)
              clear hK K
              try simp only [Act.put, List.setIfInBounds_toArray, List.set_cons_zero, List.set_cons_succ]
              refine Rg.anyG_pure (i := 12) (oi := { dst := some 216, op := _, type := _, pos := _, after := _, guard := _ }) (v := ?_) rfl (by kernel_rfl) (by kernel_rfl) (by kernel_rfl) (by rfl) (fun _ _ _ h => h) (Or.inl ⟨by rfl, ?_⟩) (fun _ => by assumption) ?_
              rotate_left
              · (intro W hSw; (try dsimp only at hSw); go_simp; try (with_reducible rfl))
              try simp only [Act.put, List.setIfInBounds_toArray, List.set_cons_zero, List.set_cons_succ]
              refine Rg.anyG_pure (i := 13) (oi := { dst := some 217, op := _, type := _, pos := _, after := _, guard := _ }) (v := ?_) rfl (by kernel_rfl) (by kernel_rfl) (by kernel_rfl) (by rfl) (fun _ _ _ h => h) (Or.inl ⟨by rfl, ?_⟩) (fun _ => by assumption) ?_
              rotate_left
              · (intro W hSw; (try dsimp only at hSw); go_simp; try (with_reducible rfl))
              try simp only [Act.put, List.setIfInBounds_toArray, List.set_cons_zero, List.set_cons_succ]
              refine Rg.anyG_ready (rs := [14]) (by kernel_rfl) (by simp) ?_
              refine Rg.AllG.last (o := { dst := none, op := _, type := _, pos := _, after := _, guard := _ }) rfl (by kernel_rfl) (fun K hK => ?_)
              go_simp
              refine hK.out _ _ ?_
              clear hK K
              try simp only [Act.put, List.setIfInBounds_toArray, List.set_cons_zero, List.set_cons_succ]
              refine Rg.anyG_done (by kernel_rfl) ?_ _
              go_wp2_with fail
              refine Rg.meetU _ (fun u => HK1.out () u _ ?_) (by kernel_rfl)
              exact ⟨⟨n3, k3, m3, t3⟩, got ++ gt, ka3, kc3, ma3, mc3, gq, cq, HJ3, by rw [List.length_append]; omega, HSN⟩
      have q1b : (xk == 1) = false := by simpa using q1
      by_cases q2 : xk = 2
      · subst q2
        rcases Nat.eq_zero_or_pos got.length with hz | hz
        · have hgn : got = [] := List.eq_nil_of_length_eq_zero hz
          subst hgn
          obtain ⟨c0, c1, c2, c3, c4, c5, -⟩ := HS4.out.cells
          simp only [List.length_nil] at c5
          go_wp2_with fail
          have hk1 : ((k : Int) + 1) = ((k + 1 : Nat) : Int) := by omega
          rw [hk1]
          refine Rg.meetU _ (fun u => HKL.out (k + 1) u _ (by omega) ?_) (by kernel_rfl)
          exact ⟨_, nw, [], ka2, kc2, ma2, mc2, ga, gc, by omega, by omega, HJ2.out.up (by omega), hn2, hn3, by simp, HS4⟩
        have hz1 : ¬ (got.length : Int) = 0 := by omega
        have hz3 : ((got.length : Int) == 0) = false := by simpa using hz1
        obtain ⟨c0, c1, c2, c3, c4, c5, -⟩ := HS4.out.cells
        have a1 : W4.cell? ⟨A0, 1, none⟩ = some (.int .i64 xn) := HA4.out.cell 1 _ rfl
        have hq1 := smal_bd xn (got.length : Int) (by omega)
        have HQ1 := mkH (fun W => small_any W xn (got.length : Int) (by omega) (by omega))
        obtain ⟨q, hq⟩ : ∃ q : Nat, smal xn (got.length : Int) = (q : Int) := ⟨(smal xn (got.length : Int)).toNat, by omega⟩
        rw [hq] at hq1
        simp only [hq] at HQ1
        clear hq
        have hql : (q : Int) < (got.length : Int) := hq1.2
        obtain ⟨y, hy⟩ := some_of (l := got) (i := q) (by omega)
        obtain ⟨gb, goff, rfl, p0, p1, p2, p3, p4, p5⟩ := atK (RowS.own kC_len HS4.out.o) hy
        obtain ⟨ys, yn, yc, yt, yf, yb⟩ := y
        simp only at p0 p1 p2 p3 p4 p5
        go_upto_region 39 with fail
        have hik : (Tryd.prog.info? 61).map (·.size) = some 6 := by kernel_rfl
        refine Rg.cutU (β := Nat) (fun b u => #[.slice (some ⟨ba, off, none⟩) acts.length cap, .int .i64 mo, .int .i64 ro, u 3, u 4, u 5, u 6, .pointer (some ⟨B, 0, none⟩), .int .i64 (k : Int), .pointer (some ⟨A0, 0, none⟩), u 10, u 11, u 12, u 13, u 14, u 15, u 16, u 17, u 18, u 19, .pointer (some ⟨b, 0, none⟩), u 21, u 22, u 23, u 24, u 25, u 26, u 27, u 28, u 29, u 30, u 31, u 32, u 33, u 34, u 35, u 36, u 37, u 38, u 39, u 40, u 41, u 42, u 43, u 44, u 45, u 46, u 47, u 48, u 49, u 50, u 51, u 52, u 53, u 54, u 55, u 56, u 57, u 58, u 59, u 60, u 61, u 62, u 63, u 64, u 65, u 66, u 67, u 68, u 69, u 70, u 71, u 72, u 73, u 74, u 75, u 76, u 77, u 78, u 79, u 80, u 81, u 82, u 83, u 84, u 85, u 86, u 87, u 88, u 89, u 90, u 91, u 92, u 93, u 94, u 95, u 96, u 97, u 98, u 99, u 100, u 101, u 102, u 103, u 104, u 105, u 106, u 107, u 108, u 109, u 110, u 111, u 112, u 113, u 114, u 115, u 116, u 117, u 118, u 119, u 120, u 121, u 122, u 123, u 124, u 125, u 126, u 127, u 128, u 129, u 130, u 131, u 132, u 133, u 134, u 135, u 136, u 137, u 138, u 139, u 140, u 141, u 142, u 143, u 144, u 145, u 146, u 147, u 148, u 149, u 150, u 151, u 152, u 153, u 154, u 155, u 156, u 157, u 158, u 159, u 160, u 161, u 162, u 163, u 164, u 165, u 166, u 167, u 168, u 169, u 170, u 171, u 172, u 173, u 174, u 175, u 176, u 177, u 178, u 179, u 180, u 181, u 182, u 183, u 184, u 185, u 186, u 187, u 188, u 189, u 190, u 191, u 192, u 193, u 194, u 195, u 196, u 197, u 198, u 199, u 200, u 201, u 202, u 203, u 204, u 205, u 206, u 207, u 208, u 209, u 210, u 211, u 212, u 213, u 214, u 215, u 216, u 217, u 218, u 219, u 220, u 221, u 222, u 223, u 224, u 225, u 226, u 227, u 228, u 229, u 230, u 231, u 232, u 233, u 234, u 235, u 236, u 237, u 238, u 239, u 240, u 241, u 242, u 243, u 244, u 245, u 246, u 247, u 248, u 249, u 250, u 251, u 252, u 253, u 254, u 255, u 256, u 257, u 258, u 259, u 260, u 261, u 262, u 263, u 264, u 265, u 266, u 267, u 268, u 269, u 270, u 271, u 272, u 273, u 274, u 275, u 276, u 277, u 278, u 279, u 280, u 281, u 282, u 283, u 284, u 285, u 286, u 287, u 288, u 289, u 290, u 291, u 292, u 293, u 294, u 295, u 296, u 297, u 298, u 299, u 300, u 301, u 302, u 303, u 304, u 305, u 306, u 307, u 308, u 309, u 310, u 311, u 312, u 313, u 314, u 315]) (fun b WW => b ≠ B ∧ Hid (Sy w WW B ⟨n2, k2, m2, t2⟩ nw got ka2 kc2 ma2 mc2 (some ⟨gb, goff, none⟩) gc b6 b7) ∧ Hid (Bx WW A0 #[Value.int .i64 2, .int .i64 xn, .int .i64 xs, .int .i64 xw, .string xb, .string xt] 53) ∧ Hid (Bx WW b #[Value.int .i64 ys, .int .i64 yn, .int .i64 yc, .int .i64 yt, .int .i64 yf, .string yb] 61)) ?rest5 ?first5
        case first5 =>
          intro K5 HK5
          refine Rg.region_G hmx 15 (fun W => W.cell? ⟨B, 5, none⟩ = some (.slice (some ⟨gb, goff, none⟩) got.length gc) ∧ W.cell? ⟨A0, 1, none⟩ = some (.int .i64 xn) ∧ W.cell? ⟨gb, goff + q * 6, none⟩ = some (.int .i64 ys) ∧ W.cell? ⟨gb, goff + q * 6 + 1, none⟩ = some (.int .i64 yn) ∧ W.cell? ⟨gb, goff + q * 6 + 2, none⟩ = some (.int .i64 yc) ∧ W.cell? ⟨gb, goff + q * 6 + 3, none⟩ = some (.int .i64 yt) ∧ W.cell? ⟨gb, goff + q * 6 + 4, none⟩ = some (.int .i64 yf) ∧ W.cell? ⟨gb, goff + q * 6 + 5, none⟩ = some (.string yb)) ⟨c5, a1, p0, p1, p2, p3, p4, p5⟩ (fun hHeld => ?_)
          have HSV0 := mkH (HS4.out.below (below_drew _))
          have HAV0 := mkH (HA4.out.bel (below_drew _))
          have HY := mkH hy
          generalize W4.drew = V0 at *
          refine Rg.anyG_pure (i := 0) (oi := { dst := some 227, op := _, type := _, pos := _, after := _, guard := _ }) (v := ?_) rfl (by kernel_rfl) (by kernel_rfl) (by kernel_rfl) (by rfl) (fun _ _ _ h => h) (Or.inl ⟨by rfl, ?_⟩) (fun _ => by assumption) ?_
          rotate_left
          · (intro W hSw; (try dsimp only at hSw); go_simp; try (with_reducible rfl))
          try simp only [Act.put, List.setIfInBounds_toArray, List.set_cons_zero, List.set_cons_succ]
          refine Rg.anyG_pure (i := 1) (oi := { dst := some 228, op := _, type := _, pos := _, after := _, guard := _ }) (v := ?_) rfl (by kernel_rfl) (by kernel_rfl) (by kernel_rfl) (by rfl) (fun _ _ _ h => h) (Or.inl ⟨by rfl, ?_⟩) (fun _ => by assumption) ?_
          rotate_left
          · (intro W hSw; (try dsimp only at hSw); go_simp; try (with_reducible rfl))
          try simp only [Act.put, List.setIfInBounds_toArray, List.set_cons_zero, List.set_cons_succ]
          refine Rg.anyG_pure (i := 2) (oi := { dst := some 229, op := _, type := _, pos := _, after := _, guard := _ }) (v := ?_) rfl (by kernel_rfl) (by kernel_rfl) (by kernel_rfl) (by rfl) (fun _ _ _ h => h) (Or.inl ⟨by rfl, ?_⟩) (fun _ => by assumption) ?_
          rotate_left
          · (intro W hSw; (try dsimp only at hSw); go_simp; try (with_reducible rfl))
          try simp only [Act.put, List.setIfInBounds_toArray, List.set_cons_zero, List.set_cons_succ]
          refine Rg.anyG_take (i := 3) (oi := { dst := some 230, op := _, type := _, pos := _, after := _, guard := _ }) (v := ?_) rfl (by kernel_rfl) (by kernel_rfl) (by kernel_rfl) [15] (by kernel_rfl) (fun _ _ _ h => h) (Or.inl ⟨by rfl, ?_⟩) (by assumption) ?_
          rotate_left
          · (intro W hSw; (try dsimp only at hSw); go_simp; try (with_reducible rfl))
          try simp only [Act.put, List.setIfInBounds_toArray, List.set_cons_zero, List.set_cons_succ]
          refine Rg.anyG_pure (i := 4) (oi := { dst := some 231, op := _, type := _, pos := _, after := _, guard := _ }) (v := ?_) rfl (by kernel_rfl) (by kernel_rfl) (by kernel_rfl) (by rfl) (fun _ _ _ h => h) (Or.inl ⟨by rfl, ?_⟩) (fun _ => by assumption) ?_
          rotate_left
          · (intro W hSw; (try dsimp only at hSw); go_simp; try (with_reducible rfl))
          try simp only [Act.put, List.setIfInBounds_toArray, List.set_cons_zero, List.set_cons_succ]
          refine Rg.anyG_take (i := 5) (oi := { dst := some 232, op := _, type := _, pos := _, after := _, guard := _ }) (v := ?_) rfl (by kernel_rfl) (by kernel_rfl) (by kernel_rfl) [15] (by kernel_rfl) (fun _ _ _ h => h) (Or.inl ⟨by rfl, ?_⟩) (by assumption) ?_
          rotate_left
          · (intro W hSw; (try dsimp only at hSw); go_simp; try (with_reducible rfl))
          try simp only [Act.put, List.setIfInBounds_toArray, List.set_cons_zero, List.set_cons_succ]
          refine Rg.anyG_pure (i := 6) (oi := { dst := some 233, op := _, type := _, pos := _, after := _, guard := _ }) (v := ?_) rfl (by kernel_rfl) (by kernel_rfl) (by kernel_rfl) (by rfl) (fun _ _ _ h => h) (Or.inl ⟨by rfl, ?_⟩) (fun _ => by assumption) ?_
          rotate_left
          · (intro W hSw; (try dsimp only at hSw); go_simp; try (with_reducible rfl))
          try simp only [Act.put, List.setIfInBounds_toArray, List.set_cons_zero, List.set_cons_succ]
          refine Rg.anyG_pure (i := 7) (oi := { dst := some 234, op := _, type := _, pos := _, after := _, guard := _ }) (v := ?_) rfl (by kernel_rfl) (by kernel_rfl) (by kernel_rfl) (by rfl) (fun _ _ _ h => h) (Or.inl ⟨by rfl, ?_⟩) (fun _ => by assumption) ?_
          rotate_left
          · (intro W hSw; (try dsimp only at hSw); go_simp; try (with_reducible rfl))
          try simp only [Act.put, List.setIfInBounds_toArray, List.set_cons_zero, List.set_cons_succ]
          refine Rg.anyG_pure (i := 8) (oi := { dst := some 235, op := _, type := _, pos := _, after := _, guard := _ }) (v := ?_) rfl (by kernel_rfl) (by kernel_rfl) (by kernel_rfl) (by rfl) (fun _ _ _ h => h) (Or.inl ⟨by rfl, ?_⟩) (fun _ => by assumption) ?_
          rotate_left
          · (intro W hSw; (try dsimp only at hSw); go_simp; try (with_reducible rfl))
          try simp only [Act.put, List.setIfInBounds_toArray, List.set_cons_zero, List.set_cons_succ]
          refine Rg.anyG_take (i := 9) (oi := { dst := some 236, op := _, type := _, pos := _, after := _, guard := _ }) (v := ?_) rfl (by kernel_rfl) (by kernel_rfl) (by kernel_rfl) [15] (by kernel_rfl) (fun _ _ _ h => h) (Or.inl ⟨by rfl, ?_⟩) (by assumption) ?_
          rotate_left
          · (intro W hSw; (try dsimp only at hSw); go_simp; try (with_reducible rfl))
          try simp only [Act.put, List.setIfInBounds_toArray, List.set_cons_zero, List.set_cons_succ]
          refine Rg.anyG_pure (i := 10) (oi := { dst := some 237, op := _, type := _, pos := _, after := _, guard := _ }) (v := ?_) rfl (by kernel_rfl) (by kernel_rfl) (by kernel_rfl) (by rfl) (fun _ _ _ h => h) (Or.inl ⟨by rfl, ?_⟩) (fun _ => by assumption) ?_
          rotate_left
          · (intro W hSw; (try dsimp only at hSw); go_simp; try (with_reducible rfl))
          try simp only [Act.put, List.setIfInBounds_toArray, List.set_cons_zero, List.set_cons_succ]
          refine Rg.anyG_ready (rs := [11, 14]) (by kernel_rfl) (by simp) ?_
          refine (Rg.AllG.cons (o := { dst := some 238, op := _, type := _, pos := _, after := _, guard := _ }) rfl (fun K hK => ?_) (Rg.AllG.cons (o := { dst := some 20, op := _, type := _, pos := _, after := _, guard := _ }) rfl (fun K hK => ?_) Rg.AllG.nil))
          · go_simp
            refine (HQ1.out _).mono ?_
            rintro e1 x1 ⟨rfl, hx1⟩
            have hx1' := hx1.symm
            subst hx1'
            clear hx1
            go_wp2_with fail
            refine hK.out _ _ ?_ (fun hHeld => ?_)
            · assumption
            clear hK K
            try simp only [Act.put, List.setIfInBounds_toArray, List.set_cons_zero, List.set_cons_succ]
            refine Rg.anyG_pure (i := 12) (oi := { dst := some 239, op := _, type := _, pos := _, after := _, guard := _ }) (v := ?_) rfl (by kernel_rfl) (by kernel_rfl) (by kernel_rfl) (by rfl) (fun _ _ _ h => h) (Or.inl ⟨by rfl, ?_⟩) (fun _ => by assumption) ?_
            rotate_left
            · (intro W hSw; (try dsimp only at hSw); go_simp; try (with_reducible rfl))
            try simp only [Act.put, List.setIfInBounds_toArray, List.set_cons_zero, List.set_cons_succ]
            refine Rg.anyG_take (i := 13) (oi := { dst := some 240, op := _, type := _, pos := _, after := _, guard := _ }) (v := ?_) rfl (by kernel_rfl) (by kernel_rfl) (by kernel_rfl) [15] (by kernel_rfl) (fun _ _ _ h => h) (Or.inl ⟨by rfl, ?_⟩) (by assumption) ?_
            rotate_left
            · (intro W hSw; (try dsimp only at hSw); go_simp; try (with_reducible rfl))
            try simp only [Act.put, List.setIfInBounds_toArray, List.set_cons_zero, List.set_cons_succ]
            refine Rg.anyG_ready (rs := [14]) (by kernel_rfl) (by simp) ?_
            refine (Rg.AllG.cons (o := { dst := some 20, op := _, type := _, pos := _, after := _, guard := _ }) rfl (fun K hK => ?_) Rg.AllG.nil)
            go_simp
            have hal : Below V0.heap.size V0 (V0.alloc (.cells #[Value.int .i64 0, .int .i64 0, .int .i64 0, .int .i64 0, .int .i64 0, .string ⟨#[]⟩] 61)) := (Below.refl _ _).alloc (Nat.le_refl _) _
            have HSV1 := mkH (HSV0.out.below hal)
            have HAV1 := mkH (HAV0.out.bel hal)
            have HYV1 := mkH (Bx.new V0 #[Value.int .i64 0, .int .i64 0, .int .i64 0, .int .i64 0, .int .i64 0, .string ⟨#[]⟩] 61)
            have hB1 : V0.heap.size ≠ B := Nat.ne_of_gt HSV0.out.b.lt
            have hB2 : V0.heap.size ≠ A0 := Nat.ne_of_gt HAV0.out.lt
            have hB4 : ∀ k, (Value.slice (some ⟨gb, goff, none⟩) got.length gc).ownBlock = some k → k < V0.heap.size := fun k hk => (HSV0.out.o.lt k hk).2
            have HB4 := mkH hB4
            have HRW : Hid (∀ {W W' : World}, Gl W ⟨n2, k2, m2, t2⟩ ka2 kc2 ma2 mc2 → Fr (fun x => x = V0.heap.size) W W' → Gl W' ⟨n2, k2, m2, t2⟩ ka2 kc2 ma2 mc2) := fun h hF => glNew h HSV0.out.l hF
            have hBw : w.heap.size ≤ V0.heap.size := HSV0.out.bl.size
            clear hal hB4
            generalize V0.alloc (.cells #[Value.int .i64 0, .int .i64 0, .int .i64 0, .int .i64 0, .int .i64 0, .string ⟨#[]⟩] 61) = V1 at *
            generalize V0.heap.size = Y1 at HYV1 hB1 hB2 HB4 HRW hBw ⊢
            refine hK.out _ _ ?_ (fun hHeld => ?_)
            · (obtain ⟨gb', goff', he', p0', p1', p2', p3', p4', p5'⟩ := atK (RowS.own kC_len HSV1.out.o) HY.out; cases he'; exact ⟨HSV1.out.b.cell 5 _ rfl, HAV1.out.cell 1 _ rfl, p0', p1', p2', p3', p4', p5'⟩)
            clear hK K
            try simp only [Act.put, List.setIfInBounds_toArray, List.set_cons_zero, List.set_cons_succ]
            refine Rg.anyG_ready (rs := [15]) (by kernel_rfl) (by simp) ?_
            refine Rg.AllG.last (o := { dst := none, op := _, type := _, pos := _, after := _, guard := _ }) rfl (by kernel_rfl) (fun K hK => ?_)
            refine step_st (by rfl) 61 (.tmp 20) (.tmp 240) (by rfl) Y1 #[Value.int .i64 ys, .int .i64 yn, .int .i64 yc, .int .i64 yt, .int .i64 yf, .string yb] #[Value.int .i64 0, .int .i64 0, .int .i64 0, .int .i64 0, .int .i64 0, .string ⟨#[]⟩] 61 (by rfl) (by rfl) HYV1.out hik (by rfl) (by simp [Value.oneCell']) ?_
            refine hK.out _ _ ?_
            clear hK K
            try simp only [Act.put, List.setIfInBounds_toArray, List.set_cons_zero, List.set_cons_succ]
            refine Rg.anyG_done (by kernel_rfl) ?_ _
            go_wp2_with fail
            refine Rg.meetU _ (fun u => HK5.out Y1 u _ ?_) (by kernel_rfl)
            (have hfs : Fr (fun x => x = Y1) V1 (V1.setRow Y1 #[Value.int .i64 ys, .int .i64 yn, .int .i64 yc, .int .i64 yt, .int .i64 yf, .string yb]) := Bx.frrow _; exact ⟨hB1, syFr HSV1.out hfs hB1 (fun e => Nat.lt_irrefl _ (HB4.out _ e)) (HRW.out HSV1.out.l hfs) hBw, HAV1.out.fr hfs (Ne.symm hB2), HYV1.out.row⟩)
          · go_simp
            have hal : Below V0.heap.size V0 (V0.alloc (.cells #[Value.int .i64 0, .int .i64 0, .int .i64 0, .int .i64 0, .int .i64 0, .string ⟨#[]⟩] 61)) := (Below.refl _ _).alloc (Nat.le_refl _) _
            have HSV1 := mkH (HSV0.out.below hal)
            have HAV1 := mkH (HAV0.out.bel hal)
            have HYV1 := mkH (Bx.new V0 #[Value.int .i64 0, .int .i64 0, .int .i64 0, .int .i64 0, .int .i64 0, .string ⟨#[]⟩] 61)
            have hB1 : V0.heap.size ≠ B := Nat.ne_of_gt HSV0.out.b.lt
            have hB2 : V0.heap.size ≠ A0 := Nat.ne_of_gt HAV0.out.lt
            have hB4 : ∀ k, (Value.slice (some ⟨gb, goff, none⟩) got.length gc).ownBlock = some k → k < V0.heap.size := fun k hk => (HSV0.out.o.lt k hk).2
            have HB4 := mkH hB4
            have HRW : Hid (∀ {W W' : World}, Gl W ⟨n2, k2, m2, t2⟩ ka2 kc2 ma2 mc2 → Fr (fun x => x = V0.heap.size) W W' → Gl W' ⟨n2, k2, m2, t2⟩ ka2 kc2 ma2 mc2) := fun h hF => glNew h HSV0.out.l hF
            have hBw : w.heap.size ≤ V0.heap.size := HSV0.out.bl.size
            clear hal hB4
            generalize V0.alloc (.cells #[Value.int .i64 0, .int .i64 0, .int .i64 0, .int .i64 0, .int .i64 0, .string ⟨#[]⟩] 61) = V1 at *
            generalize V0.heap.size = Y1 at HYV1 hB1 hB2 HB4 HRW hBw ⊢
            refine hK.out _ _ ?_ (fun hHeld => ?_)
            · (obtain ⟨gb', goff', he', p0', p1', p2', p3', p4', p5'⟩ := atK (RowS.own kC_len HSV1.out.o) HY.out; cases he'; exact ⟨HSV1.out.b.cell 5 _ rfl, HAV1.out.cell 1 _ rfl, p0', p1', p2', p3', p4', p5'⟩)
            clear hK K
            try simp only [Act.put, List.setIfInBounds_toArray, List.set_cons_zero, List.set_cons_succ]
            refine Rg.anyG_ready (rs := [11]) (by kernel_rfl) (by simp) ?_
            refine (Rg.AllG.cons (o := { dst := some 238, op := _, type := _, pos := _, after := _, guard := _ }) rfl (fun K hK => ?_) Rg.AllG.nil)
            go_simp
            refine (HQ1.out _).mono ?_
            rintro e1 x1 ⟨rfl, hx1⟩
            have hx1' := hx1.symm
            subst hx1'
            clear hx1
            go_wp2_with fail
            refine hK.out _ _ ?_ (fun hHeld => ?_)
            · assumption
            clear hK K
            try simp only [Act.put, List.setIfInBounds_toArray, List.set_cons_zero, List.set_cons_succ]
            refine Rg.anyG_pure (i := 12) (oi := { dst := some 239, op := _, type := _, pos := _, after := _, guard := _ }) (v := ?_) rfl (by kernel_rfl) (by kernel_rfl) (by kernel_rfl) (by rfl) (fun _ _ _ h => h) (Or.inl ⟨by rfl, ?_⟩) (fun _ => by assumption) ?_
            rotate_left
            · (intro W hSw; (try dsimp only at hSw); go_simp; try (with_reducible rfl))
            try simp only [Act.put, List.setIfInBounds_toArray, List.set_cons_zero, List.set_cons_succ]
            refine Rg.anyG_take (i := 13) (oi := { dst := some 240, op := _, type := _, pos := _, after := _, guard := _ }) (v := ?_) rfl (by kernel_rfl) (by kernel_rfl) (by kernel_rfl) [15] (by kernel_rfl) (fun _ _ _ h => h) (Or.inl ⟨by rfl, ?_⟩) (by assumption) ?_
            rotate_left
            · (intro W hSw; (try dsimp only at hSw); go_simp; try (with_reducible rfl))
            try simp only [Act.put, List.setIfInBounds_toArray, List.set_cons_zero, List.set_cons_succ]
            refine Rg.anyG_ready (rs := [15]) (by kernel_rfl) (by simp) ?_
            refine Rg.AllG.last (o := { dst := none, op := _, type := _, pos := _, after := _, guard := _ }) rfl (by kernel_rfl) (fun K hK => ?_)
            refine step_st (by rfl) 61 (.tmp 20) (.tmp 240) (by rfl) Y1 #[Value.int .i64 ys, .int .i64 yn, .int .i64 yc, .int .i64 yt, .int .i64 yf, .string yb] #[Value.int .i64 0, .int .i64 0, .int .i64 0, .int .i64 0, .int .i64 0, .string ⟨#[]⟩] 61 (by rfl) (by rfl) HYV1.out hik (by rfl) (by simp [Value.oneCell']) ?_
            refine hK.out _ _ ?_
            clear hK K
            try simp only [Act.put, List.setIfInBounds_toArray, List.set_cons_zero, List.set_cons_succ]
            refine Rg.anyG_done (by kernel_rfl) ?_ _
            go_wp2_with fail
            refine Rg.meetU _ (fun u => HK5.out Y1 u _ ?_) (by kernel_rfl)
            (have hfs : Fr (fun x => x = Y1) V1 (V1.setRow Y1 #[Value.int .i64 ys, .int .i64 yn, .int .i64 yc, .int .i64 yt, .int .i64 yf, .string yb]) := Bx.frrow _; exact ⟨hB1, syFr HSV1.out hfs hB1 (fun e => Nat.lt_irrefl _ (HB4.out _ e)) (HRW.out HSV1.out.l hfs) hBw, HAV1.out.fr hfs (Ne.symm hB2), HYV1.out.row⟩)
        case rest5 =>
          rintro Y1 u W6 ⟨hYB, HS6, HA6, HY6⟩
          dsimp only at HY6 ⊢
          clear c0 c1 c2 c3 c4 c5 a0 a1 p0 p1 p2 p3 p4 p5 HS4 HA4 HQ1 hy
          have a0 : W6.cell? ⟨A0, 0, none⟩ = some (.int .i64 2) := HA6.out.cell 0 _ rfl
          have e0 : W6.cell? ⟨Y1, 0, none⟩ = some (.int .i64 ys) := HY6.out.cell 0 _ rfl
          have e2 : W6.cell? ⟨Y1, 2, none⟩ = some (.int .i64 yc) := HY6.out.cell 2 _ rfl
          obtain ⟨c0, c1, c2, c3, c4, c5, -⟩ := HS6.out.cells
          obtain ⟨g3, hg3⟩ : ∃ x, delG ⟨n2, k2, m2, t2⟩ nw ys yc = x := ⟨_, rfl⟩
          obtain ⟨E3, hE3⟩ : ∃ x, delE ⟨n2, k2, m2, t2⟩ nw ys yc = x := ⟨_, rfl⟩
          have hX := Gj.Delete_any W6.drew ⟨n2, k2, m2, t2⟩ ka2 kc2 ma2 mc2 (HS6.out.l.below (below_drew _)) (by have := HJ2.out.kl; omega) (by have := HJ2.out.ml; omega) nw ys yc g3 hg3 E3 hE3
          have hJ3 := HJ2.out.del nw ys yc
          rw [hg3] at hJ3
          obtain ⟨n3, k3, m3, t3⟩ := g3
          simp only [gC] at hX
          have HX := mkH hX
          have HJ3 : Hid (J (k + 1) ⟨n3, k3, m3, t3⟩) := hJ3.up (by omega)
          clear hX hJ3 hg3 hE3
          go_upto_region 41 with fail
          refine Rg.region_G hmx 19 (fun W => W.cell? ⟨B, 0, none⟩ = some (.int .i64 n2) ∧ W.cell? ⟨B, 1, none⟩ = some (.slice ka2 k2.length kc2) ∧ W.cell? ⟨B, 2, none⟩ = some (.slice ma2 m2.length mc2) ∧ W.cell? ⟨B, 3, none⟩ = some (.string t2) ∧ W.cell? ⟨B, 4, none⟩ = some (.int .i64 nw) ∧ W.cell? ⟨Y1, 0, none⟩ = some (.int .i64 ys) ∧ W.cell? ⟨Y1, 2, none⟩ = some (.int .i64 yc)) ⟨c0, c1, c2, c3, c4, e0, e2⟩ (fun hHeld => ?_)
          refine Rg.anyG_pure (i := 0) (oi := { dst := some 245, op := _, type := _, pos := _, after := _, guard := _ }) (v := ?_) rfl (by kernel_rfl) (by kernel_rfl) (by kernel_rfl) (by rfl) (fun _ _ _ h => h) (Or.inl ⟨by rfl, ?_⟩) (fun _ => by assumption) ?_
          rotate_left
          · (intro W hSw; (try dsimp only at hSw); go_simp; try (with_reducible rfl))
          try simp only [Act.put, List.setIfInBounds_toArray, List.set_cons_zero, List.set_cons_succ]
          refine Rg.anyG_pure (i := 1) (oi := { dst := some 246, op := _, type := _, pos := _, after := _, guard := _ }) (v := ?_) rfl (by kernel_rfl) (by kernel_rfl) (by kernel_rfl) (by rfl) (fun _ _ _ h => h) (Or.inl ⟨by rfl, ?_⟩) (fun _ => by assumption) ?_
          rotate_left
          · (intro W hSw; (try dsimp only at hSw); go_simp; try (with_reducible rfl))
          try simp only [Act.put, List.setIfInBounds_toArray, List.set_cons_zero, List.set_cons_succ]
          refine Rg.anyG_pure (i := 2) (oi := { dst := some 247, op := _, type := _, pos := _, after := _, guard := _ }) (v := ?_) rfl (by kernel_rfl) (by kernel_rfl) (by kernel_rfl) (by rfl) (fun _ _ _ h => h) (Or.inl ⟨by rfl, ?_⟩) (fun _ => by assumption) ?_
          rotate_left
          · (intro W hSw; (try dsimp only at hSw); go_simp; try (with_reducible rfl))
          try simp only [Act.put, List.setIfInBounds_toArray, List.set_cons_zero, List.set_cons_succ]
          refine Rg.anyG_pure (i := 3) (oi := { dst := some 248, op := _, type := _, pos := _, after := _, guard := _ }) (v := ?_) rfl (by kernel_rfl) (by kernel_rfl) (by kernel_rfl) (by rfl) (fun _ _ _ h => h) (Or.inl ⟨by rfl, ?_⟩) (fun _ => by assumption) ?_
          rotate_left
          · (intro W hSw; (try dsimp only at hSw); go_simp; try (with_reducible rfl))
          try simp only [Act.put, List.setIfInBounds_toArray, List.set_cons_zero, List.set_cons_succ]
          refine Rg.anyG_take (i := 4) (oi := { dst := some 249, op := _, type := _, pos := _, after := _, guard := _ }) (v := ?_) rfl (by kernel_rfl) (by kernel_rfl) (by kernel_rfl) [19] (by kernel_rfl) (fun _ _ _ h => h) (Or.inl ⟨by rfl, ?_⟩) (by assumption) ?_
          rotate_left
          · (intro W hSw; (try dsimp only at hSw); go_simp; try (with_reducible rfl))
          try simp only [Act.put, List.setIfInBounds_toArray, List.set_cons_zero, List.set_cons_succ]
          refine Rg.anyG_pure (i := 5) (oi := { dst := some 250, op := _, type := _, pos := _, after := _, guard := _ }) (v := ?_) rfl (by kernel_rfl) (by kernel_rfl) (by kernel_rfl) (by rfl) (fun _ _ _ h => h) (Or.inl ⟨by rfl, ?_⟩) (fun _ => by assumption) ?_
          rotate_left
          · (intro W hSw; (try dsimp only at hSw); go_simp; try (with_reducible rfl))
          try simp only [Act.put, List.setIfInBounds_toArray, List.set_cons_zero, List.set_cons_succ]
          refine Rg.anyG_pure (i := 6) (oi := { dst := some 251, op := _, type := _, pos := _, after := _, guard := _ }) (v := ?_) rfl (by kernel_rfl) (by kernel_rfl) (by kernel_rfl) (by rfl) (fun _ _ _ h => h) (Or.inl ⟨by rfl, ?_⟩) (fun _ => by assumption) ?_
          rotate_left
          · (intro W hSw; (try dsimp only at hSw); go_simp; try (with_reducible rfl))
          try simp only [Act.put, List.setIfInBounds_toArray, List.set_cons_zero, List.set_cons_succ]
          refine Rg.anyG_pure (i := 7) (oi := { dst := some 252, op := _, type := _, pos := _, after := _, guard := _ }) (v := ?_) rfl (by kernel_rfl) (by kernel_rfl) (by kernel_rfl) (by rfl) (fun _ _ _ h => h) (Or.inl ⟨by rfl, ?_⟩) (fun _ => by assumption) ?_
          rotate_left
          · (intro W hSw; (try dsimp only at hSw); go_simp; try (with_reducible rfl))
          try simp only [Act.put, List.setIfInBounds_toArray, List.set_cons_zero, List.set_cons_succ]
          refine Rg.anyG_take (i := 8) (oi := { dst := some 253, op := _, type := _, pos := _, after := _, guard := _ }) (v := ?_) rfl (by kernel_rfl) (by kernel_rfl) (by kernel_rfl) [19] (by kernel_rfl) (fun _ _ _ h => h) (Or.inl ⟨by rfl, ?_⟩) (by assumption) ?_
          rotate_left
          · (intro W hSw; (try dsimp only at hSw); go_simp; try (with_reducible rfl))
          try simp only [Act.put, List.setIfInBounds_toArray, List.set_cons_zero, List.set_cons_succ]
          refine Rg.anyG_pure (i := 9) (oi := { dst := some 254, op := _, type := _, pos := _, after := _, guard := _ }) (v := ?_) rfl (by kernel_rfl) (by kernel_rfl) (by kernel_rfl) (by rfl) (fun _ _ _ h => h) (Or.inl ⟨by rfl, ?_⟩) (fun _ => by assumption) ?_
          rotate_left
          · (intro W hSw; (try dsimp only at hSw); go_simp; try (with_reducible rfl))
          try simp only [Act.put, List.setIfInBounds_toArray, List.set_cons_zero, List.set_cons_succ]
          refine Rg.anyG_take (i := 10) (oi := { dst := some 255, op := _, type := _, pos := _, after := _, guard := _ }) (v := ?_) rfl (by kernel_rfl) (by kernel_rfl) (by kernel_rfl) [19] (by kernel_rfl) (fun _ _ _ h => h) (Or.inl ⟨by rfl, ?_⟩) (by assumption) ?_
          rotate_left
          · (intro W hSw; (try dsimp only at hSw); go_simp; try (with_reducible rfl))
          try simp only [Act.put, List.setIfInBounds_toArray, List.set_cons_zero, List.set_cons_succ]
          refine Rg.anyG_pure (i := 11) (oi := { dst := some 256, op := _, type := _, pos := _, after := _, guard := _ }) (v := ?_) rfl (by kernel_rfl) (by kernel_rfl) (by kernel_rfl) (by rfl) (fun _ _ _ h => h) (Or.inl ⟨by rfl, ?_⟩) (fun _ => by assumption) ?_
          rotate_left
          · (intro W hSw; (try dsimp only at hSw); go_simp; try (with_reducible rfl))
          try simp only [Act.put, List.setIfInBounds_toArray, List.set_cons_zero, List.set_cons_succ]
          refine Rg.anyG_take (i := 12) (oi := { dst := some 257, op := _, type := _, pos := _, after := _, guard := _ }) (v := ?_) rfl (by kernel_rfl) (by kernel_rfl) (by kernel_rfl) [19] (by kernel_rfl) (fun _ _ _ h => h) (Or.inl ⟨by rfl, ?_⟩) (by assumption) ?_
          rotate_left
          · (intro W hSw; (try dsimp only at hSw); go_simp; try (with_reducible rfl))
          try simp only [Act.put, List.setIfInBounds_toArray, List.set_cons_zero, List.set_cons_succ]
          refine Rg.anyG_ready (rs := [13]) (by kernel_rfl) (by simp) ?_
          refine (Rg.AllG.cons (o := { dst := some 258, op := _, type := _, pos := _, after := _, guard := _ }) rfl (fun K hK => ?_) Rg.AllG.nil)
          go_simp
          refine HX.out.mono ?_
          rintro e1 V ⟨ka3, kc3, ma3, mc3, rfl, hg5, hb5⟩
          have HSV := mkH (HS6.out.below ((below_drew W6).trans hb5))
          have HAV := mkH (HA6.out.bel ((below_drew W6).trans hb5))
          have HYV := mkH (HY6.out.bel ((below_drew W6).trans hb5))
          have HGV := mkH hg5
          clear hg5 hb5
          obtain ⟨c0, c1, c2, c3, c4, c5, -⟩ := HSV.out.cells
          obtain ⟨f0, f1, f2, f3, f4, f5⟩ := HSV.out.frz
          go_wp2_with fail
          refine hK.out _ _ ?_ (fun hHeld => ?_)
          · exact ⟨c0, c1, c2, c3, c4, HYV.out.cell 0 _ rfl, HYV.out.cell 2 _ rfl⟩
          clear hK K
          try simp only [Act.put, List.setIfInBounds_toArray, List.set_cons_zero, List.set_cons_succ]
          refine Rg.anyG_pure (i := 14) (oi := { dst := some 244, op := _, type := _, pos := _, after := _, guard := _ }) (v := ?_) rfl (by kernel_rfl) (by kernel_rfl) (by kernel_rfl) (by rfl) (fun _ _ _ h => h) (Or.inl ⟨by rfl, ?_⟩) (fun _ => by assumption) ?_
          rotate_left
          · (intro W hSw; (try dsimp only at hSw); go_simp; try (with_reducible rfl))
          try simp only [Act.put, List.setIfInBounds_toArray, List.set_cons_zero, List.set_cons_succ]
          refine Rg.anyG_pure (i := 15) (oi := { dst := some 259, op := _, type := _, pos := _, after := _, guard := _ }) (v := ?_) rfl (by kernel_rfl) (by kernel_rfl) (by kernel_rfl) (by rfl) (fun _ _ _ h => h) (Or.inl ⟨by rfl, ?_⟩) (fun _ => by assumption) ?_
          rotate_left
          · (intro W hSw; (try dsimp only at hSw); go_simp; try (with_reducible rfl))
          try simp only [Act.put, List.setIfInBounds_toArray, List.set_cons_zero, List.set_cons_succ]
          refine Rg.anyG_pure (i := 16) (oi := { dst := some 260, op := _, type := _, pos := _, after := _, guard := _ }) (v := ?_) rfl (by kernel_rfl) (by kernel_rfl) (by kernel_rfl) (by rfl) (fun _ _ _ h => h) (Or.inl ⟨by rfl, ?_⟩) (fun _ => by assumption) ?_
          rotate_left
          · (intro W hSw; (try dsimp only at hSw); go_simp; try (with_reducible rfl))
          try simp only [Act.put, List.setIfInBounds_toArray, List.set_cons_zero, List.set_cons_succ]
          refine Rg.anyG_pure (i := 17) (oi := { dst := some 261, op := _, type := _, pos := _, after := _, guard := _ }) (v := ?_) rfl (by kernel_rfl) (by kernel_rfl) (by kernel_rfl) (by rfl) (fun _ _ _ h => h) (Or.inl ⟨by rfl, ?_⟩) (fun _ => by assumption) ?_
          rotate_left
          · (intro W hSw; (try dsimp only at hSw); go_simp; try (with_reducible rfl))
          try simp only [Act.put, List.setIfInBounds_toArray, List.set_cons_zero, List.set_cons_succ]
          refine Rg.anyG_pure (i := 18) (oi := { dst := some 262, op := _, type := _, pos := _, after := _, guard := _ }) (v := ?_) rfl (by kernel_rfl) (by kernel_rfl) (by kernel_rfl) (by rfl) (fun _ _ _ h => h) (Or.inl ⟨by rfl, ?_⟩) (fun _ => by assumption) ?_
          rotate_left
          · (intro W hSw; (try dsimp only at hSw); go_simp; try (with_reducible rfl))
          try simp only [Act.put, List.setIfInBounds_toArray, List.set_cons_zero, List.set_cons_succ]
          refine Rg.anyG_ready (rs := [19]) (by kernel_rfl) (by simp) ?_
          refine Rg.AllG.last (o := { dst := none, op := _, type := _, pos := _, after := _, guard := _ }) rfl (by kernel_rfl) (fun K hK => ?_)
          go_simp
          refine hK.out _ _ ?_
          clear hK K
          try simp only [Act.put, List.setIfInBounds_toArray, List.set_cons_zero, List.set_cons_succ]
          refine Rg.anyG_done (by kernel_rfl) ?_ _
          go_wp2_with fail
          refine Rg.meetU _ (fun u => HK1.out () u _ ?_) (by kernel_rfl)
          exact ⟨⟨n3, k3, m3, t3⟩, got, ka3, kc3, ma3, mc3, _, gc, HJ3, by omega, (HSV.out.setG HGV.out).1⟩
      have q2b : (xk == 2) = false := by simpa using q2
      by_cases q3 : xk = 3
      · subst q3
        rcases Nat.eq_zero_or_pos got.length with hz | hz
        · have hgn : got = [] := List.eq_nil_of_length_eq_zero hz
          subst hgn
          obtain ⟨c0, c1, c2, c3, c4, c5, -⟩ := HS4.out.cells
          simp only [List.length_nil] at c5
          go_wp2_with fail
          have hk1 : ((k : Int) + 1) = ((k + 1 : Nat) : Int) := by omega
          rw [hk1]
          refine Rg.meetU _ (fun u => HKL.out (k + 1) u _ (by omega) ?_) (by kernel_rfl)
          exact ⟨_, nw, [], ka2, kc2, ma2, mc2, ga, gc, by omega, by omega, HJ2.out.up (by omega), hn2, hn3, by simp, HS4⟩
        have hz1 : ¬ (got.length : Int) = 0 := by omega
        have hz3 : ((got.length : Int) == 0) = false := by simpa using hz1
        obtain ⟨c0, c1, c2, c3, c4, c5, -⟩ := HS4.out.cells
        have a1 : W4.cell? ⟨A0, 1, none⟩ = some (.int .i64 xn) := HA4.out.cell 1 _ rfl
        have hq1 := smal_bd xn (got.length : Int) (by omega)
        have HQ1 := mkH (fun W => small_any W xn (got.length : Int) (by omega) (by omega))
        obtain ⟨q, hq⟩ : ∃ q : Nat, smal xn (got.length : Int) = (q : Int) := ⟨(smal xn (got.length : Int)).toNat, by omega⟩
        rw [hq] at hq1
        simp only [hq] at HQ1
        clear hq
        have hql : (q : Int) < (got.length : Int) := hq1.2
        obtain ⟨y, hy⟩ := some_of (l := got) (i := q) (by omega)
        obtain ⟨gb, goff, rfl, p0, p1, p2, p3, p4, p5⟩ := atK (RowS.own kC_len HS4.out.o) hy
        obtain ⟨ys, yn, yc, yt, yf, yb⟩ := y
        simp only at p0 p1 p2 p3 p4 p5
        go_upto_region 39 with fail
        have hik : (Tryd.prog.info? 61).map (·.size) = some 6 := by kernel_rfl
        refine Rg.cutU (β := Nat) (fun b u => #[.slice (some ⟨ba, off, none⟩) acts.length cap, .int .i64 mo, .int .i64 ro, u 3, u 4, u 5, u 6, .pointer (some ⟨B, 0, none⟩), .int .i64 (k : Int), .pointer (some ⟨A0, 0, none⟩), u 10, u 11, u 12, u 13, u 14, u 15, u 16, u 17, u 18, u 19, .pointer (some ⟨b, 0, none⟩), u 21, u 22, u 23, u 24, u 25, u 26, u 27, u 28, u 29, u 30, u 31, u 32, u 33, u 34, u 35, u 36, u 37, u 38, u 39, u 40, u 41, u 42, u 43, u 44, u 45, u 46, u 47, u 48, u 49, u 50, u 51, u 52, u 53, u 54, u 55, u 56, u 57, u 58, u 59, u 60, u 61, u 62, u 63, u 64, u 65, u 66, u 67, u 68, u 69, u 70, u 71, u 72, u 73, u 74, u 75, u 76, u 77, u 78, u 79, u 80, u 81, u 82, u 83, u 84, u 85, u 86, u 87, u 88, u 89, u 90, u 91, u 92, u 93, u 94, u 95, u 96, u 97, u 98, u 99, u 100, u 101, u 102, u 103, u 104, u 105, u 106, u 107, u 108, u 109, u 110, u 111, u 112, u 113, u 114, u 115, u 116, u 117, u 118, u 119, u 120, u 121, u 122, u 123, u 124, u 125, u 126, u 127, u 128, u 129, u 130, u 131, u 132, u 133, u 134, u 135, u 136, u 137, u 138, u 139, u 140, u 141, u 142, u 143, u 144, u 145, u 146, u 147, u 148, u 149, u 150, u 151, u 152, u 153, u 154, u 155, u 156, u 157, u 158, u 159, u 160, u 161, u 162, u 163, u 164, u 165, u 166, u 167, u 168, u 169, u 170, u 171, u 172, u 173, u 174, u 175, u 176, u 177, u 178, u 179, u 180, u 181, u 182, u 183, u 184, u 185, u 186, u 187, u 188, u 189, u 190, u 191, u 192, u 193, u 194, u 195, u 196, u 197, u 198, u 199, u 200, u 201, u 202, u 203, u 204, u 205, u 206, u 207, u 208, u 209, u 210, u 211, u 212, u 213, u 214, u 215, u 216, u 217, u 218, u 219, u 220, u 221, u 222, u 223, u 224, u 225, u 226, u 227, u 228, u 229, u 230, u 231, u 232, u 233, u 234, u 235, u 236, u 237, u 238, u 239, u 240, u 241, u 242, u 243, u 244, u 245, u 246, u 247, u 248, u 249, u 250, u 251, u 252, u 253, u 254, u 255, u 256, u 257, u 258, u 259, u 260, u 261, u 262, u 263, u 264, u 265, u 266, u 267, u 268, u 269, u 270, u 271, u 272, u 273, u 274, u 275, u 276, u 277, u 278, u 279, u 280, u 281, u 282, u 283, u 284, u 285, u 286, u 287, u 288, u 289, u 290, u 291, u 292, u 293, u 294, u 295, u 296, u 297, u 298, u 299, u 300, u 301, u 302, u 303, u 304, u 305, u 306, u 307, u 308, u 309, u 310, u 311, u 312, u 313, u 314, u 315]) (fun b WW => b ≠ B ∧ Hid (Sy w WW B ⟨n2, k2, m2, t2⟩ nw got ka2 kc2 ma2 mc2 (some ⟨gb, goff, none⟩) gc b6 b7) ∧ Hid (Bx WW A0 #[Value.int .i64 3, .int .i64 xn, .int .i64 xs, .int .i64 xw, .string xb, .string xt] 53) ∧ Hid (Bx WW b #[Value.int .i64 ys, .int .i64 yn, .int .i64 yc, .int .i64 yt, .int .i64 yf, .string yb] 61)) ?rest5 ?first5
        case first5 =>
          intro K5 HK5
          refine Rg.region_G hmx 15 (fun W => W.cell? ⟨B, 5, none⟩ = some (.slice (some ⟨gb, goff, none⟩) got.length gc) ∧ W.cell? ⟨A0, 1, none⟩ = some (.int .i64 xn) ∧ W.cell? ⟨gb, goff + q * 6, none⟩ = some (.int .i64 ys) ∧ W.cell? ⟨gb, goff + q * 6 + 1, none⟩ = some (.int .i64 yn) ∧ W.cell? ⟨gb, goff + q * 6 + 2, none⟩ = some (.int .i64 yc) ∧ W.cell? ⟨gb, goff + q * 6 + 3, none⟩ = some (.int .i64 yt) ∧ W.cell? ⟨gb, goff + q * 6 + 4, none⟩ = some (.int .i64 yf) ∧ W.cell? ⟨gb, goff + q * 6 + 5, none⟩ = some (.string yb)) ⟨c5, a1, p0, p1, p2, p3, p4, p5⟩ (fun hHeld => ?_)
          have HSV0 := mkH (HS4.out.below (below_drew _))
          have HAV0 := mkH (HA4.out.bel (below_drew _))
          have HY := mkH hy
          generalize W4.drew = V0 at *
          refine Rg.anyG_pure (i := 0) (oi := { dst := some 227, op := _, type := _, pos := _, after := _, guard := _ }) (v := ?_) rfl (by kernel_rfl) (by kernel_rfl) (by kernel_rfl) (by rfl) (fun _ _ _ h => h) (Or.inl ⟨by rfl, ?_⟩) (fun _ => by assumption) ?_
          rotate_left
          · (intro W hSw; (try dsimp only at hSw); go_simp; try (with_reducible rfl))
          try simp only [Act.put, List.setIfInBounds_toArray, List.set_cons_zero, List.set_cons_succ]
          refine Rg.anyG_pure (i := 1) (oi := { dst := some 228, op := _, type := _, pos := _, after := _, guard := _ }) (v := ?_) rfl (by kernel_rfl) (by kernel_rfl) (by kernel_rfl) (by rfl) (fun _ _ _ h => h) (Or.inl ⟨by rfl, ?_⟩) (fun _ => by assumption) ?_
          rotate_left
          · (intro W hSw; (try dsimp only at hSw); go_simp; try (with_reducible rfl))
          try simp only [Act.put, List.setIfInBounds_toArray, List.set_cons_zero, List.set_cons_succ]
          refine Rg.anyG_pure (i := 2) (oi := { dst := some 229, op := _, type := _, pos := _, after := _, guard := _ }) (v := ?_) rfl (by kernel_rfl) (by kernel_rfl) (by kernel_rfl) (by rfl) (fun _ _ _ h => h) (Or.inl ⟨by rfl, ?_⟩) (fun _ => by assumption) ?_
          rotate_left
          · (intro W hSw; (try dsimp only at hSw); go_simp; try (with_reducible rfl))
          try simp only [Act.put, List.setIfInBounds_toArray, List.set_cons_zero, List.set_cons_succ]
          refine Rg.anyG_take (i := 3) (oi := { dst := some 230, op := _, type := _, pos := _, after := _, guard := _ }) (v := ?_) rfl (by kernel_rfl) (by kernel_rfl) (by kernel_rfl) [15] (by kernel_rfl) (fun _ _ _ h => h) (Or.inl ⟨by rfl, ?_⟩) (by assumption) ?_
          rotate_left
          · (intro W hSw; (try dsimp only at hSw); go_simp; try (with_reducible rfl))
          try simp only [Act.put, List.setIfInBounds_toArray, List.set_cons_zero, List.set_cons_succ]
          refine Rg.anyG_pure (i := 4) (oi := { dst := some 231, op := _, type := _, pos := _, after := _, guard := _ }) (v := ?_) rfl (by kernel_rfl) (by kernel_rfl) (by kernel_rfl) (by rfl) (fun _ _ _ h => h) (Or.inl ⟨by rfl, ?_⟩) (fun _ => by assumption) ?_
          rotate_left
          · (intro W hSw; (try dsimp only at hSw); go_simp; try (with_reducible rfl))
          try simp only [Act.put, List.setIfInBounds_toArray, List.set_cons_zero, List.set_cons_succ]
          refine Rg.anyG_take (i := 5) (oi := { dst := some 232, op := _, type := _, pos := _, after := _, guard := _ }) (v := ?_) rfl (by kernel_rfl) (by kernel_rfl) (by kernel_rfl) [15] (by kernel_rfl) (fun _ _ _ h => h) (Or.inl ⟨by rfl, ?_⟩) (by assumption) ?_
          rotate_left
          · (intro W hSw; (try dsimp only at hSw); go_simp; try (with_reducible rfl))
          try simp only [Act.put, List.setIfInBounds_toArray, List.set_cons_zero, List.set_cons_succ]
          refine Rg.anyG_pure (i := 6) (oi := { dst := some 233, op := _, type := _, pos := _, after := _, guard := _ }) (v := ?_) rfl (by kernel_rfl) (by kernel_rfl) (by kernel_rfl) (by rfl) (fun _ _ _ h => h) (Or.inl ⟨by rfl, ?_⟩) (fun _ => by assumption) ?_
          rotate_left
          · (intro W hSw; (try dsimp only at hSw); go_simp; try (with_reducible rfl))
          try simp only [Act.put, List.setIfInBounds_toArray, List.set_cons_zero, List.set_cons_succ]
          refine Rg.anyG_pure (i := 7) (oi := { dst := some 234, op := _, type := _, pos := _, after := _, guard := _ }) (v := ?_) rfl (by kernel_rfl) (by kernel_rfl) (by kernel_rfl) (by rfl) (fun _ _ _ h => h) (Or.inl ⟨by rfl, ?_⟩) (fun _ => by assumption) ?_
          rotate_left
          · (intro W hSw; (try dsimp only at hSw); go_simp; try (with_reducible rfl))
          try simp only [Act.put, List.setIfInBounds_toArray, List.set_cons_zero, List.set_cons_succ]
          refine Rg.anyG_pure (i := 8) (oi := { dst := some 235, op := _, type := _, pos := _, after := _, guard := _ }) (v := ?_) rfl (by kernel_rfl) (by kernel_rfl) (by kernel_rfl) (by rfl) (fun _ _ _ h => h) (Or.inl ⟨by rfl, ?_⟩) (fun _ => by assumption) ?_
          rotate_left
          · (intro W hSw; (try dsimp only at hSw); go_simp; try (with_reducible rfl))
          try simp only [Act.put, List.setIfInBounds_toArray, List.set_cons_zero, List.set_cons_succ]
          refine Rg.anyG_take (i := 9) (oi := { dst := some 236, op := _, type := _, pos := _, after := _, guard := _ }) (v := ?_) rfl (by kernel_rfl) (by kernel_rfl) (by kernel_rfl) [15] (by kernel_rfl) (fun _ _ _ h => h) (Or.inl ⟨by rfl, ?_⟩) (by assumption) ?_
          rotate_left
          · (intro W hSw; (try dsimp only at hSw); go_simp; try (with_reducible rfl))
          try simp only [Act.put, List.setIfInBounds_toArray, List.set_cons_zero, List.set_cons_succ]
          refine Rg.anyG_pure (i := 10) (oi := { dst := some 237, op := _, type := _, pos := _, after := _, guard := _ }) (v := ?_) rfl (by kernel_rfl) (by kernel_rfl) (by kernel_rfl) (by rfl) (fun _ _ _ h => h) (Or.inl ⟨by rfl, ?_⟩) (fun _ => by assumption) ?_
          rotate_left
          · (intro W hSw; (try dsimp only at hSw); go_simp; try (with_reducible rfl))
          try simp only [Act.put, List.setIfInBounds_toArray, List.set_cons_zero, List.set_cons_succ]
          refine Rg.anyG_ready (rs := [11, 14]) (by kernel_rfl) (by simp) ?_
          refine (Rg.AllG.cons (o := { dst := some 238, op := _, type := _, pos := _, after := _, guard := _ }) rfl (fun K hK => ?_) (Rg.AllG.cons (o := { dst := some 20, op := _, type := _, pos := _, after := _, guard := _ }) rfl (fun K hK => ?_) Rg.AllG.nil))
          · go_simp
            refine (HQ1.out _).mono ?_
            rintro e1 x1 ⟨rfl, hx1⟩
            have hx1' := hx1.symm
            subst hx1'
            clear hx1
            go_wp2_with fail
            refine hK.out _ _ ?_ (fun hHeld => ?_)
            · assumption
            clear hK K
            try simp only [Act.put, List.setIfInBounds_toArray, List.set_cons_zero, List.set_cons_succ]
            refine Rg.anyG_pure (i := 12) (oi := { dst := some 239, op := _, type := _, pos := _, after := _, guard := _ }) (v := ?_) rfl (by kernel_rfl) (by kernel_rfl) (by kernel_rfl) (by rfl) (fun _ _ _ h => h) (Or.inl ⟨by rfl, ?_⟩) (fun _ => by assumption) ?_
            rotate_left
            · (intro W hSw; (try dsimp only at hSw); go_simp; try (with_reducible rfl))
            try simp only [Act.put, List.setIfInBounds_toArray, List.set_cons_zero, List.set_cons_succ]
            refine Rg.anyG_take (i := 13) (oi := { dst := some 240, op := _, type := _, pos := _, after := _, guard := _ }) (v := ?_) rfl (by kernel_rfl) (by kernel_rfl) (by kernel_rfl) [15] (by kernel_rfl) (fun _ _ _ h => h) (Or.inl ⟨by rfl, ?_⟩) (by assumption) ?_
            rotate_left
            · (intro W hSw; (try dsimp only at hSw); go_simp; try (with_reducible rfl))
            try simp only [Act.put, List.setIfInBounds_toArray, List.set_cons_zero, List.set_cons_succ]
            refine Rg.anyG_ready (rs := [14]) (by kernel_rfl) (by simp) ?_
            refine (Rg.AllG.cons (o := { dst := some 20, op := _, type := _, pos := _, after := _, guard := _ }) rfl (fun K hK => ?_) Rg.AllG.nil)
            go_simp
            have hal : Below V0.heap.size V0 (V0.alloc (.cells #[Value.int .i64 0, .int .i64 0, .int .i64 0, .int .i64 0, .int .i64 0, .string ⟨#[]⟩] 61)) := (Below.refl _ _).alloc (Nat.le_refl _) _
            have HSV1 := mkH (HSV0.out.below hal)
            have HAV1 := mkH (HAV0.out.bel hal)
            have HYV1 := mkH (Bx.new V0 #[Value.int .i64 0, .int .i64 0, .int .i64 0, .int .i64 0, .int .i64 0, .string ⟨#[]⟩] 61)
            have hB1 : V0.heap.size ≠ B := Nat.ne_of_gt HSV0.out.b.lt
            have hB2 : V0.heap.size ≠ A0 := Nat.ne_of_gt HAV0.out.lt
            have hB4 : ∀ k, (Value.slice (some ⟨gb, goff, none⟩) got.length gc).ownBlock = some k → k < V0.heap.size := fun k hk => (HSV0.out.o.lt k hk).2
            have HB4 := mkH hB4
            have HRW : Hid (∀ {W W' : World}, Gl W ⟨n2, k2, m2, t2⟩ ka2 kc2 ma2 mc2 → Fr (fun x => x = V0.heap.size) W W' → Gl W' ⟨n2, k2, m2, t2⟩ ka2 kc2 ma2 mc2) := fun h hF => glNew h HSV0.out.l hF
            have hBw : w.heap.size ≤ V0.heap.size := HSV0.out.bl.size
            clear hal hB4
            generalize V0.alloc (.cells #[Value.int .i64 0, .int .i64 0, .int .i64 0, .int .i64 0, .int .i64 0, .string ⟨#[]⟩] 61) = V1 at *
            generalize V0.heap.size = Y1 at HYV1 hB1 hB2 HB4 HRW hBw ⊢
            refine hK.out _ _ ?_ (fun hHeld => ?_)
            · (obtain ⟨gb', goff', he', p0', p1', p2', p3', p4', p5'⟩ := atK (RowS.own kC_len HSV1.out.o) HY.out; cases he'; exact ⟨HSV1.out.b.cell 5 _ rfl, HAV1.out.cell 1 _ rfl, p0', p1', p2', p3', p4', p5'⟩)
            clear hK K
            try simp only [Act.put, List.setIfInBounds_toArray, List.set_cons_zero, List.set_cons_succ]
            refine Rg.anyG_ready (rs := [15]) (by kernel_rfl) (by simp) ?_
            refine Rg.AllG.last (o := { dst := none, op := _, type := _, pos := _, after := _, guard := _ }) rfl (by kernel_rfl) (fun K hK => ?_)
            refine step_st (by rfl) 61 (.tmp 20) (.tmp 240) (by rfl) Y1 #[Value.int .i64 ys, .int .i64 yn, .int .i64 yc, .int .i64 yt, .int .i64 yf, .string yb] #[Value.int .i64 0, .int .i64 0, .int .i64 0, .int .i64 0, .int .i64 0, .string ⟨#[]⟩] 61 (by rfl) (by rfl) HYV1.out hik (by rfl) (by simp [Value.oneCell']) ?_
            refine hK.out _ _ ?_
            clear hK K
            try simp only [Act.put, List.setIfInBounds_toArray, List.set_cons_zero, List.set_cons_succ]
            refine Rg.anyG_done (by kernel_rfl) ?_ _
            go_wp2_with fail
            refine Rg.meetU _ (fun u => HK5.out Y1 u _ ?_) (by kernel_rfl)
            (have hfs : Fr (fun x => x = Y1) V1 (V1.setRow Y1 #[Value.int .i64 ys, .int .i64 yn, .int .i64 yc, .int .i64 yt, .int .i64 yf, .string yb]) := Bx.frrow _; exact ⟨hB1, syFr HSV1.out hfs hB1 (fun e => Nat.lt_irrefl _ (HB4.out _ e)) (HRW.out HSV1.out.l hfs) hBw, HAV1.out.fr hfs (Ne.symm hB2), HYV1.out.row⟩)
          · go_simp
            have hal : Below V0.heap.size V0 (V0.alloc (.cells #[Value.int .i64 0, .int .i64 0, .int .i64 0, .int .i64 0, .int .i64 0, .string ⟨#[]⟩] 61)) := (Below.refl _ _).alloc (Nat.le_refl _) _
            have HSV1 := mkH (HSV0.out.below hal)
            have HAV1 := mkH (HAV0.out.bel hal)
            have HYV1 := mkH (Bx.new V0 #[Value.int .i64 0, .int .i64 0, .int .i64 0, .int .i64 0, .int .i64 0, .string ⟨#[]⟩] 61)
            have hB1 : V0.heap.size ≠ B := Nat.ne_of_gt HSV0.out.b.lt
            have hB2 : V0.heap.size ≠ A0 := Nat.ne_of_gt HAV0.out.lt
            have hB4 : ∀ k, (Value.slice (some ⟨gb, goff, none⟩) got.length gc).ownBlock = some k → k < V0.heap.size := fun k hk => (HSV0.out.o.lt k hk).2
            have HB4 := mkH hB4
            have HRW : Hid (∀ {W W' : World}, Gl W ⟨n2, k2, m2, t2⟩ ka2 kc2 ma2 mc2 → Fr (fun x => x = V0.heap.size) W W' → Gl W' ⟨n2, k2, m2, t2⟩ ka2 kc2 ma2 mc2) := fun h hF => glNew h HSV0.out.l hF
            have hBw : w.heap.size ≤ V0.heap.size := HSV0.out.bl.size
            clear hal hB4
            generalize V0.alloc (.cells #[Value.int .i64 0, .int .i64 0, .int .i64 0, .int .i64 0, .int .i64 0, .string ⟨#[]⟩] 61) = V1 at *
            generalize V0.heap.size = Y1 at HYV1 hB1 hB2 HB4 HRW hBw ⊢
            refine hK.out _ _ ?_ (fun hHeld => ?_)
            · (obtain ⟨gb', goff', he', p0', p1', p2', p3', p4', p5'⟩ := atK (RowS.own kC_len HSV1.out.o) HY.out; cases he'; exact ⟨HSV1.out.b.cell 5 _ rfl, HAV1.out.cell 1 _ rfl, p0', p1', p2', p3', p4', p5'⟩)
            clear hK K
            try simp only [Act.put, List.setIfInBounds_toArray, List.set_cons_zero, List.set_cons_succ]
            refine Rg.anyG_ready (rs := [11]) (by kernel_rfl) (by simp) ?_
            refine (Rg.AllG.cons (o := { dst := some 238, op := _, type := _, pos := _, after := _, guard := _ }) rfl (fun K hK => ?_) Rg.AllG.nil)
            go_simp
            refine (HQ1.out _).mono ?_
            rintro e1 x1 ⟨rfl, hx1⟩
            have hx1' := hx1.symm
            subst hx1'
            clear hx1
            go_wp2_with fail
            refine hK.out _ _ ?_ (fun hHeld => ?_)
            · assumption
            clear hK K
            try simp only [Act.put, List.setIfInBounds_toArray, List.set_cons_zero, List.set_cons_succ]
            refine Rg.anyG_pure (i := 12) (oi := { dst := some 239, op := _, type := _, pos := _, after := _, guard := _ }) (v := ?_) rfl (by kernel_rfl) (by kernel_rfl) (by kernel_rfl) (by rfl) (fun _ _ _ h => h) (Or.inl ⟨by rfl, ?_⟩) (fun _ => by assumption) ?_
            rotate_left
            · (intro W hSw; (try dsimp only at hSw); go_simp; try (with_reducible rfl))
            try simp only [Act.put, List.setIfInBounds_toArray, List.set_cons_zero, List.set_cons_succ]
            refine Rg.anyG_take (i := 13) (oi := { dst := some 240, op := _, type := _, pos := _, after := _, guard := _ }) (v := ?_) rfl (by kernel_rfl) (by kernel_rfl) (by kernel_rfl) [15] (by kernel_rfl) (fun _ _ _ h => h) (Or.inl ⟨by rfl, ?_⟩) (by assumption) ?_
            rotate_left
            · (intro W hSw; (try dsimp only at hSw); go_simp; try (with_reducible rfl))
            try simp only [Act.put, List.setIfInBounds_toArray, List.set_cons_zero, List.set_cons_succ]
            refine Rg.anyG_ready (rs := [15]) (by kernel_rfl) (by simp) ?_
            refine Rg.AllG.last (o := { dst := none, op := _, type := _, pos := _, after := _, guard := _ }) rfl (by kernel_rfl) (fun K hK => ?_)
            refine step_st (by rfl) 61 (.tmp 20) (.tmp 240) (by rfl) Y1 #[Value.int .i64 ys, .int .i64 yn, .int .i64 yc, .int .i64 yt, .int .i64 yf, .string yb] #[Value.int .i64 0, .int .i64 0, .int .i64 0, .int .i64 0, .int .i64 0, .string ⟨#[]⟩] 61 (by rfl) (by rfl) HYV1.out hik (by rfl) (by simp [Value.oneCell']) ?_
            refine hK.out _ _ ?_
            clear hK K
            try simp only [Act.put, List.setIfInBounds_toArray, List.set_cons_zero, List.set_cons_succ]
            refine Rg.anyG_done (by kernel_rfl) ?_ _
            go_wp2_with fail
            refine Rg.meetU _ (fun u => HK5.out Y1 u _ ?_) (by kernel_rfl)
            (have hfs : Fr (fun x => x = Y1) V1 (V1.setRow Y1 #[Value.int .i64 ys, .int .i64 yn, .int .i64 yc, .int .i64 yt, .int .i64 yf, .string yb]) := Bx.frrow _; exact ⟨hB1, syFr HSV1.out hfs hB1 (fun e => Nat.lt_irrefl _ (HB4.out _ e)) (HRW.out HSV1.out.l hfs) hBw, HAV1.out.fr hfs (Ne.symm hB2), HYV1.out.row⟩)
        case rest5 =>
          rintro Y1 u W6 ⟨hYB, HS6, HA6, HY6⟩
          dsimp only at HY6 ⊢
          clear c0 c1 c2 c3 c4 c5 a0 a1 p0 p1 p2 p3 p4 p5 HS4 HA4 HQ1 hy
          have a0 : W6.cell? ⟨A0, 0, none⟩ = some (.int .i64 3) := HA6.out.cell 0 _ rfl
          have e0 : W6.cell? ⟨Y1, 0, none⟩ = some (.int .i64 ys) := HY6.out.cell 0 _ rfl
          have e2 : W6.cell? ⟨Y1, 2, none⟩ = some (.int .i64 yc) := HY6.out.cell 2 _ rfl
          obtain ⟨c0, c1, c2, c3, c4, c5, -⟩ := HS6.out.cells
          have a2 : W6.cell? ⟨A0, 2, none⟩ = some (.int .i64 xs) := HA6.out.cell 2 _ rfl
          have hq2 := smal_bd xs 60 (by decide)
          have HQ2 := mkH (fun W => small_any W xs 60 (by decide) (by decide))
          generalize smal xs 60 = y2 at *
          obtain ⟨g3, hg3⟩ : ∃ x, chgG ⟨n2, k2, m2, t2⟩ nw ys yc y2 = x := ⟨_, rfl⟩
          obtain ⟨E3, hE3⟩ : ∃ x, chgE ⟨n2, k2, m2, t2⟩ nw ys yc = x := ⟨_, rfl⟩
          have hX := Gj.Change_any W6.drew ⟨n2, k2, m2, t2⟩ ka2 kc2 ma2 mc2 (HS6.out.l.below (below_drew _)) (by have := HJ2.out.kl; omega) (by have := HJ2.out.ml; omega) nw ys yc y2 ⟨hn2, by omega⟩ ⟨hq2.1, by omega⟩ g3 hg3 E3 hE3
          have hJ3 := HJ2.out.chg nw ys yc y2 ⟨hn2, by omega⟩ ⟨hq2.1, by omega⟩
          rw [hg3] at hJ3
          obtain ⟨n3, k3, m3, t3⟩ := g3
          simp only [gC] at hX
          have HX := mkH hX
          have HJ3 : Hid (J (k + 1) ⟨n3, k3, m3, t3⟩) := hJ3.up (by omega)
          clear hX hJ3 hg3 hE3
          go_upto_region 42 with fail
          refine Rg.region_G hmx 22 (fun W => W.cell? ⟨B, 0, none⟩ = some (.int .i64 n2) ∧ W.cell? ⟨B, 1, none⟩ = some (.slice ka2 k2.length kc2) ∧ W.cell? ⟨B, 2, none⟩ = some (.slice ma2 m2.length mc2) ∧ W.cell? ⟨B, 3, none⟩ = some (.string t2) ∧ W.cell? ⟨B, 4, none⟩ = some (.int .i64 nw) ∧ W.cell? ⟨Y1, 0, none⟩ = some (.int .i64 ys) ∧ W.cell? ⟨Y1, 2, none⟩ = some (.int .i64 yc) ∧ W.cell? ⟨A0, 2, none⟩ = some (.int .i64 xs)) ⟨c0, c1, c2, c3, c4, e0, e2, a2⟩ (fun hHeld => ?_)
          refine Rg.anyG_pure (i := 0) (oi := { dst := some 264, op := _, type := _, pos := _, after := _, guard := _ }) (v := ?_) rfl (by kernel_rfl) (by kernel_rfl) (by kernel_rfl) (by rfl) (fun _ _ _ h => h) (Or.inl ⟨by rfl, ?_⟩) (fun _ => by assumption) ?_
          rotate_left
          · (intro W hSw; (try dsimp only at hSw); go_simp; try (with_reducible rfl))
          try simp only [Act.put, List.setIfInBounds_toArray, List.set_cons_zero, List.set_cons_succ]
          refine Rg.anyG_pure (i := 1) (oi := { dst := some 265, op := _, type := _, pos := _, after := _, guard := _ }) (v := ?_) rfl (by kernel_rfl) (by kernel_rfl) (by kernel_rfl) (by rfl) (fun _ _ _ h => h) (Or.inl ⟨by rfl, ?_⟩) (fun _ => by assumption) ?_
          rotate_left
          · (intro W hSw; (try dsimp only at hSw); go_simp; try (with_reducible rfl))
          try simp only [Act.put, List.setIfInBounds_toArray, List.set_cons_zero, List.set_cons_succ]
          refine Rg.anyG_pure (i := 2) (oi := { dst := some 266, op := _, type := _, pos := _, after := _, guard := _ }) (v := ?_) rfl (by kernel_rfl) (by kernel_rfl) (by kernel_rfl) (by rfl) (fun _ _ _ h => h) (Or.inl ⟨by rfl, ?_⟩) (fun _ => by assumption) ?_
          rotate_left
          · (intro W hSw; (try dsimp only at hSw); go_simp; try (with_reducible rfl))
          try simp only [Act.put, List.setIfInBounds_toArray, List.set_cons_zero, List.set_cons_succ]
          refine Rg.anyG_pure (i := 3) (oi := { dst := some 267, op := _, type := _, pos := _, after := _, guard := _ }) (v := ?_) rfl (by kernel_rfl) (by kernel_rfl) (by kernel_rfl) (by rfl) (fun _ _ _ h => h) (Or.inl ⟨by rfl, ?_⟩) (fun _ => by assumption) ?_
          rotate_left
          · (intro W hSw; (try dsimp only at hSw); go_simp; try (with_reducible rfl))
          try simp only [Act.put, List.setIfInBounds_toArray, List.set_cons_zero, List.set_cons_succ]
          refine Rg.anyG_take (i := 4) (oi := { dst := some 268, op := _, type := _, pos := _, after := _, guard := _ }) (v := ?_) rfl (by kernel_rfl) (by kernel_rfl) (by kernel_rfl) [22] (by kernel_rfl) (fun _ _ _ h => h) (Or.inl ⟨by rfl, ?_⟩) (by assumption) ?_
          rotate_left
          · (intro W hSw; (try dsimp only at hSw); go_simp; try (with_reducible rfl))
          try simp only [Act.put, List.setIfInBounds_toArray, List.set_cons_zero, List.set_cons_succ]
          refine Rg.anyG_pure (i := 5) (oi := { dst := some 269, op := _, type := _, pos := _, after := _, guard := _ }) (v := ?_) rfl (by kernel_rfl) (by kernel_rfl) (by kernel_rfl) (by rfl) (fun _ _ _ h => h) (Or.inl ⟨by rfl, ?_⟩) (fun _ => by assumption) ?_
          rotate_left
          · (intro W hSw; (try dsimp only at hSw); go_simp; try (with_reducible rfl))
          try simp only [Act.put, List.setIfInBounds_toArray, List.set_cons_zero, List.set_cons_succ]
          refine Rg.anyG_pure (i := 6) (oi := { dst := some 270, op := _, type := _, pos := _, after := _, guard := _ }) (v := ?_) rfl (by kernel_rfl) (by kernel_rfl) (by kernel_rfl) (by rfl) (fun _ _ _ h => h) (Or.inl ⟨by rfl, ?_⟩) (fun _ => by assumption) ?_
          rotate_left
          · (intro W hSw; (try dsimp only at hSw); go_simp; try (with_reducible rfl))
          try simp only [Act.put, List.setIfInBounds_toArray, List.set_cons_zero, List.set_cons_succ]
          refine Rg.anyG_pure (i := 7) (oi := { dst := some 271, op := _, type := _, pos := _, after := _, guard := _ }) (v := ?_) rfl (by kernel_rfl) (by kernel_rfl) (by kernel_rfl) (by rfl) (fun _ _ _ h => h) (Or.inl ⟨by rfl, ?_⟩) (fun _ => by assumption) ?_
          rotate_left
          · (intro W hSw; (try dsimp only at hSw); go_simp; try (with_reducible rfl))
          try simp only [Act.put, List.setIfInBounds_toArray, List.set_cons_zero, List.set_cons_succ]
          refine Rg.anyG_take (i := 8) (oi := { dst := some 272, op := _, type := _, pos := _, after := _, guard := _ }) (v := ?_) rfl (by kernel_rfl) (by kernel_rfl) (by kernel_rfl) [22] (by kernel_rfl) (fun _ _ _ h => h) (Or.inl ⟨by rfl, ?_⟩) (by assumption) ?_
          rotate_left
          · (intro W hSw; (try dsimp only at hSw); go_simp; try (with_reducible rfl))
          try simp only [Act.put, List.setIfInBounds_toArray, List.set_cons_zero, List.set_cons_succ]
          refine Rg.anyG_pure (i := 9) (oi := { dst := some 273, op := _, type := _, pos := _, after := _, guard := _ }) (v := ?_) rfl (by kernel_rfl) (by kernel_rfl) (by kernel_rfl) (by rfl) (fun _ _ _ h => h) (Or.inl ⟨by rfl, ?_⟩) (fun _ => by assumption) ?_
          rotate_left
          · (intro W hSw; (try dsimp only at hSw); go_simp; try (with_reducible rfl))
          try simp only [Act.put, List.setIfInBounds_toArray, List.set_cons_zero, List.set_cons_succ]
          refine Rg.anyG_take (i := 10) (oi := { dst := some 274, op := _, type := _, pos := _, after := _, guard := _ }) (v := ?_) rfl (by kernel_rfl) (by kernel_rfl) (by kernel_rfl) [22] (by kernel_rfl) (fun _ _ _ h => h) (Or.inl ⟨by rfl, ?_⟩) (by assumption) ?_
          rotate_left
          · (intro W hSw; (try dsimp only at hSw); go_simp; try (with_reducible rfl))
          try simp only [Act.put, List.setIfInBounds_toArray, List.set_cons_zero, List.set_cons_succ]
          refine Rg.anyG_pure (i := 11) (oi := { dst := some 275, op := _, type := _, pos := _, after := _, guard := _ }) (v := ?_) rfl (by kernel_rfl) (by kernel_rfl) (by kernel_rfl) (by rfl) (fun _ _ _ h => h) (Or.inl ⟨by rfl, ?_⟩) (fun _ => by assumption) ?_
          rotate_left
          · (intro W hSw; (try dsimp only at hSw); go_simp; try (with_reducible rfl))
          try simp only [Act.put, List.setIfInBounds_toArray, List.set_cons_zero, List.set_cons_succ]
          refine Rg.anyG_take (i := 12) (oi := { dst := some 276, op := _, type := _, pos := _, after := _, guard := _ }) (v := ?_) rfl (by kernel_rfl) (by kernel_rfl) (by kernel_rfl) [22] (by kernel_rfl) (fun _ _ _ h => h) (Or.inl ⟨by rfl, ?_⟩) (by assumption) ?_
          rotate_left
          · (intro W hSw; (try dsimp only at hSw); go_simp; try (with_reducible rfl))
          try simp only [Act.put, List.setIfInBounds_toArray, List.set_cons_zero, List.set_cons_succ]
          refine Rg.anyG_pure (i := 13) (oi := { dst := some 277, op := _, type := _, pos := _, after := _, guard := _ }) (v := ?_) rfl (by kernel_rfl) (by kernel_rfl) (by kernel_rfl) (by rfl) (fun _ _ _ h => h) (Or.inl ⟨by rfl, ?_⟩) (fun _ => by assumption) ?_
          rotate_left
          · (intro W hSw; (try dsimp only at hSw); go_simp; try (with_reducible rfl))
          try simp only [Act.put, List.setIfInBounds_toArray, List.set_cons_zero, List.set_cons_succ]
          refine Rg.anyG_take (i := 14) (oi := { dst := some 278, op := _, type := _, pos := _, after := _, guard := _ }) (v := ?_) rfl (by kernel_rfl) (by kernel_rfl) (by kernel_rfl) [22] (by kernel_rfl) (fun _ _ _ h => h) (Or.inl ⟨by rfl, ?_⟩) (by assumption) ?_
          rotate_left
          · (intro W hSw; (try dsimp only at hSw); go_simp; try (with_reducible rfl))
          try simp only [Act.put, List.setIfInBounds_toArray, List.set_cons_zero, List.set_cons_succ]
          refine Rg.anyG_ready (rs := [15]) (by kernel_rfl) (by simp) ?_
          refine (Rg.AllG.cons (o := { dst := some 279, op := _, type := _, pos := _, after := _, guard := _ }) rfl (fun K hK => ?_) Rg.AllG.nil)
          go_simp
          refine (HQ2.out _).mono ?_
          rintro e1 x1 ⟨rfl, hx1⟩
          have hx1' := hx1.symm
          subst hx1'
          clear hx1
          go_wp2_with fail
          refine hK.out _ _ ?_ (fun hHeld => ?_)
          · assumption
          clear hK K
          try simp only [Act.put, List.setIfInBounds_toArray, List.set_cons_zero, List.set_cons_succ]
          refine Rg.anyG_ready (rs := [16]) (by kernel_rfl) (by simp) ?_
          refine (Rg.AllG.cons (o := { dst := some 280, op := _, type := _, pos := _, after := _, guard := _ }) rfl (fun K hK => ?_) Rg.AllG.nil)
          go_simp
          refine HX.out.mono ?_
          rintro e1 V ⟨ka3, kc3, ma3, mc3, rfl, hg5, hb5⟩
          have HSV := mkH (HS6.out.below ((below_drew W6).trans hb5))
          have HAV := mkH (HA6.out.bel ((below_drew W6).trans hb5))
          have HYV := mkH (HY6.out.bel ((below_drew W6).trans hb5))
          have HGV := mkH hg5
          clear hg5 hb5
          obtain ⟨c0, c1, c2, c3, c4, c5, -⟩ := HSV.out.cells
          obtain ⟨f0, f1, f2, f3, f4, f5⟩ := HSV.out.frz
          go_wp2_with fail
          refine hK.out _ _ ?_ (fun hHeld => ?_)
          · exact ⟨c0, c1, c2, c3, c4, HYV.out.cell 0 _ rfl, HYV.out.cell 2 _ rfl, HAV.out.cell 2 _ rfl⟩
          clear hK K
          try simp only [Act.put, List.setIfInBounds_toArray, List.set_cons_zero, List.set_cons_succ]
          refine Rg.anyG_pure (i := 17) (oi := { dst := some 263, op := _, type := _, pos := _, after := _, guard := _ }) (v := ?_) rfl (by kernel_rfl) (by kernel_rfl) (by kernel_rfl) (by rfl) (fun _ _ _ h => h) (Or.inl ⟨by rfl, ?_⟩) (fun _ => by assumption) ?_
          rotate_left
          · (intro W hSw; (try dsimp only at hSw); go_simp; try (with_reducible rfl))
          try simp only [Act.put, List.setIfInBounds_toArray, List.set_cons_zero, List.set_cons_succ]
          refine Rg.anyG_pure (i := 18) (oi := { dst := some 281, op := _, type := _, pos := _, after := _, guard := _ }) (v := ?_) rfl (by kernel_rfl) (by kernel_rfl) (by kernel_rfl) (by rfl) (fun _ _ _ h => h) (Or.inl ⟨by rfl, ?_⟩) (fun _ => by assumption) ?_
          rotate_left
          · (intro W hSw; (try dsimp only at hSw); go_simp; try (with_reducible rfl))
          try simp only [Act.put, List.setIfInBounds_toArray, List.set_cons_zero, List.set_cons_succ]
          refine Rg.anyG_pure (i := 19) (oi := { dst := some 282, op := _, type := _, pos := _, after := _, guard := _ }) (v := ?_) rfl (by kernel_rfl) (by kernel_rfl) (by kernel_rfl) (by rfl) (fun _ _ _ h => h) (Or.inl ⟨by rfl, ?_⟩) (fun _ => by assumption) ?_
          rotate_left
          · (intro W hSw; (try dsimp only at hSw); go_simp; try (with_reducible rfl))
          try simp only [Act.put, List.setIfInBounds_toArray, List.set_cons_zero, List.set_cons_succ]
          refine Rg.anyG_pure (i := 20) (oi := { dst := some 283, op := _, type := _, pos := _, after := _, guard := _ }) (v := ?_) rfl (by kernel_rfl) (by kernel_rfl) (by kernel_rfl) (by rfl) (fun _ _ _ h => h) (Or.inl ⟨by rfl, ?_⟩) (fun _ => by assumption) ?_
          rotate_left
          · (intro W hSw; (try dsimp only at hSw); go_simp; try (with_reducible rfl))
          try simp only [Act.put, List.setIfInBounds_toArray, List.set_cons_zero, List.set_cons_succ]
          refine Rg.anyG_pure (i := 21) (oi := { dst := some 284, op := _, type := _, pos := _, after := _, guard := _ }) (v := ?_) rfl (by kernel_rfl) (by kernel_rfl) (by kernel_rfl) (by rfl) (fun _ _ _ h => h) (Or.inl ⟨by rfl, ?_⟩) (fun _ => by assumption) ?_
          rotate_left
          · (intro W hSw; (try dsimp only at hSw); go_simp; try (with_reducible rfl))
          try simp only [Act.put, List.setIfInBounds_toArray, List.set_cons_zero, List.set_cons_succ]
          refine Rg.anyG_ready (rs := [22]) (by kernel_rfl) (by simp) ?_
          refine Rg.AllG.last (o := { dst := none, op := _, type := _, pos := _, after := _, guard := _ }) rfl (by kernel_rfl) (fun K hK => ?_)
          go_simp
          refine hK.out _ _ ?_
          clear hK K
          try simp only [Act.put, List.setIfInBounds_toArray, List.set_cons_zero, List.set_cons_succ]
          refine Rg.anyG_done (by kernel_rfl) ?_ _
          go_wp2_with fail
          refine Rg.meetU _ (fun u => HK1.out () u _ ?_) (by kernel_rfl)
          exact ⟨⟨n3, k3, m3, t3⟩, got, ka3, kc3, ma3, mc3, _, gc, HJ3, by omega, (HSV.out.setG HGV.out).1⟩
      have q3b : (xk == 3) = false := by simpa using q3
      go_wp2_with fail
      refine Rg.meetU _ (fun u => HK1.out () u _ ?_) (by kernel_rfl)
      exact ⟨_, got, ka2, kc2, ma2, mc2, ga, gc, HJ2.out.up (by omega), by omega, HS4⟩
    case rest =>
      rintro - u W5 ⟨g, got5, ka5, kc5, ma5, mc5, ga5, gc5, HJ5, hgl5, HS5⟩
      obtain ⟨n5, k5, m5, t5⟩ := g
      have hk5 : k5.length ≤ 12 := HJ5.out.kl
      clear HS4 HA4 HJ2 a0
      go_wp2_with fail
      refine Rg.loopU (β := Nat) (fun p u => #[.slice (some ⟨ba, off, none⟩) acts.length cap, .int .i64 mo, .int .i64 ro, u 3, u 4, u 5, u 6, .pointer (some ⟨B, 0, none⟩), .int .i64 (k : Int), u 9, u 10, u 11, u 12, u 13, u 14, u 15, u 16, u 17, u 18, u 19, u 20, .int .i64 (p : Int), u 22, u 23, u 24, u 25, u 26, u 27, u 28, u 29, u 30, u 31, u 32, u 33, u 34, u 35, u 36, u 37, u 38, u 39, u 40, u 41, u 42, u 43, u 44, u 45, u 46, u 47, u 48, u 49, u 50, u 51, u 52, u 53, u 54, u 55, u 56, u 57, u 58, u 59, u 60, u 61, u 62, u 63, u 64, u 65, u 66, u 67, u 68, u 69, u 70, u 71, u 72, u 73, u 74, u 75, u 76, u 77, u 78, u 79, u 80, u 81, u 82, u 83, u 84, u 85, u 86, u 87, u 88, u 89, u 90, u 91, u 92, u 93, u 94, u 95, u 96, u 97, u 98, u 99, u 100, u 101, u 102, u 103, u 104, u 105, u 106, u 107, u 108, u 109, u 110, u 111, u 112, u 113, u 114, u 115, u 116, u 117, u 118, u 119, u 120, u 121, u 122, u 123, u 124, u 125, u 126, u 127, u 128, u 129, u 130, u 131, u 132, u 133, u 134, u 135, u 136, u 137, u 138, u 139, u 140, u 141, u 142, u 143, u 144, u 145, u 146, u 147, u 148, u 149, u 150, u 151, u 152, u 153, u 154, u 155, u 156, u 157, u 158, u 159, u 160, u 161, u 162, u 163, u 164, u 165, u 166, u 167, u 168, u 169, u 170, u 171, u 172, u 173, u 174, u 175, u 176, u 177, u 178, u 179, u 180, u 181, u 182, u 183, u 184, u 185, u 186, u 187, u 188, u 189, u 190, u 191, u 192, u 193, u 194, u 195, u 196, u 197, u 198, u 199, u 200, u 201, u 202, u 203, u 204, u 205, u 206, u 207, u 208, u 209, u 210, u 211, u 212, u 213, u 214, u 215, u 216, u 217, u 218, u 219, u 220, u 221, u 222, u 223, u 224, u 225, u 226, u 227, u 228, u 229, u 230, u 231, u 232, u 233, u 234, u 235, u 236, u 237, u 238, u 239, u 240, u 241, u 242, u 243, u 244, u 245, u 246, u 247, u 248, u 249, u 250, u 251, u 252, u 253, u 254, u 255, u 256, u 257, u 258, u 259, u 260, u 261, u 262, u 263, u 264, u 265, u 266, u 267, u 268, u 269, u 270, u 271, u 272, u 273, u 274, u 275, u 276, u 277, u 278, u 279, u 280, u 281, u 282, u 283, u 284, u 285, u 286, u 287, u 288, u 289, u 290, u 291, u 292, u 293, u 294, u 295, u 296, u 297, u 298, u 299, u 300, u 301, u 302, u 303, u 304, u 305, u 306, u 307, u 308, u 309, u 310, u 311, u 312, u 313, u 314, u 315]) (fun p WW => 1 ≤ p ∧ (p ≤ k5.length ∨ p = 1) ∧ Hid (Below W5.heap.size W5 WW)) (fun p => 100 - p) 1 ?_ (by kernel_rfl) ?_
      · exact ⟨by omega, by omega, Below.refl _ _⟩
      · rintro p u wr ⟨hp1, hp2, HBW⟩ K6 HK6
        dsimp only
        have HSW := mkH (HS5.out.below HBW.out)
        obtain ⟨c0, c1, c2, c3, c4, c5, -⟩ := HSW.out.cells
        rcases Nat.lt_or_ge p k5.length with hpl | hpl
        · have h2 : (p : Int) < (k5.length : Int) := by omega
          obtain ⟨i, rfl⟩ : ∃ i, p = i + 1 := ⟨p - 1, by omega⟩
          obtain ⟨y, hy⟩ := some_of hpl
          obtain ⟨z, hz⟩ := some_of (l := k5) (i := i) (by omega)
          have hlt := ri_lt HJ5.out.ri hz hy (by omega)
          obtain ⟨bk, ok, rfl, p0, -⟩ := atK HSW.out.l.k hy
          obtain ⟨bk', ok', he, p1, -⟩ := atK HSW.out.l.k hz
          cases he
          have hle : decide (y.seq ≤ z.seq) = false := by simp; omega
          have hle2 : ¬ y.seq ≤ z.seq := by omega
          generalize y.seq = ys at *
          generalize z.seq = zs at *
          have hi1 : ((i + 1 : Nat) : Int) - 1 = (i : Int) := by omega
          have hi2 : (i : Int) < (k5.length : Int) := by omega
          clear hy hz hlt
          go_upto_region 46 with fail
          go_quiet (fail)
          have hbd : Below wr.heap.size wr (wr.drewN nq) := ⟨rfl, rfl, rfl, Nat.le_refl _, fun _ _ => rfl⟩
          go_wp2_with fail
          have hi3 : ((i : Int) + 1 + 1) = ((i + 1 + 1 : Nat) : Int) := by omega
          rw [hi3]
          refine Rg.meetU _ (fun u => HK6.out (i + 1 + 1) u _ (by omega) ?_) (by kernel_rfl)
          exact ⟨by omega, by omega, HBW.out.trans (hbd.mono HBW.out.size)⟩
        · have h2 : ¬ (p : Int) < (k5.length : Int) := by omega
          go_wp2_with fail
          have hk1 : ((k : Int) + 1) = ((k + 1 : Nat) : Int) := by omega
          rw [hk1]
          refine Rg.meetU _ (fun u => HKL.out (k + 1) u _ (by omega) ?_) (by kernel_rfl)
          exact ⟨_, nw, got5, ka5, kc5, ma5, mc5, ga5, gc5, by omega, by omega, HJ5, hn2, hn3, hgl5, HSW⟩
end Go.Proofs.YtcpmaddleleblaaDoor.Gor
