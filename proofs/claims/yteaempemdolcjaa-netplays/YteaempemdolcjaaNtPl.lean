/-
  The walk of NetPlays.
-/
import Derived.Test.YteaempemdolcjaaNtPa
import Derived.Deep.RegionHeld3
import Derived.Deep.LoopGhost
namespace Go.Proofs.Yteaempemdolcjaa.Pl1
open Go.RowKit Kt Gf Nr Gk Ns Nw Nx Na Nc Nee Ng Nl No Np Nq Nt Nu Ny Nz Nd1 Nd2 Nn2 Pa
set_option linter.unusedVariables false
set_option linter.unusedSimpArgs false
set_option maxRecDepth 20000

set_option maxHeartbeats 8000000 in
theorem plays_walk (w : World) (a0 : Option Addr) (cap0 : Nat) (l0 : List (Int × Int × Int)) (hr0 : RowS 3 aC w a0 l0) (hc0 : l0.length ≤ cap0) (hc0' : cap0 ≤ 9223372036854775807) :
    Calls Try.prog 3 #[.slice a0 l0.length cap0] w fun e w' => e = .returned (.bool true) ∧ Below w.heap.size w w' := by
  have hmx : Try.prog.follows .mixedOrders = true := by kernel_rfl
  obtain ⟨n0, hn0⟩ : ∃ n0, n0 = l0.length := ⟨_, rfl⟩
  have HN0 := mkH hn0
  rw [← hn0] at hc0 ⊢
  have HR0 := mkH hr0
  clear hn0 hr0
  obtain ⟨W0, hW0⟩ : ∃ W0, W0 = (w.alloc (.cells #[.slice none 0 0, .int .i64 0] 26)).alloc (.cells #[.slice none 0 0] 30) := ⟨_, rfl⟩
  have hb0 : Below w.heap.size w W0 := by rw [hW0]; exact ((Below.refl _ w).alloc (Nat.le_refl _) _).alloc (by simp) _
  have hs0 : W0.heap.size = w.heap.size + 2 := by rw [hW0]; simp
  have hg0 : Bg (fun k => w.heap.size ≤ k) W0 w.heap.size [] 0 := by rw [hW0]; exact (Bg.new _ w).below ((Below.refl _ _).alloc (Nat.le_refl _) _)
  have hr0 : Rg W0 (w.heap.size + 1) [] := ⟨none, 0, by rw [hW0]; exact Bx.new1 w _ _ _, World.ownsRow_nil _ _ _ _⟩
  have HG0 := mkH hg0
  have HRF0 := mkH hr0
  have HB0 := mkH hb0
  have HW0 := mkH hW0
  have HS0 : Hid (w.heap.size + 2 ≤ W0.heap.size) := mkH (by omega)
  clear hb0 hs0 hg0 hr0 hW0
  go_enter Try.func3, Try.ntmps3
  go_wp2_with fail
  rw [show (w.alloc (.cells #[.slice none 0 0, .int .i64 0] 26)).alloc (.cells #[.slice none 0 0] 30) = W0 from HW0.out.symm]
  clear HW0
  go_loopw [6] (fun s6 wr => ∃ (i : Nat) (L : List (Int × Int)) (p : Int), s6 = .int .i64 i ∧ i ≤ 100 ∧ i ≤ n0 ∧ 0 ≤ p ∧ p ≤ (i : Int) ∧ L.length ≤ i ∧ Hid (Rs L p) ∧ Hid (Bg (fun k => w.heap.size ≤ k) wr w.heap.size L p) ∧ Hid (Rg wr (w.heap.size + 1) (L.map Prod.snd)) ∧ Hid (Below w.heap.size w wr) ∧ Hid (w.heap.size + 2 ≤ wr.heap.size)) (fun s6 _ => 100 - (intOf s6).toNat)
  case atStart => exact ⟨0, [], 0, rfl, by omega, Nat.zero_le _, by omega, by omega, by simp, mkH ⟨List.Pairwise.nil, by simp⟩, HG0, HRF0, HB0, HS0⟩
  case round =>
    obtain ⟨i, L, p, rfl, hi100, hin, hp0, hp1, hLi, HRS, HG, HRF, HB, HS⟩ := hrel
    clear HG0 HRF0 HB0
    by_cases hgo : i < n0 ∧ i < 100
    · obtain ⟨g1, g2⟩ := hgo
      obtain ⟨x, hx⟩ := some_of (l := l0) (i := i) (by rw [← HN0.out]; exact g1)
      obtain ⟨ba, oa, rfl, hcs⟩ := HR0.out (by rw [← HN0.out]; omega)
      have z0 := hcs i x hx 0 _ rfl
      have z1 := hcs i x hx 1 _ rfl
      have z2 := hcs i x hx 2 _ rfl
      obtain ⟨kd, at', nv⟩ := x
      simp only [Nat.add_zero] at z0
      have hblt := World.block_lt_of_cell? w _ z0
      have y0 : wr.cell? ⟨ba, oa + i * 3, none⟩ = some (.int .i64 kd) := by
        rw [World.cell?_of_block (w := w) (a := ⟨ba, oa + i * 3, none⟩) (HB.out.block _ hblt)]; exact z0
      have y1 : wr.cell? ⟨ba, oa + i * 3 + 1, none⟩ = some (.int .i64 at') := by
        rw [World.cell?_of_block (w := w) (a := ⟨ba, oa + i * 3 + 1, none⟩) (HB.out.block _ hblt)]; exact z1
      have y2 : wr.cell? ⟨ba, oa + i * 3 + 2, none⟩ = some (.int .i64 nv) := by
        rw [World.cell?_of_block (w := w) (a := ⟨ba, oa + i * 3 + 2, none⟩) (HB.out.block _ hblt)]; exact z2
      obtain ⟨W1, hW1⟩ : ∃ W1, W1 = wr.alloc (.cells #[.int .i64 kd, .int .i64 at', .int .i64 nv] 32) := ⟨_, rfl⟩
      have hb1 : Below wr.heap.size wr W1 := by rw [hW1]; exact (Below.refl _ wr).alloc (Nat.le_refl _) _
      have HZ : Hid (Z w wr.heap.size wr.heap.size (kd, at', nv) none W1 L p (L.map Prod.snd)) := mkH ⟨HG.out.below hb1, HRF.out.below hb1, by rw [hW1]; exact Bx.new wr _ _, (fun v e => by cases e), HB.out.trans (hb1.mono HB.out.size), HS.out, HS.out⟩
      have HW1 := mkH hW1
      have HS1 : Hid (W1.heap.size = wr.heap.size + 1) := mkH (by rw [hW1]; simp)
      have hML : (L.map Prod.snd).length ≤ 1000 := by rw [List.length_map]; omega
      have i1 : (i : Int) < (n0 : Int) := by omega
      have i2 : (i : Int) < 100 := by omega
      clear hcs hx z0 z1 z2 hblt hb1 hW1 g1 g2
      by_cases k0 : kd = 0
      · subst k0
        have hal1 : Below W1.heap.size W1 (W1.alloc (.cells #[.int .i64 nv] 3)) := (Below.refl _ W1).alloc (Nat.le_refl _) _
        have HP := mkH (zput HZ.out hal1 (wr.heap.size + 1) (by rw [HS1.out]; exact Nat.le_refl _) (by simp; have := HS1.out; omega) nv (by rw [← HS1.out]; exact Na.RowE.new1 W1 nv 3) (by omega) hp0 (by omega))
        rw [HW1.out] at HP
        clear hal1
        go_wp2_with fail
        refine HP.out.mono ?_
        rintro e w5 ⟨rfl, hz5⟩
        obtain ⟨-, -, d2⟩ := zcell hz5
        simp only at d2
        have hal5 : Below w5.heap.size w5 (w5.alloc (.cells #[.int .i64 nv] 3)) := (Below.refl _ w5).alloc (Nat.le_refl _) _
        obtain ⟨-, -, d3⟩ := zcell (hz5.below hal5)
        simp only at d3
        have HRP := mkH (zrput (hz5.below hal5) nv hML)
        have hpn := fun W v => put_nil W v
        clear hz5 hal5 HP
        go_wp2_with (first
          | (go_at_call 8; refine (hpn _ _).mono ?_; rintro e w6 ⟨rfl, rfl⟩)
          | fail)
        refine HRP.out.mono ?_
        rintro e w7 ⟨rfl, hz7⟩
        clear hpn d2 d3 HRP
        obtain ⟨LF, hLF⟩ : ∃ LF : List (Int × Int), LF = L ++ [(p, nv)] := ⟨_, rfl⟩
        obtain ⟨pF, hpF⟩ : ∃ pF : Int, pF = p + 1 := ⟨_, rfl⟩
        have HZF := mkH (show Z w wr.heap.size wr.heap.size (0, at', nv) none w7 LF pF (LF.map Prod.snd) by rw [hLF, hpF, List.map_append]; exact hz7)
        have HLF : Hid (LF.length ≤ i + 1 ∧ 0 ≤ pF ∧ pF ≤ (i : Int) + 1) := mkH ⟨by rw [hLF]; rw [List.length_append, List.length_singleton]; omega, by omega, by omega⟩
        have HRF' : Hid (Rs LF pF) := mkH (by rw [hLF, hpF]; exact Rs.snoc HRS.out)
        clear hLF hpF HRS
        clear hz7 HZ HW1
        obtain ⟨gx, gk, hgb, hgr⟩ := zget HZF.out at'
        have HGB := mkH hgb
        have HGR := mkH hgr
        obtain ⟨-, cF, -⟩ := zcell HZF.out
        simp only at cF
        have HAL := mkH (alls_any HZF.out.g (by have := HLF.out.1; omega))
        clear hgb hgr
        go_wp2_with (first
          | (go_at_call 18; refine HGB.out.mono ?_; rintro e w21 ⟨rfl, rfl⟩)
          | (go_at_call 19; refine HGR.out.mono ?_; rintro e w22 ⟨rfl, rfl⟩)
          | fail)
        refine HAL.out.mono ?_
        rintro e w8 ⟨a8, c8, rfl, ho8, hb8⟩
        have hz8 := HZF.out.below hb8
        obtain ⟨ar, cr, hbr, hor⟩ := id hz8.r
        have HZ8 := mkH hz8
        obtain ⟨N2, hN2⟩ : ∃ N2, N2 = (LF.map Prod.snd).length := ⟨_, rfl⟩
        have cR : w8.cell? ⟨w.heap.size + 1, 0, none⟩ = some (.slice ar N2 cr) := by rw [hN2]; exact hbr.cell 0 _ rfl
        have hALK : ∀ n, Calls Try.prog 21 #[.slice a8 N2 c8, .slice ar N2 cr] (w8.drewN n) fun e w' => e = .returned (.bool true) ∧ ∃ m, w' = (w8.drewN n).drewN m := fun n => by
          rw [hN2]
          exact alike_eq (w8.drewN n) a8 ar c8 cr (LF.map Prod.snd) ((RowE.own ho8).2.below (below_drewN (Below.refl _ _) n)) ((RowE.own hor).2.below (below_drewN (Below.refl _ _) n)) (by rw [List.length_map]; have := HLF.out.1; omega) (own_le ho8) (own_le hor)
        have hLEN : ∀ n, Calls Try.prog 22 #[.pointer (some ⟨w.heap.size, 0, none⟩)] (w8.drewN n) fun e w' => e = .returned (.int .i64 (N2 : Int)) ∧ w' = w8.drewN n := fun n => by
          rw [hN2, List.length_map]
          exact len_any (hz8.g.below (below_drewN (Below.refl _ _) n))
        have HALK := mkH hALK
        have HLEN := mkH hLEN
        rw [← hN2]
        have n1 : (gx != gx) = false := by simp
        have n2 : (gk != gk) = false := by simp
        have n3 : ((N2 : Int) != (N2 : Int)) = false := by simp
        clear hz8 hbr hor ho8 hb8 HZF HGB HGR HAL hALK hLEN cF hN2
        go_wp2_with fail
        go_quiet ((first | (go_at_call 21; exact Calls.quiet_of (HALK.out _)) | (go_at_call 22; exact Calls.quiet_of_same (HLEN.out _)) | fail))
        go_wp2
        go_roundw
        case rel => exact ⟨i + 1, LF, pF, by go_num, by omega, by omega, by have := HLF.out; omega, by have := HLF.out; omega, by have := HLF.out; omega, HRF', mkH (HZ8.out.g.below (below_drewN (Below.refl _ _) _)), mkH (HZ8.out.r.below (below_drewN (Below.refl _ _) _)), mkH (below_drewN HZ8.out.b _), mkH (by have := HZ8.out.a.lt; have := HZ8.out.ha; show _ ≤ w8.heap.size; omega)⟩
        case measure => simp [intOf]; omega

      · by_cases k1 : kd = 1
        · subst k1
          by_cases hio : at' < 0 ∨ (L.length : Int) ≤ at'
          · -- none there
            have HT := mkH (take_out HZ.out.g at' hio)
            have HRT := mkH (rtake_out HZ.out.r at' (by rw [List.length_map]; exact hio))
            have HZZ := mkH HZ.out
            obtain ⟨-, d1, -⟩ := zcell HZ.out
            simp only at d1
            rw [HW1.out] at HT HRT HZZ d1
            go_wp2_with (first
              | (go_at_call 10; refine HT.out.mono ?_; rintro e w5 ⟨rfl, rfl⟩)
              | (go_at_call 11; refine HRT.out.mono ?_; rintro e w6 ⟨rfl, rfl⟩)
              | fail)
            clear HT HRT d1
            obtain ⟨LF, hLF⟩ : ∃ LF : List (Int × Int), LF = L := ⟨_, rfl⟩
            obtain ⟨pF, hpF⟩ : ∃ pF : Int, pF = p := ⟨_, rfl⟩
            have HZF := mkH (show Z w wr.heap.size wr.heap.size (1, at', nv) none (wr.alloc (.cells #[.int .i64 1, .int .i64 at', .int .i64 nv] 32)) LF pF (LF.map Prod.snd) by rw [hLF, hpF]; exact HZZ.out)
            have HLF : Hid (LF.length ≤ i + 1 ∧ 0 ≤ pF ∧ pF ≤ (i : Int) + 1) := mkH ⟨by rw [hLF]; omega, by omega, by omega⟩
            have HRF' : Hid (Rs LF pF) := mkH (by rw [hLF, hpF]; exact HRS.out)
            clear hLF hpF HRS
            clear HZ HW1 HZZ
            obtain ⟨gx, gk, hgb, hgr⟩ := zget HZF.out at'
            have HGB := mkH hgb
            have HGR := mkH hgr
            obtain ⟨-, cF, -⟩ := zcell HZF.out
            simp only at cF
            have HAL := mkH (alls_any HZF.out.g (by have := HLF.out.1; omega))
            clear hgb hgr
            go_wp2_with (first
              | (go_at_call 18; refine HGB.out.mono ?_; rintro e w21 ⟨rfl, rfl⟩)
              | (go_at_call 19; refine HGR.out.mono ?_; rintro e w22 ⟨rfl, rfl⟩)
              | fail)
            refine HAL.out.mono ?_
            rintro e w8 ⟨a8, c8, rfl, ho8, hb8⟩
            have hz8 := HZF.out.below hb8
            obtain ⟨ar, cr, hbr, hor⟩ := id hz8.r
            have HZ8 := mkH hz8
            obtain ⟨N2, hN2⟩ : ∃ N2, N2 = (LF.map Prod.snd).length := ⟨_, rfl⟩
            have cR : w8.cell? ⟨w.heap.size + 1, 0, none⟩ = some (.slice ar N2 cr) := by rw [hN2]; exact hbr.cell 0 _ rfl
            have hALK : ∀ n, Calls Try.prog 21 #[.slice a8 N2 c8, .slice ar N2 cr] (w8.drewN n) fun e w' => e = .returned (.bool true) ∧ ∃ m, w' = (w8.drewN n).drewN m := fun n => by
              rw [hN2]
              exact alike_eq (w8.drewN n) a8 ar c8 cr (LF.map Prod.snd) ((RowE.own ho8).2.below (below_drewN (Below.refl _ _) n)) ((RowE.own hor).2.below (below_drewN (Below.refl _ _) n)) (by rw [List.length_map]; have := HLF.out.1; omega) (own_le ho8) (own_le hor)
            have hLEN : ∀ n, Calls Try.prog 22 #[.pointer (some ⟨w.heap.size, 0, none⟩)] (w8.drewN n) fun e w' => e = .returned (.int .i64 (N2 : Int)) ∧ w' = w8.drewN n := fun n => by
              rw [hN2, List.length_map]
              exact len_any (hz8.g.below (below_drewN (Below.refl _ _) n))
            have HALK := mkH hALK
            have HLEN := mkH hLEN
            rw [← hN2]
            have n1 : (gx != gx) = false := by simp
            have n2 : (gk != gk) = false := by simp
            have n3 : ((N2 : Int) != (N2 : Int)) = false := by simp
            clear hz8 hbr hor ho8 hb8 HZF HGB HGR HAL hALK hLEN cF hN2
            go_wp2_with fail
            go_quiet ((first | (go_at_call 21; exact Calls.quiet_of (HALK.out _)) | (go_at_call 22; exact Calls.quiet_of_same (HLEN.out _)) | fail))
            go_wp2
            go_roundw
            case rel => exact ⟨i + 1, LF, pF, by go_num, by omega, by omega, by have := HLF.out; omega, by have := HLF.out; omega, by have := HLF.out; omega, HRF', mkH (HZ8.out.g.below (below_drewN (Below.refl _ _) _)), mkH (HZ8.out.r.below (below_drewN (Below.refl _ _) _)), mkH (below_drewN HZ8.out.b _), mkH (by have := HZ8.out.a.lt; have := HZ8.out.ha; show _ ≤ w8.heap.size; omega)⟩
            case measure => simp [intOf]; omega

          · -- one is taken
            obtain ⟨j, rfl⟩ : ∃ j : Nat, at' = (j : Int) := ⟨at'.toNat, by omega⟩
            obtain ⟨y, hy⟩ := some_of (l := L) (i := j) (by omega)
            have hy2 : (L.map Prod.snd)[j]? = some y.2 := by rw [List.getElem?_map, hy]; rfl
            have HT := mkH (ztake_in HZ.out j y hy (by omega))
            have HRT : Hid (∀ W, Z w wr.heap.size wr.heap.size (1, (j : Int), nv) none W (L.take j ++ L.drop (j + 1)) p (L.map Prod.snd) → Calls Try.prog 11 #[.pointer (some ⟨w.heap.size + 1, 0, none⟩), .int .i64 (j : Int)] W fun e w' => e = .returned (.tuple #[.int .i64 y.2, .bool true]) ∧ Z w wr.heap.size wr.heap.size (1, (j : Int), nv) none w' (L.take j ++ L.drop (j + 1)) p ((L.map Prod.snd).take j ++ (L.map Prod.snd).drop (j + 1))) := mkH (fun W h => zrtake_in h j y.2 hy2 hML)
            obtain ⟨yv, hyv⟩ : ∃ yv, yv = y.2 := ⟨_, rfl⟩
            rw [← hyv] at HT HRT
            rw [HW1.out] at HT
            have n0 : (yv != yv) = false := by simp
            clear hy hy2 hyv
            go_wp2_with fail
            refine HT.out.mono ?_
            rintro e w5 ⟨rfl, hz5⟩
            obtain ⟨-, d1, -⟩ := zcell hz5
            simp only at d1
            have HR5 := mkH (HRT.out w5 hz5)
            clear hz5 HT HRT
            go_wp2_with fail
            refine HR5.out.mono ?_
            rintro e w7 ⟨rfl, hz7⟩
            clear d1 HR5
            obtain ⟨LF, hLF⟩ : ∃ LF : List (Int × Int), LF = L.take j ++ L.drop (j + 1) := ⟨_, rfl⟩
            obtain ⟨pF, hpF⟩ : ∃ pF : Int, pF = p := ⟨_, rfl⟩
            have HZF := mkH (show Z w wr.heap.size wr.heap.size (1, (j : Int), nv) none w7 LF pF (LF.map Prod.snd) by rw [hLF, hpF, List.map_append, List.map_take, List.map_drop]; exact hz7)
            have HLF : Hid (LF.length ≤ i + 1 ∧ 0 ≤ pF ∧ pF ≤ (i : Int) + 1) := mkH ⟨by rw [hLF]; rw [List.length_append, List.length_take, List.length_drop]; omega, by omega, by omega⟩
            have HRF' : Hid (Rs LF pF) := mkH (by rw [hLF, hpF]; exact HRS.out.sub (by rw [← List.eraseIdx_eq_take_drop_succ]; exact List.eraseIdx_sublist _ _))
            clear hLF hpF HRS
            clear hz7 HZ HW1 n0
            obtain ⟨gx, gk, hgb, hgr⟩ := zget HZF.out (j : Int)
            have HGB := mkH hgb
            have HGR := mkH hgr
            obtain ⟨-, cF, -⟩ := zcell HZF.out
            simp only at cF
            have HAL := mkH (alls_any HZF.out.g (by have := HLF.out.1; omega))
            clear hgb hgr
            go_wp2_with (first
              | (go_at_call 18; refine HGB.out.mono ?_; rintro e w21 ⟨rfl, rfl⟩)
              | (go_at_call 19; refine HGR.out.mono ?_; rintro e w22 ⟨rfl, rfl⟩)
              | fail)
            refine HAL.out.mono ?_
            rintro e w8 ⟨a8, c8, rfl, ho8, hb8⟩
            have hz8 := HZF.out.below hb8
            obtain ⟨ar, cr, hbr, hor⟩ := id hz8.r
            have HZ8 := mkH hz8
            obtain ⟨N2, hN2⟩ : ∃ N2, N2 = (LF.map Prod.snd).length := ⟨_, rfl⟩
            have cR : w8.cell? ⟨w.heap.size + 1, 0, none⟩ = some (.slice ar N2 cr) := by rw [hN2]; exact hbr.cell 0 _ rfl
            have hALK : ∀ n, Calls Try.prog 21 #[.slice a8 N2 c8, .slice ar N2 cr] (w8.drewN n) fun e w' => e = .returned (.bool true) ∧ ∃ m, w' = (w8.drewN n).drewN m := fun n => by
              rw [hN2]
              exact alike_eq (w8.drewN n) a8 ar c8 cr (LF.map Prod.snd) ((RowE.own ho8).2.below (below_drewN (Below.refl _ _) n)) ((RowE.own hor).2.below (below_drewN (Below.refl _ _) n)) (by rw [List.length_map]; have := HLF.out.1; omega) (own_le ho8) (own_le hor)
            have hLEN : ∀ n, Calls Try.prog 22 #[.pointer (some ⟨w.heap.size, 0, none⟩)] (w8.drewN n) fun e w' => e = .returned (.int .i64 (N2 : Int)) ∧ w' = w8.drewN n := fun n => by
              rw [hN2, List.length_map]
              exact len_any (hz8.g.below (below_drewN (Below.refl _ _) n))
            have HALK := mkH hALK
            have HLEN := mkH hLEN
            rw [← hN2]
            have n1 : (gx != gx) = false := by simp
            have n2 : (gk != gk) = false := by simp
            have n3 : ((N2 : Int) != (N2 : Int)) = false := by simp
            clear hz8 hbr hor ho8 hb8 HZF HGB HGR HAL hALK hLEN cF hN2
            go_wp2_with fail
            go_quiet ((first | (go_at_call 21; exact Calls.quiet_of (HALK.out _)) | (go_at_call 22; exact Calls.quiet_of_same (HLEN.out _)) | fail))
            go_wp2
            go_roundw
            case rel => exact ⟨i + 1, LF, pF, by go_num, by omega, by omega, by have := HLF.out; omega, by have := HLF.out; omega, by have := HLF.out; omega, HRF', mkH (HZ8.out.g.below (below_drewN (Below.refl _ _) _)), mkH (HZ8.out.r.below (below_drewN (Below.refl _ _) _)), mkH (below_drewN HZ8.out.b _), mkH (by have := HZ8.out.a.lt; have := HZ8.out.ha; show _ ≤ w8.heap.size; omega)⟩
            case measure => simp [intOf]; omega

        · by_cases k2 : kd = 2
          · subst k2
            by_cases hio : at' < 0 ∨ (L.length : Int) ≤ at'
            · -- none there
              have HZL : Hid (∀ W, Below W1.heap.size W1 W → Z w wr.heap.size wr.heap.size (2, at', nv) none W L p (L.map Prod.snd)) := mkH (fun W h => HZ.out.below h)
              rw [HW1.out] at HZL
              have HZ0 := mkH (HZL.out _ (Below.refl _ _).drew)
              have hio2 : at' < 0 ∨ ((L.map Prod.snd).length : Int) ≤ at' := by rw [List.length_map]; exact hio
              have HI2 := mkH hio2
              have HI1 := mkH hio
              clear hio hio2 HZL
              go_wp2_with fail
              refine wp_region_held_drew (S := fun W => W.cell? ⟨wr.heap.size, 1, none⟩ = some (.int .i64 at')) hmx ?_ (fun hHeld => ?_)
              · exact (zcell HZ0.out).2.1
              generalize (wr.alloc (.cells #[.int .i64 2, .int .i64 at', .int .i64 nv] 32)).drew = V0 at *
              refine wpAnyH_take (i := 0) (oi := { dst := some 85, op := _, type := _, pos := _, after := _, guard := _ }) (v := ?_) rfl (by kernel_rfl) (by kernel_rfl) (by kernel_rfl) (fun _ _ _ h => h) (Or.inl ⟨by rfl, ?_⟩) (by assumption) ?_
              rotate_left
              · (intro W hSw; (try dsimp only at hSw); go_simp; try (with_reducible rfl))
              try simp only [Act.put, List.setIfInBounds_toArray, List.set_cons_zero, List.set_cons_succ]
              refine wpAnyH_take (i := 1) (oi := { dst := some 86, op := _, type := _, pos := _, after := _, guard := _ }) (v := ?_) rfl (by kernel_rfl) (by kernel_rfl) (by kernel_rfl) (fun _ _ _ h => h) (Or.inl ⟨by rfl, ?_⟩) (by assumption) ?_
              rotate_left
              · (intro W hSw; (try dsimp only at hSw); go_simp; try (with_reducible rfl))
              try simp only [Act.put, List.setIfInBounds_toArray, List.set_cons_zero, List.set_cons_succ]
              refine wpAnyH_take (i := 2) (oi := { dst := some 87, op := _, type := _, pos := _, after := _, guard := _ }) (v := ?_) rfl (by kernel_rfl) (by kernel_rfl) (by kernel_rfl) (fun _ _ _ h => h) (Or.inl ⟨by rfl, ?_⟩) (by assumption) ?_
              rotate_left
              · (intro W hSw; (try dsimp only at hSw); go_simp; try (with_reducible rfl))
              try simp only [Act.put, List.setIfInBounds_toArray, List.set_cons_zero, List.set_cons_succ]
              refine wpAnyH_take (i := 4) (oi := { dst := some 89, op := _, type := _, pos := _, after := _, guard := _ }) (v := ?_) rfl (by kernel_rfl) (by kernel_rfl) (by kernel_rfl) (fun _ _ _ h => h) (Or.inl ⟨by rfl, ?_⟩) (by assumption) ?_
              rotate_left
              · (intro W hSw; (try dsimp only at hSw); go_simp; try (with_reducible rfl))
              try simp only [Act.put, List.setIfInBounds_toArray, List.set_cons_zero, List.set_cons_succ]
              refine wpAnyH_take (i := 5) (oi := { dst := some 90, op := _, type := _, pos := _, after := _, guard := _ }) (v := ?_) rfl (by kernel_rfl) (by kernel_rfl) (by kernel_rfl) (fun _ _ _ h => h) (Or.inl ⟨by rfl, ?_⟩) (by assumption) ?_
              rotate_left
              · (intro W hSw; (try dsimp only at hSw); go_simp; try (with_reducible rfl))
              try simp only [Act.put, List.setIfInBounds_toArray, List.set_cons_zero, List.set_cons_succ]
              refine wpAnyH_take (i := 6) (oi := { dst := some 91, op := _, type := _, pos := _, after := _, guard := _ }) (v := ?_) rfl (by kernel_rfl) (by kernel_rfl) (by kernel_rfl) (fun _ _ _ h => h) (Or.inl ⟨by rfl, ?_⟩) (by assumption) ?_
              rotate_left
              · (intro W hSw; (try dsimp only at hSw); go_simp; try (with_reducible rfl))
              try simp only [Act.put, List.setIfInBounds_toArray, List.set_cons_zero, List.set_cons_succ]
              refine wpAnyH_ready (rs := [3]) (by kernel_rfl) (by simp) ?_
              refine (AllReadyH.cons (o := { dst := some 88, op := _, type := _, pos := _, after := _, guard := _ }) rfl (fun K hK => ?_) AllReadyH.nil)
              go_simp
              refine (double_out HZ0.out.g _ HI1.out).mono ?_
              rintro e1 V1 ⟨rfl, rfl⟩
              go_wp2_with fail
              refine hK.out _ _ ?_ (fun hHeld => ?_)
              · exact (zcell HZ0.out).2.1
              clear hK K
              try simp only [Act.put, List.setIfInBounds_toArray, List.set_cons_zero, List.set_cons_succ]
              refine wpAnyH_ready (rs := [7]) (by kernel_rfl) (by simp) ?_
              refine (AllReadyH.cons (o := { dst := some 92, op := _, type := _, pos := _, after := _, guard := _ }) rfl (fun K hK => ?_) AllReadyH.nil)
              go_simp
              refine (rdouble_out HZ0.out.r _ HI2.out).mono ?_
              rintro e1 V2 ⟨rfl, rfl⟩
              go_wp2_with fail
              refine hK.out _ _ ?_ (fun hHeld => ?_)
              · exact (zcell HZ0.out).2.1
              clear hK K
              try simp only [Act.put, List.setIfInBounds_toArray, List.set_cons_zero, List.set_cons_succ]
              refine wpAnyH_take (i := 8) (oi := { dst := some 93, op := _, type := _, pos := _, after := _, guard := _ }) (v := .bool false) rfl (by kernel_rfl) (by kernel_rfl) (by kernel_rfl) (fun _ _ _ h => h) (Or.inl ⟨by rfl, ?_⟩) (by assumption) ?_
              · (intro W hSw; (try dsimp only at hSw); (go_simp; try rfl))
              try simp only [Act.put, List.setIfInBounds_toArray, List.set_cons_zero, List.set_cons_succ]
              refine wpAnyH_take (i := 9) (oi := { dst := some 94, op := _, type := _, pos := _, after := _, guard := _ }) (v := ?_) rfl (by kernel_rfl) (by kernel_rfl) (by kernel_rfl) (fun _ _ _ h => h) (Or.inl ⟨by rfl, ?_⟩) (by assumption) ?_
              rotate_left
              · (intro W hSw; (try dsimp only at hSw); go_simp; try (with_reducible rfl))
              try simp only [Act.put, List.setIfInBounds_toArray, List.set_cons_zero, List.set_cons_succ]
              refine wpAnyH_take (i := 10) (oi := { dst := some 95, op := _, type := _, pos := _, after := _, guard := _ }) (v := ?_) rfl (by kernel_rfl) (by kernel_rfl) (by kernel_rfl) (fun _ _ _ h => h) (Or.inl ⟨by rfl, ?_⟩) (by assumption) ?_
              rotate_left
              · (intro W hSw; (try dsimp only at hSw); go_simp; try (with_reducible rfl))
              try simp only [Act.put, List.setIfInBounds_toArray, List.set_cons_zero, List.set_cons_succ]
              refine wpAnyH_take (i := 11) (oi := { dst := some 96, op := _, type := _, pos := _, after := _, guard := _ }) (v := ?_) rfl (by kernel_rfl) (by kernel_rfl) (by kernel_rfl) (fun _ _ _ h => h) (Or.inl ⟨by rfl, ?_⟩) (by assumption) ?_
              rotate_left
              · (intro W hSw; (try dsimp only at hSw); go_simp; try (with_reducible rfl))
              try simp only [Act.put, List.setIfInBounds_toArray, List.set_cons_zero, List.set_cons_succ]
              refine wpAnyH_take (i := 12) (oi := { dst := some 97, op := _, type := _, pos := _, after := _, guard := _ }) (v := ?_) rfl (by kernel_rfl) (by kernel_rfl) (by kernel_rfl) (fun _ _ _ h => h) (Or.inl ⟨by rfl, ?_⟩) (by assumption) ?_
              rotate_left
              · (intro W hSw; (try dsimp only at hSw); go_simp; try (with_reducible rfl))
              try simp only [Act.put, List.setIfInBounds_toArray, List.set_cons_zero, List.set_cons_succ]
              refine wpAnyH_ready (rs := [13]) (by kernel_rfl) (by simp) ?_
              refine (AllReadyH.cons (o := { dst := some 98, op := _, type := _, pos := _, after := _, guard := _ }) rfl (fun K hK => ?_) AllReadyH.nil)
              go_simp
              refine (double_nil _ _).mono ?_
              rintro e1 V3 ⟨rfl, rfl⟩
              go_wp2_with fail
              refine hK.out _ _ ?_ (fun hHeld => ?_)
              · exact (zcell HZ0.out).2.1
              clear hK K
              try simp only [Act.put, List.setIfInBounds_toArray, List.set_cons_zero, List.set_cons_succ]
              refine wpAnyH_take (i := 14) (oi := { dst := some 99, op := _, type := _, pos := _, after := _, guard := _ }) (v := .bool false) rfl (by kernel_rfl) (by kernel_rfl) (by kernel_rfl) (fun _ _ _ h => h) (Or.inl ⟨by rfl, ?_⟩) (by assumption) ?_
              · (intro W hSw; (try dsimp only at hSw); (go_simp; try rfl))
              try simp only [Act.put, List.setIfInBounds_toArray, List.set_cons_zero, List.set_cons_succ]
              refine wpAnyH_done (by kernel_rfl) ?_ _
              clear hHeld
              obtain ⟨LF, hLF⟩ : ∃ LF : List (Int × Int), LF = L := ⟨_, rfl⟩
              obtain ⟨pF, hpF⟩ : ∃ pF : Int, pF = p := ⟨_, rfl⟩
              have HZF := mkH (show Z w wr.heap.size wr.heap.size (2, at', nv) none _ LF pF (LF.map Prod.snd) by rw [hLF, hpF]; exact HZ0.out)
              have HLF : Hid (LF.length ≤ i + 1 ∧ 0 ≤ pF ∧ pF ≤ (i : Int) + 1) := mkH ⟨by rw [hLF]; omega, by omega, by omega⟩
              have HRF' : Hid (Rs LF pF) := mkH (by rw [hLF, hpF]; exact HRS.out)
              clear hLF hpF HRS
              clear HZ HW1 HZ0 HI1 HI2
              obtain ⟨gx, gk, hgb, hgr⟩ := zget HZF.out at'
              have HGB := mkH hgb
              have HGR := mkH hgr
              obtain ⟨-, cF, -⟩ := zcell HZF.out
              simp only at cF
              have HAL := mkH (alls_any HZF.out.g (by have := HLF.out.1; omega))
              clear hgb hgr
              go_wp2_with (first
                | (go_at_call 18; refine HGB.out.mono ?_; rintro e w21 ⟨rfl, rfl⟩)
                | (go_at_call 19; refine HGR.out.mono ?_; rintro e w22 ⟨rfl, rfl⟩)
                | fail)
              refine HAL.out.mono ?_
              rintro e w8 ⟨a8, c8, rfl, ho8, hb8⟩
              have hz8 := HZF.out.below hb8
              obtain ⟨ar, cr, hbr, hor⟩ := id hz8.r
              have HZ8 := mkH hz8
              obtain ⟨N2, hN2⟩ : ∃ N2, N2 = (LF.map Prod.snd).length := ⟨_, rfl⟩
              have cR : w8.cell? ⟨w.heap.size + 1, 0, none⟩ = some (.slice ar N2 cr) := by rw [hN2]; exact hbr.cell 0 _ rfl
              have hALK : ∀ n, Calls Try.prog 21 #[.slice a8 N2 c8, .slice ar N2 cr] (w8.drewN n) fun e w' => e = .returned (.bool true) ∧ ∃ m, w' = (w8.drewN n).drewN m := fun n => by
                rw [hN2]
                exact alike_eq (w8.drewN n) a8 ar c8 cr (LF.map Prod.snd) ((RowE.own ho8).2.below (below_drewN (Below.refl _ _) n)) ((RowE.own hor).2.below (below_drewN (Below.refl _ _) n)) (by rw [List.length_map]; have := HLF.out.1; omega) (own_le ho8) (own_le hor)
              have hLEN : ∀ n, Calls Try.prog 22 #[.pointer (some ⟨w.heap.size, 0, none⟩)] (w8.drewN n) fun e w' => e = .returned (.int .i64 (N2 : Int)) ∧ w' = w8.drewN n := fun n => by
                rw [hN2, List.length_map]
                exact len_any (hz8.g.below (below_drewN (Below.refl _ _) n))
              have HALK := mkH hALK
              have HLEN := mkH hLEN
              rw [← hN2]
              have n1 : (gx != gx) = false := by simp
              have n2 : (gk != gk) = false := by simp
              have n3 : ((N2 : Int) != (N2 : Int)) = false := by simp
              clear hz8 hbr hor ho8 hb8 HZF HGB HGR HAL hALK hLEN cF hN2
              go_wp2_with fail
              go_quiet ((first | (go_at_call 21; exact Calls.quiet_of (HALK.out _)) | (go_at_call 22; exact Calls.quiet_of_same (HLEN.out _)) | fail))
              go_wp2
              go_roundw
              case rel => exact ⟨i + 1, LF, pF, by go_num, by omega, by omega, by have := HLF.out; omega, by have := HLF.out; omega, by have := HLF.out; omega, HRF', mkH (HZ8.out.g.below (below_drewN (Below.refl _ _) _)), mkH (HZ8.out.r.below (below_drewN (Below.refl _ _) _)), mkH (below_drewN HZ8.out.b _), mkH (by have := HZ8.out.a.lt; have := HZ8.out.ha; show _ ≤ w8.heap.size; omega)⟩
              case measure => simp [intOf]; omega

            · -- one is doubled
              obtain ⟨j, rfl⟩ : ∃ j : Nat, at' = (j : Int) := ⟨at'.toNat, by omega⟩
              obtain ⟨y, hy⟩ := some_of (l := L) (i := j) (by omega)
              have hy2 : (L.map Prod.snd)[j]? = some y.2 := by rw [List.getElem?_map, hy]; rfl
              have HD : Hid (∀ W M, Z w wr.heap.size wr.heap.size (2, (j : Int), nv) none W L p M → Calls Try.prog 12 #[.pointer (some ⟨w.heap.size, 0, none⟩), .int .i64 (j : Int)] W fun e w' => e = .returned (.bool true) ∧ Z w wr.heap.size wr.heap.size (2, (j : Int), nv) none w' (L ++ [(p, y.2)]) (p + 1) M) := mkH (fun W M h => zdouble_in h j y hy (by omega) hp0 (by omega))
              have HRD : Hid (∀ W L' p', Z w wr.heap.size wr.heap.size (2, (j : Int), nv) none W L' p' (L.map Prod.snd) → Calls Try.prog 13 #[.pointer (some ⟨w.heap.size + 1, 0, none⟩), .int .i64 (j : Int)] W fun e w' => e = .returned (.bool true) ∧ Z w wr.heap.size wr.heap.size (2, (j : Int), nv) none w' L' p' (L.map Prod.snd ++ [y.2])) := mkH (fun W L' p' h => zrdouble_in h j y.2 hy2 hML)
              have HZL : Hid (∀ W, Below W1.heap.size W1 W → Z w wr.heap.size wr.heap.size (2, (j : Int), nv) none W L p (L.map Prod.snd)) := mkH (fun W h => HZ.out.below h)
              rw [HW1.out] at HZL
              have HZ0 := mkH (HZL.out _ (Below.refl _ _).drew)
              clear hy hy2 HZL
              go_wp2_with fail
              refine wp_region_held_drew (S := fun W => W.cell? ⟨wr.heap.size, 1, none⟩ = some (.int .i64 (j : Int))) hmx ?_ (fun hHeld => ?_)
              · exact (zcell HZ0.out).2.1
              generalize (wr.alloc (.cells #[.int .i64 2, .int .i64 (j : Int), .int .i64 nv] 32)).drew = V0 at *
              refine wpAnyH_take (i := 0) (oi := { dst := some 85, op := _, type := _, pos := _, after := _, guard := _ }) (v := ?_) rfl (by kernel_rfl) (by kernel_rfl) (by kernel_rfl) (fun _ _ _ h => h) (Or.inl ⟨by rfl, ?_⟩) (by assumption) ?_
              rotate_left
              · (intro W hSw; (try dsimp only at hSw); go_simp; try (with_reducible rfl))
              try simp only [Act.put, List.setIfInBounds_toArray, List.set_cons_zero, List.set_cons_succ]
              refine wpAnyH_take (i := 1) (oi := { dst := some 86, op := _, type := _, pos := _, after := _, guard := _ }) (v := ?_) rfl (by kernel_rfl) (by kernel_rfl) (by kernel_rfl) (fun _ _ _ h => h) (Or.inl ⟨by rfl, ?_⟩) (by assumption) ?_
              rotate_left
              · (intro W hSw; (try dsimp only at hSw); go_simp; try (with_reducible rfl))
              try simp only [Act.put, List.setIfInBounds_toArray, List.set_cons_zero, List.set_cons_succ]
              refine wpAnyH_take (i := 2) (oi := { dst := some 87, op := _, type := _, pos := _, after := _, guard := _ }) (v := ?_) rfl (by kernel_rfl) (by kernel_rfl) (by kernel_rfl) (fun _ _ _ h => h) (Or.inl ⟨by rfl, ?_⟩) (by assumption) ?_
              rotate_left
              · (intro W hSw; (try dsimp only at hSw); go_simp; try (with_reducible rfl))
              try simp only [Act.put, List.setIfInBounds_toArray, List.set_cons_zero, List.set_cons_succ]
              refine wpAnyH_take (i := 4) (oi := { dst := some 89, op := _, type := _, pos := _, after := _, guard := _ }) (v := ?_) rfl (by kernel_rfl) (by kernel_rfl) (by kernel_rfl) (fun _ _ _ h => h) (Or.inl ⟨by rfl, ?_⟩) (by assumption) ?_
              rotate_left
              · (intro W hSw; (try dsimp only at hSw); go_simp; try (with_reducible rfl))
              try simp only [Act.put, List.setIfInBounds_toArray, List.set_cons_zero, List.set_cons_succ]
              refine wpAnyH_take (i := 5) (oi := { dst := some 90, op := _, type := _, pos := _, after := _, guard := _ }) (v := ?_) rfl (by kernel_rfl) (by kernel_rfl) (by kernel_rfl) (fun _ _ _ h => h) (Or.inl ⟨by rfl, ?_⟩) (by assumption) ?_
              rotate_left
              · (intro W hSw; (try dsimp only at hSw); go_simp; try (with_reducible rfl))
              try simp only [Act.put, List.setIfInBounds_toArray, List.set_cons_zero, List.set_cons_succ]
              refine wpAnyH_take (i := 6) (oi := { dst := some 91, op := _, type := _, pos := _, after := _, guard := _ }) (v := ?_) rfl (by kernel_rfl) (by kernel_rfl) (by kernel_rfl) (fun _ _ _ h => h) (Or.inl ⟨by rfl, ?_⟩) (by assumption) ?_
              rotate_left
              · (intro W hSw; (try dsimp only at hSw); go_simp; try (with_reducible rfl))
              try simp only [Act.put, List.setIfInBounds_toArray, List.set_cons_zero, List.set_cons_succ]
              refine wpAnyH_ready (rs := [3]) (by kernel_rfl) (by simp) ?_
              refine (AllReadyH.cons (o := { dst := some 88, op := _, type := _, pos := _, after := _, guard := _ }) rfl (fun K hK => ?_) AllReadyH.nil)
              go_simp
              refine (HD.out _ _ HZ0.out).mono ?_
              rintro e1 V1 ⟨rfl, hz⟩
              have HZa := mkH hz
              clear hz
              go_wp2_with fail
              refine hK.out _ _ ?_ (fun hHeld => ?_)
              · exact (zcell HZa.out).2.1
              clear hK K
              try simp only [Act.put, List.setIfInBounds_toArray, List.set_cons_zero, List.set_cons_succ]
              refine wpAnyH_ready (rs := [7]) (by kernel_rfl) (by simp) ?_
              refine (AllReadyH.cons (o := { dst := some 92, op := _, type := _, pos := _, after := _, guard := _ }) rfl (fun K hK => ?_) AllReadyH.nil)
              go_simp
              refine (HRD.out _ _ _ HZa.out).mono ?_
              rintro e1 V2 ⟨rfl, hz⟩
              have HZE := mkH hz
              clear hz
              go_wp2_with fail
              refine hK.out _ _ ?_ (fun hHeld => ?_)
              · exact (zcell HZE.out).2.1
              clear hK K
              try simp only [Act.put, List.setIfInBounds_toArray, List.set_cons_zero, List.set_cons_succ]
              refine wpAnyH_take (i := 8) (oi := { dst := some 93, op := _, type := _, pos := _, after := _, guard := _ }) (v := .bool false) rfl (by kernel_rfl) (by kernel_rfl) (by kernel_rfl) (fun _ _ _ h => h) (Or.inl ⟨by rfl, ?_⟩) (by assumption) ?_
              · (intro W hSw; (try dsimp only at hSw); (go_simp; try rfl))
              try simp only [Act.put, List.setIfInBounds_toArray, List.set_cons_zero, List.set_cons_succ]
              refine wpAnyH_take (i := 9) (oi := { dst := some 94, op := _, type := _, pos := _, after := _, guard := _ }) (v := ?_) rfl (by kernel_rfl) (by kernel_rfl) (by kernel_rfl) (fun _ _ _ h => h) (Or.inl ⟨by rfl, ?_⟩) (by assumption) ?_
              rotate_left
              · (intro W hSw; (try dsimp only at hSw); go_simp; try (with_reducible rfl))
              try simp only [Act.put, List.setIfInBounds_toArray, List.set_cons_zero, List.set_cons_succ]
              refine wpAnyH_take (i := 10) (oi := { dst := some 95, op := _, type := _, pos := _, after := _, guard := _ }) (v := ?_) rfl (by kernel_rfl) (by kernel_rfl) (by kernel_rfl) (fun _ _ _ h => h) (Or.inl ⟨by rfl, ?_⟩) (by assumption) ?_
              rotate_left
              · (intro W hSw; (try dsimp only at hSw); go_simp; try (with_reducible rfl))
              try simp only [Act.put, List.setIfInBounds_toArray, List.set_cons_zero, List.set_cons_succ]
              refine wpAnyH_take (i := 11) (oi := { dst := some 96, op := _, type := _, pos := _, after := _, guard := _ }) (v := ?_) rfl (by kernel_rfl) (by kernel_rfl) (by kernel_rfl) (fun _ _ _ h => h) (Or.inl ⟨by rfl, ?_⟩) (by assumption) ?_
              rotate_left
              · (intro W hSw; (try dsimp only at hSw); go_simp; try (with_reducible rfl))
              try simp only [Act.put, List.setIfInBounds_toArray, List.set_cons_zero, List.set_cons_succ]
              refine wpAnyH_take (i := 12) (oi := { dst := some 97, op := _, type := _, pos := _, after := _, guard := _ }) (v := ?_) rfl (by kernel_rfl) (by kernel_rfl) (by kernel_rfl) (fun _ _ _ h => h) (Or.inl ⟨by rfl, ?_⟩) (by assumption) ?_
              rotate_left
              · (intro W hSw; (try dsimp only at hSw); go_simp; try (with_reducible rfl))
              try simp only [Act.put, List.setIfInBounds_toArray, List.set_cons_zero, List.set_cons_succ]
              refine wpAnyH_ready (rs := [13]) (by kernel_rfl) (by simp) ?_
              refine (AllReadyH.cons (o := { dst := some 98, op := _, type := _, pos := _, after := _, guard := _ }) rfl (fun K hK => ?_) AllReadyH.nil)
              go_simp
              refine (double_nil _ _).mono ?_
              rintro e1 V3 ⟨rfl, rfl⟩
              go_wp2_with fail
              refine hK.out _ _ ?_ (fun hHeld => ?_)
              · exact (zcell HZE.out).2.1
              clear hK K
              try simp only [Act.put, List.setIfInBounds_toArray, List.set_cons_zero, List.set_cons_succ]
              refine wpAnyH_take (i := 14) (oi := { dst := some 99, op := _, type := _, pos := _, after := _, guard := _ }) (v := .bool false) rfl (by kernel_rfl) (by kernel_rfl) (by kernel_rfl) (fun _ _ _ h => h) (Or.inl ⟨by rfl, ?_⟩) (by assumption) ?_
              · (intro W hSw; (try dsimp only at hSw); (go_simp; try rfl))
              try simp only [Act.put, List.setIfInBounds_toArray, List.set_cons_zero, List.set_cons_succ]
              refine wpAnyH_done (by kernel_rfl) ?_ _
              clear hHeld
              obtain ⟨LF, hLF⟩ : ∃ LF : List (Int × Int), LF = L ++ [(p, y.2)] := ⟨_, rfl⟩
              obtain ⟨pF, hpF⟩ : ∃ pF : Int, pF = p + 1 := ⟨_, rfl⟩
              have HZF := mkH (show Z w wr.heap.size wr.heap.size (2, (j : Int), nv) none _ LF pF (LF.map Prod.snd) by rw [hLF, hpF, List.map_append]; exact HZE.out)
              have HLF : Hid (LF.length ≤ i + 1 ∧ 0 ≤ pF ∧ pF ≤ (i : Int) + 1) := mkH ⟨by rw [hLF]; rw [List.length_append, List.length_singleton]; omega, by omega, by omega⟩
              have HRF' : Hid (Rs LF pF) := mkH (by rw [hLF, hpF]; exact Rs.snoc HRS.out)
              clear hLF hpF HRS
              clear HZ HW1 HZ0 HZa HZE HD HRD
              obtain ⟨gx, gk, hgb, hgr⟩ := zget HZF.out (j : Int)
              have HGB := mkH hgb
              have HGR := mkH hgr
              obtain ⟨-, cF, -⟩ := zcell HZF.out
              simp only at cF
              have HAL := mkH (alls_any HZF.out.g (by have := HLF.out.1; omega))
              clear hgb hgr
              go_wp2_with (first
                | (go_at_call 18; refine HGB.out.mono ?_; rintro e w21 ⟨rfl, rfl⟩)
                | (go_at_call 19; refine HGR.out.mono ?_; rintro e w22 ⟨rfl, rfl⟩)
                | fail)
              refine HAL.out.mono ?_
              rintro e w8 ⟨a8, c8, rfl, ho8, hb8⟩
              have hz8 := HZF.out.below hb8
              obtain ⟨ar, cr, hbr, hor⟩ := id hz8.r
              have HZ8 := mkH hz8
              obtain ⟨N2, hN2⟩ : ∃ N2, N2 = (LF.map Prod.snd).length := ⟨_, rfl⟩
              have cR : w8.cell? ⟨w.heap.size + 1, 0, none⟩ = some (.slice ar N2 cr) := by rw [hN2]; exact hbr.cell 0 _ rfl
              have hALK : ∀ n, Calls Try.prog 21 #[.slice a8 N2 c8, .slice ar N2 cr] (w8.drewN n) fun e w' => e = .returned (.bool true) ∧ ∃ m, w' = (w8.drewN n).drewN m := fun n => by
                rw [hN2]
                exact alike_eq (w8.drewN n) a8 ar c8 cr (LF.map Prod.snd) ((RowE.own ho8).2.below (below_drewN (Below.refl _ _) n)) ((RowE.own hor).2.below (below_drewN (Below.refl _ _) n)) (by rw [List.length_map]; have := HLF.out.1; omega) (own_le ho8) (own_le hor)
              have hLEN : ∀ n, Calls Try.prog 22 #[.pointer (some ⟨w.heap.size, 0, none⟩)] (w8.drewN n) fun e w' => e = .returned (.int .i64 (N2 : Int)) ∧ w' = w8.drewN n := fun n => by
                rw [hN2, List.length_map]
                exact len_any (hz8.g.below (below_drewN (Below.refl _ _) n))
              have HALK := mkH hALK
              have HLEN := mkH hLEN
              rw [← hN2]
              have n1 : (gx != gx) = false := by simp
              have n2 : (gk != gk) = false := by simp
              have n3 : ((N2 : Int) != (N2 : Int)) = false := by simp
              clear hz8 hbr hor ho8 hb8 HZF HGB HGR HAL hALK hLEN cF hN2
              go_wp2_with fail
              go_quiet ((first | (go_at_call 21; exact Calls.quiet_of (HALK.out _)) | (go_at_call 22; exact Calls.quiet_of_same (HLEN.out _)) | fail))
              go_wp2
              go_roundw
              case rel => exact ⟨i + 1, LF, pF, by go_num, by omega, by omega, by have := HLF.out; omega, by have := HLF.out; omega, by have := HLF.out; omega, HRF', mkH (HZ8.out.g.below (below_drewN (Below.refl _ _) _)), mkH (HZ8.out.r.below (below_drewN (Below.refl _ _) _)), mkH (below_drewN HZ8.out.b _), mkH (by have := HZ8.out.a.lt; have := HZ8.out.ha; show _ ≤ w8.heap.size; omega)⟩
              case measure => simp [intOf]; omega

          · by_cases k3 : kd = 3
            · subst k3
              obtain ⟨v, hv⟩ : ∃ v, v = atM nv 3 := ⟨_, rfl⟩
              have HATN : Hid (∀ W, Calls Try.prog 14 #[.int .i64 nv, .int .i64 3] W fun e w' => e = .returned (.int .i64 v) ∧ w' = W) := mkH (fun W => by
                have := at_any nv 3 (by omega) W
                rwa [← hv] at this)
              obtain ⟨W2, hW2⟩ : ∃ W2, W2 = W1.alloc (.cells #[.int .i64 v] 3) := ⟨_, rfl⟩
              have hb2 : Below W1.heap.size W1 W2 := by rw [hW2]; exact (Below.refl _ W1).alloc (Nat.le_refl _) _
              have hz1 := HZ.out.below hb2
              have HZ0 : Hid (Z w wr.heap.size (wr.heap.size + 1) (3, at', nv) (some v) W2.drew L p (L.map Prod.snd)) := mkH (Z.below ⟨hz1.g, hz1.r, hz1.a, fun u e => by
                cases e
                rw [hW2, ← HS1.out]
                exact Bx.new W1 _ _, hz1.b, hz1.ha, by have := HS.out; omega⟩ (Below.refl _ W2).drew)
              obtain ⟨dv, hdv⟩ : ∃ dv : Int, dv = (L.length : Int) - ((L.filter (fun y => !is3 v y.2)).length : Int) := ⟨_, rfl⟩
              have hdv2 : ((L.map Prod.snd).length : Int) - (((L.map Prod.snd).filter (kp v)).length : Int) = dv := by rw [hdv, ← drop_map, List.length_map, List.length_map]
              have HDR : Hid (∀ W M, Z w wr.heap.size (wr.heap.size + 1) (3, at', nv) (some v) W L p M → Calls Try.prog 15 #[.pointer (some ⟨w.heap.size, 0, none⟩), .func (.func 16) #[] #[.pointer (some ⟨wr.heap.size + 1, 0, none⟩)]] W fun e w' => e = .returned (.int .i64 dv) ∧ Z w wr.heap.size (wr.heap.size + 1) (3, at', nv) (some v) w' (L.filter (fun y => !is3 v y.2)) p M) := mkH (fun W M h => by
                have := zdrop h HRS.out (by omega)
                rw [← hdv] at this
                exact this)
              have HRD : Hid (∀ W L', Z w wr.heap.size (wr.heap.size + 1) (3, at', nv) (some v) W L' p (L.map Prod.snd) → Calls Try.prog 17 #[.pointer (some ⟨w.heap.size + 1, 0, none⟩), .int .i64 v] W fun e w' => e = .returned (.int .i64 dv) ∧ Z w wr.heap.size (wr.heap.size + 1) (3, at', nv) (some v) w' L' p ((L.map Prod.snd).filter (kp v))) := mkH (fun W L' h => by
                have := zrdrop (v := v) h hML
                rw [hdv2] at this
                exact this)
              have hmf := hmf
              have n0 : (dv != dv) = false := by simp
              obtain ⟨-, -, d2⟩ := zcell HZ.out
              simp only at d2
              rw [HW1.out] at d2
              rw [hW2, HW1.out] at HZ0
              clear hv hb2 hz1 hdv hdv2 hW2
              go_wp2_with (first
                | (go_at_call 14; refine (HATN.out _).mono ?_; rintro e w4 ⟨rfl, rfl⟩)
                | fail)
              refine wp_region_held_drew (S := fun W => W.cell? ⟨wr.heap.size + 1, 0, none⟩ = some (.int .i64 v)) hmx ?_ (fun hHeld => ?_)
              · exact HZ0.out.n _ rfl |>.cell 0 _ rfl
              generalize ((wr.alloc (.cells #[.int .i64 3, .int .i64 at', .int .i64 nv] 32)).alloc (.cells #[.int .i64 v] 3)).drew = V0 at *
              refine wpAnyH_take (i := 0) (oi := { dst := some 105, op := _, type := _, pos := _, after := _, guard := _ }) (v := ?_) rfl (by kernel_rfl) (by kernel_rfl) (by kernel_rfl) (fun _ _ _ h => h) (Or.inl ⟨by rfl, ?_⟩) (by assumption) ?_
              rotate_left
              · (intro W hSw; (try dsimp only at hSw); go_simp; try (with_reducible rfl))
              try simp only [Act.put, List.setIfInBounds_toArray, List.set_cons_zero, List.set_cons_succ]
              refine wpAnyH_take (i := 3) (oi := { dst := some 108, op := _, type := _, pos := _, after := _, guard := _ }) (v := ?_) rfl (by kernel_rfl) (by kernel_rfl) (by kernel_rfl) (fun _ _ _ h => h) (Or.inl ⟨by rfl, ?_⟩) (by assumption) ?_
              rotate_left
              · (intro W hSw; (try dsimp only at hSw); go_simp; try (with_reducible rfl))
              try simp only [Act.put, List.setIfInBounds_toArray, List.set_cons_zero, List.set_cons_succ]
              refine wpAnyH_take (i := 4) (oi := { dst := some 109, op := _, type := _, pos := _, after := _, guard := _ }) (v := ?_) rfl (by kernel_rfl) (by kernel_rfl) (by kernel_rfl) (fun _ _ _ h => h) (Or.inl ⟨by rfl, ?_⟩) (by assumption) ?_
              rotate_left
              · (intro W hSw; (try dsimp only at hSw); go_simp; try (with_reducible rfl))
              try simp only [Act.put, List.setIfInBounds_toArray, List.set_cons_zero, List.set_cons_succ]
              refine wpAnyH_ready (rs := [1]) (by kernel_rfl) (by simp) ?_
              refine (AllReadyH.cons (o := { dst := some 106, op := _, type := _, pos := _, after := _, guard := _ }) rfl (fun K hK => ?_) AllReadyH.nil)
              go_simp
              refine hK.out _ _ ?_ (fun hHeld => ?_)
              · exact hHeld
              clear hK K
              try simp only [Act.put, List.setIfInBounds_toArray, List.set_cons_zero, List.set_cons_succ]
              refine wpAnyH_ready (rs := [2]) (by kernel_rfl) (by simp) ?_
              refine (AllReadyH.cons (o := { dst := some 107, op := _, type := _, pos := _, after := _, guard := _ }) rfl (fun K hK => ?_) AllReadyH.nil)
              go_simp
              refine (HDR.out _ _ HZ0.out).mono ?_
              rintro e1 V1 ⟨rfl, hz⟩
              have HZa := mkH hz
              clear hz
              go_wp2_with fail
              refine hK.out _ _ ?_ (fun hHeld => ?_)
              · exact (HZa.out.n _ rfl).cell 0 _ rfl
              clear hK K
              try simp only [Act.put, List.setIfInBounds_toArray, List.set_cons_zero, List.set_cons_succ]
              refine wpAnyH_ready (rs := [5]) (by kernel_rfl) (by simp) ?_
              refine (AllReadyH.cons (o := { dst := some 110, op := _, type := _, pos := _, after := _, guard := _ }) rfl (fun K hK => ?_) AllReadyH.nil)
              go_simp
              refine (HRD.out _ _ HZa.out).mono ?_
              rintro e1 V2 ⟨rfl, hz⟩
              have HZE := mkH hz
              clear hz
              go_wp2_with fail
              refine hK.out _ _ ?_ (fun hHeld => ?_)
              · exact (HZE.out.n _ rfl).cell 0 _ rfl
              clear hK K
              try simp only [Act.put, List.setIfInBounds_toArray, List.set_cons_zero, List.set_cons_succ]
              refine wpAnyH_take (i := 6) (oi := { dst := some 111, op := _, type := _, pos := _, after := _, guard := _ }) (v := .bool false) rfl (by kernel_rfl) (by kernel_rfl) (by kernel_rfl) (fun _ _ _ h => h) (Or.inl ⟨by rfl, ?_⟩) (by assumption) ?_
              · (intro W hSw; (try dsimp only at hSw); (go_simp; try rfl))
              try simp only [Act.put, List.setIfInBounds_toArray, List.set_cons_zero, List.set_cons_succ]
              refine wpAnyH_done (by kernel_rfl) ?_ _
              clear hHeld d2 hmf
              obtain ⟨LF, hLF⟩ : ∃ LF : List (Int × Int), LF = L.filter (fun y => !is3 v y.2) := ⟨_, rfl⟩
              obtain ⟨pF, hpF⟩ : ∃ pF : Int, pF = p := ⟨_, rfl⟩
              have HZF := mkH (show Z w wr.heap.size (wr.heap.size + 1) (3, at', nv) (some v) _ LF pF (LF.map Prod.snd) by rw [hLF, hpF, drop_map]; exact HZE.out)
              have HLF : Hid (LF.length ≤ i + 1 ∧ 0 ≤ pF ∧ pF ≤ (i : Int) + 1) := mkH ⟨by rw [hLF]; exact Nat.le_trans (List.length_filter_le _ _) (by omega), by omega, by omega⟩
              have HRF' : Hid (Rs LF pF) := mkH (by rw [hLF, hpF]; exact HRS.out.sub (List.filter_sublist))
              clear hLF hpF HRS
              clear HZ HW1 HZ0 HZa HZE HDR HRD HATN n0
              obtain ⟨gx, gk, hgb, hgr⟩ := zget HZF.out at'
              have HGB := mkH hgb
              have HGR := mkH hgr
              obtain ⟨-, cF, -⟩ := zcell HZF.out
              simp only at cF
              have HAL := mkH (alls_any HZF.out.g (by have := HLF.out.1; omega))
              clear hgb hgr
              go_wp2_with (first
                | (go_at_call 18; refine HGB.out.mono ?_; rintro e w21 ⟨rfl, rfl⟩)
                | (go_at_call 19; refine HGR.out.mono ?_; rintro e w22 ⟨rfl, rfl⟩)
                | fail)
              refine HAL.out.mono ?_
              rintro e w8 ⟨a8, c8, rfl, ho8, hb8⟩
              have hz8 := HZF.out.below hb8
              obtain ⟨ar, cr, hbr, hor⟩ := id hz8.r
              have HZ8 := mkH hz8
              obtain ⟨N2, hN2⟩ : ∃ N2, N2 = (LF.map Prod.snd).length := ⟨_, rfl⟩
              have cR : w8.cell? ⟨w.heap.size + 1, 0, none⟩ = some (.slice ar N2 cr) := by rw [hN2]; exact hbr.cell 0 _ rfl
              have hALK : ∀ n, Calls Try.prog 21 #[.slice a8 N2 c8, .slice ar N2 cr] (w8.drewN n) fun e w' => e = .returned (.bool true) ∧ ∃ m, w' = (w8.drewN n).drewN m := fun n => by
                rw [hN2]
                exact alike_eq (w8.drewN n) a8 ar c8 cr (LF.map Prod.snd) ((RowE.own ho8).2.below (below_drewN (Below.refl _ _) n)) ((RowE.own hor).2.below (below_drewN (Below.refl _ _) n)) (by rw [List.length_map]; have := HLF.out.1; omega) (own_le ho8) (own_le hor)
              have hLEN : ∀ n, Calls Try.prog 22 #[.pointer (some ⟨w.heap.size, 0, none⟩)] (w8.drewN n) fun e w' => e = .returned (.int .i64 (N2 : Int)) ∧ w' = w8.drewN n := fun n => by
                rw [hN2, List.length_map]
                exact len_any (hz8.g.below (below_drewN (Below.refl _ _) n))
              have HALK := mkH hALK
              have HLEN := mkH hLEN
              rw [← hN2]
              have n1 : (gx != gx) = false := by simp
              have n2 : (gk != gk) = false := by simp
              have n3 : ((N2 : Int) != (N2 : Int)) = false := by simp
              clear hz8 hbr hor ho8 hb8 HZF HGB HGR HAL hALK hLEN cF hN2
              go_wp2_with fail
              go_quiet ((first | (go_at_call 21; exact Calls.quiet_of (HALK.out _)) | (go_at_call 22; exact Calls.quiet_of_same (HLEN.out _)) | fail))
              go_wp2
              go_roundw
              case rel => exact ⟨i + 1, LF, pF, by go_num, by omega, by omega, by have := HLF.out; omega, by have := HLF.out; omega, by have := HLF.out; omega, HRF', mkH (HZ8.out.g.below (below_drewN (Below.refl _ _) _)), mkH (HZ8.out.r.below (below_drewN (Below.refl _ _) _)), mkH (below_drewN HZ8.out.b _), mkH (by have := HZ8.out.a.lt; have := HZ8.out.ha; show _ ≤ w8.heap.size; omega)⟩
              case measure => simp [intOf]; omega

            · -- no kind of call
              have HZZ := mkH HZ.out
              rw [HW1.out] at HZZ
              go_wp2_with fail
              obtain ⟨LF, hLF⟩ : ∃ LF : List (Int × Int), LF = L := ⟨_, rfl⟩
              obtain ⟨pF, hpF⟩ : ∃ pF : Int, pF = p := ⟨_, rfl⟩
              have HZF := mkH (show Z w wr.heap.size wr.heap.size (kd, at', nv) none (wr.alloc (.cells #[.int .i64 kd, .int .i64 at', .int .i64 nv] 32)) LF pF (LF.map Prod.snd) by rw [hLF, hpF]; exact HZZ.out)
              have HLF : Hid (LF.length ≤ i + 1 ∧ 0 ≤ pF ∧ pF ≤ (i : Int) + 1) := mkH ⟨by rw [hLF]; omega, by omega, by omega⟩
              have HRF' : Hid (Rs LF pF) := mkH (by rw [hLF, hpF]; exact HRS.out)
              clear hLF hpF HRS
              clear HZ HW1 HZZ
              obtain ⟨gx, gk, hgb, hgr⟩ := zget HZF.out at'
              have HGB := mkH hgb
              have HGR := mkH hgr
              obtain ⟨-, cF, -⟩ := zcell HZF.out
              simp only at cF
              have HAL := mkH (alls_any HZF.out.g (by have := HLF.out.1; omega))
              clear hgb hgr
              go_wp2_with (first
                | (go_at_call 18; refine HGB.out.mono ?_; rintro e w21 ⟨rfl, rfl⟩)
                | (go_at_call 19; refine HGR.out.mono ?_; rintro e w22 ⟨rfl, rfl⟩)
                | fail)
              refine HAL.out.mono ?_
              rintro e w8 ⟨a8, c8, rfl, ho8, hb8⟩
              have hz8 := HZF.out.below hb8
              obtain ⟨ar, cr, hbr, hor⟩ := id hz8.r
              have HZ8 := mkH hz8
              obtain ⟨N2, hN2⟩ : ∃ N2, N2 = (LF.map Prod.snd).length := ⟨_, rfl⟩
              have cR : w8.cell? ⟨w.heap.size + 1, 0, none⟩ = some (.slice ar N2 cr) := by rw [hN2]; exact hbr.cell 0 _ rfl
              have hALK : ∀ n, Calls Try.prog 21 #[.slice a8 N2 c8, .slice ar N2 cr] (w8.drewN n) fun e w' => e = .returned (.bool true) ∧ ∃ m, w' = (w8.drewN n).drewN m := fun n => by
                rw [hN2]
                exact alike_eq (w8.drewN n) a8 ar c8 cr (LF.map Prod.snd) ((RowE.own ho8).2.below (below_drewN (Below.refl _ _) n)) ((RowE.own hor).2.below (below_drewN (Below.refl _ _) n)) (by rw [List.length_map]; have := HLF.out.1; omega) (own_le ho8) (own_le hor)
              have hLEN : ∀ n, Calls Try.prog 22 #[.pointer (some ⟨w.heap.size, 0, none⟩)] (w8.drewN n) fun e w' => e = .returned (.int .i64 (N2 : Int)) ∧ w' = w8.drewN n := fun n => by
                rw [hN2, List.length_map]
                exact len_any (hz8.g.below (below_drewN (Below.refl _ _) n))
              have HALK := mkH hALK
              have HLEN := mkH hLEN
              rw [← hN2]
              have n1 : (gx != gx) = false := by simp
              have n2 : (gk != gk) = false := by simp
              have n3 : ((N2 : Int) != (N2 : Int)) = false := by simp
              clear hz8 hbr hor ho8 hb8 HZF HGB HGR HAL hALK hLEN cF hN2
              go_wp2_with fail
              go_quiet ((first | (go_at_call 21; exact Calls.quiet_of (HALK.out _)) | (go_at_call 22; exact Calls.quiet_of_same (HLEN.out _)) | fail))
              go_wp2
              go_roundw
              case rel => exact ⟨i + 1, LF, pF, by go_num, by omega, by omega, by have := HLF.out; omega, by have := HLF.out; omega, by have := HLF.out; omega, HRF', mkH (HZ8.out.g.below (below_drewN (Below.refl _ _) _)), mkH (HZ8.out.r.below (below_drewN (Below.refl _ _) _)), mkH (below_drewN HZ8.out.b _), mkH (by have := HZ8.out.a.lt; have := HZ8.out.ha; show _ ≤ w8.heap.size; omega)⟩
              case measure => simp [intOf]; omega

    · by_cases hi1 : (i : Int) < (n0 : Int)
      · have hi2 : ¬ (i : Int) < 100 := by omega
        clear hgo
        have HBB := mkH (HB.out)
        have hT := fun W => take_nil W 0
        have hA := fun W => alls_nil W
        have hLn := fun W => len_nil W
        have hD := fun W v => drop_nil W v
        have hWk := fun W => works_any W
        have HTN := mkH hT
        have HAN := mkH hA
        have HLN := mkH hLn
        have HDN := mkH hD
        have HWN := mkH hWk
        clear hT hA hLn hD hWk
        go_wp2_with (first
          | (go_at_call 10; refine (HTN.out _).mono ?_; rintro e w5 ⟨rfl, rfl⟩)
          | (go_at_call 20; refine (HAN.out _).mono ?_; rintro e w8 ⟨ao, cap, rfl, ho8, hb8⟩; clear ho8)
          | (go_at_call 22; refine (HLN.out _).mono ?_; rintro e w9 ⟨rfl, rfl⟩)
          | (go_at_call 15; refine (HDN.out _ _).mono ?_; rintro e w10 ⟨rfl, hb10⟩)
          | (go_at_call 24; refine (HWN.out _).mono ?_; rintro e w11 ⟨rfl, hb11⟩)
          | fail)
        have z1 := HBB.out.size
        have z2 := hb8.size
        have z3 := hb10.size
        have z4 := HBB.out.trans (hb8.mono z1)
        have z5 := z4.trans (hb10.mono (by omega))
        go_ret
        exact ⟨rfl, z5.trans (hb11.mono (by omega))⟩
      · clear hgo
        have HBB := mkH (HB.out)
        have hT := fun W => take_nil W 0
        have hA := fun W => alls_nil W
        have hLn := fun W => len_nil W
        have hD := fun W v => drop_nil W v
        have hWk := fun W => works_any W
        have HTN := mkH hT
        have HAN := mkH hA
        have HLN := mkH hLn
        have HDN := mkH hD
        have HWN := mkH hWk
        clear hT hA hLn hD hWk
        go_wp2_with (first
          | (go_at_call 10; refine (HTN.out _).mono ?_; rintro e w5 ⟨rfl, rfl⟩)
          | (go_at_call 20; refine (HAN.out _).mono ?_; rintro e w8 ⟨ao, cap, rfl, ho8, hb8⟩; clear ho8)
          | (go_at_call 22; refine (HLN.out _).mono ?_; rintro e w9 ⟨rfl, rfl⟩)
          | (go_at_call 15; refine (HDN.out _ _).mono ?_; rintro e w10 ⟨rfl, hb10⟩)
          | (go_at_call 24; refine (HWN.out _).mono ?_; rintro e w11 ⟨rfl, hb11⟩)
          | fail)
        have z1 := HBB.out.size
        have z2 := hb8.size
        have z3 := hb10.size
        have z4 := HBB.out.trans (hb8.mono z1)
        have z5 := z4.trans (hb10.mono (by omega))
        go_ret
        exact ⟨rfl, z5.trans (hb11.mono (by omega))⟩
end Go.Proofs.Yteaempemdolcjaa.Pl1
