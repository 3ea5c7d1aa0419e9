/-
  chart.Move.
-/
import Derived.Test.YtcpmcfagibmboabGreatChD
import Derived.Test.YtcpmcfagibmboabGreatChE
namespace Go.Proofs.YtcpmcfagibmboabGreat.Cf
open Go.RowKit Pl Pw Pr Pf Pv Cp Ca Cb Cc Cd Ce Gf Gk
open Cr hiding some_of
open Kt hiding mkH
open Kv
set_option linter.unusedVariables false
set_option linter.unusedSimpArgs false
set_option maxRecDepth 20000

theorem may_gr (w : World) (lo hi : Int) : Calls Tryz.prog 47 #[.agg #[.int .i64 lo, .int .i64 hi]] w fun e w' => e = .returned (.bool (may (lo, hi))) ∧ Gr w w' :=
  (Pw.may_any w lo hi).mono fun _ _ ⟨he, hw⟩ => ⟨he, hw ▸ (Gr.refl w).alloc _⟩

/-- What Move answers: an epoch, pieces, an error. -/
noncomputable def mvE (e : Int) (ps : List Pc) (r : Rg) (tg : Int) : Int × List Pc × Int :=
  if mayC e ps = true ∧ may r = true ∧ isSh tg = true then (if mv r tg [] ps = ps then (e, ps, 0) else if e = 1099511627776 then (0, [], 7) else (e + 1, mv r tg [] ps, 0)) else (0, [], 2)
/-- A chart and an error handed back. -/
def ChP (w : World) (q : Int × List Pc × Int) (x : Ending) (w' : World) : Prop :=
  ∃ (ao : Option Addr) (cap : Nat), x = .returned (.tuple #[.agg #[.int .i64 q.1, .slice ao q.2.1.length cap], .int .i64 q.2.2]) ∧ OwP w' w.heap.size ao cap q.2.1 ∧ Below w.heap.size w w'
theorem chP_zero {w w' : World} (e : Int) (hb : Below w.heap.size w w') : ChP w (0, [], e) (.returned (.tuple #[.agg #[.int .i64 0, .slice none 0 0], .int .i64 e])) w' :=
  ⟨none, 0, rfl, ⟨World.ownsRow_nil _ _ _ _⟩, hb⟩

theorem two_load {P : Program} {w : World} {b : Nat} {a0 a1 : Value} {t : TypeId} (h : Bx w b #[a0, a1] t) : w.cell? ⟨b, 0, none⟩ = some a0 ∧ w.cell? ⟨b, 1, none⟩ = some a1 ∧ w.frozen? ⟨b, 0, none⟩ = false ∧ w.frozen? ⟨b, 1, none⟩ = false :=
  ⟨h.cell 0 _ rfl, h.cell 1 _ rfl, h.frozen 0, h.frozen 1⟩

theorem cell_other {W : World} {p a : Addr} (h : a.block ≠ p.block) (v : Value) : (W.setCell p v).cell? a = W.cell? a := World.cell?_of_block (w := W) (a := a) (heap_setCell_other W p a.block v h)
theorem four_set {W : World} {n B : Nat} (hB : n + 2 ≤ B) (u v : Value) {x0 x1 x2 x3 : Option Value} (h : W.cell? ⟨n, 0, none⟩ = x0 ∧ W.cell? ⟨n, 1, none⟩ = x1 ∧ W.cell? ⟨n + 1, 0, none⟩ = x2 ∧ W.cell? ⟨n + 1, 1, none⟩ = x3) :
    ((W.setCell ⟨B, 0, none⟩ u).setCell ⟨B, 1, none⟩ v).cell? ⟨n, 0, none⟩ = x0 ∧ ((W.setCell ⟨B, 0, none⟩ u).setCell ⟨B, 1, none⟩ v).cell? ⟨n, 1, none⟩ = x1 ∧ ((W.setCell ⟨B, 0, none⟩ u).setCell ⟨B, 1, none⟩ v).cell? ⟨n + 1, 0, none⟩ = x2 ∧ ((W.setCell ⟨B, 0, none⟩ u).setCell ⟨B, 1, none⟩ v).cell? ⟨n + 1, 1, none⟩ = x3 := by
  have h1 : n ≠ B := by omega
  have h2 : n + 1 ≠ B := by omega
  refine ⟨?_, ?_, ?_, ?_⟩
  · rw [cell_other h1, cell_other h1]; exact h.1
  · rw [cell_other h1, cell_other h1]; exact h.2.1
  · rw [cell_other h2, cell_other h2]; exact h.2.2.1
  · rw [cell_other h2, cell_other h2]; exact h.2.2.2

theorem move_fin {w w9 : World} {n : Nat} {x y : Value} {a5 : Option Addr} {c5 : Nat} {l : List Pc} (E2 : Bx w9 n #[x, y] 51) (ho : OwP w9 w.heap.size a5 c5 l) (hb : Below w.heap.size w w9) (h : w.heap.size ≤ n) (e : Int) :
    OwP ((w9.setCell ⟨n, 0, none⟩ (.int .i64 e)).setCell ⟨n, 1, none⟩ (.slice a5 l.length c5)) w.heap.size a5 c5 l ∧ Below w.heap.size w ((w9.setCell ⟨n, 0, none⟩ (.int .i64 e)).setCell ⟨n, 1, none⟩ (.slice a5 l.length c5)) ∧
    ((w9.setCell ⟨n, 0, none⟩ (.int .i64 e)).setCell ⟨n, 1, none⟩ (.slice a5 l.length c5)).cell? ⟨n, 0, none⟩ = some (.int .i64 e) ∧ ((w9.setCell ⟨n, 0, none⟩ (.int .i64 e)).setCell ⟨n, 1, none⟩ (.slice a5 l.length c5)).cell? ⟨n, 1, none⟩ = some (.slice a5 l.length c5) := by
  have s1 := E2.set 0 (.int .i64 e)
  have s2 := s1.set 1 (.slice a5 l.length c5)
  have hf := (E2.frset 0 (.int .i64 e)).trans (s1.frset 1 (.slice a5 l.length c5)) (fun i hi => .inl hi)
  refine ⟨⟨own_fr ho.o hf (fun k hk hq => own_ne ho.o E2 hk (by decide) hq)⟩, (hb.setCell h _).setCell h _, s2.cell 0 _ rfl, s2.cell 1 _ rfl⟩

set_option maxHeartbeats 4000000 in
theorem move_any (w : World) (e : Int) (ao : Option Addr) (cap : Nat) (ps : List Pc) (h : RdP w ao cap ps) (hl : ps.length ≤ 100000) (r1 r2 tg : Int) :
    Calls Tryz.prog 21 #[.agg #[.int .i64 e, .slice ao ps.length cap], .agg #[.int .i64 r1, .int .i64 r2], .int .i64 tg] w (ChP w (mvE e ps (r1, r2) tg)) := by
  obtain ⟨q, hq⟩ : ∃ q, q = mvE e ps (r1, r2) tg := ⟨_, rfl⟩
  rw [← hq]
  have HQ := mkH hq
  clear hq
  obtain ⟨W3, hW3⟩ : ∃ W3, W3 = ((w.alloc (.cells #[.int .i64 e, .slice ao ps.length cap] 51)).alloc (.cells #[.int .i64 r1, .int .i64 r2] 30)).alloc (.cells #[.int .i64 0, .slice none 0 0] 51) := ⟨_, rfl⟩
  have b0 : Bx W3 w.heap.size #[.int .i64 e, .slice ao ps.length cap] 51 := by rw [hW3]; exact ((Bx.new w _ _).alloc _).alloc _
  have b1 : Bx W3 (w.heap.size + 1) #[.int .i64 r1, .int .i64 r2] 30 := by rw [hW3]; exact (Bx.new1 w _ _ _).alloc _
  have b2 : Bx W3 (w.heap.size + 2) #[.int .i64 0, .slice none 0 0] 51 := by rw [hW3]; exact Bx.new2 w _ _ _ _
  have hB : Below w.heap.size w W3 := by rw [hW3]; exact (((Below.refl _ w).alloc (Nat.le_refl _) _).alloc (by simp) _).alloc (by simp; omega) _
  have hz : W3.heap.size = w.heap.size + 3 := by rw [hW3]; simp
  have HR := mkH (h.below hB)
  have HM := mkH (Cb.may_any W3 e ao cap ps HR.out hl)
  obtain ⟨c0, c1, -, -⟩ := two_load (P := Tryz.prog) b0
  obtain ⟨d0, d1, -, -⟩ := two_load (P := Tryz.prog) b1
  obtain ⟨g0, g1, g2, g3⟩ := two_load (P := Tryz.prog) b2
  have HB0 := mkH b0
  have HB1 := mkH b1
  have HB2 := mkH b2
  have HBW := mkH hB
  have HZ := mkH hz
  have HW := mkH hW3
  clear b0 b1 b2 hB hz hW3 h
  go_enter Tryz.func21, Tryz.ntmps21
  go_wp2_with fail
  simp only [show w.heap.size + 1 + 1 = w.heap.size + 2 from rfl]
  rw [show ((w.alloc (.cells #[.int .i64 e, .slice ao ps.length cap] 51)).alloc (.cells #[.int .i64 r1, .int .i64 r2] 30)).alloc (.cells #[.int .i64 0, .slice none 0 0] 51) = W3 from HW.out.symm]
  clear HW
  refine HM.out.mono ?_
  rintro x w4 ⟨rfl, hb4⟩
  have C0 := mkH (HB0.out.bel hb4)
  have C1 := mkH (HB1.out.bel hb4)
  have C2 := mkH (HB2.out.bel hb4)
  have HBW4 := mkH (HBW.out.trans (hb4.mono HBW.out.size))
  have HR4 := mkH (HR.out.below hb4)
  have hz4 : w.heap.size + 3 ≤ w4.heap.size := by have := hb4.size; have := HZ.out; omega
  clear hb4 HM HB0 HB1 HB2 HBW HZ HR c0 c1 d0 d1 g0 g1 g2 g3
  clear W3
  obtain ⟨c0, c1, -, -⟩ := two_load (P := Tryz.prog) C0.out
  obtain ⟨d0, d1, -, -⟩ := two_load (P := Tryz.prog) C1.out
  obtain ⟨g0, g1, g2, g3⟩ := two_load (P := Tryz.prog) C2.out
  cases hm : mayC e ps with
  | false =>
    have HE : Hid (q = (0, [], 2)) := mkH (by rw [HQ.out]; unfold mvE; rw [if_neg]; rw [hm]; rintro ⟨h, -⟩; cases h)
    clear hm HQ
    have k := C2.out.set 0 (.int .i64 0)
    have k2 := k.set 1 (.slice none 0 0)
    obtain ⟨y0, y1, -, -⟩ := two_load (P := Tryz.prog) k2
    have HBF := mkH ((HBW4.out.setCell (p := ⟨w.heap.size + 2, 0, none⟩) (by simp) (.int .i64 0)).setCell (p := ⟨w.heap.size + 2, 1, none⟩) (by simp) (.slice none 0 0))
    clear k k2
    go_wp2
    rw [HE.out]
    exact bodyPost_ret (v := .tuple #[.agg #[.int .i64 0, .slice none 0 0], .int .i64 2]) (res_ct rfl _ _ _ (x := .agg #[.int .i64 0, .slice none 0 0]) (y := .int .i64 2) (b := ⟨w.heap.size + 2, 0, none⟩) (by rfl) (by rfl) (by simp [loadVar, go_sem, y0, y1])) rfl (chP_zero 2 HBF.out)
  | true =>
    have HM := mkH hm
    have hr := fun W => may_gr W r1 r2
    clear hm
    cases hmr : may (r1, r2) with
    | false =>
      rw [hmr] at hr
      have HMR := mkH hmr
      clear hmr
      go_wp2_with fail
      refine (hr _).mono ?_
      rintro x w5 ⟨rfl, hg5⟩
      have D2 := mkH (C2.out.bel hg5.below)
      have HBW5 := mkH (HBW4.out.trans (hg5.below.mono (by omega)))
      obtain ⟨q0, q1, q2, q3⟩ := two_load (P := Tryz.prog) D2.out
      clear hg5 g0 g1 g2 g3 hr
      have HE : Hid (q = (0, [], 2)) := mkH (by rw [HQ.out]; unfold mvE; rw [if_neg]; rw [HMR.out]; rintro ⟨_, h, _⟩; cases h)
      have k := D2.out.set 0 (.int .i64 0)
      have k2 := k.set 1 (.slice none 0 0)
      obtain ⟨y0, y1, -, -⟩ := two_load (P := Tryz.prog) k2
      have HBF := mkH ((HBW5.out.setCell (p := ⟨w.heap.size + 2, 0, none⟩) (by simp) (.int .i64 0)).setCell (p := ⟨w.heap.size + 2, 1, none⟩) (by simp) (.slice none 0 0))
      clear k k2 HQ
      go_wp2
      rw [HE.out]
      exact bodyPost_ret (v := .tuple #[.agg #[.int .i64 0, .slice none 0 0], .int .i64 2]) (res_ct rfl _ _ _ (x := .agg #[.int .i64 0, .slice none 0 0]) (y := .int .i64 2) (b := ⟨w.heap.size + 2, 0, none⟩) (by rfl) (by rfl) (by simp [loadVar, go_sem, y0, y1])) rfl (chP_zero 2 HBF.out)
    | true =>
      rw [hmr] at hr
      have HMR := mkH hmr
      have hs := fun W => isShard_any W tg
      clear hmr
      cases hms : isSh tg with
      | false =>
        rw [hms] at hs
        have HMS := mkH hms
        clear hms
        go_wp2_with fail
        refine (hr _).mono ?_
        rintro x w5 ⟨rfl, hg5⟩
        have D2 := mkH (C2.out.bel hg5.below)
        have HBW5 := mkH (HBW4.out.trans (hg5.below.mono (by omega)))
        obtain ⟨q0, q1, q2, q3⟩ := two_load (P := Tryz.prog) D2.out
        clear hg5 g0 g1 g2 g3 hr
        go_wp2_with fail
        refine (hs _).mono ?_
        rintro x w6 ⟨rfl, rfl⟩
        clear hs
        have HE : Hid (q = (0, [], 2)) := mkH (by rw [HQ.out]; unfold mvE; rw [if_neg]; rw [HMS.out]; rintro ⟨_, _, h⟩; cases h)
        have k := D2.out.set 0 (.int .i64 0)
        have k2 := k.set 1 (.slice none 0 0)
        obtain ⟨y0, y1, -, -⟩ := two_load (P := Tryz.prog) k2
        have HBF := mkH ((HBW5.out.setCell (p := ⟨w.heap.size + 2, 0, none⟩) (by simp) (.int .i64 0)).setCell (p := ⟨w.heap.size + 2, 1, none⟩) (by simp) (.slice none 0 0))
        clear k k2 HQ
        go_wp2
        rw [HE.out]
        exact bodyPost_ret (v := .tuple #[.agg #[.int .i64 0, .slice none 0 0], .int .i64 2]) (res_ct rfl _ _ _ (x := .agg #[.int .i64 0, .slice none 0 0]) (y := .int .i64 2) (b := ⟨w.heap.size + 2, 0, none⟩) (by rfl) (by rfl) (by simp [loadVar, go_sem, y0, y1])) rfl (chP_zero 2 HBF.out)
      | true =>
        rw [hms] at hs
        have hgd := ((mayC_iff _ _).1 HM.out).2
        have HMS := mkH hms
        clear hms
        go_wp2_with fail
        refine (hr _).mono ?_
        rintro x w5 ⟨rfl, hg5⟩
        have D0 := mkH (C0.out.bel hg5.below)
        have D1 := mkH (C1.out.bel hg5.below)
        have D2 := mkH (C2.out.bel hg5.below)
        have HR5 := mkH (HR4.out.below hg5.below)
        have HBW5 := mkH (HBW4.out.trans (hg5.below.mono (by omega)))
        have hz5 : w.heap.size + 3 ≤ w5.heap.size := by have := hg5.below.size; omega
        clear hg5 g0 g1 g2 g3 hr c0 c1 d0 d1 C0 C1 C2 HR4 HBW4 hz4
        clear w4
        obtain ⟨c0, c1, -, -⟩ := two_load (P := Tryz.prog) D0.out
        obtain ⟨d0, d1, -, -⟩ := two_load (P := Tryz.prog) D1.out
        go_wp2_with fail
        refine (hs _).mono ?_
        rintro x w6 ⟨rfl, rfl⟩
        clear hs
        have HMV := mkH (fun W (hb : Below w6.heap.size w6 W) => moved_any W ao cap ps (HR5.out.below hb) hl (fun p hp => by
          obtain ⟨i, hi⟩ := List.mem_iff_getElem?.1 hp
          have := (fo_of ps 0 0 65536 hgd i p hi).1
          omega) r1 r2 tg (by have := (isSh_iff tg).1 HMS.out; omega))
        have HCEL : Hid (∀ W, Below w6.heap.size w6 W → W.cell? ⟨w.heap.size, 0, none⟩ = some (.int .i64 e) ∧ W.cell? ⟨w.heap.size, 1, none⟩ = some (.slice ao ps.length cap) ∧ W.cell? ⟨w.heap.size + 1, 0, none⟩ = some (.int .i64 r1) ∧ W.cell? ⟨w.heap.size + 1, 1, none⟩ = some (.int .i64 r2)) := mkH (fun W hb => by
          have x := D0.out.bel hb
          have y := D1.out.bel hb
          exact ⟨x.cell 0 _ rfl, x.cell 1 _ rfl, y.cell 0 _ rfl, y.cell 1 _ rfl⟩)
        have HZF : Hid (∀ W, Below (w6.alloc (.cells #[.int .i64 0, .slice none 0 0] 51)).drew.heap.size (w6.alloc (.cells #[.int .i64 0, .slice none 0 0] 51)).drew W → W.cell? ⟨w6.heap.size, 0, none⟩ = some (.int .i64 0) ∧ W.cell? ⟨w6.heap.size, 1, none⟩ = some (.slice none 0 0) ∧ W.frozen? ⟨w6.heap.size, 0, none⟩ = false ∧ W.frozen? ⟨w6.heap.size, 1, none⟩ = false) := mkH (fun W hb => two_load (P := Tryz.prog) (((Bx.new w6 #[.int .i64 0, .slice none 0 0] 51).bel (Below.refl _ _).drew).bel hb))
        go_wp2_with fail
        go_cut [8] (fun v8 wc => ∃ (B8 : Nat) (a5 : Option Addr) (c5 : Nat), v8 = .pointer (some ⟨B8, 0, none⟩) ∧ Hid (Bx wc B8 #[.int .i64 e, .slice a5 (mv (r1, r2) tg [] ps).length c5] 51) ∧ Hid (OwP wc w.heap.size a5 c5 (mv (r1, r2) tg [] ps)) ∧ Hid (Below w6.heap.size w6 wc) ∧ w6.heap.size ≤ B8)
        case first =>
          go_region_held3 (fun w' => w'.cell? ⟨w.heap.size, 0, none⟩ = some (.int .i64 e) ∧ w'.cell? ⟨w.heap.size, 1, none⟩ = some (.slice ao ps.length cap) ∧ w'.cell? ⟨w.heap.size + 1, 0, none⟩ = some (.int .i64 r1) ∧ w'.cell? ⟨w.heap.size + 1, 1, none⟩ = some (.int .i64 r2)) (first | go_keep | exact hkeep | exact four_set (by omega) _ _ hkeep) (first
            | (go_at_call 48; refine (HMV.out _ (by (repeat (first | exact Below.refl _ _ | refine Below.drew ?_ | refine Gf.below_drewN ?_ _ | refine Below.alloc ?_ (by simp) _)))).mono ?_; rintro e w7 ⟨a5, c5, rfl, ho7, hb7⟩; have HO7 := mkH ho7; have HB7 := mkH hb7; have hbb : Below w6.heap.size w6 w7 := Below.trans (by (repeat (first | exact Below.refl _ _ | refine Below.drew ?_ | refine Gf.below_drewN ?_ _ | refine Below.alloc ?_ (by simp) _))) (hb7.mono (by simp)); have hkeep := (by exact HCEL.out w7 hbb); have HBB := mkH hbb; (first | (have hzz := HZF.out _ hb7) | (have hzz := True.intro)); (first | (obtain ⟨z0, z1, z2, z3⟩ := hzz) | skip)))
          all_goals
            go_wp2_with fail
            go_meet
          · exact ⟨w7.heap.size, a5, c5, rfl, mkH (Bx.new _ _ _), mkH ((ho7.below ((Below.refl _ w7).alloc (Nat.le_refl _) _)).mono (by show w.heap.size ≤ w6.heap.size; omega)), mkH (hbb.alloc hbb.size _), hbb.size⟩
          · have hx : Bx w7 w6.heap.size #[.int .i64 0, .slice none 0 0] 51 := ((Bx.new w6 #[.int .i64 0, .slice none 0 0] 51).bel (Below.refl _ _).drew).bel hb7
            have hs1 := hx.set 0 (.int .i64 e)
            have hs2 := hs1.set 1 (.slice a5 (mv (r1, r2) tg [] ps).length c5)
            have hf := (hx.frset 0 (.int .i64 e)).trans (hs1.frset 1 (.slice a5 (mv (r1, r2) tg [] ps).length c5)) (fun i hi => .inl hi)
            refine ⟨w6.heap.size, a5, c5, rfl, mkH hs2, mkH ⟨own_mono (own_fr ho7.o hf (fun k hk hq => ?_)) ?_⟩, mkH ((hbb.setCell (Nat.le_refl _) _).setCell (Nat.le_refl _) _), Nat.le_refl _⟩
            · have h1 := (ho7.o.lt k hk).1
              have h2 : (w6.alloc (.cells #[.int .i64 0, .slice none 0 0] 51)).drew.heap.size = w6.heap.size + 1 := by show (w6.alloc _).heap.size = _; simp
              omega
            · show w.heap.size ≤ (w6.alloc (.cells #[.int .i64 0, .slice none 0 0] 51)).heap.size
              simp; omega
        case rest =>
          obtain ⟨B8, a5, c5, rfl, H8, HO8, HB8, hB8⟩ := hcut
          clear c0 c1 d0 d1 HCEL HZF HMV
          have E0 := mkH (D0.out.bel HB8.out)
          have E2 := mkH (D2.out.bel HB8.out)
          have HRC := mkH (HR5.out.below HB8.out)
          have HBWC := mkH (HBW5.out.trans (HB8.out.mono (by omega)))
          have hzc : w6.heap.size ≤ wc.heap.size := HB8.out.size
          clear D0 D1 D2 HB8 HR5 HBW5
          obtain ⟨c0, c1, -, -⟩ := two_load (P := Tryz.prog) E0.out
          obtain ⟨x0, x1, -, -⟩ := two_load (P := Tryz.prog) H8.out
          have HSM := mkH (same_any wc e e a5 ao c5 cap (mv (r1, r2) tg [] ps) ps HO8.out.rd HRC.out)
          by_cases hmm : mv (r1, r2) tg [] ps = ps
          · have hd : decide (e = e ∧ mv (r1, r2) tg [] ps = ps) = true := decide_eq_true ⟨rfl, hmm⟩
            rw [hd] at HSM
            have HE : Hid (q = (e, mv (r1, r2) tg [] ps, 0)) := mkH (by rw [HQ.out]; unfold mvE; rw [if_pos ⟨HM.out, HMR.out, HMS.out⟩, if_pos hmm, hmm])
            clear hd hmm HQ
            generalize mv (r1, r2) tg [] ps = ps' at *
            go_wp2_with fail
            refine HSM.out.mono ?_
            rintro x w9 ⟨rfl, hg9⟩
            have F2 := mkH (E2.out.bel hg9.below)
            have F8 := mkH (H8.out.bel hg9.below)
            have F0 := mkH (E0.out.bel hg9.below)
            have HO9 := mkH (HO8.out.below hg9.below)
            have HB9 := mkH (HBWC.out.trans (hg9.below.mono (by omega)))
            clear hg9 c0 c1 x0 x1 HSM E0 E2 H8 HO8 HBWC HRC
            obtain ⟨x0, x1, x2, -⟩ := two_load (P := Tryz.prog) F8.out
            obtain ⟨g0, g1, g2, g3⟩ := two_load (P := Tryz.prog) F2.out
            obtain ⟨c0, c1, -, -⟩ := two_load (P := Tryz.prog) F0.out
            obtain ⟨f1, f2, y0, y1⟩ := move_fin F2.out HO9.out HB9.out (by omega) e
            have HF1 := mkH f1
            have HF2 := mkH f2
            clear f1 f2
            go_wp2
            rw [HE.out]
            exact bodyPost_ret (v := .tuple #[.agg #[.int .i64 e, .slice a5 ps'.length c5], .int .i64 0]) (res_ct rfl _ _ _ (x := .agg #[.int .i64 e, .slice a5 ps'.length c5]) (y := .int .i64 0) (b := ⟨w.heap.size + 2, 0, none⟩) (by rfl) (by rfl) (by simp [loadVar, go_sem, y0, y1])) rfl ⟨a5, c5, rfl, HF1.out, HF2.out⟩
          · have hd : decide (e = e ∧ mv (r1, r2) tg [] ps = ps) = false := decide_eq_false (fun h => hmm h.2)
            rw [hd] at HSM
            have HMM := mkH hmm
            have he := ((mayC_iff _ _).1 HM.out).1
            clear hd hmm
            go_wp2_with fail
            refine HSM.out.mono ?_
            rintro x w9 ⟨rfl, hg9⟩
            have F2 := mkH (E2.out.bel hg9.below)
            have F8 := mkH (H8.out.bel hg9.below)
            have F0 := mkH (E0.out.bel hg9.below)
            have HO9 := mkH (HO8.out.below hg9.below)
            have HB9 := mkH (HBWC.out.trans (hg9.below.mono (by omega)))
            clear hg9 c0 c1 x0 x1 HSM E0 E2 H8 HO8 HBWC HRC
            obtain ⟨x0, x1, x2, -⟩ := two_load (P := Tryz.prog) F8.out
            obtain ⟨g0, g1, g2, g3⟩ := two_load (P := Tryz.prog) F2.out
            obtain ⟨c0, c1, -, -⟩ := two_load (P := Tryz.prog) F0.out
            by_cases he2 : e = 1099511627776
            · subst he2
              have HE : Hid (q = (0, [], 7)) := mkH (by rw [HQ.out]; unfold mvE; rw [if_pos ⟨HM.out, HMR.out, HMS.out⟩, if_neg HMM.out, if_pos rfl])
              have k := F2.out.set 0 (.int .i64 0)
              have k2 := k.set 1 (.slice none 0 0)
              obtain ⟨y0, y1, -, -⟩ := two_load (P := Tryz.prog) k2
              have HBF := mkH ((HB9.out.setCell (p := ⟨w.heap.size + 2, 0, none⟩) (by simp) (.int .i64 0)).setCell (p := ⟨w.heap.size + 2, 1, none⟩) (by simp) (.slice none 0 0))
              clear k k2 HQ HMM
              go_wp2
              rw [HE.out]
              exact bodyPost_ret (v := .tuple #[.agg #[.int .i64 0, .slice none 0 0], .int .i64 7]) (res_ct rfl _ _ _ (x := .agg #[.int .i64 0, .slice none 0 0]) (y := .int .i64 7) (b := ⟨w.heap.size + 2, 0, none⟩) (by rfl) (by rfl) (by simp [loadVar, go_sem, y0, y1])) rfl (chP_zero 7 HBF.out)
            · have HE : Hid (q = (e + 1, mv (r1, r2) tg [] ps, 0)) := mkH (by rw [HQ.out]; unfold mvE; rw [if_pos ⟨HM.out, HMR.out, HMS.out⟩, if_neg HMM.out, if_neg he2])
              clear HQ HMM
              generalize mv (r1, r2) tg [] ps = ps' at *
              have k := F8.out.set 0 (.int .i64 (e + 1))
              have G2 := mkH (F2.out.other (p := ⟨B8, 0, none⟩) (by simp; omega) (.int .i64 (e + 1)))
              have HO10 : Hid (OwP (w9.setCell ⟨B8, 0, none⟩ (.int .i64 (e + 1))) w.heap.size a5 c5 ps') := mkH ⟨own_fr HO9.out.o (F8.out.frset 0 _) (fun k hk hq => own_ne HO9.out.o F8.out hk (by decide) hq)⟩
              have HB10 := mkH (HB9.out.setCell (p := ⟨B8, 0, none⟩) (by simp; omega) (.int .i64 (e + 1)))
              obtain ⟨l0, l1, -, -⟩ := two_load (P := Tryz.prog) k
              obtain ⟨m0, m1, m2, m3⟩ := two_load (P := Tryz.prog) G2.out
              have hw : IntKind.i64.wrap (e + 1) = e + 1 := IntWalk.i64_in _ (by omega)
              clear k g0 g1 g2 g3
              obtain ⟨f1, f2, y0, y1⟩ := move_fin G2.out HO10.out HB10.out (by omega) (e + 1)
              have HF1 := mkH f1
              have HF2 := mkH f2
              clear f1 f2
              go_wp2
              rw [HE.out]
              exact bodyPost_ret (v := .tuple #[.agg #[.int .i64 (e + 1), .slice a5 ps'.length c5], .int .i64 0]) (res_ct rfl _ _ _ (x := .agg #[.int .i64 (e + 1), .slice a5 ps'.length c5]) (y := .int .i64 0) (b := ⟨w.heap.size + 2, 0, none⟩) (by rfl) (by rfl) (by simp [loadVar, go_sem, y0, y1])) rfl ⟨a5, c5, rfl, HF1.out, HF2.out⟩
end Go.Proofs.YtcpmcfagibmboabGreat.Cf
