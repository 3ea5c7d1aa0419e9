/-
  The walk of ChartBack.
-/
import Derived.Test.YtcpmcfagibmboabChLf
import Derived.Test.YtcpmcfagibmboabChBp
import Derived.Test.YtcpmcfagibmboabChS
namespace Go.Proofs.Ytcpmcfagibmboab.Bk
open Go.RowKit Pl Pw Pr Pf Pv Cp Ca Cb Cc Cd Ce Cf Cg Cw Gf Gk Ct Cu La
open Cr hiding some_of
open Kt hiding mkH
open Kv
open Cs (tmod6 tmod6' five_set gd_short)
set_option linter.unusedVariables false
set_option linter.unusedSimpArgs false
set_option maxRecDepth 20000

theorem S_take (s : List UInt8) (n : Nat) : (S s).extract 0 n = S (s.take n) := by
  apply ByteArray.ext
  simp [S, ByteArray.data_extract]
theorem S_more (s : List UInt8) : S s ++ (⟨#[1]⟩ : ByteArray) = S (s ++ [1]) := by
  apply ByteArray.ext
  simp [S, ByteArray.data_append]
/-- Where the text is cut. -/
theorem cut_in (c : Int) (n : Nat) (hn : 0 < n) (h : n ≤ 1000) : ∃ i : Nat, i < n ∧ IntKind.i64.wrap (c.tmod n) = c.tmod n ∧ IntKind.i64.wrap (c.tmod n + n) = c.tmod n + n ∧ IntKind.i64.wrap ((c.tmod n + n).tmod n) = (i : Int) ∧ (c.tmod n + n).tmod n = (i : Int) := by
  have h1 := Int.lt_tmod_of_pos c (show (0 : Int) < n by omega)
  have h2 := Int.tmod_lt_of_pos c (show (0 : Int) < n by omega)
  have h3 := Int.tmod_nonneg (n : Int) (show (0 : Int) ≤ c.tmod n + n by omega)
  have h4 := Int.tmod_lt_of_pos (c.tmod n + n) (show (0 : Int) < n by omega)
  have e1 : (((c.tmod n + n).tmod n).toNat : Int) = (c.tmod n + n).tmod n := by omega
  refine ⟨((c.tmod n + n).tmod n).toNat, by omega, IntWalk.i64_in _ (by omega), IntWalk.i64_in _ (by omega), ?_, e1.symm⟩
  rw [IntWalk.i64_in _ (by omega)]
  omega
theorem bad_ld {w w' : World} {bs : List UInt8} {x : Ending} (h : Ld.LdP w bs x w') (hn : ¬ ∃ e ps, Ld.Good bs e ps) : x = .returned (.tuple #[.agg #[.int .i64 0, .slice none 0 0], .int .i64 5]) ∧ Below w.heap.size w w' := by
  obtain ⟨hb, ⟨e, ps, ao, cap, hg, -⟩ | ⟨-, rfl⟩⟩ := h
  · exact absurd ⟨e, ps, hg⟩ hn
  · exact ⟨rfl, hb⟩
theorem good_ld {w w' : World} {bs : List UInt8} {x : Ending} {e : Int} {ps : List Pc} (hl : bs.length ≤ 1000) (h : Ld.LdP w bs x w') (g : Ld.Good bs e ps) :
    ∃ ao cap, x = .returned (.tuple #[.agg #[.int .i64 e, .slice ao ps.length cap], .int .i64 0]) ∧ RdP w' ao cap ps ∧ Below w.heap.size w w' := by
  obtain ⟨hb, ⟨e', ps', ao, cap, hg, -, rfl, hr⟩ | ⟨hn, -⟩⟩ := h
  · have hn := g.nums hl
    obtain ⟨rfl, rfl⟩ := Ld.good_only hl hn hg
    rw [Ld.pcs_flat] at hr ⊢
    exact ⟨ao, cap, rfl, hr, hb⟩
  · exact absurd ⟨_, _, g⟩ hn
theorem good_dump {e : Int} {ps : List Pc} (h : mayC e ps = true) : Ld.Good (txt (nums e ps.length ps)) e ps := ⟨h, rfl⟩

set_option maxHeartbeats 8000000 in
theorem back_walk (w : World) (n cut : Int) (al : Option Addr) (cl : Nat) (l : List Pc) (hr : RowS 3 pC w al l) (hlc : l.length ≤ cl) (hcl : cl ≤ 9223372036854775807) :
    Calls Try.prog 3 #[.int .i64 n, .slice al l.length cl, .int .i64 cut] w fun e w' => e = .returned (.bool true) ∧ Below w.heap.size w w' := by
  have t1 := tmod6 n
  have t2 := tmod6' n
  have h1 : IntKind.i64.wrap (n.tmod 6) = n.tmod 6 := IntWalk.i64_in _ (by omega)
  have h2 : IntKind.i64.wrap (n.tmod 6 + 6) = n.tmod 6 + 6 := IntWalk.i64_in _ (by omega)
  have h3 : IntKind.i64.wrap ((n.tmod 6 + 6).tmod 6) = (n.tmod 6 + 6).tmod 6 := IntWalk.i64_in _ (by omega)
  have h4 : IntKind.i64.wrap (1 + (n.tmod 6 + 6).tmod 6) = 1 + (n.tmod 6 + 6).tmod 6 := IntWalk.i64_in _ (by omega)
  have HR := mkH hr
  clear hr
  go_enter Try.func3, Try.ntmps3
  go_wp2_with fail
  obtain ⟨m, hm⟩ : ∃ m : Nat, 1 + n.tmod 6 % 6 = (m : Int) := ⟨(1 + n.tmod 6 % 6).toNat, by omega⟩
  have hm1 : 1 ≤ m := by omega
  have hm6 : m ≤ 6 := by omega
  have hfs : fsE (m : Int) = (1, fst m, 0) := by unfold fsE; rw [if_pos (by omega), Int.toNat_natCast]
  rw [hm]
  clear h1 h2 h3 h4 t1 t2 hm
  refine (first_any w _).mono ?_
  rw [hfs]
  clear hfs
  intro x w1 hq
  obtain ⟨a1, k1, rfl, ho1, hb1⟩ := chP_elim hq
  have HO1 := mkH (ho1.below ((Below.refl _ w1).alloc (Nat.le_refl _) (.cells #[.int .i64 1, .slice a1 (fst m).length k1] 25)))
  have HX1 : Hid (Bx (w1.alloc (.cells #[.int .i64 1, .slice a1 (fst m).length k1] 25)) w1.heap.size #[.int .i64 1, .slice a1 (fst m).length k1] 25) := mkH (Bx.new _ _ _)
  have HB1 := mkH (hb1.alloc hb1.size (.cells #[.int .i64 1, .slice a1 (fst m).length k1] 25))
  have HG1 := mkH (fst_gd m hm1 hm6)
  have hz7 : w.heap.size ≤ w1.heap.size := hb1.size
  have HL1 : Hid ((fst m).length ≤ 6) := mkH (by rw [fst_len]; exact hm6)
  clear ho1 hb1 hq
  generalize fst m = ps0 at *
  go_wp2_with fail
  generalize w1.alloc (.cells #[.int .i64 1, .slice a1 ps0.length k1] 25) = W0 at *
  generalize w1.heap.size = B7 at *
  go_loopw [9] (fun i wr => ∃ k : Nat, k ≤ l.length ∧ k ≤ 20 ∧ i = .int .i64 k ∧ ∃ (e : Int) (a : Option Addr) (c : Nat) (ps : List Pc), Hid (Bx wr B7 #[.int .i64 e, .slice a ps.length c] 25) ∧ Hid (OwP wr w.heap.size a c ps) ∧ Hid (Gd 0 0 ps 65536) ∧ Hid (ps.length ≤ 6 + 2 * k) ∧ (1 ≤ e ∧ e ≤ 1 + (k : Int)) ∧ Hid (Below w.heap.size w wr)) (fun i _ => l.length - (intOf i).toNat)
  case atStart => exact ⟨0, Nat.zero_le _, by omega, rfl, 1, a1, k1, ps0, HX1, HO1, HG1, HL1, ⟨by omega, by omega⟩, HB1⟩
  case round =>
    obtain ⟨k, hk, hk20, rfl, e, a, c, ps, HX, HO, HG, HPL, he, HB⟩ := hrel
    clear HX1 HO1 HG1 HB1 HL1
    by_cases hin : k < l.length ∧ k < 20
    · obtain ⟨hlt, hlt20⟩ := hin
      obtain ⟨x, hx⟩ := Cr.some_of hlt
      obtain ⟨bl, ol, e1, c0, c1, c2⟩ := atP (HR.out.below HB.out) hx
      subst e1
      have hi : (k : Int) < (l.length : Int) := by omega
      have hi0 : (0 : Int) ≤ (k : Int) := by omega
      have hk3 : (k : Int) < 20 := by omega
      have hblt : bl < wr.heap.size := World.block_lt_of_cell? wr _ c0
      have hB7 := HX.out.lt
      obtain ⟨q, hq⟩ : ∃ q, q = mvE e ps (x.1, x.2.1) x.2.2 := ⟨_, rfl⟩
      have HMV := mkH (fun W (hb : Below wr.heap.size wr W) => move_any W e a c ps (HO.out.rd.below hb) (gd_short HG.out) x.1 x.2.1 x.2.2)
      rw [← hq] at HMV
      have HQ := mkH hq
      clear hq hx
      obtain ⟨g0, g1, -, -⟩ := two_load (P := Try.prog) HX.out
      have HCEL : Hid (∀ W, Below wr.heap.size wr W → W.cell? ⟨B7, 0, none⟩ = some (.int .i64 e) ∧ W.cell? ⟨B7, 1, none⟩ = some (.slice a ps.length c) ∧ W.cell? ⟨bl, ol + k * 3, none⟩ = some (.int .i64 x.1) ∧ W.cell? ⟨bl, ol + k * 3 + 1, none⟩ = some (.int .i64 x.2.1) ∧ W.cell? ⟨bl, ol + k * 3 + 2, none⟩ = some (.int .i64 x.2.2)) := mkH (fun W hb => by
        have y := HX.out.bel hb
        exact ⟨y.cell 0 _ rfl, y.cell 1 _ rfl, (hb.cell (p := ⟨bl, ol + k * 3, none⟩) hblt).trans c0, (hb.cell (p := ⟨bl, ol + k * 3 + 1, none⟩) hblt).trans c1, (hb.cell (p := ⟨bl, ol + k * 3 + 2, none⟩) hblt).trans c2⟩)
      have HZF : Hid (∀ W, Below (wr.alloc (.cells #[.int .i64 0, .slice none 0 0] 25)).drew.heap.size (wr.alloc (.cells #[.int .i64 0, .slice none 0 0] 25)).drew W → W.cell? ⟨wr.heap.size, 0, none⟩ = some (.int .i64 0) ∧ W.cell? ⟨wr.heap.size, 1, none⟩ = some (.slice none 0 0) ∧ W.frozen? ⟨wr.heap.size, 0, none⟩ = false ∧ W.frozen? ⟨wr.heap.size, 1, none⟩ = false) := mkH (fun W hb => two_load (P := Try.prog) (((Bx.new wr #[.int .i64 0, .slice none 0 0] 25).bel (Below.refl _ _).drew).bel hb))
      go_wp2_with fail
      go_cut [10, 11] (fun v10 v11 wc => ∃ (B10 : Nat) (a5 : Option Addr) (c5 : Nat), v10 = .pointer (some ⟨B10, 0, none⟩) ∧ v11 = .int .i64 q.2.2 ∧ Hid (Bx wc B10 #[.int .i64 q.1, .slice a5 q.2.1.length c5] 25) ∧ Hid (OwP wc w.heap.size a5 c5 q.2.1) ∧ Hid (Below wr.heap.size wr wc) ∧ wr.heap.size ≤ B10)
      case first =>
        as_aux_lemma =>
          go_region_held3 (fun w' => w'.cell? ⟨B7, 0, none⟩ = some (.int .i64 e) ∧ w'.cell? ⟨B7, 1, none⟩ = some (.slice a ps.length c) ∧ w'.cell? ⟨bl, ol + k * 3, none⟩ = some (.int .i64 x.1) ∧ w'.cell? ⟨bl, ol + k * 3 + 1, none⟩ = some (.int .i64 x.2.1) ∧ w'.cell? ⟨bl, ol + k * 3 + 2, none⟩ = some (.int .i64 x.2.2)) (first | go_keep | exact hkeep | exact five_set (by omega) (by omega) _ _ hkeep) (first
            | (go_at_call 5; refine (HMV.out _ (by (repeat (first | exact Below.refl _ _ | refine Below.drew ?_ | refine Gf.below_drewN ?_ _ | refine Below.alloc ?_ (by simp) _)))).mono ?_; rintro y w7 ⟨a5, c5, rfl, ho7, hb7⟩; have hbb : Below wr.heap.size wr w7 := Below.trans (by (repeat (first | exact Below.refl _ _ | refine Below.drew ?_ | refine Gf.below_drewN ?_ _ | refine Below.alloc ?_ (by simp) _))) (hb7.mono (by simp)); have hkeep := (by exact HCEL.out w7 hbb); (first | (have hzz := HZF.out _ hb7) | (have hzz := True.intro)); (first | (obtain ⟨z0, z1, z2, z3⟩ := hzz) | skip)))
          all_goals
            go_wp2_with fail
            go_meet
          · exact ⟨w7.heap.size, a5, c5, rfl, rfl, mkH (Bx.new _ _ _), mkH ((ho7.below ((Below.refl _ w7).alloc (Nat.le_refl _) _)).mono HB.out.size), mkH (hbb.alloc hbb.size _), hbb.size⟩
          · have hx : Bx w7 wr.heap.size #[.int .i64 0, .slice none 0 0] 25 := ((Bx.new wr #[.int .i64 0, .slice none 0 0] 25).bel (Below.refl _ _).drew).bel hb7
            have hs1 := hx.set 0 (.int .i64 q.1)
            have hs2 := hs1.set 1 (.slice a5 q.2.1.length c5)
            have hf := (hx.frset 0 (.int .i64 q.1)).trans (hs1.frset 1 (.slice a5 q.2.1.length c5)) (fun i hi => .inl hi)
            refine ⟨wr.heap.size, a5, c5, rfl, rfl, mkH hs2, mkH ⟨own_mono (own_fr ho7.o hf (fun k hk hq => own_ne ho7.o hx hk (by decide) hq)) ?_⟩, mkH ((hbb.setCell (Nat.le_refl _) _).setCell (Nat.le_refl _) _), Nat.le_refl _⟩
            have h1 := HB.out.size
            have h2 : (wr.alloc (.cells #[.int .i64 0, .slice none 0 0] 25)).drew.heap.size = wr.heap.size + 1 := by show (wr.alloc _).heap.size = _; simp
            omega
      case rest =>
        obtain ⟨B10, a5, c5, rfl, rfl, H10, HO10, HBC, hB10⟩ := hcut
        have HX' := mkH (HX.out.bel HBC.out)
        have HO' := mkH (HO.out.below HBC.out)
        have HBW := mkH (HB.out.trans (HBC.out.mono HB.out.size))
        have hzc : wr.heap.size ≤ wc.heap.size := HBC.out.size
        have hzw : w.heap.size ≤ wr.heap.size := HB.out.size
        have hmc : mayC e ps = true := (mayC_iff _ _).2 ⟨by omega, HG.out⟩
        have HQL : Hid (q.2.1.length ≤ 6 + 2 * (k + 1)) := mkH (by rw [HQ.out]; have := Bp.mvE_len (e := e) (r := (x.1, x.2.1)) (tg := x.2.2) HG.out; have := HPL.out; omega)
        clear c0 c1 c2 g0 g1 HCEL HZF HMV HX HO HB HBC
        by_cases hok : may (x.1, x.2.1) = true ∧ isSh x.2.2 = true
        · have htg := (isSh_iff x.2.2).1 hok.2
          obtain ⟨hgd', hof⟩ := mv_all (x.1, x.2.1) x.2.2 hok.1 htg ps HG.out
          obtain ⟨e', ps', hqe, hgd2, hee⟩ : ∃ (e' : Int) (ps' : List Pc), q = (e', ps', 0) ∧ Gd 0 0 ps' 65536 ∧ (e' = e ∨ e' = e + 1) := by
            by_cases hsm : mv (x.1, x.2.1) x.2.2 [] ps = ps
            · refine ⟨e, ps, ?_, HG.out, .inl rfl⟩
              rw [HQ.out]; unfold mvE; rw [if_pos ⟨hmc, hok.1, hok.2⟩, if_pos hsm]
            · refine ⟨e + 1, mv (x.1, x.2.1) x.2.2 [] ps, ?_, hgd', .inr rfl⟩
              rw [HQ.out]; unfold mvE; rw [if_pos ⟨hmc, hok.1, hok.2⟩, if_neg hsm, if_neg (by omega)]
          subst hqe
          simp only at H10 HO10 HQL
          have he' : 1 ≤ e' ∧ e' ≤ 2 + (k : Int) := by omega
          have HGD := mkH hgd2
          obtain ⟨y0, y1, -, -⟩ := two_load (P := Try.prog) H10.out
          obtain ⟨z0, z1, z2, z3⟩ := two_load (P := Try.prog) HX'.out
          have hs1 := HX'.out.set 0 (.int .i64 e')
          have HS2 := mkH (hs1.set 1 (.slice a5 ps'.length c5))
          have HF := mkH ((HX'.out.frset 0 (.int .i64 e')).trans (hs1.frset 1 (.slice a5 ps'.length c5)) (fun i hi => .inl hi))
          clear hok HQ hof hgd' hee hgd2 hmc htg hs1
          go_wp2_with fail
          go_roundw
          case rel => exact ⟨k + 1, by omega, by omega, by go_num, e', a5, c5, ps', HS2, mkH ⟨own_fr HO10.out.o HF.out (fun k hk hq => own_ne HO10.out.o HX'.out hk (by decide) hq)⟩, HGD, HQL, ⟨by omega, by omega⟩, mkH ((HBW.out.setCell (by omega) _).setCell (by omega) _)⟩
          case measure => simp [intOf]; omega
        · have hq2 : q.2.2 = 2 := by
            rw [HQ.out]; unfold mvE; rw [if_neg (fun h => hok h.2)]
          rw [hq2]
          have HPL2 : Hid (ps.length ≤ 6 + 2 * (k + 1)) := mkH (by have := HPL.out; omega)
          clear hok HQ hq2 hmc HQL
          go_wp2_with fail
          go_roundw
          case rel => exact ⟨k + 1, by omega, by omega, by go_num, e, a, c, ps, HX', HO', HG, HPL2, ⟨by omega, by omega⟩, HBW⟩
          case measure => simp [intOf]; omega
    · have hmc : mayC e ps = true := (mayC_iff _ _).2 ⟨by omega, HG.out⟩
      have hpl := HPL.out
      have hpl2 : ps.length ≤ 60 := by omega
      have HBL : Hid ((txt (nums e ps.length ps)).length ≤ 600) := mkH (Bp.text_len hmc hpl2)
      have HDU := mkH (dump_any wr e a c ps HO.out.rd (by omega))
      rw [dmpV_may hmc] at HDU
      have HGO := mkH (good_dump hmc)
      obtain ⟨g0, g1, -, -⟩ := two_load (P := Try.prog) HX.out
      have hpos : 0 < (txt (nums e ps.length ps)).length := by
        have := txt_ge (nums e ps.length ps)
        rw [nums_len] at this
        omega
      obtain ⟨bs, hbs⟩ : ∃ bs, bs = txt (nums e ps.length ps) := ⟨_, rfl⟩
      rw [← hbs] at HBL HDU HGO hpos
      clear hbs hmc hpl HPL HG
      obtain ⟨N, hN⟩ : ∃ N, N = bs.length := ⟨_, rfl⟩
      have hN0 : 0 < N := by omega
      have hN6 : N ≤ 600 := by have := HBL.out; omega
      obtain ⟨ix, hix, q1, q2, q3, q4⟩ := cut_in cut N hN0 (by omega)
      have hsz : (S bs).size = N := by rw [hN]; rfl
      have HN := mkH hN
      have he : (S bs).extract 0 ix = S (bs.take ix) := S_take bs ix
      have hm := S_more bs
      have HL1 := mkH (fun W => Lf.load_any W bs (by have := HBL.out; omega))
      have HL2 := mkH (fun W => Lf.load_any W (bs.take ix) (by have := HBL.out; rw [List.length_take]; omega))
      have HL3 := mkH (fun W => Lf.load_any W (bs ++ [1]) (by have := HBL.out; simp; omega))
      have HN2 : Hid (¬ ∃ e ps, Ld.Good (bs.take ix) e ps) := mkH (Bp.no_cut (by have := HBL.out; omega) HGO.out (by rw [← HN.out]; exact hix))
      have HN3 : Hid (¬ ∃ e ps, Ld.Good (bs ++ [1]) e ps) := mkH (Bp.no_more (by have := HBL.out; simp; omega) HGO.out (by simp))
      clear hpos hN
      by_cases hlt : k < l.length
      · have hk20' : k = 20 := by omega
        subst hk20'
        have hi : (20 : Int) < (l.length : Int) := by omega
        clear hin
        go_wp2_with fail
        refine HDU.out.mono ?_
        rintro x w2 ⟨rfl, hb2⟩
        have HX2 := mkH (HX.out.bel hb2)
        have HO2 := mkH (HO.out.rd.below hb2)
        have HB2 := mkH (HB.out.trans (hb2.mono HB.out.size))
        clear hb2 HX HO HB HDU g0 g1
        have hnz : ¬ (N : Int) = 0 := by omega
        have hov : ¬ 9223372036854775807 < (S bs).size + (⟨#[1]⟩ : ByteArray).size := by rw [hsz]; show ¬ _ < N + 1; omega
        have hnl : ix ≤ (S bs).size := by rw [hsz]; omega
        have hnl2 : (ix : Int) ≤ ((S bs).size : Int) := by omega
        go_wp2_with fail
        refine (HL1.out _).mono ?_
        rintro x w3 hx
        obtain ⟨ao3, cap3, rfl, hr3, hb3⟩ := good_ld (by have := HBL.out; omega) hx HGO.out
        have hal3 : Below w3.heap.size w3 (w3.alloc (.cells #[.int .i64 e, .slice ao3 ps.length cap3] 25)) := (Below.refl _ w3).alloc (Nat.le_refl _) _
        have X14 : Hid (Bx (w3.alloc (.cells #[.int .i64 e, .slice ao3 ps.length cap3] 25)) w3.heap.size #[.int .i64 e, .slice ao3 ps.length cap3] 25) := mkH (Bx.new _ _ _)
        have R14 := mkH (hr3.below hal3)
        have X7 := mkH ((HX2.out.bel hb3).bel hal3)
        have R7 := mkH ((HO2.out.below hb3).below hal3)
        have B14 := mkH (HB2.out.trans ((hb3.trans (hal3.mono hb3.size)).mono HB2.out.size))
        clear hx hr3 hb3 hal3 HX2 HO2 HB2 HL1
        go_upto_region 12 with fail
        generalize w3.heap.size = P14 at *
        generalize w3.alloc (.cells #[.int .i64 e, .slice ao3 ps.length cap3] 25) = W14 at *
        go_wp2_with fail
        refine (HL2.out _).mono ?_
        rintro x w4 hx
        obtain ⟨rfl, hb4⟩ := bad_ld hx HN2.out
        have hal4 : Below w4.heap.size w4 (w4.alloc (.cells #[.int .i64 0, .slice none 0 0] 25)) := (Below.refl _ w4).alloc (Nat.le_refl _) _
        have X14 := mkH ((X14.out.bel hb4).bel hal4)
        have R14 := mkH ((R14.out.below hb4).below hal4)
        have X7 := mkH ((X7.out.bel hb4).bel hal4)
        have R7 := mkH ((R7.out.below hb4).below hal4)
        have B14 := mkH (B14.out.trans ((hb4.trans (hal4.mono hb4.size)).mono B14.out.size))
        clear hx hb4 hal4 HL2
        go_upto_region 14 with fail
        generalize w4.heap.size = P17 at *
        generalize w4.alloc (.cells #[.int .i64 0, .slice none 0 0] 25) = W17 at *
        go_wp2_with fail
        refine (HL3.out _).mono ?_
        rintro x w5 hx
        obtain ⟨rfl, hb5⟩ := bad_ld hx HN3.out
        have hal5 : Below w5.heap.size w5 (w5.alloc (.cells #[.int .i64 0, .slice none 0 0] 25)) := (Below.refl _ w5).alloc (Nat.le_refl _) _
        have X14 := mkH ((X14.out.bel hb5).bel hal5)
        have R14 := mkH ((R14.out.below hb5).below hal5)
        have X7 := mkH ((X7.out.bel hb5).bel hal5)
        have R7 := mkH ((R7.out.below hb5).below hal5)
        have B14 := mkH (B14.out.trans ((hb5.trans (hal5.mono hb5.size)).mono B14.out.size))
        clear hx hb5 hal5 HL3
        go_upto_region 15 with fail
        generalize w5.heap.size = P19 at *
        generalize w5.alloc (.cells #[.int .i64 0, .slice none 0 0] 25) = W19 at *
        obtain ⟨c0, c1, -, -⟩ := two_load (P := Try.prog) X7.out
        obtain ⟨c2, c3, -, -⟩ := two_load (P := Try.prog) X14.out
        go_wp2_with fail
        refine (same_any W19 e e a ao3 c cap3 ps ps R7.out R14.out).mono ?_
        rintro x w6 ⟨rfl, hg6⟩
        have B6 := mkH (B14.out.trans (hg6.below.mono B14.out.size))
        clear hg6 c0 c1 c2 c3
        go_wp2_with fail
        refine (works_any w6).mono ?_
        rintro x w7 ⟨rfl, hb7⟩
        have B7' := mkH (B6.out.trans (hb7.mono B6.out.size))
        clear hb7
        go_wp2
        go_ret
        exact ⟨by first | rfl | simp, B7'.out⟩
      · have : k = l.length := by omega
        subst this
        clear hin
        go_wp2_with fail
        refine HDU.out.mono ?_
        rintro x w2 ⟨rfl, hb2⟩
        have HX2 := mkH (HX.out.bel hb2)
        have HO2 := mkH (HO.out.rd.below hb2)
        have HB2 := mkH (HB.out.trans (hb2.mono HB.out.size))
        clear hb2 HX HO HB HDU g0 g1
        have hnz : ¬ (N : Int) = 0 := by omega
        have hov : ¬ 9223372036854775807 < (S bs).size + (⟨#[1]⟩ : ByteArray).size := by rw [hsz]; show ¬ _ < N + 1; omega
        have hnl : ix ≤ (S bs).size := by rw [hsz]; omega
        have hnl2 : (ix : Int) ≤ ((S bs).size : Int) := by omega
        go_wp2_with fail
        refine (HL1.out _).mono ?_
        rintro x w3 hx
        obtain ⟨ao3, cap3, rfl, hr3, hb3⟩ := good_ld (by have := HBL.out; omega) hx HGO.out
        have hal3 : Below w3.heap.size w3 (w3.alloc (.cells #[.int .i64 e, .slice ao3 ps.length cap3] 25)) := (Below.refl _ w3).alloc (Nat.le_refl _) _
        have X14 : Hid (Bx (w3.alloc (.cells #[.int .i64 e, .slice ao3 ps.length cap3] 25)) w3.heap.size #[.int .i64 e, .slice ao3 ps.length cap3] 25) := mkH (Bx.new _ _ _)
        have R14 := mkH (hr3.below hal3)
        have X7 := mkH ((HX2.out.bel hb3).bel hal3)
        have R7 := mkH ((HO2.out.below hb3).below hal3)
        have B14 := mkH (HB2.out.trans ((hb3.trans (hal3.mono hb3.size)).mono HB2.out.size))
        clear hx hr3 hb3 hal3 HX2 HO2 HB2 HL1
        go_upto_region 12 with fail
        generalize w3.heap.size = P14 at *
        generalize w3.alloc (.cells #[.int .i64 e, .slice ao3 ps.length cap3] 25) = W14 at *
        go_wp2_with fail
        refine (HL2.out _).mono ?_
        rintro x w4 hx
        obtain ⟨rfl, hb4⟩ := bad_ld hx HN2.out
        have hal4 : Below w4.heap.size w4 (w4.alloc (.cells #[.int .i64 0, .slice none 0 0] 25)) := (Below.refl _ w4).alloc (Nat.le_refl _) _
        have X14 := mkH ((X14.out.bel hb4).bel hal4)
        have R14 := mkH ((R14.out.below hb4).below hal4)
        have X7 := mkH ((X7.out.bel hb4).bel hal4)
        have R7 := mkH ((R7.out.below hb4).below hal4)
        have B14 := mkH (B14.out.trans ((hb4.trans (hal4.mono hb4.size)).mono B14.out.size))
        clear hx hb4 hal4 HL2
        go_upto_region 14 with fail
        generalize w4.heap.size = P17 at *
        generalize w4.alloc (.cells #[.int .i64 0, .slice none 0 0] 25) = W17 at *
        go_wp2_with fail
        refine (HL3.out _).mono ?_
        rintro x w5 hx
        obtain ⟨rfl, hb5⟩ := bad_ld hx HN3.out
        have hal5 : Below w5.heap.size w5 (w5.alloc (.cells #[.int .i64 0, .slice none 0 0] 25)) := (Below.refl _ w5).alloc (Nat.le_refl _) _
        have X14 := mkH ((X14.out.bel hb5).bel hal5)
        have R14 := mkH ((R14.out.below hb5).below hal5)
        have X7 := mkH ((X7.out.bel hb5).bel hal5)
        have R7 := mkH ((R7.out.below hb5).below hal5)
        have B14 := mkH (B14.out.trans ((hb5.trans (hal5.mono hb5.size)).mono B14.out.size))
        clear hx hb5 hal5 HL3
        go_upto_region 15 with fail
        generalize w5.heap.size = P19 at *
        generalize w5.alloc (.cells #[.int .i64 0, .slice none 0 0] 25) = W19 at *
        obtain ⟨c0, c1, -, -⟩ := two_load (P := Try.prog) X7.out
        obtain ⟨c2, c3, -, -⟩ := two_load (P := Try.prog) X14.out
        go_wp2_with fail
        refine (same_any W19 e e a ao3 c cap3 ps ps R7.out R14.out).mono ?_
        rintro x w6 ⟨rfl, hg6⟩
        have B6 := mkH (B14.out.trans (hg6.below.mono B14.out.size))
        clear hg6 c0 c1 c2 c3
        go_wp2_with fail
        refine (works_any w6).mono ?_
        rintro x w7 ⟨rfl, hb7⟩
        have B7' := mkH (B6.out.trans (hb7.mono B6.out.size))
        clear hb7
        go_wp2
        go_ret
        exact ⟨by first | rfl | simp, B7'.out⟩
end Go.Proofs.Ytcpmcfagibmboab.Bk
