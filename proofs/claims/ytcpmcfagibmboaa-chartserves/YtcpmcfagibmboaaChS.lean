/-
  The walk of ChartServes.
-/
import Derived.Test.YtcpmcfagibmboaaChW
namespace Go.Proofs.Ytcpmcfagibmboaa.Cs
open Go.RowKit Pl Pw Pr Pf Pv Cp Ca Cb Cc Cd Ce Cf Cg Cw Gf Gk
open Cr hiding some_of
open Kt hiding mkH
open Kv
set_option linter.unusedVariables false
set_option linter.unusedSimpArgs false
set_option maxRecDepth 20000

theorem tmod6 (n : Int) : -5 ≤ n.tmod 6 ∧ n.tmod 6 ≤ 5 := by
  have h1 := Int.lt_tmod_of_pos n (show (0 : Int) < 6 by omega)
  have h2 := Int.tmod_lt_of_pos n (show (0 : Int) < 6 by omega)
  omega
theorem tmod6' (n : Int) : 0 ≤ (n.tmod 6 + 6).tmod 6 ∧ (n.tmod 6 + 6).tmod 6 ≤ 5 := by
  have h0 := tmod6 n
  have h1 := Int.tmod_nonneg 6 (show (0 : Int) ≤ n.tmod 6 + 6 by omega)
  have h2 := Int.tmod_lt_of_pos (n.tmod 6 + 6) (show (0 : Int) < 6 by omega)
  omega

theorem five_set {W : World} {n b o B : Nat} (hn : n ≠ B) (hb : b ≠ B) (u v : Value) {x0 x1 x2 x3 x4 : Option Value} (h : W.cell? ⟨n, 0, none⟩ = x0 ∧ W.cell? ⟨n, 1, none⟩ = x1 ∧ W.cell? ⟨b, o, none⟩ = x2 ∧ W.cell? ⟨b, o + 1, none⟩ = x3 ∧ W.cell? ⟨b, o + 2, none⟩ = x4) :
    ((W.setCell ⟨B, 0, none⟩ u).setCell ⟨B, 1, none⟩ v).cell? ⟨n, 0, none⟩ = x0 ∧ ((W.setCell ⟨B, 0, none⟩ u).setCell ⟨B, 1, none⟩ v).cell? ⟨n, 1, none⟩ = x1 ∧ ((W.setCell ⟨B, 0, none⟩ u).setCell ⟨B, 1, none⟩ v).cell? ⟨b, o, none⟩ = x2 ∧ ((W.setCell ⟨B, 0, none⟩ u).setCell ⟨B, 1, none⟩ v).cell? ⟨b, o + 1, none⟩ = x3 ∧ ((W.setCell ⟨B, 0, none⟩ u).setCell ⟨B, 1, none⟩ v).cell? ⟨b, o + 2, none⟩ = x4 := by
  refine ⟨?_, ?_, ?_, ?_, ?_⟩
  · rw [cell_other hn, cell_other hn]; exact h.1
  · rw [cell_other hn, cell_other hn]; exact h.2.1
  · rw [cell_other hb, cell_other hb]; exact h.2.2.1
  · rw [cell_other hb, cell_other hb]; exact h.2.2.2.1
  · rw [cell_other hb, cell_other hb]; exact h.2.2.2.2
theorem gd_short {ps : List Pc} (h : Gd 0 0 ps 65536) : ps.length ≤ 100000 := by have := gd_len ps 0 0 65536 h; omega

set_option maxHeartbeats 8000000 in
theorem serves_walk (w : World) (n p : Int) (al : Option Addr) (cl : Nat) (l : List Pc) (hr : RowS 3 pC w al l) (hlc : l.length ≤ cl) (hcl : cl ≤ 9223372036854775807) :
    Calls Try.prog 6 #[.int .i64 n, .slice al l.length cl, .int .i64 p] w fun e w' => e = .returned (.bool true) ∧ Below w.heap.size w w' := by
  have t1 := tmod6 n
  have t2 := tmod6' n
  have h1 : IntKind.i64.wrap (n.tmod 6) = n.tmod 6 := IntWalk.i64_in _ (by omega)
  have h2 : IntKind.i64.wrap (n.tmod 6 + 6) = n.tmod 6 + 6 := IntWalk.i64_in _ (by omega)
  have h3 : IntKind.i64.wrap ((n.tmod 6 + 6).tmod 6) = (n.tmod 6 + 6).tmod 6 := IntWalk.i64_in _ (by omega)
  have h4 : IntKind.i64.wrap (1 + (n.tmod 6 + 6).tmod 6) = 1 + (n.tmod 6 + 6).tmod 6 := IntWalk.i64_in _ (by omega)
  have HR := mkH hr
  clear hr
  go_enter Try.func6, Try.ntmps6
  go_wp2_with fail
  obtain ⟨m, hm⟩ : ∃ m : Nat, 1 + n.tmod 6 % 6 = (m : Int) := ⟨(1 + n.tmod 6 % 6).toNat, by omega⟩
  have hm1 : 1 ≤ m := by omega
  have hm6 : m ≤ 6 := by omega
  have hfs : fsE (m : Int) = (1, fst m, 0) := by unfold fsE; rw [if_pos (by omega), Int.toNat_natCast]
  rw [hm]
  clear h1 h2 h3 h4 t1 t2 hm
  refine (first_any w _).mono ?_
  rw [hfs]
  clear hfs
  intro x w1 hq
  obtain ⟨a1, k1, rfl, ho1, hb1⟩ := chP_elim hq
  have HO1 := mkH (ho1.below ((Below.refl _ w1).alloc (Nat.le_refl _) (.cells #[.int .i64 1, .slice a1 (fst m).length k1] 24)))
  have HX1 : Hid (Bx (w1.alloc (.cells #[.int .i64 1, .slice a1 (fst m).length k1] 24)) w1.heap.size #[.int .i64 1, .slice a1 (fst m).length k1] 24) := mkH (Bx.new _ _ _)
  have HB1 := mkH (hb1.alloc hb1.size (.cells #[.int .i64 1, .slice a1 (fst m).length k1] 24))
  have HG1 := mkH (fst_gd m hm1 hm6)
  have hz7 : w.heap.size ≤ w1.heap.size := hb1.size
  clear ho1 hb1 hq
  generalize fst m = ps0 at *
  go_wp2_with fail
  generalize w1.alloc (.cells #[.int .i64 1, .slice a1 ps0.length k1] 24) = W0 at *
  generalize w1.heap.size = B7 at *
  go_loopw [9] (fun i wr => ∃ k : Nat, k ≤ l.length ∧ k ≤ 30 ∧ i = .int .i64 k ∧ ∃ (e : Int) (a : Option Addr) (c : Nat) (ps : List Pc), Hid (Bx wr B7 #[.int .i64 e, .slice a ps.length c] 24) ∧ Hid (OwP wr w.heap.size a c ps) ∧ Hid (Gd 0 0 ps 65536) ∧ (1 ≤ e ∧ e ≤ 1 + (k : Int)) ∧ Hid (Below w.heap.size w wr)) (fun i _ => l.length - (intOf i).toNat)
  case atStart => exact ⟨0, Nat.zero_le _, by omega, rfl, 1, a1, k1, ps0, HX1, HO1, HG1, ⟨by omega, by omega⟩, HB1⟩
  case round =>
    obtain ⟨k, hk, hk30, rfl, e, a, c, ps, HX, HO, HG, he, HB⟩ := hrel
    clear HX1 HO1 HG1 HB1
    by_cases hlt : k < l.length
    · by_cases hlt30 : k < 30
      · obtain ⟨x, hx⟩ := Cr.some_of hlt
        obtain ⟨bl, ol, e1, c0, c1, c2⟩ := atP (HR.out.below HB.out) hx
        subst e1
        have hi : (k : Int) < (l.length : Int) := by omega
        have hi0 : (0 : Int) ≤ (k : Int) := by omega
        have hk3 : (k : Int) < 30 := by omega
        have hblt : bl < wr.heap.size := World.block_lt_of_cell? wr _ c0
        have hB7 := HX.out.lt
        obtain ⟨q, hq⟩ : ∃ q, q = mvE e ps (x.1, x.2.1) x.2.2 := ⟨_, rfl⟩
        have HMV := mkH (fun W (hb : Below wr.heap.size wr W) => move_any W e a c ps (HO.out.rd.below hb) (gd_short HG.out) x.1 x.2.1 x.2.2)
        rw [← hq] at HMV
        have HQ := mkH hq
        clear hq hx
        obtain ⟨g0, g1, -, -⟩ := two_load (P := Try.prog) HX.out
        have HCEL : Hid (∀ W, Below wr.heap.size wr W → W.cell? ⟨B7, 0, none⟩ = some (.int .i64 e) ∧ W.cell? ⟨B7, 1, none⟩ = some (.slice a ps.length c) ∧ W.cell? ⟨bl, ol + k * 3, none⟩ = some (.int .i64 x.1) ∧ W.cell? ⟨bl, ol + k * 3 + 1, none⟩ = some (.int .i64 x.2.1) ∧ W.cell? ⟨bl, ol + k * 3 + 2, none⟩ = some (.int .i64 x.2.2)) := mkH (fun W hb => by
          have y := HX.out.bel hb
          exact ⟨y.cell 0 _ rfl, y.cell 1 _ rfl, (hb.cell (p := ⟨bl, ol + k * 3, none⟩) hblt).trans c0, (hb.cell (p := ⟨bl, ol + k * 3 + 1, none⟩) hblt).trans c1, (hb.cell (p := ⟨bl, ol + k * 3 + 2, none⟩) hblt).trans c2⟩)
        have HZF : Hid (∀ W, Below (wr.alloc (.cells #[.int .i64 0, .slice none 0 0] 24)).drew.heap.size (wr.alloc (.cells #[.int .i64 0, .slice none 0 0] 24)).drew W → W.cell? ⟨wr.heap.size, 0, none⟩ = some (.int .i64 0) ∧ W.cell? ⟨wr.heap.size, 1, none⟩ = some (.slice none 0 0) ∧ W.frozen? ⟨wr.heap.size, 0, none⟩ = false ∧ W.frozen? ⟨wr.heap.size, 1, none⟩ = false) := mkH (fun W hb => two_load (P := Try.prog) (((Bx.new wr #[.int .i64 0, .slice none 0 0] 24).bel (Below.refl _ _).drew).bel hb))
        go_wp2_with fail
        go_cut [10, 11] (fun v10 v11 wc => ∃ (B10 : Nat) (a5 : Option Addr) (c5 : Nat), v10 = .pointer (some ⟨B10, 0, none⟩) ∧ v11 = .int .i64 q.2.2 ∧ Hid (Bx wc B10 #[.int .i64 q.1, .slice a5 q.2.1.length c5] 24) ∧ Hid (OwP wc w.heap.size a5 c5 q.2.1) ∧ Hid (Below wr.heap.size wr wc) ∧ wr.heap.size ≤ B10)
        case first =>
          as_aux_lemma =>
            go_region_held3 (fun w' => w'.cell? ⟨B7, 0, none⟩ = some (.int .i64 e) ∧ w'.cell? ⟨B7, 1, none⟩ = some (.slice a ps.length c) ∧ w'.cell? ⟨bl, ol + k * 3, none⟩ = some (.int .i64 x.1) ∧ w'.cell? ⟨bl, ol + k * 3 + 1, none⟩ = some (.int .i64 x.2.1) ∧ w'.cell? ⟨bl, ol + k * 3 + 2, none⟩ = some (.int .i64 x.2.2)) (first | go_keep | exact hkeep | exact five_set (by omega) (by omega) _ _ hkeep) (first
              | (go_at_call 8; refine (HMV.out _ (by (repeat (first | exact Below.refl _ _ | refine Below.drew ?_ | refine Gf.below_drewN ?_ _ | refine Below.alloc ?_ (by simp) _)))).mono ?_; rintro y w7 ⟨a5, c5, rfl, ho7, hb7⟩; have hbb : Below wr.heap.size wr w7 := Below.trans (by (repeat (first | exact Below.refl _ _ | refine Below.drew ?_ | refine Gf.below_drewN ?_ _ | refine Below.alloc ?_ (by simp) _))) (hb7.mono (by simp)); have hkeep := (by exact HCEL.out w7 hbb); (first | (have hzz := HZF.out _ hb7) | (have hzz := True.intro)); (first | (obtain ⟨z0, z1, z2, z3⟩ := hzz) | skip)))
            all_goals
              go_wp2_with fail
              go_meet
            · exact ⟨w7.heap.size, a5, c5, rfl, rfl, mkH (Bx.new _ _ _), mkH ((ho7.below ((Below.refl _ w7).alloc (Nat.le_refl _) _)).mono HB.out.size), mkH (hbb.alloc hbb.size _), hbb.size⟩
            · have hx : Bx w7 wr.heap.size #[.int .i64 0, .slice none 0 0] 24 := ((Bx.new wr #[.int .i64 0, .slice none 0 0] 24).bel (Below.refl _ _).drew).bel hb7
              have hs1 := hx.set 0 (.int .i64 q.1)
              have hs2 := hs1.set 1 (.slice a5 q.2.1.length c5)
              have hf := (hx.frset 0 (.int .i64 q.1)).trans (hs1.frset 1 (.slice a5 q.2.1.length c5)) (fun i hi => .inl hi)
              refine ⟨wr.heap.size, a5, c5, rfl, rfl, mkH hs2, mkH ⟨own_mono (own_fr ho7.o hf (fun k hk hq => own_ne ho7.o hx hk (by decide) hq)) ?_⟩, mkH ((hbb.setCell (Nat.le_refl _) _).setCell (Nat.le_refl _) _), Nat.le_refl _⟩
              have h1 := HB.out.size
              have h2 : (wr.alloc (.cells #[.int .i64 0, .slice none 0 0] 24)).drew.heap.size = wr.heap.size + 1 := by show (wr.alloc _).heap.size = _; simp
              omega
        case rest =>
          obtain ⟨B10, a5, c5, rfl, rfl, H10, HO10, HBC, hB10⟩ := hcut
          obtain ⟨g0', g1', c0', c1', c2'⟩ := HCEL.out wc HBC.out
          have HX' := mkH (HX.out.bel HBC.out)
          have HO' := mkH (HO.out.below HBC.out)
          have HBW := mkH (HB.out.trans (HBC.out.mono HB.out.size))
          have hzc : wr.heap.size ≤ wc.heap.size := HBC.out.size
          have hzw : w.heap.size ≤ wr.heap.size := HB.out.size
          have hmc : mayC e ps = true := (mayC_iff _ _).2 ⟨by omega, HG.out⟩
          clear c0 c1 c2 g0 g1 HCEL HZF HMV HX HO HB HBC
          by_cases hok : may (x.1, x.2.1) = true ∧ isSh x.2.2 = true
          · have htg := (isSh_iff x.2.2).1 hok.2
            obtain ⟨hgd', hof⟩ := mv_all (x.1, x.2.1) x.2.2 hok.1 htg ps HG.out
            obtain ⟨e', ps', hqe, hgd2, hof2, hee⟩ : ∃ (e' : Int) (ps' : List Pc), q = (e', ps', 0) ∧ Gd 0 0 ps' 65536 ∧ (∀ y, ofL ps' y = if inn (x.1, x.2.1) y then x.2.2 else ofL ps y) ∧ ((ps' = ps ∧ e' = e) ∨ (¬ ps' = ps ∧ e' = e + 1)) := by
              by_cases hsm : mv (x.1, x.2.1) x.2.2 [] ps = ps
              · refine ⟨e, ps, ?_, HG.out, fun y => by rw [← hof y, hsm], .inl ⟨rfl, rfl⟩⟩
                rw [HQ.out]; unfold mvE; rw [if_pos ⟨hmc, hok.1, hok.2⟩, if_pos hsm]
              · refine ⟨e + 1, mv (x.1, x.2.1) x.2.2 [] ps, ?_, hgd', hof, .inr ⟨hsm, rfl⟩⟩
                rw [HQ.out]; unfold mvE; rw [if_pos ⟨hmc, hok.1, hok.2⟩, if_neg hsm, if_neg (by omega)]
            subst hqe
            simp only at H10 HO10
            have hmay := (may_iff (x.1, x.2.1)).1 hok.1
            simp only at hmay
            have HOF := mkH hof2
            have HEE := mkH hee
            have HGD := mkH hgd2
            have he' : 1 ≤ e' ∧ e' ≤ 2 + (k : Int) := by rcases hee with ⟨_, h⟩ | ⟨_, h⟩ <;> omega
            have hmc' : mayC e' ps' = true := (mayC_iff _ _).2 ⟨by omega, hgd2⟩
            have hcv := ((gd_iff ps').1 hgd2).1
            have hsh := gd_short hgd2
            have hshp := gd_short HG.out
            have hbl : bl < wc.heap.size := World.block_lt_of_cell? _ _ c0'
            have HK : Hid (∀ W, Below wc.heap.size wc W → Bx W B7 #[.int .i64 e, .slice a ps.length c] 24 ∧ Bx W B10 #[.int .i64 e', .slice a5 ps'.length c5] 24 ∧ OwP W w.heap.size a c ps ∧ OwP W w.heap.size a5 c5 ps' ∧ W.cell? ⟨bl, ol + k * 3, none⟩ = some (.int .i64 x.1) ∧ W.cell? ⟨bl, ol + k * 3 + 1, none⟩ = some (.int .i64 x.2.1) ∧ W.cell? ⟨bl, ol + k * 3 + 2, none⟩ = some (.int .i64 x.2.2)) := mkH (fun W hb =>
              ⟨HX'.out.bel hb, H10.out.bel hb, HO'.out.below hb, HO10.out.below hb, (hb.cell (p := ⟨bl, ol + k * 3, none⟩) hbl).trans c0', (hb.cell (p := ⟨bl, ol + k * 3 + 1, none⟩) hbl).trans c1', (hb.cell (p := ⟨bl, ol + k * 3 + 2, none⟩) hbl).trans c2'⟩)
            obtain ⟨y0, y1, -, -⟩ := two_load (P := Try.prog) H10.out
            have HMC := mkH hmc'
            have HCV := mkH hcv
            clear hok HQ hof hgd' hof2 hee hgd2 hmc hmc' hcv HX' HO' H10 HO10 c0' c1' c2' g0' g1' HG
            generalize wr.heap.size = N0 at *
            go_wp2_with fail
            clear y0 y1
            go_loopw [12, 83] (fun u i wr => ∃ j : Nat, j ≤ ps'.length ∧ i = .int .i64 j ∧ Hid (Ow wr wc.heap.size u ((ps'.take j).map rg)) ∧ Hid (Below wc.heap.size wc wr)) (fun _ i _ => ps'.length - (intOf i).toNat)
            case atStart => exact ⟨0, Nat.zero_le _, rfl, mkH (Ow.nil _ _), mkH (Below.refl _ _)⟩
            case round =>
              obtain ⟨j, hj, rfl, HOR, HBR⟩ := hrel
              by_cases hjl : j < ps'.length
              · as_aux_lemma =>
                  obtain ⟨z, hz⟩ := Cr.some_of hjl
                  obtain ⟨b, o, e1, d0, d1, d2⟩ := atP ((HK.out _ HBR.out).2.2.2.1.rd.r) hz
                  subst e1
                  have hji : (j : Int) < (ps'.length : Int) := by omega
                  have hji0 : (0 : Int) ≤ (j : Int) := by omega
                  have HN : Hid ((ps'.take (j + 1)).map rg = (ps'.take j).map rg ++ [rg z]) := mkH (by rw [List.take_add_one, hz, List.map_append]; rfl)
                  have hlk : ((ps'.take j).map rg).length ≤ j := by rw [List.length_map, List.length_take]; omega
                  clear hz
                  have HO2 := mkH (HOR.out.below (((Below.refl wr.heap.size wr).alloc (Nat.le_refl _) (.cells #[.int .i64 z.1, .int .i64 z.2.1, .int .i64 z.2.2] 63)).alloc (by simp) (.cells #[.int .i64 z.1, .int .i64 z.2.1] 26)))
                  have HB2 := mkH ((HBR.out.alloc HBR.out.size (.cells #[.int .i64 z.1, .int .i64 z.2.1, .int .i64 z.2.2] 63)).alloc (by have := HBR.out.size; simp; omega) (.cells #[.int .i64 z.1, .int .i64 z.2.1] 26))
                  have HS := HBR.out.size
                  clear HOR HBR
                  generalize (ps'.take j).map rg = L at HO2 HN hlk
                  go_wp2_with (at_builtin; refine (wpList_append_own_src _ rfl (.tmp 87) (.tmp 90) 61 61 rfl wc.heap.size 26 (.agg #[.int .i64 0, .int .i64 0]) 2 16 Try.underlying61 info26 rfl (by decide) _ L.length (E L) rfl HO2.out _ 1 (E [rg z]) rfl ?hsrc ?h63 ?hby ?hbs ?_))
                  case hsrc => exact newR wr _ z.1 z.2.1 _
                  case h63 => unfold maxLen; omega
                  case hby => omega
                  case hbs => simp; omega
                  intro v2 w2 hown2 hgrow2
                  have HB3 := mkH (below_own HO2.out hgrow2 HB2.out (by simp; omega))
                  have HO3 : Hid (Ow w2 wc.heap.size v2 ((ps'.take (j + 1)).map rg)) := mkH (by rw [HN.out]; unfold Ow; rw [E_append, List.length_append]; exact hown2)
                  clear hown2 hgrow2 HO2 HB2 HN d0 d1 d2
                  go_wp2
                  go_roundw
                  case rel => exact ⟨j + 1, by omega, by go_num, HO3, HB3⟩
                  case measure => simp [intOf]; omega
              · have : j = ps'.length := by omega
                subst this
                rw [List.take_length] at HOR
                obtain ⟨aR, kR, eR, hnR, hcR⟩ := HOR.out.form
                rw [eR] at HOR
                have hR := HOR.out.rw
                rw [List.length_map] at eR
                subst eR
                obtain ⟨i7, i10, j7, j10, l0, l1, l2⟩ := HK.out _ HBR.out
                have HM1 := mkH (Cb.may_any wr e' a5 c5 ps' j10.rd hsh)
                rw [HMC.out] at HM1
                obtain ⟨y0, y1, -, -⟩ := two_load (P := Try.prog) i10
                have HRR := mkH hR
                clear HOR hR i7 i10 j7 j10 l0 l1 l2
                go_wp2_with fail
                refine HM1.out.mono ?_
                rintro y w3 ⟨rfl, hb3⟩
                have HCO := covers_any w3 aR kR (ps'.map rg) (HRR.out.below hb3) (by rw [List.length_map]; exact hsh)
                rw [List.length_map, HCV.out] at HCO
                have HC2 := mkH HCO
                have HB3 := mkH (HBR.out.trans (hb3.mono HBR.out.size))
                clear HCO hb3 HBR HM1 HRR y0 y1
                go_wp2_with fail
                refine HC2.out.mono ?_
                rintro y w4 ⟨rfl, hb4⟩
                have HB4 := mkH (HB3.out.trans (hb4.mono HB3.out.size))
                clear hb4 HB3 HC2
                obtain ⟨i7, i10, j7, j10, l0, l1, l2⟩ := HK.out _ HB4.out
                have hw1 : IntKind.i64.wrap (x.2.1 - 1) = x.2.1 - 1 := IntWalk.i64_in _ (by omega)
                have hw2 : IntKind.i64.wrap (x.1 - 1) = x.1 - 1 := IntWalk.i64_in _ (by omega)
                clear i7 i10 j7 j10
                go_wp2_with fail
                go_region_held3 (fun w' => w'.cell? ⟨bl, ol + k * 3, none⟩ = some (.int .i64 x.1) ∧ w'.cell? ⟨bl, ol + k * 3 + 1, none⟩ = some (.int .i64 x.2.1) ∧ w'.cell? ⟨bl, ol + k * 3 + 2, none⟩ = some (.int .i64 x.2.2)) (first | go_keep | exact hkeep) (fail)
                have hq6 : Bx (w4.alloc (.cells #[.int .i64 p, .int .i64 x.1, .int .i64 (x.2.1 - 1), .int .i64 x.2.1, .int .i64 (x.1 - 1), .int .i64 0, .int .i64 65535] 3)).drew w4.heap.size #[.int .i64 p, .int .i64 x.1, .int .i64 (x.2.1 - 1), .int .i64 x.2.1, .int .i64 (x.1 - 1), .int .i64 0, .int .i64 65535] 3 := (Bx.new _ _ _).bel (Below.refl _ _).drew
                have hb6 : Below wc.heap.size wc (w4.alloc (.cells #[.int .i64 p, .int .i64 x.1, .int .i64 (x.2.1 - 1), .int .i64 x.2.1, .int .i64 (x.1 - 1), .int .i64 0, .int .i64 65535] 3)).drew := (HB4.out.alloc HB4.out.size _).drew
                clear l0 l1 l2 hw1 hw2 HB4
                generalize (w4.alloc (.cells #[.int .i64 p, .int .i64 x.1, .int .i64 (x.2.1 - 1), .int .i64 x.2.1, .int .i64 (x.1 - 1), .int .i64 0, .int .i64 65535] 3)).drew = W6 at hq6 hb6 ⊢
                generalize w4.heap.size = B128 at *
                have HQ6 := mkH hq6
                have HB6 := mkH hb6
                clear hq6 hb6
                go_wp2_with fail
                go_loopw [15, 130] (fun v i wr => ∃ (j : Nat) (b : Bool), j ≤ 7 ∧ i = .int .i64 j ∧ v = .bool b ∧ Hid (b = true → ¬ ps' = ps) ∧ Hid (Below W6.heap.size W6 wr)) (fun _ i _ => 7 - (intOf i).toNat)
                case atStart => exact ⟨0, false, by omega, rfl, rfl, mkH (fun h => by cases h), mkH (Below.refl _ _)⟩
                case round =>
                  obtain ⟨j, b, hj, rfl, rfl, HFL, HBR⟩ := hrel
                  by_cases hj7 : j < 7
                  · obtain ⟨y, hy⟩ : ∃ y, wr.cell? ⟨B128, j, none⟩ = some (.int .i64 y) := by
                      have hbx := HQ6.out.bel HBR.out
                      obtain rfl | rfl | rfl | rfl | rfl | rfl | rfl : j = 0 ∨ j = 1 ∨ j = 2 ∨ j = 3 ∨ j = 4 ∨ j = 5 ∨ j = 6 := by omega
                      all_goals exact ⟨_, hbx.cell _ _ rfl⟩
                    have hBC : Below wc.heap.size wc wr := HB6.out.trans (HBR.out.mono HB6.out.size)
                    obtain ⟨i7, i10, j7, j10, l0, l1, l2⟩ := HK.out _ hBC
                    have hji : (j : Int) < 7 := by omega
                    have hji0 : (0 : Int) ≤ (j : Int) := by omega
                    have HC1 : Hid (∀ W, Below wr.heap.size wr W → Calls Try.prog 26 #[.agg #[.int .i64 e, .slice a ps.length c], .int .i64 y] W fun z w' => z = .returned (.int .i64 (ofL ps y)) ∧ Below wr.heap.size wr w') :=
                      mkH (fun W hb => (of_any W e a c ps (j7.rd.below hb) hshp y).mono (fun z w' ⟨h1, h2⟩ => ⟨h1, hb.trans (h2.mono hb.size)⟩))
                    have HC2 : Hid (∀ W, Below wr.heap.size wr W → Calls Try.prog 26 #[.agg #[.int .i64 e', .slice a5 ps'.length c5], .int .i64 y] W fun z w' => z = .returned (.int .i64 (ofL ps' y)) ∧ Below wr.heap.size wr w') :=
                      mkH (fun W hb => (of_any W e' a5 c5 ps' (j10.rd.below hb) hsh y).mono (fun z w' ⟨h1, h2⟩ => ⟨h1, hb.trans (h2.mono hb.size)⟩))
                    have HC3 : Hid (∀ W, Below wr.heap.size wr W → W.cell? ⟨B7, 0, none⟩ = some (.int .i64 e) ∧ W.cell? ⟨B7, 1, none⟩ = some (.slice a ps.length c) ∧ W.cell? ⟨B10, 0, none⟩ = some (.int .i64 e') ∧ W.cell? ⟨B10, 1, none⟩ = some (.slice a5 ps'.length c5)) := mkH (fun W hb => by
                      have u := i7.bel hb
                      have v := i10.bel hb
                      exact ⟨u.cell 0 _ rfl, u.cell 1 _ rfl, v.cell 0 _ rfl, v.cell 1 _ rfl⟩)
                    obtain ⟨y0, y1, y2, y3⟩ := HC3.out wr (Below.refl _ _)
                    have HOY := mkH (HOF.out y)
                    have HNE : Hid (¬ ofL ps' y = ofL ps y → ¬ ps' = ps) := mkH (fun h e => h (by rw [e]))
                    clear i7 i10 j7 j10 l0 l1 l2 hBC
                    generalize ofL ps y = z1 at HC1 HOY HNE
                    generalize ofL ps' y = z2 at HC2 HOY HNE
                    go_wp2_with fail
                    go_cut [18, 19] (fun v18 v19 wd => v18 = .int .i64 z1 ∧ v19 = .int .i64 z2 ∧ Hid (Below wr.heap.size wr wd))
                    case first =>
                      as_aux_lemma =>
                        go_region_held3 (fun w' => w'.cell? ⟨B7, 0, none⟩ = some (.int .i64 e) ∧ w'.cell? ⟨B7, 1, none⟩ = some (.slice a ps.length c) ∧ w'.cell? ⟨B10, 0, none⟩ = some (.int .i64 e') ∧ w'.cell? ⟨B10, 1, none⟩ = some (.slice a5 ps'.length c5)) (first | go_keep | exact hkeep) (first
                          | (go_at_call 26; with_reducible refine (HC1.out _ (by (repeat (first | exact hbX | exact Below.refl _ _ | refine Below.drew ?_ | refine Gf.below_drewN ?_ _)))).mono ?_; rintro z w8 ⟨rfl, hbX⟩; have hkeep := (by exact HC3.out w8 hbX))
                          | (go_at_call 26; with_reducible refine (HC2.out _ (by (repeat (first | exact hbX | exact Below.refl _ _ | refine Below.drew ?_ | refine Gf.below_drewN ?_ _)))).mono ?_; rintro z w8 ⟨rfl, hbX⟩; have hkeep := (by exact HC3.out w8 hbX)))
                        all_goals
                          go_wp2_with fail
                          go_meet
                          exact ⟨rfl, rfl, mkH hbX⟩
                    case rest =>
                      as_aux_lemma =>
                        obtain ⟨rfl, rfl, HBD⟩ := hcut
                        clear y0 y1 y2 y3 HC1 HC2 HC3 hy
                        have HBE := mkH (HBR.out.trans (HBD.out.mono HBR.out.size))
                        have HKE : Hid (∀ W, Below W6.heap.size W6 W → W.cell? ⟨bl, ol + k * 3, none⟩ = some (.int .i64 x.1) ∧ W.cell? ⟨bl, ol + k * 3 + 1, none⟩ = some (.int .i64 x.2.1) ∧ W.cell? ⟨bl, ol + k * 3 + 2, none⟩ = some (.int .i64 x.2.2)) := mkH (fun W hb => by
                          obtain ⟨-, -, -, -, u, v, z⟩ := HK.out W (HB6.out.trans (hb.mono HB6.out.size))
                          exact ⟨u, v, z⟩)
                        obtain ⟨l0, l1, l2⟩ := HKE.out _ HBE.out
                        have hin := fun W => in_any W x.1 x.2.1 y
                        clear HBR HBD
                        cases hq : inn (x.1, x.2.1) y
                        · rw [hq] at hin HOY
                          have HZ : Hid (z2 = z1) := mkH (by rw [HOY.out]; rfl)
                          have hz12 := HZ.out
                          subst hz12
                          clear HZ HOY hq
                          go_wp2_with fail
                          refine (hin _).mono ?_
                          rintro z w8 ⟨rfl, hg8⟩
                          have HB8 := mkH (HBE.out.trans (hg8.below.mono HBE.out.size))
                          obtain ⟨n0, n1, n2⟩ := HKE.out _ HB8.out
                          clear hg8 HBE l0 l1 l2
                          go_wp2_with fail
                          refine (hin _).mono ?_
                          rintro z w9 ⟨rfl, hg9⟩
                          have HB9 := mkH (HB8.out.trans (hg9.below.mono HB8.out.size))
                          clear hg9 HB8 n0 n1 n2 hin
                          cases b
                          · go_wp2
                            go_roundw
                            case rel => exact ⟨j + 1, false, by omega, by go_num, rfl, mkH (fun h => by cases h), HB9⟩
                            case measure => simp [intOf]; omega
                          · go_wp2
                            go_roundw
                            case rel => exact ⟨j + 1, true, by omega, by go_num, rfl, mkH (fun _ => by first | exact HFL.out rfl | exact HFL.out True.intro), HB9⟩
                            case measure => simp [intOf]; omega
                        · rw [hq] at hin HOY
                          have HZ : Hid (z2 = x.2.2) := mkH (by rw [HOY.out]; rfl)
                          have hz12 := HZ.out
                          subst hz12
                          clear HZ HOY hq
                          go_wp2_with fail
                          refine (hin _).mono ?_
                          rintro z w8 ⟨rfl, hg8⟩
                          have HB8 := mkH (HBE.out.trans (hg8.below.mono HBE.out.size))
                          obtain ⟨n0, n1, n2⟩ := HKE.out _ HB8.out
                          clear hg8 HBE l0 l1 l2
                          go_wp2_with fail
                          refine (hin _).mono ?_
                          rintro z w9 ⟨rfl, hg9⟩
                          have HB9 := mkH (HB8.out.trans (hg9.below.mono HB8.out.size))
                          clear hg9 HB8 n0 n1 n2 hin
                          cases b
                          · by_cases hzz : x.2.2 = z1
                            · go_wp2
                              go_roundw
                              case rel => exact ⟨j + 1, false, by omega, by go_num, rfl, mkH (fun h => by cases h), HB9⟩
                              case measure => simp [intOf]; omega
                            · have HT := mkH (HNE.out hzz)
                              have HBN := mkH (show (x.2.2 != z1) = true by simp [hzz])
                              go_wp2
                              go_roundw
                              case rel => exact ⟨j + 1, true, by omega, by go_num, by first | rfl | exact congrArg Value.bool HBN.out, mkH (fun _ => HT.out), HB9⟩
                              case measure => simp [intOf]; omega
                          · go_wp2
                            go_roundw
                            case rel => exact ⟨j + 1, true, by omega, by go_num, rfl, mkH (fun _ => by first | exact HFL.out rfl | exact HFL.out True.intro), HB9⟩
                            case measure => simp [intOf]; omega
                  · as_aux_lemma =>
                      have hj77 : j = 7 := by omega
                      subst hj77
                      have hBC : Below wc.heap.size wc wr := HB6.out.trans (HBR.out.mono HB6.out.size)
                      obtain ⟨i7, i10, j7, j10, -, -, -⟩ := HK.out _ hBC
                      have HBF := mkH (HBW.out.trans (hBC.mono HBW.out.size))
                      obtain ⟨y0, y1, y2, y3⟩ := two_load (P := Try.prog) i7
                      obtain ⟨y4, y5, -, -⟩ := two_load (P := Try.prog) i10
                      have k7 := i7.set 0 (.int .i64 e')
                      have k8 := k7.set 1 (.slice a5 ps'.length c5)
                      have HI7 := mkH i7
                      have HJ10 := mkH j10
                      have HI9 := mkH (And.intro i7 i10)
                      have HJ7 := mkH j7
                      have HI10 := mkH i10
                      have HEND : Hid (∀ W, Below wr.heap.size wr W → Bx ((W.setCell ⟨B7, 0, none⟩ (.int .i64 e')).setCell ⟨B7, 1, none⟩ (.slice a5 ps'.length c5)) B7 #[.int .i64 e', .slice a5 ps'.length c5] 24 ∧ OwP ((W.setCell ⟨B7, 0, none⟩ (.int .i64 e')).setCell ⟨B7, 1, none⟩ (.slice a5 ps'.length c5)) w.heap.size a5 c5 ps' ∧ Below w.heap.size w ((W.setCell ⟨B7, 0, none⟩ (.int .i64 e')).setCell ⟨B7, 1, none⟩ (.slice a5 ps'.length c5))) := mkH (fun W hb => by
                        have u := HI7.out.bel hb
                        obtain ⟨f1, f2, -, -⟩ := move_fin (w := w) u (HJ10.out.below hb) (HBF.out.trans (hb.mono HBF.out.size)) hz7 e'
                        exact ⟨(u.set 0 _).set 1 _, f1, f2⟩)
                      clear k7 k8 i7 i10 j7 j10 hBC
                      have hgu : ∀ (W : World), True := fun _ => True.intro
                      by_cases hpp : ps' = ps
                      · have hee := HEE.out
                        have hee1 : e' = e := by
                          rcases hee with ⟨_, h⟩ | ⟨h, _⟩
                          · exact h
                          · exact absurd hpp h
                        have hb0 : b = false := by
                          cases b with
                          | false => rfl
                          | true => exact absurd hpp (HFL.out rfl)
                        have HSM := mkH (same_any wr e e' a a5 c c5 ps ps' HJ7.out.rd HJ10.out.rd)
                        have hd : decide (e = e' ∧ ps = ps') = true := decide_eq_true ⟨hee1.symm, hpp.symm⟩
                        rw [hd] at HSM
                        clear hd hee HJ7 HI7 HI10 HJ10 HFL HEE
                        subst hb0
                        subst hee1
                        have HPP := mkH hpp
                        clear hpp
                        go_wp2_with fail
                        refine HSM.out.mono ?_
                        rintro z w9 ⟨rfl, hg9⟩
                        obtain ⟨g1, g2, g3⟩ := HEND.out w9 hg9.below
                        have G1 := mkH g1
                        have G2 := mkH g2
                        have G3 := mkH g3
                        obtain ⟨v0, v1, v2, v3⟩ := two_load (P := Try.prog) (HI9.out.1.bel hg9.below)
                        obtain ⟨v4, v5, -, -⟩ := two_load (P := Try.prog) (HI9.out.2.bel hg9.below)
                        clear g1 g2 g3 hg9 y0 y1 y2 y3 y4 y5 HSM HEND
                        go_wp2
                        go_roundw
                        case rel => exact ⟨k + 1, by omega, by omega, by go_num, e', a5, c5, ps', G1, G2, HGD, ⟨by omega, by omega⟩, G3⟩
                        case measure => simp [intOf]; omega
                      · have hee1 : e' = e + 1 := by
                          rcases HEE.out with ⟨h, _⟩ | ⟨_, h⟩
                          · exact absurd h hpp
                          · exact h
                        have hw : IntKind.i64.wrap (e + 1) = e + 1 := IntWalk.i64_in _ (by omega)
                        subst hee1
                        obtain ⟨g1, g2, g3⟩ := HEND.out wr (Below.refl _ _)
                        have G1 := mkH g1
                        have G2 := mkH g2
                        have G3 := mkH g3
                        clear g1 g2 g3 HJ7 HI7 HI10 HJ10 HFL HEE HEND hpp
                        have hn1 : ¬ (e + 1 < e) := by omega
                        have hn2 : ¬ (e + 1 = e) := by omega
                        cases b
                        · go_wp2
                          go_roundw
                          case rel => exact ⟨k + 1, by omega, by omega, by go_num, e + 1, a5, c5, ps', G1, G2, HGD, ⟨by omega, by omega⟩, G3⟩
                          case measure => simp [intOf]; omega
                        · go_wp2
                          go_roundw
                          case rel => exact ⟨k + 1, by omega, by omega, by go_num, e + 1, a5, c5, ps', G1, G2, HGD, ⟨by omega, by omega⟩, G3⟩
                          case measure => simp [intOf]; omega
          · as_aux_lemma =>
              have hqe : q = (0, [], 2) := by rw [HQ.out]; unfold mvE; rw [if_neg (fun h => hok h.2)]
              subst hqe
              clear HQ H10 HO10 hmc
              have hm := fun W => may_gr W x.1 x.2.1
              cases hmr : may (x.1, x.2.1)
              · rw [hmr] at hm
                clear hmr hok
                go_wp2_with (go_at_call 23; refine (hm _).mono ?_; rintro y w3 ⟨rfl, hg3⟩)
                have HX3 := mkH (HX'.out.bel hg3.below)
                have HO3 := mkH (HO'.out.below hg3.below)
                have HB3 := mkH (HBW.out.trans (hg3.below.mono (by omega)))
                go_roundw
                case rel => exact ⟨k + 1, by omega, by omega, by go_num, e, a, c, ps, HX3, HO3, HG, ⟨by omega, by omega⟩, HB3⟩
                case measure => simp [intOf]; omega
              · rw [hmr] at hm
                have hns : ¬ (1 ≤ x.2.2 ∧ x.2.2 ≤ 6) := fun h => hok ⟨hmr, (isSh_iff _).2 h⟩
                clear hmr hok
                go_wp2_with fail
                refine (hm _).mono ?_
                rintro y w3 ⟨rfl, hg3⟩
                have HX3 := mkH (HX'.out.bel hg3.below)
                have HO3 := mkH (HO'.out.below hg3.below)
                have HB3 := mkH (HBW.out.trans (hg3.below.mono (by omega)))
                have c2'' : w3.cell? ⟨bl, ol + k * 3 + 2, none⟩ = some (.int .i64 x.2.2) := (hg3.below.cell (p := ⟨bl, ol + k * 3 + 2, none⟩) (World.block_lt_of_cell? _ _ c2')).trans c2'
                clear hg3 g0' g1' c0' c1' c2' hm HX' HO' HBW
                by_cases hlo : 1 ≤ x.2.2
                · have hhi : ¬ x.2.2 ≤ 6 := fun h => hns ⟨hlo, h⟩
                  clear hns
                  go_wp2
                  go_roundw
                  case rel => exact ⟨k + 1, by omega, by omega, by go_num, e, a, c, ps, HX3, HO3, HG, ⟨by omega, by omega⟩, HB3⟩
                  case measure => simp [intOf]; omega
                · clear hns
                  go_wp2
                  go_roundw
                  case rel => exact ⟨k + 1, by omega, by omega, by go_num, e, a, c, ps, HX3, HO3, HG, ⟨by omega, by omega⟩, HB3⟩
                  case measure => simp [intOf]; omega
      · as_aux_lemma =>
          have hk3 : k = 30 := by omega
          subst hk3
          have hi : (30 : Int) < (l.length : Int) := by omega
          have HW := mkH (works_any wr)
          clear HR
          go_wp2_with (go_at_call 12; refine HW.out.mono ?_; rintro x w2 ⟨rfl, hb2⟩)
          go_ret
          exact ⟨rfl, HB.out.trans (hb2.mono HB.out.size)⟩
    · have : k = l.length := by omega
      subst this
      have HW := mkH (works_any wr)
      clear HR
      go_wp2_with (go_at_call 12; refine HW.out.mono ?_; rintro x w2 ⟨rfl, hb2⟩)
      go_ret
      exact ⟨rfl, HB.out.trans (hb2.mono HB.out.size)⟩
end Go.Proofs.Ytcpmcfagibmboaa.Cs
