/-
  chart.Of, chart.First.
-/
import Derived.Test.YtcpmcfagibmboabGreatChF
namespace Go.Proofs.YtcpmcfagibmboabGreat.Cg
open Go.RowKit Pl Pw Pr Pf Pv Cp Ca Cb Cc Cd Ce Cf Gf Gk
open Cr hiding some_of
open Kt hiding mkH
open Kv
set_option linter.unusedVariables false
set_option linter.unusedSimpArgs false
set_option maxRecDepth 20000

theorem ofL_step {ps : List Pc} {k : Nat} {x : Pc} (q : Int) (h : ps[k]? = some x) : ofL (ps.drop k) q = if inn (rg x) q then x.2.2 else ofL (ps.drop (k + 1)) q := by
  have hk := Cr.lt_of h
  rw [List.drop_eq_getElem_cons hk, ofL]
  rw [List.getElem?_eq_getElem hk] at h
  injection h with h
  rw [h]

set_option maxHeartbeats 1000000 in
theorem of_any (w : World) (e : Int) (ao : Option Addr) (cap : Nat) (ps : List Pc) (h : RdP w ao cap ps) (hl : ps.length ≤ 100000) (p : Int) :
    Calls Tryz.prog 22 #[.agg #[.int .i64 e, .slice ao ps.length cap], .int .i64 p] w fun x w' => x = .returned (.int .i64 (ofL ps p)) ∧ Below w.heap.size w w' := by
  obtain ⟨V, hV⟩ : ∃ V, V = ofL ps p := ⟨_, rfl⟩
  rw [← hV]
  have HV := mkH hV
  clear hV
  have hb0 : Bx (w.alloc (.cells #[.int .i64 e, .slice ao ps.length cap] 51)) w.heap.size #[.int .i64 e, .slice ao ps.length cap] 51 := Bx.new _ _ _
  have HB0 := mkH ((Below.refl w.heap.size w).alloc (Nat.le_refl _) (.cells #[.int .i64 e, .slice ao ps.length cap] 51))
  have HR := mkH h
  clear h hb0
  go_enter Tryz.func22, Tryz.ntmps22
  go_wp2
  go_loopw [10] (fun i wr => ∃ k : Nat, k ≤ ps.length ∧ i = .int .i64 k ∧ Hid (V = ofL (ps.drop k) p) ∧ Hid (Below w.heap.size w wr)) (fun i _ => ps.length - (intOf i).toNat)
  case atStart => exact ⟨0, Nat.zero_le _, rfl, HV, HB0⟩
  case round =>
    obtain ⟨k, hk, rfl, HF, HB⟩ := hrel
    by_cases hlt : k < ps.length
    · obtain ⟨x, hx⟩ := Cr.some_of hlt
      obtain ⟨b, o, e1, c0, c1, c2⟩ := atP (HR.out.r.below HB.out) hx
      subst e1
      have hi : (k : Int) < (ps.length : Int) := by omega
      have hi0 : (0 : Int) ≤ (k : Int) := by omega
      have hin := fun W => in_any W x.1 x.2.1 p
      have HS := mkH (ofL_step p hx)
      have HBN := mkH (HB.out.alloc HB.out.size (.cells #[.int .i64 x.1, .int .i64 x.2.1, .int .i64 x.2.2] 87))
      have HX : Hid (Bx (wr.alloc (.cells #[.int .i64 x.1, .int .i64 x.2.1, .int .i64 x.2.2] 87)) wr.heap.size #[.int .i64 x.1, .int .i64 x.2.1, .int .i64 x.2.2] 87) := mkH (Bx.new _ _ _)
      have hwz := HB.out.size
      clear hx HR HV HB
      have hrg : inn (rg x) p = inn (x.1, x.2.1) p := rfl
      rw [hrg] at HS
      clear hrg
      cases hq : inn (x.1, x.2.1) p
      · rw [hq] at hin HS
        have HQ2 := mkH (HF.out.trans HS.out)
        go_wp2_with fail
        refine (hin _).mono ?_
        rintro e w1 ⟨rfl, hg1⟩
        have HB1 := mkH (HBN.out.trans (hg1.below.mono (by simp; omega)))
        clear hg1
        go_wp2
        go_roundw
        case rel => exact ⟨k + 1, by omega, by go_num, mkH (by rw [HQ2.out]; rfl), HB1⟩
        case measure => simp [intOf]; omega
      · rw [hq] at hin HS
        have HQ2 := mkH (HF.out.trans HS.out)
        go_wp2_with fail
        refine (hin _).mono ?_
        rintro e w1 ⟨rfl, hg1⟩
        have HB1 := mkH (HBN.out.trans (hg1.below.mono (by simp; omega)))
        have hc := (HX.out.bel hg1.below).cell 2 _ rfl
        clear hg1
        go_wp2
        go_ret
        exact ⟨by rw [HQ2.out]; rfl, HB1.out⟩
    · have : k = ps.length := by omega
      subst this
      rw [List.drop_length] at HF
      clear HR
      go_wp2
      go_ret
      exact ⟨by rw [HF.out]; rfl, HB.out⟩

/-- What First answers. -/
def fsE (n : Int) : Int × List Pc × Int := if 1 ≤ n ∧ n ≤ 6 then (1, fst n.toNat, 0) else (0, [], 2)

set_option maxHeartbeats 2000000 in
theorem first_any (w : World) (n : Int) : Calls Tryz.prog 12 #[.int .i64 n] w (Cf.ChP w (fsE n)) := by
  obtain ⟨q, hq⟩ : ∃ q, q = fsE n := ⟨_, rfl⟩
  rw [← hq]
  have HQ := mkH hq
  clear hq
  have hs := fun W => isShard_any W n
  have HC : Hid (Bx (w.alloc (.cells #[.int .i64 0, .slice none 0 0] 51)) w.heap.size #[.int .i64 0, .slice none 0 0] 51) := mkH (Bx.new _ _ _)
  have HBW := mkH ((Below.refl w.heap.size w).alloc (Nat.le_refl _) (.cells #[.int .i64 0, .slice none 0 0] 51))
  by_cases hn : 1 ≤ n ∧ n ≤ 6
  · have hs' : isSh n = true := (isSh_iff n).2 hn
    rw [hs'] at hs
    have HE : Hid (q = (1, fst n.toNat, 0)) := mkH (by rw [HQ.out]; unfold fsE; rw [if_pos hn])
    clear HQ hs'
    obtain ⟨m, rfl⟩ : ∃ m : Nat, n = (m : Int) := ⟨n.toNat, by omega⟩
    rw [Int.toNat_natCast] at HE
    have hm1 : 1 ≤ m := by omega
    have hm6 : m ≤ 6 := by omega
    clear hn
    go_enter Tryz.func12, Tryz.ntmps12
    go_wp2_with (go_at_call 32; refine (hs _).mono ?_; rintro e w1 ⟨rfl, rfl⟩)
    refine (gather_any _).mono ?_
    rintro e w2 ⟨rfl, hG, hb2⟩
    have HG0 := mkH hG
    have HC2 := mkH (HC.out.bel hb2)
    have HB2 := mkH (HBW.out.trans (hb2.mono HBW.out.size))
    have hn0 : w.heap.size < (w.alloc (.cells #[.int .i64 0, .slice none 0 0] 51)).heap.size := by simp
    clear hG hb2 HC HBW hs
    generalize (w.alloc (.cells #[.int .i64 0, .slice none 0 0] 51)).heap.size = nn at *
    go_wp2
    go_loopw [16] (fun i wr => ∃ k : Nat, k ≤ m ∧ i = .int .i64 k ∧ ∃ (ao : Option Addr) (cap : Nat) (M : List Pc) (z : Pc), Hid (Gs wr nn ao cap M z) ∧ Hid (St M z ((fst m).take k)) ∧ Hid (Bx wr w.heap.size #[.int .i64 0, .slice none 0 0] 51) ∧ Hid (Below w.heap.size w wr)) (fun i _ => m - (intOf i).toNat)
    case atStart => exact ⟨0, Nat.zero_le _, rfl, none, 0, [], (0, 0, 0), HG0, mkH (.inl ⟨rfl, rfl, rfl⟩), HC2, HB2⟩
    case round =>
      obtain ⟨k, hk, rfl, aM, cM, M, z, HG, HS, HC3, HB3⟩ := hrel
      clear HG0 HC2 HB2
      by_cases hlt : k < m
      · have HST : Hid (Stp wr nn aM ((fst m).take k) wr) := mkH ⟨aM, cM, M, z, HG.out, HS.out, Fr.refl _ _, fun k hk => .inl hk⟩
        have HP := mkH (fst_put m k hm1 hm6 hlt)
        have hlm : ((fst m).take k).length ≤ 10 := by rw [List.length_take, fst_len]; omega
        have hi : (k : Int) < (m : Int) := by omega
        have hi0 : (0 : Int) ≤ (k : Int) := by omega
        have hsz := HG.out.lt
        have HRBo : Hid (∀ k, k < nn → ¬ (k = nn + 1 ∨ k = nn + 2 ∨ rb aM k)) := mkH (fun k hk hq => by
          rcases hq with e | e | e
          · omega
          · omega
          · have := HG.out.row _ e; omega)
        have hb1 : 65536 * (k : Int) / (m : Int) ≤ 65536 * (k : Int) := Int.ediv_le_self _ (by omega)
        have hb2 : 65536 * ((k : Int) + 1) / (m : Int) ≤ 65536 * ((k : Int) + 1) := Int.ediv_le_self _ (by omega)
        have a1 : IntKind.i64.wrap (65536 * (k : Int)) = 65536 * (k : Int) := IntWalk.i64_in _ (by omega)
        have a2 : IntKind.i64.wrap ((65536 * (k : Int)).tdiv (m : Int)) = 65536 * (k : Int) / (m : Int) := IntWalk.i64_quo _ _ (by omega)
        have a3 : IntKind.i64.wrap ((k : Int) + 1) = (k : Int) + 1 := IntWalk.i64_in _ (by omega)
        have a4 : IntKind.i64.wrap (65536 * ((k : Int) + 1)) = 65536 * ((k : Int) + 1) := IntWalk.i64_in _ (by omega)
        have a5 : IntKind.i64.wrap ((65536 * ((k : Int) + 1)).tdiv (m : Int)) = 65536 * ((k : Int) + 1) / (m : Int) := IntWalk.i64_quo _ _ (by omega)
        have a6 : ¬ (m : Int) = 0 := by omega
        have a7 : ¬ m = 0 := by omega
        clear HS HG hb1 hb2
        generalize (fst m).take k = L at *
        generalize 65536 * (k : Int) / (m : Int) = X1 at *
        generalize 65536 * ((k : Int) + 1) / (m : Int) = X2 at *
        have htr : True := True.intro
        go_wp2_with fail
        go_region_held3 (fun w' => True) (exact True.intro) (first
          | (go_at_call 56; refine (Stp.add (HST.out.below (by (repeat (first | exact Below.refl _ _ | refine Below.drew ?_ | refine Gf.below_drewN ?_ _)))) (by omega) X1 X2 ((k : Int) + 1) (by omega)).mono ?_; rintro e w4 ⟨rfl, hst4'⟩; have hst4 := mkH hst4'; have hkeep := True.intro; clear hst4'))
        all_goals
          clear a1 a2 a3 a4 a5 a6 a7
          go_wp2
          go_roundw
          case rel =>
            obtain ⟨ao9, cap9, M9, z9, g1, g2, g3, g4⟩ := hst4.out
            refine ⟨k + 1, by omega, by go_num, ao9, cap9, M9, z9, mkH g1, mkH ?_, mkH (HC3.out.fr g3 (HRBo.out _ hn0)), mkH (HB3.out.trans (g3.below (fun j hj => ?_) HB3.out.size))⟩
            · rw [← HP.out]; exact g2
            · exact Nat.le_of_not_lt (fun hlt => HRBo.out j (by omega) hj)
          case measure => simp [intOf]; omega
      · have : k = m := by omega
        subst this
        rw [List.take_of_length_le (by rw [fst_len]; exact Nat.le_refl _)] at HS
        have HA := mkH (all_any wr nn aM cM M z _ HG.out HS.out (by rw [fst_len]; omega))
        have hsz := HG.out.lt
        go_wp2_with fail
        refine HA.out.mono ?_
        rintro e w3 ⟨a5, c5, rfl, ho3, hf3, hl3⟩
        have HO3 : Hid (OwP w3 w.heap.size a5 c5 (fst k)) := mkH ⟨own_mono ho3 (by omega)⟩
        have HBF := mkH (HB3.out.trans (hf3.below (fun k hk => by have := HG.out.row k hk; omega) HB3.out.size))
        have HC4 := mkH (HC3.out.fr hf3 (fun hq => by have := HG.out.row _ hq; omega))
        clear ho3 hf3 hl3 HA HG HS HC3 HB3
        obtain ⟨g0, g1, g2, g3⟩ := two_load (P := Tryz.prog) HC4.out
        obtain ⟨f1, f2, y0, y1⟩ := move_fin HC4.out HO3.out HBF.out (Nat.le_refl _) 1
        have HF1 := mkH f1
        have HF2 := mkH f2
        clear f1 f2
        go_wp2
        rw [HE.out]
        exact bodyPost_ret (v := .tuple #[.agg #[.int .i64 1, .slice a5 (fst k).length c5], .int .i64 0]) (res_ct rfl _ _ _ (x := .agg #[.int .i64 1, .slice a5 (fst k).length c5]) (y := .int .i64 0) (b := ⟨w.heap.size, 0, none⟩) (by rfl) (by rfl) (by simp [loadVar, go_sem, y0, y1])) rfl ⟨a5, c5, rfl, HF1.out, HF2.out⟩
  · have hs' : isSh n = false := by rw [← Bool.not_eq_true, isSh_iff]; exact hn
    rw [hs'] at hs
    have HE : Hid (q = (0, [], 2)) := mkH (by rw [HQ.out]; unfold fsE; rw [if_neg hn])
    obtain ⟨g0, g1, g2, g3⟩ := two_load (P := Tryz.prog) HC.out
    have k := HC.out.set 0 (.int .i64 0)
    have k2 := k.set 1 (.slice none 0 0)
    obtain ⟨y0, y1, -, -⟩ := two_load (P := Tryz.prog) k2
    have HBF := mkH ((HBW.out.setCell (p := ⟨w.heap.size, 0, none⟩) (by simp) (.int .i64 0)).setCell (p := ⟨w.heap.size, 1, none⟩) (by simp) (.slice none 0 0))
    clear k k2 HQ hn
    go_enter Tryz.func12, Tryz.ntmps12
    go_wp2_with (go_at_call 32; refine (hs _).mono ?_; rintro e w1 ⟨rfl, rfl⟩)
    rw [HE.out]
    exact bodyPost_ret (v := .tuple #[.agg #[.int .i64 0, .slice none 0 0], .int .i64 2]) (res_ct rfl _ _ _ (x := .agg #[.int .i64 0, .slice none 0 0]) (y := .int .i64 2) (b := ⟨w.heap.size, 0, none⟩) (by rfl) (by rfl) (by simp [loadVar, go_sem])) rfl (chP_zero 2 HBW.out)
end Go.Proofs.YtcpmcfagibmboabGreat.Cg
