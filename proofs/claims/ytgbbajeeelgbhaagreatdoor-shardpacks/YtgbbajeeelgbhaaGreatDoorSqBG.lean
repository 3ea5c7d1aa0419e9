/-
  ShW WiN WiM WiM0 WiM1 WiM2 WiM3 WiL0, joined by mrg.py.
-/
import Derived.Test.YtgbbajeeelgbhaaGreatDoorSqBD
import Derived.Test.YtgbbajeeelgbhaaGreatDoorSqBF
import Derived.Test.YtgbbajeeelgbhaaGreatDoorSqAU
import Derived.BigQuiet
import Derived.Deep.Cut

namespace Go.Proofs.YtgbbajeeelgbhaaGreatDoor.Hw
open Go.RowKit Kt Gf Gk Gp Qm Qa Qb Qc Qd Qe Qf Qg Ha Hb Hc Hd
open Gr (RowS Fl Gl Go' gC)
open Pl (Rg may join)
open Pr (Rw Ow)
open Wi (Rp Cm readCm encCm checkC)
open Wk (Cv)
open Wa (Pv RpM)
open At (RowT)
set_option linter.unusedVariables false
set_option linter.unusedSectionVars false
set_option linter.unusedSimpArgs false
set_option maxRecDepth 20000

def cfs : List Cf := [⟨30, 500, 2, 1⟩, ⟨10, 1000, 0, -1⟩]
def whl : List Rg := [(0, 65536)]
theorem confs_any (w : World) : Calls Tryz.prog 10 #[] w fun e w' => e = .returned (.slice (some ⟨w.heap.size, 0, none⟩) 2 2) ∧ RowQ w' (some ⟨w.heap.size, 0, none⟩) cfs ∧ Below w.heap.size w w' := by
  have HR := mkH (Gr.RowS.new cfC_len w #[.int .i64 30, .int .i64 500, .int .i64 2, .int .i64 1, .int .i64 10, .int .i64 1000, .int .i64 0, .int .i64 (-1)] 89 cfs rfl)
  go_enter Tryz.func10, Tryz.ntmps10
  go_wp2
  go_ret
  exact ⟨rfl, HR.out, (Below.refl _ w).alloc (Nat.le_refl _) _⟩
theorem whole_any (w : World) : Calls Tryz.prog 19 #[] w fun e w' => e = .returned (.slice (some ⟨w.heap.size, 0, none⟩) 1 1) ∧ Rw w' (some ⟨w.heap.size, 0, none⟩) whl ∧ Below w.heap.size w w' := by
  have HR : Hid (Rw (w.alloc (.cells #[.int .i64 0, .int .i64 65536] 37)) (some ⟨w.heap.size, 0, none⟩) whl) := mkH (by
    intro _
    refine ⟨w.heap.size, 0, rfl, fun i r hr => ?_⟩
    have hB := Bx.new w #[.int .i64 0, .int .i64 65536] 37
    match i, hr with
    | 0, hr => simp [whl] at hr; subst hr; exact ⟨hB.cell 0 _ rfl, hB.cell 1 _ rfl⟩
    | i + 1, hr => simp [whl] at hr)
  go_enter Tryz.func19, Tryz.ntmps19
  go_wp2
  go_ret
  exact ⟨rfl, HR.out, (Below.refl _ w).alloc (Nat.le_refl _) _⟩
theorem may_cfs : mayQb cfs = true := by
  refine mayQ_true (by decide) (by decide) (fun i c hi hc => ?_)
  match i, hc with
  | 0, hc => simp [cfs] at hc; subst hc; unfold mayC visOk keepOk maxOk deadOk; simp [cfs]
  | 1, hc => simp [cfs] at hc; subst hc; unfold mayC visOk keepOk maxOk deadOk; simp [cfs]
  | i + 2, hc => simp [cfs] at hc
theorem join_whl : join whl = whl := (Pl.join_unique whl whl ⟨fun x hx => by simp [whl] at hx; subst hx; decide, by simp [whl]⟩ (fun _ => rfl)).symm
theorem apart_whl : apartR whl = true := by unfold apartR; rw [join_whl]; simp [whl, may]
theorem in_whl (s : ByteArray) : isInP whl s = true := by
  have h := Po.ofP_lt s.data.toList
  unfold isInP whl
  have h2 : Pl.inn (0, 65536) ((Po.ofP s.data.toList : Nat) : Int) = true := by
    rw [Pl.inn_iff]; simp only; omega
  simp [Pl.fnd, h2]
def c0 : Cm := ⟨1, 1, 1, 5, 0, [103], [98], [], [], 0, 0, Wi.Rcp.none, 0, 0, 0, []⟩
theorem ck0 : checkC c0 = 0 := by decide
theorem rd0 : readCm (encCm c0) = .ok c0 := (Wi.whole_fits (check := checkC) (Wi.fits_cm ck0) ck0).1
theorem len0 : (encCm c0).length ≤ 1000 := by decide +kernel
def r1 : Rp := rpS 1
theorem mx0 : mx 0 c0.time = 5 := by decide
theorem mx5 : mx 5 c0.time = 5 := by decide
theorem snd0 : sndR cfs [] (isInP whl (S c0.group)) c0 = r1 ∧ (lookG cfs [] c0.queue (S c0.group) c0.time) = fresh := by
  have hl : lookG cfs [] c0.queue (S c0.group) c0.time = fresh := rfl
  have e : sndE cfs [] (isInP whl (S c0.group)) c0 = 0 := by
    unfold sndE
    rw [in_whl, hl, if_neg (by simp [c0, cfs]), if_neg (by simp [c0]), if_neg (by simp)]
    rfl
  refine ⟨?_, hl⟩
  unfold sndR
  rw [e, if_pos rfl, hl]
  rfl
theorem sn0 (xs : List X) (hx : xs = []) : SnP cfs whl xs c0 := by
  subst hx
  refine ⟨rfl, by unfold isT; decide, by unfold isT; decide, by decide, by decide, by decide, by decide, ?_⟩
  show fresh.next + 1 ≤ _
  decide
theorem lk0 : Sc.lookK [] 1 1 = false ∧ Sc.lookE [] 1 1 = 0 := ⟨by decide, by decide⟩
theorem nt0 : Sc.noteL [] 1 1 r1 = [⟨1, 1, r1⟩] := by unfold Sc.noteL; rw [show Sc.noteE [] 1 1 = 0 by decide]; rfl
theorem lk1 : Sc.lookK [⟨1, 1, r1⟩] 1 1 = true ∧ Sc.lookE [⟨1, 1, r1⟩] 1 1 = 0 ∧ Sc.lookR [⟨1, 1, r1⟩] 1 1 = r1 := ⟨by decide, by decide, by unfold Sc.lookR; rw [show Sc.lookK [⟨1, 1, r1⟩] 1 1 = true by decide]; rfl⟩

theorem row_fr3 {w w' : World} {ao : Option Addr} {bs : Wi.Bs} {Sb Xb Mb T Tm : Nat} {F : Nat → Prop} {cf : List Cf} {sv : List Rg} {xs : List X} {qa : Option Addr} {qc : Nat} {sa : Option Addr} {sc : Nat} {l : List Sa.E} {now slots : Int} (h : Row w ao bs) (hf : Fr (fun k => k = Sb ∨ k = Mb ∨ k = Tm) w w') (hH : Hs w Sb Xb Mb T Tm F cf sv xs qa qc sa sc l now slots) : Row w' ao bs := by
  intro hl
  obtain ⟨bk, off, e, hc⟩ := h hl
  refine ⟨bk, off, e, fun i hi => ?_⟩
  have h1 := hc i hi
  have hne : bk ≠ Sb := by
    rintro rfl
    have h2 := h1
    have hB := hH.bx
    unfold Bx at hB
    simp only [World.cell?, hB] at h2
    match off + i, h2 with
    | 0, h2 => simp at h2
    | 1, h2 => simp at h2
    | 2, h2 => simp at h2
    | 3, h2 => simp at h2
    | j + 4, h2 => simp at h2
  have hn2 := an_ne hH ⟨bk, off + i, none⟩ _ h1
  rw [World.cell?_of_block (w := w) (a := ⟨bk, off + i, none⟩) (hf.heap (World.block_lt_of_cell? w _ h1) (fun e => by rcases e with e | e; exact hne e; exact hn2 e))]
  exact h1
theorem tm_new {w : World} {Sb Xb Mb T Tm : Nat} {F : Nat → Prop} {cf : List Cf} {sv : List Rg} {xs : List X} {qa : Option Addr} {qc : Nat} {sa : Option Addr} {sc : Nat} {l : List Sa.E} {now slots : Int} (hH : Hs w Sb Xb Mb T Tm F cf sv xs qa qc sa sc l now slots) : F Tm := by
  obtain ⟨ys, -, hx⟩ := hH.tb
  exact hx.fm
theorem dvs (s n : Int) (c : Cm) (d : Value) (r : Rp) (ga : Option Addr) (gc : Nat) (da : Option Addr) (dc : Nat) (ra : Option Addr) (rc : Nat) (f : Bool) : Zd.size = (Dv s n c d r ga gc da dc ra rc f).size := rfl

set_option maxHeartbeats 8000000 in
theorem works_any (w : World) (hT : Dt.Tb w) : Calls Tryz.prog 18 #[] w fun e w' => e = .returned (.bool true) ∧ Below w.heap.size w w' := by
  have HT := mkH hT
  clear hT
  go_enter Tryz.func18, Tryz.ntmps18
  go_upto_region 5 with (first
    | (go_at_call 13; refine (Wrc.rcmd_ok w3 c0 none 0 (fun h => by simp [c0] at h) (by decide) ck0).mono ?_; rintro e4 w4 ⟨v4, rfl, ⟨a4, k4, rfl, hr4, hk4⟩, hb4⟩; have HR4 := mkH hr4; have HK4 := mkH hk4; have HH4 := mkH (HH3.out.below hb4); have HB4 := mkH (HB3.out.trans (Below.mono hb4 HB3.out.size)); clear hr4 hk4 hb4)
    | (go_at_call 9; refine (Ha.New_ok w2 (some ⟨w.heap.size, 0, none⟩) 2 cfs (HQ1.out.below HBq.out) (some ⟨w1.heap.size, 0, none⟩) 1 whl HW2.out (by decide) may_cfs apart_whl).mono ?_; rintro e3 w3 ⟨Sb, Xb, Mb, T, Tm, F, qa', qc', sa', sc', rfl, hH3, hM3, hS3, hF3, hb3⟩; rw [join_whl] at hH3; have HH3 := mkH hH3; have HN3 := mkH (And.intro hM3 (And.intro hS3 hF3)); have HB3 := mkH (HB2.out.trans (hb3.mono HB2.out.size)); clear hH3 hM3 hS3 hF3 hb3)
    | (go_at_call 19; refine (whole_any w1).mono ?_; rintro e2 w2 ⟨rfl, hw2, hb2⟩; have HW2 := mkH hw2; have HBq := mkH hb2; have HB2 := mkH (HB1.out.trans (hb2.mono HB1.out.size)); clear hw2 hb2)
    | (go_at_call 10; refine (confs_any w).mono ?_; rintro e1 w1 ⟨rfl, hq1, hb1⟩; have HQ1 := mkH hq1; have HB1 := mkH hb1; clear hq1 hb1))
  have HT4 : Hid (Dt.Tb w4) := mkH (HT.out.below HB4.out HT.out.size)
  have HDO : Hid (∀ W d, Hs W Sb Xb Mb T Tm F cfs whl [] qa' qc' sa' sc' [] (mx 0 c0.time) (0 + 1) → (∀ k, F k → k < W.heap.size) → Dt.Tb W → Calls Tryz.prog 100 #[.pointer (some ⟨Sb, 0, none⟩), .agg (Cv (setT c0 (mx 0 c0.time)) d)] W fun e w' => DoP W Sb Xb Mb T Tm F cfs whl (sndL cfs [] (isInP whl (S c0.group)) c0) qa' qc' sa' sc' [] (mx 0 c0.time) (0 + 1) r1 e w') := mkH (fun W d hH hF hTW => by
    have hm : setT c0 (mx 0 c0.time) = c0 := by rw [mx0]; rfl
    rw [hm]
    have := do_send hH hF c0 d (sn0 [] rfl) hTW
    rw [List.map_nil, snd0.1] at this
    exact this)
  go_upto_region 6 with (first
    | (refine wpList_st rfl (ty := 48) (x := .tmp 6) (y := .tmp 29) (b := w6.heap.size + 1) (cs := (Dv 1 5 (setT c0 5) (.slice da2 c0.data.length dc2) r1 ga gc da3 dc3 ra rc false)) (old := Zd) (t := 48) rfl rfl rfl HZ2.out infoD rfl (Dv_one _ _ _ _ _ _ _ _ _ _ _ _ rfl) ?_; have HY1 := mkH (HZ1.out.rowOther (g := w6.heap.size + 1) (by omega) (Dv 1 5 (setT c0 5) (.slice da2 c0.data.length dc2) r1 ga gc da3 dc3 ra rc false)); have HY2 := mkH (HZ2.out.row (cs := (Dv 1 5 (setT c0 5) (.slice da2 c0.data.length dc2) r1 ga gc da3 dc3 ra rc false))); have HBY := mkH (below_setRow (g := w6.heap.size + 1) HBZ.out (by have := HB6.out.size; omega) (Dv 1 5 (setT c0 5) (.slice da2 c0.data.length dc2) r1 ga gc da3 dc3 ra rc false)); have hFY : Fr (fun k => k = w6.heap.size + 1) V7 (V7.setRow (w6.heap.size + 1) (Dv 1 5 (setT c0 5) (.slice da2 c0.data.length dc2) r1 ga gc da3 dc3 ra rc false)) := Bx.frrow _; have HHY := mkH (HHZ.out.other hFY HZ2.out (fun h => by have := HH6.out.fb _ h; omega) (by decide) (by decide) (by decide) (by decide) (by decide) (by decide)); clear hFY)
    | (refine wpList_st (w := (w6.alloc (.cells Zd 48)).alloc (.cells Zd 48)) rfl (ty := 48) (x := .tmp 5) (y := .tmp 26) (b := w6.heap.size) (cs := (Dv 0 5 (setT c0 5) (.slice da c0.data.length dc) r1 none 0 none 0 none 0 true)) (old := Zd) (t := 48) rfl rfl rfl ((Bx.new w6 Zd 48).alloc (.cells Zd 48)) infoD rfl (Dv_one _ _ _ _ _ _ _ _ _ _ _ _ rfl) ?_; have hal : Below w6.heap.size w6 ((w6.alloc (.cells Zd 48)).alloc (.cells Zd 48)) := ((Below.refl _ _).alloc (Nat.le_refl _) _).alloc (by simp) _; have hbz := below_setRow hal (Nat.le_refl _) (Dv 0 5 (setT c0 5) (.slice da c0.data.length dc) r1 none 0 none 0 none 0 true); have HZ1 := mkH (((Bx.new w6 Zd 48).alloc (.cells Zd 48)).row (cs := (Dv 0 5 (setT c0 5) (.slice da c0.data.length dc) r1 none 0 none 0 none 0 true))); have HZ2 := mkH ((Bx.new1 w6 (.cells Zd 48) Zd 48).rowOther (g := w6.heap.size) (by omega) (Dv 0 5 (setT c0 5) (.slice da c0.data.length dc) r1 none 0 none 0 none 0 true)); have HHZ := mkH (HH6.out.below hbz); have HBZ := mkH (HB6.out.trans (hbz.mono HB6.out.size)); clear hal hbz; generalize hV7 : ((w6.alloc (.cells Zd 48)).alloc (.cells Zd 48)).setRow w6.heap.size (Dv 0 5 (setT c0 5) (.slice da c0.data.length dc) r1 none 0 none 0 none 0 true) = V7 at *; clear hV7)
    | (go_at_call 16; refine (Apply_known HH5.out HH5.out.fb (by omega) (by omega) a4 k4 (encCm c0) HR5.out (by have := len0; omega) HK4.out.1 HK4.out.2 c0 rd0 (by decide) (by decide) lk1.1 lk1.2.1).mono ?_; rintro e6 w6 ⟨da2, dc2, ga, gc, da3, dc3, ra, rc, rfl, hH6, hf6⟩; have hq : Sc.lookR [⟨1, 1, r1⟩] c0.client c0.num = r1 := lk1.2.2; rw [hq, mx5]; rw [mx5, show (1 : Int) + 1 = 2 from rfl] at hH6; have HH6 := mkH hH6; have HB6 := mkH (HB5.out.trans (hf6.below (fun k hk => by have h9 := HN3.out.2.1; have := HB2.out.size; omega) HB5.out.size)); clear hH6 hf6 hq)
    | (go_at_call 16; refine (Apply_new HH4.out HH4.out.fb (by omega) (by omega) a4 k4 (encCm c0) HR4.out (by have := len0; omega) HK4.out.1 HK4.out.2 c0 rd0 (by decide) (by decide) lk0.1 lk0.2 r1 _ ⟨rfl, rfl, rfl⟩ (by decide) HDO.out HT4.out).mono ?_; rintro e5 w5 ⟨da, dc, ys, F5, rfl, hys5, hH5, hF5, hf5⟩; have hq : Sc.noteL [] c0.client c0.num r1 = [⟨1, 1, r1⟩] := nt0; rw [hq, mx0, show (0 : Int) + 1 = 1 from rfl] at hH5; rw [mx0]; have HH5 := mkH hH5; have HR5 := mkH (row_fr3 HR4.out hf5 HH4.out); have HB5 := mkH (HB4.out.trans (hf5.below (fun k hk => by have h9 := HN3.out; have h8 := tm_new HH4.out; have h7 := HN3.out.2.2 Tm h8; have := HB2.out.size; omega) HB4.out.size)); clear hH5 hf5 hq hF5))
  have y1 := HY1.out.cell 22 (.int .i64 1) rfl
  have y2 := HY1.out.cell 27 (.bool true) rfl
  have y3 := HY2.out.cell 22 (.int .i64 1) rfl
  have y4 := HY2.out.cell 27 (.bool false) rfl
  have y5 := HY2.out.cell 0 (.int .i64 1) rfl
  generalize hV8 : V7.setRow (w6.heap.size + 1) _ = V8 at *
  clear hV8
  go_wp2_with (go_at_call 26; refine (now_yes HHY.out.bx).mono ?_; rintro e9 w9 ⟨rfl, h9⟩; have h8 := h9.symm; clear h9; subst h8)
  go_ret
  exact ⟨rfl, HBY.out⟩
end Go.Proofs.YtgbbajeeelgbhaaGreatDoor.Hw

namespace Go.Proofs.YtgbbajeeelgbhaaGreatDoor.Wn
open Go.RowKit Kt Pl Wi Wk We
open At (RowT)
set_option linter.unusedVariables false
set_option linter.unusedSimpArgs false
set_option maxRecDepth 20000

theorem S_inj {a b : Bs} (h : S a = S b) : a = b := by have := congrArg (fun s => s.data.toList) h; exact this
theorem take_eq_succ {l m : List Bs} {k : Nat} {x y : Bs} (hx : l[k]? = some x) (hy : m[k]? = some y) (h : l.take k = m.take k) (e : x = y) : l.take (k + 1) = m.take (k + 1) := by
  rw [List.take_add_one, List.take_add_one, hx, hy, h, e]
theorem ne_of_at {l m : List Bs} {k : Nat} {x y : Bs} (hx : l[k]? = some x) (hy : m[k]? = some y) (e : x ≠ y) : l ≠ m := fun h => e (by rw [h, hy] at hx; exact (Option.some.inj hx).symm)

set_option maxHeartbeats 2000000 in
theorem sameTexts_any (w : World) (ao bo : Option Addr) (acap bcap : Nat) (l m : List Bs) (hl : RowT w ao l) (hm : RowT w bo m) (h1 : l.length ≤ 1000000) (h2 : m.length ≤ 1000000) :
    Calls Tryz.prog 23 #[.slice ao l.length acap, .slice bo m.length bcap] w fun e w' => e = .returned (.bool (decide (l = m))) ∧ Gr w w' := by
  by_cases hlen : l.length = m.length
  · have c1 : ((l.length : Int) == (m.length : Int)) = true := by simp [hlen]
    have HLM := mkH hlen
    clear hlen
    go_enter Tryz.func23, Tryz.ntmps23
    go_wp2
    clear c1
    go_loopw [5] (fun i wr => ∃ k : Nat, k ≤ l.length ∧ i = .int .i64 k ∧ Hid (l.take k = m.take k) ∧ Hid (Gr w wr)) (fun i _ => l.length - (intOf i).toNat)
    case atStart => exact ⟨0, Nat.zero_le _, rfl, mkH (by simp), mkH (Gr.refl _)⟩
    case round =>
      obtain ⟨k, hk, rfl, HT, HG⟩ := hrel
      by_cases hlt : k < l.length
      · have hlt2 : k < m.length := by have := HLM.out; omega
        obtain ⟨b, off, hao, hcl⟩ := (RowT.gr hl HG.out) (by omega)
        obtain ⟨b2, off2, hbo, hcm⟩ := (RowT.gr hm HG.out) (by omega)
        obtain ⟨x, hx⟩ : ∃ x, l[k]? = some x := ⟨_, List.getElem?_eq_getElem hlt⟩
        obtain ⟨y, hy⟩ : ∃ y, m[k]? = some y := ⟨_, List.getElem?_eq_getElem hlt2⟩
        have hck : ∀ n, (wr.drewN n).cell? ⟨b, off + k, none⟩ = some (.string (S x)) := fun n => by have := hcl k hlt; rw [getD_of hx] at this; exact this
        have hcm2 : ∀ n, (wr.drewN n).cell? ⟨b2, off2 + k, none⟩ = some (.string (S y)) := fun n => by have := hcm k hlt2; rw [getD_of hy] at this; exact this
        subst hao hbo
        have i1 : (k : Int) < (l.length : Int) := by omega
        have i2 : (k : Int) < (m.length : Int) := by omega
        have i0 : (0 : Int) ≤ (k : Int) := by omega
        have HX := mkH hx
        have HY := mkH hy
        clear hcl hcm hx hy hl hm hlt2
        by_cases hxy : x = y
        · have HN := mkH (take_eq_succ HX.out HY.out HT.out hxy)
          subst hxy
          clear HT HX HY
          go_wp2_with fail
          go_quiet (fail)
          have HG2 := mkH (HG.out.drewN nq)
          clear hck hcm2 HG
          go_wp2
          go_roundw
          case rel => exact ⟨k + 1, by omega, by go_num, HN, HG2⟩
          case measure => simp [intOf]; omega
        · have HN := mkH (ne_of_at HX.out HY.out hxy)
          have q1 : ((S x).toList == (S y).toList) = false := by rw [S_toList, S_toList]; simpa using hxy
          clear hxy HT HX HY
          go_wp2_with fail
          go_quiet (fail)
          have HG2 := mkH (HG.out.drewN nq)
          clear hck hcm2 HG
          go_wp2
          go_ret
          exact ⟨ret_bool (by simpa using HN.out), HG2.out⟩
      · have HN : Hid (l = m) := mkH (by have := HT.out; rwa [List.take_of_length_le (by omega), List.take_of_length_le (by have := HLM.out; omega)] at this)
        clear HT
        go_wp2
        go_ret
        exact ⟨ret_bool (by simpa using HN.out), HG.out⟩
  · have c1 : ((l.length : Int) == (m.length : Int)) = false := by simp; omega
    have HN : Hid (l ≠ m) := mkH (fun h => hlen (by rw [h]))
    clear hlen hl hm
    go_enter Tryz.func23, Tryz.ntmps23
    go_wp2
    go_ret
    exact ⟨ret_bool (by simpa using HN.out), Gr.refl _⟩

theorem eqlRc (a b : Rcp) (w : World) : Sem.run Tryz.prog (binOp .eql 35 (.agg #[.int .i64 a.q, .string (S a.g), .int .i64 a.s, .int .i64 a.c]) (.agg #[.int .i64 b.q, .string (S b.g), .int .i64 b.s, .int .i64 b.c])) w = .ok (.bool (decide (a.q = b.q ∧ a.g = b.g ∧ a.s = b.s ∧ a.c = b.c))) w := by
  have u3 := Tryz.underlying3
  have a3 := Tryz.isAgg3
  have z3 := Tryz.sizeOf3
  have u9 := Tryz.underlying9
  have a9 := Tryz.isAgg9
  have z9 := Tryz.sizeOf9
  have hS : Tryz.prog.underlying 35 = some (.struct (Tryz.prog.fieldsOf 35)) := by kernel_rfl
  have hp : Tryz.prog.stoodInHeld 35 = false := by kernel_rfl
  rw [run_eql_struct, show (10000 : Nat) = 9999 + 1 from rfl, run_equalIn_agg w 9999 35 _ _ hS hp]
  simp only [Program.fieldsOf, Tryz.underlying35]
  have hg : ((S a.g).toList == (S b.g).toList) = decide (a.g = b.g) := by rw [S_toList, S_toList, Bool.eq_iff_iff]; simp
  by_cases h1 : a.q = b.q <;> by_cases h2 : a.g = b.g <;> by_cases h3 : a.s = b.s <;> by_cases h4 : a.c = b.c
  all_goals
    simp only [h1, h2, h3, h4, decide_true, decide_false] at hg ⊢
    go_simp
    try simp

theorem guardRc (op : BinOp) (x y : Operand) (a b : Array Value) (w : World) : Sem.run Tryz.prog (eqGuard op 35 x y (.agg a) (.agg b)) w = .ok () w :=
  run_eqGuard_agg w op 35 x y _ _ (by kernel_rfl)
end Go.Proofs.YtgbbajeeelgbhaaGreatDoor.Wn

namespace Go.Proofs.YtgbbajeeelgbhaaGreatDoor.Wn
open Go.RowKit Kt Pl Wi Wk We Wf
open At (RowT)
set_option linter.unusedVariables false
set_option linter.unusedSimpArgs false
set_option maxRecDepth 20000

/-- What a comparison hands back. -/
def Tells (w : World) (b : Bool) (e : Ending) (w' : World) : Prop := e = .returned (.bool b) ∧ Gr w w'
end Go.Proofs.YtgbbajeeelgbhaaGreatDoor.Wn

namespace Go.Proofs.YtgbbajeeelgbhaaGreatDoor.Wn
open Go.RowKit Kt Pl Wi Wk We Wf
open At (RowT)
set_option linter.unusedVariables false
set_option linter.unusedSimpArgs false
set_option maxRecDepth 20000
end Go.Proofs.YtgbbajeeelgbhaaGreatDoor.Wn

namespace Go.Proofs.YtgbbajeeelgbhaaGreatDoor.Wn
open Go.RowKit Kt Pl Wi Wk We Wf
open At (RowT)
set_option linter.unusedVariables false
set_option linter.unusedSimpArgs false
set_option maxRecDepth 20000
end Go.Proofs.YtgbbajeeelgbhaaGreatDoor.Wn

namespace Go.Proofs.YtgbbajeeelgbhaaGreatDoor.Wn
open Go.RowKit Kt Pl Wi Wk We Wf
open At (RowT)
set_option linter.unusedVariables false
set_option linter.unusedSimpArgs false
set_option maxRecDepth 20000
end Go.Proofs.YtgbbajeeelgbhaaGreatDoor.Wn

namespace Go.Proofs.YtgbbajeeelgbhaaGreatDoor.Wn
open Go.RowKit Kt Pl Wi Wk We Wf
open At (RowT)
set_option linter.unusedVariables false
set_option linter.unusedSimpArgs false
set_option maxRecDepth 20000
end Go.Proofs.YtgbbajeeelgbhaaGreatDoor.Wn

namespace Go.Proofs.YtgbbajeeelgbhaaGreatDoor.Wn
open Go.RowKit Kt Pl Wi Wk We Wf
open At (RowT)
set_option linter.unusedVariables false
set_option linter.unusedSimpArgs false
set_option maxRecDepth 20000

set_option maxHeartbeats 4000000 in
theorem rsame_0 (w : World) (a b : Cm) (ao bo : Option Addr) (acap bcap : Nat) (hl : RowT w ao a.data) (hm : RowT w bo b.data) (h1 : a.data.length ≤ 1000000) (h2 : b.data.length ≤ 1000000) (hd : a.data = b.data) (t0 : (a.kind == b.kind) = false) :
    Calls Tryz.prog 49 #[.agg (Cv a (.slice ao a.data.length acap)), .agg (Cv b (.slice bo b.data.length bcap))] w fun e w' => Tells w false e w' := by
  obtain ⟨k0, k1, k2, k3, k4, k5, k6, k7, k8, k9, k10, k11, k12, k13, k14, k15, k16, k17, k18⟩ := Cv_at a (.slice ao a.data.length acap)
  obtain ⟨j0, j1, j2, j3, j4, j5, j6, j7, j8, j9, j10, j11, j12, j13, j14, j15, j16, j17, j18⟩ := Cv_at b (.slice bo b.data.length bcap)
  have HG := mkH (((Gr.refl w).alloc (.cells (Cv a (.slice ao a.data.length acap)) 39)).alloc (.cells (Cv b (.slice bo b.data.length bcap)) 39))
  have hA := ((Bx.new w (Cv a (.slice ao a.data.length acap)) 39).alloc (.cells (Cv b (.slice bo b.data.length bcap)) 39)).cell
  have hB : ∀ k, ((w.alloc (.cells (Cv a (.slice ao a.data.length acap)) 39)).alloc (.cells (Cv b (.slice bo b.data.length bcap)) 39)).cell? ⟨w.heap.size + 1, k, none⟩ = (Cv b (.slice bo b.data.length bcap))[k]? := fun k => by
    have := (Bx.new (w.alloc (.cells (Cv a (.slice ao a.data.length acap)) 39)) (Cv b (.slice bo b.data.length bcap)) 39).cell k
    rwa [show (w.alloc (.cells (Cv a (.slice ao a.data.length acap)) 39)).heap.size = w.heap.size + 1 by simp] at this
  have HE := sameTexts_any _ ao bo acap bcap a.data b.data (RowT.gr hl HG.out) (RowT.gr hm HG.out) h1 h2
  rw [decide_eq_true hd] at HE
  have HA := mkH ((Bx.new w (Cv a (.slice ao a.data.length acap)) 39).alloc (.cells (Cv b (.slice bo b.data.length bcap)) 39))
  have HB : Hid (Bx ((w.alloc (.cells (Cv a (.slice ao a.data.length acap)) 39)).alloc (.cells (Cv b (.slice bo b.data.length bcap)) 39)) (w.heap.size + 1) (Cv b (.slice bo b.data.length bcap)) 39) := mkH (by have := Bx.new (w.alloc (.cells (Cv a (.slice ao a.data.length acap)) 39)) (Cv b (.slice bo b.data.length bcap)) 39; rwa [show (w.alloc (.cells (Cv a (.slice ao a.data.length acap)) 39)).heap.size = w.heap.size + 1 by simp] at this)
  generalize Cv a (.slice ao a.data.length acap) = A at *
  generalize Cv b (.slice bo b.data.length bcap) = B at *
  have q1 := guardRc
  have q2 := guardR
  clear hl hm h1 h2 hd
  go_enter Tryz.func49, Tryz.ntmps49
  go_wp2_with fail
  refine HE.mono ?_
  rintro e w1 ⟨rfl, hg⟩
  have hA := (HA.out.gr hg).cell
  have hB := (HB.out.gr hg).cell
  have HG2 := mkH (HG.out.trans hg)
  clear hg HE HA HB HG
  generalize w.heap.size + 1 = B1 at hB ⊢
  generalize w.heap.size = B0 at hA ⊢
  go_wp2
  go_ret
  exact ⟨rfl, HG2.out⟩

set_option maxHeartbeats 4000000 in
theorem rsame_1 (w : World) (a b : Cm) (ao bo : Option Addr) (acap bcap : Nat) (hl : RowT w ao a.data) (hm : RowT w bo b.data) (h1 : a.data.length ≤ 1000000) (h2 : b.data.length ≤ 1000000) (hd : a.data = b.data) (t0 : (a.kind == b.kind) = true) (t1 : (a.client == b.client) = false) :
    Calls Tryz.prog 49 #[.agg (Cv a (.slice ao a.data.length acap)), .agg (Cv b (.slice bo b.data.length bcap))] w fun e w' => Tells w false e w' := by
  obtain ⟨k0, k1, k2, k3, k4, k5, k6, k7, k8, k9, k10, k11, k12, k13, k14, k15, k16, k17, k18⟩ := Cv_at a (.slice ao a.data.length acap)
  obtain ⟨j0, j1, j2, j3, j4, j5, j6, j7, j8, j9, j10, j11, j12, j13, j14, j15, j16, j17, j18⟩ := Cv_at b (.slice bo b.data.length bcap)
  have HG := mkH (((Gr.refl w).alloc (.cells (Cv a (.slice ao a.data.length acap)) 39)).alloc (.cells (Cv b (.slice bo b.data.length bcap)) 39))
  have hA := ((Bx.new w (Cv a (.slice ao a.data.length acap)) 39).alloc (.cells (Cv b (.slice bo b.data.length bcap)) 39)).cell
  have hB : ∀ k, ((w.alloc (.cells (Cv a (.slice ao a.data.length acap)) 39)).alloc (.cells (Cv b (.slice bo b.data.length bcap)) 39)).cell? ⟨w.heap.size + 1, k, none⟩ = (Cv b (.slice bo b.data.length bcap))[k]? := fun k => by
    have := (Bx.new (w.alloc (.cells (Cv a (.slice ao a.data.length acap)) 39)) (Cv b (.slice bo b.data.length bcap)) 39).cell k
    rwa [show (w.alloc (.cells (Cv a (.slice ao a.data.length acap)) 39)).heap.size = w.heap.size + 1 by simp] at this
  have HE := sameTexts_any _ ao bo acap bcap a.data b.data (RowT.gr hl HG.out) (RowT.gr hm HG.out) h1 h2
  rw [decide_eq_true hd] at HE
  have HA := mkH ((Bx.new w (Cv a (.slice ao a.data.length acap)) 39).alloc (.cells (Cv b (.slice bo b.data.length bcap)) 39))
  have HB : Hid (Bx ((w.alloc (.cells (Cv a (.slice ao a.data.length acap)) 39)).alloc (.cells (Cv b (.slice bo b.data.length bcap)) 39)) (w.heap.size + 1) (Cv b (.slice bo b.data.length bcap)) 39) := mkH (by have := Bx.new (w.alloc (.cells (Cv a (.slice ao a.data.length acap)) 39)) (Cv b (.slice bo b.data.length bcap)) 39; rwa [show (w.alloc (.cells (Cv a (.slice ao a.data.length acap)) 39)).heap.size = w.heap.size + 1 by simp] at this)
  generalize Cv a (.slice ao a.data.length acap) = A at *
  generalize Cv b (.slice bo b.data.length bcap) = B at *
  have q1 := guardRc
  have q2 := guardR
  clear hl hm h1 h2 hd
  go_enter Tryz.func49, Tryz.ntmps49
  go_wp2_with fail
  refine HE.mono ?_
  rintro e w1 ⟨rfl, hg⟩
  have hA := (HA.out.gr hg).cell
  have hB := (HB.out.gr hg).cell
  have HG2 := mkH (HG.out.trans hg)
  clear hg HE HA HB HG
  generalize w.heap.size + 1 = B1 at hB ⊢
  generalize w.heap.size = B0 at hA ⊢
  go_wp2
  go_ret
  exact ⟨rfl, HG2.out⟩

set_option maxHeartbeats 4000000 in
theorem rsame_2 (w : World) (a b : Cm) (ao bo : Option Addr) (acap bcap : Nat) (hl : RowT w ao a.data) (hm : RowT w bo b.data) (h1 : a.data.length ≤ 1000000) (h2 : b.data.length ≤ 1000000) (hd : a.data = b.data) (t0 : (a.kind == b.kind) = true) (t1 : (a.client == b.client) = true) (t2 : (a.num == b.num) = false) :
    Calls Tryz.prog 49 #[.agg (Cv a (.slice ao a.data.length acap)), .agg (Cv b (.slice bo b.data.length bcap))] w fun e w' => Tells w false e w' := by
  obtain ⟨k0, k1, k2, k3, k4, k5, k6, k7, k8, k9, k10, k11, k12, k13, k14, k15, k16, k17, k18⟩ := Cv_at a (.slice ao a.data.length acap)
  obtain ⟨j0, j1, j2, j3, j4, j5, j6, j7, j8, j9, j10, j11, j12, j13, j14, j15, j16, j17, j18⟩ := Cv_at b (.slice bo b.data.length bcap)
  have HG := mkH (((Gr.refl w).alloc (.cells (Cv a (.slice ao a.data.length acap)) 39)).alloc (.cells (Cv b (.slice bo b.data.length bcap)) 39))
  have hA := ((Bx.new w (Cv a (.slice ao a.data.length acap)) 39).alloc (.cells (Cv b (.slice bo b.data.length bcap)) 39)).cell
  have hB : ∀ k, ((w.alloc (.cells (Cv a (.slice ao a.data.length acap)) 39)).alloc (.cells (Cv b (.slice bo b.data.length bcap)) 39)).cell? ⟨w.heap.size + 1, k, none⟩ = (Cv b (.slice bo b.data.length bcap))[k]? := fun k => by
    have := (Bx.new (w.alloc (.cells (Cv a (.slice ao a.data.length acap)) 39)) (Cv b (.slice bo b.data.length bcap)) 39).cell k
    rwa [show (w.alloc (.cells (Cv a (.slice ao a.data.length acap)) 39)).heap.size = w.heap.size + 1 by simp] at this
  have HE := sameTexts_any _ ao bo acap bcap a.data b.data (RowT.gr hl HG.out) (RowT.gr hm HG.out) h1 h2
  rw [decide_eq_true hd] at HE
  have HA := mkH ((Bx.new w (Cv a (.slice ao a.data.length acap)) 39).alloc (.cells (Cv b (.slice bo b.data.length bcap)) 39))
  have HB : Hid (Bx ((w.alloc (.cells (Cv a (.slice ao a.data.length acap)) 39)).alloc (.cells (Cv b (.slice bo b.data.length bcap)) 39)) (w.heap.size + 1) (Cv b (.slice bo b.data.length bcap)) 39) := mkH (by have := Bx.new (w.alloc (.cells (Cv a (.slice ao a.data.length acap)) 39)) (Cv b (.slice bo b.data.length bcap)) 39; rwa [show (w.alloc (.cells (Cv a (.slice ao a.data.length acap)) 39)).heap.size = w.heap.size + 1 by simp] at this)
  generalize Cv a (.slice ao a.data.length acap) = A at *
  generalize Cv b (.slice bo b.data.length bcap) = B at *
  have q1 := guardRc
  have q2 := guardR
  clear hl hm h1 h2 hd
  go_enter Tryz.func49, Tryz.ntmps49
  go_wp2_with fail
  refine HE.mono ?_
  rintro e w1 ⟨rfl, hg⟩
  have hA := (HA.out.gr hg).cell
  have hB := (HB.out.gr hg).cell
  have HG2 := mkH (HG.out.trans hg)
  clear hg HE HA HB HG
  generalize w.heap.size + 1 = B1 at hB ⊢
  generalize w.heap.size = B0 at hA ⊢
  go_wp2
  go_ret
  exact ⟨rfl, HG2.out⟩

set_option maxHeartbeats 4000000 in
theorem rsame_3 (w : World) (a b : Cm) (ao bo : Option Addr) (acap bcap : Nat) (hl : RowT w ao a.data) (hm : RowT w bo b.data) (h1 : a.data.length ≤ 1000000) (h2 : b.data.length ≤ 1000000) (hd : a.data = b.data) (t0 : (a.kind == b.kind) = true) (t1 : (a.client == b.client) = true) (t2 : (a.num == b.num) = true) (t3 : (a.time == b.time) = false) :
    Calls Tryz.prog 49 #[.agg (Cv a (.slice ao a.data.length acap)), .agg (Cv b (.slice bo b.data.length bcap))] w fun e w' => Tells w false e w' := by
  obtain ⟨k0, k1, k2, k3, k4, k5, k6, k7, k8, k9, k10, k11, k12, k13, k14, k15, k16, k17, k18⟩ := Cv_at a (.slice ao a.data.length acap)
  obtain ⟨j0, j1, j2, j3, j4, j5, j6, j7, j8, j9, j10, j11, j12, j13, j14, j15, j16, j17, j18⟩ := Cv_at b (.slice bo b.data.length bcap)
  have HG := mkH (((Gr.refl w).alloc (.cells (Cv a (.slice ao a.data.length acap)) 39)).alloc (.cells (Cv b (.slice bo b.data.length bcap)) 39))
  have hA := ((Bx.new w (Cv a (.slice ao a.data.length acap)) 39).alloc (.cells (Cv b (.slice bo b.data.length bcap)) 39)).cell
  have hB : ∀ k, ((w.alloc (.cells (Cv a (.slice ao a.data.length acap)) 39)).alloc (.cells (Cv b (.slice bo b.data.length bcap)) 39)).cell? ⟨w.heap.size + 1, k, none⟩ = (Cv b (.slice bo b.data.length bcap))[k]? := fun k => by
    have := (Bx.new (w.alloc (.cells (Cv a (.slice ao a.data.length acap)) 39)) (Cv b (.slice bo b.data.length bcap)) 39).cell k
    rwa [show (w.alloc (.cells (Cv a (.slice ao a.data.length acap)) 39)).heap.size = w.heap.size + 1 by simp] at this
  have HE := sameTexts_any _ ao bo acap bcap a.data b.data (RowT.gr hl HG.out) (RowT.gr hm HG.out) h1 h2
  rw [decide_eq_true hd] at HE
  have HA := mkH ((Bx.new w (Cv a (.slice ao a.data.length acap)) 39).alloc (.cells (Cv b (.slice bo b.data.length bcap)) 39))
  have HB : Hid (Bx ((w.alloc (.cells (Cv a (.slice ao a.data.length acap)) 39)).alloc (.cells (Cv b (.slice bo b.data.length bcap)) 39)) (w.heap.size + 1) (Cv b (.slice bo b.data.length bcap)) 39) := mkH (by have := Bx.new (w.alloc (.cells (Cv a (.slice ao a.data.length acap)) 39)) (Cv b (.slice bo b.data.length bcap)) 39; rwa [show (w.alloc (.cells (Cv a (.slice ao a.data.length acap)) 39)).heap.size = w.heap.size + 1 by simp] at this)
  generalize Cv a (.slice ao a.data.length acap) = A at *
  generalize Cv b (.slice bo b.data.length bcap) = B at *
  have q1 := guardRc
  have q2 := guardR
  clear hl hm h1 h2 hd
  go_enter Tryz.func49, Tryz.ntmps49
  go_wp2_with fail
  refine HE.mono ?_
  rintro e w1 ⟨rfl, hg⟩
  have hA := (HA.out.gr hg).cell
  have hB := (HB.out.gr hg).cell
  have HG2 := mkH (HG.out.trans hg)
  clear hg HE HA HB HG
  generalize w.heap.size + 1 = B1 at hB ⊢
  generalize w.heap.size = B0 at hA ⊢
  go_wp2
  go_ret
  exact ⟨rfl, HG2.out⟩

set_option maxHeartbeats 4000000 in
theorem rsame_d (w : World) (a b : Cm) (ao bo : Option Addr) (acap bcap : Nat) (hl : RowT w ao a.data) (hm : RowT w bo b.data) (h1 : a.data.length ≤ 1000000) (h2 : b.data.length ≤ 1000000) (hd : a.data ≠ b.data) :
    Calls Tryz.prog 49 #[.agg (Cv a (.slice ao a.data.length acap)), .agg (Cv b (.slice bo b.data.length bcap))] w fun e w' => Tells w false e w' := by
  obtain ⟨k0, k1, k2, k3, k4, k5, k6, k7, k8, k9, k10, k11, k12, k13, k14, k15, k16, k17, k18⟩ := Cv_at a (.slice ao a.data.length acap)
  obtain ⟨j0, j1, j2, j3, j4, j5, j6, j7, j8, j9, j10, j11, j12, j13, j14, j15, j16, j17, j18⟩ := Cv_at b (.slice bo b.data.length bcap)
  have HG := mkH (((Gr.refl w).alloc (.cells (Cv a (.slice ao a.data.length acap)) 39)).alloc (.cells (Cv b (.slice bo b.data.length bcap)) 39))
  have hA := ((Bx.new w (Cv a (.slice ao a.data.length acap)) 39).alloc (.cells (Cv b (.slice bo b.data.length bcap)) 39)).cell
  have hB : ∀ k, ((w.alloc (.cells (Cv a (.slice ao a.data.length acap)) 39)).alloc (.cells (Cv b (.slice bo b.data.length bcap)) 39)).cell? ⟨w.heap.size + 1, k, none⟩ = (Cv b (.slice bo b.data.length bcap))[k]? := fun k => by
    have := (Bx.new (w.alloc (.cells (Cv a (.slice ao a.data.length acap)) 39)) (Cv b (.slice bo b.data.length bcap)) 39).cell k
    rwa [show (w.alloc (.cells (Cv a (.slice ao a.data.length acap)) 39)).heap.size = w.heap.size + 1 by simp] at this
  have HE := sameTexts_any _ ao bo acap bcap a.data b.data (RowT.gr hl HG.out) (RowT.gr hm HG.out) h1 h2
  rw [decide_eq_false hd] at HE
  generalize Cv a (.slice ao a.data.length acap) = A at *
  generalize Cv b (.slice bo b.data.length bcap) = B at *
  have q1 := guardRc
  have q2 := guardR
  clear hl hm h1 h2 hd
  go_enter Tryz.func49, Tryz.ntmps49
  go_wp2_with fail
  refine HE.mono ?_
  rintro e w1 ⟨rfl, hg⟩
  have HG2 := mkH (HG.out.trans hg)
  clear hg HE HG
  go_wp2
  go_ret
  exact ⟨rfl, HG2.out⟩
end Go.Proofs.YtgbbajeeelgbhaaGreatDoor.Wn
