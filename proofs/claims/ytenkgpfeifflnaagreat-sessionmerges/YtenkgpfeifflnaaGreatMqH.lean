/-
  WiGR, joined by mrg.py.
-/
import Derived.Test.YtenkgpfeifflnaaGreatWiA3

namespace Go.Proofs.YtenkgpfeifflnaaGreat.Wgr
open Go.RowKit Kt Pl Wi Wk Wc Wd We Wx Wy Wf Wa
open At (RowT)
set_option linter.unusedVariables false
set_option linter.unusedSimpArgs false
set_option maxRecDepth 20000

/-- What makes a reply too long, less its deliveries. -/
def lng (r : Rp) : Bool := decide (1024 < r.got.length) || (decide (1024 < r.about.length) || !dataB r.data)
theorem two_of {r : Rp} (h : rightR r = false) : checkR r = 2 := by unfold checkR judge; rw [h]; rfl
theorem short_lng (r : Rp) : shortR r = !(lng r || !r.got.all shortG) := by
  rw [shortR_all]
  unfold lng
  by_cases h1 : r.got.length ≤ 1024 <;> by_cases h2 : r.about.length ≤ 1024 <;> cases h3 : dataB r.data <;> cases h4 : r.got.all shortG <;> simp [h1, h2] <;> omega

set_option maxHeartbeats 16000000 in
theorem rcheckReply_any (w : World) (r : Rp) (ga : Option Addr) (gc : Nat) (da : Option Addr) (dc : Nat) (ra : Option Addr) (rc : Nat) (hm : RpM w r ga da ra) (hc : Cnt r) :
    Calls Tryz.prog 25 #[.agg (Pv r ga gc da dc ra rc)] w fun e w' => e = .returned (.int .i64 (checkR r : Int)) ∧ Gr w w' := by
  obtain ⟨k0, k1, k2, k3, k4, k5⟩ := Pv_at r ga gc da dc ra rc
  have HB := mkH (Bx.new w (Pv r ga gc da dc ra rc) 34)
  have HG0 := mkH ((Gr.refl w).alloc (.cells (Pv r ga gc da dc ra rc) 34))
  have HM := mkH (hm.gr HG0.out)
  have HLong := mkH (fun W q => longData_any W da dc r.data q hc.2.1)
  have hc1 := hc.1
  have hc2 := hc.2.2
  clear hm hc
  generalize Pv r ga gc da dc ra rc = C at *
  have HE := mkH (rightR_all r)
  have H1 := fun W => rnum_any W r.seq
  have H2 := fun W => rnum_any W r.n
  by_cases e1 : r.err < 0
  · have HX : Hid (checkR r = 2) := mkH (two_of (by rw [HE.out]; simp [upToB]; intro h; omega))
    go_enter Tryz.func25, Tryz.ntmps25
    go_wp2
    go_ret
    exact ⟨by rw [HX.out]; rfl, HG0.out⟩
  by_cases e2 : 255 < r.err
  · have HX : Hid (checkR r = 2) := mkH (two_of (by rw [HE.out]; simp [upToB]; intro h; omega))
    go_enter Tryz.func25, Tryz.ntmps25
    go_wp2
    go_ret
    exact ⟨by rw [HX.out]; rfl, HG0.out⟩
  have HE1 : Hid (rightR r = ((numB r.seq && numB r.n) && (r.got.all rightG && r.about.all fun x => mayB x.1 x.2))) := mkH (by unfold rightR; rw [show upToB 255 r.err = true by simp [upToB]; omega]; simp)
  clear HE
  generalize hb1 : numB r.seq = b1 at *
  generalize hb2 : numB r.n = b2 at *
  clear hb1 hb2
  obtain ⟨W0, hW0⟩ : ∃ W0, W0 = w.alloc (.cells C 34) := ⟨_, rfl⟩
  rw [← hW0] at HG0 HM
  have HBC := mkH (hW0 ▸ HB.out)
  have hq1 : ∀ k, W0.cell? ⟨w.heap.size, k, none⟩ = C[k]? := HBC.out.cell
  have HW0 := mkH hW0
  clear HB hW0
  go_enter Tryz.func25, Tryz.ntmps25
  go_wp2_with fail
  rw [← HW0.out]
  clear HW0
  refine (H1 _).mono ?_
  rintro e w1 ⟨rfl, rfl⟩
  cases b1
  · have HX : Hid (checkR r = 2) := mkH (two_of (by rw [HE1.out]; simp))
    go_wp2
    go_ret
    exact ⟨by rw [HX.out]; rfl, HG0.out⟩
  go_wp2_with fail
  refine (H2 _).mono ?_
  rintro e w1 ⟨rfl, rfl⟩
  cases b2
  · have HX : Hid (checkR r = 2) := mkH (two_of (by rw [HE1.out]; simp))
    go_wp2
    go_ret
    exact ⟨by rw [HX.out]; rfl, HG0.out⟩
  clear H1 H2 e1 e2
  have HE2 : Hid (rightR r = (r.got.all rightG && r.about.all fun x => mayB x.1 x.2)) := mkH (by rw [HE1.out]; simp)
  clear HE1
  have hcases : (1024 < r.got.length ∧ Hid (lng r = true)) ∨ (r.got.length ≤ 1024 ∧ 1024 < r.about.length ∧ Hid (lng r = true)) ∨ (r.got.length ≤ 1024 ∧ r.about.length ≤ 1024 ∧ Hid (lng r = !dataB r.data)) := by
    unfold lng
    by_cases h1 : 1024 < r.got.length
    · left; exact ⟨h1, mkH (by simp [h1])⟩
    · right
      by_cases h2 : 1024 < r.about.length
      · left; exact ⟨by omega, h2, mkH (by simp [h2])⟩
      · right; exact ⟨by omega, by omega, mkH (by simp [h1, h2])⟩
  rcases hcases with ⟨h1, HL⟩ | ⟨h1, h2, HL⟩ | ⟨h1, h2, HL⟩
  · go_wp2
    go_loopw [3, 4, 5] (fun v3 i _ wr => ∃ (k : Nat) (b : Bool), k ≤ r.got.length ∧ i = .int .i64 k ∧ v3 = .bool b ∧ Hid (b = (lng r || !(r.got.take k).all shortG)) ∧ Hid ((r.got.take k).all rightG = true) ∧ Hid (Gr w1 wr)) (fun _ i _ _ => r.got.length - (intOf i).toNat)
    case atStart => exact ⟨0, _, Nat.zero_le _, rfl, rfl, mkH (by rw [HL.out]; simp <;> (intro h; omega)), mkH (by simp), mkH (Gr.refl _)⟩
    case round =>
      obtain ⟨k, b, hk, rfl, rfl, HLb, HRk, HG⟩ := hrel
      have hq5 : ∀ k, wr.cell? ⟨w.heap.size, k, none⟩ = C[k]? := (HBC.out.gr HG.out).cell
      by_cases hlt : k < r.got.length
      · obtain ⟨bb, off, hao, hcl⟩ := RowS.gr HM.out.got HG.out (by omega)
        obtain ⟨x, hx⟩ := some_of hlt
        have HLD := mkH (load_got (hcl k x hx))
        subst hao
        have HX := mkH hx
        have HONE := mkH (all1 _ (gC_one x))
        have HI : Hid ((Tryz.prog.info? 43).map (·.size) = some (Gv x).size) := mkH infoG
        have g0 : (Gv x)[0]? = some (.int .i64 x.rc.q) := rfl
        have g1 : (Gv x)[1]? = some (.string (S x.rc.g)) := rfl
        have g2 : (Gv x)[2]? = some (.int .i64 x.rc.s) := rfl
        have g3 : (Gv x)[3]? = some (.int .i64 x.rc.c) := rfl
        have g4 : (Gv x)[4]? = some (.string (S x.body)) := rfl
        have g5 : (Gv x)[5]? = some (.int .i64 x.sent) := rfl
        generalize hGq : Gv x = G at *
        have HONE : Hid (G.all (fun x => x.oneCell') = true) := mkH (hGq ▸ HONE.out)
        have hGs : G.size = 6 := by rw [← hGq]; rfl
        have HSZ : Hid ((#[.int .i64 0, .string ⟨#[]⟩, .int .i64 0, .int .i64 0, .string ⟨#[]⟩, .int .i64 0] : Array Value).size = G.size) := mkH (by rw [hGs]; rfl)
        have HR1 := fun W => rreceipt_any W x.rc
        have HN1 := fun W => rnum_any W x.sent
        have HRG : Hid (rightG x = (rcB x.rc && numB x.sent)) := mkH rfl
        generalize rcB x.rc = c1 at *
        generalize numB x.sent = c2 at *
        clear hcl hx hGq hGs
        go_wp2_with (first
          | (refine wpList_ld (ty := 43) (x := .tmp 52) rfl rfl rfl HLD.out ?_)
          | (refine wpList_stn (x := .tmp 5) (y := .tmp 53) rfl rfl rfl rfl HI.out HSZ.out HONE.out ?_; intro W2 hB2 hG2; have HB2 := mkH hB2; have hq6 : ∀ k, W2.cell? ⟨wr.heap.size, k, none⟩ = G[k]? := hB2.cell; have HG2 := mkH (HG.out.trans hG2); clear hB2 hG2))
        refine (HR1 _).mono ?_
        rintro e w3 ⟨rfl, hg3⟩
        have hq7 : ∀ k, w3.cell? ⟨wr.heap.size, k, none⟩ = G[k]? := (HB2.out.gr hg3).cell
        have HG3 := mkH (HG2.out.trans hg3)
        clear hg3 hq6 HG2 HR1 HB2
        cases c1
        · have HX2 : Hid (checkR r = 2) := mkH (two_of (by rw [HE2.out, all_false HX.out (by rw [HRG.out]; rfl)]; simp))
          go_wp2
          go_ret
          exact ⟨by rw [HX2.out]; rfl, HG0.out.trans HG3.out⟩
        go_wp2_with fail
        refine (HN1 _).mono ?_
        rintro e w4 ⟨rfl, rfl⟩
        clear HN1
        cases c2
        · have HX2 : Hid (checkR r = 2) := mkH (two_of (by rw [HE2.out, all_false HX.out (by rw [HRG.out]; rfl)]; simp))
          go_wp2
          go_ret
          exact ⟨by rw [HX2.out]; rfl, HG0.out.trans HG3.out⟩
        have HRk1 : Hid ((r.got.take (k + 1)).all rightG = true) := mkH (by rw [all_take _ _ _ _ HX.out, HRk.out, HRG.out]; rfl)
        have HS : Hid ((lng r || !(r.got.take (k + 1)).all shortG) = (b || !shortG x)) := mkH (by rw [all_take _ _ _ _ HX.out, HLb.out]; cases lng r <;> cases (r.got.take k).all shortG <;> cases shortG x <;> rfl)
        have hcs : (b = true) ∨ (b = false ∧ 32 < (S x.rc.g).size ∧ Hid (shortG x = false)) ∨ (b = false ∧ (S x.rc.g).size ≤ 32 ∧ 128 < (S x.body).size ∧ Hid (shortG x = false)) ∨ (b = false ∧ (S x.rc.g).size ≤ 32 ∧ (S x.body).size ≤ 128 ∧ Hid (shortG x = true)) := by
          cases b
          · right
            have z1 : (S x.rc.g).size = x.rc.g.length := rfl
            have z2 : (S x.body).size = x.body.length := rfl
            unfold shortG fitB
            by_cases y1 : x.rc.g.length ≤ 32
            · right
              by_cases y2 : x.body.length ≤ 128
              · right; exact ⟨rfl, by omega, by omega, mkH (by simp [y1, y2])⟩
              · left; exact ⟨rfl, by omega, by omega, mkH (by simp [y2])⟩
            · left; exact ⟨rfl, by omega, mkH (by simp [y1])⟩
          · left; rfl
        clear HLb HRk HX HRG
        rcases hcs with rfl | ⟨rfl, y1, HY⟩ | ⟨rfl, y1, y2, HY⟩ | ⟨rfl, y1, y2, HY⟩
        · go_wp2
          go_roundw
          case rel => exact ⟨k + 1, _, by omega, by go_num, rfl, mkH (by rw [HS.out]; rfl), HRk1, HG3⟩
          case measure => simp [intOf]; omega
        · go_wp2
          go_roundw
          case rel => exact ⟨k + 1, _, by omega, by go_num, rfl, mkH (by rw [HS.out, HY.out]; simp <;> omega), HRk1, HG3⟩
          case measure => simp [intOf]; omega
        · go_wp2
          go_roundw
          case rel => exact ⟨k + 1, _, by omega, by go_num, rfl, mkH (by rw [HS.out, HY.out]; simp <;> omega), HRk1, HG3⟩
          case measure => simp [intOf]; omega
        · go_wp2
          go_roundw
          case rel => exact ⟨k + 1, _, by omega, by go_num, rfl, mkH (by rw [HS.out, HY.out]; simp <;> omega), HRk1, HG3⟩
          case measure => simp [intOf]; omega
      · have HLe : Hid (b = (lng r || !r.got.all shortG)) := mkH (by have := HLb.out; rwa [List.take_of_length_le (by omega)] at this)
        have HRe : Hid (r.got.all rightG = true) := mkH (by have := HRk.out; rwa [List.take_of_length_le (by omega)] at this)
        have HE3 : Hid (rightR r = r.about.all fun x => mayB x.1 x.2) := mkH (by rw [HE2.out, HRe.out]; simp)
        have HBC2 := mkH (HBC.out.gr HG.out)
        have HM2 := mkH (HM.out.gr HG.out)
        have HGw := mkH (HG0.out.trans HG.out)
        clear HLb HRk HRe HE2 HG HBC HM HG0 HLong
        go_wp2
        go_loopw [6] (fun i ws => ∃ k : Nat, k ≤ r.about.length ∧ i = .int .i64 k ∧ Hid ((r.about.take k).all (fun x => mayB x.1 x.2) = true) ∧ Hid (Gr wr ws)) (fun i _ => r.about.length - (intOf i).toNat)
        case atStart => exact ⟨0, Nat.zero_le _, rfl, mkH (by simp), mkH (Gr.refl _)⟩
        case round =>
          obtain ⟨k, hk, rfl, HAk, HG⟩ := hrel
          have hq8 : ∀ k, wr.cell? ⟨w.heap.size, k, none⟩ = C[k]? := (HBC2.out.gr HG.out).cell
          by_cases hlt : k < r.about.length
          · obtain ⟨bb, off, hao, hcl⟩ := RowS.gr HM2.out.about HG.out (by omega)
            obtain ⟨x, hx⟩ := some_of hlt
            have HLD : Hid ((loadVar 95 ⟨bb, off + k * 2, none⟩).run Tryz.prog wr = .ok (.agg #[.int .i64 x.1, .int .i64 x.2]) wr) := mkH (load_rng (hcl k x hx))
            subst hao
            have HX := mkH hx
            have HMy := fun W => rmay_any W x.1 x.2
            generalize hmq : mayB x.1 x.2 = c3 at *
            have HMQ := mkH hmq
            clear hcl hx hmq
            go_wp2_with (refine wpList_ld (ty := 95) (x := .tmp 88) rfl rfl rfl HLD.out ?_)
            refine (HMy _).mono ?_
            rintro e w3 ⟨rfl, hg3⟩
            have HG3 := mkH (HG.out.trans hg3)
            clear hg3 HMy
            cases c3
            · have HX2 : Hid (checkR r = 2) := mkH (two_of (by rw [HE3.out]; exact all_false HX.out HMQ.out))
              go_wp2
              go_ret
              exact ⟨by rw [HX2.out]; rfl, HGw.out.trans HG3.out⟩
            have HAk1 : Hid ((r.about.take (k + 1)).all (fun x => mayB x.1 x.2) = true) := mkH (by rw [all_take _ _ _ _ HX.out, HAk.out, HMQ.out]; rfl)
            go_wp2
            go_roundw
            case rel => exact ⟨k + 1, by omega, by go_num, HAk1, HG3⟩
            case measure => simp [intOf]; omega
          · have HRt : Hid (rightR r = true) := mkH (by rw [HE3.out]; have := HAk.out; rwa [List.take_of_length_le (by omega)] at this)
            clear HAk
            cases b
            · have HX2 : Hid (checkR r = 0) := mkH (by unfold checkR judge; rw [HRt.out, short_lng, ← HLe.out]; rfl)
              go_wp2
              go_ret
              exact ⟨by rw [HX2.out]; rfl, HGw.out.trans HG.out⟩
            · have HX2 : Hid (checkR r = 3) := mkH (by unfold checkR judge; rw [HRt.out, short_lng, ← HLe.out]; rfl)
              go_wp2
              go_ret
              exact ⟨by rw [HX2.out]; rfl, HGw.out.trans HG.out⟩
  · go_wp2
    go_loopw [3, 4, 5] (fun v3 i _ wr => ∃ (k : Nat) (b : Bool), k ≤ r.got.length ∧ i = .int .i64 k ∧ v3 = .bool b ∧ Hid (b = (lng r || !(r.got.take k).all shortG)) ∧ Hid ((r.got.take k).all rightG = true) ∧ Hid (Gr w1 wr)) (fun _ i _ _ => r.got.length - (intOf i).toNat)
    case atStart => exact ⟨0, _, Nat.zero_le _, rfl, rfl, mkH (by rw [HL.out]; simp <;> (intro h; omega)), mkH (by simp), mkH (Gr.refl _)⟩
    case round =>
      obtain ⟨k, b, hk, rfl, rfl, HLb, HRk, HG⟩ := hrel
      have hq5 : ∀ k, wr.cell? ⟨w.heap.size, k, none⟩ = C[k]? := (HBC.out.gr HG.out).cell
      by_cases hlt : k < r.got.length
      · obtain ⟨bb, off, hao, hcl⟩ := RowS.gr HM.out.got HG.out (by omega)
        obtain ⟨x, hx⟩ := some_of hlt
        have HLD := mkH (load_got (hcl k x hx))
        subst hao
        have HX := mkH hx
        have HONE := mkH (all1 _ (gC_one x))
        have HI : Hid ((Tryz.prog.info? 43).map (·.size) = some (Gv x).size) := mkH infoG
        have g0 : (Gv x)[0]? = some (.int .i64 x.rc.q) := rfl
        have g1 : (Gv x)[1]? = some (.string (S x.rc.g)) := rfl
        have g2 : (Gv x)[2]? = some (.int .i64 x.rc.s) := rfl
        have g3 : (Gv x)[3]? = some (.int .i64 x.rc.c) := rfl
        have g4 : (Gv x)[4]? = some (.string (S x.body)) := rfl
        have g5 : (Gv x)[5]? = some (.int .i64 x.sent) := rfl
        generalize hGq : Gv x = G at *
        have HONE : Hid (G.all (fun x => x.oneCell') = true) := mkH (hGq ▸ HONE.out)
        have hGs : G.size = 6 := by rw [← hGq]; rfl
        have HSZ : Hid ((#[.int .i64 0, .string ⟨#[]⟩, .int .i64 0, .int .i64 0, .string ⟨#[]⟩, .int .i64 0] : Array Value).size = G.size) := mkH (by rw [hGs]; rfl)
        have HR1 := fun W => rreceipt_any W x.rc
        have HN1 := fun W => rnum_any W x.sent
        have HRG : Hid (rightG x = (rcB x.rc && numB x.sent)) := mkH rfl
        generalize rcB x.rc = c1 at *
        generalize numB x.sent = c2 at *
        clear hcl hx hGq hGs
        go_wp2_with (first
          | (refine wpList_ld (ty := 43) (x := .tmp 52) rfl rfl rfl HLD.out ?_)
          | (refine wpList_stn (x := .tmp 5) (y := .tmp 53) rfl rfl rfl rfl HI.out HSZ.out HONE.out ?_; intro W2 hB2 hG2; have HB2 := mkH hB2; have hq6 : ∀ k, W2.cell? ⟨wr.heap.size, k, none⟩ = G[k]? := hB2.cell; have HG2 := mkH (HG.out.trans hG2); clear hB2 hG2))
        refine (HR1 _).mono ?_
        rintro e w3 ⟨rfl, hg3⟩
        have hq7 : ∀ k, w3.cell? ⟨wr.heap.size, k, none⟩ = G[k]? := (HB2.out.gr hg3).cell
        have HG3 := mkH (HG2.out.trans hg3)
        clear hg3 hq6 HG2 HR1 HB2
        cases c1
        · have HX2 : Hid (checkR r = 2) := mkH (two_of (by rw [HE2.out, all_false HX.out (by rw [HRG.out]; rfl)]; simp))
          go_wp2
          go_ret
          exact ⟨by rw [HX2.out]; rfl, HG0.out.trans HG3.out⟩
        go_wp2_with fail
        refine (HN1 _).mono ?_
        rintro e w4 ⟨rfl, rfl⟩
        clear HN1
        cases c2
        · have HX2 : Hid (checkR r = 2) := mkH (two_of (by rw [HE2.out, all_false HX.out (by rw [HRG.out]; rfl)]; simp))
          go_wp2
          go_ret
          exact ⟨by rw [HX2.out]; rfl, HG0.out.trans HG3.out⟩
        have HRk1 : Hid ((r.got.take (k + 1)).all rightG = true) := mkH (by rw [all_take _ _ _ _ HX.out, HRk.out, HRG.out]; rfl)
        have HS : Hid ((lng r || !(r.got.take (k + 1)).all shortG) = (b || !shortG x)) := mkH (by rw [all_take _ _ _ _ HX.out, HLb.out]; cases lng r <;> cases (r.got.take k).all shortG <;> cases shortG x <;> rfl)
        have hcs : (b = true) ∨ (b = false ∧ 32 < (S x.rc.g).size ∧ Hid (shortG x = false)) ∨ (b = false ∧ (S x.rc.g).size ≤ 32 ∧ 128 < (S x.body).size ∧ Hid (shortG x = false)) ∨ (b = false ∧ (S x.rc.g).size ≤ 32 ∧ (S x.body).size ≤ 128 ∧ Hid (shortG x = true)) := by
          cases b
          · right
            have z1 : (S x.rc.g).size = x.rc.g.length := rfl
            have z2 : (S x.body).size = x.body.length := rfl
            unfold shortG fitB
            by_cases y1 : x.rc.g.length ≤ 32
            · right
              by_cases y2 : x.body.length ≤ 128
              · right; exact ⟨rfl, by omega, by omega, mkH (by simp [y1, y2])⟩
              · left; exact ⟨rfl, by omega, by omega, mkH (by simp [y2])⟩
            · left; exact ⟨rfl, by omega, mkH (by simp [y1])⟩
          · left; rfl
        clear HLb HRk HX HRG
        rcases hcs with rfl | ⟨rfl, y1, HY⟩ | ⟨rfl, y1, y2, HY⟩ | ⟨rfl, y1, y2, HY⟩
        · go_wp2
          go_roundw
          case rel => exact ⟨k + 1, _, by omega, by go_num, rfl, mkH (by rw [HS.out]; rfl), HRk1, HG3⟩
          case measure => simp [intOf]; omega
        · go_wp2
          go_roundw
          case rel => exact ⟨k + 1, _, by omega, by go_num, rfl, mkH (by rw [HS.out, HY.out]; simp <;> omega), HRk1, HG3⟩
          case measure => simp [intOf]; omega
        · go_wp2
          go_roundw
          case rel => exact ⟨k + 1, _, by omega, by go_num, rfl, mkH (by rw [HS.out, HY.out]; simp <;> omega), HRk1, HG3⟩
          case measure => simp [intOf]; omega
        · go_wp2
          go_roundw
          case rel => exact ⟨k + 1, _, by omega, by go_num, rfl, mkH (by rw [HS.out, HY.out]; simp <;> omega), HRk1, HG3⟩
          case measure => simp [intOf]; omega
      · have HLe : Hid (b = (lng r || !r.got.all shortG)) := mkH (by have := HLb.out; rwa [List.take_of_length_le (by omega)] at this)
        have HRe : Hid (r.got.all rightG = true) := mkH (by have := HRk.out; rwa [List.take_of_length_le (by omega)] at this)
        have HE3 : Hid (rightR r = r.about.all fun x => mayB x.1 x.2) := mkH (by rw [HE2.out, HRe.out]; simp)
        have HBC2 := mkH (HBC.out.gr HG.out)
        have HM2 := mkH (HM.out.gr HG.out)
        have HGw := mkH (HG0.out.trans HG.out)
        clear HLb HRk HRe HE2 HG HBC HM HG0 HLong
        go_wp2
        go_loopw [6] (fun i ws => ∃ k : Nat, k ≤ r.about.length ∧ i = .int .i64 k ∧ Hid ((r.about.take k).all (fun x => mayB x.1 x.2) = true) ∧ Hid (Gr wr ws)) (fun i _ => r.about.length - (intOf i).toNat)
        case atStart => exact ⟨0, Nat.zero_le _, rfl, mkH (by simp), mkH (Gr.refl _)⟩
        case round =>
          obtain ⟨k, hk, rfl, HAk, HG⟩ := hrel
          have hq8 : ∀ k, wr.cell? ⟨w.heap.size, k, none⟩ = C[k]? := (HBC2.out.gr HG.out).cell
          by_cases hlt : k < r.about.length
          · obtain ⟨bb, off, hao, hcl⟩ := RowS.gr HM2.out.about HG.out (by omega)
            obtain ⟨x, hx⟩ := some_of hlt
            have HLD : Hid ((loadVar 95 ⟨bb, off + k * 2, none⟩).run Tryz.prog wr = .ok (.agg #[.int .i64 x.1, .int .i64 x.2]) wr) := mkH (load_rng (hcl k x hx))
            subst hao
            have HX := mkH hx
            have HMy := fun W => rmay_any W x.1 x.2
            generalize hmq : mayB x.1 x.2 = c3 at *
            have HMQ := mkH hmq
            clear hcl hx hmq
            go_wp2_with (refine wpList_ld (ty := 95) (x := .tmp 88) rfl rfl rfl HLD.out ?_)
            refine (HMy _).mono ?_
            rintro e w3 ⟨rfl, hg3⟩
            have HG3 := mkH (HG.out.trans hg3)
            clear hg3 HMy
            cases c3
            · have HX2 : Hid (checkR r = 2) := mkH (two_of (by rw [HE3.out]; exact all_false HX.out HMQ.out))
              go_wp2
              go_ret
              exact ⟨by rw [HX2.out]; rfl, HGw.out.trans HG3.out⟩
            have HAk1 : Hid ((r.about.take (k + 1)).all (fun x => mayB x.1 x.2) = true) := mkH (by rw [all_take _ _ _ _ HX.out, HAk.out, HMQ.out]; rfl)
            go_wp2
            go_roundw
            case rel => exact ⟨k + 1, by omega, by go_num, HAk1, HG3⟩
            case measure => simp [intOf]; omega
          · have HRt : Hid (rightR r = true) := mkH (by rw [HE3.out]; have := HAk.out; rwa [List.take_of_length_le (by omega)] at this)
            clear HAk
            cases b
            · have HX2 : Hid (checkR r = 0) := mkH (by unfold checkR judge; rw [HRt.out, short_lng, ← HLe.out]; rfl)
              go_wp2
              go_ret
              exact ⟨by rw [HX2.out]; rfl, HGw.out.trans HG.out⟩
            · have HX2 : Hid (checkR r = 3) := mkH (by unfold checkR judge; rw [HRt.out, short_lng, ← HLe.out]; rfl)
              go_wp2
              go_ret
              exact ⟨by rw [HX2.out]; rfl, HGw.out.trans HG.out⟩
  · go_wp2_with fail
    refine (HLong.out _ HM.out.data).mono ?_
    rintro e w1 ⟨rfl, rfl⟩
    go_wp2
    go_loopw [3, 4, 5] (fun v3 i _ wr => ∃ (k : Nat) (b : Bool), k ≤ r.got.length ∧ i = .int .i64 k ∧ v3 = .bool b ∧ Hid (b = (lng r || !(r.got.take k).all shortG)) ∧ Hid ((r.got.take k).all rightG = true) ∧ Hid (Gr w1 wr)) (fun _ i _ _ => r.got.length - (intOf i).toNat)
    case atStart => exact ⟨0, _, Nat.zero_le _, rfl, rfl, mkH (by rw [HL.out]; simp <;> (intro h; omega)), mkH (by simp), mkH (Gr.refl _)⟩
    case round =>
      obtain ⟨k, b, hk, rfl, rfl, HLb, HRk, HG⟩ := hrel
      have hq5 : ∀ k, wr.cell? ⟨w.heap.size, k, none⟩ = C[k]? := (HBC.out.gr HG.out).cell
      by_cases hlt : k < r.got.length
      · obtain ⟨bb, off, hao, hcl⟩ := RowS.gr HM.out.got HG.out (by omega)
        obtain ⟨x, hx⟩ := some_of hlt
        have HLD := mkH (load_got (hcl k x hx))
        subst hao
        have HX := mkH hx
        have HONE := mkH (all1 _ (gC_one x))
        have HI : Hid ((Tryz.prog.info? 43).map (·.size) = some (Gv x).size) := mkH infoG
        have g0 : (Gv x)[0]? = some (.int .i64 x.rc.q) := rfl
        have g1 : (Gv x)[1]? = some (.string (S x.rc.g)) := rfl
        have g2 : (Gv x)[2]? = some (.int .i64 x.rc.s) := rfl
        have g3 : (Gv x)[3]? = some (.int .i64 x.rc.c) := rfl
        have g4 : (Gv x)[4]? = some (.string (S x.body)) := rfl
        have g5 : (Gv x)[5]? = some (.int .i64 x.sent) := rfl
        generalize hGq : Gv x = G at *
        have HONE : Hid (G.all (fun x => x.oneCell') = true) := mkH (hGq ▸ HONE.out)
        have hGs : G.size = 6 := by rw [← hGq]; rfl
        have HSZ : Hid ((#[.int .i64 0, .string ⟨#[]⟩, .int .i64 0, .int .i64 0, .string ⟨#[]⟩, .int .i64 0] : Array Value).size = G.size) := mkH (by rw [hGs]; rfl)
        have HR1 := fun W => rreceipt_any W x.rc
        have HN1 := fun W => rnum_any W x.sent
        have HRG : Hid (rightG x = (rcB x.rc && numB x.sent)) := mkH rfl
        generalize rcB x.rc = c1 at *
        generalize numB x.sent = c2 at *
        clear hcl hx hGq hGs
        go_wp2_with (first
          | (refine wpList_ld (ty := 43) (x := .tmp 52) rfl rfl rfl HLD.out ?_)
          | (refine wpList_stn (x := .tmp 5) (y := .tmp 53) rfl rfl rfl rfl HI.out HSZ.out HONE.out ?_; intro W2 hB2 hG2; have HB2 := mkH hB2; have hq6 : ∀ k, W2.cell? ⟨wr.heap.size, k, none⟩ = G[k]? := hB2.cell; have HG2 := mkH (HG.out.trans hG2); clear hB2 hG2))
        refine (HR1 _).mono ?_
        rintro e w3 ⟨rfl, hg3⟩
        have hq7 : ∀ k, w3.cell? ⟨wr.heap.size, k, none⟩ = G[k]? := (HB2.out.gr hg3).cell
        have HG3 := mkH (HG2.out.trans hg3)
        clear hg3 hq6 HG2 HR1 HB2
        cases c1
        · have HX2 : Hid (checkR r = 2) := mkH (two_of (by rw [HE2.out, all_false HX.out (by rw [HRG.out]; rfl)]; simp))
          go_wp2
          go_ret
          exact ⟨by rw [HX2.out]; rfl, HG0.out.trans HG3.out⟩
        go_wp2_with fail
        refine (HN1 _).mono ?_
        rintro e w4 ⟨rfl, rfl⟩
        clear HN1
        cases c2
        · have HX2 : Hid (checkR r = 2) := mkH (two_of (by rw [HE2.out, all_false HX.out (by rw [HRG.out]; rfl)]; simp))
          go_wp2
          go_ret
          exact ⟨by rw [HX2.out]; rfl, HG0.out.trans HG3.out⟩
        have HRk1 : Hid ((r.got.take (k + 1)).all rightG = true) := mkH (by rw [all_take _ _ _ _ HX.out, HRk.out, HRG.out]; rfl)
        have HS : Hid ((lng r || !(r.got.take (k + 1)).all shortG) = (b || !shortG x)) := mkH (by rw [all_take _ _ _ _ HX.out, HLb.out]; cases lng r <;> cases (r.got.take k).all shortG <;> cases shortG x <;> rfl)
        have hcs : (b = true) ∨ (b = false ∧ 32 < (S x.rc.g).size ∧ Hid (shortG x = false)) ∨ (b = false ∧ (S x.rc.g).size ≤ 32 ∧ 128 < (S x.body).size ∧ Hid (shortG x = false)) ∨ (b = false ∧ (S x.rc.g).size ≤ 32 ∧ (S x.body).size ≤ 128 ∧ Hid (shortG x = true)) := by
          cases b
          · right
            have z1 : (S x.rc.g).size = x.rc.g.length := rfl
            have z2 : (S x.body).size = x.body.length := rfl
            unfold shortG fitB
            by_cases y1 : x.rc.g.length ≤ 32
            · right
              by_cases y2 : x.body.length ≤ 128
              · right; exact ⟨rfl, by omega, by omega, mkH (by simp [y1, y2])⟩
              · left; exact ⟨rfl, by omega, by omega, mkH (by simp [y2])⟩
            · left; exact ⟨rfl, by omega, mkH (by simp [y1])⟩
          · left; rfl
        clear HLb HRk HX HRG
        rcases hcs with rfl | ⟨rfl, y1, HY⟩ | ⟨rfl, y1, y2, HY⟩ | ⟨rfl, y1, y2, HY⟩
        · go_wp2
          go_roundw
          case rel => exact ⟨k + 1, _, by omega, by go_num, rfl, mkH (by rw [HS.out]; rfl), HRk1, HG3⟩
          case measure => simp [intOf]; omega
        · go_wp2
          go_roundw
          case rel => exact ⟨k + 1, _, by omega, by go_num, rfl, mkH (by rw [HS.out, HY.out]; simp <;> omega), HRk1, HG3⟩
          case measure => simp [intOf]; omega
        · go_wp2
          go_roundw
          case rel => exact ⟨k + 1, _, by omega, by go_num, rfl, mkH (by rw [HS.out, HY.out]; simp <;> omega), HRk1, HG3⟩
          case measure => simp [intOf]; omega
        · go_wp2
          go_roundw
          case rel => exact ⟨k + 1, _, by omega, by go_num, rfl, mkH (by rw [HS.out, HY.out]; simp <;> omega), HRk1, HG3⟩
          case measure => simp [intOf]; omega
      · have HLe : Hid (b = (lng r || !r.got.all shortG)) := mkH (by have := HLb.out; rwa [List.take_of_length_le (by omega)] at this)
        have HRe : Hid (r.got.all rightG = true) := mkH (by have := HRk.out; rwa [List.take_of_length_le (by omega)] at this)
        have HE3 : Hid (rightR r = r.about.all fun x => mayB x.1 x.2) := mkH (by rw [HE2.out, HRe.out]; simp)
        have HBC2 := mkH (HBC.out.gr HG.out)
        have HM2 := mkH (HM.out.gr HG.out)
        have HGw := mkH (HG0.out.trans HG.out)
        clear HLb HRk HRe HE2 HG HBC HM HG0 HLong
        go_wp2
        go_loopw [6] (fun i ws => ∃ k : Nat, k ≤ r.about.length ∧ i = .int .i64 k ∧ Hid ((r.about.take k).all (fun x => mayB x.1 x.2) = true) ∧ Hid (Gr wr ws)) (fun i _ => r.about.length - (intOf i).toNat)
        case atStart => exact ⟨0, Nat.zero_le _, rfl, mkH (by simp), mkH (Gr.refl _)⟩
        case round =>
          obtain ⟨k, hk, rfl, HAk, HG⟩ := hrel
          have hq8 : ∀ k, wr.cell? ⟨w.heap.size, k, none⟩ = C[k]? := (HBC2.out.gr HG.out).cell
          by_cases hlt : k < r.about.length
          · obtain ⟨bb, off, hao, hcl⟩ := RowS.gr HM2.out.about HG.out (by omega)
            obtain ⟨x, hx⟩ := some_of hlt
            have HLD : Hid ((loadVar 95 ⟨bb, off + k * 2, none⟩).run Tryz.prog wr = .ok (.agg #[.int .i64 x.1, .int .i64 x.2]) wr) := mkH (load_rng (hcl k x hx))
            subst hao
            have HX := mkH hx
            have HMy := fun W => rmay_any W x.1 x.2
            generalize hmq : mayB x.1 x.2 = c3 at *
            have HMQ := mkH hmq
            clear hcl hx hmq
            go_wp2_with (refine wpList_ld (ty := 95) (x := .tmp 88) rfl rfl rfl HLD.out ?_)
            refine (HMy _).mono ?_
            rintro e w3 ⟨rfl, hg3⟩
            have HG3 := mkH (HG.out.trans hg3)
            clear hg3 HMy
            cases c3
            · have HX2 : Hid (checkR r = 2) := mkH (two_of (by rw [HE3.out]; exact all_false HX.out HMQ.out))
              go_wp2
              go_ret
              exact ⟨by rw [HX2.out]; rfl, HGw.out.trans HG3.out⟩
            have HAk1 : Hid ((r.about.take (k + 1)).all (fun x => mayB x.1 x.2) = true) := mkH (by rw [all_take _ _ _ _ HX.out, HAk.out, HMQ.out]; rfl)
            go_wp2
            go_roundw
            case rel => exact ⟨k + 1, by omega, by go_num, HAk1, HG3⟩
            case measure => simp [intOf]; omega
          · have HRt : Hid (rightR r = true) := mkH (by rw [HE3.out]; have := HAk.out; rwa [List.take_of_length_le (by omega)] at this)
            clear HAk
            cases b
            · have HX2 : Hid (checkR r = 0) := mkH (by unfold checkR judge; rw [HRt.out, short_lng, ← HLe.out]; rfl)
              go_wp2
              go_ret
              exact ⟨by rw [HX2.out]; rfl, HGw.out.trans HG.out⟩
            · have HX2 : Hid (checkR r = 3) := mkH (by unfold checkR judge; rw [HRt.out, short_lng, ← HLe.out]; rfl)
              go_wp2
              go_ret
              exact ⟨by rw [HX2.out]; rfl, HGw.out.trans HG.out⟩
end Go.Proofs.YtenkgpfeifflnaaGreat.Wgr
