/-
  The walk of DigestPieces.
-/
import Derived.Test.YtnnhimoihbdopaaDoorDgR4
import Derived.Test.YtnnhimoihbdopaaDoorDgY
import Derived.Test.YtnnhimoihbdopaaDoorDgV
import Derived.Test.YtnnhimoihbdopaaDoorDgB
import Derived.Deep.RegionHeld3
import Derived.Deep.RegionWith
namespace Go.Proofs.YtnnhimoihbdopaaDoor.Dpc
open Go.RowKit Kt Dk Dw Ds Dt De Df Dg Dh Di Dx Dy Dv Db
set_option linter.unusedVariables false
set_option maxRecDepth 20000

/-- What the loop keeps: the row 'all', the Hash, and what was there. -/
def Lo (w W : World) (B g : Nat) (v : Value) (xs : List UInt8) : Prop :=
  W.ownsRow B 5 1 v xs.length (U xs) ∧ Hs W g xs ∧ Below w.heap.size w W ∧ B ≤ W.heap.size
theorem own_ne {w : World} {B e n g : Nat} {v : Value} {xs : List Value} (h : w.ownsRow B e 1 v n xs) (hg : g < B) : v.ownBlock ≠ some g := fun e => by
  have := (h.lt g e).1
  omega
theorem Lo.below {w W W' : World} {B g : Nat} {v : Value} {xs : List UInt8} (h : Lo w W B g v xs) (hb : Below W.heap.size W W') : Lo w W' B g v xs :=
  ⟨own_below h.1 hb, hs_below h.2.1 hb (hs_lt h.2.1), h.2.2.1.trans (hb.mono h.2.2.1.size), Nat.le_trans h.2.2.2 hb.size⟩
theorem Lo.only {w W W' : World} {B g gp : Nat} {v : Value} {xs : List UInt8} (h : Lo w W B g v xs) (ho : Only gp W W') (h1 : v.ownBlock ≠ some gp) (h2 : g ≠ gp) (h3 : w.heap.size ≤ gp) : Lo w W' B g v xs :=
  ⟨own_only h.1 ho h1, hs_only h.2.1 ho h2, h.2.2.1.trans (ho.below h3 h.2.2.1.size), Nat.le_trans h.2.2.2 ho.size⟩
/-- Behind Write. -/
theorem Lo.write {w W W' : World} {B g : Nat} {v : Value} {xs ys : List UInt8} (h : Lo w W B g v xs) (ho : Only g W W') (hg : g < B) (hw : w.heap.size ≤ g) : W'.ownsRow B 5 1 v xs.length (U xs) ∧ Below w.heap.size w W' ∧ B ≤ W'.heap.size :=
  ⟨own_only h.1 ho (own_ne h.1 hg), h.2.2.1.trans (ho.below hw h.2.2.1.size), Nat.le_trans h.2.2.2 ho.size⟩
/-- The piece's own row: a block that is neither the Hash's nor that of 'all'. -/
def Pr (w W : World) (g gp : Nat) (v : Value) (a : Option Addr) (n : Nat) : Prop :=
  w.heap.size ≤ gp ∧ g ≠ gp ∧ v.ownBlock ≠ some gp ∧ (0 < n → a = some ⟨gp, 0, none⟩ ∧ ∃ C : Array Value, W.heap[gp]? = some (.cells C 5 (0, 0)) ∧ n ≤ C.size)
/-- Behind append. -/
theorem app_lo {w W0 W W' : World} {B g : Nat} {v v' : Value} {xs ys : List UInt8} {a : Option Addr} {c : Nat} (h0 : Lo w W0 B g v xs) (h1 : W.ownsRow B 5 1 v xs.length (U xs)) (h2 : Hs W g (xs ++ ys)) (h3 : Below w.heap.size w W) (h4 : B ≤ W.heap.size) (h5 : W0.heap.size ≤ W.heap.size)
    (hp : W.ownsRow W0.heap.size 5 1 (.slice a ys.length c) ys.length (U ys)) (hn : W'.ownsRow B 5 1 v' (xs.length + ys.length) (U xs ++ U ys)) (hg : W.grownBy W' v.ownBlock) (hat : v'.ownBlock = v.ownBlock ∨ v'.ownBlock = some W.heap.size) (hgB : g < B) (hwg : w.heap.size ≤ g) :
    Lo w W' B g v' (xs ++ ys) ∧ ∃ gp, Pr w W' g gp v' a ys.length := by
  have hv0 : ∀ k, v.ownBlock = some k → k < W0.heap.size := fun k hk => (h0.1.lt k hk).2
  refine ⟨⟨by rw [List.length_append, U_append]; exact hn, hs_block h2 (hg.block g (hs_lt h2) (fun e => own_ne h1 hgB e.symm)), h3.grown hg h3.size (fun k hk => by have := (h1.lt k hk).1; omega), Nat.le_trans h4 hg.size⟩, ?_⟩
  rcases hp.2 with ⟨e1, e2⟩ | ⟨gp, cap, cur, e1, hb, hgp, hnc, _, hcs, _⟩
  · refine ⟨W.heap.size + 1, by have := h3.size; omega, by have := hs_lt h2; omega, ?_, fun h => by omega⟩
    intro e
    rcases hat with hat | hat
    · rw [hat] at e; have := hv0 _ e; omega
    · rw [hat] at e; simp at e
  · simp only [Value.slice.injEq] at e1
    obtain ⟨rfl, -, rfl⟩ := e1
    have hlt := block_lt hgp
    have hw0 := h0.2.2.1.size
    have hB := h0.2.2.2
    refine ⟨gp, by omega, by omega, ?_, fun _ => ⟨rfl, cur, ?_, by omega⟩⟩
    · intro e
      rcases hat with hat | hat
      · rw [hat] at e; have := hv0 _ e; omega
      · rw [hat] at e; simp at e; omega
    · rw [hg.block gp hlt (fun e => by have := hv0 _ e.symm; omega)]
      exact hgp
/-- Where the loop that overwrites the piece stands. -/
def Ow (w4 W : World) (gp n : Nat) : Prop := Only gp w4 W ∧ (0 < n → ∃ C : Array Value, W.heap[gp]? = some (.cells C 5 (0, 0)) ∧ n ≤ C.size)
theorem Ow.cell {w4 W : World} {gp n : Nat} (h : Ow w4 W gp n) (j : Nat) (hj : j < n) : (∃ u, W.cell? ⟨gp, j, none⟩ = some u) ∧ W.frozen? ⟨gp, j, none⟩ = false ∧ ∀ u, Ow w4 (W.setCell ⟨gp, j, none⟩ u) gp n := by
  obtain ⟨C, hC, hn⟩ := h.2 (by omega)
  refine ⟨⟨C[j], ?_⟩, frozen_of_row W gp j _ _ hC, fun u => ⟨?_, fun _ => ⟨C.setIfInBounds j u, ?_, by simpa using hn⟩⟩⟩
  · rw [cell_of_row _ _ _ _ _ _ hC, Array.getElem?_eq_getElem (by omega)]
  · rw [setCell_eq_setRow W gp j _ _ (0, 0) _ hC]; exact h.1.setRow _
  · rw [setCell_eq_setRow W gp j _ _ (0, 0) _ hC]; exact setRow_heap _ _ _ _ _ _ hC

set_option maxHeartbeats 8000000 in
theorem pieces_walk (w : World) (hT : Tb w) (ao : Option Addr) (cap : Nat) (ps : List Part) (hP : RowB w ao ps) (hlen : ps.length ≤ cap) (hcap : cap ≤ 9223372036854775807) :
    Calls Tryd.prog 4 #[.slice ao ps.length cap] w fun e w' => e = .returned (.bool true) ∧ Below w.heap.size w w' := by
  have hT0 := hT.size
  go_enter Tryd.func4, Tryd.ntmps4
  go_wp2_with fail
  refine (new_any w).mono ?_
  rintro e w1 ⟨rfl, hS1, hb1⟩
  have hLo : Lo w w1 w1.heap.size w.heap.size (.slice none 0 0) [] := ⟨by simpa [U] using World.ownsRow_nil w1 w1.heap.size 5 1, hS1, hb1, Nat.le_refl _⟩
  have hgB : w.heap.size < w1.heap.size := hs_lt hS1
  obtain ⟨g, hg⟩ : ∃ g, w.heap.size = g := ⟨_, rfl⟩
  have hwg : w.heap.size ≤ g := by omega
  have hg0 : 0 < g := by omega
  rw [hg] at hgB
  obtain ⟨B, hB⟩ : ∃ B, w1.heap.size = B := ⟨_, rfl⟩
  rw [hB] at hgB
  have HLo : Hid (Lo w w1 B g (.slice none 0 0) []) := by rw [hg, hB] at hLo; exact hLo
  have HP := mkH hP
  have HT := mkH hT
  rw [hg]
  clear hLo hS1 hb1 hB hg hP hT
  go_wp2_with fail
  go_loopw [4, 5] (fun v x W => ∃ (k : Nat) (xs : List UInt8), k ≤ 12 ∧ k ≤ ps.length ∧ x = .int .i64 k ∧ xs.length ≤ 2000 * k ∧ Lo w W B g v xs) (fun _ x _ => ps.length - (intOf x).toNat)
  case atStart => exact ⟨0, [], by omega, by omega, rfl, by simp, HLo.out⟩
  case round =>
    clear HLo
    obtain ⟨k, xs, hk12, hk, rfl, hxl, hLo⟩ := hrel
    obtain ⟨aa, ca, rfl⟩ := own_form hLo.1
    by_cases hlt : k < ps.length ∧ k < 12
    · obtain ⟨hl1, hl2⟩ := hlt
      have t1 : decide ((k : Int) < (ps.length : Int)) = true := by simp; omega
      have t2 : decide ((k : Int) < 12) = true := by simp; omega
      obtain ⟨b, off, rfl, hc⟩ := HP.out (by omega)
      obtain ⟨⟨pa, pc, pb⟩, hpk⟩ : ∃ p, ps[k]? = some p := ⟨_, List.getElem?_eq_getElem hl1⟩
      have hrB := (HP.out.below hLo.2.2.1)
      obtain ⟨b', off', hbe, hc'⟩ := hrB (by omega)
      simp only [Option.some.injEq, Addr.mk.injEq] at hbe
      obtain ⟨rfl, rfl, -⟩ := hbe
      obtain ⟨hcell, hrow, hpl, hpc⟩ := hc' k _ hpk
      simp only at hcell hrow hpl hpc
      have k1 : (k : Int) < (ps.length : Int) := by omega
      have HLo := mkH hLo
      have HXL := mkH hxl
      have HK := mkH hpk
      clear hLo hxl hpk hc hc' hrB
      go_wp2_with fail
      refine (few_sl wr pa pc pb hrow hpl hpc).mono ?_
      rintro e w2 ⟨a2, c2, rfl, hs2, -, hp2, hb2⟩
      obtain ⟨ys, hys⟩ : ∃ ys, pb.take 2000 = ys := ⟨_, rfl⟩
      have hyl : ys.length ≤ 2000 := by rw [← hys, List.length_take]; omega
      rw [hys] at hs2 hp2 ⊢
      have hL2 := mkH (HLo.out.below hb2)
      have hTw2 := mkH (HT.out.below hL2.out.2.2.1 hT0)
      have HP2 := mkH hp2
      have HS2 := mkH hs2
      have HYL := mkH hyl
      have hsz2 := mkH hb2.size
      have hnew : ∀ a, a2 = some a → a.block ≠ g := by
        intro a ha
        have h1 := HLo.out.2.2.2
        obtain ⟨_, _, e1, _, h3⟩ := Sl.own hp2
        simp only [Value.slice.injEq] at e1
        have := h3 a (by rw [← e1.1]; exact ha)
        omega
      have HNW := mkH hnew
      clear hys hrow hpl hpc hcell hb2 hs2 hp2 hyl hnew t1 t2
      go_wp2_with fail
      refine (write_any w2 g xs a2 c2 ys hTw2.out hg0 hL2.out.2.1 ⟨HS2.out.1, HNW.out⟩ (by have := HXL.out; have := HYL.out; omega) HS2.out.2.2.1 HS2.out.2.2.2).mono ?_
      rintro e w3 ⟨rfl, hS3, ho3⟩
      obtain ⟨hown3, hb3, hB3⟩ := hL2.out.write (ys := ys) ho3 hgB hwg
      have hp3 : w3.ownsRow wr.heap.size 5 1 (.slice a2 ys.length c2) ys.length (U ys) := own_only HP2.out ho3 (own_ne HP2.out (by have := HLo.out.2.2.2; omega))
      have hs3 : Sl w3 a2 c2 ys := HS2.out.only HNW.out ho3
      have hsz3 : Hid (wr.heap.size ≤ w3.heap.size) := Nat.le_trans hsz2.out ho3.size
      have HS3 := mkH hS3
      have HOWN3 := mkH hown3
      have HB3 := mkH hb3
      have HBB3 := mkH hB3
      have HP3 := mkH hp3
      have HSL3 := mkH hs3
      clear hS3 hown3 hb3 hB3 hp3 hs3 ho3 HS2 HP2 hTw2 hL2 hsz2 HNW
      go_wp2_with (at_builtin; refine (wpList_append_own_src_at _ rfl (.tmp 32) (.tmp 33) 22 22 rfl B 5 (.int .u8 0) 1 1 Tryd.underlying22 info5 rfl (by decide) _ xs.length (U xs) rfl HOWN3.out _ ys.length (U ys) rfl ?hsrc ?h63 ?hby HBB3.out ?_))
      case hsrc => exact Row.src (P := Tryd.prog) Tryd.underlying22 HSL3.out.1 c2
      case h63 => have := HXL.out; have := HYL.out; unfold maxLen; omega
      case hby => have := HXL.out; have := HYL.out; omega
      intro v4 w4 hown4 hgrow4 hat4
      obtain ⟨hLo4, gp, hpr⟩ := app_lo HLo.out HOWN3.out HS3.out HB3.out HBB3.out hsz3.out HP3.out hown4 hgrow4 hat4 hgB hwg
      have HZL : Hid ((xs ++ ys).length ≤ 2000 * (k + 1)) := by have := HXL.out; have := HYL.out; unfold Hid; rw [List.length_append]; omega
      have HLo4 := mkH hLo4
      have HPR := mkH hpr
      clear hown4 hgrow4 hat4 hLo4 hpr HLo HOWN3 HS3 HB3 HBB3 hsz3 HP3 HSL3 HXL
      generalize xs ++ ys = zs at HZL HLo4
      obtain ⟨n, hn⟩ : ∃ n, ys.length = n := ⟨_, rfl⟩
      rw [hn] at HPR ⊢
      have HN : Hid (n ≤ 2000) := by have := HYL.out; unfold Hid; omega
      clear hn HYL
      obtain ⟨a4, c4, rfl⟩ := own_form HLo4.out.1
      go_wp2_with fail
      go_loopw [37] (fun x W => ∃ j : Nat, j ≤ n ∧ x = .int .i64 j ∧ Ow w4 W gp n) (fun x _ => n - (intOf x).toNat)
      case atStart => exact ⟨0, by omega, rfl, Only.refl _ _, fun h => (HPR.out.2.2.2 h).2⟩
      case round =>
        obtain ⟨j, hj, rfl, hOw⟩ := hrel
        by_cases hjn : j < n
        · have t0 : decide ((j : Int) < (n : Int)) = true := by simp; omega
          have j1 : (j : Int) < (n : Int) := by omega
          have j2 := HN.out
          obtain ⟨rfl, -⟩ := HPR.out.2.2.2 (by omega)
          obtain ⟨⟨u, hu⟩, hfr, hset⟩ := hOw.cell j hjn
          have HSET := mkH hset
          clear hset hOw
          go_wp2_with fail
          refine ⟨⟨j + 1, by omega, by go_num, HSET.out _⟩, ?_⟩
          simp [intOf]; omega
        · have t0 : decide ((j : Int) < (n : Int)) = false := by simp; omega
          have hLo5 := HLo4.out.only hOw.1 HPR.out.2.2.1 HPR.out.2.1 HPR.out.1
          have HT5 := mkH (HT.out.below hLo5.2.2.1 hT0)
          have HLo5 := mkH hLo5
          clear hOw hLo5 HLo4 HPR
          go_wp2_with fail
          refine (sum_any _ g zs HT5.out HLo5.out.2.1 (by have := HZL.out; omega)).mono ?_
          rintro e w5 ⟨rfl, hb5⟩
          have hLo5 := HLo5.out.below hb5
          have hdl : (U (Dp.dig zs)).length = 32 := by rw [U_length, Dp.dig_length]
          have hi32 : (Tryd.prog.info? 24).map (·.size) = some (U (Dp.dig zs)).length := by rw [hdl]; kernel_rfl
          have HI := mkH hi32
          have HDL := mkH hdl
          have HLo5' := mkH hLo5
          clear hi32 hdl hb5 HLo5 hLo5 HT5
          go_upto_region 18 with (first
            | (refine wpList_alloc_agg rfl 24 rfl 32 (by kernel_rfl) ?_; intro Z hZ)
            | (refine wpList_store_new rfl 24 (.tmp 8) (.tmp 45) rfl w5 Z rfl (U (Dp.dig zs)) rfl HI.out (by rw [hZ, HDL.out]) (U_one _) ?_))
          have hW6 : ∃ w6, w6 = w5.alloc (.cells (U (Dp.dig zs)).toArray 24) ∧ Below w5.heap.size w5 w6 ∧ w6.heap[w5.heap.size]? = some (.cells (U (Dp.dig zs)).toArray 24 (0, 0)) := ⟨_, rfl, (Below.refl _ _).alloc (Nat.le_refl _) _, heap_alloc_new _ _⟩
          obtain ⟨w6, hw6, hb6, hg6⟩ := hW6
          rw [← hw6]
          have HLo6 := mkH (HLo5'.out.below hb6)
          generalize w5.heap.size = gd at hg6 ⊢
          clear hb6 hw6 hZ HI HDL HLo5'
          have hall := fun W => run_arr_all (P := Tryd.prog) W 24 5 32 Tryd.underlying24 (by kernel_rfl) (by decide) gd 0
          have hrow := row_of_block hg6
          have hst := strW hrow 32
          have hst0 := strW0 hrow 32
          have hstd := strD hrow 32
          rw [Dp.dig_length] at hst hst0 hstd
          have HR := mkH hrow
          have H2000 : Hid (zs.length ≤ 50000) := by have := HZL.out; unfold Hid; omega
          clear hrow hg6
          have HRW : Hid (Row w6 a4 zs) := by obtain ⟨_, _, e1, h1, _⟩ := Sl.own HLo6.out.1; simp only [Value.slice.injEq] at e1; rw [e1.1]; exact h1.1
          go_frame
          go_cut [0, 3, 4, 5, 58] (fun v0 v3 v4 v5 v58 wc => v0 = .slice (some ⟨b, off, none⟩) ps.length cap ∧ v3 = .pointer (some ⟨g, 0, none⟩) ∧ v4 = .slice a4 zs.length c4 ∧ v5 = .int .i64 k ∧ v58 = .bool false ∧ Below w6.heap.size w6 wc)
          case first =>
            go_region_with (first
              | (go_at_call 18; refine (len_any _ g zs ?_).mono ?_; exact HLo6.out.2.1; rintro e u0 ⟨rfl, rfl⟩)
              | (go_at_call 11; refine (Dr3.refOf_any _ a4 c4 zs ?_ ?_).mono ?_; exact HRW.out; exact H2000.out; rintro e u1 ⟨v1, rfl, hown1, hu1⟩; have hu1 : Below w6.heap.size w6 u1 := ⟨hu1.os, hu1.tape, hu1.output, hu1.size, hu1.block⟩; obtain ⟨ar, cr, rfl, hsr, -⟩ := Sl.own hown1; rw [Dp.dig_length]; have hsr1 := strW hsr.1 cr; have hsr0 := strW0 hsr.1 cr; have hsrd := strD hsr.1 cr; rw [Dp.dig_length] at hsr1 hsr0 hsrd; have hst1 := strW (HR.out.below hu1) 32; have hst10 := strW0 (HR.out.below hu1) 32; have hst1d := strD (HR.out.below hu1) 32; rw [Dp.dig_length] at hst1 hst10 hst1d; clear hown1 hsr))
            all_goals
              go_wp2_with fail
              go_meet
              refine ⟨rfl, rfl, rfl, rfl, ?_, ?_⟩
              · rfl
              · exact ⟨hu1.os, hu1.tape, hu1.output, hu1.size, hu1.block⟩
          case rest =>
            obtain ⟨hx0, hx3, hx4, hx5, hx58, hbc⟩ := hcut
            subst hx0 hx3 hx4 hx5 hx58
            have HLo7 := mkH (HLo6.out.below hbc)
            clear hbc HLo6 HR H2000 HRW hall hst hst0 hstd t0
            go_wp2_with fail
            refine ⟨⟨k + 1, zs, by omega, by omega, by go_num, HZL.out, HLo7.out⟩, ?_⟩
            simp [intOf]; omega
    · have hE := hlt
      have HLo := mkH hLo
      have HTr := mkH (HT.out.below hLo.2.2.1 hT0)
      have HXL : Hid (xs.length ≤ 24000) := by unfold Hid; omega
      clear hLo hxl HP HT
      by_cases hk0 : k < ps.length
      · obtain rfl : k = 12 := by omega
        have t1 : decide ((12 : Int) < (ps.length : Int)) = true := by simp; omega
        go_wp2_with fail
        refine (sum_any _ g xs HTr.out HLo.out.2.1 (by have := HXL.out; omega)).mono ?_
        rintro e w5 ⟨rfl, hb5⟩
        have hLo5 := HLo.out.below hb5
        have hdl : (U (Dp.dig xs)).length = 32 := by rw [U_length, Dp.dig_length]
        have hi32 : (Tryd.prog.info? 24).map (·.size) = some (U (Dp.dig xs)).length := by rw [hdl]; kernel_rfl
        have HI := mkH hi32
        have HDL := mkH hdl
        have HLo5 := mkH hLo5
        have HT5 := mkH (HTr.out.below hb5 HTr.out.size)
        clear hi32 hdl hb5 HLo hLo5 HTr
        go_wp2_with (first
          | (refine wpList_alloc_agg rfl 24 rfl 32 (by kernel_rfl) ?_; intro Z hZ)
          | (refine wpList_store_new rfl 24 (.tmp 9) (.tmp 60) rfl w5 Z rfl (U (Dp.dig xs)) rfl HI.out (by rw [hZ, HDL.out]) (U_one _) ?_))
        have hW4 : ∃ w4, w4 = w5.alloc (.cells (U (Dp.dig xs)).toArray 24) ∧ Below w5.heap.size w5 w4 ∧ w4.heap[w5.heap.size]? = some (.cells (U (Dp.dig xs)).toArray 24 (0, 0)) := ⟨_, rfl, (Below.refl _ _).alloc (Nat.le_refl _) _, heap_alloc_new _ _⟩
        obtain ⟨w4, hw4, hb4, hg4⟩ := hW4
        rw [← hw4]
        have HLo6 := mkH (HLo5.out.below hb4)
        have HT4 := mkH (HT5.out.below hb4 HT5.out.size)
        generalize w5.heap.size = gd at hg4 ⊢
        clear hb4 hw4 hZ HI HDL HLo5 HT5
        have hall := fun W => run_arr_all (P := Tryd.prog) W 24 5 32 Tryd.underlying24 (by kernel_rfl) (by decide) gd 0
        have hrow := row_of_block hg4
        have hst := strW hrow 32
        have hst0 := strW0 hrow 32
        have hstd := strD hrow 32
        rw [Dp.dig_length] at hst hst0 hstd
        have HR := mkH hrow
        have H2000 : Hid (xs.length ≤ 50000) := by have := HXL.out; unfold Hid; omega
        have HRW : Hid (Row w4 aa xs) := by obtain ⟨_, _, e1, h1, _⟩ := Sl.own HLo6.out.1; simp only [Value.slice.injEq] at e1; rw [e1.1]; exact h1.1
        clear hrow hg4
        go_region_with (first
          | (go_at_call 11; refine (Dr3.refOf_any _ aa ca xs ?_ ?_).mono ?_; exact HRW.out; exact H2000.out; rintro e u1 ⟨v1, rfl, hown1, hu1⟩; have hu1 : Below w4.heap.size w4 u1 := ⟨hu1.os, hu1.tape, hu1.output, hu1.size, hu1.block⟩; obtain ⟨ar, cr, rfl, hsr, -⟩ := Sl.own hown1; rw [Dp.dig_length]; have hsr1 := strW hsr.1 cr; have hsr0 := strW0 hsr.1 cr; have hsrd := strD hsr.1 cr; rw [Dp.dig_length] at hsr1 hsr0 hsrd; have hst1 := strW (HR.out.below hu1) 32; have hst10 := strW0 (HR.out.below hu1) 32; have hst1d := strD (HR.out.below hu1) 32; rw [Dp.dig_length] at hst1 hst10 hst1d; have hT1 := mkH (HT4.out.below hu1 HT4.out.size); clear hown1 hsr)
          | (go_at_call 14; refine (works_any _ ?_).mono ?_; exact hT1.out; rintro e u4 ⟨rfl, hu4⟩; have hu4 : Below u1.heap.size u1 u4 := ⟨hu4.os, hu4.tape, hu4.output, hu4.size, hu4.block⟩; have hu4 : Below w4.heap.size w4 u4 := hu1.trans (hu4.mono hu1.size)))
        all_goals
          go_wp2_with fail
          go_ret
          exact ⟨rfl, HLo6.out.2.2.1.trans (hu4.mono HLo6.out.2.2.1.size)⟩
      · have t1 : decide ((k : Int) < (ps.length : Int)) = false := by simp; omega
        go_wp2_with fail
        refine (sum_any _ g xs HTr.out HLo.out.2.1 (by have := HXL.out; omega)).mono ?_
        rintro e w5 ⟨rfl, hb5⟩
        have hLo5 := HLo.out.below hb5
        have hdl : (U (Dp.dig xs)).length = 32 := by rw [U_length, Dp.dig_length]
        have hi32 : (Tryd.prog.info? 24).map (·.size) = some (U (Dp.dig xs)).length := by rw [hdl]; kernel_rfl
        have HI := mkH hi32
        have HDL := mkH hdl
        have HLo5 := mkH hLo5
        have HT5 := mkH (HTr.out.below hb5 HTr.out.size)
        clear hi32 hdl hb5 HLo hLo5 HTr
        go_wp2_with (first
          | (refine wpList_alloc_agg rfl 24 rfl 32 (by kernel_rfl) ?_; intro Z hZ)
          | (refine wpList_store_new rfl 24 (.tmp 9) (.tmp 60) rfl w5 Z rfl (U (Dp.dig xs)) rfl HI.out (by rw [hZ, HDL.out]) (U_one _) ?_))
        have hW4 : ∃ w4, w4 = w5.alloc (.cells (U (Dp.dig xs)).toArray 24) ∧ Below w5.heap.size w5 w4 ∧ w4.heap[w5.heap.size]? = some (.cells (U (Dp.dig xs)).toArray 24 (0, 0)) := ⟨_, rfl, (Below.refl _ _).alloc (Nat.le_refl _) _, heap_alloc_new _ _⟩
        obtain ⟨w4, hw4, hb4, hg4⟩ := hW4
        rw [← hw4]
        have HLo6 := mkH (HLo5.out.below hb4)
        have HT4 := mkH (HT5.out.below hb4 HT5.out.size)
        generalize w5.heap.size = gd at hg4 ⊢
        clear hb4 hw4 hZ HI HDL HLo5 HT5
        have hall := fun W => run_arr_all (P := Tryd.prog) W 24 5 32 Tryd.underlying24 (by kernel_rfl) (by decide) gd 0
        have hrow := row_of_block hg4
        have hst := strW hrow 32
        have hst0 := strW0 hrow 32
        have hstd := strD hrow 32
        rw [Dp.dig_length] at hst hst0 hstd
        have HR := mkH hrow
        have H2000 : Hid (xs.length ≤ 50000) := by have := HXL.out; unfold Hid; omega
        have HRW : Hid (Row w4 aa xs) := by obtain ⟨_, _, e1, h1, _⟩ := Sl.own HLo6.out.1; simp only [Value.slice.injEq] at e1; rw [e1.1]; exact h1.1
        clear hrow hg4
        go_region_with (first
          | (go_at_call 11; refine (Dr3.refOf_any _ aa ca xs ?_ ?_).mono ?_; exact HRW.out; exact H2000.out; rintro e u1 ⟨v1, rfl, hown1, hu1⟩; have hu1 : Below w4.heap.size w4 u1 := ⟨hu1.os, hu1.tape, hu1.output, hu1.size, hu1.block⟩; obtain ⟨ar, cr, rfl, hsr, -⟩ := Sl.own hown1; rw [Dp.dig_length]; have hsr1 := strW hsr.1 cr; have hsr0 := strW0 hsr.1 cr; have hsrd := strD hsr.1 cr; rw [Dp.dig_length] at hsr1 hsr0 hsrd; have hst1 := strW (HR.out.below hu1) 32; have hst10 := strW0 (HR.out.below hu1) 32; have hst1d := strD (HR.out.below hu1) 32; rw [Dp.dig_length] at hst1 hst10 hst1d; have hT1 := mkH (HT4.out.below hu1 HT4.out.size); clear hown1 hsr)
          | (go_at_call 14; refine (works_any _ ?_).mono ?_; exact hT1.out; rintro e u4 ⟨rfl, hu4⟩; have hu4 : Below u1.heap.size u1 u4 := ⟨hu4.os, hu4.tape, hu4.output, hu4.size, hu4.block⟩; have hu4 : Below w4.heap.size w4 u4 := hu1.trans (hu4.mono hu1.size)))
        all_goals
          go_wp2_with fail
          go_ret
          exact ⟨rfl, HLo6.out.2.2.1.trans (hu4.mono HLo6.out.2.2.1.size)⟩
end Go.Proofs.YtnnhimoihbdopaaDoor.Dpc
