/-
  The contract of count: what a crash left is gone through.
-/
import Derived.Test.YthmedpabgblddabGreatDoorSgRg
namespace Go.Proofs.YthmedpabgblddabGreatDoor.Sn
open Go.RowKit Go.Shelf Kt Cs Cf Cg Ck Cv Ca Dk Dp Da Db Dc Dd De Sq Sr Sa Sb Sc Se Sf Sh Si Sj Sk Sl Sm Srg Pl
set_option linter.unusedVariables false
attribute [local go_sem] Oper.semAt_some

/-- What holds ahead of each round. -/
def CI (w : World) (F FD : Nat → Prop) (B per : Nat) (va : Option Addr) (n vc : Nat) (Ps : List Nat) (segs : List Sg) (p : Int × Int) (a' : Act) (W : World) : Prop :=
  ∃ (i : Nat) (Ds : List Nat) (u : Nat → Value), i ≤ n ∧ Hid (Full per p segs i ∧ Ct w F FD B per (.slice va n vc) Ps segs p (if i = 0 then 0 else bas segs) (if i = 0 then 0 else bas segs + i * per) i Ds W) ∧
      a' = { tmps := #[.pointer (some ⟨B, 0, none⟩), .pointer (some ⟨w.heap.size, 0, none⟩), .pointer (some ⟨w.heap.size + 1, 0, none⟩), u 3, u 4, u 5, u 6, u 7, u 8, u 9, u 10, u 11, u 12, .pointer (some ⟨B, 0, none⟩), .pointer (some ⟨B, 0, none⟩), .pointer (some ⟨B, 2, none⟩), .slice va n vc, .int .i64 (n : Int), .int .i64 (i : Int), u 19, u 20, u 21, u 22, u 23, u 24, u 25, u 26, u 27, u 28, u 29, u 30, u 31, u 32, u 33, u 34, u 35, u 36, u 37, u 38, u 39, u 40, u 41, u 42, u 43, u 44, u 45, u 46, u 47, u 48, u 49, u 50, u 51, u 52, u 53, u 54, u 55, u 56, u 57, u 58, u 59, u 60, u 61, u 62, u 63, u 64, u 65, u 66, u 67, u 68, u 69, u 70, u 71, u 72, u 73, u 74, u 75, u 76, u 77, u 78, u 79, u 80, u 81, u 82, u 83, u 84, u 85, u 86, u 87, u 88, u 89, u 90, u 91, u 92, u 93, u 94, u 95, u 96, u 97, u 98, u 99, u 100, u 101, u 102, u 103, undef], defers := Ds.map dfr }
theorem CI.mk' {w : World} {F FD : Nat → Prop} {B per : Nat} {va : Option Addr} {n vc : Nat} {Ps : List Nat} {segs : List Sg} {p : Int × Int} {a' : Act} {W : World} (i : Nat) (Ds : List Nat) (hi : i ≤ n) (h : Hid (Full per p segs i ∧ Ct w F FD B per (.slice va n vc) Ps segs p (if i = 0 then 0 else bas segs) (if i = 0 then 0 else bas segs + i * per) i Ds W))
    (ha : a' = { tmps := #[.pointer (some ⟨B, 0, none⟩), .pointer (some ⟨w.heap.size, 0, none⟩), .pointer (some ⟨w.heap.size + 1, 0, none⟩), a'.tmps.getD 3 undef, a'.tmps.getD 4 undef, a'.tmps.getD 5 undef, a'.tmps.getD 6 undef, a'.tmps.getD 7 undef, a'.tmps.getD 8 undef, a'.tmps.getD 9 undef, a'.tmps.getD 10 undef, a'.tmps.getD 11 undef, a'.tmps.getD 12 undef, .pointer (some ⟨B, 0, none⟩), .pointer (some ⟨B, 0, none⟩), .pointer (some ⟨B, 2, none⟩), .slice va n vc, .int .i64 (n : Int), .int .i64 (i : Int), a'.tmps.getD 19 undef, a'.tmps.getD 20 undef, a'.tmps.getD 21 undef, a'.tmps.getD 22 undef, a'.tmps.getD 23 undef, a'.tmps.getD 24 undef, a'.tmps.getD 25 undef, a'.tmps.getD 26 undef, a'.tmps.getD 27 undef, a'.tmps.getD 28 undef, a'.tmps.getD 29 undef, a'.tmps.getD 30 undef, a'.tmps.getD 31 undef, a'.tmps.getD 32 undef, a'.tmps.getD 33 undef, a'.tmps.getD 34 undef, a'.tmps.getD 35 undef, a'.tmps.getD 36 undef, a'.tmps.getD 37 undef, a'.tmps.getD 38 undef, a'.tmps.getD 39 undef, a'.tmps.getD 40 undef, a'.tmps.getD 41 undef, a'.tmps.getD 42 undef, a'.tmps.getD 43 undef, a'.tmps.getD 44 undef, a'.tmps.getD 45 undef, a'.tmps.getD 46 undef, a'.tmps.getD 47 undef, a'.tmps.getD 48 undef, a'.tmps.getD 49 undef, a'.tmps.getD 50 undef, a'.tmps.getD 51 undef, a'.tmps.getD 52 undef, a'.tmps.getD 53 undef, a'.tmps.getD 54 undef, a'.tmps.getD 55 undef, a'.tmps.getD 56 undef, a'.tmps.getD 57 undef, a'.tmps.getD 58 undef, a'.tmps.getD 59 undef, a'.tmps.getD 60 undef, a'.tmps.getD 61 undef, a'.tmps.getD 62 undef, a'.tmps.getD 63 undef, a'.tmps.getD 64 undef, a'.tmps.getD 65 undef, a'.tmps.getD 66 undef, a'.tmps.getD 67 undef, a'.tmps.getD 68 undef, a'.tmps.getD 69 undef, a'.tmps.getD 70 undef, a'.tmps.getD 71 undef, a'.tmps.getD 72 undef, a'.tmps.getD 73 undef, a'.tmps.getD 74 undef, a'.tmps.getD 75 undef, a'.tmps.getD 76 undef, a'.tmps.getD 77 undef, a'.tmps.getD 78 undef, a'.tmps.getD 79 undef, a'.tmps.getD 80 undef, a'.tmps.getD 81 undef, a'.tmps.getD 82 undef, a'.tmps.getD 83 undef, a'.tmps.getD 84 undef, a'.tmps.getD 85 undef, a'.tmps.getD 86 undef, a'.tmps.getD 87 undef, a'.tmps.getD 88 undef, a'.tmps.getD 89 undef, a'.tmps.getD 90 undef, a'.tmps.getD 91 undef, a'.tmps.getD 92 undef, a'.tmps.getD 93 undef, a'.tmps.getD 94 undef, a'.tmps.getD 95 undef, a'.tmps.getD 96 undef, a'.tmps.getD 97 undef, a'.tmps.getD 98 undef, a'.tmps.getD 99 undef, a'.tmps.getD 100 undef, a'.tmps.getD 101 undef, a'.tmps.getD 102 undef, a'.tmps.getD 103 undef, undef], defers := Ds.map dfr }) : CI w F FD B per va n vc Ps segs p a' W := ⟨i, Ds, fun k => a'.tmps.getD k undef, hi, h, ha⟩

set_option maxRecDepth 100000 in
set_option maxHeartbeats 4000000 in
theorem count_any (w : World) (F FD : Nat → Prop) (B per : Nat) (v : Value) (Ps : List Nat) (segs : List Sg) (p : Int × Int) (hT : Tb w) (h0 : ¬ F 0) (h1 : Lr w F FD B per false v 0 0 0 Ps) (h2 : Sk w FD Ps (segs.map (xs p))) (hch : Chn per segs) (hfit : ∀ s ∈ segs, Fits s) (hp1 : 1 ≤ per) (hp2 : per ≤ 1024) (hsl : segs.length ≤ 256) (htop : top segs ≤ 1000000) :
    Calls Tryz.prog 50 #[.pointer (some ⟨B, 0, none⟩)] w fun e w' => e = .returned (.int .i64 ((rs per p segs).length : Int)) ∧ ∃ F' FD' ss', Lr w' F' FD' B per false v (bas (rs per p segs)) (top (rs per p segs)) 0 Ps ∧ Sk w' FD' Ps ss' ∧ ss'.take (rs per p segs).length = (rs per p segs).map (dst none) ∧ Nx F w w' F' := by
  obtain ⟨va, vc, rfl⟩ := own_form h1.row.1
  refine (callsIn_wide (n := 11)).1 ?_
  refine callsIn_of_wp_marks Tryz.func50 rfl trivial ?_ rfl
  simp only [Tryz.ntmps50, List.size_toArray, List.length_cons, List.length_nil, Nat.reduceAdd, Nat.reduceSub, Array.replicate_succ, Array.replicate_zero, List.push_toArray, List.append_toArray, List.nil_append, List.cons_append]
  have hb0 : Below w.heap.size w ((w.alloc (.cells #[.pointer (some ⟨B, 0, none⟩)] 44)).alloc (.cells #[.int .i64 0] 3)) := ((Below.refl _ w).alloc (Nat.le_refl _) _).alloc (by simp) _
  have hc2 := (h1.below hb0).c2
  have hbx1 : ((w.alloc (.cells #[.pointer (some ⟨B, 0, none⟩)] 44)).alloc (.cells #[.int .i64 0] 3)).heap[w.heap.size]? = some (.cells #[.pointer (some ⟨B, 0, none⟩)] 44 (0, 0)) := (Below.heap_alloc _ _ _ (by simp)).trans (heap_alloc_new _ _)
  have hbx2 : ((w.alloc (.cells #[.pointer (some ⟨B, 0, none⟩)] 44)).alloc (.cells #[.int .i64 0] 3)).heap[w.heap.size + 1]? = some (.cells #[.int .i64 0] 3 (0, 0)) := by
    have := heap_alloc_new (w.alloc (.cells #[.pointer (some ⟨B, 0, none⟩)] 44)) (.cells #[.int .i64 0] 3)
    rw [World.size_alloc] at this
    exact this
  have hc1 : ((w.alloc (.cells #[.pointer (some ⟨B, 0, none⟩)] 44)).alloc (.cells #[.int .i64 0] 3)).cell? ⟨w.heap.size, 0, none⟩ = some (.pointer (some ⟨B, 0, none⟩)) := by rw [cell_of_row _ _ _ _ _ _ hbx1]; rfl
  have HSTART : Hid (Ct w F FD B per (.slice va Ps.length vc) Ps segs p 0 0 0 [] ((w.alloc (.cells #[.pointer (some ⟨B, 0, none⟩)] 44)).alloc (.cells #[.int .i64 0] 3))) :=
    ⟨h1.below hb0, h2.below hb0, Fr.ofBelow hb0, hbx1, hbx2, ⟨List.nodup_nil, fun D hD => by simp at hD⟩, fun D hD => by simp at hD⟩
  have HT := mkH hT
  have HL := mkH h1
  have HS := mkH h2
  have HCH := mkH hch
  have HFIT := mkH hfit
  have HTOP := mkH htop
  have HSL := mkH hsl
  obtain ⟨n, hn⟩ : ∃ n, Ps.length = n := ⟨_, rfl⟩
  have HN := mkH hn
  have HNS := mkH (show segs.length = n from by rw [← hn]; have := h2.1; simpa using this.symm)
  have hn2 : n ≤ 256 := by have := HNS.out; omega
  have hBw := h1.blt
  rw [hn] at hc2 HSTART
  rw [hn]
  clear hT h1 h2 hch hfit htop hsl hn hbx1 hbx2
  refine wpIn_wide.2 ?_
  go_wp2_with fail
  go_step3
  go_wp2_with fail
  go_step3
  go_wp2_with fail
  clear hc1 hc2 hb0
  refine wp_loop (CI w F FD B per va n vc Ps segs p)
    (fun a' _ => n - (intOf (a'.tmps.getD 18 undef)).toNat) ?start ?round
  case start => exact CI.mk' 0 [] (Nat.zero_le _) ⟨fun j s hj => by omega, HSTART.out⟩ rfl
  case round =>
    rintro a' W ⟨i, Ds, u, hi, HCt, rfl⟩
    by_cases hin : i = n
    · subst hin
      have cb2 : W.cell? ⟨w.heap.size + 1, 0, none⟩ = some (.int .i64 (i : Int)) := by rw [cell_of_row _ _ _ _ _ _ HCt.out.2.b2]; rfl
      have fb2 : W.frozen? ⟨w.heap.size + 1, 0, none⟩ = false := frozen_of_row W _ 0 _ _ HCt.out.2.b2
      go_wp2_with fail
      rw [Exit.noGoto_ret]
      have hq := HCt.out
      have hnf := full_nums HCH.out hq.1 HFIT.out (by rw [HNS.out]; exact Nat.le_refl _)
      have hrs := rs_full hq.1
      have htk : segs.take i = segs := by rw [← HNS.out, List.take_length]
      have hdk : segs.drop i = [] := by rw [← HNS.out, List.drop_length]
      rw [hdk, show rs per p [] = [] from rfl, List.append_nil] at hrs
      have hFlt : ∀ q, F q → q < w.heap.size := HL.out.lt
      have hlen : i = (rs per p segs).length := by rw [hrs, List.length_map, htk]; exact HNS.out.symm
      refine count_leaves (F' := F) (FD' := FD) (ss' := segs.map (xs p)) hlen (by rw [hrs]; exact hnf.1.symm) (by rw [hrs]; exact hnf.2.symm) hq.2.lr hq.2.sk ?_ ⟨hq.2.fr.mono (fun q x => by rw [x]; exact HL.out.own), fun k hk => .inl hk⟩ hq.2.b2 (fun x => by have := hFlt _ x; omega) hq.2.mks hq.2.mlo (fun D hD x => by have := hFlt _ x; have := hq.2.mlo D hD; omega) rfl
      have := lft_full hq.1 HFIT.out
      rw [← hrs, htk] at this
      rw [this, List.take_of_length_le (by rw [List.length_map]; have := HNS.out; omega)]
    · have hil : i < n := by omega
      obtain ⟨D, hD⟩ := nth (l := Ps) (j := i) (by rw [HN.out]; exact hil)
      obtain ⟨s, hs⟩ := nth (l := segs) (j := i) (by rw [HNS.out]; exact hil)
      have hfs := HFIT.out s (List.mem_of_getElem? hs)
      have hct := HCt.out.2
      have hb1 : Below W.heap.size W (W.alloc (.cells #[.int .i64 (i : Int)] 3)) := (Below.refl _ W).alloc (Nat.le_refl _) _
      have hlr1 := hct.lr.below hb1
      have hbox := heap_alloc_new W (.cells #[.int .i64 (i : Int)] 3)
      have HB0 : Hid (∀ W', Below (W.heap.size + 1) (W.alloc (.cells #[.int .i64 (i : Int)] 3)) W' → W'.heap[W.heap.size]? = some (.cells #[.int .i64 (i : Int)] 3 (0, 0))) := fun W' hb => (hb.block _ (by omega)).trans hbox
      clear hbox
      obtain ⟨g, hg, hcg⟩ := lr_at (ao := va) (n := n) (cap := vc) hct.lr hD
      subst hg
      obtain ⟨G, d1, -, -⟩ := (hct.sk.below hb1).at hlr1.fdlt hD (by rw [List.getElem?_map, hs]; rfl)
      have ht := Dc.read_any d1
      have e1 : redB (xs p s) = X p s := by simp [redB, xs]
      have e2 : redE (xs p s) = 0 := rfl
      rw [e1, e2] at ht
      have hXl := X_len (p := p) hfs
      have HRD := mkH ht
      have HS1 := mkH hs
      have HD := mkH hD
      have HFS := mkH hfs
      clear ht e1 e2 d1 hs hD hfs hlr1 hct
      have hTW := tb_fr HT.out HCt.out.2.fr (fun x => h0 (by have := HL.out.own; rw [← x] at this; exact this))
      have HTW := mkH hTW
      clear hTW
      go_wp2_with fail
      refine HRD.out.mono ?_
      rintro e w2 ⟨v2, rfl, ⟨bA, bC, rfl, hlc, hcm, hr2, hnew⟩, hb2⟩
      have hb12 := hb1.trans (hb2.mono hb1.size)
      have hbb2 : Below (W.heap.size + 1) (W.alloc (.cells #[.int .i64 (i : Int)] 3)) w2 := hb2.mono (by simp)
      have HBB2 := mkH hbb2
      clear hbb2
      obtain ⟨xl, hxl⟩ : ∃ xl, (X p s).length = xl := ⟨_, rfl⟩
      have hgd := good_any w2 bA bC (X p s) (HTW.out.below hb12 HTW.out.size) hr2 (by omega) hlc hcm
      have hen : gend (X p s) = (fcat ((bod s).take (lj s p))).length := Sp.gend_eq (fun y hy => HFS.out.bod2 y (List.mem_of_mem_take hy)) (left_is HFS.out p).2.2.2
      rw [hen] at hgd
      obtain ⟨en, hen2⟩ : ∃ en, (fcat ((bod s).take (lj s p))).length = en := ⟨_, rfl⟩
      obtain ⟨ge, hge⟩ : ∃ ge : Int, ((goodE (X p s) : Nat) : Int) = ge := ⟨_, rfl⟩
      have henx : en ≤ xl := by rw [← hen2, ← hxl]; unfold X; rw [List.length_append]; omega
      rw [hen2, hge, hxl] at hgd
      rw [hxl] at hXl hlc
      rw [hxl]
      have HGD := mkH hgd
      have HR2 := mkH hr2
      have HB12 := mkH hb12
      have HEN := mkH hen2
      have HXL := mkH hxl
      clear hgd hr2 hb2 hb12 hen hen2 hxl hge hnew hb1
      go_wp2_with fail
      refine HGD.out.mono ?_
      rintro e w3 ⟨rfl, hb3⟩
      have hb13 := HB12.out.trans (hb3.mono HB12.out.size)
      have HBB3 := mkH (HBB2.out.trans (hb3.mono (by have := HBB2.out.size; simp at this; omega)))
      have ha := all_any2 w3 bA bC (X p s) (HR2.out.below hb3) (by rw [HXL.out]; omega)
      rw [HXL.out] at ha
      have HA := mkH ha
      have HB13 := mkH hb13
      clear ha hb3 hb13 HGD HB12
      go_wp2_with fail
      refine HA.out.mono ?_
      rintro e W2 ⟨Bx, a2, c2, rfl, hBx1, hBx2, hr2, hc2, hcm2, hlo2, hb2⟩
      have hbW := HB13.out.trans (hb2.mono HB13.out.size)
      have hbW2 := HBB3.out.trans (hb2.mono (by have := HBB3.out.size; simp at this; omega))
      go_wp2_with fail
      have hFlt : ∀ q, F q → q < w.heap.size := HL.out.lt
      have hCtW := HCt.out.2
      have hCt2 := hCtW.below hFlt hbW
      have hsw : w.heap.size ≤ W.heap.size := hCtW.fr.size
      have hb2W : w.heap.size + 1 < W.heap.size := block_lt hCtW.b2
      have hs2 := hbW.size
      have hDW : ∀ D ∈ Ds, D < W2.heap.size := fun D hD => block_lt (hCt2.mks.2 D hD)
      have hi0 : W2.heap[W.heap.size]? = some (.cells #[.int .i64 (i : Int)] 3 (0, 0)) := HB0.out W2 hbW2
      have hWW2 := block_lt hi0
      have hqlt : ∀ q, (q = B ∨ q = w.heap.size + 1) → q < W.heap.size := fun q x => by rcases x with x | x <;> omega
      have hfirst : s.first = bas segs + i * per := (HCH.out.at i s HS1.out).1
      have hfb : s.first ≤ 1000000 := HFS.out.1
      have hljb := (left_is HFS.out p).2.1
      have hlr : s.first + s.recs.length ≤ 1000000 := Nat.le_trans (HCH.out.first s (List.mem_of_getElem? HS1.out)) HTOP.out
      refine wpIn_wide.1 (rf_own (n := 11) (by omega) (gf := 77) (lb := #[.pointer (some ⟨Bx, 0, none⟩)]) rfl (enters_of Tryz.func77 (by kernel_rfl) rfl)
        (all1_seq (fun q => q = B ∨ q = w.heap.size + 1) Bx 30 W2 a2 c2 ((bod s).take (lj s p)) (tl s p) (X p s) rfl (fun y hy => HFS.out.bod2 y (List.mem_of_mem_take hy)) (left_is HFS.out p).2.2.2 (HTW.out.below hbW HTW.out.size)
          hr2 (by rw [HXL.out]; omega) (by rw [HXL.out]; exact hc2) hcm2 (by rw [HXL.out]; exact hBx2) (fun x => by rcases x with x | x; exact h0 (by have := HL.out.own; rw [← x] at this; exact this); omega) (fun y => by have := hqlt _ y; have := HB13.out.size; omega) (fun _ b off e y => by have := hqlt _ y; have := hlo2 b off e; have := HB13.out.size; omega) (fun q y => by have := hqlt q y; omega))
        (Below.refl _ _) (fun q y => by have := hqlt q y; omega) rfl
        (fun k W' => Ct w F FD B per (.slice (some ⟨g, 0, none⟩) n vc) Ps segs p (bse segs i k) (nxt segs per i s k) (lfc i k) Ds W' ∧ W'.heap[W.heap.size]? = some (.cells #[.int .i64 (i : Int)] 3 (0, 0)))
        ?hI ?h0
        (fun pl b aq cq => { tmps := #[.pointer (some ⟨B, 0, none⟩), .pointer (some ⟨w.heap.size, 0, none⟩), .pointer (some ⟨w.heap.size + 1, 0, none⟩), .pointer (some ⟨W.heap.size, 0, none⟩), .pointer (some ⟨D, 0, none⟩), .slice bA xl bC, .int .i64 0, .int .i64 (en : Int), .int .i64 ge, .int .i64 (pl : Int), .slice aq b.length cq, u 11, u 12, .pointer (some ⟨B, 0, none⟩), .pointer (some ⟨B, 0, none⟩), .pointer (some ⟨B, 2, none⟩), .slice (some ⟨g, 0, none⟩) n vc, .int .i64 (n : Int), .int .i64 (i : Int), .bool true, .int .i64 (i : Int), .pointer (some ⟨g, i, none⟩), .pointer (some ⟨D, 0, none⟩), .tuple #[.slice bA xl bC, .int .i64 0], .pointer (some ⟨D, 0, none⟩), .tuple #[.slice bA xl bC, .int .i64 0], .slice bA xl bC, .int .i64 0, .tuple #[.int .i64 (en : Int), .int .i64 ge], .slice bA xl bC, .tuple #[.int .i64 (en : Int), .int .i64 ge], .int .i64 (en : Int), .int .i64 ge, .slice bA xl bC, .func (.func 77) #[] #[.pointer (some ⟨Bx, 0, none⟩)], .int .i64 (pl : Int), .slice aq b.length cq, u 37, u 38, u 39, u 40, u 41, u 42, u 43, u 44, u 45, u 46, u 47, u 48, u 49, u 50, u 51, u 52, u 53, u 54, u 55, u 56, u 57, u 58, u 59, u 60, u 61, u 62, u 63, u 64, u 65, u 66, u 67, u 68, u 69, u 70, u 71, u 72, u 73, u 74, u 75, u 76, u 77, u 78, u 79, u 80, u 81, u 82, u 83, u 84, u 85, u 86, u 87, u 88, u 89, u 90, u 91, u 92, u 93, u 94, u 95, u 96, u 97, u 98, u 99, u 100, u 101, u 102, u 103, undef], defers := [] }) ?assign ?body ?done)
      case hI =>
        rintro k A B' row ⟨hCt, hbx⟩ hg hrow
        exact ⟨hCt.keep hFlt (fr_grown hg) (fun q hq => ⟨by have := (hrow q hq).1; omega, fun hD => by have := (hrow q hq).1; have := hDW q hD; omega, fun o ho => by obtain ⟨-, o', ho', hoc⟩ := hrow q hq; rw [ho] at ho'; cases ho'; exact hoc⟩), (hg.block _ (block_lt hbx) (fun e => by have := (hrow _ e.symm).1; omega)).trans hbx⟩
      case h0 => exact ⟨hCt2, hi0⟩
      case assign =>
        intro l' pl b aq cq W' K hK
        gi_wp2
        exact hK
      case body =>
        rintro l' k pl b aq cq W0 Wb hl1 ⟨r, hr0⟩ hm ⟨hCt0, hbx0⟩ hfb' - hRl hL hrow
        obtain ⟨hkl, hpl, hbb⟩ := prs_of hL
        have hne : W.heap.size ≠ l' := by omega
        have hCtb := hCt0.keep hFlt hfb' (fun q e => by subst e; exact ⟨by omega, fun hD => by have := hDW q hD; omega, fun o ho => by rw [hr0] at ho; cases ho; rfl⟩)
        have hbxb := (hfb'.heap (block_lt hbx0) hne).trans hbx0
        have cB1 : Wb.cell? ⟨w.heap.size, 0, none⟩ = some (.pointer (some ⟨B, 0, none⟩)) := by rw [cell_of_row _ _ _ _ _ _ hCtb.b1]; rfl
        have cB2 : Wb.cell? ⟨w.heap.size + 1, 0, none⟩ = some (.int .i64 (lfc i k : Int)) := by rw [cell_of_row _ _ _ _ _ _ hCtb.b2]; rfl
        have fB2 := frozen_of_row Wb (w.heap.size + 1) 0 _ _ hCtb.b2
        have cB3 : Wb.cell? ⟨W.heap.size, 0, none⟩ = some (.int .i64 (i : Int)) := by rw [cell_of_row _ _ _ _ _ _ hbxb]; rfl
        have cN := hCtb.lr.c4
        have fN := hCtb.lr.fz 4
        have cS := hCtb.lr.c3
        have fS := hCtb.lr.fz 3
        have HCB := mkH hCtb
        have HBX := mkH hbxb
        rw [List.length_take, bod_len] at hkl
        have hbk : ((bod s).take (lj s p)).getD k [] = (bod s).getD k [] := by simp [List.getD, show k < lj s p by omega]
        rw [hbk] at hbb
        by_cases hk0 : k = 0
        · subst hk0
          have hp0 : pl = 0 := hpl.trans (off_zero _)
          have t1 : decide ((0 : Int) < (pl : Int)) = false := by simp [hp0]
          have t2 : ¬ (0 : Int) < (pl : Int) := by omega
          have hbe : b = enc s.first := by rw [hbb]; rfl
          subst hbe
          have hn1 : nxt segs per i s 1 = s.first := by simp [nxt]
          have hb1' : bse segs i 1 = bas segs := by simp [bse]
          have hl0 : lfc i 0 = i := by simp [lfc]
          have hl1' : lfc i 1 = i + 1 := by simp [lfc]
          rw [hl0] at cB2
          have hrd := readHead_ok Wb aq cq s.first hfb hrow
          have HRH := mkH hrd
          obtain ⟨ml, hml⟩ : ∃ ml, (enc s.first).length = ml := ⟨_, rfl⟩
          rw [hml] at HRH
          rw [hml]
          have HNK := mkH (And.intro hn1 (And.intro hb1' (And.intro hl0 hl1')))
          have hd : 1 ≤ 11 - 1 - 1 := by omega
          by_cases hi00 : i = 0
          · have hn0 : nxt segs per i s 0 = 0 := by simp [nxt, hi00]
            have hb0' : bse segs i 0 = 0 := by simp [bse, hi00]
            have hbs : bas segs = s.first := by rw [hfirst, hi00]; simp
            rw [hn0] at cN
            rw [hb0'] at cS
            have HBS := mkH hbs
            have t3 : decide ((0 : Int) < (i : Int)) = false := by simp [hi00]
            have t4 : ((i : Int) == (0 : Int)) = true := by simp [hi00]
            have hmx : Tryz.prog.follows .mixedOrders = true := by kernel_rfl
            have hibb : i ≤ 256 := by omega
            clear hCt0 hCtb hbx0 hbxb hL hpl hbb hbk hrow hRl hkl hfirst hlr hljb hrd hp0 hn1 hb1' hl0 hl1' hn0 hb0' hbs hml hi00
            generalize s.first = fi at *
            gi_wp2_with (refine ⟨trivial, ?_⟩; gi_at_call 72; refine (CallsIn.inRound l' (callsIn_wide.2 HRH.out)).mono ?_; rintro e w3 ⟨rfl, hw3⟩; have hw3' := hw3.symm; subst hw3'; clear hw3)
            have hc3 := HCB.out.num hBw 3 _ _ _ (HCB.out.lr.setBase fi)
            have hc4' := hc3.num hBw 4 _ _ _ (hc3.lr.setNext fi)
            have hf3 := lr_set HCB.out.lr 3 (.int .i64 (fi : Int))
            have hf4' := hf3.trans (lr_set hc3.lr 4 (.int .i64 (fi : Int))) (fun q x => .inl x)
            have hc4 := hc4'.below hFlt (W' := ((Wb.setCell ⟨B, 3, none⟩ (.int .i64 (fi : Int))).setCell ⟨B, 4, none⟩ (.int .i64 (fi : Int))).drew) ⟨rfl, rfl, rfl, Nat.le_refl _, fun _ _ => rfl⟩
            have hf4 : Fr (fun q => q = B) Wb ((Wb.setCell ⟨B, 3, none⟩ (.int .i64 (fi : Int))).setCell ⟨B, 4, none⟩ (.int .i64 (fi : Int))).drew := hf4'.trans (G := fun _ => False) ⟨rfl, rfl, rfl, Nat.le_refl _, fun _ _ _ => rfl⟩ (fun q x => x.elim)
            have l4 : ((Wb.setCell ⟨B, 3, none⟩ (.int .i64 (fi : Int))).setCell ⟨B, 4, none⟩ (.int .i64 (fi : Int))).drew.cell? ⟨w.heap.size + 1, 0, none⟩ = some (.int .i64 (i : Int)) := by
              rw [cell_of_row _ _ _ _ _ _ hc4.b2, HNK.out.2.2.1]; rfl
            have g4 := frozen_of_row _ (w.heap.size + 1) 0 _ _ hc4.b2
            have HC4 := mkH hc4
            have HF4 := mkH hf4
            clear hc3 hc4 hc4' hf3 hf4 hf4'
            have hrule : ∀ (b : Nat) (v : Value), b ≠ B → Wb.cell? ⟨b, 0, none⟩ = some v → ∀ (j : Nat) (u : Value), (Wb.drew.setCell ⟨B, j, none⟩ u).cell? ⟨b, 0, none⟩ = some v := fun b v hb hv j u => (World.cell?_of_block (w := Wb.drew) (Below.heap_setCell _ _ _ _ hb)).trans hv
            have r1 := hrule w.heap.size _ (by omega) cB1
            refine region_round l' hmx (by kernel_rfl) ?_
            refine wpAnyIn_take (i := 2) (v := .int .i64 (fi : Int)) rfl rfl (by kernel_rfl) (by kernel_rfl) (by kernel_rfl) (fun _ _ _ h => h) ⟨Or.inl ⟨by rfl, fun w => by go_simp⟩, fun _ => rfl⟩ ?_
            refine wpAnyIn_take (i := 3) (v := .int .i64 (fi : Int)) rfl rfl (by kernel_rfl) (by kernel_rfl) (by kernel_rfl) (fun _ _ _ h => h) ⟨Or.inl ⟨by rfl, fun w => by go_simp⟩, fun _ => rfl⟩ ?_
            refine wpAnyIn_ready (rs := [0, 1]) (by kernel_rfl) (by simp) ?_
            refine (AllReadyIn.cons rfl (fun K hK => ?_) (AllReadyIn.cons rfl (fun K hK => ?_) AllReadyIn.nil))
            · go_simp
              refine hK _ _ ?_
              clear hK K
              refine wpAnyIn_take (i := 4) (v := .pointer (some ⟨B, 0, none⟩)) rfl rfl (by kernel_rfl) (by kernel_rfl) (by kernel_rfl) (fun _ _ _ h => h) ⟨Or.inl ⟨by rfl, fun w => by go_simp⟩, fun _ => rfl⟩ ?_
              refine wpAnyIn_take (i := 5) (v := .pointer (some ⟨B, 3, none⟩)) rfl rfl (by kernel_rfl) (by kernel_rfl) (by kernel_rfl) (fun _ _ _ h => h) ⟨Or.inl ⟨by rfl, fun w => by go_simp⟩, fun _ => rfl⟩ ?_
              refine wpAnyIn_ready (rs := [1, 6]) (by kernel_rfl) (by simp) ?_
              refine (AllReadyIn.cons rfl (fun K hK => ?_) (AllReadyIn.cons rfl (fun K hK => ?_) AllReadyIn.nil))
              · go_simp
                refine hK _ _ ?_
                clear hK K
                refine wpAnyIn_ready (rs := [6]) (by kernel_rfl) (by simp) ?_
                refine (AllReadyIn.cons rfl (fun K hK => ?_) AllReadyIn.nil)
                go_simp
                refine hK _ _ ?_
                clear hK K
                refine wpAnyIn_take (i := 7) (v := .pointer (some ⟨B, 0, none⟩)) rfl rfl (by kernel_rfl) (by kernel_rfl) (by kernel_rfl) (fun _ _ _ h => h) ⟨Or.inl ⟨by rfl, fun w => by go_simp⟩, fun _ => rfl⟩ ?_
                refine wpAnyIn_take (i := 8) (v := .pointer (some ⟨B, 4, none⟩)) rfl rfl (by kernel_rfl) (by kernel_rfl) (by kernel_rfl) (fun _ _ _ h => h) ⟨Or.inl ⟨by rfl, fun w => by go_simp⟩, fun _ => rfl⟩ ?_
                refine wpAnyIn_ready (rs := [9]) (by kernel_rfl) (by simp) ?_
                refine (AllReadyIn.cons rfl (fun K hK => ?_) AllReadyIn.nil)
                go_simp
                refine hK _ _ ?_
                clear hK K
                refine wpAnyIn_done (by kernel_rfl) ?_ _
                generalize ((Wb.setCell ⟨B, 3, none⟩ (.int .i64 (fi : Int))).setCell ⟨B, 4, none⟩ (.int .i64 (fi : Int))).drew = W4 at HC4 HF4 l4 g4 ⊢
                gi_wp2
                obtain ⟨k1, k2, k3, k4⟩ := HNK.out
                obtain ⟨m1, m2⟩ := HC4.out.lef hFlt (i + 1)
                rw [Int.natCast_add, Int.natCast_one] at m1 m2
                have hfe : Fr (fun q => q = B ∨ q = w.heap.size + 1) Wb _ := (HF4.out.mono (fun q x => .inl x)).trans m2 (fun q x => .inl (.inr x))
                refine ⟨Fm.ofFr hfe, ?_, (hfe.heap (block_lt HBX.out) (fun x => by rcases x with x | x <;> omega)).trans HBX.out⟩
                rw [k1, k2, k4, HBS.out]
                exact m1
              · go_simp
                refine hK _ _ ?_
                clear hK K
                refine wpAnyIn_ready (rs := [1]) (by kernel_rfl) (by simp) ?_
                refine (AllReadyIn.cons rfl (fun K hK => ?_) AllReadyIn.nil)
                go_simp
                refine hK _ _ ?_
                clear hK K
                refine wpAnyIn_take (i := 7) (v := .pointer (some ⟨B, 0, none⟩)) rfl rfl (by kernel_rfl) (by kernel_rfl) (by kernel_rfl) (fun _ _ _ h => h) ⟨Or.inl ⟨by rfl, fun w => by go_simp⟩, fun _ => rfl⟩ ?_
                refine wpAnyIn_take (i := 8) (v := .pointer (some ⟨B, 4, none⟩)) rfl rfl (by kernel_rfl) (by kernel_rfl) (by kernel_rfl) (fun _ _ _ h => h) ⟨Or.inl ⟨by rfl, fun w => by go_simp⟩, fun _ => rfl⟩ ?_
                refine wpAnyIn_ready (rs := [9]) (by kernel_rfl) (by simp) ?_
                refine (AllReadyIn.cons rfl (fun K hK => ?_) AllReadyIn.nil)
                go_simp
                refine hK _ _ ?_
                clear hK K
                refine wpAnyIn_done (by kernel_rfl) ?_ _
                generalize ((Wb.setCell ⟨B, 3, none⟩ (.int .i64 (fi : Int))).setCell ⟨B, 4, none⟩ (.int .i64 (fi : Int))).drew = W4 at HC4 HF4 l4 g4 ⊢
                gi_wp2
                obtain ⟨k1, k2, k3, k4⟩ := HNK.out
                obtain ⟨m1, m2⟩ := HC4.out.lef hFlt (i + 1)
                rw [Int.natCast_add, Int.natCast_one] at m1 m2
                have hfe : Fr (fun q => q = B ∨ q = w.heap.size + 1) Wb _ := (HF4.out.mono (fun q x => .inl x)).trans m2 (fun q x => .inl (.inr x))
                refine ⟨Fm.ofFr hfe, ?_, (hfe.heap (block_lt HBX.out) (fun x => by rcases x with x | x <;> omega)).trans HBX.out⟩
                rw [k1, k2, k4, HBS.out]
                exact m1
            · go_simp
              refine hK _ _ ?_
              clear hK K
              refine wpAnyIn_ready (rs := [0]) (by kernel_rfl) (by simp) ?_
              refine (AllReadyIn.cons rfl (fun K hK => ?_) AllReadyIn.nil)
              go_simp
              refine hK _ _ ?_
              clear hK K
              refine wpAnyIn_take (i := 4) (v := .pointer (some ⟨B, 0, none⟩)) rfl rfl (by kernel_rfl) (by kernel_rfl) (by kernel_rfl) (fun _ _ _ h => h) ⟨Or.inl ⟨by rfl, fun w => by go_simp⟩, fun _ => rfl⟩ ?_
              refine wpAnyIn_take (i := 5) (v := .pointer (some ⟨B, 3, none⟩)) rfl rfl (by kernel_rfl) (by kernel_rfl) (by kernel_rfl) (fun _ _ _ h => h) ⟨Or.inl ⟨by rfl, fun w => by go_simp⟩, fun _ => rfl⟩ ?_
              refine wpAnyIn_ready (rs := [6]) (by kernel_rfl) (by simp) ?_
              refine (AllReadyIn.cons rfl (fun K hK => ?_) AllReadyIn.nil)
              go_simp
              refine hK _ _ ?_
              clear hK K
              refine wpAnyIn_take (i := 7) (v := .pointer (some ⟨B, 0, none⟩)) rfl rfl (by kernel_rfl) (by kernel_rfl) (by kernel_rfl) (fun _ _ _ h => h) ⟨Or.inl ⟨by rfl, fun w => by go_simp⟩, fun _ => rfl⟩ ?_
              refine wpAnyIn_take (i := 8) (v := .pointer (some ⟨B, 4, none⟩)) rfl rfl (by kernel_rfl) (by kernel_rfl) (by kernel_rfl) (fun _ _ _ h => h) ⟨Or.inl ⟨by rfl, fun w => by go_simp⟩, fun _ => rfl⟩ ?_
              refine wpAnyIn_ready (rs := [9]) (by kernel_rfl) (by simp) ?_
              refine (AllReadyIn.cons rfl (fun K hK => ?_) AllReadyIn.nil)
              go_simp
              refine hK _ _ ?_
              clear hK K
              refine wpAnyIn_done (by kernel_rfl) ?_ _
              generalize ((Wb.setCell ⟨B, 3, none⟩ (.int .i64 (fi : Int))).setCell ⟨B, 4, none⟩ (.int .i64 (fi : Int))).drew = W4 at HC4 HF4 l4 g4 ⊢
              gi_wp2
              obtain ⟨k1, k2, k3, k4⟩ := HNK.out
              obtain ⟨m1, m2⟩ := HC4.out.lef hFlt (i + 1)
              rw [Int.natCast_add, Int.natCast_one] at m1 m2
              have hfe : Fr (fun q => q = B ∨ q = w.heap.size + 1) Wb _ := (HF4.out.mono (fun q x => .inl x)).trans m2 (fun q x => .inl (.inr x))
              refine ⟨Fm.ofFr hfe, ?_, (hfe.heap (block_lt HBX.out) (fun x => by rcases x with x | x <;> omega)).trans HBX.out⟩
              rw [k1, k2, k4, HBS.out]
              exact m1
          · have hn0 : nxt segs per i s 0 = s.first := by simp [nxt, hi00, hfirst]
            have hb0' : bse segs i 0 = bas segs := by simp [bse, hi00]
            rw [hn0] at cN
            have HNB := mkH (And.intro hn0 hb0')
            have t3 : decide ((0 : Int) < (i : Int)) = true := by simp; omega
            have t4 : ((i : Int) == (0 : Int)) = false := by simp; omega
            have t5 : (0 : Int) < (i : Int) := by omega
            have hibb : i ≤ 256 := by omega
            clear hCt0 hCtb hbx0 hbxb hL hpl hbb hbk hrow hRl hkl hfirst hlr hljb hrd hp0 hn1 hb1' hl0 hl1' hn0 hb0' hml
            generalize s.first = fi at *
            gi_wp2_with (refine ⟨trivial, ?_⟩; gi_at_call 72; refine (CallsIn.inRound l' (callsIn_wide.2 HRH.out)).mono ?_; rintro e w3 ⟨rfl, hw3⟩; have hw3' := hw3.symm; subst hw3'; clear hw3)
            obtain ⟨k1, k2, k3, k4⟩ := HNK.out
            obtain ⟨m1, m2⟩ := HCB.out.lef hFlt (i + 1)
            rw [Int.natCast_add, Int.natCast_one] at m1 m2
            refine ⟨Fm.ofFr (m2.mono (fun q x => .inr x)), ?_, (m2.heap (block_lt HBX.out) (by omega)).trans HBX.out⟩
            rw [k1, k2, k4]
            rw [HNB.out.1, HNB.out.2] at m1
            exact m1
        · have hp12 : 12 ≤ pl := by rw [hpl]; exact off_pos hk0 (by rw [List.length_take, bod_len]; exact hkl)
          have t1 : decide ((0 : Int) < (pl : Int)) = true := by simp; omega
          have t2 : (0 : Int) < (pl : Int) := by omega
          have hnk : nxt segs per i s k = s.first + (k - 1) := by unfold nxt; rw [if_neg hk0]
          have hnk2 : nxt segs per i s (k + 1) = s.first + (k - 1) + 1 := by unfold nxt; rw [if_neg (by omega)]; omega
          have hbk2 : bse segs i (k + 1) = bse segs i k := by unfold bse; rw [if_neg hk0, if_neg (by omega)]
          have hlk2 : lfc i (k + 1) = lfc i k := by unfold lfc; rw [if_neg hk0, if_neg (by omega)]
          rw [hnk] at cN
          obtain ⟨NN, hNN⟩ : ∃ NN, s.first + (k - 1) = NN := ⟨_, rfl⟩
          have hNb : NN ≤ 1000000 := by omega
          rw [hNN] at cN hnk hnk2
          have HNK := mkH (And.intro hnk (And.intro hnk2 (And.intro hbk2 hlk2)))
          clear hCt0 hCtb hbx0 hbxb hL hpl hbb hbk hnk hnk2 hbk2 hlk2 hNN hrow hRl hkl hfirst hfb hlr hljb cS fS cB2 fB2 cB3
          gi_wp2
          obtain ⟨k1, k2, k3, k4⟩ := HNK.out
          have hset := HCB.out.lr.setNext (NN + 1)
          rw [Int.natCast_add, Int.natCast_one] at hset
          have hfr := lr_set HCB.out.lr 4 (.int .i64 ((NN : Int) + 1))
          refine ⟨Fm.ofFr (hfr.mono (fun q x => .inl x)), ?_, (hfr.heap (block_lt HBX.out) (by omega)).trans HBX.out⟩
          rw [k2, k3, k4]
          exact HCB.out.num hBw 4 _ _ _ hset
      case done =>
        rintro D' W' hD' ⟨hCt, hbx⟩ hK
        have hlen : (prs ((bod s).take (lj s p))).length = lj s p := by rw [prs_len, List.length_take, bod_len]; omega
        rw [hlen] at hCt
        have hDs : Mk (D' :: Ds) W' := ⟨List.nodup_cons.2 ⟨fun hx => by have := hDW D' hx; omega, hCt.mks.1⟩, fun E hE => by rcases List.mem_cons.1 hE with rfl | hE; exact hK; exact hCt.mks.2 E hE⟩
        have hDlo : ∀ E ∈ D' :: Ds, w.heap.size ≤ E := fun E hE => by rcases List.mem_cons.1 hE with rfl | hE; omega; exact hCt.mlo E hE
        have hsl : s.recs.length ≤ per := HCH.out.all s (List.mem_of_getElem? HS1.out)
        have hnk : nxt segs per i s (lj s p) = bse segs i (lj s p) + (i * per + (lj s p - 1)) := by
          unfold nxt bse
          split
          · split
            · rename_i e1 e2; rw [e1, e2]; simp
            · rename_i e1 e2; rw [e1]; simp
          · rw [hfirst]; omega
        have cB1 : W'.cell? ⟨w.heap.size, 0, none⟩ = some (.pointer (some ⟨B, 0, none⟩)) := by rw [cell_of_row _ _ _ _ _ _ hCt.b1]; rfl
        have cB2 : W'.cell? ⟨w.heap.size + 1, 0, none⟩ = some (.int .i64 (lfc i (lj s p) : Int)) := by rw [cell_of_row _ _ _ _ _ _ hCt.b2]; rfl
        have fB2 := frozen_of_row W' (w.heap.size + 1) 0 _ _ hCt.b2
        have cB3 : W'.cell? ⟨W.heap.size, 0, none⟩ = some (.int .i64 (i : Int)) := by rw [cell_of_row _ _ _ _ _ _ hbx]; rfl
        have c0 := hCt.lr.c0
        have c3 := hCt.lr.c3
        have c4 := hCt.lr.c4
        obtain ⟨K, hK2⟩ : ∃ K, i * per + (lj s p - 1) = K := ⟨_, rfl⟩
        obtain ⟨M, hM⟩ : ∃ M, (i + 1) * per = M := ⟨_, rfl⟩
        have hMm : M = i * per + per := by rw [← hM, Nat.add_mul]; omega
        have hMb : M ≤ 300000 := by
          rw [← hM]
          exact Nat.le_trans (Nat.mul_le_mul (show i + 1 ≤ 256 by omega) hp2) (by decide)
        have hbb : bse segs i (lj s p) ≤ 1000000 := by
          have hbt := bas_top HCH.out
          have := HTOP.out
          unfold bse
          split
          · split <;> omega
          · omega
        rw [hK2] at hnk
        rw [hnk] at c4
        obtain ⟨bb, hbbe⟩ : ∃ bb, bse segs i (lj s p) = bb := ⟨_, rfl⟩
        obtain ⟨lf, hlf⟩ : ∃ lf, lfc i (lj s p) = lf := ⟨_, rfl⟩
        rw [hbbe] at c3 c4 hbb
        rw [hlf] at cB2
        have hsub : ((bb + K : Nat) : Int) - (bb : Int) = (K : Int) := by omega
        have hmul : ((i : Int) + 1) * (per : Int) = (M : Int) := by rw [← hM]; simp
        have hKb : K ≤ 1000000 := by omega
        obtain ⟨T, hTT⟩ : ∃ T, bb + K = T := ⟨_, rfl⟩
        rw [hTT] at c4 hsub
        have hTb : T ≤ 2000000 := by omega
        have HCT := mkH hCt
        have HDS := mkH hDs
        have HDL := mkH hDlo
        have HNK := mkH (And.intro hnk (And.intro hbbe (And.intro hlf hTT)))
        have HK := mkH hK2
        clear hCt hbx hK hDs hDlo hnk hbbe hlf hTT hK2 hlen hfirst hlr hfb hM
        rw [show ({ target := .collected D', args := #[] } : Deferred) :: Ds.map dfr = (D' :: Ds).map dfr from rfl]
        by_cases hgo : tl s p = [] ∧ lj s p = per + 1
        · have hxe : en = xl := by rw [← HEN.out, ← HXL.out]; unfold X; rw [hgo.1, List.append_nil]
          have t1 : decide ((en : Int) < (xl : Int)) = false := by simp; omega
          have t2 : decide ((K : Int) < (M : Int)) = false := by have := HK.out; simp; omega
          have t3 : ¬ en < xl := by omega
          have t1' : decide (en < xl) = false := by simp; omega
          have t2' : decide (K < M) = false := by have := HK.out; simp; omega
          have t4 : ¬ K < M := by have := HK.out; omega
          have HGO := mkH hgo
          clear hgo hljb hMm hxe henx hXl
          go_wp2_with fail
          go_quiet (fail)
          go_wp2_with fail
          have hbq : Below W'.heap.size W' (W'.drewN nq) := below_drewN (Below.refl _ _) nq
          have hCq := HCT.out.below hFlt hbq
          have hlz : lj s p ≠ 0 := by have := HGO.out.2; omega
          have hfull : Full per p segs (i + 1) := fun j t hj ht => by
            by_cases hji : j = i
            · subst hji; rw [HS1.out] at ht; cases ht; exact ⟨HGO.out.2, HGO.out.1⟩
            · exact HCt.out.1 j t (by omega) ht
          have e1 : bse segs i (lj s p) = (if i + 1 = 0 then 0 else bas segs) := by unfold bse; rw [if_neg hlz, if_neg (by omega)]
          have e2 : nxt segs per i s (lj s p) = (if i + 1 = 0 then 0 else bas segs + (i + 1) * per) := by
            have hfi : s.first = bas segs + i * per := (HCH.out.at i s HS1.out).1
            have := HGO.out.2
            unfold nxt; rw [if_neg hlz, if_neg (by omega), hfi, Nat.add_mul]; omega
          have e3 : lfc i (lj s p) = i + 1 := by unfold lfc; rw [if_neg hlz]
          refine ⟨CI.mk' (i + 1) (D' :: Ds) (by omega) ⟨hfull, ?_⟩ rfl, by simp [intOf]; omega⟩
          rw [← e1, ← e2, ← e3]
          exact ⟨hCq.lr, hCq.sk, hCq.fr, hCq.b1, hCq.b2, ⟨HDS.out.1, fun E hE => HDS.out.2 E hE⟩, HDL.out⟩
        · have HNG := mkH hgo
          by_cases hlt : en < xl
          · have t1 : decide ((en : Int) < (xl : Int)) = true := by simp; omega
            have t1' : decide (en < xl) = true := by simp; omega
            have t3 : en < xl := hlt
            clear hgo hljb hMm henx hXl hlt
            go_wp2_with fail
            go_quiet (fail)
            go_wp2_with fail
            have hbq : Below W'.heap.size W' (W'.drewN nq) := below_drewN (Below.refl _ _) nq
            have hCq := HCT.out.below hFlt hbq
            obtain ⟨GF, GFD, gg1, gg2⟩ := (hCq.sk).at hCq.lr.fdlt HD.out (s := xs p s) (by rw [List.getElem?_map, HS1.out]; rfl)
            refine (Dc.cut_any GFD (en : Int)).mono ?_
            rintro e w5 ⟨rfl, hd5, hn5⟩
            have hlr5 := hCq.lr.disk hn5.1 gg1
            have hsk5 := gg2 w5 GF _ hd5 hn5
            have hnx5 : Nx F w w5 (Nw F (W'.drewN nq) w5) := Nx.trans (F' := F) (w1 := W'.drewN nq) ⟨hCq.fr.mono (fun q x => by rw [x]; exact HL.out.own), fun k hk => .inl hk⟩ (Nw.nx (hn5.1.mono (fun k hk => (hCq.lr.fd k (gg1 k hk)).1)))
            have hb25 := (hn5.1.heap (block_lt hCq.b2) (fun x => by have := hFlt _ (hCq.lr.fd _ (gg1 _ x)).1; omega)).trans hCq.b2
            have hDq : ∀ E ∈ D' :: Ds, (W'.drewN nq).heap[E]? = some (.deferred (some [])) := fun E hE => HDS.out.2 E hE
            have hmk5 : Mk (D' :: Ds) w5 := ⟨HDS.out.1, fun E hE => (hn5.1.heap (block_lt (hDq E hE)) (fun x => by have := hFlt _ (hCq.lr.fd _ (gg1 _ x)).1; have := HDL.out E hE; omega)).trans (hDq E hE)⟩
            have hmF : ∀ E ∈ D' :: Ds, ¬ Nw F (W'.drewN nq) w5 E := fun E hE x => by
              rcases x with x | x
              · have := hFlt _ x; have := HDL.out E hE; omega
              · have := block_lt (hDq E hE); omega
            have hF2 : ¬ Nw F (W'.drewN nq) w5 (w.heap.size + 1) := fun x => by
              rcases x with x | x
              · have := hFlt _ x; omega
              · have := block_lt hCq.b2; omega
            obtain ⟨z1, z2, z3, z4⟩ := HNK.out
            rw [z3] at hb25
            have l5 : w5.cell? ⟨w.heap.size + 1, 0, none⟩ = some (.int .i64 (lf : Int)) := by rw [cell_of_row _ _ _ _ _ _ hb25]; rfl
            have g5 := frozen_of_row w5 (w.heap.size + 1) 0 _ _ hb25
            obtain ⟨r1, r2, r3, r4⟩ := cut_end HCH.out HFIT.out HCt.out.1 HS1.out HNG.out
            rw [z3] at r1
            have HFIN := mkH (fun (tm : Array Value) (htm : tm.getD 2 undef = .pointer (some ⟨w.heap.size + 1, 0, none⟩)) => count_leaves (w := w) (tmps := tm) r1 r2 r3 hlr5 hsk5 (by rw [← HEN.out, ← z3]; exact r4) hnx5 hb25 hF2 hmk5 HDL.out hmF htm)
            clear hCq gg1 gg2 hd5 hn5 hlr5 hsk5 hnx5 hb25 hDq hmk5 hmF hF2 r1 r2 r3 r4 GFD
            go_wp2_with fail
            rw [Exit.noGoto_ret]
            exact HFIN.out _ rfl
          · have hxe : en = xl := by omega
            have htl : tl s p = [] := by
              have q1 := HEN.out
              have q2 := HXL.out
              unfold X at q2
              rw [List.length_append] at q2
              exact List.eq_nil_of_length_eq_zero (by omega)
            have hlp : lj s p ≤ per := by
              have : lj s p ≠ per + 1 := fun e => hgo ⟨htl, e⟩
              omega
            have t1 : decide ((en : Int) < (xl : Int)) = false := by simp; omega
            have t1' : decide (en < xl) = false := by simp; omega
            have t2 : decide ((K : Int) < (M : Int)) = true := by have := HK.out; simp; omega
            have t2' : decide (K < M) = true := by have := HK.out; simp; omega
            have t3 : ¬ en < xl := hlt
            have t4 : K < M := by have := HK.out; omega
            clear hgo hljb hMm henx hXl hlt hxe htl hlp
            go_wp2_with fail
            go_quiet (fail)
            go_wp2_with fail
            have hbq : Below W'.heap.size W' (W'.drewN nq) := below_drewN (Below.refl _ _) nq
            have hCq := HCT.out.below hFlt hbq
            obtain ⟨GF, GFD, gg1, gg2⟩ := (hCq.sk).at hCq.lr.fdlt HD.out (s := xs p s) (by rw [List.getElem?_map, HS1.out]; rfl)
            refine (Dc.cut_any GFD (en : Int)).mono ?_
            rintro e w5 ⟨rfl, hd5, hn5⟩
            have hlr5 := hCq.lr.disk hn5.1 gg1
            have hsk5 := gg2 w5 GF _ hd5 hn5
            have hnx5 : Nx F w w5 (Nw F (W'.drewN nq) w5) := Nx.trans (F' := F) (w1 := W'.drewN nq) ⟨hCq.fr.mono (fun q x => by rw [x]; exact HL.out.own), fun k hk => .inl hk⟩ (Nw.nx (hn5.1.mono (fun k hk => (hCq.lr.fd k (gg1 k hk)).1)))
            have hb25 := (hn5.1.heap (block_lt hCq.b2) (fun x => by have := hFlt _ (hCq.lr.fd _ (gg1 _ x)).1; omega)).trans hCq.b2
            have hDq : ∀ E ∈ D' :: Ds, (W'.drewN nq).heap[E]? = some (.deferred (some [])) := fun E hE => HDS.out.2 E hE
            have hmk5 : Mk (D' :: Ds) w5 := ⟨HDS.out.1, fun E hE => (hn5.1.heap (block_lt (hDq E hE)) (fun x => by have := hFlt _ (hCq.lr.fd _ (gg1 _ x)).1; have := HDL.out E hE; omega)).trans (hDq E hE)⟩
            have hmF : ∀ E ∈ D' :: Ds, ¬ Nw F (W'.drewN nq) w5 E := fun E hE x => by
              rcases x with x | x
              · have := hFlt _ x; have := HDL.out E hE; omega
              · have := block_lt (hDq E hE); omega
            have hF2 : ¬ Nw F (W'.drewN nq) w5 (w.heap.size + 1) := fun x => by
              rcases x with x | x
              · have := hFlt _ x; omega
              · have := block_lt hCq.b2; omega
            obtain ⟨z1, z2, z3, z4⟩ := HNK.out
            rw [z3] at hb25
            have l5 : w5.cell? ⟨w.heap.size + 1, 0, none⟩ = some (.int .i64 (lf : Int)) := by rw [cell_of_row _ _ _ _ _ _ hb25]; rfl
            have g5 := frozen_of_row w5 (w.heap.size + 1) 0 _ _ hb25
            obtain ⟨r1, r2, r3, r4⟩ := cut_end HCH.out HFIT.out HCt.out.1 HS1.out HNG.out
            rw [z3] at r1
            have HFIN := mkH (fun (tm : Array Value) (htm : tm.getD 2 undef = .pointer (some ⟨w.heap.size + 1, 0, none⟩)) => count_leaves (w := w) (tmps := tm) r1 r2 r3 hlr5 hsk5 (by rw [← HEN.out, ← z3]; exact r4) hnx5 hb25 hF2 hmk5 HDL.out hmF htm)
            clear hCq gg1 gg2 hd5 hn5 hlr5 hsk5 hnx5 hb25 hDq hmk5 hmF hF2 r1 r2 r3 r4 GFD
            go_wp2_with fail
            rw [Exit.noGoto_ret]
            exact HFIN.out _ rfl
end Go.Proofs.YthmedpabgblddabGreatDoor.Sn
