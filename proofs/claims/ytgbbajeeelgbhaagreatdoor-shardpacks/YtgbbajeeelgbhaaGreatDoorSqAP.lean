/-
  PlF PlSh PlG KitV, joined by mrg.py.
-/
import Derived.Test.YtgbbajeeelgbhaaGreatDoorSqPM
import Derived.Test.YtgbbajeeelgbhaaGreatDoorRows
import Derived.Test.YtgbbajeeelgbhaaGreatDoorSqAD
import Derived.WalkKit
import Derived.Below
import Derived.Laws.StructEq
import Derived.Deep.QuietTactic
import Derived.Sort.Grow
import Derived.Shelf.SlicesE.Equal
import Derived.Shelf.SlSortCmp.WholeK
import Derived.Shelf.SlSortCmp.NoneTotal
import Derived.Shelf.SlicesG.Cmp
import Derived.Shelf.SlicesQ.IndexFunc
import Derived.Lib.SliceRun
import Derived.Test.YtgbbajeeelgbhaaGreatDoorSqAA

namespace Go.Proofs.YtgbbajeeelgbhaaGreatDoor.Pf
open Go.RowKit Pl Pw Pr
open Kt hiding mkH
set_option linter.unusedVariables false
set_option maxRecDepth 20000

theorem info26 : (Tryz.prog.info? 37).map (fun i => (i.zero, i.size, i.bytes)) = some (some (.agg #[.int .i64 0, .int .i64 0]), 2, 16) := by kernel_rfl

/-- How far two lists are alike. -/
theorem take_succ_eq {α : Type} {a b : List α} {k : Nat} {x y : α} (ha : a[k]? = some x) (hb : b[k]? = some y) (h : a.take k = b.take k) (e : x = y) : a.take (k + 1) = b.take (k + 1) := by
  rw [List.take_add_one, List.take_add_one, h, ha, hb, e]
theorem ne_of_at {a b : List Rg} {k : Nat} {x y : Rg} (ha : a[k]? = some x) (hb : b[k]? = some y) (e : ¬ x = y) : ¬ a = b := by
  intro h; rw [h, hb] at ha; injection ha with ha; exact e ha.symm

set_option maxHeartbeats 1000000 in
theorem same_any (w : World) (aa ab : Option Addr) (ca cb : Nat) (la lb : List Rg) (ha : Rw w aa la) (hb : Rw w ab lb) (hl : la.length ≤ 1000000) :
    Calls Tryz.prog 53 #[.slice aa la.length ca, .slice ab lb.length cb] w fun e w' => e = .returned (.bool (decide (la = lb))) ∧ ∃ q, w' = w.drewN q := by
  obtain ⟨V, hV⟩ : ∃ V, V = decide (la = lb) := ⟨_, rfl⟩
  rw [← hV]
  have HV := mkH hV
  clear hV
  by_cases hn : la.length = lb.length
  · rw [← hn]
    go_enter Tryz.func53, Tryz.ntmps53
    go_wp2
    go_loopw [5] (fun i wr => ∃ k q : Nat, k ≤ la.length ∧ i = .int .i64 k ∧ wr = w.drewN q ∧ Hid (la.take k = lb.take k)) (fun i _ => la.length - (intOf i).toNat)
    case atStart => exact ⟨0, 0, Nat.zero_le _, rfl, rfl, rfl⟩
    case round =>
      obtain ⟨k, q, hk, rfl, rfl, HT⟩ := hrel
      by_cases hlt : k < la.length
      · obtain ⟨⟨r1, r2⟩, hr⟩ := some_of hlt
        obtain ⟨⟨s1, s2⟩, hs⟩ := some_of (show k < lb.length by omega)
        obtain ⟨b1, o1, rfl, hc1⟩ := ha (by omega)
        obtain ⟨b2, o2, rfl, hc2⟩ := hb (by omega)
        obtain ⟨u1, u2⟩ := hc1 k _ hr
        obtain ⟨x1, x2⟩ := hc2 k _ hs
        have u1' : (w.drewN q).cell? ⟨b1, o1 + k * 2, none⟩ = some (.int .i64 r1) := u1
        have u2' : (w.drewN q).cell? ⟨b1, o1 + k * 2 + 1, none⟩ = some (.int .i64 r2) := u2
        have x1' : (w.drewN q).cell? ⟨b2, o2 + k * 2, none⟩ = some (.int .i64 s1) := x1
        have x2' : (w.drewN q).cell? ⟨b2, o2 + k * 2 + 1, none⟩ = some (.int .i64 s2) := x2
        have HR := mkH hr
        have HSS := mkH hs
        have HN := mkH hn
        have e1 := neqR r1 r2 s1 s2
        have g1 := guardR
        have hi : (k : Int) < (la.length : Int) := by omega
        have hi0 : (0 : Int) ≤ (k : Int) := by omega
        clear hc1 hc2 u1 u2 x1 x2 ha hb hr hs hn
        generalize hwq : w.drewN q = wq at u1' u2' x1' x2' ⊢
        have HW := mkH hwq
        clear hwq
        go_wp2_with fail
        go_quiet (fail)
        by_cases he : r1 = s1 ∧ r2 = s2
        · have ht : (!decide (r1 = s1) || !decide (r2 = s2)) = false := by simp [he]
          rw [ht]
          have HEQ := mkH (take_succ_eq HR.out HSS.out HT.out (Prod.ext he.1 he.2))
          clear ht he e1 g1 u1' u2' x1' x2'
          go_wp2
          go_roundw
          case rel => exact ⟨k + 1, q + nq, by omega, by go_num, by rw [← HW.out, World.drewN_drewN], HEQ⟩
          case measure => simp [intOf]; omega
        · have ht : (!decide (r1 = s1) || !decide (r2 = s2)) = true := by simp; omega
          rw [ht]
          have HEQ := mkH (ne_of_at HR.out HSS.out (fun h => he ⟨congrArg Prod.fst h, congrArg Prod.snd h⟩))
          clear ht he e1 g1 u1' u2' x1' x2'
          go_wp2
          go_ret
          refine ⟨?_, q + nq, by rw [← HW.out, World.drewN_drewN]⟩
          rw [HV.out, decide_eq_false HEQ.out]
          rfl
      · have : k = la.length := by omega
        subst this
        clear ha hb
        go_wp2
        go_ret
        refine ⟨?_, q, rfl⟩
        have h1 := HT.out
        rw [List.take_length, List.take_of_length_le (by omega)] at h1
        rw [HV.out, decide_eq_true h1]
        rfl
  · have hn1 : ¬ (la.length : Int) = (lb.length : Int) := by omega
    clear ha hb
    go_enter Tryz.func53, Tryz.ntmps53
    go_wp2
    go_ret
    refine ⟨?_, 0, rfl⟩
    rw [HV.out, decide_eq_false (fun h => hn (by rw [h]))]
    rfl

theorem fnd_step {l : List Rg} {k : Nat} {r : Rg} (p : Int) (h : l[k]? = some r) : fnd (l.drop k) p k = if inn r p then (k : Int) else fnd (l.drop (k + 1)) p (k + 1) := by
  have hk : k < l.length := by
    rcases Nat.lt_or_ge k l.length with h1 | h1
    · exact h1
    · rw [List.getElem?_eq_none h1] at h; cases h
  rw [List.drop_eq_getElem_cons hk, fnd]
  rw [List.getElem?_eq_getElem hk] at h
  injection h with h
  rw [h]
theorem fnd_end {l : List Rg} {k : Nat} (p : Int) (h : l.length ≤ k) : fnd (l.drop k) p k = -1 := by
  rw [List.drop_eq_nil_of_le h]; rfl

set_option maxHeartbeats 1000000 in
theorem rfind_any (w : World) (ao : Option Addr) (cap : Nat) (l : List Rg) (p : Int) (hr : Rw w ao l) (hl : l.length ≤ 1000000) :
    Calls Tryz.prog 107 #[.slice ao l.length cap, .int .i64 p] w fun e w' => e = .returned (.int .i64 (fnd l p 0)) ∧ Gr w w' := by
  go_enter Tryz.func107, Tryz.ntmps107
  go_wp2
  go_loopw [5] (fun i wr => ∃ k : Nat, k ≤ l.length ∧ i = .int .i64 k ∧ Gr w wr ∧ Hid (fnd l p 0 = fnd (l.drop k) p k)) (fun i _ => l.length - (intOf i).toNat)
  case atStart => exact ⟨0, Nat.zero_le _, rfl, Gr.refl w, rfl⟩
  case round =>
    obtain ⟨k, hk, rfl, hg, HF⟩ := hrel
    by_cases hlt : k < l.length
    · obtain ⟨⟨r1, r2⟩, hrk⟩ := some_of hlt
      obtain ⟨b, o, rfl, hc⟩ := (hr.below hg.below) (by omega)
      obtain ⟨u1, u2⟩ := hc k _ hrk
      have HS := mkH (fnd_step p hrk)
      have hi : (k : Int) < (l.length : Int) := by omega
      have hi0 : (0 : Int) ≤ (k : Int) := by omega
      have hin := fun W => rin_any W r1 r2 p
      clear hc hrk hr
      have HG := mkH hg
      clear hg
      cases hq : inn (r1, r2) p
      · rw [hq] at hin
        rw [hq] at HS
        go_wp2_with fail
        refine (hin _).mono ?_
        rintro e w1 ⟨rfl, hg1⟩
        go_wp2
        go_roundw
        case rel => exact ⟨k + 1, by omega, by go_num, HG.out.trans hg1, HF.out.trans HS.out⟩
        case measure => simp [intOf]; omega
      · rw [hq] at hin
        rw [hq] at HS
        go_wp2_with fail
        refine (hin _).mono ?_
        rintro e w1 ⟨rfl, hg1⟩
        go_wp2
        go_ret
        refine ⟨?_, HG.out.trans hg1⟩
        rw [HF.out, HS.out]
        rfl
    · have : k = l.length := by omega
      subst this
      have HE := mkH (fnd_end (l := l) p (Nat.le_refl _))
      clear hr
      go_wp2
      go_ret
      refine ⟨?_, hg⟩
      rw [HF.out, HE.out]
      rfl
end Go.Proofs.YtgbbajeeelgbhaaGreatDoor.Pf

namespace Go.Proofs.YtgbbajeeelgbhaaGreatDoor.Sh
open Go.Shelf
def lsort_ren : Go.Shelf.Ren := ⟨fun | 6 => 139 | 15 => 191 | 14 => 190 | 28 => 252 | 29 => 253 | 20 => 244 | 21 => 245 | 22 => 246 | 23 => 247 | 24 => 248 | 25 => 249 | 26 => 250 | 27 => 251 | 46 => 309 | 47 => 310 | 48 => 311 | 49 => 312 | 50 => 313 | 57 => 355 | n => n, fun | 22 => 22 | 24 => 37 | 25 => 232 | 3 => 3 | 39 => 281 | 0 => 0 | 53 => 318 | 55 => 334 | 4 => 4 | 46 => 326 | 45 => 325 | 50 => 330 | 5 => 5 | 9 => 9 | 66 => 383 | 70 => 387 | 76 => 424 | 77 => 337 | n => n, fun | n => n⟩
theorem lsort : Go.Proofs.SlLaysF0.n6 Tryz.prog lsort_ren := {
  mixed := by kernel_rfl
  f6 := ⟨Tryz.f139.name, by decide, Tryz.func139.trans (congrArg some (by kernel_rfl))⟩
  f14 := ⟨Tryz.f190.name, by decide, Tryz.func190.trans (congrArg some (by kernel_rfl))⟩
  f15 := Tryz.func191.trans (congrArg some (by kernel_rfl))
  f20 := ⟨Tryz.f244.name, by decide, Tryz.func244.trans (congrArg some (by kernel_rfl))⟩
  f21 := ⟨Tryz.f245.name, by decide, Tryz.func245.trans (congrArg some (by kernel_rfl))⟩
  f22 := ⟨Tryz.f246.name, by decide, Tryz.func246.trans (congrArg some (by kernel_rfl))⟩
  f23 := ⟨Tryz.f247.name, by decide, Tryz.func247.trans (congrArg some (by kernel_rfl))⟩
  f24 := ⟨Tryz.f248.name, by decide, Tryz.func248.trans (congrArg some (by kernel_rfl))⟩
  f25 := ⟨Tryz.f249.name, by decide, Tryz.func249.trans (congrArg some (by kernel_rfl))⟩
  f26 := ⟨Tryz.f250.name, by decide, Tryz.func250.trans (congrArg some (by kernel_rfl))⟩
  f27 := ⟨Tryz.f251.name, by decide, Tryz.func251.trans (congrArg some (by kernel_rfl))⟩
  f28 := Tryz.func252.trans (congrArg some (by kernel_rfl))
  f29 := Tryz.func253.trans (congrArg some (by kernel_rfl))
  f46 := ⟨Tryz.f309.name, by decide, Tryz.func309.trans (congrArg some (by kernel_rfl))⟩
  f47 := Tryz.func310.trans (congrArg some (by kernel_rfl))
  f48 := Tryz.func311.trans (congrArg some (by kernel_rfl))
  f49 := ⟨Tryz.f312.name, by decide, Tryz.func312.trans (congrArg some (by kernel_rfl))⟩
  f50 := ⟨Tryz.f313.name, by decide, Tryz.func313.trans (congrArg some (by kernel_rfl))⟩
  f57 := ⟨Tryz.f355.name, by decide, Tryz.func355.trans (congrArg some (by kernel_rfl))⟩
  t0 := Tryz.underlying0
  a0 := Tryz.isAgg0
  z0 := Tryz.sizeOf0
  v0 := Tryz.zeroValue0
  t3 := Tryz.underlying3
  a3 := Tryz.isAgg3
  z3 := Tryz.sizeOf3
  v3 := Tryz.zeroValue3
  t4 := Tryz.underlying4
  a4 := Tryz.isAgg4
  z4 := Tryz.sizeOf4
  v4 := Tryz.zeroValue4
  t5 := Tryz.underlying5
  a5 := Tryz.isAgg5
  z5 := Tryz.sizeOf5
  v5 := Tryz.zeroValue5
  t9 := Tryz.underlying9
  a9 := Tryz.isAgg9
  z9 := Tryz.sizeOf9
  v9 := Tryz.zeroValue9
  t22 := Tryz.underlying22
  a22 := Tryz.isAgg22
  z22 := Tryz.sizeOf22
  v22 := Tryz.zeroValue22
  t25 := Tryz.underlying232
  a25 := Tryz.isAgg232
  z25 := Tryz.sizeOf232
  v25 := Tryz.zeroValue232
  t39 := Tryz.underlying281
  a39 := Tryz.isAgg281
  z39 := Tryz.sizeOf281
  v39 := Tryz.zeroValue281
  t45 := Tryz.underlying325
  a45 := Tryz.isAgg325
  z45 := Tryz.sizeOf325
  v45 := Tryz.zeroValue325
  t46 := Tryz.underlying326
  a46 := Tryz.isAgg326
  z46 := Tryz.sizeOf326
  v46 := Tryz.zeroValue326
  t50 := Tryz.underlying330
  a50 := Tryz.isAgg330
  z50 := Tryz.sizeOf330
  v50 := Tryz.zeroValue330
  t53 := Tryz.underlying318
  a53 := Tryz.isAgg318
  z53 := Tryz.sizeOf318
  v53 := Tryz.zeroValue318
  t55 := Tryz.underlying334
  a55 := Tryz.isAgg334
  z55 := Tryz.sizeOf334
  v55 := Tryz.zeroValue334
  t66 := Tryz.underlying383
  a66 := Tryz.isAgg383
  z66 := Tryz.sizeOf383
  v66 := Tryz.zeroValue383
  t70 := Tryz.underlying387
  a70 := Tryz.isAgg387
  z70 := Tryz.sizeOf387
  v70 := Tryz.zeroValue387
  t76 := Tryz.underlying424
  a76 := Tryz.isAgg424
  z76 := Tryz.sizeOf424
  v76 := Tryz.zeroValue424
  t77 := Tryz.underlying337
  a77 := Tryz.isAgg337
  z77 := Tryz.sizeOf337
  v77 := Tryz.zeroValue337 }
def lcmp_ren : Go.Shelf.Ren := ⟨fun | 5 => 141 | 7 => 192 | n => n, fun | 22 => 3 | 3 => 3 | 4 => 4 | n => n, fun | n => n⟩
theorem lcmp : Go.Proofs.SlLaysC2.n5 Tryz.prog lcmp_ren := {
  mixed := by kernel_rfl
  f5 := ⟨Tryz.f141.name, by decide, Tryz.func141.trans (congrArg some (by kernel_rfl))⟩
  f7 := ⟨Tryz.f192.name, by decide, Tryz.func192.trans (congrArg some (by kernel_rfl))⟩
  t3 := Tryz.underlying3
  a3 := Tryz.isAgg3
  z3 := Tryz.sizeOf3
  v3 := Tryz.zeroValue3
  t4 := Tryz.underlying4
  a4 := Tryz.isAgg4
  z4 := Tryz.sizeOf4
  v4 := Tryz.zeroValue4
  t22 := Tryz.underlying3
  a22 := Tryz.isAgg3
  z22 := Tryz.sizeOf3
  v22 := Tryz.zeroValue3 }
def lidx_ren : Go.Shelf.Ren := ⟨fun | 6 => 189 | n => n, fun | 22 => 22 | 23 => 37 | 25 => 162 | 3 => 3 | 0 => 0 | 4 => 4 | n => n, fun | n => n⟩
theorem lidx : Go.Proofs.SlLaysH0.n6 Tryz.prog lidx_ren := {
  mixed := by kernel_rfl
  f6 := ⟨Tryz.f189.name, by decide, Tryz.func189.trans (congrArg some (by kernel_rfl))⟩
  t0 := Tryz.underlying0
  a0 := Tryz.isAgg0
  z0 := Tryz.sizeOf0
  v0 := Tryz.zeroValue0
  t3 := Tryz.underlying3
  a3 := Tryz.isAgg3
  z3 := Tryz.sizeOf3
  v3 := Tryz.zeroValue3
  t4 := Tryz.underlying4
  a4 := Tryz.isAgg4
  z4 := Tryz.sizeOf4
  v4 := Tryz.zeroValue4
  t22 := Tryz.underlying22
  a22 := Tryz.isAgg22
  z22 := Tryz.sizeOf22
  v22 := Tryz.zeroValue22
  t25 := Tryz.underlying162
  a25 := Tryz.isAgg162
  z25 := Tryz.sizeOf162
  v25 := Tryz.zeroValue162 }
end Go.Proofs.YtgbbajeeelgbhaaGreatDoor.Sh

namespace Go.Proofs.YtgbbajeeelgbhaaGreatDoor.Pg
open Go.RowKit Pl Pw Pr Pf Go.Shelf Go.Lib
open Kt hiding mkH
set_option linter.unusedVariables false
set_option maxRecDepth 20000

/-- A range's two cells. -/
def encR (x : Rg) : List Value := [.int .i64 x.1, .int .i64 x.2]

theorem idx_fnd (l : List Rg) (p : Int) (d : Rg) : ∀ k : Nat, Lib.idxByFrom (fun _ y => inn y p) d l k = fnd l p k := by
  induction l with
  | nil => intro k; rfl
  | cons r t ih =>
    intro k
    rw [Lib.idxByFrom, fnd, ih]

theorem pred_any (p : Int) (B : Nat) (w : World) (hB : B < w.heap.size) (hcell : w.cell? ⟨B, 0, none⟩ = some (.int .i64 p)) :
    PredBelow Tryz.prog 240 #[.pointer (some ⟨B, 0, none⟩)] (fun x => .agg (encR x).toArray) (fun x => inn x p) w := fun W x hb => by
  have hc : W.cell? ⟨B, 0, none⟩ = some (.int .i64 p) := (hb.cell (p := ⟨B, 0, none⟩) hB).trans hcell
  have hBW : B < W.heap.size := Nat.lt_of_lt_of_le hB hb.size
  have hne : B ≠ W.heap.size := by omega
  obtain ⟨x1, x2⟩ := x
  have hin := fun W => in_any W x1 x2 p
  show Calls Tryz.prog 240 #[.agg #[.int .i64 x1, .int .i64 x2], .pointer (some ⟨B, 0, none⟩)] W fun e w' => e = .returned (.bool (inn (x1, x2) p)) ∧ Below w.heap.size w w'
  generalize inn (x1, x2) p = r at hin ⊢
  go_enter Tryz.func240, Tryz.ntmps240
  go_wp2_with fail
  refine (hin _).mono ?_
  rintro e w1 ⟨rfl, hg⟩
  go_wp2
  go_ret
  exact ⟨rfl, hb.trans ((((Gr.refl W).alloc _).trans hg).below.mono hb.size)⟩

set_option maxHeartbeats 1000000 in
theorem index_none (w : World) (ao : Option Addr) (cap : Nat) (fv : Value) : Calls Tryz.prog 189 #[.slice ao 0 cap, fv] w fun e w' => e = .returned (.int .i64 (-1)) ∧ w' = w := by
  go_enter Tryz.func189, Tryz.ntmps189
  go_wp2
  refine wp_loop_rounds 1 ?_
  rw [rounds_succ]
  go_wp2
  go_ret
  exact ⟨rfl, rfl⟩

set_option maxHeartbeats 1000000 in
theorem find_any (w : World) (ao : Option Addr) (cap : Nat) (l : List Rg) (p : Int) (hr : Rw w ao l) (hl : l.length ≤ 1000000) :
    Calls Tryz.prog 175 #[.slice ao l.length cap, .int .i64 p] w fun e w' => e = .returned (.int .i64 (fnd l p 0)) ∧ Below w.heap.size w w' := by
  by_cases h0 : 0 < l.length
  · obtain ⟨b, off, rfl, hc⟩ := hr h0
    have hb : b < w.heap.size := hr.block h0
    have eg : ∀ args w, (callFunc 240 args).run Tryz.prog w = .ok (.enter 240 args) w := enters_of Tryz.func240 (by kernel_rfl) rfl
    have hcon := AnyQ.slices_IndexFunc Sh.lidx 2 Tryz.isAgg37 Tryz.sizeOf37 encR (fun _ => rfl) (fun x => inn x p) 240 #[.pointer (some ⟨w.heap.size, 0, none⟩)] eg b off l.length cap l (w.alloc (.cells #[.int .i64 p] 3))
      (pred_any p w.heap.size _ (by simp) (by simp)) (Nat.le_refl _) (by omega) (by simp; omega) (fun j hj i v hi => by
        refine Lib.cell?_alloc_some _ ?_
        have h1 := hc j l[j]! (by rw [getElem!_pos l j hj]; exact List.getElem?_eq_getElem hj)
        generalize l[j]! = y at hi h1
        match i, hi with
        | 0, hi => simp [encR] at hi; rw [← hi]; exact h1.1
        | 1, hi => simp [encR] at hi; rw [← hi]; exact h1.2
        | i + 2, hi => simp [encR] at hi)
    rw [List.take_length, show Lib.idxBy (fun _ y => inn y p) l default = fnd l p 0 from idx_fnd l p default 0] at hcon
    change Calls Tryz.prog 189 _ _ _ at hcon
    clear hc hr
    generalize fnd l p 0 = r at hcon ⊢
    go_enter Tryz.func175, Tryz.ntmps175
    go_wp2_with (go_at_call 189; refine hcon.mono ?_; rintro e w' ⟨rfl, hb'⟩)
    go_ret
    exact ⟨rfl, ((Below.refl _ w).alloc (Nat.le_refl _) _).trans (hb'.mono (by simp))⟩
  · have e : l = [] := List.eq_nil_of_length_eq_zero (by omega)
    subst e
    have hcon := fun W fv => index_none W ao cap fv
    clear hr
    go_enter Tryz.func175, Tryz.ntmps175
    go_wp2_with (go_at_call 189; refine (hcon _ _).mono ?_; rintro e w' ⟨rfl, rfl⟩)
    go_ret
    exact ⟨rfl, (Below.refl _ w).alloc (Nat.le_refl _) _⟩
end Go.Proofs.YtgbbajeeelgbhaaGreatDoor.Pg

namespace Go.Proofs.YtgbbajeeelgbhaaGreatDoor.Kv
open Go.RowKit Kt
set_option linter.unusedVariables false

section
variable {P : Program} (w : World)

/-- 'append(v, x...)' onto a row of the call's own, from whatever source. -/
theorem run_append_own_src_at (base : Nat) (t tx ty e : TypeId) (i : TypeInfo) (z : Value) (size bytes : Nat) (ht : P.underlying t = some (.slice e)) (hi : P.info? e = some i) (hz : i.zero = some z)
    (hsize : i.size = size) (hby : i.bytes = bytes) (hzs : z.cells.size = size) (hsz : 0 < size)
    (v : Value) (n : Nat) (xs : List Value) (hown : w.ownsRow base e size v n xs) (x : Value) (m : Nat) (news : List Value) (hs : Src P size tx x m news w)
    (h63 : n + m ≤ maxLen) (hbytes : (n + m) * bytes ≤ 140737488355328) (hbase : base ≤ w.heap.size) :
    ∃ v' w', (Builtin.append_ #[t, tx] ty #[v, x]).run P w = .ok v' w' ∧ w'.ownsRow base e size v' (n + m) (xs ++ news) ∧ w.grownBy w' v.ownBlock ∧ (v'.ownBlock = v.ownBlock ∨ v'.ownBlock = some w.heap.size) := by
  subst hsize
  subst hby
  have hl := hs.newsLen
  have hsmall : n + m ≤ 9223372036854775807 := by simp only [maxLen] at h63; omega
  have hlen : (xs ++ news).length = (n + m) * i.size := by rw [List.length_append, hown.1, hl, Nat.add_mul]
  have grown : ∀ (old : Nat), old < n + m → ∀ (row : Option Nat),
      (w.drew.alloc (.cells ((xs ++ news).toArray ++ Builtin.zeroCells z.cells (grownCap w (n + m) old e - (n + m))) e)).ownsRow base e i.size
        (.slice (some ⟨w.heap.size, 0, none⟩) (n + m) (grownCap w (n + m) old e)) (n + m) (xs ++ news) ∧
      w.grownBy (w.drew.alloc (.cells ((xs ++ news).toArray ++ Builtin.zeroCells z.cells (grownCap w (n + m) old e - (n + m))) e)) row := by
    intro old ho row
    have hge := grownCap_ge w (n + m) old e
    have hcm : grownCap w (n + m) old e ≤ maxLen := grownCap_le_maxLen w (n + m) old e h63
    refine ⟨⟨hlen, .inr ⟨w.heap.size, _, _, rfl, hbase, heap_alloc_new w.drew _, hge, hcm, ?_, ?_⟩⟩, ⟨rfl, rfl, rfl, by simp, fun k hk _ => Below.heap_alloc w.drew _ k hk⟩⟩
    · simp only [Array.size_append, List.size_toArray, size_zeroCells, hzs, hlen, ← Nat.add_mul]
      congr 1
      omega
    · simp only [Array.toList_append]
      rw [← hlen]
      exact List.take_left
  rcases hown.2 with ⟨rfl, rfl⟩ | ⟨g, cap, cur, rfl, hbg, hg, hnc, hcm, hcs, htake⟩
  · have hx : xs = [] := List.eq_nil_of_length_eq_zero (by simpa using hown.1)
    subst hx
    by_cases hm : m = 0
    · subst hm
      have hn : news = [] := List.eq_nil_of_length_eq_zero (by simpa using hl)
      subst hn
      refine ⟨.slice none 0 0, w, ?_, World.ownsRow_nil w base e i.size, ⟨rfl, rfl, rfl, Nat.le_refl _, fun _ _ _ => rfl⟩, .inl rfl⟩
      rcases hs.kind with ⟨e', hk⟩ | hk <;> simp [Builtin.append_, run_underlying ht, run_underlying hk, sizeOf, typeInfo, hi, hs.len, hs.cells]
    · have hr := run_append_grow_src (P := P) w t tx ty e i z ht hi hz none 0 0 [] (run_firstCells_none w.drew i.size 0 0 0) x m news hs (by omega) (by omega) (growslice_fits (by omega) hbytes)
      have hgr := grown 0 (by omega) (Value.ownBlock (.slice none 0 0))
      simp only [Nat.zero_add, List.nil_append] at hgr hr ⊢
      exact ⟨_, _, hr, hgr.1, hgr.2, .inr rfl⟩
  · by_cases hroom : n + m ≤ cap
    · have hfit : n * i.size + news.length ≤ cur.size := by rw [hl, hcs, ← Nat.add_mul]; exact Nat.mul_le_mul_right _ hroom
      have hst := run_storeCells_at P g (n * i.size) e news 0 cur w hg (by simpa using hfit) hs.one
      simp only [Nat.add_zero] at hst
      have hr : (Builtin.append_ #[t, tx] ty #[.slice (some ⟨g, 0, none⟩) n cap, x]).run P w =
          .ok (.slice (some ⟨g, 0, none⟩) (n + m) cap) (w.setRow g (cur.toList.take (n * i.size) ++ news ++ cur.toList.drop (n * i.size + news.length)).toArray) := by
        rcases hs.kind with ⟨e', hk⟩ | hk <;> simp [Builtin.append_, run_underlying ht, run_underlying hk, sizeOf, typeInfo, hi, hs.len, hroom, hs.cells, Addr.add_lit, hst]
      refine ⟨_, _, hr, ⟨hlen, .inr ⟨g, cap, _, rfl, hbg, setRow_heap w g cur _ e _ hg, hroom, hcm, ?_, ?_⟩⟩, ⟨rfl, rfl, rfl, by simp, fun k _ hk => setRow_other w g k _ (fun e => hk (by simp [Value.ownBlock, e]))⟩, .inl rfl⟩
      · simp only [List.size_toArray, List.length_append, List.length_take, List.length_drop, Array.length_toList]
        omega
      · rw [htake, ← hlen]
        exact List.take_left
    · have holds : ∀ j u, xs[j]? = some u → w.cell? ((⟨g, 0, none⟩ : Addr).add j) = some u := hown.cells (g := g) rfl
      have hold := run_firstCells_some (P := P) w.drew i.size n ⟨g, 0, none⟩ n cap xs hown.1 (by simpa using holds)
      have hr := run_append_grow_src (P := P) w t tx ty e i z ht hi hz (some ⟨g, 0, none⟩) n cap xs hold x m news hs (by omega) (by omega) (growslice_fits (by omega) hbytes)
      have hgr := grown cap (by omega) (Value.ownBlock (.slice (some ⟨g, 0, none⟩) n cap))
      exact ⟨_, _, hr, hgr.1, hgr.2, .inr rfl⟩

/-- The same at the walk's list of operations. -/
theorem wpList_append_own_src_at {ops : Array Oper} {rest : List Oper} {o : Oper} {a : Act} {Q : Exit → Act → World → Prop} (hgd : o.guard = none) (s x : Operand) (t tx : TypeId)
    (ho : o.op = .call { callee := .builtin .append, args := #[s, x], argTypes := #[t, tx] })
    (base : Nat) (e : TypeId) (z : Value) (size bytes : Nat) (ht : P.underlying t = some (.slice e)) (hinfo : (P.info? e).map (fun i => (i.zero, i.size, i.bytes)) = some (some z, size, bytes))
    (hzs : z.cells.size = size) (hsz : 0 < size)
    (v : Value) (n : Nat) (xs : List Value) (hs : a.eval s = v) (hown : w.ownsRow base e size v n xs)
    (xv : Value) (m : Nat) (news : List Value) (hx : a.eval x = xv) (hsrc : Src P size tx xv m news w)
    (h63 : n + m ≤ maxLen) (hbytes : (n + m) * bytes ≤ 140737488355328) (hbase : base ≤ w.heap.size)
    (h : ∀ v' w', w'.ownsRow base e size v' (n + m) (xs ++ news) → w.grownBy w' v.ownBlock → (v'.ownBlock = v.ownBlock ∨ v'.ownBlock = some w.heap.size) → wpList P ops Q rest (a.put o.dst v') w') : wpList P ops Q (o :: rest) a w := by
  obtain ⟨i, hi, hz, hsize, hby⟩ := info_parts hinfo
  refine wpList_plain hgd fun _ hK => ?_
  obtain ⟨v', w', hr, h2, h3, h4⟩ := run_append_own_src_at (P := P) w base t tx o.type e i z size bytes ht hi hz hsize hby hzs hsz v n xs hown xv m news hsrc h63 hbytes hbase
  unfold Oper.wp execOp
  simp only [ho, resolve, invoke, builtin, Sem.run_bind, Sem.run_pure, Result.andThen_ok, List.map_toArray, List.map_cons, List.map_nil, hs, hx, hr]
  exact hK _ _ (h v' w' h2 h3 h4)
end


theorem own_other {w w' : World} {base e size n : Nat} {v : Value} {xs : List Value} {row : Option Nat} (h : w.ownsRow base e size v n xs) (hg : w.grownBy w' row) (hne : ∀ k, v.ownBlock = some k → row ≠ some k) : w'.ownsRow base e size v n xs := by
  refine ⟨h.1, ?_⟩
  rcases h.2 with h1 | ⟨g, cap, cur, rfl, e2, e3, e4⟩
  · exact .inl h1
  · exact .inr ⟨g, cap, cur, rfl, e2, (hg.block g (Array.getElem?_eq_some_iff.1 e3).1 (fun e => hne g rfl e.symm)).trans e3, e4⟩
end Go.Proofs.YtgbbajeeelgbhaaGreatDoor.Kv
