/-
  WiL1 WiL2 WiL3 WiN2, joined by mrg.py.
-/
import Derived.Test.YtgbbajeeelgbhaaGreatDoorSqBG
import Derived.Test.YtgbbajeeelgbhaaGreatDoorSqAU
import Derived.Deep.Cut

namespace Go.Proofs.YtgbbajeeelgbhaaGreatDoor.Wn
open Go.RowKit Kt Pl Wi Wk We Wf
open At (RowT)
set_option linter.unusedVariables false
set_option linter.unusedSimpArgs false
set_option maxRecDepth 20000

set_option maxHeartbeats 4000000 in
theorem rsame_4 (w : World) (a b : Cm) (ao bo : Option Addr) (acap bcap : Nat) (hl : RowT w ao a.data) (hm : RowT w bo b.data) (h1 : a.data.length ≤ 1000000) (h2 : b.data.length ≤ 1000000) (hd : a.data = b.data) (t0 : (a.kind == b.kind) = true) (t1 : (a.client == b.client) = true) (t2 : (a.num == b.num) = true) (t3 : (a.time == b.time) = true) (t4 : (a.queue == b.queue) = false) :
    Calls Tryz.prog 49 #[.agg (Cv a (.slice ao a.data.length acap)), .agg (Cv b (.slice bo b.data.length bcap))] w fun e w' => Tells w false e w' := by
  obtain ⟨k0, k1, k2, k3, k4, k5, k6, k7, k8, k9, k10, k11, k12, k13, k14, k15, k16, k17, k18⟩ := Cv_at a (.slice ao a.data.length acap)
  obtain ⟨j0, j1, j2, j3, j4, j5, j6, j7, j8, j9, j10, j11, j12, j13, j14, j15, j16, j17, j18⟩ := Cv_at b (.slice bo b.data.length bcap)
  have HG := mkH (((Gr.refl w).alloc (.cells (Cv a (.slice ao a.data.length acap)) 39)).alloc (.cells (Cv b (.slice bo b.data.length bcap)) 39))
  have hA := ((Bx.new w (Cv a (.slice ao a.data.length acap)) 39).alloc (.cells (Cv b (.slice bo b.data.length bcap)) 39)).cell
  have hB : ∀ k, ((w.alloc (.cells (Cv a (.slice ao a.data.length acap)) 39)).alloc (.cells (Cv b (.slice bo b.data.length bcap)) 39)).cell? ⟨w.heap.size + 1, k, none⟩ = (Cv b (.slice bo b.data.length bcap))[k]? := fun k => by
    have := (Bx.new (w.alloc (.cells (Cv a (.slice ao a.data.length acap)) 39)) (Cv b (.slice bo b.data.length bcap)) 39).cell k
    rwa [show (w.alloc (.cells (Cv a (.slice ao a.data.length acap)) 39)).heap.size = w.heap.size + 1 by simp] at this
  have HE := sameTexts_any _ ao bo acap bcap a.data b.data (RowT.gr hl HG.out) (RowT.gr hm HG.out) h1 h2
  rw [decide_eq_true hd] at HE
  have HA := mkH ((Bx.new w (Cv a (.slice ao a.data.length acap)) 39).alloc (.cells (Cv b (.slice bo b.data.length bcap)) 39))
  have HB : Hid (Bx ((w.alloc (.cells (Cv a (.slice ao a.data.length acap)) 39)).alloc (.cells (Cv b (.slice bo b.data.length bcap)) 39)) (w.heap.size + 1) (Cv b (.slice bo b.data.length bcap)) 39) := mkH (by have := Bx.new (w.alloc (.cells (Cv a (.slice ao a.data.length acap)) 39)) (Cv b (.slice bo b.data.length bcap)) 39; rwa [show (w.alloc (.cells (Cv a (.slice ao a.data.length acap)) 39)).heap.size = w.heap.size + 1 by simp] at this)
  generalize Cv a (.slice ao a.data.length acap) = A at *
  generalize Cv b (.slice bo b.data.length bcap) = B at *
  have q1 := guardRc
  have q2 := guardR
  clear hl hm h1 h2 hd
  go_enter Tryz.func49, Tryz.ntmps49
  go_wp2_with fail
  refine HE.mono ?_
  rintro e w1 ⟨rfl, hg⟩
  have hA := (HA.out.gr hg).cell
  have hB := (HB.out.gr hg).cell
  have HG2 := mkH (HG.out.trans hg)
  clear hg HE HA HB HG
  generalize w.heap.size + 1 = B1 at hB ⊢
  generalize w.heap.size = B0 at hA ⊢
  go_wp2
  go_ret
  exact ⟨rfl, HG2.out⟩

set_option maxHeartbeats 4000000 in
theorem rsame_5 (w : World) (a b : Cm) (ao bo : Option Addr) (acap bcap : Nat) (hl : RowT w ao a.data) (hm : RowT w bo b.data) (h1 : a.data.length ≤ 1000000) (h2 : b.data.length ≤ 1000000) (hd : a.data = b.data) (t0 : (a.kind == b.kind) = true) (t1 : (a.client == b.client) = true) (t2 : (a.num == b.num) = true) (t3 : (a.time == b.time) = true) (t4 : (a.queue == b.queue) = true) (t5 : ((S a.group).toList == (S b.group).toList) = false) :
    Calls Tryz.prog 49 #[.agg (Cv a (.slice ao a.data.length acap)), .agg (Cv b (.slice bo b.data.length bcap))] w fun e w' => Tells w false e w' := by
  obtain ⟨k0, k1, k2, k3, k4, k5, k6, k7, k8, k9, k10, k11, k12, k13, k14, k15, k16, k17, k18⟩ := Cv_at a (.slice ao a.data.length acap)
  obtain ⟨j0, j1, j2, j3, j4, j5, j6, j7, j8, j9, j10, j11, j12, j13, j14, j15, j16, j17, j18⟩ := Cv_at b (.slice bo b.data.length bcap)
  have HG := mkH (((Gr.refl w).alloc (.cells (Cv a (.slice ao a.data.length acap)) 39)).alloc (.cells (Cv b (.slice bo b.data.length bcap)) 39))
  have hA := ((Bx.new w (Cv a (.slice ao a.data.length acap)) 39).alloc (.cells (Cv b (.slice bo b.data.length bcap)) 39)).cell
  have hB : ∀ k, ((w.alloc (.cells (Cv a (.slice ao a.data.length acap)) 39)).alloc (.cells (Cv b (.slice bo b.data.length bcap)) 39)).cell? ⟨w.heap.size + 1, k, none⟩ = (Cv b (.slice bo b.data.length bcap))[k]? := fun k => by
    have := (Bx.new (w.alloc (.cells (Cv a (.slice ao a.data.length acap)) 39)) (Cv b (.slice bo b.data.length bcap)) 39).cell k
    rwa [show (w.alloc (.cells (Cv a (.slice ao a.data.length acap)) 39)).heap.size = w.heap.size + 1 by simp] at this
  have HE := sameTexts_any _ ao bo acap bcap a.data b.data (RowT.gr hl HG.out) (RowT.gr hm HG.out) h1 h2
  rw [decide_eq_true hd] at HE
  have HA := mkH ((Bx.new w (Cv a (.slice ao a.data.length acap)) 39).alloc (.cells (Cv b (.slice bo b.data.length bcap)) 39))
  have HB : Hid (Bx ((w.alloc (.cells (Cv a (.slice ao a.data.length acap)) 39)).alloc (.cells (Cv b (.slice bo b.data.length bcap)) 39)) (w.heap.size + 1) (Cv b (.slice bo b.data.length bcap)) 39) := mkH (by have := Bx.new (w.alloc (.cells (Cv a (.slice ao a.data.length acap)) 39)) (Cv b (.slice bo b.data.length bcap)) 39; rwa [show (w.alloc (.cells (Cv a (.slice ao a.data.length acap)) 39)).heap.size = w.heap.size + 1 by simp] at this)
  generalize Cv a (.slice ao a.data.length acap) = A at *
  generalize Cv b (.slice bo b.data.length bcap) = B at *
  have q1 := guardRc
  have q2 := guardR
  clear hl hm h1 h2 hd
  go_enter Tryz.func49, Tryz.ntmps49
  go_wp2_with fail
  refine HE.mono ?_
  rintro e w1 ⟨rfl, hg⟩
  have hA := (HA.out.gr hg).cell
  have hB := (HB.out.gr hg).cell
  have HG2 := mkH (HG.out.trans hg)
  clear hg HE HA HB HG
  generalize w.heap.size + 1 = B1 at hB ⊢
  generalize w.heap.size = B0 at hA ⊢
  go_wp2
  go_ret
  exact ⟨rfl, HG2.out⟩

set_option maxHeartbeats 4000000 in
theorem rsame_6 (w : World) (a b : Cm) (ao bo : Option Addr) (acap bcap : Nat) (hl : RowT w ao a.data) (hm : RowT w bo b.data) (h1 : a.data.length ≤ 1000000) (h2 : b.data.length ≤ 1000000) (hd : a.data = b.data) (t0 : (a.kind == b.kind) = true) (t1 : (a.client == b.client) = true) (t2 : (a.num == b.num) = true) (t3 : (a.time == b.time) = true) (t4 : (a.queue == b.queue) = true) (t5 : ((S a.group).toList == (S b.group).toList) = true) (t6 : ((S a.body).toList == (S b.body).toList) = false) :
    Calls Tryz.prog 49 #[.agg (Cv a (.slice ao a.data.length acap)), .agg (Cv b (.slice bo b.data.length bcap))] w fun e w' => Tells w false e w' := by
  obtain ⟨k0, k1, k2, k3, k4, k5, k6, k7, k8, k9, k10, k11, k12, k13, k14, k15, k16, k17, k18⟩ := Cv_at a (.slice ao a.data.length acap)
  obtain ⟨j0, j1, j2, j3, j4, j5, j6, j7, j8, j9, j10, j11, j12, j13, j14, j15, j16, j17, j18⟩ := Cv_at b (.slice bo b.data.length bcap)
  have HG := mkH (((Gr.refl w).alloc (.cells (Cv a (.slice ao a.data.length acap)) 39)).alloc (.cells (Cv b (.slice bo b.data.length bcap)) 39))
  have hA := ((Bx.new w (Cv a (.slice ao a.data.length acap)) 39).alloc (.cells (Cv b (.slice bo b.data.length bcap)) 39)).cell
  have hB : ∀ k, ((w.alloc (.cells (Cv a (.slice ao a.data.length acap)) 39)).alloc (.cells (Cv b (.slice bo b.data.length bcap)) 39)).cell? ⟨w.heap.size + 1, k, none⟩ = (Cv b (.slice bo b.data.length bcap))[k]? := fun k => by
    have := (Bx.new (w.alloc (.cells (Cv a (.slice ao a.data.length acap)) 39)) (Cv b (.slice bo b.data.length bcap)) 39).cell k
    rwa [show (w.alloc (.cells (Cv a (.slice ao a.data.length acap)) 39)).heap.size = w.heap.size + 1 by simp] at this
  have HE := sameTexts_any _ ao bo acap bcap a.data b.data (RowT.gr hl HG.out) (RowT.gr hm HG.out) h1 h2
  rw [decide_eq_true hd] at HE
  have HA := mkH ((Bx.new w (Cv a (.slice ao a.data.length acap)) 39).alloc (.cells (Cv b (.slice bo b.data.length bcap)) 39))
  have HB : Hid (Bx ((w.alloc (.cells (Cv a (.slice ao a.data.length acap)) 39)).alloc (.cells (Cv b (.slice bo b.data.length bcap)) 39)) (w.heap.size + 1) (Cv b (.slice bo b.data.length bcap)) 39) := mkH (by have := Bx.new (w.alloc (.cells (Cv a (.slice ao a.data.length acap)) 39)) (Cv b (.slice bo b.data.length bcap)) 39; rwa [show (w.alloc (.cells (Cv a (.slice ao a.data.length acap)) 39)).heap.size = w.heap.size + 1 by simp] at this)
  generalize Cv a (.slice ao a.data.length acap) = A at *
  generalize Cv b (.slice bo b.data.length bcap) = B at *
  have q1 := guardRc
  have q2 := guardR
  clear hl hm h1 h2 hd
  go_enter Tryz.func49, Tryz.ntmps49
  go_wp2_with fail
  refine HE.mono ?_
  rintro e w1 ⟨rfl, hg⟩
  have hA := (HA.out.gr hg).cell
  have hB := (HB.out.gr hg).cell
  have HG2 := mkH (HG.out.trans hg)
  clear hg HE HA HB HG
  generalize w.heap.size + 1 = B1 at hB ⊢
  generalize w.heap.size = B0 at hA ⊢
  go_wp2
  go_ret
  exact ⟨rfl, HG2.out⟩

set_option maxHeartbeats 4000000 in
theorem rsame_7 (w : World) (a b : Cm) (ao bo : Option Addr) (acap bcap : Nat) (hl : RowT w ao a.data) (hm : RowT w bo b.data) (h1 : a.data.length ≤ 1000000) (h2 : b.data.length ≤ 1000000) (hd : a.data = b.data) (t0 : (a.kind == b.kind) = true) (t1 : (a.client == b.client) = true) (t2 : (a.num == b.num) = true) (t3 : (a.time == b.time) = true) (t4 : (a.queue == b.queue) = true) (t5 : ((S a.group).toList == (S b.group).toList) = true) (t6 : ((S a.body).toList == (S b.body).toList) = true) (t7 : ((S a.token).toList == (S b.token).toList) = false) :
    Calls Tryz.prog 49 #[.agg (Cv a (.slice ao a.data.length acap)), .agg (Cv b (.slice bo b.data.length bcap))] w fun e w' => Tells w false e w' := by
  obtain ⟨k0, k1, k2, k3, k4, k5, k6, k7, k8, k9, k10, k11, k12, k13, k14, k15, k16, k17, k18⟩ := Cv_at a (.slice ao a.data.length acap)
  obtain ⟨j0, j1, j2, j3, j4, j5, j6, j7, j8, j9, j10, j11, j12, j13, j14, j15, j16, j17, j18⟩ := Cv_at b (.slice bo b.data.length bcap)
  have HG := mkH (((Gr.refl w).alloc (.cells (Cv a (.slice ao a.data.length acap)) 39)).alloc (.cells (Cv b (.slice bo b.data.length bcap)) 39))
  have hA := ((Bx.new w (Cv a (.slice ao a.data.length acap)) 39).alloc (.cells (Cv b (.slice bo b.data.length bcap)) 39)).cell
  have hB : ∀ k, ((w.alloc (.cells (Cv a (.slice ao a.data.length acap)) 39)).alloc (.cells (Cv b (.slice bo b.data.length bcap)) 39)).cell? ⟨w.heap.size + 1, k, none⟩ = (Cv b (.slice bo b.data.length bcap))[k]? := fun k => by
    have := (Bx.new (w.alloc (.cells (Cv a (.slice ao a.data.length acap)) 39)) (Cv b (.slice bo b.data.length bcap)) 39).cell k
    rwa [show (w.alloc (.cells (Cv a (.slice ao a.data.length acap)) 39)).heap.size = w.heap.size + 1 by simp] at this
  have HE := sameTexts_any _ ao bo acap bcap a.data b.data (RowT.gr hl HG.out) (RowT.gr hm HG.out) h1 h2
  rw [decide_eq_true hd] at HE
  have HA := mkH ((Bx.new w (Cv a (.slice ao a.data.length acap)) 39).alloc (.cells (Cv b (.slice bo b.data.length bcap)) 39))
  have HB : Hid (Bx ((w.alloc (.cells (Cv a (.slice ao a.data.length acap)) 39)).alloc (.cells (Cv b (.slice bo b.data.length bcap)) 39)) (w.heap.size + 1) (Cv b (.slice bo b.data.length bcap)) 39) := mkH (by have := Bx.new (w.alloc (.cells (Cv a (.slice ao a.data.length acap)) 39)) (Cv b (.slice bo b.data.length bcap)) 39; rwa [show (w.alloc (.cells (Cv a (.slice ao a.data.length acap)) 39)).heap.size = w.heap.size + 1 by simp] at this)
  generalize Cv a (.slice ao a.data.length acap) = A at *
  generalize Cv b (.slice bo b.data.length bcap) = B at *
  have q1 := guardRc
  have q2 := guardR
  clear hl hm h1 h2 hd
  go_enter Tryz.func49, Tryz.ntmps49
  go_wp2_with fail
  refine HE.mono ?_
  rintro e w1 ⟨rfl, hg⟩
  have hA := (HA.out.gr hg).cell
  have hB := (HB.out.gr hg).cell
  have HG2 := mkH (HG.out.trans hg)
  clear hg HE HA HB HG
  generalize w.heap.size + 1 = B1 at hB ⊢
  generalize w.heap.size = B0 at hA ⊢
  go_wp2
  go_ret
  exact ⟨rfl, HG2.out⟩
end Go.Proofs.YtgbbajeeelgbhaaGreatDoor.Wn

namespace Go.Proofs.YtgbbajeeelgbhaaGreatDoor.Wn
open Go.RowKit Kt Pl Wi Wk We Wf
open At (RowT)
set_option linter.unusedVariables false
set_option linter.unusedSimpArgs false
set_option maxRecDepth 20000

set_option maxHeartbeats 4000000 in
theorem rsame_8 (w : World) (a b : Cm) (ao bo : Option Addr) (acap bcap : Nat) (hl : RowT w ao a.data) (hm : RowT w bo b.data) (h1 : a.data.length ≤ 1000000) (h2 : b.data.length ≤ 1000000) (hd : a.data = b.data) (t0 : (a.kind == b.kind) = true) (t1 : (a.client == b.client) = true) (t2 : (a.num == b.num) = true) (t3 : (a.time == b.time) = true) (t4 : (a.queue == b.queue) = true) (t5 : ((S a.group).toList == (S b.group).toList) = true) (t6 : ((S a.body).toList == (S b.body).toList) = true) (t7 : ((S a.token).toList == (S b.token).toList) = true) (t8 : ((S a.attempt).toList == (S b.attempt).toList) = false) :
    Calls Tryz.prog 49 #[.agg (Cv a (.slice ao a.data.length acap)), .agg (Cv b (.slice bo b.data.length bcap))] w fun e w' => Tells w false e w' := by
  obtain ⟨k0, k1, k2, k3, k4, k5, k6, k7, k8, k9, k10, k11, k12, k13, k14, k15, k16, k17, k18⟩ := Cv_at a (.slice ao a.data.length acap)
  obtain ⟨j0, j1, j2, j3, j4, j5, j6, j7, j8, j9, j10, j11, j12, j13, j14, j15, j16, j17, j18⟩ := Cv_at b (.slice bo b.data.length bcap)
  have HG := mkH (((Gr.refl w).alloc (.cells (Cv a (.slice ao a.data.length acap)) 39)).alloc (.cells (Cv b (.slice bo b.data.length bcap)) 39))
  have hA := ((Bx.new w (Cv a (.slice ao a.data.length acap)) 39).alloc (.cells (Cv b (.slice bo b.data.length bcap)) 39)).cell
  have hB : ∀ k, ((w.alloc (.cells (Cv a (.slice ao a.data.length acap)) 39)).alloc (.cells (Cv b (.slice bo b.data.length bcap)) 39)).cell? ⟨w.heap.size + 1, k, none⟩ = (Cv b (.slice bo b.data.length bcap))[k]? := fun k => by
    have := (Bx.new (w.alloc (.cells (Cv a (.slice ao a.data.length acap)) 39)) (Cv b (.slice bo b.data.length bcap)) 39).cell k
    rwa [show (w.alloc (.cells (Cv a (.slice ao a.data.length acap)) 39)).heap.size = w.heap.size + 1 by simp] at this
  have HE := sameTexts_any _ ao bo acap bcap a.data b.data (RowT.gr hl HG.out) (RowT.gr hm HG.out) h1 h2
  rw [decide_eq_true hd] at HE
  have HA := mkH ((Bx.new w (Cv a (.slice ao a.data.length acap)) 39).alloc (.cells (Cv b (.slice bo b.data.length bcap)) 39))
  have HB : Hid (Bx ((w.alloc (.cells (Cv a (.slice ao a.data.length acap)) 39)).alloc (.cells (Cv b (.slice bo b.data.length bcap)) 39)) (w.heap.size + 1) (Cv b (.slice bo b.data.length bcap)) 39) := mkH (by have := Bx.new (w.alloc (.cells (Cv a (.slice ao a.data.length acap)) 39)) (Cv b (.slice bo b.data.length bcap)) 39; rwa [show (w.alloc (.cells (Cv a (.slice ao a.data.length acap)) 39)).heap.size = w.heap.size + 1 by simp] at this)
  generalize Cv a (.slice ao a.data.length acap) = A at *
  generalize Cv b (.slice bo b.data.length bcap) = B at *
  have q1 := guardRc
  have q2 := guardR
  clear hl hm h1 h2 hd
  go_enter Tryz.func49, Tryz.ntmps49
  go_wp2_with fail
  refine HE.mono ?_
  rintro e w1 ⟨rfl, hg⟩
  have hA := (HA.out.gr hg).cell
  have hB := (HB.out.gr hg).cell
  have HG2 := mkH (HG.out.trans hg)
  clear hg HE HA HB HG
  generalize w.heap.size + 1 = B1 at hB ⊢
  generalize w.heap.size = B0 at hA ⊢
  go_wp2
  go_ret
  exact ⟨rfl, HG2.out⟩

set_option maxHeartbeats 4000000 in
theorem rsame_9 (w : World) (a b : Cm) (ao bo : Option Addr) (acap bcap : Nat) (hl : RowT w ao a.data) (hm : RowT w bo b.data) (h1 : a.data.length ≤ 1000000) (h2 : b.data.length ≤ 1000000) (hd : a.data = b.data) (t0 : (a.kind == b.kind) = true) (t1 : (a.client == b.client) = true) (t2 : (a.num == b.num) = true) (t3 : (a.time == b.time) = true) (t4 : (a.queue == b.queue) = true) (t5 : ((S a.group).toList == (S b.group).toList) = true) (t6 : ((S a.body).toList == (S b.body).toList) = true) (t7 : ((S a.token).toList == (S b.token).toList) = true) (t8 : ((S a.attempt).toList == (S b.attempt).toList) = true) (t9 : (a.max == b.max) = false) :
    Calls Tryz.prog 49 #[.agg (Cv a (.slice ao a.data.length acap)), .agg (Cv b (.slice bo b.data.length bcap))] w fun e w' => Tells w false e w' := by
  obtain ⟨k0, k1, k2, k3, k4, k5, k6, k7, k8, k9, k10, k11, k12, k13, k14, k15, k16, k17, k18⟩ := Cv_at a (.slice ao a.data.length acap)
  obtain ⟨j0, j1, j2, j3, j4, j5, j6, j7, j8, j9, j10, j11, j12, j13, j14, j15, j16, j17, j18⟩ := Cv_at b (.slice bo b.data.length bcap)
  have HG := mkH (((Gr.refl w).alloc (.cells (Cv a (.slice ao a.data.length acap)) 39)).alloc (.cells (Cv b (.slice bo b.data.length bcap)) 39))
  have hA := ((Bx.new w (Cv a (.slice ao a.data.length acap)) 39).alloc (.cells (Cv b (.slice bo b.data.length bcap)) 39)).cell
  have hB : ∀ k, ((w.alloc (.cells (Cv a (.slice ao a.data.length acap)) 39)).alloc (.cells (Cv b (.slice bo b.data.length bcap)) 39)).cell? ⟨w.heap.size + 1, k, none⟩ = (Cv b (.slice bo b.data.length bcap))[k]? := fun k => by
    have := (Bx.new (w.alloc (.cells (Cv a (.slice ao a.data.length acap)) 39)) (Cv b (.slice bo b.data.length bcap)) 39).cell k
    rwa [show (w.alloc (.cells (Cv a (.slice ao a.data.length acap)) 39)).heap.size = w.heap.size + 1 by simp] at this
  have HE := sameTexts_any _ ao bo acap bcap a.data b.data (RowT.gr hl HG.out) (RowT.gr hm HG.out) h1 h2
  rw [decide_eq_true hd] at HE
  have HA := mkH ((Bx.new w (Cv a (.slice ao a.data.length acap)) 39).alloc (.cells (Cv b (.slice bo b.data.length bcap)) 39))
  have HB : Hid (Bx ((w.alloc (.cells (Cv a (.slice ao a.data.length acap)) 39)).alloc (.cells (Cv b (.slice bo b.data.length bcap)) 39)) (w.heap.size + 1) (Cv b (.slice bo b.data.length bcap)) 39) := mkH (by have := Bx.new (w.alloc (.cells (Cv a (.slice ao a.data.length acap)) 39)) (Cv b (.slice bo b.data.length bcap)) 39; rwa [show (w.alloc (.cells (Cv a (.slice ao a.data.length acap)) 39)).heap.size = w.heap.size + 1 by simp] at this)
  generalize Cv a (.slice ao a.data.length acap) = A at *
  generalize Cv b (.slice bo b.data.length bcap) = B at *
  have q1 := guardRc
  have q2 := guardR
  clear hl hm h1 h2 hd
  go_enter Tryz.func49, Tryz.ntmps49
  go_wp2_with fail
  refine HE.mono ?_
  rintro e w1 ⟨rfl, hg⟩
  have hA := (HA.out.gr hg).cell
  have hB := (HB.out.gr hg).cell
  have HG2 := mkH (HG.out.trans hg)
  clear hg HE HA HB HG
  generalize w.heap.size + 1 = B1 at hB ⊢
  generalize w.heap.size = B0 at hA ⊢
  go_wp2
  go_ret
  exact ⟨rfl, HG2.out⟩

set_option maxHeartbeats 4000000 in
theorem rsame_10 (w : World) (a b : Cm) (ao bo : Option Addr) (acap bcap : Nat) (hl : RowT w ao a.data) (hm : RowT w bo b.data) (h1 : a.data.length ≤ 1000000) (h2 : b.data.length ≤ 1000000) (hd : a.data = b.data) (t0 : (a.kind == b.kind) = true) (t1 : (a.client == b.client) = true) (t2 : (a.num == b.num) = true) (t3 : (a.time == b.time) = true) (t4 : (a.queue == b.queue) = true) (t5 : ((S a.group).toList == (S b.group).toList) = true) (t6 : ((S a.body).toList == (S b.body).toList) = true) (t7 : ((S a.token).toList == (S b.token).toList) = true) (t8 : ((S a.attempt).toList == (S b.attempt).toList) = true) (t9 : (a.max == b.max) = true) (t10 : (a.secs == b.secs) = false) :
    Calls Tryz.prog 49 #[.agg (Cv a (.slice ao a.data.length acap)), .agg (Cv b (.slice bo b.data.length bcap))] w fun e w' => Tells w false e w' := by
  obtain ⟨k0, k1, k2, k3, k4, k5, k6, k7, k8, k9, k10, k11, k12, k13, k14, k15, k16, k17, k18⟩ := Cv_at a (.slice ao a.data.length acap)
  obtain ⟨j0, j1, j2, j3, j4, j5, j6, j7, j8, j9, j10, j11, j12, j13, j14, j15, j16, j17, j18⟩ := Cv_at b (.slice bo b.data.length bcap)
  have HG := mkH (((Gr.refl w).alloc (.cells (Cv a (.slice ao a.data.length acap)) 39)).alloc (.cells (Cv b (.slice bo b.data.length bcap)) 39))
  have hA := ((Bx.new w (Cv a (.slice ao a.data.length acap)) 39).alloc (.cells (Cv b (.slice bo b.data.length bcap)) 39)).cell
  have hB : ∀ k, ((w.alloc (.cells (Cv a (.slice ao a.data.length acap)) 39)).alloc (.cells (Cv b (.slice bo b.data.length bcap)) 39)).cell? ⟨w.heap.size + 1, k, none⟩ = (Cv b (.slice bo b.data.length bcap))[k]? := fun k => by
    have := (Bx.new (w.alloc (.cells (Cv a (.slice ao a.data.length acap)) 39)) (Cv b (.slice bo b.data.length bcap)) 39).cell k
    rwa [show (w.alloc (.cells (Cv a (.slice ao a.data.length acap)) 39)).heap.size = w.heap.size + 1 by simp] at this
  have HE := sameTexts_any _ ao bo acap bcap a.data b.data (RowT.gr hl HG.out) (RowT.gr hm HG.out) h1 h2
  rw [decide_eq_true hd] at HE
  have HA := mkH ((Bx.new w (Cv a (.slice ao a.data.length acap)) 39).alloc (.cells (Cv b (.slice bo b.data.length bcap)) 39))
  have HB : Hid (Bx ((w.alloc (.cells (Cv a (.slice ao a.data.length acap)) 39)).alloc (.cells (Cv b (.slice bo b.data.length bcap)) 39)) (w.heap.size + 1) (Cv b (.slice bo b.data.length bcap)) 39) := mkH (by have := Bx.new (w.alloc (.cells (Cv a (.slice ao a.data.length acap)) 39)) (Cv b (.slice bo b.data.length bcap)) 39; rwa [show (w.alloc (.cells (Cv a (.slice ao a.data.length acap)) 39)).heap.size = w.heap.size + 1 by simp] at this)
  generalize Cv a (.slice ao a.data.length acap) = A at *
  generalize Cv b (.slice bo b.data.length bcap) = B at *
  have q1 := guardRc
  have q2 := guardR
  clear hl hm h1 h2 hd
  go_enter Tryz.func49, Tryz.ntmps49
  go_wp2_with fail
  refine HE.mono ?_
  rintro e w1 ⟨rfl, hg⟩
  have hA := (HA.out.gr hg).cell
  have hB := (HB.out.gr hg).cell
  have HG2 := mkH (HG.out.trans hg)
  clear hg HE HA HB HG
  generalize w.heap.size + 1 = B1 at hB ⊢
  generalize w.heap.size = B0 at hA ⊢
  go_wp2
  go_ret
  exact ⟨rfl, HG2.out⟩

set_option maxHeartbeats 4000000 in
theorem rsame_11 (w : World) (a b : Cm) (ao bo : Option Addr) (acap bcap : Nat) (hl : RowT w ao a.data) (hm : RowT w bo b.data) (h1 : a.data.length ≤ 1000000) (h2 : b.data.length ≤ 1000000) (hd : a.data = b.data) (t0 : (a.kind == b.kind) = true) (t1 : (a.client == b.client) = true) (t2 : (a.num == b.num) = true) (t3 : (a.time == b.time) = true) (t4 : (a.queue == b.queue) = true) (t5 : ((S a.group).toList == (S b.group).toList) = true) (t6 : ((S a.body).toList == (S b.body).toList) = true) (t7 : ((S a.token).toList == (S b.token).toList) = true) (t8 : ((S a.attempt).toList == (S b.attempt).toList) = true) (t9 : (a.max == b.max) = true) (t10 : (a.secs == b.secs) = true) (t11 : ∀ w, Sem.run Tryz.prog (binOp .eql 35 (.agg #[.int .i64 a.rc.q, .string (S a.rc.g), .int .i64 a.rc.s, .int .i64 a.rc.c]) (.agg #[.int .i64 b.rc.q, .string (S b.rc.g), .int .i64 b.rc.s, .int .i64 b.rc.c])) w = .ok (.bool false) w) :
    Calls Tryz.prog 49 #[.agg (Cv a (.slice ao a.data.length acap)), .agg (Cv b (.slice bo b.data.length bcap))] w fun e w' => Tells w false e w' := by
  obtain ⟨k0, k1, k2, k3, k4, k5, k6, k7, k8, k9, k10, k11, k12, k13, k14, k15, k16, k17, k18⟩ := Cv_at a (.slice ao a.data.length acap)
  obtain ⟨j0, j1, j2, j3, j4, j5, j6, j7, j8, j9, j10, j11, j12, j13, j14, j15, j16, j17, j18⟩ := Cv_at b (.slice bo b.data.length bcap)
  have HG := mkH (((Gr.refl w).alloc (.cells (Cv a (.slice ao a.data.length acap)) 39)).alloc (.cells (Cv b (.slice bo b.data.length bcap)) 39))
  have hA := ((Bx.new w (Cv a (.slice ao a.data.length acap)) 39).alloc (.cells (Cv b (.slice bo b.data.length bcap)) 39)).cell
  have hB : ∀ k, ((w.alloc (.cells (Cv a (.slice ao a.data.length acap)) 39)).alloc (.cells (Cv b (.slice bo b.data.length bcap)) 39)).cell? ⟨w.heap.size + 1, k, none⟩ = (Cv b (.slice bo b.data.length bcap))[k]? := fun k => by
    have := (Bx.new (w.alloc (.cells (Cv a (.slice ao a.data.length acap)) 39)) (Cv b (.slice bo b.data.length bcap)) 39).cell k
    rwa [show (w.alloc (.cells (Cv a (.slice ao a.data.length acap)) 39)).heap.size = w.heap.size + 1 by simp] at this
  have HE := sameTexts_any _ ao bo acap bcap a.data b.data (RowT.gr hl HG.out) (RowT.gr hm HG.out) h1 h2
  rw [decide_eq_true hd] at HE
  have HA := mkH ((Bx.new w (Cv a (.slice ao a.data.length acap)) 39).alloc (.cells (Cv b (.slice bo b.data.length bcap)) 39))
  have HB : Hid (Bx ((w.alloc (.cells (Cv a (.slice ao a.data.length acap)) 39)).alloc (.cells (Cv b (.slice bo b.data.length bcap)) 39)) (w.heap.size + 1) (Cv b (.slice bo b.data.length bcap)) 39) := mkH (by have := Bx.new (w.alloc (.cells (Cv a (.slice ao a.data.length acap)) 39)) (Cv b (.slice bo b.data.length bcap)) 39; rwa [show (w.alloc (.cells (Cv a (.slice ao a.data.length acap)) 39)).heap.size = w.heap.size + 1 by simp] at this)
  generalize Cv a (.slice ao a.data.length acap) = A at *
  generalize Cv b (.slice bo b.data.length bcap) = B at *
  have q1 := guardRc
  have q2 := guardR
  clear hl hm h1 h2 hd
  go_enter Tryz.func49, Tryz.ntmps49
  go_wp2_with fail
  refine HE.mono ?_
  rintro e w1 ⟨rfl, hg⟩
  have hA := (HA.out.gr hg).cell
  have hB := (HB.out.gr hg).cell
  have HG2 := mkH (HG.out.trans hg)
  clear hg HE HA HB HG
  generalize w.heap.size + 1 = B1 at hB ⊢
  generalize w.heap.size = B0 at hA ⊢
  go_wp2
  go_ret
  exact ⟨rfl, HG2.out⟩
end Go.Proofs.YtgbbajeeelgbhaaGreatDoor.Wn

namespace Go.Proofs.YtgbbajeeelgbhaaGreatDoor.Wn
open Go.RowKit Kt Pl Wi Wk We Wf
open At (RowT)
set_option linter.unusedVariables false
set_option linter.unusedSimpArgs false
set_option maxRecDepth 20000

set_option maxHeartbeats 4000000 in
theorem rsame_12 (w : World) (a b : Cm) (ao bo : Option Addr) (acap bcap : Nat) (hl : RowT w ao a.data) (hm : RowT w bo b.data) (h1 : a.data.length ≤ 1000000) (h2 : b.data.length ≤ 1000000) (hd : a.data = b.data) (t0 : (a.kind == b.kind) = true) (t1 : (a.client == b.client) = true) (t2 : (a.num == b.num) = true) (t3 : (a.time == b.time) = true) (t4 : (a.queue == b.queue) = true) (t5 : ((S a.group).toList == (S b.group).toList) = true) (t6 : ((S a.body).toList == (S b.body).toList) = true) (t7 : ((S a.token).toList == (S b.token).toList) = true) (t8 : ((S a.attempt).toList == (S b.attempt).toList) = true) (t9 : (a.max == b.max) = true) (t10 : (a.secs == b.secs) = true) (t11 : ∀ w, Sem.run Tryz.prog (binOp .eql 35 (.agg #[.int .i64 a.rc.q, .string (S a.rc.g), .int .i64 a.rc.s, .int .i64 a.rc.c]) (.agg #[.int .i64 b.rc.q, .string (S b.rc.g), .int .i64 b.rc.s, .int .i64 b.rc.c])) w = .ok (.bool true) w) (t12 : ∀ w, Sem.run Tryz.prog (binOp .eql 37 (.agg #[.int .i64 a.lo, .int .i64 a.hi]) (.agg #[.int .i64 b.lo, .int .i64 b.hi])) w = .ok (.bool false) w) :
    Calls Tryz.prog 49 #[.agg (Cv a (.slice ao a.data.length acap)), .agg (Cv b (.slice bo b.data.length bcap))] w fun e w' => Tells w false e w' := by
  obtain ⟨k0, k1, k2, k3, k4, k5, k6, k7, k8, k9, k10, k11, k12, k13, k14, k15, k16, k17, k18⟩ := Cv_at a (.slice ao a.data.length acap)
  obtain ⟨j0, j1, j2, j3, j4, j5, j6, j7, j8, j9, j10, j11, j12, j13, j14, j15, j16, j17, j18⟩ := Cv_at b (.slice bo b.data.length bcap)
  have HG := mkH (((Gr.refl w).alloc (.cells (Cv a (.slice ao a.data.length acap)) 39)).alloc (.cells (Cv b (.slice bo b.data.length bcap)) 39))
  have hA := ((Bx.new w (Cv a (.slice ao a.data.length acap)) 39).alloc (.cells (Cv b (.slice bo b.data.length bcap)) 39)).cell
  have hB : ∀ k, ((w.alloc (.cells (Cv a (.slice ao a.data.length acap)) 39)).alloc (.cells (Cv b (.slice bo b.data.length bcap)) 39)).cell? ⟨w.heap.size + 1, k, none⟩ = (Cv b (.slice bo b.data.length bcap))[k]? := fun k => by
    have := (Bx.new (w.alloc (.cells (Cv a (.slice ao a.data.length acap)) 39)) (Cv b (.slice bo b.data.length bcap)) 39).cell k
    rwa [show (w.alloc (.cells (Cv a (.slice ao a.data.length acap)) 39)).heap.size = w.heap.size + 1 by simp] at this
  have HE := sameTexts_any _ ao bo acap bcap a.data b.data (RowT.gr hl HG.out) (RowT.gr hm HG.out) h1 h2
  rw [decide_eq_true hd] at HE
  have HA := mkH ((Bx.new w (Cv a (.slice ao a.data.length acap)) 39).alloc (.cells (Cv b (.slice bo b.data.length bcap)) 39))
  have HB : Hid (Bx ((w.alloc (.cells (Cv a (.slice ao a.data.length acap)) 39)).alloc (.cells (Cv b (.slice bo b.data.length bcap)) 39)) (w.heap.size + 1) (Cv b (.slice bo b.data.length bcap)) 39) := mkH (by have := Bx.new (w.alloc (.cells (Cv a (.slice ao a.data.length acap)) 39)) (Cv b (.slice bo b.data.length bcap)) 39; rwa [show (w.alloc (.cells (Cv a (.slice ao a.data.length acap)) 39)).heap.size = w.heap.size + 1 by simp] at this)
  generalize Cv a (.slice ao a.data.length acap) = A at *
  generalize Cv b (.slice bo b.data.length bcap) = B at *
  have q1 := guardRc
  have q2 := guardR
  clear hl hm h1 h2 hd
  go_enter Tryz.func49, Tryz.ntmps49
  go_wp2_with fail
  refine HE.mono ?_
  rintro e w1 ⟨rfl, hg⟩
  have hA := (HA.out.gr hg).cell
  have hB := (HB.out.gr hg).cell
  have HG2 := mkH (HG.out.trans hg)
  clear hg HE HA HB HG
  generalize w.heap.size + 1 = B1 at hB ⊢
  generalize w.heap.size = B0 at hA ⊢
  go_wp2
  go_ret
  exact ⟨rfl, HG2.out⟩

set_option maxHeartbeats 4000000 in
theorem rsame_13 (w : World) (a b : Cm) (ao bo : Option Addr) (acap bcap : Nat) (hl : RowT w ao a.data) (hm : RowT w bo b.data) (h1 : a.data.length ≤ 1000000) (h2 : b.data.length ≤ 1000000) (hd : a.data = b.data) (t0 : (a.kind == b.kind) = true) (t1 : (a.client == b.client) = true) (t2 : (a.num == b.num) = true) (t3 : (a.time == b.time) = true) (t4 : (a.queue == b.queue) = true) (t5 : ((S a.group).toList == (S b.group).toList) = true) (t6 : ((S a.body).toList == (S b.body).toList) = true) (t7 : ((S a.token).toList == (S b.token).toList) = true) (t8 : ((S a.attempt).toList == (S b.attempt).toList) = true) (t9 : (a.max == b.max) = true) (t10 : (a.secs == b.secs) = true) (t11 : ∀ w, Sem.run Tryz.prog (binOp .eql 35 (.agg #[.int .i64 a.rc.q, .string (S a.rc.g), .int .i64 a.rc.s, .int .i64 a.rc.c]) (.agg #[.int .i64 b.rc.q, .string (S b.rc.g), .int .i64 b.rc.s, .int .i64 b.rc.c])) w = .ok (.bool true) w) (t12 : ∀ w, Sem.run Tryz.prog (binOp .eql 37 (.agg #[.int .i64 a.lo, .int .i64 a.hi]) (.agg #[.int .i64 b.lo, .int .i64 b.hi])) w = .ok (.bool true) w) (t13 : (a.to == b.to) = false) :
    Calls Tryz.prog 49 #[.agg (Cv a (.slice ao a.data.length acap)), .agg (Cv b (.slice bo b.data.length bcap))] w fun e w' => Tells w false e w' := by
  obtain ⟨k0, k1, k2, k3, k4, k5, k6, k7, k8, k9, k10, k11, k12, k13, k14, k15, k16, k17, k18⟩ := Cv_at a (.slice ao a.data.length acap)
  obtain ⟨j0, j1, j2, j3, j4, j5, j6, j7, j8, j9, j10, j11, j12, j13, j14, j15, j16, j17, j18⟩ := Cv_at b (.slice bo b.data.length bcap)
  have HG := mkH (((Gr.refl w).alloc (.cells (Cv a (.slice ao a.data.length acap)) 39)).alloc (.cells (Cv b (.slice bo b.data.length bcap)) 39))
  have hA := ((Bx.new w (Cv a (.slice ao a.data.length acap)) 39).alloc (.cells (Cv b (.slice bo b.data.length bcap)) 39)).cell
  have hB : ∀ k, ((w.alloc (.cells (Cv a (.slice ao a.data.length acap)) 39)).alloc (.cells (Cv b (.slice bo b.data.length bcap)) 39)).cell? ⟨w.heap.size + 1, k, none⟩ = (Cv b (.slice bo b.data.length bcap))[k]? := fun k => by
    have := (Bx.new (w.alloc (.cells (Cv a (.slice ao a.data.length acap)) 39)) (Cv b (.slice bo b.data.length bcap)) 39).cell k
    rwa [show (w.alloc (.cells (Cv a (.slice ao a.data.length acap)) 39)).heap.size = w.heap.size + 1 by simp] at this
  have HE := sameTexts_any _ ao bo acap bcap a.data b.data (RowT.gr hl HG.out) (RowT.gr hm HG.out) h1 h2
  rw [decide_eq_true hd] at HE
  have HA := mkH ((Bx.new w (Cv a (.slice ao a.data.length acap)) 39).alloc (.cells (Cv b (.slice bo b.data.length bcap)) 39))
  have HB : Hid (Bx ((w.alloc (.cells (Cv a (.slice ao a.data.length acap)) 39)).alloc (.cells (Cv b (.slice bo b.data.length bcap)) 39)) (w.heap.size + 1) (Cv b (.slice bo b.data.length bcap)) 39) := mkH (by have := Bx.new (w.alloc (.cells (Cv a (.slice ao a.data.length acap)) 39)) (Cv b (.slice bo b.data.length bcap)) 39; rwa [show (w.alloc (.cells (Cv a (.slice ao a.data.length acap)) 39)).heap.size = w.heap.size + 1 by simp] at this)
  generalize Cv a (.slice ao a.data.length acap) = A at *
  generalize Cv b (.slice bo b.data.length bcap) = B at *
  have q1 := guardRc
  have q2 := guardR
  clear hl hm h1 h2 hd
  go_enter Tryz.func49, Tryz.ntmps49
  go_wp2_with fail
  refine HE.mono ?_
  rintro e w1 ⟨rfl, hg⟩
  have hA := (HA.out.gr hg).cell
  have hB := (HB.out.gr hg).cell
  have HG2 := mkH (HG.out.trans hg)
  clear hg HE HA HB HG
  generalize w.heap.size + 1 = B1 at hB ⊢
  generalize w.heap.size = B0 at hA ⊢
  go_wp2
  go_ret
  exact ⟨rfl, HG2.out⟩

set_option maxHeartbeats 4000000 in
theorem rsame_14 (w : World) (a b : Cm) (ao bo : Option Addr) (acap bcap : Nat) (hl : RowT w ao a.data) (hm : RowT w bo b.data) (h1 : a.data.length ≤ 1000000) (h2 : b.data.length ≤ 1000000) (hd : a.data = b.data) (t0 : (a.kind == b.kind) = true) (t1 : (a.client == b.client) = true) (t2 : (a.num == b.num) = true) (t3 : (a.time == b.time) = true) (t4 : (a.queue == b.queue) = true) (t5 : ((S a.group).toList == (S b.group).toList) = true) (t6 : ((S a.body).toList == (S b.body).toList) = true) (t7 : ((S a.token).toList == (S b.token).toList) = true) (t8 : ((S a.attempt).toList == (S b.attempt).toList) = true) (t9 : (a.max == b.max) = true) (t10 : (a.secs == b.secs) = true) (t11 : ∀ w, Sem.run Tryz.prog (binOp .eql 35 (.agg #[.int .i64 a.rc.q, .string (S a.rc.g), .int .i64 a.rc.s, .int .i64 a.rc.c]) (.agg #[.int .i64 b.rc.q, .string (S b.rc.g), .int .i64 b.rc.s, .int .i64 b.rc.c])) w = .ok (.bool true) w) (t12 : ∀ w, Sem.run Tryz.prog (binOp .eql 37 (.agg #[.int .i64 a.lo, .int .i64 a.hi]) (.agg #[.int .i64 b.lo, .int .i64 b.hi])) w = .ok (.bool true) w) (t13 : (a.to == b.to) = true) :
    Calls Tryz.prog 49 #[.agg (Cv a (.slice ao a.data.length acap)), .agg (Cv b (.slice bo b.data.length bcap))] w fun e w' => Tells w true e w' := by
  obtain ⟨k0, k1, k2, k3, k4, k5, k6, k7, k8, k9, k10, k11, k12, k13, k14, k15, k16, k17, k18⟩ := Cv_at a (.slice ao a.data.length acap)
  obtain ⟨j0, j1, j2, j3, j4, j5, j6, j7, j8, j9, j10, j11, j12, j13, j14, j15, j16, j17, j18⟩ := Cv_at b (.slice bo b.data.length bcap)
  have HG := mkH (((Gr.refl w).alloc (.cells (Cv a (.slice ao a.data.length acap)) 39)).alloc (.cells (Cv b (.slice bo b.data.length bcap)) 39))
  have hA := ((Bx.new w (Cv a (.slice ao a.data.length acap)) 39).alloc (.cells (Cv b (.slice bo b.data.length bcap)) 39)).cell
  have hB : ∀ k, ((w.alloc (.cells (Cv a (.slice ao a.data.length acap)) 39)).alloc (.cells (Cv b (.slice bo b.data.length bcap)) 39)).cell? ⟨w.heap.size + 1, k, none⟩ = (Cv b (.slice bo b.data.length bcap))[k]? := fun k => by
    have := (Bx.new (w.alloc (.cells (Cv a (.slice ao a.data.length acap)) 39)) (Cv b (.slice bo b.data.length bcap)) 39).cell k
    rwa [show (w.alloc (.cells (Cv a (.slice ao a.data.length acap)) 39)).heap.size = w.heap.size + 1 by simp] at this
  have HE := sameTexts_any _ ao bo acap bcap a.data b.data (RowT.gr hl HG.out) (RowT.gr hm HG.out) h1 h2
  rw [decide_eq_true hd] at HE
  have HA := mkH ((Bx.new w (Cv a (.slice ao a.data.length acap)) 39).alloc (.cells (Cv b (.slice bo b.data.length bcap)) 39))
  have HB : Hid (Bx ((w.alloc (.cells (Cv a (.slice ao a.data.length acap)) 39)).alloc (.cells (Cv b (.slice bo b.data.length bcap)) 39)) (w.heap.size + 1) (Cv b (.slice bo b.data.length bcap)) 39) := mkH (by have := Bx.new (w.alloc (.cells (Cv a (.slice ao a.data.length acap)) 39)) (Cv b (.slice bo b.data.length bcap)) 39; rwa [show (w.alloc (.cells (Cv a (.slice ao a.data.length acap)) 39)).heap.size = w.heap.size + 1 by simp] at this)
  generalize Cv a (.slice ao a.data.length acap) = A at *
  generalize Cv b (.slice bo b.data.length bcap) = B at *
  have q1 := guardRc
  have q2 := guardR
  clear hl hm h1 h2 hd
  go_enter Tryz.func49, Tryz.ntmps49
  go_wp2_with fail
  refine HE.mono ?_
  rintro e w1 ⟨rfl, hg⟩
  have hA := (HA.out.gr hg).cell
  have hB := (HB.out.gr hg).cell
  have HG2 := mkH (HG.out.trans hg)
  clear hg HE HA HB HG
  generalize w.heap.size + 1 = B1 at hB ⊢
  generalize w.heap.size = B0 at hA ⊢
  go_wp2
  go_ret
  exact ⟨rfl, HG2.out⟩
end Go.Proofs.YtgbbajeeelgbhaaGreatDoor.Wn

namespace Go.Proofs.YtgbbajeeelgbhaaGreatDoor.Wn
open Go.RowKit Kt Pl Wi Wk We Wf
open At (RowT)
set_option linter.unusedVariables false
set_option linter.unusedSimpArgs false
set_option maxRecDepth 20000

def sameC (a b : Cm) : Bool := (decide (a.kind = b.kind) && (decide (a.client = b.client) && (decide (a.num = b.num) && (decide (a.time = b.time) && (decide (a.queue = b.queue) && (decide (a.group = b.group) && (decide (a.body = b.body) && (decide (a.token = b.token) && (decide (a.attempt = b.attempt) && (decide (a.max = b.max) && (decide (a.secs = b.secs) && (decide ((a.rc.q = b.rc.q ∧ a.rc.g = b.rc.g ∧ a.rc.s = b.rc.s ∧ a.rc.c = b.rc.c)) && (decide ((a.lo = b.lo ∧ a.hi = b.hi)) && (decide (a.to = b.to) && (decide (a.data = b.data))))))))))))))))
theorem sameC_self (a : Cm) : sameC a a = true := by simp [sameC]
theorem str_eq (a b : Bs) : ((S a).toList == (S b).toList) = decide (a = b) := by rw [S_toList, S_toList, Bool.eq_iff_iff]; simp

theorem rsame_any (w : World) (a b : Cm) (ao bo : Option Addr) (acap bcap : Nat) (hl : RowT w ao a.data) (hm : RowT w bo b.data) (h1 : a.data.length ≤ 1000000) (h2 : b.data.length ≤ 1000000) :
    Calls Tryz.prog 49 #[.agg (Cv a (.slice ao a.data.length acap)), .agg (Cv b (.slice bo b.data.length bcap))] w fun e w' => Tells w (sameC a b) e w' := by
  by_cases p_data : a.data = b.data
  rotate_left
  · rw [show sameC a b = false by simp [sameC, p_data]]; exact rsame_d w a b ao bo acap bcap hl hm h1 h2 p_data
  by_cases p_kind : a.kind = b.kind
  rotate_left
  · rw [show sameC a b = false by simp [sameC, p_kind]]; exact rsame_0 w a b ao bo acap bcap hl hm h1 h2 p_data  (by simpa using p_kind)
  by_cases p_client : a.client = b.client
  rotate_left
  · rw [show sameC a b = false by simp [sameC, p_client]]; exact rsame_1 w a b ao bo acap bcap hl hm h1 h2 p_data (by simpa using p_kind) (by simpa using p_client)
  by_cases p_num : a.num = b.num
  rotate_left
  · rw [show sameC a b = false by simp [sameC, p_num]]; exact rsame_2 w a b ao bo acap bcap hl hm h1 h2 p_data (by simpa using p_kind) (by simpa using p_client) (by simpa using p_num)
  by_cases p_time : a.time = b.time
  rotate_left
  · rw [show sameC a b = false by simp [sameC, p_time]]; exact rsame_3 w a b ao bo acap bcap hl hm h1 h2 p_data (by simpa using p_kind) (by simpa using p_client) (by simpa using p_num) (by simpa using p_time)
  by_cases p_queue : a.queue = b.queue
  rotate_left
  · rw [show sameC a b = false by simp [sameC, p_queue]]; exact rsame_4 w a b ao bo acap bcap hl hm h1 h2 p_data (by simpa using p_kind) (by simpa using p_client) (by simpa using p_num) (by simpa using p_time) (by simpa using p_queue)
  by_cases p_group : a.group = b.group
  rotate_left
  · rw [show sameC a b = false by simp [sameC, p_group]]; exact rsame_5 w a b ao bo acap bcap hl hm h1 h2 p_data (by simpa using p_kind) (by simpa using p_client) (by simpa using p_num) (by simpa using p_time) (by simpa using p_queue) (by rw [str_eq]; simpa using p_group)
  by_cases p_body : a.body = b.body
  rotate_left
  · rw [show sameC a b = false by simp [sameC, p_body]]; exact rsame_6 w a b ao bo acap bcap hl hm h1 h2 p_data (by simpa using p_kind) (by simpa using p_client) (by simpa using p_num) (by simpa using p_time) (by simpa using p_queue) (by rw [str_eq]; simpa using p_group) (by rw [str_eq]; simpa using p_body)
  by_cases p_token : a.token = b.token
  rotate_left
  · rw [show sameC a b = false by simp [sameC, p_token]]; exact rsame_7 w a b ao bo acap bcap hl hm h1 h2 p_data (by simpa using p_kind) (by simpa using p_client) (by simpa using p_num) (by simpa using p_time) (by simpa using p_queue) (by rw [str_eq]; simpa using p_group) (by rw [str_eq]; simpa using p_body) (by rw [str_eq]; simpa using p_token)
  by_cases p_attempt : a.attempt = b.attempt
  rotate_left
  · rw [show sameC a b = false by simp [sameC, p_attempt]]; exact rsame_8 w a b ao bo acap bcap hl hm h1 h2 p_data (by simpa using p_kind) (by simpa using p_client) (by simpa using p_num) (by simpa using p_time) (by simpa using p_queue) (by rw [str_eq]; simpa using p_group) (by rw [str_eq]; simpa using p_body) (by rw [str_eq]; simpa using p_token) (by rw [str_eq]; simpa using p_attempt)
  by_cases p_max : a.max = b.max
  rotate_left
  · rw [show sameC a b = false by simp [sameC, p_max]]; exact rsame_9 w a b ao bo acap bcap hl hm h1 h2 p_data (by simpa using p_kind) (by simpa using p_client) (by simpa using p_num) (by simpa using p_time) (by simpa using p_queue) (by rw [str_eq]; simpa using p_group) (by rw [str_eq]; simpa using p_body) (by rw [str_eq]; simpa using p_token) (by rw [str_eq]; simpa using p_attempt) (by simpa using p_max)
  by_cases p_secs : a.secs = b.secs
  rotate_left
  · rw [show sameC a b = false by simp [sameC, p_secs]]; exact rsame_10 w a b ao bo acap bcap hl hm h1 h2 p_data (by simpa using p_kind) (by simpa using p_client) (by simpa using p_num) (by simpa using p_time) (by simpa using p_queue) (by rw [str_eq]; simpa using p_group) (by rw [str_eq]; simpa using p_body) (by rw [str_eq]; simpa using p_token) (by rw [str_eq]; simpa using p_attempt) (by simpa using p_max) (by simpa using p_secs)
  by_cases p_rc : (a.rc.q = b.rc.q ∧ a.rc.g = b.rc.g ∧ a.rc.s = b.rc.s ∧ a.rc.c = b.rc.c)
  rotate_left
  · rw [show sameC a b = false by simp [sameC, p_rc]]; exact rsame_11 w a b ao bo acap bcap hl hm h1 h2 p_data (by simpa using p_kind) (by simpa using p_client) (by simpa using p_num) (by simpa using p_time) (by simpa using p_queue) (by rw [str_eq]; simpa using p_group) (by rw [str_eq]; simpa using p_body) (by rw [str_eq]; simpa using p_token) (by rw [str_eq]; simpa using p_attempt) (by simpa using p_max) (by simpa using p_secs) (by intro w; rw [eqlRc, decide_eq_false p_rc])
  by_cases p_rg : (a.lo = b.lo ∧ a.hi = b.hi)
  rotate_left
  · rw [show sameC a b = false by simp [sameC, p_rg]]; exact rsame_12 w a b ao bo acap bcap hl hm h1 h2 p_data (by simpa using p_kind) (by simpa using p_client) (by simpa using p_num) (by simpa using p_time) (by simpa using p_queue) (by rw [str_eq]; simpa using p_group) (by rw [str_eq]; simpa using p_body) (by rw [str_eq]; simpa using p_token) (by rw [str_eq]; simpa using p_attempt) (by simpa using p_max) (by simpa using p_secs) (by intro w; rw [eqlRc, decide_eq_true p_rc]) (by intro w; rw [eqlR, decide_eq_false p_rg])
  by_cases p_to : a.to = b.to
  rotate_left
  · rw [show sameC a b = false by simp [sameC, p_to]]; exact rsame_13 w a b ao bo acap bcap hl hm h1 h2 p_data (by simpa using p_kind) (by simpa using p_client) (by simpa using p_num) (by simpa using p_time) (by simpa using p_queue) (by rw [str_eq]; simpa using p_group) (by rw [str_eq]; simpa using p_body) (by rw [str_eq]; simpa using p_token) (by rw [str_eq]; simpa using p_attempt) (by simpa using p_max) (by simpa using p_secs) (by intro w; rw [eqlRc, decide_eq_true p_rc]) (by intro w; rw [eqlR, decide_eq_true p_rg]) (by simpa using p_to)
  rw [show sameC a b = true by simp [sameC, p_kind, p_client, p_num, p_time, p_queue, p_group, p_body, p_token, p_attempt, p_max, p_secs, p_rc, p_rg, p_to, p_data]]
  exact rsame_14 w a b ao bo acap bcap hl hm h1 h2 p_data (by simpa using p_kind) (by simpa using p_client) (by simpa using p_num) (by simpa using p_time) (by simpa using p_queue) (by rw [str_eq]; simpa using p_group) (by rw [str_eq]; simpa using p_body) (by rw [str_eq]; simpa using p_token) (by rw [str_eq]; simpa using p_attempt) (by simpa using p_max) (by simpa using p_secs) (by intro w; rw [eqlRc, decide_eq_true p_rc]) (by intro w; rw [eqlR, decide_eq_true p_rg]) (by simpa using p_to)
end Go.Proofs.YtgbbajeeelgbhaaGreatDoor.Wn
