/-
  The document's Same: walks.
-/
import Derived.Test.YtjboldahmndkeaaWiM
import Derived.Test.YtjboldahmndkeaaWiF
import Derived.Deep.Cut
namespace Go.Proofs.Ytjboldahmndkeaa.Wn
open Go.RowKit Kt Pl Wi Wk We Wf
open At (RowT)
set_option linter.unusedVariables false
set_option linter.unusedSimpArgs false
set_option maxRecDepth 20000

set_option maxHeartbeats 4000000 in
theorem rsame_4 (w : World) (a b : Cm) (ao bo : Option Addr) (acap bcap : Nat) (hl : RowT w ao a.data) (hm : RowT w bo b.data) (h1 : a.data.length ≤ 1000000) (h2 : b.data.length ≤ 1000000) (hd : a.data = b.data) (t0 : (a.kind == b.kind) = true) (t1 : (a.client == b.client) = true) (t2 : (a.num == b.num) = true) (t3 : (a.time == b.time) = true) (t4 : (a.queue == b.queue) = false) :
    Calls Try.prog 18 #[.agg (Cv a (.slice ao a.data.length acap)), .agg (Cv b (.slice bo b.data.length bcap))] w fun e w' => Tells w false e w' := by
  obtain ⟨k0, k1, k2, k3, k4, k5, k6, k7, k8, k9, k10, k11, k12, k13, k14, k15, k16, k17, k18⟩ := Cv_at a (.slice ao a.data.length acap)
  obtain ⟨j0, j1, j2, j3, j4, j5, j6, j7, j8, j9, j10, j11, j12, j13, j14, j15, j16, j17, j18⟩ := Cv_at b (.slice bo b.data.length bcap)
  have HG := mkH (((Gr.refl w).alloc (.cells (Cv a (.slice ao a.data.length acap)) 28)).alloc (.cells (Cv b (.slice bo b.data.length bcap)) 28))
  have hA := ((Bx.new w (Cv a (.slice ao a.data.length acap)) 28).alloc (.cells (Cv b (.slice bo b.data.length bcap)) 28)).cell
  have hB : ∀ k, ((w.alloc (.cells (Cv a (.slice ao a.data.length acap)) 28)).alloc (.cells (Cv b (.slice bo b.data.length bcap)) 28)).cell? ⟨w.heap.size + 1, k, none⟩ = (Cv b (.slice bo b.data.length bcap))[k]? := fun k => by
    have := (Bx.new (w.alloc (.cells (Cv a (.slice ao a.data.length acap)) 28)) (Cv b (.slice bo b.data.length bcap)) 28).cell k
    rwa [show (w.alloc (.cells (Cv a (.slice ao a.data.length acap)) 28)).heap.size = w.heap.size + 1 by simp] at this
  have HE := sameTexts_any _ ao bo acap bcap a.data b.data (RowT.gr hl HG.out) (RowT.gr hm HG.out) h1 h2
  rw [decide_eq_true hd] at HE
  have HA := mkH ((Bx.new w (Cv a (.slice ao a.data.length acap)) 28).alloc (.cells (Cv b (.slice bo b.data.length bcap)) 28))
  have HB : Hid (Bx ((w.alloc (.cells (Cv a (.slice ao a.data.length acap)) 28)).alloc (.cells (Cv b (.slice bo b.data.length bcap)) 28)) (w.heap.size + 1) (Cv b (.slice bo b.data.length bcap)) 28) := mkH (by have := Bx.new (w.alloc (.cells (Cv a (.slice ao a.data.length acap)) 28)) (Cv b (.slice bo b.data.length bcap)) 28; rwa [show (w.alloc (.cells (Cv a (.slice ao a.data.length acap)) 28)).heap.size = w.heap.size + 1 by simp] at this)
  generalize Cv a (.slice ao a.data.length acap) = A at *
  generalize Cv b (.slice bo b.data.length bcap) = B at *
  have q1 := guardRc
  have q2 := guardR
  clear hl hm h1 h2 hd
  go_enter Try.func18, Try.ntmps18
  go_wp2_with fail
  refine HE.mono ?_
  rintro e w1 ⟨rfl, hg⟩
  have hA := (HA.out.gr hg).cell
  have hB := (HB.out.gr hg).cell
  have HG2 := mkH (HG.out.trans hg)
  clear hg HE HA HB HG
  generalize w.heap.size + 1 = B1 at hB ⊢
  generalize w.heap.size = B0 at hA ⊢
  go_wp2
  go_ret
  exact ⟨rfl, HG2.out⟩

set_option maxHeartbeats 4000000 in
theorem rsame_5 (w : World) (a b : Cm) (ao bo : Option Addr) (acap bcap : Nat) (hl : RowT w ao a.data) (hm : RowT w bo b.data) (h1 : a.data.length ≤ 1000000) (h2 : b.data.length ≤ 1000000) (hd : a.data = b.data) (t0 : (a.kind == b.kind) = true) (t1 : (a.client == b.client) = true) (t2 : (a.num == b.num) = true) (t3 : (a.time == b.time) = true) (t4 : (a.queue == b.queue) = true) (t5 : ((S a.group).toList == (S b.group).toList) = false) :
    Calls Try.prog 18 #[.agg (Cv a (.slice ao a.data.length acap)), .agg (Cv b (.slice bo b.data.length bcap))] w fun e w' => Tells w false e w' := by
  obtain ⟨k0, k1, k2, k3, k4, k5, k6, k7, k8, k9, k10, k11, k12, k13, k14, k15, k16, k17, k18⟩ := Cv_at a (.slice ao a.data.length acap)
  obtain ⟨j0, j1, j2, j3, j4, j5, j6, j7, j8, j9, j10, j11, j12, j13, j14, j15, j16, j17, j18⟩ := Cv_at b (.slice bo b.data.length bcap)
  have HG := mkH (((Gr.refl w).alloc (.cells (Cv a (.slice ao a.data.length acap)) 28)).alloc (.cells (Cv b (.slice bo b.data.length bcap)) 28))
  have hA := ((Bx.new w (Cv a (.slice ao a.data.length acap)) 28).alloc (.cells (Cv b (.slice bo b.data.length bcap)) 28)).cell
  have hB : ∀ k, ((w.alloc (.cells (Cv a (.slice ao a.data.length acap)) 28)).alloc (.cells (Cv b (.slice bo b.data.length bcap)) 28)).cell? ⟨w.heap.size + 1, k, none⟩ = (Cv b (.slice bo b.data.length bcap))[k]? := fun k => by
    have := (Bx.new (w.alloc (.cells (Cv a (.slice ao a.data.length acap)) 28)) (Cv b (.slice bo b.data.length bcap)) 28).cell k
    rwa [show (w.alloc (.cells (Cv a (.slice ao a.data.length acap)) 28)).heap.size = w.heap.size + 1 by simp] at this
  have HE := sameTexts_any _ ao bo acap bcap a.data b.data (RowT.gr hl HG.out) (RowT.gr hm HG.out) h1 h2
  rw [decide_eq_true hd] at HE
  have HA := mkH ((Bx.new w (Cv a (.slice ao a.data.length acap)) 28).alloc (.cells (Cv b (.slice bo b.data.length bcap)) 28))
  have HB : Hid (Bx ((w.alloc (.cells (Cv a (.slice ao a.data.length acap)) 28)).alloc (.cells (Cv b (.slice bo b.data.length bcap)) 28)) (w.heap.size + 1) (Cv b (.slice bo b.data.length bcap)) 28) := mkH (by have := Bx.new (w.alloc (.cells (Cv a (.slice ao a.data.length acap)) 28)) (Cv b (.slice bo b.data.length bcap)) 28; rwa [show (w.alloc (.cells (Cv a (.slice ao a.data.length acap)) 28)).heap.size = w.heap.size + 1 by simp] at this)
  generalize Cv a (.slice ao a.data.length acap) = A at *
  generalize Cv b (.slice bo b.data.length bcap) = B at *
  have q1 := guardRc
  have q2 := guardR
  clear hl hm h1 h2 hd
  go_enter Try.func18, Try.ntmps18
  go_wp2_with fail
  refine HE.mono ?_
  rintro e w1 ⟨rfl, hg⟩
  have hA := (HA.out.gr hg).cell
  have hB := (HB.out.gr hg).cell
  have HG2 := mkH (HG.out.trans hg)
  clear hg HE HA HB HG
  generalize w.heap.size + 1 = B1 at hB ⊢
  generalize w.heap.size = B0 at hA ⊢
  go_wp2
  go_ret
  exact ⟨rfl, HG2.out⟩

set_option maxHeartbeats 4000000 in
theorem rsame_6 (w : World) (a b : Cm) (ao bo : Option Addr) (acap bcap : Nat) (hl : RowT w ao a.data) (hm : RowT w bo b.data) (h1 : a.data.length ≤ 1000000) (h2 : b.data.length ≤ 1000000) (hd : a.data = b.data) (t0 : (a.kind == b.kind) = true) (t1 : (a.client == b.client) = true) (t2 : (a.num == b.num) = true) (t3 : (a.time == b.time) = true) (t4 : (a.queue == b.queue) = true) (t5 : ((S a.group).toList == (S b.group).toList) = true) (t6 : ((S a.body).toList == (S b.body).toList) = false) :
    Calls Try.prog 18 #[.agg (Cv a (.slice ao a.data.length acap)), .agg (Cv b (.slice bo b.data.length bcap))] w fun e w' => Tells w false e w' := by
  obtain ⟨k0, k1, k2, k3, k4, k5, k6, k7, k8, k9, k10, k11, k12, k13, k14, k15, k16, k17, k18⟩ := Cv_at a (.slice ao a.data.length acap)
  obtain ⟨j0, j1, j2, j3, j4, j5, j6, j7, j8, j9, j10, j11, j12, j13, j14, j15, j16, j17, j18⟩ := Cv_at b (.slice bo b.data.length bcap)
  have HG := mkH (((Gr.refl w).alloc (.cells (Cv a (.slice ao a.data.length acap)) 28)).alloc (.cells (Cv b (.slice bo b.data.length bcap)) 28))
  have hA := ((Bx.new w (Cv a (.slice ao a.data.length acap)) 28).alloc (.cells (Cv b (.slice bo b.data.length bcap)) 28)).cell
  have hB : ∀ k, ((w.alloc (.cells (Cv a (.slice ao a.data.length acap)) 28)).alloc (.cells (Cv b (.slice bo b.data.length bcap)) 28)).cell? ⟨w.heap.size + 1, k, none⟩ = (Cv b (.slice bo b.data.length bcap))[k]? := fun k => by
    have := (Bx.new (w.alloc (.cells (Cv a (.slice ao a.data.length acap)) 28)) (Cv b (.slice bo b.data.length bcap)) 28).cell k
    rwa [show (w.alloc (.cells (Cv a (.slice ao a.data.length acap)) 28)).heap.size = w.heap.size + 1 by simp] at this
  have HE := sameTexts_any _ ao bo acap bcap a.data b.data (RowT.gr hl HG.out) (RowT.gr hm HG.out) h1 h2
  rw [decide_eq_true hd] at HE
  have HA := mkH ((Bx.new w (Cv a (.slice ao a.data.length acap)) 28).alloc (.cells (Cv b (.slice bo b.data.length bcap)) 28))
  have HB : Hid (Bx ((w.alloc (.cells (Cv a (.slice ao a.data.length acap)) 28)).alloc (.cells (Cv b (.slice bo b.data.length bcap)) 28)) (w.heap.size + 1) (Cv b (.slice bo b.data.length bcap)) 28) := mkH (by have := Bx.new (w.alloc (.cells (Cv a (.slice ao a.data.length acap)) 28)) (Cv b (.slice bo b.data.length bcap)) 28; rwa [show (w.alloc (.cells (Cv a (.slice ao a.data.length acap)) 28)).heap.size = w.heap.size + 1 by simp] at this)
  generalize Cv a (.slice ao a.data.length acap) = A at *
  generalize Cv b (.slice bo b.data.length bcap) = B at *
  have q1 := guardRc
  have q2 := guardR
  clear hl hm h1 h2 hd
  go_enter Try.func18, Try.ntmps18
  go_wp2_with fail
  refine HE.mono ?_
  rintro e w1 ⟨rfl, hg⟩
  have hA := (HA.out.gr hg).cell
  have hB := (HB.out.gr hg).cell
  have HG2 := mkH (HG.out.trans hg)
  clear hg HE HA HB HG
  generalize w.heap.size + 1 = B1 at hB ⊢
  generalize w.heap.size = B0 at hA ⊢
  go_wp2
  go_ret
  exact ⟨rfl, HG2.out⟩

set_option maxHeartbeats 4000000 in
theorem rsame_7 (w : World) (a b : Cm) (ao bo : Option Addr) (acap bcap : Nat) (hl : RowT w ao a.data) (hm : RowT w bo b.data) (h1 : a.data.length ≤ 1000000) (h2 : b.data.length ≤ 1000000) (hd : a.data = b.data) (t0 : (a.kind == b.kind) = true) (t1 : (a.client == b.client) = true) (t2 : (a.num == b.num) = true) (t3 : (a.time == b.time) = true) (t4 : (a.queue == b.queue) = true) (t5 : ((S a.group).toList == (S b.group).toList) = true) (t6 : ((S a.body).toList == (S b.body).toList) = true) (t7 : ((S a.token).toList == (S b.token).toList) = false) :
    Calls Try.prog 18 #[.agg (Cv a (.slice ao a.data.length acap)), .agg (Cv b (.slice bo b.data.length bcap))] w fun e w' => Tells w false e w' := by
  obtain ⟨k0, k1, k2, k3, k4, k5, k6, k7, k8, k9, k10, k11, k12, k13, k14, k15, k16, k17, k18⟩ := Cv_at a (.slice ao a.data.length acap)
  obtain ⟨j0, j1, j2, j3, j4, j5, j6, j7, j8, j9, j10, j11, j12, j13, j14, j15, j16, j17, j18⟩ := Cv_at b (.slice bo b.data.length bcap)
  have HG := mkH (((Gr.refl w).alloc (.cells (Cv a (.slice ao a.data.length acap)) 28)).alloc (.cells (Cv b (.slice bo b.data.length bcap)) 28))
  have hA := ((Bx.new w (Cv a (.slice ao a.data.length acap)) 28).alloc (.cells (Cv b (.slice bo b.data.length bcap)) 28)).cell
  have hB : ∀ k, ((w.alloc (.cells (Cv a (.slice ao a.data.length acap)) 28)).alloc (.cells (Cv b (.slice bo b.data.length bcap)) 28)).cell? ⟨w.heap.size + 1, k, none⟩ = (Cv b (.slice bo b.data.length bcap))[k]? := fun k => by
    have := (Bx.new (w.alloc (.cells (Cv a (.slice ao a.data.length acap)) 28)) (Cv b (.slice bo b.data.length bcap)) 28).cell k
    rwa [show (w.alloc (.cells (Cv a (.slice ao a.data.length acap)) 28)).heap.size = w.heap.size + 1 by simp] at this
  have HE := sameTexts_any _ ao bo acap bcap a.data b.data (RowT.gr hl HG.out) (RowT.gr hm HG.out) h1 h2
  rw [decide_eq_true hd] at HE
  have HA := mkH ((Bx.new w (Cv a (.slice ao a.data.length acap)) 28).alloc (.cells (Cv b (.slice bo b.data.length bcap)) 28))
  have HB : Hid (Bx ((w.alloc (.cells (Cv a (.slice ao a.data.length acap)) 28)).alloc (.cells (Cv b (.slice bo b.data.length bcap)) 28)) (w.heap.size + 1) (Cv b (.slice bo b.data.length bcap)) 28) := mkH (by have := Bx.new (w.alloc (.cells (Cv a (.slice ao a.data.length acap)) 28)) (Cv b (.slice bo b.data.length bcap)) 28; rwa [show (w.alloc (.cells (Cv a (.slice ao a.data.length acap)) 28)).heap.size = w.heap.size + 1 by simp] at this)
  generalize Cv a (.slice ao a.data.length acap) = A at *
  generalize Cv b (.slice bo b.data.length bcap) = B at *
  have q1 := guardRc
  have q2 := guardR
  clear hl hm h1 h2 hd
  go_enter Try.func18, Try.ntmps18
  go_wp2_with fail
  refine HE.mono ?_
  rintro e w1 ⟨rfl, hg⟩
  have hA := (HA.out.gr hg).cell
  have hB := (HB.out.gr hg).cell
  have HG2 := mkH (HG.out.trans hg)
  clear hg HE HA HB HG
  generalize w.heap.size + 1 = B1 at hB ⊢
  generalize w.heap.size = B0 at hA ⊢
  go_wp2
  go_ret
  exact ⟨rfl, HG2.out⟩
end Go.Proofs.Ytjboldahmndkeaa.Wn
