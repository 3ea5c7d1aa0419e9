/-
  Covers, of place: all may be, no more than there are, and together all.
-/
import Derived.Test.YtabckkepkennhaaPlJ
namespace Go.Proofs.Ytabckkepkennhaa.Pv
open Go.RowKit Pl Pw Pr Pf Pg Pa Pb Pj
open Kt hiding mkH
open Kv
set_option linter.unusedVariables false
set_option maxRecDepth 20000

def total (l : List Rg) : Int := (l.map fun r => r.2 - r.1).sum
def cov (l : List Rg) : Bool := l.all may && decide (total l ≤ 65536) && decide (join l = [(0, 65536)])
theorem total_cons (r : Rg) (l : List Rg) : total (r :: l) = (r.2 - r.1) + total l := by simp [total]
theorem total_append (a b : List Rg) : total (a ++ b) = total a + total b := by simp [total, List.sum_append]
theorem total_snoc {l : List Rg} {k : Nat} {r : Rg} (h : l[k]? = some r) : total (l.take (k + 1)) = total (l.take k) + (r.2 - r.1) := by
  rw [List.take_add_one, h, total_append]; simp [total]
theorem total_nonneg (l : List Rg) (h : l.all may = true) : 0 ≤ total l := by
  induction l with
  | nil => simp [total]
  | cons r t ih =>
    rw [List.all_cons, Bool.and_eq_true] at h
    have := (may_iff r).1 h.1
    have := ih h.2
    rw [total_cons]; omega
theorem total_take (l : List Rg) (k : Nat) (h : l.all may = true) : total (l.take k) ≤ total l := by
  have e : total l = total (l.take k) + total (l.drop k) := by rw [← total_append, List.take_append_drop]
  have h2 := total_nonneg (l.drop k) (by rw [List.all_eq_true] at h ⊢; exact fun x hx => h x (List.mem_of_mem_drop hx))
  omega
theorem cov_bad (l : List Rg) (k : Nat) (r : Rg) (h : l[k]? = some r) (hm : may r = false) : cov l = false := by
  have : l.all may = false := by
    rw [← Bool.not_eq_true, List.all_eq_true]
    intro hh
    have := hh r (List.mem_of_getElem? h)
    rw [hm] at this; cases this
  unfold cov; rw [this]; rfl
theorem cov_much (l : List Rg) (k : Nat) (h : 65536 < total (l.take k)) : cov l = false := by
  unfold cov
  by_cases ha : l.all may = true
  · have := total_take l k ha
    rw [decide_eq_false (show ¬ total l ≤ 65536 by omega), Bool.and_false, Bool.false_and]
  · rw [Bool.eq_false_iff.2 ha]; rfl
theorem cov_end (l : List Rg) (ha : (l.take l.length).all may = true) (h : total (l.take l.length) ≤ 65536) : cov l = decide (join l = [(0, 65536)]) := by
  rw [List.take_length] at ha h
  unfold cov
  rw [ha, decide_eq_true h]; rfl
theorem all_snoc {l : List Rg} {k : Nat} {r : Rg} (h : l[k]? = some r) (ha : (l.take k).all may = true) (hm : may r = true) : (l.take (k + 1)).all may = true := by
  rw [List.take_add_one, h, List.all_append, ha]; simp [hm]

def eqR (x y : Rg) : Bool := decide (x.1 = y.1 ∧ x.2 = y.2)
theorem neqAt : NeqAt Try.prog 29 (fun x => .agg (encR x).toArray) eqR :=
  ⟨fun x y w => neqR x.1 x.2 y.1 y.2 w, fun op a b x y w => guardR op a b x.1 x.2 y.1 y.2 w⟩
theorem cells_of {w : World} {b o : Nat} {l : List Rg} (h : Rw w (some ⟨b, o, none⟩) l) (hl : 0 < l.length) : ∀ j, j < l.length → ∀ i v, (encR l[j]!)[i]? = some v → w.cell? ⟨b, o + j * 2 + i, none⟩ = some v := by
  intro j hj i v hi
  obtain ⟨b', o', e, hc⟩ := h hl
  simp only [Option.some.injEq, Addr.mk.injEq, and_true] at e
  obtain ⟨rfl, rfl⟩ := e
  have h1 := hc j l[j]! (by rw [getElem!_pos l j hj]; exact List.getElem?_eq_getElem hj)
  generalize l[j]! = y at hi h1
  match i, hi with
  | 0, hi => simp [encR] at hi; rw [← hi]; exact h1.1
  | 1, hi => simp [encR] at hi; rw [← hi]; exact h1.2
  | i + 2, hi => simp [encR] at hi

set_option maxHeartbeats 1000000 in
theorem equal_len (w : World) (ao bo : Option Addr) (n c m d : Nat) (h : ¬ n = m) : Calls Try.prog 80 #[.slice ao n c, .slice bo m d] w fun e w' => e = .returned (.bool false) ∧ w' = w := by
  have hn1 : ¬ (n : Int) = (m : Int) := by omega
  go_enter Try.func80, Try.ntmps80
  go_wp2
  go_ret
  exact ⟨rfl, rfl⟩

theorem equal_one (w : World) (ao bo : Option Addr) (c d : Nat) (l : List Rg) (y : Rg) (h1 : Rw w ao l) (h2 : Rw w bo [y]) :
    Calls Try.prog 80 #[.slice ao l.length c, .slice bo 1 d] w fun e w' => e = .returned (.bool (decide (l = [y]))) ∧ Below w.heap.size w w' := by
  by_cases hl : l.length = 1
  · obtain ⟨x, rfl⟩ := List.length_eq_one_iff.1 hl
    obtain ⟨b1, o1, rfl, hc1⟩ := h1 (by simp)
    obtain ⟨b2, o2, rfl, hc2⟩ := h2 (by simp)
    have hcon := AnyQ.slices_Equal Sh.leq 2 Try.isAgg29 Try.sizeOf29 encR (fun _ => rfl) eqR neqAt b1 o1 1 c b2 o2 1 d [x] [y] w (by simp) (by simp) (by omega) (by omega) (cells_of h1 (by simp)) (cells_of h2 (by simp))
    change Calls Try.prog 80 _ _ _ at hcon
    refine hcon.mono ?_
    rintro e w' ⟨he, q, rfl⟩
    refine ⟨?_, ⟨rfl, rfl, rfl, Nat.le_refl _, fun _ _ => rfl⟩⟩
    rw [he]
    refine congrArg (fun z => Ending.returned (Value.bool z)) ?_
    rw [Bool.eq_iff_iff, decide_eq_true_eq]
    constructor
    · intro h
      by_cases hxy : x = y
      · rw [hxy]
      · exfalso
        have h3 := Lib.allEq_elem eqR [x] [y] 0 (by simp) (by simp) (by show eqR x y = false; rw [eqR, decide_eq_false_iff_not]; exact fun hh => hxy (Prod.ext hh.1 hh.2))
        rw [show [x].take 1 = [x] from rfl, show [y].take 1 = [y] from rfl, h3] at h
        cases h
    · intro h
      have hxy : x = y := by injection h
      subst hxy
      exact Lib.allEq_all eqR [x] [x] rfl (fun j hj => by
        have : j = 0 := by simp at hj; omega
        subst this
        show eqR x x = true
        simp [eqR])
  · refine (equal_len w ao bo l.length c 1 d hl).mono ?_
    rintro e w' ⟨he, rfl⟩
    refine ⟨?_, Below.refl _ _⟩
    rw [he, decide_eq_false (fun h => hl (by rw [h]; rfl))]

set_option maxHeartbeats 2000000 in
theorem covers_any (w : World) (ao : Option Addr) (cap : Nat) (l : List Rg) (hr : Rw w ao l) (hl : l.length ≤ 100000) :
    Calls Try.prog 68 #[.slice ao l.length cap] w fun e w' => e = .returned (.bool (cov l)) ∧ Below w.heap.size w w' := by
  obtain ⟨V, hV⟩ : ∃ V, V = cov l := ⟨_, rfl⟩
  rw [← hV]
  have HV := mkH hV
  clear hV
  have HR := mkH hr
  clear hr
  go_enter Try.func68, Try.ntmps68
  go_wp2
  go_loopw [3, 8] (fun c i wr => ∃ k : Nat, ∃ z : Int, k ≤ l.length ∧ i = .int .i64 k ∧ c = .int .i64 z ∧ 0 ≤ z ∧ z ≤ 65536 ∧ Hid (z = total (l.take k) ∧ (l.take k).all may = true) ∧ Hid (Below w.heap.size w wr)) (fun _ i _ => l.length - (intOf i).toNat)
  case atStart => exact ⟨0, 0, Nat.zero_le _, rfl, rfl, by omega, by omega, ⟨rfl, rfl⟩, Below.refl _ _⟩
  case round =>
    obtain ⟨k, z, hk, rfl, rfl, hz0, hz1, HZ, HB⟩ := hrel
    by_cases hlt : k < l.length
    · obtain ⟨⟨a, b⟩, hrk⟩ := some_of hlt
      obtain ⟨bk, o, rfl, hc⟩ := (HR.out.below HB.out) (by omega)
      obtain ⟨u1, u2⟩ := hc k _ hrk
      have hi : (k : Int) < (l.length : Int) := by omega
      have hi0 : (0 : Int) ≤ (k : Int) := by omega
      have hm := fun W => may_any W a b
      have HK := mkH hrk
      clear hc hrk
      cases hq : may (a, b)
      · rw [hq] at hm
        have HE := mkH (HV.out.trans (cov_bad l k (a, b) HK.out hq))
        go_wp2_with fail
        refine (hm _).mono ?_
        rintro e w1 ⟨rfl, rfl⟩
        go_wp2
        go_ret
        exact ⟨by rw [HE.out]; rfl, (HB.out.alloc HB.out.size _).alloc (by have := HB.out.size; simp; omega) _⟩
      · rw [hq] at hm
        have hab := (may_iff (a, b)).1 hq
        simp only at hab
        have HT := mkH (total_snoc HK.out)
        have HA := mkH (all_snoc HK.out HZ.out.2 hq)
        have HBB := mkH ((HB.out.alloc HB.out.size (.cells #[.int .i64 a, .int .i64 b] 29)).alloc (by have := HB.out.size; simp; omega) (.cells #[.int .i64 a, .int .i64 b] 29))
        by_cases hbig : 65536 < z + (b - a)
        · have HE := mkH (HV.out.trans (cov_much l (k + 1) (by rw [HT.out, ← HZ.out.1]; exact hbig)))
          go_wp2_with fail
          refine (hm _).mono ?_
          rintro e w1 ⟨rfl, rfl⟩
          go_wp2
          go_ret
          exact ⟨by rw [HE.out]; rfl, HBB.out⟩
        · have hbig2 : z + (b - a) ≤ 65536 := by omega
          go_wp2_with fail
          refine (hm _).mono ?_
          rintro e w1 ⟨rfl, rfl⟩
          go_wp2
          go_roundw
          case rel => exact ⟨k + 1, z + (b - a), by omega, by go_num, rfl, by omega, by omega, ⟨by rw [HT.out, ← HZ.out.1], HA.out⟩, HBB⟩
          case measure => simp [intOf]; omega
    · have : k = l.length := by omega
      subst this
      have HE := mkH (HV.out.trans (cov_end l HZ.out.2 (by rw [← HZ.out.1]; exact hz1)))
      have HJ := mkH (join_any wr ao cap l (HR.out.below HB.out) hl)
      clear HV HZ
      go_wp2_with fail
      refine (HJ.out).mono ?_
      rintro e w1 ⟨v1, rfl, hO1, hb1⟩
      obtain ⟨ao1, cap1, rfl, -, -⟩ := hO1.form
      have hR1 := hO1.rw.below ((Below.refl w1.heap.size w1).alloc (Nat.le_refl _) (.cells #[.int .i64 0, .int .i64 65536] 29))
      have hR2 : Rw (w1.alloc (.cells #[.int .i64 0, .int .i64 65536] 29)) (some ⟨w1.heap.size, 0, none⟩) [(0, 65536)] := Rw_new w1 [(0, 65536)] 29
      have HQ := mkH (equal_one _ ao1 _ cap1 1 (join l) (0, 65536) hR1 hR2)
      have HBB := mkH ((HB.out.trans (hb1.mono HB.out.size)).alloc (Nat.le_trans HB.out.size hb1.size) (.cells #[.int .i64 0, .int .i64 65536] 29))
      clear hR1 hR2 hO1 hb1 HJ HB
      go_wp2_with fail
      refine (HQ.out).mono ?_
      rintro e w2 ⟨rfl, hb2⟩
      go_wp2
      go_ret
      exact ⟨by rw [HE.out]; rfl, HBB.out.trans (hb2.mono HBB.out.size)⟩
end Go.Proofs.Ytabckkepkennhaa.Pv
