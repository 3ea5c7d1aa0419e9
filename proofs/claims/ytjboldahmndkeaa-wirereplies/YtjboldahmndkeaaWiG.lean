/-
  The document's Check.
-/
import Derived.Test.YtjboldahmndkeaaWiF
namespace Go.Proofs.Ytjboldahmndkeaa.Wg
open Go.RowKit Kt Pl Wi Wk Wc Wd We Wx Wf
open At (RowT)
set_option linter.unusedVariables false
set_option maxRecDepth 20000

theorem numB_or (n : Int) : numB n = true ∨ numB n = false := by cases numB n <;> simp
theorem rcB_or (r : Rcp) : rcB r = true ∨ rcB r = false := by cases rcB r <;> simp

theorem short_false (c : Cm) (h : 32 < (S c.group).size ∨ 32 < (S c.token).size ∨ 32 < (S c.attempt).size ∨ 32 < (S c.rc.g).size ∨ 128 < (S c.body).size ∨ dataB c.data = false) : shortC c = false := by
  simp only [S_len] at h
  unfold shortC fitB
  cases hd : dataB c.data
  · simp
  · simp only [hd, Bool.true_eq_false, or_false] at h
    simp only [Bool.and_true, Bool.and_eq_false_iff, decide_eq_false_iff_not]
    omega
theorem short_true (c : Cm) (h1 : (S c.group).size ≤ 32) (h2 : (S c.token).size ≤ 32) (h3 : (S c.attempt).size ≤ 32) (h4 : (S c.rc.g).size ≤ 32) (h5 : (S c.body).size ≤ 128) (h6 : dataB c.data = true) : shortC c = true := by
  simp only [S_len] at h1 h2 h3 h4 h5
  unfold shortC fitB
  simp [*]

set_option maxHeartbeats 8000000 in
theorem rcheck_any (w : World) (c : Cm) (ao : Option Addr) (cap : Nat) (hr : RowT w ao c.data) (hlen : c.data.length ≤ 1000000) :
    Calls Try.prog 12 #[.agg (Cv c (.slice ao c.data.length cap))] w fun e w' => e = .returned (.int .i64 (checkC c : Int)) ∧ Gr w w' := by
  have HG0 := mkH ((Gr.refl w).alloc (.cells (Cv c (.slice ao c.data.length cap)) 28))
  have HR := mkH (RowT.gr hr HG0.out)
  have HB := mkH (Bx.new w (Cv c (.slice ao c.data.length cap)) 28)
  clear hr
  have hq := HB.out.cell
  obtain ⟨k0, k1, k2, k3, k4, k5, k6, k7, k8, k9, k10, k11, k12, k13, k14, k15, k16, k17, k18⟩ := Cv_at c (.slice ao c.data.length cap)
  have H2 := fun W hr => longData_any W ao cap c.data hr hlen
  have HE : Hid (checkC c = judge (rightC c) (shortC c)) := mkH rfl
  have HC : Hid (rightC c = (upToB 10 c.kind && ((numB c.client && (numB c.num && (numB c.time && (numB c.queue && (numB c.max && (numB c.secs && numB c.to)))))) && (rcB c.rc && (decide (c.lo = 0 ∧ c.hi = 0) || mayB c.lo c.hi))))) := mkH (by rw [right_cases]; simp [numB])
  generalize Cv c (.slice ao c.data.length cap) = C at *
  have e1 := neqR c.lo c.hi 0 0
  have g1 := guardR
  have hb0 : upToB 10 c.kind = (decide (0 ≤ c.kind) && decide (c.kind ≤ 10)) := rfl
  go_enter Try.func12, Try.ntmps12
  go_wp2_with (first | (go_at_call 35; refine (rnum_any _ _).mono ?_; rintro e w' ⟨rfl, rfl⟩))
  rotate_left
  all_goals try (
    go_ret
    refine ⟨?_, HG0.out⟩
    have hbad : rightC c = false := by rw [HC.out, hb0]; simp [*]; try omega
    rw [HE.out, hbad]
    rfl)
  have H3 := fun W => rreceipt_any W c.rc
  have H4 := fun W => rmay_any W c.lo c.hi
  have hb3 : rcB c.rc = true ∨ rcB c.rc = false := by cases rcB c.rc <;> simp
  have hb4 : mayB c.lo c.hi = true ∨ mayB c.lo c.hi = false := by cases mayB c.lo c.hi <;> simp
  have hb5 : dataB c.data = true ∨ dataB c.data = false := by cases dataB c.data <;> simp
  have hz : decide (c.lo = 0 ∧ c.hi = 0) = true ∨ decide (c.lo = 0 ∧ c.hi = 0) = false := by cases decide (c.lo = 0 ∧ c.hi = 0) <;> simp
  rcases hb3 with hb3 | hb3 <;> rw [hb3] at H3
  · have hz4 : decide (c.lo = 0 ∧ c.hi = 0) = true ∨ (decide (c.lo = 0 ∧ c.hi = 0) = false ∧ mayB c.lo c.hi = true) ∨ (decide (c.lo = 0 ∧ c.hi = 0) = false ∧ mayB c.lo c.hi = false) := by
      rcases hz with hz | hz
      · exact .inl hz
      · exact .inr (hb4.imp (fun h => ⟨hz, h⟩) (fun h => ⟨hz, h⟩))
    clear hz hb4
    rw [hb3] at HC
    clear hb3
    rcases hz4 with hz | ⟨hz, hb4⟩ | ⟨hz, hb4⟩
    all_goals rw [hz] at e1 HC
    rotate_left
    all_goals try rw [hb4] at H4 HC
    all_goals clear hz
    all_goals try clear hb4
    all_goals rcases hb5 with hb5 | hb5 <;> rw [hb5] at H2
    all_goals
      refine (H3 _).mono ?_
      rintro e w1 ⟨rfl, hg⟩
      have HB1 := mkH (HB.out.gr hg)
      have HG1 := mkH (HG0.out.trans hg)
      have HR1 := mkH (RowT.gr HR.out hg)
      have hq1 := HB1.out.cell
      clear hq hg HB HG0 HR
      generalize w.heap.size = B at *
      go_wp2_with (first
        | (go_at_call 37; refine (H4 _).mono ?_; rintro e w2 ⟨rfl, hg2⟩; have HB2 := mkH (HB1.out.gr hg2); have HG2 := mkH (HG1.out.trans hg2); have HR2 := mkH (RowT.gr HR1.out hg2); have hq2 := HB2.out.cell; clear hg2 hq1 HB1 HG1 HR1)
        | (go_at_call 38; (first | refine (H2 _ HR2.out).mono ?_ | refine (H2 _ HR1.out).mono ?_); rintro e w3 ⟨rfl, rfl⟩))
      all_goals
        go_ret
        (first | refine ⟨?_, HG2.out⟩ | refine ⟨?_, HG1.out⟩)
        (first
        | (have hbad : rightC c = false := by (rw [HC.out, hb0]; simp [*]; done)
           rw [HE.out, hbad]; rfl)
        | (have hbad : rightC c = false := by (rw [HC.out, hb0]; simp [*]; omega)
           rw [HE.out, hbad]; rfl)
        | (have hR : rightC c = true := by (rw [HC.out, hb0]; simp [*] <;> omega)
           have hS : shortC c = false := by (first | exact short_false c (.inl (by omega)) | exact short_false c (.inr (.inl (by omega))) | exact short_false c (.inr (.inr (.inl (by omega)))) | exact short_false c (.inr (.inr (.inr (.inl (by omega))))) | exact short_false c (.inr (.inr (.inr (.inr (.inl (by omega)))))) | exact short_false c (.inr (.inr (.inr (.inr (.inr hb5))))))
           rw [HE.out, hR, hS]; rfl)
        | (have hR : rightC c = true := by (rw [HC.out, hb0]; simp [*] <;> omega)
           have hS : shortC c = true := short_true c (by omega) (by omega) (by omega) (by omega) (by omega) hb5
           rw [HE.out, hR, hS]; rfl))
  · refine (H3 _).mono ?_
    rintro e w1 ⟨rfl, hg⟩
    have HG1 := mkH (HG0.out.trans hg)
    clear hq hg HB HG0 HR
    go_wp2_with fail
    go_ret
    refine ⟨?_, HG1.out⟩
    have hbad : rightC c = false := by (rw [HC.out, hb0]; simp [*])
    rw [HE.out, hbad]
    rfl
end Go.Proofs.Ytjboldahmndkeaa.Wg
