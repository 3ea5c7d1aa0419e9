/-
  Unpack: what was put together, parted.
-/
import Derived.Test.YtgbbajeeelgbhaaGreatDoorSqShT
import Derived.Test.YtgbbajeeelgbhaaGreatDoorSqShX
namespace Go.Proofs.YtgbbajeeelgbhaaGreatDoor.Hu
open Go.RowKit Kt Pl Wi Sa Rd
open At (RowT)
set_option linter.unusedVariables false
set_option linter.unusedSimpArgs false
set_option maxRecDepth 20000

/-- How many of the texts behind the first are sessions; none: it is refused. -/
def upN (h : Bs) (t : List Bs) : Option Nat := if (readNum h).2.2 = 0 ∧ h.length ≤ (readNum h).2.1 ∧ (readNum h).1 ≤ t.length then some (readNum h).1 else none

theorem RowT.take {w : World} {ao : Option Addr} {l : List Bs} (h : RowT w ao l) (n : Nat) : RowT w ao (l.take n) := by
  intro hl
  have hl2 : 0 < l.length := by rw [List.length_take] at hl; omega
  obtain ⟨b, off, e, hc⟩ := h hl2
  refine ⟨b, off, e, fun i hi => ?_⟩
  rw [List.length_take] at hi
  rw [hc i (by omega)]
  simp only [List.getD, List.getElem?_take, if_pos (show i < n by omega)]
theorem RowT.drop {w : World} {ao : Option Addr} {l : List Bs} (h : RowT w ao l) (c n : Nat) (hc : l.length ≤ c) : RowT w (Gs.ad ao c n 1) (l.drop n) := by
  intro hl
  rw [List.length_drop] at hl
  obtain ⟨b, off, rfl, hcl⟩ := h (by omega)
  refine ⟨b, off + n, ?_, fun i hi => ?_⟩
  · unfold Gs.ad
    rw [if_neg (by omega)]
    simp [Addr.add]
  · rw [List.length_drop] at hi
    rw [show off + n + i = off + (n + i) by omega, hcl (n + i) (by omega)]
    simp only [List.getD, List.getElem?_drop]
/-- What Unpack tells. -/
def UpP (l : List Bs) (base : Nat) (e : Ending) (w' : World) : Prop :=
  (∃ h t n sa sc ga gc, l = h :: t ∧ upN h t = some n ∧ e = .returned (.tuple #[.slice sa (t.take n).length sc, .slice ga (t.drop n).length gc, .int .i64 0]) ∧ RowT w' sa (t.take n) ∧ RowT w' ga (t.drop n)) ∨
  ((∀ h t, l = h :: t → upN h t = none) ∧ e = .returned (.tuple #[.slice none 0 0, .slice none 0 0, .int .i64 5]))

set_option maxHeartbeats 4000000 in
theorem unpack_any (w : World) (ao : Option Addr) (cap : Nat) (l : List Bs) (hr : RowT w ao l) (hl : l.length ≤ 1000000) (hc : l.length ≤ cap) (hcap : cap ≤ 9223372036854775807) (hs : ∀ s ∈ l, s.length ≤ 9223372036854775807) :
    Calls Tryz.prog 21 #[.slice ao l.length cap] w fun e w' => UpP l w.heap.size e w' ∧ Below w.heap.size w w' := by
  cases l with
  | nil =>
    go_enter Tryz.func21, Tryz.ntmps21
    go_wp2
    go_ret3
    exact ⟨.inr ⟨fun h t e => (nomatch e), rfl⟩, Below.refl _ _⟩
  | cons h t =>
    obtain ⟨b, off, rfl, hcl⟩ := hr (by simp)
    have hcell : w.cell? ⟨b, off, none⟩ = some (.string (S h)) := by have := hcl 0 (by simp); simpa using this
    have hlt := World.block_lt_of_cell? w _ hcell
    have hh : h.length ≤ 9223372036854775807 := hs h (by simp)
    obtain ⟨W1, c1, hcv0, hrow, hb1, hs1, hc1, hc2⟩ := Hx.conv_big w (S h) (by show h.length ≤ _; omega)
    have hcv : (convert 9 41 (.string (S h))).run Tryz.prog w = .ok (.slice (some ⟨w.heap.size, 0, none⟩) h.length c1) W1 := hcv0
    have hrow1 : Row W1 (some ⟨w.heap.size, 0, none⟩) h := hrow
    have hcell1 : W1.cell? ⟨b, off, none⟩ = some (.string (S h)) := by rw [hb1.cell (p := ⟨b, off, none⟩) hlt]; exact hcell
    have hSz : ((S h).size : Int) = (h.length : Int) := rfl
    obtain ⟨m, hm⟩ : ∃ m, t.length = m := ⟨_, rfl⟩
    rw [List.length_cons, hm] at hl hc ⊢
    have HM := mkH hm
    have HR := mkH hr
    have HB1 := mkH hb1
    clear hcv0 hrow hcl hs hb1 hm hr
    go_enter Tryz.func21, Tryz.ntmps21
    go_wp2_with fail
    refine (Hx.readNum_big W1 _ c1 h hrow1 hh).mono ?_
    rintro e w2 ⟨rfl, rfl⟩
    obtain ⟨n, sz, er, hrd⟩ : ∃ n sz er, readNum h = (n, sz, er) := ⟨_, _, _, rfl⟩
    have HRD := mkH hrd
    rw [ans, hrd]
    clear hrd
    simp only []
    by_cases he : er = 0
    · subst he
      by_cases hz : sz < h.length
      · have hzi : (sz : Int) < (h.length : Int) := by omega
        have HU : Hid (upN h t = none) := mkH (by unfold upN; rw [HRD.out, if_neg (fun x => by have := x.2.1; simp only at this; omega)])
        go_wp2
        go_ret3
        exact ⟨.inr ⟨fun h' t' e => (by cases e; exact HU.out), rfl⟩, HB1.out⟩
      · have hzi : ¬ (sz : Int) < (h.length : Int) := by omega
        by_cases hn : m < n
        · have hni : (m : Int) < (n : Int) := by omega
          have HU : Hid (upN h t = none) := mkH (by unfold upN; rw [HRD.out, if_neg (fun x => by have := x.2.2; simp only [HM.out] at this; omega)])
          go_wp2
          go_ret3
          exact ⟨.inr ⟨fun h' t' e => (by cases e; exact HU.out), rfl⟩, HB1.out⟩
        · have hni : ¬ (m : Int) < (n : Int) := by omega
          have HU : Hid (upN h t = some n) := mkH (by unfold upN; rw [HRD.out, if_pos ⟨rfl, by simp only; omega, by simp only [HM.out]; omega⟩])
          obtain ⟨aq, haq⟩ : ∃ aq, Gs.ad (some ⟨b, off, none⟩) cap 1 1 = aq := ⟨_, rfl⟩
          have hcut : ∀ W : World, (Instr.slice 33 (.slice (some ⟨b, off, none⟩) (m + 1) cap) (some (.int .i64 1)) none none).run Tryz.prog W = .ok (.slice aq m (cap - 1)) W := fun W => by
            have := Gs.run_l (P := Tryz.prog) W Tryz.underlying33 Hq.szT (some ⟨b, off, none⟩) (m + 1) cap 1 (by omega)
            rw [haq] at this
            simpa using this
          have HT : Hid (RowT w2 aq t) := mkH (by have h1 := RowT.drop HR.out cap 1 (by rw [List.length_cons, HM.out]; omega); rw [haq, List.drop_one, List.tail_cons] at h1; exact h1.below HB1.out)
          clear haq hcv
          go_wp2_with fail
          refine (Hq.apart_any w2 aq m (cap - 1) n (by omega) (by omega) (by omega)).mono ?_
          rintro e W3 ⟨rfl, hb3⟩
          have htl : (t.take n).length = n := by rw [List.length_take, HM.out]; omega
          have hdl : (t.drop n).length = m - n := by rw [List.length_drop, HM.out]
          have HT1 := mkH ((RowT.take HT.out n).below hb3)
          have HT2 := mkH ((RowT.drop HT.out m n (by rw [HM.out]; omega)).below hb3)
          have HB3 := mkH (HB1.out.trans (hb3.mono HB1.out.size))
          generalize Gs.ad aq m n 1 = ar at HT2 ⊢
          clear hb3 HT hcell1
          generalize hS1 : t.take n = s1 at *
          generalize hG1 : t.drop n = g1 at *
          go_wp2_with fail
          have q4 := cloneT_any W3 aq n s1 HT1.out (by omega)
          rw [htl] at q4
          refine q4.mono ?_
          rintro e W4 ⟨a4, c4, rfl, ho4, hb4⟩
          have HR4 := mkH ((At.RowT.own ho4).2.2)
          have HT4 := mkH (HT2.out.below hb4)
          have HB4 := mkH (HB3.out.trans (hb4.mono HB3.out.size))
          clear ho4 hb4 HT1 HT2 q4
          go_wp2_with fail
          have q5 := cloneT_any W4 ar (m - n) g1 HT4.out (by omega)
          rw [hdl] at q5
          refine q5.mono ?_
          rintro e W5 ⟨a5, c5, rfl, ho5, hb5⟩
          have HR5 := mkH ((At.RowT.own ho5).2.2)
          have HR6 := mkH (HR4.out.below hb5)
          have HB5 := mkH (HB4.out.trans (hb5.mono HB4.out.size))
          clear ho5 hb5 q5 HR4 HT4
          go_wp2
          go_ret3
          exact ⟨.inl ⟨h, t, n, a4, c4, a5, c5, rfl, HU.out, by simp only [hS1, hG1, htl, hdl]; rfl, by rw [hS1]; exact HR6.out, by rw [hG1]; exact HR5.out⟩, HB5.out⟩
    · have hei : ¬ (er : Int) = 0 := by omega
      have heb : ((er : Int) != 0) = true := by simpa using he
      have HU : Hid (upN h t = none) := mkH (by unfold upN; rw [HRD.out, if_neg (fun x => he x.1)])
      go_wp2
      go_ret3
      exact ⟨.inr ⟨fun h' t' e => (by cases e; exact HU.out), rfl⟩, HB1.out⟩
end Go.Proofs.YtgbbajeeelgbhaaGreatDoor.Hu
