/-
  The document's Unpack.
-/
import Derived.Test.YtgbbajeeelgbhaaGreatDoorSqShV
namespace Go.Proofs.YtgbbajeeelgbhaaGreatDoor.Hy
open Go.RowKit Kt Pl Wi Sa Rd
open At (RowT)
open Hu (upN UpP)
set_option linter.unusedVariables false
set_option linter.unusedSimpArgs false
set_option maxRecDepth 20000

theorem rd_size (bs : List UInt8) : ∀ (r i n : Nat), i ≤ bs.length → (rd bs r i n).2.2 = 0 → (rd bs r i n).2.1 ≤ bs.length := by
  intro r
  induction r with
  | zero => intro i n h e; simp [rd] at e
  | succ r ih =>
    intro i n h e
    by_cases h1 : i = bs.length
    · exact absurd e (Hp.rd_end bs _ _ _ h1)
    · by_cases h2 : 4611686018427387904 < n + dg (bs.getD i 0).toNat i ∨ ((bs.getD i 0).toNat = 0 ∧ 0 < i)
      · exact absurd e (Hp.rd_bad bs _ _ _ h1 h2)
      · by_cases h3 : (bs.getD i 0).toNat < 128
        · rw [Hp.rd_fin bs _ _ _ h1 h2 h3]
          show i + 1 ≤ bs.length
          omega
        · rw [Hp.rd_next bs _ _ _ h1 h2 h3] at e ⊢
          exact ih _ _ (by omega) e
theorem run_lh {P : Program} (W : World) {t e sz : Nat} (ht : P.underlying t = some (.slice e)) (hsz : (P.info? e).map (·.size) = some sz) (ao : Option Addr) (n cap l h : Nat) (h1 : l ≤ h) (h2 : h ≤ cap) : (Instr.slice t (.slice ao n cap) (some (.int .i64 (l : Int))) (some (.int .i64 (h : Int))) none).run P W = .ok (.slice (Gs.ad ao cap l sz) (h - l) (cap - l)) W := by
  simp only [Instr.slice, Sem.run_bind, run_underlying ht, Instr.sliceBounds, Result.andThen_ok, Gs.sb W h cap h2, Gs.sb W l h h1, Sem.run_pure, Gs.szE W hsz]
  rfl

set_option maxHeartbeats 4000000 in
theorem runpack_any (w : World) (ao : Option Addr) (cap : Nat) (l : List Bs) (hr : RowT w ao l) (hl : l.length ≤ 1000000) (hc : l.length ≤ cap) (hcap : cap ≤ 9223372036854775807) (hs : ∀ s ∈ l, s.length ≤ 9223372036854775807) :
    Calls Tryz.prog 22 #[.slice ao l.length cap] w fun e w' => UpP l w.heap.size e w' ∧ Below w.heap.size w w' := by
  cases l with
  | nil =>
    go_enter Tryz.func22, Tryz.ntmps22
    go_wp2
    go_ret3
    exact ⟨.inr ⟨fun h t e => (nomatch e), rfl⟩, Below.refl _ _⟩
  | cons h t =>
    obtain ⟨b, off, rfl, hcl⟩ := hr (by simp)
    have hcell : w.cell? ⟨b, off, none⟩ = some (.string (S h)) := by have := hcl 0 (by simp); simpa using this
    have hlt := World.block_lt_of_cell? w _ hcell
    have hh : h.length ≤ 9223372036854775807 := hs h (by simp)
    obtain ⟨W1, c1, hcv0, hrow, hb1, hs1, hc1, hc2⟩ := Hx.conv_big w (S h) (by show h.length ≤ _; omega)
    have hcv : (convert 9 41 (.string (S h))).run Tryz.prog w = .ok (.slice (some ⟨w.heap.size, 0, none⟩) h.length c1) W1 := hcv0
    have hrow1 : Row W1 (some ⟨w.heap.size, 0, none⟩) h := hrow
    have hcell1 : W1.cell? ⟨b, off, none⟩ = some (.string (S h)) := by rw [hb1.cell (p := ⟨b, off, none⟩) hlt]; exact hcell
    have hSz : ((S h).size : Int) = (h.length : Int) := rfl
    obtain ⟨m, hm⟩ : ∃ m, t.length = m := ⟨_, rfl⟩
    rw [List.length_cons, hm] at hl hc ⊢
    have HM := mkH hm
    have HR := mkH hr
    have HB1 := mkH hb1
    clear hcv0 hrow hcl hs hb1 hm hr
    go_enter Tryz.func22, Tryz.ntmps22
    go_wp2_with fail
    refine (Hp.rreadNum_any W1 _ c1 h hrow1 hh).mono ?_
    rintro e w2 ⟨hrn, rfl⟩
    have HSZ := mkH (rd_size h 9 0 0 (Nat.zero_le _))
    rcases hrn with ⟨he0, rfl⟩ | ⟨hne, er, her, rfl⟩
    · obtain ⟨n, sz, er, hrd⟩ : ∃ n sz er, readNum h = (n, sz, er) := ⟨_, _, _, rfl⟩
      have HRD := mkH hrd
      have hsz : sz ≤ h.length := by have := HSZ.out he0; rw [show rd h 9 0 0 = (n, sz, er) from hrd] at this; exact this
      rw [hrd] at he0
      have he1 : er = 0 := he0
      subst he1
      rw [ans, hrd]
      clear hrd he0 HSZ
      simp only []
      by_cases hz : sz < h.length
      · have hzi : ((sz : Int) != (h.length : Int)) = true := by simp; omega
        have HU : Hid (upN h t = none) := mkH (by unfold upN; rw [HRD.out, if_neg (fun x => by have := x.2.1; simp only at this; omega)])
        go_wp2
        go_ret3
        exact ⟨.inr ⟨fun h' t' e => (by cases e; exact HU.out), rfl⟩, HB1.out⟩
      · have hze : sz = h.length := by omega
        have hzi : ((sz : Int) != (h.length : Int)) = false := by simp; omega
        by_cases hn : m < n
        · have hni : (m : Int) + 1 ≤ (n : Int) := by omega
          have HU : Hid (upN h t = none) := mkH (by unfold upN; rw [HRD.out, if_neg (fun x => by have := x.2.2; simp only [HM.out] at this; omega)])
          go_wp2
          go_ret3
          exact ⟨.inr ⟨fun h' t' e => (by cases e; exact HU.out), rfl⟩, HB1.out⟩
        · have hni : ¬ (m : Int) + 1 ≤ (n : Int) := by omega
          have HU : Hid (upN h t = some n) := mkH (by unfold upN; rw [HRD.out, if_pos ⟨rfl, by simp only; omega, by simp only [HM.out]; omega⟩])
          have HT1 : Hid (RowT w2 (Gs.ad (some ⟨b, off, none⟩) cap 1 1) t) := mkH (by have h1 := Hu.RowT.drop HR.out cap 1 (by rw [List.length_cons, HM.out]; omega); rw [List.drop_one, List.tail_cons] at h1; exact h1.below HB1.out)
          have HT2 : Hid (RowT w2 (Gs.ad (some ⟨b, off, none⟩) cap (1 + n) 1) (t.drop n)) := mkH (by have h1 := Hu.RowT.drop HR.out cap (1 + n) (by rw [List.length_cons, HM.out]; omega); rw [Nat.add_comm 1 n, List.drop_succ_cons] at h1; rw [Nat.add_comm 1 n]; exact h1.below HB1.out)
          have hcut1 : ∀ W : World, (Instr.slice 33 (.slice (some ⟨b, off, none⟩) (m + 1) cap) (some (.int .i64 1)) (some (.int .i64 (1 + (n : Int)))) none).run Tryz.prog W = .ok (.slice (Gs.ad (some ⟨b, off, none⟩) cap 1 1) n (cap - 1)) W := fun W => by
            have h1 := run_lh (P := Tryz.prog) W Tryz.underlying33 Hq.szT (some ⟨b, off, none⟩) (m + 1) cap 1 (1 + n) (by omega) (by omega)
            rw [show 1 + n - 1 = n by omega] at h1
            simpa using h1
          have hcut2 : ∀ W : World, (Instr.slice 33 (.slice (some ⟨b, off, none⟩) (m + 1) cap) (some (.int .i64 (1 + (n : Int)))) none none).run Tryz.prog W = .ok (.slice (Gs.ad (some ⟨b, off, none⟩) cap (1 + n) 1) (m - n) (cap - (1 + n))) W := fun W => by
            have h1 := Gs.run_l (P := Tryz.prog) W Tryz.underlying33 Hq.szT (some ⟨b, off, none⟩) (m + 1) cap (1 + n) (by omega)
            rw [show m + 1 - (1 + n) = m - n by omega] at h1
            simpa using h1
          have htl : (t.take n).length = n := by rw [List.length_take, HM.out]; omega
          have hdl : (t.drop n).length = m - n := by rw [List.length_drop, HM.out]
          generalize Gs.ad (some ⟨b, off, none⟩) cap 1 1 = aq at HT1 hcut1
          generalize Gs.ad (some ⟨b, off, none⟩) cap (1 + n) 1 = ar at HT2 hcut2
          have HTL := mkH htl
          have HDL := mkH hdl
          clear hcv htl hdl
          go_wp2_with fail
          go_region
          all_goals go_wp2
          all_goals go_ret3
          all_goals exact ⟨.inl ⟨h, t, n, aq, cap - 1, ar, cap - (1 + n), rfl, HU.out, by simp only [HTL.out, HDL.out]; rfl, Hu.RowT.take (HT1.out.below ⟨rfl, rfl, rfl, Nat.le_refl _, fun _ _ => rfl⟩) n, HT2.out.below ⟨rfl, rfl, rfl, Nat.le_refl _, fun _ _ => rfl⟩⟩, HB1.out.trans ⟨rfl, rfl, rfl, Nat.le_refl _, fun _ _ => rfl⟩⟩
    · have hei : ¬ (er : Int) = 0 := by omega
      have heb : ((er : Int) != 0) = true := by simpa using her
      have HU : Hid (upN h t = none) := mkH (by unfold upN; rw [if_neg (fun x => hne x.1)])
      go_wp2
      go_ret3
      exact ⟨.inr ⟨fun h' t' e => (by cases e; exact HU.out), rfl⟩, HB1.out⟩
end Go.Proofs.YtgbbajeeelgbhaaGreatDoor.Hy
