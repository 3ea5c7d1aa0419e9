/-
  The function that CrcAll hands to the iterator: what it does to its two cells.
-/
import Derived.Test.YtjmhgifdkmglhabDoorCrcT
namespace Go.Proofs.YtjmhgifdkmglhabDoor.Cy
open Go.RowKit Kt Cs Cw Cf Cn Cg Ck Ca Ct
set_option linter.unusedVariables false

/-- A slice of numbers, and one of slices of bytes, as they are read. -/
def RowI (w : World) (ao : Option Addr) (zs : List Nat) : Prop := 0 < zs.length → ∃ b off, ao = some ⟨b, off, none⟩ ∧ ∀ i, i < zs.length → w.cell? ⟨b, off + i, none⟩ = some (.int .i64 ((zs.getD i 0 : Nat) : Int))
def RowB (w : World) (ao : Option Addr) (ps : List Part) : Prop := 0 < ps.length → ∃ b off, ao = some ⟨b, off, none⟩ ∧ ∀ i p, ps[i]? = some p → w.cell? ⟨b, off + i, none⟩ = some (.slice p.ao p.bs.length p.cap) ∧ Row w p.ao p.bs ∧ p.bs.length ≤ p.cap ∧ p.cap ≤ 9223372036854775807
theorem RowI.below {w w' : World} {ao : Option Addr} {zs : List Nat} (h : RowI w ao zs) (hb : Below w.heap.size w w') : RowI w' ao zs := by
  intro hl
  obtain ⟨b, off, e, hc⟩ := h hl
  refine ⟨b, off, e, fun i hi => ?_⟩
  have h1 := hc i hi
  rw [hb.cell (p := ⟨b, off + i, none⟩) (World.block_lt_of_cell? w _ h1)]
  exact h1
theorem RowB.below {w w' : World} {ao : Option Addr} {ps : List Part} (h : RowB w ao ps) (hb : Below w.heap.size w w') : RowB w' ao ps := by
  intro hl
  obtain ⟨b, off, e, hc⟩ := h hl
  refine ⟨b, off, e, fun i p hp => ?_⟩
  obtain ⟨h1, h2, h3⟩ := hc i p hp
  exact ⟨(hb.cell (p := ⟨b, off + i, none⟩) (World.block_lt_of_cell? w _ h1)).trans h1, h2.below hb, h3⟩

theorem str_eq (a b : List UInt8) : ((S a).toList == (S b).toList) = decide (a = b) := by
  rw [S_toList, S_toList]
  by_cases h : a = b <;> simp [h]
/-- The step that 'right' takes. -/
def stepR (zs : List Nat) (ps : List Part) (r : Bool) (n pl : Nat) (bs : List UInt8) : Bool := if n < zs.length then r && (decide (pl = zs.getD n 0) && decide (bs = ((ps.getD n ⟨none, 0, []⟩).bs.take 3000))) else r

theorem heap_setCell_one (w : World) (b : Nat) (v u : Value) (t : TypeId) (h : w.heap[b]? = some (.cells #[v] t)) : (w.setCell ⟨b, 0, none⟩ u).heap[b]? = some (.cells #[u] t) := by
  have := heap_setCell_same w b 0 #[v] t u h
  simpa using this
theorem two_setR {Tn Tr Bn Br : Nat} {W : World} {n : Nat} {r : Bool} (h : Two Tn Tr Bn Br W n r) (hne : Bn ≠ Br) (r' : Bool) : Two Tn Tr Bn Br (W.setCell ⟨Br, 0, none⟩ (.bool r')) n r' :=
  ⟨(Below.heap_setCell _ _ _ _ hne).trans h.n, heap_setCell_one W Br _ _ _ h.r⟩
theorem two_setN {Tn Tr Bn Br : Nat} {W : World} {n : Nat} {r : Bool} (h : Two Tn Tr Bn Br W n r) (hne : Bn ≠ Br) (n' : Nat) : Two Tn Tr Bn Br (W.setCell ⟨Bn, 0, none⟩ (.int .i64 (n' : Int))) n' r :=
  ⟨heap_setCell_one W Bn _ _ _ h.n, (Below.heap_setCell _ _ _ _ (fun e => hne e.symm)).trans h.r⟩
theorem _root_.Go.Proofs.YtjmhgifdkmglhabDoor.Ct.Two.drew {Tn Tr Bn Br : Nat} {W : World} {n : Nat} {r : Bool} (h : Two Tn Tr Bn Br W n r) : Two Tn Tr Bn Br W.drew n r := ⟨h.n, h.r⟩
theorem _root_.Go.Proofs.YtjmhgifdkmglhabDoor.Ct.Two.drewN {Tn Tr Bn Br : Nat} {W : World} {n : Nat} {r : Bool} (h : Two Tn Tr Bn Br W n r) (k : Nat) : Two Tn Tr Bn Br (W.drewN k) n r := ⟨h.n, h.r⟩

set_option maxHeartbeats 8000000 in
set_option maxRecDepth 20000 in
theorem yield_any (W : World) (Bn Br B8 B3 B5 : Nat) (aA aB : Option Addr) (cA cB nB : Nat) (zs : List Nat) (ps : List Part) (mo : Nat) (n pl : Nat) (r : Bool) (a : Option Addr) (c : Nat) (bs : List UInt8)
    (h2 : Two 3 4 Bn Br W n r) (hne : Bn ≠ Br) (h8 : W.cell? ⟨B8, 0, none⟩ = some (.slice aA zs.length cA)) (h3 : W.cell? ⟨B3, 0, none⟩ = some (.slice aB nB cB)) (h5 : W.cell? ⟨B5, 0, none⟩ = some (.int .i64 (mo : Int)))
    (hb8 : B8 ≠ Bn) (hb8' : B8 ≠ Br) (hb5 : B5 ≠ Bn) (hb5' : B5 ≠ Br)
    (hI : RowI W aA zs) (hB : RowB W aB ps) (hnB : nB = ps.length) (hzp : zs.length ≤ ps.length) (hn : n ≤ 1000000) (hr : Row W a bs) :
    Calls Tryd.prog 7 #[.int .i64 (pl : Int), .slice a bs.length c, .pointer (some ⟨Bn, 0, none⟩), .pointer (some ⟨B8, 0, none⟩), .pointer (some ⟨Br, 0, none⟩), .pointer (some ⟨B3, 0, none⟩), .pointer (some ⟨B5, 0, none⟩)] W fun e W' =>
      e = .returned (.bool (decide (n + 1 < mo) || decide (mo = 0))) ∧ Two 3 4 Bn Br W' (n + 1) (stepR zs ps r n pl bs) ∧ Ex Bn Br W W' := by
  have hcn := cell_box h2.n
  have hcr := cell_box h2.r
  have hfn : W.frozen? ⟨Bn, 0, none⟩ = false := by simp only [World.frozen?, h2.n]; rfl
  have hfr : W.frozen? ⟨Br, 0, none⟩ = false := by simp only [World.frozen?, h2.r]; rfl
  have hbr : W.heap[Br]? ≠ none := by rw [h2.r]; simp
  go_enter Tryd.func7, Tryd.ntmps7
  by_cases hlt : n < zs.length
  · have t0 : decide ((n : Int) < (zs.length : Int)) = true := by simp; omega
    obtain ⟨bA, oA, rfl, hcA⟩ := hI (by omega)
    have hcz := hcA n hlt
    obtain ⟨z, hz⟩ : ∃ z, zs.getD n 0 = z := ⟨_, rfl⟩
    rw [hz] at hcz
    obtain ⟨p, hp⟩ : ∃ p, ps[n]? = some p := ⟨ps[n]'(by omega), List.getElem?_eq_getElem (by omega)⟩
    obtain ⟨bB, oB, rfl, hcB⟩ := hB (by omega)
    obtain ⟨hcp, hrp, hlp, hmp⟩ := hcB n p hp
    obtain ⟨pa, pc, pb⟩ := p
    simp only at hcp hrp hlp hmp
    have HST : Hid (stepR zs ps r n pl bs = (r && (decide (pl = z) && decide (bs = pb.take 3000)))) := by
      unfold Hid stepR
      rw [if_pos hlt, hz, show ps.getD n ⟨none, 0, []⟩ = ⟨pa, pc, pb⟩ by simp [List.getD, hp]]
    subst hnB
    have j1 : (n : Int) < (zs.length : Int) := by omega
    have j2 : (n : Int) < (ps.length : Int) := by omega
    have j0 : (0 : Int) ≤ (n : Int) := by omega
    have hltB : n < ps.length := by omega
    clear hcA hcB hI hB hz hp
    go_upto_region 2 with fail
    go_cut [2, 6] (fun v2 v6 wc => v2 = .pointer (some ⟨Bn, 0, none⟩) ∧ v6 = .pointer (some ⟨B5, 0, none⟩) ∧ Two 3 4 Bn Br wc n (stepR zs ps r n pl bs) ∧ Ex Bn Br W wc)
    case first =>
      cases r with
      | false =>
        have HS : Hid (stepR zs ps false n pl bs = false) := by unfold Hid; rw [HST.out]; rfl
        go_region
        all_goals
          go_wp2_with fail
          go_meet
          refine ⟨rfl, rfl, ?_, ?_⟩
          · rw [HS.out]; exact (two_setR h2 hne false).drew
          · exact ((Ex.refl Bn Br W).set ⟨Br, 0, none⟩ (.bool false) (.inr rfl)).drew
      | true =>
        by_cases hpz : pl = z
        · have t1 : ((pl : Int) == (z : Int)) = true := by simp [hpz]
          obtain ⟨pt, hpt⟩ : ∃ pt, pb.take 3000 = pt := ⟨_, rfl⟩
          have HS : Hid (stepR zs ps true n pl bs = decide (bs = pt)) := by unfold Hid; rw [HST.out, hpt]; simp [hpz]
          have HPT := mkH hpt
          clear hpt
          have HRB : Hid (∀ W', Below W.heap.size W W' → (convert 23 9 (.slice a bs.length c)).run Tryd.prog W' = .ok (.string (S bs)) W') := fun W' hW' => run_string (P := Tryd.prog) Tryd.underlying23 Tryd.underlying5 Tryd.underlying9 (hr.below hW') c
          have hv0 := fun nq => HRB.out (W.drewN nq) (by (repeat (first | exact Below.refl _ _ | exact hu | refine Below.drew ?_ | refine below_drewN ?_ _)))
          have hv1 := HRB.out W.drew (by (repeat (first | exact Below.refl _ _ | exact hu | refine Below.drew ?_ | refine below_drewN ?_ _)))
          have hv2 := HRB.out W (by (repeat (first | exact Below.refl _ _ | exact hu | refine Below.drew ?_ | refine below_drewN ?_ _)))
          have hBr := (Array.getElem?_eq_some_iff.1 h2.r).1
          have H2 := mkH h2
          have HNE := mkH hne
          clear h2 hne HST hpz hbr hb8 hb8' hb5 hb5' t0 hlt hzp hn h5 hr hfn hltB
          go_region_with (first
            | (go_at_call 5; refine (few_any _ pa pc pb ?_ hlp hmp).mono ?_; (exact hrp); rintro e u ⟨v, rfl, hown, hu0⟩; rw [HPT.out] at hown; have hu : Below W.heap.size W u := ⟨hu0.os, hu0.tape, hu0.output, hu0.size, hu0.block⟩; obtain ⟨a2, c2, rfl, -, hc2, hr2⟩ := own_row hown; have hcv := run_string (P := Tryd.prog) Tryd.underlying23 Tryd.underlying5 Tryd.underlying9 hr2 c2; have hv3 := HRB.out u hu; have hfu : u.frozen? ⟨Br, 0, none⟩ = false := (World.frozen?_of_block (hu.block Br hBr)).trans hfr; have hcu : u.cell? ⟨Br, 0, none⟩ = some (.bool true) := (hu.cell (p := ⟨Br, 0, none⟩) hBr).trans hcr))
          all_goals
            go_wp2_with fail
            go_meet
            refine ⟨rfl, rfl, ?_, ?_⟩
            · rw [HS.out, ← str_eq]
              first | exact two_setR (H2.out.kept hu) HNE.out _ | exact (two_setR (H2.out.kept hu) HNE.out _).drew | exact (two_setR (H2.out.kept hu) HNE.out _).drewN _
            · first | exact (Ex.of_below hu).set ⟨Br, 0, none⟩ _ (.inr rfl) | exact ((Ex.of_below hu).set ⟨Br, 0, none⟩ _ (.inr rfl)).drew | exact ((Ex.of_below hu).set ⟨Br, 0, none⟩ _ (.inr rfl)).drewN _
        · have t1 : ((pl : Int) == (z : Int)) = false := by rw [beq_eq_false_iff_ne]; omega
          have HS : Hid (stepR zs ps true n pl bs = false) := by unfold Hid; rw [HST.out]; simp [hpz]
          go_region
          all_goals
            go_wp2_with fail
            go_meet
            refine ⟨rfl, rfl, ?_, ?_⟩
            · rw [HS.out]; exact (two_setR h2 hne false).drew
            · exact ((Ex.refl Bn Br W).set ⟨Br, 0, none⟩ (.bool false) (.inr rfl)).drew
    case rest =>
      obtain ⟨hv2, hv6, h2c, hE⟩ := hcut
      subst hv2 hv6
      clear hcn hcr hfn hfr
      have hcn := cell_box h2c.n
      have hfn : wc.frozen? ⟨Bn, 0, none⟩ = false := by simp only [World.frozen?, h2c.n]; rfl
      have h5c : wc.cell? ⟨B5, 0, none⟩ = some (.int .i64 (mo : Int)) := (World.cell?_of_block (hE.block B5 (World.block_lt_of_cell? W _ h5) hb5 hb5')).trans h5
      have h2s := two_setN h2c hne (n + 1)
      have hE2 := hE.set ⟨Bn, 0, none⟩ (.int .i64 ((n + 1 : Nat) : Int)) (.inl rfl)
      clear h2c hE h2 h5
      by_cases hm : n + 1 < mo
      · have t2 : decide ((n : Int) + 1 < (mo : Int)) = true := by simp; omega
        go_wp2
        go_ret
        exact ⟨by simp [hm], h2s, hE2⟩
      · have t2 : decide ((n : Int) + 1 < (mo : Int)) = false := by simp; omega
        have t3 : ((mo : Int) == 0) = decide (mo = 0) := by by_cases h : mo = 0 <;> simp [h]
        go_wp2
        go_ret
        exact ⟨by simp [hm], h2s, hE2⟩
  · have t0 : decide ((n : Int) < (zs.length : Int)) = false := by simp; omega
    have HS : Hid (stepR zs ps r n pl bs = r) := by unfold Hid stepR; rw [if_neg hlt]
    have h2s := two_setN h2 hne (n + 1)
    have hE2 := (Ex.refl Bn Br W).set ⟨Bn, 0, none⟩ (.int .i64 ((n + 1 : Nat) : Int)) (.inl rfl)
    clear hI hB
    by_cases hm : n + 1 < mo
    · have t2 : decide ((n : Int) + 1 < (mo : Int)) = true := by simp; omega
      go_wp2
      go_ret
      exact ⟨by simp [hm], by rw [HS.out]; exact h2s, hE2⟩
    · have t2 : decide ((n : Int) + 1 < (mo : Int)) = false := by simp; omega
      have t3 : ((mo : Int) == 0) = decide (mo = 0) := by by_cases h : mo = 0 <;> simp [h]
      go_wp2
      go_ret
      exact ⟨by simp [hm], by rw [HS.out]; exact h2s, hE2⟩
end Go.Proofs.YtjmhgifdkmglhabDoor.Cy
