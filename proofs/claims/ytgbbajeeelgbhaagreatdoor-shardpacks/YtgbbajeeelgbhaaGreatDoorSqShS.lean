/-
  slices.Grow and slices.Concat of three lists of texts.
-/
import Derived.Test.YtgbbajeeelgbhaaGreatDoorSqShR
import Derived.Test.YtgbbajeeelgbhaaGreatDoorSqAS
import Derived.Lib.AppendZerosOnto
namespace Go.Proofs.YtgbbajeeelgbhaaGreatDoor.Hs3
open Go.RowKit Kt Pl Wi Wk Wa Sa
open At (RowT)
set_option linter.unusedVariables false
set_option linter.unusedSimpArgs false
set_option maxRecDepth 20000

set_option maxHeartbeats 1000000 in
theorem grow_any (w : World) (n : Nat) (hn : n ≤ 1000000000) :
    Calls Tryz.prog 116 #[.slice none 0 0, .int .i64 (n : Int)] w fun e w' => ∃ ao cap, e = .returned (.slice ao 0 cap) ∧ w'.ownsRow w.heap.size 9 1 (.slice ao 0 cap) 0 [] ∧ Below w.heap.size w w' := by
  have hcut0 := fun W : World => Gs.run_h (P := Tryz.prog) W Tryz.underlying33 Hq.szT none 0 0 0 (Nat.le_refl _)
  rcases Nat.eq_zero_or_pos n with h0 | h0
  · subst h0
    go_enter Tryz.func116, Tryz.ntmps116
    go_wp2
    go_ret
    exact ⟨none, 0, rfl, World.ownsRow_nil w _ _ _, Below.refl _ _⟩
  · have hpos : (0 : Int) < (n : Int) := by omega
    have hneg : ¬ (n : Int) < 0 := by omega
    obtain ⟨i, hi, hz, hsize, hby⟩ := info_parts (P := Tryz.prog) info_S
    have hap := fun ty => Lib.run_append_nil_zeros (P := Tryz.prog) w 33 3 ty 9 i _ .i64 .i64 Tryz.underlying33 Tryz.underlying3 hi hz n h0 (by rw [hsize]; decide) (by omega) (by rw [hby]; omega)
    obtain ⟨gc, hgc⟩ : ∃ gc, grownCap w n 0 9 = gc := ⟨_, rfl⟩
    have hge : n ≤ gc := by rw [← hgc]; exact grownCap_ge _ _ _ _
    have hle : gc ≤ maxLen := by rw [← hgc]; exact grownCap_le_maxLen _ _ _ _ (by unfold maxLen; omega)
    rw [hgc] at hap
    obtain ⟨C, hC⟩ : ∃ C, Builtin.zeroCells (Value.string ⟨#[]⟩).cells n ++ Builtin.zeroCells (Value.string ⟨#[]⟩).cells (gc - n) = C := ⟨_, rfl⟩
    rw [hC] at hap
    have hCs : C.size = gc * 1 := by
      rw [← hC, Array.size_append, size_zeroCells, size_zeroCells]
      show n * 1 + (gc - n) * 1 = gc * 1
      omega
    have hcut := fun W : World => Gs.run_h (P := Tryz.prog) W Tryz.underlying33 Hq.szT (some ⟨w.heap.size, 0, none⟩) n gc 0 (Nat.zero_le _)
    have HO : Hid ((w.drew.alloc (.cells C 9)).ownsRow w.heap.size 9 1 (.slice (some ⟨w.heap.size, 0, none⟩) 0 gc) 0 []) := ⟨rfl, .inr ⟨w.heap.size, gc, C, rfl, Nat.le_refl _, heap_alloc_new w.drew _, Nat.zero_le _, hle, hCs, by simp⟩⟩
    have HB : Hid (Below w.heap.size w (w.drew.alloc (.cells C 9))) := ⟨rfl, rfl, rfl, by simp, fun k hk => Below.heap_alloc w.drew _ k hk⟩
    have HAP := mkH hap
    clear hap hC hCs hgc hle hge hi hz hsize hby
    go_enter Tryz.func116, Tryz.ntmps116
    go_wp2_with (at_builtin; refine Lib.wpList_append_run _ rfl (.tmp 20) (.tmp 21) 33 3 rfl _ _ rfl rfl _ _ (HAP.out _) ?_)
    go_ret
    exact ⟨_, gc, rfl, HO, HB⟩

set_option maxHeartbeats 8000000 in
theorem concat_any (w : World) (vb : Nat) (a1 a2 a3 : Option Addr) (c1 c2 c3 : Nat) (l1 l2 l3 : List Bs) (hv1 : w.cell? ⟨vb, 0, none⟩ = some (.slice a1 l1.length c1)) (hv2 : w.cell? ⟨vb, 1, none⟩ = some (.slice a2 l2.length c2)) (hv3 : w.cell? ⟨vb, 2, none⟩ = some (.slice a3 l3.length c3)) (h1 : RowT w a1 l1) (h2 : RowT w a2 l2) (h3 : RowT w a3 l3) (hl : l1.length + l2.length + l3.length ≤ 1000000000) (L : List Bs) (hL : l1 ++ l2 ++ l3 = L) :
    Calls Tryz.prog 62 #[.slice (some ⟨vb, 0, none⟩) 3 3] w fun e w' => ∃ ao cap, e = .returned (.slice ao L.length cap) ∧ w'.ownsRow w.heap.size 9 1 (.slice ao L.length cap) L.length (T L) ∧ Below w.heap.size w w' := by
  have hlt := World.block_lt_of_cell? w _ hv1
  have H1 := mkH h1
  have H2 := mkH h2
  have H3 := mkH h3
  have HL := mkH hL
  obtain ⟨n1, hn1⟩ : ∃ n, l1.length = n := ⟨_, rfl⟩
  obtain ⟨n2, hn2⟩ : ∃ n, l2.length = n := ⟨_, rfl⟩
  obtain ⟨n3, hn3⟩ : ∃ n, l3.length = n := ⟨_, rfl⟩
  have HN1 := mkH hn1
  have HN2 := mkH hn2
  have HN3 := mkH hn3
  rw [hn1] at hv1 hl
  rw [hn2] at hv2 hl
  rw [hn3] at hv3 hl
  clear h1 h2 h3 hL hn1 hn2 hn3
  go_enter Tryz.func62, Tryz.ntmps62
  go_wp2_with fail
  go_loopw [3, 5, 11] (fun s3 _ i wr => wr = w ∧ ∃ (j s : Nat), j ≤ 3 ∧ i = .int .i64 (j : Int) ∧ s3 = .int .i64 (s : Int) ∧ Hid (s = (if j = 0 then 0 else if j = 1 then n1 else if j = 2 then n1 + n2 else n1 + n2 + n3 : Nat))) (fun _ _ i _ => 3 - (intOf i).toNat)
  case atStart => exact ⟨rfl, 0, 0, by omega, rfl, rfl, mkH rfl⟩
  case round =>
    obtain ⟨hwr, j, s, hj, rfl, rfl, HSM⟩ := hrel
    have hwr2 := hwr.symm
    subst hwr2
    clear hwr
    obtain rfl | rfl | rfl | rfl : j = 0 ∨ j = 1 ∨ j = 2 ∨ j = 3 := by omega
    · have hs : s = 0 := HSM.out
      have hsb : s + n1 ≤ 1000000000 := by omega
      have p1 : ¬ ((s : Int) + (n1 : Int)) < 0 := by omega
      have HS2 : Hid (s + n1 = n1) := mkH (by omega)
      clear hs HSM
      go_wp2
      go_roundw
      case rel => exact ⟨trivial, 1, s + n1, by omega, by go_num, by go_num, HS2⟩
      case measure => simp [intOf]
    · have hs : s = n1 := HSM.out
      have hsb : s + n2 ≤ 1000000000 := by omega
      have p1 : ¬ ((s : Int) + (n2 : Int)) < 0 := by omega
      have HS2 : Hid (s + n2 = n1 + n2) := mkH (by omega)
      clear hs HSM
      go_wp2
      go_roundw
      case rel => exact ⟨trivial, 2, s + n2, by omega, by go_num, by go_num, HS2⟩
      case measure => simp [intOf]
    · have hs : s = n1 + n2 := HSM.out
      have hsb : s + n3 ≤ 1000000000 := by omega
      have p1 : ¬ ((s : Int) + (n3 : Int)) < 0 := by omega
      have HS2 : Hid (s + n3 = n1 + n2 + n3) := mkH (by omega)
      clear hs HSM
      go_wp2
      go_roundw
      case rel => exact ⟨trivial, 3, s + n3, by omega, by go_num, by go_num, HS2⟩
      case measure => simp [intOf]
    · have hs : s = n1 + n2 + n3 := HSM.out
      have hNl : s ≤ 1000000000 := by omega
      clear hs HSM
      go_wp2_with fail
      refine (grow_any w s hNl).mono ?_
      rintro e w1 ⟨ga, gc, rfl, ho, hb⟩
      have hsw := hb.size
      have HO := mkH ho
      have HB := mkH hb
      have V1 := mkH hv1
      have V2 := mkH hv2
      have V3 := mkH hv3
      clear ho hb hv1 hv2 hv3
      go_wp2_with fail
      go_loopw [6, 8, 27] (fun s6 _ i W => ∃ (j : Nat) (l : List Bs) (ao : Option Addr) (cap : Nat), j ≤ 3 ∧ i = .int .i64 (j : Int) ∧ s6 = .slice ao l.length cap ∧ Hid (l = if j = 0 then [] else if j = 1 then l1 else if j = 2 then l1 ++ l2 else l1 ++ l2 ++ l3) ∧ Hid (W.ownsRow w.heap.size 9 1 (.slice ao l.length cap) l.length (T l)) ∧ Hid (Below w.heap.size w W)) (fun _ _ i _ => 3 - (intOf i).toNat)
      case atStart => exact ⟨0, [], ga, gc, by omega, rfl, rfl, mkH rfl, HO, HB⟩
      case round =>
        obtain ⟨j, l, ao, cap, hj, rfl, rfl, HLl, HO2, HB2⟩ := hrel
        obtain rfl | rfl | rfl | rfl : j = 0 ∨ j = 1 ∨ j = 2 ∨ j = 3 := by omega
        · have hle : l = [] := HLl.out
          have hrow := H1.out.below HB2.out
          have hv : wr.cell? ⟨vb, 0, none⟩ = some (.slice a1 n1 c1) := by rw [HB2.out.cell (p := ⟨vb, 0, none⟩) hlt]; exact V1.out
          have HS := mkH (srcT hrow c1)
          rw [HN1.out] at HS
          have hll : l.length + n1 ≤ 1000000000 := by rw [hle]; simp only [List.length_append, List.length_nil]; omega
          have hsW := HB2.out.size
          have HLe := mkH hle
          clear hrow hle HLl
          go_wp2_with (at_builtin; refine (wpList_append_own_src _ rfl (.tmp 31) (.tmp 32) 33 33 rfl w.heap.size 9 _ 1 16 Tryz.underlying33 info_S rfl (by decide) _ l.length (T l) rfl HO2.out _ n1 (T l1) rfl HS.out ?h63 ?hby ?hbs ?_))
          case h63 => unfold maxLen; omega
          case hby => omega
          case hbs => omega
          intro v5 w5 hown hgr
          have hb5 := below_own HO2.out hgr HB2.out hsW
          rw [← T_append, show l.length + n1 = (l ++ l1).length by rw [List.length_append, HN1.out]] at hown
          obtain ⟨a5, c5, rfl⟩ := own_form hown
          have HO5 := mkH hown
          have HB5 := mkH hb5
          obtain ⟨l5, hl5⟩ : ∃ l5, l ++ l1 = l5 := ⟨_, rfl⟩
          rw [hl5] at HO5 ⊢
          have HL5 := mkH hl5
          clear hown hgr hb5 HS hl5
          go_wp2
          go_roundw
          case rel => exact ⟨1, l5, a5, c5, by omega, by go_num, rfl, by unfold Hid; rw [← HL5.out, HLe.out]; simp, HO5, HB5⟩
          case measure => simp [intOf]
        · have hle : l = l1 := HLl.out
          have hrow := H2.out.below HB2.out
          have hv : wr.cell? ⟨vb, 1, none⟩ = some (.slice a2 n2 c2) := by rw [HB2.out.cell (p := ⟨vb, 1, none⟩) hlt]; exact V2.out
          have HS := mkH (srcT hrow c2)
          rw [HN2.out] at HS
          have hll : l.length + n2 ≤ 1000000000 := by rw [hle]; simp only [List.length_append, List.length_nil, HN1.out]; omega
          have hsW := HB2.out.size
          have HLe := mkH hle
          clear hrow hle HLl
          go_wp2_with (at_builtin; refine (wpList_append_own_src _ rfl (.tmp 31) (.tmp 32) 33 33 rfl w.heap.size 9 _ 1 16 Tryz.underlying33 info_S rfl (by decide) _ l.length (T l) rfl HO2.out _ n2 (T l2) rfl HS.out ?h63 ?hby ?hbs ?_))
          case h63 => unfold maxLen; omega
          case hby => omega
          case hbs => omega
          intro v5 w5 hown hgr
          have hb5 := below_own HO2.out hgr HB2.out hsW
          rw [← T_append, show l.length + n2 = (l ++ l2).length by rw [List.length_append, HN2.out]] at hown
          obtain ⟨a5, c5, rfl⟩ := own_form hown
          have HO5 := mkH hown
          have HB5 := mkH hb5
          obtain ⟨l5, hl5⟩ : ∃ l5, l ++ l2 = l5 := ⟨_, rfl⟩
          rw [hl5] at HO5 ⊢
          have HL5 := mkH hl5
          clear hown hgr hb5 HS hl5
          go_wp2
          go_roundw
          case rel => exact ⟨2, l5, a5, c5, by omega, by go_num, rfl, by unfold Hid; rw [← HL5.out, HLe.out]; simp, HO5, HB5⟩
          case measure => simp [intOf]
        · have hle : l = l1 ++ l2 := HLl.out
          have hrow := H3.out.below HB2.out
          have hv : wr.cell? ⟨vb, 2, none⟩ = some (.slice a3 n3 c3) := by rw [HB2.out.cell (p := ⟨vb, 2, none⟩) hlt]; exact V3.out
          have HS := mkH (srcT hrow c3)
          rw [HN3.out] at HS
          have hll : l.length + n3 ≤ 1000000000 := by rw [hle]; simp only [List.length_append, List.length_nil, HN1.out, HN2.out]; omega
          have hsW := HB2.out.size
          have HLe := mkH hle
          clear hrow hle HLl
          go_wp2_with (at_builtin; refine (wpList_append_own_src _ rfl (.tmp 31) (.tmp 32) 33 33 rfl w.heap.size 9 _ 1 16 Tryz.underlying33 info_S rfl (by decide) _ l.length (T l) rfl HO2.out _ n3 (T l3) rfl HS.out ?h63 ?hby ?hbs ?_))
          case h63 => unfold maxLen; omega
          case hby => omega
          case hbs => omega
          intro v5 w5 hown hgr
          have hb5 := below_own HO2.out hgr HB2.out hsW
          rw [← T_append, show l.length + n3 = (l ++ l3).length by rw [List.length_append, HN3.out]] at hown
          obtain ⟨a5, c5, rfl⟩ := own_form hown
          have HO5 := mkH hown
          have HB5 := mkH hb5
          obtain ⟨l5, hl5⟩ : ∃ l5, l ++ l3 = l5 := ⟨_, rfl⟩
          rw [hl5] at HO5 ⊢
          have HL5 := mkH hl5
          clear hown hgr hb5 HS hl5
          go_wp2
          go_roundw
          case rel => exact ⟨3, l5, a5, c5, by omega, by go_num, rfl, by unfold Hid; rw [← HL5.out, HLe.out]; simp, HO5, HB5⟩
          case measure => simp [intOf]
        · have hLl : l = L := by rw [HLl.out]; simpa using HL.out
          subst hLl
          go_wp2
          go_ret
          exact ⟨ao, cap, rfl, HO2, HB2⟩
end Go.Proofs.YtgbbajeeelgbhaaGreatDoor.Hs3
