/-
  apart; slices.Grow and slices.Concat of two lists.
-/
import Derived.Test.YtcpmaddleleblaaDoorGpB
import Derived.Lib.AppendZerosOnto
namespace Go.Proofs.YtcpmaddleleblaaDoor.Ge
open Go.RowKit Kt Gf Gp Gr Gk Ga Gs Gb
set_option linter.unusedVariables false
set_option linter.unusedSimpArgs false
set_option maxRecDepth 20000

set_option maxHeartbeats 1000000 in
theorem apart_any (w : World) (ao : Option Addr) (len cap n : Nat) (hn : n ≤ len) (hc : len ≤ cap) (hcap : cap ≤ 9223372036854775807) :
    Calls Tryd.prog 32 #[.slice ao len cap, .int .i64 (n : Int)] w fun e w' => e = .returned (.tuple #[.slice ao n n, .slice (ad ao len n 6) (len - n) (len - n)]) ∧ Below w.heap.size w w' := by
  have h1 := fun W : World => run_hm (P := Tryd.prog) W Tryd.underlying22 szK ao len cap n n (Nat.le_refl _) (by omega)
  have h2 := fun W : World => run_lhm (P := Tryd.prog) W Tryd.underlying22 szK ao len cap n len len hn (Nat.le_refl _) hc
  generalize ad ao len n 6 = aq at h2 ⊢
  go_enter Tryd.func32, Tryd.ntmps32
  go_wp2_with fail
  go_region
  all_goals go_wp2
  all_goals go_ret2
  all_goals exact ⟨rfl, ⟨rfl, rfl, rfl, Nat.le_refl _, fun _ _ => rfl⟩⟩

set_option maxHeartbeats 1000000 in
theorem grow_any (w : World) (n : Nat) (hn : n ≤ 1000000000) :
    Calls Tryd.prog 67 #[.slice none 0 0, .int .i64 (n : Int)] w fun e w' => ∃ ao cap, e = .returned (.slice ao 0 cap) ∧ w'.ownsRow w.heap.size 61 6 (.slice ao 0 cap) 0 [] ∧ Below w.heap.size w w' := by
  have hcut0 := fun W : World => run_h (P := Tryd.prog) W Tryd.underlying22 szK none 0 0 0 (Nat.le_refl _)
  rcases Nat.eq_zero_or_pos n with h0 | h0
  · subst h0
    go_enter Tryd.func67, Tryd.ntmps67
    go_wp2
    go_ret
    exact ⟨none, 0, rfl, World.ownsRow_nil w _ _ _, Below.refl _ _⟩
  · have hpos : (0 : Int) < (n : Int) := by omega
    have hneg : ¬ (n : Int) < 0 := by omega
    obtain ⟨i, hi, hz, hsize, hby⟩ := info_parts (P := Tryd.prog) infoK
    have hap := fun ty => Lib.run_append_nil_zeros (P := Tryd.prog) w 22 3 ty 61 i _ .i64 .i64 Tryd.underlying22 Tryd.underlying3 hi hz n h0 (by rw [hsize]; decide) (by omega) (by rw [hby]; omega)
    obtain ⟨gc, hgc⟩ : ∃ gc, grownCap w n 0 61 = gc := ⟨_, rfl⟩
    have hge : n ≤ gc := by rw [← hgc]; exact grownCap_ge _ _ _ _
    have hle : gc ≤ maxLen := by rw [← hgc]; exact grownCap_le_maxLen _ _ _ _ (by unfold maxLen; omega)
    rw [hgc] at hap
    obtain ⟨C, hC⟩ : ∃ C, Builtin.zeroCells (Value.agg #[.int .i64 0, .int .i64 0, .int .i64 0, .int .i64 0, .int .i64 0, .string ByteArray.empty]).cells n ++ Builtin.zeroCells (Value.agg #[.int .i64 0, .int .i64 0, .int .i64 0, .int .i64 0, .int .i64 0, .string ByteArray.empty]).cells (gc - n) = C := ⟨_, rfl⟩
    rw [hC] at hap
    have hCs : C.size = gc * 6 := by
      rw [← hC, Array.size_append, size_zeroCells, size_zeroCells]
      show n * 6 + (gc - n) * 6 = gc * 6
      omega
    have hcut := fun W : World => run_h (P := Tryd.prog) W Tryd.underlying22 szK (some ⟨w.heap.size, 0, none⟩) n gc 0 (Nat.zero_le _)
    have HO : Hid ((w.drew.alloc (.cells C 61)).ownsRow w.heap.size 61 6 (.slice (some ⟨w.heap.size, 0, none⟩) 0 gc) 0 []) := ⟨rfl, .inr ⟨w.heap.size, gc, C, rfl, Nat.le_refl _, heap_alloc_new w.drew _, Nat.zero_le _, hle, hCs, by simp⟩⟩
    have HB : Hid (Below w.heap.size w (w.drew.alloc (.cells C 61))) := ⟨rfl, rfl, rfl, by simp, fun k hk => Below.heap_alloc w.drew _ k hk⟩
    have HAP := mkH hap
    clear hap hC hCs hgc hle hge hi hz hsize hby
    go_enter Tryd.func67, Tryd.ntmps67
    go_wp2_with (at_builtin; refine Lib.wpList_append_run _ rfl (.tmp 20) (.tmp 21) 22 3 rfl _ _ rfl rfl _ _ (HAP.out _) ?_)
    go_ret
    exact ⟨_, gc, rfl, HO, HB⟩

set_option maxHeartbeats 4000000 in
theorem concat_any (w : World) (vb : Nat) (a1 a2 : Option Addr) (c1 c2 : Nat) (l1 l2 : List K) (hv1 : w.cell? ⟨vb, 0, none⟩ = some (.slice a1 l1.length c1)) (hv2 : w.cell? ⟨vb, 1, none⟩ = some (.slice a2 l2.length c2)) (h1 : RowK w a1 l1) (h2 : RowK w a2 l2) (hl : l1.length + l2.length ≤ 1000000000) (L : List K) (hL : l1 ++ l2 = L) :
    Calls Tryd.prog 33 #[.slice (some ⟨vb, 0, none⟩) 2 2] w fun e w' => ∃ ao cap, e = .returned (.slice ao L.length cap) ∧ w'.ownsRow w.heap.size 61 6 (.slice ao L.length cap) L.length (Fk L) ∧ Below w.heap.size w w' := by
  have hlt := World.block_lt_of_cell? w _ hv1
  have H1 := mkH h1
  have H2 := mkH h2
  have HL := mkH hL
  obtain ⟨n1, hn1⟩ : ∃ n, l1.length = n := ⟨_, rfl⟩
  obtain ⟨n2, hn2⟩ : ∃ n, l2.length = n := ⟨_, rfl⟩
  have HN1 := mkH hn1
  have HN2 := mkH hn2
  rw [hn1] at hv1 hl
  rw [hn2] at hv2 hl
  clear h1 h2 hL hn1 hn2
  go_enter Tryd.func33, Tryd.ntmps33
  go_wp2_with fail
  go_loopw [3, 5, 11] (fun s3 _ i wr => wr = w ∧ ∃ j : Nat, j ≤ 2 ∧ i = .int .i64 (j : Int) ∧ s3 = .int .i64 ((if j = 0 then 0 else if j = 1 then n1 else n1 + n2 : Nat) : Int)) (fun _ _ i _ => 2 - (intOf i).toNat)
  case atStart => exact ⟨rfl, 0, by omega, rfl, rfl⟩
  case round =>
    obtain ⟨hwr, j, hj, rfl, rfl⟩ := hrel
    have hwr2 := hwr.symm
    subst hwr2
    clear hwr
    obtain rfl | rfl | rfl : j = 0 ∨ j = 1 ∨ j = 2 := by omega
    · go_wp2
      go_roundw
      case rel => exact ⟨trivial, 1, by omega, by go_num, by simp⟩
      case measure => simp [intOf]
    · have p1 : ¬ ((n1 : Int) + (n2 : Int)) < 0 := by omega
      simp only [if_neg, if_pos, Nat.one_ne_zero, if_false, if_true]
      go_wp2
      go_roundw
      case rel => exact ⟨trivial, 2, by omega, by go_num, by simp⟩
      case measure => simp [intOf]
    · obtain ⟨N, hN⟩ : ∃ N, n1 + n2 = N := ⟨_, rfl⟩
      have hNl : N ≤ 1000000000 := by omega
      simp only [show (if 2 = 0 then 0 else if 2 = 1 then n1 else n1 + n2 : Nat) = N from hN]
      go_wp2_with fail
      refine (grow_any w N hNl).mono ?_
      rintro e w1 ⟨ga, gc, rfl, ho, hb⟩
      have hsw := hb.size
      have HO := mkH ho
      have HB := mkH hb
      have V0 := mkH hv1
      have V1 := mkH hv2
      clear ho hb hv1 hv2
      go_wp2_with fail
      go_loopw [6, 8, 27] (fun s6 _ i W => ∃ (j : Nat) (l : List K) (ao : Option Addr) (cap : Nat), j ≤ 2 ∧ i = .int .i64 (j : Int) ∧ s6 = .slice ao l.length cap ∧ Hid (l = if j = 0 then [] else if j = 1 then l1 else l1 ++ l2) ∧ Hid (W.ownsRow w.heap.size 61 6 (.slice ao l.length cap) l.length (Fk l)) ∧ Hid (Below w.heap.size w W)) (fun _ _ i _ => 2 - (intOf i).toNat)
      case atStart => exact ⟨0, [], ga, gc, by omega, rfl, rfl, mkH rfl, HO, HB⟩
      case round =>
        obtain ⟨j, l, ao, cap, hj, rfl, rfl, HLl, HO2, HB2⟩ := hrel
        obtain rfl | rfl | rfl : j = 0 ∨ j = 1 ∨ j = 2 := by omega
        · have hrow := H1.out.below HB2.out
          have hv : wr.cell? ⟨vb, 0, none⟩ = some (.slice a1 n1 c1) := by rw [HB2.out.cell (p := ⟨vb, 0, none⟩) hlt]; exact V0.out
          have HS := mkH (srcK hrow c1)
          rw [HN1.out] at HS
          have hll : l.length ≤ 1000000000 ∧ l.length + n1 ≤ 1000000000 := by rw [HLl.out]; simp; omega
          have hsW := HB2.out.size
          have hb6 : (l.length + n1) * 56 ≤ 140737488355328 := by omega
          clear hrow
          go_wp2_with (at_builtin; refine (wpList_append_own_src _ rfl (.tmp 31) (.tmp 32) 22 22 rfl w.heap.size 61 _ 6 56 Tryd.underlying22 infoK rfl (by decide) _ l.length (Fk l) rfl HO2.out _ n1 (Fk l1) rfl HS.out ?h63 ?hby ?hbs ?_))
          case h63 => unfold maxLen; omega
          intro v5 w5 hown hgr
          have hb5 := below_own HO2.out hgr HB2.out hsW
          rw [show Fk l ++ Fk l1 = Fk (l ++ l1) from (Fl_append _ _).symm, show l.length + n1 = (l ++ l1).length by rw [List.length_append, HN1.out]] at hown
          obtain ⟨a5, c5, rfl⟩ := own_form hown
          have HO5 := mkH hown
          have HB5 := mkH hb5
          obtain ⟨l5, hl5⟩ : ∃ l5, l ++ l1 = l5 := ⟨_, rfl⟩
          rw [hl5] at HO5 ⊢
          have HL5 := mkH hl5
          clear hown hgr hb5 HS hl5
          go_wp2
          go_roundw
          case rel => exact ⟨1, l5, a5, c5, by omega, by go_num, rfl, by unfold Hid; rw [← HL5.out, HLl.out]; simp, HO5, HB5⟩
          case measure => simp [intOf]
        · have hrow := H2.out.below HB2.out
          have hv : wr.cell? ⟨vb, 1, none⟩ = some (.slice a2 n2 c2) := by rw [HB2.out.cell (p := ⟨vb, 1, none⟩) hlt]; exact V1.out
          have HS := mkH (srcK hrow c2)
          rw [HN2.out] at HS
          have hll : l.length ≤ 1000000000 ∧ l.length + n2 ≤ 1000000000 := by rw [HLl.out]; simp [HN1.out]; omega
          have hsW := HB2.out.size
          have hb6 : (l.length + n2) * 56 ≤ 140737488355328 := by omega
          clear hrow
          go_wp2_with (at_builtin; refine (wpList_append_own_src _ rfl (.tmp 31) (.tmp 32) 22 22 rfl w.heap.size 61 _ 6 56 Tryd.underlying22 infoK rfl (by decide) _ l.length (Fk l) rfl HO2.out _ n2 (Fk l2) rfl HS.out ?h631 ?hby1 ?hbs1 ?_))
          case h631 => unfold maxLen; omega
          intro v5 w5 hown hgr
          have hb5 := below_own HO2.out hgr HB2.out hsW
          rw [show Fk l ++ Fk l2 = Fk (l ++ l2) from (Fl_append _ _).symm, show l.length + n2 = (l ++ l2).length by rw [List.length_append, HN2.out]] at hown
          obtain ⟨a5, c5, rfl⟩ := own_form hown
          have HO5 := mkH hown
          have HB5 := mkH hb5
          obtain ⟨l5, hl5⟩ : ∃ l5, l ++ l2 = l5 := ⟨_, rfl⟩
          rw [hl5] at HO5 ⊢
          have HL5 := mkH hl5
          clear hown hgr hb5 HS hl5
          go_wp2
          go_roundw
          case rel => exact ⟨2, l5, a5, c5, by omega, by go_num, rfl, by unfold Hid; rw [← HL5.out, HLl.out]; simp, HO5, HB5⟩
          case measure => simp [intOf]
        · have hLl : l = L := by rw [HLl.out]; simpa using HL.out
          subst hLl
          go_wp2
          go_ret
          exact ⟨ao, cap, rfl, HO2, HB2⟩
end Go.Proofs.YtcpmaddleleblaaDoor.Ge
