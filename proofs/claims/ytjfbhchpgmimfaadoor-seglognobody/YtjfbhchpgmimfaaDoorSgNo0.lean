/-
  SeglogNobody.
-/
import Derived.Test.YtjfbhchpgmimfaaDoorSgUn
namespace Go.Proofs.YtjfbhchpgmimfaaDoor.Sno
open Go.RowKit Kt Cs Cf Cv Ck Ca Dk Dp Da Db Dc Dd De Sq Sr Sa Sb Sc Se Sf Sk Sl Sm St Su Sv Pl Sx Sun
set_option linter.unusedVariables false
set_option maxRecDepth 20000

theorem new_bad (w : World) (per : Int) (h : per < 1 ∨ 1024 < per) : Calls Tryd.prog 9 #[.int .i64 per] w fun e w' => e = .returned (.tuple #[.pointer none, .int .i64 2]) ∧ w' = w := by
  rcases h with h | h
  · have t1 : decide (per < 1) = true := by simp; omega
    go_enter Tryd.func9, Tryd.ntmps9
    go_wp2
    go_ret2
    exact ⟨rfl, rfl⟩
  · have t1 : decide (per < 1) = false := by simp; omega
    have t2 : ¬ per < 1 := by omega
    have t3 : decide (1024 < per) = true := by simp; omega
    go_enter Tryd.func9, Tryd.ntmps9
    go_wp2
    go_ret2
    exact ⟨rfl, rfl⟩
set_option maxHeartbeats 4000000 in
theorem nobody_any (w : World) (hT : Tb w) (x : Ac) (hok : AcOk w x) (per : Int) (hw : (Lit.int .i64 per).wf = true) :
    Calls Tryd.prog 4 #[.agg (aC x).toArray, .int .i64 per] w fun e w' => e = .returned (.bool true) ∧ Below w.heap.size w w' := by
  obtain ⟨kd, n, fl, xa, xc, xb⟩ := x
  obtain ⟨-, hxl, hxc, -⟩ := hok
  have e : (aC ⟨kd, n, fl, xa, xc, xb⟩).toArray = #[.int .i64 kd, .int .i64 n, .int .i64 fl, .slice xa xb.length xc] := rfl
  rw [e]
  clear e
  simp only at hxl hxc
  generalize xb.length = xl at *
  have HT := mkH hT
  have hbd := bounds_i64 hw
  clear hT hw
  by_cases hp : 1 ≤ per ∧ per ≤ 1024
  · obtain ⟨hp1, hp2⟩ := hp
    go_enter Tryd.func4, Tryd.ntmps4
    go_wp2_with fail
    refine (new_bad _ _ (.inl (by omega))).mono ?_
    rintro e u0 ⟨rfl, hu0⟩
    have hu0' := hu0.symm
    subst hu0'
    clear hu0
    go_wp2_with fail
    obtain ⟨A, hA⟩ : ∃ A, w.heap.size = A := ⟨_, rfl⟩
    rw [hA]
    obtain ⟨W0, hW0⟩ : ∃ W0, W0 = (((w.alloc (.cells #[.int .i64 kd, .int .i64 n, .int .i64 fl, .slice xa xl xc] 32)).alloc (.cells #[.int .i64 0, .bool false, .slice none 0 0, .int .i64 0, .int .i64 0, .int .i64 0] 57)).alloc (.cells #[.pointer none, .pointer (some ⟨A + 1, 0, none⟩), .pointer none] 23)) := ⟨_, rfl⟩
    have hbW : Below w.heap.size w W0 := by rw [hW0]; exact (((Below.refl _ w).alloc (Nat.le_refl _) _).alloc (by simp) _).alloc (by simp; omega) _
    have hh2 : W0.heap[A + 1 + 1]? = some (.cells #[.pointer none, .pointer (some ⟨A + 1, 0, none⟩), .pointer none] 23 (0, 0)) := by
      have := heap_alloc_new ((w.alloc (.cells #[.int .i64 kd, .int .i64 n, .int .i64 fl, .slice xa xl xc] 32)).alloc (.cells #[.int .i64 0, .bool false, .slice none 0 0, .int .i64 0, .int .i64 0, .int .i64 0] 57)) (.cells #[.pointer none, .pointer (some ⟨A + 1, 0, none⟩), .pointer none] 23)
      rw [← hW0, World.size_alloc, World.size_alloc, hA] at this
      exact this
    have hh1 : W0.heap[A + 1]? = some (.cells #[.int .i64 0, .bool false, .slice none 0 0, .int .i64 0, .int .i64 0, .int .i64 0] 57 (0, 0)) := by
      rw [hW0, Below.heap_alloc _ _ _ (by simp; omega)]
      have := heap_alloc_new (w.alloc (.cells #[.int .i64 kd, .int .i64 n, .int .i64 fl, .slice xa xl xc] 32)) (.cells #[.int .i64 0, .bool false, .slice none 0 0, .int .i64 0, .int .i64 0, .int .i64 0] 57)
      rw [World.size_alloc, hA] at this
      exact this
    have hh0 : W0.heap[A]? = some (.cells #[.int .i64 kd, .int .i64 n, .int .i64 fl, .slice xa xl xc] 32 (0, 0)) := by
      rw [hW0, Below.heap_alloc _ _ _ (by simp; omega), Below.heap_alloc _ _ _ (by simp; omega), ← hA]
      exact heap_alloc_new _ _
    have cd : W0.cell? ⟨A + 1, 0, none⟩ = some (.int .i64 0) := by rw [cell_of_row _ _ _ _ _ _ hh1]; rfl
    have HCS : Hid (∀ W, Below W0.heap.size W0 W → W.heap[A + 1 + 1]? = some (.cells #[.pointer none, .pointer (some ⟨A + 1, 0, none⟩), .pointer none] 23 (0, 0)) ∧ W.heap[A]? = some (.cells #[.int .i64 kd, .int .i64 n, .int .i64 fl, .slice xa xl xc] 32 (0, 0))) := fun W hb => ⟨(hb.block _ (block_lt hh2)).trans hh2, (hb.block _ (block_lt hh0)).trans hh0⟩
    rw [← hW0]
    have HB := mkH hbW
    have HUP := mkH (un_not W0 (A + 1) cd)
    have HUN := mkH (un_nil W0)
    clear hW0 hbW hh0 hh1 hh2 cd
    go_loopw [31] (fun i W => ∃ j : Nat, j ≤ 3 ∧ i = .int .i64 j ∧ Hid (Below W0.heap.size W0 W)) (fun i _ => 3 - (intOf i).toNat)
    case atStart => exact ⟨0, by omega, rfl, Below.refl _ _⟩
    case round =>
      obtain ⟨j, hj, rfl, HBR⟩ := hrel
      have HBw := mkH (HB.out.trans (HBR.out.mono HB.out.size))
      by_cases hj2 : j = 3
      · subst hj2
        go_wp2_with fail
        refine (Sw.works_any _ (HT.out.below HBw.out HT.out.size)).mono ?_
        rintro e w9 ⟨rfl, hb9⟩
        go_wp2
        go_ret
        exact ⟨rfl, HBw.out.trans (hb9.mono HBw.out.size)⟩
      · have t0 : decide ((j : Int) < 3) = true := by simp; omega
        have hj0 : (j : Int) < 3 := by omega
        obtain ⟨hc2, hc0⟩ := HCS.out wr HBR.out
        obtain ⟨p, hp, hup⟩ : ∃ p, wr.cell? ⟨A + 1 + 1, j, none⟩ = some (.pointer p) ∧ Un wr p := by
          obtain h | h | h : j = 0 ∨ j = 1 ∨ j = 2 := by omega
          · subst h; exact ⟨none, by rw [cell_of_row _ _ _ _ _ _ hc2]; rfl, HUN.out.below HBR.out⟩
          · subst h; exact ⟨_, by rw [cell_of_row _ _ _ _ _ _ hc2]; rfl, HUP.out.below HBR.out⟩
          · subst h; exact ⟨none, by rw [cell_of_row _ _ _ _ _ _ hc2]; rfl, HUN.out.below HBR.out⟩
        have a3 : wr.cell? ⟨A, 3, none⟩ = some (.slice xa xl xc) := by rw [cell_of_row _ _ _ _ _ _ hc0]; rfl
        have HP0 := mkH hup
        clear hup hc2 hc0
        go_wp2_with fail
        refine (append_un wr p HP0.out _).mono ?_
        rintro e u1 ⟨rfl, hu1⟩
        have hu1' := hu1.symm
        subst hu1'
        clear hu1
        go_wp2_with fail
        refine (all_un wr p HP0.out).mono ?_
        rintro e W1 ⟨⟨bb, rfl⟩, hb1⟩
        have HBR1 := mkH (HBR.out.trans (hb1.mono HBR.out.size))
        obtain ⟨-, hc0⟩ := HCS.out W1 HBR1.out
        have a1 : W1.cell? ⟨A, 1, none⟩ = some (.int .i64 n) := by rw [cell_of_row _ _ _ _ _ _ hc0]; rfl
        have a2 : W1.cell? ⟨A, 2, none⟩ = some (.int .i64 fl) := by rw [cell_of_row _ _ _ _ _ _ hc0]; rfl
        have HP := mkH (HP0.out.below hb1)
        clear hb1 hc0 HP0 HBR a3 hp
        go_wp2_with fail
        refine (sync_un W1 p HP.out).mono ?_
        rintro e u1 ⟨rfl, hu1⟩
        have hu1' := hu1.symm
        subst hu1'
        clear hu1
        go_wp2_with fail
        refine (drop_un W1 p HP.out _).mono ?_
        rintro e u1 ⟨rfl, hu1⟩
        have hu1' := hu1.symm
        subst hu1'
        clear hu1
        go_wp2_with fail
        refine (crash_un W1 p HP.out _ _).mono ?_
        rintro e u1 ⟨rfl, hu1⟩
        have hu1' := hu1.symm
        subst hu1'
        clear hu1
        go_wp2_with fail
        refine (restart_un W1 p HP.out).mono ?_
        rintro e u1 ⟨rfl, hu1⟩
        have hu1' := hu1.symm
        subst hu1'
        clear hu1
        go_wp2_with fail
        refine (base_un W1 p HP.out).mono ?_
        rintro e u1 ⟨rfl, hu1⟩
        have hu1' := hu1.symm
        subst hu1'
        clear hu1
        go_wp2_with fail
        refine (len_un W1 p HP.out).mono ?_
        rintro e u1 ⟨rfl, hu1⟩
        have hu1' := hu1.symm
        subst hu1'
        clear hu1
        go_wp2_with fail
        refine (safe_un W1 p HP.out).mono ?_
        rintro e u1 ⟨rfl, hu1⟩
        have hu1' := hu1.symm
        subst hu1'
        clear hu1
        go_wp2_with fail
        refine (down_un W1 p HP.out).mono ?_
        rintro e u1 ⟨rfl, hu1⟩
        have hu1' := hu1.symm
        subst hu1'
        clear hu1
        go_wp2_with fail
        refine (segments_un W1 p HP.out).mono ?_
        rintro e u1 ⟨rfl, hu1⟩
        have hu1' := hu1.symm
        subst hu1'
        clear hu1
        go_wp2_with fail
        refine (copy_un W1 p HP.out).mono ?_
        rintro e u1 ⟨rfl, hu1⟩
        have hu1' := hu1.symm
        subst hu1'
        clear hu1
        go_wp2_with fail
        exact ⟨⟨j + 1, by omega, by go_num, HBR1.out⟩, by simp [intOf]; omega⟩
  · by_cases hp1 : 1 ≤ per
    · have hp2 : ¬ per ≤ 1024 := by omega
      have t1 : decide (1 ≤ per) = true := by simp; omega
      have t2 : decide (per ≤ 1024) = false := by simp; omega
      clear hp
      go_enter Tryd.func4, Tryd.ntmps4
      go_wp2_with fail
      refine (new_bad _ _ (.inr (by omega))).mono ?_
      rintro e u0 ⟨rfl, hu0⟩
      have hu0' := hu0.symm
      subst hu0'
      clear hu0
      go_wp2_with fail
      obtain ⟨A, hA⟩ : ∃ A, w.heap.size = A := ⟨_, rfl⟩
      rw [hA]
      obtain ⟨W0, hW0⟩ : ∃ W0, W0 = (((w.alloc (.cells #[.int .i64 kd, .int .i64 n, .int .i64 fl, .slice xa xl xc] 32)).alloc (.cells #[.int .i64 0, .bool false, .slice none 0 0, .int .i64 0, .int .i64 0, .int .i64 0] 57)).alloc (.cells #[.pointer none, .pointer (some ⟨A + 1, 0, none⟩), .pointer none] 23)) := ⟨_, rfl⟩
      have hbW : Below w.heap.size w W0 := by rw [hW0]; exact (((Below.refl _ w).alloc (Nat.le_refl _) _).alloc (by simp) _).alloc (by simp; omega) _
      have hh2 : W0.heap[A + 1 + 1]? = some (.cells #[.pointer none, .pointer (some ⟨A + 1, 0, none⟩), .pointer none] 23 (0, 0)) := by
        have := heap_alloc_new ((w.alloc (.cells #[.int .i64 kd, .int .i64 n, .int .i64 fl, .slice xa xl xc] 32)).alloc (.cells #[.int .i64 0, .bool false, .slice none 0 0, .int .i64 0, .int .i64 0, .int .i64 0] 57)) (.cells #[.pointer none, .pointer (some ⟨A + 1, 0, none⟩), .pointer none] 23)
        rw [← hW0, World.size_alloc, World.size_alloc, hA] at this
        exact this
      have hh1 : W0.heap[A + 1]? = some (.cells #[.int .i64 0, .bool false, .slice none 0 0, .int .i64 0, .int .i64 0, .int .i64 0] 57 (0, 0)) := by
        rw [hW0, Below.heap_alloc _ _ _ (by simp; omega)]
        have := heap_alloc_new (w.alloc (.cells #[.int .i64 kd, .int .i64 n, .int .i64 fl, .slice xa xl xc] 32)) (.cells #[.int .i64 0, .bool false, .slice none 0 0, .int .i64 0, .int .i64 0, .int .i64 0] 57)
        rw [World.size_alloc, hA] at this
        exact this
      have hh0 : W0.heap[A]? = some (.cells #[.int .i64 kd, .int .i64 n, .int .i64 fl, .slice xa xl xc] 32 (0, 0)) := by
        rw [hW0, Below.heap_alloc _ _ _ (by simp; omega), Below.heap_alloc _ _ _ (by simp; omega), ← hA]
        exact heap_alloc_new _ _
      have cd : W0.cell? ⟨A + 1, 0, none⟩ = some (.int .i64 0) := by rw [cell_of_row _ _ _ _ _ _ hh1]; rfl
      have HCS : Hid (∀ W, Below W0.heap.size W0 W → W.heap[A + 1 + 1]? = some (.cells #[.pointer none, .pointer (some ⟨A + 1, 0, none⟩), .pointer none] 23 (0, 0)) ∧ W.heap[A]? = some (.cells #[.int .i64 kd, .int .i64 n, .int .i64 fl, .slice xa xl xc] 32 (0, 0))) := fun W hb => ⟨(hb.block _ (block_lt hh2)).trans hh2, (hb.block _ (block_lt hh0)).trans hh0⟩
      rw [← hW0]
      have HB := mkH hbW
      have HUP := mkH (un_not W0 (A + 1) cd)
      have HUN := mkH (un_nil W0)
      clear hW0 hbW hh0 hh1 hh2 cd
      go_loopw [31] (fun i W => ∃ j : Nat, j ≤ 3 ∧ i = .int .i64 j ∧ Hid (Below W0.heap.size W0 W)) (fun i _ => 3 - (intOf i).toNat)
      case atStart => exact ⟨0, by omega, rfl, Below.refl _ _⟩
      case round =>
        obtain ⟨j, hj, rfl, HBR⟩ := hrel
        have HBw := mkH (HB.out.trans (HBR.out.mono HB.out.size))
        by_cases hj2 : j = 3
        · subst hj2
          go_wp2_with fail
          refine (Sw.works_any _ (HT.out.below HBw.out HT.out.size)).mono ?_
          rintro e w9 ⟨rfl, hb9⟩
          go_wp2
          go_ret
          exact ⟨rfl, HBw.out.trans (hb9.mono HBw.out.size)⟩
        · have t0 : decide ((j : Int) < 3) = true := by simp; omega
          have hj0 : (j : Int) < 3 := by omega
          obtain ⟨hc2, hc0⟩ := HCS.out wr HBR.out
          obtain ⟨p, hp, hup⟩ : ∃ p, wr.cell? ⟨A + 1 + 1, j, none⟩ = some (.pointer p) ∧ Un wr p := by
            obtain h | h | h : j = 0 ∨ j = 1 ∨ j = 2 := by omega
            · subst h; exact ⟨none, by rw [cell_of_row _ _ _ _ _ _ hc2]; rfl, HUN.out.below HBR.out⟩
            · subst h; exact ⟨_, by rw [cell_of_row _ _ _ _ _ _ hc2]; rfl, HUP.out.below HBR.out⟩
            · subst h; exact ⟨none, by rw [cell_of_row _ _ _ _ _ _ hc2]; rfl, HUN.out.below HBR.out⟩
          have a3 : wr.cell? ⟨A, 3, none⟩ = some (.slice xa xl xc) := by rw [cell_of_row _ _ _ _ _ _ hc0]; rfl
          have HP0 := mkH hup
          clear hup hc2 hc0
          go_wp2_with fail
          refine (append_un wr p HP0.out _).mono ?_
          rintro e u1 ⟨rfl, hu1⟩
          have hu1' := hu1.symm
          subst hu1'
          clear hu1
          go_wp2_with fail
          refine (all_un wr p HP0.out).mono ?_
          rintro e W1 ⟨⟨bb, rfl⟩, hb1⟩
          have HBR1 := mkH (HBR.out.trans (hb1.mono HBR.out.size))
          obtain ⟨-, hc0⟩ := HCS.out W1 HBR1.out
          have a1 : W1.cell? ⟨A, 1, none⟩ = some (.int .i64 n) := by rw [cell_of_row _ _ _ _ _ _ hc0]; rfl
          have a2 : W1.cell? ⟨A, 2, none⟩ = some (.int .i64 fl) := by rw [cell_of_row _ _ _ _ _ _ hc0]; rfl
          have HP := mkH (HP0.out.below hb1)
          clear hb1 hc0 HP0 HBR a3 hp
          go_wp2_with fail
          refine (sync_un W1 p HP.out).mono ?_
          rintro e u1 ⟨rfl, hu1⟩
          have hu1' := hu1.symm
          subst hu1'
          clear hu1
          go_wp2_with fail
          refine (drop_un W1 p HP.out _).mono ?_
          rintro e u1 ⟨rfl, hu1⟩
          have hu1' := hu1.symm
          subst hu1'
          clear hu1
          go_wp2_with fail
          refine (crash_un W1 p HP.out _ _).mono ?_
          rintro e u1 ⟨rfl, hu1⟩
          have hu1' := hu1.symm
          subst hu1'
          clear hu1
          go_wp2_with fail
          refine (restart_un W1 p HP.out).mono ?_
          rintro e u1 ⟨rfl, hu1⟩
          have hu1' := hu1.symm
          subst hu1'
          clear hu1
          go_wp2_with fail
          refine (base_un W1 p HP.out).mono ?_
          rintro e u1 ⟨rfl, hu1⟩
          have hu1' := hu1.symm
          subst hu1'
          clear hu1
          go_wp2_with fail
          refine (len_un W1 p HP.out).mono ?_
          rintro e u1 ⟨rfl, hu1⟩
          have hu1' := hu1.symm
          subst hu1'
          clear hu1
          go_wp2_with fail
          refine (safe_un W1 p HP.out).mono ?_
          rintro e u1 ⟨rfl, hu1⟩
          have hu1' := hu1.symm
          subst hu1'
          clear hu1
          go_wp2_with fail
          refine (down_un W1 p HP.out).mono ?_
          rintro e u1 ⟨rfl, hu1⟩
          have hu1' := hu1.symm
          subst hu1'
          clear hu1
          go_wp2_with fail
          refine (segments_un W1 p HP.out).mono ?_
          rintro e u1 ⟨rfl, hu1⟩
          have hu1' := hu1.symm
          subst hu1'
          clear hu1
          go_wp2_with fail
          refine (copy_un W1 p HP.out).mono ?_
          rintro e u1 ⟨rfl, hu1⟩
          have hu1' := hu1.symm
          subst hu1'
          clear hu1
          go_wp2_with fail
          exact ⟨⟨j + 1, by omega, by go_num, HBR1.out⟩, by simp [intOf]; omega⟩
    · have t1 : decide (1 ≤ per) = false := by simp; omega
      clear hp
      go_enter Tryd.func4, Tryd.ntmps4
      go_wp2_with fail
      refine (new_bad _ _ (.inl (by omega))).mono ?_
      rintro e u0 ⟨rfl, hu0⟩
      have hu0' := hu0.symm
      subst hu0'
      clear hu0
      go_wp2_with fail
      obtain ⟨A, hA⟩ : ∃ A, w.heap.size = A := ⟨_, rfl⟩
      rw [hA]
      obtain ⟨W0, hW0⟩ : ∃ W0, W0 = (((w.alloc (.cells #[.int .i64 kd, .int .i64 n, .int .i64 fl, .slice xa xl xc] 32)).alloc (.cells #[.int .i64 0, .bool false, .slice none 0 0, .int .i64 0, .int .i64 0, .int .i64 0] 57)).alloc (.cells #[.pointer none, .pointer (some ⟨A + 1, 0, none⟩), .pointer none] 23)) := ⟨_, rfl⟩
      have hbW : Below w.heap.size w W0 := by rw [hW0]; exact (((Below.refl _ w).alloc (Nat.le_refl _) _).alloc (by simp) _).alloc (by simp; omega) _
      have hh2 : W0.heap[A + 1 + 1]? = some (.cells #[.pointer none, .pointer (some ⟨A + 1, 0, none⟩), .pointer none] 23 (0, 0)) := by
        have := heap_alloc_new ((w.alloc (.cells #[.int .i64 kd, .int .i64 n, .int .i64 fl, .slice xa xl xc] 32)).alloc (.cells #[.int .i64 0, .bool false, .slice none 0 0, .int .i64 0, .int .i64 0, .int .i64 0] 57)) (.cells #[.pointer none, .pointer (some ⟨A + 1, 0, none⟩), .pointer none] 23)
        rw [← hW0, World.size_alloc, World.size_alloc, hA] at this
        exact this
      have hh1 : W0.heap[A + 1]? = some (.cells #[.int .i64 0, .bool false, .slice none 0 0, .int .i64 0, .int .i64 0, .int .i64 0] 57 (0, 0)) := by
        rw [hW0, Below.heap_alloc _ _ _ (by simp; omega)]
        have := heap_alloc_new (w.alloc (.cells #[.int .i64 kd, .int .i64 n, .int .i64 fl, .slice xa xl xc] 32)) (.cells #[.int .i64 0, .bool false, .slice none 0 0, .int .i64 0, .int .i64 0, .int .i64 0] 57)
        rw [World.size_alloc, hA] at this
        exact this
      have hh0 : W0.heap[A]? = some (.cells #[.int .i64 kd, .int .i64 n, .int .i64 fl, .slice xa xl xc] 32 (0, 0)) := by
        rw [hW0, Below.heap_alloc _ _ _ (by simp; omega), Below.heap_alloc _ _ _ (by simp; omega), ← hA]
        exact heap_alloc_new _ _
      have cd : W0.cell? ⟨A + 1, 0, none⟩ = some (.int .i64 0) := by rw [cell_of_row _ _ _ _ _ _ hh1]; rfl
      have HCS : Hid (∀ W, Below W0.heap.size W0 W → W.heap[A + 1 + 1]? = some (.cells #[.pointer none, .pointer (some ⟨A + 1, 0, none⟩), .pointer none] 23 (0, 0)) ∧ W.heap[A]? = some (.cells #[.int .i64 kd, .int .i64 n, .int .i64 fl, .slice xa xl xc] 32 (0, 0))) := fun W hb => ⟨(hb.block _ (block_lt hh2)).trans hh2, (hb.block _ (block_lt hh0)).trans hh0⟩
      rw [← hW0]
      have HB := mkH hbW
      have HUP := mkH (un_not W0 (A + 1) cd)
      have HUN := mkH (un_nil W0)
      clear hW0 hbW hh0 hh1 hh2 cd
      go_loopw [31] (fun i W => ∃ j : Nat, j ≤ 3 ∧ i = .int .i64 j ∧ Hid (Below W0.heap.size W0 W)) (fun i _ => 3 - (intOf i).toNat)
      case atStart => exact ⟨0, by omega, rfl, Below.refl _ _⟩
      case round =>
        obtain ⟨j, hj, rfl, HBR⟩ := hrel
        have HBw := mkH (HB.out.trans (HBR.out.mono HB.out.size))
        by_cases hj2 : j = 3
        · subst hj2
          go_wp2_with fail
          refine (Sw.works_any _ (HT.out.below HBw.out HT.out.size)).mono ?_
          rintro e w9 ⟨rfl, hb9⟩
          go_wp2
          go_ret
          exact ⟨rfl, HBw.out.trans (hb9.mono HBw.out.size)⟩
        · have t0 : decide ((j : Int) < 3) = true := by simp; omega
          have hj0 : (j : Int) < 3 := by omega
          obtain ⟨hc2, hc0⟩ := HCS.out wr HBR.out
          obtain ⟨p, hp, hup⟩ : ∃ p, wr.cell? ⟨A + 1 + 1, j, none⟩ = some (.pointer p) ∧ Un wr p := by
            obtain h | h | h : j = 0 ∨ j = 1 ∨ j = 2 := by omega
            · subst h; exact ⟨none, by rw [cell_of_row _ _ _ _ _ _ hc2]; rfl, HUN.out.below HBR.out⟩
            · subst h; exact ⟨_, by rw [cell_of_row _ _ _ _ _ _ hc2]; rfl, HUP.out.below HBR.out⟩
            · subst h; exact ⟨none, by rw [cell_of_row _ _ _ _ _ _ hc2]; rfl, HUN.out.below HBR.out⟩
          have a3 : wr.cell? ⟨A, 3, none⟩ = some (.slice xa xl xc) := by rw [cell_of_row _ _ _ _ _ _ hc0]; rfl
          have HP0 := mkH hup
          clear hup hc2 hc0
          go_wp2_with fail
          refine (append_un wr p HP0.out _).mono ?_
          rintro e u1 ⟨rfl, hu1⟩
          have hu1' := hu1.symm
          subst hu1'
          clear hu1
          go_wp2_with fail
          refine (all_un wr p HP0.out).mono ?_
          rintro e W1 ⟨⟨bb, rfl⟩, hb1⟩
          have HBR1 := mkH (HBR.out.trans (hb1.mono HBR.out.size))
          obtain ⟨-, hc0⟩ := HCS.out W1 HBR1.out
          have a1 : W1.cell? ⟨A, 1, none⟩ = some (.int .i64 n) := by rw [cell_of_row _ _ _ _ _ _ hc0]; rfl
          have a2 : W1.cell? ⟨A, 2, none⟩ = some (.int .i64 fl) := by rw [cell_of_row _ _ _ _ _ _ hc0]; rfl
          have HP := mkH (HP0.out.below hb1)
          clear hb1 hc0 HP0 HBR a3 hp
          go_wp2_with fail
          refine (sync_un W1 p HP.out).mono ?_
          rintro e u1 ⟨rfl, hu1⟩
          have hu1' := hu1.symm
          subst hu1'
          clear hu1
          go_wp2_with fail
          refine (drop_un W1 p HP.out _).mono ?_
          rintro e u1 ⟨rfl, hu1⟩
          have hu1' := hu1.symm
          subst hu1'
          clear hu1
          go_wp2_with fail
          refine (crash_un W1 p HP.out _ _).mono ?_
          rintro e u1 ⟨rfl, hu1⟩
          have hu1' := hu1.symm
          subst hu1'
          clear hu1
          go_wp2_with fail
          refine (restart_un W1 p HP.out).mono ?_
          rintro e u1 ⟨rfl, hu1⟩
          have hu1' := hu1.symm
          subst hu1'
          clear hu1
          go_wp2_with fail
          refine (base_un W1 p HP.out).mono ?_
          rintro e u1 ⟨rfl, hu1⟩
          have hu1' := hu1.symm
          subst hu1'
          clear hu1
          go_wp2_with fail
          refine (len_un W1 p HP.out).mono ?_
          rintro e u1 ⟨rfl, hu1⟩
          have hu1' := hu1.symm
          subst hu1'
          clear hu1
          go_wp2_with fail
          refine (safe_un W1 p HP.out).mono ?_
          rintro e u1 ⟨rfl, hu1⟩
          have hu1' := hu1.symm
          subst hu1'
          clear hu1
          go_wp2_with fail
          refine (down_un W1 p HP.out).mono ?_
          rintro e u1 ⟨rfl, hu1⟩
          have hu1' := hu1.symm
          subst hu1'
          clear hu1
          go_wp2_with fail
          refine (segments_un W1 p HP.out).mono ?_
          rintro e u1 ⟨rfl, hu1⟩
          have hu1' := hu1.symm
          subst hu1'
          clear hu1
          go_wp2_with fail
          refine (copy_un W1 p HP.out).mono ?_
          rintro e u1 ⟨rfl, hu1⟩
          have hu1' := hu1.symm
          subst hu1'
          clear hu1
          go_wp2_with fail
          exact ⟨⟨j + 1, by omega, by go_num, HBR1.out⟩, by simp [intOf]; omega⟩
end Go.Proofs.YtjfbhchpgmimfaaDoor.Sno
