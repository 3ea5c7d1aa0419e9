/-
  Disks that New did not make: each call; the walk of DiskNobody.
-/
import Derived.Test.YtgdmkhmdfijieaaDiG
namespace Go.Proofs.Ytgdmkhmdfijieaa.Dno
open Go.RowKit Kt Dk Dp Da Db Dc Dd De Df Dg
set_option linter.unusedVariables false
set_option maxRecDepth 20000

/-- isMade answers no, in this world and in what it grows to. -/
def Un (w : World) (p : Option Addr) : Prop := ∀ W, Below w.heap.size w W → Calls Try.prog 24 #[.pointer p] W fun e w' => e = .returned (.bool false) ∧ w' = W
theorem Un.below {w w' : World} {p : Option Addr} (h : Un w p) (hb : Below w.heap.size w w') : Un w' p := fun W hW => h W (hb.trans (hW.mono hb.size))
theorem un_nil (w : World) : Un w none := fun W _ => isMade_nil W
theorem un_not (w : World) (b : Nat) (h : w.cell? ⟨b, 0, none⟩ = some (.bool false)) : Un w (some ⟨b, 0, none⟩) := fun W hW =>
  isMade_not W b (by rw [hW.cell (p := ⟨b, 0, none⟩) (World.block_lt_of_cell? w _ h)]; exact h)

theorem trouble_un (w : World) (p : Option Addr) (h : Un w p) : Calls Try.prog 26 #[.pointer p] w fun e w' => e = .returned (.int .i64 1) ∧ w' = w := by
  have HU := mkH (h w (Below.refl _ _))
  have HU0 := mkH h
  clear h
  go_enter Try.func26, Try.ntmps26
  go_wp2_with fail
  refine HU.out.mono ?_
  rintro e w1 ⟨rfl, hw⟩
  have hw2 := hw.symm
  subst hw2
  clear hw
  go_wp2
  go_ret
  exact ⟨rfl, rfl⟩

theorem append_un (w : World) (p : Option Addr) (h : Un w p) (v : Value) : Calls Try.prog 10 #[.pointer p, v] w fun e w' => e = .returned (.int .i64 1) ∧ w' = w := by
  have HU := mkH (h w (Below.refl _ _))
  have HU0 := mkH h
  clear h
  go_enter Try.func10, Try.ntmps10
  go_wp2_with fail
  refine (trouble_un w p HU0.out).mono ?_
  rintro e w1 ⟨rfl, hw⟩
  have hw2 := hw.symm
  subst hw2
  clear hw
  go_wp2
  go_ret
  exact ⟨rfl, rfl⟩

theorem sync_un (w : World) (p : Option Addr) (h : Un w p) : Calls Try.prog 19 #[.pointer p] w fun e w' => e = .returned (.int .i64 1) ∧ w' = w := by
  have HU := mkH (h w (Below.refl _ _))
  have HU0 := mkH h
  clear h
  go_enter Try.func19, Try.ntmps19
  go_wp2_with fail
  refine (trouble_un w p HU0.out).mono ?_
  rintro e w1 ⟨rfl, hw⟩
  have hw2 := hw.symm
  subst hw2
  clear hw
  go_wp2
  go_ret
  exact ⟨rfl, rfl⟩

theorem read_un (w : World) (p : Option Addr) (h : Un w p) : Calls Try.prog 13 #[.pointer p] w fun e w' => e = .returned (.tuple #[.slice none 0 0, .int .i64 1]) ∧ w' = w := by
  have HU := mkH (h w (Below.refl _ _))
  have HU0 := mkH h
  clear h
  go_enter Try.func13, Try.ntmps13
  go_wp2_with fail
  refine (trouble_un w p HU0.out).mono ?_
  rintro e w1 ⟨rfl, hw⟩
  have hw2 := hw.symm
  subst hw2
  clear hw
  go_wp2
  go_ret2
  exact ⟨rfl, rfl⟩

theorem cut_un (w : World) (p : Option Addr) (h : Un w p) (v : Value) : Calls Try.prog 11 #[.pointer p, v] w fun e w' => e = .returned (.int .i64 1) ∧ w' = w := by
  have HU := mkH (h w (Below.refl _ _))
  have HU0 := mkH h
  clear h
  go_enter Try.func11, Try.ntmps11
  go_wp2_with fail
  refine (trouble_un w p HU0.out).mono ?_
  rintro e w1 ⟨rfl, hw⟩
  have hw2 := hw.symm
  subst hw2
  clear hw
  go_wp2
  go_ret
  exact ⟨rfl, rfl⟩

theorem swap_un (w : World) (p : Option Addr) (h : Un w p) (v : Value) : Calls Try.prog 20 #[.pointer p, v] w fun e w' => e = .returned (.int .i64 1) ∧ w' = w := by
  have HU := mkH (h w (Below.refl _ _))
  have HU0 := mkH h
  clear h
  go_enter Try.func20, Try.ntmps20
  go_wp2_with fail
  refine (trouble_un w p HU0.out).mono ?_
  rintro e w1 ⟨rfl, hw⟩
  have hw2 := hw.symm
  subst hw2
  clear hw
  go_wp2
  go_ret
  exact ⟨rfl, rfl⟩

theorem crash_un (w : World) (p : Option Addr) (h : Un w p) (v u : Value) : Calls Try.prog 21 #[.pointer p, v, u] w fun e w' => e = .returned (.int .i64 1) ∧ w' = w := by
  have HU := mkH (h w (Below.refl _ _))
  have HU0 := mkH h
  clear h
  go_enter Try.func21, Try.ntmps21
  go_wp2_with fail
  refine (trouble_un w p HU0.out).mono ?_
  rintro e w1 ⟨rfl, hw⟩
  have hw2 := hw.symm
  subst hw2
  clear hw
  go_wp2
  go_ret
  exact ⟨rfl, rfl⟩

theorem restart_un (w : World) (p : Option Addr) (h : Un w p) : Calls Try.prog 22 #[.pointer p] w fun e w' => e = .returned (.int .i64 1) ∧ w' = w := by
  have HU := mkH (h w (Below.refl _ _))
  have HU0 := mkH h
  clear h
  go_enter Try.func22, Try.ntmps22
  go_wp2_with fail
  refine HU.out.mono ?_
  rintro e w1 ⟨rfl, hw⟩
  have hw2 := hw.symm
  subst hw2
  clear hw
  go_wp2
  go_ret
  exact ⟨rfl, rfl⟩

theorem down_un (w : World) (p : Option Addr) (h : Un w p) : Calls Try.prog 15 #[.pointer p] w fun e w' => e = .returned (.bool true) ∧ w' = w := by
  have HU := mkH (h w (Below.refl _ _))
  have HU0 := mkH h
  clear h
  go_enter Try.func15, Try.ntmps15
  go_wp2_with fail
  refine HU.out.mono ?_
  rintro e w1 ⟨rfl, hw⟩
  have hw2 := hw.symm
  subst hw2
  clear hw
  go_wp2
  go_ret
  exact ⟨rfl, rfl⟩

theorem size_un (w : World) (p : Option Addr) (h : Un w p) : Calls Try.prog 16 #[.pointer p] w fun e w' => e = .returned (.int .i64 0) ∧ w' = w := by
  have HU := mkH (h w (Below.refl _ _))
  have HU0 := mkH h
  clear h
  go_enter Try.func16, Try.ntmps16
  go_wp2_with fail
  refine HU.out.mono ?_
  rintro e w1 ⟨rfl, hw⟩
  have hw2 := hw.symm
  subst hw2
  clear hw
  go_wp2
  go_ret
  exact ⟨rfl, rfl⟩

theorem kept_un (w : World) (p : Option Addr) (h : Un w p) : Calls Try.prog 17 #[.pointer p] w fun e w' => e = .returned (.slice none 0 0) ∧ w' = w := by
  have HU := mkH (h w (Below.refl _ _))
  have HU0 := mkH h
  clear h
  go_enter Try.func17, Try.ntmps17
  go_wp2_with fail
  refine HU.out.mono ?_
  rintro e w1 ⟨rfl, hw⟩
  have hw2 := hw.symm
  subst hw2
  clear hw
  go_wp2
  go_ret
  exact ⟨rfl, rfl⟩

theorem copy_un (w : World) (p : Option Addr) (h : Un w p) : Calls Try.prog 9 #[.pointer p] w fun e w' => e = .returned (.pointer none) ∧ w' = w := by
  have HU := mkH (h w (Below.refl _ _))
  have HU0 := mkH h
  clear h
  go_enter Try.func9, Try.ntmps9
  go_wp2_with fail
  refine HU.out.mono ?_
  rintro e w1 ⟨rfl, hw⟩
  have hw2 := hw.symm
  subst hw2
  clear hw
  go_wp2
  go_ret
  exact ⟨rfl, rfl⟩

set_option maxHeartbeats 4000000 in
theorem nobody_walk (w : World) (x : Ac) (hok : AcOk w x) :
    Calls Try.prog 4 #[.agg (aC x).toArray] w fun e w' => e = .returned (.bool true) ∧ Below w.heap.size w w' := by
  obtain ⟨kd, n, fl, xa, xc, xb⟩ := x
  obtain ⟨-, hxl, hxc, -⟩ := hok
  have e : (aC ⟨kd, n, fl, xa, xc, xb⟩).toArray = #[.int .i64 kd, .int .i64 n, .int .i64 fl, .slice xa xb.length xc] := rfl
  rw [e]
  clear e
  simp only at hxl hxc
  generalize xb.length = xl at *
  go_enter Try.func4, Try.ntmps4
  go_wp2_with fail
  obtain ⟨A, hA⟩ : ∃ A, w.heap.size = A := ⟨_, rfl⟩
  rw [hA]
  obtain ⟨W0, hW0⟩ : ∃ W0, W0 = (((w.alloc (.cells #[.int .i64 kd, .int .i64 n, .int .i64 fl, .slice xa xl xc] 30)).alloc (.cells #[.bool false, .bool false, .slice none 0 0, .int .i64 0] 44)).alloc (.cells #[.pointer none, .pointer (some ⟨A + 1, 0, none⟩)] 23)) := ⟨_, rfl⟩
  have hbW : Below w.heap.size w W0 := by rw [hW0]; exact (((Below.refl _ w).alloc (Nat.le_refl _) _).alloc (by simp) _).alloc (by simp; omega) _
  have hh2 : W0.heap[A + 1 + 1]? = some (.cells #[.pointer none, .pointer (some ⟨A + 1, 0, none⟩)] 23 (0, 0)) := by
    have := heap_alloc_new ((w.alloc (.cells #[.int .i64 kd, .int .i64 n, .int .i64 fl, .slice xa xl xc] 30)).alloc (.cells #[.bool false, .bool false, .slice none 0 0, .int .i64 0] 44)) (.cells #[.pointer none, .pointer (some ⟨A + 1, 0, none⟩)] 23)
    rw [← hW0, World.size_alloc, World.size_alloc, hA] at this
    exact this
  have hh1 : W0.heap[A + 1]? = some (.cells #[.bool false, .bool false, .slice none 0 0, .int .i64 0] 44 (0, 0)) := by
    rw [hW0, Below.heap_alloc _ _ _ (by simp; omega)]
    have := heap_alloc_new (w.alloc (.cells #[.int .i64 kd, .int .i64 n, .int .i64 fl, .slice xa xl xc] 30)) (.cells #[.bool false, .bool false, .slice none 0 0, .int .i64 0] 44)
    rw [World.size_alloc, hA] at this
    exact this
  have hh0 : W0.heap[A]? = some (.cells #[.int .i64 kd, .int .i64 n, .int .i64 fl, .slice xa xl xc] 30 (0, 0)) := by
    rw [hW0, Below.heap_alloc _ _ _ (by simp; omega), Below.heap_alloc _ _ _ (by simp; omega), ← hA]
    exact heap_alloc_new _ _
  have cn : W0.cell? ⟨A + 1 + 1, 0, none⟩ = some (.pointer none) := by rw [cell_of_row _ _ _ _ _ _ hh2]; rfl
  have cp : W0.cell? ⟨A + 1 + 1, 1, none⟩ = some (.pointer (some ⟨A + 1, 0, none⟩)) := by rw [cell_of_row _ _ _ _ _ _ hh2]; rfl
  have cd : W0.cell? ⟨A + 1, 0, none⟩ = some (.bool false) := by rw [cell_of_row _ _ _ _ _ _ hh1]; rfl
  have a1 : W0.cell? ⟨A, 1, none⟩ = some (.int .i64 n) := by rw [cell_of_row _ _ _ _ _ _ hh0]; rfl
  have a2 : W0.cell? ⟨A, 2, none⟩ = some (.int .i64 fl) := by rw [cell_of_row _ _ _ _ _ _ hh0]; rfl
  have a3 : W0.cell? ⟨A, 3, none⟩ = some (.slice xa xl xc) := by rw [cell_of_row _ _ _ _ _ _ hh0]; rfl
  rw [← hW0]
  have HB := mkH hbW
  have HUP := mkH (un_not W0 (A + 1) cd)
  have HUN := mkH (un_nil W0)
  clear hW0 hbW hh0 hh1 hh2 hA cd
  go_loopw [11] (fun i W => ∃ j : Nat, j ≤ 2 ∧ i = .int .i64 j ∧ W0 = W) (fun i _ => 2 - (intOf i).toNat)
  case atStart => exact ⟨0, by omega, rfl, rfl⟩
  case round =>
    obtain ⟨j, hj, rfl, hw⟩ := hrel
    subst hw
    by_cases hj2 : j = 2
    · subst hj2
      clear cn cp a1 a2 a3
      go_wp2_with fail
      refine (works_any W0).mono ?_
      rintro e w9 ⟨rfl, hb9⟩
      go_wp2
      go_ret
      exact ⟨rfl, HB.out.trans (hb9.mono HB.out.size)⟩
    · have t0 : decide ((j : Int) < 2) = true := by simp; omega
      have hj0 : (j : Int) < 2 := by omega
      obtain ⟨p, hp, hup⟩ : ∃ p, W0.cell? ⟨A + 1 + 1, j, none⟩ = some (.pointer p) ∧ Un W0 p := by
        obtain h | h : j = 0 ∨ j = 1 := by omega
        · subst h; exact ⟨none, cn, HUN.out⟩
        · subst h; exact ⟨_, cp, HUP.out⟩
      have HP := mkH hup
      clear hup cn cp
      go_wp2_with fail
      refine (read_un W0 p HP.out).mono ?_
      rintro e u1 ⟨rfl, hu1⟩
      have hu1' := hu1.symm
      subst hu1'
      clear hu1
      go_wp2_with fail
      refine (append_un W0 p HP.out _).mono ?_
      rintro e u1 ⟨rfl, hu1⟩
      have hu1' := hu1.symm
      subst hu1'
      clear hu1
      go_wp2_with fail
      refine (sync_un W0 p HP.out).mono ?_
      rintro e u1 ⟨rfl, hu1⟩
      have hu1' := hu1.symm
      subst hu1'
      clear hu1
      go_wp2_with fail
      refine (cut_un W0 p HP.out _).mono ?_
      rintro e u1 ⟨rfl, hu1⟩
      have hu1' := hu1.symm
      subst hu1'
      clear hu1
      go_wp2_with fail
      refine (swap_un W0 p HP.out _).mono ?_
      rintro e u1 ⟨rfl, hu1⟩
      have hu1' := hu1.symm
      subst hu1'
      clear hu1
      go_wp2_with fail
      refine (crash_un W0 p HP.out _ _).mono ?_
      rintro e u1 ⟨rfl, hu1⟩
      have hu1' := hu1.symm
      subst hu1'
      clear hu1
      go_wp2_with fail
      refine (restart_un W0 p HP.out).mono ?_
      rintro e u1 ⟨rfl, hu1⟩
      have hu1' := hu1.symm
      subst hu1'
      clear hu1
      go_wp2_with fail
      refine (down_un W0 p HP.out).mono ?_
      rintro e u1 ⟨rfl, hu1⟩
      have hu1' := hu1.symm
      subst hu1'
      clear hu1
      go_wp2_with fail
      refine (size_un W0 p HP.out).mono ?_
      rintro e u1 ⟨rfl, hu1⟩
      have hu1' := hu1.symm
      subst hu1'
      clear hu1
      go_wp2_with fail
      refine (kept_un W0 p HP.out).mono ?_
      rintro e u1 ⟨rfl, hu1⟩
      have hu1' := hu1.symm
      subst hu1'
      clear hu1
      go_wp2_with fail
      refine (copy_un W0 p HP.out).mono ?_
      rintro e u1 ⟨rfl, hu1⟩
      have hu1' := hu1.symm
      subst hu1'
      clear hu1
      go_wp2_with fail
      refine ⟨⟨j + 1, by omega, by go_num, trivial⟩, by simp [intOf]; omega⟩
end Go.Proofs.Ytgdmkhmdfijieaa.Dno
