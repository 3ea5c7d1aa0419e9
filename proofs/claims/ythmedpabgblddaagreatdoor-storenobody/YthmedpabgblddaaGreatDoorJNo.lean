/-
  Stores that New did not make: each call.
  StoreNobody.
-/
import Derived.Test.YthmedpabgblddaaGreatDoorJnB
import Derived.Test.YthmedpabgblddaaGreatDoorJnD
namespace Go.Proofs.YthmedpabgblddaaGreatDoor.Tu
open Go.RowKit Kt Dk Dp Da Dc De Tp Tm Pl Cs Cf Cn Cv Sq Sr Sa Sb Sc Se St Sv Rd Wr Ta Tb0 Tc Td Te Tf Tg Tt Th Ti Tj Tk Tl Tn Go.Maps
set_option linter.unusedVariables false
set_option maxRecDepth 20000
attribute [local go_sem] Oper.semAt_some

/-- A store that New did not make. -/
def Un (w : World) (o : Option Addr) : Prop := o = none ∨ ∃ S, o = some ⟨S, 0, none⟩ ∧ w.cell? ⟨S, 1, none⟩ = some (.pointer none)
theorem Un.below {w w' : World} {o : Option Addr} (h : Un w o) (hb : Below w.heap.size w w') : Un w' o := by
  rcases h with h | ⟨S, h, hc⟩
  · exact .inl h
  · exact .inr ⟨S, h, (hb.cell (p := ⟨S, 1, none⟩) (World.block_lt_of_cell? w _ hc)).trans hc⟩
theorem isMade_un {w : World} {o : Option Addr} (h : Un w o) : Calls Tryz.prog 29 #[.pointer o] w fun e w' => e = .returned (.bool false) ∧ w' = w := by
  rcases h with rfl | ⟨S, rfl, hc⟩
  · exact isMade_nil w
  · exact isMade_not w S hc
theorem trouble_un {w : World} {o : Option Addr} (h : Un w o) : Calls Tryz.prog 30 #[.pointer o] w fun e w' => e = .returned (.int .i64 1) ∧ w' = w := by
  have hm := isMade_un h
  clear h
  go_enter Tryz.func30, Tryz.ntmps30
  go_wp2_with fail
  refine hm.mono ?_
  rintro e w1 ⟨rfl, hw⟩
  have hw2 := hw.symm
  subst hw2
  clear hw hm
  go_wp2
  go_ret
  exact ⟨rfl, rfl⟩

theorem Promise_un {w : World} {o : Option Addr} (h : Un w o) (x : Int) : Calls Tryz.prog 10 #[.pointer o, .int .i64 x] w fun e w' => e = .returned (.int .i64 1) ∧ w' = w := by
  have hm := trouble_un h
  clear h
  go_enter Tryz.func10, Tryz.ntmps10
  go_wp2_with fail
  refine hm.mono ?_
  rintro e w1 ⟨rfl, hw⟩
  have hw2 := hw.symm
  subst hw2
  clear hw hm
  go_wp2
  go_ret
  exact ⟨rfl, rfl⟩

theorem Forget_un {w : World} {o : Option Addr} (h : Un w o) (x : Int) : Calls Tryz.prog 13 #[.pointer o, .int .i64 x] w fun e w' => e = .returned (.int .i64 1) ∧ w' = w := by
  have hm := trouble_un h
  clear h
  go_enter Tryz.func13, Tryz.ntmps13
  go_wp2_with fail
  refine hm.mono ?_
  rintro e w1 ⟨rfl, hw⟩
  have hw2 := hw.symm
  subst hw2
  clear hw hm
  go_wp2
  go_ret
  exact ⟨rfl, rfl⟩

theorem Accept_un {w : World} {o : Option Addr} (h : Un w o) (x y : Int) (va : Option Addr) (vl vc : Nat) : Calls Tryz.prog 11 #[.pointer o, .int .i64 x, .int .i64 y, .slice va vl vc] w fun e w' => e = .returned (.int .i64 1) ∧ w' = w := by
  have hm := trouble_un h
  clear h
  go_enter Tryz.func11, Tryz.ntmps11
  go_wp2_with fail
  refine hm.mono ?_
  rintro e w1 ⟨rfl, hw⟩
  have hw2 := hw.symm
  subst hw2
  clear hw hm
  go_wp2
  go_ret
  exact ⟨rfl, rfl⟩

theorem Sync_un {w : World} {o : Option Addr} (h : Un w o) : Calls Tryz.prog 12 #[.pointer o] w fun e w' => e = .returned (.int .i64 1) ∧ w' = w := by
  have hm := isMade_un h
  clear h
  go_enter Tryz.func12, Tryz.ntmps12
  go_wp2_with fail
  refine hm.mono ?_
  rintro e w1 ⟨rfl, hw⟩
  have hw2 := hw.symm
  subst hw2
  clear hw hm
  go_wp2
  go_ret
  exact ⟨rfl, rfl⟩

theorem Base_un {w : World} {o : Option Addr} (h : Un w o) : Calls Tryz.prog 14 #[.pointer o] w fun e w' => e = .returned (.int .i64 0) ∧ w' = w := by
  have hm := isMade_un h
  clear h
  go_enter Tryz.func14, Tryz.ntmps14
  go_wp2_with fail
  refine hm.mono ?_
  rintro e w1 ⟨rfl, hw⟩
  have hw2 := hw.symm
  subst hw2
  clear hw hm
  go_wp2
  go_ret
  exact ⟨rfl, rfl⟩

theorem Promised_un {w : World} {o : Option Addr} (h : Un w o) : Calls Tryz.prog 18 #[.pointer o] w fun e w' => e = .returned (.int .i64 0) ∧ w' = w := by
  have hm := isMade_un h
  clear h
  go_enter Tryz.func18, Tryz.ntmps18
  go_wp2_with fail
  refine hm.mono ?_
  rintro e w1 ⟨rfl, hw⟩
  have hw2 := hw.symm
  subst hw2
  clear hw hm
  go_wp2
  go_ret
  exact ⟨rfl, rfl⟩

theorem Slots_un {w : World} {o : Option Addr} (h : Un w o) : Calls Tryz.prog 19 #[.pointer o] w fun e w' => e = .returned (.int .i64 0) ∧ w' = w := by
  have hm := isMade_un h
  clear h
  go_enter Tryz.func19, Tryz.ntmps19
  go_wp2_with fail
  refine hm.mono ?_
  rintro e w1 ⟨rfl, hw⟩
  have hw2 := hw.symm
  subst hw2
  clear hw hm
  go_wp2
  go_ret
  exact ⟨rfl, rfl⟩

theorem Down_un {w : World} {o : Option Addr} (h : Un w o) : Calls Tryz.prog 20 #[.pointer o] w fun e w' => e = .returned (.bool true) ∧ w' = w := by
  have hm := isMade_un h
  clear h
  go_enter Tryz.func20, Tryz.ntmps20
  go_wp2_with fail
  refine hm.mono ?_
  rintro e w1 ⟨rfl, hw⟩
  have hw2 := hw.symm
  subst hw2
  clear hw hm
  go_wp2
  go_ret
  exact ⟨rfl, rfl⟩

theorem Log_un {w : World} {o : Option Addr} (h : Un w o) : Calls Tryz.prog 21 #[.pointer o] w fun e w' => e = .returned (.pointer none) ∧ w' = w := by
  have hm := isMade_un h
  clear h
  go_enter Tryz.func21, Tryz.ntmps21
  go_wp2_with fail
  refine hm.mono ?_
  rintro e w1 ⟨rfl, hw⟩
  have hw2 := hw.symm
  subst hw2
  clear hw hm
  go_wp2
  go_ret
  exact ⟨rfl, rfl⟩

theorem Copy_un {w : World} {o : Option Addr} (h : Un w o) : Calls Tryz.prog 22 #[.pointer o] w fun e w' => e = .returned (.pointer none) ∧ w' = w := by
  have hm := isMade_un h
  clear h
  go_enter Tryz.func22, Tryz.ntmps22
  go_wp2_with fail
  refine hm.mono ?_
  rintro e w1 ⟨rfl, hw⟩
  have hw2 := hw.symm
  subst hw2
  clear hw hm
  go_wp2
  go_ret
  exact ⟨rfl, rfl⟩

theorem Crash_un {w : World} {o : Option Addr} (h : Un w o) (x y : Int) : Calls Tryz.prog 16 #[.pointer o, .int .i64 x, .int .i64 y] w fun e w' => e = .returned (.int .i64 1) ∧ w' = w := by
  have hm := isMade_un h
  clear h
  go_enter Tryz.func16, Tryz.ntmps16
  go_wp2_with fail
  refine hm.mono ?_
  rintro e w1 ⟨rfl, hw⟩
  have hw2 := hw.symm
  subst hw2
  clear hw hm
  go_wp2
  go_ret
  exact ⟨rfl, rfl⟩

theorem Get_un {w : World} {o : Option Addr} (h : Un w o) (x : Int) : Calls Tryz.prog 9 #[.pointer o, .int .i64 x] w fun e w' => e = .returned (.tuple #[.int .i64 0, .slice none 0 0, .bool false]) ∧ w' = w := by
  have hm := isMade_un h
  clear h
  go_enter Tryz.func9, Tryz.ntmps9
  go_wp2_with fail
  refine hm.mono ?_
  rintro e w1 ⟨rfl, hw⟩
  have hw2 := hw.symm
  subst hw2
  clear hw hm
  go_wp2
  go_ret3
  exact ⟨rfl, rfl⟩

theorem Snapshot_un {w : World} {o : Option Addr} (h : Un w o) : Calls Tryz.prog 15 #[.pointer o] w fun e w' => e = .returned (.int .i64 1) ∧ w' = w := by
  have hm := Sync_un h
  clear h
  go_enter Tryz.func15, Tryz.ntmps15
  go_wp2_with fail
  refine hm.mono ?_
  rintro e w1 ⟨rfl, hw⟩
  have hw2 := hw.symm
  subst hw2
  clear hw hm
  go_wp2
  go_ret
  exact ⟨rfl, rfl⟩

theorem Restart_un {w : World} {o : Option Addr} (h : Un w o) : Calls Tryz.prog 17 #[.pointer o] w fun e w' => e = .returned (.int .i64 1) ∧ Below w.heap.size w w' := by
  have hb : Below w.heap.size w (w.alloc (.cells #[.pointer o] 25)) := (Below.refl _ w).alloc (Nat.le_refl _) _
  have hm := isMade_un (h.below hb)
  have cx := Cw.cell_new_at w #[.pointer o] 25 0 _ rfl
  clear h
  generalize hW : w.alloc (.cells #[.pointer o] 25) = W at *
  refine (callsIn_wide (n := 12)).1 ?_
  refine callsIn_of_wp_marks Tryz.func17 rfl trivial ?_ rfl
  simp only [Tryz.ntmps17, List.size_toArray, List.length_cons, List.length_nil, Nat.reduceAdd, Nat.reduceSub, Array.replicate_succ, Array.replicate_zero, List.push_toArray, List.append_toArray, List.nil_append, List.cons_append]
  gi_wp2_with fail
  refine ⟨trivial, (callsIn_wide.2 hm).mono ?_⟩
  rintro e w1 ⟨rfl, hw⟩
  have hw2 := hw.symm
  subst hw2
  clear hw hm
  gi_wp2
  refine ⟨_, results_tmp rfl _ _ _, rfl, hb⟩

theorem New_bad (w : World) (n : Int) (hn : n < 1 ∨ 1024 < n) : Calls Tryz.prog 8 #[.int .i64 n] w fun e w' => e = .returned (.tuple #[.pointer none, .int .i64 2]) ∧ w' = w := by
  have hb := Sa.new_bad w n hn
  go_enter Tryz.func8, Tryz.ntmps8
  go_wp2_with fail
  refine hb.mono ?_
  rintro e w1 ⟨rfl, hw⟩
  have hw2 := hw.symm
  subst hw2
  clear hw hb
  go_wp2
  go_ret2
  exact ⟨rfl, rfl⟩
end Go.Proofs.YthmedpabgblddaaGreatDoor.Tu

namespace Go.Proofs.YthmedpabgblddaaGreatDoor.Tno
open Go.RowKit Kt Dk Dp Da Dc De Tp Tm Pl Cs Cf Cn Cv Sq Sr Sa Sb Sc Se St Sv Rd Wr Ta Tb0 Tc Td Te Tf Tg Tt Th Ti Tj Tk Tl Tn To Tx Tw Ty Tu Go.Maps
set_option linter.unusedVariables false
set_option maxRecDepth 20000

set_option maxHeartbeats 4000000 in
theorem nobody_any (w : World) (hT : Tb w) (x : Ac) (hok : AcOk w x) (per : Int) (hw : (Lit.int .i64 per).wf = true) :
    Calls Tryz.prog 3 #[.agg (aC x).toArray, .int .i64 per] w fun e w' => e = .returned (.bool true) ∧ Below w.heap.size w w' := by
  obtain ⟨kd, n, sl, fl, xa, xc, xb⟩ := x
  obtain ⟨-, hxl, hxc, -⟩ := hok
  have e : (aC ⟨kd, n, sl, fl, xa, xc, xb⟩).toArray = #[.int .i64 kd, .int .i64 n, .int .i64 sl, .int .i64 fl, .slice xa xb.length xc] := rfl
  rw [e]
  clear e
  simp only at hxl hxc
  generalize xb.length = xl at *
  have HT := mkH hT
  have hbd := bounds_i64 hw
  clear hT hw
  by_cases hp : 1 ≤ per ∧ per ≤ 1024
  · obtain ⟨hp1, hp2⟩ := hp
    go_enter Tryz.func3, Tryz.ntmps3
    go_wp2_with fail
    refine (New_bad _ _ (.inl (by omega))).mono ?_
    rintro e u0 ⟨rfl, hu0⟩
    have hu0' := hu0.symm
    subst hu0'
    clear hu0
    go_wp2_with fail
    obtain ⟨A, hA⟩ : ∃ A, w.heap.size = A := ⟨_, rfl⟩
    rw [hA]
    obtain ⟨W0, hW0⟩ : ∃ W0, W0 = (((w.alloc (.cells #[.int .i64 kd, .int .i64 n, .int .i64 sl, .int .i64 fl, .slice xa xl xc] 24)).alloc (.cells #[.int .i64 0, .pointer none, .pointer none, .int .i64 0, .int .i64 0, .map none] 33)).alloc (.cells #[.pointer none, .pointer (some ⟨A + 1, 0, none⟩), .pointer none] 25)) := ⟨_, rfl⟩
    have hbW : Below w.heap.size w W0 := by rw [hW0]; exact (((Below.refl _ w).alloc (Nat.le_refl _) _).alloc (by simp) _).alloc (by simp; omega) _
    have hh2 : W0.heap[A + 1 + 1]? = some (.cells #[.pointer none, .pointer (some ⟨A + 1, 0, none⟩), .pointer none] 25 (0, 0)) := by
      have := heap_alloc_new ((w.alloc (.cells #[.int .i64 kd, .int .i64 n, .int .i64 sl, .int .i64 fl, .slice xa xl xc] 24)).alloc (.cells #[.int .i64 0, .pointer none, .pointer none, .int .i64 0, .int .i64 0, .map none] 33)) (.cells #[.pointer none, .pointer (some ⟨A + 1, 0, none⟩), .pointer none] 25)
      rw [← hW0, World.size_alloc, World.size_alloc, hA] at this
      exact this
    have hh1 : W0.heap[A + 1]? = some (.cells #[.int .i64 0, .pointer none, .pointer none, .int .i64 0, .int .i64 0, .map none] 33 (0, 0)) := by
      rw [hW0, Below.heap_alloc _ _ _ (by simp; omega)]
      have := heap_alloc_new (w.alloc (.cells #[.int .i64 kd, .int .i64 n, .int .i64 sl, .int .i64 fl, .slice xa xl xc] 24)) (.cells #[.int .i64 0, .pointer none, .pointer none, .int .i64 0, .int .i64 0, .map none] 33)
      rw [World.size_alloc, hA] at this
      exact this
    have hh0 : W0.heap[A]? = some (.cells #[.int .i64 kd, .int .i64 n, .int .i64 sl, .int .i64 fl, .slice xa xl xc] 24 (0, 0)) := by
      rw [hW0, Below.heap_alloc _ _ _ (by simp; omega), Below.heap_alloc _ _ _ (by simp; omega), ← hA]
      exact heap_alloc_new _ _
    have cd : W0.cell? ⟨A + 1, 1, none⟩ = some (.pointer none) := by rw [cell_of_row _ _ _ _ _ _ hh1]; rfl
    have HCS : Hid (∀ W, Below W0.heap.size W0 W → W.heap[A + 1 + 1]? = some (.cells #[.pointer none, .pointer (some ⟨A + 1, 0, none⟩), .pointer none] 25 (0, 0)) ∧ W.heap[A]? = some (.cells #[.int .i64 kd, .int .i64 n, .int .i64 sl, .int .i64 fl, .slice xa xl xc] 24 (0, 0))) := fun W hb => ⟨(hb.block _ (block_lt hh2)).trans hh2, (hb.block _ (block_lt hh0)).trans hh0⟩
    rw [← hW0]
    have HB := mkH hbW
    have HUP : Hid (Un W0 (some ⟨A + 1, 0, none⟩)) := .inr ⟨A + 1, rfl, cd⟩
    have HUN : Hid (Un W0 none) := .inl rfl
    clear hW0 hbW hh0 hh1 hh2 cd
    go_loopw [30] (fun i W => ∃ j : Nat, j ≤ 3 ∧ i = .int .i64 j ∧ Hid (Below W0.heap.size W0 W)) (fun i _ => 3 - (intOf i).toNat)
    case atStart => exact ⟨0, by omega, rfl, Below.refl _ _⟩
    case round =>
      obtain ⟨j, hj, rfl, HBR⟩ := hrel
      have HBw := mkH (HB.out.trans (HBR.out.mono HB.out.size))
      by_cases hj2 : j = 3
      · subst hj2
        go_wp2_with fail
        refine (works_any _ (HT.out.below HBw.out HT.out.size)).mono ?_
        rintro e w9 ⟨rfl, hb9⟩
        go_wp2
        go_ret
        exact ⟨rfl, HBw.out.trans (hb9.mono HBw.out.size)⟩
      · have t0 : decide ((j : Int) < 3) = true := by simp; omega
        have hj0 : (j : Int) < 3 := by omega
        obtain ⟨hc2, hc0⟩ := HCS.out wr HBR.out
        obtain ⟨p, hp, hup⟩ : ∃ p, wr.cell? ⟨A + 1 + 1, j, none⟩ = some (.pointer p) ∧ Un wr p := by
          obtain h | h | h : j = 0 ∨ j = 1 ∨ j = 2 := by omega
          · subst h; exact ⟨none, by rw [cell_of_row _ _ _ _ _ _ hc2]; rfl, HUN.out.below HBR.out⟩
          · subst h; exact ⟨_, by rw [cell_of_row _ _ _ _ _ _ hc2]; rfl, HUP.out.below HBR.out⟩
          · subst h; exact ⟨none, by rw [cell_of_row _ _ _ _ _ _ hc2]; rfl, HUN.out.below HBR.out⟩
        have a1 : wr.cell? ⟨A, 1, none⟩ = some (.int .i64 n) := by rw [cell_of_row _ _ _ _ _ _ hc0]; rfl
        have a2 : wr.cell? ⟨A, 2, none⟩ = some (.int .i64 sl) := by rw [cell_of_row _ _ _ _ _ _ hc0]; rfl
        have a3 : wr.cell? ⟨A, 3, none⟩ = some (.int .i64 fl) := by rw [cell_of_row _ _ _ _ _ _ hc0]; rfl
        have a4 : wr.cell? ⟨A, 4, none⟩ = some (.slice xa xl xc) := by rw [cell_of_row _ _ _ _ _ _ hc0]; rfl
        have HP := mkH hup
        clear hup hc2 hc0
        go_wp2_with fail
        refine (Get_un HP.out _).mono ?_
        rintro e u1 ⟨rfl, hu1⟩
        have hu1' := hu1.symm
        subst hu1'
        clear hu1
        go_wp2_with fail
        refine (Promise_un HP.out _).mono ?_
        rintro e u1 ⟨rfl, hu1⟩
        have hu1' := hu1.symm
        subst hu1'
        clear hu1
        go_wp2_with fail
        refine (Accept_un HP.out _ _ _ _ _).mono ?_
        rintro e u1 ⟨rfl, hu1⟩
        have hu1' := hu1.symm
        subst hu1'
        clear hu1
        go_wp2_with fail
        refine (Sync_un HP.out).mono ?_
        rintro e u1 ⟨rfl, hu1⟩
        have hu1' := hu1.symm
        subst hu1'
        clear hu1
        go_wp2_with fail
        refine (Forget_un HP.out _).mono ?_
        rintro e u1 ⟨rfl, hu1⟩
        have hu1' := hu1.symm
        subst hu1'
        clear hu1
        go_wp2_with fail
        refine (Base_un HP.out).mono ?_
        rintro e u1 ⟨rfl, hu1⟩
        have hu1' := hu1.symm
        subst hu1'
        clear hu1
        go_wp2_with fail
        refine (Snapshot_un HP.out).mono ?_
        rintro e u1 ⟨rfl, hu1⟩
        have hu1' := hu1.symm
        subst hu1'
        clear hu1
        go_wp2_with fail
        refine (Crash_un HP.out _ _).mono ?_
        rintro e u1 ⟨rfl, hu1⟩
        have hu1' := hu1.symm
        subst hu1'
        clear hu1
        go_wp2_with fail
        refine (Restart_un HP.out).mono ?_
        rintro e W1 ⟨rfl, hb1⟩
        have HBR1 := mkH (HBR.out.trans (hb1.mono HBR.out.size))
        have HPB := mkH (HP.out.below hb1)
        clear hb1 HP HBR a1 a2 a3 a4 hp
        have HP := HPB
        clear HPB
        go_wp2_with fail
        refine (Promised_un HP.out).mono ?_
        rintro e u1 ⟨rfl, hu1⟩
        have hu1' := hu1.symm
        subst hu1'
        clear hu1
        go_wp2_with fail
        refine (Slots_un HP.out).mono ?_
        rintro e u1 ⟨rfl, hu1⟩
        have hu1' := hu1.symm
        subst hu1'
        clear hu1
        go_wp2_with fail
        refine (Down_un HP.out).mono ?_
        rintro e u1 ⟨rfl, hu1⟩
        have hu1' := hu1.symm
        subst hu1'
        clear hu1
        go_wp2_with fail
        refine (Log_un HP.out).mono ?_
        rintro e u1 ⟨rfl, hu1⟩
        have hu1' := hu1.symm
        subst hu1'
        clear hu1
        go_wp2_with fail
        refine (Copy_un HP.out).mono ?_
        rintro e u1 ⟨rfl, hu1⟩
        have hu1' := hu1.symm
        subst hu1'
        clear hu1
        go_wp2_with fail
        exact ⟨⟨j + 1, by omega, by go_num, HBR1.out⟩, by simp [intOf]; omega⟩
  · by_cases hp1 : 1 ≤ per
    · have hp2 : ¬ per ≤ 1024 := by omega
      have t1 : decide (1 ≤ per) = true := by simp; omega
      have t2 : decide (per ≤ 1024) = false := by simp; omega
      clear hp
      go_enter Tryz.func3, Tryz.ntmps3
      go_wp2_with fail
      refine (New_bad _ _ (.inr (by omega))).mono ?_
      rintro e u0 ⟨rfl, hu0⟩
      have hu0' := hu0.symm
      subst hu0'
      clear hu0
      go_wp2_with fail
      obtain ⟨A, hA⟩ : ∃ A, w.heap.size = A := ⟨_, rfl⟩
      rw [hA]
      obtain ⟨W0, hW0⟩ : ∃ W0, W0 = (((w.alloc (.cells #[.int .i64 kd, .int .i64 n, .int .i64 sl, .int .i64 fl, .slice xa xl xc] 24)).alloc (.cells #[.int .i64 0, .pointer none, .pointer none, .int .i64 0, .int .i64 0, .map none] 33)).alloc (.cells #[.pointer none, .pointer (some ⟨A + 1, 0, none⟩), .pointer none] 25)) := ⟨_, rfl⟩
      have hbW : Below w.heap.size w W0 := by rw [hW0]; exact (((Below.refl _ w).alloc (Nat.le_refl _) _).alloc (by simp) _).alloc (by simp; omega) _
      have hh2 : W0.heap[A + 1 + 1]? = some (.cells #[.pointer none, .pointer (some ⟨A + 1, 0, none⟩), .pointer none] 25 (0, 0)) := by
        have := heap_alloc_new ((w.alloc (.cells #[.int .i64 kd, .int .i64 n, .int .i64 sl, .int .i64 fl, .slice xa xl xc] 24)).alloc (.cells #[.int .i64 0, .pointer none, .pointer none, .int .i64 0, .int .i64 0, .map none] 33)) (.cells #[.pointer none, .pointer (some ⟨A + 1, 0, none⟩), .pointer none] 25)
        rw [← hW0, World.size_alloc, World.size_alloc, hA] at this
        exact this
      have hh1 : W0.heap[A + 1]? = some (.cells #[.int .i64 0, .pointer none, .pointer none, .int .i64 0, .int .i64 0, .map none] 33 (0, 0)) := by
        rw [hW0, Below.heap_alloc _ _ _ (by simp; omega)]
        have := heap_alloc_new (w.alloc (.cells #[.int .i64 kd, .int .i64 n, .int .i64 sl, .int .i64 fl, .slice xa xl xc] 24)) (.cells #[.int .i64 0, .pointer none, .pointer none, .int .i64 0, .int .i64 0, .map none] 33)
        rw [World.size_alloc, hA] at this
        exact this
      have hh0 : W0.heap[A]? = some (.cells #[.int .i64 kd, .int .i64 n, .int .i64 sl, .int .i64 fl, .slice xa xl xc] 24 (0, 0)) := by
        rw [hW0, Below.heap_alloc _ _ _ (by simp; omega), Below.heap_alloc _ _ _ (by simp; omega), ← hA]
        exact heap_alloc_new _ _
      have cd : W0.cell? ⟨A + 1, 1, none⟩ = some (.pointer none) := by rw [cell_of_row _ _ _ _ _ _ hh1]; rfl
      have HCS : Hid (∀ W, Below W0.heap.size W0 W → W.heap[A + 1 + 1]? = some (.cells #[.pointer none, .pointer (some ⟨A + 1, 0, none⟩), .pointer none] 25 (0, 0)) ∧ W.heap[A]? = some (.cells #[.int .i64 kd, .int .i64 n, .int .i64 sl, .int .i64 fl, .slice xa xl xc] 24 (0, 0))) := fun W hb => ⟨(hb.block _ (block_lt hh2)).trans hh2, (hb.block _ (block_lt hh0)).trans hh0⟩
      rw [← hW0]
      have HB := mkH hbW
      have HUP : Hid (Un W0 (some ⟨A + 1, 0, none⟩)) := .inr ⟨A + 1, rfl, cd⟩
      have HUN : Hid (Un W0 none) := .inl rfl
      clear hW0 hbW hh0 hh1 hh2 cd
      go_loopw [30] (fun i W => ∃ j : Nat, j ≤ 3 ∧ i = .int .i64 j ∧ Hid (Below W0.heap.size W0 W)) (fun i _ => 3 - (intOf i).toNat)
      case atStart => exact ⟨0, by omega, rfl, Below.refl _ _⟩
      case round =>
        obtain ⟨j, hj, rfl, HBR⟩ := hrel
        have HBw := mkH (HB.out.trans (HBR.out.mono HB.out.size))
        by_cases hj2 : j = 3
        · subst hj2
          go_wp2_with fail
          refine (works_any _ (HT.out.below HBw.out HT.out.size)).mono ?_
          rintro e w9 ⟨rfl, hb9⟩
          go_wp2
          go_ret
          exact ⟨rfl, HBw.out.trans (hb9.mono HBw.out.size)⟩
        · have t0 : decide ((j : Int) < 3) = true := by simp; omega
          have hj0 : (j : Int) < 3 := by omega
          obtain ⟨hc2, hc0⟩ := HCS.out wr HBR.out
          obtain ⟨p, hp, hup⟩ : ∃ p, wr.cell? ⟨A + 1 + 1, j, none⟩ = some (.pointer p) ∧ Un wr p := by
            obtain h | h | h : j = 0 ∨ j = 1 ∨ j = 2 := by omega
            · subst h; exact ⟨none, by rw [cell_of_row _ _ _ _ _ _ hc2]; rfl, HUN.out.below HBR.out⟩
            · subst h; exact ⟨_, by rw [cell_of_row _ _ _ _ _ _ hc2]; rfl, HUP.out.below HBR.out⟩
            · subst h; exact ⟨none, by rw [cell_of_row _ _ _ _ _ _ hc2]; rfl, HUN.out.below HBR.out⟩
          have a1 : wr.cell? ⟨A, 1, none⟩ = some (.int .i64 n) := by rw [cell_of_row _ _ _ _ _ _ hc0]; rfl
          have a2 : wr.cell? ⟨A, 2, none⟩ = some (.int .i64 sl) := by rw [cell_of_row _ _ _ _ _ _ hc0]; rfl
          have a3 : wr.cell? ⟨A, 3, none⟩ = some (.int .i64 fl) := by rw [cell_of_row _ _ _ _ _ _ hc0]; rfl
          have a4 : wr.cell? ⟨A, 4, none⟩ = some (.slice xa xl xc) := by rw [cell_of_row _ _ _ _ _ _ hc0]; rfl
          have HP := mkH hup
          clear hup hc2 hc0
          go_wp2_with fail
          refine (Get_un HP.out _).mono ?_
          rintro e u1 ⟨rfl, hu1⟩
          have hu1' := hu1.symm
          subst hu1'
          clear hu1
          go_wp2_with fail
          refine (Promise_un HP.out _).mono ?_
          rintro e u1 ⟨rfl, hu1⟩
          have hu1' := hu1.symm
          subst hu1'
          clear hu1
          go_wp2_with fail
          refine (Accept_un HP.out _ _ _ _ _).mono ?_
          rintro e u1 ⟨rfl, hu1⟩
          have hu1' := hu1.symm
          subst hu1'
          clear hu1
          go_wp2_with fail
          refine (Sync_un HP.out).mono ?_
          rintro e u1 ⟨rfl, hu1⟩
          have hu1' := hu1.symm
          subst hu1'
          clear hu1
          go_wp2_with fail
          refine (Forget_un HP.out _).mono ?_
          rintro e u1 ⟨rfl, hu1⟩
          have hu1' := hu1.symm
          subst hu1'
          clear hu1
          go_wp2_with fail
          refine (Base_un HP.out).mono ?_
          rintro e u1 ⟨rfl, hu1⟩
          have hu1' := hu1.symm
          subst hu1'
          clear hu1
          go_wp2_with fail
          refine (Snapshot_un HP.out).mono ?_
          rintro e u1 ⟨rfl, hu1⟩
          have hu1' := hu1.symm
          subst hu1'
          clear hu1
          go_wp2_with fail
          refine (Crash_un HP.out _ _).mono ?_
          rintro e u1 ⟨rfl, hu1⟩
          have hu1' := hu1.symm
          subst hu1'
          clear hu1
          go_wp2_with fail
          refine (Restart_un HP.out).mono ?_
          rintro e W1 ⟨rfl, hb1⟩
          have HBR1 := mkH (HBR.out.trans (hb1.mono HBR.out.size))
          have HPB := mkH (HP.out.below hb1)
          clear hb1 HP HBR a1 a2 a3 a4 hp
          have HP := HPB
          clear HPB
          go_wp2_with fail
          refine (Promised_un HP.out).mono ?_
          rintro e u1 ⟨rfl, hu1⟩
          have hu1' := hu1.symm
          subst hu1'
          clear hu1
          go_wp2_with fail
          refine (Slots_un HP.out).mono ?_
          rintro e u1 ⟨rfl, hu1⟩
          have hu1' := hu1.symm
          subst hu1'
          clear hu1
          go_wp2_with fail
          refine (Down_un HP.out).mono ?_
          rintro e u1 ⟨rfl, hu1⟩
          have hu1' := hu1.symm
          subst hu1'
          clear hu1
          go_wp2_with fail
          refine (Log_un HP.out).mono ?_
          rintro e u1 ⟨rfl, hu1⟩
          have hu1' := hu1.symm
          subst hu1'
          clear hu1
          go_wp2_with fail
          refine (Copy_un HP.out).mono ?_
          rintro e u1 ⟨rfl, hu1⟩
          have hu1' := hu1.symm
          subst hu1'
          clear hu1
          go_wp2_with fail
          exact ⟨⟨j + 1, by omega, by go_num, HBR1.out⟩, by simp [intOf]; omega⟩
    · have t1 : decide (1 ≤ per) = false := by simp; omega
      clear hp
      go_enter Tryz.func3, Tryz.ntmps3
      go_wp2_with fail
      refine (New_bad _ _ (.inl (by omega))).mono ?_
      rintro e u0 ⟨rfl, hu0⟩
      have hu0' := hu0.symm
      subst hu0'
      clear hu0
      go_wp2_with fail
      obtain ⟨A, hA⟩ : ∃ A, w.heap.size = A := ⟨_, rfl⟩
      rw [hA]
      obtain ⟨W0, hW0⟩ : ∃ W0, W0 = (((w.alloc (.cells #[.int .i64 kd, .int .i64 n, .int .i64 sl, .int .i64 fl, .slice xa xl xc] 24)).alloc (.cells #[.int .i64 0, .pointer none, .pointer none, .int .i64 0, .int .i64 0, .map none] 33)).alloc (.cells #[.pointer none, .pointer (some ⟨A + 1, 0, none⟩), .pointer none] 25)) := ⟨_, rfl⟩
      have hbW : Below w.heap.size w W0 := by rw [hW0]; exact (((Below.refl _ w).alloc (Nat.le_refl _) _).alloc (by simp) _).alloc (by simp; omega) _
      have hh2 : W0.heap[A + 1 + 1]? = some (.cells #[.pointer none, .pointer (some ⟨A + 1, 0, none⟩), .pointer none] 25 (0, 0)) := by
        have := heap_alloc_new ((w.alloc (.cells #[.int .i64 kd, .int .i64 n, .int .i64 sl, .int .i64 fl, .slice xa xl xc] 24)).alloc (.cells #[.int .i64 0, .pointer none, .pointer none, .int .i64 0, .int .i64 0, .map none] 33)) (.cells #[.pointer none, .pointer (some ⟨A + 1, 0, none⟩), .pointer none] 25)
        rw [← hW0, World.size_alloc, World.size_alloc, hA] at this
        exact this
      have hh1 : W0.heap[A + 1]? = some (.cells #[.int .i64 0, .pointer none, .pointer none, .int .i64 0, .int .i64 0, .map none] 33 (0, 0)) := by
        rw [hW0, Below.heap_alloc _ _ _ (by simp; omega)]
        have := heap_alloc_new (w.alloc (.cells #[.int .i64 kd, .int .i64 n, .int .i64 sl, .int .i64 fl, .slice xa xl xc] 24)) (.cells #[.int .i64 0, .pointer none, .pointer none, .int .i64 0, .int .i64 0, .map none] 33)
        rw [World.size_alloc, hA] at this
        exact this
      have hh0 : W0.heap[A]? = some (.cells #[.int .i64 kd, .int .i64 n, .int .i64 sl, .int .i64 fl, .slice xa xl xc] 24 (0, 0)) := by
        rw [hW0, Below.heap_alloc _ _ _ (by simp; omega), Below.heap_alloc _ _ _ (by simp; omega), ← hA]
        exact heap_alloc_new _ _
      have cd : W0.cell? ⟨A + 1, 1, none⟩ = some (.pointer none) := by rw [cell_of_row _ _ _ _ _ _ hh1]; rfl
      have HCS : Hid (∀ W, Below W0.heap.size W0 W → W.heap[A + 1 + 1]? = some (.cells #[.pointer none, .pointer (some ⟨A + 1, 0, none⟩), .pointer none] 25 (0, 0)) ∧ W.heap[A]? = some (.cells #[.int .i64 kd, .int .i64 n, .int .i64 sl, .int .i64 fl, .slice xa xl xc] 24 (0, 0))) := fun W hb => ⟨(hb.block _ (block_lt hh2)).trans hh2, (hb.block _ (block_lt hh0)).trans hh0⟩
      rw [← hW0]
      have HB := mkH hbW
      have HUP : Hid (Un W0 (some ⟨A + 1, 0, none⟩)) := .inr ⟨A + 1, rfl, cd⟩
      have HUN : Hid (Un W0 none) := .inl rfl
      clear hW0 hbW hh0 hh1 hh2 cd
      go_loopw [30] (fun i W => ∃ j : Nat, j ≤ 3 ∧ i = .int .i64 j ∧ Hid (Below W0.heap.size W0 W)) (fun i _ => 3 - (intOf i).toNat)
      case atStart => exact ⟨0, by omega, rfl, Below.refl _ _⟩
      case round =>
        obtain ⟨j, hj, rfl, HBR⟩ := hrel
        have HBw := mkH (HB.out.trans (HBR.out.mono HB.out.size))
        by_cases hj2 : j = 3
        · subst hj2
          go_wp2_with fail
          refine (works_any _ (HT.out.below HBw.out HT.out.size)).mono ?_
          rintro e w9 ⟨rfl, hb9⟩
          go_wp2
          go_ret
          exact ⟨rfl, HBw.out.trans (hb9.mono HBw.out.size)⟩
        · have t0 : decide ((j : Int) < 3) = true := by simp; omega
          have hj0 : (j : Int) < 3 := by omega
          obtain ⟨hc2, hc0⟩ := HCS.out wr HBR.out
          obtain ⟨p, hp, hup⟩ : ∃ p, wr.cell? ⟨A + 1 + 1, j, none⟩ = some (.pointer p) ∧ Un wr p := by
            obtain h | h | h : j = 0 ∨ j = 1 ∨ j = 2 := by omega
            · subst h; exact ⟨none, by rw [cell_of_row _ _ _ _ _ _ hc2]; rfl, HUN.out.below HBR.out⟩
            · subst h; exact ⟨_, by rw [cell_of_row _ _ _ _ _ _ hc2]; rfl, HUP.out.below HBR.out⟩
            · subst h; exact ⟨none, by rw [cell_of_row _ _ _ _ _ _ hc2]; rfl, HUN.out.below HBR.out⟩
          have a1 : wr.cell? ⟨A, 1, none⟩ = some (.int .i64 n) := by rw [cell_of_row _ _ _ _ _ _ hc0]; rfl
          have a2 : wr.cell? ⟨A, 2, none⟩ = some (.int .i64 sl) := by rw [cell_of_row _ _ _ _ _ _ hc0]; rfl
          have a3 : wr.cell? ⟨A, 3, none⟩ = some (.int .i64 fl) := by rw [cell_of_row _ _ _ _ _ _ hc0]; rfl
          have a4 : wr.cell? ⟨A, 4, none⟩ = some (.slice xa xl xc) := by rw [cell_of_row _ _ _ _ _ _ hc0]; rfl
          have HP := mkH hup
          clear hup hc2 hc0
          go_wp2_with fail
          refine (Get_un HP.out _).mono ?_
          rintro e u1 ⟨rfl, hu1⟩
          have hu1' := hu1.symm
          subst hu1'
          clear hu1
          go_wp2_with fail
          refine (Promise_un HP.out _).mono ?_
          rintro e u1 ⟨rfl, hu1⟩
          have hu1' := hu1.symm
          subst hu1'
          clear hu1
          go_wp2_with fail
          refine (Accept_un HP.out _ _ _ _ _).mono ?_
          rintro e u1 ⟨rfl, hu1⟩
          have hu1' := hu1.symm
          subst hu1'
          clear hu1
          go_wp2_with fail
          refine (Sync_un HP.out).mono ?_
          rintro e u1 ⟨rfl, hu1⟩
          have hu1' := hu1.symm
          subst hu1'
          clear hu1
          go_wp2_with fail
          refine (Forget_un HP.out _).mono ?_
          rintro e u1 ⟨rfl, hu1⟩
          have hu1' := hu1.symm
          subst hu1'
          clear hu1
          go_wp2_with fail
          refine (Base_un HP.out).mono ?_
          rintro e u1 ⟨rfl, hu1⟩
          have hu1' := hu1.symm
          subst hu1'
          clear hu1
          go_wp2_with fail
          refine (Snapshot_un HP.out).mono ?_
          rintro e u1 ⟨rfl, hu1⟩
          have hu1' := hu1.symm
          subst hu1'
          clear hu1
          go_wp2_with fail
          refine (Crash_un HP.out _ _).mono ?_
          rintro e u1 ⟨rfl, hu1⟩
          have hu1' := hu1.symm
          subst hu1'
          clear hu1
          go_wp2_with fail
          refine (Restart_un HP.out).mono ?_
          rintro e W1 ⟨rfl, hb1⟩
          have HBR1 := mkH (HBR.out.trans (hb1.mono HBR.out.size))
          have HPB := mkH (HP.out.below hb1)
          clear hb1 HP HBR a1 a2 a3 a4 hp
          have HP := HPB
          clear HPB
          go_wp2_with fail
          refine (Promised_un HP.out).mono ?_
          rintro e u1 ⟨rfl, hu1⟩
          have hu1' := hu1.symm
          subst hu1'
          clear hu1
          go_wp2_with fail
          refine (Slots_un HP.out).mono ?_
          rintro e u1 ⟨rfl, hu1⟩
          have hu1' := hu1.symm
          subst hu1'
          clear hu1
          go_wp2_with fail
          refine (Down_un HP.out).mono ?_
          rintro e u1 ⟨rfl, hu1⟩
          have hu1' := hu1.symm
          subst hu1'
          clear hu1
          go_wp2_with fail
          refine (Log_un HP.out).mono ?_
          rintro e u1 ⟨rfl, hu1⟩
          have hu1' := hu1.symm
          subst hu1'
          clear hu1
          go_wp2_with fail
          refine (Copy_un HP.out).mono ?_
          rintro e u1 ⟨rfl, hu1⟩
          have hu1' := hu1.symm
          subst hu1'
          clear hu1
          go_wp2_with fail
          exact ⟨⟨j + 1, by omega, by go_num, HBR1.out⟩, by simp [intOf]; omega⟩
end Go.Proofs.YthmedpabgblddaaGreatDoor.Tno
