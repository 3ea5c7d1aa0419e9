/-
  Logs that New did not make: each call.
-/
import Derived.Test.YtjfbhchpgmimfaaDoorSgX
namespace Go.Proofs.YtjfbhchpgmimfaaDoor.Sun
open Go.RowKit Kt Cs Cf Cv Ck Ca Dk Dp Da Db Dc Dd De Sq Sr Sa Sb Sc Se Sf Sk Sl Sm St Su Sv Pl Sx
set_option linter.unusedVariables false
set_option maxRecDepth 20000

/-- isMade answers no, in this world and in what it grows to. -/
def Un (w : World) (p : Option Addr) : Prop := ∀ W, Below w.heap.size w W → Calls Tryd.prog 33 #[.pointer p] W fun e w' => e = .returned (.bool false) ∧ w' = W
theorem Un.below {w w' : World} {p : Option Addr} (h : Un w p) (hb : Below w.heap.size w w') : Un w' p := fun W hW => h W (hb.trans (hW.mono hb.size))
theorem un_nil (w : World) : Un w none := fun W _ => isMade_nil W
theorem un_not (w : World) (b : Nat) (h : w.cell? ⟨b, 0, none⟩ = some (.int .i64 0)) : Un w (some ⟨b, 0, none⟩) := fun W hW =>
  isMade_not W b (by rw [hW.cell (p := ⟨b, 0, none⟩) (World.block_lt_of_cell? w _ h)]; exact h)

theorem trouble_un (w : World) (p : Option Addr) (h : Un w p) : Calls Tryd.prog 34 #[.pointer p] w fun e w' => e = .returned (.int .i64 1) ∧ w' = w := by
  have HU := mkH (h w (Below.refl _ _))
  have HU0 := mkH h
  clear h
  go_enter Tryd.func34, Tryd.ntmps34
  go_wp2_with fail
  refine HU.out.mono ?_
  rintro e w1 ⟨rfl, hw⟩
  have hw2 := hw.symm
  subst hw2
  clear hw
  go_wp2
  go_ret
  exact ⟨rfl, rfl⟩

theorem append_un (w : World) (p : Option Addr) (h : Un w p) (v : Value) : Calls Tryd.prog 12 #[.pointer p, v] w fun e w' => e = .returned (.tuple #[.int .i64 0, .int .i64 1]) ∧ w' = w := by
  have HU := mkH (h w (Below.refl _ _))
  have HU0 := mkH h
  clear h
  go_enter Tryd.func12, Tryd.ntmps12
  go_wp2_with fail
  refine (trouble_un w p HU0.out).mono ?_
  rintro e w1 ⟨rfl, hw⟩
  have hw2 := hw.symm
  subst hw2
  clear hw
  go_wp2
  go_ret2
  exact ⟨rfl, rfl⟩

theorem sync_un (w : World) (p : Option Addr) (h : Un w p) : Calls Tryd.prog 29 #[.pointer p] w fun e w' => e = .returned (.int .i64 1) ∧ w' = w := by
  have HU := mkH (h w (Below.refl _ _))
  have HU0 := mkH h
  clear h
  go_enter Tryd.func29, Tryd.ntmps29
  go_wp2_with fail
  refine (trouble_un w p HU0.out).mono ?_
  rintro e w1 ⟨rfl, hw⟩
  have hw2 := hw.symm
  subst hw2
  clear hw
  go_wp2
  go_ret
  exact ⟨rfl, rfl⟩

theorem drop_un (w : World) (p : Option Addr) (h : Un w p) (v : Value) : Calls Tryd.prog 30 #[.pointer p, v] w fun e w' => e = .returned (.int .i64 1) ∧ w' = w := by
  have HU := mkH (h w (Below.refl _ _))
  have HU0 := mkH h
  clear h
  go_enter Tryd.func30, Tryd.ntmps30
  go_wp2_with fail
  refine (trouble_un w p HU0.out).mono ?_
  rintro e w1 ⟨rfl, hw⟩
  have hw2 := hw.symm
  subst hw2
  clear hw
  go_wp2
  go_ret
  exact ⟨rfl, rfl⟩

theorem crash_un (w : World) (p : Option Addr) (h : Un w p) (v u : Value) : Calls Tryd.prog 13 #[.pointer p, v, u] w fun e w' => e = .returned (.int .i64 1) ∧ w' = w := by
  have HU := mkH (h w (Below.refl _ _))
  have HU0 := mkH h
  clear h
  go_enter Tryd.func13, Tryd.ntmps13
  go_wp2_with fail
  refine (trouble_un w p HU0.out).mono ?_
  rintro e w1 ⟨rfl, hw⟩
  have hw2 := hw.symm
  subst hw2
  clear hw
  go_wp2
  go_ret
  exact ⟨rfl, rfl⟩

theorem restart_un (w : World) (p : Option Addr) (h : Un w p) : Calls Tryd.prog 31 #[.pointer p] w fun e w' => e = .returned (.int .i64 1) ∧ w' = w := by
  have HU := mkH (h w (Below.refl _ _))
  have HU0 := mkH h
  clear h
  go_enter Tryd.func31, Tryd.ntmps31
  go_wp2_with fail
  refine HU.out.mono ?_
  rintro e w1 ⟨rfl, hw⟩
  have hw2 := hw.symm
  subst hw2
  clear hw
  go_wp2
  go_ret
  exact ⟨rfl, rfl⟩

theorem base_un (w : World) (p : Option Addr) (h : Un w p) : Calls Tryd.prog 19 #[.pointer p] w fun e w' => e = .returned (.int .i64 0) ∧ w' = w := by
  have HU := mkH (h w (Below.refl _ _))
  have HU0 := mkH h
  clear h
  go_enter Tryd.func19, Tryd.ntmps19
  go_wp2_with fail
  refine HU.out.mono ?_
  rintro e w1 ⟨rfl, hw⟩
  have hw2 := hw.symm
  subst hw2
  clear hw
  go_wp2
  go_ret
  exact ⟨rfl, rfl⟩

theorem len_un (w : World) (p : Option Addr) (h : Un w p) : Calls Tryd.prog 21 #[.pointer p] w fun e w' => e = .returned (.int .i64 0) ∧ w' = w := by
  have HU := mkH (h w (Below.refl _ _))
  have HU0 := mkH h
  clear h
  go_enter Tryd.func21, Tryd.ntmps21
  go_wp2_with fail
  refine HU.out.mono ?_
  rintro e w1 ⟨rfl, hw⟩
  have hw2 := hw.symm
  subst hw2
  clear hw
  go_wp2
  go_ret
  exact ⟨rfl, rfl⟩

theorem safe_un (w : World) (p : Option Addr) (h : Un w p) : Calls Tryd.prog 23 #[.pointer p] w fun e w' => e = .returned (.int .i64 0) ∧ w' = w := by
  have HU := mkH (h w (Below.refl _ _))
  have HU0 := mkH h
  clear h
  go_enter Tryd.func23, Tryd.ntmps23
  go_wp2_with fail
  refine HU.out.mono ?_
  rintro e w1 ⟨rfl, hw⟩
  have hw2 := hw.symm
  subst hw2
  clear hw
  go_wp2
  go_ret
  exact ⟨rfl, rfl⟩

theorem down_un (w : World) (p : Option Addr) (h : Un w p) : Calls Tryd.prog 18 #[.pointer p] w fun e w' => e = .returned (.bool true) ∧ w' = w := by
  have HU := mkH (h w (Below.refl _ _))
  have HU0 := mkH h
  clear h
  go_enter Tryd.func18, Tryd.ntmps18
  go_wp2_with fail
  refine HU.out.mono ?_
  rintro e w1 ⟨rfl, hw⟩
  have hw2 := hw.symm
  subst hw2
  clear hw
  go_wp2
  go_ret
  exact ⟨rfl, rfl⟩

theorem segments_un (w : World) (p : Option Addr) (h : Un w p) : Calls Tryd.prog 25 #[.pointer p] w fun e w' => e = .returned (.slice none 0 0) ∧ w' = w := by
  have HU := mkH (h w (Below.refl _ _))
  have HU0 := mkH h
  clear h
  go_enter Tryd.func25, Tryd.ntmps25
  go_wp2_with fail
  refine HU.out.mono ?_
  rintro e w1 ⟨rfl, hw⟩
  have hw2 := hw.symm
  subst hw2
  clear hw
  go_wp2
  go_ret
  exact ⟨rfl, rfl⟩

theorem copy_un (w : World) (p : Option Addr) (h : Un w p) : Calls Tryd.prog 11 #[.pointer p] w fun e w' => e = .returned (.pointer none) ∧ w' = w := by
  have HU := mkH (h w (Below.refl _ _))
  have HU0 := mkH h
  clear h
  go_enter Tryd.func11, Tryd.ntmps11
  go_wp2_with fail
  refine HU.out.mono ?_
  rintro e w1 ⟨rfl, hw⟩
  have hw2 := hw.symm
  subst hw2
  clear hw
  go_wp2
  go_ret
  exact ⟨rfl, rfl⟩

theorem read_un (w : World) (p : Option Addr) (h : Un w p) : Calls Tryd.prog 70 #[.pointer p] w fun e w' => e = .returned (.slice none 0 0) ∧ w' = w := by
  have HU := mkH (h w (Below.refl _ _))
  have HU0 := mkH h
  clear h
  go_enter Tryd.func70, Tryd.ntmps70
  go_wp2_with fail
  refine (trouble_un w p HU0.out).mono ?_
  rintro e w1 ⟨rfl, hw⟩
  have hw2 := hw.symm
  subst hw2
  clear hw
  go_wp2
  go_ret
  exact ⟨rfl, rfl⟩

set_option maxHeartbeats 1000000 in
theorem records_un (w : World) (p : Option Addr) (h : Un w p) :
    Calls Tryd.prog 43 #[.pointer p] w fun e w' => ∃ Bb Ba, e = .returned (.func (.func 71) #[] #[.pointer (some ⟨Bb, 0, none⟩), .pointer (some ⟨Ba, 0, none⟩)]) ∧
      w'.cell? ⟨Bb, 0, none⟩ = some (.int .i64 0) ∧ w'.cell? ⟨Ba, 0, none⟩ = some (.slice none 0 0) ∧ Below w.heap.size w w' := by
  have HU := mkH h
  clear h
  go_enter Tryd.func43, Tryd.ntmps43
  go_wp2_with fail
  refine (base_un w p HU.out).mono ?_
  rintro e w1 ⟨rfl, hw⟩
  have hw2 := hw.symm
  subst hw2
  clear hw
  go_wp2_with fail
  refine (read_un w p HU.out).mono ?_
  rintro e w1 ⟨rfl, hw⟩
  have hw2 := hw.symm
  subst hw2
  clear hw
  go_wp2
  go_ret
  refine ⟨_, _, rfl, ?_, ?_, ((Below.refl _ _).alloc (Nat.le_refl _) _).alloc (by simp) _⟩
  · have := Cw.cell_new_at w #[.int .i64 0] 3 0 _ rfl
    exact (World.cell?_alloc_lt _ _ _ (by simp)).trans this
  · have := Cw.cell_new_at (w.alloc (.cells #[.int .i64 0] 3)) #[.slice none 0 0] 38 0 _ rfl
    rw [World.size_alloc] at this
    exact this

set_option maxHeartbeats 1000000 in
theorem records1_nil (w : World) (fx : Fn) (gx gy : Array Value) (Bb Ba : Nat) (cb : w.cell? ⟨Bb, 0, none⟩ = some (.int .i64 0)) (ca : w.cell? ⟨Ba, 0, none⟩ = some (.slice none 0 0)) :
    Calls Tryd.prog 71 #[.func fx gx gy, .pointer (some ⟨Bb, 0, none⟩), .pointer (some ⟨Ba, 0, none⟩)] w fun e w' => (∃ v, e = .returned v) ∧ Below w.heap.size w w' := by
  have hb0 : Below w.heap.size w (w.alloc (.cells #[Value.func fx gx gy] 78)) := (Below.refl _ w).alloc (Nat.le_refl _) _
  have cb1 := (hb0.cell (p := ⟨Bb, 0, none⟩) (World.block_lt_of_cell? w _ cb)).trans cb
  have hb1 := hb0.alloc (by simp) (.cells #[.int .i64 0] 3)
  have ca1 := (hb1.cell (p := ⟨Ba, 0, none⟩) (World.block_lt_of_cell? w _ ca)).trans ca
  refine (callsIn_wide (n := 11)).1 ?_
  refine callsIn_of_wp_marks Tryd.func71 rfl trivial ?_ rfl
  simp only [Tryd.ntmps71, List.size_toArray, List.length_cons, List.length_nil, Nat.reduceAdd, Nat.reduceSub, Array.replicate_succ, Array.replicate_zero, List.push_toArray, List.append_toArray, List.nil_append, List.cons_append]
  have HB1 := mkH hb1
  clear hb0 hb1 cb ca
  refine wpIn_wide.2 ?_
  go_wp2_with fail
  go_step3
  go_wp2_with fail
  go_step3
  go_wp2_with fail
  clear cb1 ca1
  obtain ⟨W0, hW0⟩ : ∃ W0, (w.alloc (.cells #[Value.func fx gx gy] 78)).alloc (.cells #[.int .i64 0] 3) = W0 := ⟨_, rfl⟩
  rw [hW0] at HB1 ⊢
  go_loopw [12] (fun i W => i = .int .i64 0 ∧ W0 = W) (fun i _ => 0)
  case atStart => exact ⟨rfl, rfl⟩
  case round =>
    obtain ⟨rfl, hw⟩ := hrel
    subst hw
    go_wp2_with fail
    rw [Exit.noGoto_normal]
    refine leaves_marks [] W0 ⟨List.nodup_nil, fun D hD => by simp at hD⟩ (fun W' hf => ?_)
    exact ⟨_, results_none rfl _ _ _, ⟨_, rfl⟩, HB1.out.trans (hf.below (fun k hk => by simp at hk) HB1.out.size)⟩

set_option maxHeartbeats 1000000 in
theorem all_un (w : World) (p : Option Addr) (h : Un w p) : Calls Tryd.prog 15 #[.pointer p] w fun e w' => (∃ b, e = .returned (.tuple #[.slice none 0 0, .bool b])) ∧ Below w.heap.size w w' := by
  have nf := fun (W : World) (x y : Array Value) => eql_func (P := Tryd.prog) W 76 _ _ _ (.func 71) x y Tryd.underlying76
  have HU := mkH h
  clear h
  have hb0 : Below w.heap.size w (((w.alloc (.cells #[.pointer p] 23)).alloc (.cells #[.slice none 0 0] 38)).alloc (.cells #[.bool true] 4)) := (((Below.refl _ w).alloc (Nat.le_refl _) _).alloc (by simp) _).alloc (by simp; omega) _
  obtain ⟨W0, hW0⟩ : ∃ W0, (((w.alloc (.cells #[.pointer p] 23)).alloc (.cells #[.slice none 0 0] 38)).alloc (.cells #[.bool true] 4)) = W0 := ⟨_, rfl⟩
  have hl0 : W0.heap[w.heap.size]? = some (.cells #[.pointer p] 23) := by
    rw [← hW0]; exact (Below.heap_alloc _ _ _ (by simp; omega)).trans ((Below.heap_alloc _ _ _ (by simp)).trans (heap_alloc_new _ _))
  have ho0 : W0.heap[w.heap.size + 1]? = some (.cells #[.slice none 0 0] 38) := by
    rw [← hW0]
    refine (Below.heap_alloc _ _ _ (by simp)).trans ?_
    have := heap_alloc_new (w.alloc (.cells #[.pointer p] 23)) (.cells #[.slice none 0 0] 38)
    rwa [World.size_alloc] at this
  have hr0 : W0.heap[w.heap.size + 1 + 1]? = some (.cells #[.bool true] 4) := by
    rw [← hW0]
    have := heap_alloc_new ((w.alloc (.cells #[.pointer p] 23)).alloc (.cells #[.slice none 0 0] 38)) (.cells #[.bool true] 4)
    rw [World.size_alloc, World.size_alloc] at this
    exact this
  have hs0 : W0.heap.size = w.heap.size + 3 := by rw [← hW0]; simp
  rw [hW0] at hb0
  have c1 : W0.cell? ⟨w.heap.size, 0, none⟩ = some (.pointer p) := by rw [cell_of_row _ _ _ _ _ _ hl0]; rfl
  go_enter Tryd.func15, Tryd.ntmps15
  go_wp2_with fail
  refine (records_un W0 p (HU.out.below hb0)).mono ?_
  rintro e W1 ⟨Bb, Ba, rfl, cb, ca, hb1⟩
  have hrec := fun fx gx gy => records1_nil W1 fx gx gy Bb Ba cb ca
  have HREC := mkH hrec
  have ho1 := (hb1.block _ (by omega)).trans ho0
  have hr1 := (hb1.block _ (by omega)).trans hr0
  have HO1 := mkH ho1
  have HR1 := mkH hr1
  have HB01 := mkH (hb0.trans (hb1.mono hb0.size))
  clear hrec cb ca hl0 ho0 hr0 c1 hb1 ho1 hr1 hb0
  go_wp2_with fail
  refine (HREC.out _ _ _).mono ?_
  rintro e W3 ⟨⟨v, rfl⟩, hb3⟩
  have c5 : W3.cell? ⟨w.heap.size + 1 + 1, 0, none⟩ = some (.bool true) := by rw [cell_of_row _ _ _ _ _ _ ((hb3.block _ (block_lt HR1.out)).trans HR1.out)]; rfl
  have c4 : W3.cell? ⟨w.heap.size + 1, 0, none⟩ = some (.slice none 0 0) := by rw [cell_of_row _ _ _ _ _ _ ((hb3.block _ (block_lt HO1.out)).trans HO1.out)]; rfl
  have HB3 := mkH (HB01.out.trans (hb3.mono HB01.out.size))
  clear hb3 HREC
  go_wp2_with fail
  go_quiet (fail)
  go_wp2
  go_ret2
  exact ⟨⟨_, rfl⟩, below_drewN HB3.out _⟩
end Go.Proofs.YtjfbhchpgmimfaaDoor.Sun
