/-
  Askers and clients that no call made.
-/
import Derived.Test.YtabckkepkennhaaFrY
namespace Go.Proofs.Ytabckkepkennhaa.Un
open Go.RowKit Kt Gf Gk Fp Fa Fb Fc Fr1 Fo
set_option linter.unusedVariables false
set_option linter.unusedSimpArgs false
set_option maxRecDepth 20000

/-- Nil, or without leaders. -/
def UnA (w : World) (p : Option Addr) : Prop := p = none ∨ ∃ b, p = some ⟨b, 0, none⟩ ∧ w.cell? ⟨b, 26, none⟩ = some (.map none)
theorem UnA.below {w w' : World} {p : Option Addr} (h : UnA w p) (hb : Below w.heap.size w w') : UnA w' p := by
  rcases h with h | ⟨b, h, hc⟩
  · exact .inl h
  · exact .inr ⟨b, h, by rw [World.cell?_of_block (hb.block b (World.block_lt_of_cell? w _ hc))]; exact hc⟩
theorem made_un {w : World} {p : Option Addr} (h : UnA w p) : Calls Try.prog 38 #[.pointer p] w fun x w' => x = .returned (.bool false) ∧ w' = w := by
  rcases h with rfl | ⟨b, rfl, c26⟩
  · go_enter Try.func38, Try.ntmps38
    go_wp2
    go_ret
    exact ⟨rfl, rfl⟩
  · have hq := neq_map (P := Try.prog) w 51 _ _ none Try.underlying51
    simp only [Option.isSome] at hq
    go_enter Try.func38, Try.ntmps38
    go_wp2
    go_ret
    exact ⟨rfl, rfl⟩
theorem madeC_un {w : World} {p : Option Addr} (h : UnA w p) : Calls Try.prog 26 #[.pointer p] w fun x w' => x = .returned (.bool false) ∧ w' = w := by
  have HM := mkH (made_un h)
  rcases h with rfl | ⟨b, rfl, c26⟩
  · go_enter Try.func26, Try.ntmps26
    go_wp2
    go_ret
    exact ⟨rfl, rfl⟩
  · go_enter Try.func26, Try.ntmps26
    go_wp2_with (refine HM.out.mono ?_; rintro x w1 ⟨rfl, rfl⟩)
    go_ret
    exact ⟨rfl, rfl⟩
theorem Busy_un {w : World} {p : Option Addr} (h : UnA w p) : Calls Try.prog 18 #[.pointer p] w fun x w' => x = .returned (.bool false) ∧ w' = w := by
  have HM := mkH (made_un h)
  clear h
  go_enter Try.func18, Try.ntmps18
  go_wp2_with (refine HM.out.mono ?_; rintro x w1 ⟨rfl, rfl⟩)
  go_ret
  exact ⟨rfl, rfl⟩
theorem BusyC_un {w : World} {p : Option Addr} (h : UnA w p) : Calls Try.prog 11 #[.pointer p] w fun x w' => x = .returned (.bool false) ∧ w' = w := by
  have HM := mkH (madeC_un h)
  clear h
  go_enter Try.func11, Try.ntmps11
  go_wp2_with (refine HM.out.mono ?_; rintro x w1 ⟨rfl, rfl⟩)
  go_ret
  exact ⟨rfl, rfl⟩
theorem Num_un {w : World} {p : Option Addr} (h : UnA w p) : Calls Try.prog 19 #[.pointer p] w fun x w' => x = .returned (.int .i64 0) ∧ w' = w := by
  have HM := mkH (made_un h)
  clear h
  go_enter Try.func19, Try.ntmps19
  go_wp2_with (refine HM.out.mono ?_; rintro x w1 ⟨rfl, rfl⟩)
  go_ret
  exact ⟨rfl, rfl⟩
theorem Tick_un {w : World} {p : Option Addr} (h : UnA w p) : Calls Try.prog 17 #[.pointer p] w fun x w' => x = .returned (.slice none 0 0) ∧ w' = w := by
  have HM := mkH (Busy_un h)
  clear h
  go_enter Try.func17, Try.ntmps17
  go_wp2_with (refine HM.out.mono ?_; rintro x w1 ⟨rfl, rfl⟩)
  go_ret
  exact ⟨rfl, rfl⟩
theorem TickC_un {w : World} {p : Option Addr} (h : UnA w p) : Calls Try.prog 9 #[.pointer p] w fun x w' => x = .returned (.slice none 0 0) ∧ w' = w := by
  have HM := mkH (BusyC_un h)
  clear h
  go_enter Try.func9, Try.ntmps9
  go_wp2_with (refine HM.out.mono ?_; rintro x w1 ⟨rfl, rfl⟩)
  go_ret
  exact ⟨rfl, rfl⟩
theorem Turn_un {w : World} {p : Option Addr} (h : UnA w p) (g : Int) : Calls Try.prog 16 #[.pointer p, .int .i64 g] w fun x w' => x = .returned (.int .i64 1) ∧ w' = w := by
  have HM := mkH (made_un h)
  clear h
  go_enter Try.func16, Try.ntmps16
  go_wp2_with (refine HM.out.mono ?_; rintro x w1 ⟨rfl, rfl⟩)
  go_ret
  exact ⟨rfl, rfl⟩
theorem Ask_un {w : World} {p : Option Addr} (h : UnA w p) (g : Int) (cs : Array Value) : Calls Try.prog 15 #[.pointer p, .int .i64 g, .agg cs] w fun x w' => x = .returned (.int .i64 1) ∧ Below w.heap.size w w' := by
  have hal := (Below.refl w.heap.size w).alloc (Nat.le_refl _) (.cells cs 32)
  have HM := mkH (made_un (h.below hal))
  have HB := mkH hal
  clear h hal
  go_enter Try.func15, Try.ntmps15
  go_wp2_with (refine HM.out.mono ?_; rintro x w1 ⟨rfl, rfl⟩)
  go_ret
  exact ⟨rfl, HB.out⟩
theorem Start_un {w : World} {p : Option Addr} (h : UnA w p) (cs : Array Value) : Calls Try.prog 8 #[.pointer p, .agg cs] w fun x w' => x = .returned (.int .i64 1) ∧ Below w.heap.size w w' := by
  have hal := (Below.refl w.heap.size w).alloc (Nat.le_refl _) (.cells cs 45)
  have HM := mkH (madeC_un (h.below hal))
  have HB := mkH hal
  clear h hal
  go_enter Try.func8, Try.ntmps8
  go_wp2_with (refine HM.out.mono ?_; rintro x w1 ⟨rfl, rfl⟩)
  go_ret
  exact ⟨rfl, HB.out⟩
theorem RecvC_un {w : World} {p : Option Addr} (h : UnA w p) (cs : Array Value) : Calls Try.prog 10 #[.pointer p, .agg cs] w fun x w' => x = .returned (.slice none 0 0) ∧ Below w.heap.size w w' := by
  have hal := (Below.refl w.heap.size w).alloc (Nat.le_refl _) (.cells cs 42)
  have HM := mkH (madeC_un (h.below hal))
  have HB := mkH hal
  clear h hal
  go_enter Try.func10, Try.ntmps10
  go_wp2_with (refine HM.out.mono ?_; rintro x w1 ⟨rfl, rfl⟩)
  go_ret
  exact ⟨rfl, HB.out⟩
theorem Result_un {w : World} {p : Option Addr} (h : UnA w p) : Calls Try.prog 7 #[.pointer p] w fun x w' => x = .returned (.tuple #[.slice none 0 0, .bool false]) ∧ w' = w := by
  have HM := mkH (madeC_un h)
  clear h
  go_enter Try.func7, Try.ntmps7
  go_wp2_with (refine HM.out.mono ?_; rintro x w1 ⟨rfl, rfl⟩)
  go_ret2
  exact ⟨rfl, rfl⟩
theorem Chart_un {w : World} {p : Option Addr} (h : UnA w p) : Calls Try.prog 13 #[.pointer p] w fun x w' => x = .returned (.agg #[.int .i64 0, .slice none 0 0]) ∧ Below w.heap.size w w' := by
  have hal := (Below.refl w.heap.size w).alloc (Nat.le_refl _) (.cells #[.int .i64 0, .slice none 0 0] 40)
  have HM := mkH (madeC_un (h.below hal))
  have HB := mkH hal
  have HX : Hid (Bx (w.alloc (.cells #[.int .i64 0, .slice none 0 0] 40)) w.heap.size #[.int .i64 0, .slice none 0 0] 40) := mkH (Bx.new _ _ _)
  clear h hal
  go_enter Try.func13, Try.ntmps13
  go_wp2_with (first
    | (refine HM.out.mono ?_; rintro x w1 ⟨rfl, rfl⟩)
    | (refine Gk.wpList_st rfl (ty := 40) (x := .tmp 2) (y := .tmp 6) (cs := #[.int .i64 0, .slice none 0 0]) (old := #[.int .i64 0, .slice none 0 0]) rfl rfl rfl HX.out Fi.infoCh rfl (by rw [List.all_toArray]; rfl) ?_))
  have hz := HX.out.row (cs := #[.int .i64 0, .slice none 0 0])
  refine bodyPost_ret (Gk.res_c rfl _ _ _ rfl (Fi.load_ch hz)) rfl ?_
  exact ⟨rfl, below_setRow HB.out (Nat.le_refl _) _⟩
theorem Recv_un {w : World} {p : Option Addr} (h : UnA w p) (cs : Array Value) : Calls Try.prog 14 #[.pointer p, .agg cs] w fun x w' => x = .returned (.tuple #[.agg (Rz 0 0 0), .bool false]) ∧ Below w.heap.size w w' := by
  have hal : Below w.heap.size w ((w.alloc (.cells cs 42)).alloc (.cells (Rz 0 0 0) 37)) := ((Below.refl w.heap.size w).alloc (Nat.le_refl _) _).alloc (by simp) _
  have HM := mkH (Busy_un (h.below hal))
  have HB := mkH hal
  have HX : Hid (Bx ((w.alloc (.cells cs 42)).alloc (.cells (Rz 0 0 0) 37)) (w.heap.size + 1) (Rz 0 0 0) 37) := mkH (Bx.new1 _ _ _ _)
  clear h hal
  go_enter Try.func14, Try.ntmps14
  go_wp2_with (first
    | (refine HM.out.mono ?_; rintro x w1 ⟨rfl, rfl⟩)
    | (refine Gk.wpList_st rfl (ty := 37) (x := .tmp 4) (y := .tmp 15) (cs := Rz 0 0 0) (old := Rz 0 0 0) rfl rfl rfl HX.out infoRp rfl (Rz_one _ _ _) ?_))
  have hz := HX.out.row (cs := Rz 0 0 0)
  refine bodyPost_ret (Gk.res_ct rfl _ _ _ rfl rfl (load_rz hz)) rfl ?_
  exact ⟨rfl, below_setRow HB.out (by omega) _⟩
theorem New_bad (w : World) : Calls Try.prog 6 #[.int .i64 0, .int .i64 1, .int .i64 1] w fun x w' => x = .returned (.tuple #[.pointer none, .int .i64 2]) ∧ w' = w := by
  have HN : Hid (Calls Try.prog 25 #[.int .i64 0, .int .i64 1, .int .i64 1] w fun x w' => x = .returned (.tuple #[.pointer none, .int .i64 2]) ∧ w' = w) := mkH (by
    go_enter Try.func25, Try.ntmps25
    go_wp2
    go_ret2
    exact ⟨rfl, rfl⟩)
  go_enter Try.func6, Try.ntmps6
  go_wp2_with (refine HN.out.mono ?_; rintro x w1 ⟨rfl, rfl⟩)
  go_ret2
  exact ⟨rfl, rfl⟩
end Go.Proofs.Ytabckkepkennhaa.Un
