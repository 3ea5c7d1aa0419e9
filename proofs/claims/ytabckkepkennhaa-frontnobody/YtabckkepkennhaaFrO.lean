/-
  ownReply of a reply without lists. Written by gen_fro.py.
-/
import Derived.Test.YtabckkepkennhaaFrR
namespace Go.Proofs.Ytabckkepkennhaa.Fo
open Go.RowKit Kt Gf Gk Fp Fa Fb Fr1
open Go.Proofs.Ytabckkepkennhaa.Nm (Mc)
set_option linter.unusedVariables false
set_option linter.unusedSimpArgs false
set_option maxRecDepth 20000

/-- A reply without lists. -/
def Rz (er sq n : Int) : Array Value := #[.int .i64 er, .int .i64 sq, .int .i64 n, .slice none 0 0, .slice none 0 0, .slice none 0 0]
theorem Rz_one (er sq n : Int) : (Rz er sq n).all (fun x => x.oneCell') = true := by unfold Rz; rw [List.all_toArray]; rfl
theorem infoRp : (Try.prog.info? 37).map (·.size) = some 6 := by kernel_rfl
theorem load_rz {w : World} {b : Nat} {er sq n : Int} {t : TypeId} (h : Bx w b (Rz er sq n) t) : (loadVar 37 ⟨b, 0, none⟩).run Try.prog w = .ok (.agg (Rz er sq n)) w := load_bx (P := Try.prog) h Try.underlying37 rfl infoRp
theorem cloneG_nil (w : World) : Calls Try.prog 45 #[.slice none 0 0] w fun x w' => x = .returned (.slice none 0 0) ∧ w' = w := by
  have hq := eql_nil (P := Try.prog) w 34 105 none 0 0 Try.underlying34
  simp only [Option.isNone] at hq
  go_enter Try.func45, Try.ntmps45
  go_wp2
  go_ret
  exact ⟨rfl, rfl⟩
theorem cloneR_nil (w : World) : Calls Try.prog 47 #[.slice none 0 0] w fun x w' => x = .returned (.slice none 0 0) ∧ w' = w := by
  have hq := eql_nil (P := Try.prog) w 35 29 none 0 0 Try.underlying35
  simp only [Option.isNone] at hq
  go_enter Try.func47, Try.ntmps47
  go_wp2
  go_ret
  exact ⟨rfl, rfl⟩
set_option maxHeartbeats 2000000 in
theorem ownReply_nil (w : World) (er sq n : Int) : Calls Try.prog 27 #[.agg (Rz er sq n)] w fun x w' => x = .returned (.agg (Rz er sq n)) ∧ Below w.heap.size w w' := by
  have hmx : Try.prog.follows .mixedOrders = true := by kernel_rfl
  obtain ⟨V, hV⟩ : ∃ V, V = (w.alloc (.cells (Rz er sq n) 37)).alloc (.cells (Rz 0 0 0) 37) := ⟨_, rfl⟩
  have HB := mkH (show Below w.heap.size w V by rw [hV]; exact ((Below.refl _ w).alloc (Nat.le_refl _) _).alloc (by simp) _)
  have HX1 := mkH (show Bx V w.heap.size (Rz er sq n) 37 by rw [hV]; exact (Bx.new _ _ _).alloc _)
  have HX2 := mkH (show Bx V (w.heap.size + 1) (Rz 0 0 0) 37 by rw [hV]; exact Bx.new1 _ _ _ _)
  have HV := mkH hV
  clear hV
  go_enter Try.func27, Try.ntmps27
  go_upto_region 1 with fail
  change Code.wp _ _ _ _ ((w.alloc (.cells (Rz er sq n) 37)).alloc (.cells (Rz 0 0 0) 37))
  rw [show (w.alloc (.cells (Rz er sq n) 37)).alloc (.cells (Rz 0 0 0) 37) = V from HV.out.symm]
  refine wp_region_held_drew (S := fun W => Bx W w.heap.size #[.int .i64 er, .int .i64 sq, .int .i64 n, .slice none 0 0, .slice none 0 0, .slice none 0 0] 37 ∧ Bx W (w.heap.size + 1) (Rz 0 0 0) 37 ∧ Below w.heap.size w W) hmx ⟨HX1.out, HX2.out, HB.out.drew⟩ (fun hHeld => ?_)
  generalize V.drew = V0 at *
  refine wpAnyH_take (i := 0) (oi := { dst := some 3, op := _, type := _, pos := _, after := _, guard := _ }) (v := ?_) rfl (by kernel_rfl) (by kernel_rfl) (by kernel_rfl) (fun _ _ _ h => h) (Or.inl ⟨by rfl, ?_⟩) (by assumption) ?_
  rotate_left
  · (intro W hSw; (try dsimp only at hSw); go_simp; try (with_reducible rfl))
  try simp only [Act.put, List.setIfInBounds_toArray, List.set_cons_zero, List.set_cons_succ]
  refine wpAnyH_take (i := 1) (oi := { dst := some 4, op := _, type := _, pos := _, after := _, guard := _ }) (v := .slice none 0 0) rfl (by kernel_rfl) (by kernel_rfl) (by kernel_rfl) (fun _ _ _ h => h) (Or.inl ⟨by rfl, ?_⟩) (by assumption) ?_
  · (intro W hSw; (try dsimp only at hSw); (have c3 : W.cell? ⟨w.heap.size, 3, none⟩ = some (.slice none 0 0) := hSw.1.cell 3 _ rfl; go_simp))
  try simp only [Act.put, List.setIfInBounds_toArray, List.set_cons_zero, List.set_cons_succ]
  refine wpAnyH_take (i := 3) (oi := { dst := some 6, op := _, type := _, pos := _, after := _, guard := _ }) (v := ?_) rfl (by kernel_rfl) (by kernel_rfl) (by kernel_rfl) (fun _ _ _ h => h) (Or.inl ⟨by rfl, ?_⟩) (by assumption) ?_
  rotate_left
  · (intro W hSw; (try dsimp only at hSw); go_simp; try (with_reducible rfl))
  try simp only [Act.put, List.setIfInBounds_toArray, List.set_cons_zero, List.set_cons_succ]
  refine wpAnyH_take (i := 4) (oi := { dst := some 7, op := _, type := _, pos := _, after := _, guard := _ }) (v := .slice none 0 0) rfl (by kernel_rfl) (by kernel_rfl) (by kernel_rfl) (fun _ _ _ h => h) (Or.inl ⟨by rfl, ?_⟩) (by assumption) ?_
  · (intro W hSw; (try dsimp only at hSw); (have c4 : W.cell? ⟨w.heap.size, 4, none⟩ = some (.slice none 0 0) := hSw.1.cell 4 _ rfl; go_simp))
  try simp only [Act.put, List.setIfInBounds_toArray, List.set_cons_zero, List.set_cons_succ]
  refine wpAnyH_take (i := 6) (oi := { dst := some 9, op := _, type := _, pos := _, after := _, guard := _ }) (v := ?_) rfl (by kernel_rfl) (by kernel_rfl) (by kernel_rfl) (fun _ _ _ h => h) (Or.inl ⟨by rfl, ?_⟩) (by assumption) ?_
  rotate_left
  · (intro W hSw; (try dsimp only at hSw); go_simp; try (with_reducible rfl))
  try simp only [Act.put, List.setIfInBounds_toArray, List.set_cons_zero, List.set_cons_succ]
  refine wpAnyH_take (i := 7) (oi := { dst := some 10, op := _, type := _, pos := _, after := _, guard := _ }) (v := .slice none 0 0) rfl (by kernel_rfl) (by kernel_rfl) (by kernel_rfl) (fun _ _ _ h => h) (Or.inl ⟨by rfl, ?_⟩) (by assumption) ?_
  · (intro W hSw; (try dsimp only at hSw); (have c5 : W.cell? ⟨w.heap.size, 5, none⟩ = some (.slice none 0 0) := hSw.1.cell 5 _ rfl; go_simp))
  try simp only [Act.put, List.setIfInBounds_toArray, List.set_cons_zero, List.set_cons_succ]
  refine wpAnyH_ready (rs := [2]) (by kernel_rfl) (by simp) ?_
  refine (AllReadyH.cons (o := { dst := some 5, op := _, type := _, pos := _, after := _, guard := _ }) rfl (fun K hK => ?_) AllReadyH.nil)
  go_simp
  refine (cloneG_nil _).mono ?_
  rintro e1 w1 ⟨rfl, rfl⟩
  go_wp2_with fail
  refine hK.out _ _ ?_ (fun hHeld => ?_)
  · exact hHeld
  clear hK K
  try simp only [Act.put, List.setIfInBounds_toArray, List.set_cons_zero, List.set_cons_succ]
  refine wpAnyH_take (i := 9) (oi := { dst := some 12, op := _, type := _, pos := _, after := _, guard := _ }) (v := ?_) rfl (by kernel_rfl) (by kernel_rfl) (by kernel_rfl) (fun _ _ _ h => h) (Or.inl ⟨by rfl, ?_⟩) (by assumption) ?_
  rotate_left
  · (intro W hSw; (try dsimp only at hSw); go_simp; try (with_reducible rfl))
  try simp only [Act.put, List.setIfInBounds_toArray, List.set_cons_zero, List.set_cons_succ]
  refine wpAnyH_ready (rs := [5]) (by kernel_rfl) (by simp) ?_
  refine (AllReadyH.cons (o := { dst := some 8, op := _, type := _, pos := _, after := _, guard := _ }) rfl (fun K hK => ?_) AllReadyH.nil)
  go_simp
  refine (cloneS_nil _).mono ?_
  rintro e1 w1 ⟨rfl, rfl⟩
  go_wp2_with fail
  refine hK.out _ _ ?_ (fun hHeld => ?_)
  · exact hHeld
  clear hK K
  try simp only [Act.put, List.setIfInBounds_toArray, List.set_cons_zero, List.set_cons_succ]
  refine wpAnyH_ready (rs := [8]) (by kernel_rfl) (by simp) ?_
  refine (AllReadyH.cons (o := { dst := some 11, op := _, type := _, pos := _, after := _, guard := _ }) rfl (fun K hK => ?_) AllReadyH.nil)
  go_simp
  refine (cloneR_nil _).mono ?_
  rintro e1 w1 ⟨rfl, rfl⟩
  go_wp2_with fail
  refine hK.out _ _ ?_ (fun hHeld => ?_)
  · exact hHeld
  clear hK K
  try simp only [Act.put, List.setIfInBounds_toArray, List.set_cons_zero, List.set_cons_succ]
  refine wpAnyH_ready (rs := [10]) (by kernel_rfl) (by simp) ?_
  refine (AllReadyH.cons (o := { dst := none, op := _, type := _, pos := _, after := _, guard := _ }) rfl (fun K hK => ?_) AllReadyH.nil)
  have c3 : World.cell? _ ⟨w.heap.size, 3, none⟩ = some (.slice none 0 0) := hHeld.1.cell 3 _ rfl
  have f3 := hHeld.1.frozen 3
  go_simp
  refine hK.out _ _ ?_ (fun hHeld => ?_)
  · exact ⟨Bx.setTo hHeld.1 3 _ rfl, hHeld.2.1.other (by simp) _, hHeld.2.2.setCell (Nat.le_refl _) _⟩
  clear hK K
  try simp only [Act.put, List.setIfInBounds_toArray, List.set_cons_zero, List.set_cons_succ]
  clear c3 f3
  generalize World.setCell _ ⟨w.heap.size, 3, none⟩ (.slice none 0 0) = V3 at *
  refine wpAnyH_take (i := 11) (oi := { dst := some 13, op := _, type := _, pos := _, after := _, guard := _ }) (v := ?_) rfl (by kernel_rfl) (by kernel_rfl) (by kernel_rfl) (fun _ _ _ h => h) (Or.inl ⟨by rfl, ?_⟩) (by assumption) ?_
  rotate_left
  · (intro W hSw; (try dsimp only at hSw); go_simp; try (with_reducible rfl))
  try simp only [Act.put, List.setIfInBounds_toArray, List.set_cons_zero, List.set_cons_succ]
  refine wpAnyH_ready (rs := [12]) (by kernel_rfl) (by simp) ?_
  refine (AllReadyH.cons (o := { dst := none, op := _, type := _, pos := _, after := _, guard := _ }) rfl (fun K hK => ?_) AllReadyH.nil)
  have c4 : World.cell? _ ⟨w.heap.size, 4, none⟩ = some (.slice none 0 0) := hHeld.1.cell 4 _ rfl
  have f4 := hHeld.1.frozen 4
  go_simp
  refine hK.out _ _ ?_ (fun hHeld => ?_)
  · exact ⟨Bx.setTo hHeld.1 4 _ rfl, hHeld.2.1.other (by simp) _, hHeld.2.2.setCell (Nat.le_refl _) _⟩
  clear hK K
  try simp only [Act.put, List.setIfInBounds_toArray, List.set_cons_zero, List.set_cons_succ]
  clear c4 f4
  generalize World.setCell _ ⟨w.heap.size, 4, none⟩ (.slice none 0 0) = V4 at *
  refine wpAnyH_take (i := 13) (oi := { dst := some 14, op := _, type := _, pos := _, after := _, guard := _ }) (v := ?_) rfl (by kernel_rfl) (by kernel_rfl) (by kernel_rfl) (fun _ _ _ h => h) (Or.inl ⟨by rfl, ?_⟩) (by assumption) ?_
  rotate_left
  · (intro W hSw; (try dsimp only at hSw); go_simp; try (with_reducible rfl))
  try simp only [Act.put, List.setIfInBounds_toArray, List.set_cons_zero, List.set_cons_succ]
  refine wpAnyH_ready (rs := [14]) (by kernel_rfl) (by simp) ?_
  refine (AllReadyH.cons (o := { dst := none, op := _, type := _, pos := _, after := _, guard := _ }) rfl (fun K hK => ?_) AllReadyH.nil)
  have c5 : World.cell? _ ⟨w.heap.size, 5, none⟩ = some (.slice none 0 0) := hHeld.1.cell 5 _ rfl
  have f5 := hHeld.1.frozen 5
  go_simp
  refine hK.out _ _ ?_ (fun hHeld => ?_)
  · exact ⟨Bx.setTo hHeld.1 5 _ rfl, hHeld.2.1.other (by simp) _, hHeld.2.2.setCell (Nat.le_refl _) _⟩
  clear hK K
  try simp only [Act.put, List.setIfInBounds_toArray, List.set_cons_zero, List.set_cons_succ]
  clear c5 f5
  generalize World.setCell _ ⟨w.heap.size, 5, none⟩ (.slice none 0 0) = V5 at *
  refine wpAnyH_done (by kernel_rfl) ?_ _
  all_goals
    have HH := mkH hHeld
    clear hHeld HX1 HX2 HB HV
    go_wp2_with (first
      | (refine Gk.wpList_ld (ty := 37) (x := .tmp 1) (p := ⟨w.heap.size, 0, none⟩) (v := .agg (Rz er sq n)) rfl rfl rfl (load_rz HH.out.1) ?_)
      | (refine Gk.wpList_st rfl (ty := 37) (x := .tmp 2) (y := .tmp 15) (cs := Rz er sq n) (old := Rz 0 0 0) rfl rfl rfl HH.out.2.1 infoRp rfl (Rz_one er sq n) ?_))
    have hz := HH.out.2.1.row (cs := Rz er sq n)
    refine bodyPost_ret (Gk.res_c rfl _ _ _ rfl (load_rz hz)) rfl ?_
    exact ⟨rfl, below_setRow HH.out.2.2 (by omega) _⟩
end Go.Proofs.Ytabckkepkennhaa.Fo
