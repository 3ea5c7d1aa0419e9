/-
  Purge.
-/
import Derived.Test.YtcpmaddleleblaaDoorGpSt
import Derived.Test.YtcpmaddleleblaaDoorGpTp
import Derived.Test.YtcpmaddleleblaaDoorRgG
namespace Go.Proofs.YtcpmaddleleblaaDoor.Gpu
open Go.RowKit Kt Gf Gp Gr Gk Ga Gs Gb Gg Gst Gtp
set_option linter.unusedVariables false
set_option linter.unusedSimpArgs false
set_option maxRecDepth 20000

set_option maxHeartbeats 4000000 in
theorem Purge_any (w : World) (g : G) (ka : Option Addr) (kc : Nat) (ma : Option Addr) (mc : Nat) (h : Gl w g ka kc ma mc) (hk : g.kept.length ≤ 1000000000) (hm : g.marks.length ≤ 1000000000) :
    Calls Tryd.prog 29 #[.agg (gC g ka kc ma mc)] w fun e w' => ∃ ma' mc', e = .returned (.tuple #[.agg (gC (purged g) none 0 ma' mc'), .int .i64 (g.kept.length : Int)]) ∧ Go' w.heap.size w' (purged g) none 0 ma' mc' ∧ Below w.heap.size w w' := by
  have HL := mkH h
  clear h
  obtain ⟨nx, kp, mk, at'⟩ := g
  simp only [gC, purged] at hk hm ⊢
  have hmx : Tryd.prog.follows .mixedOrders = true := by kernel_rfl
  have hig : (Tryd.prog.info? 25).map (·.size) = some 4 := by kernel_rfl
  have HA := mkH (((Below.refl w.heap.size w).alloc (Nat.le_refl _) (.cells #[Value.int .i64 nx, .slice ka kp.length kc, .slice ma mk.length mc, .string at'] 25)).alloc (by simp) (.cells #[Value.int .i64 0, .slice none 0 0, .slice none 0 0, .string ⟨#[]⟩] 25))
  have HC0 := mkH ((Bx.new w #[Value.int .i64 nx, .slice ka kp.length kc, .slice ma mk.length mc, .string at'] 25).alloc (.cells #[Value.int .i64 0, .slice none 0 0, .slice none 0 0, .string ⟨#[]⟩] 25))
  have HC1 := mkH (Bx.new1 w (.cells #[Value.int .i64 nx, .slice ka kp.length kc, .slice ma mk.length mc, .string at'] 25) #[Value.int .i64 0, .slice none 0 0, .slice none 0 0, .string ⟨#[]⟩] 25)
  have HSZ0 : Hid (((w.alloc (.cells #[Value.int .i64 nx, .slice ka kp.length kc, .slice ma mk.length mc, .string at'] 25)).alloc (.cells #[Value.int .i64 0, .slice none 0 0, .slice none 0 0, .string ⟨#[]⟩] 25)).heap.size = w.heap.size + 2) := by unfold Hid; simp
  go_enter Tryd.func29, Tryd.ntmps29
  go_wp2_with fail
  generalize (w.alloc (.cells #[Value.int .i64 nx, .slice ka kp.length kc, .slice ma mk.length mc, .string at'] 25)).alloc (.cells #[Value.int .i64 0, .slice none 0 0, .slice none 0 0, .string ⟨#[]⟩] 25) = w0 at *
  obtain ⟨R, hR⟩ : ∃ R, w.heap.size + 1 = R := ⟨_, rfl⟩
  rw [hR] at HC1 ⊢
  have h3 := HSZ0.out
  have r1 : w.heap.size < R := by omega
  have r2 : R < w0.heap.size := by omega
  clear hR
  refine (copyOf_any w0 ⟨nx, kp, mk, at'⟩ ka kc ma mc (HL.out.below HA.out) hk hm).mono ?_
  rintro e w1 ⟨ka1, kc1, ma1, mc1, rfl, hg1, hb1⟩
  simp only [gC]
  have hal : Below w1.heap.size w1 (w1.alloc (.cells #[Value.int .i64 nx, .slice none 0 0, .slice ma1 mk.length mc1, .string at'] 25)) := (Below.refl _ w1).alloc (Nat.le_refl _) _
  have HX := mkH (Bx.new w1 #[Value.int .i64 nx, .slice none 0 0, .slice ma1 mk.length mc1, .string at'] 25)
  have HR3 := mkH ((HC1.out.bel hb1).bel hal)
  have HO3 := mkH ((HC0.out.bel hb1).bel hal)
  have HM3 := mkH (own_below hg1.m hal)
  have HB3 : Hid (Below w.heap.size w (w1.alloc (.cells #[Value.int .i64 nx, .slice none 0 0, .slice ma1 mk.length mc1, .string at'] 25))) := (HA.out.trans (hb1.mono (by omega))).trans (hal.mono (by have := hb1.size; omega))
  have hs1 := hb1.size
  clear hal hg1 hb1 HC0 HC1 HA
  go_upto_region 3 with fail
  generalize w1.alloc (.cells #[Value.int .i64 nx, .slice none 0 0, .slice ma1 mk.length mc1, .string at'] 25) = w2 at *
  obtain ⟨C1, hC1⟩ : ∃ C, w1.heap.size = C := ⟨_, rfl⟩
  rw [hC1] at HX ⊢
  have hCR : C1 ≠ R := by omega
  have hCw : w.heap.size ≤ C1 := by omega
  clear hC1 hs1
  obtain ⟨s0, s1, s2, s3, -⟩ := HX.out.four
  have o1 : w2.cell? ⟨w.heap.size, 1, none⟩ = some (.slice ka kp.length kc) := HO3.out.cell 1 _ rfl
  refine wp_region_held_drew (S := fun W => W.cell? ⟨C1, 0, none⟩ = some (.int .i64 nx) ∧ W.cell? ⟨C1, 1, none⟩ = some (.slice none 0 0) ∧ W.cell? ⟨C1, 2, none⟩ = some (.slice ma1 mk.length mc1) ∧ W.cell? ⟨C1, 3, none⟩ = some (.string at') ∧ W.cell? ⟨w.heap.size, 1, none⟩ = some (.slice ka kp.length kc)) hmx ⟨s0, s1, s2, s3, o1⟩ (fun hHeld => ?_)
  refine wpAnyH_take (i := 0) (oi := { dst := some 8, op := _, type := _, pos := _, after := _, guard := _ }) (v := ?_) rfl (by kernel_rfl) (by kernel_rfl) (by kernel_rfl) (fun _ _ _ h => h) (Or.inl ⟨by rfl, ?_⟩) (by assumption) ?_
  rotate_left
  · (intro W hSw; (try dsimp only at hSw); go_simp; try (with_reducible rfl))
  try simp only [Act.put, List.setIfInBounds_toArray, List.set_cons_zero, List.set_cons_succ]
  refine wpAnyH_take (i := 1) (oi := { dst := some 9, op := _, type := _, pos := _, after := _, guard := _ }) (v := ?_) rfl (by kernel_rfl) (by kernel_rfl) (by kernel_rfl) (fun _ _ _ h => h) (Or.inl ⟨by rfl, ?_⟩) (by assumption) ?_
  rotate_left
  · (intro W hSw; (try dsimp only at hSw); go_simp; try (with_reducible rfl))
  try simp only [Act.put, List.setIfInBounds_toArray, List.set_cons_zero, List.set_cons_succ]
  refine wpAnyH_take (i := 2) (oi := { dst := some 10, op := _, type := _, pos := _, after := _, guard := _ }) (v := ?_) rfl (by kernel_rfl) (by kernel_rfl) (by kernel_rfl) (fun _ _ _ h => h) (Or.inl ⟨by rfl, ?_⟩) (by assumption) ?_
  rotate_left
  · (intro W hSw; (try dsimp only at hSw); go_simp; try (with_reducible rfl))
  try simp only [Act.put, List.setIfInBounds_toArray, List.set_cons_zero, List.set_cons_succ]
  refine wpAnyH_take (i := 3) (oi := { dst := some 11, op := _, type := _, pos := _, after := _, guard := _ }) (v := ?_) rfl (by kernel_rfl) (by kernel_rfl) (by kernel_rfl) (fun _ _ _ h => h) (Or.inl ⟨by rfl, ?_⟩) (by assumption) ?_
  rotate_left
  · (intro W hSw; (try dsimp only at hSw); go_simp; try (with_reducible rfl))
  try simp only [Act.put, List.setIfInBounds_toArray, List.set_cons_zero, List.set_cons_succ]
  refine wpAnyH_ready (rs := [4]) (by kernel_rfl) (by simp) ?_
  refine (AllReadyH.cons (o := { dst := none, op := _, type := _, pos := _, after := _, guard := _ }) rfl (fun K hK => ?_) AllReadyH.nil)
  refine step_st (by rfl) 25 (.tmp 2) (.tmp 8) (by rfl) R #[Value.int .i64 nx, .slice none 0 0, .slice ma1 mk.length mc1, .string at'] #[Value.int .i64 0, .slice none 0 0, .slice none 0 0, .string ⟨#[]⟩] 25 (by rfl) (by rfl) (HR3.out.bel (below_drew _)) hig (by rfl) (by simp [Value.oneCell']) ?_
  refine hK.out _ _ ?_ (fun hHeld => ?_)
  · (have hx := (HX.out.bel (below_drew w2)).rowOther (Ne.symm hCR) #[Value.int .i64 nx, .slice none 0 0, .slice ma1 mk.length mc1, .string at']; have ho := (HO3.out.bel (below_drew w2)).rowOther (g := R) (by omega) #[Value.int .i64 nx, .slice none 0 0, .slice ma1 mk.length mc1, .string at']; exact ⟨hx.cell 0 _ rfl, hx.cell 1 _ rfl, hx.cell 2 _ rfl, hx.cell 3 _ rfl, ho.cell 1 _ rfl⟩)
  clear hK K
  try simp only [Act.put, List.setIfInBounds_toArray, List.set_cons_zero, List.set_cons_succ]
  refine wpAnyH_take (i := 5) (oi := { dst := some 3, op := _, type := _, pos := _, after := _, guard := _ }) (v := ?_) rfl (by kernel_rfl) (by kernel_rfl) (by kernel_rfl) (fun _ _ _ h => h) (Or.inl ⟨by rfl, ?_⟩) (by assumption) ?_
  rotate_left
  · (intro W hSw; (try dsimp only at hSw); go_simp; try (with_reducible rfl))
  try simp only [Act.put, List.setIfInBounds_toArray, List.set_cons_zero, List.set_cons_succ]
  refine wpAnyH_done (by kernel_rfl) ?_ _
  go_wp2
  have hR4 : Bx (w2.drew.setRow R #[Value.int .i64 nx, .slice none 0 0, .slice ma1 mk.length mc1, .string at']) R #[Value.int .i64 nx, .slice none 0 0, .slice ma1 mk.length mc1, .string at'] 25 := (HR3.out.bel (below_drew _)).row
  have hF4 : Fr (fun x => x = R) w2.drew (w2.drew.setRow R #[Value.int .i64 nx, .slice none 0 0, .slice ma1 mk.length mc1, .string at']) := Bx.frrow _
  refine bodyPost_ret (res_ct rfl _ _ _ rfl rfl (loadG hR4)) rfl ⟨ma1, mc1, rfl, ⟨?_, ?_⟩, ?_⟩
  · simpa [Fl] using World.ownsRow_nil _ _ _ _
  · have hm4 := own_below HM3.out (below_drew w2)
    exact own_mono (own_fr hm4 hF4 (fun k hk hk2 => own_ne hm4 (HR3.out.bel (below_drew _)) hk (by decide) hk2)) (by omega)
  · exact below_fr (HB3.out.trans ((below_drew w2).mono HB3.out.size)) hF4 (by intro k hk; omega) (Nat.le_refl _)
end Go.Proofs.YtcpmaddleleblaaDoor.Gpu
