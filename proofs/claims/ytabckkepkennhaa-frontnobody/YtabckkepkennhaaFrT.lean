/-
  An asker inside of a client: the first Tick of what it asks.
-/
import Derived.Test.YtabckkepkennhaaFrB
namespace Go.Proofs.Ytabckkepkennhaa.Ft
open Go.RowKit Kt Gf Gk Fp Fa Fb
open Go.Proofs.Ytabckkepkennhaa.Nm (Mc)
set_option linter.unusedVariables false
set_option linter.unusedSimpArgs false
set_option maxRecDepth 20000

/-- A packet that asks. -/
def pK (fr tt g : Int) (c : Cm) : Array Value := #[.int .i64 2, .int .i64 fr, .int .i64 tt, .int .i64 g, .int .i64 0, .int .i64 0, .int .i64 0, .int .i64 0, .int .i64 0, .int .i64 0, .slice none 0 0, .slice none 0 0,
  .int .i64 c.k, .int .i64 c.client, .int .i64 c.num, .int .i64 c.time, .int .i64 c.queue, .string c.group, .string c.body, .string c.token, .string c.attempt, .int .i64 c.mx, .int .i64 c.secs, .int .i64 c.rq, .string c.rg, .int .i64 c.rs, .int .i64 c.rc, .int .i64 c.lo, .int .i64 c.hi, .int .i64 c.tt, .slice none 0 0,
  .int .i64 0, .int .i64 0, .int .i64 0, .slice none 0 0, .slice none 0 0, .slice none 0 0, .int .i64 0, .slice none 0 0, .slice none 0 0]
theorem wf_of {n : Int} (h : -9223372036854775808 ≤ n) (h2 : n ≤ 9223372036854775807) : (Lit.int .i64 n).wf = true := by simp [Lit.wf, IntKind.min, IntKind.max, IntKind.bits, IntKind.signed]; omega
/-- A row of one packet, newly made. -/
def Pk1 (w : World) (x : Ending) (w' : World) (p : Array Value) : Prop := ∃ b, x = .returned (.slice (some ⟨b, 0, none⟩) 1 1) ∧ w.heap.size ≤ b ∧ Bx w' b p 42
set_option maxHeartbeats 2000000 in
theorem Tick_first {w : World} {B m n : Nat} {L : Int → Int} {a : As} {k : Kl} (h : Bx w B (Xc k a (.map (some m))) 57) (hm : Mc w m n L) (ha : a.asks = true) (hs : a.sent = false) (hid : 1 ≤ a.id ∧ a.id ≤ 1099511627776) (hg : 0 ≤ a.group ∧ a.group ≤ 6) :
    Calls Try.prog 17 #[.pointer (some ⟨B, 0, none⟩)] w fun x w' => Pk1 w x w' (pK (-a.id) (L a.group) a.group a.c) ∧
      Tn w B (Xc k { a with sent := true, waited := 0 } (.map (some m))) 57 w' := by
  have hb := Busy_any h
  rw [ha] at hb
  have c24 : w.cell? ⟨B, 24, none⟩ = some (.bool a.sent) := h.cell 24 _ rfl
  rw [hs] at c24
  have c2 : w.cell? ⟨B, 2, none⟩ = some (.int .i64 a.retry) := h.cell 2 _ rfl
  have c25 : w.cell? ⟨B, 25, none⟩ = some (.int .i64 a.waited) := h.cell 25 _ rfl
  have f24 := h.frozen 24
  have hmx : Try.prog.follows .mixedOrders = true := by kernel_rfl
  have HB := mkH hb
  have H := mkH h
  have HM := mkH hm
  have HA := mkH (And.intro ha hs)
  clear h hm hb ha hs
  go_enter Try.func17, Try.ntmps17
  go_wp2_with (first
    | (refine HB.out.mono ?_; rintro x w2 ⟨rfl, rfl⟩))
  go_quiet (fail)
  have H3 := mkH (show Bx (w2.drewN nq) B (Xc k a (.map (some m))) 57 from H.out)
  have HM3 := mkH (HM.out.below (Gf.below_drewN (Below.refl _ w2) nq))
  have HB3 := mkH (Gf.below_drewN (Below.refl w2.heap.size w2) nq)
  generalize w2.drewN nq = w3 at *
  have c24 : w3.cell? ⟨B, 24, none⟩ = some (.bool false) := by rw [← HA.out.2]; exact H3.out.cell 24 _ rfl
  have c25 : w3.cell? ⟨B, 25, none⟩ = some (.int .i64 a.waited) := H3.out.cell 25 _ rfl
  have f24 := H3.out.frozen 24
  have H4 := mkH (Bx.setTo H3.out (cs' := Xc k { a with sent := true } (.map (some m))) 24 (.bool true) rfl)
  have f25 := H4.out.frozen 25
  have d25 : (w3.setCell ⟨B, 24, none⟩ (.bool true)).cell? ⟨B, 25, none⟩ = some (.int .i64 a.waited) := H4.out.cell 25 _ rfl
  have H5 := mkH (Bx.setTo H4.out (cs' := Xc k { a with sent := true, waited := 0 } (.map (some m))) 25 (.int .i64 0) rfl)
  have HF := mkH (((Fr.ofBelow (F := fun q => q = B) HB3.out).trans (H3.out.frset 24 (.bool true)) (fun i hi => .inl hi)).trans (H4.out.frset 25 (.int .i64 0)) (fun i hi => .inl hi))
  have HM5 := mkH ((HM3.out.fr (H3.out.frset 24 (.bool true)) (HM3.out.ne H3.out).symm).fr (H4.out.frset 25 (.int .i64 0)) ((HM3.out.fr (H3.out.frset 24 (.bool true)) (HM3.out.ne H3.out).symm).ne H4.out).symm)
  clear H3 H4 HM3 HB3 H HM HB
  go_wp2_with fail
  generalize (w3.setCell ⟨B, 24, none⟩ (.bool true)).setCell ⟨B, 25, none⟩ (.int .i64 0) = V at *
  have HS : Hid (∀ W, Below V.heap.size V W → W.cell? ⟨B, 0, none⟩ = some (.int .i64 a.id) ∧ W.cell? ⟨B, 3, none⟩ = some (.int .i64 a.group) ∧ W.cell? ⟨B, 26, none⟩ = some (.map (some m)) ∧ (Instr.lookup 51 (.map (some m)) (.int .i64 a.group) false).run Try.prog W = .ok (.int .i64 (L a.group)) W ∧ (loadVar 32 ⟨B, 4, none⟩).run Try.prog W = .ok (.agg #[.int .i64 a.c.k, .int .i64 a.c.client, .int .i64 a.c.num, .int .i64 a.c.time, .int .i64 a.c.queue, .string a.c.group, .string a.c.body, .string a.c.token, .string a.c.attempt, .int .i64 a.c.mx, .int .i64 a.c.secs, .int .i64 a.c.rq, .string a.c.rg, .int .i64 a.c.rs, .int .i64 a.c.rc, .int .i64 a.c.lo, .int .i64 a.c.hi, .int .i64 a.c.tt, .slice none 0 0]) W) := mkH (fun W hb => by
    have h6 := H5.out.bel hb
    exact ⟨h6.cell 0 _ rfl, h6.cell 3 _ rfl, h6.cell 26 _ rfl, (HM5.out.below hb).look (wf_of (by omega) (by omega)), load_part (P := Try.prog) h6 Try.underlying32 rfl 4 #[.int .i64 a.c.k, .int .i64 a.c.client, .int .i64 a.c.num, .int .i64 a.c.time, .int .i64 a.c.queue, .string a.c.group, .string a.c.body, .string a.c.token, .string a.c.attempt, .int .i64 a.c.mx, .int .i64 a.c.secs, .int .i64 a.c.rq, .string a.c.rg, .int .i64 a.c.rs, .int .i64 a.c.rc, .int .i64 a.c.lo, .int .i64 a.c.hi, .int .i64 a.c.tt, .slice none 0 0] infoC (by intro j v hv; rcases j with _ | _ | _ | _ | _ | _ | _ | _ | _ | _ | _ | _ | _ | _ | _ | _ | _ | _ | _ | j <;> first | exact hv | simp at hv)⟩)
  refine wp_region_held_drew (S := fun W => W.cell? ⟨B, 0, none⟩ = some (.int .i64 a.id) ∧ W.cell? ⟨B, 3, none⟩ = some (.int .i64 a.group) ∧ W.cell? ⟨B, 26, none⟩ = some (.map (some m)) ∧ (Instr.lookup 51 (.map (some m)) (.int .i64 a.group) false).run Try.prog W = .ok (.int .i64 (L a.group)) W ∧ (loadVar 32 ⟨B, 4, none⟩).run Try.prog W = .ok (.agg #[.int .i64 a.c.k, .int .i64 a.c.client, .int .i64 a.c.num, .int .i64 a.c.time, .int .i64 a.c.queue, .string a.c.group, .string a.c.body, .string a.c.token, .string a.c.attempt, .int .i64 a.c.mx, .int .i64 a.c.secs, .int .i64 a.c.rq, .string a.c.rg, .int .i64 a.c.rs, .int .i64 a.c.rc, .int .i64 a.c.lo, .int .i64 a.c.hi, .int .i64 a.c.tt, .slice none 0 0]) W) hmx (HS.out _ (Below.drew (Below.refl _ _))) (fun hHeld => ?_)
  have HVV : Hid (Below V.heap.size V V.drew) := mkH (Below.refl _ _).drew
  generalize V.drew = V0 at *
  refine wpAnyH_take (i := 0) (oi := { dst := some 42, op := _, type := _, pos := _, after := _, guard := _ }) (v := ?_) rfl (by kernel_rfl) (by kernel_rfl) (by kernel_rfl) (fun _ _ _ h => h) (Or.inl ⟨by rfl, ?_⟩) (by assumption) ?_
  rotate_left
  · (intro W hSw; (try dsimp only at hSw); go_simp; try (with_reducible rfl))
  try simp only [Act.put, List.setIfInBounds_toArray, List.set_cons_zero, List.set_cons_succ]
  refine wpAnyH_take (i := 1) (oi := { dst := some 43, op := _, type := _, pos := _, after := _, guard := _ }) (v := ?_) rfl (by kernel_rfl) (by kernel_rfl) (by kernel_rfl) (fun _ _ _ h => h) (Or.inl ⟨by rfl, ?_⟩) (by assumption) ?_
  rotate_left
  · (intro W hSw; (try dsimp only at hSw); go_simp; try (with_reducible rfl))
  try simp only [Act.put, List.setIfInBounds_toArray, List.set_cons_zero, List.set_cons_succ]
  refine wpAnyH_take (i := 2) (oi := { dst := some 44, op := _, type := _, pos := _, after := _, guard := _ }) (v := ?_) rfl (by kernel_rfl) (by kernel_rfl) (by kernel_rfl) (fun _ _ _ h => h) (Or.inl ⟨by rfl, ?_⟩) (by assumption) ?_
  rotate_left
  · (intro W hSw; (try dsimp only at hSw); go_simp; try (with_reducible rfl))
  try simp only [Act.put, List.setIfInBounds_toArray, List.set_cons_zero, List.set_cons_succ]
  refine wpAnyH_take (i := 3) (oi := { dst := some 45, op := _, type := _, pos := _, after := _, guard := _ }) (v := ?_) rfl (by kernel_rfl) (by kernel_rfl) (by kernel_rfl) (fun _ _ _ h => h) (Or.inl ⟨by rfl, ?_⟩) (by assumption) ?_
  rotate_left
  · (intro W hSw; (try dsimp only at hSw); go_simp; try (with_reducible rfl))
  try simp only [Act.put, List.setIfInBounds_toArray, List.set_cons_zero, List.set_cons_succ]
  refine wpAnyH_take (i := 4) (oi := { dst := some 46, op := _, type := _, pos := _, after := _, guard := _ }) (v := .int .i64 (-a.id)) rfl (by kernel_rfl) (by kernel_rfl) (by kernel_rfl) (fun _ _ _ h => h) (Or.inl ⟨by rfl, ?_⟩) (by assumption) ?_
  · (intro W hSw; (try dsimp only at hSw); (go_simp; rw [show IntKind.i64.wrap (-a.id) = -a.id by rw [IntKind.wrap_i64]; omega]))
  try simp only [Act.put, List.setIfInBounds_toArray, List.set_cons_zero, List.set_cons_succ]
  refine wpAnyH_take (i := 5) (oi := { dst := some 47, op := _, type := _, pos := _, after := _, guard := _ }) (v := ?_) rfl (by kernel_rfl) (by kernel_rfl) (by kernel_rfl) (fun _ _ _ h => h) (Or.inl ⟨by rfl, ?_⟩) (by assumption) ?_
  rotate_left
  · (intro W hSw; (try dsimp only at hSw); go_simp; try (with_reducible rfl))
  try simp only [Act.put, List.setIfInBounds_toArray, List.set_cons_zero, List.set_cons_succ]
  refine wpAnyH_take (i := 6) (oi := { dst := some 48, op := _, type := _, pos := _, after := _, guard := _ }) (v := ?_) rfl (by kernel_rfl) (by kernel_rfl) (by kernel_rfl) (fun _ _ _ h => h) (Or.inl ⟨by rfl, ?_⟩) (by assumption) ?_
  rotate_left
  · (intro W hSw; (try dsimp only at hSw); go_simp; try (with_reducible rfl))
  try simp only [Act.put, List.setIfInBounds_toArray, List.set_cons_zero, List.set_cons_succ]
  refine wpAnyH_take (i := 7) (oi := { dst := some 49, op := _, type := _, pos := _, after := _, guard := _ }) (v := ?_) rfl (by kernel_rfl) (by kernel_rfl) (by kernel_rfl) (fun _ _ _ h => h) (Or.inl ⟨by rfl, ?_⟩) (by assumption) ?_
  rotate_left
  · (intro W hSw; (try dsimp only at hSw); go_simp; try (with_reducible rfl))
  try simp only [Act.put, List.setIfInBounds_toArray, List.set_cons_zero, List.set_cons_succ]
  refine wpAnyH_take (i := 8) (oi := { dst := some 50, op := _, type := _, pos := _, after := _, guard := _ }) (v := ?_) rfl (by kernel_rfl) (by kernel_rfl) (by kernel_rfl) (fun _ _ _ h => h) (Or.inl ⟨by rfl, ?_⟩) (by assumption) ?_
  rotate_left
  · (intro W hSw; (try dsimp only at hSw); go_simp; try (with_reducible rfl))
  try simp only [Act.put, List.setIfInBounds_toArray, List.set_cons_zero, List.set_cons_succ]
  refine wpAnyH_take (i := 9) (oi := { dst := some 51, op := _, type := _, pos := _, after := _, guard := _ }) (v := ?_) rfl (by kernel_rfl) (by kernel_rfl) (by kernel_rfl) (fun _ _ _ h => h) (Or.inl ⟨by rfl, ?_⟩) (by assumption) ?_
  rotate_left
  · (intro W hSw; (try dsimp only at hSw); go_simp; try (with_reducible rfl))
  try simp only [Act.put, List.setIfInBounds_toArray, List.set_cons_zero, List.set_cons_succ]
  refine wpAnyH_take (i := 10) (oi := { dst := some 52, op := _, type := _, pos := _, after := _, guard := _ }) (v := ?_) rfl (by kernel_rfl) (by kernel_rfl) (by kernel_rfl) (fun _ _ _ h => h) (Or.inl ⟨by rfl, ?_⟩) (by assumption) ?_
  rotate_left
  · (intro W hSw; (try dsimp only at hSw); go_simp; try (with_reducible rfl))
  try simp only [Act.put, List.setIfInBounds_toArray, List.set_cons_zero, List.set_cons_succ]
  refine wpAnyH_take (i := 11) (oi := { dst := some 53, op := _, type := _, pos := _, after := _, guard := _ }) (v := ?_) rfl (by kernel_rfl) (by kernel_rfl) (by kernel_rfl) (fun _ _ _ h => h) (Or.inl ⟨by rfl, ?_⟩) (by assumption) ?_
  rotate_left
  · (intro W hSw; (try dsimp only at hSw); go_simp; try (with_reducible rfl))
  try simp only [Act.put, List.setIfInBounds_toArray, List.set_cons_zero, List.set_cons_succ]
  refine wpAnyH_take (i := 12) (oi := { dst := some 54, op := _, type := _, pos := _, after := _, guard := _ }) (v := ?_) rfl (by kernel_rfl) (by kernel_rfl) (by kernel_rfl) (fun _ _ _ h => h) (Or.inl ⟨by rfl, ?_⟩) (by assumption) ?_
  rotate_left
  · (intro W hSw; (try dsimp only at hSw); go_simp; try (with_reducible rfl))
  try simp only [Act.put, List.setIfInBounds_toArray, List.set_cons_zero, List.set_cons_succ]
  refine wpAnyH_take (i := 13) (oi := { dst := some 55, op := _, type := _, pos := _, after := _, guard := _ }) (v := .int .i64 (L a.group)) rfl (by kernel_rfl) (by kernel_rfl) (by kernel_rfl) (fun _ _ _ h => h) (Or.inl ⟨by rfl, ?_⟩) (by assumption) ?_
  · (intro W hSw; (try dsimp only at hSw); (obtain ⟨s0, s1, s2, s3, s4⟩ := hSw; go_simp))
  try simp only [Act.put, List.setIfInBounds_toArray, List.set_cons_zero, List.set_cons_succ]
  refine wpAnyH_take (i := 14) (oi := { dst := some 56, op := _, type := _, pos := _, after := _, guard := _ }) (v := ?_) rfl (by kernel_rfl) (by kernel_rfl) (by kernel_rfl) (fun _ _ _ h => h) (Or.inl ⟨by rfl, ?_⟩) (by assumption) ?_
  rotate_left
  · (intro W hSw; (try dsimp only at hSw); go_simp; try (with_reducible rfl))
  try simp only [Act.put, List.setIfInBounds_toArray, List.set_cons_zero, List.set_cons_succ]
  refine wpAnyH_take (i := 15) (oi := { dst := some 57, op := _, type := _, pos := _, after := _, guard := _ }) (v := ?_) rfl (by kernel_rfl) (by kernel_rfl) (by kernel_rfl) (fun _ _ _ h => h) (Or.inl ⟨by rfl, ?_⟩) (by assumption) ?_
  rotate_left
  · (intro W hSw; (try dsimp only at hSw); go_simp; try (with_reducible rfl))
  try simp only [Act.put, List.setIfInBounds_toArray, List.set_cons_zero, List.set_cons_succ]
  refine wpAnyH_take (i := 16) (oi := { dst := some 58, op := _, type := _, pos := _, after := _, guard := _ }) (v := ?_) rfl (by kernel_rfl) (by kernel_rfl) (by kernel_rfl) (fun _ _ _ h => h) (Or.inl ⟨by rfl, ?_⟩) (by assumption) ?_
  rotate_left
  · (intro W hSw; (try dsimp only at hSw); go_simp; try (with_reducible rfl))
  try simp only [Act.put, List.setIfInBounds_toArray, List.set_cons_zero, List.set_cons_succ]
  refine wpAnyH_take (i := 17) (oi := { dst := some 59, op := _, type := _, pos := _, after := _, guard := _ }) (v := ?_) rfl (by kernel_rfl) (by kernel_rfl) (by kernel_rfl) (fun _ _ _ h => h) (Or.inl ⟨by rfl, ?_⟩) (by assumption) ?_
  rotate_left
  · (intro W hSw; (try dsimp only at hSw); go_simp; try (with_reducible rfl))
  try simp only [Act.put, List.setIfInBounds_toArray, List.set_cons_zero, List.set_cons_succ]
  refine wpAnyH_take (i := 18) (oi := { dst := some 60, op := _, type := _, pos := _, after := _, guard := _ }) (v := ?_) rfl (by kernel_rfl) (by kernel_rfl) (by kernel_rfl) (fun _ _ _ h => h) (Or.inl ⟨by rfl, ?_⟩) (by assumption) ?_
  rotate_left
  · (intro W hSw; (try dsimp only at hSw); go_simp; try (with_reducible rfl))
  try simp only [Act.put, List.setIfInBounds_toArray, List.set_cons_zero, List.set_cons_succ]
  refine wpAnyH_take (i := 19) (oi := { dst := some 61, op := _, type := _, pos := _, after := _, guard := _ }) (v := ?_) rfl (by kernel_rfl) (by kernel_rfl) (by kernel_rfl) (fun _ _ _ h => h) (Or.inl ⟨by rfl, ?_⟩) (by assumption) ?_
  rotate_left
  · (intro W hSw; (try dsimp only at hSw); go_simp; try (with_reducible rfl))
  try simp only [Act.put, List.setIfInBounds_toArray, List.set_cons_zero, List.set_cons_succ]
  refine wpAnyH_take (i := 20) (oi := { dst := some 62, op := _, type := _, pos := _, after := _, guard := _ }) (v := ?_) rfl (by kernel_rfl) (by kernel_rfl) (by kernel_rfl) (fun _ _ _ h => h) (Or.inl ⟨by rfl, ?_⟩) (by assumption) ?_
  rotate_left
  · (intro W hSw; (try dsimp only at hSw); go_simp; try (with_reducible rfl))
  try simp only [Act.put, List.setIfInBounds_toArray, List.set_cons_zero, List.set_cons_succ]
  refine wpAnyH_take (i := 21) (oi := { dst := some 63, op := _, type := _, pos := _, after := _, guard := _ }) (v := .agg #[.int .i64 a.c.k, .int .i64 a.c.client, .int .i64 a.c.num, .int .i64 a.c.time, .int .i64 a.c.queue, .string a.c.group, .string a.c.body, .string a.c.token, .string a.c.attempt, .int .i64 a.c.mx, .int .i64 a.c.secs, .int .i64 a.c.rq, .string a.c.rg, .int .i64 a.c.rs, .int .i64 a.c.rc, .int .i64 a.c.lo, .int .i64 a.c.hi, .int .i64 a.c.tt, .slice none 0 0]) rfl (by kernel_rfl) (by kernel_rfl) (by kernel_rfl) (fun _ _ _ h => h) (Or.inl ⟨by rfl, ?_⟩) (by assumption) ?_
  · (intro W hSw; (try dsimp only at hSw); exact Gk.run_ld rfl rfl hSw.2.2.2.2)
  try simp only [Act.put, List.setIfInBounds_toArray, List.set_cons_zero, List.set_cons_succ]
  refine wpAnyH_ready (rs := [22]) (by kernel_rfl) (by simp) ?_
  refine (AllReadyH.cons (o := { dst := some 64, op := _, type := _, pos := _, after := _, guard := _ }) rfl (fun K hK => ?_) AllReadyH.nil)
  go_simp
  refine (ownCmd_any _ a.c).mono ?_
  rintro e1 V1 ⟨rfl, hb7⟩
  have HV1 := mkH (HVV.out.trans (hb7.mono HVV.out.size))
  clear hb7
  go_wp2_with fail
  refine hK.out _ _ ?_ (fun hHeld => ?_)
  · exact HS.out _ HV1.out
  clear hK K
  try simp only [Act.put, List.setIfInBounds_toArray, List.set_cons_zero, List.set_cons_succ]
  refine wpAnyH_take (i := 23) (oi := { dst := some 65, op := _, type := _, pos := _, after := _, guard := _ }) (v := .agg #[.int .i64 2, .int .i64 (-a.id), .int .i64 (L a.group), .int .i64 a.group, .int .i64 0, .int .i64 0, .int .i64 0, .int .i64 0, .int .i64 0, .int .i64 0, .slice none 0 0, .slice none 0 0, .int .i64 a.c.k, .int .i64 a.c.client, .int .i64 a.c.num, .int .i64 a.c.time, .int .i64 a.c.queue, .string a.c.group, .string a.c.body, .string a.c.token, .string a.c.attempt, .int .i64 a.c.mx, .int .i64 a.c.secs, .int .i64 a.c.rq, .string a.c.rg, .int .i64 a.c.rs, .int .i64 a.c.rc, .int .i64 a.c.lo, .int .i64 a.c.hi, .int .i64 a.c.tt, .slice none 0 0, .int .i64 0, .int .i64 0, .int .i64 0, .slice none 0 0, .slice none 0 0, .slice none 0 0, .int .i64 0, .slice none 0 0, .slice none 0 0]) rfl (by kernel_rfl) (by kernel_rfl) (by kernel_rfl) (fun _ _ _ h => h) (Or.inl ⟨by rfl, ?_⟩) (by assumption) ?_
  · (intro W hSw; (try dsimp only at hSw); (unfold cV; kernel_rfl))
  try simp only [Act.put, List.setIfInBounds_toArray, List.set_cons_zero, List.set_cons_succ]
  refine wpAnyH_ready (rs := [24]) (by kernel_rfl) (by simp) ?_
  refine (AllReadyH.cons (o := { dst := some 66, op := _, type := _, pos := _, after := _, guard := _ }) rfl (fun K hK => ?_) AllReadyH.nil)
  go_simp
  refine hK.out _ _ ?_ (fun hHeld => ?_)
  · exact HS.out _ (HV1.out.alloc HV1.out.size _)
  clear hK K
  try simp only [Act.put, List.setIfInBounds_toArray, List.set_cons_zero, List.set_cons_succ]
  refine wpAnyH_take (i := 25) (oi := { dst := some 2, op := _, type := _, pos := _, after := _, guard := _ }) (v := ?_) rfl (by kernel_rfl) (by kernel_rfl) (by kernel_rfl) (fun _ _ _ h => h) (Or.inl ⟨by rfl, ?_⟩) (by assumption) ?_
  rotate_left
  · (intro W hSw; (try dsimp only at hSw); go_simp; try (with_reducible rfl))
  try simp only [Act.put, List.setIfInBounds_toArray, List.set_cons_zero, List.set_cons_succ]
  refine wpAnyH_done (by kernel_rfl) ?_ _
  all_goals
    go_wp2
    go_ret
    have hb8 := HV1.out.alloc HV1.out.size (.cells (pK (-a.id) (L a.group) a.group a.c) 42)
    exact ⟨⟨V1.heap.size, rfl, Nat.le_trans HF.out.size HV1.out.size, Bx.new _ _ _⟩, H5.out.bel hb8, HF.out.trans (Fr.ofBelow hb8) (fun i hi => .inl hi)⟩
end Go.Proofs.Ytabckkepkennhaa.Ft
