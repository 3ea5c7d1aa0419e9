/-
  A client's Tick that asks for a chart; the step's entry. Written by gen_frl.py.
-/
import Derived.Test.YtabckkepkennhaaFrK
import Derived.Test.YtabckkepkennhaaFrT
namespace Go.Proofs.Ytabckkepkennhaa.Fl
open Go.RowKit Kt Gf Gk Fp Fa Fb Fc Fr1 Fk Fe Ft
open Nr (RowS)
set_option linter.unusedVariables false
set_option linter.unusedSimpArgs false
set_option maxRecDepth 20000

set_option maxHeartbeats 1000000 in
theorem Tick_wants {w : World} {B m : Nat} {a : As} {s : Ks} (h : Bx w B (Xc (kl s) a (.map (some m))) 57) (hb : s.busy = true) (hw : s.wants = true) (hid : 1 ≤ a.id ∧ a.id ≤ 1099511627776) (hn : 1 ≤ a.nodes ∧ a.nodes ≤ 5) (hp : 0 ≤ s.mapper ∧ s.mapper < a.nodes) :
    Calls Try.prog 9 #[.pointer (some ⟨B, 0, none⟩)] w fun x w' => Pk1 w x w' (pM a s) ∧ Tn w B (Xc (kl { s with mapper := (s.mapper + 1) % a.nodes }) a (.map (some m))) 57 w' := by
  have c38 : w.cell? ⟨B, 38, none⟩ = some (.bool s.wants) := h.cell 38 _ rfl
  rw [hw] at c38
  have hbu := BusyC_any h
  rw [hb] at hbu
  have HBU := mkH hbu
  have HK := mkH (show Calls Try.prog 31 #[.pointer (some ⟨B, 0, none⟩)] w fun x w' => x = .returned (.agg #[.int .i64 4, .int .i64 (-a.id), .int .i64 s.mapper, .int .i64 0, .int .i64 0, .int .i64 0, .int .i64 0, .int .i64 0, .int .i64 0, .int .i64 0, .slice none 0 0, .slice none 0 0, .int .i64 0, .int .i64 0, .int .i64 0, .int .i64 0, .int .i64 0, .string .empty, .string .empty, .string .empty, .string .empty, .int .i64 0, .int .i64 0, .int .i64 0, .string .empty, .int .i64 0, .int .i64 0, .int .i64 0, .int .i64 0, .int .i64 0, .slice none 0 0, .int .i64 0, .int .i64 0, .int .i64 0, .slice none 0 0, .slice none 0 0, .slice none 0 0, .int .i64 0, .slice none 0 0, .slice none 0 0]) ∧ Tn w B (Xc (kl { s with mapper := (s.mapper + 1) % a.nodes }) a (.map (some m))) 57 w' from askForChart_any h hid hn hp)
  clear h hbu hb hw
  go_enter Try.func9, Try.ntmps9
  go_wp2_with (first
    | (refine HBU.out.mono ?_; rintro x w2 ⟨rfl, rfl⟩)
    | (refine HK.out.mono ?_; rintro x w3 ⟨rfl, hT⟩; have HT := mkH hT; clear hT))
  go_ret
  have hb8 : Below w3.heap.size w3 (w3.alloc (.cells (pM a s) 42)) := (Below.refl _ _).alloc (Nat.le_refl _) _
  exact ⟨⟨w3.heap.size, rfl, HT.out.2.size, Bx.new _ _ _⟩, HT.out.1.bel hb8, HT.out.2.trans (Fr.ofBelow hb8) (fun i hi => .inl hi)⟩
def En.none : En := ⟨.empty, .empty, .empty, 0, .empty, 0, 0⟩
theorem cE_all (x : En) : (cE x).toArray.all (fun u => u.oneCell') = true := by rw [List.all_toArray]; rfl
theorem infoEn : (Try.prog.info? 92).map (·.size) = some 7 := by kernel_rfl
theorem load_en {w : World} {b : Nat} {x : En} {t : TypeId} (h : Bx w b (cE x).toArray t) : (loadVar 92 ⟨b, 0, none⟩).run Try.prog w = .ok (.agg (cE x).toArray) w := load_bx (P := Try.prog) h Try.underlying92 rfl infoEn
set_option maxHeartbeats 2000000 in
theorem entry_any {w : World} {B m : Nat} {a : As} {s : Ks} (h : Bx w B (Xc (kl s) a (.map (some m))) 57) {ao ra : Option Addr} {cap rn rc : Nat} {es : List En} (he : s.ent = .slice ao es.length cap) (hr : s.reps = .slice ra rn rc) (hrow : RowS 7 cE w ao es) {x : En} (hx : es[rn]? = some x) (hl : es.length ≤ 1000000000) :
    Calls Try.prog 49 #[.pointer (some ⟨B, 0, none⟩)] w fun e w' => e = .returned (.agg #[.string x.g, .string x.b, .string x.t, .int .i64 x.rq, .string x.rg, .int .i64 x.rs, .int .i64 x.rc]) ∧ Below w.heap.size w w' := by
  have hmx : Try.prog.follows .mixedOrders = true := by kernel_rfl
  obtain ⟨V, hV⟩ : ∃ V, V = w.alloc (.cells (cE En.none).toArray 92) := ⟨_, rfl⟩
  have HB := mkH (show Below w.heap.size w V by rw [hV]; exact (Below.refl _ w).alloc (Nat.le_refl _) _)
  have HZ := mkH (show Bx V w.heap.size (cE En.none).toArray 92 by rw [hV]; exact Bx.new _ _ _)
  have HV := mkH hV
  have hrl : rn < es.length := (List.getElem?_eq_some_iff.1 hx).1
  obtain ⟨bk, o, rfl, hcs⟩ := hrow (by omega)
  have hi0 : (0 : Int) ≤ (rn : Int) := by omega
  have hi1 : (rn : Int) < (es.length : Int) := by omega
  have HS : Hid (∀ W, Below w.heap.size w W → Bx W w.heap.size (cE En.none).toArray 92 → W.cell? ⟨B, 32, none⟩ = some (.slice (some ⟨bk, o, none⟩) es.length cap) ∧ W.cell? ⟨B, 35, none⟩ = some (.slice ra rn rc) ∧ (loadVar 92 ⟨bk, o + rn * 7, none⟩).run Try.prog W = .ok (.agg #[.string x.g, .string x.b, .string x.t, .int .i64 x.rq, .string x.rg, .int .i64 x.rs, .int .i64 x.rc]) W ∧ Bx W w.heap.size (cE En.none).toArray 92 ∧ Below w.heap.size w W) := mkH (fun W hb hz => by
    have h6 := h.bel hb
    have h7 := RowS.below (n := 7) (cs := cE) (fun _ => ⟨bk, o, rfl, hcs⟩) hb
    obtain ⟨b2, o2, e2, hc2⟩ := h7 (by omega)
    cases e2
    refine ⟨(h6.cell 32 _ rfl).trans (congrArg some he), (h6.cell 35 _ rfl).trans (congrArg some hr), ?_, hz, hb⟩
    exact run_load_agg (P := Try.prog) 92 _ Try.underlying92 rfl bk (o + rn * 7) (cE x) infoEn (fun j v hv => hc2 rn x hx j v hv))
  clear hV h hcs
  go_enter Try.func49, Try.ntmps49
  go_upto_region 1 with fail
  change Code.wp _ _ _ _ (w.alloc (.cells (cE En.none).toArray 92))
  rw [show w.alloc (.cells (cE En.none).toArray 92) = V from HV.out.symm]
  refine Rg.region_G hmx 12 (fun W => W.cell? ⟨B, 32, none⟩ = some (.slice (some ⟨bk, o, none⟩) es.length cap) ∧ W.cell? ⟨B, 35, none⟩ = some (.slice ra rn rc) ∧ (loadVar 92 ⟨bk, o + rn * 7, none⟩).run Try.prog W = .ok (.agg #[.string x.g, .string x.b, .string x.t, .int .i64 x.rq, .string x.rg, .int .i64 x.rs, .int .i64 x.rc]) W ∧ Bx W w.heap.size (cE En.none).toArray 92 ∧ Below w.heap.size w W) (HS.out _ HB.out.drew HZ.out) (fun hHeld => ?_)
  generalize V.drew = V2 at *
  refine Rg.anyG_pure (i := 0) (oi := { dst := some 3, op := _, type := _, pos := _, after := _, guard := _ }) (v := ?_) rfl (by kernel_rfl) (by kernel_rfl) (by kernel_rfl) (by rfl) (fun _ _ _ h => h) (Or.inl ⟨by rfl, ?_⟩) (fun _ => by assumption) ?_
  rotate_left
  · (intro W hSw; (try dsimp only at hSw); go_simp; try (with_reducible rfl))
  try simp only [Act.put, List.setIfInBounds_toArray, List.set_cons_zero, List.set_cons_succ]
  refine Rg.anyG_pure (i := 1) (oi := { dst := some 4, op := _, type := _, pos := _, after := _, guard := _ }) (v := ?_) rfl (by kernel_rfl) (by kernel_rfl) (by kernel_rfl) (by rfl) (fun _ _ _ h => h) (Or.inl ⟨by rfl, ?_⟩) (fun _ => by assumption) ?_
  rotate_left
  · (intro W hSw; (try dsimp only at hSw); go_simp; try (with_reducible rfl))
  try simp only [Act.put, List.setIfInBounds_toArray, List.set_cons_zero, List.set_cons_succ]
  refine Rg.anyG_pure (i := 2) (oi := { dst := some 5, op := _, type := _, pos := _, after := _, guard := _ }) (v := ?_) rfl (by kernel_rfl) (by kernel_rfl) (by kernel_rfl) (by rfl) (fun _ _ _ h => h) (Or.inl ⟨by rfl, ?_⟩) (fun _ => by assumption) ?_
  rotate_left
  · (intro W hSw; (try dsimp only at hSw); go_simp; try (with_reducible rfl))
  try simp only [Act.put, List.setIfInBounds_toArray, List.set_cons_zero, List.set_cons_succ]
  refine Rg.anyG_pure (i := 3) (oi := { dst := some 6, op := _, type := _, pos := _, after := _, guard := _ }) (v := ?_) rfl (by kernel_rfl) (by kernel_rfl) (by kernel_rfl) (by rfl) (fun _ _ _ h => h) (Or.inl ⟨by rfl, ?_⟩) (fun _ => by assumption) ?_
  rotate_left
  · (intro W hSw; (try dsimp only at hSw); go_simp; try (with_reducible rfl))
  try simp only [Act.put, List.setIfInBounds_toArray, List.set_cons_zero, List.set_cons_succ]
  refine Rg.anyG_take (i := 4) (oi := { dst := some 7, op := _, type := _, pos := _, after := _, guard := _ }) (v := .slice (some ⟨bk, o, none⟩) es.length cap) rfl (by kernel_rfl) (by kernel_rfl) (by kernel_rfl) [12] (by kernel_rfl) (fun _ _ _ h => h) (Or.inl ⟨by rfl, ?_⟩) (by assumption) ?_
  · (intro W hSw; (try dsimp only at hSw); (obtain ⟨s0, s1, s2, s3, s4⟩ := hSw; clear s2 s3 s4; go_simp))
  try simp only [Act.put, List.setIfInBounds_toArray, List.set_cons_zero, List.set_cons_succ]
  refine Rg.anyG_pure (i := 5) (oi := { dst := some 8, op := _, type := _, pos := _, after := _, guard := _ }) (v := ?_) rfl (by kernel_rfl) (by kernel_rfl) (by kernel_rfl) (by rfl) (fun _ _ _ h => h) (Or.inl ⟨by rfl, ?_⟩) (fun _ => by assumption) ?_
  rotate_left
  · (intro W hSw; (try dsimp only at hSw); go_simp; try (with_reducible rfl))
  try simp only [Act.put, List.setIfInBounds_toArray, List.set_cons_zero, List.set_cons_succ]
  refine Rg.anyG_pure (i := 6) (oi := { dst := some 9, op := _, type := _, pos := _, after := _, guard := _ }) (v := ?_) rfl (by kernel_rfl) (by kernel_rfl) (by kernel_rfl) (by rfl) (fun _ _ _ h => h) (Or.inl ⟨by rfl, ?_⟩) (fun _ => by assumption) ?_
  rotate_left
  · (intro W hSw; (try dsimp only at hSw); go_simp; try (with_reducible rfl))
  try simp only [Act.put, List.setIfInBounds_toArray, List.set_cons_zero, List.set_cons_succ]
  refine Rg.anyG_pure (i := 7) (oi := { dst := some 10, op := _, type := _, pos := _, after := _, guard := _ }) (v := ?_) rfl (by kernel_rfl) (by kernel_rfl) (by kernel_rfl) (by rfl) (fun _ _ _ h => h) (Or.inl ⟨by rfl, ?_⟩) (fun _ => by assumption) ?_
  rotate_left
  · (intro W hSw; (try dsimp only at hSw); go_simp; try (with_reducible rfl))
  try simp only [Act.put, List.setIfInBounds_toArray, List.set_cons_zero, List.set_cons_succ]
  refine Rg.anyG_take (i := 8) (oi := { dst := some 11, op := _, type := _, pos := _, after := _, guard := _ }) (v := .slice ra rn rc) rfl (by kernel_rfl) (by kernel_rfl) (by kernel_rfl) [12] (by kernel_rfl) (fun _ _ _ h => h) (Or.inl ⟨by rfl, ?_⟩) (by assumption) ?_
  · (intro W hSw; (try dsimp only at hSw); (obtain ⟨s0, s1, s2, s3, s4⟩ := hSw; clear s2 s3 s4; go_simp))
  try simp only [Act.put, List.setIfInBounds_toArray, List.set_cons_zero, List.set_cons_succ]
  refine Rg.anyG_pure (i := 9) (oi := { dst := some 12, op := _, type := _, pos := _, after := _, guard := _ }) (v := .int .i64 (rn : Int)) rfl (by kernel_rfl) (by kernel_rfl) (by kernel_rfl) (by rfl) (fun _ _ _ h => h) (Or.inl ⟨by rfl, ?_⟩) (fun _ => by assumption) ?_
  · (intro W hSw; (try dsimp only at hSw); (clear hSw; go_simp))
  try simp only [Act.put, List.setIfInBounds_toArray, List.set_cons_zero, List.set_cons_succ]
  refine Rg.anyG_pure (i := 10) (oi := { dst := some 13, op := _, type := _, pos := _, after := _, guard := _ }) (v := .pointer (some ⟨bk, o + rn * 7, none⟩)) rfl (by kernel_rfl) (by kernel_rfl) (by kernel_rfl) (by rfl) (fun _ _ _ h => h) (Or.inl ⟨by rfl, ?_⟩) (fun _ => by assumption) ?_
  · (intro W hSw; (try dsimp only at hSw); (clear hSw; go_simp))
  try simp only [Act.put, List.setIfInBounds_toArray, List.set_cons_zero, List.set_cons_succ]
  refine Rg.anyG_take (i := 11) (oi := { dst := some 14, op := _, type := _, pos := _, after := _, guard := _ }) (v := .agg #[.string x.g, .string x.b, .string x.t, .int .i64 x.rq, .string x.rg, .int .i64 x.rs, .int .i64 x.rc]) rfl (by kernel_rfl) (by kernel_rfl) (by kernel_rfl) [12] (by kernel_rfl) (fun _ _ _ h => h) (Or.inl ⟨by rfl, ?_⟩) (by assumption) ?_
  · (intro W hSw; (try dsimp only at hSw); exact Gk.run_ld rfl rfl hSw.2.2.1)
  try simp only [Act.put, List.setIfInBounds_toArray, List.set_cons_zero, List.set_cons_succ]
  refine Rg.anyG_ready (rs := [12]) (by kernel_rfl) (by simp) ?_
  refine Rg.AllG.last (o := { dst := none, op := _, type := _, pos := _, after := _, guard := _ }) rfl (by kernel_rfl) (fun K hK => ?_)
  have HH3 := mkH hHeld
  clear hHeld
  refine Gk.step_st (K := fun a w => K a w) rfl 92 (.tmp 2) (.tmp 14) rfl w.heap.size (cE x).toArray (cE En.none).toArray 92 rfl rfl HH3.out.2.2.2.1 infoEn rfl (cE_all x) ?_
  refine hK.out _ _ ?_
  clear hK K
  try simp only [Act.put, List.setIfInBounds_toArray, List.set_cons_zero, List.set_cons_succ]
  refine Rg.anyG_done (by kernel_rfl) ?_ _
  go_wp2
  have hz := HH3.out.2.2.2.1.row (cs := (cE x).toArray)
  refine bodyPost_ret (Gk.res_c rfl _ _ _ rfl (load_en hz)) rfl ⟨rfl, below_setRow HH3.out.2.2.2.2 (Nat.le_refl _) _⟩
end Go.Proofs.Ytabckkepkennhaa.Fl
