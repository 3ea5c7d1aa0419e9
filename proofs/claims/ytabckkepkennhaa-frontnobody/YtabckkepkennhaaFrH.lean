/-
  A chart that a client takes. Written by gen_frh.py.
-/
import Derived.Test.YtabckkepkennhaaFrX
import Derived.Test.YtabckkepkennhaaFrI
import Derived.Test.YtabckkepkennhaaChB
namespace Go.Proofs.Ytabckkepkennhaa.Fh
open Go.RowKit Kt Gf Gk Fp Fa Fb Fc Fr1
open Cr (RdP OwP)
open Cp (Pc mayC)
open Cb (may_any)
set_option linter.unusedVariables false
set_option linter.unusedSimpArgs false
set_option maxRecDepth 20000

set_option maxHeartbeats 4000000 in
theorem hearChart_take {w : World} {B m : Nat} {a : As} {s : Ks} (h : Bx w B (Xc (kl s) a (.map (some m))) 57) (hw : s.wants = true) (hid : 1 ≤ a.id ∧ a.id ≤ 1099511627776) (ha : a.asks = false) {pv : Array Value} {kd g cl nu er sq n ce : Int} {got dat abt : Value} {po : Option Addr} {pc : Nat} {ps : List Pc} (hp : Pv pv kd (-a.id) g cl nu er sq n got dat abt ce (.slice po ps.length pc)) (hps : RdP w po pc ps) (hpl : ps.length ≤ 100000) (hmay : mayC ce ps = true) (hge : s.ep ≤ ce) (hbt : s.busy = true) :
    Calls Try.prog 33 #[.pointer (some ⟨B, 0, none⟩), .agg pv] w fun x w' => x = .returned (.tuple #[]) ∧ ∃ po' pc', RdP w' po' pc' ps ∧ Tn w B (Xc (kl { s with ep := ce, pcs := .slice po' ps.length pc', wants := false }) a (.map (some m))) 57 w' := by
  have hmx : Try.prog.follows .mixedOrders = true := by kernel_rfl
  obtain ⟨V, hV⟩ : ∃ V, V = w.alloc (.cells pv 42) := ⟨_, rfl⟩
  have HB := mkH (show Below w.heap.size w V by rw [hV]; exact (Below.refl _ w).alloc (Nat.le_refl _) _)
  have hx1 : Bx V w.heap.size pv 42 := by rw [hV]; exact Bx.new _ _ _
  have HX0 := mkH h
  have HXV := mkH (h.bel HB.out)
  have HPS := mkH (fun W (hb : Below w.heap.size w W) => hps.below hb)
  have HP := mkH hp
  have HV := mkH hV
  have HXB := mkH hx1
  have HS : Hid (∀ W, Below w.heap.size w W → Bx W w.heap.size pv 42 → W.cell? ⟨B, 38, none⟩ = some (.bool true) ∧ W.cell? ⟨B, 0, none⟩ = some (.int .i64 a.id) ∧ W.cell? ⟨w.heap.size, 2, none⟩ = some (.int .i64 (-a.id)) ∧ W.cell? ⟨w.heap.size, 37, none⟩ = some (.int .i64 ce) ∧ W.cell? ⟨w.heap.size, 38, none⟩ = some (.slice po ps.length pc)) := mkH (fun W hb hx => ⟨((HX0.out.bel hb).cell 38 (.bool s.wants) rfl).trans (congrArg (fun t => some (Value.bool t)) hw), (HX0.out.bel hb).cell 0 _ rfl, hx.cell 2 _ HP.out.p2, hx.cell 37 _ HP.out.p37, hx.cell 38 _ HP.out.p38⟩)
  clear h hx1 hp hV hps
  go_enter Try.func33, Try.ntmps33
  go_upto_region 1 with fail
  rw [show w.alloc (.cells pv 42) = V from HV.out.symm]
  have HB0 := mkH HB.out.drew
  refine wp_region_held_drew (S := fun W => W.cell? ⟨B, 38, none⟩ = some (.bool true) ∧ W.cell? ⟨B, 0, none⟩ = some (.int .i64 a.id) ∧ W.cell? ⟨w.heap.size, 2, none⟩ = some (.int .i64 (-a.id)) ∧ W.cell? ⟨w.heap.size, 37, none⟩ = some (.int .i64 ce) ∧ W.cell? ⟨w.heap.size, 38, none⟩ = some (.slice po ps.length pc)) hmx (HS.out _ HB0.out HXB.out) (fun hHeld => ?_)
  have HXB0 := mkH (show Bx V.drew w.heap.size pv 42 from HXB.out)
  generalize V.drew = V0 at *
  refine wpAnyH_take (i := 0) (oi := { dst := some 4, op := _, type := _, pos := _, after := _, guard := _ }) (v := ?_) rfl (by kernel_rfl) (by kernel_rfl) (by kernel_rfl) (fun _ _ _ h => h) (Or.inl ⟨by rfl, ?_⟩) (by assumption) ?_
  rotate_left
  · (intro W hSw; (try dsimp only at hSw); go_simp; try (with_reducible rfl))
  try simp only [Act.put, List.setIfInBounds_toArray, List.set_cons_zero, List.set_cons_succ]
  refine wpAnyH_take (i := 1) (oi := { dst := some 5, op := _, type := _, pos := _, after := _, guard := _ }) (v := ?_) rfl (by kernel_rfl) (by kernel_rfl) (by kernel_rfl) (fun _ _ _ h => h) (Or.inl ⟨by rfl, ?_⟩) (by assumption) ?_
  rotate_left
  · (intro W hSw; (try dsimp only at hSw); go_simp; try (with_reducible rfl))
  try simp only [Act.put, List.setIfInBounds_toArray, List.set_cons_zero, List.set_cons_succ]
  refine wpAnyH_take (i := 2) (oi := { dst := some 6, op := _, type := _, pos := _, after := _, guard := _ }) (v := ?_) rfl (by kernel_rfl) (by kernel_rfl) (by kernel_rfl) (fun _ _ _ h => h) (Or.inl ⟨by rfl, ?_⟩) (by assumption) ?_
  rotate_left
  · (intro W hSw; (try dsimp only at hSw); go_simp; try (with_reducible rfl))
  try simp only [Act.put, List.setIfInBounds_toArray, List.set_cons_zero, List.set_cons_succ]
  refine wpAnyH_take (i := 3) (oi := { dst := some 7, op := _, type := _, pos := _, after := _, guard := _ }) (v := .bool true) rfl (by kernel_rfl) (by kernel_rfl) (by kernel_rfl) (fun _ _ _ h => h) (Or.inl ⟨by rfl, ?_⟩) (by assumption) ?_
  · (intro W hSw; (try dsimp only at hSw); (obtain ⟨s0, s1, s2, s3, s4⟩ := hSw; go_simp))
  try simp only [Act.put, List.setIfInBounds_toArray, List.set_cons_zero, List.set_cons_succ]
  refine wpAnyH_take (i := 4) (oi := { dst := some 8, op := _, type := _, pos := _, after := _, guard := _ }) (v := ?_) rfl (by kernel_rfl) (by kernel_rfl) (by kernel_rfl) (fun _ _ _ h => h) (Or.inl ⟨by rfl, ?_⟩) (by assumption) ?_
  rotate_left
  · (intro W hSw; (try dsimp only at hSw); go_simp; try (with_reducible rfl))
  try simp only [Act.put, List.setIfInBounds_toArray, List.set_cons_zero, List.set_cons_succ]
  refine wpAnyH_take (i := 5) (oi := { dst := some 9, op := _, type := _, pos := _, after := _, guard := _ }) (v := ?_) rfl (by kernel_rfl) (by kernel_rfl) (by kernel_rfl) (fun _ _ _ h => h) (Or.inl ⟨by rfl, ?_⟩) (by assumption) ?_
  rotate_left
  · (intro W hSw; (try dsimp only at hSw); go_simp; try (with_reducible rfl))
  try simp only [Act.put, List.setIfInBounds_toArray, List.set_cons_zero, List.set_cons_succ]
  refine wpAnyH_take (i := 6) (oi := { dst := some 10, op := _, type := _, pos := _, after := _, guard := _ }) (v := ?_) rfl (by kernel_rfl) (by kernel_rfl) (by kernel_rfl) (fun _ _ _ h => h) (Or.inl ⟨by rfl, ?_⟩) (by assumption) ?_
  rotate_left
  · (intro W hSw; (try dsimp only at hSw); go_simp; try (with_reducible rfl))
  try simp only [Act.put, List.setIfInBounds_toArray, List.set_cons_zero, List.set_cons_succ]
  refine wpAnyH_take (i := 7) (oi := { dst := some 11, op := _, type := _, pos := _, after := _, guard := _ }) (v := .int .i64 (-a.id)) rfl (by kernel_rfl) (by kernel_rfl) (by kernel_rfl) (fun _ _ _ h => h) (Or.inl ⟨by rfl, ?_⟩) (by assumption) ?_
  · (intro W hSw; (try dsimp only at hSw); (obtain ⟨s0, s1, s2, s3, s4⟩ := hSw; go_simp))
  try simp only [Act.put, List.setIfInBounds_toArray, List.set_cons_zero, List.set_cons_succ]
  refine wpAnyH_take (i := 8) (oi := { dst := some 12, op := _, type := _, pos := _, after := _, guard := _ }) (v := ?_) rfl (by kernel_rfl) (by kernel_rfl) (by kernel_rfl) (fun _ _ _ h => h) (Or.inl ⟨by rfl, ?_⟩) (by assumption) ?_
  rotate_left
  · (intro W hSw; (try dsimp only at hSw); go_simp; try (with_reducible rfl))
  try simp only [Act.put, List.setIfInBounds_toArray, List.set_cons_zero, List.set_cons_succ]
  refine wpAnyH_take (i := 9) (oi := { dst := some 13, op := _, type := _, pos := _, after := _, guard := _ }) (v := ?_) rfl (by kernel_rfl) (by kernel_rfl) (by kernel_rfl) (fun _ _ _ h => h) (Or.inl ⟨by rfl, ?_⟩) (by assumption) ?_
  rotate_left
  · (intro W hSw; (try dsimp only at hSw); go_simp; try (with_reducible rfl))
  try simp only [Act.put, List.setIfInBounds_toArray, List.set_cons_zero, List.set_cons_succ]
  refine wpAnyH_take (i := 10) (oi := { dst := some 14, op := _, type := _, pos := _, after := _, guard := _ }) (v := ?_) rfl (by kernel_rfl) (by kernel_rfl) (by kernel_rfl) (fun _ _ _ h => h) (Or.inl ⟨by rfl, ?_⟩) (by assumption) ?_
  rotate_left
  · (intro W hSw; (try dsimp only at hSw); go_simp; try (with_reducible rfl))
  try simp only [Act.put, List.setIfInBounds_toArray, List.set_cons_zero, List.set_cons_succ]
  refine wpAnyH_take (i := 11) (oi := { dst := some 15, op := _, type := _, pos := _, after := _, guard := _ }) (v := ?_) rfl (by kernel_rfl) (by kernel_rfl) (by kernel_rfl) (fun _ _ _ h => h) (Or.inl ⟨by rfl, ?_⟩) (by assumption) ?_
  rotate_left
  · (intro W hSw; (try dsimp only at hSw); go_simp; try (with_reducible rfl))
  try simp only [Act.put, List.setIfInBounds_toArray, List.set_cons_zero, List.set_cons_succ]
  refine wpAnyH_take (i := 12) (oi := { dst := some 16, op := _, type := _, pos := _, after := _, guard := _ }) (v := .int .i64 a.id) rfl (by kernel_rfl) (by kernel_rfl) (by kernel_rfl) (fun _ _ _ h => h) (Or.inl ⟨by rfl, ?_⟩) (by assumption) ?_
  · (intro W hSw; (try dsimp only at hSw); (obtain ⟨s0, s1, s2, s3, s4⟩ := hSw; go_simp))
  try simp only [Act.put, List.setIfInBounds_toArray, List.set_cons_zero, List.set_cons_succ]
  refine wpAnyH_take (i := 13) (oi := { dst := some 17, op := _, type := _, pos := _, after := _, guard := _ }) (v := .int .i64 (-a.id)) rfl (by kernel_rfl) (by kernel_rfl) (by kernel_rfl) (fun _ _ _ h => h) (Or.inl ⟨by rfl, ?_⟩) (by assumption) ?_
  · (intro W hSw; (try dsimp only at hSw); (go_simp; rw [show IntKind.i64.wrap (-a.id) = -a.id by rw [IntKind.wrap_i64]; omega]))
  try simp only [Act.put, List.setIfInBounds_toArray, List.set_cons_zero, List.set_cons_succ]
  refine wpAnyH_take (i := 14) (oi := { dst := some 18, op := _, type := _, pos := _, after := _, guard := _ }) (v := ?_) rfl (by kernel_rfl) (by kernel_rfl) (by kernel_rfl) (fun _ _ _ h => h) (Or.inl ⟨by rfl, ?_⟩) (by assumption) ?_
  rotate_left
  · (intro W hSw; (try dsimp only at hSw); go_simp; try (with_reducible rfl))
  try simp only [Act.put, List.setIfInBounds_toArray, List.set_cons_zero, List.set_cons_succ]
  refine wpAnyH_take (i := 15) (oi := { dst := some 19, op := _, type := _, pos := _, after := _, guard := _ }) (v := ?_) rfl (by kernel_rfl) (by kernel_rfl) (by kernel_rfl) (fun _ _ _ h => h) (Or.inl ⟨by rfl, ?_⟩) (by assumption) ?_
  rotate_left
  · (intro W hSw; (try dsimp only at hSw); go_simp; try (with_reducible rfl))
  try simp only [Act.put, List.setIfInBounds_toArray, List.set_cons_zero, List.set_cons_succ]
  refine wpAnyH_take (i := 16) (oi := { dst := some 20, op := _, type := _, pos := _, after := _, guard := _ }) (v := ?_) rfl (by kernel_rfl) (by kernel_rfl) (by kernel_rfl) (fun _ _ _ h => h) (Or.inl ⟨by rfl, ?_⟩) (by assumption) ?_
  rotate_left
  · (intro W hSw; (try dsimp only at hSw); go_simp; try (with_reducible rfl))
  try simp only [Act.put, List.setIfInBounds_toArray, List.set_cons_zero, List.set_cons_succ]
  refine wpAnyH_take (i := 17) (oi := { dst := some 21, op := _, type := _, pos := _, after := _, guard := _ }) (v := ?_) rfl (by kernel_rfl) (by kernel_rfl) (by kernel_rfl) (fun _ _ _ h => h) (Or.inl ⟨by rfl, ?_⟩) (by assumption) ?_
  rotate_left
  · (intro W hSw; (try dsimp only at hSw); go_simp; try (with_reducible rfl))
  try simp only [Act.put, List.setIfInBounds_toArray, List.set_cons_zero, List.set_cons_succ]
  refine wpAnyH_take (i := 18) (oi := { dst := some 22, op := _, type := _, pos := _, after := _, guard := _ }) (v := .agg #[.int .i64 ce, .slice po ps.length pc]) rfl (by kernel_rfl) (by kernel_rfl) (by kernel_rfl) (fun _ _ _ h => h) (Or.inl ⟨by rfl, ?_⟩) (by assumption) ?_
  · (intro W hSw; (try dsimp only at hSw); (obtain ⟨s0, s1, s2, s3, s4⟩ := hSw; go_simp))
  try simp only [Act.put, List.setIfInBounds_toArray, List.set_cons_zero, List.set_cons_succ]
  refine wpAnyH_ready (rs := [19]) (by kernel_rfl) (by simp) ?_
  refine (AllReadyH.cons (o := { dst := some 23, op := _, type := _, pos := _, after := _, guard := _ }) rfl (fun K hK => ?_) AllReadyH.nil)
  go_simp
  refine (may_any V0 ce po pc ps (HPS.out V0 HB0.out) hpl).mono ?_
  rintro e1 V1 ⟨rfl, hb1⟩
  have HB1 := mkH (HB0.out.trans (hb1.mono HB0.out.size))
  have HXB1 := mkH (Bx.bel (show Bx V0 w.heap.size pv 42 from HXB0.out) hb1)
  clear hb1
  rw [hmay]
  go_wp2_with fail
  refine hK.out _ _ ?_ (fun hHeld => ?_)
  · exact HS.out _ HB1.out HXB1.out
  clear hK K
  try simp only [Act.put, List.setIfInBounds_toArray, List.set_cons_zero, List.set_cons_succ]
  refine wpAnyH_take (i := 20) (oi := { dst := some 24, op := _, type := _, pos := _, after := _, guard := _ }) (v := ?_) rfl (by kernel_rfl) (by kernel_rfl) (by kernel_rfl) (fun _ _ _ h => h) (Or.inl ⟨by rfl, ?_⟩) (by assumption) ?_
  rotate_left
  · (intro W hSw; (try dsimp only at hSw); go_simp; try (with_reducible rfl))
  try simp only [Act.put, List.setIfInBounds_toArray, List.set_cons_zero, List.set_cons_succ]
  refine wpAnyH_take (i := 21) (oi := { dst := some 25, op := _, type := _, pos := _, after := _, guard := _ }) (v := ?_) rfl (by kernel_rfl) (by kernel_rfl) (by kernel_rfl) (fun _ _ _ h => h) (Or.inl ⟨by rfl, ?_⟩) (by assumption) ?_
  rotate_left
  · (intro W hSw; (try dsimp only at hSw); go_simp; try (with_reducible rfl))
  try simp only [Act.put, List.setIfInBounds_toArray, List.set_cons_zero, List.set_cons_succ]
  refine wpAnyH_done (by kernel_rfl) ?_ _
  all_goals
    have HH1 := mkH (And.intro (HX0.out.bel HB1.out) HXB1.out)
    clear hHeld HXB1 HXB0 HB0
    have x37 : V1.cell? ⟨w.heap.size, 37, none⟩ = some (.int .i64 ce) := HH1.out.2.cell 37 _ HP.out.p37
    have c36 : V1.cell? ⟨B, 36, none⟩ = some (.int .i64 s.ep) := HH1.out.1.cell 36 _ rfl
    go_wp2_with fail
    go_quiet (fail)
    have HH2 := mkH (show Bx (V1.drewN nq) B (Xc (kl s) a (.map (some m))) 57 ∧ Bx (V1.drewN nq) w.heap.size pv 42 ∧ Below w.heap.size w (V1.drewN nq) from ⟨HH1.out.1, HH1.out.2, Gf.below_drewN HB1.out nq⟩)
    clear x37 c36 HH1 HB1
    generalize V1.drewN nq = V2 at *
    have x37 : V2.cell? ⟨w.heap.size, 37, none⟩ = some (.int .i64 ce) := HH2.out.2.1.cell 37 _ HP.out.p37
    have x38 : V2.cell? ⟨w.heap.size, 38, none⟩ = some (.slice po ps.length pc) := HH2.out.2.1.cell 38 _ HP.out.p38
    have HOC := mkH (Fi.ownChart_any V2 ce po pc ps (HPS.out V2 HH2.out.2.2) (by omega))
    go_wp2_with (first
      | (refine HOC.out.mono ?_; rintro e2 V3 ⟨po', pc', rfl, hr3, hb3, hn3⟩; have HN3 : Hid (∀ x, po' = some x → x.block ≠ B) := mkH (fun x hx => by have h1 := hn3 x hx; have h2 := HH2.out.1.lt; omega); have HX3 := mkH (HH2.out.1.bel hb3); have HR3 := mkH hr3; have HB3 := mkH (HH2.out.2.2.trans (hb3.mono HH2.out.2.2.size)); clear hr3 hb3 hn3 x37 x38)
      | (refine Fp.wpList_stp rfl (ty := 40) (x := .tmp 40) (y := .tmp 38) (cs := Xc (kl s) a (.map (some m))) (cs' := Xc (kl { s with ep := ce, pcs := .slice po' ps.length pc' }) a (.map (some m))) rfl 36 rfl rfl HX3.out Fi.infoCh (by simp [Xc]) (by rw [List.all_toArray]; rfl) rfl ?_
         have HX4 := mkH (HX3.out.row (cs := Xc (kl { s with ep := ce, pcs := .slice po' ps.length pc' }) a (.map (some m))))
         have HF4 := mkH ((Fr.ofBelow (F := fun x => x = B) HB3.out).trans (Bx.frrow (b := B) (w := V3) (Xc (kl { s with ep := ce, pcs := .slice po' ps.length pc' }) a (.map (some m)))) (fun i hi => .inl hi))
         have HR4 := mkH (show RdP (V3.setRow B (Xc (kl { s with ep := ce, pcs := .slice po' ps.length pc' }) a (.map (some m)))) po' pc' ps from ⟨HR3.out.r.setRow HN3.out _, HR3.out.le, HR3.out.hi⟩)
         generalize V3.setRow B (Xc (kl { s with ep := ce, pcs := .slice po' ps.length pc' }) a (.map (some m))) = V4 at *
         have d38 : V4.cell? ⟨B, 38, none⟩ = some (.bool s.wants) := HX4.out.cell 38 _ rfl
         have g38 := HX4.out.frozen 38
         have HX5 := mkH (Fp.Bx.setTo HX4.out (cs' := Xc (kl { s with ep := ce, pcs := .slice po' ps.length pc', wants := false }) a (.map (some m))) 38 (.bool false) rfl)
         have d33 : (V4.setCell ⟨B, 38, none⟩ (.bool false)).cell? ⟨B, 33, none⟩ = some (.bool true) := (HX5.out.cell 33 (.bool s.busy) rfl).trans (congrArg (fun t => some (Value.bool t)) hbt)
         have HAB := mkH (Busy_any HX5.out)
         rw [ha] at HAB)
      | (refine HAB.out.mono ?_; rintro e2 V6 ⟨rfl, rfl⟩))
    refine bodyPost_end (v := .tuple #[]) (results_none rfl _ _ _) rfl ⟨rfl, po', pc', ⟨HR4.out.r.setCell (p := ⟨B, 38, none⟩) HN3.out _, HR4.out.le, HR4.out.hi⟩, HX5.out, HF4.out.trans (HX4.out.frset 38 (.bool false)) (fun i hi => .inl hi)⟩
end Go.Proofs.Ytabckkepkennhaa.Fh
