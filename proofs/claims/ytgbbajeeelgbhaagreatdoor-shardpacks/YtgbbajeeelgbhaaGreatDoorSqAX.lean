/-
  SeB, joined by mrg.py.
-/
import Derived.Test.YtgbbajeeelgbhaaGreatDoorSqAS
import Derived.Test.YtgbbajeeelgbhaaGreatDoorSqAW
import Derived.Test.YtgbbajeeelgbhaaGreatDoorSqAI
import Derived.Deep.Cut
import Derived.Test.YtgbbajeeelgbhaaGreatDoorSqAV

namespace Go.Proofs.YtgbbajeeelgbhaaGreatDoor.Sb
open Go.RowKit Kt Pl Wi Wk Wa Sm Sa
open Dk (Fr Nx)
open At (RowT)
set_option linter.unusedVariables false
set_option linter.unusedSimpArgs false
set_option maxRecDepth 20000

theorem res_c {fn : Func} {p : Tmp} {t : TypeId} (h : fn.results = #[.cell p t]) (tmps : Array Value) (P : Program) (w : World) {b : Addr} {x : Value}
    (hp : tmps.getD p undef = .pointer (some b)) (hx : (loadVar t b).run P w = .ok x w) : (results fn tmps).run P w = .ok x w := by
  have hp' : tmps[p]?.getD undef = .pointer (some b) := by simpa using hp
  simp only [results, h]
  simp [Sem.run_bind, Result.andThen, hp', asAddr, hx]
theorem res_ctt {fn : Func} {p q r : Tmp} {t : TypeId} (h : fn.results = #[.cell p t, .tmp q, .tmp r]) (tmps : Array Value) (P : Program) (w : World) {b : Addr} {x y z : Value}
    (hp : tmps.getD p undef = .pointer (some b)) (hq : tmps.getD q undef = y) (hr : tmps.getD r undef = z) (hx : (loadVar t b).run P w = .ok x w) :
    (results fn tmps).run P w = .ok (.tuple #[x, y, z]) w := by
  have hp' : tmps[p]?.getD undef = .pointer (some b) := by simpa using hp
  have hq' : tmps[q]?.getD undef = y := by simpa using hq
  have hr' : tmps[r]?.getD undef = z := by simpa using hr
  simp only [results, h]
  simp [Sem.run_bind, Result.andThen, hp', hq', hr', asAddr, hx]
theorem start2w {P : Program} {c : Code} {Q : Exit → Act → World → Prop} {a : Act} {w : World} {cs zs : Array Value} {t u : TypeId}
    (h : ∀ W0, Bx W0 w.heap.size cs t → Bx W0 (w.heap.size + 1) zs u → Below w.heap.size w W0 → W0.heap.size = w.heap.size + 2 → c.wp P Q a W0) : c.wp P Q a ((w.alloc (.cells cs t)).alloc (.cells zs u)) :=
  h _ ((Bx.new w cs t).alloc _) (by have := Bx.new (w.alloc (.cells cs t)) zs u; simpa using this) (((Below.refl _ w).alloc (Nat.le_refl _) _).alloc (by simp) _) (by simp)
def ZP : Array Value := Pv Rp.none none 0 none 0 none 0
/-- What a call hands back that makes a reply anew. -/
def RpNew (w : World) (r : Rp) (e : Ending) (w' : World) : Prop := ∃ ga gc da dc ra rc, e = .returned (.agg (Pv r ga gc da dc ra rc)) ∧ RpM w' r ga da ra ∧ Far (fun k => w.heap.size ≤ k ∧ k < w'.heap.size) ga da ra ∧ Below w.heap.size w w'
theorem own_far {w : World} {base e size n cap : Nat} {ao : Option Addr} {xs : List Value} (h : w.ownsRow base e size (.slice ao n cap) n xs) : ∀ a, ao = some a → base ≤ a.block ∧ a.block < w.heap.size := by
  rintro a rfl
  rcases h.2 with ⟨e1, e2⟩ | ⟨g, c, cur, e1, h1, h2, _⟩
  · simp at e1
  · simp only [Value.slice.injEq, Option.some.injEq] at e1
    obtain ⟨rfl, -⟩ := e1
    exact ⟨h1, (Array.getElem?_eq_some_iff.1 h2).1⟩
theorem bx_fr {w w' : World} {b : Nat} {cs : Array Value} {t : TypeId} {Q : Nat → Prop} (h : Bx w b cs t) (hf : Fr Q w w') (hq : ¬ Q b) : Bx w' b cs t := (hf.heap h.lt hq).trans h
theorem bx_bel {w w' : World} {b : Nat} {cs : Array Value} {t : TypeId} (h : Bx w b cs t) (hb : Below w.heap.size w w') : Bx w' b cs t := h.below hb h.lt
theorem below_drew (w : World) : Below w.heap.size w w.drew := (Below.refl _ w).drew
theorem bel_setRow {B b : Nat} {w w' : World} (h : Below B w w') (hb : B ≤ b) (cs : Array Value) : Below B w (w'.setRow b cs) := ⟨h.os, h.tape, h.output, by rw [setRow_size]; exact h.size, fun k hk => (setRow_other w' b k cs (by omega)).trans (h.block k hk)⟩
theorem rowT_set {w : World} {ao : Option Addr} {l : List Bs} (h : RowT w ao l) {p : Addr} (hp : ∀ a, ao = some a → a.block ≠ p.block) (v : Value) : RowT (w.setCell p v) ao l := Wk.RowT.setCell h hp v

set_option maxHeartbeats 4000000 in
theorem copyReply_any (w : World) (r : Rp) (ga : Option Addr) (gc : Nat) (da : Option Addr) (dc : Nat) (ra : Option Addr) (rc : Nat) (hm : RpM w r ga da ra) (hc : Cnt r) :
    Calls Tryz.prog 157 #[.agg (Pv r ga gc da dc ra rc)] w fun e w' => RpNew w r e w' := by
  have hmx : Tryz.prog.follows .mixedOrders = true := by kernel_rfl
  obtain ⟨hc1, hc2, hc3⟩ := hc
  have HM := mkH hm
  clear hm
  go_enter Tryz.func157, Tryz.ntmps157
  go_wp2_with fail
  refine start2w (cs := Pv r ga gc da dc ra rc) (zs := ZP) (fun W0 hB hZ hG hsz => ?_)
  have HB := mkH hB
  have HZ := mkH hZ
  have HG := mkH hG
  have hs0 : w.heap.size + 2 ≤ W0.drew.heap.size := by show _ ≤ W0.heap.size; omega
  clear hB hZ hG hsz
  refine Rg.region_G hmx 10 (fun W => W.cell? ⟨w.heap.size, 3, none⟩ = some (.slice ga r.got.length gc) ∧ W.cell? ⟨w.heap.size, 4, none⟩ = some (.slice da r.data.length dc) ∧ W.cell? ⟨w.heap.size, 5, none⟩ = some (.slice ra r.about.length rc)) ⟨HB.out.cell 3, HB.out.cell 4, HB.out.cell 5⟩ (fun hHeld => ?_)
  have HMV0 : Hid (RpM W0.drew r ga da ra) := mkH ((HM.out.below HG.out).below (below_drew _))
  have HBV0 := mkH HB.out.drew
  have HZV0 := mkH HZ.out.drew
  have HGV0 := mkH HG.out.drew
  generalize W0.drew = V0 at *
  refine Rg.anyG_pure (i := 0) (oi := { dst := some 3, op := _, type := _, pos := _, after := _, guard := _ }) (v := ?_) rfl (by kernel_rfl) (by kernel_rfl) (by kernel_rfl) (by rfl) (fun _ _ _ h => h) (Or.inl ⟨by rfl, ?_⟩) (fun _ => by assumption) ?_
  rotate_left
  · (intro W hSw; (try dsimp only at hSw); go_simp; try (with_reducible rfl))
  try simp only [Act.put, List.setIfInBounds_toArray, List.set_cons_zero, List.set_cons_succ]
  refine Rg.anyG_take (i := 1) (oi := { dst := some 4, op := _, type := _, pos := _, after := _, guard := _ }) (v := ?_) rfl (by kernel_rfl) (by kernel_rfl) (by kernel_rfl) [10] (by kernel_rfl) (fun _ _ _ h => h) (Or.inl ⟨by rfl, ?_⟩) (by assumption) ?_
  rotate_left
  · (intro W hSw; (try dsimp only at hSw); go_simp; try (with_reducible rfl))
  try simp only [Act.put, List.setIfInBounds_toArray, List.set_cons_zero, List.set_cons_succ]
  refine Rg.anyG_pure (i := 3) (oi := { dst := some 6, op := _, type := _, pos := _, after := _, guard := _ }) (v := ?_) rfl (by kernel_rfl) (by kernel_rfl) (by kernel_rfl) (by rfl) (fun _ _ _ h => h) (Or.inl ⟨by rfl, ?_⟩) (fun _ => by assumption) ?_
  rotate_left
  · (intro W hSw; (try dsimp only at hSw); go_simp; try (with_reducible rfl))
  try simp only [Act.put, List.setIfInBounds_toArray, List.set_cons_zero, List.set_cons_succ]
  refine Rg.anyG_take (i := 4) (oi := { dst := some 7, op := _, type := _, pos := _, after := _, guard := _ }) (v := ?_) rfl (by kernel_rfl) (by kernel_rfl) (by kernel_rfl) [10] (by kernel_rfl) (fun _ _ _ h => h) (Or.inl ⟨by rfl, ?_⟩) (by assumption) ?_
  rotate_left
  · (intro W hSw; (try dsimp only at hSw); go_simp; try (with_reducible rfl))
  try simp only [Act.put, List.setIfInBounds_toArray, List.set_cons_zero, List.set_cons_succ]
  refine Rg.anyG_pure (i := 6) (oi := { dst := some 9, op := _, type := _, pos := _, after := _, guard := _ }) (v := ?_) rfl (by kernel_rfl) (by kernel_rfl) (by kernel_rfl) (by rfl) (fun _ _ _ h => h) (Or.inl ⟨by rfl, ?_⟩) (fun _ => by assumption) ?_
  rotate_left
  · (intro W hSw; (try dsimp only at hSw); go_simp; try (with_reducible rfl))
  try simp only [Act.put, List.setIfInBounds_toArray, List.set_cons_zero, List.set_cons_succ]
  refine Rg.anyG_take (i := 7) (oi := { dst := some 10, op := _, type := _, pos := _, after := _, guard := _ }) (v := ?_) rfl (by kernel_rfl) (by kernel_rfl) (by kernel_rfl) [10] (by kernel_rfl) (fun _ _ _ h => h) (Or.inl ⟨by rfl, ?_⟩) (by assumption) ?_
  rotate_left
  · (intro W hSw; (try dsimp only at hSw); go_simp; try (with_reducible rfl))
  try simp only [Act.put, List.setIfInBounds_toArray, List.set_cons_zero, List.set_cons_succ]
  refine Rg.anyG_ready (rs := [2]) (by kernel_rfl) (by simp) ?_
  refine (Rg.AllG.cons (o := { dst := some 5, op := _, type := _, pos := _, after := _, guard := _ }) rfl (fun K hK => ?_) Rg.AllG.nil)
  go_simp
  refine (cloneG_any _ ga gc r.got HMV0.out.got (by omega)).mono ?_
  rintro e1 V1 ⟨g2, gc2, rfl, ho1, hb1⟩
  have HMV1 := mkH (HMV0.out.below hb1)
  have HBV1 := mkH (bx_bel HBV0.out hb1)
  have HZV1 := mkH (bx_bel HZV0.out hb1)
  have HGV1 := mkH (HGV0.out.trans (hb1.mono HGV0.out.size))
  have hs1 : w.heap.size + 2 ≤ V1.heap.size := Nat.le_trans hs0 hb1.size
  have HFg : Hid (∀ a, g2 = some a → w.heap.size + 2 ≤ a.block ∧ a.block < V1.heap.size) := mkH (fun a e => ⟨Nat.le_trans hs0 (own_far ho1 a e).1, (own_far ho1 a e).2⟩)
  have HRgV1 := mkH (RowS.own gC_len ho1)
  clear ho1 hb1
  go_wp2_with fail
  refine hK.out _ _ ?_ (fun hHeld => ?_)
  · exact ⟨HBV1.out.cell 3, HBV1.out.cell 4, HBV1.out.cell 5⟩
  clear hK K
  try simp only [Act.put, List.setIfInBounds_toArray, List.set_cons_zero, List.set_cons_succ]
  refine Rg.anyG_pure (i := 9) (oi := { dst := some 12, op := _, type := _, pos := _, after := _, guard := _ }) (v := ?_) rfl (by kernel_rfl) (by kernel_rfl) (by kernel_rfl) (by rfl) (fun _ _ _ h => h) (Or.inl ⟨by rfl, ?_⟩) (fun _ => by assumption) ?_
  rotate_left
  · (intro W hSw; (try dsimp only at hSw); go_simp; try (with_reducible rfl))
  try simp only [Act.put, List.setIfInBounds_toArray, List.set_cons_zero, List.set_cons_succ]
  refine Rg.anyG_ready (rs := [5]) (by kernel_rfl) (by simp) ?_
  refine (Rg.AllG.cons (o := { dst := some 8, op := _, type := _, pos := _, after := _, guard := _ }) rfl (fun K hK => ?_) Rg.AllG.nil)
  go_simp
  refine (cloneT_any _ da dc r.data HMV1.out.data (by omega)).mono ?_
  rintro e1 V2 ⟨d2, dc2, rfl, ho1, hb1⟩
  have HMV2 := mkH (HMV1.out.below hb1)
  have HBV2 := mkH (bx_bel HBV1.out hb1)
  have HZV2 := mkH (bx_bel HZV1.out hb1)
  have HGV2 := mkH (HGV1.out.trans (hb1.mono HGV1.out.size))
  have hs2 : w.heap.size + 2 ≤ V2.heap.size := Nat.le_trans hs1 hb1.size
  have HFd : Hid (∀ a, d2 = some a → w.heap.size + 2 ≤ a.block ∧ a.block < V2.heap.size) := mkH (fun a e => ⟨Nat.le_trans hs1 (own_far ho1 a e).1, (own_far ho1 a e).2⟩)
  have hu2 : V1.heap.size ≤ V2.heap.size := hb1.size
  have HRdV2 := mkH ((RowT.own ho1).2.2)
  have HRgV2 := mkH (HRgV1.out.below hb1)
  clear ho1 hb1
  go_wp2_with fail
  refine hK.out _ _ ?_ (fun hHeld => ?_)
  · exact ⟨HBV2.out.cell 3, HBV2.out.cell 4, HBV2.out.cell 5⟩
  clear hK K
  try simp only [Act.put, List.setIfInBounds_toArray, List.set_cons_zero, List.set_cons_succ]
  refine Rg.anyG_ready (rs := [8]) (by kernel_rfl) (by simp) ?_
  refine (Rg.AllG.cons (o := { dst := some 11, op := _, type := _, pos := _, after := _, guard := _ }) rfl (fun K hK => ?_) Rg.AllG.nil)
  go_simp
  refine (cloneR_any _ ra rc r.about HMV2.out.about (by omega)).mono ?_
  rintro e1 V3 ⟨r2, rc2, rfl, ho1, hb1⟩
  have HMV3 := mkH (HMV2.out.below hb1)
  have HBV3 := mkH (bx_bel HBV2.out hb1)
  have HZV3 := mkH (bx_bel HZV2.out hb1)
  have HGV3 := mkH (HGV2.out.trans (hb1.mono HGV2.out.size))
  have hs3 : w.heap.size + 2 ≤ V3.heap.size := Nat.le_trans hs2 hb1.size
  have HFr : Hid (∀ a, r2 = some a → w.heap.size + 2 ≤ a.block ∧ a.block < V3.heap.size) := mkH (fun a e => ⟨Nat.le_trans hs2 (own_far ho1 a e).1, (own_far ho1 a e).2⟩)
  have hu3 : V2.heap.size ≤ V3.heap.size := hb1.size
  have HRrV3 := mkH (RowS.own rC_len ho1)
  have HRgV3 := mkH (HRgV2.out.below hb1)
  have HRdV3 := mkH (HRdV2.out.below hb1)
  clear ho1 hb1
  go_wp2_with fail
  refine hK.out _ _ ?_ (fun hHeld => ?_)
  · exact ⟨HBV3.out.cell 3, HBV3.out.cell 4, HBV3.out.cell 5⟩
  clear hK K
  try simp only [Act.put, List.setIfInBounds_toArray, List.set_cons_zero, List.set_cons_succ]
  refine Rg.anyG_ready (rs := [10]) (by kernel_rfl) (by simp) ?_
  refine Rg.AllG.last (o := { dst := none, op := _, type := _, pos := _, after := _, guard := _ }) rfl (by kernel_rfl) (fun K hK => ?_)
  have cz : V3.cell? ⟨w.heap.size, 3, none⟩ = some (.slice ga r.got.length gc) := HBV3.out.cell 3
  have fz := HBV3.out.frozen 3
  have hbz : Below w.heap.size w (V3.setCell ⟨w.heap.size, 3, none⟩ (.slice g2 r.got.length gc2)) := HGV3.out.setCell (Nat.le_refl _) _
  have hbx : Bx (V3.setCell ⟨w.heap.size, 3, none⟩ (.slice g2 r.got.length gc2)) w.heap.size #[.int .i64 r.err, .int .i64 r.seq, .int .i64 r.n, .slice g2 r.got.length gc2, .slice da r.data.length dc, .slice ra r.about.length rc] 46 := HBV3.out.set 3 _
  have hzx := HZV3.out.other (p := ⟨w.heap.size, 3, none⟩) (by simp) (.slice g2 r.got.length gc2)
  have hrg := HRgV3.out.setCell (p := ⟨w.heap.size, 3, none⟩) (fun a e => by have := HFg.out a e; simp; omega) (.slice g2 r.got.length gc2)
  have hrd := rowT_set HRdV3.out (p := ⟨w.heap.size, 3, none⟩) (fun a e => by have := HFd.out a e; simp; omega) (.slice g2 r.got.length gc2)
  have hrr := HRrV3.out.setCell (p := ⟨w.heap.size, 3, none⟩) (fun a e => by have := HFr.out a e; simp; omega) (.slice g2 r.got.length gc2)
  obtain ⟨V4, hV4⟩ : ∃ W, V3.setCell ⟨w.heap.size, 3, none⟩ (.slice g2 r.got.length gc2) = W := ⟨_, rfl⟩
  rw [hV4] at hbz hbx hzx hrg hrd hrr
  have HGV4 := mkH hbz
  have HU4 : Hid (V3.heap.size ≤ V4.heap.size) := mkH (by rw [← hV4]; simp)
  have HBV4 := mkH hbx
  have HZV4 := mkH hzx
  have HRgV4 := mkH hrg
  have HRdV4 := mkH hrd
  have HRrV4 := mkH hrr
  have hHV4 := mkH hV4
  clear hbz hbx hzx hrg hrd hrr hV4
  go_simp
  rw [hHV4.out]
  clear cz fz
  refine hK.out _ _ ?_
  clear hK K
  try simp only [Act.put, List.setIfInBounds_toArray, List.set_cons_zero, List.set_cons_succ]
  refine Rg.anyG_pure (i := 11) (oi := { dst := some 13, op := _, type := _, pos := _, after := _, guard := _ }) (v := ?_) rfl (by kernel_rfl) (by kernel_rfl) (by kernel_rfl) (by rfl) (fun _ _ _ h => h) (Or.inl ⟨by rfl, ?_⟩) (fun h => absurd (h.symm.trans (show _ = true by kernel_rfl)) Bool.false_ne_true) ?_
  rotate_left
  · (intro W hSw; (try dsimp only at hSw); go_simp; try (with_reducible rfl))
  try simp only [Act.put, List.setIfInBounds_toArray, List.set_cons_zero, List.set_cons_succ]
  refine Rg.anyG_ready (rs := [12]) (by kernel_rfl) (by simp) ?_
  refine Rg.AllG.behind (o := { dst := none, op := _, type := _, pos := _, after := _, guard := _ }) rfl (by kernel_rfl) (fun K hK => ?_) Rg.AllG.nil
  have cz : V4.cell? ⟨w.heap.size, 4, none⟩ = some (.slice da r.data.length dc) := HBV4.out.cell 4
  have fz := HBV4.out.frozen 4
  have hbz : Below w.heap.size w (V4.setCell ⟨w.heap.size, 4, none⟩ (.slice d2 r.data.length dc2)) := HGV4.out.setCell (Nat.le_refl _) _
  have hbx : Bx (V4.setCell ⟨w.heap.size, 4, none⟩ (.slice d2 r.data.length dc2)) w.heap.size #[.int .i64 r.err, .int .i64 r.seq, .int .i64 r.n, .slice g2 r.got.length gc2, .slice d2 r.data.length dc2, .slice ra r.about.length rc] 46 := HBV4.out.set 4 _
  have hzx := HZV4.out.other (p := ⟨w.heap.size, 4, none⟩) (by simp) (.slice d2 r.data.length dc2)
  have hrg := HRgV4.out.setCell (p := ⟨w.heap.size, 4, none⟩) (fun a e => by have := HFg.out a e; simp; omega) (.slice d2 r.data.length dc2)
  have hrd := rowT_set HRdV4.out (p := ⟨w.heap.size, 4, none⟩) (fun a e => by have := HFd.out a e; simp; omega) (.slice d2 r.data.length dc2)
  have hrr := HRrV4.out.setCell (p := ⟨w.heap.size, 4, none⟩) (fun a e => by have := HFr.out a e; simp; omega) (.slice d2 r.data.length dc2)
  obtain ⟨V5, hV5⟩ : ∃ W, V4.setCell ⟨w.heap.size, 4, none⟩ (.slice d2 r.data.length dc2) = W := ⟨_, rfl⟩
  rw [hV5] at hbz hbx hzx hrg hrd hrr
  have HGV5 := mkH hbz
  have HU5 : Hid (V4.heap.size ≤ V5.heap.size) := mkH (by rw [← hV5]; simp)
  have HBV5 := mkH hbx
  have HZV5 := mkH hzx
  have HRgV5 := mkH hrg
  have HRdV5 := mkH hrd
  have HRrV5 := mkH hrr
  have hHV5 := mkH hV5
  clear hbz hbx hzx hrg hrd hrr hV5
  go_simp
  rw [hHV5.out]
  clear cz fz
  refine hK.out _ _ ?_
  clear hK K
  try simp only [Act.put, List.setIfInBounds_toArray, List.set_cons_zero, List.set_cons_succ]
  refine Rg.anyG_pure (i := 13) (oi := { dst := some 14, op := _, type := _, pos := _, after := _, guard := _ }) (v := ?_) rfl (by kernel_rfl) (by kernel_rfl) (by kernel_rfl) (by rfl) (fun _ _ _ h => h) (Or.inl ⟨by rfl, ?_⟩) (fun h => absurd (h.symm.trans (show _ = true by kernel_rfl)) Bool.false_ne_true) ?_
  rotate_left
  · (intro W hSw; (try dsimp only at hSw); go_simp; try (with_reducible rfl))
  try simp only [Act.put, List.setIfInBounds_toArray, List.set_cons_zero, List.set_cons_succ]
  refine Rg.anyG_ready (rs := [14]) (by kernel_rfl) (by simp) ?_
  refine Rg.AllG.behind (o := { dst := none, op := _, type := _, pos := _, after := _, guard := _ }) rfl (by kernel_rfl) (fun K hK => ?_) Rg.AllG.nil
  have cz : V5.cell? ⟨w.heap.size, 5, none⟩ = some (.slice ra r.about.length rc) := HBV5.out.cell 5
  have fz := HBV5.out.frozen 5
  have hbz : Below w.heap.size w (V5.setCell ⟨w.heap.size, 5, none⟩ (.slice r2 r.about.length rc2)) := HGV5.out.setCell (Nat.le_refl _) _
  have hbx : Bx (V5.setCell ⟨w.heap.size, 5, none⟩ (.slice r2 r.about.length rc2)) w.heap.size (Pv r g2 gc2 d2 dc2 r2 rc2) 46 := HBV5.out.set 5 _
  have hzx := HZV5.out.other (p := ⟨w.heap.size, 5, none⟩) (by simp) (.slice r2 r.about.length rc2)
  have hrg := HRgV5.out.setCell (p := ⟨w.heap.size, 5, none⟩) (fun a e => by have := HFg.out a e; simp; omega) (.slice r2 r.about.length rc2)
  have hrd := rowT_set HRdV5.out (p := ⟨w.heap.size, 5, none⟩) (fun a e => by have := HFd.out a e; simp; omega) (.slice r2 r.about.length rc2)
  have hrr := HRrV5.out.setCell (p := ⟨w.heap.size, 5, none⟩) (fun a e => by have := HFr.out a e; simp; omega) (.slice r2 r.about.length rc2)
  obtain ⟨V6, hV6⟩ : ∃ W, V5.setCell ⟨w.heap.size, 5, none⟩ (.slice r2 r.about.length rc2) = W := ⟨_, rfl⟩
  rw [hV6] at hbz hbx hzx hrg hrd hrr
  have HGV6 := mkH hbz
  have HU6 : Hid (V5.heap.size ≤ V6.heap.size) := mkH (by rw [← hV6]; simp)
  have HBV6 := mkH hbx
  have HZV6 := mkH hzx
  have HRgV6 := mkH hrg
  have HRdV6 := mkH hrd
  have HRrV6 := mkH hrr
  have hHV6 := mkH hV6
  clear hbz hbx hzx hrg hrd hrr hV6
  go_simp
  rw [hHV6.out]
  clear cz fz
  refine hK.out _ _ ?_
  clear hK K
  try simp only [Act.put, List.setIfInBounds_toArray, List.set_cons_zero, List.set_cons_succ]
  refine Rg.anyG_done (by kernel_rfl) ?_ _
  obtain ⟨D4, hD4⟩ : ∃ D4, D4 = Pv r g2 gc2 d2 dc2 r2 rc2 := ⟨_, rfl⟩
  have hB9 := HBV6.out
  rw [← hD4] at hB9
  have hs6 : D4.size = 6 := by rw [hD4]; rfl
  have HI4 : Hid ((Tryz.prog.info? 46).map (·.size) = some D4.size) := mkH (by rw [hs6]; exact infoP)
  have HZS : Hid (ZP.size = D4.size) := mkH (by rw [hs6]; rfl)
  have HO4 : Hid (D4.all (fun x => x.oneCell') = true) := mkH (by rw [hD4]; exact Pv_one _ _ _ _ _ _ _)
  have HL9 := mkH (load_bx (P := Tryz.prog) hB9 Tryz.underlying46 rfl HI4.out)
  have HL10 := mkH (load_bx (P := Tryz.prog) (HZV6.out.row HZS.out) Tryz.underlying46 rfl HI4.out)
  have HD4 := mkH hD4
  clear hB9 hD4 HBV6
  go_wp2_with (first
    | (refine Wy.wpList_ld (ty := 46) (x := .tmp 1) rfl rfl rfl HL9.out ?_)
    | (refine wpList_st rfl (ty := 46) (x := .tmp 2) (y := .tmp 15) rfl rfl rfl HZV6.out HI4.out HZS.out HO4.out ?_))
  refine ret_bx 2 46 rfl (w.heap.size + 1) rfl HL10.out rfl ?_
  exact ⟨g2, gc2, d2, dc2, r2, rc2, by rw [HD4.out], ⟨HRgV6.out.setRow (fun a ha => by have := HFg.out a ha; omega) D4, Wk.RowT.setRow HRdV6.out (fun a ha => by have := HFd.out a ha; omega) D4, HRrV6.out.setRow (fun a ha => by have := HFr.out a ha; omega) D4⟩,
    ⟨fun a ha => by have := HFg.out a ha; have := HU4.out; have := HU5.out; have := HU6.out; rw [setRow_size]; omega, fun a ha => by have := HFd.out a ha; have := HU4.out; have := HU5.out; have := HU6.out; rw [setRow_size]; omega, fun a ha => by have := HFr.out a ha; have := HU4.out; have := HU5.out; have := HU6.out; rw [setRow_size]; omega⟩, bel_setRow HGV6.out (Nat.le_succ _) _⟩

theorem isMade_yes {w : World} {T Mb : Nat} (h : Bx w T #[.map (some Mb)] 153) : Calls Tryz.prog 76 #[.pointer (some ⟨T, 0, none⟩)] w fun e w' => e = .returned (.bool true) ∧ w' = w := by
  have c0 : w.cell? ⟨T, 0, none⟩ = some (.map (some Mb)) := h.cell 0
  have hq := neq_map (P := Tryz.prog) w 151 _ _ (some Mb) Tryz.underlying151
  simp only [Option.isSome] at hq
  clear h
  go_enter Tryz.func76, Tryz.ntmps76
  go_wp2
  go_ret
  exact ⟨rfl, rfl⟩
theorem isMade_nil (w : World) : Calls Tryz.prog 76 #[.pointer none] w fun e w' => e = .returned (.bool false) ∧ w' = w := by
  go_enter Tryz.func76, Tryz.ntmps76
  go_wp2
  go_ret
  exact ⟨rfl, rfl⟩
theorem isMade_zero {w : World} {T : Nat} (h : Bx w T #[.map none] 153) : Calls Tryz.prog 76 #[.pointer (some ⟨T, 0, none⟩)] w fun e w' => e = .returned (.bool false) ∧ w' = w := by
  have c0 : w.cell? ⟨T, 0, none⟩ = some (.map none) := h.cell 0
  have hq := neq_map (P := Tryz.prog) w 151 _ _ none Tryz.underlying151
  simp only [Option.isSome] at hq
  clear h
  go_enter Tryz.func76, Tryz.ntmps76
  go_wp2
  go_ret
  exact ⟨rfl, rfl⟩
theorem isNumber_any (w : World) (n : Int) : Calls Tryz.prog 156 #[.int .i64 n] w fun e w' => e = .returned (.bool (decide (num n))) ∧ w' = w := by
  have h : decide (num n) = (if (1 : Int) ≤ n then decide (n ≤ 1099511627776) else false) := by
    unfold num
    by_cases h : (1 : Int) ≤ n <;> simp [h]
  rw [h]
  clear h
  by_cases h1 : (1 : Int) ≤ n
  · rw [if_pos h1]
    go_enter Tryz.func156, Tryz.ntmps156
    go_wp2
    go_ret
    exact ⟨rfl, rfl⟩
  · rw [if_neg h1]
    go_enter Tryz.func156, Tryz.ntmps156
    go_wp2
    go_ret
    exact ⟨rfl, rfl⟩
theorem new_any (w : World) : Calls Tryz.prog 37 #[] w fun e w' => e = .returned (.pointer (some ⟨w.heap.size + 1, 0, none⟩)) ∧ Tb w' (fun k => w.heap.size ≤ k) (w.heap.size + 1) w.heap.size [] ∧ Below w.heap.size w w' := by
  have hmm := @run_makeMap Tryz.prog
  have HE : Hid (Tb ((w.alloc (.map #[] 0)).alloc (.cells #[.map (some w.heap.size)] 153)) (fun k => w.heap.size ≤ k) (w.heap.size + 1) w.heap.size [] ∧ Below w.heap.size w ((w.alloc (.map #[] 0)).alloc (.cells #[.map (some w.heap.size)] 153))) := mkH
    ⟨⟨[], rfl, ⟨by have := Bx.new (w.alloc (.map #[] 0)) #[.map (some w.heap.size)] 153; simpa using this, (Mw.made w).below ((Below.refl _ _).alloc (Nat.le_refl _) _), List.Pairwise.nil, (fun x hx => by cases hx), Nat.le_succ _, Nat.le_refl _, Nat.zero_le _⟩⟩, ((Below.refl _ w).alloc (Nat.le_refl _) _).alloc (by simp) _⟩
  go_enter Tryz.func37, Tryz.ntmps37
  go_wp2
  go_ret
  exact ⟨rfl, HE.out⟩
end Go.Proofs.YtgbbajeeelgbhaaGreatDoor.Sb
