/-
  The region of fewer in which a delivery's texts are cut.
-/
import Derived.Test.YtjboldahmndkeaaWiA3
import Derived.Test.YtjboldahmndkeaaWiFd
import Derived.Test.YtjboldahmndkeaaWiFew
import Derived.Test.YtjboldahmndkeaaWiJM
import Derived.Deep.Cut
namespace Go.Proofs.Ytjboldahmndkeaa.Wfr
open Go.RowKit Kt Pl Wi Wk Ww Wx We Wf Wb Wa Wfw
open Wy (wpList_ld)
open At (RowT okT)
set_option linter.unusedVariables false
set_option linter.unusedSimpArgs false
set_option maxRecDepth 20000

def fewG (g : Gt) : Gt := { rc := { g.rc with g := g.rc.g.take 200 }, body := g.body.take 200, sent := g.sent }
def dstK : Nat → Option Nat := (fun i => if i = 0 then some 22 else if i = 1 then some 23 else if i = 3 then some 25 else if i = 4 then some 26 else if i = 5 then some 27 else if i = 6 then some 28 else if i = 9 then some 31 else if i = 12 then some 34 else if i = 13 then some 35 else if i = 14 then some 36 else if i = 15 then some 37 else if i = 16 then some 38 else if i = 17 then none else if i = 18 then some 39 else if i = 19 then some 40 else if i = 20 then none else none)
def consK : Nat → Nat := (fun i => if i = 0 then 17 else if i = 1 then 6 else if i = 3 then 4 else if i = 4 then 5 else if i = 5 then 6 else if i = 6 then 17 else if i = 9 then 15 else if i = 12 then 13 else if i = 13 then 14 else if i = 14 then 15 else if i = 15 then 20 else if i = 16 then 17 else if i = 17 then 20 else if i = 18 then 19 else if i = 19 then 20 else 999)
def depsK : Nat → List Nat := (fun i => if i = 4 then [3] else if i = 5 then [4] else if i = 6 then [1, 5] else if i = 13 then [12] else if i = 14 then [13] else if i = 15 then [9, 14] else if i = 17 then [0, 6, 16] else if i = 19 then [18] else if i = 20 then [17, 15, 19] else [])
def readsK : Nat → List Nat := (fun i => if i = 1 then [0] else if i = 3 then [0] else if i = 9 then [0] else if i = 12 then [0] else [])
def isWK : Nat → Bool := fun i => i == 0 || i == 17 || i == 20
def FK (B : Nat) (g : Gt) (m1 m2 : Nat) : Nat → Value → World → Prop := fun i v w => if i = 0 then v = .pointer (some ⟨B, 4, none⟩) ∧ Bx w B (Gv g) 73 else if i = 1 then v = .string (S g.body) else if i = 3 then v = .string (S g.body) else if i = 4 then v = .int .i64 ((S g.body).size : Int) else if i = 5 then v = .int .i64 (m1 : Int) else if i = 6 then v = .string (S (g.body.take 200)) else if i = 9 then v = .string (S g.rc.g) else if i = 12 then v = .string (S g.rc.g) else if i = 13 then v = .int .i64 ((S g.rc.g).size : Int) else if i = 14 then v = .int .i64 (m2 : Int) else if i = 15 then v = .string (S (g.rc.g.take 200)) else if i = 16 then v = .pointer (some ⟨B, 4, none⟩) else if i = 17 then Bx w B (Gv { g with body := g.body.take 200 }) 73 else if i = 18 then v = .pointer (some ⟨B, 0, none⟩) else if i = 19 then v = .pointer (some ⟨B, 1, none⟩) else if i = 20 then Bx w B (Gv (fewG g)) 73 else True
/-- Nothing has turned but one block. -/
structure One (b : Nat) (w w' : World) : Prop where
  os : w'.os = w.os
  tape : w'.tape = w.tape
  output : w'.output = w.output
  size : w'.heap.size = w.heap.size
  block : ∀ k, k ≠ b → w'.heap[k]? = w.heap[k]?
theorem One.refl (b : Nat) (w : World) : One b w w := ⟨rfl, rfl, rfl, rfl, fun _ _ => rfl⟩
theorem One.setCell {b : Nat} {w w' : World} (h : One b w w') (k : Nat) (v : Value) : One b w (w'.setCell ⟨b, k, none⟩ v) :=
  ⟨h.os, h.tape, h.output, by simpa using h.size, fun i hi => (heap_setCell_other w' ⟨b, k, none⟩ i v hi).trans (h.block i hi)⟩
theorem One.below {b B : Nat} {w w' : World} (h : One b w w') (hb : B ≤ b) : Below B w w' := ⟨h.os, h.tape, h.output, Nat.le_of_eq h.size.symm, fun k hk => h.block k (by omega)⟩
theorem cut_len (s : Bs) (h : s.length ≤ 9223372036854775807) : ∃ m : Nat, (if (200 : Int) < ((S s).size : Int) then (200 : Int) else ((S s).size : Int)) = (m : Int) ∧ (m : Int) ≤ ((S s).size : Int) ∧ (S s).extract 0 m = S (s.take 200) := by
  have z : (S s).size = s.length := rfl
  by_cases h1 : 200 < s.length
  · exact ⟨200, by rw [if_pos (by omega)]; rfl, by omega, S_take s 200⟩
  · exact ⟨s.length, by rw [if_neg (by omega), z], by omega, by rw [S_take, List.take_length, List.take_of_length_le (by omega)]⟩

def fewR (r : Rp) : Rp := { r with got := (r.got.take 1100).map fewG, data := dataC r.data, about := r.about.take 1100 }
def RpOut (w : World) (r : Rp) (e : Ending) (w' : World) : Prop := ∃ ga gc da dc ra rc, e = .returned (.agg (Pv r ga gc da dc ra rc)) ∧ RpM w' r ga da ra ∧ ((∀ a, ga = some a → w.heap.size ≤ a.block) ∧ (∀ a, da = some a → w.heap.size ≤ a.block) ∧ (∀ a, ra = some a → w.heap.size ≤ a.block)) ∧ Below w.heap.size w w'
theorem fewG_snoc {l : List Gt} {k : Nat} {x : Gt} (h : l[k]? = some x) : (l.take (k + 1)).map fewG = (l.take k).map fewG ++ [fewG x] := by
  rw [List.take_add_one, h, List.map_append]; rfl
theorem info_G : (Try.prog.info? 73).map (fun i => (i.zero, i.size, i.bytes)) = some (some (.agg #[.int .i64 0, .string ⟨#[]⟩, .int .i64 0, .int .i64 0, .string ⟨#[]⟩, .int .i64 0]), 6, 64) := by kernel_rfl
theorem info_R : (Try.prog.info? 25).map (fun i => (i.zero, i.size, i.bytes)) = some (some (.agg #[.int .i64 0, .int .i64 0]), 2, 16) := by kernel_rfl
theorem own_below {wr W2 : World} {base n m : Nat} {e : TypeId} {v : Value} {xs : List Value} (h : wr.ownsRow base e n v m xs) (hb : Below wr.heap.size wr W2) : W2.ownsRow base e n v m xs := by
  refine ⟨h.1, ?_⟩
  rcases h.2 with h1 | ⟨g, c, cur, e1, h2, h3, h4⟩
  · exact .inl h1
  · exact .inr ⟨g, c, cur, e1, h2, (hb.block g (Array.getElem?_eq_some_iff.1 h3).1).trans h3, h4⟩
theorem start2w {P : Program} {c : Code} {Q : Exit → Act → World → Prop} {a : Act} {w : World} {cs zs : Array Value} {t u : TypeId}
    (h : ∀ W0, Bx W0 w.heap.size cs t → Bx W0 (w.heap.size + 1) zs u → Gr w W0 → W0.heap.size = w.heap.size + 2 → c.wp P Q a W0) : c.wp P Q a ((w.alloc (.cells cs t)).alloc (.cells zs u)) :=
  h _ ((Bx.new w cs t).alloc _) (by have := Bx.new (w.alloc (.cells cs t)) zs u; simpa using this) (((Gr.refl w).alloc _).alloc _) (by simp)
def ZP : Array Value := Pv Rp.none none 0 none 0 none 0

set_option maxHeartbeats 16000000 in
theorem fewer_any (w : World) (r : Rp) (ga : Option Addr) (gc : Nat) (da : Option Addr) (dc : Nat) (ra : Option Addr) (rc : Nat) (hin : RpIn w r ga gc da dc ra rc) :
    Calls Try.prog 14 #[.agg (Pv r ga gc da dc ra rc)] w fun e w' => RpOut w (fewR r) e w' := by
  obtain ⟨hm, hg1, hd1, ha1, ha2, ht⟩ := hin
  obtain ⟨k0, k1, k2, k3, k4, k5⟩ := Pv_at r ga gc da dc ra rc
  obtain ⟨C, hC⟩ : ∃ C, C = Pv r ga gc da dc ra rc := ⟨_, rfl⟩
  rw [← hC] at k0 k1 k2 k3 k4 k5 ⊢
  have HC := mkH hC
  have HT := mkH ht
  have HM := mkH hm
  clear hC ht hm
  go_enter Try.func14, Try.ntmps14
  go_wp2_with fail
  refine start2w (zs := ZP) (fun W0 hB hZ hG hsz => ?_)
  have HB0 := mkH hB
  have HZ0 := mkH hZ
  have HG0 := mkH hG
  have HM0 := mkH (HM.out.gr hG)
  have HRM : Hid (∀ W, Below (w.heap.size + 2) W0 W → RpM W r ga da ra) := mkH (fun W h => HM0.out.below (hsz ▸ h))
  have HMW := HM
  clear hB hZ hG HM
  go_loopw [3, 4, 5] (fun v i _ wr => ∃ k : Nat, k ≤ r.got.length ∧ k ≤ 1100 ∧ i = .int .i64 k ∧ Hid (wr.ownsRow (w.heap.size + 2) 73 6 v k (Fl gC ((r.got.take k).map fewG))) ∧ Hid (Below (w.heap.size + 2) W0 wr)) (fun _ i _ _ => 1100 - (intOf i).toNat)
  case atStart => exact ⟨0, Nat.zero_le _, Nat.zero_le _, rfl, mkH (World.ownsRow_nil _ _ _ _), mkH (Below.refl _ _)⟩
  case round =>
    obtain ⟨k, hk, hk2, rfl, HW, HBe⟩ := hrel
    have hszr := HBe.out.size
    have HB1 := mkH (HB0.out.below HBe.out (by omega))
    have hq : ∀ j, wr.cell? ⟨w.heap.size, j, none⟩ = C[j]? := HB1.out.cell
    by_cases hlt : k < r.got.length ∧ k < 1100
    · obtain ⟨hlt, hlt2⟩ := hlt
      have c2 : (k : Int) < 1100 := by omega
      obtain ⟨b, off, hao, hcl⟩ := (HRM.out wr HBe.out).got (by omega)
      obtain ⟨g, hx⟩ := some_of hlt
      obtain ⟨t1, t2⟩ := HT.out g (List.mem_of_getElem? hx)
      have HLD := mkH (load_got (hcl k g hx))
      subst hao
      obtain ⟨m1, e1, e2, e3⟩ := cut_len g.body t1
      obtain ⟨m2, e4, e5, e6⟩ := cut_len g.rc.g t2
      have HSN := mkH (fewG_snoc hx)
      have HONE := mkH (all1 _ (gC_one g))
      have HI : Hid ((Try.prog.info? 73).map (·.size) = some (Gv g).size) := mkH infoG
      have HSZ : Hid ((#[.int .i64 0, .string ⟨#[]⟩, .int .i64 0, .int .i64 0, .string ⟨#[]⟩, .int .i64 0] : Array Value).size = (Gv g).size) := mkH rfl
      have g1 : (Gv g)[1]? = some (.string (S g.rc.g)) := rfl
      have g4 : (Gv g)[4]? = some (.string (S g.body)) := rfl
      clear hcl hx
      go_wp2_with (first
        | (refine wpList_ld (ty := 73) (x := .tmp 20) rfl rfl rfl HLD.out ?_)
        | (refine wpList_stn (x := .tmp 5) (y := .tmp 21) rfl rfl rfl rfl HI.out HSZ.out HONE.out ?_; intro W2 hB2 hG2; have HB2 := mkH (hB2.gr (Gr.refl W2).drew); have HG2 := mkH (hG2.trans (Gr.refl W2).drew); have hsz2 := hB2.lt; clear hB2 hG2))
      generalize hBq : wr.heap.size = B at *
      refine wp_region_held_drew (S := fun W => One B W2.drew W) (by kernel_rfl) (One.refl _ _) (fun hHeld => ?_)
      refine wpAnyH_take (i := 0) (oi := { dst := some 22, op := _, type := _, pos := _, after := _, guard := _ }) (v := ?_) rfl (by kernel_rfl) (by kernel_rfl) (by kernel_rfl) (fun _ _ _ h => h) (Or.inl ⟨by rfl, ?_⟩) (by assumption) ?_
      rotate_left
      · (intro W hSw; (try dsimp only at hSw); go_simp; try (with_reducible rfl))
      try simp only [Act.put, List.setIfInBounds_toArray, List.set_cons_zero, List.set_cons_succ]
      refine wpAnyH_take (i := 2) (oi := { dst := some 24, op := _, type := _, pos := _, after := _, guard := _ }) (v := ?_) rfl (by kernel_rfl) (by kernel_rfl) (by kernel_rfl) (fun _ _ _ h => h) (Or.inl ⟨by rfl, ?_⟩) (by assumption) ?_
      rotate_left
      · (intro W hSw; (try dsimp only at hSw); go_simp; try (with_reducible rfl))
      try simp only [Act.put, List.setIfInBounds_toArray, List.set_cons_zero, List.set_cons_succ]
      refine wpAnyH_take (i := 7) (oi := { dst := some 29, op := _, type := _, pos := _, after := _, guard := _ }) (v := ?_) rfl (by kernel_rfl) (by kernel_rfl) (by kernel_rfl) (fun _ _ _ h => h) (Or.inl ⟨by rfl, ?_⟩) (by assumption) ?_
      rotate_left
      · (intro W hSw; (try dsimp only at hSw); go_simp; try (with_reducible rfl))
      try simp only [Act.put, List.setIfInBounds_toArray, List.set_cons_zero, List.set_cons_succ]
      refine wpAnyH_take (i := 8) (oi := { dst := some 30, op := _, type := _, pos := _, after := _, guard := _ }) (v := ?_) rfl (by kernel_rfl) (by kernel_rfl) (by kernel_rfl) (fun _ _ _ h => h) (Or.inl ⟨by rfl, ?_⟩) (by assumption) ?_
      rotate_left
      · (intro W hSw; (try dsimp only at hSw); go_simp; try (with_reducible rfl))
      try simp only [Act.put, List.setIfInBounds_toArray, List.set_cons_zero, List.set_cons_succ]
      refine wpAnyH_take (i := 10) (oi := { dst := some 32, op := _, type := _, pos := _, after := _, guard := _ }) (v := ?_) rfl (by kernel_rfl) (by kernel_rfl) (by kernel_rfl) (fun _ _ _ h => h) (Or.inl ⟨by rfl, ?_⟩) (by assumption) ?_
      rotate_left
      · (intro W hSw; (try dsimp only at hSw); go_simp; try (with_reducible rfl))
      try simp only [Act.put, List.setIfInBounds_toArray, List.set_cons_zero, List.set_cons_succ]
      refine wpAnyH_take (i := 11) (oi := { dst := some 33, op := _, type := _, pos := _, after := _, guard := _ }) (v := ?_) rfl (by kernel_rfl) (by kernel_rfl) (by kernel_rfl) (fun _ _ _ h => h) (Or.inl ⟨by rfl, ?_⟩) (by assumption) ?_
      rotate_left
      · (intro W hSw; (try dsimp only at hSw); go_simp; try (with_reducible rfl))
      try simp only [Act.put, List.setIfInBounds_toArray, List.set_cons_zero, List.set_cons_succ]
      refine wpAnyH_lin2 [0, 1, 3, 4, 5, 6, 9, 12, 13, 14, 15, 16, 17, 18, 19, 20] dstK consK depsK readsK isWK [0] (FK B g m1 m2) (fun w w' => w' = w) (fun _ _ => True) (by decide) (by kernel_rfl) ?s0 ?s1 ?step ?fin ?hpre (by decide) hHeld (by decide) rfl
      case s0 =>
        rintro i hi v w w' h rfl
        exact h
      case s1 =>
        intro i hi hw v w w' h hg
        simp only [List.mem_cons, List.not_mem_nil, or_false] at hi
        rcases hi with rfl | rfl | rfl | rfl | rfl | rfl | rfl | rfl | rfl | rfl | rfl | rfl | rfl | rfl | rfl | rfl
        all_goals first | (cases hw; done) | exact h
      case hpre =>
        intro i hi
        obtain rfl := List.mem_singleton.1 hi
        exact ⟨rfl, HB2.out⟩
      case step =>
        intro i hi hip x w hS hF hRd
        simp only [List.mem_cons, List.not_mem_nil, or_false] at hi
        rcases hi with rfl | rfl | rfl | rfl | rfl | rfl | rfl | rfl | rfl | rfl | rfl | rfl | rfl | rfl | rfl | rfl
        · exact absurd (by decide) hip
        · have hbx : Bx w B (Gv g) 73 := (hRd 0 (by decide)).2
          have hc := hbx.cell
          have hx0 : x 0 = .pointer (some ⟨B, 4, none⟩) := (hRd 0 (by decide)).1
          refine op_value rfl rfl (v := .string (S g.body)) (w' := w) ?_ ⟨_, rfl, hS, rfl, rfl⟩
          simp only [puts2, dstK, Act.put, List.setIfInBounds_toArray, reduceIte, Nat.reduceEqDiff, List.set_cons_zero, List.set_cons_succ]
          go_simp
        · have hbx : Bx w B (Gv g) 73 := (hRd 0 (by decide)).2
          have hc := hbx.cell
          have hx0 : x 0 = .pointer (some ⟨B, 4, none⟩) := (hRd 0 (by decide)).1
          refine op_value rfl rfl (v := .string (S g.body)) (w' := w) ?_ ⟨_, rfl, hS, rfl, rfl⟩
          simp only [puts2, dstK, Act.put, List.setIfInBounds_toArray, reduceIte, Nat.reduceEqDiff, List.set_cons_zero, List.set_cons_succ]
          go_simp
        · have hx : x 3 = .string (S g.body) := hF 3 (by decide)
          refine op_value rfl rfl (v := .int .i64 ((S g.body).size : Int)) (w' := w) ?_ ⟨_, rfl, hS, rfl, rfl⟩
          simp only [puts2, dstK, Act.put, List.setIfInBounds_toArray, reduceIte, Nat.reduceEqDiff, List.set_cons_zero, List.set_cons_succ]
          go_simp
        · have hx : x 4 = .int .i64 ((S g.body).size : Int) := hF 4 (by decide)
          refine op_value rfl rfl (v := .int .i64 (m1 : Int)) (w' := w) ?_ ⟨_, rfl, hS, rfl, rfl⟩
          simp only [puts2, dstK, Act.put, List.setIfInBounds_toArray, reduceIte, Nat.reduceEqDiff, List.set_cons_zero, List.set_cons_succ]
          go_simp
        · have hx : x 1 = .string (S g.body) := hF 1 (by decide)
          have hy : x 5 = .int .i64 (m1 : Int) := hF 5 (by decide)
          refine op_value rfl rfl (v := .string (S (g.body.take 200))) (w' := w) ?_ ⟨_, rfl, hS, rfl, rfl⟩
          simp only [puts2, dstK, Act.put, List.setIfInBounds_toArray, reduceIte, Nat.reduceEqDiff, List.set_cons_zero, List.set_cons_succ]
          go_simp
        · have hbx : Bx w B (Gv g) 73 := (hRd 0 (by decide)).2
          have hc := hbx.cell
          have hx0 : x 0 = .pointer (some ⟨B, 4, none⟩) := (hRd 0 (by decide)).1
          refine op_value rfl rfl (v := .string (S g.rc.g)) (w' := w) ?_ ⟨_, rfl, hS, rfl, rfl⟩
          simp only [puts2, dstK, Act.put, List.setIfInBounds_toArray, reduceIte, Nat.reduceEqDiff, List.set_cons_zero, List.set_cons_succ]
          go_simp
        · have hbx : Bx w B (Gv g) 73 := (hRd 0 (by decide)).2
          have hc := hbx.cell
          have hx0 : x 0 = .pointer (some ⟨B, 4, none⟩) := (hRd 0 (by decide)).1
          refine op_value rfl rfl (v := .string (S g.rc.g)) (w' := w) ?_ ⟨_, rfl, hS, rfl, rfl⟩
          simp only [puts2, dstK, Act.put, List.setIfInBounds_toArray, reduceIte, Nat.reduceEqDiff, List.set_cons_zero, List.set_cons_succ]
          go_simp
        · have hx : x 12 = .string (S g.rc.g) := hF 12 (by decide)
          refine op_value rfl rfl (v := .int .i64 ((S g.rc.g).size : Int)) (w' := w) ?_ ⟨_, rfl, hS, rfl, rfl⟩
          simp only [puts2, dstK, Act.put, List.setIfInBounds_toArray, reduceIte, Nat.reduceEqDiff, List.set_cons_zero, List.set_cons_succ]
          go_simp
        · have hx : x 13 = .int .i64 ((S g.rc.g).size : Int) := hF 13 (by decide)
          refine op_value rfl rfl (v := .int .i64 (m2 : Int)) (w' := w) ?_ ⟨_, rfl, hS, rfl, rfl⟩
          simp only [puts2, dstK, Act.put, List.setIfInBounds_toArray, reduceIte, Nat.reduceEqDiff, List.set_cons_zero, List.set_cons_succ]
          go_simp
        · have hx : x 9 = .string (S g.rc.g) := hF 9 (by decide)
          have hy : x 14 = .int .i64 (m2 : Int) := hF 14 (by decide)
          refine op_value rfl rfl (v := .string (S (g.rc.g.take 200))) (w' := w) ?_ ⟨_, rfl, hS, rfl, rfl⟩
          simp only [puts2, dstK, Act.put, List.setIfInBounds_toArray, reduceIte, Nat.reduceEqDiff, List.set_cons_zero, List.set_cons_succ]
          go_simp
        · refine op_value rfl rfl (v := .pointer (some ⟨B, 4, none⟩)) (w' := w) ?_ ⟨_, rfl, hS, rfl, rfl⟩
          simp only [puts2, dstK, Act.put, List.setIfInBounds_toArray, reduceIte, Nat.reduceEqDiff, List.set_cons_zero, List.set_cons_succ]
          go_simp
        · have hx : x 6 = .string (S (g.body.take 200)) := hF 6 (by decide)
          have hbx : Bx w B (Gv g) 73 := (hF 0 (by decide)).2
          have hp : x 16 = .pointer (some ⟨B, 4, none⟩) := hF 16 (by decide)
          have hc : w.cell? ⟨B, 4, none⟩ = some (.string (S g.body)) := (hbx.cell 4).trans rfl
          have hz := hbx.frozen 4
          refine op_skip rfl rfl (w' := w.setCell ⟨B, 4, none⟩ (.string (S (g.body.take 200)))) ?_ ⟨undef, rfl, hS.setCell _ _, hbx.set 4 _, trivial⟩
          simp only [puts2, dstK, Act.put, List.setIfInBounds_toArray, reduceIte, Nat.reduceEqDiff, List.set_cons_zero, List.set_cons_succ]
          go_simp
        · refine op_value rfl rfl (v := .pointer (some ⟨B, 0, none⟩)) (w' := w) ?_ ⟨_, rfl, hS, rfl, rfl⟩
          simp only [puts2, dstK, Act.put, List.setIfInBounds_toArray, reduceIte, Nat.reduceEqDiff, List.set_cons_zero, List.set_cons_succ]
          go_simp
        · have hx : x 18 = .pointer (some ⟨B, 0, none⟩) := hF 18 (by decide)
          refine op_value rfl rfl (v := .pointer (some ⟨B, 1, none⟩)) (w' := w) ?_ ⟨_, rfl, hS, rfl, rfl⟩
          simp only [puts2, dstK, Act.put, List.setIfInBounds_toArray, reduceIte, Nat.reduceEqDiff, List.set_cons_zero, List.set_cons_succ]
          go_simp
        · have hx : x 15 = .string (S (g.rc.g.take 200)) := hF 15 (by decide)
          have hbx : Bx w B (Gv { g with body := g.body.take 200 }) 73 := hF 17 (by decide)
          have hp : x 19 = .pointer (some ⟨B, 1, none⟩) := hF 19 (by decide)
          have hc : w.cell? ⟨B, 1, none⟩ = some (.string (S g.rc.g)) := (hbx.cell 1).trans rfl
          have hz := hbx.frozen 1
          refine op_skip rfl rfl (w' := w.setCell ⟨B, 1, none⟩ (.string (S (g.rc.g.take 200)))) ?_ ⟨undef, rfl, hS.setCell _ _, hbx.set 1 _, trivial⟩
          simp only [puts2, dstK, Act.put, List.setIfInBounds_toArray, reduceIte, Nat.reduceEqDiff, List.set_cons_zero, List.set_cons_succ]
          go_simp
      case fin =>
        intro x w3 hS hF
        have hb3 : Bx w3 B (Gv (fewG g)) 73 := hF 20 (by decide) (by decide)
        have HB3 : Hid (Bx w3 B (gC (fewG g)).toArray 73) := mkH hb3
        have hbl : Below B wr w3 := (hBq ▸ HG2.out.below : Below B wr W2.drew).trans (hS.below (Nat.le_refl _))
        have hown := own_below HW.out (hBq ▸ hbl)
        have hsz3 : w.heap.size + 2 ≤ w3.heap.size := by have := hbl.size; omega
        have HBe3 := mkH (HBe.out.trans (hbl.mono (by omega)))
        have hcl : (gC (fewG g)).length = 6 := rfl
        have HLG := mkH (load_bx (P := Try.prog) HB3.out Try.underlying73 rfl infoG)
        have HSRC : Hid (Src Try.prog 6 40 (.slice (some ⟨w3.heap.size, 0, none⟩) 1 1) 1 (Fl gC [fewG g]) (w3.alloc (.cells (gC (fewG g)).toArray 73))) := mkH (by exact Wq.src_new (P := Try.prog) gC_len gC_one (by decide) Try.underlying40 w3 (fewG g) 73)
        clear hF hS hHeld hb3 HW HBe HB2 HG2 HB1 hq e1 e2 e3 e4 e5 e6 g1 g4 HLD HI HSZ HONE t1 t2 hbl
        simp only [puts2, dstK, Act.put, List.setIfInBounds_toArray, reduceIte, Nat.reduceEqDiff, List.set_cons_zero, List.set_cons_succ]
        go_wp2_with (first
          | (refine wpList_ld (ty := 73) (x := .tmp 5) rfl rfl rfl HLG.out ?_)
          | (at_builtin; go_loud (refine wpList_append_own_src _ rfl (.tmp 41) (.tmp 43) 40 40 rfl (w.heap.size + 2) 73 (.agg #[.int .i64 0, .string ⟨#[]⟩, .int .i64 0, .int .i64 0, .string ⟨#[]⟩, .int .i64 0]) 6 64 Try.underlying40 info_G rfl (by decide) _ k _ rfl (hown.alloc _) _ 1 (Fl gC [fewG g]) rfl HSRC.out (by unfold maxLen; omega) (by omega) (by simp; omega) ?_; intro v4 W4 hown4 hgrow4; have HB4 := mkH (below_own (hown.alloc _) hgrow4 ((Below.refl (w.heap.size + 2) w3).alloc hsz3 _) (by simp; omega)); have HW4 := mkH hown4; clear hown4 hgrow4)))
        have HW5 : Hid (W4.ownsRow (w.heap.size + 2) 73 6 v4 (k + 1) (Fl gC ((r.got.take (k + 1)).map fewG))) := mkH (by rw [HSN.out, Fl_append]; exact HW4.out)
        have HBe4 := mkH (HBe3.out.trans HB4.out)
        clear HW4 HB4 HBe3 hown HB3
        refine ⟨⟨k + 1, by omega, by omega, by go_num, HW5, HBe4⟩, ?_⟩
        simp [intOf]; omega
    · have HTK : Hid ((r.got.take k).map fewG = (r.got.take 1100).map fewG) := mkH (by
        by_cases h : k < r.got.length
        · rw [show k = 1100 by omega]
        · rw [List.take_of_length_le (by omega), List.take_of_length_le (by omega)])
      have hlk : ((r.got.take 1100).map fewG).length = k := by rw [← HTK.out, List.length_map, List.length_take]; omega
      have HLK := mkH hlk
      have hown := HW.out
      rw [HTK.out] at hown
      obtain ⟨g4, gc4, rfl⟩ := own_form hown
      have HRG : Hid (RowG wr g4 ((r.got.take 1100).map fewG)) := mkH (RowS.own gC_len (by rw [hlk]; exact hown))
      have HGF : Hid (∀ a, g4 = some a → w.heap.size + 2 ≤ a.block) := mkH (by
        rintro a rfl
        rcases hown.2 with ⟨e1, -⟩ | ⟨g, c, cur, e1, h2, h3, h4⟩
        · simp at e1
        · simp only [Value.slice.injEq, Option.some.injEq] at e1
          rw [e1.1]; exact h2)
      have HDA := mkH (data_any wr da dc r.data (HRM.out wr HBe.out).data hd1)
      have hc3 : (¬ (k : Int) < (r.got.length : Int)) ∨ ((k : Int) < (r.got.length : Int) ∧ ¬ (k : Int) < 1100) := by omega
      clear hown HW HTK hlk
      rcases hc3 with c1 | ⟨c1, c2⟩
      · go_wp2_with fail
        refine HDA.out.mono ?_
        rintro e w5 ⟨d5, dc5, rfl, hr5, hf5, hb5⟩
        have hB5 := HB1.out.below hb5 HB1.out.lt
        have hZ5 := (HZ0.out.below HBe.out (by omega)).below hb5 (by omega)
        have hbe5 := HBe.out.trans (hb5.mono (by omega))
        have HRG5 := mkH (RowS.below HRG.out hb5)
        have HRM5 := mkH (HRM.out _ hbe5)
        have hq5 := hB5.cell
        have hz5 := hB5.frozen
        have hsz5 : w.heap.size + 2 ≤ w5.heap.size := by have := hb5.size; omega
        obtain ⟨D3, hD3⟩ : ∃ D3, D3 = Pv ⟨r.err, r.seq, r.n, (r.got.take 1100).map fewG, dataC r.data, r.about⟩ g4 gc4 d5 dc5 ra rc := ⟨_, rfl⟩
        have hB6 : Bx ((w5.setCell ⟨w.heap.size, 3, none⟩ (.slice g4 k gc4)).setCell ⟨w.heap.size, 4, none⟩ (.slice d5 (dataC r.data).length dc5)) w.heap.size D3 43 := by
          have h1 := (hB5.set 3 (.slice g4 k gc4)).set 4 (.slice d5 (dataC r.data).length dc5)
          rw [HC.out] at h1
          rw [hD3]
          have e : ((Pv r ga gc da dc ra rc).setIfInBounds 3 (.slice g4 k gc4)).setIfInBounds 4 (.slice d5 (dataC r.data).length dc5) = Pv ⟨r.err, r.seq, r.n, (r.got.take 1100).map fewG, dataC r.data, r.about⟩ g4 gc4 d5 dc5 ra rc := by
            have := HLK.out
            simp [Pv, ← this]
          rw [e] at h1
          exact h1
        obtain ⟨m, e1, e2, e3, e4⟩ : ∃ m : Nat, (if (1100 : Int) < (r.about.length : Int) then (1100 : Int) else (r.about.length : Int)) = (m : Int) ∧ (m : Int) ≤ (rc : Int) ∧ (r.about.take 1100).length = m ∧ m ≤ 1100 := by
          refine ⟨(r.about.take 1100).length, ?_, ?_, rfl, ?_⟩
          · rw [List.length_take]; split <;> omega
          · rw [List.length_take]; omega
          · rw [List.length_take]; omega
        have p5 : D3[5]? = some (.slice ra r.about.length rc) := by rw [hD3]; rfl
        have HD3 := mkH hD3
        have HB6 := mkH hB6
        have hSB : Below (w.heap.size) w ((w5.setCell ⟨w.heap.size, 3, none⟩ (.slice g4 k gc4)).setCell ⟨w.heap.size, 4, none⟩ (.slice d5 (dataC r.data).length dc5)) := ((HG0.out.below.trans (hbe5.mono (by omega))).setCell (Nat.le_refl _) _).setCell (Nat.le_refl _) _
        have hZ6 := (hZ5.other (p := ⟨w.heap.size, 3, none⟩) (by simp) (.slice g4 k gc4)).other (p := ⟨w.heap.size, 4, none⟩) (by simp) (.slice d5 (dataC r.data).length dc5)
        have hRG6 := RowS.setCell (RowS.setCell HRG5.out (p := ⟨w.heap.size, 3, none⟩) (fun a ha => by have := HGF.out a ha; simp; omega) (.slice g4 k gc4)) (p := ⟨w.heap.size, 4, none⟩) (fun a ha => by have := HGF.out a ha; simp; omega) (.slice d5 (dataC r.data).length dc5)
        have hRD6 := Wk.RowT.setCell (Wk.RowT.setCell hr5 (p := ⟨w.heap.size, 3, none⟩) (fun a ha => by have := hf5 a ha; simp; omega) (.slice g4 k gc4)) (p := ⟨w.heap.size, 4, none⟩) (fun a ha => by have := hf5 a ha; simp; omega) (.slice d5 (dataC r.data).length dc5)
        have hRA6 : RowR ((w5.setCell ⟨w.heap.size, 3, none⟩ (.slice g4 k gc4)).setCell ⟨w.heap.size, 4, none⟩ (.slice d5 (dataC r.data).length dc5)) ra (r.about.take 1100) := by
          refine RowS.take ?_ 1100
          by_cases h0 : 0 < r.about.length
          · have hbk := RowS.block HMW.out.about h0 (fun x => by simp [rC])
            exact RowS.setCell (RowS.setCell HRM5.out.about (p := ⟨w.heap.size, 3, none⟩) (fun a ha => by have := hbk a ha; simp; omega) _) (p := ⟨w.heap.size, 4, none⟩) (fun a ha => by have := hbk a ha; simp; omega) _
          · exact fun h => absurd h h0
        have HSB := mkH hSB
        have HZ6 := mkH hZ6
        have HRG6 := mkH hRG6
        have HRD6 := mkH hRD6
        have HRA6 := mkH hRA6
        have HD5F := mkH hf5
        clear hSB hZ6 hRG6 hRD6 hRA6 hB6 hf5 hr5 hb5 hbe5 hZ5 hB5 HRG5 HRM5 HRG HRM HDA hD3
        have hszW : ((w5.setCell ⟨w.heap.size, 3, none⟩ (.slice g4 k gc4)).setCell ⟨w.heap.size, 4, none⟩ (.slice d5 (dataC r.data).length dc5)).heap.size = w5.heap.size := by simp
        go_upto_region 9 with fail
        generalize ((w5.setCell ⟨w.heap.size, 3, none⟩ (.slice g4 k gc4)).setCell ⟨w.heap.size, 4, none⟩ (.slice d5 (dataC r.data).length dc5)) = W6 at *
        have hq6 : ∀ j, (W6.alloc (.cells #[] 25)).cell? ⟨w.heap.size, j, none⟩ = D3[j]? := (HB6.out.alloc _).cell
        have hq7 : ∀ j, W6.cell? ⟨w.heap.size, j, none⟩ = D3[j]? := HB6.out.cell
        have hszW6 : w.heap.size + 2 ≤ W6.heap.size := by omega
        clear hszW
        have HSRC := mkH (RowS.src rC_len rC_one (by decide) (P := Try.prog) Try.underlying41 (HRA6.out.gr ((Gr.refl W6).alloc (.cells #[] 25))) rc)
        rw [e3] at HSRC
        go_upto_region 10 with (at_builtin; refine wpList_append_own_src _ rfl (.tmp 51) (.tmp 58) 41 41 rfl W6.heap.size 25 (.agg #[.int .i64 0, .int .i64 0]) 2 16 Try.underlying41 info_R rfl (by decide) _ 0 [] rfl (World.ownsRow_made (e := 25) (size := 2) W6 #[] 0 (Nat.le_refl _) (Nat.zero_le _) rfl) _ m (Fl rC (r.about.take 1100)) rfl HSRC.out (by unfold maxLen; omega) (by omega) (by simp) ?_; intro v8 W8 hown8 hgrow8; rw [List.nil_append, Nat.zero_add] at hown8; have hb8 := below_own (World.ownsRow_made (e := 25) (size := 2) W6 #[] 0 (Nat.le_refl _) (Nat.zero_le _) rfl) hgrow8 ((Below.refl W6.heap.size W6).alloc (Nat.le_refl _) (.cells #[] 25)) (by simp); obtain ⟨ra8, rc8, rfl⟩ := own_form hown8; have HO8 := mkH hown8; have hB8 := HB6.out.below hb8 (by omega); have hq8 := hB8.cell; have hz8 := hB8.frozen; have HB8 := mkH hB8; have HE8 := mkH hb8; clear hown8 hgrow8 hb8 hB8)
        have hszW8 : W6.heap.size ≤ W8.heap.size := HE8.out.size
        obtain ⟨D4, hD4⟩ : ∃ D4, D4 = Pv (fewR r) g4 gc4 d5 dc5 ra8 rc8 := ⟨_, rfl⟩
        have hB9 : Bx (W8.setCell ⟨w.heap.size, 5, none⟩ (.slice ra8 m rc8)) w.heap.size D4 43 := by
          have h1 := HB8.out.set 5 (.slice ra8 m rc8)
          rw [HD3.out] at h1
          rw [hD4]
          have e : (Pv ⟨r.err, r.seq, r.n, (r.got.take 1100).map fewG, dataC r.data, r.about⟩ g4 gc4 d5 dc5 ra rc).setIfInBounds 5 (.slice ra8 m rc8) = Pv (fewR r) g4 gc4 d5 dc5 ra8 rc8 := by
            simp [Pv, fewR, ← e3]
          rw [e] at h1
          exact h1
        have hfar : ∀ a, ra8 = some a → w.heap.size + 2 ≤ a.block := by
          rintro a rfl
          rcases HO8.out.2 with ⟨e1, -⟩ | ⟨g, c, cur, e1, h2, h3, h4⟩
          · simp at e1
          · simp only [Value.slice.injEq, Option.some.injEq] at e1
            rw [e1.1]; exact Nat.le_trans hszW6 h2
        have hdfar : ∀ a, d5 = some a → w.heap.size + 2 ≤ a.block := fun a ha => by have := HD5F.out a ha; omega
        have hZ9 := (HZ6.out.below HE8.out (by omega)).other (p := ⟨w.heap.size, 5, none⟩) (by simp) (.slice ra8 m rc8)
        have hRG9 := RowS.setCell (RowS.below HRG6.out HE8.out) (p := ⟨w.heap.size, 5, none⟩) (fun a ha => by have := HGF.out a ha; simp; omega) (.slice ra8 m rc8)
        have hRD9 := Wk.RowT.setCell (HRD6.out.below HE8.out) (p := ⟨w.heap.size, 5, none⟩) (fun a ha => by have := hdfar a ha; simp; omega) (.slice ra8 m rc8)
        have hRA9 : RowR (W8.setCell ⟨w.heap.size, 5, none⟩ (.slice ra8 m rc8)) ra8 (r.about.take 1100) := RowS.setCell (RowS.own rC_len (by rw [e3]; exact HO8.out)) (fun a ha => by have := hfar a ha; simp; omega) _
        have hSB9 : Below w.heap.size w (W8.setCell ⟨w.heap.size, 5, none⟩ (.slice ra8 m rc8)) := (HSB.out.trans (HE8.out.mono (by omega))).setCell (Nat.le_refl _) _
        have hs6 : D4.size = 6 := by rw [hD4]; rfl
        have HI4 : Hid ((Try.prog.info? 43).map (·.size) = some D4.size) := mkH (by rw [hs6]; exact infoP)
        have HZS : Hid (ZP.size = D4.size) := mkH (by rw [hs6]; rfl)
        have HO4 : Hid (D4.all (fun x => x.oneCell') = true) := mkH (by rw [hD4]; exact Pv_one _ _ _ _ _ _ _)
        generalize W8.setCell ⟨w.heap.size, 5, none⟩ (.slice ra8 m rc8) = W9 at *
        have HL9 := mkH (load_bx (P := Try.prog) hB9 Try.underlying43 rfl HI4.out)
        have HZ9 := mkH hZ9
        have HL10 := mkH (load_bx (P := Try.prog) (hZ9.row HZS.out) Try.underlying43 rfl HI4.out)
        have HR9 := mkH (And.intro hRG9 (And.intro hRD9 (And.intro hRA9 hSB9)))
        have HF9 := mkH (And.intro hfar hdfar)
        have HD4 := mkH hD4
        clear hZ9 hRG9 hRD9 hRA9 hSB9 hfar hdfar hD4 hB9 HO8 HB8 HE8 hq8 hz8 HB6 HZ6 HRG6 HRD6 HRA6 HSB HD5F HSRC hq6 hq7
        go_wp2_with (first
          | (refine wpList_ld (ty := 43) (x := .tmp 1) rfl rfl rfl HL9.out ?_)
          | (refine wpList_st rfl (ty := 43) (x := .tmp 2) (y := .tmp 61) rfl rfl rfl HZ9.out HI4.out HZS.out HO4.out ?_))
        refine ret_bx 2 43 rfl (w.heap.size + 1) rfl HL10.out rfl ?_
        obtain ⟨q1, q2, q3, q4⟩ := HR9.out
        refine ⟨g4, gc4, d5, dc5, ra8, rc8, by rw [HD4.out], ⟨RowS.setRow q1 (fun a ha => by have := HGF.out a ha; omega) D4, Wk.RowT.setRow q2 (fun a ha => by have := HF9.out.2 a ha; omega) D4, RowS.setRow q3 (fun a ha => by have := HF9.out.1 a ha; omega) D4⟩, ⟨fun a ha => by have := HGF.out a ha; omega, fun a ha => by have := HF9.out.2 a ha; omega, fun a ha => by have := HF9.out.1 a ha; omega⟩, below_setRow q4 (by omega) D4⟩
      · go_wp2_with fail
        refine HDA.out.mono ?_
        rintro e w5 ⟨d5, dc5, rfl, hr5, hf5, hb5⟩
        have hB5 := HB1.out.below hb5 HB1.out.lt
        have hZ5 := (HZ0.out.below HBe.out (by omega)).below hb5 (by omega)
        have hbe5 := HBe.out.trans (hb5.mono (by omega))
        have HRG5 := mkH (RowS.below HRG.out hb5)
        have HRM5 := mkH (HRM.out _ hbe5)
        have hq5 := hB5.cell
        have hz5 := hB5.frozen
        have hsz5 : w.heap.size + 2 ≤ w5.heap.size := by have := hb5.size; omega
        obtain ⟨D3, hD3⟩ : ∃ D3, D3 = Pv ⟨r.err, r.seq, r.n, (r.got.take 1100).map fewG, dataC r.data, r.about⟩ g4 gc4 d5 dc5 ra rc := ⟨_, rfl⟩
        have hB6 : Bx ((w5.setCell ⟨w.heap.size, 3, none⟩ (.slice g4 k gc4)).setCell ⟨w.heap.size, 4, none⟩ (.slice d5 (dataC r.data).length dc5)) w.heap.size D3 43 := by
          have h1 := (hB5.set 3 (.slice g4 k gc4)).set 4 (.slice d5 (dataC r.data).length dc5)
          rw [HC.out] at h1
          rw [hD3]
          have e : ((Pv r ga gc da dc ra rc).setIfInBounds 3 (.slice g4 k gc4)).setIfInBounds 4 (.slice d5 (dataC r.data).length dc5) = Pv ⟨r.err, r.seq, r.n, (r.got.take 1100).map fewG, dataC r.data, r.about⟩ g4 gc4 d5 dc5 ra rc := by
            have := HLK.out
            simp [Pv, ← this]
          rw [e] at h1
          exact h1
        obtain ⟨m, e1, e2, e3, e4⟩ : ∃ m : Nat, (if (1100 : Int) < (r.about.length : Int) then (1100 : Int) else (r.about.length : Int)) = (m : Int) ∧ (m : Int) ≤ (rc : Int) ∧ (r.about.take 1100).length = m ∧ m ≤ 1100 := by
          refine ⟨(r.about.take 1100).length, ?_, ?_, rfl, ?_⟩
          · rw [List.length_take]; split <;> omega
          · rw [List.length_take]; omega
          · rw [List.length_take]; omega
        have p5 : D3[5]? = some (.slice ra r.about.length rc) := by rw [hD3]; rfl
        have HD3 := mkH hD3
        have HB6 := mkH hB6
        have hSB : Below (w.heap.size) w ((w5.setCell ⟨w.heap.size, 3, none⟩ (.slice g4 k gc4)).setCell ⟨w.heap.size, 4, none⟩ (.slice d5 (dataC r.data).length dc5)) := ((HG0.out.below.trans (hbe5.mono (by omega))).setCell (Nat.le_refl _) _).setCell (Nat.le_refl _) _
        have hZ6 := (hZ5.other (p := ⟨w.heap.size, 3, none⟩) (by simp) (.slice g4 k gc4)).other (p := ⟨w.heap.size, 4, none⟩) (by simp) (.slice d5 (dataC r.data).length dc5)
        have hRG6 := RowS.setCell (RowS.setCell HRG5.out (p := ⟨w.heap.size, 3, none⟩) (fun a ha => by have := HGF.out a ha; simp; omega) (.slice g4 k gc4)) (p := ⟨w.heap.size, 4, none⟩) (fun a ha => by have := HGF.out a ha; simp; omega) (.slice d5 (dataC r.data).length dc5)
        have hRD6 := Wk.RowT.setCell (Wk.RowT.setCell hr5 (p := ⟨w.heap.size, 3, none⟩) (fun a ha => by have := hf5 a ha; simp; omega) (.slice g4 k gc4)) (p := ⟨w.heap.size, 4, none⟩) (fun a ha => by have := hf5 a ha; simp; omega) (.slice d5 (dataC r.data).length dc5)
        have hRA6 : RowR ((w5.setCell ⟨w.heap.size, 3, none⟩ (.slice g4 k gc4)).setCell ⟨w.heap.size, 4, none⟩ (.slice d5 (dataC r.data).length dc5)) ra (r.about.take 1100) := by
          refine RowS.take ?_ 1100
          by_cases h0 : 0 < r.about.length
          · have hbk := RowS.block HMW.out.about h0 (fun x => by simp [rC])
            exact RowS.setCell (RowS.setCell HRM5.out.about (p := ⟨w.heap.size, 3, none⟩) (fun a ha => by have := hbk a ha; simp; omega) _) (p := ⟨w.heap.size, 4, none⟩) (fun a ha => by have := hbk a ha; simp; omega) _
          · exact fun h => absurd h h0
        have HSB := mkH hSB
        have HZ6 := mkH hZ6
        have HRG6 := mkH hRG6
        have HRD6 := mkH hRD6
        have HRA6 := mkH hRA6
        have HD5F := mkH hf5
        clear hSB hZ6 hRG6 hRD6 hRA6 hB6 hf5 hr5 hb5 hbe5 hZ5 hB5 HRG5 HRM5 HRG HRM HDA hD3
        have hszW : ((w5.setCell ⟨w.heap.size, 3, none⟩ (.slice g4 k gc4)).setCell ⟨w.heap.size, 4, none⟩ (.slice d5 (dataC r.data).length dc5)).heap.size = w5.heap.size := by simp
        go_upto_region 9 with fail
        generalize ((w5.setCell ⟨w.heap.size, 3, none⟩ (.slice g4 k gc4)).setCell ⟨w.heap.size, 4, none⟩ (.slice d5 (dataC r.data).length dc5)) = W6 at *
        have hq6 : ∀ j, (W6.alloc (.cells #[] 25)).cell? ⟨w.heap.size, j, none⟩ = D3[j]? := (HB6.out.alloc _).cell
        have hq7 : ∀ j, W6.cell? ⟨w.heap.size, j, none⟩ = D3[j]? := HB6.out.cell
        have hszW6 : w.heap.size + 2 ≤ W6.heap.size := by omega
        clear hszW
        have HSRC := mkH (RowS.src rC_len rC_one (by decide) (P := Try.prog) Try.underlying41 (HRA6.out.gr ((Gr.refl W6).alloc (.cells #[] 25))) rc)
        rw [e3] at HSRC
        go_upto_region 10 with (at_builtin; refine wpList_append_own_src _ rfl (.tmp 51) (.tmp 58) 41 41 rfl W6.heap.size 25 (.agg #[.int .i64 0, .int .i64 0]) 2 16 Try.underlying41 info_R rfl (by decide) _ 0 [] rfl (World.ownsRow_made (e := 25) (size := 2) W6 #[] 0 (Nat.le_refl _) (Nat.zero_le _) rfl) _ m (Fl rC (r.about.take 1100)) rfl HSRC.out (by unfold maxLen; omega) (by omega) (by simp) ?_; intro v8 W8 hown8 hgrow8; rw [List.nil_append, Nat.zero_add] at hown8; have hb8 := below_own (World.ownsRow_made (e := 25) (size := 2) W6 #[] 0 (Nat.le_refl _) (Nat.zero_le _) rfl) hgrow8 ((Below.refl W6.heap.size W6).alloc (Nat.le_refl _) (.cells #[] 25)) (by simp); obtain ⟨ra8, rc8, rfl⟩ := own_form hown8; have HO8 := mkH hown8; have hB8 := HB6.out.below hb8 (by omega); have hq8 := hB8.cell; have hz8 := hB8.frozen; have HB8 := mkH hB8; have HE8 := mkH hb8; clear hown8 hgrow8 hb8 hB8)
        have hszW8 : W6.heap.size ≤ W8.heap.size := HE8.out.size
        obtain ⟨D4, hD4⟩ : ∃ D4, D4 = Pv (fewR r) g4 gc4 d5 dc5 ra8 rc8 := ⟨_, rfl⟩
        have hB9 : Bx (W8.setCell ⟨w.heap.size, 5, none⟩ (.slice ra8 m rc8)) w.heap.size D4 43 := by
          have h1 := HB8.out.set 5 (.slice ra8 m rc8)
          rw [HD3.out] at h1
          rw [hD4]
          have e : (Pv ⟨r.err, r.seq, r.n, (r.got.take 1100).map fewG, dataC r.data, r.about⟩ g4 gc4 d5 dc5 ra rc).setIfInBounds 5 (.slice ra8 m rc8) = Pv (fewR r) g4 gc4 d5 dc5 ra8 rc8 := by
            simp [Pv, fewR, ← e3]
          rw [e] at h1
          exact h1
        have hfar : ∀ a, ra8 = some a → w.heap.size + 2 ≤ a.block := by
          rintro a rfl
          rcases HO8.out.2 with ⟨e1, -⟩ | ⟨g, c, cur, e1, h2, h3, h4⟩
          · simp at e1
          · simp only [Value.slice.injEq, Option.some.injEq] at e1
            rw [e1.1]; exact Nat.le_trans hszW6 h2
        have hdfar : ∀ a, d5 = some a → w.heap.size + 2 ≤ a.block := fun a ha => by have := HD5F.out a ha; omega
        have hZ9 := (HZ6.out.below HE8.out (by omega)).other (p := ⟨w.heap.size, 5, none⟩) (by simp) (.slice ra8 m rc8)
        have hRG9 := RowS.setCell (RowS.below HRG6.out HE8.out) (p := ⟨w.heap.size, 5, none⟩) (fun a ha => by have := HGF.out a ha; simp; omega) (.slice ra8 m rc8)
        have hRD9 := Wk.RowT.setCell (HRD6.out.below HE8.out) (p := ⟨w.heap.size, 5, none⟩) (fun a ha => by have := hdfar a ha; simp; omega) (.slice ra8 m rc8)
        have hRA9 : RowR (W8.setCell ⟨w.heap.size, 5, none⟩ (.slice ra8 m rc8)) ra8 (r.about.take 1100) := RowS.setCell (RowS.own rC_len (by rw [e3]; exact HO8.out)) (fun a ha => by have := hfar a ha; simp; omega) _
        have hSB9 : Below w.heap.size w (W8.setCell ⟨w.heap.size, 5, none⟩ (.slice ra8 m rc8)) := (HSB.out.trans (HE8.out.mono (by omega))).setCell (Nat.le_refl _) _
        have hs6 : D4.size = 6 := by rw [hD4]; rfl
        have HI4 : Hid ((Try.prog.info? 43).map (·.size) = some D4.size) := mkH (by rw [hs6]; exact infoP)
        have HZS : Hid (ZP.size = D4.size) := mkH (by rw [hs6]; rfl)
        have HO4 : Hid (D4.all (fun x => x.oneCell') = true) := mkH (by rw [hD4]; exact Pv_one _ _ _ _ _ _ _)
        generalize W8.setCell ⟨w.heap.size, 5, none⟩ (.slice ra8 m rc8) = W9 at *
        have HL9 := mkH (load_bx (P := Try.prog) hB9 Try.underlying43 rfl HI4.out)
        have HZ9 := mkH hZ9
        have HL10 := mkH (load_bx (P := Try.prog) (hZ9.row HZS.out) Try.underlying43 rfl HI4.out)
        have HR9 := mkH (And.intro hRG9 (And.intro hRD9 (And.intro hRA9 hSB9)))
        have HF9 := mkH (And.intro hfar hdfar)
        have HD4 := mkH hD4
        clear hZ9 hRG9 hRD9 hRA9 hSB9 hfar hdfar hD4 hB9 HO8 HB8 HE8 hq8 hz8 HB6 HZ6 HRG6 HRD6 HRA6 HSB HD5F HSRC hq6 hq7
        go_wp2_with (first
          | (refine wpList_ld (ty := 43) (x := .tmp 1) rfl rfl rfl HL9.out ?_)
          | (refine wpList_st rfl (ty := 43) (x := .tmp 2) (y := .tmp 61) rfl rfl rfl HZ9.out HI4.out HZS.out HO4.out ?_))
        refine ret_bx 2 43 rfl (w.heap.size + 1) rfl HL10.out rfl ?_
        obtain ⟨q1, q2, q3, q4⟩ := HR9.out
        refine ⟨g4, gc4, d5, dc5, ra8, rc8, by rw [HD4.out], ⟨RowS.setRow q1 (fun a ha => by have := HGF.out a ha; omega) D4, Wk.RowT.setRow q2 (fun a ha => by have := HF9.out.2 a ha; omega) D4, RowS.setRow q3 (fun a ha => by have := HF9.out.1 a ha; omega) D4⟩, ⟨fun a ha => by have := HGF.out a ha; omega, fun a ha => by have := HF9.out.2 a ha; omega, fun a ha => by have := HF9.out.1 a ha; omega⟩, below_setRow q4 (by omega) D4⟩
end Go.Proofs.Ytjboldahmndkeaa.Wfr
