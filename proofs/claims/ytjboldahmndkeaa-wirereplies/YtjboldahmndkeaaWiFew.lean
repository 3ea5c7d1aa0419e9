/-
  The laws' few.
-/
import Derived.Test.YtjboldahmndkeaaWiT
namespace Go.Proofs.Ytjboldahmndkeaa.Wfw
open Go.RowKit Kt Pl Wi Wk Ww Wx We Wf Wy Wb
open At (RowT okT)
set_option linter.unusedVariables false
set_option linter.unusedSimpArgs false
set_option maxRecDepth 20000

theorem start2 {P : Program} {id : Nat} {ops : Array Oper} {b : Bool} {Q : Exit → Act → World → Prop} {a : Act} {w : World} {cs zs : Array Value} {t u : TypeId}
    (h : ∀ W0 Z, Z.size = zs.size → Bx W0 w.heap.size cs t → Bx W0 (w.heap.size + 1) Z u → Gr w W0 → (Code.region id ops b).wp P Q a W0) : (Code.region id ops b).wp P Q a ((w.alloc (.cells cs t)).alloc (.cells zs u)) :=
  h _ zs rfl ((Bx.new w cs t).alloc _) (by have := Bx.new (w.alloc (.cells cs t)) zs u; simpa using this) (((Gr.refl w).alloc _).alloc _)

def fewC (c : Cm) : Cm := { c with group := c.group.take 200, body := c.body.take 200, token := c.token.take 200, attempt := c.attempt.take 200, rc := { c.rc with g := c.rc.g.take 200 }, data := dataC c.data }
def dstF : Nat → Option Nat := (fun i => if i = 0 then some 4 else if i = 2 then some 6 else if i = 3 then some 7 else if i = 6 then some 10 else if i = 7 then some 11 else if i = 10 then some 14 else if i = 11 then some 15 else if i = 14 then some 18 else if i = 15 then some 19 else if i = 19 then some 23 else if i = 20 then some 24 else if i = 21 then some 25 else if i = 22 then none else if i = 23 then some 26 else if i = 24 then none else if i = 25 then some 27 else if i = 26 then none else if i = 27 then some 28 else if i = 28 then none else if i = 29 then some 29 else if i = 30 then some 30 else if i = 31 then none else none)
def consF : Nat → Nat := (fun i => if i = 0 then 22 else if i = 2 then 3 else if i = 3 then 22 else if i = 6 then 7 else if i = 7 then 24 else if i = 10 then 11 else if i = 11 then 26 else if i = 14 then 15 else if i = 15 then 28 else if i = 19 then 20 else if i = 20 then 31 else if i = 21 then 22 else if i = 22 then 24 else if i = 23 then 24 else if i = 24 then 26 else if i = 25 then 26 else if i = 26 then 28 else if i = 27 then 28 else if i = 28 then 31 else if i = 29 then 30 else if i = 30 then 31 else 999)
def depsF : Nat → List Nat := (fun i => if i = 3 then [2] else if i = 7 then [6] else if i = 11 then [10] else if i = 15 then [14] else if i = 20 then [19] else if i = 22 then [0, 3, 21] else if i = 24 then [22, 7, 23] else if i = 26 then [24, 11, 25] else if i = 28 then [26, 15, 27] else if i = 30 then [29] else if i = 31 then [28, 20, 30] else [])
def readsF : Nat → List Nat := (fun i => if i = 2 then [0] else if i = 3 then [0] else if i = 6 then [0] else if i = 10 then [0] else if i = 14 then [0] else if i = 19 then [0] else [])
def isWF : Nat → Bool := fun i => i == 0 || i == 22 || i == 24 || i == 26 || i == 28 || i == 31
def FF (B : Nat) (c : Cm) (d : Value) : Nat → Value → World → Prop := fun i v w => if i = 0 then v = .func (Fn.func 22) #[] #[] ∧ Bx w B (Cv c d) 28 else if i = 2 then v = .string (S c.group) else if i = 3 then v = .string (S (c.group.take 200)) else if i = 6 then v = .string (S c.body) else if i = 7 then v = .string (S (c.body.take 200)) else if i = 10 then v = .string (S c.token) else if i = 11 then v = .string (S (c.token.take 200)) else if i = 14 then v = .string (S c.attempt) else if i = 15 then v = .string (S (c.attempt.take 200)) else if i = 19 then v = .string (S c.rc.g) else if i = 20 then v = .string (S (c.rc.g.take 200)) else if i = 21 then v = .pointer (some ⟨B, 5, none⟩) else if i = 22 then Bx w B (Cv { c with group := c.group.take 200 } d) 28 else if i = 23 then v = .pointer (some ⟨B, 6, none⟩) else if i = 24 then Bx w B (Cv { c with group := c.group.take 200, body := c.body.take 200 } d) 28 else if i = 25 then v = .pointer (some ⟨B, 7, none⟩) else if i = 26 then Bx w B (Cv { c with group := c.group.take 200, body := c.body.take 200, token := c.token.take 200 } d) 28 else if i = 27 then v = .pointer (some ⟨B, 8, none⟩) else if i = 28 then Bx w B (Cv { c with group := c.group.take 200, body := c.body.take 200, token := c.token.take 200, attempt := c.attempt.take 200 } d) 28 else if i = 29 then v = .pointer (some ⟨B, 11, none⟩) else if i = 30 then v = .pointer (some ⟨B, 12, none⟩) else if i = 31 then Bx w B (Cv { c with group := c.group.take 200, body := c.body.take 200, token := c.token.take 200, attempt := c.attempt.take 200, rc := { c.rc with g := c.rc.g.take 200 } } d) 28 else True

/-- A command that came out: its data of memory since w. -/
def CmOut (w : World) (c : Cm) (e : Ending) (w' : World) : Prop := ∃ ao cap, e = .returned (.agg (Cv c (.slice ao c.data.length cap))) ∧ RowT w' ao c.data ∧ (∀ a, ao = some a → w.heap.size ≤ a.block) ∧ Below w.heap.size w w'
/-- Texts that a machine can hold. -/
def Fit63 (c : Cm) : Prop := c.group.length ≤ 9223372036854775807 ∧ c.body.length ≤ 9223372036854775807 ∧ c.token.length ≤ 9223372036854775807 ∧ c.attempt.length ≤ 9223372036854775807 ∧ c.rc.g.length ≤ 9223372036854775807 ∧ c.data.length ≤ 9223372036854775807
theorem Cv_one (c : Cm) (ao : Option Addr) (n cap : Nat) : (Cv c (.slice ao n cap)).all (fun x => x.oneCell') = true := by unfold Cv; rw [List.all_toArray]; rfl

set_option maxHeartbeats 8000000 in
theorem few_any (w : World) (c : Cm) (ao : Option Addr) (cap : Nat) (hr : RowT w ao c.data) (hfit : Fit63 c) :
    Calls Try.prog 8 #[.agg (Cv c (.slice ao c.data.length cap))] w fun e w' => CmOut w (fewC c) e w' := by
  obtain ⟨f1, f2, f3, f4, f5, f6⟩ := hfit
  obtain ⟨d, hd⟩ : ∃ d, d = Value.slice ao c.data.length cap := ⟨_, rfl⟩
  rw [← hd]
  obtain ⟨k0, k1, k2, k3, k4, k5, k6, k7, k8, k9, k10, k11, k12, k13, k14, k15, k16, k17, k18⟩ := Cv_at c d
  have HB0 := mkH (Bx.new w (Cv c d) 28)
  have HRw := mkH hr
  clear hr
  have HD := mkH hd
  clear hd
  go_enter Try.func8, Try.ntmps8
  go_wp2_with fail
  clear HB0
  refine start2 (fun W0 Z hZ hB1 hB2 hG => ?_)
  have hZ : Z.size = 19 := hZ
  generalize hBq : w.heap.size = B at hB1 hB2 ⊢
  have HBq := mkH hBq
  have HBB : Hid (B ≤ B) := mkH (Nat.le_refl _)
  have HZ := mkH hZ
  have HB1 := mkH hB1
  have hS0 : Below B w W0.drew ∧ Bx W0.drew (B + 1) Z 28 := ⟨hBq ▸ hG.drew.below, hB2⟩
  have HRR : Hid (∀ W, Below B w W → RowT W ao c.data) := mkH (fun W h => HRw.out.below (hBq ▸ h))
  clear hBq hB1 hB2 hG hZ HRw
  refine wp_region_held_drew (S := fun W => Below B w W ∧ Bx W (B + 1) Z 28) (by kernel_rfl) hS0 (fun hHeld => ?_)
  clear hS0
  refine wpAnyH_take (i := 0) (oi := { dst := some 4, op := _, type := _, pos := _, after := _, guard := _ }) (v := ?_) rfl (by kernel_rfl) (by kernel_rfl) (by kernel_rfl) (fun _ _ _ h => h) (Or.inl ⟨by rfl, ?_⟩) (by assumption) ?_
  rotate_left
  · (intro W hSw; (try dsimp only at hSw); go_simp; try (with_reducible rfl))
  try simp only [Act.put, List.setIfInBounds_toArray, List.set_cons_zero, List.set_cons_succ]
  refine wpAnyH_take (i := 1) (oi := { dst := some 5, op := _, type := _, pos := _, after := _, guard := _ }) (v := ?_) rfl (by kernel_rfl) (by kernel_rfl) (by kernel_rfl) (fun _ _ _ h => h) (Or.inl ⟨by rfl, ?_⟩) (by assumption) ?_
  rotate_left
  · (intro W hSw; (try dsimp only at hSw); go_simp; try (with_reducible rfl))
  try simp only [Act.put, List.setIfInBounds_toArray, List.set_cons_zero, List.set_cons_succ]
  refine wpAnyH_take (i := 4) (oi := { dst := some 8, op := _, type := _, pos := _, after := _, guard := _ }) (v := ?_) rfl (by kernel_rfl) (by kernel_rfl) (by kernel_rfl) (fun _ _ _ h => h) (Or.inl ⟨by rfl, ?_⟩) (by assumption) ?_
  rotate_left
  · (intro W hSw; (try dsimp only at hSw); go_simp; try (with_reducible rfl))
  try simp only [Act.put, List.setIfInBounds_toArray, List.set_cons_zero, List.set_cons_succ]
  refine wpAnyH_take (i := 5) (oi := { dst := some 9, op := _, type := _, pos := _, after := _, guard := _ }) (v := ?_) rfl (by kernel_rfl) (by kernel_rfl) (by kernel_rfl) (fun _ _ _ h => h) (Or.inl ⟨by rfl, ?_⟩) (by assumption) ?_
  rotate_left
  · (intro W hSw; (try dsimp only at hSw); go_simp; try (with_reducible rfl))
  try simp only [Act.put, List.setIfInBounds_toArray, List.set_cons_zero, List.set_cons_succ]
  refine wpAnyH_take (i := 8) (oi := { dst := some 12, op := _, type := _, pos := _, after := _, guard := _ }) (v := ?_) rfl (by kernel_rfl) (by kernel_rfl) (by kernel_rfl) (fun _ _ _ h => h) (Or.inl ⟨by rfl, ?_⟩) (by assumption) ?_
  rotate_left
  · (intro W hSw; (try dsimp only at hSw); go_simp; try (with_reducible rfl))
  try simp only [Act.put, List.setIfInBounds_toArray, List.set_cons_zero, List.set_cons_succ]
  refine wpAnyH_take (i := 9) (oi := { dst := some 13, op := _, type := _, pos := _, after := _, guard := _ }) (v := ?_) rfl (by kernel_rfl) (by kernel_rfl) (by kernel_rfl) (fun _ _ _ h => h) (Or.inl ⟨by rfl, ?_⟩) (by assumption) ?_
  rotate_left
  · (intro W hSw; (try dsimp only at hSw); go_simp; try (with_reducible rfl))
  try simp only [Act.put, List.setIfInBounds_toArray, List.set_cons_zero, List.set_cons_succ]
  refine wpAnyH_take (i := 12) (oi := { dst := some 16, op := _, type := _, pos := _, after := _, guard := _ }) (v := ?_) rfl (by kernel_rfl) (by kernel_rfl) (by kernel_rfl) (fun _ _ _ h => h) (Or.inl ⟨by rfl, ?_⟩) (by assumption) ?_
  rotate_left
  · (intro W hSw; (try dsimp only at hSw); go_simp; try (with_reducible rfl))
  try simp only [Act.put, List.setIfInBounds_toArray, List.set_cons_zero, List.set_cons_succ]
  refine wpAnyH_take (i := 13) (oi := { dst := some 17, op := _, type := _, pos := _, after := _, guard := _ }) (v := ?_) rfl (by kernel_rfl) (by kernel_rfl) (by kernel_rfl) (fun _ _ _ h => h) (Or.inl ⟨by rfl, ?_⟩) (by assumption) ?_
  rotate_left
  · (intro W hSw; (try dsimp only at hSw); go_simp; try (with_reducible rfl))
  try simp only [Act.put, List.setIfInBounds_toArray, List.set_cons_zero, List.set_cons_succ]
  refine wpAnyH_take (i := 16) (oi := { dst := some 20, op := _, type := _, pos := _, after := _, guard := _ }) (v := ?_) rfl (by kernel_rfl) (by kernel_rfl) (by kernel_rfl) (fun _ _ _ h => h) (Or.inl ⟨by rfl, ?_⟩) (by assumption) ?_
  rotate_left
  · (intro W hSw; (try dsimp only at hSw); go_simp; try (with_reducible rfl))
  try simp only [Act.put, List.setIfInBounds_toArray, List.set_cons_zero, List.set_cons_succ]
  refine wpAnyH_take (i := 17) (oi := { dst := some 21, op := _, type := _, pos := _, after := _, guard := _ }) (v := ?_) rfl (by kernel_rfl) (by kernel_rfl) (by kernel_rfl) (fun _ _ _ h => h) (Or.inl ⟨by rfl, ?_⟩) (by assumption) ?_
  rotate_left
  · (intro W hSw; (try dsimp only at hSw); go_simp; try (with_reducible rfl))
  try simp only [Act.put, List.setIfInBounds_toArray, List.set_cons_zero, List.set_cons_succ]
  refine wpAnyH_take (i := 18) (oi := { dst := some 22, op := _, type := _, pos := _, after := _, guard := _ }) (v := ?_) rfl (by kernel_rfl) (by kernel_rfl) (by kernel_rfl) (fun _ _ _ h => h) (Or.inl ⟨by rfl, ?_⟩) (by assumption) ?_
  rotate_left
  · (intro W hSw; (try dsimp only at hSw); go_simp; try (with_reducible rfl))
  try simp only [Act.put, List.setIfInBounds_toArray, List.set_cons_zero, List.set_cons_succ]
  refine wpAnyH_lin2 [0, 2, 3, 6, 7, 10, 11, 14, 15, 19, 20, 21, 22, 23, 24, 25, 26, 27, 28, 29, 30, 31] dstF consF depsF readsF isWF [0] (FF B c d) (fun w w' => w' = w) (fun _ _ => True) (by decide) (by kernel_rfl) ?s0 ?s1 ?step ?fin ?hpre (by decide) hHeld (by decide) rfl
  case s0 =>
    rintro i hi v w w' h rfl
    exact h
  case s1 =>
    intro i hi hw v w w' h hg
    simp only [List.mem_cons, List.not_mem_nil, or_false] at hi
    rcases hi with rfl | rfl | rfl | rfl | rfl | rfl | rfl | rfl | rfl | rfl | rfl | rfl | rfl | rfl | rfl | rfl | rfl | rfl | rfl | rfl | rfl | rfl
    all_goals first | (cases hw; done) | exact h
  case hpre =>
    intro i hi
    obtain rfl := List.mem_singleton.1 hi
    exact ⟨rfl, HB1.out⟩
  case step =>
    intro i hi hip x w hS hF hRd
    simp only [List.mem_cons, List.not_mem_nil, or_false] at hi
    rcases hi with rfl | rfl | rfl | rfl | rfl | rfl | rfl | rfl | rfl | rfl | rfl | rfl | rfl | rfl | rfl | rfl | rfl | rfl | rfl | rfl | rfl | rfl
    · exact absurd (by decide) hip
    · have hbx : Bx w B (Cv c d) 28 := (hRd 0 (by decide)).2
      have hc := hbx.cell
      refine op_value rfl rfl (v := .string (S c.group)) (w' := w) ?_ ⟨_, rfl, hS, rfl, rfl⟩
      simp only [puts2, dstF, Act.put, List.setIfInBounds_toArray, reduceIte, Nat.reduceEqDiff, List.set_cons_zero, List.set_cons_succ]
      go_simp
    · have hx : x 2 = .string (S c.group) := hF 2 (by decide)
      have hx0 : x 0 = .func (Fn.func 22) #[] #[] := (hRd 0 (by decide)).1
      refine op_call rfl rfl (f := 22) (args := #[.string (S c.group)]) ?_ ?_
      · simp only [puts2, dstF, Act.put, List.setIfInBounds_toArray, reduceIte, Nat.reduceEqDiff, List.set_cons_zero, List.set_cons_succ]
        go_simp
      · refine (cut_any w c.group (by omega)).mono ?_
        rintro e w' ⟨rfl, rfl⟩
        exact ⟨_, rfl, _, rfl, hS, rfl, rfl⟩
    · have hbx : Bx w B (Cv c d) 28 := (hRd 0 (by decide)).2
      have hc := hbx.cell
      refine op_value rfl rfl (v := .string (S c.body)) (w' := w) ?_ ⟨_, rfl, hS, rfl, rfl⟩
      simp only [puts2, dstF, Act.put, List.setIfInBounds_toArray, reduceIte, Nat.reduceEqDiff, List.set_cons_zero, List.set_cons_succ]
      go_simp
    · have hx : x 6 = .string (S c.body) := hF 6 (by decide)
      refine op_call rfl rfl (f := 22) (args := #[.string (S c.body)]) ?_ ?_
      · simp only [puts2, dstF, Act.put, List.setIfInBounds_toArray, reduceIte, Nat.reduceEqDiff, List.set_cons_zero, List.set_cons_succ]
        go_simp
      · refine (cut_any w c.body (by omega)).mono ?_
        rintro e w' ⟨rfl, rfl⟩
        exact ⟨_, rfl, _, rfl, hS, rfl, rfl⟩
    · have hbx : Bx w B (Cv c d) 28 := (hRd 0 (by decide)).2
      have hc := hbx.cell
      refine op_value rfl rfl (v := .string (S c.token)) (w' := w) ?_ ⟨_, rfl, hS, rfl, rfl⟩
      simp only [puts2, dstF, Act.put, List.setIfInBounds_toArray, reduceIte, Nat.reduceEqDiff, List.set_cons_zero, List.set_cons_succ]
      go_simp
    · have hx : x 10 = .string (S c.token) := hF 10 (by decide)
      refine op_call rfl rfl (f := 22) (args := #[.string (S c.token)]) ?_ ?_
      · simp only [puts2, dstF, Act.put, List.setIfInBounds_toArray, reduceIte, Nat.reduceEqDiff, List.set_cons_zero, List.set_cons_succ]
        go_simp
      · refine (cut_any w c.token (by omega)).mono ?_
        rintro e w' ⟨rfl, rfl⟩
        exact ⟨_, rfl, _, rfl, hS, rfl, rfl⟩
    · have hbx : Bx w B (Cv c d) 28 := (hRd 0 (by decide)).2
      have hc := hbx.cell
      refine op_value rfl rfl (v := .string (S c.attempt)) (w' := w) ?_ ⟨_, rfl, hS, rfl, rfl⟩
      simp only [puts2, dstF, Act.put, List.setIfInBounds_toArray, reduceIte, Nat.reduceEqDiff, List.set_cons_zero, List.set_cons_succ]
      go_simp
    · have hx : x 14 = .string (S c.attempt) := hF 14 (by decide)
      refine op_call rfl rfl (f := 22) (args := #[.string (S c.attempt)]) ?_ ?_
      · simp only [puts2, dstF, Act.put, List.setIfInBounds_toArray, reduceIte, Nat.reduceEqDiff, List.set_cons_zero, List.set_cons_succ]
        go_simp
      · refine (cut_any w c.attempt (by omega)).mono ?_
        rintro e w' ⟨rfl, rfl⟩
        exact ⟨_, rfl, _, rfl, hS, rfl, rfl⟩
    · have hbx : Bx w B (Cv c d) 28 := (hRd 0 (by decide)).2
      have hc := hbx.cell
      refine op_value rfl rfl (v := .string (S c.rc.g)) (w' := w) ?_ ⟨_, rfl, hS, rfl, rfl⟩
      simp only [puts2, dstF, Act.put, List.setIfInBounds_toArray, reduceIte, Nat.reduceEqDiff, List.set_cons_zero, List.set_cons_succ]
      go_simp
    · have hx : x 19 = .string (S c.rc.g) := hF 19 (by decide)
      refine op_call rfl rfl (f := 22) (args := #[.string (S c.rc.g)]) ?_ ?_
      · simp only [puts2, dstF, Act.put, List.setIfInBounds_toArray, reduceIte, Nat.reduceEqDiff, List.set_cons_zero, List.set_cons_succ]
        go_simp
      · refine (cut_any w c.rc.g (by omega)).mono ?_
        rintro e w' ⟨rfl, rfl⟩
        exact ⟨_, rfl, _, rfl, hS, rfl, rfl⟩
    · refine op_value rfl rfl (v := .pointer (some ⟨B, 5, none⟩)) (w' := w) ?_ ⟨_, rfl, hS, rfl, rfl⟩
      simp only [puts2, dstF, Act.put, List.setIfInBounds_toArray, reduceIte, Nat.reduceEqDiff, List.set_cons_zero, List.set_cons_succ]
      go_simp
    · have hx : x 3 = .string (S (c.group.take 200)) := hF 3 (by decide)
      have hbx : Bx w B (Cv c d) 28 := (hF 0 (by decide)).2
      have hp : x 21 = .pointer (some ⟨B, 5, none⟩) := hF 21 (by decide)
      have hc : w.cell? ⟨B, 5, none⟩ = some (.string (S c.group)) := (hbx.cell 5).trans rfl
      have hz := hbx.frozen 5
      refine op_skip rfl rfl (w' := w.setCell ⟨B, 5, none⟩ (.string (S (c.group.take 200)))) ?_ ⟨undef, rfl, ⟨hS.1.setCell HBB.out _, Bx.other hS.2 (by simp) _⟩, hbx.set 5 _, trivial⟩
      simp only [puts2, dstF, Act.put, List.setIfInBounds_toArray, reduceIte, Nat.reduceEqDiff, List.set_cons_zero, List.set_cons_succ]
      go_simp
    · refine op_value rfl rfl (v := .pointer (some ⟨B, 6, none⟩)) (w' := w) ?_ ⟨_, rfl, hS, rfl, rfl⟩
      simp only [puts2, dstF, Act.put, List.setIfInBounds_toArray, reduceIte, Nat.reduceEqDiff, List.set_cons_zero, List.set_cons_succ]
      go_simp
    · have hx : x 7 = .string (S (c.body.take 200)) := hF 7 (by decide)
      have hbx : Bx w B (Cv { c with group := c.group.take 200 } d) 28 := hF 22 (by decide)
      have hp : x 23 = .pointer (some ⟨B, 6, none⟩) := hF 23 (by decide)
      have hc : w.cell? ⟨B, 6, none⟩ = some (.string (S c.body)) := (hbx.cell 6).trans rfl
      have hz := hbx.frozen 6
      refine op_skip rfl rfl (w' := w.setCell ⟨B, 6, none⟩ (.string (S (c.body.take 200)))) ?_ ⟨undef, rfl, ⟨hS.1.setCell HBB.out _, Bx.other hS.2 (by simp) _⟩, hbx.set 6 _, trivial⟩
      simp only [puts2, dstF, Act.put, List.setIfInBounds_toArray, reduceIte, Nat.reduceEqDiff, List.set_cons_zero, List.set_cons_succ]
      go_simp
    · refine op_value rfl rfl (v := .pointer (some ⟨B, 7, none⟩)) (w' := w) ?_ ⟨_, rfl, hS, rfl, rfl⟩
      simp only [puts2, dstF, Act.put, List.setIfInBounds_toArray, reduceIte, Nat.reduceEqDiff, List.set_cons_zero, List.set_cons_succ]
      go_simp
    · have hx : x 11 = .string (S (c.token.take 200)) := hF 11 (by decide)
      have hbx : Bx w B (Cv { c with group := c.group.take 200, body := c.body.take 200 } d) 28 := hF 24 (by decide)
      have hp : x 25 = .pointer (some ⟨B, 7, none⟩) := hF 25 (by decide)
      have hc : w.cell? ⟨B, 7, none⟩ = some (.string (S c.token)) := (hbx.cell 7).trans rfl
      have hz := hbx.frozen 7
      refine op_skip rfl rfl (w' := w.setCell ⟨B, 7, none⟩ (.string (S (c.token.take 200)))) ?_ ⟨undef, rfl, ⟨hS.1.setCell HBB.out _, Bx.other hS.2 (by simp) _⟩, hbx.set 7 _, trivial⟩
      simp only [puts2, dstF, Act.put, List.setIfInBounds_toArray, reduceIte, Nat.reduceEqDiff, List.set_cons_zero, List.set_cons_succ]
      go_simp
    · refine op_value rfl rfl (v := .pointer (some ⟨B, 8, none⟩)) (w' := w) ?_ ⟨_, rfl, hS, rfl, rfl⟩
      simp only [puts2, dstF, Act.put, List.setIfInBounds_toArray, reduceIte, Nat.reduceEqDiff, List.set_cons_zero, List.set_cons_succ]
      go_simp
    · have hx : x 15 = .string (S (c.attempt.take 200)) := hF 15 (by decide)
      have hbx : Bx w B (Cv { c with group := c.group.take 200, body := c.body.take 200, token := c.token.take 200 } d) 28 := hF 26 (by decide)
      have hp : x 27 = .pointer (some ⟨B, 8, none⟩) := hF 27 (by decide)
      have hc : w.cell? ⟨B, 8, none⟩ = some (.string (S c.attempt)) := (hbx.cell 8).trans rfl
      have hz := hbx.frozen 8
      refine op_skip rfl rfl (w' := w.setCell ⟨B, 8, none⟩ (.string (S (c.attempt.take 200)))) ?_ ⟨undef, rfl, ⟨hS.1.setCell HBB.out _, Bx.other hS.2 (by simp) _⟩, hbx.set 8 _, trivial⟩
      simp only [puts2, dstF, Act.put, List.setIfInBounds_toArray, reduceIte, Nat.reduceEqDiff, List.set_cons_zero, List.set_cons_succ]
      go_simp
    · refine op_value rfl rfl (v := .pointer (some ⟨B, 11, none⟩)) (w' := w) ?_ ⟨_, rfl, hS, rfl, rfl⟩
      simp only [puts2, dstF, Act.put, List.setIfInBounds_toArray, reduceIte, Nat.reduceEqDiff, List.set_cons_zero, List.set_cons_succ]
      go_simp
    · refine op_value rfl rfl (v := .pointer (some ⟨B, 12, none⟩)) (w' := w) ?_ ⟨_, rfl, hS, rfl, rfl⟩
      have hx : x 29 = .pointer (some ⟨B, 11, none⟩) := hF 29 (by decide)
      simp only [puts2, dstF, Act.put, List.setIfInBounds_toArray, reduceIte, Nat.reduceEqDiff, List.set_cons_zero, List.set_cons_succ]
      go_simp
    · have hx : x 20 = .string (S (c.rc.g.take 200)) := hF 20 (by decide)
      have hbx : Bx w B (Cv { c with group := c.group.take 200, body := c.body.take 200, token := c.token.take 200, attempt := c.attempt.take 200 } d) 28 := hF 28 (by decide)
      have hp : x 30 = .pointer (some ⟨B, 12, none⟩) := hF 30 (by decide)
      have hc : w.cell? ⟨B, 12, none⟩ = some (.string (S c.rc.g)) := (hbx.cell 12).trans rfl
      have hz := hbx.frozen 12
      refine op_skip rfl rfl (w' := w.setCell ⟨B, 12, none⟩ (.string (S (c.rc.g.take 200)))) ?_ ⟨undef, rfl, ⟨hS.1.setCell HBB.out _, Bx.other hS.2 (by simp) _⟩, hbx.set 12 _, trivial⟩
      simp only [puts2, dstF, Act.put, List.setIfInBounds_toArray, reduceIte, Nat.reduceEqDiff, List.set_cons_zero, List.set_cons_succ]
      go_simp
  case fin =>
    intro x w2 hS hF
    have hb : Bx w2 B (Cv { c with group := c.group.take 200, body := c.body.take 200, token := c.token.take 200, attempt := c.attempt.take 200, rc := { c.rc with g := c.rc.g.take 200 } } d) 28 := hF 31 (by decide) (by decide)
    rw [HD.out] at hb
    have HB2 := mkH hb
    have HS2 := mkH hS
    have hq2 := hb.cell
    have hz2 := hb.frozen
    have hk18 : (Cv { c with group := c.group.take 200, body := c.body.take 200, token := c.token.take 200, attempt := c.attempt.take 200, rc := { c.rc with g := c.rc.g.take 200 } } (.slice ao c.data.length cap))[18]? = some (.slice ao c.data.length cap) := rfl
    have HDA := mkH (data_any w2 ao cap c.data (HRR.out _ hS.1) f6)
    clear hb hF hS hHeld HB1 HRR k0 k1 k2 k3 k4 k5 k6 k7 k8 k9 k10 k11 k12 k13 k14 k15 k16 k17 k18
    simp only [puts2, dstF, Act.put, List.setIfInBounds_toArray, reduceIte, Nat.reduceEqDiff, List.set_cons_zero, List.set_cons_succ]
    go_wp2_with fail
    refine HDA.out.mono ?_
    rintro e w3 ⟨ao3, cap3, rfl, hr3, hl3, hb3⟩
    have hB3 := HB2.out.below hb3 HB2.out.lt
    have hB4 := HS2.out.2.below hb3 HS2.out.2.lt
    have hBel := HS2.out.1.trans (below_down hb3 (by have := HB2.out.lt; omega))
    have hsz : B + 1 < w2.heap.size := HS2.out.2.lt
    have H3 := mkH hB3
    have H4 := mkH hB4
    have HBel := mkH hBel
    have HR3 := mkH hr3
    have HL3 := mkH hl3
    have hq3 := hB3.cell
    have hz3 := hB3.frozen
    have hB5 : Bx (w3.setCell ⟨B, 18, none⟩ (.slice ao3 (dataC c.data).length cap3)) B (Cv (fewC c) (.slice ao3 (fewC c).data.length cap3)) 28 := hB3.set 18 _
    have hB6 : Bx (w3.setCell ⟨B, 18, none⟩ (.slice ao3 (dataC c.data).length cap3)) (B + 1) Z 28 := hB4.other (by simp) _
    have HL := mkH (load_cm hB5)
    have HR5 := mkH (Wk.RowT.setRow (Wk.RowT.setCell hr3 (p := ⟨B, 18, none⟩) (fun a ha => by have := hl3 a ha; simp; omega) (.slice ao3 (dataC c.data).length cap3)) (g := B + 1) (fun a ha => by have := hl3 a ha; omega) (Cv (fewC c) (.slice ao3 (fewC c).data.length cap3)))
    have HB5 := mkH (below_setRow (hBel.setCell (p := ⟨B, 18, none⟩) (Nat.le_refl B) (.slice ao3 (dataC c.data).length cap3)) (g := B + 1) (by omega) (Cv (fewC c) (.slice ao3 (fewC c).data.length cap3)))
    have HL3' : Hid (∀ a, ao3 = some a → B ≤ a.block) := mkH (fun a ha => by have := hl3 a ha; omega)
    have H6 := mkH hB6
    have HE := mkH (load_cm (Bx.row hB6 (cs := Cv (fewC c) (.slice ao3 (fewC c).data.length cap3)) HZ.out))
    clear hb3 hr3 hl3 hB3 hB4 hBel HDA HB2 HS2 hq2 hz2 hB5 hB6
    have hk18' : ∀ v, (Cv { c with group := c.group.take 200, body := c.body.take 200, token := c.token.take 200, attempt := c.attempt.take 200, rc := { c.rc with g := c.rc.g.take 200 } } (.slice ao c.data.length cap))[18]? = some v → True := fun _ _ => trivial
    generalize Cv { c with group := c.group.take 200, body := c.body.take 200, token := c.token.take 200, attempt := c.attempt.take 200, rc := { c.rc with g := c.rc.g.take 200 } } (.slice ao c.data.length cap) = CC at *
    have hone := Cv_one (fewC c) ao3 (fewC c).data.length cap3
    have hsize : Z.size = (Cv (fewC c) (.slice ao3 (fewC c).data.length cap3)).size := HZ.out
    have hinfo : (Try.prog.info? 28).map (·.size) = some (Cv (fewC c) (.slice ao3 (fewC c).data.length cap3)).size := infoC
    have HONE := mkH hone
    have HSIZE := mkH hsize
    have HINFO := mkH hinfo
    clear hone hsize hinfo
    go_wp2_with (first | (refine wpList_ld (ty := 28) (x := .tmp 1) rfl rfl rfl HL.out ?_) | (refine wpList_st rfl (ty := 28) (x := .tmp 2) (y := .tmp 35) rfl rfl rfl H6.out HINFO.out HSIZE.out HONE.out ?_))
    refine ret_bx 2 28 rfl (B + 1) rfl HE.out rfl ?_
    exact ⟨ao3, cap3, rfl, HR5.out, HBq.out ▸ HL3'.out, HBq.out ▸ HB5.out⟩
end Go.Proofs.Ytjboldahmndkeaa.Wfw
