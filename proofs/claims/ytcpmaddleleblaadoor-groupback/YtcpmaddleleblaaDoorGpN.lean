/-
  Few: a group in memory of its own that may be.
-/
import Derived.Test.YtcpmaddleleblaaDoorGpM
import Derived.Test.YtcpmaddleleblaaDoorGpB
import Derived.Deep.CutBlock
import Derived.Deep.DeepCutAuto
namespace Go.Proofs.YtcpmaddleleblaaDoor.Gn
open Go.RowKit Kt Ks Gf Gp Gr Gk Ga Gm Gb
set_option linter.unusedVariables false
set_option linter.unusedSimpArgs false
set_option maxRecDepth 20000

def fewK (m : K) : K := ⟨nm m.seq, nm m.sent, nm m.cnt, nm m.till, nm m.frm, cutS m.body 200⟩
def fewM (m : M) : M := ⟨cutS m.tok 40, nm m.seq, nm m.ti⟩
def fewG (g : G) : G := ⟨nm g.next, (g.kept.take 20).map fewK, (g.marks.take 50).map fewM, cutS g.att 40⟩
theorem ok_few (g : G) : OkG (fewG g) := by
  refine ⟨nm_sm _, fun m hm => ?_, fun m hm => ?_⟩
  · obtain ⟨x, -, rfl⟩ := List.mem_map.1 hm
    exact ⟨nm_sm _, nm_sm _, nm_sm _, nm_sm _, nm_sm _⟩
  · obtain ⟨x, -, rfl⟩ := List.mem_map.1 hm
    exact ⟨nm_sm _, nm_sm _⟩
theorem few_len (g : G) : (fewG g).kept.length ≤ 20 ∧ (fewG g).marks.length ≤ 50 := by
  constructor <;> simp [fewG] <;> omega
theorem cutS_cutS (s : ByteArray) (k : Nat) : cutS (cutS s k) k = cutS s k := cutS_same _ _ (cutS_size s k)
theorem fewK_fewK (m : K) : fewK (fewK m) = fewK m := by simp [fewK, nm_nm, cutS_cutS]
theorem fewM_fewM (m : M) : fewM (fewM m) = fewM m := by simp [fewM, nm_nm, cutS_cutS]
theorem few_few (g : G) : fewG (fewG g) = fewG g := by
  have hk : (((g.kept.take 20).map fewK).take 20).map fewK = (g.kept.take 20).map fewK := by
    rw [List.take_of_length_le (by simp; omega), List.map_map]
    exact List.map_congr_left (fun x _ => fewK_fewK x)
  have hm : (((g.marks.take 50).map fewM).take 50).map fewM = (g.marks.take 50).map fewM := by
    rw [List.take_of_length_le (by simp; omega), List.map_map]
    exact List.map_congr_left (fun x _ => fewM_fewM x)
  show G.mk (nm (nm g.next)) ((((g.kept.take 20).map fewK).take 20).map fewK) ((((g.marks.take 50).map fewM).take 50).map fewM) (cutS (cutS g.att 40) 40) = G.mk (nm g.next) ((g.kept.take 20).map fewK) ((g.marks.take 50).map fewM) (cutS g.att 40)
  rw [hk, hm, nm_nm, cutS_cutS]
theorem map_snoc {α β : Type} (f : α → β) (l : List α) (j : Nat) (x : α) (hx : l[j]? = some x) : (l.take (j + 1)).map f = (l.take j).map f ++ [f x] := by
  rw [take_snoc hx, List.map_append]; rfl
/-- What Few has so far: its own block, the results', and what came in. -/
structure Fw (w W : World) (B0 R O base : Nat) (nx2 : Int) (at2 : ByteArray) (g0 : Array Value) (kl : List K) (ml : List M) (ka : Option Addr) (kc : Nat) (ma : Option Addr) (mc : Nat) : Prop where
  o : Bx W O #[.int .i64 nx2, .slice ka kl.length kc, .slice ma ml.length mc, .string at2] 25
  r : Bx W R #[.int .i64 0, .slice none 0 0, .slice none 0 0, .string ⟨#[]⟩] 25
  b : Bx W B0 g0 25
  k : W.ownsRow base 61 6 (.slice ka kl.length kc) kl.length (Fk kl)
  m : W.ownsRow base 70 3 (.slice ma ml.length mc) ml.length (Fm ml)
  bl : Below w.heap.size w W
theorem Fw.below {w W W' : World} {B0 R O base : Nat} {nx2 : Int} {at2 : ByteArray} {g0 : Array Value} {kl : List K} {ml : List M} {ka : Option Addr} {kc : Nat} {ma : Option Addr} {mc : Nat} (h : Fw w W B0 R O base nx2 at2 g0 kl ml ka kc ma mc) (hb : Below W.heap.size W W') : Fw w W' B0 R O base nx2 at2 g0 kl ml ka kc ma mc :=
  ⟨h.o.bel hb, h.r.bel hb, h.b.bel hb, own_below h.k hb, own_below h.m hb, h.bl.trans (hb.mono h.bl.size)⟩
theorem below_drew (W : World) : Below W.heap.size W W.drew := ⟨rfl, rfl, rfl, Nat.le_refl _, fun _ _ => rfl⟩
/-- A message more. -/
theorem Fw.addK {w W W2 : World} {B0 R O base : Nat} {nx2 : Int} {at2 : ByteArray} {g0 : Array Value} {kl : List K} {ml : List M} {ka : Option Addr} {kc : Nat} {ma : Option Addr} {mc : Nat} (h : Fw w W B0 R O base nx2 at2 g0 kl ml ka kc ma mc) (hO : O ≠ R) (hO2 : O ≠ B0) (hbase : w.heap.size ≤ base) (hwO : w.heap.size ≤ O)
    (hg : W.grownBy W2 (Value.slice ka kl.length kc).ownBlock) {x : K} {ka2 : Option Addr} {kc2 : Nat} (ho : W2.ownsRow base 61 6 (.slice ka2 (kl ++ [x]).length kc2) (kl ++ [x]).length (Fk (kl ++ [x]))) :
    Fw w (W2.setCell ⟨O, 1, none⟩ (.slice ka2 (kl ++ [x]).length kc2)) B0 R O base nx2 at2 g0 (kl ++ [x]) ml ka2 kc2 ma mc ∧ W2.cell? ⟨O, 1, none⟩ = some (.slice ka kl.length kc) ∧ W2.frozen? ⟨O, 1, none⟩ = false := by
  have hf := fr_grown hg
  have hne : ∀ O' cs, Bx W O' cs 25 → ¬ (Value.slice ka kl.length kc).ownBlock = some O' := fun O' cs hB hk => own_ne h.k hB hk (by decide) rfl
  have o2 := h.o.fr hf (hne _ _ h.o)
  have r2 := h.r.fr hf (hne _ _ h.r)
  have b2 : Bx W2 B0 g0 25 := h.b.fr hf (hne _ _ h.b)
  have m2 := own_fr h.m hf (fun k hk hk2 => own_kinds h.k h.m (by decide) k hk2 hk)
  have hF := o2.frset 1 (.slice ka2 (kl ++ [x]).length kc2)
  refine ⟨⟨o2.s1 _, r2.fr hF (fun e => hO e.symm), b2.fr hF (fun e => hO2 e.symm), own_fr ho hF (fun k hk hk2 => own_ne ho o2 hk (by decide) hk2), own_fr m2 hF (fun k hk hk2 => own_ne m2 o2 hk (by decide) hk2), ?_⟩, o2.four.2.1, o2.frozen 1⟩
  exact below_fr (below_fr h.bl hf (fun k hk => by have := (h.k.lt k hk).1; omega) (Nat.le_refl _)) hF (fun k hk => by omega) (Nat.le_refl _)
/-- A token more. -/
theorem Fw.addM {w W W2 : World} {B0 R O base : Nat} {nx2 : Int} {at2 : ByteArray} {g0 : Array Value} {kl : List K} {ml : List M} {ka : Option Addr} {kc : Nat} {ma : Option Addr} {mc : Nat} (h : Fw w W B0 R O base nx2 at2 g0 kl ml ka kc ma mc) (hO : O ≠ R) (hO2 : O ≠ B0) (hbase : w.heap.size ≤ base) (hwO : w.heap.size ≤ O)
    (hg : W.grownBy W2 (Value.slice ma ml.length mc).ownBlock) {x : M} {ma2 : Option Addr} {mc2 : Nat} (ho : W2.ownsRow base 70 3 (.slice ma2 (ml ++ [x]).length mc2) (ml ++ [x]).length (Fm (ml ++ [x]))) :
    Fw w (W2.setCell ⟨O, 2, none⟩ (.slice ma2 (ml ++ [x]).length mc2)) B0 R O base nx2 at2 g0 kl (ml ++ [x]) ka kc ma2 mc2 ∧ W2.cell? ⟨O, 2, none⟩ = some (.slice ma ml.length mc) ∧ W2.frozen? ⟨O, 2, none⟩ = false := by
  have hf := fr_grown hg
  have hne : ∀ O' cs, Bx W O' cs 25 → ¬ (Value.slice ma ml.length mc).ownBlock = some O' := fun O' cs hB hk => own_ne h.m hB hk (by decide) rfl
  have o2 := h.o.fr hf (hne _ _ h.o)
  have r2 := h.r.fr hf (hne _ _ h.r)
  have b2 : Bx W2 B0 g0 25 := h.b.fr hf (hne _ _ h.b)
  have k2 := own_fr h.k hf (fun k hk hk2 => own_kinds h.k h.m (by decide) k hk hk2)
  have hF := o2.frset 2 (.slice ma2 (ml ++ [x]).length mc2)
  refine ⟨⟨o2.s2 _, r2.fr hF (fun e => hO e.symm), b2.fr hF (fun e => hO2 e.symm), own_fr k2 hF (fun k hk hk2 => own_ne k2 o2 hk (by decide) hk2), own_fr ho hF (fun k hk hk2 => own_ne ho o2 hk (by decide) hk2), ?_⟩, o2.four.2.2.1, o2.frozen 2⟩
  exact below_fr (below_fr h.bl hf (fun k hk => by have := (h.m.lt k hk).1; omega) (Nat.le_refl _)) hF (fun k hk => by omega) (Nat.le_refl _)

set_option maxHeartbeats 8000000 in
theorem Few_any (w : World) (g : G) (ka : Option Addr) (kc : Nat) (ma : Option Addr) (mc : Nat) (h : Gl w g ka kc ma mc) :
    Calls Tryd.prog 8 #[.agg (gC g ka kc ma mc)] w fun e w' => ∃ ka' kc' ma' mc', e = .returned (.agg (gC (fewG g) ka' kc' ma' mc')) ∧ Go' w.heap.size w' (fewG g) ka' kc' ma' mc' ∧ Below w.heap.size w w' := by
  have HL := mkH h
  clear h
  obtain ⟨nx, kp, mk, at'⟩ := g
  simp only [gC]
  have hmx : Tryd.prog.follows .mixedOrders = true := by kernel_rfl
  have hm3 : (if (40 : Int) < (at'.size : Int) then (40 : Int) else (at'.size : Int)) = ((min at'.size 40 : Nat) : Int) := min_str at' 40
  obtain ⟨m3, h3⟩ : ∃ m, min at'.size 40 = m := ⟨_, rfl⟩
  have HC3 : Hid (cutS at' 40 = at'.extract 0 m3) := by unfold Hid cutS; rw [h3]
  rw [h3] at hm3
  have l3 : (m3 : Int) ≤ (at'.size : Int) := by omega
  clear h3
  have HA := mkH (((Below.refl w.heap.size w).alloc (Nat.le_refl _) (.cells #[Value.int .i64 nx, .slice ka kp.length kc, .slice ma mk.length mc, .string at'] 25)).alloc (by simp) (.cells #[Value.int .i64 0, .slice none 0 0, .slice none 0 0, .string ⟨#[]⟩] 25))
  have HB := mkH ((Bx.new w #[Value.int .i64 nx, .slice ka kp.length kc, .slice ma mk.length mc, .string at'] 25).alloc (.cells #[Value.int .i64 0, .slice none 0 0, .slice none 0 0, .string ⟨#[]⟩] 25))
  have HZ := mkH (Bx.new1 w (.cells #[Value.int .i64 nx, .slice ka kp.length kc, .slice ma mk.length mc, .string at'] 25) #[Value.int .i64 0, .slice none 0 0, .slice none 0 0, .string ⟨#[]⟩] 25)
  have HSZ : Hid (((w.alloc (.cells #[Value.int .i64 nx, .slice ka kp.length kc, .slice ma mk.length mc, .string at'] 25)).alloc (.cells #[Value.int .i64 0, .slice none 0 0, .slice none 0 0, .string ⟨#[]⟩] 25)).heap.size = w.heap.size + 2) := by unfold Hid; simp
  go_enter Tryd.func8, Tryd.ntmps8
  go_upto_region 1 with fail
  generalize (w.alloc (.cells #[Value.int .i64 nx, .slice ka kp.length kc, .slice ma mk.length mc, .string at'] 25)).alloc (.cells #[Value.int .i64 0, .slice none 0 0, .slice none 0 0, .string ⟨#[]⟩] 25) = w0 at *
  obtain ⟨R, hR⟩ : ∃ R, w.heap.size + 1 = R := ⟨_, rfl⟩
  rw [hR] at HZ ⊢
  have h4 := HSZ.out
  have hlt0 : w.heap.size < w0.drew.heap.size := by show w.heap.size < w0.heap.size; omega
  have hne0 : ¬ w.heap.size = w0.heap.size := by omega
  have r1 : w.heap.size < R := by omega
  have r2 : R < w0.heap.size := by omega
  clear hR h4 HSZ
  have HKS : Hid (∀ W : World, W.heap[w.heap.size]? = w0.heap[w.heap.size]? → W.cell? ⟨w.heap.size, 0, none⟩ = some (.int .i64 nx) ∧ W.cell? ⟨w.heap.size, 3, none⟩ = some (.string at')) := fun W hW => by
    have hB' : Bx W w.heap.size #[Value.int .i64 nx, .slice ka kp.length kc, .slice ma mk.length mc, .string at'] 25 := by unfold Bx; rw [hW]; exact HB.out
    exact ⟨hB'.cell 0 _ rfl, hB'.cell 3 _ rfl⟩
  have hig : (Tryd.prog.info? 25).map (·.size) = some 4 := by kernel_rfl
  have HFW1 : Hid (Fw w ((w0.drew.alloc (.cells #[Value.int .i64 0, .slice none 0 0, .slice none 0 0, .string ⟨#[]⟩] 25)).setRow w0.heap.size #[Value.int .i64 (nm nx), .slice none 0 0, .slice none 0 0, .string (at'.extract 0 m3)]) w.heap.size R w0.heap.size w0.heap.size (nm nx) (at'.extract 0 m3) #[Value.int .i64 nx, .slice ka kp.length kc, .slice ma mk.length mc, .string at'] [] [] none 0 none 0) := by
    have hal : Below w0.heap.size w0 (w0.drew.alloc (.cells #[Value.int .i64 0, .slice none 0 0, .slice none 0 0, .string ⟨#[]⟩] 25)) := (below_drew w0).alloc (Nat.le_refl _) _
    have hF : Fr (fun x => x = w0.heap.size) (w0.drew.alloc (.cells #[Value.int .i64 0, .slice none 0 0, .slice none 0 0, .string ⟨#[]⟩] 25)) ((w0.drew.alloc (.cells #[Value.int .i64 0, .slice none 0 0, .slice none 0 0, .string ⟨#[]⟩] 25)).setRow w0.heap.size #[Value.int .i64 (nm nx), .slice none 0 0, .slice none 0 0, .string (at'.extract 0 m3)]) := Bx.frrow _
    exact ⟨(Bx.new w0.drew #[Value.int .i64 0, .slice none 0 0, .slice none 0 0, .string ⟨#[]⟩] 25).row, (HZ.out.bel hal).fr hF (by omega), (HB.out.bel hal).fr hF (by omega), by simpa [Fl] using World.ownsRow_nil _ _ _ _, by simpa [Fl] using World.ownsRow_nil _ _ _ _, below_fr (HA.out.trans (hal.mono (by omega))) hF (fun k hk => by omega) (Nat.le_refl _)⟩
  go_cut [3] (fun v3 WW => v3 = .pointer (some ⟨w0.heap.size, 0, none⟩) ∧ Fw w WW w.heap.size R w0.heap.size w0.heap.size (nm nx) (at'.extract 0 m3) #[Value.int .i64 nx, .slice ka kp.length kc, .slice ma mk.length mc, .string at'] [] [] none 0 none 0)
  case first =>
    refine wp_region_held_drew (S := fun W => W.cell? ⟨w.heap.size, 0, none⟩ = some (.int .i64 nx) ∧ W.cell? ⟨w.heap.size, 3, none⟩ = some (.string at')) hmx ?_ (fun hHeld => ?_)
    · exact HKS.out _ rfl
    refine wpAnyH_take (i := 0) (oi := { dst := some 8, op := _, type := _, pos := _, after := _, guard := _ }) (v := ?_) rfl (by kernel_rfl) (by kernel_rfl) (by kernel_rfl) (fun _ _ _ h => h) (Or.inl ⟨by rfl, ?_⟩) (by assumption) ?_
    rotate_left
    · (intro W hSw; (try dsimp only at hSw); go_simp; try (with_reducible rfl))
    try simp only [Act.put, List.setIfInBounds_toArray, List.set_cons_zero, List.set_cons_succ]
    refine wpAnyH_take (i := 1) (oi := { dst := some 9, op := _, type := _, pos := _, after := _, guard := _ }) (v := ?_) rfl (by kernel_rfl) (by kernel_rfl) (by kernel_rfl) (fun _ _ _ h => h) (Or.inl ⟨by rfl, ?_⟩) (by assumption) ?_
    rotate_left
    · (intro W hSw; (try dsimp only at hSw); go_simp; try (with_reducible rfl))
    try simp only [Act.put, List.setIfInBounds_toArray, List.set_cons_zero, List.set_cons_succ]
    refine wpAnyH_take (i := 3) (oi := { dst := some 11, op := _, type := _, pos := _, after := _, guard := _ }) (v := ?_) rfl (by kernel_rfl) (by kernel_rfl) (by kernel_rfl) (fun _ _ _ h => h) (Or.inl ⟨by rfl, ?_⟩) (by assumption) ?_
    rotate_left
    · (intro W hSw; (try dsimp only at hSw); go_simp; try (with_reducible rfl))
    try simp only [Act.put, List.setIfInBounds_toArray, List.set_cons_zero, List.set_cons_succ]
    refine wpAnyH_take (i := 4) (oi := { dst := some 12, op := _, type := _, pos := _, after := _, guard := _ }) (v := ?_) rfl (by kernel_rfl) (by kernel_rfl) (by kernel_rfl) (fun _ _ _ h => h) (Or.inl ⟨by rfl, ?_⟩) (by assumption) ?_
    rotate_left
    · (intro W hSw; (try dsimp only at hSw); go_simp; try (with_reducible rfl))
    try simp only [Act.put, List.setIfInBounds_toArray, List.set_cons_zero, List.set_cons_succ]
    refine wpAnyH_take (i := 5) (oi := { dst := some 13, op := _, type := _, pos := _, after := _, guard := _ }) (v := ?_) rfl (by kernel_rfl) (by kernel_rfl) (by kernel_rfl) (fun _ _ _ h => h) (Or.inl ⟨by rfl, ?_⟩) (by assumption) ?_
    rotate_left
    · (intro W hSw; (try dsimp only at hSw); go_simp; try (with_reducible rfl))
    try simp only [Act.put, List.setIfInBounds_toArray, List.set_cons_zero, List.set_cons_succ]
    refine wpAnyH_take (i := 6) (oi := { dst := some 14, op := _, type := _, pos := _, after := _, guard := _ }) (v := ?_) rfl (by kernel_rfl) (by kernel_rfl) (by kernel_rfl) (fun _ _ _ h => h) (Or.inl ⟨by rfl, ?_⟩) (by assumption) ?_
    rotate_left
    · (intro W hSw; (try dsimp only at hSw); go_simp; try (with_reducible rfl))
    try simp only [Act.put, List.setIfInBounds_toArray, List.set_cons_zero, List.set_cons_succ]
    refine wpAnyH_take (i := 7) (oi := { dst := some 15, op := _, type := _, pos := _, after := _, guard := _ }) (v := ?_) rfl (by kernel_rfl) (by kernel_rfl) (by kernel_rfl) (fun _ _ _ h => h) (Or.inl ⟨by rfl, ?_⟩) (by assumption) ?_
    rotate_left
    · (intro W hSw; (try dsimp only at hSw); go_simp; try (with_reducible rfl))
    try simp only [Act.put, List.setIfInBounds_toArray, List.set_cons_zero, List.set_cons_succ]
    refine wpAnyH_take (i := 8) (oi := { dst := some 16, op := _, type := _, pos := _, after := _, guard := _ }) (v := ?_) rfl (by kernel_rfl) (by kernel_rfl) (by kernel_rfl) (fun _ _ _ h => h) (Or.inl ⟨by rfl, ?_⟩) (by assumption) ?_
    rotate_left
    · (intro W hSw; (try dsimp only at hSw); go_simp; try (with_reducible rfl))
    try simp only [Act.put, List.setIfInBounds_toArray, List.set_cons_zero, List.set_cons_succ]
    refine wpAnyH_take (i := 9) (oi := { dst := some 17, op := _, type := _, pos := _, after := _, guard := _ }) (v := ?_) rfl (by kernel_rfl) (by kernel_rfl) (by kernel_rfl) (fun _ _ _ h => h) (Or.inl ⟨by rfl, ?_⟩) (by assumption) ?_
    rotate_left
    · (intro W hSw; (try dsimp only at hSw); go_simp; try (with_reducible rfl))
    try simp only [Act.put, List.setIfInBounds_toArray, List.set_cons_zero, List.set_cons_succ]
    refine wpAnyH_ready (rs := [2, 11]) (by kernel_rfl) (by simp) ?_
    refine (AllReadyH.cons (o := { dst := some 10, op := _, type := _, pos := _, after := _, guard := _ }) rfl (fun K hK => ?_) (AllReadyH.cons (o := { dst := some 3, op := _, type := _, pos := _, after := _, guard := _ }) rfl (fun K hK => ?_) AllReadyH.nil))
    · go_simp
      refine (num_any _ _).mono ?_
      rintro e1 x1 ⟨rfl, hx1⟩
      have hx1' := hx1.symm
      subst hx1'
      clear hx1
      go_wp2_with fail
      refine hK.out _ _ ?_ (fun hHeld => ?_)
      · exact HKS.out _ rfl
      clear hK K
      try simp only [Act.put, List.setIfInBounds_toArray, List.set_cons_zero, List.set_cons_succ]
      refine wpAnyH_take (i := 10) (oi := { dst := some 18, op := _, type := _, pos := _, after := _, guard := _ }) (v := ?_) rfl (by kernel_rfl) (by kernel_rfl) (by kernel_rfl) (fun _ _ _ h => h) (Or.inl ⟨by rfl, ?_⟩) (by assumption) ?_
      rotate_left
      · (intro W hSw; (try dsimp only at hSw); go_simp; try (with_reducible rfl))
      try simp only [Act.put, List.setIfInBounds_toArray, List.set_cons_zero, List.set_cons_succ]
      refine wpAnyH_ready (rs := [11]) (by kernel_rfl) (by simp) ?_
      refine AllReadyH.cons (o := { dst := some 3, op := _, type := _, pos := _, after := _, guard := _ }) rfl (fun K hK => ?_) AllReadyH.nil
      go_simp
      refine hK.out _ _ ?_ (fun hHeld => ?_)
      · exact HKS.out _ (Below.heap_alloc w0.drew _ _ hlt0)
      clear hK K
      try simp only [Act.put, List.setIfInBounds_toArray, List.set_cons_zero, List.set_cons_succ]
      refine wpAnyH_ready (rs := [12]) (by kernel_rfl) (by simp) ?_
      refine AllReadyH.cons (o := { dst := none, op := _, type := _, pos := _, after := _, guard := _ }) rfl (fun K hK => ?_) AllReadyH.nil
      refine step_st (by rfl) 25 (.tmp 3) (.tmp 18) (by rfl) w0.heap.size #[Value.int .i64 (nm nx), .slice none 0 0, .slice none 0 0, .string (at'.extract 0 m3)] #[Value.int .i64 0, .slice none 0 0, .slice none 0 0, .string ⟨#[]⟩] 25 (by rfl) (by rfl) (Bx.new w0.drew #[Value.int .i64 0, .slice none 0 0, .slice none 0 0, .string ⟨#[]⟩] 25) hig (by rfl) (by simp [Value.oneCell']) ?_
      refine hK.out _ _ ?_ (fun hHeld => ?_)
      · exact HKS.out _ ((setRow_other _ _ _ _ hne0).trans (Below.heap_alloc w0.drew _ _ hlt0))
      clear hK K
      try simp only [Act.put, List.setIfInBounds_toArray, List.set_cons_zero, List.set_cons_succ]
      refine wpAnyH_done (by kernel_rfl) ?_ _
      go_wp2_with fail
      go_meet
      case rel => exact ⟨rfl, HFW1.out⟩
    · go_simp
      refine hK.out _ _ ?_ (fun hHeld => ?_)
      · exact HKS.out _ (Below.heap_alloc w0.drew _ _ hlt0)
      clear hK K
      try simp only [Act.put, List.setIfInBounds_toArray, List.set_cons_zero, List.set_cons_succ]
      refine wpAnyH_ready (rs := [2]) (by kernel_rfl) (by simp) ?_
      refine AllReadyH.cons (o := { dst := some 10, op := _, type := _, pos := _, after := _, guard := _ }) rfl (fun K hK => ?_) AllReadyH.nil
      go_simp
      refine (num_any _ _).mono ?_
      rintro e1 x1 ⟨rfl, hx1⟩
      have hx1' := hx1.symm
      subst hx1'
      clear hx1
      go_wp2_with fail
      refine hK.out _ _ ?_ (fun hHeld => ?_)
      · exact HKS.out _ (Below.heap_alloc w0.drew _ _ hlt0)
      clear hK K
      try simp only [Act.put, List.setIfInBounds_toArray, List.set_cons_zero, List.set_cons_succ]
      refine wpAnyH_take (i := 10) (oi := { dst := some 18, op := _, type := _, pos := _, after := _, guard := _ }) (v := ?_) rfl (by kernel_rfl) (by kernel_rfl) (by kernel_rfl) (fun _ _ _ h => h) (Or.inl ⟨by rfl, ?_⟩) (by assumption) ?_
      rotate_left
      · (intro W hSw; (try dsimp only at hSw); go_simp; try (with_reducible rfl))
      try simp only [Act.put, List.setIfInBounds_toArray, List.set_cons_zero, List.set_cons_succ]
      refine wpAnyH_ready (rs := [12]) (by kernel_rfl) (by simp) ?_
      refine AllReadyH.cons (o := { dst := none, op := _, type := _, pos := _, after := _, guard := _ }) rfl (fun K hK => ?_) AllReadyH.nil
      refine step_st (by rfl) 25 (.tmp 3) (.tmp 18) (by rfl) w0.heap.size #[Value.int .i64 (nm nx), .slice none 0 0, .slice none 0 0, .string (at'.extract 0 m3)] #[Value.int .i64 0, .slice none 0 0, .slice none 0 0, .string ⟨#[]⟩] 25 (by rfl) (by rfl) (Bx.new w0.drew #[Value.int .i64 0, .slice none 0 0, .slice none 0 0, .string ⟨#[]⟩] 25) hig (by rfl) (by simp [Value.oneCell']) ?_
      refine hK.out _ _ ?_ (fun hHeld => ?_)
      · exact HKS.out _ ((setRow_other _ _ _ _ hne0).trans (Below.heap_alloc w0.drew _ _ hlt0))
      clear hK K
      try simp only [Act.put, List.setIfInBounds_toArray, List.set_cons_zero, List.set_cons_succ]
      refine wpAnyH_done (by kernel_rfl) ?_ _
      go_wp2_with fail
      go_meet
      case rel => exact ⟨rfl, HFW1.out⟩
  case rest =>
    obtain ⟨rfl, hcut2⟩ := hcut
    have HF := mkH hcut2
    obtain ⟨O, hO⟩ : ∃ O, w0.heap.size = O := ⟨_, rfl⟩
    rw [hO] at HF ⊢
    have o1 : w.heap.size ≤ O := by omega
    have o2 : O ≠ R := by omega
    have o3 : O ≠ w.heap.size := by omega
    obtain ⟨g0, hg0⟩ : ∃ g0, #[Value.int .i64 nx, .slice ka kp.length kc, .slice ma mk.length mc, .string at'] = g0 := ⟨_, rfl⟩
    rw [hg0] at HF
    have HG0 := mkH hg0
    clear hcut2 HFW1 HKS HA HB HZ hO hlt0 hne0 r2 hm3 l3 hg0

    go_upto_block 0 with fail
    go_cut [4] (fun _ WW => ∃ (ka2 : Option Addr) (kc2 : Nat), Fw w WW w.heap.size R O O (nm nx) (at'.extract 0 m3) g0 ((kp.take 20).map fewK) [] ka2 kc2 none 0)
    case first =>
      go_wp2_with fail
      go_loopw [4, 5] (fun i _ WW => ∃ (j : Nat) (kl : List K) (ka2 : Option Addr) (kc2 : Nat), j ≤ kp.length ∧ j ≤ 20 ∧ i = .int .i64 (j : Int) ∧ Hid ((kp.take j).map fewK = kl) ∧ kl.length = j ∧ Hid (Fw w WW w.heap.size R O O (nm nx) (at'.extract 0 m3) g0 kl [] ka2 kc2 none 0)) (fun i _ _ => 20 - (intOf i).toNat)
      case atStart => exact ⟨0, [], none, 0, Nat.zero_le _, by omega, rfl, mkH rfl, rfl, HF⟩
      case round =>
        obtain ⟨j, kl, ka2, kc2, hj, hj20, rfl, HKL, hkl, HW⟩ := hrel
        have hb0 := HW.out.b
        rw [← HG0.out] at hb0
        obtain ⟨m0, m1, m2, m3', -⟩ := hb0.four
        clear hb0
        by_cases hjl : j < kp.length
        · by_cases hj2 : j < 20
          · obtain ⟨x, hx⟩ := some_of hjl
            obtain ⟨b, off, rfl, z0, z1, z2, z3, z4, z5⟩ := atK (HL.out.k.below HW.out.bl) hx
            have HMS := mkH (map_snoc fewK kp j x hx)
            obtain ⟨x0, x1, x2, x3, x4, x5⟩ := x
            simp only at z0 z1 z2 z3 z4 z5
            have hm5 : (if (200 : Int) < (x5.size : Int) then (200 : Int) else (x5.size : Int)) = ((min x5.size 200 : Nat) : Int) := min_str x5 200
            obtain ⟨m5, h5⟩ : ∃ m, min x5.size 200 = m := ⟨_, rfl⟩
            have HC5 : Hid (cutS x5 200 = x5.extract 0 m5) := by unfold Hid cutS; rw [h5]
            rw [h5] at hm5
            have l5 : (m5 : Int) ≤ (x5.size : Int) := by omega
            have jz : (j : Int) < (kp.length : Int) := by omega
            have jt : (j : Int) < 20 := by omega
            clear h5 hx
            go_upto_region 6 with fail
            have hal : Below wr.heap.size wr (wr.alloc (.cells #[Value.int .i64 x0, .int .i64 x1, .int .i64 x2, .int .i64 x3, .int .i64 x4, .string x5] 61)) := (Below.refl _ wr).alloc (Nat.le_refl _) _
            have HWA := mkH (HW.out.below hal)
            have hkB : ∀ k, (Value.slice ka2 kl.length kc2).ownBlock = some k → k < wr.heap.size := fun k hk => (HW.out.k.lt k hk).2
            have HBX := mkH (Bx.new wr #[Value.int .i64 x0, .int .i64 x1, .int .i64 x2, .int .i64 x3, .int .i64 x4, .string x5] 61)
            have hWs : (wr.alloc (.cells #[Value.int .i64 x0, .int .i64 x1, .int .i64 x2, .int .i64 x3, .int .i64 x4, .string x5] 61)).heap.size = wr.heap.size + 1 := by simp
            obtain ⟨B5, hB5⟩ : ∃ B, wr.heap.size = B := ⟨_, rfl⟩
            rw [hB5] at HBX hWs hkB ⊢
            generalize wr.alloc (.cells #[Value.int .i64 x0, .int .i64 x1, .int .i64 x2, .int .i64 x3, .int .i64 x4, .string x5] 61) = W0 at *
            clear hWs hal HW hB5 m0 m1 m2 m3' z0 z1 z2 z3 z4 z5
            have o1' := HWA.out.o.four.2.1
            have HKS : Hid (∀ W : World, W.heap[B5]? = W0.heap[B5]? → W.cell? ⟨B5, 0, none⟩ = some (.int .i64 x0) ∧ W.cell? ⟨B5, 1, none⟩ = some (.int .i64 x1) ∧ W.cell? ⟨B5, 2, none⟩ = some (.int .i64 x2) ∧ W.cell? ⟨B5, 3, none⟩ = some (.int .i64 x3) ∧ W.cell? ⟨B5, 4, none⟩ = some (.int .i64 x4) ∧ W.cell? ⟨B5, 5, none⟩ = some (.string x5)) := fun W hW => by
              have hB' : Bx W B5 #[Value.int .i64 x0, .int .i64 x1, .int .i64 x2, .int .i64 x3, .int .i64 x4, .string x5] 61 := by unfold Bx; rw [hW]; exact HBX.out
              exact ⟨hB'.cell 0 _ rfl, hB'.cell 1 _ rfl, hB'.cell 2 _ rfl, hB'.cell 3 _ rfl, hB'.cell 4 _ rfl, hB'.cell 5 _ rfl⟩
            have hlB : B5 < W0.heap.size := HBX.out.lt
            have hal2 : Below W0.heap.size W0 ((W0.alloc (.cells #[Value.int .i64 (nm x0), .int .i64 (nm x1), .int .i64 (nm x2), .int .i64 (nm x3), .int .i64 (nm x4), .string (x5.extract 0 m5)] 61)).drew) := ((Below.refl _ W0).alloc (Nat.le_refl _) _).drew
            have HW2 := mkH (HWA.out.below hal2)
            have o2' := HW2.out.o.four.2.1
            have HS : Hid (Src Tryd.prog 6 22 (.slice (some ⟨W0.heap.size, 0, none⟩) 1 1) 1 (Fk [⟨nm x0, nm x1, nm x2, nm x3, nm x4, x5.extract 0 m5⟩]) ((W0.alloc (.cells #[Value.int .i64 (nm x0), .int .i64 (nm x1), .int .i64 (nm x2), .int .i64 (nm x3), .int .i64 (nm x4), .string (x5.extract 0 m5)] 61)).drew)) := newK W0.drew ⟨nm x0, nm x1, nm x2, nm x3, nm x4, x5.extract 0 m5⟩ 61
            have hsz2 : ((W0.alloc (.cells #[Value.int .i64 (nm x0), .int .i64 (nm x1), .int .i64 (nm x2), .int .i64 (nm x3), .int .i64 (nm x4), .string (x5.extract 0 m5)] 61)).drew).heap.size = W0.heap.size + 1 := by simp
            have hOw : O ≤ W0.heap.size := by have := HWA.out.o.lt; omega
            have hwB : B5 ≠ O := fun e => by have h1 := HWA.out.o; have h2 := HBX.out; rw [e] at h2; unfold Bx at h1 h2; rw [h1] at h2; simp at h2
            obtain ⟨kq, hkq⟩ : ∃ kq, kl ++ [(⟨nm x0, nm x1, nm x2, nm x3, nm x4, x5.extract 0 m5⟩ : K)] = kq := ⟨_, rfl⟩
            have HKQ := mkH hkq
            have hkql : kl.length + 1 = kq.length := by rw [← hkq]; simp
            rw [hkl] at o1' o2'
            have HEND : Hid (∀ v6 w6, w6.ownsRow O 61 6 v6 (j + 1) (Fk kl ++ Fk [⟨nm x0, nm x1, nm x2, nm x3, nm x4, x5.extract 0 m5⟩]) → ((W0.alloc (.cells #[Value.int .i64 (nm x0), .int .i64 (nm x1), .int .i64 (nm x2), .int .i64 (nm x3), .int .i64 (nm x4), .string (x5.extract 0 m5)] 61)).drew).grownBy w6 (Value.slice ka2 j kc2).ownBlock → ∃ a6 c6, v6 = .slice a6 (j + 1) c6 ∧ Fw w (w6.setCell ⟨O, 1, none⟩ (.slice a6 (j + 1) c6)) w.heap.size R O O (nm nx) (at'.extract 0 m3) g0 kq [] a6 c6 none 0 ∧ w6.cell? ⟨O, 1, none⟩ = some (.slice ka2 j kc2) ∧ w6.frozen? ⟨O, 1, none⟩ = false ∧ w6.heap[B5]? = W0.heap[B5]?) := fun v6 w6 ho6 hg6 => by
              obtain ⟨a6, c6, rfl⟩ := own_form ho6
              rw [show Fk kl ++ Fk [⟨nm x0, nm x1, nm x2, nm x3, nm x4, x5.extract 0 m5⟩] = Fk (kl ++ [⟨nm x0, nm x1, nm x2, nm x3, nm x4, x5.extract 0 m5⟩]) from (Fl_append _ _).symm, ← hkl, show kl.length + 1 = (kl ++ [(⟨nm x0, nm x1, nm x2, nm x3, nm x4, x5.extract 0 m5⟩ : K)]).length by simp] at ho6
              rw [← hkl] at hg6
              obtain ⟨q1, q2, q3⟩ := HW2.out.addK o2 o3 o1 o1 hg6 ho6
              rw [hkq, ← hkql, hkl] at q1
              rw [hkl] at q2
              refine ⟨a6, c6, rfl, q1, q2, q3, ?_⟩
              have hne : ¬ (Value.slice ka2 kl.length kc2).ownBlock = some B5 := fun hk => by have := hkB B5 hk; omega
              rw [(fr_grown hg6).heap (by have := HBX.out.lt; omega) hne]
              exact Below.heap_alloc W0 _ _ hlB
            have hRW : ((W0.alloc (.cells #[Value.int .i64 (nm x0), .int .i64 (nm x1), .int .i64 (nm x2), .int .i64 (nm x3), .int .i64 (nm x4), .string (x5.extract 0 m5)] 61)).drew).ownsRow O 61 6 (.slice ka2 j kc2) j (Fk kl) := by have := HW2.out.k; rw [hkl] at this; exact this
            have HRW := mkH hRW
            clear hRW hal2 hkq hkB
            refine wp_region_held_drew (S := fun W => W.cell? ⟨B5, 0, none⟩ = some (.int .i64 x0) ∧ W.cell? ⟨B5, 1, none⟩ = some (.int .i64 x1) ∧ W.cell? ⟨B5, 2, none⟩ = some (.int .i64 x2) ∧ W.cell? ⟨B5, 3, none⟩ = some (.int .i64 x3) ∧ W.cell? ⟨B5, 4, none⟩ = some (.int .i64 x4) ∧ W.cell? ⟨B5, 5, none⟩ = some (.string x5)) hmx ?_ (fun hHeld => ?_)
            · exact HKS.out _ rfl
            refine wpAnyH_take (i := 0) (oi := { dst := some 35, op := _, type := _, pos := _, after := _, guard := _ }) (v := ?_) rfl (by kernel_rfl) (by kernel_rfl) (by kernel_rfl) (fun _ _ _ h => h) (Or.inl ⟨by rfl, ?_⟩) (by assumption) ?_
            rotate_left
            · (intro W hSw; (try dsimp only at hSw); go_simp; try (with_reducible rfl))
            try simp only [Act.put, List.setIfInBounds_toArray, List.set_cons_zero, List.set_cons_succ]
            refine wpAnyH_take (i := 2) (oi := { dst := some 37, op := _, type := _, pos := _, after := _, guard := _ }) (v := ?_) rfl (by kernel_rfl) (by kernel_rfl) (by kernel_rfl) (fun _ _ _ h => h) (Or.inl ⟨by rfl, ?_⟩) (by assumption) ?_
            rotate_left
            · (intro W hSw; (try dsimp only at hSw); go_simp; try (with_reducible rfl))
            try simp only [Act.put, List.setIfInBounds_toArray, List.set_cons_zero, List.set_cons_succ]
            refine wpAnyH_take (i := 3) (oi := { dst := some 38, op := _, type := _, pos := _, after := _, guard := _ }) (v := ?_) rfl (by kernel_rfl) (by kernel_rfl) (by kernel_rfl) (fun _ _ _ h => h) (Or.inl ⟨by rfl, ?_⟩) (by assumption) ?_
            rotate_left
            · (intro W hSw; (try dsimp only at hSw); go_simp; try (with_reducible rfl))
            try simp only [Act.put, List.setIfInBounds_toArray, List.set_cons_zero, List.set_cons_succ]
            refine wpAnyH_take (i := 5) (oi := { dst := some 40, op := _, type := _, pos := _, after := _, guard := _ }) (v := ?_) rfl (by kernel_rfl) (by kernel_rfl) (by kernel_rfl) (fun _ _ _ h => h) (Or.inl ⟨by rfl, ?_⟩) (by assumption) ?_
            rotate_left
            · (intro W hSw; (try dsimp only at hSw); go_simp; try (with_reducible rfl))
            try simp only [Act.put, List.setIfInBounds_toArray, List.set_cons_zero, List.set_cons_succ]
            refine wpAnyH_take (i := 6) (oi := { dst := some 41, op := _, type := _, pos := _, after := _, guard := _ }) (v := ?_) rfl (by kernel_rfl) (by kernel_rfl) (by kernel_rfl) (fun _ _ _ h => h) (Or.inl ⟨by rfl, ?_⟩) (by assumption) ?_
            rotate_left
            · (intro W hSw; (try dsimp only at hSw); go_simp; try (with_reducible rfl))
            try simp only [Act.put, List.setIfInBounds_toArray, List.set_cons_zero, List.set_cons_succ]
            refine wpAnyH_take (i := 8) (oi := { dst := some 43, op := _, type := _, pos := _, after := _, guard := _ }) (v := ?_) rfl (by kernel_rfl) (by kernel_rfl) (by kernel_rfl) (fun _ _ _ h => h) (Or.inl ⟨by rfl, ?_⟩) (by assumption) ?_
            rotate_left
            · (intro W hSw; (try dsimp only at hSw); go_simp; try (with_reducible rfl))
            try simp only [Act.put, List.setIfInBounds_toArray, List.set_cons_zero, List.set_cons_succ]
            refine wpAnyH_take (i := 9) (oi := { dst := some 44, op := _, type := _, pos := _, after := _, guard := _ }) (v := ?_) rfl (by kernel_rfl) (by kernel_rfl) (by kernel_rfl) (fun _ _ _ h => h) (Or.inl ⟨by rfl, ?_⟩) (by assumption) ?_
            rotate_left
            · (intro W hSw; (try dsimp only at hSw); go_simp; try (with_reducible rfl))
            try simp only [Act.put, List.setIfInBounds_toArray, List.set_cons_zero, List.set_cons_succ]
            refine wpAnyH_take (i := 11) (oi := { dst := some 46, op := _, type := _, pos := _, after := _, guard := _ }) (v := ?_) rfl (by kernel_rfl) (by kernel_rfl) (by kernel_rfl) (fun _ _ _ h => h) (Or.inl ⟨by rfl, ?_⟩) (by assumption) ?_
            rotate_left
            · (intro W hSw; (try dsimp only at hSw); go_simp; try (with_reducible rfl))
            try simp only [Act.put, List.setIfInBounds_toArray, List.set_cons_zero, List.set_cons_succ]
            refine wpAnyH_take (i := 12) (oi := { dst := some 47, op := _, type := _, pos := _, after := _, guard := _ }) (v := ?_) rfl (by kernel_rfl) (by kernel_rfl) (by kernel_rfl) (fun _ _ _ h => h) (Or.inl ⟨by rfl, ?_⟩) (by assumption) ?_
            rotate_left
            · (intro W hSw; (try dsimp only at hSw); go_simp; try (with_reducible rfl))
            try simp only [Act.put, List.setIfInBounds_toArray, List.set_cons_zero, List.set_cons_succ]
            refine wpAnyH_take (i := 14) (oi := { dst := some 49, op := _, type := _, pos := _, after := _, guard := _ }) (v := ?_) rfl (by kernel_rfl) (by kernel_rfl) (by kernel_rfl) (fun _ _ _ h => h) (Or.inl ⟨by rfl, ?_⟩) (by assumption) ?_
            rotate_left
            · (intro W hSw; (try dsimp only at hSw); go_simp; try (with_reducible rfl))
            try simp only [Act.put, List.setIfInBounds_toArray, List.set_cons_zero, List.set_cons_succ]
            refine wpAnyH_take (i := 15) (oi := { dst := some 50, op := _, type := _, pos := _, after := _, guard := _ }) (v := ?_) rfl (by kernel_rfl) (by kernel_rfl) (by kernel_rfl) (fun _ _ _ h => h) (Or.inl ⟨by rfl, ?_⟩) (by assumption) ?_
            rotate_left
            · (intro W hSw; (try dsimp only at hSw); go_simp; try (with_reducible rfl))
            try simp only [Act.put, List.setIfInBounds_toArray, List.set_cons_zero, List.set_cons_succ]
            refine wpAnyH_take (i := 17) (oi := { dst := some 52, op := _, type := _, pos := _, after := _, guard := _ }) (v := ?_) rfl (by kernel_rfl) (by kernel_rfl) (by kernel_rfl) (fun _ _ _ h => h) (Or.inl ⟨by rfl, ?_⟩) (by assumption) ?_
            rotate_left
            · (intro W hSw; (try dsimp only at hSw); go_simp; try (with_reducible rfl))
            try simp only [Act.put, List.setIfInBounds_toArray, List.set_cons_zero, List.set_cons_succ]
            refine wpAnyH_take (i := 18) (oi := { dst := some 53, op := _, type := _, pos := _, after := _, guard := _ }) (v := ?_) rfl (by kernel_rfl) (by kernel_rfl) (by kernel_rfl) (fun _ _ _ h => h) (Or.inl ⟨by rfl, ?_⟩) (by assumption) ?_
            rotate_left
            · (intro W hSw; (try dsimp only at hSw); go_simp; try (with_reducible rfl))
            try simp only [Act.put, List.setIfInBounds_toArray, List.set_cons_zero, List.set_cons_succ]
            refine wpAnyH_take (i := 19) (oi := { dst := some 54, op := _, type := _, pos := _, after := _, guard := _ }) (v := ?_) rfl (by kernel_rfl) (by kernel_rfl) (by kernel_rfl) (fun _ _ _ h => h) (Or.inl ⟨by rfl, ?_⟩) (by assumption) ?_
            rotate_left
            · (intro W hSw; (try dsimp only at hSw); go_simp; try (with_reducible rfl))
            try simp only [Act.put, List.setIfInBounds_toArray, List.set_cons_zero, List.set_cons_succ]
            refine wpAnyH_take (i := 20) (oi := { dst := some 55, op := _, type := _, pos := _, after := _, guard := _ }) (v := ?_) rfl (by kernel_rfl) (by kernel_rfl) (by kernel_rfl) (fun _ _ _ h => h) (Or.inl ⟨by rfl, ?_⟩) (by assumption) ?_
            rotate_left
            · (intro W hSw; (try dsimp only at hSw); go_simp; try (with_reducible rfl))
            try simp only [Act.put, List.setIfInBounds_toArray, List.set_cons_zero, List.set_cons_succ]
            refine wpAnyH_take (i := 21) (oi := { dst := some 56, op := _, type := _, pos := _, after := _, guard := _ }) (v := ?_) rfl (by kernel_rfl) (by kernel_rfl) (by kernel_rfl) (fun _ _ _ h => h) (Or.inl ⟨by rfl, ?_⟩) (by assumption) ?_
            rotate_left
            · (intro W hSw; (try dsimp only at hSw); go_simp; try (with_reducible rfl))
            try simp only [Act.put, List.setIfInBounds_toArray, List.set_cons_zero, List.set_cons_succ]
            refine wpAnyH_take (i := 22) (oi := { dst := some 57, op := _, type := _, pos := _, after := _, guard := _ }) (v := ?_) rfl (by kernel_rfl) (by kernel_rfl) (by kernel_rfl) (fun _ _ _ h => h) (Or.inl ⟨by rfl, ?_⟩) (by assumption) ?_
            rotate_left
            · (intro W hSw; (try dsimp only at hSw); go_simp; try (with_reducible rfl))
            try simp only [Act.put, List.setIfInBounds_toArray, List.set_cons_zero, List.set_cons_succ]
            refine wpAnyH_take (i := 23) (oi := { dst := some 58, op := _, type := _, pos := _, after := _, guard := _ }) (v := ?_) rfl (by kernel_rfl) (by kernel_rfl) (by kernel_rfl) (fun _ _ _ h => h) (Or.inl ⟨by rfl, ?_⟩) (by assumption) ?_
            rotate_left
            · (intro W hSw; (try dsimp only at hSw); go_simp; try (with_reducible rfl))
            try simp only [Act.put, List.setIfInBounds_toArray, List.set_cons_zero, List.set_cons_succ]
            refine wpAnyH_ready (rs := [1, 4]) (by kernel_rfl) (by simp) ?_
            refine (AllReadyH.cons (o := { dst := some 36, op := _, type := _, pos := _, after := _, guard := _ }) rfl (fun K hK => ?_) (AllReadyH.cons (o := { dst := some 39, op := _, type := _, pos := _, after := _, guard := _ }) rfl (fun K hK => ?_) AllReadyH.nil))
            · go_simp
              refine hK.out _ _ ?_ (fun hHeld => ?_)
              · exact HKS.out _ rfl
              clear hK K
              try simp only [Act.put, List.setIfInBounds_toArray, List.set_cons_zero, List.set_cons_succ]
              refine wpAnyH_ready (rs := [4]) (by kernel_rfl) (by simp) ?_
              refine AllReadyH.cons (o := { dst := some 39, op := _, type := _, pos := _, after := _, guard := _ }) rfl (fun K hK => ?_) AllReadyH.nil
              go_simp
              refine (num_any _ _).mono ?_
              rintro e1 x1 ⟨rfl, hx1⟩
              have hx1' := hx1.symm
              subst hx1'
              clear hx1
              go_wp2_with fail
              refine hK.out _ _ ?_ (fun hHeld => ?_)
              · exact HKS.out _ rfl
              clear hK K
              try simp only [Act.put, List.setIfInBounds_toArray, List.set_cons_zero, List.set_cons_succ]
              refine wpAnyH_ready (rs := [7]) (by kernel_rfl) (by simp) ?_
              refine AllReadyH.cons (o := { dst := some 42, op := _, type := _, pos := _, after := _, guard := _ }) rfl (fun K hK => ?_) AllReadyH.nil
              go_simp
              refine (num_any _ _).mono ?_
              rintro e1 x1 ⟨rfl, hx1⟩
              have hx1' := hx1.symm
              subst hx1'
              clear hx1
              go_wp2_with fail
              refine hK.out _ _ ?_ (fun hHeld => ?_)
              · exact HKS.out _ rfl
              clear hK K
              try simp only [Act.put, List.setIfInBounds_toArray, List.set_cons_zero, List.set_cons_succ]
              refine wpAnyH_ready (rs := [10]) (by kernel_rfl) (by simp) ?_
              refine AllReadyH.cons (o := { dst := some 45, op := _, type := _, pos := _, after := _, guard := _ }) rfl (fun K hK => ?_) AllReadyH.nil
              go_simp
              refine (num_any _ _).mono ?_
              rintro e1 x1 ⟨rfl, hx1⟩
              have hx1' := hx1.symm
              subst hx1'
              clear hx1
              go_wp2_with fail
              refine hK.out _ _ ?_ (fun hHeld => ?_)
              · exact HKS.out _ rfl
              clear hK K
              try simp only [Act.put, List.setIfInBounds_toArray, List.set_cons_zero, List.set_cons_succ]
              refine wpAnyH_ready (rs := [13]) (by kernel_rfl) (by simp) ?_
              refine AllReadyH.cons (o := { dst := some 48, op := _, type := _, pos := _, after := _, guard := _ }) rfl (fun K hK => ?_) AllReadyH.nil
              go_simp
              refine (num_any _ _).mono ?_
              rintro e1 x1 ⟨rfl, hx1⟩
              have hx1' := hx1.symm
              subst hx1'
              clear hx1
              go_wp2_with fail
              refine hK.out _ _ ?_ (fun hHeld => ?_)
              · exact HKS.out _ rfl
              clear hK K
              try simp only [Act.put, List.setIfInBounds_toArray, List.set_cons_zero, List.set_cons_succ]
              refine wpAnyH_ready (rs := [16]) (by kernel_rfl) (by simp) ?_
              refine AllReadyH.cons (o := { dst := some 51, op := _, type := _, pos := _, after := _, guard := _ }) rfl (fun K hK => ?_) AllReadyH.nil
              go_simp
              refine (num_any _ _).mono ?_
              rintro e1 x1 ⟨rfl, hx1⟩
              have hx1' := hx1.symm
              subst hx1'
              clear hx1
              go_wp2_with fail
              refine hK.out _ _ ?_ (fun hHeld => ?_)
              · exact HKS.out _ rfl
              clear hK K
              try simp only [Act.put, List.setIfInBounds_toArray, List.set_cons_zero, List.set_cons_succ]
              refine wpAnyH_take (i := 24) (oi := { dst := some 59, op := _, type := _, pos := _, after := _, guard := _ }) (v := ?_) rfl (by kernel_rfl) (by kernel_rfl) (by kernel_rfl) (fun _ _ _ h => h) (Or.inl ⟨by rfl, ?_⟩) (by assumption) ?_
              rotate_left
              · (intro W hSw; (try dsimp only at hSw); go_simp; try (with_reducible rfl))
              try simp only [Act.put, List.setIfInBounds_toArray, List.set_cons_zero, List.set_cons_succ]
              refine wpAnyH_ready (rs := [25]) (by kernel_rfl) (by simp) ?_
              refine AllReadyH.cons (o := { dst := some 60, op := _, type := _, pos := _, after := _, guard := _ }) rfl (fun K hK => ?_) AllReadyH.nil
              go_simp
              refine hK.out _ _ ?_ (fun hHeld => ?_)
              · exact HKS.out _ (Below.heap_alloc W0 _ _ hlB)
              clear hK K
              try simp only [Act.put, List.setIfInBounds_toArray, List.set_cons_zero, List.set_cons_succ]
              refine wpAnyH_ready (rs := [26]) (by kernel_rfl) (by simp) ?_
              refine AllReadyH.cons (o := { dst := some 61, op := _, type := _, pos := _, after := _, guard := _ }) rfl (fun K hK => ?_) AllReadyH.nil
              refine step_append_own_src (by rfl) (.tmp 36) (.tmp 60) 22 22 (by rfl) O 61 _ 6 56 Tryd.underlying22 infoK (by rfl) (by decide) (.slice ka2 j kc2) j (Fk kl) (by rfl) HRW.out (.slice (some ⟨W0.heap.size, 0, none⟩) 1 1) 1 (Fk [⟨nm x0, nm x1, nm x2, nm x3, nm x4, x5.extract 0 m5⟩]) (by rfl) HS.out (by unfold maxLen; omega) (by omega) (by rw [hsz2]; omega) ?_
              intro v6 w6 ho6 hg6
              obtain ⟨a6, c6, rfl, hq1, hq2, hq3, hq4⟩ := HEND.out v6 w6 ho6 hg6
              have HQ1 := mkH hq1
              clear hq1 ho6 hg6
              refine hK.out _ _ ?_ (fun hHeld => ?_)
              · exact HKS.out _ hq4
              clear hK K
              try simp only [Act.put, List.setIfInBounds_toArray, List.set_cons_zero, List.set_cons_succ]
              refine wpAnyH_take (i := 27) (oi := { dst := some 62, op := _, type := _, pos := _, after := _, guard := _ }) (v := ?_) rfl (by kernel_rfl) (by kernel_rfl) (by kernel_rfl) (fun _ _ _ h => h) (Or.inl ⟨by rfl, ?_⟩) (by assumption) ?_
              rotate_left
              · (intro W hSw; (try dsimp only at hSw); go_simp; try (with_reducible rfl))
              try simp only [Act.put, List.setIfInBounds_toArray, List.set_cons_zero, List.set_cons_succ]
              refine wpAnyH_ready (rs := [28]) (by kernel_rfl) (by simp) ?_
              refine AllReadyH.cons (o := { dst := none, op := _, type := _, pos := _, after := _, guard := _ }) rfl (fun K hK => ?_) AllReadyH.nil
              go_simp
              refine hK.out _ _ ?_ (fun hHeld => ?_)
              · exact HKS.out _ ((heap_setCell_other _ _ _ _ hwB).trans hq4)
              clear hK K
              try simp only [Act.put, List.setIfInBounds_toArray, List.set_cons_zero, List.set_cons_succ]
              refine wpAnyH_done (by kernel_rfl) ?_ _
              go_wp2
              go_roundw
              case rel => exact ⟨j + 1, kq, a6, c6, by omega, by omega, by go_num, by unfold Hid; rw [HMS.out, HKL.out]; show kl ++ [(⟨nm x0, nm x1, nm x2, nm x3, nm x4, cutS x5 200⟩ : K)] = kq; rw [HC5.out]; exact HKQ.out, by omega, by have := HQ1; exact this⟩
              case measure => simp [intOf]; omega
            · go_simp
              refine (num_any _ _).mono ?_
              rintro e1 x1 ⟨rfl, hx1⟩
              have hx1' := hx1.symm
              subst hx1'
              clear hx1
              go_wp2_with fail
              refine hK.out _ _ ?_ (fun hHeld => ?_)
              · exact HKS.out _ rfl
              clear hK K
              try simp only [Act.put, List.setIfInBounds_toArray, List.set_cons_zero, List.set_cons_succ]
              refine wpAnyH_ready (rs := [1, 7]) (by kernel_rfl) (by simp) ?_
              refine (AllReadyH.cons (o := { dst := some 36, op := _, type := _, pos := _, after := _, guard := _ }) rfl (fun K hK => ?_) (AllReadyH.cons (o := { dst := some 42, op := _, type := _, pos := _, after := _, guard := _ }) rfl (fun K hK => ?_) AllReadyH.nil))
              · go_simp
                refine hK.out _ _ ?_ (fun hHeld => ?_)
                · exact HKS.out _ rfl
                clear hK K
                try simp only [Act.put, List.setIfInBounds_toArray, List.set_cons_zero, List.set_cons_succ]
                refine wpAnyH_ready (rs := [7]) (by kernel_rfl) (by simp) ?_
                refine AllReadyH.cons (o := { dst := some 42, op := _, type := _, pos := _, after := _, guard := _ }) rfl (fun K hK => ?_) AllReadyH.nil
                go_simp
                refine (num_any _ _).mono ?_
                rintro e1 x1 ⟨rfl, hx1⟩
                have hx1' := hx1.symm
                subst hx1'
                clear hx1
                go_wp2_with fail
                refine hK.out _ _ ?_ (fun hHeld => ?_)
                · exact HKS.out _ rfl
                clear hK K
                try simp only [Act.put, List.setIfInBounds_toArray, List.set_cons_zero, List.set_cons_succ]
                refine wpAnyH_ready (rs := [10]) (by kernel_rfl) (by simp) ?_
                refine AllReadyH.cons (o := { dst := some 45, op := _, type := _, pos := _, after := _, guard := _ }) rfl (fun K hK => ?_) AllReadyH.nil
                go_simp
                refine (num_any _ _).mono ?_
                rintro e1 x1 ⟨rfl, hx1⟩
                have hx1' := hx1.symm
                subst hx1'
                clear hx1
                go_wp2_with fail
                refine hK.out _ _ ?_ (fun hHeld => ?_)
                · exact HKS.out _ rfl
                clear hK K
                try simp only [Act.put, List.setIfInBounds_toArray, List.set_cons_zero, List.set_cons_succ]
                refine wpAnyH_ready (rs := [13]) (by kernel_rfl) (by simp) ?_
                refine AllReadyH.cons (o := { dst := some 48, op := _, type := _, pos := _, after := _, guard := _ }) rfl (fun K hK => ?_) AllReadyH.nil
                go_simp
                refine (num_any _ _).mono ?_
                rintro e1 x1 ⟨rfl, hx1⟩
                have hx1' := hx1.symm
                subst hx1'
                clear hx1
                go_wp2_with fail
                refine hK.out _ _ ?_ (fun hHeld => ?_)
                · exact HKS.out _ rfl
                clear hK K
                try simp only [Act.put, List.setIfInBounds_toArray, List.set_cons_zero, List.set_cons_succ]
                refine wpAnyH_ready (rs := [16]) (by kernel_rfl) (by simp) ?_
                refine AllReadyH.cons (o := { dst := some 51, op := _, type := _, pos := _, after := _, guard := _ }) rfl (fun K hK => ?_) AllReadyH.nil
                go_simp
                refine (num_any _ _).mono ?_
                rintro e1 x1 ⟨rfl, hx1⟩
                have hx1' := hx1.symm
                subst hx1'
                clear hx1
                go_wp2_with fail
                refine hK.out _ _ ?_ (fun hHeld => ?_)
                · exact HKS.out _ rfl
                clear hK K
                try simp only [Act.put, List.setIfInBounds_toArray, List.set_cons_zero, List.set_cons_succ]
                refine wpAnyH_take (i := 24) (oi := { dst := some 59, op := _, type := _, pos := _, after := _, guard := _ }) (v := ?_) rfl (by kernel_rfl) (by kernel_rfl) (by kernel_rfl) (fun _ _ _ h => h) (Or.inl ⟨by rfl, ?_⟩) (by assumption) ?_
                rotate_left
                · (intro W hSw; (try dsimp only at hSw); go_simp; try (with_reducible rfl))
                try simp only [Act.put, List.setIfInBounds_toArray, List.set_cons_zero, List.set_cons_succ]
                refine wpAnyH_ready (rs := [25]) (by kernel_rfl) (by simp) ?_
                refine AllReadyH.cons (o := { dst := some 60, op := _, type := _, pos := _, after := _, guard := _ }) rfl (fun K hK => ?_) AllReadyH.nil
                go_simp
                refine hK.out _ _ ?_ (fun hHeld => ?_)
                · exact HKS.out _ (Below.heap_alloc W0 _ _ hlB)
                clear hK K
                try simp only [Act.put, List.setIfInBounds_toArray, List.set_cons_zero, List.set_cons_succ]
                refine wpAnyH_ready (rs := [26]) (by kernel_rfl) (by simp) ?_
                refine AllReadyH.cons (o := { dst := some 61, op := _, type := _, pos := _, after := _, guard := _ }) rfl (fun K hK => ?_) AllReadyH.nil
                refine step_append_own_src (by rfl) (.tmp 36) (.tmp 60) 22 22 (by rfl) O 61 _ 6 56 Tryd.underlying22 infoK (by rfl) (by decide) (.slice ka2 j kc2) j (Fk kl) (by rfl) HRW.out (.slice (some ⟨W0.heap.size, 0, none⟩) 1 1) 1 (Fk [⟨nm x0, nm x1, nm x2, nm x3, nm x4, x5.extract 0 m5⟩]) (by rfl) HS.out (by unfold maxLen; omega) (by omega) (by rw [hsz2]; omega) ?_
                intro v6 w6 ho6 hg6
                obtain ⟨a6, c6, rfl, hq1, hq2, hq3, hq4⟩ := HEND.out v6 w6 ho6 hg6
                have HQ1 := mkH hq1
                clear hq1 ho6 hg6
                refine hK.out _ _ ?_ (fun hHeld => ?_)
                · exact HKS.out _ hq4
                clear hK K
                try simp only [Act.put, List.setIfInBounds_toArray, List.set_cons_zero, List.set_cons_succ]
                refine wpAnyH_take (i := 27) (oi := { dst := some 62, op := _, type := _, pos := _, after := _, guard := _ }) (v := ?_) rfl (by kernel_rfl) (by kernel_rfl) (by kernel_rfl) (fun _ _ _ h => h) (Or.inl ⟨by rfl, ?_⟩) (by assumption) ?_
                rotate_left
                · (intro W hSw; (try dsimp only at hSw); go_simp; try (with_reducible rfl))
                try simp only [Act.put, List.setIfInBounds_toArray, List.set_cons_zero, List.set_cons_succ]
                refine wpAnyH_ready (rs := [28]) (by kernel_rfl) (by simp) ?_
                refine AllReadyH.cons (o := { dst := none, op := _, type := _, pos := _, after := _, guard := _ }) rfl (fun K hK => ?_) AllReadyH.nil
                go_simp
                refine hK.out _ _ ?_ (fun hHeld => ?_)
                · exact HKS.out _ ((heap_setCell_other _ _ _ _ hwB).trans hq4)
                clear hK K
                try simp only [Act.put, List.setIfInBounds_toArray, List.set_cons_zero, List.set_cons_succ]
                refine wpAnyH_done (by kernel_rfl) ?_ _
                go_wp2
                go_roundw
                case rel => exact ⟨j + 1, kq, a6, c6, by omega, by omega, by go_num, by unfold Hid; rw [HMS.out, HKL.out]; show kl ++ [(⟨nm x0, nm x1, nm x2, nm x3, nm x4, cutS x5 200⟩ : K)] = kq; rw [HC5.out]; exact HKQ.out, by omega, by have := HQ1; exact this⟩
                case measure => simp [intOf]; omega
              · go_simp
                refine (num_any _ _).mono ?_
                rintro e1 x1 ⟨rfl, hx1⟩
                have hx1' := hx1.symm
                subst hx1'
                clear hx1
                go_wp2_with fail
                refine hK.out _ _ ?_ (fun hHeld => ?_)
                · exact HKS.out _ rfl
                clear hK K
                try simp only [Act.put, List.setIfInBounds_toArray, List.set_cons_zero, List.set_cons_succ]
                refine wpAnyH_ready (rs := [1, 10]) (by kernel_rfl) (by simp) ?_
                refine (AllReadyH.cons (o := { dst := some 36, op := _, type := _, pos := _, after := _, guard := _ }) rfl (fun K hK => ?_) (AllReadyH.cons (o := { dst := some 45, op := _, type := _, pos := _, after := _, guard := _ }) rfl (fun K hK => ?_) AllReadyH.nil))
                · go_simp
                  refine hK.out _ _ ?_ (fun hHeld => ?_)
                  · exact HKS.out _ rfl
                  clear hK K
                  try simp only [Act.put, List.setIfInBounds_toArray, List.set_cons_zero, List.set_cons_succ]
                  refine wpAnyH_ready (rs := [10]) (by kernel_rfl) (by simp) ?_
                  refine AllReadyH.cons (o := { dst := some 45, op := _, type := _, pos := _, after := _, guard := _ }) rfl (fun K hK => ?_) AllReadyH.nil
                  go_simp
                  refine (num_any _ _).mono ?_
                  rintro e1 x1 ⟨rfl, hx1⟩
                  have hx1' := hx1.symm
                  subst hx1'
                  clear hx1
                  go_wp2_with fail
                  refine hK.out _ _ ?_ (fun hHeld => ?_)
                  · exact HKS.out _ rfl
                  clear hK K
                  try simp only [Act.put, List.setIfInBounds_toArray, List.set_cons_zero, List.set_cons_succ]
                  refine wpAnyH_ready (rs := [13]) (by kernel_rfl) (by simp) ?_
                  refine AllReadyH.cons (o := { dst := some 48, op := _, type := _, pos := _, after := _, guard := _ }) rfl (fun K hK => ?_) AllReadyH.nil
                  go_simp
                  refine (num_any _ _).mono ?_
                  rintro e1 x1 ⟨rfl, hx1⟩
                  have hx1' := hx1.symm
                  subst hx1'
                  clear hx1
                  go_wp2_with fail
                  refine hK.out _ _ ?_ (fun hHeld => ?_)
                  · exact HKS.out _ rfl
                  clear hK K
                  try simp only [Act.put, List.setIfInBounds_toArray, List.set_cons_zero, List.set_cons_succ]
                  refine wpAnyH_ready (rs := [16]) (by kernel_rfl) (by simp) ?_
                  refine AllReadyH.cons (o := { dst := some 51, op := _, type := _, pos := _, after := _, guard := _ }) rfl (fun K hK => ?_) AllReadyH.nil
                  go_simp
                  refine (num_any _ _).mono ?_
                  rintro e1 x1 ⟨rfl, hx1⟩
                  have hx1' := hx1.symm
                  subst hx1'
                  clear hx1
                  go_wp2_with fail
                  refine hK.out _ _ ?_ (fun hHeld => ?_)
                  · exact HKS.out _ rfl
                  clear hK K
                  try simp only [Act.put, List.setIfInBounds_toArray, List.set_cons_zero, List.set_cons_succ]
                  refine wpAnyH_take (i := 24) (oi := { dst := some 59, op := _, type := _, pos := _, after := _, guard := _ }) (v := ?_) rfl (by kernel_rfl) (by kernel_rfl) (by kernel_rfl) (fun _ _ _ h => h) (Or.inl ⟨by rfl, ?_⟩) (by assumption) ?_
                  rotate_left
                  · (intro W hSw; (try dsimp only at hSw); go_simp; try (with_reducible rfl))
                  try simp only [Act.put, List.setIfInBounds_toArray, List.set_cons_zero, List.set_cons_succ]
                  refine wpAnyH_ready (rs := [25]) (by kernel_rfl) (by simp) ?_
                  refine AllReadyH.cons (o := { dst := some 60, op := _, type := _, pos := _, after := _, guard := _ }) rfl (fun K hK => ?_) AllReadyH.nil
                  go_simp
                  refine hK.out _ _ ?_ (fun hHeld => ?_)
                  · exact HKS.out _ (Below.heap_alloc W0 _ _ hlB)
                  clear hK K
                  try simp only [Act.put, List.setIfInBounds_toArray, List.set_cons_zero, List.set_cons_succ]
                  refine wpAnyH_ready (rs := [26]) (by kernel_rfl) (by simp) ?_
                  refine AllReadyH.cons (o := { dst := some 61, op := _, type := _, pos := _, after := _, guard := _ }) rfl (fun K hK => ?_) AllReadyH.nil
                  refine step_append_own_src (by rfl) (.tmp 36) (.tmp 60) 22 22 (by rfl) O 61 _ 6 56 Tryd.underlying22 infoK (by rfl) (by decide) (.slice ka2 j kc2) j (Fk kl) (by rfl) HRW.out (.slice (some ⟨W0.heap.size, 0, none⟩) 1 1) 1 (Fk [⟨nm x0, nm x1, nm x2, nm x3, nm x4, x5.extract 0 m5⟩]) (by rfl) HS.out (by unfold maxLen; omega) (by omega) (by rw [hsz2]; omega) ?_
                  intro v6 w6 ho6 hg6
                  obtain ⟨a6, c6, rfl, hq1, hq2, hq3, hq4⟩ := HEND.out v6 w6 ho6 hg6
                  have HQ1 := mkH hq1
                  clear hq1 ho6 hg6
                  refine hK.out _ _ ?_ (fun hHeld => ?_)
                  · exact HKS.out _ hq4
                  clear hK K
                  try simp only [Act.put, List.setIfInBounds_toArray, List.set_cons_zero, List.set_cons_succ]
                  refine wpAnyH_take (i := 27) (oi := { dst := some 62, op := _, type := _, pos := _, after := _, guard := _ }) (v := ?_) rfl (by kernel_rfl) (by kernel_rfl) (by kernel_rfl) (fun _ _ _ h => h) (Or.inl ⟨by rfl, ?_⟩) (by assumption) ?_
                  rotate_left
                  · (intro W hSw; (try dsimp only at hSw); go_simp; try (with_reducible rfl))
                  try simp only [Act.put, List.setIfInBounds_toArray, List.set_cons_zero, List.set_cons_succ]
                  refine wpAnyH_ready (rs := [28]) (by kernel_rfl) (by simp) ?_
                  refine AllReadyH.cons (o := { dst := none, op := _, type := _, pos := _, after := _, guard := _ }) rfl (fun K hK => ?_) AllReadyH.nil
                  go_simp
                  refine hK.out _ _ ?_ (fun hHeld => ?_)
                  · exact HKS.out _ ((heap_setCell_other _ _ _ _ hwB).trans hq4)
                  clear hK K
                  try simp only [Act.put, List.setIfInBounds_toArray, List.set_cons_zero, List.set_cons_succ]
                  refine wpAnyH_done (by kernel_rfl) ?_ _
                  go_wp2
                  go_roundw
                  case rel => exact ⟨j + 1, kq, a6, c6, by omega, by omega, by go_num, by unfold Hid; rw [HMS.out, HKL.out]; show kl ++ [(⟨nm x0, nm x1, nm x2, nm x3, nm x4, cutS x5 200⟩ : K)] = kq; rw [HC5.out]; exact HKQ.out, by omega, by have := HQ1; exact this⟩
                  case measure => simp [intOf]; omega
                · go_simp
                  refine (num_any _ _).mono ?_
                  rintro e1 x1 ⟨rfl, hx1⟩
                  have hx1' := hx1.symm
                  subst hx1'
                  clear hx1
                  go_wp2_with fail
                  refine hK.out _ _ ?_ (fun hHeld => ?_)
                  · exact HKS.out _ rfl
                  clear hK K
                  try simp only [Act.put, List.setIfInBounds_toArray, List.set_cons_zero, List.set_cons_succ]
                  refine wpAnyH_ready (rs := [1, 13]) (by kernel_rfl) (by simp) ?_
                  refine (AllReadyH.cons (o := { dst := some 36, op := _, type := _, pos := _, after := _, guard := _ }) rfl (fun K hK => ?_) (AllReadyH.cons (o := { dst := some 48, op := _, type := _, pos := _, after := _, guard := _ }) rfl (fun K hK => ?_) AllReadyH.nil))
                  · go_simp
                    refine hK.out _ _ ?_ (fun hHeld => ?_)
                    · exact HKS.out _ rfl
                    clear hK K
                    try simp only [Act.put, List.setIfInBounds_toArray, List.set_cons_zero, List.set_cons_succ]
                    refine wpAnyH_ready (rs := [13]) (by kernel_rfl) (by simp) ?_
                    refine AllReadyH.cons (o := { dst := some 48, op := _, type := _, pos := _, after := _, guard := _ }) rfl (fun K hK => ?_) AllReadyH.nil
                    go_simp
                    refine (num_any _ _).mono ?_
                    rintro e1 x1 ⟨rfl, hx1⟩
                    have hx1' := hx1.symm
                    subst hx1'
                    clear hx1
                    go_wp2_with fail
                    refine hK.out _ _ ?_ (fun hHeld => ?_)
                    · exact HKS.out _ rfl
                    clear hK K
                    try simp only [Act.put, List.setIfInBounds_toArray, List.set_cons_zero, List.set_cons_succ]
                    refine wpAnyH_ready (rs := [16]) (by kernel_rfl) (by simp) ?_
                    refine AllReadyH.cons (o := { dst := some 51, op := _, type := _, pos := _, after := _, guard := _ }) rfl (fun K hK => ?_) AllReadyH.nil
                    go_simp
                    refine (num_any _ _).mono ?_
                    rintro e1 x1 ⟨rfl, hx1⟩
                    have hx1' := hx1.symm
                    subst hx1'
                    clear hx1
                    go_wp2_with fail
                    refine hK.out _ _ ?_ (fun hHeld => ?_)
                    · exact HKS.out _ rfl
                    clear hK K
                    try simp only [Act.put, List.setIfInBounds_toArray, List.set_cons_zero, List.set_cons_succ]
                    refine wpAnyH_take (i := 24) (oi := { dst := some 59, op := _, type := _, pos := _, after := _, guard := _ }) (v := ?_) rfl (by kernel_rfl) (by kernel_rfl) (by kernel_rfl) (fun _ _ _ h => h) (Or.inl ⟨by rfl, ?_⟩) (by assumption) ?_
                    rotate_left
                    · (intro W hSw; (try dsimp only at hSw); go_simp; try (with_reducible rfl))
                    try simp only [Act.put, List.setIfInBounds_toArray, List.set_cons_zero, List.set_cons_succ]
                    refine wpAnyH_ready (rs := [25]) (by kernel_rfl) (by simp) ?_
                    refine AllReadyH.cons (o := { dst := some 60, op := _, type := _, pos := _, after := _, guard := _ }) rfl (fun K hK => ?_) AllReadyH.nil
                    go_simp
                    refine hK.out _ _ ?_ (fun hHeld => ?_)
                    · exact HKS.out _ (Below.heap_alloc W0 _ _ hlB)
                    clear hK K
                    try simp only [Act.put, List.setIfInBounds_toArray, List.set_cons_zero, List.set_cons_succ]
                    refine wpAnyH_ready (rs := [26]) (by kernel_rfl) (by simp) ?_
                    refine AllReadyH.cons (o := { dst := some 61, op := _, type := _, pos := _, after := _, guard := _ }) rfl (fun K hK => ?_) AllReadyH.nil
                    refine step_append_own_src (by rfl) (.tmp 36) (.tmp 60) 22 22 (by rfl) O 61 _ 6 56 Tryd.underlying22 infoK (by rfl) (by decide) (.slice ka2 j kc2) j (Fk kl) (by rfl) HRW.out (.slice (some ⟨W0.heap.size, 0, none⟩) 1 1) 1 (Fk [⟨nm x0, nm x1, nm x2, nm x3, nm x4, x5.extract 0 m5⟩]) (by rfl) HS.out (by unfold maxLen; omega) (by omega) (by rw [hsz2]; omega) ?_
                    intro v6 w6 ho6 hg6
                    obtain ⟨a6, c6, rfl, hq1, hq2, hq3, hq4⟩ := HEND.out v6 w6 ho6 hg6
                    have HQ1 := mkH hq1
                    clear hq1 ho6 hg6
                    refine hK.out _ _ ?_ (fun hHeld => ?_)
                    · exact HKS.out _ hq4
                    clear hK K
                    try simp only [Act.put, List.setIfInBounds_toArray, List.set_cons_zero, List.set_cons_succ]
                    refine wpAnyH_take (i := 27) (oi := { dst := some 62, op := _, type := _, pos := _, after := _, guard := _ }) (v := ?_) rfl (by kernel_rfl) (by kernel_rfl) (by kernel_rfl) (fun _ _ _ h => h) (Or.inl ⟨by rfl, ?_⟩) (by assumption) ?_
                    rotate_left
                    · (intro W hSw; (try dsimp only at hSw); go_simp; try (with_reducible rfl))
                    try simp only [Act.put, List.setIfInBounds_toArray, List.set_cons_zero, List.set_cons_succ]
                    refine wpAnyH_ready (rs := [28]) (by kernel_rfl) (by simp) ?_
                    refine AllReadyH.cons (o := { dst := none, op := _, type := _, pos := _, after := _, guard := _ }) rfl (fun K hK => ?_) AllReadyH.nil
                    go_simp
                    refine hK.out _ _ ?_ (fun hHeld => ?_)
                    · exact HKS.out _ ((heap_setCell_other _ _ _ _ hwB).trans hq4)
                    clear hK K
                    try simp only [Act.put, List.setIfInBounds_toArray, List.set_cons_zero, List.set_cons_succ]
                    refine wpAnyH_done (by kernel_rfl) ?_ _
                    go_wp2
                    go_roundw
                    case rel => exact ⟨j + 1, kq, a6, c6, by omega, by omega, by go_num, by unfold Hid; rw [HMS.out, HKL.out]; show kl ++ [(⟨nm x0, nm x1, nm x2, nm x3, nm x4, cutS x5 200⟩ : K)] = kq; rw [HC5.out]; exact HKQ.out, by omega, by have := HQ1; exact this⟩
                    case measure => simp [intOf]; omega
                  · go_simp
                    refine (num_any _ _).mono ?_
                    rintro e1 x1 ⟨rfl, hx1⟩
                    have hx1' := hx1.symm
                    subst hx1'
                    clear hx1
                    go_wp2_with fail
                    refine hK.out _ _ ?_ (fun hHeld => ?_)
                    · exact HKS.out _ rfl
                    clear hK K
                    try simp only [Act.put, List.setIfInBounds_toArray, List.set_cons_zero, List.set_cons_succ]
                    refine wpAnyH_ready (rs := [1, 16]) (by kernel_rfl) (by simp) ?_
                    refine (AllReadyH.cons (o := { dst := some 36, op := _, type := _, pos := _, after := _, guard := _ }) rfl (fun K hK => ?_) (AllReadyH.cons (o := { dst := some 51, op := _, type := _, pos := _, after := _, guard := _ }) rfl (fun K hK => ?_) AllReadyH.nil))
                    · go_simp
                      refine hK.out _ _ ?_ (fun hHeld => ?_)
                      · exact HKS.out _ rfl
                      clear hK K
                      try simp only [Act.put, List.setIfInBounds_toArray, List.set_cons_zero, List.set_cons_succ]
                      refine wpAnyH_ready (rs := [16]) (by kernel_rfl) (by simp) ?_
                      refine AllReadyH.cons (o := { dst := some 51, op := _, type := _, pos := _, after := _, guard := _ }) rfl (fun K hK => ?_) AllReadyH.nil
                      go_simp
                      refine (num_any _ _).mono ?_
                      rintro e1 x1 ⟨rfl, hx1⟩
                      have hx1' := hx1.symm
                      subst hx1'
                      clear hx1
                      go_wp2_with fail
                      refine hK.out _ _ ?_ (fun hHeld => ?_)
                      · exact HKS.out _ rfl
                      clear hK K
                      try simp only [Act.put, List.setIfInBounds_toArray, List.set_cons_zero, List.set_cons_succ]
                      refine wpAnyH_take (i := 24) (oi := { dst := some 59, op := _, type := _, pos := _, after := _, guard := _ }) (v := ?_) rfl (by kernel_rfl) (by kernel_rfl) (by kernel_rfl) (fun _ _ _ h => h) (Or.inl ⟨by rfl, ?_⟩) (by assumption) ?_
                      rotate_left
                      · (intro W hSw; (try dsimp only at hSw); go_simp; try (with_reducible rfl))
                      try simp only [Act.put, List.setIfInBounds_toArray, List.set_cons_zero, List.set_cons_succ]
                      refine wpAnyH_ready (rs := [25]) (by kernel_rfl) (by simp) ?_
                      refine AllReadyH.cons (o := { dst := some 60, op := _, type := _, pos := _, after := _, guard := _ }) rfl (fun K hK => ?_) AllReadyH.nil
                      go_simp
                      refine hK.out _ _ ?_ (fun hHeld => ?_)
                      · exact HKS.out _ (Below.heap_alloc W0 _ _ hlB)
                      clear hK K
                      try simp only [Act.put, List.setIfInBounds_toArray, List.set_cons_zero, List.set_cons_succ]
                      refine wpAnyH_ready (rs := [26]) (by kernel_rfl) (by simp) ?_
                      refine AllReadyH.cons (o := { dst := some 61, op := _, type := _, pos := _, after := _, guard := _ }) rfl (fun K hK => ?_) AllReadyH.nil
                      refine step_append_own_src (by rfl) (.tmp 36) (.tmp 60) 22 22 (by rfl) O 61 _ 6 56 Tryd.underlying22 infoK (by rfl) (by decide) (.slice ka2 j kc2) j (Fk kl) (by rfl) HRW.out (.slice (some ⟨W0.heap.size, 0, none⟩) 1 1) 1 (Fk [⟨nm x0, nm x1, nm x2, nm x3, nm x4, x5.extract 0 m5⟩]) (by rfl) HS.out (by unfold maxLen; omega) (by omega) (by rw [hsz2]; omega) ?_
                      intro v6 w6 ho6 hg6
                      obtain ⟨a6, c6, rfl, hq1, hq2, hq3, hq4⟩ := HEND.out v6 w6 ho6 hg6
                      have HQ1 := mkH hq1
                      clear hq1 ho6 hg6
                      refine hK.out _ _ ?_ (fun hHeld => ?_)
                      · exact HKS.out _ hq4
                      clear hK K
                      try simp only [Act.put, List.setIfInBounds_toArray, List.set_cons_zero, List.set_cons_succ]
                      refine wpAnyH_take (i := 27) (oi := { dst := some 62, op := _, type := _, pos := _, after := _, guard := _ }) (v := ?_) rfl (by kernel_rfl) (by kernel_rfl) (by kernel_rfl) (fun _ _ _ h => h) (Or.inl ⟨by rfl, ?_⟩) (by assumption) ?_
                      rotate_left
                      · (intro W hSw; (try dsimp only at hSw); go_simp; try (with_reducible rfl))
                      try simp only [Act.put, List.setIfInBounds_toArray, List.set_cons_zero, List.set_cons_succ]
                      refine wpAnyH_ready (rs := [28]) (by kernel_rfl) (by simp) ?_
                      refine AllReadyH.cons (o := { dst := none, op := _, type := _, pos := _, after := _, guard := _ }) rfl (fun K hK => ?_) AllReadyH.nil
                      go_simp
                      refine hK.out _ _ ?_ (fun hHeld => ?_)
                      · exact HKS.out _ ((heap_setCell_other _ _ _ _ hwB).trans hq4)
                      clear hK K
                      try simp only [Act.put, List.setIfInBounds_toArray, List.set_cons_zero, List.set_cons_succ]
                      refine wpAnyH_done (by kernel_rfl) ?_ _
                      go_wp2
                      go_roundw
                      case rel => exact ⟨j + 1, kq, a6, c6, by omega, by omega, by go_num, by unfold Hid; rw [HMS.out, HKL.out]; show kl ++ [(⟨nm x0, nm x1, nm x2, nm x3, nm x4, cutS x5 200⟩ : K)] = kq; rw [HC5.out]; exact HKQ.out, by omega, by have := HQ1; exact this⟩
                      case measure => simp [intOf]; omega
                    · go_simp
                      refine (num_any _ _).mono ?_
                      rintro e1 x1 ⟨rfl, hx1⟩
                      have hx1' := hx1.symm
                      subst hx1'
                      clear hx1
                      go_wp2_with fail
                      refine hK.out _ _ ?_ (fun hHeld => ?_)
                      · exact HKS.out _ rfl
                      clear hK K
                      try simp only [Act.put, List.setIfInBounds_toArray, List.set_cons_zero, List.set_cons_succ]
                      refine wpAnyH_take (i := 24) (oi := { dst := some 59, op := _, type := _, pos := _, after := _, guard := _ }) (v := ?_) rfl (by kernel_rfl) (by kernel_rfl) (by kernel_rfl) (fun _ _ _ h => h) (Or.inl ⟨by rfl, ?_⟩) (by assumption) ?_
                      rotate_left
                      · (intro W hSw; (try dsimp only at hSw); go_simp; try (with_reducible rfl))
                      try simp only [Act.put, List.setIfInBounds_toArray, List.set_cons_zero, List.set_cons_succ]
                      refine wpAnyH_ready (rs := [1, 25]) (by kernel_rfl) (by simp) ?_
                      refine (AllReadyH.cons (o := { dst := some 36, op := _, type := _, pos := _, after := _, guard := _ }) rfl (fun K hK => ?_) (AllReadyH.cons (o := { dst := some 60, op := _, type := _, pos := _, after := _, guard := _ }) rfl (fun K hK => ?_) AllReadyH.nil))
                      · go_simp
                        refine hK.out _ _ ?_ (fun hHeld => ?_)
                        · exact HKS.out _ rfl
                        clear hK K
                        try simp only [Act.put, List.setIfInBounds_toArray, List.set_cons_zero, List.set_cons_succ]
                        refine wpAnyH_ready (rs := [25]) (by kernel_rfl) (by simp) ?_
                        refine AllReadyH.cons (o := { dst := some 60, op := _, type := _, pos := _, after := _, guard := _ }) rfl (fun K hK => ?_) AllReadyH.nil
                        go_simp
                        refine hK.out _ _ ?_ (fun hHeld => ?_)
                        · exact HKS.out _ (Below.heap_alloc W0 _ _ hlB)
                        clear hK K
                        try simp only [Act.put, List.setIfInBounds_toArray, List.set_cons_zero, List.set_cons_succ]
                        refine wpAnyH_ready (rs := [26]) (by kernel_rfl) (by simp) ?_
                        refine AllReadyH.cons (o := { dst := some 61, op := _, type := _, pos := _, after := _, guard := _ }) rfl (fun K hK => ?_) AllReadyH.nil
                        refine step_append_own_src (by rfl) (.tmp 36) (.tmp 60) 22 22 (by rfl) O 61 _ 6 56 Tryd.underlying22 infoK (by rfl) (by decide) (.slice ka2 j kc2) j (Fk kl) (by rfl) HRW.out (.slice (some ⟨W0.heap.size, 0, none⟩) 1 1) 1 (Fk [⟨nm x0, nm x1, nm x2, nm x3, nm x4, x5.extract 0 m5⟩]) (by rfl) HS.out (by unfold maxLen; omega) (by omega) (by rw [hsz2]; omega) ?_
                        intro v6 w6 ho6 hg6
                        obtain ⟨a6, c6, rfl, hq1, hq2, hq3, hq4⟩ := HEND.out v6 w6 ho6 hg6
                        have HQ1 := mkH hq1
                        clear hq1 ho6 hg6
                        refine hK.out _ _ ?_ (fun hHeld => ?_)
                        · exact HKS.out _ hq4
                        clear hK K
                        try simp only [Act.put, List.setIfInBounds_toArray, List.set_cons_zero, List.set_cons_succ]
                        refine wpAnyH_take (i := 27) (oi := { dst := some 62, op := _, type := _, pos := _, after := _, guard := _ }) (v := ?_) rfl (by kernel_rfl) (by kernel_rfl) (by kernel_rfl) (fun _ _ _ h => h) (Or.inl ⟨by rfl, ?_⟩) (by assumption) ?_
                        rotate_left
                        · (intro W hSw; (try dsimp only at hSw); go_simp; try (with_reducible rfl))
                        try simp only [Act.put, List.setIfInBounds_toArray, List.set_cons_zero, List.set_cons_succ]
                        refine wpAnyH_ready (rs := [28]) (by kernel_rfl) (by simp) ?_
                        refine AllReadyH.cons (o := { dst := none, op := _, type := _, pos := _, after := _, guard := _ }) rfl (fun K hK => ?_) AllReadyH.nil
                        go_simp
                        refine hK.out _ _ ?_ (fun hHeld => ?_)
                        · exact HKS.out _ ((heap_setCell_other _ _ _ _ hwB).trans hq4)
                        clear hK K
                        try simp only [Act.put, List.setIfInBounds_toArray, List.set_cons_zero, List.set_cons_succ]
                        refine wpAnyH_done (by kernel_rfl) ?_ _
                        go_wp2
                        go_roundw
                        case rel => exact ⟨j + 1, kq, a6, c6, by omega, by omega, by go_num, by unfold Hid; rw [HMS.out, HKL.out]; show kl ++ [(⟨nm x0, nm x1, nm x2, nm x3, nm x4, cutS x5 200⟩ : K)] = kq; rw [HC5.out]; exact HKQ.out, by omega, by have := HQ1; exact this⟩
                        case measure => simp [intOf]; omega
                      · go_simp
                        refine hK.out _ _ ?_ (fun hHeld => ?_)
                        · exact HKS.out _ (Below.heap_alloc W0 _ _ hlB)
                        clear hK K
                        try simp only [Act.put, List.setIfInBounds_toArray, List.set_cons_zero, List.set_cons_succ]
                        refine wpAnyH_ready (rs := [1]) (by kernel_rfl) (by simp) ?_
                        refine AllReadyH.cons (o := { dst := some 36, op := _, type := _, pos := _, after := _, guard := _ }) rfl (fun K hK => ?_) AllReadyH.nil
                        go_simp
                        refine hK.out _ _ ?_ (fun hHeld => ?_)
                        · exact HKS.out _ (Below.heap_alloc W0 _ _ hlB)
                        clear hK K
                        try simp only [Act.put, List.setIfInBounds_toArray, List.set_cons_zero, List.set_cons_succ]
                        refine wpAnyH_ready (rs := [26]) (by kernel_rfl) (by simp) ?_
                        refine AllReadyH.cons (o := { dst := some 61, op := _, type := _, pos := _, after := _, guard := _ }) rfl (fun K hK => ?_) AllReadyH.nil
                        refine step_append_own_src (by rfl) (.tmp 36) (.tmp 60) 22 22 (by rfl) O 61 _ 6 56 Tryd.underlying22 infoK (by rfl) (by decide) (.slice ka2 j kc2) j (Fk kl) (by rfl) HRW.out (.slice (some ⟨W0.heap.size, 0, none⟩) 1 1) 1 (Fk [⟨nm x0, nm x1, nm x2, nm x3, nm x4, x5.extract 0 m5⟩]) (by rfl) HS.out (by unfold maxLen; omega) (by omega) (by rw [hsz2]; omega) ?_
                        intro v6 w6 ho6 hg6
                        obtain ⟨a6, c6, rfl, hq1, hq2, hq3, hq4⟩ := HEND.out v6 w6 ho6 hg6
                        have HQ1 := mkH hq1
                        clear hq1 ho6 hg6
                        refine hK.out _ _ ?_ (fun hHeld => ?_)
                        · exact HKS.out _ hq4
                        clear hK K
                        try simp only [Act.put, List.setIfInBounds_toArray, List.set_cons_zero, List.set_cons_succ]
                        refine wpAnyH_take (i := 27) (oi := { dst := some 62, op := _, type := _, pos := _, after := _, guard := _ }) (v := ?_) rfl (by kernel_rfl) (by kernel_rfl) (by kernel_rfl) (fun _ _ _ h => h) (Or.inl ⟨by rfl, ?_⟩) (by assumption) ?_
                        rotate_left
                        · (intro W hSw; (try dsimp only at hSw); go_simp; try (with_reducible rfl))
                        try simp only [Act.put, List.setIfInBounds_toArray, List.set_cons_zero, List.set_cons_succ]
                        refine wpAnyH_ready (rs := [28]) (by kernel_rfl) (by simp) ?_
                        refine AllReadyH.cons (o := { dst := none, op := _, type := _, pos := _, after := _, guard := _ }) rfl (fun K hK => ?_) AllReadyH.nil
                        go_simp
                        refine hK.out _ _ ?_ (fun hHeld => ?_)
                        · exact HKS.out _ ((heap_setCell_other _ _ _ _ hwB).trans hq4)
                        clear hK K
                        try simp only [Act.put, List.setIfInBounds_toArray, List.set_cons_zero, List.set_cons_succ]
                        refine wpAnyH_done (by kernel_rfl) ?_ _
                        go_wp2
                        go_roundw
                        case rel => exact ⟨j + 1, kq, a6, c6, by omega, by omega, by go_num, by unfold Hid; rw [HMS.out, HKL.out]; show kl ++ [(⟨nm x0, nm x1, nm x2, nm x3, nm x4, cutS x5 200⟩ : K)] = kq; rw [HC5.out]; exact HKQ.out, by omega, by have := HQ1; exact this⟩
                        case measure => simp [intOf]; omega
          · obtain rfl : j = 20 := by omega
            have jz : ((20 : Nat) : Int) < (kp.length : Int) := by omega
            go_wp2_with fail
            go_meet
            case rel => exact ⟨ka2, kc2, by have := HW.out; rw [← HKL.out] at this; exact this⟩
        · obtain rfl : j = kp.length := by omega
          go_wp2_with fail
          go_meet
          case rel => exact ⟨ka2, kc2, by have := HW.out; rw [← HKL.out, List.take_length] at this; rw [List.take_of_length_le (by omega)]; exact this⟩
    case rest =>
      obtain ⟨ka2, kc2, hF2⟩ := hcut
      have HF2 := mkH hF2
      clear hF2 HF
      obtain ⟨kfin, hkf⟩ : ∃ l, (kp.take 20).map fewK = l := ⟨_, rfl⟩
      rw [hkf] at HF2
      have HKF := mkH hkf
      clear hkf
      go_wp2_with fail
      go_loopw [6, 7] (fun i _ WW => ∃ (j : Nat) (kl : List M) (ma2 : Option Addr) (mc2 : Nat), j ≤ mk.length ∧ j ≤ 50 ∧ i = .int .i64 (j : Int) ∧ Hid ((mk.take j).map fewM = kl) ∧ kl.length = j ∧ Hid (Fw w WW w.heap.size R O O (nm nx) (at'.extract 0 m3) g0 kfin kl ka2 kc2 ma2 mc2)) (fun i _ _ => 50 - (intOf i).toNat)
      case atStart => exact ⟨0, [], none, 0, Nat.zero_le _, by omega, rfl, mkH rfl, rfl, HF2⟩
      case round =>
        obtain ⟨j, kl, ma2, mc2, hj, hj20, rfl, HKL, hkl, HW⟩ := hrel
        have hb0 := HW.out.b
        rw [← HG0.out] at hb0
        obtain ⟨m0, m1, m2, m3', -⟩ := hb0.four
        clear hb0
        by_cases hjl : j < mk.length
        · by_cases hj2 : j < 50
          · obtain ⟨x, hx⟩ := some_of hjl
            obtain ⟨b, off, rfl, z0, z1, z2⟩ := atM (HL.out.m.below HW.out.bl) hx
            have HMS := mkH (map_snoc fewM mk j x hx)
            obtain ⟨x0, x1, x2⟩ := x
            simp only at z0 z1 z2
            have hm5 : (if (40 : Int) < (x0.size : Int) then (40 : Int) else (x0.size : Int)) = ((min x0.size 40 : Nat) : Int) := min_str x0 40
            obtain ⟨m5, h5⟩ : ∃ m, min x0.size 40 = m := ⟨_, rfl⟩
            have HC5 : Hid (cutS x0 40 = x0.extract 0 m5) := by unfold Hid cutS; rw [h5]
            rw [h5] at hm5
            have l5 : (m5 : Int) ≤ (x0.size : Int) := by omega
            have jz : (j : Int) < (mk.length : Int) := by omega
            have jt : (j : Int) < 50 := by omega
            clear h5 hx
            go_upto_region 11 with fail
            have hal : Below wr.heap.size wr (wr.alloc (.cells #[Value.string x0, .int .i64 x1, .int .i64 x2] 70)) := (Below.refl _ wr).alloc (Nat.le_refl _) _
            have HWA := mkH (HW.out.below hal)
            have hkB : ∀ k, (Value.slice ma2 kl.length mc2).ownBlock = some k → k < wr.heap.size := fun k hk => (HW.out.m.lt k hk).2
            have HBX := mkH (Bx.new wr #[Value.string x0, .int .i64 x1, .int .i64 x2] 70)
            obtain ⟨B5, hB5⟩ : ∃ B, wr.heap.size = B := ⟨_, rfl⟩
            rw [hB5] at HBX hkB ⊢
            generalize wr.alloc (.cells #[Value.string x0, .int .i64 x1, .int .i64 x2] 70) = W0 at *
            clear hal HW hB5 m0 m1 m2 m3' z0 z1 z2
            have o1' := HWA.out.o.four.2.2.1
            have HKS : Hid (∀ W : World, W.heap[B5]? = W0.heap[B5]? → W.cell? ⟨B5, 0, none⟩ = some (.string x0) ∧ W.cell? ⟨B5, 1, none⟩ = some (.int .i64 x1) ∧ W.cell? ⟨B5, 2, none⟩ = some (.int .i64 x2)) := fun W hW => by
              have hB' : Bx W B5 #[Value.string x0, .int .i64 x1, .int .i64 x2] 70 := by unfold Bx; rw [hW]; exact HBX.out
              exact ⟨hB'.cell 0 _ rfl, hB'.cell 1 _ rfl, hB'.cell 2 _ rfl⟩
            have hlB : B5 < W0.heap.size := HBX.out.lt
            have hal2 : Below W0.heap.size W0 ((W0.alloc (.cells #[Value.string (x0.extract 0 m5), .int .i64 (nm x1), .int .i64 (nm x2)] 70)).drew) := ((Below.refl _ W0).alloc (Nat.le_refl _) _).drew
            have HW2 := mkH (HWA.out.below hal2)
            have o2' := HW2.out.o.four.2.2.1
            have HS : Hid (Src Tryd.prog 3 23 (.slice (some ⟨W0.heap.size, 0, none⟩) 1 1) 1 (Fm [⟨x0.extract 0 m5, nm x1, nm x2⟩]) ((W0.alloc (.cells #[Value.string (x0.extract 0 m5), .int .i64 (nm x1), .int .i64 (nm x2)] 70)).drew)) := newM W0.drew ⟨x0.extract 0 m5, nm x1, nm x2⟩ 70
            have hsz2 : ((W0.alloc (.cells #[Value.string (x0.extract 0 m5), .int .i64 (nm x1), .int .i64 (nm x2)] 70)).drew).heap.size = W0.heap.size + 1 := by simp
            have hOw : O ≤ W0.heap.size := by have := HWA.out.o.lt; omega
            have hwB : B5 ≠ O := fun e => by have h1 := HWA.out.o; have h2 := HBX.out; rw [e] at h2; unfold Bx at h1 h2; rw [h1] at h2; simp at h2
            obtain ⟨kq, hkq⟩ : ∃ kq, kl ++ [(⟨x0.extract 0 m5, nm x1, nm x2⟩ : M)] = kq := ⟨_, rfl⟩
            have HKQ := mkH hkq
            have hkql : kl.length + 1 = kq.length := by rw [← hkq]; simp
            rw [hkl] at o1' o2'
            have HEND : Hid (∀ v6 w6, w6.ownsRow O 70 3 v6 (j + 1) (Fm kl ++ Fm [⟨x0.extract 0 m5, nm x1, nm x2⟩]) → ((W0.alloc (.cells #[Value.string (x0.extract 0 m5), .int .i64 (nm x1), .int .i64 (nm x2)] 70)).drew).grownBy w6 (Value.slice ma2 j mc2).ownBlock → ∃ a6 c6, v6 = .slice a6 (j + 1) c6 ∧ Fw w (w6.setCell ⟨O, 2, none⟩ (.slice a6 (j + 1) c6)) w.heap.size R O O (nm nx) (at'.extract 0 m3) g0 kfin kq ka2 kc2 a6 c6 ∧ w6.cell? ⟨O, 2, none⟩ = some (.slice ma2 j mc2) ∧ w6.frozen? ⟨O, 2, none⟩ = false ∧ w6.heap[B5]? = W0.heap[B5]?) := fun v6 w6 ho6 hg6 => by
              obtain ⟨a6, c6, rfl⟩ := own_form ho6
              rw [show Fm kl ++ Fm [⟨x0.extract 0 m5, nm x1, nm x2⟩] = Fm (kl ++ [⟨x0.extract 0 m5, nm x1, nm x2⟩]) from (Fl_append _ _).symm, ← hkl, show kl.length + 1 = (kl ++ [(⟨x0.extract 0 m5, nm x1, nm x2⟩ : M)]).length by simp] at ho6
              rw [← hkl] at hg6
              obtain ⟨q1, q2, q3⟩ := HW2.out.addM o2 o3 o1 o1 hg6 ho6
              rw [hkq, ← hkql, hkl] at q1
              rw [hkl] at q2
              refine ⟨a6, c6, rfl, q1, q2, q3, ?_⟩
              have hne : ¬ (Value.slice ma2 kl.length mc2).ownBlock = some B5 := fun hk => by have := hkB B5 hk; omega
              rw [(fr_grown hg6).heap (by have := HBX.out.lt; omega) hne]
              exact Below.heap_alloc W0 _ _ hlB
            have hRW : ((W0.alloc (.cells #[Value.string (x0.extract 0 m5), .int .i64 (nm x1), .int .i64 (nm x2)] 70)).drew).ownsRow O 70 3 (.slice ma2 j mc2) j (Fm kl) := by have := HW2.out.m; rw [hkl] at this; exact this
            have HRW := mkH hRW
            clear hRW hal2 hkq hkB
            refine wp_region_held_drew (S := fun W => W.cell? ⟨B5, 0, none⟩ = some (.string x0) ∧ W.cell? ⟨B5, 1, none⟩ = some (.int .i64 x1) ∧ W.cell? ⟨B5, 2, none⟩ = some (.int .i64 x2)) hmx ?_ (fun hHeld => ?_)
            · exact HKS.out _ rfl
            refine wpAnyH_take (i := 0) (oi := { dst := some 79, op := _, type := _, pos := _, after := _, guard := _ }) (v := ?_) rfl (by kernel_rfl) (by kernel_rfl) (by kernel_rfl) (fun _ _ _ h => h) (Or.inl ⟨by rfl, ?_⟩) (by assumption) ?_
            rotate_left
            · (intro W hSw; (try dsimp only at hSw); go_simp; try (with_reducible rfl))
            try simp only [Act.put, List.setIfInBounds_toArray, List.set_cons_zero, List.set_cons_succ]
            refine wpAnyH_take (i := 2) (oi := { dst := some 81, op := _, type := _, pos := _, after := _, guard := _ }) (v := ?_) rfl (by kernel_rfl) (by kernel_rfl) (by kernel_rfl) (fun _ _ _ h => h) (Or.inl ⟨by rfl, ?_⟩) (by assumption) ?_
            rotate_left
            · (intro W hSw; (try dsimp only at hSw); go_simp; try (with_reducible rfl))
            try simp only [Act.put, List.setIfInBounds_toArray, List.set_cons_zero, List.set_cons_succ]
            refine wpAnyH_take (i := 3) (oi := { dst := some 82, op := _, type := _, pos := _, after := _, guard := _ }) (v := ?_) rfl (by kernel_rfl) (by kernel_rfl) (by kernel_rfl) (fun _ _ _ h => h) (Or.inl ⟨by rfl, ?_⟩) (by assumption) ?_
            rotate_left
            · (intro W hSw; (try dsimp only at hSw); go_simp; try (with_reducible rfl))
            try simp only [Act.put, List.setIfInBounds_toArray, List.set_cons_zero, List.set_cons_succ]
            refine wpAnyH_take (i := 4) (oi := { dst := some 83, op := _, type := _, pos := _, after := _, guard := _ }) (v := ?_) rfl (by kernel_rfl) (by kernel_rfl) (by kernel_rfl) (fun _ _ _ h => h) (Or.inl ⟨by rfl, ?_⟩) (by assumption) ?_
            rotate_left
            · (intro W hSw; (try dsimp only at hSw); go_simp; try (with_reducible rfl))
            try simp only [Act.put, List.setIfInBounds_toArray, List.set_cons_zero, List.set_cons_succ]
            refine wpAnyH_take (i := 5) (oi := { dst := some 84, op := _, type := _, pos := _, after := _, guard := _ }) (v := ?_) rfl (by kernel_rfl) (by kernel_rfl) (by kernel_rfl) (fun _ _ _ h => h) (Or.inl ⟨by rfl, ?_⟩) (by assumption) ?_
            rotate_left
            · (intro W hSw; (try dsimp only at hSw); go_simp; try (with_reducible rfl))
            try simp only [Act.put, List.setIfInBounds_toArray, List.set_cons_zero, List.set_cons_succ]
            refine wpAnyH_take (i := 6) (oi := { dst := some 85, op := _, type := _, pos := _, after := _, guard := _ }) (v := ?_) rfl (by kernel_rfl) (by kernel_rfl) (by kernel_rfl) (fun _ _ _ h => h) (Or.inl ⟨by rfl, ?_⟩) (by assumption) ?_
            rotate_left
            · (intro W hSw; (try dsimp only at hSw); go_simp; try (with_reducible rfl))
            try simp only [Act.put, List.setIfInBounds_toArray, List.set_cons_zero, List.set_cons_succ]
            refine wpAnyH_take (i := 7) (oi := { dst := some 86, op := _, type := _, pos := _, after := _, guard := _ }) (v := ?_) rfl (by kernel_rfl) (by kernel_rfl) (by kernel_rfl) (fun _ _ _ h => h) (Or.inl ⟨by rfl, ?_⟩) (by assumption) ?_
            rotate_left
            · (intro W hSw; (try dsimp only at hSw); go_simp; try (with_reducible rfl))
            try simp only [Act.put, List.setIfInBounds_toArray, List.set_cons_zero, List.set_cons_succ]
            refine wpAnyH_take (i := 8) (oi := { dst := some 87, op := _, type := _, pos := _, after := _, guard := _ }) (v := ?_) rfl (by kernel_rfl) (by kernel_rfl) (by kernel_rfl) (fun _ _ _ h => h) (Or.inl ⟨by rfl, ?_⟩) (by assumption) ?_
            rotate_left
            · (intro W hSw; (try dsimp only at hSw); go_simp; try (with_reducible rfl))
            try simp only [Act.put, List.setIfInBounds_toArray, List.set_cons_zero, List.set_cons_succ]
            refine wpAnyH_take (i := 9) (oi := { dst := some 88, op := _, type := _, pos := _, after := _, guard := _ }) (v := ?_) rfl (by kernel_rfl) (by kernel_rfl) (by kernel_rfl) (fun _ _ _ h => h) (Or.inl ⟨by rfl, ?_⟩) (by assumption) ?_
            rotate_left
            · (intro W hSw; (try dsimp only at hSw); go_simp; try (with_reducible rfl))
            try simp only [Act.put, List.setIfInBounds_toArray, List.set_cons_zero, List.set_cons_succ]
            refine wpAnyH_take (i := 10) (oi := { dst := some 89, op := _, type := _, pos := _, after := _, guard := _ }) (v := ?_) rfl (by kernel_rfl) (by kernel_rfl) (by kernel_rfl) (fun _ _ _ h => h) (Or.inl ⟨by rfl, ?_⟩) (by assumption) ?_
            rotate_left
            · (intro W hSw; (try dsimp only at hSw); go_simp; try (with_reducible rfl))
            try simp only [Act.put, List.setIfInBounds_toArray, List.set_cons_zero, List.set_cons_succ]
            refine wpAnyH_take (i := 12) (oi := { dst := some 91, op := _, type := _, pos := _, after := _, guard := _ }) (v := ?_) rfl (by kernel_rfl) (by kernel_rfl) (by kernel_rfl) (fun _ _ _ h => h) (Or.inl ⟨by rfl, ?_⟩) (by assumption) ?_
            rotate_left
            · (intro W hSw; (try dsimp only at hSw); go_simp; try (with_reducible rfl))
            try simp only [Act.put, List.setIfInBounds_toArray, List.set_cons_zero, List.set_cons_succ]
            refine wpAnyH_take (i := 13) (oi := { dst := some 92, op := _, type := _, pos := _, after := _, guard := _ }) (v := ?_) rfl (by kernel_rfl) (by kernel_rfl) (by kernel_rfl) (fun _ _ _ h => h) (Or.inl ⟨by rfl, ?_⟩) (by assumption) ?_
            rotate_left
            · (intro W hSw; (try dsimp only at hSw); go_simp; try (with_reducible rfl))
            try simp only [Act.put, List.setIfInBounds_toArray, List.set_cons_zero, List.set_cons_succ]
            refine wpAnyH_ready (rs := [1, 11]) (by kernel_rfl) (by simp) ?_
            refine (AllReadyH.cons (o := { dst := some 80, op := _, type := _, pos := _, after := _, guard := _ }) rfl (fun K hK => ?_) (AllReadyH.cons (o := { dst := some 90, op := _, type := _, pos := _, after := _, guard := _ }) rfl (fun K hK => ?_) AllReadyH.nil))
            · go_simp
              refine hK.out _ _ ?_ (fun hHeld => ?_)
              · exact HKS.out _ rfl
              clear hK K
              try simp only [Act.put, List.setIfInBounds_toArray, List.set_cons_zero, List.set_cons_succ]
              refine wpAnyH_ready (rs := [11]) (by kernel_rfl) (by simp) ?_
              refine AllReadyH.cons (o := { dst := some 90, op := _, type := _, pos := _, after := _, guard := _ }) rfl (fun K hK => ?_) AllReadyH.nil
              go_simp
              refine (num_any _ _).mono ?_
              rintro e1 x1 ⟨rfl, hx1⟩
              have hx1' := hx1.symm
              subst hx1'
              clear hx1
              go_wp2_with fail
              refine hK.out _ _ ?_ (fun hHeld => ?_)
              · exact HKS.out _ rfl
              clear hK K
              try simp only [Act.put, List.setIfInBounds_toArray, List.set_cons_zero, List.set_cons_succ]
              refine wpAnyH_ready (rs := [14]) (by kernel_rfl) (by simp) ?_
              refine AllReadyH.cons (o := { dst := some 93, op := _, type := _, pos := _, after := _, guard := _ }) rfl (fun K hK => ?_) AllReadyH.nil
              go_simp
              refine (num_any _ _).mono ?_
              rintro e1 x1 ⟨rfl, hx1⟩
              have hx1' := hx1.symm
              subst hx1'
              clear hx1
              go_wp2_with fail
              refine hK.out _ _ ?_ (fun hHeld => ?_)
              · exact HKS.out _ rfl
              clear hK K
              try simp only [Act.put, List.setIfInBounds_toArray, List.set_cons_zero, List.set_cons_succ]
              refine wpAnyH_take (i := 15) (oi := { dst := some 94, op := _, type := _, pos := _, after := _, guard := _ }) (v := ?_) rfl (by kernel_rfl) (by kernel_rfl) (by kernel_rfl) (fun _ _ _ h => h) (Or.inl ⟨by rfl, ?_⟩) (by assumption) ?_
              rotate_left
              · (intro W hSw; (try dsimp only at hSw); go_simp; try (with_reducible rfl))
              try simp only [Act.put, List.setIfInBounds_toArray, List.set_cons_zero, List.set_cons_succ]
              refine wpAnyH_ready (rs := [16]) (by kernel_rfl) (by simp) ?_
              refine AllReadyH.cons (o := { dst := some 95, op := _, type := _, pos := _, after := _, guard := _ }) rfl (fun K hK => ?_) AllReadyH.nil
              go_simp
              refine hK.out _ _ ?_ (fun hHeld => ?_)
              · exact HKS.out _ (Below.heap_alloc W0 _ _ hlB)
              clear hK K
              try simp only [Act.put, List.setIfInBounds_toArray, List.set_cons_zero, List.set_cons_succ]
              refine wpAnyH_ready (rs := [17]) (by kernel_rfl) (by simp) ?_
              refine AllReadyH.cons (o := { dst := some 96, op := _, type := _, pos := _, after := _, guard := _ }) rfl (fun K hK => ?_) AllReadyH.nil
              refine step_append_own_src (by rfl) (.tmp 80) (.tmp 95) 23 23 (by rfl) O 70 _ 3 32 Tryd.underlying23 infoM (by rfl) (by decide) (.slice ma2 j mc2) j (Fm kl) (by rfl) HRW.out (.slice (some ⟨W0.heap.size, 0, none⟩) 1 1) 1 (Fm [⟨x0.extract 0 m5, nm x1, nm x2⟩]) (by rfl) HS.out (by unfold maxLen; omega) (by omega) (by rw [hsz2]; omega) ?_
              intro v6 w6 ho6 hg6
              obtain ⟨a6, c6, rfl, hq1, hq2, hq3, hq4⟩ := HEND.out v6 w6 ho6 hg6
              have HQ1 := mkH hq1
              clear hq1 ho6 hg6
              refine hK.out _ _ ?_ (fun hHeld => ?_)
              · exact HKS.out _ hq4
              clear hK K
              try simp only [Act.put, List.setIfInBounds_toArray, List.set_cons_zero, List.set_cons_succ]
              refine wpAnyH_take (i := 18) (oi := { dst := some 97, op := _, type := _, pos := _, after := _, guard := _ }) (v := ?_) rfl (by kernel_rfl) (by kernel_rfl) (by kernel_rfl) (fun _ _ _ h => h) (Or.inl ⟨by rfl, ?_⟩) (by assumption) ?_
              rotate_left
              · (intro W hSw; (try dsimp only at hSw); go_simp; try (with_reducible rfl))
              try simp only [Act.put, List.setIfInBounds_toArray, List.set_cons_zero, List.set_cons_succ]
              refine wpAnyH_ready (rs := [19]) (by kernel_rfl) (by simp) ?_
              refine AllReadyH.cons (o := { dst := none, op := _, type := _, pos := _, after := _, guard := _ }) rfl (fun K hK => ?_) AllReadyH.nil
              go_simp
              refine hK.out _ _ ?_ (fun hHeld => ?_)
              · exact HKS.out _ ((heap_setCell_other _ _ _ _ hwB).trans hq4)
              clear hK K
              try simp only [Act.put, List.setIfInBounds_toArray, List.set_cons_zero, List.set_cons_succ]
              refine wpAnyH_done (by kernel_rfl) ?_ _
              go_wp2
              go_roundw
              case rel => exact ⟨j + 1, kq, a6, c6, by omega, by omega, by go_num, by unfold Hid; rw [HMS.out, HKL.out]; show kl ++ [(⟨cutS x0 40, nm x1, nm x2⟩ : M)] = kq; rw [HC5.out]; exact HKQ.out, by omega, by have := HQ1; exact this⟩
              case measure => simp [intOf]; omega
            · go_simp
              refine (num_any _ _).mono ?_
              rintro e1 x1 ⟨rfl, hx1⟩
              have hx1' := hx1.symm
              subst hx1'
              clear hx1
              go_wp2_with fail
              refine hK.out _ _ ?_ (fun hHeld => ?_)
              · exact HKS.out _ rfl
              clear hK K
              try simp only [Act.put, List.setIfInBounds_toArray, List.set_cons_zero, List.set_cons_succ]
              refine wpAnyH_ready (rs := [1, 14]) (by kernel_rfl) (by simp) ?_
              refine (AllReadyH.cons (o := { dst := some 80, op := _, type := _, pos := _, after := _, guard := _ }) rfl (fun K hK => ?_) (AllReadyH.cons (o := { dst := some 93, op := _, type := _, pos := _, after := _, guard := _ }) rfl (fun K hK => ?_) AllReadyH.nil))
              · go_simp
                refine hK.out _ _ ?_ (fun hHeld => ?_)
                · exact HKS.out _ rfl
                clear hK K
                try simp only [Act.put, List.setIfInBounds_toArray, List.set_cons_zero, List.set_cons_succ]
                refine wpAnyH_ready (rs := [14]) (by kernel_rfl) (by simp) ?_
                refine AllReadyH.cons (o := { dst := some 93, op := _, type := _, pos := _, after := _, guard := _ }) rfl (fun K hK => ?_) AllReadyH.nil
                go_simp
                refine (num_any _ _).mono ?_
                rintro e1 x1 ⟨rfl, hx1⟩
                have hx1' := hx1.symm
                subst hx1'
                clear hx1
                go_wp2_with fail
                refine hK.out _ _ ?_ (fun hHeld => ?_)
                · exact HKS.out _ rfl
                clear hK K
                try simp only [Act.put, List.setIfInBounds_toArray, List.set_cons_zero, List.set_cons_succ]
                refine wpAnyH_take (i := 15) (oi := { dst := some 94, op := _, type := _, pos := _, after := _, guard := _ }) (v := ?_) rfl (by kernel_rfl) (by kernel_rfl) (by kernel_rfl) (fun _ _ _ h => h) (Or.inl ⟨by rfl, ?_⟩) (by assumption) ?_
                rotate_left
                · (intro W hSw; (try dsimp only at hSw); go_simp; try (with_reducible rfl))
                try simp only [Act.put, List.setIfInBounds_toArray, List.set_cons_zero, List.set_cons_succ]
                refine wpAnyH_ready (rs := [16]) (by kernel_rfl) (by simp) ?_
                refine AllReadyH.cons (o := { dst := some 95, op := _, type := _, pos := _, after := _, guard := _ }) rfl (fun K hK => ?_) AllReadyH.nil
                go_simp
                refine hK.out _ _ ?_ (fun hHeld => ?_)
                · exact HKS.out _ (Below.heap_alloc W0 _ _ hlB)
                clear hK K
                try simp only [Act.put, List.setIfInBounds_toArray, List.set_cons_zero, List.set_cons_succ]
                refine wpAnyH_ready (rs := [17]) (by kernel_rfl) (by simp) ?_
                refine AllReadyH.cons (o := { dst := some 96, op := _, type := _, pos := _, after := _, guard := _ }) rfl (fun K hK => ?_) AllReadyH.nil
                refine step_append_own_src (by rfl) (.tmp 80) (.tmp 95) 23 23 (by rfl) O 70 _ 3 32 Tryd.underlying23 infoM (by rfl) (by decide) (.slice ma2 j mc2) j (Fm kl) (by rfl) HRW.out (.slice (some ⟨W0.heap.size, 0, none⟩) 1 1) 1 (Fm [⟨x0.extract 0 m5, nm x1, nm x2⟩]) (by rfl) HS.out (by unfold maxLen; omega) (by omega) (by rw [hsz2]; omega) ?_
                intro v6 w6 ho6 hg6
                obtain ⟨a6, c6, rfl, hq1, hq2, hq3, hq4⟩ := HEND.out v6 w6 ho6 hg6
                have HQ1 := mkH hq1
                clear hq1 ho6 hg6
                refine hK.out _ _ ?_ (fun hHeld => ?_)
                · exact HKS.out _ hq4
                clear hK K
                try simp only [Act.put, List.setIfInBounds_toArray, List.set_cons_zero, List.set_cons_succ]
                refine wpAnyH_take (i := 18) (oi := { dst := some 97, op := _, type := _, pos := _, after := _, guard := _ }) (v := ?_) rfl (by kernel_rfl) (by kernel_rfl) (by kernel_rfl) (fun _ _ _ h => h) (Or.inl ⟨by rfl, ?_⟩) (by assumption) ?_
                rotate_left
                · (intro W hSw; (try dsimp only at hSw); go_simp; try (with_reducible rfl))
                try simp only [Act.put, List.setIfInBounds_toArray, List.set_cons_zero, List.set_cons_succ]
                refine wpAnyH_ready (rs := [19]) (by kernel_rfl) (by simp) ?_
                refine AllReadyH.cons (o := { dst := none, op := _, type := _, pos := _, after := _, guard := _ }) rfl (fun K hK => ?_) AllReadyH.nil
                go_simp
                refine hK.out _ _ ?_ (fun hHeld => ?_)
                · exact HKS.out _ ((heap_setCell_other _ _ _ _ hwB).trans hq4)
                clear hK K
                try simp only [Act.put, List.setIfInBounds_toArray, List.set_cons_zero, List.set_cons_succ]
                refine wpAnyH_done (by kernel_rfl) ?_ _
                go_wp2
                go_roundw
                case rel => exact ⟨j + 1, kq, a6, c6, by omega, by omega, by go_num, by unfold Hid; rw [HMS.out, HKL.out]; show kl ++ [(⟨cutS x0 40, nm x1, nm x2⟩ : M)] = kq; rw [HC5.out]; exact HKQ.out, by omega, by have := HQ1; exact this⟩
                case measure => simp [intOf]; omega
              · go_simp
                refine (num_any _ _).mono ?_
                rintro e1 x1 ⟨rfl, hx1⟩
                have hx1' := hx1.symm
                subst hx1'
                clear hx1
                go_wp2_with fail
                refine hK.out _ _ ?_ (fun hHeld => ?_)
                · exact HKS.out _ rfl
                clear hK K
                try simp only [Act.put, List.setIfInBounds_toArray, List.set_cons_zero, List.set_cons_succ]
                refine wpAnyH_take (i := 15) (oi := { dst := some 94, op := _, type := _, pos := _, after := _, guard := _ }) (v := ?_) rfl (by kernel_rfl) (by kernel_rfl) (by kernel_rfl) (fun _ _ _ h => h) (Or.inl ⟨by rfl, ?_⟩) (by assumption) ?_
                rotate_left
                · (intro W hSw; (try dsimp only at hSw); go_simp; try (with_reducible rfl))
                try simp only [Act.put, List.setIfInBounds_toArray, List.set_cons_zero, List.set_cons_succ]
                refine wpAnyH_ready (rs := [1, 16]) (by kernel_rfl) (by simp) ?_
                refine (AllReadyH.cons (o := { dst := some 80, op := _, type := _, pos := _, after := _, guard := _ }) rfl (fun K hK => ?_) (AllReadyH.cons (o := { dst := some 95, op := _, type := _, pos := _, after := _, guard := _ }) rfl (fun K hK => ?_) AllReadyH.nil))
                · go_simp
                  refine hK.out _ _ ?_ (fun hHeld => ?_)
                  · exact HKS.out _ rfl
                  clear hK K
                  try simp only [Act.put, List.setIfInBounds_toArray, List.set_cons_zero, List.set_cons_succ]
                  refine wpAnyH_ready (rs := [16]) (by kernel_rfl) (by simp) ?_
                  refine AllReadyH.cons (o := { dst := some 95, op := _, type := _, pos := _, after := _, guard := _ }) rfl (fun K hK => ?_) AllReadyH.nil
                  go_simp
                  refine hK.out _ _ ?_ (fun hHeld => ?_)
                  · exact HKS.out _ (Below.heap_alloc W0 _ _ hlB)
                  clear hK K
                  try simp only [Act.put, List.setIfInBounds_toArray, List.set_cons_zero, List.set_cons_succ]
                  refine wpAnyH_ready (rs := [17]) (by kernel_rfl) (by simp) ?_
                  refine AllReadyH.cons (o := { dst := some 96, op := _, type := _, pos := _, after := _, guard := _ }) rfl (fun K hK => ?_) AllReadyH.nil
                  refine step_append_own_src (by rfl) (.tmp 80) (.tmp 95) 23 23 (by rfl) O 70 _ 3 32 Tryd.underlying23 infoM (by rfl) (by decide) (.slice ma2 j mc2) j (Fm kl) (by rfl) HRW.out (.slice (some ⟨W0.heap.size, 0, none⟩) 1 1) 1 (Fm [⟨x0.extract 0 m5, nm x1, nm x2⟩]) (by rfl) HS.out (by unfold maxLen; omega) (by omega) (by rw [hsz2]; omega) ?_
                  intro v6 w6 ho6 hg6
                  obtain ⟨a6, c6, rfl, hq1, hq2, hq3, hq4⟩ := HEND.out v6 w6 ho6 hg6
                  have HQ1 := mkH hq1
                  clear hq1 ho6 hg6
                  refine hK.out _ _ ?_ (fun hHeld => ?_)
                  · exact HKS.out _ hq4
                  clear hK K
                  try simp only [Act.put, List.setIfInBounds_toArray, List.set_cons_zero, List.set_cons_succ]
                  refine wpAnyH_take (i := 18) (oi := { dst := some 97, op := _, type := _, pos := _, after := _, guard := _ }) (v := ?_) rfl (by kernel_rfl) (by kernel_rfl) (by kernel_rfl) (fun _ _ _ h => h) (Or.inl ⟨by rfl, ?_⟩) (by assumption) ?_
                  rotate_left
                  · (intro W hSw; (try dsimp only at hSw); go_simp; try (with_reducible rfl))
                  try simp only [Act.put, List.setIfInBounds_toArray, List.set_cons_zero, List.set_cons_succ]
                  refine wpAnyH_ready (rs := [19]) (by kernel_rfl) (by simp) ?_
                  refine AllReadyH.cons (o := { dst := none, op := _, type := _, pos := _, after := _, guard := _ }) rfl (fun K hK => ?_) AllReadyH.nil
                  go_simp
                  refine hK.out _ _ ?_ (fun hHeld => ?_)
                  · exact HKS.out _ ((heap_setCell_other _ _ _ _ hwB).trans hq4)
                  clear hK K
                  try simp only [Act.put, List.setIfInBounds_toArray, List.set_cons_zero, List.set_cons_succ]
                  refine wpAnyH_done (by kernel_rfl) ?_ _
                  go_wp2
                  go_roundw
                  case rel => exact ⟨j + 1, kq, a6, c6, by omega, by omega, by go_num, by unfold Hid; rw [HMS.out, HKL.out]; show kl ++ [(⟨cutS x0 40, nm x1, nm x2⟩ : M)] = kq; rw [HC5.out]; exact HKQ.out, by omega, by have := HQ1; exact this⟩
                  case measure => simp [intOf]; omega
                · go_simp
                  refine hK.out _ _ ?_ (fun hHeld => ?_)
                  · exact HKS.out _ (Below.heap_alloc W0 _ _ hlB)
                  clear hK K
                  try simp only [Act.put, List.setIfInBounds_toArray, List.set_cons_zero, List.set_cons_succ]
                  refine wpAnyH_ready (rs := [1]) (by kernel_rfl) (by simp) ?_
                  refine AllReadyH.cons (o := { dst := some 80, op := _, type := _, pos := _, after := _, guard := _ }) rfl (fun K hK => ?_) AllReadyH.nil
                  go_simp
                  refine hK.out _ _ ?_ (fun hHeld => ?_)
                  · exact HKS.out _ (Below.heap_alloc W0 _ _ hlB)
                  clear hK K
                  try simp only [Act.put, List.setIfInBounds_toArray, List.set_cons_zero, List.set_cons_succ]
                  refine wpAnyH_ready (rs := [17]) (by kernel_rfl) (by simp) ?_
                  refine AllReadyH.cons (o := { dst := some 96, op := _, type := _, pos := _, after := _, guard := _ }) rfl (fun K hK => ?_) AllReadyH.nil
                  refine step_append_own_src (by rfl) (.tmp 80) (.tmp 95) 23 23 (by rfl) O 70 _ 3 32 Tryd.underlying23 infoM (by rfl) (by decide) (.slice ma2 j mc2) j (Fm kl) (by rfl) HRW.out (.slice (some ⟨W0.heap.size, 0, none⟩) 1 1) 1 (Fm [⟨x0.extract 0 m5, nm x1, nm x2⟩]) (by rfl) HS.out (by unfold maxLen; omega) (by omega) (by rw [hsz2]; omega) ?_
                  intro v6 w6 ho6 hg6
                  obtain ⟨a6, c6, rfl, hq1, hq2, hq3, hq4⟩ := HEND.out v6 w6 ho6 hg6
                  have HQ1 := mkH hq1
                  clear hq1 ho6 hg6
                  refine hK.out _ _ ?_ (fun hHeld => ?_)
                  · exact HKS.out _ hq4
                  clear hK K
                  try simp only [Act.put, List.setIfInBounds_toArray, List.set_cons_zero, List.set_cons_succ]
                  refine wpAnyH_take (i := 18) (oi := { dst := some 97, op := _, type := _, pos := _, after := _, guard := _ }) (v := ?_) rfl (by kernel_rfl) (by kernel_rfl) (by kernel_rfl) (fun _ _ _ h => h) (Or.inl ⟨by rfl, ?_⟩) (by assumption) ?_
                  rotate_left
                  · (intro W hSw; (try dsimp only at hSw); go_simp; try (with_reducible rfl))
                  try simp only [Act.put, List.setIfInBounds_toArray, List.set_cons_zero, List.set_cons_succ]
                  refine wpAnyH_ready (rs := [19]) (by kernel_rfl) (by simp) ?_
                  refine AllReadyH.cons (o := { dst := none, op := _, type := _, pos := _, after := _, guard := _ }) rfl (fun K hK => ?_) AllReadyH.nil
                  go_simp
                  refine hK.out _ _ ?_ (fun hHeld => ?_)
                  · exact HKS.out _ ((heap_setCell_other _ _ _ _ hwB).trans hq4)
                  clear hK K
                  try simp only [Act.put, List.setIfInBounds_toArray, List.set_cons_zero, List.set_cons_succ]
                  refine wpAnyH_done (by kernel_rfl) ?_ _
                  go_wp2
                  go_roundw
                  case rel => exact ⟨j + 1, kq, a6, c6, by omega, by omega, by go_num, by unfold Hid; rw [HMS.out, HKL.out]; show kl ++ [(⟨cutS x0 40, nm x1, nm x2⟩ : M)] = kq; rw [HC5.out]; exact HKQ.out, by omega, by have := HQ1; exact this⟩
                  case measure => simp [intOf]; omega
          · obtain rfl : j = 50 := by omega
            have jz : ((50 : Nat) : Int) < (mk.length : Int) := by omega
            have HFN : Hid (Fw w wr w.heap.size R O O (nm nx) (at'.extract 0 m3) g0 kfin ((mk.take 50).map fewM) ka2 kc2 ma2 mc2) := by have := HW.out; rw [← HKL.out] at this; exact this
            rw [← HKL.out] at hkl
            obtain ⟨mfin, hmf⟩ : ∃ l, (mk.take 50).map fewM = l := ⟨_, rfl⟩
            rw [hmf] at HFN
            obtain ⟨e0, e1, e2, e3, f0, f1, f2, f3⟩ := HFN.out.o.four
            obtain ⟨y0, y1, y2, y3, v0, v1, v2, v3⟩ := HFN.out.r.four
            have nOR : ¬ O = R := o2
            have nRO : ¬ R = O := fun e => o2 e.symm
            have HMF := mkH hmf
            clear HW hmf
            go_wp2
            obtain ⟨hR8, hF8⟩ := HFN.out.r.sAll (v0 := .int .i64 (nm nx)) (v1 := .slice ka2 kfin.length kc2) (v2 := .slice ma2 mfin.length mc2) (v3 := .string (at'.extract 0 m3))
            generalize (((wr.setCell ⟨R, 0, none⟩ (.int .i64 (nm nx))).setCell ⟨R, 1, none⟩ (.slice ka2 kfin.length kc2)).setCell ⟨R, 2, none⟩ (.slice ma2 mfin.length mc2)).setCell ⟨R, 3, none⟩ (.string (at'.extract 0 m3)) = w8 at *
            have hfg : fewG ⟨nx, kp, mk, at'⟩ = ⟨nm nx, kfin, mfin, at'.extract 0 m3⟩ := by unfold fewG; rw [HC3.out, ← HMF.out, ← HKF.out]
            rw [hfg]
            refine bodyPost_ret (res_c rfl _ _ _ rfl (loadG hR8)) rfl ⟨ka2, kc2, ma2, mc2, rfl, ⟨?_, ?_⟩, ?_⟩
            · exact own_mono (own_fr HFN.out.k hF8 (fun k hk hk2 => own_ne HFN.out.k HFN.out.r hk (by decide) hk2)) o1
            · exact own_mono (own_fr HFN.out.m hF8 (fun k hk hk2 => own_ne HFN.out.m HFN.out.r hk (by decide) hk2)) o1
            · exact below_fr HFN.out.bl hF8 (by intro k hk; omega) (Nat.le_refl _)
        · obtain rfl : j = mk.length := by omega
          have HFN : Hid (Fw w wr w.heap.size R O O (nm nx) (at'.extract 0 m3) g0 kfin ((mk.take 50).map fewM) ka2 kc2 ma2 mc2) := by have := HW.out; rw [← HKL.out, List.take_length] at this; rw [List.take_of_length_le (by omega)]; exact this
          obtain ⟨mfin, hmf⟩ : ∃ l, (mk.take 50).map fewM = l := ⟨_, rfl⟩
          rw [hmf] at HFN
          obtain ⟨e0, e1, e2, e3, f0, f1, f2, f3⟩ := HFN.out.o.four
          obtain ⟨y0, y1, y2, y3, v0, v1, v2, v3⟩ := HFN.out.r.four
          have nOR : ¬ O = R := o2
          have nRO : ¬ R = O := fun e => o2 e.symm
          have HMF := mkH hmf
          clear HW hmf
          go_wp2
          obtain ⟨hR8, hF8⟩ := HFN.out.r.sAll (v0 := .int .i64 (nm nx)) (v1 := .slice ka2 kfin.length kc2) (v2 := .slice ma2 mfin.length mc2) (v3 := .string (at'.extract 0 m3))
          generalize (((wr.setCell ⟨R, 0, none⟩ (.int .i64 (nm nx))).setCell ⟨R, 1, none⟩ (.slice ka2 kfin.length kc2)).setCell ⟨R, 2, none⟩ (.slice ma2 mfin.length mc2)).setCell ⟨R, 3, none⟩ (.string (at'.extract 0 m3)) = w8 at *
          have hfg : fewG ⟨nx, kp, mk, at'⟩ = ⟨nm nx, kfin, mfin, at'.extract 0 m3⟩ := by unfold fewG; rw [HC3.out, ← HMF.out, ← HKF.out]
          rw [hfg]
          refine bodyPost_ret (res_c rfl _ _ _ rfl (loadG hR8)) rfl ⟨ka2, kc2, ma2, mc2, rfl, ⟨?_, ?_⟩, ?_⟩
          · exact own_mono (own_fr HFN.out.k hF8 (fun k hk hk2 => own_ne HFN.out.k HFN.out.r hk (by decide) hk2)) o1
          · exact own_mono (own_fr HFN.out.m hF8 (fun k hk hk2 => own_ne HFN.out.m HFN.out.r hk (by decide) hk2)) o1
          · exact below_fr HFN.out.bl hF8 (by intro k hk; omega) (Nat.le_refl _)
end Go.Proofs.YtcpmaddleleblaaDoor.Gn
