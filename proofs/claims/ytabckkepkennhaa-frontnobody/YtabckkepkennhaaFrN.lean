/-
  Who serves the step's entry.
-/
import Derived.Test.YtabckkepkennhaaFrL
import Derived.Test.YtabckkepkennhaaFrG
import Derived.Test.YtabckkepkennhaaPlO
namespace Go.Proofs.Ytabckkepkennhaa.Fn
open Go.RowKit Kt Gf Gk Fp Fa Fb Fc Fe Fl
open Nr (RowS)
open Cr (RdP)
open Cp (Pc ofL)
set_option linter.unusedVariables false
set_option linter.unusedSimpArgs false
set_option maxRecDepth 20000

section
variable {P : Program} {w : World} {ops : Array Oper} {rest : List Oper} {o : Oper} {a : Act} {Q : Exit → Act → World → Prop}
/-- A struct's part. -/
theorem wpList_fd (hgd : o.guard = none) {ty : TypeId} {x : Operand} {i : Nat} (ho : o.op = .field ty x i) {v : Value} (hr : (execOp a.eval o).run P w = .ok (.value v) w)
    (hk : wpList P ops Q rest (a.put o.dst v) w) : wpList P ops Q (o :: rest) a w := by
  refine wpList_plain hgd fun _ hK => ?_
  unfold Oper.wp
  rw [hr]
  exact hK _ _ hk
end
/-- The name that tells the place. -/
def nmE (k : Int) (x : En) : ByteArray := if k = 3 ∨ k = 4 then x.rg else x.g
def plE (k : Int) (x : En) : Int := ((Po.ofP (nmE k x).data.toList : Nat) : Int)
set_option maxHeartbeats 2000000 in
theorem server_any {w : World} {B m : Nat} {a : As} {s : Ks} (h : Bx w B (Xc (kl s) a (.map (some m))) 57) {ao ra po : Option Addr} {cap rn rc pc : Nat} {es : List En} {ps : List Pc} (he : s.ent = .slice ao es.length cap) (hr : s.reps = .slice ra rn rc) (hpc : s.pcs = .slice po ps.length pc) (hrow : RowS 7 cE w ao es) (hps : RdP w po pc ps) {x : En} (hx : es[rn]? = some x) (hl : es.length ≤ 1000000000) (hpl : ps.length ≤ 100000)
    (hz : x.g.size ≤ 9223372036854775807 ∧ x.rg.size ≤ 9223372036854775807) :
    Calls Try.prog 50 #[.pointer (some ⟨B, 0, none⟩)] w fun e w' => e = .returned (.int .i64 (ofL ps (plE s.kind x))) ∧ Below w.heap.size w w' := by
  have hmx : Try.prog.follows .mixedOrders = true := by kernel_rfl
  have H := mkH h
  have HE := mkH (fun W (hb : Below w.heap.size w W) => entry_any (h.bel hb) he hr (hrow.below hb) hx hl)
  have HP := mkH (fun W (s : ByteArray) (hs : s.size ≤ 9223372036854775807) => Po.of_any W s hs)
  have HOF := mkH (fun W (hb : Below w.heap.size w W) (p : Int) => Fg.of_any W s.ep po pc ps (hps.below hb) hpl p)
  have HZ := mkH hz
  have HK : Hid (∀ W, Below w.heap.size w W → W.cell? ⟨B, 27, none⟩ = some (.int .i64 s.kind) ∧ W.cell? ⟨B, 36, none⟩ = some (.int .i64 s.ep) ∧ W.cell? ⟨B, 37, none⟩ = some (.slice po ps.length pc)) := mkH (fun W hb => ⟨(h.bel hb).cell 27 _ rfl, (h.bel hb).cell 36 _ rfl, ((h.bel hb).cell 37 _ rfl).trans (congrArg some hpc)⟩)
  clear h hrow hps hz
  by_cases hk3 : s.kind = 3
  · have HN : Hid (nmE s.kind x = x.rg) := mkH (by unfold nmE; rw [if_pos (.inl hk3)])
    have hkk := hk3
    have HK3 : Hid (∀ W, Below w.heap.size w W → W.cell? ⟨B, 27, none⟩ = some (.int .i64 3)) := mkH (fun W hb => by rw [← hkk]; exact (HK.out W hb).1)
    clear hk3 hkk
    go_enter Try.func50, Try.ntmps50
    go_wp2_with (first
      | (refine (HE.out w (Below.refl _ _)).mono ?_; rintro e w1 ⟨rfl, hb1⟩; have HB1 := mkH hb1; have c27 := HK3.out w1 hb1; clear hb1)
      | (refine (HE.out w1 HB1.out).mono ?_; rintro e w4 ⟨rfl, hb4⟩; have HB4 := mkH (HB1.out.trans (hb4.mono HB1.out.size)); obtain ⟨-, c36, c37⟩ := HK.out w4 HB4.out; clear hb4)
      | (refine wpList_fd rfl (ty := 92) (x := .tmp 5) (i := 0) rfl (v := .string x.g) (by kernel_rfl) ?_)
      | (refine wpList_fd rfl (ty := 92) (x := .tmp 22) (i := 3) rfl (v := .agg #[.int .i64 x.rq, .string x.rg, .int .i64 x.rs, .int .i64 x.rc]) (by kernel_rfl) ?_)
      | (refine wpList_fd rfl (ty := 27) (x := .tmp 23) (i := 1) rfl (v := .string x.rg) (by kernel_rfl) ?_))
    clear HB1 c27
    have HB1 := HB4
    have HPL := mkH (fun W => HP.out W x.rg HZ.out.2)
    refine wp_region_held_drew (S := fun W => W.cell? ⟨B, 36, none⟩ = some (.int .i64 s.ep) ∧ W.cell? ⟨B, 37, none⟩ = some (.slice po ps.length pc)) hmx ⟨c36, c37⟩ (fun hHeld => ?_)
    have HBD := mkH HB1.out.drew
    generalize w4.drew = V2 at *
    refine wpAnyH_take (i := 0) (oi := { dst := some 25, op := _, type := _, pos := _, after := _, guard := _ }) (v := ?_) rfl (by kernel_rfl) (by kernel_rfl) (by kernel_rfl) (fun _ _ _ h => h) (Or.inl ⟨by rfl, ?_⟩) (by assumption) ?_
    rotate_left
    · (intro W hSw; (try dsimp only at hSw); go_simp; try (with_reducible rfl))
    try simp only [Act.put, List.setIfInBounds_toArray, List.set_cons_zero, List.set_cons_succ]
    refine wpAnyH_take (i := 1) (oi := { dst := some 26, op := _, type := _, pos := _, after := _, guard := _ }) (v := ?_) rfl (by kernel_rfl) (by kernel_rfl) (by kernel_rfl) (fun _ _ _ h => h) (Or.inl ⟨by rfl, ?_⟩) (by assumption) ?_
    rotate_left
    · (intro W hSw; (try dsimp only at hSw); go_simp; try (with_reducible rfl))
    try simp only [Act.put, List.setIfInBounds_toArray, List.set_cons_zero, List.set_cons_succ]
    refine wpAnyH_take (i := 2) (oi := { dst := some 27, op := _, type := _, pos := _, after := _, guard := _ }) (v := ?_) rfl (by kernel_rfl) (by kernel_rfl) (by kernel_rfl) (fun _ _ _ h => h) (Or.inl ⟨by rfl, ?_⟩) (by assumption) ?_
    rotate_left
    · (intro W hSw; (try dsimp only at hSw); go_simp; try (with_reducible rfl))
    try simp only [Act.put, List.setIfInBounds_toArray, List.set_cons_zero, List.set_cons_succ]
    refine wpAnyH_take (i := 3) (oi := { dst := some 28, op := _, type := _, pos := _, after := _, guard := _ }) (v := .agg #[.int .i64 s.ep, .slice po ps.length pc]) rfl (by kernel_rfl) (by kernel_rfl) (by kernel_rfl) (fun _ _ _ h => h) (Or.inl ⟨by rfl, ?_⟩) (by assumption) ?_
    · (intro W hSw; (try dsimp only at hSw); (obtain ⟨s0, s1⟩ := hSw; go_simp))
    try simp only [Act.put, List.setIfInBounds_toArray, List.set_cons_zero, List.set_cons_succ]
    refine wpAnyH_take (i := 4) (oi := { dst := some 29, op := _, type := _, pos := _, after := _, guard := _ }) (v := ?_) rfl (by kernel_rfl) (by kernel_rfl) (by kernel_rfl) (fun _ _ _ h => h) (Or.inl ⟨by rfl, ?_⟩) (by assumption) ?_
    rotate_left
    · (intro W hSw; (try dsimp only at hSw); go_simp; try (with_reducible rfl))
    try simp only [Act.put, List.setIfInBounds_toArray, List.set_cons_zero, List.set_cons_succ]
    refine wpAnyH_ready (rs := [5]) (by kernel_rfl) (by simp) ?_
    refine (AllReadyH.cons (o := { dst := some 30, op := _, type := _, pos := _, after := _, guard := _ }) rfl (fun K hK => ?_) AllReadyH.nil)
    go_simp
    refine (HPL.out _).mono ?_
    rintro e2 w2 ⟨rfl, rfl⟩
    go_wp2_with fail
    refine hK.out _ _ ?_ (fun hHeld => ?_)
    · exact hHeld
    clear hK K
    try simp only [Act.put, List.setIfInBounds_toArray, List.set_cons_zero, List.set_cons_succ]
    refine wpAnyH_ready (rs := [6]) (by kernel_rfl) (by simp) ?_
    refine (AllReadyH.cons (o := { dst := some 31, op := _, type := _, pos := _, after := _, guard := _ }) rfl (fun K hK => ?_) AllReadyH.nil)
    go_simp
    refine (HOF.out _ HBD.out _).mono ?_
    rintro e3 w3 ⟨rfl, hb3⟩
    have HB3 := mkH (HBD.out.trans (hb3.mono HBD.out.size))
    clear hb3
    go_wp2_with fail
    refine hK.out _ _ ?_ (fun hHeld => ?_)
    · exact ⟨(HK.out _ HB3.out).2.1, (HK.out _ HB3.out).2.2⟩
    clear hK K
    try simp only [Act.put, List.setIfInBounds_toArray, List.set_cons_zero, List.set_cons_succ]
    refine wpAnyH_take (i := 7) (oi := { dst := some 2, op := _, type := _, pos := _, after := _, guard := _ }) (v := ?_) rfl (by kernel_rfl) (by kernel_rfl) (by kernel_rfl) (fun _ _ _ h => h) (Or.inl ⟨by rfl, ?_⟩) (by assumption) ?_
    rotate_left
    · (intro W hSw; (try dsimp only at hSw); go_simp; try (with_reducible rfl))
    try simp only [Act.put, List.setIfInBounds_toArray, List.set_cons_zero, List.set_cons_succ]
    refine wpAnyH_done (by kernel_rfl) ?_ _
    all_goals
      go_wp2
      go_ret
      exact ⟨(show Ending.returned (.int .i64 (ofL ps ((Po.ofP x.rg.data.toList : Nat) : Int))) = Ending.returned (.int .i64 (ofL ps (plE s.kind x))) from by unfold plE; rw [HN.out]), HB3.out⟩
  · by_cases hk4 : s.kind = 4
    · have HN : Hid (nmE s.kind x = x.rg) := mkH (by unfold nmE; rw [if_pos (.inr hk4)])
      have hkk := hk4
      have HK3 : Hid (∀ W, Below w.heap.size w W → W.cell? ⟨B, 27, none⟩ = some (.int .i64 4)) := mkH (fun W hb => by rw [← hkk]; exact (HK.out W hb).1)
      clear hk3 hk4 hkk
      go_enter Try.func50, Try.ntmps50
      go_wp2_with (first
        | (refine (HE.out w (Below.refl _ _)).mono ?_; rintro e w1 ⟨rfl, hb1⟩; have HB1 := mkH hb1; have c27 := HK3.out w1 hb1; clear hb1)
        | (refine (HE.out w1 HB1.out).mono ?_; rintro e w4 ⟨rfl, hb4⟩; have HB4 := mkH (HB1.out.trans (hb4.mono HB1.out.size)); obtain ⟨-, c36, c37⟩ := HK.out w4 HB4.out; clear hb4)
        | (refine wpList_fd rfl (ty := 92) (x := .tmp 5) (i := 0) rfl (v := .string x.g) (by kernel_rfl) ?_)
        | (refine wpList_fd rfl (ty := 92) (x := .tmp 22) (i := 3) rfl (v := .agg #[.int .i64 x.rq, .string x.rg, .int .i64 x.rs, .int .i64 x.rc]) (by kernel_rfl) ?_)
        | (refine wpList_fd rfl (ty := 27) (x := .tmp 23) (i := 1) rfl (v := .string x.rg) (by kernel_rfl) ?_))
      clear HB1 c27
      have HB1 := HB4
      have HPL := mkH (fun W => HP.out W x.rg HZ.out.2)
      refine wp_region_held_drew (S := fun W => W.cell? ⟨B, 36, none⟩ = some (.int .i64 s.ep) ∧ W.cell? ⟨B, 37, none⟩ = some (.slice po ps.length pc)) hmx ⟨c36, c37⟩ (fun hHeld => ?_)
      have HBD := mkH HB1.out.drew
      generalize w4.drew = V2 at *
      refine wpAnyH_take (i := 0) (oi := { dst := some 25, op := _, type := _, pos := _, after := _, guard := _ }) (v := ?_) rfl (by kernel_rfl) (by kernel_rfl) (by kernel_rfl) (fun _ _ _ h => h) (Or.inl ⟨by rfl, ?_⟩) (by assumption) ?_
      rotate_left
      · (intro W hSw; (try dsimp only at hSw); go_simp; try (with_reducible rfl))
      try simp only [Act.put, List.setIfInBounds_toArray, List.set_cons_zero, List.set_cons_succ]
      refine wpAnyH_take (i := 1) (oi := { dst := some 26, op := _, type := _, pos := _, after := _, guard := _ }) (v := ?_) rfl (by kernel_rfl) (by kernel_rfl) (by kernel_rfl) (fun _ _ _ h => h) (Or.inl ⟨by rfl, ?_⟩) (by assumption) ?_
      rotate_left
      · (intro W hSw; (try dsimp only at hSw); go_simp; try (with_reducible rfl))
      try simp only [Act.put, List.setIfInBounds_toArray, List.set_cons_zero, List.set_cons_succ]
      refine wpAnyH_take (i := 2) (oi := { dst := some 27, op := _, type := _, pos := _, after := _, guard := _ }) (v := ?_) rfl (by kernel_rfl) (by kernel_rfl) (by kernel_rfl) (fun _ _ _ h => h) (Or.inl ⟨by rfl, ?_⟩) (by assumption) ?_
      rotate_left
      · (intro W hSw; (try dsimp only at hSw); go_simp; try (with_reducible rfl))
      try simp only [Act.put, List.setIfInBounds_toArray, List.set_cons_zero, List.set_cons_succ]
      refine wpAnyH_take (i := 3) (oi := { dst := some 28, op := _, type := _, pos := _, after := _, guard := _ }) (v := .agg #[.int .i64 s.ep, .slice po ps.length pc]) rfl (by kernel_rfl) (by kernel_rfl) (by kernel_rfl) (fun _ _ _ h => h) (Or.inl ⟨by rfl, ?_⟩) (by assumption) ?_
      · (intro W hSw; (try dsimp only at hSw); (obtain ⟨s0, s1⟩ := hSw; go_simp))
      try simp only [Act.put, List.setIfInBounds_toArray, List.set_cons_zero, List.set_cons_succ]
      refine wpAnyH_take (i := 4) (oi := { dst := some 29, op := _, type := _, pos := _, after := _, guard := _ }) (v := ?_) rfl (by kernel_rfl) (by kernel_rfl) (by kernel_rfl) (fun _ _ _ h => h) (Or.inl ⟨by rfl, ?_⟩) (by assumption) ?_
      rotate_left
      · (intro W hSw; (try dsimp only at hSw); go_simp; try (with_reducible rfl))
      try simp only [Act.put, List.setIfInBounds_toArray, List.set_cons_zero, List.set_cons_succ]
      refine wpAnyH_ready (rs := [5]) (by kernel_rfl) (by simp) ?_
      refine (AllReadyH.cons (o := { dst := some 30, op := _, type := _, pos := _, after := _, guard := _ }) rfl (fun K hK => ?_) AllReadyH.nil)
      go_simp
      refine (HPL.out _).mono ?_
      rintro e2 w2 ⟨rfl, rfl⟩
      go_wp2_with fail
      refine hK.out _ _ ?_ (fun hHeld => ?_)
      · exact hHeld
      clear hK K
      try simp only [Act.put, List.setIfInBounds_toArray, List.set_cons_zero, List.set_cons_succ]
      refine wpAnyH_ready (rs := [6]) (by kernel_rfl) (by simp) ?_
      refine (AllReadyH.cons (o := { dst := some 31, op := _, type := _, pos := _, after := _, guard := _ }) rfl (fun K hK => ?_) AllReadyH.nil)
      go_simp
      refine (HOF.out _ HBD.out _).mono ?_
      rintro e3 w3 ⟨rfl, hb3⟩
      have HB3 := mkH (HBD.out.trans (hb3.mono HBD.out.size))
      clear hb3
      go_wp2_with fail
      refine hK.out _ _ ?_ (fun hHeld => ?_)
      · exact ⟨(HK.out _ HB3.out).2.1, (HK.out _ HB3.out).2.2⟩
      clear hK K
      try simp only [Act.put, List.setIfInBounds_toArray, List.set_cons_zero, List.set_cons_succ]
      refine wpAnyH_take (i := 7) (oi := { dst := some 2, op := _, type := _, pos := _, after := _, guard := _ }) (v := ?_) rfl (by kernel_rfl) (by kernel_rfl) (by kernel_rfl) (fun _ _ _ h => h) (Or.inl ⟨by rfl, ?_⟩) (by assumption) ?_
      rotate_left
      · (intro W hSw; (try dsimp only at hSw); go_simp; try (with_reducible rfl))
      try simp only [Act.put, List.setIfInBounds_toArray, List.set_cons_zero, List.set_cons_succ]
      refine wpAnyH_done (by kernel_rfl) ?_ _
      all_goals
        go_wp2
        go_ret
        exact ⟨(show Ending.returned (.int .i64 (ofL ps ((Po.ofP x.rg.data.toList : Nat) : Int))) = Ending.returned (.int .i64 (ofL ps (plE s.kind x))) from by unfold plE; rw [HN.out]), HB3.out⟩
    · have hb3 : (s.kind == 3) = false := by simpa using hk3
      have hb4 : (s.kind == 4) = false := by simpa using hk4
      have HN : Hid (nmE s.kind x = x.g) := mkH (by unfold nmE; rw [if_neg (fun hh => hh.elim hk3 hk4)])
      clear hk3 hk4
      go_enter Try.func50, Try.ntmps50
      go_wp2_with (first
        | (refine (HE.out w (Below.refl _ _)).mono ?_; rintro e w1 ⟨rfl, hb1⟩; have HB1 := mkH hb1; obtain ⟨c27, c36, c37⟩ := HK.out w1 hb1; clear hb1)
        | (refine wpList_fd rfl (ty := 92) (x := .tmp 5) (i := 0) rfl (v := .string x.g) (by kernel_rfl) ?_))
      have HPL := mkH (fun W => HP.out W x.g HZ.out.1)
      refine wp_region_held_drew (S := fun W => W.cell? ⟨B, 36, none⟩ = some (.int .i64 s.ep) ∧ W.cell? ⟨B, 37, none⟩ = some (.slice po ps.length pc)) hmx ⟨c36, c37⟩ (fun hHeld => ?_)
      have HBD := mkH HB1.out.drew
      generalize w1.drew = V2 at *
      refine wpAnyH_take (i := 0) (oi := { dst := some 25, op := _, type := _, pos := _, after := _, guard := _ }) (v := ?_) rfl (by kernel_rfl) (by kernel_rfl) (by kernel_rfl) (fun _ _ _ h => h) (Or.inl ⟨by rfl, ?_⟩) (by assumption) ?_
      rotate_left
      · (intro W hSw; (try dsimp only at hSw); go_simp; try (with_reducible rfl))
      try simp only [Act.put, List.setIfInBounds_toArray, List.set_cons_zero, List.set_cons_succ]
      refine wpAnyH_take (i := 1) (oi := { dst := some 26, op := _, type := _, pos := _, after := _, guard := _ }) (v := ?_) rfl (by kernel_rfl) (by kernel_rfl) (by kernel_rfl) (fun _ _ _ h => h) (Or.inl ⟨by rfl, ?_⟩) (by assumption) ?_
      rotate_left
      · (intro W hSw; (try dsimp only at hSw); go_simp; try (with_reducible rfl))
      try simp only [Act.put, List.setIfInBounds_toArray, List.set_cons_zero, List.set_cons_succ]
      refine wpAnyH_take (i := 2) (oi := { dst := some 27, op := _, type := _, pos := _, after := _, guard := _ }) (v := ?_) rfl (by kernel_rfl) (by kernel_rfl) (by kernel_rfl) (fun _ _ _ h => h) (Or.inl ⟨by rfl, ?_⟩) (by assumption) ?_
      rotate_left
      · (intro W hSw; (try dsimp only at hSw); go_simp; try (with_reducible rfl))
      try simp only [Act.put, List.setIfInBounds_toArray, List.set_cons_zero, List.set_cons_succ]
      refine wpAnyH_take (i := 3) (oi := { dst := some 28, op := _, type := _, pos := _, after := _, guard := _ }) (v := .agg #[.int .i64 s.ep, .slice po ps.length pc]) rfl (by kernel_rfl) (by kernel_rfl) (by kernel_rfl) (fun _ _ _ h => h) (Or.inl ⟨by rfl, ?_⟩) (by assumption) ?_
      · (intro W hSw; (try dsimp only at hSw); (obtain ⟨s0, s1⟩ := hSw; go_simp))
      try simp only [Act.put, List.setIfInBounds_toArray, List.set_cons_zero, List.set_cons_succ]
      refine wpAnyH_take (i := 4) (oi := { dst := some 29, op := _, type := _, pos := _, after := _, guard := _ }) (v := ?_) rfl (by kernel_rfl) (by kernel_rfl) (by kernel_rfl) (fun _ _ _ h => h) (Or.inl ⟨by rfl, ?_⟩) (by assumption) ?_
      rotate_left
      · (intro W hSw; (try dsimp only at hSw); go_simp; try (with_reducible rfl))
      try simp only [Act.put, List.setIfInBounds_toArray, List.set_cons_zero, List.set_cons_succ]
      refine wpAnyH_ready (rs := [5]) (by kernel_rfl) (by simp) ?_
      refine (AllReadyH.cons (o := { dst := some 30, op := _, type := _, pos := _, after := _, guard := _ }) rfl (fun K hK => ?_) AllReadyH.nil)
      go_simp
      refine (HPL.out _).mono ?_
      rintro e2 w2 ⟨rfl, rfl⟩
      go_wp2_with fail
      refine hK.out _ _ ?_ (fun hHeld => ?_)
      · exact hHeld
      clear hK K
      try simp only [Act.put, List.setIfInBounds_toArray, List.set_cons_zero, List.set_cons_succ]
      refine wpAnyH_ready (rs := [6]) (by kernel_rfl) (by simp) ?_
      refine (AllReadyH.cons (o := { dst := some 31, op := _, type := _, pos := _, after := _, guard := _ }) rfl (fun K hK => ?_) AllReadyH.nil)
      go_simp
      refine (HOF.out _ HBD.out _).mono ?_
      rintro e3 w3 ⟨rfl, hb3⟩
      have HB3 := mkH (HBD.out.trans (hb3.mono HBD.out.size))
      clear hb3
      go_wp2_with fail
      refine hK.out _ _ ?_ (fun hHeld => ?_)
      · exact ⟨(HK.out _ HB3.out).2.1, (HK.out _ HB3.out).2.2⟩
      clear hK K
      try simp only [Act.put, List.setIfInBounds_toArray, List.set_cons_zero, List.set_cons_succ]
      refine wpAnyH_take (i := 7) (oi := { dst := some 2, op := _, type := _, pos := _, after := _, guard := _ }) (v := ?_) rfl (by kernel_rfl) (by kernel_rfl) (by kernel_rfl) (fun _ _ _ h => h) (Or.inl ⟨by rfl, ?_⟩) (by assumption) ?_
      rotate_left
      · (intro W hSw; (try dsimp only at hSw); go_simp; try (with_reducible rfl))
      try simp only [Act.put, List.setIfInBounds_toArray, List.set_cons_zero, List.set_cons_succ]
      refine wpAnyH_done (by kernel_rfl) ?_ _
      all_goals
        go_wp2
        go_ret
        exact ⟨(show Ending.returned (.int .i64 (ofL ps ((Po.ofP x.g.data.toList : Nat) : Int))) = Ending.returned (.int .i64 (ofL ps (plE s.kind x))) from by unfold plE; rw [HN.out]), HB3.out⟩
end Go.Proofs.Ytabckkepkennhaa.Fn
