/-
  The document's writer: number, text, putReceipt.
-/
import Derived.Test.YtjboldahmndkeaaRefT
import Derived.Test.YtjboldahmndkeaaWiX
import Derived.Test.YtjboldahmndkeaaWiF
namespace Go.Proofs.Ytjboldahmndkeaa.Wz
open Go.RowKit Kt Pl Wi Wk Wf Wx Rf
open At (RowT okT)
open Wv (SR)
set_option linter.unusedVariables false
set_option linter.unusedSimpArgs false
set_option maxRecDepth 20000

/-- Nothing old has turned. -/
def Bl (w w' : World) : Prop := Below w.heap.size w w'
theorem Bl.trans {a b c : World} (h : Bl a b) (k : Bl b c) : Bl a c := Below.trans h (Below.mono k h.size)
/-- These bytes, wherever they lie. -/
def RV (bs : Bs) (v : Value) (w : World) : Prop := ∃ ao cap, v = .slice ao bs.length cap ∧ Row w ao bs
theorem RV.bl {bs : Bs} {v : Value} {w w' : World} (h : RV bs v w) (hb : Bl w w') : RV bs v w' := by obtain ⟨ao, cap, e, hr⟩ := h; exact ⟨ao, cap, e, hr.below hb⟩
theorem RV.none (w : World) : RV [] (.slice none 0 0) w := ⟨_, _, rfl, Row.nil _ _⟩
theorem RV.own {w : World} {base e n : Nat} {v : Value} {bs : Bs} (h : w.ownsRow base e 1 v n (U bs)) : RV bs v w := by
  obtain ⟨ao, cap, rfl⟩ := own_form h
  obtain ⟨e1, -, hr⟩ := Row.own h
  exact ⟨ao, cap, by rw [e1], hr⟩
theorem Bx.bl {w w' : World} {b : Nat} {cs : Array Value} {t : TypeId} (h : Bx w b cs t) (hg : Bl w w') : Bx w' b cs t := h.below hg h.lt

set_option maxHeartbeats 400000 in
theorem number_any (w : World) (v : Value) (bs : Bs) (n : Int) (hv : RV bs v w) (hl : bs.length ≤ 1000000000) (hn : 0 ≤ n ∧ n ≤ 1099511627776) :
    Calls Try.prog 28 #[v, .int .i64 n] w fun e w' => ∃ v', e = .returned v' ∧ RV (bs ++ encN n) v' w' ∧ Bl w w' := by
  obtain ⟨ao, cap, rfl, hr⟩ := hv
  obtain ⟨m, rfl⟩ : ∃ m : Nat, n = (m : Int) := ⟨n.toNat, by omega⟩
  have H := refNum_ok w ao cap m bs hr hl (by omega)
  clear hr hn
  go_enter Try.func28, Try.ntmps28
  go_wp2_with fail
  refine H.mono ?_
  rintro e w1 ⟨v1, rfl, hown, hb⟩
  have HO := mkH (RV.own hown)
  have HB := mkH hb
  clear hown hb H
  go_wp2
  go_ret
  exact ⟨_, rfl, HO.out, HB.out⟩

set_option maxHeartbeats 400000 in
theorem text_any (w : World) (v : Value) (bs s : Bs) (hv : RV bs v w) (hl : bs.length ≤ 1000000000) (hn : s.length ≤ 4096) :
    Calls Try.prog 29 #[v, .string (S s)] w fun e w' => ∃ v', e = .returned v' ∧ RV (bs ++ encText s) v' w' ∧ Bl w w' := by
  obtain ⟨ao, cap, rfl, hr⟩ := hv
  have H := refText_ok w ao cap s bs hr hl hn
  clear hr hn
  go_enter Try.func29, Try.ntmps29
  go_wp2_with fail
  refine H.mono ?_
  rintro e w1 ⟨v1, rfl, hown, hb⟩
  have HO := mkH (RV.own hown)
  have HB := mkH hb
  clear hown hb H
  go_wp2
  go_ret
  exact ⟨_, rfl, HO.out, HB.out⟩

def S0 (w0 : World) (b : Nat) (C : Array Value) (t : TypeId) (w : World) : Prop := Bx w b C t ∧ Bl w0 w
theorem S0.bl {w0 : World} {b : Nat} {C : Array Value} {t : TypeId} {w w' : World} (h : S0 w0 b C t w) (k : Bl w w') : S0 w0 b C t w' := ⟨Bx.bl h.1 k, h.2.trans k⟩

def dstQ : Nat → Nat := (fun i => if i = 0 then 5 else if i = 3 then 8 else if i = 6 then 11 else if i = 9 then 14 else if i = 12 then 17 else if i = 13 then 4 else 0)
def consQ : Nat → Nat := (fun i => if i = 0 then 3 else if i = 3 then 6 else if i = 6 then 9 else if i = 9 then 12 else if i = 12 then 13 else 999)
def depsQ : Nat → List Nat := (fun i => if i = 3 then [0] else if i = 6 then [3] else if i = 9 then [6] else if i = 12 then [9] else if i = 13 then [12] else [])
def FQ (bs : Bs) (r : Rcp) : Nat → Value → World → Prop := fun i v w => if i = 0 then RV (bs) v w else if i = 3 then RV (bs ++ encN r.q) v w else if i = 6 then RV (bs ++ encN r.q ++ encText r.g) v w else if i = 9 then RV (bs ++ encN r.q ++ encText r.g ++ encN r.s) v w else if i = 12 then RV (bs ++ encN r.q ++ encText r.g ++ encN r.s ++ encN r.c) v w else if i = 13 then RV (bs ++ encN r.q ++ encText r.g ++ encN r.s ++ encN r.c) v w else True

theorem rcp_len {r : Rcp} (h : rcB r = true) (hg : r.g.length ≤ 4096) : (encN r.q).length ≤ 9 ∧ (encN r.s).length ≤ 9 ∧ (encN r.c).length ≤ 9 ∧ (encText r.g).length ≤ 4105 ∧ (encRcp r).length ≤ 4140 := by
  simp only [rcB, Bool.and_eq_true] at h
  have a1 := num_ok h.1
  have a2 := num_ok h.2.1
  have a3 := num_ok h.2.2
  have b1 : (encN r.q).length ≤ 9 := enc_len9 (by omega)
  have b2 : (encN r.s).length ≤ 9 := enc_len9 (by omega)
  have b3 : (encN r.c).length ≤ 9 := enc_len9 (by omega)
  have b4 := enc_len9 (n := r.g.length) (by omega)
  have b5 : (encText r.g).length ≤ 4105 := by unfold encText; rw [List.length_append]; omega
  refine ⟨b1, b2, b3, b5, ?_⟩
  simp only [encRcp, List.length_append]
  omega

set_option maxHeartbeats 4000000 in
theorem putReceipt_any (w : World) (v : Value) (bs : Bs) (r : Rcp) (hv : RV bs v w) (hl : bs.length ≤ 900000000) (hr : rcB r = true) (hg : r.g.length ≤ 4096) :
    Calls Try.prog 30 #[v, .agg (Rv r)] w fun e w' => ∃ v', e = .returned v' ∧ RV (bs ++ encRcp r) v' w' ∧ Bl w w' := by
  have k0 : (Rv r)[0]? = some (.int .i64 r.q) := rfl
  have k1 : (Rv r)[1]? = some (.string (S r.g)) := rfl
  have k2 : (Rv r)[2]? = some (.int .i64 r.s) := rfl
  have k3 : (Rv r)[3]? = some (.int .i64 r.c) := rfl
  obtain ⟨l1, l2, l3, l4, -⟩ := rcp_len hr hg
  simp only [rcB, Bool.and_eq_true] at hr
  obtain ⟨n1, n2, n3⟩ := hr
  have n1 := num_ok n1
  have n2 := num_ok n2
  have n3 := num_ok n3
  obtain ⟨W0, hW0⟩ : ∃ W0, W0 = w.alloc (.cells (Rv r) 23) := ⟨_, rfl⟩
  have hG0 : Bl w W0 := hW0 ▸ ((Gr.refl w).alloc _).below
  have HS0 : Hid (S0 W0 w.heap.size (Rv r) 23 W0.drew) := mkH ⟨(hW0 ▸ Bx.new w (Rv r) _).gr ((Gr.refl _).drew), (Below.refl _ _).drew⟩
  have HV0 := mkH ((hv.bl hG0).bl ((Gr.refl W0).drew).below)
  have HG0 := mkH hG0
  generalize Rv r = C at *
  go_enter Try.func30, Try.ntmps30
  go_wp2_with fail
  rw [← hW0]
  clear hG0 hW0 hv
  generalize hBq : w.heap.size = B at HS0 ⊢
  clear hBq
  have HSB : Hid (∀ w w', S0 W0 B C 23 w → Bl w w' → S0 W0 B C 23 w') := mkH (fun _ _ h k => h.bl k)
  refine wp_region_held_drew (S := fun W => S0 W0 B C 23 W) (by kernel_rfl) HS0.out (fun hHeld => ?_)
  have hq : ∀ W, S0 W0 B C 23 W → ∀ k, W.cell? ⟨B, k, none⟩ = C[k]? := fun W h => h.1.cell
  clear HS0
  refine wpAnyH_take (i := 0) (oi := { dst := some 5, op := _, type := _, pos := _, after := _, guard := _ }) (v := ?_) rfl (by kernel_rfl) (by kernel_rfl) (by kernel_rfl) (fun _ _ _ h => h) (Or.inl ⟨by rfl, ?_⟩) (by assumption) ?_
  rotate_left
  · (intro W hSw; (try dsimp only at hSw); go_simp; try (with_reducible rfl))
  try simp only [Act.put, List.setIfInBounds_toArray, List.set_cons_zero, List.set_cons_succ]
  refine wpAnyH_take (i := 1) (oi := { dst := some 6, op := _, type := _, pos := _, after := _, guard := _ }) (v := ?_) rfl (by kernel_rfl) (by kernel_rfl) (by kernel_rfl) (fun _ _ _ h => h) (Or.inl ⟨by rfl, ?_⟩) (by assumption) ?_
  rotate_left
  · (intro W hSw; (try dsimp only at hSw); go_simp; try (with_reducible rfl))
  try simp only [Act.put, List.setIfInBounds_toArray, List.set_cons_zero, List.set_cons_succ]
  refine wpAnyH_take (i := 2) (oi := { dst := some 7, op := _, type := _, pos := _, after := _, guard := _ }) (v := ?_) rfl (by kernel_rfl) (by kernel_rfl) (by kernel_rfl) (fun _ _ _ h => h) (Or.inl ⟨by rfl, ?_⟩) (by assumption) ?_
  rotate_left
  · (intro W hSw; (try dsimp only at hSw); go_simp; try (with_reducible rfl))
  try simp only [Act.put, List.setIfInBounds_toArray, List.set_cons_zero, List.set_cons_succ]
  refine wpAnyH_take (i := 4) (oi := { dst := some 9, op := _, type := _, pos := _, after := _, guard := _ }) (v := ?_) rfl (by kernel_rfl) (by kernel_rfl) (by kernel_rfl) (fun _ _ _ h => h) (Or.inl ⟨by rfl, ?_⟩) (by assumption) ?_
  rotate_left
  · (intro W hSw; (try dsimp only at hSw); go_simp; try (with_reducible rfl))
  try simp only [Act.put, List.setIfInBounds_toArray, List.set_cons_zero, List.set_cons_succ]
  refine wpAnyH_take (i := 5) (oi := { dst := some 10, op := _, type := _, pos := _, after := _, guard := _ }) (v := ?_) rfl (by kernel_rfl) (by kernel_rfl) (by kernel_rfl) (fun _ _ _ h => h) (Or.inl ⟨by rfl, ?_⟩) (by assumption) ?_
  rotate_left
  · (intro W hSw; (try dsimp only at hSw); go_simp; try (with_reducible rfl))
  try simp only [Act.put, List.setIfInBounds_toArray, List.set_cons_zero, List.set_cons_succ]
  refine wpAnyH_take (i := 7) (oi := { dst := some 12, op := _, type := _, pos := _, after := _, guard := _ }) (v := ?_) rfl (by kernel_rfl) (by kernel_rfl) (by kernel_rfl) (fun _ _ _ h => h) (Or.inl ⟨by rfl, ?_⟩) (by assumption) ?_
  rotate_left
  · (intro W hSw; (try dsimp only at hSw); go_simp; try (with_reducible rfl))
  try simp only [Act.put, List.setIfInBounds_toArray, List.set_cons_zero, List.set_cons_succ]
  refine wpAnyH_take (i := 8) (oi := { dst := some 13, op := _, type := _, pos := _, after := _, guard := _ }) (v := ?_) rfl (by kernel_rfl) (by kernel_rfl) (by kernel_rfl) (fun _ _ _ h => h) (Or.inl ⟨by rfl, ?_⟩) (by assumption) ?_
  rotate_left
  · (intro W hSw; (try dsimp only at hSw); go_simp; try (with_reducible rfl))
  try simp only [Act.put, List.setIfInBounds_toArray, List.set_cons_zero, List.set_cons_succ]
  refine wpAnyH_take (i := 10) (oi := { dst := some 15, op := _, type := _, pos := _, after := _, guard := _ }) (v := ?_) rfl (by kernel_rfl) (by kernel_rfl) (by kernel_rfl) (fun _ _ _ h => h) (Or.inl ⟨by rfl, ?_⟩) (by assumption) ?_
  rotate_left
  · (intro W hSw; (try dsimp only at hSw); go_simp; try (with_reducible rfl))
  try simp only [Act.put, List.setIfInBounds_toArray, List.set_cons_zero, List.set_cons_succ]
  refine wpAnyH_take (i := 11) (oi := { dst := some 16, op := _, type := _, pos := _, after := _, guard := _ }) (v := ?_) rfl (by kernel_rfl) (by kernel_rfl) (by kernel_rfl) (fun _ _ _ h => h) (Or.inl ⟨by rfl, ?_⟩) (by assumption) ?_
  rotate_left
  · (intro W hSw; (try dsimp only at hSw); go_simp; try (with_reducible rfl))
  try simp only [Act.put, List.setIfInBounds_toArray, List.set_cons_zero, List.set_cons_succ]
  refine wpAnyH_lin [0, 3, 6, 9, 12, 13] dstQ consQ depsQ (fun _ => false) [0] (FQ bs r) Bl Bl (by decide) (by kernel_rfl) ?s0 ?s1 ?step ?fin ?hpre (by decide) hHeld (by decide) rfl
  case s0 =>
    intro i hi v w w' h hg
    simp only [List.mem_cons, List.not_mem_nil, or_false] at hi
    rcases hi with rfl | rfl | rfl | rfl | rfl | rfl
    all_goals exact RV.bl h hg
  case s1 =>
    intro i hi hw v w w' h hg
    simp only [List.mem_cons, List.not_mem_nil, or_false] at hi
    rcases hi with rfl | rfl | rfl | rfl | rfl | rfl
    all_goals exact RV.bl h hg
  case hpre =>
    intro i hi
    obtain rfl := List.mem_singleton.1 hi
    exact HV0.out
  case step =>
    intro i hi hip x w hS hF
    simp only [List.mem_cons, List.not_mem_nil, or_false] at hi
    rcases hi with rfl | rfl | rfl | rfl | rfl | rfl
    · exact absurd (by decide) hip
    · have hv1 : RV (bs) (x 0) w := hF 0 (by decide)
      refine op_call rfl rfl (f := 28) (args := #[x 0, .int .i64 r.q]) ?_ ?_
      · simp only [puts, dstQ, Act.put, List.setIfInBounds_toArray, reduceIte, Nat.reduceEqDiff, List.set_cons_zero, List.set_cons_succ]
        go_simp
        try rfl
      · refine (number_any w (x 0) (bs) r.q hv1 (by (try simp only [List.length_append, List.length_nil]); omega) n1).mono ?_
        rintro e w' ⟨v', rfl, hv', hb'⟩
        exact ⟨v', rfl, _, rfl, HSB.out _ _ hS hb', hv', hb'⟩
    · have hv1 : RV (bs ++ encN r.q) (x 3) w := hF 3 (by decide)
      refine op_call rfl rfl (f := 29) (args := #[x 3, .string (S r.g)]) ?_ ?_
      · simp only [puts, dstQ, Act.put, List.setIfInBounds_toArray, reduceIte, Nat.reduceEqDiff, List.set_cons_zero, List.set_cons_succ]
        go_simp
        try rfl
      · refine (text_any w (x 3) (bs ++ encN r.q) r.g hv1 (by (try simp only [List.length_append, List.length_nil]); omega) hg).mono ?_
        rintro e w' ⟨v', rfl, hv', hb'⟩
        exact ⟨v', rfl, _, rfl, HSB.out _ _ hS hb', hv', hb'⟩
    · have hv1 : RV (bs ++ encN r.q ++ encText r.g) (x 6) w := hF 6 (by decide)
      refine op_call rfl rfl (f := 28) (args := #[x 6, .int .i64 r.s]) ?_ ?_
      · simp only [puts, dstQ, Act.put, List.setIfInBounds_toArray, reduceIte, Nat.reduceEqDiff, List.set_cons_zero, List.set_cons_succ]
        go_simp
        try rfl
      · refine (number_any w (x 6) (bs ++ encN r.q ++ encText r.g) r.s hv1 (by (try simp only [List.length_append, List.length_nil]); omega) n2).mono ?_
        rintro e w' ⟨v', rfl, hv', hb'⟩
        exact ⟨v', rfl, _, rfl, HSB.out _ _ hS hb', hv', hb'⟩
    · have hv1 : RV (bs ++ encN r.q ++ encText r.g ++ encN r.s) (x 9) w := hF 9 (by decide)
      refine op_call rfl rfl (f := 28) (args := #[x 9, .int .i64 r.c]) ?_ ?_
      · simp only [puts, dstQ, Act.put, List.setIfInBounds_toArray, reduceIte, Nat.reduceEqDiff, List.set_cons_zero, List.set_cons_succ]
        go_simp
        try rfl
      · refine (number_any w (x 9) (bs ++ encN r.q ++ encText r.g ++ encN r.s) r.c hv1 (by (try simp only [List.length_append, List.length_nil]); omega) n3).mono ?_
        rintro e w' ⟨v', rfl, hv', hb'⟩
        exact ⟨v', rfl, _, rfl, HSB.out _ _ hS hb', hv', hb'⟩
    · have hv1 : RV (bs ++ encN r.q ++ encText r.g ++ encN r.s ++ encN r.c) (x 12) w := hF 12 (by decide)
      refine op_value rfl rfl (v := x 12) (w' := w) ?_ ⟨_, rfl, hS, hv1, Below.refl _ w⟩
      simp only [puts, dstQ, Act.put, List.setIfInBounds_toArray, reduceIte, Nat.reduceEqDiff, List.set_cons_zero, List.set_cons_succ]
      go_simp
  case fin =>
    intro x w2 hS hF
    have hv1 : RV (bs ++ encN r.q ++ encText r.g ++ encN r.s ++ encN r.c) (x 13) w2 := hF 13 (by decide) (by decide)
    have HV1 := mkH hv1
    have HS1 := mkH hS
    clear hv1 hF hS hq hHeld HV0
    simp only [puts, dstQ, Act.put, List.setIfInBounds_toArray, reduceIte, Nat.reduceEqDiff, List.set_cons_zero, List.set_cons_succ]
    go_wp2
    go_ret
    refine ⟨x 13, rfl, ?_, HG0.out.trans HS1.out.2⟩
    have := HV1.out
    simp only [List.append_assoc] at this
    exact this
end Go.Proofs.Ytjboldahmndkeaa.Wz
