/-
  The document's Reply.
-/
import Derived.Test.YtjboldahmndkeaaWiRC
import Derived.Test.YtjboldahmndkeaaWiGR
import Derived.Test.YtjboldahmndkeaaWiV2
namespace Go.Proofs.Ytjboldahmndkeaa.Wrr
open Go.RowKit Kt Pl Wi Wk Wc We Wf Wx Wz Rf Wa Wgr
open Wrc (refTexts_any_rv encN_len)
open Wv (rp_parts rp_lens rp_bytes gt_ok rg_len flat_take1 flat_le)
open At (RowT okT)
open Wy (wpList_ld)
set_option linter.unusedVariables false
set_option linter.unusedSimpArgs false
set_option maxRecDepth 20000

def dstSA : Nat → Nat := (fun i => if i = 2 then 15 else if i = 5 then 18 else if i = 8 then 21 else if i = 12 then 25 else if i = 13 then 5 else 0)
def consSA : Nat → Nat := (fun i => if i = 2 then 5 else if i = 5 then 8 else if i = 8 then 12 else if i = 12 then 13 else 999)
def depsSA : Nat → List Nat := (fun i => if i = 5 then [2] else if i = 8 then [5] else if i = 12 then [8] else if i = 13 then [12] else [])
def FSA (r : Rp) : Nat → Value → World → Prop := fun i v w => if i = 2 then RV (([] : Bs) ++ encN r.err) v w else if i = 5 then RV (([] : Bs) ++ encN r.err ++ encN r.seq) v w else if i = 8 then RV (([] : Bs) ++ encN r.err ++ encN r.seq ++ encN r.n) v w else if i = 12 then RV (([] : Bs) ++ encN r.err ++ encN r.seq ++ encN r.n ++ encN (r.got.length : Int)) v w else if i = 13 then RV (([] : Bs) ++ encN r.err ++ encN r.seq ++ encN r.n ++ encN (r.got.length : Int)) v w else True
def dstSB : Nat → Nat := (fun i => if i = 0 then 33 else if i = 7 then 40 else if i = 14 then 47 else if i = 21 then 54 else if i = 22 then 5 else 0)
def consSB : Nat → Nat := (fun i => if i = 0 then 7 else if i = 7 then 14 else if i = 14 then 21 else if i = 21 then 22 else 999)
def depsSB : Nat → List Nat := (fun i => if i = 7 then [0] else if i = 14 then [7] else if i = 21 then [14] else if i = 22 then [21] else [])
def FSB (P : Bs) (g : Gt) : Nat → Value → World → Prop := fun i v w => if i = 0 then RV (P) v w else if i = 7 then RV (P ++ encRcp g.rc) v w else if i = 14 then RV (P ++ encRcp g.rc ++ encText g.body) v w else if i = 21 then RV (P ++ encRcp g.rc ++ encText g.body ++ encN g.sent) v w else if i = 22 then RV (P ++ encRcp g.rc ++ encText g.body ++ encN g.sent) v w else True
def dstSD : Nat → Nat := (fun i => if i = 0 then 74 else if i = 7 then 81 else if i = 14 then 88 else if i = 15 then 5 else 0)
def consSD : Nat → Nat := (fun i => if i = 0 then 7 else if i = 7 then 14 else if i = 14 then 15 else 999)
def depsSD : Nat → List Nat := (fun i => if i = 7 then [0] else if i = 14 then [7] else if i = 15 then [14] else [])
def FSD (P : Bs) (xx : Int × Int) : Nat → Value → World → Prop := fun i v w => if i = 0 then RV (P) v w else if i = 7 then RV (P ++ encN xx.1) v w else if i = 14 then RV (P ++ encN xx.1 ++ encN xx.2) v w else if i = 15 then RV (P ++ encN xx.1 ++ encN xx.2) v w else True

theorem rp_nums {r : Rp} (h : checkR r = 0) : (0 ≤ r.err ∧ r.err ≤ 1099511627776) ∧ (0 ≤ r.seq ∧ r.seq ≤ 1099511627776) ∧ (0 ≤ r.n ∧ r.n ≤ 1099511627776) := by
  obtain ⟨hr, hs⟩ := judge_ok h
  simp only [rightR, Bool.and_eq_true, decide_eq_true_eq, List.all_eq_true, upToB] at hr
  obtain ⟨r0, ⟨r1, r2⟩, r3, r4⟩ := hr
  have r1 := num_ok r1; have r2 := num_ok r2
  exact ⟨by omega, r1, r2⟩
theorem gt_num {g : Gt} (h : rightG g = true) : 0 ≤ g.sent ∧ g.sent ≤ 1099511627776 := by
  simp only [rightG, Bool.and_eq_true] at h; exact num_ok h.2

set_option maxHeartbeats 16000000 in
theorem rreply_ok (w : World) (r : Rp) (ga : Option Addr) (gc : Nat) (da : Option Addr) (dc : Nat) (ra : Option Addr) (rc : Nat) (hm : RpM w r ga da ra) (hc : Cnt r) (hck : checkR r = 0) :
    Calls Try.prog 16 #[.agg (Pv r ga gc da dc ra rc)] w fun e w' => ∃ v, e = .returned (.tuple #[v, .int .i64 0]) ∧ RV (encRp r) v w' ∧ Bl w w' := by
  have H1 := rcheckReply_any (w.alloc (.cells (Pv r ga gc da dc ra rc) 43)) r ga gc da dc ra rc (RpM.gr hm ((Gr.refl w).alloc _)) hc
  rw [hck] at H1
  obtain ⟨q1, q2, q3, q4⟩ := rp_parts hck
  obtain ⟨l1, l2, l3, l4⟩ := rp_lens hck
  obtain ⟨z1, z2, z3⟩ := rp_nums hck
  have z4 : 0 ≤ (r.got.length : Int) ∧ (r.got.length : Int) ≤ 1099511627776 := by omega
  have z5 : 0 ≤ (r.about.length : Int) ∧ (r.about.length : Int) ≤ 1099511627776 := by omega
  have y1 := encN_len z1; have y2 := encN_len z2; have y3 := encN_len z3; have y4 := encN_len z4; have y5 := encN_len z5
  have HB := mkH (Bx.new w (Pv r ga gc da dc ra rc) 43)
  have HG := mkH ((Gr.refl w).alloc (.cells (Pv r ga gc da dc ra rc) 43))
  have HL := mkH (load_pv HB.out)
  obtain ⟨k0, k1, k2, k3, k4, k5⟩ := Pv_at r ga gc da dc ra rc
  generalize (Pv r ga gc da dc ra rc) = C at *
  go_enter Try.func16, Try.ntmps16
  go_wp2_with (refine wpList_ld (ty := 43) (x := .tmp 1) rfl rfl rfl HL.out ?_)
  refine H1.mono ?_
  rintro e w1 ⟨rfl, hg1⟩
  have HB1 := mkH (HB.out.gr hg1)
  have HG1 : Hid (Bl w w1) := mkH (HG.out.trans hg1).below
  have HRw := mkH hm
  clear H1 HB HG HL hg1 hm
  go_wp2_with fail
  have HS0 : Hid (S0 w1 w.heap.size C 43 w1.drew) := mkH ⟨HB1.out.gr ((Gr.refl _).drew), (Below.refl _ _).drew⟩
  have HR0 : Hid (∀ W, Bl w1 W → RpM W r ga da ra) := mkH (fun W h => HRw.out.below (HG1.out.trans h))
  clear HRw HB1
  generalize hBq : w.heap.size = B at HS0 ⊢
  clear hBq
  have HSB : Hid (∀ w w', S0 w1 B C 43 w → Bl w w' → S0 w1 B C 43 w') := mkH (fun _ _ h k => h.bl k)
  have hq : ∀ W, S0 w1 B C 43 W → ∀ k, W.cell? ⟨B, k, none⟩ = C[k]? := fun W h => h.1.cell
  refine wp_region_held_drew (S := fun W => S0 w1 B C 43 W) (by kernel_rfl) HS0.out (fun hHeld => ?_)
  clear HS0
  refine wpAnyH_take (i := 0) (oi := { dst := some 13, op := _, type := _, pos := _, after := _, guard := _ }) (v := ?_) rfl (by kernel_rfl) (by kernel_rfl) (by kernel_rfl) (fun _ _ _ h => h) (Or.inl ⟨by rfl, ?_⟩) (by assumption) ?_
  rotate_left
  · (intro W hSw; (try dsimp only at hSw); go_simp; try (with_reducible rfl))
  try simp only [Act.put, List.setIfInBounds_toArray, List.set_cons_zero, List.set_cons_succ]
  refine wpAnyH_take (i := 1) (oi := { dst := some 14, op := _, type := _, pos := _, after := _, guard := _ }) (v := ?_) rfl (by kernel_rfl) (by kernel_rfl) (by kernel_rfl) (fun _ _ _ h => h) (Or.inl ⟨by rfl, ?_⟩) (by assumption) ?_
  rotate_left
  · (intro W hSw; (try dsimp only at hSw); go_simp; try (with_reducible rfl))
  try simp only [Act.put, List.setIfInBounds_toArray, List.set_cons_zero, List.set_cons_succ]
  refine wpAnyH_take (i := 3) (oi := { dst := some 16, op := _, type := _, pos := _, after := _, guard := _ }) (v := ?_) rfl (by kernel_rfl) (by kernel_rfl) (by kernel_rfl) (fun _ _ _ h => h) (Or.inl ⟨by rfl, ?_⟩) (by assumption) ?_
  rotate_left
  · (intro W hSw; (try dsimp only at hSw); go_simp; try (with_reducible rfl))
  try simp only [Act.put, List.setIfInBounds_toArray, List.set_cons_zero, List.set_cons_succ]
  refine wpAnyH_take (i := 4) (oi := { dst := some 17, op := _, type := _, pos := _, after := _, guard := _ }) (v := ?_) rfl (by kernel_rfl) (by kernel_rfl) (by kernel_rfl) (fun _ _ _ h => h) (Or.inl ⟨by rfl, ?_⟩) (by assumption) ?_
  rotate_left
  · (intro W hSw; (try dsimp only at hSw); go_simp; try (with_reducible rfl))
  try simp only [Act.put, List.setIfInBounds_toArray, List.set_cons_zero, List.set_cons_succ]
  refine wpAnyH_take (i := 6) (oi := { dst := some 19, op := _, type := _, pos := _, after := _, guard := _ }) (v := ?_) rfl (by kernel_rfl) (by kernel_rfl) (by kernel_rfl) (fun _ _ _ h => h) (Or.inl ⟨by rfl, ?_⟩) (by assumption) ?_
  rotate_left
  · (intro W hSw; (try dsimp only at hSw); go_simp; try (with_reducible rfl))
  try simp only [Act.put, List.setIfInBounds_toArray, List.set_cons_zero, List.set_cons_succ]
  refine wpAnyH_take (i := 7) (oi := { dst := some 20, op := _, type := _, pos := _, after := _, guard := _ }) (v := ?_) rfl (by kernel_rfl) (by kernel_rfl) (by kernel_rfl) (fun _ _ _ h => h) (Or.inl ⟨by rfl, ?_⟩) (by assumption) ?_
  rotate_left
  · (intro W hSw; (try dsimp only at hSw); go_simp; try (with_reducible rfl))
  try simp only [Act.put, List.setIfInBounds_toArray, List.set_cons_zero, List.set_cons_succ]
  refine wpAnyH_take (i := 9) (oi := { dst := some 22, op := _, type := _, pos := _, after := _, guard := _ }) (v := ?_) rfl (by kernel_rfl) (by kernel_rfl) (by kernel_rfl) (fun _ _ _ h => h) (Or.inl ⟨by rfl, ?_⟩) (by assumption) ?_
  rotate_left
  · (intro W hSw; (try dsimp only at hSw); go_simp; try (with_reducible rfl))
  try simp only [Act.put, List.setIfInBounds_toArray, List.set_cons_zero, List.set_cons_succ]
  refine wpAnyH_take (i := 10) (oi := { dst := some 23, op := _, type := _, pos := _, after := _, guard := _ }) (v := ?_) rfl (by kernel_rfl) (by kernel_rfl) (by kernel_rfl) (fun _ _ _ h => h) (Or.inl ⟨by rfl, ?_⟩) (by assumption) ?_
  rotate_left
  · (intro W hSw; (try dsimp only at hSw); go_simp; try (with_reducible rfl))
  try simp only [Act.put, List.setIfInBounds_toArray, List.set_cons_zero, List.set_cons_succ]
  refine wpAnyH_take (i := 11) (oi := { dst := some 24, op := _, type := _, pos := _, after := _, guard := _ }) (v := ?_) rfl (by kernel_rfl) (by kernel_rfl) (by kernel_rfl) (fun _ _ _ h => h) (Or.inl ⟨by rfl, ?_⟩) (by assumption) ?_
  rotate_left
  · (intro W hSw; (try dsimp only at hSw); go_simp; try (with_reducible rfl))
  try simp only [Act.put, List.setIfInBounds_toArray, List.set_cons_zero, List.set_cons_succ]
  refine wpAnyH_lin [2, 5, 8, 12, 13] dstSA consSA depsSA (fun _ => false) [] (FSA r) Bl Bl (by decide) (by kernel_rfl) ?s0 ?s1 ?step ?fin ?hpre (by decide) hHeld (by decide) rfl
  case s0 =>
    intro i hi v w w' h hg
    simp only [List.mem_cons, List.not_mem_nil, or_false] at hi
    rcases hi with rfl | rfl | rfl | rfl | rfl
    all_goals exact RV.bl h hg
  case s1 =>
    intro i hi hw v w w' h hg
    simp only [List.mem_cons, List.not_mem_nil, or_false] at hi
    rcases hi with rfl | rfl | rfl | rfl | rfl
    all_goals exact RV.bl h hg
  case hpre =>
    intro i hi
    cases hi
  case step =>
    intro i hi hip x w hS hF
    simp only [List.mem_cons, List.not_mem_nil, or_false] at hi
    rcases hi with rfl | rfl | rfl | rfl | rfl
    · have hv1 : RV (([] : Bs)) (.slice none 0 0) w := RV.none w
      refine op_call rfl rfl (f := 28) (args := #[.slice none 0 0, .int .i64 r.err]) ?_ ?_
      · simp only [puts, dstSA, Act.put, List.setIfInBounds_toArray, reduceIte, Nat.reduceEqDiff, List.set_cons_zero, List.set_cons_succ]
        go_simp
        try rfl
      · refine (number_any w (.slice none 0 0) (([] : Bs)) r.err hv1 (by (try simp only [List.length_append, List.length_nil]); omega) z1).mono ?_
        rintro e w' ⟨v', rfl, hv', hb'⟩
        exact ⟨v', rfl, _, rfl, HSB.out _ _ hS hb', hv', hb'⟩
    · have hv1 : RV (([] : Bs) ++ encN r.err) (x 2) w := hF 2 (by decide)
      refine op_call rfl rfl (f := 28) (args := #[x 2, .int .i64 r.seq]) ?_ ?_
      · simp only [puts, dstSA, Act.put, List.setIfInBounds_toArray, reduceIte, Nat.reduceEqDiff, List.set_cons_zero, List.set_cons_succ]
        go_simp
        try rfl
      · refine (number_any w (x 2) (([] : Bs) ++ encN r.err) r.seq hv1 (by (try simp only [List.length_append, List.length_nil]); omega) z2).mono ?_
        rintro e w' ⟨v', rfl, hv', hb'⟩
        exact ⟨v', rfl, _, rfl, HSB.out _ _ hS hb', hv', hb'⟩
    · have hv1 : RV (([] : Bs) ++ encN r.err ++ encN r.seq) (x 5) w := hF 5 (by decide)
      refine op_call rfl rfl (f := 28) (args := #[x 5, .int .i64 r.n]) ?_ ?_
      · simp only [puts, dstSA, Act.put, List.setIfInBounds_toArray, reduceIte, Nat.reduceEqDiff, List.set_cons_zero, List.set_cons_succ]
        go_simp
        try rfl
      · refine (number_any w (x 5) (([] : Bs) ++ encN r.err ++ encN r.seq) r.n hv1 (by (try simp only [List.length_append, List.length_nil]); omega) z3).mono ?_
        rintro e w' ⟨v', rfl, hv', hb'⟩
        exact ⟨v', rfl, _, rfl, HSB.out _ _ hS hb', hv', hb'⟩
    · have hv1 : RV (([] : Bs) ++ encN r.err ++ encN r.seq ++ encN r.n) (x 8) w := hF 8 (by decide)
      refine op_call rfl rfl (f := 28) (args := #[x 8, .int .i64 (r.got.length : Int)]) ?_ ?_
      · simp only [puts, dstSA, Act.put, List.setIfInBounds_toArray, reduceIte, Nat.reduceEqDiff, List.set_cons_zero, List.set_cons_succ]
        go_simp
        try rfl
      · refine (number_any w (x 8) (([] : Bs) ++ encN r.err ++ encN r.seq ++ encN r.n) (r.got.length : Int) hv1 (by (try simp only [List.length_append, List.length_nil]); omega) z4).mono ?_
        rintro e w' ⟨v', rfl, hv', hb'⟩
        exact ⟨v', rfl, _, rfl, HSB.out _ _ hS hb', hv', hb'⟩
    · have hv1 : RV (([] : Bs) ++ encN r.err ++ encN r.seq ++ encN r.n ++ encN (r.got.length : Int)) (x 12) w := hF 12 (by decide)
      refine op_value rfl rfl (v := x 12) (w' := w) ?_ ⟨_, rfl, hS, hv1, Below.refl _ w⟩
      simp only [puts, dstSA, Act.put, List.setIfInBounds_toArray, reduceIte, Nat.reduceEqDiff, List.set_cons_zero, List.set_cons_succ]
      go_simp
  case fin =>
    intro x2 w2 hS hF
    have hv1 : RV (([] : Bs) ++ encN r.err ++ encN r.seq ++ encN r.n ++ encN (r.got.length : Int)) (x2 13) w2 := hF 13 (by decide) (by decide)
    have HV1 := mkH hv1
    have HS1 := mkH hS
    clear hv1 hF hS hHeld
    simp only [puts, dstSA, Act.put, List.setIfInBounds_toArray, reduceIte, Nat.reduceEqDiff, List.set_cons_zero, List.set_cons_succ]
    generalize x2 13 = qv2 at *
    go_wp2
    go_loopw [5, 6] (fun v i wr => ∃ k : Nat, k ≤ r.got.length ∧ i = .int .i64 k ∧ Hid (RV (([] : Bs) ++ encN r.err ++ encN r.seq ++ encN r.n ++ encN (r.got.length : Int) ++ (r.got.take k).flatMap encGt) v wr) ∧ Hid (S0 w1 B C 43 wr)) (fun _ i _ => r.got.length - (intOf i).toNat)
    case atStart => exact ⟨0, Nat.zero_le _, rfl, mkH (by rw [List.take_zero, List.flatMap_nil, List.append_nil]; exact HV1.out), HS1⟩
    case round =>
      obtain ⟨k, hk, rfl, HVk, HSk⟩ := hrel
      have hq9 : ∀ k, wr.cell? ⟨B, k, none⟩ = C[k]? := HSk.out.1.cell
      have hlk : ((r.got.take k).flatMap encGt).length ≤ 10000 * 1024 := by
        have h1 := flat_le encGt 10000 (r.got.take k) (fun x hx => (gt_ok (q2.2 x (List.mem_of_mem_take hx)).1 (q2.2 x (List.mem_of_mem_take hx)).2).2.2.2.2.2)
        have h2 : (r.got.take k).length ≤ 1024 := by rw [List.length_take]; omega
        omega
      by_cases hlt : k < r.got.length
      · obtain ⟨b, off, hao, hcl⟩ := (HR0.out wr HSk.out.2).got (by omega)
        obtain ⟨g, hx⟩ := some_of hlt
        obtain ⟨hrc, hrg, hgb, -, hl5, hl6⟩ := gt_ok (q2.2 g (List.mem_of_getElem? hx)).1 (q2.2 g (List.mem_of_getElem? hx)).2
        have hgs := gt_num (q2.2 g (List.mem_of_getElem? hx)).1
        have y6 := encN_len hgs
        have y7 : (encText g.body).length ≤ 4105 := Wrc.encT_len hgb
        have HRk : Hid (∀ W, S0 w1 B C 43 W → ∀ j v, (gC g)[j]? = some v → W.cell? ⟨b, off + k * 6 + j, none⟩ = some v) := mkH (fun W h => by
          obtain ⟨b', off', e, hc⟩ := (HR0.out W h.2).got (by omega)
          rw [hao] at e; injection e with e; injection e with e1 e2; subst e1 e2
          exact hc k g hx)
        have r0 : ∀ W, S0 w1 B C 43 W → W.cell? ⟨b, off + k * 6, none⟩ = some (.int .i64 g.rc.q) := fun W h => HRk.out W h 0 _ rfl
        have r1 : ∀ W, S0 w1 B C 43 W → W.cell? ⟨b, off + k * 6 + 1, none⟩ = some (.string (S g.rc.g)) := fun W h => HRk.out W h 1 _ rfl
        have r2 : ∀ W, S0 w1 B C 43 W → W.cell? ⟨b, off + k * 6 + 2, none⟩ = some (.int .i64 g.rc.s) := fun W h => HRk.out W h 2 _ rfl
        have r3 : ∀ W, S0 w1 B C 43 W → W.cell? ⟨b, off + k * 6 + 3, none⟩ = some (.int .i64 g.rc.c) := fun W h => HRk.out W h 3 _ rfl
        have r4 : ∀ W, S0 w1 B C 43 W → W.cell? ⟨b, off + k * 6 + 4, none⟩ = some (.string (S g.body)) := fun W h => HRk.out W h 4 _ rfl
        have r5 : ∀ W, S0 w1 B C 43 W → W.cell? ⟨b, off + k * 6 + 5, none⟩ = some (.int .i64 g.sent) := fun W h => HRk.out W h 5 _ rfl
        subst hao
        have HF : Hid (([] : Bs) ++ encN r.err ++ encN r.seq ++ encN r.n ++ encN (r.got.length : Int) ++ (r.got.take (k + 1)).flatMap encGt = ([] : Bs) ++ encN r.err ++ encN r.seq ++ encN r.n ++ encN (r.got.length : Int) ++ (r.got.take k).flatMap encGt ++ encRcp g.rc ++ encText g.body ++ encN g.sent) := mkH (by rw [flat_take1 _ _ _ _ hx, ← List.append_assoc]; simp [encGt])
        clear hcl hx
        have hlP : (([] : Bs) ++ encN r.err ++ encN r.seq ++ encN r.n ++ encN (r.got.length : Int) ++ (r.got.take k).flatMap encGt).length ≤ 100000000 := by simp only [List.length_append, List.length_nil]; omega
        generalize ([] : Bs) ++ encN r.err ++ encN r.seq ++ encN r.n ++ encN (r.got.length : Int) ++ (r.got.take k).flatMap encGt = P at *
        go_wp2_with fail
        have HV0 := mkH (HVk.out.bl ((Gr.refl wr).drew).below)
        have HSd := mkH (HSB.out _ _ HSk.out ((Gr.refl wr).drew).below)
        refine wp_region_held_drew (S := fun W => S0 w1 B C 43 W) (by kernel_rfl) HSd.out (fun hHeld => ?_)
        clear HSd hq9
        refine wpAnyH_take (i := 0) (oi := { dst := some 33, op := _, type := _, pos := _, after := _, guard := _ }) (v := ?_) rfl (by kernel_rfl) (by kernel_rfl) (by kernel_rfl) (fun _ _ _ h => h) (Or.inl ⟨by rfl, ?_⟩) (by assumption) ?_
        rotate_left
        · (intro W hSw; (try dsimp only at hSw); go_simp; try (with_reducible rfl))
        try simp only [Act.put, List.setIfInBounds_toArray, List.set_cons_zero, List.set_cons_succ]
        refine wpAnyH_take (i := 1) (oi := { dst := some 34, op := _, type := _, pos := _, after := _, guard := _ }) (v := ?_) rfl (by kernel_rfl) (by kernel_rfl) (by kernel_rfl) (fun _ _ _ h => h) (Or.inl ⟨by rfl, ?_⟩) (by assumption) ?_
        rotate_left
        · (intro W hSw; (try dsimp only at hSw); go_simp; try (with_reducible rfl))
        try simp only [Act.put, List.setIfInBounds_toArray, List.set_cons_zero, List.set_cons_succ]
        refine wpAnyH_take (i := 2) (oi := { dst := some 35, op := _, type := _, pos := _, after := _, guard := _ }) (v := ?_) rfl (by kernel_rfl) (by kernel_rfl) (by kernel_rfl) (fun _ _ _ h => h) (Or.inl ⟨by rfl, ?_⟩) (by assumption) ?_
        rotate_left
        · (intro W hSw; (try dsimp only at hSw); go_simp; try (with_reducible rfl))
        try simp only [Act.put, List.setIfInBounds_toArray, List.set_cons_zero, List.set_cons_succ]
        refine wpAnyH_take (i := 3) (oi := { dst := some 36, op := _, type := _, pos := _, after := _, guard := _ }) (v := ?_) rfl (by kernel_rfl) (by kernel_rfl) (by kernel_rfl) (fun _ _ _ h => h) (Or.inl ⟨by rfl, ?_⟩) (by assumption) ?_
        rotate_left
        · (intro W hSw; (try dsimp only at hSw); go_simp; try (with_reducible rfl))
        try simp only [Act.put, List.setIfInBounds_toArray, List.set_cons_zero, List.set_cons_succ]
        refine wpAnyH_take (i := 4) (oi := { dst := some 37, op := _, type := _, pos := _, after := _, guard := _ }) (v := ?_) rfl (by kernel_rfl) (by kernel_rfl) (by kernel_rfl) (fun _ _ _ h => h) (Or.inl ⟨by rfl, ?_⟩) (by assumption) ?_
        rotate_left
        · (intro W hSw; (try dsimp only at hSw); go_simp; try (with_reducible rfl))
        try simp only [Act.put, List.setIfInBounds_toArray, List.set_cons_zero, List.set_cons_succ]
        refine wpAnyH_take (i := 5) (oi := { dst := some 38, op := _, type := _, pos := _, after := _, guard := _ }) (v := ?_) rfl (by kernel_rfl) (by kernel_rfl) (by kernel_rfl) (fun _ _ _ h => h) (Or.inl ⟨by rfl, ?_⟩) (by assumption) ?_
        rotate_left
        · (intro W hSw; (try dsimp only at hSw); go_simp; try (with_reducible rfl))
        try simp only [Act.put, List.setIfInBounds_toArray, List.set_cons_zero, List.set_cons_succ]
        refine wpAnyH_take (i := 6) (oi := { dst := some 39, op := _, type := _, pos := _, after := _, guard := _ }) (v := ?_) rfl (by kernel_rfl) (by kernel_rfl) (by kernel_rfl) (fun _ _ _ h => h) (Or.inl ⟨by rfl, ?_⟩) (by assumption) ?_
        rotate_left
        · (intro W hSw; (try dsimp only at hSw); go_simp; try (with_reducible rfl))
        try simp only [Act.put, List.setIfInBounds_toArray, List.set_cons_zero, List.set_cons_succ]
        refine wpAnyH_take (i := 8) (oi := { dst := some 41, op := _, type := _, pos := _, after := _, guard := _ }) (v := ?_) rfl (by kernel_rfl) (by kernel_rfl) (by kernel_rfl) (fun _ _ _ h => h) (Or.inl ⟨by rfl, ?_⟩) (by assumption) ?_
        rotate_left
        · (intro W hSw; (try dsimp only at hSw); go_simp; try (with_reducible rfl))
        try simp only [Act.put, List.setIfInBounds_toArray, List.set_cons_zero, List.set_cons_succ]
        refine wpAnyH_take (i := 9) (oi := { dst := some 42, op := _, type := _, pos := _, after := _, guard := _ }) (v := ?_) rfl (by kernel_rfl) (by kernel_rfl) (by kernel_rfl) (fun _ _ _ h => h) (Or.inl ⟨by rfl, ?_⟩) (by assumption) ?_
        rotate_left
        · (intro W hSw; (try dsimp only at hSw); go_simp; try (with_reducible rfl))
        try simp only [Act.put, List.setIfInBounds_toArray, List.set_cons_zero, List.set_cons_succ]
        refine wpAnyH_take (i := 10) (oi := { dst := some 43, op := _, type := _, pos := _, after := _, guard := _ }) (v := ?_) rfl (by kernel_rfl) (by kernel_rfl) (by kernel_rfl) (fun _ _ _ h => h) (Or.inl ⟨by rfl, ?_⟩) (by assumption) ?_
        rotate_left
        · (intro W hSw; (try dsimp only at hSw); go_simp; try (with_reducible rfl))
        try simp only [Act.put, List.setIfInBounds_toArray, List.set_cons_zero, List.set_cons_succ]
        refine wpAnyH_take (i := 11) (oi := { dst := some 44, op := _, type := _, pos := _, after := _, guard := _ }) (v := ?_) rfl (by kernel_rfl) (by kernel_rfl) (by kernel_rfl) (fun _ _ _ h => h) (Or.inl ⟨by rfl, ?_⟩) (by assumption) ?_
        rotate_left
        · (intro W hSw; (try dsimp only at hSw); go_simp; try (with_reducible rfl))
        try simp only [Act.put, List.setIfInBounds_toArray, List.set_cons_zero, List.set_cons_succ]
        refine wpAnyH_take (i := 12) (oi := { dst := some 45, op := _, type := _, pos := _, after := _, guard := _ }) (v := ?_) rfl (by kernel_rfl) (by kernel_rfl) (by kernel_rfl) (fun _ _ _ h => h) (Or.inl ⟨by rfl, ?_⟩) (by assumption) ?_
        rotate_left
        · (intro W hSw; (try dsimp only at hSw); go_simp; try (with_reducible rfl))
        try simp only [Act.put, List.setIfInBounds_toArray, List.set_cons_zero, List.set_cons_succ]
        refine wpAnyH_take (i := 13) (oi := { dst := some 46, op := _, type := _, pos := _, after := _, guard := _ }) (v := ?_) rfl (by kernel_rfl) (by kernel_rfl) (by kernel_rfl) (fun _ _ _ h => h) (Or.inl ⟨by rfl, ?_⟩) (by assumption) ?_
        rotate_left
        · (intro W hSw; (try dsimp only at hSw); go_simp; try (with_reducible rfl))
        try simp only [Act.put, List.setIfInBounds_toArray, List.set_cons_zero, List.set_cons_succ]
        refine wpAnyH_take (i := 15) (oi := { dst := some 48, op := _, type := _, pos := _, after := _, guard := _ }) (v := ?_) rfl (by kernel_rfl) (by kernel_rfl) (by kernel_rfl) (fun _ _ _ h => h) (Or.inl ⟨by rfl, ?_⟩) (by assumption) ?_
        rotate_left
        · (intro W hSw; (try dsimp only at hSw); go_simp; try (with_reducible rfl))
        try simp only [Act.put, List.setIfInBounds_toArray, List.set_cons_zero, List.set_cons_succ]
        refine wpAnyH_take (i := 16) (oi := { dst := some 49, op := _, type := _, pos := _, after := _, guard := _ }) (v := ?_) rfl (by kernel_rfl) (by kernel_rfl) (by kernel_rfl) (fun _ _ _ h => h) (Or.inl ⟨by rfl, ?_⟩) (by assumption) ?_
        rotate_left
        · (intro W hSw; (try dsimp only at hSw); go_simp; try (with_reducible rfl))
        try simp only [Act.put, List.setIfInBounds_toArray, List.set_cons_zero, List.set_cons_succ]
        refine wpAnyH_take (i := 17) (oi := { dst := some 50, op := _, type := _, pos := _, after := _, guard := _ }) (v := ?_) rfl (by kernel_rfl) (by kernel_rfl) (by kernel_rfl) (fun _ _ _ h => h) (Or.inl ⟨by rfl, ?_⟩) (by assumption) ?_
        rotate_left
        · (intro W hSw; (try dsimp only at hSw); go_simp; try (with_reducible rfl))
        try simp only [Act.put, List.setIfInBounds_toArray, List.set_cons_zero, List.set_cons_succ]
        refine wpAnyH_take (i := 18) (oi := { dst := some 51, op := _, type := _, pos := _, after := _, guard := _ }) (v := ?_) rfl (by kernel_rfl) (by kernel_rfl) (by kernel_rfl) (fun _ _ _ h => h) (Or.inl ⟨by rfl, ?_⟩) (by assumption) ?_
        rotate_left
        · (intro W hSw; (try dsimp only at hSw); go_simp; try (with_reducible rfl))
        try simp only [Act.put, List.setIfInBounds_toArray, List.set_cons_zero, List.set_cons_succ]
        refine wpAnyH_take (i := 19) (oi := { dst := some 52, op := _, type := _, pos := _, after := _, guard := _ }) (v := ?_) rfl (by kernel_rfl) (by kernel_rfl) (by kernel_rfl) (fun _ _ _ h => h) (Or.inl ⟨by rfl, ?_⟩) (by assumption) ?_
        rotate_left
        · (intro W hSw; (try dsimp only at hSw); go_simp; try (with_reducible rfl))
        try simp only [Act.put, List.setIfInBounds_toArray, List.set_cons_zero, List.set_cons_succ]
        refine wpAnyH_take (i := 20) (oi := { dst := some 53, op := _, type := _, pos := _, after := _, guard := _ }) (v := ?_) rfl (by kernel_rfl) (by kernel_rfl) (by kernel_rfl) (fun _ _ _ h => h) (Or.inl ⟨by rfl, ?_⟩) (by assumption) ?_
        rotate_left
        · (intro W hSw; (try dsimp only at hSw); go_simp; try (with_reducible rfl))
        try simp only [Act.put, List.setIfInBounds_toArray, List.set_cons_zero, List.set_cons_succ]
        refine wpAnyH_lin [0, 7, 14, 21, 22] dstSB consSB depsSB (fun _ => false) [0] (FSB P g) Bl Bl (by decide) (by kernel_rfl) ?s0 ?s1 ?step ?fin ?hpre (by decide) hHeld (by decide) rfl
        case s0 =>
          intro i hi v w w' h hg
          simp only [List.mem_cons, List.not_mem_nil, or_false] at hi
          rcases hi with rfl | rfl | rfl | rfl | rfl
          all_goals exact RV.bl h hg
        case s1 =>
          intro i hi hw v w w' h hg
          simp only [List.mem_cons, List.not_mem_nil, or_false] at hi
          rcases hi with rfl | rfl | rfl | rfl | rfl
          all_goals exact RV.bl h hg
        case hpre =>
          intro i hi
          obtain rfl := List.mem_singleton.1 hi
          exact HV0.out
        case step =>
          intro i hi hip x w hS hF
          simp only [List.mem_cons, List.not_mem_nil, or_false] at hi
          rcases hi with rfl | rfl | rfl | rfl | rfl
          · exact absurd (by decide) hip
          · have hv1 : RV (P) (x 0) w := hF 0 (by decide)
            refine op_call rfl rfl (f := 30) (args := #[x 0, .agg (Rv g.rc)]) ?_ ?_
            · simp only [puts, dstSB, Act.put, List.setIfInBounds_toArray, reduceIte, Nat.reduceEqDiff, List.set_cons_zero, List.set_cons_succ]
              go_simp
              try rfl
            · refine (putReceipt_any w (x 0) (P) g.rc hv1 (by (try simp only [List.length_append, List.length_nil]); omega) hrc hrg).mono ?_
              rintro e w' ⟨v', rfl, hv', hb'⟩
              exact ⟨v', rfl, _, rfl, HSB.out _ _ hS hb', hv', hb'⟩
          · have hv1 : RV (P ++ encRcp g.rc) (x 7) w := hF 7 (by decide)
            refine op_call rfl rfl (f := 29) (args := #[x 7, .string (S g.body)]) ?_ ?_
            · simp only [puts, dstSB, Act.put, List.setIfInBounds_toArray, reduceIte, Nat.reduceEqDiff, List.set_cons_zero, List.set_cons_succ]
              go_simp
              try rfl
            · refine (text_any w (x 7) (P ++ encRcp g.rc) g.body hv1 (by (try simp only [List.length_append, List.length_nil]); omega) hgb).mono ?_
              rintro e w' ⟨v', rfl, hv', hb'⟩
              exact ⟨v', rfl, _, rfl, HSB.out _ _ hS hb', hv', hb'⟩
          · have hv1 : RV (P ++ encRcp g.rc ++ encText g.body) (x 14) w := hF 14 (by decide)
            refine op_call rfl rfl (f := 28) (args := #[x 14, .int .i64 g.sent]) ?_ ?_
            · simp only [puts, dstSB, Act.put, List.setIfInBounds_toArray, reduceIte, Nat.reduceEqDiff, List.set_cons_zero, List.set_cons_succ]
              go_simp
              try rfl
            · refine (number_any w (x 14) (P ++ encRcp g.rc ++ encText g.body) g.sent hv1 (by (try simp only [List.length_append, List.length_nil]); omega) hgs).mono ?_
              rintro e w' ⟨v', rfl, hv', hb'⟩
              exact ⟨v', rfl, _, rfl, HSB.out _ _ hS hb', hv', hb'⟩
          · have hv1 : RV (P ++ encRcp g.rc ++ encText g.body ++ encN g.sent) (x 21) w := hF 21 (by decide)
            refine op_value rfl rfl (v := x 21) (w' := w) ?_ ⟨_, rfl, hS, hv1, Below.refl _ w⟩
            simp only [puts, dstSB, Act.put, List.setIfInBounds_toArray, reduceIte, Nat.reduceEqDiff, List.set_cons_zero, List.set_cons_succ]
            go_simp
        case fin =>
          intro y w8 hS hF
          have hv1 : RV (P ++ encRcp g.rc ++ encText g.body ++ encN g.sent) (y 22) w8 := hF 22 (by decide) (by decide)
          rw [← HF.out] at hv1
          have HV9 := mkH hv1
          have HS9 := mkH hS
          clear hv1 hF hS hHeld HVk HF HRk
          simp only [puts, dstSB, Act.put, List.setIfInBounds_toArray, reduceIte, Nat.reduceEqDiff, List.set_cons_zero, List.set_cons_succ]
          go_wp2
          go_roundw
          case rel => exact ⟨k + 1, by omega, by go_num, HV9, HS9⟩
          case measure => simp [intOf]; omega
      · have hqa : ∀ k, wr.cell? ⟨B, k, none⟩ = C[k]? := HSk.out.1.cell
        have hV := HVk.out
        rw [List.take_of_length_le (by omega)] at hV
        have hlQ : (([] : Bs) ++ encN r.err ++ encN r.seq ++ encN r.n ++ encN (r.got.length : Int) ++ r.got.flatMap encGt).length ≤ 50000000 := by
          have h1 := flat_le encGt 10000 r.got (fun x hx => (gt_ok (q2.2 x hx).1 (q2.2 x hx).2).2.2.2.2.2)
          simp only [List.length_append, List.length_nil]; omega
        have HV3 := mkH hV
        clear hV HVk hlk
        go_wp2_with fail
        refine (refTexts_any_rv HV3.out (by omega) da dc r.data (HR0.out _ HSk.out.2).data q3.1 q3.2).mono ?_
        rintro e w4 ⟨v4, rfl, hv4, hb4⟩
        have HV4 := mkH hv4
        have HS4 := mkH (HSB.out _ _ HSk.out hb4)
        have hqb : ∀ k, w4.cell? ⟨B, k, none⟩ = C[k]? := HS4.out.1.cell
        clear hv4 hb4 HV3 HSk hqa
        go_wp2_with fail
        refine (number_any w4 v4 _ (r.about.length : Int) HV4.out (by simp only [List.length_append] at hlQ ⊢; omega) z5).mono ?_
        rintro e w5 ⟨v5, rfl, hv5, hb5⟩
        have HS5 := mkH (HSB.out _ _ HS4.out hb5)
        obtain ⟨Q0, hQ0⟩ : ∃ Q0, Q0 = ([] : Bs) ++ encN r.err ++ encN r.seq ++ encN r.n ++ encN (r.got.length : Int) ++ r.got.flatMap encGt ++ encList encText r.data ++ encN (r.about.length : Int) := ⟨_, rfl⟩
        rw [← hQ0] at hv5
        have HV5 := mkH hv5
        have hlQ0 : Q0.length ≤ 80000000 := by rw [hQ0]; simp only [List.length_append] at hlQ ⊢; omega
        have HQ0 := mkH hQ0.symm
        clear hv5 hb5 HV4 HS4 hqb hQ0
        go_wp2
        go_loopw [5, 7] (fun v i ws => ∃ k : Nat, k ≤ r.about.length ∧ i = .int .i64 k ∧ Hid (RV (Q0 ++ (r.about.take k).flatMap encRg) v ws) ∧ Hid (S0 w1 B C 43 ws)) (fun _ i _ => r.about.length - (intOf i).toNat)
        case atStart => exact ⟨0, Nat.zero_le _, rfl, mkH (by rw [List.take_zero, List.flatMap_nil, List.append_nil]; exact HV5.out), HS5⟩
        case round =>
          obtain ⟨k, hk, rfl, HVk, HSk⟩ := hrel
          have hq9 : ∀ k, wr.cell? ⟨B, k, none⟩ = C[k]? := HSk.out.1.cell
          have hlk : ((r.about.take k).flatMap encRg).length ≤ 18 * 1024 := by
            have h1 := flat_le encRg 18 (r.about.take k) (fun x hx => (rg_len (q4.2 x (List.mem_of_mem_take hx))).2.2)
            have h2 : (r.about.take k).length ≤ 1024 := by rw [List.length_take]; omega
            omega
          by_cases hlt : k < r.about.length
          · obtain ⟨b, off, hao, hcl⟩ := (HR0.out wr HSk.out.2).about (by omega)
            obtain ⟨xx, hx⟩ := some_of hlt
            obtain ⟨p1, p3, p5⟩ := rg_len (q4.2 xx (List.mem_of_getElem? hx))
            have hx1 : 0 ≤ xx.1 ∧ xx.1 ≤ 1099511627776 := by omega
            have hx2 : 0 ≤ xx.2 ∧ xx.2 ≤ 1099511627776 := by omega
            have y6 := encN_len hx1; have y7 := encN_len hx2
            have HRk : Hid (∀ W, S0 w1 B C 43 W → ∀ j v, (rC xx)[j]? = some v → W.cell? ⟨b, off + k * 2 + j, none⟩ = some v) := mkH (fun W h => by
              obtain ⟨b', off', e, hc⟩ := (HR0.out W h.2).about (by omega)
              rw [hao] at e; injection e with e; injection e with e1 e2; subst e1 e2
              exact hc k xx hx)
            have r0 : ∀ W, S0 w1 B C 43 W → W.cell? ⟨b, off + k * 2, none⟩ = some (.int .i64 xx.1) := fun W h => HRk.out W h 0 _ rfl
            have r1 : ∀ W, S0 w1 B C 43 W → W.cell? ⟨b, off + k * 2 + 1, none⟩ = some (.int .i64 xx.2) := fun W h => HRk.out W h 1 _ rfl
            subst hao
            have HF : Hid (Q0 ++ (r.about.take (k + 1)).flatMap encRg = Q0 ++ (r.about.take k).flatMap encRg ++ encN xx.1 ++ encN xx.2) := mkH (by rw [flat_take1 _ _ _ _ hx, ← List.append_assoc]; simp [encRg])
            clear hcl hx p1 p3 p5
            have hlP : (Q0 ++ (r.about.take k).flatMap encRg).length ≤ 100000000 := by simp only [List.length_append]; omega
            generalize Q0 ++ (r.about.take k).flatMap encRg = P at *
            go_wp2_with fail
            have HV0 := mkH (HVk.out.bl ((Gr.refl wr).drew).below)
            have HSd := mkH (HSB.out _ _ HSk.out ((Gr.refl wr).drew).below)
            refine wp_region_held_drew (S := fun W => S0 w1 B C 43 W) (by kernel_rfl) HSd.out (fun hHeld => ?_)
            clear HSd hq9
            refine wpAnyH_take (i := 0) (oi := { dst := some 74, op := _, type := _, pos := _, after := _, guard := _ }) (v := ?_) rfl (by kernel_rfl) (by kernel_rfl) (by kernel_rfl) (fun _ _ _ h => h) (Or.inl ⟨by rfl, ?_⟩) (by assumption) ?_
            rotate_left
            · (intro W hSw; (try dsimp only at hSw); go_simp; try (with_reducible rfl))
            try simp only [Act.put, List.setIfInBounds_toArray, List.set_cons_zero, List.set_cons_succ]
            refine wpAnyH_take (i := 1) (oi := { dst := some 75, op := _, type := _, pos := _, after := _, guard := _ }) (v := ?_) rfl (by kernel_rfl) (by kernel_rfl) (by kernel_rfl) (fun _ _ _ h => h) (Or.inl ⟨by rfl, ?_⟩) (by assumption) ?_
            rotate_left
            · (intro W hSw; (try dsimp only at hSw); go_simp; try (with_reducible rfl))
            try simp only [Act.put, List.setIfInBounds_toArray, List.set_cons_zero, List.set_cons_succ]
            refine wpAnyH_take (i := 2) (oi := { dst := some 76, op := _, type := _, pos := _, after := _, guard := _ }) (v := ?_) rfl (by kernel_rfl) (by kernel_rfl) (by kernel_rfl) (fun _ _ _ h => h) (Or.inl ⟨by rfl, ?_⟩) (by assumption) ?_
            rotate_left
            · (intro W hSw; (try dsimp only at hSw); go_simp; try (with_reducible rfl))
            try simp only [Act.put, List.setIfInBounds_toArray, List.set_cons_zero, List.set_cons_succ]
            refine wpAnyH_take (i := 3) (oi := { dst := some 77, op := _, type := _, pos := _, after := _, guard := _ }) (v := ?_) rfl (by kernel_rfl) (by kernel_rfl) (by kernel_rfl) (fun _ _ _ h => h) (Or.inl ⟨by rfl, ?_⟩) (by assumption) ?_
            rotate_left
            · (intro W hSw; (try dsimp only at hSw); go_simp; try (with_reducible rfl))
            try simp only [Act.put, List.setIfInBounds_toArray, List.set_cons_zero, List.set_cons_succ]
            refine wpAnyH_take (i := 4) (oi := { dst := some 78, op := _, type := _, pos := _, after := _, guard := _ }) (v := ?_) rfl (by kernel_rfl) (by kernel_rfl) (by kernel_rfl) (fun _ _ _ h => h) (Or.inl ⟨by rfl, ?_⟩) (by assumption) ?_
            rotate_left
            · (intro W hSw; (try dsimp only at hSw); go_simp; try (with_reducible rfl))
            try simp only [Act.put, List.setIfInBounds_toArray, List.set_cons_zero, List.set_cons_succ]
            refine wpAnyH_take (i := 5) (oi := { dst := some 79, op := _, type := _, pos := _, after := _, guard := _ }) (v := ?_) rfl (by kernel_rfl) (by kernel_rfl) (by kernel_rfl) (fun _ _ _ h => h) (Or.inl ⟨by rfl, ?_⟩) (by assumption) ?_
            rotate_left
            · (intro W hSw; (try dsimp only at hSw); go_simp; try (with_reducible rfl))
            try simp only [Act.put, List.setIfInBounds_toArray, List.set_cons_zero, List.set_cons_succ]
            refine wpAnyH_take (i := 6) (oi := { dst := some 80, op := _, type := _, pos := _, after := _, guard := _ }) (v := ?_) rfl (by kernel_rfl) (by kernel_rfl) (by kernel_rfl) (fun _ _ _ h => h) (Or.inl ⟨by rfl, ?_⟩) (by assumption) ?_
            rotate_left
            · (intro W hSw; (try dsimp only at hSw); go_simp; try (with_reducible rfl))
            try simp only [Act.put, List.setIfInBounds_toArray, List.set_cons_zero, List.set_cons_succ]
            refine wpAnyH_take (i := 8) (oi := { dst := some 82, op := _, type := _, pos := _, after := _, guard := _ }) (v := ?_) rfl (by kernel_rfl) (by kernel_rfl) (by kernel_rfl) (fun _ _ _ h => h) (Or.inl ⟨by rfl, ?_⟩) (by assumption) ?_
            rotate_left
            · (intro W hSw; (try dsimp only at hSw); go_simp; try (with_reducible rfl))
            try simp only [Act.put, List.setIfInBounds_toArray, List.set_cons_zero, List.set_cons_succ]
            refine wpAnyH_take (i := 9) (oi := { dst := some 83, op := _, type := _, pos := _, after := _, guard := _ }) (v := ?_) rfl (by kernel_rfl) (by kernel_rfl) (by kernel_rfl) (fun _ _ _ h => h) (Or.inl ⟨by rfl, ?_⟩) (by assumption) ?_
            rotate_left
            · (intro W hSw; (try dsimp only at hSw); go_simp; try (with_reducible rfl))
            try simp only [Act.put, List.setIfInBounds_toArray, List.set_cons_zero, List.set_cons_succ]
            refine wpAnyH_take (i := 10) (oi := { dst := some 84, op := _, type := _, pos := _, after := _, guard := _ }) (v := ?_) rfl (by kernel_rfl) (by kernel_rfl) (by kernel_rfl) (fun _ _ _ h => h) (Or.inl ⟨by rfl, ?_⟩) (by assumption) ?_
            rotate_left
            · (intro W hSw; (try dsimp only at hSw); go_simp; try (with_reducible rfl))
            try simp only [Act.put, List.setIfInBounds_toArray, List.set_cons_zero, List.set_cons_succ]
            refine wpAnyH_take (i := 11) (oi := { dst := some 85, op := _, type := _, pos := _, after := _, guard := _ }) (v := ?_) rfl (by kernel_rfl) (by kernel_rfl) (by kernel_rfl) (fun _ _ _ h => h) (Or.inl ⟨by rfl, ?_⟩) (by assumption) ?_
            rotate_left
            · (intro W hSw; (try dsimp only at hSw); go_simp; try (with_reducible rfl))
            try simp only [Act.put, List.setIfInBounds_toArray, List.set_cons_zero, List.set_cons_succ]
            refine wpAnyH_take (i := 12) (oi := { dst := some 86, op := _, type := _, pos := _, after := _, guard := _ }) (v := ?_) rfl (by kernel_rfl) (by kernel_rfl) (by kernel_rfl) (fun _ _ _ h => h) (Or.inl ⟨by rfl, ?_⟩) (by assumption) ?_
            rotate_left
            · (intro W hSw; (try dsimp only at hSw); go_simp; try (with_reducible rfl))
            try simp only [Act.put, List.setIfInBounds_toArray, List.set_cons_zero, List.set_cons_succ]
            refine wpAnyH_take (i := 13) (oi := { dst := some 87, op := _, type := _, pos := _, after := _, guard := _ }) (v := ?_) rfl (by kernel_rfl) (by kernel_rfl) (by kernel_rfl) (fun _ _ _ h => h) (Or.inl ⟨by rfl, ?_⟩) (by assumption) ?_
            rotate_left
            · (intro W hSw; (try dsimp only at hSw); go_simp; try (with_reducible rfl))
            try simp only [Act.put, List.setIfInBounds_toArray, List.set_cons_zero, List.set_cons_succ]
            refine wpAnyH_lin [0, 7, 14, 15] dstSD consSD depsSD (fun _ => false) [0] (FSD P xx) Bl Bl (by decide) (by kernel_rfl) ?s0 ?s1 ?step ?fin ?hpre (by decide) hHeld (by decide) rfl
            case s0 =>
              intro i hi v w w' h hg
              simp only [List.mem_cons, List.not_mem_nil, or_false] at hi
              rcases hi with rfl | rfl | rfl | rfl
              all_goals exact RV.bl h hg
            case s1 =>
              intro i hi hw v w w' h hg
              simp only [List.mem_cons, List.not_mem_nil, or_false] at hi
              rcases hi with rfl | rfl | rfl | rfl
              all_goals exact RV.bl h hg
            case hpre =>
              intro i hi
              obtain rfl := List.mem_singleton.1 hi
              exact HV0.out
            case step =>
              intro i hi hip x w hS hF
              simp only [List.mem_cons, List.not_mem_nil, or_false] at hi
              rcases hi with rfl | rfl | rfl | rfl
              · exact absurd (by decide) hip
              · have hv1 : RV (P) (x 0) w := hF 0 (by decide)
                refine op_call rfl rfl (f := 28) (args := #[x 0, .int .i64 xx.1]) ?_ ?_
                · simp only [puts, dstSD, Act.put, List.setIfInBounds_toArray, reduceIte, Nat.reduceEqDiff, List.set_cons_zero, List.set_cons_succ]
                  go_simp
                  try rfl
                · refine (number_any w (x 0) (P) xx.1 hv1 (by (try simp only [List.length_append, List.length_nil]); omega) hx1).mono ?_
                  rintro e w' ⟨v', rfl, hv', hb'⟩
                  exact ⟨v', rfl, _, rfl, HSB.out _ _ hS hb', hv', hb'⟩
              · have hv1 : RV (P ++ encN xx.1) (x 7) w := hF 7 (by decide)
                refine op_call rfl rfl (f := 28) (args := #[x 7, .int .i64 xx.2]) ?_ ?_
                · simp only [puts, dstSD, Act.put, List.setIfInBounds_toArray, reduceIte, Nat.reduceEqDiff, List.set_cons_zero, List.set_cons_succ]
                  go_simp
                  try rfl
                · refine (number_any w (x 7) (P ++ encN xx.1) xx.2 hv1 (by (try simp only [List.length_append, List.length_nil]); omega) hx2).mono ?_
                  rintro e w' ⟨v', rfl, hv', hb'⟩
                  exact ⟨v', rfl, _, rfl, HSB.out _ _ hS hb', hv', hb'⟩
              · have hv1 : RV (P ++ encN xx.1 ++ encN xx.2) (x 14) w := hF 14 (by decide)
                refine op_value rfl rfl (v := x 14) (w' := w) ?_ ⟨_, rfl, hS, hv1, Below.refl _ w⟩
                simp only [puts, dstSD, Act.put, List.setIfInBounds_toArray, reduceIte, Nat.reduceEqDiff, List.set_cons_zero, List.set_cons_succ]
                go_simp
            case fin =>
              intro y w8 hS hF
              have hv1 : RV (P ++ encN xx.1 ++ encN xx.2) (y 15) w8 := hF 15 (by decide) (by decide)
              rw [← HF.out] at hv1
              have HV9 := mkH hv1
              have HS9 := mkH hS
              clear hv1 hF hS hHeld HVk HF HRk
              simp only [puts, dstSD, Act.put, List.setIfInBounds_toArray, reduceIte, Nat.reduceEqDiff, List.set_cons_zero, List.set_cons_succ]
              go_wp2
              go_roundw
              case rel => exact ⟨k + 1, by omega, by go_num, HV9, HS9⟩
              case measure => simp [intOf]; omega
          · have HE : Hid (RV (encRp r) u5 wr) := mkH (by have := HVk.out; rw [List.take_of_length_le (by omega), ← HQ0.out] at this; rw [← rp_bytes]; simpa [encMany] using this)
            have HB9 := mkH (HG1.out.trans HSk.out.2)
            clear HVk HSk
            go_wp2
            go_ret2
            exact ⟨_, rfl, HE.out, HB9.out⟩

set_option maxHeartbeats 4000000 in
theorem rreply_bad (w : World) (r : Rp) (ga : Option Addr) (gc : Nat) (da : Option Addr) (dc : Nat) (ra : Option Addr) (rc : Nat) (hm : RpM w r ga da ra) (hc : Cnt r) (hck : checkR r ≠ 0) :
    Calls Try.prog 16 #[.agg (Pv r ga gc da dc ra rc)] w fun e w' => e = .returned (.tuple #[.slice none 0 0, .int .i64 (checkR r : Int)]) ∧ Bl w w' := by
  have H1 := rcheckReply_any (w.alloc (.cells (Pv r ga gc da dc ra rc) 43)) r ga gc da dc ra rc (RpM.gr hm ((Gr.refl w).alloc _)) hc
  have HB := mkH (Bx.new w (Pv r ga gc da dc ra rc) 43)
  have HG := mkH ((Gr.refl w).alloc (.cells (Pv r ga gc da dc ra rc) 43))
  have HL := mkH (load_pv HB.out)
  generalize (Pv r ga gc da dc ra rc) = C at *
  generalize checkR r = j at *
  have te : ((j : Int) == 0) = false := by simp; omega
  clear hck
  go_enter Try.func16, Try.ntmps16
  go_wp2_with (refine wpList_ld (ty := 43) (x := .tmp 1) rfl rfl rfl HL.out ?_)
  refine H1.mono ?_
  rintro e w1 ⟨rfl, hg1⟩
  have HG1 := mkH (HG.out.trans hg1)
  clear H1 HB HG HL hg1 hm
  go_wp2
  go_ret2
  exact ⟨rfl, HG1.out.below⟩
end Go.Proofs.Ytjboldahmndkeaa.Wrr
