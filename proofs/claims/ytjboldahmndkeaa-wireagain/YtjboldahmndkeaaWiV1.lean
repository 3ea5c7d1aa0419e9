/-
  The writer of wire: deliveries.
-/
import Derived.Test.YtjboldahmndkeaaWiV0
namespace Go.Proofs.Ytjboldahmndkeaa.Wv
open Go.RowKit Kt Pl Wi Wk Ww Wx Wa Wy
open At (RowT okT)
set_option linter.unusedVariables false
set_option linter.unusedSimpArgs false
set_option maxRecDepth 20000

def dstD : Nat → Nat := (fun i => if i = 0 then 18 else if i = 3 then 21 else if i = 6 then 24 else if i = 7 then 25 else if i = 10 then 28 else if i = 11 then 29 else if i = 12 then 0 else 0)
def consD : Nat → Nat := (fun i => if i = 0 then 3 else if i = 3 then 7 else if i = 6 then 7 else if i = 7 then 11 else if i = 10 then 11 else if i = 11 then 12 else 999)
def depsD : Nat → List Nat := (fun i => if i = 3 then [0] else if i = 7 then [3, 6] else if i = 11 then [7, 10] else if i = 12 then [11] else [])
def isWD : Nat → Bool := fun i => i == 0 || i == 3 || i == 7 || i == 11 || i == 12
def FD (base : Nat) (P : Bs) (g : Gt) : Nat → Value → World → Prop := fun i v w => if i = 0 then Wt w base v P else if i = 3 then Wt w base v (P ++ encRcp g.rc) else if i = 6 then BT [g.body] v w else if i = 7 then Wt w base v (P ++ encRcp g.rc ++ [g.body].flatMap encText) else if i = 10 then BI [g.sent] v w else if i = 11 then Wt w base v (P ++ encRcp g.rc ++ [g.body].flatMap encText ++ [g.sent].flatMap encN) else if i = 12 then Wt w base v (P ++ encRcp g.rc ++ [g.body].flatMap encText ++ [g.sent].flatMap encN) else True
theorem gt_ok {g : Gt} (h : rightG g = true) (h2 : shortG g = true) : rcB g.rc = true ∧ g.rc.g.length ≤ 4096 ∧ g.body.length ≤ 4096 ∧ (0 ≤ g.sent ∧ g.sent ≤ 4611686018427387904) ∧ (encRcp g.rc).length ≤ 5000 ∧ (encGt g).length ≤ 10000 := by
  simp only [rightG, shortG, Bool.and_eq_true, fitB, decide_eq_true_eq] at h h2
  obtain ⟨h, hs⟩ := h
  have hs := num_ok hs
  have hl : (encRcp g.rc).length ≤ 5000 := by
    have hrc := h
    simp only [rcB, Bool.and_eq_true] at hrc
    have a1 := num_ok hrc.1
    have a2 := num_ok hrc.2.1
    have a3 := num_ok hrc.2.2
    have b1 : (encN g.rc.q).length ≤ 9 := enc_len9 (by omega)
    have b2 : (encN g.rc.s).length ≤ 9 := enc_len9 (by omega)
    have b3 : (encN g.rc.c).length ≤ 9 := enc_len9 (by omega)
    have b4 := enc_len9 (n := g.rc.g.length) (by omega)
    simp only [encRcp, encText, List.length_append]
    omega
  refine ⟨h, by omega, by omega, by omega, hl, ?_⟩
  have b1 : (encN g.sent).length ≤ 9 := enc_len9 (by omega)
  have b4 := enc_len9 (n := g.body.length) (by omega)
  simp only [encGt, encText, List.length_append]
  omega

set_option maxHeartbeats 8000000 in
theorem deliveries_any (w : World) (base : Nat) (v : Value) (bs : Bs) (hw : Wt w base v bs) (hb : base ≤ w.heap.size) (hn : bs.length ≤ 500000000) (ao : Option Addr) (cap : Nat) (l : List Gt) (hr : ∀ W, Below base w W → RowG W ao l) (hl : l.length ≤ 1024) (hok : ∀ x ∈ l, rightG x = true ∧ shortG x = true) :
    Calls Try.prog 40 #[v, .slice ao l.length cap] w fun e w' => Wrote w base (bs ++ encMany encGt l) e w' := by
  have HR := mkH hr
  have HO := mkH hok
  have HW := mkH hw
  have ho1 : ∀ x ∈ [(l.length : Int)], 0 ≤ x ∧ x ≤ 4611686018427387904 := by intro x hx; simp at hx; subst hx; omega
  have hel : (encN (l.length : Int)).length ≤ 9 := enc_len9 (by omega)
  have H1 := nums_any (w.alloc (.cells #[.int .i64 (l.length : Int)] 3)) base v bs (hw.gr ((Gr.refl w).alloc _)) (by simp; omega) (by omega) w.heap.size 1 [(l.length : Int)] (Bx.new w _ _) (by simp) ho1
  clear hr hok hw
  go_enter Try.func40, Try.ntmps40
  go_wp2_with fail
  refine H1.mono ?_
  rintro e w1 ⟨v1, rfl, hw1, hb1, hu1⟩
  have HW1 : Hid (Wt w1 base v1 (bs ++ encN (l.length : Int))) := mkH (by simpa using hw1)
  have HB1 : Hid (Below base w w1) := mkH ((below_down ((Gr.refl w).alloc (.cells #[.int .i64 (l.length : Int)] 3)).below hb).trans hb1)
  have HU1 : Hid (U8 w w1) := mkH ((U8.ofGr ((Gr.refl w).alloc _)).trans hu1)
  clear H1 hw1 hb1 hu1 HW ho1
  go_wp2
  go_loopw [0, 6, 14] (fun v1 _ i wr => ∃ k : Nat, k ≤ l.length ∧ i = .int .i64 k ∧ Hid (Wt wr base v1 (bs ++ encN (l.length : Int) ++ (l.take k).flatMap encGt)) ∧ Hid (Below base w wr) ∧ Hid (U8 w wr)) (fun _ _ i _ => l.length - (intOf i).toNat)
  case atStart => exact ⟨0, Nat.zero_le _, rfl, mkH (by simpa using HW1.out), HB1, HU1⟩
  case round =>
    obtain ⟨k, hk, rfl, HW2, HBe, HU⟩ := hrel
    have hsz := HBe.out.size
    have hlen : ((l.take k).flatMap encGt).length ≤ 10000 * 1024 := by
      have h1 := flat_le encGt 10000 (l.take k) (fun x hx => (gt_ok (HO.out x (List.mem_of_mem_take hx)).1 (HO.out x (List.mem_of_mem_take hx)).2).2.2.2.2.2)
      have h2 : (l.take k).length ≤ 1024 := by rw [List.length_take]; omega
      omega
    by_cases hlt : k < l.length
    · obtain ⟨b, off, hao, hcl⟩ := HR.out wr HBe.out (by omega)
      obtain ⟨g, hx⟩ := some_of hlt
      obtain ⟨hrc, hrg, hgb, hgs, hl5, hl6⟩ := gt_ok (HO.out g (List.mem_of_getElem? hx)).1 (HO.out g (List.mem_of_getElem? hx)).2
      have HLD := mkH (load_got (hcl k g hx))
      subst hao
      have HF : Hid (bs ++ encN (l.length : Int) ++ (l.take (k + 1)).flatMap encGt = bs ++ encN (l.length : Int) ++ (l.take k).flatMap encGt ++ encRcp g.rc ++ [g.body].flatMap encText ++ [g.sent].flatMap encN) := mkH (by rw [flat_take1 _ _ _ _ hx, ← List.append_assoc]; simp [encGt])
      have oi : ∀ y ∈ [g.sent], 0 ≤ y ∧ y ≤ 4611686018427387904 := by intro y hy; simp at hy; subst hy; exact hgs
      have ot : ∀ y ∈ [g.body], y.length ≤ 4096 := by intro y hy; simp at hy; subst hy; exact hgb
      have lt1 := flatT_len [g.body] ot
      have li1 := flat_len [g.sent] oi
      simp only [List.length_cons, List.length_nil] at lt1 li1
      have HI : Hid ((Try.prog.info? 73).map (·.size) = some (Gv g).size) := mkH infoG
      have HONE := mkH (all1 _ (gC_one g))
      have k0 : (Gv g)[0]? = some (.int .i64 g.rc.q) := rfl
      have k1 : (Gv g)[1]? = some (.string (S g.rc.g)) := rfl
      have k2 : (Gv g)[2]? = some (.int .i64 g.rc.s) := rfl
      have k3 : (Gv g)[3]? = some (.int .i64 g.rc.c) := rfl
      have k4 : (Gv g)[4]? = some (.string (S g.body)) := rfl
      have k5 : (Gv g)[5]? = some (.int .i64 g.sent) := rfl
      clear hcl hx
      have hlP : (bs ++ encN (l.length : Int) ++ (l.take k).flatMap encGt).length ≤ 600000000 := by simp only [List.length_append]; omega
      generalize bs ++ encN (l.length : Int) ++ (l.take k).flatMap encGt = P at *
      generalize hCq : Gv g = C at *
      have HONE : Hid (C.all (fun x => x.oneCell') = true) := mkH (hCq ▸ HONE.out)
      have hCs : C.size = 6 := by rw [← hCq]; rfl
      have HSZ : Hid ((#[.int .i64 0, .string ⟨#[]⟩, .int .i64 0, .int .i64 0, .string ⟨#[]⟩, .int .i64 0] : Array Value).size = C.size) := mkH (by rw [hCs]; rfl)
      clear hCq hCs
      go_wp2_with (first
        | (refine wpList_ld (ty := 73) (x := .tmp 16) rfl rfl rfl HLD.out ?_)
        | (refine wpList_stn (x := .tmp 6) (y := .tmp 17) rfl rfl rfl rfl HI.out HSZ.out HONE.out ?_; intro W2 hB2 hG2; have HB2 := mkH hB2; have HG2 := mkH hG2; clear hB2 hG2))
      have HWW := mkH ((HW2.out.gr HG2.out).gr ((Gr.refl W2).drew))
      have HS0 : Hid (SR W2 base wr.heap.size C 73 W2.drew) := mkH ⟨HB2.out.gr ((Gr.refl _).drew), (Below.refl _ _).drew, (U8.refl _).drew⟩
      have HB0 : Hid (base ≤ W2.heap.size) := mkH (by have := HG2.out.below.size; omega)
      generalize hBq : wr.heap.size = B at HS0 ⊢
      clear hBq HB2
      refine wp_region_held_drew (S := fun W => SR W2 base B C 73 W) (by kernel_rfl) HS0.out (fun hHeld => ?_)
      have hq : ∀ W, SR W2 base B C 73 W → ∀ k, W.cell? ⟨B, k, none⟩ = C[k]? := fun W h => h.1.cell
      refine wpAnyH_take (i := 0) (oi := { dst := some 18, op := _, type := _, pos := _, after := _, guard := _ }) (v := ?_) rfl (by kernel_rfl) (by kernel_rfl) (by kernel_rfl) (fun _ _ _ h => h) (Or.inl ⟨by rfl, ?_⟩) (by assumption) ?_
      rotate_left
      · (intro W hSw; (try dsimp only at hSw); go_simp; try (with_reducible rfl))
      try simp only [Act.put, List.setIfInBounds_toArray, List.set_cons_zero, List.set_cons_succ]
      refine wpAnyH_take (i := 1) (oi := { dst := some 19, op := _, type := _, pos := _, after := _, guard := _ }) (v := ?_) rfl (by kernel_rfl) (by kernel_rfl) (by kernel_rfl) (fun _ _ _ h => h) (Or.inl ⟨by rfl, ?_⟩) (by assumption) ?_
      rotate_left
      · (intro W hSw; (try dsimp only at hSw); go_simp; try (with_reducible rfl))
      try simp only [Act.put, List.setIfInBounds_toArray, List.set_cons_zero, List.set_cons_succ]
      refine wpAnyH_take (i := 2) (oi := { dst := some 20, op := _, type := _, pos := _, after := _, guard := _ }) (v := ?_) rfl (by kernel_rfl) (by kernel_rfl) (by kernel_rfl) (fun _ _ _ h => h) (Or.inl ⟨by rfl, ?_⟩) (by assumption) ?_
      rotate_left
      · (intro W hSw; (try dsimp only at hSw); go_simp; try (with_reducible rfl))
      try simp only [Act.put, List.setIfInBounds_toArray, List.set_cons_zero, List.set_cons_succ]
      refine wpAnyH_take (i := 4) (oi := { dst := some 22, op := _, type := _, pos := _, after := _, guard := _ }) (v := ?_) rfl (by kernel_rfl) (by kernel_rfl) (by kernel_rfl) (fun _ _ _ h => h) (Or.inl ⟨by rfl, ?_⟩) (by assumption) ?_
      rotate_left
      · (intro W hSw; (try dsimp only at hSw); go_simp; try (with_reducible rfl))
      try simp only [Act.put, List.setIfInBounds_toArray, List.set_cons_zero, List.set_cons_succ]
      refine wpAnyH_take (i := 5) (oi := { dst := some 23, op := _, type := _, pos := _, after := _, guard := _ }) (v := ?_) rfl (by kernel_rfl) (by kernel_rfl) (by kernel_rfl) (fun _ _ _ h => h) (Or.inl ⟨by rfl, ?_⟩) (by assumption) ?_
      rotate_left
      · (intro W hSw; (try dsimp only at hSw); go_simp; try (with_reducible rfl))
      try simp only [Act.put, List.setIfInBounds_toArray, List.set_cons_zero, List.set_cons_succ]
      refine wpAnyH_take (i := 8) (oi := { dst := some 26, op := _, type := _, pos := _, after := _, guard := _ }) (v := ?_) rfl (by kernel_rfl) (by kernel_rfl) (by kernel_rfl) (fun _ _ _ h => h) (Or.inl ⟨by rfl, ?_⟩) (by assumption) ?_
      rotate_left
      · (intro W hSw; (try dsimp only at hSw); go_simp; try (with_reducible rfl))
      try simp only [Act.put, List.setIfInBounds_toArray, List.set_cons_zero, List.set_cons_succ]
      refine wpAnyH_take (i := 9) (oi := { dst := some 27, op := _, type := _, pos := _, after := _, guard := _ }) (v := ?_) rfl (by kernel_rfl) (by kernel_rfl) (by kernel_rfl) (fun _ _ _ h => h) (Or.inl ⟨by rfl, ?_⟩) (by assumption) ?_
      rotate_left
      · (intro W hSw; (try dsimp only at hSw); go_simp; try (with_reducible rfl))
      try simp only [Act.put, List.setIfInBounds_toArray, List.set_cons_zero, List.set_cons_succ]
      refine wpAnyH_lin [0, 3, 6, 7, 10, 11, 12] dstD consD depsD isWD [0] (FD base P g) Gr U8 (by decide) (by kernel_rfl) ?s0 ?s1 ?step ?fin ?hpre (by decide) hHeld (by decide) rfl
      case s0 =>
        intro i hi v w w' h hg
        simp only [List.mem_cons, List.not_mem_nil, or_false] at hi
        rcases hi with rfl | rfl | rfl | rfl | rfl | rfl | rfl
        · exact Wt.gr h hg
        · exact Wt.gr h hg
        · exact BT.gr h hg
        · exact Wt.gr h hg
        · exact BI.gr h hg
        · exact Wt.gr h hg
        · exact Wt.gr h hg
      case s1 =>
        intro i hi hw v w w' h hg
        simp only [List.mem_cons, List.not_mem_nil, or_false] at hi
        rcases hi with rfl | rfl | rfl | rfl | rfl | rfl | rfl
        · cases hw
        · cases hw
        · exact BT.u8 h hg
        · cases hw
        · exact BI.u8 h hg
        · cases hw
        · cases hw
      case hpre =>
        intro i hi
        obtain rfl := List.mem_singleton.1 hi
        exact HWW.out
      case step =>
        intro i hi hip x w hS hF
        simp only [List.mem_cons, List.not_mem_nil, or_false] at hi
        rcases hi with rfl | rfl | rfl | rfl | rfl | rfl | rfl
        · exact absurd (by decide) hip
        · have hw1 : Wt w base (x 0) P := hF 0 (by decide)
          refine op_call rfl rfl (f := 26) (args := #[x 0, .agg (Rv g.rc)]) ?_ ?_
          · simp only [puts, dstD, Act.put, List.setIfInBounds_toArray, reduceIte, Nat.reduceEqDiff, List.set_cons_zero, List.set_cons_succ]
            go_simp
            try rfl
          · refine (receipt_any w base (x 0) P g.rc hw1 (Nat.le_trans HB0.out hS.2.1.size) (by omega) hrc hrg).mono ?_
            rintro e w' ⟨v', rfl, hw', hb', hu'⟩
            exact ⟨v', rfl, _, rfl, hS.wrote (by decide) hb' hu', hw', hu'⟩
        · refine op_value rfl rfl (v := .slice (some ⟨w.heap.size, 0, none⟩) 1 1) (w' := w.alloc (.cells #[.string (S g.body)] 9)) ?_ ⟨_, rfl, hS.gr HB0.out ((Gr.refl w).alloc _), ⟨_, rfl, Bx.new w #[.string (S g.body)] 9⟩, (Gr.refl w).alloc _⟩
          simp only [puts, dstD, Act.put, List.setIfInBounds_toArray, reduceIte, Nat.reduceEqDiff, List.set_cons_zero, List.set_cons_succ]
          go_simp
        · obtain ⟨b, hx, hbx⟩ : BT [g.body] (x 6) w := hF 6 (by decide)
          have hw1 : Wt w base (x 3) (P ++ encRcp g.rc) := hF 3 (by decide)
          refine op_call rfl rfl (f := 25) (args := #[x 3, x 6]) ?_ ?_
          · simp only [puts, dstD, Act.put, List.setIfInBounds_toArray, reduceIte, Nat.reduceEqDiff, List.set_cons_zero, List.set_cons_succ]
            go_simp
          · rw [hx]
            refine (texts_any w base (x 3) (P ++ encRcp g.rc) hw1 (Nat.le_trans HB0.out hS.2.1.size) (by simp only [List.length_append]; omega) b _ [g.body] hbx (by simp) ot).mono ?_
            rintro e w' ⟨v', rfl, hw', hb', hu'⟩
            exact ⟨v', rfl, _, rfl, hS.wrote (by decide) hb' hu', hw', hu'⟩
        · refine op_value rfl rfl (v := .slice (some ⟨w.heap.size, 0, none⟩) 1 1) (w' := w.alloc (.cells #[.int .i64 g.sent] 3)) ?_ ⟨_, rfl, hS.gr HB0.out ((Gr.refl w).alloc _), ⟨_, rfl, Bx.new w #[.int .i64 g.sent] 3⟩, (Gr.refl w).alloc _⟩
          simp only [puts, dstD, Act.put, List.setIfInBounds_toArray, reduceIte, Nat.reduceEqDiff, List.set_cons_zero, List.set_cons_succ]
          go_simp
        · obtain ⟨b, hx, hbx⟩ : BI [g.sent] (x 10) w := hF 10 (by decide)
          have hw1 : Wt w base (x 7) (P ++ encRcp g.rc ++ [g.body].flatMap encText) := hF 7 (by decide)
          refine op_call rfl rfl (f := 24) (args := #[x 7, x 10]) ?_ ?_
          · simp only [puts, dstD, Act.put, List.setIfInBounds_toArray, reduceIte, Nat.reduceEqDiff, List.set_cons_zero, List.set_cons_succ]
            go_simp
          · rw [hx]
            refine (nums_any w base (x 7) (P ++ encRcp g.rc ++ [g.body].flatMap encText) hw1 (Nat.le_trans HB0.out hS.2.1.size) (by simp only [List.length_append]; omega) b _ [g.sent] hbx (by simp) oi).mono ?_
            rintro e w' ⟨v', rfl, hw', hb', hu'⟩
            exact ⟨v', rfl, _, rfl, hS.wrote (by decide) hb' hu', hw', hu'⟩
        · have hw1 : Wt w base (x 11) (P ++ encRcp g.rc ++ [g.body].flatMap encText ++ [g.sent].flatMap encN) := hF 11 (by decide)
          refine op_value rfl rfl (v := x 11) (w' := w) ?_ ⟨_, rfl, hS, hw1, U8.refl w⟩
          simp only [puts, dstD, Act.put, List.setIfInBounds_toArray, reduceIte, Nat.reduceEqDiff, List.set_cons_zero, List.set_cons_succ]
          go_simp
      case fin =>
        intro x w2 hS hF
        have hw1 : Wt w2 base (x 12) (P ++ encRcp g.rc ++ [g.body].flatMap encText ++ [g.sent].flatMap encN) := hF 12 (by decide) (by decide)
        rw [← HF.out] at hw1
        have HW3 := mkH hw1
        have HB3 : Hid (Below base w w2) := mkH (HBe.out.trans ((below_down HG2.out.below (by omega)).trans hS.2.1))
        have HU3 : Hid (U8 w w2) := mkH (HU.out.trans ((U8.ofGr HG2.out).trans hS.2.2))
        clear hw1 hF hS hq hHeld HS0 HWW HB0 HG2 HBe HU HW2 HLD
        simp only [puts, dstD, Act.put, List.setIfInBounds_toArray, reduceIte, Nat.reduceEqDiff, List.set_cons_zero, List.set_cons_succ]
        go_wp2
        go_roundw
        case rel => exact ⟨k + 1, by omega, by go_num, HW3, HB3, HU3⟩
        case measure => simp [intOf]; omega
    · have hW := HW2.out
      rw [List.take_of_length_le (by omega)] at hW
      have HW3 : Hid (Wt wr base u0 (bs ++ encMany encGt l)) := mkH (by unfold encMany; rw [← List.append_assoc]; exact hW)
      clear hW HW2
      go_wp2
      go_ret
      exact ⟨_, rfl, HW3.out, HBe.out, HU.out⟩
end Go.Proofs.Ytjboldahmndkeaa.Wv
