/-
  Reply, of wire.
-/
import Derived.Test.YtjboldahmndkeaaWiV1
import Derived.Test.YtjboldahmndkeaaWiA3
namespace Go.Proofs.Ytjboldahmndkeaa.Wv
open Go.RowKit Kt Pl Wi Wk Ww Wx Wa Wy
open At (RowT okT)
set_option linter.unusedVariables false
set_option linter.unusedSimpArgs false
set_option maxRecDepth 20000

def dstP : Nat → Nat := (fun i => if i = 0 then 10 else if i = 7 then 17 else if i = 8 then 18 else if i = 11 then 21 else if i = 14 then 24 else if i = 17 then 27 else if i = 18 then 2 else if i = 19 then 3 else 0)
def consP : Nat → Nat := (fun i => if i = 0 then 8 else if i = 7 then 8 else if i = 8 then 11 else if i = 11 then 14 else if i = 14 then 17 else if i = 17 then 18 else 999)
def depsP : Nat → List Nat := (fun i => if i = 8 then [0, 7] else if i = 11 then [8] else if i = 14 then [11] else if i = 17 then [14] else if i = 18 then [17] else [])
def isWP : Nat → Bool := fun i => i == 0 || i == 8 || i == 11 || i == 14 || i == 17 || i == 18
def FP (base : Nat) (r : Rp) : Nat → Value → World → Prop := fun i v w => if i = 0 then Wt w base v ([] : Bs) else if i = 7 then BI [r.err, r.seq, r.n] v w else if i = 8 then Wt w base v (([] : Bs) ++ [r.err, r.seq, r.n].flatMap encN) else if i = 11 then Wt w base v (([] : Bs) ++ [r.err, r.seq, r.n].flatMap encN ++ encMany encGt r.got) else if i = 14 then Wt w base v (([] : Bs) ++ [r.err, r.seq, r.n].flatMap encN ++ encMany encGt r.got ++ encList encText r.data) else if i = 17 then Wt w base v (([] : Bs) ++ [r.err, r.seq, r.n].flatMap encN ++ encMany encGt r.got ++ encList encText r.data ++ encMany encRg r.about) else if i = 18 then Wt w base v (([] : Bs) ++ [r.err, r.seq, r.n].flatMap encN ++ encMany encGt r.got ++ encList encText r.data ++ encMany encRg r.about) else if i = 19 then v = .int .i64 0 else True
theorem rp_parts {r : Rp} (h : checkR r = 0) : (∀ x ∈ [r.err, r.seq, r.n], 0 ≤ x ∧ x ≤ 4611686018427387904) ∧ (r.got.length ≤ 1024 ∧ ∀ x ∈ r.got, rightG x = true ∧ shortG x = true) ∧ (r.data.length ≤ 1024 ∧ ∀ x ∈ r.data, x.length ≤ 4096) ∧ (r.about.length ≤ 1024 ∧ ∀ x ∈ r.about, mayB x.1 x.2 = true) := by
  obtain ⟨hr, hs⟩ := judge_ok h
  simp only [rightR, shortR, Bool.and_eq_true, decide_eq_true_eq, List.all_eq_true, upToB] at hr hs
  obtain ⟨r0, ⟨r1, r2⟩, r3, r4⟩ := hr
  obtain ⟨⟨s0, s1⟩, s2, s3⟩ := hs
  have s2 := dataB_ok s2
  have r1 := num_ok r1; have r2 := num_ok r2
  refine ⟨?_, ⟨s0, fun x hx => ⟨r3 x hx, s1 x hx⟩⟩, s2, ⟨s3, r4⟩⟩
  intro x hx; simp at hx; rcases hx with rfl | rfl | rfl <;> omega
theorem rp_bytes (r : Rp) : (([] : Bs) ++ [r.err, r.seq, r.n].flatMap encN ++ encMany encGt r.got ++ encList encText r.data ++ encMany encRg r.about) = encRp r := by simp [encRp]
theorem rp_lens {r : Rp} (h : checkR r = 0) : ([r.err, r.seq, r.n].flatMap encN).length ≤ 27 ∧ (encMany encGt r.got).length ≤ 10300000 ∧ (encList encText r.data).length ≤ 4300000 ∧ (encMany encRg r.about).length ≤ 30000 := by
  obtain ⟨q1, q2, q3, q4⟩ := rp_parts h
  have l1 := flat_len _ q1
  simp only [List.length_cons, List.length_nil] at l1
  have l2 := flat_le encGt 10000 r.got (fun x hx => (gt_ok (q2.2 x hx).1 (q2.2 x hx).2).2.2.2.2.2)
  have l3 := flatT_len r.data q3.2
  have l4 := flat_le encRg 18 r.about (fun x hx => (rg_len (q4.2 x hx)).2.2)
  have b2 : (encN (r.got.length : Int)).length ≤ 9 := enc_len9 (by omega)
  have b3 := enc_len9 (n := r.data.length) (by omega)
  have b4 : (encN (r.about.length : Int)).length ≤ 9 := enc_len9 (by omega)
  refine ⟨by omega, ?_, ?_, ?_⟩
  · unfold encMany; rw [List.length_append]; omega
  · unfold encList; rw [List.length_append]; omega
  · unfold encMany; rw [List.length_append]; omega
theorem rp_len {r : Rp} (h : checkR r = 0) : (encRp r).length ≤ 100000000 := by
  obtain ⟨l1, l2, l3, l4⟩ := rp_lens h
  rw [← rp_bytes]
  simp only [List.length_append, List.length_nil]
  omega

set_option maxHeartbeats 8000000 in
theorem reply_ok (w : World) (r : Rp) (ga : Option Addr) (gc : Nat) (da : Option Addr) (dc : Nat) (ra : Option Addr) (rc : Nat) (hm : RpM w r ga da ra) (hc : Cnt r) (hck : checkR r = 0) :
    Calls Try.prog 15 #[.agg (Pv r ga gc da dc ra rc)] w fun e w' => ∃ v, e = .returned (.tuple #[v, .int .i64 0]) ∧ Wt w' w.heap.size v (encRp r) ∧ Below w.heap.size w w' := by
  have H1 := checkReply_any (w.alloc (.cells (Pv r ga gc da dc ra rc) 43)) r ga gc da dc ra rc (RpM.gr hm ((Gr.refl w).alloc _)) hc
  rw [hck] at H1
  obtain ⟨q1, q2, q3, q4⟩ := rp_parts hck
  obtain ⟨l1, l2, l3, l4⟩ := rp_lens hck
  have HB := mkH (Bx.new w (Pv r ga gc da dc ra rc) 43)
  have HG := mkH ((Gr.refl w).alloc (.cells (Pv r ga gc da dc ra rc) 43))
  have HL := mkH (load_pv HB.out)
  obtain ⟨k0, k1, k2, k3, k4, k5⟩ := Pv_at r ga gc da dc ra rc
  generalize (Pv r ga gc da dc ra rc) = C at *
  go_enter Try.func15, Try.ntmps15
  go_wp2_with (refine wpList_ld (ty := 43) (x := .tmp 1) rfl rfl rfl HL.out ?_)
  refine H1.mono ?_
  rintro e w1 ⟨rfl, hg1⟩
  have HB1 := mkH (HB.out.gr hg1)
  have HG1 := mkH (HG.out.trans hg1)
  have HRw := mkH hm
  clear H1 HB HG HL hg1 hm
  go_wp2_with fail
  obtain ⟨base, hbase⟩ : ∃ base, base = w.heap.size := ⟨_, rfl⟩
  have HS0 : Hid (SR w1 base w.heap.size C 43 w1.drew) := mkH ⟨HB1.out.gr ((Gr.refl _).drew), (Below.refl _ _).drew, (U8.refl _).drew⟩
  have HB0 : Hid (base ≤ w1.heap.size) := mkH (hbase ▸ HG1.out.below.size)
  have HR0 : Hid (∀ W, Below base w1 W → RpM W r ga da ra) := mkH (fun W h => HRw.out.below (HG1.out.below.trans (hbase ▸ h)))
  have HBE := mkH hbase
  clear hbase HRw HB1
  generalize hBq : w.heap.size = B at HS0 ⊢
  have HBq := mkH hBq
  clear hBq
  refine wp_region_held_drew (S := fun W => SR w1 base B C 43 W) (by kernel_rfl) HS0.out (fun hHeld => ?_)
  have hq : ∀ W, SR w1 base B C 43 W → ∀ k, W.cell? ⟨B, k, none⟩ = C[k]? := fun W h => h.1.cell
  clear HS0
  refine wpAnyH_take (i := 1) (oi := { dst := some 11, op := _, type := _, pos := _, after := _, guard := _ }) (v := ?_) rfl (by kernel_rfl) (by kernel_rfl) (by kernel_rfl) (fun _ _ _ h => h) (Or.inl ⟨by rfl, ?_⟩) (by assumption) ?_
  rotate_left
  · (intro W hSw; (try dsimp only at hSw); go_simp; try (with_reducible rfl))
  try simp only [Act.put, List.setIfInBounds_toArray, List.set_cons_zero, List.set_cons_succ]
  refine wpAnyH_take (i := 2) (oi := { dst := some 12, op := _, type := _, pos := _, after := _, guard := _ }) (v := ?_) rfl (by kernel_rfl) (by kernel_rfl) (by kernel_rfl) (fun _ _ _ h => h) (Or.inl ⟨by rfl, ?_⟩) (by assumption) ?_
  rotate_left
  · (intro W hSw; (try dsimp only at hSw); go_simp; try (with_reducible rfl))
  try simp only [Act.put, List.setIfInBounds_toArray, List.set_cons_zero, List.set_cons_succ]
  refine wpAnyH_take (i := 3) (oi := { dst := some 13, op := _, type := _, pos := _, after := _, guard := _ }) (v := ?_) rfl (by kernel_rfl) (by kernel_rfl) (by kernel_rfl) (fun _ _ _ h => h) (Or.inl ⟨by rfl, ?_⟩) (by assumption) ?_
  rotate_left
  · (intro W hSw; (try dsimp only at hSw); go_simp; try (with_reducible rfl))
  try simp only [Act.put, List.setIfInBounds_toArray, List.set_cons_zero, List.set_cons_succ]
  refine wpAnyH_take (i := 4) (oi := { dst := some 14, op := _, type := _, pos := _, after := _, guard := _ }) (v := ?_) rfl (by kernel_rfl) (by kernel_rfl) (by kernel_rfl) (fun _ _ _ h => h) (Or.inl ⟨by rfl, ?_⟩) (by assumption) ?_
  rotate_left
  · (intro W hSw; (try dsimp only at hSw); go_simp; try (with_reducible rfl))
  try simp only [Act.put, List.setIfInBounds_toArray, List.set_cons_zero, List.set_cons_succ]
  refine wpAnyH_take (i := 5) (oi := { dst := some 15, op := _, type := _, pos := _, after := _, guard := _ }) (v := ?_) rfl (by kernel_rfl) (by kernel_rfl) (by kernel_rfl) (fun _ _ _ h => h) (Or.inl ⟨by rfl, ?_⟩) (by assumption) ?_
  rotate_left
  · (intro W hSw; (try dsimp only at hSw); go_simp; try (with_reducible rfl))
  try simp only [Act.put, List.setIfInBounds_toArray, List.set_cons_zero, List.set_cons_succ]
  refine wpAnyH_take (i := 6) (oi := { dst := some 16, op := _, type := _, pos := _, after := _, guard := _ }) (v := ?_) rfl (by kernel_rfl) (by kernel_rfl) (by kernel_rfl) (fun _ _ _ h => h) (Or.inl ⟨by rfl, ?_⟩) (by assumption) ?_
  rotate_left
  · (intro W hSw; (try dsimp only at hSw); go_simp; try (with_reducible rfl))
  try simp only [Act.put, List.setIfInBounds_toArray, List.set_cons_zero, List.set_cons_succ]
  refine wpAnyH_take (i := 9) (oi := { dst := some 19, op := _, type := _, pos := _, after := _, guard := _ }) (v := ?_) rfl (by kernel_rfl) (by kernel_rfl) (by kernel_rfl) (fun _ _ _ h => h) (Or.inl ⟨by rfl, ?_⟩) (by assumption) ?_
  rotate_left
  · (intro W hSw; (try dsimp only at hSw); go_simp; try (with_reducible rfl))
  try simp only [Act.put, List.setIfInBounds_toArray, List.set_cons_zero, List.set_cons_succ]
  refine wpAnyH_take (i := 10) (oi := { dst := some 20, op := _, type := _, pos := _, after := _, guard := _ }) (v := ?_) rfl (by kernel_rfl) (by kernel_rfl) (by kernel_rfl) (fun _ _ _ h => h) (Or.inl ⟨by rfl, ?_⟩) (by assumption) ?_
  rotate_left
  · (intro W hSw; (try dsimp only at hSw); go_simp; try (with_reducible rfl))
  try simp only [Act.put, List.setIfInBounds_toArray, List.set_cons_zero, List.set_cons_succ]
  refine wpAnyH_take (i := 12) (oi := { dst := some 22, op := _, type := _, pos := _, after := _, guard := _ }) (v := ?_) rfl (by kernel_rfl) (by kernel_rfl) (by kernel_rfl) (fun _ _ _ h => h) (Or.inl ⟨by rfl, ?_⟩) (by assumption) ?_
  rotate_left
  · (intro W hSw; (try dsimp only at hSw); go_simp; try (with_reducible rfl))
  try simp only [Act.put, List.setIfInBounds_toArray, List.set_cons_zero, List.set_cons_succ]
  refine wpAnyH_take (i := 13) (oi := { dst := some 23, op := _, type := _, pos := _, after := _, guard := _ }) (v := ?_) rfl (by kernel_rfl) (by kernel_rfl) (by kernel_rfl) (fun _ _ _ h => h) (Or.inl ⟨by rfl, ?_⟩) (by assumption) ?_
  rotate_left
  · (intro W hSw; (try dsimp only at hSw); go_simp; try (with_reducible rfl))
  try simp only [Act.put, List.setIfInBounds_toArray, List.set_cons_zero, List.set_cons_succ]
  refine wpAnyH_take (i := 15) (oi := { dst := some 25, op := _, type := _, pos := _, after := _, guard := _ }) (v := ?_) rfl (by kernel_rfl) (by kernel_rfl) (by kernel_rfl) (fun _ _ _ h => h) (Or.inl ⟨by rfl, ?_⟩) (by assumption) ?_
  rotate_left
  · (intro W hSw; (try dsimp only at hSw); go_simp; try (with_reducible rfl))
  try simp only [Act.put, List.setIfInBounds_toArray, List.set_cons_zero, List.set_cons_succ]
  refine wpAnyH_take (i := 16) (oi := { dst := some 26, op := _, type := _, pos := _, after := _, guard := _ }) (v := ?_) rfl (by kernel_rfl) (by kernel_rfl) (by kernel_rfl) (fun _ _ _ h => h) (Or.inl ⟨by rfl, ?_⟩) (by assumption) ?_
  rotate_left
  · (intro W hSw; (try dsimp only at hSw); go_simp; try (with_reducible rfl))
  try simp only [Act.put, List.setIfInBounds_toArray, List.set_cons_zero, List.set_cons_succ]
  refine wpAnyH_lin [0, 7, 8, 11, 14, 17, 18, 19] dstP consP depsP isWP [] (FP base r) Gr U8 (by decide) (by kernel_rfl) ?s0 ?s1 ?step ?fin ?hpre (by decide) hHeld (by decide) rfl
  case s0 =>
    intro i hi v w w' h hg
    simp only [List.mem_cons, List.not_mem_nil, or_false] at hi
    rcases hi with rfl | rfl | rfl | rfl | rfl | rfl | rfl | rfl
    · exact Wt.gr h hg
    · exact BI.gr h hg
    · exact Wt.gr h hg
    · exact Wt.gr h hg
    · exact Wt.gr h hg
    · exact Wt.gr h hg
    · exact Wt.gr h hg
    · exact h
  case s1 =>
    intro i hi hw v w w' h hg
    simp only [List.mem_cons, List.not_mem_nil, or_false] at hi
    rcases hi with rfl | rfl | rfl | rfl | rfl | rfl | rfl | rfl
    · cases hw
    · exact BI.u8 h hg
    · cases hw
    · cases hw
    · cases hw
    · cases hw
    · cases hw
    · exact h
  case hpre =>
    intro i hi
    cases hi
  case step =>
    intro i hi hip x w hS hF
    simp only [List.mem_cons, List.not_mem_nil, or_false] at hi
    rcases hi with rfl | rfl | rfl | rfl | rfl | rfl | rfl | rfl
    · refine op_value rfl rfl (v := .slice (some ⟨w.heap.size, 0, none⟩) 0 0) (w' := w.alloc (.cells #[] 5)) ?_ ⟨_, rfl, hS.gr HB0.out ((Gr.refl w).alloc _), (Wt.new w).mono (Nat.le_trans HB0.out hS.2.1.size), U8.ofGr ((Gr.refl w).alloc _)⟩
      simp only [puts, dstP, Act.put, List.setIfInBounds_toArray, reduceIte, Nat.reduceEqDiff, List.set_cons_zero, List.set_cons_succ]
      go_simp
    · refine op_value rfl rfl (v := .slice (some ⟨w.heap.size, 0, none⟩) 3 3) (w' := w.alloc (.cells #[.int .i64 r.err, .int .i64 r.seq, .int .i64 r.n] 3)) ?_ ⟨_, rfl, hS.gr HB0.out ((Gr.refl w).alloc _), ⟨_, rfl, Bx.new w #[.int .i64 r.err, .int .i64 r.seq, .int .i64 r.n] 3⟩, (Gr.refl w).alloc _⟩
      simp only [puts, dstP, Act.put, List.setIfInBounds_toArray, reduceIte, Nat.reduceEqDiff, List.set_cons_zero, List.set_cons_succ]
      go_simp
    · obtain ⟨b, hx, hbx⟩ : BI [r.err, r.seq, r.n] (x 7) w := hF 7 (by decide)
      have hw1 : Wt w base (x 0) ([] : Bs) := hF 0 (by decide)
      refine op_call rfl rfl (f := 24) (args := #[x 0, x 7]) ?_ ?_
      · simp only [puts, dstP, Act.put, List.setIfInBounds_toArray, reduceIte, Nat.reduceEqDiff, List.set_cons_zero, List.set_cons_succ]
        go_simp
      · rw [hx]
        refine (nums_any w base (x 0) ([] : Bs) hw1 (Nat.le_trans HB0.out hS.2.1.size) (by simp) b _ [r.err, r.seq, r.n] hbx (by simp) q1).mono ?_
        rintro e w' ⟨v', rfl, hw', hb', hu'⟩
        exact ⟨v', rfl, _, rfl, hS.wrote (by decide) hb' hu', hw', hu'⟩
    · have hw1 : Wt w base (x 8) (([] : Bs) ++ [r.err, r.seq, r.n].flatMap encN) := hF 8 (by decide)
      refine op_call rfl rfl (f := 40) (args := #[x 8, .slice ga r.got.length gc]) ?_ ?_
      · simp only [puts, dstP, Act.put, List.setIfInBounds_toArray, reduceIte, Nat.reduceEqDiff, List.set_cons_zero, List.set_cons_succ]
        go_simp
      · refine (deliveries_any w base (x 8) (([] : Bs) ++ [r.err, r.seq, r.n].flatMap encN) hw1 (Nat.le_trans HB0.out hS.2.1.size) (by simp only [List.length_append, List.length_nil]; omega) ga gc r.got (fun W h => (HR0.out W (hS.2.1.trans h)).got) q2.1 q2.2).mono ?_
        rintro e w' ⟨v', rfl, hw', hb', hu'⟩
        exact ⟨v', rfl, _, rfl, hS.wrote (by decide) hb' hu', hw', hu'⟩
    · have hw1 : Wt w base (x 11) (([] : Bs) ++ [r.err, r.seq, r.n].flatMap encN ++ encMany encGt r.got) := hF 11 (by decide)
      refine op_call rfl rfl (f := 27) (args := #[x 11, .slice da r.data.length dc]) ?_ ?_
      · simp only [puts, dstP, Act.put, List.setIfInBounds_toArray, reduceIte, Nat.reduceEqDiff, List.set_cons_zero, List.set_cons_succ]
        go_simp
      · refine (data_any w base (x 11) (([] : Bs) ++ [r.err, r.seq, r.n].flatMap encN ++ encMany encGt r.got) hw1 (Nat.le_trans HB0.out hS.2.1.size) (by simp only [List.length_append, List.length_nil]; omega) da dc r.data (HR0.out w hS.2.1).data q3.1 q3.2).mono ?_
        rintro e w' ⟨v', rfl, hw', hb', hu'⟩
        exact ⟨v', rfl, _, rfl, hS.wrote (by decide) hb' hu', hw', hu'⟩
    · have hw1 : Wt w base (x 14) (([] : Bs) ++ [r.err, r.seq, r.n].flatMap encN ++ encMany encGt r.got ++ encList encText r.data) := hF 14 (by decide)
      refine op_call rfl rfl (f := 41) (args := #[x 14, .slice ra r.about.length rc]) ?_ ?_
      · simp only [puts, dstP, Act.put, List.setIfInBounds_toArray, reduceIte, Nat.reduceEqDiff, List.set_cons_zero, List.set_cons_succ]
        go_simp
      · refine (ranges_any w base (x 14) (([] : Bs) ++ [r.err, r.seq, r.n].flatMap encN ++ encMany encGt r.got ++ encList encText r.data) hw1 (Nat.le_trans HB0.out hS.2.1.size) (by simp only [List.length_append, List.length_nil]; omega) ra rc r.about (fun W h => (HR0.out W (hS.2.1.trans h)).about) q4.1 q4.2).mono ?_
        rintro e w' ⟨v', rfl, hw', hb', hu'⟩
        exact ⟨v', rfl, _, rfl, hS.wrote (by decide) hb' hu', hw', hu'⟩
    · have hw1 : Wt w base (x 17) (([] : Bs) ++ [r.err, r.seq, r.n].flatMap encN ++ encMany encGt r.got ++ encList encText r.data ++ encMany encRg r.about) := hF 17 (by decide)
      refine op_value rfl rfl (v := x 17) (w' := w) ?_ ⟨_, rfl, hS, hw1, U8.refl w⟩
      simp only [puts, dstP, Act.put, List.setIfInBounds_toArray, reduceIte, Nat.reduceEqDiff, List.set_cons_zero, List.set_cons_succ]
      go_simp
    · refine op_value rfl rfl (v := .int .i64 0) (w' := w) ?_ ⟨_, rfl, hS, rfl, Gr.refl w⟩
      simp only [puts, dstP, Act.put, List.setIfInBounds_toArray, reduceIte, Nat.reduceEqDiff, List.set_cons_zero, List.set_cons_succ]
      go_simp
  case fin =>
    intro x w2 hS hF
    have hw1 : Wt w2 base (x 18) (([] : Bs) ++ [r.err, r.seq, r.n].flatMap encN ++ encMany encGt r.got ++ encList encText r.data ++ encMany encRg r.about) := hF 18 (by decide) (by decide)
    have hc0 : x 19 = .int .i64 0 := hF 19 (by decide) (by decide)
    rw [rp_bytes] at hw1
    have HW1 := mkH hw1
    have HS1 := mkH hS
    clear hw1 hF hS hq hHeld
    simp only [puts, dstP, Act.put, List.setIfInBounds_toArray, reduceIte, Nat.reduceEqDiff, List.set_cons_zero, List.set_cons_succ]
    go_wp2
    go_ret2
    refine ⟨x 18, ?_, HBE.out ▸ HW1.out, ?_⟩
    · show Ending.returned (.tuple #[x 18, x 19]) = _
      rw [hc0]
    · exact HG1.out.below.trans (HBE.out ▸ HS1.out.2.1)

set_option maxHeartbeats 4000000 in
theorem reply_bad (w : World) (r : Rp) (ga : Option Addr) (gc : Nat) (da : Option Addr) (dc : Nat) (ra : Option Addr) (rc : Nat) (hm : RpM w r ga da ra) (hc : Cnt r) (hck : checkR r ≠ 0) :
    Calls Try.prog 15 #[.agg (Pv r ga gc da dc ra rc)] w fun e w' => e = .returned (.tuple #[.slice none 0 0, .int .i64 (checkR r : Int)]) ∧ Below w.heap.size w w' := by
  have H1 := checkReply_any (w.alloc (.cells (Pv r ga gc da dc ra rc) 43)) r ga gc da dc ra rc (RpM.gr hm ((Gr.refl w).alloc _)) hc
  have HB := mkH (Bx.new w (Pv r ga gc da dc ra rc) 43)
  have HG := mkH ((Gr.refl w).alloc (.cells (Pv r ga gc da dc ra rc) 43))
  have HL := mkH (load_pv HB.out)
  generalize Pv r ga gc da dc ra rc = C at *
  generalize checkR r = j at *
  have te : ((j : Int) == 0) = false := by simp; omega
  clear hck
  go_enter Try.func15, Try.ntmps15
  go_wp2_with (refine wpList_ld (ty := 43) (x := .tmp 1) rfl rfl rfl HL.out ?_)
  refine H1.mono ?_
  rintro e w1 ⟨rfl, hg1⟩
  have HG1 := mkH (HG.out.trans hg1)
  clear H1 HB HG HL hg1 hm
  go_wp2
  go_ret2
  exact ⟨rfl, HG1.out.below⟩
end Go.Proofs.Ytjboldahmndkeaa.Wv
