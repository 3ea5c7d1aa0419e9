/-
  The writer of wire: receipt.
-/
import Derived.Test.YtenkgpfeifflnaaGreatWiW
import Derived.Test.YtenkgpfeifflnaaGreatWiR
namespace Go.Proofs.YtenkgpfeifflnaaGreat.Wv
open Go.RowKit Kt Pl Wi Wk Ww Wx
open At (RowT okT)
set_option linter.unusedVariables false
set_option linter.unusedSimpArgs false
set_option maxRecDepth 20000

def dstR : Nat → Nat := fun i => if i = 0 then 5 else if i = 3 then 8 else if i = 4 then 9 else if i = 7 then 12 else if i = 8 then 13 else if i = 13 then 18 else if i = 14 then 19 else 4
def consR : Nat → Nat := fun i => if i = 0 then 4 else if i = 3 then 4 else if i = 4 then 8 else if i = 7 then 8 else if i = 8 then 14 else if i = 13 then 14 else if i = 14 then 15 else 99
def depsR : Nat → List Nat := fun i => if i = 4 then [0, 3] else if i = 8 then [4, 7] else if i = 14 then [8, 13] else if i = 15 then [14] else []
def isWR : Nat → Bool := fun i => i == 0 || i == 4 || i == 8 || i == 14 || i == 15
/-- A row of numbers, of texts, that was built. -/
def BI (l : List Int) (v : Value) (w : World) : Prop := ∃ b, v = .slice (some ⟨b, 0, none⟩) l.length l.length ∧ Bx w b (Wk.I l).toArray 3
def BT (l : List Bs) (v : Value) (w : World) : Prop := ∃ b, v = .slice (some ⟨b, 0, none⟩) l.length l.length ∧ Bx w b (T l).toArray 9
theorem BI.gr {l : List Int} {v : Value} {w w' : World} (h : BI l v w) (hg : Gr w w') : BI l v w' := by obtain ⟨b, e, hb⟩ := h; exact ⟨b, e, hb.gr hg⟩
theorem BT.gr {l : List Bs} {v : Value} {w w' : World} (h : BT l v w) (hg : Gr w w') : BT l v w' := by obtain ⟨b, e, hb⟩ := h; exact ⟨b, e, hb.gr hg⟩
theorem BI.u8 {l : List Int} {v : Value} {w w' : World} (h : BI l v w) (hg : U8 w w') : BI l v w' := by obtain ⟨b, e, hb⟩ := h; exact ⟨b, e, Ww.Bx.u8 hb (by decide) hg⟩
theorem BT.u8 {l : List Bs} {v : Value} {w w' : World} (h : BT l v w) (hg : U8 w w') : BT l v w' := by obtain ⟨b, e, hb⟩ := h; exact ⟨b, e, Ww.Bx.u8 hb (by decide) hg⟩
def FR (base : Nat) (bs : Bs) (r : Rcp) : Nat → Value → World → Prop := fun i v w =>
  if i = 0 then Wt w base v bs else if i = 3 then BI [r.q] v w else if i = 4 then Wt w base v (bs ++ encN r.q) else if i = 7 then BT [r.g] v w
  else if i = 8 then Wt w base v (bs ++ encN r.q ++ encText r.g) else if i = 13 then BI [r.s, r.c] v w else Wt w base v (bs ++ encN r.q ++ encText r.g ++ (encN r.s ++ encN r.c))
/-- What holds all along: the box, and what is kept. -/
def SR (w0 : World) (base b0 : Nat) (C : Array Value) (t : TypeId) (w : World) : Prop := Bx w b0 C t ∧ Below base w0 w ∧ U8 w0 w
theorem SR.gr {w0 : World} {base b0 : Nat} {C : Array Value} {t : TypeId} {w w' : World} (h : SR w0 base b0 C t w) (hb : base ≤ w0.heap.size) (hg : Gr w w') : SR w0 base b0 C t w' :=
  ⟨h.1.gr hg, h.2.1.trans (below_down hg.below (Nat.le_trans hb h.2.1.size)), h.2.2.trans (U8.ofGr hg)⟩
theorem SR.wrote {w0 : World} {base b0 : Nat} {C : Array Value} {t : TypeId} {w w' : World} (h : SR w0 base b0 C t w) (ht : t ≠ 5) (hb : Below base w w') (hu : U8 w w') : SR w0 base b0 C t w' :=
  ⟨Ww.Bx.u8 h.1 ht hu, h.2.1.trans hb, h.2.2.trans hu⟩

theorem hmf : ∀ (fn : Fn) (first cap : Array Value) (w : World), (Instr.makeFunc fn first cap).run Tryz.prog w = .ok (.func fn first cap) w := fun _ _ _ _ => rfl

set_option maxHeartbeats 4000000 in
theorem receipt_any (w : World) (base : Nat) (v : Value) (bs : Bs) (r : Rcp) (hw : Wt w base v bs) (hb : base ≤ w.heap.size) (hn : bs.length ≤ 900000000) (hr : rcB r = true) (hg : r.g.length ≤ 4096) :
    Calls Tryz.prog 114 #[v, .agg (Rv r)] w fun e w' => Wrote w base (bs ++ encRcp r) e w' := by
  have k0 : (Rv r)[0]? = some (.int .i64 r.q) := rfl
  have k1 : (Rv r)[1]? = some (.string (S r.g)) := rfl
  have k2 : (Rv r)[2]? = some (.int .i64 r.s) := rfl
  have k3 : (Rv r)[3]? = some (.int .i64 r.c) := rfl
  obtain ⟨W0, hW0⟩ : ∃ W0, W0 = w.alloc (.cells (Rv r) 41) := ⟨_, rfl⟩
  have hG0 : Gr w W0 := hW0 ▸ (Gr.refl w).alloc _
  have HS0 : Hid (SR W0 base w.heap.size (Rv r) 41 W0.drew) := mkH ⟨(hW0 ▸ Bx.new w (Rv r) _).gr ((Gr.refl _).drew), (Below.refl _ _).drew, (U8.refl _).drew⟩
  have HW0 := mkH ((hw.gr hG0).gr ((Gr.refl W0).drew))
  have HB0 : Hid (base ≤ W0.heap.size) := mkH (Nat.le_trans hb hG0.below.size)
  have HG0 := mkH hG0
  generalize Rv r = C at *
  go_enter Tryz.func114, Tryz.ntmps114
  go_wp2_with fail
  rw [← hW0]
  clear hG0 hW0
  have hbb : base ≤ w.heap.size := hb
  have HBB := mkH hb
  have HBw := mkH hb
  clear hb hw hbb
  generalize hBq : w.heap.size = B at HBB HS0 ⊢
  clear hBq
  refine wp_region_held_drew (S := fun W => SR W0 base B C 41 W) (by kernel_rfl) HS0.out (fun hHeld => ?_)
  have hq : ∀ W, SR W0 base B C 41 W → ∀ k, W.cell? ⟨B, k, none⟩ = C[k]? := fun W h => h.1.cell
  refine wpAnyH_take (i := 0) (oi := { dst := some 5, op := _, type := _, pos := _, after := _, guard := _ }) (v := ?_) rfl (by kernel_rfl) (by kernel_rfl) (by kernel_rfl) (fun _ _ _ h => h) (Or.inl ⟨by rfl, ?_⟩) (by assumption) ?_
  rotate_left
  · (intro W hSw; (try dsimp only at hSw); go_simp; try (with_reducible rfl))
  try simp only [Act.put, List.setIfInBounds_toArray, List.set_cons_zero, List.set_cons_succ]
  refine wpAnyH_take (i := 1) (oi := { dst := some 6, op := _, type := _, pos := _, after := _, guard := _ }) (v := ?_) rfl (by kernel_rfl) (by kernel_rfl) (by kernel_rfl) (fun _ _ _ h => h) (Or.inl ⟨by rfl, ?_⟩) (by assumption) ?_
  rotate_left
  · (intro W hSw; (try dsimp only at hSw); go_simp; try (with_reducible rfl))
  try simp only [Act.put, List.setIfInBounds_toArray, List.set_cons_zero, List.set_cons_succ]
  refine wpAnyH_take (i := 2) (oi := { dst := some 7, op := _, type := _, pos := _, after := _, guard := _ }) (v := ?_) rfl (by kernel_rfl) (by kernel_rfl) (by kernel_rfl) (fun _ _ _ h => h) (Or.inl ⟨by rfl, ?_⟩) (by assumption) ?_
  rotate_left
  · (intro W hSw; (try dsimp only at hSw); go_simp; try (with_reducible rfl))
  try simp only [Act.put, List.setIfInBounds_toArray, List.set_cons_zero, List.set_cons_succ]
  refine wpAnyH_take (i := 5) (oi := { dst := some 10, op := _, type := _, pos := _, after := _, guard := _ }) (v := ?_) rfl (by kernel_rfl) (by kernel_rfl) (by kernel_rfl) (fun _ _ _ h => h) (Or.inl ⟨by rfl, ?_⟩) (by assumption) ?_
  rotate_left
  · (intro W hSw; (try dsimp only at hSw); go_simp; try (with_reducible rfl))
  try simp only [Act.put, List.setIfInBounds_toArray, List.set_cons_zero, List.set_cons_succ]
  refine wpAnyH_take (i := 6) (oi := { dst := some 11, op := _, type := _, pos := _, after := _, guard := _ }) (v := ?_) rfl (by kernel_rfl) (by kernel_rfl) (by kernel_rfl) (fun _ _ _ h => h) (Or.inl ⟨by rfl, ?_⟩) (by assumption) ?_
  rotate_left
  · (intro W hSw; (try dsimp only at hSw); go_simp; try (with_reducible rfl))
  try simp only [Act.put, List.setIfInBounds_toArray, List.set_cons_zero, List.set_cons_succ]
  refine wpAnyH_take (i := 9) (oi := { dst := some 14, op := _, type := _, pos := _, after := _, guard := _ }) (v := ?_) rfl (by kernel_rfl) (by kernel_rfl) (by kernel_rfl) (fun _ _ _ h => h) (Or.inl ⟨by rfl, ?_⟩) (by assumption) ?_
  rotate_left
  · (intro W hSw; (try dsimp only at hSw); go_simp; try (with_reducible rfl))
  try simp only [Act.put, List.setIfInBounds_toArray, List.set_cons_zero, List.set_cons_succ]
  refine wpAnyH_take (i := 10) (oi := { dst := some 15, op := _, type := _, pos := _, after := _, guard := _ }) (v := ?_) rfl (by kernel_rfl) (by kernel_rfl) (by kernel_rfl) (fun _ _ _ h => h) (Or.inl ⟨by rfl, ?_⟩) (by assumption) ?_
  rotate_left
  · (intro W hSw; (try dsimp only at hSw); go_simp; try (with_reducible rfl))
  try simp only [Act.put, List.setIfInBounds_toArray, List.set_cons_zero, List.set_cons_succ]
  refine wpAnyH_take (i := 11) (oi := { dst := some 16, op := _, type := _, pos := _, after := _, guard := _ }) (v := ?_) rfl (by kernel_rfl) (by kernel_rfl) (by kernel_rfl) (fun _ _ _ h => h) (Or.inl ⟨by rfl, ?_⟩) (by assumption) ?_
  rotate_left
  · (intro W hSw; (try dsimp only at hSw); go_simp; try (with_reducible rfl))
  try simp only [Act.put, List.setIfInBounds_toArray, List.set_cons_zero, List.set_cons_succ]
  refine wpAnyH_take (i := 12) (oi := { dst := some 17, op := _, type := _, pos := _, after := _, guard := _ }) (v := ?_) rfl (by kernel_rfl) (by kernel_rfl) (by kernel_rfl) (fun _ _ _ h => h) (Or.inl ⟨by rfl, ?_⟩) (by assumption) ?_
  rotate_left
  · (intro W hSw; (try dsimp only at hSw); go_simp; try (with_reducible rfl))
  try simp only [Act.put, List.setIfInBounds_toArray, List.set_cons_zero, List.set_cons_succ]
  have e1 : [r.q].flatMap encN = encN r.q := by simp
  have e2 : [r.g].flatMap encText = encText r.g := by simp
  have e3 : [r.s, r.c].flatMap encN = encN r.s ++ encN r.c := by simp
  simp only [rcB, Bool.and_eq_true] at hr
  obtain ⟨n1, n2, n3⟩ := hr
  have n1 := num_ok n1
  have n2 := num_ok n2
  have n3 := num_ok n3
  have o1 : ∀ x ∈ [r.q], 0 ≤ x ∧ x ≤ 4611686018427387904 := by intro x hx; simp at hx; subst hx; omega
  have o2 : ∀ x ∈ [r.g], x.length ≤ 4096 := by intro x hx; simp at hx; subst hx; exact hg
  have o3 : ∀ x ∈ [r.s, r.c], 0 ≤ x ∧ x ≤ 4611686018427387904 := by intro x hx; simp at hx; rcases hx with rfl | rfl <;> omega
  have l1 : (encN r.q).length ≤ 9 := enc_len9 (by omega)
  have l2 : (encText r.g).length ≤ 4105 := by unfold encText; rw [List.length_append]; have := enc_len9 (n := r.g.length) (by omega); omega
  refine wpAnyH_lin [0, 3, 4, 7, 8, 13, 14, 15] dstR consR depsR isWR [0] (FR base bs r) Gr U8 (by decide) (by kernel_rfl) ?s0 ?s1 ?step ?fin ?hpre (by decide) hHeld (by decide) rfl
  case s0 =>
    intro i hi v w w' h hg
    simp only [List.mem_cons, List.not_mem_nil, or_false] at hi
    rcases hi with rfl | rfl | rfl | rfl | rfl | rfl | rfl | rfl
    · exact Wt.gr h hg
    · exact BI.gr h hg
    · exact Wt.gr h hg
    · exact BT.gr h hg
    · exact Wt.gr h hg
    · exact BI.gr h hg
    · exact Wt.gr h hg
    · exact Wt.gr h hg
  case s1 =>
    intro i hi hw v w w' h hg
    simp only [List.mem_cons, List.not_mem_nil, or_false] at hi
    rcases hi with rfl | rfl | rfl | rfl | rfl | rfl | rfl | rfl
    · cases hw
    · exact BI.u8 h hg
    · cases hw
    · exact BT.u8 h hg
    · cases hw
    · exact BI.u8 h hg
    · cases hw
    · cases hw
  case hpre =>
    intro i hi
    obtain rfl := List.mem_singleton.1 hi
    exact HW0.out
  case step =>
    intro i hi hip x w hS hF
    simp only [List.mem_cons, List.not_mem_nil, or_false] at hi
    rcases hi with rfl | rfl | rfl | rfl | rfl | rfl | rfl | rfl
    · exact absurd (by decide) hip
    · refine op_value rfl rfl (v := .slice (some ⟨w.heap.size, 0, none⟩) 1 1) (w' := w.alloc (.cells #[.int .i64 r.q] 3)) ?_ ⟨_, rfl, hS.gr HB0.out ((Gr.refl w).alloc _), ⟨_, rfl, Bx.new w #[.int .i64 r.q] 3⟩, (Gr.refl w).alloc _⟩
      simp only [puts, dstR, Act.put, List.setIfInBounds_toArray, List.set_cons_zero, List.set_cons_succ]
      go_simp
    · obtain ⟨b, hx, hbx⟩ : BI [r.q] (x 3) w := hF 3 (by decide)
      have hw1 : Wt w base (x 0) (bs) := hF 0 (by decide)
      refine op_call rfl rfl (f := 84) (args := #[x 0, x 3]) ?_ ?_
      · simp only [puts, dstR, Act.put, List.setIfInBounds_toArray, List.set_cons_zero, List.set_cons_succ]
        go_simp
      · rw [hx]
        refine (nums_any w base (x 0) (bs) hw1 (Nat.le_trans HB0.out hS.2.1.size) (by omega) b _ [r.q] hbx (by simp) (o1)).mono ?_
        rintro e w' ⟨v', rfl, hw', hb', hu'⟩
        rw [e1] at hw'
        exact ⟨v', rfl, _, rfl, hS.wrote (by decide) hb' hu', hw', hu'⟩
    · refine op_value rfl rfl (v := .slice (some ⟨w.heap.size, 0, none⟩) 1 1) (w' := w.alloc (.cells #[.string (S r.g)] 9)) ?_ ⟨_, rfl, hS.gr HB0.out ((Gr.refl w).alloc _), ⟨_, rfl, Bx.new w #[.string (S r.g)] 9⟩, (Gr.refl w).alloc _⟩
      simp only [puts, dstR, Act.put, List.setIfInBounds_toArray, List.set_cons_zero, List.set_cons_succ]
      go_simp
    · obtain ⟨b, hx, hbx⟩ : BT [r.g] (x 7) w := hF 7 (by decide)
      have hw1 : Wt w base (x 4) (bs ++ encN r.q) := hF 4 (by decide)
      refine op_call rfl rfl (f := 115) (args := #[x 4, x 7]) ?_ ?_
      · simp only [puts, dstR, Act.put, List.setIfInBounds_toArray, List.set_cons_zero, List.set_cons_succ]
        go_simp
      · rw [hx]
        refine (texts_any w base (x 4) (bs ++ encN r.q) hw1 (Nat.le_trans HB0.out hS.2.1.size) (by simp only [List.length_append]; omega) b _ [r.g] hbx (by simp) (o2)).mono ?_
        rintro e w' ⟨v', rfl, hw', hb', hu'⟩
        rw [e2] at hw'
        exact ⟨v', rfl, _, rfl, hS.wrote (by decide) hb' hu', hw', hu'⟩
    · refine op_value rfl rfl (v := .slice (some ⟨w.heap.size, 0, none⟩) 2 2) (w' := w.alloc (.cells #[.int .i64 r.s, .int .i64 r.c] 3)) ?_ ⟨_, rfl, hS.gr HB0.out ((Gr.refl w).alloc _), ⟨_, rfl, Bx.new w #[.int .i64 r.s, .int .i64 r.c] 3⟩, (Gr.refl w).alloc _⟩
      simp only [puts, dstR, Act.put, List.setIfInBounds_toArray, List.set_cons_zero, List.set_cons_succ]
      go_simp
    · obtain ⟨b, hx, hbx⟩ : BI [r.s, r.c] (x 13) w := hF 13 (by decide)
      have hw1 : Wt w base (x 8) (bs ++ encN r.q ++ encText r.g) := hF 8 (by decide)
      refine op_call rfl rfl (f := 84) (args := #[x 8, x 13]) ?_ ?_
      · simp only [puts, dstR, Act.put, List.setIfInBounds_toArray, List.set_cons_zero, List.set_cons_succ]
        go_simp
      · rw [hx]
        refine (nums_any w base (x 8) (bs ++ encN r.q ++ encText r.g) hw1 (Nat.le_trans HB0.out hS.2.1.size) (by simp only [List.length_append]; omega) b _ [r.s, r.c] hbx (by simp) (o3)).mono ?_
        rintro e w' ⟨v', rfl, hw', hb', hu'⟩
        rw [e3] at hw'
        exact ⟨v', rfl, _, rfl, hS.wrote (by decide) hb' hu', hw', hu'⟩
    · have hw1 : Wt w base (x 14) (bs ++ encN r.q ++ encText r.g ++ (encN r.s ++ encN r.c)) := hF 14 (by decide)
      refine op_value rfl rfl (v := x 14) (w' := w) ?_ ⟨_, rfl, hS, hw1, U8.refl w⟩
      simp only [puts, dstR, Act.put, List.setIfInBounds_toArray, List.set_cons_zero, List.set_cons_succ]
      go_simp
  case fin =>
    intro x w hS hF
    have hw1 : Wt w base (x 15) (bs ++ encN r.q ++ encText r.g ++ (encN r.s ++ encN r.c)) := hF 15 (by decide) (by decide)
    have HW1 := mkH hw1
    have HS1 := mkH hS
    clear hw1 hF hS hq hHeld HS0
    simp only [puts, dstR, Act.put, List.setIfInBounds_toArray, List.set_cons_zero, List.set_cons_succ]
    go_wp2
    go_ret
    refine ⟨_, rfl, ?_, (below_down HG0.out.below HBw.out).trans HS1.out.2.1, (U8.ofGr HG0.out).trans HS1.out.2.2⟩
    have := HW1.out
    rw [List.append_assoc, List.append_assoc] at this
    exact this
end Go.Proofs.YtenkgpfeifflnaaGreat.Wv
