/-
  The contract of the laws' 'works'.
-/
import Derived.Test.YtjfbhchpgmimfaaDoorSgV
import Derived.Lib.ConvBytes
import Derived.Lib.SlBytesConst
namespace Go.Proofs.YtjfbhchpgmimfaaDoor.Sw
open Go.RowKit Kt Cs Cf Cv Ck Ca Dk Dp Da Db Dc Dd De Sq Sr Sa Sb Sc Se Sf Sk Sm St Su Sv Pl
set_option linter.unusedVariables false
set_option maxRecDepth 20000

theorem off_mono {l : List (List UInt8)} : ∀ {j k : Nat}, j < k → k ≤ l.length → off l j < off l k
  | j, 0, h, _ => by omega
  | j, k + 1, h, hk => by
    rw [off_succ (by omega)]
    by_cases e : j = k
    · subst e; omega
    · have := off_mono (l := l) (j := j) (k := k) (by omega) (by omega); omega
/-- A crash that leaves nothing of what is not kept. -/
theorem lj_zero {s : Sg} (h : Fits s) (f : Int) : lj s (0, f) = kn s ∧ tl s (0, f) = [] := by
  obtain ⟨h1, h2, h3, h4⟩ := left_is h (0, f)
  have e : (dst (some (0, f)) s).kept ++ (dst (some (0, f)) s).rest = fcat ((bod s).take (kn s)) := by
    simp only [dst, kb]
    rw [Sp.turn_none (by simp)]
    simp
  rw [e] at h3
  have hl := congrArg List.length h3
  rw [List.length_append] at hl
  have hle : lj s (0, f) = kn s := by
    rcases Nat.lt_or_ge (kn s) (lj s (0, f)) with x | x
    · have := off_mono (l := bod s) x (by rw [bod_len]; exact h2)
      unfold off at this
      omega
    · omega
  rw [hle] at hl
  exact ⟨hle, List.eq_nil_of_length_eq_zero (by omega)⟩

def q0 : H := ⟨2, [], 0, none⟩
def q1 : H := ⟨2, [⟨0, [[120]], none⟩], 0, none⟩
def q2 : H := ⟨2, [⟨0, [[120], [121]], none⟩], 0, none⟩
def q3 : H := ⟨2, [⟨0, [[120], [121]], none⟩, ⟨2, [[122]], none⟩], 0, none⟩
def q4 : H := ⟨2, [⟨0, [[120], [121]], some 2⟩, ⟨2, [[122]], some 1⟩], 3, none⟩
def q5 : H := ⟨2, [⟨0, [[120], [121]], some 2⟩, ⟨2, [[122], [119]], some 1⟩], 3, none⟩
theorem a0 : apH q0 [120] = q1 := rfl
theorem a1 : apH q1 [121] = q2 := rfl
theorem a2 : apH q2 [122] = q3 := rfl
theorem a3 : syH q3 = q4 := rfl
theorem a4 : apH q4 [119] = q5 := rfl
theorem i0 : Inv 0 q0 := inv_new (by omega) (by omega)
theorem i1 : Inv 1 q1 := by rw [← a0]; exact inv_ap i0 (by omega) (by simp)
theorem i2 : Inv 2 q2 := by rw [← a1]; exact inv_ap i1 (by omega) (by simp)
theorem i3 : Inv 3 q3 := by rw [← a2]; exact inv_ap i2 (by omega) (by simp)
theorem i4 : Inv 3 q4 := by rw [← a3]; exact inv_sy i3
theorem i5 : Inv 4 q5 := by rw [← a4]; exact inv_ap i4 (by omega) (by simp)
def q6 : H := { q5 with dn := some (0, 0) }
theorem a5 : crH q5 0 0 = q6 := rfl
theorem i6 : Inv 4 q6 := by rw [← a5]; exact inv_cr i5 0 0
theorem a6 : (rst q6).segs.length = 2 ∧ nn (rst q6) = 3 := by
  have f0 : Fits ⟨0, [[120], [121]], some 2⟩ := i5.fits _ (by simp [q5])
  have f1 : Fits ⟨2, [[122], [119]], some 1⟩ := i5.fits _ (by simp [q5])
  obtain ⟨x0, y0⟩ := lj_zero f0 0
  obtain ⟨x1, y1⟩ := lj_zero f1 0
  have k0 : kn ⟨0, [[120], [121]], some 2⟩ = 3 := rfl
  have k1 : kn ⟨2, [[122], [119]], some 1⟩ = 2 := rfl
  rw [k0] at x0
  rw [k1] at x1
  have e : rs 2 (0, 0) q5.segs = [lft ⟨0, [[120], [121]], some 2⟩ (0, 0), lft ⟨2, [[122], [119]], some 1⟩ (0, 0)] := by
    simp only [q5]
    rw [rs, if_neg (by rw [x0]; decide), if_pos ⟨y0, x0⟩, rs, if_neg (by rw [x1]; decide), if_neg (by rw [x1]; intro h; cases h.2)]
  have er : rst q6 = ⟨2, rs 2 (0, 0) q5.segs, top (rs 2 (0, 0) q5.segs), none⟩ := rfl
  rw [er, e]
  refine ⟨rfl, ?_⟩
  show top [_, lft ⟨2, [[122], [119]], some 1⟩ (0, 0)] = 3
  simp [top, lft, x1]
def wsH : Nat → H
  | 0 => q0
  | 1 => q1
  | 2 => q2
  | _ => q3

theorem below_bytes (W : World) (e : TypeId) (s : ByteArray) : Below W.heap.size W (Lib.bytesWorld W e s) := ⟨rfl, rfl, rfl, by rw [Lib.bytesWorld_size]; omega, fun k hk => Lib.bytesWorld_at_old W e s k hk⟩
theorem row_bytes (W : World) (e : TypeId) (c : UInt8) : Row (Lib.bytesWorld W e ⟨#[c]⟩) (some ⟨W.heap.size, 0, none⟩) [c] := fun _ => ⟨W.heap.size, 0, rfl, fun i hi => by
  have h0 : i = 0 := by simpa using hi
  subst h0
  exact Lib.bytesWorld_cell W e ⟨#[c]⟩ 0 Nat.one_pos⟩
theorem r3 : syE q3 = 0 := rfl
theorem r5 : nn q5 = 4 ∧ ns q5 = 3 ∧ crE q5 0 = 0 := ⟨rfl, rfl, rfl⟩
theorem r6 : rsE q6 = 0 := rfl
theorem inv_ws : ∀ j, Inv 3 (wsH j)
  | 0 => Inv.more i0 (by omega)
  | 1 => Inv.more i1 (by omega)
  | 2 => Inv.more i2 (by omega)
  | _ + 3 => i3

set_option maxHeartbeats 2000000 in
theorem works_any (w : World) (hT : Tb w) : Calls Tryd.prog 28 #[] w fun e w' => e = .returned (.bool true) ∧ Below w.heap.size w w' := by
  have kc := fun (W : World) (s : ByteArray) => Lib.run_convert_string_bytes (P := Tryd.prog) W 9 30 5 s Tryd.underlying9 Tryd.underlying30 Tryd.underlying5
  have kd := fun (w : World) (C : Array Value) (n c : Nat) => Lib.run_convert_bytes_const (P := Tryd.prog) w 30 5 C n c Tryd.underlying30 Tryd.underlying5
  have hn := new_ln w hT 2 (by omega) (by omega)
  obtain ⟨B, hB⟩ : ∃ B, w.heap.size = B := ⟨_, rfl⟩
  rw [hB] at hn
  have HN := mkH hn
  have HT := mkH hT
  clear hn hT
  go_enter Tryd.func28, Tryd.ntmps28
  go_wp2_with fail
  refine HN.out.mono ?_
  rintro e w1 ⟨rfl, h1⟩
  have H1 := mkH h1
  have hs1 := h1.size
  clear h1
  go_wp2_with fail
  obtain ⟨w2, hw2⟩ : ∃ w2, w1.alloc (.cells #[.string ⟨#[120]⟩, .string ⟨#[121]⟩, .string ⟨#[122]⟩] 9) = w2 := ⟨_, rfl⟩
  have hb2 : Below w1.heap.size w1 w2 := by rw [← hw2]; exact (Below.refl _ w1).alloc (Nat.le_refl _) _
  have hss : w2.heap[w1.heap.size]? = some (.cells #[.string ⟨#[120]⟩, .string ⟨#[121]⟩, .string ⟨#[122]⟩] 9 (0, 0)) := by rw [← hw2]; exact heap_alloc_new _ _
  have h2 := H1.out.more hb2
  obtain ⟨b0, hb0⟩ : ∃ b0, w1.heap.size = b0 := ⟨_, rfl⟩
  rw [hb0] at hss h2
  rw [hw2, hb0]
  have hbw : Below w.heap.size w w2 := (H1.out.toBelow (fun k hk => by omega)).trans (hb2.mono hs1)
  have hlt2 := block_lt hss
  have HB := mkH hbw
  have HSS := mkH hss
  have H2 := mkH h2
  clear hb2 hss h2 hbw hw2 hs1 HN H1
  go_loopw [17] (fun i W => ∃ j : Nat, j ≤ 3 ∧ i = .int .i64 j ∧ Hid (Ln w2 (fun k => k < B ∨ (b0 ≤ k ∧ k < w2.heap.size)) W B (wsH j))) (fun i _ => 3 - (intOf i).toNat)
  case atStart => exact ⟨0, by omega, rfl, H2⟩
  case round =>
    obtain ⟨j, hj, rfl, HL⟩ := hrel
    have hsw : wr.heap[b0]? = some (.cells #[.string ⟨#[120]⟩, .string ⟨#[121]⟩, .string ⟨#[122]⟩] 9 (0, 0)) := (HL.out.fr.heap hlt2 (fun x => x (.inr ⟨Nat.le_refl _, hlt2⟩))).trans HSS.out
    have c0 : wr.cell? ⟨b0, 0, none⟩ = some (.string ⟨#[120]⟩) := by rw [cell_of_row _ _ _ _ _ _ hsw]; rfl
    have c1 : wr.cell? ⟨b0, 1, none⟩ = some (.string ⟨#[121]⟩) := by rw [cell_of_row _ _ _ _ _ _ hsw]; rfl
    have c2 : wr.cell? ⟨b0, 2, none⟩ = some (.string ⟨#[122]⟩) := by rw [cell_of_row _ _ _ _ _ _ hsw]; rfl
    clear hsw
    have hround : ∀ (c : UInt8) (j : Nat), apH (wsH j) [c] = wsH (j + 1) → Ln w2 (fun k => k < B ∨ (b0 ≤ k ∧ k < w2.heap.size)) wr B (wsH j) → Hid (∀ cap, Calls Tryd.prog 12 #[.pointer (some ⟨B, 0, none⟩), .slice (some ⟨wr.heap.size, 0, none⟩) 1 cap] (Lib.bytesWorld wr 5 ⟨#[c]⟩) fun e w' => (∃ x y, e = .returned (.tuple #[x, y])) ∧ Ln w2 (fun k => k < B ∨ (b0 ≤ k ∧ k < w2.heap.size)) w' B (wsH (j + 1))) := fun c j he hl cap => by
      have := append_ln (hl.below (below_bytes wr 5 ⟨#[c]⟩)) (inv_ws j) (by omega) (some ⟨wr.heap.size, 0, none⟩) cap [c] (row_bytes wr 5 c) (by simp)
      refine this.mono ?_
      rintro e w' ⟨rfl, h⟩
      rw [he] at h
      exact ⟨⟨_, _, rfl⟩, h⟩
    match j, hj, HL with
    | 0, _, HL =>
      have HR := hround 120 0 rfl HL.out
      clear hround c1 c2
      go_wp2_with fail
      refine (HR.out _).mono ?_
      rintro e w3 ⟨⟨x, y, rfl⟩, h3⟩
      have H3 := mkH h3
      clear h3 HR c0
      go_wp2_with fail
      exact ⟨⟨1, by omega, by go_num, H3.out⟩, by simp [intOf]⟩
    | 1, _, HL =>
      have HR := hround 121 1 rfl HL.out
      clear hround c0 c2
      go_wp2_with fail
      refine (HR.out _).mono ?_
      rintro e w3 ⟨⟨x, y, rfl⟩, h3⟩
      have H3 := mkH h3
      clear h3 HR c1
      go_wp2_with fail
      exact ⟨⟨2, by omega, by go_num, H3.out⟩, by simp [intOf]⟩
    | 2, _, HL =>
      have HR := hround 122 2 rfl HL.out
      clear hround c0 c1
      go_wp2_with fail
      refine (HR.out _).mono ?_
      rintro e w3 ⟨⟨x, y, rfl⟩, h3⟩
      have H3 := mkH h3
      clear h3 HR c2
      go_wp2_with fail
      exact ⟨⟨3, by omega, by go_num, H3.out⟩, by simp [intOf]⟩
    | 3, _, HL =>
      have HL3 : Hid (Ln w2 (fun k => k < B ∨ (b0 ≤ k ∧ k < w2.heap.size)) wr B q3) := HL
      clear hround c0 c1 c2 HL
      go_wp2_with fail
      refine (sync_ln HL3.out i3).mono ?_
      rintro e w3 ⟨rfl, h3⟩
      rw [a3] at h3
      have H3 := mkH h3
      clear h3 HL3
      go_wp2_with fail
      have hr : Row (w3.alloc (.cells #[.int .u8 119] 5 (1, 2))) (some ⟨w3.heap.size, 0, none⟩) [119] := fun _ => ⟨_, 0, rfl, fun i hi => by
        have h0 : i = 0 := by simpa using hi
        subst h0
        rw [cell_of_row _ _ _ _ _ _ (heap_alloc_new _ _)]; rfl⟩
      have ha := append_ln (H3.out.below ((Below.refl _ w3).alloc (Nat.le_refl _) _)) i4 (by omega) (some ⟨w3.heap.size, 0, none⟩) 1 [119] hr (by simp)
      rw [a4] at ha
      refine ha.mono ?_
      rintro e w4 ⟨rfl, h4⟩
      have H4 := mkH h4
      clear h4 H3 ha hr
      go_wp2_with fail
      refine (len_ln H4.out i5.p1).mono ?_
      rintro e w' ⟨rfl, rfl⟩
      rw [r5.1]
      go_wp2_with fail
      refine (safe_ln H4.out i5.p1).mono ?_
      rintro e w' ⟨rfl, rfl⟩
      rw [r5.2.1]
      go_wp2_with fail
      refine (crash_ln H4.out i5 0 0 (by omega)).mono ?_
      rintro e w5 ⟨rfl, h5⟩
      rw [a5] at h5
      rw [r5.2.2]
      have H5 := mkH h5
      clear h5 H4
      go_wp2_with fail
      refine (restart_ln H5.out i6 (by omega)).mono ?_
      rintro e w6 ⟨rfl, h6⟩
      rw [r6]
      have H6 := mkH h6
      clear h6 H5
      go_wp2_with fail
      refine (len_ln H6.out (inv_rs i6).p1).mono ?_
      rintro e w' ⟨rfl, rfl⟩
      rw [a6.2]
      go_wp2_with fail
      refine (segments_ln H6.out (inv_rs i6)).mono ?_
      rintro e w7 ⟨a, c, rfl, -, h7⟩
      rw [a6.1]
      have H7 := mkH h7
      clear h7 H6
      go_wp2_with fail
      go_ret
      exact ⟨rfl, HB.out.trans (H7.out.toBelow (fun k hk => .inl (by omega)))⟩
    | n + 4, hj, _ => exact absurd hj (by omega)
end Go.Proofs.YtjfbhchpgmimfaaDoor.Sw
