/-
  Load's messages and tokens.
-/
import Derived.Test.YtcpmaddleleblaaDoorGpDr
namespace Go.Proofs.YtcpmaddleleblaaDoor.Gdl
open Go.RowKit Kt Gf Gp Gr Gk Ga Gs Gb Gst Pl Wr Rd Fw Gdp Gdr
set_option linter.unusedVariables false
set_option linter.unusedSimpArgs false
set_option maxRecDepth 20000

theorem sAll6 {w : World} {b : Nat} {a0 a1 a2 a3 a4 a5 v0 v1 v2 v3 v4 v5 : Value} {t : TypeId} (h : Bx w b #[a0, a1, a2, a3, a4, a5] t) : Bx ((((((w.setCell ⟨b, 0, none⟩ v0).setCell ⟨b, 1, none⟩ v1).setCell ⟨b, 2, none⟩ v2).setCell ⟨b, 3, none⟩ v3).setCell ⟨b, 4, none⟩ v4).setCell ⟨b, 5, none⟩ v5) b #[v0, v1, v2, v3, v4, v5] t ∧ Fr (fun x => x = b) w ((((((w.setCell ⟨b, 0, none⟩ v0).setCell ⟨b, 1, none⟩ v1).setCell ⟨b, 2, none⟩ v2).setCell ⟨b, 3, none⟩ v3).setCell ⟨b, 4, none⟩ v4).setCell ⟨b, 5, none⟩ v5) := by
  have h0 : Bx _ b #[v0, a1, a2, a3, a4, a5] t := h.set 0 v0
  have h1 : Bx _ b #[v0, v1, a2, a3, a4, a5] t := h0.set 1 v1
  have h2 : Bx _ b #[v0, v1, v2, a3, a4, a5] t := h1.set 2 v2
  have h3 : Bx _ b #[v0, v1, v2, v3, a4, a5] t := h2.set 3 v3
  have h4 : Bx _ b #[v0, v1, v2, v3, v4, a5] t := h3.set 4 v4
  have h5 : Bx _ b #[v0, v1, v2, v3, v4, v5] t := h4.set 5 v5
  exact ⟨h5, ((((((h.frset 0 v0).trans (h0.frset 1 v1) (fun i hi => .inl hi)).trans (h1.frset 2 v2) (fun i hi => .inl hi)).trans (h2.frset 3 v3) (fun i hi => .inl hi)).trans (h3.frset 4 v4) (fun i hi => .inl hi)).trans (h4.frset 5 v5) (fun i hi => .inl hi))⟩
theorem sAll3 {w : World} {b : Nat} {a0 a1 a2 v0 v1 v2 : Value} {t : TypeId} (h : Bx w b #[a0, a1, a2] t) : Bx (((w.setCell ⟨b, 0, none⟩ v0).setCell ⟨b, 1, none⟩ v1).setCell ⟨b, 2, none⟩ v2) b #[v0, v1, v2] t ∧ Fr (fun x => x = b) w (((w.setCell ⟨b, 0, none⟩ v0).setCell ⟨b, 1, none⟩ v1).setCell ⟨b, 2, none⟩ v2) := by
  have h0 : Bx _ b #[v0, a1, a2] t := h.set 0 v0
  have h1 : Bx _ b #[v0, v1, a2] t := h0.set 1 v1
  have h2 : Bx _ b #[v0, v1, v2] t := h1.set 2 v2
  exact ⟨h2, (((h.frset 0 v0).trans (h0.frset 1 v1) (fun i hi => .inl hi)).trans (h1.frset 2 v2) (fun i hi => .inl hi))⟩
theorem cells6 {w : World} {b : Nat} {a0 a1 a2 a3 a4 a5 : Value} {t : TypeId} (h : Bx w b #[a0, a1, a2, a3, a4, a5] t) : w.cell? ⟨b, 0, none⟩ = some a0 ∧ w.cell? ⟨b, 1, none⟩ = some a1 ∧ w.cell? ⟨b, 2, none⟩ = some a2 ∧ w.cell? ⟨b, 3, none⟩ = some a3 ∧ w.cell? ⟨b, 4, none⟩ = some a4 ∧ w.cell? ⟨b, 5, none⟩ = some a5 ∧ w.frozen? ⟨b, 0, none⟩ = false ∧ w.frozen? ⟨b, 1, none⟩ = false ∧ w.frozen? ⟨b, 2, none⟩ = false ∧ w.frozen? ⟨b, 3, none⟩ = false ∧ w.frozen? ⟨b, 4, none⟩ = false ∧ w.frozen? ⟨b, 5, none⟩ = false :=
  ⟨h.cell 0 _ rfl, h.cell 1 _ rfl, h.cell 2 _ rfl, h.cell 3 _ rfl, h.cell 4 _ rfl, h.cell 5 _ rfl, h.frozen 0, h.frozen 1, h.frozen 2, h.frozen 3, h.frozen 4, h.frozen 5⟩
theorem cells3 {w : World} {b : Nat} {a0 a1 a2 : Value} {t : TypeId} (h : Bx w b #[a0, a1, a2] t) : w.cell? ⟨b, 0, none⟩ = some a0 ∧ w.cell? ⟨b, 1, none⟩ = some a1 ∧ w.cell? ⟨b, 2, none⟩ = some a2 ∧ w.frozen? ⟨b, 0, none⟩ = false ∧ w.frozen? ⟨b, 1, none⟩ = false ∧ w.frozen? ⟨b, 2, none⟩ = false :=
  ⟨h.cell 0 _ rfl, h.cell 1 _ rfl, h.cell 2 _ rfl, h.frozen 0, h.frozen 1, h.frozen 2⟩
theorem row_off6 {W : World} {B : Nat} {y0 : Int} {y1 : Int} {y2 : Int} {y3 : Int} {y4 : Int} {y5 : ByteArray} {t : TypeId} {ao : Option Addr} {bs : List UInt8} (h : Row W ao bs) (hl : 0 < bs.length) (hB : Bx W B #[Value.int .i64 y0, .int .i64 y1, .int .i64 y2, .int .i64 y3, .int .i64 y4, .string y5] t) : ∀ a, ao = some a → a.block ≠ B := by
  obtain ⟨b, off, rfl, hc⟩ := h hl
  rintro a ha rfl
  cases ha
  have := hc 0 hl
  rw [cell_of_row _ _ _ _ _ _ hB] at this
  match off with
  | 0 => simp at this
  | 1 => simp at this
  | 2 => simp at this
  | 3 => simp at this
  | 4 => simp at this
  | 5 => simp at this
  | n + 6 => simp at this
theorem row_off3 {W : World} {B : Nat} {y0 : ByteArray} {y1 : Int} {y2 : Int} {t : TypeId} {ao : Option Addr} {bs : List UInt8} (h : Row W ao bs) (hl : 0 < bs.length) (hB : Bx W B #[Value.string y0, .int .i64 y1, .int .i64 y2] t) : ∀ a, ao = some a → a.block ≠ B := by
  obtain ⟨b, off, rfl, hc⟩ := h hl
  rintro a ha rfl
  cases ha
  have := hc 0 hl
  rw [cell_of_row _ _ _ _ _ _ hB] at this
  match off with
  | 0 => simp at this
  | 1 => simp at this
  | 2 => simp at this
  | n + 3 => simp at this
theorem load6 {w : World} {b : Nat} {a0 a1 a2 a3 a4 a5 : Value} (h : Bx w b #[a0, a1, a2, a3, a4, a5] 61) : (loadVar 61 ⟨b, 0, none⟩).run Tryd.prog w = .ok (.agg #[a0, a1, a2, a3, a4, a5]) w :=
  run_loadVar_row w b 61 61 _ (0, 0) _ h Tryd.underlying61 rfl (by kernel_rfl)
theorem load3 {w : World} {b : Nat} {a0 a1 a2 : Value} (h : Bx w b #[a0, a1, a2] 70) : (loadVar 70 ⟨b, 0, none⟩).run Tryd.prog w = .ok (.agg #[a0, a1, a2]) w :=
  run_loadVar_row w b 70 70 _ (0, 0) _ h Tryd.underlying70 rfl (by kernel_rfl)

set_option maxHeartbeats 2000000 in
theorem msg_any (w : World) (B : Nat) (st : Rs) (ao : Option Addr) (cap : Nat) (h : Rr w B st ao cap) (m : K) (st' : Rs) (hs : msgS st = (m, st')) : Calls Tryd.prog 44 #[.pointer (some ⟨B, 0, none⟩)] w fun x w' => x = .returned (.agg (kC m).toArray) ∧ ∃ ao' cap', Rr w' B st' ao' cap' ∧ Sb ao ao' ∧ Fr (fun k => k = B) w w' := by
  obtain ⟨⟨x0, s0⟩, e0⟩ : ∃ p, numS st = p := ⟨_, rfl⟩
  obtain ⟨⟨x1, s1⟩, e1⟩ : ∃ p, numS s0 = p := ⟨_, rfl⟩
  obtain ⟨⟨x2, s2⟩, e2⟩ : ∃ p, numS s1 = p := ⟨_, rfl⟩
  obtain ⟨⟨x3, s3⟩, e3⟩ : ∃ p, numS s2 = p := ⟨_, rfl⟩
  obtain ⟨⟨x4, s4⟩, e4⟩ : ∃ p, numS s3 = p := ⟨_, rfl⟩
  obtain ⟨⟨x5, s5⟩, e5⟩ : ∃ p, textS s4 = p := ⟨_, rfl⟩
  obtain ⟨rfl, rfl⟩ : m = ⟨(x0 : Int), (x1 : Int), (x2 : Int), (x3 : Int), (x4 : Int), S x5⟩ ∧ s5 = st' := by
    unfold msgS bindS at hs
    simp only [e0, e1, e2, e3, e4, e5] at hs
    cases hs
    exact ⟨rfl, rfl⟩
  have HR := mkH h
  have hBl : B < w.heap.size := h.b.lt
  have hne : ¬ w.heap.size = B := by omega
  clear h hs
  have hal : Below w.heap.size w (w.alloc (.cells #[Value.int .i64 0, .int .i64 0, .int .i64 0, .int .i64 0, .int .i64 0, .string ⟨#[]⟩] 61)) := (Below.refl _ w).alloc (Nat.le_refl _) _
  have HA := mkH hal
  have HZ := mkH (Bx.new w #[Value.int .i64 0, .int .i64 0, .int .i64 0, .int .i64 0, .int .i64 0, .string ⟨#[]⟩] 61)
  have HR0 := mkH (HR.out.below hal)
  have E0 := mkH e0
  have E1 := mkH e1
  have E2 := mkH e2
  have E3 := mkH e3
  have E4 := mkH e4
  have E5 := mkH e5
  clear hal e0 e1 e2 e3 e4 e5
  go_enter Tryd.func44, Tryd.ntmps44
  go_wp2_with fail
  generalize w.alloc (.cells #[Value.int .i64 0, .int .i64 0, .int .i64 0, .int .i64 0, .int .i64 0, .string ⟨#[]⟩] 61) = w0 at *
  have HF0 : Hid (Fr (fun k => k = B) w w0) := Fr.ofBelow HA.out
  have HSb0 : Hid (Sb ao ao) := Sb.refl _
  refine (num_any w0 B st ao cap HR0.out x0 s0 E0.out).mono ?_
  rintro e w1 ⟨rfl, q0, c0, hr0, hsb0, hf0⟩
  have HSb1 : Hid (Sb ao q0) := HSb0.out.trans hsb0
  clear hsb0
  have HR1 := mkH hr0
  have HZ1 := mkH (HZ.out.fr hf0 hne)
  have HF1 : Hid (Fr (fun k => k = B) w w1) := HF0.out.trans hf0 (fun i hi => .inl hi)
  clear hr0 hf0 HR0 HF0 HZ
  go_wp2_with fail
  refine (num_any w1 B s0 q0 c0 HR1.out x1 s1 E1.out).mono ?_
  rintro e w2 ⟨rfl, q1, c1, hr1, hsb1, hf1⟩
  have HSb2 : Hid (Sb ao q1) := HSb1.out.trans hsb1
  clear hsb1
  have HR2 := mkH hr1
  have HZ2 := mkH (HZ1.out.fr hf1 hne)
  have HF2 : Hid (Fr (fun k => k = B) w w2) := HF1.out.trans hf1 (fun i hi => .inl hi)
  clear hr1 hf1 HR1 HF1 HZ1
  go_wp2_with fail
  refine (num_any w2 B s1 q1 c1 HR2.out x2 s2 E2.out).mono ?_
  rintro e w3 ⟨rfl, q2, c2, hr2, hsb2, hf2⟩
  have HSb3 : Hid (Sb ao q2) := HSb2.out.trans hsb2
  clear hsb2
  have HR3 := mkH hr2
  have HZ3 := mkH (HZ2.out.fr hf2 hne)
  have HF3 : Hid (Fr (fun k => k = B) w w3) := HF2.out.trans hf2 (fun i hi => .inl hi)
  clear hr2 hf2 HR2 HF2 HZ2
  go_wp2_with fail
  refine (num_any w3 B s2 q2 c2 HR3.out x3 s3 E3.out).mono ?_
  rintro e w4 ⟨rfl, q3, c3, hr3, hsb3, hf3⟩
  have HSb4 : Hid (Sb ao q3) := HSb3.out.trans hsb3
  clear hsb3
  have HR4 := mkH hr3
  have HZ4 := mkH (HZ3.out.fr hf3 hne)
  have HF4 : Hid (Fr (fun k => k = B) w w4) := HF3.out.trans hf3 (fun i hi => .inl hi)
  clear hr3 hf3 HR3 HF3 HZ3
  go_wp2_with fail
  refine (num_any w4 B s3 q3 c3 HR4.out x4 s4 E4.out).mono ?_
  rintro e w5 ⟨rfl, q4, c4, hr4, hsb4, hf4⟩
  have HSb5 : Hid (Sb ao q4) := HSb4.out.trans hsb4
  clear hsb4
  have HR5 := mkH hr4
  have HZ5 := mkH (HZ4.out.fr hf4 hne)
  have HF5 : Hid (Fr (fun k => k = B) w w5) := HF4.out.trans hf4 (fun i hi => .inl hi)
  clear hr4 hf4 HR4 HF4 HZ4
  go_wp2_with fail
  refine (rtext_any w5 B s4 q4 c4 HR5.out x5 s5 E5.out).mono ?_
  rintro e w6 ⟨rfl, q5, c5, hr5, hsb5, hf5⟩
  have HSb6 : Hid (Sb ao q5) := HSb5.out.trans hsb5
  clear hsb5
  have HR6 := mkH hr5
  have HZ6 := mkH (HZ5.out.fr hf5 hne)
  have HF6 : Hid (Fr (fun k => k = B) w w6) := HF5.out.trans hf5 (fun i hi => .inl hi)
  clear hr5 hf5 HR5 HF5 HZ5
  obtain ⟨z0, z1, z2, z3, z4, z5, f0, f1, f2, f3, f4, f5⟩ := cells6 HZ6.out
  go_wp2
  obtain ⟨hZ9, hF9⟩ := sAll6 HZ6.out (v0 := .int .i64 (x0 : Int)) (v1 := .int .i64 (x1 : Int)) (v2 := .int .i64 (x2 : Int)) (v3 := .int .i64 (x3 : Int)) (v4 := .int .i64 (x4 : Int)) (v5 := .string (S x5))
  have hfin : Rr ((((((w6.setCell ⟨w.heap.size, 0, none⟩ (.int .i64 (x0 : Int))).setCell ⟨w.heap.size, 1, none⟩ (.int .i64 (x1 : Int))).setCell ⟨w.heap.size, 2, none⟩ (.int .i64 (x2 : Int))).setCell ⟨w.heap.size, 3, none⟩ (.int .i64 (x3 : Int))).setCell ⟨w.heap.size, 4, none⟩ (.int .i64 (x4 : Int))).setCell ⟨w.heap.size, 5, none⟩ (.string (S x5))) B s5 q5 c5 := by
    refine ⟨HR6.out.b.fr hF9 (fun e => hne e.symm), ?_, HR6.out.l, HR6.out.c, HR6.out.s, fun a ha => Nat.lt_of_lt_of_le (HR6.out.k a ha) hF9.size⟩
    intro hl
    exact Row.fr HR6.out.r hF9 (fun a ha => row_off6 HR6.out.r hl HZ6.out a ha) hl
  refine bodyPost_ret (res_c rfl _ _ _ rfl (load6 hZ9)) rfl ⟨rfl, q5, c5, hfin, HSb6.out, ?_⟩
  exact HF6.out.trans hF9 (fun i hi => .inr (by omega))

set_option maxHeartbeats 2000000 in
theorem mark_any (w : World) (B : Nat) (st : Rs) (ao : Option Addr) (cap : Nat) (h : Rr w B st ao cap) (m : M) (st' : Rs) (hs : markS st = (m, st')) : Calls Tryd.prog 46 #[.pointer (some ⟨B, 0, none⟩)] w fun x w' => x = .returned (.agg (mC m).toArray) ∧ ∃ ao' cap', Rr w' B st' ao' cap' ∧ Sb ao ao' ∧ Fr (fun k => k = B) w w' := by
  obtain ⟨⟨x0, s0⟩, e0⟩ : ∃ p, textS st = p := ⟨_, rfl⟩
  obtain ⟨⟨x1, s1⟩, e1⟩ : ∃ p, numS s0 = p := ⟨_, rfl⟩
  obtain ⟨⟨x2, s2⟩, e2⟩ : ∃ p, numS s1 = p := ⟨_, rfl⟩
  obtain ⟨rfl, rfl⟩ : m = ⟨S x0, (x1 : Int), (x2 : Int)⟩ ∧ s2 = st' := by
    unfold markS bindS at hs
    simp only [e0, e1, e2] at hs
    cases hs
    exact ⟨rfl, rfl⟩
  have HR := mkH h
  have hBl : B < w.heap.size := h.b.lt
  have hne : ¬ w.heap.size = B := by omega
  clear h hs
  have hal : Below w.heap.size w (w.alloc (.cells #[Value.string ⟨#[]⟩, .int .i64 0, .int .i64 0] 70)) := (Below.refl _ w).alloc (Nat.le_refl _) _
  have HA := mkH hal
  have HZ := mkH (Bx.new w #[Value.string ⟨#[]⟩, .int .i64 0, .int .i64 0] 70)
  have HR0 := mkH (HR.out.below hal)
  have E0 := mkH e0
  have E1 := mkH e1
  have E2 := mkH e2
  clear hal e0 e1 e2
  go_enter Tryd.func46, Tryd.ntmps46
  go_wp2_with fail
  generalize w.alloc (.cells #[Value.string ⟨#[]⟩, .int .i64 0, .int .i64 0] 70) = w0 at *
  have HF0 : Hid (Fr (fun k => k = B) w w0) := Fr.ofBelow HA.out
  have HSb0 : Hid (Sb ao ao) := Sb.refl _
  refine (rtext_any w0 B st ao cap HR0.out x0 s0 E0.out).mono ?_
  rintro e w1 ⟨rfl, q0, c0, hr0, hsb0, hf0⟩
  have HSb1 : Hid (Sb ao q0) := HSb0.out.trans hsb0
  clear hsb0
  have HR1 := mkH hr0
  have HZ1 := mkH (HZ.out.fr hf0 hne)
  have HF1 : Hid (Fr (fun k => k = B) w w1) := HF0.out.trans hf0 (fun i hi => .inl hi)
  clear hr0 hf0 HR0 HF0 HZ
  go_wp2_with fail
  refine (num_any w1 B s0 q0 c0 HR1.out x1 s1 E1.out).mono ?_
  rintro e w2 ⟨rfl, q1, c1, hr1, hsb1, hf1⟩
  have HSb2 : Hid (Sb ao q1) := HSb1.out.trans hsb1
  clear hsb1
  have HR2 := mkH hr1
  have HZ2 := mkH (HZ1.out.fr hf1 hne)
  have HF2 : Hid (Fr (fun k => k = B) w w2) := HF1.out.trans hf1 (fun i hi => .inl hi)
  clear hr1 hf1 HR1 HF1 HZ1
  go_wp2_with fail
  refine (num_any w2 B s1 q1 c1 HR2.out x2 s2 E2.out).mono ?_
  rintro e w3 ⟨rfl, q2, c2, hr2, hsb2, hf2⟩
  have HSb3 : Hid (Sb ao q2) := HSb2.out.trans hsb2
  clear hsb2
  have HR3 := mkH hr2
  have HZ3 := mkH (HZ2.out.fr hf2 hne)
  have HF3 : Hid (Fr (fun k => k = B) w w3) := HF2.out.trans hf2 (fun i hi => .inl hi)
  clear hr2 hf2 HR2 HF2 HZ2
  obtain ⟨z0, z1, z2, f0, f1, f2⟩ := cells3 HZ3.out
  go_wp2
  obtain ⟨hZ9, hF9⟩ := sAll3 HZ3.out (v0 := .string (S x0)) (v1 := .int .i64 (x1 : Int)) (v2 := .int .i64 (x2 : Int))
  have hfin : Rr (((w3.setCell ⟨w.heap.size, 0, none⟩ (.string (S x0))).setCell ⟨w.heap.size, 1, none⟩ (.int .i64 (x1 : Int))).setCell ⟨w.heap.size, 2, none⟩ (.int .i64 (x2 : Int))) B s2 q2 c2 := by
    refine ⟨HR3.out.b.fr hF9 (fun e => hne e.symm), ?_, HR3.out.l, HR3.out.c, HR3.out.s, fun a ha => Nat.lt_of_lt_of_le (HR3.out.k a ha) hF9.size⟩
    intro hl
    exact Row.fr HR3.out.r hF9 (fun a ha => row_off3 HR3.out.r hl HZ3.out a ha) hl
  refine bodyPost_ret (res_c rfl _ _ _ rfl (load3 hZ9)) rfl ⟨rfl, q2, c2, hfin, HSb3.out, ?_⟩
  exact HF3.out.trans hF9 (fun i hi => .inr (by omega))
end Go.Proofs.YtcpmaddleleblaaDoor.Gdl
