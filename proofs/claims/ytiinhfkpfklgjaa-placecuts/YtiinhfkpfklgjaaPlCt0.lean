/-
  The walk of PlaceCuts.
-/
import Derived.Test.YtiinhfkpfklgjaaPlC
import Derived.Test.YtiinhfkpfklgjaaPlO
namespace Go.Proofs.Ytiinhfkpfklgjaa.Pct
open Go.RowKit Pl Pw Pr Pf Pg Pa Pb Pc Po
open Kt hiding mkH
set_option linter.unusedVariables false
set_option maxRecDepth 20000

theorem fnd_has (l : List Rg) (p : Int) : decide (0 ≤ fnd l p 0) = has l p := by
  have h := fnd_neg l p 0
  cases hq : has l p
  · rw [hq] at h; simp; have := h.2 rfl; omega
  · rw [hq] at h
    simp
    rcases Int.lt_or_le (fnd l p 0) 0 with h1 | h1
    · have := h.1 h1; cases this
    · exact h1
theorem below_drewN (w : World) (q : Nat) : Below w.heap.size w (w.drewN q) := ⟨rfl, rfl, rfl, Nat.le_refl _, fun _ _ => rfl⟩

set_option maxHeartbeats 4000000 in
theorem placeCuts (w : World) (ao : Option Addr) (cap : Nat) (l : List Rg) (c d p : Int) (hr : Rw w ao l) (hlen : l.length ≤ cap) (hcap : cap ≤ 9223372036854775807) :
    Calls Try.prog 7 #[.slice ao l.length cap, .agg #[.int .i64 c, .int .i64 d], .int .i64 p] w fun e w' => e = .returned (.bool true) ∧ Below w.heap.size w w' := by
  have HL40 : (l.take 40).length ≤ 40 := by rw [List.length_take]; omega
  have k4 := Bx.new w c d
  have hb0 := (Below.refl w.heap.size w).alloc (Nat.le_refl _) (.cells #[.int .i64 c, .int .i64 d] 26)
  have hfew := few_any _ ao cap l (hr.below hb0) hlen hcap
  have K4 := mkH k4
  have HB0 := mkH hb0
  have hs0 : Hid ((w.alloc (.cells #[.int .i64 c, .int .i64 d] 26)).heap.size = w.heap.size + 1) := mkH (by simp)
  clear hr k4 hb0
  generalize l.take 40 = L at HL40 hfew
  go_enter Try.func7, Try.ntmps7
  go_wp2_with fail
  refine hfew.mono ?_
  rintro e w1 ⟨v1, rfl, hO1, hb1⟩
  clear hfew
  have k4 := K4.out.below hb1 (by have := hs0.out; omega)
  have HB1 := mkH (HB0.out.trans (hb1.mono (by have := hs0.out; omega)))
  obtain ⟨ao1, cap1, rfl, hc1, hc2⟩ := hO1.form
  have hR1 := hO1.rw
  clear hO1 hb1 HB0 K4 hs0
  have hcut := cut_any w1 ao1 cap1 L c d hR1 (by omega)
  have l4 := k4.lt
  have x0 := k4.c0
  have x1 := k4.c1
  have K4 := mkH k4
  have HR1 := mkH hR1
  clear k4 hR1
  go_wp2_with fail
  refine hcut.mono ?_
  rintro e w2 ⟨v2, rfl, hO2, hb2⟩
  clear hcut
  have k4 := K4.out.below hb2 l4
  have hR1 := HR1.out.below hb2
  have HB2 := mkH (HB1.out.trans (hb2.mono HB1.out.size))
  have hcl := cut_len L (c, d)
  have HH := mkH (cut_has L (c, d) p)
  have HTW := mkH (cut_twice L (c, d))
  have HMY := mkH (cut_may L (c, d))
  have HMT := mkH (cut_meet L (c, d))
  generalize cut L (c, d) = C at hO2 hcl HH HTW HMY HMT
  obtain ⟨ao2, cap2, rfl, hc3, hc4⟩ := hO2.form
  have hR2 := hO2.rw
  clear hO2 hb2 HB1 K4 HR1 l4 x0 x1
  have hf2 := find_any w2 ao2 cap2 C p hR2 (by omega)
  have l4 := k4.lt
  have x0 := k4.c0
  have x1 := k4.c1
  have K4 := mkH k4
  have HR1 := mkH hR1
  have HR2 := mkH hR2
  clear k4 hR1 hR2
  have HF2 := mkH hf2
  clear hf2
  go_wp2_with fail
  refine (HF2.out).mono ?_
  rintro e w3 ⟨rfl, hb3⟩
  clear HF2
  have k4 := K4.out.below hb3 l4
  have hR1 := HR1.out.below hb3
  have hR2 := HR2.out.below hb3
  have HB3 := mkH (HB2.out.trans (hb3.mono HB2.out.size))
  clear hb3 HB2 K4 HR1 HR2 x0 x1 l4
  have HF1 := mkH (find_any w3 ao1 cap1 L p hR1 (by omega))
  have l4 := k4.lt
  have x0 := k4.c0
  have x1 := k4.c1
  have K4 := mkH k4
  have HR2 := mkH hR2
  clear k4 hR1 hR2
  go_wp2_with fail
  refine (HF1.out).mono ?_
  rintro e w4 ⟨rfl, hb4⟩
  clear HF1
  have k4 := K4.out.below hb4 l4
  have hR2 := HR2.out.below hb4
  have HB4 := mkH (HB3.out.trans (hb4.mono HB3.out.size))
  clear hb4 HB3 K4 HR2 x0 x1 l4
  have l4 := k4.lt
  have x0 := k4.c0
  have x1 := k4.c1
  have K4 := mkH k4
  have HR2 := mkH hR2
  clear k4 hR2
  have h1 := fnd_has C p
  have h2 := fnd_has L p
  have hin := fun W => in_any W c d p
  have HH' := HH.out
  clear HH
  generalize fnd C p 0 = F1 at h1
  generalize fnd L p 0 = F2 at h2
  rw [← h1, ← h2] at HH'
  clear h1 h2
  have HCC := fun W (hW : Rw W ao2 C) => cut_any W ao2 cap2 C c d hW (by omega)
  rw [HTW.out] at HCC
  have HCC' := mkH HCC
  clear HCC HTW
  by_cases hq2 : 0 ≤ F2
  · cases hi : inn (c, d) p
    · rw [hi] at hin HH'
      have hq1 : 0 ≤ F1 := by simpa [hq2] using HH'
      clear HH' hi
      go_wp2_with fail
      refine (hin _).mono ?_
      rintro e w5 ⟨rfl, hg5⟩
      have hb5 := hg5.below
      clear hg5 hin
      have k4 := K4.out.below hb5 l4
      have hR2 := HR2.out.below hb5
      have HB5 := mkH (HB4.out.trans (hb5.mono HB4.out.size))
      clear hb5 HB4 K4 HR2 x0 x1 l4
      have l4 := k4.lt
      have x0 := k4.c0
      have x1 := k4.c1
      have K4 := mkH k4
      have HR2 := mkH hR2
      clear k4 hR2
      go_wp2_with fail
      refine (HCC'.out w5 HR2.out).mono ?_
      rintro e w6 ⟨v6, rfl, hO6, hb6⟩
      obtain ⟨ao6, cap6, rfl, hc7, hc8⟩ := hO6.form
      have hR6 := mkH hO6.rw
      clear hO6 HCC'
      have k4 := K4.out.below hb6 l4
      have hR2 := HR2.out.below hb6
      have HB6 := mkH (HB5.out.trans (hb6.mono HB5.out.size))
      clear hb6 HB5 K4 HR2 x0 x1 l4
      have l4 := k4.lt
      have x0 := k4.c0
      have x1 := k4.c1
      have K4 := mkH k4
      have HR2 := mkH hR2
      clear k4 hR2
      have hsm := same_any w6 ao6 ao2 cap6 cap2 C C hR6.out HR2.out (by omega)
      rw [decide_eq_true (rfl : C = C)] at hsm
      have HSM := mkH hsm
      clear hsm hR6
      go_wp2_with fail
      refine (HSM.out).mono ?_
      rintro e w7 ⟨rfl, q7, hw7⟩
      have hb7 : Below w6.heap.size w6 w7 := by rw [hw7]; exact below_drewN _ _
      clear HSM hw7
      have k4 := K4.out.below hb7 l4
      have hR2 := HR2.out.below hb7
      have HB7 := mkH (HB6.out.trans (hb7.mono HB6.out.size))
      clear hb7 HB6 K4 HR2 x0 x1 l4
      have l4 := k4.lt
      have x0 := k4.c0
      have x1 := k4.c1
      have K4 := mkH k4
      have HR2 := mkH hR2
      clear k4 hR2
      have K7 := K4
      have R7 := HR2
      clear K4 HR2 x0 x1 l4
      go_wp2
      go_loopw [40] (fun i wr => ∃ k : Nat, k ≤ C.length ∧ i = .int .i64 k ∧ Hid (Bx wr w.heap.size c d) ∧ Hid (Rw wr ao2 C) ∧ Hid (Below w.heap.size w wr)) (fun i _ => C.length - (intOf i).toNat)
      case atStart => exact ⟨0, Nat.zero_le _, rfl, K7, R7, HB7⟩
      case round =>
        obtain ⟨k, hk, rfl, K8, R8, B8⟩ := hrel
        clear K7 R7 HB7
        by_cases hlt : k < C.length
        · obtain ⟨⟨a, b⟩, hrk⟩ := some_of hlt
          obtain ⟨bk, o, rfl, hc⟩ := R8.out (by omega)
          obtain ⟨y1, y2⟩ := hc k _ hrk
          have hmem := List.mem_of_getElem? hrk
          have hm1 := fun W => may_any W a b
          rw [HMY.out _ hmem] at hm1
          have hm2 := fun W => meet_any W a b c d
          rw [HMT.out _ hmem] at hm2
          unfold R at hm2
          have hi : (k : Int) < (C.length : Int) := by omega
          have hi0 : (0 : Int) ≤ (k : Int) := by omega
          have e1 := neqR 0 0 0 0
          have gd := guardR
          have z0 := K8.out.c0
          have z1 := K8.out.c1
          have lz := K8.out.lt
          clear hc hrk hmem
          go_wp2_with fail
          refine (hm1 _).mono ?_
          rintro e w8 ⟨rfl, rfl⟩
          go_wp2_with fail
          refine (hm2 _).mono ?_
          rintro e w9 ⟨rfl, hg9⟩
          have hgz := (((Gr.refl wr).alloc (.cells #[.int .i64 a, .int .i64 b] 26)).alloc (.cells #[.int .i64 a, .int .i64 b] 26)).trans hg9
          have K9 := mkH (K8.out.gr hgz)
          have R9 := mkH (R8.out.below hgz.below)
          have B9 := mkH (B8.out.trans (hgz.below.mono B8.out.size))
          clear hg9 hgz K8 R8 B8 z0 z1 lz y1 y2 hm1 hm2
          go_wp2
          go_roundw
          case rel => exact ⟨k + 1, by omega, by go_num, K9, R9, B9⟩
          case measure => simp [intOf]; omega
        · have : k = C.length := by omega
          subst this
          go_wp2_with fail
          refine (works_any _).mono ?_
          rintro e w8 ⟨rfl, hg8⟩
          go_wp2
          go_ret
          exact ⟨rfl, B8.out.trans (hg8.below.mono B8.out.size)⟩
    · rw [hi] at hin HH'
      have hq1 : ¬ 0 ≤ F1 := by simpa [hq2] using HH'
      clear HH' hi
      go_wp2_with fail
      refine (hin _).mono ?_
      rintro e w5 ⟨rfl, hg5⟩
      have hb5 := hg5.below
      clear hg5 hin
      have k4 := K4.out.below hb5 l4
      have hR2 := HR2.out.below hb5
      have HB5 := mkH (HB4.out.trans (hb5.mono HB4.out.size))
      clear hb5 HB4 K4 HR2 x0 x1 l4
      have l4 := k4.lt
      have x0 := k4.c0
      have x1 := k4.c1
      have K4 := mkH k4
      have HR2 := mkH hR2
      clear k4 hR2
      go_wp2_with fail
      refine (HCC'.out w5 HR2.out).mono ?_
      rintro e w6 ⟨v6, rfl, hO6, hb6⟩
      obtain ⟨ao6, cap6, rfl, hc7, hc8⟩ := hO6.form
      have hR6 := mkH hO6.rw
      clear hO6 HCC'
      have k4 := K4.out.below hb6 l4
      have hR2 := HR2.out.below hb6
      have HB6 := mkH (HB5.out.trans (hb6.mono HB5.out.size))
      clear hb6 HB5 K4 HR2 x0 x1 l4
      have l4 := k4.lt
      have x0 := k4.c0
      have x1 := k4.c1
      have K4 := mkH k4
      have HR2 := mkH hR2
      clear k4 hR2
      have hsm := same_any w6 ao6 ao2 cap6 cap2 C C hR6.out HR2.out (by omega)
      rw [decide_eq_true (rfl : C = C)] at hsm
      have HSM := mkH hsm
      clear hsm hR6
      go_wp2_with fail
      refine (HSM.out).mono ?_
      rintro e w7 ⟨rfl, q7, hw7⟩
      have hb7 : Below w6.heap.size w6 w7 := by rw [hw7]; exact below_drewN _ _
      clear HSM hw7
      have k4 := K4.out.below hb7 l4
      have hR2 := HR2.out.below hb7
      have HB7 := mkH (HB6.out.trans (hb7.mono HB6.out.size))
      clear hb7 HB6 K4 HR2 x0 x1 l4
      have l4 := k4.lt
      have x0 := k4.c0
      have x1 := k4.c1
      have K4 := mkH k4
      have HR2 := mkH hR2
      clear k4 hR2
      have K7 := K4
      have R7 := HR2
      clear K4 HR2 x0 x1 l4
      go_wp2
      go_loopw [40] (fun i wr => ∃ k : Nat, k ≤ C.length ∧ i = .int .i64 k ∧ Hid (Bx wr w.heap.size c d) ∧ Hid (Rw wr ao2 C) ∧ Hid (Below w.heap.size w wr)) (fun i _ => C.length - (intOf i).toNat)
      case atStart => exact ⟨0, Nat.zero_le _, rfl, K7, R7, HB7⟩
      case round =>
        obtain ⟨k, hk, rfl, K8, R8, B8⟩ := hrel
        clear K7 R7 HB7
        by_cases hlt : k < C.length
        · obtain ⟨⟨a, b⟩, hrk⟩ := some_of hlt
          obtain ⟨bk, o, rfl, hc⟩ := R8.out (by omega)
          obtain ⟨y1, y2⟩ := hc k _ hrk
          have hmem := List.mem_of_getElem? hrk
          have hm1 := fun W => may_any W a b
          rw [HMY.out _ hmem] at hm1
          have hm2 := fun W => meet_any W a b c d
          rw [HMT.out _ hmem] at hm2
          unfold R at hm2
          have hi : (k : Int) < (C.length : Int) := by omega
          have hi0 : (0 : Int) ≤ (k : Int) := by omega
          have e1 := neqR 0 0 0 0
          have gd := guardR
          have z0 := K8.out.c0
          have z1 := K8.out.c1
          have lz := K8.out.lt
          clear hc hrk hmem
          go_wp2_with fail
          refine (hm1 _).mono ?_
          rintro e w8 ⟨rfl, rfl⟩
          go_wp2_with fail
          refine (hm2 _).mono ?_
          rintro e w9 ⟨rfl, hg9⟩
          have hgz := (((Gr.refl wr).alloc (.cells #[.int .i64 a, .int .i64 b] 26)).alloc (.cells #[.int .i64 a, .int .i64 b] 26)).trans hg9
          have K9 := mkH (K8.out.gr hgz)
          have R9 := mkH (R8.out.below hgz.below)
          have B9 := mkH (B8.out.trans (hgz.below.mono B8.out.size))
          clear hg9 hgz K8 R8 B8 z0 z1 lz y1 y2 hm1 hm2
          go_wp2
          go_roundw
          case rel => exact ⟨k + 1, by omega, by go_num, K9, R9, B9⟩
          case measure => simp [intOf]; omega
        · have : k = C.length := by omega
          subst this
          go_wp2_with fail
          refine (works_any _).mono ?_
          rintro e w8 ⟨rfl, hg8⟩
          go_wp2
          go_ret
          exact ⟨rfl, B8.out.trans (hg8.below.mono B8.out.size)⟩
  · have hq1 : ¬ 0 ≤ F1 := by simpa [hq2] using HH'
    clear HH' hin
    have HB5 := HB4
    clear HB4
    generalize w4 = w5 at *
    go_wp2_with fail
    refine (HCC'.out w5 HR2.out).mono ?_
    rintro e w6 ⟨v6, rfl, hO6, hb6⟩
    obtain ⟨ao6, cap6, rfl, hc7, hc8⟩ := hO6.form
    have hR6 := mkH hO6.rw
    clear hO6 HCC'
    have k4 := K4.out.below hb6 l4
    have hR2 := HR2.out.below hb6
    have HB6 := mkH (HB5.out.trans (hb6.mono HB5.out.size))
    clear hb6 HB5 K4 HR2 x0 x1 l4
    have l4 := k4.lt
    have x0 := k4.c0
    have x1 := k4.c1
    have K4 := mkH k4
    have HR2 := mkH hR2
    clear k4 hR2
    have hsm := same_any w6 ao6 ao2 cap6 cap2 C C hR6.out HR2.out (by omega)
    rw [decide_eq_true (rfl : C = C)] at hsm
    have HSM := mkH hsm
    clear hsm hR6
    go_wp2_with fail
    refine (HSM.out).mono ?_
    rintro e w7 ⟨rfl, q7, hw7⟩
    have hb7 : Below w6.heap.size w6 w7 := by rw [hw7]; exact below_drewN _ _
    clear HSM hw7
    have k4 := K4.out.below hb7 l4
    have hR2 := HR2.out.below hb7
    have HB7 := mkH (HB6.out.trans (hb7.mono HB6.out.size))
    clear hb7 HB6 K4 HR2 x0 x1 l4
    have l4 := k4.lt
    have x0 := k4.c0
    have x1 := k4.c1
    have K4 := mkH k4
    have HR2 := mkH hR2
    clear k4 hR2
    have K7 := K4
    have R7 := HR2
    clear K4 HR2 x0 x1 l4
    go_wp2
    go_loopw [40] (fun i wr => ∃ k : Nat, k ≤ C.length ∧ i = .int .i64 k ∧ Hid (Bx wr w.heap.size c d) ∧ Hid (Rw wr ao2 C) ∧ Hid (Below w.heap.size w wr)) (fun i _ => C.length - (intOf i).toNat)
    case atStart => exact ⟨0, Nat.zero_le _, rfl, K7, R7, HB7⟩
    case round =>
      obtain ⟨k, hk, rfl, K8, R8, B8⟩ := hrel
      clear K7 R7 HB7
      by_cases hlt : k < C.length
      · obtain ⟨⟨a, b⟩, hrk⟩ := some_of hlt
        obtain ⟨bk, o, rfl, hc⟩ := R8.out (by omega)
        obtain ⟨y1, y2⟩ := hc k _ hrk
        have hmem := List.mem_of_getElem? hrk
        have hm1 := fun W => may_any W a b
        rw [HMY.out _ hmem] at hm1
        have hm2 := fun W => meet_any W a b c d
        rw [HMT.out _ hmem] at hm2
        unfold R at hm2
        have hi : (k : Int) < (C.length : Int) := by omega
        have hi0 : (0 : Int) ≤ (k : Int) := by omega
        have e1 := neqR 0 0 0 0
        have gd := guardR
        have z0 := K8.out.c0
        have z1 := K8.out.c1
        have lz := K8.out.lt
        clear hc hrk hmem
        go_wp2_with fail
        refine (hm1 _).mono ?_
        rintro e w8 ⟨rfl, rfl⟩
        go_wp2_with fail
        refine (hm2 _).mono ?_
        rintro e w9 ⟨rfl, hg9⟩
        have hgz := (((Gr.refl wr).alloc (.cells #[.int .i64 a, .int .i64 b] 26)).alloc (.cells #[.int .i64 a, .int .i64 b] 26)).trans hg9
        have K9 := mkH (K8.out.gr hgz)
        have R9 := mkH (R8.out.below hgz.below)
        have B9 := mkH (B8.out.trans (hgz.below.mono B8.out.size))
        clear hg9 hgz K8 R8 B8 z0 z1 lz y1 y2 hm1 hm2
        go_wp2
        go_roundw
        case rel => exact ⟨k + 1, by omega, by go_num, K9, R9, B9⟩
        case measure => simp [intOf]; omega
      · have : k = C.length := by omega
        subst this
        go_wp2_with fail
        refine (works_any _).mono ?_
        rintro e w8 ⟨rfl, hg8⟩
        go_wp2
        go_ret
        exact ⟨rfl, B8.out.trans (hg8.below.mono B8.out.size)⟩
end Go.Proofs.Ytiinhfkpfklgjaa.Pct
