/-
  The walk of ShardPacks.
-/
import Derived.Test.YtgbbajeeelgbhaaGreatDoorSqShY
import Derived.Test.YtgbbajeeelgbhaaGreatDoorSqBG
import Derived.Test.YtgbbajeeelgbhaaGreatDoorSqKit3
namespace Go.Proofs.YtgbbajeeelgbhaaGreatDoor.Hpk
open Go.RowKit Kt Pl Wi Sa Rd
open At (RowT)
open Hu (upN UpP)
set_option linter.unusedVariables false
set_option linter.unusedSimpArgs false
set_option maxRecDepth 20000

/-- What Unpack tells of a list. -/
def res (l : List Bs) : List Bs × List Bs × Nat :=
  match l with
  | [] => ([], [], 5)
  | h :: t => match upN h t with
    | some n => (t.take n, t.drop n, 0)
    | none => ([], [], 5)
theorem up_res {l : List Bs} {base : Nat} {e : Ending} {w' : World} (h : UpP l base e w') : ∃ sa sc ga gc, e = .returned (.tuple #[.slice sa (res l).1.length sc, .slice ga (res l).2.1.length gc, .int .i64 ((res l).2.2 : Nat)]) ∧ RowT w' sa (res l).1 ∧ RowT w' ga (res l).2.1 := by
  rcases h with ⟨h, t, n, sa, sc, ga, gc, rfl, hu, rfl, h1, h2⟩ | ⟨hn, rfl⟩
  · have e1 : res (h :: t) = (t.take n, t.drop n, 0) := by simp only [res, hu]
    rw [e1]
    exact ⟨sa, sc, ga, gc, rfl, h1, h2⟩
  · have e1 : res l = ([], [], 5) := by
      cases l with
      | nil => rfl
      | cons h t => simp only [res, hn h t rfl]
    rw [e1]
    exact ⟨none, 0, none, 0, rfl, fun h => by simp at h, fun h => by simp at h⟩
theorem res_len (l : List Bs) : (res l).1.length ≤ l.length ∧ (res l).2.1.length ≤ l.length := by
  cases l with
  | nil => exact ⟨Nat.le_refl _, Nat.le_refl _⟩
  | cons h t =>
    simp only [res]
    split
    · simp only [List.length_take, List.length_drop, List.length_cons]; omega
    · exact ⟨Nat.zero_le _, Nat.zero_le _⟩
theorem res_pk (l1 l2 : List Bs) (h : l1.length ≤ 1000000) : res (Ht.pk l1 l2) = (l1, l2, 0) := by
  have e1 : Ht.pk l1 l2 = enc l1.length :: (l1 ++ l2) := by simp [Ht.pk]
  have e2 : readNum (enc l1.length) = (l1.length, (enc l1.length).length, 0) := by have := readNum_enc (n := l1.length) (by omega) []; simpa using this
  have e3 : upN (enc l1.length) (l1 ++ l2) = some l1.length := by
    unfold upN
    rw [e2, if_pos ⟨rfl, Nat.le_refl _, by simp⟩]
  rw [e1]
  simp only [res, e3]
  simp
theorem strs_of {w : World} {a : Option Addr} {len cap : Nat} {zs : List ByteArray} (h : IsStrs w a len cap zs) : ∃ l : List Bs, l.length = len ∧ len ≤ cap ∧ cap ≤ 9223372036854775807 ∧ RowT w a l := isStrs_texts h
theorem size_of {w : World} {ao : Option Addr} {len cap : Nat} {zs : List ByteArray} {l : List Bs} (h : IsStrs w ao len cap zs) (hl : l.length = len) (hr : RowT w ao l) : ∀ s ∈ l, s.length ≤ 9223372036854775807 := by
  intro s hs
  obtain ⟨i, hi, rfl⟩ := List.getElem_of_mem hs
  rcases h with ⟨rfl, rfl, rfl, rfl⟩ | ⟨x, rfl, hlc, hm, hz, hcell, hwz⟩
  · omega
  · obtain ⟨b, off, e, hc⟩ := hr (by omega)
    cases e
    have h1 := hc i hi
    have h2 := hcell i (by omega)
    have hp : (⟨b, off, none⟩ : Addr).add i = ⟨b, off + i, none⟩ := by unfold Addr.add; split <;> simp_all
    rw [hp, h1] at h2
    have h3 : zs.getD i ByteArray.empty = S l[i] := by
      have := Option.some.inj h2
      injection this with this
      rw [← this]
      simp [List.getD, List.getElem?_eq_getElem hi]
    have hiz : i < zs.length := by omega
    have h4 := hwz (zs.getD i ByteArray.empty) (by simp [List.getD, List.getElem?_eq_getElem hiz])
    rw [h3] at h4
    exact h4

set_option maxHeartbeats 8000000 in
theorem packs_walk (w : World) (hT : Dt.Tb w) (hpos : 0 < w.heap.size) (a0 a1 a2 : Option Addr) (c0 c1 c2 : Nat) (l0 l1 l2 : List Bs) (r0 : RowT w a0 l0) (r1 : RowT w a1 l1) (r2 : RowT w a2 l2) (h0 : l0.length ≤ c0) (h1 : l1.length ≤ c1) (h2 : l2.length ≤ c2) (hc2 : c2 ≤ 9223372036854775807) (s0 : ∀ s ∈ l0, s.length ≤ 9223372036854775807) (s1 : ∀ s ∈ l1, s.length ≤ 9223372036854775807) (s2 : ∀ s ∈ l2, s.length ≤ 9223372036854775807) :
    Calls Tryz.prog 5 #[.slice a0 l0.length c0, .slice a1 l1.length c1, .slice a2 l2.length c2] w fun e w' => e = .returned (.bool true) ∧ Below w.heap.size w w' := by
  have k0 := fun W : World => Gs.run_h (P := Tryz.prog) W Tryz.underlying33 Hq.szT a0 l0.length c0 (min l0.length 300) (by omega)
  have k1 := fun W : World => Gs.run_h (P := Tryz.prog) W Tryz.underlying33 Hq.szT a1 l1.length c1 (min l1.length 300) (by omega)
  have k2 := fun W : World => Gs.run_h (P := Tryz.prog) W Tryz.underlying33 Hq.szT a2 l2.length c2 (min l2.length 300) (by omega)
  obtain ⟨m0, hm0⟩ : ∃ m, min l0.length 300 = m := ⟨_, rfl⟩
  obtain ⟨m1, hm1⟩ : ∃ m, min l1.length 300 = m := ⟨_, rfl⟩
  obtain ⟨m2, hm2⟩ : ∃ m, min l2.length 300 = m := ⟨_, rfl⟩
  have i0 : min (l0.length : Int) 300 = (m0 : Int) := by omega
  have i1 : min (l1.length : Int) 300 = (m1 : Int) := by omega
  have i2 : min (l2.length : Int) 300 = (m2 : Int) := by omega
  rw [hm0] at k0
  rw [hm1] at k1
  rw [hm2] at k2
  obtain ⟨L0, hL0⟩ : ∃ L, l0.take 300 = L := ⟨_, rfl⟩
  obtain ⟨L1, hL1⟩ : ∃ L, l1.take 300 = L := ⟨_, rfl⟩
  obtain ⟨L2, hL2⟩ : ∃ L, l2.take 300 = L := ⟨_, rfl⟩
  have b0 : L0.length = m0 := by rw [← hL0, List.length_take]; omega
  have b1 : L1.length = m1 := by rw [← hL1, List.length_take]; omega
  have b2 : L2.length = m2 := by rw [← hL2, List.length_take]; omega
  have R0 : Hid (RowT w a0 L0) := mkH (hL0 ▸ Hu.RowT.take r0 300)
  have R1 : Hid (RowT w a1 L1) := mkH (hL1 ▸ Hu.RowT.take r1 300)
  have R2 : Hid (RowT w a2 L2) := mkH (hL2 ▸ Hu.RowT.take r2 300)
  have S0 : Hid (∀ s ∈ L0, s.length ≤ 9223372036854775807) := mkH (fun s hs => s0 s (List.mem_of_mem_take (hL0 ▸ hs)))
  have S1 : Hid (∀ s ∈ L1, s.length ≤ 9223372036854775807) := mkH (fun s hs => s1 s (List.mem_of_mem_take (hL1 ▸ hs)))
  have S2 : Hid (∀ s ∈ L2, s.length ≤ 9223372036854775807) := mkH (fun s hs => s2 s (List.mem_of_mem_take (hL2 ▸ hs)))
  have hm0b : m0 ≤ 300 := by omega
  have hm1b : m1 ≤ 300 := by omega
  have hm2b : m2 ≤ 300 := by omega
  have hm2c : m2 ≤ c2 := by omega
  have B0 := mkH b0
  have B1 := mkH b1
  have B2 := mkH b2
  have HT := mkH hT
  generalize l0.length = n0 at *
  generalize l1.length = n1 at *
  generalize l2.length = n2 at *
  clear hm0 hm1 hm2 hL0 hL1 hL2 r0 r1 r2 s0 s1 s2 b0 b1 b2 hT
  go_enter Tryz.func5, Tryz.ntmps5
  go_wp2_with fail
  go_region
  go_wp2_with fail
  have q0 := B0.out
  subst q0
  have q1 := B1.out
  subst q1
  have q2 := B2.out
  subst q2
  clear B0 B1 B2
  have hd0 : Below w.heap.size w w.drew := (Below.refl _ w).drew
  have HB0 := mkH hd0
  generalize w.drew = W0 at *
  clear hd0
  have hpl : (Ht.pk L0 L1).length ≤ 601 := by simp only [Ht.pk, List.length_append, List.length_cons, List.length_nil]; omega
  have HPS : Hid (∀ s ∈ Ht.pk L0 L1, s.length ≤ 9223372036854775807) := mkH (by intro s hs; simp only [Ht.pk, List.mem_append, List.mem_singleton] at hs; rcases hs with (rfl | hs) | hs; exact Nat.le_trans (enc_len9 (n := L0.length) (by omega)) (by omega); exact S0.out s hs; exact S1.out s hs)
  have HRP := mkH (res_pk L0 L1 (by omega))
  refine (Ht.pack_any W0 a0 a1 c0 c1 L0 L1 (R0.out.below HB0.out) (R1.out.below HB0.out) (by omega) (by omega)).mono ?_
  rintro e W1 ⟨pa, pc, rfl, ho, hb⟩
  have hpc := own_cap ho
  have hpl2 := (At.RowT.own ho).2.1
  have HP_1 := mkH ((At.RowT.own ho).2.2)
  have HB1 := mkH (HB0.out.trans (hb.mono HB0.out.size))
  clear hb  HB0
  clear ho
  obtain ⟨PK, hPK⟩ : ∃ PK, Ht.pk L0 L1 = PK := ⟨_, rfl⟩
  have HPK := mkH hPK
  rw [hPK] at hpl HPS HRP HP_1 hpl2 ⊢
  clear hPK
  go_wp2_with fail
  refine (Hu.unpack_any W1 pa pc PK HP_1.out (by omega) hpl2 hpc HPS.out).mono ?_
  rintro e W2 ⟨hu, hb⟩
  obtain ⟨xa, xc, ya, yc, rfl, hx, hy⟩ := up_res hu
  rw [HRP.out] at hx hy ⊢
  simp only at hx hy ⊢
  have HP_2 := mkH (HP_1.out.below hb)
  have HX_2 := mkH (hx)
  have HY_2 := mkH (hy)
  have HB2 := mkH (HB1.out.trans (hb.mono HB1.out.size))
  clear hb HP_1 HB1
  clear hu hx hy
  go_wp2_with fail
  have hrl := res_len L2
  obtain ⟨U, V, E, hres⟩ : ∃ U V E, res L2 = (U, V, E) := ⟨_, _, _, rfl⟩
  have HRS := mkH hres
  rw [hres] at hrl
  simp only at hrl
  clear hres
  refine (Hu.unpack_any W2 a2 c2 L2 (R2.out.below HB2.out) (by omega) (by omega) hc2 S2.out).mono ?_
  rintro e W3 ⟨hu, hb⟩
  obtain ⟨ua, uc, va, vc, rfl, hx, hy⟩ := up_res hu
  rw [HRS.out] at hx hy ⊢
  simp only at hx hy ⊢
  have HP_3 := mkH (HP_2.out.below hb)
  have HX_3 := mkH (HX_2.out.below hb)
  have HY_3 := mkH (HY_2.out.below hb)
  have HU_3 := mkH (hx)
  have HV_3 := mkH (hy)
  have HB3 := mkH (HB2.out.trans (hb.mono HB2.out.size))
  clear hb HP_2 HX_2 HY_2 HB2
  clear hu hx hy
  go_wp2_with fail
  refine (Hy.runpack_any W3 a2 c2 L2 (R2.out.below HB3.out) (by omega) (by omega) hc2 S2.out).mono ?_
  rintro e W4 ⟨hu, hb⟩
  obtain ⟨ma, mc, za, zc, rfl, hx, hy⟩ := up_res hu
  rw [HRS.out] at hx hy ⊢
  simp only at hx hy ⊢
  have HP_4 := mkH (HP_3.out.below hb)
  have HX_4 := mkH (HX_3.out.below hb)
  have HY_4 := mkH (HY_3.out.below hb)
  have HU_4 := mkH (HU_3.out.below hb)
  have HV_4 := mkH (HV_3.out.below hb)
  have HM_4 := mkH (hx)
  have HZ_4 := mkH (hy)
  have HB4 := mkH (HB3.out.trans (hb.mono HB3.out.size))
  clear hb HP_3 HX_3 HY_3 HU_3 HV_3 HB3
  clear hu hx hy
  have eE : ((E : Int) == (E : Int)) = true := by simp
  go_wp2_with fail
  refine (Hv.rpack_any W4 a0 a1 c0 c1 L0 L1 (R0.out.below HB4.out) (R1.out.below HB4.out) (by omega) (by omega)).mono ?_
  rintro e W5 ⟨ra, rc, rfl, ho, hb⟩
  have HP_5 := mkH (HP_4.out.below hb)
  have HX_5 := mkH (HX_4.out.below hb)
  have HY_5 := mkH (HY_4.out.below hb)
  have HU_5 := mkH (HU_4.out.below hb)
  have HV_5 := mkH (HV_4.out.below hb)
  have HM_5 := mkH (HM_4.out.below hb)
  have HZ_5 := mkH (HZ_4.out.below hb)
  have HQ_5 := mkH ((At.RowT.own ho).2.2)
  have HB5 := mkH (HB4.out.trans (hb.mono HB4.out.size))
  clear hb HP_4 HX_4 HY_4 HU_4 HV_4 HM_4 HZ_4 HB4
  clear ho
  rw [HPK.out] at HQ_5 ⊢
  go_wp2_with fail
  refine (Wn.sameTexts_any W5 pa ra pc rc PK PK HP_5.out HQ_5.out (by omega) (by omega)).mono ?_
  rintro e W6 ⟨rfl, hg⟩
  have hb := hg.below
  clear hg
  rw [decide_eq_true rfl]
  have HP_6 := mkH (HP_5.out.below hb)
  have HX_6 := mkH (HX_5.out.below hb)
  have HY_6 := mkH (HY_5.out.below hb)
  have HU_6 := mkH (HU_5.out.below hb)
  have HV_6 := mkH (HV_5.out.below hb)
  have HM_6 := mkH (HM_5.out.below hb)
  have HZ_6 := mkH (HZ_5.out.below hb)
  have HQ_6 := mkH (HQ_5.out.below hb)
  have HB6 := mkH (HB5.out.trans (hb.mono HB5.out.size))
  clear hb HP_5 HX_5 HY_5 HU_5 HV_5 HM_5 HZ_5 HQ_5 HB5
  go_wp2_with fail
  refine (Wn.sameTexts_any W6 xa a0 xc c0 L0 L0 HX_6.out (R0.out.below HB6.out) (by omega) (by omega)).mono ?_
  rintro e W7 ⟨rfl, hg⟩
  have hb := hg.below
  clear hg
  rw [decide_eq_true rfl]
  have HP_7 := mkH (HP_6.out.below hb)
  have HX_7 := mkH (HX_6.out.below hb)
  have HY_7 := mkH (HY_6.out.below hb)
  have HU_7 := mkH (HU_6.out.below hb)
  have HV_7 := mkH (HV_6.out.below hb)
  have HM_7 := mkH (HM_6.out.below hb)
  have HZ_7 := mkH (HZ_6.out.below hb)
  have HQ_7 := mkH (HQ_6.out.below hb)
  have HB7 := mkH (HB6.out.trans (hb.mono HB6.out.size))
  clear hb HP_6 HX_6 HY_6 HU_6 HV_6 HM_6 HZ_6 HQ_6 HB6
  go_wp2_with fail
  refine (Wn.sameTexts_any W7 ya a1 yc c1 L1 L1 HY_7.out (R1.out.below HB7.out) (by omega) (by omega)).mono ?_
  rintro e W8 ⟨rfl, hg⟩
  have hb := hg.below
  clear hg
  rw [decide_eq_true rfl]
  have HP_8 := mkH (HP_7.out.below hb)
  have HX_8 := mkH (HX_7.out.below hb)
  have HY_8 := mkH (HY_7.out.below hb)
  have HU_8 := mkH (HU_7.out.below hb)
  have HV_8 := mkH (HV_7.out.below hb)
  have HM_8 := mkH (HM_7.out.below hb)
  have HZ_8 := mkH (HZ_7.out.below hb)
  have HQ_8 := mkH (HQ_7.out.below hb)
  have HB8 := mkH (HB7.out.trans (hb.mono HB7.out.size))
  clear hb HP_7 HX_7 HY_7 HU_7 HV_7 HM_7 HZ_7 HQ_7 HB7
  go_wp2_with fail
  refine (Wn.sameTexts_any W8 ua ma uc mc U U HU_8.out HM_8.out (by omega) (by omega)).mono ?_
  rintro e W9 ⟨rfl, hg⟩
  have hb := hg.below
  clear hg
  rw [decide_eq_true rfl]
  have HP_9 := mkH (HP_8.out.below hb)
  have HX_9 := mkH (HX_8.out.below hb)
  have HY_9 := mkH (HY_8.out.below hb)
  have HU_9 := mkH (HU_8.out.below hb)
  have HV_9 := mkH (HV_8.out.below hb)
  have HM_9 := mkH (HM_8.out.below hb)
  have HZ_9 := mkH (HZ_8.out.below hb)
  have HQ_9 := mkH (HQ_8.out.below hb)
  have HB9 := mkH (HB8.out.trans (hb.mono HB8.out.size))
  clear hb HP_8 HX_8 HY_8 HU_8 HV_8 HM_8 HZ_8 HQ_8 HB8
  go_wp2_with fail
  refine (Wn.sameTexts_any W9 va za vc zc V V HV_9.out HZ_9.out (by omega) (by omega)).mono ?_
  rintro e W10 ⟨rfl, hg⟩
  have hb := hg.below
  clear hg
  rw [decide_eq_true rfl]
  have HP_10 := mkH (HP_9.out.below hb)
  have HX_10 := mkH (HX_9.out.below hb)
  have HY_10 := mkH (HY_9.out.below hb)
  have HU_10 := mkH (HU_9.out.below hb)
  have HV_10 := mkH (HV_9.out.below hb)
  have HM_10 := mkH (HM_9.out.below hb)
  have HZ_10 := mkH (HZ_9.out.below hb)
  have HQ_10 := mkH (HQ_9.out.below hb)
  have HB10 := mkH (HB9.out.trans (hb.mono HB9.out.size))
  clear hb HP_9 HX_9 HY_9 HU_9 HV_9 HM_9 HZ_9 HQ_9 HB9
  go_wp2_with fail
  refine (Hw.works_any W10 (HT.out.below HB10.out hpos)).mono ?_
  rintro e W11 ⟨rfl, hb⟩
  have HB11 := mkH (HB10.out.trans (hb.mono HB10.out.size))
  clear hb
  go_wp2
  go_ret
  exact ⟨rfl, HB11.out⟩

theorem packs_law (w : World) (hT : Dt.Tb w) (a0 : Option Addr) (len0 cap0 : Nat) (z0 : List ByteArray) (w0 : IsStrs w a0 len0 cap0 z0) (a1 : Option Addr) (len1 cap1 : Nat) (z1 : List ByteArray) (w1 : IsStrs w a1 len1 cap1 z1) (a2 : Option Addr) (len2 cap2 : Nat) (z2 : List ByteArray) (w2 : IsStrs w a2 len2 cap2 z2) :
    Calls Tryz.prog 5 #[.slice a0 len0 cap0, .slice a1 len1 cap1, .slice a2 len2 cap2] w fun e w' => e = .returned (.bool true) ∧ Below w.heap.size w w' := by
  obtain ⟨l0, e0, b0, c0, r0⟩ := strs_of w0
  obtain ⟨l1, e1, b1, c1, r1⟩ := strs_of w1
  obtain ⟨l2, e2, b2, c2, r2⟩ := strs_of w2
  have t0 := size_of w0 e0 r0
  have t1 := size_of w1 e1 r1
  have t2 := size_of w2 e2 r2
  subst e0 e1 e2
  exact packs_walk w hT (World.block_lt_of_cell? w _ (hT 0 (by decide)) |> fun h => Nat.lt_of_le_of_lt (Nat.zero_le _) h) a0 a1 a2 cap0 cap1 cap2 l0 l1 l2 r0 r1 r2 b0 b1 b2 c2 t0 t1 t2
end Go.Proofs.YtgbbajeeelgbhaaGreatDoor.Hpk
