/-
  The contract of Crash.
-/
import Derived.Test.YthmedpabgblddabGreatDoorDiD
namespace Go.Proofs.YthmedpabgblddabGreatDoor.De
open Go.RowKit Kt Dk Dp Da Db Dc Dd
set_option linter.unusedVariables false
set_option maxRecDepth 20000

theorem raw_drewN {w : World} {F : Nat → Prop} {D : Nat} {down : Bool} {bs : List UInt8} {n : Nat} {v : Value} (h : Raw w F D down bs n v) (q : Nat) : Raw (w.drewN q) F D down bs n v := h.below (below_drewN (Below.refl _ _) q)

set_option maxHeartbeats 1000000 in
theorem crash_any {w : World} {F : Nat → Prop} {D : Nat} {s : St} (h : Ds w F D s) (k f : Int) (hf : f ≤ 9223372036854775807) :
    Calls Tryz.prog 28 #[.pointer (some ⟨D, 0, none⟩), .int .i64 k, .int .i64 f] w fun e w' => e = .returned (.int .i64 (crsE s k)) ∧ Ds w' F D (crsS s k f) ∧ Nx F w w' F := by
  have h0 := h
  obtain ⟨v, h⟩ := h
  obtain ⟨va, vc, hv, -⟩ := h.row.form
  have hlen := h.len
  have c0 := h.c0
  have c1 := h.c1
  subst hv
  rw [List.length_append] at hlen
  have H0 := mkH h0
  have H := mkH h
  have HP := mkH (pieces_any h (by rw [List.length_append]; omega))
  clear h h0
  have HE := mkH (show crsE s k = if s.down then 10 else if k < 0 then 2 else 0 from rfl)
  have HS := mkH (show crsS s k f = if s.down then s else if k < 0 then s else ⟨s.kept, turn (s.rest.take k.toNat) f, true⟩ from rfl)
  generalize crsE s k = E at HE ⊢
  generalize crsS s k f = S' at HS ⊢
  go_enter Tryz.func28, Tryz.ntmps28
  go_wp2_with fail
  refine (trouble_any w D s.down c0 c1).mono ?_
  rintro e w1 ⟨rfl, hw⟩
  have hw2 := hw.symm
  subst hw2
  clear hw
  cases hd : s.down
  · rw [hd] at HE HS
    simp only [Bool.false_eq_true, if_false] at HE HS ⊢
    by_cases hbad : k < 0
    · rw [if_pos hbad] at HE HS
      go_wp2
      go_ret
      exact ⟨ret_i HE.out, by rw [HS.out]; exact H0.out, Nx.refl _ _⟩
    · rw [if_neg hbad] at HE HS
      obtain ⟨m, hm1, hm2, hm3⟩ : ∃ m, m ≤ s.rest.length ∧ s.rest.take k.toNat = s.rest.take m ∧ (if (s.rest.length : Int) < k then (s.rest.length : Int) else k) = (m : Int) := by
        by_cases hk : (s.rest.length : Int) < k
        · exact ⟨s.rest.length, Nat.le_refl _, by rw [List.take_length, List.take_of_length_le (by omega)], by rw [if_pos hk]⟩
        · exact ⟨k.toNat, by omega, rfl, by rw [if_neg hk]; omega⟩
      rw [hm2] at HS
      have HM := mkH hm1
      have HMR : Hid (m ≤ s.rest.length) := hm1
      have hr1 : (s.kept ++ s.rest).length - s.kept.length = s.rest.length := by rw [List.length_append]; omega
      rw [hr1] at HP
      clear hm2 hr1
      go_wp2_with fail
      refine HP.out.mono ?_
      rintro e w1 ⟨rfl, q, hw1⟩
      have HR1 := mkH (raw_drewN H.out q)
      rw [← hw1] at HR1
      have HB1 : Hid (Below w.heap.size w w1) := by unfold Hid; rw [hw1]; exact below_drewN (Below.refl _ _) q
      obtain ⟨lo, hlo⟩ : ∃ lo, loose va (s.kept ++ s.rest).length s.kept.length = lo := ⟨_, rfl⟩
      have HT := mkH (fun c => turnBit_ow HR1.out m c f HM.out hf)
      rw [hlo] at HT ⊢
      obtain ⟨r, hr⟩ : ∃ r, s.rest.length = r := ⟨_, rfl⟩
      rw [hr] at hlen hm1 hm3 ⊢
      clear hr
      clear hw1 HP hlo c0 c1
      go_wp2_with fail
      refine (HT.out r).mono ?_
      rintro e w2 ⟨⟨u, rfl⟩, bs, hraw, hbl, htk, hfr⟩
      have HR2 := mkH hraw
      have HF2 := mkH hfr
      have HTK := mkH htk
      obtain ⟨kl, hkl⟩ : ∃ kl, s.kept.length = kl := ⟨_, rfl⟩
      rw [hkl] at hlen HR2 HTK ⊢
      have HKL := mkH hkl
      obtain ⟨t, ht⟩ : ∃ t, kl + m = t := ⟨_, rfl⟩
      have ekm : (kl : Int) + (m : Int) = (t : Int) := by omega
      have htl : t ≤ 4194304 := by omega
      have HLE : Hid (kl + m ≤ bs.length) := by
        unfold Hid
        have hp := HR1.out
        have h2 : (bs.take (kl + m)).length = kl + m := by
          rw [HTK.out, List.length_append, turn_length, List.length_take]
          have hx : m ≤ s.rest.length := HMR.out
          omega
        rw [List.length_take] at h2
        omega
      rw [ht] at HLE HTK
      clear hraw hfr hbl htk HT hkl hm3 ht
      go_wp2_with fail
      refine (leave_any HR2.out t HLE.out).mono ?_
      rintro e w3 ⟨⟨u3, rfl⟩, ⟨v3, hraw3⟩, hfr3⟩
      rw [HTK.out] at hraw3
      have c1 := hraw3.c1
      have f1 := hraw3.fz 1
      have HR3 := mkH hraw3
      have HF3 := mkH hfr3
      clear hraw3 hfr3 hd
      go_wp2
      go_ret
      refine ⟨ret_i HE.out, ⟨v3, ?_⟩, ?_⟩
      · rw [HS.out]
        show Raw _ _ _ true (s.kept ++ turn (s.rest.take m) f) s.kept.length _
        rw [HKL.out]
        exact HR3.out.setDown true
      · have o := H.out.own
        exact ((Nx.ofBelow HB1.out).trans ⟨HF2.out, fun _ h => .inl h⟩).trans ((nx_own HF3.out o).trans (nx_own (fr_set HR3.out 1 _) o))
  · rw [hd] at HE HS c1
    simp only [if_true] at HE HS ⊢
    go_wp2
    go_ret
    exact ⟨ret_i HE.out, by rw [HS.out]; exact H0.out, Nx.refl _ _⟩
end Go.Proofs.YthmedpabgblddabGreatDoor.De
