/-
  The writer of wire: ranges.
-/
import Derived.Test.YtjboldahmndkeaaWiX
import Derived.Test.YtjboldahmndkeaaWiA2
namespace Go.Proofs.Ytjboldahmndkeaa.Wv
open Go.RowKit Kt Pl Wi Wk Ww Wx Wa Wy
open At (RowT okT)
set_option linter.unusedVariables false
set_option linter.unusedSimpArgs false
set_option maxRecDepth 20000

theorem flat_take1 {α : Type} (f : α → Bs) (l : List α) (k : Nat) (x : α) (hx : l[k]? = some x) : (l.take (k + 1)).flatMap f = (l.take k).flatMap f ++ f x := by
  rw [List.take_add_one, hx, List.flatMap_append]; simp
theorem flat_le {α : Type} (f : α → Bs) (m : Nat) : ∀ (l : List α), (∀ x ∈ l, (f x).length ≤ m) → (l.flatMap f).length ≤ m * l.length
  | [], _ => by simp
  | x :: l, h => by
    have h1 := flat_le f m l (fun y hy => h y (by simp [hy]))
    have h2 := h x (by simp)
    rw [List.flatMap_cons, List.length_append, List.length_cons, Nat.mul_add]
    omega
theorem rg_len {x : Int × Int} (h : mayB x.1 x.2 = true) : (0 ≤ x.1 ∧ x.1 ≤ 65536) ∧ (0 ≤ x.2 ∧ x.2 ≤ 65536) ∧ (encRg x).length ≤ 18 := by
  simp only [mayB, Bool.and_eq_true, decide_eq_true_eq] at h
  have b1 : (encN x.1).length ≤ 9 := enc_len9 (by omega)
  have b2 : (encN x.2).length ≤ 9 := enc_len9 (by omega)
  refine ⟨by omega, by omega, ?_⟩
  unfold encRg
  rw [List.length_append]; omega

set_option maxHeartbeats 2000000 in
theorem ranges_any (w : World) (base : Nat) (v : Value) (bs : Bs) (hw : Wt w base v bs) (hb : base ≤ w.heap.size) (hn : bs.length ≤ 900000000) (ao : Option Addr) (cap : Nat) (l : List (Int × Int)) (hr : ∀ W, Below base w W → RowR W ao l) (hl : l.length ≤ 1024) (hok : ∀ x ∈ l, mayB x.1 x.2 = true) :
    Calls Try.prog 41 #[v, .slice ao l.length cap] w fun e w' => Wrote w base (bs ++ encMany encRg l) e w' := by
  have HR := mkH hr
  have HO := mkH hok
  have HW := mkH hw
  have ho1 : ∀ x ∈ [(l.length : Int)], 0 ≤ x ∧ x ≤ 4611686018427387904 := by intro x hx; simp at hx; subst hx; omega
  have hel : (encN (l.length : Int)).length ≤ 9 := enc_len9 (by omega)
  have H1 := nums_any (w.alloc (.cells #[.int .i64 (l.length : Int)] 3)) base v bs (hw.gr ((Gr.refl w).alloc _)) (by simp; omega) (by omega) w.heap.size 1 [(l.length : Int)] (Bx.new w _ _) (by simp) ho1
  clear hr hok hw
  go_enter Try.func41, Try.ntmps41
  go_wp2_with fail
  refine H1.mono ?_
  rintro e w1 ⟨v1, rfl, hw1, hb1, hu1⟩
  have HW1 : Hid (Wt w1 base v1 (bs ++ encN (l.length : Int))) := mkH (by simpa using hw1)
  have HB1 : Hid (Below base w w1) := mkH ((below_down ((Gr.refl w).alloc (.cells #[.int .i64 (l.length : Int)] 3)).below hb).trans hb1)
  have HU1 : Hid (U8 w w1) := mkH ((U8.ofGr ((Gr.refl w).alloc _)).trans hu1)
  clear H1 hw1 hb1 hu1 HW ho1
  go_wp2
  go_loopw [0, 6, 14] (fun v1 _ i wr => ∃ k : Nat, k ≤ l.length ∧ i = .int .i64 k ∧ Hid (Wt wr base v1 (bs ++ encN (l.length : Int) ++ (l.take k).flatMap encRg)) ∧ Hid (Below base w wr) ∧ Hid (U8 w wr)) (fun _ _ i _ => l.length - (intOf i).toNat)
  case atStart => exact ⟨0, Nat.zero_le _, rfl, mkH (by simpa using HW1.out), HB1, HU1⟩
  case round =>
    obtain ⟨k, hk, rfl, HW2, HBe, HU⟩ := hrel
    have hsz := HBe.out.size
    have hlen : ((l.take k).flatMap encRg).length ≤ 18 * 1024 := by
      have h1 := flat_le encRg 18 (l.take k) (fun x hx => (rg_len (HO.out x (List.mem_of_mem_take hx))).2.2)
      have h2 : (l.take k).length ≤ 1024 := by rw [List.length_take]; omega
      omega
    by_cases hlt : k < l.length
    · obtain ⟨b, off, hao, hcl⟩ := HR.out wr HBe.out (by omega)
      obtain ⟨x, hx⟩ := some_of hlt
      obtain ⟨⟨p1, p2⟩, ⟨p3, p4⟩, p5⟩ := rg_len (HO.out x (List.mem_of_getElem? hx))
      have HLD : Hid ((loadVar 25 ⟨b, off + k * 2, none⟩).run Try.prog wr = .ok (.agg #[.int .i64 x.1, .int .i64 x.2]) wr) := mkH (load_rng (hcl k x hx))
      subst hao
      have HF : Hid (bs ++ encN (l.length : Int) ++ (l.take (k + 1)).flatMap encRg = bs ++ encN (l.length : Int) ++ (l.take k).flatMap encRg ++ [x.1, x.2].flatMap encN) := mkH (by rw [flat_take1 _ _ _ _ hx, ← List.append_assoc]; simp [encRg])
      have ho2 : ∀ y ∈ [x.1, x.2], 0 ≤ y ∧ y ≤ 4611686018427387904 := by intro y hy; simp at hy; rcases hy with rfl | rfl <;> omega
      have HO2 := mkH ho2
      have HI : Hid ((Try.prog.info? 25).map (·.size) = some (#[.int .i64 x.1, .int .i64 x.2] : Array Value).size) := mkH infoR
      clear hcl hx ho2
      go_wp2_with (refine wpList_ld (ty := 25) (x := .tmp 16) rfl rfl rfl HLD.out ?_)
      have HG2 := mkH ((Gr.refl wr).alloc (.cells #[.int .i64 x.1, .int .i64 x.2] 25))
      have hz2 : (wr.alloc (.cells #[.int .i64 x.1, .int .i64 x.2] 25)).heap.size = wr.heap.size + 1 := by simp
      generalize wr.alloc (.cells #[.int .i64 x.1, .int .i64 x.2] 25) = W2 at *
      have hsz2 := HG2.out.below.size
      rw [← hz2]
      have H3 := nums_any (W2.alloc (.cells #[.int .i64 x.1, .int .i64 x.2] 3)) base u0 (bs ++ encN (l.length : Int) ++ (l.take k).flatMap encRg) (HW2.out.gr (HG2.out.alloc _)) (by simp; omega) (by simp only [List.length_append]; omega) W2.heap.size 2 [x.1, x.2] (Bx.new W2 _ _) (by simp) HO2.out
      refine H3.mono ?_
      rintro e w3 ⟨v3, rfl, hw3, hb3, hu3⟩
      rw [← HF.out] at hw3
      have HW3 := mkH hw3
      have HB3 : Hid (Below base w w3) := mkH (HBe.out.trans ((below_down (HG2.out.alloc (.cells #[.int .i64 x.1, .int .i64 x.2] 3)).below (by omega)).trans hb3))
      have HU3 : Hid (U8 w w3) := mkH (HU.out.trans ((U8.ofGr (HG2.out.alloc _)).trans hu3))
      clear H3 hw3 hb3 hu3 HBe HU HW2 HF HG2 HLD hz2
      go_wp2
      go_roundw
      case rel => exact ⟨k + 1, by omega, by go_num, HW3, HB3, HU3⟩
      case measure => simp [intOf]; omega
    · have hW := HW2.out
      rw [List.take_of_length_le (by omega)] at hW
      have HW3 : Hid (Wt wr base u0 (bs ++ encMany encRg l)) := mkH (by unfold encMany; rw [← List.append_assoc]; exact hW)
      clear hW HW2
      go_wp2
      go_ret
      exact ⟨_, rfl, HW3.out, HBe.out, HU.out⟩
end Go.Proofs.Ytjboldahmndkeaa.Wv
