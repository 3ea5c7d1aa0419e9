/-
  All and its iterator, over any function that is handed to it.
-/
import Derived.Test.YteaempemdolcjaaNtJ
namespace Go.Proofs.Yteaempemdolcjaa.Nn
open Go.RowKit Go.Shelf Kt Gf Nr Gk Na Ni Nj
set_option linter.unusedVariables false
set_option linter.unusedSimpArgs false
set_option maxRecDepth 20000
attribute [local go_sem] Oper.semAt_some

theorem all_any (w : World) (v : Value) (hv : ∃ a, v = .pointer a) : Calls Try.prog 27 #[v] w fun e w' => e = .returned (.func (.func 39) #[] #[.pointer (some ⟨w.heap.size, 0, none⟩)]) ∧ w' = w.alloc (.cells #[v] 23) := by
  obtain ⟨a, rfl⟩ := hv
  go_enter Try.func27, Try.ntmps27
  go_wp2
  go_ret
  exact ⟨rfl, rfl⟩

set_option maxRecDepth 100000 in
set_option maxHeartbeats 4000000 in
theorem all1_any (g : Nat) (caps : Array Value) (eg : ∀ args w, (callFunc g args).run Try.prog w = .ok (.enter g args) w) (Q : Nat → Prop) (bb : Nat) {C : Nat → Prop} {w : World} {b : Nat} {L : List (Int × Int)} {p : Int} (h : Bg C w b L p) (hbb : Bx w bb #[.pointer (some ⟨b, 0, none⟩)] 23) (hQ : ∀ k, Q k → k < w.heap.size) (hl : L.length ≤ 1000000)
    (I Z : Nat → Nat → World → Prop) (hI : ∀ m, OwnFrom w.heap.size (I m)) (hZ : ∀ m, OwnFrom w.heap.size (Z m)) (h0 : ∀ m, w.heap.size ≤ m → I m 0 w)
    (hU : ∀ m k x W, w.heap.size ≤ m → m ≤ W.heap.size → I m k W → L[k]? = some x → Calls Try.prog g (#[.int .i64 (k : Int), .int .i64 x.2] ++ caps) W fun e W' => (e = .returned (.bool true) ∧ I m (k + 1) W' ∧ Fm m Q W W') ∨ (e = .returned (.bool false) ∧ Z m (k + 1) W' ∧ Fm m Q W W')) :
    Calls Try.prog 39 #[.func (.func g) #[] caps, .pointer (some ⟨bb, 0, none⟩)] w fun e w' => e = .returned (.tuple #[]) ∧ ∃ m, w.heap.size ≤ m ∧ (I m L.length w' ∨ ∃ k, k ≤ L.length ∧ Z m k w') := by
  obtain ⟨W1, hW1⟩ : ∃ W1, W1 = w.alloc (.cells #[.func (.func g) #[] caps] 47) := ⟨_, rfl⟩
  have hB1 : Below w.heap.size w W1 := by rw [hW1]; exact (Below.refl _ w).alloc (Nat.le_refl _) _
  have hs1 : W1.heap.size = w.heap.size + 1 := by rw [hW1]; simp
  have hy1 : Bx W1 w.heap.size #[.func (.func g) #[] caps] 47 := by rw [hW1]; exact Bx.new w _ _
  obtain ⟨W2, hW2⟩ : ∃ W2, W2 = W1.alloc (.cells #[.pointer (some ⟨b, 0, none⟩)] 23) := ⟨_, rfl⟩
  have hB2 : Below W1.heap.size W1 W2 := by rw [hW2]; exact (Below.refl _ W1).alloc (Nat.le_refl _) _
  have hs2 : W2.heap.size = w.heap.size + 2 := by rw [hW2]; simp; omega
  have hcb : Bx W2 (w.heap.size + 1) #[.pointer (some ⟨b, 0, none⟩)] 23 := by rw [hW2, ← hs1]; exact Bx.new W1 _ _
  have hyb := hy1.bel hB2
  have hBB : Below w.heap.size w W2 := hB1.trans (hB2.mono hB1.size)
  have c0 : W1.cell? ⟨bb, 0, none⟩ = some (.pointer (some ⟨b, 0, none⟩)) := (hbb.bel hB1).cell 0 _ rfl
  have hseq := each_seq 11 (by omega) Q (w.heap.size + 1) (h.below hBB) hcb (fun k hk => by have := hQ k hk; omega) hl
  have hI0 : ∀ m, W2.heap.size ≤ m → I m 0 W2 := fun m hm => hI m 0 w W2 none (h0 m (by omega)) (grown_of_below' hBB) (fun r e => by cases e)
  have HQ := mkH hQ
  have HYB := mkH hyb
  have HS2 := mkH hs2
  have HS1 := mkH hs1
  have HU := mkH hU
  have HW1 := mkH hW1
  have HW2 := mkH hW2
  have HB2 := mkH hBB
  have hQ2 : ∀ k, Q k → k < W2.heap.size := fun k hk => by have := hQ k hk; omega
  clear h hbb hQ hB1 hs1 hy1 hB2 hs2 hcb hyb hBB hU h0 hW1 hW2
  refine (callsIn_wide (n := 12)).1 ?_
  refine callsIn_of_wp_marks Try.func39 rfl trivial ?_ rfl
  simp only [Try.ntmps39, List.size_toArray, List.length_cons, List.length_nil, Nat.reduceAdd, Nat.reduceSub, Array.replicate_succ, Array.replicate_zero, List.push_toArray, List.append_toArray, List.nil_append, List.cons_append]
  rw [HW1.out] at c0
  gi_wp2_with fail
  refine ⟨trivial, (callsIn_wide.2 (each_any _ _ ⟨_, rfl⟩)).mono ?_⟩
  rintro e w1 ⟨rfl, rfl⟩
  gi_wp2_with fail
  rw [show w.alloc (.cells #[.func (.func g) #[] caps] 47) = W1 from HW1.out.symm, show W1.alloc (.cells #[.pointer (some ⟨b, 0, none⟩)] 23) = W2 from HW2.out.symm]
  have own_bx : ∀ (o : Nat) (cs : Array Value) (t : TypeId) (A B : World) (row : Option Nat), Bx A o cs t → A.grownBy B row → (∀ r, row = some r → W2.heap.size ≤ r ∧ ∃ o : Obj, A.heap[r]? = some o ∧ o.isCells = false) → Bx B o cs t := fun o cs t A B row hb hg hr =>
    (hg.block o hb.lt (fun e => by
      obtain ⟨-, o', ho, hc⟩ := hr o e.symm
      unfold Bx at hb
      rw [hb] at ho
      cases ho
      cases hc)).trans hb
  have hps : ∀ x : (Int × Int) × Nat, (arI x).size = (#[7, 8] : Array Tmp).size := fun _ => rfl
  refine rfZ (by omega) (gf := 40) (lb := #[.pointer (some ⟨w.heap.size + 1, 0, none⟩)]) rfl (enters_of Try.func40 (by kernel_rfl) rfl) hseq (Below.refl _ _) hQ2 hps
    (fun m k W => I m k W ∧ Bx W w.heap.size #[.func (.func g) #[] caps] 47) Z
    (fun m k A B row hs hg hr => ⟨hI m k A B row hs.1 hg (fun r e => ⟨by have := (hr r e).1; have := HS2.out; omega, (hr r e).2⟩), own_bx _ _ _ A B row hs.2 hg hr⟩)
    (fun m k A B row hs hg hr => hZ m k A B row hs hg (fun r e => ⟨by have := (hr r e).1; have := HS2.out; omega, (hr r e).2⟩))
    (fun m hm => ⟨hI0 m hm, HYB.out⟩)
    (fun x a' W => ∃ q, a' = { tmps := #[.func (.func g) #[] caps, .pointer (some ⟨bb, 0, none⟩), .pointer (some ⟨w.heap.size, 0, none⟩), .int .i64 (x.2 : Int), .pointer (some ⟨q, 0, none⟩), .pointer (some ⟨b, 0, none⟩), .func (.func 40) #[] #[.pointer (some ⟨w.heap.size + 1, 0, none⟩)], .int .i64 (x.2 : Int), .agg #[.int .i64 x.1.1, .int .i64 x.1.2], undef, undef, undef, undef, undef, undef], defers := [] } ∧ Bx W q #[.int .i64 x.1.1, .int .i64 x.1.2] 55)
    (fun x a' => ?hA) ?assign ?body ?done ?stop
  case hA =>
    rintro - W W' row ⟨q, e, hb⟩ hg hr
    exact ⟨q, e, own_bx _ _ _ W W' row hb hg hr⟩
  case assign =>
    rintro l' ⟨⟨x1, x2⟩, k⟩ W' K hK
    have HK := mkH hK
    clear hK
    simp only [arI]
    gi_wp2
    exact HK.out _ _ ((Below.refl _ _).alloc (Nat.le_refl _) _) ⟨W'.heap.size, rfl, Bx.new W' _ _⟩
  case body =>
    rintro l' m k ⟨⟨x1, x2⟩, k'⟩ a' Wb hl1 hm hmW ⟨hIk, hyk⟩ ⟨q, rfl, hbq⟩ hx
    obtain ⟨hx', rfl⟩ := at_zip hx
    simp only at hx'
    have d1 : Wb.cell? ⟨q, 1, none⟩ = some (.int .i64 x2) := hbq.cell 1 _ rfl
    have d0 : Wb.cell? ⟨w.heap.size, 0, none⟩ = some (.func (.func g) #[] caps) := hyk.cell 0 _ rfl
    have HC := mkH (HU.out m k' (x1, x2) Wb (by have := HS2.out; omega) hmW hIk hx')
    have HY := mkH hyk
    have hlt : w.heap.size < m := by have := HS2.out; omega
    clear hIk hyk hbq hx hx'
    gi_wp2_with fail
    refine ⟨trivial, (CallsIn.inRound l' (callsIn_wide.2 HC.out)).mono ?_⟩
    rintro e W3 (⟨rfl, g1, g2⟩ | ⟨rfl, g1, g2⟩)
    · have HE : Hid (Fm m Q Wb W3 ∧ I m (k' + 1) W3 ∧ Bx W3 w.heap.size #[.func (.func g) #[] caps] 47) := mkH ⟨g2, g1, (g2.block _ hlt HY.out.lt (fun hq => by have := HQ.out _ hq; omega)).trans HY.out⟩
      clear g1 g2
      gi_wp2
      exact HE.out
    · have HE : Hid (Fm m Q Wb W3 ∧ Z m (k' + 1) W3) := mkH ⟨g2, g1⟩
      clear g1 g2
      gi_wp2
      exact HE.out
  case done =>
    rintro D m W' hD hm ⟨g1, g2⟩ hdf
    have HDF := mkH hdf
    have HE : Hid (I m L.length (W'.putObj D (.deferred none))) := mkH ((hI m).putObj _ (by rw [List.length_zipIdx] at g1; exact g1) (by have := HS2.out; omega) hdf rfl)
    clear g1 g2 hdf
    gi_wp2
    refine ⟨by simp, .inl ⟨_, _, rfl, run_takeDeferred HDF.out, ?_⟩⟩
    exact ⟨_, results_none rfl _ _ _, rfl, m, by have := HS2.out; omega, .inl HE.out⟩
  case stop =>
    rintro D m k W' hD hm hk g1 hdf
    have HDF := mkH hdf
    rw [List.length_zipIdx] at hk
    have HE : Hid (Z m k (W'.putObj D (.deferred none))) := mkH ((hZ m).putObj _ g1 (by have := HS2.out; omega) hdf rfl)
    clear g1 hdf
    gi_wp2
    refine ⟨by simp, .inl ⟨_, _, rfl, run_takeDeferred HDF.out, ?_⟩⟩
    exact ⟨_, results_none rfl _ _ _, rfl, m, by have := HS2.out; omega, .inr ⟨k, hk, HE.out⟩⟩
end Go.Proofs.Yteaempemdolcjaa.Nn
