/-
  All, and the law's all, of a bag that is nil.
-/
import Derived.Test.YteaempemdolcjaaNtO
namespace Go.Proofs.Yteaempemdolcjaa.Nn2
open Go.RowKit Go.Shelf Kt Gf Nr Gk Na Ni Nj Nn No
set_option linter.unusedVariables false
set_option linter.unusedSimpArgs false
set_option maxRecDepth 20000
attribute [local go_sem] Oper.semAt_some

set_option maxRecDepth 100000 in
set_option maxHeartbeats 4000000 in
theorem each_seq_nil (n : Nat) (hn : 1 ≤ n) (Q : Nat → Prop) (cb : Nat) {w : World} (hcb : Bx w cb #[.pointer none] 23) :
    SeqZ Try.prog n 40 #[.pointer (some ⟨cb, 0, none⟩)] arI Q ([] : List (Int × Int)).zipIdx w := fun lp J Z W hW hlp hlW hJ hZ hY h0 => by
  have c0 : W.cell? ⟨cb, 0, none⟩ = some (.pointer none) := (hcb.bel hW).cell 0 _ rfl
  have HJ := mkH (h0 W.heap.size (Nat.le_refl _))
  clear hcb h0
  refine callsIn_of_wp Try.func40 rfl trivial ?_ rfl
  simp only [Try.ntmps40, List.size_toArray, List.length_cons, List.length_nil, Nat.reduceAdd, Nat.reduceSub, Array.replicate_succ, Array.replicate_zero, List.push_toArray, List.append_toArray, List.nil_append, List.cons_append]
  gi_wp2
  refine bodyPost_ret (v := .tuple #[]) (results_none rfl _ _ _) rfl ?_
  exact ⟨⟨_, rfl⟩, W.heap.size, Nat.le_refl _, .inl HJ.out⟩

set_option maxRecDepth 100000 in
set_option maxHeartbeats 4000000 in
theorem all1_nil (g : Nat) (caps : Array Value) (eg : ∀ args w, (callFunc g args).run Try.prog w = .ok (.enter g args) w) (Q : Nat → Prop) (bb : Nat) {w : World} (hbb : Bx w bb #[.pointer none] 23) (hQ : ∀ k, Q k → k < w.heap.size)
    (I Z : Nat → Nat → World → Prop) (hI : ∀ m, OwnFrom w.heap.size (I m)) (hZ : ∀ m, OwnFrom w.heap.size (Z m)) (h0 : ∀ m, w.heap.size ≤ m → I m 0 w) :
    Calls Try.prog 39 #[.func (.func g) #[] caps, .pointer (some ⟨bb, 0, none⟩)] w fun e w' => e = .returned (.tuple #[]) ∧ ∃ m, w.heap.size ≤ m ∧ (I m 0 w' ∨ ∃ k, Z m k w') := by
  obtain ⟨W1, hW1⟩ : ∃ W1, W1 = w.alloc (.cells #[.func (.func g) #[] caps] 47) := ⟨_, rfl⟩
  have hB1 : Below w.heap.size w W1 := by rw [hW1]; exact (Below.refl _ w).alloc (Nat.le_refl _) _
  have hs1 : W1.heap.size = w.heap.size + 1 := by rw [hW1]; simp
  have hy1 : Bx W1 w.heap.size #[.func (.func g) #[] caps] 47 := by rw [hW1]; exact Bx.new w _ _
  obtain ⟨W2, hW2⟩ : ∃ W2, W2 = W1.alloc (.cells #[.pointer none] 23) := ⟨_, rfl⟩
  have hB2 : Below W1.heap.size W1 W2 := by rw [hW2]; exact (Below.refl _ W1).alloc (Nat.le_refl _) _
  have hs2 : W2.heap.size = w.heap.size + 2 := by rw [hW2]; simp; omega
  have hcb : Bx W2 (w.heap.size + 1) #[.pointer none] 23 := by rw [hW2, ← hs1]; exact Bx.new W1 _ _
  have hyb := hy1.bel hB2
  have hBB : Below w.heap.size w W2 := hB1.trans (hB2.mono hB1.size)
  have c0 : W1.cell? ⟨bb, 0, none⟩ = some (.pointer none) := (hbb.bel hB1).cell 0 _ rfl
  obtain ⟨L, hLn⟩ : ∃ L : List (Int × Int), L = [] := ⟨_, rfl⟩
  have hseq := each_seq_nil 11 (by omega) Q (w.heap.size + 1) hcb
  rw [← hLn] at hseq
  have HLN := mkH hLn
  have hI0 : ∀ m, W2.heap.size ≤ m → I m 0 W2 := fun m hm => hI m 0 w W2 none (h0 m (by omega)) (grown_of_below' hBB) (fun r e => by cases e)
  have HQ := mkH hQ
  have HYB := mkH hyb
  have HS2 := mkH hs2
  have HS1 := mkH hs1
  have HW1 := mkH hW1
  have HW2 := mkH hW2
  have HB2 := mkH hBB
  have hQ2 : ∀ k, Q k → k < W2.heap.size := fun k hk => by have := hQ k hk; omega
  clear hbb hQ hB1 hs1 hy1 hB2 hs2 hcb hyb hBB h0 hW1 hW2
  refine (callsIn_wide (n := 12)).1 ?_
  refine callsIn_of_wp_marks Try.func39 rfl trivial ?_ rfl
  simp only [Try.ntmps39, List.size_toArray, List.length_cons, List.length_nil, Nat.reduceAdd, Nat.reduceSub, Array.replicate_succ, Array.replicate_zero, List.push_toArray, List.append_toArray, List.nil_append, List.cons_append]
  rw [HW1.out] at c0
  gi_wp2_with fail
  refine ⟨trivial, (callsIn_wide.2 (each_any _ _ ⟨_, rfl⟩)).mono ?_⟩
  rintro e w1 ⟨rfl, rfl⟩
  gi_wp2_with fail
  rw [show w.alloc (.cells #[.func (.func g) #[] caps] 47) = W1 from HW1.out.symm, show W1.alloc (.cells #[.pointer none] 23) = W2 from HW2.out.symm]
  have own_bx : ∀ (o : Nat) (cs : Array Value) (t : TypeId) (A B : World) (row : Option Nat), Bx A o cs t → A.grownBy B row → (∀ r, row = some r → W2.heap.size ≤ r ∧ ∃ o : Obj, A.heap[r]? = some o ∧ o.isCells = false) → Bx B o cs t := fun o cs t A B row hb hg hr =>
    (hg.block o hb.lt (fun e => by
      obtain ⟨-, o', ho, hc⟩ := hr o e.symm
      unfold Bx at hb
      rw [hb] at ho
      cases ho
      cases hc)).trans hb
  have hps : ∀ x : (Int × Int) × Nat, (arI x).size = (#[7, 8] : Array Tmp).size := fun _ => rfl
  refine rfZ (by omega) (gf := 40) (lb := #[.pointer (some ⟨w.heap.size + 1, 0, none⟩)]) rfl (enters_of Try.func40 (by kernel_rfl) rfl) hseq (Below.refl _ _) hQ2 hps
    (fun m k W => I m k W ∧ Bx W w.heap.size #[.func (.func g) #[] caps] 47) Z
    (fun m k A B row hs hg hr => ⟨hI m k A B row hs.1 hg (fun r e => ⟨by have := (hr r e).1; have := HS2.out; omega, (hr r e).2⟩), own_bx _ _ _ A B row hs.2 hg hr⟩)
    (fun m k A B row hs hg hr => hZ m k A B row hs hg (fun r e => ⟨by have := (hr r e).1; have := HS2.out; omega, (hr r e).2⟩))
    (fun m hm => ⟨hI0 m hm, HYB.out⟩)
    (fun x a' W => ∃ q, a' = { tmps := #[.func (.func g) #[] caps, .pointer (some ⟨bb, 0, none⟩), .pointer (some ⟨w.heap.size, 0, none⟩), .int .i64 (x.2 : Int), .pointer (some ⟨q, 0, none⟩), .pointer none, .func (.func 40) #[] #[.pointer (some ⟨w.heap.size + 1, 0, none⟩)], .int .i64 (x.2 : Int), .agg #[.int .i64 x.1.1, .int .i64 x.1.2], undef, undef, undef, undef, undef, undef], defers := [] } ∧ Bx W q #[.int .i64 x.1.1, .int .i64 x.1.2] 55)
    (fun x a' => ?hA) ?assign ?body ?done ?stop
  case hA =>
    rintro - W W' row ⟨q, e, hb⟩ hg hr
    exact ⟨q, e, own_bx _ _ _ W W' row hb hg hr⟩
  case assign =>
    rintro l' ⟨⟨x1, x2⟩, k⟩ W' K hK
    have HK := mkH hK
    clear hK
    simp only [arI]
    gi_wp2
    exact HK.out _ _ ((Below.refl _ _).alloc (Nat.le_refl _) _) ⟨W'.heap.size, rfl, Bx.new W' _ _⟩
  case body =>
    rintro l' m k ⟨⟨x1, x2⟩, k'⟩ a' Wb hl1 hm hmW ⟨hIk, hyk⟩ ⟨q, rfl, hbq⟩ hx
    rw [HLN.out] at hx
    cases hx
  case done =>
    rintro D m W' hD hm ⟨g1, g2⟩ hdf
    have HDF := mkH hdf
    have HE : Hid (I m 0 (W'.putObj D (.deferred none))) := mkH ((hI m).putObj _ (by rw [List.length_zipIdx, HLN.out] at g1; exact g1) (by have := HS2.out; omega) hdf rfl)
    clear g1 g2 hdf
    gi_wp2
    refine ⟨by simp, .inl ⟨_, _, rfl, run_takeDeferred HDF.out, ?_⟩⟩
    exact ⟨_, results_none rfl _ _ _, rfl, m, by have := HS2.out; omega, .inl HE.out⟩
  case stop =>
    rintro D m k W' hD hm hk g1 hdf
    have HDF := mkH hdf
    have HE : Hid (Z m k (W'.putObj D (.deferred none))) := mkH ((hZ m).putObj _ g1 (by have := HS2.out; omega) hdf rfl)
    clear g1 hdf
    gi_wp2
    refine ⟨by simp, .inl ⟨_, _, rfl, run_takeDeferred HDF.out, ?_⟩⟩
    exact ⟨_, results_none rfl _ _ _, rfl, m, by have := HS2.out; omega, .inr ⟨k, HE.out⟩⟩
set_option maxHeartbeats 1000000 in
theorem alls_nil (w : World) :
    Calls Try.prog 20 #[.pointer none] w fun e w' => AlP w [] e w' := by
  obtain ⟨W1, hW1⟩ : ∃ W1, W1 = w.alloc (.cells #[.pointer none] 23) := ⟨_, rfl⟩
  have hs1 : W1.heap.size = w.heap.size + 1 := by rw [hW1]; simp
  have hB1 : Below w.heap.size w W1 := by rw [hW1]; exact (Below.refl _ w).alloc (Nat.le_refl _) _
  have hbb : Bx W1 w.heap.size #[.pointer none] 23 := by rw [hW1]; exact Bx.new w _ _
  obtain ⟨W2, hW2⟩ : ∃ W2, W2 = W1.alloc (.cells #[.slice none 0 0] 28) := ⟨_, rfl⟩
  have hs2 : W2.heap.size = w.heap.size + 2 := by rw [hW2]; simp; omega
  have hB2 : Below W1.heap.size W1 W2 := by rw [hW2]; exact (Below.refl _ W1).alloc (Nat.le_refl _) _
  have hx2 : Bx W2 (w.heap.size + 1) #[.slice none 0 0] 28 := by rw [hW2, ← hs1]; exact Bx.new W1 _ _
  obtain ⟨W3, hW3⟩ : ∃ W3, W3 = W2.alloc (.cells #[.bool true] 4) := ⟨_, rfl⟩
  have hs3 : W3.heap.size = w.heap.size + 3 := by rw [hW3]; simp; omega
  have hB3 : Below W2.heap.size W2 W3 := by rw [hW3]; exact (Below.refl _ W2).alloc (Nat.le_refl _) _
  have hx3 : Bx W3 (w.heap.size + 2) #[.bool true] 4 := by rw [hW3, ← hs2]; exact Bx.new W2 _ _
  have hBB : Below w.heap.size w W3 := hB1.trans ((hB2.mono hB1.size).trans (hB3.mono (by omega)))
  have hb3 : Below (w.heap.size + 1) W1 W3 := by rw [← hs1]; exact hB2.trans (hB3.mono (by omega))
  have hbb3 : Bx W3 w.heap.size #[.pointer none] 23 := (hbb.bel hB2).bel hB3
  have hx23 := hx2.bel hB3
  have HA := mkH (all1_nil 33 #[.pointer (some ⟨w.heap.size + 2, 0, none⟩), .pointer (some ⟨w.heap.size + 1, 0, none⟩)] (enters_of Try.func33 (by kernel_rfl) rfl) (fun q => q = w.heap.size + 1 ∨ q = w.heap.size + 2) w.heap.size hbb3 (fun q hq => by omega)
    (fun m k W => As (w.heap.size + 1) (w.heap.size + 2) [] W1 m k W ∧ W3.heap.size ≤ W.heap.size) (fun _ _ _ => False)
    (fun m s A B row hs hg hr => ⟨as_own _ _ _ _ _ m (by omega) s A B row hs.1 hg hr, Nat.le_trans hs.2 hg.size⟩) (fun m s A B row hs hg hr => hs)
    (fun m hm => ⟨⟨none, 0, hx23, hx3, World.ownsRow_nil _ _ _ _, hb3⟩, Nat.le_refl _⟩))
  have HS1 := mkH hs1
  have HS2 := mkH hs2
  have HS3 := mkH hs3
  have HB1 := mkH hB1
  have hnf := fun (W : World) (x y : Array Value) => eql_func (P := Try.prog) W 51 _ _ _ (.func 39) x y Try.underlying51
  have HW := mkH (And.intro hW1 (And.intro hW2 hW3))
  clear hW1 hW2 hW3 hs1 hs2 hs3 hB1 hB2 hB3 hbb hx2 hx3 hBB hb3 hbb3 hx23
  go_enter Try.func20, Try.ntmps20
  go_wp2_with fail
  refine (all_any _ _ ⟨_, rfl⟩).mono ?_
  rintro e w1 ⟨rfl, rfl⟩
  go_wp2_with fail
  rw [show ((w.alloc (.cells #[.pointer none] 23)).alloc (.cells #[.slice none 0 0] 28)).alloc (.cells #[.bool true] 4) = W3 by rw [HW.out.2.2, HW.out.2.1, HW.out.1]]
  clear HW hnf
  refine HA.out.mono ?_
  rintro e w4 ⟨rfl, m, hm, ⟨⟨ao, cap, x1, x2, x3, x4⟩, x5⟩ | ⟨k, hf⟩⟩
  · have c1 : w4.cell? ⟨w.heap.size + 1, 0, none⟩ = some (.slice ao 0 cap) := x1.cell 0 _ rfl
    have c2 : w4.cell? ⟨w.heap.size + 1 + 1, 0, none⟩ = some (.bool true) := x2.cell 0 _ rfl
    have HO : Hid (w4.ownsRow w.heap.size 3 1 (.slice ao 0 cap) 0 (Iv [])) := mkH (by
      exact own_mono x3 (by have := HS3.out; omega))
    have HB : Hid (Below w.heap.size w w4) := mkH (HB1.out.trans (x4.mono (by omega)))
    clear x1 x2 x3 x4 HA
    go_wp2_with fail
    go_quiet (fail)
    go_wp2
    go_ret2
    exact ⟨ao, cap, rfl, own_below HO.out (below_drewN (Below.refl _ _) _), below_drewN HB.out _⟩
  · exact hf.elim
end Go.Proofs.Yteaempemdolcjaa.Nn2
