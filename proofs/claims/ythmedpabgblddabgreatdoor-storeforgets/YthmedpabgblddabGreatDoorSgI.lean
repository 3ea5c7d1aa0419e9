/-
  All's iterator: each body copied, then handed on.
-/
import Derived.Test.YthmedpabgblddabGreatDoorSgG
namespace Go.Proofs.YthmedpabgblddabGreatDoor.Sj
open Go.RowKit Go.Shelf Kt Cs Cw Cf Cn Cg Ck Ca Sp Dk Sh Si
set_option linter.unusedVariables false
attribute [local go_sem] Oper.semAt_some

set_option maxRecDepth 100000 in
set_option maxHeartbeats 2000000 in
theorem all1_seq (Q : Nat → Prop) (Bx : Nat) (T : TypeId) (w : World) (ao : Option Addr) (cap : Nat) (l : List (List UInt8)) (t bs : List UInt8) (hbs : bs = fcat l ++ t) (hll : ∀ x ∈ l, x.length ≤ 65536) (ht : (Cp.fd t).1 ≠ 0)
    (hT : Tb w) (hr : Row w ao bs) (hl : bs.length ≤ 1000000) (hc : bs.length ≤ cap) (hcap : cap ≤ 9223372036854775807) (hBx : w.heap[Bx]? = some (.cells #[.slice ao bs.length cap] T)) (q0 : ¬ Q 0) (qB : ¬ Q Bx) (qa : 0 < bs.length → ∀ b off, ao = some ⟨b, off, none⟩ → ¬ Q b) (qlt : ∀ k, Q k → k < w.heap.size) :
    SeqA Tryz.prog 10 77 #[.pointer (some ⟨Bx, 0, none⟩)] (fun W0 a => ∀ b off, a = some ⟨b, off, none⟩ → W0.heap.size ≤ b) Q 4 (prs l) w := fun lp J W hW hlp hlW hJ hY h0 => by
  have hBW : W.heap[Bx]? = some (.cells #[.slice ao bs.length cap] T) := (hW.block Bx (block_lt hBx)).trans hBx
  have hTW : Tb W := hT.below hW hT.size
  have hrW : Row W ao bs := hr.below hW
  have hqW : ∀ k, Q k ∨ k = lp → k < W.heap.size := fun k x => by
    rcases x with x | x
    · exact Nat.lt_of_lt_of_le (qlt k x) hW.size
    · omega
  have q0' : ¬ (Q 0 ∨ 0 = lp) := fun x => by rcases x with x | x; exact q0 x; have := hT.size; omega
  have qa' : 0 < bs.length → ∀ b off, ao = some ⟨b, off, none⟩ → ¬ (Q b ∨ b = lp) := fun hp b off e x => by
    rcases x with x | x
    · exact qa hp b off e x
    · obtain ⟨b', off', e', hc⟩ := hr hp
      rw [e] at e'
      simp only [Option.some.injEq, Addr.mk.injEq] at e'
      have := World.block_lt_of_cell? w _ (hc 0 hp)
      simp only at this
      omega
  have HBS := mkH hbs
  clear hbs
  refine callsIn_of_wp_marks Tryz.func77 rfl trivial ?_ rfl
  simp only [Tryz.ntmps77, List.size_toArray, List.length_cons, List.length_nil, Nat.reduceAdd, Nat.reduceSub, Array.replicate_succ, Array.replicate_zero, List.push_toArray, List.append_toArray, List.nil_append, List.cons_append]
  have hcx := cell_alloc_own (.cells #[.func (.yield lp) #[] #[]] 87) (cell_box hBW)
  gi_wp2_with fail
  refine ⟨trivial, (frames_in _ ao bs.length cap _).mono ?_⟩
  rintro e w' ⟨rfl, rfl⟩
  gi_wp2_with fail
  obtain ⟨W2, hW2⟩ : ∃ W2, (W.alloc (.cells #[.func (.yield lp) #[] #[]] 87)).alloc (.cells #[.slice ao bs.length cap] 30) = W2 := ⟨_, rfl⟩
  have hs2 : W2.heap.size = W.heap.size + 2 := by rw [← hW2]; simp
  have hb2 : Below W.heap.size W W2 := by rw [← hW2]; exact ((Below.refl _ W).alloc (Nat.le_refl _) _).alloc (by simp) _
  have hyb : W2.heap[W.heap.size]? = some (.cells #[.func (.yield lp) #[] #[]] 87) := by
    rw [← hW2]; exact (Below.heap_alloc _ _ _ (by simp)).trans (heap_alloc_new _ _)
  have hfb : W2.heap[W.heap.size + 1]? = some (.cells #[.slice ao bs.length cap] 30) := by
    rw [← hW2]
    have := heap_alloc_new (W.alloc (.cells #[.func (.yield lp) #[] #[]] 87)) (.cells #[.slice ao bs.length cap] 30)
    rwa [World.size_alloc] at this
  rw [hW2]
  clear hcx
  refine rf_own (by omega) (gf := 85) (lb := #[.pointer (some ⟨W.heap.size + 1, 0, none⟩)]) rfl (enters_of Tryz.func85 (by kernel_rfl) rfl)
    (frames1_seq _ (by omega) (fun k => Q k ∨ k = lp) (W.heap.size + 1) 30 W2 ao cap l t bs HBS.out hll ht (hTW.below hb2 hTW.size) (hrW.below hb2) hl hc hcap hfb q0' (fun x => by have := hqW _ x; omega) qa')
    (Below.refl _ _) (fun k hk => by have := hqW k hk; omega) rfl
    (fun k W' => J k W' ∧ W'.heap[W.heap.size]? = some (.cells #[.func (.yield lp) #[] #[]] 87))
    (fun k A B row hs hg hrow => ⟨hJ k A B row hs.1 hg (fun r e => ⟨by have := (hrow r e).1; omega, (hrow r e).2⟩), (hg.block _ (block_lt hs.2) (fun e => by have := (hrow _ e.symm).1; omega)).trans hs.2⟩)
    ⟨hJ 0 W W2 none h0 (by rw [← hW2]; exact (World.grownBy_alloc W _ none).trans (World.grownBy_alloc _ _ none)) (fun r e => by cases e), hyb⟩
    (fun pl b aq cq => { tmps := #[.func (.yield lp) #[] #[], .pointer (some ⟨Bx, 0, none⟩), .pointer (some ⟨W.heap.size, 0, none⟩), .int .i64 (pl : Int), .slice aq b.length cq, .slice ao bs.length cap, .func (.func 85) #[] #[.pointer (some ⟨W.heap.size + 1, 0, none⟩)], .int .i64 (pl : Int), .slice aq b.length cq, undef, undef, undef, undef, undef, undef], defers := [] }) ?assign ?body ?done
  case assign =>
    intro l' pl b aq cq W' K hK
    gi_wp2
    exact hK
  case body =>
    rintro l' k pl b aq cq Wz Wb hl1 - hlz - hfz ⟨hJk, hyb'⟩ _ hL hrow
    have hl2 := Nat.le_trans hlz hfz.size
    obtain ⟨hkl, hpl, hbb⟩ := prs_of hL
    have hcf := cell_box hyb'
    have hbl : b.length ≤ 65536 := by
      rw [hbb]
      have : l.getD k [] ∈ l := by simp [List.getD, hkl]
      exact hll _ this
    have hplb : pl ≤ 1000000 := by rw [hpl]; have := off_le (l := l) t k; rw [← HBS.out] at this; omega
    have HL := mkH hL
    have HJ := mkH hJk
    have hmx : Tryz.prog.follows .mixedOrders = true := by kernel_rfl
    clear hL hkl hpl hbb hJk
    gi_wp2
    gi_region_with_o (first
      | (refine ⟨trivial, ?_⟩; gi_at_call 75; refine (CallsIn.inRound l' (callsIn_wide.2 (clone_any _ aq cq b ?_ ?_))).mono ?_; (exact hrow); (omega); rintro e u1 ⟨v1, rfl, hown1, hb0⟩; obtain ⟨a1, c1, rfl, -, hc1, hr1⟩ := own_row hown1; have hb1 : Below Wb.heap.size Wb u1 := ⟨hb0.os, hb0.tape, hb0.output, hb0.size, hb0.block⟩; have hcf1 := (hb1.cell (p := ⟨W.heap.size, 0, none⟩) (block_lt hyb')).trans hcf; obtain ⟨fn, tmps, assign, body, hy, hR⟩ := hY k pl b a1 c1 Wb u1 HJ.out hb1 (by omega) (fun b off e => by subst e; exact (Se.own_blk hown1 rfl).2) HL.out hr1)
      | (refine (round_any hR).mono ?_; rintro e u2 ⟨rfl, h3, hF3⟩))
    all_goals gi_wp2
    all_goals
      have hbf : Fm (W2.heap.size + 2 + 0) (fun k => Q k ∨ k = lp) Wb u1 := Fm.ofFr (Fr.ofBelow hb1)
      have hmm : W2.heap.size + 2 + 0 = W.heap.size + 4 := by omega
      refine ⟨?_, h3, (hF3.block _ (by omega) (Nat.lt_of_lt_of_le (block_lt hyb') hb1.size) (fun x => by have := hqW _ x; omega)).trans ((hb1.block _ (block_lt hyb')).trans hyb')⟩
      rw [hmm] at hbf ⊢
      exact hbf.trans hF3
  case done =>
    rintro D W' hD ⟨hJe, -⟩ hK
    gi_wp2
    refine ⟨by simp, .inl ⟨_, _, rfl, run_takeDeferred hK, ?_⟩⟩
    refine ⟨_, results_none rfl _ _ _, ⟨_, rfl⟩, ?_⟩
    exact hJ _ _ _ (some D) hJe (grownBy_putObj' _ D (.deferred none)) (fun r e => by cases e; exact ⟨by omega, _, hK, rfl⟩)
end Go.Proofs.YthmedpabgblddabGreatDoor.Sj
