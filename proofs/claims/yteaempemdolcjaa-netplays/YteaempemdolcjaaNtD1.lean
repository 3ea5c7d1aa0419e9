/-
  remove.
-/
import Derived.Test.YteaempemdolcjaaNtZ
namespace Go.Proofs.Yteaempemdolcjaa.Nd1
open Go.RowKit Kt Gf Nr Gk Ns Nw Nx Na No Np Ny Nz
set_option linter.unusedVariables false
set_option linter.unusedSimpArgs false
set_option maxRecDepth 20000

/-- Those whose number is none of these. -/
def rmL (ns : List Int) (L : List (Int × Int)) : List (Int × Int) := L.filter (fun x => !decide (x.1 ∈ ns))
set_option maxHeartbeats 1000000 in
theorem remove_any {C : Nat → Prop} {w : World} {b : Nat} {L : List (Int × Int)} {p : Int} (h : Bg C w b L p) (B : Nat) (ao : Option Addr) (cap : Nat) (ns : List Int) (hns : w.ownsRow B 3 1 (.slice ao ns.length cap) ns.length (Iv ns)) (hs : ns.Pairwise (· ≤ ·)) (hl : ns.length ≤ 1000000) (hL : L.length ≤ 1000000) :
    Calls Try.prog 32 #[.pointer (some ⟨b, 0, none⟩), .slice ao ns.length cap] w fun e w' => e = .returned (.int .i64 ((L.length : Int) - ((rmL ns L).length : Int))) ∧ Bg C w' b (rmL ns L) p ∧ Fr (Ft C b w) w w' := by
  obtain ⟨W1, hW1⟩ : ∃ W1, W1 = w.alloc (.cells #[.slice ao ns.length cap] 28) := ⟨_, rfl⟩
  have hb1 : Below w.heap.size w W1 := by rw [hW1]; exact (Below.refl _ w).alloc (Nat.le_refl _) _
  have hnb : Bx W1 w.heap.size #[.slice ao ns.length cap] 28 := by rw [hW1]; exact Bx.new w _ _
  have hns1 := own_below hns hb1
  obtain ⟨a1, c1, h1, h2, h3⟩ := h.below hb1
  have c0 : W1.cell? ⟨b, 0, none⟩ = some (.slice a1 L.length c1) := h1.cell 0 _ rfl
  have hD := delRm W1 0 a1 c1 L h2 (by omega) (fun x => decide (x.1 ∈ ns)) w.heap.size (fun W x hf hx => rm1_any W w.heap.size ao cap ns (hnb.fr hf (fun e => own_ne h2 hnb e (by decide) rfl)) (RowE.own (own_fr hns1 hf (fun k hk => own_kinds hns1 h2 (by decide) k hk))).2 hs hl x)
  have HD : Hid (Calls Try.prog 43 #[.slice a1 L.length c1, .func (.func 44) #[] #[.pointer (some ⟨w.heap.size, 0, none⟩)]] W1 fun e w' => e = .returned (.slice a1 (rmL ns L).length c1) ∧ w'.ownsRow 0 55 2 (.slice a1 (rmL ns L).length c1) (rmL ns L).length (Fi (rmL ns L)) ∧ Fr (fun k => (Value.slice a1 L.length c1).ownBlock = some k) W1 w') := mkH hD
  have hfl : (rmL ns L).length ≤ L.length := List.length_filter_le _ _
  have HFIN : Hid (∀ w1, w1.ownsRow 0 55 2 (.slice a1 (rmL ns L).length c1) (rmL ns L).length (Fi (rmL ns L)) → Fr (fun q => (Value.slice a1 L.length c1).ownBlock = some q) W1 w1 →
      w1.frozen? ⟨b, 0, none⟩ = false ∧ (∃ v, w1.cell? ⟨b, 0, none⟩ = some v) ∧ Bg C (w1.setCell ⟨b, 0, none⟩ (.slice a1 (rmL ns L).length c1)) b (rmL ns L) p ∧ Fr (Ft C b w) w (w1.setCell ⟨b, 0, none⟩ (.slice a1 (rmL ns L).length c1))) := mkH (fun w1 ho hf => by
    have hnb' : ¬ (Value.slice a1 L.length c1).ownBlock = some b := fun e => own_ne h2 h1 e (by decide) rfl
    have b2 : Bx w1 b #[.slice a1 L.length c1, .int .i64 p] 26 := h1.fr hf hnb'
    have f2 := b2.frset 0 (.slice a1 (rmL ns L).length c1)
    refine ⟨b2.frozen 0, ⟨_, b2.cell 0 _ rfl⟩, ⟨a1, c1, b2.set 0 _, own_fr ho f2 (fun k hk e => by subst e; exact own_ne ho b2 hk (by decide) rfl), ?_⟩, ?_⟩
    · intro j hj
      exact h3 j (by cases a1 with | none => simp [Value.ownBlock] at hj | some a => exact hj)
    · have g1 : Fr (Ft C b W1) W1 (w1.setCell ⟨b, 0, none⟩ (.slice a1 (rmL ns L).length c1)) := by
        refine (hf.mono (fun j hj => ?_)).trans f2 (fun i hi => .inl (.inl hi))
        rcases h2.2 with ⟨e, -⟩ | ⟨g, c, cur, e, -, hg, -⟩
        · rw [e] at hj; simp [Value.ownBlock] at hj
        · have hk2 := hj
          rw [e] at hk2
          simp only [Value.ownBlock, Option.some.injEq] at hk2
          subst hk2
          exact .inr ⟨h3 _ hj, cur, hg⟩
      exact ftrans (Fr.ofBelow hb1) g1)
  have HB1 := mkH h1
  obtain ⟨n, hn⟩ : ∃ n, n = L.length := ⟨_, rfl⟩
  obtain ⟨m, hm⟩ : ∃ m, m = (rmL ns L).length := ⟨_, rfl⟩
  rw [← hn] at hL c0 HD hfl ⊢
  rw [← hn] at HFIN
  rw [← hm] at HFIN HD hfl ⊢
  rw [hW1] at c0 HD HFIN
  clear h hb1 hnb hns1 hns hD h1 h2 h3 hn hm hW1 hs HB1
  have hwm : IntKind.i64.wrap ((n : Int) - (m : Int)) = (n : Int) - (m : Int) := IntWalk.i64_in _ (by omega)
  go_enter Try.func32, Try.ntmps32
  go_wp2_with (go_at_call 43; refine HD.out.mono ?_; rintro e w2 ⟨rfl, ho2, hf2⟩; obtain ⟨q1, ⟨q2, q3⟩, q4, q5⟩ := HFIN.out w2 ho2 hf2; have H4 := mkH q4; have H5 := mkH q5; clear ho2 hf2 q4 q5)
  go_ret
  exact ⟨rfl, H4.out, H5.out⟩
end Go.Proofs.Yteaempemdolcjaa.Nd1
