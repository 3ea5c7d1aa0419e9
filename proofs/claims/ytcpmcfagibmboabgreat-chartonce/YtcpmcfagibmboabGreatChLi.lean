/-
  Values told one by one to a loop's body that may write older memory and may end the going through: what an iterator promises (SeqZ), and the loop's law.
-/
import Derived.Test.YtcpmcfagibmboabGreatChH
import Derived.RangeFuncWrites
import Derived.RangeFuncNested
import Derived.RangeFuncBound
import Derived.RangeFuncCalls
import Derived.RangeFuncLeaves
import Derived.Shelf.RegionOpen
import Derived.OwnWalkIn
import Derived.TacticsInMore
import Derived.LoopNIn
import Derived.LoopIn
namespace Go.Proofs.YtcpmcfagibmboabGreat.Li
open Go.RowKit Go.Shelf Kt Gf
set_option linter.unusedVariables false
attribute [local go_sem] Oper.semAt_some

theorem fr_put (W : World) (l : Nat) (o : Obj) : Fr (fun k => k = l) W (W.putObj l o) := ⟨rfl, rfl, rfl, by simp, fun k _ hk => World.putObj_heap_other hk⟩
/-- Of the old blocks below m only those of Q have turned. -/
structure Fm (m : Nat) (Q : Nat → Prop) (w w' : World) : Prop where
  os : w'.os = w.os
  tape : w'.tape = w.tape
  output : w'.output = w.output
  size : w.heap.size ≤ w'.heap.size
  block : ∀ k, k < m → k < w.heap.size → ¬ Q k → w'.heap[k]? = w.heap[k]?
theorem Fm.ofFr {m : Nat} {Q : Nat → Prop} {w w' : World} (h : Fr Q w w') : Fm m Q w w' := ⟨h.os, h.tape, h.output, h.size, fun k _ hk hq => h.block k hk hq⟩
theorem Fm.trans {m : Nat} {Q : Nat → Prop} {a b c : World} (h : Fm m Q a b) (k : Fm m Q b c) : Fm m Q a c := ⟨k.os.trans h.os, k.tape.trans h.tape, k.output.trans h.output, Nat.le_trans h.size k.size, fun i hm hi hq => (k.block i hm (Nat.lt_of_lt_of_le hi h.size) hq).trans (h.block i hm hi hq)⟩
theorem Fm.mono {m : Nat} {Q R : Nat → Prop} {a b : World} (h : Fm m Q a b) (hi : ∀ k, Q k → R k) : Fm m R a b := ⟨h.os, h.tape, h.output, h.size, fun i hm hk hq => h.block i hm hk (fun x => hq (hi i x))⟩
theorem Fm.ofBelow {m : Nat} {Q : Nat → Prop} {w w' : World} (h : Below m w w') : Fm m Q w w' := ⟨h.os, h.tape, h.output, h.size, fun k hm hk hq => h.block k hm⟩

/-- What an iterator promises that tells these, one by one, to a body that says whether it goes on: behind its first round the body writes, of what was there ahead of that round (below m), no more than Q. -/
def SeqZ {α : Type} (P : Program) (n g : Nat) (lb : Array Value) (ar : α → Array Value) (Q : Nat → Prop) (L : List α) (w : World) : Prop :=
  ∀ (l : Nat) (J Z : Nat → Nat → World → Prop) (W : World), Below w.heap.size w W → w.heap.size ≤ l → l < W.heap.size → (∀ m, OwnFrom W.heap.size (J m)) → (∀ m, OwnFrom W.heap.size (Z m)) →
    (∀ m k x W1, W.heap.size ≤ m → m ≤ W1.heap.size → J m k W1 → L[k]? = some x → YieldAt Fence.wide (n - 1) P l (ar x) W1 fun e W' => (e = .returned (.bool true) ∧ J m (k + 1) W' ∧ Fm m (fun k => Q k ∨ k = l) W1 W') ∨ (e = .returned (.bool false) ∧ Z m (k + 1) W')) →
    (∀ m, W.heap.size ≤ m → J m 0 W) → CallsIn Fence.wide n P g (#[.func (.yield l) #[] #[]] ++ lb) W fun e W' => (∃ v, e = .returned v) ∧ ∃ m, W.heap.size ≤ m ∧ (J m L.length W' ∨ ∃ k, k ≤ L.length ∧ Z m k W')

/-- How a round's body is left. -/
def onPostZ (m : Nat) (Q : Nat → Prop) (I Z : World → Prop) (W : World) : Exit → Act → World → Prop
  | .normal, _, W' => Fm m Q W W' ∧ I W'
  | .ret, _, W' => Fm m Q W W' ∧ Z W'
  | _, _, _ => False

set_option maxHeartbeats 1000000 in
/-- .. where what a round begins with makes memory. -/
theorem rfZ {α : Type} {P : Program} {n : Nat} {g : Operand} {ps : Array Tmp} {assign body : Code} {R : Exit → Act → World → Prop} {a : Act} {w : World} (h1 : 1 ≤ n) {gf : Nat} {lb : Array Value} (hg : a.eval g = .func (.func gf) #[] lb)
    (eg : ∀ args w, (callFunc gf args).run P w = .ok (.enter gf args) w) {ar : α → Array Value} {Q : Nat → Prop} {L : List α} {w0 : World} (hseq : SeqZ P (n - 1) gf lb ar Q L w0)
    (hb0 : Below w0.heap.size w0 w) (hQ : ∀ k, Q k → k < w.heap.size) (hps : ∀ x, (ar x).size = ps.size)
    (I Z : Nat → Nat → World → Prop) (hI : ∀ m, OwnFrom w.heap.size (I m)) (hZ : ∀ m, OwnFrom w.heap.size (Z m)) (h0 : ∀ m, w.heap.size ≤ m → I m 0 w) (A : α → Act → World → Prop) (hA : ∀ x a', OwnFrom w.heap.size (fun (_ : Unit) W => A x a' W))
    (hassign : ∀ (l : Nat) (x : α) (W : World) (K : Act → World → Prop), (∀ a' W', Below W.heap.size W W' → A x a' W' → K a' W') →
      assign.wpIn (Fence.wide.inRound l) (n - 1 - 1) P (Exit.then K (fun _ _ _ => False)) { tmps := (ps.zip (ar x)).foldl (fun t (p, v) => t.setIfInBounds p v) a.tmps, defers := [] } W)
    (hbody : ∀ (l m k : Nat) (x : α) (a' : Act) (W : World), w.heap.size ≤ l → w.heap.size + 2 ≤ m → m ≤ W.heap.size → I m k W → A x a' W → L[k]? = some x →
      body.wpIn (Fence.wide.inRound l) (n - 1 - 1) P (onPostZ m Q (I m (k + 1)) (Z m (k + 1)) W) a' W)
    (hdone : ∀ (D m : Nat) (W : World), w.heap.size ≤ D → w.heap.size + 2 ≤ m → I m L.length W → W.heap[D]? = some (.deferred (some [])) → R .normal { a with defers := { target := .collected D, args := #[] } :: a.defers } W)
    (hstop : ∀ (D m k : Nat) (W : World), w.heap.size ≤ D → w.heap.size + 2 ≤ m → k ≤ L.length → Z m k W → W.heap[D]? = some (.deferred (some [])) → R .ret { a with defers := { target := .collected D, args := #[] } :: a.defers } W) :
    (Code.rangeFunc g ps assign body).wpIn Fence.wide n P R a w := by
  refine wpIn_rangeFunc fun fn hfn => ?_
  obtain ⟨rec, hrec⟩ : ∃ rec : LoopState → Option Code → Loop, rec = fun st pe => { state := st, pending := pe, fn, tmps := a.tmps, params := ps, assign, body, defers := w.heap.size } := ⟨_, rfl⟩
  obtain ⟨W1, hW1⟩ : ∃ W1, (w.alloc (.deferred (some []))).alloc (.loop (rec .ready none)) = W1 := ⟨_, rfl⟩
  have hs1 : W1.heap.size = w.heap.size + 2 := by rw [← hW1]; simp
  have hr1 : W1.heap[w.heap.size + 1]? = some (.loop (rec .ready none)) := by
    rw [← hW1]
    have := World.alloc_heap_new (w.alloc (.deferred (some []))) (.loop (rec .ready none))
    rwa [World.size_alloc] at this
  have hd1 : W1.heap[w.heap.size]? = some (.deferred (some [])) := by rw [← hW1]; exact (Below.heap_alloc _ _ _ (by simp)).trans (World.alloc_heap_new w _)
  have hI1 : ∀ m, W1.heap.size ≤ m → I m 0 W1 := fun m hm => by rw [← hW1]; exact (hI m).alloc _ ((hI m).alloc _ (h0 m (by omega)))
  have hbb : Below w0.heap.size w0 W1 := by rw [← hW1]; exact hb0.trans ((((Below.refl _ w).alloc (Nat.le_refl _) _).alloc (by simp) _).mono hb0.size)
  have hcall := hseq (w.heap.size + 1) (fun m k W => I m k W ∧ W.heap[w.heap.size + 1]? = some (.loop (rec .ready none)) ∧ W.heap[w.heap.size]? = some (.deferred (some [])))
    (fun m k W => Z m k W ∧ W.heap[w.heap.size + 1]? = some (.loop (rec .done (some .ret))) ∧ W.heap[w.heap.size]? = some (.deferred (some []))) W1 hbb (by have := hb0.size; omega) (by omega)
    (fun m k A B row hs hgr hrow => ⟨hI m k A B row hs.1 hgr (fun r e => ⟨by have := (hrow r e).1; omega, (hrow r e).2⟩),
      (hgr.block _ (block_lt hs.2.1) (fun e => by have := (hrow _ e.symm).1; omega)).trans hs.2.1, (hgr.block _ (block_lt hs.2.2) (fun e => by have := (hrow _ e.symm).1; omega)).trans hs.2.2⟩)
    (fun m k A B row hs hgr hrow => ⟨hZ m k A B row hs.1 hgr (fun r e => ⟨by have := (hrow r e).1; omega, (hrow r e).2⟩),
      (hgr.block _ (block_lt hs.2.1) (fun e => by have := (hrow _ e.symm).1; omega)).trans hs.2.1, (hgr.block _ (block_lt hs.2.2) (fun e => by have := (hrow _ e.symm).1; omega)).trans hs.2.2⟩)
    (fun m k x W hm hmW hJ hL => by
      obtain ⟨hi0, hl0, hd0⟩ := hJ
      have hy := run_yield (P := P) (args := ar x) hl0 (by rw [hrec]; simp [hps])
      rw [hrec] at hy
      refine ⟨fn, _, assign, body, hy, roundIn_of_wpIn hfn (hassign _ x W _ (fun a' Wa hba hAa => ?_))⟩
      have hl := (hba.block _ (block_lt hl0)).trans hl0
      have hd := (hba.block _ (block_lt hd0)).trans hd0
      have hi : I m k Wa := hI m k W Wa none hi0 ⟨hba.os, hba.tape, hba.output, hba.size, fun q hq _ => hba.block q hq⟩ (fun r e => by cases e)
      have hlt := block_lt hl
      refine ⟨_, run_beginRound hl (by rw [hrec]), ?_⟩
      obtain ⟨W2, hW2⟩ : ∃ W2, Wa.putObj (w.heap.size + 1) (.loop { rec .ready none with state := .busy }) = W2 := ⟨_, rfl⟩
      have hl2 : W2.heap[w.heap.size + 1]? = some (.loop { rec .ready none with state := .busy }) := by rw [← hW2]; exact World.putObj_heap_same hlt
      have hd2 : W2.heap[w.heap.size]? = some (.deferred (some [])) := by rw [← hW2]; exact (World.putObj_heap_other (by omega)).trans hd
      have hk2 : Fr (fun k => k = w.heap.size + 1) Wa W2 := by rw [← hW2]; exact fr_put _ _ _
      have hi2 : I m k W2 := by rw [← hW2]; exact (hI m).putObj _ hi (by omega) hl rfl
      have hA2 : A x a' W2 := by rw [← hW2]; exact (hA x a').putObj (s := ()) _ hAa (by omega) hl rfl
      rw [hW2]
      refine wpIn_mono (hbody _ m k x a' W2 (by omega) (by omega) (Nat.le_trans hmW (Nat.le_trans hba.size hk2.size)) hi2 hA2 hL) ?_
      rintro e a3 W3 hp
      cases e with
      | normal =>
        obtain ⟨hf3, hi3⟩ := hp
        have hl3 := (hf3.block _ (by omega) (block_lt hl2) (fun x => by have := hQ _ x; omega)).trans hl2
        have hd3 := (hf3.block _ (by omega) (block_lt hd2) (fun x => by have := hQ _ x; omega)).trans hd2
        have hend := run_endRound (P := P) none hl3
        refine ⟨_, _, hend, .inl ⟨rfl, ⟨(hI m).putObj _ hi3 (by omega) hl3 rfl, ?_, (World.putObj_heap_other (by omega)).trans hd3⟩, ?_⟩⟩
        · rw [World.putObj_heap_same (block_lt hl3), hrec]
          rfl
        · have q0 : Fm m (fun k => Q k ∨ k = w.heap.size + 1) W Wa := Fm.ofFr (Fr.ofBelow hba)
          have q1 : Fm m (fun k => Q k ∨ k = w.heap.size + 1) W W2 := q0.trans (Fm.ofFr (hk2.mono (fun k hk => .inr hk)))
          have q2 := q1.trans (hf3.mono (fun i hi => .inl hi))
          exact q2.trans (Fm.ofFr ((fr_put _ _ _).mono (fun k hk => .inr hk)))
      | ret =>
        obtain ⟨hf3, hi3⟩ := hp
        have hl3 := (hf3.block _ (by omega) (block_lt hl2) (fun x => by have := hQ _ x; omega)).trans hl2
        have hd3 := (hf3.block _ (by omega) (block_lt hd2) (fun x => by have := hQ _ x; omega)).trans hd2
        have hend := run_endRound (P := P) (some .ret) hl3
        refine ⟨_, _, hend, .inr ⟨rfl, (hZ m).putObj _ hi3 (by omega) hl3 rfl, ?_, (World.putObj_heap_other (by omega)).trans hd3⟩⟩
        rw [World.putObj_heap_same (block_lt hl3), hrec]
        rfl
      | exit id => exact hp.elim
      | goto t => exact hp.elim
      | panic ch => exact hp.elim
      | outgrown => exact hp.elim)
    (fun m hm => ⟨hI1 m hm, hr1, hd1⟩)
  refine ⟨w.heap.size + 1, [{ target := .collected w.heap.size, args := #[] }], W1, { target := .fn (.func gf) lb, args := #[.func (.yield (w.heap.size + 1)) #[] #[]] }, W1, gf, #[.func (.yield (w.heap.size + 1)) #[] #[]] ++ lb, W1, ?_, ?_, ?_, ?_, fun _ => h1, ?_⟩
  · rw [← hW1, hrec]; exact run_enterLoop_outer _ _ _ _ _
  · simp only [resolve, hg]
    simp [go_sem]
  · intro f' _; exact trivial
  · simp [invoke, go_sem, eg]
  · refine hcall.mono ?_
    rintro e W2 ⟨⟨v, rfl⟩, m, hm, ⟨hi, hl, hd⟩ | ⟨k, hk, hi, hl, hd⟩⟩
    · have hend := run_endLoop (P := P) hl (by rw [hrec]; simp)
      refine ⟨none, _, ?_, hdone _ m _ (Nat.le_refl _) (by omega) ((hI m).putObj (.loop { rec .ready none with state := .exhausted }) hi (by omega) hl rfl) ((World.putObj_heap_other (by omega)).trans hd)⟩
      rw [hend, hrec]
    · have hend := run_endLoop (P := P) hl (by rw [hrec]; simp)
      refine ⟨some .ret, _, ?_, wpIn_ret (hstop _ m k _ (Nat.le_refl _) (by omega) hk ((hZ m).putObj (.loop { rec .done (some .ret) with state := .exhausted }) hi (by omega) hl rfl) ((World.putObj_heap_other (by omega)).trans hd))⟩
      rw [hend, hrec]
end Go.Proofs.YtcpmcfagibmboabGreat.Li
