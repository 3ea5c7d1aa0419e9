/-
  Frames told one by one to a loop's body that may write older memory: what the iterator promises (SeqA), the loop's law, and crc's two iterators.
-/
import Derived.Test.YthmedpabgblddabGreatDoorSgE
import Derived.RangeFuncWrites
namespace Go.Proofs.YthmedpabgblddabGreatDoor.Sh
open Go.RowKit Go.Shelf Kt Cs Cw Cf Cn Cg Ck Ca Sp Dk
set_option linter.unusedVariables false
attribute [local go_sem] Oper.semAt_some

theorem fr_row {Q : Nat → Prop} {A B : World} (h : Fr Q A B) {ao : Option Addr} {bs : List UInt8} (hr : Row A ao bs) (hq : ∀ b off, ao = some ⟨b, off, none⟩ → b < A.heap.size → ¬ Q b) : Row B ao bs := fun h0 => by
  obtain ⟨b, off, e, hc⟩ := hr h0
  refine ⟨b, off, e, fun i hi => ?_⟩
  have hl := World.block_lt_of_cell? A _ (hc i hi)
  rw [← hc i hi]
  exact World.cell?_of_block (w := A) (h.heap (k := b) hl (hq b off e hl))
theorem fr_put (W : World) (l : Nat) (o : Obj) : Fr (fun k => k = l) W (W.putObj l o) := ⟨rfl, rfl, rfl, by simp, fun k _ hk => World.putObj_heap_other hk⟩

/-- Of the old blocks below m only those of Q have turned. -/
structure Fm (m : Nat) (Q : Nat → Prop) (w w' : World) : Prop where
  os : w'.os = w.os
  tape : w'.tape = w.tape
  output : w'.output = w.output
  size : w.heap.size ≤ w'.heap.size
  block : ∀ k, k < m → k < w.heap.size → ¬ Q k → w'.heap[k]? = w.heap[k]?
theorem Fm.ofFr {m : Nat} {Q : Nat → Prop} {w w' : World} (h : Fr Q w w') : Fm m Q w w' := ⟨h.os, h.tape, h.output, h.size, fun k _ hk hq => h.block k hk hq⟩
theorem Fm.trans {m : Nat} {Q : Nat → Prop} {a b c : World} (h : Fm m Q a b) (k : Fm m Q b c) : Fm m Q a c := ⟨k.os.trans h.os, k.tape.trans h.tape, k.output.trans h.output, Nat.le_trans h.size k.size, fun i hm hi hq => (k.block i hm (Nat.lt_of_lt_of_le hi h.size) hq).trans (h.block i hm hi hq)⟩
theorem Fm.mono {m : Nat} {Q R : Nat → Prop} {a b : World} (h : Fm m Q a b) (hi : ∀ k, Q k → R k) : Fm m R a b := ⟨h.os, h.tape, h.output, h.size, fun i hm hk hq => h.block i hm hk (fun x => hq (hi i x))⟩
theorem fm_row {m : Nat} {Q : Nat → Prop} {A B : World} (h : Fm m Q A B) {ao : Option Addr} {bs : List UInt8} (hr : Row A ao bs) (hq : 0 < bs.length → ∀ b off, ao = some ⟨b, off, none⟩ → b < m ∧ ¬ Q b) : Row B ao bs := fun h0 => by
  obtain ⟨b, off, e, hc⟩ := hr h0
  refine ⟨b, off, e, fun i hi => ?_⟩
  have hl := World.block_lt_of_cell? A _ (hc i hi)
  rw [← hc i hi]
  exact World.cell?_of_block (w := A) (h.block b (hq h0 b off e).1 hl (hq h0 b off e).2)
theorem fm_tb {m : Nat} {Q : Nat → Prop} {A B : World} (h : Fm m Q A B) (hT : Tb A) (hm : 0 < m) (hq : ¬ Q 0) : Tb B := fun i hi => by
  rw [← hT i hi]
  exact World.cell?_of_block (w := A) (h.block 0 hm hT.size hq)

/-- A round may be had at any depth under the wide fence. -/
theorem round_any {m m' : Nat} {P : Program} {l : Nat} {f : FuncId} {tmps : Array Value} {assign body : Code} {w : World} {R : Ending → World → Prop}
    (h : RoundIn Fence.wide m P l f tmps assign body w R) : RoundIn Fence.wide m' P l f tmps assign body w R := ⟨h.1, fun c cs _ => h.2 c cs (room_wide _)⟩

/-- What an iterator promises that tells these places and bodies, one by one, to a body that always goes on and writes no old memory but Q. -/
def SeqA (P : Program) (n : Nat) (g : Nat) (lb : Array Value) (Rl : World → Option Addr → Prop) (Q : Nat → Prop) (c : Nat) (ps : List (Nat × List UInt8)) (w : World) : Prop :=
  ∀ (l : Nat) (J : Nat → World → Prop) (W : World), Below w.heap.size w W → w.heap.size ≤ l → l < W.heap.size → OwnFrom W.heap.size J →
    (∀ k pl b ao cap W0 W1, J k W0 → Below W0.heap.size W0 W1 → W.heap.size + c ≤ W0.heap.size → Rl W0 ao → ps[k]? = some (pl, b) → Row W1 ao b → YieldAt Fence.wide (n - 1) P l #[.int .i64 ((pl : Nat) : Int), .slice ao b.length cap] W1 fun e W' => e = .returned (.bool true) ∧ J (k + 1) W' ∧ Fm (W.heap.size + c) (fun k => Q k ∨ k = l) W1 W') →
    J 0 W → CallsIn Fence.wide n P g (#[.func (.yield l) #[] #[]] ++ lb) W fun e W' => (∃ v, e = .returned v) ∧ J ps.length W'

/-- How a round's body is left. -/
def onPost (m : Nat) (Q : Nat → Prop) (I : World → Prop) (W : World) : Exit → Act → World → Prop
  | .normal, _, W' => Fm m Q W W' ∧ I W'
  | _, _, _ => False

set_option maxHeartbeats 1000000 in
/-- The loop over such an iterator. -/
theorem rf_own {P : Program} {n : Nat} {g : Operand} {ps : Array Tmp} {assign body : Code} {R : Exit → Act → World → Prop} {a : Act} {w : World} (h1 : 1 ≤ n) {gf : Nat} {lb : Array Value} (hg : a.eval g = .func (.func gf) #[] lb)
    (eg : ∀ args w, (callFunc gf args).run P w = .ok (.enter gf args) w) {Rl : World → Option Addr → Prop} {Q : Nat → Prop} {c : Nat} {L : List (Nat × List UInt8)} {w0 : World} (hseq : SeqA P (n - 1) gf lb Rl Q c L w0)
    (hb0 : Below w0.heap.size w0 w) (hQ : ∀ k, Q k → k < w.heap.size) (hps : ps.size = 2)
    (I : Nat → World → Prop) (hI : OwnFrom w.heap.size I) (h0 : I 0 w) (a₁ : Nat → List UInt8 → Option Addr → Nat → Act)
    (hassign : ∀ (l pl : Nat) (b : List UInt8) (ao : Option Addr) (cap : Nat) (W : World) (K : Act → World → Prop), K (a₁ pl b ao cap) W →
      assign.wpIn (Fence.wide.inRound l) (n - 1 - 1) P (Exit.then K (fun _ _ _ => False)) { tmps := (ps.zip #[.int .i64 (pl : Int), .slice ao b.length cap]).foldl (fun t (p, v) => t.setIfInBounds p v) a.tmps, defers := [] } W)
    (hbody : ∀ (l k pl : Nat) (b : List UInt8) (ao : Option Addr) (cap : Nat) (W0 W : World), w.heap.size ≤ l → (∃ r, W0.heap[l]? = some (.loop r)) → w.heap.size + 2 + c ≤ W0.heap.size → I k W0 → Fr (fun q => q = l) W0 W → I k W → Rl W0 ao → L[k]? = some (pl, b) → Row W ao b →
      body.wpIn (Fence.wide.inRound l) (n - 1 - 1) P (onPost (w.heap.size + 2 + c) Q (I (k + 1)) W) (a₁ pl b ao cap) W)
    (hdone : ∀ (D : Nat) (W : World), w.heap.size ≤ D → I L.length W → W.heap[D]? = some (.deferred (some [])) → R .normal { a with defers := { target := .collected D, args := #[] } :: a.defers } W) :
    (Code.rangeFunc g ps assign body).wpIn Fence.wide n P R a w := by
  refine wpIn_rangeFunc fun fn hfn => ?_
  obtain ⟨rec, hrec⟩ : ∃ rec : LoopState → Option Code → Loop, rec = fun st pe => { state := st, pending := pe, fn, tmps := a.tmps, params := ps, assign, body, defers := w.heap.size } := ⟨_, rfl⟩
  obtain ⟨W1, hW1⟩ : ∃ W1, (w.alloc (.deferred (some []))).alloc (.loop (rec .ready none)) = W1 := ⟨_, rfl⟩
  have hs1 : W1.heap.size = w.heap.size + 2 := by rw [← hW1]; simp
  have hr1 : W1.heap[w.heap.size + 1]? = some (.loop (rec .ready none)) := by
    rw [← hW1]
    have := World.alloc_heap_new (w.alloc (.deferred (some []))) (.loop (rec .ready none))
    rwa [World.size_alloc] at this
  have hd1 : W1.heap[w.heap.size]? = some (.deferred (some [])) := by rw [← hW1]; exact (Below.heap_alloc _ _ _ (by simp)).trans (World.alloc_heap_new w _)
  have hI1 : I 0 W1 := by rw [← hW1]; exact hI.alloc _ (hI.alloc _ h0)
  have hbb : Below w0.heap.size w0 W1 := by rw [← hW1]; exact hb0.trans ((((Below.refl _ w).alloc (Nat.le_refl _) _).alloc (by simp) _).mono hb0.size)
  have hcall := hseq (w.heap.size + 1) (fun k W => I k W ∧ W.heap[w.heap.size + 1]? = some (.loop (rec .ready none)) ∧ W.heap[w.heap.size]? = some (.deferred (some []))) W1 hbb (by have := hb0.size; omega) (by omega)
    (fun k A B row hs hgr hrow => ⟨hI k A B row hs.1 hgr (fun r e => ⟨by have := (hrow r e).1; omega, (hrow r e).2⟩),
      (hgr.block _ (block_lt hs.2.1) (fun e => by have := (hrow _ e.symm).1; omega)).trans hs.2.1, (hgr.block _ (block_lt hs.2.2) (fun e => by have := (hrow _ e.symm).1; omega)).trans hs.2.2⟩)
    (fun k pl b ao cap W0 W hJ hB0 hcW hRl hL hrow => by
      obtain ⟨hi0, hl0, hd0⟩ := hJ
      have hl := (hB0.block _ (block_lt hl0)).trans hl0
      have hd := (hB0.block _ (block_lt hd0)).trans hd0
      have hi : I k W := hI k W0 W none hi0 ⟨hB0.os, hB0.tape, hB0.output, hB0.size, fun q hq _ => hB0.block q hq⟩ (fun r e => by cases e)
      have hlt := block_lt hl
      have hy := run_yield (P := P) (args := #[.int .i64 (pl : Int), .slice ao b.length cap]) hl (by rw [hrec]; simp [hps])
      rw [hrec] at hy
      refine ⟨fn, _, assign, body, hy, roundIn_of_wpIn hfn (hassign _ pl b ao cap W _ ⟨_, run_beginRound hl (by rw [hrec]), ?_⟩)⟩
      obtain ⟨W2, hW2⟩ : ∃ W2, W.putObj (w.heap.size + 1) (.loop { rec .ready none with state := .busy }) = W2 := ⟨_, rfl⟩
      have hl2 : W2.heap[w.heap.size + 1]? = some (.loop { rec .ready none with state := .busy }) := by rw [← hW2]; exact World.putObj_heap_same hlt
      have hd2 : W2.heap[w.heap.size]? = some (.deferred (some [])) := by rw [← hW2]; exact (World.putObj_heap_other (by omega)).trans hd
      have hk2 : Fr (fun k => k = w.heap.size + 1) W W2 := by rw [← hW2]; exact fr_put _ _ _
      have hi2 : I k W2 := by rw [← hW2]; exact hI.putObj _ hi (by omega) hl rfl
      have hrow2 : Row W2 ao b := fun h0 => by
        obtain ⟨bb, off, e, hc⟩ := hrow h0
        refine ⟨bb, off, e, fun i hi => ?_⟩
        rw [← hc i hi, ← hW2]
        obtain ⟨o, ho, hoc⟩ := cells_of_cell (hc i hi)
        refine World.cell?_of_block (w := W) (World.putObj_heap_other (fun x => ?_))
        simp only at ho x
        rw [x, hl] at ho
        cases ho
        cases hoc
      rw [hW2]
      refine wpIn_mono (hbody _ k pl b ao cap W0 W2 (by omega) ⟨_, hl0⟩ (by omega) hi0 ((Fr.ofBelow hB0).trans hk2 (fun i hi => .inl hi)) hi2 hRl hL hrow2) ?_
      rintro e a3 W3 hp
      cases e with
      | normal =>
        obtain ⟨hf3, hi3⟩ := hp
        have hl3 := (hf3.block _ (by omega) (block_lt hl2) (fun x => by have := hQ _ x; omega)).trans hl2
        have hd3 := (hf3.block _ (by omega) (block_lt hd2) (fun x => by have := hQ _ x; omega)).trans hd2
        have hend := run_endRound (P := P) none hl3
        refine ⟨_, _, hend, rfl, ⟨hI.putObj _ hi3 (by omega) hl3 rfl, ?_, (World.putObj_heap_other (by omega)).trans hd3⟩, ?_⟩
        · rw [World.putObj_heap_same (block_lt hl3), hrec]
          rfl
        · have q1 : Fm (W1.heap.size + c) (fun k => Q k ∨ k = w.heap.size + 1) W W2 := Fm.ofFr (hk2.mono (fun k hk => .inr hk))
          rw [← hs1] at hf3
          have q2 := q1.trans (hf3.mono (fun i hi => .inl hi))
          exact q2.trans (Fm.ofFr ((fr_put _ _ _).mono (fun k hk => .inr hk)))
      | ret => exact hp.elim
      | exit id => exact hp.elim
      | goto t => exact hp.elim
      | panic ch => exact hp.elim
      | outgrown => exact hp.elim)
    ⟨hI1, hr1, hd1⟩
  refine ⟨w.heap.size + 1, [{ target := .collected w.heap.size, args := #[] }], W1, { target := .fn (.func gf) lb, args := #[.func (.yield (w.heap.size + 1)) #[] #[]] }, W1, gf, #[.func (.yield (w.heap.size + 1)) #[] #[]] ++ lb, W1, ?_, ?_, ?_, ?_, fun _ => h1, ?_⟩
  · rw [← hW1, hrec]; exact run_enterLoop_outer _ _ _ _ _
  · simp only [resolve, hg]
    simp [go_sem]
  · intro f' _; exact trivial
  · simp [invoke, go_sem, eg]
  · refine hcall.mono ?_
    rintro e W2 ⟨⟨v, rfl⟩, hi, hl, hd⟩
    have hend := run_endLoop (P := P) hl (by rw [hrec]; simp)
    refine ⟨none, _, ?_, hdone _ _ (Nat.le_refl _) (hI.putObj (.loop { rec .ready none with state := .exhausted }) hi (by omega) hl rfl) ((World.putObj_heap_other (by omega)).trans hd)⟩
    rw [hend, hrec]
end Go.Proofs.YthmedpabgblddabGreatDoor.Sh
