/-
  The writer of wire: add, nums, texts, data.
-/
import Derived.Test.YtenkgpfeifflnaaWiK
namespace Go.Proofs.Ytenkgpfeifflnaa.Ww
open Go.RowKit Kt Pl Wi Wk Wr
open At (RowT okT)
set_option linter.unusedVariables false
set_option maxRecDepth 20000

/-- What lies in no block of bytes stays. -/
structure U8 (w w' : World) : Prop where
  os : w'.os = w.os
  tape : w'.tape = w.tape
  output : w'.output = w.output
  size : w.heap.size ≤ w'.heap.size
  block : ∀ k, k < w.heap.size → (∀ cs fz, w.heap[k]? ≠ some (.cells cs 5 fz)) → w'.heap[k]? = w.heap[k]?
theorem U8.refl (w : World) : U8 w w := ⟨rfl, rfl, rfl, Nat.le_refl _, fun _ _ _ => rfl⟩
theorem U8.trans {a b c : World} (h : U8 a b) (k : U8 b c) : U8 a c :=
  ⟨k.os.trans h.os, k.tape.trans h.tape, k.output.trans h.output, Nat.le_trans h.size k.size, fun i hi hn => (k.block i (Nat.lt_of_lt_of_le hi h.size) (by rw [h.block i hi hn]; exact hn)).trans (h.block i hi hn)⟩
theorem U8.ofBelow {w w' : World} (h : Below w.heap.size w w') : U8 w w' := ⟨h.os, h.tape, h.output, h.size, fun k hk _ => h.block k hk⟩
theorem U8.ofGr {w w' : World} (h : Gr w w') : U8 w w' := U8.ofBelow h.below
theorem U8.alloc {a w : World} (h : U8 a w) (o : Obj) : U8 a (w.alloc o) := h.trans (U8.ofGr ((Gr.refl w).alloc o))
theorem U8.drew {a w : World} (h : U8 a w) : U8 a w.drew := h.trans (U8.ofGr ((Gr.refl w).drew))
theorem U8.grown {w w' : World} {base n : Nat} {v : Value} {xs : List Value} (h : w.ownsRow base 5 1 v n xs) (hg : w.grownBy w' v.ownBlock) : U8 w w' := by
  refine ⟨hg.os, hg.tape, hg.output, hg.size, fun k hk hn => hg.block k hk (fun e => ?_)⟩
  rcases h.2 with ⟨e1, e2⟩ | ⟨g, c, cur, e1, _, hb, _⟩
  · rw [e1] at e; simp [Value.ownBlock] at e
  · rw [e1] at e
    have : k = g := by simpa [Value.ownBlock] using e
    subst this
    exact hn _ _ hb
theorem Bx.u8 {w w' : World} {b : Nat} {cs : Array Value} {t : TypeId} (h : Bx w b cs t) (ht : t ≠ 5) (hu : U8 w w') : Bx w' b cs t := by
  unfold Bx
  rw [hu.block b h.lt (fun cs' fz e => ?_)]
  · exact h
  · rw [show w.heap[b]? = _ from h] at e
    injection e with e
    injection e with _ e2
    exact ht e2

/-- A writer: it owns these bytes, from a base on. -/
def Wt (w : World) (base : Nat) (v : Value) (bs : Bs) : Prop := w.ownsRow base 5 1 v bs.length (U bs)
theorem Wt.gr {w w' : World} {base : Nat} {v : Value} {bs : Bs} (h : Wt w base v bs) (hg : Gr w w') : Wt w' base v bs := by
  refine ⟨h.1, ?_⟩
  rcases h.2 with h1 | ⟨g, c, cur, e1, h2, h3, h4⟩
  · exact .inl h1
  · exact .inr ⟨g, c, cur, e1, h2, (hg.below.block g (Array.getElem?_eq_some_iff.1 h3).1).trans h3, h4⟩
theorem Wt.below {w w' : World} {base : Nat} {v : Value} {bs : Bs} (h : Wt w base v bs) (hg : Below w.heap.size w w') : Wt w' base v bs := by
  refine ⟨h.1, ?_⟩
  rcases h.2 with h1 | ⟨g, c, cur, e1, h2, h3, h4⟩
  · exact .inl h1
  · exact .inr ⟨g, c, cur, e1, h2, (hg.block g (Array.getElem?_eq_some_iff.1 h3).1).trans h3, h4⟩
theorem below_down {w w' : World} {base : Nat} (h : Below w.heap.size w w') (hb : base ≤ w.heap.size) : Below base w w' := ⟨h.os, h.tape, h.output, h.size, fun j hj => h.block j (by omega)⟩
theorem Wt.new (w : World) : Wt (w.alloc (.cells #[] 5)) w.heap.size (.slice (some ⟨w.heap.size, 0, none⟩) 0 0) [] :=
  World.ownsRow_made (e := 5) (size := 1) w #[] 0 (Nat.le_refl _) (Nat.zero_le _) rfl
theorem Wt.mono {w : World} {base base' : Nat} {v : Value} {bs : Bs} (h : Wt w base' v bs) (hb : base ≤ base') : Wt w base v bs := by
  refine ⟨h.1, ?_⟩
  rcases h.2 with h1 | ⟨g, c, cur, e1, h2, h3⟩
  · exact .inl h1
  · exact .inr ⟨g, c, cur, e1, Nat.le_trans hb h2, h3⟩
theorem Wt.form {w : World} {base : Nat} {v : Value} {bs : Bs} (h : Wt w base v bs) : ∃ ao cap, v = .slice ao bs.length cap := own_form h

/-- What a call of the writer leaves. -/
def Wrote (w : World) (base : Nat) (bs : Bs) (e : Ending) (w' : World) : Prop := ∃ v', e = .returned v' ∧ Wt w' base v' bs ∧ Below base w w' ∧ U8 w w'

theorem info5 : (Try.prog.info? 5).map (fun i => (i.zero, i.size, i.bytes)) = some (some (.int .u8 0), 1, 1) := by kernel_rfl

theorem flat_take (l : List Int) (k : Nat) (x : Int) (hx : l[k]? = some x) : (l.take (k + 1)).flatMap encN = (l.take k).flatMap encN ++ encN x := by
  rw [List.take_add_one, hx, List.flatMap_append]; simp
theorem flat_len (l : List Int) (hok : ∀ x ∈ l, 0 ≤ x ∧ x ≤ 4611686018427387904) : (l.flatMap encN).length ≤ 9 * l.length := by
  induction l with
  | nil => simp
  | cons x l ih =>
    have h1 := ih (fun y hy => hok y (by simp [hy]))
    have h2 := hok x (by simp)
    have h3 : (encN x).length ≤ 9 := enc_len9 (by omega)
    simp only [List.flatMap_cons, List.length_append, List.length_cons]
    omega
end Go.Proofs.Ytenkgpfeifflnaa.Ww
