/-
  All's closure: it goes over the frames and hands each body, copied, to a function that may write two cells of its own.
-/
import Derived.Test.YtjmhgifdkmglhabDoorCrcA
import Derived.RangeFuncWrites
namespace Go.Proofs.YtjmhgifdkmglhabDoor.Ct
open Go.RowKit Go.Shelf Kt Cs Cw Cf Cn Cg Ck Ca
set_option linter.unusedVariables false
attribute [local go_sem] Oper.semAt_some

/-- Behind the call all lies as it lay, but for the two blocks. -/
structure Ex (Bn Br : Nat) (w w' : World) : Prop where
  os : w'.os = w.os
  tape : w'.tape = w.tape
  output : w'.output = w.output
  size : w.heap.size ≤ w'.heap.size
  block : ∀ k, k < w.heap.size → k ≠ Bn → k ≠ Br → w'.heap[k]? = w.heap[k]?
theorem Ex.refl (Bn Br : Nat) (w : World) : Ex Bn Br w w := ⟨rfl, rfl, rfl, Nat.le_refl _, fun _ _ _ _ => rfl⟩
theorem Ex.trans {Bn Br : Nat} {a b c : World} (h : Ex Bn Br a b) (k : Ex Bn Br b c) : Ex Bn Br a c :=
  ⟨k.os.trans h.os, k.tape.trans h.tape, k.output.trans h.output, Nat.le_trans h.size k.size, fun i hi h1 h2 => (k.block i (Nat.lt_of_lt_of_le hi h.size) h1 h2).trans (h.block i hi h1 h2)⟩
theorem Ex.of_below {Bn Br : Nat} {a b : World} (h : Below a.heap.size a b) : Ex Bn Br a b := ⟨h.os, h.tape, h.output, h.size, fun k hk _ _ => h.block k hk⟩
theorem Ex.below {Bn Br n₀ : Nat} {a b : World} (h : Ex Bn Br a b) (h1 : n₀ ≤ Bn) (h2 : n₀ ≤ Br) (h3 : n₀ ≤ a.heap.size) : Below n₀ a b := ⟨h.os, h.tape, h.output, h.size, fun k hk => h.block k (by omega) (by omega) (by omega)⟩
theorem Ex.set {Bn Br : Nat} {a b : World} (h : Ex Bn Br a b) (p : Addr) (u : Value) (hp : p.block = Bn ∨ p.block = Br) : Ex Bn Br a (b.setCell p u) :=
  h.trans ⟨rfl, rfl, rfl, by simp [World.setCell], fun k hk h1 h2 => Below.heap_setCell _ _ _ _ (by rcases hp with e | e <;> omega)⟩
theorem Ex.drew {Bn Br : Nat} {a b : World} (h : Ex Bn Br a b) : Ex Bn Br a b.drew := ⟨h.os, h.tape, h.output, h.size, h.block⟩
theorem Ex.drewN {Bn Br : Nat} {a b : World} (h : Ex Bn Br a b) (n : Nat) : Ex Bn Br a (b.drewN n) := ⟨h.os, h.tape, h.output, h.size, h.block⟩

theorem Ex.trans2 {Bn Br : Nat} {a W W' : World} {row : Option Nat} (h : Ex Bn Br a W) (hg : W.grownBy W' row) (hr : ∀ j, row = some j → a.heap.size ≤ j) : Ex Bn Br a W' :=
  ⟨hg.os.trans h.os, hg.tape.trans h.tape, hg.output.trans h.output, Nat.le_trans h.size hg.size, fun k hk h1 h2 => (hg.block k (Nat.lt_of_lt_of_le hk h.size) (by intro e; have := hr _ e.symm; omega)).trans (h.block k hk h1 h2)⟩
/-- What the two cells hold. -/
structure Two (Tn Tr Bn Br : Nat) (W : World) (n : Nat) (r : Bool) : Prop where
  n : W.heap[Bn]? = some (.cells #[.int .i64 (n : Int)] Tn)
  r : W.heap[Br]? = some (.cells #[.bool r] Tr)
theorem Two.kept {Tn Tr Bn Br : Nat} {W W' : World} {n : Nat} {r : Bool} (h : Two Tn Tr Bn Br W n r) (hb : Below W.heap.size W W') : Two Tn Tr Bn Br W' n r :=
  ⟨(hb.block Bn (Array.getElem?_eq_some_iff.1 h.n).1).trans h.n, (hb.block Br (Array.getElem?_eq_some_iff.1 h.r).1).trans h.r⟩
theorem Two.others {Tn Tr Bn Br : Nat} {W W' : World} {n : Nat} {r : Bool} (h : Two Tn Tr Bn Br W n r) (he : Ex Bn Br W W') : KeepsOthers W W' :=
  ⟨he.size, fun k o hk ho => by
    refine (he.block k (Array.getElem?_eq_some_iff.1 hk).1 ?_ ?_).trans hk
    · rintro rfl; rw [h.n] at hk; cases hk; cases ho
    · rintro rfl; rw [h.r] at hk; cases hk; cases ho⟩

theorem two_own {Tn Tr Bn Br : Nat} {W W' : World} {n : Nat} {r : Bool} {row : Option Nat} (h : Two Tn Tr Bn Br W n r) (hg : W.grownBy W' row) (hr : ∀ j, row = some j → 0 ≤ j ∧ ∃ o : Obj, W.heap[j]? = some o ∧ o.isCells = false) : Two Tn Tr Bn Br W' n r :=
  ⟨(hg.block Bn (Array.getElem?_eq_some_iff.1 h.n).1 (by intro e; obtain ⟨_, o, ho, hc⟩ := hr _ e.symm; rw [h.n] at ho; cases ho; cases hc)).trans h.n,
   (hg.block Br (Array.getElem?_eq_some_iff.1 h.r).1 (by intro e; obtain ⟨_, o, ho, hc⟩ := hr _ e.symm; rw [h.r] at ho; cases ho; cases hc)).trans h.r⟩
theorem ex_own {Bn Br : Nat} {a W W' : World} {row : Option Nat} (h : Ex Bn Br a W) (hg : W.grownBy W' row) (hr : ∀ j, row = some j → a.heap.size ≤ j) : Ex Bn Br a W' :=
  h.trans2 hg hr

set_option maxRecDepth 100000 in
set_option maxHeartbeats 2000000 in
theorem all1_any (wA w : World) (Bx Bn Br Tn Tr : Nat) (Tx : TypeId) (a2 : Option Addr) (c2 : Nat) (bs : List UInt8) (hT : Tb wA) (hr : Row wA a2 bs) (hl : bs.length ≤ 1000000) (hc : bs.length ≤ c2) (hcap : c2 ≤ 9223372036854775807)
    (hw : Below wA.heap.size wA w) (hBx : w.heap[Bx]? = some (.cells #[.slice a2 bs.length c2] Tx)) (hn0 : wA.heap.size ≤ Bn) (hr0 : wA.heap.size ≤ Br) (hnw : Bn < w.heap.size) (hrw : Br < w.heap.size)
    (lb : Array Value) (hent : ∀ args w, (callFunc 7 args).run Tryd.prog w = .ok (.enter 7 args) w)
    (R : List (El wA) → Bool) (cont : Nat → Bool) (h0 : Two Tn Tr Bn Br w 0 (R []))
    (hY : ∀ (pre : List (El wA)) (x : El wA) (W : World) (a : Option Addr) (c : Nat), pre.length ≤ bs.length → Two Tn Tr Bn Br W pre.length (R pre) → Ex Bn Br w W → Row W a x.bs →
      Calls Tryd.prog 7 (#[.int .i64 (x.pl : Int), .slice a x.bs.length c] ++ lb) W fun e W' => e = .returned (.bool (cont (pre.length + 1))) ∧ Two Tn Tr Bn Br W' (pre.length + 1) (R (pre ++ [x])) ∧ Ex Bn Br W W') :
    Calls Tryd.prog 13 #[.func (.func 7) #[] lb, .pointer (some ⟨Bx, 0, none⟩)] w fun e W' => (∃ v, e = .returned v) ∧ ∃ (pre : List (El wA)) (e : Nat), e ≤ bs.length ∧ Chain bs 0 pre e ∧ ((Cp.fd (bs.drop e)).1 ≠ 0 ∨ cont pre.length = false) ∧ Two Tn Tr Bn Br W' pre.length (R pre) ∧ Ex Bn Br w W' := by
  refine (callsIn_wide (n := 8)).1 ?_
  refine callsIn_of_wp_marks Tryd.func13 rfl trivial ?_ rfl
  simp only [Tryd.ntmps13, List.size_toArray, List.length_cons, List.length_nil, Nat.reduceAdd, Nat.reduceSub, Array.replicate_succ, Array.replicate_zero, List.push_toArray, List.append_toArray, List.nil_append, List.cons_append]
  have hcx := cell_alloc_own (.cells #[.func (.func 7) #[] lb] 32) (cell_box hBx)
  gi_wp2_with fail
  refine ⟨trivial, (frames_in _ a2 bs.length c2 _).mono ?_⟩
  rintro e w' ⟨rfl, rfl⟩
  gi_wp2_with fail
  have hsz2 : ((w.alloc (.cells #[.func (.func 7) #[] lb] 32)).alloc (.cells #[.slice a2 bs.length c2] 23)).heap.size = w.heap.size + 2 := by simp
  have hB2 := heap_alloc_new w (.cells #[.func (.func 7) #[] lb] 32)
  have hB3 := heap_alloc_new (w.alloc (.cells #[.func (.func 7) #[] lb] 32)) (.cells #[.slice a2 bs.length c2] 23)
  rw [World.size_alloc] at hB3
  have hbw : Below w.heap.size w ((w.alloc (.cells #[.func (.func 7) #[] lb] 32)).alloc (.cells #[.slice a2 bs.length c2] 23)) := ((Below.refl _ w).alloc (Nat.le_refl _) _).alloc (by simp) _
  have hB2' : ((w.alloc (.cells #[.func (.func 7) #[] lb] 32)).alloc (.cells #[.slice a2 bs.length c2] 23)).heap[w.heap.size]? = some (.cells #[.func (.func 7) #[] lb] 32) := (Below.heap_alloc _ _ _ (by simp)).trans hB2
  have hszw := hw.size
  refine wpIn_rangeFunc_ownF rfl (by omega) (gf := 16) (lb := #[.pointer (some ⟨w.heap.size + 1, 0, none⟩)]) rfl trivial (enters_of Tryd.func16 (by kernel_rfl) rfl)
    (frames1_stops _ (by omega) (w.heap.size + 1) 23 wA _ a2 c2 bs hT hr hl hc hcap (hw.trans (hbw.mono hw.size)) hB3) Kp_t (Kp_b (by simp; omega) (by simp)) (Below.refl _ _) (fun _ => rfl)
    (fun pre W => Two Tn Tr Bn Br W pre.length (R pre) ∧ Ex Bn Br w W ∧ W.heap[w.heap.size]? = some (.cells #[.func (.func 7) #[] lb] 32) ∧ w.heap.size + 1 < W.heap.size)
    (fun c pre W => c = .ret ∧ cont pre.length = false ∧ Two Tn Tr Bn Br W pre.length (R pre) ∧ Ex Bn Br w W)
    (fun s A B row hs hg hr => ⟨two_own hs.1 hg (by intro r e; have := hr r e; simp at this; exact ⟨by omega, this.2⟩), ex_own hs.2.1 hg (by intro r e; have := (hr r e).1; simp at this; omega), (hg.block _ (Array.getElem?_eq_some_iff.1 hs.2.2.1).1 (by intro e; have := (hr _ e.symm).1; simp at this; omega)).trans hs.2.2.1, Nat.lt_of_lt_of_le hs.2.2.2 hg.size⟩)
    (fun c s A B row hs hg hr => ⟨hs.1, hs.2.1, two_own hs.2.2.1 hg (by intro r e; have := hr r e; simp at this; exact ⟨by omega, this.2⟩), ex_own hs.2.2.2 hg (by intro r e; have := (hr r e).1; simp at this; omega)⟩)
    ⟨h0.kept hbw, Ex.of_below hbw, hB2', by simp⟩
    (fun x => { tmps := #[.func (.func 7) #[] lb, .pointer (some ⟨Bx, 0, none⟩), .pointer (some ⟨w.heap.size, 0, none⟩), .int .i64 (x.pl : Int), .slice x.ao x.bs.length x.cap, .slice a2 bs.length c2, .func (.func 16) #[] #[.pointer (some ⟨w.heap.size + 1, 0, none⟩)], .int .i64 (x.pl : Int), .slice x.ao x.bs.length x.cap, undef, undef, undef, undef, undef, undef], defers := [] }) ?assign ?body ?done ?stop
  case assign =>
    intro l x W K hK
    simp only [encs]
    gi_wp2
    exact hK
  case body =>
    rintro l pre x W ⟨h2, hE, hf, hwl⟩ hpl
    have hcf := cell_box hf
    have hx1 := x.h1
    have hx2 := x.h2
    have hBW : Below wA.heap.size wA W := hw.trans (hE.below hn0 hr0 hw.size)
    have hrx : Row W x.ao x.bs := x.row.below hBW
    have hmx : Tryd.prog.follows .mixedOrders = true := by kernel_rfl
    have hd : 1 ≤ 8 - 1 - 1 := by omega
    gi_wp2
    gi_region_with_o (first
      | (refine ⟨trivial, ?_⟩; gi_at_call 12; refine (CallsIn.inRound l (callsIn_wide.2 (clone_any _ x.ao x.cap x.bs ?_ ?_))).mono ?_; (exact hrx); (omega); rintro e u1 ⟨v1, rfl, hown1, hb0⟩; obtain ⟨a1, c1, rfl, -, hc1, hr1⟩ := own_row hown1; have hb1 : Below W.heap.size W u1 := ⟨hb0.os, hb0.tape, hb0.output, hb0.size, hb0.block⟩; have hcf1 := (hb1.cell (p := ⟨w.heap.size, 0, none⟩) (by simp only; omega)).trans hcf)
      | (refine ⟨trivial, ?_⟩; gi_at_call 7; refine (CallsIn.inRound l (callsIn_wide.2 (hY pre x _ a1 c1 ?_ ?_ ?_ ?_))).mono ?_; (omega); (exact h2.kept hb1); (exact hE.trans (Ex.of_below hb1)); (exact hr1); rintro e u2 ⟨rfl, h3, hE3⟩))
    all_goals gi_wp2
    all_goals
      have hX : Ex Bn Br W u2 := (Ex.of_below hb1).trans hE3
      have hKO : KeepsOthers W u2 := h2.others hX
      have h4 : Two Tn Tr Bn Br u2 (pre ++ [x]).length (R (pre ++ [x])) := by rw [List.length_append]; exact h3
      have hE4 := hE.trans hX
      first
        | exact ⟨hKO, ⟨hX.below hn0 hr0 (Nat.le_trans hszw hE.size), hX.block _ hwl (by omega) (by omega)⟩, h4, hE4, (hX.block _ (by omega) (by omega) (by omega)).trans hf, Nat.lt_of_lt_of_le hwl hX.size⟩
        | exact ⟨hKO, rfl, (by have h := ‹(!cont (pre.length + 1)) = true›; rw [List.length_append]; simpa using h), h4, hE4⟩
  case done =>
    rintro D ys W hD ⟨e, he, hch, hne⟩ ⟨h2, hE, hf, hwl⟩ hK
    gi_wp2
    refine ⟨by simp, .inl ⟨_, _, rfl, run_takeDeferred hK, ?_⟩⟩
    refine ⟨_, results_none rfl _ _ _, ⟨_, rfl⟩, ys, e, he, hch, .inl hne, two_own h2 (grownBy_putObj' _ D (.deferred none)) ?_, ex_own hE (grownBy_putObj' _ D (.deferred none)) ?_⟩
    · intro j e; cases e; exact ⟨Nat.zero_le _, _, hK, rfl⟩
    · intro j e; cases e; simp at hD; omega
  case stop =>
    rintro D c pre W hD ⟨e, he, hch⟩ ⟨rfl, hct, h2, hE⟩ hK
    gi_wp2
    refine ⟨by simp, .inl ⟨_, _, rfl, run_takeDeferred hK, ?_⟩⟩
    refine ⟨_, results_none rfl _ _ _, ⟨_, rfl⟩, pre, e, he, hch, .inr hct, two_own h2 (grownBy_putObj' _ D (.deferred none)) ?_, ex_own hE (grownBy_putObj' _ D (.deferred none)) ?_⟩
    · intro j e; cases e; exact ⟨Nat.zero_le _, _, hK, rfl⟩
    · intro j e; cases e; simp at hD; omega
end Go.Proofs.YtjmhgifdkmglhabDoor.Ct
