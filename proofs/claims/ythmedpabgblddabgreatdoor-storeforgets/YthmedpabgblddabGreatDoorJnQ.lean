/-
  crc's two iterators once more, with what is known of each body's capacity.
  A range over a function whose body writes a store: the loop's law, and Records' iterator.
-/
import Derived.Test.YthmedpabgblddabGreatDoorSgM
import Derived.WalkMore
namespace Go.Proofs.YthmedpabgblddabGreatDoor.Tq
open Go.RowKit Go.Shelf Kt Cs Cw Cf Cn Cg Ck Ca Sp Dk Sh Si
set_option linter.unusedVariables false
attribute [local go_sem] Oper.semAt_some

/-- What an iterator promises that tells these places and bodies, one by one, to a body that always goes on and writes no old memory but Q. -/
def SeqC (P : Program) (n : Nat) (g : Nat) (lb : Array Value) (Rl : World → Option Addr → Prop) (Q : Nat → Prop) (c : Nat) (ps : List (Nat × List UInt8)) (w : World) : Prop :=
  ∀ (l : Nat) (J : Nat → World → Prop) (W : World), Below w.heap.size w W → w.heap.size ≤ l → l < W.heap.size → OwnFrom W.heap.size J →
    (∀ k pl b ao cap W0 W1, J k W0 → Below W0.heap.size W0 W1 → W.heap.size + c ≤ W0.heap.size → Rl W0 ao → ps[k]? = some (pl, b) → Row W1 ao b → (b.length ≤ cap ∧ cap ≤ 9223372036854775807) → YieldAt Fence.wide (n - 1) P l #[.int .i64 ((pl : Nat) : Int), .slice ao b.length cap] W1 fun e W' => e = .returned (.bool true) ∧ J (k + 1) W' ∧ Fm (W.heap.size + c) (fun k => Q k ∨ k = l) W1 W') →
    J 0 W → CallsIn Fence.wide n P g (#[.func (.yield l) #[] #[]] ++ lb) W fun e W' => (∃ v, e = .returned v) ∧ J ps.length W'

set_option maxHeartbeats 1000000 in
/-- The loop over such an iterator. -/
theorem rf_ownC {P : Program} {n : Nat} {g : Operand} {ps : Array Tmp} {assign body : Code} {R : Exit → Act → World → Prop} {a : Act} {w : World} (h1 : 1 ≤ n) {gf : Nat} {lb : Array Value} (hg : a.eval g = .func (.func gf) #[] lb)
    (eg : ∀ args w, (callFunc gf args).run P w = .ok (.enter gf args) w) {Rl : World → Option Addr → Prop} {Q : Nat → Prop} {c : Nat} {L : List (Nat × List UInt8)} {w0 : World} (hseq : SeqC P (n - 1) gf lb Rl Q c L w0)
    (hb0 : Below w0.heap.size w0 w) (hQ : ∀ k, Q k → k < w.heap.size) (hps : ps.size = 2)
    (I : Nat → World → Prop) (hI : OwnFrom w.heap.size I) (h0 : I 0 w) (a₁ : Nat → List UInt8 → Option Addr → Nat → Act)
    (hassign : ∀ (l pl : Nat) (b : List UInt8) (ao : Option Addr) (cap : Nat) (W : World) (K : Act → World → Prop), K (a₁ pl b ao cap) W →
      assign.wpIn (Fence.wide.inRound l) (n - 1 - 1) P (Exit.then K (fun _ _ _ => False)) { tmps := (ps.zip #[.int .i64 (pl : Int), .slice ao b.length cap]).foldl (fun t (p, v) => t.setIfInBounds p v) a.tmps, defers := [] } W)
    (hbody : ∀ (l k pl : Nat) (b : List UInt8) (ao : Option Addr) (cap : Nat) (W0 W : World), w.heap.size ≤ l → (∃ r, W0.heap[l]? = some (.loop r)) → w.heap.size + 2 + c ≤ W0.heap.size → I k W0 → Fr (fun q => q = l) W0 W → I k W → Rl W0 ao → L[k]? = some (pl, b) → Row W ao b → (b.length ≤ cap ∧ cap ≤ 9223372036854775807) →
      body.wpIn (Fence.wide.inRound l) (n - 1 - 1) P (onPost (w.heap.size + 2 + c) Q (I (k + 1)) W) (a₁ pl b ao cap) W)
    (hdone : ∀ (D : Nat) (W : World), w.heap.size ≤ D → I L.length W → W.heap[D]? = some (.deferred (some [])) → R .normal { a with defers := { target := .collected D, args := #[] } :: a.defers } W) :
    (Code.rangeFunc g ps assign body).wpIn Fence.wide n P R a w := by
  refine wpIn_rangeFunc fun fn hfn => ?_
  obtain ⟨rec, hrec⟩ : ∃ rec : LoopState → Option Code → Loop, rec = fun st pe => { state := st, pending := pe, fn, tmps := a.tmps, params := ps, assign, body, defers := w.heap.size } := ⟨_, rfl⟩
  obtain ⟨W1, hW1⟩ : ∃ W1, (w.alloc (.deferred (some []))).alloc (.loop (rec .ready none)) = W1 := ⟨_, rfl⟩
  have hs1 : W1.heap.size = w.heap.size + 2 := by rw [← hW1]; simp
  have hr1 : W1.heap[w.heap.size + 1]? = some (.loop (rec .ready none)) := by
    rw [← hW1]
    have := World.alloc_heap_new (w.alloc (.deferred (some []))) (.loop (rec .ready none))
    rwa [World.size_alloc] at this
  have hd1 : W1.heap[w.heap.size]? = some (.deferred (some [])) := by rw [← hW1]; exact (Below.heap_alloc _ _ _ (by simp)).trans (World.alloc_heap_new w _)
  have hI1 : I 0 W1 := by rw [← hW1]; exact hI.alloc _ (hI.alloc _ h0)
  have hbb : Below w0.heap.size w0 W1 := by rw [← hW1]; exact hb0.trans ((((Below.refl _ w).alloc (Nat.le_refl _) _).alloc (by simp) _).mono hb0.size)
  have hcall := hseq (w.heap.size + 1) (fun k W => I k W ∧ W.heap[w.heap.size + 1]? = some (.loop (rec .ready none)) ∧ W.heap[w.heap.size]? = some (.deferred (some []))) W1 hbb (by have := hb0.size; omega) (by omega)
    (fun k A B row hs hgr hrow => ⟨hI k A B row hs.1 hgr (fun r e => ⟨by have := (hrow r e).1; omega, (hrow r e).2⟩),
      (hgr.block _ (block_lt hs.2.1) (fun e => by have := (hrow _ e.symm).1; omega)).trans hs.2.1, (hgr.block _ (block_lt hs.2.2) (fun e => by have := (hrow _ e.symm).1; omega)).trans hs.2.2⟩)
    (fun k pl b ao cap W0 W hJ hB0 hcW hRl hL hrow hcc => by
      obtain ⟨hi0, hl0, hd0⟩ := hJ
      have hl := (hB0.block _ (block_lt hl0)).trans hl0
      have hd := (hB0.block _ (block_lt hd0)).trans hd0
      have hi : I k W := hI k W0 W none hi0 ⟨hB0.os, hB0.tape, hB0.output, hB0.size, fun q hq _ => hB0.block q hq⟩ (fun r e => by cases e)
      have hlt := block_lt hl
      have hy := run_yield (P := P) (args := #[.int .i64 (pl : Int), .slice ao b.length cap]) hl (by rw [hrec]; simp [hps])
      rw [hrec] at hy
      refine ⟨fn, _, assign, body, hy, roundIn_of_wpIn hfn (hassign _ pl b ao cap W _ ⟨_, run_beginRound hl (by rw [hrec]), ?_⟩)⟩
      obtain ⟨W2, hW2⟩ : ∃ W2, W.putObj (w.heap.size + 1) (.loop { rec .ready none with state := .busy }) = W2 := ⟨_, rfl⟩
      have hl2 : W2.heap[w.heap.size + 1]? = some (.loop { rec .ready none with state := .busy }) := by rw [← hW2]; exact World.putObj_heap_same hlt
      have hd2 : W2.heap[w.heap.size]? = some (.deferred (some [])) := by rw [← hW2]; exact (World.putObj_heap_other (by omega)).trans hd
      have hk2 : Fr (fun k => k = w.heap.size + 1) W W2 := by rw [← hW2]; exact fr_put _ _ _
      have hi2 : I k W2 := by rw [← hW2]; exact hI.putObj _ hi (by omega) hl rfl
      have hrow2 : Row W2 ao b := fun h0 => by
        obtain ⟨bb, off, e, hc⟩ := hrow h0
        refine ⟨bb, off, e, fun i hi => ?_⟩
        rw [← hc i hi, ← hW2]
        obtain ⟨o, ho, hoc⟩ := cells_of_cell (hc i hi)
        refine World.cell?_of_block (w := W) (World.putObj_heap_other (fun x => ?_))
        simp only at ho x
        rw [x, hl] at ho
        cases ho
        cases hoc
      rw [hW2]
      refine wpIn_mono (hbody _ k pl b ao cap W0 W2 (by omega) ⟨_, hl0⟩ (by omega) hi0 ((Fr.ofBelow hB0).trans hk2 (fun i hi => .inl hi)) hi2 hRl hL hrow2 hcc) ?_
      rintro e a3 W3 hp
      cases e with
      | normal =>
        obtain ⟨hf3, hi3⟩ := hp
        have hl3 := (hf3.block _ (by omega) (block_lt hl2) (fun x => by have := hQ _ x; omega)).trans hl2
        have hd3 := (hf3.block _ (by omega) (block_lt hd2) (fun x => by have := hQ _ x; omega)).trans hd2
        have hend := run_endRound (P := P) none hl3
        refine ⟨_, _, hend, rfl, ⟨hI.putObj _ hi3 (by omega) hl3 rfl, ?_, (World.putObj_heap_other (by omega)).trans hd3⟩, ?_⟩
        · rw [World.putObj_heap_same (block_lt hl3), hrec]
          rfl
        · have q1 : Fm (W1.heap.size + c) (fun k => Q k ∨ k = w.heap.size + 1) W W2 := Fm.ofFr (hk2.mono (fun k hk => .inr hk))
          rw [← hs1] at hf3
          have q2 := q1.trans (hf3.mono (fun i hi => .inl hi))
          exact q2.trans (Fm.ofFr ((fr_put _ _ _).mono (fun k hk => .inr hk)))
      | ret => exact hp.elim
      | exit id => exact hp.elim
      | goto t => exact hp.elim
      | panic ch => exact hp.elim
      | outgrown => exact hp.elim)
    ⟨hI1, hr1, hd1⟩
  refine ⟨w.heap.size + 1, [{ target := .collected w.heap.size, args := #[] }], W1, { target := .fn (.func gf) lb, args := #[.func (.yield (w.heap.size + 1)) #[] #[]] }, W1, gf, #[.func (.yield (w.heap.size + 1)) #[] #[]] ++ lb, W1, ?_, ?_, ?_, ?_, fun _ => h1, ?_⟩
  · rw [← hW1, hrec]; exact run_enterLoop_outer _ _ _ _ _
  · simp only [resolve, hg]
    simp [go_sem]
  · intro f' _; exact trivial
  · simp [invoke, go_sem, eg]
  · refine hcall.mono ?_
    rintro e W2 ⟨⟨v, rfl⟩, hi, hl, hd⟩
    have hend := run_endLoop (P := P) hl (by rw [hrec]; simp)
    refine ⟨none, _, ?_, hdone _ _ (Nat.le_refl _) (hI.putObj (.loop { rec .ready none with state := .exhausted }) hi (by omega) hl rfl) ((World.putObj_heap_other (by omega)).trans hd)⟩
    rw [hend, hrec]

set_option maxRecDepth 100000 in
set_option maxHeartbeats 2000000 in
theorem frames1_seqC (n : Nat) (hn : 1 ≤ n) (Q : Nat → Prop) (Bx : Nat) (T : TypeId) (w : World) (ao : Option Addr) (cap : Nat) (l : List (List UInt8)) (t bs : List UInt8) (hbs : bs = fcat l ++ t) (hll : ∀ x ∈ l, x.length ≤ 65536) (ht : (Cp.fd t).1 ≠ 0)
    (hT : Tb w) (hr : Row w ao bs) (hl : bs.length ≤ 1000000) (hc : bs.length ≤ cap) (hcap : cap ≤ 9223372036854775807) (hBx : w.heap[Bx]? = some (.cells #[.slice ao bs.length cap] T)) (q0 : ¬ Q 0) (qB : ¬ Q Bx) (qa : 0 < bs.length → ∀ b off, ao = some ⟨b, off, none⟩ → ¬ Q b) :
    SeqC Tryz.prog n 85 #[.pointer (some ⟨Bx, 0, none⟩)] (fun _ _ => True) Q 0 (prs l) w := fun lp J W hW hlp hlW hJ hY h0 => by
  have hBW : W.heap[Bx]? = some (.cells #[.slice ao bs.length cap] T) := (hW.block Bx (block_lt hBx)).trans hBx
  have hTW : Tb W := hT.below hW hT.size
  have hrW : Row W ao bs := hr.below hW
  have q0' : ¬ (Q 0 ∨ 0 = lp) := fun x => by rcases x with x | x; exact q0 x; have := hT.size; omega
  have qB' : ¬ (Q Bx ∨ Bx = lp) := fun x => by rcases x with x | x; exact qB x; have := block_lt hBx; omega
  have qa' : 0 < bs.length → ∀ b off, ao = some ⟨b, off, none⟩ → ¬ (Q b ∨ b = lp) := fun hp b off e x => by
    rcases x with x | x
    · exact qa hp b off e x
    · obtain ⟨b', off', e', hc⟩ := hr hp
      rw [e] at e'
      simp only [Option.some.injEq, Addr.mk.injEq] at e'
      have := World.block_lt_of_cell? w _ (hc 0 hp)
      simp only at this
      omega
  have HBL := mkH (block_lt hBW)
  have HAL := mkH (show 0 < bs.length → ∀ b off, ao = some ⟨b, off, none⟩ → b < W.heap.size from fun hp b off e => by
    obtain ⟨b', off', e', hc⟩ := hrW hp
    rw [e] at e'
    simp only [Option.some.injEq, Addr.mk.injEq] at e'
    have := World.block_lt_of_cell? W _ (hc 0 hp)
    simp only at this
    omega)
  have HBS := mkH hbs
  have HPL := mkH (prs_len l)
  clear hbs hW hBx hT hr
  refine callsIn_of_wp Tryz.func85 rfl trivial ?_ rfl
  simp only [Tryz.ntmps85, List.size_toArray, List.length_cons, List.length_nil, Nat.reduceAdd, Nat.reduceSub, Array.replicate_succ, Array.replicate_zero, List.push_toArray, List.append_toArray, List.nil_append, List.cons_append]
  gi_wp2
  gi_loopw [3] (fun i wr => ∃ (k p : Nat), i = .int .i64 p ∧ Hid (p = off l k ∧ k ≤ l.length) ∧ p ≤ bs.length ∧ J k wr ∧ Tb wr ∧ Row wr ao bs ∧ wr.heap[Bx]? = some (.cells #[.slice ao bs.length cap] T) ∧ W.heap.size ≤ wr.heap.size)
    (fun i _ => bs.length + 1 - (intOf i).toNat)
  case atStart => exact ⟨0, 0, rfl, ⟨(off_zero l).symm, Nat.zero_le _⟩, Nat.zero_le _, h0, hTW, hrW, hBW, Nat.le_refl _⟩
  case round =>
    obtain ⟨k, p, rfl, HK, hpb, hJs, hTr, hrr, hBr, hsz⟩ := hrel
    have hcell := cell_box hBr
    have hBl2 : Bx < wr.heap.size := block_lt hBr
    have HJ := mkH hJs
    have HT := mkH hTr
    have HR := mkH hrr
    clear hJs hTr hrr
    gi_wp2_with fail
    refine ⟨trivial, (callsIn_wide.2 (find_all wr ao cap p bs HT.out HR.out hl hc hcap hpb)).mono ?_⟩
    rintro e w1 ⟨hB1, hres⟩
    have hJ1 : J k w1 := hJ k wr w1 none HJ.out (grown_of_below hB1) (fun r e => by cases e)
    rcases Nat.lt_or_ge k l.length with hk | hk
    · have hfd : Cp.fd (bs.drop p) = (0, (l.getD k []).length) := by rw [HBS.out, HK.out.1]; exact fd_off hll t hk
      have hbo : (bs.drop (p + 12)).take (l.getD k []).length = l.getD k [] := by rw [HBS.out, HK.out.1]; exact body_off t hk
      have hos : off l (k + 1) = p + 12 + (l.getD k []).length := by rw [HK.out.1]; exact off_succ hk
      have hob : off l (k + 1) ≤ bs.length := by rw [HBS.out]; exact off_le t _
      rw [hfd] at hres
      rcases hres with ⟨hne, _⟩ | ⟨_, aq, cq, hq1, hq2, rfl, hq⟩
      · exact (hne rfl).elim
      · simp only at hq hq2 ⊢
        rw [hbo] at hq
        have hr1 := HR.out.below hB1
        obtain ⟨fn, tmps, assign, body, hy, hR⟩ := hY k p (l.getD k []) aq cq w1 w1 hJ1 (Below.refl _ _) (Nat.le_trans hsz hB1.size) trivial (by rw [HK.out.1]; exact prs_at hk) (hq w1 hr1) ⟨hq2, by omega⟩
        have HN := mkH (And.intro hos (show k + 1 ≤ l.length from hk))
        have hob2 : p + 12 + (l.getD k []).length ≤ bs.length := by omega
        clear hcell hfd hbo hq hos hob
        generalize (l.getD k []).length = bl at *
        gi_wp2
        refine hR.mono ?_
        rintro e W3 ⟨rfl, hJ3, hk3⟩
        have hx3 : W3.heap[Bx]? = some (.cells #[.slice ao bs.length cap] T)   := (hk3.block Bx (by have := HBL.out; omega) (Nat.lt_of_lt_of_le hBl2 hB1.size) qB').trans ((hB1.block Bx hBl2).trans hBr)
        have hT3 := fm_tb hk3 (HT.out.below hB1 HT.out.size) (by have := HBL.out; omega) q0'
        have hr3 : Row W3 ao bs := fm_row hk3 hr1 (fun hp b off e => ⟨HAL.out hp b off e, qa' hp b off e⟩)
        have hs3 := Nat.le_trans hsz (Nat.le_trans hB1.size hk3.size)
        clear hy hR hk3 hr1
        gi_wp2
        go_roundw
        case rel => exact ⟨k + 1, p + 12 + bl, by go_num, ⟨HN.out.1.symm, HN.out.2⟩, hob2, hJ3, hT3, hr3, hx3, hs3⟩
        case measure => simp [intOf]; omega
    · have hkl : k = l.length := by have := HK.out.2; omega
      have hfd : (Cp.fd (bs.drop p)).1 ≠ 0 := by
        rw [HBS.out, HK.out.1, hkl, off_all, List.drop_left]; exact ht
      rcases hres with ⟨h1, rfl⟩ | ⟨h1, _⟩
      · have t1 : (((Cp.fd (bs.drop p)).1 : Int) != 0) = true := by simp; omega
        clear h1 hcell hfd
        generalize (Cp.fd (bs.drop p)).1 = ee at t1
        gi_wp2
        refine ⟨fun _ h => (by cases h), ?_⟩
        gi_wp2
        refine bodyPost_ret (results_none rfl _ _ _) rfl ?_
        refine ⟨⟨_, rfl⟩, ?_⟩
        rw [HPL.out, ← hkl]
        exact hJ1
      · exact (hfd h1).elim

set_option maxRecDepth 100000 in
set_option maxHeartbeats 2000000 in
theorem all1_seqC (Q : Nat → Prop) (Bx : Nat) (T : TypeId) (w : World) (ao : Option Addr) (cap : Nat) (l : List (List UInt8)) (t bs : List UInt8) (hbs : bs = fcat l ++ t) (hll : ∀ x ∈ l, x.length ≤ 65536) (ht : (Cp.fd t).1 ≠ 0)
    (hT : Tb w) (hr : Row w ao bs) (hl : bs.length ≤ 1000000) (hc : bs.length ≤ cap) (hcap : cap ≤ 9223372036854775807) (hBx : w.heap[Bx]? = some (.cells #[.slice ao bs.length cap] T)) (q0 : ¬ Q 0) (qB : ¬ Q Bx) (qa : 0 < bs.length → ∀ b off, ao = some ⟨b, off, none⟩ → ¬ Q b) (qlt : ∀ k, Q k → k < w.heap.size) :
    SeqC Tryz.prog 10 77 #[.pointer (some ⟨Bx, 0, none⟩)] (fun W0 a => ∀ b off, a = some ⟨b, off, none⟩ → W0.heap.size ≤ b) Q 4 (prs l) w := fun lp J W hW hlp hlW hJ hY h0 => by
  have hBW : W.heap[Bx]? = some (.cells #[.slice ao bs.length cap] T) := (hW.block Bx (block_lt hBx)).trans hBx
  have hTW : Tb W := hT.below hW hT.size
  have hrW : Row W ao bs := hr.below hW
  have hqW : ∀ k, Q k ∨ k = lp → k < W.heap.size := fun k x => by
    rcases x with x | x
    · exact Nat.lt_of_lt_of_le (qlt k x) hW.size
    · omega
  have q0' : ¬ (Q 0 ∨ 0 = lp) := fun x => by rcases x with x | x; exact q0 x; have := hT.size; omega
  have qa' : 0 < bs.length → ∀ b off, ao = some ⟨b, off, none⟩ → ¬ (Q b ∨ b = lp) := fun hp b off e x => by
    rcases x with x | x
    · exact qa hp b off e x
    · obtain ⟨b', off', e', hc⟩ := hr hp
      rw [e] at e'
      simp only [Option.some.injEq, Addr.mk.injEq] at e'
      have := World.block_lt_of_cell? w _ (hc 0 hp)
      simp only at this
      omega
  have HBS := mkH hbs
  clear hbs
  refine callsIn_of_wp_marks Tryz.func77 rfl trivial ?_ rfl
  simp only [Tryz.ntmps77, List.size_toArray, List.length_cons, List.length_nil, Nat.reduceAdd, Nat.reduceSub, Array.replicate_succ, Array.replicate_zero, List.push_toArray, List.append_toArray, List.nil_append, List.cons_append]
  have hcx := cell_alloc_own (.cells #[.func (.yield lp) #[] #[]] 87) (cell_box hBW)
  gi_wp2_with fail
  refine ⟨trivial, (frames_in _ ao bs.length cap _).mono ?_⟩
  rintro e w' ⟨rfl, rfl⟩
  gi_wp2_with fail
  obtain ⟨W2, hW2⟩ : ∃ W2, (W.alloc (.cells #[.func (.yield lp) #[] #[]] 87)).alloc (.cells #[.slice ao bs.length cap] 30) = W2 := ⟨_, rfl⟩
  have hs2 : W2.heap.size = W.heap.size + 2 := by rw [← hW2]; simp
  have hb2 : Below W.heap.size W W2 := by rw [← hW2]; exact ((Below.refl _ W).alloc (Nat.le_refl _) _).alloc (by simp) _
  have hyb : W2.heap[W.heap.size]? = some (.cells #[.func (.yield lp) #[] #[]] 87) := by
    rw [← hW2]; exact (Below.heap_alloc _ _ _ (by simp)).trans (heap_alloc_new _ _)
  have hfb : W2.heap[W.heap.size + 1]? = some (.cells #[.slice ao bs.length cap] 30) := by
    rw [← hW2]
    have := heap_alloc_new (W.alloc (.cells #[.func (.yield lp) #[] #[]] 87)) (.cells #[.slice ao bs.length cap] 30)
    rwa [World.size_alloc] at this
  rw [hW2]
  clear hcx
  refine rf_ownC (by omega) (gf := 85) (lb := #[.pointer (some ⟨W.heap.size + 1, 0, none⟩)]) rfl (enters_of Tryz.func85 (by kernel_rfl) rfl)
    (frames1_seqC _ (by omega) (fun k => Q k ∨ k = lp) (W.heap.size + 1) 30 W2 ao cap l t bs HBS.out hll ht (hTW.below hb2 hTW.size) (hrW.below hb2) hl hc hcap hfb q0' (fun x => by have := hqW _ x; omega) qa')
    (Below.refl _ _) (fun k hk => by have := hqW k hk; omega) rfl
    (fun k W' => J k W' ∧ W'.heap[W.heap.size]? = some (.cells #[.func (.yield lp) #[] #[]] 87))
    (fun k A B row hs hg hrow => ⟨hJ k A B row hs.1 hg (fun r e => ⟨by have := (hrow r e).1; omega, (hrow r e).2⟩), (hg.block _ (block_lt hs.2) (fun e => by have := (hrow _ e.symm).1; omega)).trans hs.2⟩)
    ⟨hJ 0 W W2 none h0 (by rw [← hW2]; exact (World.grownBy_alloc W _ none).trans (World.grownBy_alloc _ _ none)) (fun r e => by cases e), hyb⟩
    (fun pl b aq cq => { tmps := #[.func (.yield lp) #[] #[], .pointer (some ⟨Bx, 0, none⟩), .pointer (some ⟨W.heap.size, 0, none⟩), .int .i64 (pl : Int), .slice aq b.length cq, .slice ao bs.length cap, .func (.func 85) #[] #[.pointer (some ⟨W.heap.size + 1, 0, none⟩)], .int .i64 (pl : Int), .slice aq b.length cq, undef, undef, undef, undef, undef, undef], defers := [] }) ?assign ?body ?done
  case assign =>
    intro l' pl b aq cq W' K hK
    gi_wp2
    exact hK
  case body =>
    rintro l' k pl b aq cq Wz Wb hl1 - hlz - hfz ⟨hJk, hyb'⟩ _ hL hrow -
    have hl2 := Nat.le_trans hlz hfz.size
    obtain ⟨hkl, hpl, hbb⟩ := prs_of hL
    have hcf := cell_box hyb'
    have hbl : b.length ≤ 65536 := by
      rw [hbb]
      have : l.getD k [] ∈ l := by simp [List.getD, hkl]
      exact hll _ this
    have hplb : pl ≤ 1000000 := by rw [hpl]; have := off_le (l := l) t k; rw [← HBS.out] at this; omega
    have HL := mkH hL
    have HJ := mkH hJk
    have hmx : Tryz.prog.follows .mixedOrders = true := by kernel_rfl
    clear hL hkl hpl hbb hJk
    gi_wp2
    gi_region_with_o (first
      | (refine ⟨trivial, ?_⟩; gi_at_call 75; refine (CallsIn.inRound l' (callsIn_wide.2 (clone_any _ aq cq b ?_ ?_))).mono ?_; (exact hrow); (omega); rintro e u1 ⟨v1, rfl, hown1, hb0⟩; obtain ⟨a1, c1, rfl, -, hc1, hr1⟩ := own_row hown1; have hb1 : Below Wb.heap.size Wb u1 := ⟨hb0.os, hb0.tape, hb0.output, hb0.size, hb0.block⟩; have hcf1 := (hb1.cell (p := ⟨W.heap.size, 0, none⟩) (block_lt hyb')).trans hcf; obtain ⟨fn, tmps, assign, body, hy, hR⟩ := hY k pl b a1 c1 Wb u1 HJ.out hb1 (by omega) (fun b off e => by subst e; exact (Se.own_blk hown1 rfl).2) HL.out hr1 ⟨hc1, own_cap hown1⟩)
      | (refine (round_any hR).mono ?_; rintro e u2 ⟨rfl, h3, hF3⟩))
    all_goals gi_wp2
    all_goals
      have hbf : Fm (W2.heap.size + 2 + 0) (fun k => Q k ∨ k = lp) Wb u1 := Fm.ofFr (Fr.ofBelow hb1)
      have hmm : W2.heap.size + 2 + 0 = W.heap.size + 4 := by omega
      refine ⟨?_, h3, (hF3.block _ (by omega) (Nat.lt_of_lt_of_le (block_lt hyb') hb1.size) (fun x => by have := hqW _ x; omega)).trans ((hb1.block _ (block_lt hyb')).trans hyb')⟩
      rw [hmm] at hbf ⊢
      exact hbf.trans hF3
  case done =>
    rintro D W' hD ⟨hJe, -⟩ hK
    gi_wp2
    refine ⟨by simp, .inl ⟨_, _, rfl, run_takeDeferred hK, ?_⟩⟩
    refine ⟨_, results_none rfl _ _ _, ⟨_, rfl⟩, ?_⟩
    exact hJ _ _ _ (some D) hJe (grownBy_putObj' _ D (.deferred none)) (fun r e => by cases e; exact ⟨by omega, _, hK, rfl⟩)
end Go.Proofs.YthmedpabgblddabGreatDoor.Tq

namespace Go.Proofs.YthmedpabgblddabGreatDoor.Tr
open Go.RowKit Go.Shelf Kt Cs Cw Cf Cg Cn Ck Cv Ca Sp Dk Dp Da Db Dc Dd De Sq Sr Sa Sb Sc Se Sf Sh Si Sj Sk Sl Sm Pl Tq
set_option linter.unusedVariables false
attribute [local go_sem] Oper.semAt_some

/-- What stays as long as no block below B turns. -/
def Stb (B : Nat) (J : Nat → World → Prop) : Prop := ∀ k A A', J k A → Fr (fun q => B ≤ q) A A' → J k A'
theorem Stb.own {B : Nat} {J : Nat → World → Prop} (h : Stb B J) : OwnFrom B J := fun k A A' row hj hg hr => h k A A' hj ⟨hg.os, hg.tape, hg.output, hg.size, fun q hq hn => hg.block q hq (fun e => hn (hr q e.symm).1)⟩

/-- What an iterator promises that tells these numbers and bodies, one by one, to a body that always goes on and writes no old memory but Q. -/
def SeqF (P : Program) (n : Nat) (g : Nat) (lb : Array Value) (Rl : World → Option Addr → Prop) (Q : Nat → Prop) (ps : List (Nat × List UInt8)) (w : World) : Prop :=
  ∀ (l : Nat) (J : Nat → World → Prop) (W : World), Below w.heap.size w W → w.heap.size ≤ l → l < W.heap.size → Stb W.heap.size J →
    (∀ k pl b ao cap W0 W1, J k W0 → Below W0.heap.size W0 W1 → Rl W0 ao → ps[k]? = some (pl, b) → Row W1 ao b → (b.length ≤ cap ∧ cap ≤ 9223372036854775807) → YieldAt Fence.wide (n - 1) P l #[.int .i64 ((pl : Nat) : Int), .slice ao b.length cap] W1 fun e W' => e = .returned (.bool true) ∧ J (k + 1) W' ∧ Fr (fun k => Q k ∨ k = l) W1 W') →
    J 0 W → CallsIn Fence.wide n P g (#[.func (.yield l) #[] #[]] ++ lb) W fun e W' => (∃ v, e = .returned v) ∧ J ps.length W'

/-- How a round's body is left. -/
def onPostF (Q : Nat → Prop) (I : World → Prop) (W : World) : Exit → Act → World → Prop
  | .normal, _, W' => Fr Q W W' ∧ I W'
  | _, _, _ => False

set_option maxHeartbeats 1000000 in
/-- The loop over such an iterator. -/
theorem rf_ownF {P : Program} {n : Nat} {g : Operand} {ps : Array Tmp} {assign body : Code} {R : Exit → Act → World → Prop} {a : Act} {w : World} (h1 : 1 ≤ n) {gf : Nat} {lb : Array Value} (hg : a.eval g = .func (.func gf) #[] lb)
    (eg : ∀ args w, (callFunc gf args).run P w = .ok (.enter gf args) w) {Rl : World → Option Addr → Prop} {Q : Nat → Prop} {L : List (Nat × List UInt8)} {w0 : World} (hseq : SeqF P (n - 1) gf lb Rl Q L w0)
    (hb0 : Below w0.heap.size w0 w) (hQ : ∀ k, Q k → k < w.heap.size) (hps : ps.size = 2)
    (I : Nat → World → Prop) (hI : Stb w.heap.size I) (h0 : I 0 w) (a₁ : Nat → List UInt8 → Option Addr → Nat → Act)
    (hassign : ∀ (l pl : Nat) (b : List UInt8) (ao : Option Addr) (cap : Nat) (W : World) (K : Act → World → Prop), K (a₁ pl b ao cap) W →
      assign.wpIn (Fence.wide.inRound l) (n - 1 - 1) P (Exit.then K (fun _ _ _ => False)) { tmps := (ps.zip #[.int .i64 (pl : Int), .slice ao b.length cap]).foldl (fun t (p, v) => t.setIfInBounds p v) a.tmps, defers := [] } W)
    (hbody : ∀ (l k pl : Nat) (b : List UInt8) (ao : Option Addr) (cap : Nat) (W0 W : World), w.heap.size ≤ l → I k W0 → Fr (fun q => q = l) W0 W → I k W → Rl W0 ao → L[k]? = some (pl, b) → Row W ao b → (b.length ≤ cap ∧ cap ≤ 9223372036854775807) →
      body.wpIn (Fence.wide.inRound l) (n - 1 - 1) P (onPostF Q (I (k + 1)) W) (a₁ pl b ao cap) W)
    (hdone : ∀ (D : Nat) (W : World), w.heap.size ≤ D → I L.length W → W.heap[D]? = some (.deferred (some [])) → R .normal { a with defers := { target := .collected D, args := #[] } :: a.defers } W) :
    (Code.rangeFunc g ps assign body).wpIn Fence.wide n P R a w := by
  refine wpIn_rangeFunc fun fn hfn => ?_
  obtain ⟨rec, hrec⟩ : ∃ rec : LoopState → Option Code → Loop, rec = fun st pe => { state := st, pending := pe, fn, tmps := a.tmps, params := ps, assign, body, defers := w.heap.size } := ⟨_, rfl⟩
  obtain ⟨W1, hW1⟩ : ∃ W1, (w.alloc (.deferred (some []))).alloc (.loop (rec .ready none)) = W1 := ⟨_, rfl⟩
  have hs1 : W1.heap.size = w.heap.size + 2 := by rw [← hW1]; simp
  have hr1 : W1.heap[w.heap.size + 1]? = some (.loop (rec .ready none)) := by
    rw [← hW1]
    have := World.alloc_heap_new (w.alloc (.deferred (some []))) (.loop (rec .ready none))
    rwa [World.size_alloc] at this
  have hd1 : W1.heap[w.heap.size]? = some (.deferred (some [])) := by rw [← hW1]; exact (Below.heap_alloc _ _ _ (by simp)).trans (World.alloc_heap_new w _)
  have hI1 : I 0 W1 := by rw [← hW1]; exact hI _ _ _ (hI _ _ _ h0 ((Fr.refl _ _).alloc _)) ((Fr.refl _ _).alloc _)
  have hbb : Below w0.heap.size w0 W1 := by rw [← hW1]; exact hb0.trans ((((Below.refl _ w).alloc (Nat.le_refl _) _).alloc (by simp) _).mono hb0.size)
  have hcall := hseq (w.heap.size + 1) (fun k W => I k W ∧ W.heap[w.heap.size + 1]? = some (.loop (rec .ready none)) ∧ W.heap[w.heap.size]? = some (.deferred (some []))) W1 hbb (by have := hb0.size; omega) (by omega)
    (fun k A B hs hgr => ⟨hI k A B hs.1 (hgr.mono (fun q hq => by omega)), (hgr.heap (block_lt hs.2.1) (by omega)).trans hs.2.1, (hgr.heap (block_lt hs.2.2) (by omega)).trans hs.2.2⟩)
    (fun k pl b ao cap W0 W hJ hB0 hRl hL hrow hcc => by
      obtain ⟨hi0, hl0, hd0⟩ := hJ
      have hl := (hB0.block _ (block_lt hl0)).trans hl0
      have hd := (hB0.block _ (block_lt hd0)).trans hd0
      have hi : I k W := hI k W0 W hi0 (Fr.ofBelow hB0)
      have hlt := block_lt hl
      have hy := run_yield (P := P) (args := #[.int .i64 (pl : Int), .slice ao b.length cap]) hl (by rw [hrec]; simp [hps])
      rw [hrec] at hy
      refine ⟨fn, _, assign, body, hy, roundIn_of_wpIn hfn (hassign _ pl b ao cap W _ ⟨_, run_beginRound hl (by rw [hrec]), ?_⟩)⟩
      obtain ⟨W2, hW2⟩ : ∃ W2, W.putObj (w.heap.size + 1) (.loop { rec .ready none with state := .busy }) = W2 := ⟨_, rfl⟩
      have hl2 : W2.heap[w.heap.size + 1]? = some (.loop { rec .ready none with state := .busy }) := by rw [← hW2]; exact World.putObj_heap_same hlt
      have hd2 : W2.heap[w.heap.size]? = some (.deferred (some [])) := by rw [← hW2]; exact (World.putObj_heap_other (by omega)).trans hd
      have hk2 : Fr (fun k => k = w.heap.size + 1) W W2 := by rw [← hW2]; exact fr_put _ _ _
      have hi2 : I k W2 := hI k W W2 hi (hk2.mono (fun q hq => by omega))
      have hrow2 : Row W2 ao b := fun h0 => by
        obtain ⟨bb, off, e, hc⟩ := hrow h0
        refine ⟨bb, off, e, fun i hi => ?_⟩
        rw [← hc i hi, ← hW2]
        obtain ⟨o, ho, hoc⟩ := cells_of_cell (hc i hi)
        refine World.cell?_of_block (w := W) (World.putObj_heap_other (fun x => ?_))
        simp only at ho x
        rw [x, hl] at ho
        cases ho
        cases hoc
      rw [hW2]
      refine wpIn_mono (hbody _ k pl b ao cap W0 W2 (by omega) hi0 ((Fr.ofBelow hB0).trans hk2 (fun i hi => .inl hi)) hi2 hRl hL hrow2 hcc) ?_
      rintro e a3 W3 hp
      cases e with
      | normal =>
        obtain ⟨hf3, hi3⟩ := hp
        have hl3 := (hf3.heap (block_lt hl2) (fun x => by have := hQ _ x; omega)).trans hl2
        have hd3 := (hf3.heap (block_lt hd2) (fun x => by have := hQ _ x; omega)).trans hd2
        have hend := run_endRound (P := P) none hl3
        refine ⟨_, _, hend, rfl, ⟨hI _ _ _ hi3 ((fr_put _ _ _).mono (fun q hq => by omega)), ?_, (World.putObj_heap_other (by omega)).trans hd3⟩, ?_⟩
        · rw [World.putObj_heap_same (block_lt hl3), hrec]
          rfl
        · have q1 : Fr (fun k => Q k ∨ k = w.heap.size + 1) W W2 := hk2.mono (fun k hk => .inr hk)
          have q2 := q1.trans hf3 (fun i hi => .inl (.inl hi))
          exact q2.trans (fr_put _ _ _) (fun i hi => .inl (.inr hi))
      | ret => exact hp.elim
      | exit id => exact hp.elim
      | goto t => exact hp.elim
      | panic ch => exact hp.elim
      | outgrown => exact hp.elim)
    ⟨hI1, hr1, hd1⟩
  refine ⟨w.heap.size + 1, [{ target := .collected w.heap.size, args := #[] }], W1, { target := .fn (.func gf) lb, args := #[.func (.yield (w.heap.size + 1)) #[] #[]] }, W1, gf, #[.func (.yield (w.heap.size + 1)) #[] #[]] ++ lb, W1, ?_, ?_, ?_, ?_, fun _ => h1, ?_⟩
  · rw [← hW1, hrec]; exact run_enterLoop_outer _ _ _ _ _
  · simp only [resolve, hg]
    simp [go_sem]
  · intro f' _; exact trivial
  · simp [invoke, go_sem, eg]
  · refine hcall.mono ?_
    rintro e W2 ⟨⟨v, rfl⟩, hi, hl, hd⟩
    have hend := run_endLoop (P := P) hl (by rw [hrec]; simp)
    refine ⟨none, _, ?_, hdone _ _ (Nat.le_refl _) (hI _ _ _ hi ((fr_put _ (w.heap.size + 1) (.loop { rec .ready none with state := .exhausted })).mono (fun q hq => by omega))) ((World.putObj_heap_other (by omega)).trans hd)⟩
    rw [hend, hrec]

/-- The numbers and the records. -/
def rcs (ba : Nat) (l : List (List UInt8)) : List (Nat × List UInt8) := (List.range l.length).map (fun k => (ba + k, l.getD k []))
theorem rcs_len (ba : Nat) (l : List (List UInt8)) : (rcs ba l).length = l.length := by simp [rcs]
theorem rcs_at {ba : Nat} {l : List (List UInt8)} {k : Nat} {b : List UInt8} (h : l[k]? = some b) : (rcs ba l)[k]? = some (ba + k, b) := by
  obtain ⟨h1, h2⟩ := List.getElem?_eq_some_iff.1 h
  simp [rcs, h1, List.getD, h2]
theorem rcs_of {ba : Nat} {l : List (List UInt8)} {k pl : Nat} {b : List UInt8} (h : (rcs ba l)[k]? = some (pl, b)) : pl = ba + k ∧ l[k]? = some b := by
  have hk : k < l.length := by have := (List.getElem?_eq_some_iff.1 h).1; rwa [rcs_len] at this
  have := rcs_at (ba := ba) (List.getElem?_eq_getElem hk)
  rw [this] at h
  simp only [Option.some.injEq, Prod.mk.injEq] at h
  exact ⟨h.1.symm, by rw [List.getElem?_eq_getElem hk, h.2]⟩

theorem leaves_marksJ {F : Fence} {n : Nat} {P : Program} {fn : Func} {tmps : Array Value} {R : Ending → World → Prop} (B : Nat) (Jn : World → Prop) (hJ : ∀ A A', Jn A → Fr (fun q => B ≤ q) A A' → Jn A') : ∀ (Ds : List Nat) (W : World), Mk Ds W → (∀ D ∈ Ds, B ≤ D) → Jn W →
    (∀ W', Jn W' → LeavesInM F n P fn tmps R [] .returning W') → LeavesInM F n P fn tmps R (Ds.map dfr) .returning W
  | [], W, _, _, hj, h => h W hj
  | D :: Ds, W, hm, hb, hj, h => by
    refine ⟨by simp, .inl ⟨D, _, rfl, run_takeDeferred (hm.2 D (by simp)), ?_⟩⟩
    have hn := List.nodup_cons.1 hm.1
    exact leaves_marksJ B Jn hJ Ds _ ⟨hn.2, fun E hE => (World.putObj_heap_other (fun e => by subst e; exact hn.1 hE)).trans (hm.2 E (by simp [hE]))⟩ (fun E hE => hb E (by simp [hE])) (hJ _ _ hj ((fr_put W D (.deferred none)).mono (fun k hk => by subst hk; exact hb k (by simp)))) h

/-- What lies while records are told. -/
structure Rq (w : World) (yv : Value) (ba : Nat) (Q : Nat → Prop) (J : Nat → World → Prop) (Ds : List Nat) (cnt : Nat) (W : World) : Prop where
  fr : Fr Q w W
  yb : W.heap[w.heap.size]? = some (.cells #[yv] 87 (0, 0))
  num : W.heap[w.heap.size + 1]? = some (.cells #[.int .i64 ((ba + cnt : Nat) : Int)] 3 (0, 0))
  j : J cnt W
  mks : Mk Ds W
  mlo : ∀ D ∈ Ds, w.heap.size ≤ D
theorem Rq.grown {w : World} {yv : Value} {ba : Nat} {Q : Nat → Prop} {J : Nat → World → Prop} {Ds : List Nat} {cnt : Nat} {W W' : World} {row : Option Nat} (h : Rq w yv ba Q J Ds cnt W) (hJ : Stb w.heap.size J) (hg : W.grownBy W' row) (hr : ∀ r, row = some r → w.heap.size + 2 ≤ r ∧ r ∉ Ds) : Rq w yv ba Q J Ds cnt W' := by
  have hf := fr_grown hg
  exact ⟨h.fr.trans hf (fun i hi => .inr (by have := (hr i hi).1; omega)), (hf.heap (block_lt h.yb) (fun e => by have := (hr _ e).1; omega)).trans h.yb, (hf.heap (block_lt h.num) (fun e => by have := (hr _ e).1; omega)).trans h.num, hJ _ _ _ h.j (hf.mono (fun q hq => by have := (hr q hq).1; omega)),
    ⟨h.mks.1, fun D hD => (hf.heap (block_lt (h.mks.2 D hD)) (fun e => (hr D e).2 hD)).trans (h.mks.2 D hD)⟩, h.mlo⟩
theorem Rq.below {w : World} {yv : Value} {ba : Nat} {Q : Nat → Prop} {J : Nat → World → Prop} {Ds : List Nat} {cnt : Nat} {W W' : World} (h : Rq w yv ba Q J Ds cnt W) (hJ : Stb w.heap.size J) (hb : Below W.heap.size W W') : Rq w yv ba Q J Ds cnt W' := h.grown hJ (row := none) ⟨hb.os, hb.tape, hb.output, hb.size, fun q hq _ => hb.block q hq⟩ (fun r e => by cases e)

set_option maxRecDepth 100000 in
set_option maxHeartbeats 4000000 in
theorem records1_seq (Q : Nat → Prop) (w0 : World) (Bb Ba ba n : Nat) (ar : Option Addr) (cr : Nat) (lB : List Bx) (segs : List Sg) (hT : Tb w0) (hba : ba + (all segs).length ≤ 1000000)
    (cb : w0.cell? ⟨Bb, 0, none⟩ = some (.int .i64 (ba : Int))) (ca : w0.cell? ⟨Ba, 0, none⟩ = some (.slice ar n cr)) (hn : lB.length = n) (hn2 : n ≤ 256) (hrows : w0.ownsRow 0 30 1 (.slice ar n cr) n (Bv lB)) (hrg : ∀ g, (Value.slice ar n cr).ownBlock = some g → ¬ Q g)
    (hbok : ∀ x ∈ lB, Row w0 x.ao x.bs ∧ ∀ b off, x.ao = some ⟨b, off, none⟩ → 0 < x.bs.length → ¬ Q b) (hbs : lB.map (·.bs) = segs.map (fun s => fcat (bod s))) (hfits : ∀ s ∈ segs, Fits s) (q0 : ¬ Q 0) (qlt : ∀ k, Q k → k < w0.heap.size) :
    SeqF Tryz.prog 11 59 #[.pointer (some ⟨Bb, 0, none⟩), .pointer (some ⟨Ba, 0, none⟩)] (fun _ _ => True) Q (rcs ba (all segs)) w0 := fun lp J w hW hlp hlW hJ hY hJ0 => by
  have hT00 := hT.size
  have hT := hT.below hW hT.size
  have cb := (hW.cell (p := ⟨Bb, 0, none⟩) (World.block_lt_of_cell? w0 _ cb)).trans cb
  have ca := (hW.cell (p := ⟨Ba, 0, none⟩) (World.block_lt_of_cell? w0 _ ca)).trans ca
  have hrg2 : ∀ g, (Value.slice ar n cr).ownBlock = some g → ¬ (Q g ∨ g = lp) := fun g hg y => by
    rcases y with y | y
    · exact hrg g hg y
    · have := (own_blk hrows hg).1; omega
  have hbok2 : ∀ x ∈ lB, Row w x.ao x.bs ∧ ∀ b off, x.ao = some ⟨b, off, none⟩ → 0 < x.bs.length → ¬ (Q b ∨ b = lp) := fun x hx => ⟨(hbok x hx).1.below hW, fun b off e h0 y => by
    rcases y with y | y
    · exact (hbok x hx).2 b off e h0 y
    · have := bok_lt (hbok x hx).1 b off e h0; omega⟩
  have hrows := own_below hrows hW
  have qlt2 : ∀ k, Q k ∨ k = lp → k < w.heap.size := fun k y => by
    have := hW.size
    rcases y with y | y
    · have := qlt k y; omega
    · omega
  have q02 : ¬ (Q 0 ∨ 0 = lp) := fun y => by
    rcases y with y | y
    · exact q0 y
    · omega
  generalize hQ' : (fun k => Q k ∨ k = lp) = Q' at *
  have hrg2 : ∀ g, (Value.slice ar n cr).ownBlock = some g → ¬ Q' g := by rw [← hQ']; exact hrg2
  have hbok2 : ∀ x ∈ lB, Row w x.ao x.bs ∧ ∀ b off, x.ao = some ⟨b, off, none⟩ → 0 < x.bs.length → ¬ Q' b := by rw [← hQ']; exact hbok2
  have qlt2 : ∀ k, Q' k → k < w.heap.size := by rw [← hQ']; exact qlt2
  have q02 : ¬ Q' 0 := by rw [← hQ']; exact q02
  refine callsIn_of_wp_marks Tryz.func59 rfl trivial ?_ rfl
  simp only [Tryz.ntmps59, List.size_toArray, List.length_cons, List.length_nil, Nat.reduceAdd, Nat.reduceSub, Array.replicate_succ, Array.replicate_zero, List.push_toArray, List.append_toArray, List.nil_append, List.cons_append]
  obtain ⟨yv, hyv⟩ : ∃ yv, yv = Value.func (.yield lp) #[] #[] := ⟨_, rfl⟩
  have hb0 : Below w.heap.size w (w.alloc (.cells #[Value.func (.yield lp) #[] #[]] 87)) := (Below.refl _ w).alloc (Nat.le_refl _) _
  have cb1 := (hb0.cell (p := ⟨Bb, 0, none⟩) (World.block_lt_of_cell? w _ cb)).trans cb
  have hb1 := hb0.alloc (by simp) (.cells #[.int .i64 (ba : Int)] 3)
  have ca1 := (hb1.cell (p := ⟨Ba, 0, none⟩) (World.block_lt_of_cell? w _ ca)).trans ca
  have HSTART : Hid (Rq w yv ba Q' J [] 0 ((w.alloc (.cells #[Value.func (.yield lp) #[] #[]] 87)).alloc (.cells #[.int .i64 (ba : Int)] 3))) := by
    refine ⟨Fr.ofBelow hb1, ?_, ?_, hJ _ _ _ hJ0 (Fr.ofBelow hb1), ⟨List.nodup_nil, fun D hD => by simp at hD⟩, fun D hD => by simp at hD⟩
    · rw [hyv]; exact (Below.heap_alloc _ _ _ (by simp)).trans (heap_alloc_new _ _)
    · have := heap_alloc_new (w.alloc (.cells #[Value.func (.yield lp) #[] #[]] 87)) (.cells #[.int .i64 (ba : Int)] 3)
      rw [World.size_alloc] at this
      exact this
  have HT := mkH hT
  have HBOK := mkH hbok2
  have HBS := mkH hbs
  have HFIT := mkH hfits
  have HROWS := mkH hrows
  have HRG := mkH hrg2
  have HN := mkH hn
  have HNS : Hid (segs.length = n) := by have := congrArg List.length hbs; simp only [List.length_map] at this; unfold Hid; omega
  have HYV := mkH hyv
  have HY := mkH hY
  have HJ := mkH hJ
  clear hT hbok hbok2 hbs hfits hrows hrg hrg2 hn cb ca hY hJ0 qlt q0 hW hJ
  refine wpIn_wide.2 ?_
  go_wp2_with fail
  go_step3
  go_wp2_with fail
  go_step3
  go_wp2_with fail
  clear cb1 ca1 hb0 hb1
  refine wp_loop (fun a' W => ∃ (i : Nat) (Ds : List Nat) (u6 u7 u8 u13 u14 u15 u16 u17 u18 u19 u20 u21 u22 u23 u24 u25 u26 u27 u28 u29 : Value), i ≤ n ∧ Hid (Rq w yv ba Q' J Ds (all (segs.take i)).length W) ∧
      a' = { tmps := #[Value.func (.yield lp) #[] #[], .pointer (some ⟨Bb, 0, none⟩), .pointer (some ⟨Ba, 0, none⟩), .pointer (some ⟨w.heap.size, 0, none⟩), .pointer (some ⟨w.heap.size + 1, 0, none⟩), undef, u6, u7, u8, .int .i64 (ba : Int), .slice ar n cr, .int .i64 (n : Int), .int .i64 (i : Int), u13, u14, u15, u16, u17, u18, u19, u20, u21, u22, u23, u24, u25, u26, u27, u28, u29], defers := Ds.map dfr })
    (fun a' _ => n - (intOf (a'.tmps.getD 12 undef)).toNat) ?start ?round
  case start => exact ⟨0, [], undef, undef, undef, undef, undef, undef, undef, undef, undef, undef, undef, undef, undef, undef, undef, undef, undef, undef, undef, undef, Nat.zero_le _, HSTART, rfl⟩
  case round =>
    rintro a' W ⟨i, Ds, u6, u7, u8, u13, u14, u15, u16, u17, u18, u19, u20, u21, u22, u23, u24, u25, u26, u27, u28, u29, hi, HRt, rfl⟩
    by_cases hin : i = n
    · subst hin
      go_wp2_with fail
      rw [Exit.noGoto_normal]
      have hta : all (segs.take i) = all segs := by rw [← HNS.out, List.take_length]
      have q := HRt.out
      rw [hta] at q
      refine leaves_marksJ w.heap.size (J (all segs).length) (fun A A' => HJ.out _ A A') Ds W q.mks q.mlo q.j (fun W' hj => ?_)
      refine ⟨_, results_none rfl _ _ _, ⟨_, rfl⟩, ?_⟩
      rw [rcs_len]
      exact hj
    · have hil : i < n := by omega
      obtain ⟨x, hx⟩ := nth (l := lB) (j := i) (by rw [HN.out]; exact hil)
      obtain ⟨s, hs⟩ := nth (l := segs) (j := i) (by rw [HNS.out]; exact hil)
      have hxb : x.bs = fcat (bod s) := by
        have := congrArg (fun l => l[i]?) HBS.out
        simp only [List.getElem?_map, hx, hs, Option.map_some] at this
        exact Option.some.inj this
      have hfs := HFIT.out s (List.mem_of_getElem? hs)
      have hfw := HRt.out.fr
      have hbx := HBOK.out x (List.mem_of_getElem? hx)
      have hxr : Row W x.ao x.bs := row_fr hbx.1 hfw (fun h0 b off e y => hbx.2 b off e h0 y)
      have hxl : x.bs.length ≤ 1000000 := by rw [hxb]; have := hfs.len; omega
      obtain ⟨g, hg, hcg⟩ : ∃ g, ar = some ⟨g, 0, none⟩ ∧ W.cell? ⟨g, i, none⟩ = some (.slice x.ao x.bs.length x.cap) := by
        rcases HROWS.out.2 with ⟨_, h0⟩ | ⟨g, c', cur, e, e2, e3, e4⟩
        · omega
        · simp only [Value.slice.injEq] at e
          obtain ⟨rfl, -, rfl⟩ := e
          refine ⟨g, rfl, ?_⟩
          have := HROWS.out.cells (g := g) rfl i (.slice x.ao x.bs.length x.cap) (by simp [Bv, hx])
          rw [Addr.add_lit, Nat.zero_add] at this
          rw [← this]
          exact World.cell?_of_block (w := w) (hfw.heap (k := g) (block_lt e3) (HRG.out g rfl))
      subst hg
      have HXR := mkH hxr
      have HXB := mkH hxb
      have HS := mkH hs
      have HFS := mkH hfs
      have HFW := mkH hfw
      clear hx hs hxb hfs hfw hbx hxr
      obtain ⟨xl, hxl2⟩ : ∃ xl, x.bs.length = xl := ⟨_, rfl⟩
      have ha := all_any2 W x.ao x.cap x.bs HXR.out hxl
      rw [hxl2] at ha hcg
      have HA := mkH ha
      have HXL := mkH hxl2
      rw [hxl2] at hxl
      clear ha hxl2
      go_wp2_with fail
      refine HA.out.mono ?_
      rintro e W2 ⟨Bx, a2, c2, rfl, hBx1, hBx2, hr2, hc2, hcm2, hlo2, hb2⟩
      go_wp2_with fail
      obtain ⟨pre, hpre⟩ : ∃ pre, all (segs.take i) = pre := ⟨_, rfl⟩
      have hRtW := HRt.out
      rw [hpre] at hRtW
      have hRt2 := hRtW.below HJ.out hb2
      have hnxt : all (segs.take (i + 1)) = pre ++ s.recs := by rw [List.take_add_one, HS.out, ← hpre]; simp [all]
      have hsplit : all segs = (pre ++ s.recs) ++ all (segs.drop (i + 1)) := by rw [← hnxt, ← all_app, List.take_append_drop]
      have hmax : pre.length + s.recs.length ≤ (all segs).length := by rw [hsplit, List.length_append, List.length_append]; omega
      have hQW : ∀ q, (Q' q ∨ q = w.heap.size + 1) → q < W.heap.size := fun q x => by
        have := HFW.out.size
        rcases x with x | x
        · have := qlt2 q x; omega
        · subst x; exact block_lt hRtW.num
      have hq0 : ¬ (Q' 0 ∨ 0 = w.heap.size + 1) := fun x => by
        rcases x with x | x
        · exact q02 x
        · omega
      have hDW : ∀ D ∈ Ds, D < W2.heap.size := fun D hD => block_lt (hRt2.mks.2 D hD)
      have hsW := HFW.out.size
      have hs2 := hb2.size
      have hnb2 : w.heap.size + 1 < W2.heap.size := block_lt hRt2.num
      rw [← HXL.out] at hBx2 hc2
      have HSP := mkH hsplit
      refine wpIn_wide.1 (rf_ownC (n := 11) (by omega) (gf := 77) (lb := #[.pointer (some ⟨Bx, 0, none⟩)]) rfl (enters_of Tryz.func77 (by kernel_rfl) rfl)
        (all1_seqC (fun q => Q' q ∨ q = w.heap.size + 1) Bx 30 W2 a2 c2 (bod s) [] x.bs (by rw [HXB.out, List.append_nil]) HFS.out.bod2 (by decide) (tb_fr (tb_fr HT.out HFW.out q02) (Fr.ofBelow (F := fun _ => False) hb2) (fun y => y))
          hr2 (by rw [HXL.out]; exact hxl) hc2 hcm2 hBx2 hq0 (fun y => by have := hQW _ y; omega) (fun _ b off e y => by have := hQW _ y; have := hlo2 b off e; omega) (fun q y => by have := hQW q y; omega))
        (Below.refl _ _) (fun q y => by have := hQW q y; omega) rfl
        (fun k W' => Rq w yv ba Q' J Ds (pre.length + (k - 1)) W')
        ?hI ?h0
        (fun pl b aq cq => { tmps := #[Value.func (.yield lp) #[] #[], .pointer (some ⟨Bb, 0, none⟩), .pointer (some ⟨Ba, 0, none⟩), .pointer (some ⟨w.heap.size, 0, none⟩), .pointer (some ⟨w.heap.size + 1, 0, none⟩), undef, .slice x.ao xl x.cap, .int .i64 (pl : Int), .slice aq b.length cq, .int .i64 (ba : Int), .slice (some ⟨g, 0, none⟩) n cr, .int .i64 (n : Int), .int .i64 (i : Int), .bool true, .pointer (some ⟨g, i, none⟩), .slice x.ao xl x.cap, .slice x.ao xl x.cap, .func (.func 77) #[] #[.pointer (some ⟨Bx, 0, none⟩)], .int .i64 (pl : Int), .slice aq b.length cq, u20, u21, u22, u23, u24, u25, u26, u27, u28, u29], defers := [] }) ?assign ?body ?done)
      case hI =>
        intro k A B' row hRt hg hrow
        exact hRt.grown HJ.out hg (fun r e => ⟨by have := (hrow r e).1; omega, fun hD => by have := (hrow r e).1; have := hDW r hD; omega⟩)
      case h0 => exact hRt2
      case assign =>
        intro l' pl b aq cq W' K hK
        gi_wp2
        exact hK
      case body =>
        rintro l' k pl b aq cq W0 Wb hl1 - hm - hfb hRtb hRl hL hrow hcc
        obtain ⟨hkl, hpl, hbb⟩ := prs_of hL
        have hbw := hfb.size
        by_cases hk0 : k = 0
        · subst hk0
          have hp0 : pl = 0 := hpl.trans (off_zero _)
          have t1 : ((pl : Int) == (0 : Int)) = true := by simp [hp0]
          have HRB := mkH hRtb
          clear hRtb hp0 hpl hbb hL hrow hba hmax hxl hkl hcc
          gi_wp2
          exact ⟨Fm.ofFr (Fr.refl _ _), HRB.out⟩
        · have hp12 : 12 ≤ pl := by rw [hpl]; exact off_pos hk0 hkl
          have t1 : ((pl : Int) == (0 : Int)) = false := by simp; omega
          have hkr : k - 1 < s.recs.length := by simp only [bod, List.length_cons] at hkl; omega
          have hbr : s.recs[k - 1]? = some b := by
            rw [hbb]
            obtain ⟨j, rfl⟩ : ∃ j, k = j + 1 := ⟨k - 1, by omega⟩
            simp only [bod, List.getD_cons_succ, Nat.add_sub_cancel] at hkr ⊢
            simp [List.getD, hkr]
          obtain ⟨cn, hcn⟩ : ∃ cn, pre.length + (k - 1) = cn := ⟨_, rfl⟩
          have hnx : pre.length + (k + 1 - 1) = cn + 1 := by omega
          have hrc : (all segs)[cn]? = some b := by
            rw [HSP.out, List.getElem?_append_left (by rw [List.length_append]; omega), List.getElem?_append_right (by omega), ← hcn, Nat.add_sub_cancel_left]
            exact hbr
          rw [hcn] at hRtb
          have hcl : cn + 1 ≤ (all segs).length := by omega
          obtain ⟨fn, tmps, assign, body, hy, hR⟩ := HY.out cn (ba + cn) b aq cq Wb Wb hRtb.j (Below.refl _ _) trivial (rcs_at hrc) hrow hcc
          have cy : Wb.cell? ⟨w.heap.size, 0, none⟩ = some (.func (.yield lp) #[] #[]) := by
            rw [cell_of_row _ _ _ _ _ _ hRtb.yb, HYV.out]; rfl
          have cn0 : Wb.cell? ⟨w.heap.size + 1, 0, none⟩ = some (.int .i64 ((ba + cn : Nat) : Int)) := by rw [cell_of_row _ _ _ _ _ _ hRtb.num]; rfl
          obtain ⟨NN, hNN⟩ : ∃ NN, ba + cn = NN := ⟨_, rfl⟩
          have hNb : NN ≤ 1000000 := by omega
          rw [hNN] at cn0 hy
          have HRB := mkH hRtb
          have HNN := mkH hNN
          have HNX := mkH hnx
          have HR := mkH hR
          obtain ⟨bl, hbl⟩ : ∃ bl, b.length = bl := ⟨_, rfl⟩
          rw [hbl] at hy
          rw [hbl]
          clear hRtb hNN hnx hL hkl hpl hbb hbr hcn hrc hR hrow hcc
          gi_wp2
          refine (round_any HR.out).mono ?_
          rintro e w3 ⟨rfl, hj3, hf3⟩
          have hnum3 : w3.heap[w.heap.size + 1]? = some (.cells #[.int .i64 (NN : Int)] 3 (0, 0)) := by
            rw [← HNN.out]; exact (hf3.heap (block_lt HRB.out.num) (fun y => by have := qlt2 _ y; omega)).trans HRB.out.num
          have cn3 : w3.cell? ⟨w.heap.size + 1, 0, none⟩ = some (.int .i64 (NN : Int)) := by rw [cell_of_row _ _ _ _ _ _ hnum3]; rfl
          have fn3 := frozen_of_row w3 (w.heap.size + 1) 0 _ _ hnum3
          clear hy cy cn0
          gi_wp2
          have hs4 := setCell_eq_setRow w3 (w.heap.size + 1) 0 _ _ (0, 0) (.int .i64 ((NN : Int) + 1)) hnum3
          have hf4 : Fr (fun q => q = w.heap.size + 1) w3 (w3.setCell ⟨w.heap.size + 1, 0, none⟩ (.int .i64 ((NN : Int) + 1))) := by
            rw [hs4]; exact (Fr.refl (fun k => k = w.heap.size + 1) w3).setRow (b := w.heap.size + 1) (.inl rfl) _
          refine ⟨((Fm.ofFr hf3).mono (fun q y => .inl y)).trans ((Fm.ofFr hf4).mono (fun q y => .inr y)), ?_⟩
          rw [HNX.out]
          refine ⟨(HRB.out.fr.trans hf3 (fun i hi => .inl hi)).trans hf4 (fun i hi => .inr (by omega)), ?_, ?_, HJ.out _ _ _ hj3 (hf4.mono (fun q y => by omega)), ⟨HRB.out.mks.1, fun D hD => ?_⟩, HRB.out.mlo⟩
          · exact (hf4.heap (Nat.lt_of_lt_of_le (block_lt HRB.out.yb) hf3.size) (by omega)).trans ((hf3.heap (block_lt HRB.out.yb) (fun y => by have := qlt2 _ y; omega)).trans HRB.out.yb)
          · rw [hs4, setRow_heap _ _ _ _ _ _ hnum3, ← Nat.add_assoc, HNN.out]
            rfl
          · have hm3 := (hf3.heap (block_lt (HRB.out.mks.2 D hD)) (fun y => by have := qlt2 _ y; have := HRB.out.mlo D hD; omega)).trans (HRB.out.mks.2 D hD)
            refine (hf4.heap (block_lt hm3) (fun y => ?_)).trans hm3
            rw [y, hnum3] at hm3
            cases hm3
      case done =>
        rintro D W' hD hRt hK
        rw [prs_len] at hRt
        have hfin : pre.length + ((bod s).length - 1) = (all (segs.take (i + 1))).length := by rw [hnxt, List.length_append]; simp [bod]
        rw [hfin] at hRt
        have hRtD : Rq w yv ba Q' J (D :: Ds) (all (segs.take (i + 1))).length W' := ⟨hRt.fr, hRt.yb, hRt.num, hRt.j, ⟨List.nodup_cons.2 ⟨fun hx => by have := hDW D hx; omega, hRt.mks.1⟩, fun E hE => by rcases List.mem_cons.1 hE with rfl | hE; exact hK; exact hRt.mks.2 E hE⟩, fun E hE => by rcases List.mem_cons.1 hE with rfl | hE; omega; exact hRt.mlo E hE⟩
        have HRD := mkH hRtD
        clear hRtD hRt hK hfin hnxt
        go_wp2_with fail
        refine ⟨⟨i + 1, D :: Ds, _, _, _, _, _, _, _, _, _, _, _, _, _, _, _, _, _, _, _, _, by omega, HRD, rfl⟩, by simp [intOf]; omega⟩
end Go.Proofs.YthmedpabgblddabGreatDoor.Tr
