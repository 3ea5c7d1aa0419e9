/-
  The frames of bytes, one behind the other: the iterator's contract, and Good.
-/
import Derived.Test.YthmedpabgblddabGreatDoorCrcN
import Derived.RangeFuncNested
import Derived.RangeFuncBound
import Derived.RangeFuncCalls
import Derived.RangeFuncLeaves
import Derived.Shelf.Abstract
import Derived.Shelf.RegionOpen
import Derived.OwnWalkIn
import Derived.TacticsInMore
import Derived.LoopNIn
import Derived.LoopIn
namespace Go.Proofs.YthmedpabgblddabGreatDoor.Cg
open Go.RowKit Go.Shelf Kt Cs Cw Cf Cn
set_option linter.unusedVariables false
attribute [local go_sem] Oper.semAt_some

/-- A frame as it is told: its place, and the slice that is its body. -/
structure El (w0 : World) where
  pl : Nat
  ao : Option Addr
  cap : Nat
  bs : List UInt8
  row : Row w0 ao bs
  h1 : pl ≤ 1000000
  h2 : bs.length ≤ 65536

/-- Frames from the place k on up to the place e. -/
def Chain {w0 : World} (bs : List UInt8) : Nat → List (El w0) → Nat → Prop
  | k, [], e => k = e
  | k, x :: xs, e => x.pl = k ∧ (Cp.fd (bs.drop k)).1 = 0 ∧ x.bs = (bs.drop (k + 12)).take (Cp.fd (bs.drop k)).2 ∧ Chain bs (k + 12 + (Cp.fd (bs.drop k)).2) xs e
theorem Chain.snoc {w0 : World} {bs : List UInt8} : ∀ {pre : List (El w0)} {k e : Nat} {x : El w0}, Chain bs k pre e → x.pl = e → (Cp.fd (bs.drop e)).1 = 0 → x.bs = (bs.drop (e + 12)).take (Cp.fd (bs.drop e)).2 → Chain bs k (pre ++ [x]) (e + 12 + (Cp.fd (bs.drop e)).2)
  | [], k, e, x, h, h1, h2, h3 => by
    have h : k = e := h
    subst h
    exact ⟨h1, h2, h3, rfl⟩
  | y :: pre, k, e, x, h, h1, h2, h3 => ⟨h.1, h.2.1, h.2.2.1, Chain.snoc h.2.2.2 h1 h2 h3⟩

/-- What a round keeps: what lay at the beginning, and the box of the iterator. -/
def Kp (n₀ Bx : Nat) (W W' : World) : Prop := Below n₀ W W' ∧ W'.heap[Bx]? = W.heap[Bx]?
theorem Kp_t {n₀ Bx : Nat} {A B C : World} (h : Kp n₀ Bx A B) (k : Kp n₀ Bx B C) : Kp n₀ Bx A C := ⟨h.1.trans k.1, k.2.trans h.2⟩
def encs {w0 : World} (x : El w0) : Array Value := #[.int .i64 (x.pl : Int), .slice x.ao x.bs.length x.cap]

theorem grown_of_below {w w' : World} (h : Below w.heap.size w w') : w.grownBy w' none := ⟨h.os, h.tape, h.output, h.size, fun k hk _ => h.block k hk⟩

theorem cell_box {W : World} {Bx : Nat} {v : Value} {T : TypeId} (h : W.heap[Bx]? = some (.cells #[v] T)) : W.cell? ⟨Bx, 0, none⟩ = some v := by
  simp only [World.cell?, h]; rfl

set_option maxRecDepth 100000 in
set_option maxHeartbeats 2000000 in
theorem frames1_stops (n : Nat) (hn : 1 ≤ n) (Bx : Nat) (T : TypeId) (w0 w : World) (ao : Option Addr) (cap : Nat) (bs : List UInt8) (hT : Tb w0) (hr : Row w0 ao bs) (hl : bs.length ≤ 1000000) (hc : bs.length ≤ cap) (hcap : cap ≤ 9223372036854775807)
    (hw : Below w0.heap.size w0 w) (hBx : w.heap[Bx]? = some (.cells #[.slice ao bs.length cap] T)) :
    SeqStopsK Fence.wide n Tryz.prog 85 #[.pointer (some ⟨Bx, 0, none⟩)] (encs (w0 := w0)) (Kp w0.heap.size Bx)
      (fun xs => ∃ e, e ≤ bs.length ∧ Chain bs 0 xs e ∧ (Cp.fd (bs.drop e)).1 ≠ 0) (fun pre => ∃ e, e ≤ bs.length ∧ Chain bs 0 pre e) (bs.length + 1) w := fun l J Jx W hW hJ hJx hY h0 => by
  have hBl : Bx < w.heap.size := (Array.getElem?_eq_some_iff.1 hBx).1
  have hBW : W.heap[Bx]? = some (.cells #[.slice ao bs.length cap] T) := (hW.block Bx hBl).trans hBx
  have hWW : Below w0.heap.size w0 W := hw.trans (hW.mono hw.size)
  refine callsIn_of_wp Tryz.func85 rfl trivial ?_ rfl
  simp only [Tryz.ntmps85, List.size_toArray, List.length_cons, List.length_nil, Nat.reduceAdd, Nat.reduceSub, Array.replicate_succ, Array.replicate_zero, List.push_toArray, List.append_toArray, List.nil_append, List.cons_append]
  gi_wp2
  gi_loopw [3] (fun i wr => ∃ (k : Nat) (pre : List (El w0)), i = .int .i64 k ∧ k ≤ bs.length ∧ pre.length ≤ k ∧ Hid (Chain bs 0 pre k) ∧ J pre wr ∧ Below w0.heap.size w0 wr ∧ wr.heap[Bx]? = some (.cells #[.slice ao bs.length cap] T) ∧ W.heap.size ≤ wr.heap.size)
    (fun i _ => bs.length + 1 - (intOf i).toNat)
  case atStart => exact ⟨0, [], rfl, Nat.zero_le _, Nat.le_refl _, rfl, h0, hWW, hBW, Nat.le_refl _⟩
  case round =>
    obtain ⟨k, pre, rfl, hk, hpl, hch, hJs, hBr, hBr2, hsz⟩ := hrel
    have hcell := cell_box hBr2
    have hBl2 : Bx < wr.heap.size := (Array.getElem?_eq_some_iff.1 hBr2).1
    gi_wp2_with fail
    refine ⟨trivial, (callsIn_wide.2 (find_all wr ao cap k bs (hT.below hBr hT.size) (hr.below hBr) hl hc hcap hk)).mono ?_⟩
    rintro e w1 ⟨hB1, ⟨h1, rfl⟩ | ⟨h1, aq, cq, hq1, hq2, rfl, hq⟩⟩
    · have hJ1 : J pre w1 := hJ pre wr w1 none hJs (grown_of_below hB1) (fun r e => by cases e)
      have t1 : (((Cp.fd (bs.drop k)).1 : Int) != 0) = true := by simp; omega
      have HE : Hid ((Cp.fd (bs.drop k)).1 ≠ 0) := h1
      clear h1 hcell
      generalize (Cp.fd (bs.drop k)).1 = ee at t1
      gi_wp2
      refine ⟨fun _ h => (by cases h), ?_⟩
      gi_wp2
      refine bodyPost_ret (results_none rfl _ _ _) rfl ?_
      exact ⟨⟨_, rfl⟩, .inl ⟨pre, ⟨k, hk, hch.out, HE.out⟩, hJ1⟩⟩
    · have hJ1 : J pre w1 := hJ pre wr w1 none hJs (grown_of_below hB1) (fun r e => by cases e)
      have hfs := Cp.fd_some h1
      have hbl := fd_body h1
      rw [List.drop_drop] at hbl
      rw [List.length_drop] at hfs
      obtain ⟨fn, tmps, assign, body, hy, hR⟩ := hY pre ⟨k, aq, cq, (bs.drop (k + 12)).take (Cp.fd (bs.drop k)).2, hq w0 hr, by omega, by omega⟩ w1 hJ1 (by omega)
      simp only [encs] at hy
      rw [hbl] at hy
      have t1 : (((Cp.fd (bs.drop k)).1 : Int) != 0) = false := by simp [h1]
      have HC : Hid (Chain bs 0 (pre ++ [(⟨k, aq, cq, (bs.drop (k + 12)).take (Cp.fd (bs.drop k)).2, hq w0 hr, by omega, by omega⟩ : El w0)]) (k + 12 + (Cp.fd (bs.drop k)).2)) := Chain.snoc hch.out rfl h1 rfl
      have hend : k + 12 + (Cp.fd (bs.drop k)).2 ≤ bs.length := by omega
      clear hcell hch
      gi_wp2
      refine hR.mono ?_
      rintro e W3 (⟨rfl, hJ3, hk3⟩ | ⟨rfl, hJx3⟩)
      · have hb3 := hBr.trans ((hB1.mono hBr.size).trans hk3.1)
        have hx3 : W3.heap[Bx]? = some (.cells #[.slice ao bs.length cap] T) := hk3.2.trans ((hB1.block Bx hBl2).trans hBr2)
        have hs3 := Nat.le_trans hsz (Nat.le_trans hB1.size hk3.1.size)
        gi_wp2
        go_roundw
        case rel => exact ⟨_, _, by go_num, hend, by simp; omega, HC, hJ3, hb3, hx3, hs3⟩
        case measure => simp [intOf]; omega
      · gi_wp2
        refine bodyPost_ret (results_none rfl _ _ _) rfl ?_
        exact ⟨⟨_, rfl⟩, .inr ⟨_, ⟨_, hend, HC.out⟩, hJx3⟩⟩

/-- Where frames end. -/
def endOf {w0 : World} (pre : List (El w0)) : Nat := match pre.getLast? with | none => 0 | some x => x.pl + 12 + x.bs.length
theorem endOf_snoc {w0 : World} (pre : List (El w0)) (x : El w0) : endOf (pre ++ [x]) = x.pl + 12 + x.bs.length := by simp [endOf]
def ends (bs : List UInt8) : Nat → Nat → Nat
  | 0, k => k
  | f + 1, k => if (Cp.fd (bs.drop k)).1 = 0 then ends bs f (k + 12 + (Cp.fd (bs.drop k)).2) else k
def gend (bs : List UInt8) : Nat := ends bs (bs.length + 1) 0
theorem Chain.len {w0 : World} {bs : List UInt8} : ∀ {xs : List (El w0)} {k e : Nat}, Chain bs k xs e → k + 12 * xs.length ≤ e
  | [], k, e, h => by have h : k = e := h; subst h; simp
  | x :: xs, k, e, h => by have := Chain.len h.2.2.2; simp only [List.length_cons]; omega
theorem Chain.ends {w0 : World} {bs : List UInt8} : ∀ {xs : List (El w0)} {k e : Nat}, Chain bs k xs e → (Cp.fd (bs.drop e)).1 ≠ 0 → ∀ f, xs.length < f → Cg.ends bs f k = e
  | [], k, e, h, hne, f, hf => by
    have h : k = e := h
    subst h
    obtain ⟨g, rfl⟩ : ∃ g, f = g + 1 := ⟨f - 1, by simp at hf; omega⟩
    rw [Cg.ends, if_neg hne]
  | x :: xs, k, e, h, hne, f, hf => by
    obtain ⟨g, rfl⟩ : ∃ g, f = g + 1 := ⟨f - 1, by simp at hf; omega⟩
    rw [Cg.ends, if_pos h.2.1]
    exact Chain.ends h.2.2.2 hne g (by simp at hf; omega)
theorem Chain.gend {w0 : World} {bs : List UInt8} {xs : List (El w0)} {e : Nat} (h : Chain bs 0 xs e) (hne : (Cp.fd (bs.drop e)).1 ≠ 0) (he : e ≤ bs.length) : Cg.gend bs = e :=
  h.ends hne _ (by have := h.len; omega)
theorem Chain.endOf {w0 : World} {bs : List UInt8} : ∀ {xs : List (El w0)} {k e : Nat}, Chain bs k xs e → xs ≠ [] → Cg.endOf xs = e
  | [x], k, e, h, _ => by
    have h4 : k + 12 + (Cp.fd (bs.drop k)).2 = e := h.2.2.2
    have h5 := fd_body h.2.1
    rw [List.drop_drop] at h5
    simp only [Cg.endOf, List.getLast?_singleton]
    rw [h.1, h.2.2.1, h5]; exact h4
  | x :: y :: xs, k, e, h, _ => by
    have := Chain.endOf h.2.2.2 (by simp)
    simpa [Cg.endOf] using this
theorem Chain.endOf0 {w0 : World} {bs : List UInt8} {xs : List (El w0)} {e : Nat} (h : Chain bs 0 xs e) : Cg.endOf xs = e := by
  cases xs with
  | nil => have h : 0 = e := h; subst h; rfl
  | cons x xs => exact h.endOf (by simp)

set_option maxHeartbeats 1000000 in
theorem frames_in (n : Nat) (a : Option Addr) (len cap : Nat) (w : World) :
    CallsIn Fence.wide n Tryz.prog 78 #[.slice a len cap] w fun e w' => e = .returned (.func (.func 85) #[] #[.pointer (some ⟨w.heap.size, 0, none⟩)]) ∧ w' = w.alloc (.cells #[.slice a len cap] 30) := by
  refine callsIn_of_wp Tryz.func78 rfl trivial ?_ rfl
  simp only [Tryz.ntmps78, List.size_toArray, List.length_cons, List.length_nil, Nat.reduceAdd, Nat.reduceSub, Array.replicate_succ, Array.replicate_zero, List.push_toArray, List.append_toArray, List.nil_append, List.cons_append]
  gi_wp2
  go_ret
  exact ⟨rfl, rfl⟩

theorem cell_new_frozen (W : World) (cs : Array Value) (t : TypeId) : (W.alloc (.cells cs t)).frozen? ⟨W.heap.size, 0, none⟩ = false := by
  have h1 := heap_alloc_new W (.cells cs t)
  simp only [World.frozen?, h1]; rfl
theorem cell_alloc_own {W : World} {a : Addr} {v : Value} (o : Obj) (h : W.cell? a = some v) : (W.alloc o).cell? a = some v := cell_kept h (World.grownBy_alloc W o none) (fun r e => by cases e)
theorem frozen_alloc_own {W : World} {a : Addr} {v : Value} (o : Obj) (h : W.cell? a = some v) (h2 : W.frozen? a = false) : (W.alloc o).frozen? a = false := (frozen_kept h (World.grownBy_alloc W o none) (fun r e => by cases e)).trans h2
theorem Kp_b {n₀ Bx : Nat} {w : World} (hn : n₀ ≤ w.heap.size) (hx : Bx < w.heap.size) (W : World) (l : Nat) (o o' : Obj) (hl : w.heap.size ≤ l) (h : W.heap[l]? = some o) (h1 : o.isCells = false) (h2 : o.isWalk = false) : Kp n₀ Bx W (W.putObj l o') :=
  ⟨belowK_b hn W l o o' hl h h1 h2, World.putObj_heap_other (by omega)⟩

def goodE (bs : List UInt8) : Nat := if gend bs = bs.length then 0 else (Cp.fd (bs.drop (gend bs))).1

set_option maxRecDepth 100000 in
set_option maxHeartbeats 2000000 in
theorem good_any (w : World) (ao : Option Addr) (cap : Nat) (bs : List UInt8) (hT : Tb w) (hr : Row w ao bs) (hl : bs.length ≤ 1000000) (hc : bs.length ≤ cap) (hcap : cap ≤ 9223372036854775807) :
    Calls Tryz.prog 71 #[.slice ao bs.length cap] w fun e W' => e = .returned (.tuple #[.int .i64 (gend bs : Nat), .int .i64 (goodE bs : Nat)]) ∧ Below w.heap.size w W' := by
  refine (callsIn_wide (n := 6)).1 ?_
  refine callsIn_of_wp_marks Tryz.func71 rfl trivial ?_ rfl
  simp only [Tryz.ntmps71, List.size_toArray, List.length_cons, List.length_nil, Nat.reduceAdd, Nat.reduceSub, Array.replicate_succ, Array.replicate_zero, List.push_toArray, List.append_toArray, List.nil_append, List.cons_append]
  gi_wp2_with fail
  refine ⟨trivial, (frames_in _ ao bs.length cap _).mono ?_⟩
  rintro e w' ⟨rfl, rfl⟩
  gi_wp2_with fail
  have hs := cell_new_at w #[.int .i64 0] 3 0 _ rfl
  have hs2 := (cell_new_frozen w #[.int .i64 0] 3)
  have hBx := heap_alloc_new (w.alloc (.cells #[.int .i64 0] 3)) (.cells #[.slice ao bs.length cap] 30)
  rw [World.size_alloc] at hBx
  have hB0 : Below w.heap.size w ((w.alloc (.cells #[.int .i64 0] 3)).alloc (.cells #[.slice ao bs.length cap] 30)) := ((Below.refl _ w).alloc (Nat.le_refl _) _).alloc (by simp) _
  refine wpIn_rangeFunc_ownF rfl (by omega) (gf := 85) (lb := #[.pointer (some ⟨w.heap.size + 1, 0, none⟩)]) rfl trivial (enters_of Tryz.func85 (by kernel_rfl) rfl)
    (frames1_stops _ (by omega) (w.heap.size + 1) 30 w _ ao cap bs hT hr hl hc hcap hB0 hBx) Kp_t (Kp_b (by simp; omega) (by simp)) (Below.refl _ _) (fun _ => rfl)
    (fun pre W => (W.cell? ⟨w.heap.size, 0, none⟩ = some (.int .i64 (endOf pre : Nat)) ∧ W.frozen? ⟨w.heap.size, 0, none⟩ = false) ∧ Below w.heap.size w W)
    (fun _ _ _ => False)
    (OwnFrom.and (Own.from (fun s A B row hs hg hr => ⟨cell_kept hs.1 hg hr, (frozen_kept hs.1 hg hr).trans hs.2⟩) _) (ownFrom_below (Nat.le_refl _) (by simp; omega)))
    (fun _ _ _ _ _ hs _ _ => hs)
    ⟨⟨cell_alloc_own _ hs, frozen_alloc_own _ hs hs2⟩, hB0⟩
    (fun x => { tmps := #[.slice ao bs.length cap, undef, .pointer (some ⟨w.heap.size, 0, none⟩), .int .i64 0, .int .i64 (x.pl : Int), .slice x.ao x.bs.length x.cap, .slice ao bs.length cap, .func (.func 85) #[] #[.pointer (some ⟨w.heap.size + 1, 0, none⟩)], .int .i64 (x.pl : Int), .slice x.ao x.bs.length x.cap, undef, undef, undef, undef, undef, undef, undef, undef, undef, undef, undef, undef, undef, undef, undef, undef, undef, undef, undef], defers := [] }) ?assign ?body ?done ?stop
  case assign =>
    intro l x W K hK
    simp only [encs]
    gi_wp2
    exact hK
  case body =>
    rintro l pre x W ⟨⟨hc1, hf1⟩, hB⟩ _
    have hx1 := x.h1
    have hx2 := x.h2
    gi_wp2
    exact ⟨KeepsOthers.setCell _ _ _, ⟨(Below.refl w.heap.size W).setCell (p := ⟨w.heap.size, 0, none⟩) (Nat.le_refl _) _, Below.heap_setCell _ _ _ _ (by simp)⟩, ⟨by rw [endOf_snoc]; have := World.cell?_setCell_same' W ⟨w.heap.size, 0, none⟩ (.int .i64 ((x.pl : Int) + 12 + (x.bs.length : Int))) (by rw [hc1]; rfl); simpa using this, by rw [World.frozen?_setCell]; exact hf1⟩, hB.setCell (p := ⟨w.heap.size, 0, none⟩) (Nat.le_refl _) _⟩
  case done =>
    rintro D ys W hD ⟨e, he, hch, hne⟩ ⟨⟨hc1, hf1⟩, hB⟩ hK
    rw [hch.endOf0] at hc1
    have HG := mkH (hch.gend hne he)
    clear hch
    by_cases hel : e = bs.length
    · have t1 : ((e : Int) == (bs.length : Int)) = true := by simp [hel]
      have HV : Hid (gend bs = bs.length ∧ goodE bs = 0) := by
        have h1 : gend bs = bs.length := HG.out.trans hel
        exact ⟨h1, by rw [goodE, if_pos h1]⟩
      subst hel
      gi_wp2
      have hK' := (KeepsOthers.setCell W ⟨w.heap.size, 0, none⟩ (.int .i64 (bs.length : Nat))).same D _ hK rfl
      refine ⟨by simp, .inl ⟨_, _, rfl, run_takeDeferred hK', ?_⟩⟩
      have hc5 := cell_kept (World.cell?_setCell_same' W ⟨w.heap.size, 0, none⟩ (.int .i64 (bs.length : Nat)) (by rw [hc1]; rfl)) (grownBy_putObj' _ D (.deferred none)) (fun r e => by cases e; exact ⟨_, hK', rfl⟩)
      refine ⟨.tuple #[.int .i64 (bs.length : Nat), .int .i64 0], ?_, by rw [HV.out.1, HV.out.2]; rfl, (hB.setCell (p := ⟨w.heap.size, 0, none⟩) (Nat.le_refl _) _).trans (belowK_b (w := w) (Nat.le_refl _) _ D _ _ (by simp at hD; omega) hK' rfl rfl)⟩
      simp [results, Tryz.f71, go_sem, hc5]
    · have t1 : ((e : Int) == (bs.length : Int)) = false := by simp; omega
      have HV : Hid (gend bs = e ∧ goodE bs = (Cp.fd (bs.drop e)).1) := by
        have h1 : gend bs = e := HG.out
        exact ⟨h1, by rw [goodE, h1, if_neg hel]⟩
      gi_wp2_with fail
      refine ⟨trivial, (callsIn_wide.2 (find_all W ao cap e bs (hT.below hB hT.size) (hr.below hB) hl hc hcap he)).mono ?_⟩
      rintro e2 w1 ⟨hB1, ⟨h1, rfl⟩ | ⟨h1, _⟩⟩
      · have hwl : w.heap.size < W.heap.size := World.block_lt_of_cell? W _ hc1
        have hc2 : w1.cell? ⟨w.heap.size, 0, none⟩ = some (.int .i64 (e : Nat)) := (hB1.cell (p := ⟨w.heap.size, 0, none⟩) hwl).trans hc1
        have hf2 : w1.frozen? ⟨w.heap.size, 0, none⟩ = false := (World.frozen?_of_block (hB1.block w.heap.size hwl)).trans hf1
        have hK1 : w1.heap[D]? = some (.deferred (some [])) := (hB1.block D (Array.getElem?_eq_some_iff.1 hK).1).trans hK
        have hBB := hB.trans (hB1.mono hB.size)
        clear hc1 hf1 hK hB hB1
        gi_wp2
        have hK' := (KeepsOthers.setCell w1 ⟨w.heap.size, 0, none⟩ (.int .i64 (e : Nat))).same D _ hK1 rfl
        refine ⟨by simp, .inl ⟨_, _, rfl, run_takeDeferred hK', ?_⟩⟩
        have hc5 := cell_kept (World.cell?_setCell_same' w1 ⟨w.heap.size, 0, none⟩ (.int .i64 (e : Nat)) (by rw [hc2]; rfl)) (grownBy_putObj' _ D (.deferred none)) (fun r e => by cases e; exact ⟨_, hK', rfl⟩)
        refine ⟨.tuple #[.int .i64 (e : Nat), .int .i64 ((Cp.fd (bs.drop e)).1 : Nat)], ?_, by rw [HV.out.1, HV.out.2], (hBB.setCell (p := ⟨w.heap.size, 0, none⟩) (Nat.le_refl _) _).trans (belowK_b (w := w) (Nat.le_refl _) _ D _ _ (by simp at hD; omega) hK' rfl rfl)⟩
        simp [results, Tryz.f71, go_sem, hc5]
      · exact (hne h1).elim
  case stop =>
    rintro D c pre W _ _ h _
    exact h.elim
end Go.Proofs.YthmedpabgblddabGreatDoor.Cg
