/-
  rising and Clients.
-/
import Derived.Test.YtenkgpfeifflnaaSeR
import Derived.RangeFuncLeaves
import Derived.RangeFuncCalls
import Derived.OwnWalkIn
import Derived.Test.YtenkgpfeifflnaaSeF
namespace Go.Proofs.Ytenkgpfeifflnaa.Scl
open Go.RowKit Go.Shelf Kt Pl Wi Wk Wa Sm Sa Sb Sc Sd Si Sk Sr
open Dk (Fr block_lt)
set_option linter.unusedVariables false
set_option linter.unusedSimpArgs false
set_option maxRecDepth 20000
attribute [local go_sem] Oper.semAt_some

theorem rising_any (w : World) (v : Value) (hv : ∃ a, v = .pointer a) : Calls Try.prog 18 #[v] w fun e w' => e = .returned (.func (.func 22) #[] #[.pointer (some ⟨w.heap.size, 0, none⟩)]) ∧ w' = w.alloc (.cells #[v] 23) := by
  obtain ⟨a, rfl⟩ := hv
  go_enter Try.func18, Try.ntmps18
  go_wp2
  go_ret
  exact ⟨rfl, rfl⟩

theorem info_I : (Try.prog.info? 3).map (fun i => (i.zero, i.size, i.bytes)) = some (some (.int .i64 0), 1, 8) := by kernel_rfl
theorem src_int (w : World) (n : Int) (t : TypeId) : Src Try.prog 1 43 (.slice (some ⟨w.heap.size, 0, none⟩) 1 1) 1 [.int .i64 n] (w.alloc (.cells #[.int .i64 n] t)) := by
  refine Src.ofSlice _ Try.underlying43 _ 1 1 _ rfl (fun j u hj => ?_) (fun u hu => by simp at hu; subst hu; rfl)
  rw [Addr.add_lit, Nat.zero_add, cell_new]
  simpa using hj
/-- What Clients hands back. -/
def ClP (w : World) (l : List E) (e : Ending) (w' : World) : Prop := ∃ ao cap, e = .returned (.slice ao l.length cap) ∧ RowI w' ao (l.map E.k) ∧ Below w.heap.size w w'

/-- The clients told so far: the box lc, and the row. -/
def Cst (lc : Nat) (xs : List X) (w0 : World) (m k : Nat) (W : World) : Prop :=
  ∃ ao cap, Bx W lc #[.slice ao k cap] 43 ∧ W.ownsRow m 3 1 (.slice ao k cap) k (iK (xs.take k)) ∧ Below lc w0 W
theorem cst_own (lc : Nat) (xs : List X) (w0 : World) (B m : Nat) (hB : lc < B) (hB0 : w0.heap.size ≤ lc) : OwnFrom B (Cst lc xs w0 m) := by
  rintro k W W' row ⟨ao, cap, h1, h2, h3⟩ hg hr
  have hne : ∀ b, (∃ cs t, W.heap[b]? = some (.cells cs t (0, 0))) → b < W.heap.size → W'.heap[b]? = W.heap[b]? := fun b ⟨cs, t, hb⟩ hlt => hg.block b hlt (fun e => by
    obtain ⟨-, o, ho, hc⟩ := hr b e.symm
    rw [hb] at ho
    cases ho
    cases hc)
  refine ⟨ao, cap, (hne lc ⟨_, _, h1⟩ h1.lt).trans h1, ⟨h2.1, ?_⟩, ?_⟩
  · rcases h2.2 with e | ⟨g, c, cur, e1, e2, e3, e4⟩
    · exact .inl e
    · exact .inr ⟨g, c, cur, e1, e2, (hne g ⟨_, _, e3⟩ (block_lt e3)).trans e3, e4⟩
  · exact ⟨hg.os.trans h3.os, hg.tape.trans h3.tape, hg.output.trans h3.output, Nat.le_trans h3.size hg.size, fun k hk => (hg.block k (Nat.lt_of_lt_of_le (by omega) h1.lt) (fun e => by have := (hr k e.symm).1; omega)).trans (h3.block k hk)⟩

theorem own_blk {w : World} {base e size n cap : Nat} {ao : Option Addr} {xs : List Value} (h : w.ownsRow base e size (.slice ao n cap) n xs) : ∀ r, Value.ownBlock (.slice ao n cap) = some r → base ≤ r := by
  intro r hr
  rcases h.2 with ⟨e1, e2⟩ | ⟨g, c, cur, e1, h1, h2, _⟩
  · rw [e1] at hr; simp [Value.ownBlock] at hr
  · rw [e1] at hr
    simp [Value.ownBlock] at hr
    omega
theorem own_set {w : World} {base e size n : Nat} {v : Value} {xs : List Value} (h : w.ownsRow base e size v n xs) {p : Addr} (hp : p.block < base) (u : Value) : (w.setCell p u).ownsRow base e size v n xs := by
  refine ⟨h.1, ?_⟩
  rcases h.2 with h1 | ⟨g, c, cur, e1, h2, h3, h4⟩
  · exact .inl h1
  · exact .inr ⟨g, c, cur, e1, h2, (heap_setCell_other w p g u (by omega)).trans h3, h4⟩
/-- 'l = append(l, x)' where l lies in a box. -/
theorem app_step {lc m k t e : Nat} {Q : Nat → Prop} {Wb W2 w0 : World} {ao : Option Addr} {cap : Nat} {v2 : Value} {L L2 : List Value} {o : Obj} (hq : Q lc) (hown : Wb.ownsRow m e 1 (.slice ao k cap) k L) (hbx : Bx Wb lc #[.slice ao k cap] t) (hlc : lc < m) (hm : m ≤ Wb.heap.size)
    (hown2 : W2.ownsRow m e 1 v2 (k + 1) L2) (hgr : (Wb.alloc o).grownBy W2 (Value.ownBlock (.slice ao k cap))) (hb : Below lc w0 Wb) (hw : w0.heap.size ≤ lc) :
    ∃ a2 c2, v2 = .slice a2 (k + 1) c2 ∧ Bx W2 lc #[.slice ao k cap] t ∧ Fm m Q Wb (W2.setCell ⟨lc, 0, none⟩ v2) ∧ Bx (W2.setCell ⟨lc, 0, none⟩ v2) lc #[v2] t ∧ (W2.setCell ⟨lc, 0, none⟩ v2).ownsRow m e 1 v2 (k + 1) L2 ∧ Below lc w0 (W2.setCell ⟨lc, 0, none⟩ v2) := by
  obtain ⟨a2, c2, rfl⟩ := own_form hown2
  have hsz : (Wb.alloc o).heap.size = Wb.heap.size + 1 := by simp
  have hblk : ∀ b, b < m → b < Wb.heap.size → W2.heap[b]? = Wb.heap[b]? := fun b h1 h2 =>
    (hgr.block b (by omega) (fun e => by have := own_blk hown b e.symm; omega)).trans (Below.heap_alloc Wb o b h2)
  have hbx2 : Bx W2 lc #[.slice ao k cap] t := (hblk lc hlc hbx.lt).trans hbx
  have hsz2 : Wb.heap.size ≤ W2.heap.size := by have := hgr.size; omega
  refine ⟨a2, c2, rfl, hbx2, ⟨hgr.os, hgr.tape, hgr.output, by simpa using hsz2, fun b h1 h2 h3 => ?_⟩, hbx2.set 0 _, own_set hown2 hlc _, ⟨hgr.os.trans hb.os, hgr.tape.trans hb.tape, hgr.output.trans hb.output, by have := hb.size; simp; omega, fun b h1 => ?_⟩⟩
  · rw [heap_setCell_other W2 ⟨lc, 0, none⟩ b _ (fun e => h3 (by simp only at e; rw [e]; exact hq))]
    exact hblk b h1 h2
  · rw [heap_setCell_other W2 ⟨lc, 0, none⟩ b _ (by simp; omega), hblk b (by omega) (by have := hbx.lt; omega)]
    exact hb.block b h1

set_option maxRecDepth 100000 in
set_option maxHeartbeats 4000000 in
theorem clients_any {w : World} {F : Nat → Prop} {T Mb : Nat} {l : List E} (ht : Tb w F T Mb l) : Calls Try.prog 12 #[.pointer (some ⟨T, 0, none⟩)] w fun e w' => ClP w l e w' := by
  obtain ⟨xs, hxs, hX⟩ := ht
  have HXS := mkH hxs
  have HX := mkH hX
  clear hxs hX
  refine (callsIn_wide (n := 12)).1 ?_
  refine callsIn_of_wp_marks Try.func12 rfl trivial ?_ rfl
  simp only [Try.ntmps12, List.size_toArray, List.length_cons, List.length_nil, Nat.reduceAdd, Nat.reduceSub, Array.replicate_succ, Array.replicate_zero, List.push_toArray, List.append_toArray, List.nil_append, List.cons_append]
  gi_wp2_with fail
  refine ⟨trivial, (callsIn_wide.2 (isMade_yes HX.out.bx)).mono ?_⟩
  rintro e w1 ⟨rfl, hw⟩
  have hw2 := hw.symm
  subst hw2
  clear hw
  gi_wp2_with fail
  refine ⟨trivial, (callsIn_wide.2 (rising_any _ _ ⟨_, rfl⟩)).mono ?_⟩
  rintro e w1 ⟨rfl, rfl⟩
  gi_wp2_with fail
  have hb0 : Below w.heap.size w ((w.alloc (.cells #[.slice none 0 0] 43)).alloc (.cells #[.pointer (some ⟨T, 0, none⟩)] 23)) := ((Below.refl _ w).alloc (Nat.le_refl _) _).alloc (by simp) _
  have hlc : Bx ((w.alloc (.cells #[.slice none 0 0] 43)).alloc (.cells #[.pointer (some ⟨T, 0, none⟩)] 23)) w.heap.size #[.slice none 0 0] 43 := (Bx.new w _ _).alloc _
  have hcb : Bx ((w.alloc (.cells #[.slice none 0 0] 43)).alloc (.cells #[.pointer (some ⟨T, 0, none⟩)] 23)) (w.heap.size + 1) #[.pointer (some ⟨T, 0, none⟩)] 23 := by
    have := Bx.new (w.alloc (.cells #[.slice none 0 0] 43)) #[.pointer (some ⟨T, 0, none⟩)] 23
    simpa using this
  have hs0 : ((w.alloc (.cells #[.slice none 0 0] 43)).alloc (.cells #[.pointer (some ⟨T, 0, none⟩)] 23)).heap.size = w.heap.size + 2 := by simp
  have hTl := HX.out.bx.lt
  have hMl := HX.out.m.lt
  generalize (w.alloc (.cells #[.slice none 0 0] 43)).alloc (.cells #[.pointer (some ⟨T, 0, none⟩)] 23) = W0 at *
  have hseq := rising_seq 11 (by omega) (fun k => k = w.heap.size) (w.heap.size + 1) (HX.out.below hb0) hcb (fun k hk => by omega) (by omega) (by omega) (by omega)
  have hln : xs.length ≤ 64 := HX.out.len
  have HB0 := mkH hb0
  have HLC := mkH hlc
  have HS0 := mkH hs0
  clear hb0 hlc hcb hs0
  have hps : ∀ x : X, (#[.int .i64 x.k, x.v] : Array Value).size = (#[10, 11] : Array Tmp).size := fun _ => rfl
  refine rfM (by omega) (gf := 22) (lb := #[.pointer (some ⟨w.heap.size + 1, 0, none⟩)]) rfl (enters_of Try.func22 (by kernel_rfl) rfl) hseq (Below.refl _ _) (fun k hk => by have := HS0.out; omega) hps
    (Cst w.heap.size xs w) (fun m => cst_own w.heap.size xs w _ m (by have := HS0.out; omega) (Nat.le_refl _)) (fun m hm => ⟨none, 0, HLC.out, World.ownsRow_nil _ _ _ _, HB0.out⟩)
    (fun x => { tmps := #[.pointer (some ⟨T, 0, none⟩), undef, .slice none 0 0, .pointer (some ⟨w.heap.size, 0, none⟩), .int .i64 x.k, .pointer (some ⟨T, 0, none⟩), .bool true, .bool false, .pointer (some ⟨T, 0, none⟩), .func (.func 22) #[] #[.pointer (some ⟨w.heap.size + 1, 0, none⟩)], .int .i64 x.k, x.v, undef, undef, undef, undef, undef], defers := [] }) ?assign ?body ?done
  case assign =>
    intro l' x W' K hK
    gi_wp2
    exact hK
  case body =>
    rintro l' m k x Wb hl1 hm hmW ⟨ao, cap, hbx, hown, hbel⟩ hx
    have hk := Wa.lt_of hx
    have c3 : Wb.cell? ⟨w.heap.size, 0, none⟩ = some (.slice ao k cap) := hbx.cell 0
    have HBX := mkH hbx
    have HOW := mkH hown
    have HBE := mkH hbel
    have HSN : Hid (iK (xs.take (k + 1)) = iK (xs.take k) ++ [.int .i64 x.k]) := mkH (by rw [List.take_add_one, hx]; simp [iK])
    obtain ⟨xk, hxk⟩ : ∃ xk, x.k = xk := ⟨_, rfl⟩
    obtain ⟨xv, hxv⟩ : ∃ xv, x.v = xv := ⟨_, rfl⟩
    rw [hxk] at HSN
    rw [hxk, hxv]
    have HSR := mkH (src_int Wb xk 3)
    have hmw2 : w.heap.size + 2 ≤ Wb.heap.size := by have := HS0.out; omega
    clear hbx hown hbel hx hxk hxv
    obtain ⟨i0, hi, hz, hsize, hby⟩ := info_parts info_I
    have hal : Below Wb.heap.size Wb (Wb.alloc (.cells #[.int .i64 xk] 3)) := (Below.refl _ _).alloc (Nat.le_refl _) _
    have c3' : (Wb.alloc (.cells #[.int .i64 xk] 3)).cell? ⟨w.heap.size, 0, none⟩ = some (.slice ao k cap) := (bx_bel HBX.out hal).cell 0
    have HAL := mkH hal
    clear hal HSR
    gi_wp2_with (gi_at_builtin; refine wpListIn_append_own _ rfl (.tmp 12) (.tmp 14) 43 rfl m 3 i0 (.int .i64 0) 1 8 Try.underlying43 hi hz hsize hby rfl (by decide) _ k _ rfl (Sf.own_bel HOW.out HAL.out) ⟨Wb.heap.size, 0, none⟩ 1 1 [.int .i64 xk] rfl rfl (fun j u hj => by rw [Addr.add_lit, Nat.zero_add, cell_new]; simpa using hj) (fun u hu => by simp at hu; subst hu; rfl) (by unfold maxLen; omega) (by omega) (by simp; omega) (fun v2 W2 hown2 hgr2 _ => ?_); obtain ⟨a2, c2, rfl, hx2, hfm, hx3, ho3, hb3⟩ := app_step (Q := fun k => k = w.heap.size) rfl HOW.out HBX.out (by have := HS0.out; omega) hmW hown2 hgr2 HBE.out (Nat.le_refl _); have c4 : W2.cell? ⟨w.heap.size, 0, none⟩ = some (.slice ao k cap) := hx2.cell 0; have f4 := hx2.frozen 0; rw [← HSN.out] at ho3; have HEND : Hid (Fm m (fun k => k = w.heap.size) Wb (W2.setCell ⟨w.heap.size, 0, none⟩ (.slice a2 (k + 1) c2)) ∧ Cst w.heap.size xs w m (k + 1) (W2.setCell ⟨w.heap.size, 0, none⟩ (.slice a2 (k + 1) c2))) := mkH ⟨hfm, a2, c2, hx3, ho3, hb3⟩; clear hown2 hgr2 hx2 hfm hx3 ho3 hb3 HBX HOW HBE HSN)
    exact HEND.out
  case done =>
    rintro D m W' hD hm ⟨ao, cap, hbx, hown, hbel⟩ hdf
    have c3 : W'.cell? ⟨w.heap.size, 0, none⟩ = some (.slice ao xs.length cap) := hbx.cell 0
    have HBX := mkH hbx
    have HOW := mkH hown
    have HBE := mkH hbel
    have HDF := mkH hdf
    clear hbx hown hbel hdf
    gi_wp2
    refine ⟨by simp, .inl ⟨_, _, rfl, run_takeDeferred HDF.out, ?_⟩⟩
    have hfp : Fr (fun k => k = D) W' (W'.putObj D (.deferred none)) := fr_put _ _ _
    refine ⟨_, results_tmp rfl _ _ _, ao, cap, ?_, ?_, ?_⟩
    · rw [len_p HXS.out]; rfl
    · have hrow := HOW.out
      rw [List.take_length] at hrow
      intro hl
      rw [List.length_map, len_p HXS.out] at hl
      rcases hrow.2 with ⟨e1, e2⟩ | ⟨g, c, cur, e1, h1, h2, h3⟩
      · omega
      · simp only [Value.slice.injEq] at e1
        obtain ⟨rfl, -, rfl⟩ := e1
        refine ⟨g, 0, rfl, fun i hi => ?_⟩
        rw [List.length_map, len_p HXS.out] at hi
        have hc := World.ownsRow.cellAt hrow i (by omega)
        have hne : g ≠ D := fun e => by
          rw [e] at h2
          have := HDF.out
          rw [h2] at this
          cases this
        rw [Nat.zero_add, World.cell?_of_block (w := W') (a := ⟨g, i, none⟩) (hfp.heap (block_lt h2) hne), hc]
        have hxi := List.getElem?_eq_getElem hi
        simp only [iK, List.getElem?_map, hxi, Option.map_some, ← HXS.out, List.map_map, List.getD, Option.getD_some]
        rfl
    · exact (HBE.out).trans ((hfp.below (fun k hk => by have := HS0.out; omega) (by have := HBE.out.size; omega)))
end Go.Proofs.Ytenkgpfeifflnaa.Scl
