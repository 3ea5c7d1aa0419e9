/-
  SeTx SeMp, joined by mrg.py.
-/
import Derived.Test.YtenkgpfeifflnaaGreatMqF
import Derived.Test.YtenkgpfeifflnaaGreatMqA
import Derived.Test.YtenkgpfeifflnaaGreatMqE
import Derived.Test.YtenkgpfeifflnaaGreatSeO

namespace Go.Proofs.YtenkgpfeifflnaaGreat.Stx
open Go.RowKit Go.Shelf Kt Pl Wi Wk Wa Sm Sa Sb Sc Sd Si Sk Sr Scl Sx Swr Scp
open Dk (Fr block_lt)
open At (RowT)
set_option linter.unusedVariables false
set_option linter.unusedSimpArgs false
set_option maxRecDepth 20000
attribute [local go_sem] Oper.semAt_some

theorem wpListIn_st {F : Fence} {n : Nat} {P : Program} {w : World} {ops : Array Oper} {rest : List Oper} {o : Oper} {a : Act} {Q : Exit → Act → World → Prop} (hgd : o.guard = none) {ty : TypeId} {x y : Operand} {b : Nat} {cs old : Array Value} {t : TypeId} (ho : o.op = .store ty x y) (hx : a.eval x = .pointer (some ⟨b, 0, none⟩)) (hy : a.eval y = .agg cs) (hg : Bx w b old t) (hi : (P.info? ty).map (·.size) = some cs.size) (hold : old.size = cs.size) (h1 : cs.all (fun x => x.oneCell') = true)
    (h : wpListIn F n P ops Q rest (a.put o.dst undef) (w.setRow b cs)) : wpListIn F n P ops Q (o :: rest) a w := by
  refine wpListIn_plain hgd fun K hK' => ?_
  unfold Oper.wpIn
  refine ⟨?_, ?_⟩
  · simp [Oper.about, ho]
  · rw [Oper.semAt_plain F _ _ (by rw [ho]; intro c hc'; cases hc')]
    rcases run_st (P := P) ho hx hy hg hi hold h1 with e | e <;> rw [e] <;> exact hK' _ _ h
def vcs (x : X) : Array Value := #[.int .i64 x.p.n, .int .i64 x.p.r.err, .int .i64 x.p.r.seq, .int .i64 x.p.r.n, .slice x.ga x.p.r.got.length x.gc, .slice x.da x.p.r.data.length x.dc, .slice x.ra x.p.r.about.length x.rc]
theorem vcs_one (x : X) : (vcs x).all (fun x => x.oneCell') = true := by unfold vcs; rw [List.all_toArray]; rfl
theorem vcs_info (x : X) : (Tryz.prog.info? 69).map (·.size) = some (vcs x).size := infoA
theorem dump1_any (w : World) (r : Rp) (ga : Option Addr) (gc : Nat) (da : Option Addr) (dc : Nat) (ra : Option Addr) (rc : Nat) : Calls Tryz.prog 41 #[.agg (Pv r ga gc da dc ra rc)] w fun e w' => e = .returned (.bool (r.data.length == 0)) ∧ Below w.heap.size w w' := by
  have HB : Hid (Below w.heap.size w (w.alloc (.cells (Pv r ga gc da dc ra rc) 34))) := mkH ((Below.refl _ w).alloc (Nat.le_refl _) _)
  have c4 : (w.alloc (.cells (Pv r ga gc da dc ra rc) 34)).cell? ⟨w.heap.size, 4, none⟩ = some (.slice da r.data.length dc) := (Bx.new w (Pv r ga gc da dc ra rc) 34).cell 4
  have hq : (((r.data.length : Int) == 0) : Bool) = (r.data.length == 0) := by
    cases h : r.data.length <;> simp <;> omega
  go_enter Tryz.func41, Tryz.ntmps41
  go_wp2
  go_ret
  exact ⟨by first | rfl | (rw [← hq]) | simp [hq], HB.out⟩
theorem all1_any (w : World) (r : Rp) (ga : Option Addr) (gc : Nat) (da : Option Addr) (dc : Nat) (ra : Option Addr) (rc : Nat) : Calls Tryz.prog 42 #[.agg (Pv r ga gc da dc ra rc)] w fun e w' => e = .returned (.bool true) ∧ Below w.heap.size w w' := by
  have HB : Hid (Below w.heap.size w (w.alloc (.cells (Pv r ga gc da dc ra rc) 34))) := mkH ((Below.refl _ w).alloc (Nat.le_refl _) _)
  go_enter Tryz.func42, Tryz.ntmps42
  go_wp2
  go_ret
  exact ⟨rfl, HB.out⟩
/-- 'l = append(l, x)' where l lies in a box. -/
theorem app_step2 {lc m k t e : Nat} {Q : Nat → Prop} {Wb W2 w0 : World} {ao : Option Addr} {cap : Nat} {v2 : Value} {L L2 : List Value} {o : Obj} (hq : Q lc) (hown : Wb.ownsRow m e 1 (.slice ao k cap) k L) (hbx : Bx Wb lc #[.slice ao k cap] t) (hlc : lc < m) (hm : m ≤ Wb.heap.size)
    (hown2 : W2.ownsRow m e 1 v2 (k + 1) L2) (hgr : (Wb.alloc o).grownBy W2 (Value.ownBlock (.slice ao k cap))) (hb : Below lc w0 Wb) :
    ∃ a2 c2, v2 = .slice a2 (k + 1) c2 ∧ Bx W2 lc #[.slice ao k cap] t ∧ Fm m Q Wb (W2.setCell ⟨lc, 0, none⟩ v2) ∧ Bx (W2.setCell ⟨lc, 0, none⟩ v2) lc #[v2] t ∧ (W2.setCell ⟨lc, 0, none⟩ v2).ownsRow m e 1 v2 (k + 1) L2 ∧ Below lc w0 (W2.setCell ⟨lc, 0, none⟩ v2) := by
  obtain ⟨a2, c2, rfl⟩ := own_form hown2
  have hsz : (Wb.alloc o).heap.size = Wb.heap.size + 1 := by simp
  have hblk : ∀ b, b < m → b < Wb.heap.size → W2.heap[b]? = Wb.heap[b]? := fun b h1 h2 =>
    (hgr.block b (by omega) (fun e => by have := own_blk hown b e.symm; omega)).trans (Below.heap_alloc Wb o b h2)
  have hbx2 : Bx W2 lc #[.slice ao k cap] t := (hblk lc hlc hbx.lt).trans hbx
  have hsz2 : Wb.heap.size ≤ W2.heap.size := by have := hgr.size; omega
  refine ⟨a2, c2, rfl, hbx2, ⟨hgr.os, hgr.tape, hgr.output, by simpa using hsz2, fun b h1 h2 h3 => ?_⟩, hbx2.set 0 _, own_set hown2 hlc _, ⟨hgr.os.trans hb.os, hgr.tape.trans hb.tape, hgr.output.trans hb.output, by have := hb.size; simp; omega, fun b h1 => ?_⟩⟩
  · rw [heap_setCell_other W2 ⟨lc, 0, none⟩ b _ (fun e => h3 (by simp only at e; rw [e]; exact hq))]
    exact hblk b h1 h2
  · rw [heap_setCell_other W2 ⟨lc, 0, none⟩ b _ (by simp; omega), hblk b (by omega) (by have := hbx.lt; omega)]
    exact hb.block b h1
/-- The texts told so far: the box lc, and the row. -/
def Dst (f : Rp → Bool) (lc : Nat) (xs : List X) (w0 : World) (m k : Nat) (W : World) : Prop :=
  ∃ ao j cap, Bx W lc #[.slice ao j cap] 29 ∧ W.ownsRow m 9 1 (.slice ao j cap) j (T (texts f ((xs.take k).map X.p))) ∧ Below lc w0 W
theorem dst_own (f : Rp → Bool) (lc : Nat) (xs : List X) (w0 : World) (B m : Nat) (hB : lc < B) : OwnFrom B (Dst f lc xs w0 m) := by
  rintro k W W' row ⟨ao, j, cap, h1, h2, h3⟩ hg hr
  have hne : ∀ b, (∃ cs t, W.heap[b]? = some (.cells cs t (0, 0))) → b < W.heap.size → W'.heap[b]? = W.heap[b]? := fun b ⟨cs, t, hb⟩ hlt => hg.block b hlt (fun e => by
    obtain ⟨-, o, ho, hc⟩ := hr b e.symm
    rw [hb] at ho
    cases ho
    cases hc)
  refine ⟨ao, j, cap, (hne lc ⟨_, _, h1⟩ h1.lt).trans h1, ⟨h2.1, ?_⟩, ?_⟩
  · rcases h2.2 with e | ⟨g, c, cur, e1, e2, e3, e4⟩
    · exact .inl e
    · exact .inr ⟨g, c, cur, e1, e2, (hne g ⟨_, _, e3⟩ (block_lt e3)).trans e3, e4⟩
  · exact ⟨hg.os.trans h3.os, hg.tape.trans h3.tape, hg.output.trans h3.output, Nat.le_trans h3.size hg.size, fun k hk => (hg.block k (Nat.lt_of_lt_of_le (by omega) h1.lt) (fun e => by have := (hr k e.symm).1; omega)).trans (h3.block k hk)⟩
theorem tx_snoc (f : Rp → Bool) {xs : List X} {k : Nat} {x : X} (h : xs[k]? = some x) : texts f ((xs.take (k + 1)).map X.p) = texts f ((xs.take k).map X.p) ++ (if okW f x.p = true then [encE x.p] else []) := by
  rw [List.take_add_one, h]
  simp only [Option.toList_some, List.map_append, List.map_cons, List.map_nil, texts, List.filter_append]
  by_cases hc : okW f x.p = true
  · rw [if_pos hc, List.filter_cons_of_pos hc]; rfl
  · rw [if_neg hc, List.filter_cons_of_neg hc]; rfl
/-- What Dump hands back. -/
def DuP (w : World) (ts : List Bs) (e : Ending) (w' : World) : Prop := ∃ ao cap, e = .returned (.slice ao ts.length cap) ∧ ts.length ≤ cap ∧ cap ≤ 9223372036854775807 ∧ RowT w' ao ts ∧ Below w.heap.size w w'

set_option maxRecDepth 100000 in
set_option maxHeartbeats 8000000 in
theorem textsD_any {w : World} {F : Nat → Prop} {T0 Mb : Nat} {l : List E} (ht : Tb w F T0 Mb l) : Calls Tryz.prog 40 #[.pointer (some ⟨T0, 0, none⟩), .func (.func 41) #[] #[]] w fun e w' => DuP w (texts (fun r => r.data.length == 0) l) e w' := by
  obtain ⟨xs, hxs, hX⟩ := ht
  have HXS := mkH hxs
  have HX := mkH hX
  clear hxs hX
  refine (callsIn_wide (n := 12)).1 ?_
  refine callsIn_of_wp_marks Tryz.func40 rfl trivial ?_ rfl
  simp only [Tryz.ntmps40, List.size_toArray, List.length_cons, List.length_nil, Nat.reduceAdd, Nat.reduceSub, Array.replicate_succ, Array.replicate_zero, List.push_toArray, List.append_toArray, List.nil_append, List.cons_append]
  gi_wp2_with fail
  have hb1 : Below w.heap.size w (w.alloc (.cells #[.func (.func 41) #[] #[]] 90)) := (Below.refl _ w).alloc (Nat.le_refl _) _
  refine ⟨trivial, (callsIn_wide.2 (isMade_yes (HX.out.below hb1).bx)).mono ?_⟩
  rintro e w1 ⟨rfl, hw⟩
  have hw2 := hw.symm
  subst hw2
  clear hw
  gi_wp2_with fail
  refine ⟨trivial, (callsIn_wide.2 (rising_any _ _ ⟨_, rfl⟩)).mono ?_⟩
  rintro e w1 ⟨rfl, rfl⟩
  gi_wp2_with fail
  have hb0 : Below w.heap.size w (((w.alloc (.cells #[.func (.func 41) #[] #[]] 90)).alloc (.cells #[.slice none 0 0] 29)).alloc (.cells #[.pointer (some ⟨T0, 0, none⟩)] 23)) := (hb1.alloc (by simp) _).alloc (by simp; omega) _
  have hfb : Bx (((w.alloc (.cells #[.func (.func 41) #[] #[]] 90)).alloc (.cells #[.slice none 0 0] 29)).alloc (.cells #[.pointer (some ⟨T0, 0, none⟩)] 23)) w.heap.size #[.func (.func 41) #[] #[]] 90 := ((Bx.new w _ _).alloc _).alloc _
  have hlc : Bx (((w.alloc (.cells #[.func (.func 41) #[] #[]] 90)).alloc (.cells #[.slice none 0 0] 29)).alloc (.cells #[.pointer (some ⟨T0, 0, none⟩)] 23)) (w.heap.size + 1) #[.slice none 0 0] 29 := by
    have := (Bx.new (w.alloc (.cells #[.func (.func 41) #[] #[]] 90)) #[.slice none 0 0] 29).alloc (.cells #[.pointer (some ⟨T0, 0, none⟩)] 23)
    simpa using this
  have hcb : Bx (((w.alloc (.cells #[.func (.func 41) #[] #[]] 90)).alloc (.cells #[.slice none 0 0] 29)).alloc (.cells #[.pointer (some ⟨T0, 0, none⟩)] 23)) (w.heap.size + 1 + 1) #[.pointer (some ⟨T0, 0, none⟩)] 23 := by
    have := Bx.new ((w.alloc (.cells #[.func (.func 41) #[] #[]] 90)).alloc (.cells #[.slice none 0 0] 29)) #[.pointer (some ⟨T0, 0, none⟩)] 23
    simpa using this
  have hs0 : (((w.alloc (.cells #[.func (.func 41) #[] #[]] 90)).alloc (.cells #[.slice none 0 0] 29)).alloc (.cells #[.pointer (some ⟨T0, 0, none⟩)] 23)).heap.size = w.heap.size + 3 := by simp
  have hTl := HX.out.bx.lt
  have hMl := HX.out.m.lt
  generalize ((w.alloc (.cells #[.func (.func 41) #[] #[]] 90)).alloc (.cells #[.slice none 0 0] 29)).alloc (.cells #[.pointer (some ⟨T0, 0, none⟩)] 23) = W0 at *
  have hseq := rising_seq 11 (by omega) (fun k => k = w.heap.size + 1) (w.heap.size + 1 + 1) (HX.out.below hb0) hcb (fun k hk => by omega) (by omega) (by omega) (by omega)
  have hln : xs.length ≤ 64 := HX.out.len
  have HB0 := mkH hb0
  have HLC := mkH hlc
  have HFB := mkH hfb
  have HS0 := mkH hs0
  have HBL : Hid (Below (w.heap.size + 1) W0 W0) := mkH (Below.refl _ _)
  clear hb0 hlc hcb hs0 hb1 hfb
  have hps : ∀ x : X, (#[.int .i64 x.k, x.v] : Array Value).size = (#[15, 16] : Array Tmp).size := fun _ => rfl
  refine rfN (by omega) (gf := 60) (lb := #[.pointer (some ⟨w.heap.size + 1 + 1, 0, none⟩)]) rfl (enters_of Tryz.func60 (by kernel_rfl) rfl) hseq (Below.refl _ _) (fun k hk => by have := HS0.out; omega) hps
    (Dst (fun r => r.data.length == 0) (w.heap.size + 1) xs W0) (fun m => dst_own _ (w.heap.size + 1) xs W0 _ m (by have := HS0.out; omega)) (fun m hm => ⟨none, 0, 0, HLC.out, by simpa [texts, T] using World.ownsRow_nil W0 _ _ _, HBL.out⟩)
    (fun x a' W => ∃ b, a' = { tmps := #[.pointer (some ⟨T0, 0, none⟩), .func (.func 41) #[] #[], undef, .pointer (some ⟨w.heap.size, 0, none⟩), .slice none 0 0, .pointer (some ⟨w.heap.size + 1, 0, none⟩), .int .i64 x.k, .pointer (some ⟨b, 0, none⟩), undef, undef, .pointer (some ⟨T0, 0, none⟩), .bool true, .bool false, .pointer (some ⟨T0, 0, none⟩), .func (.func 60) #[] #[.pointer (some ⟨w.heap.size + 1 + 1, 0, none⟩)], .int .i64 x.k, x.v, undef, undef, undef, undef, undef, undef, undef, undef, undef, undef, undef, undef, undef, undef, undef, undef, undef, undef], defers := [] } ∧ Bx W b (vcs x) 69)
    (fun x a' => ?hA) ?assign ?body ?done
  case hA =>
    rintro - W W' row ⟨b, e, hb⟩ hg hr
    refine ⟨b, e, (hg.block b hb.lt (fun e => ?_)).trans hb⟩
    obtain ⟨-, o, ho, hc⟩ := hr b e.symm
    rw [show W.heap[b]? = _ from hb] at ho
    cases ho
    cases hc
  case assign =>
    intro l' x W' K hK
    have HK := mkH hK
    have hxv : x.v = .agg (vcs x) := rfl
    rw [hxv]
    have HZ := mkH (Bx.new W' zA7 69)
    gi_wp2_with (refine wpListIn_st rfl (ty := 69) (x := .tmp 7) (y := .tmp 16) (b := W'.heap.size) (cs := vcs x) (old := zA7) rfl rfl rfl HZ.out (vcs_info x) rfl (vcs_one x) ?_)
    exact HK.out _ _ (bel_setRow ((Below.refl _ _).alloc (Nat.le_refl _) _) (Nat.le_refl _) _) ⟨W'.heap.size, rfl, HZ.out.row rfl⟩
  case body =>
    rintro l' m k x a' Wb hl1 hm hmW ⟨ao, j, cap, hbx, hown, hbel⟩ ⟨b, rfl, hbb⟩ hx
    have hk := Wa.lt_of hx
    have hmem := List.mem_of_getElem? hx
    obtain ⟨hxm, hxc, -, hxk, hxn⟩ := HX.out.r x hmem
    have hbw : Below w.heap.size w Wb := HB0.out.trans (hbel.mono (Nat.le_succ _))
    have HM := mkH (hxm.below hbw)
    have HC := mkH hxc
    have HKN := mkH (And.intro hxk hxn)
    have hjl : j ≤ k := by
      have h1 := hown.1
      rw [T_length] at h1
      have h2 : (texts (fun r => r.data.length == 0) ((xs.take k).map X.p)).length ≤ k := by
        unfold texts
        rw [List.length_map]
        refine Nat.le_trans (List.length_filter_le _ _) ?_
        rw [List.length_map, List.length_take]
        omega
      omega
    have cf : Wb.cell? ⟨w.heap.size, 0, none⟩ = some (.func (.func 41) #[] #[]) := (HFB.out.below hbel (Nat.lt_succ_self _)).cell 0
    have q0 : Wb.cell? ⟨b, 0, none⟩ = some (.int .i64 x.p.n) := hbb.cell 0
    have q1 : Wb.cell? ⟨b, 1, none⟩ = some (.int .i64 x.p.r.err) := hbb.cell 1
    have q2 : Wb.cell? ⟨b, 2, none⟩ = some (.int .i64 x.p.r.seq) := hbb.cell 2
    have q3 : Wb.cell? ⟨b, 3, none⟩ = some (.int .i64 x.p.r.n) := hbb.cell 3
    have q4 : Wb.cell? ⟨b, 4, none⟩ = some (.slice x.ga x.p.r.got.length x.gc) := hbb.cell 4
    have q5 : Wb.cell? ⟨b, 5, none⟩ = some (.slice x.da x.p.r.data.length x.dc) := hbb.cell 5
    have q6 : Wb.cell? ⟨b, 6, none⟩ = some (.slice x.ra x.p.r.about.length x.rc) := hbb.cell 6
    have HTX := mkH (tx_snoc (fun r => r.data.length == 0) hx)
    have HBX := mkH hbx
    have HOW := mkH hown
    have HBE := mkH hbel
    have HBB := mkH hbb
    clear hbx hown hbel hbb hx hmem hxm hxc hxk hxn hbw
    gi_wp2_with fail
    refine ⟨trivial, (CallsIn.inRound l' (callsIn_wide.2 (dump1_any Wb x.p.r x.ga x.gc x.da x.dc x.ra x.rc))).mono ?_⟩
    rintro e W3 ⟨rfl, hb3⟩
    have HB3 := mkH hb3
    have HX3 := mkH (bx_bel HBX.out hb3)
    have HO3 := mkH (Sf.own_bel HOW.out hb3)
    have HE3 := mkH (HBE.out.trans (hb3.mono (by have := HS0.out; omega)))
    have HM3 := mkH (HM.out.below hb3)
    have hbb3 := bx_bel HBB.out hb3
    have r0 : W3.cell? ⟨b, 0, none⟩ = some (.int .i64 x.p.n) := hbb3.cell 0
    have r1 : W3.cell? ⟨b, 1, none⟩ = some (.int .i64 x.p.r.err) := hbb3.cell 1
    have r2 : W3.cell? ⟨b, 2, none⟩ = some (.int .i64 x.p.r.seq) := hbb3.cell 2
    have r3 : W3.cell? ⟨b, 3, none⟩ = some (.int .i64 x.p.r.n) := hbb3.cell 3
    have r4 : W3.cell? ⟨b, 4, none⟩ = some (.slice x.ga x.p.r.got.length x.gc) := hbb3.cell 4
    have r5 : W3.cell? ⟨b, 5, none⟩ = some (.slice x.da x.p.r.data.length x.dc) := hbb3.cell 5
    have r6 : W3.cell? ⟨b, 6, none⟩ = some (.slice x.ra x.p.r.about.length x.rc) := hbb3.cell 6
    clear hb3 hbb3 q0 q1 q2 q3 q4 q5 q6 cf HBX HOW HM
    cases hwn : (x.p.r.data.length == 0) with
    | true =>
      gi_wp2_with fail
      refine ⟨trivial, (CallsIn.inRound l' (callsIn_wide.2 (write_any W3 x HM3.out HC.out HKN.out.1 HKN.out.2))).mono ?_⟩
      rintro e W4 ⟨hb4, ⟨hck, rfl⟩ | ⟨hck, er, hne, rfl⟩⟩
      · have HX4 := mkH (bx_bel HX3.out hb4)
        have HO4 := mkH (Sf.own_bel HO3.out hb4)
        have HE4 := mkH (HE3.out.trans (hb4.mono (by have := HB3.out.size; have := HS0.out; omega)))
        have HF4 : Hid (Fm m (fun k => k = w.heap.size + 1) Wb W4) := mkH (Fm.ofFr (Fr.ofBelow (HB3.out.trans (hb4.mono HB3.out.size))))
        have hs4 : m ≤ W4.heap.size := by have := HB3.out.size; have := hb4.size; omega
        have HTK : Hid (texts (fun r => r.data.length == 0) ((xs.take (k + 1)).map X.p) = texts (fun r => r.data.length == 0) ((xs.take k).map X.p) ++ [encE x.p]) := mkH (by rw [HTX.out, if_pos (by unfold okW; simp [hwn, hck])])
        have c4 : W4.cell? ⟨w.heap.size + 1, 0, none⟩ = some (.slice ao j cap) := HX4.out.cell 0
        obtain ⟨tv, htv⟩ : ∃ tv, encE x.p = tv := ⟨_, rfl⟩
        rw [htv] at HTK
        rw [htv]
        have hal : Below W4.heap.size W4 (W4.alloc (.cells #[.string (S tv)] 9)) := (Below.refl _ _).alloc (Nat.le_refl _) _
        have c4' : (W4.alloc (.cells #[.string (S tv)] 9)).cell? ⟨w.heap.size + 1, 0, none⟩ = some (.slice ao j cap) := (bx_bel HX4.out hal).cell 0
        have HAL := mkH hal
        obtain ⟨i0, hi, hz, hsize, hby⟩ := info_parts info_S
        have hlc : w.heap.size + 1 < m := by have := HS0.out; omega
        clear hal hb4 hck htv HTX
        gi_wp2_with (gi_at_builtin; refine wpListIn_append_own _ rfl (.tmp 30) (.tmp 32) 29 rfl m 9 i0 (.string ⟨#[]⟩) 1 16 Tryz.underlying29 hi hz hsize hby rfl (by decide) _ j _ rfl (Sf.own_bel HO4.out HAL.out) ⟨W4.heap.size, 0, none⟩ 1 1 [.string (S tv)] rfl rfl (fun j u hj => by rw [Addr.add_lit, Nat.zero_add, cell_new]; simpa using hj) (fun u hu => by simp at hu; subst hu; rfl) (by unfold maxLen; omega) (by omega) (by simp; omega) (fun v2 W5 hown2 hgr2 _ => ?_); obtain ⟨a2, c2, rfl, hx2, hfm, hx3, ho3, hb5⟩ := app_step2 (Q := fun k => k = w.heap.size + 1) rfl HO4.out HX4.out hlc hs4 hown2 hgr2 HE4.out; have c5 : W5.cell? ⟨w.heap.size + 1, 0, none⟩ = some (.slice ao j cap) := hx2.cell 0; have f5 := hx2.frozen 0; have ho4 : (W5.setCell ⟨w.heap.size + 1, 0, none⟩ (.slice a2 (j + 1) c2)).ownsRow m 9 1 (.slice a2 (j + 1) c2) (j + 1) (T (texts (fun r => r.data.length == 0) ((xs.take (k + 1)).map X.p))) := (by rw [HTK.out, T_append]; exact ho3); have HEND : Hid (Fm m (fun k => k = w.heap.size + 1) Wb (W5.setCell ⟨w.heap.size + 1, 0, none⟩ (.slice a2 (j + 1) c2)) ∧ Dst (fun r => r.data.length == 0) (w.heap.size + 1) xs W0 m (k + 1) (W5.setCell ⟨w.heap.size + 1, 0, none⟩ (.slice a2 (j + 1) c2))) := mkH ⟨HF4.out.trans hfm, a2, j + 1, c2, hx3, ho4, hb5⟩; clear hown2 hgr2 hx2 hfm hx3 ho3 ho4 hb5)
        exact HEND.out
      · have HX4 := mkH (bx_bel HX3.out hb4)
        have HO4 := mkH (Sf.own_bel HO3.out hb4)
        have HE4 := mkH (HE3.out.trans (hb4.mono (by have := HB3.out.size; have := HS0.out; omega)))
        have HF4 : Hid (Fm m (fun k => k = w.heap.size + 1) Wb W4) := mkH (Fm.ofFr (Fr.ofBelow (HB3.out.trans (hb4.mono HB3.out.size))))
        have HTK : Hid (texts (fun r => r.data.length == 0) ((xs.take (k + 1)).map X.p) = texts (fun r => r.data.length == 0) ((xs.take k).map X.p)) := mkH (by rw [HTX.out, if_neg (by unfold okW; simp [hck]), List.append_nil])
        have hne2 : (er == 0) = false := by simpa using hne
        clear hb4 hck HTX
        gi_wp2
        exact ⟨HF4.out, ao, j, cap, HX4.out, by rw [HTK.out]; exact HO4.out, HE4.out⟩
    | false =>
      have HTK : Hid (texts (fun r => r.data.length == 0) ((xs.take (k + 1)).map X.p) = texts (fun r => r.data.length == 0) ((xs.take k).map X.p)) := mkH (by rw [HTX.out, if_neg (by unfold okW; simp [hwn]), List.append_nil])
      have HF4 : Hid (Fm m (fun k => k = w.heap.size + 1) Wb W3) := mkH (Fm.ofFr (Fr.ofBelow HB3.out))
      clear HTX
      gi_wp2
      exact ⟨HF4.out, ao, j, cap, HX3.out, by rw [HTK.out]; exact HO3.out, HE3.out⟩
  case done =>
    rintro D m W' hD hm ⟨ao, j, cap, hbx, hown, hbel⟩ hdf
    have c3 : W'.cell? ⟨w.heap.size + 1, 0, none⟩ = some (.slice ao j cap) := hbx.cell 0
    have HBX := mkH hbx
    rw [List.take_length] at hown
    have HOW := mkH hown
    have HBE := mkH hbel
    have HDF := mkH hdf
    clear hbx hown hbel hdf
    gi_wp2
    refine ⟨by simp, .inl ⟨_, _, rfl, run_takeDeferred HDF.out, ?_⟩⟩
    have hfp : Fr (fun k => k = D) W' (W'.putObj D (.deferred none)) := fr_put _ _ _
    have hrow := HOW.out
    rw [HXS.out] at hrow
    obtain ⟨hjl, hjc, hrt⟩ := RowT.own hrow
    have hcb : cap ≤ 9223372036854775807 := by
      rcases hrow.2 with ⟨e1, e2⟩ | ⟨g, c, cur, e1, h1, h2, h3, h4, _⟩
      · simp only [Value.slice.injEq] at e1; omega
      · simp only [Value.slice.injEq] at e1
        obtain ⟨-, -, rfl⟩ := e1
        unfold maxLen at h4
        omega
    refine ⟨_, results_tmp rfl _ _ _, ao, cap, by rw [← hjl]; rfl, by omega, hcb, ?_, ?_⟩
    · refine rowT_fr hrt hfp (fun a v hc _ e => ?_)
      obtain ⟨blk, off, sp⟩ := a
      simp only at e
      subst e
      simp only [World.cell?, HDF.out] at hc
      cases hc
    · exact HB0.out.trans ((HBE.out.mono (Nat.le_succ _)).trans (hfp.below (fun k hk => by have := HS0.out; omega) (by have := HBE.out.size; have := HS0.out; omega)))

set_option maxRecDepth 100000 in
set_option maxHeartbeats 8000000 in
theorem textsA_any {w : World} {F : Nat → Prop} {T0 Mb : Nat} {l : List E} (ht : Tb w F T0 Mb l) : Calls Tryz.prog 40 #[.pointer (some ⟨T0, 0, none⟩), .func (.func 42) #[] #[]] w fun e w' => DuP w (texts (fun _ => true) l) e w' := by
  obtain ⟨xs, hxs, hX⟩ := ht
  have HXS := mkH hxs
  have HX := mkH hX
  clear hxs hX
  refine (callsIn_wide (n := 12)).1 ?_
  refine callsIn_of_wp_marks Tryz.func40 rfl trivial ?_ rfl
  simp only [Tryz.ntmps40, List.size_toArray, List.length_cons, List.length_nil, Nat.reduceAdd, Nat.reduceSub, Array.replicate_succ, Array.replicate_zero, List.push_toArray, List.append_toArray, List.nil_append, List.cons_append]
  gi_wp2_with fail
  have hb1 : Below w.heap.size w (w.alloc (.cells #[.func (.func 42) #[] #[]] 90)) := (Below.refl _ w).alloc (Nat.le_refl _) _
  refine ⟨trivial, (callsIn_wide.2 (isMade_yes (HX.out.below hb1).bx)).mono ?_⟩
  rintro e w1 ⟨rfl, hw⟩
  have hw2 := hw.symm
  subst hw2
  clear hw
  gi_wp2_with fail
  refine ⟨trivial, (callsIn_wide.2 (rising_any _ _ ⟨_, rfl⟩)).mono ?_⟩
  rintro e w1 ⟨rfl, rfl⟩
  gi_wp2_with fail
  have hb0 : Below w.heap.size w (((w.alloc (.cells #[.func (.func 42) #[] #[]] 90)).alloc (.cells #[.slice none 0 0] 29)).alloc (.cells #[.pointer (some ⟨T0, 0, none⟩)] 23)) := (hb1.alloc (by simp) _).alloc (by simp; omega) _
  have hfb : Bx (((w.alloc (.cells #[.func (.func 42) #[] #[]] 90)).alloc (.cells #[.slice none 0 0] 29)).alloc (.cells #[.pointer (some ⟨T0, 0, none⟩)] 23)) w.heap.size #[.func (.func 42) #[] #[]] 90 := ((Bx.new w _ _).alloc _).alloc _
  have hlc : Bx (((w.alloc (.cells #[.func (.func 42) #[] #[]] 90)).alloc (.cells #[.slice none 0 0] 29)).alloc (.cells #[.pointer (some ⟨T0, 0, none⟩)] 23)) (w.heap.size + 1) #[.slice none 0 0] 29 := by
    have := (Bx.new (w.alloc (.cells #[.func (.func 42) #[] #[]] 90)) #[.slice none 0 0] 29).alloc (.cells #[.pointer (some ⟨T0, 0, none⟩)] 23)
    simpa using this
  have hcb : Bx (((w.alloc (.cells #[.func (.func 42) #[] #[]] 90)).alloc (.cells #[.slice none 0 0] 29)).alloc (.cells #[.pointer (some ⟨T0, 0, none⟩)] 23)) (w.heap.size + 1 + 1) #[.pointer (some ⟨T0, 0, none⟩)] 23 := by
    have := Bx.new ((w.alloc (.cells #[.func (.func 42) #[] #[]] 90)).alloc (.cells #[.slice none 0 0] 29)) #[.pointer (some ⟨T0, 0, none⟩)] 23
    simpa using this
  have hs0 : (((w.alloc (.cells #[.func (.func 42) #[] #[]] 90)).alloc (.cells #[.slice none 0 0] 29)).alloc (.cells #[.pointer (some ⟨T0, 0, none⟩)] 23)).heap.size = w.heap.size + 3 := by simp
  have hTl := HX.out.bx.lt
  have hMl := HX.out.m.lt
  generalize ((w.alloc (.cells #[.func (.func 42) #[] #[]] 90)).alloc (.cells #[.slice none 0 0] 29)).alloc (.cells #[.pointer (some ⟨T0, 0, none⟩)] 23) = W0 at *
  have hseq := rising_seq 11 (by omega) (fun k => k = w.heap.size + 1) (w.heap.size + 1 + 1) (HX.out.below hb0) hcb (fun k hk => by omega) (by omega) (by omega) (by omega)
  have hln : xs.length ≤ 64 := HX.out.len
  have HB0 := mkH hb0
  have HLC := mkH hlc
  have HFB := mkH hfb
  have HS0 := mkH hs0
  have HBL : Hid (Below (w.heap.size + 1) W0 W0) := mkH (Below.refl _ _)
  clear hb0 hlc hcb hs0 hb1 hfb
  have hps : ∀ x : X, (#[.int .i64 x.k, x.v] : Array Value).size = (#[15, 16] : Array Tmp).size := fun _ => rfl
  refine rfN (by omega) (gf := 60) (lb := #[.pointer (some ⟨w.heap.size + 1 + 1, 0, none⟩)]) rfl (enters_of Tryz.func60 (by kernel_rfl) rfl) hseq (Below.refl _ _) (fun k hk => by have := HS0.out; omega) hps
    (Dst (fun _ => true) (w.heap.size + 1) xs W0) (fun m => dst_own _ (w.heap.size + 1) xs W0 _ m (by have := HS0.out; omega)) (fun m hm => ⟨none, 0, 0, HLC.out, by simpa [texts, T] using World.ownsRow_nil W0 _ _ _, HBL.out⟩)
    (fun x a' W => ∃ b, a' = { tmps := #[.pointer (some ⟨T0, 0, none⟩), .func (.func 42) #[] #[], undef, .pointer (some ⟨w.heap.size, 0, none⟩), .slice none 0 0, .pointer (some ⟨w.heap.size + 1, 0, none⟩), .int .i64 x.k, .pointer (some ⟨b, 0, none⟩), undef, undef, .pointer (some ⟨T0, 0, none⟩), .bool true, .bool false, .pointer (some ⟨T0, 0, none⟩), .func (.func 60) #[] #[.pointer (some ⟨w.heap.size + 1 + 1, 0, none⟩)], .int .i64 x.k, x.v, undef, undef, undef, undef, undef, undef, undef, undef, undef, undef, undef, undef, undef, undef, undef, undef, undef, undef], defers := [] } ∧ Bx W b (vcs x) 69)
    (fun x a' => ?hA) ?assign ?body ?done
  case hA =>
    rintro - W W' row ⟨b, e, hb⟩ hg hr
    refine ⟨b, e, (hg.block b hb.lt (fun e => ?_)).trans hb⟩
    obtain ⟨-, o, ho, hc⟩ := hr b e.symm
    rw [show W.heap[b]? = _ from hb] at ho
    cases ho
    cases hc
  case assign =>
    intro l' x W' K hK
    have HK := mkH hK
    have hxv : x.v = .agg (vcs x) := rfl
    rw [hxv]
    have HZ := mkH (Bx.new W' zA7 69)
    gi_wp2_with (refine wpListIn_st rfl (ty := 69) (x := .tmp 7) (y := .tmp 16) (b := W'.heap.size) (cs := vcs x) (old := zA7) rfl rfl rfl HZ.out (vcs_info x) rfl (vcs_one x) ?_)
    exact HK.out _ _ (bel_setRow ((Below.refl _ _).alloc (Nat.le_refl _) _) (Nat.le_refl _) _) ⟨W'.heap.size, rfl, HZ.out.row rfl⟩
  case body =>
    rintro l' m k x a' Wb hl1 hm hmW ⟨ao, j, cap, hbx, hown, hbel⟩ ⟨b, rfl, hbb⟩ hx
    have hk := Wa.lt_of hx
    have hmem := List.mem_of_getElem? hx
    obtain ⟨hxm, hxc, -, hxk, hxn⟩ := HX.out.r x hmem
    have hbw : Below w.heap.size w Wb := HB0.out.trans (hbel.mono (Nat.le_succ _))
    have HM := mkH (hxm.below hbw)
    have HC := mkH hxc
    have HKN := mkH (And.intro hxk hxn)
    have hjl : j ≤ k := by
      have h1 := hown.1
      rw [T_length] at h1
      have h2 : (texts (fun _ => true) ((xs.take k).map X.p)).length ≤ k := by
        unfold texts
        rw [List.length_map]
        refine Nat.le_trans (List.length_filter_le _ _) ?_
        rw [List.length_map, List.length_take]
        omega
      omega
    have cf : Wb.cell? ⟨w.heap.size, 0, none⟩ = some (.func (.func 42) #[] #[]) := (HFB.out.below hbel (Nat.lt_succ_self _)).cell 0
    have q0 : Wb.cell? ⟨b, 0, none⟩ = some (.int .i64 x.p.n) := hbb.cell 0
    have q1 : Wb.cell? ⟨b, 1, none⟩ = some (.int .i64 x.p.r.err) := hbb.cell 1
    have q2 : Wb.cell? ⟨b, 2, none⟩ = some (.int .i64 x.p.r.seq) := hbb.cell 2
    have q3 : Wb.cell? ⟨b, 3, none⟩ = some (.int .i64 x.p.r.n) := hbb.cell 3
    have q4 : Wb.cell? ⟨b, 4, none⟩ = some (.slice x.ga x.p.r.got.length x.gc) := hbb.cell 4
    have q5 : Wb.cell? ⟨b, 5, none⟩ = some (.slice x.da x.p.r.data.length x.dc) := hbb.cell 5
    have q6 : Wb.cell? ⟨b, 6, none⟩ = some (.slice x.ra x.p.r.about.length x.rc) := hbb.cell 6
    have HTX := mkH (tx_snoc (fun _ => true) hx)
    have HBX := mkH hbx
    have HOW := mkH hown
    have HBE := mkH hbel
    have HBB := mkH hbb
    clear hbx hown hbel hbb hx hmem hxm hxc hxk hxn hbw
    gi_wp2_with fail
    refine ⟨trivial, (CallsIn.inRound l' (callsIn_wide.2 (all1_any Wb x.p.r x.ga x.gc x.da x.dc x.ra x.rc))).mono ?_⟩
    rintro e W3 ⟨rfl, hb3⟩
    have HB3 := mkH hb3
    have HX3 := mkH (bx_bel HBX.out hb3)
    have HO3 := mkH (Sf.own_bel HOW.out hb3)
    have HE3 := mkH (HBE.out.trans (hb3.mono (by have := HS0.out; omega)))
    have HM3 := mkH (HM.out.below hb3)
    have hbb3 := bx_bel HBB.out hb3
    have r0 : W3.cell? ⟨b, 0, none⟩ = some (.int .i64 x.p.n) := hbb3.cell 0
    have r1 : W3.cell? ⟨b, 1, none⟩ = some (.int .i64 x.p.r.err) := hbb3.cell 1
    have r2 : W3.cell? ⟨b, 2, none⟩ = some (.int .i64 x.p.r.seq) := hbb3.cell 2
    have r3 : W3.cell? ⟨b, 3, none⟩ = some (.int .i64 x.p.r.n) := hbb3.cell 3
    have r4 : W3.cell? ⟨b, 4, none⟩ = some (.slice x.ga x.p.r.got.length x.gc) := hbb3.cell 4
    have r5 : W3.cell? ⟨b, 5, none⟩ = some (.slice x.da x.p.r.data.length x.dc) := hbb3.cell 5
    have r6 : W3.cell? ⟨b, 6, none⟩ = some (.slice x.ra x.p.r.about.length x.rc) := hbb3.cell 6
    clear hb3 hbb3 q0 q1 q2 q3 q4 q5 q6 cf HBX HOW HM
    have hwn : True := trivial
    gi_wp2_with fail
    refine ⟨trivial, (CallsIn.inRound l' (callsIn_wide.2 (write_any W3 x HM3.out HC.out HKN.out.1 HKN.out.2))).mono ?_⟩
    rintro e W4 ⟨hb4, ⟨hck, rfl⟩ | ⟨hck, er, hne, rfl⟩⟩
    · have HX4 := mkH (bx_bel HX3.out hb4)
      have HO4 := mkH (Sf.own_bel HO3.out hb4)
      have HE4 := mkH (HE3.out.trans (hb4.mono (by have := HB3.out.size; have := HS0.out; omega)))
      have HF4 : Hid (Fm m (fun k => k = w.heap.size + 1) Wb W4) := mkH (Fm.ofFr (Fr.ofBelow (HB3.out.trans (hb4.mono HB3.out.size))))
      have hs4 : m ≤ W4.heap.size := by have := HB3.out.size; have := hb4.size; omega
      have HTK : Hid (texts (fun _ => true) ((xs.take (k + 1)).map X.p) = texts (fun _ => true) ((xs.take k).map X.p) ++ [encE x.p]) := mkH (by rw [HTX.out, if_pos (by unfold okW; simp [hwn, hck])])
      have c4 : W4.cell? ⟨w.heap.size + 1, 0, none⟩ = some (.slice ao j cap) := HX4.out.cell 0
      obtain ⟨tv, htv⟩ : ∃ tv, encE x.p = tv := ⟨_, rfl⟩
      rw [htv] at HTK
      rw [htv]
      have hal : Below W4.heap.size W4 (W4.alloc (.cells #[.string (S tv)] 9)) := (Below.refl _ _).alloc (Nat.le_refl _) _
      have c4' : (W4.alloc (.cells #[.string (S tv)] 9)).cell? ⟨w.heap.size + 1, 0, none⟩ = some (.slice ao j cap) := (bx_bel HX4.out hal).cell 0
      have HAL := mkH hal
      obtain ⟨i0, hi, hz, hsize, hby⟩ := info_parts info_S
      have hlc : w.heap.size + 1 < m := by have := HS0.out; omega
      clear hal hb4 hck htv HTX
      gi_wp2_with (gi_at_builtin; refine wpListIn_append_own _ rfl (.tmp 30) (.tmp 32) 29 rfl m 9 i0 (.string ⟨#[]⟩) 1 16 Tryz.underlying29 hi hz hsize hby rfl (by decide) _ j _ rfl (Sf.own_bel HO4.out HAL.out) ⟨W4.heap.size, 0, none⟩ 1 1 [.string (S tv)] rfl rfl (fun j u hj => by rw [Addr.add_lit, Nat.zero_add, cell_new]; simpa using hj) (fun u hu => by simp at hu; subst hu; rfl) (by unfold maxLen; omega) (by omega) (by simp; omega) (fun v2 W5 hown2 hgr2 _ => ?_); obtain ⟨a2, c2, rfl, hx2, hfm, hx3, ho3, hb5⟩ := app_step2 (Q := fun k => k = w.heap.size + 1) rfl HO4.out HX4.out hlc hs4 hown2 hgr2 HE4.out; have c5 : W5.cell? ⟨w.heap.size + 1, 0, none⟩ = some (.slice ao j cap) := hx2.cell 0; have f5 := hx2.frozen 0; have ho4 : (W5.setCell ⟨w.heap.size + 1, 0, none⟩ (.slice a2 (j + 1) c2)).ownsRow m 9 1 (.slice a2 (j + 1) c2) (j + 1) (T (texts (fun _ => true) ((xs.take (k + 1)).map X.p))) := (by rw [HTK.out, T_append]; exact ho3); have HEND : Hid (Fm m (fun k => k = w.heap.size + 1) Wb (W5.setCell ⟨w.heap.size + 1, 0, none⟩ (.slice a2 (j + 1) c2)) ∧ Dst (fun _ => true) (w.heap.size + 1) xs W0 m (k + 1) (W5.setCell ⟨w.heap.size + 1, 0, none⟩ (.slice a2 (j + 1) c2))) := mkH ⟨HF4.out.trans hfm, a2, j + 1, c2, hx3, ho4, hb5⟩; clear hown2 hgr2 hx2 hfm hx3 ho3 ho4 hb5)
      exact HEND.out
    · have HX4 := mkH (bx_bel HX3.out hb4)
      have HO4 := mkH (Sf.own_bel HO3.out hb4)
      have HE4 := mkH (HE3.out.trans (hb4.mono (by have := HB3.out.size; have := HS0.out; omega)))
      have HF4 : Hid (Fm m (fun k => k = w.heap.size + 1) Wb W4) := mkH (Fm.ofFr (Fr.ofBelow (HB3.out.trans (hb4.mono HB3.out.size))))
      have HTK : Hid (texts (fun _ => true) ((xs.take (k + 1)).map X.p) = texts (fun _ => true) ((xs.take k).map X.p)) := mkH (by rw [HTX.out, if_neg (by unfold okW; simp [hck]), List.append_nil])
      have hne2 : (er == 0) = false := by simpa using hne
      clear hb4 hck HTX
      gi_wp2
      exact ⟨HF4.out, ao, j, cap, HX4.out, by rw [HTK.out]; exact HO4.out, HE4.out⟩
  case done =>
    rintro D m W' hD hm ⟨ao, j, cap, hbx, hown, hbel⟩ hdf
    have c3 : W'.cell? ⟨w.heap.size + 1, 0, none⟩ = some (.slice ao j cap) := hbx.cell 0
    have HBX := mkH hbx
    rw [List.take_length] at hown
    have HOW := mkH hown
    have HBE := mkH hbel
    have HDF := mkH hdf
    clear hbx hown hbel hdf
    gi_wp2
    refine ⟨by simp, .inl ⟨_, _, rfl, run_takeDeferred HDF.out, ?_⟩⟩
    have hfp : Fr (fun k => k = D) W' (W'.putObj D (.deferred none)) := fr_put _ _ _
    have hrow := HOW.out
    rw [HXS.out] at hrow
    obtain ⟨hjl, hjc, hrt⟩ := RowT.own hrow
    have hcb : cap ≤ 9223372036854775807 := by
      rcases hrow.2 with ⟨e1, e2⟩ | ⟨g, c, cur, e1, h1, h2, h3, h4, _⟩
      · simp only [Value.slice.injEq] at e1; omega
      · simp only [Value.slice.injEq] at e1
        obtain ⟨-, -, rfl⟩ := e1
        unfold maxLen at h4
        omega
    refine ⟨_, results_tmp rfl _ _ _, ao, cap, by rw [← hjl]; rfl, by omega, hcb, ?_, ?_⟩
    · refine rowT_fr hrt hfp (fun a v hc _ e => ?_)
      obtain ⟨blk, off, sp⟩ := a
      simp only at e
      subst e
      simp only [World.cell?, HDF.out] at hc
      cases hc
    · exact HB0.out.trans ((HBE.out.mono (Nat.le_succ _)).trans (hfp.below (fun k hk => by have := HS0.out; omega) (by have := HBE.out.size; have := HS0.out; omega)))

theorem dump_any {w : World} {F : Nat → Prop} {T0 Mb : Nat} {l : List E} (ht : Tb w F T0 Mb l) : Calls Tryz.prog 21 #[.pointer (some ⟨T0, 0, none⟩)] w fun e w' => DuP w (texts (fun r => r.data.length == 0) l) e w' := by
  have HT := mkH ht
  clear ht
  go_enter Tryz.func21, Tryz.ntmps21
  go_wp2_with (first
    | (go_at_call 40; refine (textsD_any HT.out).mono ?_; rintro e1 W1 ⟨ao, cap, rfl, h1, h2, h3, h4⟩))
  refine bodyPost_ret (results_tmp rfl _ _ _) rfl ?_
  exact ⟨ao, cap, rfl, h1, h2, h3, h4⟩
theorem all_any {w : World} {F : Nat → Prop} {T0 Mb : Nat} {l : List E} (ht : Tb w F T0 Mb l) : Calls Tryz.prog 22 #[.pointer (some ⟨T0, 0, none⟩)] w fun e w' => DuP w (texts (fun _ => true) l) e w' := by
  have HT := mkH ht
  clear ht
  go_enter Tryz.func22, Tryz.ntmps22
  go_wp2_with (first
    | (go_at_call 40; refine (textsA_any HT.out).mono ?_; rintro e1 W1 ⟨ao, cap, rfl, h1, h2, h3, h4⟩))
  refine bodyPost_ret (results_tmp rfl _ _ _) rfl ?_
  exact ⟨ao, cap, rfl, h1, h2, h3, h4⟩
end Go.Proofs.YtenkgpfeifflnaaGreat.Stx

namespace Go.Proofs.YtenkgpfeifflnaaGreat.Smp
open Go.RowKit Kt Pl Wi Wk Wa Sm Sa Sb Sc Sd Sl Sx Scp Srd Sra Smg Stx
set_option linter.unusedVariables false
set_option linter.unusedSimpArgs false
set_option maxRecDepth 20000

def fD : Rp → Bool := fun r => r.data.length == 0
/-- The law's tables. -/
structure In6 (l : List E) : Prop where
  s : Srt E.k l
  r : ∀ e ∈ l, 1 ≤ e.k ∧ e.k ≤ 6 ∧ 1 ≤ e.n ∧ e.n ≤ 9 ∧ e.r.data = []
theorem In6.nil : In6 [] := ⟨List.Pairwise.nil, fun e he => by cases he⟩
theorem In6.len {l : List E} (h : In6 l) : l.length ≤ 6 := by
  have := srt_len l 1 6 h.s (fun e he => ⟨(h.r e he).1, (h.r e he).2.1⟩)
  omega
theorem In6.note {l : List E} (h : In6 l) {c n : Int} {r : Rp} (hc : 1 ≤ c ∧ c ≤ 6 ∧ 1 ≤ n ∧ n ≤ 9) (hr : r.data = []) : In6 (noteL l c n r) := by
  unfold noteL
  split
  · refine ⟨srt_put h.s _, fun e he => ?_⟩
    rcases mem_put he with rfl | he
    · exact ⟨hc.1, hc.2.1, hc.2.2.1, hc.2.2.2, hr⟩
    · exact h.r e he
  · exact h
theorem In6.ne7 {l : List E} (h : In6 l) (c n : Int) : noteE l c n ≠ 7 := by
  have := h.len
  unfold noteE
  split
  · decide
  · split
    · decide
    · split
      · decide
      · rw [if_neg (fun q => by have := q.2; omega)]; decide
theorem In6.mrg {l : List E} (h : In6 l) : ∀ (es : List E), (∀ e ∈ es, 1 ≤ e.k ∧ e.k ≤ 6 ∧ 1 ≤ e.n ∧ e.n ≤ 9 ∧ e.r.data = []) → In6 (mrg l es) ∧ NoFull l es := by
  intro es
  induction es generalizing l with
  | nil => intro _; exact ⟨h, trivial⟩
  | cons e es ih =>
    intro he
    have h1 := he e (by simp)
    obtain ⟨q1, q2⟩ := ih (h.note (c := e.k) (n := e.n) (r := e.r) ⟨h1.1, h1.2.1, h1.2.2.1, h1.2.2.2.1⟩ h1.2.2.2.2) (fun x hx => he x (by simp [hx]))
    exact ⟨q1, h.ne7 _ _, q2⟩
theorem note_at {l : List E} (h : In6 l) {e : E} (he : 1 ≤ e.k ∧ e.k ≤ 6 ∧ 1 ≤ e.n ∧ e.n ≤ 9) (c : Int) : atX E.k (noteL l e.k e.n e.r) c = if e.k = c then (if e.n ≤ lastN l c then atX E.k l c else some e) else atX E.k l c := by
  have hl := h.len
  have hE : noteE l e.k e.n = if e.n ≤ lastN l e.k then 16 else 0 := by
    unfold noteE
    rw [if_neg (by unfold num; omega), if_neg (by unfold num; omega)]
    split
    · rfl
    · rw [if_neg (fun q => by have := q.2; omega)]
  unfold noteL
  rw [hE]
  by_cases h1 : e.n ≤ lastN l e.k
  · rw [if_pos h1, if_neg (by decide)]
    by_cases hc : e.k = c
    · subst hc; rw [if_pos rfl, if_pos h1]
    · rw [if_neg hc]
  · rw [if_neg h1, if_pos rfl, at_put]
    by_cases hc : e.k = c
    · subst hc; rw [if_pos rfl, if_pos rfl, if_neg h1]
    · rw [if_neg hc, if_neg hc]
theorem mrg_at : ∀ (D : List E) (l : List E), In6 l → Srt E.k D → (∀ e ∈ D, 1 ≤ e.k ∧ e.k ≤ 6 ∧ 1 ≤ e.n ∧ e.n ≤ 9 ∧ e.r.data = []) → ∀ c, atX E.k (mrg l D) c = match atX E.k D c with | none => atX E.k l c | some e => if e.n ≤ lastN l c then atX E.k l c else some e
  | [], l, _, _, _, c => rfl
  | q :: D, l, hl, hs, hr, c => by
    obtain ⟨h1, h2⟩ := List.pairwise_cons.1 hs
    have hq := hr q (by simp)
    have ih := mrg_at D (noteL l q.k q.n q.r) (hl.note ⟨hq.1, hq.2.1, hq.2.2.1, hq.2.2.2.1⟩ hq.2.2.2.2) h2 (fun e he => hr e (by simp [he])) c
    have hm : mrg l (q :: D) = mrg (noteL l q.k q.n q.r) D := rfl
    have hn := note_at hl (e := q) ⟨hq.1, hq.2.1, hq.2.2.1, hq.2.2.2.1⟩ c
    rw [hm, ih, atX]
    by_cases hc : q.k = c
    · have h0 : atX E.k D c = none := at_lt (fun p hp => by have := h1 p hp; omega)
      rw [h0, if_pos hc]
      simp only
      rw [hn, if_pos hc]
    · rw [if_neg hc, hn, if_neg hc]
      unfold lastN
      rw [hn, if_neg hc]
theorem filter_at (p : E → Bool) : ∀ (l : List E), Srt E.k l → ∀ c, atX E.k (l.filter p) c = match atX E.k l c with | none => none | some e => if p e = true then some e else none
  | [], _, c => rfl
  | q :: l, hs, c => by
    obtain ⟨h1, h2⟩ := List.pairwise_cons.1 hs
    have ih := filter_at p l h2 c
    rw [atX]
    by_cases hc : q.k = c
    · have h0 : atX E.k l c = none := at_lt (fun x hx => by have := h1 x hx; omega)
      rw [if_pos hc]
      simp only
      by_cases hp : p q = true
      · rw [List.filter_cons_of_pos hp, atX, if_pos hc, if_pos hp]
      · rw [List.filter_cons_of_neg hp, ih, h0, if_neg hp]
    · rw [if_neg hc]
      by_cases hp : p q = true
      · rw [List.filter_cons_of_pos hp, atX, if_neg hc, ih]
      · rw [List.filter_cons_of_neg hp, ih]
theorem mrg_same {M : List E} : ∀ (D : List E), (∀ e ∈ D, e.n ≤ lastN M e.k) → mrg M D = M
  | [], _ => rfl
  | q :: D, h => by
    have hq : noteL M q.k q.n q.r = M := by
      have hE : noteE M q.k q.n ≠ 0 := by
        unfold noteE
        split
        · decide
        · split
          · decide
          · rw [if_pos (h q (by simp))]; decide
      unfold noteL
      rw [if_neg hE]
    show mrg (noteL M q.k q.n q.r) D = M
    rw [hq]
    exact mrg_same D (fun e he => h e (by simp [he]))
/-- All that the law asks of a merge. -/
theorem merge_says {lt lu : List E} (ht : In6 lt) (hu : In6 lu) (c : Int) : let M := mrg lt (lu.filter (okW fD))
    (∀ e, atX E.k lu c = some e → checkR e.r = 0 → (lastN M c = max (lastN lt c) e.n ∧ (lastN lt c < e.n → atX E.k M c = some e))) ∧ (atX E.k lu c = none → lastN M c = lastN lt c) := by
  intro M
  have hD : ∀ e ∈ lu.filter (okW fD), 1 ≤ e.k ∧ e.k ≤ 6 ∧ 1 ≤ e.n ∧ e.n ≤ 9 ∧ e.r.data = [] := fun e he => hu.r e (List.mem_filter.1 he).1
  have hDs : Srt E.k (lu.filter (okW fD)) := List.Pairwise.filter _ hu.s
  have hm := mrg_at _ lt ht hDs hD c
  have hf := filter_at (okW fD) lu hu.s c
  refine ⟨fun e he hck => ?_, fun hn => ?_⟩
  · have hok : okW fD e = true := by
      have := (hu.r e (atX_mem he).1).2.2.2.2
      unfold okW fD
      rw [this]
      simp [hck]
    rw [he] at hf
    simp only [hok, if_true] at hf
    rw [hf] at hm
    simp only at hm
    by_cases h1 : e.n ≤ lastN lt c
    · rw [if_pos h1] at hm
      have : lastN M c = lastN lt c := by unfold lastN; rw [show atX E.k M c = _ from hm]
      exact ⟨by rw [this]; omega, fun h => by omega⟩
    · rw [if_neg h1] at hm
      have : lastN M c = e.n := lastN_of hm
      exact ⟨by rw [this]; omega, fun _ => hm⟩
  · rw [hn] at hf
    simp only at hf
    rw [hf] at hm
    simp only at hm
    unfold lastN
    rw [show atX E.k M c = _ from hm]
theorem merge_again {lt lu : List E} (ht : In6 lt) (hu : In6 lu) : let M := mrg lt (lu.filter (okW fD)); mrg M (lu.filter (okW fD)) = M ∧ mrg M (M.filter (okW fD)) = M := by
  intro M
  have hD : ∀ e ∈ lu.filter (okW fD), 1 ≤ e.k ∧ e.k ≤ 6 ∧ 1 ≤ e.n ∧ e.n ≤ 9 ∧ e.r.data = [] := fun e he => hu.r e (List.mem_filter.1 he).1
  have hM : In6 M := (ht.mrg _ hD).1
  refine ⟨mrg_same _ (fun e he => ?_), mrg_same _ (fun e he => ?_)⟩
  · obtain ⟨h1, h2⟩ := List.mem_filter.1 he
    have hck : checkR e.r = 0 := by unfold okW at h2; simp at h2; exact h2.2
    have := ((merge_says ht hu e.k).1 e (mem_at hu.s h1) hck).1
    rw [this]; omega
  · have h1 := (List.mem_filter.1 he).1
    rw [lastN_of (mem_at hM.s h1)]
    exact Int.le_refl _
end Go.Proofs.YtenkgpfeifflnaaGreat.Smp
