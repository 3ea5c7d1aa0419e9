/-
  SeR SeCl SeWr, joined by mrg.py.
-/
import Derived.Test.YtenkgpfeifflnaaGreatMqE
import Derived.RangeFuncLeaves
import Derived.RangeFuncCalls
import Derived.OwnWalkIn
import Derived.Test.YtenkgpfeifflnaaGreatSeF
import Derived.Test.YtenkgpfeifflnaaGreatMqA
import Derived.Deep.CutBlock
import Derived.Deep.DeepCutAuto

namespace Go.Proofs.YtenkgpfeifflnaaGreat.Sr
open Go.RowKit Go.Shelf Kt Pl Wi Wk Wa Sm Sa Sb Sc Sd Si Sk
open Dk (Fr block_lt)
set_option linter.unusedVariables false
set_option linter.unusedSimpArgs false
set_option maxRecDepth 20000
attribute [local go_sem] Oper.semAt_some

theorem fm_bx {m : Nat} {Q : Nat → Prop} {w w' : World} {b : Nat} {cs : Array Value} {t : TypeId} (h : Bx w b cs t) (hf : Fm m Q w w') (hm : b < m) (hq : ¬ Q b) : Bx w' b cs t := (hf.block b hm h.lt hq).trans h
theorem fm_mt {m : Nat} {Q : Nat → Prop} {w w' : World} {b : Nat} {l : List X} (h : Mt w b l) (hf : Fm m Q w w') (hm : b < m) (hq : ¬ Q b) : Mt w' b l := by
  have hlt := h.lt
  obtain ⟨es, clock, hb, r⟩ := h
  exact ⟨es, clock, (hf.block b hm hlt hq).trans hb, r⟩
theorem grown_of_below' {w w' : World} (h : Below w.heap.size w w') : w.grownBy w' none := ⟨h.os, h.tape, h.output, h.size, fun k hk _ => h.block k hk⟩
/-- The sorted keys, as they are read. -/
def KeyR (w : World) (m : Nat) (ao : Option Addr) (xs : List X) : Prop := ∀ k x, xs[k]? = some x → ∃ b, ao = some ⟨b, 0, none⟩ ∧ b < m ∧ w.cell? ⟨b, k, none⟩ = some (.int .i64 x.k)
theorem keyR_own {w : World} {base cap : Nat} {ao : Option Addr} {xs : List X} (h : w.ownsRow base 3 1 (.slice ao xs.length cap) xs.length (iK xs)) : KeyR w w.heap.size ao xs := by
  intro k x hx
  have hk := Wa.lt_of hx
  rcases h.2 with ⟨e1, e2⟩ | ⟨g, c, cur, e1, h1, h2, _⟩
  · omega
  · simp only [Value.slice.injEq] at e1
    obtain ⟨rfl, -⟩ := e1
    refine ⟨g, rfl, block_lt h2, ?_⟩
    have := World.ownsRow.cellAt h k (by omega)
    rw [this]
    simp [iK, hx]
theorem keyR_fm {w w' : World} {m : Nat} {Q : Nat → Prop} {ao : Option Addr} {xs : List X} (h : KeyR w m ao xs) (hf : Fm m Q w w') (hq : ∀ b, ao = some ⟨b, 0, none⟩ → ¬ Q b) : KeyR w' m ao xs := by
  intro k x hx
  obtain ⟨b, e, hb, hc⟩ := h k x hx
  refine ⟨b, e, hb, ?_⟩
  rw [World.cell?_of_block (w := w) (a := ⟨b, k, none⟩) (hf.block b hb (World.block_lt_of_cell? w _ hc) (hq b e))]
  exact hc

set_option maxRecDepth 100000 in
set_option maxHeartbeats 4000000 in
theorem rising_seq (n : Nat) (hn : 1 ≤ n) (Q : Nat → Prop) (cb : Nat) {w : World} {F : Nat → Prop} {T Mb : Nat} {xs : List X} (hX : Tx w F T Mb xs) (hcb : Bx w cb #[.pointer (some ⟨T, 0, none⟩)] 23) (hQ : ∀ k, Q k → k < w.heap.size) (q1 : ¬ Q cb) (q2 : ¬ Q T) (q3 : ¬ Q Mb) :
    SeqM Tryz.prog n 60 #[.pointer (some ⟨cb, 0, none⟩)] (fun x : X => #[.int .i64 x.k, x.v]) Q xs w := fun lp J W hW hlp hlW hJ hY h0 => by
  have hcW := bx_bel hcb hW
  have hXW := hX.below hW
  have HCL := mkH hcW.lt
  have HTL := mkH hXW.bx.lt
  have HML := mkH hXW.m.lt
  have q1' : ¬ (Q cb ∨ cb = lp) := fun x => by rcases x with x | x; exact q1 x; have := hcb.lt; omega
  have q2' : ¬ (Q T ∨ T = lp) := fun x => by rcases x with x | x; exact q2 x; have := hX.bx.lt; omega
  have q3' : ¬ (Q Mb ∨ Mb = lp) := fun x => by rcases x with x | x; exact q3 x; have := hX.m.lt; omega
  have HS := mkH hX.s
  have HLN := mkH hX.len
  have HNK := mkH (fun x hx => (hX.r x hx).2.2.2.1)
  have c0 : W.cell? ⟨cb, 0, none⟩ = some (.pointer (some ⟨T, 0, none⟩)) := hcW.cell 0
  have cT : W.cell? ⟨T, 0, none⟩ = some (.map (some Mb)) := hXW.bx.cell 0
  have HCB := mkH hcW
  have HTB := mkH hXW.bx
  have HMB := mkH hXW.m
  have hql : ∀ k, Q k → k < W.heap.size := fun k hk => Nat.lt_of_lt_of_le (hQ k hk) hW.size
  clear hcW hXW hcb hX hQ
  refine callsIn_of_wp Tryz.func60 rfl trivial ?_ rfl
  simp only [Tryz.ntmps60, List.size_toArray, List.length_cons, List.length_nil, Nat.reduceAdd, Nat.reduceSub, Array.replicate_succ, Array.replicate_zero, List.push_toArray, List.append_toArray, List.nil_append, List.cons_append]
  gi_wp2_with fail
  refine ⟨trivial, (callsIn_wide.2 (keys_any (some Mb) W)).mono ?_⟩
  rintro e w1 ⟨rfl, rfl⟩
  gi_wp2_with fail
  refine ⟨trivial, (callsIn_wide.2 (sorted_any HMB.out HS.out (by have := HLN.out; omega))).mono ?_⟩
  rintro e W2 ⟨ao, cap, rfl, hown, hb2⟩
  have hbW : Below W.heap.size W W2 := ((Below.refl _ W).alloc (Nat.le_refl _) _).trans (hb2.mono (Nat.le_succ _))
  have hm0 : W.heap.size ≤ W2.heap.size := hbW.size
  have hJ2 : J W2.heap.size 0 W2 := hJ W2.heap.size 0 W W2 none (h0 _ hm0) (Go.Proofs.YtenkgpfeifflnaaGreat.Sr.grown_of_below' hbW) (fun r e => by cases e)
  have HJ2 := mkH hJ2
  have HK2 := mkH (keyR_own hown)
  have HC2 := mkH (bx_bel HCB.out hbW)
  have HT2 := mkH (bx_bel HTB.out hbW)
  have HM2 := mkH (HMB.out.below hbW)
  have HAO : Hid (∀ b, ao = some ⟨b, 0, none⟩ → W.heap.size ≤ b) := mkH (fun b e => by have := (own_far hown _ e).1; simp at this; omega)
  have HLP := mkH hlW
  have HQL := mkH hql
  clear hown hb2 hbW hJ2 HCB HTB HMB c0 cT h0 hql
  generalize hm : W2.heap.size = m at *
  gi_wp2_with fail
  gi_loopw [12] (fun i wr => ∃ k : Nat, k ≤ xs.length ∧ i = .int .i64 (k : Int) ∧ Hid (J m k wr) ∧ Hid (KeyR wr m ao xs) ∧ Hid (Bx wr cb #[.pointer (some ⟨T, 0, none⟩)] 23) ∧ Hid (Bx wr T #[.map (some Mb)] 62) ∧ Hid (Mt wr Mb xs) ∧ m ≤ wr.heap.size) (fun i _ => xs.length - (intOf i).toNat)
  case atStart => exact ⟨0, Nat.zero_le _, rfl, HJ2, HK2, HC2, HT2, HM2, Nat.le_of_eq hm.symm⟩
  case round =>
    obtain ⟨k, hk, rfl, HJ, HK, HC, HT, HM, hmw⟩ := hrel
    clear HJ2 HK2 HC2 HT2 HM2
    have hln : xs.length ≤ 64 := HLN.out
    rcases Nat.lt_or_ge k xs.length with hkl | hkl
    · obtain ⟨x, hx⟩ := Wa.some_of hkl
      obtain ⟨b, rfl, hbm, hcell⟩ := HK.out k x hx
      have c0 : wr.cell? ⟨cb, 0, none⟩ = some (.pointer (some ⟨T, 0, none⟩)) := HC.out.cell 0
      have cT : wr.cell? ⟨T, 0, none⟩ = some (.map (some Mb)) := HT.out.cell 0
      have hkw := wf_num (HNK.out x (List.mem_of_getElem? hx))
      have hlk := look1 uI Tryz.underlying60 (zA wr) HM.out (k := x.k) hkw
      rw [mem_at HS.out (List.mem_of_getElem? hx)] at hlk
      simp only at hlk
      obtain ⟨fn, tmps, assign, body, hy, hR⟩ := hY m k x wr (by omega) hmw HJ.out hx
      obtain ⟨xk, hxk⟩ : ∃ xk, x.k = xk := ⟨_, rfl⟩
      obtain ⟨xv, hxv⟩ : ∃ xv, x.v = xv := ⟨_, rfl⟩
      rw [hxk] at hcell hlk
      rw [hxv] at hlk
      simp only [hxk, hxv] at hy
      clear hx hkw hxk hxv
      gi_wp2
      refine hR.mono ?_
      rintro e W3 ⟨rfl, hJ3, hk3⟩
      have HJ3 := mkH hJ3
      have HK3 := mkH (keyR_fm HK.out hk3 (fun b' e => fun h => by
        have := HAO.out b' e
        rcases h with h | h
        · have := HQL.out b' h; omega
        · have := HLP.out; omega))
      have HC3 := mkH (fm_bx HC.out hk3 (by have := HCL.out; omega) q1')
      have HT3 := mkH (fm_bx HT.out hk3 (by have := HTL.out; omega) q2')
      have HM3 := mkH (fm_mt HM.out hk3 (by have := HML.out; omega) q3')
      have hm3 : m ≤ W3.heap.size := Nat.le_trans hmw hk3.size
      clear hJ3 hk3 hy hR hlk c0 cT hcell
      gi_wp2
      go_roundw
      case rel => exact ⟨k + 1, by omega, by go_num, HJ3, HK3, HC3, HT3, HM3, hm3⟩
      case measure => simp [intOf]; omega
    · obtain rfl : k = xs.length := by omega
      gi_wp2
      refine bodyPost_end (results_none rfl _ _ _) rfl ?_
      exact ⟨⟨_, rfl⟩, m, hm0, HJ.out⟩
end Go.Proofs.YtenkgpfeifflnaaGreat.Sr

namespace Go.Proofs.YtenkgpfeifflnaaGreat.Scl
open Go.RowKit Go.Shelf Kt Pl Wi Wk Wa Sm Sa Sb Sc Sd Si Sk Sr
open Dk (Fr block_lt)
set_option linter.unusedVariables false
set_option linter.unusedSimpArgs false
set_option maxRecDepth 20000
attribute [local go_sem] Oper.semAt_some

theorem rising_any (w : World) (v : Value) (hv : ∃ a, v = .pointer a) : Calls Tryz.prog 39 #[v] w fun e w' => e = .returned (.func (.func 60) #[] #[.pointer (some ⟨w.heap.size, 0, none⟩)]) ∧ w' = w.alloc (.cells #[v] 23) := by
  obtain ⟨a, rfl⟩ := hv
  go_enter Tryz.func39, Tryz.ntmps39
  go_wp2
  go_ret
  exact ⟨rfl, rfl⟩

theorem info_I : (Tryz.prog.info? 3).map (fun i => (i.zero, i.size, i.bytes)) = some (some (.int .i64 0), 1, 8) := by kernel_rfl
theorem src_int (w : World) (n : Int) (t : TypeId) : Src Tryz.prog 1 53 (.slice (some ⟨w.heap.size, 0, none⟩) 1 1) 1 [.int .i64 n] (w.alloc (.cells #[.int .i64 n] t)) := by
  refine Src.ofSlice _ Tryz.underlying53 _ 1 1 _ rfl (fun j u hj => ?_) (fun u hu => by simp at hu; subst hu; rfl)
  rw [Addr.add_lit, Nat.zero_add, cell_new]
  simpa using hj
/-- What Clients hands back. -/
def ClP (w : World) (l : List E) (e : Ending) (w' : World) : Prop := ∃ ao cap, e = .returned (.slice ao l.length cap) ∧ RowI w' ao (l.map E.k) ∧ Below w.heap.size w w'

/-- The clients told so far: the box lc, and the row. -/
def Cst (lc : Nat) (xs : List X) (w0 : World) (m k : Nat) (W : World) : Prop :=
  ∃ ao cap, Bx W lc #[.slice ao k cap] 53 ∧ W.ownsRow m 3 1 (.slice ao k cap) k (iK (xs.take k)) ∧ Below lc w0 W
theorem cst_own (lc : Nat) (xs : List X) (w0 : World) (B m : Nat) (hB : lc < B) (hB0 : w0.heap.size ≤ lc) : OwnFrom B (Cst lc xs w0 m) := by
  rintro k W W' row ⟨ao, cap, h1, h2, h3⟩ hg hr
  have hne : ∀ b, (∃ cs t, W.heap[b]? = some (.cells cs t (0, 0))) → b < W.heap.size → W'.heap[b]? = W.heap[b]? := fun b ⟨cs, t, hb⟩ hlt => hg.block b hlt (fun e => by
    obtain ⟨-, o, ho, hc⟩ := hr b e.symm
    rw [hb] at ho
    cases ho
    cases hc)
  refine ⟨ao, cap, (hne lc ⟨_, _, h1⟩ h1.lt).trans h1, ⟨h2.1, ?_⟩, ?_⟩
  · rcases h2.2 with e | ⟨g, c, cur, e1, e2, e3, e4⟩
    · exact .inl e
    · exact .inr ⟨g, c, cur, e1, e2, (hne g ⟨_, _, e3⟩ (block_lt e3)).trans e3, e4⟩
  · exact ⟨hg.os.trans h3.os, hg.tape.trans h3.tape, hg.output.trans h3.output, Nat.le_trans h3.size hg.size, fun k hk => (hg.block k (Nat.lt_of_lt_of_le (by omega) h1.lt) (fun e => by have := (hr k e.symm).1; omega)).trans (h3.block k hk)⟩

theorem own_blk {w : World} {base e size n cap : Nat} {ao : Option Addr} {xs : List Value} (h : w.ownsRow base e size (.slice ao n cap) n xs) : ∀ r, Value.ownBlock (.slice ao n cap) = some r → base ≤ r := by
  intro r hr
  rcases h.2 with ⟨e1, e2⟩ | ⟨g, c, cur, e1, h1, h2, _⟩
  · rw [e1] at hr; simp [Value.ownBlock] at hr
  · rw [e1] at hr
    simp [Value.ownBlock] at hr
    omega
theorem own_set {w : World} {base e size n : Nat} {v : Value} {xs : List Value} (h : w.ownsRow base e size v n xs) {p : Addr} (hp : p.block < base) (u : Value) : (w.setCell p u).ownsRow base e size v n xs := by
  refine ⟨h.1, ?_⟩
  rcases h.2 with h1 | ⟨g, c, cur, e1, h2, h3, h4⟩
  · exact .inl h1
  · exact .inr ⟨g, c, cur, e1, h2, (heap_setCell_other w p g u (by omega)).trans h3, h4⟩
/-- 'l = append(l, x)' where l lies in a box. -/
theorem app_step {lc m k t e : Nat} {Q : Nat → Prop} {Wb W2 w0 : World} {ao : Option Addr} {cap : Nat} {v2 : Value} {L L2 : List Value} {o : Obj} (hq : Q lc) (hown : Wb.ownsRow m e 1 (.slice ao k cap) k L) (hbx : Bx Wb lc #[.slice ao k cap] t) (hlc : lc < m) (hm : m ≤ Wb.heap.size)
    (hown2 : W2.ownsRow m e 1 v2 (k + 1) L2) (hgr : (Wb.alloc o).grownBy W2 (Value.ownBlock (.slice ao k cap))) (hb : Below lc w0 Wb) (hw : w0.heap.size ≤ lc) :
    ∃ a2 c2, v2 = .slice a2 (k + 1) c2 ∧ Bx W2 lc #[.slice ao k cap] t ∧ Fm m Q Wb (W2.setCell ⟨lc, 0, none⟩ v2) ∧ Bx (W2.setCell ⟨lc, 0, none⟩ v2) lc #[v2] t ∧ (W2.setCell ⟨lc, 0, none⟩ v2).ownsRow m e 1 v2 (k + 1) L2 ∧ Below lc w0 (W2.setCell ⟨lc, 0, none⟩ v2) := by
  obtain ⟨a2, c2, rfl⟩ := own_form hown2
  have hsz : (Wb.alloc o).heap.size = Wb.heap.size + 1 := by simp
  have hblk : ∀ b, b < m → b < Wb.heap.size → W2.heap[b]? = Wb.heap[b]? := fun b h1 h2 =>
    (hgr.block b (by omega) (fun e => by have := own_blk hown b e.symm; omega)).trans (Below.heap_alloc Wb o b h2)
  have hbx2 : Bx W2 lc #[.slice ao k cap] t := (hblk lc hlc hbx.lt).trans hbx
  have hsz2 : Wb.heap.size ≤ W2.heap.size := by have := hgr.size; omega
  refine ⟨a2, c2, rfl, hbx2, ⟨hgr.os, hgr.tape, hgr.output, by simpa using hsz2, fun b h1 h2 h3 => ?_⟩, hbx2.set 0 _, own_set hown2 hlc _, ⟨hgr.os.trans hb.os, hgr.tape.trans hb.tape, hgr.output.trans hb.output, by have := hb.size; simp; omega, fun b h1 => ?_⟩⟩
  · rw [heap_setCell_other W2 ⟨lc, 0, none⟩ b _ (fun e => h3 (by simp only at e; rw [e]; exact hq))]
    exact hblk b h1 h2
  · rw [heap_setCell_other W2 ⟨lc, 0, none⟩ b _ (by simp; omega), hblk b (by omega) (by have := hbx.lt; omega)]
    exact hb.block b h1

set_option maxRecDepth 100000 in
set_option maxHeartbeats 4000000 in
theorem clients_any {w : World} {F : Nat → Prop} {T Mb : Nat} {l : List E} (ht : Tb w F T Mb l) : Calls Tryz.prog 19 #[.pointer (some ⟨T, 0, none⟩)] w fun e w' => ClP w l e w' := by
  obtain ⟨xs, hxs, hX⟩ := ht
  have HXS := mkH hxs
  have HX := mkH hX
  clear hxs hX
  refine (callsIn_wide (n := 12)).1 ?_
  refine callsIn_of_wp_marks Tryz.func19 rfl trivial ?_ rfl
  simp only [Tryz.ntmps19, List.size_toArray, List.length_cons, List.length_nil, Nat.reduceAdd, Nat.reduceSub, Array.replicate_succ, Array.replicate_zero, List.push_toArray, List.append_toArray, List.nil_append, List.cons_append]
  gi_wp2_with fail
  refine ⟨trivial, (callsIn_wide.2 (isMade_yes HX.out.bx)).mono ?_⟩
  rintro e w1 ⟨rfl, hw⟩
  have hw2 := hw.symm
  subst hw2
  clear hw
  gi_wp2_with fail
  refine ⟨trivial, (callsIn_wide.2 (rising_any _ _ ⟨_, rfl⟩)).mono ?_⟩
  rintro e w1 ⟨rfl, rfl⟩
  gi_wp2_with fail
  have hb0 : Below w.heap.size w ((w.alloc (.cells #[.slice none 0 0] 53)).alloc (.cells #[.pointer (some ⟨T, 0, none⟩)] 23)) := ((Below.refl _ w).alloc (Nat.le_refl _) _).alloc (by simp) _
  have hlc : Bx ((w.alloc (.cells #[.slice none 0 0] 53)).alloc (.cells #[.pointer (some ⟨T, 0, none⟩)] 23)) w.heap.size #[.slice none 0 0] 53 := (Bx.new w _ _).alloc _
  have hcb : Bx ((w.alloc (.cells #[.slice none 0 0] 53)).alloc (.cells #[.pointer (some ⟨T, 0, none⟩)] 23)) (w.heap.size + 1) #[.pointer (some ⟨T, 0, none⟩)] 23 := by
    have := Bx.new (w.alloc (.cells #[.slice none 0 0] 53)) #[.pointer (some ⟨T, 0, none⟩)] 23
    simpa using this
  have hs0 : ((w.alloc (.cells #[.slice none 0 0] 53)).alloc (.cells #[.pointer (some ⟨T, 0, none⟩)] 23)).heap.size = w.heap.size + 2 := by simp
  have hTl := HX.out.bx.lt
  have hMl := HX.out.m.lt
  generalize (w.alloc (.cells #[.slice none 0 0] 53)).alloc (.cells #[.pointer (some ⟨T, 0, none⟩)] 23) = W0 at *
  have hseq := rising_seq 11 (by omega) (fun k => k = w.heap.size) (w.heap.size + 1) (HX.out.below hb0) hcb (fun k hk => by omega) (by omega) (by omega) (by omega)
  have hln : xs.length ≤ 64 := HX.out.len
  have HB0 := mkH hb0
  have HLC := mkH hlc
  have HS0 := mkH hs0
  clear hb0 hlc hcb hs0
  have hps : ∀ x : X, (#[.int .i64 x.k, x.v] : Array Value).size = (#[10, 11] : Array Tmp).size := fun _ => rfl
  refine rfM (by omega) (gf := 60) (lb := #[.pointer (some ⟨w.heap.size + 1, 0, none⟩)]) rfl (enters_of Tryz.func60 (by kernel_rfl) rfl) hseq (Below.refl _ _) (fun k hk => by have := HS0.out; omega) hps
    (Cst w.heap.size xs w) (fun m => cst_own w.heap.size xs w _ m (by have := HS0.out; omega) (Nat.le_refl _)) (fun m hm => ⟨none, 0, HLC.out, World.ownsRow_nil _ _ _ _, HB0.out⟩)
    (fun x => { tmps := #[.pointer (some ⟨T, 0, none⟩), undef, .slice none 0 0, .pointer (some ⟨w.heap.size, 0, none⟩), .int .i64 x.k, .pointer (some ⟨T, 0, none⟩), .bool true, .bool false, .pointer (some ⟨T, 0, none⟩), .func (.func 60) #[] #[.pointer (some ⟨w.heap.size + 1, 0, none⟩)], .int .i64 x.k, x.v, undef, undef, undef, undef, undef], defers := [] }) ?assign ?body ?done
  case assign =>
    intro l' x W' K hK
    gi_wp2
    exact hK
  case body =>
    rintro l' m k x Wb hl1 hm hmW ⟨ao, cap, hbx, hown, hbel⟩ hx
    have hk := Wa.lt_of hx
    have c3 : Wb.cell? ⟨w.heap.size, 0, none⟩ = some (.slice ao k cap) := hbx.cell 0
    have HBX := mkH hbx
    have HOW := mkH hown
    have HBE := mkH hbel
    have HSN : Hid (iK (xs.take (k + 1)) = iK (xs.take k) ++ [.int .i64 x.k]) := mkH (by rw [List.take_add_one, hx]; simp [iK])
    obtain ⟨xk, hxk⟩ : ∃ xk, x.k = xk := ⟨_, rfl⟩
    obtain ⟨xv, hxv⟩ : ∃ xv, x.v = xv := ⟨_, rfl⟩
    rw [hxk] at HSN
    rw [hxk, hxv]
    have HSR := mkH (src_int Wb xk 3)
    have hmw2 : w.heap.size + 2 ≤ Wb.heap.size := by have := HS0.out; omega
    clear hbx hown hbel hx hxk hxv
    obtain ⟨i0, hi, hz, hsize, hby⟩ := info_parts info_I
    have hal : Below Wb.heap.size Wb (Wb.alloc (.cells #[.int .i64 xk] 3)) := (Below.refl _ _).alloc (Nat.le_refl _) _
    have c3' : (Wb.alloc (.cells #[.int .i64 xk] 3)).cell? ⟨w.heap.size, 0, none⟩ = some (.slice ao k cap) := (bx_bel HBX.out hal).cell 0
    have HAL := mkH hal
    clear hal HSR
    gi_wp2_with (gi_at_builtin; refine wpListIn_append_own _ rfl (.tmp 12) (.tmp 14) 53 rfl m 3 i0 (.int .i64 0) 1 8 Tryz.underlying53 hi hz hsize hby rfl (by decide) _ k _ rfl (Sf.own_bel HOW.out HAL.out) ⟨Wb.heap.size, 0, none⟩ 1 1 [.int .i64 xk] rfl rfl (fun j u hj => by rw [Addr.add_lit, Nat.zero_add, cell_new]; simpa using hj) (fun u hu => by simp at hu; subst hu; rfl) (by unfold maxLen; omega) (by omega) (by simp; omega) (fun v2 W2 hown2 hgr2 _ => ?_); obtain ⟨a2, c2, rfl, hx2, hfm, hx3, ho3, hb3⟩ := app_step (Q := fun k => k = w.heap.size) rfl HOW.out HBX.out (by have := HS0.out; omega) hmW hown2 hgr2 HBE.out (Nat.le_refl _); have c4 : W2.cell? ⟨w.heap.size, 0, none⟩ = some (.slice ao k cap) := hx2.cell 0; have f4 := hx2.frozen 0; rw [← HSN.out] at ho3; have HEND : Hid (Fm m (fun k => k = w.heap.size) Wb (W2.setCell ⟨w.heap.size, 0, none⟩ (.slice a2 (k + 1) c2)) ∧ Cst w.heap.size xs w m (k + 1) (W2.setCell ⟨w.heap.size, 0, none⟩ (.slice a2 (k + 1) c2))) := mkH ⟨hfm, a2, c2, hx3, ho3, hb3⟩; clear hown2 hgr2 hx2 hfm hx3 ho3 hb3 HBX HOW HBE HSN)
    exact HEND.out
  case done =>
    rintro D m W' hD hm ⟨ao, cap, hbx, hown, hbel⟩ hdf
    have c3 : W'.cell? ⟨w.heap.size, 0, none⟩ = some (.slice ao xs.length cap) := hbx.cell 0
    have HBX := mkH hbx
    have HOW := mkH hown
    have HBE := mkH hbel
    have HDF := mkH hdf
    clear hbx hown hbel hdf
    gi_wp2
    refine ⟨by simp, .inl ⟨_, _, rfl, run_takeDeferred HDF.out, ?_⟩⟩
    have hfp : Fr (fun k => k = D) W' (W'.putObj D (.deferred none)) := fr_put _ _ _
    refine ⟨_, results_tmp rfl _ _ _, ao, cap, ?_, ?_, ?_⟩
    · rw [len_p HXS.out]; rfl
    · have hrow := HOW.out
      rw [List.take_length] at hrow
      intro hl
      rw [List.length_map, len_p HXS.out] at hl
      rcases hrow.2 with ⟨e1, e2⟩ | ⟨g, c, cur, e1, h1, h2, h3⟩
      · omega
      · simp only [Value.slice.injEq] at e1
        obtain ⟨rfl, -, rfl⟩ := e1
        refine ⟨g, 0, rfl, fun i hi => ?_⟩
        rw [List.length_map, len_p HXS.out] at hi
        have hc := World.ownsRow.cellAt hrow i (by omega)
        have hne : g ≠ D := fun e => by
          rw [e] at h2
          have := HDF.out
          rw [h2] at this
          cases this
        rw [Nat.zero_add, World.cell?_of_block (w := W') (a := ⟨g, i, none⟩) (hfp.heap (block_lt h2) hne), hc]
        have hxi := List.getElem?_eq_getElem hi
        simp only [iK, List.getElem?_map, hxi, Option.map_some, ← HXS.out, List.map_map, List.getD, Option.getD_some]
        rfl
    · exact (HBE.out).trans ((hfp.below (fun k hk => by have := HS0.out; omega) (by have := HBE.out.size; omega)))
end Go.Proofs.YtenkgpfeifflnaaGreat.Scl

namespace Go.Proofs.YtenkgpfeifflnaaGreat.Swr
open Go.RowKit Kt Pl Wi Wk Wa Ww Wv Wr Sm Sa Sb Sc Sd Sx
open At (RowT)
set_option linter.unusedVariables false
set_option linter.unusedSimpArgs false
set_option maxRecDepth 20000

theorem conv_any {W : World} {ao : Option Addr} {bs : Bs} (h : Row W ao bs) (cap : Nat) : (convert 79 9 (.slice ao bs.length cap)).run Tryz.prog W = .ok (.string (S bs)) W :=
  run_string (P := Tryz.prog) Tryz.underlying79 Tryz.underlying5 Tryz.underlying9 h cap
theorem ld_ans {W : World} {b : Nat} {x : X} (h : Bx W b #[.int .i64 x.p.n, .int .i64 x.p.r.err, .int .i64 x.p.r.seq, .int .i64 x.p.r.n, .slice x.ga x.p.r.got.length x.gc, .slice x.da x.p.r.data.length x.dc, .slice x.ra x.p.r.about.length x.rc] 69) : (loadVar 34 ⟨b, 1, none⟩).run Tryz.prog W = .ok (.agg (Pv x.p.r x.ga x.gc x.da x.dc x.ra x.rc)) W := by
  have := run_load_agg (P := Tryz.prog) (w := W) 34 _ Tryz.underlying34 rfl b 1 (Pv x.p.r x.ga x.gc x.da x.dc x.ra x.rc).toList infoP (fun j v hv => by
    rw [h.cell]
    rcases j with _ | _ | _ | _ | _ | _ | j <;> first | exact hv | (simp [Pv] at hv))
  simpa using this
theorem info8 : (Tryz.prog.info? 5).map (fun i => (i.zero, i.size, i.bytes)) = some (some (.int .u8 0), 1, 1) := by kernel_rfl
theorem own_lo {w : World} {base lo e n m : Nat} {v : Value} {xs : List Value} (h : w.ownsRow base e n v m xs) (hl : lo ≤ base) : w.ownsRow lo e n v m xs := by
  refine ⟨h.1, ?_⟩
  rcases h.2 with h1 | ⟨g, c, cur, e1, h2, h3⟩
  · exact .inl h1
  · exact .inr ⟨g, c, cur, e1, Nat.le_trans hl h2, h3⟩
/-- What write hands back. -/
def WrP (w : World) (x : X) (e : Ending) (w' : World) : Prop := Below w.heap.size w w' ∧
  ((checkR x.p.r = 0 ∧ e = .returned (.tuple #[.string (S (encE x.p)), .int .i64 0])) ∨ (checkR x.p.r ≠ 0 ∧ ∃ er : Int, er ≠ 0 ∧ e = .returned (.tuple #[.string ⟨#[]⟩, .int .i64 er])))

set_option maxHeartbeats 4000000 in
theorem write_any (w : World) (x : X) (hm : RpM w x.p.r x.ga x.da x.ra) (hc : Cnt x.p.r) (hk : num x.p.k) (hn : num x.p.n) :
    Calls Tryz.prog 63 #[.int .i64 x.p.k, x.v] w fun e w' => WrP w x e w' := by
  obtain ⟨⟨pk, pn, r⟩, ga, gc, da, dc, ra, rc⟩ := x
  simp only at hm hc hk hn
  obtain ⟨k, rfl⟩ : ∃ k : Nat, pk = (k : Int) := ⟨pk.toNat, by unfold num at hk; omega⟩
  obtain ⟨n, rfl⟩ : ∃ n : Nat, pn = (n : Int) := ⟨pn.toNat, by unfold num at hn; omega⟩
  have hkb : k ≤ 1099511627776 := by unfold num at hk; omega
  have hnb : n ≤ 1099511627776 := by unfold num at hn; omega
  have HM := mkH hm
  have HC := mkH hc
  have hix0 : ∀ W : World, (Instr.index 118 (.agg #[.int .i64 (k : Int), .int .i64 (n : Int)]) (.int .i64 0)).run Tryz.prog W = .ok (.int .i64 (k : Int)) W := fun _ => by kernel_rfl
  have hix1 : ∀ W : World, (Instr.index 118 (.agg #[.int .i64 (k : Int), .int .i64 (n : Int)]) (.int .i64 1)).run Tryz.prog W = .ok (.int .i64 (n : Int)) W := fun _ => by kernel_rfl
  clear hm hc hk hn
  unfold X.v
  go_enter Tryz.func63, Tryz.ntmps63
  go_wp2_with fail
  refine start1c (fun W0 hB hG hsz => ?_)
  have HB := mkH hB
  have HG := mkH hG
  have HNV : Hid (encE ⟨(k : Int), (n : Int), r⟩ = (encN (k : Int) ++ encN (n : Int)) ++ encRp r) := mkH (by unfold encE; simp only; rw [List.append_assoc])
  have cN : W0.cell? ⟨w.heap.size, 0, none⟩ = some (.int .i64 (n : Int)) := hB.cell 0
  clear hB hG hsz
  by_cases hck : checkR r = 0
  · refine (reply_ok W0 r ga gc da dc ra rc (HM.out.below HG.out) HC.out hck).mono ?_
    rintro e1 W1 ⟨v, rfl, hw1, hb1⟩
    have hlr := rp_len hck
    obtain ⟨va, vc, rfl⟩ := own_form hw1
    obtain ⟨-, -, hrow⟩ := Row.own hw1
    have HR1 := mkH hrow
    have HB1 := mkH (bx_bel HB.out hb1)
    have HG1 := mkH (HG.out.trans (hb1.mono HG.out.size))
    have HCK := mkH hck
    have cN1 : W1.cell? ⟨w.heap.size, 0, none⟩ = some (.int .i64 (n : Int)) := HB1.out.cell 0
    generalize hRB : encRp r = RB at *
    clear hw1 hb1 hrow hck cN HB HG HM HC
    obtain ⟨ek, hek⟩ : ∃ ek, encN (k : Int) = ek := ⟨_, rfl⟩
    obtain ⟨en, hen⟩ : ∃ en, encN (n : Int) = en := ⟨_, rfl⟩
    have hk9 : ek.length ≤ 9 := by rw [← hek]; exact encN_len _ (by omega)
    have hn9 : en.length ≤ 9 := by rw [← hen]; exact encN_len _ (by omega)
    have HEK : Hid (enc k = ek) := mkH (by rw [← hek]; rfl)
    have HEN : Hid (enc n = en) := mkH (by rw [← hen]; rfl)
    rw [hek, hen] at HNV
    clear hek hen hRB
    go_wp2_with fail
    go_loopw [8, 24] (fun b i wr => ∃ (j : Nat) (ba : Option Addr) (bc : Nat) (pr : Bs), j ≤ 2 ∧ i = .int .i64 (j : Int) ∧ b = .slice ba pr.length bc ∧ Hid (pr = if j = 0 then [] else if j = 1 then ek else ek ++ en) ∧ Hid (wr.ownsRow W1.heap.size 5 1 (.slice ba pr.length bc) pr.length (U pr)) ∧ Hid (Below W1.heap.size W1 wr)) (fun _ i _ => 2 - (intOf i).toNat)
    case atStart => exact ⟨0, none, 0, [], Nat.zero_le _, rfl, rfl, mkH rfl, mkH (by simpa [U] using World.ownsRow_nil W1 _ _ _), mkH (Below.refl _ _)⟩
    case round =>
      obtain ⟨j, ba, bc, pr, hj, rfl, rfl, HPR, HOW, HBE⟩ := hrel
      obtain ⟨-, -, hrb⟩ := Row.own HOW.out
      have HRB := mkH hrb
      clear hrb
      rcases (by omega : j = 0 ∨ j = 1 ∨ j = 2) with rfl | rfl | rfl
      · have hpr : pr = [] := HPR.out
        subst hpr
        go_wp2_with (first | (go_at_call 76; refine (num_ok _ ba bc k [] HRB.out (by simp) (by omega)).mono ?_; rintro e1 W3 ⟨v3, rfl, hw3, hb3⟩; rw [HEK.out] at hw3; simp only [List.nil_append, List.length_nil, Nat.zero_add] at hw3; obtain ⟨b3, c3, rfl⟩ := own_form hw3; have HW3 := mkH hw3; have HB3 := mkH hb3; clear hw3 hb3))
        refine ⟨⟨1, b3, c3, ek, by omega, by go_num, rfl, mkH rfl, mkH (Go.Proofs.YtenkgpfeifflnaaGreat.Swr.own_lo HW3.out HBE.out.size), mkH (HBE.out.trans (HB3.out.mono HBE.out.size))⟩, ?_⟩
        simp [intOf]
      · have hpr : pr = ek := HPR.out
        subst hpr
        go_wp2_with (first | (go_at_call 76; refine (num_ok _ ba bc n pr HRB.out (by omega) (by omega)).mono ?_; rintro e1 W3 ⟨v3, rfl, hw3, hb3⟩; rw [HEN.out, ← List.length_append] at hw3; obtain ⟨b3, c3, rfl⟩ := own_form hw3; have HW3 := mkH hw3; have HB3 := mkH hb3; clear hw3 hb3))
        refine ⟨⟨2, b3, c3, pr ++ en, by omega, by go_num, by rw [List.length_append], mkH rfl, mkH (Go.Proofs.YtenkgpfeifflnaaGreat.Swr.own_lo HW3.out HBE.out.size), mkH (HBE.out.trans (HB3.out.mono HBE.out.size))⟩, ?_⟩
        simp [intOf]
      · have hpr : pr = ek ++ en := HPR.out
        have hprl : pr.length ≤ 18 := by rw [hpr, List.length_append]; omega
        have HSR := mkH (Row.src (P := Tryz.prog) Tryz.underlying79 (HR1.out.below HBE.out) vc)
        have HENC : Hid (encE ⟨(k : Int), (n : Int), r⟩ = pr ++ RB) := mkH (by rw [HNV.out, hpr])
        have hszw := HBE.out.size
        clear hpr HPR HNV
        go_wp2_with (at_builtin; refine (wpList_append_own_src _ rfl (.tmp 37) (.tmp 38) 79 79 rfl W1.heap.size 5 (.int .u8 0) 1 1 Tryz.underlying79 info8 rfl (by decide) _ pr.length (U pr) rfl HOW.out _ RB.length (U RB) rfl HSR.out (by unfold maxLen; omega) (by omega) hszw ?_); intro v5 W5 hw5 hg5; have hb5 := below_own HOW.out hg5 (Below.refl _ _) hszw; rw [← U_append, ← List.length_append] at hw5; obtain ⟨a5, c5, rfl⟩ := own_form hw5; have hcv := conv_any (Row.own hw5).2.2 c5; rw [List.length_append] at hcv; have HB5 := mkH (HBE.out.trans hb5); clear hw5 hg5 hb5)
        go_ret2
        exact ⟨HG1.out.trans (HB5.out.mono HG1.out.size), .inl ⟨HCK.out, by rw [HENC.out]; rfl⟩⟩
  · refine (reply_bad W0 r ga gc da dc ra rc (HM.out.below HG.out) HC.out hck).mono ?_
    rintro e1 W1 ⟨rfl, hb1⟩
    have HG1 := mkH (HG.out.trans (hb1.mono HG.out.size))
    have HCK := mkH hck
    obtain ⟨er, her⟩ : ∃ er : Int, (checkR r : Int) = er := ⟨_, rfl⟩
    have hne : ¬ er = 0 := by omega
    have hne2 : (er != 0) = true := by simpa using hne
    rw [her]
    clear hb1 hck her HB HG
    go_wp2_with fail
    go_ret2
    exact ⟨HG1.out, .inr ⟨HCK.out, er, hne, rfl⟩⟩
end Go.Proofs.YtenkgpfeifflnaaGreat.Swr
