/-
  ChMy ChMz ChBp ChOs ChOa ChOe ChOl Kit3, joined by mrg.py.
-/
import Derived.Test.YtcpmcfagibmboabGreatRqF
import Derived.Test.YtcpmcfagibmboabGreatChG
import Derived.Test.YtcpmcfagibmboabGreatChLd
import Derived.Test.YtcpmcfagibmboabGreatRqE
import Derived.Test.YtcpmcfagibmboabGreatRqC
import Derived.Test.YtcpmcfagibmboabGreatChE
import Derived.Test.YtcpmcfagibmboabGreatChW
import Derived.Deep.DeepCutAuto

namespace Go.Proofs.YtcpmcfagibmboabGreat.My
open Go.RowKit Go.Shelf Gf Gk Mp Cl Ma Mv Mw Mx
open Ct (txt)
open Cu (nums)
open Cp (Pc mayC mayC_iff)
open Cr (RdP pC RowP RowS)
open Kt
open At (RowT)
open Wi (Cm readCm)
open Wk (Cv)
open Wu (RdC Zc)
open Go.Proofs.YtcpmcfagibmboabGreat.Nm (Srt atX)
set_option linter.unusedVariables false
set_option linter.unusedSimpArgs false
set_option maxRecDepth 20000

/-- A done's cells. -/
def Dw (s : Int) (c : Cm) (d : Value) (er n : Int) (dd : Value) (f : Bool) : Array Value := #[.int .i64 s, .int .i64 0,
  .int .i64 c.kind, .int .i64 c.client, .int .i64 c.num, .int .i64 c.time, .int .i64 c.queue, .string (S c.group), .string (S c.body), .string (S c.token), .string (S c.attempt), .int .i64 c.max, .int .i64 c.secs,
  .int .i64 c.rc.q, .string (S c.rc.g), .int .i64 c.rc.s, .int .i64 c.rc.c, .int .i64 c.lo, .int .i64 c.hi, .int .i64 c.to, d,
  .int .i64 er, .int .i64 0, .int .i64 n, .slice none 0 0, dd, .slice none 0 0, .bool f]
def Zw : Array Value := Dw 0 Cm.none (.slice none 0 0) 0 0 (.slice none 0 0) false
theorem build_dw (w : World) (s : Int) (c : Cm) (d : Value) (er n : Int) (dd : Value) (f : Bool) : (Instr.build 42 #[(0, .int .i64 s), (2, .agg (Cv c d)), (3, .agg (Rv er n dd)), (4, .bool f)]).run Tryz.prog w = .ok (.agg (Dw s c d er n dd f)) w := by kernel_rfl
theorem build_sl (w : World) (s : Int) : (Instr.build 42 #[(0, .int .i64 s)]).run Tryz.prog w = .ok (.agg (Dw s Cm.none (.slice none 0 0) 0 0 (.slice none 0 0) false)) w := by kernel_rfl
theorem infoW : (Tryz.prog.info? 42).map (·.size) = some 28 := by kernel_rfl
theorem infoC : (Tryz.prog.info? 33).map (·.size) = some 19 := by kernel_rfl
theorem load_dw {w : World} {b : Nat} {s : Int} {c : Cm} {d : Value} {er n : Int} {dd : Value} {f : Bool} (h : Bx w b (Dw s c d er n dd f) 42) : (loadVar 42 ⟨b, 0, none⟩).run Tryz.prog w = .ok (.agg (Dw s c d er n dd f)) w := Wk.load_bx (P := Tryz.prog) h Tryz.underlying42 rfl (by kernel_rfl)
theorem Dw_one (s : Int) (c : Cm) (er n : Int) (a1 a2 : Option Addr) (k1 k2 c1 c2 : Nat) (f : Bool) : (Dw s c (.slice a1 k1 c1) er n (.slice a2 k2 c2) f).all (fun x => x.oneCell') = true := by unfold Dw; rw [List.all_toArray]; rfl
theorem Cv_one' (c : Cm) (ao : Option Addr) (n cap : Nat) : (Cv c (.slice ao n cap)).all (fun x => x.oneCell') = true := by unfold Cv; rw [List.all_toArray]; rfl
theorem wpList_stn {P : Program} {w : World} {ops : Array Oper} {rest : List Oper} {o : Oper} {a : Act} {Q : Exit → Act → World → Prop} (hgd : o.guard = none) {ty : TypeId} {x y : Operand} {cs zs : Array Value} {t : TypeId} (ho : o.op = .store ty x y) (hx : a.eval x = .pointer (some ⟨w.heap.size, 0, none⟩)) (hy : a.eval y = .agg cs) (hi : (P.info? ty).map (·.size) = some cs.size) (hold : zs.size = cs.size) (h1 : cs.all (fun x => x.oneCell') = true)
    (h : ∀ W, Bx W w.heap.size cs t → Below w.heap.size w W → wpList P ops Q rest (a.put o.dst undef) W) : wpList P ops Q (o :: rest) a (w.alloc (.cells zs t)) :=
  wpList_st hgd ho hx hy (Bx.new w zs t) hi hold h1 (h _ (Bx.new w zs t).row (below_setRow ((Below.refl _ _).alloc (Nat.le_refl _) _) (Nat.le_refl _) _))

/-- The row of a chart isn't in the machine's own block. -/
theorem nr_self {w : World} {b m : Nat} {e : Int} {ps : List Pc} {s : Int} {D : List Dd} (h : Mk w b m e ps s D) (hm : mayC e ps = true) : Nr w b b := by
  obtain ⟨⟨a, cp, q1, q2⟩, -⟩ := h
  intro x l c hx hb
  rw [q1.cell 1 _ rfl] at hx
  injection hx with hx
  injection hx with h1 h2 h3
  have hps : 0 < ps.length := by
    cases ps with
    | nil => exact (by have h0 : (0 : Int) = 65536 := ((mayC_iff _ _).1 hm).2; omega)
    | cons y r => simp
  obtain ⟨b', off, e1, hc⟩ := q2.r hps
  rw [e1] at h1
  injection h1 with h1
  subst h1
  have hb' : b' = b := hb
  subst hb'
  have h4 := hc 0 (ps[0]) (by simp [hps])
  have g0 := h4 0 _ (by rfl)
  have g1 := h4 1 _ (by rfl)
  have hk : ∀ i : Nat, w.cell? ⟨b', i, none⟩ = (#[.int .i64 e, .slice a ps.length cp, .int .i64 s, .map (some m)] : Array Value)[i]? := fun i => by
    have h5 : w.heap[b']? = some (.cells #[.int .i64 e, .slice a ps.length cp, .int .i64 s, .map (some m)] 59 (0, 0)) := q1
    simp [World.cell?, h5]
  rw [hk] at g0 g1
  rcases (by omega : off = 0 ∨ off = 1 ∨ off = 2 ∨ off = 3 ∨ 4 ≤ off) with o | o | o | o | o
  · subst o; simp at g1
  · subst o; simp at g0
  · subst o; simp at g1
  · subst o; simp at g0
  · rw [Array.getElem?_eq_none (by simp; omega)] at g0; exact absurd g0 (by simp)
theorem mk_slots {w : World} {b m : Nat} {e : Int} {ps : List Pc} {s : Int} {D : List Dd} (h : Mk w b m e ps s D) (hm : mayC e ps = true) (s' : Int) : Mk (w.setCell ⟨b, 2, none⟩ (.int .i64 s')) b m e ps s' D := by
  have hn := nr_self h hm
  obtain ⟨⟨a, cp, q1, q2⟩, q3⟩ := h
  have hf := q1.frset 2 (.int .i64 s')
  have h1 := q1.cell 1 _ rfl
  have hbm : b ≠ m := Md.cellne q3 h1
  exact ⟨⟨a, cp, q1.set 2 (.int .i64 s'), rdP_fr q2 hf (fun x hx => by subst hx; exact hn x _ _ h1)⟩, q3.fr hf (fun h => hbm h.symm)⟩
theorem nr_slots {w : World} {b m : Nat} {e : Int} {ps : List Pc} {s : Int} {D : List Dd} (h : Mk w b m e ps s D) (v : Value) {k : Nat} (hn : Nr w b k) : Nr (w.setCell ⟨b, 2, none⟩ v) b k := by
  obtain ⟨⟨a, cp, q1, q2⟩, q3⟩ := h
  intro x l c hx
  rw [(q1.set 2 v).cell 1 _ rfl] at hx
  exact hn x l c (by rw [q1.cell 1 _ rfl]; exact hx)
theorem nr_fr {w w' : World} {b k k2 : Nat} (hn : Nr w b k) (hb : b < w.heap.size) (hf : Gf.Fr (fun q => q = k2) w w') (hne : b ≠ k2) : Nr w' b k := fun x l c hx => hn x l c (by rw [← World.cell?_of_block (w := w) (a := ⟨b, 1, none⟩) (hf.heap hb hne)]; exact hx)
/-- A row of bytes lies outside a machine. -/
theorem row_mk {w w' : World} {ao : Option Addr} {bs : List UInt8} {b m : Nat} {e : Int} {ps : List Pc} {s : Int} {D : List Dd} (hr : Row w ao bs) (h : Mk w b m e ps s D) (hf : Gf.Fr (fun q => q = b ∨ q = m) w w') : Row w' ao bs := by
  obtain ⟨⟨a, cp, q1, q2⟩, q3⟩ := h
  intro hl
  obtain ⟨bk, off, e1, hc⟩ := hr hl
  refine ⟨bk, off, e1, fun i hi => ?_⟩
  have h1 := hc i hi
  have hne : ¬ (bk = b ∨ bk = m) := by
    rintro (rfl | rfl)
    · have h5 : w.heap[bk]? = some (.cells #[.int .i64 e, .slice a ps.length cp, .int .i64 s, .map (some m)] 59 (0, 0)) := q1
      have h2 := h1
      simp only [World.cell?, h5] at h2
      match off + i, h2 with
      | 0, h2 => simp at h2
      | 1, h2 => simp at h2
      | 2, h2 => simp at h2
      | 3, h2 => simp at h2
      | k + 4, h2 => simp at h2
    · exact Md.cellne q3 h1 rfl
  rw [World.cell?_of_block (w := w) (hf.heap (World.block_lt_of_cell? w _ h1) hne)]
  exact h1
theorem run_bd {P : Program} {w : World} {o : Oper} {a : Act} {t : TypeId} {parts : Array (Nat × Operand)} {vs : Array (Nat × Value)} {v : Value} (ho : o.op = .build t parts) (hp : (parts.map fun (i, x) => (i, a.eval x)) = vs) (h : (Instr.build t vs).run P w = .ok v w) : (execOp a.eval o).run P w = .ok (.value v) w := by
  unfold execOp
  simp only [ho, hp, Sem.run_bind, Sem.run_pure, Result.andThen_ok, h]
theorem wpList_bd {P : Program} {w : World} {ops : Array Oper} {rest : List Oper} {o : Oper} {a : Act} {Q : Exit → Act → World → Prop} (hgd : o.guard = none) {t : TypeId} {parts : Array (Nat × Operand)} {vs : Array (Nat × Value)} {v : Value} (ho : o.op = .build t parts) (hp : (parts.map fun (i, x) => (i, a.eval x)) = vs) (h : (Instr.build t vs).run P w = .ok v w)
    (hk : wpList P ops Q rest (a.put o.dst v) w) : wpList P ops Q (o :: rest) a w := by
  refine wpList_plain hgd fun _ hK => ?_
  unfold Oper.wp
  rw [run_bd ho hp h]
  exact hK _ _ hk

theorem read_ok {w : World} (ao : Option Addr) (cap : Nat) (bs : List UInt8) (hr : Row w ao bs) (hlen : bs.length ≤ 1000000000) (hcap : bs.length ≤ cap) (h63 : cap ≤ 9223372036854775807) {c : Cm} (hrd : readCm bs = .ok c) :
    Calls Tryz.prog 19 #[.slice ao bs.length cap] w fun e w' => ∃ da dc, e = .returned (.tuple #[.agg (Cv c (.slice da c.data.length dc)), .int .i64 0]) ∧ (∀ a, da = some a → w.heap.size ≤ a.block) ∧ Below w.heap.size w w' := by
  refine (Wu.readCmd_any w ao cap bs hr hlen hcap h63).mono ?_
  rintro e2 V2 ⟨hb2, (⟨c', da, dc, h1, rfl, hrow, hfr, hdl⟩ | ⟨er', h1, _, _⟩)⟩
  · have h2 := hrd.symm.trans h1; injection h2 with h2; subst h2
    exact ⟨da, dc, rfl, hfr, hb2⟩
  · rw [hrd] at h1; exact absurd h1 (by simp)
/-- What Apply leaves and tells. -/
def ApR (w : World) (b m : Nat) (s : Int) (c : Cm) (er n e' : Int) (ps' : List Pc) (D' : List Dd) (f : Bool) (x : Ending) (w' : World) : Prop := ∃ da dl dc va vn vc, x = .returned (.agg (Dw s c (.slice da dl dc) er n (.slice va vn vc) f)) ∧ (∀ y, da = some y → w.heap.size ≤ y.block) ∧ (er = 0 → vn = 1 ∧ RowT w' va [txt (nums e' ps'.length ps')]) ∧ Mk w' b m e' ps' (s + 1) D' ∧ (∀ k, k < w.heap.size → Nr w b k → Nr w' b k) ∧ Gf.Fr (fun q => q = b ∨ q = m) w w'
set_option maxHeartbeats 4000000 in
theorem apply_ok {w : World} {b m : Nat} {e : Int} {ps : List Pc} {s : Int} {D : List Dd} (h : Mk w b m e ps s D) (hm : mayC e ps = true) (hs0 : 0 ≤ s) (hs1 : s ≤ 1000000000000) (ao : Option Addr) (cap : Nat) (bs : List UInt8) (hr0 : Row w ao bs) (hlen : bs.length ≤ 1000000000) (hcap : bs.length ≤ cap) (h63 : cap ≤ 9223372036854775807) (c : Cm) (hrd : readCm bs = .ok c)
    (er n e' : Int) (ps' : List Pc) (D' : List Dd) (f : Bool) (hAn : ∀ W d, d.oneCell' = true → Mk W b m e ps (s + 1) D → Calls Tryz.prog 20 #[.pointer (some ⟨b, 0, none⟩), .agg (Cv c d)] W (AnR W b m er n e' ps' (s + 1) D' f)) :
    Calls Tryz.prog 6 #[.pointer (some ⟨b, 0, none⟩), .slice ao bs.length cap] w (ApR w b m s c er n e' ps' D' f) := by
  have HH := mkH h
  have HMC := mkH hm
  have HRW := mkH hr0
  have HRD := mkH hrd
  have HAN := mkH hAn
  have HLN := mkH (And.intro hlen (And.intro hcap h63))
  have HB := mkH ((Below.refl w.heap.size w).alloc (Nat.le_refl _) (.cells Zw 42))
  have HD := mkH (Bx.new w Zw 42)
  have HNR : Hid (∀ k, k ≤ w.heap.size → (k < w.heap.size → Nr w b k) → Nr (w.alloc (.cells Zw 42)) b k) := mkH (fun k h1 h2 => by
    have hb := (Below.refl w.heap.size w).alloc (Nat.le_refl _) (.cells Zw 42)
    rcases Nat.lt_or_eq_of_le h1 with h3 | h3
    · exact (h2 h3).bel h.lt.1 hb
    · exact (Nr.of h hm (Nat.le_of_eq h3.symm)).bel h.lt.1 hb)
  have hbl := h.lt.1
  have hml := h.lt.2
  clear h hr0 hrd hAn hlen hcap h63 hm
  go_enter Tryz.func6, Tryz.ntmps6
  go_upto_region 1 with fail
  change Code.wp _ _ _ _ (w.alloc (.cells Zw 42))
  generalize w.alloc (.cells Zw 42) = V at *
  have HH0 := mkH (HH.out.below HB.out)
  have c2 : V.cell? ⟨b, 2, none⟩ = some (.int .i64 s) := by obtain ⟨⟨a, cp, q1, -⟩, -⟩ := HH0.out; exact q1.cell 2 _ rfl
  have f2 : V.frozen? ⟨b, 2, none⟩ = false := by obtain ⟨⟨a, cp, q1, -⟩, -⟩ := HH0.out; exact q1.frozen 2
  go_upto_region 5 with (go_at_call 18; refine (made_any HH0.out).mono ?_; rintro e1 w1 ⟨rfl, h1⟩; have h2 := h1.symm; clear h1; subst h2)
  have HF1 : Hid (Gf.Fr (fun q => q = b) V (V.setCell ⟨b, 2, none⟩ (.int .i64 (s + 1)))) := mkH (by obtain ⟨⟨a, cp, q1, -⟩, -⟩ := HH0.out; exact q1.frset 2 _)
  have HM1 := mkH (mk_slots HH0.out HMC.out (s + 1))
  have HD1 := mkH (HD.out.fr HF1.out (by omega))
  have HN1 : Hid (∀ k, k ≤ w.heap.size → (k < w.heap.size → Nr w b k) → Nr (V.setCell ⟨b, 2, none⟩ (.int .i64 (s + 1))) b k) := mkH (fun k h1 h2 => nr_slots HH0.out _ (HNR.out k h1 h2))
  have HR1 := mkH (row_mk (HRW.out.below HB.out) HH0.out (HF1.out.mono (fun k hk => .inl hk)))
  have HFw : Hid (Gf.Fr (fun q => q = b) w (V.setCell ⟨b, 2, none⟩ (.int .i64 (s + 1)))) := mkH ((Gf.Fr.ofBelow HB.out).trans HF1.out (fun k hk => .inl hk))
  clear c2 f2 HB HH0 HD HNR HRW HF1
  generalize V.setCell ⟨b, 2, none⟩ (.int .i64 (s + 1)) = V1 at *
  go_upto_region 6 with (first
    | (refine wpList_stn rfl (ty := 33) (x := .tmp 6) (y := .tmp 28) (cs := (Cv c (.slice da c.data.length dc))) (zs := Zc) rfl rfl rfl infoC rfl (Cv_one' _ _ _ _) (fun V3 hC3 hb3 => ?_); have HC3 := mkH hC3; have HB3 := mkH hb3; clear hC3 hb3)
    | (go_at_call 19; refine (read_ok ao cap bs HR1.out HLN.out.1 HLN.out.2.1 HLN.out.2.2 HRD.out).mono ?_; rintro e2 V2 ⟨da, dc, rfl, hfr, hb2⟩; have HB2 := mkH hb2; have HFR := mkH hfr; clear hb2 hfr))
  have HB13 := mkH (HB2.out.trans (HB3.out.mono HB2.out.size))
  have HM3 := mkH (HM1.out.below HB13.out)
  have HD3 := mkH (HD1.out.bel HB13.out)
  have HN3 : Hid (∀ k, k ≤ w.heap.size → (k < w.heap.size → Nr w b k) → Nr V3 b k) := mkH (fun k h1 h2 => (HN1.out k h1 h2).bel HM1.out.lt.1 HB13.out)
  have HF3 := mkH (HFw.out.trans (Gf.Fr.ofBelow (F := fun q => q = b) HB13.out) (fun k hk => .inl hk))
  have HZ3 := mkH (Nat.le_trans HFw.out.size HB2.out.size)
  have HFR3 : Hid (∀ y, da = some y → w.heap.size ≤ y.block) := mkH (fun y hy => Nat.le_trans HFw.out.size (HFR.out y hy))
  clear HM1 HD1 HN1 HFw HR1 HB13
  go_wp2_with (first
    | (refine Gk.wpList_ld (ty := 33) (x := .tmp 6) (p := ⟨V2.heap.size, 0, none⟩) (v := .agg (Cv c (.slice da c.data.length dc))) rfl rfl rfl (load_cv HC3.out) ?_))
  refine (HAN.out V3 _ rfl HM3.out).mono ?_
  rintro x w4 ⟨v, rfl, va, vn, vc, rfl, hd1, hd2, hmk, hnr, hf4⟩
  have HC4 := mkH (HC3.out.fr hf4 (by have := HZ3.out; omega))
  have HD4 := mkH (HD3.out.fr hf4 (by omega))
  have HD1 := mkH hd1
  have HM4 := mkH hmk
  have hdl3 := HD3.out.lt
  have HN4 : Hid (∀ k, k ≤ w.heap.size → (k < w.heap.size → Nr w b k) → Nr w4 b k) := mkH (fun k h1 h2 => hnr k (by omega) (HN3.out k h1 h2))
  have HF4 := mkH ((HF3.out.mono (G := fun q => q = b ∨ q = m) (fun k hk => .inl hk)).trans hf4 (fun k hk => .inl hk))
  clear hd1 hd2 hmk hnr hf4 HC3 HD3 HM3 HN3 HF3 HAN
  go_wp2_with (first
    | (refine wpList_bd rfl (v := .agg (Dw s c (.slice da c.data.length dc) er n (.slice va vn vc) f)) rfl (by simp only [List.map_toArray, List.map_cons, List.map_nil]; rfl) (build_dw _ s c _ er n _ f) ?_)
    | (refine Gk.wpList_st rfl (ty := 42) (x := .tmp 4) (y := .tmp 44) (cs := Dw s c (.slice da c.data.length dc) er n (.slice va vn vc) f) (old := Zw) rfl rfl rfl HD5.out infoW rfl (Dw_one _ _ _ _ _ _ _ _ _ _ _) ?_)
    | (refine Gk.wpList_ld (ty := 40) (x := .tmp 8) (p := ⟨w4.heap.size, 0, none⟩) (v := .agg (Rv er n (.slice va vn vc))) rfl rfl rfl (load_rv HP5.out) ?_)
    | (refine Gk.wpList_ld (ty := 33) (x := .tmp 6) (p := ⟨V2.heap.size, 0, none⟩) (v := .agg (Cv c (.slice da c.data.length dc))) rfl rfl rfl (load_cv HC5.out) ?_)
    | (refine wpList_stn rfl (ty := 40) (x := .tmp 8) (y := .tmp 38) (cs := (Rv er n (.slice va vn vc))) (zs := Rv 0 0 (.slice none 0 0)) rfl rfl rfl infoR rfl (Rv_one _ _ _ _ _) (fun V5 hP5 hb5 => ?_); have HP5 := mkH hP5; have HB5 := mkH hb5; have HC5 := mkH (HC4.out.bel hb5); have HD5 := mkH (HD4.out.bel hb5); clear hP5 hb5 HC4 HD4))
  have hf7 : Gf.Fr (fun k => k = w.heap.size) V5 (V5.setRow w.heap.size (Dw s c (.slice da c.data.length dc) er n (.slice va vn vc) f)) := Gk.Bx.frrow _
  have hx7 : Gk.Bx (V5.setRow w.heap.size (Dw s c (.slice da c.data.length dc) er n (.slice va vn vc) f)) w.heap.size (Dw s c (.slice da c.data.length dc) er n (.slice va vn vc) f) 42 := HD5.out.row
  have hN5 : ∀ k, k ≤ w.heap.size → (k < w.heap.size → Nr w b k) → Nr V5 b k := fun k h1 h2 => (HN4.out k h1 h2).bel HM4.out.lt.1 HB5.out
  have hm5 := HM4.out.below HB5.out
  refine bodyPost_ret (Gk.res_c rfl _ _ _ rfl (load_dw hx7)) rfl ⟨_, _, _, _, _, _, rfl, HFR3.out, fun h0 => ?_, mk_other hm5 hf7 (by omega) (by omega) (hN5 _ (Nat.le_refl _) (fun h => absurd h (Nat.lt_irrefl _))), fun k h1 h2 => nr_fr (hN5 k (Nat.le_of_lt h1) (fun _ => h2)) hm5.lt.1 hf7 (by omega), (HF4.out.trans (Gf.Fr.ofBelow (F := fun q => q = b ∨ q = m) HB5.out) (fun k hk => .inl hk)).trans hf7 (fun k hk => .inr (by have h : k = w.heap.size := hk; omega))⟩
  obtain ⟨g1, g2, g3⟩ := HD1.out h0
  exact ⟨g1, rowT_fr (g2.below HB5.out) HD5.out hf7 (fun x hx => by have := g3 x hx; omega)⟩

theorem read_bad {w : World} (ao : Option Addr) (cap : Nat) (bs : List UInt8) (hr : Row w ao bs) (hlen : bs.length ≤ 1000000000) (hcap : bs.length ≤ cap) (h63 : cap ≤ 9223372036854775807) {ee : Nat} (hrd : readCm bs = .error ee) :
    Calls Tryz.prog 19 #[.slice ao bs.length cap] w fun e w' => ee ≠ 0 ∧ e = .returned (.tuple #[.agg Zc, .int .i64 ee]) ∧ Below w.heap.size w w' := by
  refine (Wu.readCmd_any w ao cap bs hr hlen hcap h63).mono ?_
  rintro e2 V2 ⟨hb2, (⟨c', da, dc, h1, rfl, hrow, hfr, hdl⟩ | ⟨er', h1, h2, h3⟩)⟩
  · rw [hrd] at h1; exact absurd h1 (by simp)
  · rw [hrd] at h1; injection h1 with h1; subst h1; exact ⟨h2, h3, hb2⟩
/-- What Apply tells of what can't be read. -/
def ApB (w : World) (b m : Nat) (e : Int) (ps : List Pc) (s : Int) (D : List Dd) (x : Ending) (w' : World) : Prop := x = .returned (.agg (Dw s Cm.none (.slice none 0 0) 0 0 (.slice none 0 0) false)) ∧ Mk w' b m e ps (s + 1) D ∧ (∀ k, k < w.heap.size → Nr w b k → Nr w' b k) ∧ Gf.Fr (fun q => q = b ∨ q = m) w w'
set_option maxHeartbeats 4000000 in
theorem apply_bad {w : World} {b m : Nat} {e : Int} {ps : List Pc} {s : Int} {D : List Dd} (h : Mk w b m e ps s D) (hm : mayC e ps = true) (hs0 : 0 ≤ s) (hs1 : s ≤ 1000000000000) (ao : Option Addr) (cap : Nat) (bs : List UInt8) (hr0 : Row w ao bs) (hlen : bs.length ≤ 1000000000) (hcap : bs.length ≤ cap) (h63 : cap ≤ 9223372036854775807) (ee : Nat) (hrd : readCm bs = .error ee) :
    Calls Tryz.prog 6 #[.pointer (some ⟨b, 0, none⟩), .slice ao bs.length cap] w (ApB w b m e ps s D) := by
  have HH := mkH h
  have HMC := mkH hm
  have HRW := mkH hr0
  have HRD := mkH hrd
  have HLN := mkH (And.intro hlen (And.intro hcap h63))
  have HB := mkH ((Below.refl w.heap.size w).alloc (Nat.le_refl _) (.cells Zw 42))
  have HD := mkH (Bx.new w Zw 42)
  have HNR : Hid (∀ k, k ≤ w.heap.size → (k < w.heap.size → Nr w b k) → Nr (w.alloc (.cells Zw 42)) b k) := mkH (fun k h1 h2 => by
    have hb := (Below.refl w.heap.size w).alloc (Nat.le_refl _) (.cells Zw 42)
    rcases Nat.lt_or_eq_of_le h1 with h3 | h3
    · exact (h2 h3).bel h.lt.1 hb
    · exact (Nr.of h hm (Nat.le_of_eq h3.symm)).bel h.lt.1 hb)
  have hbl := h.lt.1
  have hml := h.lt.2
  clear h hr0 hrd hlen hcap h63 hm
  go_enter Tryz.func6, Tryz.ntmps6
  go_upto_region 1 with fail
  change Code.wp _ _ _ _ (w.alloc (.cells Zw 42))
  generalize w.alloc (.cells Zw 42) = V at *
  have HH0 := mkH (HH.out.below HB.out)
  have c2 : V.cell? ⟨b, 2, none⟩ = some (.int .i64 s) := by obtain ⟨⟨a, cp, q1, -⟩, -⟩ := HH0.out; exact q1.cell 2 _ rfl
  have f2 : V.frozen? ⟨b, 2, none⟩ = false := by obtain ⟨⟨a, cp, q1, -⟩, -⟩ := HH0.out; exact q1.frozen 2
  go_upto_region 5 with (go_at_call 18; refine (made_any HH0.out).mono ?_; rintro e1 w1 ⟨rfl, h1⟩; have h2 := h1.symm; clear h1; subst h2)
  have HF1 : Hid (Gf.Fr (fun q => q = b) V (V.setCell ⟨b, 2, none⟩ (.int .i64 (s + 1)))) := mkH (by obtain ⟨⟨a, cp, q1, -⟩, -⟩ := HH0.out; exact q1.frset 2 _)
  have HM1 := mkH (mk_slots HH0.out HMC.out (s + 1))
  have HD1 := mkH (HD.out.fr HF1.out (by omega))
  have HN1 : Hid (∀ k, k ≤ w.heap.size → (k < w.heap.size → Nr w b k) → Nr (V.setCell ⟨b, 2, none⟩ (.int .i64 (s + 1))) b k) := mkH (fun k h1 h2 => nr_slots HH0.out _ (HNR.out k h1 h2))
  have HR1 := mkH (row_mk (HRW.out.below HB.out) HH0.out (HF1.out.mono (fun k hk => .inl hk)))
  have HFw : Hid (Gf.Fr (fun q => q = b) w (V.setCell ⟨b, 2, none⟩ (.int .i64 (s + 1)))) := mkH ((Gf.Fr.ofBelow HB.out).trans HF1.out (fun k hk => .inl hk))
  clear c2 f2 HB HH0 HD HNR HRW HF1
  generalize V.setCell ⟨b, 2, none⟩ (.int .i64 (s + 1)) = V1 at *
  go_wp2_with (first
    | (refine wpList_bd rfl (v := .agg (Dw s Cm.none (.slice none 0 0) 0 0 (.slice none 0 0) false)) rfl (by simp only [List.map_toArray, List.map_cons, List.map_nil]; rfl) (build_sl _ s) ?_)
    | (refine Gk.wpList_st rfl (ty := 42) (x := .tmp 4) (y := .tmp 33) (cs := Dw s Cm.none (.slice none 0 0) 0 0 (.slice none 0 0) false) (old := Zw) rfl rfl rfl HD5.out infoW rfl (Dw_one _ _ _ _ _ _ _ _ _ _ _) ?_)
    | (refine wpList_stn rfl (ty := 33) (x := .tmp 6) (y := .tmp 28) (cs := Zc) (zs := Zc) rfl rfl rfl infoC rfl (Cv_one' _ _ _ _) (fun V3 hC3 hb3 => ?_); have HB5 := mkH (HB2.out.trans (hb3.mono HB2.out.size)); have HD5 := mkH (HD1.out.bel HB5.out); clear hC3 hb3)
    | (go_at_call 19; refine (read_bad ao cap bs HR1.out HLN.out.1 HLN.out.2.1 HLN.out.2.2 HRD.out).mono ?_; rintro e2 V2 ⟨hee, rfl, hb2⟩; have HB2 := mkH hb2; have hne : ((ee : Int) != 0) = true := (by simp; omega); clear hb2))
  have hf7 : Gf.Fr (fun k => k = w.heap.size) V3 (V3.setRow w.heap.size (Dw s Cm.none (.slice none 0 0) 0 0 (.slice none 0 0) false)) := Gk.Bx.frrow _
  have hx7 : Gk.Bx (V3.setRow w.heap.size (Dw s Cm.none (.slice none 0 0) 0 0 (.slice none 0 0) false)) w.heap.size (Dw s Cm.none (.slice none 0 0) 0 0 (.slice none 0 0) false) 42 := HD5.out.row
  have hm5 := HM1.out.below HB5.out
  have hN5 : ∀ k, k ≤ w.heap.size → (k < w.heap.size → Nr w b k) → Nr V3 b k := fun k h1 h2 => (HN1.out k h1 h2).bel HM1.out.lt.1 HB5.out
  exact bodyPost_ret (Gk.res_c rfl _ _ _ rfl (load_dw hx7)) rfl ⟨rfl, mk_other hm5 hf7 (by omega) (by omega) (hN5 _ (Nat.le_refl _) (fun h => absurd h (Nat.lt_irrefl _))), fun k h1 h2 => nr_fr (hN5 k (Nat.le_of_lt h1) (fun _ => h2)) hm5.lt.1 hf7 (by omega), (((HFw.out.mono (G := fun q => q = b ∨ q = m) (fun k hk => .inl hk)).trans (Gf.Fr.ofBelow (F := fun q => q = b ∨ q = m) HB5.out) (fun k hk => .inl hk)).trans hf7 (fun k hk => .inr (by have h : k = w.heap.size := hk; omega)))⟩
end Go.Proofs.YtcpmcfagibmboabGreat.My

namespace Go.Proofs.YtcpmcfagibmboabGreat.Mz
open Go.RowKit Go.Shelf Gf Gk Mp Cl Ma Mv Mw Mx My
open Cp (Pc mayC mayC_iff)
open Cr (RdP)
open Kt
set_option linter.unusedVariables false
set_option linter.unusedSimpArgs false
set_option maxRecDepth 20000
/-- What New answers of two shards. -/
def NwP (w : World) (x : Ending) (w' : World) : Prop := ∃ b m, x = .returned (.tuple #[.pointer (some ⟨b, 0, none⟩), .int .i64 0]) ∧ Mk w' b m 1 (Cp.fst 2) 0 [] ∧ w.heap.size ≤ b ∧ w.heap.size ≤ m ∧ Below w.heap.size w w'
set_option maxHeartbeats 2000000 in
theorem new_two (w : World) : Calls Tryz.prog 4 #[.int .i64 2] w (NwP w) := by
  have HF := mkH (Cg.first_any w 2)
  rw [show Cg.fsE 2 = (1, Cp.fst 2, 0) from rfl] at HF
  obtain ⟨ps, hps⟩ : ∃ ps, ps = Cp.fst 2 := ⟨_, rfl⟩
  unfold NwP
  rw [← hps] at HF ⊢
  clear hps
  go_enter Tryz.func4, Tryz.ntmps4
  go_wp2_with fail
  refine HF.out.mono ?_
  rintro x w1 ⟨a, c, rfl, ho, hb⟩
  have hal : Below w1.heap.size w1 (w1.alloc (.cells #[.int .i64 1, .slice a ps.length c] 51)) := (Below.refl _ w1).alloc (Nat.le_refl _) _
  have HX : Hid (Bx (w1.alloc (.cells #[.int .i64 1, .slice a ps.length c] 51)) w1.heap.size #[.int .i64 1, .slice a ps.length c] 51) := mkH (Bx.new _ _ _)
  have HRD := mkH (ho.rd.below hal)
  have HB := mkH (hb.trans (hal.mono hb.size))
  clear ho hb hal HF
  go_upto_region 4 with fail
  generalize w1.heap.size = B4 at *
  generalize w1.alloc (.cells #[.int .i64 1, .slice a ps.length c] 51) = W3 at *
  have hmm := @run_makeMap Tryz.prog
  have c0 : W3.cell? ⟨B4, 0, none⟩ = some (.int .i64 1) := HX.out.cell 0 _ rfl
  have c1 : W3.cell? ⟨B4, 1, none⟩ = some (.slice a ps.length c) := HX.out.cell 1 _ rfl
  go_wp2
  go_ret2
  have hb1 : Below W3.heap.size W3 (W3.alloc (.map #[] 0)) := (Below.refl _ W3).alloc (Nat.le_refl _) _
  have hz1 : (W3.alloc (.map #[] 0)).heap.size = W3.heap.size + 1 := by simp
  have hb2 : Below W3.heap.size W3 ((W3.alloc (.map #[] 0)).alloc (.cells #[.int .i64 1, .slice a ps.length c, .int .i64 0, .map (some W3.heap.size)] 59)) := hb1.alloc (by omega) _
  have hx : Bx ((W3.alloc (.map #[] 0)).alloc (.cells #[.int .i64 1, .slice a ps.length c, .int .i64 0, .map (some W3.heap.size)] 59)) (W3.heap.size + 1) #[.int .i64 1, .slice a ps.length c, .int .i64 0, .map (some W3.heap.size)] 59 := Bx.new1 W3 _ _ _
  have hs := HB.out.size
  exact ⟨W3.heap.size + 1, W3.heap.size, rfl, ⟨⟨a, c, hx, HRD.out.below hb2⟩, (Md.made W3).below ((Below.refl _ _).alloc (Nat.le_refl _) _)⟩, by omega, hs, HB.out.trans (hb2.mono hs)⟩
end Go.Proofs.YtcpmcfagibmboabGreat.Mz

namespace Go.Proofs.YtcpmcfagibmboabGreat.Bp
open Go.RowKit Pl Pw Pv Cp Cf Ct Cu La Lb Ld
set_option linter.unusedVariables false
set_option linter.unusedSimpArgs false

theorem flat_len (l : List Pc) : (l.flatMap n3).length = 3 * l.length := by
  have := nums_len 0 0 l
  simp only [nums, List.length_cons] at this
  omega
/-- Of two charts' texts of which one begins like the other one both are the same. -/
theorem good_pre {bs rest : List UInt8} {e e' : Int} {ps ps' : List Pc} (hl : (bs ++ rest).length ≤ 1000) (g : Ld.Good (bs ++ rest) e ps) (g' : Ld.Good bs e' ps') : rest = [] := by
  have n1 := g.nums hl
  have n2 := g'.nums (by simp at hl; omega)
  have h : txt (Cu.nums e ps.length ps) = txt (Cu.nums e' ps'.length ps') ++ rest := by rw [n1.1, n2.1]
  obtain ⟨c, hc, hc2⟩ := txt_pre _ _ _ n2.2 n1.2 h
  have hlen := congrArg List.length hc
  rw [List.length_append, nums_len, nums_len] at hlen
  have h2 : (ps.length : Int) = (ps'.length : Int) := by
    simp only [Cu.nums, List.cons_append, List.cons.injEq] at hc
    exact hc.2.1
  have h3 : c.length = 0 := by omega
  rw [List.eq_nil_of_length_eq_zero h3] at hc2
  exact hc2.symm
theorem no_cut {bs : List UInt8} {e : Int} {ps : List Pc} {i : Nat} (hl : bs.length ≤ 1000) (g : Ld.Good bs e ps) (hi : i < bs.length) : ¬ ∃ e' ps', Ld.Good (bs.take i) e' ps' := by
  rintro ⟨e', ps', g'⟩
  have h := good_pre (bs := bs.take i) (rest := bs.drop i) (by rw [List.take_append_drop]; exact hl) (by rw [List.take_append_drop]; exact g) g'
  have := congrArg List.length h
  simp at this
  omega
theorem no_more {bs rest : List UInt8} {e : Int} {ps : List Pc} (hl : (bs ++ rest).length ≤ 1000) (g : Ld.Good bs e ps) (h0 : rest ≠ []) : ¬ ∃ e' ps', Ld.Good (bs ++ rest) e' ps' := by
  rintro ⟨e', ps', g'⟩
  exact h0 (good_pre hl g' g)

theorem eI3 {x : Int} (h : 0 ≤ x ∧ x ≤ 65536) : (eI x).length ≤ 3 := enc_len_le 3 _ (by have := h.1; have := h.2; omega) (by omega)
theorem txt3 (l : List Int) (h : ∀ x ∈ l, 0 ≤ x ∧ x ≤ 65536) : (txt l).length ≤ 3 * l.length := by
  induction l with
  | nil => simp [txt]
  | cons x l ih =>
    have h1 := ih (fun y hy => h y (by simp [hy]))
    have h2 := eI3 (h x (by simp))
    rw [txt_cons, List.length_append, List.length_cons]
    omega
theorem gd_in : ∀ (ps : List Pc) (a s b : Int), Gd a s ps b → ∀ x ∈ ps, a ≤ x.1 ∧ x.1 < x.2.1 ∧ x.2.1 ≤ b ∧ 1 ≤ x.2.2 ∧ x.2.2 ≤ 6
  | [], _, _, _, _, _, hx => by cases hx
  | y :: t, a, s, b, h, x, hx => by
    have h5 := h.2.2.2.2
    have hle := gd_le t _ _ _ h5
    have h1 := h.1
    have h2 := h.2.1
    have h4 := h.2.2.2.1
    rcases List.mem_cons.1 hx with rfl | hx
    · exact ⟨by omega, by omega, hle, h4⟩
    · have := gd_in t _ _ _ h5 x hx
      exact ⟨by omega, this.2⟩
/-- A chart's text is short. -/
theorem text_len {e : Int} {ps : List Pc} (h : mayC e ps = true) (hn : ps.length ≤ 60) : (txt (nums e ps.length ps)).length ≤ 600 := by
  obtain ⟨⟨he1, he2⟩, hg⟩ := (mayC_iff _ _).1 h
  have h1 : txt (nums e ps.length ps) = eI e ++ txt ((ps.length : Int) :: ps.flatMap n3) := txt_cons _ _
  have h2 : (eI e).length ≤ 9 := enc_len9 (by omega)
  have h3 := txt3 ((ps.length : Int) :: ps.flatMap n3) (by
    intro x hx
    rcases List.mem_cons.1 hx with rfl | hx
    · omega
    · obtain ⟨p, hp, hx⟩ := List.mem_flatMap.1 hx
      have := gd_in ps _ _ _ hg p hp
      simp [n3] at hx
      rcases hx with rfl | rfl | rfl <;> omega)
  rw [List.length_cons, flat_len] at h3
  rw [h1, List.length_append]
  omega

theorem seg_len (L : List Pc) (x y s : Int) : (pu L (seg x y) s).length ≤ L.length + (if x < y then 1 else 0) := by
  unfold seg
  split
  · exact pu_len _ _ _
  · rw [pu_none]; omega
/-- A move cuts at two places at most. -/
theorem mv_cut (r : Rg) (tg : Int) (hr : 0 ≤ r.1 ∧ r.1 < r.2 ∧ r.2 ≤ 65536) : ∀ (ps L : List Pc) (a s b : Int), Gd a s ps b → 0 ≤ a → b ≤ 65536 →
    (mv r tg L ps).length ≤ L.length + ps.length + (if a < r.1 then 1 else 0) + (if a < r.2 then 1 else 0)
  | [], L, a, s, b, _, _, _ => by show L.length ≤ _; omega
  | p :: t, L, a, s, b, h, h0, hb => by
    have h5 := h.2.2.2.2
    have hle := gd_le t _ _ _ h5
    have h1 := h.1
    have h2 := h.2.1
    have ih := mv_cut r tg hr t (mv1 r tg L p) _ _ _ h5 (by omega) hb
    have e : mv r tg L (p :: t) = mv r tg (mv1 r tg L p) t := rfl
    rw [e, List.length_cons]
    have m1 := meet_seg p.1 p.2.1 0 r.1 ⟨by omega, by omega, by omega⟩ ⟨by omega, by omega, by omega⟩
    have m2 := meet_seg p.1 p.2.1 r.1 r.2 ⟨by omega, by omega, by omega⟩ ⟨by omega, by omega, by omega⟩
    have m3 := meet_seg p.1 p.2.1 r.2 65536 ⟨by omega, by omega, by omega⟩ ⟨by omega, by omega, by omega⟩
    have k1 := seg_len L (max p.1 (min p.2.1 0)) (max p.1 (min p.2.1 r.1)) p.2.2
    have k2 := seg_len (pu L (meet (rg p) (0, r.1)) p.2.2) (max p.1 (min p.2.1 r.1)) (max p.1 (min p.2.1 r.2)) tg
    have k3 := seg_len (pu (pu L (meet (rg p) (0, r.1)) p.2.2) (meet (rg p) r) tg) (max p.1 (min p.2.1 r.2)) (max p.1 (min p.2.1 65536)) p.2.2
    have q1 : meet (rg p) (0, r.1) = seg (max p.1 (min p.2.1 0)) (max p.1 (min p.2.1 r.1)) := m1
    have q2 : meet (rg p) r = seg (max p.1 (min p.2.1 r.1)) (max p.1 (min p.2.1 r.2)) := m2
    have q3 : meet (rg p) (r.2, 65536) = seg (max p.1 (min p.2.1 r.2)) (max p.1 (min p.2.1 65536)) := m3
    have km : (mv1 r tg L p).length ≤ L.length + (if max p.1 (min p.2.1 0) < max p.1 (min p.2.1 r.1) then 1 else 0) + (if max p.1 (min p.2.1 r.1) < max p.1 (min p.2.1 r.2) then 1 else 0) + (if max p.1 (min p.2.1 r.2) < max p.1 (min p.2.1 65536) then 1 else 0) := by
      unfold mv1
      rw [q1] at k2 k3 ⊢
      rw [q2] at k3 ⊢
      rw [q3]
      omega
    have c1 : ∀ (P : Prop) [Decidable P], (if P then 1 else 0 : Nat) ≤ 1 := fun P _ => by split <;> omega
    split at km <;> split at km <;> split at km <;> split at ih <;> split at ih <;> split <;> split <;> omega
theorem mvE_len {e : Int} {ps : List Pc} {r : Rg} {tg : Int} (h : Gd 0 0 ps 65536) : (mvE e ps r tg).2.1.length ≤ ps.length + 2 := by
  unfold mvE
  split
  · rename_i hc
    split
    · simp only; omega
    · split
      · simp
      · have := mv_cut r tg ((may_iff r).1 hc.2.1) ps [] 0 0 65536 h (by omega) (by omega)
        simp only [List.length_nil] at this ⊢
        split at this <;> split at this <;> omega
  · simp
end Go.Proofs.YtcpmcfagibmboabGreat.Bp

namespace Go.Proofs.YtcpmcfagibmboabGreat.Ost
open Go.RowKit Go.Shelf Gf Gk Mp Cl Ma Mv Mw Mx My
open Ct (txt okN)
open Cu (nums)
open Cp (Pc mayC mayC_iff Gd mv_all mv)
open Cr (RdP)
open Cf (mvE)
open Kt
open At (RowT)
open Wi (Cm readCm encCm checkC)
open Wk (Cv)
open Go.Proofs.YtcpmcfagibmboabGreat.Nm (Srt atX put)
set_option linter.unusedVariables false
set_option linter.unusedSimpArgs false
set_option maxRecDepth 20000

/-- What stands behind i moves. -/
structure Inv (e : Int) (ps : List Pc) (D : List Dd) (i : Nat) : Prop where
  may : mayC e ps = true
  srt : Srt kD D
  pos : ∀ x ∈ D, (1 ≤ x.1 ∧ 1 ≤ x.2) ∧ x.1 ≤ 4611686018427387904 ∧ x.2 ≤ 4611686018427387904
  dl : D.length ≤ i
  pl : ps.length ≤ 2 + 2 * i
theorem inv0 : Inv 1 (Cp.fst 2) [] 0 := ⟨(mayC_iff _ _).2 ⟨by decide, by show (0 : Int) = 0 ∧ _; simp [Gd, Cp.fst]⟩, List.Pairwise.nil, by simp, by simp, by simp [Cp.fst_len]⟩
theorem mvE_may {e : Int} {ps : List Pc} {r : Pl.Rg} {tg : Int} (h : mayC e ps = true) (h0 : (mvE e ps r tg).2.2 = 0) : mayC (mvE e ps r tg).1 (mvE e ps r tg).2.1 = true := by
  unfold mvE at h0 ⊢
  by_cases hc : mayC e ps = true ∧ Pl.may r = true ∧ Cp.isSh tg = true
  · rw [if_pos hc] at h0 ⊢
    by_cases h1 : mv r tg [] ps = ps
    · rw [if_pos h1]; exact h
    · rw [if_neg h1] at h0 ⊢
      by_cases h2 : e = 1099511627776
      · rw [if_pos h2] at h0; exact absurd h0 (by decide)
      · rw [if_neg h2]
        obtain ⟨⟨a, b⟩, g⟩ := (mayC_iff _ _).1 h
        refine (mayC_iff _ _).2 ⟨by simp only; omega, ?_⟩
        exact (mv_all r tg hc.2.1 (by simpa [Cp.isSh] using hc.2.2) ps g).1
  · rw [if_neg hc] at h0; exact absurd h0 (by decide)
theorem lastN_put (D : List Dd) (c n k : Int) : lastN (put kD D (c, n)) k = if c = k then n else lastN D k := by
  unfold lastN
  rw [Go.Proofs.YtcpmcfagibmboabGreat.Nm.at_put]
  by_cases h : c = k
  · rw [if_pos h, if_pos h]
  · rw [if_neg h, if_neg h]
/-- What a number that is remembered does. -/
theorem rem_ok {e : Int} {ps : List Pc} {D : List Dd} {i : Nat} (h : Inv e ps D i) (hi : i ≤ 40) {c n : Int} (hc : 0 ≤ c ∧ c ≤ 4611686018427387904) (hn : 0 ≤ n ∧ n ≤ 4611686018427387904) (ho : ¬ (0 < n ∧ n ≤ lastN D c)) :
    Srt kD (remD D c n) ∧ (∀ x ∈ remD D c n, (1 ≤ x.1 ∧ 1 ≤ x.2) ∧ x.1 ≤ 4611686018427387904 ∧ x.2 ≤ 4611686018427387904) ∧ (remD D c n).length ≤ i + 1 ∧ (∀ k, lastN D k ≤ lastN (remD D c n) k) ∧ (0 < c → 0 < n → n ≤ lastN (remD D c n) c) := by
  by_cases hr : c = 0 ∨ n = 0 ∨ ((atX kD D c).isSome = false ∧ 64 ≤ D.length)
  · rw [remD_no hr]
    have := h.dl
    exact ⟨h.srt, h.pos, by omega, fun k => Int.le_refl _, fun h1 h2 => by omega⟩
  · rw [remD_put hr]
    have h1 := Go.Proofs.YtcpmcfagibmboabGreat.Nm.len_put_le (key := kD) D (c, n)
    have := h.dl
    refine ⟨Go.Proofs.YtcpmcfagibmboabGreat.Nm.srt_put h.srt _, fun x hx => ?_, by omega, fun k => ?_, fun h1 h2 => ?_⟩
    · rcases Go.Proofs.YtcpmcfagibmboabGreat.Nm.mem_put hx with rfl | hx
      · exact ⟨⟨by show 1 ≤ c; omega, by show 1 ≤ n; omega⟩, hc.2, hn.2⟩
      · exact h.pos x hx
    · rw [lastN_put]
      by_cases hk : c = k
      · rw [if_pos hk, ← hk]; omega
      · rw [if_neg hk]; exact Int.le_refl _
    · rw [lastN_put, if_pos rfl]; exact Int.le_refl _
/-- One step. -/
def StP (w : World) (b m : Nat) (i : Nat) (D : List Dd) (c : Cm) (x : Ending) (w' : World) : Prop := ∃ da dl dc va vn vc e' ps' D' er n f, x = .returned (.agg (Dw (i : Int) c (.slice da dl dc) er n (.slice va vn vc) f)) ∧ Mk w' b m e' ps' ((i : Int) + 1) D' ∧ Inv e' ps' D' (i + 1) ∧ (∀ k, lastN D k ≤ lastN D' k) ∧ (f = true → er = 0 → 0 < c.client → 0 < c.num → c.num ≤ lastN D' c.client) ∧ (∀ k, k < w.heap.size → Nr w b k → Nr w' b k) ∧ Gf.Fr (fun q => q = b ∨ q = m) w w'
theorem step_any {w : World} {b m : Nat} {e : Int} {ps : List Pc} {D : List Dd} {i : Nat} (h : Mk w b m e ps (i : Int) D) (hI : Inv e ps D i) (hi : i ≤ 40) (ao : Option Addr) (cap : Nat) (c : Cm) (hck : checkC c = 0) (hk : c.kind = 10) (hr0 : Row w ao (encCm c)) (hlen : (encCm c).length ≤ 1000000000) (hcap : (encCm c).length ≤ cap) (h63 : cap ≤ 9223372036854775807) (hrd : readCm (encCm c) = .ok c) :
    Calls Tryz.prog 6 #[.pointer (some ⟨b, 0, none⟩), .slice ao (encCm c).length cap] w (StP w b m i D c) := by
  obtain ⟨q1, -, -, -, -⟩ := Wy.cm_parts hck
  have hcl := q1 c.client (by simp)
  have hnu := q1 c.num (by simp)
  have hpl := hI.pl
  have hdl := hI.dl
  by_cases ho : 0 < c.num ∧ c.num ≤ lastN D c.client
  · refine (apply_ok h hI.may (by omega) (by omega) ao cap (encCm c) hr0 hlen hcap h63 c hrd 0 e e ps D false (fun W d hd hW => answer_old hW hI.may (by omega) c d hd (by omega) hk ho)).mono ?_
    rintro x w' ⟨da, dl, dc, va, vn, vc, rfl, -, -, hm, hn, hf⟩
    exact ⟨da, dl, dc, va, vn, vc, e, ps, D, 0, e, false, rfl, hm, ⟨hI.may, hI.srt, hI.pos, by omega, by omega⟩, fun k => Int.le_refl _, fun h => by simp at h, hn, hf⟩
  · obtain ⟨r1, r2, r3, r4, r5⟩ := rem_ok hI hi hcl hnu ho
    have hq0 := mvE_may (r := (c.lo, c.hi)) (tg := c.to) hI.may
    have hql := Bp.mvE_len (r := (c.lo, c.hi)) (tg := c.to) ((mayC_iff _ _).1 hI.may).2 (e := e)
    refine (apply_ok h hI.may (by omega) (by omega) ao cap (encCm c) hr0 hlen hcap h63 c hrd _ _ _ _ _ true (fun W d hd hW => answer_new hW hI.may hI.srt (by omega) c d hd (by omega) hk ho _ rfl hq0 (by omega) _ _ _ _ _ rfl rfl rfl rfl rfl)).mono ?_
    rintro x w' ⟨da, dl, dc, va, vn, vc, rfl, -, -, hm, hn, hf⟩
    refine ⟨da, dl, dc, va, vn, vc, _, _, _, _, _, true, rfl, hm, ?_, ?_, ?_, hn, hf⟩
    · by_cases he : (mvE e ps (c.lo, c.hi) c.to).2.2 = 0
      · rw [if_pos he, if_pos he, if_pos he]
        exact ⟨hq0 he, r1, r2, r3, by omega⟩
      · rw [if_neg he, if_neg he, if_neg he]
        exact ⟨hI.may, hI.srt, hI.pos, by omega, by omega⟩
    · by_cases he : (mvE e ps (c.lo, c.hi) c.to).2.2 = 0
      · rw [if_pos he]; exact r4
      · rw [if_neg he]; exact fun k => Int.le_refl _
    · intro _ he h1 h2
      rw [if_pos he]; exact r5 h1 h2
/-- .. of what can't be read. -/
theorem step_bad {w : World} {b m : Nat} {e : Int} {ps : List Pc} {D : List Dd} {i : Nat} (h : Mk w b m e ps (i : Int) D) (hI : Inv e ps D i) (hi : i ≤ 40) (ao : Option Addr) (cap : Nat) (h63 : cap ≤ 9223372036854775807) (c : Cm) :
    Calls Tryz.prog 6 #[.pointer (some ⟨b, 0, none⟩), .slice ao 0 cap] w fun x w' => x = .returned (.agg (Dw (i : Int) Cm.none (.slice none 0 0) 0 0 (.slice none 0 0) false)) ∧ Mk w' b m e ps ((i : Int) + 1) D ∧ Inv e ps D (i + 1) ∧ (∀ k, k < w.heap.size → Nr w b k → Nr w' b k) ∧ Gf.Fr (fun q => q = b ∨ q = m) w w' := by
  have hpl := hI.pl
  have hdl := hI.dl
  obtain ⟨ee, he⟩ : ∃ ee, readCm [] = .error ee := ⟨4, by rfl⟩
  refine (apply_bad h hI.may (by omega) (by omega) ao cap [] (Row.nil _ _) (by simp) (by simp) h63 ee he).mono ?_
  rintro x w' ⟨rfl, hm, hn, hf⟩
  exact ⟨rfl, hm, ⟨hI.may, hI.srt, hI.pos, by omega, by omega⟩, hn, hf⟩
end Go.Proofs.YtcpmcfagibmboabGreat.Ost

namespace Go.Proofs.YtcpmcfagibmboabGreat.Oa
open Go.RowKit Go.Shelf Gf Gk Mp Cl Ma Mv Mw Mx My Ost
open Ct (txt okN txt_len)
open Cu (nums)
open Cp (Pc mayC mayC_iff Gd)
open Cr (RdP RowS Fl Fl_length RowP pC)
open Cu (nums_ok)
open Kt
open At (RowT)
open Wi (Cm)
open Wk (Cv)
open La (Nums)

open Rs (GoodS)
open Mr (GoodM RvP)
open Mq (dmp)
open Go.Proofs.YtcpmcfagibmboabGreat.Nm (Srt)
set_option linter.unusedVariables false
set_option linter.unusedSimpArgs false
set_option maxRecDepth 20000

/-- A command that came in: its data's slice stands beside it. -/
def cC (x : Cm × Value) : List Value := (Cv x.1 x.2).toList
theorem cC_len (x : Cm × Value) : (cC x).length = 19 := rfl
theorem load_at {w : World} {b off i : Nat} {x : Cm × Value} (h : ∀ j v, (cC x)[j]? = some v → w.cell? ⟨b, off + i * 19 + j, none⟩ = some v) : (loadVar 33 ⟨b, off + i * 19, none⟩).run Tryz.prog w = .ok (.agg (Cv x.1 x.2)) w :=
  Wk.run_load_agg 33 _ Tryz.underlying33 rfl b (off + i * 19) (cC x) (by kernel_rfl) h
/-- .. that was done: without data. -/
def nC (c : Cm) : List Value := (Cv c (.slice none 0 0)).toList
theorem nC_len (x : Cm) : (nC x).length = 19 := rfl
theorem nC_one (x : Cm) : ∀ u ∈ nC x, u.oneCell' = true := by
  intro u hu
  have h := Cv_one' x none 0 0
  rw [Array.all_eq_true'] at h
  exact h u (by simpa [nC] using hu)
abbrev FlN (l : List Cm) : List Value := Fl nC l
theorem infoN : (Tryz.prog.info? 33).map (fun i => (i.zero, i.size, i.bytes)) = some (some (.agg (Cv Cm.none (.slice none 0 0))), 19, 208) := by kernel_rfl
theorem newN (w : World) (x : Cm) (t : TypeId) : Src Tryz.prog 19 22 (.slice (some ⟨w.heap.size, 0, none⟩) 1 1) 1 (FlN [x]) (w.alloc (.cells (Cv x (.slice none 0 0)) t)) := Cr.src_new nC_len nC_one (by decide) Tryz.underlying22 w x t
theorem load_nt {w : World} {b off i : Nat} {x : Cm} (h : ∀ j v, (nC x)[j]? = some v → w.cell? ⟨b, off + i * 19 + j, none⟩ = some v) : (loadVar 33 ⟨b, off + i * 19, none⟩).run Tryz.prog w = .ok (.agg (Cv x (.slice none 0 0))) w :=
  Wk.run_load_agg 33 _ Tryz.underlying33 rfl b (off + i * 19) (nC x) (by kernel_rfl) h
/-- A row that is owned and a map lie apart. -/
theorem own_map {w : World} {base e size n k m : Nat} {v : Value} {xs : List Value} {D : List Dd} (h : w.ownsRow base e size v n xs) (hm : Md w m D) (hk : v.ownBlock = some k) : k ≠ m := by
  rintro rfl
  obtain ⟨es, clock, hb, r⟩ := hm
  rcases h.2 with ⟨rfl, -⟩ | ⟨g, cap, cur, rfl, -, hg, -⟩
  · simp [Value.ownBlock] at hk
  · simp only [Value.ownBlock, Option.some.injEq] at hk
    subst hk
    rw [hg] at hb
    cases hb
/-- The row of a chart isn't in a machine's block. -/
theorem row_apart {w : World} {b m : Nat} {e : Int} {ps : List Pc} {s : Int} {D : List Dd} (h : Mk w b m e ps s D) {a : Option Addr} {c : Nat} {ls : List Pc} (hr : RdP w a c ls) (hl : 0 < ls.length) : ∀ x, a = some x → x.block ≠ b ∧ x.block ≠ m := by
  obtain ⟨⟨aa, cp, q1, q2⟩, q3⟩ := h
  rintro x rfl
  obtain ⟨b', off, e1, hc⟩ := hr.r hl
  injection e1 with e1
  subst e1
  have h4 := hc 0 (ls[0]) (by simp [hl])
  have g0 := h4 0 _ (by rfl)
  have g1 := h4 1 _ (by rfl)
  refine ⟨?_, Md.cellne q3 g0⟩
  show b' ≠ b
  rintro rfl
  have hk : ∀ i : Nat, w.cell? ⟨b', i, none⟩ = (#[.int .i64 e, .slice aa ps.length cp, .int .i64 s, .map (some m)] : Array Value)[i]? := fun i => by
    have h5 : w.heap[b']? = some (.cells #[.int .i64 e, .slice aa ps.length cp, .int .i64 s, .map (some m)] 59 (0, 0)) := q1
    simp [World.cell?, h5]
  rw [hk] at g0 g1
  rcases (by omega : off = 0 ∨ off = 1 ∨ off = 2 ∨ off = 3 ∨ 4 ≤ off) with o | o | o | o | o
  · subst o; simp at g1
  · subst o; simp at g0
  · subst o; simp at g1
  · subst o; simp at g0
  · rw [Array.getElem?_eq_none (by simp; omega)] at g0; exact absurd g0 (by simp)
theorem ps_pos {e : Int} {ps : List Pc} (hm : mayC e ps = true) : 0 < ps.length := by
  cases ps with
  | nil => exact (by have h0 : (0 : Int) = 65536 := ((mayC_iff _ _).1 hm).2; omega)
  | cons y r => simp
/-- A machine stands while another one turns. -/
theorem mk_keep {w w' : World} {b1 m1 b2 m2 : Nat} {e1 e2 : Int} {p1 p2 : List Pc} {s1 s2 : Int} {D1 D2 : List Dd} (h1 : Mk w b1 m1 e1 p1 s1 D1) (h2 : Mk w b2 m2 e2 p2 s2 D2) (hm : mayC e1 p1 = true) (hb : b1 ≠ b2) (hmm : m1 ≠ m2) (hf : Gf.Fr (fun q => q = b2 ∨ q = m2) w w') : Mk w' b1 m1 e1 p1 s1 D1 := by
  have H2 := h2
  obtain ⟨⟨a, c, q1, q2⟩, q3⟩ := h1
  obtain ⟨⟨a2, c2, r1, r2⟩, r3⟩ := h2
  have n1 : b1 ≠ m2 := Md.cellne r3 (q1.cell 0 _ rfl)
  have n2 : b2 ≠ m1 := Md.cellne q3 (r1.cell 0 _ rfl)
  have n3 := row_apart H2 q2 (ps_pos hm)
  exact ⟨⟨a, c, q1.fr hf (by omega), rdP_fr q2 hf (fun x hx => by have := n3 x hx; omega)⟩, q3.fr hf (by omega)⟩
theorem text_len {e : Int} {ps : List Pc} (h : mayC e ps = true) (hn : ps.length ≤ 70) : (txt (nums e ps.length ps)).length ≤ 700 := by
  obtain ⟨⟨he1, he2⟩, hg⟩ := (mayC_iff _ _).1 h
  have h1 : txt (nums e ps.length ps) = Ct.eI e ++ txt ((ps.length : Int) :: ps.flatMap Cu.n3) := La.txt_cons _ _
  have h2 : (Ct.eI e).length ≤ 9 := Pl.enc_len9 (by omega)
  have h3 := Bp.txt3 ((ps.length : Int) :: ps.flatMap Cu.n3) (by
    intro x hx
    rcases List.mem_cons.1 hx with rfl | hx
    · omega
    · obtain ⟨p, hp, hx⟩ := List.mem_flatMap.1 hx
      have := Bp.gd_in ps _ _ _ hg p hp
      simp [Cu.n3] at hx
      rcases hx with rfl | rfl | rfl <;> omega)
  rw [List.length_cons, Bp.flat_len] at h3
  rw [h1, List.length_append]
  omega
theorem flat2 (D : List Dd) : (D.flatMap n2).length = D.length * 2 := by
  induction D with
  | nil => rfl
  | cons x t ih => rw [List.flatMap_cons, List.length_append, ih, List.length_cons]; simp [n2]; omega
/-- A machine's own dump is good, and short. -/
theorem good_own {e : Int} {ps : List Pc} {D : List Dd} {i : Nat} (h : Inv e ps D i) (hi : i ≤ 31) : GoodM (dmp e ps (i : Int) D) (i : Int) e ps D ∧ (∀ t ∈ dmp e ps (i : Int) D, t.length ≤ 1000) := by
  have hdl := h.dl
  have hpl := h.pl
  have hok : ∀ x ∈ D.flatMap n2, okN x := by
    intro x hx
    obtain ⟨p, hp, hx⟩ := List.mem_flatMap.1 hx
    have := h.pos p hp
    simp [n2] at hx
    unfold okN
    rcases hx with rfl | rfl <;> omega
  have h0 : ∀ x ∈ [(i : Int)], okN x := by intro x hx; simp at hx; subst hx; unfold okN; omega
  refine ⟨⟨_, _, _, rfl, ⟨⟨rfl, h0⟩, by omega⟩, ⟨h.may, rfl⟩, ⟨rfl, hok⟩, ⟨h.srt, fun x hx => (h.pos x hx).1, by omega⟩⟩, ?_⟩
  intro t ht
  simp only [dmp, List.mem_cons, List.not_mem_nil, or_false] at ht
  rcases ht with rfl | rfl | rfl
  · have := txt_len _ h0; simp at this; omega
  · exact Nat.le_trans (text_len h.may (by omega)) (by omega)
  · have := txt_len _ hok
    have h2 : (D.flatMap n2).length = D.length * 2 := flat2 D
    omega
end Go.Proofs.YtcpmcfagibmboabGreat.Oa

namespace Go.Proofs.YtcpmcfagibmboabGreat.Oe
open Go.RowKit Kt Pl Wi Wk Ww Wx Wf Wy
set_option linter.unusedVariables false
set_option linter.unusedSimpArgs false
set_option maxRecDepth 20000
theorem enc_cm_len {c : Cm} (hck : checkC c = 0) : (encCm c).length ≤ 100000000 := by
  obtain ⟨q1, q2, q3, q4, hrc, hrg, hdl, hdt⟩ := cm_parts hck
  have l1 := flat_len _ q1
  have l2 := flatT_len _ q2
  have l3 := flat_len _ q3
  have l4 := flat_len _ q4
  have l5 : (encRcp c.rc).length ≤ 5000 := by
    simp only [rcB, Bool.and_eq_true] at hrc
    have a1 := num_ok hrc.1
    have a2 := num_ok hrc.2.1
    have a3 := num_ok hrc.2.2
    have b1 : (encN c.rc.q).length ≤ 9 := enc_len9 (by omega)
    have b2 : (encN c.rc.s).length ≤ 9 := enc_len9 (by omega)
    have b3 : (encN c.rc.c).length ≤ 9 := enc_len9 (by omega)
    have b4 := enc_len9 (n := c.rc.g.length) (by omega)
    simp only [encRcp, encText, List.length_append]
    omega
  have l6 : (encList encText c.data).length ≤ 9 + 4105 * 1024 := by
    unfold encList
    rw [List.length_append]
    have h1 := flatT_len _ hdt
    have h2 := enc_len9 (n := c.data.length) (by omega)
    omega
  rw [← cm_bytes]
  simp only [List.length_append, List.length_nil] at *
  simp only [List.length_cons, List.length_nil] at *
  omega
end Go.Proofs.YtcpmcfagibmboabGreat.Oe

namespace Go.Proofs.YtcpmcfagibmboabGreat.Ol
open Go.RowKit Go.Shelf Gf Gk Mp Cl Ma Mv Mw Mx My Ost Oa
open Cp (Pc mayC mayC_iff)
open Cr (RowS Fl)
open Kt
open At (RowT)
open Wi (Cm encCm checkC readCm)
open Wk (Cv)
open Wu (Zc)
open Mr (GoodM)
open Mq (dmp)
set_option linter.unusedVariables false
set_option linter.unusedSimpArgs false
set_option maxRecDepth 20000

/-- What a done command is. -/
def Dn (D : List Dd) (c : Cm) : Prop := checkC c = 0 ∧ c.kind = 10 ∧ c.data = [] ∧ 0 < c.client ∧ 0 < c.num ∧ c.num ≤ lastN D c.client
/-- A command made a move without data. -/
def mvC (c : Cm) : Cm := { c with kind := 10, data := [] }
/-- What the loop keeps. -/
structure Lp (w wr : World) (b m : Nat) (k : Nat) (dn : Value) : Prop where
  ex : ∃ (e : Int) (ps : List Pc) (D : List Dd) (dl : List Cm), Mk wr b m e ps (k : Int) D ∧ Inv e ps D k ∧ wr.ownsRow w.heap.size 33 19 dn dl.length (FlN dl) ∧ dl.length ≤ k ∧ (∀ c ∈ dl, Dn D c) ∧ (∀ j, dn.ownBlock = some j → Nr wr b j)
  bel : Below w.heap.size w wr
theorem goodM_inj {l : List (List UInt8)} (hl : ∀ t ∈ l, t.length ≤ 1000) {s e s' e' : Int} {ps ps' : List Pc} {D D' : List Dd} (h : GoodM l s e ps D) (g : GoodM l s' e' ps' D') : s' = s ∧ e' = e ∧ ps' = ps ∧ D' = D := by
  obtain ⟨t0, t1, t2, rfl, h0, h1, h2⟩ := h
  obtain ⟨a0, a1, a2, he, g0, g1, g2⟩ := g
  cases he
  have hn := h1.nums (hl t1 (by simp))
  obtain ⟨e1, e2⟩ := Ld.good_only (hl t1 (by simp)) hn g1
  rw [Ld.pcs_flat] at e2
  exact ⟨h0.inj g0, e1, e2, h2.inj g2⟩
/-- Two machines that are alike but for their slots. -/
def L2 (wr : World) (b m b2 m2 : Nat) (e : Int) (ps : List Pc) (D : List Dd) (q : Nat) : Prop := ∃ s1 s2 : Int, (0 ≤ s1 ∧ s1 ≤ 40 + (q : Int)) ∧ (0 ≤ s2 ∧ s2 ≤ 40 + (q : Int)) ∧ Mk wr b m e ps s1 D ∧ Mk wr b2 m2 e ps s2 D
theorem L2.symm {wr : World} {b m b2 m2 : Nat} {e : Int} {ps : List Pc} {D : List Dd} {q : Nat} (h : L2 wr b m b2 m2 e ps D q) : L2 wr b2 m2 b m e ps D q := by
  obtain ⟨s1, s2, h1, h2, h3, h4⟩ := h
  exact ⟨s2, s1, h2, h1, h4, h3⟩
theorem tm_ok (p : Int) {N : Int} (h : 0 < N) : (-N < p.tmod N ∧ p.tmod N < N) ∧ 0 ≤ (p.tmod N + N).tmod N ∧ (p.tmod N + N).tmod N < N := by
  have h1 := Int.natAbs_tmod p N
  have h2 := Nat.mod_lt p.natAbs (show 0 < N.natAbs by omega)
  have h3 : -N < p.tmod N ∧ p.tmod N < N := by omega
  refine ⟨h3, ?_⟩
  rw [Int.tmod_eq_emod_of_nonneg (by omega)]
  exact ⟨Int.emod_nonneg _ (by omega), Int.emod_lt_of_pos _ h⟩
set_option maxHeartbeats 4000000 in
theorem once_walk (w : World) (al : Option Addr) (cl : Nat) (l : List (Cm × Value)) (p : Int) (hr : RowS 19 cC w al l) (hlc : l.length ≤ cl) (hcl : cl ≤ 9223372036854775807) (hone : ∀ x ∈ l, ∃ a n c, x.2 = .slice a n c) (hp : -9223372036854775808 ≤ p ∧ p ≤ 9223372036854775807) :
    Calls Tryz.prog 3 #[.slice al l.length cl, .int .i64 p] w fun e w' => e = .returned (.bool true) ∧ Below w.heap.size w w' := by
  have HR := mkH hr
  have HONE := mkH hone
  clear hr hone
  go_enter Tryz.func3, Tryz.ntmps3
  go_wp2_with fail
  refine (Mz.new_two w).mono ?_
  rintro x w1 ⟨b, m, rfl, hmk, hbb, hmm, hb1⟩
  have HL0 : Hid (Lp w w1 b m 0 (.slice none 0 0)) := mkH ⟨⟨_, _, _, [], hmk, inv0, World.ownsRow_nil _ _ _ _, by simp, by simp, by simp [Value.ownBlock]⟩, hb1⟩
  clear hmk hb1
  go_wp2_with fail
  go_loopw [7, 8] (fun dn i wr => ∃ k : Nat, k ≤ l.length ∧ k ≤ 30 ∧ i = .int .i64 k ∧ Hid (Lp w wr b m k dn)) (fun _ i _ => l.length - (intOf i).toNat)
  case atStart => exact ⟨0, Nat.zero_le _, by omega, rfl, HL0⟩
  case round =>
    obtain ⟨k, hk, hk30, rfl, HL⟩ := hrel
    clear HL0
    go_upto_region 6 with fail
    go_cut [36] (fun v36 wc => v36 = .bool (decide (k < l.length ∧ k < 30)) ∧ wc = wr)
    case first =>
      by_cases hlt : k < l.length
      · have hi : (k : Int) < (l.length : Int) := by omega
        by_cases hlt30 : k < 30
        · have hk3 : (k : Int) < 30 := by omega
          go_wp2_with fail
          go_meet
          exact ⟨by rw [decide_eq_true ⟨hlt, hlt30⟩], rfl⟩
        · have hk3 : ¬ (k : Int) < 30 := by omega
          go_wp2_with fail
          go_meet
          exact ⟨by rw [decide_eq_false (by omega)], rfl⟩
      · have hi : ¬ (k : Int) < (l.length : Int) := by omega
        go_wp2_with fail
        go_meet
        exact ⟨by rw [decide_eq_false (by omega)], rfl⟩
    case rest =>
    obtain ⟨rfl, hwc⟩ := hcut
    have hwc2 := hwc.symm
    clear hwc
    subst hwc2
    by_cases hlt2 : k < l.length ∧ k < 30
    · obtain ⟨hlt, hlt30⟩ := hlt2
      rw [decide_eq_true ⟨hlt, hlt30⟩]
      obtain ⟨⟨c0, dv⟩, hx⟩ := Cr.some_of hlt
      obtain ⟨da, dn0, dc, hdv⟩ := HONE.out _ (List.mem_of_getElem? hx)
      simp only at hdv
      subst hdv
      obtain ⟨bl, ol, e1, hcell⟩ := HR.out.below HL.out.bel (by omega)
      subst e1
      have HCL := mkH (hcell k _ hx)
      clear hcell
      have hi : (k : Int) < (l.length : Int) := by omega
      have hi0 : (0 : Int) ≤ (k : Int) := by omega
      have hk3 : (k : Int) < 30 := by omega
      go_upto_region 10 with (first
        | (refine wpList_stn rfl (ty := 33) (x := .tmp 9) (y := .tmp 42) (cs := Cv c0 (.slice da dn0 dc)) (zs := Zc) rfl rfl rfl infoC rfl (Cv_one' _ _ _ _) (fun V3 hC3 hb3 => ?_); have HC3 := mkH hC3; have HB3 := mkH hb3; clear hC3 hb3; have c3 : V3.cell? ⟨wr.heap.size, 0, none⟩ = some (.int .i64 c0.kind) := HC3.out.cell 0 _ rfl; have c18 : V3.cell? ⟨wr.heap.size, 18, none⟩ = some (.slice da dn0 dc) := HC3.out.cell 18 _ rfl; have f3 := HC3.out.frozen 0; have f18 := HC3.out.frozen 18)
        | (refine Gk.wpList_ld (ty := 33) (x := .tmp 41) (p := ⟨bl, ol + k * 19, none⟩) (v := .agg (Cv c0 (.slice da dn0 dc))) rfl rfl rfl (load_at HCL.out) ?_))
      have hs1 := HC3.out.set 0 (.int .i64 10)
      have hs2 := hs1.set 18 (.slice none 0 0)
      have HC4 : Hid (Bx ((V3.setCell ⟨wr.heap.size, 0, none⟩ (.int .i64 10)).setCell ⟨wr.heap.size, 18, none⟩ (.slice none 0 0)) wr.heap.size (Cv (mvC c0) (.slice none 0 0)) 33) := mkH hs2
      have HB4 : Hid (Below wr.heap.size wr ((V3.setCell ⟨wr.heap.size, 0, none⟩ (.int .i64 10)).setCell ⟨wr.heap.size, 18, none⟩ (.slice none 0 0))) := mkH ((HB3.out.setCell (Nat.le_refl _) _).setCell (Nat.le_refl _) _)
      clear hs1 hs2 c3 c18 f3 f18 HC3 HB3 HCL
      generalize (V3.setCell ⟨wr.heap.size, 0, none⟩ (.int .i64 10)).setCell ⟨wr.heap.size, 18, none⟩ (.slice none 0 0) = V4 at *
      obtain ⟨c, hc⟩ : ∃ c, c = mvC c0 := ⟨_, rfl⟩
      have hck : c.kind = 10 := by rw [hc]; rfl
      have hcd : c.data = [] := by rw [hc]; rfl
      rw [← hc] at HC4
      clear hc hx
      have hwr := HB4.out.size
      have hw := HL.out.bel.size
      go_cut [10, 11] (fun v10 v11 wc => ∃ (a10 : Option Addr) (n10 k10 : Nat) (e11 : Int), v10 = .slice a10 n10 k10 ∧ v11 = .int .i64 e11 ∧ Hid ((e11 = 0 ∧ checkC c = 0 ∧ Row wc a10 (encCm c) ∧ n10 = (encCm c).length) ∨ (e11 ≠ 0 ∧ n10 = 0)) ∧ n10 ≤ k10 ∧ k10 ≤ 9223372036854775807 ∧ Hid (Below V4.heap.size V4 wc))
      case first =>
        as_aux_lemma =>
          by_cases hcc : checkC c = 0
          · go_wp2_with (refine Gk.wpList_ld (ty := 33) (x := .tmp 9) (p := ⟨wr.heap.size, 0, none⟩) (v := .agg (Cv c (.slice none 0 0))) rfl rfl rfl (load_cv HC4.out) ?_)
            have h0 := Wy.cmd_ok V4 c none 0 (by rw [hcd]; intro h; simp at h) (by rw [hcd]; simp) hcc
            rw [hcd] at h0
            refine Calls.mono h0 ?_
            rintro x w2 ⟨v, rfl, hwt, hb2⟩
            obtain ⟨a3, cap3, rfl, hr3, hc3, hc63⟩ := Wo.Wt.row hwt
            go_wp2_with fail
            go_meet
            exact ⟨a3, _, cap3, 0, rfl, rfl, mkH (.inl ⟨rfl, hcc, hr3, rfl⟩), hc3, hc63, mkH hb2⟩
          · go_wp2_with (refine Gk.wpList_ld (ty := 33) (x := .tmp 9) (p := ⟨wr.heap.size, 0, none⟩) (v := .agg (Cv c (.slice none 0 0))) rfl rfl rfl (load_cv HC4.out) ?_)
            have h0 := Wy.cmd_bad V4 c none 0 (by rw [hcd]; intro h; simp at h) (by rw [hcd]; simp) hcc
            rw [hcd] at h0
            refine Calls.mono h0 ?_
            rintro x w2 ⟨rfl, hb2⟩
            go_wp2_with fail
            go_meet
            exact ⟨none, 0, 0, _, rfl, rfl, mkH (.inr ⟨by omega, rfl⟩), Nat.le_refl _, by omega, mkH hb2⟩
      case rest =>
        obtain ⟨a10, n10, k10, e11, rfl, rfl, HV, hn10, hk10, HBC⟩ := hcut
        obtain ⟨e, ps, D, dl, HM, HI, HO, hdl, HD, HNR⟩ : ∃ (e : Int) (ps : List Pc) (D : List Dd) (dl : List Cm), Hid (Mk wr b m e ps (k : Int) D) ∧ Hid (Inv e ps D k) ∧ Hid (wr.ownsRow w.heap.size 33 19 u7 dl.length (FlN dl)) ∧ dl.length ≤ k ∧ Hid (∀ c ∈ dl, Dn D c) ∧ Hid (∀ j, u7.ownBlock = some j → Nr wr b j) := by
          obtain ⟨e, ps, D, dl, h1, h2, h3, h4, h5, h6⟩ := HL.out.ex
          exact ⟨e, ps, D, dl, mkH h1, mkH h2, mkH h3, h4, mkH h5, mkH h6⟩
        have HBw := mkH (HB4.out.trans (HBC.out.mono HB4.out.size))
        have HC := mkH (HC4.out.bel HBC.out)
        have HMc := mkH (HM.out.below HBw.out)
        have hwr4 := HC4.out.lt
        have HBL := mkH HL.out.bel
        have HOc := mkH (Cr.own_below HO.out HBw.out)
        have hbm := HM.out.lt
        clear HL HM HO HC4
        have HAP : Hid (Calls Tryz.prog 6 #[.pointer (some ⟨b, 0, none⟩), .slice a10 n10 k10] wc (fun x w' => ∃ (c1 : Cm) (da : Option Addr) (dl2 dc : Nat) (va : Option Addr) (vn vc : Nat) (e' : Int) (ps' : List Pc) (D' : List Dd) (er n : Int) (f : Bool), x = .returned (.agg (Dw (k : Int) c1 (.slice da dl2 dc) er n (.slice va vn vc) f)) ∧ Mk w' b m e' ps' ((k : Int) + 1) D' ∧ Inv e' ps' D' (k + 1) ∧ (∀ j, lastN D j ≤ lastN D' j) ∧ (e11 = 0 → f = true → er = 0 → 0 < c.client → 0 < c.num → Dn D' c) ∧ (∀ j, j < wc.heap.size → Nr wc b j → Nr w' b j) ∧ Gf.Fr (fun q => q = b ∨ q = m) wc w')) := mkH (by
          rcases HV.out with ⟨h0, h1, h2, rfl⟩ | ⟨h0, rfl⟩
          · obtain ⟨hw1, -, -⟩ := Wi.whole_fits (check := checkC) (Wi.fits_cm h1) h1
            refine (step_any HMc.out HI.out (by omega) a10 k10 c h1 hck h2 (Nat.le_trans (Oe.enc_cm_len h1) (by omega)) hn10 hk10 hw1).mono ?_
            rintro x w' ⟨da, dl2, dc, va, vn, vc, e', ps', D', er, n, f, rfl, g1, g2, g3, g4, g5, g6⟩
            exact ⟨c, da, dl2, dc, va, vn, vc, e', ps', D', er, n, f, rfl, g1, g2, g3, fun _ y1 y2 y3 y4 => ⟨h1, hck, hcd, y3, y4, g4 y1 y2 y3 y4⟩, g5, g6⟩
          · refine (step_bad HMc.out HI.out (by omega) a10 k10 hk10 c).mono ?_
            rintro x w' ⟨rfl, g1, g2, g3, g4⟩
            exact ⟨Cm.none, none, 0, 0, none, 0, 0, e, ps, D, 0, 0, false, rfl, g1, g2, fun j => Int.le_refl _, fun y => absurd y h0, g3, g4⟩)
        clear HV hck hcd
        go_upto_region 12 with (first
          | (refine wpList_stn rfl (ty := 42) (x := .tmp 12) (y := .tmp 52) (cs := Dw (k : Int) c1 (.slice da dl2 dc) er n (.slice va vn vc) f) (zs := Zw) rfl rfl rfl infoW rfl (Dw_one _ _ _ _ _ _ _ _ _ _ _) (fun V6 hD6 hb6 => ?_); have HD6 := mkH hD6; have HB6 := mkH hb6; clear hD6 hb6)
          | (go_at_call 6; refine HAP.out.mono ?_; rintro x w5 ⟨c1, da, dl2, dc, va, vn, vc, e', ps', D', er, n, f, rfl, g1, g2, g3, g4, g6, g5⟩; have HNX := mkH g6; have HM5 := mkH g1; have HI5 := mkH g2; have HMO := mkH g3; have HDN := mkH g4; have HF5 := mkH g5; clear g1 g2 g3 g4 g5 g6))
        have HC5 : Hid (Bx w5 wr.heap.size (Cv c (.slice none 0 0)) 33) := mkH (HC.out.fr HF5.out (by omega))
        have HC6 := mkH (HC5.out.bel HB6.out)
        have hne5 : ∀ j, u7.ownBlock = some j → ¬ (j = b ∨ j = m) := by
          intro j hj
          obtain ⟨⟨a0, k0, z1, z2⟩, z3⟩ := HMc.out
          rintro (h | h)
          · exact own_ne HOc.out z1 hj (by decide) h
          · exact own_map HOc.out z3 hj h
        have HO6 := mkH (Cr.own_below (Cr.own_fr HOc.out HF5.out hne5) HB6.out)
        have HM6 := mkH (HM5.out.below HB6.out)
        have HBV : Hid (Below w.heap.size w V6) := mkH ((((HBL.out.trans (HBw.out.mono HBL.out.size)).trans (HF5.out.below (B := w.heap.size) (by rintro j (h | h) <;> omega) (Nat.le_trans HBL.out.size HBw.out.size))).trans (HB6.out.mono (Nat.le_trans (Nat.le_trans HBL.out.size HBw.out.size) HF5.out.size))))
        have HDD : Hid (∀ y ∈ dl, Dn D' y) := mkH (fun y hy => by
          obtain ⟨y1, y2, y3, y4, y5, y6⟩ := HD.out y hy
          exact ⟨y1, y2, y3, y4, y5, Int.le_trans y6 (HMO.out _)⟩)
        have HN6 : Hid (∀ j, u7.ownBlock = some j → Nr V6 b j) := mkH (fun j hj => by
          have hlt : j < wc.heap.size := by
            rcases HOc.out.2 with ⟨e1, -⟩ | ⟨g, cap, cur, e1, -, hg, -⟩
            · rw [e1] at hj; simp [Value.ownBlock] at hj
            · rw [e1] at hj; simp only [Value.ownBlock, Option.some.injEq] at hj; rw [← hj]; exact (Array.getElem?_eq_some_iff.1 hg).1
          exact (HNX.out j hlt ((HNR.out j hj).bel hbm.1 HBw.out)).bel HM5.out.lt.1 HB6.out)
        clear HNX HNR hne5 HC5 HC HM5 HOc HF5 HB6 HBw HBL HB4 HBC HD HMO HAP HMc HI
        go_simp
        go_cut [74] (fun v74 wc2 => ∃ bb : Bool, v74 = .bool bb ∧ (bb = true → e11 = 0 ∧ f = true ∧ er = 0 ∧ 0 < c.client ∧ 0 < c.num) ∧ wc2 = V6)
        case first =>
          as_aux_lemma =>
            have c1 : V6.cell? ⟨wr.heap.size, 1, none⟩ = some (.int .i64 c.client) := HC6.out.cell 1 _ rfl
            have c2 : V6.cell? ⟨wr.heap.size, 2, none⟩ = some (.int .i64 c.num) := HC6.out.cell 2 _ rfl
            have c27 : V6.cell? ⟨w5.heap.size, 27, none⟩ = some (.bool f) := HD6.out.cell 27 _ rfl
            have c21 : V6.cell? ⟨w5.heap.size, 21, none⟩ = some (.int .i64 er) := HD6.out.cell 21 _ rfl
            by_cases h0 : e11 = 0
            · have h0' : (e11 == 0) = true := by simpa using h0
              have H0 := mkH h0
              clear h0
              by_cases h1 : 0 < c.client
              · by_cases h2 : 0 < c.num
                · cases f
                  · go_wp2_with fail
                    go_meet
                    exact ⟨_, rfl, fun h => by simp at h, rfl⟩
                  · by_cases h3 : er = 0
                    · have h3' : (er == 0) = true := by simpa using h3
                      have H3 := mkH h3
                      clear h3
                      go_wp2_with fail
                      go_meet
                      exact ⟨_, rfl, fun _ => ⟨H0.out, by simp, H3.out, h1, h2⟩, rfl⟩
                    · have h3' : (er == 0) = false := by simpa using h3
                      clear h3
                      go_wp2_with fail
                      go_meet
                      exact ⟨_, rfl, fun h => by simp at h, rfl⟩
                · go_wp2_with fail
                  go_meet
                  exact ⟨_, rfl, fun h => by simp at h, rfl⟩
              · go_wp2_with fail
                go_meet
                exact ⟨_, rfl, fun h => by simp at h, rfl⟩
            · have h0' : (e11 == 0) = false := by simpa using h0
              clear h0
              go_wp2_with fail
              go_meet
              exact ⟨_, rfl, fun h => by simp at h, rfl⟩
        case rest =>
          obtain ⟨bb, rfl, hbb2, hwc⟩ := hcut
          have hwc2 := hwc.symm
          clear hwc
          subst hwc2
          cases bb
          · as_aux_lemma =>
              go_wp2
              go_roundw
              case rel => exact ⟨k + 1, by omega, by omega, by go_num, mkH ⟨⟨e', ps', D', dl, HM6.out, HI5.out, HO6.out, by omega, HDD.out, HN6.out⟩, HBV.out⟩⟩
              case measure => simp [intOf]; omega
          · have HDC := mkH (HDN.out (hbb2 rfl).1 (hbb2 rfl).2.1 (hbb2 rfl).2.2.1 (hbb2 rfl).2.2.2.1 (hbb2 rfl).2.2.2.2)
            clear hbb2
            have HO7 : Hid ((V6.alloc (.cells #[.int .i64 c.kind, .int .i64 c.client, .int .i64 c.num, .int .i64 c.time, .int .i64 c.queue, .string (S c.group), .string (S c.body), .string (S c.token), .string (S c.attempt), .int .i64 c.max, .int .i64 c.secs, .int .i64 c.rc.q, .string (S c.rc.g), .int .i64 c.rc.s, .int .i64 c.rc.c, .int .i64 c.lo, .int .i64 c.hi, .int .i64 c.to, .slice none 0 0] 33)).ownsRow w.heap.size 33 19 u7 dl.length (FlN dl)) := mkH (Cr.own_below HO6.out ((Below.refl _ _).alloc (Nat.le_refl _) _))
            go_wp2_with (first
              | (refine Gk.wpList_ld (ty := 33) (x := .tmp 9) (p := ⟨wr.heap.size, 0, none⟩) (v := .agg #[.int .i64 c.kind, .int .i64 c.client, .int .i64 c.num, .int .i64 c.time, .int .i64 c.queue, .string (S c.group), .string (S c.body), .string (S c.token), .string (S c.attempt), .int .i64 c.max, .int .i64 c.secs, .int .i64 c.rc.q, .string (S c.rc.g), .int .i64 c.rc.s, .int .i64 c.rc.c, .int .i64 c.lo, .int .i64 c.hi, .int .i64 c.to, .slice none 0 0]) rfl rfl rfl (load_cv HC6.out) ?_)
              | (at_builtin; refine (Kv.wpList_append_own_src_at _ rfl (.tmp 75) (.tmp 77) 22 22 rfl w.heap.size 33 (.agg (Cv Cm.none (.slice none 0 0))) 19 208 Tryz.underlying22 infoN rfl (by decide) _ dl.length (FlN dl) rfl HO7.out _ 1 (FlN [c]) rfl ?hsrc ?h63 ?hby ?hbs ?_)))
            case hsrc => exact newN V6 c _
            case h63 => unfold maxLen; omega
            case hby => omega
            case hbs => simp; have := HBV.out.size; omega
            intro v2 w2 hown2 hgrow2 hlies
            have hf7 : Gf.Fr (fun j => u7.ownBlock = some j) V6 w2 := (Gf.Fr.ofBelow ((Below.refl V6.heap.size V6).alloc (Nat.le_refl _) _)).trans (Gf.fr_grown hgrow2) (fun i hi => .inl hi)
            have hne7 : ∀ j, u7.ownBlock = some j → j ≠ b ∧ j ≠ m ∧ w.heap.size ≤ j := by
              intro j hj
              obtain ⟨⟨a0, k0, z1, z2⟩, z3⟩ := HM6.out
              refine ⟨own_ne HO6.out z1 hj (by decide), own_map HO6.out z3 hj, ?_⟩
              rcases HO6.out.2 with ⟨e1, -⟩ | ⟨g, cap, cur, e1, hge, -⟩
              · rw [e1] at hj; simp [Value.ownBlock] at hj
              · rw [e1] at hj; simp only [Value.ownBlock, Option.some.injEq] at hj; omega
            have HM7 : Hid (Mk w2 b m e' ps' ((k : Int) + 1) D') := mkH (by
              obtain ⟨⟨a0, k0, z1, z2⟩, z3⟩ := HM6.out
              have hc1 := z1.cell 1 _ rfl
              exact ⟨⟨a0, k0, z1.fr hf7 (fun h => (hne7 _ h).1 rfl), rdP_fr z2 hf7 (fun x hx h => by subst hx; exact HN6.out _ h x _ _ hc1 rfl)⟩, z3.fr hf7 (fun h => (hne7 _ h).2.1 rfl)⟩)
            have HN7 : Hid (∀ j, v2.ownBlock = some j → Nr w2 b j) := mkH (fun j hj x l2 c2 hx => by
              rw [World.cell?_of_block (w := V6) (a := ⟨b, 1, none⟩) (hf7.heap HM6.out.lt.1 (fun h => (hne7 _ h).1 rfl))] at hx
              rcases hlies with h | h
              · exact HN6.out j (by rw [← h]; exact hj) x l2 c2 hx
              · rw [hj] at h
                injection h with h
                exact Nr.of HM6.out HI5.out.may (by omega) x l2 c2 hx)
            have HB7 : Hid (Below w.heap.size w w2) := mkH (Gk.below_fr HBV.out hf7 (fun j hj => (hne7 j hj).2.2) (Nat.le_refl _))
            have HO8 : Hid (w2.ownsRow w.heap.size 33 19 v2 (dl ++ [c]).length (FlN (dl ++ [c]))) := mkH (by
              rw [show (dl ++ [c]).length = dl.length + 1 by simp, show FlN (dl ++ [c]) = FlN dl ++ FlN [c] from Cr.Fl_append _ _]; exact hown2)
            have HD8 : Hid (∀ y ∈ dl ++ [c], Dn D' y) := mkH (fun y hy => by
              rcases List.mem_append.1 hy with h | h
              · exact HDD.out y h
              · have : y = c := by simpa using h
                subst this; exact HDC.out)
            have hl8 : (dl ++ [c]).length ≤ k + 1 := by simp; omega
            clear hne7 hf7 hown2 hgrow2 hlies HO7 HO6 HDD HDC HN6 HM6
            go_wp2
            go_roundw
            case rel => exact ⟨k + 1, by omega, by omega, by go_num, mkH ⟨⟨e', ps', D', dl ++ [c], HM7.out, HI5.out, HO8.out, hl8, HD8.out, HN7.out⟩, HB7.out⟩⟩
            case measure => simp [intOf]; omega
    · rw [decide_eq_false hlt2]
      obtain ⟨e, ps, D, dl, HM, HI, HO, hdl, HD⟩ : ∃ (e : Int) (ps : List Pc) (D : List Dd) (dl : List Cm), Hid (Mk wr b m e ps (k : Int) D) ∧ Hid (Inv e ps D k) ∧ Hid (wr.ownsRow w.heap.size 33 19 u7 dl.length (FlN dl)) ∧ dl.length ≤ k ∧ Hid (∀ c ∈ dl, Dn D c) := by
        obtain ⟨e, ps, D, dl, h1, h2, h3, h4, h5, h6⟩ := HL.out.ex
        exact ⟨e, ps, D, dl, mkH h1, mkH h2, mkH h3, h4, mkH h5⟩
      have HBL := mkH HL.out.bel
      obtain ⟨ao, cap, rfl⟩ := Kt.own_form HO.out
      clear HL HR HONE
      by_cases h0 : dl.length = 0
      · as_aux_lemma =>
          go_wp2_with fail
          refine (Cw.works_any _).mono ?_
          rintro x w2 ⟨rfl, hb2⟩
          go_wp2
          go_ret
          exact ⟨rfl, HBL.out.trans (hb2.mono HBL.out.size)⟩
      · have hn0 : ¬ (dl.length : Int) = 0 := by omega
        have hNp : (0 : Int) < (dl.length : Int) := by omega
        have hNk : (dl.length : Int) ≤ 30 := by omega
        obtain ⟨t1, t2, t3⟩ := tm_ok p hNp
        have h1 : IntKind.i64.wrap (p.tmod (dl.length : Int)) = p.tmod (dl.length : Int) := IntWalk.i64_in _ (by omega)
        have h2 : IntKind.i64.wrap (p.tmod (dl.length : Int) + (dl.length : Int)) = p.tmod (dl.length : Int) + (dl.length : Int) := IntWalk.i64_in _ (by omega)
        have h3 : IntKind.i64.wrap ((p.tmod (dl.length : Int) + (dl.length : Int)).tmod (dl.length : Int)) = (p.tmod (dl.length : Int) + (dl.length : Int)).tmod (dl.length : Int) := IntWalk.i64_in _ (by omega)
        obtain ⟨j, hj⟩ : ∃ j : Nat, (p.tmod (dl.length : Int) + (dl.length : Int)).tmod (dl.length : Int) = (j : Int) := ⟨((p.tmod (dl.length : Int) + (dl.length : Int)).tmod (dl.length : Int)).toNat, by omega⟩
        have hjl : j < dl.length := by omega
        rw [hj] at h3
        have hji : (j : Int) < (dl.length : Int) := by omega
        obtain ⟨c, hx⟩ := Cr.some_of hjl
        have HDC := mkH (HD.out c (List.mem_of_getElem? hx))
        obtain ⟨bl, ol, e1, hcell⟩ := Cr.RowS.own (cs := nC) nC_len HO.out (by omega)
        subst e1
        have HCL := mkH (hcell j _ hx)
        clear hcell hx
        go_wp2_with (refine Gk.wpList_ld (ty := 33) (x := .tmp 95) (p := ⟨bl, ol + j * 19, none⟩) (v := .agg (Cv c (.slice none 0 0))) rfl rfl rfl (load_nt HCL.out) ?_)
        obtain ⟨d1, d2, d3, d4, d5, d6⟩ := HDC.out
        have hok := Wy.cmd_ok wr c none 0 (by rw [d3]; intro h; simp at h) (by rw [d3]; simp) d1
        rw [d3] at hok
        refine Calls.mono hok ?_
        rintro x w2 ⟨v, rfl, hwt, hb2⟩
        obtain ⟨a3, cap3, rfl, hr3, hc3, hc63⟩ := Wo.Wt.row hwt
        have HM2 := mkH (HM.out.below hb2)
        have HR2 := mkH hr3
        have HB2 := mkH (HBL.out.trans (hb2.mono HBL.out.size))
        clear hok hwt hb2 hr3 HM HO HCL d1 d2 d3 d4 d5 d6 h1 h2 h3 hj t1 t2 t3 HD hn0 hNp hNk hji HBL
        have hpl := HI.out.pl
        have hdl2 := HI.out.dl
        obtain ⟨hgo, hgl⟩ := good_own HI.out (by omega)
        have HGO := mkH hgo
        have HGL := mkH hgl
        have HDU := mkH (Mq.mdump_any HM2.out (by omega) HI.out.may ⟨by omega, by omega⟩ ⟨HI.out.srt, by omega, fun x hx => by have := HI.out.pos x hx; unfold Ct.okN; omega⟩)
        clear hgo hgl
        go_wp2_with fail
        refine HDU.out.mono ?_
        rintro x w3 ⟨at', ct, rfl, hrt, hb3⟩
        have HM3 := mkH (HM2.out.below hb3)
        have HR3 := mkH (HR2.out.below hb3)
        have HB3 := mkH (HB2.out.trans (hb3.mono HB2.out.size))
        have HRV := mkH (Mr.revive_any w3 at' ct _ hrt HGL.out (by simp [dmp]))
        clear hrt hb3 HDU HM2 HR2 HB2
        go_wp2_with fail
        refine HRV.out.mono ?_
        rintro x w4 ⟨hb4, (⟨s', e', ps', D', b2, m2, hg, hpl2, rfl, hmk2, hbb2, hmm2⟩ | ⟨hg, rfl⟩)⟩
        rotate_left
        · exact absurd ⟨_, _, _, _, HGO.out⟩ hg
        obtain ⟨rfl, rfl, rfl, rfl⟩ := goodM_inj HGL.out HGO.out hg
        have HM4 := mkH (HM3.out.below hb4)
        have HR4 := mkH (HR3.out.below hb4)
        have HB4 := mkH (HB3.out.trans (hb4.mono HB3.out.size))
        have HK4 := mkH hmk2
        have hlt3 := HM3.out.lt
        clear hb4 hg hmk2 HRV HM3 HR3 HB3 HGO HGL
        have hal5 : Below w4.heap.size w4 (w4.alloc (.cells #[.pointer (some ⟨b, 0, none⟩), .pointer (some ⟨b2, 0, none⟩)] 23)) := (Below.refl _ w4).alloc (Nat.le_refl _) _
        have HP5 : Hid (Bx (w4.alloc (.cells #[.pointer (some ⟨b, 0, none⟩), .pointer (some ⟨b2, 0, none⟩)] 23)) w4.heap.size #[.pointer (some ⟨b, 0, none⟩), .pointer (some ⟨b2, 0, none⟩)] 23) := mkH (Bx.new _ _ _)
        have HL5 : Hid (L2 (w4.alloc (.cells #[.pointer (some ⟨b, 0, none⟩), .pointer (some ⟨b2, 0, none⟩)] 23)) b m b2 m2 e' ps' D' 0) := mkH ⟨_, _, ⟨by omega, by omega⟩, ⟨by omega, by omega⟩, HM4.out.below hal5, HK4.out.below hal5⟩
        have HR5 := mkH (HR4.out.below hal5)
        have HB5 := mkH (HB4.out.trans (hal5.mono HB4.out.size))
        have hbb3 : b ≠ b2 := by omega
        have hmm3 : m ≠ m2 := by omega
        have hw2b : w.heap.size ≤ b2 ∧ w.heap.size ≤ m2 := by have := HB4.out.size; omega
        have hps : ps'.length ≤ 30000 := by omega
        have hlt4 := HM4.out.lt
        have hlk4 := HK4.out.lt
        clear hal5 HM4 HK4 HR4 HB4
        go_wp2_with fail
        go_loopw [120] (fun i wr2 => ∃ q : Nat, q ≤ 2 ∧ i = .int .i64 q ∧ Hid (L2 wr2 b m b2 m2 e' ps' D' q) ∧ Hid (Row wr2 a3 (encCm c)) ∧ Hid (Bx wr2 w4.heap.size #[.pointer (some ⟨b, 0, none⟩), .pointer (some ⟨b2, 0, none⟩)] 23) ∧ Hid (Below w.heap.size w wr2)) (fun i _ => 2 - (intOf i).toNat)
        case atStart => exact ⟨0, by omega, rfl, HL5, HR5, HP5, HB5⟩
        case round =>
          obtain ⟨q, hq2, rfl, HL, HR, HP, HBq⟩ := hrel
          clear HL5 HR5 HP5 HB5
          by_cases hql : q < 2
          · obtain ⟨B, M, B', M', hcq, HLB, hne, hnm, hwB, hwM, hback⟩ : ∃ B M B' M', wr.cell? ⟨w4.heap.size, q, none⟩ = some (.pointer (some ⟨B, 0, none⟩)) ∧ Hid (L2 wr B M B' M' e' ps' D' q) ∧ B ≠ B' ∧ M ≠ M' ∧ (w.heap.size ≤ B ∧ B < w4.heap.size) ∧ (w.heap.size ≤ M ∧ M < w4.heap.size) ∧ Hid (∀ W q, L2 W B M B' M' e' ps' D' q → L2 W b m b2 m2 e' ps' D' q) := by
              rcases (by omega : q = 0 ∨ q = 1) with rfl | rfl
              · exact ⟨b, m, b2, m2, HP.out.cell 0 _ rfl, HL, hbb3, hmm3, ⟨hbb, hlt4.1⟩, ⟨hmm, hlt4.2⟩, mkH (fun W q h => h)⟩
              · exact ⟨b2, m2, b, m, HP.out.cell 1 _ rfl, mkH HL.out.symm, hbb3.symm, hmm3.symm, ⟨hw2b.1, hlk4.1⟩, ⟨hw2b.2, hlk4.2⟩, mkH (fun W q h => h.symm)⟩
            have hqi : (q : Int) < 2 := by omega
            have hqi0 : (0 : Int) ≤ (q : Int) := by omega
            obtain ⟨s1, s2, hs1, hs2, HM, HK⟩ : ∃ s1 s2 : Int, (0 ≤ s1 ∧ s1 ≤ 40 + q) ∧ (0 ≤ s2 ∧ s2 ≤ 40 + q) ∧ Hid (Mk wr B M e' ps' s1 D') ∧ Hid (Mk wr B' M' e' ps' s2 D') := by
              obtain ⟨s1, s2, h1, h2, h3, h4⟩ := HLB.out
              exact ⟨s1, s2, h1, h2, mkH h3, mkH h4⟩
            clear HL HLB
            have HCH := mkH (chart_any HM.out (by omega))
            go_wp2_with fail
            refine HCH.out.mono ?_
            rintro x w5 ⟨a1, k1, rfl, hrd1, hb5⟩
            obtain ⟨W6, hW6⟩ : ∃ W6, W6 = w5.alloc (.cells #[.int .i64 e', .slice a1 ps'.length k1] 51) := ⟨_, rfl⟩
            have hal6 : Below w5.heap.size w5 W6 := by rw [hW6]; exact (Below.refl _ w5).alloc (Nat.le_refl _) _
            have hb6 := hb5.trans (hal6.mono hb5.size)
            have HX6 : Hid (Bx W6 w5.heap.size #[.int .i64 e', .slice a1 ps'.length k1] 51) := mkH (by rw [hW6]; exact Bx.new _ _ _)
            have HRD6 := mkH (hrd1.below hal6)
            have HM6 := mkH (HM.out.below hb6)
            have HK6 := mkH (HK.out.below hb6)
            have HR6 := mkH (HR.out.below hb6)
            have HP6 := mkH (HP.out.bel hb6)
            have HB6 := mkH (HBq.out.trans (hb6.mono HBq.out.size))
            have HW6 := mkH hW6
            have hltB := HM6.out.lt
            have hw56 : wr.heap.size ≤ w5.heap.size := hb5.size
            have hltB5 := HM.out.lt
            clear hW6 hrd1 hb5 hal6 hb6 HCH HM HK HR HP hcq
            go_upto_region 25 with fail
            rw [← HW6.out]
            have HAP := mkH (apply_ok HM6.out HI.out.may hs1.1 (by omega) a3 cap3 (encCm c) HR6.out (Nat.le_trans (Oe.enc_cm_len HDC.out.1) (by omega)) hc3 hc63 c (Wi.whole_fits (check := checkC) (Wi.fits_cm HDC.out.1) HDC.out.1).1 0 e' e' ps' D' false (fun W d hd hW => answer_old hW HI.out.may hps c d hd (by have := (Wy.cm_parts HDC.out.1).1 c.client (by simp); omega) HDC.out.2.1 ⟨HDC.out.2.2.2.2.1, HDC.out.2.2.2.2.2⟩))
            go_upto_region 26 with (first
              | (refine wpList_stn rfl (ty := 42) (x := .tmp 22) (y := .tmp 128) (cs := Dw s1 c (.slice da dl2 dc) 0 e' (.slice va vn vc) false) (zs := Zw) rfl rfl rfl infoW rfl (Dw_one _ _ _ _ _ _ _ _ _ _ _) (fun V8 hD8 hb8 => ?_); have HD8 := mkH hD8; have HB8 := mkH hb8; clear hD8 hb8)
              | (go_at_call 6; refine HAP.out.mono ?_; rintro x w7 ⟨da, dl2, dc, va, vn, vc, rfl, g1, g2, g3, g4, g5⟩; have HM7 := mkH g3; have HF7 := mkH g5; clear g1 g2 g3 g4 g5))
            have hzx := HX6.out.lt
            have HX8 := mkH ((HX6.out.fr HF7.out (by omega)).bel HB8.out)
            have hra := row_apart HM6.out HRD6.out (ps_pos HI.out.may)
            have HRD8 := mkH ((rdP_fr HRD6.out HF7.out (fun x hx => by have := hra x hx; omega)).below HB8.out)
            have HM8 := mkH (HM7.out.below HB8.out)
            have HK8 := mkH ((mk_keep HK6.out HM6.out HI.out.may hne.symm hnm.symm HF7.out).below HB8.out)
            have HR8 := mkH ((row_mk HR6.out HM6.out HF7.out).below HB8.out)
            have HP8 := mkH ((HP6.out.fr HF7.out (by omega)).bel HB8.out)
            have hw6 := HB6.out.size
            have hw7 := HF7.out.size
            have HBV : Hid (Below w.heap.size w V8) := mkH ((HB6.out.trans (HF7.out.below (B := w.heap.size) (by rintro j (h | h) <;> omega) hw6)).trans (HB8.out.mono (Nat.le_trans hw6 hw7)))
            clear hra HX6 HRD6 HM6 HK6 HR6 HP6 HB6 HM7 HF7 HB8 HAP
            have HC : Hid (∀ W, Below V8.heap.size V8 W → W.cell? ⟨w7.heap.size, 27, none⟩ = some (.bool false) ∧ W.cell? ⟨w7.heap.size, 21, none⟩ = some (.int .i64 0) ∧ W.cell? ⟨w7.heap.size, 23, none⟩ = some (.int .i64 e') ∧ W.cell? ⟨w5.heap.size, 0, none⟩ = some (.int .i64 e') ∧ W.cell? ⟨w5.heap.size, 1, none⟩ = some (.slice a1 ps'.length k1)) := mkH (fun W hb =>
              ⟨(HD8.out.bel hb).cell 27 _ rfl, (HD8.out.bel hb).cell 21 _ rfl, (HD8.out.bel hb).cell 23 _ rfl, (HX8.out.bel hb).cell 0 _ rfl, (HX8.out.bel hb).cell 1 _ rfl⟩)
            have H1 : Hid (∀ W, Below V8.heap.size V8 W → Calls Tryz.prog 10 #[.pointer (some ⟨B, 0, none⟩)] W fun z w' => ∃ a9 k9, z = .returned (.agg #[.int .i64 e', .slice a9 ps'.length k9]) ∧ Cr.RdP w' a9 k9 ps' ∧ Below V8.heap.size V8 w') :=
              mkH (fun W hb => (chart_any (HM8.out.below hb) (by omega)).mono (fun z w' ⟨a9, k9, h1, h2, h3⟩ => ⟨a9, k9, h1, h2, hb.trans (h3.mono hb.size)⟩))
            have H2 : Hid (∀ W a9 k9, Below V8.heap.size V8 W → Cr.RdP W a9 k9 ps' → Calls Tryz.prog 11 #[.agg #[.int .i64 e', .slice a9 ps'.length k9], .agg #[.int .i64 e', .slice a1 ps'.length k1]] W fun z w' => z = .returned (.bool true) ∧ Below V8.heap.size V8 w') :=
              mkH (fun W a9 k9 hb hr => (Ce.same_any W e' e' a9 a1 k9 k1 ps' ps' hr (HRD8.out.below hb)).mono (fun z w' ⟨h1, h2⟩ => ⟨by rw [h1, decide_eq_true ⟨rfl, rfl⟩], hb.trans (h2.below.mono hb.size)⟩))
            obtain ⟨c0, c1, c2, c3, c4⟩ := HC.out V8 (Below.refl _ _)
            go_region_held3 (fun W => W.cell? ⟨w7.heap.size, 27, none⟩ = some (.bool false) ∧ W.cell? ⟨w7.heap.size, 21, none⟩ = some (.int .i64 0) ∧ W.cell? ⟨w7.heap.size, 23, none⟩ = some (.int .i64 e') ∧ W.cell? ⟨w5.heap.size, 0, none⟩ = some (.int .i64 e') ∧ W.cell? ⟨w5.heap.size, 1, none⟩ = some (.slice a1 ps'.length k1)) (first | go_keep | exact hkeep) (first
              | (go_at_call 11; refine (H2.out _ a9 k9 (by (repeat (first | exact hbX | exact Below.refl _ _ | refine Below.drew ?_ | refine Gf.below_drewN ?_ _))) (by (repeat (first | exact hr9 | refine Cr.RdP.below ?_ (by (repeat (first | exact Below.refl _ _ | refine Below.drew ?_ | refine Gf.below_drewN ?_ _))))))).mono ?_; rintro z w12 ⟨rfl, hbY⟩; have hkeep := (by exact HC.out w12 hbY))
              | (go_at_call 10; refine (H1.out _ (by (repeat (first | exact hbX | exact Below.refl _ _ | refine Below.drew ?_ | refine Gf.below_drewN ?_ _)))).mono ?_; rintro z w11 ⟨a9, k9, rfl, hr9, hbX⟩; have hkeep := (by exact HC.out w11 hbX)))
            all_goals
              go_wp2_with fail
              exact ⟨⟨q + 1, by omega, by go_num, mkH (hback.out _ _ ⟨s1 + 1, s2, by omega, by omega, HM8.out.below hbY, HK8.out.below hbY⟩), mkH (HR8.out.below hbY), mkH (HP8.out.bel hbY), mkH (HBV.out.trans (hbY.mono HBV.out.size))⟩, by simp [intOf]; omega⟩
          · as_aux_lemma =>
              have hqi : ¬ (q : Int) < 2 := by omega
              go_wp2_with fail
              refine (Cw.works_any _).mono ?_
              rintro x w5 ⟨rfl, hb5⟩
              go_wp2
              go_ret
              exact ⟨rfl, HBq.out.trans (hb5.mono HBq.out.size)⟩
end Go.Proofs.YtcpmcfagibmboabGreat.Ol

namespace Go.Proofs.YtcpmcfagibmboabGreat.Kt
open Go.RowKit
open At (RowT)
open Ad (RowI)

def IsStrs (w : World) (a : Option Addr) (len cap : Nat) (zs : List ByteArray) : Prop :=
  (a = none ∧ len = 0 ∧ cap = 0 ∧ zs = []) ∨
  ∃ x, a = some x ∧ len ≤ cap ∧ cap ≤ maxLen ∧ zs.length = cap ∧ (∀ i, i < zs.length → w.cell? (x.add i) = some (.string (zs.getD i ByteArray.empty))) ∧ ∀ s ∈ zs, s.size ≤ maxLen

theorem isStrs_texts {w : World} {a : Option Addr} {len cap : Nat} {zs : List ByteArray} (h : IsStrs w a len cap zs) : ∃ l : List (List UInt8), l.length = len ∧ len ≤ cap ∧ cap ≤ 9223372036854775807 ∧ RowT w a l := by
  rcases h with ⟨rfl, rfl, rfl, rfl⟩ | ⟨x, rfl, hl, hm, hz, hcell, hwz⟩
  · exact ⟨[], rfl, Nat.le_refl _, by omega, fun h => by simp at h⟩
  · refine ⟨(zs.take len).map fun s => s.data.toList, by simp; omega, hl, by unfold maxLen at hm; omega, fun h0 => ?_⟩
    simp only [List.length_map, List.length_take] at h0 ⊢
    obtain ⟨b, off, spot⟩ := x
    have hc0 := hcell 0 (by omega)
    have hspot : spot = none := by simpa [Addr.add] using World.cell?_spot hc0
    subst hspot
    refine ⟨b, off, rfl, fun i hi => ?_⟩
    have hc := hcell i (by omega)
    have hp : (⟨b, off, none⟩ : Addr).add i = ⟨b, off + i, none⟩ := by unfold Addr.add; split <;> simp_all
    rw [hp] at hc
    rw [hc]
    have hiz : i < zs.length := by omega
    have hil : i < len := by omega
    have e1 : zs.getD i ByteArray.empty = zs[i] := by simp [List.getD, List.getElem?_eq_getElem hiz]
    have e2 : ((zs.take len).map fun s => s.data.toList).getD i [] = zs[i].data.toList := by
      simp [List.getD, hil, List.getElem?_eq_getElem hiz]
    rw [e1, e2]
    congr 2

theorem isRow_ints {w : World} {a : Option Addr} {len cap : Nat} {zs : List Int} (h : IsRow .i64 w a len cap zs) : ∃ l : List Int, l.length = len ∧ len ≤ cap ∧ cap ≤ 9223372036854775807 ∧ RowI w a l ∧ ∀ x ∈ l, (Lit.int .i64 x).wf = true := by
  rcases h with ⟨rfl, rfl, rfl, rfl⟩ | ⟨x, rfl, hl, hm, hz, hcell, hwz⟩
  · exact ⟨[], rfl, Nat.le_refl _, by omega, fun h => by simp at h, fun x hx => by cases hx⟩
  · refine ⟨zs.take len, by rw [List.length_take]; omega, hl, by unfold maxLen at hm; omega, fun h0 => ?_, fun x hx => hwz x (List.mem_of_mem_take hx)⟩
    simp only [List.length_take] at h0 ⊢
    obtain ⟨b, off, spot⟩ := x
    have hc0 := hcell 0 (by omega)
    have hspot : spot = none := by simpa [Addr.add] using World.cell?_spot hc0
    subst hspot
    refine ⟨b, off, rfl, fun i hi => ?_⟩
    have hc := hcell i (by omega)
    have hp : (⟨b, off, none⟩ : Addr).add i = ⟨b, off + i, none⟩ := by unfold Addr.add; split <;> simp_all
    rw [hp] at hc
    rw [hc]
    have hil : i < len := by omega
    simp [List.getD, hil]
end Go.Proofs.YtcpmcfagibmboabGreat.Kt
