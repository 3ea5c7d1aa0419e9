/-
  PlA PlJ0 PlB PlC PlJ, joined by mrg.py.
-/
import Derived.Test.YtgbbajeeelgbhaaGreatDoorSqAP

namespace Go.Proofs.YtgbbajeeelgbhaaGreatDoor.Pa
open Go.RowKit Pl Pw Pr Pf
open Kt hiding mkH
open Kv
set_option linter.unusedVariables false
set_option maxRecDepth 20000

/-- A new row. -/
theorem Rw_new (w : World) (l : List Rg) (T : TypeId) : Rw (w.alloc (.cells (E l).toArray T)) (some ⟨w.heap.size, 0, none⟩) l := by
  intro _
  refine ⟨w.heap.size, 0, rfl, fun i r hr => ?_⟩
  have h : ∀ j u, (E l)[j]? = some u → (w.alloc (.cells (E l).toArray T)).cell? ⟨w.heap.size, j, none⟩ = some u := by
    intro j u hu
    have hn := heap_alloc_new w (.cells (E l).toArray T)
    simp only [World.cell?]
    rw [show (w.alloc (.cells (E l).toArray T)).heap[w.heap.size]? = _ from hn]
    simpa using hu
  rw [Nat.zero_add]
  exact ⟨h _ _ (E_at0 l i r hr), h _ _ (E_at1 l i r hr)⟩

/-- What appending to a row does to the world, and where the row lies then. -/
def Ext (w : World) (v : Value) (w' : World) (v' : Value) : Prop :=
  w.grownBy w' v.ownBlock ∧ (v'.ownBlock = v.ownBlock ∨ ∃ g, v'.ownBlock = some g ∧ w.heap.size ≤ g)
theorem Ext.refl (w : World) (v : Value) : Ext w v w v := ⟨⟨rfl, rfl, rfl, Nat.le_refl _, fun _ _ _ => rfl⟩, .inl rfl⟩
theorem Ext.trans {w w1 w2 : World} {v v1 v2 : Value} (h : Ext w v w1 v1) (k : Ext w1 v1 w2 v2) : Ext w v w2 v2 := by
  refine ⟨⟨k.1.os.trans h.1.os, k.1.tape.trans h.1.tape, k.1.output.trans h.1.output, Nat.le_trans h.1.size k.1.size, fun j hj hn => ?_⟩, ?_⟩
  · rw [k.1.block j (Nat.lt_of_lt_of_le hj h.1.size) ?_]
    · exact h.1.block j hj hn
    · rcases h.2 with e | ⟨g, e, hg⟩
      · rw [e]; exact hn
      · rw [e]; intro e2; injection e2 with e2; omega
  · rcases k.2 with e | ⟨g, e, hg⟩
    · rw [e]; exact h.2
    · exact .inr ⟨g, e, Nat.le_trans h.1.size hg⟩
theorem Ext.gr {w w1 w2 : World} {v v1 : Value} (h : Ext w v w1 v1) (k : Gr w1 w2) : Ext w v w2 v1 :=
  h.trans ⟨⟨k.below.os, k.below.tape, k.below.output, k.below.size, fun j hj _ => k.below.block j hj⟩, .inl rfl⟩
theorem Ext.at {w w1 w2 : World} {v v1 v2 : Value} (h : Ext w v w1 v1) (hg : w1.grownBy w2 v1.ownBlock) (hl : v2.ownBlock = v1.ownBlock ∨ v2.ownBlock = some w1.heap.size) : Ext w v w2 v2 :=
  h.trans ⟨hg, hl.imp id fun e => ⟨_, e, Nat.le_refl _⟩⟩
/-- What lies in another block stays. -/
theorem Ext.rw {w w' : World} {v v' : Value} {ao : Option Addr} {l : List Rg} (h : Ext w v w' v') (hr : Rw w ao l) (hs : ∀ a, ao = some a → v.ownBlock ≠ some a.block) : Rw w' ao l := by
  intro hl
  obtain ⟨b, off, rfl, hc⟩ := hr hl
  refine ⟨b, off, rfl, fun i r hi => ?_⟩
  have hb := World.block_lt_of_cell? w _ (hc i r hi).1
  have hk := h.1.block b hb (fun e => hs _ rfl e.symm)
  rw [World.cell?_of_block (w := w) (a := ⟨b, off + i * 2, none⟩) hk, World.cell?_of_block (w := w) (a := ⟨b, off + i * 2 + 1, none⟩) hk]
  exact hc i r hi
theorem Ext.below {w w' W : World} {v v' : Value} {B : Nat} (h : Ext w v w' v') (hb : Below B W w) (hB : B ≤ w.heap.size) (hv : ∀ k, v.ownBlock = some k → B ≤ k) : Below B W w' :=
  hb.grown h.1 hB hv
theorem Ow.ge {w : World} {base : Nat} {v : Value} {l : List Rg} (h : Ow w base v l) (k : Nat) (hk : v.ownBlock = some k) : base ≤ k ∧ k < w.heap.size := h.lt k hk

theorem real_snoc {s : List Rg} {k : Nat} {r : Rg} (h : s[k]? = some r) : real (s.take (k + 1)) = if may r = true then real (s.take k) ++ [r] else real (s.take k) := by
  unfold real
  rw [List.take_add_one, h, List.filter_append]
  by_cases hm : may r = true <;> simp [hm]

set_option maxHeartbeats 2000000 in
theorem addReal_any (w : World) (base : Nat) (v : Value) (l0 : List Rg) (hown : Ow w base v l0) (hbase : base ≤ w.heap.size) (ao : Option Addr) (cap : Nat) (s : List Rg) (hs : Rw w ao s) (hsep : ∀ a, ao = some a → v.ownBlock ≠ some a.block) (hlen : l0.length + s.length ≤ 1000000) :
    Calls Tryz.prog 138 #[v, .slice ao s.length cap] w fun e w' => ∃ v', e = .returned v' ∧ Ow w' base v' (l0 ++ real s) ∧ Ext w v w' v' := by
  go_enter Tryz.func138, Tryz.ntmps138
  go_wp2
  go_loopw [0, 9] (fun u i wr => ∃ k : Nat, k ≤ s.length ∧ i = .int .i64 k ∧ Ow wr base u (l0 ++ real (s.take k)) ∧ Ext w v wr u) (fun _ i _ => s.length - (intOf i).toNat)
  case atStart => exact ⟨0, Nat.zero_le _, rfl, by simpa [real] using hown, Ext.refl _ _⟩
  case round =>
    obtain ⟨k, hk, rfl, hO, hX⟩ := hrel
    by_cases hlt : k < s.length
    · obtain ⟨⟨r1, r2⟩, hrk⟩ := some_of hlt
      obtain ⟨b, o, rfl, hc⟩ := (hX.rw hs hsep) (by omega)
      obtain ⟨u1, u2⟩ := hc k _ hrk
      have HS := mkH (real_snoc hrk)
      have hi : (k : Int) < (s.length : Int) := by omega
      have hi0 : (0 : Int) ≤ (k : Int) := by omega
      have hm := fun W => may_any W r1 r2
      clear hc hrk hs hown
      have HX := mkH hX
      have HO := mkH hO
      clear hX hO
      cases hq : may (r1, r2)
      · rw [hq] at hm
        rw [hq] at HS
        go_wp2_with fail
        refine (hm _).mono ?_
        rintro e w1 ⟨rfl, rfl⟩
        have hgr := ((Gr.refl wr).alloc (.cells #[.int .i64 r1, .int .i64 r2] 37)).alloc (.cells #[.int .i64 r1, .int .i64 r2] 37)
        have hO1 := HO.out.below hgr.below
        have hX1 := HX.out.gr hgr
        have e1 := HS.out
        simp only [Bool.false_eq_true, if_false] at e1
        rw [← e1] at hO1
        clear e1 hgr HO HX HS u1 u2
        go_wp2
        go_roundw
        case rel => exact ⟨k + 1, by omega, by go_num, hO1, hX1⟩
        case measure => simp [intOf]; omega
      · rw [hq] at hm
        rw [hq] at HS
        have hn1 : (real (s.take k)).length ≤ k := by
          have h1 := List.length_filter_le may (s.take k)
          rw [List.length_take] at h1
          unfold real
          omega
        go_wp2_with fail
        refine (hm _).mono ?_
        rintro e w1 ⟨rfl, rfl⟩
        have hgr := ((Gr.refl wr).alloc (.cells #[.int .i64 r1, .int .i64 r2] 37)).alloc (.cells #[.int .i64 r1, .int .i64 r2] 37)
        have hgr2 := hgr.alloc (.cells #[.int .i64 r1, .int .i64 r2] 37)
        have hO1 := HO.out.below hgr2.below
        have hX1 := HX.out.gr hgr2
        have hsz := HX.out.1.size
        have hsrc : Src Tryz.prog 2 22 (.slice (some ⟨wr.heap.size + 1 + 1, 0, none⟩) 1 1) 1 (E [(r1, r2)]) (((wr.alloc (.cells #[.int .i64 r1, .int .i64 r2] 37)).alloc (.cells #[.int .i64 r1, .int .i64 r2] 37)).alloc (.cells #[.int .i64 r1, .int .i64 r2] 37)) := by
          have h1 := Rw.src (P := Tryz.prog) Tryz.underlying22 (Rw_new ((wr.alloc (.cells #[.int .i64 r1, .int .i64 r2] 37)).alloc (.cells #[.int .i64 r1, .int .i64 r2] 37)) [(r1, r2)] 37) 1
          rw [show ((wr.alloc (.cells #[.int .i64 r1, .int .i64 r2] 37)).alloc (.cells #[.int .i64 r1, .int .i64 r2] 37)).heap.size = wr.heap.size + 1 + 1 by simp] at h1
          exact h1
        have HSRC := mkH hsrc
        clear hsrc
        have HN : Hid (l0 ++ real (s.take (k + 1)) = (l0 ++ real (s.take k)) ++ [(r1, r2)]) := mkH (by
          have e1 := HS.out
          simp only [if_true] at e1
          rw [e1, List.append_assoc])
        have hlen2 : (l0 ++ real (s.take k)).length ≤ l0.length + k := by rw [List.length_append]; omega
        clear HO HX HS u1 u2 hgr hgr2
        generalize l0 ++ real (s.take k) = L at hO1 HN hlen2
        go_wp2_with (at_builtin; refine (wpList_append_own_src_at _ rfl (.tmp 15) (.tmp 17) 22 22 rfl base 37 (.agg #[.int .i64 0, .int .i64 0]) 2 16 Tryz.underlying22 info26 rfl (by decide) _ L.length (E L) rfl hO1 _ 1 (E [(r1, r2)]) rfl ?hsrc ?h63 ?hby ?hbs ?_))
        case hsrc => exact HSRC.out
        case h63 => unfold maxLen; omega
        case hby => omega
        case hbs => simp; omega
        intro v2 w2 hown2 hgrow2 hlies
        have hO2 : Ow w2 base v2 (l0 ++ real (s.take (k + 1))) := by
          rw [HN.out]
          unfold Ow
          rw [E_append, List.length_append]
          exact hown2
        have hX2 := hX1.at hgrow2 (by simpa using hlies)
        clear hown2 hgrow2 hlies hO1 hX1 HSRC HN hlen2
        go_wp2
        go_roundw
        case rel => exact ⟨k + 1, by omega, by go_num, hO2, hX2⟩
        case measure => simp [intOf]; omega
    · have : k = s.length := by omega
      subst this
      rw [List.take_length] at hO
      clear hs hown
      go_wp2
      go_ret
      exact ⟨_, rfl, hO, hX⟩
end Go.Proofs.YtgbbajeeelgbhaaGreatDoor.Pa

namespace Go.Proofs.YtgbbajeeelgbhaaGreatDoor.Pj
open Go.RowKit Pl Pw Pr Pf Pg Pa Go.Shelf Go.Sort
open Kt hiding mkH
set_option linter.unusedVariables false
set_option maxRecDepth 20000

def cf (x y : Rg) : Int := Lib.compareInt x.1 y.1

set_option maxHeartbeats 1000000 in
/-- 'cmp.Compare(a.Lo, b.Lo)': two blocks are laid. -/
theorem less_any (x y : Rg) (W : World) : Calls Tryz.prog 140 #[.agg #[.int .i64 x.1, .int .i64 x.2], .agg #[.int .i64 y.1, .int .i64 y.2]] W fun e w' => e = .returned (.int .i64 (Lib.compareInt x.1 y.1)) ∧ ∃ q os', w' = grow (W.drewN q) os' := by
  have hcon := fun W' => AnyG.cmp_Compare_int Sh.lcmp x.1 y.1 W'
  change ∀ W', Calls Tryz.prog 141 _ _ _ at hcon
  generalize Lib.compareInt x.1 y.1 = r at hcon ⊢
  go_enter Tryz.func140, Tryz.ntmps140
  go_wp2_with (go_at_call 141; refine (hcon _).mono ?_; rintro e w' ⟨rfl, rfl⟩)
  go_ret
  exact ⟨rfl, 0, _, by rw [alloc_eq_grow, alloc_eq_grow, grow_grow]; rfl⟩
theorem lessLays (blk off size : Nat) (w : World) : CmpLays Tryz.prog 140 #[] encR 2 cf blk off size w :=
  fun _ _ _ _ x y => less_any x y _
theorem ltLo (x y : Rg) : ltOf cf x y = decide (x.1 < y.1) := by
  unfold ltOf cf Lib.compareInt
  by_cases h1 : x.1 < y.1
  · simp [h1]
  · by_cases h2 : y.1 < x.1 <;> simp [h1, h2]
theorem swoLo : SWO (ltOf cf) where
  irrefl x := by rw [ltLo]; simp
  trans x y z h1 h2 := by rw [ltLo] at *; simp at *; omega
  ntrans x y z h1 h2 := by rw [ltLo] at *; simp at *; omega

theorem E_flat (l : List Rg) (j : Nat) (h : j < l.length * 2) : (E l)[j]? = some (encR (l.toArray[j / 2]!))[j % 2]! := by
  obtain ⟨r, hr⟩ := some_of (show j / 2 < l.length by omega)
  have e : l.toArray[j / 2]! = r := by
    rw [getElem!_pos _ _ (by simp; omega)]
    have : l[j / 2]'(by omega) = r := by rw [List.getElem?_eq_getElem (by omega)] at hr; injection hr
    simpa using this
  rw [e]
  rcases Nat.mod_two_eq_zero_or_one j with h0 | h0
  · rw [h0, show j = j / 2 * 2 by omega, E_at0 l _ r hr]; rfl
  · rw [h0, show j = j / 2 * 2 + 1 by omega, E_at1 l _ r hr]; rfl

theorem grownBy_sort {w : World} {g n : Nat} {os : Array Obj} (d : Array Rg) : w.grownBy (sortWorldK encR 2 w g 0 n d os) (some g) := by
  unfold sortWorldK putRowK
  refine ⟨rfl, rfl, rfl, by simp, fun k hk hne => ?_⟩
  rw [heap_grow_old _ _ (by simpa using hk)]
  have : g ≠ k := fun e => hne (by rw [e])
  simp [putRow, mapBlock, Sort.ahead, Array.getElem?_modify, this]

theorem sort_any (w : World) (base : Nat) (ao : Option Addr) (cap : Nat) (l : List Rg) (hown : Ow w base (.slice ao l.length cap) l) (hl : l.length ≤ 1000000) :
    Calls Tryz.prog 139 #[.slice ao l.length cap, .func (.func 140) #[] #[]] w fun e w' => e = .returned (.tuple #[]) ∧ ∃ s, s.Perm l ∧ s.Pairwise (fun a b => a.1 ≤ b.1) ∧ Rw w' ao s ∧ w.grownBy w' (Value.slice ao l.length cap).ownBlock := by
  by_cases h0 : 0 < l.length
  · rcases hown.2 with ⟨e1, e2⟩ | ⟨g, c, cur, e1, hbg, hg, hnc, hcm, hcs, ht⟩
    · omega
    · simp only [Value.slice.injEq] at e1
      obtain ⟨rfl, -, rfl⟩ := e1
      have hgl : g < w.heap.size := by
        rcases Nat.lt_or_ge g w.heap.size with h1 | h1
        · exact h1
        · rw [Array.getElem?_eq_none h1] at hg; cases hg
      have eg : ∀ args w, (callFunc 140 args).run Tryz.prog w = .ok (.enter 140 args) w := enters_of Tryz.func140 (by kernel_rfl) rfl
      have hH : HoldsK encR 2 w g 0 l.toArray := by
        intro j hj
        rw [size_flatK, List.size_toArray] at hj
        refine ⟨?_, by simp [World.frozen?, hg]⟩
        rw [get_flatK _ _ _ _ (by simpa using hj), Nat.zero_add]
        have h1 := World.ownsRow.cellAt hown j (by omega)
        rw [E_flat l j hj] at h1
        exact h1
      have hcon := AnyQ.slices_SortFunc Sh.lsort 2 Tryz.isAgg37 Tryz.sizeOf37 encR (fun _ => rfl) (fun x v hv => by simp [encR] at hv; rcases hv with rfl | rfl <;> rfl) cf swoLo 140 #[] g 0 cap l.toArray w eg (lessLays g 0 l.toArray.size w) hH hgl (by simp; omega)
      change Calls Tryz.prog 139 _ _ _ at hcon
      rw [List.size_toArray] at hcon
      refine hcon.mono ?_
      rintro e w' ⟨he, d', n, os, hp, hs, rfl⟩
      have hds : d'.size = l.length := by have := hp.1; simpa using this
      have hK : HoldsK encR 2 (sortWorldK encR 2 w g 0 n d' os) g 0 d' := by
        unfold sortWorldK
        exact holdsK_grow encR 2 _ _ _ _ _ (by simpa [putRowK] using hgl) (holdsK_putRowK encR 2 _ _ _ _ _ (holdsK_ahead encR 2 _ _ _ _ _ hH) (by simp [hds]))
      refine ⟨he, d'.toList, ?_, ?_, ?_, grownBy_sort d'⟩
      · have h1 := hp.2.2
        rw [← hds, Array.extract_size, hds] at h1
        simpa using h1
      · rw [List.pairwise_iff_getElem]
        intro i j hi hj hij
        have h1 := hs i j (Nat.zero_le _) hij (by rw [Array.length_toList] at hj; omega)
        rw [ltLo, decide_eq_false_iff_not] at h1
        rw [Array.length_toList] at hi hj
        rw [getElem!_pos d' j hj, getElem!_pos d' i hi] at h1
        simp only [Array.getElem_toList]
        omega
      · intro _
        refine ⟨g, 0, rfl, fun i r hr => ?_⟩
        have hi : i < d'.size := by
          rcases Nat.lt_or_ge i d'.size with h1 | h1
          · exact h1
          · rw [List.getElem?_eq_none (by simpa using h1)] at hr; cases hr
        have e : d'[i]! = r := by
          rw [getElem!_pos d' i hi]
          rw [List.getElem?_eq_getElem (by simpa using hi)] at hr
          injection hr
        have h1 := (hK.cell hi (show 0 < 2 by omega)).1
        have h2 := (hK.cell hi (show 1 < 2 by omega)).1
        rw [e] at h1 h2
        exact ⟨h1, h2⟩
  · have e : l = [] := List.eq_nil_of_length_eq_zero (by omega)
    subst e
    have hcon := AnyF.slices_SortFunc_none Sh.lsort ao cap (.func (.func 140) #[] #[]) w
    change Calls Tryz.prog 139 _ _ _ at hcon
    refine hcon.mono ?_
    rintro e w' ⟨he, rfl⟩
    exact ⟨he, [], List.Perm.nil, List.Pairwise.nil, Rw.nil _ _, ⟨rfl, rfl, rfl, Nat.le_refl _, fun _ _ _ => rfl⟩⟩
end Go.Proofs.YtgbbajeeelgbhaaGreatDoor.Pj

namespace Go.Proofs.YtgbbajeeelgbhaaGreatDoor.Pb
open Go.RowKit Pl Pw
set_option linter.unusedVariables false

/-- A range that lies in a block of its own. -/
def Bx (w : World) (b : Nat) (lo hi : Int) : Prop := w.heap[b]? = some (.cells #[.int .i64 lo, .int .i64 hi] 37 (0, 0))
theorem Bx.new (w : World) (lo hi : Int) : Bx (w.alloc (.cells #[.int .i64 lo, .int .i64 hi] 37)) w.heap.size lo hi := heap_alloc_new _ _
theorem Bx.new1 (w : World) (o : Obj) (lo hi : Int) : Bx ((w.alloc o).alloc (.cells #[.int .i64 lo, .int .i64 hi] 37)) (w.heap.size + 1) lo hi := by
  have h := Bx.new (w.alloc o) lo hi
  rwa [show (w.alloc o).heap.size = w.heap.size + 1 by simp] at h
theorem Bx.lt {w : World} {b : Nat} {lo hi : Int} (h : Bx w b lo hi) : b < w.heap.size := by
  rcases Nat.lt_or_ge b w.heap.size with h1 | h1
  · exact h1
  · unfold Bx at h; rw [Array.getElem?_eq_none h1] at h; cases h
theorem Bx.below {w w' : World} {b B : Nat} {lo hi : Int} (h : Bx w b lo hi) (hg : Below B w w') (hb : b < B) : Bx w' b lo hi := by
  unfold Bx; rw [hg.block b hb]; exact h
theorem Bx.gr {w w' : World} {b : Nat} {lo hi : Int} (h : Bx w b lo hi) (hg : Gr w w') : Bx w' b lo hi := h.below hg.below h.lt
theorem Bx.alloc {w : World} {b : Nat} {lo hi : Int} (h : Bx w b lo hi) (o : Obj) : Bx (w.alloc o) b lo hi := h.gr ((Gr.refl w).alloc o)
theorem Bx.c0 {w : World} {b : Nat} {lo hi : Int} (h : Bx w b lo hi) : w.cell? ⟨b, 0, none⟩ = some (.int .i64 lo) := by
  simp only [World.cell?]; rw [show w.heap[b]? = _ from h]; rfl
theorem Bx.c1 {w : World} {b : Nat} {lo hi : Int} (h : Bx w b lo hi) : w.cell? ⟨b, 1, none⟩ = some (.int .i64 hi) := by
  simp only [World.cell?]; rw [show w.heap[b]? = _ from h]; rfl
end Go.Proofs.YtgbbajeeelgbhaaGreatDoor.Pb

namespace Go.Proofs.YtgbbajeeelgbhaaGreatDoor.Pc
open Go.RowKit Pl Pw Pr Pf Pa Pb
open Kt hiding mkH
open Kv
set_option linter.unusedVariables false
set_option maxRecDepth 20000

theorem cut1_none (x r : Rg) (h : meet x r = (0, 0)) : cut1 r x = real [x] := by
  by_cases hx : may x = true
  · rw [cut1_free r x hx h]; simp [real, hx]
  · unfold cut1; rw [if_neg hx]; simp [real, hx]
theorem cut1_some (x r g : Rg) (h : meet x r = g) (hg : ¬ (g.1 = 0 ∧ g.2 = 0)) : cut1 r x = real [(x.1, g.1), (g.2, x.2)] := by
  unfold meet at h
  by_cases hc : may x = true ∧ may r = true ∧ x.1 < r.2 ∧ r.1 < x.2
  · rw [if_pos hc] at h
    have hx := (may_iff x).1 hc.1
    have hr := (may_iff r).1 hc.2.1
    have h3 := hc.2.2
    subst h
    unfold cut1
    rw [if_pos hc.1, if_pos ⟨hc.2.1, h3⟩]
    have e1 : may (x.1, max x.1 r.1) = decide (x.1 < r.1) := by
      rw [Bool.eq_iff_iff, may_iff, decide_eq_true_eq]; dsimp only; omega
    have e2 : may (min x.2 r.2, x.2) = decide (r.2 < x.2) := by
      rw [Bool.eq_iff_iff, may_iff, decide_eq_true_eq]; dsimp only; omega
    unfold real
    rw [List.filter_cons, List.filter_cons, List.filter_nil]
    dsimp only
    rw [e1, e2]
    by_cases k1 : x.1 < r.1 <;> by_cases k2 : r.2 < x.2
    · rw [show max x.1 r.1 = r.1 by omega, show min x.2 r.2 = r.2 by omega]; simp [k1, k2]
    · rw [show max x.1 r.1 = r.1 by omega]; simp [k1, k2]
    · rw [show min x.2 r.2 = r.2 by omega]; simp [k1, k2]
    · simp [k1, k2]
  · rw [if_neg hc] at h
    subst h
    exact absurd ⟨rfl, rfl⟩ hg
theorem cut_snoc {l : List Rg} {k : Nat} {x : Rg} (r : Rg) (h : l[k]? = some x) : cut (l.take (k + 1)) r = cut (l.take k) r ++ cut1 r x := by
  unfold cut
  rw [List.take_add_one, h, List.flatMap_append]
  simp
theorem cut1_len (r x : Rg) : (cut1 r x).length ≤ 2 := by
  unfold cut1
  split
  · split
    · rw [List.length_append]; split <;> split <;> simp
    · simp
  · simp
theorem cut_len (l : List Rg) (r : Rg) : (cut l r).length ≤ 2 * l.length := by
  induction l with
  | nil => simp [cut]
  | cons x t ih =>
    have := cut1_len r x
    unfold cut at ih ⊢
    rw [List.flatMap_cons, List.length_append, List.length_cons]
    omega
theorem Ow.mono {w : World} {base base' : Nat} {v : Value} {l : List Rg} (h : Ow w base' v l) (hb : base ≤ base') : Ow w base v l := by
  refine ⟨h.1, ?_⟩
  rcases h.2 with h1 | ⟨g, c, cur, e1, h2, h3⟩
  · exact .inl h1
  · exact .inr ⟨g, c, cur, e1, Nat.le_trans hb h2, h3⟩
theorem meet_form (x r : Rg) : ∃ g1 g2, meet x r = (g1, g2) := ⟨_, _, rfl⟩

set_option maxHeartbeats 2000000 in
theorem cut_any (w : World) (ao : Option Addr) (cap : Nat) (l : List Rg) (c d : Int) (hr : Rw w ao l) (hl : l.length ≤ 1000) :
    Calls Tryz.prog 170 #[.slice ao l.length cap, .agg #[.int .i64 c, .int .i64 d]] w fun e w' => ∃ v, e = .returned v ∧ Ow w' w.heap.size v (cut l (c, d)) ∧ Below w.heap.size w w' := by
  obtain ⟨W0, hW0⟩ : ∃ W0, W0 = w.alloc (.cells #[.int .i64 c, .int .i64 d] 37) := ⟨_, rfl⟩
  have hs0 : W0.heap.size = w.heap.size + 1 := by rw [hW0]; simp
  have hb0 : Below w.heap.size w W0 := by rw [hW0]; exact (Below.refl _ w).alloc (Nat.le_refl _) _
  have hc0 : W0.cell? ⟨w.heap.size, 0, none⟩ = some (.int .i64 c) := by rw [hW0]; simp
  have hc1 : W0.cell? ⟨w.heap.size, 1, none⟩ = some (.int .i64 d) := by rw [hW0]; simp
  have hr0 := hr.below hb0
  have HC0 := mkH hc0
  have HC1 := mkH hc1
  have HB0 := mkH hb0
  have HS0 := mkH hs0
  have HW0 := mkH hW0
  clear hc0 hc1 hb0 hr hs0 hW0
  go_enter Tryz.func170, Tryz.ntmps170
  go_wp2
  rw [← HW0.out]
  clear HW0
  go_loopw [5, 11] (fun u i wr => ∃ k : Nat, k ≤ l.length ∧ i = .int .i64 k ∧ Ow wr W0.heap.size u (cut (l.take k) (c, d)) ∧ Below W0.heap.size W0 wr) (fun _ i _ => l.length - (intOf i).toNat)
  case atStart => exact ⟨0, Nat.zero_le _, rfl, Ow.nil _ _, Below.refl _ _⟩
  case round =>
    obtain ⟨k, hk, rfl, hO, hX⟩ := hrel
    by_cases hlt : k < l.length
    · obtain ⟨⟨a, b⟩, hrk⟩ := some_of hlt
      obtain ⟨bk, o, rfl, hc⟩ := (hr0.below hX) (by omega)
      obtain ⟨u1, u2⟩ := hc k _ hrk
      have HSN := mkH (cut_snoc (c, d) hrk)
      have hi : (k : Int) < (l.length : Int) := by omega
      have hi0 : (0 : Int) ≤ (k : Int) := by omega
      have s0 := HS0.out
      have x0 : wr.cell? ⟨w.heap.size, 0, none⟩ = some (.int .i64 c) := (hX.cell (p := ⟨w.heap.size, 0, none⟩) (show w.heap.size < W0.heap.size by omega)).trans HC0.out
      have x1 : wr.cell? ⟨w.heap.size, 1, none⟩ = some (.int .i64 d) := (hX.cell (p := ⟨w.heap.size, 1, none⟩) (show w.heap.size < W0.heap.size by omega)).trans HC1.out
      have hlt2 : w.heap.size < wr.heap.size := by have := hX.size; omega
      obtain ⟨g1, g2, hM⟩ := meet_form (a, b) (c, d)
      have hm := fun W => meet_any W a b c d
      rw [hM] at hm
      unfold R at hm
      have HM := mkH hM
      have hcl := cut_len (l.take k) (c, d)
      have hlc : (cut (l.take k) (c, d)).length ≤ 2 * k := by rw [List.length_take] at hcl; omega
      clear hc hrk hM hcl s0
      have HX := mkH hX
      have HO := mkH hO
      clear hX hO
      have e1 := eqlR g1 g2 0 0
      have gd := guardR
      go_wp2_with fail
      refine (hm _).mono ?_
      rintro e w1 ⟨rfl, hg1⟩
      have k7 := (Bx.new wr a b).gr hg1
      have l7 := k7.lt
      have hgA := ((Gr.refl wr).alloc (.cells #[.int .i64 a, .int .i64 b] 37)).trans hg1
      have hgB := hgA.alloc (.cells #[.int .i64 g1, .int .i64 g2] 37)
      have c70 := k7.c0
      have c71 := k7.c1
      have HGB := mkH hgB
      have HGE : Hid (∀ q, u5.ownBlock = some q → W0.heap.size ≤ q) := mkH (fun q hq => (Pa.Ow.ge HO.out q hq).1)
      clear hg1 k7 hgA hgB x0 x1 hlt2 u1 u2
      by_cases hz : g1 = 0 ∧ g2 = 0
      · have ht : (decide (g1 = 0) && decide (g2 = 0)) = true := by simp [hz]
        obtain ⟨h1, h2⟩ := hz
        subst h1 h2
        have HN := mkH (HSN.out.trans (by rw [cut1_none _ _ HM.out] : _ = cut (l.take k) (c, d) ++ real [(a, b)]))
        clear HSN HM ht
        have hgC := HGB.out.alloc (.cells #[.int .i64 a, .int .i64 b] 37)
        have hO1 := HO.out.below hgC.below
        have hX1 := HX.out.trans (hgC.below.mono HX.out.size)
        have hrw : Rw ((w1.alloc (.cells #[.int .i64 0, .int .i64 0] 37)).alloc (.cells #[.int .i64 a, .int .i64 b] 37)) (some ⟨w1.heap.size + 1, 0, none⟩) [(a, b)] := by
          have h1 := Rw_new (w1.alloc (.cells #[.int .i64 0, .int .i64 0] 37)) [(a, b)] 37
          rw [show (w1.alloc (.cells #[.int .i64 0, .int .i64 0] 37)).heap.size = w1.heap.size + 1 by simp] at h1
          exact h1
        have hsz := HGB.out.below.size
        have hadd := addReal_any _ _ _ _ hO1 hX1.size (some ⟨w1.heap.size + 1, 0, none⟩) 1 [(a, b)] hrw (fun q hq => by
          injection hq with hq
          subst hq
          intro e
          have := (Pa.Ow.ge HO.out _ e).2
          simp at hsz
          dsimp only at this
          omega) (by simp; omega)
        have HADD := mkH hadd
        have HX1 := mkH hX1
        clear hO1 hX1 hrw hadd hgC HGB HO HX hsz
        go_wp2_with fail
        refine (HADD.out).mono ?_
        rintro e2 w2 ⟨v2, rfl, hO2, hE2⟩
        rw [← HN.out] at hO2
        have hX2 := hE2.below HX1.out HX1.out.size HGE.out
        clear hE2 HX1 HADD HN c70 c71 l7 HGE
        go_wp2
        go_roundw
        case rel => exact ⟨k + 1, by omega, by go_num, hO2, hX2⟩
        case measure => simp [intOf]; omega
      · have ht : (decide (g1 = 0) && decide (g2 = 0)) = false := by simp; omega
        have HN := mkH (HSN.out.trans (by rw [cut1_some _ _ _ HM.out hz] : _ = cut (l.take k) (c, d) ++ real [(a, g1), (g2, b)]))
        clear HSN HM
        have hgC := HGB.out.alloc (.cells #[.int .i64 a, .int .i64 g1, .int .i64 g2, .int .i64 b] 37)
        have hO1 := HO.out.below hgC.below
        have hX1 := HX.out.trans (hgC.below.mono HX.out.size)
        have hrw : Rw ((w1.alloc (.cells #[.int .i64 g1, .int .i64 g2] 37)).alloc (.cells #[.int .i64 a, .int .i64 g1, .int .i64 g2, .int .i64 b] 37)) (some ⟨w1.heap.size + 1, 0, none⟩) [(a, g1), (g2, b)] := by
          have h1 := Rw_new (w1.alloc (.cells #[.int .i64 g1, .int .i64 g2] 37)) [(a, g1), (g2, b)] 37
          rw [show (w1.alloc (.cells #[.int .i64 g1, .int .i64 g2] 37)).heap.size = w1.heap.size + 1 by simp] at h1
          exact h1
        have hsz := HGB.out.below.size
        have hadd := addReal_any _ _ _ _ hO1 hX1.size (some ⟨w1.heap.size + 1, 0, none⟩) 2 [(a, g1), (g2, b)] hrw (fun q hq => by
          injection hq with hq
          subst hq
          intro e
          have := (Pa.Ow.ge HO.out _ e).2
          simp at hsz
          dsimp only at this
          omega) (by simp; omega)
        have HADD := mkH hadd
        have HX1 := mkH hX1
        have HZ := mkH hz
        clear hO1 hX1 hrw hadd hgC HGB HO HX hsz hz
        go_wp2_with fail
        refine (HADD.out).mono ?_
        rintro e2 w2 ⟨v2, rfl, hO2, hE2⟩
        rw [← HN.out] at hO2
        have hX2 := hE2.below HX1.out HX1.out.size HGE.out
        clear hE2 HX1 HADD HN c70 c71 l7 HGE ht e1
        go_wp2
        go_roundw
        case rel => exact ⟨k + 1, by omega, by go_num, hO2, hX2⟩
        case measure => simp [intOf]; omega
    · have : k = l.length := by omega
      subst this
      rw [List.take_length] at hO
      go_wp2
      go_ret
      exact ⟨_, rfl, Ow.mono hO (by have := HS0.out; omega), HB0.out.trans (hX.mono (by have := HS0.out; omega))⟩
end Go.Proofs.YtgbbajeeelgbhaaGreatDoor.Pc

namespace Go.Proofs.YtgbbajeeelgbhaaGreatDoor.Pj
open Go.RowKit Pl Pw Pr Pf Pg Pa Pb
open Kt hiding mkH
open Kv
set_option linter.unusedVariables false
set_option maxRecDepth 20000

theorem putAll_snoc {s : List Rg} {k : Nat} {r : Rg} (h : s[k]? = some r) : putAll [] (s.take (k + 1)) = put (putAll [] (s.take k)) r := by
  unfold putAll
  rw [List.take_add_one, h, List.foldl_append]
  rfl
theorem put_len (j : List Rg) (r : Rg) : (put j r).length ≤ j.length + 1 := by
  rcases List.eq_nil_or_concat j with rfl | ⟨j', x, e⟩
  · simp [put_nil]
  · rw [List.concat_eq_append] at e
    subst e
    rw [put_snoc]
    split <;> simp
theorem putAll_len (s : List Rg) : ∀ j, (putAll j s).length ≤ j.length + s.length := by
  induction s with
  | nil => intro j; simp [putAll]
  | cons r t ih =>
    intro j
    have h1 := ih (put j r)
    have h2 := put_len j r
    show (putAll (put j r) t).length ≤ _
    rw [List.length_cons]
    omega
/-- What is known behind the first test of a round. -/
theorem after_box {wr w2 : World} {u : Value} {j : List Rg} {a b : Int} (n : Nat) (hO : Ow wr w2.heap.size u j) (hX : Below w2.heap.size w2 wr) :
    Ow ((wr.alloc (.cells #[.int .i64 a, .int .i64 b] 37)).drewN n) w2.heap.size u j ∧ Below w2.heap.size w2 ((wr.alloc (.cells #[.int .i64 a, .int .i64 b] 37)).drewN n) ∧
      Bx ((wr.alloc (.cells #[.int .i64 a, .int .i64 b] 37)).drewN n) wr.heap.size a b := by
  have hb : Below wr.heap.size wr ((wr.alloc (.cells #[.int .i64 a, .int .i64 b] 37)).drewN n) := ((Below.refl _ wr).alloc (Nat.le_refl _) _).trans ⟨rfl, rfl, rfl, Nat.le_refl _, fun _ _ => rfl⟩
  exact ⟨hO.below hb, hX.trans (hb.mono hX.size), Bx.new wr a b⟩
theorem src1 (w : World) (a b : Int) : Src Tryz.prog 2 22 (.slice (some ⟨w.heap.size, 0, none⟩) 1 1) 1 (E [(a, b)]) (w.alloc (.cells #[.int .i64 a, .int .i64 b] 37)) :=
  Rw.src (P := Tryz.prog) Tryz.underlying22 (Rw_new w [(a, b)] 37) 1
/-- An owned row that has a last one, and the last one's Hi. -/
theorem Ow_last {w : World} {base : Nat} {v : Value} {j : List Rg} {c d : Int} (h : Ow w base v (j ++ [(c, d)])) :
    ∃ g cap, v = .slice (some ⟨g, 0, none⟩) (j.length + 1) cap ∧ w.cell? ⟨g, j.length * 2 + 1, none⟩ = some (.int .i64 d) ∧ w.frozen? ⟨g, j.length * 2 + 1, none⟩ = false ∧ g < w.heap.size ∧ base ≤ g ∧ j.length + 1 ≤ cap ∧ cap ≤ 9223372036854775807 ∧
      ∀ e, Ow (w.setCell ⟨g, j.length * 2 + 1, none⟩ (.int .i64 e)) base v (j ++ [(c, e)]) ∧ w.grownBy (w.setCell ⟨g, j.length * 2 + 1, none⟩ (.int .i64 e)) (some g) := by
  have hlen : (j ++ [(c, d)]).length = j.length + 1 := by simp
  unfold Ow at h
  rw [hlen] at h
  rcases h.2 with ⟨e1, e2⟩ | ⟨g, cap, cur, rfl, hbg, hg, hnc, hcm, hcs, ht⟩
  · omega
  · have hgl : g < w.heap.size := by
      rcases Nat.lt_or_ge g w.heap.size with h1 | h1
      · exact h1
      · rw [Array.getElem?_eq_none h1] at hg; cases hg
    have h1 := World.ownsRow.cellAt h (j.length * 2 + 1) (by omega)
    rw [E_at1 (j ++ [(c, d)]) j.length (c, d) (by simp)] at h1
    refine ⟨g, cap, rfl, h1, by simp [World.frozen?, hg], hgl, hbg, hnc, by unfold maxLen at hcm; omega, fun e => ?_⟩
    obtain ⟨h2, h3⟩ := h.stored (j.length * 2 + 1) (.int .i64 e)
    refine ⟨?_, h3⟩
    unfold Ow
    rw [show (j ++ [(c, e)]).length = j.length + 1 by simp]
    have e2 : (E (j ++ [(c, d)])).set (j.length * 2 + 1) (.int .i64 e) = E (j ++ [(c, e)]) := by
      rw [E_append, E_append]
      have : (E j).length = j.length * 2 := E_length j
      rw [List.set_append_right _ _ (by omega), this, show j.length * 2 + 1 - j.length * 2 = 1 by omega]
      rfl
    rw [e2] at h2
    exact h2

set_option maxHeartbeats 4000000 in
theorem join_any (w : World) (ao : Option Addr) (cap : Nat) (l : List Rg) (hr : Rw w ao l) (hl : l.length ≤ 1000) :
    Calls Tryz.prog 80 #[.slice ao l.length cap] w fun e w' => ∃ v, e = .returned v ∧ Ow w' w.heap.size v (join l) ∧ Below w.heap.size w w' := by
  have hn : (real l).length ≤ 1000 := Nat.le_trans (List.length_filter_le _ _) hl
  have hadd := addReal_any w w.heap.size (.slice none 0 0) [] (Ow.nil _ _) (Nat.le_refl _) ao cap l hr (fun a _ h => by simp [Value.ownBlock] at h) (by simp; omega)
  rw [List.nil_append] at hadd
  have HJ := mkH (join_sorted l)
  clear hr
  generalize real l = t at hn hadd HJ
  go_enter Tryz.func80, Tryz.ntmps80
  go_wp2_with fail
  refine hadd.mono ?_
  rintro e w1 ⟨v1, rfl, hO1, hE1⟩
  clear hadd
  have hb1 := mkH (hE1.below (Below.refl w.heap.size w) (Nat.le_refl _) (fun k h => by simp [Value.ownBlock] at h))
  obtain ⟨ao1, cap1, rfl, hc1, hc2⟩ := hO1.form
  have hge := mkH (fun k hk => (Pa.Ow.ge hO1 k hk).1)
  have hsort := mkH (sort_any w1 _ ao1 cap1 t hO1 (by omega))
  clear hO1 hE1
  go_wp2_with fail
  refine (hsort.out).mono ?_
  rintro e w2 ⟨rfl, s, hp, hs, hR, hg⟩
  have hb2 := mkH (hb1.out.grown hg hb1.out.size hge.out)
  have hsl : s.length = t.length := hp.length_eq
  have HJ2 := mkH (HJ.out s hp hs)
  have HR := mkH hR
  rw [← hsl] at hc1 hn ⊢
  clear hsort hp hs hg hge hb1 HJ hR hsl
  go_wp2
  go_loopw [4, 14] (fun u i wr => ∃ k : Nat, k ≤ s.length ∧ i = .int .i64 k ∧ Ow wr w2.heap.size u (putAll [] (s.take k)) ∧ Below w2.heap.size w2 wr) (fun _ i _ => s.length - (intOf i).toNat)
  case atStart => exact ⟨0, Nat.zero_le _, rfl, Ow.nil _ _, Below.refl _ _⟩
  case round =>
    obtain ⟨k, hk, rfl, hO, hX⟩ := hrel
    by_cases hlt : k < s.length
    · obtain ⟨⟨a, b⟩, hrk⟩ := some_of hlt
      obtain ⟨bk, o, rfl, hc⟩ := (HR.out.below hX) (by omega)
      obtain ⟨u1, u2⟩ := hc k _ hrk
      have HSN := mkH (putAll_snoc hrk)
      have hi : (k : Int) < (s.length : Int) := by omega
      have hi0 : (0 : Int) ≤ (k : Int) := by omega
      have hpl := putAll_len (s.take k) []
      have hpl2 : (putAll [] (s.take k)).length ≤ k := by rw [List.length_take, List.length_nil] at hpl; omega
      clear hc hrk hpl
      generalize putAll [] (s.take k) = j at hO HSN hpl2
      have HX := mkH hX
      have hsz := hX.size
      clear hX
      rcases List.eq_nil_or_concat j with rfl | ⟨j', ⟨c, d⟩, ej⟩
      · obtain ⟨aoj, capj, rfl, -, -⟩ := hO.form
        rw [put_nil] at HSN
        have HO := mkH hO
        clear hO
        have tf : decide ((-1 : Int) < 0) = true := rfl
        go_wp2_with fail
        go_quiet (fail)
        obtain ⟨hO1, hX1, kb⟩ := after_box (a := a) (b := b) nq HO.out HX.out
        have hsz1 : wr.heap.size < ((wr.alloc (.cells #[.int .i64 a, .int .i64 b] 37)).drewN nq).heap.size := kb.lt
        have c0 := kb.c0
        have c1 := kb.c1
        clear HO HX kb tf
        generalize ((wr.alloc (.cells #[.int .i64 a, .int .i64 b] 37)).drewN nq) = wz at *
        have hO2 := hO1.below ((Below.refl _ wz).alloc (Nat.le_refl _) (.cells #[.int .i64 a, .int .i64 b] 37))
        have hX2 := hX1.alloc hX1.size (.cells #[.int .i64 a, .int .i64 b] 37)
        have hsz2 := hX1.size
        have HX2 := mkH hX2
        have HO2 := mkH hO2
        clear hO1 hX1 hO2 hX2
        go_wp2_with (at_builtin; refine (wpList_append_own_src _ rfl (.tmp 33) (.tmp 35) 22 22 rfl w2.heap.size 37 (.agg #[.int .i64 0, .int .i64 0]) 2 16 Tryz.underlying22 info26 rfl (by decide) _ (([] : List Rg)).length (E (([] : List Rg))) rfl HO2.out _ 1 (E [(a, b)]) rfl ?hsrc2 ?h632 ?hby2 ?hbs2 ?_))
        case hsrc2 => exact src1 wz a b
        case h632 => unfold maxLen; simp
        case hby2 => simp
        case hbs2 => simp; omega
        intro v3 w3 hown3 hgrow3
        have hX3 := below_own HO2.out hgrow3 HX2.out (by simp; omega)
        have hO3 : Ow w3 w2.heap.size v3 (putAll [] (s.take (k + 1))) := by
          rw [HSN.out]
          exact hown3
        clear hown3 hgrow3 HO2 HX2 HSN c0 c1 hsz1
        go_wp2
        go_roundw
        case rel => exact ⟨k + 1, by omega, by go_num, hO3, hX3⟩
        case measure => simp [intOf]; omega
      · rw [List.concat_eq_append] at ej
        subst ej
        obtain ⟨g, cap3, rfl, y1, y2, yg, yb, yc, yd, yst⟩ := Ow_last hO
        rw [put_snoc] at HSN
        rw [List.length_append, List.length_singleton] at hpl2
        have HO := mkH hO
        have HST := mkH yst
        clear hO yst
        have hne : ¬ g = wr.heap.size := by omega
        generalize hm : j'.length = m at *
        have t0 : (0 : Int) ≤ (m : Int) := by omega
        have t1 : (m : Int) < ((m + 1 : Nat) : Int) := by omega
        have tf : decide ((m : Int) < 0) = false := by rw [decide_eq_false_iff_not]; omega
        have z1 : ∀ n, ((wr.alloc (.cells #[.int .i64 a, .int .i64 b] 37)).drewN n).cell? ⟨g, m * 2 + 1, none⟩ = some (.int .i64 d) := fun n => by
          rw [World.cell?_drewN, World.cell?_alloc_lt _ _ _ yg]; exact y1
        by_cases hq : d < a
        · go_wp2_with fail
          go_quiet (fail)
          obtain ⟨hO1, hX1, kb⟩ := after_box (a := a) (b := b) nq HO.out HX.out
          have hsz1 : wr.heap.size < ((wr.alloc (.cells #[.int .i64 a, .int .i64 b] 37)).drewN nq).heap.size := kb.lt
          have c0 := kb.c0
          have c1 := kb.c1
          clear HO HX kb z1 y1 y2 HST tf t0 t1
          generalize ((wr.alloc (.cells #[.int .i64 a, .int .i64 b] 37)).drewN nq) = wz at *
          have hO2 := hO1.below ((Below.refl _ wz).alloc (Nat.le_refl _) (.cells #[.int .i64 a, .int .i64 b] 37))
          have hX2 := hX1.alloc hX1.size (.cells #[.int .i64 a, .int .i64 b] 37)
          have hsz2 := hX1.size
          have HX2 := mkH hX2
          have HO2 := mkH hO2
          clear hO1 hX1 hO2 hX2
          go_wp2_with (at_builtin; refine (wpList_append_own_src _ rfl (.tmp 33) (.tmp 35) 22 22 rfl w2.heap.size 37 (.agg #[.int .i64 0, .int .i64 0]) 2 16 Tryz.underlying22 info26 rfl (by decide) _ (j' ++ [(c, d)]).length (E (j' ++ [(c, d)])) rfl HO2.out _ 1 (E [(a, b)]) rfl ?hsrc1 ?h631 ?hby1 ?hbs1 ?_))
          case hsrc1 => exact src1 wz a b
          case h631 => unfold maxLen; simp; omega
          case hby1 => simp; omega
          case hbs1 => simp; omega
          intro v3 w3 hown3 hgrow3
          have hX3 := below_own HO2.out hgrow3 HX2.out (by simp; omega)
          have hO3 : Ow w3 w2.heap.size v3 (putAll [] (s.take (k + 1))) := by
            rw [HSN.out]
            rw [if_pos (by exact hq)]
            unfold Ow
            rw [E_append, List.length_append, show (j' ++ [(c, d)]).length = m + 1 by simp [hm]]
            exact hown3
          clear hown3 hgrow3 HO2 HX2 HSN c0 c1 hsz1
          go_wp2
          go_roundw
          case rel => exact ⟨k + 1, by omega, by go_num, hO3, hX3⟩
          case measure => simp [intOf]; omega
        · go_wp2_with fail
          go_quiet (fail)
          obtain ⟨hO1, hX1, kb⟩ := after_box (a := a) (b := b) nq HO.out HX.out
          obtain ⟨g', cap', hv', y1', y2', yg', yb', yc', yd', yst'⟩ := Ow_last hO1
          rw [hm] at hv' y1' y2' yst'
          simp only [Value.slice.injEq, Option.some.injEq, Addr.mk.injEq, and_true, true_and] at hv'
          obtain ⟨rfl, rfl⟩ := hv'
          have hsz1 : wr.heap.size < ((wr.alloc (.cells #[.int .i64 a, .int .i64 b] 37)).drewN nq).heap.size := kb.lt
          have c0 := kb.c0
          have c1 := kb.c1
          clear HO HX kb z1 y1 y2 HST hO1
          generalize ((wr.alloc (.cells #[.int .i64 a, .int .i64 b] 37)).drewN nq) = wz at *
          obtain ⟨hO3, hg3⟩ := yst' (max d b)
          have hX3 := mkH (hX1.grown hg3 hX1.size (fun k hk => by injection hk with hk; omega))
          have HO3 := mkH hO3
          clear yst' hO3 hg3 hX1
          go_wp2_with fail
          go_region
          have hO4 := HO3.out.below (Below.refl _ (wz.setCell ⟨g, m * 2 + 1, none⟩ (.int .i64 (max d b)))).drew
          have hX4 := hX3.out.drew
          have hO5 := hO4
          rw [show j' ++ [(c, max d b)] = putAll [] (s.take (k + 1)) by rw [HSN.out, if_neg (show ¬ d < a by omega)]] at hO5
          clear HO3 hX3 hO4 HSN y1' y2' c0 c1 hsz1 tf t0 t1
          generalize (wz.setCell ⟨g, m * 2 + 1, none⟩ (.int .i64 (max d b))).drew = wy at *
          go_wp2
          go_roundw
          case rel => exact ⟨k + 1, by omega, by go_num, hO5, hX4⟩
          case measure => simp [intOf]; omega
    · have : k = s.length := by omega
      subst this
      rw [List.take_length, HJ2.out] at hO
      go_wp2
      go_ret
      exact ⟨_, rfl, Pc.Ow.mono hO hb2.out.size, hb2.out.trans (hX.mono hb2.out.size)⟩
end Go.Proofs.YtgbbajeeelgbhaaGreatDoor.Pj
