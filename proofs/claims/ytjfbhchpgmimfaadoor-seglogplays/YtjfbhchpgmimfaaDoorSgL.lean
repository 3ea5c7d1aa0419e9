/-
  Records' iterator, over the law's collecting function.
-/
import Derived.Test.YtjfbhchpgmimfaaDoorSgK
import Derived.WalkMore
namespace Go.Proofs.YtjfbhchpgmimfaaDoor.Sl
open Go.RowKit Go.Shelf Kt Cs Cf Cg Ck Cv Ca Dk Dp Da Db Dc Dd De Sq Sr Sa Sb Sc Se Sf Sh Si Sj Sk Pl
set_option linter.unusedVariables false
attribute [local go_sem] Oper.semAt_some

/-- Marks of loops over functions that have ended. -/
def dfr (D : Nat) : Deferred := { target := .collected D, args := #[] }
def Mk (Ds : List Nat) (W : World) : Prop := Ds.Nodup ∧ ∀ D ∈ Ds, W.heap[D]? = some (.deferred (some []))
theorem leaves_marks {F : Fence} {n : Nat} {P : Program} {fn : Func} {tmps : Array Value} {R : Ending → World → Prop} : ∀ (Ds : List Nat) (W : World), Mk Ds W →
    (∀ W', Fr (fun k => k ∈ Ds) W W' → LeavesInM F n P fn tmps R [] .returning W') → LeavesInM F n P fn tmps R (Ds.map dfr) .returning W
  | [], W, _, h => h W (Fr.refl _ _)
  | D :: Ds, W, hm, h => by
    refine ⟨by simp, .inl ⟨D, _, rfl, run_takeDeferred (hm.2 D (by simp)), ?_⟩⟩
    have hn := List.nodup_cons.1 hm.1
    refine leaves_marks Ds _ ⟨hn.2, fun E hE => (World.putObj_heap_other (fun e => by subst e; exact hn.1 hE)).trans (hm.2 E (by simp [hE]))⟩ (fun W' hf => h W' ?_)
    exact ((fr_put W D (.deferred none)).mono (fun k hk => by simp [hk])).trans (hf.mono (fun k hk => by simp [hk])) (fun i hi => .inl hi)

set_option maxHeartbeats 1000000 in
set_option maxRecDepth 20000 in
theorem all_any2 (w : World) (ao : Option Addr) (cap : Nat) (bs : List UInt8) (hr : Row w ao bs) (hl : bs.length ≤ 1000000) :
    Calls Tryd.prog 72 #[.slice ao bs.length cap] w fun e W' => ∃ Bx a2 c2, e = .returned (.func (.func 85) #[] #[.pointer (some ⟨Bx, 0, none⟩)]) ∧ w.heap.size ≤ Bx ∧ W'.heap[Bx]? = some (.cells #[.slice a2 bs.length c2] 30) ∧ Row W' a2 bs ∧ bs.length ≤ c2 ∧ c2 ≤ 9223372036854775807 ∧ (∀ b off, a2 = some ⟨b, off, none⟩ → w.heap.size ≤ b) ∧ Below w.heap.size w W' := by
  go_enter Tryd.func72, Tryd.ntmps72
  go_wp2_with fail
  refine (Cw.clone_any w ao cap bs hr (by omega)).mono ?_
  rintro e w1 ⟨v1, rfl, hown1, hb1⟩
  obtain ⟨a2, c2, rfl, -, hc2, hr2⟩ := own_row hown1
  have hcm := own_cap hown1
  have hlo : ∀ b off, a2 = some ⟨b, off, none⟩ → w.heap.size ≤ b := fun b off e => by subst e; exact (own_blk hown1 rfl).2
  clear hown1
  go_wp2
  go_ret
  exact ⟨_, a2, c2, rfl, hb1.size, heap_alloc_new _ _, hr2.below ((Below.refl _ w1).alloc (Nat.le_refl _) _), hc2, hcm, hlo, hb1.alloc hb1.size _⟩

/-- What lies while records are collected. -/
structure Rt (w : World) (yv : Value) (Br Bo ba : Nat) (Ds : List Nat) (pre : List (List UInt8)) (a : Option Addr) (c : Nat) (l : List Bx) (W : World) : Prop where
  fr : Fr (fun q => q = Br ∨ q = Bo) w W
  yb : W.heap[w.heap.size]? = some (.cells #[yv] 78 (0, 0))
  num : W.heap[w.heap.size + 1]? = some (.cells #[.int .i64 ((ba + pre.length : Nat) : Int)] 3 (0, 0))
  right : W.heap[Br]? = some (.cells #[.bool true] 4 (0, 0))
  out : W.heap[Bo]? = some (.cells #[.slice a pre.length c] 38 (0, 0))
  ol : Ol (w.heap.size + 2) W (.slice a pre.length c) l
  recs : l.map (·.bs) = pre
  mks : Mk Ds W
  mlo : ∀ D ∈ Ds, w.heap.size ≤ D
theorem ol_cells {lo : Nat} {W W' : World} {v : Value} {l : List Bx} (h : Ol lo W v l) (hc : ∀ (k : Nat) (o : Obj), W.heap[k]? = some o → o.isCells = true → W'.heap[k]? = some o) : Ol lo W' v l := by
  refine ⟨⟨h.own.1, ?_⟩, fun x hx => ⟨fun h0 => ?_, (h.ok x hx).2⟩⟩
  · rcases h.own.2 with h1 | ⟨g, cap, cur, rfl, e2, e3, e4⟩
    · exact .inl h1
    · exact .inr ⟨g, cap, cur, rfl, e2, hc _ _ e3 rfl, e4⟩
  · obtain ⟨b, off, e, hcell⟩ := (h.ok x hx).1 h0
    refine ⟨b, off, e, fun i hi => ?_⟩
    obtain ⟨o, ho, hoc⟩ := cells_of_cell (hcell i hi)
    rw [← hcell i hi]
    exact World.cell?_of_block ((hc _ _ ho hoc).trans ho.symm)
theorem Rt.keep {w : World} {yv : Value} {Br Bo ba : Nat} {Ds : List Nat} {pre : List (List UInt8)} {a : Option Addr} {c : Nat} {l : List Bx} {W W' : World} {Q : Nat → Prop} (h : Rt w yv Br Bo ba Ds pre a c l W) (hf : Fr Q W W')
    (hq : ∀ q, Q q → w.heap.size ≤ q ∧ q ∉ Ds ∧ ∀ o : Obj, W.heap[q]? = some o → o.isCells = false) : Rt w yv Br Bo ba Ds pre a c l W' := by
  have hc : ∀ (k : Nat) (o : Obj), W.heap[k]? = some o → o.isCells = true → W'.heap[k]? = some o := fun k o hk ho => (hf.heap (block_lt hk) (fun x => by have := (hq k x).2.2 o hk; rw [ho] at this; cases this)).trans hk
  exact ⟨h.fr.trans hf (fun i hi => .inr (hq i hi).1), hc _ _ h.yb rfl, hc _ _ h.num rfl, hc _ _ h.right rfl, hc _ _ h.out rfl, ol_cells h.ol hc, h.recs, ⟨h.mks.1, fun D hD => (hf.heap (block_lt (h.mks.2 D hD)) (fun x => (hq D x).2.1 hD)).trans (h.mks.2 D hD)⟩, h.mlo⟩
theorem Rt.below {w : World} {yv : Value} {Br Bo ba : Nat} {Ds : List Nat} {pre : List (List UInt8)} {a : Option Addr} {c : Nat} {l : List Bx} {W W' : World} (h : Rt w yv Br Bo ba Ds pre a c l W) (hb : Below W.heap.size W W') : Rt w yv Br Bo ba Ds pre a c l W' := h.keep (Q := fun _ => False) (Fr.ofBelow hb) (fun _ x => x.elim)
theorem below_grown {W W' : World} {row : Option Nat} (hg : W.grownBy W' row) : Fr (fun q => row = some q) W W' := fr_grown hg

theorem off_pos {l : List (List UInt8)} {k : Nat} (h1 : k ≠ 0) (h2 : k < l.length) : 12 ≤ off l k := by
  obtain ⟨j, rfl⟩ : ∃ j, k = j + 1 := ⟨k - 1, by omega⟩
  rw [off_succ (by omega)]; omega
theorem rt_blk {w : World} {yv : Value} {Br Bo ba : Nat} {Ds : List Nat} {pre : List (List UInt8)} {a : Option Addr} {c : Nat} {l : List Bx} {W : World} (h : Rt w yv Br Bo ba Ds pre a c l W) {g : Nat} (hg : (Value.slice a pre.length c).ownBlock = some g) : g < W.heap.size ∧ w.heap.size + 2 ≤ g := own_blk h.ol.own hg
theorem own_isCells {w : World} {base e size n : Nat} {v : Value} {xs : List Value} (h : w.ownsRow base e size v n xs) {g : Nat} (hg : v.ownBlock = some g) : ∃ cur, w.heap[g]? = some (.cells cur e) := by
  rcases h.2 with ⟨rfl, -⟩ | ⟨g', cap, cur, rfl, e2, e3, e4⟩
  · simp [Value.ownBlock] at hg
  · simp only [Value.ownBlock, Option.some.injEq] at hg
    subst hg
    exact ⟨cur, e3⟩
section
variable {F : Nat → Prop} {B : Nat} {h : H}
set_option maxRecDepth 100000 in
set_option maxHeartbeats 4000000 in
theorem records1_any (w : World) (Br Bl Bo Bb Ba ba n : Nat) (ar : Option Addr) (cr : Nat) (lB : List Bx) (segs : List Sg) (hT : Tb w) (hl : Lg w F B h) (hp : 1 ≤ h.per) (hnb : nb h = ba) (hba : ba + (all segs).length ≤ 1000000)
    (hr : w.heap[Br]? = some (.cells #[.bool true] 4)) (hlb : w.heap[Bl]? = some (.cells #[.pointer (some ⟨B, 0, none⟩)] 23)) (ho : w.heap[Bo]? = some (.cells #[.slice none 0 0] 38)) (h0r : 0 < Br) (h0o : 0 < Bo) (hne : Br ≠ Bo) (hnl : Br ≠ Bl) (hnl2 : Bo ≠ Bl) (fr : ¬ F Br) (fo : ¬ F Bo)
    (cb : w.cell? ⟨Bb, 0, none⟩ = some (.int .i64 (ba : Int))) (ca : w.cell? ⟨Ba, 0, none⟩ = some (.slice ar n cr)) (hn : lB.length = n) (hn2 : n ≤ 256) (hrows : w.ownsRow 0 30 1 (.slice ar n cr) n (Bv lB)) (hrg : ∀ g, (Value.slice ar n cr).ownBlock = some g → g ≠ Br ∧ g ≠ Bo)
    (hbok : ∀ x ∈ lB, Row w x.ao x.bs ∧ ∀ b off, x.ao = some ⟨b, off, none⟩ → 0 < x.bs.length → b ≠ Br ∧ b ≠ Bo) (hbs : lB.map (·.bs) = segs.map (fun s => fcat (bod s))) (hfits : ∀ s ∈ segs, Fits s) :
    Calls Tryd.prog 71 #[.func (.func 44) #[] #[.pointer (some ⟨Br, 0, none⟩), .pointer (some ⟨Bl, 0, none⟩), .pointer (some ⟨Bo, 0, none⟩)], .pointer (some ⟨Bb, 0, none⟩), .pointer (some ⟨Ba, 0, none⟩)] w fun e w' => (∃ v, e = .returned v) ∧
      ∃ a c l, w'.heap[Br]? = some (.cells #[.bool true] 4) ∧ w'.heap[Bo]? = some (.cells #[.slice a (all segs).length c] 38) ∧ Ol (w.heap.size + 2) w' (.slice a (all segs).length c) l ∧ l.map (·.bs) = all segs ∧ Fr (fun q => q = Br ∨ q = Bo) w w' := by
  refine (callsIn_wide (n := 11)).1 ?_
  refine callsIn_of_wp_marks Tryd.func71 rfl trivial ?_ rfl
  simp only [Tryd.ntmps71, List.size_toArray, List.length_cons, List.length_nil, Nat.reduceAdd, Nat.reduceSub, Array.replicate_succ, Array.replicate_zero, List.push_toArray, List.append_toArray, List.nil_append, List.cons_append]
  obtain ⟨yv, hyv⟩ : ∃ yv, yv = Value.func (.func 44) #[] #[.pointer (some ⟨Br, 0, none⟩), .pointer (some ⟨Bl, 0, none⟩), .pointer (some ⟨Bo, 0, none⟩)] := ⟨_, rfl⟩
  have hb0 : Below w.heap.size w (w.alloc (.cells #[Value.func (.func 44) #[] #[.pointer (some ⟨Br, 0, none⟩), .pointer (some ⟨Bl, 0, none⟩), .pointer (some ⟨Bo, 0, none⟩)]] 78)) := (Below.refl _ w).alloc (Nat.le_refl _) _
  have cb1 := (hb0.cell (p := ⟨Bb, 0, none⟩) (World.block_lt_of_cell? w _ cb)).trans cb
  have hb1 := hb0.alloc (by simp) (.cells #[.int .i64 (ba : Int)] 3)
  have ca1 := (hb1.cell (p := ⟨Ba, 0, none⟩) (World.block_lt_of_cell? w _ ca)).trans ca
  have HSTART : Hid (Rt w yv Br Bo ba [] [] none 0 [] ((w.alloc (.cells #[Value.func (.func 44) #[] #[.pointer (some ⟨Br, 0, none⟩), .pointer (some ⟨Bl, 0, none⟩), .pointer (some ⟨Bo, 0, none⟩)]] 78)).alloc (.cells #[.int .i64 (ba : Int)] 3))) := by
    refine ⟨Fr.ofBelow hb1, ?_, ?_, (hb1.block _ (block_lt hr)).trans hr, (hb1.block _ (block_lt ho)).trans ho, Ol.nil _ _, rfl, ⟨List.nodup_nil, fun D hD => by simp at hD⟩, fun D hD => by simp at hD⟩
    · rw [hyv]; exact (Below.heap_alloc _ _ _ (by simp)).trans (heap_alloc_new _ _)
    · have := heap_alloc_new (w.alloc (.cells #[Value.func (.func 44) #[] #[.pointer (some ⟨Br, 0, none⟩), .pointer (some ⟨Bl, 0, none⟩), .pointer (some ⟨Bo, 0, none⟩)]] 78)) (.cells #[.int .i64 (ba : Int)] 3)
      rw [World.size_alloc] at this
      exact this
  have HT := mkH hT
  have HL := mkH hl
  have HR := mkH hr
  have HLB := mkH hlb
  have HBOK := mkH hbok
  have HBS := mkH hbs
  have HFIT := mkH hfits
  have HROWS := mkH hrows
  have HRG := mkH hrg
  have HN := mkH hn
  have HNS : Hid (segs.length = n) := by have := congrArg List.length hbs; simp only [List.length_map] at this; unfold Hid; omega
  have HYV := mkH hyv
  have hor := block_lt ho
  have hrr := block_lt hr
  clear hT hl hr hlb ho hbok hbs hfits hrows hrg hn cb ca
  refine wpIn_wide.2 ?_
  go_wp2_with fail
  go_step3
  go_wp2_with fail
  go_step3
  go_wp2_with fail
  clear cb1 ca1 hb0 hb1
  refine wp_loop (fun a' W => ∃ (i : Nat) (Ds : List Nat) (oa : Option Addr) (oc : Nat) (ol : List Bx) (u6 u7 u8 u13 u14 u15 u16 u17 u18 u19 u20 u21 u22 u23 u24 u25 u26 u27 u28 u29 : Value), i ≤ n ∧ Hid (Rt w yv Br Bo ba Ds (all (segs.take i)) oa oc ol W) ∧
      a' = { tmps := #[Value.func (.func 44) #[] #[.pointer (some ⟨Br, 0, none⟩), .pointer (some ⟨Bl, 0, none⟩), .pointer (some ⟨Bo, 0, none⟩)], .pointer (some ⟨Bb, 0, none⟩), .pointer (some ⟨Ba, 0, none⟩), .pointer (some ⟨w.heap.size, 0, none⟩), .pointer (some ⟨w.heap.size + 1, 0, none⟩), undef, u6, u7, u8, .int .i64 (ba : Int), .slice ar n cr, .int .i64 (n : Int), .int .i64 (i : Int), u13, u14, u15, u16, u17, u18, u19, u20, u21, u22, u23, u24, u25, u26, u27, u28, u29], defers := Ds.map dfr })
    (fun a' _ => n - (intOf (a'.tmps.getD 12 undef)).toNat) ?start ?round
  case start => exact ⟨0, [], none, 0, [], undef, undef, undef, undef, undef, undef, undef, undef, undef, undef, undef, undef, undef, undef, undef, undef, undef, undef, undef, undef, Nat.zero_le _, HSTART, rfl⟩
  case round =>
    rintro a' W ⟨i, Ds, oa, oc, ol, u6, u7, u8, u13, u14, u15, u16, u17, u18, u19, u20, u21, u22, u23, u24, u25, u26, u27, u28, u29, hi, HRt, rfl⟩
    by_cases hin : i = n
    · subst hin
      go_wp2_with fail
      rw [Exit.noGoto_normal]
      refine leaves_marks Ds W HRt.out.mks (fun W' hf => ?_)
      refine ⟨_, results_none rfl _ _ _, ⟨_, rfl⟩, ?_⟩
      have hta : all (segs.take i) = all segs := by rw [← HNS.out, List.take_length]
      have q := HRt.out
      rw [hta] at q
      have hcell : ∀ D ∈ Ds, ∀ o : Obj, W.heap[D]? = some o → o.isCells = false := fun D hD o ho => by rw [q.mks.2 D hD] at ho; cases ho; rfl
      have hcc : ∀ (k : Nat) (o : Obj), W.heap[k]? = some o → o.isCells = true → W'.heap[k]? = some o := fun k o hk hoc => (hf.heap (block_lt hk) (fun x => by have := hcell k x o hk; rw [hoc] at this; cases this)).trans hk
      refine ⟨oa, oc, ol, hcc _ _ q.right rfl, hcc _ _ q.out rfl, ol_cells q.ol hcc, q.recs, q.fr.trans hf (fun i hi => .inr (q.mlo i hi))⟩
    · have hil : i < n := by omega
      obtain ⟨x, hx⟩ := nth (l := lB) (j := i) (by rw [HN.out]; exact hil)
      obtain ⟨s, hs⟩ := nth (l := segs) (j := i) (by rw [HNS.out]; exact hil)
      have hxb : x.bs = fcat (bod s) := by
        have := congrArg (fun l => l[i]?) HBS.out
        simp only [List.getElem?_map, hx, hs, Option.map_some] at this
        exact Option.some.inj this
      have hfs := HFIT.out s (List.mem_of_getElem? hs)
      have hfw := HRt.out.fr
      have hbx := HBOK.out x (List.mem_of_getElem? hx)
      have hxr : Row W x.ao x.bs := row_fr hbx.1 hfw (fun h0 b off e y => by have := hbx.2 b off e h0; rcases y with y | y; exact this.1 y; exact this.2 y)
      have hxl : x.bs.length ≤ 1000000 := by rw [hxb]; have := hfs.len; omega
      obtain ⟨g, hg, hcg⟩ : ∃ g, ar = some ⟨g, 0, none⟩ ∧ W.cell? ⟨g, i, none⟩ = some (.slice x.ao x.bs.length x.cap) := by
        rcases HROWS.out.2 with ⟨_, h0⟩ | ⟨g, c', cur, e, e2, e3, e4⟩
        · omega
        · simp only [Value.slice.injEq] at e
          obtain ⟨rfl, -, rfl⟩ := e
          refine ⟨g, rfl, ?_⟩
          have := HROWS.out.cells (g := g) rfl i (.slice x.ao x.bs.length x.cap) (by simp [Bv, hx])
          rw [Addr.add_lit, Nat.zero_add] at this
          rw [← this]
          refine World.cell?_of_block (w := w) (hfw.heap (k := g) (block_lt e3) (fun y => ?_))
          have := HRG.out g rfl
          rcases y with y | y
          · exact this.1 y
          · exact this.2 y
      subst hg
      have HXR := mkH hxr
      have HXB := mkH hxb
      have HS := mkH hs
      have HFS := mkH hfs
      have HFW := mkH hfw
      clear hx hs hxb hfs hfw hbx hxr
      obtain ⟨xl, hxl2⟩ : ∃ xl, x.bs.length = xl := ⟨_, rfl⟩
      have ha := all_any2 W x.ao x.cap x.bs HXR.out hxl
      rw [hxl2] at ha hcg
      have HA := mkH ha
      have HXL := mkH hxl2
      rw [hxl2] at hxl
      clear ha hxl2
      go_wp2_with fail
      refine HA.out.mono ?_
      rintro e W2 ⟨Bx, a2, c2, rfl, hBx1, hBx2, hr2, hc2, hcm2, hlo2, hb2⟩
      go_wp2_with fail
      obtain ⟨pre, hpre⟩ : ∃ pre, all (segs.take i) = pre := ⟨_, rfl⟩
      have hRtW := HRt.out
      rw [hpre] at hRtW
      have hRt2 := hRtW.below hb2
      have hnxt : all (segs.take (i + 1)) = pre ++ s.recs := by rw [List.take_add_one, HS.out, ← hpre]; simp [all]
      have hmax : pre.length + s.recs.length ≤ (all segs).length := by
        have : (all (segs.take (i + 1))).length ≤ (all segs).length := by
          have h1 : all segs = all (segs.take (i + 1)) ++ all (segs.drop (i + 1)) := by rw [← all_app, List.take_append_drop]
          rw [h1, List.length_append]; omega
        rw [hnxt, List.length_append] at this
        exact this
      have hQW : ∀ q, (q = Br ∨ q = Bo ∨ q = w.heap.size + 1 ∨ (Value.slice oa pre.length oc).ownBlock = some q) → q < W.heap.size := fun q x => by
        have := HFW.out.size
        rcases x with x | x | x | x
        · omega
        · omega
        · subst x; exact block_lt hRtW.num
        · exact (rt_blk hRtW x).1
      have hq0 : ¬ (0 = Br ∨ 0 = Bo ∨ 0 = w.heap.size + 1 ∨ (Value.slice oa pre.length oc).ownBlock = some 0) := fun x => by
        rcases x with x | x | x | x
        · omega
        · omega
        · omega
        · have := (rt_blk hRtW x).2; omega
      have hDW : ∀ D ∈ Ds, D < W2.heap.size := fun D hD => block_lt (hRt2.mks.2 D hD)
      have hsW := HFW.out.size
      have hs2 := hb2.size
      rw [← HXL.out] at hBx2 hc2
      refine wpIn_wide.1 (rf_own (n := 11) (by omega) (gf := 85) (lb := #[.pointer (some ⟨Bx, 0, none⟩)]) rfl (enters_of Tryd.func85 (by kernel_rfl) rfl)
        (all1_seq (fun q => q = Br ∨ q = Bo ∨ q = w.heap.size + 1 ∨ (Value.slice oa pre.length oc).ownBlock = some q) Bx 30 W2 a2 c2 (bod s) [] x.bs (by rw [HXB.out, List.append_nil]) HFS.out.bod2 (by decide) (tb_fr (tb_fr HT.out HFW.out (fun y => by rcases y with y | y <;> omega)) (Fr.ofBelow (F := fun _ => False) hb2) (fun y => y))
          hr2 (by rw [HXL.out]; exact hxl) hc2 hcm2 hBx2 hq0 (fun y => by have := hQW _ y; omega) (fun _ b off e y => by have := hQW _ y; have := hlo2 b off e; omega) (fun q y => by have := hQW q y; omega))
        (Below.refl _ _) (fun q y => by have := hQW q y; omega) rfl
        (fun k W' => ∃ oa' oc' ol', Rt w yv Br Bo ba Ds (pre ++ s.recs.take (k - 1)) oa' oc' ol' W' ∧ ∀ g, (Value.slice oa' (pre ++ s.recs.take (k - 1)).length oc').ownBlock = some g → (g = Br ∨ g = Bo ∨ g = w.heap.size + 1 ∨ (Value.slice oa pre.length oc).ownBlock = some g) ∨ W2.heap.size + 2 + 4 ≤ g)
        ?hI ?h0
        (fun pl b aq cq => { tmps := #[Value.func (.func 44) #[] #[.pointer (some ⟨Br, 0, none⟩), .pointer (some ⟨Bl, 0, none⟩), .pointer (some ⟨Bo, 0, none⟩)], .pointer (some ⟨Bb, 0, none⟩), .pointer (some ⟨Ba, 0, none⟩), .pointer (some ⟨w.heap.size, 0, none⟩), .pointer (some ⟨w.heap.size + 1, 0, none⟩), undef, .slice x.ao xl x.cap, .int .i64 (pl : Int), .slice aq b.length cq, .int .i64 (ba : Int), .slice (some ⟨g, 0, none⟩) n cr, .int .i64 (n : Int), .int .i64 (i : Int), .bool true, .pointer (some ⟨g, i, none⟩), .slice x.ao xl x.cap, .slice x.ao xl x.cap, .func (.func 85) #[] #[.pointer (some ⟨Bx, 0, none⟩)], .int .i64 (pl : Int), .slice aq b.length cq, u20, u21, u22, u23, u24, u25, u26, u27, u28, u29], defers := [] }) ?assign ?body ?done)
      case hI =>
        rintro k A B' row ⟨oa', oc', ol', hRt, hob⟩ hg hrow
        exact ⟨oa', oc', ol', hRt.keep (fr_grown hg) (fun q hq => ⟨by have := (hrow q hq).1; omega, fun hD => by have := (hrow q hq).1; have := hDW q hD; omega, fun o ho => by obtain ⟨-, o', ho', hoc⟩ := hrow q hq; rw [ho] at ho'; cases ho'; exact hoc⟩), hob⟩
      case h0 => exact ⟨oa, oc, ol, by simpa using hRt2, fun g hg => .inl (.inr (.inr (.inr (by simpa using hg))))⟩
      case assign =>
        intro l' pl b aq cq W' K hK
        gi_wp2
        exact hK
      case body =>
        rintro l' k pl b aq cq W0 Wb hl1 ⟨r, hr0⟩ hm ⟨oa1, oc1, ol1, hRt0, hob0⟩ hfb - hRl hL hrow
        obtain ⟨hkl, hpl, hbb⟩ := prs_of hL
        have hRtb := hRt0.keep hfb (fun q e => by subst e; exact ⟨by omega, fun hD => by have := hDW q hD; omega, fun o ho => by rw [hr0] at ho; cases ho; rfl⟩)
        have hbw := hfb.size
        by_cases hk0 : k = 0
        · subst hk0
          have hp0 : pl = 0 := hpl.trans (off_zero _)
          have t1 : ((pl : Int) == (0 : Int)) = true := by simp [hp0]
          have HRB := mkH hRtb
          clear hRtb hRt0 hp0 hpl hbb hL hrow hba hmax hxl hkl
          gi_wp2
          exact ⟨Fm.ofFr (Fr.refl _ _), oa1, oc1, ol1, HRB.out, hob0⟩
        · have hp12 : 12 ≤ pl := by rw [hpl]; exact off_pos hk0 hkl
          have t1 : ((pl : Int) == (0 : Int)) = false := by simp; omega
          have hkr : k - 1 < s.recs.length := by simp only [bod, List.length_cons] at hkl; omega
          have hbr : s.recs[k - 1]? = some b := by
            rw [hbb]
            obtain ⟨j, rfl⟩ : ∃ j, k = j + 1 := ⟨k - 1, by omega⟩
            simp only [bod, List.getD_cons_succ, Nat.add_sub_cancel] at hkr ⊢
            simp [List.getD, hkr]
          obtain ⟨p2, hp2⟩ : ∃ p2, pre ++ s.recs.take (k - 1) = p2 := ⟨_, rfl⟩
          have hnx : pre ++ s.recs.take (k + 1 - 1) = p2 ++ [b] := by
            rw [← hp2, List.append_assoc, show k + 1 - 1 = (k - 1) + 1 by omega, List.take_add_one, hbr]; rfl
          rw [hp2] at hRt0 hRtb hob0
          have hp2l : p2.length + 1 ≤ (all segs).length := by rw [← hp2, List.length_append, List.length_take]; omega
          have hlen1 : ol1.length = p2.length := by rw [← hRtb.recs, List.length_map]
          have hlg : Lg Wb F B h := HL.out.fr hRtb.fr (fun q y => by rcases y with y | y; rw [y]; exact fr; rw [y]; exact fo)
          have hlbb := (hRtb.fr.heap (block_lt HLB.out) (fun y => by rcases y with y | y; exact hnl y.symm; exact hnl2 y.symm)).trans HLB.out
          have hln : w.heap.size + 1 < Wb.heap.size := block_lt hRtb.num
          have ha := all1_any Wb Br Bl Bo (w.heap.size + 2) p2.length ba hlg hp hnb (by omega) (by omega) oa1 oc1 ol1 hlen1 hRtb.right hlbb hRtb.out hne hnl (by omega) (by omega) (by omega) hRtb.ol ⟨aq, cq, b⟩ hrow
            (fun b' off e h0 => by
              have h1 := hRl b' off e
              refine ⟨by omega, fun hb' => ?_⟩
              have := (rt_blk hRt0 hb').1
              omega)
          have hkk : ∀ q, q < Wb.heap.size → ∀ o : Obj, Wb.heap[q]? = some o → o.isCells = true → True := fun _ _ _ _ _ => trivial
          have cy : Wb.cell? ⟨w.heap.size, 0, none⟩ = some (.func (.func 44) #[] #[.pointer (some ⟨Br, 0, none⟩), .pointer (some ⟨Bl, 0, none⟩), .pointer (some ⟨Bo, 0, none⟩)]) := by
            rw [cell_of_row _ _ _ _ _ _ hRtb.yb, HYV.out]; rfl
          have cn : Wb.cell? ⟨w.heap.size + 1, 0, none⟩ = some (.int .i64 ((ba + p2.length : Nat) : Int)) := by rw [cell_of_row _ _ _ _ _ _ hRtb.num]; rfl
          obtain ⟨NN, hNN⟩ : ∃ NN, ba + p2.length = NN := ⟨_, rfl⟩
          have hNb : NN ≤ 1000000 := by omega
          rw [hNN] at ha cn
          simp only at ha
          have HA := mkH ha
          have HRB := mkH hRtb
          have HOB := mkH hob0
          have HNN := mkH hNN
          have HNX := mkH hnx
          have HL1 := mkH hlen1
          clear ha hRtb hob0 hNN hnx hlg hlbb hRt0 hL hkl hpl hbb hbr hp2 hkk hRl hlen1
          obtain ⟨bl, hbl⟩ : ∃ bl, b.length = bl := ⟨_, rfl⟩
          rw [hbl] at HA
          rw [hbl]
          have hd : 1 ≤ 11 - 1 - 1 := by omega
          gi_wp2_with (refine ⟨trivial, ?_⟩; gi_at_call 44; refine (CallsIn.inRound l' (callsIn_wide.2 HA.out)).mono ?_; rintro e w3 ⟨rfl, a3, c3, hr3, ho3, hol3, hf3, hb3⟩; have hnum3 : w3.heap[w.heap.size + 1]? = some (.cells #[.int .i64 (NN : Int)] 3 (0, 0)) := (by rw [← HNN.out]; exact (hf3.heap (block_lt HRB.out.num) (fun y => by rcases y with y | y | y; omega; omega; have := (rt_blk HRB.out y).2; omega)).trans HRB.out.num); have cn3 : w3.cell? ⟨w.heap.size + 1, 0, none⟩ = some (.int .i64 (NN : Int)) := (by rw [cell_of_row _ _ _ _ _ _ hnum3]; rfl); have fn3 := frozen_of_row w3 (w.heap.size + 1) 0 _ _ hnum3)
          have hs4 := setCell_eq_setRow w3 (w.heap.size + 1) 0 _ _ (0, 0) (.int .i64 ((NN : Int) + 1)) hnum3
          have hf4 : Fr (fun q => q = w.heap.size + 1) w3 (w3.setCell ⟨w.heap.size + 1, 0, none⟩ (.int .i64 ((NN : Int) + 1))) := by
            rw [hs4]; exact (Fr.refl (fun k => k = w.heap.size + 1) w3).setRow (b := w.heap.size + 1) (.inl rfl) _
          have hlen2 : (p2 ++ [b]).length = p2.length + 1 := by simp
          refine ⟨?_, a3, c3, ol1 ++ [⟨aq, cq, b⟩], ?_, ?_⟩
          · refine (⟨hf3.os, hf3.tape, hf3.output, hf3.size, fun q hq1 hq2 hq3 => hf3.heap hq2 (fun y => ?_)⟩ : Fm _ _ Wb w3).trans ((Fm.ofFr hf4).mono (fun q y => .inr (.inr (.inl y))))
            rcases y with y | y | y
            · exact hq3 (.inl y)
            · exact hq3 (.inr (.inl y))
            · rcases HOB.out q y with z | z
              · exact hq3 z
              · omega
          · rw [HNX.out]
            have hfe : Fr (fun q => q = Br ∨ q = Bo) w w3 := HRB.out.fr.trans hf3 (fun q y => by
              rcases y with y | y | y
              · exact .inl (.inl y)
              · exact .inl (.inr y)
              · have := (rt_blk HRB.out y).2; exact .inr (by omega))
            have hmk3 : ∀ D ∈ Ds, w3.heap[D]? = some (.deferred (some [])) := fun D hD => by
              refine (hf3.heap (block_lt (HRB.out.mks.2 D hD)) (fun y => ?_)).trans (HRB.out.mks.2 D hD)
              have := HRB.out.mlo D hD
              rcases y with y | y | y
              · omega
              · omega
              · obtain ⟨cur, hcur⟩ := own_isCells HRB.out.ol.own y
                rw [HRB.out.mks.2 D hD] at hcur
                cases hcur
            refine ⟨hfe.trans hf4 (fun q y => .inr (by omega)), ?_, ?_, (hf4.heap (block_lt hr3) (by omega)).trans hr3, ?_, ?_, ?_, ⟨HRB.out.mks.1, fun D hD => ?_⟩, HRB.out.mlo⟩
            · refine (hf4.heap (Nat.lt_of_lt_of_le (block_lt HRB.out.yb) hf3.size) (by omega)).trans ((hf3.heap (block_lt HRB.out.yb) (fun y => ?_)).trans HRB.out.yb)
              rcases y with y | y | y
              · omega
              · omega
              · have := (rt_blk HRB.out y).2; omega
            · rw [hs4, setRow_heap _ _ _ _ _ _ hnum3, hlen2, ← Nat.add_assoc, HNN.out]
              rfl
            · rw [hlen2]; exact (hf4.heap (block_lt ho3) (by omega)).trans ho3
            · rw [hlen2]; exact hol3.fr hf4 (fun q y => by omega)
            · rw [List.map_append, HRB.out.recs]; rfl
            · refine (hf4.heap (block_lt (hmk3 D hD)) (fun y => ?_)).trans (hmk3 D hD)
              have := hmk3 D hD
              rw [y, hnum3] at this
              cases this
          · intro q hq
            rw [HNX.out, hlen2] at hq
            rcases hb3 with y | ⟨q2, y, hq2⟩
            · rw [hq] at y; exact HOB.out q y.symm
            · rw [hq] at y; cases y; exact .inr (by omega)
      case done =>
        rintro D W' hD ⟨oa', oc', ol', hRt, -⟩ hK
        rw [prs_len] at hRt
        have hfin : pre ++ s.recs.take ((bod s).length - 1) = pre ++ s.recs := by simp [bod]
        rw [hfin, ← hnxt] at hRt
        have hRtD : Rt w yv Br Bo ba (D :: Ds) (all (segs.take (i + 1))) oa' oc' ol' W' := ⟨hRt.fr, hRt.yb, hRt.num, hRt.right, hRt.out, hRt.ol, hRt.recs, ⟨List.nodup_cons.2 ⟨fun hx => by have := hDW D hx; omega, hRt.mks.1⟩, fun E hE => by rcases List.mem_cons.1 hE with rfl | hE; exact hK; exact hRt.mks.2 E hE⟩, fun E hE => by rcases List.mem_cons.1 hE with rfl | hE; omega; exact hRt.mlo E hE⟩
        have HRD := mkH hRtD
        clear hRtD hRt hK hfin hnxt
        go_wp2_with fail
        refine ⟨⟨i + 1, D :: Ds, oa', oc', ol', _, _, _, _, _, _, _, _, _, _, _, _, _, _, _, _, _, _, _, _, by omega, HRD, rfl⟩, by simp [intOf]; omega⟩
end
end Go.Proofs.YtjfbhchpgmimfaaDoor.Sl
