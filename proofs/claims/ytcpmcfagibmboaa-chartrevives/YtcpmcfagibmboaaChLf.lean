/-
  chart.Load.
-/
import Derived.Test.YtcpmcfagibmboaaChLc
import Derived.Test.YtcpmcfagibmboaaChLd
import Derived.Test.YtcpmcfagibmboaaRgR
namespace Go.Proofs.Ytcpmcfagibmboaa.Lf
open Go.RowKit Go.Shelf Pl Pw Pr Pf Pv Cp Ca Cb Cc Cd Ce Cf Gf Gk Ct Cu La Rd Ch Lb Li Lc
open Cr hiding some_of
open Kt hiding mkH
open Kv
set_option linter.unusedVariables false
set_option linter.unusedSimpArgs false
set_option maxRecDepth 20000
attribute [local go_sem] Oper.semAt_some

theorem box_own {A B : World} {row : Option Nat} {base : Nat} (hg : A.grownBy B row) (hr : ∀ r, row = some r → base ≤ r ∧ ∃ o : Obj, A.heap[r]? = some o ∧ o.isCells = false) {o : Nat} {cs : Array Value} {t : TypeId} (hb : Bx A o cs t) : Bx B o cs t :=
  (hg.block o hb.lt (fun e => by
    obtain ⟨-, o', ho, hc⟩ := hr o e.symm
    unfold Bx at hb
    rw [hb] at ho
    cases ho
    cases hc)).trans hb
theorem bel_own {A B w : World} {row : Option Nat} {base n : Nat} (hg : A.grownBy B row) (hr : ∀ r, row = some r → base ≤ r ∧ ∃ o : Obj, A.heap[r]? = some o ∧ o.isCells = false) (hn : n ≤ base) (hnA : n ≤ A.heap.size) (hb : Below n w A) : Below n w B :=
  ⟨hg.os.trans hb.os, hg.tape.trans hb.tape, hg.output.trans hb.output, Nat.le_trans hb.size hg.size, fun k hk => (hg.block k (by omega) (fun e => by have := (hr k e.symm).1; omega)).trans (hb.block k hk)⟩
theorem res_cc {fn : Func} {p q : Tmp} {t u : TypeId} (h : fn.results = #[.cell p t, .cell q u]) (tmps : Array Value) (P : Program) (w : World) {b c : Addr} {x y : Value}
    (hp : tmps.getD p undef = .pointer (some b)) (hq : tmps.getD q undef = .pointer (some c)) (hx : (loadVar t b).run P w = .ok x w) (hy : (loadVar u c).run P w = .ok y w) :
    (results fn tmps).run P w = .ok (.tuple #[x, y]) w := by
  have hp' : tmps[p]?.getD undef = .pointer (some b) := by simpa using hp
  have hq' : tmps[q]?.getD undef = .pointer (some c) := by simpa using hq
  simp only [results, h]
  simp [Sem.run_bind, Result.andThen, hp', hq', asAddr, hx, hy]
theorem fin_set {w W : World} {x y z : Value} (h1 : Bx W w.heap.size #[x, y] 24) (h2 : Bx W (w.heap.size + 1) #[z] 28) (hb : Below w.heap.size w W) (u v t : Value) :
    Bx (((W.setCell ⟨w.heap.size, 0, none⟩ u).setCell ⟨w.heap.size, 1, none⟩ v).setCell ⟨w.heap.size + 1, 0, none⟩ t) w.heap.size #[u, v] 24 ∧ Bx (((W.setCell ⟨w.heap.size, 0, none⟩ u).setCell ⟨w.heap.size, 1, none⟩ v).setCell ⟨w.heap.size + 1, 0, none⟩ t) (w.heap.size + 1) #[t] 28 ∧
    Below w.heap.size w (((W.setCell ⟨w.heap.size, 0, none⟩ u).setCell ⟨w.heap.size, 1, none⟩ v).setCell ⟨w.heap.size + 1, 0, none⟩ t) ∧ Fr (fun q => q = w.heap.size ∨ q = w.heap.size + 1) W (((W.setCell ⟨w.heap.size, 0, none⟩ u).setCell ⟨w.heap.size, 1, none⟩ v).setCell ⟨w.heap.size + 1, 0, none⟩ t) := by
  have a1 := h1.set 0 u
  have a2 := a1.set 1 v
  have b1 := h2.other (p := ⟨w.heap.size, 0, none⟩) (by simp) u
  have b2 := b1.other (p := ⟨w.heap.size, 1, none⟩) (by simp) v
  refine ⟨a2.other (p := ⟨w.heap.size + 1, 0, none⟩) (by simp) t, b2.set 0 t, ((hb.setCell (Nat.le_refl _) _).setCell (Nat.le_refl _) _).setCell (Nat.le_succ _) _, ?_⟩
  exact ((h1.frset 0 u).mono (fun q hq => .inl hq)).trans (((a1.frset 1 v).mono (fun q hq => .inl hq)).trans ((b2.frset 0 t).mono (fun q hq => .inr hq)) (fun i hi => .inl hi)) (fun i hi => .inl hi)
/-- The chart while the threes are told. -/
def LI (cb N : Nat) (e0 : Int) (R : List Int) (wA : World) (m k : Nat) (W : World) : Prop :=
  ∃ ao cap, 3 * k ≤ N - 2 ∧ Bx W cb #[.int .i64 e0, .slice ao k cap] 24 ∧ W.ownsRow m 63 3 (.slice ao k cap) k (Fp (Ld.pcs (R.take (3 * k)))) ∧ Below cb wA W
theorem LI_own (cb N : Nat) (e0 : Int) (R : List Int) (wA : World) (B m : Nat) (hB : cb ≤ B) : OwnFrom B (LI cb N e0 R wA m) := by
  rintro k W W' row ⟨ao, cap, h0, h1, h2, h3⟩ hg hr
  refine ⟨ao, cap, h0, box_own hg hr h1, ⟨h2.1, ?_⟩, bel_own hg hr hB (Nat.le_of_lt h1.lt) h3⟩
  rcases h2.2 with e | ⟨g, c, cur, e1, e2, e3, e4⟩
  · exact .inl e
  · exact .inr ⟨g, c, cur, e1, e2, box_own hg hr e3, e4⟩
/-- A three that is short: the answer is in the results' boxes. -/
def LZ (w : World) (N : Nat) (m k : Nat) (W : World) : Prop :=
  Bx W w.heap.size #[.int .i64 0, .slice none 0 0] 24 ∧ Bx W (w.heap.size + 1) #[.int .i64 5] 28 ∧ Below w.heap.size w W ∧ (N - 2) % 3 ≠ 0
theorem LZ_own (w : World) (N B m : Nat) (hB : w.heap.size ≤ B) : OwnFrom B (LZ w N m) := by
  rintro k W W' row ⟨h1, h2, h3, h4⟩ hg hr
  exact ⟨box_own hg hr h1, box_own hg hr h2, bel_own hg hr hB (Nat.le_of_lt h1.lt) h3, h4⟩

/-- The results' boxes, and the answer's row. -/
def LG (w : World) (u v t : Value) (ao : Option Addr) (n cap : Nat) (F : List Value) (_ : Unit) (W : World) : Prop :=
  Bx W w.heap.size #[u, v] 24 ∧ Bx W (w.heap.size + 1) #[t] 28 ∧ Below w.heap.size w W ∧ W.ownsRow w.heap.size 63 3 (.slice ao n cap) n F
theorem LG_own (w : World) (u v t : Value) (ao : Option Addr) (n cap : Nat) (F : List Value) (B : Nat) (hB : w.heap.size ≤ B) : OwnFrom B (LG w u v t ao n cap F) := by
  rintro k W W' row ⟨h1, h2, h3, h4⟩ hg hr
  refine ⟨box_own hg hr h1, box_own hg hr h2, bel_own hg hr hB (Nat.le_of_lt h1.lt) h3, ⟨h4.1, ?_⟩⟩
  rcases h4.2 with e | ⟨g, c, cur, e1, e2, e3, e4⟩
  · exact .inl e
  · exact .inr ⟨g, c, cur, e1, e2, box_own hg hr e3, e4⟩

theorem own_blk {w : World} {base e size n cap : Nat} {ao : Option Addr} {xs : List Value} (h : w.ownsRow base e size (.slice ao n cap) n xs) : ∀ r, (Value.slice ao n cap).ownBlock = some r → base ≤ r := fun r hr => (h.lt r hr).1
/-- 'c.Pieces = append(c.Pieces, ..)'. -/
theorem app_step {cb m j : Nat} {ev : Value} {Wb W2 w0 : World} {ao : Option Addr} {cap : Nat} {v2 : Value} {F F2 : List Value} {o : Obj} (hown : Wb.ownsRow m 63 3 (.slice ao j cap) j F) (hbx : Bx Wb cb #[ev, .slice ao j cap] 24) (hlc : cb < m) (hm : m ≤ Wb.heap.size)
    (hown2 : W2.ownsRow m 63 3 v2 (j + 1) F2) (hgr : (Wb.alloc o).drew.grownBy W2 (Value.slice ao j cap).ownBlock) (hb : Below cb w0 Wb) :
    ∃ a2 c2, v2 = .slice a2 (j + 1) c2 ∧ Bx W2 cb #[ev, .slice ao j cap] 24 ∧ Fm m (fun k => k = cb) Wb (W2.setCell ⟨cb, 1, none⟩ v2) ∧ Bx (W2.setCell ⟨cb, 1, none⟩ v2) cb #[ev, v2] 24 ∧ (W2.setCell ⟨cb, 1, none⟩ v2).ownsRow m 63 3 v2 (j + 1) F2 ∧ Below cb w0 (W2.setCell ⟨cb, 1, none⟩ v2) := by
  obtain ⟨a2, c2, rfl⟩ := own_form hown2
  have hsz : (Wb.alloc o).drew.heap.size = Wb.heap.size + 1 := by simp
  have hblk : ∀ b, b < m → b < Wb.heap.size → W2.heap[b]? = Wb.heap[b]? := fun b h1 h2 =>
    (hgr.block b (by omega) (fun e => by have := own_blk hown b e.symm; omega)).trans (show (Wb.alloc o).drew.heap[b]? = Wb.heap[b]? from Below.heap_alloc Wb o b h2)
  have hbx2 : Bx W2 cb #[ev, .slice ao j cap] 24 := (hblk cb hlc hbx.lt).trans hbx
  have hsz2 : Wb.heap.size ≤ W2.heap.size := by have := hgr.size; omega
  have hst : Fr (fun k => k = cb) W2 (W2.setCell ⟨cb, 1, none⟩ (.slice a2 (j + 1) c2)) := hbx2.frset 1 _
  refine ⟨a2, c2, rfl, hbx2, ⟨hgr.os, hgr.tape, hgr.output, by simpa using hsz2, fun b h1 h2 h3 => ?_⟩, hbx2.set 1 _, own_fr hown2 hst (fun k hk e => by have := own_blk hown2 k hk; omega), ⟨hgr.os.trans hb.os, hgr.tape.trans hb.tape, hgr.output.trans hb.output, by have := hb.size; simp; omega, fun b h1 => ?_⟩⟩
  · rw [heap_setCell_other W2 ⟨cb, 1, none⟩ b _ (fun e => h3 (by simpa using e))]
    exact hblk b h1 h2
  · rw [heap_setCell_other W2 ⟨cb, 1, none⟩ b _ (by simp; omega), hblk b (by omega) (by have := hbx.lt; omega)]
    exact hb.block b h1

set_option maxRecDepth 100000 in
set_option maxHeartbeats 8000000 in
theorem load_any (w : World) (bs : List UInt8) (hl : bs.length ≤ 1000) :
    Calls Try.prog 13 #[.string (S bs)] w fun e w' => Ld.LdP w bs e w' := by
  have hmx : Try.prog.follows .mixedOrders = true := by kernel_rfl
  obtain ⟨V2, hV2⟩ : ∃ V2, V2 = (w.alloc (.cells #[.int .i64 0, .slice none 0 0] 24)).alloc (.cells #[.int .i64 0] 28) := ⟨_, rfl⟩
  have hr2 : Bx V2 w.heap.size #[.int .i64 0, .slice none 0 0] 24 := by rw [hV2]; exact (Bx.new w _ _).alloc _
  have he2 : Bx V2 (w.heap.size + 1) #[.int .i64 0] 28 := by rw [hV2]; exact Bx.new1 w _ _ _
  have hb2 : Below w.heap.size w V2 := by rw [hV2]; exact ((Below.refl _ w).alloc (Nat.le_refl _) _).alloc (by simp) _
  have hz2 : V2.heap.size = w.heap.size + 2 := by rw [hV2]; simp
  have HNO := mkH (numsOf_any V2 bs hl)
  have HR2 := mkH hr2
  have HE2 := mkH he2
  have HB2 := mkH hb2
  have HZ2 := mkH hz2
  have HV2 := mkH hV2
  clear hr2 he2 hb2 hz2 hV2
  refine (callsIn_wide (n := 12)).1 ?_
  refine callsIn_of_wp_marks Try.func13 rfl trivial ?_ rfl
  simp only [Try.ntmps13, List.size_toArray, List.length_cons, List.length_nil, Nat.reduceAdd, Nat.reduceSub, Array.replicate_succ, Array.replicate_zero, List.push_toArray, List.append_toArray, List.nil_append, List.cons_append]
  gi_wp2_with fail
  rw [show (w.alloc (.cells #[.int .i64 0, .slice none 0 0] 24)).alloc (.cells #[.int .i64 0] 28) = V2 from HV2.out.symm]
  refine ⟨trivial, (callsIn_wide.2 HNO.out).mono ?_⟩
  rintro e wA ⟨hbA, hans⟩
  have HRA := mkH (HR2.out.bel hbA)
  have HEA := mkH (HE2.out.bel hbA)
  have HBA := mkH (HB2.out.trans (hbA.mono HB2.out.size))
  have hzA : w.heap.size + 2 ≤ wA.heap.size := by have := hbA.size; have := HZ2.out; omega
  clear hbA HR2 HE2 HB2 HZ2 HV2 HNO
  rcases hans with ⟨L, aN, cN, hN, rfl, hown⟩ | ⟨hno, rfl⟩
  · have HN := mkH hN
    have HO := mkH hown
    clear hN hown
    by_cases hs2 : L.length < 2
    · have HBAD : Hid (¬ ∃ e ps, Ld.Good bs e ps) := mkH (Ld.bad_len hl HN.out (.inl hs2))
      have g1 : (L.length : Int) < 2 := by omega
      clear hs2
      obtain ⟨f1, f2, f3, -⟩ := fin_set HRA.out HEA.out HBA.out (.int .i64 0) (.slice none 0 0) (.int .i64 5)
      obtain ⟨x0, x1, x2, x3⟩ := two_load (P := Try.prog) HRA.out
      have x4 : wA.cell? ⟨w.heap.size + 1, 0, none⟩ = some (.int .i64 0) := HEA.out.cell 0 _ rfl
      have x5 := HEA.out.frozen 0
      obtain ⟨y0, y1, -, -⟩ := two_load (P := Try.prog) f1
      have y2 := f2.cell 0 _ rfl
      have HF3 := mkH f3
      clear f1 f2 f3
      gi_wp2
      exact ⟨.tuple #[.agg #[.int .i64 0, .slice none 0 0], .int .i64 5], res_cc rfl _ _ _ (b := ⟨w.heap.size, 0, none⟩) (c := ⟨w.heap.size + 1, 0, none⟩) (x := .agg #[.int .i64 0, .slice none 0 0]) (y := .int .i64 5) (by rfl) (by rfl) (by simp [loadVar, go_sem, y0, y1]) (by simp [loadVar, go_sem, y2]), HF3.out, .inr ⟨HBAD.out, rfl⟩⟩
    · obtain ⟨e0, kk, R, hLR⟩ : ∃ e0 kk R, L = e0 :: kk :: R := by
        match L, hs2 with
        | [], h => simp at h
        | [_], h => simp at h
        | x :: y :: r, _ => exact ⟨x, y, r, rfl⟩
      have hRL : L.length ≤ R.length + 2 := by rw [hLR]; simp
      have hRM : R.length + 2 ≤ L.length := by rw [hLR]; simp
      have hL1 : L.length ≤ 1000 := by have h1 := txt_ge L; rw [HN.out.1] at h1; omega
      have g1 : ¬ (L.length : Int) < 2 := by omega
      have hri := (RowI.own HO.out).2
      have hcN := own_le HO.out
      have hcM := own_cap HO.out
      obtain ⟨b, off, rfl, hcl⟩ := hri (by omega)
      have hb0 := hcl 0 (by omega)
      have e00 : L.getD 0 0 = e0 := by rw [hLR]; rfl
      rw [e00] at hb0
      have hblt : b < wA.heap.size := World.block_lt_of_cell? wA _ hb0
      obtain ⟨N, hN⟩ : ∃ N, N = L.length := ⟨_, rfl⟩
      have HNL := mkH hN
      have HLR := mkH hLR
      have HCL := mkH hcl
      rw [← hN] at hRL hRM g1 hL1 hs2 hcN ⊢
      clear hcl hri hLR hN e00
      have gi : (0 : Int) < (N : Int) := by omega
      have gj : (2 : Int) ≤ (N : Int) := by omega
      simp only [Nat.add_zero] at hb0
      obtain ⟨WC, hWC⟩ : ∃ WC, WC = wA.alloc (.cells #[.int .i64 e0, .slice none 0 0] 24) := ⟨_, rfl⟩
      have hbC : Below wA.heap.size wA WC := by rw [hWC]; exact (Below.refl _ wA).alloc (Nat.le_refl _) _
      have hzC : WC.heap.size = wA.heap.size + 1 := by rw [hWC]; simp
      have hxC : Bx WC wA.heap.size #[.int .i64 e0, .slice none 0 0] 24 := by rw [hWC]; exact Bx.new _ _ _
      by_cases hc2 : cN = 2
      · obtain rfl : N = 2 := by omega
        subst hc2
        obtain ⟨W0, hW0⟩ : ∃ W0, W0 = (WC.alloc (.cells #[.slice (some ⟨b, off, none⟩) (0) (0)] 66)).alloc (.cells #[.int .i64 3] 3) := ⟨_, rfl⟩
        have hb0' : Below WC.heap.size WC W0 := by rw [hW0]; exact ((Below.refl _ WC).alloc (Nat.le_refl _) _).alloc (by simp) _
        have hz0 : W0.heap.size = wA.heap.size + 3 := by rw [hW0]; simp; omega
        have hs0 : Bx W0 (wA.heap.size + 1) #[.slice (some ⟨b, off, none⟩) (0) (0)] 66 := by rw [hW0, ← hzC]; exact (Bx.new WC _ _).alloc _
        have hn0 : Bx W0 (wA.heap.size + 2) #[.int .i64 3] 3 := by
          have hh : WC.heap.size + 1 = wA.heap.size + 2 := by omega
          rw [hW0, ← hh]; exact Bx.new1 WC _ _ _
        have hx0 := hxC.bel hb0'
        have hbel0 : Below wA.heap.size wA W0 := hbC.trans (hb0'.mono (by omega))
        have hseq := chunk_seq 11 (by omega) (fun q => q = wA.heap.size ∨ q = w.heap.size ∨ q = w.heap.size + 1) (wA.heap.size + 1) (wA.heap.size + 2) (b := b) (off := off) (m := 0) hs0 hn0 (by omega) (by omega) (by omega) (by omega) (by omega) (fun _ => rfl)
        have HX0 := mkH hx0
        have HBL := mkH hbel0
        have HZ0 := mkH hz0
        have HWC := mkH hWC
        have HW0 := mkH hW0
        have hzz : WC.heap.size = wA.heap.size + 1 := hzC
        clear hs0 hn0 hx0 hbel0 hz0 hbC hxC hb0' hWC hW0
        gi_wp2_with fail
        rw [show wA.alloc (.cells #[.int .i64 e0, .slice none 0 0] 24) = WC from HWC.out.symm]
        refine ⟨trivial, (callsIn_wide.2 (chunk_any _ _ _ _)).mono ?_⟩
        rintro e w1 ⟨rfl, rfl⟩
        rw [hzC]
        gi_wp2_with fail
        rw [show (WC.alloc (.cells #[.slice (some ⟨b, off, none⟩) (0) (0)] 66)).alloc (.cells #[.int .i64 3] 3) = W0 from HW0.out.symm]
        clear hzC
        refine rfZ (by omega) (gf := 58) (lb := #[.pointer (some ⟨wA.heap.size + 1, 0, none⟩), .pointer (some ⟨wA.heap.size + 2, 0, none⟩)]) rfl (enters_of Try.func58 (by kernel_rfl) rfl) hseq (Below.refl _ _) (fun q hq => by have := HZ0.out; omega) (fun _ => rfl)
          (LI wA.heap.size 2 e0 R wA) (LZ w 2) (fun m => LI_own _ _ _ _ _ _ m (by have := HZ0.out; omega)) (fun m => LZ_own _ _ _ m (by have := HZ0.out; omega))
          (fun m hm => ⟨none, 0, by omega, HX0.out, World.ownsRow_nil _ _ _ _, HBL.out⟩)
          (fun x a' W => a' = { tmps := #[.string (S bs), undef, .pointer (some ⟨w.heap.size, 0, none⟩), .pointer (some ⟨w.heap.size + 1, 0, none⟩), .slice (some ⟨b, off, none⟩) 2 2, .bool true, .pointer (some ⟨wA.heap.size, 0, none⟩), (.slice (some ⟨b, off + 3 * x, none⟩) 0 0), .tuple #[.slice (some ⟨b, off, none⟩) 2 2, .bool true], .string (S bs), .tuple #[.slice (some ⟨b, off, none⟩) 2 2, .bool true], .slice (some ⟨b, off, none⟩) 2 2, .bool true, .bool true, .bool false, .bool false, .slice (some ⟨b, off, none⟩) 2 2, .int .i64 (2 : Int), .bool (decide ((2 : Int) < 2)), .bool (decide ((2 : Int) < 2)), undef, .slice (some ⟨b, off, none⟩) 2 2, .pointer (some ⟨b, off, none⟩), .int .i64 e0, .agg #[.int .i64 e0, .slice none 0 0], .slice (some ⟨b, off, none⟩) 2 2, .slice (some ⟨b, off, none⟩) (0) (0), .func (.func 58) #[] #[.pointer (some ⟨wA.heap.size + 1, 0, none⟩), .pointer (some ⟨wA.heap.size + 1 + 1, 0, none⟩)], (.slice (some ⟨b, off + 3 * x, none⟩) 0 0), undef, undef, undef, undef, undef, undef, undef, undef, undef, undef, undef, undef, undef, undef, undef, undef, undef, undef, undef, undef, undef, undef, undef, undef, undef, undef, undef, undef, undef, undef, undef, undef, undef, undef], defers := [] })
          (fun x a' => ?hA) ?assign ?body ?done ?stop
        case hA =>
          rintro - W W' row e hg hr
          exact e
        case assign =>
          rintro l' x W' K hK
          have HK := mkH hK
          clear hK
          simp only [arC]
          gi_wp2
          exact HK.out _ _ (Below.refl _ _) rfl
        case body =>
          rintro l' m k x a' Wb hl1 hm hmW ⟨ao, cap, z0, z1, z2, z3⟩ rfl hx
          obtain ⟨hk, rfl⟩ : k < (0 + 2) / 3 ∧ x = k := by
            have h1 := (List.getElem?_eq_some_iff.1 hx).1
            rw [List.length_range] at h1
            rw [List.getElem?_range h1] at hx
            exact ⟨h1, (Option.some.inj hx).symm⟩
          clear hx
          exfalso; omega
        case done =>
          rintro D m Wd hD hm ⟨ao, cap, z0, z1, z2, z3⟩ hdf
          rw [List.length_range] at z0 z1 z2
          obtain ⟨k, hk⟩ : ∃ k, k = (0 + 2) / 3 := ⟨_, rfl⟩
          rw [← hk] at z0 z1 z2
          have h3k : 3 * k = R.length := by omega
          obtain ⟨P, hP⟩ : ∃ P, P = Ld.pcs R := ⟨_, rfl⟩
          have hPl : P.length = k := by rw [hP, Ld.pcs_len]; omega
          rw [h3k, List.take_length, ← hP] at z2
          have hP1 : P.length ≤ 400 := by omega
          have hR3 : R.length % 3 = 0 := by omega
          obtain rfl : k = P.length := hPl.symm
          have HOP : Hid (OwP Wd w.heap.size ao cap P) := mkH ⟨own_mono z2 (by have := HZ0.out; omega)⟩
          have HNM : Hid (Nums bs (e0 :: kk :: R)) := mkH (by rw [← HLR.out]; exact HN.out)
          have HPE := mkH hP
          have HR3 := mkH hR3
          have hRd := HRA.out.below z3 (by omega)
          have hEd := HEA.out.below z3 (by omega)
          have HM : Hid (∀ W, Below Wd.heap.size Wd W → Calls Try.prog 24 #[.agg #[.int .i64 e0, .slice ao P.length cap]] W fun x w' => x = .returned (.bool (mayC e0 P)) ∧ Below W.heap.size W w') := mkH (fun W hb => may_any W e0 ao cap P (HOP.out.rd.below hb) (by omega))
          have n1 : Wd.cell? ⟨b, off + 1, none⟩ = some (.int .i64 kk) := by
            have h1 := (z3.cell (p := ⟨b, off + 1, none⟩) hblt).trans (HCL.out 1 (by have := HNL.out; omega))
            rw [HLR.out] at h1
            exact h1
          obtain ⟨c0, c1, -, -⟩ := two_load (P := Try.prog) z1
          have HX1 := mkH z1
          have HRd := mkH hRd
          have HEd := mkH hEd
          have HB3 : Hid (Below w.heap.size w Wd) := mkH (HBA.out.trans (z3.mono (by omega)))
          have HDF := mkH hdf
          have gk : (1 : Int) < (2 : Int) := by omega
          clear hk z0 z1 z2 z3 h3k hP hPl hRd hEd hdf hR3
          by_cases hkk : (P.length : Int) = kk
          · subst hkk
            gi_wp2_with fail
            refine wpIn_wide.2 ?_
            obtain ⟨mv, hmv⟩ : ∃ mv, mv = mayC e0 P := ⟨_, rfl⟩
            rw [← hmv] at HM
            have HMV := mkH hmv
            clear hmv
            go_region_held3 (fun W => W.cell? ⟨wA.heap.size, 0, none⟩ = some (.int .i64 e0) ∧ W.cell? ⟨wA.heap.size, 1, none⟩ = some (.slice ao P.length cap) ∧ W.cell? ⟨b, off + 1, none⟩ = some (.int .i64 (P.length : Int))) (first | go_keep | exact hkeep) (first
              | (go_at_call 24; refine (HM.out _ (by (repeat (first | exact Below.refl _ _ | refine Below.drew ?_ | refine Gf.below_drewN ?_ _)))).mono ?_; rintro z w7 ⟨rfl, hb7⟩; have hkeep : w7.cell? ⟨wA.heap.size, 0, none⟩ = some (.int .i64 e0) ∧ w7.cell? ⟨wA.heap.size, 1, none⟩ = some (.slice ao P.length cap) ∧ w7.cell? ⟨b, off + 1, none⟩ = some (.int .i64 (P.length : Int)) := ⟨(hb7.cell (World.block_lt_of_cell? _ _ (by simpa using c0))).trans (by simpa using c0), (hb7.cell (World.block_lt_of_cell? _ _ (by simpa using c1))).trans (by simpa using c1), (hb7.cell (World.block_lt_of_cell? _ _ (by simpa using n1))).trans (by simpa using n1)⟩))
            all_goals
              have hb8 : Below Wd.heap.size Wd w7 := ((Below.refl _ Wd).drew).trans (by simpa using hb7)
              have HR7 := mkH (HRd.out.bel hb8)
              have HE7 := mkH (HEd.out.bel hb8)
              have HX7 := mkH (HX1.out.bel hb8)
              have HO7 := mkH (HOP.out.below hb8)
              have HB7 := mkH (HB3.out.trans (hb8.mono HB3.out.size))
              have HD7 : Hid (w7.heap[D]? = some (.deferred (some []))) := mkH ((hb8.block D (Gf.block_lt HDF.out)).trans HDF.out)
              have hDn : D ≠ w.heap.size ∧ D ≠ w.heap.size + 1 := by have := HZ0.out; omega
              have hww : w.heap.size ≤ W0.heap.size := by have := HZ0.out; omega
              clear hb7 hb8 hkeep c0 c1 n1
              obtain ⟨c0, c1, -, -⟩ := two_load (P := Try.prog) HX7.out
              obtain ⟨x0, x1, x2, x3⟩ := two_load (P := Try.prog) HR7.out
              have x4 : w7.cell? ⟨w.heap.size + 1, 0, none⟩ = some (.int .i64 0) := HE7.out.cell 0 _ rfl
              have x5 := HE7.out.frozen 0
              cases mv with
              | false =>
                obtain ⟨f1, f2, f3, f4⟩ := fin_set HR7.out HE7.out HB7.out (.int .i64 0) (.slice none 0 0) (.int .i64 5)
                have hd9 := (f4.heap (Gf.block_lt HD7.out) (fun hq => by rcases hq with h | h; exact hDn.1 h; exact hDn.2 h)).trans HD7.out
                obtain ⟨g1, g2, g3, -⟩ := (LG_own w (.int .i64 0) (.slice none 0 0) (.int .i64 5) none 0 0 [] W0.heap.size hww).putObj (s := ()) (.deferred none) ⟨f1, f2, f3, World.ownsRow_nil _ _ _ _⟩ hD hd9 rfl
                obtain ⟨y0, y1, -, -⟩ := two_load (P := Try.prog) g1
                have y2 := g2.cell 0 _ rfl
                have HF3 := mkH g3
                have HD9 := mkH hd9
                have HBAD : Hid (¬ ∃ e ps, Ld.Good bs e ps) := mkH (Ld.bad_eq hl HNM.out (.inr (by rw [← HPE.out]; exact HMV.out.symm)))
                clear f1 f2 f3 f4 g1 g2 g3 hd9
                go_wp2
                gi_wp2
                refine ⟨by simp, .inl ⟨_, _, rfl, run_takeDeferred HD9.out, ?_⟩⟩
                exact ⟨.tuple #[.agg #[.int .i64 0, .slice none 0 0], .int .i64 5], res_cc rfl _ _ _ (b := ⟨w.heap.size, 0, none⟩) (c := ⟨w.heap.size + 1, 0, none⟩) (x := .agg #[.int .i64 0, .slice none 0 0]) (y := .int .i64 5) (by rfl) (by rfl) (by simp [loadVar, go_sem, y0, y1]) (by simp [loadVar, go_sem, y2]), HF3.out, .inr ⟨HBAD.out, rfl⟩⟩
              | true =>
                obtain ⟨f1, f2, f3, f4⟩ := fin_set HR7.out HE7.out HB7.out (.int .i64 e0) (.slice ao P.length cap) (.int .i64 0)
                have hd9 := (f4.heap (Gf.block_lt HD7.out) (fun hq => by rcases hq with h | h; exact hDn.1 h; exact hDn.2 h)).trans HD7.out
                have ho9 := own_fr HO7.out.o f4 (fun k hk hq => by rcases hq with h | h; exact own_ne HO7.out.o HR7.out hk (by decide) h; exact own_ne HO7.out.o HE7.out hk (by decide) h)
                obtain ⟨g1, g2, g3, g4⟩ := (LG_own w (.int .i64 e0) (.slice ao P.length cap) (.int .i64 0) ao P.length cap (Fp P) W0.heap.size hww).putObj (s := ()) (.deferred none) ⟨f1, f2, f3, ho9⟩ hD hd9 rfl
                obtain ⟨y0, y1, -, -⟩ := two_load (P := Try.prog) g1
                have y2 := g2.cell 0 _ rfl
                have HF3 := mkH g3
                have HF4 := mkH (OwP.mk g4).rd
                have HD9 := mkH hd9
                have HG : Hid (Ld.Good bs e0 P) := mkH (by
                  have := Ld.good_of (e := e0) (R := R) (by rw [← HPE.out]; exact HNM.out) HR3.out (by rw [← HPE.out]; exact HMV.out.symm)
                  rwa [← HPE.out] at this)
                clear f1 f2 f3 f4 g1 g2 g3 g4 ho9 hd9
                go_wp2
                gi_wp2
                refine ⟨by simp, .inl ⟨_, _, rfl, run_takeDeferred HD9.out, ?_⟩⟩
                exact ⟨.tuple #[.agg #[.int .i64 e0, .slice ao P.length cap], .int .i64 0], res_cc rfl _ _ _ (b := ⟨w.heap.size, 0, none⟩) (c := ⟨w.heap.size + 1, 0, none⟩) (x := .agg #[.int .i64 e0, .slice ao P.length cap]) (y := .int .i64 0) (by rfl) (by rfl) (by simp [loadVar, go_sem, y0, y1]) (by simp [loadVar, go_sem, y2]), HF3.out, .inl ⟨e0, P, ao, cap, HG.out, hP1, rfl, HF4.out⟩⟩
          · have hne : ((P.length : Int) != kk) = true := by simpa using hkk
            gi_wp2_with fail
            refine wpIn_wide.2 ?_
            go_quiet (fail)
            obtain ⟨w7, hw7⟩ : ∃ w7, w7 = Wd.drewN nq := ⟨_, rfl⟩
            rw [← hw7]
            have hb8 : Below Wd.heap.size Wd w7 := by rw [hw7]; exact below_drewN (Below.refl _ _) _
            have HR7 := mkH (HRd.out.bel hb8)
            have HE7 := mkH (HEd.out.bel hb8)
            have HB7 := mkH (HB3.out.trans (hb8.mono HB3.out.size))
            have HD7 : Hid (w7.heap[D]? = some (.deferred (some []))) := mkH ((hb8.block D (Gf.block_lt HDF.out)).trans HDF.out)
            have hDn : D ≠ w.heap.size ∧ D ≠ w.heap.size + 1 := by have := HZ0.out; omega
            have hww : w.heap.size ≤ W0.heap.size := by have := HZ0.out; omega
            have HBAD : Hid (¬ ∃ e ps, Ld.Good bs e ps) := mkH (Ld.bad_eq hl HNM.out (.inl (by rw [← HPE.out]; exact fun h => hkk h.symm)))
            clear hb8 c0 c1 n1 hw7 hkk
            obtain ⟨x0, x1, x2, x3⟩ := two_load (P := Try.prog) HR7.out
            have x4 : w7.cell? ⟨w.heap.size + 1, 0, none⟩ = some (.int .i64 0) := HE7.out.cell 0 _ rfl
            have x5 := HE7.out.frozen 0
            obtain ⟨f1, f2, f3, f4⟩ := fin_set HR7.out HE7.out HB7.out (.int .i64 0) (.slice none 0 0) (.int .i64 5)
            have hd9 := (f4.heap (Gf.block_lt HD7.out) (fun hq => by rcases hq with h | h; exact hDn.1 h; exact hDn.2 h)).trans HD7.out
            obtain ⟨g1, g2, g3, -⟩ := (LG_own w (.int .i64 0) (.slice none 0 0) (.int .i64 5) none 0 0 [] W0.heap.size hww).putObj (s := ()) (.deferred none) ⟨f1, f2, f3, World.ownsRow_nil _ _ _ _⟩ hD hd9 rfl
            obtain ⟨y0, y1, -, -⟩ := two_load (P := Try.prog) g1
            have y2 := g2.cell 0 _ rfl
            have HF3 := mkH g3
            have HD9 := mkH hd9
            clear f1 f2 f3 f4 g1 g2 g3 hd9
            go_wp2
            gi_wp2
            refine ⟨by simp, .inl ⟨_, _, rfl, run_takeDeferred HD9.out, ?_⟩⟩
            exact ⟨.tuple #[.agg #[.int .i64 0, .slice none 0 0], .int .i64 5], res_cc rfl _ _ _ (b := ⟨w.heap.size, 0, none⟩) (c := ⟨w.heap.size + 1, 0, none⟩) (x := .agg #[.int .i64 0, .slice none 0 0]) (y := .int .i64 5) (by rfl) (by rfl) (by simp [loadVar, go_sem, y0, y1]) (by simp [loadVar, go_sem, y2]), HF3.out, .inr ⟨HBAD.out, rfl⟩⟩
        case stop =>
          rintro D m k W' hD hm hk g1 hdf
          have HDF := mkH hdf
          have hg := (LZ_own w 2 W0.heap.size m (by have := HZ0.out; omega)).putObj (.deferred none) g1 hD hdf rfl
          obtain ⟨f1, f2, f3, f4⟩ := hg
          have HBAD : Hid (¬ ∃ e ps, Ld.Good bs e ps) := mkH (Ld.bad_len hl HN.out (.inr (by rw [← HNL.out]; exact f4)))
          obtain ⟨y0, y1, -, -⟩ := two_load (P := Try.prog) f1
          have y2 : (W'.putObj D (.deferred none)).cell? ⟨w.heap.size + 1, 0, none⟩ = some (.int .i64 5) := f2.cell 0 _ rfl
          have HF3 := mkH f3
          clear f1 f2 f3 f4 g1 hdf
          gi_wp2
          refine ⟨by simp, .inl ⟨_, _, rfl, run_takeDeferred HDF.out, ?_⟩⟩
          exact ⟨.tuple #[.agg #[.int .i64 0, .slice none 0 0], .int .i64 5], res_cc rfl _ _ _ (b := ⟨w.heap.size, 0, none⟩) (c := ⟨w.heap.size + 1, 0, none⟩) (x := .agg #[.int .i64 0, .slice none 0 0]) (y := .int .i64 5) (by rfl) (by rfl) (by simp [loadVar, go_sem, y0, y1]) (by simp [loadVar, go_sem, y2]), HF3.out, .inr ⟨HBAD.out, rfl⟩⟩
      · obtain ⟨W0, hW0⟩ : ∃ W0, W0 = (WC.alloc (.cells #[.slice (some ⟨b, off + 2, none⟩) (N - 2) (cN - 2)] 66)).alloc (.cells #[.int .i64 3] 3) := ⟨_, rfl⟩
        have hb0' : Below WC.heap.size WC W0 := by rw [hW0]; exact ((Below.refl _ WC).alloc (Nat.le_refl _) _).alloc (by simp) _
        have hz0 : W0.heap.size = wA.heap.size + 3 := by rw [hW0]; simp; omega
        have hs0 : Bx W0 (wA.heap.size + 1) #[.slice (some ⟨b, off + 2, none⟩) (N - 2) (cN - 2)] 66 := by rw [hW0, ← hzC]; exact (Bx.new WC _ _).alloc _
        have hn0 : Bx W0 (wA.heap.size + 2) #[.int .i64 3] 3 := by
          have hh : WC.heap.size + 1 = wA.heap.size + 2 := by omega
          rw [hW0, ← hh]; exact Bx.new1 WC _ _ _
        have hx0 := hxC.bel hb0'
        have hbel0 : Below wA.heap.size wA W0 := hbC.trans (hb0'.mono (by omega))
        have hseq := chunk_seq 11 (by omega) (fun q => q = wA.heap.size ∨ q = w.heap.size ∨ q = w.heap.size + 1) (wA.heap.size + 1) (wA.heap.size + 2) (b := b) (off := off + 2) (m := N - 2) hs0 hn0 (by omega) (by omega) (by omega) (by omega) (by omega) (fun _ => rfl)
        have HX0 := mkH hx0
        have HBL := mkH hbel0
        have HZ0 := mkH hz0
        have HWC := mkH hWC
        have HW0 := mkH hW0
        have hzz : WC.heap.size = wA.heap.size + 1 := hzC
        clear hs0 hn0 hx0 hbel0 hz0 hbC hxC hb0' hWC hW0
        gi_wp2_with fail
        rw [show wA.alloc (.cells #[.int .i64 e0, .slice none 0 0] 24) = WC from HWC.out.symm]
        refine ⟨trivial, (callsIn_wide.2 (chunk_any _ _ _ _)).mono ?_⟩
        rintro e w1 ⟨rfl, rfl⟩
        rw [hzC]
        gi_wp2_with fail
        rw [show (WC.alloc (.cells #[.slice (some ⟨b, off + 2, none⟩) (N - 2) (cN - 2)] 66)).alloc (.cells #[.int .i64 3] 3) = W0 from HW0.out.symm]
        clear hzC
        refine rfZ (by omega) (gf := 58) (lb := #[.pointer (some ⟨wA.heap.size + 1, 0, none⟩), .pointer (some ⟨wA.heap.size + 2, 0, none⟩)]) rfl (enters_of Try.func58 (by kernel_rfl) rfl) hseq (Below.refl _ _) (fun q hq => by have := HZ0.out; omega) (fun _ => rfl)
          (LI wA.heap.size N e0 R wA) (LZ w N) (fun m => LI_own _ _ _ _ _ _ m (by have := HZ0.out; omega)) (fun m => LZ_own _ _ _ m (by have := HZ0.out; omega))
          (fun m hm => ⟨none, 0, by omega, HX0.out, World.ownsRow_nil _ _ _ _, HBL.out⟩)
          (fun x a' W => a' = { tmps := #[.string (S bs), undef, .pointer (some ⟨w.heap.size, 0, none⟩), .pointer (some ⟨w.heap.size + 1, 0, none⟩), .slice (some ⟨b, off, none⟩) N cN, .bool true, .pointer (some ⟨wA.heap.size, 0, none⟩), (.slice (some ⟨b, off + 2 + 3 * x, none⟩) (min 3 (N - 2 - 3 * x)) (min 3 (N - 2 - 3 * x))), .tuple #[.slice (some ⟨b, off, none⟩) N cN, .bool true], .string (S bs), .tuple #[.slice (some ⟨b, off, none⟩) N cN, .bool true], .slice (some ⟨b, off, none⟩) N cN, .bool true, .bool true, .bool false, .bool false, .slice (some ⟨b, off, none⟩) N cN, .int .i64 (N : Int), .bool (decide ((N : Int) < 2)), .bool (decide ((N : Int) < 2)), undef, .slice (some ⟨b, off, none⟩) N cN, .pointer (some ⟨b, off, none⟩), .int .i64 e0, .agg #[.int .i64 e0, .slice none 0 0], .slice (some ⟨b, off, none⟩) N cN, .slice (some ⟨b, off + 2, none⟩) (N - 2) (cN - 2), .func (.func 58) #[] #[.pointer (some ⟨wA.heap.size + 1, 0, none⟩), .pointer (some ⟨wA.heap.size + 1 + 1, 0, none⟩)], (.slice (some ⟨b, off + 2 + 3 * x, none⟩) (min 3 (N - 2 - 3 * x)) (min 3 (N - 2 - 3 * x))), undef, undef, undef, undef, undef, undef, undef, undef, undef, undef, undef, undef, undef, undef, undef, undef, undef, undef, undef, undef, undef, undef, undef, undef, undef, undef, undef, undef, undef, undef, undef, undef, undef, undef], defers := [] })
          (fun x a' => ?hA) ?assign ?body ?done ?stop
        case hA =>
          rintro - W W' row e hg hr
          exact e
        case assign =>
          rintro l' x W' K hK
          have HK := mkH hK
          clear hK
          simp only [arC]
          gi_wp2
          exact HK.out _ _ (Below.refl _ _) rfl
        case body =>
          rintro l' m k x a' Wb hl1 hm hmW ⟨ao, cap, z0, z1, z2, z3⟩ rfl hx
          obtain ⟨hk, rfl⟩ : k < (N - 2 + 2) / 3 ∧ x = k := by
            have h1 := (List.getElem?_eq_some_iff.1 hx).1
            rw [List.length_range] at h1
            rw [List.getElem?_range h1] at hx
            exact ⟨h1, (Option.some.inj hx).symm⟩
          clear hx
          by_cases h3 : N - 2 < 3 * x + 3
          · obtain ⟨q, hq⟩ : ∃ q, q = min 3 (N - 2 - 3 * x) := ⟨_, rfl⟩
            rw [← hq]
            have hq3 : (q : Int) < 3 := by omega
            have hmod : (N - 2) % 3 ≠ 0 := by omega
            have hRb := HRA.out.below z3 (by omega)
            have hEb := HEA.out.below z3 (by omega)
            obtain ⟨f1, f2, f3, f4⟩ := fin_set hRb hEb (HBA.out.trans (z3.mono (by omega))) (.int .i64 0) (.slice none 0 0) (.int .i64 5)
            obtain ⟨x0, x1, x2, x3⟩ := two_load (P := Try.prog) hRb
            have x4 : Wb.cell? ⟨w.heap.size + 1, 0, none⟩ = some (.int .i64 0) := hEb.cell 0 _ rfl
            have x5 := hEb.frozen 0
            have HE := mkH (And.intro (Fm.ofFr (m := m) (f4.mono (G := fun q => q = wA.heap.size ∨ q = w.heap.size ∨ q = w.heap.size + 1) (fun q hq => .inr hq))) (show LZ w N m (x + 1) _ from ⟨f1, f2, f3, hmod⟩))
            clear f1 f2 f3 f4 hRb hEb hq h3 hmod z0 z1 z2 z3
            gi_wp2
            exact HE.out
          · have hq : min 3 (N - 2 - 3 * x) = 3 := by omega
            rw [hq]
            obtain ⟨a0, hq0⟩ : ∃ a0, R[3 * x]? = some a0 := ⟨_, List.getElem?_eq_getElem (by omega)⟩
            obtain ⟨a1, hq1⟩ : ∃ a1, R[3 * x + 1]? = some a1 := ⟨_, List.getElem?_eq_getElem (by omega)⟩
            obtain ⟨a2, hq2⟩ : ∃ a2, R[3 * x + 2]? = some a2 := ⟨_, List.getElem?_eq_getElem (by omega)⟩
            have hP := Ld.pcs_snoc x R a0 a1 a2 hq0 hq1 hq2
            obtain ⟨P0, hP0⟩ : ∃ P0, P0 = Ld.pcs (R.take (3 * x)) := ⟨_, rfl⟩
            rw [← hP0] at hP z2
            have HP := mkH hP
            have d0 : L.getD (2 + 3 * x) 0 = a0 := by rw [HLR.out, show 2 + 3 * x = 3 * x + 1 + 1 by omega]; simp [List.getD, hq0]
            have d1 : L.getD (2 + 3 * x + 1) 0 = a1 := by rw [HLR.out, show 2 + 3 * x + 1 = 3 * x + 1 + 1 + 1 by omega]; simp [List.getD, hq1]
            have d2 : L.getD (2 + 3 * x + 2) 0 = a2 := by rw [HLR.out, show 2 + 3 * x + 2 = 3 * x + 2 + 1 + 1 by omega]; simp [List.getD, hq2]
            have HCC : Hid (∀ W, Below wA.heap.size wA W → W.cell? ⟨b, off + 2 + 3 * x, none⟩ = some (.int .i64 a0) ∧ W.cell? ⟨b, off + 2 + 3 * x + 1, none⟩ = some (.int .i64 a1) ∧ W.cell? ⟨b, off + 2 + 3 * x + 2, none⟩ = some (.int .i64 a2)) := mkH (fun W hb => by
              have cc := fun i (hi : i < L.length) => (hb.cell (p := ⟨b, off + i, none⟩) hblt).trans (HCL.out i hi)
              have v0 := cc (2 + 3 * x) (by have := HNL.out; omega)
              have v1 := cc (2 + 3 * x + 1) (by have := HNL.out; omega)
              have v2 := cc (2 + 3 * x + 2) (by have := HNL.out; omega)
              rw [d0] at v0
              rw [d1] at v1
              rw [d2] at v2
              exact ⟨by rw [Nat.add_assoc]; exact v0, by rw [Nat.add_assoc, Nat.add_assoc]; exact v1, by rw [Nat.add_assoc, Nat.add_assoc]; exact v2⟩)
            have hx1000 : x ≤ 1000 := by omega
            obtain ⟨o3, ho3⟩ : ∃ o3, o3 = off + 2 + 3 * x := ⟨_, rfl⟩
            rw [← ho3] at HCC ⊢
            have HZ1 := mkH z1
            have HZ2 := mkH z2
            have HZ3 := mkH z3
            have HOK3 := mkH h3
            have HK := mkH hk
            clear hq hq0 hq1 hq2 hP hP0 d0 d1 d2 ho3 z0 z1 z2 z3 h3 hk
            obtain ⟨v0, v1, v2⟩ := HCC.out Wb HZ3.out
            obtain ⟨c0, c1, -, c3⟩ := two_load (P := Try.prog) HZ1.out
            have hcm : wA.heap.size < m := by have := HZ0.out; omega
            obtain ⟨V1, hV1⟩ : ∃ V1, V1 = Wb.drew := ⟨_, rfl⟩
            have hVs : V1.heap.size = Wb.heap.size := by rw [hV1]; simp
            have hbV : Below Wb.heap.size Wb V1 := by rw [hV1]; exact (Below.refl _ Wb).drew
            have hal : Below Wb.heap.size Wb (V1.alloc (.cells #[.int .i64 a0, .int .i64 a1, .int .i64 a2] 63)) := hbV.trans ((Below.refl _ V1).alloc (by omega) _)
            have HSR := mkH (newP V1 (a0, a1, a2) 63)
            have HLA := mkH (own_below HZ2.out hal)
            have HVS : Hid (m ≤ V1.heap.size) := mkH (by omega)
            have HQA := mkH (And.intro ((HZ1.out.bel hal).cell 1 _ rfl) (HCC.out _ (HZ3.out.trans (hal.mono HZ3.out.size))))
            have HAP : Hid (∀ v8 w8, w8.ownsRow m 63 3 v8 (x + 1) (Fp P0 ++ Fp [(a0, a1, a2)]) → (V1.alloc (.cells #[.int .i64 a0, .int .i64 a1, .int .i64 a2] 63)).grownBy w8 (Value.slice ao x cap).ownBlock → ∃ a2' c2, v8 = .slice a2' (x + 1) c2 ∧ Bx w8 wA.heap.size #[.int .i64 e0, .slice ao x cap] 24 ∧ Fm m (fun k => k = wA.heap.size) Wb (w8.setCell ⟨wA.heap.size, 1, none⟩ v8) ∧ Bx (w8.setCell ⟨wA.heap.size, 1, none⟩ v8) wA.heap.size #[.int .i64 e0, v8] 24 ∧ (w8.setCell ⟨wA.heap.size, 1, none⟩ v8).ownsRow m 63 3 v8 (x + 1) (Fp P0 ++ Fp [(a0, a1, a2)]) ∧ Below wA.heap.size wA (w8.setCell ⟨wA.heap.size, 1, none⟩ v8)) := mkH (by
              intro v8 w8 h1 h2
              subst hV1
              exact app_step HZ2.out HZ1.out hcm hmW h1 h2 HZ3.out)
            have HQ8 : Hid (∀ w8, Bx w8 wA.heap.size #[.int .i64 e0, .slice ao x cap] 24 → (V1.alloc (.cells #[.int .i64 a0, .int .i64 a1, .int .i64 a2] 63)).grownBy w8 (Value.slice ao x cap).ownBlock → w8.cell? ⟨wA.heap.size, 1, none⟩ = some (.slice ao x cap) ∧ w8.cell? ⟨b, o3, none⟩ = some (.int .i64 a0) ∧ w8.cell? ⟨b, o3 + 1, none⟩ = some (.int .i64 a1) ∧ w8.cell? ⟨b, o3 + 2, none⟩ = some (.int .i64 a2)) := mkH (by
              intro w8 h1 h2
              refine ⟨h1.cell 1 _ rfl, HCC.out w8 ?_⟩
              exact HZ3.out.trans (((hal.mono HZ3.out.size)).grown h2 (by have := hal.size; omega) (fun j hj => by have := own_blk HZ2.out j hj; omega)))
            rw [hV1] at HSR HLA HVS HQA HAP HQ8
            have HPP : Hid (Fp P0 ++ Fp [(a0, a1, a2)] = Fp (Ld.pcs (R.take (3 * (x + 1))))) := mkH (by rw [HP.out]; show _ = Fl pC (P0 ++ [(a0, a1, a2)]); rw [Fl_append])
            have hp1 : (0 : Int) < 3 := by decide
            have hp2 : (1 : Int) < 3 := by decide
            have hp3 : (2 : Int) < 3 := by decide
            clear hV1 hVs hbV hal
            gi_wp2_with fail
            refine Rr.round_G l' hmx (by kernel_rfl) (by rintro ⟨a9, w9, h9⟩; exact h9) 16 (fun W => W.cell? ⟨wA.heap.size, 1, none⟩ = some (.slice ao x cap) ∧ W.cell? ⟨b, o3, none⟩ = some (.int .i64 a0) ∧ W.cell? ⟨b, o3 + 1, none⟩ = some (.int .i64 a1) ∧ W.cell? ⟨b, o3 + 2, none⟩ = some (.int .i64 a2)) ⟨by simpa using c1, by simpa using v0, by simpa using v1, by simpa using v2⟩ (fun hHeld => ?_)
            generalize Wb.drew = V0 at *
            refine Rg.anyG_pure (i := 0) (oi := { dst := some 33, op := _, type := _, pos := _, after := _, guard := _ }) (v := ?_) rfl (by kernel_rfl) (by kernel_rfl) (by kernel_rfl) (by rfl) (fun _ _ _ h => h) (Or.inl ⟨by rfl, ?_⟩) (fun _ => by assumption) ?_
            rotate_left
            · (intro W hSw; (try dsimp only at hSw); go_simp; try (with_reducible rfl))
            try simp only [Act.put, List.setIfInBounds_toArray, List.set_cons_zero, List.set_cons_succ]
            refine Rg.anyG_take (i := 1) (oi := { dst := some 34, op := _, type := _, pos := _, after := _, guard := _ }) (v := ?_) rfl (by kernel_rfl) (by kernel_rfl) (by kernel_rfl) [16] (by kernel_rfl) (fun _ _ _ h => h) (Or.inl ⟨by rfl, ?_⟩) (by assumption) ?_
            rotate_left
            · (intro W hSw; (try dsimp only at hSw); go_simp; try (with_reducible rfl))
            try simp only [Act.put, List.setIfInBounds_toArray, List.set_cons_zero, List.set_cons_succ]
            refine Rg.anyG_pure (i := 2) (oi := { dst := some 35, op := _, type := _, pos := _, after := _, guard := _ }) (v := ?_) rfl (by kernel_rfl) (by kernel_rfl) (by kernel_rfl) (by rfl) (fun _ _ _ h => h) (Or.inl ⟨by rfl, ?_⟩) (fun _ => by assumption) ?_
            rotate_left
            · (intro W hSw; (try dsimp only at hSw); go_simp; try (with_reducible rfl))
            try simp only [Act.put, List.setIfInBounds_toArray, List.set_cons_zero, List.set_cons_succ]
            refine Rg.anyG_pure (i := 3) (oi := { dst := some 36, op := _, type := _, pos := _, after := _, guard := _ }) (v := ?_) rfl (by kernel_rfl) (by kernel_rfl) (by kernel_rfl) (by rfl) (fun _ _ _ h => h) (Or.inl ⟨by rfl, ?_⟩) (fun _ => by assumption) ?_
            rotate_left
            · (intro W hSw; (try dsimp only at hSw); go_simp; try (with_reducible rfl))
            try simp only [Act.put, List.setIfInBounds_toArray, List.set_cons_zero, List.set_cons_succ]
            refine Rg.anyG_take (i := 4) (oi := { dst := some 37, op := _, type := _, pos := _, after := _, guard := _ }) (v := ?_) rfl (by kernel_rfl) (by kernel_rfl) (by kernel_rfl) [16] (by kernel_rfl) (fun _ _ _ h => h) (Or.inl ⟨by rfl, ?_⟩) (by assumption) ?_
            rotate_left
            · (intro W hSw; (try dsimp only at hSw); go_simp; try (with_reducible rfl))
            try simp only [Act.put, List.setIfInBounds_toArray, List.set_cons_zero, List.set_cons_succ]
            refine Rg.anyG_pure (i := 5) (oi := { dst := some 38, op := _, type := _, pos := _, after := _, guard := _ }) (v := ?_) rfl (by kernel_rfl) (by kernel_rfl) (by kernel_rfl) (by rfl) (fun _ _ _ h => h) (Or.inl ⟨by rfl, ?_⟩) (fun _ => by assumption) ?_
            rotate_left
            · (intro W hSw; (try dsimp only at hSw); go_simp; try (with_reducible rfl))
            try simp only [Act.put, List.setIfInBounds_toArray, List.set_cons_zero, List.set_cons_succ]
            refine Rg.anyG_pure (i := 6) (oi := { dst := some 39, op := _, type := _, pos := _, after := _, guard := _ }) (v := ?_) rfl (by kernel_rfl) (by kernel_rfl) (by kernel_rfl) (by rfl) (fun _ _ _ h => h) (Or.inl ⟨by rfl, ?_⟩) (fun _ => by assumption) ?_
            rotate_left
            · (intro W hSw; (try dsimp only at hSw); go_simp; try (with_reducible rfl))
            try simp only [Act.put, List.setIfInBounds_toArray, List.set_cons_zero, List.set_cons_succ]
            refine Rg.anyG_take (i := 7) (oi := { dst := some 40, op := _, type := _, pos := _, after := _, guard := _ }) (v := ?_) rfl (by kernel_rfl) (by kernel_rfl) (by kernel_rfl) [16] (by kernel_rfl) (fun _ _ _ h => h) (Or.inl ⟨by rfl, ?_⟩) (by assumption) ?_
            rotate_left
            · (intro W hSw; (try dsimp only at hSw); go_simp; try (with_reducible rfl))
            try simp only [Act.put, List.setIfInBounds_toArray, List.set_cons_zero, List.set_cons_succ]
            refine Rg.anyG_pure (i := 8) (oi := { dst := some 41, op := _, type := _, pos := _, after := _, guard := _ }) (v := .agg #[.int .i64 a0, .int .i64 a1]) rfl (by kernel_rfl) (by kernel_rfl) (by kernel_rfl) (by rfl) (fun _ _ _ h => h) (Or.inl ⟨by rfl, ?_⟩) (fun _ => by assumption) ?_
            · (intro W hSw; (try dsimp only at hSw); go_simp; try (with_reducible rfl))
            try simp only [Act.put, List.setIfInBounds_toArray, List.set_cons_zero, List.set_cons_succ]
            refine Rg.anyG_pure (i := 9) (oi := { dst := some 42, op := _, type := _, pos := _, after := _, guard := _ }) (v := ?_) rfl (by kernel_rfl) (by kernel_rfl) (by kernel_rfl) (by rfl) (fun _ _ _ h => h) (Or.inl ⟨by rfl, ?_⟩) (fun _ => by assumption) ?_
            rotate_left
            · (intro W hSw; (try dsimp only at hSw); go_simp; try (with_reducible rfl))
            try simp only [Act.put, List.setIfInBounds_toArray, List.set_cons_zero, List.set_cons_succ]
            refine Rg.anyG_pure (i := 10) (oi := { dst := some 43, op := _, type := _, pos := _, after := _, guard := _ }) (v := ?_) rfl (by kernel_rfl) (by kernel_rfl) (by kernel_rfl) (by rfl) (fun _ _ _ h => h) (Or.inl ⟨by rfl, ?_⟩) (fun _ => by assumption) ?_
            rotate_left
            · (intro W hSw; (try dsimp only at hSw); go_simp; try (with_reducible rfl))
            try simp only [Act.put, List.setIfInBounds_toArray, List.set_cons_zero, List.set_cons_succ]
            refine Rg.anyG_take (i := 11) (oi := { dst := some 44, op := _, type := _, pos := _, after := _, guard := _ }) (v := ?_) rfl (by kernel_rfl) (by kernel_rfl) (by kernel_rfl) [16] (by kernel_rfl) (fun _ _ _ h => h) (Or.inl ⟨by rfl, ?_⟩) (by assumption) ?_
            rotate_left
            · (intro W hSw; (try dsimp only at hSw); go_simp; try (with_reducible rfl))
            try simp only [Act.put, List.setIfInBounds_toArray, List.set_cons_zero, List.set_cons_succ]
            refine Rg.anyG_pure (i := 12) (oi := { dst := some 45, op := _, type := _, pos := _, after := _, guard := _ }) (v := .agg #[.int .i64 a0, .int .i64 a1, .int .i64 a2]) rfl (by kernel_rfl) (by kernel_rfl) (by kernel_rfl) (by rfl) (fun _ _ _ h => h) (Or.inl ⟨by rfl, ?_⟩) (fun _ => by assumption) ?_
            · (intro W hSw; (try dsimp only at hSw); go_simp; try (with_reducible rfl))
            try simp only [Act.put, List.setIfInBounds_toArray, List.set_cons_zero, List.set_cons_succ]
            refine Rg.anyG_ready (rs := [13]) (by kernel_rfl) (by simp) ?_
            refine (Rg.AllG.cons (o := { dst := some 46, op := _, type := _, pos := _, after := _, guard := _ }) rfl (fun K hK => ?_) Rg.AllG.nil)
            obtain ⟨q0, q1, q2, q3⟩ := HQA.out
            go_simp
            refine hK.out _ _ ?_ (fun hHeld => ?_)
            · exact ⟨q0, q1, q2, q3⟩
            clear hK K
            try simp only [Act.put, List.setIfInBounds_toArray, List.set_cons_zero, List.set_cons_succ]
            clear q0 q1 q2 q3
            refine Rg.anyG_ready (rs := [14]) (by kernel_rfl) (by simp) ?_
            refine (Rg.AllG.cons (o := { dst := some 47, op := _, type := _, pos := _, after := _, guard := _ }) rfl (fun K hK => ?_) Rg.AllG.nil)
            refine step_append_own_src (by rfl) (.tmp 34) (.tmp 46) 22 22 (by rfl) m 63 (.agg #[.int .i64 0, .int .i64 0, .int .i64 0]) 3 24 Try.underlying22 infoP (by rfl) (by decide) (.slice ao x cap) x (Fp P0) (by rfl) (by exact HLA.out) (.slice (some ⟨V0.heap.size, 0, none⟩) 1 1) 1 (Fp [(a0, a1, a2)]) (by rfl) (by exact HSR.out) (by unfold maxLen; omega) (by omega) (by have := HVS.out; simp; omega) ?_
            intro v8 w8 hown8 hgr8
            obtain ⟨a8, k8, rfl, e1, e2, e3, e4, e5⟩ := HAP.out v8 w8 hown8 hgr8
            obtain ⟨u0, u1, u2, u3⟩ := two_load (P := Try.prog) e1
            obtain ⟨q0, q1, q2, q3⟩ := HQ8.out w8 e1 hgr8
            refine hK.out _ _ ?_ (fun hHeld => ?_)
            · exact ⟨q0, q1, q2, q3⟩
            clear hK K
            try simp only [Act.put, List.setIfInBounds_toArray, List.set_cons_zero, List.set_cons_succ]
            clear q0 q1 q2 q3
            refine Rg.anyG_pure (i := 15) (oi := { dst := some 48, op := _, type := _, pos := _, after := _, guard := _ }) (v := ?_) rfl (by kernel_rfl) (by kernel_rfl) (by kernel_rfl) (by rfl) (fun _ _ _ h => h) (Or.inl ⟨by rfl, ?_⟩) (fun _ => by assumption) ?_
            rotate_left
            · (intro W hSw; (try dsimp only at hSw); go_simp; try (with_reducible rfl))
            try simp only [Act.put, List.setIfInBounds_toArray, List.set_cons_zero, List.set_cons_succ]
            refine Rg.anyG_ready (rs := [16]) (by kernel_rfl) (by simp) ?_
            refine Rg.AllG.last (o := { dst := none, op := _, type := _, pos := _, after := _, guard := _ }) rfl (by kernel_rfl) (fun K hK => ?_)
            go_simp
            refine hK.out _ _ ?_
            clear hK K
            try simp only [Act.put, List.setIfInBounds_toArray, List.set_cons_zero, List.set_cons_succ]
            refine Rg.anyG_done (by kernel_rfl) ?_ _
            gi_wp2
            exact ⟨e2.mono (fun q hq => .inl hq), a8, k8, by have := HOK3.out; omega, e3, by rw [← HPP.out]; exact e4, e5⟩
        case done =>
          rintro D m Wd hD hm ⟨ao, cap, z0, z1, z2, z3⟩ hdf
          rw [List.length_range] at z0 z1 z2
          obtain ⟨k, hk⟩ : ∃ k, k = (N - 2 + 2) / 3 := ⟨_, rfl⟩
          rw [← hk] at z0 z1 z2
          have h3k : 3 * k = R.length := by omega
          obtain ⟨P, hP⟩ : ∃ P, P = Ld.pcs R := ⟨_, rfl⟩
          have hPl : P.length = k := by rw [hP, Ld.pcs_len]; omega
          rw [h3k, List.take_length, ← hP] at z2
          have hP1 : P.length ≤ 400 := by omega
          have hR3 : R.length % 3 = 0 := by omega
          obtain rfl : k = P.length := hPl.symm
          have HOP : Hid (OwP Wd w.heap.size ao cap P) := mkH ⟨own_mono z2 (by have := HZ0.out; omega)⟩
          have HNM : Hid (Nums bs (e0 :: kk :: R)) := mkH (by rw [← HLR.out]; exact HN.out)
          have HPE := mkH hP
          have HR3 := mkH hR3
          have hRd := HRA.out.below z3 (by omega)
          have hEd := HEA.out.below z3 (by omega)
          have HM : Hid (∀ W, Below Wd.heap.size Wd W → Calls Try.prog 24 #[.agg #[.int .i64 e0, .slice ao P.length cap]] W fun x w' => x = .returned (.bool (mayC e0 P)) ∧ Below W.heap.size W w') := mkH (fun W hb => may_any W e0 ao cap P (HOP.out.rd.below hb) (by omega))
          have n1 : Wd.cell? ⟨b, off + 1, none⟩ = some (.int .i64 kk) := by
            have h1 := (z3.cell (p := ⟨b, off + 1, none⟩) hblt).trans (HCL.out 1 (by have := HNL.out; omega))
            rw [HLR.out] at h1
            exact h1
          obtain ⟨c0, c1, -, -⟩ := two_load (P := Try.prog) z1
          have HX1 := mkH z1
          have HRd := mkH hRd
          have HEd := mkH hEd
          have HB3 : Hid (Below w.heap.size w Wd) := mkH (HBA.out.trans (z3.mono (by omega)))
          have HDF := mkH hdf
          have gk : (1 : Int) < (N : Int) := by omega
          clear hk z0 z1 z2 z3 h3k hP hPl hRd hEd hdf hR3
          by_cases hkk : (P.length : Int) = kk
          · subst hkk
            gi_wp2_with fail
            refine wpIn_wide.2 ?_
            obtain ⟨mv, hmv⟩ : ∃ mv, mv = mayC e0 P := ⟨_, rfl⟩
            rw [← hmv] at HM
            have HMV := mkH hmv
            clear hmv
            go_region_held3 (fun W => W.cell? ⟨wA.heap.size, 0, none⟩ = some (.int .i64 e0) ∧ W.cell? ⟨wA.heap.size, 1, none⟩ = some (.slice ao P.length cap) ∧ W.cell? ⟨b, off + 1, none⟩ = some (.int .i64 (P.length : Int))) (first | go_keep | exact hkeep) (first
              | (go_at_call 24; refine (HM.out _ (by (repeat (first | exact Below.refl _ _ | refine Below.drew ?_ | refine Gf.below_drewN ?_ _)))).mono ?_; rintro z w7 ⟨rfl, hb7⟩; have hkeep : w7.cell? ⟨wA.heap.size, 0, none⟩ = some (.int .i64 e0) ∧ w7.cell? ⟨wA.heap.size, 1, none⟩ = some (.slice ao P.length cap) ∧ w7.cell? ⟨b, off + 1, none⟩ = some (.int .i64 (P.length : Int)) := ⟨(hb7.cell (World.block_lt_of_cell? _ _ (by simpa using c0))).trans (by simpa using c0), (hb7.cell (World.block_lt_of_cell? _ _ (by simpa using c1))).trans (by simpa using c1), (hb7.cell (World.block_lt_of_cell? _ _ (by simpa using n1))).trans (by simpa using n1)⟩))
            all_goals
              have hb8 : Below Wd.heap.size Wd w7 := ((Below.refl _ Wd).drew).trans (by simpa using hb7)
              have HR7 := mkH (HRd.out.bel hb8)
              have HE7 := mkH (HEd.out.bel hb8)
              have HX7 := mkH (HX1.out.bel hb8)
              have HO7 := mkH (HOP.out.below hb8)
              have HB7 := mkH (HB3.out.trans (hb8.mono HB3.out.size))
              have HD7 : Hid (w7.heap[D]? = some (.deferred (some []))) := mkH ((hb8.block D (Gf.block_lt HDF.out)).trans HDF.out)
              have hDn : D ≠ w.heap.size ∧ D ≠ w.heap.size + 1 := by have := HZ0.out; omega
              have hww : w.heap.size ≤ W0.heap.size := by have := HZ0.out; omega
              clear hb7 hb8 hkeep c0 c1 n1
              obtain ⟨c0, c1, -, -⟩ := two_load (P := Try.prog) HX7.out
              obtain ⟨x0, x1, x2, x3⟩ := two_load (P := Try.prog) HR7.out
              have x4 : w7.cell? ⟨w.heap.size + 1, 0, none⟩ = some (.int .i64 0) := HE7.out.cell 0 _ rfl
              have x5 := HE7.out.frozen 0
              cases mv with
              | false =>
                obtain ⟨f1, f2, f3, f4⟩ := fin_set HR7.out HE7.out HB7.out (.int .i64 0) (.slice none 0 0) (.int .i64 5)
                have hd9 := (f4.heap (Gf.block_lt HD7.out) (fun hq => by rcases hq with h | h; exact hDn.1 h; exact hDn.2 h)).trans HD7.out
                obtain ⟨g1, g2, g3, -⟩ := (LG_own w (.int .i64 0) (.slice none 0 0) (.int .i64 5) none 0 0 [] W0.heap.size hww).putObj (s := ()) (.deferred none) ⟨f1, f2, f3, World.ownsRow_nil _ _ _ _⟩ hD hd9 rfl
                obtain ⟨y0, y1, -, -⟩ := two_load (P := Try.prog) g1
                have y2 := g2.cell 0 _ rfl
                have HF3 := mkH g3
                have HD9 := mkH hd9
                have HBAD : Hid (¬ ∃ e ps, Ld.Good bs e ps) := mkH (Ld.bad_eq hl HNM.out (.inr (by rw [← HPE.out]; exact HMV.out.symm)))
                clear f1 f2 f3 f4 g1 g2 g3 hd9
                go_wp2
                gi_wp2
                refine ⟨by simp, .inl ⟨_, _, rfl, run_takeDeferred HD9.out, ?_⟩⟩
                exact ⟨.tuple #[.agg #[.int .i64 0, .slice none 0 0], .int .i64 5], res_cc rfl _ _ _ (b := ⟨w.heap.size, 0, none⟩) (c := ⟨w.heap.size + 1, 0, none⟩) (x := .agg #[.int .i64 0, .slice none 0 0]) (y := .int .i64 5) (by rfl) (by rfl) (by simp [loadVar, go_sem, y0, y1]) (by simp [loadVar, go_sem, y2]), HF3.out, .inr ⟨HBAD.out, rfl⟩⟩
              | true =>
                obtain ⟨f1, f2, f3, f4⟩ := fin_set HR7.out HE7.out HB7.out (.int .i64 e0) (.slice ao P.length cap) (.int .i64 0)
                have hd9 := (f4.heap (Gf.block_lt HD7.out) (fun hq => by rcases hq with h | h; exact hDn.1 h; exact hDn.2 h)).trans HD7.out
                have ho9 := own_fr HO7.out.o f4 (fun k hk hq => by rcases hq with h | h; exact own_ne HO7.out.o HR7.out hk (by decide) h; exact own_ne HO7.out.o HE7.out hk (by decide) h)
                obtain ⟨g1, g2, g3, g4⟩ := (LG_own w (.int .i64 e0) (.slice ao P.length cap) (.int .i64 0) ao P.length cap (Fp P) W0.heap.size hww).putObj (s := ()) (.deferred none) ⟨f1, f2, f3, ho9⟩ hD hd9 rfl
                obtain ⟨y0, y1, -, -⟩ := two_load (P := Try.prog) g1
                have y2 := g2.cell 0 _ rfl
                have HF3 := mkH g3
                have HF4 := mkH (OwP.mk g4).rd
                have HD9 := mkH hd9
                have HG : Hid (Ld.Good bs e0 P) := mkH (by
                  have := Ld.good_of (e := e0) (R := R) (by rw [← HPE.out]; exact HNM.out) HR3.out (by rw [← HPE.out]; exact HMV.out.symm)
                  rwa [← HPE.out] at this)
                clear f1 f2 f3 f4 g1 g2 g3 g4 ho9 hd9
                go_wp2
                gi_wp2
                refine ⟨by simp, .inl ⟨_, _, rfl, run_takeDeferred HD9.out, ?_⟩⟩
                exact ⟨.tuple #[.agg #[.int .i64 e0, .slice ao P.length cap], .int .i64 0], res_cc rfl _ _ _ (b := ⟨w.heap.size, 0, none⟩) (c := ⟨w.heap.size + 1, 0, none⟩) (x := .agg #[.int .i64 e0, .slice ao P.length cap]) (y := .int .i64 0) (by rfl) (by rfl) (by simp [loadVar, go_sem, y0, y1]) (by simp [loadVar, go_sem, y2]), HF3.out, .inl ⟨e0, P, ao, cap, HG.out, hP1, rfl, HF4.out⟩⟩
          · have hne : ((P.length : Int) != kk) = true := by simpa using hkk
            gi_wp2_with fail
            refine wpIn_wide.2 ?_
            go_quiet (fail)
            obtain ⟨w7, hw7⟩ : ∃ w7, w7 = Wd.drewN nq := ⟨_, rfl⟩
            rw [← hw7]
            have hb8 : Below Wd.heap.size Wd w7 := by rw [hw7]; exact below_drewN (Below.refl _ _) _
            have HR7 := mkH (HRd.out.bel hb8)
            have HE7 := mkH (HEd.out.bel hb8)
            have HB7 := mkH (HB3.out.trans (hb8.mono HB3.out.size))
            have HD7 : Hid (w7.heap[D]? = some (.deferred (some []))) := mkH ((hb8.block D (Gf.block_lt HDF.out)).trans HDF.out)
            have hDn : D ≠ w.heap.size ∧ D ≠ w.heap.size + 1 := by have := HZ0.out; omega
            have hww : w.heap.size ≤ W0.heap.size := by have := HZ0.out; omega
            have HBAD : Hid (¬ ∃ e ps, Ld.Good bs e ps) := mkH (Ld.bad_eq hl HNM.out (.inl (by rw [← HPE.out]; exact fun h => hkk h.symm)))
            clear hb8 c0 c1 n1 hw7 hkk
            obtain ⟨x0, x1, x2, x3⟩ := two_load (P := Try.prog) HR7.out
            have x4 : w7.cell? ⟨w.heap.size + 1, 0, none⟩ = some (.int .i64 0) := HE7.out.cell 0 _ rfl
            have x5 := HE7.out.frozen 0
            obtain ⟨f1, f2, f3, f4⟩ := fin_set HR7.out HE7.out HB7.out (.int .i64 0) (.slice none 0 0) (.int .i64 5)
            have hd9 := (f4.heap (Gf.block_lt HD7.out) (fun hq => by rcases hq with h | h; exact hDn.1 h; exact hDn.2 h)).trans HD7.out
            obtain ⟨g1, g2, g3, -⟩ := (LG_own w (.int .i64 0) (.slice none 0 0) (.int .i64 5) none 0 0 [] W0.heap.size hww).putObj (s := ()) (.deferred none) ⟨f1, f2, f3, World.ownsRow_nil _ _ _ _⟩ hD hd9 rfl
            obtain ⟨y0, y1, -, -⟩ := two_load (P := Try.prog) g1
            have y2 := g2.cell 0 _ rfl
            have HF3 := mkH g3
            have HD9 := mkH hd9
            clear f1 f2 f3 f4 g1 g2 g3 hd9
            go_wp2
            gi_wp2
            refine ⟨by simp, .inl ⟨_, _, rfl, run_takeDeferred HD9.out, ?_⟩⟩
            exact ⟨.tuple #[.agg #[.int .i64 0, .slice none 0 0], .int .i64 5], res_cc rfl _ _ _ (b := ⟨w.heap.size, 0, none⟩) (c := ⟨w.heap.size + 1, 0, none⟩) (x := .agg #[.int .i64 0, .slice none 0 0]) (y := .int .i64 5) (by rfl) (by rfl) (by simp [loadVar, go_sem, y0, y1]) (by simp [loadVar, go_sem, y2]), HF3.out, .inr ⟨HBAD.out, rfl⟩⟩
        case stop =>
          rintro D m k W' hD hm hk g1 hdf
          have HDF := mkH hdf
          have hg := (LZ_own w N W0.heap.size m (by have := HZ0.out; omega)).putObj (.deferred none) g1 hD hdf rfl
          obtain ⟨f1, f2, f3, f4⟩ := hg
          have HBAD : Hid (¬ ∃ e ps, Ld.Good bs e ps) := mkH (Ld.bad_len hl HN.out (.inr (by rw [← HNL.out]; exact f4)))
          obtain ⟨y0, y1, -, -⟩ := two_load (P := Try.prog) f1
          have y2 : (W'.putObj D (.deferred none)).cell? ⟨w.heap.size + 1, 0, none⟩ = some (.int .i64 5) := f2.cell 0 _ rfl
          have HF3 := mkH f3
          clear f1 f2 f3 f4 g1 hdf
          gi_wp2
          refine ⟨by simp, .inl ⟨_, _, rfl, run_takeDeferred HDF.out, ?_⟩⟩
          exact ⟨.tuple #[.agg #[.int .i64 0, .slice none 0 0], .int .i64 5], res_cc rfl _ _ _ (b := ⟨w.heap.size, 0, none⟩) (c := ⟨w.heap.size + 1, 0, none⟩) (x := .agg #[.int .i64 0, .slice none 0 0]) (y := .int .i64 5) (by rfl) (by rfl) (by simp [loadVar, go_sem, y0, y1]) (by simp [loadVar, go_sem, y2]), HF3.out, .inr ⟨HBAD.out, rfl⟩⟩
  · have HBAD := mkH (Ld.bad_none hl hno)
    clear hno
    obtain ⟨f1, f2, f3, -⟩ := fin_set HRA.out HEA.out HBA.out (.int .i64 0) (.slice none 0 0) (.int .i64 5)
    obtain ⟨x0, x1, x2, x3⟩ := two_load (P := Try.prog) HRA.out
    have x4 : wA.cell? ⟨w.heap.size + 1, 0, none⟩ = some (.int .i64 0) := HEA.out.cell 0 _ rfl
    have x5 := HEA.out.frozen 0
    obtain ⟨y0, y1, -, -⟩ := two_load (P := Try.prog) f1
    have y2 := f2.cell 0 _ rfl
    have HF3 := mkH f3
    clear f1 f2 f3
    gi_wp2
    exact ⟨.tuple #[.agg #[.int .i64 0, .slice none 0 0], .int .i64 5], res_cc rfl _ _ _ (b := ⟨w.heap.size, 0, none⟩) (c := ⟨w.heap.size + 1, 0, none⟩) (x := .agg #[.int .i64 0, .slice none 0 0]) (y := .int .i64 5) (by rfl) (by rfl) (by simp [loadVar, go_sem, y0, y1]) (by simp [loadVar, go_sem, y2]), HF3.out, .inr ⟨HBAD.out, rfl⟩⟩
end Go.Proofs.Ytcpmcfagibmboaa.Lf
