/-
  The law's all: what a bag has, as a list.
-/
import Derived.Test.YteaempemdolcjaaNtN
namespace Go.Proofs.Yteaempemdolcjaa.No
open Go.RowKit Go.Shelf Kt Gf Nr Gk Na Ni Nj Nn
set_option linter.unusedVariables false
set_option linter.unusedSimpArgs false
set_option maxRecDepth 20000

theorem eql_func {P : Program} (w : World) (t : TypeId) (ps rs : Array TypeId) (b : Bool) (f : Fn) (x y : Array Value) (h : P.underlying t = some (.func ps rs b)) : (binOp .eql t (.func f x y) .nilFunc).run P w = .ok (.bool false) w := by
  have h1 : ∀ d, (Op.equalIn (d + 1) t (.func f x y) .nilFunc).run P w = .ok false w := fun d => by simp [Op.equalIn, run_underlying h]
  have h2 : (Op.equal t (.func f x y) .nilFunc).run P w = .ok false w := h1 9999
  simp only [binOp]
  simp [h2]
theorem info_I : (Try.prog.info? 3).map (fun i => (i.zero, i.size, i.bytes)) = some (some (.int .i64 0), 1, 8) := by kernel_rfl
def Iv (l : List Int) : List Value := l.map (Value.int .i64)
theorem Iv_len (l : List Int) : (Iv l).length = l.length := by simp [Iv]
/-- The state of the law's all: the boxes tr (whether places rose) and tl (the list so far). -/
def As (tl tr : Nat) (vs : List Int) (W0 : World) (m k : Nat) (W : World) : Prop :=
  ∃ ao cap, Bx W tl #[.slice ao k cap] 28 ∧ Bx W tr #[.bool true] 4 ∧ W.ownsRow m 3 1 (.slice ao k cap) k (Iv (vs.take k)) ∧ Below tl W0 W
theorem as_own (tl tr : Nat) (vs : List Int) (W0 : World) (B m : Nat) (hB : tl < B) : OwnFrom B (As tl tr vs W0 m) := by
  rintro k W W' row ⟨ao, cap, h1, h2, h3, h4⟩ hg hr
  have hne : ∀ b, (∃ cs t, W.heap[b]? = some (.cells cs t (0, 0))) → b < W.heap.size → W'.heap[b]? = W.heap[b]? := fun b ⟨cs, t, hb⟩ hlt => hg.block b hlt (fun e => by
    obtain ⟨-, o, ho, hc⟩ := hr b e.symm
    rw [hb] at ho
    cases ho
    cases hc)
  refine ⟨ao, cap, (hne tl ⟨_, _, h1⟩ h1.lt).trans h1, (hne tr ⟨_, _, h2⟩ h2.lt).trans h2, ⟨h3.1, ?_⟩, ?_⟩
  · rcases h3.2 with e | ⟨g, c, cur, e1, e2, e3, e4⟩
    · exact .inl e
    · exact .inr ⟨g, c, cur, e1, e2, (hne g ⟨_, _, e3⟩ (block_lt e3)).trans e3, e4⟩
  · exact ⟨hg.os.trans h4.os, hg.tape.trans h4.tape, hg.output.trans h4.output, Nat.le_trans h4.size hg.size, fun k hk => (hg.block k (Nat.lt_of_lt_of_le (by omega) h1.lt) (fun e => by have := (hr k e.symm).1; omega)).trans (h4.block k hk)⟩

set_option maxHeartbeats 1000000 in
theorem all33 {tl tr : Nat} {vs : List Int} {W0 : World} {m k : Nat} {W : World} (h : As tl tr vs W0 m k W) (hlr : tl < tr) (hrm : tr < m) (hmW : m ≤ W.heap.size) (h0 : W0.heap.size ≤ W.heap.size) (ht0 : tl ≤ W0.heap.size) {x : Int} (hx : vs[k]? = some x) (hl : vs.length ≤ 1000000) :
    Calls Try.prog 33 #[.int .i64 (k : Int), .int .i64 x, .pointer (some ⟨tr, 0, none⟩), .pointer (some ⟨tl, 0, none⟩)] W fun e W' => e = .returned (.bool true) ∧ As tl tr vs W0 m (k + 1) W' ∧ Fm m (fun q => q = tl ∨ q = tr) W W' := by
  obtain ⟨ao, cap, h1, h2, h3, h4⟩ := h
  have hk := lt_of hx
  have c1 : W.cell? ⟨tl, 0, none⟩ = some (.slice ao k cap) := h1.cell 0 _ rfl
  have c2 : W.cell? ⟨tr, 0, none⟩ = some (.bool true) := h2.cell 0 _ rfl
  have f2 := h2.frozen 0
  -- the store of 'right'
  obtain ⟨W1, hW1⟩ : ∃ W1, W1 = W.setCell ⟨tr, 0, none⟩ (.bool true) := ⟨_, rfl⟩
  have b1 : Bx W1 tl #[.slice ao k cap] 28 := by rw [hW1]; exact h1.other (by simp; omega) _
  have b2 : Bx W1 tr #[.bool true] 4 := by rw [hW1]; exact h2.set 0 _
  have fr1 : Fr (fun q => q = tr) W W1 := by rw [hW1]; exact h2.frset 0 _
  have o1 : W1.ownsRow m 3 1 (.slice ao k cap) k (Iv (vs.take k)) := own_fr h3 fr1 (fun q hq e => by have := (h3.lt q hq).1; omega)
  have hs1 : W1.heap.size = W.heap.size := by rw [hW1]; simp
  obtain ⟨W2, hW2⟩ : ∃ W2, W2 = W1.alloc (.cells #[.int .i64 x] 3) := ⟨_, rfl⟩
  have hb2 : Below W1.heap.size W1 W2 := by rw [hW2]; exact (Below.refl _ W1).alloc (Nat.le_refl _) _
  have d1 : W1.cell? ⟨tl, 0, none⟩ = some (.slice ao k cap) := b1.cell 0 _ rfl
  have d2 : W2.cell? ⟨tl, 0, none⟩ = some (.slice ao k cap) := (b1.bel hb2).cell 0 _ rfl
  have HO := mkH (own_below o1 hb2)
  have HSR : Hid (Src Try.prog 1 28 (.slice (some ⟨W.heap.size, 0, none⟩) 1 1) 1 [.int .i64 x] W2) := mkH (by rw [hW2, ← hs1]; exact src_val Try.underlying28 W1 _ rfl)
  have HFIN : Hid (∀ v2 W3, W3.ownsRow m 3 1 v2 (k + 1) (Iv (vs.take k) ++ [.int .i64 x]) → W2.grownBy W3 (Value.slice ao k cap).ownBlock → ∃ a2 c2, v2 = .slice a2 (k + 1) c2 ∧ W3.cell? ⟨tl, 0, none⟩ = some (.slice ao k cap) ∧ W3.frozen? ⟨tl, 0, none⟩ = false ∧ As tl tr vs W0 m (k + 1) (W3.setCell ⟨tl, 0, none⟩ v2) ∧ Fm m (fun q => q = tl ∨ q = tr) W (W3.setCell ⟨tl, 0, none⟩ v2)) := mkH (fun v2 W3 ho hg => by
    obtain ⟨a2, c2, rfl⟩ := own_form ho
    have hblk : ∀ b, b < m → W3.heap[b]? = W1.heap[b]? := fun b hb => by
      have hb1 : b < W1.heap.size := by omega
      refine (hg.block b (Nat.lt_of_lt_of_le hb1 hb2.size) (fun e => ?_)).trans (hb2.block b hb1)
      have := (o1.lt b e.symm).1
      omega
    have e1 : Bx W3 tl #[.slice ao k cap] 28 := (hblk tl (by omega)).trans b1
    have e2 : Bx W3 tr #[.bool true] 4 := (hblk tr hrm).trans b2
    have e3 := e1.set 0 (.slice a2 (k + 1) c2)
    have f3 := e1.frset 0 (.slice a2 (k + 1) c2)
    have hsz : W1.heap.size ≤ W3.heap.size := Nat.le_trans hb2.size hg.size
    refine ⟨a2, c2, rfl, e1.cell 0 _ rfl, e1.frozen 0, ⟨a2, c2, e3, e2.other (by simp; omega) _, ?_, ?_⟩, ?_⟩
    · rw [List.take_add_one, hx]
      have : Iv (vs.take k ++ [x]) = Iv (vs.take k) ++ [.int .i64 x] := by simp [Iv]
      show World.ownsRow _ m _ 1 _ (k + 1) (Iv (vs.take k ++ [x]))
      rw [this]
      exact own_fr ho f3 (fun q hq e => by have := (ho.lt q hq).1; omega)
    · refine ⟨hg.os.trans (hb2.os.trans (fr1.os.trans h4.os)), hg.tape.trans (hb2.tape.trans (fr1.tape.trans h4.tape)), hg.output.trans (hb2.output.trans (fr1.output.trans h4.output)), by simp; omega, fun q hq => ?_⟩
      rw [heap_setCell_other W3 ⟨tl, 0, none⟩ q _ (by simp; omega), hblk q (by omega), fr1.block q (by omega) (by omega)]
      exact h4.block q hq
    · refine ⟨hg.os.trans (hb2.os.trans fr1.os), hg.tape.trans (hb2.tape.trans fr1.tape), hg.output.trans (hb2.output.trans fr1.output), by simp; omega, fun q hq hqW hqn => ?_⟩
      rw [heap_setCell_other W3 ⟨tl, 0, none⟩ q _ (by simp; omega), hblk q hq, fr1.block q hqW (by omega)])
  have hms : m ≤ W2.heap.size := by have := hb2.size; omega
  have hkl : k ≤ 1000000 := by omega
  clear h1 h2 h3 h4 b1 b2 fr1 o1 hs1 hb2 hx
  subst hW2
  subst hW1
  go_enter Try.func33, Try.ntmps33
  go_wp2_with (at_builtin; refine (wpList_append_own_src _ rfl (.tmp 14) (.tmp 16) 28 28 rfl m 3 _ 1 8 Try.underlying28 info_I rfl (by decide) _ k (Iv (vs.take k)) rfl HO.out _ 1 [.int .i64 x] rfl HSR.out ?h632 ?hby2 ?hbs2 ?_))
  case h632 => unfold maxLen; omega
  case hby2 => omega
  case hbs2 => exact hms
  intro v2 W3 hown2 hgr2
  obtain ⟨a2, c2, rfl, g1, g2, g3, g4⟩ := HFIN.out v2 W3 hown2 hgr2
  have H3 := mkH g3
  have H4 := mkH g4
  clear hown2 hgr2 g3 g4 HFIN HO HSR
  go_wp2
  go_ret
  exact ⟨rfl, H3.out, H4.out⟩

/-- What the law's all answers. -/
def AlP (w : World) (vs : List Int) (e : Ending) (w' : World) : Prop := ∃ ao cap, e = .returned (.tuple #[.slice ao vs.length cap, .bool true]) ∧ w'.ownsRow w.heap.size 3 1 (.slice ao vs.length cap) vs.length (Iv vs) ∧ Below w.heap.size w w'

set_option maxHeartbeats 1000000 in
theorem alls_any {C : Nat → Prop} {w : World} {b : Nat} {L : List (Int × Int)} {p : Int} (h : Bg C w b L p) (hl : L.length ≤ 1000000) :
    Calls Try.prog 20 #[.pointer (some ⟨b, 0, none⟩)] w fun e w' => AlP w (L.map Prod.snd) e w' := by
  obtain ⟨W1, hW1⟩ : ∃ W1, W1 = w.alloc (.cells #[.pointer (some ⟨b, 0, none⟩)] 23) := ⟨_, rfl⟩
  have hs1 : W1.heap.size = w.heap.size + 1 := by rw [hW1]; simp
  have hB1 : Below w.heap.size w W1 := by rw [hW1]; exact (Below.refl _ w).alloc (Nat.le_refl _) _
  have hbb : Bx W1 w.heap.size #[.pointer (some ⟨b, 0, none⟩)] 23 := by rw [hW1]; exact Bx.new w _ _
  obtain ⟨W2, hW2⟩ : ∃ W2, W2 = W1.alloc (.cells #[.slice none 0 0] 28) := ⟨_, rfl⟩
  have hs2 : W2.heap.size = w.heap.size + 2 := by rw [hW2]; simp; omega
  have hB2 : Below W1.heap.size W1 W2 := by rw [hW2]; exact (Below.refl _ W1).alloc (Nat.le_refl _) _
  have hx2 : Bx W2 (w.heap.size + 1) #[.slice none 0 0] 28 := by rw [hW2, ← hs1]; exact Bx.new W1 _ _
  obtain ⟨W3, hW3⟩ : ∃ W3, W3 = W2.alloc (.cells #[.bool true] 4) := ⟨_, rfl⟩
  have hs3 : W3.heap.size = w.heap.size + 3 := by rw [hW3]; simp; omega
  have hB3 : Below W2.heap.size W2 W3 := by rw [hW3]; exact (Below.refl _ W2).alloc (Nat.le_refl _) _
  have hx3 : Bx W3 (w.heap.size + 2) #[.bool true] 4 := by rw [hW3, ← hs2]; exact Bx.new W2 _ _
  have hBB : Below w.heap.size w W3 := hB1.trans ((hB2.mono hB1.size).trans (hB3.mono (by omega)))
  have hb3 : Below (w.heap.size + 1) W1 W3 := by rw [← hs1]; exact hB2.trans (hB3.mono (by omega))
  have hbb3 : Bx W3 w.heap.size #[.pointer (some ⟨b, 0, none⟩)] 23 := (hbb.bel hB2).bel hB3
  have hx23 := hx2.bel hB3
  have HA := mkH (all1_any 33 #[.pointer (some ⟨w.heap.size + 2, 0, none⟩), .pointer (some ⟨w.heap.size + 1, 0, none⟩)] (enters_of Try.func33 (by kernel_rfl) rfl) (fun q => q = w.heap.size + 1 ∨ q = w.heap.size + 2) w.heap.size (h.below hBB) hbb3 (fun q hq => by omega) hl
    (fun m k W => As (w.heap.size + 1) (w.heap.size + 2) (L.map Prod.snd) W1 m k W ∧ W3.heap.size ≤ W.heap.size) (fun _ _ _ => False)
    (fun m s A B row hs hg hr => ⟨as_own _ _ _ _ _ m (by omega) s A B row hs.1 hg hr, Nat.le_trans hs.2 hg.size⟩) (fun m s A B row hs hg hr => hs)
    (fun m hm => ⟨⟨none, 0, hx23, hx3, World.ownsRow_nil _ _ _ _, hb3⟩, Nat.le_refl _⟩)
    (fun m k x W hm hmW hI hx => (all33 hI.1 (by omega) (by omega) hmW (by have := hI.2; omega) (by omega) (x := x.2) (by rw [List.getElem?_map, hx]; rfl) (by rw [List.length_map]; exact hl)).mono (fun e W' ⟨e1, e2, e3⟩ => .inl ⟨e1, ⟨e2, Nat.le_trans hI.2 e3.size⟩, e3⟩)))
  have HS1 := mkH hs1
  have HS2 := mkH hs2
  have HS3 := mkH hs3
  have HB1 := mkH hB1
  have HLL : Hid ((L.map Prod.snd).length = L.length) := mkH (List.length_map _)
  have hnf := fun (W : World) (x y : Array Value) => eql_func (P := Try.prog) W 51 _ _ _ (.func 39) x y Try.underlying51
  have HW := mkH (And.intro hW1 (And.intro hW2 hW3))
  clear h hW1 hW2 hW3 hs1 hs2 hs3 hB1 hB2 hB3 hbb hx2 hx3 hBB hb3 hbb3 hx23
  go_enter Try.func20, Try.ntmps20
  go_wp2_with fail
  refine (all_any _ _ ⟨_, rfl⟩).mono ?_
  rintro e w1 ⟨rfl, rfl⟩
  go_wp2_with fail
  rw [show ((w.alloc (.cells #[.pointer (some ⟨b, 0, none⟩)] 23)).alloc (.cells #[.slice none 0 0] 28)).alloc (.cells #[.bool true] 4) = W3 by rw [HW.out.2.2, HW.out.2.1, HW.out.1]]
  clear HW hnf
  refine HA.out.mono ?_
  rintro e w4 ⟨rfl, m, hm, ⟨⟨ao, cap, x1, x2, x3, x4⟩, x5⟩ | ⟨k, -, hf⟩⟩
  · have c1 : w4.cell? ⟨w.heap.size + 1, 0, none⟩ = some (.slice ao L.length cap) := x1.cell 0 _ rfl
    have c2 : w4.cell? ⟨w.heap.size + 1 + 1, 0, none⟩ = some (.bool true) := x2.cell 0 _ rfl
    have HO : Hid (w4.ownsRow w.heap.size 3 1 (.slice ao L.length cap) L.length (Iv (L.map Prod.snd))) := mkH (by
      rw [List.take_of_length_le (by rw [HLL.out]; exact Nat.le_refl _)] at x3
      exact own_mono x3 (by have := HS3.out; omega))
    have HB : Hid (Below w.heap.size w w4) := mkH (HB1.out.trans (x4.mono (by omega)))
    clear x1 x2 x3 x4 HA
    go_wp2_with fail
    go_quiet (fail)
    go_wp2
    go_ret2
    exact ⟨ao, cap, by rw [HLL.out]; rfl, by rw [HLL.out]; exact own_below HO.out (below_drewN (Below.refl _ _) _), below_drewN HB.out _⟩
  · exact hf.elim
end Go.Proofs.Yteaempemdolcjaa.No
