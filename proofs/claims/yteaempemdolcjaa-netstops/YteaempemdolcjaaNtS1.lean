/-
  NetStops: the function that is handed to All.
-/
import Derived.Test.YteaempemdolcjaaNtQ
namespace Go.Proofs.Yteaempemdolcjaa.Ns1
open Go.RowKit Go.Shelf Kt Gf Nr Gk Nv Nw Nx Na Nc Nee Ng Ni Nj
set_option linter.unusedVariables false
set_option linter.unusedSimpArgs false
set_option maxRecDepth 20000

/-- Where a bag's row may lie: where it lay at first, or behind m. -/
def Cm (ob : Option Nat) (m q : Nat) : Prop := ob = some q ∨ m ≤ q
/-- The state of the going through: the boxes of right, n, l, most, and the bag. -/
structure St (w : World) (rb nb lb mb b : Nat) (ob : Option Nat) (a0 : Option Addr) (m0 cap0 : Nat) (most : Int) (m k : Nat) (W : World) : Prop where
  r : Bx W rb #[.bool true] 4
  n : Bx W nb #[.int .i64 (k : Int)] 3
  l : Bx W lb #[.slice a0 m0 cap0] 28
  mo : Bx W mb #[.int .i64 most] 3
  bg : ∃ L p, Bg (Cm ob m) W b L p ∧ L.length ≤ 60 ∧ 0 ≤ p ∧ p ≤ 60 + (k : Int) ∧ (k < m0 → 0 ≤ L.length)
  bw : Below w.heap.size w W
theorem bx_own {o : Nat} {cs : Array Value} {t : TypeId} {A B : World} {row : Option Nat} (hb : Bx A o cs t) (hg : A.grownBy B row) (hr : ∀ r, row = some r → ∃ o : Obj, A.heap[r]? = some o ∧ o.isCells = false) : Bx B o cs t :=
  (hg.block o hb.lt (fun e => by
    obtain ⟨o', ho, hc⟩ := hr o e.symm
    unfold Bx at hb
    rw [hb] at ho
    cases ho
    cases hc)).trans hb
theorem bg_own {C : Nat → Prop} {b : Nat} {L : List (Int × Int)} {p : Int} {A B : World} {row : Option Nat} (h : Bg C A b L p) (hg : A.grownBy B row) (hr : ∀ r, row = some r → ∃ o : Obj, A.heap[r]? = some o ∧ o.isCells = false) : Bg C B b L p := by
  obtain ⟨ao, cap, h1, -, -⟩ := id h
  refine h.fr (fr_grown hg) (fun e => ?_) (fun k cur hk e => ?_)
  · obtain ⟨o', ho, hc⟩ := hr b e
    unfold Bx at h1
    rw [h1] at ho
    cases ho
    cases hc
  · obtain ⟨o', ho, hc⟩ := hr k hk
    rw [e] at ho
    cases ho
    cases hc
theorem st_own {w : World} {rb nb lb mb b : Nat} {ob : Option Nat} {a0 : Option Addr} {m0 cap0 : Nat} {most : Int} {m k B : Nat} {A A' : World} {row : Option Nat} (h : St w rb nb lb mb b ob a0 m0 cap0 most m k A) (hg : A.grownBy A' row) (hr : ∀ r, row = some r → B ≤ r ∧ ∃ o : Obj, A.heap[r]? = some o ∧ o.isCells = false) (hB : w.heap.size ≤ B) : St w rb nb lb mb b ob a0 m0 cap0 most m k A' := by
  have hr2 := fun r e => (hr r e).2
  obtain ⟨L, p, g1, g2⟩ := h.bg
  exact ⟨bx_own h.r hg hr2, bx_own h.n hg hr2, bx_own h.l hg hr2, bx_own h.mo hg hr2, ⟨L, p, bg_own g1 hg hr2, g2⟩,
    ⟨hg.os.trans h.bw.os, hg.tape.trans h.bw.tape, hg.output.trans h.bw.output, Nat.le_trans h.bw.size hg.size, fun q hq => (hg.block q (Nat.lt_of_lt_of_le hq h.bw.size) (fun e => by have := (hr q e.symm).1; omega)).trans (h.bw.block q hq)⟩⟩

set_option maxHeartbeats 2000000 in
theorem stops28 {w : World} {rb nb lb mb b : Nat} {ob : Option Nat} {a0 : Option Addr} {m0 cap0 : Nat} {most : Int} {m k : Nat} {W : World} (h : St w rb nb lb mb b ob a0 m0 cap0 most m k W) (hne : rb ≠ nb ∧ rb ≠ lb ∧ rb ≠ mb ∧ rb ≠ b ∧ nb ≠ lb ∧ nb ≠ mb ∧ nb ≠ b ∧ lb ≠ b ∧ mb ≠ b) (hbw : w.heap.size ≤ rb ∧ w.heap.size ≤ nb ∧ w.heap.size ≤ b ∧ w.heap.size ≤ m ∧ ∀ q, ob = some q → w.heap.size ≤ q) (hmW : m ≤ W.heap.size) {vs : List Int} (hvs : RowE w a0 vs) (hvl : vs.length = m0) (hm0 : m0 ≤ 60) (hmc : m0 ≤ cap0) {x : Int} (hx : vs[k]? = some x) :
    Calls Try.prog 28 #[.int .i64 (k : Int), .int .i64 x, .pointer (some ⟨rb, 0, none⟩), .pointer (some ⟨nb, 0, none⟩), .pointer (some ⟨lb, 0, none⟩), .pointer (some ⟨b, 0, none⟩), .pointer (some ⟨mb, 0, none⟩)] W fun e W' => e = .returned (.bool (decide (((k + 1 : Nat) : Int) < most))) ∧ St w rb nb lb mb b ob a0 m0 cap0 most m (k + 1) W' ∧ Fm m (fun q => q = rb ∨ q = nb ∨ q = b ∨ ob = some q) W W' := by
  have hk := lt_of hx
  obtain ⟨n1, n2, n3, n4, n5, n6, n7, n8, n9⟩ := hne
  obtain ⟨z1, z2, z3, z4, z5⟩ := hbw
  obtain ⟨bs, off, rfl, hcs⟩ := hvs (by omega)
  have d0 := hcs k x hx
  have hblt := World.block_lt_of_cell? w _ d0
  obtain ⟨L, p, hg, hL60, hp0, hp1, -⟩ := h.bg
  -- right := true, n := n + 1
  obtain ⟨W1, hW1⟩ : ∃ W1, W1 = W.setCell ⟨rb, 0, none⟩ (.bool true) := ⟨_, rfl⟩
  obtain ⟨W2, hW2⟩ : ∃ W2, W2 = W1.setCell ⟨nb, 0, none⟩ (.int .i64 ((k : Int) + 1)) := ⟨_, rfl⟩
  have r1 : Bx W1 rb #[.bool true] 4 := by rw [hW1]; exact h.r.set 0 _
  have r2 : Bx W2 rb #[.bool true] 4 := by rw [hW2]; exact r1.other (by simp; omega) _
  have q1 : Bx W1 nb #[.int .i64 (k : Int)] 3 := by rw [hW1]; exact h.n.other (by simp; omega) _
  have q2 : Bx W2 nb #[.int .i64 ((k : Int) + 1)] 3 := by rw [hW2]; exact q1.set 0 _
  have fr1 : Fr (fun q => q = rb ∨ q = nb) W W2 := by
    rw [hW2]
    have f1 : Fr (fun q => q = rb ∨ q = nb) W W1 := by rw [hW1]; exact (h.r.frset 0 _).mono (fun q hq => .inl hq)
    exact f1.trans (q1.frset 0 _) (fun q hq => .inl (.inr hq))
  have l2 := h.l.fr fr1 (by omega)
  have m2 := h.mo.fr fr1 (by omega)
  have g2 : Bg (Cm ob m) W2 b L p := hg.fr fr1 (by omega) (fun q cur hq e => by
    rcases hq with rfl | rfl
    · have := h.r; unfold Bx at this; rw [this] at e; simp only [Option.some.injEq, Obj.cells.injEq] at e; exact absurd e.2.1 (by decide)
    · have := h.n; unfold Bx at this; rw [this] at e; simp only [Option.some.injEq, Obj.cells.injEq] at e; exact absurd e.2.1 (by decide))
  have hs2 : W2.heap.size = W.heap.size := by rw [hW2, hW1]; simp
  have hrow : Na.RowE (W2.alloc (.cells #[.int .i64 7] 3)) (some ⟨W.heap.size, 0, none⟩) [7] := by rw [← hs2]; exact Na.RowE.new1 W2 7 3
  have HPUT := mkH (putnew g2 (fun q hq => .inr (by omega)) ((Below.refl _ W2).alloc (Nat.le_refl _) (.cells #[.int .i64 7] 3)) W.heap.size (by omega) (by simp; omega) 1 [7] hrow (by simp; omega) hp0 (by omega) (by simp) (by omega))
  have HKP : Hid ((k : Int) + 1 = ((k + 1 : Nat) : Int)) := mkH (by omega)
  have HFT : Hid (∀ V V', Fr (Ft (Cm ob m) b V) V V' → Fm m (fun q => q = rb ∨ q = nb ∨ q = b ∨ ob = some q) V V') := mkH (fun V V' hf => Fm.trans (Fm.ofFr (Fr.refl (fun q => q = rb ∨ q = nb ∨ q = b ∨ ob = some q) V)) ⟨hf.os, hf.tape, hf.output, hf.size, fun q hqm hqV hqn => hf.block q hqV (fun hq => by
    rcases hq with rfl | ⟨hc | hc, -⟩
    · exact hqn (.inr (.inr (.inl rfl)))
    · exact hqn (.inr (.inr (.inr hc)))
    · omega)⟩)
  have c1 : W.cell? ⟨rb, 0, none⟩ = some (.bool true) := h.r.cell 0 _ rfl
  have c2 : W.cell? ⟨nb, 0, none⟩ = some (.int .i64 (k : Int)) := h.n.cell 0 _ rfl
  have c3 : W.cell? ⟨lb, 0, none⟩ = some (.slice (some ⟨bs, off, none⟩) m0 cap0) := h.l.cell 0 _ rfl
  have c4 : W.cell? ⟨bs, off + k, none⟩ = some (.int .i64 x) := by
    rw [World.cell?_of_block (w := w) (a := ⟨bs, off + k, none⟩) (h.bw.block _ hblt)]
    exact d0
  have f1 := h.r.frozen 0
  have e2 : W1.cell? ⟨nb, 0, none⟩ = some (.int .i64 (k : Int)) := q1.cell 0 _ rfl
  have f2 := q1.frozen 0
  have HQ2 := mkH q2
  have HR2 := mkH r2
  have HL2 := mkH l2
  have HM2 := mkH m2
  have HG2 := mkH g2
  have HFR := mkH fr1
  have HBW := mkH h.bw
  have HS2 := mkH hs2
  have HNE := mkH (And.intro n4 (And.intro n7 (And.intro n8 n9)))
  have hkm : (k : Int) < (m0 : Int) := by omega
  have hkw : IntKind.i64.wrap ((k : Int) + 1) = (k : Int) + 1 := IntWalk.i64_in _ (by omega)
  clear hcs d0 hblt h hg r1 r2 q1 q2 fr1 l2 m2 g2 hs2 hvs hx
  subst hW2
  subst hW1
  go_enter Try.func28, Try.ntmps28
  go_wp2_with fail
  refine HPUT.out.mono ?_
  rintro e w5 ⟨rfl, g5, f5⟩
  obtain ⟨nn1, nn2, nn3, nn4⟩ := HNE.out
  have HR5 := mkH (Bx.ft HR2.out f5 (by decide) nn1)
  have HQ5 := mkH (Bx.ft HQ2.out f5 (by decide) nn2)
  have HL5 := mkH (Bx.ft HL2.out f5 (by decide) nn3)
  have HM5 := mkH (Bx.ft HM2.out f5 (by decide) nn4)
  have HG5 := mkH g5
  have HF5 := mkH (HFT.out _ _ f5)
  obtain ⟨y, hy⟩ := some_of (l := L ++ num p [7]) (i := 0) (by simp [num_len])
  have htk := take_in g5 0 y hy (by rw [List.length_append, num_len]; simp; omega)
  have HTK := mkH htk
  have HLL : Hid (((L ++ num p [7]).take 0 ++ (L ++ num p [7]).drop (0 + 1)).length = L.length) := mkH (by
    rw [List.length_append, List.length_take, List.length_drop, List.length_append, num_len]; simp)
  clear g5 f5 HPUT hy htk c1 c2 c3 c4 f1 e2 f2 HR2 HQ2 HL2 HM2 HG2
  go_wp2_with fail
  refine HTK.out.mono ?_
  rintro e w6 ⟨rfl, g6, f6⟩
  have HR6 := mkH (Bx.ft HR5.out f6 (by decide) nn1)
  have HQ6 := mkH (Bx.ft HQ5.out f6 (by decide) nn2)
  have HL6 := mkH (Bx.ft HL5.out f6 (by decide) nn3)
  have HM6 := mkH (Bx.ft HM5.out f6 (by decide) nn4)
  have HG6 := mkH g6
  have HF6 := mkH (HFT.out _ _ f6)
  have c5 : w6.cell? ⟨nb, 0, none⟩ = some (.int .i64 ((k : Int) + 1)) := HQ6.out.cell 0 _ rfl
  have c6 : w6.cell? ⟨mb, 0, none⟩ = some (.int .i64 most) := HM6.out.cell 0 _ rfl
  clear g6 f6 HTK
  go_wp2
  go_ret
  have hfm : Fm m (fun q => q = rb ∨ q = nb ∨ q = b ∨ ob = some q) W w6 := ((Fm.ofFr HFR.out).mono (fun q hq => by rcases hq with h | h; exact .inl h; exact .inr (.inl h))).trans (HF5.out.trans HF6.out)
  refine ⟨by rw [← HKP.out]; rfl, ⟨HR6.out, by rw [← HKP.out]; exact HQ6.out, HL6.out, HM6.out, ⟨_, _, HG6.out, by rw [HLL.out]; exact hL60, by simp; omega, by simp; omega, fun _ => Nat.zero_le _⟩, ?_⟩, hfm⟩
  refine HBW.out.trans ⟨hfm.os, hfm.tape, hfm.output, hfm.size, fun q hq => hfm.block q (by omega) (Nat.lt_of_lt_of_le hq HBW.out.size) (fun h => ?_)⟩
  rcases h with rfl | rfl | rfl | h
  · omega
  · omega
  · omega
  · have := z5 q h; omega
end Go.Proofs.Yteaempemdolcjaa.Ns1
