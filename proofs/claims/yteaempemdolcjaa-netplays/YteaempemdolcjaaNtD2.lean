/-
  Drop.
-/
import Derived.Test.YteaempemdolcjaaNtD1
import Derived.Test.YteaempemdolcjaaNtN
namespace Go.Proofs.Yteaempemdolcjaa.Nd2
open Go.RowKit Go.Shelf Kt Gf Nr Gk Ns Nw Nx Na Ni Nj Nn No Np Ny Nz Nd1
set_option linter.unusedVariables false
set_option linter.unusedSimpArgs false
set_option maxRecDepth 20000
attribute [local go_sem] Oper.semAt_some

/-- The numbers of those of whom q says so. -/
def sel (q : Int → Bool) (L : List (Int × Int)) : List Int := (L.filter (fun x => q x.2)).map Prod.fst
theorem sel_snoc (q : Int → Bool) (L : List (Int × Int)) (k : Nat) (x : Int × Int) (h : L[k]? = some x) : sel q (L.take (k + 1)) = sel q (L.take k) ++ (if q x.2 then [x.1] else []) := by
  unfold sel
  rw [List.take_add_one, h, List.filter_append]
  cases hq : q x.2 <;> simp [hq]
theorem sel_len (q : Int → Bool) (L : List (Int × Int)) : (sel q L).length ≤ L.length := by
  unfold sel
  rw [List.length_map]
  exact List.length_filter_le _ _
/-- Numbers rise, from 0 on, below p. -/
def Rs (L : List (Int × Int)) (p : Int) : Prop := (L.map Prod.fst).Pairwise (· < ·) ∧ ∀ x ∈ L, x.1 < p
theorem Rs.sub {L M : List (Int × Int)} {p : Int} (h : Rs L p) (hs : M.Sublist L) : Rs M p :=
  ⟨h.1.sublist (hs.map _), fun x hx => h.2 x (hs.subset hx)⟩
theorem Rs.snoc {L : List (Int × Int)} {p v : Int} (h : Rs L p) : Rs (L ++ [(p, v)]) (p + 1) := by
  refine ⟨?_, fun x hx => ?_⟩
  · rw [List.map_append, List.pairwise_append]
    refine ⟨h.1, by simp, fun a ha b hb => ?_⟩
    obtain ⟨x, hx, rfl⟩ := List.mem_map.1 ha
    simp at hb
    subst hb
    exact h.2 x hx
  · rcases List.mem_append.1 hx with hx | hx
    · have := h.2 x hx; omega
    · simp at hx; subst hx; simp; omega
theorem rs_le {L : List (Int × Int)} {p : Int} (h : Rs L p) (q : Int → Bool) : (sel q L).Pairwise (· ≤ ·) := by
  have h1 : (sel q L).Pairwise (· < ·) := h.1.sublist ((List.filter_sublist).map _)
  exact h1.imp (fun h => Int.le_of_lt h)
theorem rs_nodup {L : List (Int × Int)} {p : Int} (h : Rs L p) {x y : Int × Int} (hx : x ∈ L) (hy : y ∈ L) (e : x.1 = y.1) : x = y := by
  have h1 := h.1
  rw [List.pairwise_map] at h1
  clear h
  induction L with
  | nil => cases hx
  | cons a l ih =>
    obtain ⟨p1, p2⟩ := List.pairwise_cons.1 h1
    rcases List.mem_cons.1 hx with rfl | hx'
    · rcases List.mem_cons.1 hy with rfl | hy'
      · rfl
      · have := p1 y hy'; omega
    · rcases List.mem_cons.1 hy with rfl | hy'
      · have := p1 x hx'; omega
      · exact ih hx' hy' p2
theorem rm_sel {L : List (Int × Int)} {p : Int} (h : Rs L p) (q : Int → Bool) : rmL (sel q L) L = L.filter (fun x => !q x.2) := by
  unfold rmL
  refine List.filter_congr (fun x hx => ?_)
  congr 1
  rw [Bool.eq_iff_iff, decide_eq_true_iff]
  unfold sel
  constructor
  · intro hm
    obtain ⟨y, hy, e⟩ := List.mem_map.1 hm
    obtain ⟨hy1, hy2⟩ := List.mem_filter.1 hy
    have := rs_nodup h hx hy1 e.symm
    subst this
    exact hy2
  · intro hq
    exact List.mem_map.2 ⟨x, List.mem_filter.2 ⟨hx, hq⟩, rfl⟩

/-- The numbers told so far: the box nb, and the row. -/
def Dst (nb ib : Nat) (fv : Value) (q : Int → Bool) (L : List (Int × Int)) (W0 : World) (m k : Nat) (W : World) : Prop :=
  ∃ ao j cap, Bx W nb #[.slice ao j cap] 28 ∧ Bx W ib #[fv] 37 ∧ W.ownsRow m 3 1 (.slice ao j cap) j (Iv (sel q (L.take k))) ∧ Below nb W0 W
theorem dst_own (nb ib : Nat) (fv : Value) (q : Int → Bool) (L : List (Int × Int)) (W0 : World) (B m : Nat) (hB : nb < B) : OwnFrom B (Dst nb ib fv q L W0 m) := by
  rintro k W W' row ⟨ao, j, cap, h1, h2, h3, h4⟩ hg hr
  have hne : ∀ b, (∃ cs t, W.heap[b]? = some (.cells cs t (0, 0))) → b < W.heap.size → W'.heap[b]? = W.heap[b]? := fun b ⟨cs, t, hb⟩ hlt => hg.block b hlt (fun e => by
    obtain ⟨-, o, ho, hc⟩ := hr b e.symm
    rw [hb] at ho
    cases ho
    cases hc)
  refine ⟨ao, j, cap, (hne nb ⟨_, _, h1⟩ h1.lt).trans h1, (hne ib ⟨_, _, h2⟩ h2.lt).trans h2, ⟨h3.1, ?_⟩, ?_⟩
  · rcases h3.2 with e | ⟨g, c, cur, e1, e2, e3, e4⟩
    · exact .inl e
    · exact .inr ⟨g, c, cur, e1, e2, (hne g ⟨_, _, e3⟩ (block_lt e3)).trans e3, e4⟩
  · exact ⟨hg.os.trans h4.os, hg.tape.trans h4.tape, hg.output.trans h4.output, Nat.le_trans h4.size hg.size, fun k hk => (hg.block k (Nat.lt_of_lt_of_le (by omega) h1.lt) (fun e => by have := (hr k e.symm).1; omega)).trans (h4.block k hk)⟩

theorem own_blk {w : World} {base e size n cap : Nat} {ao : Option Addr} {xs : List Value} (h : w.ownsRow base e size (.slice ao n cap) n xs) : ∀ r, (Value.slice ao n cap).ownBlock = some r → base ≤ r := fun r hr => (h.lt r hr).1
/-- 'l = append(l, x)' where l lies in a box. -/
theorem app_step {nb ib m j : Nat} {fv : Value} {Wb W2 w0 : World} {ao : Option Addr} {cap : Nat} {v2 : Value} {L L2 : List Value} {o : Obj} (hown : Wb.ownsRow m 3 1 (.slice ao j cap) j L) (hbx : Bx Wb nb #[.slice ao j cap] 28) (hib : Bx Wb ib #[fv] 37) (hne : ib < nb) (hlc : nb < m) (hm : m ≤ Wb.heap.size)
    (hown2 : W2.ownsRow m 3 1 v2 (j + 1) L2) (hgr : (Wb.alloc o).grownBy W2 (Value.slice ao j cap).ownBlock) (hb : Below nb w0 Wb) :
    ∃ a2 c2, v2 = .slice a2 (j + 1) c2 ∧ Bx W2 nb #[.slice ao j cap] 28 ∧ Fm m (fun k => k = nb) Wb (W2.setCell ⟨nb, 0, none⟩ v2) ∧ Bx (W2.setCell ⟨nb, 0, none⟩ v2) nb #[v2] 28 ∧ Bx (W2.setCell ⟨nb, 0, none⟩ v2) ib #[fv] 37 ∧ (W2.setCell ⟨nb, 0, none⟩ v2).ownsRow m 3 1 v2 (j + 1) L2 ∧ Below nb w0 (W2.setCell ⟨nb, 0, none⟩ v2) := by
  obtain ⟨a2, c2, rfl⟩ := own_form hown2
  have hsz : (Wb.alloc o).heap.size = Wb.heap.size + 1 := by simp
  have hblk : ∀ b, b < m → b < Wb.heap.size → W2.heap[b]? = Wb.heap[b]? := fun b h1 h2 =>
    (hgr.block b (by omega) (fun e => by have := own_blk hown b e.symm; omega)).trans (Below.heap_alloc Wb o b h2)
  have hbx2 : Bx W2 nb #[.slice ao j cap] 28 := (hblk nb hlc hbx.lt).trans hbx
  have hib2 : Bx W2 ib #[fv] 37 := (hblk ib (by omega) hib.lt).trans hib
  have hsz2 : Wb.heap.size ≤ W2.heap.size := by have := hgr.size; omega
  have hst : Fr (fun k => k = nb) W2 (W2.setCell ⟨nb, 0, none⟩ (.slice a2 (j + 1) c2)) := hbx2.frset 0 _
  refine ⟨a2, c2, rfl, hbx2, ⟨hgr.os, hgr.tape, hgr.output, by simpa using hsz2, fun b h1 h2 h3 => ?_⟩, hbx2.set 0 _, hib2.other (by simp; omega) _, own_fr hown2 hst (fun k hk e => by have := own_blk hown2 k hk; omega), ⟨hgr.os.trans hb.os, hgr.tape.trans hb.tape, hgr.output.trans hb.output, by have := hb.size; simp; omega, fun b h1 => ?_⟩⟩
  · rw [heap_setCell_other W2 ⟨nb, 0, none⟩ b _ (fun e => h3 (by simpa using e))]
    exact hblk b h1 h2
  · rw [heap_setCell_other W2 ⟨nb, 0, none⟩ b _ (by simp; omega), hblk b (by omega) (by have := hbx.lt; omega)]
    exact hb.block b h1

theorem drop_nil (w : World) (v : Value) : Calls Try.prog 15 #[.pointer none, v] w fun e w' => e = .returned (.int .i64 0) ∧ Below w.heap.size w w' := by
  go_enter Try.func15, Try.ntmps15
  go_wp2
  all_goals
    go_ret
    exact ⟨rfl, (Below.refl _ _).alloc (Nat.le_refl _) _⟩

set_option maxRecDepth 100000 in
set_option maxHeartbeats 4000000 in
theorem drop_any (g : Nat) (caps : Array Value) (eg : ∀ args w, (callFunc g args).run Try.prog w = .ok (.enter g args) w) {C : Nat → Prop} {w : World} {b : Nat} {L : List (Int × Int)} {p : Int} (h : Bg C w b L p) (hR : Rs L p) (hL : L.length ≤ 1000000) (q : Int → Bool)
    (hU : ∀ x W, Below w.heap.size w W → Calls Try.prog g (#[.int .i64 x] ++ caps) W fun e w' => e = .returned (.bool (q x)) ∧ ∃ n, w' = W.drewN n) :
    Calls Try.prog 15 #[.pointer (some ⟨b, 0, none⟩), .func (.func g) #[] caps] w fun e w' => e = .returned (.int .i64 ((L.length : Int) - ((L.filter (fun x => !q x.2)).length : Int))) ∧ Bg C w' b (L.filter (fun x => !q x.2)) p ∧ Fr (Ft C b w) w w' := by
  obtain ⟨W1, hW1⟩ : ∃ W1, W1 = w.alloc (.cells #[.func (.func g) #[] caps] 37) := ⟨_, rfl⟩
  have hB1 : Below w.heap.size w W1 := by rw [hW1]; exact (Below.refl _ w).alloc (Nat.le_refl _) _
  have hs1 : W1.heap.size = w.heap.size + 1 := by rw [hW1]; simp
  have hi1 : Bx W1 w.heap.size #[.func (.func g) #[] caps] 37 := by rw [hW1]; exact Bx.new w _ _
  obtain ⟨W2, hW2⟩ : ∃ W2, W2 = W1.alloc (.cells #[.slice none 0 0] 28) := ⟨_, rfl⟩
  have hB2 : Below W1.heap.size W1 W2 := by rw [hW2]; exact (Below.refl _ W1).alloc (Nat.le_refl _) _
  have hs2 : W2.heap.size = w.heap.size + 2 := by rw [hW2]; simp; omega
  have hn2 : Bx W2 (w.heap.size + 1) #[.slice none 0 0] 28 := by rw [hW2, ← hs1]; exact Bx.new W1 _ _
  obtain ⟨W3, hW3⟩ : ∃ W3, W3 = W2.alloc (.cells #[.pointer (some ⟨b, 0, none⟩)] 23) := ⟨_, rfl⟩
  have hB3 : Below W2.heap.size W2 W3 := by rw [hW3]; exact (Below.refl _ W2).alloc (Nat.le_refl _) _
  have hs3 : W3.heap.size = w.heap.size + 3 := by rw [hW3]; simp; omega
  have hcb : Bx W3 (w.heap.size + 2) #[.pointer (some ⟨b, 0, none⟩)] 23 := by rw [hW3, ← hs2]; exact Bx.new W2 _ _
  have hBB : Below w.heap.size w W3 := hB1.trans ((hB2.mono hB1.size).trans (hB3.mono (by omega)))
  have hb3 : Below (w.heap.size + 1) W1 W3 := by rw [← hs1]; exact hB2.trans (hB3.mono (by omega))
  have hseq := each_seq 11 (by omega) (fun k => k = w.heap.size + 1) (w.heap.size + 2) (h.below hBB) hcb (fun k hk => by omega) hL
  have HI3 := mkH ((hi1.bel hB2).bel hB3)
  have HN3 := mkH (hn2.bel hB3)
  have HS1 := mkH hs1
  have HS3 := mkH hs3
  have HBB := mkH hBB
  have HB1 := mkH hB1
  have HB3 := mkH hb3
  have HG := mkH (h.below hB1)
  have HGl := mkH h.lt
  have HR := mkH hR
  have HU := mkH hU
  have HW1 := mkH hW1
  have HW2 := mkH hW2
  have HW3 := mkH hW3
  have hnf := fun (W : World) (x y : Array Value) => eql_func (P := Try.prog) W 37 _ _ _ (.func g) x y Try.underlying37
  have c0 : (w.alloc (.cells #[.func (.func g) #[] caps] 37)).cell? ⟨w.heap.size, 0, none⟩ = some (.func (.func g) #[] caps) := (Bx.new w #[.func (.func g) #[] caps] 37).cell 0 _ rfl
  clear h hB1 hs1 hi1 hB2 hs2 hn2 hB3 hs3 hcb hBB hb3 hR hU hW1 hW2 hW3
  refine (callsIn_wide (n := 12)).1 ?_
  refine callsIn_of_wp_marks Try.func15 rfl trivial ?_ rfl
  simp only [Try.ntmps15, List.size_toArray, List.length_cons, List.length_nil, Nat.reduceAdd, Nat.reduceSub, Array.replicate_succ, Array.replicate_zero, List.push_toArray, List.append_toArray, List.nil_append, List.cons_append]
  gi_wp2_with fail
  refine ⟨trivial, (callsIn_wide.2 (each_any _ _ ⟨_, rfl⟩)).mono ?_⟩
  rintro e w1 ⟨rfl, rfl⟩
  gi_wp2_with fail
  rw [show ((w.alloc (.cells #[.func (.func g) #[] caps] 37)).alloc (.cells #[.slice none 0 0] 28)).alloc (.cells #[.pointer (some ⟨b, 0, none⟩)] 23) = W3 by rw [HW3.out, HW2.out, HW1.out]]
  clear hnf c0
  have own_bx : ∀ (o : Nat) (cs : Array Value) (t : TypeId) (A B : World) (row : Option Nat), Bx A o cs t → A.grownBy B row → (∀ r, row = some r → W3.heap.size ≤ r ∧ ∃ o : Obj, A.heap[r]? = some o ∧ o.isCells = false) → Bx B o cs t := fun o cs t A B row hb hg hr =>
    (hg.block o hb.lt (fun e => by
      obtain ⟨-, o', ho, hc⟩ := hr o e.symm
      unfold Bx at hb
      rw [hb] at ho
      cases ho
      cases hc)).trans hb
  have hps : ∀ x : (Int × Int) × Nat, (arI x).size = (#[16, 17] : Array Tmp).size := fun _ => rfl
  refine rfZ (by omega) (gf := 40) (lb := #[.pointer (some ⟨w.heap.size + 2, 0, none⟩)]) rfl (enters_of Try.func40 (by kernel_rfl) rfl) hseq (Below.refl _ _) (fun k hk => by have := HS3.out; omega) hps
    (Dst (w.heap.size + 1) w.heap.size (.func (.func g) #[] caps) q L W1) (fun _ _ _ => False)
    (fun m => dst_own _ _ _ _ _ _ _ m (by have := HS3.out; omega)) (fun m k A B row hs hg hr => hs)
    (fun m hm => ⟨none, 0, 0, HN3.out, HI3.out, World.ownsRow_nil _ _ _ _, HB3.out⟩)
    (fun x a' W => ∃ y, a' = { tmps := #[.pointer (some ⟨b, 0, none⟩), .func (.func g) #[] caps, undef, .pointer (some ⟨w.heap.size, 0, none⟩), .int .i64 0, .pointer (some ⟨w.heap.size + 1, 0, none⟩), undef, .pointer (some ⟨y, 0, none⟩), .pointer (some ⟨b, 0, none⟩), .bool false, .bool false, .func (.func g) #[] caps, .bool false, .bool false, .pointer (some ⟨b, 0, none⟩), .func (.func 40) #[] #[.pointer (some ⟨w.heap.size + 1 + 1, 0, none⟩)], .int .i64 (x.2 : Int), .agg #[.int .i64 x.1.1, .int .i64 x.1.2], undef, undef, undef, undef, undef, undef, undef, undef, undef, undef, undef, undef], defers := [] } ∧ Bx W y #[.int .i64 x.1.1, .int .i64 x.1.2] 55)
    (fun x a' => ?hA) ?assign ?body ?done (fun D m k W' _ _ _ hz _ => hz.elim)
  case hA =>
    rintro - W W' row ⟨y, e, hb⟩ hg hr
    exact ⟨y, e, own_bx _ _ _ W W' row hb hg hr⟩
  case assign =>
    rintro l' ⟨⟨x1, x2⟩, k⟩ W' K hK
    have HK := mkH hK
    clear hK
    simp only [arI]
    gi_wp2
    exact HK.out _ _ ((Below.refl _ _).alloc (Nat.le_refl _) _) ⟨W'.heap.size, rfl, Bx.new W' _ _⟩
  case body =>
    rintro l' m k ⟨⟨x1, x2⟩, k'⟩ a' Wb hl1 hm hmW ⟨ao, j, cap, y1, y2, y3, y4⟩ ⟨y, rfl, hby⟩ hx
    obtain ⟨hx', rfl⟩ := at_zip hx
    simp only at hx'
    have hk := lt_of hx'
    have d1 : Wb.cell? ⟨y, 1, none⟩ = some (.int .i64 x2) := hby.cell 1 _ rfl
    have d0 : Wb.cell? ⟨w.heap.size, 0, none⟩ = some (.func (.func g) #[] caps) := y2.cell 0 _ rfl
    have hww : Below w.heap.size w Wb := HB1.out.trans (y4.mono (by omega))
    have HC := mkH (says_any g caps eg Wb x2 (q x2) (fun W hW => HU.out x2 W (hww.trans (hW.mono hww.size))))
    have HSL := mkH (sel_snoc q L k' (x1, x2) hx')
    replace y3 : Wb.ownsRow m 3 1 (.slice ao j cap) j (Iv (sel q (L.take k'))) := y3
    have hj := y3.1
    rw [Iv_len] at hj
    have hjl : j ≤ 1000000 := by have := sel_len q (L.take k'); rw [List.length_take] at this; omega
    have HY1 := mkH y1
    have HY2 := mkH y2
    have HY3 := mkH y3
    have HY4 := mkH y4
    have HBY := mkH hby
    have hnm : w.heap.size + 1 < m := by have := HS3.out; omega
    clear y1 y2 y3 y4 hby hx hx' hj hww
    gi_wp2_with fail
    refine ⟨trivial, (CallsIn.inRound l' (callsIn_wide.2 HC.out)).mono ?_⟩
    rintro e w5 ⟨rfl, hb5⟩
    have HZ1 := mkH (HY1.out.bel hb5)
    have HZ2 := mkH (HY2.out.bel hb5)
    have HZ3 := mkH (own_below HY3.out hb5)
    have HZ4 : Hid (Below (w.heap.size + 1) W1 w5) := mkH (HY4.out.trans (hb5.mono (by have := HY1.out.lt; omega)))
    have hbz := HBY.out.bel hb5
    have HF5 : Hid (Fm m (fun k => k = w.heap.size + 1) Wb w5) := mkH (Fm.ofFr (Fr.ofBelow hb5))
    have hmw5 : m ≤ w5.heap.size := Nat.le_trans hmW hb5.size
    clear HY1 HY2 HY3 HY4 HBY hb5 d0 d1 HC
    cases hq : q x2 with
    | false =>
      have HE : Hid (Fm m (fun k => k = w.heap.size + 1) Wb w5 ∧ Dst (w.heap.size + 1) w.heap.size (.func (.func g) #[] caps) q L W1 m (k' + 1) w5) := mkH ⟨HF5.out, ao, j, cap, HZ1.out, HZ2.out, by rw [HSL.out]; simp only [hq]; simpa using HZ3.out, HZ4.out⟩
      clear HZ1 HZ2 HZ3 HZ4 HF5 HSL hbz
      gi_wp2
      exact HE.out
    | true =>
      have d2 : w5.cell? ⟨y, 0, none⟩ = some (.int .i64 x1) := hbz.cell 0 _ rfl
      have d3 : w5.cell? ⟨w.heap.size + 1, 0, none⟩ = some (.slice ao j cap) := HZ1.out.cell 0 _ rfl
      have hal : Below w5.heap.size w5 (w5.alloc (.cells #[.int .i64 x1] 3)) := (Below.refl _ _).alloc (Nat.le_refl _) _
      have HAL := mkH hal
      have HS5 : Hid (sel q (L.take (k' + 1)) = sel q (L.take k') ++ [x1]) := mkH (by rw [HSL.out]; simp [hq])
      obtain ⟨i0, hi, hz, hsize, hbyy⟩ := info_parts info_I
      have HFIN : Hid (∀ v2 W2, W2.ownsRow m 3 1 v2 (j + 1) (Iv (sel q (L.take k')) ++ [.int .i64 x1]) → (w5.alloc (.cells #[.int .i64 x1] 3)).grownBy W2 (Value.slice ao j cap).ownBlock → ∃ a2 c2, v2 = .slice a2 (j + 1) c2 ∧ W2.cell? ⟨w.heap.size + 1, 0, none⟩ = some (.slice ao j cap) ∧ W2.frozen? ⟨w.heap.size + 1, 0, none⟩ = false ∧ Hid (Fm m (fun k => k = w.heap.size + 1) Wb (W2.setCell ⟨w.heap.size + 1, 0, none⟩ (.slice a2 (j + 1) c2)) ∧ Dst (w.heap.size + 1) w.heap.size (.func (.func g) #[] caps) q L W1 m (k' + 1) (W2.setCell ⟨w.heap.size + 1, 0, none⟩ (.slice a2 (j + 1) c2)))) := mkH (fun v2 W2 ho hg => by
        obtain ⟨a2, c2, rfl, e1, e2, e3, e4, e5, e6⟩ := app_step HZ3.out HZ1.out HZ2.out (by omega) hnm hmw5 ho hg HZ4.out
        exact ⟨a2, c2, rfl, e1.cell 0 _ rfl, e1.frozen 0, mkH ⟨HF5.out.trans e2, a2, j + 1, c2, e3, e4, by rw [HS5.out, Iv_append]; exact e5, e6⟩⟩)
      clear hal HSL hbz hq HS5
      gi_wp2_with (gi_at_builtin; refine wpListIn_append_own _ rfl (.tmp 22) (.tmp 25) 28 rfl m 3 i0 (.int .i64 0) 1 8 Try.underlying28 hi hz hsize hbyy rfl (by decide) _ j _ rfl (own_below HZ3.out HAL.out) ⟨w5.heap.size, 0, none⟩ 1 1 [.int .i64 x1] rfl rfl (fun j u hj => by rw [Addr.add_lit, Nat.zero_add]; exact cell_new_at w5 _ _ j u (by simpa using hj)) (fun u hu => by simp at hu; subst hu; rfl) (by unfold maxLen; omega) (by omega) (by simp; omega) (fun v2 W2 hown2 hgr2 _ => ?_); obtain ⟨a2, c2, rfl, u1, u2, HE⟩ := HFIN.out v2 W2 hown2 hgr2; clear hown2 hgr2)
      exact HE.out
  case done =>
    rintro D m W' hD hm ⟨ao, j, cap, y1, y2, y3, y4⟩ hdf
    rw [List.length_zipIdx, List.take_of_length_le (Nat.le_refl _)] at y3
    have hbw : Below w.heap.size w W' := HB1.out.trans (y4.mono (by omega))
    have hg : Bg C W' b L p := HG.out.below (by rw [HS1.out]; exact y4)
    have hj : j = (sel q L).length := by have := y3.1; rw [Iv_len] at this; omega
    have c5 : W'.cell? ⟨w.heap.size + 1, 0, none⟩ = some (.slice ao j cap) := y1.cell 0 _ rfl
    have hrm := remove_any hg m ao cap (sel q L) (by rw [← hj]; exact y3) (rs_le HR.out q) (by have := sel_len q L; omega) hL
    rw [rm_sel HR.out, ← hj] at hrm
    have HRM := mkH hrm
    have HDF := mkH hdf
    have HBW := mkH hbw
    clear y1 y2 y3 y4 hg hrm hdf hbw hj
    gi_wp2_with fail
    refine ⟨trivial, (callsIn_wide.2 HRM.out).mono ?_⟩
    rintro e w6 ⟨rfl, hg6, hf6⟩
    have hd6 : w6.heap[D]? = some (.deferred (some [])) := (hf6.heap (Gf.block_lt HDF.out) (fun hq => by
      rcases hq with e | ⟨-, cur, e⟩
      · obtain ⟨a1, c1, g1, -⟩ := hg6
        have := HG.out
        obtain ⟨a2, c2, g2, -⟩ := this
        have hbl := HGl.out
        have := HS3.out
        omega
      · rw [HDF.out] at e; cases e)).trans HDF.out
    have HD6 := mkH hd6
    have hbD : b ≠ D := by have := HGl.out; have := HS3.out; omega
    have HE : Hid (Bg C (w6.putObj D (.deferred none)) b (L.filter (fun x => !q x.2)) p ∧ Fr (Ft C b w) w (w6.putObj D (.deferred none))) := mkH ⟨hg6.fr (Ni.fr_put w6 D (.deferred none)) hbD (fun k cur hk e => by subst hk; rw [hd6] at e; cases e),
      (ftrans (Fr.ofBelow HBW.out) hf6).trans (Ni.fr_put w6 D (.deferred none)) (fun i hi => .inr (by have := HS3.out; omega))⟩
    clear hg6 hf6 hd6 HRM HDF
    gi_wp2
    refine ⟨by simp, .inl ⟨_, _, rfl, run_takeDeferred HD6.out, ?_⟩⟩
    exact ⟨_, results_tmp rfl _ _ _, rfl, HE.out.1, HE.out.2⟩
end Go.Proofs.Yteaempemdolcjaa.Nd2
