/-
  WiJM WiJP WiUR, joined by mrg.py.
-/
import Derived.Test.YtenkgpfeifflnaaGreatMqB
import Derived.Test.YtenkgpfeifflnaaGreatWiA
import Derived.Test.YtenkgpfeifflnaaGreatWiA3

namespace Go.Proofs.YtenkgpfeifflnaaGreat.Wq
open Go.RowKit Kt Pl Wi Wk Rd Lt Fw Wa
open At (RowT)
set_option linter.unusedVariables false
set_option linter.unusedSimpArgs false
set_option maxRecDepth 20000

/-- A list of structs that was read. -/
def VS {α : Type} (n : Nat) (cs : α → List Value) (lo : Nat) (l : List α) (v : Value) (w : World) : Prop := ∃ ao cap, v = .slice ao l.length cap ∧ RowS n cs w ao l ∧ (∀ a, ao = some a → lo ≤ a.block) ∧ l.length ≤ 1000000000

theorem own_on {w wr W2 : World} {rb n m : Nat} {e : TypeId} {v : Value} {xs : List Value} (h : wr.ownsRow w.heap.size e n v m xs) (hlt : rb < w.heap.size) (ho : On rb wr W2) : W2.ownsRow w.heap.size e n v m xs := by
  refine ⟨h.1, ?_⟩
  rcases h.2 with h1 | ⟨g, c, cur, e1, h2, h3, h4⟩
  · exact .inl h1
  · exact .inr ⟨g, c, cur, e1, h2, (ho.heap (Array.getElem?_eq_some_iff.1 h3).1 (by omega)).trans h3, h4⟩

theorem On.then {rb B : Nat} {w w1 w2 : World} (h : On rb w w1) (k : Below B w1 w2) (hB : w.heap.size ≤ B) : On rb w w2 :=
  ⟨k.os.trans h.os, k.tape.trans h.tape, k.output.trans h.output, Nat.le_trans h.size k.size, fun i hi hne => (k.block i (by omega)).trans (h.block i hi hne)⟩

theorem Rst.below' {w w' : World} {rb B : Nat} {bs : Bs} (h : Rst w rb bs) (hb : Below B w w') (hB : rb < B) : Rst w' rb bs := by
  obtain ⟨ao, cap, h1, h2, h3, h4, h5⟩ := h
  refine ⟨ao, cap, h1.below hb hB, ?_, h3, h4, h5⟩
  intro hl
  obtain ⟨b, off, rfl, hc⟩ := h2 hl
  have := h5 hl ⟨b, off, none⟩ rfl
  refine ⟨b, off, rfl, fun i hi => ?_⟩
  rw [World.cell?_of_block (w := w) (a := ⟨b, off + i, none⟩) (hb.block b (by simp at this; omega))]
  exact hc i hi
section
variable {α : Type} {n : Nat} {cs : α → List Value} (hn : ∀ x, (cs x).length = n)
include hn
theorem src_new {P : Program} (h1 : ∀ x, ∀ u ∈ cs x, u.oneCell' = true) (hpos : 0 < n) {tx e' : TypeId} (hk : P.underlying tx = some (.slice e')) (w : World) (x : α) (t : TypeId) :
    Src P n tx (.slice (some ⟨w.heap.size, 0, none⟩) 1 1) 1 (Fl cs [x]) (w.alloc (.cells (cs x).toArray t)) := by
  have hr : RowS n cs (w.alloc (.cells (cs x).toArray t)) (some ⟨w.heap.size, 0, none⟩) [x] := by
    intro _
    refine ⟨w.heap.size, 0, rfl, fun i y hy j v hv => ?_⟩
    have hi := lt_of hy
    simp at hi
    subst hi
    simp at hy
    subst hy
    simp only [Nat.zero_mul, Nat.zero_add]
    rw [cell_new]
    simpa using hv
  exact hr.src hn h1 hpos hk 1

theorem vs_own {w : World} {base m cap : Nat} {e : TypeId} {ao : Option Addr} {l : List α} (h : w.ownsRow base e n (.slice ao m cap) l.length (Fl cs l)) (hl : l.length ≤ 1000000000) : VS n cs base l (.slice ao l.length cap) w := by
  refine ⟨ao, cap, rfl, RowS.own hn h, ?_, hl⟩
  intro a ha
  subst ha
  rcases h.2 with ⟨e1, -⟩ | ⟨g, c, cur, e1, h2, h3, h4⟩
  · simp at e1
  · simp only [Value.slice.injEq, Option.some.injEq] at e1
    rw [e1.1]; exact h2
end

theorem info_G : (Tryz.prog.info? 43).map (fun i => (i.zero, i.size, i.bytes)) = some (some (.agg #[.int .i64 0, .string ⟨#[]⟩, .int .i64 0, .int .i64 0, .string ⟨#[]⟩, .int .i64 0]), 6, 64) := by kernel_rfl

theorem G_less {bs r : Bs} {x : Gt} (h : pGt bs = .ok (x, r)) : r.length < bs.length := by
  obtain ⟨rc, r1, h1, h⟩ := bindR_ok h
  obtain ⟨b, r2, h2, h⟩ := bindR_ok h
  obtain ⟨s, r3, h3, h⟩ := bindR_ok h
  simp only [pureR, Except.ok.injEq, Prod.mk.injEq] at h
  obtain ⟨q, r4, h4, h5⟩ := bindR_ok h1
  obtain ⟨g, r5, h6, h7⟩ := bindR_ok h5
  obtain ⟨t, r6, h8, h9⟩ := bindR_ok h7
  obtain ⟨c, r7, h10, h11⟩ := bindR_ok h9
  simp only [pureR, Except.ok.injEq, Prod.mk.injEq] at h11
  have e1 := (num_once h4).2.2.2
  have e2 := (text_once h6).2.2
  have e3 := (num_once h8).2.2.2
  have e4 := (num_once h10).2.2.2
  have e5 := (text_once h2).2.2
  have e6 := (num_once h3).2.2.2
  rw [← h.2]
  rw [h11.2] at e4
  omega

set_option maxHeartbeats 4000000 in
theorem manyG_any (w : World) (rb : Nat) (bs : Bs) (hst : Rst w rb bs) (hlen : bs.length ≤ 1000000000) :
    Calls Tryz.prog 94 #[.pointer (some ⟨rb, 0, none⟩), .func (Fn.func 95) #[.pointer (some ⟨rb, 0, none⟩)] #[]] w fun e w' => Got rb w (pMany pGt bs) (VS 6 gC w.heap.size) e w' := by
  have hlt := hst.lt
  have HN := num_any w rb bs hst hlen
  clear hst
  go_enter Tryz.func94, Tryz.ntmps94
  go_wp2_with fail
  refine HN.mono ?_
  rintro e W1 ⟨ho1, hc1⟩
  clear HN
  rcases hc1 with ⟨nn, r1, v, hp, rfl, hv, hs, hl1⟩ | ⟨er, hp, her, rfl⟩
  rotate_left
  · have HE : Hid (pMany pGt bs = .error er) := mkH (bindR_err hp)
    have HO := mkH ho1
    clear hp ho1
    unfold stopE
    go_wp2
    exact ⟨rfl, HO.out, .inr ⟨er, HE.out, her, rfl⟩⟩
  have hv : v = .int .i64 nn := hv
  subst hv
  obtain ⟨n0, n1, n2, n3⟩ := num_once hp
  have HP : Hid (pMany pGt bs = rep pGt nn.toNat [] r1) := mkH (bindR_of hp)
  have HO1 := mkH ho1
  have HS1 := mkH hs
  have hr1 : r1.length ≤ bs.length := by omega
  clear hp ho1 hs n2 n3
  obtain ⟨N, rfl⟩ : ∃ N : Nat, nn = (N : Int) := ⟨nn.toNat, by omega⟩
  rw [Int.toNat_natCast] at HP
  go_wp2
  go_loopw [5, 8] (fun v i wr => ∃ (k : Nat) (acc : List (Gt)) (rs : Bs), k ≤ N ∧ i = .int .i64 k ∧ acc.length = k ∧ k + rs.length ≤ 1000000000 ∧ Hid (pMany pGt bs = rep pGt (N - k) acc rs) ∧ Hid (wr.ownsRow w.heap.size 43 6 v acc.length (Fl gC acc)) ∧ Hid (On rb w wr) ∧ Hid (Rst wr rb rs)) (fun _ i _ => N - (intOf i).toNat)
  case atStart => exact ⟨0, [], r1, Nat.zero_le _, rfl, rfl, by omega, HP, mkH (World.ownsRow_nil _ _ _ _), HO1, HS1⟩
  case round =>
    obtain ⟨k, acc, rs, hk, rfl, hak, hkr, HP1, HW1, HO, HS⟩ := hrel
    by_cases hltk : k < N
    · have H2 := delivery_any wr rb rs HS.out (by omega)
      have hN : (k : Int) < (N : Int) := by omega
      obtain ⟨m, hm⟩ : ∃ m, N - k = m + 1 := ⟨N - k - 1, by omega⟩
      have HM := mkH hm
      clear hm
      go_wp2_with fail
      refine H2.mono ?_
      rintro e W2 ⟨ho2, hc2⟩
      clear H2
      have HO2 := mkH (HO.out.trans ho2)
      have HW2 := mkH (own_on HW1.out hlt ho2)
      clear HO HS ho2 HW1
      rcases hc2 with ⟨x, r2, v, hp, rfl, hv, hs, hl2⟩ | ⟨er, hp, her, rfl⟩
      rotate_left
      · have HE : Hid (pMany pGt bs = .error er) := mkH (by rw [HP1.out, HM.out]; exact bindR_err hp)
        clear hp
        unfold stopE
        go_wp2
        exact ⟨rfl, HO2.out, .inr ⟨er, HE.out, her, rfl⟩⟩
      have hless := G_less hp
      have HP2 : Hid (pMany pGt bs = rep pGt (N - (k + 1)) (acc ++ [x]) r2) := mkH (by rw [HP1.out, HM.out]; rw [show N - (k + 1) = m by have := HM.out; omega]; exact bindR_of hp)
      have hv : v = .agg (gC x).toArray := hv
      subst hv
      have HS2 := mkH hs
      have hsz2 := HO2.out.size
      clear hp hs HP1
      have hown := HW2.out
      have hcl := gC_len x
      have HSRC := mkH (src_new (P := Tryz.prog) gC_len gC_one (by decide) Tryz.underlying31 W2 x 43)
      go_wp2_with (at_builtin; refine wpList_append_own_src _ rfl (.tmp 10) (.tmp 13) 31 31 rfl w.heap.size 43 (.agg #[.int .i64 0, .string ⟨#[]⟩, .int .i64 0, .int .i64 0, .string ⟨#[]⟩, .int .i64 0]) 6 64 Tryz.underlying31 info_G rfl (by decide) _ acc.length (Fl gC acc) rfl (hown.alloc _) _ 1 (Fl gC [x]) rfl HSRC.out (by unfold maxLen; omega) (by omega) (by simp; omega) ?_; intro v3 W3 hown3 hgrow3; have HB3 := mkH (below_own (hown.alloc _) hgrow3 ((Below.refl w.heap.size W2).alloc hsz2 _) (by simp; omega)); have HW3 := mkH hown3; clear hown3 hgrow3)
      have HW4 : Hid (W3.ownsRow w.heap.size 43 6 v3 (acc ++ [x]).length (Fl gC (acc ++ [x]))) := mkH (by rw [Fl_append, List.length_append]; exact HW3.out)
      have HO3 := mkH (HO2.out.then HB3.out (Nat.le_refl _))
      have HS3 := mkH (HS2.out.below' HB3.out hlt)
      clear HW3 HW2 HB3 HO2 HS2 hown
      refine ⟨⟨k + 1, acc ++ [x], r2, by omega, by go_num, by simp [hak], by omega, HP2, HW4, HO3, HS3⟩, ?_⟩
      simp [intOf]; omega
    · have HE : Hid (pMany pGt bs = .ok (acc, rs)) := mkH (by rw [HP1.out, show N - k = 0 by omega]; rfl)
      obtain ⟨ao, cap, rfl⟩ := own_form HW1.out
      have HV : Hid (VS 6 gC w.heap.size acc (.slice ao acc.length cap) wr) := mkH (vs_own gC_len HW1.out (by omega))
      clear HP1 HW1
      go_wp2
      go_ret
      exact ⟨HO.out, .inl ⟨acc, rs, _, HE.out, rfl, HV.out, HS.out, by omega⟩⟩

theorem info_R : (Tryz.prog.info? 95).map (fun i => (i.zero, i.size, i.bytes)) = some (some (.agg #[.int .i64 0, .int .i64 0]), 2, 16) := by kernel_rfl

theorem R_less {bs r : Bs} {x : Int × Int} (h : pRg bs = .ok (x, r)) : r.length < bs.length := by
  obtain ⟨a, r1, h1, h⟩ := bindR_ok h
  obtain ⟨b, r2, h2, h⟩ := bindR_ok h
  simp only [pureR, Except.ok.injEq, Prod.mk.injEq] at h
  have e1 := (num_once h1).2.2.2
  have e2 := (num_once h2).2.2.2
  rw [← h.2]
  omega

set_option maxHeartbeats 4000000 in
theorem manyR_any (w : World) (rb : Nat) (bs : Bs) (hst : Rst w rb bs) (hlen : bs.length ≤ 1000000000) :
    Calls Tryz.prog 97 #[.pointer (some ⟨rb, 0, none⟩), .func (Fn.func 98) #[.pointer (some ⟨rb, 0, none⟩)] #[]] w fun e w' => Got rb w (pMany pRg bs) (VS 2 rC w.heap.size) e w' := by
  have hlt := hst.lt
  have HN := num_any w rb bs hst hlen
  clear hst
  go_enter Tryz.func97, Tryz.ntmps97
  go_wp2_with fail
  refine HN.mono ?_
  rintro e W1 ⟨ho1, hc1⟩
  clear HN
  rcases hc1 with ⟨nn, r1, v, hp, rfl, hv, hs, hl1⟩ | ⟨er, hp, her, rfl⟩
  rotate_left
  · have HE : Hid (pMany pRg bs = .error er) := mkH (bindR_err hp)
    have HO := mkH ho1
    clear hp ho1
    unfold stopE
    go_wp2
    exact ⟨rfl, HO.out, .inr ⟨er, HE.out, her, rfl⟩⟩
  have hv : v = .int .i64 nn := hv
  subst hv
  obtain ⟨n0, n1, n2, n3⟩ := num_once hp
  have HP : Hid (pMany pRg bs = rep pRg nn.toNat [] r1) := mkH (bindR_of hp)
  have HO1 := mkH ho1
  have HS1 := mkH hs
  have hr1 : r1.length ≤ bs.length := by omega
  clear hp ho1 hs n2 n3
  obtain ⟨N, rfl⟩ : ∃ N : Nat, nn = (N : Int) := ⟨nn.toNat, by omega⟩
  rw [Int.toNat_natCast] at HP
  go_wp2
  go_loopw [5, 8] (fun v i wr => ∃ (k : Nat) (acc : List (Int × Int)) (rs : Bs), k ≤ N ∧ i = .int .i64 k ∧ acc.length = k ∧ k + rs.length ≤ 1000000000 ∧ Hid (pMany pRg bs = rep pRg (N - k) acc rs) ∧ Hid (wr.ownsRow w.heap.size 95 2 v acc.length (Fl rC acc)) ∧ Hid (On rb w wr) ∧ Hid (Rst wr rb rs)) (fun _ i _ => N - (intOf i).toNat)
  case atStart => exact ⟨0, [], r1, Nat.zero_le _, rfl, rfl, by omega, HP, mkH (World.ownsRow_nil _ _ _ _), HO1, HS1⟩
  case round =>
    obtain ⟨k, acc, rs, hk, rfl, hak, hkr, HP1, HW1, HO, HS⟩ := hrel
    by_cases hltk : k < N
    · have H2 := places_any wr rb rs HS.out (by omega)
      have hN : (k : Int) < (N : Int) := by omega
      obtain ⟨m, hm⟩ : ∃ m, N - k = m + 1 := ⟨N - k - 1, by omega⟩
      have HM := mkH hm
      clear hm
      go_wp2_with fail
      refine H2.mono ?_
      rintro e W2 ⟨ho2, hc2⟩
      clear H2
      have HO2 := mkH (HO.out.trans ho2)
      have HW2 := mkH (own_on HW1.out hlt ho2)
      clear HO HS ho2 HW1
      rcases hc2 with ⟨x, r2, v, hp, rfl, hv, hs, hl2⟩ | ⟨er, hp, her, rfl⟩
      rotate_left
      · have HE : Hid (pMany pRg bs = .error er) := mkH (by rw [HP1.out, HM.out]; exact bindR_err hp)
        clear hp
        unfold stopE
        go_wp2
        exact ⟨rfl, HO2.out, .inr ⟨er, HE.out, her, rfl⟩⟩
      have hless := R_less hp
      have HP2 : Hid (pMany pRg bs = rep pRg (N - (k + 1)) (acc ++ [x]) r2) := mkH (by rw [HP1.out, HM.out]; rw [show N - (k + 1) = m by have := HM.out; omega]; exact bindR_of hp)
      have hv : v = .agg (rC x).toArray := hv
      subst hv
      have HS2 := mkH hs
      have hsz2 := HO2.out.size
      clear hp hs HP1
      have hown := HW2.out
      have hcl := rC_len x
      have HSRC := mkH (src_new (P := Tryz.prog) rC_len rC_one (by decide) Tryz.underlying32 W2 x 95)
      go_wp2_with (at_builtin; refine wpList_append_own_src _ rfl (.tmp 10) (.tmp 13) 32 32 rfl w.heap.size 95 (.agg #[.int .i64 0, .int .i64 0]) 2 16 Tryz.underlying32 info_R rfl (by decide) _ acc.length (Fl rC acc) rfl (hown.alloc _) _ 1 (Fl rC [x]) rfl HSRC.out (by unfold maxLen; omega) (by omega) (by simp; omega) ?_; intro v3 W3 hown3 hgrow3; have HB3 := mkH (below_own (hown.alloc _) hgrow3 ((Below.refl w.heap.size W2).alloc hsz2 _) (by simp; omega)); have HW3 := mkH hown3; clear hown3 hgrow3)
      have HW4 : Hid (W3.ownsRow w.heap.size 95 2 v3 (acc ++ [x]).length (Fl rC (acc ++ [x]))) := mkH (by rw [Fl_append, List.length_append]; exact HW3.out)
      have HO3 := mkH (HO2.out.then HB3.out (Nat.le_refl _))
      have HS3 := mkH (HS2.out.below' HB3.out hlt)
      clear HW3 HW2 HB3 HO2 HS2 hown
      refine ⟨⟨k + 1, acc ++ [x], r2, by omega, by go_num, by simp [hak], by omega, HP2, HW4, HO3, HS3⟩, ?_⟩
      simp [intOf]; omega
    · have HE : Hid (pMany pRg bs = .ok (acc, rs)) := mkH (by rw [HP1.out, show N - k = 0 by omega]; rfl)
      obtain ⟨ao, cap, rfl⟩ := own_form HW1.out
      have HV : Hid (VS 2 rC w.heap.size acc (.slice ao acc.length cap) wr) := mkH (vs_own rC_len HW1.out (by omega))
      clear HP1 HW1
      go_wp2
      go_ret
      exact ⟨HO.out, .inl ⟨acc, rs, _, HE.out, rfl, HV.out, HS.out, by omega⟩⟩
end Go.Proofs.YtenkgpfeifflnaaGreat.Wq

namespace Go.Proofs.YtenkgpfeifflnaaGreat.Wq
open Go.RowKit Kt Pl Wi Wk Rd Lt Fw Wa
open At (RowT)
set_option linter.unusedVariables false
set_option linter.unusedSimpArgs false
set_option maxRecDepth 20000
theorem hmf : ∀ (fn : Fn) (first cap : Array Value) (w : World), (Instr.makeFunc fn first cap).run Tryz.prog w = .ok (.func fn first cap) w := fun _ _ _ _ => rfl

theorem VS.on {α : Type} {n : Nat} {cs : α → List Value} {rb lo : Nat} {l : List α} {v : Value} {w w' : World} (h : VS n cs lo l v w) (hlo : rb < lo) (ho : On rb w w') : VS n cs lo l v w' := by
  obtain ⟨ao, cap, e, hr, hn, hl⟩ := h
  refine ⟨ao, cap, e, ?_, hn, hl⟩
  intro h0
  obtain ⟨b, off, rfl, hc⟩ := hr h0
  have hb := hn _ rfl
  refine ⟨b, off, rfl, fun i x hx j v hv => ?_⟩
  have h1 := hc i x hx j v hv
  rw [World.cell?_of_block (w := w) (a := ⟨b, off + i * n + j, none⟩) (ho.heap (World.block_lt_of_cell? w _ h1) (Nat.ne_of_gt (Nat.lt_of_lt_of_le hlo hb)))]
  exact h1

/-- A reply that was read. -/
def VQ (lo : Nat) (r : Rp) (v : Value) (w : World) : Prop := ∃ ga gc da dc ra rc, v = .agg (Pv r ga gc da dc ra rc) ∧ RpM w r ga da ra ∧ (∀ a, ga = some a → lo ≤ a.block) ∧ (∀ a, da = some a → lo ≤ a.block) ∧ (∀ a, ra = some a → lo ≤ a.block) ∧ Cnt r

set_option maxHeartbeats 8000000 in
theorem reply_any (w : World) (rb : Nat) (bs : Bs) (hst : Rst w rb bs) (hlen : bs.length ≤ 1000000000) :
    Calls Tryz.prog 78 #[.pointer (some ⟨rb, 0, none⟩)] w fun e w' => Got rb w (pRp bs) (VQ w.heap.size) e w' := by
  have hlt := hst.lt
  have hmf := hmf
  go_enter Tryz.func78, Tryz.ntmps78
  go_wp2_with fail
  refine startR (fun W0 Z hZ hBz hG => ?_)
  have HO0 := mkH (On.ofBelow (b := rb) hG.below)
  have HZ := mkH hZ
  have HP0 : Hid (pRp bs = pRp bs) := mkH rfl
  have HS0 := mkH (hst.below hG.below)
  have HB0 := mkH hBz
  have HNE : Hid (w.heap.size ≠ rb) := mkH (by omega)
  have HGT : Hid (rb < w.heap.size) := mkH hlt
  clear hst hBz hG hZ
  generalize hbq : w.heap.size = b2 at HB0 HNE HGT hlt ⊢
  have HBQ := mkH hbq
  clear hbq
  have H1 := num_any W0 rb bs HS0.out hlen
  refine H1.mono ?_
  rintro e W1 ⟨ho1, hc1⟩
  have HO1 := mkH (HO0.out.trans ho1)
  have HB1 := mkH (Wq.Bx.on HB0.out HNE.out ho1)
  clear H1 ho1 HO0 HB0 HS0
  rcases hc1 with ⟨err, r1, v, hp, rfl, hv, hs, hl1⟩ | ⟨er, hp, her, rfl⟩
  rotate_left
  · have HE := mkH (HP0.out.trans (bindR_err hp))
    clear hp HP0
    unfold stopE
    go_wp2
    exact ⟨rfl, HO1.out, .inr ⟨er, HE.out, her, rfl⟩⟩
  have HP1 := mkH (HP0.out.trans (bindR_of hp))
  have HS1 := mkH hs
  have hv : v = .int .i64 err := hv
  subst hv
  clear hp hs HP0
  go_wp2_with fail
  have H2 := num_any W1 rb r1 HS1.out hl1
  refine H2.mono ?_
  rintro e W2 ⟨ho2, hc2⟩
  have HO2 := mkH (HO1.out.trans ho2)
  have HB2 := mkH (Wq.Bx.on HB1.out HNE.out ho2)
  clear H2 ho2 HO1 HB1 HS1
  rcases hc2 with ⟨seq, r2, v, hp, rfl, hv, hs, hl2⟩ | ⟨er, hp, her, rfl⟩
  rotate_left
  · have HE := mkH (HP1.out.trans (bindR_err hp))
    clear hp HP1
    unfold stopE
    go_wp2
    exact ⟨rfl, HO2.out, .inr ⟨er, HE.out, her, rfl⟩⟩
  have HP2 := mkH (HP1.out.trans (bindR_of hp))
  have HS2 := mkH hs
  have hv : v = .int .i64 seq := hv
  subst hv
  clear hp hs HP1
  go_wp2_with fail
  have H3 := num_any W2 rb r2 HS2.out hl2
  refine H3.mono ?_
  rintro e W3 ⟨ho3, hc3⟩
  have HO3 := mkH (HO2.out.trans ho3)
  have HB3 := mkH (Wq.Bx.on HB2.out HNE.out ho3)
  clear H3 ho3 HO2 HB2 HS2
  rcases hc3 with ⟨n, r3, v, hp, rfl, hv, hs, hl3⟩ | ⟨er, hp, her, rfl⟩
  rotate_left
  · have HE := mkH (HP2.out.trans (bindR_err hp))
    clear hp HP2
    unfold stopE
    go_wp2
    exact ⟨rfl, HO3.out, .inr ⟨er, HE.out, her, rfl⟩⟩
  have HP3 := mkH (HP2.out.trans (bindR_of hp))
  have HS3 := mkH hs
  have hv : v = .int .i64 n := hv
  subst hv
  clear hp hs HP2
  go_wp2_with fail
  have HBp_got : Hid (b2 < W3.heap.size) := mkH HB3.out.lt
  have H4 := manyG_any W3 rb r3 HS3.out hl3
  refine H4.mono ?_
  rintro e W4 ⟨ho4, hc4⟩
  have HO4 := mkH (HO3.out.trans ho4)
  have HB4 := mkH (Wq.Bx.on HB3.out HNE.out ho4)
  clear H4 ho4 HO3 HB3 HS3
  rcases hc4 with ⟨got, r4, v, hp, rfl, hv, hs, hl4⟩ | ⟨er, hp, her, rfl⟩
  rotate_left
  · have HE := mkH (HP3.out.trans (bindR_err hp))
    clear hp HP3
    unfold stopE
    go_wp2
    exact ⟨rfl, HO4.out, .inr ⟨er, HE.out, her, rfl⟩⟩
  have HP4 := mkH (HP3.out.trans (bindR_of hp))
  have HS4 := mkH hs
  obtain ⟨v_got, hvv⟩ : ∃ y, y = v := ⟨v, rfl⟩
  have HK_got := mkH hv
  obtain ⟨a_got, c_got, ev_got⟩ : ∃ a c, v = .slice a got.length c := by obtain ⟨a, c, e, -⟩ := hv; exact ⟨a, c, e⟩
  subst ev_got
  clear hv hvv v_got
  clear hp hs HP3
  go_wp2_with fail
  have HBp_data : Hid (b2 < W4.heap.size) := mkH HB4.out.lt
  have H5 := data_any W4 rb r4 HS4.out hl4
  refine H5.mono ?_
  rintro e W5 ⟨ho5, hc5⟩
  have HO5 := mkH (HO4.out.trans ho5)
  have HB5 := mkH (Wq.Bx.on HB4.out HNE.out ho5)
  have HK_got := mkH (HK_got.out.on (by have := HBp_got.out; omega) ho5)
  clear H5 ho5 HO4 HB4 HS4
  rcases hc5 with ⟨data, r5, v, hp, rfl, hv, hs, hl5⟩ | ⟨er, hp, her, rfl⟩
  rotate_left
  · have HE := mkH (HP4.out.trans (bindR_err hp))
    clear hp HP4
    unfold stopE
    go_wp2
    exact ⟨rfl, HO5.out, .inr ⟨er, HE.out, her, rfl⟩⟩
  have HP5 := mkH (HP4.out.trans (bindR_of hp))
  have HS5 := mkH hs
  obtain ⟨v_data, hvv⟩ : ∃ y, y = v := ⟨v, rfl⟩
  have HK_data := mkH hv
  obtain ⟨a_data, c_data, ev_data⟩ : ∃ a c, v = .slice a data.length c := by obtain ⟨a, c, e, -⟩ := hv; exact ⟨a, c, e⟩
  subst ev_data
  clear hv hvv v_data
  clear hp hs HP4
  go_wp2_with fail
  have HBp_about : Hid (b2 < W5.heap.size) := mkH HB5.out.lt
  have H6 := manyR_any W5 rb r5 HS5.out hl5
  refine H6.mono ?_
  rintro e W6 ⟨ho6, hc6⟩
  have HO6 := mkH (HO5.out.trans ho6)
  have HB6 := mkH (Wq.Bx.on HB5.out HNE.out ho6)
  have HK_got := mkH (HK_got.out.on (by have := HBp_got.out; omega) ho6)
  have HK_data := mkH (HK_data.out.on (by have := HBp_data.out; omega) ho6)
  clear H6 ho6 HO5 HB5 HS5
  rcases hc6 with ⟨about, r6, v, hp, rfl, hv, hs, hl6⟩ | ⟨er, hp, her, rfl⟩
  rotate_left
  · have HE := mkH (HP5.out.trans (bindR_err hp))
    clear hp HP5
    unfold stopE
    go_wp2
    exact ⟨rfl, HO6.out, .inr ⟨er, HE.out, her, rfl⟩⟩
  have HP6 := mkH (HP5.out.trans (bindR_of hp))
  have HS6 := mkH hs
  obtain ⟨v_about, hvv⟩ : ∃ y, y = v := ⟨v, rfl⟩
  have HK_about := mkH hv
  obtain ⟨a_about, c_about, ev_about⟩ : ∃ a c, v = .slice a about.length c := by obtain ⟨a, c, e, -⟩ := hv; exact ⟨a, c, e⟩
  subst ev_about
  clear hv hvv v_about
  clear hp hs HP5
  have HI : Hid ((Tryz.prog.info? 34).map (·.size) = some (Pv ⟨err, seq, n, got, data, about⟩ a_got c_got a_data c_data a_about c_about).size) := mkH infoP
  have HSz : Hid (Z.size = (Pv ⟨err, seq, n, got, data, about⟩ a_got c_got a_data c_data a_about c_about).size) := mkH HZ.out
  have HOne : Hid ((Pv ⟨err, seq, n, got, data, about⟩ a_got c_got a_data c_data a_about c_about).all (fun x => x.oneCell') = true) := mkH (Pv_one _ _ _ _ _ _ _)
  have HLd := mkH (load_bx (P := Tryz.prog) (Wk.Bx.row HB6.out (cs := (Pv ⟨err, seq, n, got, data, about⟩ a_got c_got a_data c_data a_about c_about)) HSz.out) Tryz.underlying34 rfl HI.out)
  have HOf := mkH (HO6.out.setRow (Nat.le_of_eq HBQ.out) (Ne.symm HNE.out) (Pv ⟨err, seq, n, got, data, about⟩ a_got c_got a_data c_data a_about c_about))
  have HSf := mkH (HS6.out.setRow HGT.out (Pv ⟨err, seq, n, got, data, about⟩ a_got c_got a_data c_data a_about c_about))
  have HV : Hid (VQ w.heap.size ⟨err, seq, n, got, data, about⟩ (.agg (Pv ⟨err, seq, n, got, data, about⟩ a_got c_got a_data c_data a_about c_about)) (W6.setRow b2 (Pv ⟨err, seq, n, got, data, about⟩ a_got c_got a_data c_data a_about c_about))) := mkH (by
    obtain ⟨a1, c1, e1, q1, f1, l1⟩ := HK_got.out
    obtain ⟨a2, c2, e2, q2, f2, l2⟩ := HK_data.out
    obtain ⟨a3, c3, e3, q3, f3, l3⟩ := HK_about.out
    have g1 := HBp_got.out
    have g2 := HBp_data.out
    have g3 := HBp_about.out
    have hbq := HBQ.out
    simp only [Value.slice.injEq] at e1 e2 e3
    obtain ⟨rfl, -, rfl⟩ := e1
    obtain ⟨rfl, -, rfl⟩ := e2
    obtain ⟨rfl, -, rfl⟩ := e3
    refine ⟨_, _, _, _, _, _, rfl, ⟨RowS.setRow q1 (fun a ha => by have := f1 a ha; omega) _, Wk.RowT.setRow q2 (fun a ha => by have := f2 a ha; omega) _, RowS.setRow q3 (fun a ha => by have := f3 a ha; omega) _⟩, fun a ha => by have := f1 a ha; omega, fun a ha => by have := f2 a ha; omega, fun a ha => by have := f3 a ha; omega, l1, ?_, l3⟩
    show data.length ≤ 1000000
    omega)
  clear HK_got HK_data HK_about
  go_wp2_with (refine wpList_st rfl (ty := 34) (x := .tmp 2) (y := .tmp 19) rfl rfl rfl HB6.out HI.out HSz.out HOne.out ?_)
  refine ret_bx 2 34 rfl b2 rfl HLd.out rfl ?_
  exact ⟨HOf.out, .inl ⟨⟨err, seq, n, got, data, about⟩, r6, _, HP6.out, rfl, HV.out, HSf.out, hl6⟩⟩
end Go.Proofs.YtenkgpfeifflnaaGreat.Wq

namespace Go.Proofs.YtenkgpfeifflnaaGreat.Wu2
open Go.RowKit Kt Pl Wi Wk Wf Wfw Wy Wx Wa
open Wq hiding hmf
open Wu (startZ Two op_both hmf startZ2 onRow load_err results_two results_ct row_lt Two.on On.setRow On.setNew)
open At (RowT)
set_option linter.unusedVariables false
set_option linter.unusedSimpArgs false
set_option maxRecDepth 20000

/-- A reply's rows lie above. -/
structure Far (lo : Nat) (ga da ra : Option Addr) : Prop where
  a1 : ∀ a, ga = some a → lo ≤ a.block
  a2 : ∀ a, da = some a → lo ≤ a.block
  a3 : ∀ a, ra = some a → lo ≤ a.block

theorem Far.down {lo l : Nat} {ga da ra : Option Addr} (h : Far lo ga da ra) (hl : l ≤ lo) : Far l ga da ra := ⟨fun a ha => Nat.le_trans hl (h.a1 a ha), fun a ha => Nat.le_trans hl (h.a2 a ha), fun a ha => Nat.le_trans hl (h.a3 a ha)⟩

structure Apart (g : Nat) (ga da ra : Option Addr) : Prop where
  a1 : ∀ a, ga = some a → a.block ≠ g
  a2 : ∀ a, da = some a → a.block ≠ g
  a3 : ∀ a, ra = some a → a.block ≠ g

theorem Far.ne {lo g : Nat} {ga da ra : Option Addr} (h : Far lo ga da ra) (hl : g < lo) : Apart g ga da ra := ⟨fun a ha => by have := h.a1 a ha; omega, fun a ha => by have := h.a2 a ha; omega, fun a ha => by have := h.a3 a ha; omega⟩

theorem RpM.setRow {w : World} {r : Rp} {ga da ra : Option Addr} (h : RpM w r ga da ra) {g : Nat} (hp : Apart g ga da ra) (cs : Array Value) : RpM (w.setRow g cs) r ga da ra := ⟨RowS.setRow h.got hp.a1 cs, Wk.RowT.setRow h.data hp.a2 cs, RowS.setRow h.about hp.a3 cs⟩

theorem RpM.setCell {w : World} {r : Rp} {ga da ra : Option Addr} (h : RpM w r ga da ra) {p : Addr} (hp : Apart p.block ga da ra) (v : Value) : RpM (w.setCell p v) r ga da ra := ⟨RowS.setCell h.got hp.a1 v, Wk.RowT.setCell h.data hp.a2 v, RowS.setCell h.about hp.a3 v⟩

/-- The deferred closure, where nothing panics. -/
theorem idle_any (p q : Addr) (w : World) : CallsD Tryz.prog 90 #[.pointer (some p), .pointer (some q)] .returning w fun e u' w' => e = .returned (.tuple #[]) ∧ u' = .returning ∧ w' = w := by
  refine callsD_of_wpS Tryz.func90 rfl fun c₀ cs hu => ?_
  apply wpS_seq
  apply wpS_region
  simp [wpOpsS, go_sem, recoverD, hu, Tryz.ntmps90, Exit.thenS]
  refine wpS_of_wp ?_
  simp only [Array.replicate_succ, Array.replicate_zero, List.push_toArray, List.append_toArray, List.nil_append, List.cons_append, List.setIfInBounds_toArray, List.set_cons_zero, List.set_cons_succ]
  go_wp2
  cases c₀
  simp_all [bodyPostS, results, Tryz.results90]

def Zc : Array Value := Pv Rp.none none 0 none 0 none 0

theorem infoZ : (Tryz.prog.info? 34).map (·.size) = some Zc.size := by kernel_rfl

theorem Zc_one : Zc.all (fun x => x.oneCell') = true := by unfold Zc Pv; rw [List.all_toArray]; rfl

set_option maxHeartbeats 4000000 in
/-- The deferred closure, where a reader has stopped: the results are laid. -/
theorem catch_any (bp bq er : Nat) (C : Array Value) (old : Value) (older : List PanicEntry) (w : World) (hp : Bx w bp C 34) (hC : C.size = 6) (hq : Bx w bq #[old] 30) (hne : bp ≠ bq) :
    CallsD Tryz.prog 90 #[.pointer (some ⟨bp, 0, none⟩), .pointer (some ⟨bq, 0, none⟩)] (.panicking ({ v := .iface 153 (.agg #[.int .i64 er]), recovered := false } :: older)) w fun e u' w' =>
      e = .returned (.tuple #[]) ∧ u' = .panicking ({ v := .iface 153 (.agg #[.int .i64 er]), recovered := true } :: older) ∧ Bx w' bp Zc 34 ∧ Bx w' bq #[.int .i64 er] 30 ∧ Two bp bq w w' := by
  refine callsD_of_wpS Tryz.func90 rfl fun c₀ cs hu => ?_
  apply wpS_seq
  apply wpS_region
  simp [wpOpsS, go_sem, recoverD, hu, Tryz.ntmps90, Exit.thenS]
  refine wpS_of_wp ?_
  simp only [Array.replicate_succ, Array.replicate_zero, List.push_toArray, List.append_toArray, List.nil_append, List.cons_append, List.setIfInBounds_toArray, List.set_cons_zero, List.set_cons_succ]
  have HI : Hid ((Tryz.prog.info? 34).map (·.size) = some Zc.size) := mkH infoZ
  have hta : ∀ W : World, (Instr.typeAssert (.iface 153 (.agg #[.int .i64 er])) 20 153 false).run Tryz.prog W = .ok (.agg #[.int .i64 er]) W := fun _ => by kernel_rfl
  have hfi : ∀ W : World, (Instr.field 153 (.agg #[.int .i64 er]) 0).run Tryz.prog W = .ok (.int .i64 er) W := fun _ => by kernel_rfl
  have hlp := hp.lt
  have hlq := hq.lt
  have HP0 := mkH hp
  have HQ0 := mkH hq
  have HU := mkH hu
  clear hp hq hu
  go_wp2_with fail
  refine startZ (zs := Zc) (fun W0 hBz hG => ?_)
  have hp1 := HP0.out.gr (hG.trans ((Gr.refl W0).drew))
  have hq1 := HQ0.out.gr (hG.trans ((Gr.refl W0).drew))
  have HW := mkH (hG.trans ((Gr.refl W0).drew))
  have HBz := mkH hBz
  generalize hb3 : w.heap.size = b3 at hBz HBz ⊢
  refine wp_region_held_drew (S := fun W => Bx W b3 Zc 34) (by kernel_rfl) (hBz.gr ((Gr.refl W0).drew)) (fun hHeld => ?_)
  clear hG hBz
  refine wpAnyH_take (i := 1) (oi := { dst := some 8, op := _, type := _, pos := _, after := _, guard := _ }) (v := ?_) rfl (by kernel_rfl) (by kernel_rfl) (by kernel_rfl) (fun _ _ _ h => h) (Or.inl ⟨by rfl, ?_⟩) (by assumption) ?_
  rotate_left
  · (intro W hSw; (try dsimp only at hSw); go_simp; try (with_reducible rfl))
  try simp only [Act.put, List.setIfInBounds_toArray, List.set_cons_zero, List.set_cons_succ]
  refine wpAnyH_take (i := 2) (oi := { dst := some 9, op := _, type := _, pos := _, after := _, guard := _ }) (v := ?_) rfl (by kernel_rfl) (by kernel_rfl) (by kernel_rfl) (fun _ _ _ h => h) (Or.inl ⟨by rfl, ?_⟩) (by assumption) ?_
  rotate_left
  · (intro W hSw; (try dsimp only at hSw); go_simp; try (with_reducible rfl))
  try simp only [Act.put, List.setIfInBounds_toArray, List.set_cons_zero, List.set_cons_succ]
  refine wpAnyH_take (i := 3) (oi := { dst := some 10, op := _, type := _, pos := _, after := _, guard := _ }) (v := ?_) rfl (by kernel_rfl) (by kernel_rfl) (by kernel_rfl) (fun _ _ _ h => h) (Or.inl ⟨by rfl, ?_⟩) (by assumption) ?_
  rotate_left
  · (intro W hSw; (try dsimp only at hSw); go_simp; try (with_reducible rfl))
  try simp only [Act.put, List.setIfInBounds_toArray, List.set_cons_zero, List.set_cons_succ]
  refine wpAnyH_take (i := 0) (oi := { dst := some 7, op := _, type := _, pos := _, after := _, guard := _ }) (v := .agg Zc) rfl (by kernel_rfl) (by kernel_rfl) (by kernel_rfl) (fun _ _ _ h => h) (Or.inl ⟨by rfl, ?_⟩) (by assumption) ?_
  · (intro W hSw; exact run_ld rfl rfl (load_bx (P := Tryz.prog) hSw Tryz.underlying34 rfl HI.out))
  try simp only [Act.put, List.setIfInBounds_toArray, List.set_cons_zero, List.set_cons_succ]
  have hb3p : bp ≠ b3 := by omega
  have hb3q : bq ≠ b3 := by omega
  have hst := run_st (P := Tryz.prog) (w := W0.drew) (o := { dst := none, op := .store 34 (.tmp 0) (.tmp 7), type := 0, pos := "", after := #[], guard := none }) (a := { tmps := #[.pointer (some ⟨bp, 0, none⟩), undef, undef, undef, undef, undef, undef, .agg Zc], defers := [] }) rfl rfl rfl hp1 HI.out (hC.trans rfl) Zc_one
  have hp2 := Wk.Bx.row hp1 (cs := Zc) (hC.trans rfl)
  have hq2 := Wk.Bx.rowOther hq1 hne Zc
  have hz2 := Wk.Bx.rowOther hHeld hb3p Zc
  refine wpAnyH_one (i := 4) (by kernel_rfl) (op_both rfl rfl (w' := W0.drew.setRow bp Zc) (run_st (P := Tryz.prog) rfl rfl rfl hp1 HI.out (hC.trans rfl) Zc_one) ⟨hz2, ?_⟩)
  simp only [Act.put]
  have hc2 : (W0.drew.setRow bp Zc).cell? ⟨bq, 0, none⟩ = some old := hq2.cell 0
  have hf2 := hq2.frozen 0
  refine wpAnyH_one (i := 5) (by kernel_rfl) (op_skip rfl rfl (w' := (W0.drew.setRow bp Zc).setCell ⟨bq, 0, none⟩ (.int .i64 er)) ?_ ⟨hz2.other (by simpa using hb3q) _, ?_⟩)
  · clear hst hp2 hq2 hz2 hHeld hp1 hq1 hta hfi
    go_simp
  simp only [Act.put]
  refine wpAnyH_done (by kernel_rfl) ?_ _
  have HX := mkH (hp2.other (p := ⟨bq, 0, none⟩) (fun e => hne e.symm) (.int .i64 er))
  have HY : Hid (Bx ((W0.drew.setRow bp Zc).setCell ⟨bq, 0, none⟩ (.int .i64 er)) bq #[.int .i64 er] 30) := mkH (hq2.set 0 (.int .i64 er))
  have HT : Hid (Two bp bq w ((W0.drew.setRow bp Zc).setCell ⟨bq, 0, none⟩ (.int .i64 er))) := mkH ⟨HW.out.below.os, HW.out.below.tape, HW.out.below.output, by simpa using HW.out.below.size, fun k hk h1 h2 => by rw [heap_setCell_other _ _ _ _ h2, setRow_other _ _ _ _ h1]; exact HW.out.below.block k hk⟩
  clear hst hp2 hq2 hz2 hHeld hp1 hq1 hta hfi hc2 hf2
  go_wp2
  refine ⟨rfl, _, rfl, .tuple #[], ?_, rfl, rfl, HX.out, HY.out, HT.out⟩
  simp [results, Tryz.results90]

/-- What the reading of a whole command tells. -/
def WhR (rb : Nat) (w : World) (bs : Bs) (e : Ending) (w' : World) : Prop := On rb w w' ∧
  ((∃ c ga gc da dc ra rc, readRp bs = .ok c ∧ e = .returned (.tuple #[.agg (Pv c ga gc da dc ra rc), .int .i64 0]) ∧ RpM w' c ga da ra ∧ (∀ a, ga = some a → w.heap.size ≤ a.block) ∧ (∀ a, da = some a → w.heap.size ≤ a.block) ∧ (∀ a, ra = some a → w.heap.size ≤ a.block) ∧ Cnt c)
   ∨ (∃ er : Nat, readRp bs = .error er ∧ er ≠ 0 ∧ e = .returned (.tuple #[.agg Zc, .int .i64 er])))

theorem door_ok (w : World) (tmps C : Array Value) (v : Value) (R : Ending → World → Prop) (b c : Nat) (hB : Bx w b C 34) (hC : C.size = 6) (hE : Bx w c #[v] 30)
    (h6 : tmps.getD 6 undef = .pointer (some ⟨b, 0, none⟩)) (h7 : tmps.getD 7 undef = .pointer (some ⟨c, 0, none⟩)) (hR : R (.returned (.tuple #[.agg C, v])) w) :
    bodyPostD Tryz.prog Tryz.f77 R .ret { tmps := tmps, defers := [{ target := .fn (Fn.func 90) #[.pointer (some ⟨b, 0, none⟩), .pointer (some ⟨c, 0, none⟩)], args := #[] }] } w := by
  refine leaves_cons (f := 90) (args := #[.pointer (some ⟨b, 0, none⟩), .pointer (some ⟨c, 0, none⟩)]) (by simp) (by simp [go_sem]) ?_
  refine (idle_any _ _ w).mono ?_
  rintro e u' w'' ⟨rfl, rfl, rfl⟩
  exact ⟨_, results_two rfl _ _ _ h6 h7 (load_bx hB Tryz.underlying34 rfl (hC ▸ infoP)) (load_err hE), hR⟩

theorem door_bad (w : World) (tmps C : Array Value) (v : Value) (R : Ending → World → Prop) (b c er : Nat) (hB : Bx w b C 34) (hC : C.size = 6) (hE : Bx w c #[v] 30) (hne : b ≠ c)
    (h6 : tmps.getD 6 undef = .pointer (some ⟨b, 0, none⟩)) (h7 : tmps.getD 7 undef = .pointer (some ⟨c, 0, none⟩)) (hR : ∀ w', Two b c w w' → R (.returned (.tuple #[.agg Zc, .int .i64 er])) w') :
    bodyPostD Tryz.prog Tryz.f77 R (.panic [{ v := .iface 153 (.agg #[.int .i64 er]), recovered := false }]) { tmps := tmps, defers := [{ target := .fn (Fn.func 90) #[.pointer (some ⟨b, 0, none⟩), .pointer (some ⟨c, 0, none⟩)], args := #[] }] } w := by
  refine leaves_cons (f := 90) (args := #[.pointer (some ⟨b, 0, none⟩), .pointer (some ⟨c, 0, none⟩)]) (by simp) (by simp [go_sem]) ?_
  refine (catch_any b c er C v [] w hB hC hE hne).mono ?_
  rintro e u' w'' ⟨rfl, rfl, hB', hE', hT⟩
  exact ⟨_, results_two rfl _ _ _ h6 h7 (load_bx hB' Tryz.underlying34 rfl infoP) (load_err hE'), hR _ hT⟩

set_option maxHeartbeats 8000000 in
theorem whole_any (w : World) (rb : Nat) (bs : Bs) (hst : Rst w rb bs) (hlen : bs.length ≤ 1000000000) : 
    Calls Tryz.prog 77 #[.pointer (some ⟨rb, 0, none⟩), .func (Fn.func 78) #[.pointer (some ⟨rb, 0, none⟩)] #[], .func (Fn.func 79) #[] #[]] w fun e w' => WhR rb w bs e w' := by
  have hmf := hmf
  have hrb := hst.lt
  go_enter_defers Tryz.func77, Tryz.ntmps77
  go_wp2_with fail
  refine startZ2 (zs := Zc) (fun W0 hZ hY hG hsz => ?_)
  have HO0 := mkH (On.ofBelow (b := rb) hG.below)
  have hs0 := hst.below hG.below
  have hlo : W0.heap.size = w.heap.size + 2 := hsz
  clear hst hG hsz
  have HC := reply_any W0 rb bs hs0 hlen
  rw [hlo] at HC
  clear hs0 hlo
  have HB0 := mkH hZ
  have HY0 := mkH hY
  have HW : Hid (∀ e w', WhR rb w bs e w' → WhR rb w bs e w') := mkH (fun _ _ h => h)
  clear hZ hY
  refine HC.mono ?_
  rintro e W1 ⟨ho1, hc1⟩
  have HO1 := mkH (HO0.out.trans ho1)
  have HB1 := mkH (Wq.Bx.on HB0.out (by omega) ho1)
  have HY1 := mkH (Wq.Bx.on HY0.out (by omega) ho1)
  clear HC ho1 HO0 HB0 HY0
  rcases hc1 with ⟨c, r1, v, hp, rfl, hv, hs, hl1⟩ | ⟨er, hp, her, rfl⟩
  rotate_left
  · unfold stopE
    go_wp2_with fail
    have HE : readRp bs = .error er := by unfold readRp Wi.whole; rw [hp]
    exact door_bad W1 _ Zc _ _ _ _ er HB1.out rfl HY1.out (by omega) rfl rfl (fun w' hT => ⟨hT.on HO1.out (by omega) (by omega), .inr ⟨er, HE, her, rfl⟩⟩)
  obtain ⟨ga, gc, da, dc, ra, rc, rfl, hr, hlo1, hlo2, hlo3, hdl⟩ := hv
  have hlo : Far (w.heap.size + 2) ga da ra := ⟨hlo1, hlo2, hlo3⟩
  clear hlo1 hlo2 hlo3
  have h1 : (Pv c ga gc da dc ra rc).all (fun x => x.oneCell') = true := by exact Pv_one _ _ _ _ _ _ _
  have H1 := mkH h1
  clear h1
  go_wp2_with (refine wpList_st rfl rfl rfl rfl HB1.out (cs := Pv c ga gc da dc ra rc) infoP rfl H1.out ?_)
  have HB2 := mkH (HB1.out.row (cs := Pv c ga gc da dc ra rc) rfl)
  have HY2 := mkH (HY1.out.rowOther (g := w.heap.size) (by omega) (Pv c ga gc da dc ra rc))
  have HO2 := mkH (On.setRow HO1.out (Nat.le_refl _) (Pv c ga gc da dc ra rc))
  have HR2 := mkH (RpM.setRow hr (g := w.heap.size) (hlo.ne (by omega)) (Pv c ga gc da dc ra rc))
  have hs2 : Rst (W1.setRow w.heap.size (Pv c ga gc da dc ra rc)) rb r1 := by
    obtain ⟨ao', cap', k1, k2, k3, k4, k5⟩ := hs
    exact ⟨ao', cap', k1.rowOther (by omega) _, Wq.Row.on k2 (rb := w.heap.size) (fun h a ha => by have := k5 h a ha; omega) (onRow _ _ _), k3, k4, k5⟩
  have HHP := mkH hp
  have HLO := mkH hlo
  have HDL := mkH hdl
  clear HB1 HY1 HO1 hr hs hp hlo hdl
  generalize W1.setRow w.heap.size (Pv c ga gc da dc ra rc) = W2 at *
  have HEND := end_any W2 rb r1 hs2 hl1
  clear hs2 hl1
  refine HEND.mono ?_
  rintro e W3 ⟨rfl, h⟩
  rcases h with ⟨h0, rfl⟩ | ⟨h0, rfl⟩
  rotate_left
  · unfold stopE
    go_wp2_with fail
    have HE : readRp bs = .error 5 := by unfold readRp Wi.whole; rw [HHP.out]; simp [h0]
    exact door_bad W3 _ _ _ _ _ _ 5 HB2.out rfl HY2.out (by omega) rfl rfl (fun w' hT => ⟨hT.on HO2.out (by omega) (by omega), .inr ⟨5, HE, by omega, rfl⟩⟩)
  have HRD : Hid (readRp bs = if checkR c ≠ 0 then .error (checkR c) else .ok c) := mkH (by unfold readRp Wi.whole; rw [HHP.out]; simp [h0])
  clear HEND h0 HHP
  have HCK := checkReply_any W3 c ga gc da dc ra rc HR2.out HDL.out
  go_wp2_with (refine wpList_ld rfl rfl rfl (load_pv HB2.out) ?_)
  refine HCK.mono ?_
  rintro e W4 ⟨rfl, hG⟩
  have HB4 := mkH (HB2.out.gr hG)
  have HY4 := mkH (HY2.out.gr hG)
  have HO4 := mkH (HO2.out.trans (On.ofBelow hG.below))
  have HR4 := mkH (RpM.gr HR2.out hG)
  clear HCK hG HB2 HY2 HO2 HR2
  by_cases hck : checkR c = 0
  rotate_left
  · have HS := stopAt_bad W4 (checkR c) hck
    have HE : readRp bs = .error (checkR c) := by rw [HRD.out]; simp [hck]
    go_wp2_with fail
    refine HS.mono ?_
    rintro e W5 ⟨rfl, rfl⟩
    unfold stopE
    clear HS
    go_wp2_with fail
    exact door_bad W5 _ _ _ _ _ _ _ HB4.out rfl HY4.out (by omega) rfl rfl (fun w' hT => ⟨hT.on HO4.out (by omega) (by omega), .inr ⟨_, HE, hck, rfl⟩⟩)
  have HE : Hid (readRp bs = .ok c) := mkH (by rw [HRD.out]; simp [hck])
  have HS := stopAt_ok W4
  rw [hck]
  clear HRD hck
  go_wp2_with fail
  refine HS.mono ?_
  rintro e W5 ⟨rfl, rfl⟩
  clear HS
  have HB5 := mkH (HB4.out.row (cs := Pv c ga gc da dc ra rc) rfl)
  have hy5 := HY4.out.rowOther (g := w.heap.size) (by omega) (Pv c ga gc da dc ra rc)
  have HO5 := mkH (On.setRow HO4.out (Nat.le_refl _) (Pv c ga gc da dc ra rc))
  have HR5 := mkH (RpM.setRow HR4.out (g := w.heap.size) (HLO.out.ne (by omega)) (Pv c ga gc da dc ra rc))
  have hc5 : (W5.setRow w.heap.size (Pv c ga gc da dc ra rc)).cell? ⟨w.heap.size + 1, 0, none⟩ = some (.int .i64 0) := hy5.cell 0
  have hf5 := hy5.frozen 0
  have HY5 := mkH hy5
  clear hy5
  go_wp2_with (first
    | (refine wpList_ld rfl rfl rfl (load_pv HB4.out) ?_)
    | (refine wpList_st rfl rfl rfl rfl HB4.out (cs := Pv c ga gc da dc ra rc) infoP rfl H1.out ?_))
  generalize W5.setRow w.heap.size (Pv c ga gc da dc ra rc) = W6 at *
  have HY6 : Hid (Bx (W6.setCell ⟨w.heap.size + 1, 0, none⟩ (.int .i64 0)) (w.heap.size + 1) #[.int .i64 0] 30) := mkH (HY5.out.set 0 (.int .i64 0))
  refine door_ok _ _ _ _ _ _ _ (HB5.out.other (p := ⟨w.heap.size + 1, 0, none⟩) (by simp) _) rfl HY6.out rfl rfl ⟨On.setNew HO5.out (by simp) _, .inl ⟨c, ga, gc, da, dc, ra, rc, HE.out, rfl, RpM.setCell HR5.out (HLO.out.ne (by simp)) _, (HLO.out.down (by omega)).1, (HLO.out.down (by omega)).2, (HLO.out.down (by omega)).3, HDL.out⟩⟩

/-- What ReadCmd tells. -/
def RdR (w : World) (bs : Bs) (e : Ending) (w' : World) : Prop := Below w.heap.size w w' ∧
  ((∃ c ga gc da dc ra rc, readRp bs = .ok c ∧ e = .returned (.tuple #[.agg (Pv c ga gc da dc ra rc), .int .i64 0]) ∧ RpM w' c ga da ra ∧ (∀ a, ga = some a → w.heap.size ≤ a.block) ∧ (∀ a, da = some a → w.heap.size ≤ a.block) ∧ (∀ a, ra = some a → w.heap.size ≤ a.block) ∧ Cnt c)
   ∨ (∃ er : Nat, readRp bs = .error er ∧ er ≠ 0 ∧ e = .returned (.tuple #[.agg Zc, .int .i64 er])))

set_option maxHeartbeats 8000000 in
theorem readRpd_any (w : World) (ao : Option Addr) (cap : Nat) (bs : Bs) (hr : Row w ao bs) (hlen : bs.length ≤ 1000000000) (hcap : bs.length ≤ cap) (h63 : cap ≤ 9223372036854775807) :
    Calls Tryz.prog 65 #[.slice ao bs.length cap] w fun e w' => RdR w bs e w' := by
  have hmf := hmf
  have hlt := row_lt hr
  go_enter Tryz.func65, Tryz.ntmps65
  go_wp2_with fail
  refine startZ2 (zs := Zc) (fun W0 hZ hY hG hsz => ?_)
  have hst : Rst W0 (w.heap.size + 1) bs := ⟨ao, cap, hY, hr.below hG.below, hcap, h63, fun h a ha => by have := hlt h a ha; omega⟩
  have H := whole_any W0 (w.heap.size + 1) bs hst hlen
  have HZ := mkH hZ
  have HG := mkH hG
  clear hst hr hlt hY hZ hG
  refine H.mono ?_
  rintro e W1 ⟨ho1, hc1⟩
  have HB1 := mkH (Wq.Bx.on HZ.out (by omega) ho1)
  have HO1 := mkH (HG.out.below.trans (ho1.below (B := w.heap.size) (by omega) (by omega)))
  clear H HZ HG ho1
  rcases hc1 with ⟨c, ga, gc, da, dc, ra, rc, hp, rfl, hrt, hlo1, hlo2, hlo3, hdl⟩ | ⟨er, hp, her, rfl⟩
  · have H1 := mkH (Pv_one c ga gc da dc ra rc)
    have HP := mkH hp
    have hlo : Far W0.heap.size ga da ra := ⟨hlo1, hlo2, hlo3⟩
    clear hlo1 hlo2 hlo3
    have HRT := mkH (RpM.setRow hrt (g := w.heap.size) (hlo.ne (by omega)) (Pv c ga gc da dc ra rc))
    have HL := mkH hlo
    have HD := mkH hdl
    clear hp hrt hlo hdl
    go_wp2_with (refine wpList_st rfl rfl rfl rfl HB1.out (cs := Pv c ga gc da dc ra rc) infoP rfl H1.out ?_)
    refine bodyPost_ret (results_ct rfl _ _ _ rfl rfl (load_pv (HB1.out.row rfl))) rfl ⟨below_setRow HO1.out (Nat.le_refl _) _, .inl ⟨c, ga, gc, da, dc, ra, rc, HP.out, rfl, HRT.out, (HL.out.down (by omega)).1, (HL.out.down (by omega)).2, (HL.out.down (by omega)).3, HD.out⟩⟩
  · have HP := mkH hp
    clear hp
    go_wp2_with (refine wpList_st rfl rfl rfl rfl HB1.out (cs := Zc) infoZ rfl Zc_one ?_)
    refine bodyPost_ret (results_ct rfl _ _ _ rfl rfl (load_bx (HB1.out.row rfl) Tryz.underlying34 rfl infoZ)) rfl ⟨below_setRow HO1.out (Nat.le_refl _) _, .inr ⟨er, HP.out, her, rfl⟩⟩
end Go.Proofs.YtenkgpfeifflnaaGreat.Wu2
