/-
  Lists of deliveries and of ranges, as they are read.
-/
import Derived.Test.YtjboldahmndkeaaWiJG
import Derived.Test.YtjboldahmndkeaaWiA
namespace Go.Proofs.Ytjboldahmndkeaa.Wq
open Go.RowKit Kt Pl Wi Wk Rd Lt Fw Wa
open At (RowT)
set_option linter.unusedVariables false
set_option linter.unusedSimpArgs false
set_option maxRecDepth 20000

/-- A list of structs that was read. -/
def VS {α : Type} (n : Nat) (cs : α → List Value) (lo : Nat) (l : List α) (v : Value) (w : World) : Prop := ∃ ao cap, v = .slice ao l.length cap ∧ RowS n cs w ao l ∧ (∀ a, ao = some a → lo ≤ a.block) ∧ l.length ≤ 1000000000
theorem own_on {w wr W2 : World} {rb n m : Nat} {e : TypeId} {v : Value} {xs : List Value} (h : wr.ownsRow w.heap.size e n v m xs) (hlt : rb < w.heap.size) (ho : On rb wr W2) : W2.ownsRow w.heap.size e n v m xs := by
  refine ⟨h.1, ?_⟩
  rcases h.2 with h1 | ⟨g, c, cur, e1, h2, h3, h4⟩
  · exact .inl h1
  · exact .inr ⟨g, c, cur, e1, h2, (ho.heap (Array.getElem?_eq_some_iff.1 h3).1 (by omega)).trans h3, h4⟩
theorem On.then {rb B : Nat} {w w1 w2 : World} (h : On rb w w1) (k : Below B w1 w2) (hB : w.heap.size ≤ B) : On rb w w2 :=
  ⟨k.os.trans h.os, k.tape.trans h.tape, k.output.trans h.output, Nat.le_trans h.size k.size, fun i hi hne => (k.block i (by omega)).trans (h.block i hi hne)⟩
theorem Rst.below' {w w' : World} {rb B : Nat} {bs : Bs} (h : Rst w rb bs) (hb : Below B w w') (hB : rb < B) : Rst w' rb bs := by
  obtain ⟨ao, cap, h1, h2, h3, h4, h5⟩ := h
  refine ⟨ao, cap, h1.below hb hB, ?_, h3, h4, h5⟩
  intro hl
  obtain ⟨b, off, rfl, hc⟩ := h2 hl
  have := h5 hl ⟨b, off, none⟩ rfl
  refine ⟨b, off, rfl, fun i hi => ?_⟩
  rw [World.cell?_of_block (w := w) (a := ⟨b, off + i, none⟩) (hb.block b (by simp at this; omega))]
  exact hc i hi
section
variable {α : Type} {n : Nat} {cs : α → List Value} (hn : ∀ x, (cs x).length = n)
include hn
theorem src_new {P : Program} (h1 : ∀ x, ∀ u ∈ cs x, u.oneCell' = true) (hpos : 0 < n) {tx e' : TypeId} (hk : P.underlying tx = some (.slice e')) (w : World) (x : α) (t : TypeId) :
    Src P n tx (.slice (some ⟨w.heap.size, 0, none⟩) 1 1) 1 (Fl cs [x]) (w.alloc (.cells (cs x).toArray t)) := by
  have hr : RowS n cs (w.alloc (.cells (cs x).toArray t)) (some ⟨w.heap.size, 0, none⟩) [x] := by
    intro _
    refine ⟨w.heap.size, 0, rfl, fun i y hy j v hv => ?_⟩
    have hi := lt_of hy
    simp at hi
    subst hi
    simp at hy
    subst hy
    simp only [Nat.zero_mul, Nat.zero_add]
    rw [cell_new]
    simpa using hv
  exact hr.src hn h1 hpos hk 1
theorem vs_own {w : World} {base m cap : Nat} {e : TypeId} {ao : Option Addr} {l : List α} (h : w.ownsRow base e n (.slice ao m cap) l.length (Fl cs l)) (hl : l.length ≤ 1000000000) : VS n cs base l (.slice ao l.length cap) w := by
  refine ⟨ao, cap, rfl, RowS.own hn h, ?_, hl⟩
  intro a ha
  subst ha
  rcases h.2 with ⟨e1, -⟩ | ⟨g, c, cur, e1, h2, h3, h4⟩
  · simp at e1
  · simp only [Value.slice.injEq, Option.some.injEq] at e1
    rw [e1.1]; exact h2
end

theorem info_G : (Try.prog.info? 73).map (fun i => (i.zero, i.size, i.bytes)) = some (some (.agg #[.int .i64 0, .string ⟨#[]⟩, .int .i64 0, .int .i64 0, .string ⟨#[]⟩, .int .i64 0]), 6, 64) := by kernel_rfl
theorem G_less {bs r : Bs} {x : Gt} (h : pGt bs = .ok (x, r)) : r.length < bs.length := by
  obtain ⟨rc, r1, h1, h⟩ := bindR_ok h
  obtain ⟨b, r2, h2, h⟩ := bindR_ok h
  obtain ⟨s, r3, h3, h⟩ := bindR_ok h
  simp only [pureR, Except.ok.injEq, Prod.mk.injEq] at h
  obtain ⟨q, r4, h4, h5⟩ := bindR_ok h1
  obtain ⟨g, r5, h6, h7⟩ := bindR_ok h5
  obtain ⟨t, r6, h8, h9⟩ := bindR_ok h7
  obtain ⟨c, r7, h10, h11⟩ := bindR_ok h9
  simp only [pureR, Except.ok.injEq, Prod.mk.injEq] at h11
  have e1 := (num_once h4).2.2.2
  have e2 := (text_once h6).2.2
  have e3 := (num_once h8).2.2.2
  have e4 := (num_once h10).2.2.2
  have e5 := (text_once h2).2.2
  have e6 := (num_once h3).2.2.2
  rw [← h.2]
  rw [h11.2] at e4
  omega

set_option maxHeartbeats 4000000 in
theorem manyG_any (w : World) (rb : Nat) (bs : Bs) (hst : Rst w rb bs) (hlen : bs.length ≤ 1000000000) :
    Calls Try.prog 72 #[.pointer (some ⟨rb, 0, none⟩), .func (Fn.func 73) #[.pointer (some ⟨rb, 0, none⟩)] #[]] w fun e w' => Got rb w (pMany pGt bs) (VS 6 gC w.heap.size) e w' := by
  have hlt := hst.lt
  have HN := num_any w rb bs hst hlen
  clear hst
  go_enter Try.func72, Try.ntmps72
  go_wp2_with fail
  refine HN.mono ?_
  rintro e W1 ⟨ho1, hc1⟩
  clear HN
  rcases hc1 with ⟨nn, r1, v, hp, rfl, hv, hs, hl1⟩ | ⟨er, hp, her, rfl⟩
  rotate_left
  · have HE : Hid (pMany pGt bs = .error er) := mkH (bindR_err hp)
    have HO := mkH ho1
    clear hp ho1
    unfold stopE
    go_wp2
    exact ⟨rfl, HO.out, .inr ⟨er, HE.out, her, rfl⟩⟩
  have hv : v = .int .i64 nn := hv
  subst hv
  obtain ⟨n0, n1, n2, n3⟩ := num_once hp
  have HP : Hid (pMany pGt bs = rep pGt nn.toNat [] r1) := mkH (bindR_of hp)
  have HO1 := mkH ho1
  have HS1 := mkH hs
  have hr1 : r1.length ≤ bs.length := by omega
  clear hp ho1 hs n2 n3
  obtain ⟨N, rfl⟩ : ∃ N : Nat, nn = (N : Int) := ⟨nn.toNat, by omega⟩
  rw [Int.toNat_natCast] at HP
  go_wp2
  go_loopw [5, 8] (fun v i wr => ∃ (k : Nat) (acc : List (Gt)) (rs : Bs), k ≤ N ∧ i = .int .i64 k ∧ acc.length = k ∧ k + rs.length ≤ 1000000000 ∧ Hid (pMany pGt bs = rep pGt (N - k) acc rs) ∧ Hid (wr.ownsRow w.heap.size 73 6 v acc.length (Fl gC acc)) ∧ Hid (On rb w wr) ∧ Hid (Rst wr rb rs)) (fun _ i _ => N - (intOf i).toNat)
  case atStart => exact ⟨0, [], r1, Nat.zero_le _, rfl, rfl, by omega, HP, mkH (World.ownsRow_nil _ _ _ _), HO1, HS1⟩
  case round =>
    obtain ⟨k, acc, rs, hk, rfl, hak, hkr, HP1, HW1, HO, HS⟩ := hrel
    by_cases hltk : k < N
    · have H2 := delivery_any wr rb rs HS.out (by omega)
      have hN : (k : Int) < (N : Int) := by omega
      obtain ⟨m, hm⟩ : ∃ m, N - k = m + 1 := ⟨N - k - 1, by omega⟩
      have HM := mkH hm
      clear hm
      go_wp2_with fail
      refine H2.mono ?_
      rintro e W2 ⟨ho2, hc2⟩
      clear H2
      have HO2 := mkH (HO.out.trans ho2)
      have HW2 := mkH (own_on HW1.out hlt ho2)
      clear HO HS ho2 HW1
      rcases hc2 with ⟨x, r2, v, hp, rfl, hv, hs, hl2⟩ | ⟨er, hp, her, rfl⟩
      rotate_left
      · have HE : Hid (pMany pGt bs = .error er) := mkH (by rw [HP1.out, HM.out]; exact bindR_err hp)
        clear hp
        unfold stopE
        go_wp2
        exact ⟨rfl, HO2.out, .inr ⟨er, HE.out, her, rfl⟩⟩
      have hless := G_less hp
      have HP2 : Hid (pMany pGt bs = rep pGt (N - (k + 1)) (acc ++ [x]) r2) := mkH (by rw [HP1.out, HM.out]; rw [show N - (k + 1) = m by have := HM.out; omega]; exact bindR_of hp)
      have hv : v = .agg (gC x).toArray := hv
      subst hv
      have HS2 := mkH hs
      have hsz2 := HO2.out.size
      clear hp hs HP1
      have hown := HW2.out
      have hcl := gC_len x
      have HSRC := mkH (src_new (P := Try.prog) gC_len gC_one (by decide) Try.underlying40 W2 x 73)
      go_wp2_with (at_builtin; refine wpList_append_own_src _ rfl (.tmp 10) (.tmp 13) 40 40 rfl w.heap.size 73 (.agg #[.int .i64 0, .string ⟨#[]⟩, .int .i64 0, .int .i64 0, .string ⟨#[]⟩, .int .i64 0]) 6 64 Try.underlying40 info_G rfl (by decide) _ acc.length (Fl gC acc) rfl (hown.alloc _) _ 1 (Fl gC [x]) rfl HSRC.out (by unfold maxLen; omega) (by omega) (by simp; omega) ?_; intro v3 W3 hown3 hgrow3; have HB3 := mkH (below_own (hown.alloc _) hgrow3 ((Below.refl w.heap.size W2).alloc hsz2 _) (by simp; omega)); have HW3 := mkH hown3; clear hown3 hgrow3)
      have HW4 : Hid (W3.ownsRow w.heap.size 73 6 v3 (acc ++ [x]).length (Fl gC (acc ++ [x]))) := mkH (by rw [Fl_append, List.length_append]; exact HW3.out)
      have HO3 := mkH (HO2.out.then HB3.out (Nat.le_refl _))
      have HS3 := mkH (HS2.out.below' HB3.out hlt)
      clear HW3 HW2 HB3 HO2 HS2 hown
      refine ⟨⟨k + 1, acc ++ [x], r2, by omega, by go_num, by simp [hak], by omega, HP2, HW4, HO3, HS3⟩, ?_⟩
      simp [intOf]; omega
    · have HE : Hid (pMany pGt bs = .ok (acc, rs)) := mkH (by rw [HP1.out, show N - k = 0 by omega]; rfl)
      obtain ⟨ao, cap, rfl⟩ := own_form HW1.out
      have HV : Hid (VS 6 gC w.heap.size acc (.slice ao acc.length cap) wr) := mkH (vs_own gC_len HW1.out (by omega))
      clear HP1 HW1
      go_wp2
      go_ret
      exact ⟨HO.out, .inl ⟨acc, rs, _, HE.out, rfl, HV.out, HS.out, by omega⟩⟩

theorem info_R : (Try.prog.info? 25).map (fun i => (i.zero, i.size, i.bytes)) = some (some (.agg #[.int .i64 0, .int .i64 0]), 2, 16) := by kernel_rfl
theorem R_less {bs r : Bs} {x : Int × Int} (h : pRg bs = .ok (x, r)) : r.length < bs.length := by
  obtain ⟨a, r1, h1, h⟩ := bindR_ok h
  obtain ⟨b, r2, h2, h⟩ := bindR_ok h
  simp only [pureR, Except.ok.injEq, Prod.mk.injEq] at h
  have e1 := (num_once h1).2.2.2
  have e2 := (num_once h2).2.2.2
  rw [← h.2]
  omega

set_option maxHeartbeats 4000000 in
theorem manyR_any (w : World) (rb : Nat) (bs : Bs) (hst : Rst w rb bs) (hlen : bs.length ≤ 1000000000) :
    Calls Try.prog 74 #[.pointer (some ⟨rb, 0, none⟩), .func (Fn.func 69) #[.pointer (some ⟨rb, 0, none⟩)] #[]] w fun e w' => Got rb w (pMany pRg bs) (VS 2 rC w.heap.size) e w' := by
  have hlt := hst.lt
  have HN := num_any w rb bs hst hlen
  clear hst
  go_enter Try.func74, Try.ntmps74
  go_wp2_with fail
  refine HN.mono ?_
  rintro e W1 ⟨ho1, hc1⟩
  clear HN
  rcases hc1 with ⟨nn, r1, v, hp, rfl, hv, hs, hl1⟩ | ⟨er, hp, her, rfl⟩
  rotate_left
  · have HE : Hid (pMany pRg bs = .error er) := mkH (bindR_err hp)
    have HO := mkH ho1
    clear hp ho1
    unfold stopE
    go_wp2
    exact ⟨rfl, HO.out, .inr ⟨er, HE.out, her, rfl⟩⟩
  have hv : v = .int .i64 nn := hv
  subst hv
  obtain ⟨n0, n1, n2, n3⟩ := num_once hp
  have HP : Hid (pMany pRg bs = rep pRg nn.toNat [] r1) := mkH (bindR_of hp)
  have HO1 := mkH ho1
  have HS1 := mkH hs
  have hr1 : r1.length ≤ bs.length := by omega
  clear hp ho1 hs n2 n3
  obtain ⟨N, rfl⟩ : ∃ N : Nat, nn = (N : Int) := ⟨nn.toNat, by omega⟩
  rw [Int.toNat_natCast] at HP
  go_wp2
  go_loopw [5, 8] (fun v i wr => ∃ (k : Nat) (acc : List (Int × Int)) (rs : Bs), k ≤ N ∧ i = .int .i64 k ∧ acc.length = k ∧ k + rs.length ≤ 1000000000 ∧ Hid (pMany pRg bs = rep pRg (N - k) acc rs) ∧ Hid (wr.ownsRow w.heap.size 25 2 v acc.length (Fl rC acc)) ∧ Hid (On rb w wr) ∧ Hid (Rst wr rb rs)) (fun _ i _ => N - (intOf i).toNat)
  case atStart => exact ⟨0, [], r1, Nat.zero_le _, rfl, rfl, by omega, HP, mkH (World.ownsRow_nil _ _ _ _), HO1, HS1⟩
  case round =>
    obtain ⟨k, acc, rs, hk, rfl, hak, hkr, HP1, HW1, HO, HS⟩ := hrel
    by_cases hltk : k < N
    · have H2 := places_any wr rb rs HS.out (by omega)
      have hN : (k : Int) < (N : Int) := by omega
      obtain ⟨m, hm⟩ : ∃ m, N - k = m + 1 := ⟨N - k - 1, by omega⟩
      have HM := mkH hm
      clear hm
      go_wp2_with fail
      refine H2.mono ?_
      rintro e W2 ⟨ho2, hc2⟩
      clear H2
      have HO2 := mkH (HO.out.trans ho2)
      have HW2 := mkH (own_on HW1.out hlt ho2)
      clear HO HS ho2 HW1
      rcases hc2 with ⟨x, r2, v, hp, rfl, hv, hs, hl2⟩ | ⟨er, hp, her, rfl⟩
      rotate_left
      · have HE : Hid (pMany pRg bs = .error er) := mkH (by rw [HP1.out, HM.out]; exact bindR_err hp)
        clear hp
        unfold stopE
        go_wp2
        exact ⟨rfl, HO2.out, .inr ⟨er, HE.out, her, rfl⟩⟩
      have hless := R_less hp
      have HP2 : Hid (pMany pRg bs = rep pRg (N - (k + 1)) (acc ++ [x]) r2) := mkH (by rw [HP1.out, HM.out]; rw [show N - (k + 1) = m by have := HM.out; omega]; exact bindR_of hp)
      have hv : v = .agg (rC x).toArray := hv
      subst hv
      have HS2 := mkH hs
      have hsz2 := HO2.out.size
      clear hp hs HP1
      have hown := HW2.out
      have hcl := rC_len x
      have HSRC := mkH (src_new (P := Try.prog) rC_len rC_one (by decide) Try.underlying41 W2 x 25)
      go_wp2_with (at_builtin; refine wpList_append_own_src _ rfl (.tmp 10) (.tmp 13) 41 41 rfl w.heap.size 25 (.agg #[.int .i64 0, .int .i64 0]) 2 16 Try.underlying41 info_R rfl (by decide) _ acc.length (Fl rC acc) rfl (hown.alloc _) _ 1 (Fl rC [x]) rfl HSRC.out (by unfold maxLen; omega) (by omega) (by simp; omega) ?_; intro v3 W3 hown3 hgrow3; have HB3 := mkH (below_own (hown.alloc _) hgrow3 ((Below.refl w.heap.size W2).alloc hsz2 _) (by simp; omega)); have HW3 := mkH hown3; clear hown3 hgrow3)
      have HW4 : Hid (W3.ownsRow w.heap.size 25 2 v3 (acc ++ [x]).length (Fl rC (acc ++ [x]))) := mkH (by rw [Fl_append, List.length_append]; exact HW3.out)
      have HO3 := mkH (HO2.out.then HB3.out (Nat.le_refl _))
      have HS3 := mkH (HS2.out.below' HB3.out hlt)
      clear HW3 HW2 HB3 HO2 HS2 hown
      refine ⟨⟨k + 1, acc ++ [x], r2, by omega, by go_num, by simp [hak], by omega, HP2, HW4, HO3, HS3⟩, ?_⟩
      simp [intOf]; omega
    · have HE : Hid (pMany pRg bs = .ok (acc, rs)) := mkH (by rw [HP1.out, show N - k = 0 by omega]; rfl)
      obtain ⟨ao, cap, rfl⟩ := own_form HW1.out
      have HV : Hid (VS 2 rC w.heap.size acc (.slice ao acc.length cap) wr) := mkH (vs_own rC_len HW1.out (by omega))
      clear HP1 HW1
      go_wp2
      go_ret
      exact ⟨HO.out, .inl ⟨acc, rs, _, HE.out, rfl, HV.out, HS.out, by omega⟩⟩
end Go.Proofs.Ytjboldahmndkeaa.Wq
