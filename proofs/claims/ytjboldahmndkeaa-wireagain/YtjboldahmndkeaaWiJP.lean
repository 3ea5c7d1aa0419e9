/-
  The reader of replies.
-/
import Derived.Test.YtjboldahmndkeaaWiJM
import Derived.Test.YtjboldahmndkeaaWiA
namespace Go.Proofs.Ytjboldahmndkeaa.Wq
open Go.RowKit Kt Pl Wi Wk Rd Lt Fw Wa
open At (RowT)
set_option linter.unusedVariables false
set_option linter.unusedSimpArgs false
set_option maxRecDepth 20000
theorem hmf : ∀ (fn : Fn) (first cap : Array Value) (w : World), (Instr.makeFunc fn first cap).run Try.prog w = .ok (.func fn first cap) w := fun _ _ _ _ => rfl

theorem VS.on {α : Type} {n : Nat} {cs : α → List Value} {rb lo : Nat} {l : List α} {v : Value} {w w' : World} (h : VS n cs lo l v w) (hlo : rb < lo) (ho : On rb w w') : VS n cs lo l v w' := by
  obtain ⟨ao, cap, e, hr, hn, hl⟩ := h
  refine ⟨ao, cap, e, ?_, hn, hl⟩
  intro h0
  obtain ⟨b, off, rfl, hc⟩ := hr h0
  have hb := hn _ rfl
  refine ⟨b, off, rfl, fun i x hx j v hv => ?_⟩
  have h1 := hc i x hx j v hv
  rw [World.cell?_of_block (w := w) (a := ⟨b, off + i * n + j, none⟩) (ho.heap (World.block_lt_of_cell? w _ h1) (Nat.ne_of_gt (Nat.lt_of_lt_of_le hlo hb)))]
  exact h1
/-- A reply that was read. -/
def VQ (lo : Nat) (r : Rp) (v : Value) (w : World) : Prop := ∃ ga gc da dc ra rc, v = .agg (Pv r ga gc da dc ra rc) ∧ RpM w r ga da ra ∧ (∀ a, ga = some a → lo ≤ a.block) ∧ (∀ a, da = some a → lo ≤ a.block) ∧ (∀ a, ra = some a → lo ≤ a.block) ∧ Cnt r

set_option maxHeartbeats 8000000 in
theorem reply_any (w : World) (rb : Nat) (bs : Bs) (hst : Rst w rb bs) (hlen : bs.length ≤ 1000000000) :
    Calls Try.prog 48 #[.pointer (some ⟨rb, 0, none⟩)] w fun e w' => Got rb w (pRp bs) (VQ w.heap.size) e w' := by
  have hlt := hst.lt
  have hmf := hmf
  go_enter Try.func48, Try.ntmps48
  go_wp2_with fail
  refine startR (fun W0 Z hZ hBz hG => ?_)
  have HO0 := mkH (On.ofBelow (b := rb) hG.below)
  have HZ := mkH hZ
  have HP0 : Hid (pRp bs = pRp bs) := mkH rfl
  have HS0 := mkH (hst.below hG.below)
  have HB0 := mkH hBz
  have HNE : Hid (w.heap.size ≠ rb) := mkH (by omega)
  have HGT : Hid (rb < w.heap.size) := mkH hlt
  clear hst hBz hG hZ
  generalize hbq : w.heap.size = b2 at HB0 HNE HGT hlt ⊢
  have HBQ := mkH hbq
  clear hbq
  have H1 := num_any W0 rb bs HS0.out hlen
  refine H1.mono ?_
  rintro e W1 ⟨ho1, hc1⟩
  have HO1 := mkH (HO0.out.trans ho1)
  have HB1 := mkH (Wq.Bx.on HB0.out HNE.out ho1)
  clear H1 ho1 HO0 HB0 HS0
  rcases hc1 with ⟨err, r1, v, hp, rfl, hv, hs, hl1⟩ | ⟨er, hp, her, rfl⟩
  rotate_left
  · have HE := mkH (HP0.out.trans (bindR_err hp))
    clear hp HP0
    unfold stopE
    go_wp2
    exact ⟨rfl, HO1.out, .inr ⟨er, HE.out, her, rfl⟩⟩
  have HP1 := mkH (HP0.out.trans (bindR_of hp))
  have HS1 := mkH hs
  have hv : v = .int .i64 err := hv
  subst hv
  clear hp hs HP0
  go_wp2_with fail
  have H2 := num_any W1 rb r1 HS1.out hl1
  refine H2.mono ?_
  rintro e W2 ⟨ho2, hc2⟩
  have HO2 := mkH (HO1.out.trans ho2)
  have HB2 := mkH (Wq.Bx.on HB1.out HNE.out ho2)
  clear H2 ho2 HO1 HB1 HS1
  rcases hc2 with ⟨seq, r2, v, hp, rfl, hv, hs, hl2⟩ | ⟨er, hp, her, rfl⟩
  rotate_left
  · have HE := mkH (HP1.out.trans (bindR_err hp))
    clear hp HP1
    unfold stopE
    go_wp2
    exact ⟨rfl, HO2.out, .inr ⟨er, HE.out, her, rfl⟩⟩
  have HP2 := mkH (HP1.out.trans (bindR_of hp))
  have HS2 := mkH hs
  have hv : v = .int .i64 seq := hv
  subst hv
  clear hp hs HP1
  go_wp2_with fail
  have H3 := num_any W2 rb r2 HS2.out hl2
  refine H3.mono ?_
  rintro e W3 ⟨ho3, hc3⟩
  have HO3 := mkH (HO2.out.trans ho3)
  have HB3 := mkH (Wq.Bx.on HB2.out HNE.out ho3)
  clear H3 ho3 HO2 HB2 HS2
  rcases hc3 with ⟨n, r3, v, hp, rfl, hv, hs, hl3⟩ | ⟨er, hp, her, rfl⟩
  rotate_left
  · have HE := mkH (HP2.out.trans (bindR_err hp))
    clear hp HP2
    unfold stopE
    go_wp2
    exact ⟨rfl, HO3.out, .inr ⟨er, HE.out, her, rfl⟩⟩
  have HP3 := mkH (HP2.out.trans (bindR_of hp))
  have HS3 := mkH hs
  have hv : v = .int .i64 n := hv
  subst hv
  clear hp hs HP2
  go_wp2_with fail
  have HBp_got : Hid (b2 < W3.heap.size) := mkH HB3.out.lt
  have H4 := manyG_any W3 rb r3 HS3.out hl3
  refine H4.mono ?_
  rintro e W4 ⟨ho4, hc4⟩
  have HO4 := mkH (HO3.out.trans ho4)
  have HB4 := mkH (Wq.Bx.on HB3.out HNE.out ho4)
  clear H4 ho4 HO3 HB3 HS3
  rcases hc4 with ⟨got, r4, v, hp, rfl, hv, hs, hl4⟩ | ⟨er, hp, her, rfl⟩
  rotate_left
  · have HE := mkH (HP3.out.trans (bindR_err hp))
    clear hp HP3
    unfold stopE
    go_wp2
    exact ⟨rfl, HO4.out, .inr ⟨er, HE.out, her, rfl⟩⟩
  have HP4 := mkH (HP3.out.trans (bindR_of hp))
  have HS4 := mkH hs
  obtain ⟨v_got, hvv⟩ : ∃ y, y = v := ⟨v, rfl⟩
  have HK_got := mkH hv
  obtain ⟨a_got, c_got, ev_got⟩ : ∃ a c, v = .slice a got.length c := by obtain ⟨a, c, e, -⟩ := hv; exact ⟨a, c, e⟩
  subst ev_got
  clear hv hvv v_got
  clear hp hs HP3
  go_wp2_with fail
  have HBp_data : Hid (b2 < W4.heap.size) := mkH HB4.out.lt
  have H5 := data_any W4 rb r4 HS4.out hl4
  refine H5.mono ?_
  rintro e W5 ⟨ho5, hc5⟩
  have HO5 := mkH (HO4.out.trans ho5)
  have HB5 := mkH (Wq.Bx.on HB4.out HNE.out ho5)
  have HK_got := mkH (HK_got.out.on (by have := HBp_got.out; omega) ho5)
  clear H5 ho5 HO4 HB4 HS4
  rcases hc5 with ⟨data, r5, v, hp, rfl, hv, hs, hl5⟩ | ⟨er, hp, her, rfl⟩
  rotate_left
  · have HE := mkH (HP4.out.trans (bindR_err hp))
    clear hp HP4
    unfold stopE
    go_wp2
    exact ⟨rfl, HO5.out, .inr ⟨er, HE.out, her, rfl⟩⟩
  have HP5 := mkH (HP4.out.trans (bindR_of hp))
  have HS5 := mkH hs
  obtain ⟨v_data, hvv⟩ : ∃ y, y = v := ⟨v, rfl⟩
  have HK_data := mkH hv
  obtain ⟨a_data, c_data, ev_data⟩ : ∃ a c, v = .slice a data.length c := by obtain ⟨a, c, e, -⟩ := hv; exact ⟨a, c, e⟩
  subst ev_data
  clear hv hvv v_data
  clear hp hs HP4
  go_wp2_with fail
  have HBp_about : Hid (b2 < W5.heap.size) := mkH HB5.out.lt
  have H6 := manyR_any W5 rb r5 HS5.out hl5
  refine H6.mono ?_
  rintro e W6 ⟨ho6, hc6⟩
  have HO6 := mkH (HO5.out.trans ho6)
  have HB6 := mkH (Wq.Bx.on HB5.out HNE.out ho6)
  have HK_got := mkH (HK_got.out.on (by have := HBp_got.out; omega) ho6)
  have HK_data := mkH (HK_data.out.on (by have := HBp_data.out; omega) ho6)
  clear H6 ho6 HO5 HB5 HS5
  rcases hc6 with ⟨about, r6, v, hp, rfl, hv, hs, hl6⟩ | ⟨er, hp, her, rfl⟩
  rotate_left
  · have HE := mkH (HP5.out.trans (bindR_err hp))
    clear hp HP5
    unfold stopE
    go_wp2
    exact ⟨rfl, HO6.out, .inr ⟨er, HE.out, her, rfl⟩⟩
  have HP6 := mkH (HP5.out.trans (bindR_of hp))
  have HS6 := mkH hs
  obtain ⟨v_about, hvv⟩ : ∃ y, y = v := ⟨v, rfl⟩
  have HK_about := mkH hv
  obtain ⟨a_about, c_about, ev_about⟩ : ∃ a c, v = .slice a about.length c := by obtain ⟨a, c, e, -⟩ := hv; exact ⟨a, c, e⟩
  subst ev_about
  clear hv hvv v_about
  clear hp hs HP5
  have HI : Hid ((Try.prog.info? 43).map (·.size) = some (Pv ⟨err, seq, n, got, data, about⟩ a_got c_got a_data c_data a_about c_about).size) := mkH infoP
  have HSz : Hid (Z.size = (Pv ⟨err, seq, n, got, data, about⟩ a_got c_got a_data c_data a_about c_about).size) := mkH HZ.out
  have HOne : Hid ((Pv ⟨err, seq, n, got, data, about⟩ a_got c_got a_data c_data a_about c_about).all (fun x => x.oneCell') = true) := mkH (Pv_one _ _ _ _ _ _ _)
  have HLd := mkH (load_bx (P := Try.prog) (Wk.Bx.row HB6.out (cs := (Pv ⟨err, seq, n, got, data, about⟩ a_got c_got a_data c_data a_about c_about)) HSz.out) Try.underlying43 rfl HI.out)
  have HOf := mkH (HO6.out.setRow (Nat.le_of_eq HBQ.out) (Ne.symm HNE.out) (Pv ⟨err, seq, n, got, data, about⟩ a_got c_got a_data c_data a_about c_about))
  have HSf := mkH (HS6.out.setRow HGT.out (Pv ⟨err, seq, n, got, data, about⟩ a_got c_got a_data c_data a_about c_about))
  have HV : Hid (VQ w.heap.size ⟨err, seq, n, got, data, about⟩ (.agg (Pv ⟨err, seq, n, got, data, about⟩ a_got c_got a_data c_data a_about c_about)) (W6.setRow b2 (Pv ⟨err, seq, n, got, data, about⟩ a_got c_got a_data c_data a_about c_about))) := mkH (by
    obtain ⟨a1, c1, e1, q1, f1, l1⟩ := HK_got.out
    obtain ⟨a2, c2, e2, q2, f2, l2⟩ := HK_data.out
    obtain ⟨a3, c3, e3, q3, f3, l3⟩ := HK_about.out
    have g1 := HBp_got.out
    have g2 := HBp_data.out
    have g3 := HBp_about.out
    have hbq := HBQ.out
    simp only [Value.slice.injEq] at e1 e2 e3
    obtain ⟨rfl, -, rfl⟩ := e1
    obtain ⟨rfl, -, rfl⟩ := e2
    obtain ⟨rfl, -, rfl⟩ := e3
    refine ⟨_, _, _, _, _, _, rfl, ⟨RowS.setRow q1 (fun a ha => by have := f1 a ha; omega) _, Wk.RowT.setRow q2 (fun a ha => by have := f2 a ha; omega) _, RowS.setRow q3 (fun a ha => by have := f3 a ha; omega) _⟩, fun a ha => by have := f1 a ha; omega, fun a ha => by have := f2 a ha; omega, fun a ha => by have := f3 a ha; omega, l1, ?_, l3⟩
    show data.length ≤ 1000000
    omega)
  clear HK_got HK_data HK_about
  go_wp2_with (refine wpList_st rfl (ty := 43) (x := .tmp 2) (y := .tmp 19) rfl rfl rfl HB6.out HI.out HSz.out HOne.out ?_)
  refine ret_bx 2 43 rfl b2 rfl HLd.out rfl ?_
  exact ⟨HOf.out, .inl ⟨⟨err, seq, n, got, data, about⟩, r6, _, HP6.out, rfl, HV.out, HSf.out, hl6⟩⟩
end Go.Proofs.Ytjboldahmndkeaa.Wq
