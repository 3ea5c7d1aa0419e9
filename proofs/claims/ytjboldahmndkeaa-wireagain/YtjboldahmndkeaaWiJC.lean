/-
  The reader of commands.
-/
import Derived.Test.YtjboldahmndkeaaWiJ
namespace Go.Proofs.Ytjboldahmndkeaa.Wq
open Go.RowKit Kt Pl Wi Wk Rd Lt Fw
open At (RowT)
set_option linter.unusedVariables false
set_option linter.unusedSimpArgs false
set_option maxRecDepth 20000

/-- A command that was read. -/
def VC (lo : Nat) (c : Cm) (v : Value) (w : World) : Prop := ∃ ao cap, v = .agg (Cv c (.slice ao c.data.length cap)) ∧ RowT w ao c.data ∧ (∀ a, ao = some a → lo ≤ a.block) ∧ c.data.length ≤ 1024

set_option maxHeartbeats 8000000 in
theorem cmd_any (w : World) (rb : Nat) (bs : Bs) (hst : Rst w rb bs) (hlen : bs.length ≤ 1000000000) :
    Calls Try.prog 46 #[.pointer (some ⟨rb, 0, none⟩)] w fun e w' => Got rb w (pCm bs) (VC w.heap.size) e w' := by
  have hlt := hst.lt
  obtain ⟨hsz, -⟩ : w.heap.size = w.heap.size ∧ True := ⟨rfl, trivial⟩
  go_enter Try.func46, Try.ntmps46
  go_wp2_with fail
  refine startR (fun W0 Z hZ hBz hG => ?_)
  have hst0 := hst.below hG.below
  have HO0 := mkH (On.ofBelow (b := rb) hG.below)
  have HZ := mkH hZ
  have hBz0 := hBz
  have HP0 : Hid (pCm bs = pCm bs) := mkH rfl
  have HS0 := mkH hst0
  have HB0 := mkH hBz
  have HNE : Hid (w.heap.size ≠ rb) := mkH (by omega)
  have HGT : Hid (rb < w.heap.size) := mkH hlt
  have HLE : Hid (w.heap.size ≤ w.heap.size) := mkH (Nat.le_refl _)
  clear hst hst0 hBz hBz0 hG hsz hZ
  generalize hbq : w.heap.size = b2 at HB0 HNE HLE HGT ⊢
  have HBQ := mkH hbq
  clear hbq
  have H1 := num_any W0 rb bs HS0.out hlen
  refine H1.mono ?_
  rintro e W1 ⟨ho1, hc1⟩
  have HO1 := mkH (HO0.out.trans ho1)
  have HB1 := mkH (Wq.Bx.on HB0.out HNE.out ho1)
  clear H1 ho1 HO0 HB0 HS0
  rcases hc1 with ⟨kind, r1, v, hp, rfl, hv, hs, hl1⟩ | ⟨er, hp, her, rfl⟩
  rotate_left
  · have HE := mkH (HP0.out.trans (bindR_err hp))
    clear hp HP0
    unfold stopE
    go_wp2
    exact ⟨rfl, HO1.out, .inr ⟨er, HE.out, her, rfl⟩⟩
  have HP1 := mkH (HP0.out.trans (bindR_of hp))
  have HS1 := mkH hs
  have hv : v = .int .i64 kind := hv
  subst hv
  clear hp hs HP0
  go_wp2_with fail
  have H2 := num_any W1 rb r1 HS1.out hl1
  refine H2.mono ?_
  rintro e W2 ⟨ho2, hc2⟩
  have HO2 := mkH (HO1.out.trans ho2)
  have HB2 := mkH (Wq.Bx.on HB1.out HNE.out ho2)
  clear H2 ho2 HO1 HB1 HS1
  rcases hc2 with ⟨client, r2, v, hp, rfl, hv, hs, hl2⟩ | ⟨er, hp, her, rfl⟩
  rotate_left
  · have HE := mkH (HP1.out.trans (bindR_err hp))
    clear hp HP1
    unfold stopE
    go_wp2
    exact ⟨rfl, HO2.out, .inr ⟨er, HE.out, her, rfl⟩⟩
  have HP2 := mkH (HP1.out.trans (bindR_of hp))
  have HS2 := mkH hs
  have hv : v = .int .i64 client := hv
  subst hv
  clear hp hs HP1
  go_wp2_with fail
  have H3 := num_any W2 rb r2 HS2.out hl2
  refine H3.mono ?_
  rintro e W3 ⟨ho3, hc3⟩
  have HO3 := mkH (HO2.out.trans ho3)
  have HB3 := mkH (Wq.Bx.on HB2.out HNE.out ho3)
  clear H3 ho3 HO2 HB2 HS2
  rcases hc3 with ⟨num, r3, v, hp, rfl, hv, hs, hl3⟩ | ⟨er, hp, her, rfl⟩
  rotate_left
  · have HE := mkH (HP2.out.trans (bindR_err hp))
    clear hp HP2
    unfold stopE
    go_wp2
    exact ⟨rfl, HO3.out, .inr ⟨er, HE.out, her, rfl⟩⟩
  have HP3 := mkH (HP2.out.trans (bindR_of hp))
  have HS3 := mkH hs
  have hv : v = .int .i64 num := hv
  subst hv
  clear hp hs HP2
  go_wp2_with fail
  have H4 := num_any W3 rb r3 HS3.out hl3
  refine H4.mono ?_
  rintro e W4 ⟨ho4, hc4⟩
  have HO4 := mkH (HO3.out.trans ho4)
  have HB4 := mkH (Wq.Bx.on HB3.out HNE.out ho4)
  clear H4 ho4 HO3 HB3 HS3
  rcases hc4 with ⟨time, r4, v, hp, rfl, hv, hs, hl4⟩ | ⟨er, hp, her, rfl⟩
  rotate_left
  · have HE := mkH (HP3.out.trans (bindR_err hp))
    clear hp HP3
    unfold stopE
    go_wp2
    exact ⟨rfl, HO4.out, .inr ⟨er, HE.out, her, rfl⟩⟩
  have HP4 := mkH (HP3.out.trans (bindR_of hp))
  have HS4 := mkH hs
  have hv : v = .int .i64 time := hv
  subst hv
  clear hp hs HP3
  go_wp2_with fail
  have H5 := num_any W4 rb r4 HS4.out hl4
  refine H5.mono ?_
  rintro e W5 ⟨ho5, hc5⟩
  have HO5 := mkH (HO4.out.trans ho5)
  have HB5 := mkH (Wq.Bx.on HB4.out HNE.out ho5)
  clear H5 ho5 HO4 HB4 HS4
  rcases hc5 with ⟨queue, r5, v, hp, rfl, hv, hs, hl5⟩ | ⟨er, hp, her, rfl⟩
  rotate_left
  · have HE := mkH (HP4.out.trans (bindR_err hp))
    clear hp HP4
    unfold stopE
    go_wp2
    exact ⟨rfl, HO5.out, .inr ⟨er, HE.out, her, rfl⟩⟩
  have HP5 := mkH (HP4.out.trans (bindR_of hp))
  have HS5 := mkH hs
  have hv : v = .int .i64 queue := hv
  subst hv
  clear hp hs HP4
  go_wp2_with fail
  have H6 := text_any W5 rb r5 HS5.out hl5
  refine H6.mono ?_
  rintro e W6 ⟨ho6, hc6⟩
  have HO6 := mkH (HO5.out.trans ho6)
  have HB6 := mkH (Wq.Bx.on HB5.out HNE.out ho6)
  clear H6 ho6 HO5 HB5 HS5
  rcases hc6 with ⟨group, r6, v, hp, rfl, hv, hs, hl6⟩ | ⟨er, hp, her, rfl⟩
  rotate_left
  · have HE := mkH (HP5.out.trans (bindR_err hp))
    clear hp HP5
    unfold stopE
    go_wp2
    exact ⟨rfl, HO6.out, .inr ⟨er, HE.out, her, rfl⟩⟩
  have HP6 := mkH (HP5.out.trans (bindR_of hp))
  have HS6 := mkH hs
  obtain ⟨hv, l_group⟩ := hv
  subst hv
  clear hp hs HP5
  go_wp2_with fail
  have H7 := text_any W6 rb r6 HS6.out hl6
  refine H7.mono ?_
  rintro e W7 ⟨ho7, hc7⟩
  have HO7 := mkH (HO6.out.trans ho7)
  have HB7 := mkH (Wq.Bx.on HB6.out HNE.out ho7)
  clear H7 ho7 HO6 HB6 HS6
  rcases hc7 with ⟨body, r7, v, hp, rfl, hv, hs, hl7⟩ | ⟨er, hp, her, rfl⟩
  rotate_left
  · have HE := mkH (HP6.out.trans (bindR_err hp))
    clear hp HP6
    unfold stopE
    go_wp2
    exact ⟨rfl, HO7.out, .inr ⟨er, HE.out, her, rfl⟩⟩
  have HP7 := mkH (HP6.out.trans (bindR_of hp))
  have HS7 := mkH hs
  obtain ⟨hv, l_body⟩ := hv
  subst hv
  clear hp hs HP6
  go_wp2_with fail
  have H8 := text_any W7 rb r7 HS7.out hl7
  refine H8.mono ?_
  rintro e W8 ⟨ho8, hc8⟩
  have HO8 := mkH (HO7.out.trans ho8)
  have HB8 := mkH (Wq.Bx.on HB7.out HNE.out ho8)
  clear H8 ho8 HO7 HB7 HS7
  rcases hc8 with ⟨token, r8, v, hp, rfl, hv, hs, hl8⟩ | ⟨er, hp, her, rfl⟩
  rotate_left
  · have HE := mkH (HP7.out.trans (bindR_err hp))
    clear hp HP7
    unfold stopE
    go_wp2
    exact ⟨rfl, HO8.out, .inr ⟨er, HE.out, her, rfl⟩⟩
  have HP8 := mkH (HP7.out.trans (bindR_of hp))
  have HS8 := mkH hs
  obtain ⟨hv, l_token⟩ := hv
  subst hv
  clear hp hs HP7
  go_wp2_with fail
  have H9 := text_any W8 rb r8 HS8.out hl8
  refine H9.mono ?_
  rintro e W9 ⟨ho9, hc9⟩
  have HO9 := mkH (HO8.out.trans ho9)
  have HB9 := mkH (Wq.Bx.on HB8.out HNE.out ho9)
  clear H9 ho9 HO8 HB8 HS8
  rcases hc9 with ⟨attempt, r9, v, hp, rfl, hv, hs, hl9⟩ | ⟨er, hp, her, rfl⟩
  rotate_left
  · have HE := mkH (HP8.out.trans (bindR_err hp))
    clear hp HP8
    unfold stopE
    go_wp2
    exact ⟨rfl, HO9.out, .inr ⟨er, HE.out, her, rfl⟩⟩
  have HP9 := mkH (HP8.out.trans (bindR_of hp))
  have HS9 := mkH hs
  obtain ⟨hv, l_attempt⟩ := hv
  subst hv
  clear hp hs HP8
  go_wp2_with fail
  have H10 := num_any W9 rb r9 HS9.out hl9
  refine H10.mono ?_
  rintro e W10 ⟨ho10, hc10⟩
  have HO10 := mkH (HO9.out.trans ho10)
  have HB10 := mkH (Wq.Bx.on HB9.out HNE.out ho10)
  clear H10 ho10 HO9 HB9 HS9
  rcases hc10 with ⟨max, r10, v, hp, rfl, hv, hs, hl10⟩ | ⟨er, hp, her, rfl⟩
  rotate_left
  · have HE := mkH (HP9.out.trans (bindR_err hp))
    clear hp HP9
    unfold stopE
    go_wp2
    exact ⟨rfl, HO10.out, .inr ⟨er, HE.out, her, rfl⟩⟩
  have HP10 := mkH (HP9.out.trans (bindR_of hp))
  have HS10 := mkH hs
  have hv : v = .int .i64 max := hv
  subst hv
  clear hp hs HP9
  go_wp2_with fail
  have H11 := num_any W10 rb r10 HS10.out hl10
  refine H11.mono ?_
  rintro e W11 ⟨ho11, hc11⟩
  have HO11 := mkH (HO10.out.trans ho11)
  have HB11 := mkH (Wq.Bx.on HB10.out HNE.out ho11)
  clear H11 ho11 HO10 HB10 HS10
  rcases hc11 with ⟨secs, r11, v, hp, rfl, hv, hs, hl11⟩ | ⟨er, hp, her, rfl⟩
  rotate_left
  · have HE := mkH (HP10.out.trans (bindR_err hp))
    clear hp HP10
    unfold stopE
    go_wp2
    exact ⟨rfl, HO11.out, .inr ⟨er, HE.out, her, rfl⟩⟩
  have HP11 := mkH (HP10.out.trans (bindR_of hp))
  have HS11 := mkH hs
  have hv : v = .int .i64 secs := hv
  subst hv
  clear hp hs HP10
  go_wp2_with fail
  have H12 := receipt_any W11 rb r11 HS11.out hl11
  refine H12.mono ?_
  rintro e W12 ⟨ho12, hc12⟩
  have HO12 := mkH (HO11.out.trans ho12)
  have HB12 := mkH (Wq.Bx.on HB11.out HNE.out ho12)
  clear H12 ho12 HO11 HB11 HS11
  rcases hc12 with ⟨rc, r12, v, hp, rfl, hv, hs, hl12⟩ | ⟨er, hp, her, rfl⟩
  rotate_left
  · have HE := mkH (HP11.out.trans (bindR_err hp))
    clear hp HP11
    unfold stopE
    go_wp2
    exact ⟨rfl, HO12.out, .inr ⟨er, HE.out, her, rfl⟩⟩
  have HP12 := mkH (HP11.out.trans (bindR_of hp))
  have HS12 := mkH hs
  obtain ⟨hv, l_rc⟩ := hv
  have hv : v = .agg #[.int .i64 rc.q, .string (S rc.g), .int .i64 rc.s, .int .i64 rc.c] := hv
  subst hv
  clear hp hs HP11
  go_wp2_with fail
  have H13 := places_any W12 rb r12 HS12.out hl12
  refine H13.mono ?_
  rintro e W13 ⟨ho13, hc13⟩
  have HO13 := mkH (HO12.out.trans ho13)
  have HB13 := mkH (Wq.Bx.on HB12.out HNE.out ho13)
  clear H13 ho13 HO12 HB12 HS12
  rcases hc13 with ⟨rg, r13, v, hp, rfl, hv, hs, hl13⟩ | ⟨er, hp, her, rfl⟩
  rotate_left
  · have HE := mkH (HP12.out.trans (bindR_err hp))
    clear hp HP12
    unfold stopE
    go_wp2
    exact ⟨rfl, HO13.out, .inr ⟨er, HE.out, her, rfl⟩⟩
  have HP13 := mkH (HP12.out.trans (bindR_of hp))
  have HS13 := mkH hs
  have hv : v = .agg #[.int .i64 rg.1, .int .i64 rg.2] := hv
  subst hv
  clear hp hs HP12
  go_wp2_with fail
  have H14 := num_any W13 rb r13 HS13.out hl13
  refine H14.mono ?_
  rintro e W14 ⟨ho14, hc14⟩
  have HO14 := mkH (HO13.out.trans ho14)
  have HB14 := mkH (Wq.Bx.on HB13.out HNE.out ho14)
  clear H14 ho14 HO13 HB13 HS13
  rcases hc14 with ⟨to, r14, v, hp, rfl, hv, hs, hl14⟩ | ⟨er, hp, her, rfl⟩
  rotate_left
  · have HE := mkH (HP13.out.trans (bindR_err hp))
    clear hp HP13
    unfold stopE
    go_wp2
    exact ⟨rfl, HO14.out, .inr ⟨er, HE.out, her, rfl⟩⟩
  have HP14 := mkH (HP13.out.trans (bindR_of hp))
  have HS14 := mkH hs
  have hv : v = .int .i64 to := hv
  subst hv
  clear hp hs HP13
  go_wp2_with fail
  have HBp : Hid (b2 < W14.heap.size) := mkH HB14.out.lt
  have HSp : Hid (w.heap.size ≤ W14.heap.size) := mkH HO14.out.size
  have H15 := data_any W14 rb r14 HS14.out hl14
  refine H15.mono ?_
  rintro e W15 ⟨ho15, hc15⟩
  have HO15 := mkH (HO14.out.trans ho15)
  have HB15 := mkH (Wq.Bx.on HB14.out HNE.out ho15)
  clear H15 ho15 HO14 HB14 HS14
  rcases hc15 with ⟨data, r15, v, hp, rfl, hv, hs, hl15⟩ | ⟨er, hp, her, rfl⟩
  rotate_left
  · have HE := mkH (HP14.out.trans (bindR_err hp))
    clear hp HP14
    unfold stopE
    go_wp2
    exact ⟨rfl, HO15.out, .inr ⟨er, HE.out, her, rfl⟩⟩
  have HP15 := mkH (HP14.out.trans (bindR_of hp))
  have HS15 := mkH hs
  obtain ⟨ad, cd, rfl, hrow, hne, l_data⟩ := hv
  have HRow := mkH hrow
  have HFar : Hid (∀ a, ad = some a → a.block ≠ b2) := mkH (fun a ha => by have h1 := hne a ha; have h2 := HBp.out; omega)
  have HNe : Hid (∀ a, ad = some a → w.heap.size ≤ a.block) := mkH (fun a ha => by have h1 := hne a ha; have h2 := HSp.out; omega)
  clear hrow hne
  clear hp hs HP14
  have hst : Bx W15 b2 Z 28 := HB15.out
  have HI : Hid ((Try.prog.info? 28).map (·.size) = some (Cv ⟨kind, client, num, time, queue, group, body, token, attempt, max, secs, rc, rg.1, rg.2, to, data⟩ (.slice ad data.length cd)).size) := mkH info28
  have HSz : Hid (Z.size = (Cv ⟨kind, client, num, time, queue, group, body, token, attempt, max, secs, rc, rg.1, rg.2, to, data⟩ (.slice ad data.length cd)).size) := mkH HZ.out
  have HOne : Hid ((Cv ⟨kind, client, num, time, queue, group, body, token, attempt, max, secs, rc, rg.1, rg.2, to, data⟩ (.slice ad data.length cd)).all (fun x => x.oneCell') = true) := mkH (by unfold Cv; rw [List.all_toArray]; rfl)
  have HLd := mkH (load_bx (P := Try.prog) (Wk.Bx.row hst (cs := (Cv ⟨kind, client, num, time, queue, group, body, token, attempt, max, secs, rc, rg.1, rg.2, to, data⟩ (.slice ad data.length cd))) HSz.out) Try.underlying28 rfl HI.out)
  have HBst := mkH hst
  have HOf := mkH (HO15.out.setRow (Nat.le_of_eq HBQ.out) (Ne.symm HNE.out) (Cv ⟨kind, client, num, time, queue, group, body, token, attempt, max, secs, rc, rg.1, rg.2, to, data⟩ (.slice ad data.length cd)))
  have HSf := mkH (HS15.out.setRow HGT.out (Cv ⟨kind, client, num, time, queue, group, body, token, attempt, max, secs, rc, rg.1, rg.2, to, data⟩ (.slice ad data.length cd)))
  clear hst
  go_wp2_with (refine wpList_st rfl (ty := 28) (x := .tmp 2) (y := .tmp 33) rfl rfl rfl HBst.out HI.out HSz.out HOne.out ?_)
  refine ret_bx 2 28 rfl b2 rfl HLd.out rfl ?_
  exact ⟨HOf.out, .inl ⟨⟨kind, client, num, time, queue, group, body, token, attempt, max, secs, rc, rg.1, rg.2, to, data⟩, r15, _, HP15.out, rfl, ⟨ad, cd, rfl, Wk.RowT.setRow HRow.out (fun a ha => HFar.out a ha) _, HNe.out, l_data⟩, HSf.out, hl15⟩⟩
end Go.Proofs.Ytjboldahmndkeaa.Wq
