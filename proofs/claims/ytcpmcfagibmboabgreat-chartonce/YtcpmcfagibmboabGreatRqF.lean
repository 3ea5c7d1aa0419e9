/-
  WiJC WiFew WiO WiU WiU2 WiU3 ChMv ChS ChMw ChMx, joined by mrg.py.
-/
import Derived.Test.YtcpmcfagibmboabGreatRqE
import Derived.Defers
import Derived.Recover
import Derived.Test.YtcpmcfagibmboabGreatRqC
import Derived.Test.YtcpmcfagibmboabGreatRqA
import Derived.Deep.QuietTactic
import Derived.BigQuiet
import Derived.Deep.CutRange
import Derived.Test.YtcpmcfagibmboabGreatChW
import Derived.Deep.DeepCutAuto

namespace Go.Proofs.YtcpmcfagibmboabGreat.Wq
open Go.RowKit Kt Pl Wi Wk Rd Lt Fw
open At (RowT)
set_option linter.unusedVariables false
set_option linter.unusedSimpArgs false
set_option maxRecDepth 20000

/-- A command that was read. -/
def VC (lo : Nat) (c : Cm) (v : Value) (w : World) : Prop := ∃ ao cap, v = .agg (Cv c (.slice ao c.data.length cap)) ∧ RowT w ao c.data ∧ (∀ a, ao = some a → lo ≤ a.block) ∧ c.data.length ≤ 1024

set_option maxHeartbeats 8000000 in
theorem cmd_any (w : World) (rb : Nat) (bs : Bs) (hst : Rst w rb bs) (hlen : bs.length ≤ 1000000000) :
    Calls Tryz.prog 42 #[.pointer (some ⟨rb, 0, none⟩)] w fun e w' => Got rb w (pCm bs) (VC w.heap.size) e w' := by
  have hlt := hst.lt
  obtain ⟨hsz, -⟩ : w.heap.size = w.heap.size ∧ True := ⟨rfl, trivial⟩
  go_enter Tryz.func42, Tryz.ntmps42
  go_wp2_with fail
  refine startR (fun W0 Z hZ hBz hG => ?_)
  have hst0 := hst.below hG.below
  have HO0 := mkH (On.ofBelow (b := rb) hG.below)
  have HZ := mkH hZ
  have hBz0 := hBz
  have HP0 : Hid (pCm bs = pCm bs) := mkH rfl
  have HS0 := mkH hst0
  have HB0 := mkH hBz
  have HNE : Hid (w.heap.size ≠ rb) := mkH (by omega)
  have HGT : Hid (rb < w.heap.size) := mkH hlt
  have HLE : Hid (w.heap.size ≤ w.heap.size) := mkH (Nat.le_refl _)
  clear hst hst0 hBz hBz0 hG hsz hZ
  generalize hbq : w.heap.size = b2 at HB0 HNE HLE HGT ⊢
  have HBQ := mkH hbq
  clear hbq
  have H1 := num_any W0 rb bs HS0.out hlen
  refine H1.mono ?_
  rintro e W1 ⟨ho1, hc1⟩
  have HO1 := mkH (HO0.out.trans ho1)
  have HB1 := mkH (Wq.Bx.on HB0.out HNE.out ho1)
  clear H1 ho1 HO0 HB0 HS0
  rcases hc1 with ⟨kind, r1, v, hp, rfl, hv, hs, hl1⟩ | ⟨er, hp, her, rfl⟩
  rotate_left
  · have HE := mkH (HP0.out.trans (bindR_err hp))
    clear hp HP0
    unfold stopE
    go_wp2
    exact ⟨rfl, HO1.out, .inr ⟨er, HE.out, her, rfl⟩⟩
  have HP1 := mkH (HP0.out.trans (bindR_of hp))
  have HS1 := mkH hs
  have hv : v = .int .i64 kind := hv
  subst hv
  clear hp hs HP0
  go_wp2_with fail
  have H2 := num_any W1 rb r1 HS1.out hl1
  refine H2.mono ?_
  rintro e W2 ⟨ho2, hc2⟩
  have HO2 := mkH (HO1.out.trans ho2)
  have HB2 := mkH (Wq.Bx.on HB1.out HNE.out ho2)
  clear H2 ho2 HO1 HB1 HS1
  rcases hc2 with ⟨client, r2, v, hp, rfl, hv, hs, hl2⟩ | ⟨er, hp, her, rfl⟩
  rotate_left
  · have HE := mkH (HP1.out.trans (bindR_err hp))
    clear hp HP1
    unfold stopE
    go_wp2
    exact ⟨rfl, HO2.out, .inr ⟨er, HE.out, her, rfl⟩⟩
  have HP2 := mkH (HP1.out.trans (bindR_of hp))
  have HS2 := mkH hs
  have hv : v = .int .i64 client := hv
  subst hv
  clear hp hs HP1
  go_wp2_with fail
  have H3 := num_any W2 rb r2 HS2.out hl2
  refine H3.mono ?_
  rintro e W3 ⟨ho3, hc3⟩
  have HO3 := mkH (HO2.out.trans ho3)
  have HB3 := mkH (Wq.Bx.on HB2.out HNE.out ho3)
  clear H3 ho3 HO2 HB2 HS2
  rcases hc3 with ⟨num, r3, v, hp, rfl, hv, hs, hl3⟩ | ⟨er, hp, her, rfl⟩
  rotate_left
  · have HE := mkH (HP2.out.trans (bindR_err hp))
    clear hp HP2
    unfold stopE
    go_wp2
    exact ⟨rfl, HO3.out, .inr ⟨er, HE.out, her, rfl⟩⟩
  have HP3 := mkH (HP2.out.trans (bindR_of hp))
  have HS3 := mkH hs
  have hv : v = .int .i64 num := hv
  subst hv
  clear hp hs HP2
  go_wp2_with fail
  have H4 := num_any W3 rb r3 HS3.out hl3
  refine H4.mono ?_
  rintro e W4 ⟨ho4, hc4⟩
  have HO4 := mkH (HO3.out.trans ho4)
  have HB4 := mkH (Wq.Bx.on HB3.out HNE.out ho4)
  clear H4 ho4 HO3 HB3 HS3
  rcases hc4 with ⟨time, r4, v, hp, rfl, hv, hs, hl4⟩ | ⟨er, hp, her, rfl⟩
  rotate_left
  · have HE := mkH (HP3.out.trans (bindR_err hp))
    clear hp HP3
    unfold stopE
    go_wp2
    exact ⟨rfl, HO4.out, .inr ⟨er, HE.out, her, rfl⟩⟩
  have HP4 := mkH (HP3.out.trans (bindR_of hp))
  have HS4 := mkH hs
  have hv : v = .int .i64 time := hv
  subst hv
  clear hp hs HP3
  go_wp2_with fail
  have H5 := num_any W4 rb r4 HS4.out hl4
  refine H5.mono ?_
  rintro e W5 ⟨ho5, hc5⟩
  have HO5 := mkH (HO4.out.trans ho5)
  have HB5 := mkH (Wq.Bx.on HB4.out HNE.out ho5)
  clear H5 ho5 HO4 HB4 HS4
  rcases hc5 with ⟨queue, r5, v, hp, rfl, hv, hs, hl5⟩ | ⟨er, hp, her, rfl⟩
  rotate_left
  · have HE := mkH (HP4.out.trans (bindR_err hp))
    clear hp HP4
    unfold stopE
    go_wp2
    exact ⟨rfl, HO5.out, .inr ⟨er, HE.out, her, rfl⟩⟩
  have HP5 := mkH (HP4.out.trans (bindR_of hp))
  have HS5 := mkH hs
  have hv : v = .int .i64 queue := hv
  subst hv
  clear hp hs HP4
  go_wp2_with fail
  have H6 := text_any W5 rb r5 HS5.out hl5
  refine H6.mono ?_
  rintro e W6 ⟨ho6, hc6⟩
  have HO6 := mkH (HO5.out.trans ho6)
  have HB6 := mkH (Wq.Bx.on HB5.out HNE.out ho6)
  clear H6 ho6 HO5 HB5 HS5
  rcases hc6 with ⟨group, r6, v, hp, rfl, hv, hs, hl6⟩ | ⟨er, hp, her, rfl⟩
  rotate_left
  · have HE := mkH (HP5.out.trans (bindR_err hp))
    clear hp HP5
    unfold stopE
    go_wp2
    exact ⟨rfl, HO6.out, .inr ⟨er, HE.out, her, rfl⟩⟩
  have HP6 := mkH (HP5.out.trans (bindR_of hp))
  have HS6 := mkH hs
  obtain ⟨hv, l_group⟩ := hv
  subst hv
  clear hp hs HP5
  go_wp2_with fail
  have H7 := text_any W6 rb r6 HS6.out hl6
  refine H7.mono ?_
  rintro e W7 ⟨ho7, hc7⟩
  have HO7 := mkH (HO6.out.trans ho7)
  have HB7 := mkH (Wq.Bx.on HB6.out HNE.out ho7)
  clear H7 ho7 HO6 HB6 HS6
  rcases hc7 with ⟨body, r7, v, hp, rfl, hv, hs, hl7⟩ | ⟨er, hp, her, rfl⟩
  rotate_left
  · have HE := mkH (HP6.out.trans (bindR_err hp))
    clear hp HP6
    unfold stopE
    go_wp2
    exact ⟨rfl, HO7.out, .inr ⟨er, HE.out, her, rfl⟩⟩
  have HP7 := mkH (HP6.out.trans (bindR_of hp))
  have HS7 := mkH hs
  obtain ⟨hv, l_body⟩ := hv
  subst hv
  clear hp hs HP6
  go_wp2_with fail
  have H8 := text_any W7 rb r7 HS7.out hl7
  refine H8.mono ?_
  rintro e W8 ⟨ho8, hc8⟩
  have HO8 := mkH (HO7.out.trans ho8)
  have HB8 := mkH (Wq.Bx.on HB7.out HNE.out ho8)
  clear H8 ho8 HO7 HB7 HS7
  rcases hc8 with ⟨token, r8, v, hp, rfl, hv, hs, hl8⟩ | ⟨er, hp, her, rfl⟩
  rotate_left
  · have HE := mkH (HP7.out.trans (bindR_err hp))
    clear hp HP7
    unfold stopE
    go_wp2
    exact ⟨rfl, HO8.out, .inr ⟨er, HE.out, her, rfl⟩⟩
  have HP8 := mkH (HP7.out.trans (bindR_of hp))
  have HS8 := mkH hs
  obtain ⟨hv, l_token⟩ := hv
  subst hv
  clear hp hs HP7
  go_wp2_with fail
  have H9 := text_any W8 rb r8 HS8.out hl8
  refine H9.mono ?_
  rintro e W9 ⟨ho9, hc9⟩
  have HO9 := mkH (HO8.out.trans ho9)
  have HB9 := mkH (Wq.Bx.on HB8.out HNE.out ho9)
  clear H9 ho9 HO8 HB8 HS8
  rcases hc9 with ⟨attempt, r9, v, hp, rfl, hv, hs, hl9⟩ | ⟨er, hp, her, rfl⟩
  rotate_left
  · have HE := mkH (HP8.out.trans (bindR_err hp))
    clear hp HP8
    unfold stopE
    go_wp2
    exact ⟨rfl, HO9.out, .inr ⟨er, HE.out, her, rfl⟩⟩
  have HP9 := mkH (HP8.out.trans (bindR_of hp))
  have HS9 := mkH hs
  obtain ⟨hv, l_attempt⟩ := hv
  subst hv
  clear hp hs HP8
  go_wp2_with fail
  have H10 := num_any W9 rb r9 HS9.out hl9
  refine H10.mono ?_
  rintro e W10 ⟨ho10, hc10⟩
  have HO10 := mkH (HO9.out.trans ho10)
  have HB10 := mkH (Wq.Bx.on HB9.out HNE.out ho10)
  clear H10 ho10 HO9 HB9 HS9
  rcases hc10 with ⟨max, r10, v, hp, rfl, hv, hs, hl10⟩ | ⟨er, hp, her, rfl⟩
  rotate_left
  · have HE := mkH (HP9.out.trans (bindR_err hp))
    clear hp HP9
    unfold stopE
    go_wp2
    exact ⟨rfl, HO10.out, .inr ⟨er, HE.out, her, rfl⟩⟩
  have HP10 := mkH (HP9.out.trans (bindR_of hp))
  have HS10 := mkH hs
  have hv : v = .int .i64 max := hv
  subst hv
  clear hp hs HP9
  go_wp2_with fail
  have H11 := num_any W10 rb r10 HS10.out hl10
  refine H11.mono ?_
  rintro e W11 ⟨ho11, hc11⟩
  have HO11 := mkH (HO10.out.trans ho11)
  have HB11 := mkH (Wq.Bx.on HB10.out HNE.out ho11)
  clear H11 ho11 HO10 HB10 HS10
  rcases hc11 with ⟨secs, r11, v, hp, rfl, hv, hs, hl11⟩ | ⟨er, hp, her, rfl⟩
  rotate_left
  · have HE := mkH (HP10.out.trans (bindR_err hp))
    clear hp HP10
    unfold stopE
    go_wp2
    exact ⟨rfl, HO11.out, .inr ⟨er, HE.out, her, rfl⟩⟩
  have HP11 := mkH (HP10.out.trans (bindR_of hp))
  have HS11 := mkH hs
  have hv : v = .int .i64 secs := hv
  subst hv
  clear hp hs HP10
  go_wp2_with fail
  have H12 := receipt_any W11 rb r11 HS11.out hl11
  refine H12.mono ?_
  rintro e W12 ⟨ho12, hc12⟩
  have HO12 := mkH (HO11.out.trans ho12)
  have HB12 := mkH (Wq.Bx.on HB11.out HNE.out ho12)
  clear H12 ho12 HO11 HB11 HS11
  rcases hc12 with ⟨rc, r12, v, hp, rfl, hv, hs, hl12⟩ | ⟨er, hp, her, rfl⟩
  rotate_left
  · have HE := mkH (HP11.out.trans (bindR_err hp))
    clear hp HP11
    unfold stopE
    go_wp2
    exact ⟨rfl, HO12.out, .inr ⟨er, HE.out, her, rfl⟩⟩
  have HP12 := mkH (HP11.out.trans (bindR_of hp))
  have HS12 := mkH hs
  obtain ⟨hv, l_rc⟩ := hv
  have hv : v = .agg #[.int .i64 rc.q, .string (S rc.g), .int .i64 rc.s, .int .i64 rc.c] := hv
  subst hv
  clear hp hs HP11
  go_wp2_with fail
  have H13 := places_any W12 rb r12 HS12.out hl12
  refine H13.mono ?_
  rintro e W13 ⟨ho13, hc13⟩
  have HO13 := mkH (HO12.out.trans ho13)
  have HB13 := mkH (Wq.Bx.on HB12.out HNE.out ho13)
  clear H13 ho13 HO12 HB12 HS12
  rcases hc13 with ⟨rg, r13, v, hp, rfl, hv, hs, hl13⟩ | ⟨er, hp, her, rfl⟩
  rotate_left
  · have HE := mkH (HP12.out.trans (bindR_err hp))
    clear hp HP12
    unfold stopE
    go_wp2
    exact ⟨rfl, HO13.out, .inr ⟨er, HE.out, her, rfl⟩⟩
  have HP13 := mkH (HP12.out.trans (bindR_of hp))
  have HS13 := mkH hs
  have hv : v = .agg #[.int .i64 rg.1, .int .i64 rg.2] := hv
  subst hv
  clear hp hs HP12
  go_wp2_with fail
  have H14 := num_any W13 rb r13 HS13.out hl13
  refine H14.mono ?_
  rintro e W14 ⟨ho14, hc14⟩
  have HO14 := mkH (HO13.out.trans ho14)
  have HB14 := mkH (Wq.Bx.on HB13.out HNE.out ho14)
  clear H14 ho14 HO13 HB13 HS13
  rcases hc14 with ⟨tto, r14, v, hp, rfl, hv, hs, hl14⟩ | ⟨er, hp, her, rfl⟩
  rotate_left
  · have HE := mkH (HP13.out.trans (bindR_err hp))
    clear hp HP13
    unfold stopE
    go_wp2
    exact ⟨rfl, HO14.out, .inr ⟨er, HE.out, her, rfl⟩⟩
  have HP14 := mkH (HP13.out.trans (bindR_of hp))
  have HS14 := mkH hs
  have hv : v = .int .i64 tto := hv
  subst hv
  clear hp hs HP13
  go_wp2_with fail
  have HBp : Hid (b2 < W14.heap.size) := mkH HB14.out.lt
  have HSp : Hid (w.heap.size ≤ W14.heap.size) := mkH HO14.out.size
  have H15 := data_any W14 rb r14 HS14.out hl14
  refine H15.mono ?_
  rintro e W15 ⟨ho15, hc15⟩
  have HO15 := mkH (HO14.out.trans ho15)
  have HB15 := mkH (Wq.Bx.on HB14.out HNE.out ho15)
  clear H15 ho15 HO14 HB14 HS14
  rcases hc15 with ⟨data, r15, v, hp, rfl, hv, hs, hl15⟩ | ⟨er, hp, her, rfl⟩
  rotate_left
  · have HE := mkH (HP14.out.trans (bindR_err hp))
    clear hp HP14
    unfold stopE
    go_wp2
    exact ⟨rfl, HO15.out, .inr ⟨er, HE.out, her, rfl⟩⟩
  have HP15 := mkH (HP14.out.trans (bindR_of hp))
  have HS15 := mkH hs
  obtain ⟨ad, cd, rfl, hrow, hne, l_data⟩ := hv
  have HRow := mkH hrow
  have HFar : Hid (∀ a, ad = some a → a.block ≠ b2) := mkH (fun a ha => by have h1 := hne a ha; have h2 := HBp.out; omega)
  have HNe : Hid (∀ a, ad = some a → w.heap.size ≤ a.block) := mkH (fun a ha => by have h1 := hne a ha; have h2 := HSp.out; omega)
  clear hrow hne
  clear hp hs HP14
  have hst : Bx W15 b2 Z 33 := HB15.out
  have HI : Hid ((Tryz.prog.info? 33).map (·.size) = some (Cv ⟨kind, client, num, time, queue, group, body, token, attempt, max, secs, rc, rg.1, rg.2, tto, data⟩ (.slice ad data.length cd)).size) := mkH info28
  have HSz : Hid (Z.size = (Cv ⟨kind, client, num, time, queue, group, body, token, attempt, max, secs, rc, rg.1, rg.2, tto, data⟩ (.slice ad data.length cd)).size) := mkH HZ.out
  have HOne : Hid ((Cv ⟨kind, client, num, time, queue, group, body, token, attempt, max, secs, rc, rg.1, rg.2, tto, data⟩ (.slice ad data.length cd)).all (fun x => x.oneCell') = true) := mkH (by unfold Cv; rw [List.all_toArray]; rfl)
  have HLd := mkH (load_bx (P := Tryz.prog) (Wk.Bx.row hst (cs := (Cv ⟨kind, client, num, time, queue, group, body, token, attempt, max, secs, rc, rg.1, rg.2, tto, data⟩ (.slice ad data.length cd))) HSz.out) Tryz.underlying33 rfl HI.out)
  have HBst := mkH hst
  have HOf := mkH (HO15.out.setRow (Nat.le_of_eq HBQ.out) (Ne.symm HNE.out) (Cv ⟨kind, client, num, time, queue, group, body, token, attempt, max, secs, rc, rg.1, rg.2, tto, data⟩ (.slice ad data.length cd)))
  have HSf := mkH (HS15.out.setRow HGT.out (Cv ⟨kind, client, num, time, queue, group, body, token, attempt, max, secs, rc, rg.1, rg.2, tto, data⟩ (.slice ad data.length cd)))
  clear hst
  go_wp2_with (refine wpList_st rfl (ty := 33) (x := .tmp 2) (y := .tmp 33) rfl rfl rfl HBst.out HI.out HSz.out HOne.out ?_)
  refine ret_bx 2 33 rfl b2 rfl HLd.out rfl ?_
  exact ⟨HOf.out, .inl ⟨⟨kind, client, num, time, queue, group, body, token, attempt, max, secs, rc, rg.1, rg.2, tto, data⟩, r15, _, HP15.out, rfl, ⟨ad, cd, rfl, Wk.RowT.setRow HRow.out (fun a ha => HFar.out a ha) _, HNe.out, l_data⟩, HSf.out, hl15⟩⟩
end Go.Proofs.YtcpmcfagibmboabGreat.Wq

namespace Go.Proofs.YtcpmcfagibmboabGreat.Wfw
open Go.RowKit Kt Pl Wi Wk Ww Wx We Wf Wy Wb
open At (RowT okT)
set_option linter.unusedVariables false
set_option linter.unusedSimpArgs false
set_option maxRecDepth 20000

theorem start2 {P : Program} {id : Nat} {ops : Array Oper} {b : Bool} {Q : Exit → Act → World → Prop} {a : Act} {w : World} {cs zs : Array Value} {t u : TypeId}
    (h : ∀ W0 Z, Z.size = zs.size → Bx W0 w.heap.size cs t → Bx W0 (w.heap.size + 1) Z u → Gr w W0 → (Code.region id ops b).wp P Q a W0) : (Code.region id ops b).wp P Q a ((w.alloc (.cells cs t)).alloc (.cells zs u)) :=
  h _ zs rfl ((Bx.new w cs t).alloc _) (by have := Bx.new (w.alloc (.cells cs t)) zs u; simpa using this) (((Gr.refl w).alloc _).alloc _)

/-- A command that came out: its data of memory since w. -/
def CmOut (w : World) (c : Cm) (e : Ending) (w' : World) : Prop := ∃ ao cap, e = .returned (.agg (Cv c (.slice ao c.data.length cap))) ∧ RowT w' ao c.data ∧ (∀ a, ao = some a → w.heap.size ≤ a.block) ∧ Below w.heap.size w w'
/-- Texts that a machine can hold. -/
def Fit63 (c : Cm) : Prop := c.group.length ≤ 9223372036854775807 ∧ c.body.length ≤ 9223372036854775807 ∧ c.token.length ≤ 9223372036854775807 ∧ c.attempt.length ≤ 9223372036854775807 ∧ c.rc.g.length ≤ 9223372036854775807 ∧ c.data.length ≤ 9223372036854775807
theorem Cv_one (c : Cm) (ao : Option Addr) (n cap : Nat) : (Cv c (.slice ao n cap)).all (fun x => x.oneCell') = true := by unfold Cv; rw [List.all_toArray]; rfl
end Go.Proofs.YtcpmcfagibmboabGreat.Wfw

namespace Go.Proofs.YtcpmcfagibmboabGreat.Wo
open Go.RowKit Kt Pl Wi Wk Ww Wx We Wf Wy Wb Wfw
open At (RowT okT)
set_option linter.unusedVariables false
set_option linter.unusedSimpArgs false
set_option maxRecDepth 20000

def cw : Cm := ⟨1, 1, 2, 3, 0, [103], [98], [], [], 0, 0, Rcp.none, 0, 0, 0, []⟩
theorem cw_ok : checkC cw = 0 := by decide
theorem cw_bytes : encCm cw = [1, 1, 2, 3, 0, 1, 103, 1, 98, 0, 0, 0, 0, 0, 0, 0, 0, 0, 0, 0, 0] := by
  have e0 : enc 0 = [0] := by rw [enc_lt (by omega)]; rfl
  have e1 : enc 1 = [1] := by rw [enc_lt (by omega)]; rfl
  have e2 : enc 2 = [2] := by rw [enc_lt (by omega)]; rfl
  have e3 : enc 3 = [3] := by rw [enc_lt (by omega)]; rfl
  simp [encCm, cw, encN, encText, encRcp, encRg, encList, Rcp.none, e0, e1, e2, e3]
theorem RowT.nil (w : World) (ao : Option Addr) : RowT w ao [] := fun h => by simp at h
theorem Wt.row {w : World} {base : Nat} {v : Value} {bs : Bs} (h : Wt w base v bs) : ∃ ao cap, v = .slice ao bs.length cap ∧ Row w ao bs ∧ bs.length ≤ cap ∧ cap ≤ 9223372036854775807 := by
  obtain ⟨ao, cap, rfl⟩ := own_form h
  exact ⟨ao, cap, rfl, (Row.own h).2.2, (Row.own h).2.1, own_cap h⟩
end Go.Proofs.YtcpmcfagibmboabGreat.Wo

namespace Go.Proofs.YtcpmcfagibmboabGreat.Wu
open Go.RowKit Kt Pl Wi Wk Wf Wfw Wq Wy Wx
open At (RowT)
set_option linter.unusedVariables false
set_option linter.unusedSimpArgs false
set_option maxRecDepth 20000

theorem op_both {P : Program} {ops : Array Oper} {Q : Exit → Act → World → Prop} {i : Nat} {o : Oper} {a : Act} {w w' : World} {K : Act → World → Prop} (ho : ops[i]? = some o) (hg : o.guard = none) (hrun : (execOp a.eval o).run P w = .ok .skip w' ∨ (execOp a.eval o).run P w = .ok (.value undef) w') (hK : K (a.put o.dst undef) w') : wpOp P ops Q i K a w := by
  rcases hrun with h | h
  · exact op_skip ho hg h hK
  · exact op_value ho hg h hK

theorem startZ {P : Program} {id : Nat} {ops : Array Oper} {b : Bool} {Q : Exit → Act → World → Prop} {a : Act} {w : World} {zs : Array Value} {u : TypeId}
    (h : ∀ W0, Bx W0 w.heap.size zs u → Gr w W0 → (Code.region id ops b).wp P Q a W0) : (Code.region id ops b).wp P Q a (w.alloc (.cells zs u)) :=
  h _ (Bx.new w zs u) ((Gr.refl w).alloc _)

/-- The deferred closure, where nothing panics. -/
theorem idle_any (p q : Addr) (w : World) : CallsD Tryz.prog 65 #[.pointer (some p), .pointer (some q)] .returning w fun e u' w' => e = .returned (.tuple #[]) ∧ u' = .returning ∧ w' = w := by
  refine callsD_of_wpS Tryz.func65 rfl fun c₀ cs hu => ?_
  apply wpS_seq
  apply wpS_region
  simp [wpOpsS, go_sem, recoverD, hu, Tryz.ntmps65, Exit.thenS]
  refine wpS_of_wp ?_
  simp only [Array.replicate_succ, Array.replicate_zero, List.push_toArray, List.append_toArray, List.nil_append, List.cons_append, List.setIfInBounds_toArray, List.set_cons_zero, List.set_cons_succ]
  go_wp2
  cases c₀
  simp_all [bodyPostS, results, Tryz.results65]

/-- All old blocks but two stay. -/
structure Two (b c : Nat) (w w' : World) : Prop where
  os : w'.os = w.os
  tape : w'.tape = w.tape
  output : w'.output = w.output
  size : w.heap.size ≤ w'.heap.size
  block : ∀ k, k < w.heap.size → k ≠ b → k ≠ c → w'.heap[k]? = w.heap[k]?

def Zc : Array Value := Cv Cm.none (.slice none 0 0)

theorem infoZ : (Tryz.prog.info? 33).map (·.size) = some Zc.size := by kernel_rfl

theorem Zc_one : Zc.all (fun x => x.oneCell') = true := by unfold Zc Cv; rw [List.all_toArray]; rfl

set_option maxHeartbeats 4000000 in
/-- The deferred closure, where a reader has stopped: the results are laid. -/
theorem catch_any (bp bq er : Nat) (C : Array Value) (old : Value) (older : List PanicEntry) (w : World) (hp : Bx w bp C 33) (hC : C.size = 19) (hq : Bx w bq #[old] 24) (hne : bp ≠ bq) :
    CallsD Tryz.prog 65 #[.pointer (some ⟨bp, 0, none⟩), .pointer (some ⟨bq, 0, none⟩)] (.panicking ({ v := .iface 124 (.agg #[.int .i64 er]), recovered := false } :: older)) w fun e u' w' =>
      e = .returned (.tuple #[]) ∧ u' = .panicking ({ v := .iface 124 (.agg #[.int .i64 er]), recovered := true } :: older) ∧ Bx w' bp Zc 33 ∧ Bx w' bq #[.int .i64 er] 24 ∧ Two bp bq w w' := by
  refine callsD_of_wpS Tryz.func65 rfl fun c₀ cs hu => ?_
  apply wpS_seq
  apply wpS_region
  simp [wpOpsS, go_sem, recoverD, hu, Tryz.ntmps65, Exit.thenS]
  refine wpS_of_wp ?_
  simp only [Array.replicate_succ, Array.replicate_zero, List.push_toArray, List.append_toArray, List.nil_append, List.cons_append, List.setIfInBounds_toArray, List.set_cons_zero, List.set_cons_succ]
  have HI : Hid ((Tryz.prog.info? 33).map (·.size) = some Zc.size) := mkH infoZ
  have hta : ∀ W : World, (Instr.typeAssert (.iface 124 (.agg #[.int .i64 er])) 20 124 false).run Tryz.prog W = .ok (.agg #[.int .i64 er]) W := fun _ => by kernel_rfl
  have hfi : ∀ W : World, (Instr.field 124 (.agg #[.int .i64 er]) 0).run Tryz.prog W = .ok (.int .i64 er) W := fun _ => by kernel_rfl
  have hlp := hp.lt
  have hlq := hq.lt
  have HP0 := mkH hp
  have HQ0 := mkH hq
  have HU := mkH hu
  clear hp hq hu
  go_wp2_with fail
  refine startZ (zs := Zc) (fun W0 hBz hG => ?_)
  have hp1 := HP0.out.gr (hG.trans ((Gr.refl W0).drew))
  have hq1 := HQ0.out.gr (hG.trans ((Gr.refl W0).drew))
  have HW := mkH (hG.trans ((Gr.refl W0).drew))
  have HBz := mkH hBz
  generalize hb3 : w.heap.size = b3 at hBz HBz ⊢
  refine wp_region_held_drew (S := fun W => Bx W b3 Zc 33) (by kernel_rfl) (hBz.gr ((Gr.refl W0).drew)) (fun hHeld => ?_)
  clear hG hBz
  refine wpAnyH_take (i := 1) (oi := { dst := some 8, op := _, type := _, pos := _, after := _, guard := _ }) (v := ?_) rfl (by kernel_rfl) (by kernel_rfl) (by kernel_rfl) (fun _ _ _ h => h) (Or.inl ⟨by rfl, ?_⟩) (by assumption) ?_
  rotate_left
  · (intro W hSw; (try dsimp only at hSw); go_simp; try (with_reducible rfl))
  try simp only [Act.put, List.setIfInBounds_toArray, List.set_cons_zero, List.set_cons_succ]
  refine wpAnyH_take (i := 2) (oi := { dst := some 9, op := _, type := _, pos := _, after := _, guard := _ }) (v := ?_) rfl (by kernel_rfl) (by kernel_rfl) (by kernel_rfl) (fun _ _ _ h => h) (Or.inl ⟨by rfl, ?_⟩) (by assumption) ?_
  rotate_left
  · (intro W hSw; (try dsimp only at hSw); go_simp; try (with_reducible rfl))
  try simp only [Act.put, List.setIfInBounds_toArray, List.set_cons_zero, List.set_cons_succ]
  refine wpAnyH_take (i := 3) (oi := { dst := some 10, op := _, type := _, pos := _, after := _, guard := _ }) (v := ?_) rfl (by kernel_rfl) (by kernel_rfl) (by kernel_rfl) (fun _ _ _ h => h) (Or.inl ⟨by rfl, ?_⟩) (by assumption) ?_
  rotate_left
  · (intro W hSw; (try dsimp only at hSw); go_simp; try (with_reducible rfl))
  try simp only [Act.put, List.setIfInBounds_toArray, List.set_cons_zero, List.set_cons_succ]
  refine wpAnyH_take (i := 0) (oi := { dst := some 7, op := _, type := _, pos := _, after := _, guard := _ }) (v := .agg Zc) rfl (by kernel_rfl) (by kernel_rfl) (by kernel_rfl) (fun _ _ _ h => h) (Or.inl ⟨by rfl, ?_⟩) (by assumption) ?_
  · (intro W hSw; exact run_ld rfl rfl (load_bx (P := Tryz.prog) hSw Tryz.underlying33 rfl HI.out))
  try simp only [Act.put, List.setIfInBounds_toArray, List.set_cons_zero, List.set_cons_succ]
  have hb3p : bp ≠ b3 := by omega
  have hb3q : bq ≠ b3 := by omega
  have hst := run_st (P := Tryz.prog) (w := W0.drew) (o := { dst := none, op := .store 33 (.tmp 0) (.tmp 7), type := 0, pos := "", after := #[], guard := none }) (a := { tmps := #[.pointer (some ⟨bp, 0, none⟩), undef, undef, undef, undef, undef, undef, .agg Zc], defers := [] }) rfl rfl rfl hp1 HI.out (hC.trans rfl) Zc_one
  have hp2 := Wk.Bx.row hp1 (cs := Zc) (hC.trans rfl)
  have hq2 := Wk.Bx.rowOther hq1 hne Zc
  have hz2 := Wk.Bx.rowOther hHeld hb3p Zc
  refine wpAnyH_one (i := 4) (by kernel_rfl) (op_both rfl rfl (w' := W0.drew.setRow bp Zc) (run_st (P := Tryz.prog) rfl rfl rfl hp1 HI.out (hC.trans rfl) Zc_one) ⟨hz2, ?_⟩)
  simp only [Act.put]
  have hc2 : (W0.drew.setRow bp Zc).cell? ⟨bq, 0, none⟩ = some old := hq2.cell 0
  have hf2 := hq2.frozen 0
  refine wpAnyH_one (i := 5) (by kernel_rfl) (op_skip rfl rfl (w' := (W0.drew.setRow bp Zc).setCell ⟨bq, 0, none⟩ (.int .i64 er)) ?_ ⟨hz2.other (by simpa using hb3q) _, ?_⟩)
  · clear hst hp2 hq2 hz2 hHeld hp1 hq1 hta hfi
    go_simp
  simp only [Act.put]
  refine wpAnyH_done (by kernel_rfl) ?_ _
  have HX := mkH (hp2.other (p := ⟨bq, 0, none⟩) (fun e => hne e.symm) (.int .i64 er))
  have HY : Hid (Bx ((W0.drew.setRow bp Zc).setCell ⟨bq, 0, none⟩ (.int .i64 er)) bq #[.int .i64 er] 24) := mkH (hq2.set 0 (.int .i64 er))
  have HT : Hid (Two bp bq w ((W0.drew.setRow bp Zc).setCell ⟨bq, 0, none⟩ (.int .i64 er))) := mkH ⟨HW.out.below.os, HW.out.below.tape, HW.out.below.output, by simpa using HW.out.below.size, fun k hk h1 h2 => by rw [heap_setCell_other _ _ _ _ h2, setRow_other _ _ _ _ h1]; exact HW.out.below.block k hk⟩
  clear hst hp2 hq2 hz2 hHeld hp1 hq1 hta hfi hc2 hf2
  go_wp2
  refine ⟨rfl, _, rfl, .tuple #[], ?_, rfl, rfl, HX.out, HY.out, HT.out⟩
  simp [results, Tryz.results65]
end Go.Proofs.YtcpmcfagibmboabGreat.Wu

namespace Go.Proofs.YtcpmcfagibmboabGreat.Wu
open Go.RowKit Kt Pl Wi Wk Wf Wfw Wq Wy Wx
open At (RowT)
set_option linter.unusedVariables false
set_option linter.unusedSimpArgs false
set_option maxRecDepth 20000

theorem hmf : ∀ (fn : Fn) (first cap : Array Value) (w : World), (Instr.makeFunc fn first cap).run Tryz.prog w = .ok (.func fn first cap) w := fun _ _ _ _ => rfl

theorem startZ2 {f : FuncId} {args : Array Value} {R : Ending → World → Prop} {w : World} {zs ys : Array Value} {u v : TypeId}
    (h : ∀ W0, Bx W0 w.heap.size zs u → Bx W0 (w.heap.size + 1) ys v → Gr w W0 → W0.heap.size = w.heap.size + 2 → Calls Tryz.prog f args W0 R) : Calls Tryz.prog f args ((w.alloc (.cells zs u)).alloc (.cells ys v)) R :=
  h _ ((Bx.new w zs u).alloc _) (by have := Bx.new (w.alloc (.cells zs u)) ys v; simpa using this) (((Gr.refl w).alloc _).alloc _) (by simp)

/-- What the reading of a whole command tells. -/
def WhC (rb : Nat) (w : World) (bs : Bs) (e : Ending) (w' : World) : Prop := On rb w w' ∧
  ((∃ c ao cap, readCm bs = .ok c ∧ e = .returned (.tuple #[.agg (Cv c (.slice ao c.data.length cap)), .int .i64 0]) ∧ RowT w' ao c.data ∧ (∀ a, ao = some a → w.heap.size ≤ a.block) ∧ c.data.length ≤ 1024)
   ∨ (∃ er : Nat, readCm bs = .error er ∧ er ≠ 0 ∧ e = .returned (.tuple #[.agg Zc, .int .i64 er])))

theorem Two.on {b c rb : Nat} {w w1 w' : World} (h : Two b c w1 w') (k : On rb w w1) (hb : w.heap.size ≤ b) (hc : w.heap.size ≤ c) : On rb w w' :=
  ⟨h.os.trans k.os, h.tape.trans k.tape, h.output.trans k.output, Nat.le_trans k.size h.size, fun i hi hne => (h.block i (Nat.lt_of_lt_of_le hi k.size) (by omega) (by omega)).trans (k.block i hi hne)⟩

theorem On.setRow {b g : Nat} {w w' : World} (h : On b w w') (hg : w.heap.size ≤ g) (cs : Array Value) : On b w (w'.setRow g cs) :=
  ⟨h.os, h.tape, h.output, by simpa using h.size, fun i hi hne => by rw [setRow_other _ _ _ _ (by omega)]; exact h.block i hi hne⟩

theorem On.setNew {b : Nat} {w w' : World} (h : On b w w') {p : Addr} (hg : w.heap.size ≤ p.block) (v : Value) : On b w (w'.setCell p v) :=
  ⟨h.os, h.tape, h.output, by simpa using h.size, fun i hi hne => by rw [heap_setCell_other _ _ _ _ (by omega)]; exact h.block i hi hne⟩

theorem onRow (w : World) (g : Nat) (cs : Array Value) : On g w (w.setRow g cs) :=
  ⟨rfl, rfl, rfl, by simp, fun i hi hne => setRow_other _ _ _ _ (fun e => hne (by rw [e]))⟩

theorem load_err {w : World} {b : Nat} {v : Value} (h : Bx w b #[v] 24) : (loadVar 24 ⟨b, 0, none⟩).run Tryz.prog w = .ok v w := by
  have hc : w.cell? ⟨b, 0, none⟩ = some v := h.cell 0
  go_simp

theorem results_two {fn : Func} {p q : Tmp} {t u : TypeId} (h : fn.results = #[.cell p t, .cell q u]) (tmps : Array Value) (P : Program) (w : World) {b c : Addr} {x y : Value}
    (hp : tmps.getD p undef = .pointer (some b)) (hq : tmps.getD q undef = .pointer (some c)) (hx : (loadVar t b).run P w = .ok x w) (hy : (loadVar u c).run P w = .ok y w) :
    (results fn tmps).run P w = .ok (.tuple #[x, y]) w := by
  have hp' : tmps[p]?.getD undef = .pointer (some b) := by simpa using hp
  have hq' : tmps[q]?.getD undef = .pointer (some c) := by simpa using hq
  simp only [results, h]
  simp [Sem.run_bind, Result.andThen, hp', hq', asAddr, hx, hy]

theorem door_ok (w : World) (tmps C : Array Value) (v : Value) (R : Ending → World → Prop) (b c : Nat) (hB : Bx w b C 33) (hC : C.size = 19) (hE : Bx w c #[v] 24)
    (h6 : tmps.getD 6 undef = .pointer (some ⟨b, 0, none⟩)) (h7 : tmps.getD 7 undef = .pointer (some ⟨c, 0, none⟩)) (hR : R (.returned (.tuple #[.agg C, v])) w) :
    bodyPostD Tryz.prog Tryz.f41 R .ret { tmps := tmps, defers := [{ target := .fn (Fn.func 65) #[.pointer (some ⟨b, 0, none⟩), .pointer (some ⟨c, 0, none⟩)], args := #[] }] } w := by
  refine leaves_cons (f := 65) (args := #[.pointer (some ⟨b, 0, none⟩), .pointer (some ⟨c, 0, none⟩)]) (by simp) (by simp [go_sem]) ?_
  refine (idle_any _ _ w).mono ?_
  rintro e u' w'' ⟨rfl, rfl, rfl⟩
  exact ⟨_, results_two rfl _ _ _ h6 h7 (load_bx hB Tryz.underlying33 rfl (hC ▸ infoC)) (load_err hE), hR⟩

theorem door_bad (w : World) (tmps C : Array Value) (v : Value) (R : Ending → World → Prop) (b c er : Nat) (hB : Bx w b C 33) (hC : C.size = 19) (hE : Bx w c #[v] 24) (hne : b ≠ c)
    (h6 : tmps.getD 6 undef = .pointer (some ⟨b, 0, none⟩)) (h7 : tmps.getD 7 undef = .pointer (some ⟨c, 0, none⟩)) (hR : ∀ w', Two b c w w' → R (.returned (.tuple #[.agg Zc, .int .i64 er])) w') :
    bodyPostD Tryz.prog Tryz.f41 R (.panic [{ v := .iface 124 (.agg #[.int .i64 er]), recovered := false }]) { tmps := tmps, defers := [{ target := .fn (Fn.func 65) #[.pointer (some ⟨b, 0, none⟩), .pointer (some ⟨c, 0, none⟩)], args := #[] }] } w := by
  refine leaves_cons (f := 65) (args := #[.pointer (some ⟨b, 0, none⟩), .pointer (some ⟨c, 0, none⟩)]) (by simp) (by simp [go_sem]) ?_
  refine (catch_any b c er C v [] w hB hC hE hne).mono ?_
  rintro e u' w'' ⟨rfl, rfl, hB', hE', hT⟩
  exact ⟨_, results_two rfl _ _ _ h6 h7 (load_bx hB' Tryz.underlying33 rfl infoC) (load_err hE'), hR _ hT⟩

set_option maxHeartbeats 8000000 in
theorem whole_any (w : World) (rb : Nat) (bs : Bs) (hst : Rst w rb bs) (hlen : bs.length ≤ 1000000000) : 
    Calls Tryz.prog 41 #[.pointer (some ⟨rb, 0, none⟩), .func (Fn.func 42) #[.pointer (some ⟨rb, 0, none⟩)] #[], .func (Fn.func 13) #[] #[]] w fun e w' => WhC rb w bs e w' := by
  have hmf := hmf
  have hrb := hst.lt
  go_enter_defers Tryz.func41, Tryz.ntmps41
  go_wp2_with fail
  refine startZ2 (zs := Zc) (fun W0 hZ hY hG hsz => ?_)
  have HO0 := mkH (On.ofBelow (b := rb) hG.below)
  have hs0 := hst.below hG.below
  have hlo : W0.heap.size = w.heap.size + 2 := hsz
  clear hst hG hsz
  have HC := cmd_any W0 rb bs hs0 hlen
  rw [hlo] at HC
  clear hs0 hlo
  have HB0 := mkH hZ
  have HY0 := mkH hY
  have HW : Hid (∀ e w', WhC rb w bs e w' → WhC rb w bs e w') := mkH (fun _ _ h => h)
  clear hZ hY
  refine HC.mono ?_
  rintro e W1 ⟨ho1, hc1⟩
  have HO1 := mkH (HO0.out.trans ho1)
  have HB1 := mkH (Wq.Bx.on HB0.out (by omega) ho1)
  have HY1 := mkH (Wq.Bx.on HY0.out (by omega) ho1)
  clear HC ho1 HO0 HB0 HY0
  rcases hc1 with ⟨c, r1, v, hp, rfl, hv, hs, hl1⟩ | ⟨er, hp, her, rfl⟩
  rotate_left
  · unfold stopE
    go_wp2_with fail
    have HE : readCm bs = .error er := by unfold readCm Wi.whole; rw [hp]
    exact door_bad W1 _ Zc _ _ _ _ er HB1.out rfl HY1.out (by omega) rfl rfl (fun w' hT => ⟨hT.on HO1.out (by omega) (by omega), .inr ⟨er, HE, her, rfl⟩⟩)
  obtain ⟨ao, cap, rfl, hr, hlo, hdl⟩ := hv
  have h1 : (Cv c (.slice ao c.data.length cap)).all (fun x => x.oneCell') = true := by unfold Cv; rw [List.all_toArray]; rfl
  have H1 := mkH h1
  clear h1
  go_wp2_with (refine wpList_st rfl rfl rfl rfl HB1.out (cs := Cv c (.slice ao c.data.length cap)) infoC rfl H1.out ?_)
  have HB2 := mkH (HB1.out.row (cs := Cv c (.slice ao c.data.length cap)) rfl)
  have HY2 := mkH (HY1.out.rowOther (g := w.heap.size) (by omega) (Cv c (.slice ao c.data.length cap)))
  have HO2 := mkH (On.setRow HO1.out (Nat.le_refl _) (Cv c (.slice ao c.data.length cap)))
  have HR2 := mkH (Wk.RowT.setRow hr (g := w.heap.size) (fun a ha => by have := hlo a ha; omega) (Cv c (.slice ao c.data.length cap)))
  have hs2 : Rst (W1.setRow w.heap.size (Cv c (.slice ao c.data.length cap))) rb r1 := by
    obtain ⟨ao', cap', k1, k2, k3, k4, k5⟩ := hs
    exact ⟨ao', cap', k1.rowOther (by omega) _, Wq.Row.on k2 (rb := w.heap.size) (fun h a ha => by have := k5 h a ha; omega) (onRow _ _ _), k3, k4, k5⟩
  have HHP := mkH hp
  have HLO := mkH hlo
  have HDL := mkH hdl
  clear HB1 HY1 HO1 hr hs hp hlo hdl
  generalize W1.setRow w.heap.size (Cv c (.slice ao c.data.length cap)) = W2 at *
  have HEND := end_any W2 rb r1 hs2 hl1
  clear hs2 hl1
  refine HEND.mono ?_
  rintro e W3 ⟨rfl, h⟩
  rcases h with ⟨h0, rfl⟩ | ⟨h0, rfl⟩
  rotate_left
  · unfold stopE
    go_wp2_with fail
    have HE : readCm bs = .error 5 := by unfold readCm Wi.whole; rw [HHP.out]; simp [h0]
    exact door_bad W3 _ _ _ _ _ _ 5 HB2.out rfl HY2.out (by omega) rfl rfl (fun w' hT => ⟨hT.on HO2.out (by omega) (by omega), .inr ⟨5, HE, by omega, rfl⟩⟩)
  have HRD : Hid (readCm bs = if checkC c ≠ 0 then .error (checkC c) else .ok c) := mkH (by unfold readCm Wi.whole; rw [HHP.out]; simp [h0])
  clear HEND h0 HHP
  have HCK := check_any W3 c ao cap HR2.out (by have := HDL.out; omega)
  go_wp2_with (refine wpList_ld rfl rfl rfl (load_cm HB2.out) ?_)
  refine HCK.mono ?_
  rintro e W4 ⟨rfl, hG⟩
  have HB4 := mkH (HB2.out.gr hG)
  have HY4 := mkH (HY2.out.gr hG)
  have HO4 := mkH (HO2.out.trans (On.ofBelow hG.below))
  have HR4 := mkH (RowT.gr HR2.out hG)
  clear HCK hG HB2 HY2 HO2 HR2
  by_cases hck : checkC c = 0
  rotate_left
  · have HS := stopAt_bad W4 (checkC c) hck
    have HE : readCm bs = .error (checkC c) := by rw [HRD.out]; simp [hck]
    go_wp2_with fail
    refine HS.mono ?_
    rintro e W5 ⟨rfl, rfl⟩
    unfold stopE
    clear HS
    go_wp2_with fail
    exact door_bad W5 _ _ _ _ _ _ _ HB4.out rfl HY4.out (by omega) rfl rfl (fun w' hT => ⟨hT.on HO4.out (by omega) (by omega), .inr ⟨_, HE, hck, rfl⟩⟩)
  have HE : Hid (readCm bs = .ok c) := mkH (by rw [HRD.out]; simp [hck])
  have HS := stopAt_ok W4
  rw [hck]
  clear HRD hck
  go_wp2_with fail
  refine HS.mono ?_
  rintro e W5 ⟨rfl, rfl⟩
  clear HS
  have HB5 := mkH (HB4.out.row (cs := Cv c (.slice ao c.data.length cap)) rfl)
  have hy5 := HY4.out.rowOther (g := w.heap.size) (by omega) (Cv c (.slice ao c.data.length cap))
  have HO5 := mkH (On.setRow HO4.out (Nat.le_refl _) (Cv c (.slice ao c.data.length cap)))
  have HR5 := mkH (Wk.RowT.setRow HR4.out (g := w.heap.size) (fun a ha => by have := HLO.out a ha; omega) (Cv c (.slice ao c.data.length cap)))
  have hc5 : (W5.setRow w.heap.size (Cv c (.slice ao c.data.length cap))).cell? ⟨w.heap.size + 1, 0, none⟩ = some (.int .i64 0) := hy5.cell 0
  have hf5 := hy5.frozen 0
  have HY5 := mkH hy5
  clear hy5
  go_wp2_with (first
    | (refine wpList_ld rfl rfl rfl (load_cm HB4.out) ?_)
    | (refine wpList_st rfl rfl rfl rfl HB4.out (cs := Cv c (.slice ao c.data.length cap)) infoC rfl H1.out ?_))
  generalize W5.setRow w.heap.size (Cv c (.slice ao c.data.length cap)) = W6 at *
  have HY6 : Hid (Bx (W6.setCell ⟨w.heap.size + 1, 0, none⟩ (.int .i64 0)) (w.heap.size + 1) #[.int .i64 0] 24) := mkH (HY5.out.set 0 (.int .i64 0))
  refine door_ok _ _ _ _ _ _ _ (HB5.out.other (p := ⟨w.heap.size + 1, 0, none⟩) (by simp) _) rfl HY6.out rfl rfl ⟨On.setNew HO5.out (by simp) _, .inl ⟨c, ao, cap, HE.out, rfl, Wk.RowT.setCell HR5.out (fun a ha => by have := HLO.out a ha; simp; omega) _, fun a ha => by have := HLO.out a ha; omega, HDL.out⟩⟩
end Go.Proofs.YtcpmcfagibmboabGreat.Wu

namespace Go.Proofs.YtcpmcfagibmboabGreat.Wu
open Go.RowKit Kt Pl Wi Wk Wf Wfw Wq Wy Wx
open At (RowT)
set_option linter.unusedVariables false
set_option linter.unusedSimpArgs false
set_option maxRecDepth 20000

/-- What ReadCmd tells. -/
def RdC (w : World) (bs : Bs) (e : Ending) (w' : World) : Prop := Below w.heap.size w w' ∧
  ((∃ c ao cap, readCm bs = .ok c ∧ e = .returned (.tuple #[.agg (Cv c (.slice ao c.data.length cap)), .int .i64 0]) ∧ RowT w' ao c.data ∧ (∀ a, ao = some a → w.heap.size ≤ a.block) ∧ c.data.length ≤ 1024)
   ∨ (∃ er : Nat, readCm bs = .error er ∧ er ≠ 0 ∧ e = .returned (.tuple #[.agg Zc, .int .i64 er])))

theorem results_ct {fn : Func} {p q : Tmp} {t : TypeId} (h : fn.results = #[.cell p t, .tmp q]) (tmps : Array Value) (P : Program) (w : World) {b : Addr} {x y : Value}
    (hp : tmps.getD p undef = .pointer (some b)) (hq : tmps.getD q undef = y) (hx : (loadVar t b).run P w = .ok x w) :
    (results fn tmps).run P w = .ok (.tuple #[x, y]) w := by
  have hp' : tmps[p]?.getD undef = .pointer (some b) := by simpa using hp
  have hq' : tmps[q]?.getD undef = y := by simpa using hq
  simp only [results, h]
  simp [Sem.run_bind, Result.andThen, hp', hq', asAddr, hx]

theorem row_lt {w : World} {ao : Option Addr} {bs : Bs} (h : Row w ao bs) : 0 < bs.length → ∀ a, ao = some a → a.block < w.heap.size := by
  intro hl a ha
  obtain ⟨b, off, rfl, hc⟩ := h hl
  have := World.block_lt_of_cell? w _ (hc 0 hl)
  simp at ha; subst ha; exact this

set_option maxHeartbeats 8000000 in
theorem readCmd_any (w : World) (ao : Option Addr) (cap : Nat) (bs : Bs) (hr : Row w ao bs) (hlen : bs.length ≤ 1000000000) (hcap : bs.length ≤ cap) (h63 : cap ≤ 9223372036854775807) :
    Calls Tryz.prog 19 #[.slice ao bs.length cap] w fun e w' => RdC w bs e w' := by
  have hmf := hmf
  have hlt := row_lt hr
  go_enter Tryz.func19, Tryz.ntmps19
  go_wp2_with fail
  refine startZ2 (zs := Zc) (fun W0 hZ hY hG hsz => ?_)
  have hst : Rst W0 (w.heap.size + 1) bs := ⟨ao, cap, hY, hr.below hG.below, hcap, h63, fun h a ha => by have := hlt h a ha; omega⟩
  have H := whole_any W0 (w.heap.size + 1) bs hst hlen
  have HZ := mkH hZ
  have HG := mkH hG
  clear hst hr hlt hY hZ hG
  refine H.mono ?_
  rintro e W1 ⟨ho1, hc1⟩
  have HB1 := mkH (Wq.Bx.on HZ.out (by omega) ho1)
  have HO1 := mkH (HG.out.below.trans (ho1.below (B := w.heap.size) (by omega) (by omega)))
  clear H HZ HG ho1
  rcases hc1 with ⟨c, ao', cap', hp, rfl, hrt, hlo, hdl⟩ | ⟨er, hp, her, rfl⟩
  · have H1 := mkH (Cv_one c ao' c.data.length cap')
    have HP := mkH hp
    have HRT := mkH (Wk.RowT.setRow hrt (g := w.heap.size) (fun a ha => by have := hlo a ha; omega) (Cv c (.slice ao' c.data.length cap')))
    have HL := mkH hlo
    have HD := mkH hdl
    clear hp hrt hlo hdl
    go_wp2_with (refine wpList_st rfl rfl rfl rfl HB1.out (cs := Cv c (.slice ao' c.data.length cap')) infoC rfl H1.out ?_)
    refine bodyPost_ret (results_ct rfl _ _ _ rfl rfl (load_cm (HB1.out.row rfl))) rfl ⟨below_setRow HO1.out (Nat.le_refl _) _, .inl ⟨c, ao', cap', HP.out, rfl, HRT.out, fun a ha => by have := HL.out a ha; omega, HD.out⟩⟩
  · have HP := mkH hp
    clear hp
    go_wp2_with (refine wpList_st rfl rfl rfl rfl HB1.out (cs := Zc) infoZ rfl Zc_one ?_)
    refine bodyPost_ret (results_ct rfl _ _ _ rfl rfl (load_bx (HB1.out.row rfl) Tryz.underlying33 rfl infoZ)) rfl ⟨below_setRow HO1.out (Nat.le_refl _) _, .inr ⟨er, HP.out, her, rfl⟩⟩
end Go.Proofs.YtcpmcfagibmboabGreat.Wu

namespace Go.Proofs.YtcpmcfagibmboabGreat.Mv
open Go.RowKit Go.Shelf Gf Gk Mp Cl Ma
open Ct (txt)
open Cu (nums dump_any dmpV_may)
open Cp (Pc mayC)
open Cr (RdP)
open Kt
open At (RowT)
open Wi (Cm)
open Wk (Cv)
open Go.Proofs.YtcpmcfagibmboabGreat.Nm (Srt atX)
set_option linter.unusedVariables false
set_option linter.unusedSimpArgs false
set_option maxRecDepth 20000

theorem infoR : (Tryz.prog.info? 40).map (·.size) = some 6 := by kernel_rfl
/-- A reply's cells. -/
def Rv (er n : Int) (d : Value) : Array Value := #[.int .i64 er, .int .i64 0, .int .i64 n, .slice none 0 0, d, .slice none 0 0]
theorem Rv_one (er n : Int) (a : Option Addr) (k c : Nat) : (Rv er n (.slice a k c)).all (fun x => x.oneCell') = true := by unfold Rv; rw [List.all_toArray]; rfl
theorem load_rv {w : World} {b : Nat} {er n : Int} {d : Value} (h : Gk.Bx w b (Rv er n d) 40) : (loadVar 40 ⟨b, 0, none⟩).run Tryz.prog w = .ok (.agg (Rv er n d)) w := Wk.load_bx (P := Tryz.prog) h Tryz.underlying40 rfl (by kernel_rfl)
theorem Md.cellne {w : World} {b : Nat} {D : List Dd} (h : Md w b D) {a : Addr} {v : Value} (hc : w.cell? a = some v) : a.block ≠ b := Go.Proofs.YtcpmcfagibmboabGreat.Nm.Mw.cell h hc
theorem rdP_map {w w' : World} {m : Nat} {D : List Dd} {a : Option Addr} {c : Nat} {ps : List Pc} (h : RdP w a c ps) (hm : Md w m D) (hf : Gf.Fr (fun q => q = m) w w') : RdP w' a c ps :=
  ⟨fun hl => by
    obtain ⟨b, off, e, hc⟩ := h.r hl
    refine ⟨b, off, e, fun i x hx j v hv => ?_⟩
    have h1 := hc i x hx j v hv
    rw [World.cell?_of_block (w := w) (hf.heap (World.block_lt_of_cell? w _ h1) (Md.cellne hm h1))]
    exact h1, h.le, h.hi⟩
theorem Md.look2 {w : World} {b : Nat} {D : List Dd} (h : Md w b D) {k : Int} (hk : (Lit.int .i64 k).wf = true) : (Instr.lookup 57 (.map (some b)) (.int .i64 k) true).run Tryz.prog w = .ok (.tuple #[.int .i64 (lastN D k), .bool (atX kD D k).isSome]) w := by
  have := Go.Proofs.YtcpmcfagibmboabGreat.Nm.look2 Tryz.underlying3 Tryz.underlying57 (Go.Proofs.YtcpmcfagibmboabGreat.Nm.zeroI w) h hk
  rw [this]
  unfold lastN
  cases atX kD D k <;> rfl
theorem Md.len {w : World} {b : Nat} {D : List Dd} (h : Md w b D) (ty : TypeId) : (Builtin.len_ #[57] ty #[.map (some b)]).run Tryz.prog w = .ok (.int .i64 (D.length : Int)) w := Go.Proofs.YtcpmcfagibmboabGreat.Nm.Mw.len Tryz.underlying57 h ty

/-- What tell answers. -/
def TlP (w : World) (e : Int) (ps : List Pc) (x : Ending) (w' : World) : Prop := ∃ da dc, x = .returned (.agg (Rv 0 e (.slice da 1 dc))) ∧ RowT w' da [txt (nums e ps.length ps)] ∧ (∀ x, da = some x → w.heap.size ≤ x.block) ∧ Below w.heap.size w w'
set_option maxHeartbeats 1000000 in
theorem tell_any {w : World} {b m : Nat} {e : Int} {ps : List Pc} {s : Int} {D : List Dd} (h : Mk w b m e ps s D) (hl : ps.length ≤ 30000) (hm : mayC e ps = true) :
    Calls Tryz.prog 43 #[.pointer (some ⟨b, 0, none⟩)] w (TlP w e ps) := by
  obtain ⟨V, hV⟩ : ∃ V, V = w.alloc (.cells (Rv 0 0 (.slice none 0 0)) 40) := ⟨_, rfl⟩
  have hb1 : Below w.heap.size w V := by rw [hV]; exact (Below.refl _ w).alloc (Nat.le_refl _) _
  have hx1 : Gk.Bx V w.heap.size (Rv 0 0 (.slice none 0 0)) 40 := by rw [hV]; exact Gk.Bx.new _ _ _
  obtain ⟨⟨a, c, q1, q2⟩, -⟩ := h.below hb1
  have c0 : V.cell? ⟨b, 0, none⟩ = some (.int .i64 e) := q1.cell 0 _ rfl
  have c1 : V.cell? ⟨b, 1, none⟩ = some (.slice a ps.length c) := q1.cell 1 _ rfl
  have HDU := mkH (dump_any V e a c ps q2 hl)
  rw [dmpV_may hm] at HDU
  have HQ := mkH q1
  have HX := mkH hx1
  have HB := mkH hb1
  have HV := mkH hV
  clear h hb1 hx1 q1 q2 hV
  go_enter Tryz.func43, Tryz.ntmps43
  go_upto_region 1 with fail
  change Code.wp _ _ _ _ (w.alloc (.cells (Rv 0 0 (.slice none 0 0)) 40))
  rw [show w.alloc (.cells (Rv 0 0 (.slice none 0 0)) 40) = V from HV.out.symm]
  go_wp2_with fail
  refine HDU.out.mono ?_
  rintro x w2 ⟨rfl, hb2⟩
  have c0 : w2.cell? ⟨b, 0, none⟩ = some (.int .i64 e) := (HQ.out.bel hb2).cell 0 _ rfl
  have hal : Below w2.heap.size w2 (w2.alloc (.cells #[.string (S (txt (nums e ps.length ps)))] 9)) := (Below.refl _ w2).alloc (Nat.le_refl _) _
  have HX3 := mkH ((HX.out.bel hb2).bel hal)
  have HB3 := mkH (HB.out.trans ((hb2.trans (hal.mono hb2.size)).mono HB.out.size))
  have HRT : Hid (RowT (w2.alloc (.cells #[.string (S (txt (nums e ps.length ps)))] 9)) (some ⟨w2.heap.size, 0, none⟩) [txt (nums e ps.length ps)]) := mkH (by
    intro _
    have h : Gk.Bx (w2.alloc (.cells #[.string (S (txt (nums e ps.length ps)))] 9)) w2.heap.size #[.string (S (txt (nums e ps.length ps)))] 9 := Gk.Bx.new _ _ _
    refine ⟨w2.heap.size, 0, rfl, fun i hi => ?_⟩
    have h3 : i < 1 := hi
    obtain rfl : i = 0 := by omega
    exact h.cell 0 _ rfl)
  have HZ : Hid (w.heap.size < w2.heap.size) := mkH (Nat.lt_of_lt_of_le HX.out.lt hb2.size)
  clear hb2 hal HDU HQ HX HB
  go_wp2_with (refine Gk.wpList_st rfl (ty := 40) (x := .tmp 2) (y := .tmp 20) (cs := Rv 0 e (.slice (some ⟨w2.heap.size, 0, none⟩) 1 1)) (old := Rv 0 0 (.slice none 0 0)) rfl rfl rfl HX3.out infoR rfl (Rv_one _ _ _ _ _) ?_)
  have hx4 : Gk.Bx ((w2.alloc (.cells #[.string (S (txt (nums e ps.length ps)))] 9)).setRow w.heap.size (Rv 0 e (.slice (some ⟨w2.heap.size, 0, none⟩) 1 1))) w.heap.size (Rv 0 e (.slice (some ⟨w2.heap.size, 0, none⟩) 1 1)) 40 := HX3.out.row
  have hlt := HX3.out.lt
  refine bodyPost_ret (Gk.res_c rfl _ _ _ rfl (load_rv hx4)) rfl ⟨some ⟨w2.heap.size, 0, none⟩, 1, rfl, ?_, (fun x hx => by cases hx; show w.heap.size ≤ w2.heap.size; have := HZ.out; omega), below_setRow HB3.out (Nat.le_refl _) _⟩
  have hf : Gf.Fr (fun q => q = w.heap.size) (w2.alloc (.cells #[.string (S (txt (nums e ps.length ps)))] 9)) ((w2.alloc (.cells #[.string (S (txt (nums e ps.length ps)))] 9)).setRow w.heap.size (Rv 0 e (.slice (some ⟨w2.heap.size, 0, none⟩) 1 1))) := Gk.Bx.frrow _
  intro hl
  obtain ⟨b', off, e1, hc⟩ := HRT.out hl
  cases e1
  exact ⟨w2.heap.size, 0, rfl, fun i hi => by rw [World.cell?_of_block (w := w2.alloc (.cells #[.string (S (txt (nums e ps.length ps)))] 9)) (hf.heap (World.block_lt_of_cell? _ _ (hc i hi)) (by show ¬ w2.heap.size = w.heap.size; have := HZ.out; omega))]; exact hc i hi⟩

set_option maxHeartbeats 1000000 in
theorem wasDone_any {w : World} {b m : Nat} {e : Int} {ps : List Pc} {s : Int} {D : List Dd} (h : Mk w b m e ps s D) (c : Cm) (d : Value) (hc : -9223372036854775808 ≤ c.client ∧ c.client ≤ 9223372036854775807) :
    Calls Tryz.prog 44 #[.pointer (some ⟨b, 0, none⟩), .agg (Cv c d)] w fun x w' => x = .returned (.bool (decide (0 < c.num ∧ c.num ≤ lastN D c.client))) ∧ Below w.heap.size w w' := by
  obtain ⟨V, hV⟩ : ∃ V, V = w.alloc (.cells (Cv c d) 33) := ⟨_, rfl⟩
  have hb1 : Below w.heap.size w V := by rw [hV]; exact (Below.refl _ w).alloc (Nat.le_refl _) _
  have hx1 : Gk.Bx V w.heap.size (Cv c d) 33 := by rw [hV]; exact Gk.Bx.new _ _ _
  have h1 := h.below hb1
  obtain ⟨⟨a, cp, q1, q2⟩, q3⟩ := h1
  have c3 : V.cell? ⟨b, 3, none⟩ = some (.map (some m)) := q1.cell 3 _ rfl
  have x1 : V.cell? ⟨w.heap.size, 1, none⟩ = some (.int .i64 c.client) := hx1.cell 1 _ rfl
  have x2 : V.cell? ⟨w.heap.size, 2, none⟩ = some (.int .i64 c.num) := hx1.cell 2 _ rfl
  have hlk : ∀ q, (Instr.lookup 57 (.map (some m)) (.int .i64 c.client) false).run Tryz.prog (V.drewN q) = .ok (.int .i64 (lastN D c.client)) (V.drewN q) := fun q => (q3.below (Gf.below_drewN (Below.refl _ V) q)).look (Rc.wf_int hc.1 hc.2)
  have HB := mkH hb1
  have HV := mkH hV
  clear h hb1 hx1 q1 q2 q3 hV
  generalize lastN D c.client = ln at *
  generalize c.num = cn at *
  by_cases hp : 0 < cn
  · by_cases hle : cn ≤ ln
    · have hr : decide (0 < cn ∧ cn ≤ ln) = true := decide_eq_true ⟨hp, hle⟩
      rw [hr]
      clear hr
      go_enter Tryz.func44, Tryz.ntmps44
      go_wp2_with fail
      rw [show w.alloc (.cells (Cv c d) 33) = V from HV.out.symm]
      go_quiet (fail)
      go_wp2
      go_ret
      exact ⟨rfl, Gf.below_drewN HB.out _⟩
    · have hr : decide (0 < cn ∧ cn ≤ ln) = false := decide_eq_false (fun h => hle h.2)
      rw [hr]
      clear hr
      go_enter Tryz.func44, Tryz.ntmps44
      go_wp2_with fail
      rw [show w.alloc (.cells (Cv c d) 33) = V from HV.out.symm]
      go_quiet (fail)
      go_wp2
      go_ret
      exact ⟨congrArg (fun t => Ending.returned (.bool t)) (decide_eq_false (by omega)), Gf.below_drewN HB.out _⟩
  · have hr : decide (0 < cn ∧ cn ≤ ln) = false := decide_eq_false (fun h => hp h.1)
    have hgt : decide (0 < cn) = false := decide_eq_false hp
    rw [hr]
    clear hr
    go_enter Tryz.func44, Tryz.ntmps44
    go_wp2_with fail
    rw [show w.alloc (.cells (Cv c d) 33) = V from HV.out.symm]
    go_big_quiet (fail)
    go_wp2
    go_ret
    exact ⟨rfl, Gf.below_drewN HB.out _⟩

/-- What remembering makes of the clients. -/
def remD (D : List Dd) (c n : Int) : List Dd := if c = 0 ∨ n = 0 ∨ ((atX kD D c).isSome = false ∧ 64 ≤ D.length) then D else Go.Proofs.YtcpmcfagibmboabGreat.Nm.put kD D (c, n)
theorem remD_no {D : List Dd} {c n : Int} (h : c = 0 ∨ n = 0 ∨ ((atX kD D c).isSome = false ∧ 64 ≤ D.length)) : remD D c n = D := if_pos h
theorem remD_put {D : List Dd} {c n : Int} (h : ¬ (c = 0 ∨ n = 0 ∨ ((atX kD D c).isSome = false ∧ 64 ≤ D.length))) : remD D c n = Go.Proofs.YtcpmcfagibmboabGreat.Nm.put kD D (c, n) := if_neg h
/-- What remember leaves. -/
def RmP (w : World) (b m : Nat) (e : Int) (ps : List Pc) (s : Int) (D' : List Dd) (x : Ending) (w' : World) : Prop := x = .returned (.tuple #[]) ∧ Mk w' b m e ps s D' ∧ Gf.Fr (fun q => q = m) w w'

set_option maxHeartbeats 2000000 in
theorem remember_any {w : World} {b m : Nat} {e : Int} {ps : List Pc} {s : Int} {D : List Dd} (h : Mk w b m e ps s D) (hs : Srt kD D) (hl : D.length ≤ 1000) (c : Cm) (d : Value) (hc : -9223372036854775808 ≤ c.client ∧ c.client ≤ 9223372036854775807) :
    Calls Tryz.prog 73 #[.pointer (some ⟨b, 0, none⟩), .agg (Cv c d)] w (RmP w b m e ps s (remD D c.client c.num)) := by
  have hmx : Tryz.prog.follows .mixedOrders = true := by kernel_rfl
  obtain ⟨V, hV⟩ : ∃ V, V = w.alloc (.cells (Cv c d) 33) := ⟨_, rfl⟩
  have hb1 : Below w.heap.size w V := by rw [hV]; exact (Below.refl _ w).alloc (Nat.le_refl _) _
  have hx1 : Gk.Bx V w.heap.size (Cv c d) 33 := by rw [hV]; exact Gk.Bx.new _ _ _
  have h1 := h.below hb1
  have HMK := mkH h1
  obtain ⟨⟨a, cp, q1, q2⟩, q3⟩ := h1
  have c3 : V.cell? ⟨b, 3, none⟩ = some (.map (some m)) := q1.cell 3 _ rfl
  have x1 : V.cell? ⟨w.heap.size, 1, none⟩ = some (.int .i64 c.client) := hx1.cell 1 _ rfl
  have x2 : V.cell? ⟨w.heap.size, 2, none⟩ = some (.int .i64 c.num) := hx1.cell 2 _ rfl
  have hlk : ∀ q, (Instr.lookup 57 (.map (some m)) (.int .i64 c.client) true).run Tryz.prog (V.drewN q) = .ok (.tuple #[.int .i64 (lastN D c.client), .bool (atX kD D c.client).isSome]) (V.drewN q) := fun q => Md.look2 (q3.below (Gf.below_drewN (Below.refl _ V) q)) (Rc.wf_int hc.1 hc.2)
  have HLEN := mkH (fun q ty => Md.len (q3.below (Gf.below_drewN (Below.refl _ V) q)) ty)
  have HMD := mkH q3
  have HQ1 := mkH q1
  have HQ2 := mkH q2
  have HS := mkH hs
  have HWF := mkH (Rc.wf_int hc.1 hc.2)
  have HB := mkH hb1
  have HV := mkH hV
  have HX := mkH hx1
  obtain ⟨E, hE⟩ : ∃ E, E = remD D c.client c.num := ⟨_, rfl⟩
  rw [← hE]
  have HE0 := mkH (fun (h : E = D) => (show RmP w b m e ps s E (.returned (.tuple #[])) V from ⟨rfl, by rw [h]; exact HMK.out, Gf.Fr.ofBelow HB.out⟩))
  clear h hb1 hx1 q1 q2 q3 hV hs
  by_cases h0 : c.client = 0
  · have HE := mkH (HE0.out (hE.trans (remD_no (.inl h0))))
    rw [h0] at x1
    clear hE hlk h0 HWF
    go_enter Tryz.func73, Tryz.ntmps73
    go_upto_region 1 with fail
    rw [show w.alloc (.cells (Cv c d) 33) = V from HV.out.symm]
    go_wp2
    exact bodyPost_ret (v := .tuple #[]) (results_none rfl _ _ _) rfl HE.out
  · by_cases h1 : c.num = 0
    · have HE := mkH (HE0.out (hE.trans (remD_no (.inr (.inl h1)))))
      rw [h1] at x2
      clear hE hlk h1 HWF
      go_enter Tryz.func73, Tryz.ntmps73
      go_upto_region 1 with fail
      rw [show w.alloc (.cells (Cv c d) 33) = V from HV.out.symm]
      go_wp2
      exact bodyPost_ret (v := .tuple #[]) (results_none rfl _ _ _) rfl HE.out
    · skip
      have hb0 : (c.client == 0) = false := by simpa using h0
      have hb1 : (c.num == 0) = false := by simpa using h1
      by_cases hfull : (atX kD D c.client).isSome = false ∧ 64 ≤ D.length
      · have HE := mkH (HE0.out (hE.trans (remD_no (.inr (.inr hfull)))))
        obtain ⟨hf1, hf2⟩ := hfull
        have hln := fun ty => HLEN.out 0 ty
        rw [hf1] at hlk
        have h64 : (64 : Int) ≤ (D.length : Int) := by omega
        clear hE HWF hf1 hf2
        go_enter Tryz.func73, Tryz.ntmps73
        go_upto_region 1 with fail
        rw [show w.alloc (.cells (Cv c d) 33) = V from HV.out.symm]
        go_wp2_with fail
        go_quiet (fail)
        have hln := HLEN.out nq
        have HEQ : Hid (RmP w b m e ps s E (.returned (.tuple #[])) (V.drewN nq)) := mkH ⟨rfl, HE.out.2.1.below (Gf.below_drewN (Below.refl _ V) nq), HE.out.2.2.trans (Gf.Fr.ofBelow (F := fun q => q = m) (Gf.below_drewN (Below.refl _ V) nq)) (fun q hq => .inl hq)⟩
        have d3 : (V.drewN nq).cell? ⟨b, 3, none⟩ = some (.map (some m)) := c3
        go_wp2
        exact bodyPost_ret (v := .tuple #[]) (results_none rfl _ _ _) rfl HEQ.out
      · have HEP := mkH (hE.trans (remD_put (D := D) (c := c.client) (n := c.num) (fun hq => by rcases hq with hq | hq | hq; exact h0 hq; exact h1 hq; exact hfull hq)))
        clear hE HE0
        obtain ⟨bk, hbk⟩ : ∃ bk, bk = (atX kD D c.client).isSome := ⟨_, rfl⟩
        rw [← hbk] at hlk hfull
        clear hbk
        have hfl : bk = true ∨ (bk = false ∧ ¬ (64 : Int) ≤ (D.length : Int)) := by
          cases bk
          · exact .inr ⟨rfl, fun h => hfull ⟨rfl, by omega⟩⟩
          · exact .inl rfl
        clear hfull
        go_enter Tryz.func73, Tryz.ntmps73
        go_upto_region 1 with fail
        rw [show w.alloc (.cells (Cv c d) 33) = V from HV.out.symm]
        go_wp2_with fail
        go_quiet (fail)
        have hln := HLEN.out nq
        have HMK2 := mkH (HMK.out.below (Gf.below_drewN (Below.refl _ V) nq))
        have HMD2 := mkH (HMD.out.below (Gf.below_drewN (Below.refl _ V) nq))
        have HX2 := mkH (HX.out.bel (Gf.below_drewN (Below.refl _ V) nq))
        have HB2 := mkH (Gf.below_drewN HB.out nq)
        have d3 : (V.drewN nq).cell? ⟨b, 3, none⟩ = some (.map (some m)) := c3
        have d1 : (V.drewN nq).cell? ⟨w.heap.size, 1, none⟩ = some (.int .i64 c.client) := x1
        have d2 : (V.drewN nq).cell? ⟨w.heap.size, 2, none⟩ = some (.int .i64 c.num) := x2
        have HQ12 := mkH (HQ1.out.bel (Gf.below_drewN (Below.refl _ V) nq))
        have HQ22 := mkH (HQ2.out.below (Gf.below_drewN (Below.refl _ V) nq))
        clear HMK HMD HX HB c3 x1 x2 hlk HQ1 HQ2 HLEN
        generalize V.drewN nq = W2 at *
        rcases hfl with rfl | ⟨rfl, h64⟩
        all_goals
          go_wp2_with fail
          refine Rg.region_G hmx 8 (fun W => W.cell? ⟨b, 3, none⟩ = some (.map (some m)) ∧ W.cell? ⟨w.heap.size, 1, none⟩ = some (.int .i64 c.client) ∧ W.cell? ⟨w.heap.size, 2, none⟩ = some (.int .i64 c.num)) ⟨by simpa using d3, by simpa using d1, by simpa using d2⟩ (fun hHeld => ?_)
          obtain ⟨w7, hst, hm7, hf7⟩ := (HMD2.out.below (Below.refl _ _).drew).store HS.out (by omega) (c.client, c.num) HWF.out
          have HB4 := mkH ((Below.refl W2.heap.size W2).drew)
          generalize W2.drew = V4 at *
          refine Rg.anyG_pure (i := 0) (oi := { dst := some 34, op := _, type := _, pos := _, after := _, guard := _ }) (v := ?_) rfl (by kernel_rfl) (by kernel_rfl) (by kernel_rfl) (by rfl) (fun _ _ _ h => h) (Or.inl ⟨by rfl, ?_⟩) (fun _ => by assumption) ?_
          rotate_left
          · (intro W hSw; (try dsimp only at hSw); go_simp; try (with_reducible rfl))
          try simp only [Act.put, List.setIfInBounds_toArray, List.set_cons_zero, List.set_cons_succ]
          refine Rg.anyG_pure (i := 1) (oi := { dst := some 35, op := _, type := _, pos := _, after := _, guard := _ }) (v := ?_) rfl (by kernel_rfl) (by kernel_rfl) (by kernel_rfl) (by rfl) (fun _ _ _ h => h) (Or.inl ⟨by rfl, ?_⟩) (fun _ => by assumption) ?_
          rotate_left
          · (intro W hSw; (try dsimp only at hSw); go_simp; try (with_reducible rfl))
          try simp only [Act.put, List.setIfInBounds_toArray, List.set_cons_zero, List.set_cons_succ]
          refine Rg.anyG_pure (i := 2) (oi := { dst := some 36, op := _, type := _, pos := _, after := _, guard := _ }) (v := ?_) rfl (by kernel_rfl) (by kernel_rfl) (by kernel_rfl) (by rfl) (fun _ _ _ h => h) (Or.inl ⟨by rfl, ?_⟩) (fun _ => by assumption) ?_
          rotate_left
          · (intro W hSw; (try dsimp only at hSw); go_simp; try (with_reducible rfl))
          try simp only [Act.put, List.setIfInBounds_toArray, List.set_cons_zero, List.set_cons_succ]
          refine Rg.anyG_take (i := 3) (oi := { dst := some 37, op := _, type := _, pos := _, after := _, guard := _ }) (v := ?_) rfl (by kernel_rfl) (by kernel_rfl) (by kernel_rfl) [8] (by kernel_rfl) (fun _ _ _ h => h) (Or.inl ⟨by rfl, ?_⟩) (by assumption) ?_
          rotate_left
          · (intro W hSw; (try dsimp only at hSw); go_simp; try (with_reducible rfl))
          try simp only [Act.put, List.setIfInBounds_toArray, List.set_cons_zero, List.set_cons_succ]
          refine Rg.anyG_pure (i := 4) (oi := { dst := some 38, op := _, type := _, pos := _, after := _, guard := _ }) (v := ?_) rfl (by kernel_rfl) (by kernel_rfl) (by kernel_rfl) (by rfl) (fun _ _ _ h => h) (Or.inl ⟨by rfl, ?_⟩) (fun _ => by assumption) ?_
          rotate_left
          · (intro W hSw; (try dsimp only at hSw); go_simp; try (with_reducible rfl))
          try simp only [Act.put, List.setIfInBounds_toArray, List.set_cons_zero, List.set_cons_succ]
          refine Rg.anyG_take (i := 5) (oi := { dst := some 39, op := _, type := _, pos := _, after := _, guard := _ }) (v := ?_) rfl (by kernel_rfl) (by kernel_rfl) (by kernel_rfl) [8] (by kernel_rfl) (fun _ _ _ h => h) (Or.inl ⟨by rfl, ?_⟩) (by assumption) ?_
          rotate_left
          · (intro W hSw; (try dsimp only at hSw); go_simp; try (with_reducible rfl))
          try simp only [Act.put, List.setIfInBounds_toArray, List.set_cons_zero, List.set_cons_succ]
          refine Rg.anyG_pure (i := 6) (oi := { dst := some 40, op := _, type := _, pos := _, after := _, guard := _ }) (v := ?_) rfl (by kernel_rfl) (by kernel_rfl) (by kernel_rfl) (by rfl) (fun _ _ _ h => h) (Or.inl ⟨by rfl, ?_⟩) (fun _ => by assumption) ?_
          rotate_left
          · (intro W hSw; (try dsimp only at hSw); go_simp; try (with_reducible rfl))
          try simp only [Act.put, List.setIfInBounds_toArray, List.set_cons_zero, List.set_cons_succ]
          refine Rg.anyG_take (i := 7) (oi := { dst := some 41, op := _, type := _, pos := _, after := _, guard := _ }) (v := ?_) rfl (by kernel_rfl) (by kernel_rfl) (by kernel_rfl) [8] (by kernel_rfl) (fun _ _ _ h => h) (Or.inl ⟨by rfl, ?_⟩) (by assumption) ?_
          rotate_left
          · (intro W hSw; (try dsimp only at hSw); go_simp; try (with_reducible rfl))
          try simp only [Act.put, List.setIfInBounds_toArray, List.set_cons_zero, List.set_cons_succ]
          refine Rg.anyG_ready (rs := [8]) (by kernel_rfl) (by simp) ?_
          refine Rg.AllG.last (o := { dst := none, op := _, type := _, pos := _, after := _, guard := _ }) rfl (by kernel_rfl) (fun K hK => ?_)
          go_simp
          refine hK.out _ _ ?_
          clear hK K
          try simp only [Act.put, List.setIfInBounds_toArray, List.set_cons_zero, List.set_cons_succ]
          refine Rg.anyG_done (by kernel_rfl) ?_ _
          go_wp2
          refine bodyPost_end (results_none rfl _ _ _) rfl ?_
          have hne := Md.cellne HMD2.out (HQ12.out.cell 3 _ rfl)
          have hfin : Mk w7 b m e ps s E := ⟨⟨a, cp, (HQ12.out.bel HB4.out).fr hf7 hne, rdP_map (HQ22.out.below HB4.out) (HMD2.out.below HB4.out) hf7⟩, by rw [HEP.out]; exact hm7⟩
          exact ⟨rfl, hfin, ((Gf.Fr.ofBelow HB2.out).trans (Gf.Fr.ofBelow (F := fun q => q = m) HB4.out) (fun q hq => .inl hq)).trans hf7 (fun q hq => .inl hq)⟩
end Go.Proofs.YtcpmcfagibmboabGreat.Mv

namespace Go.Proofs.YtcpmcfagibmboabGreat.Cs
open Go.RowKit Pl Pw Pr Pf Pv Cp Ca Cb Cc Cd Ce Cf Cg Cw Gf Gk
open Cr hiding some_of
open Kt hiding mkH
open Kv
set_option linter.unusedVariables false
set_option linter.unusedSimpArgs false
set_option maxRecDepth 20000

theorem tmod6 (n : Int) : -5 ≤ n.tmod 6 ∧ n.tmod 6 ≤ 5 := by
  have h1 := Int.lt_tmod_of_pos n (show (0 : Int) < 6 by omega)
  have h2 := Int.tmod_lt_of_pos n (show (0 : Int) < 6 by omega)
  omega
theorem tmod6' (n : Int) : 0 ≤ (n.tmod 6 + 6).tmod 6 ∧ (n.tmod 6 + 6).tmod 6 ≤ 5 := by
  have h0 := tmod6 n
  have h1 := Int.tmod_nonneg 6 (show (0 : Int) ≤ n.tmod 6 + 6 by omega)
  have h2 := Int.tmod_lt_of_pos (n.tmod 6 + 6) (show (0 : Int) < 6 by omega)
  omega

theorem five_set {W : World} {n b o B : Nat} (hn : n ≠ B) (hb : b ≠ B) (u v : Value) {x0 x1 x2 x3 x4 : Option Value} (h : W.cell? ⟨n, 0, none⟩ = x0 ∧ W.cell? ⟨n, 1, none⟩ = x1 ∧ W.cell? ⟨b, o, none⟩ = x2 ∧ W.cell? ⟨b, o + 1, none⟩ = x3 ∧ W.cell? ⟨b, o + 2, none⟩ = x4) :
    ((W.setCell ⟨B, 0, none⟩ u).setCell ⟨B, 1, none⟩ v).cell? ⟨n, 0, none⟩ = x0 ∧ ((W.setCell ⟨B, 0, none⟩ u).setCell ⟨B, 1, none⟩ v).cell? ⟨n, 1, none⟩ = x1 ∧ ((W.setCell ⟨B, 0, none⟩ u).setCell ⟨B, 1, none⟩ v).cell? ⟨b, o, none⟩ = x2 ∧ ((W.setCell ⟨B, 0, none⟩ u).setCell ⟨B, 1, none⟩ v).cell? ⟨b, o + 1, none⟩ = x3 ∧ ((W.setCell ⟨B, 0, none⟩ u).setCell ⟨B, 1, none⟩ v).cell? ⟨b, o + 2, none⟩ = x4 := by
  refine ⟨?_, ?_, ?_, ?_, ?_⟩
  · rw [cell_other hn, cell_other hn]; exact h.1
  · rw [cell_other hn, cell_other hn]; exact h.2.1
  · rw [cell_other hb, cell_other hb]; exact h.2.2.1
  · rw [cell_other hb, cell_other hb]; exact h.2.2.2.1
  · rw [cell_other hb, cell_other hb]; exact h.2.2.2.2
theorem gd_short {ps : List Pc} (h : Gd 0 0 ps 65536) : ps.length ≤ 100000 := by have := gd_len ps 0 0 65536 h; omega
end Go.Proofs.YtcpmcfagibmboabGreat.Cs

namespace Go.Proofs.YtcpmcfagibmboabGreat.Mw
open Go.RowKit Go.Shelf Gf Gk Mp Cl Ma Mv
open Pl (Rg may)
open Ct (txt)
open Cu (nums)
open Cp (Pc mayC Gd mayC_iff)
open Cr (RdP OwP)
open Cf (mvE move_any two_load cell_other)
open Cs (five_set gd_short)
open Kt
open At (RowT)
open Wi (Cm)
open Wk (Cv)
open Go.Proofs.YtcpmcfagibmboabGreat.Nm (Srt atX)
set_option linter.unusedVariables false
set_option linter.unusedSimpArgs false
set_option maxRecDepth 20000

theorem load_cv {w : World} {b : Nat} {c : Cm} {d : Value} (h : Gk.Bx w b (Cv c d) 33) : (loadVar 33 ⟨b, 0, none⟩).run Tryz.prog w = .ok (.agg (Cv c d)) w := Wk.load_bx (P := Tryz.prog) h Tryz.underlying33 rfl (by kernel_rfl)
theorem rowT_fr {w w' : World} {a : Option Addr} {l : List (List UInt8)} {b : Nat} {cs : Array Value} {t : TypeId} (h : RowT w a l) (hb : Gk.Bx w b cs t) (hf : Gf.Fr (fun q => q = b) w w') (hne : ∀ x, a = some x → x.block ≠ b) : RowT w' a l := by
  intro hl
  obtain ⟨b', off, e1, hc⟩ := h hl
  subst e1
  exact ⟨b', off, rfl, fun i hi => by rw [World.cell?_of_block (w := w) (hf.heap (World.block_lt_of_cell? _ _ (hc i hi)) (hne ⟨b', off, none⟩ rfl))]; exact hc i hi⟩
theorem rdP_fr {w w' : World} {Q : Nat → Prop} {a : Option Addr} {c : Nat} {ps : List Pc} (h : RdP w a c ps) (hf : Gf.Fr Q w w') (hq : ∀ x, a = some x → ¬ Q x.block) : RdP w' a c ps :=
  ⟨fun hl => by
    obtain ⟨b, off, e, hc⟩ := h.r hl
    have hqq := hq ⟨b, off, none⟩ e
    refine ⟨b, off, e, fun i x hx j v hv => ?_⟩
    have h1 := hc i x hx j v hv
    rw [World.cell?_of_block (w := w) (hf.heap (World.block_lt_of_cell? w _ h1) hqq)]
    exact h1, h.le, h.hi⟩

/-- The chart's row isn't in block k. -/
def Nr (w : World) (b k : Nat) : Prop := ∀ x l c, w.cell? ⟨b, 1, none⟩ = some (.slice (some x) l c) → x.block ≠ k
theorem Nr.bel {w w' : World} {b k : Nat} (h : Nr w b k) (hlt : b < w.heap.size) (hb : Below w.heap.size w w') : Nr w' b k := fun x l c hx => h x l c (by rw [← World.cell?_of_block (w := w) (w' := w') (a := ⟨b, 1, none⟩) (hb.block b hlt)]; exact hx)
theorem Nr.of {w : World} {b m : Nat} {e : Int} {ps : List Pc} {s : Int} {D : List Dd} (h : Mk w b m e ps s D) (hm : mayC e ps = true) {k : Nat} (hk : w.heap.size ≤ k) : Nr w b k := by
  obtain ⟨⟨a, cp, q1, q2⟩, -⟩ := h
  intro x l c hx
  rw [q1.cell 1 _ rfl] at hx
  injection hx with hx
  injection hx with h1 h2 h3
  have hps : 0 < ps.length := by
    cases ps with
    | nil => exact (by have h0 : (0 : Int) = 65536 := ((mayC_iff _ _).1 hm).2; omega)
    | cons y r => simp
  obtain ⟨b', off, e1, hc⟩ := q2.r hps
  rw [e1] at h1
  injection h1 with h1
  subst h1
  have h4 := hc 0 (ps[0]) (by simp [hps]) 0 _ (by rfl)
  have := World.block_lt_of_cell? w _ h4
  show b' ≠ k
  have h5 : b' < w.heap.size := this
  omega
theorem mk_other {w w' : World} {b m : Nat} {e : Int} {ps : List Pc} {s : Int} {D : List Dd} (h : Mk w b m e ps s D) {k : Nat} (hf : Gf.Fr (fun q => q = k) w w') (hbk : b ≠ k) (hmk : m ≠ k) (hn : Nr w b k) : Mk w' b m e ps s D := by
  obtain ⟨⟨a, cp, q1, q2⟩, q3⟩ := h
  have h1 := q1.cell 1 _ rfl
  exact ⟨⟨a, cp, q1.fr hf hbk, rdP_fr q2 hf (fun x hx => by subst hx; exact hn x _ _ h1)⟩, q3.fr hf hmk⟩
/-- What a move, or an answer, leaves and tells. -/
def MvP (w : World) (b m : Nat) (er n e' : Int) (ps' : List Pc) (s : Int) (D' : List Dd) (v : Value) (w' : World) : Prop := ∃ dv dn dc, v = .agg (Rv er n (.slice dv dn dc)) ∧ (er = 0 → dn = 1 ∧ RowT w' dv [txt (nums e' ps'.length ps')] ∧ ∀ x, dv = some x → w.heap.size ≤ x.block) ∧ (er ≠ 0 → dv = none ∧ dn = 0 ∧ dc = 0) ∧ Mk w' b m e' ps' s D' ∧ (∀ k, k < w.heap.size → Nr w b k → Nr w' b k) ∧ Gf.Fr (fun q => q = b ∨ q = m) w w'
def MvR (w : World) (b m : Nat) (er n e' : Int) (ps' : List Pc) (s : Int) (D' : List Dd) (x : Ending) (w' : World) : Prop := ∃ v, x = .returned v ∧ MvP w b m er n e' ps' s D' v w'
set_option maxHeartbeats 4000000 in
theorem move_any' {w : World} {b m : Nat} {e : Int} {ps : List Pc} {s : Int} {D : List Dd} (h : Mk w b m e ps s D) (hm : mayC e ps = true) (hs : Srt kD D) (hl : D.length ≤ 1000) (c : Cm) (d : Value) (hd : d.oneCell' = true) (hc : -9223372036854775808 ≤ c.client ∧ c.client ≤ 9223372036854775807)
    (q : Int × List Pc × Int) (hq : q = mvE e ps (c.lo, c.hi) c.to) (hq0 : q.2.2 = 0 → mayC q.1 q.2.1 = true) (hql : q.2.1.length ≤ 30000) :
    Calls Tryz.prog 45 #[.pointer (some ⟨b, 0, none⟩), .agg (Cv c d)] w (MvR w b m q.2.2 (if q.2.2 = 0 then q.1 else 0) (if q.2.2 = 0 then q.1 else e) (if q.2.2 = 0 then q.2.1 else ps) s (if q.2.2 = 0 then remD D c.client c.num else D)) := by
  obtain ⟨E, hE⟩ : ∃ E, E = q.2.2 := ⟨_, rfl⟩
  obtain ⟨x1, hx1'⟩ : ∃ x, x = (if q.2.2 = 0 then q.1 else 0) := ⟨_, rfl⟩
  obtain ⟨x2, hx2'⟩ : ∃ x, x = (if q.2.2 = 0 then q.1 else e) := ⟨_, rfl⟩
  obtain ⟨x3, hx3'⟩ : ∃ x, x = (if q.2.2 = 0 then q.2.1 else ps) := ⟨_, rfl⟩
  obtain ⟨x4, hx4'⟩ : ∃ x, x = (if q.2.2 = 0 then remD D c.client c.num else D) := ⟨_, rfl⟩
  rw [← hx1', ← hx2', ← hx3', ← hx4', ← hE]
  have HEE := mkH (And.intro hE (And.intro hx1' (And.intro hx2' (And.intro hx3' hx4'))))
  clear hx1' hx2' hx3' hx4' hE
  obtain ⟨V, hV⟩ : ∃ V, V = (w.alloc (.cells (Cv c d) 33)).alloc (.cells (Rv 0 0 (.slice none 0 0)) 40) := ⟨_, rfl⟩
  have hb1 : Below w.heap.size w V := by rw [hV]; exact ((Below.refl _ w).alloc (Nat.le_refl _) _).alloc (by simp) _
  have hx1 : Gk.Bx V w.heap.size (Cv c d) 33 := by rw [hV]; exact (Gk.Bx.new w _ _).alloc _
  have hy1 : Gk.Bx V (w.heap.size + 1) (Rv 0 0 (.slice none 0 0)) 40 := by rw [hV]; exact Gk.Bx.new1 w _ _ _
  have hz1 : V.heap.size = w.heap.size + 2 := by rw [hV]; simp
  have hbl := h.lt.1
  have hml := h.lt.2
  have h1 := h.below hb1
  have HH := mkH h
  obtain ⟨⟨a, cp, q1, q2⟩, q3⟩ := h1
  have HQ1 := mkH q1
  have HQ3 := mkH q3
  have HMV := mkH (fun W (hb : Below V.heap.size V W) => move_any W e a cp ps (q2.below hb) (gd_short ((mayC_iff _ _).1 hm).2) c.lo c.hi c.to)
  rw [← hq] at HMV
  rw [← HEE.out.1] at hq0
  have HCEL : Hid (∀ W, Below V.heap.size V W → W.cell? ⟨b, 0, none⟩ = some (.int .i64 e) ∧ W.cell? ⟨b, 1, none⟩ = some (.slice a ps.length cp) ∧ W.cell? ⟨w.heap.size, 15, none⟩ = some (.int .i64 c.lo) ∧ W.cell? ⟨w.heap.size, 16, none⟩ = some (.int .i64 c.hi) ∧ W.cell? ⟨w.heap.size, 17, none⟩ = some (.int .i64 c.to)) := mkH (fun W hb =>
    ⟨(q1.bel hb).cell 0 _ rfl, (q1.bel hb).cell 1 _ rfl, (hx1.bel hb).cell 15 _ rfl, (hx1.bel hb).cell 16 _ rfl, (hx1.bel hb).cell 17 _ rfl⟩)
  have HZF : Hid (∀ W, Below (V.alloc (.cells #[.int .i64 0, .slice none 0 0] 51)).drew.heap.size (V.alloc (.cells #[.int .i64 0, .slice none 0 0] 51)).drew W → W.cell? ⟨V.heap.size, 0, none⟩ = some (.int .i64 0) ∧ W.cell? ⟨V.heap.size, 1, none⟩ = some (.slice none 0 0) ∧ W.frozen? ⟨V.heap.size, 0, none⟩ = false ∧ W.frozen? ⟨V.heap.size, 1, none⟩ = false) := mkH (fun W hb => two_load (P := Tryz.prog) (((Gk.Bx.new V #[.int .i64 0, .slice none 0 0] 51).bel (Below.refl _ _).drew).bel hb))
  have HB := mkH hb1
  have HV := mkH hV
  have HX := mkH hx1
  have HY := mkH hy1
  have HZ := mkH hz1
  have HS := mkH hs
  obtain ⟨c0, c1, c2, c3, c4⟩ := HCEL.out V (Below.refl _ _)
  clear h hb1 hx1 hy1 hz1 q1 q2 q3 hV hs hq
  go_enter Tryz.func45, Tryz.ntmps45
  go_upto_region 1 with fail
  change Code.wp _ _ _ _ ((w.alloc (.cells (Cv c d) 33)).alloc (.cells (Rv 0 0 (.slice none 0 0)) 40))
  rw [show (w.alloc (.cells (Cv c d) 33)).alloc (.cells (Rv 0 0 (.slice none 0 0)) 40) = V from HV.out.symm]
  go_cut [5, 6] (fun v10 v11 wc => ∃ (B10 : Nat) (a5 : Option Addr) (c5 : Nat), v10 = .pointer (some ⟨B10, 0, none⟩) ∧ v11 = .int .i64 E ∧ Hid (Gk.Bx wc B10 #[.int .i64 q.1, .slice a5 q.2.1.length c5] 51) ∧ Hid (OwP wc V.heap.size a5 c5 q.2.1) ∧ Hid (Below V.heap.size V wc) ∧ V.heap.size ≤ B10)
  case first =>
    as_aux_lemma =>
      go_region_held3 (fun w' => w'.cell? ⟨b, 0, none⟩ = some (.int .i64 e) ∧ w'.cell? ⟨b, 1, none⟩ = some (.slice a ps.length cp) ∧ w'.cell? ⟨w.heap.size, 15, none⟩ = some (.int .i64 c.lo) ∧ w'.cell? ⟨w.heap.size, 16, none⟩ = some (.int .i64 c.hi) ∧ w'.cell? ⟨w.heap.size, 17, none⟩ = some (.int .i64 c.to)) (first | go_keep | exact hkeep | exact five_set (by have := HZ.out; omega) (by have := HZ.out; omega) _ _ hkeep) (first
        | (go_at_call 21; refine (HMV.out _ (by (repeat (first | exact Below.refl _ _ | refine Below.drew ?_ | refine Gf.below_drewN ?_ _ | refine Below.alloc ?_ (by simp) _)))).mono ?_; rintro y w7 ⟨a5, c5, rfl, ho7, hb7⟩; have hbb : Below V.heap.size V w7 := Below.trans (by (repeat (first | exact Below.refl _ _ | refine Below.drew ?_ | refine Gf.below_drewN ?_ _ | refine Below.alloc ?_ (by simp) _))) (hb7.mono (by simp)); have hkeep := (by exact HCEL.out w7 hbb); (first | (have hzz := HZF.out _ hb7) | (have hzz := True.intro)); (first | (obtain ⟨z0, z1, z2, z3⟩ := hzz) | skip)))
      all_goals
        go_wp2_with fail
        go_meet
      · exact ⟨w7.heap.size, a5, c5, rfl, by rw [HEE.out.1], mkH (Gk.Bx.new _ _ _), mkH (ho7.below ((Below.refl _ w7).alloc (Nat.le_refl _) _)), mkH (hbb.alloc hbb.size _), hbb.size⟩
      · have hx : Gk.Bx w7 V.heap.size #[.int .i64 0, .slice none 0 0] 51 := ((Gk.Bx.new V #[.int .i64 0, .slice none 0 0] 51).bel (Below.refl _ _).drew).bel hb7
        have hs1 := hx.set 0 (.int .i64 q.1)
        have hs2 := hs1.set 1 (.slice a5 q.2.1.length c5)
        have hf := (hx.frset 0 (.int .i64 q.1)).trans (hs1.frset 1 (.slice a5 q.2.1.length c5)) (fun i hi => .inl hi)
        refine ⟨V.heap.size, a5, c5, rfl, by rw [HEE.out.1], mkH hs2, mkH ⟨Cr.own_mono (Cr.own_fr ho7.o hf (fun k hk hq => own_ne ho7.o hx hk (by decide) hq)) ?_⟩, mkH ((hbb.setCell (Nat.le_refl _) _).setCell (Nat.le_refl _) _), Nat.le_refl _⟩
        have h2 : (V.alloc (.cells #[.int .i64 0, .slice none 0 0] 51)).drew.heap.size = V.heap.size + 1 := by show (V.alloc _).heap.size = _; simp
        omega
  case rest =>
    obtain ⟨B10, a5, c5, rfl, rfl, H10, HO10, HBC, hB10⟩ := hcut
    have hbZ : b ≠ w.heap.size + 1 := by omega
    have hmZ : m ≠ w.heap.size + 1 := by omega
    have HXc := mkH (HX.out.bel HBC.out)
    have HYc := mkH (HY.out.bel HBC.out)
    have HQ1c := mkH (HQ1.out.bel HBC.out)
    have HQ3c := mkH (HQ3.out.below HBC.out)
    have HBW := mkH (HB.out.trans (HBC.out.mono HB.out.size))
    have hblk : ∀ x, a5 = some x → V.heap.size ≤ x.block := fun x hx => by
      subst hx
      exact (HO10.out.o.lt x.block rfl).1
    have HBL := mkH hblk
    obtain ⟨y0, y1, -, -⟩ := two_load (P := Tryz.prog) H10.out
    have HTELL := mkH (fun W (h : Mk W b m q.1 q.2.1 s (remD D c.client c.num)) (h0 : mayC q.1 q.2.1 = true) => tell_any h hql h0)
    clear hblk HCEL HZF HMV c0 c1 c2 c3 c4 HX HY HQ1 HQ3
    by_cases he : E = 0
    · have hE5 := HEE.out
      rw [← hE5.1, if_pos he, if_pos he, if_pos he, if_pos he] at hE5
      obtain ⟨-, e1, e2, e3, e4⟩ := hE5
      subst e1 e2 e3 e4 he
      clear HEE
      have hmy := hq0 rfl
      obtain ⟨z0, z1, z2, z3⟩ := (⟨HQ1c.out.cell 0 _ rfl, HQ1c.out.cell 1 _ rfl, HQ1c.out.frozen 0, HQ1c.out.frozen 1⟩ : wc.cell? ⟨b, 0, none⟩ = some (.int .i64 e) ∧ wc.cell? ⟨b, 1, none⟩ = some (.slice a ps.length cp) ∧ wc.frozen? ⟨b, 0, none⟩ = false ∧ wc.frozen? ⟨b, 1, none⟩ = false)
      have s1 := HQ1c.out.set 0 (.int .i64 q.1)
      have s2 := s1.set 1 (.slice a5 q.2.1.length c5)
      have hf := (HQ1c.out.frset 0 (.int .i64 q.1)).trans (s1.frset 1 (.slice a5 q.2.1.length c5)) (fun i hi => .inl hi)
      have hbm : b ≠ m := Md.cellne HQ3c.out z0
      have HB4 := mkH s2
      have HR4 := mkH (rdP_fr HO10.out.rd hf (fun x hx => by have := HBL.out x hx; have := HZ.out; show ¬ x.block = b; omega))
      have HM4 := mkH (HQ3c.out.fr hf (fun h => hbm h.symm))
      have HX4 := mkH (HXc.out.fr hf (by show ¬ w.heap.size = b; omega))
      have HY4 := mkH (HYc.out.fr hf (by show ¬ w.heap.size + 1 = b; omega))
      have HF4 := mkH hf
      have HC4 : Hid (Bx wc B10 #[.int .i64 q.1, .slice a5 q.2.1.length c5] 51) := H10
      clear hf s1 s2 hq0
      go_upto_region 5 with fail
      generalize (wc.setCell ⟨b, 0, none⟩ (.int .i64 q.1)).setCell ⟨b, 1, none⟩ (.slice a5 q.2.1.length c5) = W4 at *
      have HREM := mkH (remember_any (w := W4) (b := b) (m := m) (e := q.1) (ps := q.2.1) (s := s) (D := D) ⟨⟨a5, c5, HB4.out, HR4.out⟩, HM4.out⟩ HS.out hl c d hc)
      clear y0 y1 z0 z1 z2 z3
      go_wp2_with (first
        | (refine Gk.wpList_ld (ty := 33) (x := .tmp 3) (p := ⟨w.heap.size, 0, none⟩) (v := .agg (Cv c d)) rfl rfl rfl (load_cv HX4.out) ?_))
      refine HREM.out.mono ?_
      rintro x w5 ⟨rfl, hmk5, hf5⟩
      have HB5 := mkH (HB4.out.fr hf5 hbm)
      have HR5 := mkH (rdP_map HR4.out HM4.out hf5)
      have HM5 := mkH hmk5.map
      have HY5 := mkH (HY4.out.fr hf5 (fun h => hmZ h.symm))
      have HF5 := mkH hf5
      have HT5 := mkH (HTELL.out w5 hmk5 hmy)
      clear HREM hmk5 hf5 HX4 HM4 HR4 HB4 HY4 HTELL
      go_wp2_with fail
      refine HT5.out.mono ?_
      rintro x w6 ⟨da, dc, rfl, hrt, hda, hb6⟩
      have HB6 := mkH (HB5.out.bel hb6)
      have HR6 := mkH (HR5.out.below hb6)
      have HM6 := mkH (HM5.out.below hb6)
      have HY6 := mkH (HY5.out.bel hb6)
      have HRT := mkH hrt
      have HDA := mkH hda
      have HBB := mkH hb6
      have hY5 := HY5.out.lt
      clear hrt hda hb6 HT5 HB5 HR5 HM5
      go_wp2_with (refine Gk.wpList_st rfl (ty := 40) (x := .tmp 4) (y := .tmp 31) (cs := Rv 0 q.1 (.slice da 1 dc)) (old := Rv 0 0 (.slice none 0 0)) rfl rfl rfl HY6.out infoR rfl (Rv_one _ _ _ _ _) ?_)
      have hf7 : Gf.Fr (fun k => k = w.heap.size + 1) w6 (w6.setRow (w.heap.size + 1) (Rv 0 q.1 (.slice da 1 dc))) := Gk.Bx.frrow _
      have hx7 : Gk.Bx (w6.setRow (w.heap.size + 1) (Rv 0 q.1 (.slice da 1 dc))) (w.heap.size + 1) (Rv 0 q.1 (.slice da 1 dc)) 40 := HY6.out.row
      have k1 : Gf.Fr (fun q => q = b ∨ q = m) w wc := Gf.Fr.ofBelow HBW.out
      have k2 := k1.trans HF4.out (fun i hi => .inl (.inl hi))
      have k3 := k2.trans HF5.out (fun i hi => .inl (.inr hi))
      have k4 := k3.trans (Gf.Fr.ofBelow (F := fun q => q = b ∨ q = m) HBB.out) (fun i hi => .inl hi)
      refine bodyPost_ret (Gk.res_c rfl _ _ _ rfl (load_rv hx7)) rfl ⟨_, rfl, da, 1, dc, rfl, fun _ => ⟨rfl, rowT_fr HRT.out HY6.out hf7 (fun x hx => by have := HDA.out x hx; have := HF5.out.size; omega), fun x hx => Nat.le_trans k3.size (HDA.out x hx)⟩, fun h => absurd rfl h, ⟨⟨a5, c5, HB6.out.fr hf7 hbZ, rdP_fr HR6.out hf7 (fun x hx => by have := HBL.out x hx; have := HZ.out; show ¬ x.block = w.heap.size + 1; omega)⟩, HM6.out.fr hf7 hmZ⟩, fun k hk _ x l c2 hx => ?_, ?_⟩
      · rw [(HB6.out.fr hf7 hbZ).cell 1 _ rfl] at hx
        injection hx with hx
        injection hx with h1 h2 h3
        have := HBL.out x h1
        have := HZ.out
        omega
      exact k4.trans hf7 (fun i hi => .inr (by have h : i = w.heap.size + 1 := hi; omega))
    · have hE5 := HEE.out
      rw [← hE5.1, if_neg he, if_neg he, if_neg he, if_neg he] at hE5
      obtain ⟨-, e1, e2, e3, e4⟩ := hE5
      subst e1 e2 e3 e4
      clear HEE
      have hne : (E != 0) = true := by simpa using he
      go_wp2_with (refine Gk.wpList_st rfl (ty := 40) (x := .tmp 4) (y := .tmp 22) (cs := Rv E 0 (.slice none 0 0)) (old := Rv 0 0 (.slice none 0 0)) rfl rfl rfl HYc.out infoR rfl (Rv_one _ _ _ _ _) ?_)
      have hf7 : Gf.Fr (fun k => k = w.heap.size + 1) wc (wc.setRow (w.heap.size + 1) (Rv E 0 (.slice none 0 0))) := Gk.Bx.frrow _
      have hx7 : Gk.Bx (wc.setRow (w.heap.size + 1) (Rv E 0 (.slice none 0 0))) (w.heap.size + 1) (Rv E 0 (.slice none 0 0)) 40 := HYc.out.row
      have hbz : Below w.heap.size w (wc.setRow (w.heap.size + 1) (Rv E 0 (.slice none 0 0))) := below_setRow HBW.out (by omega) _
      exact bodyPost_ret (Gk.res_c rfl _ _ _ rfl (load_rv hx7)) rfl ⟨_, rfl, none, 0, 0, rfl, fun h => absurd h he, fun _ => ⟨rfl, rfl, rfl⟩, HH.out.below hbz, fun k _ hn => hn.bel HH.out.lt.1 hbz, Gf.Fr.ofBelow hbz⟩
end Go.Proofs.YtcpmcfagibmboabGreat.Mw

namespace Go.Proofs.YtcpmcfagibmboabGreat.Mx
open Go.RowKit Go.Shelf Gf Gk Mp Cl Ma Mv Mw
open Ct (txt)
open Cu (nums)
open Cp (Pc mayC)
open Cf (mvE)
open Kt
open At (RowT)
open Wi (Cm)
open Wk (Cv)
open Go.Proofs.YtcpmcfagibmboabGreat.Nm (Srt atX)
set_option linter.unusedVariables false
set_option linter.unusedSimpArgs false
set_option maxRecDepth 20000

/-- What an answer leaves and tells. -/
def AnR (w : World) (b m : Nat) (er n e' : Int) (ps' : List Pc) (s : Int) (D' : List Dd) (f : Bool) (x : Ending) (w' : World) : Prop := ∃ v, x = .returned (.tuple #[v, .bool f]) ∧ MvP w b m er n e' ps' s D' v w'

set_option maxHeartbeats 2000000 in
theorem answer_old {w : World} {b m : Nat} {e : Int} {ps : List Pc} {s : Int} {D : List Dd} (h : Mk w b m e ps s D) (hm : mayC e ps = true) (hl : ps.length ≤ 30000) (c : Cm) (d : Value) (hd : d.oneCell' = true) (hc : -9223372036854775808 ≤ c.client ∧ c.client ≤ 9223372036854775807) (hk : c.kind = 10) (ho : 0 < c.num ∧ c.num ≤ lastN D c.client) :
    Calls Tryz.prog 20 #[.pointer (some ⟨b, 0, none⟩), .agg (Cv c d)] w (AnR w b m 0 e e ps s D false) := by
  obtain ⟨V, hV⟩ : ∃ V, V = (w.alloc (.cells (Cv c d) 33)).alloc (.cells (Rv 0 0 (.slice none 0 0)) 40) := ⟨_, rfl⟩
  have hb1 : Below w.heap.size w V := by rw [hV]; exact ((Below.refl _ w).alloc (Nat.le_refl _) _).alloc (by simp) _
  have hx1 : Gk.Bx V w.heap.size (Cv c d) 33 := by rw [hV]; exact (Gk.Bx.new w _ _).alloc _
  have hy1 : Gk.Bx V (w.heap.size + 1) (Rv 0 0 (.slice none 0 0)) 40 := by rw [hV]; exact Gk.Bx.new1 w _ _ _
  have hz1 : V.heap.size = w.heap.size + 2 := by rw [hV]; simp
  have c0 : V.cell? ⟨w.heap.size, 0, none⟩ = some (.int .i64 c.kind) := hx1.cell 0 _ rfl
  have hk0 : (c.kind == 0) = false := by rw [hk]; rfl
  have hk1 : (c.kind == 10) = true := by rw [hk]; rfl
  have HW := mkH (wasDone_any (h.below hb1) c d hc)
  have HT := mkH (fun W (hW : Below w.heap.size w W) => tell_any (h.below hW) hl hm)
  have HH := mkH h
  have HB := mkH hb1
  have HV := mkH hV
  have HX := mkH hx1
  have HY := mkH hy1
  have HZ := mkH hz1
  rw [decide_eq_true ho] at HW
  clear h hb1 hx1 hy1 hz1 hV hk ho
  go_enter Tryz.func20, Tryz.ntmps20
  go_upto_region 1 with fail
  change Code.wp _ _ _ _ ((w.alloc (.cells (Cv c d) 33)).alloc (.cells (Rv 0 0 (.slice none 0 0)) 40))
  rw [show (w.alloc (.cells (Cv c d) 33)).alloc (.cells (Rv 0 0 (.slice none 0 0)) 40) = V from HV.out.symm]
  go_wp2_with (first
    | (refine Gk.wpList_ld (ty := 33) (x := .tmp 3) (p := ⟨w.heap.size, 0, none⟩) (v := .agg (Cv c d)) rfl rfl rfl (load_cv HX.out) ?_))
  refine HW.out.mono ?_
  rintro x w5 ⟨rfl, hb5⟩
  have HB5 := mkH (HB.out.trans (hb5.mono HB.out.size))
  have HY5 := mkH (HY.out.bel hb5)
  clear hb5 HW c0
  go_wp2_with fail
  refine (HT.out w5 HB5.out).mono ?_
  rintro x w6 ⟨da, dc, rfl, hrt, hda, hb6⟩
  have HB6 := mkH (HB5.out.trans (hb6.mono HB5.out.size))
  have HY6 := mkH (HY5.out.bel hb6)
  have HRT := mkH hrt
  have HDA := mkH hda
  have hY5 := HY5.out.lt
  have HSZ := mkH HB5.out.size
  clear hrt hda hb6 HT
  go_wp2_with (refine Gk.wpList_st rfl (ty := 40) (x := .tmp 4) (y := .tmp 18) (cs := Rv 0 e (.slice da 1 dc)) (old := Rv 0 0 (.slice none 0 0)) rfl rfl rfl HY6.out infoR rfl (Rv_one _ _ _ _ _) ?_)
  have hf7 : Gf.Fr (fun k => k = w.heap.size + 1) w6 (w6.setRow (w.heap.size + 1) (Rv 0 e (.slice da 1 dc))) := Gk.Bx.frrow _
  have hx7 : Gk.Bx (w6.setRow (w.heap.size + 1) (Rv 0 e (.slice da 1 dc))) (w.heap.size + 1) (Rv 0 e (.slice da 1 dc)) 40 := HY6.out.row
  have hbz : Below w.heap.size w (w6.setRow (w.heap.size + 1) (Rv 0 e (.slice da 1 dc))) := below_setRow HB6.out (by omega) _
  refine bodyPost_ret (Gk.res_ct rfl _ _ _ rfl rfl (load_rv hx7)) rfl ⟨_, rfl, _, _, _, rfl, fun _ => ⟨rfl, rowT_fr HRT.out HY6.out hf7 (fun x hx => by have := HDA.out x hx; omega), fun x hx => by have := HDA.out x hx; have := HSZ.out; omega⟩, fun h => absurd rfl h, HH.out.below hbz, fun k _ hn => hn.bel HH.out.lt.1 hbz, Gf.Fr.ofBelow hbz⟩

set_option maxHeartbeats 2000000 in
theorem answer_new {w : World} {b m : Nat} {e : Int} {ps : List Pc} {s : Int} {D : List Dd} (h : Mk w b m e ps s D) (hm : mayC e ps = true) (hs : Srt kD D) (hl : D.length ≤ 1000) (c : Cm) (d : Value) (hd : d.oneCell' = true) (hc : -9223372036854775808 ≤ c.client ∧ c.client ≤ 9223372036854775807) (hk : c.kind = 10) (ho : ¬ (0 < c.num ∧ c.num ≤ lastN D c.client))
    (q : Int × List Pc × Int) (hq : q = mvE e ps (c.lo, c.hi) c.to) (hq0 : q.2.2 = 0 → mayC q.1 q.2.1 = true) (hql : q.2.1.length ≤ 30000) (er n e' : Int) (ps' : List Pc) (D' : List Dd)
    (her : er = q.2.2) (hn : n = (if q.2.2 = 0 then q.1 else 0)) (he' : e' = (if q.2.2 = 0 then q.1 else e)) (hps : ps' = (if q.2.2 = 0 then q.2.1 else ps)) (hD : D' = (if q.2.2 = 0 then remD D c.client c.num else D)) :
    Calls Tryz.prog 20 #[.pointer (some ⟨b, 0, none⟩), .agg (Cv c d)] w (AnR w b m er n e' ps' s D' true) := by
  obtain ⟨V, hV⟩ : ∃ V, V = (w.alloc (.cells (Cv c d) 33)).alloc (.cells (Rv 0 0 (.slice none 0 0)) 40) := ⟨_, rfl⟩
  have hb1 : Below w.heap.size w V := by rw [hV]; exact ((Below.refl _ w).alloc (Nat.le_refl _) _).alloc (by simp) _
  have hx1 : Gk.Bx V w.heap.size (Cv c d) 33 := by rw [hV]; exact (Gk.Bx.new w _ _).alloc _
  have hy1 : Gk.Bx V (w.heap.size + 1) (Rv 0 0 (.slice none 0 0)) 40 := by rw [hV]; exact Gk.Bx.new1 w _ _ _
  have hz1 : V.heap.size = w.heap.size + 2 := by rw [hV]; simp
  have c0 : V.cell? ⟨w.heap.size, 0, none⟩ = some (.int .i64 c.kind) := hx1.cell 0 _ rfl
  have hk0 : (c.kind == 0) = false := by rw [hk]; rfl
  have hk1 : (c.kind == 10) = true := by rw [hk]; rfl
  have HW := mkH (wasDone_any (h.below hb1) c d hc)
  have HMO := mkH (fun W (hW : Below w.heap.size w W) => move_any' (h.below hW) hm hs hl c d hd hc q hq hq0 hql)
  rw [← hn, ← he', ← hps, ← hD, ← her] at HMO
  have HN5' : Hid (∀ W, Below w.heap.size w W → ∀ k, (w.heap.size ≤ k ∨ Nr w b k) → Nr W b k) := mkH (fun W hW k hk => hk.elim (fun hk => (Nr.of h hm hk).bel h.lt.1 hW) (fun hk => hk.bel h.lt.1 hW))
  have hbl := h.lt.1
  have hml := h.lt.2
  have HB := mkH hb1
  have HV := mkH hV
  have HX := mkH hx1
  have HY := mkH hy1
  have HZ := mkH hz1
  rw [decide_eq_false ho] at HW
  clear h hb1 hx1 hy1 hz1 hV hk ho her hn he' hps hD hq hq0 hql hs
  go_enter Tryz.func20, Tryz.ntmps20
  go_upto_region 1 with fail
  change Code.wp _ _ _ _ ((w.alloc (.cells (Cv c d) 33)).alloc (.cells (Rv 0 0 (.slice none 0 0)) 40))
  rw [show (w.alloc (.cells (Cv c d) 33)).alloc (.cells (Rv 0 0 (.slice none 0 0)) 40) = V from HV.out.symm]
  go_wp2_with (first
    | (refine Gk.wpList_ld (ty := 33) (x := .tmp 3) (p := ⟨w.heap.size, 0, none⟩) (v := .agg (Cv c d)) rfl rfl rfl (load_cv HX.out) ?_))
  refine HW.out.mono ?_
  rintro x w5 ⟨rfl, hb5⟩
  have HB5 := mkH (HB.out.trans (hb5.mono HB.out.size))
  have HX5 := mkH (HX.out.bel hb5)
  have HY5 := mkH (HY.out.bel hb5)
  clear hb5 HW c0 HX HY
  go_wp2_with (first
    | (refine Gk.wpList_ld (ty := 33) (x := .tmp 3) (p := ⟨w.heap.size, 0, none⟩) (v := .agg (Cv c d)) rfl rfl rfl (load_cv HX5.out) ?_))
  refine (HMO.out w5 HB5.out).mono ?_
  rintro x w6 ⟨v, rfl, dv, dn, dc, rfl, hd1, hd2, hmk, hnr, hf6⟩
  have HY6 := mkH (HY5.out.fr hf6 (by omega))
  have HD1 := mkH hd1
  have HD2 := mkH hd2
  have HM6 := mkH hmk
  have HNR := mkH hnr
  have HF6 := mkH hf6
  have HSZ := mkH HB5.out.size
  have HN5 := mkH (HN5'.out w5 HB5.out (w.heap.size + 1) (.inl (by omega)))
  have HN6 : Hid (∀ k, k < w.heap.size → Nr w b k → Nr w5 b k) := mkH (fun k _ hk => HN5'.out w5 HB5.out k (.inr hk))
  have hY5 := HY5.out.lt
  clear hd1 hd2 hmk hf6 hnr HMO
  go_wp2_with (refine Gk.wpList_st rfl (ty := 40) (x := .tmp 4) (y := .tmp 21) (cs := Rv er n (.slice dv dn dc)) (old := Rv 0 0 (.slice none 0 0)) rfl rfl rfl HY6.out infoR rfl (Rv_one _ _ _ _ _) ?_)
  have hf7 : Gf.Fr (fun k => k = w.heap.size + 1) w6 (w6.setRow (w.heap.size + 1) (Rv er n (.slice dv dn dc))) := Gk.Bx.frrow _
  have hx7 : Gk.Bx (w6.setRow (w.heap.size + 1) (Rv er n (.slice dv dn dc))) (w.heap.size + 1) (Rv er n (.slice dv dn dc)) 40 := HY6.out.row
  have k1 : Gf.Fr (fun q => q = b ∨ q = m) w w6 := (Gf.Fr.ofBelow HB5.out).trans HF6.out (fun i hi => .inl hi)
  refine bodyPost_ret (Gk.res_ct rfl _ _ _ rfl rfl (load_rv hx7)) rfl ⟨_, rfl, _, _, _, rfl, fun h0 => ?_, HD2.out, mk_other HM6.out hf7 (by omega) (by omega) (HNR.out _ hY5 (HN5.out)), fun k hk hn => ?_, k1.trans hf7 (fun i hi => .inr (by have h : i = w.heap.size + 1 := hi; omega))⟩
  · obtain ⟨g1, g2, g3⟩ := HD1.out h0
    exact ⟨g1, rowT_fr g2 HY6.out hf7 (fun x hx => by have := g3 x hx; omega), fun x hx => by have := g3 x hx; have := HSZ.out; omega⟩
  · have h1 := HNR.out k (Nat.lt_of_lt_of_le hk HSZ.out) (HN6.out k hk hn)
    have h2 := HM6.out.lt.1
    intro x l c2 hx
    exact h1 x l c2 (by rw [← World.cell?_of_block (w := w6) (a := ⟨b, 1, none⟩) (hf7.heap h2 (by show ¬ b = w.heap.size + 1; omega))]; exact hx)
end Go.Proofs.YtcpmcfagibmboabGreat.Mx
