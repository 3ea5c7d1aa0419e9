/-
  The reader of deliveries.
-/
import Derived.Test.YtjboldahmndkeaaWiJ
import Derived.Test.YtjboldahmndkeaaWiA
namespace Go.Proofs.Ytjboldahmndkeaa.Wq
open Go.RowKit Kt Pl Wi Wk Rd Lt Fw Wa
open At (RowT)
set_option linter.unusedVariables false
set_option linter.unusedSimpArgs false
set_option maxRecDepth 20000

/-- A delivery that was read. -/
def VG (g : Gt) (v : Value) (w : World) : Prop := v = .agg (gC g).toArray

set_option maxHeartbeats 8000000 in
theorem delivery_any (w : World) (rb : Nat) (bs : Bs) (hst : Rst w rb bs) (hlen : bs.length ≤ 1000000000) :
    Calls Try.prog 73 #[.pointer (some ⟨rb, 0, none⟩)] w fun e w' => Got rb w (pGt bs) VG e w' := by
  have hlt := hst.lt
  obtain ⟨hsz, -⟩ : w.heap.size = w.heap.size ∧ True := ⟨rfl, trivial⟩
  go_enter Try.func73, Try.ntmps73
  go_wp2_with fail
  refine startR (fun W0 Z hZ hBz hG => ?_)
  have hst0 := hst.below hG.below
  have HO0 := mkH (On.ofBelow (b := rb) hG.below)
  have HZ := mkH hZ
  have hBz0 := hBz
  have HP0 : Hid (pGt bs = pGt bs) := mkH rfl
  have HS0 := mkH hst0
  have HB0 := mkH hBz
  have HNE : Hid (w.heap.size ≠ rb) := mkH (by omega)
  have HGT : Hid (rb < w.heap.size) := mkH hlt
  have HLE : Hid (w.heap.size ≤ w.heap.size) := mkH (Nat.le_refl _)
  clear hst hst0 hBz hBz0 hG hsz hZ
  generalize hbq : w.heap.size = b2 at HB0 HNE HLE HGT ⊢
  have HBQ := mkH hbq
  clear hbq
  have H1 := receipt_any W0 rb bs HS0.out hlen
  refine H1.mono ?_
  rintro e W1 ⟨ho1, hc1⟩
  have HO1 := mkH (HO0.out.trans ho1)
  have HB1 := mkH (Wq.Bx.on HB0.out HNE.out ho1)
  clear H1 ho1 HO0 HB0 HS0
  rcases hc1 with ⟨rc, r1, v, hp, rfl, hv, hs, hl1⟩ | ⟨er, hp, her, rfl⟩
  rotate_left
  · have HE := mkH (HP0.out.trans (bindR_err hp))
    clear hp HP0
    unfold stopE
    go_wp2
    exact ⟨rfl, HO1.out, .inr ⟨er, HE.out, her, rfl⟩⟩
  have HP1 := mkH (HP0.out.trans (bindR_of hp))
  have HS1 := mkH hs
  obtain ⟨hv, l_rc⟩ := hv
  have hv : v = .agg #[.int .i64 rc.q, .string (S rc.g), .int .i64 rc.s, .int .i64 rc.c] := hv
  subst hv
  clear hp hs HP0
  go_wp2_with fail
  have H2 := text_any W1 rb r1 HS1.out hl1
  refine H2.mono ?_
  rintro e W2 ⟨ho2, hc2⟩
  have HO2 := mkH (HO1.out.trans ho2)
  have HB2 := mkH (Wq.Bx.on HB1.out HNE.out ho2)
  clear H2 ho2 HO1 HB1 HS1
  rcases hc2 with ⟨body, r2, v, hp, rfl, hv, hs, hl2⟩ | ⟨er, hp, her, rfl⟩
  rotate_left
  · have HE := mkH (HP1.out.trans (bindR_err hp))
    clear hp HP1
    unfold stopE
    go_wp2
    exact ⟨rfl, HO2.out, .inr ⟨er, HE.out, her, rfl⟩⟩
  have HP2 := mkH (HP1.out.trans (bindR_of hp))
  have HS2 := mkH hs
  obtain ⟨hv, l_body⟩ := hv
  subst hv
  clear hp hs HP1
  go_wp2_with fail
  have H3 := num_any W2 rb r2 HS2.out hl2
  refine H3.mono ?_
  rintro e W3 ⟨ho3, hc3⟩
  have HO3 := mkH (HO2.out.trans ho3)
  have HB3 := mkH (Wq.Bx.on HB2.out HNE.out ho3)
  clear H3 ho3 HO2 HB2 HS2
  rcases hc3 with ⟨sent, r3, v, hp, rfl, hv, hs, hl3⟩ | ⟨er, hp, her, rfl⟩
  rotate_left
  · have HE := mkH (HP2.out.trans (bindR_err hp))
    clear hp HP2
    unfold stopE
    go_wp2
    exact ⟨rfl, HO3.out, .inr ⟨er, HE.out, her, rfl⟩⟩
  have HP3 := mkH (HP2.out.trans (bindR_of hp))
  have HS3 := mkH hs
  have hv : v = .int .i64 sent := hv
  subst hv
  clear hp hs HP2
  have hst : Bx W3 b2 Z 73 := HB3.out
  have HI : Hid ((Try.prog.info? 73).map (·.size) = some (#[.int .i64 rc.q, .string (S rc.g), .int .i64 rc.s, .int .i64 rc.c, .string (S body), .int .i64 sent] : Array Value).size) := mkH infoG
  have HSz : Hid (Z.size = (#[.int .i64 rc.q, .string (S rc.g), .int .i64 rc.s, .int .i64 rc.c, .string (S body), .int .i64 sent] : Array Value).size) := mkH HZ.out
  have HOne : Hid ((#[.int .i64 rc.q, .string (S rc.g), .int .i64 rc.s, .int .i64 rc.c, .string (S body), .int .i64 sent] : Array Value).all (fun x => x.oneCell') = true) := mkH (by rw [List.all_toArray]; rfl)
  have HLd := mkH (load_bx (P := Try.prog) (Wk.Bx.row hst (cs := (#[.int .i64 rc.q, .string (S rc.g), .int .i64 rc.s, .int .i64 rc.c, .string (S body), .int .i64 sent] : Array Value)) HSz.out) Try.underlying73 rfl HI.out)
  have HBst := mkH hst
  have HOf := mkH (HO3.out.setRow (Nat.le_of_eq HBQ.out) (Ne.symm HNE.out) (#[.int .i64 rc.q, .string (S rc.g), .int .i64 rc.s, .int .i64 rc.c, .string (S body), .int .i64 sent] : Array Value))
  have HSf := mkH (HS3.out.setRow HGT.out (#[.int .i64 rc.q, .string (S rc.g), .int .i64 rc.s, .int .i64 rc.c, .string (S body), .int .i64 sent] : Array Value))
  clear hst
  go_wp2_with (refine wpList_st rfl (ty := 73) (x := .tmp 2) (y := .tmp 9) rfl rfl rfl HBst.out HI.out HSz.out HOne.out ?_)
  refine ret_bx 2 73 rfl b2 rfl HLd.out rfl ?_
  exact ⟨HOf.out, .inl ⟨⟨rc, body, sent⟩, r3, _, HP3.out, rfl, rfl, HSf.out, hl3⟩⟩
end Go.Proofs.Ytjboldahmndkeaa.Wq
