/-
  The readers of structs: receipt, places, delivery, cmd.
-/
import Derived.Test.YtjboldahmndkeaaWiI
namespace Go.Proofs.Ytjboldahmndkeaa.Wq
open Go.RowKit Kt Pl Wi Wk Rd Lt Fw
open At (RowT)
set_option linter.unusedVariables false
set_option linter.unusedSimpArgs false
set_option maxRecDepth 20000

theorem startR {P : Program} {f : FuncId} {args : Array Value} {w : World} {zs : Array Value} {u : TypeId} {R : Ending → World → Prop}
    (h : ∀ W0 Z, Z.size = zs.size → Bx W0 w.heap.size Z u → Gr w W0 → Calls P f args W0 R) : Calls P f args (w.alloc (.cells zs u)) R :=
  h _ zs rfl (Bx.new w zs u) ((Gr.refl w).alloc _)
theorem On.setRow {b g : Nat} {w w' : World} (h : On b w w') (hg : w.heap.size ≤ g) (hne : b ≠ g) (cs : Array Value) : On b w (w'.setRow g cs) :=
  ⟨h.os, h.tape, h.output, by rw [setRow_size]; exact h.size, fun k hk hn => (setRow_other w' g k cs (by omega)).trans (h.block k hk hn)⟩
/-- A store into a block behind the reader's. -/
theorem Rst.setRow {w : World} {rb g : Nat} {bs : Bs} (h : Rst w rb bs) (hg : rb < g) (cs : Array Value) : Rst (w.setRow g cs) rb bs := by
  obtain ⟨ao, cap, hB, hr, h1, h2, h3⟩ := h
  refine ⟨ao, cap, hB.rowOther (by omega) cs, ?_, h1, h2, h3⟩
  intro hl
  obtain ⟨b, off, rfl, hc⟩ := hr hl
  have := h3 hl ⟨b, off, none⟩ rfl
  refine ⟨b, off, rfl, fun i hi => ?_⟩
  rw [World.cell?_of_block (w := w) (a := ⟨b, off + i, none⟩) (setRow_other w g b cs (by simp at this; omega))]
  exact hc i hi
/-- A receipt, a range. -/
def VR (r : Rcp) (v : Value) (w : World) : Prop := v = .agg (Rv r) ∧ r.g.length ≤ 4096
def VP (r : Int × Int) (v : Value) (w : World) : Prop := v = .agg #[.int .i64 r.1, .int .i64 r.2]
theorem info23 : (Try.prog.info? 23).map (·.size) = some 4 := by kernel_rfl
theorem info25 : (Try.prog.info? 25).map (·.size) = some 2 := by kernel_rfl
theorem info28 : (Try.prog.info? 28).map (·.size) = some 19 := by kernel_rfl

set_option maxHeartbeats 8000000 in
theorem receipt_any (w : World) (rb : Nat) (bs : Bs) (hst : Rst w rb bs) (hlen : bs.length ≤ 1000000000) :
    Calls Try.prog 68 #[.pointer (some ⟨rb, 0, none⟩)] w fun e w' => Got rb w (pRcp bs) VR e w' := by
  have hlt := hst.lt
  obtain ⟨hsz, -⟩ : w.heap.size = w.heap.size ∧ True := ⟨rfl, trivial⟩
  go_enter Try.func68, Try.ntmps68
  go_wp2_with fail
  refine startR (fun W0 Z hZ hBz hG => ?_)
  have hst0 := hst.below hG.below
  have HO0 := mkH (On.ofBelow (b := rb) hG.below)
  have HZ := mkH hZ
  have hBz0 := hBz
  have HP0 : Hid (pRcp bs = pRcp bs) := mkH rfl
  have HS0 := mkH hst0
  have HB0 := mkH hBz
  have HNE : Hid (w.heap.size ≠ rb) := mkH (by omega)
  have HGT : Hid (rb < w.heap.size) := mkH hlt
  have HLE : Hid (w.heap.size ≤ w.heap.size) := mkH (Nat.le_refl _)
  clear hst hst0 hBz hBz0 hG hsz hZ
  generalize hbq : w.heap.size = b2 at HB0 HNE HLE HGT ⊢
  have HBQ := mkH hbq
  clear hbq
  have H1 := num_any W0 rb bs HS0.out hlen
  refine H1.mono ?_
  rintro e W1 ⟨ho1, hc1⟩
  have HO1 := mkH (HO0.out.trans ho1)
  have HB1 := mkH (Wq.Bx.on HB0.out HNE.out ho1)
  clear H1 ho1 HO0 HB0 HS0
  rcases hc1 with ⟨q, r1, v, hp, rfl, hv, hs, hl1⟩ | ⟨er, hp, her, rfl⟩
  rotate_left
  · have HE := mkH (HP0.out.trans (bindR_err hp))
    clear hp HP0
    unfold stopE
    go_wp2
    exact ⟨rfl, HO1.out, .inr ⟨er, HE.out, her, rfl⟩⟩
  have HP1 := mkH (HP0.out.trans (bindR_of hp))
  have HS1 := mkH hs
  have hv : v = .int .i64 q := hv
  subst hv
  clear hp hs HP0
  go_wp2_with fail
  have H2 := text_any W1 rb r1 HS1.out hl1
  refine H2.mono ?_
  rintro e W2 ⟨ho2, hc2⟩
  have HO2 := mkH (HO1.out.trans ho2)
  have HB2 := mkH (Wq.Bx.on HB1.out HNE.out ho2)
  clear H2 ho2 HO1 HB1 HS1
  rcases hc2 with ⟨g, r2, v, hp, rfl, hv, hs, hl2⟩ | ⟨er, hp, her, rfl⟩
  rotate_left
  · have HE := mkH (HP1.out.trans (bindR_err hp))
    clear hp HP1
    unfold stopE
    go_wp2
    exact ⟨rfl, HO2.out, .inr ⟨er, HE.out, her, rfl⟩⟩
  have HP2 := mkH (HP1.out.trans (bindR_of hp))
  have HS2 := mkH hs
  obtain ⟨hv, l_g⟩ := hv
  subst hv
  clear hp hs HP1
  go_wp2_with fail
  have H3 := num_any W2 rb r2 HS2.out hl2
  refine H3.mono ?_
  rintro e W3 ⟨ho3, hc3⟩
  have HO3 := mkH (HO2.out.trans ho3)
  have HB3 := mkH (Wq.Bx.on HB2.out HNE.out ho3)
  clear H3 ho3 HO2 HB2 HS2
  rcases hc3 with ⟨s, r3, v, hp, rfl, hv, hs, hl3⟩ | ⟨er, hp, her, rfl⟩
  rotate_left
  · have HE := mkH (HP2.out.trans (bindR_err hp))
    clear hp HP2
    unfold stopE
    go_wp2
    exact ⟨rfl, HO3.out, .inr ⟨er, HE.out, her, rfl⟩⟩
  have HP3 := mkH (HP2.out.trans (bindR_of hp))
  have HS3 := mkH hs
  have hv : v = .int .i64 s := hv
  subst hv
  clear hp hs HP2
  go_wp2_with fail
  have H4 := num_any W3 rb r3 HS3.out hl3
  refine H4.mono ?_
  rintro e W4 ⟨ho4, hc4⟩
  have HO4 := mkH (HO3.out.trans ho4)
  have HB4 := mkH (Wq.Bx.on HB3.out HNE.out ho4)
  clear H4 ho4 HO3 HB3 HS3
  rcases hc4 with ⟨c, r4, v, hp, rfl, hv, hs, hl4⟩ | ⟨er, hp, her, rfl⟩
  rotate_left
  · have HE := mkH (HP3.out.trans (bindR_err hp))
    clear hp HP3
    unfold stopE
    go_wp2
    exact ⟨rfl, HO4.out, .inr ⟨er, HE.out, her, rfl⟩⟩
  have HP4 := mkH (HP3.out.trans (bindR_of hp))
  have HS4 := mkH hs
  have hv : v = .int .i64 c := hv
  subst hv
  clear hp hs HP3
  have hst : Bx W4 b2 Z 23 := HB4.out
  have HI : Hid ((Try.prog.info? 23).map (·.size) = some (#[.int .i64 q, .string (S g), .int .i64 s, .int .i64 c] : Array Value).size) := mkH info23
  have HSz : Hid (Z.size = (#[.int .i64 q, .string (S g), .int .i64 s, .int .i64 c] : Array Value).size) := mkH HZ.out
  have HOne : Hid ((#[.int .i64 q, .string (S g), .int .i64 s, .int .i64 c] : Array Value).all (fun x => x.oneCell') = true) := mkH (by rw [List.all_toArray]; rfl)
  have HLd := mkH (load_bx (P := Try.prog) (Wk.Bx.row hst (cs := (#[.int .i64 q, .string (S g), .int .i64 s, .int .i64 c] : Array Value)) HSz.out) Try.underlying23 rfl HI.out)
  have HBst := mkH hst
  have HOf := mkH (HO4.out.setRow (Nat.le_of_eq HBQ.out) (Ne.symm HNE.out) (#[.int .i64 q, .string (S g), .int .i64 s, .int .i64 c] : Array Value))
  have HSf := mkH (HS4.out.setRow HGT.out (#[.int .i64 q, .string (S g), .int .i64 s, .int .i64 c] : Array Value))
  clear hst
  go_wp2_with (refine wpList_st rfl (ty := 23) (x := .tmp 2) (y := .tmp 11) rfl rfl rfl HBst.out HI.out HSz.out HOne.out ?_)
  refine ret_bx 2 23 rfl b2 rfl HLd.out rfl ?_
  exact ⟨HOf.out, .inl ⟨⟨q, g, s, c⟩, r4, _, HP4.out, rfl, ⟨rfl, l_g⟩, HSf.out, hl4⟩⟩

set_option maxHeartbeats 8000000 in
theorem places_any (w : World) (rb : Nat) (bs : Bs) (hst : Rst w rb bs) (hlen : bs.length ≤ 1000000000) :
    Calls Try.prog 69 #[.pointer (some ⟨rb, 0, none⟩)] w fun e w' => Got rb w (pRg bs) VP e w' := by
  have hlt := hst.lt
  obtain ⟨hsz, -⟩ : w.heap.size = w.heap.size ∧ True := ⟨rfl, trivial⟩
  go_enter Try.func69, Try.ntmps69
  go_wp2_with fail
  refine startR (fun W0 Z hZ hBz hG => ?_)
  have hst0 := hst.below hG.below
  have HO0 := mkH (On.ofBelow (b := rb) hG.below)
  have HZ := mkH hZ
  have hBz0 := hBz
  have HP0 : Hid (pRg bs = pRg bs) := mkH rfl
  have HS0 := mkH hst0
  have HB0 := mkH hBz
  have HNE : Hid (w.heap.size ≠ rb) := mkH (by omega)
  have HGT : Hid (rb < w.heap.size) := mkH hlt
  have HLE : Hid (w.heap.size ≤ w.heap.size) := mkH (Nat.le_refl _)
  clear hst hst0 hBz hBz0 hG hsz hZ
  generalize hbq : w.heap.size = b2 at HB0 HNE HLE HGT ⊢
  have HBQ := mkH hbq
  clear hbq
  have H1 := num_any W0 rb bs HS0.out hlen
  refine H1.mono ?_
  rintro e W1 ⟨ho1, hc1⟩
  have HO1 := mkH (HO0.out.trans ho1)
  have HB1 := mkH (Wq.Bx.on HB0.out HNE.out ho1)
  clear H1 ho1 HO0 HB0 HS0
  rcases hc1 with ⟨lo, r1, v, hp, rfl, hv, hs, hl1⟩ | ⟨er, hp, her, rfl⟩
  rotate_left
  · have HE := mkH (HP0.out.trans (bindR_err hp))
    clear hp HP0
    unfold stopE
    go_wp2
    exact ⟨rfl, HO1.out, .inr ⟨er, HE.out, her, rfl⟩⟩
  have HP1 := mkH (HP0.out.trans (bindR_of hp))
  have HS1 := mkH hs
  have hv : v = .int .i64 lo := hv
  subst hv
  clear hp hs HP0
  go_wp2_with fail
  have H2 := num_any W1 rb r1 HS1.out hl1
  refine H2.mono ?_
  rintro e W2 ⟨ho2, hc2⟩
  have HO2 := mkH (HO1.out.trans ho2)
  have HB2 := mkH (Wq.Bx.on HB1.out HNE.out ho2)
  clear H2 ho2 HO1 HB1 HS1
  rcases hc2 with ⟨hi, r2, v, hp, rfl, hv, hs, hl2⟩ | ⟨er, hp, her, rfl⟩
  rotate_left
  · have HE := mkH (HP1.out.trans (bindR_err hp))
    clear hp HP1
    unfold stopE
    go_wp2
    exact ⟨rfl, HO2.out, .inr ⟨er, HE.out, her, rfl⟩⟩
  have HP2 := mkH (HP1.out.trans (bindR_of hp))
  have HS2 := mkH hs
  have hv : v = .int .i64 hi := hv
  subst hv
  clear hp hs HP1
  have hst : Bx W2 b2 Z 25 := HB2.out
  have HI : Hid ((Try.prog.info? 25).map (·.size) = some (#[.int .i64 lo, .int .i64 hi] : Array Value).size) := mkH info25
  have HSz : Hid (Z.size = (#[.int .i64 lo, .int .i64 hi] : Array Value).size) := mkH HZ.out
  have HOne : Hid ((#[.int .i64 lo, .int .i64 hi] : Array Value).all (fun x => x.oneCell') = true) := mkH (by rw [List.all_toArray]; rfl)
  have HLd := mkH (load_bx (P := Try.prog) (Wk.Bx.row hst (cs := (#[.int .i64 lo, .int .i64 hi] : Array Value)) HSz.out) Try.underlying25 rfl HI.out)
  have HBst := mkH hst
  have HOf := mkH (HO2.out.setRow (Nat.le_of_eq HBQ.out) (Ne.symm HNE.out) (#[.int .i64 lo, .int .i64 hi] : Array Value))
  have HSf := mkH (HS2.out.setRow HGT.out (#[.int .i64 lo, .int .i64 hi] : Array Value))
  clear hst
  go_wp2_with (refine wpList_st rfl (ty := 25) (x := .tmp 2) (y := .tmp 7) rfl rfl rfl HBst.out HI.out HSz.out HOne.out ?_)
  refine ret_bx 2 25 rfl b2 rfl HLd.out rfl ?_
  exact ⟨HOf.out, .inl ⟨(lo, hi), r2, _, HP2.out, rfl, rfl, HSf.out, hl2⟩⟩
end Go.Proofs.Ytjboldahmndkeaa.Wq
