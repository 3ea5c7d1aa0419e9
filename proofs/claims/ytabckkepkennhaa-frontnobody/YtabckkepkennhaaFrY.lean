/-
  The chapter's example.
-/
import Derived.Test.YtabckkepkennhaaFrW
import Derived.Test.YtabckkepkennhaaFrZ
namespace Go.Proofs.Ytabckkepkennhaa.Fy
open Go.RowKit Kt Gf Gk Fp Fa Fb Fc Fe Fr1 Fo Fv Fm Fk Ft Fl Fq Fx Fj Fu Fw
open Go.Proofs.Ytabckkepkennhaa.Fs (Start_ok stK)
open Go.Proofs.Ytabckkepkennhaa.Fn (plE nmE)
open Cr (RdP OwP)
open Cp (Pc fst fst_len mayC ofL)
open Go.Proofs.Ytabckkepkennhaa.Nm (Mc)
set_option linter.unusedVariables false
set_option linter.unusedSimpArgs false
set_option maxRecDepth 20000

def xe : En := ⟨⟨#[103]⟩, ⟨#[98]⟩, .empty, 0, .empty, 0, 0⟩
theorem may_one : mayC 1 (fst 1) = true := (Cp.mayC_iff _ _).2 ⟨⟨by omega, by omega⟩, Cp.fst_gd 1 (by omega) (by omega)⟩
theorem of_one : ofL (fst 1) (plE 1 xe) = 1 := by
  have h := Po.ofP_lt (nmE 1 xe).data.toList
  have h0 : (0 : Int) ≤ plE 1 xe := by unfold plE; omega
  have h1 : plE 1 xe < 65536 := by unfold plE; omega
  generalize plE 1 xe = p at *
  simp [fst, List.range, List.range.loop, ofL, Pl.inn, Pl.may, Cp.rg, h0, h1]
theorem row_xe {w : World} {b : Nat} {t : TypeId} (h : Bx w b #[.string ⟨#[103]⟩, .string ⟨#[98]⟩, .string .empty, .int .i64 0, .string .empty, .int .i64 0, .int .i64 0] t) : Nr.RowS 7 cE w (some ⟨b, 0, none⟩) [xe] := by
  intro _
  refine ⟨b, 0, rfl, fun i y hy j v hv => ?_⟩
  have hi : i = 0 := by have := (List.getElem?_eq_some_iff.1 hy).1; simp at this; omega
  subst hi
  simp only [List.getElem?_cons_zero, Option.some.injEq] at hy
  subst hy
  have := h.cell j v (by simpa [cE, xe] using hv)
  simpa using this
/-- The two packets that come in. -/
def pkC (v : Value) : Array Value := #[.int .i64 5, .int .i64 0, .int .i64 (-1), .int .i64 0, .int .i64 0, .int .i64 0, .int .i64 0, .int .i64 0, .int .i64 0, .int .i64 0, .slice none 0 0, .slice none 0 0, .int .i64 0, .int .i64 0, .int .i64 0, .int .i64 0, .int .i64 0, .string .empty, .string .empty, .string .empty, .string .empty, .int .i64 0, .int .i64 0, .int .i64 0, .string .empty, .int .i64 0, .int .i64 0, .int .i64 0, .int .i64 0, .int .i64 0, .slice none 0 0, .int .i64 0, .int .i64 0, .int .i64 0, .slice none 0 0, .slice none 0 0, .slice none 0 0, .int .i64 1, v, .slice none 0 0]
theorem pkC_pv (v : Value) : Pv (pkC v) 5 (-1) 0 0 0 0 0 0 (.slice none 0 0) (.slice none 0 0) (.slice none 0 0) 1 v := ⟨rfl, rfl, rfl, rfl, rfl, rfl, rfl, rfl, rfl, rfl, rfl, rfl, rfl, rfl⟩
def pkR : Array Value := #[.int .i64 3, .int .i64 0, .int .i64 (-1), .int .i64 1, .int .i64 0, .int .i64 0, .int .i64 0, .int .i64 0, .int .i64 0, .int .i64 0, .slice none 0 0, .slice none 0 0, .int .i64 0, .int .i64 1, .int .i64 1, .int .i64 0, .int .i64 0, .string .empty, .string .empty, .string .empty, .string .empty, .int .i64 0, .int .i64 0, .int .i64 0, .string .empty, .int .i64 0, .int .i64 0, .int .i64 0, .int .i64 0, .int .i64 0, .slice none 0 0, .int .i64 0, .int .i64 9, .int .i64 0, .slice none 0 0, .slice none 0 0, .slice none 0 0, .int .i64 0, .slice none 0 0, .slice none 0 0]
theorem pkR_pv : Pv pkR 3 (-1) 1 1 1 0 9 0 (.slice none 0 0) (.slice none 0 0) (.slice none 0 0) 0 (.slice none 0 0) := ⟨rfl, rfl, rfl, rfl, rfl, rfl, rfl, rfl, rfl, rfl, rfl, rfl, rfl, rfl⟩
theorem ans_one (a : As) (s : Ks) (g : Int) (hg : g = 1) (h1 : a.id = 1) (h2 : a.c.num = 0) : ansB (asE a s xe g) 3 (-1) 1 1 1 = true := by subst hg; simp [ansB, asE, h1, h2]
theorem one_at {w : World} {l : Option Addr} {x : Int × Int × Int} (h : Nr.RowS 6 cP w l [x]) : ∃ b o, l = some ⟨b, o, none⟩ ∧ w.cell? ⟨b, o + 1, none⟩ = some (.int .i64 x.2.1) := by
  obtain ⟨b, o, e, hc⟩ := h (by simp)
  exact ⟨b, o, e, by simpa using hc 0 x rfl 1 _ rfl⟩
set_option maxHeartbeats 4000000 in
theorem works_any (w : World) : Calls Try.prog 20 #[] w fun x w' => x = .returned (.bool true) ∧ Below w.heap.size w w' := by
  have HI1 : (1 : Int) ≤ 1 ∧ (1 : Int) ≤ 1099511627776 := ⟨by omega, by omega⟩
  have HI1n : (1 : Int) ≤ 1 ∧ (1 : Int) ≤ 5 := ⟨by omega, by omega⟩
  have HI0 : (0 : Int) ≤ 0 ∧ (0 : Int) < 1 := ⟨by omega, by omega⟩
  have HN := mkH (New_ok w 1 1 3 ⟨⟨by omega, by omega⟩, ⟨by omega, by omega⟩, by omega, by omega⟩)
  go_enter Try.func20, Try.ntmps20
  go_wp2_with (first
    | (refine HN.out.mono ?_
       rintro e w1 ⟨B, m, rfl, hx1, hm1, lm, lB, hb1⟩
       have HX1 := mkH hx1
       have HM1 := mkH hm1
       have HLB := mkH (And.intro lB lm)
       have HB1 := mkH hb1
       have HNE1 := mkH (hm1.ne hx1)
       clear hx1 hm1 lm lB hb1 HN)
    | (refine (Start_ok (HX1.out.alloc (.cells #[.string ⟨#[103]⟩, .string ⟨#[98]⟩, .string .empty, .int .i64 0, .string .empty, .int .i64 0, .int .i64 0] 92)) rfl 1 0 0 0 .empty (some ⟨w1.heap.size, 0, none⟩) 1 [xe] (row_xe (Bx.new _ _ _)) (by decide) (by decide)).mono ?_
       rintro e w2 ⟨rfl, a2, c2, ho2, hT2⟩
       have HO2 := mkH (Go.Proofs.Ytabckkepkennhaa.Fs.own_mono (B' := 0) ho2 (Nat.zero_le _))
       have HT2 := mkH hT2
       have HM2 := mkH ((HM1.out.below ((Below.refl _ _).alloc (Nat.le_refl _) _)).fr hT2.2 HNE1.out.symm)
       have HB2 := mkH ((HB1.out.alloc HB1.out.size (.cells #[.string ⟨#[103]⟩, .string ⟨#[98]⟩, .string .empty, .int .i64 0, .string .empty, .int .i64 0, .int .i64 0] 92)).trans (hT2.2.below (fun q hq => by subst hq; exact HLB.out.1) (by have := HB1.out.size; simp; omega)))
       clear ho2 hT2 HX1 HM1 HB1)
    | (refine (Tick_wants HT2.out.1 rfl rfl HI1 HI1n HI0).mono ?_
       rintro e w3 ⟨⟨b3, rfl, l3, hx3⟩, hT3⟩
       have HP3 := mkH hx3
       have HL3 : Hid (B < b3) := mkH (Nat.lt_of_lt_of_le HT2.out.1.lt l3)
       have HT3 := mkH hT3.1
       have HO3 := mkH (Nr.own_fr HO2.out hT3.2 (fun q hq hB => Gk.own_ne HO2.out HT2.out.1 hq (by decide) hB))
       have HM3 := mkH (HM2.out.fr hT3.2 HNE1.out.symm)
       have HB3 := mkH (HB2.out.trans (hT3.2.below (fun q hq => by subst hq; exact HLB.out.1) HB2.out.size))
       clear hx3 l3 hT3 HT2 HO2 HM2 HB2)
    | (refine (Fz.rfirst_any w3 1 (by omega) (by omega)).mono ?_
       rintro e w4 ⟨a4, c4, rfl, hr4, hb4⟩
       have HR4 := mkH hr4
       have HP4 := mkH (HP3.out.bel hb4)
       have HT4 := mkH (HT3.out.bel hb4)
       have HO4 := mkH (Nr.own_below HO3.out hb4)
       have HM4 := mkH (HM3.out.below hb4)
       have HB4 := mkH (HB3.out.trans (hb4.mono HB3.out.size))
       clear hr4 hb4 HP3 HT3 HO3 HM3 HB3)
    | (refine Gk.wpList_st rfl (ty := 40) (x := .tmp 4) (y := .tmp 31) (cs := #[.int .i64 1, .slice a4 1 c4]) (old := #[.int .i64 0, .slice none 0 0]) rfl rfl rfl (Bx.new w4 _ _) Fi.infoCh rfl (by rw [List.all_toArray]; rfl) ?_
       have hal : Below w4.heap.size w4 ((w4.alloc (.cells #[.int .i64 0, .slice none 0 0] 40)).setRow w4.heap.size #[.int .i64 1, .slice a4 1 c4]) := below_setRow ((Below.refl _ _).alloc (Nat.le_refl _) _) (Nat.le_refl _) _
       have HC5 : Hid (Bx ((w4.alloc (.cells #[.int .i64 0, .slice none 0 0] 40)).setRow w4.heap.size #[.int .i64 1, .slice a4 1 c4]) w4.heap.size #[.int .i64 1, .slice a4 1 c4] 40) := mkH ((Bx.new w4 _ _).row)
       have HR5 := mkH (HR4.out.below hal)
       have HP5 := mkH (HP4.out.bel hal)
       have HT5 := mkH (HT4.out.bel hal)
       have HO5 := mkH (Nr.own_below HO4.out hal)
       have HM5 := mkH (HM4.out.below hal)
       have HB5 := mkH (HB4.out.trans (hal.mono HB4.out.size))
       clear hal HR4 HP4 HT4 HO4 HM4 HB4
       generalize ((w4.alloc (.cells #[.int .i64 0, .slice none 0 0] 40)).setRow w4.heap.size #[.int .i64 1, .slice a4 1 c4]) = w5 at *
       generalize w4.heap.size = n4 at *)
    | (refine Gk.wpList_ld (ty := 40) (x := .tmp 4) (p := ⟨n4, 0, none⟩) (v := .agg #[.int .i64 1, .slice a4 1 c4]) rfl rfl rfl (Fi.load_ch HC5.out) ?_)
    | (refine (Recv_chart HT5.out rfl HI1 rfl (pkC_pv (.slice a4 1 c4)) HR5.out (by decide) may_one (show (0 : Int) ≤ 1 from by omega) rfl).mono ?_
       rintro e w6 ⟨rfl, p6, q6, hr6, hT6⟩
       have HR6 := mkH hr6
       have HT6 := mkH hT6.1
       have HP6 := mkH (HP5.out.fr hT6.2 (Nat.ne_of_gt HL3.out))
       have HO6 := mkH (Nr.own_fr HO5.out hT6.2 (fun q hq hB => Gk.own_ne HO5.out HT5.out hq (by decide) hB))
       have HM6 := mkH (HM5.out.fr hT6.2 HNE1.out.symm)
       have HB6 := mkH (HB5.out.trans (hT6.2.below (fun q hq => by subst hq; exact HLB.out.1) HB5.out.size))
       clear hr6 hT6 HP5 HT5 HO5 HM5 HB5 HR5 HC5)
    | (refine (Tick_begin HT6.out HM6.out rfl rfl rfl rfl HI1 (show (0 : Int) ≤ 0 ∧ (0 : Int) ≤ 1000000 from ⟨by omega, by omega⟩) rfl rfl rfl (Nr.RowS.own cE_len HO6.out) HR6.out (x := xe) rfl (by decide) (by decide) (by decide) (show 0 ≤ ofL (fst 1) (plE 1 xe) ∧ ofL (fst 1) (plE 1 xe) ≤ 6 from by rw [of_one]; omega)).mono ?_
       rintro e w7 ⟨⟨b7, rfl, l7, hx7⟩, hT7⟩
       have HT7 := mkH hT7.1
       have HP7 := mkH (HP6.out.fr hT7.2 (Nat.ne_of_gt HL3.out))
       have HB7 := mkH (HB6.out.trans (hT7.2.below (fun q hq => by subst hq; exact HLB.out.1) HB6.out.size))
       have hg7 := of_one
       have c30 : w7.cell? ⟨b3, 0, none⟩ = some (.int .i64 4) := HP7.out.cell 0 _ rfl
       have c70 : w7.cell? ⟨b7, 0, none⟩ = some (.int .i64 2) := hx7.cell 0 _ rfl
       have c714 : w7.cell? ⟨b7, 14, none⟩ = some (.int .i64 1) := hx7.cell 14 _ rfl
       have c73 : w7.cell? ⟨b7, 3, none⟩ = some (.int .i64 1) := (hx7.cell 3 (.int .i64 (ofL (fst 1) (plE 1 xe))) rfl).trans (congrArg (fun t => some (Value.int .i64 t)) of_one)
       clear hx7 hT7 l7 HP6 HT6 HO6 HM6 HB6 HR6 hg7)
    | (refine (Recv_reply HT7.out rfl rfl rfl HI1 pkR_pv (ans_one (As.new 1 1 3) _ _ of_one rfl rfl) (by decide) (by decide) rfl rfl (rs := []) (base := 0) (by simpa [Nr.Fl] using World.ownsRow_nil w7 _ _ _) rfl (by decide) (Nat.zero_le _)).mono ?_
       rintro e w8 ⟨rfl, r8, k8, hrw8, hT8, hF8⟩
       have HT8 := mkH hT8
       have HW8 := mkH (Nr.RowS.own cP_len hrw8)
       have HB8 := mkH (HB7.out.trans (hF8.below (fun q hq => by rcases hq with hq | hq; (subst hq; exact HLB.out.1); simp [Value.ownBlock] at hq) HB7.out.size))
       clear hrw8 hT8 hF8 HT7 HB7 HP7 c30 c70 c714 c73)
    | (refine ((Result_any HT8.out (rs := [(0, 9, 0)]) rfl HW8.out (by decide)).mono (fun x w' ⟨l, c, h1, h2, h3⟩ => (⟨l, c, h1.trans rfl, h2, h3⟩ : ∃ l c, x = Ending.returned (.tuple #[.slice l 1 c, .bool true]) ∧ Nr.RowS 6 cP w' l [(0, 9, 0)] ∧ Below w8.heap.size w8 w'))).mono ?_
       rintro e w9 ⟨l9, k9, rfl, hr9, hb9⟩
       obtain ⟨b9, o9, rfl, c91⟩ := one_at hr9
       have HBU := mkH (BusyC_any (HT8.out.bel hb9))
       have HB9 := mkH (HB8.out.trans (hb9.mono HB8.out.size))
       clear hr9 hb9 HT8 HW8 HB8)
    | (refine HBU.out.mono ?_
       rintro e w10 ⟨rfl, rfl⟩))
  go_ret
  exact ⟨rfl, HB9.out⟩
end Go.Proofs.Ytabckkepkennhaa.Fy
