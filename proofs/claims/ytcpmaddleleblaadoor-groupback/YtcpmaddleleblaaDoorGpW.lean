/-
  works: the chapter's example.
-/
import Derived.Test.YtcpmaddleleblaaDoorGpJ
import Derived.Test.YtcpmaddleleblaaDoorGpD
import Derived.Test.YtcpmaddleleblaaDoorGpM
namespace Go.Proofs.YtcpmaddleleblaaDoor.Gw
open Go.RowKit Kt Gf Gp Gr Gk Ga Gs Gb Gg Gj Gm
set_option linter.unusedVariables false
set_option linter.unusedSimpArgs false
set_option maxRecDepth 20000

def ga : G := ⟨2, [⟨1, 5, 0, 0, 0, ⟨#[98]⟩⟩], [⟨⟨#[116]⟩, 1, 5⟩], ⟨#[]⟩⟩
def gb : G := ⟨2, [⟨1, 5, 1, 16, 0, ⟨#[98]⟩⟩], [⟨⟨#[116]⟩, 1, 5⟩], ⟨#[]⟩⟩
def gc : G := ⟨2, [], [⟨⟨#[116]⟩, 1, 5⟩], ⟨#[]⟩⟩
theorem t1 : Gd.tkn ⟨#[116]⟩ ⟨#[98]⟩ = ⟨#[116]⟩ := by unfold Gd.tkn; rw [if_neg (by decide)]
theorem t2 : Gd.tkn ⟨#[116]⟩ ⟨#[99]⟩ = ⟨#[116]⟩ := by unfold Gd.tkn; rw [if_neg (by decide)]
theorem s1 : sendG ⟨1, [], [], ⟨#[]⟩⟩ 5 0 ⟨#[98]⟩ ⟨#[116]⟩ = ga := by decide
theorem s2 : sendN ⟨1, [], [], ⟨#[]⟩⟩ ⟨#[116]⟩ = 1 := by decide
theorem s3 : sendE ⟨1, [], [], ⟨#[]⟩⟩ ⟨#[116]⟩ = 0 := by decide
theorem s4 : sendG ga 6 0 ⟨#[99]⟩ ⟨#[116]⟩ = ga := by decide
theorem s5 : sendN ga ⟨#[116]⟩ = 1 := by decide
theorem s6 : sendE ga ⟨#[116]⟩ = 0 := by decide
theorem r1 : rcvG ga 6 1 10 0 0 = gb := by decide
theorem r2 : rcvGot ga 6 1 10 0 0 = [⟨1, 5, 1, 16, 0, ⟨#[98]⟩⟩] := by decide
theorem r3 : rcvDead ga 6 1 10 0 0 = [] := by decide
theorem r4 : rcvG gb 7 1 10 0 0 = gb := by decide
theorem r5 : rcvGot gb 7 1 10 0 0 = [] := by decide
theorem r6 : rcvDead gb 7 1 10 0 0 = [] := by decide
theorem d1 : delG gb 7 1 1 = gc := by decide
theorem d2 : delE gb 7 1 1 = 0 := by decide
theorem ok_a : OkG ga := by simp [OkG, ga, OkK, OkM, Sm]
theorem ok_b : OkG gb := by simp [OkG, gb, OkK, OkM, Sm]

set_option maxHeartbeats 4000000 in
theorem works_any (w : World) : Calls Tryd.prog 16 #[] w fun e w' => e = .returned (.bool true) ∧ Below w.heap.size w w' := by
  go_enter Tryd.func16, Tryd.ntmps16
  go_wp2_with fail
  refine (Fresh_any w).mono ?_
  rintro e w1 ⟨rfl, hb1⟩
  go_wp2_with fail
  refine (Gd.Send_tok w1 ⟨1, [], [], ⟨#[]⟩⟩ none 0 none 0 ⟨RowS.nil _ _, RowS.nil _ _, Nat.le_refl _, Nat.le_refl _, by omega, by omega⟩ (by simp) (by simp) (by simp [Sm]) 5 0 ⟨#[98]⟩ ⟨#[116]⟩ (by decide) ⟨#[116]⟩ t1).mono ?_
  rintro e w2 ⟨ka, kc, ma, mc, rfl, hg2, hb2⟩
  rw [s1] at hg2
  simp only [s1, s2, s3]
  have HB2 : Hid (Below w.heap.size w w2) := hb1.trans (hb2.mono hb1.size)
  have HG2 := mkH hg2.gl
  clear hb1 hb2 hg2
  have HE2 : Hid (gC ga ka kc ma mc = #[Value.int .i64 2, .slice ka 1 kc, .slice ma 1 mc, .string ⟨#[]⟩]) := rfl
  rw [HE2.out]
  go_wp2_with fail
  have HA2 : Hid (Below w2.heap.size w2 (w2.alloc (.cells #[Value.int .i64 2, .slice ka 1 kc, .slice ma 1 mc, .string ⟨#[]⟩] 25))) := (Below.refl _ w2).alloc (Nat.le_refl _) _
  generalize w2.alloc (.cells #[Value.int .i64 2, .slice ka 1 kc, .slice ma 1 mc, .string ⟨#[]⟩] 25) = w2b at *
  have HS := Gd.Send_tok w2b ga ka kc ma mc (HG2.out.below HA2.out) (by decide) (by decide) (by simp [ga, Sm]) 6 0 ⟨#[99]⟩ ⟨#[116]⟩ (by decide) ⟨#[116]⟩ t2
  rw [HE2.out] at HS
  refine HS.mono ?_
  rintro e w3 ⟨ka3, kc3, ma3, mc3, rfl, hg3, hb3⟩
  rw [s4] at hg3
  simp only [s4, s5, s6]
  have HB2b : Hid (Below w.heap.size w w2b) := HB2.out.trans (HA2.out.mono HB2.out.size)
  have HB3 : Hid (Below w.heap.size w w3) := HB2b.out.trans (hb3.mono HB2b.out.size)
  have HG3 := mkH hg3.gl
  clear hb3 hg3 HS HA2 HB2 HB2b HG2 HE2
  have HE3 : Hid (gC ga ka3 kc3 ma3 mc3 = #[Value.int .i64 2, .slice ka3 1 kc3, .slice ma3 1 mc3, .string ⟨#[]⟩]) := rfl
  rw [HE3.out]
  go_wp2_with fail
  have HA3 : Hid (Below w3.heap.size w3 (w3.alloc (.cells #[Value.int .i64 2, .slice ka3 1 kc3, .slice ma3 1 mc3, .string ⟨#[]⟩] 25))) := (Below.refl _ w3).alloc (Nat.le_refl _) _
  generalize w3.alloc (.cells #[Value.int .i64 2, .slice ka3 1 kc3, .slice ma3 1 mc3, .string ⟨#[]⟩] 25) = w3b at *
  have HR := Receive_any w3b ga ka3 kc3 ma3 mc3 (HG3.out.below HA3.out) (by decide) (by decide) ok_a 6 1 10 0 0 (by simp [Sm]) (by simp [Sm]) _ _ _ r1 r2 r3
  rw [HE3.out] at HR
  refine HR.mono ?_
  rintro e w4 ⟨ka4, kc4, ma4, mc4, xa, xc, ya, yc, rfl, hg4, hl4, hd4, hb4⟩
  have HB3b : Hid (Below w.heap.size w w3b) := HB3.out.trans (HA3.out.mono HB3.out.size)
  have HB4 : Hid (Below w.heap.size w w4) := HB3b.out.trans (hb4.mono HB3b.out.size)
  have HG4 := mkH hg4
  have HL4 := mkH hl4
  clear hb4 hg4 hl4 hd4 HR HA3 HB3 HB3b HG3 HE3
  have HE4 : Hid (gC gb ka4 kc4 ma4 mc4 = #[Value.int .i64 2, .slice ka4 1 kc4, .slice ma4 1 mc4, .string ⟨#[]⟩]) := rfl
  rw [HE4.out]
  simp only [List.length_cons, List.length_nil, Nat.zero_add]
  go_wp2_with fail
  have HA4 : Hid (Below w4.heap.size w4 (w4.alloc (.cells #[Value.int .i64 2, .slice ka4 1 kc4, .slice ma4 1 mc4, .string ⟨#[]⟩] 25))) := (Below.refl _ w4).alloc (Nat.le_refl _) _
  have HX4 := mkH (Bx.new w4 #[Value.int .i64 2, .slice ka4 1 kc4, .slice ma4 1 mc4, .string ⟨#[]⟩] 25)
  generalize w4.alloc (.cells #[Value.int .i64 2, .slice ka4 1 kc4, .slice ma4 1 mc4, .string ⟨#[]⟩] 25) = w4b at *
  have HR := Receive_any w4b gb ka4 kc4 ma4 mc4 (HG4.out.below HA4.out) (by decide) (by decide) ok_b 7 1 10 0 0 (by simp [Sm]) (by simp [Sm]) _ _ _ r4 r5 r6
  rw [HE4.out] at HR
  refine HR.mono ?_
  rintro e w5 ⟨ka5, kc5, ma5, mc5, ua, uc, va, vc, rfl, hg5, hl5, hd5, hb5⟩
  have HB4b : Hid (Below w.heap.size w w4b) := HB4.out.trans (HA4.out.mono HB4.out.size)
  have HB5 : Hid (Below w.heap.size w w5) := HB4b.out.trans (hb5.mono HB4b.out.size)
  have HX5 := mkH (HX4.out.bel hb5)
  have hb45 : Below w4.heap.size w4 w5 := HA4.out.trans (hb5.mono HA4.out.size)
  have HG5 := mkH (HG4.out.below hb45)
  have HL5 := mkH (HL4.out.below hb45)
  clear hb5 hb45 hg5 hl5 hd5 HR HA4 HB4 HB4b HG4 HL4 HX4
  obtain ⟨q0, q1, q2, q3, -⟩ := HX5.out.four
  have hlt5 := HX5.out.lt
  simp only [gC, List.length_cons, List.length_nil, gb]
  have HAl5 := (HX5.out.bel ((Below.refl _ w5).alloc (Nat.le_refl _) (.cells #[Value.int .i64 2, .slice ka5 1 kc5, .slice ma5 1 mc5, .string ⟨#[]⟩] 25))).four
  obtain ⟨p0, p1, p2, p3, -⟩ := HAl5
  have nn : ¬ w4.heap.size = w5.heap.size := by omega
  go_wp2_with fail
  have HA5 : Hid (Below w5.heap.size w5 (w5.alloc (.cells #[Value.int .i64 2, .slice ka5 1 kc5, .slice ma5 1 mc5, .string ⟨#[]⟩] 25))) := (Below.refl _ w5).alloc (Nat.le_refl _) _
  generalize w5.alloc (.cells #[Value.int .i64 2, .slice ka5 1 kc5, .slice ma5 1 mc5, .string ⟨#[]⟩] 25) = w5b at *
  have HD := Delete_any w5b gb ka4 kc4 ma4 mc4 (HG5.out.below HA5.out) (by decide) (by decide) 7 1 1 _ d1 _ d2
  rw [HE4.out] at HD
  refine HD.mono ?_
  rintro e w6 ⟨ka6, kc6, ma6, mc6, rfl, hg6, hb6⟩
  have HB5b : Hid (Below w.heap.size w w5b) := HB5.out.trans (HA5.out.mono HB5.out.size)
  have HB6 : Hid (Below w.heap.size w w6) := HB5b.out.trans (hb6.mono HB5b.out.size)
  have hb56 : Below w5.heap.size w5 w6 := HA5.out.trans (hb6.mono HA5.out.size)
  have hal6 : Below w6.heap.size w6 (w6.alloc (.cells #[Value.int .i64 2, .slice ka6 0 kc6, .slice ma6 1 mc6, .string ⟨#[]⟩] 25)) := (Below.refl _ w6).alloc (Nat.le_refl _) _
  obtain ⟨b, off, hxa, z0, z1, z2, z3, z4, z5⟩ := atK (((HL5.out.below hb56).below hal6).r) (i := 0) rfl
  subst hxa
  simp only [Nat.zero_mul, Nat.add_zero] at z3
  have HB7 : Hid (Below w.heap.size w (w6.alloc (.cells #[Value.int .i64 2, .slice ka6 0 kc6, .slice ma6 1 mc6, .string ⟨#[]⟩] 25))) := HB6.out.alloc HB6.out.size _
  simp only [gC, gc, List.length_cons, List.length_nil]
  clear hb6 hb56 hal6 hg6 HD HA5 HB5 HB5b HB6 HG5 HL5 HX5 z0 z1 z2 z4 z5 p0 p1 p2 p3 q0 q1 q2 q3
  go_wp2
  go_ret
  exact ⟨rfl, HB7⟩
end Go.Proofs.YtcpmaddleleblaaDoor.Gw
