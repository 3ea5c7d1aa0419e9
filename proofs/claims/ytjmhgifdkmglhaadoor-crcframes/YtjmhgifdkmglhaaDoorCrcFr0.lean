/-
  The walk of CrcFrames: any bytes have the document's frame; at any place of any bytes stands the document's body, or none.
-/
import Derived.Test.YtjmhgifdkmglhaaDoorCrcR2
namespace Go.Proofs.YtjmhgifdkmglhaaDoor.Cr
open Go.RowKit Kt Cs Cw Cf Cn Cg Ck Cb
set_option linter.unusedVariables false

/-- Next and the document's Next, by what they answer alike: a string, two numbers. -/
theorem next_both (w : World) (hT : Tb w) (ao : Option Addr) (cap : Nat) (k : Int) (bs : List UInt8) (hr : Row w ao bs) (hl : bs.length ≤ 1000000) (hc : bs.length ≤ cap) (hcap : cap ≤ 9223372036854775807) :
    ∃ (x : List UInt8) (p q : Int),
      (Calls Tryd.prog 15 #[.slice ao bs.length cap, .int .i64 k] w fun e w' => ∃ a n c, e = .returned (.tuple #[.slice a n c, .int .i64 p, .int .i64 q]) ∧ n = x.length ∧ Row w' a x ∧ Below w.heap.size w w') ∧
      ∀ W, Below w.heap.size w W → Calls Tryd.prog 16 #[.slice ao bs.length cap, .int .i64 k] W fun e w' => ∃ a n c, e = .returned (.tuple #[.slice a n c, .int .i64 p, .int .i64 q]) ∧ n = x.length ∧ Row w' a x ∧ Below W.heap.size W w' := by
  by_cases h : k < 0 ∨ (bs.length : Int) < k
  · refine ⟨[], 0, 2, ?_, fun W hW => ?_⟩
    · refine (next_arg w ao bs.length cap k h).mono ?_
      rintro e w1 ⟨rfl, rfl⟩
      exact ⟨none, 0, 0, rfl, rfl, Row.nil _ _, Below.refl _ _⟩
    · refine (refNext_arg W ao bs.length cap k h).mono ?_
      rintro e w1 ⟨rfl, rfl⟩
      exact ⟨none, 0, 0, rfl, rfl, Row.nil _ _, Below.refl _ _⟩
  · obtain ⟨j, rfl⟩ : ∃ j : Nat, k = (j : Int) := ⟨k.toNat, by omega⟩
    have hj : j ≤ bs.length := by omega
    by_cases h1 : (Cp.fd (bs.drop j)).1 = 0
    · have hb := fd_body h1
      rw [List.drop_drop] at hb
      refine ⟨(bs.drop (j + 12)).take (Cp.fd (bs.drop j)).2, ((j + 12 + (Cp.fd (bs.drop j)).2 : Nat) : Int), 0, ?_, fun W hW => ?_⟩
      · refine (next_all w ao cap j bs hT hr hl hc hcap hj).mono ?_
        rintro e w1 ⟨hB, ⟨h2, _⟩ | ⟨_, v, rfl, hv⟩⟩
        · exact (h2 h1).elim
        · obtain ⟨a, c, rfl, hn, _, hrow⟩ := own_row hv
          exact ⟨a, _, c, rfl, rfl, hrow, hB⟩
      · refine (refNext_all W ao cap j bs (hr.below hW) hl hc hcap hj).mono ?_
        rintro e w1 ⟨hB, ⟨h2, _⟩ | ⟨_, v, rfl, hv⟩⟩
        · exact (h2 h1).elim
        · obtain ⟨a, c, rfl, hn, _, hrow⟩ := own_row hv
          exact ⟨a, _, c, rfl, rfl, hrow, hB⟩
    · refine ⟨[], 0, ((Cp.fd (bs.drop j)).1 : Nat), ?_, fun W hW => ?_⟩
      · refine (next_all w ao cap j bs hT hr hl hc hcap hj).mono ?_
        rintro e w1 ⟨hB, ⟨_, rfl⟩ | ⟨h2, _⟩⟩
        · exact ⟨none, 0, 0, rfl, rfl, Row.nil _ _, hB⟩
        · exact (h1 h2).elim
      · refine (refNext_all W ao cap j bs (hr.below hW) hl hc hcap hj).mono ?_
        rintro e w1 ⟨hB, ⟨_, rfl⟩ | ⟨h2, _⟩⟩
        · exact ⟨none, 0, 0, rfl, rfl, Row.nil _ _, hB⟩
        · exact (h1 h2).elim

set_option maxHeartbeats 1000000 in
set_option maxRecDepth 20000 in
theorem frames_walk (w : World) (hT : Tb w) (ao ap : Option Addr) (cap cbp : Nat) (bs bp : List UInt8) (k : Int) (hr : Row w ao bs) (hlen : bs.length ≤ cap) (hcap : cap ≤ 9223372036854775807) (hrp : Row w ap bp) (hlenp : bp.length ≤ cbp) (hcapp : cbp ≤ 9223372036854775807) :
    Calls Tryd.prog 4 #[.slice ao bs.length cap, .slice ap bp.length cbp, .int .i64 k] w fun e w' => e = .returned (.bool true) ∧ Below w.heap.size w w' := by
  have hT0 := hT.size
  go_enter Tryd.func4, Tryd.ntmps4
  go_wp2_with fail
  refine (few_any w ao cap bs hr hlen hcap).mono ?_
  rintro e w1 ⟨v1, rfl, hown1, hb1⟩
  obtain ⟨bh, hbh⟩ : ∃ bh, bs.take 3000 = bh := ⟨_, rfl⟩
  have h3 : bh.length ≤ 3000 := by rw [← hbh, List.length_take]; omega
  rw [hbh] at hown1
  clear hr hbh hlen
  obtain ⟨a1, c1, rfl, -, hc1, hr1⟩ := own_row hown1
  clear hown1
  go_wp2_with fail
  refine (few_any w1 ap cbp bp (hrp.below hb1) hlenp hcapp).mono ?_
  rintro e w2 ⟨v2, rfl, hown2, hb2⟩
  obtain ⟨ab, hab⟩ : ∃ ab, bp.take 3000 = ab := ⟨_, rfl⟩
  have h3b : ab.length ≤ 3000 := by rw [← hab, List.length_take]; omega
  rw [hab] at hown2
  clear hrp hab hlenp
  obtain ⟨a2, c2, rfl, -, hc2, hr2⟩ := own_row hown2
  have hcc := own_cap hown2
  have hr12 := hr1.below hb2
  have hb2 := hb1.trans (hb2.mono hb1.size)
  clear hown2 hb1 hr1
  go_wp2_with fail
  refine (frame_ok w2 a1 c1 bh (hT.below hb2 hT0) hr12 (by omega)).mono ?_
  rintro e w3 ⟨v3, rfl, hown3, hb3⟩
  obtain ⟨a3, c3, rfl, hn3, hc3, hr3⟩ := own_row hown3
  have hr13 := hr12.below hb3
  have hr23 := hr2.below hb3
  have hb3 := hb2.trans (hb3.mono hb2.size)
  clear hown3 hb2 hr12 hr2 hn3
  go_wp2_with fail
  refine (refFrame_ok w3 a1 c1 bh hr13 (by omega)).mono ?_
  rintro e w4 ⟨v4, rfl, hown4, hb4⟩
  obtain ⟨a4, c4, rfl, hn4, hc4, hr4⟩ := own_row hown4
  have hr24 := hr23.below hb4
  have hr34 := hr3.below hb4
  have hb4 := hb3.trans (hb4.mono hb3.size)
  clear hown4 hb3 hr13 hr23 hr3 hn4
  generalize Cp.frame bh = f at *
  obtain ⟨x, p, q, N1, N2⟩ := next_both w4 (hT.below hb4 hT0) a2 c2 k ab hr24 (by omega) hc2 hcc
  go_wp2_with fail
  refine N1.mono ?_
  clear N1
  rintro e w5 ⟨a5, n5, c5, rfl, rfl, hr5, hb5⟩
  have N3 := N2 w5 hb5
  clear N2
  have hr45 := hr4.below hb5
  have hr35 := hr34.below hb5
  have hb5 := hb4.trans (hb5.mono hb4.size)
  clear hr4 hr34 hb4 hr24
  go_wp2_with fail
  refine N3.mono ?_
  clear N3
  rintro e w6 ⟨a6, n6, c6, rfl, rfl, hr6, hb6⟩
  have hr46 := hr45.below hb6
  have hr36 := hr35.below hb6
  have hr56 := hr5.below hb6
  have hb6 := hb5.trans (hb6.mono hb5.size)
  clear hr45 hr35 hr5 hb5
  have hs1 := run_string (P := Tryd.prog) Tryd.underlying22 Tryd.underlying5 Tryd.underlying9 hr36 c3
  have hs2 := run_string (P := Tryd.prog) Tryd.underlying22 Tryd.underlying5 Tryd.underlying9 hr46 c4
  have hs3 := run_string (P := Tryd.prog) Tryd.underlying22 Tryd.underlying5 Tryd.underlying9 hr56 c5
  have hs4 := run_string (P := Tryd.prog) Tryd.underlying22 Tryd.underlying5 Tryd.underlying9 hr6 c6
  go_wp2_with fail
  refine (works_any w6 (hT.below hb6 hT0)).mono ?_
  rintro e w7 ⟨rfl, hb7⟩
  go_wp2
  go_ret
  exact ⟨rfl, hb6.trans (hb7.mono hb6.size)⟩
end Go.Proofs.YtjmhgifdkmglhaaDoor.Cr
