/-
  The walk of ChartLoads.
-/
import Derived.Test.YtcpmcfagibmboaaChLf
import Derived.Test.YtcpmcfagibmboaaChLe
import Derived.Test.YtcpmcfagibmboaaChW
namespace Go.Proofs.Ytcpmcfagibmboaa.Lo
open Go.RowKit Pl Pw Pr Pf Pv Cp Ca Cb Cc Cd Ce Cf Cg Cw Ch Gf Gk La Ld
open Cr hiding some_of
open Kt hiding mkH
open Kv
set_option linter.unusedVariables false
set_option linter.unusedSimpArgs false
set_option maxRecDepth 20000

/-- What a Load answers, either way. -/
def One (bs : List UInt8) (e : Int) (ps : List Pc) (er : Int) : Prop := (Ld.Good bs e ps ∧ er = 0) ∨ ((¬ ∃ e ps, Ld.Good bs e ps) ∧ e = 0 ∧ ps = [] ∧ er = 5)
def OneP (w : World) (bs : List UInt8) (x : Ending) (w' : World) : Prop := ∃ e ps ao cap er, One bs e ps er ∧ x = .returned (.tuple #[.agg #[.int .i64 e, .slice ao ps.length cap], .int .i64 er]) ∧ RdP w' ao cap ps ∧ ps.length ≤ 400 ∧ Below w.heap.size w w'
theorem one_of {w : World} {bs : List UInt8} {x : Ending} {w' : World} (h : Ld.LdP w bs x w') : OneP w bs x w' := by
  obtain ⟨hb, ⟨e, ps, ao, cap, hg, hl, rfl, hr⟩ | ⟨hn, rfl⟩⟩ := h
  · exact ⟨e, ps, ao, cap, 0, .inl ⟨hg, rfl⟩, rfl, hr, hl, hb⟩
  · exact ⟨0, [], none, 0, 5, .inr ⟨hn, rfl, rfl, rfl⟩, rfl, (OwP.mk (B := 0) (World.ownsRow_nil _ _ _ _)).rd, by simp, hb⟩
theorem good_uniq {bs : List UInt8} {e e' : Int} {ps ps' : List Pc} (hl : bs.length ≤ 1000) (h : Ld.Good bs e ps) (h' : Ld.Good bs e' ps') : e' = e ∧ ps' = ps := by
  have hn := h.nums hl
  have h1 := Ld.good_only (k := _) (R := _) hl hn h
  have h2 := Ld.good_only (k := _) (R := _) hl hn h'
  exact ⟨h2.1.trans h1.1.symm, h2.2.trans h1.2.symm⟩
theorem one_eq {bs : List UInt8} {e e' er er' : Int} {ps ps' : List Pc} (hl : bs.length ≤ 1000) (h : One bs e ps er) (h' : One bs e' ps' er') : e' = e ∧ ps' = ps ∧ er' = er := by
  rcases h with ⟨g, rfl⟩ | ⟨hn, rfl, rfl, rfl⟩
  · rcases h' with ⟨g', rfl⟩ | ⟨hn', -⟩
    · obtain ⟨h1, h2⟩ := good_uniq hl g g'
      exact ⟨h1, h2, rfl⟩
    · exact absurd ⟨_, _, g⟩ hn'
  · rcases h' with ⟨g', rfl⟩ | ⟨-, rfl, rfl, rfl⟩
    · exact absurd ⟨_, _, g'⟩ hn
    · exact ⟨rfl, rfl, rfl⟩

theorem S_take (s : List UInt8) (n : Nat) : (S s).extract 0 n = S (s.take n) := by
  apply ByteArray.ext
  simp [S, ByteArray.data_extract]

set_option maxHeartbeats 4000000 in
theorem loads_walk (w : World) (s : ByteArray) (hs : s.size ≤ maxLen) :
    Calls Try.prog 4 #[.string s] w fun x w' => x = .returned (.bool true) ∧ Below w.heap.size w w' := by
  obtain ⟨bs, rfl⟩ : ∃ bs, s = S bs := ⟨s.data.toList, by cases s; rfl⟩
  have hs9 : bs.length ≤ 9223372036854775807 := hs
  have hsz : (S bs).size = bs.length := rfl
  obtain ⟨n, hn⟩ : ∃ n, n = min bs.length 1000 := ⟨_, rfl⟩
  have he : (S bs).extract 0 n = S (bs.take n) := S_take bs n
  have hcl : (bs.take n).length ≤ 1000 := by rw [List.length_take]; omega
  have hm1 : min ((S bs).size : Int) 1000 = (n : Int) := by rw [hsz, hn]; omega
  have hm2 : (if (1000 : Int) < ((S bs).size : Int) then (1000 : Int) else ((S bs).size : Int)) = (n : Int) := by rw [hsz, hn]; split <;> omega
  have hm3 : (if ((S bs).size : Int) < 1000 then ((S bs).size : Int) else 1000) = (n : Int) := by rw [hsz, hn]; split <;> omega
  have hnl : n ≤ (S bs).size := by rw [hsz]; omega
  have hnl2 : (n : Int) ≤ ((S bs).size : Int) := by omega
  generalize bs.take n = cs at *
  have HCL := mkH hcl
  have HL := mkH (fun W => Lf.load_any W cs hcl)
  have HR := mkH (fun W => Le.rload_any W cs hcl)
  clear hs hs9 hn hcl hsz
  go_enter Try.func4, Try.ntmps4
  go_wp2_with fail
  refine (HL.out _).mono ?_
  rintro x w1 hx
  obtain ⟨e, ps, ao, cap, er, ho, rfl, hr1, hp, hb1⟩ := one_of hx
  clear hx
  have hal1 : Below w1.heap.size w1 (w1.alloc (.cells #[.int .i64 e, .slice ao ps.length cap] 24)) := (Below.refl _ w1).alloc (Nat.le_refl _) _
  have X3 : Hid (Bx (w1.alloc (.cells #[.int .i64 e, .slice ao ps.length cap] 24)) w1.heap.size #[.int .i64 e, .slice ao ps.length cap] 24) := mkH (Bx.new _ _ _)
  have R3 := mkH (hr1.below hal1)
  have BW := mkH (hb1.trans (hal1.mono hb1.size))
  have HO := mkH ho
  have HZ1 : Hid (w.heap.size ≤ w1.heap.size) := mkH hb1.size
  clear hr1 hb1 hal1 ho HL he hm1 hm2 hm3 hnl hnl2
  go_wp2_with fail
  generalize w1.heap.size = B3 at *
  generalize w1.alloc (.cells #[.int .i64 e, .slice ao ps.length cap] 24) = W3 at *
  refine (HR.out _).mono ?_
  rintro x w4 hx
  obtain ⟨e', ps', ao2, cap2, er', ho2, rfl, hr2, hp2, hb2⟩ := one_of hx
  obtain ⟨rfl, rfl, rfl⟩ := one_eq HCL.out HO.out ho2
  clear hx ho2 HR HO
  have hal2 : Below w4.heap.size w4 (w4.alloc (.cells #[.int .i64 e', .slice ao2 ps'.length cap2] 24)) := (Below.refl _ w4).alloc (Nat.le_refl _) _
  have X5 : Hid (Bx (w4.alloc (.cells #[.int .i64 e', .slice ao2 ps'.length cap2] 24)) w4.heap.size #[.int .i64 e', .slice ao2 ps'.length cap2] 24) := mkH (Bx.new _ _ _)
  have X3 := mkH ((X3.out.bel hb2).bel hal2)
  have R3 := mkH ((R3.out.below hb2).below hal2)
  have R5 := mkH (hr2.below hal2)
  have BW := mkH ((BW.out.trans (hb2.mono BW.out.size)).trans (hal2.mono (Nat.le_trans BW.out.size hb2.size)))
  clear hr2 hb2 hal2
  go_upto_region 4 with fail
  generalize w4.heap.size = B5 at *
  generalize w4.alloc (.cells #[.int .i64 e', .slice ao2 ps'.length cap2] 24) = W0 at *
  have HC : Hid (∀ W, Below W0.heap.size W0 W → W.cell? ⟨B3, 0, none⟩ = some (.int .i64 e') ∧ W.cell? ⟨B3, 1, none⟩ = some (.slice ao ps'.length cap) ∧ W.cell? ⟨B5, 0, none⟩ = some (.int .i64 e') ∧ W.cell? ⟨B5, 1, none⟩ = some (.slice ao2 ps'.length cap2)) := mkH (fun W hb =>
    ⟨(X3.out.bel hb).cell 0 _ rfl, (X3.out.bel hb).cell 1 _ rfl, (X5.out.bel hb).cell 0 _ rfl, (X5.out.bel hb).cell 1 _ rfl⟩)
  have H1 : Hid (∀ W, Below W0.heap.size W0 W → Calls Try.prog 10 #[.agg #[.int .i64 e', .slice ao ps'.length cap], .agg #[.int .i64 e', .slice ao2 ps'.length cap2]] W fun z w' => z = .returned (.bool true) ∧ Below W0.heap.size W0 w') :=
    mkH (fun W hb => (rsame_any W e' e' ao ao2 cap cap2 ps' ps' (R3.out.below hb) (R5.out.below hb)).mono (fun z w' ⟨h1, h2⟩ => ⟨by rw [h1, decide_eq_true ⟨rfl, rfl⟩], hb.trans (h2.mono hb.size)⟩))
  have H6 : Hid (∀ W, Below W0.heap.size W0 W → Calls Try.prog 12 #[] W fun z w' => z = .returned (.bool true) ∧ Below W0.heap.size W0 w') :=
    mkH (fun W hb => (works_any W).mono (fun z w' ⟨h1, h2⟩ => ⟨h1, hb.trans (h2.mono hb.size)⟩))
  obtain ⟨c0, c1, c2, c3⟩ := HC.out W0 (Below.refl _ _)
  clear X3 X5 R3 R5 hp hp2 HCL
  go_wp2_with fail
  refine (H1.out _ (Below.refl _ _)).mono ?_
  rintro z w11 ⟨rfl, hbX⟩
  go_wp2_with fail
  refine (H6.out _ hbX).mono ?_
  rintro z w12 ⟨rfl, hbY⟩
  go_wp2
  go_ret
  exact ⟨by first | rfl | simp, BW.out.trans (hbY.mono BW.out.size)⟩
end Go.Proofs.Ytcpmcfagibmboaa.Lo
