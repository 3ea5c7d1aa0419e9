/-
  BallotSets: the walk.
-/
import Derived.Test.YtaainjkhenenoaaB9W
import Derived.Test.YtaainjkhenenoaaB9U
namespace Go.Proofs.Ytaainjkhenenoaa.Bse
open Go.RowKit Kt Dk Bm Br Bs Bg Bn Bw Bt Bu Go.Maps Go.ChangeMaps
set_option linter.unusedVariables false
set_option maxRecDepth 20000

/-- Numbers as cells. -/
def iC (k : Int) : List Value := [.int .i64 k]
theorem iC_len (k : Int) : (iC k).length = 1 := rfl
abbrev RowZ := RowS 1 iC
theorem RowZ.at {w : World} {ao : Option Addr} {l : List Int} (h : RowZ w ao l) {i : Nat} {x : Int} (hx : l[i]? = some x) : ∃ b off, ao = some ⟨b, off, none⟩ ∧ w.cell? ⟨b, off + i, none⟩ = some (.int .i64 x) := by
  have hi := lt_of hx
  obtain ⟨b, off, e, hc⟩ := h (by omega)
  have := hc i _ hx 0 _ rfl
  rw [Nat.mul_one, Nat.add_zero] at this
  exact ⟨b, off, e, this⟩
theorem infoI : (Try.prog.info? 3).map (fun i => (i.zero, i.size, i.bytes)) = some (some (.int .i64 0), 1, 8) := by kernel_rfl
/-- A set and a row of numbers lie apart. -/
theorem apart {B B2 : Nat} {w : World} {Sb : Nat} {mo : Option Nat} {l : List Int} {v : Value} {n : Nat} {xs : List Value} (h : Ss B w Sb mo l) (ho : w.ownsRow B2 3 1 v n xs) : ∀ k, v.ownBlock = some k → ¬ (k = Sb ∨ mo = some k) := by
  intro k hk hq
  rcases ho.2 with ⟨rfl, -⟩ | ⟨g, cap, cur, rfl, -, hg, -⟩
  · simp [Value.ownBlock] at hk
  · simp only [Value.ownBlock, Option.some.injEq] at hk
    subst hk
    rcases hq with rfl | hq
    · rw [h.2.1] at hg
      simp only [Option.some.injEq, Obj.cells.injEq] at hg
      exact absurd hg.2.1 (by decide)
    · rcases h.2.2 with ⟨e, -⟩ | ⟨Mb, D, e, -, -, hm, -⟩
      · rw [e] at hq; cases hq
      · rw [e] at hq
        cases hq
        obtain ⟨es, clock, hh, -⟩ := hm
        rw [hh] at hg
        cases hg
theorem Ss.from {B : Nat} {w : World} {Sb : Nat} {mo : Option Nat} {l : List Int} (h : Ss B w Sb mo l) : ∀ k, (k = Sb ∨ mo = some k) → B ≤ k := by
  intro k hk
  rcases hk with rfl | hk
  · exact h.1
  · rcases h.2.2 with ⟨e, -⟩ | ⟨Mb, D, e, hb, -⟩
    · rw [e] at hk; cases hk
    · rw [e] at hk; cases hk; exact hb
theorem src_i (w : World) (x : Int) : Src Try.prog 1 40 (.slice (some ⟨w.heap.size, 0, none⟩) 1 1) 1 (Fl iC [x]) (w.alloc (.cells #[.int .i64 x] 3)) :=
  src_val (P := Try.prog) Try.underlying40 w (.int .i64 x) rfl
/-- Numbers that came in. -/
theorem row_of {w : World} {a : Option Addr} {len cap : Nat} {zs : List Int} (h : IsRow .i64 w a len cap zs) : ∃ l : List Int, l.length = len ∧ l.length ≤ cap ∧ RowZ w a l ∧ (∀ y ∈ l, (Lit.int .i64 y).wf = true) ∧ cap ≤ 9223372036854775807 := by
  rcases h with ⟨rfl, rfl, rfl, rfl⟩ | ⟨x, rfl, hl, hm, hz, hcell, hwz⟩
  · exact ⟨[], rfl, Nat.le_refl _, RowS.nil _ _, fun y hy => absurd hy (by simp), by omega⟩
  · refine ⟨zs.take len, by rw [List.length_take]; omega, by rw [List.length_take]; omega, fun h0 => ?_, fun y hy => hwz y (List.mem_of_mem_take hy), by unfold maxLen at hm; omega⟩
    rw [List.length_take] at h0
    obtain ⟨b, off, spot⟩ := x
    have hc0 := hcell 0 (by omega)
    have hspot : spot = none := by simpa [Addr.add] using World.cell?_spot hc0
    subst hspot
    refine ⟨b, off, rfl, fun i y hy j v hv => ?_⟩
    have hj : j = 0 := by have := lt_of hv; rw [iC_len] at this; omega
    subst hj
    simp only [iC, List.getElem?_cons_zero, Option.some.injEq] at hv
    subst hv
    have hi := lt_of hy
    rw [List.length_take] at hi
    rw [List.getElem?_take, if_pos (by omega)] at hy
    have hc := hcell i (by omega)
    rw [Addr.add_lit] at hc
    rw [Nat.mul_one, Nat.add_zero, hc]
    simp [List.getD, hy]

set_option maxHeartbeats 8000000 in
theorem sets_walk (w : World) (a0 : Option Addr) (cap0 : Nat) (l : List Int) (x : Int) (h0 : RowZ w a0 l) (hw : ∀ y ∈ l, (Lit.int .i64 y).wf = true) (hl : l.length ≤ cap0) (hc : cap0 ≤ 9223372036854775807) (hx : (Lit.int .i64 x).wf = true) :
    Calls Try.prog 5 #[.slice a0 l.length cap0, .int .i64 x] w fun e w' => e = .returned (.bool true) ∧ Below w.heap.size w w' := by
  have H0 := mkH h0
  have HW := mkH hw
  have HX := mkH hx
  have HS0 : Hid (Ss w.heap.size (w.alloc (.cells #[.map none] 43)) w.heap.size none []) := ⟨Nat.le_refl _, heap_alloc_new w _, .inl ⟨rfl, rfl⟩⟩
  have HB0 : Hid (Below w.heap.size w (w.alloc (.cells #[.map none] 43))) := (Below.refl _ w).alloc (Nat.le_refl _) _
  clear h0 hw hx
  go_enter Try.func5, Try.ntmps5
  go_wp2_with fail
  go_loopw [6, 7] (fun mv i wr => ∃ (j : Nat) (ra : Option Addr) (rc : Nat) (is : List Int) (mo : Option Nat), j ≤ l.length ∧ j ≤ 60 ∧ is.length ≤ j ∧ i = .int .i64 (j : Int) ∧ mv = .slice ra is.length rc ∧ Hid (Ss w.heap.size wr w.heap.size mo is) ∧ Hid (wr.ownsRow w.heap.size 3 1 (.slice ra is.length rc) is.length (Fl iC is)) ∧ Hid (Below w.heap.size w wr))
    (fun _ i _ => 60 - (intOf i).toNat)
  case atStart => exact ⟨0, none, 0, [], none, Nat.zero_le _, by omega, Nat.le_refl _, rfl, rfl, HS0, mkH (World.ownsRow_nil _ _ _ _), HB0⟩
  case round =>
    clear HS0 HB0
    obtain ⟨j, ra, rc, is, mo, hj, hj60, hil, rfl, rfl, HS, HO, HB⟩ := hrel
    by_cases hjl : j < l.length
    · by_cases hj6 : j < 60
      · obtain ⟨y, hy⟩ := some_of hjl
        have hyw := HW.out y (List.mem_of_getElem? hy)
        have HYW := mkH hyw
        obtain ⟨b1, o1, rfl, hcell0⟩ := H0.out.at hy
        have hbl : b1 < w.heap.size := World.block_lt_of_cell? w ⟨b1, o1 + j, none⟩ hcell0
        have HC : Hid (∀ W, Below w.heap.size w W → W.cell? ⟨b1, o1 + j, none⟩ = some (.int .i64 y)) := fun W hW => (hW.cell (p := ⟨b1, o1 + j, none⟩) hbl).trans hcell0
        have hcy := HC.out wr HB.out
        clear hcell0 hy hyw
        go_wp2_with fail
        generalize wr = wO at *
        go_loopw [8, 27] (fun f i wr => ∃ (k : Nat) (t : Bool), k ≤ is.length ∧ i = .int .i64 (k : Int) ∧ f = .bool t ∧ Hid (t = decide (y ∈ is.take k)) ∧ wr = wO) (fun _ i _ => is.length - (intOf i).toNat)
        case atStart => exact ⟨0, false, Nat.zero_le _, rfl, rfl, mkH (by simp), rfl⟩
        case round =>
          obtain ⟨k, t, hk, rfl, rfl, HT, rfl⟩ := hrel
          rcases Nat.lt_or_ge k is.length with hkl | hkl
          · obtain ⟨z, hz⟩ := some_of hkl
            obtain ⟨b2, o2, hra, hcz⟩ := RowZ.at (RowS.own iC_len HO.out) hz
            subst hra
            have HTS := mkH (take_snoc hz)
            clear hz
            by_cases hzy : z = y
            · subst hzy
              cases t <;> go_wp2 <;> exact ⟨⟨k + 1, true, by omega, by go_num, rfl, mkH (by rw [HTS.out]; simp), trivial⟩, by simp [intOf]; omega⟩
            · have hzn : (z == y) = false := by simp [hzy]
              have HN : Hid (¬ y = z) := mkH (fun e => hzy e.symm)
              clear hzy
              cases t <;> go_wp2 <;> exact ⟨⟨k + 1, _, by omega, by go_num, rfl, mkH (by rw [HTS.out]; have := HT.out; have := HN.out; simp_all), trivial⟩, by simp [intOf]; omega⟩
          · have hke : k = is.length := by omega
            subst hke
            rw [List.take_length] at HT
            have hin := has_any HS.out y HYW.out
            rw [← HT.out] at hin
            have HIN := mkH hin
            clear hin hkl hk
            go_wp2_with fail
            refine HIN.out.mono ?_
            rintro e w2 ⟨rfl, hb2⟩
            have HS2 := mkH (HS.out.below hb2)
            have HO2 := mkH (own_below HO.out hb2)
            have HB2 : Hid (Below w.heap.size w w2) := HB.out.trans (hb2.mono HB.out.size)
            have hs2 : w.heap.size ≤ w2.heap.size := HB2.out.size
            have hcy2 := HC.out w2 HB2.out
            clear hb2 HIN hcy
            have HAD := mkH (add_any HS2.out hs2 (by omega) y HYW.out)
            cases t with
            | true =>
              have hm : y ∈ is := by have := HT.out; simpa using this.symm
              have HM := mkH hm
              go_wp2_with fail
              refine HAD.out.mono ?_
              rintro e w3 ⟨rfl, ⟨mo', hs3⟩, hf3⟩
              rw [if_pos hm] at hs3
              have hdn : decide (y ∉ is) = false := by simp [hm]
              rw [hdn]
              have HO3 := mkH (own_fr HO2.out hf3 (apart HS2.out HO2.out))
              have HB3 : Hid (Below w.heap.size w w3) := HB2.out.trans (hf3.below (Ss.from HS2.out) hs2)
              have HS3 := mkH hs3
              have hcy3 := HC.out w3 HB3.out
              clear hdn hs3 hf3 hcy2 hm
              go_wp2_with fail
              refine (len_any HS3.out).mono ?_
              rintro e w4 ⟨rfl, hw4⟩
              subst hw4
              go_wp2_with fail
              have hin := has_any HS3.out y HYW.out
              have hdt : decide (y ∈ is) = true := by simpa using HM.out
              rw [hdt] at hin
              refine hin.mono ?_
              rintro e w5 ⟨rfl, hb5⟩
              have HS5 := mkH (HS3.out.below hb5)
              have HO5 := mkH (own_below HO3.out hb5)
              have HB5 : Hid (Below w.heap.size w w5) := HB3.out.trans (hb5.mono HB3.out.size)
              clear hin hdt hb5 hcy3
              go_wp2
              exact ⟨⟨j + 1, ra, rc, is, mo', by omega, by omega, by omega, by go_num, rfl, HS5, HO5, HB5⟩, by simp [intOf]; omega⟩
            | false =>
              have hm : ¬ y ∈ is := by have := HT.out; simpa using this.symm
              have HM := mkH hm
              go_wp2_with fail
              refine HAD.out.mono ?_
              rintro e w3 ⟨rfl, ⟨mo', hs3⟩, hf3⟩
              rw [if_neg hm] at hs3
              have hdn : decide (y ∉ is) = true := by simp [hm]
              rw [hdn]
              have HO3 := mkH (own_fr HO2.out hf3 (apart HS2.out HO2.out))
              have HB3 : Hid (Below w.heap.size w w3) := HB2.out.trans (hf3.below (Ss.from HS2.out) hs2)
              have HS3 := mkH hs3
              have hcy3 := HC.out w3 HB3.out
              have hln := len_any hs3
              have hl1 : ((is ++ [y]).length : Int) = (is.length : Int) + 1 := by simp
              rw [hl1] at hln
              have HLN := mkH hln
              clear hdn hs3 hf3 hcy2 hm hl1 hln
              go_wp2_with fail
              refine HLN.out.mono ?_
              rintro e w4 ⟨rfl, hw4⟩
              subst hw4
              go_wp2_with fail
              have hin := has_any HS3.out y HYW.out
              have hdt : decide (y ∈ is ++ [y]) = true := by simp
              rw [hdt] at hin
              refine hin.mono ?_
              rintro e w5 ⟨rfl, hb5⟩
              have HS5 := mkH (HS3.out.below hb5)
              have HO5 := mkH (own_below HO3.out hb5)
              have HB5 : Hid (Below w.heap.size w w5) := HB3.out.trans (hb5.mono HB3.out.size)
              have hs5 : w.heap.size ≤ w5.heap.size := HB5.out.size
              have hcy5 := HC.out w5 HB5.out
              have HSR := mkH (src_i w5 y)
              clear hin hdt hb5 hcy3
              go_wp2_with (at_builtin; refine wpList_append_own_src _ rfl (.tmp 78) (.tmp 83) 40 40 rfl w.heap.size 3 (.int .i64 0) 1 8 Try.underlying40 infoI rfl (by decide) _ is.length (Fl iC is) rfl (World.ownsRow.alloc HO5.out _) _ 1 (Fl iC [y]) rfl HSR.out (by unfold maxLen; omega) (by omega) (by simp; omega) ?_; intro v6 w6 ho6 hg6)
              have hoa := World.ownsRow.alloc HO5.out (.cells #[.int .i64 y] 3)
              have hb1 : Below w5.heap.size w5 (w5.alloc (.cells #[.int .i64 y] 3)) := (Below.refl _ w5).alloc (Nat.le_refl _) _
              have HB6 : Hid (Below w.heap.size w w6) := below_own hoa hg6 (HB5.out.alloc hs5 _) (by simp; omega)
              have hsa := HS5.out.below hb1
              have HS6 : Hid (Ss w.heap.size w6 w.heap.size mo' (is ++ [y])) := hsa.fr (fr_by hg6) (fun e => apart hsa hoa _ e (.inl rfl)) (fun k hk e => apart hsa hoa _ e (.inr hk))
              obtain ⟨a6, c6, rfl⟩ := own_form ho6
              have HO6 : Hid (w6.ownsRow w.heap.size 3 1 (.slice a6 (is ++ [y]).length c6) (is ++ [y]).length (Fl iC (is ++ [y]))) := by
                show World.ownsRow _ _ _ _ _ _ _
                rw [Fl_append, List.length_append]
                exact ho6
              have HLL : Hid ((is ++ [y]).length = is.length + 1) := by show _ = _; simp
              clear ho6 hg6 hoa hb1 hsa hcy5 HSR
              go_wp2
              exact ⟨⟨j + 1, a6, c6, is ++ [y], mo', by omega, by omega, by rw [HLL.out]; omega, by go_num, by rw [HLL.out], HS6, HO6, HB6⟩, by simp [intOf]; omega⟩
      · have hje : j = 60 := by omega
        subst hje
        go_wp2_with fail
        generalize wr = wO at *
        go_loopw [11, 87] (fun f i wr => ∃ (k : Nat) (t : Bool), k ≤ is.length ∧ i = .int .i64 (k : Int) ∧ f = .bool t ∧ Hid (t = decide (x ∈ is.take k)) ∧ wr = wO) (fun _ i _ => is.length - (intOf i).toNat)
        case atStart => exact ⟨0, false, Nat.zero_le _, rfl, rfl, mkH (by simp), rfl⟩
        case round =>
          obtain ⟨k, t, hk, rfl, rfl, HT, rfl⟩ := hrel
          rcases Nat.lt_or_ge k is.length with hkl | hkl
          · obtain ⟨z, hz⟩ := some_of hkl
            obtain ⟨b2, o2, hra, hcz⟩ := RowZ.at (RowS.own iC_len HO.out) hz
            subst hra
            have HTS := mkH (take_snoc hz)
            clear hz
            by_cases hzy : z = x
            · subst hzy
              cases t <;> go_wp2 <;> exact ⟨⟨k + 1, true, by omega, by go_num, rfl, mkH (by rw [HTS.out]; simp), trivial⟩, by simp [intOf]; omega⟩
            · have hzn : (z == x) = false := by simp [hzy]
              have HN : Hid (¬ x = z) := mkH (fun e => hzy e.symm)
              clear hzy
              cases t <;> go_wp2 <;> exact ⟨⟨k + 1, _, by omega, by go_num, rfl, mkH (by rw [HTS.out]; have := HT.out; have := HN.out; simp_all), trivial⟩, by simp [intOf]; omega⟩
          · have hke : k = is.length := by omega
            subst hke
            rw [List.take_length] at HT
            have hin := has_any HS.out x HX.out
            rw [← HT.out] at hin
            have HIN := mkH hin
            clear hin hkl hk
            go_wp2_with fail
            refine HIN.out.mono ?_
            rintro e w2 ⟨rfl, hb2⟩
            have HS2 := mkH (HS.out.below hb2)
            have HB2 : Hid (Below w.heap.size w w2) := HB.out.trans (hb2.mono HB.out.size)
            clear hb2 HIN
            cases t
            all_goals
              go_wp2_with fail
              refine (len_any HS2.out).mono ?_
              rintro e w4 ⟨rfl, hw4⟩
              subst hw4
              go_wp2_with fail
              refine (sadd_nil _ _).mono ?_
              rintro e w5 ⟨rfl, hb5⟩
              have HB5 : Hid (Below w.heap.size w w5) := HB2.out.trans (hb5.mono HB2.out.size)
              clear hb5
              go_wp2_with fail
              refine (shas_nil _ _).mono ?_
              rintro e w6 ⟨rfl, hb6⟩
              have HB6 : Hid (Below w.heap.size w w6) := HB5.out.trans (hb6.mono HB5.out.size)
              clear hb6
              go_wp2_with fail
              refine (slen_nil _).mono ?_
              rintro e w7 ⟨rfl, hw7⟩
              subst hw7
              go_wp2_with fail
              refine (works_any _).mono ?_
              rintro e w8 ⟨rfl, hb8⟩
              have HB8 : Hid (Below w.heap.size w w8) := HB6.out.trans (hb8.mono HB6.out.size)
              clear hb8
              go_wp2
              go_ret
              exact ⟨rfl, HB8.out⟩
    · have hje : j = l.length := by omega
      subst hje
      go_wp2_with fail
      generalize wr = wO at *
      go_loopw [11, 87] (fun f i wr => ∃ (k : Nat) (t : Bool), k ≤ is.length ∧ i = .int .i64 (k : Int) ∧ f = .bool t ∧ Hid (t = decide (x ∈ is.take k)) ∧ wr = wO) (fun _ i _ => is.length - (intOf i).toNat)
      case atStart => exact ⟨0, false, Nat.zero_le _, rfl, rfl, mkH (by simp), rfl⟩
      case round =>
        obtain ⟨k, t, hk, rfl, rfl, HT, rfl⟩ := hrel
        rcases Nat.lt_or_ge k is.length with hkl | hkl
        · obtain ⟨z, hz⟩ := some_of hkl
          obtain ⟨b2, o2, hra, hcz⟩ := RowZ.at (RowS.own iC_len HO.out) hz
          subst hra
          have HTS := mkH (take_snoc hz)
          clear hz
          by_cases hzy : z = x
          · subst hzy
            cases t <;> go_wp2 <;> exact ⟨⟨k + 1, true, by omega, by go_num, rfl, mkH (by rw [HTS.out]; simp), trivial⟩, by simp [intOf]; omega⟩
          · have hzn : (z == x) = false := by simp [hzy]
            have HN : Hid (¬ x = z) := mkH (fun e => hzy e.symm)
            clear hzy
            cases t <;> go_wp2 <;> exact ⟨⟨k + 1, _, by omega, by go_num, rfl, mkH (by rw [HTS.out]; have := HT.out; have := HN.out; simp_all), trivial⟩, by simp [intOf]; omega⟩
        · have hke : k = is.length := by omega
          subst hke
          rw [List.take_length] at HT
          have hin := has_any HS.out x HX.out
          rw [← HT.out] at hin
          have HIN := mkH hin
          clear hin hkl hk
          go_wp2_with fail
          refine HIN.out.mono ?_
          rintro e w2 ⟨rfl, hb2⟩
          have HS2 := mkH (HS.out.below hb2)
          have HB2 : Hid (Below w.heap.size w w2) := HB.out.trans (hb2.mono HB.out.size)
          clear hb2 HIN
          cases t
          all_goals
            go_wp2_with fail
            refine (len_any HS2.out).mono ?_
            rintro e w4 ⟨rfl, hw4⟩
            subst hw4
            go_wp2_with fail
            refine (sadd_nil _ _).mono ?_
            rintro e w5 ⟨rfl, hb5⟩
            have HB5 : Hid (Below w.heap.size w w5) := HB2.out.trans (hb5.mono HB2.out.size)
            clear hb5
            go_wp2_with fail
            refine (shas_nil _ _).mono ?_
            rintro e w6 ⟨rfl, hb6⟩
            have HB6 : Hid (Below w.heap.size w w6) := HB5.out.trans (hb6.mono HB5.out.size)
            clear hb6
            go_wp2_with fail
            refine (slen_nil _).mono ?_
            rintro e w7 ⟨rfl, hw7⟩
            subst hw7
            go_wp2_with fail
            refine (works_any _).mono ?_
            rintro e w8 ⟨rfl, hb8⟩
            have HB8 : Hid (Below w.heap.size w w8) := HB6.out.trans (hb8.mono HB6.out.size)
            clear hb8
            go_wp2
            go_ret
            exact ⟨rfl, HB8.out⟩
end Go.Proofs.Ytaainjkhenenoaa.Bse
