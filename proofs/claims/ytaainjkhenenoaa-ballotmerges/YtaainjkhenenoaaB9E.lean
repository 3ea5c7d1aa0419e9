/-
  few: votes that are not longer than the law's own looks go.
-/
import Derived.Test.YtaainjkhenenoaaB9R
namespace Go.Proofs.Ytaainjkhenenoaa.Be
open Go.RowKit Kt Dk Bp Bm Br Ks
set_option linter.unusedVariables false
set_option maxRecDepth 20000

def cutX (x : X) : Int × Int × List UInt8 := (x.s, x.b, x.v.take 100)
/-- Votes that the call owns, with their values. -/
structure OwnX (B : Nat) (w : World) (v : Value) (ys : List X) : Prop where
  row : w.ownsRow B 38 3 v ys.length (Fx ys)
  val : ∀ y ∈ ys, OwnV B w y
  wf : ∀ y ∈ ys, (Lit.int .i64 y.s).wf = true
theorem OwnX.below {B : Nat} {w w' : World} {v : Value} {ys : List X} (h : OwnX B w v ys) (hb : Below w.heap.size w w') : OwnX B w' v ys :=
  ⟨own_below h.row hb, fun y hy => own_below (h.val y hy) hb, h.wf⟩
theorem OwnX.rx {B n c : Nat} {w : World} {ao : Option Addr} {ys : List X} (h : OwnX B w (.slice ao n c) ys) : RX w ao ys :=
  ⟨RowS.own vC_len h.row, fun y hy => ⟨(h.val y hy).ok.1, h.wf y hy, (h.val y hy).ok.2⟩⟩
theorem OwnX.mono {B B' : Nat} {w : World} {v : Value} {ys : List X} (h : OwnX B w v ys) (hb : B' ≤ B) : OwnX B' w v ys :=
  ⟨own_mono h.row hb, fun y hy => own_mono (h.val y hy) hb, h.wf⟩
theorem min100 (bs : List UInt8) : ∃ m : Nat, (bs.take 100).length = m ∧ (if (100 : Int) < (bs.length : Int) then (100 : Int) else (bs.length : Int)) = (m : Int) ∧ m ≤ 100 ∧ m ≤ bs.length := by
  by_cases h : 100 < bs.length
  · exact ⟨100, by rw [List.length_take]; omega, by rw [if_pos (by omega)]; rfl, by omega, by omega⟩
  · exact ⟨bs.length, by rw [List.length_take]; omega, by rw [if_neg (by omega)], by omega, by omega⟩
theorem Row_take {w : World} {ao : Option Addr} {bs : List UInt8} (h : Row w ao bs) (k : Nat) : Row w ao (bs.take k) := by
  intro hl
  rw [List.length_take] at hl
  obtain ⟨b, off, e, hc⟩ := h (by omega)
  refine ⟨b, off, e, fun i hi => ?_⟩
  rw [List.length_take] at hi
  rw [hc i (by omega)]
  simp [show i < k by omega]

set_option maxHeartbeats 8000000 in
theorem few_any (w : World) (ao : Option Addr) (cap : Nat) (l : List X) (h : RX w ao l) (hl : l.length ≤ cap) (hcap : cap ≤ 9223372036854775807) :
    Calls Try.prog 20 #[.slice ao l.length cap] w fun e w' => ∃ ra rc ys, e = .returned (.slice ra ys.length rc) ∧ ys.map p3 = (l.take 40).map cutX ∧ OwnX w.heap.size w' (.slice ra ys.length rc) ys ∧ Below w.heap.size w w' := by
  have HR := mkH h
  have hmx : Try.prog.follows .mixedOrders = true := by kernel_rfl
  clear h
  go_enter Try.func20, Try.ntmps20
  go_wp2_with fail
  go_loopw [3, 4] (fun mv i wr => ∃ (j : Nat) (ra : Option Addr) (rc : Nat) (ys : List X), j ≤ l.length ∧ j ≤ 40 ∧ i = .int .i64 (j : Int) ∧ mv = .slice ra j rc ∧ Hid (ys.length = j) ∧ Hid (ys.map p3 = (l.take j).map cutX) ∧ Hid (OwnX w.heap.size wr (.slice ra j rc) ys) ∧ Hid (Below w.heap.size w wr))
    (fun _ i _ => 40 - (intOf i).toNat)
  case atStart => exact ⟨0, none, 0, [], Nat.zero_le _, by omega, rfl, rfl, rfl, rfl, mkH ⟨World.ownsRow_nil w _ _ _, fun y hy => absurd hy (by simp), fun y hy => absurd hy (by simp)⟩, mkH (Below.refl _ _)⟩
  case round =>
    obtain ⟨j, ra, rc, ys, hj, hj40, rfl, rfl, HYL, HYP, HO, HB⟩ := hrel
    by_cases hjl : j < l.length
    · by_cases hj4 : j < 40
      · obtain ⟨x, hx⟩ := some_of hjl
        have HXO : Hid (∀ W, Below w.heap.size w W → RX W ao l) := fun W hW => HR.out.below hW
        obtain ⟨b, off, rfl, hok, c0, c1, c2⟩ := RX.at HR.out hx
        have hbl : b < w.heap.size := World.block_lt_of_cell? w ⟨b, off + j * 3, none⟩ c0
        obtain ⟨xs, xb, xv, xa, xc⟩ := x
        simp only at c0 c1 c2 hok
        have HKS : Hid (∀ W, Below w.heap.size w W → W.cell? ⟨b, off + j * 3, none⟩ = some (.int .i64 xs) ∧ W.cell? ⟨b, off + j * 3 + 1, none⟩ = some (.int .i64 xb) ∧ W.cell? ⟨b, off + j * 3 + 2, none⟩ = some (.slice xa xv.length xc)) := fun W hW =>
          ⟨(hW.cell (p := ⟨b, off + j * 3, none⟩) hbl).trans c0, (hW.cell (p := ⟨b, off + j * 3 + 1, none⟩) hbl).trans c1, (hW.cell (p := ⟨b, off + j * 3 + 2, none⟩) hbl).trans c2⟩
        obtain ⟨m, hm1, hm2, hm3, hm4⟩ := min100 xv
        have hmc : (m : Int) ≤ (xc : Int) := by have := hok.2.2.1; simp only at this; omega
        have hxc := hok.2.2.2
        have HT := mkH (take_snoc hx)
        have HM1 := mkH hm1
        have HRW : Hid (∀ W, Below w.heap.size w W → Src Try.prog 1 36 (.slice xa m xc) m (U (xv.take 100)) W) := fun W hW => by
          have := Row.src (P := Try.prog) Try.underlying36 (Row_take (hok.1.below hW) 100) xc
          rw [hm1] at this
          exact this
        have hsw : w.heap.size ≤ wr.heap.size := HB.out.size
        have HWF := mkH hok.2.1
        clear c0 c1 c2 hok hm1 hx
        go_wp2_with fail
        have hb1 : Below w.heap.size w (wr.alloc (.cells #[] 5)).drew := (HB.out.alloc hsw _).drew
        have ho1 : (wr.alloc (.cells #[] 5)).drew.ownsRow w.heap.size 5 1 (.slice (some ⟨wr.heap.size, 0, none⟩) 0 0) 0 (U []) := own_mono (World.ownsRow_made (e := 5) (size := 1) wr #[] 0 (Nat.le_refl _) (Nat.zero_le _) rfl) hsw
        have hs1 : (wr.alloc (.cells #[] 5)).drew.heap.size = wr.heap.size + 1 := by simp
        have HX1 : Hid (OwnX w.heap.size (wr.alloc (.cells #[] 5)).drew (.slice ra j rc) ys) := HO.out.below (((Below.refl _ wr).alloc (Nat.le_refl _) _).drew)
        have HB1 := mkH hb1
        have HO1 := mkH ho1
        have HK2 : Hid (∀ v6 w6, w6.ownsRow w.heap.size 5 1 v6 (0 + m) (U [] ++ U (xv.take 100)) → (wr.alloc (.cells #[] 5)).drew.grownBy w6 (Value.slice (some ⟨wr.heap.size, 0, none⟩) 0 0).ownBlock →
            ∃ a6 c6, v6 = .slice a6 m c6 ∧ OwnV w.heap.size w6 ⟨xs, xb, xv.take 100, a6, c6⟩ ∧ Below w.heap.size w w6 ∧ OwnX w.heap.size w6 (.slice ra j rc) ys ∧ w6.ownsRow w.heap.size 38 3 (.slice ra j rc) j (Fx ys) ∧ wr.heap.size ≤ w6.heap.size ∧ Src Try.prog 3 30 (.slice (some ⟨w6.heap.size, 0, none⟩) 1 1) 1 (Fx [⟨xs, xb, xv.take 100, a6, c6⟩]) (w6.alloc (.cells #[.int .i64 xs, .int .i64 xb, .slice a6 m c6] 38))) := fun v6 w6 h6 g6 => by
          rw [Nat.zero_add] at h6
          obtain ⟨a6, c6, rfl⟩ := own_form h6
          have hsz : wr.heap.size + 1 ≤ w6.heap.size := by have := g6.size; rw [hs1] at this; exact this
          have hbb := below_own HO1.out g6 HB1.out (by rw [hs1]; omega)
          have hkeep : ∀ (B e size n : Nat) (v : Value) (zs : List Value), (wr.alloc (.cells #[] 5)).drew.ownsRow B e size v n zs → (∀ k, v.ownBlock = some k → k < wr.heap.size) → w6.ownsRow B e size v n zs := fun B e size n v zs hz hk =>
            own_fr hz (fr_by g6) (fun k h1 h2 => by have := hk k h1; simp only [Value.ownBlock, Option.some.injEq] at h2; omega)
          have hlt : ∀ {B e size n : Nat} {v : Value} {zs : List Value}, wr.ownsRow B e size v n zs → ∀ k, v.ownBlock = some k → k < wr.heap.size := fun hz k hk => (hz.lt k hk).2
          refine ⟨a6, c6, rfl, ?_, hbb, ⟨hkeep _ _ _ _ _ _ HX1.out.row (hlt HO.out.row), fun y hy => hkeep _ _ _ _ _ _ (HX1.out.val y hy) (hlt (HO.out.val y hy)), HX1.out.wf⟩, by have := hkeep _ _ _ _ _ _ HX1.out.row (hlt HO.out.row); rw [HYL.out] at this; exact this, by omega, ?_⟩
          · show World.ownsRow _ _ _ _ _ _ _
            rw [HM1.out]
            simpa [U] using h6
          · have := src_new (P := Try.prog) vC_len vC_one (by decide) Try.underlying30 w6 ⟨xs, xb, xv.take 100, a6, c6⟩ 38
            simp only [vC, HM1.out] at this
            exact this
        clear ho1 HX1
        go_region_held3 (fun W => W.cell? ⟨b, off + j * 3, none⟩ = some (.int .i64 xs) ∧ W.cell? ⟨b, off + j * 3 + 1, none⟩ = some (.int .i64 xb) ∧ W.cell? ⟨b, off + j * 3 + 2, none⟩ = some (.slice xa xv.length xc))
          (first | exact HKS.out _ HB1.out | exact HKS.out _ HB7 | exact HKS.out _ HB6 | exact HKS.out _ (HB6.alloc (by omega) _) | exact HKS.out _ (below_drewN HB.out 1)) (first
          | (refine atApp (.tmp 26) (.tmp 39) 36 36 ?_ ?_; rfl; refine step_append_own_src (by rfl) (.tmp 26) (.tmp 39) 36 36 (by rfl) w.heap.size 5 (.int .u8 0) 1 1 Try.underlying36 info8 (by rfl) (by decide) (.slice (some ⟨wr.heap.size, 0, none⟩) 0 0) 0 (U []) (by rfl) HO1.out (.slice xa m xc) m (U (xv.take 100)) (by rfl) (HRW.out _ HB1.out) (by unfold maxLen; omega) (by omega) (by rw [hs1]; omega) ?_; intro v6 w6 ho6 hg6; obtain ⟨a6, c6, rfl, HV6, HB6, HX6, HR6, hs6, HS6⟩ := HK2.out v6 w6 ho6 hg6)
          | (refine atApp (.tmp 15) (.tmp 42) 30 30 ?_ ?_; rfl; refine step_append_own_src (by rfl) (.tmp 15) (.tmp 42) 30 30 (by rfl) w.heap.size 38 (.agg #[.int .i64 0, .int .i64 0, .slice none 0 0]) 3 40 Try.underlying30 infoV (by rfl) (by decide) (.slice ra j rc) j (Fx ys) (by rfl) (HR6.alloc _) (.slice (some ⟨w6.heap.size, 0, none⟩) 1 1) 1 (Fx [⟨xs, xb, xv.take 100, a6, c6⟩]) (by rfl) HS6 (by unfold maxLen; omega) (by omega) (by simp; omega) ?_; intro v7 w7 ho7 hg7; have HB7 : Below w.heap.size w w7 := below_own (HR6.alloc _) hg7 (HB6.alloc (by omega) _) (by simp; omega); obtain ⟨a7, c7, rfl⟩ := own_form ho7))
        all_goals
          have HW7 : Hid (OwnX w.heap.size w7 (.slice a7 (j + 1) c7) (ys ++ [⟨xs, xb, xv.take 100, a6, c6⟩])) := by
            have hro := HR6.alloc (.cells #[.int .i64 xs, .int .i64 xb, .slice a6 m c6] 38)
            have hkv : ∀ y, OwnV w.heap.size w6 y → OwnV w.heap.size w7 y := fun y hy => by
              have h1 := World.ownsRow.alloc hy (.cells #[.int .i64 xs, .int .i64 xb, .slice a6 m c6] 38)
              exact own_fr h1 (fr_by hg7) (fun k hk hx => own_kinds h1 hro (by decide) k hk hx)
            refine ⟨?_, fun y hy => ?_, fun y hy => ?_⟩
            · unfold Fx
              rw [Fl_append, List.length_append, HYL.out]
              exact ho7
            · rcases List.mem_append.1 hy with hy | hy
              · exact hkv y (HX6.val y hy)
              · obtain rfl := List.mem_singleton.1 hy
                exact hkv _ HV6
            · rcases List.mem_append.1 hy with hy | hy
              · exact HX6.wf y hy
              · obtain rfl := List.mem_singleton.1 hy
                exact HWF.out
          have HYP7 : Hid ((ys ++ [(⟨xs, xb, xv.take 100, a6, c6⟩ : X)]).map p3 = (l.take (j + 1)).map cutX) := by
            show _ = _
            rw [HT.out, List.map_append, List.map_append, HYP.out]
            rfl
          have HYL7 : Hid ((ys ++ [(⟨xs, xb, xv.take 100, a6, c6⟩ : X)]).length = j + 1) := by
            show _ = _
            rw [List.length_append, HYL.out]; rfl
          have HB7' := mkH HB7
          clear ho7 hg7 HB7 HB6 HX6 HR6 HS6 HV6 HK2 HO1 HB1 hm2 hmc
          go_wp2
          refine ⟨⟨j + 1, a7, c7, _, by omega, by omega, by go_num, rfl, HYL7, HYP7, HW7, HB7'⟩, by simp [intOf]; omega⟩
      · have hje : j = 40 := by omega
        subst hje
        have HYL' := HYL
        unfold Hid at HYL'
        go_wp2
        go_ret
        refine ⟨ra, rc, ys, by rw [HYL']; rfl, HYP.out, ?_, HB.out⟩
        rw [HYL']
        exact HO.out
    · have hje : j = l.length := by omega
      subst hje
      have HYL' := HYL
      unfold Hid at HYL'
      go_wp2
      go_ret
      refine ⟨ra, rc, ys, by rw [HYL']; rfl, ?_, ?_, HB.out⟩
      · rw [HYP.out, List.take_length, List.take_of_length_le hj40]
      · rw [HYL']
        exact HO.out
end Go.Proofs.Ytaainjkhenenoaa.Be
