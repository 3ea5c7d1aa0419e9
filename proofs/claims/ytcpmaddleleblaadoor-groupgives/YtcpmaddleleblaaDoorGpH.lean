/-
  Again.
-/
import Derived.Test.YtcpmaddleleblaaDoorGpG
namespace Go.Proofs.YtcpmaddleleblaaDoor.Gh
open Go.RowKit Kt Gf Gp Gr Gk Ga Gs Gb Ge Gg
set_option linter.unusedVariables false
set_option linter.unusedSimpArgs false
set_option maxRecDepth 20000

theorem isEmpty_false {t : ByteArray} (h : t ≠ ⟨#[]⟩) : t.toList.isEmpty = false := by
  rw [ByteArray.toList_eq]
  obtain ⟨⟨l⟩⟩ := t
  cases l with
  | nil => exact absurd rfl h
  | cons a t => rfl
theorem isEmpty_true {t : ByteArray} (h : t = ⟨#[]⟩) : t.toList.isEmpty = true := by rw [h]; simp

set_option maxHeartbeats 4000000 in
theorem Again_any (w : World) (g : G) (ka : Option Addr) (kc : Nat) (ma : Option Addr) (mc : Nat) (h : Gl w g ka kc ma mc) (hk : g.kept.length ≤ 100000000) (now mx : Int) (att : ByteArray) (l : List K) (hl : again g now mx.toNat att = l) :
    Calls Tryd.prog 14 #[.agg (gC g ka kc ma mc), .int .i64 now, .int .i64 mx, .string att] w fun e w' => ∃ a c, e = .returned (.slice a l.length c) ∧ Ls w' l a c ∧ Below w.heap.size w w' := by
  have HL := mkH h
  have HLl := mkH hl
  clear h hl
  obtain ⟨nx, kp, mk, at'⟩ := g
  simp only [gC] at hk ⊢
  have hal : Below w.heap.size w (w.alloc (.cells #[Value.int .i64 nx, .slice ka kp.length kc, .slice ma mk.length mc, .string at'] 25)) := (Below.refl _ w).alloc (Nat.le_refl _) _
  have HAL := mkH hal
  clear hal
  by_cases he : att = ⟨#[]⟩
  · have q : l = [] := by rw [← HLl.out]; unfold again; rw [if_pos (.inl he)]
    subst q
    have hq := isEmpty_true he
    clear he HLl
    go_enter Tryd.func14, Tryd.ntmps14
    go_wp2
    go_ret
    exact ⟨none, 0, rfl, Ls.nil _, HAL⟩
  · have hq := isEmpty_false he
    by_cases hne : att = at'
    · subst hne
      have q : againL now mx.toNat kp = l := by rw [← HLl.out]; unfold again; rw [if_neg (by rintro (h | h); exact he h; exact h rfl)]; rfl
      have HQ := mkH q
      clear he HLl q
      go_enter Tryd.func14, Tryd.ntmps14
      go_wp2_with fail
      go_loopw [9, 11, 23] (fun s9 _ i WW => ∃ (n : Nat) (gt : List K) (ga : Option Addr) (gc : Nat), n ≤ kp.length ∧ i = .int .i64 (n : Int) ∧ s9 = .slice ga gt.length gc ∧ Hid (againL now mx.toNat (kp.take n) = gt) ∧ gt.length ≤ n ∧ Hid (WW.ownsRow w.heap.size 61 6 (.slice ga gt.length gc) gt.length (Fk gt)) ∧ Hid (Below w.heap.size w WW)) (fun _ _ i _ => kp.length - (intOf i).toNat)
      case atStart => exact ⟨0, [], none, 0, Nat.zero_le _, rfl, rfl, mkH (by simp [againL]), Nat.le_refl _, World.ownsRow_nil _ _ _ _, HAL⟩
      case round =>
        obtain ⟨j, gt, ga, gc, hj, rfl, rfl, HA, hgl, HOg, HBw⟩ := hrel
        rcases Nat.lt_or_ge j kp.length with hjl | hjl
        · obtain ⟨x, hx⟩ := some_of hjl
          have hrow : RowK wr ka kp := HL.out.k.below HBw.out
          obtain ⟨b, off, rfl, z0, z1, z2, z3, z4, z5⟩ := atK hrow hx
          have HSn := mkH (againL_snoc now mx.toNat kp j x hx)
          rw [HA.out] at HSn
          have hsw := HBw.out.size
          obtain ⟨fl, hfl⟩ : ∃ t, fly now x = t := ⟨_, rfl⟩
          have HFL := mkH hfl
          have HI := fun W => inFlight_any W x now
          rw [hfl] at HI
          obtain ⟨x0, x1, x2, x3, x4, x5⟩ := x
          simp only [kC] at HI z0 z1 z2 z3 z4 z5
          have HI2 := mkH HI
          have halA : Below wr.heap.size wr (wr.alloc (.cells #[Value.int .i64 x0, .int .i64 x1, .int .i64 x2, .int .i64 x3, .int .i64 x4, .string x5] 61)) := (Below.refl _ wr).alloc (Nat.le_refl _) _
          have hBx := Bx.new wr #[Value.int .i64 x0, .int .i64 x1, .int .i64 x2, .int .i64 x3, .int .i64 x4, .string x5] 61
          have HOA := mkH (own_below HOg.out halA)
          have HBA : Hid (Below w.heap.size w (wr.alloc (.cells #[Value.int .i64 x0, .int .i64 x1, .int .i64 x2, .int .i64 x3, .int .i64 x4, .string x5] 61))) := HBw.out.trans (halA.mono hsw)
          have HBX := mkH hBx
          clear hx hrow hfl HI halA hBx
          by_cases hmx : (gt.length : Int) < mx
          · have t1 : decide ((gt.length : Int) < mx) = true := by simpa using hmx
            have HMX : Hid (gt.length < mx.toNat) := by unfold Hid; omega
            go_wp2_with fail
            refine (HI2.out _).mono ?_
            rintro e w5 ⟨rfl, hb5⟩
            have HB5 : Hid (Below w.heap.size w w5) := HBA.out.trans (hb5.mono HBA.out.size)
            have HO5 := mkH (own_below HOA.out hb5)
            have hB5 := HBX.out.bel hb5
            have y0 := hB5.cell 0 _ rfl
            have y1 := hB5.cell 1 _ rfl
            have y2 := hB5.cell 2 _ rfl
            have y3 := hB5.cell 3 _ rfl
            have y4 := hB5.cell 4 _ rfl
            have y5 := hB5.cell 5 _ rfl
            clear HI2 HBX HBA HOA hB5 hb5 z0 z1 z2 z3 z4 z5
            cases fl with
            | true =>
              have hal6 : Below w5.heap.size w5 (w5.alloc (.cells #[Value.int .i64 x0, .int .i64 x1, .int .i64 x2, .int .i64 x3, .int .i64 x4, .string x5] 61)) := (Below.refl _ w5).alloc (Nat.le_refl _) _
              have HS := mkH (newK w5 ⟨x0, x1, x2, x3, x4, x5⟩ 61)
              simp only [kC] at HS
              have HO6 := mkH (own_below HO5.out hal6)
              have HB6 : Hid (Below w.heap.size w (w5.alloc (.cells #[Value.int .i64 x0, .int .i64 x1, .int .i64 x2, .int .i64 x3, .int .i64 x4, .string x5] 61))) := HB5.out.trans (hal6.mono HB5.out.size)
              clear hal6 HO5 HB5
              go_wp2_with (at_builtin; refine (wpList_append_own_src _ rfl (.tmp 36) (.tmp 38) 22 22 rfl w.heap.size 61 _ 6 56 Tryd.underlying22 infoK rfl (by decide) _ gt.length (Fk gt) rfl HO6.out _ 1 (Fk [⟨x0, x1, x2, x3, x4, x5⟩]) rfl HS.out ?h63 ?hby ?hbs ?_))
              case h63 => unfold maxLen; omega
              case hby => omega
              case hbs => exact HB6.out.size
              intro v5 w6 hown hgr
              obtain ⟨l5, hl5⟩ : ∃ l5, gt ++ [(⟨x0, x1, x2, x3, x4, x5⟩ : K)] = l5 := ⟨_, rfl⟩
              have hl5l : gt.length + 1 = l5.length := by rw [← hl5]; simp
              rw [show Fk gt ++ Fk [⟨x0, x1, x2, x3, x4, x5⟩] = Fk l5 by rw [← hl5]; exact (Fl_append _ _).symm, hl5l] at hown
              obtain ⟨a5, c5, rfl⟩ := own_form hown
              have HB7 := mkH (below_own HO6.out hgr HB6.out HB6.out.size)
              have HO7 := mkH hown
              have HL5 := mkH hl5
              have HL5l := mkH hl5l
              clear hown hgr HS HO6 HB6 hl5 hl5l
              go_wp2
              go_roundw
              case rel => exact ⟨j + 1, l5, a5, c5, by omega, by go_num, rfl, by unfold Hid; rw [HSn.out, if_pos ⟨HMX.out, HFL.out⟩, HL5.out], by have := HL5l.out; omega, HO7, HB7⟩
              case measure => simp [intOf]; omega
            | false =>
              go_wp2
              go_roundw
              case rel => exact ⟨j + 1, gt, ga, gc, by omega, by go_num, rfl, by unfold Hid; rw [HSn.out, if_neg (by rw [HFL.out]; simp)], by omega, HO5, HB5⟩
              case measure => simp [intOf]; omega
          · have t1 : decide ((gt.length : Int) < mx) = false := by simpa using hmx
            have HMX : Hid (mx.toNat ≤ gt.length) := by unfold Hid; omega
            go_wp2
            go_roundw
            case rel => exact ⟨j + 1, gt, ga, gc, by omega, by go_num, rfl, by unfold Hid; rw [HSn.out, if_neg (by have := HMX.out; omega)], by omega, HOA, HBA⟩
            case measure => simp [intOf]; omega
        · obtain rfl : j = kp.length := by omega
          have q : gt = l := by rw [← HA.out, List.take_length]; exact HQ.out
          subst q
          go_wp2
          go_ret
          exact ⟨ga, gc, rfl, ⟨RowS.own kC_len HOg.out, own_le HOg.out, own_cap HOg.out⟩, HBw⟩
    · have q : l = [] := by rw [← HLl.out]; unfold again; rw [if_pos (.inr hne)]
      subst q
      have hq2 : (att.toList == at'.toList) = false := by rw [strEq]; simpa using hne
      have hq3 : (att.toList != at'.toList) = true := by rw [bne, hq2]; rfl
      clear he HLl hne
      go_enter Tryd.func14, Tryd.ntmps14
      go_wp2
      go_ret
      exact ⟨none, 0, rfl, Ls.nil _, HAL⟩
end Go.Proofs.YtcpmaddleleblaaDoor.Gh
