/-
  The document's Again.
-/
import Derived.Test.YtcpmaddleleblaaDoorGpH
import Derived.Test.YtcpmaddleleblaaDoorGpU
namespace Go.Proofs.YtcpmaddleleblaaDoor.Gra
open Go.RowKit Kt Gf Gp Gr Gk Ga Gs Gb Gg Gh
set_option linter.unusedVariables false
set_option linter.unusedSimpArgs false
set_option maxRecDepth 20000

set_option maxHeartbeats 4000000 in
theorem ragain_any (w : World) (g : G) (ka : Option Addr) (kc : Nat) (ma : Option Addr) (mc : Nat) (h : Gl w g ka kc ma mc) (hk : g.kept.length ≤ 100000000) (now mx : Int) (att : ByteArray) (l : List K) (hl : again g now mx.toNat att = l) :
    Calls Tryd.prog 15 #[.agg (gC g ka kc ma mc), .int .i64 now, .int .i64 mx, .string att] w fun e w' => ∃ a c, e = .returned (.slice a l.length c) ∧ Ls w' l a c ∧ Below w.heap.size w w' := by
  have HL := mkH h
  have HLl := mkH hl
  clear h hl
  obtain ⟨nx, kp, mk, at'⟩ := g
  simp only [gC] at hk ⊢
  have HAL := mkH ((Below.refl w.heap.size w).alloc (Nat.le_refl _) (.cells #[Value.int .i64 nx, .slice ka kp.length kc, .slice ma mk.length mc, .string at'] 25))
  have HB0 := mkH (Bx.new w #[Value.int .i64 nx, .slice ka kp.length kc, .slice ma mk.length mc, .string at'] 25)
  have hlw : w.heap.size < (w.alloc (.cells #[Value.int .i64 nx, .slice ka kp.length kc, .slice ma mk.length mc, .string at'] 25)).heap.size := by simp
  by_cases hA : att ≠ ⟨#[]⟩ ∧ att = at'
  · obtain ⟨he, rfl⟩ := hA
    have q : againL now mx.toNat kp = l := by rw [← HLl.out]; unfold again; rw [if_neg (by rintro (h | h); exact he h; exact h rfl)]; rfl
    have HQ := mkH q
    have hq := isEmpty_false he
    have hq2 : (att.toList == att.toList) = true := by simp
    clear he HLl q
    go_enter Tryd.func15, Tryd.ntmps15
    go_wp2_with fail
    generalize w.alloc (.cells #[Value.int .i64 nx, .slice ka kp.length kc, .slice ma mk.length mc, .string att] 25) = w0 at *
    go_loopw [9, 10] (fun s9 i WW => ∃ (n : Nat) (gt : List K) (ga : Option Addr) (gc : Nat), n ≤ kp.length ∧ i = .int .i64 (n : Int) ∧ s9 = .slice ga gt.length gc ∧ Hid (againL now mx.toNat (kp.take n) = gt) ∧ gt.length ≤ n ∧ Hid (WW.ownsRow w0.heap.size 61 6 (.slice ga gt.length gc) gt.length (Fk gt)) ∧ Hid (Below w0.heap.size w0 WW)) (fun _ i _ => kp.length - (intOf i).toNat)
    case atStart => exact ⟨0, [], none, 0, Nat.zero_le _, rfl, rfl, mkH (by simp [againL]), Nat.le_refl _, World.ownsRow_nil _ _ _ _, Below.refl _ _⟩
    case round =>
      obtain ⟨j, gt, ga, gc, hj, rfl, rfl, HA, hgl, HOg, HBw⟩ := hrel
      have HBx := mkH (HB0.out.bel HBw.out)
      have HBW : Hid (Below w.heap.size w wr) := HAL.out.trans (HBw.out.mono HAL.out.size)
      obtain ⟨d0, d1, d2, d3, -⟩ := HBx.out.four
      rcases Nat.lt_or_ge j kp.length with hjl | hjl
      · obtain ⟨x, hx⟩ := some_of hjl
        have h2 : (j : Int) < (kp.length : Int) := by omega
        obtain ⟨b, off, rfl, z0, z1, z2, z3, z4, z5⟩ := atK (HL.out.k.below HBW.out) hx
        have HSn := mkH (againL_snoc now mx.toNat kp j x hx)
        rw [HA.out] at HSn
        have hsw := HBw.out.size
        obtain ⟨x0, x1, x2, x3, x4, x5⟩ := x
        simp only at z0 z1 z2 z3 z4 z5
        clear hx
        by_cases hfl : now < x3
        · have HFL : Hid (fly now ⟨x0, x1, x2, x3, x4, x5⟩ = true) := by unfold Hid fly; simpa using hfl
          have t2 : decide (now < x3) = true := by simpa using hfl
          by_cases hmx : (gt.length : Int) < mx
          · have t1 : decide ((gt.length : Int) < mx) = true := by simpa using hmx
            have HMX : Hid (gt.length < mx.toNat) := by unfold Hid; omega
            have hal6 : Below wr.heap.size wr (wr.alloc (.cells #[Value.int .i64 x0, .int .i64 x1, .int .i64 x2, .int .i64 x3, .int .i64 x4, .string x5] 61)) := (Below.refl _ wr).alloc (Nat.le_refl _) _
            have HS := mkH (newK wr ⟨x0, x1, x2, x3, x4, x5⟩ 61)
            simp only [kC] at HS
            have HO6 := mkH (own_below HOg.out hal6)
            have HB6 : Hid (Below w0.heap.size w0 (wr.alloc (.cells #[Value.int .i64 x0, .int .i64 x1, .int .i64 x2, .int .i64 x3, .int .i64 x4, .string x5] 61))) := HBw.out.trans (hal6.mono hsw)
            clear hal6
            go_wp2_with (at_builtin; refine (wpList_append_own_src _ rfl (.tmp 42) (.tmp 48) 22 22 rfl w0.heap.size 61 _ 6 56 Tryd.underlying22 infoK rfl (by decide) _ gt.length (Fk gt) rfl HO6.out _ 1 (Fk [⟨x0, x1, x2, x3, x4, x5⟩]) rfl HS.out ?h63 ?hby ?hbs ?_))
            case h63 => unfold maxLen; omega
            case hby => omega
            case hbs => exact HB6.out.size
            intro v5 w6 hown hgr
            obtain ⟨l5, hl5⟩ : ∃ l5, gt ++ [(⟨x0, x1, x2, x3, x4, x5⟩ : K)] = l5 := ⟨_, rfl⟩
            have hl5l : gt.length + 1 = l5.length := by rw [← hl5]; simp
            rw [show Fk gt ++ Fk [⟨x0, x1, x2, x3, x4, x5⟩] = Fk l5 by rw [← hl5]; exact (Fl_append _ _).symm, hl5l] at hown
            obtain ⟨a5, c5, rfl⟩ := own_form hown
            have HB7 := mkH (below_own HO6.out hgr HB6.out HB6.out.size)
            have HO7 := mkH hown
            have HL5 := mkH hl5
            have HL5l := mkH hl5l
            clear hown hgr HS HO6 HB6 hl5 hl5l
            go_wp2
            go_roundw
            case rel => exact ⟨j + 1, l5, a5, c5, by omega, by go_num, rfl, by unfold Hid; rw [HSn.out, if_pos ⟨HMX.out, HFL.out⟩, HL5.out], by have := HL5l.out; omega, HO7, HB7⟩
            case measure => simp [intOf]; omega
          · have t1 : decide ((gt.length : Int) < mx) = false := by simpa using hmx
            have HMX : Hid (mx.toNat ≤ gt.length) := by unfold Hid; omega
            go_wp2
            go_roundw
            case rel => exact ⟨j + 1, gt, ga, gc, by omega, by go_num, rfl, by unfold Hid; rw [HSn.out, if_neg (by have := HMX.out; omega)], by omega, HOg, HBw⟩
            case measure => simp [intOf]; omega
        · have HFL : Hid (fly now ⟨x0, x1, x2, x3, x4, x5⟩ = false) := by unfold Hid fly; simpa using hfl
          have t2 : decide (now < x3) = false := by simpa using hfl
          go_wp2
          go_roundw
          case rel => exact ⟨j + 1, gt, ga, gc, by omega, by go_num, rfl, by unfold Hid; rw [HSn.out, if_neg (by rw [HFL.out]; simp)], by omega, HOg, HBw⟩
          case measure => simp [intOf]; omega
      · have h2 : ¬ (j : Int) < (kp.length : Int) := by omega
        have hgl2 : gt = l := by rw [← HA.out, List.take_of_length_le (by omega)]; exact HQ.out
        subst hgl2
        go_wp2
        go_ret
        exact ⟨ga, gc, rfl, ⟨RowS.own kC_len HOg.out, own_le HOg.out, own_cap HOg.out⟩, HBW⟩
  · have q : l = [] := by
      rw [← HLl.out]; unfold again; rw [if_pos]
      by_cases he : att = ⟨#[]⟩
      · exact .inl he
      · exact .inr (fun e => hA ⟨he, e⟩)
    subst q
    have HN := mkH hA
    clear HLl hA
    go_enter Tryd.func15, Tryd.ntmps15
    go_wp2_with fail
    generalize w.alloc (.cells #[Value.int .i64 nx, .slice ka kp.length kc, .slice ma mk.length mc, .string at'] 25) = w0 at *
    go_loopw [9, 10] (fun s9 i WW => ∃ (n : Nat), n ≤ kp.length ∧ i = .int .i64 (n : Int) ∧ s9 = .slice none 0 0 ∧ Hid (Below w0.heap.size w0 WW)) (fun _ i _ => kp.length - (intOf i).toNat)
    case atStart => exact ⟨0, Nat.zero_le _, rfl, rfl, Below.refl _ _⟩
    case round =>
      obtain ⟨j, hj, rfl, rfl, HBw⟩ := hrel
      have HBx := mkH (HB0.out.bel HBw.out)
      have HBW : Hid (Below w.heap.size w wr) := HAL.out.trans (HBw.out.mono HAL.out.size)
      obtain ⟨d0, d1, d2, d3, -⟩ := HBx.out.four
      rcases Nat.lt_or_ge j kp.length with hjl | hjl
      · have h2 : (j : Int) < (kp.length : Int) := by omega
        by_cases he : att = ⟨#[]⟩
        · have hq := isEmpty_true he
          clear he
          go_wp2
          go_roundw
          case rel => exact ⟨j + 1, by omega, by go_num, rfl, HBw⟩
          case measure => simp [intOf]; omega
        · have hq := isEmpty_false he
          have hq2 : (att.toList == at'.toList) = false := by rw [strEq]; simp; exact fun e => HN.out ⟨he, e⟩
          clear he
          go_wp2
          go_roundw
          case rel => exact ⟨j + 1, by omega, by go_num, rfl, HBw⟩
          case measure => simp [intOf]; omega
      · have h2 : ¬ (j : Int) < (kp.length : Int) := by omega
        go_wp2
        go_ret
        exact ⟨none, 0, rfl, Ls.nil _, HBW⟩
end Go.Proofs.YtcpmaddleleblaaDoor.Gra
