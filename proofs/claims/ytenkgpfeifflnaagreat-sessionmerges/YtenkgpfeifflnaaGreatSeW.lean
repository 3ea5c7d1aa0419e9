/-
  works: the chapter's example.
-/
import Derived.Test.YtenkgpfeifflnaaGreatSeD
namespace Go.Proofs.YtenkgpfeifflnaaGreat.Sw
open Go.RowKit Kt Pl Wi Wk Wa Sm Sa Sb Sc Sd
open Dk (Fr Nx)
open At (RowT)
set_option linter.unusedVariables false
set_option linter.unusedSimpArgs false
set_option maxRecDepth 20000

theorem infoPv (r : Rp) (ga : Option Addr) (gc : Nat) (da : Option Addr) (dc : Nat) (ra : Option Addr) (rc : Nat) : (Tryz.prog.info? 34).map (·.size) = some (Pv r ga gc da dc ra rc).size := infoP
def zP6 : Array Value := #[.int .i64 0, .int .i64 0, .int .i64 0, .slice none 0 0, .slice none 0 0, .slice none 0 0]
theorem sizePv (r : Rp) (ga : Option Addr) (gc : Nat) (da : Option Addr) (dc : Nat) (ra : Option Addr) (rc : Nat) : zP6.size = (Pv r ga gc da dc ra rc).size := rfl
def r3 : Rp := ⟨0, 3, 0, [], [], []⟩
theorem rpM_nil (w : World) (a b c : Int) : RpM w ⟨a, b, c, [], [], []⟩ none none none := ⟨RowS.nil _ _, fun h => by simp at h, RowS.nil _ _⟩
theorem cnt_nil (a b c : Int) : Cnt ⟨a, b, c, [], [], []⟩ := ⟨by simp, by simp, by simp⟩
theorem wl : noteE [] 1 5 = 0 := by decide
theorem wn : noteL [] 1 5 r3 = [⟨1, 5, r3⟩] := by unfold noteL; rw [wl]; rfl
theorem w5 : lookE [⟨1, 5, r3⟩] 1 5 = 0 ∧ lookK [⟨1, 5, r3⟩] 1 5 = true ∧ lookR [⟨1, 5, r3⟩] 1 5 = r3 := ⟨by decide, by decide, by unfold lookR; rw [show lookK [⟨1, 5, r3⟩] 1 5 = true by decide]; rfl⟩
theorem w4 : lookE [⟨1, 5, r3⟩] 1 4 = 16 ∧ lookK [⟨1, 5, r3⟩] 1 4 = false := ⟨by decide, by decide⟩
theorem w6 : lookE [⟨1, 5, r3⟩] 1 6 = 0 ∧ lookK [⟨1, 5, r3⟩] 1 6 = false := ⟨by decide, by decide⟩

set_option maxHeartbeats 4000000 in
theorem works_any (w : World) : Calls Tryz.prog 24 #[] w fun e w' => e = .returned (.bool true) ∧ Below w.heap.size w w' := by
  have HO : Hid (∀ r ga gc da dc ra rc, ((Pv r ga gc da dc ra rc).all (fun x => x.oneCell') = true)) := mkH Pv_one
  go_enter Tryz.func24, Tryz.ntmps24
  go_wp2_with (first
    | (refine wpList_stn rfl (ty := 34) (x := .tmp 8) (y := .tmp 35) (cs := Pv _ ga7 gc7 da7 dc7 ra7 rc7) (zs := zP6) rfl rfl rfl (infoPv _ _ _ _ _ _ _) (sizePv _ _ _ _ _ _ _) (HO.out _ _ _ _ _ _ _) (fun W8 hB8 hg8 => ?_); have HX8 := mkH (bx_bel HX7.out hg8.below); have HB8 := mkH (HB7.out.trans (hg8.below.mono HB7.out.size)); have c8 : W8.cell? ⟨W3.heap.size, 1, none⟩ = some (.int .i64 3) := HX8.out.cell 1; clear hB8 hg8)
    | (go_at_call 13; refine (look_any HT6.out 1 6).mono ?_; rintro e1 W7 ⟨ga7, gc7, da7, dc7, ra7, rc7, rfl, -, -, -, hb7⟩; rw [w6.1, w6.2]; have HX7 := mkH (bx_bel HX6.out hb7); have HB7 := mkH (HB6.out.trans (hb7.mono HB6.out.size)); clear hb7)
    | (refine wpList_stn rfl (ty := 34) (x := .tmp 5) (y := .tmp 29) (cs := Pv _ ga5 gc5 da5 dc5 ra5 rc5) (zs := zP6) rfl rfl rfl (infoPv _ _ _ _ _ _ _) (sizePv _ _ _ _ _ _ _) (HO.out _ _ _ _ _ _ _) (fun W6 hB6 hg6 => ?_); have HX6 := mkH (bx_bel HX5.out hg6.below); have HT6 := mkH (HT5.out.below hg6.below); have HB6 := mkH (HB5.out.trans (hg6.below.mono HB5.out.size)); clear hB6 hg6)
    | (go_at_call 13; refine (look_any HT4.out 1 4).mono ?_; rintro e1 W5 ⟨ga5, gc5, da5, dc5, ra5, rc5, rfl, -, -, -, hb5⟩; rw [w4.1, w4.2]; have HX5 := mkH (bx_bel HX4.out hb5); have HT5 := mkH (HT4.out.below hb5); have HB5 := mkH (HB4.out.trans (hb5.mono HB4.out.size)); clear hb5)
    | (refine wpList_stn rfl (ty := 34) (x := .tmp 2) (y := .tmp 23) (cs := Pv r3 ga3 gc3 da3 dc3 ra3 rc3) (zs := zP6) rfl rfl rfl (infoPv _ _ _ _ _ _ _) (sizePv _ _ _ _ _ _ _) (HO.out _ _ _ _ _ _ _) (fun W4 hB4 hg4 => ?_); have HX4 := mkH hB4; have HT4 := mkH (HT3.out.below hg4.below); have HB4 := mkH (HB3.out.trans (hg4.below.mono HB3.out.size)); clear hB4 hg4)
    | (go_at_call 13; refine (look_any HT2.out 1 5).mono ?_; rintro e1 W3 ⟨ga3, gc3, da3, dc3, ra3, rc3, rfl, -, -, -, hb3⟩; rw [w5.1, w5.2.1, w5.2.2]; have HT3 := mkH (HT2.out.below hb3); have HB3 := mkH (HB2.out.trans (hb3.mono HB2.out.size)); clear hb3)
    | (go_at_call 8; refine (note_any HT1.out 1 5 r3 none 0 none 0 none 0 (rpM_nil _ _ _ _) (cnt_nil _ _ _)).mono ?_; rintro e1 W2 ⟨rfl, ⟨F2, ht2, hf2⟩, hfr2⟩; rw [wl]; rw [wn] at ht2; have HT2 := mkH ht2; have HB2 := mkH (HB1.out.trans (hfr2.below (fun k hk => Nat.le_of_eq hk.symm) HB1.out.size)); clear ht2 hf2 hfr2)
    | (go_at_call 6; refine (new_any _).mono ?_; rintro e1 W1 ⟨rfl, ht1, hb1⟩; have HT1 := mkH ht1; have HB1 := mkH hb1; clear ht1 hb1))
  go_ret
  exact ⟨rfl, HB8.out⟩
end Go.Proofs.YtenkgpfeifflnaaGreat.Sw
