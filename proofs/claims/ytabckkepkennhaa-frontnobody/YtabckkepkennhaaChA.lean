/-
  chart's small functions: isShard, mayFollow, coverAll.
-/
import Derived.Test.YtabckkepkennhaaChR
namespace Go.Proofs.Ytabckkepkennhaa.Ca
open Go.RowKit Pl Pw Pr Pf Pv Cp Gf Gk
open Cr hiding some_of
open Kt hiding mkH
open Kv
set_option linter.unusedVariables false
set_option linter.unusedSimpArgs false
set_option maxRecDepth 20000

theorem isShard_any (w : World) (n : Int) : Calls Try.prog 61 #[.int .i64 n] w fun e w' => e = .returned (.bool (isSh n)) ∧ w' = w := by
  have e : isSh n = decide (1 ≤ n ∧ n ≤ 6) := rfl
  rw [e]
  clear e
  by_cases h1 : 1 ≤ n <;> by_cases h2 : n ≤ 6
  all_goals
    go_enter Try.func61, Try.ntmps61
    go_wp2
    go_ret
    exact ⟨by simp [h1, h2], rfl⟩

theorem follow_any (w : World) (a b c d e f : Int) : Calls Try.prog 62 #[.agg #[.int .i64 a, .int .i64 b, .int .i64 c], .agg #[.int .i64 d, .int .i64 e, .int .i64 f]] w fun x w' => x = .returned (.bool (decide (a < d ∧ ¬ c = f))) ∧ Gr w w' := by
  by_cases h1 : a < d <;> by_cases h2 : c = f
  all_goals
    go_enter Try.func62, Try.ntmps62
    go_wp2
    go_ret
    exact ⟨by simp [h1, h2], ((Gr.refl w).alloc _).alloc _⟩

set_option maxHeartbeats 2000000 in
theorem coverAll_any (w : World) (ao : Option Addr) (cap : Nat) (l : List Pc) (hr : RowP w ao l) (hl : l.length ≤ 100000) :
    Calls Try.prog 60 #[.slice ao l.length cap] w fun e w' => e = .returned (.bool (cov (l.map rg))) ∧ Below w.heap.size w w' := by
  have HR := mkH hr
  clear hr
  go_enter Try.func60, Try.ntmps60
  go_wp2
  go_loopw [3, 8] (fun u i wr => ∃ k : Nat, k ≤ l.length ∧ i = .int .i64 k ∧ Hid (Ow wr w.heap.size u ((l.take k).map rg)) ∧ Hid (Below w.heap.size w wr)) (fun _ i _ => l.length - (intOf i).toNat)
  case atStart => exact ⟨0, Nat.zero_le _, rfl, Ow.nil _ _, Below.refl _ _⟩
  case round =>
    obtain ⟨k, hk, rfl, HO, HB⟩ := hrel
    by_cases hlt : k < l.length
    · obtain ⟨x, hx⟩ := Cr.some_of hlt
      obtain ⟨b, o, rfl, c0, c1, c2⟩ := atP (HR.out.below HB.out) hx
      have hi : (k : Int) < (l.length : Int) := by omega
      have hi0 : (0 : Int) ≤ (k : Int) := by omega
      have HN : Hid ((l.take (k + 1)).map rg = (l.take k).map rg ++ [rg x]) := mkH (by rw [List.take_add_one, hx, List.map_append]; rfl)
      have hlk : ((l.take k).map rg).length ≤ k := by rw [List.length_map, List.length_take]; omega
      have HX := mkH hx
      clear hx
      have HO2 := mkH (HO.out.below (((Below.refl wr.heap.size wr).alloc (Nat.le_refl _) (.cells #[.int .i64 x.1, .int .i64 x.2.1, .int .i64 x.2.2] 97)).alloc (by simp) (.cells #[.int .i64 x.1, .int .i64 x.2.1] 29)))
      have HB2 := mkH ((HB.out.alloc HB.out.size (.cells #[.int .i64 x.1, .int .i64 x.2.1, .int .i64 x.2.2] 97)).alloc (by have := HB.out.size; simp; omega) (.cells #[.int .i64 x.1, .int .i64 x.2.1] 29))
      have HS := HB.out.size
      clear HO HB
      generalize (l.take k).map rg = L at HO2 HN hlk
      go_wp2_with (at_builtin; refine (wpList_append_own_src _ rfl (.tmp 12) (.tmp 15) 35 35 rfl w.heap.size 29 (.agg #[.int .i64 0, .int .i64 0]) 2 16 Try.underlying35 info26 rfl (by decide) _ L.length (E L) rfl HO2.out _ 1 (E [rg x]) rfl ?hsrc ?h63 ?hby ?hbs ?_))
      case hsrc => exact newR wr _ x.1 x.2.1 _
      case h63 => unfold maxLen; omega
      case hby => omega
      case hbs => simp; omega
      intro v2 w2 hown2 hgrow2
      have HB3 := mkH (below_own HO2.out hgrow2 HB2.out (by simp; omega))
      have HO3 : Hid (Ow w2 w.heap.size v2 ((l.take (k + 1)).map rg)) := mkH (by rw [HN.out]; unfold Ow; rw [E_append, List.length_append]; exact hown2)
      clear hown2 hgrow2 HO2 HB2 HN c0 c1 c2
      go_wp2
      go_roundw
      case rel => exact ⟨k + 1, by omega, by go_num, HO3, HB3⟩
      case measure => simp [intOf]; omega
    · have : k = l.length := by omega
      subst this
      rw [List.take_length] at HO
      obtain ⟨ao2, cap2, e2, hn2, hc2⟩ := HO.out.form
      rw [e2] at HO
      have HC := covers_any wr ao2 cap2 (l.map rg) HO.out.rw (by rw [List.length_map]; exact hl)
      rw [List.length_map] at e2 HC
      subst e2
      have HC := mkH HC
      clear HO HR
      go_wp2_with fail
      refine HC.out.mono ?_
      rintro e w1 ⟨rfl, hb1⟩
      go_wp2
      go_ret
      exact ⟨rfl, HB.out.trans (hb1.mono HB.out.size)⟩
end Go.Proofs.Ytabckkepkennhaa.Ca
