/-
  The small functions of checks: judge, upTo, fit, shortData, rightReceipt, May.
-/
import Derived.Test.YtenkgpfeifflnaaGreatWiK
namespace Go.Proofs.YtenkgpfeifflnaaGreat.Wc
open Go.RowKit Kt Pl Wi Wk
open At (RowT)
set_option linter.unusedVariables false
set_option maxRecDepth 20000

theorem judge_any (w : World) (a b : Bool) : Calls Tryz.prog 99 #[.bool a, .bool b] w fun e w' => e = .returned (.int .i64 (judge a b : Int)) ∧ w' = w := by
  have hnot : ∀ (x : Bool) (w : World), (Op.unary .not (.bool x)).run Tryz.prog w = .ok (.bool (!x)) w := fun _ _ => rfl
  cases a <;> cases b
  all_goals
    go_enter Tryz.func99, Tryz.ntmps99
    go_wp2
    go_ret
    exact ⟨rfl, rfl⟩

set_option maxHeartbeats 400000 in
theorem upTo1_any (w : World) (n lim : Int) (p : Addr) (hc : w.cell? p = some (.int .i64 lim)) :
    Calls Tryz.prog 142 #[.int .i64 n, .pointer (some p)] w fun e w' => e = .returned (.bool (upToB lim n)) ∧ w' = w := by
  by_cases h0 : 0 ≤ n
  · have HE : Hid (upToB lim n = decide (n ≤ lim)) := mkH (by simp [upToB, h0])
    go_enter Tryz.func142, Tryz.ntmps142
    go_wp2
    go_ret
    exact ⟨ret_bool HE.out.symm, rfl⟩
  · have HE : Hid (upToB lim n = false) := mkH (by simp [upToB, h0])
    go_enter Tryz.func142, Tryz.ntmps142
    go_wp2
    go_ret
    exact ⟨ret_bool HE.out.symm, rfl⟩

set_option maxHeartbeats 1000000 in
theorem eachI_any (w : World) (ao : Option Addr) (cap : Nat) (l : List Int) (hr : RowI w ao l) (hlen : l.length ≤ 1000000) (p : Addr) (lim : Int) (hc : w.cell? p = some (.int .i64 lim)) :
    Calls Tryz.prog 141 #[.slice ao l.length cap, .func (Fn.func 142) #[] #[.pointer (some p)]] w fun e w' => e = .returned (.bool (l.all (upToB lim))) ∧ w' = w := by
  have HC := mkH hc
  clear hc
  go_enter Tryz.func141, Tryz.ntmps141
  go_wp2
  go_loop [6, 9] (fun _ i => ∃ k : Nat, k ≤ l.length ∧ i = .int .i64 k ∧ Hid ((l.take k).all (upToB lim) = true)) (fun _ i => l.length - (intOf i).toNat)
  case atStart => exact ⟨0, Nat.zero_le _, rfl, mkH (by simp)⟩
  case round =>
    obtain ⟨k, hk, rfl, HA⟩ := hrel
    by_cases hlt : k < l.length
    · obtain ⟨b, off, hao, hcl⟩ := hr (by omega)
      obtain ⟨x, hx⟩ : ∃ x, l[k]? = some x := ⟨_, List.getElem?_eq_getElem hlt⟩
      have hck : w.cell? ⟨b, off + k, none⟩ = some (.int .i64 x) := by rw [hcl k hlt, getD_of hx]
      subst hao
      have HX := mkH hx
      clear hcl hx hr
      have H := upTo1_any w x lim p HC.out
      cases hb : upToB lim x
      · rw [hb] at H
        have HE : Hid (l.all (upToB lim) = false) := mkH (all_false HX.out hb)
        clear hb HX
        go_wp2_with fail
        refine H.mono ?_
        rintro e w1 ⟨rfl, rfl⟩
        clear H
        go_wp2
        go_ret
        exact ⟨ret_bool HE.out.symm, rfl⟩
      · rw [hb] at H
        have HN : Hid ((l.take (k + 1)).all (upToB lim) = true) := mkH (by rw [all_take _ _ _ _ HX.out, HA.out, hb]; rfl)
        clear hb HX HA
        go_wp2_with fail
        refine H.mono ?_
        rintro e w1 ⟨rfl, rfl⟩
        clear H
        go_wp2
        go_round
        case rel => exact ⟨k + 1, by omega, by go_num, HN⟩
        case measure => simp [intOf]; omega
    · have HE : Hid (l.all (upToB lim) = true) := mkH (by have := HA.out; rwa [List.take_of_length_le (by omega)] at this)
      clear HA
      go_wp2
      go_ret
      exact ⟨ret_bool HE.out.symm, rfl⟩
end Go.Proofs.YtenkgpfeifflnaaGreat.Wc
