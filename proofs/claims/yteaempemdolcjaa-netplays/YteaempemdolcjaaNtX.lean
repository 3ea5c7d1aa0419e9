/-
  The document's At; the walk of NetAt; lists of numbers that came in.
-/
import Derived.Test.YteaempemdolcjaaNtW
namespace Go.Proofs.Yteaempemdolcjaa.Nx
open Go.RowKit Kt Gf Nr Gk Nw
set_option linter.unusedVariables false
set_option linter.unusedSimpArgs false
set_option maxRecDepth 20000

theorem rat_any (n s : Int) (hs : s ≤ 9223372036854775807) (w : World) : Calls Try.prog 25 #[.int .i64 n, .int .i64 s] w fun e w' => e = .returned (.int .i64 (atM n s)) ∧ w' = w := by
  by_cases h : s < 1
  · have HA := mkH (atM_zero (n := n) h)
    go_enter Try.func25, Try.ntmps25
    go_wp2
    go_ret
    exact ⟨by rw [HA.out]; rfl, rfl⟩
  · have hb := tmod_bd n s (by omega)
    have h0 : ¬ s = 0 := by omega
    by_cases hn : n.tmod s < 0
    · have HA := mkH (atM_neg (by omega) hn)
      have hw : IntKind.i64.wrap (n.tmod s + s) = n.tmod s + s := IntWalk.i64_in _ (by omega)
      go_enter Try.func25, Try.ntmps25
      go_wp2
      go_ret
      exact ⟨by rw [HA.out]; rfl, rfl⟩
    · have HA := mkH (atM_pos (by omega) hn)
      go_enter Try.func25, Try.ntmps25
      go_wp2
      go_ret
      exact ⟨by rw [HA.out]; rfl, rfl⟩


set_option maxHeartbeats 1000000 in
theorem at_walk (n s : Int) (hs : s ≤ 9223372036854775807) (w : World) : Calls Try.prog 4 #[.int .i64 n, .int .i64 s] w fun e w' => e = .returned (.bool true) ∧ Below w.heap.size w w' := by
  by_cases h : s < 1
  · have h0 : ¬ 0 < s := by omega
    have ha := at_any n s hs
    have hr := rat_any n s hs
    generalize atM n s = m at ha hr
    clear hs
    go_enter Try.func4, Try.ntmps4
    go_wp2_with (first
      | (go_at_call 14; refine (ha _).mono ?_; rintro e w1 ⟨rfl, rfl⟩)
      | (go_at_call 25; refine (hr _).mono ?_; rintro e w1 ⟨rfl, rfl⟩)
      | (go_at_call 24; refine (works_any _).mono ?_; rintro e w1 ⟨rfl, hb⟩))
    go_ret
    exact ⟨rfl, hb⟩
  · have h0 : 0 < s := by omega
    obtain ⟨b1, b2⟩ := atM_in n h0
    have b3 : ¬ atM n s < 0 := by omega
    have b4 : ¬ s ≤ atM n s := by omega
    have ha := at_any n s hs
    have hr := rat_any n s hs
    generalize atM n s = m at ha hr b1 b2 b3 b4
    clear h
    go_enter Try.func4, Try.ntmps4
    go_wp2_with (first
      | (go_at_call 14; refine (ha _).mono ?_; rintro e w1 ⟨rfl, rfl⟩)
      | (go_at_call 25; refine (hr _).mono ?_; rintro e w1 ⟨rfl, rfl⟩)
      | (go_at_call 24; refine (works_any _).mono ?_; rintro e w1 ⟨rfl, hb⟩))
    go_ret
    exact ⟨rfl, hb⟩

theorem bnd_i64 {n : Int} (h : (Lit.int .i64 n).wf = true) : -9223372036854775808 ≤ n ∧ n ≤ 9223372036854775807 := by
  have := bounds_i64 h
  omega
/-- Numbers that came in. -/
theorem isRow_E {w : World} {a : Option Addr} {len cap : Nat} {zs : List Int} (h : IsRow .i64 w a len cap zs) : ∃ l : List Int, l.length = len ∧ len ≤ cap ∧ cap ≤ 9223372036854775807 ∧ Na.RowE w a l ∧ (∀ x ∈ l, -9223372036854775808 ≤ x ∧ x ≤ 9223372036854775807) ∧ (∀ x, a = some x → 0 < cap → x.block < w.heap.size) := by
  rcases h with ⟨rfl, rfl, rfl, rfl⟩ | ⟨x, rfl, hl, hm, hz, hcell, hwz⟩
  · exact ⟨[], rfl, Nat.le_refl _, by omega, Na.RowE.nil _ _, by simp, by simp⟩
  · refine ⟨zs.take len, by rw [List.length_take]; omega, hl, by unfold maxLen at hm; omega, fun h0 => ?_, fun y hy => bnd_i64 (hwz y (List.mem_of_mem_take hy)), ?_⟩
    · rw [List.length_take] at h0
      obtain ⟨b, off, spot⟩ := x
      have hc0 := hcell 0 (by omega)
      have hspot : spot = none := by simpa [Addr.add] using World.cell?_spot hc0
      subst hspot
      refine ⟨b, off, rfl, fun i y hy => ?_⟩
      have hi := lt_of hy
      rw [List.length_take] at hi
      have hc := hcell i (by omega)
      have hp : (⟨b, off, none⟩ : Addr).add i = ⟨b, off + i, none⟩ := by unfold Addr.add; split <;> simp_all
      rw [hp] at hc
      rw [hc]
      rw [List.getElem?_take, if_pos (by omega)] at hy
      simp [List.getD, hy]
    · intro y hy hc
      cases hy
      have hc0 := hcell 0 (by omega)
      obtain ⟨b, off, spot⟩ := x
      have hspot : spot = none := by simpa [Addr.add] using World.cell?_spot hc0
      subst hspot
      have := World.block_lt_of_cell? w _ hc0
      simpa [Addr.add] using this
end Go.Proofs.Yteaempemdolcjaa.Nx
