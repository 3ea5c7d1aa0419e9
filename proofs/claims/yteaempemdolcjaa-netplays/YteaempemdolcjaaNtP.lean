/-
  alike, of lists that are alike; rows of numbers of the call's own.
-/
import Derived.Test.YteaempemdolcjaaNtO
import Derived.Test.YteaempemdolcjaaNtX
import Derived.BigQuiet
namespace Go.Proofs.Yteaempemdolcjaa.Np
open Go.RowKit Kt Gf Nr Gk Na Nx No
set_option linter.unusedVariables false
set_option linter.unusedSimpArgs false
set_option maxRecDepth 20000

theorem Iv_append (a b : List Int) : Iv (a ++ b) = Iv a ++ Iv b := by simp [Iv]
theorem Iv_one (l : List Int) : ∀ u ∈ Iv l, u.oneCell' = true := by
  intro u hu
  simp only [Iv, List.mem_map] at hu
  obtain ⟨x, _, rfl⟩ := hu
  rfl
/-- A row of numbers of the call's own, as it is read. -/
theorem RowE.own {w : World} {base n cap : Nat} {ao : Option Addr} {l : List Int} (h : w.ownsRow base 3 1 (.slice ao n cap) n (Iv l)) : n = l.length ∧ RowE w ao l := by
  have hn : n = l.length := by have := h.1; rw [Iv_len] at this; omega
  subst hn
  refine ⟨rfl, fun hl => ?_⟩
  rcases h.2 with ⟨e1, e2⟩ | ⟨g, c, cur, e1, _, hg, _, _, _, ht⟩
  · omega
  · simp only [Value.slice.injEq] at e1
    obtain ⟨rfl, _, rfl⟩ := e1
    refine ⟨g, 0, rfl, fun i x hx => ?_⟩
    have := World.ownsRow.cellAt h i (by have := lt_of hx; omega)
    rw [Nat.zero_add, this]
    simp [Iv, hx]
theorem RowE.src {w : World} {ao : Option Addr} {l : List Int} (h : RowE w ao l) (c : Nat) : Src Try.prog 1 28 (.slice ao l.length c) l.length (Iv l) w := by
  by_cases h0 : 0 < l.length
  · obtain ⟨b, off, rfl, hc⟩ := h h0
    refine Src.ofSlice w Try.underlying28 _ _ c _ (by simp [Iv]) (fun j u hj => ?_) (Iv_one l)
    unfold Iv at hj
    rw [List.getElem?_map] at hj
    obtain ⟨x, hx, rfl⟩ := Option.map_eq_some_iff.1 hj
    rw [Addr.add_lit]
    exact hc j x hx
  · have e : l = [] := List.eq_nil_of_length_eq_zero (by omega)
    subst e
    cases ao with
    | none => exact Src.ofNil w Try.underlying28 c
    | some a => exact Src.ofSlice w Try.underlying28 a 0 c [] (by simp) (fun j u hj => by simp at hj) (fun u hu => by cases hu)
theorem RowE.take {w : World} {ao : Option Addr} {l : List Int} (h : RowE w ao l) (k : Nat) : RowE w ao (l.take k) := by
  intro hl
  rw [List.length_take] at hl
  obtain ⟨b, off, e, hc⟩ := h (by omega)
  exact ⟨b, off, e, fun i r hr => hc i r (by rw [List.getElem?_take] at hr; split at hr; exact hr; cases hr)⟩
/-- What is behind a cut. -/
theorem RowE.drop {w : World} {ao : Option Addr} {l : List Int} (h : RowE w ao l) (c k : Nat) (hc : l.length ≤ c) : RowE w (Ns.ad ao c k 1) (l.drop k) := by
  intro hl
  rw [List.length_drop] at hl
  obtain ⟨b, off, rfl, hh⟩ := h (by omega)
  refine ⟨b, off + k, ?_, fun i x hx => ?_⟩
  · unfold Ns.ad; rw [if_neg (by omega)]; show some ((⟨b, off, none⟩ : Addr).add (k * 1)) = _; rw [Addr.add_lit, Nat.mul_one]
  · rw [List.getElem?_drop] at hx
    have := hh (k + i) x hx
    rw [← Nat.add_assoc] at this
    exact this

set_option maxHeartbeats 1000000 in
theorem alike_eq (w : World) (a0 a1 : Option Addr) (cap0 cap1 : Nat) (l : List Int) (h0 : RowE w a0 l) (h1 : RowE w a1 l) (hl : l.length ≤ 1000000) (hc0 : l.length ≤ cap0) (hc1 : l.length ≤ cap1) :
    Calls Try.prog 21 #[.slice a0 l.length cap0, .slice a1 l.length cap1] w fun e w' => e = .returned (.bool true) ∧ ∃ n, w' = w.drewN n := by
  obtain ⟨n, hn⟩ : ∃ n, n = l.length := ⟨_, rfl⟩
  have HN := mkH hn
  have H0 := mkH h0
  have H1 := mkH h1
  rw [← hn] at hl hc0 hc1 ⊢
  clear hn h0 h1
  go_enter Try.func21, Try.ntmps21
  go_wp2
  go_loopw [13] (fun i wr => ∃ k : Nat, k ≤ n ∧ i = .int .i64 k ∧ ∃ q, wr = w.drewN q) (fun i _ => n - (intOf i).toNat)
  case atStart => exact ⟨0, Nat.zero_le _, rfl, 0, rfl⟩
  case round =>
    obtain ⟨k, hk, rfl, q, rfl⟩ := hrel
    by_cases hlt : k < n
    · obtain ⟨x, hx⟩ := some_of (l := l) (i := k) (by rw [← HN.out]; exact hlt)
      have hp : 0 < l.length := by rw [← HN.out]; omega
      obtain ⟨b0, o0, rfl, e0⟩ := H0.out hp
      obtain ⟨b1, o1, rfl, e1⟩ := H1.out hp
      have c0 : w.cell? ⟨b0, o0 + k, none⟩ = some (.int .i64 x) := e0 k x hx
      have c1 : w.cell? ⟨b1, o1 + k, none⟩ = some (.int .i64 x) := e1 k x hx
      have hlt2 : (k : Int) < (n : Int) := by omega
      clear e0 e1 hx hp
      go_wp2_with fail
      go_quiet (fail)
      go_wp2
      go_roundw
      case rel => exact ⟨k + 1, by omega, by go_num, _, rfl⟩
      case measure => simp [intOf]; omega
    · go_wp2
      go_ret
      exact ⟨rfl, q, rfl⟩
end Go.Proofs.Yteaempemdolcjaa.Np
