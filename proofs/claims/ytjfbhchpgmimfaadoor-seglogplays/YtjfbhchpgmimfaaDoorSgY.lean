/-
  'alike' of the laws of layer 7: two rows of slices of bytes.
-/
import Derived.Test.YtjfbhchpgmimfaaDoorSgX
namespace Go.Proofs.YtjfbhchpgmimfaaDoor.Sy
open Go.RowKit Kt Cs Cf Cv Ck Ca Dk Dp Da Db Dc Dd De Sq Sr Sa Sb Sc Se Sf Sk Sm St Su Sv Pl Sx
set_option linter.unusedVariables false
set_option maxRecDepth 20000

/-- A slice of slices of bytes, as it is read: the bytes of each. -/
def Rr (w : World) (ao : Option Addr) (l : List (List UInt8)) : Prop := 0 < l.length → ∃ b off, ao = some ⟨b, off, none⟩ ∧ ∀ i bs, l[i]? = some bs → ∃ xa xc, w.cell? ⟨b, off + i, none⟩ = some (.slice xa bs.length xc) ∧ Row w xa bs
theorem Rr.at {w : World} {ao : Option Addr} {l : List (List UInt8)} (h : Rr w ao l) (i : Nat) (hi : i < l.length) : ∃ b off xa xc bs, ao = some ⟨b, off, none⟩ ∧ l[i]? = some bs ∧ w.cell? ⟨b, off + i, none⟩ = some (.slice xa bs.length xc) ∧ Row w xa bs := by
  obtain ⟨b, off, e, hc⟩ := h (by omega)
  obtain ⟨xa, xc, h1, h2⟩ := hc i l[i] (List.getElem?_eq_getElem hi)
  exact ⟨b, off, xa, xc, l[i], e, List.getElem?_eq_getElem hi, h1, h2⟩
theorem Rr.below {w w' : World} {ao : Option Addr} {l : List (List UInt8)} (h : Rr w ao l) (hb : Below w.heap.size w w') : Rr w' ao l := fun h0 => by
  obtain ⟨b, off, e, hc⟩ := h h0
  refine ⟨b, off, e, fun i bs hi => ?_⟩
  obtain ⟨xa, xc, h1, h2⟩ := hc i bs hi
  exact ⟨xa, xc, by rw [hb.cell (p := ⟨b, off + i, none⟩) (World.block_lt_of_cell? w _ h1)]; exact h1, h2.below hb⟩
theorem Ol.rr {lo : Nat} {w : World} {a : Option Addr} {n c : Nat} {l : List Bx} (h : Ol lo w (.slice a n c) l) : Rr w a (l.map (·.bs)) := fun h0 => by
  rw [List.length_map] at h0
  rcases h.own.2 with ⟨_, x⟩ | ⟨g, c', cur, e, e2, e3, e4⟩
  · omega
  · simp only [Value.slice.injEq] at e
    obtain ⟨rfl, rfl, rfl⟩ := e
    refine ⟨g, 0, rfl, fun i bs hi => ?_⟩
    rw [List.getElem?_map] at hi
    obtain ⟨x, hx, rfl⟩ := Option.map_eq_some_iff.1 hi
    have := h.own.cells (g := g) rfl i (.slice x.ao x.bs.length x.cap) (by simp [Bv, hx])
    rw [Addr.add_lit] at this
    exact ⟨x.ao, x.cap, this, (h.ok x (List.mem_of_getElem? hx)).1⟩
theorem Rr.take {w : World} {ao : Option Addr} {l : List (List UInt8)} (h : Rr w ao l) (k : Nat) : Rr w ao (l.take k) := fun h0 => by
  rw [List.length_take] at h0
  obtain ⟨b, off, e, hc⟩ := h (by omega)
  exact ⟨b, off, e, fun i bs hi => hc i bs (by rw [List.getElem?_take] at hi; split at hi; exact hi; cases hi)⟩
theorem Rr.drop {w : World} {b off : Nat} {l : List (List UInt8)} (h : Rr w (some ⟨b, off, none⟩) l) (k : Nat) : Rr w (some ⟨b, off + k, none⟩) (l.drop k) := fun h0 => by
  rw [List.length_drop] at h0
  obtain ⟨b', off', e, hc⟩ := h (by omega)
  simp only [Option.some.injEq, Addr.mk.injEq] at e
  obtain ⟨rfl, rfl, -⟩ := e
  exact ⟨b, off + k, rfl, fun i bs hi => by rw [Nat.add_assoc]; exact hc (k + i) bs (by rw [List.getElem?_drop] at hi; exact hi)⟩

set_option maxHeartbeats 2000000 in
theorem alike_any (w : World) (a1 a2 : Option Addr) (c1 c2 : Nat) (l : List (List UInt8)) (h1 : Rr w a1 l) (h2 : Rr w a2 l) (hl : l.length ≤ 1000000) :
    Calls Tryd.prog 16 #[.slice a1 l.length c1, .slice a2 l.length c2] w fun e w' => e = .returned (.bool true) ∧ Below w.heap.size w w' := by
  have H1 := mkH h1
  have H2 := mkH h2
  clear h1 h2
  go_enter Tryd.func16, Tryd.ntmps16
  go_wp2_with fail
  go_loopw [13] (fun i W => ∃ j : Nat, j ≤ l.length ∧ i = .int .i64 j ∧ Hid (Below w.heap.size w W)) (fun i _ => l.length - (intOf i).toNat)
  case atStart => exact ⟨0, by omega, rfl, Below.refl _ _⟩
  case round =>
    obtain ⟨j, hj, rfl, HB⟩ := hrel
    by_cases hj1 : j = l.length
    · subst hj1
      clear H1 H2
      go_wp2_with fail
      go_ret
      exact ⟨rfl, HB.out⟩
    · obtain ⟨b1, o1, xa1, xc1, bs, rfl, hb1, k1, r1⟩ := (H1.out.below HB.out).at j (by omega)
      obtain ⟨b2, o2, xa2, xc2, bs', rfl, hb2, k2, r2⟩ := (H2.out.below HB.out).at j (by omega)
      rw [hb1] at hb2
      cases hb2
      have hjl : j < l.length := by omega
      have s1 := fun q => run_string (P := Tryd.prog) (dst := 9) Tryd.underlying30 Tryd.underlying5 Tryd.underlying9 (r1.below (below_drewN (Below.refl _ _) q)) xc1
      have s2 := fun q => run_string (P := Tryd.prog) (dst := 9) Tryd.underlying30 Tryd.underlying5 Tryd.underlying9 (r2.below (below_drewN (Below.refl _ _) q)) xc2
      generalize S bs = str at *
      clear r1 r2 hb1 hj1 H1 H2
      go_wp2_with fail
      go_quiet (fail)
      go_wp2_with fail
      exact ⟨⟨j + 1, by omega, by go_num, below_drewN HB.out _⟩, by simp [intOf]; omega⟩
end Go.Proofs.YtjfbhchpgmimfaaDoor.Sy
