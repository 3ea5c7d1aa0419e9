/-
  A map of votes in memory: what it reads as, and its laws in plain words; a map as a set of numbers.
-/
import Derived.Test.YtaainjkhenenoaaB9P
import Derived.Test.YtaainjkhenenoaaDiK
import Derived.Maps.RangeWalk
import Derived.Maps.Ext
namespace Go.Proofs.Ytaainjkhenenoaa.Bm
open Go.RowKit Kt Dk Bp Go.Maps Go.ChangeMaps
set_option linter.unusedVariables false
set_option maxRecDepth 20000

def vC (x : X) : List Value := [.int .i64 x.s, .int .i64 x.b, .slice x.a x.v.length x.c]
theorem vC_len (x : X) : (vC x).length = 3 := rfl
theorem vC_one (x : X) : ∀ u ∈ vC x, u.oneCell' = true := by
  intro u hu
  simp only [vC, List.mem_cons, List.not_mem_nil, or_false] at hu
  rcases hu with rfl | rfl | rfl <;> rfl
def vV (x : X) : Value := .agg #[.int .i64 x.s, .int .i64 x.b, .slice x.a x.v.length x.c]
/-- How a vote reads: as itself. -/
def vE (v : Value) : Option (DataW Value × List MemPlace) := some (.held v, [])
def vD (x : X) : DataW Value := .held (vV x)
theorem vE_mk (x : X) : vE (vV x) = some (vD x, []) := rfl
theorem vE_is {v : Value} {x : X} {ps : List MemPlace} (h : vE v = some (vD x, ps)) : v = vV x := by
  simp only [vE, vD, Option.some.injEq, Prod.mk.injEq, DataW.held.injEq] at h
  exact h.1
def kL (k : Int) : Lit := .int .i64 k
def eD (p : X) : Lit × DataW Value := (kL p.s, vD p)
def Dm (l : List X) : DataW Value := .map (l.map eD)
theorem kL_inj {a b : Int} (h : kL a = kL b) : a = b := by simpa only [kL, Lit.int.injEq, true_and] using h
theorem kL_key (a : Int) : WideAt.IsKeyLit (kL a) := trivial
theorem kL_same (a b : Int) : (kL a).sameKey (kL b) = decide (a = b) := by
  by_cases h : a = b
  · subst h; rw [WideAt.sameKey_self (kL_key a)]; simp
  · rw [sameKey_ne (fun e => h (kL_inj e))]; simp [h]
theorem kL_before (a b : Int) : (kL a).before (kL b) = decide (a < b) := by
  simp only [kL, Lit.before]
theorem insert_put (l : List X) (hs : Srt l) (x : X) : putKey (kL x.s) (vD x) (l.map eD) = (put l x).map eD := by
  unfold putKey
  induction l with
  | nil => simp [put, DataW.insert, eD]
  | cons q l ih =>
    obtain ⟨h1, h2⟩ := List.pairwise_cons.1 hs
    have e1 : notKey (kL x.s) (eD q) = !decide (q.s = x.s) := by simp only [notKey, eD, kL_same]
    have hall : ∀ (hle : x.s ≤ q.s), (l.map eD).filter (notKey (kL x.s)) = l.map eD := fun hle => by
      refine List.filter_eq_self.2 (fun p hp => ?_)
      obtain ⟨u, hu, rfl⟩ := List.mem_map.1 hp
      have := h1 u hu
      simp only [notKey, eD, kL_same]
      simp; omega
    rw [List.map_cons, List.filter_cons, e1, put]
    by_cases ha : x.s = q.s
    · rw [if_neg (by simp [ha]), if_neg (by omega), if_pos ha, hall (by omega)]
      cases l with
      | nil => rfl
      | cons p l =>
        have := h1 p (by simp)
        simp only [List.map_cons, DataW.insert, eD, kL_before]
        rw [if_pos (by simp; omega)]
    · rw [if_pos (by simp; omega)]
      by_cases hk : x.s < q.s
      · rw [if_pos hk, hall (by omega)]
        simp only [DataW.insert, eD, kL_before, List.map_cons]
        rw [if_pos (by simpa using hk)]
      · rw [if_neg hk, if_neg ha]
        simp only [DataW.insert, eD, kL_before]
        rw [if_neg (by simpa using hk)]
        simp only [List.map_cons, eD]
        rw [← ih h2]
theorem Dm_put {l : List X} (hs : Srt l) (x : X) : (Dm l).put (kL x.s) (vD x) = Dm (put l x) := by
  unfold Dm; rw [DataW.put_eq, insert_put l hs]
theorem Dm_has (l : List X) (k : Int) : Maps.has (Dm l) (kL k) = (atX l k).isSome := by
  unfold Dm
  rw [Maps.has_eq]
  induction l with
  | nil => simp [atX]
  | cons q l ih =>
    rw [List.map_cons, List.any_cons, ih, atX]
    simp only [eD, kL_same]
    by_cases h : q.s = k <;> simp [h]
theorem Dm_at (l : List X) (k : Int) (z : DataW Value) : (Dm l).atKey (kL k) z = match atX l k with | none => z | some v => vD v := by
  unfold Dm
  induction l with
  | nil => simp [atX, DataW.atKey]
  | cons q l ih =>
    simp only [DataW.atKey, List.map_cons, List.find?_cons] at ih ⊢
    simp only [eD, kL_same, atX]
    by_cases h : q.s = k
    · simp [h]
    · simp only [h, decide_false, if_false]
      exact ih
theorem Dm_size (l : List X) : Maps.size (Dm l) = l.length := by unfold Dm; rw [Maps.size_eq]; simp

/-- Block b is a map that has this. -/
def Mw (w : World) (b : Nat) (l : List X) : Prop := w.ownsMap Try.prog 3 vE b l.length (Dm l)
theorem law : Keyed Try.prog 3 := int_keyed Try.underlying3
theorem hkey {k : Int} (h : (Lit.int .i64 k).wf = true) : keyOf Try.prog 3 (.int .i64 k) = some (kL k) := keyOf_int_mk Try.underlying3 h
theorem tight {w : World} {b n : Nat} {l : List X} (h : w.ownsMap Try.prog 3 vE b n (Dm l)) : Mw w b l := by
  obtain ⟨es, clock, hb, F, hs, hD⟩ := h
  have h1 := congrArg Maps.size hD
  rw [Dm_size] at h1
  simp only [Maps.size, Go.length_sorted, List.length_map, Array.length_toList] at h1
  exact ⟨es, clock, hb, F, by omega, hD⟩
theorem Mw.fr {w w' : World} {Q : Nat → Prop} {b : Nat} {l : List X} (h : Mw w b l) (hf : Fr Q w w') (hq : ¬ Q b) : Mw w' b l := by
  have hlt := h.lt
  obtain ⟨es, clock, hb, r⟩ := h
  exact ⟨es, clock, (hf.heap hlt hq).trans hb, r⟩
theorem Mw.below {w w' : World} {b : Nat} {l : List X} (h : Mw w b l) (hb : Below w.heap.size w w') : Mw w' b l := h.fr (Q := fun _ => False) (Fr.ofBelow hb) (fun x => x)
theorem Mw.made (w : World) : Mw (w.alloc (.map #[] 0)) w.heap.size [] := World.ownsMap_made w _ _ _
theorem fr_turned {w w' : World} {b : Nat} (h : w.mapTurned w' b) : Fr (fun k => k = b) w w' := by
  have h := h.grown
  exact ⟨h.os, h.tape, h.output, h.size, fun k hk hn => h.block k hk (fun e => hn (Option.some.inj e))⟩
theorem fr_by {w w' : World} {row : Option Nat} (h : w.grownBy w' row) : Fr (fun k => row = some k) w w' :=
  ⟨h.os, h.tape, h.output, h.size, fun k hk hn => h.block k hk (fun e => hn e.symm)⟩
theorem zeroV (w : World) : (zeroValue 38).run Try.prog w = .ok (vV ⟨0, 0, [], none, 0⟩) w := by kernel_rfl
/-- 'old, has := best[k]'. -/
theorem look2 {W : World} {b : Nat} {l : List X} (h : Mw W b l) {k : Int} (hk : (Lit.int .i64 k).wf = true) : ∃ v : X, (Instr.lookup 52 (.map (some b)) (.int .i64 k) true).run Try.prog W = .ok (.tuple #[.agg #[.int .i64 v.s, .int .i64 v.b, .slice v.a v.v.length v.c], .bool (atX l k).isSome]) W ∧ ∀ u, atX l k = some u → v = u := by
  obtain ⟨v, ps, hrun, hv⟩ := World.ownsMap.look_ok h law Try.underlying52 (zeroV W) (vE_mk _) (hkey hk)
  rw [Dm_at] at hv
  rw [Dm_has] at hrun
  cases ha : atX l k with
  | none =>
    rw [ha] at hv hrun
    have := vE_is hv
    subst this
    exact ⟨⟨0, 0, [], none, 0⟩, hrun, fun u hu => by cases hu⟩
  | some u =>
    rw [ha] at hv hrun
    have := vE_is hv
    subst this
    exact ⟨u, hrun, fun z hz => by cases hz; rfl⟩
/-- 'best[k]' of a slot that is in it. -/
theorem look1 {W : World} {b : Nat} {l : List X} (h : Mw W b l) {k : Int} {u : X} (hk : (Lit.int .i64 k).wf = true) (ha : atX l k = some u) : (Instr.lookup 52 (.map (some b)) (.int .i64 k) false).run Try.prog W = .ok (.agg #[.int .i64 u.s, .int .i64 u.b, .slice u.a u.v.length u.c]) W := by
  obtain ⟨v, ps, hrun, hv⟩ := World.ownsMap.lookup h law Try.underlying52 (zeroV W) (vE_mk _) (hkey hk)
  rw [Dm_at, ha] at hv
  have := vE_is hv
  subst this
  exact hrun
/-- 'best[x.Slot] = x'. -/
theorem store1 {W : World} {b : Nat} {l : List X} (h : Mw W b l) (hs : Srt l) (hl : l.length ≤ 1000000000) (x : X) (hk : (Lit.int .i64 x.s).wf = true) :
    ∃ W', (Instr.mapUpdate 52 (.map (some b)) (.int .i64 x.s) (.agg #[.int .i64 x.s, .int .i64 x.b, .slice x.a x.v.length x.c])).run Try.prog W = .ok () W' ∧ Mw W' b (put l x) ∧ Fr (fun k => k = b) W W' := by
  obtain ⟨w5, hrun, hown5, hturn⟩ := World.ownsMap.store h law Try.underlying52 (by unfold maxLen; omega) (hkey hk) (vE_mk x)
  rw [Dm_put hs] at hown5
  exact ⟨w5, hrun, tight hown5, fr_turned hturn⟩
end Go.Proofs.Ytaainjkhenenoaa.Bm
