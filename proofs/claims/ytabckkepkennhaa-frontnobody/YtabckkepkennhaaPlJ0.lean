/-
  The library's sort by a function that compares Lo: a row of ranges, rising.
-/
import Derived.Test.YtabckkepkennhaaPlA
namespace Go.Proofs.Ytabckkepkennhaa.Pj
open Go.RowKit Pl Pw Pr Pf Pg Pa Go.Shelf Go.Sort
open Kt hiding mkH
set_option linter.unusedVariables false
set_option maxRecDepth 20000

def cf (x y : Rg) : Int := Lib.compareInt x.1 y.1

set_option maxHeartbeats 1000000 in
/-- 'cmp.Compare(a.Lo, b.Lo)': two blocks are laid. -/
theorem less_any (x y : Rg) (W : World) : Calls Try.prog 90 #[.agg #[.int .i64 x.1, .int .i64 x.2], .agg #[.int .i64 y.1, .int .i64 y.2]] W fun e w' => e = .returned (.int .i64 (Lib.compareInt x.1 y.1)) ∧ ∃ q os', w' = grow (W.drewN q) os' := by
  have hcon := fun W' => AnyG.cmp_Compare_int Sh.lcmp x.1 y.1 W'
  change ∀ W', Calls Try.prog 91 _ _ _ at hcon
  generalize Lib.compareInt x.1 y.1 = r at hcon ⊢
  go_enter Try.func90, Try.ntmps90
  go_wp2_with (go_at_call 91; refine (hcon _).mono ?_; rintro e w' ⟨rfl, rfl⟩)
  go_ret
  exact ⟨rfl, 0, _, by rw [alloc_eq_grow, alloc_eq_grow, grow_grow]; rfl⟩
theorem lessLays (blk off size : Nat) (w : World) : CmpLays Try.prog 90 #[] encR 2 cf blk off size w :=
  fun _ _ _ _ x y => less_any x y _
theorem ltLo (x y : Rg) : ltOf cf x y = decide (x.1 < y.1) := by
  unfold ltOf cf Lib.compareInt
  by_cases h1 : x.1 < y.1
  · simp [h1]
  · by_cases h2 : y.1 < x.1 <;> simp [h1, h2]
theorem swoLo : SWO (ltOf cf) where
  irrefl x := by rw [ltLo]; simp
  trans x y z h1 h2 := by rw [ltLo] at *; simp at *; omega
  ntrans x y z h1 h2 := by rw [ltLo] at *; simp at *; omega

theorem E_flat (l : List Rg) (j : Nat) (h : j < l.length * 2) : (E l)[j]? = some (encR (l.toArray[j / 2]!))[j % 2]! := by
  obtain ⟨r, hr⟩ := some_of (show j / 2 < l.length by omega)
  have e : l.toArray[j / 2]! = r := by
    rw [getElem!_pos _ _ (by simp; omega)]
    have : l[j / 2]'(by omega) = r := by rw [List.getElem?_eq_getElem (by omega)] at hr; injection hr
    simpa using this
  rw [e]
  rcases Nat.mod_two_eq_zero_or_one j with h0 | h0
  · rw [h0, show j = j / 2 * 2 by omega, E_at0 l _ r hr]; rfl
  · rw [h0, show j = j / 2 * 2 + 1 by omega, E_at1 l _ r hr]; rfl

theorem grownBy_sort {w : World} {g n : Nat} {os : Array Obj} (d : Array Rg) : w.grownBy (sortWorldK encR 2 w g 0 n d os) (some g) := by
  unfold sortWorldK putRowK
  refine ⟨rfl, rfl, rfl, by simp, fun k hk hne => ?_⟩
  rw [heap_grow_old _ _ (by simpa using hk)]
  have : g ≠ k := fun e => hne (by rw [e])
  simp [putRow, mapBlock, Sort.ahead, Array.getElem?_modify, this]

theorem sort_any (w : World) (base : Nat) (ao : Option Addr) (cap : Nat) (l : List Rg) (hown : Ow w base (.slice ao l.length cap) l) (hl : l.length ≤ 1000000) :
    Calls Try.prog 89 #[.slice ao l.length cap, .func (.func 90) #[] #[]] w fun e w' => e = .returned (.tuple #[]) ∧ ∃ s, s.Perm l ∧ s.Pairwise (fun a b => a.1 ≤ b.1) ∧ Rw w' ao s ∧ w.grownBy w' (Value.slice ao l.length cap).ownBlock := by
  by_cases h0 : 0 < l.length
  · rcases hown.2 with ⟨e1, e2⟩ | ⟨g, c, cur, e1, hbg, hg, hnc, hcm, hcs, ht⟩
    · omega
    · simp only [Value.slice.injEq] at e1
      obtain ⟨rfl, -, rfl⟩ := e1
      have hgl : g < w.heap.size := by
        rcases Nat.lt_or_ge g w.heap.size with h1 | h1
        · exact h1
        · rw [Array.getElem?_eq_none h1] at hg; cases hg
      have eg : ∀ args w, (callFunc 90 args).run Try.prog w = .ok (.enter 90 args) w := enters_of Try.func90 (by kernel_rfl) rfl
      have hH : HoldsK encR 2 w g 0 l.toArray := by
        intro j hj
        rw [size_flatK, List.size_toArray] at hj
        refine ⟨?_, by simp [World.frozen?, hg]⟩
        rw [get_flatK _ _ _ _ (by simpa using hj), Nat.zero_add]
        have h1 := World.ownsRow.cellAt hown j (by omega)
        rw [E_flat l j hj] at h1
        exact h1
      have hcon := AnyQ.slices_SortFunc Sh.lsort 2 Try.isAgg29 Try.sizeOf29 encR (fun _ => rfl) (fun x v hv => by simp [encR] at hv; rcases hv with rfl | rfl <;> rfl) cf swoLo 90 #[] g 0 cap l.toArray w eg (lessLays g 0 l.toArray.size w) hH hgl (by simp; omega)
      change Calls Try.prog 89 _ _ _ at hcon
      rw [List.size_toArray] at hcon
      refine hcon.mono ?_
      rintro e w' ⟨he, d', n, os, hp, hs, rfl⟩
      have hds : d'.size = l.length := by have := hp.1; simpa using this
      have hK : HoldsK encR 2 (sortWorldK encR 2 w g 0 n d' os) g 0 d' := by
        unfold sortWorldK
        exact holdsK_grow encR 2 _ _ _ _ _ (by simpa [putRowK] using hgl) (holdsK_putRowK encR 2 _ _ _ _ _ (holdsK_ahead encR 2 _ _ _ _ _ hH) (by simp [hds]))
      refine ⟨he, d'.toList, ?_, ?_, ?_, grownBy_sort d'⟩
      · have h1 := hp.2.2
        rw [← hds, Array.extract_size, hds] at h1
        simpa using h1
      · rw [List.pairwise_iff_getElem]
        intro i j hi hj hij
        have h1 := hs i j (Nat.zero_le _) hij (by rw [Array.length_toList] at hj; omega)
        rw [ltLo, decide_eq_false_iff_not] at h1
        rw [Array.length_toList] at hi hj
        rw [getElem!_pos d' j hj, getElem!_pos d' i hi] at h1
        simp only [Array.getElem_toList]
        omega
      · intro _
        refine ⟨g, 0, rfl, fun i r hr => ?_⟩
        have hi : i < d'.size := by
          rcases Nat.lt_or_ge i d'.size with h1 | h1
          · exact h1
          · rw [List.getElem?_eq_none (by simpa using h1)] at hr; cases hr
        have e : d'[i]! = r := by
          rw [getElem!_pos d' i hi]
          rw [List.getElem?_eq_getElem (by simpa using hi)] at hr
          injection hr
        have h1 := (hK.cell hi (show 0 < 2 by omega)).1
        have h2 := (hK.cell hi (show 1 < 2 by omega)).1
        rw [e] at h1 h2
        exact ⟨h1, h2⟩
  · have e : l = [] := List.eq_nil_of_length_eq_zero (by omega)
    subst e
    have hcon := AnyF.slices_SortFunc_none Sh.lsort ao cap (.func (.func 90) #[] #[]) w
    change Calls Try.prog 89 _ _ _ at hcon
    refine hcon.mono ?_
    rintro e w' ⟨he, rfl⟩
    exact ⟨he, [], List.Perm.nil, List.Pairwise.nil, Rw.nil _ _, ⟨rfl, rfl, rfl, Nat.le_refl _, fun _ _ _ => rfl⟩⟩
end Go.Proofs.Ytabckkepkennhaa.Pj
