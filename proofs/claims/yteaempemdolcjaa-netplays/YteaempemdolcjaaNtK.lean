/-
  count; the walk of NetKeeps.
-/
import Derived.Test.YteaempemdolcjaaNtX
import Derived.Test.YteaempemdolcjaaNtM
namespace Go.Proofs.Yteaempemdolcjaa.Nk
open Go.RowKit Kt Gf Nr Gk Nw Nx Nm Na
set_option linter.unusedVariables false
set_option linter.unusedSimpArgs false
set_option maxRecDepth 20000

def cn (l : List Int) (x : Int) : Int := (l.count x : Int)
theorem cn_nil (x : Int) : cn [] x = 0 := rfl
theorem cn_snoc (l : List Int) (y x : Int) : cn (l ++ [y]) x = if x = y then cn l y + 1 else cn l x := by
  unfold cn
  rw [List.count_append]
  by_cases h : x = y
  · subst h; simp
  · rw [if_neg h]
    have : List.count x [y] = 0 := List.count_eq_zero.2 (by simpa using h)
    rw [this]; simp
theorem cn_bd (l : List Int) (x : Int) : 0 ≤ cn l x ∧ cn l x ≤ l.length := by
  unfold cn
  have := List.count_le_length (a := x) (l := l)
  omega
theorem cn_pos {l : List Int} {k : Nat} {x : Int} (h : l[k]? = some x) : 1 ≤ cn l x := by
  unfold cn
  have := List.count_pos_iff.2 (List.mem_of_getElem? h)
  omega
theorem cn_drop {l : List Int} {k : Nat} {x : Int} (h : l[k]? = some x) (y : Int) : cn (l.take k ++ l.drop (k + 1)) y = if y = x then cn l x - 1 else cn l y := by
  have hk := lt_of h
  have e : l = l.take k ++ ([x] ++ l.drop (k + 1)) := by
    obtain ⟨h1, h2⟩ := List.getElem?_eq_some_iff.1 h
    rw [List.singleton_append, ← h2, List.getElem_cons_drop h1, List.take_append_drop]
  have e2 : ∀ z, cn l z = cn (l.take k ++ l.drop (k + 1)) z + (if z = x then 1 else 0) := fun z => by
    unfold cn
    conv => lhs; rw [e]
    rw [List.count_append, List.count_append, List.count_append]
    by_cases hz : z = x
    · subst hz; simp; omega
    · rw [if_neg hz]
      have : List.count z [x] = 0 := List.count_eq_zero.2 (by simpa using hz)
      rw [this]; simp
  by_cases hy : y = x
  · subst hy
    rw [if_pos rfl]
    have := e2 y
    rw [if_pos rfl] at this
    omega
  · rw [if_neg hy]
    have := e2 y
    rw [if_neg hy] at this
    omega
theorem wfI {x : Int} (h : -9223372036854775808 ≤ x ∧ x ≤ 9223372036854775807) : (Lit.int .i64 x).wf = true := WalkArith.wf_i64 (by omega)

set_option maxHeartbeats 1000000 in
theorem count_any (w : World) (ao : Option Addr) (cap : Nat) (l : List Int) (hr : RowE w ao l) (hb : ∀ x ∈ l, -9223372036854775808 ≤ x ∧ x ≤ 9223372036854775807) (hl : l.length ≤ 100) :
    Calls Try.prog 26 #[.slice ao l.length cap] w fun e w' => ∃ mb, e = .returned (.map (some mb)) ∧ Mc w' mb 100 (cn l) ∧ Below w.heap.size w w' ∧ w.heap.size ≤ mb := by
  obtain ⟨W1, hW1⟩ : ∃ W1, W1 = w.alloc (.map #[] 0) := ⟨_, rfl⟩
  have hM : Mc W1 w.heap.size 0 (cn []) := by rw [hW1]; exact Mc.made w
  have hB1 : Below w.heap.size w W1 := by rw [hW1]; exact (Below.refl _ w).alloc (Nat.le_refl _) _
  have HM := mkH hM
  have HB1 := mkH hB1
  have HW := mkH hW1
  have HR := mkH hr
  have HBD := mkH hb
  obtain ⟨n, hn⟩ : ∃ n, n = l.length := ⟨_, rfl⟩
  have HN := mkH hn
  rw [← hn] at hl ⊢
  clear hM hB1 hW1 hr hb hn
  have hmm := @run_makeMap Try.prog
  go_enter Try.func26, Try.ntmps26
  go_wp2_with fail
  rw [show w.alloc (.map #[] 0) = W1 from HW.out.symm]
  clear hmm
  go_loopw [9] (fun i wr => ∃ k : Nat, k ≤ n ∧ i = .int .i64 k ∧ Hid (Mc wr w.heap.size k (cn (l.take k))) ∧ Hid (Below w.heap.size w wr)) (fun i _ => n - (intOf i).toNat)
  case atStart => exact ⟨0, Nat.zero_le _, rfl, HM, HB1⟩
  case round =>
    obtain ⟨k, hk, rfl, HMk, HBk⟩ := hrel
    by_cases hlt : k < n
    · obtain ⟨x, hxk⟩ := some_of (l := l) (i := k) (by rw [← HN.out]; exact hlt)
      have hpos : 0 < l.length := by rw [← HN.out]; omega
      obtain ⟨bs, off, rfl, hcs⟩ := HR.out hpos
      have c2 := hcs k x hxk
      have hbs := World.block_lt_of_cell? w _ c2
      have c3 : wr.cell? ⟨bs, off + k, none⟩ = some (.int .i64 x) := by
        rw [World.cell?_of_block (w := w) (a := ⟨bs, off + k, none⟩) (HBk.out.block _ hbs)]
        exact c2
      have hw := wfI (HBD.out x (List.mem_of_getElem? hxk))
      have hlook := HMk.out.look hw
      have hbd := cn_bd (l.take k) x
      have hlk : (l.take k).length ≤ 100 := by rw [List.length_take]; omega
      have HS : Hid (cn (l.take (k + 1)) = fun y => if y = x then cn (l.take k) x + 1 else cn (l.take k) y) := mkH (by
        funext y
        rw [List.take_add_one, hxk]
        exact cn_snoc _ _ _)
      obtain ⟨w5, hst, hM5, hF5⟩ := HMk.out.store (by omega) x (cn (l.take k) x + 1) hw
      rw [← HS.out] at hM5
      have HM5 := mkH hM5
      have HB5 : Hid (Below w.heap.size w w5) := mkH (HBk.out.trans (hF5.below (fun q hq => by omega) HBk.out.size))
      have hc0 : 0 ≤ cn (l.take k) x := hbd.1
      have hc1 : cn (l.take k) x ≤ 100 := by omega
      clear hM5 hF5 hcs hbd hlk hxk hw hpos hbs c2 HS
      generalize cn (l.take k) x = c at *
      go_wp2
      go_roundw
      case rel => exact ⟨k + 1, by omega, by go_num, HM5, HB5⟩
      case measure => simp [intOf]; omega
    · have hkn : k = n := by omega
      have HM2 : Hid (Mc wr w.heap.size k (cn l)) := mkH (by
        have := HMk.out
        rwa [List.take_of_length_le (by rw [← HN.out]; omega)] at this)
      clear HMk
      go_wp2
      go_ret
      refine ⟨w.heap.size, rfl, ?_, HBk.out, Nat.le_refl _⟩
      obtain ⟨L, h1, h2, h3, h4⟩ := HM2.out
      exact ⟨L, h1, h2, by omega, h4⟩
end Go.Proofs.Yteaempemdolcjaa.Nk
