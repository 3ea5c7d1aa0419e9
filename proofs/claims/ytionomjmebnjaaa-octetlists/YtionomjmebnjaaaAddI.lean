/-
  The contracts of the lists of numbers that are written: addList[int], Nums.
-/
import Derived.Test.YtionomjmebnjaaaReads2
import Derived.Test.YtionomjmebnjaaaKit2
namespace Go.Proofs.Ytionomjmebnjaaa.Ad
open Go.RowKit Kt Pl Rd Wr Fw
set_option linter.unusedVariables false

/-- A slice of numbers, as it is read. -/
def RowI (w : World) (ao : Option Addr) (l : List Int) : Prop :=
  0 < l.length → ∃ b off, ao = some ⟨b, off, none⟩ ∧ ∀ i, i < l.length → w.cell? ⟨b, off + i, none⟩ = some (.int .i64 (l.getD i 0))

theorem RowI.below {w w' : World} {ao : Option Addr} {l : List Int} (h : RowI w ao l) (hb : Below w.heap.size w w') : RowI w' ao l := by
  intro hl
  obtain ⟨b, off, e, hc⟩ := h hl
  refine ⟨b, off, e, fun i hi => ?_⟩
  have h1 := hc i hi
  rw [hb.cell (p := ⟨b, off + i, none⟩) (World.block_lt_of_cell? w _ h1)]
  exact h1

theorem RowI.own {w : World} {base e n : Nat} {ao : Option Addr} {cap : Nat} {l : List Nat} (h : w.ownsRow base e 1 (.slice ao n cap) n (I l)) : n = l.length ∧ n ≤ cap ∧ RowI w ao (l.map fun (n : Nat) => (n : Int)) := by
  have hn : n = l.length := by have := h.1; rw [I_length] at this; omega
  subst hn
  refine ⟨rfl, ?_, fun hl => ?_⟩
  · rcases h.2 with ⟨e1, e2⟩ | ⟨g, c, cur, e1, _, _, e2, _⟩
    · simp [e2]
    · simp only [Value.slice.injEq] at e1; omega
  · simp only [List.length_map] at hl ⊢
    rcases h.2 with ⟨e1, e2⟩ | ⟨g, c, cur, e1, _, hg, _, _, _, ht⟩
    · omega
    · simp only [Value.slice.injEq] at e1
      obtain ⟨rfl, _, rfl⟩ := e1
      refine ⟨g, 0, rfl, fun i hi => ?_⟩
      have := World.ownsRow.cellAt h i (by omega)
      rw [Nat.zero_add, this]
      simp [I, List.getD, List.getElem?_eq_getElem hi]

/-- A number that may be written. -/
def okN (x : Int) : Prop := 0 ≤ x ∧ x ≤ 4611686018427387904
def eI (x : Int) : List UInt8 := enc x.toNat

/-- What has been written of a list behind k items. -/
def pre {α : Type} (e : α → List UInt8) (l : List α) (k : Nat) : List UInt8 := enc l.length ++ (l.take k).flatMap e
theorem pre_zero {α : Type} (e : α → List UInt8) (l : List α) : pre e l 0 = enc l.length := by simp [pre]
theorem pre_all {α : Type} (e : α → List UInt8) (l : List α) : pre e l l.length = encList e l := by simp [pre, encList]
theorem pre_succ {α : Type} (e : α → List UInt8) (l : List α) (k : Nat) (x : α) (h : l[k]? = some x) : pre e l (k + 1) = pre e l k ++ e x := by
  obtain ⟨hk, rfl⟩ := List.getElem?_eq_some_iff.1 h
  unfold pre
  rw [List.take_succ_eq_append_getElem hk, List.flatMap_append]
  simp

theorem pre_len {l : List Int} {k : Nat} (hk : k ≤ l.length) (hl : l.length ≤ 1024) (hok : ∀ i x, i < k → l[i]? = some x → okN x) : (pre eI l k).length ≤ 9 + 9 * k := by
  induction k with
  | zero => rw [pre_zero]; have := enc_len9 (n := l.length) (by omega); omega
  | succ k ih =>
    have h1 : l[k]? = some l[k] := List.getElem?_eq_getElem (by omega)
    rw [pre_succ _ _ _ _ h1, List.length_append]
    have h2 := ih (by omega) (fun i x hi => hok i x (by omega))
    have h3 := hok k _ (by omega) h1
    have h4 : (eI l[k]).length ≤ 9 := enc_len9 (by have := h3.2; have := h3.1; omega)
    omega

theorem own_cat {w : World} {base e m : Nat} {v : Value} {bs p q : List UInt8} (h : w.ownsRow base e 1 v (m + p.length + q.length) (U (bs ++ p ++ q))) : w.ownsRow base e 1 v (m + (p ++ q).length) (U (bs ++ (p ++ q))) := by
  rw [List.length_append, ← List.append_assoc, ← Nat.add_assoc]; exact h

set_option maxHeartbeats 1000000 in
set_option maxRecDepth 20000 in
theorem addList_any (w : World) (base : Nat) (v : Value) (m : Nat) (bs : List UInt8) (hown : w.ownsRow base 5 1 v m (U bs)) (hb : base ≤ w.heap.size) (hm : m ≤ 1000000000)
    (ao : Option Addr) (cap : Nat) (l : List Int) (hrow : ∀ w', Below base w w' → RowI w' ao l) (hl : l.length ≤ 1024) :
    Calls Try.prog 33 #[v, .slice ao l.length cap, .func (Fn.func 29) #[] #[]] w fun e w' =>
      ((∀ x ∈ l, okN x) ∧ ∃ v', e = .returned (.tuple #[v', .int .i64 0]) ∧ w'.ownsRow base 5 1 v' (m + (encList eI l).length) (U (bs ++ encList eI l)) ∧ Below base w w') ∨
      ((¬ ∀ x ∈ l, okN x) ∧ e = .returned (.tuple #[.slice none 0 0, .int .i64 2]) ∧ Below base w w') := by
  go_enter Try.func33, Try.ntmps33
  go_wp2_with fail
  refine (addCount_ok w base v m l.length 1024 bs hown hb (by omega) hl (by omega)).mono ?_
  rintro e w1 ⟨v1, rfl, hown1, hb1⟩
  rw [← pre_zero eI] at hown1
  clear hown
  go_wp2
  go_loopw [0, 23] (fun v2 ct wr => ∃ k : Nat, k ≤ l.length ∧ ct = .int .i64 k ∧ Hid (∀ i x, i < k → l[i]? = some x → okN x) ∧ wr.ownsRow base 5 1 v2 (m + (pre eI l k).length) (U (bs ++ pre eI l k)) ∧ Below base w wr)
    (fun _ ct _ => l.length - (intOf ct).toNat)
  case atStart => exact ⟨0, Nat.zero_le _, rfl, mkH (fun i x hi => by omega), hown1, hb1⟩
  case round =>
    obtain ⟨k, hk, rfl, hok, hown2, hb2⟩ := hrel
    have hpl := pre_len hk hl hok.out
    have hsz := hb2.size
    clear hown1 hb1
    by_cases hlt : k < l.length
    · obtain ⟨b, off, hao, hc⟩ := hrow wr hb2 (by omega)
      obtain ⟨x, hx⟩ : ∃ x, l[k]? = some x := ⟨_, List.getElem?_eq_getElem hlt⟩
      have hck : wr.cell? ⟨b, off + k, none⟩ = some (.int .i64 x) := by rw [hc k hlt]; simp [List.getD, hx]
      subst hao
      have HX : Hid (l[k]? = some x) := hx
      clear hc hx
      by_cases hg : 0 ≤ x ∧ x ≤ 4611686018427387904
      · obtain ⟨n, rfl⟩ := Int.eq_ofNat_of_zero_le hg.1
        have hps := pre_succ eI l k _ HX.out
        have HS : Hid (pre eI l (k + 1) = pre eI l k ++ enc n) := mkH (by simpa [eI] using hps)
        have hok2 : Hid (∀ i x, i < k + 1 → l[i]? = some x → okN x) := mkH (by
          intro i y hi hy
          by_cases hik : i = k
          · subst hik; rw [HX.out] at hy; cases hy; exact hg
          · exact hok.out i y (by omega) hy)
        have HN : Hid (n ≤ 4611686018427387904) := mkH (by omega)
        have HA := addNum_ok wr base u0 (m + (pre eI l k).length) n (bs ++ pre eI l k) hown2 (by omega) (by omega) HN.out
        clear hps hg HN hown2 hok HX
        go_wp2_with fail
        refine HA.mono ?_
        rintro e w3 ⟨v3, rfl, hown3, hb3⟩
        clear HA
        have hown4 := own_cat hown3
        rw [← HS.out] at hown4
        have hb4 := hb2.trans hb3
        clear hown3 hb3 hb2 HS hck
        go_wp2
        go_roundw
        case rel => exact ⟨k + 1, by omega, by go_num, hok2, hown4, hb4⟩
        case measure => simp [intOf]; omega
      · have HA := addNum_bad wr u0 x (by omega)
        have HF : Hid (¬ ∀ x ∈ l, okN x) := mkH (fun h => hg (h x (List.mem_of_getElem? HX.out)))
        clear hg hok HX hown2
        go_wp2_with fail
        refine HA.mono ?_
        rintro e w3 ⟨rfl, rfl⟩
        clear HA
        go_wp2
        go_ret2
        exact .inr ⟨HF.out, rfl, hb2⟩
    · obtain rfl : k = l.length := by omega
      have HF : Hid (∀ x ∈ l, okN x) := mkH (fun x hx => by
        obtain ⟨i, hi⟩ := List.mem_iff_getElem?.1 hx
        obtain ⟨hil, _⟩ := List.getElem?_eq_some_iff.1 hi
        exact hok.out i x hil hi)
      clear hok
      rw [pre_all] at hown2
      go_wp2
      go_ret2
      exact .inl ⟨HF.out, _, rfl, hown2, hb2⟩

set_option maxHeartbeats 400000 in
set_option maxRecDepth 20000 in
theorem addList_long (w : World) (v : Value) (ao : Option Addr) (cap n : Nat) (hl : 1024 < n) :
    Calls Try.prog 33 #[v, .slice ao n cap, .func (Fn.func 29) #[] #[]] w fun e w' => e = .returned (.tuple #[.slice none 0 0, .int .i64 3]) ∧ w' = w := by
  go_enter Try.func33, Try.ntmps33
  go_wp2_with fail
  refine (addCount_bad w v n 1024 hl).mono ?_
  rintro e w1 ⟨rfl, rfl⟩
  go_wp2
  go_ret2
  exact ⟨rfl, rfl⟩

set_option maxHeartbeats 400000 in
set_option maxRecDepth 20000 in
theorem nums_any (w : World) (bo : Option Addr) (bcap : Nat) (bs : List UInt8) (hr : Row w bo bs) (hlen : bs.length ≤ 1000000000) (ao : Option Addr) (cap : Nat) (l : List Int) (hrow : RowI w ao l) (hl : l.length ≤ 1024) :
    Calls Try.prog 19 #[.slice bo bs.length bcap, .slice ao l.length cap] w fun e w' =>
      ((∀ x ∈ l, okN x) ∧ ∃ v', e = .returned (.tuple #[v', .int .i64 0]) ∧ w'.ownsRow w.heap.size 5 1 v' (bs.length + (encList eI l).length) (U (bs ++ encList eI l)) ∧ Below w.heap.size w w') ∨
      ((¬ ∀ x ∈ l, okN x) ∧ e = .returned (.tuple #[.slice none 0 0, .int .i64 2]) ∧ Below w.heap.size w w') := by
  go_enter Try.func19, Try.ntmps19
  go_wp2_with fail
  refine (clone_any w bo bcap bs hr hlen).mono ?_
  rintro e w1 ⟨v1, rfl, hown1, hb1⟩
  go_wp2_with fail
  refine (addList_any w1 w.heap.size v1 bs.length bs hown1 hb1.size hlen ao cap l (fun w' hb => hrow.below (hb1.trans hb)) hl).mono ?_
  rintro e w2 (⟨hg, v2, rfl, hown2, hb2⟩ | ⟨hg, rfl, hb2⟩)
  · have HG := mkH hg
    clear hg
    go_wp2
    go_ret2
    exact .inl ⟨HG.out, v2, rfl, hown2, hb1.trans hb2⟩
  · have HG := mkH hg
    clear hg
    go_wp2
    go_ret2
    exact .inr ⟨HG.out, rfl, hb1.trans hb2⟩

set_option maxHeartbeats 400000 in
set_option maxRecDepth 20000 in
theorem nums_long (w : World) (bo : Option Addr) (bcap : Nat) (bs : List UInt8) (hr : Row w bo bs) (hlen : bs.length ≤ 1000000000) (ao : Option Addr) (cap n : Nat) (hl : 1024 < n) :
    Calls Try.prog 19 #[.slice bo bs.length bcap, .slice ao n cap] w fun e w' => e = .returned (.tuple #[.slice none 0 0, .int .i64 3]) ∧ Below w.heap.size w w' := by
  go_enter Try.func19, Try.ntmps19
  go_wp2_with fail
  refine (clone_any w bo bcap bs hr hlen).mono ?_
  rintro e w1 ⟨v1, rfl, hown1, hb1⟩
  go_wp2_with fail
  refine (addList_long w1 v1 ao cap n hl).mono ?_
  rintro e w2 ⟨rfl, rfl⟩
  go_wp2
  go_ret2
  exact ⟨rfl, hb1⟩
end Go.Proofs.Ytionomjmebnjaaa.Ad
