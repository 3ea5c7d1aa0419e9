/-
  The contracts of the lists of texts that are written: addList[string], Texts.
-/
import Derived.Test.YtenkgpfeifflnaaGreatAddI
import Derived.Test.YtenkgpfeifflnaaGreatKit2
namespace Go.Proofs.YtenkgpfeifflnaaGreat.At
open Go.RowKit Kt Pl Rd Wr Fw
open Ad (pre pre_zero pre_all pre_succ own_cat)
set_option linter.unusedVariables false

/-- A slice of texts, as it is read. -/
def RowT (w : World) (ao : Option Addr) (l : List (List UInt8)) : Prop :=
  0 < l.length → ∃ b off, ao = some ⟨b, off, none⟩ ∧ ∀ i, i < l.length → w.cell? ⟨b, off + i, none⟩ = some (.string (S (l.getD i [])))

theorem RowT.below {w w' : World} {ao : Option Addr} {l : List (List UInt8)} (h : RowT w ao l) (hb : Below w.heap.size w w') : RowT w' ao l := by
  intro hl
  obtain ⟨b, off, e, hc⟩ := h hl
  refine ⟨b, off, e, fun i hi => ?_⟩
  have h1 := hc i hi
  rw [hb.cell (p := ⟨b, off + i, none⟩) (World.block_lt_of_cell? w _ h1)]
  exact h1

theorem RowT.own {w : World} {base e n : Nat} {ao : Option Addr} {cap : Nat} {l : List (List UInt8)} (h : w.ownsRow base e 1 (.slice ao n cap) n (T l)) : n = l.length ∧ n ≤ cap ∧ RowT w ao l := by
  have hn : n = l.length := by have := h.1; rw [T_length] at this; omega
  subst hn
  refine ⟨rfl, ?_, fun hl => ?_⟩
  · rcases h.2 with ⟨e1, e2⟩ | ⟨g, c, cur, e1, _, _, e2, _⟩
    · simp [e2]
    · simp only [Value.slice.injEq] at e1; omega
  · rcases h.2 with ⟨e1, e2⟩ | ⟨g, c, cur, e1, _, hg, _, _, _, ht⟩
    · omega
    · simp only [Value.slice.injEq] at e1
      obtain ⟨rfl, _, rfl⟩ := e1
      refine ⟨g, 0, rfl, fun i hi => ?_⟩
      have := World.ownsRow.cellAt h i (by omega)
      rw [Nat.zero_add, this]
      simp [T, List.getD, List.getElem?_eq_getElem hi]

/-- A text that may be written. -/
def okT (x : List UInt8) : Prop := x.length ≤ 4096

theorem pre_len {l : List (List UInt8)} {k : Nat} (hk : k ≤ l.length) (hl : l.length ≤ 1024) (hok : ∀ i x, i < k → l[i]? = some x → okT x) : (pre encText l k).length ≤ 9 + 4105 * k := by
  induction k with
  | zero => rw [pre_zero]; have := enc_len9 (n := l.length) (by omega); omega
  | succ k ih =>
    have h1 : l[k]? = some l[k] := List.getElem?_eq_getElem (by omega)
    rw [pre_succ _ _ _ _ h1, List.length_append]
    have h2 := ih (by omega) (fun i x hi => hok i x (by omega))
    have h3 := hok k _ (by omega) h1
    have h4 : (encText l[k]).length ≤ 4105 := by unfold encText; rw [List.length_append]; unfold okT at h3; have := enc_len9 (n := l[k].length) (by omega); omega
    omega

theorem own_cat {w : World} {base e m : Nat} {v : Value} {bs p q : List UInt8} (h : w.ownsRow base e 1 v (m + p.length + q.length) (U (bs ++ p ++ q))) : w.ownsRow base e 1 v (m + (p ++ q).length) (U (bs ++ (p ++ q))) := by
  rw [List.length_append, ← List.append_assoc, ← Nat.add_assoc]; exact h

set_option maxHeartbeats 1000000 in
set_option maxRecDepth 20000 in
theorem addList_any (w : World) (base : Nat) (v : Value) (m : Nat) (bs : List UInt8) (hown : w.ownsRow base 5 1 v m (U bs)) (hb : base ≤ w.heap.size) (hm : m ≤ 1000000000)
    (ao : Option Addr) (cap : Nat) (l : List (List UInt8)) (hrow : ∀ w', Below base w w' → RowT w' ao l) (hl : l.length ≤ 1024) :
    Calls Tryz.prog 136 #[v, .slice ao l.length cap, .func (Fn.func 137) #[] #[]] w fun e w' =>
      ((∀ x ∈ l, okT x) ∧ ∃ v', e = .returned (.tuple #[v', .int .i64 0]) ∧ w'.ownsRow base 5 1 v' (m + (encList encText l).length) (U (bs ++ encList encText l)) ∧ Below base w w') ∨
      ((¬ ∀ x ∈ l, okT x) ∧ e = .returned (.tuple #[.slice none 0 0, .int .i64 3]) ∧ Below base w w') := by
  go_enter Tryz.func136, Tryz.ntmps136
  go_wp2_with fail
  refine (addCount_ok w base v m l.length 1024 bs hown hb (by omega) hl (by omega)).mono ?_
  rintro e w1 ⟨v1, rfl, hown1, hb1⟩
  rw [← pre_zero encText] at hown1
  clear hown
  go_wp2
  go_loopw [0, 23] (fun v2 ct wr => ∃ k : Nat, k ≤ l.length ∧ ct = .int .i64 k ∧ Hid (∀ i x, i < k → l[i]? = some x → okT x) ∧ wr.ownsRow base 5 1 v2 (m + (pre encText l k).length) (U (bs ++ pre encText l k)) ∧ Below base w wr)
    (fun _ ct _ => l.length - (intOf ct).toNat)
  case atStart => exact ⟨0, Nat.zero_le _, rfl, mkH (fun i x hi => by omega), hown1, hb1⟩
  case round =>
    obtain ⟨k, hk, rfl, hok, hown2, hb2⟩ := hrel
    have hpl := pre_len hk hl hok.out
    have hsz := hb2.size
    clear hown1 hb1
    by_cases hlt : k < l.length
    · obtain ⟨b, off, hao, hc⟩ := hrow wr hb2 (by omega)
      obtain ⟨x, hx⟩ : ∃ x, l[k]? = some x := ⟨_, List.getElem?_eq_getElem hlt⟩
      have hck : wr.cell? ⟨b, off + k, none⟩ = some (.string (S x)) := by rw [hc k hlt]; simp [List.getD, hx]
      subst hao
      have HX : Hid (l[k]? = some x) := hx
      clear hc hx
      by_cases hg : x.length ≤ 4096
      · have hps := pre_succ encText l k _ HX.out
        have HS : Hid (pre encText l (k + 1) = pre encText l k ++ encText x) := mkH hps
        have hok2 : Hid (∀ i x, i < k + 1 → l[i]? = some x → okT x) := mkH (by
          intro i y hi hy
          by_cases hik : i = k
          · subst hik; rw [HX.out] at hy; cases hy; exact hg
          · exact hok.out i y (by omega) hy)
        have HA := addText_ok wr base u0 (m + (pre encText l k).length) (S x) (bs ++ pre encText l k) hown2 (by omega) (by omega) hg
        clear hps hg hown2 hok HX
        go_wp2_with fail
        refine HA.mono ?_
        rintro e w3 ⟨v3, rfl, hown3, hb3⟩
        clear HA
        have hown4 : w3.ownsRow base 5 1 v3 (m + (pre encText l k ++ encText x).length) (U (bs ++ (pre encText l k ++ encText x))) := own_cat hown3
        rw [← HS.out] at hown4
        have hb4 := hb2.trans hb3
        clear hown3 hb3 hb2 HS hck
        go_wp2
        go_roundw
        case rel => exact ⟨k + 1, by omega, by go_num, hok2, hown4, hb4⟩
        case measure => simp [intOf]; omega
      · have HA := addText_bad wr u0 (S x) (Nat.lt_of_not_le hg)
        have HF : Hid (¬ ∀ x ∈ l, okT x) := mkH (fun h => hg (h x (List.mem_of_getElem? HX.out)))
        clear hg hok HX hown2
        go_wp2_with fail
        refine HA.mono ?_
        rintro e w3 ⟨rfl, rfl⟩
        clear HA
        go_wp2
        go_ret2
        exact .inr ⟨HF.out, rfl, hb2⟩
    · obtain rfl : k = l.length := by omega
      have HF : Hid (∀ x ∈ l, okT x) := mkH (fun x hx => by
        obtain ⟨i, hi⟩ := List.mem_iff_getElem?.1 hx
        obtain ⟨hil, _⟩ := List.getElem?_eq_some_iff.1 hi
        exact hok.out i x hil hi)
      clear hok
      rw [pre_all] at hown2
      go_wp2
      go_ret2
      exact .inl ⟨HF.out, _, rfl, hown2, hb2⟩

set_option maxHeartbeats 400000 in
set_option maxRecDepth 20000 in
theorem addList_long (w : World) (v : Value) (ao : Option Addr) (cap n : Nat) (hl : 1024 < n) :
    Calls Tryz.prog 136 #[v, .slice ao n cap, .func (Fn.func 137) #[] #[]] w fun e w' => e = .returned (.tuple #[.slice none 0 0, .int .i64 3]) ∧ w' = w := by
  go_enter Tryz.func136, Tryz.ntmps136
  go_wp2_with fail
  refine (addCount_bad w v n 1024 hl).mono ?_
  rintro e w1 ⟨rfl, rfl⟩
  go_wp2
  go_ret2
  exact ⟨rfl, rfl⟩

set_option maxHeartbeats 400000 in
set_option maxRecDepth 20000 in
theorem texts_any (w : World) (bo : Option Addr) (bcap : Nat) (bs : List UInt8) (hr : Row w bo bs) (hlen : bs.length ≤ 1000000000) (ao : Option Addr) (cap : Nat) (l : List (List UInt8)) (hrow : RowT w ao l) (hl : l.length ≤ 1024) :
    Calls Tryz.prog 116 #[.slice bo bs.length bcap, .slice ao l.length cap] w fun e w' =>
      ((∀ x ∈ l, okT x) ∧ ∃ v', e = .returned (.tuple #[v', .int .i64 0]) ∧ w'.ownsRow w.heap.size 5 1 v' (bs.length + (encList encText l).length) (U (bs ++ encList encText l)) ∧ Below w.heap.size w w') ∨
      ((¬ ∀ x ∈ l, okT x) ∧ e = .returned (.tuple #[.slice none 0 0, .int .i64 3]) ∧ Below w.heap.size w w') := by
  go_enter Tryz.func116, Tryz.ntmps116
  go_wp2_with fail
  refine (clone_any w bo bcap bs hr hlen).mono ?_
  rintro e w1 ⟨v1, rfl, hown1, hb1⟩
  go_wp2_with fail
  refine (addList_any w1 w.heap.size v1 bs.length bs hown1 hb1.size hlen ao cap l (fun w' hb => hrow.below (hb1.trans hb)) hl).mono ?_
  rintro e w2 (⟨hg, v2, rfl, hown2, hb2⟩ | ⟨hg, rfl, hb2⟩)
  · have HG := mkH hg
    clear hg
    go_wp2
    go_ret2
    exact .inl ⟨HG.out, v2, rfl, hown2, hb1.trans hb2⟩
  · have HG := mkH hg
    clear hg
    go_wp2
    go_ret2
    exact .inr ⟨HG.out, rfl, hb1.trans hb2⟩

set_option maxHeartbeats 400000 in
set_option maxRecDepth 20000 in
theorem texts_long (w : World) (bo : Option Addr) (bcap : Nat) (bs : List UInt8) (hr : Row w bo bs) (hlen : bs.length ≤ 1000000000) (ao : Option Addr) (cap n : Nat) (hl : 1024 < n) :
    Calls Tryz.prog 116 #[.slice bo bs.length bcap, .slice ao n cap] w fun e w' => e = .returned (.tuple #[.slice none 0 0, .int .i64 3]) ∧ Below w.heap.size w w' := by
  go_enter Tryz.func116, Tryz.ntmps116
  go_wp2_with fail
  refine (clone_any w bo bcap bs hr hlen).mono ?_
  rintro e w1 ⟨v1, rfl, hown1, hb1⟩
  go_wp2_with fail
  refine (addList_long w1 v1 ao cap n hl).mono ?_
  rintro e w2 ⟨rfl, rfl⟩
  go_wp2
  go_ret2
  exact ⟨rfl, hb1⟩
end Go.Proofs.YtenkgpfeifflnaaGreat.At
