/-
  RefL RefT RefC WiZ WiG, joined by mrg.py.
-/
import Derived.Test.YtgbbajeeelgbhaaGreatDoorSqBD
import Derived.Test.YtgbbajeeelgbhaaGreatDoorSqAU

namespace Go.Proofs.YtgbbajeeelgbhaaGreatDoor.Rf
open Go.RowKit Kt Pl Rd Wr Fw Ad
set_option linter.unusedVariables false

/-- What a list of numbers is written as behind bs: bytes and an error. -/
def OutN (bs : List UInt8) (l : List Int) (r : List UInt8) (er : Nat) : Prop :=
  (1024 < l.length ∧ r = [] ∧ er = 3) ∨ (l.length ≤ 1024 ∧ (∀ x ∈ l, okN x) ∧ r = bs ++ encList eI l ∧ er = 0) ∨ (l.length ≤ 1024 ∧ (¬ ∀ x ∈ l, okN x) ∧ r = [] ∧ er = 2)

theorem outN_ex (bs : List UInt8) (l : List Int) : ∃ r er, OutN bs l r er := by
  by_cases h : 1024 < l.length
  · exact ⟨_, _, .inl ⟨h, rfl, rfl⟩⟩
  · by_cases h2 : ∀ x ∈ l, okN x
    · exact ⟨_, _, .inr (.inl ⟨by omega, h2, rfl, rfl⟩)⟩
    · exact ⟨_, _, .inr (.inr ⟨by omega, h2, rfl, rfl⟩)⟩

/-- The answer of a writer: bytes and an error. -/
def Gives (r : List UInt8) (er : Nat) (w0 : World) (e : Ending) (w' : World) : Prop :=
  ∃ a c, e = .returned (.tuple #[.slice a r.length c, .int .i64 (er : Int)]) ∧ Row w' a r ∧ Below w0.heap.size w0 w'

theorem gives_nil {er : Nat} {w0 w' : World} (h : Below w0.heap.size w0 w') : Gives [] er w0 (.returned (.tuple #[.slice none 0 0, .int .i64 (er : Int)])) w' := ⟨none, 0, rfl, Row.nil _ _, h⟩
theorem gives_own {w0 w' : World} {base e : Nat} {v : Value} {p q : List UInt8} (h : w'.ownsRow base e 1 v (p.length + q.length) (U (p ++ q))) (hb : Below w0.heap.size w0 w') :
    Gives (p ++ q) 0 w0 (.returned (.tuple #[v, .int .i64 0])) w' := by
  obtain ⟨a, c, rfl⟩ := own_form h
  rw [← List.length_append] at h ⊢
  exact ⟨a, c, rfl, (Row.own h).2.2, hb⟩
end Go.Proofs.YtgbbajeeelgbhaaGreatDoor.Rf

namespace Go.Proofs.YtgbbajeeelgbhaaGreatDoor.Rf
open Go.RowKit Kt Pl Rd Wr Fw At
open Ad (pre pre_zero pre_all pre_succ)
set_option linter.unusedVariables false

/-- What a list of texts is written as behind bs: bytes and an error. -/
def OutT (bs : List UInt8) (l : List (List UInt8)) (r : List UInt8) (er : Nat) : Prop :=
  (1024 < l.length ∧ r = [] ∧ er = 3) ∨ (l.length ≤ 1024 ∧ (∀ x ∈ l, okT x) ∧ r = bs ++ encList encText l ∧ er = 0) ∨ (l.length ≤ 1024 ∧ (¬ ∀ x ∈ l, okT x) ∧ r = [] ∧ er = 3)

theorem outT_ex (bs : List UInt8) (l : List (List UInt8)) : ∃ r er, OutT bs l r er := by
  by_cases h : 1024 < l.length
  · exact ⟨_, _, .inl ⟨h, rfl, rfl⟩⟩
  · by_cases h2 : ∀ x ∈ l, okT x
    · exact ⟨_, _, .inr (.inl ⟨by omega, h2, rfl, rfl⟩)⟩
    · exact ⟨_, _, .inr (.inr ⟨by omega, h2, rfl, rfl⟩)⟩

theorem texts_out (w : World) (bo : Option Addr) (bcap : Nat) (bs : List UInt8) (hr : Row w bo bs) (hlen : bs.length ≤ 1000000000) (ao : Option Addr) (cap : Nat) (l : List (List UInt8)) (hrow : RowT w ao l) (r : List UInt8) (er : Nat) (ho : OutT bs l r er) :
    Calls Tryz.prog 344 #[.slice bo bs.length bcap, .slice ao l.length cap] w fun e w' => Gives r er w e w' := by
  rcases ho with ⟨h, rfl, rfl⟩ | ⟨h, hok, rfl, rfl⟩ | ⟨h, hok, rfl, rfl⟩
  · refine (texts_long w bo bcap bs hr hlen ao cap l.length h).mono ?_
    rintro e w' ⟨rfl, hb⟩
    exact gives_nil hb
  · refine (texts_any w bo bcap bs hr hlen ao cap l hrow h).mono ?_
    rintro e w' (⟨-, v, rfl, hown, hb⟩ | ⟨hno, -⟩)
    · exact gives_own hown hb
    · exact absurd hok hno
  · refine (texts_any w bo bcap bs hr hlen ao cap l hrow h).mono ?_
    rintro e w' (⟨hno, -⟩ | ⟨-, rfl, hb⟩)
    · exact absurd hno hok
    · exact gives_nil hb

set_option maxHeartbeats 1000000 in
set_option maxRecDepth 20000 in
theorem refTexts_any (w : World) (bo : Option Addr) (bcap : Nat) (bs : List UInt8) (hr : Row w bo bs) (hlen : bs.length ≤ 100000000) (ao : Option Addr) (cap : Nat) (l : List (List UInt8)) (hrow : RowT w ao l) (hl : l.length ≤ 1024) :
    Calls Tryz.prog 44 #[.slice bo bs.length bcap, .slice ao l.length cap] w fun e w' =>
      ((∀ x ∈ l, okT x) ∧ Gives (bs ++ encList encText l) 0 w e w') ∨ ((¬ ∀ x ∈ l, okT x) ∧ e = .returned (.tuple #[.slice none 0 0, .int .i64 3]) ∧ Below w.heap.size w w') := by
  have c1 : ¬ ((1024 : Int) < (l.length : Int)) := by omega
  go_enter Tryz.func44, Tryz.ntmps44
  go_wp2_with fail
  refine (refNum_ok w bo bcap l.length bs hr (by omega) (by omega)).mono ?_
  rintro e w1 ⟨v1, rfl, hown1, hb1⟩
  obtain ⟨a1, k1, rfl⟩ := own_form hown1
  rw [← pre_zero encText, ← List.length_append] at hown1
  have hR1 := (Row.own hown1).2.2
  have hl1 : bs.length + (enc l.length).length = (bs ++ pre encText l 0).length := by rw [pre_zero, List.length_append]
  clear hown1
  rw [hl1]
  clear hl1
  go_wp2
  go_loopw [6, 8] (fun v2 ct wr => ∃ (k : Nat) (a c : _), k ≤ l.length ∧ ct = .int .i64 k ∧ Hid (∀ i x, i < k → l[i]? = some x → okT x) ∧ v2 = .slice a (bs ++ pre encText l k).length c ∧ Row wr a (bs ++ pre encText l k) ∧ Below w.heap.size w wr)
    (fun _ ct _ => l.length - (intOf ct).toNat)
  case atStart => exact ⟨0, a1, k1, Nat.zero_le _, rfl, mkH (fun i x hi => by omega), by simp, hR1, hb1⟩
  case round =>
    obtain ⟨k, a2, c2, hk, rfl, hok, rfl, hR2, hb2⟩ := hrel
    have hpl := pre_len hk hl hok.out
    have hsz := hb2.size
    clear hR1 hb1
    by_cases hlt : k < l.length
    · obtain ⟨b, off, hao, hc⟩ := hrow.below hb2 (by omega)
      obtain ⟨x, hx⟩ : ∃ x, l[k]? = some x := ⟨_, List.getElem?_eq_getElem hlt⟩
      have hck : wr.cell? ⟨b, off + k, none⟩ = some (.string (S x)) := by rw [hc k hlt]; simp [List.getD, hx]
      subst hao
      have HX : Hid (l[k]? = some x) := hx
      clear hc hx
      by_cases hg : x.length ≤ 4096
      · have hps := pre_succ encText l k _ HX.out
        have HS : Hid (pre encText l (k + 1) = pre encText l k ++ encText x) := mkH hps
        have hok2 : Hid (∀ i x, i < k + 1 → l[i]? = some x → okT x) := mkH (by
          intro i y hi hy
          by_cases hik : i = k
          · subst hik; rw [HX.out] at hy; cases hy; exact hg
          · exact hok.out i y (by omega) hy)
        have HA := refText_ok wr a2 c2 x (bs ++ pre encText l k) hR2 (by rw [List.length_append]; omega) hg
        clear hps hg hok HX hR2
        generalize hq : (bs ++ pre encText l k) = Q at *
        have HQ := mkH hq
        clear hq
        go_wp2_with fail
        refine HA.mono ?_
        rintro e w3 ⟨v3, rfl, hown3, hb3⟩
        clear HA
        obtain ⟨a3, c3, rfl⟩ := own_form hown3
        rw [← List.length_append] at hown3
        have hR3 := (Row.own hown3).2.2
        have hql : Q.length + (encText x).length = (bs ++ pre encText l (k + 1)).length := by rw [HS.out, ← List.append_assoc, HQ.out, List.length_append]
        have hR4 : Row w3 a3 (bs ++ pre encText l (k + 1)) := by rw [HS.out, ← List.append_assoc, HQ.out]; exact hR3
        have hb4 := hb2.trans (hb3.mono hb2.size)
        have HL := mkH hql
        clear hown3 hb3 hb2 HS hck hR3 hql HQ
        go_wp2
        go_roundw
        case rel => exact ⟨k + 1, a3, c3, by omega, by go_num, hok2, by rw [HL.out], hR4, hb4⟩
        case measure => simp [intOf]; omega
      · have HA := refText_bad wr (.slice a2 (bs ++ pre encText l k).length c2) x (Nat.lt_of_not_le hg)
        have HF : Hid (¬ ∀ x ∈ l, okT x) := mkH (fun h => hg (h x (List.mem_of_getElem? HX.out)))
        clear hg hok HX hR2
        generalize (bs ++ pre encText l k).length = Q at *
        go_wp2_with fail
        refine HA.mono ?_
        rintro e w3 ⟨rfl, rfl⟩
        clear HA
        go_wp2
        go_ret2
        exact .inr ⟨HF.out, rfl, hb2⟩
    · obtain rfl : k = l.length := by omega
      have HF : Hid (∀ x ∈ l, okT x) := mkH (fun x hx => by
        obtain ⟨i, hi⟩ := List.mem_iff_getElem?.1 hx
        obtain ⟨hil, _⟩ := List.getElem?_eq_some_iff.1 hi
        exact hok.out i x hil hi)
      clear hok
      rw [pre_all] at hR2 ⊢
      generalize hq : (bs ++ encList encText l) = Q at hR2 ⊢
      have HQ := mkH hq
      clear hq
      go_wp2
      go_ret2
      refine .inl ⟨HF.out, ?_⟩
      rw [HQ.out]
      exact ⟨a2, c2, rfl, hR2, hb2⟩

set_option maxHeartbeats 400000 in
set_option maxRecDepth 20000 in
theorem refTexts_long (w : World) (v : Value) (ao : Option Addr) (cap n : Nat) (hl : 1024 < n) :
    Calls Tryz.prog 44 #[v, .slice ao n cap] w fun e w' => e = .returned (.tuple #[.slice none 0 0, .int .i64 3]) ∧ w' = w := by
  have c1 : (1024 : Int) < (n : Int) := by omega
  go_enter Tryz.func44, Tryz.ntmps44
  go_wp2
  go_ret2
  exact ⟨rfl, rfl⟩

theorem refTexts_out (w : World) (bo : Option Addr) (bcap : Nat) (bs : List UInt8) (hr : Row w bo bs) (hlen : bs.length ≤ 100000000) (ao : Option Addr) (cap : Nat) (l : List (List UInt8)) (hrow : RowT w ao l) (r : List UInt8) (er : Nat) (ho : OutT bs l r er) :
    Calls Tryz.prog 44 #[.slice bo bs.length bcap, .slice ao l.length cap] w fun e w' => Gives r er w e w' := by
  rcases ho with ⟨h, rfl, rfl⟩ | ⟨h, hok, rfl, rfl⟩ | ⟨h, hok, rfl, rfl⟩
  · refine (refTexts_long w _ ao cap l.length h).mono ?_
    rintro e w' ⟨rfl, rfl⟩
    exact gives_nil (Below.refl _ _)
  · refine (refTexts_any w bo bcap bs hr hlen ao cap l hrow h).mono ?_
    rintro e w' (⟨-, hg⟩ | ⟨hno, -⟩)
    · exact hg
    · exact absurd hok hno
  · refine (refTexts_any w bo bcap bs hr hlen ao cap l hrow h).mono ?_
    rintro e w' (⟨hno, -⟩ | ⟨-, rfl, hb⟩)
    · exact absurd hno hok
    · exact gives_nil hb
end Go.Proofs.YtgbbajeeelgbhaaGreatDoor.Rf

namespace Go.Proofs.YtgbbajeeelgbhaaGreatDoor.Rf
open Go.RowKit Kt Pl Rd Wr Fw At
open Ad (pre pre_zero pre_all pre_succ)
set_option linter.unusedVariables false

def GivC (r : List UInt8) (er : Nat) (w0 : World) (e : Ending) (w' : World) : Prop :=
  ∃ a c, e = .returned (.tuple #[.slice a r.length c, .int .i64 (er : Int)]) ∧ Row w' a r ∧ (r.length ≤ c ∧ c ≤ 9223372036854775807) ∧ Below w0.heap.size w0 w'
theorem own_le' {w : World} {base e size n cap : Nat} {ao : Option Addr} {xs : List Value} (h : w.ownsRow base e size (.slice ao n cap) n xs) : n ≤ cap := by
  rcases h.2 with ⟨e1, e2⟩ | ⟨g, c, cur, e1, _, _, e2, _⟩
  · simp only [Value.slice.injEq] at e1; omega
  · simp only [Value.slice.injEq] at e1; omega

set_option maxHeartbeats 1000000 in
set_option maxRecDepth 20000 in
theorem refTexts_cap (w : World) (bo : Option Addr) (bcap : Nat) (bs : List UInt8) (hr : Row w bo bs) (hlen : bs.length ≤ 100000000) (ao : Option Addr) (cap : Nat) (l : List (List UInt8)) (hrow : RowT w ao l) (hl : l.length ≤ 1024) :
    Calls Tryz.prog 44 #[.slice bo bs.length bcap, .slice ao l.length cap] w fun e w' =>
      ((∀ x ∈ l, okT x) ∧ GivC (bs ++ encList encText l) 0 w e w') ∨ ((¬ ∀ x ∈ l, okT x) ∧ e = .returned (.tuple #[.slice none 0 0, .int .i64 3]) ∧ Below w.heap.size w w') := by
  have c1 : ¬ ((1024 : Int) < (l.length : Int)) := by omega
  go_enter Tryz.func44, Tryz.ntmps44
  go_wp2_with fail
  refine (refNum_ok w bo bcap l.length bs hr (by omega) (by omega)).mono ?_
  rintro e w1 ⟨v1, rfl, hown1, hb1⟩
  obtain ⟨a1, k1, rfl⟩ := own_form hown1
  rw [← pre_zero encText, ← List.length_append] at hown1
  have hR1 := (Row.own hown1).2.2
  have HC1 := mkH (And.intro (own_le' hown1) (own_cap hown1))
  have hl1 : bs.length + (enc l.length).length = (bs ++ pre encText l 0).length := by rw [pre_zero, List.length_append]
  clear hown1
  rw [hl1]
  clear hl1
  go_wp2
  go_loopw [6, 8] (fun v2 ct wr => ∃ (k : Nat) (a c : _), k ≤ l.length ∧ ct = .int .i64 k ∧ Hid (∀ i x, i < k → l[i]? = some x → okT x) ∧ v2 = .slice a (bs ++ pre encText l k).length c ∧ Row wr a (bs ++ pre encText l k) ∧ Hid ((bs ++ pre encText l k).length ≤ c ∧ c ≤ 9223372036854775807) ∧ Below w.heap.size w wr)
    (fun _ ct _ => l.length - (intOf ct).toNat)
  case atStart => exact ⟨0, a1, k1, Nat.zero_le _, rfl, mkH (fun i x hi => by omega), by simp, hR1, (by rw [pre_zero]; have := HC1.out; rw [pre_zero] at this; exact this), hb1⟩
  case round =>
    obtain ⟨k, a2, c2, hk, rfl, hok, rfl, hR2, HC2, hb2⟩ := hrel
    have hpl := pre_len hk hl hok.out
    have hsz := hb2.size
    clear hR1 hb1
    by_cases hlt : k < l.length
    · obtain ⟨b, off, hao, hc⟩ := hrow.below hb2 (by omega)
      obtain ⟨x, hx⟩ : ∃ x, l[k]? = some x := ⟨_, List.getElem?_eq_getElem hlt⟩
      have hck : wr.cell? ⟨b, off + k, none⟩ = some (.string (S x)) := by rw [hc k hlt]; simp [List.getD, hx]
      subst hao
      have HX : Hid (l[k]? = some x) := hx
      clear hc hx
      by_cases hg : x.length ≤ 4096
      · have hps := pre_succ encText l k _ HX.out
        have HS : Hid (pre encText l (k + 1) = pre encText l k ++ encText x) := mkH hps
        have hok2 : Hid (∀ i x, i < k + 1 → l[i]? = some x → okT x) := mkH (by
          intro i y hi hy
          by_cases hik : i = k
          · subst hik; rw [HX.out] at hy; cases hy; exact hg
          · exact hok.out i y (by omega) hy)
        have HA := refText_ok wr a2 c2 x (bs ++ pre encText l k) hR2 (by rw [List.length_append]; omega) hg
        clear hps hg hok HX hR2
        clear HC2
        generalize hq : (bs ++ pre encText l k) = Q at *
        have HQ := mkH hq
        clear hq
        go_wp2_with fail
        refine HA.mono ?_
        rintro e w3 ⟨v3, rfl, hown3, hb3⟩
        clear HA
        obtain ⟨a3, c3, rfl⟩ := own_form hown3
        rw [← List.length_append] at hown3
        have hR3 := (Row.own hown3).2.2
        have HC3 := mkH (And.intro (own_le' hown3) (own_cap hown3))
        have hql : Q.length + (encText x).length = (bs ++ pre encText l (k + 1)).length := by rw [HS.out, ← List.append_assoc, HQ.out, List.length_append]
        have hR4 : Row w3 a3 (bs ++ pre encText l (k + 1)) := by rw [HS.out, ← List.append_assoc, HQ.out]; exact hR3
        have hb4 := hb2.trans (hb3.mono hb2.size)
        have HL := mkH hql
        clear hown3 hb3 hb2 HS hck hR3 hql HQ
        go_wp2
        go_roundw
        case rel => exact ⟨k + 1, a3, c3, by omega, by go_num, hok2, by rw [HL.out], hR4, mkH (by have := HC3.out; have h9 := HL.out; rw [← h9]; simpa using this), hb4⟩
        case measure => simp [intOf]; omega
      · have HA := refText_bad wr (.slice a2 (bs ++ pre encText l k).length c2) x (Nat.lt_of_not_le hg)
        have HF : Hid (¬ ∀ x ∈ l, okT x) := mkH (fun h => hg (h x (List.mem_of_getElem? HX.out)))
        clear hg hok HX hR2
        clear HC2
        generalize (bs ++ pre encText l k).length = Q at *
        go_wp2_with fail
        refine HA.mono ?_
        rintro e w3 ⟨rfl, rfl⟩
        clear HA
        go_wp2
        go_ret2
        exact .inr ⟨HF.out, rfl, hb2⟩
    · obtain rfl : k = l.length := by omega
      have HF : Hid (∀ x ∈ l, okT x) := mkH (fun x hx => by
        obtain ⟨i, hi⟩ := List.mem_iff_getElem?.1 hx
        obtain ⟨hil, _⟩ := List.getElem?_eq_some_iff.1 hi
        exact hok.out i x hil hi)
      clear hok
      rw [pre_all] at hR2 HC2 ⊢
      generalize hq : (bs ++ encList encText l) = Q at hR2 HC2 ⊢
      have HQ := mkH hq
      clear hq
      go_wp2
      go_ret2
      refine .inl ⟨HF.out, ?_⟩
      rw [HQ.out]
      exact ⟨a2, c2, rfl, hR2, HC2.out, hb2⟩
end Go.Proofs.YtgbbajeeelgbhaaGreatDoor.Rf

namespace Go.Proofs.YtgbbajeeelgbhaaGreatDoor.Wz
open Go.RowKit Kt Pl Wi Wk Wf Wx Rf
open At (RowT okT)
open Wv (SR)
set_option linter.unusedVariables false
set_option linter.unusedSimpArgs false
set_option maxRecDepth 20000

/-- Nothing old has turned. -/
def Bl (w w' : World) : Prop := Below w.heap.size w w'
theorem Bl.trans {a b c : World} (h : Bl a b) (k : Bl b c) : Bl a c := Below.trans h (Below.mono k h.size)
/-- These bytes, wherever they lie. -/
def RV (bs : Bs) (v : Value) (w : World) : Prop := ∃ ao cap, v = .slice ao bs.length cap ∧ Row w ao bs ∧ bs.length ≤ cap ∧ cap ≤ 9223372036854775807
theorem RV.bl {bs : Bs} {v : Value} {w w' : World} (h : RV bs v w) (hb : Bl w w') : RV bs v w' := by obtain ⟨ao, cap, e, hr, hc⟩ := h; exact ⟨ao, cap, e, hr.below hb, hc⟩
theorem RV.none (w : World) : RV [] (.slice none 0 0) w := ⟨_, _, rfl, Row.nil _ _, Nat.le_refl _, by omega⟩
theorem RV.own {w : World} {base e n : Nat} {v : Value} {bs : Bs} (h : w.ownsRow base e 1 v n (U bs)) : RV bs v w := by
  obtain ⟨ao, cap, rfl⟩ := own_form h
  obtain ⟨e1, -, hr⟩ := Row.own h
  refine ⟨ao, cap, by rw [e1], hr, ?_, own_cap h⟩
  rcases h.2 with ⟨e2, e3⟩ | ⟨g, c, cur, e2, _, _, e3, _⟩
  · simp only [Value.slice.injEq] at e2; omega
  · simp only [Value.slice.injEq] at e2; omega
theorem Bx.bl {w w' : World} {b : Nat} {cs : Array Value} {t : TypeId} (h : Bx w b cs t) (hg : Bl w w') : Bx w' b cs t := h.below hg h.lt

set_option maxHeartbeats 400000 in
theorem number_any (w : World) (v : Value) (bs : Bs) (n : Int) (hv : RV bs v w) (hl : bs.length ≤ 1000000000) (hn : 0 ≤ n ∧ n ≤ 1099511627776) :
    Calls Tryz.prog 41 #[v, .int .i64 n] w fun e w' => ∃ v', e = .returned v' ∧ RV (bs ++ encN n) v' w' ∧ Bl w w' := by
  obtain ⟨ao, cap, rfl, hr, -⟩ := hv
  obtain ⟨m, rfl⟩ : ∃ m : Nat, n = (m : Int) := ⟨n.toNat, by omega⟩
  have H := refNum_ok w ao cap m bs hr hl (by omega)
  clear hr hn
  go_enter Tryz.func41, Tryz.ntmps41
  go_wp2_with fail
  refine H.mono ?_
  rintro e w1 ⟨v1, rfl, hown, hb⟩
  have HO := mkH (RV.own hown)
  have HB := mkH hb
  clear hown hb H
  go_wp2
  go_ret
  exact ⟨_, rfl, HO.out, HB.out⟩

set_option maxHeartbeats 400000 in
theorem text_any (w : World) (v : Value) (bs s : Bs) (hv : RV bs v w) (hl : bs.length ≤ 1000000000) (hn : s.length ≤ 4096) :
    Calls Tryz.prog 42 #[v, .string (S s)] w fun e w' => ∃ v', e = .returned v' ∧ RV (bs ++ encText s) v' w' ∧ Bl w w' := by
  obtain ⟨ao, cap, rfl, hr, -⟩ := hv
  have H := refText_ok w ao cap s bs hr hl hn
  clear hr hn
  go_enter Tryz.func42, Tryz.ntmps42
  go_wp2_with fail
  refine H.mono ?_
  rintro e w1 ⟨v1, rfl, hown, hb⟩
  have HO := mkH (RV.own hown)
  have HB := mkH hb
  clear hown hb H
  go_wp2
  go_ret
  exact ⟨_, rfl, HO.out, HB.out⟩

def S0 (w0 : World) (b : Nat) (C : Array Value) (t : TypeId) (w : World) : Prop := Bx w b C t ∧ Bl w0 w
theorem S0.bl {w0 : World} {b : Nat} {C : Array Value} {t : TypeId} {w w' : World} (h : S0 w0 b C t w) (k : Bl w w') : S0 w0 b C t w' := ⟨Bx.bl h.1 k, h.2.trans k⟩

def dstQ : Nat → Nat := (fun i => if i = 0 then 5 else if i = 3 then 8 else if i = 6 then 11 else if i = 9 then 14 else if i = 12 then 17 else if i = 13 then 4 else 0)
def consQ : Nat → Nat := (fun i => if i = 0 then 3 else if i = 3 then 6 else if i = 6 then 9 else if i = 9 then 12 else if i = 12 then 13 else 999)
def depsQ : Nat → List Nat := (fun i => if i = 3 then [0] else if i = 6 then [3] else if i = 9 then [6] else if i = 12 then [9] else if i = 13 then [12] else [])
def FQ (bs : Bs) (r : Rcp) : Nat → Value → World → Prop := fun i v w => if i = 0 then RV (bs) v w else if i = 3 then RV (bs ++ encN r.q) v w else if i = 6 then RV (bs ++ encN r.q ++ encText r.g) v w else if i = 9 then RV (bs ++ encN r.q ++ encText r.g ++ encN r.s) v w else if i = 12 then RV (bs ++ encN r.q ++ encText r.g ++ encN r.s ++ encN r.c) v w else if i = 13 then RV (bs ++ encN r.q ++ encText r.g ++ encN r.s ++ encN r.c) v w else True

theorem rcp_len {r : Rcp} (h : rcB r = true) (hg : r.g.length ≤ 4096) : (encN r.q).length ≤ 9 ∧ (encN r.s).length ≤ 9 ∧ (encN r.c).length ≤ 9 ∧ (encText r.g).length ≤ 4105 ∧ (encRcp r).length ≤ 4140 := by
  simp only [rcB, Bool.and_eq_true] at h
  have a1 := num_ok h.1
  have a2 := num_ok h.2.1
  have a3 := num_ok h.2.2
  have b1 : (encN r.q).length ≤ 9 := enc_len9 (by omega)
  have b2 : (encN r.s).length ≤ 9 := enc_len9 (by omega)
  have b3 : (encN r.c).length ≤ 9 := enc_len9 (by omega)
  have b4 := enc_len9 (n := r.g.length) (by omega)
  have b5 : (encText r.g).length ≤ 4105 := by unfold encText; rw [List.length_append]; omega
  refine ⟨b1, b2, b3, b5, ?_⟩
  simp only [encRcp, List.length_append]
  omega

set_option maxHeartbeats 4000000 in
theorem putReceipt_any (w : World) (v : Value) (bs : Bs) (r : Rcp) (hv : RV bs v w) (hl : bs.length ≤ 900000000) (hr : rcB r = true) (hg : r.g.length ≤ 4096) :
    Calls Tryz.prog 43 #[v, .agg (Rv r)] w fun e w' => ∃ v', e = .returned v' ∧ RV (bs ++ encRcp r) v' w' ∧ Bl w w' := by
  have k0 : (Rv r)[0]? = some (.int .i64 r.q) := rfl
  have k1 : (Rv r)[1]? = some (.string (S r.g)) := rfl
  have k2 : (Rv r)[2]? = some (.int .i64 r.s) := rfl
  have k3 : (Rv r)[3]? = some (.int .i64 r.c) := rfl
  obtain ⟨l1, l2, l3, l4, -⟩ := rcp_len hr hg
  simp only [rcB, Bool.and_eq_true] at hr
  obtain ⟨n1, n2, n3⟩ := hr
  have n1 := num_ok n1
  have n2 := num_ok n2
  have n3 := num_ok n3
  obtain ⟨W0, hW0⟩ : ∃ W0, W0 = w.alloc (.cells (Rv r) 35) := ⟨_, rfl⟩
  have hG0 : Bl w W0 := hW0 ▸ ((Gr.refl w).alloc _).below
  have HS0 : Hid (S0 W0 w.heap.size (Rv r) 35 W0.drew) := mkH ⟨(hW0 ▸ Bx.new w (Rv r) _).gr ((Gr.refl _).drew), (Below.refl _ _).drew⟩
  have HV0 := mkH ((hv.bl hG0).bl ((Gr.refl W0).drew).below)
  have HG0 := mkH hG0
  generalize Rv r = C at *
  go_enter Tryz.func43, Tryz.ntmps43
  go_wp2_with fail
  rw [← hW0]
  clear hG0 hW0 hv
  generalize hBq : w.heap.size = B at HS0 ⊢
  clear hBq
  have HSB : Hid (∀ w w', S0 W0 B C 35 w → Bl w w' → S0 W0 B C 35 w') := mkH (fun _ _ h k => h.bl k)
  refine wp_region_held_drew (S := fun W => S0 W0 B C 35 W) (by kernel_rfl) HS0.out (fun hHeld => ?_)
  have hq : ∀ W, S0 W0 B C 35 W → ∀ k, W.cell? ⟨B, k, none⟩ = C[k]? := fun W h => h.1.cell
  clear HS0
  refine wpAnyH_take (i := 0) (oi := { dst := some 5, op := _, type := _, pos := _, after := _, guard := _ }) (v := ?_) rfl (by kernel_rfl) (by kernel_rfl) (by kernel_rfl) (fun _ _ _ h => h) (Or.inl ⟨by rfl, ?_⟩) (by assumption) ?_
  rotate_left
  · (intro W hSw; (try dsimp only at hSw); go_simp; try (with_reducible rfl))
  try simp only [Act.put, List.setIfInBounds_toArray, List.set_cons_zero, List.set_cons_succ]
  refine wpAnyH_take (i := 1) (oi := { dst := some 6, op := _, type := _, pos := _, after := _, guard := _ }) (v := ?_) rfl (by kernel_rfl) (by kernel_rfl) (by kernel_rfl) (fun _ _ _ h => h) (Or.inl ⟨by rfl, ?_⟩) (by assumption) ?_
  rotate_left
  · (intro W hSw; (try dsimp only at hSw); go_simp; try (with_reducible rfl))
  try simp only [Act.put, List.setIfInBounds_toArray, List.set_cons_zero, List.set_cons_succ]
  refine wpAnyH_take (i := 2) (oi := { dst := some 7, op := _, type := _, pos := _, after := _, guard := _ }) (v := ?_) rfl (by kernel_rfl) (by kernel_rfl) (by kernel_rfl) (fun _ _ _ h => h) (Or.inl ⟨by rfl, ?_⟩) (by assumption) ?_
  rotate_left
  · (intro W hSw; (try dsimp only at hSw); go_simp; try (with_reducible rfl))
  try simp only [Act.put, List.setIfInBounds_toArray, List.set_cons_zero, List.set_cons_succ]
  refine wpAnyH_take (i := 4) (oi := { dst := some 9, op := _, type := _, pos := _, after := _, guard := _ }) (v := ?_) rfl (by kernel_rfl) (by kernel_rfl) (by kernel_rfl) (fun _ _ _ h => h) (Or.inl ⟨by rfl, ?_⟩) (by assumption) ?_
  rotate_left
  · (intro W hSw; (try dsimp only at hSw); go_simp; try (with_reducible rfl))
  try simp only [Act.put, List.setIfInBounds_toArray, List.set_cons_zero, List.set_cons_succ]
  refine wpAnyH_take (i := 5) (oi := { dst := some 10, op := _, type := _, pos := _, after := _, guard := _ }) (v := ?_) rfl (by kernel_rfl) (by kernel_rfl) (by kernel_rfl) (fun _ _ _ h => h) (Or.inl ⟨by rfl, ?_⟩) (by assumption) ?_
  rotate_left
  · (intro W hSw; (try dsimp only at hSw); go_simp; try (with_reducible rfl))
  try simp only [Act.put, List.setIfInBounds_toArray, List.set_cons_zero, List.set_cons_succ]
  refine wpAnyH_take (i := 7) (oi := { dst := some 12, op := _, type := _, pos := _, after := _, guard := _ }) (v := ?_) rfl (by kernel_rfl) (by kernel_rfl) (by kernel_rfl) (fun _ _ _ h => h) (Or.inl ⟨by rfl, ?_⟩) (by assumption) ?_
  rotate_left
  · (intro W hSw; (try dsimp only at hSw); go_simp; try (with_reducible rfl))
  try simp only [Act.put, List.setIfInBounds_toArray, List.set_cons_zero, List.set_cons_succ]
  refine wpAnyH_take (i := 8) (oi := { dst := some 13, op := _, type := _, pos := _, after := _, guard := _ }) (v := ?_) rfl (by kernel_rfl) (by kernel_rfl) (by kernel_rfl) (fun _ _ _ h => h) (Or.inl ⟨by rfl, ?_⟩) (by assumption) ?_
  rotate_left
  · (intro W hSw; (try dsimp only at hSw); go_simp; try (with_reducible rfl))
  try simp only [Act.put, List.setIfInBounds_toArray, List.set_cons_zero, List.set_cons_succ]
  refine wpAnyH_take (i := 10) (oi := { dst := some 15, op := _, type := _, pos := _, after := _, guard := _ }) (v := ?_) rfl (by kernel_rfl) (by kernel_rfl) (by kernel_rfl) (fun _ _ _ h => h) (Or.inl ⟨by rfl, ?_⟩) (by assumption) ?_
  rotate_left
  · (intro W hSw; (try dsimp only at hSw); go_simp; try (with_reducible rfl))
  try simp only [Act.put, List.setIfInBounds_toArray, List.set_cons_zero, List.set_cons_succ]
  refine wpAnyH_take (i := 11) (oi := { dst := some 16, op := _, type := _, pos := _, after := _, guard := _ }) (v := ?_) rfl (by kernel_rfl) (by kernel_rfl) (by kernel_rfl) (fun _ _ _ h => h) (Or.inl ⟨by rfl, ?_⟩) (by assumption) ?_
  rotate_left
  · (intro W hSw; (try dsimp only at hSw); go_simp; try (with_reducible rfl))
  try simp only [Act.put, List.setIfInBounds_toArray, List.set_cons_zero, List.set_cons_succ]
  refine wpAnyH_lin [0, 3, 6, 9, 12, 13] dstQ consQ depsQ (fun _ => false) [0] (FQ bs r) Bl Bl (by decide) (by kernel_rfl) ?s0 ?s1 ?step ?fin ?hpre (by decide) hHeld (by decide) rfl
  case s0 =>
    intro i hi v w w' h hg
    simp only [List.mem_cons, List.not_mem_nil, or_false] at hi
    rcases hi with rfl | rfl | rfl | rfl | rfl | rfl
    all_goals exact RV.bl h hg
  case s1 =>
    intro i hi hw v w w' h hg
    simp only [List.mem_cons, List.not_mem_nil, or_false] at hi
    rcases hi with rfl | rfl | rfl | rfl | rfl | rfl
    all_goals exact RV.bl h hg
  case hpre =>
    intro i hi
    obtain rfl := List.mem_singleton.1 hi
    exact HV0.out
  case step =>
    intro i hi hip x w hS hF
    simp only [List.mem_cons, List.not_mem_nil, or_false] at hi
    rcases hi with rfl | rfl | rfl | rfl | rfl | rfl
    · exact absurd (by decide) hip
    · have hv1 : RV (bs) (x 0) w := hF 0 (by decide)
      refine op_call rfl rfl (f := 41) (args := #[x 0, .int .i64 r.q]) ?_ ?_
      · simp only [puts, dstQ, Act.put, List.setIfInBounds_toArray, reduceIte, Nat.reduceEqDiff, List.set_cons_zero, List.set_cons_succ]
        go_simp
        try rfl
      · refine (number_any w (x 0) (bs) r.q hv1 (by (try simp only [List.length_append, List.length_nil]); omega) n1).mono ?_
        rintro e w' ⟨v', rfl, hv', hb'⟩
        exact ⟨v', rfl, _, rfl, HSB.out _ _ hS hb', hv', hb'⟩
    · have hv1 : RV (bs ++ encN r.q) (x 3) w := hF 3 (by decide)
      refine op_call rfl rfl (f := 42) (args := #[x 3, .string (S r.g)]) ?_ ?_
      · simp only [puts, dstQ, Act.put, List.setIfInBounds_toArray, reduceIte, Nat.reduceEqDiff, List.set_cons_zero, List.set_cons_succ]
        go_simp
        try rfl
      · refine (text_any w (x 3) (bs ++ encN r.q) r.g hv1 (by (try simp only [List.length_append, List.length_nil]); omega) hg).mono ?_
        rintro e w' ⟨v', rfl, hv', hb'⟩
        exact ⟨v', rfl, _, rfl, HSB.out _ _ hS hb', hv', hb'⟩
    · have hv1 : RV (bs ++ encN r.q ++ encText r.g) (x 6) w := hF 6 (by decide)
      refine op_call rfl rfl (f := 41) (args := #[x 6, .int .i64 r.s]) ?_ ?_
      · simp only [puts, dstQ, Act.put, List.setIfInBounds_toArray, reduceIte, Nat.reduceEqDiff, List.set_cons_zero, List.set_cons_succ]
        go_simp
        try rfl
      · refine (number_any w (x 6) (bs ++ encN r.q ++ encText r.g) r.s hv1 (by (try simp only [List.length_append, List.length_nil]); omega) n2).mono ?_
        rintro e w' ⟨v', rfl, hv', hb'⟩
        exact ⟨v', rfl, _, rfl, HSB.out _ _ hS hb', hv', hb'⟩
    · have hv1 : RV (bs ++ encN r.q ++ encText r.g ++ encN r.s) (x 9) w := hF 9 (by decide)
      refine op_call rfl rfl (f := 41) (args := #[x 9, .int .i64 r.c]) ?_ ?_
      · simp only [puts, dstQ, Act.put, List.setIfInBounds_toArray, reduceIte, Nat.reduceEqDiff, List.set_cons_zero, List.set_cons_succ]
        go_simp
        try rfl
      · refine (number_any w (x 9) (bs ++ encN r.q ++ encText r.g ++ encN r.s) r.c hv1 (by (try simp only [List.length_append, List.length_nil]); omega) n3).mono ?_
        rintro e w' ⟨v', rfl, hv', hb'⟩
        exact ⟨v', rfl, _, rfl, HSB.out _ _ hS hb', hv', hb'⟩
    · have hv1 : RV (bs ++ encN r.q ++ encText r.g ++ encN r.s ++ encN r.c) (x 12) w := hF 12 (by decide)
      refine op_value rfl rfl (v := x 12) (w' := w) ?_ ⟨_, rfl, hS, hv1, Below.refl _ w⟩
      simp only [puts, dstQ, Act.put, List.setIfInBounds_toArray, reduceIte, Nat.reduceEqDiff, List.set_cons_zero, List.set_cons_succ]
      go_simp
  case fin =>
    intro x w2 hS hF
    have hv1 : RV (bs ++ encN r.q ++ encText r.g ++ encN r.s ++ encN r.c) (x 13) w2 := hF 13 (by decide) (by decide)
    have HV1 := mkH hv1
    have HS1 := mkH hS
    clear hv1 hF hS hq hHeld HV0
    simp only [puts, dstQ, Act.put, List.setIfInBounds_toArray, reduceIte, Nat.reduceEqDiff, List.set_cons_zero, List.set_cons_succ]
    go_wp2
    go_ret
    refine ⟨x 13, rfl, ?_, HG0.out.trans HS1.out.2⟩
    have := HV1.out
    simp only [List.append_assoc] at this
    exact this
end Go.Proofs.YtgbbajeeelgbhaaGreatDoor.Wz

namespace Go.Proofs.YtgbbajeeelgbhaaGreatDoor.Wg
open Go.RowKit Kt Pl Wi Wk Wc Wd We Wx Wf
open At (RowT)
set_option linter.unusedVariables false
set_option maxRecDepth 20000

theorem numB_or (n : Int) : numB n = true ∨ numB n = false := by cases numB n <;> simp
theorem rcB_or (r : Rcp) : rcB r = true ∨ rcB r = false := by cases rcB r <;> simp

theorem short_false (c : Cm) (h : 32 < (S c.group).size ∨ 32 < (S c.token).size ∨ 32 < (S c.attempt).size ∨ 32 < (S c.rc.g).size ∨ 128 < (S c.body).size ∨ dataB c.data = false) : shortC c = false := by
  simp only [S_len] at h
  unfold shortC fitB
  cases hd : dataB c.data
  · simp
  · simp only [hd, Bool.true_eq_false, or_false] at h
    simp only [Bool.and_true, Bool.and_eq_false_iff, decide_eq_false_iff_not]
    omega
theorem short_true (c : Cm) (h1 : (S c.group).size ≤ 32) (h2 : (S c.token).size ≤ 32) (h3 : (S c.attempt).size ≤ 32) (h4 : (S c.rc.g).size ≤ 32) (h5 : (S c.body).size ≤ 128) (h6 : dataB c.data = true) : shortC c = true := by
  simp only [S_len] at h1 h2 h3 h4 h5
  unfold shortC fitB
  simp [*]

set_option maxHeartbeats 8000000 in
theorem rcheck_any (w : World) (c : Cm) (ao : Option Addr) (cap : Nat) (hr : RowT w ao c.data) (hlen : c.data.length ≤ 1000000) :
    Calls Tryz.prog 40 #[.agg (Cv c (.slice ao c.data.length cap))] w fun e w' => e = .returned (.int .i64 (checkC c : Int)) ∧ Gr w w' := by
  have HG0 := mkH ((Gr.refl w).alloc (.cells (Cv c (.slice ao c.data.length cap)) 39))
  have HR := mkH (RowT.gr hr HG0.out)
  have HB := mkH (Bx.new w (Cv c (.slice ao c.data.length cap)) 39)
  clear hr
  have hq := HB.out.cell
  obtain ⟨k0, k1, k2, k3, k4, k5, k6, k7, k8, k9, k10, k11, k12, k13, k14, k15, k16, k17, k18⟩ := Cv_at c (.slice ao c.data.length cap)
  have H2 := fun W hr => longData_any W ao cap c.data hr hlen
  have HE : Hid (checkC c = judge (rightC c) (shortC c)) := mkH rfl
  have HC : Hid (rightC c = (upToB 10 c.kind && ((numB c.client && (numB c.num && (numB c.time && (numB c.queue && (numB c.max && (numB c.secs && numB c.to)))))) && (rcB c.rc && (decide (c.lo = 0 ∧ c.hi = 0) || mayB c.lo c.hi))))) := mkH (by rw [right_cases]; simp [numB])
  generalize Cv c (.slice ao c.data.length cap) = C at *
  have e1 := neqR c.lo c.hi 0 0
  have g1 := guardR
  have hb0 : upToB 10 c.kind = (decide (0 ≤ c.kind) && decide (c.kind ≤ 10)) := rfl
  go_enter Tryz.func40, Tryz.ntmps40
  go_wp2_with (first | (go_at_call 83; refine (rnum_any _ _).mono ?_; rintro e w' ⟨rfl, rfl⟩))
  rotate_left
  all_goals try (
    go_ret
    refine ⟨?_, HG0.out⟩
    have hbad : rightC c = false := by rw [HC.out, hb0]; simp [*]; try omega
    rw [HE.out, hbad]
    rfl)
  have H3 := fun W => rreceipt_any W c.rc
  have H4 := fun W => rmay_any W c.lo c.hi
  have hb3 : rcB c.rc = true ∨ rcB c.rc = false := by cases rcB c.rc <;> simp
  have hb4 : mayB c.lo c.hi = true ∨ mayB c.lo c.hi = false := by cases mayB c.lo c.hi <;> simp
  have hb5 : dataB c.data = true ∨ dataB c.data = false := by cases dataB c.data <;> simp
  have hz : decide (c.lo = 0 ∧ c.hi = 0) = true ∨ decide (c.lo = 0 ∧ c.hi = 0) = false := by cases decide (c.lo = 0 ∧ c.hi = 0) <;> simp
  rcases hb3 with hb3 | hb3 <;> rw [hb3] at H3
  · have hz4 : decide (c.lo = 0 ∧ c.hi = 0) = true ∨ (decide (c.lo = 0 ∧ c.hi = 0) = false ∧ mayB c.lo c.hi = true) ∨ (decide (c.lo = 0 ∧ c.hi = 0) = false ∧ mayB c.lo c.hi = false) := by
      rcases hz with hz | hz
      · exact .inl hz
      · exact .inr (hb4.imp (fun h => ⟨hz, h⟩) (fun h => ⟨hz, h⟩))
    clear hz hb4
    rw [hb3] at HC
    clear hb3
    rcases hz4 with hz | ⟨hz, hb4⟩ | ⟨hz, hb4⟩
    all_goals rw [hz] at e1 HC
    rotate_left
    all_goals try rw [hb4] at H4 HC
    all_goals clear hz
    all_goals try clear hb4
    all_goals rcases hb5 with hb5 | hb5 <;> rw [hb5] at H2
    all_goals
      refine (H3 _).mono ?_
      rintro e w1 ⟨rfl, hg⟩
      have HB1 := mkH (HB.out.gr hg)
      have HG1 := mkH (HG0.out.trans hg)
      have HR1 := mkH (RowT.gr HR.out hg)
      have hq1 := HB1.out.cell
      clear hq hg HB HG0 HR
      generalize w.heap.size = B at *
      go_wp2_with (first
        | (go_at_call 81; refine (H4 _).mono ?_; rintro e w2 ⟨rfl, hg2⟩; have HB2 := mkH (HB1.out.gr hg2); have HG2 := mkH (HG1.out.trans hg2); have HR2 := mkH (RowT.gr HR1.out hg2); have hq2 := HB2.out.cell; clear hg2 hq1 HB1 HG1 HR1)
        | (go_at_call 85; (first | refine (H2 _ HR2.out).mono ?_ | refine (H2 _ HR1.out).mono ?_); rintro e w3 ⟨rfl, rfl⟩))
      all_goals
        go_ret
        (first | refine ⟨?_, HG2.out⟩ | refine ⟨?_, HG1.out⟩)
        (first
        | (have hbad : rightC c = false := by (rw [HC.out, hb0]; simp [*]; done)
           rw [HE.out, hbad]; rfl)
        | (have hbad : rightC c = false := by (rw [HC.out, hb0]; simp [*]; omega)
           rw [HE.out, hbad]; rfl)
        | (have hR : rightC c = true := by (rw [HC.out, hb0]; simp [*] <;> omega)
           have hS : shortC c = false := by (first | exact short_false c (.inl (by omega)) | exact short_false c (.inr (.inl (by omega))) | exact short_false c (.inr (.inr (.inl (by omega)))) | exact short_false c (.inr (.inr (.inr (.inl (by omega))))) | exact short_false c (.inr (.inr (.inr (.inr (.inl (by omega)))))) | exact short_false c (.inr (.inr (.inr (.inr (.inr hb5))))))
           rw [HE.out, hR, hS]; rfl)
        | (have hR : rightC c = true := by (rw [HC.out, hb0]; simp [*] <;> omega)
           have hS : shortC c = true := short_true c (by omega) (by omega) (by omega) (by omega) (by omega) hb5
           rw [HE.out, hR, hS]; rfl))
  · refine (H3 _).mono ?_
    rintro e w1 ⟨rfl, hg⟩
    have HG1 := mkH (HG0.out.trans hg)
    clear hq hg HB HG0 HR
    go_wp2_with fail
    go_ret
    refine ⟨?_, HG1.out⟩
    have hbad : rightC c = false := by (rw [HC.out, hb0]; simp [*])
    rw [HE.out, hbad]
    rfl
end Go.Proofs.YtgbbajeeelgbhaaGreatDoor.Wg
