/-
  The contracts of racewayref01.Texts and of octet.Texts, told alike.
-/
import Derived.Test.YtjboldahmndkeaaRefL
namespace Go.Proofs.Ytjboldahmndkeaa.Rf
open Go.RowKit Kt Pl Rd Wr Fw At
open Ad (pre pre_zero pre_all pre_succ)
set_option linter.unusedVariables false

/-- What a list of texts is written as behind bs: bytes and an error. -/
def OutT (bs : List UInt8) (l : List (List UInt8)) (r : List UInt8) (er : Nat) : Prop :=
  (1024 < l.length ∧ r = [] ∧ er = 3) ∨ (l.length ≤ 1024 ∧ (∀ x ∈ l, okT x) ∧ r = bs ++ encList encText l ∧ er = 0) ∨ (l.length ≤ 1024 ∧ (¬ ∀ x ∈ l, okT x) ∧ r = [] ∧ er = 3)

theorem outT_ex (bs : List UInt8) (l : List (List UInt8)) : ∃ r er, OutT bs l r er := by
  by_cases h : 1024 < l.length
  · exact ⟨_, _, .inl ⟨h, rfl, rfl⟩⟩
  · by_cases h2 : ∀ x ∈ l, okT x
    · exact ⟨_, _, .inr (.inl ⟨by omega, h2, rfl, rfl⟩)⟩
    · exact ⟨_, _, .inr (.inr ⟨by omega, h2, rfl, rfl⟩)⟩

theorem texts_out (w : World) (bo : Option Addr) (bcap : Nat) (bs : List UInt8) (hr : Row w bo bs) (hlen : bs.length ≤ 1000000000) (ao : Option Addr) (cap : Nat) (l : List (List UInt8)) (hrow : RowT w ao l) (r : List UInt8) (er : Nat) (ho : OutT bs l r er) :
    Calls Try.prog 53 #[.slice bo bs.length bcap, .slice ao l.length cap] w fun e w' => Gives r er w e w' := by
  rcases ho with ⟨h, rfl, rfl⟩ | ⟨h, hok, rfl, rfl⟩ | ⟨h, hok, rfl, rfl⟩
  · refine (texts_long w bo bcap bs hr hlen ao cap l.length h).mono ?_
    rintro e w' ⟨rfl, hb⟩
    exact gives_nil hb
  · refine (texts_any w bo bcap bs hr hlen ao cap l hrow h).mono ?_
    rintro e w' (⟨-, v, rfl, hown, hb⟩ | ⟨hno, -⟩)
    · exact gives_own hown hb
    · exact absurd hok hno
  · refine (texts_any w bo bcap bs hr hlen ao cap l hrow h).mono ?_
    rintro e w' (⟨hno, -⟩ | ⟨-, rfl, hb⟩)
    · exact absurd hno hok
    · exact gives_nil hb

set_option maxHeartbeats 1000000 in
set_option maxRecDepth 20000 in
theorem refTexts_any (w : World) (bo : Option Addr) (bcap : Nat) (bs : List UInt8) (hr : Row w bo bs) (hlen : bs.length ≤ 100000000) (ao : Option Addr) (cap : Nat) (l : List (List UInt8)) (hrow : RowT w ao l) (hl : l.length ≤ 1024) :
    Calls Try.prog 31 #[.slice bo bs.length bcap, .slice ao l.length cap] w fun e w' =>
      ((∀ x ∈ l, okT x) ∧ Gives (bs ++ encList encText l) 0 w e w') ∨ ((¬ ∀ x ∈ l, okT x) ∧ e = .returned (.tuple #[.slice none 0 0, .int .i64 3]) ∧ Below w.heap.size w w') := by
  have c1 : ¬ ((1024 : Int) < (l.length : Int)) := by omega
  go_enter Try.func31, Try.ntmps31
  go_wp2_with fail
  refine (refNum_ok w bo bcap l.length bs hr (by omega) (by omega)).mono ?_
  rintro e w1 ⟨v1, rfl, hown1, hb1⟩
  obtain ⟨a1, k1, rfl⟩ := own_form hown1
  rw [← pre_zero encText, ← List.length_append] at hown1
  have hR1 := (Row.own hown1).2.2
  have hl1 : bs.length + (enc l.length).length = (bs ++ pre encText l 0).length := by rw [pre_zero, List.length_append]
  clear hown1
  rw [hl1]
  clear hl1
  go_wp2
  go_loopw [6, 8] (fun v2 ct wr => ∃ (k : Nat) (a c : _), k ≤ l.length ∧ ct = .int .i64 k ∧ Hid (∀ i x, i < k → l[i]? = some x → okT x) ∧ v2 = .slice a (bs ++ pre encText l k).length c ∧ Row wr a (bs ++ pre encText l k) ∧ Below w.heap.size w wr)
    (fun _ ct _ => l.length - (intOf ct).toNat)
  case atStart => exact ⟨0, a1, k1, Nat.zero_le _, rfl, mkH (fun i x hi => by omega), by simp, hR1, hb1⟩
  case round =>
    obtain ⟨k, a2, c2, hk, rfl, hok, rfl, hR2, hb2⟩ := hrel
    have hpl := pre_len hk hl hok.out
    have hsz := hb2.size
    clear hR1 hb1
    by_cases hlt : k < l.length
    · obtain ⟨b, off, hao, hc⟩ := hrow.below hb2 (by omega)
      obtain ⟨x, hx⟩ : ∃ x, l[k]? = some x := ⟨_, List.getElem?_eq_getElem hlt⟩
      have hck : wr.cell? ⟨b, off + k, none⟩ = some (.string (S x)) := by rw [hc k hlt]; simp [List.getD, hx]
      subst hao
      have HX : Hid (l[k]? = some x) := hx
      clear hc hx
      by_cases hg : x.length ≤ 4096
      · have hps := pre_succ encText l k _ HX.out
        have HS : Hid (pre encText l (k + 1) = pre encText l k ++ encText x) := mkH hps
        have hok2 : Hid (∀ i x, i < k + 1 → l[i]? = some x → okT x) := mkH (by
          intro i y hi hy
          by_cases hik : i = k
          · subst hik; rw [HX.out] at hy; cases hy; exact hg
          · exact hok.out i y (by omega) hy)
        have HA := refText_ok wr a2 c2 x (bs ++ pre encText l k) hR2 (by rw [List.length_append]; omega) hg
        clear hps hg hok HX hR2
        generalize hq : (bs ++ pre encText l k) = Q at *
        have HQ := mkH hq
        clear hq
        go_wp2_with fail
        refine HA.mono ?_
        rintro e w3 ⟨v3, rfl, hown3, hb3⟩
        clear HA
        obtain ⟨a3, c3, rfl⟩ := own_form hown3
        rw [← List.length_append] at hown3
        have hR3 := (Row.own hown3).2.2
        have hql : Q.length + (encText x).length = (bs ++ pre encText l (k + 1)).length := by rw [HS.out, ← List.append_assoc, HQ.out, List.length_append]
        have hR4 : Row w3 a3 (bs ++ pre encText l (k + 1)) := by rw [HS.out, ← List.append_assoc, HQ.out]; exact hR3
        have hb4 := hb2.trans (hb3.mono hb2.size)
        have HL := mkH hql
        clear hown3 hb3 hb2 HS hck hR3 hql HQ
        go_wp2
        go_roundw
        case rel => exact ⟨k + 1, a3, c3, by omega, by go_num, hok2, by rw [HL.out], hR4, hb4⟩
        case measure => simp [intOf]; omega
      · have HA := refText_bad wr (.slice a2 (bs ++ pre encText l k).length c2) x (Nat.lt_of_not_le hg)
        have HF : Hid (¬ ∀ x ∈ l, okT x) := mkH (fun h => hg (h x (List.mem_of_getElem? HX.out)))
        clear hg hok HX hR2
        generalize (bs ++ pre encText l k).length = Q at *
        go_wp2_with fail
        refine HA.mono ?_
        rintro e w3 ⟨rfl, rfl⟩
        clear HA
        go_wp2
        go_ret2
        exact .inr ⟨HF.out, rfl, hb2⟩
    · obtain rfl : k = l.length := by omega
      have HF : Hid (∀ x ∈ l, okT x) := mkH (fun x hx => by
        obtain ⟨i, hi⟩ := List.mem_iff_getElem?.1 hx
        obtain ⟨hil, _⟩ := List.getElem?_eq_some_iff.1 hi
        exact hok.out i x hil hi)
      clear hok
      rw [pre_all] at hR2 ⊢
      generalize hq : (bs ++ encList encText l) = Q at hR2 ⊢
      have HQ := mkH hq
      clear hq
      go_wp2
      go_ret2
      refine .inl ⟨HF.out, ?_⟩
      rw [HQ.out]
      exact ⟨a2, c2, rfl, hR2, hb2⟩

set_option maxHeartbeats 400000 in
set_option maxRecDepth 20000 in
theorem refTexts_long (w : World) (v : Value) (ao : Option Addr) (cap n : Nat) (hl : 1024 < n) :
    Calls Try.prog 31 #[v, .slice ao n cap] w fun e w' => e = .returned (.tuple #[.slice none 0 0, .int .i64 3]) ∧ w' = w := by
  have c1 : (1024 : Int) < (n : Int) := by omega
  go_enter Try.func31, Try.ntmps31
  go_wp2
  go_ret2
  exact ⟨rfl, rfl⟩

theorem refTexts_out (w : World) (bo : Option Addr) (bcap : Nat) (bs : List UInt8) (hr : Row w bo bs) (hlen : bs.length ≤ 100000000) (ao : Option Addr) (cap : Nat) (l : List (List UInt8)) (hrow : RowT w ao l) (r : List UInt8) (er : Nat) (ho : OutT bs l r er) :
    Calls Try.prog 31 #[.slice bo bs.length bcap, .slice ao l.length cap] w fun e w' => Gives r er w e w' := by
  rcases ho with ⟨h, rfl, rfl⟩ | ⟨h, hok, rfl, rfl⟩ | ⟨h, hok, rfl, rfl⟩
  · refine (refTexts_long w _ ao cap l.length h).mono ?_
    rintro e w' ⟨rfl, rfl⟩
    exact gives_nil (Below.refl _ _)
  · refine (refTexts_any w bo bcap bs hr hlen ao cap l hrow h).mono ?_
    rintro e w' (⟨-, hg⟩ | ⟨hno, -⟩)
    · exact hg
    · exact absurd hok hno
  · refine (refTexts_any w bo bcap bs hr hlen ao cap l hrow h).mono ?_
    rintro e w' (⟨hno, -⟩ | ⟨-, rfl, hb⟩)
    · exact absurd hno hok
    · exact gives_nil hb
end Go.Proofs.Ytjboldahmndkeaa.Rf
