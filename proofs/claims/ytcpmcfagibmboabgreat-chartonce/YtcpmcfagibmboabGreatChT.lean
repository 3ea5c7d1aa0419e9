/-
  Texts of numbers: chart.textOf, chart.numsOf.
-/
import Derived.Test.YtcpmcfagibmboabGreatChF
import Derived.Test.YtcpmcfagibmboabGreatWrites
import Derived.Test.YtcpmcfagibmboabGreatReads
namespace Go.Proofs.YtcpmcfagibmboabGreat.Ct
open Go.RowKit Pl Pw Pr Pf Pv Cp Ca Cb Cc Cd Ce Cf Gf Gk Wr
open Cr hiding some_of
open Kt hiding mkH
open Kv
set_option linter.unusedVariables false
set_option linter.unusedSimpArgs false
set_option maxRecDepth 20000

/-- A slice of numbers, as it is read. -/
def RowI (w : World) (ao : Option Addr) (l : List Int) : Prop :=
  0 < l.length → ∃ b off, ao = some ⟨b, off, none⟩ ∧ ∀ i, i < l.length → w.cell? ⟨b, off + i, none⟩ = some (.int .i64 (l.getD i 0))

theorem RowI.below {w w' : World} {ao : Option Addr} {l : List Int} (h : RowI w ao l) (hb : Below w.heap.size w w') : RowI w' ao l := by
  intro hl
  obtain ⟨b, off, e, hc⟩ := h hl
  refine ⟨b, off, e, fun i hi => ?_⟩
  have h1 := hc i hi
  rw [hb.cell (p := ⟨b, off + i, none⟩) (World.block_lt_of_cell? w _ h1)]
  exact h1

/-- A number that may be written. -/
def okN (x : Int) : Prop := 0 ≤ x ∧ x ≤ 4611686018427387904
def eI (x : Int) : List UInt8 := enc x.toNat
/-- What a row of numbers is written as. -/
def txt (l : List Int) : List UInt8 := l.flatMap eI
theorem txt_succ (l : List Int) (k : Nat) (h : k < l.length) : txt (l.take (k + 1)) = txt (l.take k) ++ eI (l.getD k 0) := by
  unfold txt
  rw [List.take_succ_eq_append_getElem h, List.flatMap_append]
  simp [List.getD, h]
theorem txt_len (l : List Int) (h : ∀ x ∈ l, okN x) : (txt l).length ≤ 9 * l.length := by
  induction l with
  | nil => simp [txt]
  | cons x l ih =>
    have h1 := ih (fun y hy => h y (by simp [hy]))
    have h2 := h x (by simp)
    have h4 : (eI x).length ≤ 9 := enc_len9 (by have := h2.2; have := h2.1; omega)
    simp only [txt, List.flatMap_cons, List.length_append, List.length_cons] at h1 ⊢
    omega

set_option maxHeartbeats 1000000 in
theorem textOf_any (w : World) (ao : Option Addr) (cap : Nat) (l : List Int) (hrow : RowI w ao l) (hok : ∀ x ∈ l, okN x) (hl : l.length ≤ 100000) :
    Calls Tryz.prog 26 #[.slice ao l.length cap] w fun e w' => e = .returned (.string (S (txt l))) ∧ Below w.heap.size w w' := by
  have HOK := mkH hok
  have HR := mkH hrow
  clear hok hrow
  go_enter Tryz.func26, Tryz.ntmps26
  go_wp2_with fail
  go_loopw [3, 10] (fun v ct wr => ∃ k : Nat, k ≤ l.length ∧ ct = .int .i64 k ∧ Hid (wr.ownsRow w.heap.size 5 1 v (txt (l.take k)).length (U (txt (l.take k)))) ∧ Hid (Below w.heap.size w wr))
    (fun _ ct _ => l.length - (intOf ct).toNat)
  case atStart => exact ⟨0, Nat.zero_le _, rfl, mkH ⟨by simp [txt, U], .inl ⟨rfl, by simp [txt]⟩⟩, mkH (Below.refl _ _)⟩
  case round =>
    obtain ⟨k, hk, rfl, HO, HB⟩ := hrel
    have htl : (txt (l.take k)).length ≤ 9 * (l.take k).length := txt_len _ (fun x hx => HOK.out x (List.mem_of_mem_take hx))
    have htl2 : (l.take k).length ≤ 100000 := by rw [List.length_take]; omega
    have hsz := HB.out.size
    by_cases hlt : k < l.length
    · obtain ⟨b, off, hao, hc⟩ := HR.out.below HB.out (by omega)
      have hx : l.getD k 0 ∈ l := by simp [List.getD, hlt]
      have hokx := HOK.out _ hx
      have HS := mkH (txt_succ l k hlt)
      have hck := hc k hlt
      subst hao
      generalize l.getD k 0 = x at *
      obtain ⟨n, rfl⟩ := Int.eq_ofNat_of_zero_le hokx.1
      have hn : n ≤ 4611686018427387904 := by have := hokx.2; omega
      have HA := num_ok wr none 0 n [] (Row.nil _ _) (by simp) hn
      simp only [List.length_nil, List.nil_append, Nat.zero_add] at HA
      have HN := mkH hn
      clear hc hx hokx hn
      go_wp2_with fail
      refine HA.mono ?_
      rintro e w3 ⟨v3, rfl, hown3, hb3⟩
      obtain ⟨a3, c3, rfl⟩ := own_form hown3
      have hown4 := own_below HO.out hb3
      have hrow3 := (Row.own hown3).2.2
      have h9 := enc_len9 HN.out
      have hb4 := HB.out.trans (hb3.mono hsz)
      have hsz4 := hb4.size
      clear HA hck hown3 HO HB
      go_wp2_with (at_builtin; refine wpList_append_own_src _ rfl (.tmp 19) (.tmp 20) 34 34 rfl w.heap.size 5 (.int .u8 0) 1 1 Tryz.underlying34 info5 rfl (by decide) _ (txt (l.take k)).length (U (txt (l.take k))) rfl hown4 _ (enc n).length (U (enc n)) rfl (Row.src Tryz.underlying34 hrow3 c3) (by unfold maxLen; omega) (by omega) (by omega) ?_; intro v2 w5 hown5 hgrow5)
      have hb5 := below_own hown4 hgrow5 hb4 hsz4
      have hown6 : w5.ownsRow w.heap.size 5 1 v2 (txt (l.take (k + 1))).length (U (txt (l.take (k + 1)))) := by
        rw [HS.out, U_append, List.length_append]; exact hown5
      have HO := mkH hown6
      have HB := mkH hb5
      clear hown4 hown5 hown6 hb4 hb5 hgrow5 HS
      go_wp2
      go_roundw
      case rel => exact ⟨k + 1, by omega, by go_num, HO, HB⟩
      case measure => simp [intOf]; omega
    · obtain rfl : k = l.length := by omega
      obtain ⟨a3, c3, rfl⟩ := own_form HO.out
      have hrow3 := (Row.own HO.out).2.2
      rw [List.take_of_length_le (Nat.le_refl _)] at hrow3
      have hs := run_string (P := Tryz.prog) Tryz.underlying34 Tryz.underlying5 Tryz.underlying9 hrow3 c3
      rw [List.take_of_length_le (Nat.le_refl _)]
      go_wp2
      go_ret
      exact ⟨rfl, HB.out⟩
end Go.Proofs.YtcpmcfagibmboabGreat.Ct
