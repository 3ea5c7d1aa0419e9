/-
  The walk of OctetLists.
-/
import Derived.Test.YtionomjmebnjaaaRefT
import Derived.Test.YtionomjmebnjaaaKit3
import Derived.Test.YtionomjmebnjaaaCarr0
import Derived.Deep.CutRange
import Derived.Deep.DeepCutAuto
namespace Go.Proofs.Ytionomjmebnjaaa.Ls
open Go.RowKit Kt Pl Rd Wr Fw Rf
open Ad (RowI)
open At (RowT)
open Lt (info9)
open Ca (S_take)
set_option linter.unusedVariables false

theorem RowT_take {w : World} {ao : Option Addr} {l : List (List UInt8)} (h : RowT w ao l) (k : Nat) : RowT w ao (l.take k) := by
  intro hl
  rw [List.length_take] at hl
  obtain ⟨b, off, e, hc⟩ := h (by omega)
  refine ⟨b, off, e, fun i hi => ?_⟩
  rw [List.length_take] at hi
  rw [hc i (by omega)]
  simp [show i < k by omega]
theorem RowI_take {w : World} {ao : Option Addr} {l : List Int} (h : RowI w ao l) (k : Nat) : RowI w ao (l.take k) := by
  intro hl
  rw [List.length_take] at hl
  obtain ⟨b, off, e, hc⟩ := h (by omega)
  refine ⟨b, off, e, fun i hi => ?_⟩
  rw [List.length_take] at hi
  rw [hc i (by omega)]
  simp [show i < k by omega]

theorem own_snocS {w : World} {base e : Nat} {v : Value} {l : List (List UInt8)} {n : List UInt8} (h : w.ownsRow base e 1 v (l.length + 1) (T l ++ [.string (S n)])) : w.ownsRow base e 1 v (l ++ [n]).length (T (l ++ [n])) := by
  rw [List.length_append, T_append]; exact h

theorem belowU {w w' : World} (h : Below w.drew.heap.size w.drew w') : Below w.heap.size w w' := ⟨h.os, h.tape, h.output, h.size, h.block⟩

/-- The texts as the law cuts them. -/
def cut4 (l : List (List UInt8)) (k : Nat) : List (List UInt8) := (l.take k).map fun s => s.take 4100
theorem cut4_succ {l : List (List UInt8)} {k : Nat} {s : List UInt8} (h : l[k]? = some s) : cut4 l (k + 1) = cut4 l k ++ [s.take 4100] := by
  obtain ⟨hk, rfl⟩ := List.getElem?_eq_some_iff.1 h
  unfold cut4
  rw [List.take_succ_eq_append_getElem hk, List.map_append]
  rfl
theorem cut4_len (l : List (List UInt8)) (k : Nat) : (cut4 l k).length ≤ k := by unfold cut4; simp; omega

set_option maxHeartbeats 1000000 in
set_option maxRecDepth 20000 in
theorem lists (w : World) (ao : Option Addr) (cap : Nat) (bs bh : List UInt8) (hr : Row w ao bs) (hlen : bs.length ≤ cap) (hcap : cap ≤ 9223372036854775807) (hbh : Hid (bs.take 6000 = bh)) (h6 : bh.length ≤ 6000)
    (al : Option Addr) (capl : Nat) (l : List Int) (hrl : RowI w al l) (hll : l.length ≤ capl) (hcl : capl ≤ 9223372036854775807)
    (at2 : Option Addr) (capt : Nat) (t : List (List UInt8)) (hrt : RowT w at2 t) (hlt : t.length ≤ capt) (hct : capt ≤ 9223372036854775807) :
    Calls Try.prog 5 #[.slice ao bs.length cap, .slice al l.length capl, .slice at2 t.length capt] w fun e w' => e = .returned (.bool true) ∧ Below w.heap.size w w' := by
  obtain ⟨n1, hn1⟩ : ∃ n1, min l.length 1100 = n1 := ⟨_, rfl⟩
  obtain ⟨n2, hn2⟩ : ∃ n2, min t.length 1100 = n2 := ⟨_, rfl⟩
  have hm1 : (if (1100 : Int) < (l.length : Int) then (1100 : Int) else (l.length : Int)) = (n1 : Int) := by split <;> omega
  have hm2 : (if (1100 : Int) < (t.length : Int) then (1100 : Int) else (t.length : Int)) = (n2 : Int) := by split <;> omega
  have hk1 : (n1 : Int) ≤ (capl : Int) := by omega
  have hk2 : (n2 : Int) ≤ (capt : Int) := by omega
  have hz1 : (0 : Int) ≤ (n1 : Int) := by omega
  have hz2 : (0 : Int) ≤ (n2 : Int) := by omega
  have hL1 : (l.take n1).length = n1 := by rw [List.length_take]; omega
  have hL2 : (t.take n2).length = n2 := by rw [List.length_take]; omega
  have hq1 : n1 ≤ 1100 := by omega
  have hq2 : n2 ≤ 1100 := by omega
  have hR1 := RowI_take hrl n1
  have hR2 := RowT_take hrt n2
  obtain ⟨L1, hl1⟩ : ∃ L, l.take n1 = L := ⟨_, rfl⟩
  obtain ⟨L2, hl2⟩ : ∃ L, t.take n2 = L := ⟨_, rfl⟩
  rw [hl1] at hL1 hR1
  rw [hl2] at hL2 hR2
  have HL1 := mkH hL1
  have HL2 := mkH hL2
  clear hl1 hl2 hn1 hn2 hrl hrt hll hlt hL1 hL2
  go_enter Try.func5, Try.ntmps5
  go_upto_region 1 with fail
  go_cut [0, 1, 2] (fun v0 v1 v2 wc => ∃ aob capb, v0 = .slice aob bh.length capb ∧ v1 = .slice al n1 capl ∧ v2 = .slice at2 n2 capt ∧ wc.ownsRow w.heap.size 5 1 (.slice aob bh.length capb) bh.length (U bh) ∧ Below w.heap.size w wc)
  case first =>
    go_region_held3 (fun w' => True) (trivial) (first
      | (go_at_call 9; refine (few_any _ ao cap bs ?_ hlen hcap).mono ?_; (exact hr); rintro e w1 ⟨v1, rfl, hown1, hb1⟩; rw [hbh.out] at hown1; obtain ⟨aob, capb, rfl⟩ := own_form hown1; have hb2 := belowU hb1))
    all_goals
      go_wp2_with fail
      go_meet
      exact ⟨_, _, rfl, rfl, rfl, hown1, hb2⟩
  case rest =>
    obtain ⟨aob, capb, hv0, hv1, hv2, hownb, hB⟩ := hcut
    subst hv0 hv1 hv2
    clear hm1 hm2 hk1 hk2 hz1 hz2 hr hlen hcap hbh
    have hRb := (Row.own hownb).2.2
    have hR1 := hR1.below hB
    have hR2 := hR2.below hB
    clear hownb
    go_wp2
    go_loopw [7, 32] (fun v ct wr => ∃ k : Nat, k ≤ n2 ∧ ct = .int .i64 k ∧ wr.ownsRow wc.heap.size 9 1 v (cut4 L2 k).length (T (cut4 L2 k)) ∧ Below wc.heap.size wc wr) (fun _ ct _ => n2 - (intOf ct).toNat)
    case atStart => exact ⟨0, Nat.zero_le _, rfl, World.ownsRow_nil _ _ _ _, Below.refl _ _⟩
    case round =>
      obtain ⟨k, hk, rfl, hown, hbel⟩ := hrel
      have hsz := hbel.size
      by_cases hkl : k < n2
      · obtain ⟨b, off, rfl, hc⟩ := hR2.below hbel (by rw [HL2.out]; omega)
        obtain ⟨s, hs⟩ : ∃ s, L2[k]? = some s := ⟨_, List.getElem?_eq_getElem (by rw [HL2.out]; exact hkl)⟩
        have hck : wr.cell? ⟨b, off + k, none⟩ = some (.string (S s)) := by rw [hc k (by rw [HL2.out]; exact hkl)]; simp [List.getD, hs]
        have HS := mkH (cut4_succ hs)
        have hcl4 := cut4_len L2 k
        obtain ⟨n3, hn3⟩ : ∃ n3, min s.length 4100 = n3 := ⟨_, rfl⟩
        have hsS : (S s).size = s.length := rfl
        have hm3 : (if (4100 : Int) < ((S s).size : Int) then (4100 : Int) else ((S s).size : Int)) = (n3 : Int) := by rw [hsS]; split <;> omega
        have hx3 : (n3 : Int) ≤ ((S s).size : Int) := by rw [hsS]; omega
        have hz3 : (0 : Int) ≤ (n3 : Int) := by omega
        have he3 : (S s).extract 0 n3 = S (s.take 4100) := by rw [S_take, ← hn3]; congr 1; rw [Nat.min_def]; split
                                                              · rw [List.take_length, List.take_of_length_le (by omega)]
                                                              · rfl
        clear hs hc hn3 hsS
        go_wp2_with (at_builtin; refine (wpList_append_own_src _ rfl (.tmp 36) (.tmp 42) 43 43 rfl wc.heap.size 9 (.string ByteArray.empty) 1 16 Try.underlying43 info9 rfl (by decide) _ (cut4 L2 k).length (T (cut4 L2 k)) rfl (hown.alloc _) _ 1 [.string (S (s.take 4100))] rfl (src_val Try.underlying43 _ _ rfl) ?h63 ?hby ?hbs ?_))
        case h63 => unfold maxLen; omega
        case hby => omega
        case hbs => simp; omega
        intro v2 w2 hown2 hgrow2
        have hbel2 := below_own (hown.alloc _) hgrow2 (hbel.alloc hsz _) (by simp; omega)
        have hown3 := own_snocS hown2
        rw [← HS.out] at hown3
        clear hown2 hgrow2 hown hbel HS hck hm3 hx3 hz3 he3
        go_wp2
        go_roundw
        case rel => exact ⟨k + 1, by omega, by go_num, hown3, hbel2⟩
        case measure => simp [intOf]; omega
      · obtain ⟨am, capm, rfl⟩ := own_form hown
        have hRm := (RowT.own hown).2.2
        have hRb2 := hRb.below hbel
        have hR12 := hR1.below hbel
        have hB2 := hB.trans (hbel.mono hB.size)
        have hml := cut4_len L2 k
        obtain ⟨ms, hms⟩ : ∃ ms, cut4 L2 k = ms := ⟨_, rfl⟩
        rw [hms] at hRm hml ⊢
        clear hown hbel hms hR2 hsz hRb hR1 hB
        obtain ⟨r1, e1, ho1⟩ := outN_ex bh L1
        obtain ⟨r2, e2, ho2⟩ := outT_ex bh ms
        have HO1 := mkH ho1
        have HO2 := mkH ho2
        clear ho1 ho2
        have H1 := nums_out wr aob capb bh hRb2 (by omega) al capl L1 hR12 r1 e1 HO1.out
        rw [HL1.out] at H1
        go_wp2_with fail
        refine H1.mono ?_
        rintro e w3 ⟨a3, c3, rfl, hRx, hb3⟩
        clear H1
        have hB3 := hB2.trans (hb3.mono hB2.size)
        have hRb3 := hRb2.below hb3
        have hR13 := hR12.below hb3
        have hRm3 := hRm.below hb3
        clear hB2 hRb2 hR12 hRm hb3
        have H2 := refNums_out w3 aob capb bh hRb3 (by omega) al capl L1 hR13 r1 e1 HO1.out
        rw [HL1.out] at H2
        go_wp2_with fail
        refine H2.mono ?_
        rintro e w4 ⟨a4, c4, rfl, hRy, hb4⟩
        clear H2
        have hB4 := hB3.trans (hb4.mono hB3.size)
        have hRb4 := hRb3.below hb4
        have hRm4 := hRm3.below hb4
        have hRx4 := hRx.below hb4
        clear hB3 hRb3 hR13 hRm3 hRx hb4
        have H3 := texts_out w4 aob capb bh hRb4 (by omega) am capm ms hRm4 r2 e2 HO2.out
        go_wp2_with fail
        refine H3.mono ?_
        rintro e w5 ⟨a5, c5, rfl, hRp, hb5⟩
        clear H3
        have hB5 := hB4.trans (hb5.mono hB4.size)
        have hRb5 := hRb4.below hb5
        have hRm5 := hRm4.below hb5
        have hRx5 := hRx4.below hb5
        have hRy5 := hRy.below hb5
        clear hB4 hRb4 hRm4 hRx4 hRy hb5
        have H4 := refTexts_out w5 aob capb bh hRb5 (by omega) am capm ms hRm5 r2 e2 HO2.out
        go_wp2_with fail
        refine H4.mono ?_
        rintro e w6 ⟨a6, c6, rfl, hRq, hb6⟩
        clear H4
        have hB6 := hB5.trans (hb6.mono hB5.size)
        have hRx6 := hRx5.below hb6
        have hRy6 := hRy5.below hb6
        have hRp6 := hRp.below hb6
        clear hB5 hRb5 hRm5 hRx5 hRy5 hRp hb6
        have hs3 := run_string (P := Try.prog) Try.underlying22 Try.underlying5 Try.underlying9 hRx6 c3
        have hs4 := run_string (P := Try.prog) Try.underlying22 Try.underlying5 Try.underlying9 hRy6 c4
        have hs5 := run_string (P := Try.prog) Try.underlying22 Try.underlying5 Try.underlying9 hRp6 c5
        have hs6 := run_string (P := Try.prog) Try.underlying22 Try.underlying5 Try.underlying9 hRq c6
        clear hRx6 hRy6 hRp6 hRq
        go_wp2_with fail
        refine (works_any _).mono ?_
        rintro e w7 ⟨rfl, hb7⟩
        have hB7 := hB6.trans (hb7.mono hB6.size)
        clear hb7 hB6
        go_wp2
        go_ret
        exact ⟨rfl, hB7⟩
end Go.Proofs.Ytionomjmebnjaaa.Ls
