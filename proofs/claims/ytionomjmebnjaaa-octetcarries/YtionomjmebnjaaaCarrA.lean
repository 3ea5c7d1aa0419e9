/-
  The walk of OctetCarries.
-/
import Derived.Test.YtionomjmebnjaaaCarr0
import Derived.Test.YtionomjmebnjaaaKit3
namespace Go.Proofs.Ytionomjmebnjaaa.Ca
open Go.RowKit Kt Pl Rd Wr Fw Lt At
set_option linter.unusedVariables false

theorem own_snocC {w : World} {base e : Nat} {v : Value} {l : List (List UInt8)} {n : List UInt8} (h : w.ownsRow base e 1 v (l.length + 1) (T l ++ [.string (S n)])) : w.ownsRow base e 1 v (l ++ [n]).length (T (l ++ [n])) := by
  rw [List.length_append, T_append]; exact h

theorem own_lenC {w : World} {base e n : Nat} {ao : Option Addr} {cap : Nat} {p q : List UInt8} (h : w.ownsRow base e 1 (.slice ao n cap) (p.length + q.length) (U (p ++ q))) : w.ownsRow base e 1 (.slice ao (p ++ q).length cap) (p ++ q).length (U (p ++ q)) := by
  have hn : n = p.length + q.length := by
    rcases h.2 with ⟨e1, e2⟩ | ⟨g, c, cur, e1, _⟩
    · simp only [Value.slice.injEq] at e1; omega
    · simp only [Value.slice.injEq] at e1; omega
  subst hn
  rw [List.length_append]; exact h

set_option maxHeartbeats 1000000 in
set_option maxRecDepth 20000 in
theorem carries (w : World) (al : Option Addr) (capl : Nat) (l : List (List UInt8)) (hrl : RowT w al l) (hll : l.length ≤ 9223372036854775807) (ao : Option Addr) (cap : Nat) (bs bh : List UInt8) (hr : Row w ao bs) (hlen : bs.length ≤ cap) (hcap : cap ≤ 9223372036854775807) (hbh : Hid (bs.take 6000 = bh)) (h6 : bh.length ≤ 6000) (cut : Int) (hcut : (Lit.int .i64 cut).wf = true) :
    Calls Try.prog 8 #[.slice al l.length capl, .slice ao bs.length cap, .int .i64 cut] w fun e w' => e = .returned (.bool true) ∧ Below w.heap.size w w' := by
  have HCUT := mkH hcut
  clear hcut
  go_enter Try.func8, Try.ntmps8
  go_wp2_with fail
  refine (few_any w ao cap bs hr hlen hcap).mono ?_
  rintro e w1 ⟨v1, rfl, hown1, hB⟩
  rw [hbh.out] at hown1
  have hrl1 := hrl.below hB
  clear hr hlen hcap hbh hrl
  obtain ⟨aob, capb, rfl⟩ := own_form hown1
  have hc63 : capb ≤ 9223372036854775807 := own_cap hown1
  obtain ⟨-, hcb, hR⟩ := Row.own hown1
  clear hown1
  go_wp2
  go_loopw [7, 8] (fun v ct wr => ∃ k : Nat, k ≤ l.length ∧ k ≤ 30 ∧ ct = .int .i64 k ∧ wr.ownsRow w1.heap.size 9 1 v (cutT l k).length (T (cutT l k)) ∧ Below w1.heap.size w1 wr) (fun _ ct _ => 30 - (intOf ct).toNat)
  case atStart => exact ⟨0, Nat.zero_le _, Nat.zero_le _, rfl, World.ownsRow_nil _ _ _ _, Below.refl _ _⟩
  case round =>
    obtain ⟨k, hk, hk30, rfl, hown, hbel⟩ := hrel
    have hsz := hbel.size
    by_cases hlt : k < l.length ∧ k < 30
    · obtain ⟨hlt1, hlt2⟩ := hlt
      obtain ⟨b, off, rfl, hc⟩ := hrl1 (by omega)
      obtain ⟨s, hs⟩ : ∃ s, l[k]? = some s := ⟨_, List.getElem?_eq_getElem hlt1⟩
      have hck1 : w1.cell? ⟨b, off + k, none⟩ = some (.string (S s)) := by rw [hc k hlt1]; simp [List.getD, hs]
      have hkb : b < w1.heap.size := World.block_lt_of_cell? w1 _ hck1
      have hck : wr.cell? ⟨b, off + k, none⟩ = some (.string (S s)) := by rw [hbel.cell (p := ⟨b, off + k, none⟩) hkb]; exact hck1
      have HK1 := mkH hck1
      have HS := mkH (cutT_succ hs)
      have hcl := cutT_len l k
      have hi : (k : Int) < (l.length : Int) := by omega
      have hi0 : (0 : Int) ≤ (k : Int) := by omega
      have hi30 : (k : Int) < 30 := by omega
      clear hs hc hck1
      by_cases hs2 : s.length ≤ 200
      · have hS2 : (S s).size ≤ 200 := hs2
        have hm : (if (200 : Int) < ((S s).size : Int) then (200 : Int) else ((S s).size : Int)) = ((S s).size : Int) := if_neg (by omega)
        have he : (S s).extract 0 (S s).size = S s := by rw [S_take, S_size, List.take_length]
        have he2 : ((S s).size : Int) ≤ ((S s).size : Int) := by omega
        have he3 : (0 : Int) ≤ ((S s).size : Int) := by omega
        have ht : s.take 200 = s := List.take_of_length_le hs2
        rw [ht] at HS
        clear ht
        go_wp2_with fail
        go_region_held3 (fun w' => w'.cell? ⟨b, off + k, none⟩ = some (.string (S s))) (first | go_keep | exact hkeep) (first
          | (refine atApp (.tmp 31) (.tmp 43) 43 43 ?_ ?_; rfl; refine step_append_own_src (by rfl) (.tmp 31) (.tmp 43) 43 43 (by rfl) w1.heap.size 9 (.string ByteArray.empty) 1 16 Try.underlying43 info9 (by rfl) (by decide) u7 (cutT l k).length (T (cutT l k)) (by rfl) (by exact (hown.alloc _).drew) (.slice (some ⟨wr.heap.size, 0, none⟩) 1 1) 1 [.string (S s)] (by rfl) (by exact src_valD Try.underlying43 wr (.string (S s)) rfl) (by unfold maxLen; omega) (by omega) (by simp; omega) ?_; intro v2 w2 hown2 hgrow2; have hbel2 : Below w1.heap.size w1 w2 := (by exact below_own (hown.alloc _).drew hgrow2 (hbel.alloc hsz _).drew (by simp; omega)); have hkeep := (hbel2.cell (p := ⟨b, off + k, none⟩) hkb).trans HK1.out))
        have hown3 := own_snocC hown2
        rw [← HS.out] at hown3
        clear hown2 hgrow2 hown hbel hkeep HK1 HS hck
        go_wp2
        go_roundw
        case rel => exact ⟨k + 1, by omega, by omega, by go_num, hown3, hbel2⟩
        case measure => simp [intOf]; omega
      · have hS2 : 200 < (S s).size := Nat.lt_of_not_le hs2
        have hm : (200 : Int) < ((S s).size : Int) := by omega
        have hm2 : (200 : Int) ≤ ((S s).size : Int) := by omega
        have he : (S s).extract 0 200 = S (s.take 200) := S_take s 200
        go_wp2_with fail
        go_region_held3 (fun w' => w'.cell? ⟨b, off + k, none⟩ = some (.string (S s))) (first | go_keep | exact hkeep) (first
          | (refine atApp (.tmp 31) (.tmp 43) 43 43 ?_ ?_; rfl; refine step_append_own_src (by rfl) (.tmp 31) (.tmp 43) 43 43 (by rfl) w1.heap.size 9 (.string ByteArray.empty) 1 16 Try.underlying43 info9 (by rfl) (by decide) u7 (cutT l k).length (T (cutT l k)) (by rfl) (by exact (hown.alloc _).drew) (.slice (some ⟨wr.heap.size, 0, none⟩) 1 1) 1 [.string (S (s.take 200))] (by rfl) (by exact src_valD Try.underlying43 wr (.string (S (s.take 200))) rfl) (by unfold maxLen; omega) (by omega) (by simp; omega) ?_; intro v2 w2 hown2 hgrow2; have hbel2 : Below w1.heap.size w1 w2 := (by exact below_own (hown.alloc _).drew hgrow2 (hbel.alloc hsz _).drew (by simp; omega)); have hkeep := (hbel2.cell (p := ⟨b, off + k, none⟩) hkb).trans HK1.out))
        have hown3 := own_snocC hown2
        rw [← HS.out] at hown3
        clear hown2 hgrow2 hown hbel hkeep HK1 HS hck
        go_wp2
        go_roundw
        case rel => exact ⟨k + 1, by omega, by omega, by go_num, hown3, hbel2⟩
        case measure => simp [intOf]; omega
    · have hF : (¬ ((k : Int) < (l.length : Int))) ∨ (((k : Int) < (l.length : Int)) ∧ ¬ ((k : Int) < 30)) := by omega
      have hms1 := cutT_len l k
      have hms2 := mkH (cutT_mem (l := l) (k := k))
      obtain ⟨am, capm, rfl⟩ := own_form hown
      have hRm := (RowT.own hown).2.2
      have hRb := hR.below hbel
      have hBc := hB.trans (hbel.mono hB.size)
      obtain ⟨ms, hms⟩ : ∃ ms, cutT l k = ms := ⟨_, rfl⟩
      rw [hms] at hms1 hms2 hRm ⊢
      clear hown hR hB hbel hms hlt hrl1 hsz
      have h1024 : ms.length ≤ 1024 := by omega
      have hx : Hid (∀ x ∈ ms, x.length ≤ 4096) := mkH (fun x hx => Nat.le_trans (hms2.out x hx) (by omega))
      have HBK := mkH (texts_back h1024 hx.out)
      have HCT := mkH (fun j => texts_cut h1024 hx.out (k := j))
      have hEp := encList_pos encText ms
      have hEl := encList_len h1024 hx.out
      have HT := texts_any wr aob capb bh hRb (by omega) am capm ms hRm h1024
      obtain ⟨E, hE⟩ : ∃ E, encList encText ms = E := ⟨_, rfl⟩
      rw [hE] at HBK HCT hEp hEl HT
      clear hE hms2
      rcases hF with hF | ⟨hF1, hF2⟩
      all_goals
        go_wp2_with fail
        refine HT.mono ?_
        rintro e w4 (⟨-, v4, rfl, hown4, hb4⟩ | ⟨hno, -⟩)
        rotate_left
        · exact absurd hx.out hno
        clear HT hx
        obtain ⟨ao4, cap4, rfl⟩ := own_form hown4
        have hc4 := (Row.own (own_lenC hown4)).2.1
        have hc64 := own_cap hown4
        rw [List.length_append] at hc4
        have hR4 := (Row.own (own_lenC hown4)).2.2
        have hB4 := hBc.trans (hb4.mono hBc.size)
        have hRb4 := hRb.below hb4
        have hRm4 := hRm.below hb4
        have hl4 : ((bh ++ E).take bh.length).length = bh.length := by simp
        have hs1 := strN (P := Try.prog) Try.underlying22 Try.underlying5 Try.underlying9 (Row_take hR4 bh.length) cap4
        have hs2 := strN (P := Try.prog) Try.underlying22 Try.underlying5 Try.underlying9 hRb4 capb
        rw [hl4, List.take_left] at hs1
        have hd4 := Row_drop hR4 (k := bh.length) (cap := cap4) (by rw [List.length_append]; exact hc4)
        rw [List.drop_left, if_neg (by omega)] at hd4
        obtain ⟨aq, haq⟩ : ∃ aq, Option.map (fun x => x.add bh.length) ao4 = aq := ⟨_, rfl⟩
        rw [haq] at hd4
        clear hown4 hl4 hb4 hBc hRb hRm hR4
        have t1 : (0 : Int) < (E.length : Int) := by omega
        have t2 : (bh.length : Int) ≤ (cap4 : Int) := by omega
        have t3 : (0 : Int) ≤ (bh.length : Int) := by omega
        go_wp2_with fail
        go_quiet (fail)
        have hB5 := below_drewN hB4 nq
        have hRb5 := Row_drewN hRb4 nq
        have hRm5 := RowT_drewN hRm4 nq
        have hd5 := Row_drewN hd4 nq
        clear hB4 hRb4 hRm4 hd4 hs1 hs2
        generalize w4.drewN nq = w5 at hB5 hRb5 hRm5 hd5 ⊢
        go_wp2_with (at_builtin; refine (wpList_append_own_src _ rfl (.tmp 71) (.tmp 72) 22 22 rfl w5.heap.size 5 (.int .u8 0) 1 1 Try.underlying22 info5 rfl (by decide) _ 0 [] rfl (World.ownsRow_made w5 #[] 0 (Nat.le_refl _) (Nat.zero_le _) rfl) _ E.length (U E) rfl (by exact Row.src (P := Try.prog) Try.underlying22 (hd5.below ((Below.refl w5.heap.size w5).alloc (Nat.le_refl _) (.cells #[] 5))) (cap4 - bh.length)) (by unfold maxLen; omega) (by omega) (by simp) ?_))
        intro v6 w6 hown6 hgrow6
        have hb6 := below_own (World.ownsRow_made (e := 5) (size := 1) w5 #[] 0 (Nat.le_refl _) (Nat.zero_le _) rfl) hgrow6 ((Below.refl w5.heap.size w5).alloc (Nat.le_refl _) (.cells #[] 5)) (by simp)
        have hs6 := hb6.size
        clear hgrow6
        go_wp2_with (at_builtin; refine (wpList_append_own_src _ rfl (.tmp 73) (.tmp 74) 22 22 rfl w5.heap.size 5 (.int .u8 0) 1 1 Try.underlying22 info5 rfl (by decide) _ E.length (U E) rfl hown6 _ bh.length (U bh) rfl (by exact Row.src (P := Try.prog) Try.underlying22 (hRb5.below hb6) capb) (by unfold maxLen; omega) (by omega) hs6 ?_))
        intro v7 w7 hown7 hgrow7
        have hb7 := below_own hown6 hgrow7 hb6 hs6
        rw [← U_append, ← List.length_append] at hown7
        obtain ⟨ao7, cap7, rfl⟩ := own_form hown7
        obtain ⟨-, hc7, hr7⟩ := Row.own hown7
        have hc67 := own_cap hown7
        have hB7 := hB5.trans (hb7.mono hB5.size)
        have hRm7 := hRm5.below hb7
        have hd7 := hd5.below hb7
        have H7 := Lt.readTexts_any w7 ao7 cap7 (E ++ bh) hr7 (by rw [List.length_append]; omega) hc7 hc67
        rw [HBK.out bh, List.length_append] at H7
        clear hgrow7 hown7 hown6 hb6 hb7 hB5 hRb5 hRm5 hd5 hr7 hs6
        go_wp2_with fail
        refine H7.mono ?_
        rintro e w8 ⟨v8, rfl, hown8, hb8⟩
        clear H7
        obtain ⟨ao8, cap8, rfl⟩ := own_form hown8
        have hRx := (RowT.own hown8).2.2
        have hB8 := hB7.trans (hb8.mono hB7.size)
        have hRm8 := hRm7.below hb8
        have hd8 := hd7.below hb8
        have H8 := same_any w8 ao8 am cap8 capm ms hRx hRm8 (by omega)
        clear hown8 hb8 hB7 hRm7 hd7 hRx hRm8
        go_wp2_with fail
        refine H8.mono ?_
        rintro e w9 ⟨rfl, n9, rfl⟩
        clear H8
        have hB9 := below_drewN hB8 n9
        have hd9 := Row_drewN hd8 n9
        clear hB8 hd8
        generalize w8.drewN n9 = w9 at hB9 hd9 ⊢
        have c1 : -(E.length : Int) < cut.tmod (E.length : Int) := Int.lt_tmod_of_pos _ t1
        have c2 : cut.tmod (E.length : Int) < (E.length : Int) := Int.tmod_lt_of_pos _ t1
        obtain ⟨i, hi⟩ : ∃ i : Nat, (cut.tmod (E.length : Int) + (E.length : Int)) % (E.length : Int) = (i : Int) := ⟨_, (Int.toNat_of_nonneg (Int.emod_nonneg _ (by omega))).symm⟩
        have hil : (i : Int) < (E.length : Int) := by rw [← hi]; exact Int.emod_lt_of_pos _ t1
        have hli : (E.take i).length = i := by rw [List.length_take]; omega
        have H9 := Lt.readTexts_any w9 aq (cap4 - bh.length) (E.take i) (Row_take hd9 i) (by omega) (by omega) (by omega)
        rw [HCT.out i (by omega), hli] at H9
        clear hli hd9
        go_wp2_with fail
        refine H9.mono ?_
        rintro e wa ⟨va, rfl, howna, hba⟩
        clear H9
        obtain ⟨aoa, capa, rfl⟩ := own_form howna
        have hBa := hB9.trans (hba.mono hB9.size)
        clear howna hba hB9
        go_wp2_with fail
        refine (works_any _).mono ?_
        rintro e wb ⟨rfl, hbb⟩
        have hBb := hBa.trans (hbb.mono hBa.size)
        clear hbb hBa
        go_wp2
        go_ret
        exact ⟨rfl, hBb⟩
end Go.Proofs.Ytionomjmebnjaaa.Ca
