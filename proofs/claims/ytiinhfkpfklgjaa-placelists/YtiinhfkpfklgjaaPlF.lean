/-
  Lists of ranges: Same, few, the document's Find.
-/
import Derived.Test.YtiinhfkpfklgjaaPlM
import Derived.Test.YtiinhfkpfklgjaaPlR
namespace Go.Proofs.Ytiinhfkpfklgjaa.Pf
open Go.RowKit Pl Pw Pr
open Kt hiding mkH
set_option linter.unusedVariables false
set_option maxRecDepth 20000

theorem info26 : (Try.prog.info? 26).map (fun i => (i.zero, i.size, i.bytes)) = some (some (.agg #[.int .i64 0, .int .i64 0]), 2, 16) := by kernel_rfl

/-- How far two lists are alike. -/
theorem take_succ_eq {α : Type} {a b : List α} {k : Nat} {x y : α} (ha : a[k]? = some x) (hb : b[k]? = some y) (h : a.take k = b.take k) (e : x = y) : a.take (k + 1) = b.take (k + 1) := by
  rw [List.take_add_one, List.take_add_one, h, ha, hb, e]
theorem ne_of_at {a b : List Rg} {k : Nat} {x y : Rg} (ha : a[k]? = some x) (hb : b[k]? = some y) (e : ¬ x = y) : ¬ a = b := by
  intro h; rw [h, hb] at ha; injection ha with ha; exact e ha.symm

set_option maxHeartbeats 1000000 in
theorem same_any (w : World) (aa ab : Option Addr) (ca cb : Nat) (la lb : List Rg) (ha : Rw w aa la) (hb : Rw w ab lb) (hl : la.length ≤ 1000000) :
    Calls Try.prog 25 #[.slice aa la.length ca, .slice ab lb.length cb] w fun e w' => e = .returned (.bool (decide (la = lb))) ∧ ∃ q, w' = w.drewN q := by
  obtain ⟨V, hV⟩ : ∃ V, V = decide (la = lb) := ⟨_, rfl⟩
  rw [← hV]
  have HV := mkH hV
  clear hV
  by_cases hn : la.length = lb.length
  · rw [← hn]
    go_enter Try.func25, Try.ntmps25
    go_wp2
    go_loopw [5] (fun i wr => ∃ k q : Nat, k ≤ la.length ∧ i = .int .i64 k ∧ wr = w.drewN q ∧ Hid (la.take k = lb.take k)) (fun i _ => la.length - (intOf i).toNat)
    case atStart => exact ⟨0, 0, Nat.zero_le _, rfl, rfl, rfl⟩
    case round =>
      obtain ⟨k, q, hk, rfl, rfl, HT⟩ := hrel
      by_cases hlt : k < la.length
      · obtain ⟨⟨r1, r2⟩, hr⟩ := some_of hlt
        obtain ⟨⟨s1, s2⟩, hs⟩ := some_of (show k < lb.length by omega)
        obtain ⟨b1, o1, rfl, hc1⟩ := ha (by omega)
        obtain ⟨b2, o2, rfl, hc2⟩ := hb (by omega)
        obtain ⟨u1, u2⟩ := hc1 k _ hr
        obtain ⟨x1, x2⟩ := hc2 k _ hs
        have u1' : (w.drewN q).cell? ⟨b1, o1 + k * 2, none⟩ = some (.int .i64 r1) := u1
        have u2' : (w.drewN q).cell? ⟨b1, o1 + k * 2 + 1, none⟩ = some (.int .i64 r2) := u2
        have x1' : (w.drewN q).cell? ⟨b2, o2 + k * 2, none⟩ = some (.int .i64 s1) := x1
        have x2' : (w.drewN q).cell? ⟨b2, o2 + k * 2 + 1, none⟩ = some (.int .i64 s2) := x2
        have HR := mkH hr
        have HSS := mkH hs
        have HN := mkH hn
        have e1 := neqR r1 r2 s1 s2
        have g1 := guardR
        have hi : (k : Int) < (la.length : Int) := by omega
        have hi0 : (0 : Int) ≤ (k : Int) := by omega
        clear hc1 hc2 u1 u2 x1 x2 ha hb hr hs hn
        generalize hwq : w.drewN q = wq at u1' u2' x1' x2' ⊢
        have HW := mkH hwq
        clear hwq
        go_wp2_with fail
        go_quiet (fail)
        by_cases he : r1 = s1 ∧ r2 = s2
        · have ht : (!decide (r1 = s1) || !decide (r2 = s2)) = false := by simp [he]
          rw [ht]
          have HEQ := mkH (take_succ_eq HR.out HSS.out HT.out (Prod.ext he.1 he.2))
          clear ht he e1 g1 u1' u2' x1' x2'
          go_wp2
          go_roundw
          case rel => exact ⟨k + 1, q + nq, by omega, by go_num, by rw [← HW.out, World.drewN_drewN], HEQ⟩
          case measure => simp [intOf]; omega
        · have ht : (!decide (r1 = s1) || !decide (r2 = s2)) = true := by simp; omega
          rw [ht]
          have HEQ := mkH (ne_of_at HR.out HSS.out (fun h => he ⟨congrArg Prod.fst h, congrArg Prod.snd h⟩))
          clear ht he e1 g1 u1' u2' x1' x2'
          go_wp2
          go_ret
          refine ⟨?_, q + nq, by rw [← HW.out, World.drewN_drewN]⟩
          rw [HV.out, decide_eq_false HEQ.out]
          rfl
      · have : k = la.length := by omega
        subst this
        clear ha hb
        go_wp2
        go_ret
        refine ⟨?_, q, rfl⟩
        have h1 := HT.out
        rw [List.take_length, List.take_of_length_le (by omega)] at h1
        rw [HV.out, decide_eq_true h1]
        rfl
  · have hn1 : ¬ (la.length : Int) = (lb.length : Int) := by omega
    clear ha hb
    go_enter Try.func25, Try.ntmps25
    go_wp2
    go_ret
    refine ⟨?_, 0, rfl⟩
    rw [HV.out, decide_eq_false (fun h => hn (by rw [h]))]
    rfl

theorem fnd_step {l : List Rg} {k : Nat} {r : Rg} (p : Int) (h : l[k]? = some r) : fnd (l.drop k) p k = if inn r p then (k : Int) else fnd (l.drop (k + 1)) p (k + 1) := by
  have hk : k < l.length := by
    rcases Nat.lt_or_ge k l.length with h1 | h1
    · exact h1
    · rw [List.getElem?_eq_none h1] at h; cases h
  rw [List.drop_eq_getElem_cons hk, fnd]
  rw [List.getElem?_eq_getElem hk] at h
  injection h with h
  rw [h]
theorem fnd_end {l : List Rg} {k : Nat} (p : Int) (h : l.length ≤ k) : fnd (l.drop k) p k = -1 := by
  rw [List.drop_eq_nil_of_le h]; rfl

set_option maxHeartbeats 1000000 in
theorem rfind_any (w : World) (ao : Option Addr) (cap : Nat) (l : List Rg) (p : Int) (hr : Rw w ao l) (hl : l.length ≤ 1000000) :
    Calls Try.prog 22 #[.slice ao l.length cap, .int .i64 p] w fun e w' => e = .returned (.int .i64 (fnd l p 0)) ∧ Gr w w' := by
  go_enter Try.func22, Try.ntmps22
  go_wp2
  go_loopw [5] (fun i wr => ∃ k : Nat, k ≤ l.length ∧ i = .int .i64 k ∧ Gr w wr ∧ Hid (fnd l p 0 = fnd (l.drop k) p k)) (fun i _ => l.length - (intOf i).toNat)
  case atStart => exact ⟨0, Nat.zero_le _, rfl, Gr.refl w, rfl⟩
  case round =>
    obtain ⟨k, hk, rfl, hg, HF⟩ := hrel
    by_cases hlt : k < l.length
    · obtain ⟨⟨r1, r2⟩, hrk⟩ := some_of hlt
      obtain ⟨b, o, rfl, hc⟩ := (hr.below hg.below) (by omega)
      obtain ⟨u1, u2⟩ := hc k _ hrk
      have HS := mkH (fnd_step p hrk)
      have hi : (k : Int) < (l.length : Int) := by omega
      have hi0 : (0 : Int) ≤ (k : Int) := by omega
      have hin := fun W => rin_any W r1 r2 p
      clear hc hrk hr
      have HG := mkH hg
      clear hg
      cases hq : inn (r1, r2) p
      · rw [hq] at hin
        rw [hq] at HS
        go_wp2_with fail
        refine (hin _).mono ?_
        rintro e w1 ⟨rfl, hg1⟩
        go_wp2
        go_roundw
        case rel => exact ⟨k + 1, by omega, by go_num, HG.out.trans hg1, HF.out.trans HS.out⟩
        case measure => simp [intOf]; omega
      · rw [hq] at hin
        rw [hq] at HS
        go_wp2_with fail
        refine (hin _).mono ?_
        rintro e w1 ⟨rfl, hg1⟩
        go_wp2
        go_ret
        refine ⟨?_, HG.out.trans hg1⟩
        rw [HF.out, HS.out]
        rfl
    · have : k = l.length := by omega
      subst this
      have HE := mkH (fnd_end (l := l) p (Nat.le_refl _))
      clear hr
      go_wp2
      go_ret
      refine ⟨?_, hg⟩
      rw [HF.out, HE.out]
      rfl

set_option maxHeartbeats 1000000 in
theorem few_any (w : World) (ao : Option Addr) (cap : Nat) (l : List Rg) (hr : Rw w ao l) (hlen : l.length ≤ cap) (hcap : cap ≤ 9223372036854775807) :
    Calls Try.prog 20 #[.slice ao l.length cap] w fun e w' => ∃ v, e = .returned v ∧ Ow w' w.heap.size v (l.take 40) ∧ Below w.heap.size w w' := by
  have hr6 := hr.take 40
  obtain ⟨m, hm⟩ : ∃ m, m = min l.length 40 := ⟨_, rfl⟩
  have hl : (l.take 40).length = m := by rw [List.length_take]; omega
  have hm1 : min (l.length : Int) 40 = (m : Int) := by omega
  have hm2 : (m : Int) ≤ (cap : Int) := by omega
  have hm3 : m ≤ 40 := by omega
  unfold Ow
  rw [hl]
  generalize l.take 40 = t at hr6 hl ⊢
  have HL := mkH hl
  clear hm hr hl
  go_enter Try.func20, Try.ntmps20
  go_wp2_with (at_builtin; refine (wpList_append_own_src _ rfl (.tmp 3) (.tmp 8) 36 36 rfl w.heap.size 26 (.agg #[.int .i64 0, .int .i64 0]) 2 16 Try.underlying36 info26 rfl (by decide) _ 0 [] rfl (World.ownsRow_made w #[] 0 (Nat.le_refl _) (Nat.zero_le _) rfl) _ m (E t) rfl ?hsrc ?h63 ?hby ?hbs ?_))
  case hsrc => have := Rw.src (P := Try.prog) Try.underlying36 (hr6.below ((Below.refl w.heap.size w).alloc (Nat.le_refl _) (.cells #[] 26))) cap; rw [HL.out] at this; exact this
  case h63 => unfold maxLen; omega
  case hby => omega
  case hbs => simp
  intro v2 w2 hown2 hgrow2
  have hbel := below_own (World.ownsRow_made (e := 26) (size := 2) w #[] 0 (Nat.le_refl _) (Nat.zero_le _) rfl) hgrow2 ((Below.refl w.heap.size w).alloc (Nat.le_refl _) (.cells #[] 26)) (by simp)
  clear hgrow2 hr6
  go_wp2
  go_ret
  exact ⟨v2, rfl, hown2, hbel⟩
end Go.Proofs.Ytiinhfkpfklgjaa.Pf
