/-
  The walk of 'does'.
-/
import Derived.Test.YtgdmkhmdfijieaaDiQ
namespace Go.Proofs.Ytgdmkhmdfijieaa.Ddo
open Go.RowKit Kt Dk Dp Da Db Dc Dd De Df Dg Dst Dr Dr2 Dr3 Dq
set_option linter.unusedVariables false
set_option maxRecDepth 20000

/-- Bytes that are turned one by one; nothing else turns. -/
def Bq (w4 W : World) (va : Option Addr) (m : Nat) : Prop :=
  Fr (fun k => ∃ off sp, va = some ⟨k, off, sp⟩) w4 W ∧ (0 < m → ∃ g cur, va = some ⟨g, 0, none⟩ ∧ W.heap[g]? = some (.cells cur 5 (0, 0)) ∧ m ≤ cur.size ∧ ∀ j, j < m → ∃ x : Int, cur[j]? = some (.int .u8 x))
theorem bq_start {w4 : World} {base m vc : Nat} {va : Option Addr} {bs : List UInt8} (h : w4.ownsRow base 5 1 (.slice va m vc) m (U bs)) : Bq w4 w4 va m := by
  refine ⟨Fr.refl _ _, fun h0 => ?_⟩
  have hm : m = bs.length := by have := h.1; rw [U_length] at this; omega
  rcases h.2 with ⟨e1, e2⟩ | ⟨g, c, cur, e1, -, hg, hc, -, hs, ht⟩
  · omega
  · simp only [Value.slice.injEq] at e1
    obtain ⟨rfl, -, rfl⟩ := e1
    refine ⟨g, cur, rfl, hg, by omega, fun j hj => ⟨((bs.getD j 0).toNat : Int), ?_⟩⟩
    have h1 : (cur.toList.take (m * 1))[j]? = (U bs)[j]? := by rw [ht]
    rw [List.getElem?_take, if_pos (by omega), U_at bs j (by omega)] at h1
    simpa using h1
theorem bq_at {w4 W : World} {va : Option Addr} {m : Nat} (h : Bq w4 W va m) (j : Nat) (hj : j < m) : ∃ (g : Nat) (x : Int), va = some ⟨g, 0, none⟩ ∧ W.cell? ⟨g, j, none⟩ = some (.int .u8 x) ∧ W.frozen? ⟨g, j, none⟩ = false ∧ ∀ y : Int, Bq w4 (W.setCell ⟨g, j, none⟩ (.int .u8 y)) va m := by
  obtain ⟨g, cur, rfl, hg, hs, hx⟩ := h.2 (by omega)
  obtain ⟨x, hxj⟩ := hx j hj
  refine ⟨g, x, rfl, by rw [cell_of_row _ _ _ _ _ _ hg]; exact hxj, frozen_of_row W g j _ _ hg, fun y => ?_⟩
  rw [setCell_eq_setRow W g j _ _ (0, 0) _ hg]
  refine ⟨h.1.setRow (.inl ⟨0, none, rfl⟩) _, fun _ => ⟨g, _, rfl, setRow_heap _ _ _ _ _ _ hg, by simpa using hs, fun i hi => ?_⟩⟩
  by_cases hij : i = j
  · subst hij
    have hj2 : i < cur.size := by omega
    exact ⟨y, by simp [hj2]⟩
  · obtain ⟨z, hz⟩ := hx i hi
    exact ⟨z, by rw [Array.getElem?_setIfInBounds_ne (fun e => hij e.symm)]; exact hz⟩

set_option maxHeartbeats 8000000 in
theorem does_any {w1 : World} {P : Nat → Prop} {w : World} {D R : Nat} {s : St} (h : Pr w1 P w D R s s) (kd n fl : Int) (xa : Option Addr) (xc : Nat) (xb : List UInt8) (hrow : Row w xa xb) (hxl : xb.length ≤ xc) (hxc : xc ≤ 9223372036854775807) (hxf : fl ≤ 9223372036854775807) :
    Calls Try.prog 12 #[.pointer (some ⟨D, 0, none⟩), .pointer (some ⟨R, 0, none⟩), .agg #[.int .i64 kd, .int .i64 n, .int .i64 fl, .slice xa xb.length xc]] w fun e w' => e = .returned (.bool true) ∧ Pr w1 P w' D R (act s kd n fl (xb.take 500)) (act s kd n fl (xb.take 500)) := by
  obtain ⟨m, hm1, hm2, hm3, hm4⟩ := min_len xb 500
  have hm2 : (if (500 : Int) < (xb.length : Int) then (500 : Int) else (xb.length : Int)) = (m : Int) := hm2
  have hrt := Row_take hrow 500
  obtain ⟨bs, hbs⟩ : ∃ bs, xb.take 500 = bs := ⟨_, rfl⟩
  rw [hbs] at hm1 hrt ⊢
  obtain ⟨S', hS'⟩ : ∃ S', act s kd n fl bs = S' := ⟨_, rfl⟩
  rw [hS']
  have HS := mkH hS'
  have HM := mkH hm1
  have H := mkH h
  have HRT := mkH hrt
  clear h hrow hrt hbs hm1 hS'
  go_enter Try.func12, Try.ntmps12
  go_wp2_with (at_builtin; refine (wpList_append_own_src _ rfl (.tmp 11) (.tmp 18) 26 26 rfl (w.heap.size + 1) 5 (.int .u8 0) 1 1 Try.underlying26 info5 rfl (by decide) _ 0 [] rfl ?hown0 _ m (U bs) rfl ?hsrc ?h63 ?hby ?hbs ?_))
  case hown0 =>
    have := World.ownsRow_made (base := w.heap.size + 1) (e := 5) (size := 1) (w.alloc (.cells #[.int .i64 kd, .int .i64 n, .int .i64 fl, .slice xa xb.length xc] 30)) #[] 0 (by simp) (Nat.zero_le _) rfl
    simp only [World.size_alloc] at this
    exact this
  case hsrc =>
    have := Row.src (P := Try.prog) Try.underlying26 ((HRT.out.below (below_alloc w (.cells #[.int .i64 kd, .int .i64 n, .int .i64 fl, .slice xa xb.length xc] 30))).below (below_alloc _ (.cells #[] 5))) xc
    rw [HM.out] at this
    exact this
  case h63 => unfold maxLen; omega
  case hby => omega
  case hbs => simp
  intro v2 w2 hown2 hgrow2
  have ho0 := World.ownsRow_made (base := w.heap.size + 1) (e := 5) (size := 1) (w.alloc (.cells #[.int .i64 kd, .int .i64 n, .int .i64 fl, .slice xa xb.length xc] 30)) #[] 0 (by simp) (Nat.zero_le _) rfl
  have hbw0 : Below (w.heap.size + 1) (w.alloc (.cells #[.int .i64 kd, .int .i64 n, .int .i64 fl, .slice xa xb.length xc] 30)) ((w.alloc (.cells #[.int .i64 kd, .int .i64 n, .int .i64 fl, .slice xa xb.length xc] 30)).alloc (.cells #[] 5)) := by
    have := below_alloc (w.alloc (.cells #[.int .i64 kd, .int .i64 n, .int .i64 fl, .slice xa xb.length xc] 30)) (.cells #[] 5)
    simpa using this
  have hbw := below_own ho0 (by simpa using hgrow2) hbw0 (by simp)
  have hown2 : w2.ownsRow (w.heap.size + 1) 5 1 v2 m (U bs) := by simpa using hown2
  obtain ⟨va, vc, rfl⟩ := own_form hown2
  have hh0 : w2.heap[w.heap.size]? = some (.cells #[.int .i64 kd, .int .i64 n, .int .i64 fl, .slice xa xb.length xc] 30 (0, 0)) := by
    rw [hbw.block _ (by omega)]; exact heap_alloc_new _ _
  have hb2 : Below w.heap.size w w2 := (below_alloc w _).trans (hbw.mono (by omega))
  obtain ⟨A, hA⟩ : ∃ A, w.heap.size = A := ⟨_, rfl⟩
  obtain ⟨P', hP'⟩ : ∃ P' : Nat → Prop, P' = (fun k => P k ∨ (w.heap.size ≤ k ∧ k < w2.heap.size)) := ⟨_, rfl⟩
  have hp2 := H.out.more hb2
  rw [← hP'] at hp2
  have H2 := mkH hp2
  have hlt := hown2.lt
  have HCA : Hid (∀ W s t, Pr w2 P' W D R s t → W.cell? ⟨A, 0, none⟩ = some (.int .i64 kd) ∧ W.cell? ⟨A, 1, none⟩ = some (.int .i64 n) ∧ W.cell? ⟨A, 2, none⟩ = some (.int .i64 fl)) := fun W s t hW => by
    have hx : W.heap[A]? = some (.cells #[.int .i64 kd, .int .i64 n, .int .i64 fl, .slice xa xb.length xc] 30 (0, 0)) := by
      rw [hW.2.1.heap (by rw [← hA]; exact block_lt hh0) (fun x => x (by rw [hP', ← hA]; exact .inr ⟨Nat.le_refl _, block_lt hh0⟩)), ← hA]; exact hh0
    rw [cell_of_row _ _ _ _ _ _ hx, cell_of_row _ _ _ _ _ _ hx, cell_of_row _ _ _ _ _ _ hx]
    exact ⟨rfl, rfl, rfl⟩
  have HOW : Hid (∀ W s t, Pr w2 P' W D R s t → W.ownsRow (w.heap.size + 1) 5 1 (.slice va m vc) m (U bs)) := fun W s t hW => by
    refine ⟨hown2.1, ?_⟩
    rcases hown2.2 with x | ⟨g, c, cur, e1, hb, hg, hx⟩
    · exact .inl x
    · refine .inr ⟨g, c, cur, e1, hb, ?_, hx⟩
      rw [hW.2.1.heap (block_lt hg) (fun x => x (by rw [hP']; exact .inr ⟨by omega, block_lt hg⟩))]; exact hg
  have HBACK : Hid (∀ W4 W s t, Pr w2 P' W4 D R s t → Bq W4 W va m → Pr w1 P W D R s t) := fun W4 W s t h4 hq => by
    obtain ⟨-, hf, hg⟩ := H.out
    refine h4.back (P0 := P) (by rw [hP']; exact fun k hk => .inl hk) (hf.trans (Fr.ofBelow (F := fun _ => False) hb2) (fun _ x => x.elim)) hg hq.1 ?_
    rintro k ⟨off, sp, rfl⟩
    have hk := hlt k rfl
    have : ¬ P k := fun hp => by have := hg k hp; have := hf.size; omega
    exact ⟨by rw [hP']; exact .inr ⟨by omega, hk.2⟩, this⟩
  have HROW : Hid (∀ W s t, Pr w2 P' W D R s t → Row W va bs) := fun W s t hW => (Row.own (HOW.out W s t hW)).2.2
  have hvl := (Row.own hown2).2.1
  have hvc := own_cap hown2
  obtain ⟨cA0, cA1, cA2⟩ := HCA.out _ _ _ H2.out
  rw [hA]
  clear hown2 hgrow2 ho0 hbw0 hbw hh0 hb2 hp2 hlt hP' hA
  by_cases h0 : kd = 0
  · subst h0
    have HACT : Hid (act s 0 n fl bs = appS s bs) := rfl
    go_wp2_with fail
    have q3 := append_pr H2.out va vc bs (HROW.out _ _ _ H2.out) (by rw [HM.out]; omega)
    rw [HM.out] at q3
    refine q3.mono ?_
    rintro e w3 ⟨rfl, h3⟩
    have H3 := mkH h3
    clear h3 q3
    go_wp2_with fail
    have q4 := rappend_pr H3.out va vc bs (HROW.out _ _ _ H3.out) (by rw [HM.out]; omega)
    rw [HM.out] at q4
    refine q4.mono ?_
    rintro e w4 ⟨rfl, h4⟩
    clear H3 q4
    have H4 := mkH h4
    clear h4 cA0 cA1 cA2
    have HQ0 := mkH (bq_start (HOW.out _ _ _ H4.out))
    generalize appE s m = E at *
    go_wp2_with fail
    go_loopw [74] (fun i W => ∃ j : Nat, j ≤ m ∧ i = .int .i64 j ∧ Hid (Bq w4 W va m)) (fun i _ => m - (intOf i).toNat)
    case atStart => exact ⟨0, by omega, rfl, HQ0⟩
    case round =>
      obtain ⟨j, hj, rfl, HQ⟩ := hrel
      by_cases hjm : j = m
      · subst hjm
        go_wp2
        go_ret
        refine ⟨rfl, ?_⟩
        rw [← HS.out, HACT.out]
        exact HBACK.out _ _ _ _ H4.out HQ.out
      · have hjl : j < m := by omega
        obtain ⟨g, x, hva, hc, hfz, hset⟩ := bq_at HQ.out j hjl
        have HSET := mkH hset
        subst hva
        clear hset
        go_wp2_with fail
        refine ⟨⟨j + 1, by omega, by go_num, HSET.out _⟩, by simp [intOf]; omega⟩
  · have t0 : (kd == 0) = false := by simp [h0]
    by_cases h1 : kd = 1
    · subst h1
      have HACT : Hid (act s 1 n fl bs = synS s) := rfl
      go_wp2_with fail
      refine (sync_pr H2.out).mono ?_
      rintro e w3 ⟨rfl, h3⟩
      have H3 := mkH h3
      clear h3
      go_wp2_with fail
      refine (rsync_pr H3.out).mono ?_
      rintro e w4 ⟨rfl, h4⟩
      clear H3
      have H4 := mkH h4
      clear h4 cA0 cA1 cA2
      have HQ0 := mkH (bq_start (HOW.out _ _ _ H4.out))
      generalize synE s = E at *
      go_wp2_with fail
      go_loopw [74] (fun i W => ∃ j : Nat, j ≤ m ∧ i = .int .i64 j ∧ Hid (Bq w4 W va m)) (fun i _ => m - (intOf i).toNat)
      case atStart => exact ⟨0, by omega, rfl, HQ0⟩
      case round =>
        obtain ⟨j, hj, rfl, HQ⟩ := hrel
        by_cases hjm : j = m
        · subst hjm
          go_wp2
          go_ret
          refine ⟨rfl, ?_⟩
          rw [← HS.out, HACT.out]
          exact HBACK.out _ _ _ _ H4.out HQ.out
        · have hjl : j < m := by omega
          obtain ⟨g, x, hva, hc, hfz, hset⟩ := bq_at HQ.out j hjl
          have HSET := mkH hset
          subst hva
          clear hset
          go_wp2_with fail
          refine ⟨⟨j + 1, by omega, by go_num, HSET.out _⟩, by simp [intOf]; omega⟩
    · have t1 : (kd == 1) = false := by simp [h1]
      by_cases h2 : kd = 2
      · subst h2
        have HACT : Hid (act s 2 n fl bs = cutS s n) := rfl
        have HD2 := mkH (H2.out.below (below_drewN (Below.refl _ _) 1))
        go_wp2_with fail
        go_region_held3 (fun w' => w'.cell? ⟨A, 1, none⟩ = some (.int .i64 n) ∧ w'.cell? ⟨A, 2, none⟩ = some (.int .i64 fl)) (first | exact ⟨cA1, cA2⟩ | exact hkeep | exact hkeep2) (first
          | (go_at_call 11; refine (cut_pr HD2.out n).mono ?_; rintro e w3 ⟨rfl, h3⟩; have hkeep := (HCA.out _ _ _ h3).2)
          | (go_at_call 31; refine (rcut_pr h3 n).mono ?_; rintro e w4 ⟨rfl, h4⟩; have hkeep2 := (HCA.out _ _ _ h4).2))
        clear hkeep hkeep2 h3
        have H4 := mkH h4
        clear h4 cA0 cA1 cA2
        have HQ0 := mkH (bq_start (HOW.out _ _ _ H4.out))
        generalize cutE s n = E at *
        go_wp2_with fail
        go_loopw [74] (fun i W => ∃ j : Nat, j ≤ m ∧ i = .int .i64 j ∧ Hid (Bq w4 W va m)) (fun i _ => m - (intOf i).toNat)
        case atStart => exact ⟨0, by omega, rfl, HQ0⟩
        case round =>
          obtain ⟨j, hj, rfl, HQ⟩ := hrel
          by_cases hjm : j = m
          · subst hjm
            go_wp2
            go_ret
            refine ⟨rfl, ?_⟩
            rw [← HS.out, HACT.out]
            exact HBACK.out _ _ _ _ H4.out HQ.out
          · have hjl : j < m := by omega
            obtain ⟨g, x, hva, hc, hfz, hset⟩ := bq_at HQ.out j hjl
            have HSET := mkH hset
            subst hva
            clear hset
            go_wp2_with fail
            refine ⟨⟨j + 1, by omega, by go_num, HSET.out _⟩, by simp [intOf]; omega⟩
      · have t2 : (kd == 2) = false := by simp [h2]
        by_cases h3 : kd = 3
        · subst h3
          have HACT : Hid (act s 3 n fl bs = swpS s bs) := rfl
          go_wp2_with fail
          have q3 := swap_pr H2.out va vc bs (HROW.out _ _ _ H2.out) (by rw [HM.out]; omega)
          rw [HM.out] at q3
          refine q3.mono ?_
          rintro e w3 ⟨rfl, h3⟩
          have H3 := mkH h3
          clear h3 q3
          go_wp2_with fail
          have q4 := rswap_pr H3.out va vc bs (HROW.out _ _ _ H3.out) (by rw [HM.out]; omega)
          rw [HM.out] at q4
          refine q4.mono ?_
          rintro e w4 ⟨rfl, h4⟩
          clear H3 q4
          have H4 := mkH h4
          clear h4 cA0 cA1 cA2
          have HQ0 := mkH (bq_start (HOW.out _ _ _ H4.out))
          generalize swpE s m = E at *
          go_wp2_with fail
          go_loopw [74] (fun i W => ∃ j : Nat, j ≤ m ∧ i = .int .i64 j ∧ Hid (Bq w4 W va m)) (fun i _ => m - (intOf i).toNat)
          case atStart => exact ⟨0, by omega, rfl, HQ0⟩
          case round =>
            obtain ⟨j, hj, rfl, HQ⟩ := hrel
            by_cases hjm : j = m
            · subst hjm
              go_wp2
              go_ret
              refine ⟨rfl, ?_⟩
              rw [← HS.out, HACT.out]
              exact HBACK.out _ _ _ _ H4.out HQ.out
            · have hjl : j < m := by omega
              obtain ⟨g, x, hva, hc, hfz, hset⟩ := bq_at HQ.out j hjl
              have HSET := mkH hset
              subst hva
              clear hset
              go_wp2_with fail
              refine ⟨⟨j + 1, by omega, by go_num, HSET.out _⟩, by simp [intOf]; omega⟩
        · have t3 : (kd == 3) = false := by simp [h3]
          by_cases h4 : kd = 4
          · subst h4
            have HACT : Hid (act s 4 n fl bs = crsS s n fl) := rfl
            have HD2 := mkH (H2.out.below (below_drewN (Below.refl _ _) 1))
            go_wp2_with fail
            go_region_held3 (fun w' => w'.cell? ⟨A, 1, none⟩ = some (.int .i64 n) ∧ w'.cell? ⟨A, 2, none⟩ = some (.int .i64 fl)) (first | exact ⟨cA1, cA2⟩ | exact hkeep | exact hkeep2) (first
              | (go_at_call 21; refine (crash_pr HD2.out n fl hxf).mono ?_; rintro e w3 ⟨rfl, h3⟩; have hkeep := (HCA.out _ _ _ h3).2)
              | (go_at_call 33; refine (rcrash_pr h3 n fl hxf).mono ?_; rintro e w4 ⟨rfl, h4⟩; have hkeep2 := (HCA.out _ _ _ h4).2))
            clear hkeep hkeep2 h3
            have H4 := mkH h4
            clear h4 cA0 cA1 cA2
            have HQ0 := mkH (bq_start (HOW.out _ _ _ H4.out))
            generalize crsE s n = E at *
            go_wp2_with fail
            go_loopw [74] (fun i W => ∃ j : Nat, j ≤ m ∧ i = .int .i64 j ∧ Hid (Bq w4 W va m)) (fun i _ => m - (intOf i).toNat)
            case atStart => exact ⟨0, by omega, rfl, HQ0⟩
            case round =>
              obtain ⟨j, hj, rfl, HQ⟩ := hrel
              by_cases hjm : j = m
              · subst hjm
                go_wp2
                go_ret
                refine ⟨rfl, ?_⟩
                rw [← HS.out, HACT.out]
                exact HBACK.out _ _ _ _ H4.out HQ.out
              · have hjl : j < m := by omega
                obtain ⟨g, x, hva, hc, hfz, hset⟩ := bq_at HQ.out j hjl
                have HSET := mkH hset
                subst hva
                clear hset
                go_wp2_with fail
                refine ⟨⟨j + 1, by omega, by go_num, HSET.out _⟩, by simp [intOf]; omega⟩
          · have t4 : (kd == 4) = false := by simp [h4]
            have HACT : Hid (act s kd n fl bs = rstS s) := by unfold Hid act; rw [if_neg h0, if_neg h1, if_neg h2, if_neg h3, if_neg h4]
            clear h0 h1 h2 h3 h4
            go_wp2_with fail
            refine (restart_pr H2.out).mono ?_
            rintro e w3 ⟨rfl, h3⟩
            have H3 := mkH h3
            clear h3
            go_wp2_with fail
            refine (rrestart_pr H3.out).mono ?_
            rintro e w4 ⟨rfl, h4⟩
            clear H3
            have H4 := mkH h4
            clear h4 cA0 cA1 cA2
            have HQ0 := mkH (bq_start (HOW.out _ _ _ H4.out))
            generalize rstE s = E at *
            go_wp2_with fail
            go_loopw [74] (fun i W => ∃ j : Nat, j ≤ m ∧ i = .int .i64 j ∧ Hid (Bq w4 W va m)) (fun i _ => m - (intOf i).toNat)
            case atStart => exact ⟨0, by omega, rfl, HQ0⟩
            case round =>
              obtain ⟨j, hj, rfl, HQ⟩ := hrel
              by_cases hjm : j = m
              · subst hjm
                go_wp2
                go_ret
                refine ⟨rfl, ?_⟩
                rw [← HS.out, HACT.out]
                exact HBACK.out _ _ _ _ H4.out HQ.out
              · have hjl : j < m := by omega
                obtain ⟨g, x, hva, hc, hfz, hset⟩ := bq_at HQ.out j hjl
                have HSET := mkH hset
                subst hva
                clear hset
                go_wp2_with fail
                refine ⟨⟨j + 1, by omega, by go_num, HSET.out _⟩, by simp [intOf]; omega⟩
end Go.Proofs.Ytgdmkhmdfijieaa.Ddo
