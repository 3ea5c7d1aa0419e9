/-
  The walk of CrcAll.
-/
import Derived.Test.YtjmhgifdkmglhabDoorCrcZ
namespace Go.Proofs.YtjmhgifdkmglhabDoor.Ch
open Go.RowKit Kt Cs Cw Cf Cn Cg Ck Ca Ct Cv Cy Cl Cz
set_option linter.unusedVariables false

theorem bods_len (ps : List Part) : (bods ps).length = min 20 ps.length := by simp [bods]
theorem bods_at {ps : List Part} {k : Nat} {p : Part} (h : ps[k]? = some p) (hk : k < 20) : (bods ps)[k]? = some (p.bs.take 3000) := by
  simp [bods, h, hk]
theorem take_bods {ps : List Part} {k : Nat} {p : Part} (h : ps[k]? = some p) (hk : k < 20) : (bods ps).take (k + 1) = (bods ps).take k ++ [p.bs.take 3000] := by
  rw [List.take_add_one, bods_at h hk]; rfl
theorem ends_le (bs : List UInt8) : ∀ f k, k ≤ bs.length → ends bs f k ≤ bs.length
  | 0, k, h => h
  | f + 1, k, h => by
    rw [ends]
    split
    · rename_i h0
      have := (Cp.fd_some h0).1
      rw [List.length_drop] at this
      exact ends_le bs f _ (by omega)
    · exact h
theorem gend_le (bs : List UInt8) (h : bs.length ≤ 1000000000) : gend bs ≤ 1000000000 := Nat.le_trans (ends_le bs _ 0 (Nat.zero_le _)) h
theorem bods_le (ps : List Part) : ∀ x ∈ bods ps, x.length ≤ 3000 := by
  intro x hx
  obtain ⟨p, _, rfl⟩ := List.mem_map.1 hx
  rw [List.length_take]; omega
theorem fcat_len (l : List (List UInt8)) (k : Nat) (h : ∀ x ∈ l, x.length ≤ 3000) : (fcat (l.take k)).length ≤ 3012 * k := by
  induction k with
  | zero => simp [fcat]
  | succ k ih =>
    rw [List.take_add_one]
    cases hx : l[k]? with
    | none => simp; omega
    | some x =>
      simp only [Option.toList_some]
      rw [fcat_snoc, List.length_append, Cp.frame_len]
      have := h x (List.mem_of_getElem? hx)
      omega

set_option maxHeartbeats 1000000 in
set_option maxRecDepth 20000 in
theorem all_walk (w : World) (hT : Tb w) (ao ap : Option Addr) (cap cbp : Nat) (ps : List Part) (bp : List UInt8) (mo : Int) (hP : RowB w ao ps) (hlen : ps.length ≤ cap) (hcap : cap ≤ 9223372036854775807) (hrp : Row w ap bp) (hlenp : bp.length ≤ cbp) (hcapp : cbp ≤ 9223372036854775807) :
    Calls Tryd.prog 3 #[.slice ao ps.length cap, .slice ap bp.length cbp, .int .i64 mo] w fun e w' => e = .returned (.bool true) ∧ Below w.heap.size w w' := by
  have hT0 := hT.size
  have t1 : (0 : Int) < ((12 : Nat) : Int) := by omega
  have m1 : -12 < mo.tmod 12 := Int.lt_tmod_of_pos mo t1
  have m2 : mo.tmod 12 < 12 := Int.tmod_lt_of_pos mo t1
  obtain ⟨mn, hmn⟩ : ∃ mn : Nat, (mo.tmod 12 + 12) % 12 = (mn : Int) := ⟨_, (Int.toNat_of_nonneg (Int.emod_nonneg _ (by omega))).symm⟩
  have hm12 : mn < 12 := by omega
  go_enter Tryd.func3, Tryd.ntmps3
  go_wp2
  try rw [hmn]
  clear m1 m2 t1 hmn
  have S0 : St w.heap.size w ao ps.length cap (mn : Int) (bods ps) 0 (.slice none 0 0) (.slice none 0 0) (((w.alloc (.cells #[.slice ao ps.length cap] 22)).alloc (.cells #[.int .i64 (mn : Int)] 3)).alloc (.cells #[.slice none 0 0] 24)) := by
    have a1 := heap_alloc_new w (.cells #[.slice ao ps.length cap] 22)
    have a2 := heap_alloc_new (w.alloc (.cells #[.slice ao ps.length cap] 22)) (.cells #[.int .i64 (mn : Int)] 3)
    have a3 := heap_alloc_new ((w.alloc (.cells #[.slice ao ps.length cap] 22)).alloc (.cells #[.int .i64 (mn : Int)] 3)) (.cells #[.slice none 0 0] 24)
    simp only [World.size_alloc] at a2 a3
    refine ⟨?_, ?_, a3, ?_, ?_, fun g e => (by cases e), ((((Below.refl _ w).alloc (Nat.le_refl _) _).alloc (by simp only [World.size_alloc]; omega) _).alloc (by simp only [World.size_alloc]; omega) _)⟩
    · exact (Below.heap_alloc _ _ _ (by simp only [World.size_alloc]; omega)).trans ((Below.heap_alloc _ _ _ (by simp only [World.size_alloc]; omega)).trans a1)
    · exact (Below.heap_alloc _ _ _ (by simp only [World.size_alloc]; omega)).trans a2
    · simpa [fcat, U] using World.ownsRow_nil _ _ _ _
    · simpa [places, I] using World.ownsRow_nil _ _ _ _
  have hz0 : w.heap.size + 3 ≤ (((w.alloc (.cells #[.slice ao ps.length cap] 22)).alloc (.cells #[.int .i64 (mn : Int)] 3)).alloc (.cells #[.slice none 0 0] 24)).heap.size := by simp
  generalize ((w.alloc (.cells #[.slice ao ps.length cap] 22)).alloc (.cells #[.int .i64 (mn : Int)] 3)).alloc (.cells #[.slice none 0 0] 24) = wz at S0 hz0 ⊢
  obtain ⟨l, hl⟩ : ∃ l, bods ps = l := ⟨_, rfl⟩
  have HL := mkH hl
  rw [hl] at S0
  have hl20 : l.length ≤ 20 := by rw [← hl, bods_len]; omega
  have hlps : l.length ≤ ps.length := by rw [← hl, bods_len]; omega
  have hlor : l.length = 20 ∨ l.length = ps.length := by rw [← hl, bods_len]; omega
  clear hl
  go_loopw [7, 9] (fun vb ct wr => ∃ (k : Nat) (va : Value), ct = .int .i64 k ∧ k ≤ l.length ∧ St w.heap.size w ao ps.length cap (mn : Int) l k vb va wr ∧ w.heap.size + 3 ≤ wr.heap.size) (fun _ ct _ => l.length - (intOf ct).toNat)
  case atStart => exact ⟨0, _, rfl, by omega, S0, hz0⟩
  case round =>
    obtain ⟨k, va, rfl, hk, hS, hsz⟩ := hrel
    clear S0 hz0
    have hc3 := cell_box hS.b3
    by_cases hkl : k = l.length
    · subst hkl
      have HF : Hid (fcat (l.take l.length) = fcat l) := by unfold Hid; rw [List.take_length]
      have hbl : (fcat l).length ≤ 3012 * 20 := by
        have := fcat_len l l.length (by rw [← HL.out]; exact bods_le ps)
        rw [List.take_length] at this
        exact Nat.le_trans this (Nat.mul_le_mul_left _ (by omega))
      have hrb0 := hS.rb
      rw [HF.out] at hrb0
      obtain ⟨ab, cb, hvb, hnb, hcb, hrb⟩ := own_row hrb0
      subst hvb
      have rpt := hrp.below hS.be
      have hf7 : ((l.length : Int) < (ps.length : Int)) → ¬ ((l.length : Int) < 20) := by omega
      rcases Nat.lt_or_ge l.length ps.length with hlp | hlp
      · have t0 : decide ((l.length : Int) < (ps.length : Int)) = true := by simp; omega
        have t1 : decide ((l.length : Int) < 20) = false := by simp; omega
        clear hf7
        go_wp2_with fail
        refine (few_any wr ap cbp bp rpt hlenp hcapp).mono ?_
        rintro e w1 ⟨v1, rfl, hown1, hb1⟩
        obtain ⟨tl, htl⟩ : ∃ tl, bp.take 3000 = tl := ⟨_, rfl⟩
        have htl3 : tl.length ≤ 3000 := by rw [← htl, List.length_take]; omega
        rw [htl] at hown1
        have HTL := mkH htl
        clear htl
        obtain ⟨a1, c1, rfl, -, hc1, hr1⟩ := own_row hown1
        have hS1 := hS.below hb1 (by omega)
        have rb1 := own_below hrb0 hb1
        have hsz1 := Nat.le_trans hsz hb1.size
        clear hown1 hc3 rpt hS hb1
        go_wp2_with (at_builtin; refine (wpList_append_own_src_at _ rfl (.tmp 54) (.tmp 56) 23 23 rfl (w.heap.size + 3) 5 (.int .u8 0) 1 1 Tryd.underlying23 info5 rfl (by decide) _ (fcat l).length (U (fcat l)) rfl rb1 _ tl.length (U tl) rfl ?hs ?h63 ?hby ?hbs ?_))
        case hs => exact Row.src (P := Tryd.prog) Tryd.underlying23 hr1 c1
        case h63 => unfold maxLen; omega
        case hby => omega
        case hbs => omega
        intro vb' w2 hown2 hg2 hat2
        have hbg : ∀ g, (Value.slice ab (fcat l).length cb).ownBlock = some g → w.heap.size + 3 ≤ g := fun g e => (rb1.lt g e).1
        have old : ∀ i, i < w.heap.size + 3 → w2.heap[i]? = w1.heap[i]? := fun i hi => hg2.block i (by omega) (fun e => by have := hbg i e.symm; omega)
        have b32 := (old _ (by omega)).trans hS1.b3
        have b52 := (old _ (by omega)).trans hS1.b5
        have b82 := (old _ (by omega)).trans hS1.b8
        have ra2 := own_other hS1.ra hg2 (fun g e e2 => hS1.ne g e2 e)
        have be2 := hS1.be.grown hg2 (by omega) (fun g e => by have := hbg g e; omega)
        have hsz2 := Nat.le_trans hsz1 hg2.size
        rw [← U_append, ← List.length_append] at hown2
        obtain ⟨b2, hb2⟩ : ∃ b2, fcat l ++ tl = b2 := ⟨_, rfl⟩
        rw [hb2] at hown2
        have hb2l : b2.length = (fcat l).length + tl.length := by rw [← hb2, List.length_append]
        have hb2m : b2.length ≤ 100000 := by omega
        have HB2 := mkH hb2
        have HB2L := mkH hb2l
        obtain ⟨ab2, cb2, rfl, -, hcb2, hrb2⟩ := own_row hown2
        have hcc2 := own_cap hown2
        obtain ⟨aA, cA, rfl⟩ := own_form ra2
        clear hS1 rb1 hg2 hat2 hbg old hb2 hb2l hown2 hrb hrb0 hr1
        have nf := fun (W : World) (x y : Array Value) => eql_func (P := Tryd.prog) W 30 _ _ _ (.func 13) x y Tryd.underlying30
        go_wp2_with fail
        refine (all_any w2 ab2 cb2 b2 hrb2 (by omega)).mono ?_
        rintro e wA ⟨Bx, a3, c3, rfl, hBx0, hBx, hr3, hc3, hcc3, hbA⟩
        have b3A := (hbA.block _ (by omega)).trans b32
        have b5A := (hbA.block _ (by omega)).trans b52
        have b8A := (hbA.block _ (by omega)).trans b82
        have raA := own_below ra2 hbA
        have beA := be2.trans (hbA.mono (by omega))
        have hrbA := hrb2.below hbA
        have hszA := Nat.le_trans hsz2 hbA.size
        clear b32 b52 b82 ra2 be2 hrb2 hbA
        go_wp2_with fail
        have hw4 : Below wA.heap.size wA ((wA.alloc (.cells #[.int .i64 0] 3)).alloc (.cells #[.bool true] 4)) := ((Below.refl _ wA).alloc (Nat.le_refl _) _).alloc (by simp only [World.size_alloc]; omega) _
        have two0 : Two 3 4 wA.heap.size (wA.heap.size + 1) ((wA.alloc (.cells #[.int .i64 0] 3)).alloc (.cells #[.bool true] 4)) 0 true := by
          have a1 := heap_alloc_new wA (.cells #[.int .i64 0] 3)
          have a2 := heap_alloc_new (wA.alloc (.cells #[.int .i64 0] 3)) (.cells #[.bool true] 4)
          simp only [World.size_alloc] at a2
          exact ⟨(Below.heap_alloc _ _ _ (by simp only [World.size_alloc]; omega)).trans a1, a2⟩
        have hs4 : ((wA.alloc (.cells #[.int .i64 0] 3)).alloc (.cells #[.bool true] 4)).heap.size = wA.heap.size + 2 := by simp
        generalize (wA.alloc (.cells #[.int .i64 0] 3)).alloc (.cells #[.bool true] 4) = w4 at hw4 two0 hs4 ⊢
        have hBxl := (Array.getElem?_eq_some_iff.1 hBx).1
        have hTA := hT.below beA hT0
        have hall := all1_any wA w4 Bx wA.heap.size (wA.heap.size + 1) 3 4 _ a3 c3 b2 hTA hr3 (by omega) hc3 hcc3 hw4 ((hw4.block Bx hBxl).trans hBx) (Nat.le_refl _) (by omega) (by omega) (by omega)
          #[.pointer (some ⟨wA.heap.size, 0, none⟩), .pointer (some ⟨w.heap.size + 1 + 1, 0, none⟩), .pointer (some ⟨wA.heap.size + 1, 0, none⟩), .pointer (some ⟨w.heap.size, 0, none⟩), .pointer (some ⟨w.heap.size + 1, 0, none⟩)]
          (enters_of Tryd.func7 (by kernel_rfl) rfl) (rOf (places l l.length) ps) (fun j => decide (j < mn) || decide (mn = 0)) two0 (by
            intro pre x W a c hpl h2 hE hrow
            have hBW : Below wA.heap.size wA W := hw4.trans (hE.below (Nat.le_refl _) (by omega) (by omega))
            have hbw : Below w.heap.size w W := beA.trans (hBW.mono beA.size)
            have hpk : ∀ i, i < wA.heap.size → W.heap[i]? = wA.heap[i]? := fun i hi => hBW.block i hi
            refine (yield_any W wA.heap.size (wA.heap.size + 1) (w.heap.size + 1 + 1) w.heap.size (w.heap.size + 1) aA ao cA cap ps.length (places l l.length) ps mn pre.length x.pl _ a c x.bs h2 (by omega) (by rw [places_len]; exact cell_box ((hpk _ (by omega)).trans b8A)) (cell_box ((hpk _ (by omega)).trans b3A)) (cell_box ((hpk _ (by omega)).trans b5A)) (by omega) (by omega) (by omega) (by omega) ((RowI.own raA).below hBW) (hP.below hbw) rfl (by rw [places_len]; omega) (by omega) hrow).mono ?_
            rintro e W' ⟨rfl, h3, hE3⟩
            rw [rOf_snoc]
            exact ⟨rfl, h3, hE3⟩)
        refine hall.mono ?_
        rintro e w5 ⟨⟨vv, rfl⟩, pre, ee, hee, hch, hend, h25, hE5⟩
        clear hall
        have hB5 : Below wA.heap.size wA w5 := hw4.trans (hE5.below (Nat.le_refl _) (by omega) (by omega))
        have be5 : Below w.heap.size w w5 := beA.trans (hB5.mono beA.size)
        have c8 : w5.cell? ⟨w.heap.size + 1 + 1, 0, none⟩ = some (.slice aA l.length cA) := cell_box ((hB5.block _ (by omega)).trans b8A)
        have c5 : w5.cell? ⟨w.heap.size + 1, 0, none⟩ = some (.int .i64 (mn : Int)) := cell_box ((hB5.block _ (by omega)).trans b5A)
        have hb65 : ∀ x ∈ l, x.length ≤ 65536 := fun x hx => Nat.le_trans (bods_le ps x (by rw [HL.out]; exact hx)) (by omega)
        rw [← HB2.out] at hch hend
        have HR : Hid (rOf (places l l.length) ps pre = true) := by
          refine rOf_true _ _ _ (fun i x hx hi => ?_)
          rw [places_len] at hi
          obtain ⟨q1, q2⟩ := chain_at hb65 (j := 0) hch i x hx (by omega)
          rw [Nat.zero_add] at q1 q2
          refine ⟨by rw [places_at l hi]; exact q1, ?_⟩
          rw [q2]
          have := bods_getD (ps := ps) (i := i) (by rw [HL.out]; exact hi)
          rw [HL.out] at this
          exact this
        rw [HR.out] at h25
        have hw1 : mn = 0 → l.length ≤ pre.length := by
          intro h0
          rcases hend with h | h
          · have := chain_all hb65 (j := 0) hch h; omega
          · simp [h0] at h
        have hw2 : 0 < mn → l.length ≤ pre.length ∨ mn ≤ pre.length := by
          intro h0
          rcases hend with h | h
          · have := chain_all hb65 (j := 0) hch h; omega
          · simp at h; omega
        have hw3 : mn = 0 → bp.length = 0 → pre.length = l.length := by
          intro h0 hb
          have ht : tl = [] := by rw [← HTL.out, List.eq_nil_of_length_eq_zero hb]; rfl
          have h1 := chain_most hb65 ht (j := 0) hch (by omega)
          have h2 := hw1 h0
          omega
        have hge : (fcat l).length ≤ gend b2 := by rw [← HB2.out]; exact gend_ge hb65 tl
        have hpl : pre.length ≤ 1000000 := by have := hch.len; omega
        have cn5 := cell_box h25.n
        have cr5 := cell_box h25.r
        have HW1 := mkH hw1
        have HW2 := mkH hw2
        have HW3 := mkH hw3
        have hGd := good_any w5 ab2 cb2 b2 (hT.below be5 hT0) (hrbA.below hB5) (by omega) hcb2 hcc2
        have hl5 : wA.heap.size + 2 ≤ w5.heap.size := by have := hE5.size; omega
        obtain ⟨gg, hgg⟩ : ∃ gg, gend b2 = gg := ⟨_, rfl⟩
        obtain ⟨n, hn⟩ : ∃ n, pre.length = n := ⟨_, rfl⟩
        rw [hgg] at hGd hge
        rw [hn] at cn5 hpl HW1 HW2 HW3
        have hggl : gg ≤ 1000000000 := by rw [← hgg]; exact gend_le b2 (by omega)
        clear hch hend h25 hE5 HR hw1 hw2 hw3 hee hn hgg hB5 hw4 two0 hs4 b3A b5A b8A raA beA hrbA hBx hr3 hP hrp HTL HB2 HB2L hTA hb65 HL
        by_cases hm0 : 0 < mn
        · have s0 : decide ((0 : Int) < (mn : Int)) = true := by simp; omega
          by_cases hml : mn < l.length
          · have s2 : decide ((mn : Int) < (l.length : Int)) = true := by simp; omega
            have n3 : mn ≤ n := by have := HW2.out hm0; omega
            have s3 : decide ((mn : Int) ≤ (n : Int)) = true := by have := HW2.out hm0; rw [decide_eq_true_eq]; omega
            have s9 : decide (((fcat l).length : Int) ≤ (gg : Int)) = true := by simp; omega
            by_cases hbp : 0 < bp.length
            · have s1 : decide ((0 : Int) < (bp.length : Int)) = true := by simp; omega
              go_wp2_with fail
              refine hGd.mono ?_
              rintro e w6 ⟨rfl, hb6⟩
              have hb6' : Below w.heap.size w w6 := be5.trans (hb6.mono be5.size)
              have c56 := (hb6.cell (p := ⟨w.heap.size + 1, 0, none⟩) (World.block_lt_of_cell? w5 _ c5)).trans c5
              have cn6 := (hb6.cell (p := ⟨wA.heap.size, 0, none⟩) (World.block_lt_of_cell? w5 _ cn5)).trans cn5
              have cr6 := (hb6.cell (p := ⟨wA.heap.size + 1, 0, none⟩) (World.block_lt_of_cell? w5 _ cr5)).trans cr5
              clear hGd c8 c5 cn5 cr5 hb6 be5
              go_wp2_with fail
              refine (works_any w6 (hT.below hb6' hT0)).mono ?_
              rintro e w7 ⟨rfl, hb7⟩
              go_wp2
              go_ret
              exact ⟨rfl, hb6'.trans (hb7.mono hb6'.size)⟩
            · have s1 : decide ((0 : Int) < (bp.length : Int)) = false := by rw [decide_eq_false_iff_not]; omega
              go_wp2_with fail
              refine hGd.mono ?_
              rintro e w6 ⟨rfl, hb6⟩
              have hb6' : Below w.heap.size w w6 := be5.trans (hb6.mono be5.size)
              have c56 := (hb6.cell (p := ⟨w.heap.size + 1, 0, none⟩) (World.block_lt_of_cell? w5 _ c5)).trans c5
              have cn6 := (hb6.cell (p := ⟨wA.heap.size, 0, none⟩) (World.block_lt_of_cell? w5 _ cn5)).trans cn5
              have cr6 := (hb6.cell (p := ⟨wA.heap.size + 1, 0, none⟩) (World.block_lt_of_cell? w5 _ cr5)).trans cr5
              clear hGd c8 c5 cn5 cr5 hb6 be5
              go_wp2_with fail
              refine (works_any w6 (hT.below hb6' hT0)).mono ?_
              rintro e w7 ⟨rfl, hb7⟩
              go_wp2
              go_ret
              exact ⟨rfl, hb6'.trans (hb7.mono hb6'.size)⟩
          · have s2 : decide ((mn : Int) < (l.length : Int)) = false := by simp; omega
            have n3 : l.length ≤ n := by have := HW2.out hm0; omega
            have s3 : decide ((l.length : Int) ≤ (n : Int)) = true := by have := HW2.out hm0; rw [decide_eq_true_eq]; omega
            have s9 : decide (((fcat l).length : Int) ≤ (gg : Int)) = true := by simp; omega
            by_cases hbp : 0 < bp.length
            · have s1 : decide ((0 : Int) < (bp.length : Int)) = true := by simp; omega
              go_wp2_with fail
              refine hGd.mono ?_
              rintro e w6 ⟨rfl, hb6⟩
              have hb6' : Below w.heap.size w w6 := be5.trans (hb6.mono be5.size)
              have c56 := (hb6.cell (p := ⟨w.heap.size + 1, 0, none⟩) (World.block_lt_of_cell? w5 _ c5)).trans c5
              have cn6 := (hb6.cell (p := ⟨wA.heap.size, 0, none⟩) (World.block_lt_of_cell? w5 _ cn5)).trans cn5
              have cr6 := (hb6.cell (p := ⟨wA.heap.size + 1, 0, none⟩) (World.block_lt_of_cell? w5 _ cr5)).trans cr5
              clear hGd c8 c5 cn5 cr5 hb6 be5
              go_wp2_with fail
              refine (works_any w6 (hT.below hb6' hT0)).mono ?_
              rintro e w7 ⟨rfl, hb7⟩
              go_wp2
              go_ret
              exact ⟨rfl, hb6'.trans (hb7.mono hb6'.size)⟩
            · have s1 : decide ((0 : Int) < (bp.length : Int)) = false := by rw [decide_eq_false_iff_not]; omega
              go_wp2_with fail
              refine hGd.mono ?_
              rintro e w6 ⟨rfl, hb6⟩
              have hb6' : Below w.heap.size w w6 := be5.trans (hb6.mono be5.size)
              have c56 := (hb6.cell (p := ⟨w.heap.size + 1, 0, none⟩) (World.block_lt_of_cell? w5 _ c5)).trans c5
              have cn6 := (hb6.cell (p := ⟨wA.heap.size, 0, none⟩) (World.block_lt_of_cell? w5 _ cn5)).trans cn5
              have cr6 := (hb6.cell (p := ⟨wA.heap.size + 1, 0, none⟩) (World.block_lt_of_cell? w5 _ cr5)).trans cr5
              clear hGd c8 c5 cn5 cr5 hb6 be5
              go_wp2_with fail
              refine (works_any w6 (hT.below hb6' hT0)).mono ?_
              rintro e w7 ⟨rfl, hb7⟩
              go_wp2
              go_ret
              exact ⟨rfl, hb6'.trans (hb7.mono hb6'.size)⟩
        · have s0 : decide ((0 : Int) < (mn : Int)) = false := by simp; omega
          have n3 : l.length ≤ n := by have := HW1.out (by omega); omega
          have s3 : decide ((l.length : Int) ≤ (n : Int)) = true := by have := HW1.out (by omega); rw [decide_eq_true_eq]; omega
          have s9 : decide (((fcat l).length : Int) ≤ (gg : Int)) = true := by simp; omega
          by_cases hbp : 0 < bp.length
          · have s1 : decide ((0 : Int) < (bp.length : Int)) = true := by simp; omega
            go_wp2_with fail
            refine hGd.mono ?_
            rintro e w6 ⟨rfl, hb6⟩
            have hb6' : Below w.heap.size w w6 := be5.trans (hb6.mono be5.size)
            have c56 := (hb6.cell (p := ⟨w.heap.size + 1, 0, none⟩) (World.block_lt_of_cell? w5 _ c5)).trans c5
            have cn6 := (hb6.cell (p := ⟨wA.heap.size, 0, none⟩) (World.block_lt_of_cell? w5 _ cn5)).trans cn5
            have cr6 := (hb6.cell (p := ⟨wA.heap.size + 1, 0, none⟩) (World.block_lt_of_cell? w5 _ cr5)).trans cr5
            clear hGd c8 c5 cn5 cr5 hb6 be5
            go_wp2_with fail
            refine (works_any w6 (hT.below hb6' hT0)).mono ?_
            rintro e w7 ⟨rfl, hb7⟩
            go_wp2
            go_ret
            exact ⟨rfl, hb6'.trans (hb7.mono hb6'.size)⟩
          · have s1 : decide ((0 : Int) < (bp.length : Int)) = false := by rw [decide_eq_false_iff_not]; omega
            obtain rfl : n = l.length := HW3.out (by omega) (by omega)
            go_wp2_with fail
            refine hGd.mono ?_
            rintro e w6 ⟨rfl, hb6⟩
            have hb6' : Below w.heap.size w w6 := be5.trans (hb6.mono be5.size)
            have c56 := (hb6.cell (p := ⟨w.heap.size + 1, 0, none⟩) (World.block_lt_of_cell? w5 _ c5)).trans c5
            have cn6 := (hb6.cell (p := ⟨wA.heap.size, 0, none⟩) (World.block_lt_of_cell? w5 _ cn5)).trans cn5
            have cr6 := (hb6.cell (p := ⟨wA.heap.size + 1, 0, none⟩) (World.block_lt_of_cell? w5 _ cr5)).trans cr5
            clear hGd c8 c5 cn5 cr5 hb6 be5
            go_wp2_with fail
            refine (works_any w6 (hT.below hb6' hT0)).mono ?_
            rintro e w7 ⟨rfl, hb7⟩
            go_wp2
            go_ret
            exact ⟨rfl, hb6'.trans (hb7.mono hb6'.size)⟩
      · have t0 : decide ((l.length : Int) < (ps.length : Int)) = false := by simp; omega
        clear hf7
        go_wp2_with fail
        refine (few_any wr ap cbp bp rpt hlenp hcapp).mono ?_
        rintro e w1 ⟨v1, rfl, hown1, hb1⟩
        obtain ⟨tl, htl⟩ : ∃ tl, bp.take 3000 = tl := ⟨_, rfl⟩
        have htl3 : tl.length ≤ 3000 := by rw [← htl, List.length_take]; omega
        rw [htl] at hown1
        have HTL := mkH htl
        clear htl
        obtain ⟨a1, c1, rfl, -, hc1, hr1⟩ := own_row hown1
        have hS1 := hS.below hb1 (by omega)
        have rb1 := own_below hrb0 hb1
        have hsz1 := Nat.le_trans hsz hb1.size
        clear hown1 hc3 rpt hS hb1
        go_wp2_with (at_builtin; refine (wpList_append_own_src_at _ rfl (.tmp 54) (.tmp 56) 23 23 rfl (w.heap.size + 3) 5 (.int .u8 0) 1 1 Tryd.underlying23 info5 rfl (by decide) _ (fcat l).length (U (fcat l)) rfl rb1 _ tl.length (U tl) rfl ?hs ?h63 ?hby ?hbs ?_))
        case hs => exact Row.src (P := Tryd.prog) Tryd.underlying23 hr1 c1
        case h63 => unfold maxLen; omega
        case hby => omega
        case hbs => omega
        intro vb' w2 hown2 hg2 hat2
        have hbg : ∀ g, (Value.slice ab (fcat l).length cb).ownBlock = some g → w.heap.size + 3 ≤ g := fun g e => (rb1.lt g e).1
        have old : ∀ i, i < w.heap.size + 3 → w2.heap[i]? = w1.heap[i]? := fun i hi => hg2.block i (by omega) (fun e => by have := hbg i e.symm; omega)
        have b32 := (old _ (by omega)).trans hS1.b3
        have b52 := (old _ (by omega)).trans hS1.b5
        have b82 := (old _ (by omega)).trans hS1.b8
        have ra2 := own_other hS1.ra hg2 (fun g e e2 => hS1.ne g e2 e)
        have be2 := hS1.be.grown hg2 (by omega) (fun g e => by have := hbg g e; omega)
        have hsz2 := Nat.le_trans hsz1 hg2.size
        rw [← U_append, ← List.length_append] at hown2
        obtain ⟨b2, hb2⟩ : ∃ b2, fcat l ++ tl = b2 := ⟨_, rfl⟩
        rw [hb2] at hown2
        have hb2l : b2.length = (fcat l).length + tl.length := by rw [← hb2, List.length_append]
        have hb2m : b2.length ≤ 100000 := by omega
        have HB2 := mkH hb2
        have HB2L := mkH hb2l
        obtain ⟨ab2, cb2, rfl, -, hcb2, hrb2⟩ := own_row hown2
        have hcc2 := own_cap hown2
        obtain ⟨aA, cA, rfl⟩ := own_form ra2
        clear hS1 rb1 hg2 hat2 hbg old hb2 hb2l hown2 hrb hrb0 hr1
        have nf := fun (W : World) (x y : Array Value) => eql_func (P := Tryd.prog) W 30 _ _ _ (.func 13) x y Tryd.underlying30
        go_wp2_with fail
        refine (all_any w2 ab2 cb2 b2 hrb2 (by omega)).mono ?_
        rintro e wA ⟨Bx, a3, c3, rfl, hBx0, hBx, hr3, hc3, hcc3, hbA⟩
        have b3A := (hbA.block _ (by omega)).trans b32
        have b5A := (hbA.block _ (by omega)).trans b52
        have b8A := (hbA.block _ (by omega)).trans b82
        have raA := own_below ra2 hbA
        have beA := be2.trans (hbA.mono (by omega))
        have hrbA := hrb2.below hbA
        have hszA := Nat.le_trans hsz2 hbA.size
        clear b32 b52 b82 ra2 be2 hrb2 hbA
        go_wp2_with fail
        have hw4 : Below wA.heap.size wA ((wA.alloc (.cells #[.int .i64 0] 3)).alloc (.cells #[.bool true] 4)) := ((Below.refl _ wA).alloc (Nat.le_refl _) _).alloc (by simp only [World.size_alloc]; omega) _
        have two0 : Two 3 4 wA.heap.size (wA.heap.size + 1) ((wA.alloc (.cells #[.int .i64 0] 3)).alloc (.cells #[.bool true] 4)) 0 true := by
          have a1 := heap_alloc_new wA (.cells #[.int .i64 0] 3)
          have a2 := heap_alloc_new (wA.alloc (.cells #[.int .i64 0] 3)) (.cells #[.bool true] 4)
          simp only [World.size_alloc] at a2
          exact ⟨(Below.heap_alloc _ _ _ (by simp only [World.size_alloc]; omega)).trans a1, a2⟩
        have hs4 : ((wA.alloc (.cells #[.int .i64 0] 3)).alloc (.cells #[.bool true] 4)).heap.size = wA.heap.size + 2 := by simp
        generalize (wA.alloc (.cells #[.int .i64 0] 3)).alloc (.cells #[.bool true] 4) = w4 at hw4 two0 hs4 ⊢
        have hBxl := (Array.getElem?_eq_some_iff.1 hBx).1
        have hTA := hT.below beA hT0
        have hall := all1_any wA w4 Bx wA.heap.size (wA.heap.size + 1) 3 4 _ a3 c3 b2 hTA hr3 (by omega) hc3 hcc3 hw4 ((hw4.block Bx hBxl).trans hBx) (Nat.le_refl _) (by omega) (by omega) (by omega)
          #[.pointer (some ⟨wA.heap.size, 0, none⟩), .pointer (some ⟨w.heap.size + 1 + 1, 0, none⟩), .pointer (some ⟨wA.heap.size + 1, 0, none⟩), .pointer (some ⟨w.heap.size, 0, none⟩), .pointer (some ⟨w.heap.size + 1, 0, none⟩)]
          (enters_of Tryd.func7 (by kernel_rfl) rfl) (rOf (places l l.length) ps) (fun j => decide (j < mn) || decide (mn = 0)) two0 (by
            intro pre x W a c hpl h2 hE hrow
            have hBW : Below wA.heap.size wA W := hw4.trans (hE.below (Nat.le_refl _) (by omega) (by omega))
            have hbw : Below w.heap.size w W := beA.trans (hBW.mono beA.size)
            have hpk : ∀ i, i < wA.heap.size → W.heap[i]? = wA.heap[i]? := fun i hi => hBW.block i hi
            refine (yield_any W wA.heap.size (wA.heap.size + 1) (w.heap.size + 1 + 1) w.heap.size (w.heap.size + 1) aA ao cA cap ps.length (places l l.length) ps mn pre.length x.pl _ a c x.bs h2 (by omega) (by rw [places_len]; exact cell_box ((hpk _ (by omega)).trans b8A)) (cell_box ((hpk _ (by omega)).trans b3A)) (cell_box ((hpk _ (by omega)).trans b5A)) (by omega) (by omega) (by omega) (by omega) ((RowI.own raA).below hBW) (hP.below hbw) rfl (by rw [places_len]; omega) (by omega) hrow).mono ?_
            rintro e W' ⟨rfl, h3, hE3⟩
            rw [rOf_snoc]
            exact ⟨rfl, h3, hE3⟩)
        refine hall.mono ?_
        rintro e w5 ⟨⟨vv, rfl⟩, pre, ee, hee, hch, hend, h25, hE5⟩
        clear hall
        have hB5 : Below wA.heap.size wA w5 := hw4.trans (hE5.below (Nat.le_refl _) (by omega) (by omega))
        have be5 : Below w.heap.size w w5 := beA.trans (hB5.mono beA.size)
        have c8 : w5.cell? ⟨w.heap.size + 1 + 1, 0, none⟩ = some (.slice aA l.length cA) := cell_box ((hB5.block _ (by omega)).trans b8A)
        have c5 : w5.cell? ⟨w.heap.size + 1, 0, none⟩ = some (.int .i64 (mn : Int)) := cell_box ((hB5.block _ (by omega)).trans b5A)
        have hb65 : ∀ x ∈ l, x.length ≤ 65536 := fun x hx => Nat.le_trans (bods_le ps x (by rw [HL.out]; exact hx)) (by omega)
        rw [← HB2.out] at hch hend
        have HR : Hid (rOf (places l l.length) ps pre = true) := by
          refine rOf_true _ _ _ (fun i x hx hi => ?_)
          rw [places_len] at hi
          obtain ⟨q1, q2⟩ := chain_at hb65 (j := 0) hch i x hx (by omega)
          rw [Nat.zero_add] at q1 q2
          refine ⟨by rw [places_at l hi]; exact q1, ?_⟩
          rw [q2]
          have := bods_getD (ps := ps) (i := i) (by rw [HL.out]; exact hi)
          rw [HL.out] at this
          exact this
        rw [HR.out] at h25
        have hw1 : mn = 0 → l.length ≤ pre.length := by
          intro h0
          rcases hend with h | h
          · have := chain_all hb65 (j := 0) hch h; omega
          · simp [h0] at h
        have hw2 : 0 < mn → l.length ≤ pre.length ∨ mn ≤ pre.length := by
          intro h0
          rcases hend with h | h
          · have := chain_all hb65 (j := 0) hch h; omega
          · simp at h; omega
        have hw3 : mn = 0 → bp.length = 0 → pre.length = l.length := by
          intro h0 hb
          have ht : tl = [] := by rw [← HTL.out, List.eq_nil_of_length_eq_zero hb]; rfl
          have h1 := chain_most hb65 ht (j := 0) hch (by omega)
          have h2 := hw1 h0
          omega
        have hge : (fcat l).length ≤ gend b2 := by rw [← HB2.out]; exact gend_ge hb65 tl
        have hpl : pre.length ≤ 1000000 := by have := hch.len; omega
        have cn5 := cell_box h25.n
        have cr5 := cell_box h25.r
        have HW1 := mkH hw1
        have HW2 := mkH hw2
        have HW3 := mkH hw3
        have hGd := good_any w5 ab2 cb2 b2 (hT.below be5 hT0) (hrbA.below hB5) (by omega) hcb2 hcc2
        have hl5 : wA.heap.size + 2 ≤ w5.heap.size := by have := hE5.size; omega
        obtain ⟨gg, hgg⟩ : ∃ gg, gend b2 = gg := ⟨_, rfl⟩
        obtain ⟨n, hn⟩ : ∃ n, pre.length = n := ⟨_, rfl⟩
        rw [hgg] at hGd hge
        rw [hn] at cn5 hpl HW1 HW2 HW3
        have hggl : gg ≤ 1000000000 := by rw [← hgg]; exact gend_le b2 (by omega)
        clear hch hend h25 hE5 HR hw1 hw2 hw3 hee hn hgg hB5 hw4 two0 hs4 b3A b5A b8A raA beA hrbA hBx hr3 hP hrp HTL HB2 HB2L hTA hb65 HL
        by_cases hm0 : 0 < mn
        · have s0 : decide ((0 : Int) < (mn : Int)) = true := by simp; omega
          by_cases hml : mn < l.length
          · have s2 : decide ((mn : Int) < (l.length : Int)) = true := by simp; omega
            have n3 : mn ≤ n := by have := HW2.out hm0; omega
            have s3 : decide ((mn : Int) ≤ (n : Int)) = true := by have := HW2.out hm0; rw [decide_eq_true_eq]; omega
            have s9 : decide (((fcat l).length : Int) ≤ (gg : Int)) = true := by simp; omega
            by_cases hbp : 0 < bp.length
            · have s1 : decide ((0 : Int) < (bp.length : Int)) = true := by simp; omega
              go_wp2_with fail
              refine hGd.mono ?_
              rintro e w6 ⟨rfl, hb6⟩
              have hb6' : Below w.heap.size w w6 := be5.trans (hb6.mono be5.size)
              have c56 := (hb6.cell (p := ⟨w.heap.size + 1, 0, none⟩) (World.block_lt_of_cell? w5 _ c5)).trans c5
              have cn6 := (hb6.cell (p := ⟨wA.heap.size, 0, none⟩) (World.block_lt_of_cell? w5 _ cn5)).trans cn5
              have cr6 := (hb6.cell (p := ⟨wA.heap.size + 1, 0, none⟩) (World.block_lt_of_cell? w5 _ cr5)).trans cr5
              clear hGd c8 c5 cn5 cr5 hb6 be5
              go_wp2_with fail
              refine (works_any w6 (hT.below hb6' hT0)).mono ?_
              rintro e w7 ⟨rfl, hb7⟩
              go_wp2
              go_ret
              exact ⟨rfl, hb6'.trans (hb7.mono hb6'.size)⟩
            · have s1 : decide ((0 : Int) < (bp.length : Int)) = false := by rw [decide_eq_false_iff_not]; omega
              go_wp2_with fail
              refine hGd.mono ?_
              rintro e w6 ⟨rfl, hb6⟩
              have hb6' : Below w.heap.size w w6 := be5.trans (hb6.mono be5.size)
              have c56 := (hb6.cell (p := ⟨w.heap.size + 1, 0, none⟩) (World.block_lt_of_cell? w5 _ c5)).trans c5
              have cn6 := (hb6.cell (p := ⟨wA.heap.size, 0, none⟩) (World.block_lt_of_cell? w5 _ cn5)).trans cn5
              have cr6 := (hb6.cell (p := ⟨wA.heap.size + 1, 0, none⟩) (World.block_lt_of_cell? w5 _ cr5)).trans cr5
              clear hGd c8 c5 cn5 cr5 hb6 be5
              go_wp2_with fail
              refine (works_any w6 (hT.below hb6' hT0)).mono ?_
              rintro e w7 ⟨rfl, hb7⟩
              go_wp2
              go_ret
              exact ⟨rfl, hb6'.trans (hb7.mono hb6'.size)⟩
          · have s2 : decide ((mn : Int) < (l.length : Int)) = false := by simp; omega
            have n3 : l.length ≤ n := by have := HW2.out hm0; omega
            have s3 : decide ((l.length : Int) ≤ (n : Int)) = true := by have := HW2.out hm0; rw [decide_eq_true_eq]; omega
            have s9 : decide (((fcat l).length : Int) ≤ (gg : Int)) = true := by simp; omega
            by_cases hbp : 0 < bp.length
            · have s1 : decide ((0 : Int) < (bp.length : Int)) = true := by simp; omega
              go_wp2_with fail
              refine hGd.mono ?_
              rintro e w6 ⟨rfl, hb6⟩
              have hb6' : Below w.heap.size w w6 := be5.trans (hb6.mono be5.size)
              have c56 := (hb6.cell (p := ⟨w.heap.size + 1, 0, none⟩) (World.block_lt_of_cell? w5 _ c5)).trans c5
              have cn6 := (hb6.cell (p := ⟨wA.heap.size, 0, none⟩) (World.block_lt_of_cell? w5 _ cn5)).trans cn5
              have cr6 := (hb6.cell (p := ⟨wA.heap.size + 1, 0, none⟩) (World.block_lt_of_cell? w5 _ cr5)).trans cr5
              clear hGd c8 c5 cn5 cr5 hb6 be5
              go_wp2_with fail
              refine (works_any w6 (hT.below hb6' hT0)).mono ?_
              rintro e w7 ⟨rfl, hb7⟩
              go_wp2
              go_ret
              exact ⟨rfl, hb6'.trans (hb7.mono hb6'.size)⟩
            · have s1 : decide ((0 : Int) < (bp.length : Int)) = false := by rw [decide_eq_false_iff_not]; omega
              go_wp2_with fail
              refine hGd.mono ?_
              rintro e w6 ⟨rfl, hb6⟩
              have hb6' : Below w.heap.size w w6 := be5.trans (hb6.mono be5.size)
              have c56 := (hb6.cell (p := ⟨w.heap.size + 1, 0, none⟩) (World.block_lt_of_cell? w5 _ c5)).trans c5
              have cn6 := (hb6.cell (p := ⟨wA.heap.size, 0, none⟩) (World.block_lt_of_cell? w5 _ cn5)).trans cn5
              have cr6 := (hb6.cell (p := ⟨wA.heap.size + 1, 0, none⟩) (World.block_lt_of_cell? w5 _ cr5)).trans cr5
              clear hGd c8 c5 cn5 cr5 hb6 be5
              go_wp2_with fail
              refine (works_any w6 (hT.below hb6' hT0)).mono ?_
              rintro e w7 ⟨rfl, hb7⟩
              go_wp2
              go_ret
              exact ⟨rfl, hb6'.trans (hb7.mono hb6'.size)⟩
        · have s0 : decide ((0 : Int) < (mn : Int)) = false := by simp; omega
          have n3 : l.length ≤ n := by have := HW1.out (by omega); omega
          have s3 : decide ((l.length : Int) ≤ (n : Int)) = true := by have := HW1.out (by omega); rw [decide_eq_true_eq]; omega
          have s9 : decide (((fcat l).length : Int) ≤ (gg : Int)) = true := by simp; omega
          by_cases hbp : 0 < bp.length
          · have s1 : decide ((0 : Int) < (bp.length : Int)) = true := by simp; omega
            go_wp2_with fail
            refine hGd.mono ?_
            rintro e w6 ⟨rfl, hb6⟩
            have hb6' : Below w.heap.size w w6 := be5.trans (hb6.mono be5.size)
            have c56 := (hb6.cell (p := ⟨w.heap.size + 1, 0, none⟩) (World.block_lt_of_cell? w5 _ c5)).trans c5
            have cn6 := (hb6.cell (p := ⟨wA.heap.size, 0, none⟩) (World.block_lt_of_cell? w5 _ cn5)).trans cn5
            have cr6 := (hb6.cell (p := ⟨wA.heap.size + 1, 0, none⟩) (World.block_lt_of_cell? w5 _ cr5)).trans cr5
            clear hGd c8 c5 cn5 cr5 hb6 be5
            go_wp2_with fail
            refine (works_any w6 (hT.below hb6' hT0)).mono ?_
            rintro e w7 ⟨rfl, hb7⟩
            go_wp2
            go_ret
            exact ⟨rfl, hb6'.trans (hb7.mono hb6'.size)⟩
          · have s1 : decide ((0 : Int) < (bp.length : Int)) = false := by rw [decide_eq_false_iff_not]; omega
            obtain rfl : n = l.length := HW3.out (by omega) (by omega)
            go_wp2_with fail
            refine hGd.mono ?_
            rintro e w6 ⟨rfl, hb6⟩
            have hb6' : Below w.heap.size w w6 := be5.trans (hb6.mono be5.size)
            have c56 := (hb6.cell (p := ⟨w.heap.size + 1, 0, none⟩) (World.block_lt_of_cell? w5 _ c5)).trans c5
            have cn6 := (hb6.cell (p := ⟨wA.heap.size, 0, none⟩) (World.block_lt_of_cell? w5 _ cn5)).trans cn5
            have cr6 := (hb6.cell (p := ⟨wA.heap.size + 1, 0, none⟩) (World.block_lt_of_cell? w5 _ cr5)).trans cr5
            clear hGd c8 c5 cn5 cr5 hb6 be5
            go_wp2_with fail
            refine (works_any w6 (hT.below hb6' hT0)).mono ?_
            rintro e w7 ⟨rfl, hb7⟩
            go_wp2
            go_ret
            exact ⟨rfl, hb6'.trans (hb7.mono hb6'.size)⟩
    · have hkp : k < ps.length := by omega
      have hk20 : k < 20 := by omega
      have t0 : decide ((k : Int) < (ps.length : Int)) = true := by simp; omega
      have t1 : decide ((k : Int) < 20) = true := by simp; omega
      obtain ⟨p, hp⟩ : ∃ p, ps[k]? = some p := ⟨ps[k]'hkp, List.getElem?_eq_getElem hkp⟩
      obtain ⟨b, off0, rfl, hcP⟩ := hP (by omega)
      obtain ⟨q1, q2, q3, q4⟩ := hcP k p hp
      have hcp : wr.cell? ⟨b, off0 + k, none⟩ = some (.slice p.ao p.bs.length p.cap) := (hS.be.cell (p := ⟨b, off0 + k, none⟩) (World.block_lt_of_cell? w _ q1)).trans q1
      have hrowp := q2.below hS.be
      have HT1 : Hid (l.take (k + 1) = l.take k ++ [p.bs.take 3000]) := by unfold Hid; rw [← HL.out]; exact take_bods hp hk20
      obtain ⟨pa, pc, pb⟩ := p
      simp only at hcp hrowp q3 q4 HT1
      obtain ⟨pt, hpt⟩ : ∃ pt, pb.take 3000 = pt := ⟨_, rfl⟩
      have hpt3 : pt.length ≤ 3000 := by rw [← hpt, List.length_take]; omega
      rw [hpt] at HT1
      have HPT := mkH hpt
      clear hpt hcP q1 q2 hp hP
      go_wp2_with fail
      refine (few_any wr pa pc pb hrowp q3 q4).mono ?_
      rintro e w1 ⟨v1, rfl, hown1, hb1⟩
      rw [HPT.out] at hown1
      obtain ⟨a1, c1, rfl, -, hc1, hr1⟩ := own_row hown1
      have hS1 := hS.below hb1 (by omega)
      have hsz1 := Nat.le_trans hsz hb1.size
      clear hown1 hrowp hcp hc3
      go_wp2_with fail
      refine (frame_ok w1 a1 c1 pt (hT.below hS1.be hT0) hr1 (by omega)).mono ?_
      rintro e w2 ⟨v2, rfl, hown2, hb2⟩
      obtain ⟨a2, c2, rfl, hn2, hc2, hr2⟩ := own_row hown2
      have hS2 := hS1.below hb2 (by omega)
      have hsz2 := Nat.le_trans hsz1 hb2.size
      have hvw1 : ∀ g, va.ownBlock = some g → g < w1.heap.size := fun g e => (hS1.ra.lt g e).2
      have hszw1 := hsz1
      clear hr2 hr1 hS1 hS hb1 hb2
      obtain ⟨f, hf⟩ : ∃ f, Cp.frame pt = f := ⟨_, rfl⟩
      rw [hf] at hown2 hn2 hc2 ⊢
      rw [hn2] at hown2
      have hfl : f.length ≤ 3012 := by rw [← hf, Cp.frame_len]; omega
      have HFC : Hid (fcat (l.take (k + 1)) = fcat (l.take k) ++ f) := by unfold Hid; rw [HT1.out, fcat_snoc, hf]
      have HOF : Hid ((fcat (l.take k)).length = off l k) := rfl
      have hbl : (fcat (l.take k)).length ≤ 3012 * 20 := Nat.le_trans (fcat_len l k (by rw [← HL.out]; exact bods_le ps)) (by omega)
      clear hf hn2 HT1 HPT
      obtain ⟨ab, cb, hvb, hnb, hcb, hrb⟩ := own_row hS2.rb
      subst hvb
      have hc8 := cell_box hS2.b8
      have hf8 : w2.frozen? ⟨w.heap.size + 2, 0, none⟩ = false := by simp only [World.frozen?, hS2.b8]; rfl
      go_wp2_with (at_builtin; refine (wpList_append_own_src_at _ rfl (.tmp 44) (.tmp 47) 24 24 rfl (w.heap.size + 3) 3 (.int .i64 0) 1 8 Tryd.underlying24 info3 rfl (by decide) va k (I (places l k)) rfl (hS2.ra.alloc _) _ 1 [.int .i64 (((fcat (l.take k)).length : Nat) : Int)] rfl (src_val Tryd.underlying24 _ _ rfl) ?h63 ?hby ?hbs ?_))
      case h63 => unfold maxLen; omega
      case hby => omega
      case hbs => simp only [World.size_alloc]; omega
      intro va' w3 hown3 hg3 hat3
      have hvg : ∀ g, va.ownBlock = some g → w.heap.size + 3 ≤ g := fun g e => (hS2.ra.lt g e).1
      have hx2 : w2.heap.size ≤ (w2.alloc (.cells #[.int .i64 (((fcat (l.take k)).length : Nat) : Int)] 3)).heap.size := by simp
      have old : ∀ i, i < w2.heap.size → va.ownBlock ≠ some i → w3.heap[i]? = w2.heap[i]? := fun i hi hne => (hg3.block i (Nat.lt_of_lt_of_le hi hx2) (fun e => hne e.symm)).trans (Below.heap_alloc _ _ _ hi)
      have rb3 : w3.ownsRow (w.heap.size + 3) 5 1 (.slice ab (fcat (l.take k)).length cb) (fcat (l.take k)).length (U (fcat (l.take k))) := own_other (hS2.rb.alloc _) hg3 (fun g e => hS2.ne g e)
      have hf3 : w3.ownsRow w1.heap.size 5 1 (.slice a2 f.length c2) f.length (U f) := own_other (hown2.alloc _) hg3 (fun g e e2 => by have h1 := (hown2.lt g e).1; have h2 := hvw1 g e2; omega)
      have b33 : w3.heap[w.heap.size]? = some (.cells #[.slice (some ⟨b, off0, none⟩) ps.length cap] 22) := (old _ (by omega) (fun e => by have := hvg _ e; omega)).trans hS2.b3
      have b53 : w3.heap[w.heap.size + 1]? = some (.cells #[.int .i64 (mn : Int)] 3) := (old _ (by omega) (fun e => by have := hvg _ e; omega)).trans hS2.b5
      have b83 : w3.heap[w.heap.size + 2]? = some (.cells #[va] 24) := (old _ (by omega) (fun e => by have := hvg _ e; omega)).trans hS2.b8
      have be3 : Below w.heap.size w w3 := (hS2.be.alloc (by omega) _).grown hg3 (by simp only [World.size_alloc]; omega) (fun g e => by have := hvg g e; omega)
      have ra3 : w3.ownsRow (w.heap.size + 3) 3 1 va' (k + 1) (I (places l (k + 1))) := by
        rw [places_succ, I_append]
        exact hown3
      have ne3 : ∀ g, (Value.slice ab (fcat (l.take k)).length cb).ownBlock = some g → va'.ownBlock ≠ some g := by
        intro g e e2
        rcases hat3 with h | h
        · exact hS2.ne g e (h ▸ e2)
        · rw [h] at e2
          have := (hS2.rb.lt g e).2
          cases e2
          omega
      have hsz3 : w2.heap.size ≤ w3.heap.size := Nat.le_trans hx2 hg3.size
      have hc83 := cell_box b83
      have hf83 : w3.frozen? ⟨w.heap.size + 2, 0, none⟩ = false := by simp only [World.frozen?, b83]; rfl
      obtain ⟨ava, cva, rfl⟩ := own_form ra3
      have b84 := heap_setCell_one w3 (w.heap.size + 2) va (.slice ava (k + 1) cva) 24 b83
      have rb4 := ownsRow_setCell_below rb3 (a := ⟨w.heap.size + 2, 0, none⟩) (by simp only; omega) (.slice ava (k + 1) cva)
      have ra4 := ownsRow_setCell_below ra3 (a := ⟨w.heap.size + 2, 0, none⟩) (by simp only; omega) (.slice ava (k + 1) cva)
      have hf4 := ownsRow_setCell_below hf3 (a := ⟨w.heap.size + 2, 0, none⟩) (by simp only; omega) (.slice ava (k + 1) cva)
      have b34 : (w3.setCell ⟨w.heap.size + 2, 0, none⟩ (.slice ava (k + 1) cva)).heap[w.heap.size]? = _ := (Below.heap_setCell _ _ _ _ (by simp only; omega)).trans b33
      have b54 : (w3.setCell ⟨w.heap.size + 2, 0, none⟩ (.slice ava (k + 1) cva)).heap[w.heap.size + 1]? = _ := (Below.heap_setCell _ _ _ _ (by simp only; omega)).trans b53
      have be4 := be3.setCell (p := ⟨w.heap.size + 2, 0, none⟩) (by simp only; omega) (.slice ava (k + 1) cva)
      have hsz4 : (w3.setCell ⟨w.heap.size + 2, 0, none⟩ (.slice ava (k + 1) cva)).heap.size = w3.heap.size := by simp [World.setCell]
      clear hS2 hown2 hown3 hg3 hat3 old rb3 hf3 b33 b53 b83 be3 ra3 hc8 hf8 hvg hvw1
      go_wp2_with (at_builtin; refine (wpList_append_own_src_at _ rfl (.tmp 49) (.tmp 50) 23 23 rfl (w.heap.size + 3) 5 (.int .u8 0) 1 1 Tryd.underlying23 info5 rfl (by decide) _ (fcat (l.take k)).length (U (fcat (l.take k))) rfl rb4 _ f.length (U f) rfl ?hs ?h63 ?hby ?hbs ?_))
      case hs => exact Row.src (P := Tryd.prog) Tryd.underlying23 (Row.own hf4).2.2 c2
      case h63 => unfold maxLen; omega
      case hby => omega
      case hbs => first | omega | (simp [World.setCell]; omega)
      intro vb' w5 hown5 hg5' hat5'
      have hg5 : (w3.setCell ⟨w.heap.size + 2, 0, none⟩ (.slice ava (k + 1) cva)).grownBy w5 (Value.slice ab (fcat (l.take k)).length cb).ownBlock := hg5'
      have hat5 : vb'.ownBlock = (Value.slice ab (fcat (l.take k)).length cb).ownBlock ∨ vb'.ownBlock = some w3.heap.size := hat5'
      clear hg5' hat5'
      have hbg : ∀ g, (Value.slice ab (fcat (l.take k)).length cb).ownBlock = some g → w.heap.size + 3 ≤ g := fun g e => (rb4.lt g e).1
      have old : ∀ i, i < w.heap.size + 3 → w5.heap[i]? = (w3.setCell ⟨w.heap.size + 2, 0, none⟩ (.slice ava (k + 1) cva)).heap[i]? := fun i hi => hg5.block i (by omega) (fun e => by have := hbg i e.symm; omega)
      have rb5 : w5.ownsRow (w.heap.size + 3) 5 1 vb' (fcat (l.take (k + 1))).length (U (fcat (l.take (k + 1)))) := by
        rw [HFC.out, List.length_append, U_append]; exact hown5
      have ra5 := own_other ra4 hg5 (fun g e e2 => ne3 g e2 e)
      have ne5 : ∀ g, vb'.ownBlock = some g → (Value.slice ava (k + 1) cva).ownBlock ≠ some g := by
        intro g e e2
        rcases hat5 with h | h
        · exact ne3 g (h ▸ e) e2
        · rw [h] at e
          have := (ra4.lt g e2).2
          cases e
          omega
      have S5 : St w.heap.size w (some ⟨b, off0, none⟩) ps.length cap (mn : Int) l (k + 1) vb' (.slice ava (k + 1) cva) w5 :=
        ⟨(old _ (by omega)).trans b34, (old _ (by omega)).trans b54, (old _ (by omega)).trans b84, rb5, ra5, ne5, be4.grown hg5 (by omega) (fun g e => by have := hbg g e; omega)⟩
      have hsz5 : w.heap.size + 3 ≤ w5.heap.size := Nat.le_trans (by omega) hg5.size
      clear hown5 hg5 hat5 rb4 ra4 hf4 b34 b54 b84 be4 rb5 ra5 ne5 ne3 old hbg hrb
      go_wp2
      go_roundw
      case rel => exact ⟨k + 1, _, by go_num, by omega, S5, hsz5⟩
      case measure => simp [intOf]; omega
end Go.Proofs.YtjmhgifdkmglhabDoor.Ch
