/-
  The document's Of, Same; the law's few.
-/
import Derived.Test.YtcpmcfagibmboaaChW
namespace Go.Proofs.Ytcpmcfagibmboaa.Ch
open Go.RowKit Pl Pw Pr Pf Pv Cp Ca Cb Cc Cd Ce Cf Cg Gf Gk
open Cr hiding some_of
open Kt hiding mkH
open Kv
set_option linter.unusedVariables false
set_option linter.unusedSimpArgs false
set_option maxRecDepth 20000

set_option maxHeartbeats 1000000 in
theorem rof_any (w : World) (e : Int) (ao : Option Addr) (cap : Nat) (ps : List Pc) (h : RdP w ao cap ps) (hl : ps.length ≤ 100000) (p : Int) :
    Calls Try.prog 33 #[.agg #[.int .i64 e, .slice ao ps.length cap], .int .i64 p] w fun x w' => x = .returned (.int .i64 (ofL ps p)) ∧ Below w.heap.size w w' := by
  obtain ⟨V, hV⟩ : ∃ V, V = ofL ps p := ⟨_, rfl⟩
  rw [← hV]
  have HV := mkH hV
  clear hV
  have HX : Hid (Bx (w.alloc (.cells #[.int .i64 e, .slice ao ps.length cap] 24)) w.heap.size #[.int .i64 e, .slice ao ps.length cap] 24) := mkH (Bx.new _ _ _)
  have HB0 := mkH ((Below.refl w.heap.size w).alloc (Nat.le_refl _) (.cells #[.int .i64 e, .slice ao ps.length cap] 24))
  have HR := mkH (h.below HB0.out)
  have hz : (w.alloc (.cells #[.int .i64 e, .slice ao ps.length cap] 24)).heap.size = w.heap.size + 1 := by simp
  have HZ := mkH hz
  clear h hz
  go_enter Try.func33, Try.ntmps33
  go_wp2
  generalize w.alloc (.cells #[.int .i64 e, .slice ao ps.length cap] 24) = W0 at *
  go_loopw [5] (fun i wr => ∃ k : Nat, k ≤ ps.length ∧ i = .int .i64 k ∧ Hid (V = ofL (ps.drop k) p) ∧ Hid (Below W0.heap.size W0 wr)) (fun i _ => ps.length - (intOf i).toNat)
  case atStart => exact ⟨0, Nat.zero_le _, rfl, HV, mkH (Below.refl _ _)⟩
  case round =>
    obtain ⟨k, hk, rfl, HF, HB⟩ := hrel
    have HX1 := mkH (HX.out.bel HB.out)
    have HW := mkH (HB0.out.trans (HB.out.mono HB0.out.size))
    obtain ⟨x0, x1, -, -⟩ := two_load (P := Try.prog) HX1.out
    by_cases hlt : k < ps.length
    · obtain ⟨x, hx⟩ := Cr.some_of hlt
      obtain ⟨b, o, e1, c0, c1, c2⟩ := atP (HR.out.r.below HB.out) hx
      subst e1
      have hi : (k : Int) < (ps.length : Int) := by omega
      have hi0 : (0 : Int) ≤ (k : Int) := by omega
      have hin := fun W => rin_any W x.1 x.2.1 p
      have HS := mkH (ofL_step p hx)
      have hwz := HB.out.size
      clear hx HV
      have hrg : inn (rg x) p = inn (x.1, x.2.1) p := rfl
      rw [hrg] at HS
      clear hrg
      cases hq : inn (x.1, x.2.1) p
      · rw [hq] at hin HS
        have HQ2 := mkH (HF.out.trans HS.out)
        go_wp2_with fail
        refine (hin _).mono ?_
        rintro e w1 ⟨rfl, hg1⟩
        have HB1 := mkH (HB.out.trans (hg1.below.mono hwz))
        clear hg1 x0 x1 c0 c1 c2
        go_wp2
        go_roundw
        case rel => exact ⟨k + 1, by omega, by go_num, mkH (by rw [HQ2.out]; rfl), HB1⟩
        case measure => simp [intOf]; omega
      · rw [hq] at hin HS
        have HQ2 := mkH (HF.out.trans HS.out)
        go_wp2_with fail
        refine (hin _).mono ?_
        rintro e w1 ⟨rfl, hg1⟩
        obtain ⟨y0, y1, -, -⟩ := two_load (P := Try.prog) (HX1.out.bel hg1.below)
        have d2 := (hg1.below.cell (p := ⟨b, o + k * 3 + 2, none⟩) (World.block_lt_of_cell? _ _ c2)).trans c2
        have HB1 := mkH (HW.out.trans (hg1.below.mono HW.out.size))
        clear hg1 x0 x1 c0 c1 c2
        go_wp2
        go_ret
        exact ⟨by rw [HQ2.out]; rfl, HB1.out⟩
    · have : k = ps.length := by omega
      subst this
      rw [List.drop_length] at HF
      go_wp2
      go_ret
      exact ⟨by rw [HF.out]; rfl, HW.out⟩

set_option maxHeartbeats 2000000 in
theorem rsame_any (w : World) (e1 e2 : Int) (ao bo : Option Addr) (c d : Nat) (l m : List Pc) (h1 : RdP w ao c l) (h2 : RdP w bo d m) :
    Calls Try.prog 10 #[.agg #[.int .i64 e1, .slice ao l.length c], .agg #[.int .i64 e2, .slice bo m.length d]] w fun e w' => e = .returned (.bool (decide (e1 = e2 ∧ l = m))) ∧ Below w.heap.size w w' := by
  obtain ⟨V, hV⟩ : ∃ V, V = decide (e1 = e2 ∧ l = m) := ⟨_, rfl⟩
  rw [← hV]
  have HV := mkH hV
  clear hV
  have hB := ((Below.refl w.heap.size w).alloc (Nat.le_refl _) (.cells #[.int .i64 e1, .slice ao l.length c] 24)).alloc (by simp) (.cells #[.int .i64 e2, .slice bo m.length d] 24)
  have HB := mkH hB
  have HA : Hid (Bx ((w.alloc (.cells #[.int .i64 e1, .slice ao l.length c] 24)).alloc (.cells #[.int .i64 e2, .slice bo m.length d] 24)) w.heap.size #[.int .i64 e1, .slice ao l.length c] 24) := mkH ((Bx.new w _ _).alloc _)
  have HC : Hid (Bx ((w.alloc (.cells #[.int .i64 e1, .slice ao l.length c] 24)).alloc (.cells #[.int .i64 e2, .slice bo m.length d] 24)) (w.heap.size + 1) #[.int .i64 e2, .slice bo m.length d] 24) := mkH (Bx.new1 w _ _ _)
  have HL := mkH (h1.below hB)
  have HM := mkH (h2.below hB)
  clear hB
  have hca := h1.le
  have hcb := h1.hi
  have hcc := h2.le
  have hcd := h2.hi
  clear h1 h2
  by_cases he : e1 = e2
  · subst he
    by_cases hn : l.length = m.length
    · rw [← hn] at HA HB HC HL HM ⊢
      have HN := mkH hn
      clear hn
      go_enter Try.func10, Try.ntmps10
      go_wp2
      generalize (w.alloc (.cells #[.int .i64 e1, .slice ao l.length c] 24)).alloc (.cells #[.int .i64 e1, .slice bo l.length d] 24) = W0 at *
      go_loopw [5] (fun i wr => ∃ k q : Nat, k ≤ l.length ∧ i = .int .i64 k ∧ wr = W0.drewN q ∧ Hid (l.take k = m.take k)) (fun i _ => l.length - (intOf i).toNat)
      case atStart => exact ⟨0, 0, Nat.zero_le _, rfl, rfl, rfl⟩
      case round =>
        obtain ⟨k, q, hk, rfl, rfl, HT⟩ := hrel
        have hbq : Below W0.heap.size W0 (W0.drewN q) := Gf.below_drewN (Below.refl _ _) q
        obtain ⟨x0, x1, -, -⟩ := two_load (P := Try.prog) (HA.out.bel hbq)
        obtain ⟨y0, y1, -, -⟩ := two_load (P := Try.prog) (HC.out.bel hbq)
        by_cases hlt : k < l.length
        · obtain ⟨⟨r1, r2, r3⟩, hr⟩ := Cr.some_of hlt
          obtain ⟨⟨s1, s2, s3⟩, hs⟩ := Cr.some_of (show k < m.length by have := HN.out; omega)
          obtain ⟨b1, o1, e3, u1, u2, u3⟩ := atP (HL.out.r.below hbq) hr
          obtain ⟨b2, o2, e4, v1, v2, v3⟩ := atP (HM.out.r.below hbq) hs
          subst e3
          subst e4
          have HR := mkH hr
          have HSS := mkH hs
          have e1' := neqP r1 r2 r3 s1 s2 s3
          have g1 := guardP
          have hi : (k : Int) < (l.length : Int) := by omega
          have hi0 : (0 : Int) ≤ (k : Int) := by omega
          clear hr hs
          simp only at u1 u2 u3 v1 v2 v3
          generalize hwq : W0.drewN q = wq at *
          have HW := mkH hwq
          clear hwq
          go_wp2_with fail
          go_quiet (fail)
          by_cases hee : (r1 = s1 ∧ r2 = s2) ∧ r3 = s3
          · have ht : decide ((r1 = s1 ∧ r2 = s2) ∧ r3 = s3) = true := decide_eq_true hee
            have HEQ := mkH (take_succ_eq HR.out HSS.out HT.out (Prod.ext hee.1.1 (Prod.ext hee.1.2 hee.2)))
            simp only [hee]
            clear ht e1' g1 u1 u2 u3 v1 v2 v3 hee
            go_wp2
            go_roundw
            case rel => exact ⟨k + 1, q + nq, by omega, by go_num, by rw [← HW.out, World.drewN_drewN], HEQ⟩
            case measure => simp [intOf]; omega
          · have ht : (!decide (r1 = s1) || !decide (r2 = s2) || !decide (r3 = s3)) = true := by
              by_cases a1 : r1 = s1 <;> by_cases a2 : r2 = s2 <;> by_cases a3 : r3 = s3 <;> simp_all
            rw [ht]
            have HEQ : Hid (¬ l = m) := mkH (fun h => by
              have h3 := HSS.out
              rw [← h, HR.out] at h3
              injection h3 with h3
              injection h3 with h4 h5
              injection h5 with h5 h6
              exact hee ⟨⟨h4, h5⟩, h6⟩)
            clear ht e1' g1 u1 u2 u3 v1 v2 v3 hee
            go_wp2
            go_ret
            refine ⟨by rw [HV.out, decide_eq_false (fun h => HEQ.out h.2)]; rfl, ?_⟩
            rw [← HW.out, World.drewN_drewN]
            exact Gf.below_drewN HB.out _
        · have : k = l.length := by omega
          subst this
          have HEQ : Hid (l = m) := mkH (by
            have h1 := HT.out
            rw [List.take_length, List.take_of_length_le (by have := HN.out; omega)] at h1
            exact h1)
          go_wp2
          go_ret
          have hv : V = true := by
            rw [HV.out]
            exact decide_eq_true (by first | exact ⟨rfl, HEQ.out⟩ | exact ⟨True.intro, HEQ.out⟩)
          exact ⟨by rw [hv]; rfl, Gf.below_drewN HB.out _⟩
    · have hn1 : ¬ (l.length : Int) = (m.length : Int) := by omega
      have HN := mkH hn
      go_enter Try.func10, Try.ntmps10
      go_wp2
      go_ret
      exact ⟨by rw [HV.out, decide_eq_false (fun h => HN.out (by rw [h.2]))]; rfl, HB.out⟩
  · go_enter Try.func10, Try.ntmps10
    go_wp2
    go_ret
    exact ⟨by rw [HV.out, decide_eq_false (fun h => he h.1)]; rfl, HB.out⟩

theorem step_append_own_src {P : Program} {ops : Array Oper} {o : Oper} {a : Act} {w : World} {K : Act → World → Prop} {Q : Exit → Act → World → Prop} {E : Prop}
    (hg : o.guard = none) (s x : Operand) (t tx : TypeId) (hop : o.op = Op.call { callee := Callee.builtin Builtin.append, args := #[s, x], argTypes := #[t, tx] })
    (base : Nat) (e : TypeId) (z : Value) (size bytes : Nat) (ht : P.underlying t = some (.slice e)) (hinfo : (P.info? e).map (fun i => (i.zero, i.size, i.bytes)) = some (some z, size, bytes))
    (hzs : z.cells.size = size) (hsz : 0 < size)
    (v : Value) (n : Nat) (xs : List Value) (hs : a.eval s = v) (hown : w.ownsRow base e size v n xs)
    (xv : Value) (m : Nat) (news : List Value) (hx : a.eval x = xv) (hsrc : Src P size tx xv m news w)
    (h63 : n + m ≤ maxLen) (hbytes : (n + m) * bytes ≤ 140737488355328) (hbase : base ≤ w.heap.size)
    (hK : ∀ v' w', w'.ownsRow base e size v' (n + m) (xs ++ news) → w.grownBy w' v.ownBlock → K (a.put o.dst v') w') :
    if Region.wanted o (yielded ops a.tmps) = true then Oper.wp P o a w K Q else E := by
  obtain ⟨i, hi, hz, hsize, hby⟩ := info_parts hinfo
  have hw : Region.wanted o (yielded ops a.tmps) = true := by simp [Region.wanted, hg]
  rw [if_pos hw]
  obtain ⟨v', w', hr, h2, h3⟩ := run_append_own_src (P := P) w base t tx o.type e i z size bytes ht hi hz hsize hby hzs hsz v n xs hown xv m news hsrc h63 hbytes hbase
  unfold Oper.wp
  simp [execOp, hop, resolve, invoke, builtin, hs, hx, hr, Result.andThen]
  exact hK v' w' h2 h3

/-- A guard: this step is an append of these operands. -/
theorem atApp {P : Program} {ops : Array Oper} {o : Oper} {a : Act} {w : World} {K : Act → World → Prop} {Q : Exit → Act → World → Prop} {E : Prop} (s x : Operand) (t tx : TypeId)
    (hop : o.op = Op.call { callee := Callee.builtin Builtin.append, args := #[s, x], argTypes := #[t, tx] }) (h : if Region.wanted o (yielded ops a.tmps) = true then Oper.wp P o a w K Q else E) :
    if Region.wanted o (yielded ops a.tmps) = true then Oper.wp P o a w K Q else E := h

theorem two_set {W : World} {n : Nat} (u v : Value) {x0 x1 : Option Value} (h : W.cell? ⟨n, 0, none⟩ = x0 ∧ W.cell? ⟨n, 1, none⟩ = x1) :
    ((W.setCell ⟨n + 1, 0, none⟩ u).setCell ⟨n + 1, 1, none⟩ v).cell? ⟨n, 0, none⟩ = x0 ∧ ((W.setCell ⟨n + 1, 0, none⟩ u).setCell ⟨n + 1, 1, none⟩ v).cell? ⟨n, 1, none⟩ = x1 := by
  have h1 : n ≠ n + 1 := by omega
  refine ⟨?_, ?_⟩
  · rw [cell_other h1, cell_other h1]; exact h.1
  · rw [cell_other h1, cell_other h1]; exact h.2

set_option maxHeartbeats 2000000 in
/-- few: a copy of at most 30 pieces. -/
theorem few_any (w : World) (e : Int) (ao : Option Addr) (cap : Nat) (l : List Pc) (h : RdP w ao cap l) :
    Calls Try.prog 7 #[.agg #[.int .i64 e, .slice ao l.length cap]] w fun x w' => ∃ a' c', x = .returned (.agg #[.int .i64 e, .slice a' (l.take 30).length c']) ∧ OwP w' w.heap.size a' c' (l.take 30) ∧ Below w.heap.size w w' := by
  have hr6 := h.r.take 30
  obtain ⟨m, hm⟩ : ∃ m, m = min l.length 30 := ⟨_, rfl⟩
  have hl : (l.take 30).length = m := by rw [List.length_take]; omega
  have hm1 : min (l.length : Int) 30 = (m : Int) := by omega
  have hm2 : (m : Int) ≤ (cap : Int) := by have := h.le; omega
  have hm3 : m ≤ 30 := by omega
  have hm4 : (0 : Int) ≤ (m : Int) := by omega
  have HL := mkH hl
  obtain ⟨W2, hW2⟩ : ∃ W2, W2 = (w.alloc (.cells #[.int .i64 e, .slice ao l.length cap] 24)).alloc (.cells #[.int .i64 0, .slice none 0 0] 24) := ⟨_, rfl⟩
  have b0 : Bx W2 w.heap.size #[.int .i64 e, .slice ao l.length cap] 24 := by rw [hW2]; exact (Bx.new w _ _).alloc _
  have b1 : Bx W2 (w.heap.size + 1) #[.int .i64 0, .slice none 0 0] 24 := by rw [hW2]; exact Bx.new1 w _ _ _
  have hB : Below w.heap.size w W2 := by rw [hW2]; exact ((Below.refl _ w).alloc (Nat.le_refl _) _).alloc (by simp) _
  have hz : W2.heap.size = w.heap.size + 2 := by rw [hW2]; simp
  have HR := mkH (hr6.below hB)
  obtain ⟨c0, c1, -, -⟩ := two_load (P := Try.prog) b0
  have HB0 := mkH b0
  have HB1 := mkH b1
  have HB := mkH hB
  have HZ := mkH hz
  have HW := mkH hW2
  generalize l.take 30 = t at *
  clear b0 b1 hB hz hW2 hl hr6 hm h
  go_enter Try.func7, Try.ntmps7
  go_wp2_with fail
  rw [show (w.alloc (.cells #[.int .i64 e, .slice ao l.length cap] 24)).alloc (.cells #[.int .i64 0, .slice none 0 0] 24) = W2 from HW.out.symm]
  clear HW
  have HCEL : Hid (∀ W, Below W2.heap.size W2 W → (W.cell? ⟨w.heap.size, 0, none⟩ = some (.int .i64 e) ∧ W.cell? ⟨w.heap.size, 1, none⟩ = some (.slice ao l.length cap)) ∧ W.cell? ⟨w.heap.size + 1, 0, none⟩ = some (.int .i64 0) ∧ W.cell? ⟨w.heap.size + 1, 1, none⟩ = some (.slice none 0 0) ∧ W.frozen? ⟨w.heap.size + 1, 0, none⟩ = false ∧ W.frozen? ⟨w.heap.size + 1, 1, none⟩ = false) := mkH (fun W hb =>
    have x := two_load (P := Try.prog) (HB0.out.bel hb)
    ⟨⟨x.1, x.2.1⟩, two_load (P := Try.prog) (HB1.out.bel hb)⟩)
  have HOW : Hid ((W2.alloc (.cells #[] 63)).drew.ownsRow W2.heap.size 63 3 (.slice (some ⟨W2.heap.size, 0, none⟩) 0 0) 0 []) := mkH (own_below (World.ownsRow_made (e := 63) (size := 3) W2 #[] 0 (Nat.le_refl _) (Nat.zero_le _) rfl) (Below.refl _ _).drew)
  have HBA : Hid (Below W2.heap.size W2 (W2.alloc (.cells #[] 63)).drew) := mkH (((Below.refl _ W2).alloc (Nat.le_refl _) _).drew)
  have HSR : Hid (Src Try.prog 3 22 (.slice ao m cap) m (Fp t) (W2.alloc (.cells #[] 63)).drew) := mkH (by
    have := srcP ((HR.out.below HBA.out)) cap
    rw [HL.out] at this
    exact this)
  go_region_held3 (fun w' => w'.cell? ⟨w.heap.size, 0, none⟩ = some (.int .i64 e) ∧ w'.cell? ⟨w.heap.size, 1, none⟩ = some (.slice ao l.length cap)) (first | go_keep | exact hkeep | exact two_set _ _ hkeep) (first
    | (refine atApp (.tmp 5) (.tmp 12) 22 22 ?_ ?_; rfl; refine step_append_own_src (by rfl) (.tmp 5) (.tmp 12) 22 22 (by rfl) W2.heap.size 63 (.agg #[.int .i64 0, .int .i64 0, .int .i64 0]) 3 24 Try.underlying22 infoP (by rfl) (by decide) (.slice (some ⟨W2.heap.size, 0, none⟩) 0 0) 0 [] (by rfl) (by exact HOW.out) (.slice ao m cap) m (Fp t) (by rfl) (by exact HSR.out) (by unfold maxLen; omega) (by omega) (by simp) ?_; intro v2 w3 hown2 hgrow2; simp only [Nat.zero_add, List.nil_append] at hown2; have hform := own_form hown2; obtain ⟨a2, k2, rfl⟩ := hform; have hbel2 : Below W2.heap.size W2 w3 := (by exact below_own HOW.out hgrow2 HBA.out (by simp)); have hcc := (by exact HCEL.out w3 hbel2); obtain ⟨hkeep, z0, z1, z2, z3⟩ := hcc))
  all_goals
    have ho3 : OwP w3 w.heap.size a2 k2 t := ⟨by rw [HL.out]; exact own_mono hown2 (by have := HZ.out; omega)⟩
    have hbw : Below w.heap.size w w3 := HB.out.trans (hbel2.mono HB.out.size)
    obtain ⟨f1, f2, y0, y1⟩ := move_fin (w := w) (HB1.out.bel hbel2) ho3 hbw (Nat.le_succ _) e
    rw [HL.out] at f1 f2 y0 y1
    have HF1 := mkH f1
    have HF2 := mkH f2
    clear f1 f2 ho3 hbw hown2 hgrow2 hkeep z0 z1 z2 z3 c0 c1
    go_wp2
    exact bodyPost_ret (v := .agg #[.int .i64 e, .slice a2 m k2]) (res_c rfl _ _ _ (b := ⟨w.heap.size + 1, 0, none⟩) (by rfl) (by simp [loadVar, go_sem, y0, y1])) rfl ⟨a2, k2, by rw [HL.out], HF1.out, HF2.out⟩
end Go.Proofs.Ytcpmcfagibmboaa.Ch
