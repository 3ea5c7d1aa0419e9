/-
  The checks of deliveries and of ranges, one by one; each, over rows of structs.
-/
import Derived.Test.YtenkgpfeifflnaaGreatWiA
import Derived.Test.YtenkgpfeifflnaaGreatWiT
import Derived.Test.YtenkgpfeifflnaaGreatWiY
namespace Go.Proofs.YtenkgpfeifflnaaGreat.Wa
open Go.RowKit Kt Pl Wi Wk Wc Wd We Wx Wy
open At (RowT)
set_option linter.unusedVariables false
set_option linter.unusedSimpArgs false
set_option maxRecDepth 20000

section
variable {P : Program} {w : World} {ops : Array Oper} {rest : List Oper} {o : Oper} {a : Act} {Q : Exit → Act → World → Prop}
/-- A struct goes into a variable made just now. -/
theorem wpList_stn (hgd : o.guard = none) {ty : TypeId} {x y : Operand} {cs zs : Array Value} {t : TypeId} (ho : o.op = .store ty x y) (hx : a.eval x = .pointer (some ⟨w.heap.size, 0, none⟩)) (hy : a.eval y = .agg cs) (hi : (P.info? ty).map (·.size) = some cs.size) (hold : zs.size = cs.size) (h1 : cs.all (fun x => x.oneCell') = true)
    (h : ∀ W, Bx W w.heap.size cs t → Gr w W → wpList P ops Q rest (a.put o.dst undef) W) : wpList P ops Q (o :: rest) a (w.alloc (.cells zs t)) :=
  wpList_st hgd ho hx hy (Bx.new w zs t) hi hold h1 (h _ ((Bx.new w zs t).row hold) ⟨below_setRow ((Below.refl _ _).alloc (Nat.le_refl _) _) (Nat.le_refl _) _, Nat.le_refl _⟩)
theorem wpList_ldw {ty : TypeId} {x : Operand} {p : Addr} {v : Value} (hw : Region.wanted o (yielded ops a.tmps) = true) (ho : o.op = .load ty x) (hx : a.eval x = .pointer (some p)) (h : (loadVar ty p).run P w = .ok v w)
    (hk : wpList P ops Q rest (a.put o.dst v) w) : wpList P ops Q (o :: rest) a w := by
  refine wpList_step fun _ hK => ?_
  rw [if_pos hw]
  unfold Oper.wp
  rw [run_ld ho hx h]
  exact hK _ _ hk
end
theorem all1 (l : List Value) (h : ∀ u ∈ l, u.oneCell' = true) : l.toArray.all (fun x => x.oneCell') = true := by rw [List.all_toArray, List.all_eq_true]; exact h

theorem rightG_all (g : Gt) : rightG g = (rcB g.rc && [g.sent].all (upToB 1099511627776)) := by simp [rightG, numB]
theorem shortG_all (g : Gt) : shortG g = ([g.rc.g].all (fitB 32) && [g.body].all (fitB 128)) := by simp [shortG]

set_option maxHeartbeats 1000000 in
theorem rightGot_any (w : World) (g : Gt) : Calls Tryz.prog 124 #[.agg (gC g).toArray] w fun e w' => e = .returned (.bool (rightG g)) ∧ Gr w w' := by
  have HE := mkH (rightG_all g)
  have H1 := rightReceipt_any (w.alloc (.cells (gC g).toArray 43)) g.rc
  unfold gC at H1 ⊢
  cases hb : rcB g.rc
  · rw [hb] at H1
    have HF : Hid (rightG g = false) := mkH (by rw [HE.out, hb]; rfl)
    clear hb HE
    go_enter Tryz.func124, Tryz.ntmps124
    go_wp2_with fail
    refine H1.mono ?_
    rintro e w1 ⟨rfl, hg⟩
    have HG := mkH (((Gr.refl w).alloc _).trans hg)
    clear hg H1
    go_wp2
    go_ret
    exact ⟨ret_bool HF.out.symm, HG.out⟩
  · rw [hb] at H1
    have HF : Hid (rightG g = [g.sent].all (upToB 1099511627776)) := mkH (by rw [HE.out, hb]; rfl)
    clear hb HE
    go_enter Tryz.func124, Tryz.ntmps124
    go_wp2_with fail
    refine H1.mono ?_
    rintro e w1 ⟨rfl, hg⟩
    have hc5 : w1.cell? ⟨w.heap.size, 5, none⟩ = some (.int .i64 g.sent) := (Bx.gr (Bx.new w (gC g).toArray 43) hg).cell 5
    have HG := mkH (((Gr.refl w).alloc _).trans hg)
    clear hg H1
    go_wp2_with fail
    refine (upTo_at _ _ 1 1 [g.sent] rfl ?hr (by omega) 1099511627776).mono ?_
    case hr => exact RowI.at _ [g.sent] 3 _ (by simp)
    rintro e w2 ⟨rfl, rfl⟩
    go_wp2
    go_ret
    exact ⟨ret_bool (by rw [HF.out]; simp), (HG.out.alloc _).alloc _⟩

set_option maxHeartbeats 1000000 in
theorem shortGot_any (w : World) (g : Gt) : Calls Tryz.prog 127 #[.agg (gC g).toArray] w fun e w' => e = .returned (.bool (shortG g)) ∧ Gr w w' := by
  have HE := mkH (shortG_all g)
  unfold gC
  cases hb : [g.rc.g].all (fitB 32)
  · have HF : Hid (shortG g = false) := mkH (by rw [HE.out, hb]; rfl)
    have HB := mkH hb
    clear hb HE
    go_enter Tryz.func127, Tryz.ntmps127
    go_wp2_with fail
    refine (fit_at _ _ 1 1 [g.rc.g] rfl ?hr (by omega) 32 32 rfl).mono ?_
    case hr => exact RowT.at _ [g.rc.g] 9 _ (by simp)
    rintro e w2 ⟨rfl, rfl⟩
    rw [HB.out]
    go_wp2
    go_ret
    exact ⟨ret_bool HF.out.symm, (((Gr.refl w).alloc _).alloc _).alloc _⟩
  · have HF : Hid (shortG g = [g.body].all (fitB 128)) := mkH (by rw [HE.out, hb]; rfl)
    have HB := mkH hb
    clear hb HE
    go_enter Tryz.func127, Tryz.ntmps127
    go_wp2_with fail
    refine (fit_at _ _ 1 1 [g.rc.g] rfl ?hr (by omega) 32 32 rfl).mono ?_
    case hr => exact RowT.at _ [g.rc.g] 9 _ (by simp)
    rintro e w2 ⟨rfl, rfl⟩
    rw [HB.out]
    have HG := mkH ((((Gr.refl w).alloc (.cells (gC g).toArray 43)).alloc (.cells #[.string (S g.rc.g)] 9)).alloc (.cells #[.int .i64 32] 3))
    go_wp2_with fail
    refine (fit_at _ _ 1 1 [g.body] rfl ?hr (by omega) 128 128 rfl).mono ?_
    case hr => exact RowT.at _ [g.body] 9 _ (by simp)
    rintro e w2 ⟨rfl, rfl⟩
    go_wp2
    go_ret
    exact ⟨ret_bool (by rw [HF.out]; simp), ((HG.out.alloc _).alloc _)⟩
theorem mayG_any (w : World) (r : Int × Int) : Calls Tryz.prog 126 #[.agg (rC r).toArray] w fun e w' => e = .returned (.bool (mayB r.1 r.2)) ∧ Gr w w' := may_any w r.1 r.2

set_option maxHeartbeats 2000000 in
theorem eachGr_any (p : Gt → Bool) (hf : ∀ W x, Calls Tryz.prog 124 #[.agg (gC x).toArray] W fun e w' => e = .returned (.bool (p x)) ∧ Gr W w') (w : World) (ao : Option Addr) (cap : Nat) (l : List (Gt)) (hr : RowG w ao l) (hlen : l.length ≤ 1000000000) :
    Calls Tryz.prog 123 #[.slice ao l.length cap, .func (Fn.func 124) #[] #[]] w fun e w' => e = .returned (.bool (l.all p)) ∧ Gr w w' := by
  have HR := mkH hr
  have HF := mkH hf
  clear hr hf
  go_enter Tryz.func123, Tryz.ntmps123
  go_wp2
  go_loopw [6, 9] (fun _ i wr => ∃ k : Nat, k ≤ l.length ∧ i = .int .i64 k ∧ Hid ((l.take k).all p = true) ∧ Hid (Gr w wr)) (fun _ i _ => l.length - (intOf i).toNat)
  case atStart => exact ⟨0, Nat.zero_le _, rfl, mkH (by simp), mkH (Gr.refl w)⟩
  case round =>
    obtain ⟨k, hk, rfl, HA, HG⟩ := hrel
    by_cases hlt : k < l.length
    · obtain ⟨b, off, hao, hcl⟩ := RowS.gr HR.out HG.out (by omega)
      obtain ⟨x, hx⟩ := some_of hlt
      have HLD := mkH (load_got (hcl k x hx))
      subst hao
      have HX := mkH hx
      have HONE := mkH (all1 _ (gC_one x))
      have HI : Hid ((Tryz.prog.info? 43).map (·.size) = some (gC x).toArray.size) := mkH infoG
      clear hcl hx
      cases hb : p x
      · have HE : Hid (l.all p = false) := mkH (all_false HX.out hb)
        have HPX := mkH hb
        clear hb HX
        go_wp2_with (first
          | (refine wpList_ld (ty := 43) (x := .tmp 11) rfl rfl rfl HLD.out ?_)
          | (refine wpList_stn (x := .tmp 6) (y := .tmp 12) rfl rfl rfl rfl HI.out rfl HONE.out ?_; intro W2 hB2 hG2; have HB2 := mkH hB2; have HG2 := mkH (HG.out.trans hG2); clear hB2 hG2)
          | (refine wpList_ld (ty := 43) (x := .tmp 6) rfl rfl rfl (load_bx HB2.out Tryz.underlying43 rfl HI.out) ?_))
        refine (HF.out W2 x).mono ?_
        rintro e w1 ⟨rfl, hg1⟩
        rw [HPX.out]
        have HG1 := mkH (HG2.out.trans hg1)
        clear hg1 HG2
        go_wp2
        go_ret
        exact ⟨ret_bool HE.out.symm, HG1.out⟩
      · have HN : Hid ((l.take (k + 1)).all p = true) := mkH (by rw [all_take _ _ _ _ HX.out, HA.out, hb]; rfl)
        have HPX := mkH hb
        clear hb HX HA
        go_wp2_with (first
          | (refine wpList_ld (ty := 43) (x := .tmp 11) rfl rfl rfl HLD.out ?_)
          | (refine wpList_stn (x := .tmp 6) (y := .tmp 12) rfl rfl rfl rfl HI.out rfl HONE.out ?_; intro W2 hB2 hG2; have HB2 := mkH hB2; have HG2 := mkH (HG.out.trans hG2); clear hB2 hG2)
          | (refine wpList_ld (ty := 43) (x := .tmp 6) rfl rfl rfl (load_bx HB2.out Tryz.underlying43 rfl HI.out) ?_))
        refine (HF.out W2 x).mono ?_
        rintro e w1 ⟨rfl, hg1⟩
        rw [HPX.out]
        have HG1 := mkH (HG2.out.trans hg1)
        clear hg1 HG2
        go_wp2
        go_roundw
        case rel => exact ⟨k + 1, by omega, by go_num, HN, HG1⟩
        case measure => simp [intOf]; omega
    · have HE : Hid (l.all p = true) := mkH (by have := HA.out; rwa [List.take_of_length_le (by omega)] at this)
      clear HA
      go_wp2
      go_ret
      exact ⟨ret_bool HE.out.symm, HG.out⟩

set_option maxHeartbeats 2000000 in
theorem eachGs_any (p : Gt → Bool) (hf : ∀ W x, Calls Tryz.prog 127 #[.agg (gC x).toArray] W fun e w' => e = .returned (.bool (p x)) ∧ Gr W w') (w : World) (ao : Option Addr) (cap : Nat) (l : List (Gt)) (hr : RowG w ao l) (hlen : l.length ≤ 1000000000) :
    Calls Tryz.prog 123 #[.slice ao l.length cap, .func (Fn.func 127) #[] #[]] w fun e w' => e = .returned (.bool (l.all p)) ∧ Gr w w' := by
  have HR := mkH hr
  have HF := mkH hf
  clear hr hf
  go_enter Tryz.func123, Tryz.ntmps123
  go_wp2
  go_loopw [6, 9] (fun _ i wr => ∃ k : Nat, k ≤ l.length ∧ i = .int .i64 k ∧ Hid ((l.take k).all p = true) ∧ Hid (Gr w wr)) (fun _ i _ => l.length - (intOf i).toNat)
  case atStart => exact ⟨0, Nat.zero_le _, rfl, mkH (by simp), mkH (Gr.refl w)⟩
  case round =>
    obtain ⟨k, hk, rfl, HA, HG⟩ := hrel
    by_cases hlt : k < l.length
    · obtain ⟨b, off, hao, hcl⟩ := RowS.gr HR.out HG.out (by omega)
      obtain ⟨x, hx⟩ := some_of hlt
      have HLD := mkH (load_got (hcl k x hx))
      subst hao
      have HX := mkH hx
      have HONE := mkH (all1 _ (gC_one x))
      have HI : Hid ((Tryz.prog.info? 43).map (·.size) = some (gC x).toArray.size) := mkH infoG
      clear hcl hx
      cases hb : p x
      · have HE : Hid (l.all p = false) := mkH (all_false HX.out hb)
        have HPX := mkH hb
        clear hb HX
        go_wp2_with (first
          | (refine wpList_ld (ty := 43) (x := .tmp 11) rfl rfl rfl HLD.out ?_)
          | (refine wpList_stn (x := .tmp 6) (y := .tmp 12) rfl rfl rfl rfl HI.out rfl HONE.out ?_; intro W2 hB2 hG2; have HB2 := mkH hB2; have HG2 := mkH (HG.out.trans hG2); clear hB2 hG2)
          | (refine wpList_ld (ty := 43) (x := .tmp 6) rfl rfl rfl (load_bx HB2.out Tryz.underlying43 rfl HI.out) ?_))
        refine (HF.out W2 x).mono ?_
        rintro e w1 ⟨rfl, hg1⟩
        rw [HPX.out]
        have HG1 := mkH (HG2.out.trans hg1)
        clear hg1 HG2
        go_wp2
        go_ret
        exact ⟨ret_bool HE.out.symm, HG1.out⟩
      · have HN : Hid ((l.take (k + 1)).all p = true) := mkH (by rw [all_take _ _ _ _ HX.out, HA.out, hb]; rfl)
        have HPX := mkH hb
        clear hb HX HA
        go_wp2_with (first
          | (refine wpList_ld (ty := 43) (x := .tmp 11) rfl rfl rfl HLD.out ?_)
          | (refine wpList_stn (x := .tmp 6) (y := .tmp 12) rfl rfl rfl rfl HI.out rfl HONE.out ?_; intro W2 hB2 hG2; have HB2 := mkH hB2; have HG2 := mkH (HG.out.trans hG2); clear hB2 hG2)
          | (refine wpList_ld (ty := 43) (x := .tmp 6) rfl rfl rfl (load_bx HB2.out Tryz.underlying43 rfl HI.out) ?_))
        refine (HF.out W2 x).mono ?_
        rintro e w1 ⟨rfl, hg1⟩
        rw [HPX.out]
        have HG1 := mkH (HG2.out.trans hg1)
        clear hg1 HG2
        go_wp2
        go_roundw
        case rel => exact ⟨k + 1, by omega, by go_num, HN, HG1⟩
        case measure => simp [intOf]; omega
    · have HE : Hid (l.all p = true) := mkH (by have := HA.out; rwa [List.take_of_length_le (by omega)] at this)
      clear HA
      go_wp2
      go_ret
      exact ⟨ret_bool HE.out.symm, HG.out⟩

set_option maxHeartbeats 2000000 in
theorem eachR_any (p : Int × Int → Bool) (hf : ∀ W x, Calls Tryz.prog 126 #[.agg (rC x).toArray] W fun e w' => e = .returned (.bool (p x)) ∧ Gr W w') (w : World) (ao : Option Addr) (cap : Nat) (l : List (Int × Int)) (hr : RowR w ao l) (hlen : l.length ≤ 1000000000) :
    Calls Tryz.prog 125 #[.slice ao l.length cap, .func (Fn.func 126) #[] #[]] w fun e w' => e = .returned (.bool (l.all p)) ∧ Gr w w' := by
  have HR := mkH hr
  have HF := mkH hf
  clear hr hf
  go_enter Tryz.func125, Tryz.ntmps125
  go_wp2
  go_loopw [6, 9] (fun _ i wr => ∃ k : Nat, k ≤ l.length ∧ i = .int .i64 k ∧ Hid ((l.take k).all p = true) ∧ Hid (Gr w wr)) (fun _ i _ => l.length - (intOf i).toNat)
  case atStart => exact ⟨0, Nat.zero_le _, rfl, mkH (by simp), mkH (Gr.refl w)⟩
  case round =>
    obtain ⟨k, hk, rfl, HA, HG⟩ := hrel
    by_cases hlt : k < l.length
    · obtain ⟨b, off, hao, hcl⟩ := RowS.gr HR.out HG.out (by omega)
      obtain ⟨x, hx⟩ := some_of hlt
      have HLD := mkH (load_rng (hcl k x hx))
      subst hao
      have HX := mkH hx
      have HONE := mkH (all1 _ (rC_one x))
      have HI : Hid ((Tryz.prog.info? 95).map (·.size) = some (rC x).toArray.size) := mkH infoR
      clear hcl hx
      cases hb : p x
      · have HE : Hid (l.all p = false) := mkH (all_false HX.out hb)
        have HPX := mkH hb
        clear hb HX
        go_wp2_with (first
          | (refine wpList_ld (ty := 95) (x := .tmp 11) rfl rfl rfl HLD.out ?_)
          | (refine wpList_stn (x := .tmp 6) (y := .tmp 12) rfl rfl rfl rfl HI.out rfl HONE.out ?_; intro W2 hB2 hG2; have HB2 := mkH hB2; have HG2 := mkH (HG.out.trans hG2); clear hB2 hG2)
          | (refine wpList_ld (ty := 95) (x := .tmp 6) rfl rfl rfl (load_bx HB2.out Tryz.underlying95 rfl HI.out) ?_))
        refine (HF.out W2 x).mono ?_
        rintro e w1 ⟨rfl, hg1⟩
        rw [HPX.out]
        have HG1 := mkH (HG2.out.trans hg1)
        clear hg1 HG2
        go_wp2
        go_ret
        exact ⟨ret_bool HE.out.symm, HG1.out⟩
      · have HN : Hid ((l.take (k + 1)).all p = true) := mkH (by rw [all_take _ _ _ _ HX.out, HA.out, hb]; rfl)
        have HPX := mkH hb
        clear hb HX HA
        go_wp2_with (first
          | (refine wpList_ld (ty := 95) (x := .tmp 11) rfl rfl rfl HLD.out ?_)
          | (refine wpList_stn (x := .tmp 6) (y := .tmp 12) rfl rfl rfl rfl HI.out rfl HONE.out ?_; intro W2 hB2 hG2; have HB2 := mkH hB2; have HG2 := mkH (HG.out.trans hG2); clear hB2 hG2)
          | (refine wpList_ld (ty := 95) (x := .tmp 6) rfl rfl rfl (load_bx HB2.out Tryz.underlying95 rfl HI.out) ?_))
        refine (HF.out W2 x).mono ?_
        rintro e w1 ⟨rfl, hg1⟩
        rw [HPX.out]
        have HG1 := mkH (HG2.out.trans hg1)
        clear hg1 HG2
        go_wp2
        go_roundw
        case rel => exact ⟨k + 1, by omega, by go_num, HN, HG1⟩
        case measure => simp [intOf]; omega
    · have HE : Hid (l.all p = true) := mkH (by have := HA.out; rwa [List.take_of_length_le (by omega)] at this)
      clear HA
      go_wp2
      go_ret
      exact ⟨ret_bool HE.out.symm, HG.out⟩
end Go.Proofs.YtenkgpfeifflnaaGreat.Wa
