/-
  Look, Last.
-/
import Derived.Test.YtenkgpfeifflnaaGreatSeC
namespace Go.Proofs.YtenkgpfeifflnaaGreat.Sd
open Go.RowKit Kt Pl Wi Wk Wa Sm Sa Sb Sc
open Dk (Fr Nx)
open At (RowT)
set_option linter.unusedVariables false
set_option linter.unusedSimpArgs false
set_option maxRecDepth 20000

/-- What Look hands back and leaves. -/
def LookP (w : World) (l : List E) (c n : Int) (e : Ending) (w' : World) : Prop := ∃ ga gc da dc ra rc, e = .returned (.tuple #[.agg (Pv (lookR l c n) ga gc da dc ra rc), .bool (lookK l c n), .int .i64 (lookE l c n)]) ∧ RpM w' (lookR l c n) ga da ra ∧ Far (fun k => w.heap.size ≤ k) ga da ra ∧ Cnt (lookR l c n) ∧ Below w.heap.size w w'
theorem LookP.err {w w' : World} {l : List E} {c n e : Int} (hK : lookK l c n = false) (hE : lookE l c n = e) (hb : Below w.heap.size w w') : LookP w l c n (.returned (.tuple #[.agg ZP, .bool false, .int .i64 e])) w' := by
  have hR : lookR l c n = Rp.none := by unfold lookR; rw [hK]; rfl
  refine ⟨none, 0, none, 0, none, 0, by rw [hR, hK, hE]; rfl, ?_, ⟨fun a h => (by cases h), fun a h => (by cases h), fun a h => (by cases h)⟩, ?_, hb⟩
  · rw [hR]; exact ⟨RowS.nil _ _, fun h => by simp [Rp.none] at h, RowS.nil _ _⟩
  · rw [hR]; exact ⟨by simp [Rp.none], by simp [Rp.none], by simp [Rp.none]⟩
theorem one_ZP : ZP.all (fun x => x.oneCell') = true := Pv_one _ _ _ _ _ _ _
theorem infoZ : (Tryz.prog.info? 34).map (·.size) = some ZP.size := infoP
theorem ret_ctt {fn : Func} {R : Ending → World → Prop} {a : Act} {P : Program} {w : World} (p q s : Tmp) (ty : TypeId) (h : fn.results = #[.cell p ty, .tmp q, .tmp s]) (b : Nat) (hp : a.tmps.getD p undef = .pointer (some ⟨b, 0, none⟩)) {v y z : Value} (hq : a.tmps.getD q undef = y) (hs : a.tmps.getD s undef = z) (hl : (loadVar ty ⟨b, 0, none⟩).run P w = .ok v w) (hdf : a.defers = []) (hR : R (.returned (.tuple #[v, y, z])) w) : bodyPost P fn R .ret a w :=
  bodyPost_ret (v := .tuple #[v, y, z]) (res_ctt h _ _ _ hp hq hs hl) hdf hR

set_option maxHeartbeats 4000000 in
theorem look_any {w : World} {F : Nat → Prop} {T Mb : Nat} {l : List E} (ht : Tb w F T Mb l) (c n : Int) :
    Calls Tryz.prog 13 #[.pointer (some ⟨T, 0, none⟩), .int .i64 c, .int .i64 n] w fun e w' => LookP w l c n e w' := by
  obtain ⟨xs, hxs, hx⟩ := ht
  have HXS := mkH hxs
  have HX := mkH hx
  clear hxs hx
  go_enter Tryz.func13, Tryz.ntmps13
  go_wp2_with fail
  refine start1c (cs := ZP) (fun W0 hB hG hsz => ?_)
  have HB := mkH hB
  have HG := mkH hG
  have HX0 := mkH (HX.out.below hG)
  clear hB hG hsz HX
  by_cases hc : num c
  · have dc1 : decide (num c) = true := by simp [hc]
    by_cases hn : num n
    · have dn1 : decide (num n) = true := by simp [hn]
      have HCN := mkH (And.intro hc hn)
      have hcw := wf_num hc
      obtain ⟨A, hA7, hA1, hA0, -, hl1, r, ga, gc, da, dc, ra, rc, hAe, hrm, hcn, hrr⟩ := look_ans HX0.out HXS.out hcw
      obtain ⟨L, hL⟩ : ∃ L, lastN l c = L := ⟨_, rfl⟩
      rw [hL] at hA0 hAe
      have HEE : Hid (lookE l c n = if n < L then 16 else 0) := mkH (by
        unfold lookE
        rw [if_neg (by simpa using hc), if_neg (by simpa using hn), hL])
      have HKK : Hid (lookK l c n = decide (n = L)) := mkH (by
        unfold lookK
        rw [hL]
        simp [hc, hn])
      have HA0 := mkH hA0
      have HAI : Hid ((Tryz.prog.info? 69).map (·.size) = some A.size) := mkH (by rw [hA7]; exact infoA)
      have HAZ : Hid (zA7.size = A.size) := mkH (by rw [hA7]; rfl)
      have HA1 := mkH hA1
      have HAE := mkH hAe
      have HRM := mkH hrm
      have HCR := mkH hcn
      have HRR := mkH hrr
      have cT0 : W0.cell? ⟨T, 0, none⟩ = some (.map (some Mb)) := HX0.out.bx.cell 0
      clear hc hn hA7 hA1 hA0 hL hAe hrm hcn hrr
      by_cases hlt : n < L
      · have HE2 : Hid (lookE l c n = 16) := mkH (by rw [HEE.out, if_pos hlt])
        have HK2 : Hid (lookK l c n = false) := mkH (by rw [HKK.out]; simp; omega)
        go_wp2_with (first
          | (go_at_call 26; refine (isMade_yes HX0.out.bx).mono ?_; rintro e1 w1 ⟨rfl, h⟩; have h2 := h.symm; clear h; subst h2)
          | (go_at_call 27; refine (isNumber_any _ _).mono ?_; rintro e1 w1 ⟨rfl, h⟩; have h2 := h.symm; clear h; subst h2)
          | (refine wpList_stn rfl (ty := 69) (x := .tmp 9) (y := .tmp 30) (cs := A) (zs := zA7) rfl rfl rfl HAI.out HAZ.out HA1.out (fun W1 hB1 hg1 => ?_); have HB1 := mkH (And.intro hB1 hg1.below); have cL : W1.cell? ⟨W0.heap.size, 0, none⟩ = some (.int .i64 L) := (hB1.cell 0).trans HA0.out; clear hB1 hg1 hl1)
          | (refine wpList_st rfl (ty := 34) (x := .tmp 6) (y := .tmp 36) (cs := ZP) rfl rfl rfl (bx_bel HB.out HB1.out.2) infoZ rfl one_ZP ?_))
        refine ret_ctt 6 7 8 34 rfl w.heap.size rfl rfl rfl (load_bx (P := Tryz.prog) ((bx_bel HB.out HB1.out.2).row rfl) Tryz.underlying34 rfl infoZ) rfl ?_
        exact LookP.err HK2.out HE2.out (bel_setRow (HG.out.trans (HB1.out.2.mono HG.out.size)) (Nat.le_refl _) _)
      · by_cases hgt : L < n
        · have HE2 : Hid (lookE l c n = 0) := mkH (by rw [HEE.out, if_neg hlt])
          have HK2 : Hid (lookK l c n = false) := mkH (by rw [HKK.out]; simp; omega)
          go_wp2_with (first
            | (go_at_call 26; refine (isMade_yes HX0.out.bx).mono ?_; rintro e1 w1 ⟨rfl, h⟩; have h2 := h.symm; clear h; subst h2)
            | (go_at_call 27; refine (isNumber_any _ _).mono ?_; rintro e1 w1 ⟨rfl, h⟩; have h2 := h.symm; clear h; subst h2)
            | (refine wpList_stn rfl (ty := 69) (x := .tmp 9) (y := .tmp 30) (cs := A) (zs := zA7) rfl rfl rfl HAI.out HAZ.out HA1.out (fun W1 hB1 hg1 => ?_); have HB1 := mkH (And.intro hB1 hg1.below); have cL : W1.cell? ⟨W0.heap.size, 0, none⟩ = some (.int .i64 L) := (hB1.cell 0).trans HA0.out; clear hB1 hg1 hl1)
            | (refine wpList_st rfl (ty := 34) (x := .tmp 6) (y := .tmp 42) (cs := ZP) rfl rfl rfl (bx_bel HB.out HB1.out.2) infoZ rfl one_ZP ?_))
          refine ret_ctt 6 7 8 34 rfl w.heap.size rfl rfl rfl (load_bx (P := Tryz.prog) ((bx_bel HB.out HB1.out.2).row rfl) Tryz.underlying34 rfl infoZ) rfl ?_
          exact LookP.err HK2.out HE2.out (bel_setRow (HG.out.trans (HB1.out.2.mono HG.out.size)) (Nat.le_refl _) _)
        · have he : n = L := by omega
          have HE2 : Hid (lookE l c n = 0) := mkH (by rw [HEE.out, if_neg hlt])
          have HK2 : Hid (lookK l c n = true) := mkH (by rw [HKK.out]; simp [he])
          have HR2 : Hid (lookR l c n = r) := mkH (by unfold lookR; rw [HK2.out, if_pos rfl]; exact HRR.out.symm)
          have HAL : Hid (∀ W b, Bx W b A 69 → (loadVar 34 ⟨b, 1, none⟩).run Tryz.prog W = .ok (.agg (Pv r ga gc da dc ra rc)) W) := mkH (fun W b h => by
            have := run_load_agg (P := Tryz.prog) (w := W) 34 _ Tryz.underlying34 rfl b 1 (Pv r ga gc da dc ra rc).toList infoP (fun j v hv => by
              rw [h.cell, HAE.out]
              rcases j with _ | _ | _ | _ | _ | _ | j <;> first | exact hv | (simp [Pv] at hv))
            simpa using this)
          subst he
          go_wp2_with (first
            | (go_at_call 26; refine (isMade_yes HX0.out.bx).mono ?_; rintro e1 w1 ⟨rfl, h⟩; have h2 := h.symm; clear h; subst h2)
            | (go_at_call 27; refine (isNumber_any _ _).mono ?_; rintro e1 w1 ⟨rfl, h⟩; have h2 := h.symm; clear h; subst h2)
            | (refine wpList_stn rfl (ty := 69) (x := .tmp 9) (y := .tmp 30) (cs := A) (zs := zA7) rfl rfl rfl HAI.out HAZ.out HA1.out (fun W1 hB1 hg1 => ?_); have HB1 := mkH (And.intro hB1 hg1.below); have cL : W1.cell? ⟨W0.heap.size, 0, none⟩ = some (.int .i64 n) := (hB1.cell 0).trans HA0.out; clear hB1 hg1 hl1)
            | (refine Wy.wpList_ld (ty := 34) (x := .tmp 43) rfl rfl rfl (HAL.out _ _ HB1.out.1) ?_)
            | (go_at_call 28; refine (copyReply_any _ r ga gc da dc ra rc (HRM.out.below HB1.out.2) HCR.out).mono ?_; rintro e1 W2 ⟨g2, gc2, d2, dc2, r2, rc2, rfl, hr2, hf2, hb2⟩; have HB2 := mkH (bx_bel (bx_bel HB.out HB1.out.2) hb2); obtain ⟨D, hD⟩ : ∃ D, Pv r g2 gc2 d2 dc2 r2 rc2 = D := ⟨_, rfl⟩; rw [hD]; have HSF : Hid (ZP.size = D.size) := mkH (by rw [← hD]; rfl); have HIF : Hid ((Tryz.prog.info? 34).map (·.size) = some D.size) := mkH (by rw [← hD]; exact infoP); have HOF : Hid (D.all (fun x => x.oneCell') = true) := mkH (by rw [← hD]; exact Pv_one _ _ _ _ _ _ _); have HDF := mkH hD; have HBF := HB2; have HFF : Hid (Far (fun k => w.heap.size ≤ k) g2 d2 r2) := mkH (hf2.mono (fun k hk => Nat.le_trans (Nat.le_trans HG.out.size HB1.out.2.size) hk)); have hlo : ∀ a, (g2 = some a ∨ d2 = some a ∨ r2 = some a) → a.block ≠ w.heap.size := (fun a ha => by have h9 := HB.out.lt; have h8 := HB1.out.2.size; rcases ha with h | h | h; exact (by have := hf2.1 a h; simp only at this; omega); exact (by have := hf2.2.1 a h; simp only at this; omega); exact (by have := hf2.2.2 a h; simp only at this; omega)); have HRF : Hid (RpM (W2.setRow w.heap.size D) r g2 d2 r2) := mkH ⟨hr2.got.setRow (fun a h => hlo a (.inl h)) D, Wk.RowT.setRow hr2.data (fun a h => hlo a (.inr (.inl h))) D, hr2.about.setRow (fun a h => hlo a (.inr (.inr h))) D⟩; have HGF : Hid (Below w.heap.size w (W2.setRow w.heap.size D)) := mkH (bel_setRow ((HG.out.trans (HB1.out.2.mono HG.out.size)).trans (hb2.mono (Nat.le_trans HG.out.size HB1.out.2.size))) (Nat.le_refl _) _); clear hr2 hf2 hb2 hD hlo)
            | (refine wpList_st rfl (ty := 34) (x := .tmp 6) (y := .tmp 45) rfl rfl rfl HB2.out HIF.out HSF.out HOF.out ?_))
          refine ret_ctt 6 7 8 34 rfl w.heap.size rfl rfl rfl (load_bx (P := Tryz.prog) (HBF.out.row HSF.out) Tryz.underlying34 rfl HIF.out) rfl ?_
          exact ⟨g2, gc2, d2, dc2, r2, rc2, by rw [HE2.out, HK2.out, HR2.out, HDF.out]; rfl, by rw [HR2.out]; exact HRF.out, HFF.out, by rw [HR2.out]; exact HCR.out, HGF.out⟩
    · have dn1 : decide (num n) = false := by simp [hn]
      have HE2 : Hid (lookE l c n = 2) := mkH (by unfold lookE; rw [if_neg (by simpa using hc), if_pos hn])
      have HK2 : Hid (lookK l c n = false) := mkH (by unfold lookK; simp [hn])
      clear hc hn
      go_wp2_with (first
        | (go_at_call 26; refine (isMade_yes HX0.out.bx).mono ?_; rintro e1 w1 ⟨rfl, h⟩; have h2 := h.symm; clear h; subst h2)
        | (go_at_call 27; refine (isNumber_any _ _).mono ?_; rintro e1 w1 ⟨rfl, h⟩; have h2 := h.symm; clear h; subst h2)
        | (refine wpList_st rfl (ty := 34) (x := .tmp 6) (y := .tmp 24) (cs := ZP) rfl rfl rfl (HB.out) infoZ rfl one_ZP ?_))
      refine ret_ctt 6 7 8 34 rfl w.heap.size rfl rfl rfl (load_bx (P := Tryz.prog) (HB.out.row rfl) Tryz.underlying34 rfl infoZ) rfl ?_
      exact LookP.err HK2.out HE2.out (bel_setRow HG.out (Nat.le_refl _) _)
  · have dc1 : decide (num c) = false := by simp [hc]
    have HE2 : Hid (lookE l c n = 2) := mkH (by unfold lookE; rw [if_pos hc])
    have HK2 : Hid (lookK l c n = false) := mkH (by unfold lookK; simp [hc])
    clear hc
    go_wp2_with (first
      | (go_at_call 26; refine (isMade_yes HX0.out.bx).mono ?_; rintro e1 w1 ⟨rfl, h⟩; have h2 := h.symm; clear h; subst h2)
      | (go_at_call 27; refine (isNumber_any _ _).mono ?_; rintro e1 w1 ⟨rfl, h⟩; have h2 := h.symm; clear h; subst h2)
      | (refine wpList_st rfl (ty := 34) (x := .tmp 6) (y := .tmp 24) (cs := ZP) rfl rfl rfl (HB.out) infoZ rfl one_ZP ?_))
    refine ret_ctt 6 7 8 34 rfl w.heap.size rfl rfl rfl (load_bx (P := Tryz.prog) (HB.out.row rfl) Tryz.underlying34 rfl infoZ) rfl ?_
    exact LookP.err HK2.out HE2.out (bel_setRow HG.out (Nat.le_refl _) _)

set_option maxHeartbeats 1000000 in
theorem last_any {w : World} {F : Nat → Prop} {T Mb : Nat} {l : List E} (ht : Tb w F T Mb l) (c : Int) (hcw : (Lit.int .i64 c).wf = true) :
    Calls Tryz.prog 16 #[.pointer (some ⟨T, 0, none⟩), .int .i64 c] w fun e w' => e = .returned (.int .i64 (lastN l c)) ∧ w' = w := by
  obtain ⟨xs, hxs, hx⟩ := ht
  obtain ⟨A, hA7, hA1, hA0, -, hl1, r, ga, gc, da, dc, ra, rc, hAe, hrm, hcn, hrr⟩ := look_ans hx hxs hcw
  have HX := mkH hx
  have cT0 : w.cell? ⟨T, 0, none⟩ = some (.map (some Mb)) := hx.bx.cell 0
  obtain ⟨L, hL⟩ : ∃ L, lastN l c = L := ⟨_, rfl⟩
  rw [hL] at hAe ⊢
  rw [hAe] at hl1
  have hfi : ∀ W : World, (Instr.field 69 (.agg #[.int .i64 L, .int .i64 r.err, .int .i64 r.seq, .int .i64 r.n, .slice ga r.got.length gc, .slice da r.data.length dc, .slice ra r.about.length rc]) 0).run Tryz.prog W = .ok (.int .i64 L) W := fun _ => by kernel_rfl
  clear hxs hx hA7 hA1 hA0 hL hAe hrm hcn hrr
  go_enter Tryz.func16, Tryz.ntmps16
  go_wp2_with (first
    | (go_at_call 26; refine (isMade_yes HX.out.bx).mono ?_; rintro e1 w1 ⟨rfl, h⟩; have h2 := h.symm; clear h; subst h2))
  go_ret
  exact ⟨rfl, rfl⟩
end Go.Proofs.YtenkgpfeifflnaaGreat.Sd
